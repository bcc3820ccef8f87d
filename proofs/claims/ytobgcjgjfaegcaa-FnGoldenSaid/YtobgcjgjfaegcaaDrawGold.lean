/- The drawn golden numbers: l11Gold and DrawGolds of the model give numbers whose parts are at most 6765 in magnitude. Of codes of at most 1048576 bytes. -/
import Derived.Test.YtobgcjgjfaegcaaDraws
import Derived.Test.YtobgcjgjfaegcaaGoldD
namespace Go.Proofs.Ytobgcjgjfaegcaa
open Go.RowKit
set_option linter.unusedVariables false
set_option linter.unusedSimpArgs false
def GoodG (a b : Int) : Prop := (-6765 ≤ a ∧ a ≤ 6765) ∧ -6765 ≤ b ∧ b ≤ 6765
def GoldPost (w0 : World) (a : Option Addr) (len cap p : Nat) (w : World) (e : Ending) (w' : World) : Prop :=
  ∃ x y : Int, GoodG x y ∧ e = .returned (.agg #[.int .i64 x, .int .i64 y]) ∧ Dr w0 a len cap p w' ∧ w.grownBy w' (some p)
theorem bg_grown {T : TypeId} {w w' : World} {p b : Nat} {x y : Int} (h : Bg T b x y w) (hg : w.grownBy w' (some p)) (hne : b ≠ p) : Bg T b x y w' := row_grown h hg hne
set_option maxHeartbeats 1000000 in
set_option maxRecDepth 100000 in
theorem drawGold {w0 : World} {a : Option Addr} {len cap p : Nat} (hcode : CodeAt w0 a len) (w : World) (hd : Dr w0 a len cap p w) :
    Calls Try.prog 28 #[.pointer (some ⟨p, 0, none⟩)] w (GoldPost w0 a len cap p w) := by
  have HCO := Lib.hid hcode
  have HD := Lib.hid hd
  have hpw := Dr.lt hd
  have hw0 := hd.2.1.size
  clear hd hcode
  go_enter Try.func28, Try.ntmps28
  go_wp2_with fail
  have hB : Below w.heap.size w (w.alloc (.cells #[.int .i64 0, .int .i64 0] 25)) := (Below.refl _ _).alloc (Nat.le_refl _) _
  have HD1 := Lib.hid (HD.out.below hB)
  have HG1 := Lib.hid (grown_below hB (some p))
  have R1 : Hid (Bg 25 w.heap.size 0 0 (w.alloc (.cells #[.int .i64 0, .int .i64 0] 25))) := heap_alloc_new w _
  clear hB HD
  generalize w.alloc (.cells #[.int .i64 0, .int .i64 0] 25) = W1 at *
  have hqp : ¬ w.heap.size = p := by omega
  have hpq : ¬ p = w.heap.size := by omega
  refine (once HCO.out 3 _ HD1.out (by omega) (by omega)).mono ?_
  rintro e w1 ⟨x, rfl, hd, hg⟩
  have HD2 := Lib.hid hd
  have HG2 := Lib.hid (HG1.out.trans hg)
  have R2 := Lib.hid (bg_grown R1.out hg hqp)
  clear hd hg HD1 HG1 R1
  cases x
  · go_wp2_with fail
    refine (below HCO.out 41 _ HD2.out (by omega) (by omega)).mono ?_
    rintro e w2 ⟨i, hi, rfl, hd, hg⟩
    have HD3 := Lib.hid hd
    have HG3 := Lib.hid (HG2.out.trans hg)
    have R3 := Lib.hid (bg_grown R2.out hg hqp)
    clear hd hg HD2 HG2 R2
    go_wp2_with fail
    refine (below HCO.out 41 _ HD3.out (by omega) (by omega)).mono ?_
    rintro e w3 ⟨j, hj, rfl, hd, hg⟩
    have HD4 := Lib.hid hd
    have HG4 := Lib.hid (HG3.out.trans hg)
    have R4 := Lib.hid (bg_grown R3.out hg hqp)
    clear hd hg HD3 HG3 R3
    obtain ⟨c0, c1, f0, f1⟩ := two_facts R4.out
    go_wp2_with fail
    exact bodyPost_ret (v := .agg #[.int .i64 ((i : Int) - 20), .int .i64 ((j : Int) - 20)]) (by simp [results, Try.results28, go_sem, c0, c1]) rfl ⟨_, _, ⟨by omega, by omega⟩, rfl, (HD4.out.set ⟨hw0, hpq⟩).set ⟨hw0, hpq⟩, grown_set_new (grown_set_new HG4.out (Nat.le_refl _)) (Nat.le_refl _)⟩
  · go_wp2_with fail
    refine (below HCO.out 21 _ HD2.out (by omega) (by omega)).mono ?_
    rintro e w2 ⟨i, hi, rfl, hd, hg⟩
    have HD3 := Lib.hid hd
    have HG3 := Lib.hid (HG2.out.trans hg)
    have R3 := Lib.hid (bg_grown R2.out hg hqp)
    clear hd hg HD2 HG2 R2
    have KP := Lib.hid (fun w => specPowerOf (i : Int) w)
    have hgood : GoodG (pw i).1 (pw i).2 := pw_gold i (by omega)
    rw [pow_yes i (by omega)] at KP
    obtain ⟨⟨x, y⟩, hxy⟩ : ∃ r, pw i = r := ⟨_, rfl⟩
    rw [hxy] at KP hgood
    have HGD := Lib.hid hgood
    clear hxy hgood
    go_wp2_with fail
    refine (KP.out _).mono ?_
    rintro e w3 ⟨rfl, hb⟩
    have HD4 := Lib.hid (HD3.out.below hb)
    have HG4 := Lib.hid (HG3.out.trans (grown_below hb (some p)))
    have R4 := Lib.hid (R3.out.later hb)
    clear hb HD3 HG3 R3 KP
    obtain ⟨c0, c1, f0, f1⟩ := two_facts R4.out
    go_wp2_with fail
    exact bodyPost_ret (v := .agg #[.int .i64 x, .int .i64 y]) (by simp [results, Try.results28, go_sem, c0, c1]) rfl ⟨x, y, HGD.out, rfl, (HD4.out.set ⟨hw0, hpq⟩).set ⟨hw0, hpq⟩, grown_set_new (grown_set_new HG4.out (Nat.le_refl _)) (Nat.le_refl _)⟩
/-- Golden numbers in blocks of their own, in memory that is new since w0. -/
def Bs (T : TypeId) (l : List (Nat × Int × Int)) (w0 w : World) : Prop := (∀ x ∈ l, Bg T x.1 x.2.1 x.2.2 w) ∧ Below w0.heap.size w0 w
theorem Bs.later {T : TypeId} {l : List (Nat × Int × Int)} {w0 w w' : World} (h : Bs T l w0 w) (hb : Below w.heap.size w w') : Bs T l w0 w' := ⟨fun x hx => (h.1 x hx).later hb, h.2.trans (hb.mono h.2.size)⟩
theorem Bs.more {T : TypeId} {l : List (Nat × Int × Int)} {w0 w : World} (x y : Int) (h : Bs T l w0 w) : Bs T ((w.heap.size, x, y) :: l) w0 (w.alloc (.cells #[.int .i64 x, .int .i64 y] T)) := by
  have hb : Below w.heap.size w (w.alloc (.cells #[.int .i64 x, .int .i64 y] T)) := (Below.refl _ _).alloc (Nat.le_refl _) _
  refine ⟨fun z hz => ?_, (h.later hb).2⟩
  rcases List.mem_cons.1 hz with rfl | hz
  · exact heap_alloc_new w _
  · exact (h.1 z hz).later hb
theorem Bs.at {T : TypeId} {l : List (Nat × Int × Int)} {w0 w : World} {q : Nat} {x y : Int} (h : Bs T l w0 w) (hm : (q, x, y) ∈ l) : w.cell? ⟨q, 0, none⟩ = some (.int .i64 x) ∧ w.cell? ⟨q, 1, none⟩ = some (.int .i64 y) ∧ w.frozen? ⟨q, 0, none⟩ = false ∧ w.frozen? ⟨q, 1, none⟩ = false := two_facts (h.1 _ hm)
theorem Bs.sub {T : TypeId} {l l' : List (Nat × Int × Int)} {w0 w : World} (h : Bs T l w0 w) (hm : ∀ x ∈ l', x ∈ l) : Hid (Bs T l' w0 w) := ⟨fun x hx => h.1 x (hm x hx), h.2⟩
def GoldsPost (w : World) (e : Ending) (w' : World) : Prop :=
  ∃ a b c d x y : Int, GoodG a b ∧ GoodG c d ∧ GoodG x y ∧ e = .returned (.tuple #[.agg #[.int .i64 a, .int .i64 b], .agg #[.int .i64 c, .int .i64 d], .agg #[.int .i64 x, .int .i64 y]]) ∧ Below w.heap.size w w'
/-- What stands while the numbers are drawn: the cursor, the three results' blocks. -/
def HeldG (w0 : World) (a : Option Addr) (len cap p b : Nat) (w : World) : Prop := Dr w0 a len cap p w ∧ Bg 25 b 0 0 w ∧ Bg 25 (b + 1) 0 0 w ∧ Bg 25 (b + 2) 0 0 w
theorem closed_bg {T : TypeId} {b : Nat} {x y : Int} : Closed (Bg T b x y) := closed_row b _
theorem closed_heldG {w0 : World} {a : Option Addr} {len cap p b : Nat} : Closed (HeldG w0 a len cap p b) := fun _ _ h k => ⟨h.1.below k, h.2.1.later k, h.2.2.1.later k, h.2.2.2.later k⟩
/-- The results' blocks. -/
def ResG (b : Nat) (x1 y1 x2 y2 x3 y3 : Int) (w0 w : World) : Prop := Bg 25 b x1 y1 w ∧ Bg 25 (b + 1) x2 y2 w ∧ Bg 25 (b + 2) x3 y3 w ∧ Below w0.heap.size w0 w
theorem closed_resG {b : Nat} {x1 y1 x2 y2 x3 y3 : Int} {w0 : World} : Closed (ResG b x1 y1 x2 y2 x3 y3 w0) := fun _ _ h k => ⟨h.1.later k, h.2.1.later k, h.2.2.1.later k, h.2.2.2.trans (Below.mono k h.2.2.2.size)⟩
set_option maxHeartbeats 2000000 in
set_option maxRecDepth 100000 in
theorem drawGolds {a : Option Addr} {len cap : Nat} (w : World) (hcode : CodeAt w a len) :
    Calls Try.prog 11 #[.slice a len cap] w (GoldsPost w) := by
  have HCO := Lib.hid hcode
  clear hcode
  go_enter Try.func11, Try.ntmps11
  go_wp2_with fail
  have R0 : Hid (ResG w.heap.size 0 0 0 0 0 0 w (((w.alloc (.cells #[.int .i64 0, .int .i64 0] 25)).alloc (.cells #[.int .i64 0, .int .i64 0] 25)).alloc (.cells #[.int .i64 0, .int .i64 0] 25))) := bg3_new 0 0 0 0 w
  have hsz : w.heap.size + 3 ≤ (((w.alloc (.cells #[.int .i64 0, .int .i64 0] 25)).alloc (.cells #[.int .i64 0, .int .i64 0] 25)).alloc (.cells #[.int .i64 0, .int .i64 0] 25)).heap.size := by simp
  have HC1 := Lib.hid (HCO.out.below R0.out.2.2.2)
  have HB0 := Lib.hid R0.out.2.2.2
  generalize (((w.alloc (.cells #[.int .i64 0, .int .i64 0] 25)).alloc (.cells #[.int .i64 0, .int .i64 0] 25)).alloc (.cells #[.int .i64 0, .int .i64 0] 25)) = W1 at *
  refine (curNew _ HC1.out).mono ?_
  rintro e w1 ⟨p, rfl, hd⟩
  have hp := hd.1
  have h1 := hd.2.1
  have H1 : Hid (HeldG W1 a len cap p w.heap.size w1) := ⟨hd, (row_later R0.out.1 h1 (by omega)), (row_later R0.out.2.1 h1 (by omega)), (row_later R0.out.2.2.1 h1 (by omega))⟩
  have n0 : w.heap.size ≠ p := by omega
  have n1 : w.heap.size + 1 ≠ p := by omega
  have n2 : w.heap.size + 2 ≠ p := by omega
  clear hd h1 R0
  go_wp2_with fail
  refine (drawGold HC1.out _ H1.out.1).mono ?_
  rintro e w2 ⟨x1, y1, hg1, rfl, hd, hg⟩
  have G1 := Lib.hid hg1
  have H2 : Hid (HeldG W1 a len cap p w.heap.size w2) := ⟨hd, bg_grown H1.out.2.1 hg n0, bg_grown H1.out.2.2.1 hg n1, bg_grown H1.out.2.2.2 hg n2⟩
  have hlp := Dr.lt hd
  clear hd hg hg1 H1
  go_wp2_with fail
  have H3 := Lib.hid (closed_heldG _ (w2.alloc (.cells #[.int .i64 x1, .int .i64 y1] 25)) H2.out ((Below.refl _ _).alloc (Nat.le_refl _) _))
  have Q3 : Hid (Bg 25 w2.heap.size x1 y1 (w2.alloc (.cells #[.int .i64 x1, .int .i64 y1] 25))) := heap_alloc_new w2 _
  have hs2 : w.heap.size + 3 ≤ w2.heap.size := Nat.le_trans hsz H2.out.1.2.1.size
  have hs3 : w2.heap.size < (w2.alloc (.cells #[.int .i64 x1, .int .i64 y1] 25)).heap.size := by simp
  clear H2
  generalize w2.alloc (.cells #[.int .i64 x1, .int .i64 y1] 25) = w3 at *
  generalize w2.heap.size = q1 at *
  have m1 : q1 ≠ p := by omega
  refine (drawGold HC1.out _ H3.out.1).mono ?_
  rintro e w4 ⟨x2, y2, hg2, rfl, hd, hg⟩
  have G2 := Lib.hid hg2
  have H4 : Hid (HeldG W1 a len cap p w.heap.size w4) := ⟨hd, bg_grown H3.out.2.1 hg n0, bg_grown H3.out.2.2.1 hg n1, bg_grown H3.out.2.2.2 hg n2⟩
  have Q4 := Lib.hid (bg_grown Q3.out hg m1)
  have hs4 : q1 < w4.heap.size := Nat.lt_of_lt_of_le hs3 hg.size
  have hlp2 := Dr.lt hd
  clear hd hg hg2 H3 Q3 hs3
  go_wp2_with fail
  have hbl : Below w4.heap.size w4 (w4.alloc (.cells #[.int .i64 x2, .int .i64 y2] 25)) := (Below.refl _ _).alloc (Nat.le_refl _) _
  have H5 := Lib.hid (closed_heldG _ _ H4.out hbl)
  have Q5 := Lib.hid (Q4.out.later hbl)
  have P5 : Hid (Bg 25 w4.heap.size x2 y2 (w4.alloc (.cells #[.int .i64 x2, .int .i64 y2] 25))) := heap_alloc_new w4 _
  have m2 : w4.heap.size ≠ p := by omega
  clear H4 Q4 hbl hlp hlp2
  generalize w4.alloc (.cells #[.int .i64 x2, .int .i64 y2] 25) = w5 at *
  generalize w4.heap.size = q2 at *
  have e1 : ¬ q1 = w.heap.size := by omega
  have e2 : ¬ q1 = w.heap.size + 1 := by omega
  have e3 : ¬ q1 = w.heap.size + 2 := by omega
  have e4 : ¬ q2 = w.heap.size := by omega
  have e5 : ¬ q2 = w.heap.size + 1 := by omega
  have e6 : ¬ q2 = w.heap.size + 2 := by omega
  refine wp_region_from (fun w' => Bg 25 q1 x1 y1 w' ∧ Bg 25 q2 x2 y2 w') (HeldG W1 a len cap p w.heap.size) (by kernel_rfl) (by kernel_rfl) (closed_bg.and closed_bg) closed_heldG ⟨Q5.out, P5.out⟩ (closed_heldG _ _ H5.out (After.drew (After.refl _))) ?_
  refine Script.load (i := 0) (v := ?_) rfl (by kernel_rfl) (by kernel_rfl) (fun _ _ _ h => h) (by kernel_rfl) ?_ ?_
  rotate_left
  · (intro wS hSw; obtain ⟨c0, c1, -, -⟩ := two_facts hSw.1; obtain ⟨d0, d1, -, -⟩ := two_facts hSw.2; go_simp; try with_reducible rfl)
  try simp only [Act.put, List.getElem_toArray, List.getElem_cons_succ, List.getElem_cons_zero, List.setIfInBounds_toArray, List.set_cons_zero, List.set_cons_succ]
  refine Script.load (i := 1) (v := ?_) rfl (by kernel_rfl) (by kernel_rfl) (fun _ _ _ h => h) (by kernel_rfl) ?_ ?_
  rotate_left
  · (intro wS hSw; obtain ⟨c0, c1, -, -⟩ := two_facts hSw.1; obtain ⟨d0, d1, -, -⟩ := two_facts hSw.2; go_simp; try with_reducible rfl)
  try simp only [Act.put, List.getElem_toArray, List.getElem_cons_succ, List.getElem_cons_zero, List.setIfInBounds_toArray, List.set_cons_zero, List.set_cons_succ]
  refine Script.load (i := 2) (v := ?_) rfl (by kernel_rfl) (by kernel_rfl) (fun _ _ _ h => h) (by kernel_rfl) ?_ ?_
  rotate_left
  · (intro wS hSw; obtain ⟨c0, c1, -, -⟩ := two_facts hSw.1; obtain ⟨d0, d1, -, -⟩ := two_facts hSw.2; go_simp; try with_reducible rfl)
  try simp only [Act.put, List.getElem_toArray, List.getElem_cons_succ, List.getElem_cons_zero, List.setIfInBounds_toArray, List.set_cons_zero, List.set_cons_succ]
  refine Script.oneG (i := 3) (fun v w' => ∃ x3 y3 : Int, GoodG x3 y3 ∧ v = .agg #[.int .i64 x3, .int .i64 y3] ∧ HeldG W1 a len cap p w.heap.size w') rfl (by kernel_rfl) (by kernel_rfl) (closed_bg.and closed_bg) (fun _ _ _ h k => h.imp fun x3 h => h.imp fun y3 h => ⟨h.1, h.2.1, closed_heldG _ _ h.2.2 k⟩) ?_
  intro wO3 hO3 hG3 K hK
  go_simp; go_at_call 28; refine (drawGold (cap := cap) (p := p) HC1.out _ hG3.1).mono ?_; rintro e wc ⟨x3, y3, hg3, rfl, hd, hg⟩; refine hK.out _ _ ⟨bg_grown hO3.1 hg m1, bg_grown hO3.2 hg m2⟩ ⟨x3, y3, hg3, rfl, hd, bg_grown hG3.2.1 hg n0, bg_grown hG3.2.2.1 hg n1, bg_grown hG3.2.2.2 hg n2⟩ ?_
  clear hK K
  try simp only [Act.put, List.getElem_toArray, List.getElem_cons_succ, List.getElem_cons_zero, List.setIfInBounds_toArray, List.set_cons_zero, List.set_cons_succ]
  refine Script.oneG (i := 4) (fun _ w' => ResG w.heap.size x1 y1 0 0 0 0 w w') rfl (by kernel_rfl) (by kernel_rfl) (closed_bg.and closed_bg) (fun _ => closed_resG) ?_
  intro wO4 hO4 hG4 K hK
  obtain ⟨-, -, -, -, hh⟩ := hG4; obtain ⟨z0, z1, f0, f1⟩ := two_facts hh.2.1; go_simp; refine hK.out undef _ ⟨bg_other hO4.1 e1, bg_other hO4.2 e4⟩ ⟨bg_set hh.2.1, bg_other hh.2.2.1 (by omega), bg_other hh.2.2.2 (by omega), set_below (set_below (HB0.out.trans (hh.1.2.1.mono HB0.out.size)) (Nat.le_refl _)) (Nat.le_refl _)⟩ ?_; clear z0 z1 f0 f1 hh
  clear hK K
  try simp only [Act.put, List.getElem_toArray, List.getElem_cons_succ, List.getElem_cons_zero, List.setIfInBounds_toArray, List.set_cons_zero, List.set_cons_succ]
  refine Script.oneG (i := 5) (fun _ w' => ResG w.heap.size x1 y1 x2 y2 0 0 w w') rfl (by kernel_rfl) (by kernel_rfl) (closed_bg.and closed_bg) (fun _ => closed_resG) ?_
  intro wO5 hO5 hG5 K hK
  obtain ⟨z0, z1, f0, f1⟩ := two_facts hG5.2.1; go_simp; refine hK.out undef _ ⟨bg_other hO5.1 e2, bg_other hO5.2 e5⟩ ⟨bg_other hG5.1 (by omega), bg_set hG5.2.1, bg_other hG5.2.2.1 (by omega), set_below (set_below hG5.2.2.2 (by omega)) (by omega)⟩ ?_; clear z0 z1 f0 f1
  clear hK K
  try simp only [Act.put, List.getElem_toArray, List.getElem_cons_succ, List.getElem_cons_zero, List.setIfInBounds_toArray, List.set_cons_zero, List.set_cons_succ]
  refine Script.oneG (i := 6) (fun _ w' => ResG w.heap.size x1 y1 x2 y2 x3 y3 w w') rfl (by kernel_rfl) (by kernel_rfl) (closed_bg.and closed_bg) (fun _ => closed_resG) ?_
  intro wO6 hO6 hG6 K hK
  obtain ⟨z0, z1, f0, f1⟩ := two_facts hG6.2.2.1; go_simp; refine hK.out undef _ ⟨bg_other hO6.1 e3, bg_other hO6.2 e6⟩ ⟨bg_other hG6.1 (by omega), bg_other hG6.2.1 (by omega), bg_set hG6.2.2.1, set_below (set_below hG6.2.2.2 (by omega)) (by omega)⟩ ?_; clear z0 z1 f0 f1
  clear hK K
  try simp only [Act.put, List.getElem_toArray, List.getElem_cons_succ, List.getElem_cons_zero, List.setIfInBounds_toArray, List.set_cons_zero, List.set_cons_succ]
  refine Script.done (by kernel_rfl) ?_
  intro wD hD hG
  have HF := Lib.hid hG
  have G3 := Lib.hid hg3
  clear hD hG hg3 hd hg hO3 hG3 hO4 hO5 hG5 hO6 hG6 H5 Q5 P5
  obtain ⟨a0, a1, -, -⟩ := two_facts HF.out.1
  obtain ⟨b0, b1, -, -⟩ := two_facts HF.out.2.1
  obtain ⟨c0, c1, -, -⟩ := two_facts HF.out.2.2.1
  go_wp2_with fail
  exact bodyPost_ret (v := .tuple #[.agg #[.int .i64 x1, .int .i64 y1], .agg #[.int .i64 x2, .int .i64 y2], .agg #[.int .i64 x3, .int .i64 y3]]) (by simp [results, Try.results11, go_sem, a0, a1, b0, b1, c0, c1]) rfl ⟨x1, y1, x2, y2, x3, y3, G1.out, G2.out, G3.out, rfl, HF.out.2.2.2⟩
end Go.Proofs.Ytobgcjgjfaegcaa
