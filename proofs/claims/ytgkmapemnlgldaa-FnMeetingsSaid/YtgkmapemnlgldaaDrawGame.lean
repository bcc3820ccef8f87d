/- The drawn games: l06Start, l06Play and DrawGame of the model give a valid board of at most sixteen places, a position of it, and jumps that can be played from it, at most eleven. Of codes of at most 1048576 bytes. -/
import Derived.Test.YtgkmapemnlgldaaDraws
import Derived.Test.YtgkmapemnlgldaaGames
import Derived.Test.YtgkmapemnlgldaaJumps
namespace Go.Proofs.Ytgkmapemnlgldaa
open Go.RowKit
set_option linter.unusedVariables false
set_option linter.unusedSimpArgs false
theorem once_is {w0 : World} {a : Option Addr} {len cap p : Nat} (hcode : CodeAt w0 a len) (n : Int) (h0 : 0 < n) (h1 : n ≤ 4294967296) (w : World) (hd : Dr w0 a len cap p w) :
    Calls Try.prog 56 #[.pointer (some ⟨p, 0, none⟩), .int .i64 n] w (DrawBool w0 a len cap p w) := once hcode n w hd h0 h1
/-- What stands while the start is drawn: the board's block, the list of holes. -/
def HeldS (b : Nat) (x y z : Int) (B : Nat) (v : Value) (n : Nat) (xs : List Value) (w : World) : Prop := w.heap[b]? = some (.cells #[.int .i64 x, .int .i64 y, .int .i64 z] 25 (0, 0)) ∧ w.ownsRow B 3 1 v n xs
theorem closed_heldS {b : Nat} {x y z : Int} {B : Nat} {v : Value} {n : Nat} {xs : List Value} : Closed (HeldS b x y z B v n xs) := fun _ _ h k => ⟨closed_row b _ _ _ h.1 k, own_below h.2 k⟩
set_option maxHeartbeats 4000000 in
set_option maxRecDepth 100000 in
theorem startPos {w0 : World} {a : Option Addr} {len cap p N z : Nat} {W H : Int} (hcode : CodeAt w0 a len) (ho : Ok W H N z) (w : World) (hd : Dr w0 a len cap p w) :
    Calls Try.prog 52 #[.pointer (some ⟨p, 0, none⟩), .agg #[.int .i64 W, .int .i64 H, .int .i64 z]] w (SomePost w0 a len cap p z w) := by
  have HCO := Lib.hid hcode
  have HD := Lib.hid hd
  have hpw := Dr.lt hd
  have C1 := Lib.hid (fun w => specHoles ho w)
  have C2 := Lib.hid (fun w hd => somePos (cap := cap) (p := p) hcode ho w hd)
  have hz := ho.zbig
  have hN := ho.n49
  have HMEM : Hid (∀ k, k < (bitsOf N z).length → ∃ j, (bitsOf N z)[k]? = some j ∧ j < 49 ∧ bit z j = true) := fun k hk => by
    have hm := List.getElem_mem hk
    have := mem_bitsOf.1 hm
    exact ⟨_, List.getElem?_eq_getElem hk, by omega, this.2⟩
  have hn0 := bits_ne ho
  have hnle := bitsOf_le N z
  clear hd hcode ho
  go_enter Try.func52, Try.ntmps52
  go_wp2_with fail
  have hB : Below w.heap.size w (w.alloc (.cells #[.int .i64 W, .int .i64 H, .int .i64 z] 25)) := (Below.refl _ _).alloc (Nat.le_refl _) _
  have hQ0 : Hid ((w.alloc (.cells #[.int .i64 W, .int .i64 H, .int .i64 z] 25)).heap[w.heap.size]? = some (.cells #[.int .i64 W, .int .i64 H, .int .i64 z] 25 (0, 0))) := heap_alloc_new w _
  have HD1 := Lib.hid (HD.out.below hB)
  have HG1 := Lib.hid (grown_below hB (some p))
  generalize w.alloc (.cells #[.int .i64 W, .int .i64 H, .int .i64 z] 25) = W1 at *
  obtain ⟨c0, c1, c2, -, -, -⟩ := row_facts hQ0.out
  have hW1 : p < W1.heap.size := by have := hB.size; omega
  clear hB
  go_wp2_with fail
  refine (C1.out _).mono ?_
  rintro e w1 ⟨v, rfl, hown, hb1⟩
  have HD2 := Lib.hid (HD1.out.below hb1)
  have HG2 := Lib.hid (HG1.out.trans (grown_below hb1 (some p)))
  have HO := Lib.hid hown
  have HQ1 := Lib.hid (row_later hQ0.out hb1 (row_lt hQ0.out))
  clear hown hb1 c0 c1 c2 HD1 HG1 hQ0
  obtain ⟨xs, hxs⟩ : ∃ xs, bitsOf N z = xs := ⟨_, rfl⟩
  rw [hxs] at HO HMEM hn0 hnle
  obtain ⟨n, hn⟩ : ∃ n, xs.length = n := ⟨_, rfl⟩
  rw [hn] at HO HMEM hn0 hnle
  have HN := Lib.hid hn
  clear hxs hn
  obtain ⟨g, gc, rfl⟩ := Go.Joins.ownsRow_form HO.out hn0
  obtain ⟨q, hq⟩ : ∃ q, w.heap.size = q := ⟨_, rfl⟩
  rw [hq] at HQ1 hpw
  have hqp : ¬ q = p := by omega
  have e0 : ((n : Int) == 0) = false := by rw [beq_eq_false_iff_ne]; omega
  go_wp2_with fail
  refine (once_is (cap := cap) (p := p) HCO.out 3 (by omega) (by omega) _ HD2.out).mono ?_
  rintro e w2 ⟨x, rfl, hd2, hg2⟩
  have HD3 := Lib.hid hd2
  have HG3 := Lib.hid (HG2.out.trans hg2)
  have HQ3 := Lib.hid (row_grown HQ1.out hg2 hqp)
  have HO3 := Lib.hid (own_kept HO.out hg2 hW1)
  clear hd2 hg2 HD2 HG2 HQ1 HO
  cases x
  · have HS3 : Hid (HeldS q W H z W1.heap.size (.slice (some ⟨g, 0, none⟩) n gc) n (Ints xs) w2) := ⟨HQ3.out, HO3.out⟩
    clear HQ3 HO3
    generalize W1.heap.size = B at *
    go_wp2_with fail
    refine wp_region_from (HeldS q W H z B (.slice (some ⟨g, 0, none⟩) n gc) n (Ints xs)) (fun w' => Dr w0 a len cap p w' ∧ w.grownBy w' (some p)) (by kernel_rfl) (by kernel_rfl) closed_heldS (closed_dr.and closed_grown) (closed_heldS _ _ HS3.out (After.drew (After.refl _))) ((closed_dr.and closed_grown) _ _ ⟨HD3.out, HG3.out⟩ (After.drew (After.refl _))) ?_
    refine Script.load (i := 0) (v := ?_) rfl (by kernel_rfl) (by kernel_rfl) (fun _ _ _ h => h) (by kernel_rfl) ?_ ?_
    rotate_left
    · (intro wS hSw; obtain ⟨c0, c1, c2, -, -, -⟩ := row_facts hSw.1; go_simp; try with_reducible rfl)
    try simp only [Act.put, List.getElem_toArray, List.getElem_cons_succ, List.getElem_cons_zero, List.setIfInBounds_toArray, List.set_cons_zero, List.set_cons_succ]
    refine Script.load (i := 1) (v := ?_) rfl (by kernel_rfl) (by kernel_rfl) (fun _ _ _ h => h) (by kernel_rfl) ?_ ?_
    rotate_left
    · (intro wS hSw; obtain ⟨c0, c1, c2, -, -, -⟩ := row_facts hSw.1; go_simp; try with_reducible rfl)
    try simp only [Act.put, List.getElem_toArray, List.getElem_cons_succ, List.getElem_cons_zero, List.setIfInBounds_toArray, List.set_cons_zero, List.set_cons_succ]
    refine Script.load (i := 2) (v := ?_) rfl (by kernel_rfl) (by kernel_rfl) (fun _ _ _ h => h) (by kernel_rfl) ?_ ?_
    rotate_left
    · (intro wS hSw; obtain ⟨c0, c1, c2, -, -, -⟩ := row_facts hSw.1; go_simp; try with_reducible rfl)
    try simp only [Act.put, List.getElem_toArray, List.getElem_cons_succ, List.getElem_cons_zero, List.setIfInBounds_toArray, List.set_cons_zero, List.set_cons_succ]
    refine Script.load (i := 3) (v := ?_) rfl (by kernel_rfl) (by kernel_rfl) (fun _ _ _ h => h) (by kernel_rfl) ?_ ?_
    rotate_left
    · (intro wS hSw; obtain ⟨c0, c1, c2, -, -, -⟩ := row_facts hSw.1; go_simp; try with_reducible rfl)
    try simp only [Act.put, List.getElem_toArray, List.getElem_cons_succ, List.getElem_cons_zero, List.setIfInBounds_toArray, List.set_cons_zero, List.set_cons_succ]
    refine Script.load (i := 4) (v := ?_) rfl (by kernel_rfl) (by kernel_rfl) (fun _ _ _ h => h) (by kernel_rfl) ?_ ?_
    rotate_left
    · (intro wS hSw; obtain ⟨c0, c1, c2, -, -, -⟩ := row_facts hSw.1; go_simp; try with_reducible rfl)
    try simp only [Act.put, List.getElem_toArray, List.getElem_cons_succ, List.getElem_cons_zero, List.setIfInBounds_toArray, List.set_cons_zero, List.set_cons_succ]
    refine Script.load (i := 5) (v := ?_) rfl (by kernel_rfl) (by kernel_rfl) (fun _ _ _ h => h) (by kernel_rfl) ?_ ?_
    rotate_left
    · (intro wS hSw; obtain ⟨c0, c1, c2, -, -, -⟩ := row_facts hSw.1; go_simp; try with_reducible rfl)
    try simp only [Act.put, List.getElem_toArray, List.getElem_cons_succ, List.getElem_cons_zero, List.setIfInBounds_toArray, List.set_cons_zero, List.set_cons_succ]
    refine Script.oneG (i := 6) (fun v w' => (∃ x : Nat, x < n ∧ v = .int .i64 x) ∧ Dr w0 a len cap p w' ∧ w.grownBy w' (some p)) rfl (by kernel_rfl) (by kernel_rfl) (closed_heldS) (fun _ _ _ h k => ⟨h.1, closed_dr _ _ h.2.1 k, closed_grown _ _ h.2.2 k⟩) ?_
    intro wO6 hO6 hG6 K hK
    go_simp; go_at_call 55; refine (below (cap := cap) (p := p) HCO.out (n : Int) _ hG6.1 (by omega) (by omega)).mono ?_; rintro e wc ⟨x, hx, rfl, hd, hg⟩; refine hK.out _ _ ⟨row_grown hO6.1 hg hqp, own_kept hO6.2 hg hW1⟩ ⟨⟨x, by omega, rfl⟩, hd, hG6.2.trans hg⟩ ?_
    clear hK K
    try simp only [Act.put, List.getElem_toArray, List.getElem_cons_succ, List.getElem_cons_zero, List.setIfInBounds_toArray, List.set_cons_zero, List.set_cons_succ]
    obtain ⟨j, hj, hj49, hbit⟩ := HMEM.out x (by omega)
    obtain ⟨qq, hqi, hqn, q1, q2⟩ := pow_nat j hj49
    have hdr := drop_yes hbit
    have hwq : IntKind.i64.wrap (qq : Int) = (qq : Int) := IntWalk.i64_in _ (by omega)
    obtain ⟨u, hu⟩ : ∃ u, dropB z j = u := ⟨_, rfl⟩
    have HPU : Hid (Part u z) := by unfold Hid; rw [← hu]; exact part_drop (part_self z)
    rw [hu, hqn] at hdr
    have hub : u < 562949953421312 := by omega
    have hws : IntKind.i64.wrap ((z : Int) - (qq : Int)) = (u : Int) := by rw [show (z : Int) - (qq : Int) = (u : Int) by omega]; exact IntWalk.i64_in _ (by omega)
    have x0 : (0 : Int) ≤ (x : Int) := by omega
    have x1 : (x : Int) < (n : Int) := by omega
    have j0 : (0 : Int) ≤ (j : Int) := by omega
    have HJ : Hid ((Ints xs)[x]? = some (.int .i64 (j : Int))) := by unfold Hid; simp [Ints, hj]
    clear hu hbit hdr hqn hj
    refine Script.load (i := 7) (v := ?_) rfl (by kernel_rfl) (by kernel_rfl) (fun _ _ _ h => h) (by kernel_rfl) ?_ ?_
    rotate_left
    · (intro wS hSw; have hcx := own_cell hSw.2 x (by omega) _ HJ.out; go_simp; try with_reducible rfl)
    try simp only [Act.put, List.getElem_toArray, List.getElem_cons_succ, List.getElem_cons_zero, List.setIfInBounds_toArray, List.set_cons_zero, List.set_cons_succ]
    refine Script.load (i := 8) (v := ?_) rfl (by kernel_rfl) (by kernel_rfl) (fun _ _ _ h => h) (by kernel_rfl) ?_ ?_
    rotate_left
    · (intro wS hSw; have hcx := own_cell hSw.2 x (by omega) _ HJ.out; go_simp; try with_reducible rfl)
    try simp only [Act.put, List.getElem_toArray, List.getElem_cons_succ, List.getElem_cons_zero, List.setIfInBounds_toArray, List.set_cons_zero, List.set_cons_succ]
    refine Script.load (i := 9) (v := ?_) rfl (by kernel_rfl) (by kernel_rfl) (fun _ _ _ h => h) (by kernel_rfl) ?_ ?_
    rotate_left
    · (intro wS hSw; have hcx := own_cell hSw.2 x (by omega) _ HJ.out; go_simp; try with_reducible rfl)
    try simp only [Act.put, List.getElem_toArray, List.getElem_cons_succ, List.getElem_cons_zero, List.setIfInBounds_toArray, List.set_cons_zero, List.set_cons_succ]
    refine Script.load (i := 10) (v := ?_) rfl (by kernel_rfl) (by kernel_rfl) (fun _ _ _ h => h) (by kernel_rfl) ?_ ?_
    rotate_left
    · (intro wS hSw; have hcx := own_cell hSw.2 x (by omega) _ HJ.out; go_simp; try with_reducible rfl)
    try simp only [Act.put, List.getElem_toArray, List.getElem_cons_succ, List.getElem_cons_zero, List.setIfInBounds_toArray, List.set_cons_zero, List.set_cons_succ]
    refine Script.load (i := 11) (v := ?_) rfl (by kernel_rfl) (by kernel_rfl) (fun _ _ _ h => h) (by kernel_rfl) ?_ ?_
    rotate_left
    · (intro wS hSw; have hcx := own_cell hSw.2 x (by omega) _ HJ.out; go_simp; try with_reducible rfl)
    try simp only [Act.put, List.getElem_toArray, List.getElem_cons_succ, List.getElem_cons_zero, List.setIfInBounds_toArray, List.set_cons_zero, List.set_cons_succ]
    refine Script.done (by kernel_rfl) ?_
    intro wD hD hG
    have HS4 := Lib.hid hD
    have HD4 := Lib.hid hG.2.1
    have HG4 := Lib.hid hG.2.2
    clear hD hG HS3 HD3 HG3 hO6 hG6 hd hg
    go_wp2_with fail
    refine (below (cap := cap) (p := p) HCO.out (n : Int) _ HD4.out (by omega) (by omega)).mono ?_
    rintro e w5 ⟨y, hy, rfl, hd5, hg5⟩
    have HS5 : Hid (HeldS q W H z B (.slice (some ⟨g, 0, none⟩) n gc) n (Ints xs) w5) := ⟨row_grown HS4.out.1 hg5 hqp, own_kept HS4.out.2 hg5 hW1⟩
    have HD5 := Lib.hid hd5
    have HG5 := Lib.hid (HG4.out.trans hg5)
    clear hd5 hg5 HS4 HD4 HG4
    obtain ⟨i, hi, hi49, hbit2⟩ := HMEM.out y (by omega)
    have hcy := own_cell HS5.out.2 y (by omega) _ (show (Ints xs)[y]? = some (.int .i64 (i : Int)) by simp [Ints, hi])
    have y0 : (0 : Int) ≤ (y : Int) := by omega
    have y1 : (y : Int) < (n : Int) := by omega
    have i0 : (0 : Int) ≤ (i : Int) := by omega
    have hand := hand1
    clear hbit2 hi
    cases hb : bit u i
    · have hb1 : ((u : Int) / 2 ^ i % 2 == 1) = false := by rw [bit_int]; exact hb
      have hp : Hid (SomePost w0 a len cap p z w (.returned (.int .i64 u)) w5) := ⟨u, HPU.out, rfl, HD5.out, HG5.out⟩
      clear hb HD5 HG5 HS5
      go_wp2_with fail
      go_ret
      exact hp.out
    · have hb1 : ((u : Int) / 2 ^ i % 2 == 1) = true := by rw [bit_int]; exact hb
      have hdr2 := drop_yes hb
      obtain ⟨rr, hri, hrn, r1, r2⟩ := pow_nat i hi49
      rw [hri] at hb1
      obtain ⟨t, ht⟩ : ∃ t, dropB u i = t := ⟨_, rfl⟩
      have HPT : Hid (Part t z) := by unfold Hid; rw [← ht]; exact part_drop HPU.out
      rw [ht, hrn] at hdr2
      have hwr : IntKind.i64.wrap (rr : Int) = (rr : Int) := IntWalk.i64_in _ (by omega)
      have hwt : IntKind.i64.wrap ((u : Int) - (rr : Int)) = (t : Int) := by rw [show (u : Int) - (rr : Int) = (t : Int) by omega]; exact IntWalk.i64_in _ (by omega)
      clear hb ht hdr2 hrn
      go_wp2_with fail
      refine (once_is (cap := cap) (p := p) HCO.out 2 (by omega) (by omega) _ HD5.out).mono ?_
      rintro e w6 ⟨x', rfl, hd6, hg6⟩
      have HD6 := Lib.hid hd6
      have HG6 := Lib.hid (HG5.out.trans hg6)
      clear hd6 hg6 HD5 HG5 HS5 hcy
      cases x'
      · have hp : Hid (SomePost w0 a len cap p z w (.returned (.int .i64 u)) w6) := ⟨u, HPU.out, rfl, HD6.out, HG6.out⟩
        clear HD6 HG6
        go_wp2_with fail
        go_ret
        exact hp.out
      · have hp : Hid (SomePost w0 a len cap p z w (.returned (.int .i64 t)) w6) := ⟨t, HPT.out, rfl, HD6.out, HG6.out⟩
        clear HD6 HG6
        go_wp2_with fail
        go_ret
        exact hp.out
  · obtain ⟨c0, c1, c2, -, -, -⟩ := row_facts HQ3.out
    go_wp2_with fail
    refine (C2.out _ HD3.out).mono ?_
    rintro e w4 ⟨r, hr, rfl, hd4, hg4⟩
    have hp : Hid (SomePost w0 a len cap p z w (.returned (.int .i64 r)) w4) := ⟨r, hr, rfl, hd4, HG3.out.trans hg4⟩
    clear hd4 hg4 c0 c1 c2 HQ3 HO3 HD3 HG3
    go_wp2_with fail
    go_ret
    exact hp.out
theorem Held.grown {w w' : World} {base n p : Nat} {v : Value} {xs : List Ln} (h : Held w base v n xs) (hg : w.grownBy w' (some p)) (hp : p < base) : Held w' base v n xs := ⟨h.1, own_kept h.2 hg hp⟩
def PlayPost (w0 : World) (a : Option Addr) (len cap p : Nat) (W H Z P : Int) (m : Nat) (w : World) (e : Ending) (w' : World) : Prop :=
  ∃ (xs : List Ln) (n : Nat) (q : Int) (v : Value), xs.length = n ∧ n ≤ m ∧ runO (doB W H Z) P xs = some q ∧ e = .returned v ∧ w'.ownsRow w.heap.size 76 3 v n (lv xs) ∧ Dr w0 a len cap p w' ∧ w.grownBy w' (some p)
set_option maxHeartbeats 4000000 in
set_option maxRecDepth 100000 in
theorem playPos {w0 : World} {a : Option Addr} {len cap p : Nat} {W H Z P : Int} (hcode : CodeAt w0 a len) (hP : P ≤ 9223372036854775807) (m : Nat) (hm : m ≤ 60) (w : World) (hd : Dr w0 a len cap p w) :
    Calls Try.prog 54 #[.pointer (some ⟨p, 0, none⟩), .agg #[.int .i64 W, .int .i64 H, .int .i64 Z], .int .i64 P, .int .i64 m] w (PlayPost w0 a len cap p W H Z P m w) := by
  obtain ⟨i0, hi, hz0, hz1, hz2⟩ : ∃ i, Try.prog.info? 76 = some i ∧ i.zero = some (.agg #[.int .i64 0, .int .i64 0, .int .i64 0]) ∧ i.size = 3 ∧ i.bytes = 24 := ⟨_, by rfl, by rfl, by rfl, by rfl⟩
  have HCO := Lib.hid hcode
  have HD := Lib.hid hd
  have HP := Lib.hid hP
  have hpw := Dr.lt hd
  have C1 := Lib.hid (fun q hq w => specJumps W H Z q hq w)
  have C2 := Lib.hid (fun q f o t hq w => specDo W H Z q f o t hq w)
  clear hd hcode hP
  go_enter Try.func54, Try.ntmps54
  go_wp2_with fail
  have hB : Below w.heap.size w ((w.alloc (.cells #[.int .i64 W, .int .i64 H, .int .i64 Z] 25)).alloc (.cells #[] 76)) := ((Below.refl _ _).alloc (Nat.le_refl _) _).alloc (by simp) _
  have HQ0 : Hid (((w.alloc (.cells #[.int .i64 W, .int .i64 H, .int .i64 Z] 25)).alloc (.cells #[] 76)).heap[w.heap.size]? = some (.cells #[.int .i64 W, .int .i64 H, .int .i64 Z] 25 (0, 0))) := row_later (heap_alloc_new w _) ((Below.refl _ _).alloc (Nat.le_refl _) _) (by simp)
  have HD0 := Lib.hid (HD.out.below hB)
  have HG0 := Lib.hid (grown_below hB (some p))
  have hS : (w.alloc (.cells #[.int .i64 W, .int .i64 H, .int .i64 Z] 25)).heap.size = w.heap.size + 1 := by simp
  have HL0 : Hid (Held ((w.alloc (.cells #[.int .i64 W, .int .i64 H, .int .i64 Z] 25)).alloc (.cells #[] 76)) (w.heap.size + 1) (.slice (some ⟨w.heap.size + 1, 0, none⟩) 0 0) 0 []) := by
    refine ⟨rfl, ?_⟩
    rw [← hS]
    exact World.ownsRow_made _ #[] 0 (Nat.le_refl _) (by unfold maxLen; omega) rfl
  have hS2 : w.heap.size + 2 ≤ ((w.alloc (.cells #[.int .i64 W, .int .i64 H, .int .i64 Z] 25)).alloc (.cells #[] 76)).heap.size := by simp
  generalize (w.alloc (.cells #[.int .i64 W, .int .i64 H, .int .i64 Z] 25)).alloc (.cells #[] 76) = W1 at *
  obtain ⟨B, hBB⟩ : ∃ B, w.heap.size = B := ⟨_, rfl⟩
  rw [hBB] at HQ0 HL0 hpw hS2 ⊢
  have HBB := Lib.hid hBB
  clear hS hB hBB
  go_loopw [2, 9, 10] (fun s r i wr => ∃ (k : Nat) (q : Int) (v : Value) (xs : List Ln), k ≤ m ∧ i = .int .i64 k ∧ s = .int .i64 q ∧ v = r ∧ q ≤ 9223372036854775807 ∧ Hid (runO (doB W H Z) P xs = some q) ∧ Hid (Held wr (B + 1) v k xs) ∧ Hid (wr.heap[B]? = some (.cells #[.int .i64 W, .int .i64 H, .int .i64 Z] 25 (0, 0))) ∧ Hid (Dr w0 a len cap p wr) ∧ Hid (w.grownBy wr (some p)) ∧ B + 2 ≤ wr.heap.size) (fun _ _ i _ => m - (intOf i).toNat)
  case atStart => exact ⟨0, P, _, [], by omega, rfl, rfl, rfl, HP.out, rfl, HL0, HQ0, HD0, HG0, hS2⟩
  case round =>
    clear HL0 HQ0 HD0 HG0 hS2
    obtain ⟨k, q, v, xs, hk, rfl, rfl, rfl, hq, hrun, HL, HQ, HDr, HG, hsz⟩ := hrel
    by_cases hkm : k < m
    · have CX := Lib.hid (C1.out q hq)
      have CD := Lib.hid (fun f o t => C2.out q f o t hq)
      have MX : Hid (∀ l ∈ jumpsL W H Z q, jumpB W H Z q l = true) := fun l hl => jumpsL_mem.1 hl
      have hle := jumpsL_le W H Z q
      obtain ⟨ys, hys⟩ : ∃ ys, jumpsL W H Z q = ys := ⟨_, rfl⟩
      rw [hys] at CX MX hle
      obtain ⟨n, hn⟩ : ∃ n, ys.length = n := ⟨_, rfl⟩
      have HN := Lib.hid hn
      rw [hn] at hle
      clear hys hn
      have k1 : (k : Int) < (m : Int) := by omega
      obtain ⟨c0, c1, c2, -, -, -⟩ := row_facts HQ.out
      have hqp : ¬ B = p := by omega
      go_wp2_with fail
      refine (CX.out _).mono ?_
      rintro e w1 ⟨hv, rfl, hh, hb⟩
      rw [HN.out] at hh
      have HY := Lib.hid hh
      have HL1 := Lib.hid (HL.out.below hb)
      have HQ1 := Lib.hid (row_later HQ.out hb (row_lt HQ.out))
      have HD1 := Lib.hid (HDr.out.below hb)
      have HG1 := Lib.hid (HG.out.trans (grown_below hb (some p)))
      have hsz1 : B + 2 ≤ w1.heap.size := Nat.le_trans hsz hb.size
      obtain ⟨ga, gc, rfl⟩ := lines_form hh
      have hpR : p < wr.heap.size := by omega
      generalize wr.heap.size = R at *
      clear hh hb HL HQ HDr HG c0 c1 c2 CX
      by_cases h0 : n = 0
      · have hn0 : ((n : Int) == 0) = true := by rw [beq_iff_eq]; omega
        have hp : Hid (PlayPost w0 a len cap p W H Z P m w (.returned v) w1) := ⟨xs, k, q, v, HL1.out.1, by omega, hrun.out, rfl, own_base HL1.out.2 (by rw [HBB.out]; exact Nat.le_succ _), HD1.out, HG1.out⟩
        clear HL1 HQ1 HD1 HG1 HY
        go_wp2_with fail
        go_ret
        exact hp.out
      · have hn0 : ((n : Int) == 0) = false := by rw [beq_eq_false_iff_ne]; omega
        go_wp2_with fail
        refine (below (cap := cap) (p := p) HCO.out (n : Int) _ HD1.out (by omega) (by omega)).mono ?_
        rintro e w2 ⟨x, hx, rfl, hd2, hg2⟩
        have HY2 := Lib.hid (own_kept HY.out hg2 (by omega))
        have HL2 := Lib.hid (HL1.out.grown hg2 (by omega))
        have HQ2 := Lib.hid (row_grown HQ1.out hg2 hqp)
        have HD2 := Lib.hid hd2
        have HG2 := Lib.hid (HG1.out.trans hg2)
        have hsz2 : B + 2 ≤ w2.heap.size := Nat.le_trans hsz1 hg2.size
        clear hd2 hg2 HL1 HQ1 HD1 HG1 HY hsz1
        obtain ⟨⟨f, o, t⟩, hl⟩ : ∃ l, ys[x]? = some l := ⟨_, List.getElem?_eq_getElem (by rw [HN.out]; omega)⟩
        have hj := MX.out _ (List.mem_of_getElem? hl)
        have CY := Lib.hid (CD.out f o t)
        obtain ⟨x', hx', hb'⟩ := do_big (show (doB W H Z q (f, o, t)).2 = true by rw [do_ok]; exact hj)
        have hnext : Hid (runO (doB W H Z) P (xs ++ [(f, o, t)]) = some (x' : Int)) := by
          unfold Hid
          rw [runO_snoc, hrun.out]
          simp [stO, do_ok, hj, hx']
        have hdo : doB W H Z q (f, o, t) = ((x' : Int), true) := by rw [← hx', do_yes hj]
        rw [hdo] at CY
        obtain ⟨g, rfl⟩ := lines_at' HY2.out (by omega)
        obtain ⟨l0, l1, l2⟩ := line_cells HY2.out HN.out hl
        have x0 : (0 : Int) ≤ (x : Int) := by omega
        have hbl : Below w2.heap.size w2 (w2.alloc (.cells #[.int .i64 f, .int .i64 o, .int .i64 t] 76)) := (Below.refl _ _).alloc (Nat.le_refl _) _
        have HLa := Lib.hid (HL2.out.below hbl)
        have HQa := Lib.hid (row_later HQ2.out hbl (row_lt HQ2.out))
        have HDa := Lib.hid (HD2.out.below hbl)
        have HGa := Lib.hid (HG2.out.trans (grown_below hbl (some p)))
        have hrow : Hid ((w2.alloc (.cells #[.int .i64 f, .int .i64 o, .int .i64 t] 76)).heap[w2.heap.size]? = some (.cells #[.int .i64 f, .int .i64 o, .int .i64 t] 76 (0, 0))) := heap_alloc_new w2 _
        have hsza : B + 2 ≤ (w2.alloc (.cells #[.int .i64 f, .int .i64 o, .int .i64 t] 76)).heap.size := Nat.le_trans hsz2 hbl.size
        obtain ⟨c0, c1, c2, -, -, -⟩ := row_facts HQa.out
        obtain ⟨r0, r1, r2, -, -, -⟩ := row_facts hrow.out
        clear hj hl hdo hx' hbl HL2 HQ2 HD2 HG2
        go_wp2_with fail
        clear l0 l1 l2 HY2
        generalize w2.alloc (.cells #[.int .i64 f, .int .i64 o, .int .i64 t] 76) = wa at *
        refine (CY.out _).mono ?_
        rintro e wb ⟨rfl, hb⟩
        have HLb := Lib.hid (HLa.out.below hb)
        have HQb := Lib.hid (row_later HQa.out hb (row_lt HQa.out))
        have HDb := Lib.hid (HDa.out.below hb)
        have HGb := Lib.hid (HGa.out.trans (grown_below hb (some p)))
        obtain ⟨s0, s1, s2, -, -, -⟩ := row_facts (row_later hrow.out hb (row_lt hrow.out))
        have hszb : B + 2 ≤ wb.heap.size := Nat.le_trans hsza hb.size
        have hbz : Hid (B + 1 ≤ wb.heap.size) := by unfold Hid; omega
        have hln : Hid (k ≤ 1000000000) := by unfold Hid; omega
        clear hb HLa HQa HDa HGa hrow c0 c1 c2 r0 r1 r2 CY
        go_wp2_with (at_builtin; refine wpList_append_line rfl (.tmp 39) (.tmp 41) 51 rfl (B + 1) 76 i0 (.agg #[.int .i64 0, .int .i64 0, .int .i64 0]) Try.underlying51 hi hz0 hz1 hz2 rfl _ _ xs rfl HLb.out.2 _ rfl rfl hln.out hbz.out ?_; intro g' cap' w7 hown' hgrow hb2 hat)
        have hlx : xs.length = k := HLb.out.1
        have HL7 : Hid (Held w7 (B + 1) (.slice (some ⟨g', 0, none⟩) (k + 1) cap') (k + 1) (xs ++ [(f, o, t)])) := ⟨by rw [List.length_append, hlx]; rfl, hown'⟩
        have HQ7 := Lib.hid ((hb2.block B (Nat.lt_succ_self _)).trans HQb.out)
        have HD7 := Lib.hid (HDb.out.kept hb2 (by omega))
        have HG7 := Lib.hid (grown_then HGb.out hb2 (by rw [HBB.out]; exact Nat.le_succ _))
        have hsz7 : B + 2 ≤ w7.heap.size := Nat.le_trans hszb hb2.size
        clear hown' hgrow hb2 hat hlx HLb HQb HDb HGb s0 s1 s2
        go_wp2_with fail
        go_roundw
        case rel => exact ⟨k + 1, x', _, _, by omega, by go_num, rfl, rfl, by omega, hnext, HL7, HQ7, HD7, HG7, hsz7⟩
        case measure => simp [intOf]; omega
    · obtain rfl : k = m := by omega
      have hp : Hid (PlayPost w0 a len cap p W H Z P k w (.returned v) wr) := ⟨xs, k, q, v, HL.out.1, Nat.le_refl _, hrun.out, rfl, own_base HL.out.2 (by rw [HBB.out]; exact Nat.le_succ _), HDr.out, HG.out⟩
      clear HL HQ HDr HG
      go_wp2_with fail
      go_ret
      exact hp.out
def DrawGamePost (w : World) (e : Ending) (w' : World) : Prop :=
  ∃ (W H : Int) (N z r n : Nat) (xs : List Ln) (q : Int) (v : Value), Ok W H N z ∧ N ≤ 16 ∧ Part r z ∧ xs.length = n ∧ n ≤ 11 ∧ runO (doB W H z) r xs = some q ∧ e = .returned (.tuple #[bd W H z, .int .i64 r, v]) ∧ w'.ownsRow w.heap.size 76 3 v n (lv xs) ∧ Below w.heap.size w w'
/-- What stands while a game is drawn, beside the board's block: the cursor, the result's block. -/
def HeldG (w0 : World) (a : Option Addr) (len cap p b : Nat) (x y z : Int) (w : World) : Prop := Dr w0 a len cap p w ∧ w.heap[b]? = some (.cells #[.int .i64 x, .int .i64 y, .int .i64 z] 25 (0, 0))
theorem closed_heldG {w0 : World} {a : Option Addr} {len cap p b : Nat} {x y z : Int} : Closed (HeldG w0 a len cap p b x y z) := fun _ _ h k => ⟨h.1.below k, closed_row b _ _ _ h.2 k⟩
def GameAt (B m : Nat) (W H : Int) (z r : Nat) (v : Value) (w : World) : Prop := ∃ (xs : List Ln) (n : Nat) (q : Int), xs.length = n ∧ n ≤ m ∧ runO (doB W H z) r xs = some q ∧ w.ownsRow B 76 3 v n (lv xs)
theorem closed_game {B m : Nat} {W H : Int} {z r : Nat} {v : Value} : Closed (GameAt B m W H z r v) := fun _ _ ⟨xs, n, q, h1, h2, h3, h4⟩ k => ⟨xs, n, q, h1, h2, h3, own_below h4 k⟩
theorem GameAt.kept {w w' : World} {B m b : Nat} {W H : Int} {z r : Nat} {v : Value} (h : GameAt B m W H z r v w) (hg : w.grownBy w' (some b)) (hb : b < B) : GameAt B m W H z r v w' := by
  obtain ⟨xs, n, q, h1, h2, h3, h4⟩ := h
  exact ⟨xs, n, q, h1, h2, h3, own_kept h4 hg hb⟩
theorem GameAt.base {w : World} {B B' m : Nat} {W H : Int} {z r : Nat} {v : Value} (h : GameAt B m W H z r v w) (hb : B' ≤ B) : GameAt B' m W H z r v w := by
  obtain ⟨xs, n, q, h1, h2, h3, h4⟩ := h
  exact ⟨xs, n, q, h1, h2, h3, own_base h4 hb⟩
theorem GameAt.more {w : World} {B m m' : Nat} {W H : Int} {z r : Nat} {v : Value} (h : GameAt B m W H z r v w) (hm : m ≤ m') : GameAt B m' W H z r v w := by
  obtain ⟨xs, n, q, h1, h2, h3, h4⟩ := h
  exact ⟨xs, n, q, h1, Nat.le_trans h2 hm, h3, h4⟩
theorem grown_set3 (w : World) (b : Nat) (x y z : Value) : w.grownBy (set3 w b x y z) (some b) := (grown_set w b 0 x).trans ((grown_set _ b 1 y).trans (grown_set _ b 2 z))
end Go.Proofs.Ytgkmapemnlgldaa
