/- Backwards, of the model: BackOf, CountBack, for every three ints and ints up to 2^63 - 1. -/
import Derived.Test.YtkenlighpelhiaaWayA
import Derived.Test.YtkenlighpelhiaaPegsAll
namespace Go.Proofs.Ytkenlighpelhiaa
open Go.RowKit
set_option linter.unusedVariables false
set_option linter.unusedSimpArgs false
set_option maxHeartbeats 2000000 in
set_option maxRecDepth 100000 in
theorem specBackOf (W H Z P : Int) (hP : P ≤ 9223372036854775807) (w : World) : Calls Try.prog 8 #[.agg #[.int .i64 W, .int .i64 H, .int .i64 Z], .int .i64 P] w (OwnInts (reachL true W H Z P) w) := by
  have C1 := Lib.hid (fun b (h : smallB W H Z = b) w => specSmall_is h w)
  have C2 := Lib.hid (fun b (h : posB W H Z P = b) w => specPos_is hP h w)
  cases h1 : smallB W H Z
  · have HG := Lib.hid (reach_no (back := true) (W := W) (H := H) (Z := Z) (P := P) (by rw [h1]; rfl))
    have C1 := Lib.hid (C1.out _ h1)
    clear h1
    rw [HG.out]
    go_enter Try.func8, Try.ntmps8
    go_wp2_with fail
    have B0 := Lib.hid (box_new W H Z w)
    generalize w.alloc (.cells #[.int .i64 W, .int .i64 H, .int .i64 Z] 26) = W1 at *
    obtain ⟨c0, c1, c2, hlt, hb1⟩ := B0.out
    go_wp2_with fail
    refine (C1.out _).mono ?_
    rintro e w1 ⟨rfl, hb⟩
    have B1 := Lib.hid (B0.out.later hb)
    have hwz := B1.out.2.2.2.2.size
    have hp : Hid (OwnInts [] w (.returned (.slice (some ⟨w1.heap.size, 0, none⟩) 0 0)) (w1.alloc (.cells #[] 3))) := ⟨_, rfl, World.ownsRow_made w1 #[] 0 hwz (by unfold maxLen; omega) rfl, B1.out.2.2.2.2.alloc hwz _⟩
    clear hb
    go_wp2_with fail
    go_ret
    exact hp.out
  have K1 := Lib.hid (C1.out _ h1)
  cases h2 : posB W H Z P
  · have HG := Lib.hid (reach_no (back := true) (W := W) (H := H) (Z := Z) (P := P) (by rw [h1, h2]; rfl))
    have K2 := Lib.hid (C2.out _ h2)
    clear h1 h2
    rw [HG.out]
    go_enter Try.func8, Try.ntmps8
    go_wp2_with fail
    have B0 := Lib.hid (box_new W H Z w)
    generalize w.alloc (.cells #[.int .i64 W, .int .i64 H, .int .i64 Z] 26) = W1 at *
    obtain ⟨c0, c1, c2, hlt, hb1⟩ := B0.out
    go_wp2_with fail
    refine (K1.out _).mono ?_
    rintro e w1 ⟨rfl, hb⟩
    have B1 := Lib.hid (B0.out.later hb)
    clear hb c0 c1 c2 hlt hb1
    obtain ⟨c0, c1, c2, hlt, hb1⟩ := B1.out
    go_wp2_with fail
    refine (K2.out _).mono ?_
    rintro e w2 ⟨rfl, hb⟩
    have B2 := Lib.hid (B1.out.later hb)
    have hwz := B2.out.2.2.2.2.size
    have hp : Hid (OwnInts [] w (.returned (.slice (some ⟨w2.heap.size, 0, none⟩) 0 0)) (w2.alloc (.cells #[] 3))) := ⟨_, rfl, World.ownsRow_made w2 #[] 0 hwz (by unfold maxLen; omega) rfl, B2.out.2.2.2.2.alloc hwz _⟩
    clear hb
    go_wp2_with fail
    go_ret
    exact hp.out
  · have HG := Lib.hid (reach_yes (back := true) h1 h2)
    have K2 := Lib.hid (C2.out _ h2)
    obtain ⟨M, hM, hM2, -, hseen⟩ := specSeenL true h1 h2
    have HS := Lib.hid (fun w => specL15Back hseen w)
    have HG : Hid (reachL true W H Z P = (List.range M).filter (seenB true W H Z P)) := by unfold Hid; rw [HG.out, seenL, hM2]
    rw [HG.out]
    generalize seenB true W H Z P = s at *
    clear h1 h2 hM2 hseen
    go_enter Try.func8, Try.ntmps8
    go_wp2_with fail
    have B0 := Lib.hid (box_new W H Z w)
    generalize w.alloc (.cells #[.int .i64 W, .int .i64 H, .int .i64 Z] 26) = W1 at *
    obtain ⟨c0, c1, c2, hlt, hb1⟩ := B0.out
    go_wp2_with fail
    refine (K1.out _).mono ?_
    rintro e w1 ⟨rfl, hb⟩
    have B1 := Lib.hid (B0.out.later hb)
    clear hb c0 c1 c2 hlt hb1
    obtain ⟨c0, c1, c2, hlt, hb1⟩ := B1.out
    go_wp2_with fail
    refine (K2.out _).mono ?_
    rintro e w2 ⟨rfl, hb⟩
    have B2 := Lib.hid (B1.out.later hb)
    clear hb c0 c1 c2 hlt hb1
    obtain ⟨c0, c1, c2, hlt, hb1⟩ := B2.out
    go_wp2_with fail
    refine (HS.out _).mono ?_
    rintro e w3 ⟨g, rfl, hh, hb⟩
    have B3 := Lib.hid (B2.out.later hb)
    have CX := Lib.hid (specMarks hM w3 hh)
    clear hb hh c0 c1 c2 hlt hb1
    go_wp2_with fail
    refine CX.out.mono ?_
    rintro e w4 ⟨v, rfl, hh, hb⟩
    have hwz := B3.out.2.2.2.2.size
    have hp : Hid (OwnInts ((List.range M).filter s) w (.returned v) w4) := ⟨v, rfl, own_base hh hwz, B3.out.2.2.2.2.trans (hb.mono hwz)⟩
    clear hh hb
    go_wp2_with fail
    go_ret
    exact hp.out
set_option maxRecDepth 100000 in
theorem specCountBack (W H Z P : Int) (hP : P ≤ 9223372036854775807) (w : World) : Calls Try.prog 23 #[.agg #[.int .i64 W, .int .i64 H, .int .i64 Z], .int .i64 P] w (QI ((reachL true W H Z P).length : Int) w) := by
  have CR := Lib.hid (fun w => specBackOf W H Z P hP w)
  generalize reachL true W H Z P = l at *
  clear hP
  go_enter Try.func23, Try.ntmps23
  go_wp2_with fail
  have B0 := Lib.hid (box_new W H Z w)
  generalize w.alloc (.cells #[.int .i64 W, .int .i64 H, .int .i64 Z] 26) = W1 at *
  obtain ⟨c0, c1, c2, hlt, hb1⟩ := B0.out
  go_wp2_with fail
  refine (CR.out _).mono ?_
  rintro e w1 ⟨v, rfl, hh, hb⟩
  obtain ⟨va, vc, rfl⟩ := one_form hh
  have B1 := Lib.hid (B0.out.later hb)
  clear hb hh
  go_wp2_with fail
  go_ret
  exact ⟨rfl, B1.out.2.2.2.2⟩
/-- All holes but one. -/
theorem but_hole {W H Z : Int} {k : Nat} (hk : k ∈ holesR W H Z) : ∃ N z r : Nat, Z = z ∧ Ok W H N z ∧ k < N ∧ bit z k = true ∧ r + 2 ^ k = z ∧ Part r z ∧ butB W H Z k = (r : Int) := by
  unfold holesR at hk
  split at hk
  · next h =>
    obtain ⟨N, z, rfl, ho⟩ := ok_of h
    rw [Int.toNat_natCast, ho.list] at hk
    obtain ⟨h1, h2⟩ := mem_bitsOf.1 hk
    have hd := drop_yes h2
    refine ⟨N, z, dropB z k, rfl, ho, h1, h2, hd, part_drop (part_self z), ?_⟩
    have hh : holeB W H z k = true := by rw [holeB_in ho h1]; exact h2
    unfold butB
    rw [if_pos hh, Int.toNat_natCast, Int.toNat_natCast]
  · cases hk
def startL (W H Z G : Int) : List Nat := (holesR W H Z).filter fun (k : Nat) => reachB false W H Z (butB W H Z k) G
theorem startL_no {W H Z G : Int} (h : (smallB W H Z && posB W H Z G) = false) : startL W H Z G = [] := by
  unfold startL
  rw [List.filter_eq_nil_iff]
  intro k _ hr
  simp only [reachB, Bool.and_eq_true] at hr
  rw [hr.1.1.1, hr.1.2] at h
  cases h
/-- A list of ints that grows beside marks and a list of ints that are read. -/
structure BkSt (w0 : World) (W H Z : Int) (gs M : Nat) (s : Nat → Bool) (ha : Option Addr) (m hc : Nat) (hs : List Nat) (v : Value) (out : List Nat) (w : World) : Prop where
  box : Box w0.heap.size W H Z w0 w
  marks : w.ownsRow w0.heap.size 4 1 (.slice (some ⟨gs, 0, none⟩) M M) M (bv M s)
  row : w.ownsRow w0.heap.size 3 1 (.slice ha m hc) m (Ints hs)
  len : hs.length = m
  out : w.ownsRow (w0.heap.size + 1) 3 1 v out.length (Ints out)
  mo : v.ownBlock ≠ some gs
  lo : ∀ g0, ha = some ⟨g0, 0, none⟩ → v.ownBlock ≠ some g0
  size : w0.heap.size + 1 ≤ w.heap.size
section
variable {w0 w w' : World} {W H Z : Int} {gs M m hc : Nat} {s : Nat → Bool} {ha : Option Addr} {hs out : List Nat} {v : Value}
theorem BkSt.later (h : BkSt w0 W H Z gs M s ha m hc hs v out w) (hb : Below w.heap.size w w') : BkSt w0 W H Z gs M s ha m hc hs v out w' :=
  ⟨h.box.later hb, own_below h.marks hb, own_below h.row hb, h.len, own_below h.out hb, h.mo, h.lo, Nat.le_trans h.size hb.size⟩
theorem BkSt.take (h : BkSt w0 W H Z gs M s ha m hc hs v out w) (hb : Below w.heap.size w w') {ha' : Option Addr} {m' hc' : Nat} {hs' : List Nat} (hl : w'.ownsRow w.heap.size 3 1 (.slice ha' m' hc') m' (Ints hs')) (hn : hs'.length = m') : BkSt w0 W H Z gs M s ha' m' hc' hs' v out w' := by
  refine ⟨h.box.later hb, own_below h.marks hb, own_base hl (Nat.le_trans (Nat.le_succ _) h.size), hn, own_below h.out hb, h.mo, fun g0 hg e => ?_, Nat.le_trans h.size hb.size⟩
  have h1 := (hl.lt g0 (by rw [hg]; rfl)).1
  have h2 := (h.out.lt g0 e).2
  omega
theorem BkSt.push (h : BkSt w0 W H Z gs M s ha m hc hs v out w) {g cap x : Nat} {e : TypeId}
    (hown : w'.ownsRow (w0.heap.size + 1) 3 1 (.slice (some ⟨g, 0, none⟩) (out.length + 1) cap) (out.length + 1) (Ints (out ++ [x]))) (hgrow : (w.alloc (.cells #[.int .i64 (x : Int)] e)).grownBy w' v.ownBlock) (hb : Below (w0.heap.size + 1) w w') (hat : v.ownBlock = some g ∨ g = w.heap.size + 1) :
    BkSt w0 W H Z gs M s ha m hc hs (.slice (some ⟨g, 0, none⟩) (out.length + 1) cap) (out ++ [x]) w' := by
  have hba : Below w.heap.size w (w.alloc (.cells #[.int .i64 (x : Int)] e)) := (Below.refl _ _).alloc (Nat.le_refl _) _
  have hms := (h.marks.lt gs rfl).2
  refine ⟨h.box.kept hb (Nat.lt_succ_self _) (Nat.le_succ _), (own_below h.marks hba).kept hgrow (.inr fun e => h.mo e.symm), ?_, h.len, by rw [List.length_append]; exact hown, fun e => ?_, fun g0 hg e => ?_, Nat.le_trans h.size hb.size⟩
  · refine (own_below h.row hba).kept hgrow ?_
    rcases Go.Joins.ownsRow_forms h.row with ⟨h1, -⟩ | ⟨g', cap', h1⟩
    · left; injection h1 with h1 _ _; subst h1; rfl
    · right
      injection h1 with h1 _ _
      subst h1
      exact fun e => h.lo g' rfl e.symm
  · have hg' : g = gs := by simpa [Value.ownBlock] using e
    subst hg'
    rcases hat with h3 | h3
    · exact h.mo h3
    · omega
  · have hg' : g = g0 := by simpa [Value.ownBlock] using e
    subst hg'
    rcases hat with h3 | h3
    · exact h.lo g hg h3
    · have := (h.row.lt g (by rw [hg]; rfl)).2
      omega
end
theorem start_snoc (W H Z G : Int) {hs : List Nat} (i : Nat) {h : Nat} (hi : hs[i]? = some h) : (hs.take (i + 1)).filter (fun (k : Nat) => reachB false W H Z (butB W H Z k) G) = (hs.take i).filter (fun (k : Nat) => reachB false W H Z (butB W H Z k) G) ++ (if reachB false W H Z (butB W H Z h) G = true then [h] else []) := by
  rw [take_one hi, List.filter_append]
  congr 1
  cases hc : reachB false W H Z (butB W H Z h) G <;> simp [hc]
set_option maxHeartbeats 4000000 in
set_option maxRecDepth 100000 in
theorem specStarts (W H Z G : Int) (hG : G ≤ 9223372036854775807) (w : World) : Calls Try.prog 14 #[.agg #[.int .i64 W, .int .i64 H, .int .i64 Z], .int .i64 G] w (OwnInts (startL W H Z G) w) := by
  obtain ⟨j0, hj, jz0, jz1, jz2⟩ : ∃ i, Try.prog.info? 3 = some i ∧ i.zero = some (.int .i64 0) ∧ i.size = 1 ∧ i.bytes = 8 := ⟨_, by rfl, by rfl, by rfl, by rfl⟩
  have C1 := Lib.hid (fun w => specSmall W H Z w)
  have C2 := Lib.hid (fun w => specPos W H Z G hG w)
  have CH := Lib.hid (fun w => specHolesR W H Z w)
  cases hok : (smallB W H Z && posB W H Z G)
  · rw [startL_no hok]
    have hok2 := Lib.hid hok
    generalize smallB W H Z = s1 at *
    generalize posB W H Z G = s2 at *
    clear hok hG
    go_enter Try.func14, Try.ntmps14
    go_wp2_with fail
    have B00 := Lib.hid (box_new W H Z w)
    have hS : (w.alloc (.cells #[.int .i64 W, .int .i64 H, .int .i64 Z] 26)).heap.size = w.heap.size + 1 := by simp
    generalize w.alloc (.cells #[.int .i64 W, .int .i64 H, .int .i64 Z] 26) = W1 at *
    have HL0 : Hid ((W1.alloc (.cells #[] 3)).ownsRow (w.heap.size + 1) 3 1 (.slice (some ⟨w.heap.size + 1, 0, none⟩) 0 0) 0 (Ints [])) := by
      unfold Hid
      rw [← hS]
      exact World.ownsRow_made W1 #[] 0 (Nat.le_refl _) (by unfold maxLen; omega) rfl
    have B0 := Lib.hid (B00.out.later ((Below.refl _ _).alloc (Nat.le_refl _) (.cells #[] 3)))
    generalize W1.alloc (.cells #[] 3) = W2 at *
    clear B00 hS
    obtain ⟨c0, c1, c2, hlt, hb1⟩ := B0.out
    go_wp2_with fail
    refine (C1.out _).mono ?_
    rintro e w3 ⟨rfl, hb⟩
    have B3 := Lib.hid (B0.out.later hb)
    have HL3 := Lib.hid (own_below HL0.out hb)
    clear hb HL0 B0 c0 c1 c2 hlt hb1
    cases s1
    · have hp : Hid (OwnInts [] w (.returned (.slice (some ⟨w.heap.size + 1, 0, none⟩) 0 0)) w3) := ⟨_, rfl, own_base HL3.out (Nat.le_succ _), B3.out.2.2.2.2⟩
      go_wp2_with fail
      go_ret
      exact hp.out
    · have hs2 : s2 = false := by have := hok2.out; simpa using this
      subst hs2
      obtain ⟨c0, c1, c2, hlt, hb1⟩ := B3.out
      go_wp2_with fail
      refine (C2.out _).mono ?_
      rintro e w4 ⟨rfl, hb⟩
      have hp : Hid (OwnInts [] w (.returned (.slice (some ⟨w.heap.size + 1, 0, none⟩) 0 0)) w4) := ⟨_, rfl, own_base (own_below HL3.out hb) (Nat.le_succ _), (B3.out.later hb).2.2.2.2⟩
      clear hb c0 c1 c2 hlt hb1
      go_wp2_with fail
      go_ret
      exact hp.out
  · simp only [Bool.and_eq_true] at hok
    obtain ⟨h1, h3⟩ := hok
    rw [h1] at C1
    rw [h3] at C2
    obtain ⟨M, hM, hM2, -, hseen⟩ := specSeenL true h1 h3
    have CB := Lib.hid (fun w => specL15Back hseen w)
    obtain ⟨a, b, N, z, g, S⟩ := small5 h1 h3
    obtain ⟨rfl, rfl, rfl, rfl, ho, h16, hgp⟩ := S
    have hMN : 2 ^ N = M := by rw [← hM2, ← Int.natCast_mul, ho.nat.1, Int.toNat_natCast]
    have HMk : Hid (∀ k ∈ holesR (a : Int) b z, k < 49 ∧ ∃ r : Nat, r + 2 ^ k = z ∧ r < M ∧ butB (a : Int) b z k = (r : Int) ∧ seenB true (a : Int) b z g r = reachB false (a : Int) b z (r : Int) g) := fun k hk => by
      obtain ⟨N', z', r, e1, ho', hkN, hb', hr, hrp, hbut⟩ := but_hole hk
      obtain rfl : z = z' := by omega
      have h49 := ho'.n49
      refine ⟨by omega, r, hr, by rw [← hMN]; exact part_lt hrp ho.zlt, hbut, back_reach ho h16 hgp hrp⟩
    have hz := ho.zbig
    have hhl := holesR_len (a : Int) b z
    have HNx := Lib.hid (fun hs i h hi => start_snoc (a : Int) b z g (hs := hs) i (h := h) hi)
    unfold startL
    generalize seenB true (a : Int) b z g = s at *
    generalize holesR (a : Int) b z = hs at *
    obtain ⟨m, hm⟩ : ∃ m, hs.length = m := ⟨_, rfl⟩
    rw [hm] at hhl
    have HM := Lib.hid hm
    clear hm h1 h3 hseen hM2 hMN ho hgp hG h16
    go_enter Try.func14, Try.ntmps14
    go_wp2_with fail
    have B00 := Lib.hid (box_new a b z w)
    have hS : (w.alloc (.cells #[.int .i64 (a : Int), .int .i64 (b : Int), .int .i64 (z : Int)] 26)).heap.size = w.heap.size + 1 := by simp
    generalize w.alloc (.cells #[.int .i64 (a : Int), .int .i64 (b : Int), .int .i64 (z : Int)] 26) = W1 at *
    have HL0 : Hid ((W1.alloc (.cells #[] 3)).ownsRow (w.heap.size + 1) 3 1 (.slice (some ⟨w.heap.size + 1, 0, none⟩) 0 0) 0 (Ints [])) := by
      unfold Hid
      rw [← hS]
      exact World.ownsRow_made W1 #[] 0 (Nat.le_refl _) (by unfold maxLen; omega) rfl
    have B0 := Lib.hid (B00.out.later ((Below.refl _ _).alloc (Nat.le_refl _) (.cells #[] 3)))
    have hS2 : w.heap.size + 1 < (W1.alloc (.cells #[] 3)).heap.size := by simp; omega
    generalize W1.alloc (.cells #[] 3) = W2 at *
    clear B00 hS
    obtain ⟨c0, c1, c2, hlt, hb1⟩ := B0.out
    go_wp2_with fail
    refine (C1.out _).mono ?_
    rintro e w3 ⟨rfl, hb⟩
    have HL3 := Lib.hid (own_below HL0.out hb)
    have B3 := Lib.hid (B0.out.later hb)
    have hS3 : w.heap.size + 1 < w3.heap.size := Nat.lt_of_lt_of_le hS2 hb.size
    clear hb HL0 B0 c0 c1 c2 hlt hb1 hS2
    obtain ⟨c0, c1, c2, hlt, hb1⟩ := B3.out
    go_wp2_with fail
    refine (C2.out _).mono ?_
    rintro e w4 ⟨rfl, hb⟩
    have HL4 := Lib.hid (own_below HL3.out hb)
    have B4 := Lib.hid (B3.out.later hb)
    have hS4 : w.heap.size + 1 < w4.heap.size := Nat.lt_of_lt_of_le hS3 hb.size
    clear hb HL3 B3 c0 c1 c2 hlt hb1 hS3
    obtain ⟨c0, c1, c2, hlt, hb1⟩ := B4.out
    go_wp2_with fail
    refine (CB.out _).mono ?_
    rintro e w5 ⟨gs, rfl, hh, hb⟩
    have HS5 : Hid (BkSt w a b z gs M s none 0 0 [] (.slice (some ⟨w.heap.size + 1, 0, none⟩) 0 0) [] w5) := by
      refine ⟨B4.out.later hb, own_base hh (by omega), World.ownsRow_nil _ _ _ _, rfl, own_below HL4.out hb, fun e => ?_, fun g0 h => (by cases h), (B4.out.later hb).2.2.2.1⟩
      have h1 : w.heap.size + 1 = gs := by simpa [Value.ownBlock] using e
      have h2 := (hh.lt gs rfl).1
      omega
    clear hb hh HL4 B4 c0 c1 c2 hlt hb1 hS4
    obtain ⟨c0, c1, c2, hlt, hb1⟩ := HS5.out.box
    go_wp2_with fail
    refine (CH.out _).mono ?_
    rintro e w6 ⟨lv', rfl, hh, hb⟩
    rw [HM.out] at hh
    obtain ⟨ha, hc, rfl⟩ := one_form hh
    have HS6 := Lib.hid (HS5.out.take hb hh HM.out)
    clear hb hh HS5 c0 c1 c2 hlt hb1
    go_wp2_with fail
    go_loopw [5, 8] (fun u i wr => ∃ (k : Nat) (v : Value), k ≤ m ∧ i = .int .i64 k ∧ v = u ∧ Hid (BkSt w a b z gs M s ha m hc hs v ((hs.take k).filter (fun (k : Nat) => reachB false (a : Int) b z (butB (a : Int) b z k) g)) wr)) (fun _ i _ => m - (intOf i).toNat)
    case atStart => exact ⟨0, _, Nat.zero_le _, rfl, rfl, HS6⟩
    case round =>
      clear HS6
      obtain ⟨k, v, hk, rfl, rfl, HS⟩ := hrel
      by_cases hkn : k < m
      · have k0 : (0 : Int) ≤ (k : Int) := by omega
        have k1 : (k : Int) < (m : Int) := by omega
        obtain ⟨h, hh⟩ : ∃ h, hs[k]? = some h := ⟨_, List.getElem?_eq_getElem (by rw [HM.out]; exact hkn)⟩
        obtain ⟨hh49, r, hr, hrM, hbut, hmk⟩ := HMk.out h (List.mem_of_getElem? hh)
        obtain ⟨q1, e1, n1, l1, u1⟩ := pow_nat h hh49
        rw [n1] at hr
        have hqw : IntKind.i64.wrap (q1 : Int) = (q1 : Int) := IntWalk.i64_in _ (by omega)
        have hsub : IntKind.i64.wrap ((z : Int) - (q1 : Int)) = (r : Int) := by rw [show (z : Int) - (q1 : Int) = (r : Int) by omega]; exact IntWalk.i64_in _ (by omega)
        have HNX := Lib.hid (HNx.out hs k h hh)
        obtain ⟨c, hc'⟩ : ∃ c, reachB false (a : Int) b z (r : Int) g = c := ⟨_, rfl⟩
        rw [hbut, hc'] at HNX
        rw [hc'] at hmk
        obtain ⟨out0, hout⟩ : ∃ o, (hs.take k).filter (fun (k : Nat) => reachB false (a : Int) b z (butB (a : Int) b z k) g) = o := ⟨_, rfl⟩
        rw [hout] at HNX HS
        have hol : out0.length ≤ 49 := by
          rw [← hout]
          refine Nat.le_trans (List.length_filter_le ..) (Nat.le_trans (List.length_take_le' ..) (by rw [HM.out]; exact hhl))
        obtain ⟨gh, hha⟩ := one_block HS.out.row (by omega)
        have HC : Hid (∀ w' v' o', BkSt w a b z gs M s ha m hc hs v' o' w' → w'.cell? ⟨gh, k, none⟩ = some (.int .i64 (h : Int)) ∧ w'.cell? ⟨gs, r, none⟩ = some (.bool c)) := fun w' v' o' hS => by
          have h1 := hS.row
          rw [hha] at h1
          exact ⟨own_cell h1 k hkn _ (by simp [Ints, hh]), by rw [own_cell hS.marks r hrM _ (bv_get _ hrM), hmk]⟩
        subst hha
        have r0 : (0 : Int) ≤ (r : Int) := by omega
        have r1 : (r : Int) < (M : Int) := by omega
        clear hh hout n1 hr hbut hmk hc'
        go_wp2_with fail
        refine wp_region_script (by kernel_rfl) (by kernel_rfl) ?_
        refine Script.load (i := 0) (v := ?_) rfl (by kernel_rfl) (by kernel_rfl) (fun _ _ _ h => h) (by kernel_rfl) ?_ ?_
        rotate_left
        · (intro wS hSw; have hRS := HS.out.later (After.trans (After.drew (After.refl _)) hSw); obtain ⟨c0, c1, c2, hlt, hb1⟩ := hRS.box; obtain ⟨x0, x1⟩ := HC.out _ _ _ hRS; go_simp; try with_reducible rfl)
        try simp only [Act.put, List.getElem_toArray, List.getElem_cons_succ, List.getElem_cons_zero, List.setIfInBounds_toArray, List.set_cons_zero, List.set_cons_succ]
        refine Script.load (i := 1) (v := ?_) rfl (by kernel_rfl) (by kernel_rfl) (fun _ _ _ h => h) (by kernel_rfl) ?_ ?_
        rotate_left
        · (intro wS hSw; have hRS := HS.out.later (After.trans (After.drew (After.refl _)) hSw); obtain ⟨c0, c1, c2, hlt, hb1⟩ := hRS.box; obtain ⟨x0, x1⟩ := HC.out _ _ _ hRS; go_simp; try with_reducible rfl)
        try simp only [Act.put, List.getElem_toArray, List.getElem_cons_succ, List.getElem_cons_zero, List.setIfInBounds_toArray, List.set_cons_zero, List.set_cons_succ]
        refine Script.load (i := 2) (v := ?_) rfl (by kernel_rfl) (by kernel_rfl) (fun _ _ _ h => h) (by kernel_rfl) ?_ ?_
        rotate_left
        · (intro wS hSw; have hRS := HS.out.later (After.trans (After.drew (After.refl _)) hSw); obtain ⟨c0, c1, c2, hlt, hb1⟩ := hRS.box; obtain ⟨x0, x1⟩ := HC.out _ _ _ hRS; go_simp; try with_reducible rfl)
        try simp only [Act.put, List.getElem_toArray, List.getElem_cons_succ, List.getElem_cons_zero, List.setIfInBounds_toArray, List.set_cons_zero, List.set_cons_succ]
        refine Script.load (i := 3) (v := ?_) rfl (by kernel_rfl) (by kernel_rfl) (fun _ _ _ h => h) (by kernel_rfl) ?_ ?_
        rotate_left
        · (intro wS hSw; have hRS := HS.out.later (After.trans (After.drew (After.refl _)) hSw); obtain ⟨c0, c1, c2, hlt, hb1⟩ := hRS.box; obtain ⟨x0, x1⟩ := HC.out _ _ _ hRS; go_simp; try with_reducible rfl)
        try simp only [Act.put, List.getElem_toArray, List.getElem_cons_succ, List.getElem_cons_zero, List.setIfInBounds_toArray, List.set_cons_zero, List.set_cons_succ]
        refine Script.load (i := 4) (v := ?_) rfl (by kernel_rfl) (by kernel_rfl) (fun _ _ _ h => h) (by kernel_rfl) ?_ ?_
        rotate_left
        · (intro wS hSw; have hRS := HS.out.later (After.trans (After.drew (After.refl _)) hSw); obtain ⟨c0, c1, c2, hlt, hb1⟩ := hRS.box; obtain ⟨x0, x1⟩ := HC.out _ _ _ hRS; go_simp; try with_reducible rfl)
        try simp only [Act.put, List.getElem_toArray, List.getElem_cons_succ, List.getElem_cons_zero, List.setIfInBounds_toArray, List.set_cons_zero, List.set_cons_succ]
        refine Script.load (i := 5) (v := ?_) rfl (by kernel_rfl) (by kernel_rfl) (fun _ _ _ h => h) (by kernel_rfl) ?_ ?_
        rotate_left
        · (intro wS hSw; have hRS := HS.out.later (After.trans (After.drew (After.refl _)) hSw); obtain ⟨c0, c1, c2, hlt, hb1⟩ := hRS.box; obtain ⟨x0, x1⟩ := HC.out _ _ _ hRS; go_simp; try with_reducible rfl)
        try simp only [Act.put, List.getElem_toArray, List.getElem_cons_succ, List.getElem_cons_zero, List.setIfInBounds_toArray, List.set_cons_zero, List.set_cons_succ]
        refine Script.load (i := 6) (v := ?_) rfl (by kernel_rfl) (by kernel_rfl) (fun _ _ _ h => h) (by kernel_rfl) ?_ ?_
        rotate_left
        · (intro wS hSw; have hRS := HS.out.later (After.trans (After.drew (After.refl _)) hSw); obtain ⟨c0, c1, c2, hlt, hb1⟩ := hRS.box; obtain ⟨x0, x1⟩ := HC.out _ _ _ hRS; go_simp; try with_reducible rfl)
        try simp only [Act.put, List.getElem_toArray, List.getElem_cons_succ, List.getElem_cons_zero, List.setIfInBounds_toArray, List.set_cons_zero, List.set_cons_succ]
        refine Script.load (i := 7) (v := ?_) rfl (by kernel_rfl) (by kernel_rfl) (fun _ _ _ h => h) (by kernel_rfl) ?_ ?_
        rotate_left
        · (intro wS hSw; have hRS := HS.out.later (After.trans (After.drew (After.refl _)) hSw); obtain ⟨c0, c1, c2, hlt, hb1⟩ := hRS.box; obtain ⟨x0, x1⟩ := HC.out _ _ _ hRS; go_simp; try with_reducible rfl)
        try simp only [Act.put, List.getElem_toArray, List.getElem_cons_succ, List.getElem_cons_zero, List.setIfInBounds_toArray, List.set_cons_zero, List.set_cons_succ]
        refine Script.load (i := 8) (v := ?_) rfl (by kernel_rfl) (by kernel_rfl) (fun _ _ _ h => h) (by kernel_rfl) ?_ ?_
        rotate_left
        · (intro wS hSw; have hRS := HS.out.later (After.trans (After.drew (After.refl _)) hSw); obtain ⟨c0, c1, c2, hlt, hb1⟩ := hRS.box; obtain ⟨x0, x1⟩ := HC.out _ _ _ hRS; go_simp; try with_reducible rfl)
        try simp only [Act.put, List.getElem_toArray, List.getElem_cons_succ, List.getElem_cons_zero, List.setIfInBounds_toArray, List.set_cons_zero, List.set_cons_succ]
        refine Script.load (i := 9) (v := ?_) rfl (by kernel_rfl) (by kernel_rfl) (fun _ _ _ h => h) (by kernel_rfl) ?_ ?_
        rotate_left
        · (intro wS hSw; have hRS := HS.out.later (After.trans (After.drew (After.refl _)) hSw); obtain ⟨c0, c1, c2, hlt, hb1⟩ := hRS.box; obtain ⟨x0, x1⟩ := HC.out _ _ _ hRS; go_simp; try with_reducible rfl)
        try simp only [Act.put, List.getElem_toArray, List.getElem_cons_succ, List.getElem_cons_zero, List.setIfInBounds_toArray, List.set_cons_zero, List.set_cons_succ]
        refine Script.load (i := 10) (v := ?_) rfl (by kernel_rfl) (by kernel_rfl) (fun _ _ _ h => h) (by kernel_rfl) ?_ ?_
        rotate_left
        · (intro wS hSw; have hRS := HS.out.later (After.trans (After.drew (After.refl _)) hSw); obtain ⟨c0, c1, c2, hlt, hb1⟩ := hRS.box; obtain ⟨x0, x1⟩ := HC.out _ _ _ hRS; go_simp; try with_reducible rfl)
        try simp only [Act.put, List.getElem_toArray, List.getElem_cons_succ, List.getElem_cons_zero, List.setIfInBounds_toArray, List.set_cons_zero, List.set_cons_succ]
        refine Script.done (by kernel_rfl) ?_
        intro wD hD hG
        have HS2 := Lib.hid (HS.out.later (After.trans (After.drew (After.refl _)) hD))
        clear hD hG HS
        obtain ⟨x0, x1⟩ := HC.out _ _ _ HS2.out
        cases c
        · have HO : Hid ((hs.take (k + 1)).filter (fun (k : Nat) => reachB false (a : Int) b z (butB (a : Int) b z k) g) = out0) := by unfold Hid; rw [HNX.out]; simp
          rw [← HO.out] at HS2
          clear HNX hol x0 x1
          go_wp2_with fail
          go_roundw
          case rel => exact ⟨k + 1, v, by omega, by go_num, rfl, HS2⟩
          case measure => simp [intOf]; omega
        · have HO : Hid ((hs.take (k + 1)).filter (fun (k : Nat) => reachB false (a : Int) b z (butB (a : Int) b z k) g) = out0 ++ [h]) := by unfold Hid; rw [HNX.out]; simp
          have hbz := HS2.out.size
          have hon : out0.length ≤ 1000000000 := by omega
          obtain ⟨ol, holn⟩ : ∃ ol, out0.length = ol := ⟨_, rfl⟩
          have hown0 := HS2.out.out
          rw [holn] at hown0 hon
          have HPush := Lib.hid (fun w' g' cap ho hg hb hat => HS2.out.push (w' := w') (g := g') (cap := cap) (x := h) (e := 3) ho hg hb hat)
          rw [holn] at HPush
          clear HNX HS2 holn hol
          go_wp2_with (at_builtin; refine wpList_append_at rfl (.tmp 42) (.tmp 47) 24 rfl (w.heap.size + 1) 3 j0 (.int .i64 0) Try.underlying24 hj jz0 jz1 jz2 rfl _ _ out0 rfl hown0 _ rfl rfl hon hbz ?_; intro g' cap' w7 hown' hgrow hb2 hat)
          have HS7 := Lib.hid (HPush.out w7 g' cap' hown' hgrow hb2 hat)
          rw [← HO.out] at HS7
          clear hown' hgrow hb2 hat HPush hown0 x0 x1
          go_wp2_with fail
          go_roundw
          case rel => exact ⟨k + 1, _, by omega, by go_num, rfl, HS7⟩
          case measure => simp [intOf]; omega
      · obtain rfl : k = m := by omega
        have hfull : Hid (hs.take k = hs) := List.take_of_length_le (by rw [HM.out]; exact Nat.le_refl _)
        rw [hfull.out] at HS
        have hp : Hid (OwnInts (hs.filter (fun (k : Nat) => reachB false (a : Int) b z (butB (a : Int) b z k) g)) w (.returned v) wr) := ⟨v, rfl, own_base HS.out.out (Nat.le_succ _), HS.out.box.2.2.2.2⟩
        clear HS
        go_wp2_with fail
        go_ret
        exact hp.out
def solvL (W H Z : Int) : List Nat := if smallB W H Z = true then (holesR W H Z).filter (fun (k : Nat) => decide (0 < (finL W H Z (butB W H Z k)).length)) else []
theorem solv_snoc (W H Z : Int) {hs : List Nat} (i : Nat) {h : Nat} (hi : hs[i]? = some h) : (hs.take (i + 1)).filter (fun (k : Nat) => decide (0 < (finL W H Z (butB W H Z k)).length)) = (hs.take i).filter (fun (k : Nat) => decide (0 < (finL W H Z (butB W H Z k)).length)) ++ (if 0 < (finL W H Z (butB W H Z h)).length then [h] else []) := by
  rw [take_one hi, List.filter_append]
  congr 1
  by_cases hc : 0 < (finL W H Z (butB W H Z h)).length <;> simp [hc]
set_option maxHeartbeats 4000000 in
set_option maxRecDepth 100000 in
theorem specSolv (W H Z : Int) (w : World) : Calls Try.prog 16 #[.agg #[.int .i64 W, .int .i64 H, .int .i64 Z]] w (OwnInts (solvL W H Z) w) := by
  obtain ⟨j0, hj, jz0, jz1, jz2⟩ : ∃ i, Try.prog.info? 3 = some i ∧ i.zero = some (.int .i64 0) ∧ i.size = 1 ∧ i.bytes = 8 := ⟨_, by rfl, by rfl, by rfl, by rfl⟩
  have C1 := Lib.hid (fun w => specSmall W H Z w)
  have CH := Lib.hid (fun w => specHolesR W H Z w)
  have hhl := holesR_len W H Z
  have HMk : Hid (∀ k ∈ holesR W H Z, k < 49 ∧ ∃ z r : Nat, Z = (z : Int) ∧ z < 562949953421312 ∧ r + 2 ^ k = z ∧ butB W H Z k = (r : Int)) := fun k hk => by
    obtain ⟨N', z, r, rfl, ho', hkN, hb', hr, hrp, hbut⟩ := but_hole hk
    have h49 := ho'.n49
    exact ⟨by omega, z, r, rfl, ho'.zbig, hr, hbut⟩
  have HNx := Lib.hid (fun hs i h hi => solv_snoc W H Z (hs := hs) i (h := h) hi)
  have HFl := Lib.hid (fun (r : Nat) (h : (r : Int) ≤ 9223372036854775807) w => specFinals W H Z r h w)
  obtain ⟨res, hres⟩ : ∃ r, solvL W H Z = r := ⟨_, rfl⟩
  rw [hres]
  unfold solvL at hres
  cases hsm : smallB W H Z
  · rw [hsm] at C1 hres
    simp only [Bool.false_eq_true, if_false] at hres
    subst hres
    generalize holesR W H Z = hs at *
    obtain ⟨m, hm⟩ : ∃ m, hs.length = m := ⟨_, rfl⟩
    rw [hm] at hhl
    have HM := Lib.hid hm
    clear hm hsm HMk HNx HFl
    go_enter Try.func16, Try.ntmps16
    go_wp2_with fail
    have B00 := Lib.hid (box_new W H Z w)
    have hS : (w.alloc (.cells #[.int .i64 W, .int .i64 H, .int .i64 Z] 26)).heap.size = w.heap.size + 1 := by simp
    generalize w.alloc (.cells #[.int .i64 W, .int .i64 H, .int .i64 Z] 26) = W1 at *
    have HL0 : Hid ((W1.alloc (.cells #[] 3)).ownsRow (w.heap.size + 1) 3 1 (.slice (some ⟨w.heap.size + 1, 0, none⟩) 0 0) 0 (Ints [])) := by
      unfold Hid
      rw [← hS]
      exact World.ownsRow_made W1 #[] 0 (Nat.le_refl _) (by unfold maxLen; omega) rfl
    have B0 := Lib.hid (B00.out.later ((Below.refl _ _).alloc (Nat.le_refl _) (.cells #[] 3)))
    generalize W1.alloc (.cells #[] 3) = W2 at *
    clear B00 hS
    obtain ⟨c0, c1, c2, hlt, hb1⟩ := B0.out
    go_wp2_with fail
    refine (CH.out _).mono ?_
    rintro e w3 ⟨hv, rfl, hh, hb⟩
    rw [HM.out] at hh
    have B3 := Lib.hid (B0.out.later hb)
    have HL3 := Lib.hid (own_below HL0.out hb)
    obtain ⟨ha, hc, rfl⟩ := one_form hh
    clear hb hh HL0 B0 c0 c1 c2 hlt hb1
    go_wp2_with fail
    go_loopw [3, 5] (fun u i wr => i = .int .i64 0 ∧ u = .slice (some ⟨w.heap.size + 1, 0, none⟩) 0 0 ∧ Hid (wr.ownsRow (w.heap.size + 1) 3 1 (.slice (some ⟨w.heap.size + 1, 0, none⟩) 0 0) 0 (Ints [])) ∧ Hid (Box w.heap.size W H Z w wr)) (fun _ _ _ => 0)
    case atStart => exact ⟨rfl, rfl, HL3, B3⟩
    case round =>
      clear HL3 B3
      obtain ⟨rfl, rfl, HL3, B3⟩ := hrel
      by_cases h0 : 0 < m
      · have k1 : (0 : Int) < (m : Int) := by omega
        obtain ⟨c0, c1, c2, hlt, hb1⟩ := B3.out
        go_wp2_with fail
        refine (C1.out _).mono ?_
        rintro e w4 ⟨rfl, hb⟩
        have hp : Hid (OwnInts [] w (.returned (.slice (some ⟨w.heap.size + 1, 0, none⟩) 0 0)) w4) := ⟨_, rfl, own_base (own_below HL3.out hb) (Nat.le_succ _), (B3.out.later hb).2.2.2.2⟩
        clear hb HL3 B3 c0 c1 c2 hlt hb1
        go_wp2_with fail
        go_ret
        exact hp.out
      · obtain rfl : m = 0 := by omega
        have hp : Hid (OwnInts [] w (.returned (.slice (some ⟨w.heap.size + 1, 0, none⟩) 0 0)) wr) := ⟨_, rfl, own_base HL3.out (Nat.le_succ _), B3.out.2.2.2.2⟩
        clear HL3 B3
        go_wp2_with fail
        go_ret
        exact hp.out
  · rw [hsm] at C1 hres
    simp only [if_true] at hres
    have HRes := Lib.hid hres
    generalize holesR W H Z = hs at *
    obtain ⟨m, hm⟩ : ∃ m, hs.length = m := ⟨_, rfl⟩
    rw [hm] at hhl
    have HM := Lib.hid hm
    clear hm hsm hres
    go_enter Try.func16, Try.ntmps16
    go_wp2_with fail
    have B00 := Lib.hid (box_new W H Z w)
    have hS : (w.alloc (.cells #[.int .i64 W, .int .i64 H, .int .i64 Z] 26)).heap.size = w.heap.size + 1 := by simp
    generalize w.alloc (.cells #[.int .i64 W, .int .i64 H, .int .i64 Z] 26) = W1 at *
    have HL0 : Hid ((W1.alloc (.cells #[] 3)).ownsRow (w.heap.size + 1) 3 1 (.slice (some ⟨w.heap.size + 1, 0, none⟩) 0 0) 0 (Ints [])) := by
      unfold Hid
      rw [← hS]
      exact World.ownsRow_made W1 #[] 0 (Nat.le_refl _) (by unfold maxLen; omega) rfl
    have B0 := Lib.hid (B00.out.later ((Below.refl _ _).alloc (Nat.le_refl _) (.cells #[] 3)))
    have hS2 : w.heap.size + 1 < (W1.alloc (.cells #[] 3)).heap.size := by simp; omega
    generalize W1.alloc (.cells #[] 3) = W2 at *
    clear B00 hS
    obtain ⟨c0, c1, c2, hlt, hb1⟩ := B0.out
    go_wp2_with fail
    refine (CH.out _).mono ?_
    rintro e w3 ⟨hv, rfl, hh, hb⟩
    rw [HM.out] at hh
    obtain ⟨ha, hc, rfl⟩ := one_form hh
    have HS3 : Hid (TwoSt w W H Z (w.heap.size + 1) w.heap.size w.heap.size none 0 0 [] ha m hc hs (.slice (some ⟨w.heap.size + 1, 0, none⟩) 0 0) [] w3) := by
      refine ⟨own_below HL0.out hb, World.ownsRow_nil _ _ _ _, own_base hh (by omega), fun g0 hg e => ?_, B0.out.later hb, Nat.lt_succ_self _, (B0.out.later hb).2.2.2.1⟩
      have hg' := (by simpa [Value.ownBlock] using e : w.heap.size + 1 = g0)
      rcases hg with hg | hg
      · cases hg
      · have := (hh.lt g0 (by rw [hg]; rfl)).1
        omega
    clear hb hh HL0 B0 c0 c1 c2 hlt hb1
    go_wp2_with fail
    go_loopw [3, 5] (fun u i wr => ∃ (k : Nat) (v : Value), k ≤ m ∧ i = .int .i64 k ∧ v = u ∧ Hid (TwoSt w W H Z (w.heap.size + 1) w.heap.size w.heap.size none 0 0 [] ha m hc hs v ((hs.take k).filter (fun (k : Nat) => decide (0 < (finL W H Z (butB W H Z k)).length))) wr)) (fun _ i _ => m - (intOf i).toNat)
    case atStart => exact ⟨0, _, Nat.zero_le _, rfl, rfl, HS3⟩
    case round =>
      clear HS3
      obtain ⟨k, v, hk, rfl, rfl, HS⟩ := hrel
      by_cases hkn : k < m
      · have k0 : (0 : Int) ≤ (k : Int) := by omega
        have k1 : (k : Int) < (m : Int) := by omega
        obtain ⟨h, hh⟩ : ∃ h, hs[k]? = some h := ⟨_, List.getElem?_eq_getElem (by rw [HM.out]; exact hkn)⟩
        obtain ⟨hh49, z, r, rfl, hz, hr, hbut⟩ := HMk.out h (List.mem_of_getElem? hh)
        obtain ⟨q1, e1, n1, l1, u1⟩ := pow_nat h hh49
        rw [n1] at hr
        have hqw : IntKind.i64.wrap (q1 : Int) = (q1 : Int) := IntWalk.i64_in _ (by omega)
        have hsub : IntKind.i64.wrap ((z : Int) - (q1 : Int)) = (r : Int) := by rw [show (z : Int) - (q1 : Int) = (r : Int) by omega]; exact IntWalk.i64_in _ (by omega)
        have HNX := Lib.hid (HNx.out hs k h hh)
        have CF := Lib.hid (HFl.out r (by omega))
        rw [hbut] at HNX
        obtain ⟨fl, hfl⟩ : ∃ fl, finL W H (z : Int) (r : Int) = fl := ⟨_, rfl⟩
        rw [hfl] at HNX CF
        obtain ⟨nf, hnf⟩ : ∃ nf, fl.length = nf := ⟨_, rfl⟩
        rw [hnf] at HNX
        have HNF := Lib.hid hnf
        obtain ⟨out0, hout⟩ : ∃ o, (hs.take k).filter (fun (k : Nat) => decide (0 < (finL W H (z : Int) (butB W H (z : Int) k)).length)) = o := ⟨_, rfl⟩
        rw [hout] at HNX HS
        have hol : out0.length ≤ 49 := by
          rw [← hout]
          refine Nat.le_trans (List.length_filter_le ..) (Nat.le_trans (List.length_take_le' ..) (by rw [HM.out]; exact hhl))
        obtain ⟨gh, hha⟩ := one_block HS.out.hs (by omega)
        have HC : Hid (∀ w' v' o', TwoSt w W H (z : Int) (w.heap.size + 1) w.heap.size w.heap.size none 0 0 [] ha m hc hs v' o' w' → w'.cell? ⟨gh, k, none⟩ = some (.int .i64 (h : Int))) := fun w' v' o' hS => by
          have h1 := hS.hs
          rw [hha] at h1
          exact own_cell h1 k hkn _ (by simp [Ints, hh])
        subst hha
        obtain ⟨c0, c1, c2, hlt, hb1⟩ := HS.out.box
        clear hh hout n1 hr hbut hfl hnf HFl
        go_wp2_with fail
        refine (C1.out _).mono ?_
        rintro e w4 ⟨rfl, hb⟩
        have HS1 := Lib.hid (HS.out.later hb)
        clear hb HS c0 c1 c2 hlt hb1
        go_wp2_with fail
        refine wp_region_script (by kernel_rfl) (by kernel_rfl) ?_
        refine Script.load (i := 0) (v := ?_) rfl (by kernel_rfl) (by kernel_rfl) (fun _ _ _ h => h) (by kernel_rfl) ?_ ?_
        rotate_left
        · (intro wS hSw; have hRS := HS1.out.later (After.trans (After.drew (After.refl _)) hSw); obtain ⟨c0, c1, c2, -, -⟩ := hRS.box; have x0 := HC.out _ _ _ hRS; go_simp; try with_reducible rfl)
        try simp only [Act.put, List.getElem_toArray, List.getElem_cons_succ, List.getElem_cons_zero, List.setIfInBounds_toArray, List.set_cons_zero, List.set_cons_succ]
        refine Script.load (i := 1) (v := ?_) rfl (by kernel_rfl) (by kernel_rfl) (fun _ _ _ h => h) (by kernel_rfl) ?_ ?_
        rotate_left
        · (intro wS hSw; have hRS := HS1.out.later (After.trans (After.drew (After.refl _)) hSw); obtain ⟨c0, c1, c2, -, -⟩ := hRS.box; have x0 := HC.out _ _ _ hRS; go_simp; try with_reducible rfl)
        try simp only [Act.put, List.getElem_toArray, List.getElem_cons_succ, List.getElem_cons_zero, List.setIfInBounds_toArray, List.set_cons_zero, List.set_cons_succ]
        refine Script.load (i := 2) (v := ?_) rfl (by kernel_rfl) (by kernel_rfl) (fun _ _ _ h => h) (by kernel_rfl) ?_ ?_
        rotate_left
        · (intro wS hSw; have hRS := HS1.out.later (After.trans (After.drew (After.refl _)) hSw); obtain ⟨c0, c1, c2, -, -⟩ := hRS.box; have x0 := HC.out _ _ _ hRS; go_simp; try with_reducible rfl)
        try simp only [Act.put, List.getElem_toArray, List.getElem_cons_succ, List.getElem_cons_zero, List.setIfInBounds_toArray, List.set_cons_zero, List.set_cons_succ]
        refine Script.load (i := 3) (v := ?_) rfl (by kernel_rfl) (by kernel_rfl) (fun _ _ _ h => h) (by kernel_rfl) ?_ ?_
        rotate_left
        · (intro wS hSw; have hRS := HS1.out.later (After.trans (After.drew (After.refl _)) hSw); obtain ⟨c0, c1, c2, -, -⟩ := hRS.box; have x0 := HC.out _ _ _ hRS; go_simp; try with_reducible rfl)
        try simp only [Act.put, List.getElem_toArray, List.getElem_cons_succ, List.getElem_cons_zero, List.setIfInBounds_toArray, List.set_cons_zero, List.set_cons_succ]
        refine Script.load (i := 4) (v := ?_) rfl (by kernel_rfl) (by kernel_rfl) (fun _ _ _ h => h) (by kernel_rfl) ?_ ?_
        rotate_left
        · (intro wS hSw; have hRS := HS1.out.later (After.trans (After.drew (After.refl _)) hSw); obtain ⟨c0, c1, c2, -, -⟩ := hRS.box; have x0 := HC.out _ _ _ hRS; go_simp; try with_reducible rfl)
        try simp only [Act.put, List.getElem_toArray, List.getElem_cons_succ, List.getElem_cons_zero, List.setIfInBounds_toArray, List.set_cons_zero, List.set_cons_succ]
        refine Script.load (i := 5) (v := ?_) rfl (by kernel_rfl) (by kernel_rfl) (fun _ _ _ h => h) (by kernel_rfl) ?_ ?_
        rotate_left
        · (intro wS hSw; have hRS := HS1.out.later (After.trans (After.drew (After.refl _)) hSw); obtain ⟨c0, c1, c2, -, -⟩ := hRS.box; have x0 := HC.out _ _ _ hRS; go_simp; try with_reducible rfl)
        try simp only [Act.put, List.getElem_toArray, List.getElem_cons_succ, List.getElem_cons_zero, List.setIfInBounds_toArray, List.set_cons_zero, List.set_cons_succ]
        refine Script.load (i := 6) (v := ?_) rfl (by kernel_rfl) (by kernel_rfl) (fun _ _ _ h => h) (by kernel_rfl) ?_ ?_
        rotate_left
        · (intro wS hSw; have hRS := HS1.out.later (After.trans (After.drew (After.refl _)) hSw); obtain ⟨c0, c1, c2, -, -⟩ := hRS.box; have x0 := HC.out _ _ _ hRS; go_simp; try with_reducible rfl)
        try simp only [Act.put, List.getElem_toArray, List.getElem_cons_succ, List.getElem_cons_zero, List.setIfInBounds_toArray, List.set_cons_zero, List.set_cons_succ]
        refine Script.load (i := 7) (v := ?_) rfl (by kernel_rfl) (by kernel_rfl) (fun _ _ _ h => h) (by kernel_rfl) ?_ ?_
        rotate_left
        · (intro wS hSw; have hRS := HS1.out.later (After.trans (After.drew (After.refl _)) hSw); obtain ⟨c0, c1, c2, -, -⟩ := hRS.box; have x0 := HC.out _ _ _ hRS; go_simp; try with_reducible rfl)
        try simp only [Act.put, List.getElem_toArray, List.getElem_cons_succ, List.getElem_cons_zero, List.setIfInBounds_toArray, List.set_cons_zero, List.set_cons_succ]
        refine Script.load (i := 8) (v := ?_) rfl (by kernel_rfl) (by kernel_rfl) (fun _ _ _ h => h) (by kernel_rfl) ?_ ?_
        rotate_left
        · (intro wS hSw; have hRS := HS1.out.later (After.trans (After.drew (After.refl _)) hSw); obtain ⟨c0, c1, c2, -, -⟩ := hRS.box; have x0 := HC.out _ _ _ hRS; go_simp; try with_reducible rfl)
        try simp only [Act.put, List.getElem_toArray, List.getElem_cons_succ, List.getElem_cons_zero, List.setIfInBounds_toArray, List.set_cons_zero, List.set_cons_succ]
        refine Script.one (i := 9) rfl (by kernel_rfl) (by kernel_rfl) ?_
        intro wO hO K hK; have hSw := hO; have hRS := HS1.out.later (After.trans (After.drew (After.refl _)) hSw); obtain ⟨c0, c1, c2, -, -⟩ := hRS.box; have x0 := HC.out _ _ _ hRS; go_simp
        clear hSw
        go_at_call 40; refine (CF.out _).mono ?_; rintro e wv ⟨vf, rfl, hhf, hbc⟩; rw [HNF.out] at hhf; obtain ⟨fa, fc, rfl⟩ := one_form hhf
        refine hK.out _ _ hbc ?_
        clear hK K
        try simp only [Act.put, List.getElem_toArray, List.getElem_cons_succ, List.getElem_cons_zero, List.setIfInBounds_toArray, List.set_cons_zero, List.set_cons_succ]
        have HSv := Lib.hid (HS1.out.later (After.trans (After.drew (After.refl _)) (After.trans hO hbc)))
        clear c0 c1 c2 hRS x0
        refine Script.load (i := 10) (v := ?_) rfl (by kernel_rfl) (by kernel_rfl) (fun _ _ _ h => h) (by kernel_rfl) ?_ ?_
        rotate_left
        · (intro wS hSw; skip; go_simp; try with_reducible rfl)
        try simp only [Act.put, List.getElem_toArray, List.getElem_cons_succ, List.getElem_cons_zero, List.setIfInBounds_toArray, List.set_cons_zero, List.set_cons_succ]
        refine Script.load (i := 11) (v := ?_) rfl (by kernel_rfl) (by kernel_rfl) (fun _ _ _ h => h) (by kernel_rfl) ?_ ?_
        rotate_left
        · (intro wS hSw; skip; go_simp; try with_reducible rfl)
        try simp only [Act.put, List.getElem_toArray, List.getElem_cons_succ, List.getElem_cons_zero, List.setIfInBounds_toArray, List.set_cons_zero, List.set_cons_succ]
        refine Script.done (by kernel_rfl) ?_
        intro wD hD hG
        have HS2 := Lib.hid (HSv.out.later hD)
        clear hD hG HS1 HSv
        have x0 := HC.out _ _ _ HS2.out
        by_cases hn0 : 0 < nf
        · have HO : Hid ((hs.take (k + 1)).filter (fun (k : Nat) => decide (0 < (finL W H (z : Int) (butB W H (z : Int) k)).length)) = out0 ++ [h]) := by unfold Hid; rw [HNX.out, if_pos hn0]
          have hbz := HS2.out.size
          have hon : out0.length ≤ 1000000000 := by omega
          obtain ⟨ol, holn⟩ : ∃ ol, out0.length = ol := ⟨_, rfl⟩
          have hown0 := HS2.out.out
          rw [holn] at hown0 hon
          have HPush := Lib.hid (fun w' g' cap ho hg hb hat => HS2.out.push (w' := w') (g := g') (cap := cap) (x := h) (e := 3) ho hg hb hat)
          rw [holn] at HPush
          clear HNX HS2 holn hol
          go_wp2_with (at_builtin; refine wpList_append_at rfl (.tmp 31) (.tmp 36) 24 rfl (w.heap.size + 1) 3 j0 (.int .i64 0) Try.underlying24 hj jz0 jz1 jz2 rfl _ _ out0 rfl hown0 _ rfl rfl hon hbz ?_; intro g' cap' w7 hown' hgrow hb2 hat)
          have HS7 := Lib.hid (HPush.out w7 g' cap' hown' hgrow hb2 hat)
          rw [← HO.out] at HS7
          clear hown' hgrow hb2 hat HPush hown0 x0
          go_wp2_with fail
          go_roundw
          case rel => exact ⟨k + 1, _, by omega, by go_num, rfl, HS7⟩
          case measure => simp [intOf]; omega
        · have HO : Hid ((hs.take (k + 1)).filter (fun (k : Nat) => decide (0 < (finL W H (z : Int) (butB W H (z : Int) k)).length)) = out0) := by unfold Hid; rw [HNX.out, if_neg hn0, List.append_nil]
          rw [← HO.out] at HS2
          clear HNX hol x0
          go_wp2_with fail
          go_roundw
          case rel => exact ⟨k + 1, v, by omega, by go_num, rfl, HS2⟩
          case measure => simp [intOf]; omega
      · obtain rfl : k = m := by omega
        have hfull : Hid (hs.take k = hs) := List.take_of_length_le (by rw [HM.out]; exact Nat.le_refl _)
        rw [hfull.out, HRes.out] at HS
        have hp : Hid (OwnInts res w (.returned v) wr) := ⟨v, rfl, own_base HS.out.out (Nat.le_succ _), HS.out.box.2.2.2.2⟩
        clear HS
        go_wp2_with fail
        go_ret
        exact hp.out
end Go.Proofs.Ytkenlighpelhiaa
