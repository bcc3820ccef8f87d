/- The law FnExactAddWeights returns true for every board and every two slices of ints: the program and the model give the same list and the same bool, in new memory that no second call touches, and the slices are left as they were. No condition. -/
import Derived.Test.YtdeciglcfabgpaaRows
import Derived.WalkKit
import Derived.WalkSpells
import Derived.ProofKit
import Derived.OpenShut
import Derived.ShutString
import Derived.ChangeOld
import Derived.Below
import Derived.Lib.Hide
import Derived.Lib.SmallJoins
import Derived.ChangeArms
import Derived.Test.YtdeciglcfabgpaaWeightsD
import Derived.Test.YtdeciglcfabgpaaWeightsE
import Derived.Test.YtdeciglcfabgpaaBoards
namespace Go.Proofs.Ytdeciglcfabgpaa.fnExactAddWeights
open Go.ChangeShapes Go.WideShapes Go.ChangeAt Go.RowKit
open Go.ChangeMaps (open_string shut_string)
set_option linter.unusedVariables false
set_option linter.unusedSimpArgs false
theorem own : ownKnob Try.prog.godebug = none := by kernel_rfl
theorem laidOut : laidOutB Try.prog = true := by kernel_rfl
/-- What the walk is told of a slice of integers that came in. -/
def IsRow (k : IntKind) (w : World) (a : Option Addr) (len cap : Nat) (zs : List Int) : Prop :=
  (a = none ∧ len = 0 ∧ cap = 0 ∧ zs = []) ∨
  ∃ x, a = some x ∧ len ≤ cap ∧ cap ≤ maxLen ∧ zs.length = cap ∧ (∀ i, i < zs.length → w.cell? (x.add i) = some (.int k (zs.getD i 0))) ∧ ∀ n ∈ zs, (Lit.int k n).wf = true
theorem apart_symm {a b : Option Nat} (h : a = none ∨ a ≠ b) : b = none ∨ b ≠ a := by
  rcases h with rfl | h
  · cases b
    · exact .inl rfl
    · exact .inr (by simp)
  · exact .inr fun e => h e.symm
theorem add_post {f : FuncId} {args : Array Value} {w : World} {r : List Int × Bool} {xs : List Int} {y : Bool} (h : Calls Try.prog f args w (OwnIvB r w)) (hr : r = (xs, y)) :
    Calls Try.prog f args w fun e w' => ∃ v, e = .returned (.tuple #[v, .bool y]) ∧ w'.ownsRow w.heap.size 3 1 v xs.length (iv xs) ∧ Below w.heap.size w w' := by subst hr; exact h
theorem add_le (W H Z : Int) (xs ys : List Int) : (addB W H Z xs ys).1.length ≤ 49 := by
  unfold addB
  split
  · rename_i h
    rw [Bool.and_eq_true] at h
    obtain ⟨hok, hl, -⟩ := wOk_yes h.2
    obtain ⟨N, z, rfl, ho⟩ := ok_of hok
    rw [ho.wh] at hl
    have := ho.n49
    show (addL xs ys).length ≤ 49
    omega
  · exact Nat.zero_le _
set_option maxHeartbeats 4000000 in
set_option maxRecDepth 100000 in
theorem walk (a0_0 : Int) (a0_1 : Int) (a0_2 : Int) (a1 : Option Addr) (len1 cap1 : Nat) (z1 : List Int) (a2 : Option Addr) (len2 cap2 : Nat) (z2 : List Int) (w : World) (w0_0 : (Lit.int .i64 a0_0).wf = true) (w0_1 : (Lit.int .i64 a0_1).wf = true) (w0_2 : (Lit.int .i64 a0_2).wf = true) (w1 : IsRow .i64 w a1 len1 cap1 z1) (w2 : IsRow .i64 w a2 len2 cap2 z2) :
    Calls Try.prog 8 #[.agg #[.int .i64 a0_0, .int .i64 a0_1, .int .i64 a0_2], .slice a1 len1 cap1, .slice a2 len2 cap2] w fun e w' => e = .returned (.bool true) ∧ Below w.heap.size w w' := by
  clear w0_0 w0_1 w0_2
  obtain ⟨hI1, hM1⟩ := ints_row w1
  unfold maxLen at hM1
  obtain ⟨xs1, hxs1⟩ : ∃ xs, z1.take len1 = xs := ⟨_, rfl⟩
  rw [hxs1] at hI1
  clear hxs1 w1
  have HN1 := Lib.hid hI1.1
  have HA1 := Lib.hid hI1
  clear hI1
  obtain ⟨hI2, hM2⟩ := ints_row w2
  unfold maxLen at hM2
  obtain ⟨xs2, hxs2⟩ : ∃ xs, z2.take len2 = xs := ⟨_, rfl⟩
  rw [hxs2] at hI2
  clear hxs2 w2
  have HN2 := Lib.hid hI2.1
  have HA2 := Lib.hid hI2
  clear hI2
  by_cases hx1 : len1 ≤ 1048576
  rotate_left
  · have hx1 := Nat.lt_of_not_le hx1
    have far1 : (1048576 : Int) < (len1 : Int) := by omega
    go_enter Try.func8, Try.ntmps8
    go_wp2_with fail
    have B0 := Lib.hid (box_newT 40 a0_0 a0_1 a0_2 w)
    generalize w.alloc (.cells #[.int .i64 a0_0, .int .i64 a0_1, .int .i64 a0_2] 40) = p0 at *
    try go_wp2_with fail
    go_ret
    exact ⟨rfl, B0.out.2.2.2.2⟩
  by_cases hx2 : len2 ≤ 1048576
  rotate_left
  · have hx2 := Nat.lt_of_not_le hx2
    have near1 : ¬ (1048576 : Int) < (len1 : Int) := by omega
    have far2 : (1048576 : Int) < (len2 : Int) := by omega
    go_enter Try.func8, Try.ntmps8
    go_wp2_with fail
    have B0 := Lib.hid (box_newT 40 a0_0 a0_1 a0_2 w)
    generalize w.alloc (.cells #[.int .i64 a0_0, .int .i64 a0_1, .int .i64 a0_2] 40) = p0 at *
    try go_wp2_with fail
    go_ret
    exact ⟨rfl, B0.out.2.2.2.2⟩
  have near1 : ¬ (1048576 : Int) < (len1 : Int) := by omega
  have near2 : ¬ (1048576 : Int) < (len2 : Int) := by omega
  obtain ⟨⟨xs, y⟩, hv⟩ : ∃ r, addB a0_0 a0_1 a0_2 xs1 xs2 = r := ⟨_, rfl⟩
  have hle : xs.length ≤ 49 := by have := add_le a0_0 a0_1 a0_2 xs1 xs2; rw [hv] at this; exact this
  have HS := Lib.hid (fun (g1 : Option Addr) (c1 : Nat) (g2 : Option Addr) (c2 : Nat) (w : World) (i1 : IntsAt w g1 len1 xs1) (i2 : IntsAt w g2 len2 xs2) => add_post (specAddWeights a0_0 a0_1 a0_2 (c := c1) (c' := c2) w hx1 i1 hx2 i2) hv)
  have HI := Lib.hid (fun (g1 : Option Addr) (c1 : Nat) (g2 : Option Addr) (c2 : Nat) (w : World) (i1 : IntsAt w g1 len1 xs1) (i2 : IntsAt w g2 len2 xs2) => add_post (implAddWeights a0_0 a0_1 a0_2 (c := c1) (c' := c2) w hx1 i1 hx2 i2) hv)
  clear hv
  obtain ⟨m, hm⟩ : ∃ m, xs.length = m := ⟨_, rfl⟩
  have HM := Lib.hid hm
  rw [hm] at hle
  clear hm
  go_enter Try.func8, Try.ntmps8
  go_wp2_with fail
  have B0 := Lib.hid (box_newT 40 a0_0 a0_1 a0_2 w)
  generalize w.alloc (.cells #[.int .i64 a0_0, .int .i64 a0_1, .int .i64 a0_2] 40) = p0 at *
  obtain ⟨c0, c1, c2, hlt, hbw⟩ := B0.out
  go_wp2_with fail
  refine (toB _ _ _ _).mono ?_
  rintro e p1 ⟨rfl, hb⟩
  have B1 := Lib.hid (B0.out.later hb)
  clear hb B0 c0 c1 c2 hlt hbw
  obtain ⟨c0, c1, c2, hlt, hbw⟩ := B1.out
  go_wp2_with fail
  refine (toInts _ hx1 (HA1.out.later B1.out.2.2.2.2)).mono ?_
  rintro e p2 ⟨v, rfl, hh, hb⟩
  have B2 := Lib.hid (B1.out.later hb)
  have hh := own_base hh (show w.heap.size + 1 ≤ p1.heap.size from B1.out.2.2.2.1)
  rw [HN1.out] at hh
  obtain ⟨xa, xc, rfl⟩ := int_form hh
  have X2 := Lib.hid hh
  clear hh
  clear hb B1 c0 c1 c2 hlt hbw
  obtain ⟨c0, c1, c2, hlt, hbw⟩ := B2.out
  go_wp2_with fail
  refine (toInts _ hx2 (HA2.out.later B2.out.2.2.2.2)).mono ?_
  rintro e p3 ⟨v, rfl, hh, hb⟩
  have B3 := Lib.hid (B2.out.later hb)
  have X3 := Lib.hid (own_below X2.out hb)
  have hh := own_base hh (show w.heap.size + 1 ≤ p2.heap.size from B2.out.2.2.2.1)
  rw [HN2.out] at hh
  obtain ⟨ya, yc, rfl⟩ := int_form hh
  have Y3 := Lib.hid hh
  clear hh
  clear hb B2 X2 c0 c1 c2 hlt hbw
  obtain ⟨c0, c1, c2, hlt, hbw⟩ := B3.out
  go_wp2_with fail
  refine (HS.out _ _ _ _ _ (ints_own X3.out HN1.out) (ints_own Y3.out HN2.out)).mono ?_
  rintro e p4 ⟨ov, rfl, hh, hb⟩
  have B4 := Lib.hid (B3.out.later hb)
  have X4 := Lib.hid (own_below X3.out hb)
  have Y4 := Lib.hid (own_below Y3.out hb)
  have hh := own_base hh (show w.heap.size + 1 ≤ p3.heap.size from B3.out.2.2.2.1)
  rw [HM.out] at hh
  have O4 := Lib.hid hh
  clear hh
  clear hb B3 X3 Y3 c0 c1 c2 hlt hbw
  clear X4
  clear Y4
  obtain ⟨c0, c1, c2, hlt, hbw⟩ := B4.out
  go_wp2_with fail
  refine (toInts _ hx1 (HA1.out.later B4.out.2.2.2.2)).mono ?_
  rintro e p5 ⟨v, rfl, hh, hb⟩
  have B5 := Lib.hid (B4.out.later hb)
  have O5 := Lib.hid (own_below O4.out hb)
  have AXO := Lib.hid (own_apart O4.out hh (Nat.le_refl _))
  have hh := own_base hh (show w.heap.size + 1 ≤ p4.heap.size from B4.out.2.2.2.1)
  rw [HN1.out] at hh
  obtain ⟨xa, xc, rfl⟩ := int_form hh
  have X5 := Lib.hid hh
  clear hh
  clear hb B4 O4 c0 c1 c2 hlt hbw
  obtain ⟨c0, c1, c2, hlt, hbw⟩ := B5.out
  go_wp2_with fail
  refine (toInts _ hx2 (HA2.out.later B5.out.2.2.2.2)).mono ?_
  rintro e p6 ⟨v, rfl, hh, hb⟩
  have B6 := Lib.hid (B5.out.later hb)
  have O6 := Lib.hid (own_below O5.out hb)
  have X6 := Lib.hid (own_below X5.out hb)
  have AYO := Lib.hid (own_apart O5.out hh (Nat.le_refl _))
  have AXY := Lib.hid (own_apart X5.out hh (Nat.le_refl _))
  have hh := own_base hh (show w.heap.size + 1 ≤ p5.heap.size from B5.out.2.2.2.1)
  rw [HN2.out] at hh
  obtain ⟨ya, yc, rfl⟩ := int_form hh
  have Y6 := Lib.hid hh
  clear hh
  clear hb B5 O5 X5 c0 c1 c2 hlt hbw
  obtain ⟨c0, c1, c2, hlt, hbw⟩ := B6.out
  go_wp2_with fail
  refine (toB _ _ _ _).mono ?_
  rintro e p7 ⟨rfl, hb⟩
  have B7 := Lib.hid (B6.out.later hb)
  have O7 := Lib.hid (own_below O6.out hb)
  have X7 := Lib.hid (own_below X6.out hb)
  have Y7 := Lib.hid (own_below Y6.out hb)
  clear hb B6 O6 X6 Y6 c0 c1 c2 hlt hbw
  obtain ⟨c0, c1, c2, hlt, hbw⟩ := B7.out
  go_wp2_with fail
  refine (HI.out _ _ _ _ _ (ints_own X7.out HN1.out) (ints_own Y7.out HN2.out)).mono ?_
  rintro e p8 ⟨gv, rfl, hh, hb⟩
  have B8 := Lib.hid (B7.out.later hb)
  have O8 := Lib.hid (own_below O7.out hb)
  have X8 := Lib.hid (own_below X7.out hb)
  have Y8 := Lib.hid (own_below Y7.out hb)
  have AP := Lib.hid (own_apart O7.out hh (Nat.le_refl _))
  have AXG := Lib.hid (apart_symm (own_apart X7.out hh (Nat.le_refl _)))
  have AYG := Lib.hid (apart_symm (own_apart Y7.out hh (Nat.le_refl _)))
  have hh := own_base hh (show w.heap.size + 1 ≤ p7.heap.size from B7.out.2.2.2.1)
  rw [HM.out] at hh
  have G8 := Lib.hid hh
  clear hh
  clear hb B7 O7 X7 Y7 c0 c1 c2 hlt hbw
  obtain ⟨c0, c1, c2, hlt, hbw⟩ := B8.out
  go_wp2_with fail
  refine (eqInt gv ov xs _ HM.out (by omega) G8.out O8.out).mono ?_
  rintro e p9 ⟨rfl, q, rfl⟩
  have hb := drewN_belowI p8 q
  have B9 := Lib.hid (B8.out.later hb)
  have O9 := Lib.hid (own_below O8.out hb)
  have X9 := Lib.hid (own_below X8.out hb)
  have Y9 := Lib.hid (own_below Y8.out hb)
  have G9 := Lib.hid (own_below G8.out hb)
  clear hb B8 O8 X8 Y8 G8 c0 c1 c2 hlt hbw
  generalize p8.drewN q = p9 at *
  obtain ⟨c0, c1, c2, hlt, hbw⟩ := B9.out
  go_wp2_with fail
  refine (toInts _ hx1 (HA1.out.later B9.out.2.2.2.2)).mono ?_
  rintro e p10 ⟨v, rfl, hh, hb⟩
  have B10 := Lib.hid (B9.out.later hb)
  have O10 := Lib.hid (own_below O9.out hb)
  have X10 := Lib.hid (own_below X9.out hb)
  have Y10 := Lib.hid (own_below Y9.out hb)
  have G10 := Lib.hid (own_below G9.out hb)
  have hh := own_base hh (show w.heap.size + 1 ≤ p9.heap.size from B9.out.2.2.2.1)
  rw [HN1.out] at hh
  obtain ⟨ua, uc, rfl⟩ := int_form hh
  have U10 := Lib.hid hh
  clear hh
  clear hb B9 O9 X9 Y9 G9 c0 c1 c2 hlt hbw
  obtain ⟨c0, c1, c2, hlt, hbw⟩ := B10.out
  go_wp2_with fail
  refine (eqInt _ _ xs1 _ HN1.out hx1 X10.out U10.out).mono ?_
  rintro e p11 ⟨rfl, q, rfl⟩
  have hb := drewN_belowI p10 q
  have B11 := Lib.hid (B10.out.later hb)
  have O11 := Lib.hid (own_below O10.out hb)
  have X11 := Lib.hid (own_below X10.out hb)
  have Y11 := Lib.hid (own_below Y10.out hb)
  have G11 := Lib.hid (own_below G10.out hb)
  have U11 := Lib.hid (own_below U10.out hb)
  clear hb B10 O10 X10 Y10 G10 U10 c0 c1 c2 hlt hbw
  generalize p10.drewN q = p11 at *
  clear U11
  obtain ⟨c0, c1, c2, hlt, hbw⟩ := B11.out
  go_wp2_with fail
  refine (toInts _ hx2 (HA2.out.later B11.out.2.2.2.2)).mono ?_
  rintro e p12 ⟨v, rfl, hh, hb⟩
  have B12 := Lib.hid (B11.out.later hb)
  have O12 := Lib.hid (own_below O11.out hb)
  have X12 := Lib.hid (own_below X11.out hb)
  have Y12 := Lib.hid (own_below Y11.out hb)
  have G12 := Lib.hid (own_below G11.out hb)
  have hh := own_base hh (show w.heap.size + 1 ≤ p11.heap.size from B11.out.2.2.2.1)
  rw [HN2.out] at hh
  obtain ⟨ua, uc, rfl⟩ := int_form hh
  have U12 := Lib.hid hh
  clear hh
  clear hb B11 O11 X11 Y11 G11 c0 c1 c2 hlt hbw
  obtain ⟨c0, c1, c2, hlt, hbw⟩ := B12.out
  go_wp2_with fail
  refine (eqInt _ _ xs2 _ HN2.out hx2 Y12.out U12.out).mono ?_
  rintro e p13 ⟨rfl, q, rfl⟩
  have hb := drewN_belowI p12 q
  have B13 := Lib.hid (B12.out.later hb)
  have O13 := Lib.hid (own_below O12.out hb)
  have X13 := Lib.hid (own_below X12.out hb)
  have Y13 := Lib.hid (own_below Y12.out hb)
  have G13 := Lib.hid (own_below G12.out hb)
  have U13 := Lib.hid (own_below U12.out hb)
  clear hb B12 O12 X12 Y12 G12 U12 c0 c1 c2 hlt hbw
  generalize p12.drewN q = p13 at *
  clear U13
  obtain ⟨K, hK⟩ : ∃ K, 1 + len1 = K := ⟨_, rfl⟩
  obtain ⟨K2, hK2⟩ : ∃ K2, K + len2 = K2 := ⟨_, rfl⟩
  obtain ⟨c0, c1, c2, hlt, hbw⟩ := B13.out
  go_wp2_with fail
  refine (markInt _ xs1 _ 1 (by omega) HN1.out hx1 X13.out).mono ?_
  rintro e p14 ⟨he, hm, hg⟩
  rw [hK] at he
  subst he
  have hb6 : Below (w.heap.size + 1) p13 p14 := (Below.refl _ _).grown hg B13.out.2.2.2.1 (fun k hk => (X13.out.lt k hk).1)
  have B14 := Lib.hid (B13.out.kept hb6 (Nat.lt_succ_self _) (Nat.le_succ _))
  have O14 := Lib.hid (O13.out.kept hg AXO.out)
  have G14 := Lib.hid (G13.out.kept hg AXG.out)
  have Y14 := Lib.hid (Y13.out.kept hg (apart_symm AXY.out))
  clear hb6 hg hm B13 O13 G13 Y13 X13 c0 c1 c2 hlt hbw
  obtain ⟨c0, c1, c2, hlt, hbw⟩ := B14.out
  go_wp2_with fail
  refine (markInt _ xs2 _ K (by omega) HN2.out hx2 Y14.out).mono ?_
  rintro e p15 ⟨he, hm, hg⟩
  rw [hK2] at he
  subst he
  have hb6 : Below (w.heap.size + 1) p14 p15 := (Below.refl _ _).grown hg B14.out.2.2.2.1 (fun k hk => (Y14.out.lt k hk).1)
  have B15 := Lib.hid (B14.out.kept hb6 (Nat.lt_succ_self _) (Nat.le_succ _))
  have O15 := Lib.hid (O14.out.kept hg AYO.out)
  have G15 := Lib.hid (G14.out.kept hg AYG.out)
  clear hb6 hg hm B14 O14 G14 Y14 c0 c1 c2 hlt hbw
  obtain ⟨c0, c1, c2, hlt, hbw⟩ := B15.out
  go_wp2_with fail
  refine (eqInt gv ov xs _ HM.out (by omega) G15.out O15.out).mono ?_
  rintro e p16 ⟨rfl, q, rfl⟩
  have hb := drewN_belowI p15 q
  have B16 := Lib.hid (B15.out.later hb)
  have O16 := Lib.hid (own_below O15.out hb)
  have G16 := Lib.hid (own_below G15.out hb)
  clear hb B15 O15 G15 c0 c1 c2 hlt hbw
  generalize p15.drewN q = p16 at *
  obtain ⟨c0, c1, c2, hlt, hbw⟩ := B16.out
  go_wp2_with fail
  refine (markInt _ xs _ 1 (by omega) HM.out (by omega) G16.out).mono ?_
  rintro e p17 ⟨he, hm, hg⟩
  subst he
  have hb6 : Below (w.heap.size + 1) p16 p17 := (Below.refl _ _).grown hg B16.out.2.2.2.1 (fun k hk => (G16.out.lt k hk).1)
  have B17 := Lib.hid (B16.out.kept hb6 (Nat.lt_succ_self _) (Nat.le_succ _))
  have O17 := Lib.hid (O16.out.kept hg AP.out)
  have M17 := Lib.hid hm
  clear hb6 hg hm B16 O16 G16 c0 c1 c2 hlt hbw
  obtain ⟨c0, c1, c2, hlt, hbw⟩ := B17.out
  go_wp2_with fail
  refine (heldInt gv _ 1 (by omega) (by omega) M17.out).mono ?_
  rintro e p18 ⟨rfl, q, rfl⟩
  have hb := drewN_belowI p17 q
  have B18 := Lib.hid (B17.out.later hb)
  have O18 := Lib.hid (own_below O17.out hb)
  have M18 := Lib.hid (own_below M17.out hb)
  clear hb B17 O17 M17 c0 c1 c2 hlt hbw
  generalize p17.drewN q = p18 at *
  obtain ⟨c0, c1, c2, hlt, hbw⟩ := B18.out
  go_wp2_with fail
  refine (toB _ _ _ _).mono ?_
  rintro e p19 ⟨rfl, hb⟩
  have B19 := Lib.hid (B18.out.later hb)
  have O19 := Lib.hid (own_below O18.out hb)
  have M19 := Lib.hid (own_below M18.out hb)
  clear hb B18 O18 M18 c0 c1 c2 hlt hbw
  obtain ⟨c0, c1, c2, hlt, hbw⟩ := B19.out
  go_wp2_with fail
  refine (toInts _ hx1 (HA1.out.later B19.out.2.2.2.2)).mono ?_
  rintro e p20 ⟨v, rfl, hh, hb⟩
  have B20 := Lib.hid (B19.out.later hb)
  have O20 := Lib.hid (own_below O19.out hb)
  have M20 := Lib.hid (own_below M19.out hb)
  have hh := own_base hh (show w.heap.size + 1 ≤ p19.heap.size from B19.out.2.2.2.1)
  rw [HN1.out] at hh
  obtain ⟨xa, xc, rfl⟩ := int_form hh
  have X20 := Lib.hid hh
  clear hh
  clear hb B19 O19 M19 c0 c1 c2 hlt hbw
  obtain ⟨c0, c1, c2, hlt, hbw⟩ := B20.out
  go_wp2_with fail
  refine (toInts _ hx2 (HA2.out.later B20.out.2.2.2.2)).mono ?_
  rintro e p21 ⟨v, rfl, hh, hb⟩
  have B21 := Lib.hid (B20.out.later hb)
  have O21 := Lib.hid (own_below O20.out hb)
  have M21 := Lib.hid (own_below M20.out hb)
  have X21 := Lib.hid (own_below X20.out hb)
  have hh := own_base hh (show w.heap.size + 1 ≤ p20.heap.size from B20.out.2.2.2.1)
  rw [HN2.out] at hh
  obtain ⟨ya, yc, rfl⟩ := int_form hh
  have Y21 := Lib.hid hh
  clear hh
  clear hb B20 O20 M20 X20 c0 c1 c2 hlt hbw
  obtain ⟨c0, c1, c2, hlt, hbw⟩ := B21.out
  go_wp2_with fail
  refine (HI.out _ _ _ _ _ (ints_own X21.out HN1.out) (ints_own Y21.out HN2.out)).mono ?_
  rintro e p22 ⟨hv, rfl, hh, hb⟩
  have B22 := Lib.hid (B21.out.later hb)
  have O22 := Lib.hid (own_below O21.out hb)
  have M22 := Lib.hid (own_below M21.out hb)
  have X22 := Lib.hid (own_below X21.out hb)
  have Y22 := Lib.hid (own_below Y21.out hb)
  have hh := own_base hh (show w.heap.size + 1 ≤ p21.heap.size from B21.out.2.2.2.1)
  rw [HM.out] at hh
  have H22 := Lib.hid hh
  clear hh
  clear hb B21 O21 M21 X21 Y21 c0 c1 c2 hlt hbw
  clear X22
  clear Y22
  obtain ⟨c0, c1, c2, hlt, hbw⟩ := B22.out
  go_wp2_with fail
  refine (eqInt hv ov xs _ HM.out (by omega) H22.out O22.out).mono ?_
  rintro e p23 ⟨rfl, q, rfl⟩
  have hb := drewN_belowI p22 q
  have B23 := Lib.hid (B22.out.later hb)
  have O23 := Lib.hid (own_below O22.out hb)
  have M23 := Lib.hid (own_below M22.out hb)
  have H23 := Lib.hid (own_below H22.out hb)
  clear hb B22 O22 M22 H22 c0 c1 c2 hlt hbw
  generalize p22.drewN q = p23 at *
  clear H23
  obtain ⟨c0, c1, c2, hlt, hbw⟩ := B23.out
  go_wp2_with fail
  refine (heldInt gv _ 1 (by omega) (by omega) M23.out).mono ?_
  rintro e p24 ⟨rfl, q, rfl⟩
  have hb := drewN_belowI p23 q
  have B24 := Lib.hid (B23.out.later hb)
  have O24 := Lib.hid (own_below O23.out hb)
  have M24 := Lib.hid (own_below M23.out hb)
  clear hb B23 O23 M23 c0 c1 c2 hlt hbw
  generalize p23.drewN q = p24 at *
  go_wp2_with fail
  go_ret
  exact ⟨rfl, B24.out.2.2.2.2⟩
set_option maxRecDepth 100000 in
theorem lifted (os : Os) (started : os.Started) (H : Type) (enc : TypeId × Value → H) :
    ReturnsInHanded {} Try.checked os 8 .any (Rows.fnExactAddWeightsSpec.pre6 enc Try.prog Try.f8 Rows.fnExactAddWeightsRow.domain false) (Rows.fnExactAddWeightsSpec.post enc Try.prog Try.f8 false true false false) := by
  refine returnsInHanded_of_change (C := Try.checked) own started (by kernel_rfl) Try.func8
    (ChangeSpec.witness6 (enc := enc) (C := Try.checked) false ⟨#[], #[.agg #[.int .i64 0, .int .i64 0, .int .i64 0], .slice none 0 0, .slice none 0 0], []⟩ 8 (by kernel_rfl) (by kernel_rfl) (by kernel_rfl) (by kernel_rfl)) ?_
  intro W base args ds gs before hval0 hW hcnd _
  have hval : ∀ (j : Nat) t v, Try.f8.params[j]? = some t → args[j]? = some v → Value.okWide Try.prog W .any base t v := hval0
  have hW' := hW
  obtain ⟨p, q, hA0, hV, rfl, hfz, hnd⟩ := hW
  have hA : DataW.TrodAll enc Try.prog W 0 (fun _ => true) true Try.f8.params.toList args.toList ds p := hA0
  rw [Try.params8] at hA hval
  obtain ⟨v0, vs0, d0, ds0, p0, q0, hargs, rfl, rfl, h0, r0⟩ := trodAll_cons hA
  obtain ⟨v1, vs1, d1, ds1, p1, q1, rfl, rfl, rfl, h1, r1⟩ := trodAll_cons r0
  obtain ⟨v2, vs2, d2, ds2, p2, q2, rfl, rfl, rfl, h2, r2⟩ := trodAll_cons r1
  obtain ⟨rfl, rfl, rfl⟩ := trodAll_nil r2
  obtain rfl : args = #[v0, v1, v2] := by cases args; simp_all
  obtain ⟨rfl, rfl⟩ := trodVars_none hV
  obtain ⟨c0_0, c0_1, c0_2, y0_0, y0_1, y0_2, m0, rfl, rfl, rfl, hy0_0, hy0_1, hy0_2⟩ := Go.Joins.open_agg3 Try.underlying40 (by kernel_rfl) (by kernel_rfl : Try.prog.cellsOf 40 = 3) (hval 0 40 v0 rfl rfl) h0
  obtain ⟨a0_0, e0_0, rfl, w0_0⟩ := DataW.trod_int Try.underlying3 hy0_0
  obtain ⟨a0_1, e0_1, rfl, w0_1⟩ := DataW.trod_int Try.underlying3 hy0_1
  obtain ⟨a0_2, e0_2, rfl, w0_2⟩ := DataW.trod_int Try.underlying3 hy0_2
  simp only [List.cons.injEq, and_true] at e0_0 e0_1 e0_2
  subst e0_0 e0_1 e0_2
  obtain ⟨a1, len1, cap1, rfl⟩ := okWide_slice Try.underlying26 (hval 1 26 v1 rfl rfl)
  have k1 := h1
  have lt1 : ∀ x ∈ p1, x.block < W.heap.size := by obtain ⟨m, hm⟩ := k1; exact DataW.trod_lt m _ _ _ hm
  obtain ⟨z1, w1⟩ : ∃ zs, IsRow .i64 W a1 len1 cap1 zs := by
    obtain ⟨fuel, hf⟩ := h1
    rcases open_ints Try.underlying26 Try.underlying3 (by kernel_rfl) hf with ⟨hcs, _⟩ | ⟨x, l, c, zs, hcs, _, hl, hm, hz, _, hcell, hwz⟩
    · simp [Value.cells] at hcs
      obtain ⟨rfl, rfl, rfl⟩ := hcs
      exact ⟨[], .inl ⟨rfl, rfl, rfl, rfl⟩⟩
    · simp [Value.cells] at hcs
      obtain ⟨rfl, rfl, rfl⟩ := hcs
      exact ⟨zs, .inr ⟨_, rfl, hl, hm, by simpa using hz, hcell, hwz⟩⟩
  obtain ⟨a2, len2, cap2, rfl⟩ := okWide_slice Try.underlying26 (hval 2 26 v2 rfl rfl)
  have k2 := h2
  have lt2 : ∀ x ∈ p2, x.block < W.heap.size := by obtain ⟨m, hm⟩ := k2; exact DataW.trod_lt m _ _ _ hm
  obtain ⟨z2, w2⟩ : ∃ zs, IsRow .i64 W a2 len2 cap2 zs := by
    obtain ⟨fuel, hf⟩ := h2
    rcases open_ints Try.underlying26 Try.underlying3 (by kernel_rfl) hf with ⟨hcs, _⟩ | ⟨x, l, c, zs, hcs, _, hl, hm, hz, _, hcell, hwz⟩
    · simp [Value.cells] at hcs
      obtain ⟨rfl, rfl, rfl⟩ := hcs
      exact ⟨[], .inl ⟨rfl, rfl, rfl, rfl⟩⟩
    · simp [Value.cells] at hcs
      obtain ⟨rfl, rfl, rfl⟩ := hcs
      exact ⟨zs, .inr ⟨_, rfl, hl, hm, by simpa using hz, hcell, hwz⟩⟩
  clear hA0 hval0
  refine (walk a0_0 a0_1 a0_2 a1 len1 cap1 z1 a2 len2 cap2 z2 W w0_0 w0_1 w0_2 w1 w2).mono fun e W' ⟨he, bel⟩ => ?_
  subst he
  exact ⟨_, rfl, _, _, _, [], _, [], hW', trodAll_mk1 (shut_bool Try.underlying4 _), (trodAll_cons_mk (Go.Joins.shut_agg3 (y0 := (.lit (.int .i64 a0_0), [])) (y1 := (.lit (.int .i64 a0_1), [])) (y2 := (.lit (.int .i64 a0_2), [])) Try.underlying40 (by kernel_rfl) (by kernel_rfl : Try.prog.cellsOf 40 = 3) (shut_int Try.underlying3 w0_0) (shut_int Try.underlying3 w0_1) (shut_int Try.underlying3 w0_2)) (trodAll_cons_mk (Below.trod laidOut (by kernel_rfl) (of_decide_eq_true (by kernel_rfl)) k1 bel lt1) (trodAll_cons_mk (Below.trod laidOut (by kernel_rfl) (of_decide_eq_true (by kernel_rfl)) k2 bel lt2) trodAll_mk0))), rfl, bel.frame _, fun h => by cases h⟩

theorem over : Rows.fnExactAddWeightsRow.holds Try.pinned (OpenSpec.ofChange Rows.fnExactAddWeightsSpec) :=
  OpenClaim.holds_of_wide 8 Try.f8 rfl rfl rfl rfl rfl rfl rfl ⟨rfl, rfl, rfl, rfl, rfl⟩ rfl rfl rfl rfl rfl (by kernel_rfl) Try.func8 (by kernel_rfl)
    (of_decide_eq_true (by kernel_rfl)) (by unfold Func.isWrapper; first | (rw [if_pos (by decide +kernel)]; kernel_rfl) | (rw [if_neg (by decide +kernel)]; exact ⟨rfl, rfl⟩))
    (fun os started H enc _ => lifted os started H enc)

theorem proved : Rows.FnExactAddWeightsSaid := over
end Go.Proofs.Ytdeciglcfabgpaa.fnExactAddWeights
