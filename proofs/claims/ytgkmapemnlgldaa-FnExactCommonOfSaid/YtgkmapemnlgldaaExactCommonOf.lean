/- The law FnExactCommonOf returns true for every two slices of ints: the program and the model give the same list, in new memory that no second call touches, and the slices are left as they were. No condition. -/
import Derived.Test.YtgkmapemnlgldaaRows
import Derived.WalkKit
import Derived.WalkSpells
import Derived.ProofKit
import Derived.OpenShut
import Derived.ShutString
import Derived.ChangeOld
import Derived.Below
import Derived.Lib.Hide
import Derived.Lib.SmallJoins
import Derived.ChangeArms
import Derived.Test.YtgkmapemnlgldaaLayR
import Derived.Test.YtgkmapemnlgldaaLayC
import Derived.Test.YtgkmapemnlgldaaBoards
namespace Go.Proofs.Ytgkmapemnlgldaa.fnExactCommonOf
open Go.ChangeShapes Go.WideShapes Go.ChangeAt Go.RowKit
open Go.ChangeMaps (open_string shut_string)
set_option linter.unusedVariables false
set_option linter.unusedSimpArgs false
theorem own : ownKnob Try.prog.godebug = none := by kernel_rfl
theorem laidOut : laidOutB Try.prog = true := by kernel_rfl
/-- What the walk is told of a slice of integers that came in. -/
def IsRow (k : IntKind) (w : World) (a : Option Addr) (len cap : Nat) (zs : List Int) : Prop :=
  (a = none ∧ len = 0 ∧ cap = 0 ∧ zs = []) ∨
  ∃ x, a = some x ∧ len ≤ cap ∧ cap ≤ maxLen ∧ zs.length = cap ∧ (∀ i, i < zs.length → w.cell? (x.add i) = some (.int k (zs.getD i 0))) ∧ ∀ n ∈ zs, (Lit.int k n).wf = true
theorem apart_symm {a b : Option Nat} (h : a = none ∨ a ≠ b) : b = none ∨ b ≠ a := by
  rcases h with rfl | h
  · cases b
    · exact .inl rfl
    · exact .inr (by simp)
  · exact .inr fun e => h e.symm
set_option maxHeartbeats 4000000 in
set_option maxRecDepth 100000 in
theorem walk (a0 : Option Addr) (len0 cap0 : Nat) (z0 : List Int) (a1 : Option Addr) (len1 cap1 : Nat) (z1 : List Int) (w : World) (w0 : IsRow .i64 w a0 len0 cap0 z0) (w1 : IsRow .i64 w a1 len1 cap1 z1) :
    Calls Try.prog 6 #[.slice a0 len0 cap0, .slice a1 len1 cap1] w fun e w' => e = .returned (.bool true) ∧ Below w.heap.size w w' := by
  obtain ⟨hI0, hM0⟩ := ints_row w0
  unfold maxLen at hM0
  obtain ⟨xs0, hxs0⟩ : ∃ xs, z0.take len0 = xs := ⟨_, rfl⟩
  rw [hxs0] at hI0
  clear hxs0 w0
  have HN0 := Lib.hid hI0.1
  have HA0 := Lib.hid hI0
  clear hI0
  obtain ⟨hI1, hM1⟩ := ints_row w1
  unfold maxLen at hM1
  obtain ⟨xs1, hxs1⟩ : ∃ xs, z1.take len1 = xs := ⟨_, rfl⟩
  rw [hxs1] at hI1
  clear hxs1 w1
  have HN1 := Lib.hid hI1.1
  have HA1 := Lib.hid hI1
  clear hI1
  by_cases hx0 : len0 ≤ 1048576
  rotate_left
  · have hx0 := Nat.lt_of_not_le hx0
    have far0 : (1048576 : Int) < (len0 : Int) := by omega
    go_enter Try.func6, Try.ntmps6
    have Z0 : Hid (Below w.heap.size w w) := Below.refl _ _
    go_wp2_with fail
    go_ret
    exact ⟨rfl, Z0.out⟩
  by_cases hx1 : len1 ≤ 1048576
  rotate_left
  · have hx1 := Nat.lt_of_not_le hx1
    have near0 : ¬ (1048576 : Int) < (len0 : Int) := by omega
    have far1 : (1048576 : Int) < (len1 : Int) := by omega
    go_enter Try.func6, Try.ntmps6
    have Z0 : Hid (Below w.heap.size w w) := Below.refl _ _
    go_wp2_with fail
    go_ret
    exact ⟨rfl, Z0.out⟩
  have near0 : ¬ (1048576 : Int) < (len0 : Int) := by omega
  have near1 : ¬ (1048576 : Int) < (len1 : Int) := by omega
  have HS := Lib.hid (fun (g0 : Option Addr) (c0 : Nat) (g1 : Option Addr) (c1 : Nat) (w : World) (i0 : IntsAt w g0 len0 xs0) (i1 : IntsAt w g1 len1 xs1) => specCommon (c0 := c0) (c1 := c1) w hx0 hx1 i0 i1 HN0.out HN1.out)
  have HI := Lib.hid (fun (g0 : Option Addr) (c0 : Nat) (g1 : Option Addr) (c1 : Nat) (w : World) (i0 : IntsAt w g0 len0 xs0) (i1 : IntsAt w g1 len1 xs1) => implCommon (c0 := c0) (c1 := c1) w hx0 hx1 i0 i1 HN0.out HN1.out)
  obtain ⟨xs, hv⟩ : ∃ r, commL xs0 xs1 = r := ⟨_, rfl⟩
  have hle : xs.length ≤ 1048576 := by rw [← hv]; exact Nat.le_trans (commL_len _ _) (by rw [HN0.out]; exact hx0)
  rw [hv] at HS HI
  clear hv
  obtain ⟨m, hm⟩ : ∃ m, xs.length = m := ⟨_, rfl⟩
  have HM := Lib.hid hm
  rw [hm] at hle
  clear hm
  go_enter Try.func6, Try.ntmps6
  have Z0 : Hid (Below w.heap.size w w) := Below.refl _ _
  go_wp2_with fail
  refine (toInts _ hx0 (HA0.out.later Z0.out)).mono ?_
  rintro e p1 ⟨v, rfl, hh, hb⟩
  have Z1 := Lib.hid (Z0.out.trans (hb.mono Z0.out.size))
  have hh := own_base hh Z0.out.size
  rw [HN0.out] at hh
  obtain ⟨xa, xc, rfl⟩ := int_form hh
  have X1 := Lib.hid hh
  clear hh
  clear hb Z0
  go_wp2_with fail
  refine (toInts _ hx1 (HA1.out.later Z1.out)).mono ?_
  rintro e p2 ⟨v, rfl, hh, hb⟩
  have Z2 := Lib.hid (Z1.out.trans (hb.mono Z1.out.size))
  have X2 := Lib.hid (own_below X1.out hb)
  have hh := own_base hh Z1.out.size
  rw [HN1.out] at hh
  obtain ⟨ya, yc, rfl⟩ := int_form hh
  have Y2 := Lib.hid hh
  clear hh
  clear hb Z1 X1
  go_wp2_with fail
  refine (HS.out _ _ _ _ _ (ints_own X2.out HN0.out) (ints_own Y2.out HN1.out)).mono ?_
  rintro e p3 ⟨ov, rfl, hh, hb⟩
  have Z3 := Lib.hid (Z2.out.trans (hb.mono Z2.out.size))
  have X3 := Lib.hid (own_below X2.out hb)
  have Y3 := Lib.hid (own_below Y2.out hb)
  have hh := own_base hh Z2.out.size
  rw [HM.out] at hh
  have O3 := Lib.hid hh
  clear hh
  clear hb Z2 X2 Y2
  clear X3
  clear Y3
  go_wp2_with fail
  refine (toInts _ hx0 (HA0.out.later Z3.out)).mono ?_
  rintro e p4 ⟨v, rfl, hh, hb⟩
  have Z4 := Lib.hid (Z3.out.trans (hb.mono Z3.out.size))
  have O4 := Lib.hid (own_below O3.out hb)
  have AXO := Lib.hid (own_apart O3.out hh (Nat.le_refl _))
  have hh := own_base hh Z3.out.size
  rw [HN0.out] at hh
  obtain ⟨xa, xc, rfl⟩ := int_form hh
  have X4 := Lib.hid hh
  clear hh
  clear hb Z3 O3
  go_wp2_with fail
  refine (toInts _ hx1 (HA1.out.later Z4.out)).mono ?_
  rintro e p5 ⟨v, rfl, hh, hb⟩
  have Z5 := Lib.hid (Z4.out.trans (hb.mono Z4.out.size))
  have O5 := Lib.hid (own_below O4.out hb)
  have X5 := Lib.hid (own_below X4.out hb)
  have AYO := Lib.hid (own_apart O4.out hh (Nat.le_refl _))
  have AXY := Lib.hid (own_apart X4.out hh (Nat.le_refl _))
  have hh := own_base hh Z4.out.size
  rw [HN1.out] at hh
  obtain ⟨ya, yc, rfl⟩ := int_form hh
  have Y5 := Lib.hid hh
  clear hh
  clear hb Z4 O4 X4
  go_wp2_with fail
  refine (HI.out _ _ _ _ _ (ints_own X5.out HN0.out) (ints_own Y5.out HN1.out)).mono ?_
  rintro e p6 ⟨gv, rfl, hh, hb⟩
  have Z6 := Lib.hid (Z5.out.trans (hb.mono Z5.out.size))
  have O6 := Lib.hid (own_below O5.out hb)
  have X6 := Lib.hid (own_below X5.out hb)
  have Y6 := Lib.hid (own_below Y5.out hb)
  have AP := Lib.hid (own_apart O5.out hh (Nat.le_refl _))
  have AXG := Lib.hid (apart_symm (own_apart X5.out hh (Nat.le_refl _)))
  have AYG := Lib.hid (apart_symm (own_apart Y5.out hh (Nat.le_refl _)))
  have hh := own_base hh Z5.out.size
  rw [HM.out] at hh
  have G6 := Lib.hid hh
  clear hh
  clear hb Z5 O5 X5 Y5
  go_wp2_with fail
  refine (eqInt gv ov xs _ HM.out (by omega) G6.out O6.out).mono ?_
  rintro e p7 ⟨rfl, q, rfl⟩
  have hb := drewN_belowI p6 q
  have Z7 := Lib.hid (Z6.out.trans (hb.mono Z6.out.size))
  have O7 := Lib.hid (own_below O6.out hb)
  have X7 := Lib.hid (own_below X6.out hb)
  have Y7 := Lib.hid (own_below Y6.out hb)
  have G7 := Lib.hid (own_below G6.out hb)
  clear hb Z6 O6 X6 Y6 G6
  generalize p6.drewN q = p7 at *
  go_wp2_with fail
  refine (toInts _ hx0 (HA0.out.later Z7.out)).mono ?_
  rintro e p8 ⟨v, rfl, hh, hb⟩
  have Z8 := Lib.hid (Z7.out.trans (hb.mono Z7.out.size))
  have O8 := Lib.hid (own_below O7.out hb)
  have X8 := Lib.hid (own_below X7.out hb)
  have Y8 := Lib.hid (own_below Y7.out hb)
  have G8 := Lib.hid (own_below G7.out hb)
  have hh := own_base hh Z7.out.size
  rw [HN0.out] at hh
  obtain ⟨ua, uc, rfl⟩ := int_form hh
  have U8 := Lib.hid hh
  clear hh
  clear hb Z7 O7 X7 Y7 G7
  go_wp2_with fail
  refine (eqInt _ _ xs0 _ HN0.out hx0 X8.out U8.out).mono ?_
  rintro e p9 ⟨rfl, q, rfl⟩
  have hb := drewN_belowI p8 q
  have Z9 := Lib.hid (Z8.out.trans (hb.mono Z8.out.size))
  have O9 := Lib.hid (own_below O8.out hb)
  have X9 := Lib.hid (own_below X8.out hb)
  have Y9 := Lib.hid (own_below Y8.out hb)
  have G9 := Lib.hid (own_below G8.out hb)
  have U9 := Lib.hid (own_below U8.out hb)
  clear hb Z8 O8 X8 Y8 G8 U8
  generalize p8.drewN q = p9 at *
  clear U9
  go_wp2_with fail
  refine (toInts _ hx1 (HA1.out.later Z9.out)).mono ?_
  rintro e p10 ⟨v, rfl, hh, hb⟩
  have Z10 := Lib.hid (Z9.out.trans (hb.mono Z9.out.size))
  have O10 := Lib.hid (own_below O9.out hb)
  have X10 := Lib.hid (own_below X9.out hb)
  have Y10 := Lib.hid (own_below Y9.out hb)
  have G10 := Lib.hid (own_below G9.out hb)
  have hh := own_base hh Z9.out.size
  rw [HN1.out] at hh
  obtain ⟨ua, uc, rfl⟩ := int_form hh
  have U10 := Lib.hid hh
  clear hh
  clear hb Z9 O9 X9 Y9 G9
  go_wp2_with fail
  refine (eqInt _ _ xs1 _ HN1.out hx1 Y10.out U10.out).mono ?_
  rintro e p11 ⟨rfl, q, rfl⟩
  have hb := drewN_belowI p10 q
  have Z11 := Lib.hid (Z10.out.trans (hb.mono Z10.out.size))
  have O11 := Lib.hid (own_below O10.out hb)
  have X11 := Lib.hid (own_below X10.out hb)
  have Y11 := Lib.hid (own_below Y10.out hb)
  have G11 := Lib.hid (own_below G10.out hb)
  have U11 := Lib.hid (own_below U10.out hb)
  clear hb Z10 O10 X10 Y10 G10 U10
  generalize p10.drewN q = p11 at *
  clear U11
  obtain ⟨K, hK⟩ : ∃ K, 1 + len0 = K := ⟨_, rfl⟩
  obtain ⟨K2, hK2⟩ : ∃ K2, K + len1 = K2 := ⟨_, rfl⟩
  go_wp2_with fail
  refine (markInt _ xs0 _ 1 (by omega) HN0.out hx0 X11.out).mono ?_
  rintro e p12 ⟨he, hm, hg⟩
  rw [hK] at he
  subst he
  have hb6 : Below w.heap.size p11 p12 := (Below.refl _ _).grown hg Z11.out.size (fun k hk => (X11.out.lt k hk).1)
  have Z12 := Lib.hid (Z11.out.trans hb6)
  have O12 := Lib.hid (O11.out.kept hg AXO.out)
  have G12 := Lib.hid (G11.out.kept hg AXG.out)
  have Y12 := Lib.hid (Y11.out.kept hg (apart_symm AXY.out))
  clear hb6 hg hm Z11 O11 G11 Y11 X11
  go_wp2_with fail
  refine (markInt _ xs1 _ K (by omega) HN1.out hx1 Y12.out).mono ?_
  rintro e p13 ⟨he, hm, hg⟩
  rw [hK2] at he
  subst he
  have hb6 : Below w.heap.size p12 p13 := (Below.refl _ _).grown hg Z12.out.size (fun k hk => (Y12.out.lt k hk).1)
  have Z13 := Lib.hid (Z12.out.trans hb6)
  have O13 := Lib.hid (O12.out.kept hg AYO.out)
  have G13 := Lib.hid (G12.out.kept hg AYG.out)
  clear hb6 hg hm Z12 O12 G12 Y12
  go_wp2_with fail
  refine (eqInt gv ov xs _ HM.out (by omega) G13.out O13.out).mono ?_
  rintro e p14 ⟨rfl, q, rfl⟩
  have hb := drewN_belowI p13 q
  have Z14 := Lib.hid (Z13.out.trans (hb.mono Z13.out.size))
  have O14 := Lib.hid (own_below O13.out hb)
  have G14 := Lib.hid (own_below G13.out hb)
  clear hb Z13 O13 G13
  generalize p13.drewN q = p14 at *
  go_wp2_with fail
  refine (markInt _ xs _ 1 (by omega) HM.out (by omega) G14.out).mono ?_
  rintro e p15 ⟨he, hm, hg⟩
  subst he
  have hb6 : Below w.heap.size p14 p15 := (Below.refl _ _).grown hg Z14.out.size (fun k hk => (G14.out.lt k hk).1)
  have Z15 := Lib.hid (Z14.out.trans hb6)
  have O15 := Lib.hid (O14.out.kept hg AP.out)
  have M15 := Lib.hid hm
  clear hb6 hg hm Z14 O14 G14
  go_wp2_with fail
  refine (heldInt gv _ 1 (by omega) (by omega) M15.out).mono ?_
  rintro e p16 ⟨rfl, q, rfl⟩
  have hb := drewN_belowI p15 q
  have Z16 := Lib.hid (Z15.out.trans (hb.mono Z15.out.size))
  have O16 := Lib.hid (own_below O15.out hb)
  have M16 := Lib.hid (own_below M15.out hb)
  clear hb Z15 O15 M15
  generalize p15.drewN q = p16 at *
  go_wp2_with fail
  refine (toInts _ hx0 (HA0.out.later Z16.out)).mono ?_
  rintro e p17 ⟨v, rfl, hh, hb⟩
  have Z17 := Lib.hid (Z16.out.trans (hb.mono Z16.out.size))
  have O17 := Lib.hid (own_below O16.out hb)
  have M17 := Lib.hid (own_below M16.out hb)
  have hh := own_base hh Z16.out.size
  rw [HN0.out] at hh
  obtain ⟨xa, xc, rfl⟩ := int_form hh
  have X17 := Lib.hid hh
  clear hh
  clear hb Z16 O16 M16
  go_wp2_with fail
  refine (toInts _ hx1 (HA1.out.later Z17.out)).mono ?_
  rintro e p18 ⟨v, rfl, hh, hb⟩
  have Z18 := Lib.hid (Z17.out.trans (hb.mono Z17.out.size))
  have O18 := Lib.hid (own_below O17.out hb)
  have M18 := Lib.hid (own_below M17.out hb)
  have X18 := Lib.hid (own_below X17.out hb)
  have hh := own_base hh Z17.out.size
  rw [HN1.out] at hh
  obtain ⟨ya, yc, rfl⟩ := int_form hh
  have Y18 := Lib.hid hh
  clear hh
  clear hb Z17 O17 M17 X17
  go_wp2_with fail
  refine (HI.out _ _ _ _ _ (ints_own X18.out HN0.out) (ints_own Y18.out HN1.out)).mono ?_
  rintro e p19 ⟨hv, rfl, hh, hb⟩
  have Z19 := Lib.hid (Z18.out.trans (hb.mono Z18.out.size))
  have O19 := Lib.hid (own_below O18.out hb)
  have M19 := Lib.hid (own_below M18.out hb)
  have X19 := Lib.hid (own_below X18.out hb)
  have Y19 := Lib.hid (own_below Y18.out hb)
  have hh := own_base hh Z18.out.size
  rw [HM.out] at hh
  have H19 := Lib.hid hh
  clear hh
  clear hb Z18 O18 M18 X18 Y18
  clear X19
  clear Y19
  go_wp2_with fail
  refine (eqInt hv ov xs _ HM.out (by omega) H19.out O19.out).mono ?_
  rintro e p20 ⟨rfl, q, rfl⟩
  have hb := drewN_belowI p19 q
  have Z20 := Lib.hid (Z19.out.trans (hb.mono Z19.out.size))
  have O20 := Lib.hid (own_below O19.out hb)
  have M20 := Lib.hid (own_below M19.out hb)
  have H20 := Lib.hid (own_below H19.out hb)
  clear hb Z19 O19 M19 H19
  generalize p19.drewN q = p20 at *
  clear H20
  go_wp2_with fail
  refine (heldInt gv _ 1 (by omega) (by omega) M20.out).mono ?_
  rintro e p21 ⟨rfl, q, rfl⟩
  have hb := drewN_belowI p20 q
  have Z21 := Lib.hid (Z20.out.trans (hb.mono Z20.out.size))
  have O21 := Lib.hid (own_below O20.out hb)
  have M21 := Lib.hid (own_below M20.out hb)
  clear hb Z20 O20 M20
  generalize p20.drewN q = p21 at *
  go_wp2_with fail
  go_ret
  exact ⟨rfl, Z21.out⟩
set_option maxRecDepth 100000 in
theorem lifted (os : Os) (started : os.Started) (H : Type) (enc : TypeId × Value → H) :
    ReturnsInHanded {} Try.checked os 6 .any (Rows.fnExactCommonOfSpec.pre6 enc Try.prog Try.f6 Rows.fnExactCommonOfRow.domain false) (Rows.fnExactCommonOfSpec.post enc Try.prog Try.f6 false true false false) := by
  refine returnsInHanded_of_change (C := Try.checked) own started (by kernel_rfl) Try.func6
    (ChangeSpec.witness6 (enc := enc) (C := Try.checked) false ⟨#[], #[.slice none 0 0, .slice none 0 0], []⟩ 8 (by kernel_rfl) (by kernel_rfl) (by kernel_rfl) (by kernel_rfl)) ?_
  intro W base args ds gs before hval0 hW hcnd _
  have hval : ∀ (j : Nat) t v, Try.f6.params[j]? = some t → args[j]? = some v → Value.okWide Try.prog W .any base t v := hval0
  have hW' := hW
  obtain ⟨p, q, hA0, hV, rfl, hfz, hnd⟩ := hW
  have hA : DataW.TrodAll enc Try.prog W 0 (fun _ => true) true Try.f6.params.toList args.toList ds p := hA0
  rw [Try.params6] at hA hval
  obtain ⟨v0, vs0, d0, ds0, p0, q0, hargs, rfl, rfl, h0, r0⟩ := trodAll_cons hA
  obtain ⟨v1, vs1, d1, ds1, p1, q1, rfl, rfl, rfl, h1, r1⟩ := trodAll_cons r0
  obtain ⟨rfl, rfl, rfl⟩ := trodAll_nil r1
  obtain rfl : args = #[v0, v1] := by cases args; simp_all
  obtain ⟨rfl, rfl⟩ := trodVars_none hV
  obtain ⟨a0, len0, cap0, rfl⟩ := okWide_slice Try.underlying30 (hval 0 30 v0 rfl rfl)
  have k0 := h0
  have lt0 : ∀ x ∈ p0, x.block < W.heap.size := by obtain ⟨m, hm⟩ := k0; exact DataW.trod_lt m _ _ _ hm
  obtain ⟨z0, w0⟩ : ∃ zs, IsRow .i64 W a0 len0 cap0 zs := by
    obtain ⟨fuel, hf⟩ := h0
    rcases open_ints Try.underlying30 Try.underlying3 (by kernel_rfl) hf with ⟨hcs, _⟩ | ⟨x, l, c, zs, hcs, _, hl, hm, hz, _, hcell, hwz⟩
    · simp [Value.cells] at hcs
      obtain ⟨rfl, rfl, rfl⟩ := hcs
      exact ⟨[], .inl ⟨rfl, rfl, rfl, rfl⟩⟩
    · simp [Value.cells] at hcs
      obtain ⟨rfl, rfl, rfl⟩ := hcs
      exact ⟨zs, .inr ⟨_, rfl, hl, hm, by simpa using hz, hcell, hwz⟩⟩
  obtain ⟨a1, len1, cap1, rfl⟩ := okWide_slice Try.underlying30 (hval 1 30 v1 rfl rfl)
  have k1 := h1
  have lt1 : ∀ x ∈ p1, x.block < W.heap.size := by obtain ⟨m, hm⟩ := k1; exact DataW.trod_lt m _ _ _ hm
  obtain ⟨z1, w1⟩ : ∃ zs, IsRow .i64 W a1 len1 cap1 zs := by
    obtain ⟨fuel, hf⟩ := h1
    rcases open_ints Try.underlying30 Try.underlying3 (by kernel_rfl) hf with ⟨hcs, _⟩ | ⟨x, l, c, zs, hcs, _, hl, hm, hz, _, hcell, hwz⟩
    · simp [Value.cells] at hcs
      obtain ⟨rfl, rfl, rfl⟩ := hcs
      exact ⟨[], .inl ⟨rfl, rfl, rfl, rfl⟩⟩
    · simp [Value.cells] at hcs
      obtain ⟨rfl, rfl, rfl⟩ := hcs
      exact ⟨zs, .inr ⟨_, rfl, hl, hm, by simpa using hz, hcell, hwz⟩⟩
  clear hA0 hval0
  refine (walk a0 len0 cap0 z0 a1 len1 cap1 z1 W w0 w1).mono fun e W' ⟨he, bel⟩ => ?_
  subst he
  exact ⟨_, rfl, _, _, _, [], _, [], hW', trodAll_mk1 (shut_bool Try.underlying4 _), (trodAll_cons_mk (Below.trod laidOut (by kernel_rfl) (of_decide_eq_true (by kernel_rfl)) k0 bel lt0) (trodAll_cons_mk (Below.trod laidOut (by kernel_rfl) (of_decide_eq_true (by kernel_rfl)) k1 bel lt1) trodAll_mk0)), rfl, bel.frame _, fun h => by cases h⟩

theorem over : Rows.fnExactCommonOfRow.holds Try.pinned (OpenSpec.ofChange Rows.fnExactCommonOfSpec) :=
  OpenClaim.holds_of_wide 6 Try.f6 rfl rfl rfl rfl rfl rfl rfl ⟨rfl, rfl, rfl, rfl, rfl⟩ rfl rfl rfl rfl rfl (by kernel_rfl) Try.func6 (by kernel_rfl)
    (of_decide_eq_true (by kernel_rfl)) (by unfold Func.isWrapper; first | (rw [if_pos (by decide +kernel)]; kernel_rfl) | (rw [if_neg (by decide +kernel)]; exact ⟨rfl, rfl⟩))
    (fun os started H enc _ => lifted os started H enc)

theorem proved : Rows.FnExactCommonOfSaid := over
end Go.Proofs.Ytgkmapemnlgldaa.fnExactCommonOf
