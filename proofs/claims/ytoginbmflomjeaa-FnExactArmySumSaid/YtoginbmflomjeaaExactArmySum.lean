/- The law FnExactArmySum returns true for every slice of soldiers and every int: the program and the model give the same golden number, and the slice is left as it was. No condition. -/
import Derived.Test.YtoginbmflomjeaaRows
import Derived.WalkKit
import Derived.WalkSpells
import Derived.ProofKit
import Derived.OpenShut
import Derived.ShutString
import Derived.ChangeOld
import Derived.Below
import Derived.Lib.Hide
import Derived.Lib.SmallJoins
import Derived.ChangeArms
import Derived.Test.YtoginbmflomjeaaArmyB
import Derived.Test.YtoginbmflomjeaaArmyJ
namespace Go.Proofs.Ytoginbmflomjeaa.fnExactArmySum
open Go.ChangeShapes Go.WideShapes Go.ChangeAt Go.RowKit
open Go.ChangeMaps (open_string shut_string)
set_option linter.unusedVariables false
set_option linter.unusedSimpArgs false
theorem own : ownKnob Try.prog.godebug = none := by kernel_rfl
theorem laidOut : laidOutB Try.prog = true := by kernel_rfl
set_option maxHeartbeats 2000000 in
set_option maxRecDepth 100000 in
theorem walk (a0 : Option Addr) (len0 cap0 : Nat) (z0 : List Sd) (a1 : Int) (w : World) (w0 : SoldsAt w a0 len0 z0) (m0 : len0 ≤ maxLen) (w1 : (Lit.int .i64 a1).wf = true) :
    Calls Try.prog 6 #[.slice a0 len0 cap0, .int .i64 a1] w fun e w' => e = .returned (.bool true) ∧ Below w.heap.size w w' := by
  clear w1
  by_cases hx : len0 ≤ 1048576
  rotate_left
  · go_enter Try.func6, Try.ntmps6
    go_wp2_with fail
    refine (szs_far _ (Nat.lt_of_not_le hx) m0).mono ?_
    rintro e p1 ⟨rfl, rfl⟩
    go_wp2_with fail
    go_ret
    exact ⟨rfl, Below.refl _ _⟩
  have HA := Lib.hid w0
  have HN := Lib.hid w0.1
  clear w0 m0
  have CT : Hid (∀ W, Below w.heap.size w W → Calls Try.prog 21 #[.slice a0 len0 cap0] W (OwnSolds z0 W)) := fun W hb => toSolds W hx (HA.out.later hb)
  obtain ⟨⟨x, y⟩, hv⟩ : ∃ r, asumB z0 a1 = r := ⟨_, rfl⟩
  have HS : Hid (∀ (g : Option Addr) (c : Nat) (W : World), SoldsAt W g len0 z0 → Calls Try.prog 26 #[.slice g len0 c, .int .i64 a1] W (GQ x y W)) := fun g c W h => by have := specArmySum (c := c) a1 W hx h; rw [hv] at this; exact this
  have HI : Hid (∀ (g : Option Addr) (c : Nat) (W : World), SoldsAt W g len0 z0 → Calls Try.prog 15 #[.slice g len0 c, .int .i64 a1] W (GQ x y W)) := fun g c W h => by have := implArmySum (c := c) a1 W hx h; rw [hv] at this; exact this
  have CE : Hid (∀ (g1 g2 : Option Addr) (c1 c2 : Nat) (W : World), SoldsAt W g1 len0 z0 → SoldsAt W g2 len0 z0 → Calls Try.prog 22 #[.slice g1 len0 c1, .slice g2 len0 c2] W fun e w' => e = .returned (.bool true) ∧ Below W.heap.size W w') := fun g1 g2 c1 c2 W h1 h2 => eqSolds_some z0 W hx h1 h2
  clear hv
  go_enter Try.func6, Try.ntmps6
  go_wp2_with fail
  refine (szs_is _ hx).mono ?_
  rintro e p1 ⟨rfl, rfl⟩
  have hleft : ¬ ((1048576 - len0 : Nat) : Int) < 0 := by omega
  go_wp2_with fail
  clear hleft
  refine (CT.out _ (Below.refl _ _)).mono ?_
  rintro e p2 ⟨u, rfl, hh, hb⟩
  rw [HN.out] at hh
  obtain ⟨ua, uc, rfl⟩ := solds_form hh
  have U1 := Lib.hid (solds_own hh HN.out)
  have B1 := Lib.hid (hb)
  clear hh hb
  go_wp2_with fail
  refine (HS.out _ _ _ U1.out).mono ?_
  rintro e p3 ⟨rfl, hb⟩
  have B2 := Lib.hid (B1.out.trans (hb.mono B1.out.size))
  clear hb B1 U1
  have hba : Below p3.heap.size p3 (p3.alloc (.cells #[.int .i64 x, .int .i64 y] 31)) := (Below.refl _ _).alloc (Nat.le_refl _) _
  have R2 : Hid (Bg 31 p3.heap.size x y (p3.alloc (.cells #[.int .i64 x, .int .i64 y] 31))) := heap_alloc_new p3 _
  have B2 := Lib.hid (B2.out.trans (hba.mono B2.out.size))
  go_wp2_with fail
  generalize p3.alloc (.cells #[.int .i64 x, .int .i64 y] 31) = p3 at *
  clear hba
  refine (CT.out _ B2.out).mono ?_
  rintro e p4 ⟨v, rfl, hh, hb⟩
  rw [HN.out] at hh
  obtain ⟨va, vc, rfl⟩ := solds_form hh
  have V3 := Lib.hid (solds_own hh HN.out)
  have B3 := Lib.hid (B2.out.trans (hb.mono B2.out.size))
  have R3 := Lib.hid (R2.out.later hb)
  clear R2
  clear hh hb B2
  go_wp2_with fail
  refine (HI.out _ _ _ V3.out).mono ?_
  rintro e p5 ⟨rfl, hb⟩
  have B4 := Lib.hid (B3.out.trans (hb.mono B3.out.size))
  have V4 := Lib.hid (V3.out.later hb)
  have R4 := Lib.hid (R3.out.later hb)
  clear hb B3 V3 R3
  have hba : Below p5.heap.size p5 (p5.alloc (.cells #[.int .i64 x, .int .i64 y] 31)) := (Below.refl _ _).alloc (Nat.le_refl _) _
  have B5 := Lib.hid (B4.out.trans (hba.mono B4.out.size))
  have V5 := Lib.hid (V4.out.later hba)
  obtain ⟨c0, c1, -, -⟩ := two_facts (R4.out.later hba)
  clear R4 B4 V4
  go_wp2_with fail
  generalize p5.alloc (.cells #[.int .i64 x, .int .i64 y] 31) = p6 at *
  clear hba c0 c1
  refine (eqGd x y _).mono ?_
  rintro e p7 ⟨rfl, hb⟩
  have B6 := Lib.hid (B5.out.trans (hb.mono B5.out.size))
  have V6 := Lib.hid (V5.out.later hb)
  clear hb B5 V5
  go_wp2_with fail
  refine (CT.out _ B6.out).mono ?_
  rintro e p8 ⟨t, rfl, hh, hb⟩
  rw [HN.out] at hh
  obtain ⟨ta, tc, rfl⟩ := solds_form hh
  have T9 := Lib.hid (solds_own hh HN.out)
  have V9 := Lib.hid (V6.out.later hb)
  have B9 := Lib.hid (B6.out.trans (hb.mono B6.out.size))
  clear hh hb B6 V6
  go_wp2_with fail
  refine (CE.out _ _ _ _ _ V9.out T9.out).mono ?_
  rintro e p10 ⟨rfl, hb⟩
  have B10 := Lib.hid (B9.out.trans (hb.mono B9.out.size))
  clear hb B9
  go_wp2_with fail
  go_ret
  exact ⟨rfl, B10.out⟩
set_option maxRecDepth 100000 in
theorem lifted (os : Os) (started : os.Started) (H : Type) (enc : TypeId × Value → H) :
    ReturnsInHanded {} Try.checked os 6 .any (Rows.fnExactArmySumSpec.pre6 enc Try.prog Try.f6 Rows.fnExactArmySumRow.domain false) (Rows.fnExactArmySumSpec.post enc Try.prog Try.f6 false true false false) := by
  refine returnsInHanded_of_change (C := Try.checked) own started (by kernel_rfl) Try.func6
    (ChangeSpec.witness6 (enc := enc) (C := Try.checked) false ⟨#[], #[.slice none 0 0, .int .i64 0], []⟩ 8 (by kernel_rfl) (by kernel_rfl) (by kernel_rfl) (by kernel_rfl)) ?_
  intro W base args ds gs before hval0 hW hcnd _
  have hval : ∀ (j : Nat) t v, Try.f6.params[j]? = some t → args[j]? = some v → Value.okWide Try.prog W .any base t v := hval0
  have hW' := hW
  obtain ⟨p, q, hA0, hV, rfl, hfz, hnd⟩ := hW
  have hA : DataW.TrodAll enc Try.prog W 0 (fun _ => true) true Try.f6.params.toList args.toList ds p := hA0
  rw [Try.params6] at hA hval
  obtain ⟨v0, vs0, d0, ds0, p0, q0, hargs, rfl, rfl, h0, r0⟩ := trodAll_cons hA
  obtain ⟨v1, vs1, d1, ds1, p1, q1, rfl, rfl, rfl, h1, r1⟩ := trodAll_cons r0
  obtain ⟨rfl, rfl, rfl⟩ := trodAll_nil r1
  obtain rfl : args = #[v0, v1] := by cases args; simp_all
  obtain ⟨rfl, rfl⟩ := trodVars_none hV
  obtain ⟨a0, len0, cap0, rfl⟩ := okWide_slice Try.underlying39 (hval 0 39 v0 rfl rfl)
  have k0 := h0
  have lt0 : ∀ x ∈ p0, x.block < W.heap.size := by obtain ⟨m, hm⟩ := k0; exact DataW.trod_lt m _ _ _ hm
  obtain ⟨z0, w0, m0⟩ := solds_of Try.underlying39 Try.underlying44 (by kernel_rfl) (by kernel_rfl) Try.underlying3 Try.underlying3 h0
  obtain ⟨a1, rfl, rfl, rfl, w1⟩ := open_int Try.underlying3 (hval 1 3 v1 rfl rfl) h1
  clear hA0 hval0
  refine (walk a0 len0 cap0 z0 a1 W w0 m0 w1).mono fun e W' ⟨he, bel⟩ => ?_
  subst he
  exact ⟨_, rfl, _, _, _, [], _, [], hW', trodAll_mk1 (shut_bool Try.underlying4 _), (trodAll_cons_mk (Below.trod laidOut (by kernel_rfl) (of_decide_eq_true (by kernel_rfl)) k0 bel lt0) (trodAll_cons_mk (shut_int Try.underlying3 w1) trodAll_mk0)), rfl, bel.frame _, fun h => by cases h⟩

theorem over : Rows.fnExactArmySumRow.holds Try.pinned (OpenSpec.ofChange Rows.fnExactArmySumSpec) :=
  OpenClaim.holds_of_wide 6 Try.f6 rfl rfl rfl rfl rfl rfl rfl ⟨rfl, rfl, rfl, rfl, rfl⟩ rfl rfl rfl rfl rfl (by kernel_rfl) Try.func6 (by kernel_rfl)
    (of_decide_eq_true (by kernel_rfl)) (by unfold Func.isWrapper; first | (rw [if_pos (by decide +kernel)]; kernel_rfl) | (rw [if_neg (by decide +kernel)]; exact ⟨rfl, rfl⟩))
    (fun os started H enc _ => lifted os started H enc)

theorem proved : Rows.FnExactArmySumSaid := over
end Go.Proofs.Ytoginbmflomjeaa.fnExactArmySum
