/- The law FnExactWeightTo returns true for every soldier and every int: the program and the model give the same golden number. No condition. -/
import Derived.Test.YtoginbmflomjeaaRows
import Derived.WalkKit
import Derived.WalkSpells
import Derived.ProofKit
import Derived.OpenShut
import Derived.ShutString
import Derived.ChangeOld
import Derived.Below
import Derived.Lib.Hide
import Derived.Lib.SmallJoins
import Derived.ChangeArms
import Derived.Test.YtoginbmflomjeaaArmyB
import Derived.Test.YtoginbmflomjeaaArmyI
namespace Go.Proofs.Ytoginbmflomjeaa.fnExactWeightTo
open Go.ChangeShapes Go.WideShapes Go.ChangeAt Go.RowKit
open Go.ChangeMaps (open_string shut_string)
set_option linter.unusedVariables false
set_option linter.unusedSimpArgs false
theorem own : ownKnob Try.prog.godebug = none := by kernel_rfl
theorem laidOut : laidOutB Try.prog = true := by kernel_rfl
set_option maxHeartbeats 1000000 in
theorem walk (a0_0 : Int) (a0_1 : Int) (a1 : Int) (w : World) (w0_0 : (Lit.int .i64 a0_0).wf = true) (w0_1 : (Lit.int .i64 a0_1).wf = true) (w1 : (Lit.int .i64 a1).wf = true) :
    Calls Try.prog 5 #[.agg #[.int .i64 a0_0, .int .i64 a0_1], .int .i64 a1] w fun e w' => e = .returned (.bool true) ∧ Below w.heap.size w w' := by
  clear w0_0 w0_1 w1
  have HS := Lib.hid (fun w => specWeightTo a0_0 a0_1 a1 w)
  have HI := Lib.hid (fun w => implWeightTo a0_0 a0_1 a1 w)
  obtain ⟨⟨x, y⟩, hx⟩ : ∃ r, wtB (a0_0, a0_1) a1 = r := ⟨_, rfl⟩
  rw [hx] at HS HI
  clear hx
  go_enter Try.func5, Try.ntmps5
  go_wp2_with fail
  have A0 : Hid (Bg 44 w.heap.size a0_0 a0_1 (w.alloc (.cells #[.int .i64 a0_0, .int .i64 a0_1] 44))) := heap_alloc_new w _
  have B0 : Hid (Below w.heap.size w (w.alloc (.cells #[.int .i64 a0_0, .int .i64 a0_1] 44))) := (Below.refl _ _).alloc (Nat.le_refl _) _
  generalize w.alloc (.cells #[.int .i64 a0_0, .int .i64 a0_1] 44) = W1 at *
  obtain ⟨k0, k1, -, -⟩ := two_facts A0.out
  go_wp2_with fail
  refine (toSd _ _ _).mono ?_
  rintro e w1 ⟨rfl, hb⟩
  have A1 := Lib.hid (A0.out.later hb)
  have B1 := Lib.hid (B0.out.trans (hb.mono B0.out.size))
  clear hb A0 B0 k0 k1
  go_wp2_with fail
  refine (HS.out _).mono ?_
  rintro e w2 ⟨rfl, hb⟩
  have hba : Below w2.heap.size w2 (w2.alloc (.cells #[.int .i64 x, .int .i64 y] 31)) := (Below.refl _ _).alloc (Nat.le_refl _) _
  have A3 := Lib.hid ((A1.out.later hb).later hba)
  have B2 := Lib.hid (B1.out.trans (hb.mono B1.out.size))
  have B3 := Lib.hid (B2.out.trans (hba.mono B2.out.size))
  have R3 : Hid (Bg 31 w2.heap.size x y (w2.alloc (.cells #[.int .i64 x, .int .i64 y] 31))) := heap_alloc_new w2 _
  obtain ⟨k0, k1, -, -⟩ := two_facts A3.out
  clear hb A1 B1 B2
  go_wp2_with fail
  generalize w2.alloc (.cells #[.int .i64 x, .int .i64 y] 31) = w3 at *
  generalize w2.heap.size = p1 at *
  clear hba k0 k1
  refine (toSd _ _ _).mono ?_
  rintro e w4 ⟨rfl, hb⟩
  have B4 := Lib.hid (B3.out.trans (hb.mono B3.out.size))
  have R4 := Lib.hid (R3.out.later hb)
  clear hb B3 R3 A3
  go_wp2_with fail
  refine (HI.out _).mono ?_
  rintro e w5 ⟨rfl, hb⟩
  have B5 := Lib.hid (B4.out.trans (hb.mono B4.out.size))
  have R5 := Lib.hid (R4.out.later hb)
  clear hb B4 R4
  have B6 : Hid (Below w.heap.size w (w5.alloc (.cells #[.int .i64 x, .int .i64 y] 31))) := B5.out.alloc B5.out.size _
  obtain ⟨c0, c1, -, -⟩ := two_facts (row_alloc (o' := .cells #[.int .i64 x, .int .i64 y] 31) R5.out)
  clear R5 B5
  go_wp2_with fail
  refine (eqGd x y _).mono ?_
  rintro e w9 ⟨rfl, hb⟩
  have B7 := Lib.hid (B6.out.trans (hb.mono B6.out.size))
  clear hb B6 c0 c1
  go_wp2_with fail
  go_ret
  exact ⟨rfl, B7.out⟩
set_option maxRecDepth 100000 in
theorem lifted (os : Os) (started : os.Started) (H : Type) (enc : TypeId × Value → H) :
    ReturnsInHanded {} Try.checked os 5 .any (Rows.fnExactWeightToSpec.pre6 enc Try.prog Try.f5 Rows.fnExactWeightToRow.domain false) (Rows.fnExactWeightToSpec.post enc Try.prog Try.f5 false true false false) := by
  refine returnsInHanded_of_change (C := Try.checked) own started (by kernel_rfl) Try.func5
    (ChangeSpec.witness6 (enc := enc) (C := Try.checked) false ⟨#[], #[.agg #[.int .i64 0, .int .i64 0], .int .i64 0], []⟩ 8 (by kernel_rfl) (by kernel_rfl) (by kernel_rfl) (by kernel_rfl)) ?_
  intro W base args ds gs before hval0 hW hcnd _
  have hval : ∀ (j : Nat) t v, Try.f5.params[j]? = some t → args[j]? = some v → Value.okWide Try.prog W .any base t v := hval0
  have hW' := hW
  obtain ⟨p, q, hA0, hV, rfl, hfz, hnd⟩ := hW
  have hA : DataW.TrodAll enc Try.prog W 0 (fun _ => true) true Try.f5.params.toList args.toList ds p := hA0
  rw [Try.params5] at hA hval
  obtain ⟨v0, vs0, d0, ds0, p0, q0, hargs, rfl, rfl, h0, r0⟩ := trodAll_cons hA
  obtain ⟨v1, vs1, d1, ds1, p1, q1, rfl, rfl, rfl, h1, r1⟩ := trodAll_cons r0
  obtain ⟨rfl, rfl, rfl⟩ := trodAll_nil r1
  obtain rfl : args = #[v0, v1] := by cases args; simp_all
  obtain ⟨rfl, rfl⟩ := trodVars_none hV
  obtain ⟨c0_0, c0_1, y0_0, y0_1, m0, rfl, rfl, rfl, hy0_0, hy0_1⟩ := Go.Joins.open_agg2 Try.underlying44 (by kernel_rfl) (by kernel_rfl : Try.prog.cellsOf 44 = 2) (hval 0 44 v0 rfl rfl) h0
  obtain ⟨a0_0, e0_0, rfl, w0_0⟩ := DataW.trod_int Try.underlying3 hy0_0
  obtain ⟨a0_1, e0_1, rfl, w0_1⟩ := DataW.trod_int Try.underlying3 hy0_1
  simp only [List.cons.injEq, and_true] at e0_0 e0_1
  subst e0_0 e0_1
  obtain ⟨a1, rfl, rfl, rfl, w1⟩ := open_int Try.underlying3 (hval 1 3 v1 rfl rfl) h1
  clear hA0 hval0
  refine (walk a0_0 a0_1 a1 W w0_0 w0_1 w1).mono fun e W' ⟨he, bel⟩ => ?_
  subst he
  exact ⟨_, rfl, _, _, _, [], _, [], hW', trodAll_mk1 (shut_bool Try.underlying4 _), (trodAll_cons_mk (Go.Joins.shut_agg2 (y0 := (.lit (.int .i64 a0_0), [])) (y1 := (.lit (.int .i64 a0_1), [])) Try.underlying44 (by kernel_rfl) (by kernel_rfl : Try.prog.cellsOf 44 = 2) (shut_int Try.underlying3 w0_0) (shut_int Try.underlying3 w0_1)) (trodAll_cons_mk (shut_int Try.underlying3 w1) trodAll_mk0)), rfl, bel.frame _, fun h => by cases h⟩

theorem over : Rows.fnExactWeightToRow.holds Try.pinned (OpenSpec.ofChange Rows.fnExactWeightToSpec) :=
  OpenClaim.holds_of_wide 5 Try.f5 rfl rfl rfl rfl rfl rfl rfl ⟨rfl, rfl, rfl, rfl, rfl⟩ rfl rfl rfl rfl rfl (by kernel_rfl) Try.func5 (by kernel_rfl)
    (of_decide_eq_true (by kernel_rfl)) (by unfold Func.isWrapper; first | (rw [if_pos (by decide +kernel)]; kernel_rfl) | (rw [if_neg (by decide +kernel)]; exact ⟨rfl, rfl⟩))
    (fun os started H enc _ => lifted os started H enc)

theorem proved : Rows.FnExactWeightToSaid := over
end Go.Proofs.Ytoginbmflomjeaa.fnExactWeightTo
