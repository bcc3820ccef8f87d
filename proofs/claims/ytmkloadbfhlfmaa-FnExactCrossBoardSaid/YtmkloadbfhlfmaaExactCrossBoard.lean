/- The law FnExactCrossBoard returns true: the program and the model give the same board. No condition. -/
import Derived.Test.YtmkloadbfhlfmaaRows
import Derived.WalkKit
import Derived.WalkSpells
import Derived.ProofKit
import Derived.OpenShut
import Derived.ShutString
import Derived.ChangeOld
import Derived.Below
import Derived.Lib.Hide
import Derived.Lib.SmallJoins
import Derived.ChangeArms
import Derived.Test.YtmkloadbfhlfmaaCross
namespace Go.Proofs.Ytmkloadbfhlfmaa.fnExactCrossBoard
open Go.ChangeShapes Go.WideShapes Go.ChangeAt Go.RowKit
open Go.ChangeMaps (open_string shut_string)
set_option linter.unusedVariables false
theorem own : ownKnob Try.prog.godebug = none := by kernel_rfl
theorem laidOut : laidOutB Try.prog = true := by kernel_rfl
theorem walk (w : World) :
    Calls Try.prog 8 #[] w fun e w' => e = .returned (.bool true) ∧ Below w.heap.size w w' := by
  have HS := Lib.hid (specCross)
  have HI := Lib.hid (implCross)
  go_enter Try.func8, Try.ntmps8
  go_wp2_with fail
  refine (HS.out _).mono ?_
  rintro e w1 ⟨rfl, hb1⟩
  unfold bd
  go_wp2_with fail
  have B1 := Lib.hid (box_newT 25 7 7 (crossN 49) w1)
  generalize w1.alloc (.cells #[.int .i64 7, .int .i64 7, .int .i64 (crossN 49)] 25) = W1 at *
  refine (HI.out _).mono ?_
  rintro e w2 ⟨rfl, hb2⟩
  unfold bd
  have B2 := Lib.hid (B1.out.later hb2)
  clear hb2 B1
  obtain ⟨c0, c1, c2, hlt, hbw⟩ := B2.out
  have hbx := hb1.trans (hbw.mono hb1.size)
  clear B2 hbw
  go_wp2_with fail
  refine (eqBd _ _ _ _).mono ?_
  rintro e w3 ⟨rfl, hb3⟩
  have hb4 := hbx.trans (((Below.refl _ _).alloc (Nat.le_refl _) _).mono hbx.size |>.trans (hb3.mono (Nat.le_trans hbx.size (by simp))))
  clear hb3 hbx c0 c1 c2 hlt hb1
  go_wp2_with fail
  go_ret
  exact ⟨rfl, hb4⟩
set_option maxRecDepth 100000 in
theorem lifted (os : Os) (started : os.Started) (H : Type) (enc : TypeId × Value → H) :
    ReturnsInHanded {} Try.checked os 8 .any (Rows.fnExactCrossBoardSpec.pre6 enc Try.prog Try.f8 Rows.fnExactCrossBoardRow.domain false) (Rows.fnExactCrossBoardSpec.post enc Try.prog Try.f8 false true false false) := by
  refine returnsInHanded_of_change (C := Try.checked) own started (by kernel_rfl) Try.func8
    (ChangeSpec.witness6 (enc := enc) (C := Try.checked) false ⟨#[], #[], []⟩ 8 (by kernel_rfl) (by kernel_rfl) (by kernel_rfl) (by kernel_rfl)) ?_
  intro W base args ds gs before hval0 hW hcnd _
  have hval : ∀ (j : Nat) t v, Try.f8.params[j]? = some t → args[j]? = some v → Value.okWide Try.prog W .any base t v := hval0
  have hW' := hW
  obtain ⟨p, q, hA0, hV, rfl, hfz, hnd⟩ := hW
  have hA : DataW.TrodAll enc Try.prog W 0 (fun _ => true) true Try.f8.params.toList args.toList ds p := hA0
  rw [Try.params8] at hA hval
  obtain ⟨rfl, rfl, rfl⟩ := trodAll_none hA
  obtain ⟨rfl, rfl⟩ := trodVars_none hV
  clear hA0 hval0
  refine (walk  W).mono fun e W' ⟨he, bel⟩ => ?_
  subst he
  exact ⟨_, rfl, _, _, _, [], _, [], hW', trodAll_mk1 (shut_bool Try.underlying4 _), trodAll_mk0, rfl, bel.frame _, fun h => by cases h⟩

theorem over : Rows.fnExactCrossBoardRow.holds Try.pinned (OpenSpec.ofChange Rows.fnExactCrossBoardSpec) :=
  OpenClaim.holds_of_wide 8 Try.f8 rfl rfl rfl rfl rfl rfl rfl ⟨rfl, rfl, rfl, rfl, rfl⟩ rfl rfl rfl rfl rfl (by kernel_rfl) Try.func8 (by kernel_rfl)
    (of_decide_eq_true (by kernel_rfl)) (by unfold Func.isWrapper; first | (rw [if_pos (by decide +kernel)]; kernel_rfl) | (rw [if_neg (by decide +kernel)]; exact ⟨rfl, rfl⟩))
    (fun os started H enc _ => lifted os started H enc)

theorem proved : Rows.FnExactCrossBoardSaid := over
end Go.Proofs.Ytmkloadbfhlfmaa.fnExactCrossBoard
