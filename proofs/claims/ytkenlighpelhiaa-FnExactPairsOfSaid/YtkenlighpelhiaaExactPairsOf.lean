/- The law FnExactPairsOf returns true for every board: the program and the model give the same list of pairs, in new memory that no second call touches. No condition. -/
import Derived.Test.YtkenlighpelhiaaRows
import Derived.WalkKit
import Derived.WalkSpells
import Derived.ProofKit
import Derived.OpenShut
import Derived.ShutString
import Derived.ChangeOld
import Derived.Below
import Derived.Lib.Hide
import Derived.Lib.SmallJoins
import Derived.ChangeArms
import Derived.Test.YtkenlighpelhiaaBackR
import Derived.Test.YtkenlighpelhiaaBoards
namespace Go.Proofs.Ytkenlighpelhiaa.fnExactPairsOf
open Go.ChangeShapes Go.WideShapes Go.ChangeAt Go.RowKit
open Go.ChangeMaps (open_string shut_string)
set_option linter.unusedVariables false
set_option linter.unusedSimpArgs false
theorem own : ownKnob Try.prog.godebug = none := by kernel_rfl
theorem laidOut : laidOutB Try.prog = true := by kernel_rfl
set_option maxHeartbeats 1000000 in
theorem walk (a0_0 : Int) (a0_1 : Int) (a0_2 : Int) (w : World) (w0_0 : (Lit.int .i64 a0_0).wf = true) (w0_1 : (Lit.int .i64 a0_1).wf = true) (w0_2 : (Lit.int .i64 a0_2).wf = true) :
    Calls Try.prog 6 #[.agg #[.int .i64 a0_0, .int .i64 a0_1, .int .i64 a0_2]] w fun e w' => e = .returned (.bool true) ∧ Below w.heap.size w w' := by
  clear w0_0 w0_1 w0_2
  obtain ⟨xss, hxs⟩ : ∃ xss, pairL a0_0 a0_1 a0_2 = xss := ⟨_, rfl⟩
  have hle : xss.length ≤ 144 := by rw [← hxs]; exact pair_le a0_0 a0_1 a0_2
  have h2 : ∀ xs ∈ xss, xs.length = 2 := fun xs h => pair_two (by rw [hxs]; exact h)
  have htot := total_two h2
  have HX : Hid (∀ xs ∈ xss, xs.length ≤ 1048576) := fun xs h => by rw [h2 xs h]; decide
  have HS := Lib.hid (fun w => specPairs a0_0 a0_1 a0_2 w)
  have HI := Lib.hid (fun w => implPairs a0_0 a0_1 a0_2 w)
  rw [hxs] at HS HI
  have HTot : Hid (1 + total xss ≤ 1000000) := by unfold Hid; omega
  obtain ⟨tt, htt⟩ : ∃ t, 1 + total xss = t := ⟨_, rfl⟩
  have HTT := Lib.hid htt
  have htpos : ¬ (tt : Int) < 0 := by omega
  obtain ⟨n, hn⟩ : ∃ n, xss.length = n := ⟨_, rfl⟩
  rw [hn] at hle
  have HN := Lib.hid hn
  clear hxs h2 htot htt hn
  go_enter Try.func6, Try.ntmps6
  go_wp2_with fail
  have B0 := Lib.hid (box_newT 23 a0_0 a0_1 a0_2 w)
  generalize w.alloc (.cells #[.int .i64 a0_0, .int .i64 a0_1, .int .i64 a0_2] 23) = W1 at *
  refine (toB _ _ _ _).mono ?_
  rintro e w1 ⟨rfl, hb⟩
  have B1 := Lib.hid (B0.out.later hb)
  clear hb B0
  go_wp2_with fail
  refine (HS.out _).mono ?_
  rintro e w2 ⟨v0, n0, vs0, rfl, o0, hb⟩
  obtain rfl : n0 = n := o0.len.symm.trans HN.out
  have B2 := Lib.hid (B1.out.later hb)
  have O2 := Lib.hid o0
  clear hb B1 o0
  obtain ⟨c0, c1, c2, hlt, hbw⟩ := B2.out
  go_wp2_with fail
  refine (toB _ _ _ _).mono ?_
  rintro e w3 ⟨rfl, hb⟩
  have B3 := Lib.hid (B2.out.later hb)
  have O3 := Lib.hid ((O2.out.later hb).raise hb.size (Nat.le_refl _))
  clear hb B2 c0 c1 c2 hlt hbw O2
  go_wp2_with fail
  refine (HI.out _).mono ?_
  rintro e w4 ⟨g0, n1, us0, rfl, og, hb⟩
  obtain rfl : n1 = n0 := og.len.symm.trans HN.out
  have B4 := Lib.hid (B3.out.later hb)
  have O4 := Lib.hid (O3.out.later hb)
  have G4 := Lib.hid og
  have hw3 : w.heap.size < w3.heap.size := B3.out.2.2.2.1
  have hw4 : Hid (w3.heap.size ≤ w4.heap.size) := hb.size
  clear hb B3 O3 og
  go_wp2_with fail
  refine (eqSS w4 (by omega) HX.out G4.out O4.out).mono ?_
  rintro e w5 ⟨rfl, hb⟩
  have B5 := Lib.hid (B4.out.later hb)
  have O5 := Lib.hid (O4.out.later hb)
  have G5 := Lib.hid (G4.out.later hb)
  have hw5 : Hid (w3.heap.size ≤ w5.heap.size) := Nat.le_trans hw4.out hb.size
  clear hb B4 O4 G4
  go_wp2_with fail
  refine (markSS w5 1 (by omega) HTot.out (by decide) hw5.out G5.out).mono ?_
  rintro e w6 ⟨rfl, g6, hb⟩
  rw [HTT.out]
  have G6 := Lib.hid g6
  have O6 := Lib.hid (O5.out.under hb)
  have B6 := Lib.hid (B5.out.kept hb hw3 (Nat.le_of_lt hw3))
  clear g6 hb B5 O5 G5
  go_wp2_with fail
  refine (heldSS w6 1 (by omega) HN.out HTot.out G6.out).mono ?_
  rintro e w7 ⟨rfl, hb⟩
  rw [HTT.out]
  have B7 := Lib.hid (B6.out.later hb)
  have O7 := Lib.hid (O6.out.later hb)
  have G7 := Lib.hid (G6.out.later hb)
  clear hb B6 O6 G6
  obtain ⟨c0, c1, c2, hlt, hbw⟩ := B7.out
  go_wp2_with fail
  refine (toB _ _ _ _).mono ?_
  rintro e w8 ⟨rfl, hb⟩
  have B8 := Lib.hid (B7.out.later hb)
  have O8 := Lib.hid (O7.out.later hb)
  have G8 := Lib.hid (G7.out.later hb)
  clear hb B7 c0 c1 c2 hlt hbw O7 G7
  go_wp2_with fail
  refine (HI.out _).mono ?_
  rintro e w9 ⟨h0, n2, ts0, rfl, oh, hb⟩
  obtain rfl : n2 = n1 := oh.len.symm.trans HN.out
  have H9 := Lib.hid oh
  have B9 := Lib.hid (B8.out.later hb)
  have O9 := Lib.hid (O8.out.later hb)
  have G9 := Lib.hid (G8.out.later hb)
  clear hb oh B8 O8 G8
  go_wp2_with fail
  refine (eqSS w9 (by omega) HX.out H9.out O9.out).mono ?_
  rintro e w10 ⟨rfl, hb⟩
  have G10 := Lib.hid (G9.out.later hb)
  have B10 := Lib.hid (B9.out.later hb)
  clear hb G9 O9 B9 H9
  go_wp2_with fail
  refine (heldSS w10 1 (by omega) HN.out HTot.out G10.out).mono ?_
  rintro e w11 ⟨rfl, hb⟩
  rw [HTT.out]
  have B11 := Lib.hid (B10.out.later hb)
  clear hb B10 G10
  go_wp2_with fail
  go_ret
  exact ⟨rfl, B11.out.2.2.2.2⟩
set_option maxRecDepth 100000 in
theorem lifted (os : Os) (started : os.Started) (H : Type) (enc : TypeId × Value → H) :
    ReturnsInHanded {} Try.checked os 6 .any (Rows.fnExactPairsOfSpec.pre6 enc Try.prog Try.f6 Rows.fnExactPairsOfRow.domain false) (Rows.fnExactPairsOfSpec.post enc Try.prog Try.f6 false true false false) := by
  refine returnsInHanded_of_change (C := Try.checked) own started (by kernel_rfl) Try.func6
    (ChangeSpec.witness6 (enc := enc) (C := Try.checked) false ⟨#[], #[.agg #[.int .i64 0, .int .i64 0, .int .i64 0]], []⟩ 8 (by kernel_rfl) (by kernel_rfl) (by kernel_rfl) (by kernel_rfl)) ?_
  intro W base args ds gs before hval0 hW hcnd _
  have hval : ∀ (j : Nat) t v, Try.f6.params[j]? = some t → args[j]? = some v → Value.okWide Try.prog W .any base t v := hval0
  have hW' := hW
  obtain ⟨p, q, hA0, hV, rfl, hfz, hnd⟩ := hW
  have hA : DataW.TrodAll enc Try.prog W 0 (fun _ => true) true Try.f6.params.toList args.toList ds p := hA0
  rw [Try.params6] at hA hval
  obtain ⟨v0, vs0, d0, ds0, p0, q0, hargs, rfl, rfl, h0, r0⟩ := trodAll_cons hA
  obtain ⟨rfl, rfl, rfl⟩ := trodAll_nil r0
  obtain rfl : args = #[v0] := by cases args; simp_all
  obtain ⟨rfl, rfl⟩ := trodVars_none hV
  obtain ⟨c0_0, c0_1, c0_2, y0_0, y0_1, y0_2, m0, rfl, rfl, rfl, hy0_0, hy0_1, hy0_2⟩ := Go.Joins.open_agg3 Try.underlying23 (by kernel_rfl) (by kernel_rfl : Try.prog.cellsOf 23 = 3) (hval 0 23 v0 rfl rfl) h0
  obtain ⟨a0_0, e0_0, rfl, w0_0⟩ := DataW.trod_int Try.underlying3 hy0_0
  obtain ⟨a0_1, e0_1, rfl, w0_1⟩ := DataW.trod_int Try.underlying3 hy0_1
  obtain ⟨a0_2, e0_2, rfl, w0_2⟩ := DataW.trod_int Try.underlying3 hy0_2
  simp only [List.cons.injEq, and_true] at e0_0 e0_1 e0_2
  subst e0_0 e0_1 e0_2
  clear hA0 hval0
  refine (walk a0_0 a0_1 a0_2 W w0_0 w0_1 w0_2).mono fun e W' ⟨he, bel⟩ => ?_
  subst he
  exact ⟨_, rfl, _, _, _, [], _, [], hW', trodAll_mk1 (shut_bool Try.underlying4 _), (trodAll_cons_mk (Go.Joins.shut_agg3 (y0 := (.lit (.int .i64 a0_0), [])) (y1 := (.lit (.int .i64 a0_1), [])) (y2 := (.lit (.int .i64 a0_2), [])) Try.underlying23 (by kernel_rfl) (by kernel_rfl : Try.prog.cellsOf 23 = 3) (shut_int Try.underlying3 w0_0) (shut_int Try.underlying3 w0_1) (shut_int Try.underlying3 w0_2)) trodAll_mk0), rfl, bel.frame _, fun h => by cases h⟩

theorem over : Rows.fnExactPairsOfRow.holds Try.pinned (OpenSpec.ofChange Rows.fnExactPairsOfSpec) :=
  OpenClaim.holds_of_wide 6 Try.f6 rfl rfl rfl rfl rfl rfl rfl ⟨rfl, rfl, rfl, rfl, rfl⟩ rfl rfl rfl rfl rfl (by kernel_rfl) Try.func6 (by kernel_rfl)
    (of_decide_eq_true (by kernel_rfl)) (by unfold Func.isWrapper; first | (rw [if_pos (by decide +kernel)]; kernel_rfl) | (rw [if_neg (by decide +kernel)]; exact ⟨rfl, rfl⟩))
    (fun os started H enc _ => lifted os started H enc)

theorem proved : Rows.FnExactPairsOfSaid := over
end Go.Proofs.Ytkenlighpelhiaa.fnExactPairsOf
