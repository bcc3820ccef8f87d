/- The law FnExactLayerOf returns true for every board and every two ints: the program and the model give the same list of positions, in new memory that no second call touches. No condition. -/
import Derived.Test.YtgkmapemnlgldaaRows
import Derived.WalkKit
import Derived.WalkSpells
import Derived.ProofKit
import Derived.OpenShut
import Derived.ShutString
import Derived.ChangeOld
import Derived.Below
import Derived.Lib.Hide
import Derived.Lib.SmallJoins
import Derived.ChangeArms
import Derived.Test.YtgkmapemnlgldaaLayR
import Derived.Test.YtgkmapemnlgldaaBoards
namespace Go.Proofs.Ytgkmapemnlgldaa.fnExactLayerOf
open Go.ChangeShapes Go.WideShapes Go.ChangeAt Go.RowKit
open Go.ChangeMaps (open_string shut_string)
set_option linter.unusedVariables false
set_option linter.unusedSimpArgs false
theorem own : ownKnob Try.prog.godebug = none := by kernel_rfl
theorem laidOut : laidOutB Try.prog = true := by kernel_rfl
set_option maxHeartbeats 1000000 in
theorem walk (a0_0 : Int) (a0_1 : Int) (a0_2 : Int) (a1 : Int) (a2 : Int) (w : World) (w0_0 : (Lit.int .i64 a0_0).wf = true) (w0_1 : (Lit.int .i64 a0_1).wf = true) (w0_2 : (Lit.int .i64 a0_2).wf = true) (w1 : (Lit.int .i64 a1).wf = true) (w2 : (Lit.int .i64 a2).wf = true) :
    Calls Try.prog 4 #[.agg #[.int .i64 a0_0, .int .i64 a0_1, .int .i64 a0_2], .int .i64 a1, .int .i64 a2] w fun e w' => e = .returned (.bool true) ∧ Below w.heap.size w w' := by
  have h1 : a1 ≤ 9223372036854775807 := (bounds_i64 w1).2
  have h2 : a2 ≤ 9223372036854775807 := (bounds_i64 w2).2
  clear w0_0 w0_1 w0_2 w1 w2
  obtain ⟨xs, hxs⟩ : ∃ xs, natsI (layL false a0_0 a0_1 a0_2 a1 a2) = xs := ⟨_, rfl⟩
  have hle : xs.length ≤ 65536 := by rw [← hxs]; exact lay_leI false a0_0 a0_1 a0_2 a1 a2
  have HS := Lib.hid (fun w => specLayI a0_0 a0_1 a0_2 a1 a2 h1 h2 w)
  have HI := Lib.hid (fun w => implLayI a0_0 a0_1 a0_2 a1 a2 h1 h2 w)
  rw [hxs] at HS HI
  clear hxs
  obtain ⟨n, hn⟩ : ∃ n, xs.length = n := ⟨_, rfl⟩
  have HN := Lib.hid hn
  rw [hn] at hle
  clear hn
  go_enter Try.func4, Try.ntmps4
  go_wp2_with fail
  have B0 := Lib.hid (box_newT 36 a0_0 a0_1 a0_2 w)
  generalize w.alloc (.cells #[.int .i64 a0_0, .int .i64 a0_1, .int .i64 a0_2] 36) = W1 at *
  refine (toB _ _ _ _).mono ?_
  rintro e w1 ⟨rfl, hb⟩
  have B1 := Lib.hid (B0.out.later hb)
  clear hb B0
  go_wp2_with fail
  refine (HS.out _).mono ?_
  rintro e w2 ⟨v0, rfl, o0, hb⟩
  rw [HN.out] at o0
  have B2 := Lib.hid (B1.out.later hb)
  have hw1 := B1.out.2.2.2.1
  have O2 := Lib.hid (own_base o0 (show w.heap.size + 1 ≤ w1.heap.size from hw1))
  clear hb B1 o0 hw1
  obtain ⟨c0, c1, c2, hlt, hbw⟩ := B2.out
  go_wp2_with fail
  refine (toB _ _ _ _).mono ?_
  rintro e w3 ⟨rfl, hb⟩
  have B3 := Lib.hid (B2.out.later hb)
  have O3 := Lib.hid (own_below O2.out hb)
  clear hb B2 c0 c1 c2 hlt hbw O2
  go_wp2_with fail
  refine (HI.out _).mono ?_
  rintro e w4 ⟨g0, rfl, og, hb⟩
  rw [HN.out] at og
  have B4 := Lib.hid (B3.out.later hb)
  have O4 := Lib.hid (own_below O3.out hb)
  have AP := Lib.hid (own_apart O3.out og (Nat.le_refl _))
  have hw3 := B3.out.2.2.2.1
  have G4 := Lib.hid (own_base og (show w.heap.size + 1 ≤ w3.heap.size from hw3))
  clear hb B3 O3 og hw3
  go_wp2_with fail
  refine (eqInt g0 v0 xs _ HN.out (by omega) G4.out O4.out).mono ?_
  rintro e w5 ⟨rfl, q5, rfl⟩
  have hb := drewN_belowI w4 q5
  have B5 := Lib.hid (B4.out.later hb)
  have O5 := Lib.hid (own_below O4.out hb)
  have G5 := Lib.hid (own_below G4.out hb)
  clear hb B4 O4 G4
  go_wp2_with fail
  refine (markInt g0 xs _ 1 (by omega) HN.out (by omega) G5.out).mono ?_
  rintro e w6 ⟨rfl, o6, g6⟩
  have G6 := Lib.hid o6
  have O6 := Lib.hid (O5.out.kept g6 AP.out)
  have hb6 := (Below.refl (w.heap.size + 1) _).grown g6 B5.out.2.2.2.1 (fun k hk => (G5.out.lt k hk).1)
  have B6 := Lib.hid (B5.out.kept hb6 (Nat.lt_succ_self _) (Nat.le_succ _))
  clear o6 g6 hb6 B5 O5 G5
  go_wp2_with fail
  refine (heldInt g0 _ 1 (by omega) (by omega) G6.out).mono ?_
  rintro e w7 ⟨rfl, q7, rfl⟩
  have hb := drewN_belowI w6 q7
  have B7 := Lib.hid (B6.out.later hb)
  have O7 := Lib.hid (own_below O6.out hb)
  have G7 := Lib.hid (own_below G6.out hb)
  clear hb B6 O6 G6
  obtain ⟨c0, c1, c2, hlt, hbw⟩ := B7.out
  go_wp2_with fail
  refine (toB _ _ _ _).mono ?_
  rintro e w8 ⟨rfl, hb⟩
  have B8 := Lib.hid (B7.out.later hb)
  have O8 := Lib.hid (own_below O7.out hb)
  have G8 := Lib.hid (own_below G7.out hb)
  clear hb B7 c0 c1 c2 hlt hbw O7 G7
  go_wp2_with fail
  refine (HI.out _).mono ?_
  rintro e w9 ⟨h0, rfl, oh, hb⟩
  rw [HN.out] at oh
  have H9 := Lib.hid oh
  have B9 := Lib.hid (B8.out.later hb)
  have O9 := Lib.hid (own_below O8.out hb)
  have G9 := Lib.hid (own_below G8.out hb)
  clear hb oh B8 O8 G8
  go_wp2_with fail
  refine (eqInt h0 v0 xs _ HN.out (by omega) H9.out O9.out).mono ?_
  rintro e w10 ⟨rfl, q10, rfl⟩
  have G10 := Lib.hid (own_below G9.out (drewN_belowI w9 q10))
  have B10 := Lib.hid (B9.out.later (drewN_belowI w9 q10))
  clear G9 O9 H9
  go_wp2_with fail
  refine (heldInt g0 _ 1 (by omega) (by omega) G10.out).mono ?_
  rintro e w11 ⟨rfl, q11, rfl⟩
  clear B10 G10
  go_wp2_with fail
  go_ret
  exact ⟨rfl, (B9.out.later (drewN_belowI w9 (q10 + q11))).2.2.2.2⟩
set_option maxRecDepth 100000 in
theorem lifted (os : Os) (started : os.Started) (H : Type) (enc : TypeId × Value → H) :
    ReturnsInHanded {} Try.checked os 4 .any (Rows.fnExactLayerOfSpec.pre6 enc Try.prog Try.f4 Rows.fnExactLayerOfRow.domain false) (Rows.fnExactLayerOfSpec.post enc Try.prog Try.f4 false true false false) := by
  refine returnsInHanded_of_change (C := Try.checked) own started (by kernel_rfl) Try.func4
    (ChangeSpec.witness6 (enc := enc) (C := Try.checked) false ⟨#[], #[.agg #[.int .i64 0, .int .i64 0, .int .i64 0], .int .i64 0, .int .i64 0], []⟩ 8 (by kernel_rfl) (by kernel_rfl) (by kernel_rfl) (by kernel_rfl)) ?_
  intro W base args ds gs before hval0 hW hcnd _
  have hval : ∀ (j : Nat) t v, Try.f4.params[j]? = some t → args[j]? = some v → Value.okWide Try.prog W .any base t v := hval0
  have hW' := hW
  obtain ⟨p, q, hA0, hV, rfl, hfz, hnd⟩ := hW
  have hA : DataW.TrodAll enc Try.prog W 0 (fun _ => true) true Try.f4.params.toList args.toList ds p := hA0
  rw [Try.params4] at hA hval
  obtain ⟨v0, vs0, d0, ds0, p0, q0, hargs, rfl, rfl, h0, r0⟩ := trodAll_cons hA
  obtain ⟨v1, vs1, d1, ds1, p1, q1, rfl, rfl, rfl, h1, r1⟩ := trodAll_cons r0
  obtain ⟨v2, vs2, d2, ds2, p2, q2, rfl, rfl, rfl, h2, r2⟩ := trodAll_cons r1
  obtain ⟨rfl, rfl, rfl⟩ := trodAll_nil r2
  obtain rfl : args = #[v0, v1, v2] := by cases args; simp_all
  obtain ⟨rfl, rfl⟩ := trodVars_none hV
  obtain ⟨c0_0, c0_1, c0_2, y0_0, y0_1, y0_2, m0, rfl, rfl, rfl, hy0_0, hy0_1, hy0_2⟩ := Go.Joins.open_agg3 Try.underlying36 (by kernel_rfl) (by kernel_rfl : Try.prog.cellsOf 36 = 3) (hval 0 36 v0 rfl rfl) h0
  obtain ⟨a0_0, e0_0, rfl, w0_0⟩ := DataW.trod_int Try.underlying3 hy0_0
  obtain ⟨a0_1, e0_1, rfl, w0_1⟩ := DataW.trod_int Try.underlying3 hy0_1
  obtain ⟨a0_2, e0_2, rfl, w0_2⟩ := DataW.trod_int Try.underlying3 hy0_2
  simp only [List.cons.injEq, and_true] at e0_0 e0_1 e0_2
  subst e0_0 e0_1 e0_2
  obtain ⟨a1, rfl, rfl, rfl, w1⟩ := open_int Try.underlying3 (hval 1 3 v1 rfl rfl) h1
  obtain ⟨a2, rfl, rfl, rfl, w2⟩ := open_int Try.underlying3 (hval 2 3 v2 rfl rfl) h2
  clear hA0 hval0
  refine (walk a0_0 a0_1 a0_2 a1 a2 W w0_0 w0_1 w0_2 w1 w2).mono fun e W' ⟨he, bel⟩ => ?_
  subst he
  exact ⟨_, rfl, _, _, _, [], _, [], hW', trodAll_mk1 (shut_bool Try.underlying4 _), (trodAll_cons_mk (Go.Joins.shut_agg3 (y0 := (.lit (.int .i64 a0_0), [])) (y1 := (.lit (.int .i64 a0_1), [])) (y2 := (.lit (.int .i64 a0_2), [])) Try.underlying36 (by kernel_rfl) (by kernel_rfl : Try.prog.cellsOf 36 = 3) (shut_int Try.underlying3 w0_0) (shut_int Try.underlying3 w0_1) (shut_int Try.underlying3 w0_2)) (trodAll_cons_mk (shut_int Try.underlying3 w1) (trodAll_cons_mk (shut_int Try.underlying3 w2) trodAll_mk0))), rfl, bel.frame _, fun h => by cases h⟩

theorem over : Rows.fnExactLayerOfRow.holds Try.pinned (OpenSpec.ofChange Rows.fnExactLayerOfSpec) :=
  OpenClaim.holds_of_wide 4 Try.f4 rfl rfl rfl rfl rfl rfl rfl ⟨rfl, rfl, rfl, rfl, rfl⟩ rfl rfl rfl rfl rfl (by kernel_rfl) Try.func4 (by kernel_rfl)
    (of_decide_eq_true (by kernel_rfl)) (by unfold Func.isWrapper; first | (rw [if_pos (by decide +kernel)]; kernel_rfl) | (rw [if_neg (by decide +kernel)]; exact ⟨rfl, rfl⟩))
    (fun os started H enc _ => lifted os started H enc)

theorem proved : Rows.FnExactLayerOfSaid := over
end Go.Proofs.Ytgkmapemnlgldaa.fnExactLayerOf
