/- The law FnExactHolesOf returns true for every board: the program's HolesOf and the model's give the same list, in new memory that no second call touches. No condition. -/
import Derived.Test.YtmkloadbfhlfmaaRows
import Derived.WalkKit
import Derived.WalkSpells
import Derived.ProofKit
import Derived.OpenShut
import Derived.ShutString
import Derived.ChangeOld
import Derived.Below
import Derived.Lib.Hide
import Derived.Lib.SmallJoins
import Derived.ChangeArms
import Derived.Test.YtmkloadbfhlfmaaHolesB
import Derived.Test.YtmkloadbfhlfmaaRect
import Derived.Test.YtmkloadbfhlfmaaRowsInt
namespace Go.Proofs.Ytmkloadbfhlfmaa.fnExactHolesOf
open Go.ChangeShapes Go.WideShapes Go.ChangeAt Go.RowKit
open Go.ChangeMaps (open_string shut_string)
set_option linter.unusedVariables false
theorem own : ownKnob Try.prog.godebug = none := by kernel_rfl
theorem laidOut : laidOutB Try.prog = true := by kernel_rfl
/-- It returns a list of ints in new memory. -/
def NewInts (xs : List Int) (n : Nat) (w : World) (e : Ending) (w' : World) : Prop :=
  ∃ v, e = .returned v ∧ w'.ownsRow w.heap.size 3 1 v n (iv xs) ∧ Below w.heap.size w w'
theorem of_own {xs : List Nat} {w w' : World} {e : Ending} (h : OwnInts xs w e w') : NewInts (xs.map fun (k : Nat) => (k : Int)) xs.length w e w' := by
  obtain ⟨v, he, ho, hb⟩ := h
  refine ⟨v, he, ?_, hb⟩
  have e2 : iv (xs.map fun (k : Nat) => (k : Int)) = Ints xs := by simp [iv, Ints, Function.comp_def]
  rw [e2]; exact ho
theorem both (W H Z : Int) : ∃ (xs : List Int) (n : Nat), xs.length = n ∧ n ≤ 49 ∧ (∀ w, Calls Try.prog 16 #[.agg #[.int .i64 W, .int .i64 H, .int .i64 Z]] w (NewInts xs n w)) ∧ (∀ w, Calls Try.prog 17 #[.agg #[.int .i64 W, .int .i64 H, .int .i64 Z]] w (NewInts xs n w)) := by
  cases h : okB W H Z
  · exact ⟨_, _, by simp, by simp, fun w => (specHoles_no h w).mono fun _ _ hh => of_own hh, fun w => (implHoles_no h w).mono fun _ _ hh => of_own hh⟩
  · obtain ⟨N, z, rfl, ho⟩ := ok_of h
    exact ⟨_, _, by simp, Nat.le_trans (bitsOf_le N z) ho.n49, fun w => (specHoles ho w).mono fun _ _ hh => of_own hh, fun w => (implHoles ho w).mono fun _ _ hh => of_own hh⟩
set_option maxHeartbeats 1000000 in
theorem walk (a0_0 : Int) (a0_1 : Int) (a0_2 : Int) (w : World) (w0_0 : (Lit.int .i64 a0_0).wf = true) (w0_1 : (Lit.int .i64 a0_1).wf = true) (w0_2 : (Lit.int .i64 a0_2).wf = true) :
    Calls Try.prog 6 #[.agg #[.int .i64 a0_0, .int .i64 a0_1, .int .i64 a0_2]] w fun e w' => e = .returned (.bool true) ∧ Below w.heap.size w w' := by
  clear w0_0 w0_1 w0_2
  obtain ⟨xs, n, hn, hle, hs, hi⟩ := both a0_0 a0_1 a0_2
  have HN := Lib.hid hn
  have HS := Lib.hid hs
  have HI := Lib.hid hi
  clear hn hs hi
  go_enter Try.func6, Try.ntmps6
  go_wp2_with fail
  have B0 := Lib.hid (box_newT 23 a0_0 a0_1 a0_2 w)
  generalize w.alloc (.cells #[.int .i64 a0_0, .int .i64 a0_1, .int .i64 a0_2] 23) = W1 at *
  refine (toB _ _ _ _).mono ?_
  rintro e w1 ⟨rfl, hb⟩
  have B1 := Lib.hid (B0.out.later hb)
  clear hb B0
  go_wp2_with fail
  refine (HS.out _).mono ?_
  rintro e w2 ⟨v0, rfl, o0, hb⟩
  have B2 := Lib.hid (B1.out.later hb)
  have hw1 := B1.out.2.2.2.1
  have O0 := Lib.hid (own_base o0 (show w.heap.size + 1 ≤ w1.heap.size from hw1))
  clear hb B1 o0 hw1
  obtain ⟨c0, c1, c2, hlt, hbw⟩ := B2.out
  go_wp2_with fail
  refine (toB _ _ _ _).mono ?_
  rintro e w3 ⟨rfl, hb⟩
  have B3 := Lib.hid (B2.out.later hb)
  have O03 := Lib.hid (own_below O0.out hb)
  clear hb B2 c0 c1 c2 hlt hbw O0
  go_wp2_with fail
  refine (HI.out _).mono ?_
  rintro e w4 ⟨g0, rfl, og, hb⟩
  have B4 := Lib.hid (B3.out.later hb)
  have O04 := Lib.hid (own_below O03.out hb)
  have AP := Lib.hid (own_apart O03.out og (Nat.le_refl _))
  have hw3 := B3.out.2.2.2.1
  have OG := Lib.hid (own_base og (show w.heap.size + 1 ≤ w3.heap.size from hw3))
  clear hb B3 O03 og hw3
  go_wp2_with fail
  refine (eqInt g0 v0 xs _ HN.out (by omega) OG.out O04.out).mono ?_
  rintro e w5 ⟨rfl, q5, rfl⟩
  have OG5 := Lib.hid (drewN_ownI OG.out q5)
  have O05 := Lib.hid (drewN_ownI O04.out q5)
  have B5 := Lib.hid (B4.out.later (drewN_belowI w4 q5))
  clear OG O04 B4
  generalize w4.drewN q5 = w5 at *
  go_wp2_with fail
  refine (markInt g0 xs _ 1 (by omega) HN.out (by omega) OG5.out).mono ?_
  rintro e w6 ⟨rfl, o6, g6⟩
  have OG6 := Lib.hid o6
  have O06 := Lib.hid (O05.out.kept g6 AP.out)
  have hb6 : Below (w.heap.size + 1) w5 w6 := (Below.refl _ _).grown g6 B5.out.2.2.2.1 (fun k hk => (OG5.out.lt k hk).1)
  have B6 := Lib.hid (B5.out.kept hb6 (Nat.lt_succ_self _) (Nat.le_succ _))
  clear o6 g6 hb6 B5 O05 OG5
  go_wp2_with fail
  refine (heldInt g0 _ 1 (by omega) (by omega) OG6.out).mono ?_
  rintro e w7 ⟨rfl, q7, rfl⟩
  have OG7 := Lib.hid (drewN_ownI OG6.out q7)
  have O07 := Lib.hid (drewN_ownI O06.out q7)
  have B7 := Lib.hid (B6.out.later (drewN_belowI w6 q7))
  clear OG6 O06 B6
  generalize w6.drewN q7 = w7 at *
  obtain ⟨c0, c1, c2, hlt, hbw⟩ := B7.out
  go_wp2_with fail
  refine (toB _ _ _ _).mono ?_
  rintro e w8 ⟨rfl, hb⟩
  have B8 := Lib.hid (B7.out.later hb)
  have O08 := Lib.hid (own_below O07.out hb)
  have OG8 := Lib.hid (own_below OG7.out hb)
  clear hb B7 O07 OG7 c0 c1 c2 hlt hbw
  go_wp2_with fail
  refine (HI.out _).mono ?_
  rintro e w9 ⟨h0, rfl, oh, hb⟩
  have OH := Lib.hid oh
  have B9 := Lib.hid (B8.out.later hb)
  have O09 := Lib.hid (own_below O08.out hb)
  have OG9 := Lib.hid (own_below OG8.out hb)
  clear hb oh B8 O08 OG8
  go_wp2_with fail
  refine (eqInt h0 v0 xs _ HN.out (by omega) OH.out O09.out).mono ?_
  rintro e w10 ⟨rfl, q10, rfl⟩
  have OG10 := Lib.hid (drewN_ownI OG9.out q10)
  have B10 := Lib.hid (B9.out.later (drewN_belowI w9 q10))
  clear OG9 O09 B9 OH
  generalize w9.drewN q10 = w10 at *
  go_wp2_with fail
  refine (heldInt g0 _ 1 (by omega) (by omega) OG10.out).mono ?_
  rintro e w11 ⟨rfl, q11, rfl⟩
  have B11 := Lib.hid (B10.out.later (drewN_belowI w10 q11))
  clear OG10 B10
  go_wp2_with fail
  go_ret
  exact ⟨rfl, B11.out.2.2.2.2⟩
set_option maxRecDepth 100000 in
theorem lifted (os : Os) (started : os.Started) (H : Type) (enc : TypeId × Value → H) :
    ReturnsInHanded {} Try.checked os 6 .any (Rows.fnExactHolesOfSpec.pre6 enc Try.prog Try.f6 Rows.fnExactHolesOfRow.domain false) (Rows.fnExactHolesOfSpec.post enc Try.prog Try.f6 false true false false) := by
  refine returnsInHanded_of_change (C := Try.checked) own started (by kernel_rfl) Try.func6
    (ChangeSpec.witness6 (enc := enc) (C := Try.checked) false ⟨#[], #[.agg #[.int .i64 0, .int .i64 0, .int .i64 0]], []⟩ 8 (by kernel_rfl) (by kernel_rfl) (by kernel_rfl) (by kernel_rfl)) ?_
  intro W base args ds gs before hval0 hW hcnd _
  have hval : ∀ (j : Nat) t v, Try.f6.params[j]? = some t → args[j]? = some v → Value.okWide Try.prog W .any base t v := hval0
  have hW' := hW
  obtain ⟨p, q, hA0, hV, rfl, hfz, hnd⟩ := hW
  have hA : DataW.TrodAll enc Try.prog W 0 (fun _ => true) true Try.f6.params.toList args.toList ds p := hA0
  rw [Try.params6] at hA hval
  obtain ⟨v0, vs0, d0, ds0, p0, q0, hargs, rfl, rfl, h0, r0⟩ := trodAll_cons hA
  obtain ⟨rfl, rfl, rfl⟩ := trodAll_nil r0
  obtain rfl : args = #[v0] := by cases args; simp_all
  obtain ⟨rfl, rfl⟩ := trodVars_none hV
  obtain ⟨c0_0, c0_1, c0_2, y0_0, y0_1, y0_2, m0, rfl, rfl, rfl, hy0_0, hy0_1, hy0_2⟩ := Go.Joins.open_agg3 Try.underlying23 (by kernel_rfl) (by kernel_rfl : Try.prog.cellsOf 23 = 3) (hval 0 23 v0 rfl rfl) h0
  obtain ⟨a0_0, e0_0, rfl, w0_0⟩ := DataW.trod_int Try.underlying3 hy0_0
  obtain ⟨a0_1, e0_1, rfl, w0_1⟩ := DataW.trod_int Try.underlying3 hy0_1
  obtain ⟨a0_2, e0_2, rfl, w0_2⟩ := DataW.trod_int Try.underlying3 hy0_2
  simp only [List.cons.injEq, and_true] at e0_0 e0_1 e0_2
  subst e0_0 e0_1 e0_2
  clear hA0 hval0
  refine (walk a0_0 a0_1 a0_2 W w0_0 w0_1 w0_2).mono fun e W' ⟨he, bel⟩ => ?_
  subst he
  exact ⟨_, rfl, _, _, _, [], _, [], hW', trodAll_mk1 (shut_bool Try.underlying4 _), (trodAll_cons_mk (Go.Joins.shut_agg3 (y0 := (.lit (.int .i64 a0_0), [])) (y1 := (.lit (.int .i64 a0_1), [])) (y2 := (.lit (.int .i64 a0_2), [])) Try.underlying23 (by kernel_rfl) (by kernel_rfl : Try.prog.cellsOf 23 = 3) (shut_int Try.underlying3 w0_0) (shut_int Try.underlying3 w0_1) (shut_int Try.underlying3 w0_2)) trodAll_mk0), rfl, bel.frame _, fun h => by cases h⟩

theorem over : Rows.fnExactHolesOfRow.holds Try.pinned (OpenSpec.ofChange Rows.fnExactHolesOfSpec) :=
  OpenClaim.holds_of_wide 6 Try.f6 rfl rfl rfl rfl rfl rfl rfl ⟨rfl, rfl, rfl, rfl, rfl⟩ rfl rfl rfl rfl rfl (by kernel_rfl) Try.func6 (by kernel_rfl)
    (of_decide_eq_true (by kernel_rfl)) (by unfold Func.isWrapper; first | (rw [if_pos (by decide +kernel)]; kernel_rfl) | (rw [if_neg (by decide +kernel)]; exact ⟨rfl, rfl⟩))
    (fun os started H enc _ => lifted os started H enc)

theorem proved : Rows.FnExactHolesOfSaid := over
end Go.Proofs.Ytmkloadbfhlfmaa.fnExactHolesOf
