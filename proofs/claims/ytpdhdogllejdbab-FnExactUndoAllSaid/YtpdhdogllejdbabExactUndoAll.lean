/- The law FnExactUndoAll returns true for every board, every int and every slice of lines: the program and the model give the same position and the same bool, and the slice is left as it was. No condition. -/
import Derived.Test.YtpdhdogllejdbabRows
import Derived.WalkKit
import Derived.WalkSpells
import Derived.ProofKit
import Derived.OpenShut
import Derived.ShutString
import Derived.ChangeOld
import Derived.Below
import Derived.Lib.Hide
import Derived.Lib.SmallJoins
import Derived.ChangeArms
import Derived.Test.YtpdhdogllejdbabTurns
import Derived.Test.YtpdhdogllejdbabBoards
namespace Go.Proofs.Ytpdhdogllejdbab.fnExactUndoAll
open Go.ChangeShapes Go.WideShapes Go.ChangeAt Go.RowKit
open Go.ChangeMaps (open_string shut_string)
set_option linter.unusedVariables false
set_option linter.unusedSimpArgs false
theorem own : ownKnob Try.prog.godebug = none := by kernel_rfl
theorem laidOut : laidOutB Try.prog = true := by kernel_rfl
set_option maxHeartbeats 2000000 in
set_option maxRecDepth 100000 in
theorem walk (a0_0 : Int) (a0_1 : Int) (a0_2 : Int) (a1 : Int) (a2 : Option Addr) (len2 cap2 : Nat) (z2 : List Ln) (w : World) (w0_0 : (Lit.int .i64 a0_0).wf = true) (w0_1 : (Lit.int .i64 a0_1).wf = true) (w0_2 : (Lit.int .i64 a0_2).wf = true) (w1 : (Lit.int .i64 a1).wf = true) (w2 : LinesAt w a2 len2 z2) (m2 : len2 ≤ maxLen) :
    Calls Try.prog 13 #[.agg #[.int .i64 a0_0, .int .i64 a0_1, .int .i64 a0_2], .int .i64 a1, .slice a2 len2 cap2] w fun e w' => e = .returned (.bool true) ∧ Below w.heap.size w w' := by
  have h1 : a1 ≤ 9223372036854775807 := (bounds_i64 w1).2
  clear w0_0 w0_1 w0_2 w1
  have hn : z2.length = len2 := w2.1
  by_cases hx : len2 ≤ 1048576
  · have HN := Lib.hid hn
    have HS := Lib.hid (fun (B gc : Nat) (ga : Option Addr) (w : World) (ho : w.ownsRow B 34 3 (.slice ga len2 gc) len2 (lv z2)) => specUnplay a0_0 a0_1 a0_2 a1 h1 z2 hn hx (B := B) (gc := gc) (ga := ga) w ho)
    have HI := Lib.hid (fun (B gc : Nat) (ga : Option Addr) (w : World) (ho : w.ownsRow B 34 3 (.slice ga len2 gc) len2 (lv z2)) => implUnplay a0_0 a0_1 a0_2 a1 h1 z2 hn hx (B := B) (gc := gc) (ga := ga) w ho)
    obtain ⟨⟨x, y⟩, hv⟩ : ∃ r, unplayB a0_0 a0_1 a0_2 a1 z2 = r := ⟨_, rfl⟩
    rw [hv] at HS HI
    have HL := Lib.hid w2
    clear hv hn w2 m2 h1
    go_enter Try.func13, Try.ntmps13
    go_wp2_with fail
    have B0 := Lib.hid (box_newT 23 a0_0 a0_1 a0_2 w)
    generalize w.alloc (.cells #[.int .i64 a0_0, .int .i64 a0_1, .int .i64 a0_2] 23) = p0 at *
    refine (sz_is _ hx).mono ?_
    rintro e p ⟨rfl, rfl⟩
    obtain ⟨c0, c1, c2, hlt, hbw⟩ := B0.out
    go_wp2_with fail
    refine (toB _ _ _ _).mono ?_
    rintro e p1 ⟨rfl, hb⟩
    have B1 := Lib.hid (B0.out.later hb)
    clear hb B0 c0 c1 c2 hlt hbw
    obtain ⟨c0, c1, c2, hlt, hbw⟩ := B1.out
    go_wp2_with fail
    refine (toLines _ hx (HL.out.later B1.out.2.2.2.2)).mono ?_
    rintro e p2 ⟨v, rfl, hh, hb⟩
    have B2 := Lib.hid (B1.out.later hb)
    have hh := own_base hh (show w.heap.size + 1 ≤ p1.heap.size from B1.out.2.2.2.1)
    rw [HN.out] at hh
    obtain ⟨xa, xc, rfl⟩ := lines_form hh
    have X2 := Lib.hid hh
    clear hh
    clear hb B1 c0 c1 c2 hlt hbw
    obtain ⟨c0, c1, c2, hlt, hbw⟩ := B2.out
    go_wp2_with fail
    refine (HS.out _ _ _ _ X2.out).mono ?_
    rintro e p3 ⟨rfl, hb⟩
    have B3 := Lib.hid (B2.out.later hb)
    have X3 := Lib.hid (own_below X2.out hb)
    clear hb B2 X2 c0 c1 c2 hlt hbw
    clear X3
    obtain ⟨c0, c1, c2, hlt, hbw⟩ := B3.out
    go_wp2_with fail
    refine (toLines _ hx (HL.out.later B3.out.2.2.2.2)).mono ?_
    rintro e p4 ⟨v, rfl, hh, hb⟩
    have B4 := Lib.hid (B3.out.later hb)
    have hh := own_base hh (show w.heap.size + 1 ≤ p3.heap.size from B3.out.2.2.2.1)
    rw [HN.out] at hh
    obtain ⟨xa, xc, rfl⟩ := lines_form hh
    have X4 := Lib.hid hh
    clear hh
    clear hb B3 c0 c1 c2 hlt hbw
    obtain ⟨c0, c1, c2, hlt, hbw⟩ := B4.out
    go_wp2_with fail
    refine (toB _ _ _ _).mono ?_
    rintro e p5 ⟨rfl, hb⟩
    have B5 := Lib.hid (B4.out.later hb)
    have X5 := Lib.hid (own_below X4.out hb)
    clear hb B4 X4 c0 c1 c2 hlt hbw
    obtain ⟨c0, c1, c2, hlt, hbw⟩ := B5.out
    go_wp2_with fail
    refine (HI.out _ _ _ _ X5.out).mono ?_
    rintro e p6 ⟨rfl, hb⟩
    have B6 := Lib.hid (B5.out.later hb)
    have X6 := Lib.hid (own_below X5.out hb)
    clear hb B5 X5 c0 c1 c2 hlt hbw
    obtain ⟨c0, c1, c2, hlt, hbw⟩ := B6.out
    go_wp2_with fail
    refine (toLines _ hx (HL.out.later B6.out.2.2.2.2)).mono ?_
    rintro e p7 ⟨v, rfl, hh, hb⟩
    have B7 := Lib.hid (B6.out.later hb)
    have X7 := Lib.hid (own_below X6.out hb)
    have hh := own_base hh (show w.heap.size + 1 ≤ p6.heap.size from B6.out.2.2.2.1)
    rw [HN.out] at hh
    obtain ⟨ya, yc, rfl⟩ := lines_form hh
    have Y7 := Lib.hid hh
    clear hh
    clear hb B6 X6 c0 c1 c2 hlt hbw
    obtain ⟨c0, c1, c2, hlt, hbw⟩ := B7.out
    go_wp2_with fail
    refine (eqLines _ _ z2 _ HN.out hx X7.out Y7.out).mono ?_
    rintro e p8 ⟨rfl, hb⟩
    have B8 := Lib.hid (B7.out.later hb)
    have X8 := Lib.hid (own_below X7.out hb)
    have Y8 := Lib.hid (own_below Y7.out hb)
    clear hb B7 X7 Y7 c0 c1 c2 hlt hbw
    clear Y8
    go_wp2_with fail
    go_ret
    exact ⟨rfl, B8.out.2.2.2.2⟩
  · go_enter Try.func13, Try.ntmps13
    go_wp2_with fail
    have B0 := Lib.hid (box_newT 23 a0_0 a0_1 a0_2 w)
    generalize w.alloc (.cells #[.int .i64 a0_0, .int .i64 a0_1, .int .i64 a0_2] 23) = p0 at *
    refine (sz_far _ (by omega) m2).mono ?_
    rintro e p ⟨rfl, rfl⟩
    go_wp2_with fail
    go_ret
    exact ⟨rfl, B0.out.2.2.2.2⟩
set_option maxRecDepth 100000 in
theorem lifted (os : Os) (started : os.Started) (H : Type) (enc : TypeId × Value → H) :
    ReturnsInHanded {} Try.checked os 13 .any (Rows.fnExactUndoAllSpec.pre6 enc Try.prog Try.f13 Rows.fnExactUndoAllRow.domain false) (Rows.fnExactUndoAllSpec.post enc Try.prog Try.f13 false true false false) := by
  refine returnsInHanded_of_change (C := Try.checked) own started (by kernel_rfl) Try.func13
    (ChangeSpec.witness6 (enc := enc) (C := Try.checked) false ⟨#[], #[.agg #[.int .i64 0, .int .i64 0, .int .i64 0], .int .i64 0, .slice none 0 0], []⟩ 8 (by kernel_rfl) (by kernel_rfl) (by kernel_rfl) (by kernel_rfl)) ?_
  intro W base args ds gs before hval0 hW hcnd _
  have hval : ∀ (j : Nat) t v, Try.f13.params[j]? = some t → args[j]? = some v → Value.okWide Try.prog W .any base t v := hval0
  have hW' := hW
  obtain ⟨p, q, hA0, hV, rfl, hfz, hnd⟩ := hW
  have hA : DataW.TrodAll enc Try.prog W 0 (fun _ => true) true Try.f13.params.toList args.toList ds p := hA0
  rw [Try.params13] at hA hval
  obtain ⟨v0, vs0, d0, ds0, p0, q0, hargs, rfl, rfl, h0, r0⟩ := trodAll_cons hA
  obtain ⟨v1, vs1, d1, ds1, p1, q1, rfl, rfl, rfl, h1, r1⟩ := trodAll_cons r0
  obtain ⟨v2, vs2, d2, ds2, p2, q2, rfl, rfl, rfl, h2, r2⟩ := trodAll_cons r1
  obtain ⟨rfl, rfl, rfl⟩ := trodAll_nil r2
  obtain rfl : args = #[v0, v1, v2] := by cases args; simp_all
  obtain ⟨rfl, rfl⟩ := trodVars_none hV
  obtain ⟨c0_0, c0_1, c0_2, y0_0, y0_1, y0_2, m0, rfl, rfl, rfl, hy0_0, hy0_1, hy0_2⟩ := Go.Joins.open_agg3 Try.underlying23 (by kernel_rfl) (by kernel_rfl : Try.prog.cellsOf 23 = 3) (hval 0 23 v0 rfl rfl) h0
  obtain ⟨a0_0, e0_0, rfl, w0_0⟩ := DataW.trod_int Try.underlying3 hy0_0
  obtain ⟨a0_1, e0_1, rfl, w0_1⟩ := DataW.trod_int Try.underlying3 hy0_1
  obtain ⟨a0_2, e0_2, rfl, w0_2⟩ := DataW.trod_int Try.underlying3 hy0_2
  simp only [List.cons.injEq, and_true] at e0_0 e0_1 e0_2
  subst e0_0 e0_1 e0_2
  obtain ⟨a1, rfl, rfl, rfl, w1⟩ := open_int Try.underlying3 (hval 1 3 v1 rfl rfl) h1
  obtain ⟨a2, len2, cap2, rfl⟩ := okWide_slice Try.underlying38 (hval 2 38 v2 rfl rfl)
  have k2 := h2
  have lt2 : ∀ x ∈ p2, x.block < W.heap.size := by obtain ⟨m, hm⟩ := k2; exact DataW.trod_lt m _ _ _ hm
  obtain ⟨z2, w2, m2⟩ := lines_of Try.underlying38 Try.underlying32 (by kernel_rfl) (by kernel_rfl) Try.underlying3 Try.underlying3 Try.underlying3 h2
  clear hA0 hval0
  refine (walk a0_0 a0_1 a0_2 a1 a2 len2 cap2 z2 W w0_0 w0_1 w0_2 w1 w2 m2).mono fun e W' ⟨he, bel⟩ => ?_
  subst he
  exact ⟨_, rfl, _, _, _, [], _, [], hW', trodAll_mk1 (shut_bool Try.underlying4 _), (trodAll_cons_mk (Go.Joins.shut_agg3 (y0 := (.lit (.int .i64 a0_0), [])) (y1 := (.lit (.int .i64 a0_1), [])) (y2 := (.lit (.int .i64 a0_2), [])) Try.underlying23 (by kernel_rfl) (by kernel_rfl : Try.prog.cellsOf 23 = 3) (shut_int Try.underlying3 w0_0) (shut_int Try.underlying3 w0_1) (shut_int Try.underlying3 w0_2)) (trodAll_cons_mk (shut_int Try.underlying3 w1) (trodAll_cons_mk (Below.trod laidOut (by kernel_rfl) (of_decide_eq_true (by kernel_rfl)) k2 bel lt2) trodAll_mk0))), rfl, bel.frame _, fun h => by cases h⟩

theorem over : Rows.fnExactUndoAllRow.holds Try.pinned (OpenSpec.ofChange Rows.fnExactUndoAllSpec) :=
  OpenClaim.holds_of_wide 13 Try.f13 rfl rfl rfl rfl rfl rfl rfl ⟨rfl, rfl, rfl, rfl, rfl⟩ rfl rfl rfl rfl rfl (by kernel_rfl) Try.func13 (by kernel_rfl)
    (of_decide_eq_true (by kernel_rfl)) (by unfold Func.isWrapper; first | (rw [if_pos (by decide +kernel)]; kernel_rfl) | (rw [if_neg (by decide +kernel)]; exact ⟨rfl, rfl⟩))
    (fun os started H enc _ => lifted os started H enc)

theorem proved : Rows.FnExactUndoAllSaid := over
end Go.Proofs.Ytpdhdogllejdbab.fnExactUndoAll
