/- The law FnExactIsProof returns true for every board, every slice of ints and every two ints: the program and the model give the same bool, and the slice is left as it was. No condition. -/
import Derived.Test.YtkaabjklfhoooaaRows
import Derived.WalkKit
import Derived.WalkSpells
import Derived.ProofKit
import Derived.OpenShut
import Derived.ShutString
import Derived.ChangeOld
import Derived.Below
import Derived.Lib.Hide
import Derived.Lib.SmallJoins
import Derived.ChangeArms
import Derived.Test.YtkaabjklfhoooaaProofsC
import Derived.Test.YtkaabjklfhoooaaBoards
namespace Go.Proofs.Ytkaabjklfhoooaa.fnExactIsProof
open Go.ChangeShapes Go.WideShapes Go.ChangeAt Go.RowKit
open Go.ChangeMaps (open_string shut_string)
set_option linter.unusedVariables false
set_option linter.unusedSimpArgs false
theorem own : ownKnob Try.prog.godebug = none := by kernel_rfl
theorem laidOut : laidOutB Try.prog = true := by kernel_rfl
/-- What the walk is told of a slice of integers that came in. -/
def IsRow (k : IntKind) (w : World) (a : Option Addr) (len cap : Nat) (zs : List Int) : Prop :=
  (a = none ∧ len = 0 ∧ cap = 0 ∧ zs = []) ∨
  ∃ x, a = some x ∧ len ≤ cap ∧ cap ≤ maxLen ∧ zs.length = cap ∧ (∀ i, i < zs.length → w.cell? (x.add i) = some (.int k (zs.getD i 0))) ∧ ∀ n ∈ zs, (Lit.int k n).wf = true
set_option maxHeartbeats 4000000 in
set_option maxRecDepth 100000 in
theorem walk (a0_0 : Int) (a0_1 : Int) (a0_2 : Int) (a1 : Option Addr) (len1 cap1 : Nat) (z1 : List Int) (a2 : Int) (a3 : Int) (w : World) (w0_0 : (Lit.int .i64 a0_0).wf = true) (w0_1 : (Lit.int .i64 a0_1).wf = true) (w0_2 : (Lit.int .i64 a0_2).wf = true) (w1 : IsRow .i64 w a1 len1 cap1 z1) (w2 : (Lit.int .i64 a2).wf = true) (w3 : (Lit.int .i64 a3).wf = true) :
    Calls Try.prog 3 #[.agg #[.int .i64 a0_0, .int .i64 a0_1, .int .i64 a0_2], .slice a1 len1 cap1, .int .i64 a2, .int .i64 a3] w fun e w' => e = .returned (.bool true) ∧ Below w.heap.size w w' := by
  have h2 : a2 ≤ 9223372036854775807 := (bounds_i64 w2).2
  have h3 : a3 ≤ 9223372036854775807 := (bounds_i64 w3).2
  clear w0_0 w0_1 w0_2 w2 w3
  obtain ⟨hI1, hM1⟩ := ints_row w1
  unfold maxLen at hM1
  obtain ⟨xs1, hxs1⟩ : ∃ xs, z1.take len1 = xs := ⟨_, rfl⟩
  rw [hxs1] at hI1
  clear hxs1 w1
  have HN1 := Lib.hid hI1.1
  have HA1 := Lib.hid hI1
  clear hI1
  by_cases hx1 : len1 ≤ 1048576
  rotate_left
  · have hx1 := Nat.lt_of_not_le hx1
    have far1 : (1048576 : Int) < (len1 : Int) := by omega
    go_enter Try.func3, Try.ntmps3
    go_wp2_with fail
    have B0 := Lib.hid (box_newT 23 a0_0 a0_1 a0_2 w)
    generalize w.alloc (.cells #[.int .i64 a0_0, .int .i64 a0_1, .int .i64 a0_2] 23) = p0 at *
    try go_wp2_with fail
    go_ret
    exact ⟨rfl, B0.out.2.2.2.2⟩
  have near1 : ¬ (1048576 : Int) < (len1 : Int) := by omega
  have HS := Lib.hid (fun (g1 : Option Addr) (c1 : Nat) (w : World) (i1 : IntsAt w g1 len1 xs1) => specProof a0_0 a0_1 a0_2 a2 a3 h2 h3 (c := c1) w hx1 i1)
  have HI := Lib.hid (fun (g1 : Option Addr) (c1 : Nat) (w : World) (i1 : IntsAt w g1 len1 xs1) => implProof a0_0 a0_1 a0_2 a2 a3 h2 h3 (c := c1) w hx1 i1)
  obtain ⟨x, hv⟩ : ∃ r, proofB a0_0 a0_1 a0_2 xs1 a2 a3 = r := ⟨_, rfl⟩
  rw [hv] at HS HI
  clear hv h2 h3
  go_enter Try.func3, Try.ntmps3
  go_wp2_with fail
  have B0 := Lib.hid (box_newT 23 a0_0 a0_1 a0_2 w)
  generalize w.alloc (.cells #[.int .i64 a0_0, .int .i64 a0_1, .int .i64 a0_2] 23) = p0 at *
  obtain ⟨c0, c1, c2, hlt, hbw⟩ := B0.out
  go_wp2_with fail
  refine (toB _ _ _ _).mono ?_
  rintro e p1 ⟨rfl, hb⟩
  have B1 := Lib.hid (B0.out.later hb)
  clear hb B0 c0 c1 c2 hlt hbw
  obtain ⟨c0, c1, c2, hlt, hbw⟩ := B1.out
  go_wp2_with fail
  refine (toInts _ hx1 (HA1.out.later B1.out.2.2.2.2)).mono ?_
  rintro e p2 ⟨v, rfl, hh, hb⟩
  have B2 := Lib.hid (B1.out.later hb)
  have hh := own_base hh (show w.heap.size + 1 ≤ p1.heap.size from B1.out.2.2.2.1)
  rw [HN1.out] at hh
  obtain ⟨xa, xc, rfl⟩ := int_form hh
  have X2 := Lib.hid hh
  clear hh
  clear hb B1 c0 c1 c2 hlt hbw
  obtain ⟨c0, c1, c2, hlt, hbw⟩ := B2.out
  go_wp2_with fail
  refine (HS.out _ _ _ (ints_own X2.out HN1.out)).mono ?_
  rintro e p3 ⟨rfl, hb⟩
  have B3 := Lib.hid (B2.out.later hb)
  have X3 := Lib.hid (own_below X2.out hb)
  clear hb B2 X2 c0 c1 c2 hlt hbw
  clear X3
  obtain ⟨c0, c1, c2, hlt, hbw⟩ := B3.out
  go_wp2_with fail
  refine (toInts _ hx1 (HA1.out.later B3.out.2.2.2.2)).mono ?_
  rintro e p4 ⟨v, rfl, hh, hb⟩
  have B4 := Lib.hid (B3.out.later hb)
  have hh := own_base hh (show w.heap.size + 1 ≤ p3.heap.size from B3.out.2.2.2.1)
  rw [HN1.out] at hh
  obtain ⟨xa, xc, rfl⟩ := int_form hh
  have X4 := Lib.hid hh
  clear hh
  clear hb B3 c0 c1 c2 hlt hbw
  obtain ⟨c0, c1, c2, hlt, hbw⟩ := B4.out
  go_wp2_with fail
  refine (toB _ _ _ _).mono ?_
  rintro e p5 ⟨rfl, hb⟩
  have B5 := Lib.hid (B4.out.later hb)
  have X5 := Lib.hid (own_below X4.out hb)
  clear hb B4 X4 c0 c1 c2 hlt hbw
  obtain ⟨c0, c1, c2, hlt, hbw⟩ := B5.out
  go_wp2_with fail
  refine (HI.out _ _ _ (ints_own X5.out HN1.out)).mono ?_
  rintro e p6 ⟨rfl, hb⟩
  have B6 := Lib.hid (B5.out.later hb)
  have X6 := Lib.hid (own_below X5.out hb)
  clear hb B5 X5 c0 c1 c2 hlt hbw
  obtain ⟨c0, c1, c2, hlt, hbw⟩ := B6.out
  go_wp2_with fail
  refine (toInts _ hx1 (HA1.out.later B6.out.2.2.2.2)).mono ?_
  rintro e p7 ⟨v, rfl, hh, hb⟩
  have B7 := Lib.hid (B6.out.later hb)
  have X7 := Lib.hid (own_below X6.out hb)
  have hh := own_base hh (show w.heap.size + 1 ≤ p6.heap.size from B6.out.2.2.2.1)
  rw [HN1.out] at hh
  obtain ⟨ya, yc, rfl⟩ := int_form hh
  have Y7 := Lib.hid hh
  clear hh
  clear hb B6 X6 c0 c1 c2 hlt hbw
  obtain ⟨c0, c1, c2, hlt, hbw⟩ := B7.out
  go_wp2_with fail
  refine (eqInt _ _ xs1 _ HN1.out hx1 X7.out Y7.out).mono ?_
  rintro e p8 ⟨rfl, q, rfl⟩
  have hb := drewN_belowI p7 q
  have B8 := Lib.hid (B7.out.later hb)
  have X8 := Lib.hid (own_below X7.out hb)
  have Y8 := Lib.hid (own_below Y7.out hb)
  clear hb B7 X7 Y7 c0 c1 c2 hlt hbw
  generalize p7.drewN q = p8 at *
  go_wp2_with fail
  go_ret
  exact ⟨rfl, B8.out.2.2.2.2⟩
set_option maxRecDepth 100000 in
theorem lifted (os : Os) (started : os.Started) (H : Type) (enc : TypeId × Value → H) :
    ReturnsInHanded {} Try.checked os 3 .any (Rows.fnExactIsProofSpec.pre6 enc Try.prog Try.f3 Rows.fnExactIsProofRow.domain false) (Rows.fnExactIsProofSpec.post enc Try.prog Try.f3 false true false false) := by
  refine returnsInHanded_of_change (C := Try.checked) own started (by kernel_rfl) Try.func3
    (ChangeSpec.witness6 (enc := enc) (C := Try.checked) false ⟨#[], #[.agg #[.int .i64 0, .int .i64 0, .int .i64 0], .slice none 0 0, .int .i64 0, .int .i64 0], []⟩ 8 (by kernel_rfl) (by kernel_rfl) (by kernel_rfl) (by kernel_rfl)) ?_
  intro W base args ds gs before hval0 hW hcnd _
  have hval : ∀ (j : Nat) t v, Try.f3.params[j]? = some t → args[j]? = some v → Value.okWide Try.prog W .any base t v := hval0
  have hW' := hW
  obtain ⟨p, q, hA0, hV, rfl, hfz, hnd⟩ := hW
  have hA : DataW.TrodAll enc Try.prog W 0 (fun _ => true) true Try.f3.params.toList args.toList ds p := hA0
  rw [Try.params3] at hA hval
  obtain ⟨v0, vs0, d0, ds0, p0, q0, hargs, rfl, rfl, h0, r0⟩ := trodAll_cons hA
  obtain ⟨v1, vs1, d1, ds1, p1, q1, rfl, rfl, rfl, h1, r1⟩ := trodAll_cons r0
  obtain ⟨v2, vs2, d2, ds2, p2, q2, rfl, rfl, rfl, h2, r2⟩ := trodAll_cons r1
  obtain ⟨v3, vs3, d3, ds3, p3, q3, rfl, rfl, rfl, h3, r3⟩ := trodAll_cons r2
  obtain ⟨rfl, rfl, rfl⟩ := trodAll_nil r3
  obtain rfl : args = #[v0, v1, v2, v3] := by cases args; simp_all
  obtain ⟨rfl, rfl⟩ := trodVars_none hV
  obtain ⟨c0_0, c0_1, c0_2, y0_0, y0_1, y0_2, m0, rfl, rfl, rfl, hy0_0, hy0_1, hy0_2⟩ := Go.Joins.open_agg3 Try.underlying23 (by kernel_rfl) (by kernel_rfl : Try.prog.cellsOf 23 = 3) (hval 0 23 v0 rfl rfl) h0
  obtain ⟨a0_0, e0_0, rfl, w0_0⟩ := DataW.trod_int Try.underlying3 hy0_0
  obtain ⟨a0_1, e0_1, rfl, w0_1⟩ := DataW.trod_int Try.underlying3 hy0_1
  obtain ⟨a0_2, e0_2, rfl, w0_2⟩ := DataW.trod_int Try.underlying3 hy0_2
  simp only [List.cons.injEq, and_true] at e0_0 e0_1 e0_2
  subst e0_0 e0_1 e0_2
  obtain ⟨a1, len1, cap1, rfl⟩ := okWide_slice Try.underlying24 (hval 1 24 v1 rfl rfl)
  have k1 := h1
  have lt1 : ∀ x ∈ p1, x.block < W.heap.size := by obtain ⟨m, hm⟩ := k1; exact DataW.trod_lt m _ _ _ hm
  obtain ⟨z1, w1⟩ : ∃ zs, IsRow .i64 W a1 len1 cap1 zs := by
    obtain ⟨fuel, hf⟩ := h1
    rcases open_ints Try.underlying24 Try.underlying3 (by kernel_rfl) hf with ⟨hcs, _⟩ | ⟨x, l, c, zs, hcs, _, hl, hm, hz, _, hcell, hwz⟩
    · simp [Value.cells] at hcs
      obtain ⟨rfl, rfl, rfl⟩ := hcs
      exact ⟨[], .inl ⟨rfl, rfl, rfl, rfl⟩⟩
    · simp [Value.cells] at hcs
      obtain ⟨rfl, rfl, rfl⟩ := hcs
      exact ⟨zs, .inr ⟨_, rfl, hl, hm, by simpa using hz, hcell, hwz⟩⟩
  obtain ⟨a2, rfl, rfl, rfl, w2⟩ := open_int Try.underlying3 (hval 2 3 v2 rfl rfl) h2
  obtain ⟨a3, rfl, rfl, rfl, w3⟩ := open_int Try.underlying3 (hval 3 3 v3 rfl rfl) h3
  clear hA0 hval0
  refine (walk a0_0 a0_1 a0_2 a1 len1 cap1 z1 a2 a3 W w0_0 w0_1 w0_2 w1 w2 w3).mono fun e W' ⟨he, bel⟩ => ?_
  subst he
  exact ⟨_, rfl, _, _, _, [], _, [], hW', trodAll_mk1 (shut_bool Try.underlying4 _), (trodAll_cons_mk (Go.Joins.shut_agg3 (y0 := (.lit (.int .i64 a0_0), [])) (y1 := (.lit (.int .i64 a0_1), [])) (y2 := (.lit (.int .i64 a0_2), [])) Try.underlying23 (by kernel_rfl) (by kernel_rfl : Try.prog.cellsOf 23 = 3) (shut_int Try.underlying3 w0_0) (shut_int Try.underlying3 w0_1) (shut_int Try.underlying3 w0_2)) (trodAll_cons_mk (Below.trod laidOut (by kernel_rfl) (of_decide_eq_true (by kernel_rfl)) k1 bel lt1) (trodAll_cons_mk (shut_int Try.underlying3 w2) (trodAll_cons_mk (shut_int Try.underlying3 w3) trodAll_mk0)))), rfl, bel.frame _, fun h => by cases h⟩

theorem over : Rows.fnExactIsProofRow.holds Try.pinned (OpenSpec.ofChange Rows.fnExactIsProofSpec) :=
  OpenClaim.holds_of_wide 3 Try.f3 rfl rfl rfl rfl rfl rfl rfl ⟨rfl, rfl, rfl, rfl, rfl⟩ rfl rfl rfl rfl rfl (by kernel_rfl) Try.func3 (by kernel_rfl)
    (of_decide_eq_true (by kernel_rfl)) (by unfold Func.isWrapper; first | (rw [if_pos (by decide +kernel)]; kernel_rfl) | (rw [if_neg (by decide +kernel)]; exact ⟨rfl, rfl⟩))
    (fun os started H enc _ => lifted os started H enc)

theorem proved : Rows.FnExactIsProofSaid := over
end Go.Proofs.Ytkaabjklfhoooaa.fnExactIsProof
