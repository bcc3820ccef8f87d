/- The law FnExactLossOf returns true for every board, every slice of ints and every line: the program and the model give the same number, and the slice is left as it was. No condition. -/
import Derived.Test.YtpdhdogllejdbacRows
import Derived.WalkKit
import Derived.WalkSpells
import Derived.ProofKit
import Derived.OpenShut
import Derived.ShutString
import Derived.ChangeOld
import Derived.Below
import Derived.Lib.Hide
import Derived.Lib.SmallJoins
import Derived.ChangeArms
import Derived.Test.YtpdhdogllejdbacWeights
import Derived.Test.YtpdhdogllejdbacLinesAll
import Derived.Test.YtpdhdogllejdbacBoards
namespace Go.Proofs.Ytpdhdogllejdbac.fnExactLossOf
open Go.ChangeShapes Go.WideShapes Go.ChangeAt Go.RowKit
open Go.ChangeMaps (open_string shut_string)
set_option linter.unusedVariables false
set_option linter.unusedSimpArgs false
theorem own : ownKnob Try.prog.godebug = none := by kernel_rfl
theorem laidOut : laidOutB Try.prog = true := by kernel_rfl
/-- What the walk is told of a slice of integers that came in. -/
def IsRow (k : IntKind) (w : World) (a : Option Addr) (len cap : Nat) (zs : List Int) : Prop :=
  (a = none ∧ len = 0 ∧ cap = 0 ∧ zs = []) ∨
  ∃ x, a = some x ∧ len ≤ cap ∧ cap ≤ maxLen ∧ zs.length = cap ∧ (∀ i, i < zs.length → w.cell? (x.add i) = some (.int k (zs.getD i 0))) ∧ ∀ n ∈ zs, (Lit.int k n).wf = true
set_option maxHeartbeats 4000000 in
set_option maxRecDepth 100000 in
theorem walk (a0_0 : Int) (a0_1 : Int) (a0_2 : Int) (a1 : Option Addr) (len1 cap1 : Nat) (z1 : List Int) (a2_0 : Int) (a2_1 : Int) (a2_2 : Int) (w : World) (w0_0 : (Lit.int .i64 a0_0).wf = true) (w0_1 : (Lit.int .i64 a0_1).wf = true) (w0_2 : (Lit.int .i64 a0_2).wf = true) (w1 : IsRow .i64 w a1 len1 cap1 z1) (w2_0 : (Lit.int .i64 a2_0).wf = true) (w2_1 : (Lit.int .i64 a2_1).wf = true) (w2_2 : (Lit.int .i64 a2_2).wf = true) :
    Calls Try.prog 4 #[.agg #[.int .i64 a0_0, .int .i64 a0_1, .int .i64 a0_2], .slice a1 len1 cap1, .agg #[.int .i64 a2_0, .int .i64 a2_1, .int .i64 a2_2]] w fun e w' => e = .returned (.bool true) ∧ Below w.heap.size w w' := by
  clear w0_0 w0_1 w0_2 w2_0 w2_1 w2_2
  obtain ⟨hI1, hM1⟩ := ints_row w1
  unfold maxLen at hM1
  obtain ⟨xs1, hxs1⟩ : ∃ xs, z1.take len1 = xs := ⟨_, rfl⟩
  rw [hxs1] at hI1
  clear hxs1 w1
  have HN1 := Lib.hid hI1.1
  have HA1 := Lib.hid hI1
  clear hI1
  by_cases hx1 : len1 ≤ 1048576
  rotate_left
  · have hx1 := Nat.lt_of_not_le hx1
    have far1 : (1048576 : Int) < (len1 : Int) := by omega
    go_enter Try.func4, Try.ntmps4
    go_wp2_with fail
    have B0 := Lib.hid (bx2_new a0_0 a0_1 a0_2 a2_0 a2_1 a2_2 23 35 w)
    generalize (w.alloc (.cells #[.int .i64 a0_0, .int .i64 a0_1, .int .i64 a0_2] 23)).alloc (.cells #[.int .i64 a2_0, .int .i64 a2_1, .int .i64 a2_2] 35) = p0 at *
    try go_wp2_with fail
    go_ret
    exact ⟨rfl, B0.out.1.2.2.2.2⟩
  have near1 : ¬ (1048576 : Int) < (len1 : Int) := by omega
  have HS := Lib.hid (fun (g1 : Option Addr) (c1 : Nat) (w : World) (i1 : IntsAt w g1 len1 xs1) => specLossOf a0_0 a0_1 a0_2 a2_0 a2_1 a2_2 (c := c1) w hx1 i1)
  have HI := Lib.hid (fun (g1 : Option Addr) (c1 : Nat) (w : World) (i1 : IntsAt w g1 len1 xs1) => implLossOf a0_0 a0_1 a0_2 a2_0 a2_1 a2_2 (c := c1) w hx1 i1)
  obtain ⟨x, hv⟩ : ∃ r, lossB a0_0 a0_1 a0_2 xs1 (a2_0, a2_1, a2_2) = r := ⟨_, rfl⟩
  rw [hv] at HS HI
  clear hv
  go_enter Try.func4, Try.ntmps4
  go_wp2_with fail
  have B0 := Lib.hid (bx2_new a0_0 a0_1 a0_2 a2_0 a2_1 a2_2 23 35 w)
  generalize (w.alloc (.cells #[.int .i64 a0_0, .int .i64 a0_1, .int .i64 a0_2] 23)).alloc (.cells #[.int .i64 a2_0, .int .i64 a2_1, .int .i64 a2_2] 35) = p0 at *
  go_wp2_with fail
  refine wp_region_script (by kernel_rfl) (by kernel_rfl) ?_
  refine Script.load (i := 0) (v := ?_) rfl (by kernel_rfl) (by kernel_rfl) (fun _ _ _ h => h) (by kernel_rfl) ?_ ?_
  rotate_left
  · (intro wS hSw; obtain ⟨⟨c0, c1, c2, -, -⟩, ⟨d0, d1, d2, -, -⟩⟩ := B0.out.later (After.trans (After.drew (After.refl _)) hSw); go_simp; try with_reducible rfl)
  try simp only [Act.put, List.getElem_toArray, List.getElem_cons_succ, List.getElem_cons_zero, List.setIfInBounds_toArray, List.set_cons_zero, List.set_cons_succ]
  refine Script.call (i := 1) (v := ?_) rfl (by kernel_rfl) (by kernel_rfl) (fun _ _ _ h => h) (by kernel_rfl) ?_ ?_
  rotate_left
  · (intro wS hSw K hK; obtain ⟨⟨c0, c1, c2, -, -⟩, ⟨d0, d1, d2, -, -⟩⟩ := B0.out.later (After.trans (After.drew (After.refl _)) hSw); go_simp; go_at_call 10; refine (toB _ _ _ _).mono ?_; rintro e wc ⟨rfl, hbc⟩; exact hK.out _ hbc)
  try simp only [Act.put, List.getElem_toArray, List.getElem_cons_succ, List.getElem_cons_zero, List.setIfInBounds_toArray, List.set_cons_zero, List.set_cons_succ]
  refine Script.load (i := 2) (v := ?_) rfl (by kernel_rfl) (by kernel_rfl) (fun _ _ _ h => h) (by kernel_rfl) ?_ ?_
  rotate_left
  · (intro wS hSw; obtain ⟨⟨c0, c1, c2, -, -⟩, ⟨d0, d1, d2, -, -⟩⟩ := B0.out.later (After.trans (After.drew (After.refl _)) hSw); go_simp; try with_reducible rfl)
  try simp only [Act.put, List.getElem_toArray, List.getElem_cons_succ, List.getElem_cons_zero, List.setIfInBounds_toArray, List.set_cons_zero, List.set_cons_succ]
  refine Script.load (i := 4) (v := ?_) rfl (by kernel_rfl) (by kernel_rfl) (fun _ _ _ h => h) (by kernel_rfl) ?_ ?_
  rotate_left
  · (intro wS hSw; obtain ⟨⟨c0, c1, c2, -, -⟩, ⟨d0, d1, d2, -, -⟩⟩ := B0.out.later (After.trans (After.drew (After.refl _)) hSw); go_simp; try with_reducible rfl)
  try simp only [Act.put, List.getElem_toArray, List.getElem_cons_succ, List.getElem_cons_zero, List.setIfInBounds_toArray, List.set_cons_zero, List.set_cons_succ]
  refine Script.one (i := 3) rfl (by kernel_rfl) (by kernel_rfl) ?_
  intro wO hO K hK; have hSw := hO; obtain ⟨⟨c0, c1, c2, -, -⟩, ⟨d0, d1, d2, -, -⟩⟩ := B0.out.later (After.trans (After.drew (After.refl _)) hSw); go_simp
  clear hSw
  go_at_call 15; refine (toInts _ hx1 (HA1.out.later (B0.out.later (After.trans (After.drew (After.refl _)) hO)).1.2.2.2.2)).mono ?_; rintro e wc ⟨vk, rfl, hh, hbc⟩; rw [HN1.out] at hh; obtain ⟨xa, xc, rfl⟩ := int_form hh
  refine hK.out _ _ hbc ?_
  clear hK K
  try simp only [Act.put, List.getElem_toArray, List.getElem_cons_succ, List.getElem_cons_zero, List.setIfInBounds_toArray, List.set_cons_zero, List.set_cons_succ]
  clear c0 c1 c2 d0 d1 d2
  refine Script.call (i := 5) (v := ?_) rfl (by kernel_rfl) (by kernel_rfl) (fun _ _ _ h => h) (by kernel_rfl) ?_ ?_
  rotate_left
  · (intro wS hSw K hK; obtain ⟨⟨c0, c1, c2, -, -⟩, ⟨d0, d1, d2, -, -⟩⟩ := B0.out.later (After.trans (After.drew (After.refl _)) (After.trans hO (After.trans hbc hSw))); go_simp; go_at_call 16; refine (toLn _ _ _ _).mono ?_; rintro e wd ⟨rfl, hbc⟩; exact hK.out _ hbc)
  try simp only [Act.put, List.getElem_toArray, List.getElem_cons_succ, List.getElem_cons_zero, List.setIfInBounds_toArray, List.set_cons_zero, List.set_cons_succ]
  refine Script.call (i := 6) (v := ?_) rfl (by kernel_rfl) (by kernel_rfl) (fun _ _ _ h => h) (by kernel_rfl) ?_ ?_
  rotate_left
  · (intro wS hSw K hK; obtain ⟨⟨c0, c1, c2, -, -⟩, ⟨d0, d1, d2, -, -⟩⟩ := B0.out.later (After.trans (After.drew (After.refl _)) (After.trans hO (After.trans hbc hSw))); go_simp; go_at_call 14; refine (HS.out _ _ _ (ints_own (own_below hh hSw) HN1.out)).mono ?_; rintro e wd ⟨rfl, hbc⟩; exact hK.out _ hbc)
  try simp only [Act.put, List.getElem_toArray, List.getElem_cons_succ, List.getElem_cons_zero, List.setIfInBounds_toArray, List.set_cons_zero, List.set_cons_succ]
  refine Script.load (i := 7) (v := ?_) rfl (by kernel_rfl) (by kernel_rfl) (fun _ _ _ h => h) (by kernel_rfl) ?_ ?_
  rotate_left
  · (intro wS hSw; obtain ⟨⟨c0, c1, c2, -, -⟩, ⟨d0, d1, d2, -, -⟩⟩ := B0.out.later (After.trans (After.drew (After.refl _)) (After.trans hO (After.trans hbc hSw))); go_simp; try with_reducible rfl)
  try simp only [Act.put, List.getElem_toArray, List.getElem_cons_succ, List.getElem_cons_zero, List.setIfInBounds_toArray, List.set_cons_zero, List.set_cons_succ]
  refine Script.done (by kernel_rfl) ?_
  intro wD hD hG
  have B1 := Lib.hid (B0.out.later (After.trans (After.drew (After.refl _)) (After.trans hO (After.trans hbc hD))))
  clear hD hG hO hbc hh B0
  go_wp2_with fail
  refine (toInts _ hx1 (HA1.out.later B1.out.1.2.2.2.2)).mono ?_
  rintro e p2 ⟨v, rfl, hh, hb⟩
  have B2 := Lib.hid (B1.out.later hb)
  have hh := own_base hh (show w.heap.size + 1 ≤ wD.heap.size from B1.out.1.2.2.2.1)
  rw [HN1.out] at hh
  obtain ⟨xa, xc, rfl⟩ := int_form hh
  have X2 := Lib.hid hh
  clear hh hb B1
  go_wp2_with fail
  refine wp_region_script (by kernel_rfl) (by kernel_rfl) ?_
  refine Script.load (i := 0) (v := ?_) rfl (by kernel_rfl) (by kernel_rfl) (fun _ _ _ h => h) (by kernel_rfl) ?_ ?_
  rotate_left
  · (intro wS hSw; obtain ⟨⟨c0, c1, c2, -, -⟩, ⟨d0, d1, d2, -, -⟩⟩ := B2.out.later (After.trans (After.drew (After.refl _)) hSw); go_simp; try with_reducible rfl)
  try simp only [Act.put, List.getElem_toArray, List.getElem_cons_succ, List.getElem_cons_zero, List.setIfInBounds_toArray, List.set_cons_zero, List.set_cons_succ]
  refine Script.call (i := 1) (v := ?_) rfl (by kernel_rfl) (by kernel_rfl) (fun _ _ _ h => h) (by kernel_rfl) ?_ ?_
  rotate_left
  · (intro wS hSw K hK; obtain ⟨⟨c0, c1, c2, -, -⟩, ⟨d0, d1, d2, -, -⟩⟩ := B2.out.later (After.trans (After.drew (After.refl _)) hSw); go_simp; go_at_call 10; refine (toB _ _ _ _).mono ?_; rintro e wc ⟨rfl, hbc⟩; exact hK.out _ hbc)
  try simp only [Act.put, List.getElem_toArray, List.getElem_cons_succ, List.getElem_cons_zero, List.setIfInBounds_toArray, List.set_cons_zero, List.set_cons_succ]
  refine Script.load (i := 2) (v := ?_) rfl (by kernel_rfl) (by kernel_rfl) (fun _ _ _ h => h) (by kernel_rfl) ?_ ?_
  rotate_left
  · (intro wS hSw; obtain ⟨⟨c0, c1, c2, -, -⟩, ⟨d0, d1, d2, -, -⟩⟩ := B2.out.later (After.trans (After.drew (After.refl _)) hSw); go_simp; try with_reducible rfl)
  try simp only [Act.put, List.getElem_toArray, List.getElem_cons_succ, List.getElem_cons_zero, List.setIfInBounds_toArray, List.set_cons_zero, List.set_cons_succ]
  refine Script.load (i := 3) (v := ?_) rfl (by kernel_rfl) (by kernel_rfl) (fun _ _ _ h => h) (by kernel_rfl) ?_ ?_
  rotate_left
  · (intro wS hSw; obtain ⟨⟨c0, c1, c2, -, -⟩, ⟨d0, d1, d2, -, -⟩⟩ := B2.out.later (After.trans (After.drew (After.refl _)) hSw); go_simp; try with_reducible rfl)
  try simp only [Act.put, List.getElem_toArray, List.getElem_cons_succ, List.getElem_cons_zero, List.setIfInBounds_toArray, List.set_cons_zero, List.set_cons_succ]
  refine Script.call (i := 4) (v := ?_) rfl (by kernel_rfl) (by kernel_rfl) (fun _ _ _ h => h) (by kernel_rfl) ?_ ?_
  rotate_left
  · (intro wS hSw K hK; obtain ⟨⟨c0, c1, c2, -, -⟩, ⟨d0, d1, d2, -, -⟩⟩ := B2.out.later (After.trans (After.drew (After.refl _)) hSw); go_simp; go_at_call 16; refine (toLn _ _ _ _).mono ?_; rintro e wc ⟨rfl, hbc⟩; exact hK.out _ hbc)
  try simp only [Act.put, List.getElem_toArray, List.getElem_cons_succ, List.getElem_cons_zero, List.setIfInBounds_toArray, List.set_cons_zero, List.set_cons_succ]
  refine Script.call (i := 5) (v := ?_) rfl (by kernel_rfl) (by kernel_rfl) (fun _ _ _ h => h) (by kernel_rfl) ?_ ?_
  rotate_left
  · (intro wS hSw K hK; obtain ⟨⟨c0, c1, c2, -, -⟩, ⟨d0, d1, d2, -, -⟩⟩ := B2.out.later (After.trans (After.drew (After.refl _)) hSw); go_simp; go_at_call 17; refine (HI.out _ _ _ (ints_own (own_below X2.out (After.trans (After.drew (After.refl _)) hSw)) HN1.out)).mono ?_; rintro e wd ⟨rfl, hbc⟩; exact hK.out _ hbc)
  try simp only [Act.put, List.getElem_toArray, List.getElem_cons_succ, List.getElem_cons_zero, List.setIfInBounds_toArray, List.set_cons_zero, List.set_cons_succ]
  refine Script.load (i := 6) (v := ?_) rfl (by kernel_rfl) (by kernel_rfl) (fun _ _ _ h => h) (by kernel_rfl) ?_ ?_
  rotate_left
  · (intro wS hSw; obtain ⟨⟨c0, c1, c2, -, -⟩, ⟨d0, d1, d2, -, -⟩⟩ := B2.out.later (After.trans (After.drew (After.refl _)) hSw); go_simp; try with_reducible rfl)
  try simp only [Act.put, List.getElem_toArray, List.getElem_cons_succ, List.getElem_cons_zero, List.setIfInBounds_toArray, List.set_cons_zero, List.set_cons_succ]
  refine Script.done (by kernel_rfl) ?_
  intro wD hD hG
  have B3 := Lib.hid (B2.out.later (After.trans (After.drew (After.refl _)) hD))
  have X3 := Lib.hid (own_below X2.out (After.trans (After.drew (After.refl _)) hD))
  clear hD hG B2 X2
  go_wp2_with fail
  refine (toInts _ hx1 (HA1.out.later B3.out.1.2.2.2.2)).mono ?_
  rintro e p4 ⟨v, rfl, hh, hb⟩
  have B4 := Lib.hid (B3.out.later hb)
  have X4 := Lib.hid (own_below X3.out hb)
  rw [HN1.out] at hh
  obtain ⟨ya, yc, rfl⟩ := int_form hh
  have Y4 := Lib.hid hh
  clear hh hb B3 X3
  go_wp2_with fail
  refine (eqInt _ _ xs1 _ HN1.out hx1 X4.out Y4.out).mono ?_
  rintro e p5 ⟨rfl, q, rfl⟩
  go_wp2_with fail
  go_ret
  exact ⟨rfl, below_drewN _ B4.out.1.2.2.2.2⟩
set_option maxRecDepth 100000 in
theorem lifted (os : Os) (started : os.Started) (H : Type) (enc : TypeId × Value → H) :
    ReturnsInHanded {} Try.checked os 4 .any (Rows.fnExactLossOfSpec.pre6 enc Try.prog Try.f4 Rows.fnExactLossOfRow.domain false) (Rows.fnExactLossOfSpec.post enc Try.prog Try.f4 false true false false) := by
  refine returnsInHanded_of_change (C := Try.checked) own started (by kernel_rfl) Try.func4
    (ChangeSpec.witness6 (enc := enc) (C := Try.checked) false ⟨#[], #[.agg #[.int .i64 0, .int .i64 0, .int .i64 0], .slice none 0 0, .agg #[.int .i64 0, .int .i64 0, .int .i64 0]], []⟩ 8 (by kernel_rfl) (by kernel_rfl) (by kernel_rfl) (by kernel_rfl)) ?_
  intro W base args ds gs before hval0 hW hcnd _
  have hval : ∀ (j : Nat) t v, Try.f4.params[j]? = some t → args[j]? = some v → Value.okWide Try.prog W .any base t v := hval0
  have hW' := hW
  obtain ⟨p, q, hA0, hV, rfl, hfz, hnd⟩ := hW
  have hA : DataW.TrodAll enc Try.prog W 0 (fun _ => true) true Try.f4.params.toList args.toList ds p := hA0
  rw [Try.params4] at hA hval
  obtain ⟨v0, vs0, d0, ds0, p0, q0, hargs, rfl, rfl, h0, r0⟩ := trodAll_cons hA
  obtain ⟨v1, vs1, d1, ds1, p1, q1, rfl, rfl, rfl, h1, r1⟩ := trodAll_cons r0
  obtain ⟨v2, vs2, d2, ds2, p2, q2, rfl, rfl, rfl, h2, r2⟩ := trodAll_cons r1
  obtain ⟨rfl, rfl, rfl⟩ := trodAll_nil r2
  obtain rfl : args = #[v0, v1, v2] := by cases args; simp_all
  obtain ⟨rfl, rfl⟩ := trodVars_none hV
  obtain ⟨c0_0, c0_1, c0_2, y0_0, y0_1, y0_2, m0, rfl, rfl, rfl, hy0_0, hy0_1, hy0_2⟩ := Go.Joins.open_agg3 Try.underlying23 (by kernel_rfl) (by kernel_rfl : Try.prog.cellsOf 23 = 3) (hval 0 23 v0 rfl rfl) h0
  obtain ⟨a0_0, e0_0, rfl, w0_0⟩ := DataW.trod_int Try.underlying3 hy0_0
  obtain ⟨a0_1, e0_1, rfl, w0_1⟩ := DataW.trod_int Try.underlying3 hy0_1
  obtain ⟨a0_2, e0_2, rfl, w0_2⟩ := DataW.trod_int Try.underlying3 hy0_2
  simp only [List.cons.injEq, and_true] at e0_0 e0_1 e0_2
  subst e0_0 e0_1 e0_2
  obtain ⟨a1, len1, cap1, rfl⟩ := okWide_slice Try.underlying33 (hval 1 33 v1 rfl rfl)
  have k1 := h1
  have lt1 : ∀ x ∈ p1, x.block < W.heap.size := by obtain ⟨m, hm⟩ := k1; exact DataW.trod_lt m _ _ _ hm
  obtain ⟨z1, w1⟩ : ∃ zs, IsRow .i64 W a1 len1 cap1 zs := by
    obtain ⟨fuel, hf⟩ := h1
    rcases open_ints Try.underlying33 Try.underlying3 (by kernel_rfl) hf with ⟨hcs, _⟩ | ⟨x, l, c, zs, hcs, _, hl, hm, hz, _, hcell, hwz⟩
    · simp [Value.cells] at hcs
      obtain ⟨rfl, rfl, rfl⟩ := hcs
      exact ⟨[], .inl ⟨rfl, rfl, rfl, rfl⟩⟩
    · simp [Value.cells] at hcs
      obtain ⟨rfl, rfl, rfl⟩ := hcs
      exact ⟨zs, .inr ⟨_, rfl, hl, hm, by simpa using hz, hcell, hwz⟩⟩
  obtain ⟨c2_0, c2_1, c2_2, y2_0, y2_1, y2_2, m2, rfl, rfl, rfl, hy2_0, hy2_1, hy2_2⟩ := Go.Joins.open_agg3 Try.underlying35 (by kernel_rfl) (by kernel_rfl : Try.prog.cellsOf 35 = 3) (hval 2 35 v2 rfl rfl) h2
  obtain ⟨a2_0, e2_0, rfl, w2_0⟩ := DataW.trod_int Try.underlying3 hy2_0
  obtain ⟨a2_1, e2_1, rfl, w2_1⟩ := DataW.trod_int Try.underlying3 hy2_1
  obtain ⟨a2_2, e2_2, rfl, w2_2⟩ := DataW.trod_int Try.underlying3 hy2_2
  simp only [List.cons.injEq, and_true] at e2_0 e2_1 e2_2
  subst e2_0 e2_1 e2_2
  clear hA0 hval0
  refine (walk a0_0 a0_1 a0_2 a1 len1 cap1 z1 a2_0 a2_1 a2_2 W w0_0 w0_1 w0_2 w1 w2_0 w2_1 w2_2).mono fun e W' ⟨he, bel⟩ => ?_
  subst he
  exact ⟨_, rfl, _, _, _, [], _, [], hW', trodAll_mk1 (shut_bool Try.underlying4 _), (trodAll_cons_mk (Go.Joins.shut_agg3 (y0 := (.lit (.int .i64 a0_0), [])) (y1 := (.lit (.int .i64 a0_1), [])) (y2 := (.lit (.int .i64 a0_2), [])) Try.underlying23 (by kernel_rfl) (by kernel_rfl : Try.prog.cellsOf 23 = 3) (shut_int Try.underlying3 w0_0) (shut_int Try.underlying3 w0_1) (shut_int Try.underlying3 w0_2)) (trodAll_cons_mk (Below.trod laidOut (by kernel_rfl) (of_decide_eq_true (by kernel_rfl)) k1 bel lt1) (trodAll_cons_mk (Go.Joins.shut_agg3 (y0 := (.lit (.int .i64 a2_0), [])) (y1 := (.lit (.int .i64 a2_1), [])) (y2 := (.lit (.int .i64 a2_2), [])) Try.underlying35 (by kernel_rfl) (by kernel_rfl : Try.prog.cellsOf 35 = 3) (shut_int Try.underlying3 w2_0) (shut_int Try.underlying3 w2_1) (shut_int Try.underlying3 w2_2)) trodAll_mk0))), rfl, bel.frame _, fun h => by cases h⟩

theorem over : Rows.fnExactLossOfRow.holds Try.pinned (OpenSpec.ofChange Rows.fnExactLossOfSpec) :=
  OpenClaim.holds_of_wide 4 Try.f4 rfl rfl rfl rfl rfl rfl rfl ⟨rfl, rfl, rfl, rfl, rfl⟩ rfl rfl rfl rfl rfl (by kernel_rfl) Try.func4 (by kernel_rfl)
    (of_decide_eq_true (by kernel_rfl)) (by unfold Func.isWrapper; first | (rw [if_pos (by decide +kernel)]; kernel_rfl) | (rw [if_neg (by decide +kernel)]; exact ⟨rfl, rfl⟩))
    (fun os started H enc _ => lifted os started H enc)

theorem proved : Rows.FnExactLossOfSaid := over
end Go.Proofs.Ytpdhdogllejdbac.fnExactLossOf
