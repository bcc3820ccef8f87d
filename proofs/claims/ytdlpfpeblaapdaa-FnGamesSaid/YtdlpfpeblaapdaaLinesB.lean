/- The hole beside a hole in the model's own way. -/
import Derived.Test.YtdlpfpeblaapdaaLinesA
namespace Go.Proofs.Ytdlpfpeblaapdaa
open Go.RowKit
set_option linter.unusedVariables false
set_option linter.unusedSimpArgs false
theorem dirs_cell {w : World} {q d : Nat} (f : Nat → Int) (hd : d < 4) (h : w.heap[q]? = some (.cells #[.int .i64 (f 0), .int .i64 (f 1), .int .i64 (f 2), .int .i64 (f 3)] 3 (0, 0))) : w.cell? ⟨q, d, none⟩ = some (.int .i64 (f d)) := by
  rw [cell_of_row w q d _ _ _ h]
  match d, hd with
  | 0, _ | 1, _ | 2, _ | 3, _ => rfl
theorem new_lt (w : World) (o : Obj) : w.heap.size < (w.alloc o).heap.size := by simp
theorem bit_int0 (z k : Nat) : ((z : Int) / 2 ^ k % 2 == 0) = !bit z k := by
  have h := bit_int z k
  rw [← h]
  have h1 : (z : Int) / 2 ^ k % 2 = 0 ∨ (z : Int) / 2 ^ k % 2 = 1 := by omega
  rcases h1 with h1 | h1 <;> rw [h1] <;> rfl
set_option maxHeartbeats 1000000 in
set_option maxRecDepth 100000 in
theorem specStepG {W H : Int} {z k d j : Nat} {x y X Y m R : Int} (w : World) (hd : d < 4) (hW : 1 ≤ W) (hw7 : W ≤ 7) (hh1 : 1 ≤ H) (hh7 : H ≤ 7) (hx : ((k : Int)).tmod W = x) (hy : ((k : Int)).tdiv W = y)
    (e1 : IntKind.i64.wrap (x + dxOf d) = X) (e2 : IntKind.i64.wrap (y + dyOf d) = Y) (e3 : IntKind.i64.wrap x = x) (e4 : IntKind.i64.wrap y = y) (hX0 : -1 ≤ X) (hX7 : X ≤ 7) (hY0 : -1 ≤ Y) (hY7 : Y ≤ 7)
    (hc : Hid ((inB X 0 (W - 1) = false ∧ R = -1) ∨ (inB X 0 (W - 1) = true ∧ inB Y 0 (H - 1) = false ∧ R = -1) ∨ (inB X 0 (W - 1) = true ∧ inB Y 0 (H - 1) = true ∧ Y * W = m ∧ m + X = j ∧ 0 ≤ m ∧ m ≤ 49 ∧ j < 49 ∧ R = if bit z j then (j : Int) else -1))) :
    Calls Try.prog 69 #[.agg #[.int .i64 W, .int .i64 H, .int .i64 z], .int .i64 k, .int .i64 d] w fun e w' => e = .returned (.int .i64 R) ∧ Below w.heap.size w w' := by
  have q0 : ¬ W = 0 := by omega
  have d0 : (0 : Int) ≤ (d : Int) := by omega
  have d4 : (d : Int) < 4 := by omega
  go_enter Try.func69, Try.ntmps69
  go_wp2_with fail
  have B0 := Lib.hid (box_new W H z w)
  generalize w.alloc (.cells #[.int .i64 W, .int .i64 H, .int .i64 z] 25) = W1 at *
  refine wp_region_script (by kernel_rfl) (by kernel_rfl) ?_
  refine Script.load (i := 0) (v := ?_) rfl (by kernel_rfl) (by kernel_rfl) (fun _ _ _ h => h) (by kernel_rfl) ?_ ?_
  rotate_left
  · (intro wS hSw; obtain ⟨c0, c1, c2, -, -⟩ := B0.out.later (After.trans (After.drew (After.refl _)) hSw); go_simp; try with_reducible rfl)
  try simp only [Act.put, List.getElem_toArray, List.getElem_cons_succ, List.getElem_cons_zero, List.setIfInBounds_toArray, List.set_cons_zero, List.set_cons_succ]
  refine Script.load (i := 1) (v := ?_) rfl (by kernel_rfl) (by kernel_rfl) (fun _ _ _ h => h) (by kernel_rfl) ?_ ?_
  rotate_left
  · (intro wS hSw; obtain ⟨c0, c1, c2, -, -⟩ := B0.out.later (After.trans (After.drew (After.refl _)) hSw); go_simp; try with_reducible rfl)
  try simp only [Act.put, List.getElem_toArray, List.getElem_cons_succ, List.getElem_cons_zero, List.setIfInBounds_toArray, List.set_cons_zero, List.set_cons_succ]
  refine Script.load (i := 2) (v := ?_) rfl (by kernel_rfl) (by kernel_rfl) (fun _ _ _ h => h) (by kernel_rfl) ?_ ?_
  rotate_left
  · (intro wS hSw; obtain ⟨c0, c1, c2, -, -⟩ := B0.out.later (After.trans (After.drew (After.refl _)) hSw); go_simp; try with_reducible rfl)
  try simp only [Act.put, List.getElem_toArray, List.getElem_cons_succ, List.getElem_cons_zero, List.setIfInBounds_toArray, List.set_cons_zero, List.set_cons_succ]
  refine Script.load (i := 3) (v := ?_) rfl (by kernel_rfl) (by kernel_rfl) (fun _ _ _ h => h) (by kernel_rfl) ?_ ?_
  rotate_left
  · (intro wS hSw; obtain ⟨c0, c1, c2, -, -⟩ := B0.out.later (After.trans (After.drew (After.refl _)) hSw); go_simp; try with_reducible rfl)
  try simp only [Act.put, List.getElem_toArray, List.getElem_cons_succ, List.getElem_cons_zero, List.setIfInBounds_toArray, List.set_cons_zero, List.set_cons_succ]
  refine Script.load (i := 5) (v := ?_) rfl (by kernel_rfl) (by kernel_rfl) (fun _ _ _ h => h) (by kernel_rfl) ?_ ?_
  rotate_left
  · (intro wS hSw; obtain ⟨c0, c1, c2, -, -⟩ := B0.out.later (After.trans (After.drew (After.refl _)) hSw); go_simp; try with_reducible rfl)
  try simp only [Act.put, List.getElem_toArray, List.getElem_cons_succ, List.getElem_cons_zero, List.setIfInBounds_toArray, List.set_cons_zero, List.set_cons_succ]
  refine Script.one (i := 4) rfl (by kernel_rfl) (by kernel_rfl) ?_
  intro wO hO K hK; have hSw := hO; obtain ⟨c0, c1, c2, -, -⟩ := B0.out.later (After.trans (After.drew (After.refl _)) hSw); go_simp
  clear hSw
  have hbc : After wO (wO.alloc (.cells #[.int .i64 1, .int .i64 0, .int .i64 (-1), .int .i64 0] 3)) := (Below.refl _ _).alloc (Nat.le_refl _) _
  refine hK.out _ _ hbc ?_
  clear hK K
  try simp only [Act.put, List.getElem_toArray, List.getElem_cons_succ, List.getElem_cons_zero, List.setIfInBounds_toArray, List.set_cons_zero, List.set_cons_succ]
  clear c0 c1 c2
  refine Script.load (i := 6) (v := ?_) rfl (by kernel_rfl) (by kernel_rfl) (fun _ _ _ h => h) (by kernel_rfl) ?_ ?_
  rotate_left
  · (intro wS hSw; obtain ⟨c0, c1, c2, -, -⟩ := B0.out.later (After.trans (After.drew (After.refl _)) (After.trans hO (After.trans hbc hSw))); have hn := dirs_cell dxOf hd (row_later (heap_alloc_new wO _) hSw (new_lt _ _)); go_simp; try with_reducible rfl)
  try simp only [Act.put, List.getElem_toArray, List.getElem_cons_succ, List.getElem_cons_zero, List.setIfInBounds_toArray, List.set_cons_zero, List.set_cons_succ]
  refine Script.load (i := 7) (v := ?_) rfl (by kernel_rfl) (by kernel_rfl) (fun _ _ _ h => h) (by kernel_rfl) ?_ ?_
  rotate_left
  · (intro wS hSw; obtain ⟨c0, c1, c2, -, -⟩ := B0.out.later (After.trans (After.drew (After.refl _)) (After.trans hO (After.trans hbc hSw))); have hn := dirs_cell dxOf hd (row_later (heap_alloc_new wO _) hSw (new_lt _ _)); go_simp; try with_reducible rfl)
  try simp only [Act.put, List.getElem_toArray, List.getElem_cons_succ, List.getElem_cons_zero, List.setIfInBounds_toArray, List.set_cons_zero, List.set_cons_succ]
  refine Script.load (i := 8) (v := ?_) rfl (by kernel_rfl) (by kernel_rfl) (fun _ _ _ h => h) (by kernel_rfl) ?_ ?_
  rotate_left
  · (intro wS hSw; obtain ⟨c0, c1, c2, -, -⟩ := B0.out.later (After.trans (After.drew (After.refl _)) (After.trans hO (After.trans hbc hSw))); have hn := dirs_cell dxOf hd (row_later (heap_alloc_new wO _) hSw (new_lt _ _)); go_simp; try with_reducible rfl)
  try simp only [Act.put, List.getElem_toArray, List.getElem_cons_succ, List.getElem_cons_zero, List.setIfInBounds_toArray, List.set_cons_zero, List.set_cons_succ]
  refine Script.load (i := 9) (v := ?_) rfl (by kernel_rfl) (by kernel_rfl) (fun _ _ _ h => h) (by kernel_rfl) ?_ ?_
  rotate_left
  · (intro wS hSw; obtain ⟨c0, c1, c2, -, -⟩ := B0.out.later (After.trans (After.drew (After.refl _)) (After.trans hO (After.trans hbc hSw))); have hn := dirs_cell dxOf hd (row_later (heap_alloc_new wO _) hSw (new_lt _ _)); go_simp; try with_reducible rfl)
  try simp only [Act.put, List.getElem_toArray, List.getElem_cons_succ, List.getElem_cons_zero, List.setIfInBounds_toArray, List.set_cons_zero, List.set_cons_succ]
  refine Script.done (by kernel_rfl) ?_
  intro wD hD hG
  have B1 := Lib.hid (B0.out.later (After.trans (After.drew (After.refl _)) (After.trans hO (After.trans hbc hD))))
  clear hD hbc hO B0
  go_wp2_with fail
  refine wp_region_script (by kernel_rfl) (by kernel_rfl) ?_
  refine Script.load (i := 0) (v := ?_) rfl (by kernel_rfl) (by kernel_rfl) (fun _ _ _ h => h) (by kernel_rfl) ?_ ?_
  rotate_left
  · (intro wS hSw; obtain ⟨c0, c1, c2, -, -⟩ := B1.out.later (After.trans (After.drew (After.refl _)) hSw); go_simp; try with_reducible rfl)
  try simp only [Act.put, List.getElem_toArray, List.getElem_cons_succ, List.getElem_cons_zero, List.setIfInBounds_toArray, List.set_cons_zero, List.set_cons_succ]
  refine Script.load (i := 1) (v := ?_) rfl (by kernel_rfl) (by kernel_rfl) (fun _ _ _ h => h) (by kernel_rfl) ?_ ?_
  rotate_left
  · (intro wS hSw; obtain ⟨c0, c1, c2, -, -⟩ := B1.out.later (After.trans (After.drew (After.refl _)) hSw); go_simp; try with_reducible rfl)
  try simp only [Act.put, List.getElem_toArray, List.getElem_cons_succ, List.getElem_cons_zero, List.setIfInBounds_toArray, List.set_cons_zero, List.set_cons_succ]
  refine Script.load (i := 2) (v := ?_) rfl (by kernel_rfl) (by kernel_rfl) (fun _ _ _ h => h) (by kernel_rfl) ?_ ?_
  rotate_left
  · (intro wS hSw; obtain ⟨c0, c1, c2, -, -⟩ := B1.out.later (After.trans (After.drew (After.refl _)) hSw); go_simp; try with_reducible rfl)
  try simp only [Act.put, List.getElem_toArray, List.getElem_cons_succ, List.getElem_cons_zero, List.setIfInBounds_toArray, List.set_cons_zero, List.set_cons_succ]
  refine Script.load (i := 3) (v := ?_) rfl (by kernel_rfl) (by kernel_rfl) (fun _ _ _ h => h) (by kernel_rfl) ?_ ?_
  rotate_left
  · (intro wS hSw; obtain ⟨c0, c1, c2, -, -⟩ := B1.out.later (After.trans (After.drew (After.refl _)) hSw); go_simp; try with_reducible rfl)
  try simp only [Act.put, List.getElem_toArray, List.getElem_cons_succ, List.getElem_cons_zero, List.setIfInBounds_toArray, List.set_cons_zero, List.set_cons_succ]
  refine Script.load (i := 5) (v := ?_) rfl (by kernel_rfl) (by kernel_rfl) (fun _ _ _ h => h) (by kernel_rfl) ?_ ?_
  rotate_left
  · (intro wS hSw; obtain ⟨c0, c1, c2, -, -⟩ := B1.out.later (After.trans (After.drew (After.refl _)) hSw); go_simp; try with_reducible rfl)
  try simp only [Act.put, List.getElem_toArray, List.getElem_cons_succ, List.getElem_cons_zero, List.setIfInBounds_toArray, List.set_cons_zero, List.set_cons_succ]
  refine Script.one (i := 4) rfl (by kernel_rfl) (by kernel_rfl) ?_
  intro wO hO K hK; have hSw := hO; obtain ⟨c0, c1, c2, -, -⟩ := B1.out.later (After.trans (After.drew (After.refl _)) hSw); go_simp
  clear hSw
  have hbc : After wO (wO.alloc (.cells #[.int .i64 0, .int .i64 1, .int .i64 0, .int .i64 (-1)] 3)) := (Below.refl _ _).alloc (Nat.le_refl _) _
  refine hK.out _ _ hbc ?_
  clear hK K
  try simp only [Act.put, List.getElem_toArray, List.getElem_cons_succ, List.getElem_cons_zero, List.setIfInBounds_toArray, List.set_cons_zero, List.set_cons_succ]
  clear c0 c1 c2
  refine Script.load (i := 6) (v := ?_) rfl (by kernel_rfl) (by kernel_rfl) (fun _ _ _ h => h) (by kernel_rfl) ?_ ?_
  rotate_left
  · (intro wS hSw; obtain ⟨c0, c1, c2, -, -⟩ := B1.out.later (After.trans (After.drew (After.refl _)) (After.trans hO (After.trans hbc hSw))); have hn := dirs_cell dyOf hd (row_later (heap_alloc_new wO _) hSw (new_lt _ _)); go_simp; try with_reducible rfl)
  try simp only [Act.put, List.getElem_toArray, List.getElem_cons_succ, List.getElem_cons_zero, List.setIfInBounds_toArray, List.set_cons_zero, List.set_cons_succ]
  refine Script.load (i := 7) (v := ?_) rfl (by kernel_rfl) (by kernel_rfl) (fun _ _ _ h => h) (by kernel_rfl) ?_ ?_
  rotate_left
  · (intro wS hSw; obtain ⟨c0, c1, c2, -, -⟩ := B1.out.later (After.trans (After.drew (After.refl _)) (After.trans hO (After.trans hbc hSw))); have hn := dirs_cell dyOf hd (row_later (heap_alloc_new wO _) hSw (new_lt _ _)); go_simp; try with_reducible rfl)
  try simp only [Act.put, List.getElem_toArray, List.getElem_cons_succ, List.getElem_cons_zero, List.setIfInBounds_toArray, List.set_cons_zero, List.set_cons_succ]
  refine Script.load (i := 8) (v := ?_) rfl (by kernel_rfl) (by kernel_rfl) (fun _ _ _ h => h) (by kernel_rfl) ?_ ?_
  rotate_left
  · (intro wS hSw; obtain ⟨c0, c1, c2, -, -⟩ := B1.out.later (After.trans (After.drew (After.refl _)) (After.trans hO (After.trans hbc hSw))); have hn := dirs_cell dyOf hd (row_later (heap_alloc_new wO _) hSw (new_lt _ _)); go_simp; try with_reducible rfl)
  try simp only [Act.put, List.getElem_toArray, List.getElem_cons_succ, List.getElem_cons_zero, List.setIfInBounds_toArray, List.set_cons_zero, List.set_cons_succ]
  refine Script.load (i := 9) (v := ?_) rfl (by kernel_rfl) (by kernel_rfl) (fun _ _ _ h => h) (by kernel_rfl) ?_ ?_
  rotate_left
  · (intro wS hSw; obtain ⟨c0, c1, c2, -, -⟩ := B1.out.later (After.trans (After.drew (After.refl _)) (After.trans hO (After.trans hbc hSw))); have hn := dirs_cell dyOf hd (row_later (heap_alloc_new wO _) hSw (new_lt _ _)); go_simp; try with_reducible rfl)
  try simp only [Act.put, List.getElem_toArray, List.getElem_cons_succ, List.getElem_cons_zero, List.setIfInBounds_toArray, List.set_cons_zero, List.set_cons_succ]
  refine Script.done (by kernel_rfl) ?_
  intro wD hD hG
  have B2 := Lib.hid (B1.out.later (After.trans (After.drew (After.refl _)) (After.trans hO (After.trans hbc hD))))
  clear hD hbc hO B1 e1 e2 e3 e4 hx hy
  obtain ⟨c0, c1, c2, hlt, hbw⟩ := B2.out
  rcases hc.out with ⟨i1, hr⟩ | ⟨i1, i2, hr⟩ | ⟨i1, i2, hm, hj, m0, m7, hj49, hr⟩
  · have HR := Lib.hid hr
    clear hr hc
    go_wp2_with fail
    refine (specIn _ _ _ _).mono ?_
    rintro e w3 ⟨rfl, rfl⟩
    rw [i1]
    go_wp2_with fail
    go_ret
    exact ⟨ret_int HR.out.symm, hbw⟩
  · have HR := Lib.hid hr
    clear hr hc
    go_wp2_with fail
    refine (specIn _ _ _ _).mono ?_
    rintro e w3 ⟨rfl, rfl⟩
    rw [i1]
    go_wp2_with fail
    refine (specIn _ _ _ _).mono ?_
    rintro e w3 ⟨rfl, rfl⟩
    rw [i2]
    go_wp2_with fail
    go_ret
    exact ⟨ret_int HR.out.symm, hbw⟩
  · have HR := Lib.hid hr
    have hand := hand1
    have hb0 := bit_int0 z j
    clear hr hc
    cases hbit : bit z j
    · rw [hbit] at hb0 HR
      go_wp2_with fail
      refine (specIn _ _ _ _).mono ?_
      rintro e w3 ⟨rfl, rfl⟩
      rw [i1]
      go_wp2_with fail
      refine (specIn _ _ _ _).mono ?_
      rintro e w3 ⟨rfl, rfl⟩
      rw [i2]
      go_wp2_with fail
      go_ret
      exact ⟨ret_int HR.out.symm, hbw⟩
    · rw [hbit] at hb0 HR
      go_wp2_with fail
      refine (specIn _ _ _ _).mono ?_
      rintro e w3 ⟨rfl, rfl⟩
      rw [i1]
      go_wp2_with fail
      refine (specIn _ _ _ _).mono ?_
      rintro e w3 ⟨rfl, rfl⟩
      rw [i2]
      go_wp2_with fail
      go_ret
      exact ⟨ret_int HR.out.symm, hbw⟩
/-- The hole beside, or -1. -/
def stepI (o : Option Nat) : Int := match o with
  | some j => (j : Int)
  | none => -1
theorem specStep {a b N z k d : Nat} (h : Ok (a : Int) (b : Int) N z) (hk : k < a * b) (hd : d < 4) (w : World) :
    Calls Try.prog 69 #[.agg #[.int .i64 a, .int .i64 b, .int .i64 z], .int .i64 k, .int .i64 d] w fun e w' => e = .returned (.int .i64 (stepI (stepN a b z k d))) ∧ Below w.heap.size w w' := by
  obtain ⟨hN, ha, ha7, hb, hb7, hab⟩ := h.nat
  obtain ⟨p1, p2, p3⟩ := place_of ha hk
  obtain ⟨d1, d2, d3, d4⟩ := dx_bd d
  have hx : ((k : Int)).tmod a = ((k % a : Nat) : Int) := by rw [Int.tmod_eq_emod_of_nonneg (by omega)]; simp
  have hy : ((k : Int)).tdiv a = ((k / a : Nat) : Int) := by rw [Int.tdiv_eq_ediv_of_nonneg (by omega)]; simp
  have hc := nbr_cases ha hk hd
  generalize k % a = x at *
  generalize k / a = y at *
  rcases hc with ⟨h1, h2⟩ | ⟨j, m, h1, h2, x0, x1, y0, y1, hm, hj⟩
  · rw [stepN_out h1]
    refine specStepG (j := 0) (m := 0) w hd (by omega) (by omega) (by omega) (by omega) hx hy (IntWalk.i64_in _ (by omega)) (IntWalk.i64_in _ (by omega)) (IntWalk.i64_in _ (by omega)) (IntWalk.i64_in _ (by omega)) (by omega) (by omega) (by omega) (by omega) ?_
    unfold Hid
    cases i1 : inB ((x : Int) + dxOf d) 0 ((a : Int) - 1)
    · exact .inl ⟨rfl, rfl⟩
    · refine .inr (.inl ⟨rfl, ?_, rfl⟩)
      simp only [inB, Bool.and_eq_true, decide_eq_true_eq] at i1
      simp only [inB, Bool.and_eq_false_iff, decide_eq_false_iff_not]
      omega
  · rw [stepN_nbr h1]
    refine specStepG (j := j) (m := m) w hd (by omega) (by omega) (by omega) (by omega) hx hy (IntWalk.i64_in _ (by omega)) (IntWalk.i64_in _ (by omega)) (IntWalk.i64_in _ (by omega)) (IntWalk.i64_in _ (by omega)) (by omega) (by omega) (by omega) (by omega) ?_
    unfold Hid
    refine .inr (.inr ⟨?_, ?_, hm, hj, by omega, by omega, by omega, ?_⟩)
    · simp only [inB, Bool.and_eq_true, decide_eq_true_eq]; omega
    · simp only [inB, Bool.and_eq_true, decide_eq_true_eq]; omega
    · cases bit z j <;> rfl
end Go.Proofs.Ytdlpfpeblaapdaa
