/- The class and the key of the document's model. -/
import Derived.Test.YtlcoojgnokphmaaClassB
import Derived.Below
namespace Go.Proofs.Ytlcoojgnokphmaa
open Go.RowKit
open Go.Op
set_option linter.unusedVariables false
set_option linter.unusedSimpArgs false
theorem specDiffer (a b : Nat) (w : World) : Calls Try.prog 41 #[.int .i64 a, .int .i64 b] w fun e w' => e = .returned (.int .i64 (dif a b : Nat)) ∧ w = w' := by
  by_cases h : a = b
  · rw [show dif a b = 0 by simp [dif, h]]
    have e1 : ((a : Int) == (b : Int)) = true := by simp [h]
    clear h
    go_enter Try.func41, Try.ntmps41
    go_wp2_with fail
    go_ret
    exact ⟨rfl, rfl⟩
  · rw [show dif a b = 1 by simp [dif, h]]
    have e1 : ((a : Int) == (b : Int)) = false := by simp; omega
    clear h
    go_enter Try.func41, Try.ntmps41
    go_wp2_with fail
    go_ret
    exact ⟨rfl, rfl⟩
theorem one_minus {u : Nat} (h : u ≤ 1) : wrap64 (1 - (u : Int)) = ((1 - u : Nat) : Int) := by
  unfold wrap64; omega
theorem take_next {xs : List Nat} {k m : Nat} (h : xs[k]? = some m) : xs.take (k + 1) = xs.take k ++ [m] := by
  rw [List.take_add_one, h]; rfl
theorem clsL_take {W k m i j u v : Nat} {xs : List Nat} (h : xs[k]? = some m) (h1 : r1 W m = i) (h2 : r2 W m = j) (hu : (parC W (xs.take k) i).toNat = u) (hv : (parC W (xs.take k) j).toNat = v) :
    clsL W (xs.take (k + 1)) = ((clsL W (xs.take k)).set i (1 - u)).set j (1 - v) := by
  rw [take_next h]; exact clsL_snoc2 W _ m h1 h2 hu hv
set_option maxHeartbeats 2000000 in
set_option maxRecDepth 100000 in
theorem specClassOf (W H Z P : Int) (hP : P ≤ 9223372036854775807) (w : World) : Calls Try.prog 19 #[.agg #[.int .i64 W, .int .i64 H, .int .i64 Z], .int .i64 P] w (OwnInts (classB W H Z P) w) := by
  cases h : posB W H Z P
  · have C1 := Lib.hid (specPos_is hP h)
    rw [show classB W H Z P = [] by simp [classB, h]]
    clear h hP
    go_enter Try.func19, Try.ntmps19
    go_wp2_with fail
    have B0 := Lib.hid (box_new W H Z w)
    generalize w.alloc (.cells #[.int .i64 W, .int .i64 H, .int .i64 Z] 25) = W1 at *
    refine (C1.out _).mono ?_
    rintro e w1 ⟨rfl, hb⟩
    have B1 := Lib.hid (B0.out.later hb)
    clear hb B0
    have hp : Hid (OwnInts [] w (.returned (.slice (some ⟨w1.heap.size, 0, none⟩) 0 0)) (w1.alloc (.cells #[] 3))) := ⟨_, rfl, World.ownsRow_made w1 #[] 0 (B1.out.2.2.2.2.size) (by unfold maxLen; omega) rfl, B1.out.2.2.2.2.alloc B1.out.2.2.2.2.size _⟩
    go_wp2_with fail
    go_ret
    exact hp.out
  · have C1 := Lib.hid (specPos_is hP h)
    obtain ⟨a, b, N, z, p, rfl, rfl, rfl, rfl, ho, hp⟩ := posNat h
    rw [show classB a b z p = clsL a (bitsOf 49 p) by simp [classB, h, clsN]]
    have C2 := Lib.hid (fun w => specList p w)
    have hle := bitsOf_le 49 p
    have HM : Hid (∀ m : Nat, m ∈ bitsOf 49 p → m < 49) := fun m hm => (mem_bitsOf.1 hm).1
    have ha := ho.w1
    have ha7 := ho.w7
    generalize bitsOf 49 p = xs at *
    obtain ⟨n, hn⟩ : ∃ n, xs.length = n := ⟨_, rfl⟩
    have HN := Lib.hid hn
    rw [hn] at hle
    have hmk : ∀ w, (Instr.makeSlice 31 (.int .i64 6) (.int .i64 6)).run Try.prog w = .ok (.slice (some ⟨w.heap.size, 0, none⟩) 6 6) (w.alloc (.cells #[.int .i64 0, .int .i64 0, .int .i64 0, .int .i64 0, .int .i64 0, .int .i64 0] 3)) := fun _ => by kernel_rfl
    clear h hP ho hp hn
    go_enter Try.func19, Try.ntmps19
    go_wp2_with fail
    have B0 := Lib.hid (box_new a b z w)
    generalize w.alloc (.cells #[.int .i64 a, .int .i64 b, .int .i64 z] 25) = W1 at *
    refine (C1.out _).mono ?_
    rintro e w1 ⟨rfl, hb⟩
    have B1 := Lib.hid (B0.out.later hb)
    clear hb B0
    obtain ⟨q0, q1, q2, hlt, hbw⟩ := B1.out
    go_wp2_with fail
    clear q0 q1 q2 hlt hbw
    have A2 : Hid (Arr w1.heap.size 3 (clsL a (xs.take 0)) (w1.alloc (.cells #[.int .i64 0, .int .i64 0, .int .i64 0, .int .i64 0, .int .i64 0, .int .i64 0] 3))) := heap_alloc_new w1 _
    have B2 := Lib.hid (B1.out.later ((Below.refl _ _).alloc (Nat.le_refl _) (.cells #[.int .i64 0, .int .i64 0, .int .i64 0, .int .i64 0, .int .i64 0, .int .i64 0] 3)))
    have hS : w.heap.size + 1 ≤ w1.heap.size := B1.out.2.2.2.1
    have hS2 : w1.heap.size + 1 ≤ (w1.alloc (.cells #[.int .i64 0, .int .i64 0, .int .i64 0, .int .i64 0, .int .i64 0, .int .i64 0] 3)).heap.size := by simp
    clear B1
    generalize w1.alloc (.cells #[.int .i64 0, .int .i64 0, .int .i64 0, .int .i64 0, .int .i64 0, .int .i64 0] 3) = W2 at *
    generalize w1.heap.size = R at *
    refine (C2.out _).mono ?_
    rintro e w3 ⟨v, rfl, hh, hb⟩
    rw [HN.out] at hh
    obtain ⟨ga, gc, rfl⟩ := ints_form hh
    have X3 := Lib.hid (own_base hh hS2)
    have A3 := Lib.hid (A2.out.later hb A2.out.lt)
    have B3 := Lib.hid (B2.out.later hb)
    clear hh hb A2 B2 hS2
    go_wp2_with fail
    go_loopw [7] (fun i wr => ∃ k : Nat, k ≤ n ∧ i = .int .i64 k ∧ Hid (Arr R 3 (clsL a (xs.take k)) wr) ∧ Hid (wr.ownsRow (R + 1) 3 1 (.slice ga n gc) n (Ints xs)) ∧ Hid (Box w.heap.size a b z w wr)) (fun i _ => n - (intOf i).toNat)
    case atStart => exact ⟨0, by omega, rfl, A3, X3, B3⟩
    case round =>
      clear A3 X3 B3
      obtain ⟨k, hk, rfl, HA, HX, HB⟩ := hrel
      by_cases hkn : k < n
      · obtain ⟨m, hx⟩ : ∃ x, xs[k]? = some x := ⟨_, List.getElem?_eq_getElem (by rw [HN.out]; exact hkn)⟩
        have hm := HM.out m (List.mem_of_getElem? hx)
        obtain ⟨g, rfl⟩ : ∃ g, ga = some ⟨g, 0, none⟩ := by
          rcases Go.Joins.ownsRow_forms HX.out with ⟨h, h0⟩ | ⟨g, cap, h⟩
          · omega
          · injection h with h1 h2 h3; exact ⟨g, h1⟩
        obtain ⟨x, hx1⟩ : ∃ x, m % a = x := ⟨_, rfl⟩
        obtain ⟨y, hy1⟩ : ∃ y, m / a = y := ⟨_, rfl⟩
        obtain ⟨i, h1⟩ : ∃ i, r1 a m = i := ⟨_, rfl⟩
        obtain ⟨j, h2⟩ : ∃ j, r2 a m = j := ⟨_, rfl⟩
        obtain ⟨e1, e2⟩ := rems hx1 hy1 h1 h2
        have hx7 : x < 7 := by
          have h0 := Nat.mod_lt m (show a > 0 by omega)
          rw [hx1] at h0; omega
        have hy49 : y < 49 := by
          have h0 := Nat.div_le_self m a
          rw [hy1] at h0; omega
        have p0 : ¬ a = 0 := by omega
        have p1 : ((m : Int)).tmod a = (x : Int) := by rw [Int.tmod_eq_emod_of_nonneg (by omega), ← hx1]; simp
        have p2 : ((m : Int)).tdiv a = (y : Int) := by rw [Int.tdiv_eq_ediv_of_nonneg (by omega), ← hy1]; simp
        have p3 : wrap64 (y : Int) = (y : Int) := by unfold wrap64; omega
        obtain ⟨u, hu⟩ : ∃ u, (parC a (xs.take k) i).toNat = u := ⟨_, rfl⟩
        obtain ⟨v, hv⟩ : ∃ v, (parC a (xs.take k) j).toNat = v := ⟨_, rfl⟩
        obtain ⟨u', hu'⟩ : ∃ u', 1 - u = u' := ⟨_, rfl⟩
        obtain ⟨v', hv'⟩ : ∃ v', 1 - v = v' := ⟨_, rfl⟩
        have HC : Hid (clsL a (xs.take (k + 1)) = ((clsL a (xs.take k)).set i u').set j v') := by unfold Hid; rw [← hu', ← hv']; exact clsL_take hx h1 h2 hu hv
        have hi : i < 3 := by rw [← h1]; exact r1_lt _ _
        have hj : j < 6 := by rw [← h2]; exact r2_lt _ _
        have hj3 : 3 ≤ j := by rw [← h2]; exact r2_le _ _
        have gi : Hid ((clsL a (xs.take k))[i]? = some u) := by unfold Hid; rw [← hu]; exact clsL_get _ _ (Nat.lt_of_lt_of_le hi (by decide))
        have gj : Hid ((clsL a (xs.take k))[j]? = some v) := by unfold Hid; rw [← hv]; exact clsL_get _ _ hj
        have x1 := one_minus (u := u) (by rw [← hu]; exact toNat_le _)
        have x2 := one_minus (u := v) (by rw [← hv]; exact toNat_le _)
        rw [hu'] at x1
        rw [hv'] at x2
        have Hx := Lib.hid hx
        obtain ⟨s, t, mm, d, m1, m2, m3, m4, m5, m6, i0, i6, j0, j6, hne⟩ := rem_facts hx7 hy49 hi hj hj3 e1 e2
        clear hx1 hy1 h1 h2 hu hv hu' hv' hx hx7 hy49 hi hj hj3 e1 e2
        have k0 : (0 : Int) ≤ (k : Int) := by omega
        have k1 : (k : Int) < (n : Int) := by omega
        go_wp2_with fail
        refine wp_region_script (by kernel_rfl) (by kernel_rfl) ?_
        refine Script.load (i := 0) (v := ?_) rfl (by kernel_rfl) (by kernel_rfl) (fun _ _ _ h => h) (by kernel_rfl) ?_ ?_
        rotate_left
        · (intro wS hSw; obtain ⟨c0, c1, c2, -, -⟩ := HB.out.later (After.trans (After.drew (After.refl _)) hSw); have l0 := one_cell_own (own_below HX.out (After.trans (After.drew (After.refl _)) hSw)) hkn Hx.out; go_simp; try with_reducible rfl)
        try simp only [Act.put, List.getElem_toArray, List.getElem_cons_succ, List.getElem_cons_zero, List.setIfInBounds_toArray, List.set_cons_zero, List.set_cons_succ]
        refine Script.load (i := 1) (v := ?_) rfl (by kernel_rfl) (by kernel_rfl) (fun _ _ _ h => h) (by kernel_rfl) ?_ ?_
        rotate_left
        · (intro wS hSw; obtain ⟨c0, c1, c2, -, -⟩ := HB.out.later (After.trans (After.drew (After.refl _)) hSw); have l0 := one_cell_own (own_below HX.out (After.trans (After.drew (After.refl _)) hSw)) hkn Hx.out; go_simp; try with_reducible rfl)
        try simp only [Act.put, List.getElem_toArray, List.getElem_cons_succ, List.getElem_cons_zero, List.setIfInBounds_toArray, List.set_cons_zero, List.set_cons_succ]
        refine Script.load (i := 2) (v := ?_) rfl (by kernel_rfl) (by kernel_rfl) (fun _ _ _ h => h) (by kernel_rfl) ?_ ?_
        rotate_left
        · (intro wS hSw; obtain ⟨c0, c1, c2, -, -⟩ := HB.out.later (After.trans (After.drew (After.refl _)) hSw); have l0 := one_cell_own (own_below HX.out (After.trans (After.drew (After.refl _)) hSw)) hkn Hx.out; go_simp; try with_reducible rfl)
        try simp only [Act.put, List.getElem_toArray, List.getElem_cons_succ, List.getElem_cons_zero, List.setIfInBounds_toArray, List.set_cons_zero, List.set_cons_succ]
        refine Script.load (i := 3) (v := ?_) rfl (by kernel_rfl) (by kernel_rfl) (fun _ _ _ h => h) (by kernel_rfl) ?_ ?_
        rotate_left
        · (intro wS hSw; obtain ⟨c0, c1, c2, -, -⟩ := HB.out.later (After.trans (After.drew (After.refl _)) hSw); have l0 := one_cell_own (own_below HX.out (After.trans (After.drew (After.refl _)) hSw)) hkn Hx.out; go_simp; try with_reducible rfl)
        try simp only [Act.put, List.getElem_toArray, List.getElem_cons_succ, List.getElem_cons_zero, List.setIfInBounds_toArray, List.set_cons_zero, List.set_cons_succ]
        refine Script.load (i := 4) (v := ?_) rfl (by kernel_rfl) (by kernel_rfl) (fun _ _ _ h => h) (by kernel_rfl) ?_ ?_
        rotate_left
        · (intro wS hSw; obtain ⟨c0, c1, c2, -, -⟩ := HB.out.later (After.trans (After.drew (After.refl _)) hSw); have l0 := one_cell_own (own_below HX.out (After.trans (After.drew (After.refl _)) hSw)) hkn Hx.out; go_simp; try with_reducible rfl)
        try simp only [Act.put, List.getElem_toArray, List.getElem_cons_succ, List.getElem_cons_zero, List.setIfInBounds_toArray, List.set_cons_zero, List.set_cons_succ]
        refine Script.load (i := 5) (v := ?_) rfl (by kernel_rfl) (by kernel_rfl) (fun _ _ _ h => h) (by kernel_rfl) ?_ ?_
        rotate_left
        · (intro wS hSw; obtain ⟨c0, c1, c2, -, -⟩ := HB.out.later (After.trans (After.drew (After.refl _)) hSw); have l0 := one_cell_own (own_below HX.out (After.trans (After.drew (After.refl _)) hSw)) hkn Hx.out; go_simp; try with_reducible rfl)
        try simp only [Act.put, List.getElem_toArray, List.getElem_cons_succ, List.getElem_cons_zero, List.setIfInBounds_toArray, List.set_cons_zero, List.set_cons_succ]
        refine Script.load (i := 6) (v := ?_) rfl (by kernel_rfl) (by kernel_rfl) (fun _ _ _ h => h) (by kernel_rfl) ?_ ?_
        rotate_left
        · (intro wS hSw; obtain ⟨c0, c1, c2, -, -⟩ := HB.out.later (After.trans (After.drew (After.refl _)) hSw); have l0 := one_cell_own (own_below HX.out (After.trans (After.drew (After.refl _)) hSw)) hkn Hx.out; go_simp; try with_reducible rfl)
        try simp only [Act.put, List.getElem_toArray, List.getElem_cons_succ, List.getElem_cons_zero, List.setIfInBounds_toArray, List.set_cons_zero, List.set_cons_succ]
        refine Script.load (i := 7) (v := ?_) rfl (by kernel_rfl) (by kernel_rfl) (fun _ _ _ h => h) (by kernel_rfl) ?_ ?_
        rotate_left
        · (intro wS hSw; obtain ⟨c0, c1, c2, -, -⟩ := HB.out.later (After.trans (After.drew (After.refl _)) hSw); have l0 := one_cell_own (own_below HX.out (After.trans (After.drew (After.refl _)) hSw)) hkn Hx.out; go_simp; try with_reducible rfl)
        try simp only [Act.put, List.getElem_toArray, List.getElem_cons_succ, List.getElem_cons_zero, List.setIfInBounds_toArray, List.set_cons_zero, List.set_cons_succ]
        refine Script.done (by kernel_rfl) ?_
        intro wD hD hG
        have hb := After.trans (After.drew (After.refl _)) hD
        have HA5 := Lib.hid (HA.out.later hb HA.out.lt)
        have HX5 := Lib.hid (own_below HX.out hb)
        have HB5 := Lib.hid (HB.out.later hb)
        clear hb hD hG HA HX HB
        go_wp2_with fail
        refine wp_region_script (by kernel_rfl) (by kernel_rfl) ?_
        refine Script.load (i := 0) (v := ?_) rfl (by kernel_rfl) (by kernel_rfl) (fun _ _ _ h => h) (by kernel_rfl) ?_ ?_
        rotate_left
        · (intro wS hSw; obtain ⟨c0, c1, c2, -, -⟩ := HB5.out.later (After.trans (After.drew (After.refl _)) hSw); have l0 := one_cell_own (own_below HX5.out (After.trans (After.drew (After.refl _)) hSw)) hkn Hx.out; go_simp; try with_reducible rfl)
        try simp only [Act.put, List.getElem_toArray, List.getElem_cons_succ, List.getElem_cons_zero, List.setIfInBounds_toArray, List.set_cons_zero, List.set_cons_succ]
        refine Script.load (i := 1) (v := ?_) rfl (by kernel_rfl) (by kernel_rfl) (fun _ _ _ h => h) (by kernel_rfl) ?_ ?_
        rotate_left
        · (intro wS hSw; obtain ⟨c0, c1, c2, -, -⟩ := HB5.out.later (After.trans (After.drew (After.refl _)) hSw); have l0 := one_cell_own (own_below HX5.out (After.trans (After.drew (After.refl _)) hSw)) hkn Hx.out; go_simp; try with_reducible rfl)
        try simp only [Act.put, List.getElem_toArray, List.getElem_cons_succ, List.getElem_cons_zero, List.setIfInBounds_toArray, List.set_cons_zero, List.set_cons_succ]
        refine Script.load (i := 2) (v := ?_) rfl (by kernel_rfl) (by kernel_rfl) (fun _ _ _ h => h) (by kernel_rfl) ?_ ?_
        rotate_left
        · (intro wS hSw; obtain ⟨c0, c1, c2, -, -⟩ := HB5.out.later (After.trans (After.drew (After.refl _)) hSw); have l0 := one_cell_own (own_below HX5.out (After.trans (After.drew (After.refl _)) hSw)) hkn Hx.out; go_simp; try with_reducible rfl)
        try simp only [Act.put, List.getElem_toArray, List.getElem_cons_succ, List.getElem_cons_zero, List.setIfInBounds_toArray, List.set_cons_zero, List.set_cons_succ]
        refine Script.load (i := 3) (v := ?_) rfl (by kernel_rfl) (by kernel_rfl) (fun _ _ _ h => h) (by kernel_rfl) ?_ ?_
        rotate_left
        · (intro wS hSw; obtain ⟨c0, c1, c2, -, -⟩ := HB5.out.later (After.trans (After.drew (After.refl _)) hSw); have l0 := one_cell_own (own_below HX5.out (After.trans (After.drew (After.refl _)) hSw)) hkn Hx.out; go_simp; try with_reducible rfl)
        try simp only [Act.put, List.getElem_toArray, List.getElem_cons_succ, List.getElem_cons_zero, List.setIfInBounds_toArray, List.set_cons_zero, List.set_cons_succ]
        refine Script.load (i := 4) (v := ?_) rfl (by kernel_rfl) (by kernel_rfl) (fun _ _ _ h => h) (by kernel_rfl) ?_ ?_
        rotate_left
        · (intro wS hSw; obtain ⟨c0, c1, c2, -, -⟩ := HB5.out.later (After.trans (After.drew (After.refl _)) hSw); have l0 := one_cell_own (own_below HX5.out (After.trans (After.drew (After.refl _)) hSw)) hkn Hx.out; go_simp; try with_reducible rfl)
        try simp only [Act.put, List.getElem_toArray, List.getElem_cons_succ, List.getElem_cons_zero, List.setIfInBounds_toArray, List.set_cons_zero, List.set_cons_succ]
        refine Script.load (i := 5) (v := ?_) rfl (by kernel_rfl) (by kernel_rfl) (fun _ _ _ h => h) (by kernel_rfl) ?_ ?_
        rotate_left
        · (intro wS hSw; obtain ⟨c0, c1, c2, -, -⟩ := HB5.out.later (After.trans (After.drew (After.refl _)) hSw); have l0 := one_cell_own (own_below HX5.out (After.trans (After.drew (After.refl _)) hSw)) hkn Hx.out; go_simp; try with_reducible rfl)
        try simp only [Act.put, List.getElem_toArray, List.getElem_cons_succ, List.getElem_cons_zero, List.setIfInBounds_toArray, List.set_cons_zero, List.set_cons_succ]
        refine Script.load (i := 6) (v := ?_) rfl (by kernel_rfl) (by kernel_rfl) (fun _ _ _ h => h) (by kernel_rfl) ?_ ?_
        rotate_left
        · (intro wS hSw; obtain ⟨c0, c1, c2, -, -⟩ := HB5.out.later (After.trans (After.drew (After.refl _)) hSw); have l0 := one_cell_own (own_below HX5.out (After.trans (After.drew (After.refl _)) hSw)) hkn Hx.out; go_simp; try with_reducible rfl)
        try simp only [Act.put, List.getElem_toArray, List.getElem_cons_succ, List.getElem_cons_zero, List.setIfInBounds_toArray, List.set_cons_zero, List.set_cons_succ]
        refine Script.load (i := 7) (v := ?_) rfl (by kernel_rfl) (by kernel_rfl) (fun _ _ _ h => h) (by kernel_rfl) ?_ ?_
        rotate_left
        · (intro wS hSw; obtain ⟨c0, c1, c2, -, -⟩ := HB5.out.later (After.trans (After.drew (After.refl _)) hSw); have l0 := one_cell_own (own_below HX5.out (After.trans (After.drew (After.refl _)) hSw)) hkn Hx.out; go_simp; try with_reducible rfl)
        try simp only [Act.put, List.getElem_toArray, List.getElem_cons_succ, List.getElem_cons_zero, List.setIfInBounds_toArray, List.set_cons_zero, List.set_cons_succ]
        refine Script.done (by kernel_rfl) ?_
        intro wD hD hG
        have hb := After.trans (After.drew (After.refl _)) hD
        have HA6 := Lib.hid (HA5.out.later hb HA5.out.lt)
        have HX6 := Lib.hid (own_below HX5.out hb)
        have HB6 := Lib.hid (HB5.out.later hb)
        clear hb hD hG HA5 HX5 HB5
        generalize wD = w6 at *
        have d1 := HA6.out.cell gi.out
        have d2 := HA6.out.frozen i
        have HA7 := Lib.hid (HA6.out.set i u')
        have d3 := HA7.out.cell (j := j) (v := v) (by rw [List.getElem?_set_ne hne]; exact gj.out)
        have d4 := HA7.out.frozen j
        have HA8 := Lib.hid (HA7.out.set j v')
        rw [← HC.out] at HA8
        go_wp2_with fail
        clear d1 d2 d3 d4 HA6 HA7 m1 m2 m3 m4 m5 m6 x1 x2 i0 i6 j0 j6 p0 p1 p2 p3 hne gi gj HC
        have HB8 := Lib.hid (HB6.out.kept (set_below (set_below (Below.refl (w.heap.size + 1) w6) (b := R) (j := i) (v := .int .i64 u') hS) (b := R) (j := j) (v := .int .i64 v') hS) (Nat.lt_succ_self _) (Nat.le_succ _))
        have HX8 := Lib.hid (ownsRow_setCell_below (a := ⟨R, j, none⟩) (ownsRow_setCell_below (a := ⟨R, i, none⟩) HX6.out (Nat.lt_succ_self _) (.int .i64 u')) (Nat.lt_succ_self _) (.int .i64 v'))
        clear HX6 HB6
        go_roundw
        case rel => exact ⟨k + 1, by omega, by go_num, HA8, HX8, HB8⟩
        case measure => simp [intOf]; omega
      · obtain rfl : k = n := by omega
        have hp : Hid (OwnInts (clsL a xs) w (.returned (.slice (some ⟨R, 0, none⟩) 6 6)) wr) := by
          have h0 := HA.out
          rw [List.take_of_length_le (by rw [HN.out]; exact Nat.le_refl _)] at h0
          exact ⟨_, rfl, h0.row (clsL_length _ _) (Nat.le_trans (Nat.le_succ _) hS) (by decide), HB.out.2.2.2.2⟩
        clear HA HX HB
        go_wp2_with fail
        go_ret
        exact hp.out
theorem key_cls {W H Z P : Int} (h : posB W H Z P = true) : keyB W H Z P = keyL (classB W H Z P) := by simp [keyB, classB, h]
theorem six_own {w : World} {B g gc c0 c1 c2 c3 c4 c5 : Nat} {T : TypeId} (h : w.ownsRow B T 1 (.slice (some ⟨g, 0, none⟩) 6 gc) 6 (Ints [c0, c1, c2, c3, c4, c5])) :
    w.cell? ⟨g, 0, none⟩ = some (.int .i64 c0) ∧ w.cell? ⟨g, 1, none⟩ = some (.int .i64 c1) ∧ w.cell? ⟨g, 2, none⟩ = some (.int .i64 c2) ∧ w.cell? ⟨g, 3, none⟩ = some (.int .i64 c3) ∧ w.cell? ⟨g, 4, none⟩ = some (.int .i64 c4) ∧ w.cell? ⟨g, 5, none⟩ = some (.int .i64 c5) :=
  ⟨own_cell h 0 (by decide) _ rfl, own_cell h 1 (by decide) _ rfl, own_cell h 2 (by decide) _ rfl, own_cell h 3 (by decide) _ rfl, own_cell h 4 (by decide) _ rfl, own_cell h 5 (by decide) _ rfl⟩
theorem four_own {w : World} {B g gc c0 c1 c2 c3 : Nat} {T : TypeId} (h : w.ownsRow B T 1 (.slice (some ⟨g, 0, none⟩) 4 gc) 4 (Ints [c0, c1, c2, c3])) :
    w.cell? ⟨g, 0, none⟩ = some (.int .i64 c0) ∧ w.cell? ⟨g, 1, none⟩ = some (.int .i64 c1) ∧ w.cell? ⟨g, 2, none⟩ = some (.int .i64 c2) ∧ w.cell? ⟨g, 3, none⟩ = some (.int .i64 c3) :=
  ⟨own_cell h 0 (by decide) _ rfl, own_cell h 1 (by decide) _ rfl, own_cell h 2 (by decide) _ rfl, own_cell h 3 (by decide) _ rfl⟩
theorem some_form {w : World} {b n : Nat} {e : TypeId} {v : Value} {xs : List Value} (h : w.ownsRow b e 1 v n xs) (hn : 0 < n) : ∃ g c, v = .slice (some ⟨g, 0, none⟩) n c := by
  rcases Go.Joins.ownsRow_forms h with ⟨rfl, h0⟩ | ⟨g, cap, rfl⟩
  · omega
  · exact ⟨_, _, rfl⟩
theorem dif_calls {a b k : Nat} (h : dif a b = k) (w : World) : Calls Try.prog 41 #[.int .i64 a, .int .i64 b] w fun e w' => e = .returned (.int .i64 k) ∧ w = w' := by
  rw [← h]; exact specDiffer a b w
set_option maxHeartbeats 2000000 in
set_option maxRecDepth 100000 in
theorem specKeyOf (W H Z P : Int) (hP : P ≤ 9223372036854775807) (w : World) : Calls Try.prog 24 #[.agg #[.int .i64 W, .int .i64 H, .int .i64 Z], .int .i64 P] w (OwnInts (keyB W H Z P) w) := by
  have C1 := Lib.hid (fun w => specClassOf W H Z P hP w)
  cases h : posB W H Z P
  · rw [show classB W H Z P = [] by simp [classB, h]] at C1
    rw [show keyB W H Z P = [] by simp [keyB, h]]
    clear h hP
    go_enter Try.func24, Try.ntmps24
    go_wp2_with fail
    have B0 := Lib.hid (box_new W H Z w)
    generalize w.alloc (.cells #[.int .i64 W, .int .i64 H, .int .i64 Z] 25) = W1 at *
    refine (C1.out _).mono ?_
    rintro e w1 ⟨v, rfl, hh, hb⟩
    have B1 := Lib.hid (B0.out.later hb)
    obtain ⟨ga, gc, rfl⟩ := ints_form hh
    clear hb B0 hh
    have hp : Hid (OwnInts [] w (.returned (.slice (some ⟨w1.heap.size, 0, none⟩) 0 0)) (w1.alloc (.cells #[] 3))) := ⟨_, rfl, World.ownsRow_made w1 #[] 0 (B1.out.2.2.2.2.size) (by unfold maxLen; omega) rfl, B1.out.2.2.2.2.alloc B1.out.2.2.2.2.size _⟩
    go_wp2_with fail
    go_ret
    exact hp.out
  · obtain ⟨a, b, z, p, c0, c1, c2, c3, c4, c5, k0, k1, k2, k3, rfl, rfl, rfl, rfl, K⟩ := keyAt h
    have hk := key_cls h
    rw [K.cls, K.key, keyL_six] at hk
    rw [K.cls] at C1
    rw [K.key]
    injection hk with e0 hk
    injection hk with e1 hk
    injection hk with e2 hk
    injection hk with e3 hk
    have D0 := Lib.hid (fun w => dif_calls e0.symm w)
    have D1 := Lib.hid (fun w => dif_calls e1.symm w)
    have D2 := Lib.hid (fun w => dif_calls e2.symm w)
    have D3 := Lib.hid (fun w => dif_calls e3.symm w)
    clear h hP K hk e0 e1 e2 e3
    go_enter Try.func24, Try.ntmps24
    go_wp2_with fail
    have B0 := Lib.hid (box_new a b z w)
    generalize w.alloc (.cells #[.int .i64 a, .int .i64 b, .int .i64 z] 25) = W1 at *
    refine (C1.out _).mono ?_
    rintro e w1 ⟨v, rfl, hh, hb⟩
    have hh : w1.ownsRow W1.heap.size 3 1 v 6 (Ints [c0, c1, c2, c3, c4, c5]) := hh
    have B1 := Lib.hid (B0.out.later hb)
    obtain ⟨g, gc, rfl⟩ := some_form hh (by decide)
    have X1 := Lib.hid hh
    clear hb B0 hh
    go_wp2_with fail
    refine wp_region_script (by kernel_rfl) (by kernel_rfl) ?_
    refine Script.load (i := 0) (v := ?_) rfl (by kernel_rfl) (by kernel_rfl) (fun _ _ _ h => h) (by kernel_rfl) ?_ ?_
    rotate_left
    · (intro wS hSw; obtain ⟨l0, l1, l2, l3, l4, l5⟩ := six_own (own_below X1.out (After.trans (After.drew (After.refl _)) hSw)); go_simp; try with_reducible rfl)
    try simp only [Act.put, List.getElem_toArray, List.getElem_cons_succ, List.getElem_cons_zero, List.setIfInBounds_toArray, List.set_cons_zero, List.set_cons_succ]
    refine Script.load (i := 1) (v := ?_) rfl (by kernel_rfl) (by kernel_rfl) (fun _ _ _ h => h) (by kernel_rfl) ?_ ?_
    rotate_left
    · (intro wS hSw; obtain ⟨l0, l1, l2, l3, l4, l5⟩ := six_own (own_below X1.out (After.trans (After.drew (After.refl _)) hSw)); go_simp; try with_reducible rfl)
    try simp only [Act.put, List.getElem_toArray, List.getElem_cons_succ, List.getElem_cons_zero, List.setIfInBounds_toArray, List.set_cons_zero, List.set_cons_succ]
    refine Script.load (i := 2) (v := ?_) rfl (by kernel_rfl) (by kernel_rfl) (fun _ _ _ h => h) (by kernel_rfl) ?_ ?_
    rotate_left
    · (intro wS hSw; obtain ⟨l0, l1, l2, l3, l4, l5⟩ := six_own (own_below X1.out (After.trans (After.drew (After.refl _)) hSw)); go_simp; try with_reducible rfl)
    try simp only [Act.put, List.getElem_toArray, List.getElem_cons_succ, List.getElem_cons_zero, List.setIfInBounds_toArray, List.set_cons_zero, List.set_cons_succ]
    refine Script.load (i := 3) (v := ?_) rfl (by kernel_rfl) (by kernel_rfl) (fun _ _ _ h => h) (by kernel_rfl) ?_ ?_
    rotate_left
    · (intro wS hSw; obtain ⟨l0, l1, l2, l3, l4, l5⟩ := six_own (own_below X1.out (After.trans (After.drew (After.refl _)) hSw)); go_simp; try with_reducible rfl)
    try simp only [Act.put, List.getElem_toArray, List.getElem_cons_succ, List.getElem_cons_zero, List.setIfInBounds_toArray, List.set_cons_zero, List.set_cons_succ]
    refine Script.load (i := 4) (v := ?_) rfl (by kernel_rfl) (by kernel_rfl) (fun _ _ _ h => h) (by kernel_rfl) ?_ ?_
    rotate_left
    · (intro wS hSw; obtain ⟨l0, l1, l2, l3, l4, l5⟩ := six_own (own_below X1.out (After.trans (After.drew (After.refl _)) hSw)); go_simp; try with_reducible rfl)
    try simp only [Act.put, List.getElem_toArray, List.getElem_cons_succ, List.getElem_cons_zero, List.setIfInBounds_toArray, List.set_cons_zero, List.set_cons_succ]
    refine Script.load (i := 5) (v := ?_) rfl (by kernel_rfl) (by kernel_rfl) (fun _ _ _ h => h) (by kernel_rfl) ?_ ?_
    rotate_left
    · (intro wS hSw; obtain ⟨l0, l1, l2, l3, l4, l5⟩ := six_own (own_below X1.out (After.trans (After.drew (After.refl _)) hSw)); go_simp; try with_reducible rfl)
    try simp only [Act.put, List.getElem_toArray, List.getElem_cons_succ, List.getElem_cons_zero, List.setIfInBounds_toArray, List.set_cons_zero, List.set_cons_succ]
    refine Script.call (i := 6) (v := ?_) rfl (by kernel_rfl) (by kernel_rfl) (fun _ _ _ h => h) (by kernel_rfl) ?_ ?_
    rotate_left
    · (intro wS hSw K hK; obtain ⟨l0, l1, l2, l3, l4, l5⟩ := six_own (own_below X1.out (After.trans (After.drew (After.refl _)) hSw)); go_simp; go_at_call 41; refine (D0.out _).mono ?_; rintro e wc ⟨rfl, rfl⟩; have hbc := Below.refl wS.heap.size wS; exact hK.out _ hbc)
    try simp only [Act.put, List.getElem_toArray, List.getElem_cons_succ, List.getElem_cons_zero, List.setIfInBounds_toArray, List.set_cons_zero, List.set_cons_succ]
    refine Script.load (i := 7) (v := ?_) rfl (by kernel_rfl) (by kernel_rfl) (fun _ _ _ h => h) (by kernel_rfl) ?_ ?_
    rotate_left
    · (intro wS hSw; obtain ⟨l0, l1, l2, l3, l4, l5⟩ := six_own (own_below X1.out (After.trans (After.drew (After.refl _)) hSw)); go_simp; try with_reducible rfl)
    try simp only [Act.put, List.getElem_toArray, List.getElem_cons_succ, List.getElem_cons_zero, List.setIfInBounds_toArray, List.set_cons_zero, List.set_cons_succ]
    refine Script.load (i := 8) (v := ?_) rfl (by kernel_rfl) (by kernel_rfl) (fun _ _ _ h => h) (by kernel_rfl) ?_ ?_
    rotate_left
    · (intro wS hSw; obtain ⟨l0, l1, l2, l3, l4, l5⟩ := six_own (own_below X1.out (After.trans (After.drew (After.refl _)) hSw)); go_simp; try with_reducible rfl)
    try simp only [Act.put, List.getElem_toArray, List.getElem_cons_succ, List.getElem_cons_zero, List.setIfInBounds_toArray, List.set_cons_zero, List.set_cons_succ]
    refine Script.load (i := 9) (v := ?_) rfl (by kernel_rfl) (by kernel_rfl) (fun _ _ _ h => h) (by kernel_rfl) ?_ ?_
    rotate_left
    · (intro wS hSw; obtain ⟨l0, l1, l2, l3, l4, l5⟩ := six_own (own_below X1.out (After.trans (After.drew (After.refl _)) hSw)); go_simp; try with_reducible rfl)
    try simp only [Act.put, List.getElem_toArray, List.getElem_cons_succ, List.getElem_cons_zero, List.setIfInBounds_toArray, List.set_cons_zero, List.set_cons_succ]
    refine Script.load (i := 10) (v := ?_) rfl (by kernel_rfl) (by kernel_rfl) (fun _ _ _ h => h) (by kernel_rfl) ?_ ?_
    rotate_left
    · (intro wS hSw; obtain ⟨l0, l1, l2, l3, l4, l5⟩ := six_own (own_below X1.out (After.trans (After.drew (After.refl _)) hSw)); go_simp; try with_reducible rfl)
    try simp only [Act.put, List.getElem_toArray, List.getElem_cons_succ, List.getElem_cons_zero, List.setIfInBounds_toArray, List.set_cons_zero, List.set_cons_succ]
    refine Script.load (i := 11) (v := ?_) rfl (by kernel_rfl) (by kernel_rfl) (fun _ _ _ h => h) (by kernel_rfl) ?_ ?_
    rotate_left
    · (intro wS hSw; obtain ⟨l0, l1, l2, l3, l4, l5⟩ := six_own (own_below X1.out (After.trans (After.drew (After.refl _)) hSw)); go_simp; try with_reducible rfl)
    try simp only [Act.put, List.getElem_toArray, List.getElem_cons_succ, List.getElem_cons_zero, List.setIfInBounds_toArray, List.set_cons_zero, List.set_cons_succ]
    refine Script.load (i := 12) (v := ?_) rfl (by kernel_rfl) (by kernel_rfl) (fun _ _ _ h => h) (by kernel_rfl) ?_ ?_
    rotate_left
    · (intro wS hSw; obtain ⟨l0, l1, l2, l3, l4, l5⟩ := six_own (own_below X1.out (After.trans (After.drew (After.refl _)) hSw)); go_simp; try with_reducible rfl)
    try simp only [Act.put, List.getElem_toArray, List.getElem_cons_succ, List.getElem_cons_zero, List.setIfInBounds_toArray, List.set_cons_zero, List.set_cons_succ]
    refine Script.call (i := 13) (v := ?_) rfl (by kernel_rfl) (by kernel_rfl) (fun _ _ _ h => h) (by kernel_rfl) ?_ ?_
    rotate_left
    · (intro wS hSw K hK; obtain ⟨l0, l1, l2, l3, l4, l5⟩ := six_own (own_below X1.out (After.trans (After.drew (After.refl _)) hSw)); go_simp; go_at_call 41; refine (D1.out _).mono ?_; rintro e wc ⟨rfl, rfl⟩; have hbc := Below.refl wS.heap.size wS; exact hK.out _ hbc)
    try simp only [Act.put, List.getElem_toArray, List.getElem_cons_succ, List.getElem_cons_zero, List.setIfInBounds_toArray, List.set_cons_zero, List.set_cons_succ]
    refine Script.load (i := 14) (v := ?_) rfl (by kernel_rfl) (by kernel_rfl) (fun _ _ _ h => h) (by kernel_rfl) ?_ ?_
    rotate_left
    · (intro wS hSw; obtain ⟨l0, l1, l2, l3, l4, l5⟩ := six_own (own_below X1.out (After.trans (After.drew (After.refl _)) hSw)); go_simp; try with_reducible rfl)
    try simp only [Act.put, List.getElem_toArray, List.getElem_cons_succ, List.getElem_cons_zero, List.setIfInBounds_toArray, List.set_cons_zero, List.set_cons_succ]
    refine Script.load (i := 15) (v := ?_) rfl (by kernel_rfl) (by kernel_rfl) (fun _ _ _ h => h) (by kernel_rfl) ?_ ?_
    rotate_left
    · (intro wS hSw; obtain ⟨l0, l1, l2, l3, l4, l5⟩ := six_own (own_below X1.out (After.trans (After.drew (After.refl _)) hSw)); go_simp; try with_reducible rfl)
    try simp only [Act.put, List.getElem_toArray, List.getElem_cons_succ, List.getElem_cons_zero, List.setIfInBounds_toArray, List.set_cons_zero, List.set_cons_succ]
    refine Script.load (i := 16) (v := ?_) rfl (by kernel_rfl) (by kernel_rfl) (fun _ _ _ h => h) (by kernel_rfl) ?_ ?_
    rotate_left
    · (intro wS hSw; obtain ⟨l0, l1, l2, l3, l4, l5⟩ := six_own (own_below X1.out (After.trans (After.drew (After.refl _)) hSw)); go_simp; try with_reducible rfl)
    try simp only [Act.put, List.getElem_toArray, List.getElem_cons_succ, List.getElem_cons_zero, List.setIfInBounds_toArray, List.set_cons_zero, List.set_cons_succ]
    refine Script.load (i := 17) (v := ?_) rfl (by kernel_rfl) (by kernel_rfl) (fun _ _ _ h => h) (by kernel_rfl) ?_ ?_
    rotate_left
    · (intro wS hSw; obtain ⟨l0, l1, l2, l3, l4, l5⟩ := six_own (own_below X1.out (After.trans (After.drew (After.refl _)) hSw)); go_simp; try with_reducible rfl)
    try simp only [Act.put, List.getElem_toArray, List.getElem_cons_succ, List.getElem_cons_zero, List.setIfInBounds_toArray, List.set_cons_zero, List.set_cons_succ]
    refine Script.load (i := 18) (v := ?_) rfl (by kernel_rfl) (by kernel_rfl) (fun _ _ _ h => h) (by kernel_rfl) ?_ ?_
    rotate_left
    · (intro wS hSw; obtain ⟨l0, l1, l2, l3, l4, l5⟩ := six_own (own_below X1.out (After.trans (After.drew (After.refl _)) hSw)); go_simp; try with_reducible rfl)
    try simp only [Act.put, List.getElem_toArray, List.getElem_cons_succ, List.getElem_cons_zero, List.setIfInBounds_toArray, List.set_cons_zero, List.set_cons_succ]
    refine Script.load (i := 19) (v := ?_) rfl (by kernel_rfl) (by kernel_rfl) (fun _ _ _ h => h) (by kernel_rfl) ?_ ?_
    rotate_left
    · (intro wS hSw; obtain ⟨l0, l1, l2, l3, l4, l5⟩ := six_own (own_below X1.out (After.trans (After.drew (After.refl _)) hSw)); go_simp; try with_reducible rfl)
    try simp only [Act.put, List.getElem_toArray, List.getElem_cons_succ, List.getElem_cons_zero, List.setIfInBounds_toArray, List.set_cons_zero, List.set_cons_succ]
    refine Script.call (i := 20) (v := ?_) rfl (by kernel_rfl) (by kernel_rfl) (fun _ _ _ h => h) (by kernel_rfl) ?_ ?_
    rotate_left
    · (intro wS hSw K hK; obtain ⟨l0, l1, l2, l3, l4, l5⟩ := six_own (own_below X1.out (After.trans (After.drew (After.refl _)) hSw)); go_simp; go_at_call 41; refine (D2.out _).mono ?_; rintro e wc ⟨rfl, rfl⟩; have hbc := Below.refl wS.heap.size wS; exact hK.out _ hbc)
    try simp only [Act.put, List.getElem_toArray, List.getElem_cons_succ, List.getElem_cons_zero, List.setIfInBounds_toArray, List.set_cons_zero, List.set_cons_succ]
    refine Script.load (i := 21) (v := ?_) rfl (by kernel_rfl) (by kernel_rfl) (fun _ _ _ h => h) (by kernel_rfl) ?_ ?_
    rotate_left
    · (intro wS hSw; obtain ⟨l0, l1, l2, l3, l4, l5⟩ := six_own (own_below X1.out (After.trans (After.drew (After.refl _)) hSw)); go_simp; try with_reducible rfl)
    try simp only [Act.put, List.getElem_toArray, List.getElem_cons_succ, List.getElem_cons_zero, List.setIfInBounds_toArray, List.set_cons_zero, List.set_cons_succ]
    refine Script.load (i := 22) (v := ?_) rfl (by kernel_rfl) (by kernel_rfl) (fun _ _ _ h => h) (by kernel_rfl) ?_ ?_
    rotate_left
    · (intro wS hSw; obtain ⟨l0, l1, l2, l3, l4, l5⟩ := six_own (own_below X1.out (After.trans (After.drew (After.refl _)) hSw)); go_simp; try with_reducible rfl)
    try simp only [Act.put, List.getElem_toArray, List.getElem_cons_succ, List.getElem_cons_zero, List.setIfInBounds_toArray, List.set_cons_zero, List.set_cons_succ]
    refine Script.load (i := 23) (v := ?_) rfl (by kernel_rfl) (by kernel_rfl) (fun _ _ _ h => h) (by kernel_rfl) ?_ ?_
    rotate_left
    · (intro wS hSw; obtain ⟨l0, l1, l2, l3, l4, l5⟩ := six_own (own_below X1.out (After.trans (After.drew (After.refl _)) hSw)); go_simp; try with_reducible rfl)
    try simp only [Act.put, List.getElem_toArray, List.getElem_cons_succ, List.getElem_cons_zero, List.setIfInBounds_toArray, List.set_cons_zero, List.set_cons_succ]
    refine Script.load (i := 24) (v := ?_) rfl (by kernel_rfl) (by kernel_rfl) (fun _ _ _ h => h) (by kernel_rfl) ?_ ?_
    rotate_left
    · (intro wS hSw; obtain ⟨l0, l1, l2, l3, l4, l5⟩ := six_own (own_below X1.out (After.trans (After.drew (After.refl _)) hSw)); go_simp; try with_reducible rfl)
    try simp only [Act.put, List.getElem_toArray, List.getElem_cons_succ, List.getElem_cons_zero, List.setIfInBounds_toArray, List.set_cons_zero, List.set_cons_succ]
    refine Script.load (i := 25) (v := ?_) rfl (by kernel_rfl) (by kernel_rfl) (fun _ _ _ h => h) (by kernel_rfl) ?_ ?_
    rotate_left
    · (intro wS hSw; obtain ⟨l0, l1, l2, l3, l4, l5⟩ := six_own (own_below X1.out (After.trans (After.drew (After.refl _)) hSw)); go_simp; try with_reducible rfl)
    try simp only [Act.put, List.getElem_toArray, List.getElem_cons_succ, List.getElem_cons_zero, List.setIfInBounds_toArray, List.set_cons_zero, List.set_cons_succ]
    refine Script.load (i := 26) (v := ?_) rfl (by kernel_rfl) (by kernel_rfl) (fun _ _ _ h => h) (by kernel_rfl) ?_ ?_
    rotate_left
    · (intro wS hSw; obtain ⟨l0, l1, l2, l3, l4, l5⟩ := six_own (own_below X1.out (After.trans (After.drew (After.refl _)) hSw)); go_simp; try with_reducible rfl)
    try simp only [Act.put, List.getElem_toArray, List.getElem_cons_succ, List.getElem_cons_zero, List.setIfInBounds_toArray, List.set_cons_zero, List.set_cons_succ]
    refine Script.call (i := 27) (v := ?_) rfl (by kernel_rfl) (by kernel_rfl) (fun _ _ _ h => h) (by kernel_rfl) ?_ ?_
    rotate_left
    · (intro wS hSw K hK; obtain ⟨l0, l1, l2, l3, l4, l5⟩ := six_own (own_below X1.out (After.trans (After.drew (After.refl _)) hSw)); go_simp; go_at_call 41; refine (D3.out _).mono ?_; rintro e wc ⟨rfl, rfl⟩; have hbc := Below.refl wS.heap.size wS; exact hK.out _ hbc)
    try simp only [Act.put, List.getElem_toArray, List.getElem_cons_succ, List.getElem_cons_zero, List.setIfInBounds_toArray, List.set_cons_zero, List.set_cons_succ]
    refine Script.one (i := 28) rfl (by kernel_rfl) (by kernel_rfl) ?_
    intro wO hO K hK; have hSw := hO; obtain ⟨l0, l1, l2, l3, l4, l5⟩ := six_own (own_below X1.out (After.trans (After.drew (After.refl _)) hSw)); go_simp
    clear hSw
    have hbc : After wO (wO.alloc (.cells #[.int .i64 k0, .int .i64 k1, .int .i64 k2, .int .i64 k3] 3)) := (Below.refl _ _).alloc (Nat.le_refl _) _
    refine hK.out _ _ hbc ?_
    clear hK K
    try simp only [Act.put, List.getElem_toArray, List.getElem_cons_succ, List.getElem_cons_zero, List.setIfInBounds_toArray, List.set_cons_zero, List.set_cons_succ]
    refine Script.load (i := 29) (v := ?_) rfl (by kernel_rfl) (by kernel_rfl) (fun _ _ _ h => h) (by kernel_rfl) ?_ ?_
    rotate_left
    · (intro wS hSw; go_simp; try with_reducible rfl)
    try simp only [Act.put, List.getElem_toArray, List.getElem_cons_succ, List.getElem_cons_zero, List.setIfInBounds_toArray, List.set_cons_zero, List.set_cons_succ]
    refine Script.done (by kernel_rfl) ?_
    intro wD hD hG
    have hO1 := B1.out.2.2.2.2.trans (Below.mono (After.trans (After.drew (After.refl _)) hO) B1.out.2.2.2.2.size)
    have hA : Arr wO.heap.size 3 [k0, k1, k2, k3] (wO.alloc (.cells #[.int .i64 k0, .int .i64 k1, .int .i64 k2, .int .i64 k3] 3)) := heap_alloc_new wO _
    have hp : Hid (OwnInts [k0, k1, k2, k3] w (.returned (.slice (some ⟨wO.heap.size, 0, none⟩) 4 4)) wD) :=
      ⟨_, rfl, (hA.later hD hA.lt).row rfl hO1.size (by decide), (hO1.alloc hO1.size _).trans (Below.mono hD (hO1.alloc hO1.size _).size)⟩
    clear hO1 hA hD hG B1 X1
    go_wp2_with fail
    go_ret
    exact hp.out
theorem num_facts {k0 k1 k2 k3 : Nat} (h0 : k0 ≤ 1) (h1 : k1 ≤ 1) (h2 : k2 ≤ 1) (h3 : k3 ≤ 1) :
    ∃ d1 s1 d2 s2 d3 : Nat, IntKind.i64.wrap (2 * (k1 : Int)) = (d1 : Int) ∧ IntKind.i64.wrap ((k0 : Int) + (d1 : Int)) = (s1 : Int) ∧ IntKind.i64.wrap (4 * (k2 : Int)) = (d2 : Int) ∧ IntKind.i64.wrap ((s1 : Int) + (d2 : Int)) = (s2 : Int) ∧ IntKind.i64.wrap (8 * (k3 : Int)) = (d3 : Int) ∧ IntKind.i64.wrap ((s2 : Int) + (d3 : Int)) = ((k0 + 2 * k1 + 4 * k2 + 8 * k3 : Nat) : Int) := by
  refine ⟨2 * k1, k0 + 2 * k1, 4 * k2, k0 + 2 * k1 + 4 * k2, 8 * k3, ?_, ?_, ?_, ?_, ?_, ?_⟩ <;> rw [IntKind.wrap_i64] <;> omega
set_option maxHeartbeats 2000000 in
set_option maxRecDepth 100000 in
theorem specKeyNumber (W H Z P : Int) (hP : P ≤ 9223372036854775807) (w : World) : Calls Try.prog 27 #[.agg #[.int .i64 W, .int .i64 H, .int .i64 Z], .int .i64 P] w (QI (numB W H Z P) w) := by
  have C1 := Lib.hid (fun w => specKeyOf W H Z P hP w)
  cases h : posB W H Z P
  · rw [show keyB W H Z P = [] by simp [keyB, h]] at C1
    rw [show numB W H Z P = -1 by simp [numB, h]]
    clear h hP
    go_enter Try.func27, Try.ntmps27
    go_wp2_with fail
    have B0 := Lib.hid (box_new W H Z w)
    generalize w.alloc (.cells #[.int .i64 W, .int .i64 H, .int .i64 Z] 25) = W1 at *
    refine (C1.out _).mono ?_
    rintro e w1 ⟨v, rfl, hh, hb⟩
    have B1 := Lib.hid (B0.out.later hb)
    obtain ⟨ga, gc, rfl⟩ := ints_form hh
    clear hb B0 hh
    go_wp2_with fail
    go_ret
    exact ⟨rfl, B1.out.2.2.2.2⟩
  · obtain ⟨a, b, z, p, c0, c1, c2, c3, c4, c5, k0, k1, k2, k3, rfl, rfl, rfl, rfl, K⟩ := keyAt h
    rw [K.key] at C1
    rw [K.num]
    obtain ⟨d1, s1, d2, s2, d3, e1, e2, e3, e4, e5, e6⟩ := num_facts K.l0 K.l1 K.l2 K.l3
    generalize k0 + 2 * k1 + 4 * k2 + 8 * k3 = r at *
    clear h hP K
    go_enter Try.func27, Try.ntmps27
    go_wp2_with fail
    have B0 := Lib.hid (box_new a b z w)
    generalize w.alloc (.cells #[.int .i64 a, .int .i64 b, .int .i64 z] 25) = W1 at *
    refine (C1.out _).mono ?_
    rintro e w1 ⟨v, rfl, hh, hb⟩
    have hh : w1.ownsRow W1.heap.size 3 1 v 4 (Ints [k0, k1, k2, k3]) := hh
    have B1 := Lib.hid (B0.out.later hb)
    obtain ⟨g, gc, rfl⟩ := some_form hh (by decide)
    have X1 := Lib.hid hh
    clear hb B0 hh
    go_wp2_with fail
    refine wp_region_script (by kernel_rfl) (by kernel_rfl) ?_
    refine Script.load (i := 0) (v := ?_) rfl (by kernel_rfl) (by kernel_rfl) (fun _ _ _ h => h) (by kernel_rfl) ?_ ?_
    rotate_left
    · (intro wS hSw; obtain ⟨l0, l1, l2, l3⟩ := four_own (own_below X1.out (After.trans (After.drew (After.refl _)) hSw)); go_simp; try with_reducible rfl)
    try simp only [Act.put, List.getElem_toArray, List.getElem_cons_succ, List.getElem_cons_zero, List.setIfInBounds_toArray, List.set_cons_zero, List.set_cons_succ]
    refine Script.load (i := 1) (v := ?_) rfl (by kernel_rfl) (by kernel_rfl) (fun _ _ _ h => h) (by kernel_rfl) ?_ ?_
    rotate_left
    · (intro wS hSw; obtain ⟨l0, l1, l2, l3⟩ := four_own (own_below X1.out (After.trans (After.drew (After.refl _)) hSw)); go_simp; try with_reducible rfl)
    try simp only [Act.put, List.getElem_toArray, List.getElem_cons_succ, List.getElem_cons_zero, List.setIfInBounds_toArray, List.set_cons_zero, List.set_cons_succ]
    refine Script.load (i := 2) (v := ?_) rfl (by kernel_rfl) (by kernel_rfl) (fun _ _ _ h => h) (by kernel_rfl) ?_ ?_
    rotate_left
    · (intro wS hSw; obtain ⟨l0, l1, l2, l3⟩ := four_own (own_below X1.out (After.trans (After.drew (After.refl _)) hSw)); go_simp; try with_reducible rfl)
    try simp only [Act.put, List.getElem_toArray, List.getElem_cons_succ, List.getElem_cons_zero, List.setIfInBounds_toArray, List.set_cons_zero, List.set_cons_succ]
    refine Script.load (i := 3) (v := ?_) rfl (by kernel_rfl) (by kernel_rfl) (fun _ _ _ h => h) (by kernel_rfl) ?_ ?_
    rotate_left
    · (intro wS hSw; obtain ⟨l0, l1, l2, l3⟩ := four_own (own_below X1.out (After.trans (After.drew (After.refl _)) hSw)); go_simp; try with_reducible rfl)
    try simp only [Act.put, List.getElem_toArray, List.getElem_cons_succ, List.getElem_cons_zero, List.setIfInBounds_toArray, List.set_cons_zero, List.set_cons_succ]
    refine Script.load (i := 4) (v := ?_) rfl (by kernel_rfl) (by kernel_rfl) (fun _ _ _ h => h) (by kernel_rfl) ?_ ?_
    rotate_left
    · (intro wS hSw; obtain ⟨l0, l1, l2, l3⟩ := four_own (own_below X1.out (After.trans (After.drew (After.refl _)) hSw)); go_simp; try with_reducible rfl)
    try simp only [Act.put, List.getElem_toArray, List.getElem_cons_succ, List.getElem_cons_zero, List.setIfInBounds_toArray, List.set_cons_zero, List.set_cons_succ]
    refine Script.load (i := 5) (v := ?_) rfl (by kernel_rfl) (by kernel_rfl) (fun _ _ _ h => h) (by kernel_rfl) ?_ ?_
    rotate_left
    · (intro wS hSw; obtain ⟨l0, l1, l2, l3⟩ := four_own (own_below X1.out (After.trans (After.drew (After.refl _)) hSw)); go_simp; try with_reducible rfl)
    try simp only [Act.put, List.getElem_toArray, List.getElem_cons_succ, List.getElem_cons_zero, List.setIfInBounds_toArray, List.set_cons_zero, List.set_cons_succ]
    refine Script.load (i := 6) (v := ?_) rfl (by kernel_rfl) (by kernel_rfl) (fun _ _ _ h => h) (by kernel_rfl) ?_ ?_
    rotate_left
    · (intro wS hSw; obtain ⟨l0, l1, l2, l3⟩ := four_own (own_below X1.out (After.trans (After.drew (After.refl _)) hSw)); go_simp; try with_reducible rfl)
    try simp only [Act.put, List.getElem_toArray, List.getElem_cons_succ, List.getElem_cons_zero, List.setIfInBounds_toArray, List.set_cons_zero, List.set_cons_succ]
    refine Script.load (i := 7) (v := ?_) rfl (by kernel_rfl) (by kernel_rfl) (fun _ _ _ h => h) (by kernel_rfl) ?_ ?_
    rotate_left
    · (intro wS hSw; obtain ⟨l0, l1, l2, l3⟩ := four_own (own_below X1.out (After.trans (After.drew (After.refl _)) hSw)); go_simp; try with_reducible rfl)
    try simp only [Act.put, List.getElem_toArray, List.getElem_cons_succ, List.getElem_cons_zero, List.setIfInBounds_toArray, List.set_cons_zero, List.set_cons_succ]
    refine Script.load (i := 8) (v := ?_) rfl (by kernel_rfl) (by kernel_rfl) (fun _ _ _ h => h) (by kernel_rfl) ?_ ?_
    rotate_left
    · (intro wS hSw; obtain ⟨l0, l1, l2, l3⟩ := four_own (own_below X1.out (After.trans (After.drew (After.refl _)) hSw)); go_simp; try with_reducible rfl)
    try simp only [Act.put, List.getElem_toArray, List.getElem_cons_succ, List.getElem_cons_zero, List.setIfInBounds_toArray, List.set_cons_zero, List.set_cons_succ]
    refine Script.load (i := 9) (v := ?_) rfl (by kernel_rfl) (by kernel_rfl) (fun _ _ _ h => h) (by kernel_rfl) ?_ ?_
    rotate_left
    · (intro wS hSw; obtain ⟨l0, l1, l2, l3⟩ := four_own (own_below X1.out (After.trans (After.drew (After.refl _)) hSw)); go_simp; try with_reducible rfl)
    try simp only [Act.put, List.getElem_toArray, List.getElem_cons_succ, List.getElem_cons_zero, List.setIfInBounds_toArray, List.set_cons_zero, List.set_cons_succ]
    refine Script.load (i := 10) (v := ?_) rfl (by kernel_rfl) (by kernel_rfl) (fun _ _ _ h => h) (by kernel_rfl) ?_ ?_
    rotate_left
    · (intro wS hSw; obtain ⟨l0, l1, l2, l3⟩ := four_own (own_below X1.out (After.trans (After.drew (After.refl _)) hSw)); go_simp; try with_reducible rfl)
    try simp only [Act.put, List.getElem_toArray, List.getElem_cons_succ, List.getElem_cons_zero, List.setIfInBounds_toArray, List.set_cons_zero, List.set_cons_succ]
    refine Script.load (i := 11) (v := ?_) rfl (by kernel_rfl) (by kernel_rfl) (fun _ _ _ h => h) (by kernel_rfl) ?_ ?_
    rotate_left
    · (intro wS hSw; obtain ⟨l0, l1, l2, l3⟩ := four_own (own_below X1.out (After.trans (After.drew (After.refl _)) hSw)); go_simp; try with_reducible rfl)
    try simp only [Act.put, List.getElem_toArray, List.getElem_cons_succ, List.getElem_cons_zero, List.setIfInBounds_toArray, List.set_cons_zero, List.set_cons_succ]
    refine Script.load (i := 12) (v := ?_) rfl (by kernel_rfl) (by kernel_rfl) (fun _ _ _ h => h) (by kernel_rfl) ?_ ?_
    rotate_left
    · (intro wS hSw; obtain ⟨l0, l1, l2, l3⟩ := four_own (own_below X1.out (After.trans (After.drew (After.refl _)) hSw)); go_simp; try with_reducible rfl)
    try simp only [Act.put, List.getElem_toArray, List.getElem_cons_succ, List.getElem_cons_zero, List.setIfInBounds_toArray, List.set_cons_zero, List.set_cons_succ]
    refine Script.load (i := 13) (v := ?_) rfl (by kernel_rfl) (by kernel_rfl) (fun _ _ _ h => h) (by kernel_rfl) ?_ ?_
    rotate_left
    · (intro wS hSw; obtain ⟨l0, l1, l2, l3⟩ := four_own (own_below X1.out (After.trans (After.drew (After.refl _)) hSw)); go_simp; try with_reducible rfl)
    try simp only [Act.put, List.getElem_toArray, List.getElem_cons_succ, List.getElem_cons_zero, List.setIfInBounds_toArray, List.set_cons_zero, List.set_cons_succ]
    refine Script.load (i := 14) (v := ?_) rfl (by kernel_rfl) (by kernel_rfl) (fun _ _ _ h => h) (by kernel_rfl) ?_ ?_
    rotate_left
    · (intro wS hSw; obtain ⟨l0, l1, l2, l3⟩ := four_own (own_below X1.out (After.trans (After.drew (After.refl _)) hSw)); go_simp; try with_reducible rfl)
    try simp only [Act.put, List.getElem_toArray, List.getElem_cons_succ, List.getElem_cons_zero, List.setIfInBounds_toArray, List.set_cons_zero, List.set_cons_succ]
    refine Script.load (i := 15) (v := ?_) rfl (by kernel_rfl) (by kernel_rfl) (fun _ _ _ h => h) (by kernel_rfl) ?_ ?_
    rotate_left
    · (intro wS hSw; obtain ⟨l0, l1, l2, l3⟩ := four_own (own_below X1.out (After.trans (After.drew (After.refl _)) hSw)); go_simp; try with_reducible rfl)
    try simp only [Act.put, List.getElem_toArray, List.getElem_cons_succ, List.getElem_cons_zero, List.setIfInBounds_toArray, List.set_cons_zero, List.set_cons_succ]
    refine Script.load (i := 16) (v := ?_) rfl (by kernel_rfl) (by kernel_rfl) (fun _ _ _ h => h) (by kernel_rfl) ?_ ?_
    rotate_left
    · (intro wS hSw; obtain ⟨l0, l1, l2, l3⟩ := four_own (own_below X1.out (After.trans (After.drew (After.refl _)) hSw)); go_simp; try with_reducible rfl)
    try simp only [Act.put, List.getElem_toArray, List.getElem_cons_succ, List.getElem_cons_zero, List.setIfInBounds_toArray, List.set_cons_zero, List.set_cons_succ]
    refine Script.load (i := 17) (v := ?_) rfl (by kernel_rfl) (by kernel_rfl) (fun _ _ _ h => h) (by kernel_rfl) ?_ ?_
    rotate_left
    · (intro wS hSw; obtain ⟨l0, l1, l2, l3⟩ := four_own (own_below X1.out (After.trans (After.drew (After.refl _)) hSw)); go_simp; try with_reducible rfl)
    try simp only [Act.put, List.getElem_toArray, List.getElem_cons_succ, List.getElem_cons_zero, List.setIfInBounds_toArray, List.set_cons_zero, List.set_cons_succ]
    refine Script.load (i := 18) (v := ?_) rfl (by kernel_rfl) (by kernel_rfl) (fun _ _ _ h => h) (by kernel_rfl) ?_ ?_
    rotate_left
    · (intro wS hSw; obtain ⟨l0, l1, l2, l3⟩ := four_own (own_below X1.out (After.trans (After.drew (After.refl _)) hSw)); go_simp; try with_reducible rfl)
    try simp only [Act.put, List.getElem_toArray, List.getElem_cons_succ, List.getElem_cons_zero, List.setIfInBounds_toArray, List.set_cons_zero, List.set_cons_succ]
    refine Script.done (by kernel_rfl) ?_
    intro wD hD hG
    have B2 := Lib.hid (B1.out.later (After.trans (After.drew (After.refl _)) hD))
    clear hD hG B1 X1
    go_wp2_with fail
    go_ret
    exact ⟨rfl, B2.out.2.2.2.2⟩
end Go.Proofs.Ytlcoojgnokphmaa
