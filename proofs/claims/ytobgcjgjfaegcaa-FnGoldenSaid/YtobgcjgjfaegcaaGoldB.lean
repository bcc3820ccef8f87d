/- Golden numbers of the program: SignOf, CompareGold, PowerOf and what they call, for every int. -/
import Derived.Test.YtobgcjgjfaegcaaGoldA
import Derived.IntWalk
namespace Go.Proofs.Ytobgcjgjfaegcaa
open Go.RowKit
set_option linter.unusedVariables false
set_option linter.unusedSimpArgs false
theorem mul_sq {n M : Int} (h : -M ≤ n ∧ n ≤ M) (hM : 0 ≤ M) : 0 ≤ n * n ∧ n * n ≤ M * M := ⟨sq_nn n, (mul_bnd h h hM).2⟩
theorem ssq_bnd {n : Int} (h : -8000000 ≤ n ∧ n ≤ 8000000) : -64000000000000 ≤ ssq n ∧ ssq n ≤ 64000000000000 := by
  have := mul_sq h (by decide)
  unfold ssq
  split <;> omega
set_option maxRecDepth 100000 in
theorem implSsq (n : Int) (h : -8000000 ≤ n ∧ n ≤ 8000000) (w : World) : Calls Try.prog 40 #[.int .i64 n] w fun e w' => e = .returned (.int .i64 (ssq n)) ∧ w = w' := by
  obtain ⟨s0, s1⟩ := mul_sq h (by decide)
  obtain ⟨h0, h1⟩ := h
  have hm : -n * n = -(n * n) := Int.neg_mul _ _
  by_cases hn : n < 0
  · have HE := Lib.hid (show ssq n = -(n * n) by rw [ssq, if_pos hn])
    go_enter Try.func40, Try.ntmps40
    go_wp2
    go_ret
    exact ⟨ret_int (by rw [HE.out]), rfl⟩
  · have HE := Lib.hid (show ssq n = n * n by rw [ssq, if_neg hn])
    go_enter Try.func40, Try.ntmps40
    go_wp2
    go_ret
    exact ⟨ret_int (by rw [HE.out]), rfl⟩
set_option maxRecDepth 100000 in
theorem implCompare (n m : Int) (w : World) : Calls Try.prog 39 #[.int .i64 n, .int .i64 m] w fun e w' => e = .returned (.int .i64 (cmpI n m)) ∧ w = w' := by
  by_cases h1 : n < m
  · have HE := Lib.hid (show cmpI n m = -1 by rw [cmpI, if_pos h1])
    go_enter Try.func39, Try.ntmps39
    go_wp2
    go_ret
    exact ⟨ret_int (by rw [HE.out]), rfl⟩
  · by_cases h2 : m < n
    · have HE := Lib.hid (show cmpI n m = 1 by rw [cmpI, if_neg h1, if_pos h2])
      go_enter Try.func39, Try.ntmps39
      go_wp2
      go_ret
      exact ⟨ret_int (by rw [HE.out]), rfl⟩
    · have HE := Lib.hid (show cmpI n m = 0 by rw [cmpI, if_neg h1, if_neg h2])
      go_enter Try.func39, Try.ntmps39
      go_wp2
      go_ret
      exact ⟨ret_int (by rw [HE.out]), rfl⟩
set_option maxHeartbeats 1000000 in
set_option maxRecDepth 100000 in
theorem implSign (a b : Int) (ha : -2000000 ≤ a ∧ a ≤ 2000000) (hb : -2000000 ≤ b ∧ b ≤ 2000000) (w : World) : Calls Try.prog 32 #[.agg #[.int .i64 a, .int .i64 b]] w (GI (sg (2 * a - b) b) w) := by
  obtain ⟨a0, a1⟩ := ha
  obtain ⟨b0, b1⟩ := hb
  obtain ⟨s0, s1⟩ := ssq_bnd (n := b) (by omega)
  have C1 := Lib.hid (fun w => implSsq (2 * a - b) (by omega) w)
  have C2 := Lib.hid (fun w => implSsq b (by omega) w)
  have C3 := Lib.hid (fun n m w => implCompare n m w)
  have HE := Lib.hid (cmp_sg (2 * a - b) b)
  obtain ⟨n, hn⟩ : ∃ n, 2 * a - b = n := ⟨_, rfl⟩
  rw [hn] at C1 HE ⊢
  have HN := Lib.hid hn
  clear hn
  obtain ⟨y, hy⟩ : ∃ y, ssq b = y := ⟨_, rfl⟩
  rw [hy] at C2 HE s0 s1
  clear hy
  obtain ⟨x, hx⟩ : ∃ x, ssq n = x := ⟨_, rfl⟩
  rw [hx] at C1 HE
  clear hx
  have hwy : IntKind.i64.wrap (-5 * y) = -5 * y := IntWalk.i64_in _ (by omega)
  go_enter Try.func32, Try.ntmps32
  go_wp2_with fail
  rw [HN.out]
  have B0 : Hid (Bg 25 w.heap.size a b (w.alloc (.cells #[.int .i64 a, .int .i64 b] 25))) := heap_alloc_new w _
  have hb0 : Hid (Below w.heap.size w (w.alloc (.cells #[.int .i64 a, .int .i64 b] 25))) := (Below.refl _ _).alloc (Nat.le_refl _) _
  generalize w.alloc (.cells #[.int .i64 a, .int .i64 b] 25) = W1 at *
  refine wp_region_script (by kernel_rfl) (by kernel_rfl) ?_
  refine Script.load (i := 0) (v := ?_) rfl (by kernel_rfl) (by kernel_rfl) (fun _ _ _ h => h) (by kernel_rfl) ?_ ?_
  rotate_left
  · (intro wS hSw; obtain ⟨k0, k1, -, -⟩ := two_facts (B0.out.later (After.trans (After.drew (After.refl _)) hSw)); go_simp; try with_reducible rfl)
  try simp only [Act.put, List.getElem_toArray, List.getElem_cons_succ, List.getElem_cons_zero, List.setIfInBounds_toArray, List.set_cons_zero, List.set_cons_succ]
  refine Script.call (i := 1) (v := ?_) rfl (by kernel_rfl) (by kernel_rfl) (fun _ _ _ h => h) (by kernel_rfl) ?_ ?_
  rotate_left
  · (intro wS hSw K hK; obtain ⟨k0, k1, -, -⟩ := two_facts (B0.out.later (After.trans (After.drew (After.refl _)) hSw)); go_simp; go_at_call 40; refine (C1.out _).mono ?_; rintro e wc ⟨rfl, rfl⟩; have hbc := Below.refl wS.heap.size wS; exact hK.out _ hbc)
  try simp only [Act.put, List.getElem_toArray, List.getElem_cons_succ, List.getElem_cons_zero, List.setIfInBounds_toArray, List.set_cons_zero, List.set_cons_succ]
  refine Script.load (i := 2) (v := ?_) rfl (by kernel_rfl) (by kernel_rfl) (fun _ _ _ h => h) (by kernel_rfl) ?_ ?_
  rotate_left
  · (intro wS hSw; obtain ⟨k0, k1, -, -⟩ := two_facts (B0.out.later (After.trans (After.drew (After.refl _)) hSw)); go_simp; try with_reducible rfl)
  try simp only [Act.put, List.getElem_toArray, List.getElem_cons_succ, List.getElem_cons_zero, List.setIfInBounds_toArray, List.set_cons_zero, List.set_cons_succ]
  refine Script.load (i := 3) (v := ?_) rfl (by kernel_rfl) (by kernel_rfl) (fun _ _ _ h => h) (by kernel_rfl) ?_ ?_
  rotate_left
  · (intro wS hSw; obtain ⟨k0, k1, -, -⟩ := two_facts (B0.out.later (After.trans (After.drew (After.refl _)) hSw)); go_simp; try with_reducible rfl)
  try simp only [Act.put, List.getElem_toArray, List.getElem_cons_succ, List.getElem_cons_zero, List.setIfInBounds_toArray, List.set_cons_zero, List.set_cons_succ]
  refine Script.call (i := 4) (v := ?_) rfl (by kernel_rfl) (by kernel_rfl) (fun _ _ _ h => h) (by kernel_rfl) ?_ ?_
  rotate_left
  · (intro wS hSw K hK; obtain ⟨k0, k1, -, -⟩ := two_facts (B0.out.later (After.trans (After.drew (After.refl _)) hSw)); go_simp; go_at_call 40; refine (C2.out _).mono ?_; rintro e wc ⟨rfl, rfl⟩; have hbc := Below.refl wS.heap.size wS; exact hK.out _ hbc)
  try simp only [Act.put, List.getElem_toArray, List.getElem_cons_succ, List.getElem_cons_zero, List.setIfInBounds_toArray, List.set_cons_zero, List.set_cons_succ]
  refine Script.load (i := 5) (v := ?_) rfl (by kernel_rfl) (by kernel_rfl) (fun _ _ _ h => h) (by kernel_rfl) ?_ ?_
  rotate_left
  · (intro wS hSw; obtain ⟨k0, k1, -, -⟩ := two_facts (B0.out.later (After.trans (After.drew (After.refl _)) hSw)); go_simp; try with_reducible rfl)
  try simp only [Act.put, List.getElem_toArray, List.getElem_cons_succ, List.getElem_cons_zero, List.setIfInBounds_toArray, List.set_cons_zero, List.set_cons_succ]
  refine Script.call (i := 6) (v := ?_) rfl (by kernel_rfl) (by kernel_rfl) (fun _ _ _ h => h) (by kernel_rfl) ?_ ?_
  rotate_left
  · (intro wS hSw K hK; obtain ⟨k0, k1, -, -⟩ := two_facts (B0.out.later (After.trans (After.drew (After.refl _)) hSw)); go_simp; go_at_call 39; refine (C3.out _ _ _).mono ?_; rintro e wc ⟨rfl, rfl⟩; have hbc := Below.refl wS.heap.size wS; exact hK.out _ hbc)
  try simp only [Act.put, List.getElem_toArray, List.getElem_cons_succ, List.getElem_cons_zero, List.setIfInBounds_toArray, List.set_cons_zero, List.set_cons_succ]
  refine Script.load (i := 7) (v := ?_) rfl (by kernel_rfl) (by kernel_rfl) (fun _ _ _ h => h) (by kernel_rfl) ?_ ?_
  rotate_left
  · (intro wS hSw; obtain ⟨k0, k1, -, -⟩ := two_facts (B0.out.later (After.trans (After.drew (After.refl _)) hSw)); go_simp; try with_reducible rfl)
  try simp only [Act.put, List.getElem_toArray, List.getElem_cons_succ, List.getElem_cons_zero, List.setIfInBounds_toArray, List.set_cons_zero, List.set_cons_succ]
  refine Script.done (by kernel_rfl) ?_
  intro wD hD hG
  have hb1 := Lib.hid (hb0.out.trans (Below.mono (After.trans (After.drew (After.refl _)) hD) hb0.out.size))
  clear hD hG
  go_wp2_with fail
  go_ret
  exact ⟨ret_int (by rw [← HE.out]), hb1.out⟩
theorem sign_no {a b : Int} (h : goldB a b = false) : signG a b = -2 := by simp [signG, h]
theorem sign_yes {a b : Int} (h : goldB a b = true) : signG a b = sg (2 * a - b) b := by simp [signG, h]
/-- One box in new memory. -/
def Bg1 (a b : Int) (w0 w : World) : Prop := Bg 25 w0.heap.size a b w ∧ Below w0.heap.size w0 w
theorem Bg1.later {a b : Int} {w0 w w' : World} (h : Bg1 a b w0 w) (hb : Below w.heap.size w w') : Bg1 a b w0 w' := ⟨h.1.later hb, h.2.trans (hb.mono h.2.size)⟩
theorem bg1_new (a b : Int) (w : World) : Bg1 a b w (w.alloc (.cells #[.int .i64 a, .int .i64 b] 25)) := ⟨heap_alloc_new w _, (Below.refl _ _).alloc (Nat.le_refl _) _⟩
/-- Two boxes in new memory. -/
def Bg2 (a b c d : Int) (w0 w : World) : Prop := Bg 25 w0.heap.size a b w ∧ Bg 25 (w0.heap.size + 1) c d w ∧ Below w0.heap.size w0 w
theorem Bg2.later {a b c d : Int} {w0 w w' : World} (h : Bg2 a b c d w0 w) (hb : Below w.heap.size w w') : Bg2 a b c d w0 w' := ⟨h.1.later hb, h.2.1.later hb, h.2.2.trans (hb.mono h.2.2.size)⟩
theorem bg2_new (a b c d : Int) (w : World) : Bg2 a b c d w ((w.alloc (.cells #[.int .i64 a, .int .i64 b] 25)).alloc (.cells #[.int .i64 c, .int .i64 d] 25)) := by
  refine ⟨row_alloc (heap_alloc_new w _), ?_, ((Below.refl _ _).alloc (Nat.le_refl _) _).alloc (by simp) _⟩
  have := heap_alloc_new (w.alloc (.cells #[.int .i64 a, .int .i64 b] 25)) (.cells #[.int .i64 c, .int .i64 d] 25)
  simpa [Bg] using this
set_option maxRecDepth 100000 in
theorem implSignOf (a b : Int) (w : World) : Calls Try.prog 16 #[.agg #[.int .i64 a, .int .i64 b]] w (GI (signG a b) w) := by
  have C := Lib.hid (fun w => implGoldOk a b w)
  cases h1 : goldB a b
  · have HG := Lib.hid (sign_no h1)
    rw [h1] at C
    go_enter Try.func16, Try.ntmps16
    go_wp2_with fail
    have B0 := Lib.hid (bg1_new a b w)
    generalize w.alloc (.cells #[.int .i64 a, .int .i64 b] 25) = W1 at *
    refine (C.out _).mono ?_
    rintro e w1 ⟨rfl, hb⟩
    have B1 := Lib.hid (B0.out.later hb)
    clear hb B0
    go_wp2_with fail
    go_ret
    exact ⟨ret_int (by rw [HG.out]), B1.out.2⟩
  · have HG := Lib.hid (sign_yes h1)
    rw [h1] at C
    obtain ⟨ka, kb⟩ := gold_yes h1
    have CS := Lib.hid (fun w => implSign a b (by omega) (by omega) w)
    clear ka kb
    go_enter Try.func16, Try.ntmps16
    go_wp2_with fail
    have B0 := Lib.hid (bg1_new a b w)
    generalize w.alloc (.cells #[.int .i64 a, .int .i64 b] 25) = W1 at *
    refine (C.out _).mono ?_
    rintro e w1 ⟨rfl, hb⟩
    have B1 := Lib.hid (B0.out.later hb)
    clear hb B0
    obtain ⟨k0, k1, -, -⟩ := two_facts B1.out.1
    go_wp2_with fail
    refine (CS.out _).mono ?_
    rintro e w2 ⟨rfl, hb⟩
    have B2 := Lib.hid (B1.out.later hb)
    clear hb B1 k0 k1
    go_wp2_with fail
    go_ret
    exact ⟨ret_int (by rw [HG.out]), B2.out.2⟩
set_option maxRecDepth 100000 in
theorem implCompareGold (a b c d : Int) (w : World) : Calls Try.prog 17 #[.agg #[.int .i64 a, .int .i64 b], .agg #[.int .i64 c, .int .i64 d]] w (GI (cmpG a b c d) w) := by
  have C := Lib.hid (fun a b w => implGoldOk a b w)
  cases h1 : goldB a b
  · have HG := Lib.hid (gold_no (a := a) (b := b) (c := c) (d := d) (by rw [h1]; rfl)).2.2
    go_enter Try.func17, Try.ntmps17
    go_wp2_with fail
    have B0 := Lib.hid (bg2_new a b c d w)
    generalize (w.alloc (.cells #[.int .i64 a, .int .i64 b] 25)).alloc (.cells #[.int .i64 c, .int .i64 d] 25) = W1 at *
    obtain ⟨k0, k1, -, -⟩ := two_facts B0.out.1
    go_wp2_with fail
    refine (C.out _ _ _).mono ?_
    rintro e w1 ⟨rfl, hb⟩
    rw [h1]
    have B1 := Lib.hid (B0.out.later hb)
    clear hb k0 k1 B0
    go_wp2_with fail
    go_ret
    exact ⟨ret_int (by rw [HG.out]), B1.out.2.2⟩
  · cases h2 : goldB c d
    · have HG := Lib.hid (gold_no (a := a) (b := b) (c := c) (d := d) (by rw [h1, h2]; rfl)).2.2
      go_enter Try.func17, Try.ntmps17
      go_wp2_with fail
      have B0 := Lib.hid (bg2_new a b c d w)
      generalize (w.alloc (.cells #[.int .i64 a, .int .i64 b] 25)).alloc (.cells #[.int .i64 c, .int .i64 d] 25) = W1 at *
      obtain ⟨k0, k1, -, -⟩ := two_facts B0.out.1
      go_wp2_with fail
      refine (C.out _ _ _).mono ?_
      rintro e w1 ⟨rfl, hb⟩
      rw [h1]
      have B1 := Lib.hid (B0.out.later hb)
      clear hb k0 k1 B0
      obtain ⟨k0, k1, -, -⟩ := two_facts B1.out.2.1
      go_wp2_with fail
      refine (C.out _ _ _).mono ?_
      rintro e w2 ⟨rfl, hb⟩
      rw [h2]
      have B2 := Lib.hid (B1.out.later hb)
      clear hb k0 k1 B1
      go_wp2_with fail
      go_ret
      exact ⟨ret_int (by rw [HG.out]), B2.out.2.2⟩
    · have HG := Lib.hid (gold_both h1 h2).2.2
      have CM := Lib.hid (fun w => implMinus a b c d h1 h2 w)
      have CS := Lib.hid (fun w => by obtain ⟨ka, kb⟩ := gold_yes h1; obtain ⟨kc, kd⟩ := gold_yes h2; exact implSign (a - c) (b - d) (by omega) (by omega) w)
      go_enter Try.func17, Try.ntmps17
      go_wp2_with fail
      have B0 := Lib.hid (bg2_new a b c d w)
      generalize (w.alloc (.cells #[.int .i64 a, .int .i64 b] 25)).alloc (.cells #[.int .i64 c, .int .i64 d] 25) = W1 at *
      obtain ⟨k0, k1, -, -⟩ := two_facts B0.out.1
      go_wp2_with fail
      refine (C.out _ _ _).mono ?_
      rintro e w1 ⟨rfl, hb⟩
      rw [h1]
      have B1 := Lib.hid (B0.out.later hb)
      clear hb k0 k1 B0
      obtain ⟨k0, k1, -, -⟩ := two_facts B1.out.2.1
      go_wp2_with fail
      refine (C.out _ _ _).mono ?_
      rintro e w2 ⟨rfl, hb⟩
      rw [h2]
      have B2 := Lib.hid (B1.out.later hb)
      clear hb k0 k1 B1 h1 h2 C
      obtain ⟨k0, k1, -, -⟩ := two_facts B2.out.1
      obtain ⟨l0, l1, -, -⟩ := two_facts B2.out.2.1
      go_wp2_with fail
      refine (CM.out _).mono ?_
      rintro e w3 ⟨rfl, hb⟩
      have B3 := Lib.hid (B2.out.later hb)
      clear hb k0 k1 l0 l1 B2
      generalize a - c = x at *
      generalize b - d = y at *
      go_wp2_with fail
      refine (CS.out _).mono ?_
      rintro e w4 ⟨rfl, hb⟩
      have B4 := Lib.hid (B3.out.later hb)
      clear hb B3
      go_wp2_with fail
      go_ret
      exact ⟨ret_int (by rw [HG.out]), B4.out.2.2⟩
theorem pow_no {n : Int} (h : ¬ (0 ≤ n ∧ n ≤ 20)) : powG n = (0, 0) := by simp only [powG, h, if_false]
theorem pow_yes (k : Nat) (h : k ≤ 20) : powG k = pw k := by
  rw [powG, if_pos (by omega)]; rfl
theorem pw_gold (k : Nat) (h : k ≤ 20) : (-6765 ≤ (pw k).1 ∧ (pw k).1 ≤ 6765) ∧ -6765 ≤ (pw k).2 ∧ (pw k).2 ≤ 6765 := pw_bnd ⟨k, by omega⟩
theorem row_lt2 {w : World} {b : Nat} {T : TypeId} {x y : Int} (h : Bg T b x y w) : b < w.heap.size := by
  rcases Nat.lt_or_ge b w.heap.size with h' | h'
  · exact h'
  · have h : w.heap[b]? = _ := h; rw [Array.getElem?_eq_none h'] at h; cases h
theorem bg_set {T : TypeId} {b : Nat} {x y x' y' : Int} {w : World} (h : Bg T b x y w) : Bg T b x' y' ((w.setCell ⟨b, 0, none⟩ (.int .i64 x')).setCell ⟨b, 1, none⟩ (.int .i64 y')) :=
  heap_setCell_same _ b 1 _ T _ (heap_setCell_same w b 0 _ T _ h)
theorem bg_other {T : TypeId} {b c : Nat} {x y : Int} {u v : Value} {w : World} (h : Bg T c x y w) (hne : ¬ c = b) : Bg T c x y ((w.setCell ⟨b, 0, none⟩ u).setCell ⟨b, 1, none⟩ v) :=
  (heap_setCell_other _ ⟨b, 1, none⟩ c _ hne).trans ((heap_setCell_other _ ⟨b, 0, none⟩ c _ hne).trans h)
set_option maxHeartbeats 1000000 in
set_option maxRecDepth 100000 in
theorem implPowerOf (n : Int) (w : World) : Calls Try.prog 15 #[.int .i64 n] w (GQ (powG n).1 (powG n).2 w) := by
  by_cases h0 : n < 0
  · have HG := Lib.hid (pow_no (n := n) (by omega))
    go_enter Try.func15, Try.ntmps15
    go_wp2_with fail
    exact bodyPost_ret (v := .agg #[.int .i64 0, .int .i64 0]) (by simp [results, Try.results15, go_sem]) rfl ⟨by rw [HG.out], (Below.refl _ _).alloc (Nat.le_refl _) _⟩
  by_cases h1 : 20 < n
  · have HG := Lib.hid (pow_no (n := n) (by omega))
    go_enter Try.func15, Try.ntmps15
    go_wp2_with fail
    exact bodyPost_ret (v := .agg #[.int .i64 0, .int .i64 0]) (by simp [results, Try.results15, go_sem]) rfl ⟨by rw [HG.out], (Below.refl _ _).alloc (Nat.le_refl _) _⟩
  obtain ⟨m, rfl⟩ := Int.eq_ofNat_of_zero_le (show 0 ≤ n by omega)
  have hm : m ≤ 20 := by omega
  have HG := Lib.hid (pow_yes m hm)
  go_enter Try.func15, Try.ntmps15
  go_wp2_with fail
  have B0 := Lib.hid (bg2_new 0 0 1 0 w)
  generalize (w.alloc (.cells #[.int .i64 0, .int .i64 0] 25)).alloc (.cells #[.int .i64 1, .int .i64 0] 25) = W1 at *
  go_loopw [13] (fun i wr => ∃ (k : Nat) (x y : Int), k ≤ m ∧ i = .int .i64 k ∧ Hid (pw k = (x, y)) ∧ Hid (Bg2 0 0 x y w wr)) (fun i _ => m - (intOf i).toNat)
  case atStart => exact ⟨0, 1, 0, by omega, rfl, rfl, B0⟩
  case round =>
    obtain ⟨k, x, y, hk, rfl, hp, hB⟩ := hrel
    clear B0
    by_cases hkm : k < m
    · have k0 : (k : Int) < (m : Int) := by omega
      have hb := pw_gold k (by omega)
      have hn : Hid (pw (k + 1) = (y, x - y)) := by unfold Hid; rw [pw, hp.out]
      rw [hp.out] at hb
      have CT := Lib.hid (fun w => implTimes x y 0 1 (gold_of (by simp only at hb; omega)) (by decide) w)
      rw [show x * 0 + y * 1 = y by omega, show x * 1 + y * 0 - y * 1 = x - y by omega] at CT
      clear hb
      obtain ⟨k0, k1, -, -⟩ := two_facts hB.out.2.1
      go_wp2_with fail
      refine (CT.out _).mono ?_
      rintro e w1 ⟨rfl, hb⟩
      have B1 := Lib.hid (hB.out.later hb)
      clear hb k0 k1 hB
      obtain ⟨g0, g1, f0, f1⟩ := two_facts B1.out.2.1
      generalize x - y = z at *
      have B2 : Hid (Bg2 0 0 y z w ((w1.setCell ⟨w.heap.size + 1, 0, none⟩ (.int .i64 y)).setCell ⟨w.heap.size + 1, 1, none⟩ (.int .i64 z))) :=
        ⟨bg_other B1.out.1 (by omega), bg_set B1.out.2.1, set_below (set_below B1.out.2.2 (by omega)) (by omega)⟩
      go_wp2_with fail
      go_roundw
      case rel => exact ⟨k + 1, y, z, by omega, by go_num, hn, B2⟩
      case measure => simp [intOf]; omega
    · obtain rfl : k = m := by omega
      obtain ⟨k0, k1, -, -⟩ := two_facts hB.out.2.1
      obtain ⟨z0, z1, f0, f1⟩ := two_facts hB.out.1
      go_wp2_with fail
      exact bodyPost_ret (v := .agg #[.int .i64 x, .int .i64 y]) (by simp [results, Try.results15, go_sem, z0, z1]) rfl ⟨by rw [HG.out, hp.out], set_below (set_below hB.out.2.2 (by omega)) (by omega)⟩
end Go.Proofs.Ytobgcjgjfaegcaa
