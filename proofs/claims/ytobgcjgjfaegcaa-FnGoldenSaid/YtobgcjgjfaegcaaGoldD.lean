/- Golden numbers of the model: SignOf, CompareGold, PowerOf, for every int; the laws' helpers for golden numbers. -/
import Derived.Test.YtobgcjgjfaegcaaGoldC
namespace Go.Proofs.Ytobgcjgjfaegcaa
open Go.RowKit
set_option linter.unusedVariables false
set_option linter.unusedSimpArgs false
set_option maxHeartbeats 1000000 in
set_option maxRecDepth 100000 in
theorem specSgn (n m : Int) (hn : -6000000 ≤ n ∧ n ≤ 6000000) (hm : -6000000 ≤ m ∧ m ≤ 6000000) (w : World) : Calls Try.prog 36 #[.int .i64 n, .int .i64 m] w fun e w' => e = .returned (.int .i64 (sg n m)) ∧ w = w' := by
  have hs := Lib.hid (sgM_sg n m)
  obtain ⟨p0, p1⟩ := mul_sq hn (by decide)
  obtain ⟨q0, q1⟩ := mul_sq hm (by decide)
  have he : 5 * m * m = 5 * (m * m) := Int.mul_assoc _ _ _
  by_cases h1 : 0 ≤ n
  · by_cases h2 : 0 ≤ m
    · by_cases h3 : 0 < n
      · have HE := Lib.hid (show sg n m = 1 by rw [← hs.out, sgM, if_pos ⟨h1, h2⟩, if_pos (.inl h3)])
        go_enter Try.func36, Try.ntmps36
        go_wp2
        go_ret
        exact ⟨ret_int (by rw [HE.out]), rfl⟩
      · by_cases h4 : 0 < m
        · have HE := Lib.hid (show sg n m = 1 by rw [← hs.out, sgM, if_pos ⟨h1, h2⟩, if_pos (.inr h4)])
          go_enter Try.func36, Try.ntmps36
          go_wp2
          go_ret
          exact ⟨ret_int (by rw [HE.out]), rfl⟩
        · have HE := Lib.hid (show sg n m = 0 by rw [← hs.out, sgM, if_pos ⟨h1, h2⟩, if_neg (by omega)])
          go_enter Try.func36, Try.ntmps36
          go_wp2
          go_ret
          exact ⟨ret_int (by rw [HE.out]), rfl⟩
    · by_cases h3 : 0 < n
      · by_cases h5 : 5 * m * m < n * n
        · have HE := Lib.hid (show sg n m = 1 by rw [← hs.out, sgM, if_neg (by omega), if_neg (by omega), if_pos h3, if_pos h5])
          clear hs
          go_enter Try.func36, Try.ntmps36
          go_wp2
          go_ret
          exact ⟨ret_int (by rw [HE.out]), rfl⟩
        · have HE := Lib.hid (show sg n m = -1 by rw [← hs.out, sgM, if_neg (by omega), if_neg (by omega), if_pos h3, if_neg h5])
          clear hs
          go_enter Try.func36, Try.ntmps36
          go_wp2
          go_ret
          exact ⟨ret_int (by rw [HE.out]), rfl⟩
      · have HE := Lib.hid (show sg n m = -1 by rw [← hs.out, sgM, if_neg (by omega), if_pos (by omega)])
        have h6 : n ≤ 0 := by omega
        have h7 : m ≤ 0 := by omega
        go_enter Try.func36, Try.ntmps36
        go_wp2
        go_ret
        exact ⟨ret_int (by rw [HE.out]), rfl⟩
  · by_cases h2 : m ≤ 0
    · have HE := Lib.hid (show sg n m = -1 by rw [← hs.out, sgM, if_neg (by omega), if_pos (by omega)])
      have h6 : n ≤ 0 := by omega
      go_enter Try.func36, Try.ntmps36
      go_wp2
      go_ret
      exact ⟨ret_int (by rw [HE.out]), rfl⟩
    · have h6 : n ≤ 0 := by omega
      have h7 : ¬ 0 < n := by omega
      by_cases h5 : n * n < 5 * m * m
      · have HE := Lib.hid (show sg n m = 1 by rw [← hs.out, sgM, if_neg (by omega), if_neg (by omega), if_neg h7, if_pos h5])
        clear hs
        go_enter Try.func36, Try.ntmps36
        go_wp2
        go_ret
        exact ⟨ret_int (by rw [HE.out]), rfl⟩
      · have HE := Lib.hid (show sg n m = -1 by rw [← hs.out, sgM, if_neg (by omega), if_neg (by omega), if_neg h7, if_neg h5])
        clear hs
        go_enter Try.func36, Try.ntmps36
        go_wp2
        go_ret
        exact ⟨ret_int (by rw [HE.out]), rfl⟩
set_option maxRecDepth 100000 in
theorem specSignOf (a b : Int) (w : World) : Calls Try.prog 24 #[.agg #[.int .i64 a, .int .i64 b]] w (GI (signG a b) w) := by
  have C := Lib.hid (fun w => specGoldOk a b w)
  cases h1 : goldB a b
  · have HG := Lib.hid (sign_no h1)
    rw [h1] at C
    go_enter Try.func24, Try.ntmps24
    go_wp2_with fail
    have B0 := Lib.hid (bg1_new a b w)
    generalize w.alloc (.cells #[.int .i64 a, .int .i64 b] 25) = W1 at *
    refine (C.out _).mono ?_
    rintro e w1 ⟨rfl, hb⟩
    have B1 := Lib.hid (B0.out.later hb)
    clear hb B0
    go_wp2_with fail
    go_ret
    exact ⟨ret_int (by rw [HG.out]), B1.out.2⟩
  · have HG := Lib.hid (sign_yes h1)
    rw [h1] at C
    obtain ⟨ka, kb⟩ := gold_yes h1
    have CS := Lib.hid (fun w => specSgn (2 * a - b) b (by omega) (by omega) w)
    obtain ⟨a0, a1⟩ := ka
    obtain ⟨b0, b1⟩ := kb
    go_enter Try.func24, Try.ntmps24
    go_wp2_with fail
    have B0 := Lib.hid (bg1_new a b w)
    generalize w.alloc (.cells #[.int .i64 a, .int .i64 b] 25) = W1 at *
    refine (C.out _).mono ?_
    rintro e w1 ⟨rfl, hb⟩
    have B1 := Lib.hid (B0.out.later hb)
    clear hb B0
    obtain ⟨k0, k1, -, -⟩ := two_facts B1.out.1
    go_wp2_with fail
    refine (CS.out _).mono ?_
    rintro e w2 ⟨rfl, rfl⟩
    go_wp2_with fail
    go_ret
    exact ⟨ret_int (by rw [HG.out]), B1.out.2⟩
set_option maxRecDepth 100000 in
theorem specCompareGold (a b c d : Int) (w : World) : Calls Try.prog 25 #[.agg #[.int .i64 a, .int .i64 b], .agg #[.int .i64 c, .int .i64 d]] w (GI (cmpG a b c d) w) := by
  have C := Lib.hid (fun a b w => specGoldOk a b w)
  cases h1 : goldB a b
  · have HG := Lib.hid (gold_no (a := a) (b := b) (c := c) (d := d) (by rw [h1]; rfl)).2.2
    go_enter Try.func25, Try.ntmps25
    go_wp2_with fail
    have B0 := Lib.hid (bg2_new a b c d w)
    generalize (w.alloc (.cells #[.int .i64 a, .int .i64 b] 25)).alloc (.cells #[.int .i64 c, .int .i64 d] 25) = W1 at *
    obtain ⟨k0, k1, -, -⟩ := two_facts B0.out.1
    go_wp2_with fail
    refine (C.out _ _ _).mono ?_
    rintro e w1 ⟨rfl, hb⟩
    rw [h1]
    have B1 := Lib.hid (B0.out.later hb)
    clear hb k0 k1 B0
    go_wp2_with fail
    go_ret
    exact ⟨ret_int (by rw [HG.out]), B1.out.2.2⟩
  · cases h2 : goldB c d
    · have HG := Lib.hid (gold_no (a := a) (b := b) (c := c) (d := d) (by rw [h1, h2]; rfl)).2.2
      go_enter Try.func25, Try.ntmps25
      go_wp2_with fail
      have B0 := Lib.hid (bg2_new a b c d w)
      generalize (w.alloc (.cells #[.int .i64 a, .int .i64 b] 25)).alloc (.cells #[.int .i64 c, .int .i64 d] 25) = W1 at *
      obtain ⟨k0, k1, -, -⟩ := two_facts B0.out.1
      go_wp2_with fail
      refine (C.out _ _ _).mono ?_
      rintro e w1 ⟨rfl, hb⟩
      rw [h1]
      have B1 := Lib.hid (B0.out.later hb)
      clear hb k0 k1 B0
      obtain ⟨k0, k1, -, -⟩ := two_facts B1.out.2.1
      go_wp2_with fail
      refine (C.out _ _ _).mono ?_
      rintro e w2 ⟨rfl, hb⟩
      rw [h2]
      have B2 := Lib.hid (B1.out.later hb)
      clear hb k0 k1 B1
      go_wp2_with fail
      go_ret
      exact ⟨ret_int (by rw [HG.out]), B2.out.2.2⟩
    · have HG := Lib.hid (gold_both h1 h2).2.2
      obtain ⟨ka, kb⟩ := gold_yes h1
      obtain ⟨kc, kd⟩ := gold_yes h2
      have CS := Lib.hid (fun w => specSgn (2 * (a - c) - (b - d)) (b - d) (by omega) (by omega) w)
      obtain ⟨a0, a1⟩ := ka; obtain ⟨b0, b1⟩ := kb; obtain ⟨c0, c1⟩ := kc; obtain ⟨d0, d1⟩ := kd
      go_enter Try.func25, Try.ntmps25
      go_wp2_with fail
      have B0 := Lib.hid (bg2_new a b c d w)
      generalize (w.alloc (.cells #[.int .i64 a, .int .i64 b] 25)).alloc (.cells #[.int .i64 c, .int .i64 d] 25) = W1 at *
      obtain ⟨k0, k1, -, -⟩ := two_facts B0.out.1
      go_wp2_with fail
      refine (C.out _ _ _).mono ?_
      rintro e w1 ⟨rfl, hb⟩
      rw [h1]
      have B1 := Lib.hid (B0.out.later hb)
      clear hb k0 k1 B0
      obtain ⟨k0, k1, -, -⟩ := two_facts B1.out.2.1
      go_wp2_with fail
      refine (C.out _ _ _).mono ?_
      rintro e w2 ⟨rfl, hb⟩
      rw [h2]
      have B2 := Lib.hid (B1.out.later hb)
      clear hb k0 k1 B1 h1 h2 C
      obtain ⟨k0, k1, -, -⟩ := two_facts B2.out.1
      obtain ⟨l0, l1, -, -⟩ := two_facts B2.out.2.1
      go_wp2_with fail
      refine (CS.out _).mono ?_
      rintro e w3 ⟨rfl, rfl⟩
      go_wp2_with fail
      go_ret
      exact ⟨ret_int (by rw [HG.out]), B2.out.2.2⟩
set_option maxHeartbeats 1000000 in
set_option maxRecDepth 100000 in
theorem specPowerOf (n : Int) (w : World) : Calls Try.prog 26 #[.int .i64 n] w (GQ (powG n).1 (powG n).2 w) := by
  have C := Lib.hid (fun w => specIn n 0 20 w)
  by_cases h0 : 0 ≤ n ∧ n ≤ 20
  · obtain ⟨m, rfl⟩ := Int.eq_ofNat_of_zero_le h0.1
    have hm : m ≤ 20 := by omega
    have HG := Lib.hid (pow_yes m hm)
    rw [show inB (m : Int) 0 20 = true by simp [inB]; omega] at C
    clear h0
    go_enter Try.func26, Try.ntmps26
    go_wp2_with fail
    have B0 := Lib.hid (bg1_new 0 0 w)
    generalize w.alloc (.cells #[.int .i64 0, .int .i64 0] 25) = W0 at *
    refine (C.out _).mono ?_
    rintro e w1 ⟨rfl, rfl⟩
    have hsz := B0.out.2.size
    have hlt := row_lt2 B0.out.1
    go_wp2_with fail
    have B1 : Hid (Bg 25 w.heap.size 0 0 (W0.alloc (.cells #[.int .i64 1, .int .i64 0] 25)) ∧ Bg 25 W0.heap.size 1 0 (W0.alloc (.cells #[.int .i64 1, .int .i64 0] 25)) ∧ Below w.heap.size w (W0.alloc (.cells #[.int .i64 1, .int .i64 0] 25))) :=
      ⟨row_alloc B0.out.1, heap_alloc_new W0 _, B0.out.2.alloc hsz _⟩
    generalize W0.alloc (.cells #[.int .i64 1, .int .i64 0] 25) = W1 at *
    clear B0
    generalize W0.heap.size = q at *
    go_loopw [4] (fun i wr => ∃ (k : Nat) (x y : Int), k ≤ m ∧ i = .int .i64 k ∧ Hid (pw k = (x, y)) ∧ Hid (Bg 25 w.heap.size 0 0 wr ∧ Bg 25 q x y wr ∧ Below w.heap.size w wr)) (fun i _ => m - (intOf i).toNat)
    case atStart => exact ⟨0, 1, 0, by omega, rfl, rfl, B1⟩
    case round =>
      obtain ⟨k, x, y, hk, rfl, hp, hB⟩ := hrel
      clear B1
      by_cases hkm : k < m
      · have k0 : (k : Int) < (m : Int) := by omega
        have hb := pw_gold k (by omega)
        have hn : Hid (pw (k + 1) = (y, x - y)) := by unfold Hid; rw [pw, hp.out]
        rw [hp.out] at hb
        simp only at hb
        obtain ⟨⟨b0, b1⟩, b2, b3⟩ := hb
        obtain ⟨k0, k1, f0, f1⟩ := two_facts hB.out.2.1
        have B2 : Hid (Bg 25 w.heap.size 0 0 ((wr.setCell ⟨q, 0, none⟩ (.int .i64 y)).setCell ⟨q, 1, none⟩ (.int .i64 (x - y))) ∧ Bg 25 q y (x - y) ((wr.setCell ⟨q, 0, none⟩ (.int .i64 y)).setCell ⟨q, 1, none⟩ (.int .i64 (x - y))) ∧ Below w.heap.size w ((wr.setCell ⟨q, 0, none⟩ (.int .i64 y)).setCell ⟨q, 1, none⟩ (.int .i64 (x - y)))) :=
          ⟨bg_other hB.out.1 (by omega), bg_set hB.out.2.1, set_below (set_below hB.out.2.2 (by omega)) (by omega)⟩
        go_wp2_with fail
        go_roundw
        case rel => exact ⟨k + 1, y, x - y, by omega, by go_num, hn, B2⟩
        case measure => simp [intOf]; omega
      · obtain rfl : k = m := by omega
        obtain ⟨k0, k1, -, -⟩ := two_facts hB.out.2.1
        obtain ⟨z0, z1, f0, f1⟩ := two_facts hB.out.1
        go_wp2_with fail
        exact bodyPost_ret (v := .agg #[.int .i64 x, .int .i64 y]) (by simp [results, Try.results26, go_sem, z0, z1]) rfl ⟨by rw [HG.out, hp.out], set_below (set_below hB.out.2.2 (by omega)) (by omega)⟩
  · have HG := Lib.hid (pow_no (n := n) h0)
    rw [show inB n 0 20 = false by simp [inB]; omega] at C
    clear h0
    go_enter Try.func26, Try.ntmps26
    go_wp2_with fail
    have B0 := Lib.hid (bg1_new 0 0 w)
    generalize w.alloc (.cells #[.int .i64 0, .int .i64 0] 25) = W0 at *
    refine (C.out _).mono ?_
    rintro e w1 ⟨rfl, rfl⟩
    obtain ⟨z0, z1, f0, f1⟩ := two_facts B0.out.1
    go_wp2_with fail
    exact bodyPost_ret (v := .agg #[.int .i64 0, .int .i64 0]) (by simp [results, Try.results26, go_sem, z0, z1]) rfl ⟨by rw [HG.out], set_below (set_below B0.out.2 (by omega)) (by omega)⟩
set_option maxRecDepth 100000 in
theorem toGd (a b : Int) (w : World) : Calls Try.prog 20 #[.agg #[.int .i64 a, .int .i64 b]] w (GQ a b w) := by
  go_enter Try.func20, Try.ntmps20
  go_wp2_with fail
  exact bodyPost_ret (v := .agg #[.int .i64 a, .int .i64 b]) (by simp [results, Try.results20, go_sem]) rfl ⟨rfl, below_res _ _ _ _⟩
set_option maxRecDepth 100000 in
theorem eqGd (a b : Int) (w : World) : Calls Try.prog 22 #[.agg #[.int .i64 a, .int .i64 b], .agg #[.int .i64 a, .int .i64 b]] w (GB true w) := by
  go_enter Try.func22, Try.ntmps22
  go_wp2_with fail
  go_ret
  exact ⟨rfl, ((Below.refl _ _).alloc (Nat.le_refl _) _).alloc (by simp) _⟩
/-- The boxes of the laws' arguments: one golden number, two. -/
def La1 (a b : Int) (w0 w : World) : Prop := Bg 35 w0.heap.size a b w ∧ Below w0.heap.size w0 w
theorem La1.later {a b : Int} {w0 w w' : World} (h : La1 a b w0 w) (hb : Below w.heap.size w w') : La1 a b w0 w' := ⟨h.1.later hb, h.2.trans (hb.mono h.2.size)⟩
theorem la1_new (a b : Int) (w : World) : La1 a b w (w.alloc (.cells #[.int .i64 a, .int .i64 b] 35)) := ⟨heap_alloc_new w _, (Below.refl _ _).alloc (Nat.le_refl _) _⟩
def La2 (a b c d : Int) (w0 w : World) : Prop := Bg 35 w0.heap.size a b w ∧ Bg 35 (w0.heap.size + 1) c d w ∧ Below w0.heap.size w0 w
theorem La2.later {a b c d : Int} {w0 w w' : World} (h : La2 a b c d w0 w) (hb : Below w.heap.size w w') : La2 a b c d w0 w' := ⟨h.1.later hb, h.2.1.later hb, h.2.2.trans (hb.mono h.2.2.size)⟩
theorem la2_new (a b c d : Int) (w : World) : La2 a b c d w ((w.alloc (.cells #[.int .i64 a, .int .i64 b] 35)).alloc (.cells #[.int .i64 c, .int .i64 d] 35)) := by
  refine ⟨row_alloc (heap_alloc_new w _), ?_, ((Below.refl _ _).alloc (Nat.le_refl _) _).alloc (by simp) _⟩
  have := heap_alloc_new (w.alloc (.cells #[.int .i64 a, .int .i64 b] 35)) (.cells #[.int .i64 c, .int .i64 d] 35)
  simpa [Bg] using this
end Go.Proofs.Ytobgcjgjfaegcaa
