/- ClassWeights, ColumnWeights, RowWeights of the model. -/
import Derived.Test.YtkaabjklfhoooaaProofsB
import Derived.Test.YtkaabjklfhoooaaBoards
namespace Go.Proofs.Ytkaabjklfhoooaa
open Go.RowKit
set_option linter.unusedVariables false
set_option linter.unusedSimpArgs false
set_option maxHeartbeats 1000000 in
set_option maxRecDepth 100000 in
theorem specFib (n : Nat) (hn : n ≤ 7) (w : World) : Calls Try.prog 35 #[.int .i64 n] w fun e w' => e = .returned (.int .i64 (fibN n)) ∧ w = w' := by
  go_enter Try.func35, Try.ntmps35
  go_wp2_with fail
  go_loopw [3, 4, 5] (fun x y i wr => ∃ k : Nat, k ≤ n ∧ i = .int .i64 k ∧ x = .int .i64 (fibP k).1 ∧ y = .int .i64 (fibP k).2 ∧ wr = w) (fun _ _ i _ => n - (intOf i).toNat)
  case atStart => exact ⟨0, Nat.zero_le _, rfl, rfl, rfl, rfl⟩
  case round =>
    obtain ⟨k, hk, rfl, rfl, rfl, rfl⟩ := hrel
    by_cases hlt : k < n
    · have h0 : (0 : Int) ≤ (k : Int) := by omega
      have h1 : (k : Int) < (n : Int) := by omega
      obtain ⟨f1, f2, f3, f4⟩ := fib_le (show k ≤ 8 by omega)
      have HE : Hid ((fibP (k + 1)).1 = (fibP k).2 ∧ (fibP (k + 1)).2 = (fibP k).1 + (fibP k).2) := ⟨rfl, rfl⟩
      generalize (fibP k).1 = x at *
      generalize (fibP k).2 = y at *
      go_wp2_with fail
      go_roundw
      case rel => exact ⟨k + 1, by omega, by go_num, by rw [HE.out.1], by rw [HE.out.2], trivial⟩
      case measure => simp [intOf]; omega
    · obtain rfl : k = n := by omega
      go_wp2_with fail
      go_ret
      exact ⟨rfl, rfl⟩
set_option maxHeartbeats 1000000 in
set_option maxRecDepth 100000 in
theorem specClassW_no1 {W H Z : Int} (R : Int) (h : okB W H Z = false) (w : World) : Calls Try.prog 13 #[.agg #[.int .i64 W, .int .i64 H, .int .i64 Z], .int .i64 R] w (OwnIv [] w) := by
  have C1 := Lib.hid (specOk_no h)
  obtain ⟨p, hp⟩ : ∃ p, IntKind.i64.wrap (W * H) = p := ⟨_, rfl⟩
  have hp2 : wrap64 (W * H) = p := by rw [← hp]; exact (IntWalk.i64_left _).symm
  clear h
  go_enter Try.func13, Try.ntmps13
  go_wp2_with fail
  have B00 := Lib.hid (box_new W H Z w)
  have hS : (w.alloc (.cells #[.int .i64 W, .int .i64 H, .int .i64 Z] 26)).heap.size = w.heap.size + 1 := by simp
  generalize w.alloc (.cells #[.int .i64 W, .int .i64 H, .int .i64 Z] 26) = W1 at *
  have HL0 : Hid ((W1.alloc (.cells #[] 3)).ownsRow (w.heap.size + 1) 3 1 (.slice (some ⟨w.heap.size + 1, 0, none⟩) 0 0) 0 []) := by
    unfold Hid; rw [← hS]; exact World.ownsRow_made W1 #[] 0 (Nat.le_refl _) (by unfold maxLen; omega) rfl
  have B0 := Lib.hid (B00.out.later ((Below.refl _ _).alloc (Nat.le_refl _) (.cells #[] 3)))
  generalize W1.alloc (.cells #[] 3) = W2 at *
  clear B00 hS
  obtain ⟨c0, c1, c2, hlt, hb1⟩ := B0.out
  go_loopw [5, 6] (fun s i wr => i = .int .i64 0 ∧ s = .slice (some ⟨w.heap.size + 1, 0, none⟩) 0 0 ∧ wr = W2) (fun _ _ _ => 0)
  case atStart => exact ⟨rfl, rfl, rfl⟩
  case round =>
    obtain ⟨rfl, rfl, rfl⟩ := hrel
    by_cases h0 : 0 < p
    · go_wp2_with fail
      refine (C1.out _).mono ?_
      rintro e w3 ⟨rfl, hb⟩
      have hp : Hid (OwnIv [] w (.returned (.slice (some ⟨w.heap.size + 1, 0, none⟩) 0 0)) w3) := ⟨_, rfl, own_base (own_below HL0.out hb) (Nat.le_succ _), (B0.out.later hb).2.2.2.2⟩
      clear hb c0 c1 c2 hlt hb1 HL0
      go_wp2_with fail
      go_ret
      exact hp.out
    · have hp : Hid (OwnIv [] w (.returned (.slice (some ⟨w.heap.size + 1, 0, none⟩) 0 0)) wr) := ⟨_, rfl, own_base HL0.out (Nat.le_succ _), B0.out.2.2.2.2⟩
      clear hlt hb1 HL0
      go_wp2_with fail
      go_ret
      exact hp.out
set_option maxHeartbeats 1000000 in
set_option maxRecDepth 100000 in
theorem specClassW_no2 {W H : Int} {N z : Nat} (ho : Ok W H N z) (R : Int) (h : inB R 0 2 = false) (w : World) : Calls Try.prog 13 #[.agg #[.int .i64 W, .int .i64 H, .int .i64 z], .int .i64 R] w (OwnIv [] w) := by
  have C1 := Lib.hid (specOk_yes ho)
  have C2 := Lib.hid (fun w => specIn R 0 2 w)
  rw [h] at C2
  have hN := ho.wh
  have h49 := ho.n49
  have hn1 := ho.n1
  have h0 : (0 : Int) < (N : Int) := by omega
  clear h ho
  go_enter Try.func13, Try.ntmps13
  go_wp2_with fail
  have B00 := Lib.hid (box_new W H z w)
  have hS : (w.alloc (.cells #[.int .i64 W, .int .i64 H, .int .i64 (z : Int)] 26)).heap.size = w.heap.size + 1 := by simp
  generalize w.alloc (.cells #[.int .i64 W, .int .i64 H, .int .i64 (z : Int)] 26) = W1 at *
  have HL0 : Hid ((W1.alloc (.cells #[] 3)).ownsRow (w.heap.size + 1) 3 1 (.slice (some ⟨w.heap.size + 1, 0, none⟩) 0 0) 0 []) := by
    unfold Hid; rw [← hS]; exact World.ownsRow_made W1 #[] 0 (Nat.le_refl _) (by unfold maxLen; omega) rfl
  have B0 := Lib.hid (B00.out.later ((Below.refl _ _).alloc (Nat.le_refl _) (.cells #[] 3)))
  generalize W1.alloc (.cells #[] 3) = W2 at *
  clear B00 hS
  obtain ⟨c0, c1, c2, hlt, hb1⟩ := B0.out
  go_loopw [5, 6] (fun s i wr => i = .int .i64 0 ∧ s = .slice (some ⟨w.heap.size + 1, 0, none⟩) 0 0 ∧ wr = W2) (fun _ _ _ => 0)
  case atStart => exact ⟨rfl, rfl, rfl⟩
  case round =>
    obtain ⟨rfl, rfl, rfl⟩ := hrel
    go_wp2_with fail
    refine (C1.out _).mono ?_
    rintro e w3 ⟨rfl, hb⟩
    have hp : Hid (OwnIv [] w (.returned (.slice (some ⟨w.heap.size + 1, 0, none⟩) 0 0)) w3) := ⟨_, rfl, own_base (own_below HL0.out hb) (Nat.le_succ _), (B0.out.later hb).2.2.2.2⟩
    clear hb c0 c1 c2 hlt hb1 HL0
    go_wp2_with fail
    refine (C2.out _).mono ?_
    rintro e w4 ⟨rfl, rfl⟩
    go_wp2_with fail
    go_ret
    exact hp.out
set_option maxHeartbeats 2000000 in
set_option maxRecDepth 100000 in
theorem specClassW_yes {a b N z r : Nat} (ho : Ok (a : Int) (b : Int) N z) (hr : r ≤ 2) (w : World) : Calls Try.prog 13 #[.agg #[.int .i64 a, .int .i64 b, .int .i64 z], .int .i64 r] w (OwnIv (gridL a N (clsW r)) w) := by
  obtain ⟨i0, hi, hz0, hz1, hz2⟩ : ∃ i, Try.prog.info? 3 = some i ∧ i.zero = some (.int .i64 0) ∧ i.size = 1 ∧ i.bytes = 8 := ⟨_, by rfl, by rfl, by rfl, by rfl⟩
  have C1 := Lib.hid (specOk_yes ho)
  have C2 := Lib.hid (fun w => specIn r 0 2 w)
  rw [show inB (r : Int) 0 2 = true by simp [inB]; omega] at C2
  have hN := ho.wh
  have h49 := ho.n49
  obtain ⟨hNn, ha0, ha7, hb0, hb7, -⟩ := ho.nat
  have HG := Lib.hid (fun k (hk : k < N) => gridL_get (a := a) (clsW r) hk)
  have HLen : Hid ((gridL a N (clsW r)).length = N) := gridL_len a N _
  have HX : Hid (∀ k, k < N → k % a < 7 ∧ k / a < 7 ∧ (k : Int).tmod a = ((k % a : Nat) : Int) ∧ (k : Int).tdiv a = ((k / a : Nat) : Int)) := fun k hk => ⟨by have := Nat.mod_lt k ha0; omega, by
    have : k / a < b := by rw [Nat.div_lt_iff_lt_mul ha0, Nat.mul_comm, hNn]; exact hk
    omega, by rw [Int.tmod_eq_emod_of_nonneg (by omega)]; simp, by rw [Int.tdiv_eq_ediv_of_nonneg (by omega)]; simp⟩
  have q0 : ((a : Int) == 0) = false := by simp; omega
  have a7 : (a : Int) ≤ 7 := by omega
  generalize gridL a N (clsW r) = xs at *
  clear ho hNn
  go_enter Try.func13, Try.ntmps13
  go_wp2_with fail
  have B00 := Lib.hid (box_new a b z w)
  have hS : (w.alloc (.cells #[.int .i64 a, .int .i64 b, .int .i64 (z : Int)] 26)).heap.size = w.heap.size + 1 := by simp
  generalize w.alloc (.cells #[.int .i64 a, .int .i64 b, .int .i64 (z : Int)] 26) = W1 at *
  have HL0 : Hid ((W1.alloc (.cells #[] 3)).ownsRow (w.heap.size + 1) 3 1 (.slice (some ⟨w.heap.size + 1, 0, none⟩) 0 0) 0 (iv (xs.take 0))) := by
    unfold Hid; rw [← hS]; exact World.ownsRow_made W1 #[] 0 (Nat.le_refl _) (by unfold maxLen; omega) rfl
  have B0 := Lib.hid (B00.out.later ((Below.refl _ _).alloc (Nat.le_refl _) (.cells #[] 3)))
  generalize W1.alloc (.cells #[] 3) = W2 at *
  clear B00 hS
  go_loopw [5, 6] (fun s i wr => ∃ (k : Nat) (v : Value), k ≤ N ∧ i = .int .i64 k ∧ v = s ∧ Hid (wr.ownsRow (w.heap.size + 1) 3 1 v k (iv (xs.take k))) ∧ Hid (Box w.heap.size a b z w wr)) (fun _ i _ => N - (intOf i).toNat)
  case atStart => exact ⟨0, _, Nat.zero_le _, rfl, rfl, HL0, B0⟩
  case round =>
    clear HL0 B0
    obtain ⟨k, v, hk, rfl, rfl, HR, HB⟩ := hrel
    obtain ⟨c0, c1, c2, hlt, hb1⟩ := HB.out
    by_cases hlk : k < N
    · have k0 : (0 : Int) ≤ (k : Int) := by omega
      have k1 : (k : Int) < (N : Int) := by omega
      go_wp2_with fail
      refine (C1.out _).mono ?_
      rintro e w3 ⟨rfl, hb⟩
      have HB3 := Lib.hid (HB.out.later hb)
      have HR3 := Lib.hid (own_below HR.out hb)
      clear hb c0 c1 c2 hlt hb1 HB HR
      obtain ⟨c0, c1, c2, hlt, hb1⟩ := HB3.out
      obtain ⟨x7, y7, hm, hd⟩ := HX.out k hlk
      have hx := HG.out k hlk
      go_wp2_with fail
      refine (C2.out _).mono ?_
      rintro e w4 ⟨rfl, rfl⟩
      generalize k % a = x at *
      generalize k / a = y at *
      have hs : (x : Int) + y = ((x + y : Nat) : Int) := by omega
      have hE : Hid (clsW r x y = if (x + y) % 3 = r then 0 else 1) := rfl
      have hm3 : ((x + y : Nat) : Int).tmod 3 = (((x + y) % 3 : Nat) : Int) := by rw [Int.tmod_eq_emod_of_nonneg (by omega)]; omega
      have hb2 : x + y < 14 := by omega
      have hq3 : (x + y) % 3 < 3 := Nat.mod_lt _ (by decide)
      have HS := Lib.hid (take_one hx)
      clear hx
      generalize clsW r x y = c at *
      generalize (x + y) % 3 = q at *
      generalize x + y = s at *
      have HBq : Hid (∀ n, Box w.heap.size a b z w (w3.drewN n)) := fun n => HB3.out.later (below_drewN n (Below.refl _ _))
      have HRq : Hid (∀ n, (w3.drewN n).ownsRow (w.heap.size + 1) 3 1 v k (iv (xs.take k))) := fun n => HR3.out
      have hkb : k ≤ 1000000000 := by omega
      by_cases h : q = r
      · subst h
        rw [if_pos rfl] at hE
        go_wp2_with fail
        go_quiet (fail)
        have HB5 := Lib.hid (HBq.out nq)
        have HR5 := Lib.hid (HRq.out nq)
        have hbz : w.heap.size + 1 ≤ (w3.drewN nq).heap.size := HB5.out.2.2.2.1
        generalize (w3.drewN nq) = w5 at *
        go_wp2_with (at_builtin; refine wpList_append_one rfl (.tmp 38) (.tmp 40) 24 rfl (w.heap.size + 1) 3 i0 (.int .i64 0) 8 Try.underlying24 hi hz0 hz1 hz2 rfl (by decide) _ _ _ rfl HR5.out rfl rfl hkb hbz ?_; intro g' cap' w6 hown' hgrow hb6)
        have HR6 : Hid (w6.ownsRow (w.heap.size + 1) 3 1 (.slice (some ⟨g', 0, none⟩) (k + 1) cap') (k + 1) (iv (xs.take (k + 1)))) := by unfold Hid; rw [HS.out, hE.out, iv_snoc]; exact hown'
        have HB6 := Lib.hid (Box.kept HB5.out hb6 (Nat.lt_succ_self _) (Nat.le_succ _))
        clear hown' hgrow hb6
        go_wp2_with fail
        go_roundw
        case rel => exact ⟨k + 1, _, by omega, by go_num, rfl, HR6, HB6⟩
        case measure => simp [intOf]; omega
      · rw [if_neg h] at hE
        have h' : ¬ (q : Int) = r := by omega
        go_wp2_with fail
        go_quiet (fail)
        have HB5 := Lib.hid (HBq.out nq)
        have HR5 := Lib.hid (HRq.out nq)
        have hbz : w.heap.size + 1 ≤ (w3.drewN nq).heap.size := HB5.out.2.2.2.1
        generalize (w3.drewN nq) = w5 at *
        go_wp2_with (at_builtin; refine wpList_append_one rfl (.tmp 38) (.tmp 40) 24 rfl (w.heap.size + 1) 3 i0 (.int .i64 0) 8 Try.underlying24 hi hz0 hz1 hz2 rfl (by decide) _ _ _ rfl HR5.out rfl rfl hkb hbz ?_; intro g' cap' w6 hown' hgrow hb6)
        have HR6 : Hid (w6.ownsRow (w.heap.size + 1) 3 1 (.slice (some ⟨g', 0, none⟩) (k + 1) cap') (k + 1) (iv (xs.take (k + 1)))) := by unfold Hid; rw [HS.out, hE.out, iv_snoc]; exact hown'
        have HB6 := Lib.hid (Box.kept HB5.out hb6 (Nat.lt_succ_self _) (Nat.le_succ _))
        clear hown' hgrow hb6
        go_wp2_with fail
        go_roundw
        case rel => exact ⟨k + 1, _, by omega, by go_num, rfl, HR6, HB6⟩
        case measure => simp [intOf]; omega
    · obtain rfl : k = N := by omega
      have hfull : xs.take k = xs := List.take_of_length_le (by rw [HLen.out]; exact Nat.le_refl _)
      rw [hfull] at HR
      have hp : Hid (OwnIv xs w (.returned v) wr) := ⟨_, rfl, by rw [HLen.out]; exact own_base HR.out (Nat.le_succ _), HB.out.2.2.2.2⟩
      clear HR
      go_wp2_with fail
      go_ret
      exact hp.out
set_option maxHeartbeats 1000000 in
set_option maxRecDepth 100000 in
theorem specColumnW_no1 {W H Z : Int} (R : Int) (h : okB W H Z = false) (w : World) : Calls Try.prog 19 #[.agg #[.int .i64 W, .int .i64 H, .int .i64 Z], .int .i64 R] w (OwnIv [] w) := by
  have C1 := Lib.hid (specOk_no h)
  obtain ⟨p, hp⟩ : ∃ p, IntKind.i64.wrap (W * H) = p := ⟨_, rfl⟩
  have hp2 : wrap64 (W * H) = p := by rw [← hp]; exact (IntWalk.i64_left _).symm
  clear h
  go_enter Try.func19, Try.ntmps19
  go_wp2_with fail
  have B00 := Lib.hid (box_new W H Z w)
  have hS : (w.alloc (.cells #[.int .i64 W, .int .i64 H, .int .i64 Z] 26)).heap.size = w.heap.size + 1 := by simp
  generalize w.alloc (.cells #[.int .i64 W, .int .i64 H, .int .i64 Z] 26) = W1 at *
  have HL0 : Hid ((W1.alloc (.cells #[] 3)).ownsRow (w.heap.size + 1) 3 1 (.slice (some ⟨w.heap.size + 1, 0, none⟩) 0 0) 0 []) := by
    unfold Hid; rw [← hS]; exact World.ownsRow_made W1 #[] 0 (Nat.le_refl _) (by unfold maxLen; omega) rfl
  have B0 := Lib.hid (B00.out.later ((Below.refl _ _).alloc (Nat.le_refl _) (.cells #[] 3)))
  generalize W1.alloc (.cells #[] 3) = W2 at *
  clear B00 hS
  obtain ⟨c0, c1, c2, hlt, hb1⟩ := B0.out
  go_loopw [5, 6] (fun s i wr => i = .int .i64 0 ∧ s = .slice (some ⟨w.heap.size + 1, 0, none⟩) 0 0 ∧ wr = W2) (fun _ _ _ => 0)
  case atStart => exact ⟨rfl, rfl, rfl⟩
  case round =>
    obtain ⟨rfl, rfl, rfl⟩ := hrel
    by_cases h0 : 0 < p
    · go_wp2_with fail
      refine (C1.out _).mono ?_
      rintro e w3 ⟨rfl, hb⟩
      have hp : Hid (OwnIv [] w (.returned (.slice (some ⟨w.heap.size + 1, 0, none⟩) 0 0)) w3) := ⟨_, rfl, own_base (own_below HL0.out hb) (Nat.le_succ _), (B0.out.later hb).2.2.2.2⟩
      clear hb c0 c1 c2 hlt hb1 HL0
      go_wp2_with fail
      go_ret
      exact hp.out
    · have hp : Hid (OwnIv [] w (.returned (.slice (some ⟨w.heap.size + 1, 0, none⟩) 0 0)) wr) := ⟨_, rfl, own_base HL0.out (Nat.le_succ _), B0.out.2.2.2.2⟩
      clear hlt hb1 HL0
      go_wp2_with fail
      go_ret
      exact hp.out
set_option maxHeartbeats 1000000 in
set_option maxRecDepth 100000 in
theorem specColumnW_no2 {W H : Int} {N z : Nat} (ho : Ok W H N z) (R : Int) (h : inB R 0 6 = false) (w : World) : Calls Try.prog 19 #[.agg #[.int .i64 W, .int .i64 H, .int .i64 z], .int .i64 R] w (OwnIv [] w) := by
  have C1 := Lib.hid (specOk_yes ho)
  have C2 := Lib.hid (fun w => specIn R 0 6 w)
  rw [h] at C2
  have hN := ho.wh
  have h49 := ho.n49
  have hn1 := ho.n1
  have h0 : (0 : Int) < (N : Int) := by omega
  clear h ho
  go_enter Try.func19, Try.ntmps19
  go_wp2_with fail
  have B00 := Lib.hid (box_new W H z w)
  have hS : (w.alloc (.cells #[.int .i64 W, .int .i64 H, .int .i64 (z : Int)] 26)).heap.size = w.heap.size + 1 := by simp
  generalize w.alloc (.cells #[.int .i64 W, .int .i64 H, .int .i64 (z : Int)] 26) = W1 at *
  have HL0 : Hid ((W1.alloc (.cells #[] 3)).ownsRow (w.heap.size + 1) 3 1 (.slice (some ⟨w.heap.size + 1, 0, none⟩) 0 0) 0 []) := by
    unfold Hid; rw [← hS]; exact World.ownsRow_made W1 #[] 0 (Nat.le_refl _) (by unfold maxLen; omega) rfl
  have B0 := Lib.hid (B00.out.later ((Below.refl _ _).alloc (Nat.le_refl _) (.cells #[] 3)))
  generalize W1.alloc (.cells #[] 3) = W2 at *
  clear B00 hS
  obtain ⟨c0, c1, c2, hlt, hb1⟩ := B0.out
  go_loopw [5, 6] (fun s i wr => i = .int .i64 0 ∧ s = .slice (some ⟨w.heap.size + 1, 0, none⟩) 0 0 ∧ wr = W2) (fun _ _ _ => 0)
  case atStart => exact ⟨rfl, rfl, rfl⟩
  case round =>
    obtain ⟨rfl, rfl, rfl⟩ := hrel
    go_wp2_with fail
    refine (C1.out _).mono ?_
    rintro e w3 ⟨rfl, hb⟩
    have hp : Hid (OwnIv [] w (.returned (.slice (some ⟨w.heap.size + 1, 0, none⟩) 0 0)) w3) := ⟨_, rfl, own_base (own_below HL0.out hb) (Nat.le_succ _), (B0.out.later hb).2.2.2.2⟩
    clear hb c0 c1 c2 hlt hb1 HL0
    go_wp2_with fail
    refine (C2.out _).mono ?_
    rintro e w4 ⟨rfl, rfl⟩
    go_wp2_with fail
    go_ret
    exact hp.out
set_option maxHeartbeats 2000000 in
set_option maxRecDepth 100000 in
theorem specColumnW_yes {a b N z r : Nat} (ho : Ok (a : Int) (b : Int) N z) (hr : r ≤ 6) (w : World) : Calls Try.prog 19 #[.agg #[.int .i64 a, .int .i64 b, .int .i64 z], .int .i64 r] w (OwnIv (gridL a N (colW r)) w) := by
  obtain ⟨i0, hi, hz0, hz1, hz2⟩ : ∃ i, Try.prog.info? 3 = some i ∧ i.zero = some (.int .i64 0) ∧ i.size = 1 ∧ i.bytes = 8 := ⟨_, by rfl, by rfl, by rfl, by rfl⟩
  have C1 := Lib.hid (specOk_yes ho)
  have C2 := Lib.hid (fun w => specIn r 0 6 w)
  rw [show inB (r : Int) 0 6 = true by simp [inB]; omega] at C2
  have hN := ho.wh
  have h49 := ho.n49
  obtain ⟨hNn, ha0, ha7, hb0, hb7, -⟩ := ho.nat
  have HG := Lib.hid (fun k (hk : k < N) => gridL_get (a := a) (colW r) hk)
  have HLen : Hid ((gridL a N (colW r)).length = N) := gridL_len a N _
  have HX : Hid (∀ k, k < N → k % a < 7 ∧ k / a < 7 ∧ (k : Int).tmod a = ((k % a : Nat) : Int) ∧ (k : Int).tdiv a = ((k / a : Nat) : Int)) := fun k hk => ⟨by have := Nat.mod_lt k ha0; omega, by
    have : k / a < b := by rw [Nat.div_lt_iff_lt_mul ha0, Nat.mul_comm, hNn]; exact hk
    omega, by rw [Int.tmod_eq_emod_of_nonneg (by omega)]; simp, by rw [Int.tdiv_eq_ediv_of_nonneg (by omega)]; simp⟩
  have q0 : ((a : Int) == 0) = false := by simp; omega
  have a7 : (a : Int) ≤ 7 := by omega
  generalize gridL a N (colW r) = xs at *
  clear ho hNn
  go_enter Try.func19, Try.ntmps19
  go_wp2_with fail
  have B00 := Lib.hid (box_new a b z w)
  have hS : (w.alloc (.cells #[.int .i64 a, .int .i64 b, .int .i64 (z : Int)] 26)).heap.size = w.heap.size + 1 := by simp
  generalize w.alloc (.cells #[.int .i64 a, .int .i64 b, .int .i64 (z : Int)] 26) = W1 at *
  have HL0 : Hid ((W1.alloc (.cells #[] 3)).ownsRow (w.heap.size + 1) 3 1 (.slice (some ⟨w.heap.size + 1, 0, none⟩) 0 0) 0 (iv (xs.take 0))) := by
    unfold Hid; rw [← hS]; exact World.ownsRow_made W1 #[] 0 (Nat.le_refl _) (by unfold maxLen; omega) rfl
  have B0 := Lib.hid (B00.out.later ((Below.refl _ _).alloc (Nat.le_refl _) (.cells #[] 3)))
  generalize W1.alloc (.cells #[] 3) = W2 at *
  clear B00 hS
  go_loopw [5, 6] (fun s i wr => ∃ (k : Nat) (v : Value), k ≤ N ∧ i = .int .i64 k ∧ v = s ∧ Hid (wr.ownsRow (w.heap.size + 1) 3 1 v k (iv (xs.take k))) ∧ Hid (Box w.heap.size a b z w wr)) (fun _ i _ => N - (intOf i).toNat)
  case atStart => exact ⟨0, _, Nat.zero_le _, rfl, rfl, HL0, B0⟩
  case round =>
    clear HL0 B0
    obtain ⟨k, v, hk, rfl, rfl, HR, HB⟩ := hrel
    obtain ⟨c0, c1, c2, hlt, hb1⟩ := HB.out
    by_cases hlk : k < N
    · have k0 : (0 : Int) ≤ (k : Int) := by omega
      have k1 : (k : Int) < (N : Int) := by omega
      go_wp2_with fail
      refine (C1.out _).mono ?_
      rintro e w3 ⟨rfl, hb⟩
      have HB3 := Lib.hid (HB.out.later hb)
      have HR3 := Lib.hid (own_below HR.out hb)
      clear hb c0 c1 c2 hlt hb1 HB HR
      obtain ⟨c0, c1, c2, hlt, hb1⟩ := HB3.out
      obtain ⟨x7, y7, hm, hd⟩ := HX.out k hlk
      have hx := HG.out k hlk
      go_wp2_with fail
      refine (C2.out _).mono ?_
      rintro e w4 ⟨rfl, rfl⟩
      have hE : Hid (colW r (k % a) (k / a) = nearW (k % a) r) := rfl
      have HS := Lib.hid (take_one hx)
      clear hx
      generalize colW r (k % a) (k / a) = c at *
      generalize k % a = x at *
      generalize k / a = y at *
      have hkb : k ≤ 1000000000 := by omega
      obtain ⟨d, hdd⟩ : ∃ d : Nat, 7 - max (x - r) (r - x) = d := ⟨_, rfl⟩
      have hd7 : d ≤ 7 := by omega
      have C3 := Lib.hid (fun w => specFib d hd7 w)
      have hEd : nearW x r = fibN d := by unfold nearW; rw [hdd]
      rw [hEd] at hE
      have e5 : (7 : Int) - (7 - d) = d := by omega
      have e4 : (d : Int) - 7 ≤ 7 - d := by omega
      have d0 : (0 : Int) ≤ d := by omega
      have d7 : (d : Int) ≤ 7 := by omega
      have HBq := HB3
      have HRq := HR3
      by_cases h : x < r
      · have e1 : (x : Int) - r = d - 7 := by omega
        have e2 : -((d : Int) - 7) = 7 - d := by omega
        have e3 : ¬ (7 : Int) - d ≤ d - 7 := by omega
        clear hdd h hEd
        go_wp2_with fail
        refine (C3.out _).mono ?_
        rintro e w4 ⟨rfl, rfl⟩
        have HB5 := Lib.hid (HBq.out)
        have HR5 := Lib.hid (HRq.out)
        have hbz : w.heap.size + 1 ≤ w3.heap.size := HB5.out.2.2.2.1
        generalize w3 = w5 at *
        go_wp2_with (at_builtin; refine wpList_append_one rfl (.tmp 32) (.tmp 39) 24 rfl (w.heap.size + 1) 3 i0 (.int .i64 0) 8 Try.underlying24 hi hz0 hz1 hz2 rfl (by decide) _ _ _ rfl HR5.out rfl rfl hkb hbz ?_; intro g' cap' w6 hown' hgrow hb6)
        have HR6 : Hid (w6.ownsRow (w.heap.size + 1) 3 1 (.slice (some ⟨g', 0, none⟩) (k + 1) cap') (k + 1) (iv (xs.take (k + 1)))) := by unfold Hid; rw [HS.out, hE.out, iv_snoc]; exact hown'
        have HB6 := Lib.hid (Box.kept HB5.out hb6 (Nat.lt_succ_self _) (Nat.le_succ _))
        clear hown' hgrow hb6
        go_wp2_with fail
        go_roundw
        case rel => exact ⟨k + 1, _, by omega, by go_num, rfl, HR6, HB6⟩
        case measure => simp [intOf]; omega
      · have e1 : (x : Int) - r = 7 - d := by omega
        have e2 : -((7 : Int) - d) = d - 7 := by omega
        clear hdd h hEd
        go_wp2_with fail
        refine (C3.out _).mono ?_
        rintro e w4 ⟨rfl, rfl⟩
        have HB5 := Lib.hid (HBq.out)
        have HR5 := Lib.hid (HRq.out)
        have hbz : w.heap.size + 1 ≤ w3.heap.size := HB5.out.2.2.2.1
        generalize w3 = w5 at *
        go_wp2_with (at_builtin; refine wpList_append_one rfl (.tmp 32) (.tmp 39) 24 rfl (w.heap.size + 1) 3 i0 (.int .i64 0) 8 Try.underlying24 hi hz0 hz1 hz2 rfl (by decide) _ _ _ rfl HR5.out rfl rfl hkb hbz ?_; intro g' cap' w6 hown' hgrow hb6)
        have HR6 : Hid (w6.ownsRow (w.heap.size + 1) 3 1 (.slice (some ⟨g', 0, none⟩) (k + 1) cap') (k + 1) (iv (xs.take (k + 1)))) := by unfold Hid; rw [HS.out, hE.out, iv_snoc]; exact hown'
        have HB6 := Lib.hid (Box.kept HB5.out hb6 (Nat.lt_succ_self _) (Nat.le_succ _))
        clear hown' hgrow hb6
        go_wp2_with fail
        go_roundw
        case rel => exact ⟨k + 1, _, by omega, by go_num, rfl, HR6, HB6⟩
        case measure => simp [intOf]; omega
    · obtain rfl : k = N := by omega
      have hfull : xs.take k = xs := List.take_of_length_le (by rw [HLen.out]; exact Nat.le_refl _)
      rw [hfull] at HR
      have hp : Hid (OwnIv xs w (.returned v) wr) := ⟨_, rfl, by rw [HLen.out]; exact own_base HR.out (Nat.le_succ _), HB.out.2.2.2.2⟩
      clear HR
      go_wp2_with fail
      go_ret
      exact hp.out
set_option maxHeartbeats 1000000 in
set_option maxRecDepth 100000 in
theorem specRowW_no1 {W H Z : Int} (R : Int) (h : okB W H Z = false) (w : World) : Calls Try.prog 21 #[.agg #[.int .i64 W, .int .i64 H, .int .i64 Z], .int .i64 R] w (OwnIv [] w) := by
  have C1 := Lib.hid (specOk_no h)
  obtain ⟨p, hp⟩ : ∃ p, IntKind.i64.wrap (W * H) = p := ⟨_, rfl⟩
  have hp2 : wrap64 (W * H) = p := by rw [← hp]; exact (IntWalk.i64_left _).symm
  clear h
  go_enter Try.func21, Try.ntmps21
  go_wp2_with fail
  have B00 := Lib.hid (box_new W H Z w)
  have hS : (w.alloc (.cells #[.int .i64 W, .int .i64 H, .int .i64 Z] 26)).heap.size = w.heap.size + 1 := by simp
  generalize w.alloc (.cells #[.int .i64 W, .int .i64 H, .int .i64 Z] 26) = W1 at *
  have HL0 : Hid ((W1.alloc (.cells #[] 3)).ownsRow (w.heap.size + 1) 3 1 (.slice (some ⟨w.heap.size + 1, 0, none⟩) 0 0) 0 []) := by
    unfold Hid; rw [← hS]; exact World.ownsRow_made W1 #[] 0 (Nat.le_refl _) (by unfold maxLen; omega) rfl
  have B0 := Lib.hid (B00.out.later ((Below.refl _ _).alloc (Nat.le_refl _) (.cells #[] 3)))
  generalize W1.alloc (.cells #[] 3) = W2 at *
  clear B00 hS
  obtain ⟨c0, c1, c2, hlt, hb1⟩ := B0.out
  go_loopw [5, 6] (fun s i wr => i = .int .i64 0 ∧ s = .slice (some ⟨w.heap.size + 1, 0, none⟩) 0 0 ∧ wr = W2) (fun _ _ _ => 0)
  case atStart => exact ⟨rfl, rfl, rfl⟩
  case round =>
    obtain ⟨rfl, rfl, rfl⟩ := hrel
    by_cases h0 : 0 < p
    · go_wp2_with fail
      refine (C1.out _).mono ?_
      rintro e w3 ⟨rfl, hb⟩
      have hp : Hid (OwnIv [] w (.returned (.slice (some ⟨w.heap.size + 1, 0, none⟩) 0 0)) w3) := ⟨_, rfl, own_base (own_below HL0.out hb) (Nat.le_succ _), (B0.out.later hb).2.2.2.2⟩
      clear hb c0 c1 c2 hlt hb1 HL0
      go_wp2_with fail
      go_ret
      exact hp.out
    · have hp : Hid (OwnIv [] w (.returned (.slice (some ⟨w.heap.size + 1, 0, none⟩) 0 0)) wr) := ⟨_, rfl, own_base HL0.out (Nat.le_succ _), B0.out.2.2.2.2⟩
      clear hlt hb1 HL0
      go_wp2_with fail
      go_ret
      exact hp.out
set_option maxHeartbeats 1000000 in
set_option maxRecDepth 100000 in
theorem specRowW_no2 {W H : Int} {N z : Nat} (ho : Ok W H N z) (R : Int) (h : inB R 0 6 = false) (w : World) : Calls Try.prog 21 #[.agg #[.int .i64 W, .int .i64 H, .int .i64 z], .int .i64 R] w (OwnIv [] w) := by
  have C1 := Lib.hid (specOk_yes ho)
  have C2 := Lib.hid (fun w => specIn R 0 6 w)
  rw [h] at C2
  have hN := ho.wh
  have h49 := ho.n49
  have hn1 := ho.n1
  have h0 : (0 : Int) < (N : Int) := by omega
  clear h ho
  go_enter Try.func21, Try.ntmps21
  go_wp2_with fail
  have B00 := Lib.hid (box_new W H z w)
  have hS : (w.alloc (.cells #[.int .i64 W, .int .i64 H, .int .i64 (z : Int)] 26)).heap.size = w.heap.size + 1 := by simp
  generalize w.alloc (.cells #[.int .i64 W, .int .i64 H, .int .i64 (z : Int)] 26) = W1 at *
  have HL0 : Hid ((W1.alloc (.cells #[] 3)).ownsRow (w.heap.size + 1) 3 1 (.slice (some ⟨w.heap.size + 1, 0, none⟩) 0 0) 0 []) := by
    unfold Hid; rw [← hS]; exact World.ownsRow_made W1 #[] 0 (Nat.le_refl _) (by unfold maxLen; omega) rfl
  have B0 := Lib.hid (B00.out.later ((Below.refl _ _).alloc (Nat.le_refl _) (.cells #[] 3)))
  generalize W1.alloc (.cells #[] 3) = W2 at *
  clear B00 hS
  obtain ⟨c0, c1, c2, hlt, hb1⟩ := B0.out
  go_loopw [5, 6] (fun s i wr => i = .int .i64 0 ∧ s = .slice (some ⟨w.heap.size + 1, 0, none⟩) 0 0 ∧ wr = W2) (fun _ _ _ => 0)
  case atStart => exact ⟨rfl, rfl, rfl⟩
  case round =>
    obtain ⟨rfl, rfl, rfl⟩ := hrel
    go_wp2_with fail
    refine (C1.out _).mono ?_
    rintro e w3 ⟨rfl, hb⟩
    have hp : Hid (OwnIv [] w (.returned (.slice (some ⟨w.heap.size + 1, 0, none⟩) 0 0)) w3) := ⟨_, rfl, own_base (own_below HL0.out hb) (Nat.le_succ _), (B0.out.later hb).2.2.2.2⟩
    clear hb c0 c1 c2 hlt hb1 HL0
    go_wp2_with fail
    refine (C2.out _).mono ?_
    rintro e w4 ⟨rfl, rfl⟩
    go_wp2_with fail
    go_ret
    exact hp.out
set_option maxHeartbeats 2000000 in
set_option maxRecDepth 100000 in
theorem specRowW_yes {a b N z r : Nat} (ho : Ok (a : Int) (b : Int) N z) (hr : r ≤ 6) (w : World) : Calls Try.prog 21 #[.agg #[.int .i64 a, .int .i64 b, .int .i64 z], .int .i64 r] w (OwnIv (gridL a N (rowW r)) w) := by
  obtain ⟨i0, hi, hz0, hz1, hz2⟩ : ∃ i, Try.prog.info? 3 = some i ∧ i.zero = some (.int .i64 0) ∧ i.size = 1 ∧ i.bytes = 8 := ⟨_, by rfl, by rfl, by rfl, by rfl⟩
  have C1 := Lib.hid (specOk_yes ho)
  have C2 := Lib.hid (fun w => specIn r 0 6 w)
  rw [show inB (r : Int) 0 6 = true by simp [inB]; omega] at C2
  have hN := ho.wh
  have h49 := ho.n49
  obtain ⟨hNn, ha0, ha7, hb0, hb7, -⟩ := ho.nat
  have HG := Lib.hid (fun k (hk : k < N) => gridL_get (a := a) (rowW r) hk)
  have HLen : Hid ((gridL a N (rowW r)).length = N) := gridL_len a N _
  have HX : Hid (∀ k, k < N → k % a < 7 ∧ k / a < 7 ∧ (k : Int).tmod a = ((k % a : Nat) : Int) ∧ (k : Int).tdiv a = ((k / a : Nat) : Int)) := fun k hk => ⟨by have := Nat.mod_lt k ha0; omega, by
    have : k / a < b := by rw [Nat.div_lt_iff_lt_mul ha0, Nat.mul_comm, hNn]; exact hk
    omega, by rw [Int.tmod_eq_emod_of_nonneg (by omega)]; simp, by rw [Int.tdiv_eq_ediv_of_nonneg (by omega)]; simp⟩
  have q0 : ((a : Int) == 0) = false := by simp; omega
  have a7 : (a : Int) ≤ 7 := by omega
  generalize gridL a N (rowW r) = xs at *
  clear ho hNn
  go_enter Try.func21, Try.ntmps21
  go_wp2_with fail
  have B00 := Lib.hid (box_new a b z w)
  have hS : (w.alloc (.cells #[.int .i64 a, .int .i64 b, .int .i64 (z : Int)] 26)).heap.size = w.heap.size + 1 := by simp
  generalize w.alloc (.cells #[.int .i64 a, .int .i64 b, .int .i64 (z : Int)] 26) = W1 at *
  have HL0 : Hid ((W1.alloc (.cells #[] 3)).ownsRow (w.heap.size + 1) 3 1 (.slice (some ⟨w.heap.size + 1, 0, none⟩) 0 0) 0 (iv (xs.take 0))) := by
    unfold Hid; rw [← hS]; exact World.ownsRow_made W1 #[] 0 (Nat.le_refl _) (by unfold maxLen; omega) rfl
  have B0 := Lib.hid (B00.out.later ((Below.refl _ _).alloc (Nat.le_refl _) (.cells #[] 3)))
  generalize W1.alloc (.cells #[] 3) = W2 at *
  clear B00 hS
  go_loopw [5, 6] (fun s i wr => ∃ (k : Nat) (v : Value), k ≤ N ∧ i = .int .i64 k ∧ v = s ∧ Hid (wr.ownsRow (w.heap.size + 1) 3 1 v k (iv (xs.take k))) ∧ Hid (Box w.heap.size a b z w wr)) (fun _ i _ => N - (intOf i).toNat)
  case atStart => exact ⟨0, _, Nat.zero_le _, rfl, rfl, HL0, B0⟩
  case round =>
    clear HL0 B0
    obtain ⟨k, v, hk, rfl, rfl, HR, HB⟩ := hrel
    obtain ⟨c0, c1, c2, hlt, hb1⟩ := HB.out
    by_cases hlk : k < N
    · have k0 : (0 : Int) ≤ (k : Int) := by omega
      have k1 : (k : Int) < (N : Int) := by omega
      go_wp2_with fail
      refine (C1.out _).mono ?_
      rintro e w3 ⟨rfl, hb⟩
      have HB3 := Lib.hid (HB.out.later hb)
      have HR3 := Lib.hid (own_below HR.out hb)
      clear hb c0 c1 c2 hlt hb1 HB HR
      obtain ⟨c0, c1, c2, hlt, hb1⟩ := HB3.out
      obtain ⟨x7, y7, hm, hd⟩ := HX.out k hlk
      have hx := HG.out k hlk
      go_wp2_with fail
      refine (C2.out _).mono ?_
      rintro e w4 ⟨rfl, rfl⟩
      have hE : Hid (rowW r (k % a) (k / a) = nearW (k / a) r) := rfl
      have HS := Lib.hid (take_one hx)
      clear hx
      generalize rowW r (k % a) (k / a) = c at *
      generalize k % a = x at *
      generalize k / a = y at *
      have hkb : k ≤ 1000000000 := by omega
      obtain ⟨d, hdd⟩ : ∃ d : Nat, 7 - max (y - r) (r - y) = d := ⟨_, rfl⟩
      have hd7 : d ≤ 7 := by omega
      have C3 := Lib.hid (fun w => specFib d hd7 w)
      have hEd : nearW y r = fibN d := by unfold nearW; rw [hdd]
      rw [hEd] at hE
      have e5 : (7 : Int) - (7 - d) = d := by omega
      have e4 : (d : Int) - 7 ≤ 7 - d := by omega
      have d0 : (0 : Int) ≤ d := by omega
      have d7 : (d : Int) ≤ 7 := by omega
      have HBq := HB3
      have HRq := HR3
      by_cases h : y < r
      · have e1 : (y : Int) - r = d - 7 := by omega
        have e2 : -((d : Int) - 7) = 7 - d := by omega
        have e3 : ¬ (7 : Int) - d ≤ d - 7 := by omega
        clear hdd h hEd
        go_wp2_with fail
        refine (C3.out _).mono ?_
        rintro e w4 ⟨rfl, rfl⟩
        have HB5 := Lib.hid (HBq.out)
        have HR5 := Lib.hid (HRq.out)
        have hbz : w.heap.size + 1 ≤ w3.heap.size := HB5.out.2.2.2.1
        generalize w3 = w5 at *
        go_wp2_with (at_builtin; refine wpList_append_one rfl (.tmp 32) (.tmp 39) 24 rfl (w.heap.size + 1) 3 i0 (.int .i64 0) 8 Try.underlying24 hi hz0 hz1 hz2 rfl (by decide) _ _ _ rfl HR5.out rfl rfl hkb hbz ?_; intro g' cap' w6 hown' hgrow hb6)
        have HR6 : Hid (w6.ownsRow (w.heap.size + 1) 3 1 (.slice (some ⟨g', 0, none⟩) (k + 1) cap') (k + 1) (iv (xs.take (k + 1)))) := by unfold Hid; rw [HS.out, hE.out, iv_snoc]; exact hown'
        have HB6 := Lib.hid (Box.kept HB5.out hb6 (Nat.lt_succ_self _) (Nat.le_succ _))
        clear hown' hgrow hb6
        go_wp2_with fail
        go_roundw
        case rel => exact ⟨k + 1, _, by omega, by go_num, rfl, HR6, HB6⟩
        case measure => simp [intOf]; omega
      · have e1 : (y : Int) - r = 7 - d := by omega
        have e2 : -((7 : Int) - d) = d - 7 := by omega
        clear hdd h hEd
        go_wp2_with fail
        refine (C3.out _).mono ?_
        rintro e w4 ⟨rfl, rfl⟩
        have HB5 := Lib.hid (HBq.out)
        have HR5 := Lib.hid (HRq.out)
        have hbz : w.heap.size + 1 ≤ w3.heap.size := HB5.out.2.2.2.1
        generalize w3 = w5 at *
        go_wp2_with (at_builtin; refine wpList_append_one rfl (.tmp 32) (.tmp 39) 24 rfl (w.heap.size + 1) 3 i0 (.int .i64 0) 8 Try.underlying24 hi hz0 hz1 hz2 rfl (by decide) _ _ _ rfl HR5.out rfl rfl hkb hbz ?_; intro g' cap' w6 hown' hgrow hb6)
        have HR6 : Hid (w6.ownsRow (w.heap.size + 1) 3 1 (.slice (some ⟨g', 0, none⟩) (k + 1) cap') (k + 1) (iv (xs.take (k + 1)))) := by unfold Hid; rw [HS.out, hE.out, iv_snoc]; exact hown'
        have HB6 := Lib.hid (Box.kept HB5.out hb6 (Nat.lt_succ_self _) (Nat.le_succ _))
        clear hown' hgrow hb6
        go_wp2_with fail
        go_roundw
        case rel => exact ⟨k + 1, _, by omega, by go_num, rfl, HR6, HB6⟩
        case measure => simp [intOf]; omega
    · obtain rfl : k = N := by omega
      have hfull : xs.take k = xs := List.take_of_length_le (by rw [HLen.out]; exact Nat.le_refl _)
      rw [hfull] at HR
      have hp : Hid (OwnIv xs w (.returned v) wr) := ⟨_, rfl, by rw [HLen.out]; exact own_base HR.out (Nat.le_succ _), HB.out.2.2.2.2⟩
      clear HR
      go_wp2_with fail
      go_ret
      exact hp.out
theorem specClassW (W H Z R : Int) (w : World) : Calls Try.prog 13 #[.agg #[.int .i64 W, .int .i64 H, .int .i64 Z], .int .i64 R] w (OwnIv (overL W H Z R 2 clsW) w) := by
  cases hok : okB W H Z
  · rw [overL_no1 hok]; exact specClassW_no1 R hok w
  · obtain ⟨N, z, rfl, ho⟩ := ok_of hok
    cases hin : inB R 0 (2 : Nat)
    · rw [overL_no2 hin]; exact specClassW_no2 ho R hin w
    · obtain ⟨a, rfl⟩ := Int.eq_ofNat_of_zero_le (show 0 ≤ W by have := ho.w1; omega)
      obtain ⟨b, rfl⟩ := Int.eq_ofNat_of_zero_le (show 0 ≤ H by have := ho.h1; omega)
      obtain ⟨r, rfl, hr⟩ := in_nat hin
      rw [overL_yes ho hr]; exact specClassW_yes ho hr w
theorem specColumnW (W H Z R : Int) (w : World) : Calls Try.prog 19 #[.agg #[.int .i64 W, .int .i64 H, .int .i64 Z], .int .i64 R] w (OwnIv (overL W H Z R 6 colW) w) := by
  cases hok : okB W H Z
  · rw [overL_no1 hok]; exact specColumnW_no1 R hok w
  · obtain ⟨N, z, rfl, ho⟩ := ok_of hok
    cases hin : inB R 0 (6 : Nat)
    · rw [overL_no2 hin]; exact specColumnW_no2 ho R hin w
    · obtain ⟨a, rfl⟩ := Int.eq_ofNat_of_zero_le (show 0 ≤ W by have := ho.w1; omega)
      obtain ⟨b, rfl⟩ := Int.eq_ofNat_of_zero_le (show 0 ≤ H by have := ho.h1; omega)
      obtain ⟨r, rfl, hr⟩ := in_nat hin
      rw [overL_yes ho hr]; exact specColumnW_yes ho hr w
theorem specRowW (W H Z R : Int) (w : World) : Calls Try.prog 21 #[.agg #[.int .i64 W, .int .i64 H, .int .i64 Z], .int .i64 R] w (OwnIv (overL W H Z R 6 rowW) w) := by
  cases hok : okB W H Z
  · rw [overL_no1 hok]; exact specRowW_no1 R hok w
  · obtain ⟨N, z, rfl, ho⟩ := ok_of hok
    cases hin : inB R 0 (6 : Nat)
    · rw [overL_no2 hin]; exact specRowW_no2 ho R hin w
    · obtain ⟨a, rfl⟩ := Int.eq_ofNat_of_zero_le (show 0 ≤ W by have := ho.w1; omega)
      obtain ⟨b, rfl⟩ := Int.eq_ofNat_of_zero_le (show 0 ≤ H by have := ho.h1; omega)
      obtain ⟨r, rfl, hr⟩ := in_nat hin
      rw [overL_yes ho hr]; exact specRowW_yes ho hr w
end Go.Proofs.Ytkaabjklfhoooaa
