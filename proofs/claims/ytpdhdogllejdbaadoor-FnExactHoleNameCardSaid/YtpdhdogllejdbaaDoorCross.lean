/- CrossBoard of the program. -/
import Derived.Test.YtpdhdogllejdbaaDoorRect
namespace Go.Proofs.YtpdhdogllejdbaaDoor
open Go.RowKit
set_option maxRecDepth 100000 in
theorem implArm (n : Int) (w : World) : Calls Tryd.prog 30 #[.int .i64 n] w fun e w' => e = .returned (.bool (inB n 2 4)) ∧ w = w' := by
  by_cases h1 : 2 ≤ n <;> by_cases h2 : n ≤ 4
  all_goals
    go_enter Tryd.func30, Tryd.ntmps30
    go_wp2
    go_ret
    refine ⟨ret_bool ?_, rfl⟩
    simp [inB, h1, h2]
set_option maxRecDepth 100000 in
theorem implPlace (W H Z : Int) (k : Nat) (w : World) (h1 : 1 ≤ W) (h7 : W ≤ 7) (hk : k ≤ 1000) : Calls Tryd.prog 25 #[.agg #[.int .i64 W, .int .i64 H, .int .i64 Z], .int .i64 k] w fun e w' => e = .returned (.tuple #[.int .i64 ((k : Int) % W), .int .i64 ((k : Int) / W)]) ∧ Below w.heap.size w w' := by
  have q0 : (W == 0) = false := by simp; omega
  have q1 : 0 ≤ (k : Int) % W := Int.emod_nonneg _ (by omega)
  have q2 : (k : Int) % W < W := Int.emod_lt_of_pos _ (by omega)
  have q3 : 0 ≤ (k : Int) / W := Int.ediv_nonneg (by omega) (by omega)
  have q4 : (k : Int) / W ≤ k := Int.ediv_le_self _ (by omega)
  have q5 : ((k : Int)).tmod W = (k : Int) % W := Int.tmod_eq_emod_of_nonneg (by omega)
  have q6 : ((k : Int)).tdiv W = (k : Int) / W := Int.tdiv_eq_ediv_of_nonneg (by omega)
  go_enter Tryd.func25, Tryd.ntmps25
  go_wp2_with fail
  go_quiet (fail)
  go_wp2_with fail
  go_ret2
  exact ⟨rfl, below_drewN _ ((Below.refl _ _).alloc (Nat.le_refl _) _)⟩
theorem armB_eq (k : Nat) : armB k = (inB ((k : Int) % 7) 2 4 || inB ((k : Int) / 7) 2 4) := by
  rw [Bool.eq_iff_iff]
  simp only [armB, inB, Bool.or_eq_true, Bool.and_eq_true, decide_eq_true_eq]
  omega
set_option maxHeartbeats 1000000 in
set_option maxRecDepth 100000 in
theorem implCross (w : World) : Calls Tryd.prog 15 #[] w (CrossPost w) := by
  have C1 := Lib.hid (fun Z w => implSize 7 7 Z w 49 (by omega) (by omega))
  have C2 := Lib.hid (fun Z k w (hk : k ≤ 1000) => implPlace 7 7 Z k w (by omega) (by omega) hk)
  have C3 := Lib.hid (fun n w => implArm n w)
  go_enter Tryd.func15, Tryd.ntmps15
  go_wp2_with fail
  have hA : zero3 (w.alloc (.cells #[.int .i64 0, .int .i64 0, .int .i64 0] 25)) w.heap.size := heap_alloc_new w _
  have hS : (w.alloc (.cells #[.int .i64 0, .int .i64 0, .int .i64 0] 25)).heap.size = w.heap.size + 1 := by simp
  have hB : Below w.heap.size w (w.alloc (.cells #[.int .i64 0, .int .i64 0, .int .i64 0] 25)) := (Below.refl _ _).alloc (Nat.le_refl _) _
  generalize w.alloc (.cells #[.int .i64 0, .int .i64 0, .int .i64 0] 25) = W1 at *
  have hA2 : zero3 (W1.alloc (.cells #[.int .i64 7, .int .i64 7, .int .i64 0] 25)) w.heap.size := row_alloc hA
  have hC : at7 (W1.alloc (.cells #[.int .i64 7, .int .i64 7, .int .i64 0] 25)) W1.heap.size 0 := heap_alloc_new W1 _
  rw [hS] at hC
  have hS2 : (W1.alloc (.cells #[.int .i64 7, .int .i64 7, .int .i64 0] 25)).heap.size = w.heap.size + 2 := by simp [hS]
  have hB2 : Below w.heap.size w (W1.alloc (.cells #[.int .i64 7, .int .i64 7, .int .i64 0] 25)) := hB.alloc (by omega) _
  generalize W1.alloc (.cells #[.int .i64 7, .int .i64 7, .int .i64 0] 25) = W2 at *
  refine (C1.out _ _).mono ?_
  rintro e w3 ⟨rfl, hb3⟩
  have hA3 : zero3 w3 w.heap.size := row_later hA2 hb3 (by omega)
  have hC3 : at7 w3 (w.heap.size + 1) 0 := row_later hC hb3 (by omega)
  have hB3 := hB2.trans (hb3.mono (by omega))
  have hS3 : w.heap.size + 2 ≤ w3.heap.size := by have := hb3.size; omega
  clear hA hS hB hA2 hC hS2 hB2 hb3
  go_wp2_with fail
  go_loopw [8] (fun i wr => ∃ (k : Nat), k ≤ 49 ∧ i = .int .i64 k ∧ Hid (zero3 wr w.heap.size) ∧ Hid (at7 wr (w.heap.size + 1) k) ∧ Below w.heap.size w wr ∧ w.heap.size + 2 ≤ wr.heap.size) (fun i _ => 49 - (intOf i).toNat)
  case atStart => exact ⟨0, by omega, rfl, hA3, hC3, hB3, hS3⟩
  case round =>
    obtain ⟨k, hk, rfl, hz, h7, hb, hsz⟩ := hrel
    obtain ⟨a0, a1, a2, f0, f1, f2⟩ := row_facts hz.out
    obtain ⟨c0, c1, c2, g0, g1, g2⟩ := row_facts h7.out
    by_cases hlt : k < 49
    · have HA := Lib.hid (armB_eq k)
      go_wp2_with fail
      refine (C2.out _ k _ (by omega)).mono ?_
      rintro e w4 ⟨rfl, hb4⟩
      have hz4 : Hid (zero3 w4 w.heap.size) := row_later hz.out hb4 (by omega)
      have h74 : Hid (at7 w4 (w.heap.size + 1) k) := row_later h7.out hb4 (by omega)
      have hb5 := hb.trans (hb4.mono hb.size)
      have hsz5 : w.heap.size + 2 ≤ w4.heap.size := by have := hb4.size; omega
      clear a0 a1 a2 f0 f1 f2 c0 c1 c2 g0 g1 g2 hz h7 hb4 hb hsz
      obtain ⟨a0, a1, a2, f0, f1, f2⟩ := row_facts hz4.out
      obtain ⟨c0, c1, c2, g0, g1, g2⟩ := row_facts h74.out
      obtain ⟨p1, p2⟩ := pow_le49 (Nat.le_of_lt hlt)
      go_wp2_with fail
      refine (C3.out _ _).mono ?_
      rintro e w5 ⟨rfl, rfl⟩
      cases hx : inB ((k : Int) % 7) 2 4
      · go_wp2_with fail
        refine (C3.out _ _).mono ?_
        rintro e w5 ⟨rfl, rfl⟩
        cases hy : inB ((k : Int) / 7) 2 4
        · have ha : armB k = false := by rw [HA.out, hx, hy]; rfl
          have h7' : Hid (at7 w4 (w.heap.size + 1) (k + 1)) := by unfold Hid at7; rw [cross_no k ha]; exact h74.out
          clear ha hx hy a0 a1 a2 f0 f1 f2 c0 c1 c2 g0 g1 g2
          go_wp2_with fail
          go_roundw
          case rel => exact ⟨k + 1, by omega, by go_num, hz4, h7', hb5, hsz5⟩
          case measure => simp [intOf]; omega
        · have ha : armB k = true := by rw [HA.out, hx, hy]; rfl
          have hor := cross_or ⟨k, hlt⟩ ha
          simp only at hor
          clear ha hx hy
          go_wp2_with fail
          go_region
          all_goals
            clear hor
            have hz' : Hid (zero3 (w4.setCell ⟨w.heap.size + 1, 2, none⟩ (.int .i64 (crossN (k + 1)))).drew w.heap.size) := (heap_setCell_other w4 ⟨w.heap.size + 1, 2, none⟩ w.heap.size _ (by simp)).trans hz4.out
            have h7' : Hid (at7 (w4.setCell ⟨w.heap.size + 1, 2, none⟩ (.int .i64 (crossN (k + 1)))).drew (w.heap.size + 1) (k + 1)) := at7_set h74.out
            have hb' := (set_below hb5 (Nat.le_succ w.heap.size) : Below w.heap.size w (w4.setCell ⟨w.heap.size + 1, 2, none⟩ (.int .i64 (crossN (k + 1))))).drew
            have hsz' : w.heap.size + 2 ≤ (w4.setCell ⟨w.heap.size + 1, 2, none⟩ (.int .i64 (crossN (k + 1)))).drew.heap.size := by show _ ≤ (w4.setCell _ _).heap.size; simpa using hsz5
            clear a0 a1 a2 f0 f1 f2 c0 c1 c2 g0 g1 g2
            go_wp2_with fail
            go_roundw
            case rel => exact ⟨k + 1, by omega, by go_num, hz', h7', hb', hsz'⟩
            case measure => simp [intOf]; omega
      · have ha : armB k = true := by rw [HA.out, hx]; rfl
        have hor := cross_or ⟨k, hlt⟩ ha
        simp only at hor
        clear ha hx
        go_wp2_with fail
        go_region
        all_goals
          clear hor
          have hz' : Hid (zero3 (w4.setCell ⟨w.heap.size + 1, 2, none⟩ (.int .i64 (crossN (k + 1)))).drew w.heap.size) := (heap_setCell_other w4 ⟨w.heap.size + 1, 2, none⟩ w.heap.size _ (by simp)).trans hz4.out
          have h7' : Hid (at7 (w4.setCell ⟨w.heap.size + 1, 2, none⟩ (.int .i64 (crossN (k + 1)))).drew (w.heap.size + 1) (k + 1)) := at7_set h74.out
          have hb' := (set_below hb5 (Nat.le_succ w.heap.size) : Below w.heap.size w (w4.setCell ⟨w.heap.size + 1, 2, none⟩ (.int .i64 (crossN (k + 1))))).drew
          have hsz' : w.heap.size + 2 ≤ (w4.setCell ⟨w.heap.size + 1, 2, none⟩ (.int .i64 (crossN (k + 1)))).drew.heap.size := by show _ ≤ (w4.setCell _ _).heap.size; simpa using hsz5
          clear a0 a1 a2 f0 f1 f2 c0 c1 c2 g0 g1 g2
          go_wp2_with fail
          go_roundw
          case rel => exact ⟨k + 1, by omega, by go_num, hz', h7', hb', hsz'⟩
          case measure => simp [intOf]; omega
    · obtain rfl : k = 49 := by omega
      go_wp2_with fail
      exact bodyPost_ret (v := bd 7 7 (crossN 49)) (by simp [results, Tryd.results15, go_sem, bd, a0, a1, a2]) rfl ⟨rfl, set_below (set_below (set_below hb (Nat.le_refl _)) (Nat.le_refl _)) (Nat.le_refl _)⟩
end Go.Proofs.YtpdhdogllejdbaaDoor
