/- StepsBetween of both, for every board and every two ints. -/
import Derived.Test.YtllfgdcplbfdhaaGreatStepMath
import Derived.Test.YtllfgdcplbfdhaaGreatBoards
import Derived.Test.YtllfgdcplbfdhaaGreatLinesAll
namespace Go.Proofs.YtllfgdcplbfdhaaGreat
open Go.RowKit
set_option linter.unusedVariables false
set_option linter.unusedSimpArgs false
theorem implIdx {W H Z : Int} {N : Nat} (hN : W * H = N) (h49 : N ≤ 49) (K : Int) (w : World) : Calls Tryz.prog 71 #[.agg #[.int .i64 W, .int .i64 H, .int .i64 Z], .int .i64 K] w (QB (idxB W H K) w) := by
  by_cases h0 : K < 0
  · rw [show idxB W H K = false by unfold idxB; simp only [inB, Bool.and_eq_false_iff, decide_eq_false_iff_not]; omega]
    exact implIdx_neg W H Z h0 w
  · refine implIdx_nat Z hN h49 K (by omega) _ ?_ w
    unfold idxB inB
    rw [hN, decide_eq_true (by omega : (0 : Int) ≤ K), Bool.true_and]
    congr 1
    exact propext ⟨fun h => by omega, fun h => by omega⟩
theorem implIdx_is {W H Z K : Int} {b : Bool} (ho : okB W H Z = true) (h : idxB W H K = b) (w : World) : Calls Tryz.prog 71 #[.agg #[.int .i64 W, .int .i64 H, .int .i64 Z], .int .i64 K] w (QB b w) := by
  obtain ⟨N, z, rfl, hk⟩ := ok_of ho
  rw [← h]; exact implIdx hk.wh hk.n49 K w
theorem implOk_is {W H Z : Int} {b : Bool} (h : okB W H Z = b) (w : World) : Calls Tryz.prog 47 #[.agg #[.int .i64 W, .int .i64 H, .int .i64 Z]] w (QB b w) := by rw [← h]; exact implOk W H Z w
theorem specOk_is {W H Z : Int} {b : Bool} (h : okB W H Z = b) (w : World) : Calls Tryz.prog 38 #[.agg #[.int .i64 W, .int .i64 H, .int .i64 Z]] w (QB b w) := by rw [← h]; exact specOk W H Z w
set_option maxHeartbeats 1000000 in
set_option maxRecDepth 100000 in
theorem implSteps (W H Z J K : Int) (w : World) : Calls Tryz.prog 28 #[.agg #[.int .i64 W, .int .i64 H, .int .i64 Z], .int .i64 J, .int .i64 K] w (QI (stepsB W H Z J K) w) := by
  cases h : okB W H Z
  · have C1 := Lib.hid (fun w => implOk_is h w)
    rw [steps_no1 J K h]
    clear h
    go_enter Tryz.func28, Tryz.ntmps28
    go_wp2_with fail
    have B0 := Lib.hid (box_new W H Z w)
    generalize w.alloc (.cells #[.int .i64 W, .int .i64 H, .int .i64 Z] 25) = W1 at *
    obtain ⟨c0, c1, c2, hlt, hb1⟩ := B0.out
    go_wp2_with fail
    refine (C1.out _).mono ?_
    rintro e w1 ⟨rfl, hb⟩
    have B1 := Lib.hid (B0.out.later hb)
    clear hb B0 c0 c1 c2 hlt hb1
    go_wp2_with fail
    go_ret
    exact ⟨rfl, B1.out.2.2.2.2⟩
  · have C1 := Lib.hid (fun w => implOk_is h w)
    cases hj : idxB W H J
    · have C2 := Lib.hid (fun w => implIdx_is h hj w)
      rw [steps_no2 K hj]
      clear h hj
      go_enter Tryz.func28, Tryz.ntmps28
      go_wp2_with fail
      have B0 := Lib.hid (box_new W H Z w)
      generalize w.alloc (.cells #[.int .i64 W, .int .i64 H, .int .i64 Z] 25) = W1 at *
      obtain ⟨c0, c1, c2, hlt, hb1⟩ := B0.out
      go_wp2_with fail
      refine (C1.out _).mono ?_
      rintro e w1 ⟨rfl, hb⟩
      have B1 := Lib.hid (B0.out.later hb)
      clear hb B0 c0 c1 c2 hlt hb1
      obtain ⟨c0, c1, c2, hlt, hb1⟩ := B1.out
      go_wp2_with fail
      refine (C2.out _).mono ?_
      rintro e w2 ⟨rfl, hb⟩
      have B2 := Lib.hid (B1.out.later hb)
      clear hb B1 c0 c1 c2 hlt hb1
      go_wp2_with fail
      go_ret
      exact ⟨rfl, B2.out.2.2.2.2⟩
    · have C2 := Lib.hid (fun w => implIdx_is h hj w)
      cases hk : idxB W H K
      · have C3 := Lib.hid (fun w => implIdx_is h hk w)
        rw [steps_no3 J hk]
        clear h hj hk
        go_enter Tryz.func28, Tryz.ntmps28
        go_wp2_with fail
        have B0 := Lib.hid (box_new W H Z w)
        generalize w.alloc (.cells #[.int .i64 W, .int .i64 H, .int .i64 Z] 25) = W1 at *
        obtain ⟨c0, c1, c2, hlt, hb1⟩ := B0.out
        go_wp2_with fail
        refine (C1.out _).mono ?_
        rintro e w1 ⟨rfl, hb⟩
        have B1 := Lib.hid (B0.out.later hb)
        clear hb B0 c0 c1 c2 hlt hb1
        obtain ⟨c0, c1, c2, hlt, hb1⟩ := B1.out
        go_wp2_with fail
        refine (C2.out _).mono ?_
        rintro e w2 ⟨rfl, hb⟩
        have B2 := Lib.hid (B1.out.later hb)
        clear hb B1 c0 c1 c2 hlt hb1
        obtain ⟨c0, c1, c2, hlt, hb1⟩ := B2.out
        go_wp2_with fail
        refine (C3.out _).mono ?_
        rintro e w3 ⟨rfl, hb⟩
        have B3 := Lib.hid (B2.out.later hb)
        clear hb B2 c0 c1 c2 hlt hb1
        go_wp2_with fail
        go_ret
        exact ⟨rfl, B3.out.2.2.2.2⟩
      · have C3 := Lib.hid (fun w => implIdx_is h hk w)
        obtain ⟨a, b, N, z, rfl, rfl, rfl, ho, hN, ha, ha7, hb7⟩ := okAB h
        obtain ⟨j, rfl, hj'⟩ := idx_nat ho.wh hj
        obtain ⟨k, rfl, hk'⟩ := idx_nat ho.wh hk
        have P1 := Lib.hid (fun w => implPlaceN ho (k := j) (by rw [hN]; exact hj') w)
        have P2 := Lib.hid (fun w => implPlaceN ho (k := k) (by rw [hN]; exact hk') w)
        have HE := Lib.hid (steps_yes ho hj' hk')
        have x1 := Nat.mod_lt j ha
        have x2 := Nat.mod_lt k ha
        have y1 := div_at (b := b) ha (by rw [hN]; exact hj')
        have y2 := div_at (b := b) ha (by rw [hN]; exact hk')
        unfold stepsN at HE
        generalize j % a = jx at *
        generalize j / a = jy at *
        generalize k % a = kx at *
        generalize k / a = ky at *
        have M1 := Lib.hid (fun w => implMagn ((kx : Int) - (jx : Int)) (by omega) w)
        have M2 := Lib.hid (fun w => implMagn ((ky : Int) - (jy : Int)) (by omega) w)
        rw [show ((((kx : Int) - (jx : Int)).natAbs : Nat) : Int) = (absD jx kx : Nat) by rw [absD_comm]; rfl] at M1
        rw [show ((((ky : Int) - (jy : Int)).natAbs : Nat) : Int) = (absD jy ky : Nat) by rw [absD_comm]; rfl] at M2
        have q1 := absD_le (x := jx) (y := kx) (m := 6) (by omega) (by omega)
        have q2 := absD_le (x := jy) (y := ky) (m := 6) (by omega) (by omega)
        generalize absD jx kx = p at *
        generalize absD jy ky = q at *
        rw [HE.out]
        clear HE h hj hk ho hN hj' hk'
        go_enter Tryz.func28, Tryz.ntmps28
        go_wp2_with fail
        have B0 := Lib.hid (box_new a b z w)
        generalize w.alloc (.cells #[.int .i64 (a : Int), .int .i64 (b : Int), .int .i64 (z : Int)] 25) = W1 at *
        obtain ⟨c0, c1, c2, hlt, hb1⟩ := B0.out
        go_wp2_with fail
        refine (C1.out _).mono ?_
        rintro e w1 ⟨rfl, hb⟩
        have B1 := Lib.hid (B0.out.later hb)
        clear hb B0 c0 c1 c2 hlt hb1
        obtain ⟨c0, c1, c2, hlt, hb1⟩ := B1.out
        go_wp2_with fail
        refine (C2.out _).mono ?_
        rintro e w2 ⟨rfl, hb⟩
        have B2 := Lib.hid (B1.out.later hb)
        clear hb B1 c0 c1 c2 hlt hb1
        obtain ⟨c0, c1, c2, hlt, hb1⟩ := B2.out
        go_wp2_with fail
        refine (C3.out _).mono ?_
        rintro e w3 ⟨rfl, hb⟩
        have B3 := Lib.hid (B2.out.later hb)
        clear hb B2 c0 c1 c2 hlt hb1
        obtain ⟨c0, c1, c2, hlt, hb1⟩ := B3.out
        go_wp2_with fail
        refine (P1.out _).mono ?_
        rintro e w4 ⟨rfl, hb⟩
        have B4 := Lib.hid (B3.out.later hb)
        clear hb B3 c0 c1 c2 hlt hb1
        obtain ⟨c0, c1, c2, hlt, hb1⟩ := B4.out
        go_wp2_with fail
        refine (P2.out _).mono ?_
        rintro e w5 ⟨rfl, hb⟩
        have B5 := Lib.hid (B4.out.later hb)
        clear hb B4 c0 c1 c2 hlt hb1
        go_wp2_with fail
        refine (M1.out _).mono ?_
        rintro e w6 ⟨rfl, rfl⟩
        go_wp2_with fail
        refine (M2.out _).mono ?_
        rintro e w7 ⟨rfl, rfl⟩
        go_wp2_with fail
        go_ret
        exact QI.of (by omega) B5.out.2.2.2.2
end Go.Proofs.YtllfgdcplbfdhaaGreat
