/- ClassWeights, ColumnWeights, RowWeights of the program. -/
import Derived.Test.YtkaabjklfhoooaaProofsA
namespace Go.Proofs.Ytkaabjklfhoooaa
open Go.RowKit
set_option linter.unusedVariables false
set_option linter.unusedSimpArgs false
/-- A board's box and behind it that of a number. -/
def BxR (W H Z R : Int) (w0 w : World) : Prop := Box w0.heap.size W H Z w0 w ∧ BoxI (w0.heap.size + 1) R w
theorem bxr_new (W H Z R : Int) (T T' : TypeId) (w : World) : BxR W H Z R w ((w.alloc (.cells #[.int .i64 W, .int .i64 H, .int .i64 Z] T)).alloc (.cells #[.int .i64 R] T')) := by
  have h1 := (box_newT T W H Z w).later ((Below.refl _ _).alloc (Nat.le_refl _) (.cells #[.int .i64 R] T'))
  refine ⟨h1, ?_, by simp⟩
  have h2 := heap_alloc_new (w.alloc (.cells #[.int .i64 W, .int .i64 H, .int .i64 Z] T)) (.cells #[.int .i64 R] T')
  rw [World.size_alloc] at h2
  rw [cell_of_row _ _ _ _ _ _ h2]
  rfl
theorem BxR.later {W H Z R : Int} {w0 w w' : World} (h : BxR W H Z R w0 w) (hb : Below w.heap.size w w') : BxR W H Z R w0 w' := ⟨h.1.later hb, h.2.later hb⟩
/-- The number is in its range. -/
theorem in_nat {R : Int} {m : Nat} (h : inB R 0 m = true) : ∃ r : Nat, R = r ∧ r ≤ m := by
  simp only [inB, Bool.and_eq_true, decide_eq_true_eq] at h
  obtain ⟨r, rfl⟩ := Int.eq_ofNat_of_zero_le h.1
  exact ⟨r, rfl, by omega⟩
theorem in_not {R : Int} {m : Nat} (h : inB R 0 m = false) : R < 0 ∨ (m : Int) < R := by
  have : ¬ (0 ≤ R ∧ R ≤ m) := fun hh => by simp [inB, hh] at h
  omega
set_option maxRecDepth 100000 in
theorem implPlaceOk (n : Int) (w : World) : Calls Try.prog 36 #[.int .i64 n] w fun e w' => e = .returned (.bool (inB n 0 6)) ∧ w = w' := by
  by_cases h1 : 0 ≤ n <;> by_cases h2 : n ≤ 6
  all_goals
    go_enter Try.func36, Try.ntmps36
    go_wp2
    go_ret
    refine ⟨ret_bool ?_, rfl⟩
    simp [inB, h1, h2] <;> omega
set_option maxHeartbeats 1000000 in
set_option maxRecDepth 100000 in
theorem implClassW (W H Z R : Int) (w : World) : Calls Try.prog 14 #[.agg #[.int .i64 W, .int .i64 H, .int .i64 Z], .int .i64 R] w (OwnIv (overL W H Z R 2 clsW) w) := by
  cases hok : okB W H Z
  · rw [overL_no1 hok]
    have C1 := Lib.hid (implOk_no hok)
    clear hok
    go_enter Try.func14, Try.ntmps14
    go_wp2_with fail
    have B0 := Lib.hid (bxr_new W H Z R 26 3 w)
    generalize (w.alloc (.cells #[.int .i64 W, .int .i64 H, .int .i64 Z] 26)).alloc (.cells #[.int .i64 R] 3) = W1 at *
    obtain ⟨⟨c0, c1, c2, hlt, hb1⟩, d0, -⟩ := B0.out
    go_wp2_with fail
    refine (C1.out _).mono ?_
    rintro e w1 ⟨rfl, hb⟩
    have B1 := Lib.hid (B0.out.later hb)
    clear c0 c1 c2 d0 hlt hb1 hb B0
    go_wp2_with fail
    go_ret
    exact ⟨_, rfl, World.ownsRow_nil _ _ _ _, B1.out.1.2.2.2.2⟩
  · obtain ⟨N, z, rfl, ho⟩ := ok_of hok
    have C1 := Lib.hid (implOk_yes ho)
    cases hin : inB R 0 (2 : Nat)
    · rw [overL_no2 hin]
      clear hok ho
      go_enter Try.func14, Try.ntmps14
      go_wp2_with fail
      have B0 := Lib.hid (bxr_new W H z R 26 3 w)
      generalize (w.alloc (.cells #[.int .i64 W, .int .i64 H, .int .i64 (z : Int)] 26)).alloc (.cells #[.int .i64 R] 3) = W1 at *
      obtain ⟨⟨c0, c1, c2, hlt, hb1⟩, d0, -⟩ := B0.out
      go_wp2_with fail
      refine (C1.out _).mono ?_
      rintro e w1 ⟨rfl, hb⟩
      have B1 := Lib.hid (B0.out.later hb)
      clear c0 c1 c2 d0 hlt hb1 hb B0
      obtain ⟨⟨c0, c1, c2, hlt, hb1⟩, d0, -⟩ := B1.out
      rcases in_not hin with h | h
      · clear hin
        go_wp2_with fail
        go_ret
        exact ⟨_, rfl, World.ownsRow_nil _ _ _ _, B1.out.1.2.2.2.2⟩
      · have h0 : ¬ R < 0 := by omega
        have h1 : ¬ R < 3 := by omega
        clear hin h
        go_wp2_with fail
        go_ret
        exact ⟨_, rfl, World.ownsRow_nil _ _ _ _, B1.out.1.2.2.2.2⟩
    · obtain ⟨a, rfl⟩ := Int.eq_ofNat_of_zero_le (show 0 ≤ W by have := ho.w1; omega)
      obtain ⟨b, rfl⟩ := Int.eq_ofNat_of_zero_le (show 0 ≤ H by have := ho.h1; omega)
      obtain ⟨r, rfl, hr⟩ := in_nat hin
      rw [overL_yes ho hr]
      have CB := Lib.hid (fun (g : Nat) (w : World) (hg : BoxI g r w) => implBy ho _ g (clsW r) w (.inl rfl) (fun x y w' hx hy hb => implCls x y r g hx hy (by omega) w' (hg.later hb)))
      have HE : Hid ((gridL a N (clsW r)).length = N) := gridL_len ..
      generalize gridL a N (clsW r) = xs at *
      have h0 : ¬ (r : Int) < 0 := by omega
      have h1 : (r : Int) < 3 := by omega
      clear hok ho hin hr
      go_enter Try.func14, Try.ntmps14
      go_wp2_with fail
      have B0 := Lib.hid (bxr_new a b z r 26 3 w)
      generalize (w.alloc (.cells #[.int .i64 a, .int .i64 b, .int .i64 (z : Int)] 26)).alloc (.cells #[.int .i64 (r : Int)] 3) = W1 at *
      obtain ⟨⟨c0, c1, c2, hlt, hb1⟩, d0, -⟩ := B0.out
      go_wp2_with fail
      refine (C1.out _).mono ?_
      rintro e w1 ⟨rfl, hb⟩
      have B1 := Lib.hid (B0.out.later hb)
      clear c0 c1 c2 d0 hlt hb1 hb B0
      obtain ⟨⟨c0, c1, c2, hlt, hb1⟩, d0, -⟩ := B1.out
      go_wp2_with fail
      refine (CB.out _ _ B1.out.2).mono ?_
      rintro e w2 ⟨v, rfl, hown, hb⟩
      have hp : Hid (OwnIv xs w (.returned v) w2) := ⟨v, rfl, own_base hown hb1.size, (B1.out.later hb).1.2.2.2.2⟩
      clear hown hb c0 c1 c2 d0 hlt hb1 B1
      go_wp2_with fail
      go_ret
      exact hp.out
set_option maxHeartbeats 1000000 in
set_option maxRecDepth 100000 in
theorem implColumnW (W H Z R : Int) (w : World) : Calls Try.prog 20 #[.agg #[.int .i64 W, .int .i64 H, .int .i64 Z], .int .i64 R] w (OwnIv (overL W H Z R 6 colW) w) := by
  cases hok : okB W H Z
  · rw [overL_no1 hok]
    have C1 := Lib.hid (implOk_no hok)
    clear hok
    go_enter Try.func20, Try.ntmps20
    go_wp2_with fail
    have B0 := Lib.hid (bxr_new W H Z R 26 3 w)
    generalize (w.alloc (.cells #[.int .i64 W, .int .i64 H, .int .i64 Z] 26)).alloc (.cells #[.int .i64 R] 3) = W1 at *
    obtain ⟨⟨c0, c1, c2, hlt, hb1⟩, d0, -⟩ := B0.out
    go_wp2_with fail
    refine (C1.out _).mono ?_
    rintro e w1 ⟨rfl, hb⟩
    have B1 := Lib.hid (B0.out.later hb)
    clear c0 c1 c2 d0 hlt hb1 hb B0
    go_wp2_with fail
    go_ret
    exact ⟨_, rfl, World.ownsRow_nil _ _ _ _, B1.out.1.2.2.2.2⟩
  · obtain ⟨N, z, rfl, ho⟩ := ok_of hok
    have C1 := Lib.hid (implOk_yes ho)
    have C2 := Lib.hid (fun w => implPlaceOk R w)
    cases hin : inB R 0 (6 : Nat)
    · rw [overL_no2 hin]
      rw [show inB R 0 6 = false from hin] at C2
      clear hok ho hin
      go_enter Try.func20, Try.ntmps20
      go_wp2_with fail
      have B0 := Lib.hid (bxr_new W H z R 26 3 w)
      generalize (w.alloc (.cells #[.int .i64 W, .int .i64 H, .int .i64 (z : Int)] 26)).alloc (.cells #[.int .i64 R] 3) = W1 at *
      obtain ⟨⟨c0, c1, c2, hlt, hb1⟩, d0, -⟩ := B0.out
      go_wp2_with fail
      refine (C1.out _).mono ?_
      rintro e w1 ⟨rfl, hb⟩
      have B1 := Lib.hid (B0.out.later hb)
      clear c0 c1 c2 d0 hlt hb1 hb B0
      obtain ⟨⟨c0, c1, c2, hlt, hb1⟩, d0, -⟩ := B1.out
      go_wp2_with fail
      refine (C2.out _).mono ?_
      rintro e w2 ⟨rfl, rfl⟩
      go_wp2_with fail
      go_ret
      exact ⟨_, rfl, World.ownsRow_nil _ _ _ _, B1.out.1.2.2.2.2⟩
    · rw [show inB R 0 6 = true from hin] at C2
      obtain ⟨a, rfl⟩ := Int.eq_ofNat_of_zero_le (show 0 ≤ W by have := ho.w1; omega)
      obtain ⟨b, rfl⟩ := Int.eq_ofNat_of_zero_le (show 0 ≤ H by have := ho.h1; omega)
      obtain ⟨r, rfl, hr⟩ := in_nat hin
      rw [overL_yes ho hr]
      have CB := Lib.hid (fun (g : Nat) (w : World) (hg : BoxI g r w) => implBy ho _ g (colW r) w (.inr (.inl rfl)) (fun x y w' hx hy hb => implCol x y r g hx (by omega) w' (hg.later hb)))
      have HE : Hid ((gridL a N (colW r)).length = N) := gridL_len ..
      generalize gridL a N (colW r) = xs at *
      clear hok ho hin hr
      go_enter Try.func20, Try.ntmps20
      go_wp2_with fail
      have B0 := Lib.hid (bxr_new a b z r 26 3 w)
      generalize (w.alloc (.cells #[.int .i64 a, .int .i64 b, .int .i64 (z : Int)] 26)).alloc (.cells #[.int .i64 (r : Int)] 3) = W1 at *
      obtain ⟨⟨c0, c1, c2, hlt, hb1⟩, d0, -⟩ := B0.out
      go_wp2_with fail
      refine (C1.out _).mono ?_
      rintro e w1 ⟨rfl, hb⟩
      have B1 := Lib.hid (B0.out.later hb)
      clear c0 c1 c2 d0 hlt hb1 hb B0
      obtain ⟨⟨c0, c1, c2, hlt, hb1⟩, d0, -⟩ := B1.out
      go_wp2_with fail
      refine (C2.out _).mono ?_
      rintro e w2 ⟨rfl, rfl⟩
      go_wp2_with fail
      refine (CB.out _ _ B1.out.2).mono ?_
      rintro e w2 ⟨v, rfl, hown, hb⟩
      have hp : Hid (OwnIv xs w (.returned v) w2) := ⟨v, rfl, own_base hown hb1.size, (B1.out.later hb).1.2.2.2.2⟩
      clear hown hb c0 c1 c2 d0 hlt hb1 B1
      go_wp2_with fail
      go_ret
      exact hp.out
set_option maxHeartbeats 1000000 in
set_option maxRecDepth 100000 in
theorem implRowW (W H Z R : Int) (w : World) : Calls Try.prog 22 #[.agg #[.int .i64 W, .int .i64 H, .int .i64 Z], .int .i64 R] w (OwnIv (overL W H Z R 6 rowW) w) := by
  cases hok : okB W H Z
  · rw [overL_no1 hok]
    have C1 := Lib.hid (implOk_no hok)
    clear hok
    go_enter Try.func22, Try.ntmps22
    go_wp2_with fail
    have B0 := Lib.hid (bxr_new W H Z R 26 3 w)
    generalize (w.alloc (.cells #[.int .i64 W, .int .i64 H, .int .i64 Z] 26)).alloc (.cells #[.int .i64 R] 3) = W1 at *
    obtain ⟨⟨c0, c1, c2, hlt, hb1⟩, d0, -⟩ := B0.out
    go_wp2_with fail
    refine (C1.out _).mono ?_
    rintro e w1 ⟨rfl, hb⟩
    have B1 := Lib.hid (B0.out.later hb)
    clear c0 c1 c2 d0 hlt hb1 hb B0
    go_wp2_with fail
    go_ret
    exact ⟨_, rfl, World.ownsRow_nil _ _ _ _, B1.out.1.2.2.2.2⟩
  · obtain ⟨N, z, rfl, ho⟩ := ok_of hok
    have C1 := Lib.hid (implOk_yes ho)
    have C2 := Lib.hid (fun w => implPlaceOk R w)
    cases hin : inB R 0 (6 : Nat)
    · rw [overL_no2 hin]
      rw [show inB R 0 6 = false from hin] at C2
      clear hok ho hin
      go_enter Try.func22, Try.ntmps22
      go_wp2_with fail
      have B0 := Lib.hid (bxr_new W H z R 26 3 w)
      generalize (w.alloc (.cells #[.int .i64 W, .int .i64 H, .int .i64 (z : Int)] 26)).alloc (.cells #[.int .i64 R] 3) = W1 at *
      obtain ⟨⟨c0, c1, c2, hlt, hb1⟩, d0, -⟩ := B0.out
      go_wp2_with fail
      refine (C1.out _).mono ?_
      rintro e w1 ⟨rfl, hb⟩
      have B1 := Lib.hid (B0.out.later hb)
      clear c0 c1 c2 d0 hlt hb1 hb B0
      obtain ⟨⟨c0, c1, c2, hlt, hb1⟩, d0, -⟩ := B1.out
      go_wp2_with fail
      refine (C2.out _).mono ?_
      rintro e w2 ⟨rfl, rfl⟩
      go_wp2_with fail
      go_ret
      exact ⟨_, rfl, World.ownsRow_nil _ _ _ _, B1.out.1.2.2.2.2⟩
    · rw [show inB R 0 6 = true from hin] at C2
      obtain ⟨a, rfl⟩ := Int.eq_ofNat_of_zero_le (show 0 ≤ W by have := ho.w1; omega)
      obtain ⟨b, rfl⟩ := Int.eq_ofNat_of_zero_le (show 0 ≤ H by have := ho.h1; omega)
      obtain ⟨r, rfl, hr⟩ := in_nat hin
      rw [overL_yes ho hr]
      have CB := Lib.hid (fun (g : Nat) (w : World) (hg : BoxI g r w) => implBy ho _ g (rowW r) w (.inr (.inr rfl)) (fun x y w' hx hy hb => implRow x y r g hy (by omega) w' (hg.later hb)))
      have HE : Hid ((gridL a N (rowW r)).length = N) := gridL_len ..
      generalize gridL a N (rowW r) = xs at *
      clear hok ho hin hr
      go_enter Try.func22, Try.ntmps22
      go_wp2_with fail
      have B0 := Lib.hid (bxr_new a b z r 26 3 w)
      generalize (w.alloc (.cells #[.int .i64 a, .int .i64 b, .int .i64 (z : Int)] 26)).alloc (.cells #[.int .i64 (r : Int)] 3) = W1 at *
      obtain ⟨⟨c0, c1, c2, hlt, hb1⟩, d0, -⟩ := B0.out
      go_wp2_with fail
      refine (C1.out _).mono ?_
      rintro e w1 ⟨rfl, hb⟩
      have B1 := Lib.hid (B0.out.later hb)
      clear c0 c1 c2 d0 hlt hb1 hb B0
      obtain ⟨⟨c0, c1, c2, hlt, hb1⟩, d0, -⟩ := B1.out
      go_wp2_with fail
      refine (C2.out _).mono ?_
      rintro e w2 ⟨rfl, rfl⟩
      go_wp2_with fail
      refine (CB.out _ _ B1.out.2).mono ?_
      rintro e w2 ⟨v, rfl, hown, hb⟩
      have hp : Hid (OwnIv xs w (.returned v) w2) := ⟨v, rfl, own_base hown hb1.size, (B1.out.later hb).1.2.2.2.2⟩
      clear hown hb c0 c1 c2 d0 hlt hb1 B1
      go_wp2_with fail
      go_ret
      exact hp.out
end Go.Proofs.Ytkaabjklfhoooaa
