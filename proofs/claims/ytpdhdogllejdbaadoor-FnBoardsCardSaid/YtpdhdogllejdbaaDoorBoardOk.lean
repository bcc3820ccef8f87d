/- What BoardOk, isSide, size, allHoles and the model's range test give. -/
import Derived.Test.YtpdhdogllejdbaaDoorProg
import Derived.Test.YtpdhdogllejdbaaDoorBase
import Derived.Test.YtpdhdogllejdbaaDoorBitMath
import Derived.WalkKit
import Derived.WalkSpells
import Derived.BigQuiet
import Derived.Deep.QuietTactic
import Derived.Deep.RegionHeld3
import Derived.Below
import Derived.Lib.Hide
namespace Go.Proofs.YtpdhdogllejdbaaDoor
open Go.RowKit
/-- A contract that leaves the world alone, inside a region that draws (the world once drawn, or drawn again). -/
theorem quiet1 {P : Program} {f : FuncId} {args : Array Value} {w : World} {n : Nat} {v : Value} (h : ∀ W : World, Calls P f args W fun e w' => e = .returned v ∧ W = w') : Calls P f args (w.drewN n) fun e w' => e = .returned v ∧ ∃ m, w' = w.drewN m :=
  (h _).mono fun _ _ hh => ⟨hh.1, n, hh.2.symm⟩
theorem quiet2 {P : Program} {f : FuncId} {args : Array Value} {w : World} {a n : Nat} {v : Value} (h : ∀ W : World, Calls P f args W fun e w' => e = .returned v ∧ W = w') : Calls P f args (w.drewN (a + n)) fun e w' => e = .returned v ∧ ∃ m, w' = w.drewN (a + m) :=
  (h _).mono fun _ _ hh => ⟨hh.1, n, hh.2.symm⟩
theorem below_drewN {w w' : World} {n : Nat} (q : Nat) (h : Below n w w') : Below n w (w'.drewN q) := ⟨h.1, h.2, h.3, h.4, h.5⟩
def inB (n a b : Int) : Bool := decide (a ≤ n) && decide (n ≤ b)
def sideB (n : Int) : Bool := decide (1 ≤ n) && decide (n ≤ 7)
def okB (W H Z : Int) : Bool := sideB W && sideB H && decide (1 ≤ Z) && decide (Z ≤ 2 ^ (W * H).toNat - 1)
set_option maxRecDepth 100000 in
theorem specIn (n a b : Int) (w : World) : Calls Tryd.prog 23 #[.int .i64 n, .int .i64 a, .int .i64 b] w fun e w' => e = .returned (.bool (inB n a b)) ∧ w = w' := by
  by_cases h1 : a ≤ n <;> by_cases h2 : n ≤ b
  all_goals
    go_enter Tryd.func23, Tryd.ntmps23
    go_wp2
    go_ret
    refine ⟨ret_bool ?_, rfl⟩
    simp [inB, h1, h2]
set_option maxRecDepth 100000 in
theorem implSide (n : Int) (w : World) : Calls Tryd.prog 27 #[.int .i64 n] w fun e w' => e = .returned (.bool (sideB n)) ∧ w = w' := by
  by_cases h1 : 1 ≤ n <;> by_cases h2 : n ≤ 7
  all_goals
    go_enter Tryd.func27, Tryd.ntmps27
    go_wp2
    go_ret
    refine ⟨ret_bool ?_, rfl⟩
    simp [sideB, h1, h2]
/-- What a board of valid sides is told: the number of its places, and the power of two beyond its holes. -/
theorem sides {W H : Int} (w1 : sideB W = true) (h1 : sideB H = true) : ∃ (N : Nat), W * H = (N : Int) ∧ 1 ≤ N ∧ N ≤ 49 ∧ 1 ≤ W ∧ W ≤ 7 ∧ 1 ≤ H ∧ H ≤ 7 := by
  simp [sideB] at w1 h1
  obtain ⟨a, rfl⟩ := Int.eq_ofNat_of_zero_le (show 0 ≤ W by omega)
  obtain ⟨b, rfl⟩ := Int.eq_ofNat_of_zero_le (show 0 ≤ H by omega)
  have h2 : a * b ≤ 7 * 7 := Nat.mul_le_mul (by omega) (by omega)
  have h3 : 1 * 1 ≤ a * b := Nat.mul_le_mul (by omega) (by omega)
  exact ⟨a * b, by simp, by omega, by omega, by omega, by omega, by omega, by omega⟩
theorem pow_le49 {N : Nat} (h : N ≤ 49) : (1 : Int) ≤ 2 ^ N ∧ (2 : Int) ^ N ≤ 562949953421312 := by
  have h1 : 2 ^ N ≤ 2 ^ 49 := Nat.pow_le_pow_right (by decide) h
  have h2 : 0 < 2 ^ N := Nat.two_pow_pos N
  have e : ((2 : Int) ^ N) = ((2 ^ N : Nat) : Int) := by simp
  rw [e]
  omega
set_option maxRecDepth 100000 in
theorem implSize (W H Z : Int) (w : World) (N : Nat) (h : W * H = N) (hN : N ≤ 49) : Calls Tryd.prog 20 #[.agg #[.int .i64 W, .int .i64 H, .int .i64 Z]] w fun e w' => e = .returned (.int .i64 N) ∧ Below w.heap.size w w' := by
  go_enter Tryd.func20, Tryd.ntmps20
  go_wp2
  go_ret
  exact ⟨rfl, (Below.refl _ _).alloc (Nat.le_refl _) _⟩
set_option maxRecDepth 100000 in
theorem implAll (W H Z : Int) (w : World) (N : Nat) (h : W * H = N) (hN : N ≤ 49) : Calls Tryd.prog 28 #[.agg #[.int .i64 W, .int .i64 H, .int .i64 Z]] w fun e w' => e = .returned (.int .i64 (2 ^ N - 1)) ∧ Below w.heap.size w w' := by
  have HS := Lib.hid (fun w => implSize W H Z w N h hN)
  clear h
  obtain ⟨p1, p2⟩ := pow_le49 hN
  go_enter Tryd.func28, Tryd.ntmps28
  go_wp2_with fail
  refine (HS.out _).mono ?_
  rintro e w1 ⟨rfl, hb1⟩
  go_wp2_with fail
  go_ret
  exact ⟨rfl, ((Below.refl _ _).alloc (Nat.le_refl _) _).trans (hb1.mono (by simp))⟩
theorem okB_eq {W H Z : Int} {N : Nat} (h1 : sideB W = true) (h2 : sideB H = true) (h : W * H = N) : okB W H Z = inB Z 1 (2 ^ N - 1) := by
  simp [okB, inB, h1, h2, h]
theorem okB_no1 {W H Z : Int} (h1 : sideB W = false) : okB W H Z = false := by simp [okB, h1]
theorem okB_no2 {W H Z : Int} (h1 : sideB H = false) : okB W H Z = false := by simp [okB, h1]
set_option maxRecDepth 100000 in
theorem specOk (W H Z : Int) (w : World) : Calls Tryd.prog 22 #[.agg #[.int .i64 W, .int .i64 H, .int .i64 Z]] w fun e w' => e = .returned (.bool (okB W H Z)) ∧ Below w.heap.size w w' := by
  have e7 : ∀ n, inB n 1 7 = sideB n := fun _ => rfl
  cases h1 : sideB W
  · go_enter Tryd.func22, Tryd.ntmps22
    go_wp2_with (go_at_call 23; (with_reducible refine (specIn _ _ _ _).mono ?_); rintro e w' ⟨rfl, rfl⟩; rw [e7])
    go_ret
    exact ⟨ret_bool (okB_no1 h1).symm, (Below.refl _ _).alloc (Nat.le_refl _) _⟩
  · cases h2 : sideB H
    · go_enter Tryd.func22, Tryd.ntmps22
      go_wp2_with (go_at_call 23; (with_reducible refine (specIn _ _ _ _).mono ?_); rintro e w' ⟨rfl, rfl⟩; rw [e7])
      go_ret
      exact ⟨ret_bool (okB_no2 h2).symm, (Below.refl _ _).alloc (Nat.le_refl _) _⟩
    · obtain ⟨N, hN, n0, n1, -, -, -, -⟩ := sides h1 h2
      obtain ⟨p1, p2⟩ := pow_le49 n1
      have HE := Lib.hid (okB_eq (Z := Z) h1 h2 hN)
      go_enter Tryd.func22, Tryd.ntmps22
      go_wp2_with fail
      refine (specIn _ _ _ _).mono ?_
      rintro e w' ⟨rfl, rfl⟩
      rw [e7]
      go_wp2_with fail
      refine (specIn _ _ _ _).mono ?_
      rintro e w' ⟨rfl, rfl⟩
      rw [e7]
      go_wp2_with fail
      go_quiet ((go_at_call 23; exact quiet1 (specIn _ _ _)))
      go_wp2_with fail
      go_ret
      exact ⟨ret_bool HE.out.symm, below_drewN _ ((Below.refl _ _).alloc (Nat.le_refl _) _)⟩
set_option maxRecDepth 100000 in
theorem implOk (W H Z : Int) (w : World) : Calls Tryd.prog 12 #[.agg #[.int .i64 W, .int .i64 H, .int .i64 Z]] w fun e w' => e = .returned (.bool (okB W H Z)) ∧ Below w.heap.size w w' := by
  cases h1 : sideB W
  · go_enter Tryd.func12, Tryd.ntmps12
    go_wp2_with fail
    go_quiet ((go_at_call 27; exact quiet1 (implSide _)))
    go_wp2_with fail
    go_ret
    exact ⟨ret_bool (okB_no1 h1).symm, below_drewN _ ((Below.refl _ _).alloc (Nat.le_refl _) _)⟩
  · cases h2 : sideB H
    · go_enter Tryd.func12, Tryd.ntmps12
      go_wp2_with fail
      go_quiet ((go_at_call 27; exact quiet1 (implSide _)))
      go_wp2_with fail
      go_ret
      exact ⟨ret_bool (okB_no2 h2).symm, below_drewN _ ((Below.refl _ _).alloc (Nat.le_refl _) _)⟩
    · obtain ⟨N, hN, n0, n1, -, -, -, -⟩ := sides h1 h2
      have HE := Lib.hid (okB_eq (Z := Z) h1 h2 hN)
      have HA := Lib.hid (fun w => implAll W H Z w N hN n1)
      clear hN
      by_cases hz : 1 ≤ Z
      · go_enter Tryd.func12, Tryd.ntmps12
        go_wp2_with fail
        have hb0 : Below w.heap.size w (w.alloc (Obj.cells #[Value.int IntKind.i64 W, Value.int IntKind.i64 H, Value.int IntKind.i64 Z] 25)) := (Below.refl _ _).alloc (Nat.le_refl _) _
        have c0 : (w.alloc (Obj.cells #[Value.int IntKind.i64 W, Value.int IntKind.i64 H, Value.int IntKind.i64 Z] 25)).cell? ⟨w.heap.size, 0, none⟩ = some (.int .i64 W) := by go_simp
        have c1 : (w.alloc (Obj.cells #[Value.int IntKind.i64 W, Value.int IntKind.i64 H, Value.int IntKind.i64 Z] 25)).cell? ⟨w.heap.size, 1, none⟩ = some (.int .i64 H) := by go_simp
        have c2 : (w.alloc (Obj.cells #[Value.int IntKind.i64 W, Value.int IntKind.i64 H, Value.int IntKind.i64 Z] 25)).cell? ⟨w.heap.size, 2, none⟩ = some (.int .i64 Z) := by go_simp
        have hs0 : w.heap.size < (w.alloc (Obj.cells #[Value.int IntKind.i64 W, Value.int IntKind.i64 H, Value.int IntKind.i64 Z] 25)).heap.size := by simp
        generalize w.alloc (Obj.cells #[Value.int IntKind.i64 W, Value.int IntKind.i64 H, Value.int IntKind.i64 Z] 25) = W1 at *
        go_region_held3 (fun w' => w'.cell? ⟨w.heap.size, 0, none⟩ = some (.int .i64 W) ∧ w'.cell? ⟨w.heap.size, 1, none⟩ = some (.int .i64 H) ∧ w'.cell? ⟨w.heap.size, 2, none⟩ = some (.int .i64 Z) ∧ Below w.heap.size w w') (first | exact ⟨c0, c1, c2, hb0.drew⟩ | exact ⟨(hb1.cell (p := ⟨w.heap.size, 0, none⟩) hs0).trans c0, (hb1.cell (p := ⟨w.heap.size, 1, none⟩) hs0).trans c1, (hb1.cell (p := ⟨w.heap.size, 2, none⟩) hs0).trans c2, hb0.drew.trans (hb1.mono (Nat.le_of_lt hs0))⟩) (first | (go_at_call 27; (refine (implSide _ _).mono ?_); rintro e w' ⟨rfl, rfl⟩) | (go_at_call 28; refine (HA.out _).mono ?_; rintro e w1 ⟨rfl, hb1⟩) | fail)
        all_goals
          rename_i hh
          have hh := Lib.hid hh.2.2.2
          go_wp2_with fail
          go_ret
          refine ⟨ret_bool (HE.out.trans ?_).symm, hh.out⟩
          simp [inB, hz]
      · go_enter Tryd.func12, Tryd.ntmps12
        go_wp2_with fail
        have hzz : decide (1 ≤ Z) = false := by simpa using hz
        go_quiet ((go_at_call 27; exact quiet1 (implSide _)))
        go_wp2_with fail
        go_ret
        refine ⟨ret_bool (HE.out.trans ?_).symm, below_drewN _ ((Below.refl _ _).alloc (Nat.le_refl _) _)⟩
        simp [inB, hzz]
end Go.Proofs.YtpdhdogllejdbaaDoor
