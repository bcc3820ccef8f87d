/- CrossBoard of the program. -/
import Derived.Test.YtdlpfpeblaapdaaRect
namespace Go.Proofs.Ytdlpfpeblaapdaa
open Go.RowKit
set_option maxRecDepth 100000 in
theorem implPlace (W H Z : Int) (k : Nat) (w : World) (h1 : 1 ≤ W) (h7 : W ≤ 7) (hk : k ≤ 1000) : Calls Try.prog 79 #[.agg #[.int .i64 W, .int .i64 H, .int .i64 Z], .int .i64 k] w fun e w' => e = .returned (.tuple #[.int .i64 ((k : Int) % W), .int .i64 ((k : Int) / W)]) ∧ Below w.heap.size w w' := by
  have q0 : (W == 0) = false := by simp; omega
  have q1 : 0 ≤ (k : Int) % W := Int.emod_nonneg _ (by omega)
  have q2 : (k : Int) % W < W := Int.emod_lt_of_pos _ (by omega)
  have q3 : 0 ≤ (k : Int) / W := Int.ediv_nonneg (by omega) (by omega)
  have q4 : (k : Int) / W ≤ k := Int.ediv_le_self _ (by omega)
  have q5 : ((k : Int)).tmod W = (k : Int) % W := Int.tmod_eq_emod_of_nonneg (by omega)
  have q6 : ((k : Int)).tdiv W = (k : Int) / W := Int.tdiv_eq_ediv_of_nonneg (by omega)
  go_enter Try.func79, Try.ntmps79
  go_wp2_with fail
  go_quiet (fail)
  go_wp2_with fail
  go_ret2
  exact ⟨rfl, below_drewN _ ((Below.refl _ _).alloc (Nat.le_refl _) _)⟩
theorem armB_eq (k : Nat) : armB k = (inB ((k : Int) % 7) 2 4 || inB ((k : Int) / 7) 2 4) := by
  rw [Bool.eq_iff_iff]
  simp only [armB, inB, Bool.or_eq_true, Bool.and_eq_true, decide_eq_true_eq]
  omega
end Go.Proofs.Ytdlpfpeblaapdaa
