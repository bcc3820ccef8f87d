/- Backwards: what the exact laws ask of both. -/
import Derived.Test.YtkenlighpelhiaaGreatBackA
import Derived.Test.YtkenlighpelhiaaGreatBackP
import Derived.Test.YtkenlighpelhiaaGreatBackI
import Derived.Test.YtkenlighpelhiaaGreatClasses
namespace Go.Proofs.YtkenlighpelhiaaGreat
open Go.RowKit
set_option linter.unusedVariables false
theorem implBackI (W H Z P : Int) (hP : P ≤ 9223372036854775807) (w : World) : Calls Tryz.prog 6 #[.agg #[.int .i64 W, .int .i64 H, .int .i64 Z], .int .i64 P] w (OwnI 3 (natsI (reachL true W H Z P)) w) := (implBackOf W H Z P hP w).mono fun _ _ h => own_ints h
theorem implStartsI (W H Z P : Int) (hP : P ≤ 9223372036854775807) (w : World) : Calls Tryz.prog 10 #[.agg #[.int .i64 W, .int .i64 H, .int .i64 Z], .int .i64 P] w (OwnI 3 (natsI (startL W H Z P)) w) := (implStarts W H Z P hP w).mono fun _ _ h => own_ints h
theorem implSolvI (W H Z : Int) (w : World) : Calls Tryz.prog 17 #[.agg #[.int .i64 W, .int .i64 H, .int .i64 Z]] w (OwnI 3 (natsI (solvL W H Z)) w) := (implSolv W H Z w).mono fun _ _ h => own_ints h
theorem back_leI (W H Z P : Int) : (natsI (reachL true W H Z P)).length ≤ 65536 := by rw [natsI_len]; exact reach_len true W H Z P
theorem start_leI (W H Z P : Int) : (natsI (startL W H Z P)).length ≤ 49 := by
  rw [natsI_len]
  exact Nat.le_trans (List.length_filter_le ..) (holesR_len W H Z)
theorem solv_leI (W H Z : Int) : (natsI (solvL W H Z)).length ≤ 49 := by
  rw [natsI_len]
  unfold solvL
  split
  · exact Nat.le_trans (List.length_filter_le ..) (holesR_len W H Z)
  · exact Nat.zero_le _
/-- Each pair has two numbers; there are at most 144. -/
theorem pair_two {W H Z : Int} {xs : List Int} (h : xs ∈ pairL W H Z) : xs.length = 2 := by
  unfold pairL at h
  split at h
  · obtain ⟨k, -, hk⟩ := List.mem_flatMap.1 h
    unfold pairRow at hk
    obtain ⟨m, -, rfl⟩ := List.mem_map.1 hk
    rfl
  · cases h
theorem pair_le (W H Z : Int) : (pairL W H Z).length ≤ 144 := by
  unfold pairL
  split
  · next h =>
    simp only [Bool.and_eq_true, decide_eq_true_eq] at h
    exact Nat.le_trans (pairs_len W H Z _ _) (Nat.le_trans (Nat.mul_le_mul h.2 h.2) (by decide))
  · exact Nat.zero_le _
theorem total_two : ∀ {xss : List (List Int)}, (∀ xs ∈ xss, xs.length = 2) → total xss = 2 * xss.length
  | [], _ => rfl
  | xs :: xss, h => by
    have h1 := h xs (List.mem_cons_self ..)
    have h2 := total_two (xss := xss) (fun ys hy => h ys (List.mem_cons_of_mem _ hy))
    unfold total at *
    rw [List.map_cons, List.sum_cons, h1, h2, List.length_cons]
    omega
end Go.Proofs.YtkenlighpelhiaaGreat
