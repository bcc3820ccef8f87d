/- Clamp of the program and of the model give clampF of their arguments and touch nothing. No condition. -/
import Derived.Test.YtfmafledakchhaaProg
import Derived.Test.YtfmafledakchhaaBase
import Derived.WalkKit
import Derived.BigQuiet
import Derived.Deep.QuietTactic
namespace Go.Proofs.Ytfmafledakchhaa
open Go.RowKit
def clampF (n a b : Int) : Int := if b < a ∨ n < a then a else if b < n then b else n

theorem spec_clamp (n a b : Int) (w : World) :
    Calls Try.prog 20 #[.int .i64 n, .int .i64 a, .int .i64 b] w fun e w' => e = .returned (.int .i64 (clampF n a b)) ∧ w = w' := by
  unfold clampF
  by_cases h1 : b < a
  · simp only [h1, true_or, if_true]
    go_enter Try.func20, Try.ntmps20
    go_wp2
    go_ret
    exact ⟨rfl, rfl⟩
  · by_cases h2 : n < a
    · simp only [h2, or_true, if_true]
      go_enter Try.func20, Try.ntmps20
      go_wp2
      go_ret
      exact ⟨rfl, rfl⟩
    · by_cases h3 : b < n
      · simp only [h1, h2, h3, or_self, if_false, if_true]
        go_enter Try.func20, Try.ntmps20
        go_wp2
        go_ret
        exact ⟨rfl, rfl⟩
      · simp only [h1, h2, h3, or_self, if_false]
        go_enter Try.func20, Try.ntmps20
        go_wp2
        go_ret
        exact ⟨rfl, rfl⟩

theorem impl_clamp (n a b : Int) (w : World) :
    Calls Try.prog 10 #[.int .i64 n, .int .i64 a, .int .i64 b] w fun e w' => e = .returned (.int .i64 (clampF n a b)) ∧ w = w' := by
  by_cases h1 : b < n
  all_goals
    go_enter Try.func10, Try.ntmps10
    go_wp2
    all_goals
      go_ret
      refine ⟨ret_int ?_, rfl⟩
      simp only [clampF]
      (repeat' split) <;> omega

end Go.Proofs.Ytfmafledakchhaa
