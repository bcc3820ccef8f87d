/- Layers as lists of ints, of both. -/
import Derived.Test.YtgkmapemnlgldaaLayD
import Derived.Test.YtgkmapemnlgldaaLayI
import Derived.Test.YtgkmapemnlgldaaClasses
namespace Go.Proofs.Ytgkmapemnlgldaa
open Go.RowKit
set_option linter.unusedVariables false
theorem specLayI (W H Z P n : Int) (hP : P ≤ 9223372036854775807) (hn : n ≤ 9223372036854775807) (w : World) : Calls Try.prog 20 #[.agg #[.int .i64 W, .int .i64 H, .int .i64 Z], .int .i64 P, .int .i64 n] w (OwnI 3 (natsI (layL false W H Z P n)) w) := (specLayerOf W H Z P n hP hn w).mono fun _ _ h => own_ints h
theorem implLayI (W H Z P n : Int) (hP : P ≤ 9223372036854775807) (hn : n ≤ 9223372036854775807) (w : World) : Calls Try.prog 15 #[.agg #[.int .i64 W, .int .i64 H, .int .i64 Z], .int .i64 P, .int .i64 n] w (OwnI 3 (natsI (layL false W H Z P n)) w) := (implLayerOf W H Z P n hP hn w).mono fun _ _ h => own_ints h
theorem specBackLI (W H Z P n : Int) (hP : P ≤ 9223372036854775807) (hn : n ≤ 9223372036854775807) (w : World) : Calls Try.prog 25 #[.agg #[.int .i64 W, .int .i64 H, .int .i64 Z], .int .i64 P, .int .i64 n] w (OwnI 3 (natsI (layL true W H Z P n)) w) := (specBackLayer W H Z P n hP hn w).mono fun _ _ h => own_ints h
theorem implBackLI (W H Z P n : Int) (hP : P ≤ 9223372036854775807) (hn : n ≤ 9223372036854775807) (w : World) : Calls Try.prog 17 #[.agg #[.int .i64 W, .int .i64 H, .int .i64 Z], .int .i64 P, .int .i64 n] w (OwnI 3 (natsI (layL true W H Z P n)) w) := (implBackLayer W H Z P n hP hn w).mono fun _ _ h => own_ints h
theorem specMeetI (W H Z P G n : Int) (hP : P ≤ 9223372036854775807) (hG : G ≤ 9223372036854775807) (hn : n ≤ 9223372036854775807) (w : World) : Calls Try.prog 28 #[.agg #[.int .i64 W, .int .i64 H, .int .i64 Z], .int .i64 P, .int .i64 G, .int .i64 n] w (OwnI 3 (meetL W H Z P G n) w) := specMeet W H Z P G n hP hG hn w
theorem implMeetI (W H Z P G n : Int) (hP : P ≤ 9223372036854775807) (hG : G ≤ 9223372036854775807) (hn : n ≤ 9223372036854775807) (w : World) : Calls Try.prog 13 #[.agg #[.int .i64 W, .int .i64 H, .int .i64 Z], .int .i64 P, .int .i64 G, .int .i64 n] w (OwnI 3 (meetL W H Z P G n) w) := implMeet W H Z P G n hP hG hn w
theorem lay_leI (back : Bool) (W H Z P n : Int) : (natsI (layL back W H Z P n)).length ≤ 65536 := by rw [natsI_len]; exact layL_len back W H Z P n
theorem meet_leI (W H Z P G n : Int) : (meetL W H Z P G n).length ≤ 65536 := by
  unfold meetL
  split
  · refine Nat.le_trans (commL_len _ _) ?_
    have := layL_len false W H Z P n
    simpa [il] using this
  · simp
end Go.Proofs.Ytgkmapemnlgldaa
