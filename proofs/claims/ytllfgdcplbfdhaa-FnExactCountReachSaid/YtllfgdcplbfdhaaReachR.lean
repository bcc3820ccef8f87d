/- What is reached, as lists of ints, of both. -/
import Derived.Test.YtllfgdcplbfdhaaReachC
import Derived.Test.YtllfgdcplbfdhaaReachI
import Derived.Test.YtllfgdcplbfdhaaClasses
namespace Go.Proofs.Ytllfgdcplbfdhaa
open Go.RowKit
set_option linter.unusedVariables false
theorem specReachI (W H Z P : Int) (hP : P ≤ 9223372036854775807) (w : World) : Calls Try.prog 27 #[.agg #[.int .i64 W, .int .i64 H, .int .i64 Z], .int .i64 P] w (OwnI 3 (natsI (reachL false W H Z P)) w) := (specReach W H Z P hP w).mono fun _ _ h => own_ints h
theorem implReachI (W H Z P : Int) (hP : P ≤ 9223372036854775807) (w : World) : Calls Try.prog 12 #[.agg #[.int .i64 W, .int .i64 H, .int .i64 Z], .int .i64 P] w (OwnI 3 (natsI (reachL false W H Z P)) w) := (implReach W H Z P hP w).mono fun _ _ h => own_ints h
theorem specFinalsI (W H Z P : Int) (hP : P ≤ 9223372036854775807) (w : World) : Calls Try.prog 34 #[.agg #[.int .i64 W, .int .i64 H, .int .i64 Z], .int .i64 P] w (OwnI 3 (natsI (finL W H Z P)) w) := (specFinals W H Z P hP w).mono fun _ _ h => own_ints h
theorem implFinalsI (W H Z P : Int) (hP : P ≤ 9223372036854775807) (w : World) : Calls Try.prog 13 #[.agg #[.int .i64 W, .int .i64 H, .int .i64 Z], .int .i64 P] w (OwnI 3 (natsI (finL W H Z P)) w) := (implFinals W H Z P hP w).mono fun _ _ h => own_ints h
theorem reach_leI (back : Bool) (W H Z P : Int) : (natsI (reachL back W H Z P)).length ≤ 65536 := by rw [natsI_len]; exact reach_len back W H Z P
theorem fin_leI (W H Z P : Int) : (natsI (finL W H Z P)).length ≤ 49 := by
  rw [natsI_len]
  exact Nat.le_trans (List.length_filter_le ..) (holesR_len W H Z)
end Go.Proofs.Ytllfgdcplbfdhaa
