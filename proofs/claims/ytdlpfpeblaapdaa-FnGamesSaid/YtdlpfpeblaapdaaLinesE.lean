/- LinesThrough and IsLoneHole of both. -/
import Derived.Test.YtdlpfpeblaapdaaLinesD
namespace Go.Proofs.Ytdlpfpeblaapdaa
open Go.RowKit
set_option linter.unusedVariables false
set_option linter.unusedSimpArgs false
theorem thrL_le (xs : List Ln) (k : Int) : (thrL xs k).length ≤ xs.length := List.length_filter_le _ _
/-- Whether an index is that of a hole that no line contains. -/
def loneB (W H Z k : Int) : Bool := holeB W H Z k && ((thrL (lnsOf W H Z) k).length == 0)
end Go.Proofs.Ytdlpfpeblaapdaa
