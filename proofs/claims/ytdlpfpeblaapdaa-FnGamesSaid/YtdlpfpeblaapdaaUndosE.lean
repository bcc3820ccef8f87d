/- UndosOf of the model. -/
import Derived.Test.YtdlpfpeblaapdaaUndosD
namespace Go.Proofs.Ytdlpfpeblaapdaa
open Go.RowKit
set_option linter.unusedVariables false
set_option linter.unusedSimpArgs false
end Go.Proofs.Ytdlpfpeblaapdaa
