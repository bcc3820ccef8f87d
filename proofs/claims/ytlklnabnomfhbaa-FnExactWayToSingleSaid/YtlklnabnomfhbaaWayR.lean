/- Ways: what the exact laws ask of both. -/
import Derived.Test.YtlklnabnomfhbaaWayA
import Derived.Test.YtlklnabnomfhbaaWayK
namespace Go.Proofs.Ytlklnabnomfhbaa
open Go.RowKit
set_option linter.unusedVariables false
theorem lnb_post {f : FuncId} {args : Array Value} {w : World} {r : List Ln × Bool} {xs : List Ln} {y : Bool} (h : Calls Try.prog f args w (OwnLnB r w)) (hr : r = (xs, y)) :
    Calls Try.prog f args w fun e w' => ∃ v, e = .returned (.tuple #[v, .bool y]) ∧ w'.ownsRow w.heap.size 39 3 v xs.length (lv xs) ∧ Below w.heap.size w w' := by subst hr; exact h
end Go.Proofs.Ytlklnabnomfhbaa
