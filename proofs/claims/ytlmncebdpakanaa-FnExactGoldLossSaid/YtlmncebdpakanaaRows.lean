/-
  No cell of these rows narrows 'for every input' (looked for: loops, veiled, ifaces, maps, wideKeys, modest, calm, conditions, laid).
  DERIVED. THE GIVEN ROWS OF THIS SEAT. 5 by the template 'for every input the law returns true; each argument reads behind the call as it read before'; 0 by the template 'total and deterministic' (their statements: YtlmncebdpakanaaTotals.lean).
  GIVEN WITH THE SEED: the statements are not yours to turn. If you find one false, say at which input.
  Laid BY PROGRAM, IN A SANDBOX (cutbox-rows.mjs): the forced cells as the released guide's own fill.sh prints them over the translation d5075245adde2237… (all of the seat's roots in one cut). By AI agents, Wed Nov 11 2026. No macro, syntax, notation, axiom, sorry.
-/
import Derived.Test.YtlmncebdpakanaaChecked
import GoSem.Claim
import GoSem.ClaimJoined
import GoSem.ClaimMapViews
import Derived.JoinedTies
import Derived.KernelRfl
namespace Go.Proofs.Ytlmncebdpakanaa
/- THE CELL 'sum', in the pinned program and in every row, IS THE sha256 OF THE DUMP (.gsa) THAT YtlmncebdpakanaaProg.lean LOADS. Nothing in Lean hashes anything: it is a label: what it is worth is what the hold of that sum in a sandbox is worth. -/
noncomputable def Try.pinned : Pinned := { name := "ytlmncebdpakanaa", sum := "d5075245adde22378378b9ad0e0f339cb6137f4b7fdaa43a84a255fe0dbec809", checked := Try.checked }
namespace Rows
def none {H : Type} : Left H := { results := [], args := [] }

/-- 'laws.FnExactStepsBetween': WHATEVER THE INPUT: true; the input reads as it did. -/
def fnExactStepsBetweenSpec : ChangeSpec := { name := "fnExactStepsBetween", fn := fun _ => fun
  | [d1, d2, d3] => { results := [.lit (.bool true)], args := [d1, d2, d3] }
  | _ => none }
def fnExactStepsBetweenRow : OpenClaim := { program := "ytlmncebdpakanaa", sum := "d5075245adde22378378b9ad0e0f339cb6137f4b7fdaa43a84a255fe0dbec809", func := "loop.example/g03302/laws.FnExactStepsBetween", spec := "fnExactStepsBetween", apart := false }
def FnExactStepsBetweenSaid : Prop := fnExactStepsBetweenRow.holds Try.pinned (OpenSpec.ofChange fnExactStepsBetweenSpec)

/-- ITS FALSE NEIGHBOUR: 'it returns false'. Refute it at one input. -/
def fnExactStepsBetweenWrong : ChangeSpec := { name := "fnExactStepsBetween", fn := fun _ => fun
  | [d1, d2, d3] => { results := [.lit (.bool false)], args := [d1, d2, d3] }
  | _ => none }
def FnExactStepsBetweenWrongFalsely : Prop := fnExactStepsBetweenRow.holds Try.pinned (OpenSpec.ofChange fnExactStepsBetweenWrong)

/-- 'laws.FnExactGoldAt': WHATEVER THE INPUT: true; the input reads as it did. -/
def fnExactGoldAtSpec : ChangeSpec := { name := "fnExactGoldAt", fn := fun _ => fun
  | [d1, d2, d3] => { results := [.lit (.bool true)], args := [d1, d2, d3] }
  | _ => none }
def fnExactGoldAtRow : OpenClaim := { program := "ytlmncebdpakanaa", sum := "d5075245adde22378378b9ad0e0f339cb6137f4b7fdaa43a84a255fe0dbec809", func := "loop.example/g03302/laws.FnExactGoldAt", spec := "fnExactGoldAt", unfollowed := true, recurses := true, apart := false }
def FnExactGoldAtSaid : Prop := fnExactGoldAtRow.holds Try.pinned (OpenSpec.ofChange fnExactGoldAtSpec)

/-- ITS FALSE NEIGHBOUR: 'it returns false'. Refute it at one input. -/
def fnExactGoldAtWrong : ChangeSpec := { name := "fnExactGoldAt", fn := fun _ => fun
  | [d1, d2, d3] => { results := [.lit (.bool false)], args := [d1, d2, d3] }
  | _ => none }
def FnExactGoldAtWrongFalsely : Prop := fnExactGoldAtRow.holds Try.pinned (OpenSpec.ofChange fnExactGoldAtWrong)

/-- 'laws.FnExactGoldSum': WHATEVER THE INPUT: true; the input reads as it did. -/
def fnExactGoldSumSpec : ChangeSpec := { name := "fnExactGoldSum", fn := fun _ => fun
  | [d1, d2, d3] => { results := [.lit (.bool true)], args := [d1, d2, d3] }
  | _ => none }
def fnExactGoldSumRow : OpenClaim := { program := "ytlmncebdpakanaa", sum := "d5075245adde22378378b9ad0e0f339cb6137f4b7fdaa43a84a255fe0dbec809", func := "loop.example/g03302/laws.FnExactGoldSum", spec := "fnExactGoldSum", unfollowed := true, recurses := true, apart := false }
def FnExactGoldSumSaid : Prop := fnExactGoldSumRow.holds Try.pinned (OpenSpec.ofChange fnExactGoldSumSpec)

/-- ITS FALSE NEIGHBOUR: 'it returns false'. Refute it at one input. -/
def fnExactGoldSumWrong : ChangeSpec := { name := "fnExactGoldSum", fn := fun _ => fun
  | [d1, d2, d3] => { results := [.lit (.bool false)], args := [d1, d2, d3] }
  | _ => none }
def FnExactGoldSumWrongFalsely : Prop := fnExactGoldSumRow.holds Try.pinned (OpenSpec.ofChange fnExactGoldSumWrong)

/-- 'laws.FnExactCanHope': WHATEVER THE INPUT: true; the input reads as it did. -/
def fnExactCanHopeSpec : ChangeSpec := { name := "fnExactCanHope", fn := fun _ => fun
  | [d1, d2, d3] => { results := [.lit (.bool true)], args := [d1, d2, d3] }
  | _ => none }
def fnExactCanHopeRow : OpenClaim := { program := "ytlmncebdpakanaa", sum := "d5075245adde22378378b9ad0e0f339cb6137f4b7fdaa43a84a255fe0dbec809", func := "loop.example/g03302/laws.FnExactCanHope", spec := "fnExactCanHope", unfollowed := true, recurses := true, apart := false }
def FnExactCanHopeSaid : Prop := fnExactCanHopeRow.holds Try.pinned (OpenSpec.ofChange fnExactCanHopeSpec)

/-- ITS FALSE NEIGHBOUR: 'it returns false'. Refute it at one input. -/
def fnExactCanHopeWrong : ChangeSpec := { name := "fnExactCanHope", fn := fun _ => fun
  | [d1, d2, d3] => { results := [.lit (.bool false)], args := [d1, d2, d3] }
  | _ => none }
def FnExactCanHopeWrongFalsely : Prop := fnExactCanHopeRow.holds Try.pinned (OpenSpec.ofChange fnExactCanHopeWrong)

/-- 'laws.FnExactGoldLoss': WHATEVER THE INPUT: true; the input reads as it did. -/
def fnExactGoldLossSpec : ChangeSpec := { name := "fnExactGoldLoss", fn := fun _ => fun
  | [d1, d2, d3] => { results := [.lit (.bool true)], args := [d1, d2, d3] }
  | _ => none }
def fnExactGoldLossRow : OpenClaim := { program := "ytlmncebdpakanaa", sum := "d5075245adde22378378b9ad0e0f339cb6137f4b7fdaa43a84a255fe0dbec809", func := "loop.example/g03302/laws.FnExactGoldLoss", spec := "fnExactGoldLoss", unfollowed := true, recurses := true, apart := false }
def FnExactGoldLossSaid : Prop := fnExactGoldLossRow.holds Try.pinned (OpenSpec.ofChange fnExactGoldLossSpec)

/-- ITS FALSE NEIGHBOUR: 'it returns false'. Refute it at one input. -/
def fnExactGoldLossWrong : ChangeSpec := { name := "fnExactGoldLoss", fn := fun _ => fun
  | [d1, d2, d3] => { results := [.lit (.bool false)], args := [d1, d2, d3] }
  | _ => none }
def FnExactGoldLossWrongFalsely : Prop := fnExactGoldLossRow.holds Try.pinned (OpenSpec.ofChange fnExactGoldLossWrong)

/- THE SECOND FORM. 'bulk': how many values and letters a reading holds, each counted each time it is reached (what is shared counts as often as it is met; a slice's spare places count too). A statement '..UptoSaid' is the law's where the arguments, and the package variables that the reading takes, are together of bulk at most 1048576: NARROWER than '..Said'. Prove '..Said' where nothing that the law and all that it calls make is longer than what came in: it says more and counts as full. Else prove '..UptoSaid'. A law counts once. -/
mutual
def uptoBulk {H : Type} : DataW H → Nat
  | .lit (.string bytes) => bytes.length + 1
  | .lit _ => 1
  | .nil => 1
  | .ptr d => uptoBulk d + 1
  | .slice elems spare => uptoBulkAll elems + uptoBulkAll spare + 1
  | .agg parts => uptoBulkAll parts + 1
  | .iface _ d => uptoBulk d + 1
  | .map entries => uptoBulkEntries entries + 1
  | .held _ => 1
def uptoBulkAll {H : Type} : List (DataW H) → Nat
  | [] => 0
  | d :: r => uptoBulk d + uptoBulkAll r
def uptoBulkEntries {H : Type} : List (Lit × DataW H) → Nat
  | [] => 0
  | x :: r => uptoBulkEntry x + uptoBulkEntries r
def uptoBulkEntry {H : Type} : Lit × DataW H → Nat
  | (.string bytes, d) => bytes.length + uptoBulk d + 1
  | (_, d) => uptoBulk d + 1
 end
def uptoSmall : (H : Type) → List (DataW H) → Bool := fun _ ds => decide (uptoBulkAll ds ≤ 1048576)
def OpenSpec.upto (s : _root_.Go.ChangeSpec) : _root_.Go.OpenSpec := { _root_.Go.OpenSpec.ofChange s with cond := some uptoSmall }

/-- 'laws.FnExactStepsBetween', WHERE WHAT IT READS IS OF BULK AT MOST 1048576: true; the input reads as it did. -/
def fnExactStepsBetweenUptoRow : OpenClaim := { program := "ytlmncebdpakanaa", sum := "d5075245adde22378378b9ad0e0f339cb6137f4b7fdaa43a84a255fe0dbec809", func := "loop.example/g03302/laws.FnExactStepsBetween", spec := "fnExactStepsBetween", apart := false, narrowed := true }
def FnExactStepsBetweenUptoSaid : Prop := fnExactStepsBetweenUptoRow.holds Try.pinned (OpenSpec.upto fnExactStepsBetweenSpec)

/-- 'laws.FnExactGoldAt', WHERE WHAT IT READS IS OF BULK AT MOST 1048576: true; the input reads as it did. -/
def fnExactGoldAtUptoRow : OpenClaim := { program := "ytlmncebdpakanaa", sum := "d5075245adde22378378b9ad0e0f339cb6137f4b7fdaa43a84a255fe0dbec809", func := "loop.example/g03302/laws.FnExactGoldAt", spec := "fnExactGoldAt", unfollowed := true, recurses := true, apart := false, narrowed := true }
def FnExactGoldAtUptoSaid : Prop := fnExactGoldAtUptoRow.holds Try.pinned (OpenSpec.upto fnExactGoldAtSpec)

/-- 'laws.FnExactGoldSum', WHERE WHAT IT READS IS OF BULK AT MOST 1048576: true; the input reads as it did. -/
def fnExactGoldSumUptoRow : OpenClaim := { program := "ytlmncebdpakanaa", sum := "d5075245adde22378378b9ad0e0f339cb6137f4b7fdaa43a84a255fe0dbec809", func := "loop.example/g03302/laws.FnExactGoldSum", spec := "fnExactGoldSum", unfollowed := true, recurses := true, apart := false, narrowed := true }
def FnExactGoldSumUptoSaid : Prop := fnExactGoldSumUptoRow.holds Try.pinned (OpenSpec.upto fnExactGoldSumSpec)

/-- 'laws.FnExactCanHope', WHERE WHAT IT READS IS OF BULK AT MOST 1048576: true; the input reads as it did. -/
def fnExactCanHopeUptoRow : OpenClaim := { program := "ytlmncebdpakanaa", sum := "d5075245adde22378378b9ad0e0f339cb6137f4b7fdaa43a84a255fe0dbec809", func := "loop.example/g03302/laws.FnExactCanHope", spec := "fnExactCanHope", unfollowed := true, recurses := true, apart := false, narrowed := true }
def FnExactCanHopeUptoSaid : Prop := fnExactCanHopeUptoRow.holds Try.pinned (OpenSpec.upto fnExactCanHopeSpec)

/-- 'laws.FnExactGoldLoss', WHERE WHAT IT READS IS OF BULK AT MOST 1048576: true; the input reads as it did. -/
def fnExactGoldLossUptoRow : OpenClaim := { program := "ytlmncebdpakanaa", sum := "d5075245adde22378378b9ad0e0f339cb6137f4b7fdaa43a84a255fe0dbec809", func := "loop.example/g03302/laws.FnExactGoldLoss", spec := "fnExactGoldLoss", unfollowed := true, recurses := true, apart := false, narrowed := true }
def FnExactGoldLossUptoSaid : Prop := fnExactGoldLossUptoRow.holds Try.pinned (OpenSpec.upto fnExactGoldLossSpec)

end Rows
end Go.Proofs.Ytlmncebdpakanaa
