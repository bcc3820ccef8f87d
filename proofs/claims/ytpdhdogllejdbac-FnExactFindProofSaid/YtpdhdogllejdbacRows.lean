/-
  No cell of these rows narrows 'for every input' (looked for: loops, veiled, ifaces, maps, wideKeys, modest, calm, conditions, laid).
  DERIVED. THE GIVEN ROWS OF THIS SEAT. 5 by the template 'for every input the law returns true; each argument reads behind the call as it read before'; 0 by the template 'total and deterministic' (their statements: YtpdhdogllejdbacTotals.lean).
  GIVEN WITH THE SEED: the statements are not yours to turn. If you find one false, say at which input.
  Laid BY PROGRAM, IN A SANDBOX (cutbox-rows.mjs): the forced cells as the released guide's own fill.sh prints them over the translation 2ef542072de67fbb… (all of the seat's roots in one cut). By AI agents, Wed Nov 11 2026. No macro, syntax, notation, axiom, sorry.
-/
import Derived.Test.YtpdhdogllejdbacChecked
import GoSem.Claim
import GoSem.ClaimJoined
import GoSem.ClaimMapViews
import Derived.JoinedTies
import Derived.KernelRfl
namespace Go.Proofs.Ytpdhdogllejdbac
/- THE CELL 'sum', in the pinned program and in every row, IS THE sha256 OF THE DUMP (.gsa) THAT YtpdhdogllejdbacProg.lean LOADS. Nothing in Lean hashes anything: it is a label: what it is worth is what the hold of that sum in a sandbox is worth. -/
noncomputable def Try.pinned : Pinned := { name := "ytpdhdogllejdbac", sum := "2ef542072de67fbb47d4753c5361727681a746d0431d3abf5d32509958ab885d", checked := Try.checked }
namespace Rows
def none {H : Type} : Left H := { results := [], args := [] }

/-- 'laws.FnExactCanTurn': WHATEVER THE INPUT: true; the input reads as it did. -/
def fnExactCanTurnSpec : ChangeSpec := { name := "fnExactCanTurn", fn := fun _ => fun
  | [d1, d2, d3] => { results := [.lit (.bool true)], args := [d1, d2, d3] }
  | _ => none }
def fnExactCanTurnRow : OpenClaim := { program := "ytpdhdogllejdbac", sum := "2ef542072de67fbb47d4753c5361727681a746d0431d3abf5d32509958ab885d", func := "loop.example/g03302/laws.FnExactCanTurn", spec := "fnExactCanTurn", unfollowed := true, recurses := true, apart := false }
def FnExactCanTurnSaid : Prop := fnExactCanTurnRow.holds Try.pinned (OpenSpec.ofChange fnExactCanTurnSpec)

/-- ITS FALSE NEIGHBOUR: 'it returns false'. Refute it at one input. -/
def fnExactCanTurnWrong : ChangeSpec := { name := "fnExactCanTurn", fn := fun _ => fun
  | [d1, d2, d3] => { results := [.lit (.bool false)], args := [d1, d2, d3] }
  | _ => none }
def FnExactCanTurnWrongFalsely : Prop := fnExactCanTurnRow.holds Try.pinned (OpenSpec.ofChange fnExactCanTurnWrong)

/-- 'laws.FnExactLossOf': WHATEVER THE INPUT: true; the input reads as it did. -/
def fnExactLossOfSpec : ChangeSpec := { name := "fnExactLossOf", fn := fun _ => fun
  | [d1, d2, d3] => { results := [.lit (.bool true)], args := [d1, d2, d3] }
  | _ => none }
def fnExactLossOfRow : OpenClaim := { program := "ytpdhdogllejdbac", sum := "2ef542072de67fbb47d4753c5361727681a746d0431d3abf5d32509958ab885d", func := "loop.example/g03302/laws.FnExactLossOf", spec := "fnExactLossOf", apart := false }
def FnExactLossOfSaid : Prop := fnExactLossOfRow.holds Try.pinned (OpenSpec.ofChange fnExactLossOfSpec)

/-- ITS FALSE NEIGHBOUR: 'it returns false'. Refute it at one input. -/
def fnExactLossOfWrong : ChangeSpec := { name := "fnExactLossOf", fn := fun _ => fun
  | [d1, d2, d3] => { results := [.lit (.bool false)], args := [d1, d2, d3] }
  | _ => none }
def FnExactLossOfWrongFalsely : Prop := fnExactLossOfRow.holds Try.pinned (OpenSpec.ofChange fnExactLossOfWrong)

/-- 'laws.FnExactFindProof': WHATEVER THE INPUT: true; the input reads as it did. -/
def fnExactFindProofSpec : ChangeSpec := { name := "fnExactFindProof", fn := fun _ => fun
  | [d1, d2, d3] => { results := [.lit (.bool true)], args := [d1, d2, d3] }
  | _ => none }
def fnExactFindProofRow : OpenClaim := { program := "ytpdhdogllejdbac", sum := "2ef542072de67fbb47d4753c5361727681a746d0431d3abf5d32509958ab885d", func := "loop.example/g03302/laws.FnExactFindProof", spec := "fnExactFindProof", unfollowed := true, recurses := true, apart := false }
def FnExactFindProofSaid : Prop := fnExactFindProofRow.holds Try.pinned (OpenSpec.ofChange fnExactFindProofSpec)

/-- ITS FALSE NEIGHBOUR: 'it returns false'. Refute it at one input. -/
def fnExactFindProofWrong : ChangeSpec := { name := "fnExactFindProof", fn := fun _ => fun
  | [d1, d2, d3] => { results := [.lit (.bool false)], args := [d1, d2, d3] }
  | _ => none }
def FnExactFindProofWrongFalsely : Prop := fnExactFindProofRow.holds Try.pinned (OpenSpec.ofChange fnExactFindProofWrong)

/-- 'laws.FnExactColumnWeights': WHATEVER THE INPUT: true; the input reads as it did. -/
def fnExactColumnWeightsSpec : ChangeSpec := { name := "fnExactColumnWeights", fn := fun _ => fun
  | [d1, d2] => { results := [.lit (.bool true)], args := [d1, d2] }
  | _ => none }
def fnExactColumnWeightsRow : OpenClaim := { program := "ytpdhdogllejdbac", sum := "2ef542072de67fbb47d4753c5361727681a746d0431d3abf5d32509958ab885d", func := "loop.example/g03302/laws.FnExactColumnWeights", spec := "fnExactColumnWeights", unfollowed := true, recurses := true, apart := false }
def FnExactColumnWeightsSaid : Prop := fnExactColumnWeightsRow.holds Try.pinned (OpenSpec.ofChange fnExactColumnWeightsSpec)

/-- ITS FALSE NEIGHBOUR: 'it returns false'. Refute it at one input. -/
def fnExactColumnWeightsWrong : ChangeSpec := { name := "fnExactColumnWeights", fn := fun _ => fun
  | [d1, d2] => { results := [.lit (.bool false)], args := [d1, d2] }
  | _ => none }
def FnExactColumnWeightsWrongFalsely : Prop := fnExactColumnWeightsRow.holds Try.pinned (OpenSpec.ofChange fnExactColumnWeightsWrong)

/-- 'laws.FnExactRowWeights': WHATEVER THE INPUT: true; the input reads as it did. -/
def fnExactRowWeightsSpec : ChangeSpec := { name := "fnExactRowWeights", fn := fun _ => fun
  | [d1, d2] => { results := [.lit (.bool true)], args := [d1, d2] }
  | _ => none }
def fnExactRowWeightsRow : OpenClaim := { program := "ytpdhdogllejdbac", sum := "2ef542072de67fbb47d4753c5361727681a746d0431d3abf5d32509958ab885d", func := "loop.example/g03302/laws.FnExactRowWeights", spec := "fnExactRowWeights", unfollowed := true, recurses := true, apart := false }
def FnExactRowWeightsSaid : Prop := fnExactRowWeightsRow.holds Try.pinned (OpenSpec.ofChange fnExactRowWeightsSpec)

/-- ITS FALSE NEIGHBOUR: 'it returns false'. Refute it at one input. -/
def fnExactRowWeightsWrong : ChangeSpec := { name := "fnExactRowWeights", fn := fun _ => fun
  | [d1, d2] => { results := [.lit (.bool false)], args := [d1, d2] }
  | _ => none }
def FnExactRowWeightsWrongFalsely : Prop := fnExactRowWeightsRow.holds Try.pinned (OpenSpec.ofChange fnExactRowWeightsWrong)

/- THE SECOND FORM. 'bulk': how many values and letters a reading holds, each counted each time it is reached (what is shared counts as often as it is met; a slice's spare places count too). A statement '..UptoSaid' is the law's where the arguments, and the package variables that the reading takes, are together of bulk at most 1048576: NARROWER than '..Said'. Prove '..Said' where nothing that the law and all that it calls make is longer than what came in: it says more and counts as full. Else prove '..UptoSaid'. A law counts once. -/
mutual
def uptoBulk {H : Type} : DataW H → Nat
  | .lit (.string bytes) => bytes.length + 1
  | .lit _ => 1
  | .nil => 1
  | .ptr d => uptoBulk d + 1
  | .slice elems spare => uptoBulkAll elems + uptoBulkAll spare + 1
  | .agg parts => uptoBulkAll parts + 1
  | .iface _ d => uptoBulk d + 1
  | .map entries => uptoBulkEntries entries + 1
  | .held _ => 1
def uptoBulkAll {H : Type} : List (DataW H) → Nat
  | [] => 0
  | d :: r => uptoBulk d + uptoBulkAll r
def uptoBulkEntries {H : Type} : List (Lit × DataW H) → Nat
  | [] => 0
  | x :: r => uptoBulkEntry x + uptoBulkEntries r
def uptoBulkEntry {H : Type} : Lit × DataW H → Nat
  | (.string bytes, d) => bytes.length + uptoBulk d + 1
  | (_, d) => uptoBulk d + 1
 end
def uptoSmall : (H : Type) → List (DataW H) → Bool := fun _ ds => decide (uptoBulkAll ds ≤ 1048576)
def OpenSpec.upto (s : _root_.Go.ChangeSpec) : _root_.Go.OpenSpec := { _root_.Go.OpenSpec.ofChange s with cond := some uptoSmall }

/-- 'laws.FnExactCanTurn', WHERE WHAT IT READS IS OF BULK AT MOST 1048576: true; the input reads as it did. -/
def fnExactCanTurnUptoRow : OpenClaim := { program := "ytpdhdogllejdbac", sum := "2ef542072de67fbb47d4753c5361727681a746d0431d3abf5d32509958ab885d", func := "loop.example/g03302/laws.FnExactCanTurn", spec := "fnExactCanTurn", unfollowed := true, recurses := true, apart := false, narrowed := true }
def FnExactCanTurnUptoSaid : Prop := fnExactCanTurnUptoRow.holds Try.pinned (OpenSpec.upto fnExactCanTurnSpec)

/-- 'laws.FnExactLossOf', WHERE WHAT IT READS IS OF BULK AT MOST 1048576: true; the input reads as it did. -/
def fnExactLossOfUptoRow : OpenClaim := { program := "ytpdhdogllejdbac", sum := "2ef542072de67fbb47d4753c5361727681a746d0431d3abf5d32509958ab885d", func := "loop.example/g03302/laws.FnExactLossOf", spec := "fnExactLossOf", apart := false, narrowed := true }
def FnExactLossOfUptoSaid : Prop := fnExactLossOfUptoRow.holds Try.pinned (OpenSpec.upto fnExactLossOfSpec)

/-- 'laws.FnExactFindProof', WHERE WHAT IT READS IS OF BULK AT MOST 1048576: true; the input reads as it did. -/
def fnExactFindProofUptoRow : OpenClaim := { program := "ytpdhdogllejdbac", sum := "2ef542072de67fbb47d4753c5361727681a746d0431d3abf5d32509958ab885d", func := "loop.example/g03302/laws.FnExactFindProof", spec := "fnExactFindProof", unfollowed := true, recurses := true, apart := false, narrowed := true }
def FnExactFindProofUptoSaid : Prop := fnExactFindProofUptoRow.holds Try.pinned (OpenSpec.upto fnExactFindProofSpec)

/-- 'laws.FnExactColumnWeights', WHERE WHAT IT READS IS OF BULK AT MOST 1048576: true; the input reads as it did. -/
def fnExactColumnWeightsUptoRow : OpenClaim := { program := "ytpdhdogllejdbac", sum := "2ef542072de67fbb47d4753c5361727681a746d0431d3abf5d32509958ab885d", func := "loop.example/g03302/laws.FnExactColumnWeights", spec := "fnExactColumnWeights", unfollowed := true, recurses := true, apart := false, narrowed := true }
def FnExactColumnWeightsUptoSaid : Prop := fnExactColumnWeightsUptoRow.holds Try.pinned (OpenSpec.upto fnExactColumnWeightsSpec)

/-- 'laws.FnExactRowWeights', WHERE WHAT IT READS IS OF BULK AT MOST 1048576: true; the input reads as it did. -/
def fnExactRowWeightsUptoRow : OpenClaim := { program := "ytpdhdogllejdbac", sum := "2ef542072de67fbb47d4753c5361727681a746d0431d3abf5d32509958ab885d", func := "loop.example/g03302/laws.FnExactRowWeights", spec := "fnExactRowWeights", unfollowed := true, recurses := true, apart := false, narrowed := true }
def FnExactRowWeightsUptoSaid : Prop := fnExactRowWeightsUptoRow.holds Try.pinned (OpenSpec.upto fnExactRowWeightsSpec)

end Rows
end Go.Proofs.Ytpdhdogllejdbac
