/-
  No cell of these rows narrows 'for every input' (looked for: loops, veiled, ifaces, maps, wideKeys, modest, calm, conditions, laid).
  DERIVED. THE GIVEN ROWS OF THIS SEAT. 10 by the template 'for every input the law returns true; each argument reads behind the call as it read before'; 0 by the template 'total and deterministic' (their statements: YtpdhdogllejdbaaTotals.lean).
  GIVEN WITH THE SEED: the statements are not yours to turn. If you find one false, say at which input.
  Laid BY PROGRAM, IN A SANDBOX (cutbox-rows.mjs): the forced cells as the released guide's own fill.sh prints them over the translation d99bf1154bbc9f13… (all of the seat's roots in one cut). By AI agents, Wed Nov 11 2026. No macro, syntax, notation, axiom, sorry.
-/
import Derived.Test.YtpdhdogllejdbaaChecked
import GoSem.Claim
import GoSem.ClaimJoined
import GoSem.ClaimMapViews
import Derived.JoinedTies
import Derived.KernelRfl
namespace Go.Proofs.Ytpdhdogllejdbaa
/- THE CELL 'sum', in the pinned program and in every row, IS THE sha256 OF THE DUMP (.gsa) THAT YtpdhdogllejdbaaProg.lean LOADS. Nothing in Lean hashes anything: it is a label: what it is worth is what the hold of that sum in a sandbox is worth. -/
noncomputable def Try.pinned : Pinned := { name := "ytpdhdogllejdbaa", sum := "d99bf1154bbc9f133006866370bf7e8ba1b0283798aa46b9cd2eadbc649b3683", checked := Try.checked }
namespace Rows
def none {H : Type} : Left H := { results := [], args := [] }

/-- 'laws.FnLines': WHATEVER THE INPUT: true; the input reads as it did. -/
def fnLinesSpec : ChangeSpec := { name := "fnLines", fn := fun _ => fun
  | [d] => { results := [.lit (.bool true)], args := [d] }
  | _ => none }
def fnLinesRow : OpenClaim := { program := "ytpdhdogllejdbaa", sum := "d99bf1154bbc9f133006866370bf7e8ba1b0283798aa46b9cd2eadbc649b3683", func := "loop.example/g03302/laws.FnLines", spec := "fnLines", apart := false }
def FnLinesSaid : Prop := fnLinesRow.holds Try.pinned (OpenSpec.ofChange fnLinesSpec)

/-- ITS FALSE NEIGHBOUR: 'it returns false'. Refute it at one input. -/
def fnLinesWrong : ChangeSpec := { name := "fnLines", fn := fun _ => fun
  | [d] => { results := [.lit (.bool false)], args := [d] }
  | _ => none }
def FnLinesWrongFalsely : Prop := fnLinesRow.holds Try.pinned (OpenSpec.ofChange fnLinesWrong)

/-- 'laws.FnPositions': WHATEVER THE INPUT: true; the input reads as it did. -/
def fnPositionsSpec : ChangeSpec := { name := "fnPositions", fn := fun _ => fun
  | [d] => { results := [.lit (.bool true)], args := [d] }
  | _ => none }
def fnPositionsRow : OpenClaim := { program := "ytpdhdogllejdbaa", sum := "d99bf1154bbc9f133006866370bf7e8ba1b0283798aa46b9cd2eadbc649b3683", func := "loop.example/g03302/laws.FnPositions", spec := "fnPositions", apart := false }
def FnPositionsSaid : Prop := fnPositionsRow.holds Try.pinned (OpenSpec.ofChange fnPositionsSpec)

/-- ITS FALSE NEIGHBOUR: 'it returns false'. Refute it at one input. -/
def fnPositionsWrong : ChangeSpec := { name := "fnPositions", fn := fun _ => fun
  | [d] => { results := [.lit (.bool false)], args := [d] }
  | _ => none }
def FnPositionsWrongFalsely : Prop := fnPositionsRow.holds Try.pinned (OpenSpec.ofChange fnPositionsWrong)

/-- 'laws.FnJumps': WHATEVER THE INPUT: true; the input reads as it did. -/
def fnJumpsSpec : ChangeSpec := { name := "fnJumps", fn := fun _ => fun
  | [d] => { results := [.lit (.bool true)], args := [d] }
  | _ => none }
def fnJumpsRow : OpenClaim := { program := "ytpdhdogllejdbaa", sum := "d99bf1154bbc9f133006866370bf7e8ba1b0283798aa46b9cd2eadbc649b3683", func := "loop.example/g03302/laws.FnJumps", spec := "fnJumps", unfollowed := true, recurses := true, apart := false }
def FnJumpsSaid : Prop := fnJumpsRow.holds Try.pinned (OpenSpec.ofChange fnJumpsSpec)

/-- ITS FALSE NEIGHBOUR: 'it returns false'. Refute it at one input. -/
def fnJumpsWrong : ChangeSpec := { name := "fnJumps", fn := fun _ => fun
  | [d] => { results := [.lit (.bool false)], args := [d] }
  | _ => none }
def FnJumpsWrongFalsely : Prop := fnJumpsRow.holds Try.pinned (OpenSpec.ofChange fnJumpsWrong)

/-- 'laws.FnGames': WHATEVER THE INPUT: true; the input reads as it did. -/
def fnGamesSpec : ChangeSpec := { name := "fnGames", fn := fun _ => fun
  | [d] => { results := [.lit (.bool true)], args := [d] }
  | _ => none }
def fnGamesRow : OpenClaim := { program := "ytpdhdogllejdbaa", sum := "d99bf1154bbc9f133006866370bf7e8ba1b0283798aa46b9cd2eadbc649b3683", func := "loop.example/g03302/laws.FnGames", spec := "fnGames", unfollowed := true, recurses := true, apart := false }
def FnGamesSaid : Prop := fnGamesRow.holds Try.pinned (OpenSpec.ofChange fnGamesSpec)

/-- ITS FALSE NEIGHBOUR: 'it returns false'. Refute it at one input. -/
def fnGamesWrong : ChangeSpec := { name := "fnGames", fn := fun _ => fun
  | [d] => { results := [.lit (.bool false)], args := [d] }
  | _ => none }
def FnGamesWrongFalsely : Prop := fnGamesRow.holds Try.pinned (OpenSpec.ofChange fnGamesWrong)

/-- 'laws.FnKeys': WHATEVER THE INPUT: true; the input reads as it did. -/
def fnKeysSpec : ChangeSpec := { name := "fnKeys", fn := fun _ => fun
  | [d] => { results := [.lit (.bool true)], args := [d] }
  | _ => none }
def fnKeysRow : OpenClaim := { program := "ytpdhdogllejdbaa", sum := "d99bf1154bbc9f133006866370bf7e8ba1b0283798aa46b9cd2eadbc649b3683", func := "loop.example/g03302/laws.FnKeys", spec := "fnKeys", apart := false }
def FnKeysSaid : Prop := fnKeysRow.holds Try.pinned (OpenSpec.ofChange fnKeysSpec)

/-- ITS FALSE NEIGHBOUR: 'it returns false'. Refute it at one input. -/
def fnKeysWrong : ChangeSpec := { name := "fnKeys", fn := fun _ => fun
  | [d] => { results := [.lit (.bool false)], args := [d] }
  | _ => none }
def FnKeysWrongFalsely : Prop := fnKeysRow.holds Try.pinned (OpenSpec.ofChange fnKeysWrong)

/-- 'laws.FnTurned': WHATEVER THE INPUT: true; the input reads as it did. -/
def fnTurnedSpec : ChangeSpec := { name := "fnTurned", fn := fun _ => fun
  | [d] => { results := [.lit (.bool true)], args := [d] }
  | _ => none }
def fnTurnedRow : OpenClaim := { program := "ytpdhdogllejdbaa", sum := "d99bf1154bbc9f133006866370bf7e8ba1b0283798aa46b9cd2eadbc649b3683", func := "loop.example/g03302/laws.FnTurned", spec := "fnTurned", unfollowed := true, recurses := true, apart := false }
def FnTurnedSaid : Prop := fnTurnedRow.holds Try.pinned (OpenSpec.ofChange fnTurnedSpec)

/-- ITS FALSE NEIGHBOUR: 'it returns false'. Refute it at one input. -/
def fnTurnedWrong : ChangeSpec := { name := "fnTurned", fn := fun _ => fun
  | [d] => { results := [.lit (.bool false)], args := [d] }
  | _ => none }
def FnTurnedWrongFalsely : Prop := fnTurnedRow.holds Try.pinned (OpenSpec.ofChange fnTurnedWrong)

/-- 'laws.FnWeights': WHATEVER THE INPUT: true; the input reads as it did. -/
def fnWeightsSpec : ChangeSpec := { name := "fnWeights", fn := fun _ => fun
  | [d] => { results := [.lit (.bool true)], args := [d] }
  | _ => none }
def fnWeightsRow : OpenClaim := { program := "ytpdhdogllejdbaa", sum := "d99bf1154bbc9f133006866370bf7e8ba1b0283798aa46b9cd2eadbc649b3683", func := "loop.example/g03302/laws.FnWeights", spec := "fnWeights", apart := false }
def FnWeightsSaid : Prop := fnWeightsRow.holds Try.pinned (OpenSpec.ofChange fnWeightsSpec)

/-- ITS FALSE NEIGHBOUR: 'it returns false'. Refute it at one input. -/
def fnWeightsWrong : ChangeSpec := { name := "fnWeights", fn := fun _ => fun
  | [d] => { results := [.lit (.bool false)], args := [d] }
  | _ => none }
def FnWeightsWrongFalsely : Prop := fnWeightsRow.holds Try.pinned (OpenSpec.ofChange fnWeightsWrong)

/-- 'laws.FnExactHasHole': WHATEVER THE INPUT: true; the input reads as it did. -/
def fnExactHasHoleSpec : ChangeSpec := { name := "fnExactHasHole", fn := fun _ => fun
  | [d1, d2] => { results := [.lit (.bool true)], args := [d1, d2] }
  | _ => none }
def fnExactHasHoleRow : OpenClaim := { program := "ytpdhdogllejdbaa", sum := "d99bf1154bbc9f133006866370bf7e8ba1b0283798aa46b9cd2eadbc649b3683", func := "loop.example/g03302/laws.FnExactHasHole", spec := "fnExactHasHole", apart := false }
def FnExactHasHoleSaid : Prop := fnExactHasHoleRow.holds Try.pinned (OpenSpec.ofChange fnExactHasHoleSpec)

/-- ITS FALSE NEIGHBOUR: 'it returns false'. Refute it at one input. -/
def fnExactHasHoleWrong : ChangeSpec := { name := "fnExactHasHole", fn := fun _ => fun
  | [d1, d2] => { results := [.lit (.bool false)], args := [d1, d2] }
  | _ => none }
def FnExactHasHoleWrongFalsely : Prop := fnExactHasHoleRow.holds Try.pinned (OpenSpec.ofChange fnExactHasHoleWrong)

/-- 'laws.FnExactIsLoneHole': WHATEVER THE INPUT: true; the input reads as it did. -/
def fnExactIsLoneHoleSpec : ChangeSpec := { name := "fnExactIsLoneHole", fn := fun _ => fun
  | [d1, d2] => { results := [.lit (.bool true)], args := [d1, d2] }
  | _ => none }
def fnExactIsLoneHoleRow : OpenClaim := { program := "ytpdhdogllejdbaa", sum := "d99bf1154bbc9f133006866370bf7e8ba1b0283798aa46b9cd2eadbc649b3683", func := "loop.example/g03302/laws.FnExactIsLoneHole", spec := "fnExactIsLoneHole", apart := false }
def FnExactIsLoneHoleSaid : Prop := fnExactIsLoneHoleRow.holds Try.pinned (OpenSpec.ofChange fnExactIsLoneHoleSpec)

/-- ITS FALSE NEIGHBOUR: 'it returns false'. Refute it at one input. -/
def fnExactIsLoneHoleWrong : ChangeSpec := { name := "fnExactIsLoneHole", fn := fun _ => fun
  | [d1, d2] => { results := [.lit (.bool false)], args := [d1, d2] }
  | _ => none }
def FnExactIsLoneHoleWrongFalsely : Prop := fnExactIsLoneHoleRow.holds Try.pinned (OpenSpec.ofChange fnExactIsLoneHoleWrong)

/-- 'laws.FnExactHasPeg': WHATEVER THE INPUT: true; the input reads as it did. -/
def fnExactHasPegSpec : ChangeSpec := { name := "fnExactHasPeg", fn := fun _ => fun
  | [d1, d2, d3] => { results := [.lit (.bool true)], args := [d1, d2, d3] }
  | _ => none }
def fnExactHasPegRow : OpenClaim := { program := "ytpdhdogllejdbaa", sum := "d99bf1154bbc9f133006866370bf7e8ba1b0283798aa46b9cd2eadbc649b3683", func := "loop.example/g03302/laws.FnExactHasPeg", spec := "fnExactHasPeg", apart := false }
def FnExactHasPegSaid : Prop := fnExactHasPegRow.holds Try.pinned (OpenSpec.ofChange fnExactHasPegSpec)

/-- ITS FALSE NEIGHBOUR: 'it returns false'. Refute it at one input. -/
def fnExactHasPegWrong : ChangeSpec := { name := "fnExactHasPeg", fn := fun _ => fun
  | [d1, d2, d3] => { results := [.lit (.bool false)], args := [d1, d2, d3] }
  | _ => none }
def FnExactHasPegWrongFalsely : Prop := fnExactHasPegRow.holds Try.pinned (OpenSpec.ofChange fnExactHasPegWrong)

/- THE SECOND FORM. 'bulk': how many values and letters a reading holds, each counted each time it is reached (what is shared counts as often as it is met; a slice's spare places count too). A statement '..UptoSaid' is the law's where the arguments, and the package variables that the reading takes, are together of bulk at most 1048576: NARROWER than '..Said'. Prove '..Said' where nothing that the law and all that it calls make is longer than what came in: it says more and counts as full. Else prove '..UptoSaid'. A law counts once. -/
mutual
def uptoBulk {H : Type} : DataW H → Nat
  | .lit (.string bytes) => bytes.length + 1
  | .lit _ => 1
  | .nil => 1
  | .ptr d => uptoBulk d + 1
  | .slice elems spare => uptoBulkAll elems + uptoBulkAll spare + 1
  | .agg parts => uptoBulkAll parts + 1
  | .iface _ d => uptoBulk d + 1
  | .map entries => uptoBulkEntries entries + 1
  | .held _ => 1
def uptoBulkAll {H : Type} : List (DataW H) → Nat
  | [] => 0
  | d :: r => uptoBulk d + uptoBulkAll r
def uptoBulkEntries {H : Type} : List (Lit × DataW H) → Nat
  | [] => 0
  | x :: r => uptoBulkEntry x + uptoBulkEntries r
def uptoBulkEntry {H : Type} : Lit × DataW H → Nat
  | (.string bytes, d) => bytes.length + uptoBulk d + 1
  | (_, d) => uptoBulk d + 1
 end
def uptoSmall : (H : Type) → List (DataW H) → Bool := fun _ ds => decide (uptoBulkAll ds ≤ 1048576)
def OpenSpec.upto (s : _root_.Go.ChangeSpec) : _root_.Go.OpenSpec := { _root_.Go.OpenSpec.ofChange s with cond := some uptoSmall }

/-- 'laws.FnLines', WHERE WHAT IT READS IS OF BULK AT MOST 1048576: true; the input reads as it did. -/
def fnLinesUptoRow : OpenClaim := { program := "ytpdhdogllejdbaa", sum := "d99bf1154bbc9f133006866370bf7e8ba1b0283798aa46b9cd2eadbc649b3683", func := "loop.example/g03302/laws.FnLines", spec := "fnLines", apart := false, narrowed := true }
def FnLinesUptoSaid : Prop := fnLinesUptoRow.holds Try.pinned (OpenSpec.upto fnLinesSpec)

/-- 'laws.FnPositions', WHERE WHAT IT READS IS OF BULK AT MOST 1048576: true; the input reads as it did. -/
def fnPositionsUptoRow : OpenClaim := { program := "ytpdhdogllejdbaa", sum := "d99bf1154bbc9f133006866370bf7e8ba1b0283798aa46b9cd2eadbc649b3683", func := "loop.example/g03302/laws.FnPositions", spec := "fnPositions", apart := false, narrowed := true }
def FnPositionsUptoSaid : Prop := fnPositionsUptoRow.holds Try.pinned (OpenSpec.upto fnPositionsSpec)

/-- 'laws.FnJumps', WHERE WHAT IT READS IS OF BULK AT MOST 1048576: true; the input reads as it did. -/
def fnJumpsUptoRow : OpenClaim := { program := "ytpdhdogllejdbaa", sum := "d99bf1154bbc9f133006866370bf7e8ba1b0283798aa46b9cd2eadbc649b3683", func := "loop.example/g03302/laws.FnJumps", spec := "fnJumps", unfollowed := true, recurses := true, apart := false, narrowed := true }
def FnJumpsUptoSaid : Prop := fnJumpsUptoRow.holds Try.pinned (OpenSpec.upto fnJumpsSpec)

/-- 'laws.FnGames', WHERE WHAT IT READS IS OF BULK AT MOST 1048576: true; the input reads as it did. -/
def fnGamesUptoRow : OpenClaim := { program := "ytpdhdogllejdbaa", sum := "d99bf1154bbc9f133006866370bf7e8ba1b0283798aa46b9cd2eadbc649b3683", func := "loop.example/g03302/laws.FnGames", spec := "fnGames", unfollowed := true, recurses := true, apart := false, narrowed := true }
def FnGamesUptoSaid : Prop := fnGamesUptoRow.holds Try.pinned (OpenSpec.upto fnGamesSpec)

/-- 'laws.FnKeys', WHERE WHAT IT READS IS OF BULK AT MOST 1048576: true; the input reads as it did. -/
def fnKeysUptoRow : OpenClaim := { program := "ytpdhdogllejdbaa", sum := "d99bf1154bbc9f133006866370bf7e8ba1b0283798aa46b9cd2eadbc649b3683", func := "loop.example/g03302/laws.FnKeys", spec := "fnKeys", apart := false, narrowed := true }
def FnKeysUptoSaid : Prop := fnKeysUptoRow.holds Try.pinned (OpenSpec.upto fnKeysSpec)

/-- 'laws.FnTurned', WHERE WHAT IT READS IS OF BULK AT MOST 1048576: true; the input reads as it did. -/
def fnTurnedUptoRow : OpenClaim := { program := "ytpdhdogllejdbaa", sum := "d99bf1154bbc9f133006866370bf7e8ba1b0283798aa46b9cd2eadbc649b3683", func := "loop.example/g03302/laws.FnTurned", spec := "fnTurned", unfollowed := true, recurses := true, apart := false, narrowed := true }
def FnTurnedUptoSaid : Prop := fnTurnedUptoRow.holds Try.pinned (OpenSpec.upto fnTurnedSpec)

/-- 'laws.FnWeights', WHERE WHAT IT READS IS OF BULK AT MOST 1048576: true; the input reads as it did. -/
def fnWeightsUptoRow : OpenClaim := { program := "ytpdhdogllejdbaa", sum := "d99bf1154bbc9f133006866370bf7e8ba1b0283798aa46b9cd2eadbc649b3683", func := "loop.example/g03302/laws.FnWeights", spec := "fnWeights", apart := false, narrowed := true }
def FnWeightsUptoSaid : Prop := fnWeightsUptoRow.holds Try.pinned (OpenSpec.upto fnWeightsSpec)

/-- 'laws.FnExactHasHole', WHERE WHAT IT READS IS OF BULK AT MOST 1048576: true; the input reads as it did. -/
def fnExactHasHoleUptoRow : OpenClaim := { program := "ytpdhdogllejdbaa", sum := "d99bf1154bbc9f133006866370bf7e8ba1b0283798aa46b9cd2eadbc649b3683", func := "loop.example/g03302/laws.FnExactHasHole", spec := "fnExactHasHole", apart := false, narrowed := true }
def FnExactHasHoleUptoSaid : Prop := fnExactHasHoleUptoRow.holds Try.pinned (OpenSpec.upto fnExactHasHoleSpec)

/-- 'laws.FnExactIsLoneHole', WHERE WHAT IT READS IS OF BULK AT MOST 1048576: true; the input reads as it did. -/
def fnExactIsLoneHoleUptoRow : OpenClaim := { program := "ytpdhdogllejdbaa", sum := "d99bf1154bbc9f133006866370bf7e8ba1b0283798aa46b9cd2eadbc649b3683", func := "loop.example/g03302/laws.FnExactIsLoneHole", spec := "fnExactIsLoneHole", apart := false, narrowed := true }
def FnExactIsLoneHoleUptoSaid : Prop := fnExactIsLoneHoleUptoRow.holds Try.pinned (OpenSpec.upto fnExactIsLoneHoleSpec)

/-- 'laws.FnExactHasPeg', WHERE WHAT IT READS IS OF BULK AT MOST 1048576: true; the input reads as it did. -/
def fnExactHasPegUptoRow : OpenClaim := { program := "ytpdhdogllejdbaa", sum := "d99bf1154bbc9f133006866370bf7e8ba1b0283798aa46b9cd2eadbc649b3683", func := "loop.example/g03302/laws.FnExactHasPeg", spec := "fnExactHasPeg", apart := false, narrowed := true }
def FnExactHasPegUptoSaid : Prop := fnExactHasPegUptoRow.holds Try.pinned (OpenSpec.upto fnExactHasPegSpec)

end Rows
end Go.Proofs.Ytpdhdogllejdbaa
