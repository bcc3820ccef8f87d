/-
  No cell of these rows narrows 'for every input' (looked for: loops, veiled, ifaces, maps, wideKeys, modest, calm, conditions, laid).
  DERIVED. THE GIVEN ROWS OF THIS SEAT. 5 by the template 'for every input the law returns true; each argument reads behind the call as it read before'; 0 by the template 'total and deterministic' (their statements: YtlklnabnomfhbaaTotals.lean).
  GIVEN WITH THE SEED: the statements are not yours to turn. If you find one false, say at which input.
  Laid BY PROGRAM, IN A SANDBOX (cutbox-rows.mjs): the forced cells as the released guide's own fill.sh prints them over the translation d3cbf7c59bd95de4… (all of the seat's roots in one cut). By AI agents, Wed Nov 11 2026. No macro, syntax, notation, axiom, sorry.
-/
import Derived.Test.YtlklnabnomfhbaaChecked
import GoSem.Claim
import GoSem.ClaimJoined
import GoSem.ClaimMapViews
import Derived.JoinedTies
import Derived.KernelRfl
namespace Go.Proofs.Ytlklnabnomfhbaa
/- THE CELL 'sum', in the pinned program and in every row, IS THE sha256 OF THE DUMP (.gsa) THAT YtlklnabnomfhbaaProg.lean LOADS. Nothing in Lean hashes anything: it is a label: what it is worth is what the hold of that sum in a sandbox is worth. -/
noncomputable def Try.pinned : Pinned := { name := "ytlklnabnomfhbaa", sum := "d3cbf7c59bd95de49ac8cc67f5708b23b0e45f527aee1f7030522c3f70cd8a74", checked := Try.checked }
namespace Rows
def none {H : Type} : Left H := { results := [], args := [] }

/-- 'laws.FnExactWayTo': WHATEVER THE INPUT: true; the input reads as it did. -/
def fnExactWayToSpec : ChangeSpec := { name := "fnExactWayTo", fn := fun _ => fun
  | [d1, d2, d3] => { results := [.lit (.bool true)], args := [d1, d2, d3] }
  | _ => none }
def fnExactWayToRow : OpenClaim := { program := "ytlklnabnomfhbaa", sum := "d3cbf7c59bd95de49ac8cc67f5708b23b0e45f527aee1f7030522c3f70cd8a74", func := "loop.example/g03302/laws.FnExactWayTo", spec := "fnExactWayTo", unfollowed := true, recurses := true, apart := false }
def FnExactWayToSaid : Prop := fnExactWayToRow.holds Try.pinned (OpenSpec.ofChange fnExactWayToSpec)

/-- ITS FALSE NEIGHBOUR: 'it returns false'. Refute it at one input. -/
def fnExactWayToWrong : ChangeSpec := { name := "fnExactWayTo", fn := fun _ => fun
  | [d1, d2, d3] => { results := [.lit (.bool false)], args := [d1, d2, d3] }
  | _ => none }
def FnExactWayToWrongFalsely : Prop := fnExactWayToRow.holds Try.pinned (OpenSpec.ofChange fnExactWayToWrong)

/-- 'laws.FnExactWayToSingle': WHATEVER THE INPUT: true; the input reads as it did. -/
def fnExactWayToSingleSpec : ChangeSpec := { name := "fnExactWayToSingle", fn := fun _ => fun
  | [d1, d2] => { results := [.lit (.bool true)], args := [d1, d2] }
  | _ => none }
def fnExactWayToSingleRow : OpenClaim := { program := "ytlklnabnomfhbaa", sum := "d3cbf7c59bd95de49ac8cc67f5708b23b0e45f527aee1f7030522c3f70cd8a74", func := "loop.example/g03302/laws.FnExactWayToSingle", spec := "fnExactWayToSingle", unfollowed := true, recurses := true, apart := false }
def FnExactWayToSingleSaid : Prop := fnExactWayToSingleRow.holds Try.pinned (OpenSpec.ofChange fnExactWayToSingleSpec)

/-- ITS FALSE NEIGHBOUR: 'it returns false'. Refute it at one input. -/
def fnExactWayToSingleWrong : ChangeSpec := { name := "fnExactWayToSingle", fn := fun _ => fun
  | [d1, d2] => { results := [.lit (.bool false)], args := [d1, d2] }
  | _ => none }
def FnExactWayToSingleWrongFalsely : Prop := fnExactWayToSingleRow.holds Try.pinned (OpenSpec.ofChange fnExactWayToSingleWrong)

/-- 'laws.FnExactJumpsBetween': WHATEVER THE INPUT: true; the input reads as it did. -/
def fnExactJumpsBetweenSpec : ChangeSpec := { name := "fnExactJumpsBetween", fn := fun _ => fun
  | [d1, d2, d3] => { results := [.lit (.bool true)], args := [d1, d2, d3] }
  | _ => none }
def fnExactJumpsBetweenRow : OpenClaim := { program := "ytlklnabnomfhbaa", sum := "d3cbf7c59bd95de49ac8cc67f5708b23b0e45f527aee1f7030522c3f70cd8a74", func := "loop.example/g03302/laws.FnExactJumpsBetween", spec := "fnExactJumpsBetween", recurses := true, apart := false }
def FnExactJumpsBetweenSaid : Prop := fnExactJumpsBetweenRow.holds Try.pinned (OpenSpec.ofChange fnExactJumpsBetweenSpec)

/-- ITS FALSE NEIGHBOUR: 'it returns false'. Refute it at one input. -/
def fnExactJumpsBetweenWrong : ChangeSpec := { name := "fnExactJumpsBetween", fn := fun _ => fun
  | [d1, d2, d3] => { results := [.lit (.bool false)], args := [d1, d2, d3] }
  | _ => none }
def FnExactJumpsBetweenWrongFalsely : Prop := fnExactJumpsBetweenRow.holds Try.pinned (OpenSpec.ofChange fnExactJumpsBetweenWrong)

/-- 'laws.FnExactGoodJumps': WHATEVER THE INPUT: true; the input reads as it did. -/
def fnExactGoodJumpsSpec : ChangeSpec := { name := "fnExactGoodJumps", fn := fun _ => fun
  | [d1, d2, d3] => { results := [.lit (.bool true)], args := [d1, d2, d3] }
  | _ => none }
def fnExactGoodJumpsRow : OpenClaim := { program := "ytlklnabnomfhbaa", sum := "d3cbf7c59bd95de49ac8cc67f5708b23b0e45f527aee1f7030522c3f70cd8a74", func := "loop.example/g03302/laws.FnExactGoodJumps", spec := "fnExactGoodJumps", unfollowed := true, recurses := true, apart := false }
def FnExactGoodJumpsSaid : Prop := fnExactGoodJumpsRow.holds Try.pinned (OpenSpec.ofChange fnExactGoodJumpsSpec)

/-- ITS FALSE NEIGHBOUR: 'it returns false'. Refute it at one input. -/
def fnExactGoodJumpsWrong : ChangeSpec := { name := "fnExactGoodJumps", fn := fun _ => fun
  | [d1, d2, d3] => { results := [.lit (.bool false)], args := [d1, d2, d3] }
  | _ => none }
def FnExactGoodJumpsWrongFalsely : Prop := fnExactGoodJumpsRow.holds Try.pinned (OpenSpec.ofChange fnExactGoodJumpsWrong)

/-- 'laws.FnExactIsSpoiled': WHATEVER THE INPUT: true; the input reads as it did. -/
def fnExactIsSpoiledSpec : ChangeSpec := { name := "fnExactIsSpoiled", fn := fun _ => fun
  | [d1, d2, d3, d4] => { results := [.lit (.bool true)], args := [d1, d2, d3, d4] }
  | _ => none }
def fnExactIsSpoiledRow : OpenClaim := { program := "ytlklnabnomfhbaa", sum := "d3cbf7c59bd95de49ac8cc67f5708b23b0e45f527aee1f7030522c3f70cd8a74", func := "loop.example/g03302/laws.FnExactIsSpoiled", spec := "fnExactIsSpoiled", recurses := true, apart := false }
def FnExactIsSpoiledSaid : Prop := fnExactIsSpoiledRow.holds Try.pinned (OpenSpec.ofChange fnExactIsSpoiledSpec)

/-- ITS FALSE NEIGHBOUR: 'it returns false'. Refute it at one input. -/
def fnExactIsSpoiledWrong : ChangeSpec := { name := "fnExactIsSpoiled", fn := fun _ => fun
  | [d1, d2, d3, d4] => { results := [.lit (.bool false)], args := [d1, d2, d3, d4] }
  | _ => none }
def FnExactIsSpoiledWrongFalsely : Prop := fnExactIsSpoiledRow.holds Try.pinned (OpenSpec.ofChange fnExactIsSpoiledWrong)

/- THE SECOND FORM. 'bulk': how many values and letters a reading holds, each counted each time it is reached (what is shared counts as often as it is met; a slice's spare places count too). A statement '..UptoSaid' is the law's where the arguments, and the package variables that the reading takes, are together of bulk at most 1048576: NARROWER than '..Said'. Prove '..Said' where nothing that the law and all that it calls make is longer than what came in: it says more and counts as full. Else prove '..UptoSaid'. A law counts once. -/
mutual
def uptoBulk {H : Type} : DataW H → Nat
  | .lit (.string bytes) => bytes.length + 1
  | .lit _ => 1
  | .nil => 1
  | .ptr d => uptoBulk d + 1
  | .slice elems spare => uptoBulkAll elems + uptoBulkAll spare + 1
  | .agg parts => uptoBulkAll parts + 1
  | .iface _ d => uptoBulk d + 1
  | .map entries => uptoBulkEntries entries + 1
  | .held _ => 1
def uptoBulkAll {H : Type} : List (DataW H) → Nat
  | [] => 0
  | d :: r => uptoBulk d + uptoBulkAll r
def uptoBulkEntries {H : Type} : List (Lit × DataW H) → Nat
  | [] => 0
  | x :: r => uptoBulkEntry x + uptoBulkEntries r
def uptoBulkEntry {H : Type} : Lit × DataW H → Nat
  | (.string bytes, d) => bytes.length + uptoBulk d + 1
  | (_, d) => uptoBulk d + 1
 end
def uptoSmall : (H : Type) → List (DataW H) → Bool := fun _ ds => decide (uptoBulkAll ds ≤ 1048576)
def OpenSpec.upto (s : _root_.Go.ChangeSpec) : _root_.Go.OpenSpec := { _root_.Go.OpenSpec.ofChange s with cond := some uptoSmall }

/-- 'laws.FnExactWayTo', WHERE WHAT IT READS IS OF BULK AT MOST 1048576: true; the input reads as it did. -/
def fnExactWayToUptoRow : OpenClaim := { program := "ytlklnabnomfhbaa", sum := "d3cbf7c59bd95de49ac8cc67f5708b23b0e45f527aee1f7030522c3f70cd8a74", func := "loop.example/g03302/laws.FnExactWayTo", spec := "fnExactWayTo", unfollowed := true, recurses := true, apart := false, narrowed := true }
def FnExactWayToUptoSaid : Prop := fnExactWayToUptoRow.holds Try.pinned (OpenSpec.upto fnExactWayToSpec)

/-- 'laws.FnExactWayToSingle', WHERE WHAT IT READS IS OF BULK AT MOST 1048576: true; the input reads as it did. -/
def fnExactWayToSingleUptoRow : OpenClaim := { program := "ytlklnabnomfhbaa", sum := "d3cbf7c59bd95de49ac8cc67f5708b23b0e45f527aee1f7030522c3f70cd8a74", func := "loop.example/g03302/laws.FnExactWayToSingle", spec := "fnExactWayToSingle", unfollowed := true, recurses := true, apart := false, narrowed := true }
def FnExactWayToSingleUptoSaid : Prop := fnExactWayToSingleUptoRow.holds Try.pinned (OpenSpec.upto fnExactWayToSingleSpec)

/-- 'laws.FnExactJumpsBetween', WHERE WHAT IT READS IS OF BULK AT MOST 1048576: true; the input reads as it did. -/
def fnExactJumpsBetweenUptoRow : OpenClaim := { program := "ytlklnabnomfhbaa", sum := "d3cbf7c59bd95de49ac8cc67f5708b23b0e45f527aee1f7030522c3f70cd8a74", func := "loop.example/g03302/laws.FnExactJumpsBetween", spec := "fnExactJumpsBetween", recurses := true, apart := false, narrowed := true }
def FnExactJumpsBetweenUptoSaid : Prop := fnExactJumpsBetweenUptoRow.holds Try.pinned (OpenSpec.upto fnExactJumpsBetweenSpec)

/-- 'laws.FnExactGoodJumps', WHERE WHAT IT READS IS OF BULK AT MOST 1048576: true; the input reads as it did. -/
def fnExactGoodJumpsUptoRow : OpenClaim := { program := "ytlklnabnomfhbaa", sum := "d3cbf7c59bd95de49ac8cc67f5708b23b0e45f527aee1f7030522c3f70cd8a74", func := "loop.example/g03302/laws.FnExactGoodJumps", spec := "fnExactGoodJumps", unfollowed := true, recurses := true, apart := false, narrowed := true }
def FnExactGoodJumpsUptoSaid : Prop := fnExactGoodJumpsUptoRow.holds Try.pinned (OpenSpec.upto fnExactGoodJumpsSpec)

/-- 'laws.FnExactIsSpoiled', WHERE WHAT IT READS IS OF BULK AT MOST 1048576: true; the input reads as it did. -/
def fnExactIsSpoiledUptoRow : OpenClaim := { program := "ytlklnabnomfhbaa", sum := "d3cbf7c59bd95de49ac8cc67f5708b23b0e45f527aee1f7030522c3f70cd8a74", func := "loop.example/g03302/laws.FnExactIsSpoiled", spec := "fnExactIsSpoiled", recurses := true, apart := false, narrowed := true }
def FnExactIsSpoiledUptoSaid : Prop := fnExactIsSpoiledUptoRow.holds Try.pinned (OpenSpec.upto fnExactIsSpoiledSpec)

end Rows
end Go.Proofs.Ytlklnabnomfhbaa
