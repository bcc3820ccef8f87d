/-
  No cell of these rows narrows 'for every input' (looked for: loops, veiled, ifaces, maps, wideKeys, modest, calm, conditions, laid).
  DERIVED. THE GIVEN ROWS OF THIS SEAT. 5 by the template 'for every input the law returns true; each argument reads behind the call as it read before'; 0 by the template 'total and deterministic' (their statements: YtkaabjklfhoooaaTotals.lean).
  GIVEN WITH THE SEED: the statements are not yours to turn. If you find one false, say at which input.
  Laid BY PROGRAM, IN A SANDBOX (cutbox-rows.mjs): the forced cells as the released guide's own fill.sh prints them over the translation 69dbd794bb9c4a1f… (all of the seat's roots in one cut). By AI agents, Wed Nov 11 2026. No macro, syntax, notation, axiom, sorry.
-/
import Derived.Test.YtkaabjklfhoooaaChecked
import GoSem.Claim
import GoSem.ClaimJoined
import GoSem.ClaimMapViews
import Derived.JoinedTies
import Derived.KernelRfl
namespace Go.Proofs.Ytkaabjklfhoooaa
/- THE CELL 'sum', in the pinned program and in every row, IS THE sha256 OF THE DUMP (.gsa) THAT YtkaabjklfhoooaaProg.lean LOADS. Nothing in Lean hashes anything: it is a label: what it is worth is what the hold of that sum in a sandbox is worth. -/
noncomputable def Try.pinned : Pinned := { name := "ytkaabjklfhoooaa", sum := "69dbd794bb9c4a1f650f8a1f07574b97ebec1877ec9e2b9f085d85427aa0cfcb", checked := Try.checked }
namespace Rows
def none {H : Type} : Left H := { results := [], args := [] }

/-- 'laws.FnExactIsProof': WHATEVER THE INPUT: true; the input reads as it did. -/
def fnExactIsProofSpec : ChangeSpec := { name := "fnExactIsProof", fn := fun _ => fun
  | [d1, d2, d3, d4] => { results := [.lit (.bool true)], args := [d1, d2, d3, d4] }
  | _ => none }
def fnExactIsProofRow : OpenClaim := { program := "ytkaabjklfhoooaa", sum := "69dbd794bb9c4a1f650f8a1f07574b97ebec1877ec9e2b9f085d85427aa0cfcb", func := "loop.example/g03302/laws.FnExactIsProof", spec := "fnExactIsProof", apart := false }
def FnExactIsProofSaid : Prop := fnExactIsProofRow.holds Try.pinned (OpenSpec.ofChange fnExactIsProofSpec)

/-- ITS FALSE NEIGHBOUR: 'it returns false'. Refute it at one input. -/
def fnExactIsProofWrong : ChangeSpec := { name := "fnExactIsProof", fn := fun _ => fun
  | [d1, d2, d3, d4] => { results := [.lit (.bool false)], args := [d1, d2, d3, d4] }
  | _ => none }
def FnExactIsProofWrongFalsely : Prop := fnExactIsProofRow.holds Try.pinned (OpenSpec.ofChange fnExactIsProofWrong)

/-- 'laws.FnExactClassWeights': WHATEVER THE INPUT: true; the input reads as it did. -/
def fnExactClassWeightsSpec : ChangeSpec := { name := "fnExactClassWeights", fn := fun _ => fun
  | [d1, d2] => { results := [.lit (.bool true)], args := [d1, d2] }
  | _ => none }
def fnExactClassWeightsRow : OpenClaim := { program := "ytkaabjklfhoooaa", sum := "69dbd794bb9c4a1f650f8a1f07574b97ebec1877ec9e2b9f085d85427aa0cfcb", func := "loop.example/g03302/laws.FnExactClassWeights", spec := "fnExactClassWeights", unfollowed := true, recurses := true, apart := false }
def FnExactClassWeightsSaid : Prop := fnExactClassWeightsRow.holds Try.pinned (OpenSpec.ofChange fnExactClassWeightsSpec)

/-- ITS FALSE NEIGHBOUR: 'it returns false'. Refute it at one input. -/
def fnExactClassWeightsWrong : ChangeSpec := { name := "fnExactClassWeights", fn := fun _ => fun
  | [d1, d2] => { results := [.lit (.bool false)], args := [d1, d2] }
  | _ => none }
def FnExactClassWeightsWrongFalsely : Prop := fnExactClassWeightsRow.holds Try.pinned (OpenSpec.ofChange fnExactClassWeightsWrong)

/-- 'laws.FnExactFindProof': WHATEVER THE INPUT: true; the input reads as it did. -/
def fnExactFindProofSpec : ChangeSpec := { name := "fnExactFindProof", fn := fun _ => fun
  | [d1, d2, d3] => { results := [.lit (.bool true)], args := [d1, d2, d3] }
  | _ => none }
def fnExactFindProofRow : OpenClaim := { program := "ytkaabjklfhoooaa", sum := "69dbd794bb9c4a1f650f8a1f07574b97ebec1877ec9e2b9f085d85427aa0cfcb", func := "loop.example/g03302/laws.FnExactFindProof", spec := "fnExactFindProof", unfollowed := true, recurses := true, apart := false }
def FnExactFindProofSaid : Prop := fnExactFindProofRow.holds Try.pinned (OpenSpec.ofChange fnExactFindProofSpec)

/-- ITS FALSE NEIGHBOUR: 'it returns false'. Refute it at one input. -/
def fnExactFindProofWrong : ChangeSpec := { name := "fnExactFindProof", fn := fun _ => fun
  | [d1, d2, d3] => { results := [.lit (.bool false)], args := [d1, d2, d3] }
  | _ => none }
def FnExactFindProofWrongFalsely : Prop := fnExactFindProofRow.holds Try.pinned (OpenSpec.ofChange fnExactFindProofWrong)

/-- 'laws.FnExactColumnWeights': WHATEVER THE INPUT: true; the input reads as it did. -/
def fnExactColumnWeightsSpec : ChangeSpec := { name := "fnExactColumnWeights", fn := fun _ => fun
  | [d1, d2] => { results := [.lit (.bool true)], args := [d1, d2] }
  | _ => none }
def fnExactColumnWeightsRow : OpenClaim := { program := "ytkaabjklfhoooaa", sum := "69dbd794bb9c4a1f650f8a1f07574b97ebec1877ec9e2b9f085d85427aa0cfcb", func := "loop.example/g03302/laws.FnExactColumnWeights", spec := "fnExactColumnWeights", unfollowed := true, recurses := true, apart := false }
def FnExactColumnWeightsSaid : Prop := fnExactColumnWeightsRow.holds Try.pinned (OpenSpec.ofChange fnExactColumnWeightsSpec)

/-- ITS FALSE NEIGHBOUR: 'it returns false'. Refute it at one input. -/
def fnExactColumnWeightsWrong : ChangeSpec := { name := "fnExactColumnWeights", fn := fun _ => fun
  | [d1, d2] => { results := [.lit (.bool false)], args := [d1, d2] }
  | _ => none }
def FnExactColumnWeightsWrongFalsely : Prop := fnExactColumnWeightsRow.holds Try.pinned (OpenSpec.ofChange fnExactColumnWeightsWrong)

/-- 'laws.FnExactRowWeights': WHATEVER THE INPUT: true; the input reads as it did. -/
def fnExactRowWeightsSpec : ChangeSpec := { name := "fnExactRowWeights", fn := fun _ => fun
  | [d1, d2] => { results := [.lit (.bool true)], args := [d1, d2] }
  | _ => none }
def fnExactRowWeightsRow : OpenClaim := { program := "ytkaabjklfhoooaa", sum := "69dbd794bb9c4a1f650f8a1f07574b97ebec1877ec9e2b9f085d85427aa0cfcb", func := "loop.example/g03302/laws.FnExactRowWeights", spec := "fnExactRowWeights", unfollowed := true, recurses := true, apart := false }
def FnExactRowWeightsSaid : Prop := fnExactRowWeightsRow.holds Try.pinned (OpenSpec.ofChange fnExactRowWeightsSpec)

/-- ITS FALSE NEIGHBOUR: 'it returns false'. Refute it at one input. -/
def fnExactRowWeightsWrong : ChangeSpec := { name := "fnExactRowWeights", fn := fun _ => fun
  | [d1, d2] => { results := [.lit (.bool false)], args := [d1, d2] }
  | _ => none }
def FnExactRowWeightsWrongFalsely : Prop := fnExactRowWeightsRow.holds Try.pinned (OpenSpec.ofChange fnExactRowWeightsWrong)

/- THE SECOND FORM. 'bulk': how many values and letters a reading holds, each counted each time it is reached (what is shared counts as often as it is met; a slice's spare places count too). A statement '..UptoSaid' is the law's where the arguments, and the package variables that the reading takes, are together of bulk at most 1048576: NARROWER than '..Said'. Prove '..Said' where nothing that the law and all that it calls make is longer than what came in: it says more and counts as full. Else prove '..UptoSaid'. A law counts once. -/
mutual
def uptoBulk {H : Type} : DataW H → Nat
  | .lit (.string bytes) => bytes.length + 1
  | .lit _ => 1
  | .nil => 1
  | .ptr d => uptoBulk d + 1
  | .slice elems spare => uptoBulkAll elems + uptoBulkAll spare + 1
  | .agg parts => uptoBulkAll parts + 1
  | .iface _ d => uptoBulk d + 1
  | .map entries => uptoBulkEntries entries + 1
  | .held _ => 1
def uptoBulkAll {H : Type} : List (DataW H) → Nat
  | [] => 0
  | d :: r => uptoBulk d + uptoBulkAll r
def uptoBulkEntries {H : Type} : List (Lit × DataW H) → Nat
  | [] => 0
  | x :: r => uptoBulkEntry x + uptoBulkEntries r
def uptoBulkEntry {H : Type} : Lit × DataW H → Nat
  | (.string bytes, d) => bytes.length + uptoBulk d + 1
  | (_, d) => uptoBulk d + 1
 end
def uptoSmall : (H : Type) → List (DataW H) → Bool := fun _ ds => decide (uptoBulkAll ds ≤ 1048576)
def OpenSpec.upto (s : _root_.Go.ChangeSpec) : _root_.Go.OpenSpec := { _root_.Go.OpenSpec.ofChange s with cond := some uptoSmall }

/-- 'laws.FnExactIsProof', WHERE WHAT IT READS IS OF BULK AT MOST 1048576: true; the input reads as it did. -/
def fnExactIsProofUptoRow : OpenClaim := { program := "ytkaabjklfhoooaa", sum := "69dbd794bb9c4a1f650f8a1f07574b97ebec1877ec9e2b9f085d85427aa0cfcb", func := "loop.example/g03302/laws.FnExactIsProof", spec := "fnExactIsProof", apart := false, narrowed := true }
def FnExactIsProofUptoSaid : Prop := fnExactIsProofUptoRow.holds Try.pinned (OpenSpec.upto fnExactIsProofSpec)

/-- 'laws.FnExactClassWeights', WHERE WHAT IT READS IS OF BULK AT MOST 1048576: true; the input reads as it did. -/
def fnExactClassWeightsUptoRow : OpenClaim := { program := "ytkaabjklfhoooaa", sum := "69dbd794bb9c4a1f650f8a1f07574b97ebec1877ec9e2b9f085d85427aa0cfcb", func := "loop.example/g03302/laws.FnExactClassWeights", spec := "fnExactClassWeights", unfollowed := true, recurses := true, apart := false, narrowed := true }
def FnExactClassWeightsUptoSaid : Prop := fnExactClassWeightsUptoRow.holds Try.pinned (OpenSpec.upto fnExactClassWeightsSpec)

/-- 'laws.FnExactFindProof', WHERE WHAT IT READS IS OF BULK AT MOST 1048576: true; the input reads as it did. -/
def fnExactFindProofUptoRow : OpenClaim := { program := "ytkaabjklfhoooaa", sum := "69dbd794bb9c4a1f650f8a1f07574b97ebec1877ec9e2b9f085d85427aa0cfcb", func := "loop.example/g03302/laws.FnExactFindProof", spec := "fnExactFindProof", unfollowed := true, recurses := true, apart := false, narrowed := true }
def FnExactFindProofUptoSaid : Prop := fnExactFindProofUptoRow.holds Try.pinned (OpenSpec.upto fnExactFindProofSpec)

/-- 'laws.FnExactColumnWeights', WHERE WHAT IT READS IS OF BULK AT MOST 1048576: true; the input reads as it did. -/
def fnExactColumnWeightsUptoRow : OpenClaim := { program := "ytkaabjklfhoooaa", sum := "69dbd794bb9c4a1f650f8a1f07574b97ebec1877ec9e2b9f085d85427aa0cfcb", func := "loop.example/g03302/laws.FnExactColumnWeights", spec := "fnExactColumnWeights", unfollowed := true, recurses := true, apart := false, narrowed := true }
def FnExactColumnWeightsUptoSaid : Prop := fnExactColumnWeightsUptoRow.holds Try.pinned (OpenSpec.upto fnExactColumnWeightsSpec)

/-- 'laws.FnExactRowWeights', WHERE WHAT IT READS IS OF BULK AT MOST 1048576: true; the input reads as it did. -/
def fnExactRowWeightsUptoRow : OpenClaim := { program := "ytkaabjklfhoooaa", sum := "69dbd794bb9c4a1f650f8a1f07574b97ebec1877ec9e2b9f085d85427aa0cfcb", func := "loop.example/g03302/laws.FnExactRowWeights", spec := "fnExactRowWeights", unfollowed := true, recurses := true, apart := false, narrowed := true }
def FnExactRowWeightsUptoSaid : Prop := fnExactRowWeightsUptoRow.holds Try.pinned (OpenSpec.upto fnExactRowWeightsSpec)

end Rows
end Go.Proofs.Ytkaabjklfhoooaa
