/-
  No cell of these rows narrows 'for every input' (looked for: loops, veiled, ifaces, maps, wideKeys, modest, calm, conditions, laid).
  DERIVED. THE GIVEN ROWS OF THIS SEAT. 8 by the template 'for every input the law returns true; each argument reads behind the call as it read before'; 0 by the template 'total and deterministic' (their statements: YtdplgjjpgeoppaaTotals.lean).
  GIVEN WITH THE SEED: the statements are not yours to turn. If you find one false, say at which input.
  Laid BY PROGRAM, IN A SANDBOX (cutbox-rows.mjs): the forced cells as the released guide's own fill.sh prints them over the translation 22ccebb9057420d1… (all of the seat's roots in one cut). By AI agents, Wed Nov 11 2026. No macro, syntax, notation, axiom, sorry.
-/
import Derived.Test.YtdplgjjpgeoppaaChecked
import GoSem.Claim
import GoSem.ClaimJoined
import GoSem.ClaimMapViews
import Derived.JoinedTies
import Derived.KernelRfl
namespace Go.Proofs.Ytdplgjjpgeoppaa
/- THE CELL 'sum', in the pinned program and in every row, IS THE sha256 OF THE DUMP (.gsa) THAT YtdplgjjpgeoppaaProg.lean LOADS. Nothing in Lean hashes anything: it is a label: what it is worth is what the hold of that sum in a sandbox is worth. -/
noncomputable def Try.pinned : Pinned := { name := "ytdplgjjpgeoppaa", sum := "22ccebb9057420d159ac766f2c6c77b7bc618350f8b23b4850f519b8b0d94d88", checked := Try.checked }
namespace Rows
def none {H : Type} : Left H := { results := [], args := [] }

/-- 'laws.FnPositions': WHATEVER THE INPUT: true; the input reads as it did. -/
def fnPositionsSpec : ChangeSpec := { name := "fnPositions", fn := fun _ => fun
  | [d] => { results := [.lit (.bool true)], args := [d] }
  | _ => none }
def fnPositionsRow : OpenClaim := { program := "ytdplgjjpgeoppaa", sum := "22ccebb9057420d159ac766f2c6c77b7bc618350f8b23b4850f519b8b0d94d88", func := "loop.example/g03302/laws.FnPositions", spec := "fnPositions", apart := false }
def FnPositionsSaid : Prop := fnPositionsRow.holds Try.pinned (OpenSpec.ofChange fnPositionsSpec)

/-- ITS FALSE NEIGHBOUR: 'it returns false'. Refute it at one input. -/
def fnPositionsWrong : ChangeSpec := { name := "fnPositions", fn := fun _ => fun
  | [d] => { results := [.lit (.bool false)], args := [d] }
  | _ => none }
def FnPositionsWrongFalsely : Prop := fnPositionsRow.holds Try.pinned (OpenSpec.ofChange fnPositionsWrong)

/-- 'laws.FnExactPositionOk': WHATEVER THE INPUT: true; the input reads as it did. -/
def fnExactPositionOkSpec : ChangeSpec := { name := "fnExactPositionOk", fn := fun _ => fun
  | [d1, d2] => { results := [.lit (.bool true)], args := [d1, d2] }
  | _ => none }
def fnExactPositionOkRow : OpenClaim := { program := "ytdplgjjpgeoppaa", sum := "22ccebb9057420d159ac766f2c6c77b7bc618350f8b23b4850f519b8b0d94d88", func := "loop.example/g03302/laws.FnExactPositionOk", spec := "fnExactPositionOk", apart := false }
def FnExactPositionOkSaid : Prop := fnExactPositionOkRow.holds Try.pinned (OpenSpec.ofChange fnExactPositionOkSpec)

/-- ITS FALSE NEIGHBOUR: 'it returns false'. Refute it at one input. -/
def fnExactPositionOkWrong : ChangeSpec := { name := "fnExactPositionOk", fn := fun _ => fun
  | [d1, d2] => { results := [.lit (.bool false)], args := [d1, d2] }
  | _ => none }
def FnExactPositionOkWrongFalsely : Prop := fnExactPositionOkRow.holds Try.pinned (OpenSpec.ofChange fnExactPositionOkWrong)

/-- 'laws.FnExactCountPegs': WHATEVER THE INPUT: true; the input reads as it did. -/
def fnExactCountPegsSpec : ChangeSpec := { name := "fnExactCountPegs", fn := fun _ => fun
  | [d1, d2] => { results := [.lit (.bool true)], args := [d1, d2] }
  | _ => none }
def fnExactCountPegsRow : OpenClaim := { program := "ytdplgjjpgeoppaa", sum := "22ccebb9057420d159ac766f2c6c77b7bc618350f8b23b4850f519b8b0d94d88", func := "loop.example/g03302/laws.FnExactCountPegs", spec := "fnExactCountPegs", apart := false }
def FnExactCountPegsSaid : Prop := fnExactCountPegsRow.holds Try.pinned (OpenSpec.ofChange fnExactCountPegsSpec)

/-- ITS FALSE NEIGHBOUR: 'it returns false'. Refute it at one input. -/
def fnExactCountPegsWrong : ChangeSpec := { name := "fnExactCountPegs", fn := fun _ => fun
  | [d1, d2] => { results := [.lit (.bool false)], args := [d1, d2] }
  | _ => none }
def FnExactCountPegsWrongFalsely : Prop := fnExactCountPegsRow.holds Try.pinned (OpenSpec.ofChange fnExactCountPegsWrong)

/-- 'laws.FnExactHasPeg': WHATEVER THE INPUT: true; the input reads as it did. -/
def fnExactHasPegSpec : ChangeSpec := { name := "fnExactHasPeg", fn := fun _ => fun
  | [d1, d2, d3] => { results := [.lit (.bool true)], args := [d1, d2, d3] }
  | _ => none }
def fnExactHasPegRow : OpenClaim := { program := "ytdplgjjpgeoppaa", sum := "22ccebb9057420d159ac766f2c6c77b7bc618350f8b23b4850f519b8b0d94d88", func := "loop.example/g03302/laws.FnExactHasPeg", spec := "fnExactHasPeg", apart := false }
def FnExactHasPegSaid : Prop := fnExactHasPegRow.holds Try.pinned (OpenSpec.ofChange fnExactHasPegSpec)

/-- ITS FALSE NEIGHBOUR: 'it returns false'. Refute it at one input. -/
def fnExactHasPegWrong : ChangeSpec := { name := "fnExactHasPeg", fn := fun _ => fun
  | [d1, d2, d3] => { results := [.lit (.bool false)], args := [d1, d2, d3] }
  | _ => none }
def FnExactHasPegWrongFalsely : Prop := fnExactHasPegRow.holds Try.pinned (OpenSpec.ofChange fnExactHasPegWrong)

/-- 'laws.FnExactSetPeg': WHATEVER THE INPUT: true; the input reads as it did. -/
def fnExactSetPegSpec : ChangeSpec := { name := "fnExactSetPeg", fn := fun _ => fun
  | [d1, d2, d3, d4] => { results := [.lit (.bool true)], args := [d1, d2, d3, d4] }
  | _ => none }
def fnExactSetPegRow : OpenClaim := { program := "ytdplgjjpgeoppaa", sum := "22ccebb9057420d159ac766f2c6c77b7bc618350f8b23b4850f519b8b0d94d88", func := "loop.example/g03302/laws.FnExactSetPeg", spec := "fnExactSetPeg", apart := false }
def FnExactSetPegSaid : Prop := fnExactSetPegRow.holds Try.pinned (OpenSpec.ofChange fnExactSetPegSpec)

/-- ITS FALSE NEIGHBOUR: 'it returns false'. Refute it at one input. -/
def fnExactSetPegWrong : ChangeSpec := { name := "fnExactSetPeg", fn := fun _ => fun
  | [d1, d2, d3, d4] => { results := [.lit (.bool false)], args := [d1, d2, d3, d4] }
  | _ => none }
def FnExactSetPegWrongFalsely : Prop := fnExactSetPegRow.holds Try.pinned (OpenSpec.ofChange fnExactSetPegWrong)

/-- 'laws.FnExactFullBut': WHATEVER THE INPUT: true; the input reads as it did. -/
def fnExactFullButSpec : ChangeSpec := { name := "fnExactFullBut", fn := fun _ => fun
  | [d1, d2] => { results := [.lit (.bool true)], args := [d1, d2] }
  | _ => none }
def fnExactFullButRow : OpenClaim := { program := "ytdplgjjpgeoppaa", sum := "22ccebb9057420d159ac766f2c6c77b7bc618350f8b23b4850f519b8b0d94d88", func := "loop.example/g03302/laws.FnExactFullBut", spec := "fnExactFullBut", apart := false }
def FnExactFullButSaid : Prop := fnExactFullButRow.holds Try.pinned (OpenSpec.ofChange fnExactFullButSpec)

/-- ITS FALSE NEIGHBOUR: 'it returns false'. Refute it at one input. -/
def fnExactFullButWrong : ChangeSpec := { name := "fnExactFullBut", fn := fun _ => fun
  | [d1, d2] => { results := [.lit (.bool false)], args := [d1, d2] }
  | _ => none }
def FnExactFullButWrongFalsely : Prop := fnExactFullButRow.holds Try.pinned (OpenSpec.ofChange fnExactFullButWrong)

/-- 'laws.FnExactSinglePeg': WHATEVER THE INPUT: true; the input reads as it did. -/
def fnExactSinglePegSpec : ChangeSpec := { name := "fnExactSinglePeg", fn := fun _ => fun
  | [d1, d2] => { results := [.lit (.bool true)], args := [d1, d2] }
  | _ => none }
def fnExactSinglePegRow : OpenClaim := { program := "ytdplgjjpgeoppaa", sum := "22ccebb9057420d159ac766f2c6c77b7bc618350f8b23b4850f519b8b0d94d88", func := "loop.example/g03302/laws.FnExactSinglePeg", spec := "fnExactSinglePeg", apart := false }
def FnExactSinglePegSaid : Prop := fnExactSinglePegRow.holds Try.pinned (OpenSpec.ofChange fnExactSinglePegSpec)

/-- ITS FALSE NEIGHBOUR: 'it returns false'. Refute it at one input. -/
def fnExactSinglePegWrong : ChangeSpec := { name := "fnExactSinglePeg", fn := fun _ => fun
  | [d1, d2] => { results := [.lit (.bool false)], args := [d1, d2] }
  | _ => none }
def FnExactSinglePegWrongFalsely : Prop := fnExactSinglePegRow.holds Try.pinned (OpenSpec.ofChange fnExactSinglePegWrong)

/-- 'laws.FnExactPositionText': WHATEVER THE INPUT: true; the input reads as it did. -/
def fnExactPositionTextSpec : ChangeSpec := { name := "fnExactPositionText", fn := fun _ => fun
  | [d1, d2] => { results := [.lit (.bool true)], args := [d1, d2] }
  | _ => none }
def fnExactPositionTextRow : OpenClaim := { program := "ytdplgjjpgeoppaa", sum := "22ccebb9057420d159ac766f2c6c77b7bc618350f8b23b4850f519b8b0d94d88", func := "loop.example/g03302/laws.FnExactPositionText", spec := "fnExactPositionText", apart := false }
def FnExactPositionTextSaid : Prop := fnExactPositionTextRow.holds Try.pinned (OpenSpec.ofChange fnExactPositionTextSpec)

/-- ITS FALSE NEIGHBOUR: 'it returns false'. Refute it at one input. -/
def fnExactPositionTextWrong : ChangeSpec := { name := "fnExactPositionText", fn := fun _ => fun
  | [d1, d2] => { results := [.lit (.bool false)], args := [d1, d2] }
  | _ => none }
def FnExactPositionTextWrongFalsely : Prop := fnExactPositionTextRow.holds Try.pinned (OpenSpec.ofChange fnExactPositionTextWrong)

/- THE SECOND FORM. 'bulk': how many values and letters a reading holds, each counted each time it is reached (what is shared counts as often as it is met; a slice's spare places count too). A statement '..UptoSaid' is the law's where the arguments, and the package variables that the reading takes, are together of bulk at most 1048576: NARROWER than '..Said'. Prove '..Said' where nothing that the law and all that it calls make is longer than what came in: it says more and counts as full. Else prove '..UptoSaid'. A law counts once. -/
mutual
def uptoBulk {H : Type} : DataW H → Nat
  | .lit (.string bytes) => bytes.length + 1
  | .lit _ => 1
  | .nil => 1
  | .ptr d => uptoBulk d + 1
  | .slice elems spare => uptoBulkAll elems + uptoBulkAll spare + 1
  | .agg parts => uptoBulkAll parts + 1
  | .iface _ d => uptoBulk d + 1
  | .map entries => uptoBulkEntries entries + 1
  | .held _ => 1
def uptoBulkAll {H : Type} : List (DataW H) → Nat
  | [] => 0
  | d :: r => uptoBulk d + uptoBulkAll r
def uptoBulkEntries {H : Type} : List (Lit × DataW H) → Nat
  | [] => 0
  | x :: r => uptoBulkEntry x + uptoBulkEntries r
def uptoBulkEntry {H : Type} : Lit × DataW H → Nat
  | (.string bytes, d) => bytes.length + uptoBulk d + 1
  | (_, d) => uptoBulk d + 1
 end
def uptoSmall : (H : Type) → List (DataW H) → Bool := fun _ ds => decide (uptoBulkAll ds ≤ 1048576)
def OpenSpec.upto (s : _root_.Go.ChangeSpec) : _root_.Go.OpenSpec := { _root_.Go.OpenSpec.ofChange s with cond := some uptoSmall }

/-- 'laws.FnPositions', WHERE WHAT IT READS IS OF BULK AT MOST 1048576: true; the input reads as it did. -/
def fnPositionsUptoRow : OpenClaim := { program := "ytdplgjjpgeoppaa", sum := "22ccebb9057420d159ac766f2c6c77b7bc618350f8b23b4850f519b8b0d94d88", func := "loop.example/g03302/laws.FnPositions", spec := "fnPositions", apart := false, narrowed := true }
def FnPositionsUptoSaid : Prop := fnPositionsUptoRow.holds Try.pinned (OpenSpec.upto fnPositionsSpec)

/-- 'laws.FnExactPositionOk', WHERE WHAT IT READS IS OF BULK AT MOST 1048576: true; the input reads as it did. -/
def fnExactPositionOkUptoRow : OpenClaim := { program := "ytdplgjjpgeoppaa", sum := "22ccebb9057420d159ac766f2c6c77b7bc618350f8b23b4850f519b8b0d94d88", func := "loop.example/g03302/laws.FnExactPositionOk", spec := "fnExactPositionOk", apart := false, narrowed := true }
def FnExactPositionOkUptoSaid : Prop := fnExactPositionOkUptoRow.holds Try.pinned (OpenSpec.upto fnExactPositionOkSpec)

/-- 'laws.FnExactCountPegs', WHERE WHAT IT READS IS OF BULK AT MOST 1048576: true; the input reads as it did. -/
def fnExactCountPegsUptoRow : OpenClaim := { program := "ytdplgjjpgeoppaa", sum := "22ccebb9057420d159ac766f2c6c77b7bc618350f8b23b4850f519b8b0d94d88", func := "loop.example/g03302/laws.FnExactCountPegs", spec := "fnExactCountPegs", apart := false, narrowed := true }
def FnExactCountPegsUptoSaid : Prop := fnExactCountPegsUptoRow.holds Try.pinned (OpenSpec.upto fnExactCountPegsSpec)

/-- 'laws.FnExactHasPeg', WHERE WHAT IT READS IS OF BULK AT MOST 1048576: true; the input reads as it did. -/
def fnExactHasPegUptoRow : OpenClaim := { program := "ytdplgjjpgeoppaa", sum := "22ccebb9057420d159ac766f2c6c77b7bc618350f8b23b4850f519b8b0d94d88", func := "loop.example/g03302/laws.FnExactHasPeg", spec := "fnExactHasPeg", apart := false, narrowed := true }
def FnExactHasPegUptoSaid : Prop := fnExactHasPegUptoRow.holds Try.pinned (OpenSpec.upto fnExactHasPegSpec)

/-- 'laws.FnExactSetPeg', WHERE WHAT IT READS IS OF BULK AT MOST 1048576: true; the input reads as it did. -/
def fnExactSetPegUptoRow : OpenClaim := { program := "ytdplgjjpgeoppaa", sum := "22ccebb9057420d159ac766f2c6c77b7bc618350f8b23b4850f519b8b0d94d88", func := "loop.example/g03302/laws.FnExactSetPeg", spec := "fnExactSetPeg", apart := false, narrowed := true }
def FnExactSetPegUptoSaid : Prop := fnExactSetPegUptoRow.holds Try.pinned (OpenSpec.upto fnExactSetPegSpec)

/-- 'laws.FnExactFullBut', WHERE WHAT IT READS IS OF BULK AT MOST 1048576: true; the input reads as it did. -/
def fnExactFullButUptoRow : OpenClaim := { program := "ytdplgjjpgeoppaa", sum := "22ccebb9057420d159ac766f2c6c77b7bc618350f8b23b4850f519b8b0d94d88", func := "loop.example/g03302/laws.FnExactFullBut", spec := "fnExactFullBut", apart := false, narrowed := true }
def FnExactFullButUptoSaid : Prop := fnExactFullButUptoRow.holds Try.pinned (OpenSpec.upto fnExactFullButSpec)

/-- 'laws.FnExactSinglePeg', WHERE WHAT IT READS IS OF BULK AT MOST 1048576: true; the input reads as it did. -/
def fnExactSinglePegUptoRow : OpenClaim := { program := "ytdplgjjpgeoppaa", sum := "22ccebb9057420d159ac766f2c6c77b7bc618350f8b23b4850f519b8b0d94d88", func := "loop.example/g03302/laws.FnExactSinglePeg", spec := "fnExactSinglePeg", apart := false, narrowed := true }
def FnExactSinglePegUptoSaid : Prop := fnExactSinglePegUptoRow.holds Try.pinned (OpenSpec.upto fnExactSinglePegSpec)

/-- 'laws.FnExactPositionText', WHERE WHAT IT READS IS OF BULK AT MOST 1048576: true; the input reads as it did. -/
def fnExactPositionTextUptoRow : OpenClaim := { program := "ytdplgjjpgeoppaa", sum := "22ccebb9057420d159ac766f2c6c77b7bc618350f8b23b4850f519b8b0d94d88", func := "loop.example/g03302/laws.FnExactPositionText", spec := "fnExactPositionText", apart := false, narrowed := true }
def FnExactPositionTextUptoSaid : Prop := fnExactPositionTextUptoRow.holds Try.pinned (OpenSpec.upto fnExactPositionTextSpec)

end Rows
end Go.Proofs.Ytdplgjjpgeoppaa
