/-
  No cell of these rows narrows 'for every input' (looked for: loops, veiled, ifaces, maps, wideKeys, modest, calm, conditions, laid).
  DERIVED. THE GIVEN ROWS OF THIS SEAT. 7 by the template 'for every input the law returns true; each argument reads behind the call as it read before'; 0 by the template 'total and deterministic' (their statements: YtbnfhagfbfacbaaTotals.lean).
  GIVEN WITH THE SEED: the statements are not yours to turn. If you find one false, say at which input.
  Laid BY PROGRAM, IN A SANDBOX (cutbox-rows.mjs): the forced cells as the released guide's own fill.sh prints them over the translation ac7e8c2f9fcb7a3e… (all of the seat's roots in one cut). By AI agents, Wed Nov 11 2026. No macro, syntax, notation, axiom, sorry.
-/
import Derived.Test.YtbnfhagfbfacbaaChecked
import GoSem.Claim
import GoSem.ClaimJoined
import GoSem.ClaimMapViews
import Derived.JoinedTies
import Derived.KernelRfl
namespace Go.Proofs.Ytbnfhagfbfacbaa
/- THE CELL 'sum', in the pinned program and in every row, IS THE sha256 OF THE DUMP (.gsa) THAT YtbnfhagfbfacbaaProg.lean LOADS. Nothing in Lean hashes anything: it is a label: what it is worth is what the hold of that sum in a sandbox is worth. -/
noncomputable def Try.pinned : Pinned := { name := "ytbnfhagfbfacbaa", sum := "ac7e8c2f9fcb7a3e4362b36d6ad493593bd14838aa5e8a9e7878a8e983f89ed7", checked := Try.checked }
namespace Rows
def none {H : Type} : Left H := { results := [], args := [] }

/-- 'laws.FnJumps': WHATEVER THE INPUT: true; the input reads as it did. -/
def fnJumpsSpec : ChangeSpec := { name := "fnJumps", fn := fun _ => fun
  | [d] => { results := [.lit (.bool true)], args := [d] }
  | _ => none }
def fnJumpsRow : OpenClaim := { program := "ytbnfhagfbfacbaa", sum := "ac7e8c2f9fcb7a3e4362b36d6ad493593bd14838aa5e8a9e7878a8e983f89ed7", func := "loop.example/g03302/laws.FnJumps", spec := "fnJumps", unfollowed := true, recurses := true, apart := false }
def FnJumpsSaid : Prop := fnJumpsRow.holds Try.pinned (OpenSpec.ofChange fnJumpsSpec)

/-- ITS FALSE NEIGHBOUR: 'it returns false'. Refute it at one input. -/
def fnJumpsWrong : ChangeSpec := { name := "fnJumps", fn := fun _ => fun
  | [d] => { results := [.lit (.bool false)], args := [d] }
  | _ => none }
def FnJumpsWrongFalsely : Prop := fnJumpsRow.holds Try.pinned (OpenSpec.ofChange fnJumpsWrong)

/-- 'laws.FnExactCanJump': WHATEVER THE INPUT: true; the input reads as it did. -/
def fnExactCanJumpSpec : ChangeSpec := { name := "fnExactCanJump", fn := fun _ => fun
  | [d1, d2, d3] => { results := [.lit (.bool true)], args := [d1, d2, d3] }
  | _ => none }
def fnExactCanJumpRow : OpenClaim := { program := "ytbnfhagfbfacbaa", sum := "ac7e8c2f9fcb7a3e4362b36d6ad493593bd14838aa5e8a9e7878a8e983f89ed7", func := "loop.example/g03302/laws.FnExactCanJump", spec := "fnExactCanJump", apart := false }
def FnExactCanJumpSaid : Prop := fnExactCanJumpRow.holds Try.pinned (OpenSpec.ofChange fnExactCanJumpSpec)

/-- ITS FALSE NEIGHBOUR: 'it returns false'. Refute it at one input. -/
def fnExactCanJumpWrong : ChangeSpec := { name := "fnExactCanJump", fn := fun _ => fun
  | [d1, d2, d3] => { results := [.lit (.bool false)], args := [d1, d2, d3] }
  | _ => none }
def FnExactCanJumpWrongFalsely : Prop := fnExactCanJumpRow.holds Try.pinned (OpenSpec.ofChange fnExactCanJumpWrong)

/-- 'laws.FnExactDoJump': WHATEVER THE INPUT: true; the input reads as it did. -/
def fnExactDoJumpSpec : ChangeSpec := { name := "fnExactDoJump", fn := fun _ => fun
  | [d1, d2, d3] => { results := [.lit (.bool true)], args := [d1, d2, d3] }
  | _ => none }
def fnExactDoJumpRow : OpenClaim := { program := "ytbnfhagfbfacbaa", sum := "ac7e8c2f9fcb7a3e4362b36d6ad493593bd14838aa5e8a9e7878a8e983f89ed7", func := "loop.example/g03302/laws.FnExactDoJump", spec := "fnExactDoJump", apart := false }
def FnExactDoJumpSaid : Prop := fnExactDoJumpRow.holds Try.pinned (OpenSpec.ofChange fnExactDoJumpSpec)

/-- ITS FALSE NEIGHBOUR: 'it returns false'. Refute it at one input. -/
def fnExactDoJumpWrong : ChangeSpec := { name := "fnExactDoJump", fn := fun _ => fun
  | [d1, d2, d3] => { results := [.lit (.bool false)], args := [d1, d2, d3] }
  | _ => none }
def FnExactDoJumpWrongFalsely : Prop := fnExactDoJumpRow.holds Try.pinned (OpenSpec.ofChange fnExactDoJumpWrong)

/-- 'laws.FnExactJumpsOf': WHATEVER THE INPUT: true; the input reads as it did. -/
def fnExactJumpsOfSpec : ChangeSpec := { name := "fnExactJumpsOf", fn := fun _ => fun
  | [d1, d2] => { results := [.lit (.bool true)], args := [d1, d2] }
  | _ => none }
def fnExactJumpsOfRow : OpenClaim := { program := "ytbnfhagfbfacbaa", sum := "ac7e8c2f9fcb7a3e4362b36d6ad493593bd14838aa5e8a9e7878a8e983f89ed7", func := "loop.example/g03302/laws.FnExactJumpsOf", spec := "fnExactJumpsOf", unfollowed := true, recurses := true, apart := false }
def FnExactJumpsOfSaid : Prop := fnExactJumpsOfRow.holds Try.pinned (OpenSpec.ofChange fnExactJumpsOfSpec)

/-- ITS FALSE NEIGHBOUR: 'it returns false'. Refute it at one input. -/
def fnExactJumpsOfWrong : ChangeSpec := { name := "fnExactJumpsOf", fn := fun _ => fun
  | [d1, d2] => { results := [.lit (.bool false)], args := [d1, d2] }
  | _ => none }
def FnExactJumpsOfWrongFalsely : Prop := fnExactJumpsOfRow.holds Try.pinned (OpenSpec.ofChange fnExactJumpsOfWrong)

/-- 'laws.FnExactCanUndo': WHATEVER THE INPUT: true; the input reads as it did. -/
def fnExactCanUndoSpec : ChangeSpec := { name := "fnExactCanUndo", fn := fun _ => fun
  | [d1, d2, d3] => { results := [.lit (.bool true)], args := [d1, d2, d3] }
  | _ => none }
def fnExactCanUndoRow : OpenClaim := { program := "ytbnfhagfbfacbaa", sum := "ac7e8c2f9fcb7a3e4362b36d6ad493593bd14838aa5e8a9e7878a8e983f89ed7", func := "loop.example/g03302/laws.FnExactCanUndo", spec := "fnExactCanUndo", apart := false }
def FnExactCanUndoSaid : Prop := fnExactCanUndoRow.holds Try.pinned (OpenSpec.ofChange fnExactCanUndoSpec)

/-- ITS FALSE NEIGHBOUR: 'it returns false'. Refute it at one input. -/
def fnExactCanUndoWrong : ChangeSpec := { name := "fnExactCanUndo", fn := fun _ => fun
  | [d1, d2, d3] => { results := [.lit (.bool false)], args := [d1, d2, d3] }
  | _ => none }
def FnExactCanUndoWrongFalsely : Prop := fnExactCanUndoRow.holds Try.pinned (OpenSpec.ofChange fnExactCanUndoWrong)

/-- 'laws.FnExactUndoJump': WHATEVER THE INPUT: true; the input reads as it did. -/
def fnExactUndoJumpSpec : ChangeSpec := { name := "fnExactUndoJump", fn := fun _ => fun
  | [d1, d2, d3] => { results := [.lit (.bool true)], args := [d1, d2, d3] }
  | _ => none }
def fnExactUndoJumpRow : OpenClaim := { program := "ytbnfhagfbfacbaa", sum := "ac7e8c2f9fcb7a3e4362b36d6ad493593bd14838aa5e8a9e7878a8e983f89ed7", func := "loop.example/g03302/laws.FnExactUndoJump", spec := "fnExactUndoJump", apart := false }
def FnExactUndoJumpSaid : Prop := fnExactUndoJumpRow.holds Try.pinned (OpenSpec.ofChange fnExactUndoJumpSpec)

/-- ITS FALSE NEIGHBOUR: 'it returns false'. Refute it at one input. -/
def fnExactUndoJumpWrong : ChangeSpec := { name := "fnExactUndoJump", fn := fun _ => fun
  | [d1, d2, d3] => { results := [.lit (.bool false)], args := [d1, d2, d3] }
  | _ => none }
def FnExactUndoJumpWrongFalsely : Prop := fnExactUndoJumpRow.holds Try.pinned (OpenSpec.ofChange fnExactUndoJumpWrong)

/-- 'laws.FnExactUndosOf': WHATEVER THE INPUT: true; the input reads as it did. -/
def fnExactUndosOfSpec : ChangeSpec := { name := "fnExactUndosOf", fn := fun _ => fun
  | [d1, d2] => { results := [.lit (.bool true)], args := [d1, d2] }
  | _ => none }
def fnExactUndosOfRow : OpenClaim := { program := "ytbnfhagfbfacbaa", sum := "ac7e8c2f9fcb7a3e4362b36d6ad493593bd14838aa5e8a9e7878a8e983f89ed7", func := "loop.example/g03302/laws.FnExactUndosOf", spec := "fnExactUndosOf", unfollowed := true, recurses := true, apart := false }
def FnExactUndosOfSaid : Prop := fnExactUndosOfRow.holds Try.pinned (OpenSpec.ofChange fnExactUndosOfSpec)

/-- ITS FALSE NEIGHBOUR: 'it returns false'. Refute it at one input. -/
def fnExactUndosOfWrong : ChangeSpec := { name := "fnExactUndosOf", fn := fun _ => fun
  | [d1, d2] => { results := [.lit (.bool false)], args := [d1, d2] }
  | _ => none }
def FnExactUndosOfWrongFalsely : Prop := fnExactUndosOfRow.holds Try.pinned (OpenSpec.ofChange fnExactUndosOfWrong)

/- THE SECOND FORM. 'bulk': how many values and letters a reading holds, each counted each time it is reached (what is shared counts as often as it is met; a slice's spare places count too). A statement '..UptoSaid' is the law's where the arguments, and the package variables that the reading takes, are together of bulk at most 1048576: NARROWER than '..Said'. Prove '..Said' where nothing that the law and all that it calls make is longer than what came in: it says more and counts as full. Else prove '..UptoSaid'. A law counts once. -/
mutual
def uptoBulk {H : Type} : DataW H → Nat
  | .lit (.string bytes) => bytes.length + 1
  | .lit _ => 1
  | .nil => 1
  | .ptr d => uptoBulk d + 1
  | .slice elems spare => uptoBulkAll elems + uptoBulkAll spare + 1
  | .agg parts => uptoBulkAll parts + 1
  | .iface _ d => uptoBulk d + 1
  | .map entries => uptoBulkEntries entries + 1
  | .held _ => 1
def uptoBulkAll {H : Type} : List (DataW H) → Nat
  | [] => 0
  | d :: r => uptoBulk d + uptoBulkAll r
def uptoBulkEntries {H : Type} : List (Lit × DataW H) → Nat
  | [] => 0
  | x :: r => uptoBulkEntry x + uptoBulkEntries r
def uptoBulkEntry {H : Type} : Lit × DataW H → Nat
  | (.string bytes, d) => bytes.length + uptoBulk d + 1
  | (_, d) => uptoBulk d + 1
 end
def uptoSmall : (H : Type) → List (DataW H) → Bool := fun _ ds => decide (uptoBulkAll ds ≤ 1048576)
def OpenSpec.upto (s : _root_.Go.ChangeSpec) : _root_.Go.OpenSpec := { _root_.Go.OpenSpec.ofChange s with cond := some uptoSmall }

/-- 'laws.FnJumps', WHERE WHAT IT READS IS OF BULK AT MOST 1048576: true; the input reads as it did. -/
def fnJumpsUptoRow : OpenClaim := { program := "ytbnfhagfbfacbaa", sum := "ac7e8c2f9fcb7a3e4362b36d6ad493593bd14838aa5e8a9e7878a8e983f89ed7", func := "loop.example/g03302/laws.FnJumps", spec := "fnJumps", unfollowed := true, recurses := true, apart := false, narrowed := true }
def FnJumpsUptoSaid : Prop := fnJumpsUptoRow.holds Try.pinned (OpenSpec.upto fnJumpsSpec)

/-- 'laws.FnExactCanJump', WHERE WHAT IT READS IS OF BULK AT MOST 1048576: true; the input reads as it did. -/
def fnExactCanJumpUptoRow : OpenClaim := { program := "ytbnfhagfbfacbaa", sum := "ac7e8c2f9fcb7a3e4362b36d6ad493593bd14838aa5e8a9e7878a8e983f89ed7", func := "loop.example/g03302/laws.FnExactCanJump", spec := "fnExactCanJump", apart := false, narrowed := true }
def FnExactCanJumpUptoSaid : Prop := fnExactCanJumpUptoRow.holds Try.pinned (OpenSpec.upto fnExactCanJumpSpec)

/-- 'laws.FnExactDoJump', WHERE WHAT IT READS IS OF BULK AT MOST 1048576: true; the input reads as it did. -/
def fnExactDoJumpUptoRow : OpenClaim := { program := "ytbnfhagfbfacbaa", sum := "ac7e8c2f9fcb7a3e4362b36d6ad493593bd14838aa5e8a9e7878a8e983f89ed7", func := "loop.example/g03302/laws.FnExactDoJump", spec := "fnExactDoJump", apart := false, narrowed := true }
def FnExactDoJumpUptoSaid : Prop := fnExactDoJumpUptoRow.holds Try.pinned (OpenSpec.upto fnExactDoJumpSpec)

/-- 'laws.FnExactJumpsOf', WHERE WHAT IT READS IS OF BULK AT MOST 1048576: true; the input reads as it did. -/
def fnExactJumpsOfUptoRow : OpenClaim := { program := "ytbnfhagfbfacbaa", sum := "ac7e8c2f9fcb7a3e4362b36d6ad493593bd14838aa5e8a9e7878a8e983f89ed7", func := "loop.example/g03302/laws.FnExactJumpsOf", spec := "fnExactJumpsOf", unfollowed := true, recurses := true, apart := false, narrowed := true }
def FnExactJumpsOfUptoSaid : Prop := fnExactJumpsOfUptoRow.holds Try.pinned (OpenSpec.upto fnExactJumpsOfSpec)

/-- 'laws.FnExactCanUndo', WHERE WHAT IT READS IS OF BULK AT MOST 1048576: true; the input reads as it did. -/
def fnExactCanUndoUptoRow : OpenClaim := { program := "ytbnfhagfbfacbaa", sum := "ac7e8c2f9fcb7a3e4362b36d6ad493593bd14838aa5e8a9e7878a8e983f89ed7", func := "loop.example/g03302/laws.FnExactCanUndo", spec := "fnExactCanUndo", apart := false, narrowed := true }
def FnExactCanUndoUptoSaid : Prop := fnExactCanUndoUptoRow.holds Try.pinned (OpenSpec.upto fnExactCanUndoSpec)

/-- 'laws.FnExactUndoJump', WHERE WHAT IT READS IS OF BULK AT MOST 1048576: true; the input reads as it did. -/
def fnExactUndoJumpUptoRow : OpenClaim := { program := "ytbnfhagfbfacbaa", sum := "ac7e8c2f9fcb7a3e4362b36d6ad493593bd14838aa5e8a9e7878a8e983f89ed7", func := "loop.example/g03302/laws.FnExactUndoJump", spec := "fnExactUndoJump", apart := false, narrowed := true }
def FnExactUndoJumpUptoSaid : Prop := fnExactUndoJumpUptoRow.holds Try.pinned (OpenSpec.upto fnExactUndoJumpSpec)

/-- 'laws.FnExactUndosOf', WHERE WHAT IT READS IS OF BULK AT MOST 1048576: true; the input reads as it did. -/
def fnExactUndosOfUptoRow : OpenClaim := { program := "ytbnfhagfbfacbaa", sum := "ac7e8c2f9fcb7a3e4362b36d6ad493593bd14838aa5e8a9e7878a8e983f89ed7", func := "loop.example/g03302/laws.FnExactUndosOf", spec := "fnExactUndosOf", unfollowed := true, recurses := true, apart := false, narrowed := true }
def FnExactUndosOfUptoSaid : Prop := fnExactUndosOfUptoRow.holds Try.pinned (OpenSpec.upto fnExactUndosOfSpec)

end Rows
end Go.Proofs.Ytbnfhagfbfacbaa
