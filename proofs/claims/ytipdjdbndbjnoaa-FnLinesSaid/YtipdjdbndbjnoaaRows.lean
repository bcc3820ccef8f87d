/-
  No cell of these rows narrows 'for every input' (looked for: loops, veiled, ifaces, maps, wideKeys, modest, calm, conditions, laid).
  DERIVED. THE GIVEN ROWS OF THIS SEAT. 7 by the template 'for every input the law returns true; each argument reads behind the call as it read before'; 0 by the template 'total and deterministic' (their statements: YtipdjdbndbjnoaaTotals.lean).
  GIVEN WITH THE SEED: the statements are not yours to turn. If you find one false, say at which input.
  Laid BY PROGRAM, IN A SANDBOX (cutbox-rows.mjs): the forced cells as the released guide's own fill.sh prints them over the translation c9d91dc0fcdc8965… (all of the seat's roots in one cut). By AI agents, Wed Nov 11 2026. No macro, syntax, notation, axiom, sorry.
-/
import Derived.Test.YtipdjdbndbjnoaaChecked
import GoSem.Claim
import GoSem.ClaimJoined
import GoSem.ClaimMapViews
import Derived.JoinedTies
import Derived.KernelRfl
namespace Go.Proofs.Ytipdjdbndbjnoaa
/- THE CELL 'sum', in the pinned program and in every row, IS THE sha256 OF THE DUMP (.gsa) THAT YtipdjdbndbjnoaaProg.lean LOADS. Nothing in Lean hashes anything: it is a label: what it is worth is what the hold of that sum in a sandbox is worth. -/
noncomputable def Try.pinned : Pinned := { name := "ytipdjdbndbjnoaa", sum := "c9d91dc0fcdc8965593b842b860354f3e4cab51b4b7109b7c5f7c005b468feb7", checked := Try.checked }
namespace Rows
def none {H : Type} : Left H := { results := [], args := [] }

/-- 'laws.FnLines': WHATEVER THE INPUT: true; the input reads as it did. -/
def fnLinesSpec : ChangeSpec := { name := "fnLines", fn := fun _ => fun
  | [d] => { results := [.lit (.bool true)], args := [d] }
  | _ => none }
def fnLinesRow : OpenClaim := { program := "ytipdjdbndbjnoaa", sum := "c9d91dc0fcdc8965593b842b860354f3e4cab51b4b7109b7c5f7c005b468feb7", func := "loop.example/g03302/laws.FnLines", spec := "fnLines", apart := false }
def FnLinesSaid : Prop := fnLinesRow.holds Try.pinned (OpenSpec.ofChange fnLinesSpec)

/-- ITS FALSE NEIGHBOUR: 'it returns false'. Refute it at one input. -/
def fnLinesWrong : ChangeSpec := { name := "fnLines", fn := fun _ => fun
  | [d] => { results := [.lit (.bool false)], args := [d] }
  | _ => none }
def FnLinesWrongFalsely : Prop := fnLinesRow.holds Try.pinned (OpenSpec.ofChange fnLinesWrong)

/-- 'laws.FnExactLinesOf': WHATEVER THE INPUT: true; the input reads as it did. -/
def fnExactLinesOfSpec : ChangeSpec := { name := "fnExactLinesOf", fn := fun _ => fun
  | [d] => { results := [.lit (.bool true)], args := [d] }
  | _ => none }
def fnExactLinesOfRow : OpenClaim := { program := "ytipdjdbndbjnoaa", sum := "c9d91dc0fcdc8965593b842b860354f3e4cab51b4b7109b7c5f7c005b468feb7", func := "loop.example/g03302/laws.FnExactLinesOf", spec := "fnExactLinesOf", apart := false }
def FnExactLinesOfSaid : Prop := fnExactLinesOfRow.holds Try.pinned (OpenSpec.ofChange fnExactLinesOfSpec)

/-- ITS FALSE NEIGHBOUR: 'it returns false'. Refute it at one input. -/
def fnExactLinesOfWrong : ChangeSpec := { name := "fnExactLinesOf", fn := fun _ => fun
  | [d] => { results := [.lit (.bool false)], args := [d] }
  | _ => none }
def FnExactLinesOfWrongFalsely : Prop := fnExactLinesOfRow.holds Try.pinned (OpenSpec.ofChange fnExactLinesOfWrong)

/-- 'laws.FnExactLineBetween': WHATEVER THE INPUT: true; the input reads as it did. -/
def fnExactLineBetweenSpec : ChangeSpec := { name := "fnExactLineBetween", fn := fun _ => fun
  | [d1, d2, d3] => { results := [.lit (.bool true)], args := [d1, d2, d3] }
  | _ => none }
def fnExactLineBetweenRow : OpenClaim := { program := "ytipdjdbndbjnoaa", sum := "c9d91dc0fcdc8965593b842b860354f3e4cab51b4b7109b7c5f7c005b468feb7", func := "loop.example/g03302/laws.FnExactLineBetween", spec := "fnExactLineBetween", apart := false }
def FnExactLineBetweenSaid : Prop := fnExactLineBetweenRow.holds Try.pinned (OpenSpec.ofChange fnExactLineBetweenSpec)

/-- ITS FALSE NEIGHBOUR: 'it returns false'. Refute it at one input. -/
def fnExactLineBetweenWrong : ChangeSpec := { name := "fnExactLineBetween", fn := fun _ => fun
  | [d1, d2, d3] => { results := [.lit (.bool false)], args := [d1, d2, d3] }
  | _ => none }
def FnExactLineBetweenWrongFalsely : Prop := fnExactLineBetweenRow.holds Try.pinned (OpenSpec.ofChange fnExactLineBetweenWrong)

/-- 'laws.FnExactTurnLine': WHATEVER THE INPUT: true; the input reads as it did. -/
def fnExactTurnLineSpec : ChangeSpec := { name := "fnExactTurnLine", fn := fun _ => fun
  | [d] => { results := [.lit (.bool true)], args := [d] }
  | _ => none }
def fnExactTurnLineRow : OpenClaim := { program := "ytipdjdbndbjnoaa", sum := "c9d91dc0fcdc8965593b842b860354f3e4cab51b4b7109b7c5f7c005b468feb7", func := "loop.example/g03302/laws.FnExactTurnLine", spec := "fnExactTurnLine", apart := false }
def FnExactTurnLineSaid : Prop := fnExactTurnLineRow.holds Try.pinned (OpenSpec.ofChange fnExactTurnLineSpec)

/-- ITS FALSE NEIGHBOUR: 'it returns false'. Refute it at one input. -/
def fnExactTurnLineWrong : ChangeSpec := { name := "fnExactTurnLine", fn := fun _ => fun
  | [d] => { results := [.lit (.bool false)], args := [d] }
  | _ => none }
def FnExactTurnLineWrongFalsely : Prop := fnExactTurnLineRow.holds Try.pinned (OpenSpec.ofChange fnExactTurnLineWrong)

/-- 'laws.FnExactLinesThrough': WHATEVER THE INPUT: true; the input reads as it did. -/
def fnExactLinesThroughSpec : ChangeSpec := { name := "fnExactLinesThrough", fn := fun _ => fun
  | [d1, d2] => { results := [.lit (.bool true)], args := [d1, d2] }
  | _ => none }
def fnExactLinesThroughRow : OpenClaim := { program := "ytipdjdbndbjnoaa", sum := "c9d91dc0fcdc8965593b842b860354f3e4cab51b4b7109b7c5f7c005b468feb7", func := "loop.example/g03302/laws.FnExactLinesThrough", spec := "fnExactLinesThrough", apart := false }
def FnExactLinesThroughSaid : Prop := fnExactLinesThroughRow.holds Try.pinned (OpenSpec.ofChange fnExactLinesThroughSpec)

/-- ITS FALSE NEIGHBOUR: 'it returns false'. Refute it at one input. -/
def fnExactLinesThroughWrong : ChangeSpec := { name := "fnExactLinesThrough", fn := fun _ => fun
  | [d1, d2] => { results := [.lit (.bool false)], args := [d1, d2] }
  | _ => none }
def FnExactLinesThroughWrongFalsely : Prop := fnExactLinesThroughRow.holds Try.pinned (OpenSpec.ofChange fnExactLinesThroughWrong)

/-- 'laws.FnExactCountLines': WHATEVER THE INPUT: true; the input reads as it did. -/
def fnExactCountLinesSpec : ChangeSpec := { name := "fnExactCountLines", fn := fun _ => fun
  | [d] => { results := [.lit (.bool true)], args := [d] }
  | _ => none }
def fnExactCountLinesRow : OpenClaim := { program := "ytipdjdbndbjnoaa", sum := "c9d91dc0fcdc8965593b842b860354f3e4cab51b4b7109b7c5f7c005b468feb7", func := "loop.example/g03302/laws.FnExactCountLines", spec := "fnExactCountLines", apart := false }
def FnExactCountLinesSaid : Prop := fnExactCountLinesRow.holds Try.pinned (OpenSpec.ofChange fnExactCountLinesSpec)

/-- ITS FALSE NEIGHBOUR: 'it returns false'. Refute it at one input. -/
def fnExactCountLinesWrong : ChangeSpec := { name := "fnExactCountLines", fn := fun _ => fun
  | [d] => { results := [.lit (.bool false)], args := [d] }
  | _ => none }
def FnExactCountLinesWrongFalsely : Prop := fnExactCountLinesRow.holds Try.pinned (OpenSpec.ofChange fnExactCountLinesWrong)

/-- 'laws.FnExactIsLoneHole': WHATEVER THE INPUT: true; the input reads as it did. -/
def fnExactIsLoneHoleSpec : ChangeSpec := { name := "fnExactIsLoneHole", fn := fun _ => fun
  | [d1, d2] => { results := [.lit (.bool true)], args := [d1, d2] }
  | _ => none }
def fnExactIsLoneHoleRow : OpenClaim := { program := "ytipdjdbndbjnoaa", sum := "c9d91dc0fcdc8965593b842b860354f3e4cab51b4b7109b7c5f7c005b468feb7", func := "loop.example/g03302/laws.FnExactIsLoneHole", spec := "fnExactIsLoneHole", apart := false }
def FnExactIsLoneHoleSaid : Prop := fnExactIsLoneHoleRow.holds Try.pinned (OpenSpec.ofChange fnExactIsLoneHoleSpec)

/-- ITS FALSE NEIGHBOUR: 'it returns false'. Refute it at one input. -/
def fnExactIsLoneHoleWrong : ChangeSpec := { name := "fnExactIsLoneHole", fn := fun _ => fun
  | [d1, d2] => { results := [.lit (.bool false)], args := [d1, d2] }
  | _ => none }
def FnExactIsLoneHoleWrongFalsely : Prop := fnExactIsLoneHoleRow.holds Try.pinned (OpenSpec.ofChange fnExactIsLoneHoleWrong)

/- THE SECOND FORM. 'bulk': how many values and letters a reading holds, each counted each time it is reached (what is shared counts as often as it is met; a slice's spare places count too). A statement '..UptoSaid' is the law's where the arguments, and the package variables that the reading takes, are together of bulk at most 1048576: NARROWER than '..Said'. Prove '..Said' where nothing that the law and all that it calls make is longer than what came in: it says more and counts as full. Else prove '..UptoSaid'. A law counts once. -/
mutual
def uptoBulk {H : Type} : DataW H → Nat
  | .lit (.string bytes) => bytes.length + 1
  | .lit _ => 1
  | .nil => 1
  | .ptr d => uptoBulk d + 1
  | .slice elems spare => uptoBulkAll elems + uptoBulkAll spare + 1
  | .agg parts => uptoBulkAll parts + 1
  | .iface _ d => uptoBulk d + 1
  | .map entries => uptoBulkEntries entries + 1
  | .held _ => 1
def uptoBulkAll {H : Type} : List (DataW H) → Nat
  | [] => 0
  | d :: r => uptoBulk d + uptoBulkAll r
def uptoBulkEntries {H : Type} : List (Lit × DataW H) → Nat
  | [] => 0
  | x :: r => uptoBulkEntry x + uptoBulkEntries r
def uptoBulkEntry {H : Type} : Lit × DataW H → Nat
  | (.string bytes, d) => bytes.length + uptoBulk d + 1
  | (_, d) => uptoBulk d + 1
 end
def uptoSmall : (H : Type) → List (DataW H) → Bool := fun _ ds => decide (uptoBulkAll ds ≤ 1048576)
def OpenSpec.upto (s : _root_.Go.ChangeSpec) : _root_.Go.OpenSpec := { _root_.Go.OpenSpec.ofChange s with cond := some uptoSmall }

/-- 'laws.FnLines', WHERE WHAT IT READS IS OF BULK AT MOST 1048576: true; the input reads as it did. -/
def fnLinesUptoRow : OpenClaim := { program := "ytipdjdbndbjnoaa", sum := "c9d91dc0fcdc8965593b842b860354f3e4cab51b4b7109b7c5f7c005b468feb7", func := "loop.example/g03302/laws.FnLines", spec := "fnLines", apart := false, narrowed := true }
def FnLinesUptoSaid : Prop := fnLinesUptoRow.holds Try.pinned (OpenSpec.upto fnLinesSpec)

/-- 'laws.FnExactLinesOf', WHERE WHAT IT READS IS OF BULK AT MOST 1048576: true; the input reads as it did. -/
def fnExactLinesOfUptoRow : OpenClaim := { program := "ytipdjdbndbjnoaa", sum := "c9d91dc0fcdc8965593b842b860354f3e4cab51b4b7109b7c5f7c005b468feb7", func := "loop.example/g03302/laws.FnExactLinesOf", spec := "fnExactLinesOf", apart := false, narrowed := true }
def FnExactLinesOfUptoSaid : Prop := fnExactLinesOfUptoRow.holds Try.pinned (OpenSpec.upto fnExactLinesOfSpec)

/-- 'laws.FnExactLineBetween', WHERE WHAT IT READS IS OF BULK AT MOST 1048576: true; the input reads as it did. -/
def fnExactLineBetweenUptoRow : OpenClaim := { program := "ytipdjdbndbjnoaa", sum := "c9d91dc0fcdc8965593b842b860354f3e4cab51b4b7109b7c5f7c005b468feb7", func := "loop.example/g03302/laws.FnExactLineBetween", spec := "fnExactLineBetween", apart := false, narrowed := true }
def FnExactLineBetweenUptoSaid : Prop := fnExactLineBetweenUptoRow.holds Try.pinned (OpenSpec.upto fnExactLineBetweenSpec)

/-- 'laws.FnExactTurnLine', WHERE WHAT IT READS IS OF BULK AT MOST 1048576: true; the input reads as it did. -/
def fnExactTurnLineUptoRow : OpenClaim := { program := "ytipdjdbndbjnoaa", sum := "c9d91dc0fcdc8965593b842b860354f3e4cab51b4b7109b7c5f7c005b468feb7", func := "loop.example/g03302/laws.FnExactTurnLine", spec := "fnExactTurnLine", apart := false, narrowed := true }
def FnExactTurnLineUptoSaid : Prop := fnExactTurnLineUptoRow.holds Try.pinned (OpenSpec.upto fnExactTurnLineSpec)

/-- 'laws.FnExactLinesThrough', WHERE WHAT IT READS IS OF BULK AT MOST 1048576: true; the input reads as it did. -/
def fnExactLinesThroughUptoRow : OpenClaim := { program := "ytipdjdbndbjnoaa", sum := "c9d91dc0fcdc8965593b842b860354f3e4cab51b4b7109b7c5f7c005b468feb7", func := "loop.example/g03302/laws.FnExactLinesThrough", spec := "fnExactLinesThrough", apart := false, narrowed := true }
def FnExactLinesThroughUptoSaid : Prop := fnExactLinesThroughUptoRow.holds Try.pinned (OpenSpec.upto fnExactLinesThroughSpec)

/-- 'laws.FnExactCountLines', WHERE WHAT IT READS IS OF BULK AT MOST 1048576: true; the input reads as it did. -/
def fnExactCountLinesUptoRow : OpenClaim := { program := "ytipdjdbndbjnoaa", sum := "c9d91dc0fcdc8965593b842b860354f3e4cab51b4b7109b7c5f7c005b468feb7", func := "loop.example/g03302/laws.FnExactCountLines", spec := "fnExactCountLines", apart := false, narrowed := true }
def FnExactCountLinesUptoSaid : Prop := fnExactCountLinesUptoRow.holds Try.pinned (OpenSpec.upto fnExactCountLinesSpec)

/-- 'laws.FnExactIsLoneHole', WHERE WHAT IT READS IS OF BULK AT MOST 1048576: true; the input reads as it did. -/
def fnExactIsLoneHoleUptoRow : OpenClaim := { program := "ytipdjdbndbjnoaa", sum := "c9d91dc0fcdc8965593b842b860354f3e4cab51b4b7109b7c5f7c005b468feb7", func := "loop.example/g03302/laws.FnExactIsLoneHole", spec := "fnExactIsLoneHole", apart := false, narrowed := true }
def FnExactIsLoneHoleUptoSaid : Prop := fnExactIsLoneHoleUptoRow.holds Try.pinned (OpenSpec.upto fnExactIsLoneHoleSpec)

end Rows
end Go.Proofs.Ytipdjdbndbjnoaa
