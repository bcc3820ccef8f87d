/-
  No cell of these rows narrows 'for every input' (looked for: loops, veiled, ifaces, maps, wideKeys, modest, calm, conditions, laid).
  DERIVED. THE GIVEN ROWS OF THIS SEAT. 12 by the template 'for every input the law returns true; each argument reads behind the call as it read before'; 0 by the template 'total and deterministic' (their statements: YtpdhdogllejdbabTotals.lean).
  GIVEN WITH THE SEED: the statements are not yours to turn. If you find one false, say at which input.
  Laid BY PROGRAM, IN A SANDBOX (cutbox-rows.mjs): the forced cells as the released guide's own fill.sh prints them over the translation 4799c6c73c37d7b3… (all of the seat's roots in one cut). By AI agents, Wed Nov 11 2026. No macro, syntax, notation, axiom, sorry.
-/
import Derived.Test.YtpdhdogllejdbabChecked
import GoSem.Claim
import GoSem.ClaimJoined
import GoSem.ClaimMapViews
import Derived.JoinedTies
import Derived.KernelRfl
namespace Go.Proofs.Ytpdhdogllejdbab
/- THE CELL 'sum', in the pinned program and in every row, IS THE sha256 OF THE DUMP (.gsa) THAT YtpdhdogllejdbabProg.lean LOADS. Nothing in Lean hashes anything: it is a label: what it is worth is what the hold of that sum in a sandbox is worth. -/
noncomputable def Try.pinned : Pinned := { name := "ytpdhdogllejdbab", sum := "4799c6c73c37d7b3540243da5257e5da236d2775d8edeb6f057a7bf50e370538", checked := Try.checked }
namespace Rows
def none {H : Type} : Left H := { results := [], args := [] }

/-- 'laws.FnExactSetPeg': WHATEVER THE INPUT: true; the input reads as it did. -/
def fnExactSetPegSpec : ChangeSpec := { name := "fnExactSetPeg", fn := fun _ => fun
  | [d1, d2, d3, d4] => { results := [.lit (.bool true)], args := [d1, d2, d3, d4] }
  | _ => none }
def fnExactSetPegRow : OpenClaim := { program := "ytpdhdogllejdbab", sum := "4799c6c73c37d7b3540243da5257e5da236d2775d8edeb6f057a7bf50e370538", func := "loop.example/g03302/laws.FnExactSetPeg", spec := "fnExactSetPeg", apart := false }
def FnExactSetPegSaid : Prop := fnExactSetPegRow.holds Try.pinned (OpenSpec.ofChange fnExactSetPegSpec)

/-- ITS FALSE NEIGHBOUR: 'it returns false'. Refute it at one input. -/
def fnExactSetPegWrong : ChangeSpec := { name := "fnExactSetPeg", fn := fun _ => fun
  | [d1, d2, d3, d4] => { results := [.lit (.bool false)], args := [d1, d2, d3, d4] }
  | _ => none }
def FnExactSetPegWrongFalsely : Prop := fnExactSetPegRow.holds Try.pinned (OpenSpec.ofChange fnExactSetPegWrong)

/-- 'laws.FnExactFullBut': WHATEVER THE INPUT: true; the input reads as it did. -/
def fnExactFullButSpec : ChangeSpec := { name := "fnExactFullBut", fn := fun _ => fun
  | [d1, d2] => { results := [.lit (.bool true)], args := [d1, d2] }
  | _ => none }
def fnExactFullButRow : OpenClaim := { program := "ytpdhdogllejdbab", sum := "4799c6c73c37d7b3540243da5257e5da236d2775d8edeb6f057a7bf50e370538", func := "loop.example/g03302/laws.FnExactFullBut", spec := "fnExactFullBut", apart := false }
def FnExactFullButSaid : Prop := fnExactFullButRow.holds Try.pinned (OpenSpec.ofChange fnExactFullButSpec)

/-- ITS FALSE NEIGHBOUR: 'it returns false'. Refute it at one input. -/
def fnExactFullButWrong : ChangeSpec := { name := "fnExactFullBut", fn := fun _ => fun
  | [d1, d2] => { results := [.lit (.bool false)], args := [d1, d2] }
  | _ => none }
def FnExactFullButWrongFalsely : Prop := fnExactFullButRow.holds Try.pinned (OpenSpec.ofChange fnExactFullButWrong)

/-- 'laws.FnExactSinglePeg': WHATEVER THE INPUT: true; the input reads as it did. -/
def fnExactSinglePegSpec : ChangeSpec := { name := "fnExactSinglePeg", fn := fun _ => fun
  | [d1, d2] => { results := [.lit (.bool true)], args := [d1, d2] }
  | _ => none }
def fnExactSinglePegRow : OpenClaim := { program := "ytpdhdogllejdbab", sum := "4799c6c73c37d7b3540243da5257e5da236d2775d8edeb6f057a7bf50e370538", func := "loop.example/g03302/laws.FnExactSinglePeg", spec := "fnExactSinglePeg", apart := false }
def FnExactSinglePegSaid : Prop := fnExactSinglePegRow.holds Try.pinned (OpenSpec.ofChange fnExactSinglePegSpec)

/-- ITS FALSE NEIGHBOUR: 'it returns false'. Refute it at one input. -/
def fnExactSinglePegWrong : ChangeSpec := { name := "fnExactSinglePeg", fn := fun _ => fun
  | [d1, d2] => { results := [.lit (.bool false)], args := [d1, d2] }
  | _ => none }
def FnExactSinglePegWrongFalsely : Prop := fnExactSinglePegRow.holds Try.pinned (OpenSpec.ofChange fnExactSinglePegWrong)

/-- 'laws.FnExactCanJump': WHATEVER THE INPUT: true; the input reads as it did. -/
def fnExactCanJumpSpec : ChangeSpec := { name := "fnExactCanJump", fn := fun _ => fun
  | [d1, d2, d3] => { results := [.lit (.bool true)], args := [d1, d2, d3] }
  | _ => none }
def fnExactCanJumpRow : OpenClaim := { program := "ytpdhdogllejdbab", sum := "4799c6c73c37d7b3540243da5257e5da236d2775d8edeb6f057a7bf50e370538", func := "loop.example/g03302/laws.FnExactCanJump", spec := "fnExactCanJump", apart := false }
def FnExactCanJumpSaid : Prop := fnExactCanJumpRow.holds Try.pinned (OpenSpec.ofChange fnExactCanJumpSpec)

/-- ITS FALSE NEIGHBOUR: 'it returns false'. Refute it at one input. -/
def fnExactCanJumpWrong : ChangeSpec := { name := "fnExactCanJump", fn := fun _ => fun
  | [d1, d2, d3] => { results := [.lit (.bool false)], args := [d1, d2, d3] }
  | _ => none }
def FnExactCanJumpWrongFalsely : Prop := fnExactCanJumpRow.holds Try.pinned (OpenSpec.ofChange fnExactCanJumpWrong)

/-- 'laws.FnExactDoJump': WHATEVER THE INPUT: true; the input reads as it did. -/
def fnExactDoJumpSpec : ChangeSpec := { name := "fnExactDoJump", fn := fun _ => fun
  | [d1, d2, d3] => { results := [.lit (.bool true)], args := [d1, d2, d3] }
  | _ => none }
def fnExactDoJumpRow : OpenClaim := { program := "ytpdhdogllejdbab", sum := "4799c6c73c37d7b3540243da5257e5da236d2775d8edeb6f057a7bf50e370538", func := "loop.example/g03302/laws.FnExactDoJump", spec := "fnExactDoJump", apart := false }
def FnExactDoJumpSaid : Prop := fnExactDoJumpRow.holds Try.pinned (OpenSpec.ofChange fnExactDoJumpSpec)

/-- ITS FALSE NEIGHBOUR: 'it returns false'. Refute it at one input. -/
def fnExactDoJumpWrong : ChangeSpec := { name := "fnExactDoJump", fn := fun _ => fun
  | [d1, d2, d3] => { results := [.lit (.bool false)], args := [d1, d2, d3] }
  | _ => none }
def FnExactDoJumpWrongFalsely : Prop := fnExactDoJumpRow.holds Try.pinned (OpenSpec.ofChange fnExactDoJumpWrong)

/-- 'laws.FnExactCanUndo': WHATEVER THE INPUT: true; the input reads as it did. -/
def fnExactCanUndoSpec : ChangeSpec := { name := "fnExactCanUndo", fn := fun _ => fun
  | [d1, d2, d3] => { results := [.lit (.bool true)], args := [d1, d2, d3] }
  | _ => none }
def fnExactCanUndoRow : OpenClaim := { program := "ytpdhdogllejdbab", sum := "4799c6c73c37d7b3540243da5257e5da236d2775d8edeb6f057a7bf50e370538", func := "loop.example/g03302/laws.FnExactCanUndo", spec := "fnExactCanUndo", apart := false }
def FnExactCanUndoSaid : Prop := fnExactCanUndoRow.holds Try.pinned (OpenSpec.ofChange fnExactCanUndoSpec)

/-- ITS FALSE NEIGHBOUR: 'it returns false'. Refute it at one input. -/
def fnExactCanUndoWrong : ChangeSpec := { name := "fnExactCanUndo", fn := fun _ => fun
  | [d1, d2, d3] => { results := [.lit (.bool false)], args := [d1, d2, d3] }
  | _ => none }
def FnExactCanUndoWrongFalsely : Prop := fnExactCanUndoRow.holds Try.pinned (OpenSpec.ofChange fnExactCanUndoWrong)

/-- 'laws.FnExactUndoJump': WHATEVER THE INPUT: true; the input reads as it did. -/
def fnExactUndoJumpSpec : ChangeSpec := { name := "fnExactUndoJump", fn := fun _ => fun
  | [d1, d2, d3] => { results := [.lit (.bool true)], args := [d1, d2, d3] }
  | _ => none }
def fnExactUndoJumpRow : OpenClaim := { program := "ytpdhdogllejdbab", sum := "4799c6c73c37d7b3540243da5257e5da236d2775d8edeb6f057a7bf50e370538", func := "loop.example/g03302/laws.FnExactUndoJump", spec := "fnExactUndoJump", apart := false }
def FnExactUndoJumpSaid : Prop := fnExactUndoJumpRow.holds Try.pinned (OpenSpec.ofChange fnExactUndoJumpSpec)

/-- ITS FALSE NEIGHBOUR: 'it returns false'. Refute it at one input. -/
def fnExactUndoJumpWrong : ChangeSpec := { name := "fnExactUndoJump", fn := fun _ => fun
  | [d1, d2, d3] => { results := [.lit (.bool false)], args := [d1, d2, d3] }
  | _ => none }
def FnExactUndoJumpWrongFalsely : Prop := fnExactUndoJumpRow.holds Try.pinned (OpenSpec.ofChange fnExactUndoJumpWrong)

/-- 'laws.FnExactPlayAll': WHATEVER THE INPUT: true; the input reads as it did. -/
def fnExactPlayAllSpec : ChangeSpec := { name := "fnExactPlayAll", fn := fun _ => fun
  | [d1, d2, d3] => { results := [.lit (.bool true)], args := [d1, d2, d3] }
  | _ => none }
def fnExactPlayAllRow : OpenClaim := { program := "ytpdhdogllejdbab", sum := "4799c6c73c37d7b3540243da5257e5da236d2775d8edeb6f057a7bf50e370538", func := "loop.example/g03302/laws.FnExactPlayAll", spec := "fnExactPlayAll", unfollowed := true, recurses := true, apart := false }
def FnExactPlayAllSaid : Prop := fnExactPlayAllRow.holds Try.pinned (OpenSpec.ofChange fnExactPlayAllSpec)

/-- ITS FALSE NEIGHBOUR: 'it returns false'. Refute it at one input. -/
def fnExactPlayAllWrong : ChangeSpec := { name := "fnExactPlayAll", fn := fun _ => fun
  | [d1, d2, d3] => { results := [.lit (.bool false)], args := [d1, d2, d3] }
  | _ => none }
def FnExactPlayAllWrongFalsely : Prop := fnExactPlayAllRow.holds Try.pinned (OpenSpec.ofChange fnExactPlayAllWrong)

/-- 'laws.FnExactPositionsOf': WHATEVER THE INPUT: true; the input reads as it did. -/
def fnExactPositionsOfSpec : ChangeSpec := { name := "fnExactPositionsOf", fn := fun _ => fun
  | [d1, d2, d3] => { results := [.lit (.bool true)], args := [d1, d2, d3] }
  | _ => none }
def fnExactPositionsOfRow : OpenClaim := { program := "ytpdhdogllejdbab", sum := "4799c6c73c37d7b3540243da5257e5da236d2775d8edeb6f057a7bf50e370538", func := "loop.example/g03302/laws.FnExactPositionsOf", spec := "fnExactPositionsOf", unfollowed := true, recurses := true, apart := false }
def FnExactPositionsOfSaid : Prop := fnExactPositionsOfRow.holds Try.pinned (OpenSpec.ofChange fnExactPositionsOfSpec)

/-- ITS FALSE NEIGHBOUR: 'it returns false'. Refute it at one input. -/
def fnExactPositionsOfWrong : ChangeSpec := { name := "fnExactPositionsOf", fn := fun _ => fun
  | [d1, d2, d3] => { results := [.lit (.bool false)], args := [d1, d2, d3] }
  | _ => none }
def FnExactPositionsOfWrongFalsely : Prop := fnExactPositionsOfRow.holds Try.pinned (OpenSpec.ofChange fnExactPositionsOfWrong)

/-- 'laws.FnExactIsSolution': WHATEVER THE INPUT: true; the input reads as it did. -/
def fnExactIsSolutionSpec : ChangeSpec := { name := "fnExactIsSolution", fn := fun _ => fun
  | [d1, d2, d3, d4] => { results := [.lit (.bool true)], args := [d1, d2, d3, d4] }
  | _ => none }
def fnExactIsSolutionRow : OpenClaim := { program := "ytpdhdogllejdbab", sum := "4799c6c73c37d7b3540243da5257e5da236d2775d8edeb6f057a7bf50e370538", func := "loop.example/g03302/laws.FnExactIsSolution", spec := "fnExactIsSolution", unfollowed := true, recurses := true, apart := false }
def FnExactIsSolutionSaid : Prop := fnExactIsSolutionRow.holds Try.pinned (OpenSpec.ofChange fnExactIsSolutionSpec)

/-- ITS FALSE NEIGHBOUR: 'it returns false'. Refute it at one input. -/
def fnExactIsSolutionWrong : ChangeSpec := { name := "fnExactIsSolution", fn := fun _ => fun
  | [d1, d2, d3, d4] => { results := [.lit (.bool false)], args := [d1, d2, d3, d4] }
  | _ => none }
def FnExactIsSolutionWrongFalsely : Prop := fnExactIsSolutionRow.holds Try.pinned (OpenSpec.ofChange fnExactIsSolutionWrong)

/-- 'laws.FnExactUndoAll': WHATEVER THE INPUT: true; the input reads as it did. -/
def fnExactUndoAllSpec : ChangeSpec := { name := "fnExactUndoAll", fn := fun _ => fun
  | [d1, d2, d3] => { results := [.lit (.bool true)], args := [d1, d2, d3] }
  | _ => none }
def fnExactUndoAllRow : OpenClaim := { program := "ytpdhdogllejdbab", sum := "4799c6c73c37d7b3540243da5257e5da236d2775d8edeb6f057a7bf50e370538", func := "loop.example/g03302/laws.FnExactUndoAll", spec := "fnExactUndoAll", unfollowed := true, recurses := true, apart := false }
def FnExactUndoAllSaid : Prop := fnExactUndoAllRow.holds Try.pinned (OpenSpec.ofChange fnExactUndoAllSpec)

/-- ITS FALSE NEIGHBOUR: 'it returns false'. Refute it at one input. -/
def fnExactUndoAllWrong : ChangeSpec := { name := "fnExactUndoAll", fn := fun _ => fun
  | [d1, d2, d3] => { results := [.lit (.bool false)], args := [d1, d2, d3] }
  | _ => none }
def FnExactUndoAllWrongFalsely : Prop := fnExactUndoAllRow.holds Try.pinned (OpenSpec.ofChange fnExactUndoAllWrong)

/-- 'laws.FnExactFinalHoles': WHATEVER THE INPUT: true; the input reads as it did. -/
def fnExactFinalHolesSpec : ChangeSpec := { name := "fnExactFinalHoles", fn := fun _ => fun
  | [d1, d2] => { results := [.lit (.bool true)], args := [d1, d2] }
  | _ => none }
def fnExactFinalHolesRow : OpenClaim := { program := "ytpdhdogllejdbab", sum := "4799c6c73c37d7b3540243da5257e5da236d2775d8edeb6f057a7bf50e370538", func := "loop.example/g03302/laws.FnExactFinalHoles", spec := "fnExactFinalHoles", apart := false }
def FnExactFinalHolesSaid : Prop := fnExactFinalHolesRow.holds Try.pinned (OpenSpec.ofChange fnExactFinalHolesSpec)

/-- ITS FALSE NEIGHBOUR: 'it returns false'. Refute it at one input. -/
def fnExactFinalHolesWrong : ChangeSpec := { name := "fnExactFinalHoles", fn := fun _ => fun
  | [d1, d2] => { results := [.lit (.bool false)], args := [d1, d2] }
  | _ => none }
def FnExactFinalHolesWrongFalsely : Prop := fnExactFinalHolesRow.holds Try.pinned (OpenSpec.ofChange fnExactFinalHolesWrong)

/- THE SECOND FORM. 'bulk': how many values and letters a reading holds, each counted each time it is reached (what is shared counts as often as it is met; a slice's spare places count too). A statement '..UptoSaid' is the law's where the arguments, and the package variables that the reading takes, are together of bulk at most 1048576: NARROWER than '..Said'. Prove '..Said' where nothing that the law and all that it calls make is longer than what came in: it says more and counts as full. Else prove '..UptoSaid'. A law counts once. -/
mutual
def uptoBulk {H : Type} : DataW H → Nat
  | .lit (.string bytes) => bytes.length + 1
  | .lit _ => 1
  | .nil => 1
  | .ptr d => uptoBulk d + 1
  | .slice elems spare => uptoBulkAll elems + uptoBulkAll spare + 1
  | .agg parts => uptoBulkAll parts + 1
  | .iface _ d => uptoBulk d + 1
  | .map entries => uptoBulkEntries entries + 1
  | .held _ => 1
def uptoBulkAll {H : Type} : List (DataW H) → Nat
  | [] => 0
  | d :: r => uptoBulk d + uptoBulkAll r
def uptoBulkEntries {H : Type} : List (Lit × DataW H) → Nat
  | [] => 0
  | x :: r => uptoBulkEntry x + uptoBulkEntries r
def uptoBulkEntry {H : Type} : Lit × DataW H → Nat
  | (.string bytes, d) => bytes.length + uptoBulk d + 1
  | (_, d) => uptoBulk d + 1
 end
def uptoSmall : (H : Type) → List (DataW H) → Bool := fun _ ds => decide (uptoBulkAll ds ≤ 1048576)
def OpenSpec.upto (s : _root_.Go.ChangeSpec) : _root_.Go.OpenSpec := { _root_.Go.OpenSpec.ofChange s with cond := some uptoSmall }

/-- 'laws.FnExactSetPeg', WHERE WHAT IT READS IS OF BULK AT MOST 1048576: true; the input reads as it did. -/
def fnExactSetPegUptoRow : OpenClaim := { program := "ytpdhdogllejdbab", sum := "4799c6c73c37d7b3540243da5257e5da236d2775d8edeb6f057a7bf50e370538", func := "loop.example/g03302/laws.FnExactSetPeg", spec := "fnExactSetPeg", apart := false, narrowed := true }
def FnExactSetPegUptoSaid : Prop := fnExactSetPegUptoRow.holds Try.pinned (OpenSpec.upto fnExactSetPegSpec)

/-- 'laws.FnExactFullBut', WHERE WHAT IT READS IS OF BULK AT MOST 1048576: true; the input reads as it did. -/
def fnExactFullButUptoRow : OpenClaim := { program := "ytpdhdogllejdbab", sum := "4799c6c73c37d7b3540243da5257e5da236d2775d8edeb6f057a7bf50e370538", func := "loop.example/g03302/laws.FnExactFullBut", spec := "fnExactFullBut", apart := false, narrowed := true }
def FnExactFullButUptoSaid : Prop := fnExactFullButUptoRow.holds Try.pinned (OpenSpec.upto fnExactFullButSpec)

/-- 'laws.FnExactSinglePeg', WHERE WHAT IT READS IS OF BULK AT MOST 1048576: true; the input reads as it did. -/
def fnExactSinglePegUptoRow : OpenClaim := { program := "ytpdhdogllejdbab", sum := "4799c6c73c37d7b3540243da5257e5da236d2775d8edeb6f057a7bf50e370538", func := "loop.example/g03302/laws.FnExactSinglePeg", spec := "fnExactSinglePeg", apart := false, narrowed := true }
def FnExactSinglePegUptoSaid : Prop := fnExactSinglePegUptoRow.holds Try.pinned (OpenSpec.upto fnExactSinglePegSpec)

/-- 'laws.FnExactCanJump', WHERE WHAT IT READS IS OF BULK AT MOST 1048576: true; the input reads as it did. -/
def fnExactCanJumpUptoRow : OpenClaim := { program := "ytpdhdogllejdbab", sum := "4799c6c73c37d7b3540243da5257e5da236d2775d8edeb6f057a7bf50e370538", func := "loop.example/g03302/laws.FnExactCanJump", spec := "fnExactCanJump", apart := false, narrowed := true }
def FnExactCanJumpUptoSaid : Prop := fnExactCanJumpUptoRow.holds Try.pinned (OpenSpec.upto fnExactCanJumpSpec)

/-- 'laws.FnExactDoJump', WHERE WHAT IT READS IS OF BULK AT MOST 1048576: true; the input reads as it did. -/
def fnExactDoJumpUptoRow : OpenClaim := { program := "ytpdhdogllejdbab", sum := "4799c6c73c37d7b3540243da5257e5da236d2775d8edeb6f057a7bf50e370538", func := "loop.example/g03302/laws.FnExactDoJump", spec := "fnExactDoJump", apart := false, narrowed := true }
def FnExactDoJumpUptoSaid : Prop := fnExactDoJumpUptoRow.holds Try.pinned (OpenSpec.upto fnExactDoJumpSpec)

/-- 'laws.FnExactCanUndo', WHERE WHAT IT READS IS OF BULK AT MOST 1048576: true; the input reads as it did. -/
def fnExactCanUndoUptoRow : OpenClaim := { program := "ytpdhdogllejdbab", sum := "4799c6c73c37d7b3540243da5257e5da236d2775d8edeb6f057a7bf50e370538", func := "loop.example/g03302/laws.FnExactCanUndo", spec := "fnExactCanUndo", apart := false, narrowed := true }
def FnExactCanUndoUptoSaid : Prop := fnExactCanUndoUptoRow.holds Try.pinned (OpenSpec.upto fnExactCanUndoSpec)

/-- 'laws.FnExactUndoJump', WHERE WHAT IT READS IS OF BULK AT MOST 1048576: true; the input reads as it did. -/
def fnExactUndoJumpUptoRow : OpenClaim := { program := "ytpdhdogllejdbab", sum := "4799c6c73c37d7b3540243da5257e5da236d2775d8edeb6f057a7bf50e370538", func := "loop.example/g03302/laws.FnExactUndoJump", spec := "fnExactUndoJump", apart := false, narrowed := true }
def FnExactUndoJumpUptoSaid : Prop := fnExactUndoJumpUptoRow.holds Try.pinned (OpenSpec.upto fnExactUndoJumpSpec)

/-- 'laws.FnExactPlayAll', WHERE WHAT IT READS IS OF BULK AT MOST 1048576: true; the input reads as it did. -/
def fnExactPlayAllUptoRow : OpenClaim := { program := "ytpdhdogllejdbab", sum := "4799c6c73c37d7b3540243da5257e5da236d2775d8edeb6f057a7bf50e370538", func := "loop.example/g03302/laws.FnExactPlayAll", spec := "fnExactPlayAll", unfollowed := true, recurses := true, apart := false, narrowed := true }
def FnExactPlayAllUptoSaid : Prop := fnExactPlayAllUptoRow.holds Try.pinned (OpenSpec.upto fnExactPlayAllSpec)

/-- 'laws.FnExactPositionsOf', WHERE WHAT IT READS IS OF BULK AT MOST 1048576: true; the input reads as it did. -/
def fnExactPositionsOfUptoRow : OpenClaim := { program := "ytpdhdogllejdbab", sum := "4799c6c73c37d7b3540243da5257e5da236d2775d8edeb6f057a7bf50e370538", func := "loop.example/g03302/laws.FnExactPositionsOf", spec := "fnExactPositionsOf", unfollowed := true, recurses := true, apart := false, narrowed := true }
def FnExactPositionsOfUptoSaid : Prop := fnExactPositionsOfUptoRow.holds Try.pinned (OpenSpec.upto fnExactPositionsOfSpec)

/-- 'laws.FnExactIsSolution', WHERE WHAT IT READS IS OF BULK AT MOST 1048576: true; the input reads as it did. -/
def fnExactIsSolutionUptoRow : OpenClaim := { program := "ytpdhdogllejdbab", sum := "4799c6c73c37d7b3540243da5257e5da236d2775d8edeb6f057a7bf50e370538", func := "loop.example/g03302/laws.FnExactIsSolution", spec := "fnExactIsSolution", unfollowed := true, recurses := true, apart := false, narrowed := true }
def FnExactIsSolutionUptoSaid : Prop := fnExactIsSolutionUptoRow.holds Try.pinned (OpenSpec.upto fnExactIsSolutionSpec)

/-- 'laws.FnExactUndoAll', WHERE WHAT IT READS IS OF BULK AT MOST 1048576: true; the input reads as it did. -/
def fnExactUndoAllUptoRow : OpenClaim := { program := "ytpdhdogllejdbab", sum := "4799c6c73c37d7b3540243da5257e5da236d2775d8edeb6f057a7bf50e370538", func := "loop.example/g03302/laws.FnExactUndoAll", spec := "fnExactUndoAll", unfollowed := true, recurses := true, apart := false, narrowed := true }
def FnExactUndoAllUptoSaid : Prop := fnExactUndoAllUptoRow.holds Try.pinned (OpenSpec.upto fnExactUndoAllSpec)

/-- 'laws.FnExactFinalHoles', WHERE WHAT IT READS IS OF BULK AT MOST 1048576: true; the input reads as it did. -/
def fnExactFinalHolesUptoRow : OpenClaim := { program := "ytpdhdogllejdbab", sum := "4799c6c73c37d7b3540243da5257e5da236d2775d8edeb6f057a7bf50e370538", func := "loop.example/g03302/laws.FnExactFinalHoles", spec := "fnExactFinalHoles", apart := false, narrowed := true }
def FnExactFinalHolesUptoSaid : Prop := fnExactFinalHolesUptoRow.holds Try.pinned (OpenSpec.upto fnExactFinalHolesSpec)

end Rows
end Go.Proofs.Ytpdhdogllejdbab
