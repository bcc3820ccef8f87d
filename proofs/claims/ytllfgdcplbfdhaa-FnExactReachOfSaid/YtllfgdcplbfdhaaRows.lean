/-
  No cell of these rows narrows 'for every input' (looked for: loops, veiled, ifaces, maps, wideKeys, modest, calm, conditions, laid).
  DERIVED. THE GIVEN ROWS OF THIS SEAT. 7 by the template 'for every input the law returns true; each argument reads behind the call as it read before'; 0 by the template 'total and deterministic' (their statements: YtllfgdcplbfdhaaTotals.lean).
  GIVEN WITH THE SEED: the statements are not yours to turn. If you find one false, say at which input.
  Laid BY PROGRAM, IN A SANDBOX (cutbox-rows.mjs): the forced cells as the released guide's own fill.sh prints them over the translation 3c3294c973e09102… (all of the seat's roots in one cut). By AI agents, Wed Nov 11 2026. No macro, syntax, notation, axiom, sorry.
-/
import Derived.Test.YtllfgdcplbfdhaaChecked
import GoSem.Claim
import GoSem.ClaimJoined
import GoSem.ClaimMapViews
import Derived.JoinedTies
import Derived.KernelRfl
namespace Go.Proofs.Ytllfgdcplbfdhaa
/- THE CELL 'sum', in the pinned program and in every row, IS THE sha256 OF THE DUMP (.gsa) THAT YtllfgdcplbfdhaaProg.lean LOADS. Nothing in Lean hashes anything: it is a label: what it is worth is what the hold of that sum in a sandbox is worth. -/
noncomputable def Try.pinned : Pinned := { name := "ytllfgdcplbfdhaa", sum := "3c3294c973e091027c8fdca6aeaf7c70ef96d481dc0ba41c39f9bcaea2597feb", checked := Try.checked }
namespace Rows
def none {H : Type} : Left H := { results := [], args := [] }

/-- 'laws.FnReach': WHATEVER THE INPUT: true; the input reads as it did. -/
def fnReachSpec : ChangeSpec := { name := "fnReach", fn := fun _ => fun
  | [d] => { results := [.lit (.bool true)], args := [d] }
  | _ => none }
def fnReachRow : OpenClaim := { program := "ytllfgdcplbfdhaa", sum := "3c3294c973e091027c8fdca6aeaf7c70ef96d481dc0ba41c39f9bcaea2597feb", func := "loop.example/g03302/laws.FnReach", spec := "fnReach", recurses := true, apart := false }
def FnReachSaid : Prop := fnReachRow.holds Try.pinned (OpenSpec.ofChange fnReachSpec)

/-- ITS FALSE NEIGHBOUR: 'it returns false'. Refute it at one input. -/
def fnReachWrong : ChangeSpec := { name := "fnReach", fn := fun _ => fun
  | [d] => { results := [.lit (.bool false)], args := [d] }
  | _ => none }
def FnReachWrongFalsely : Prop := fnReachRow.holds Try.pinned (OpenSpec.ofChange fnReachWrong)

/-- 'laws.FnExactIsSmall': WHATEVER THE INPUT: true; the input reads as it did. -/
def fnExactIsSmallSpec : ChangeSpec := { name := "fnExactIsSmall", fn := fun _ => fun
  | [d] => { results := [.lit (.bool true)], args := [d] }
  | _ => none }
def fnExactIsSmallRow : OpenClaim := { program := "ytllfgdcplbfdhaa", sum := "3c3294c973e091027c8fdca6aeaf7c70ef96d481dc0ba41c39f9bcaea2597feb", func := "loop.example/g03302/laws.FnExactIsSmall", spec := "fnExactIsSmall", apart := false }
def FnExactIsSmallSaid : Prop := fnExactIsSmallRow.holds Try.pinned (OpenSpec.ofChange fnExactIsSmallSpec)

/-- ITS FALSE NEIGHBOUR: 'it returns false'. Refute it at one input. -/
def fnExactIsSmallWrong : ChangeSpec := { name := "fnExactIsSmall", fn := fun _ => fun
  | [d] => { results := [.lit (.bool false)], args := [d] }
  | _ => none }
def FnExactIsSmallWrongFalsely : Prop := fnExactIsSmallRow.holds Try.pinned (OpenSpec.ofChange fnExactIsSmallWrong)

/-- 'laws.FnExactReachOf': WHATEVER THE INPUT: true; the input reads as it did. -/
def fnExactReachOfSpec : ChangeSpec := { name := "fnExactReachOf", fn := fun _ => fun
  | [d1, d2] => { results := [.lit (.bool true)], args := [d1, d2] }
  | _ => none }
def fnExactReachOfRow : OpenClaim := { program := "ytllfgdcplbfdhaa", sum := "3c3294c973e091027c8fdca6aeaf7c70ef96d481dc0ba41c39f9bcaea2597feb", func := "loop.example/g03302/laws.FnExactReachOf", spec := "fnExactReachOf", recurses := true, apart := false }
def FnExactReachOfSaid : Prop := fnExactReachOfRow.holds Try.pinned (OpenSpec.ofChange fnExactReachOfSpec)

/-- ITS FALSE NEIGHBOUR: 'it returns false'. Refute it at one input. -/
def fnExactReachOfWrong : ChangeSpec := { name := "fnExactReachOf", fn := fun _ => fun
  | [d1, d2] => { results := [.lit (.bool false)], args := [d1, d2] }
  | _ => none }
def FnExactReachOfWrongFalsely : Prop := fnExactReachOfRow.holds Try.pinned (OpenSpec.ofChange fnExactReachOfWrong)

/-- 'laws.FnExactCanReach': WHATEVER THE INPUT: true; the input reads as it did. -/
def fnExactCanReachSpec : ChangeSpec := { name := "fnExactCanReach", fn := fun _ => fun
  | [d1, d2, d3] => { results := [.lit (.bool true)], args := [d1, d2, d3] }
  | _ => none }
def fnExactCanReachRow : OpenClaim := { program := "ytllfgdcplbfdhaa", sum := "3c3294c973e091027c8fdca6aeaf7c70ef96d481dc0ba41c39f9bcaea2597feb", func := "loop.example/g03302/laws.FnExactCanReach", spec := "fnExactCanReach", recurses := true, apart := false }
def FnExactCanReachSaid : Prop := fnExactCanReachRow.holds Try.pinned (OpenSpec.ofChange fnExactCanReachSpec)

/-- ITS FALSE NEIGHBOUR: 'it returns false'. Refute it at one input. -/
def fnExactCanReachWrong : ChangeSpec := { name := "fnExactCanReach", fn := fun _ => fun
  | [d1, d2, d3] => { results := [.lit (.bool false)], args := [d1, d2, d3] }
  | _ => none }
def FnExactCanReachWrongFalsely : Prop := fnExactCanReachRow.holds Try.pinned (OpenSpec.ofChange fnExactCanReachWrong)

/-- 'laws.FnExactCountReach': WHATEVER THE INPUT: true; the input reads as it did. -/
def fnExactCountReachSpec : ChangeSpec := { name := "fnExactCountReach", fn := fun _ => fun
  | [d1, d2] => { results := [.lit (.bool true)], args := [d1, d2] }
  | _ => none }
def fnExactCountReachRow : OpenClaim := { program := "ytllfgdcplbfdhaa", sum := "3c3294c973e091027c8fdca6aeaf7c70ef96d481dc0ba41c39f9bcaea2597feb", func := "loop.example/g03302/laws.FnExactCountReach", spec := "fnExactCountReach", recurses := true, apart := false }
def FnExactCountReachSaid : Prop := fnExactCountReachRow.holds Try.pinned (OpenSpec.ofChange fnExactCountReachSpec)

/-- ITS FALSE NEIGHBOUR: 'it returns false'. Refute it at one input. -/
def fnExactCountReachWrong : ChangeSpec := { name := "fnExactCountReach", fn := fun _ => fun
  | [d1, d2] => { results := [.lit (.bool false)], args := [d1, d2] }
  | _ => none }
def FnExactCountReachWrongFalsely : Prop := fnExactCountReachRow.holds Try.pinned (OpenSpec.ofChange fnExactCountReachWrong)

/-- 'laws.FnExactFewestLeft': WHATEVER THE INPUT: true; the input reads as it did. -/
def fnExactFewestLeftSpec : ChangeSpec := { name := "fnExactFewestLeft", fn := fun _ => fun
  | [d1, d2] => { results := [.lit (.bool true)], args := [d1, d2] }
  | _ => none }
def fnExactFewestLeftRow : OpenClaim := { program := "ytllfgdcplbfdhaa", sum := "3c3294c973e091027c8fdca6aeaf7c70ef96d481dc0ba41c39f9bcaea2597feb", func := "loop.example/g03302/laws.FnExactFewestLeft", spec := "fnExactFewestLeft", recurses := true, apart := false }
def FnExactFewestLeftSaid : Prop := fnExactFewestLeftRow.holds Try.pinned (OpenSpec.ofChange fnExactFewestLeftSpec)

/-- ITS FALSE NEIGHBOUR: 'it returns false'. Refute it at one input. -/
def fnExactFewestLeftWrong : ChangeSpec := { name := "fnExactFewestLeft", fn := fun _ => fun
  | [d1, d2] => { results := [.lit (.bool false)], args := [d1, d2] }
  | _ => none }
def FnExactFewestLeftWrongFalsely : Prop := fnExactFewestLeftRow.holds Try.pinned (OpenSpec.ofChange fnExactFewestLeftWrong)

/-- 'laws.FnExactFinalsOf': WHATEVER THE INPUT: true; the input reads as it did. -/
def fnExactFinalsOfSpec : ChangeSpec := { name := "fnExactFinalsOf", fn := fun _ => fun
  | [d1, d2] => { results := [.lit (.bool true)], args := [d1, d2] }
  | _ => none }
def fnExactFinalsOfRow : OpenClaim := { program := "ytllfgdcplbfdhaa", sum := "3c3294c973e091027c8fdca6aeaf7c70ef96d481dc0ba41c39f9bcaea2597feb", func := "loop.example/g03302/laws.FnExactFinalsOf", spec := "fnExactFinalsOf", recurses := true, apart := false }
def FnExactFinalsOfSaid : Prop := fnExactFinalsOfRow.holds Try.pinned (OpenSpec.ofChange fnExactFinalsOfSpec)

/-- ITS FALSE NEIGHBOUR: 'it returns false'. Refute it at one input. -/
def fnExactFinalsOfWrong : ChangeSpec := { name := "fnExactFinalsOf", fn := fun _ => fun
  | [d1, d2] => { results := [.lit (.bool false)], args := [d1, d2] }
  | _ => none }
def FnExactFinalsOfWrongFalsely : Prop := fnExactFinalsOfRow.holds Try.pinned (OpenSpec.ofChange fnExactFinalsOfWrong)

/- THE SECOND FORM. 'bulk': how many values and letters a reading holds, each counted each time it is reached (what is shared counts as often as it is met; a slice's spare places count too). A statement '..UptoSaid' is the law's where the arguments, and the package variables that the reading takes, are together of bulk at most 1048576: NARROWER than '..Said'. Prove '..Said' where nothing that the law and all that it calls make is longer than what came in: it says more and counts as full. Else prove '..UptoSaid'. A law counts once. -/
mutual
def uptoBulk {H : Type} : DataW H → Nat
  | .lit (.string bytes) => bytes.length + 1
  | .lit _ => 1
  | .nil => 1
  | .ptr d => uptoBulk d + 1
  | .slice elems spare => uptoBulkAll elems + uptoBulkAll spare + 1
  | .agg parts => uptoBulkAll parts + 1
  | .iface _ d => uptoBulk d + 1
  | .map entries => uptoBulkEntries entries + 1
  | .held _ => 1
def uptoBulkAll {H : Type} : List (DataW H) → Nat
  | [] => 0
  | d :: r => uptoBulk d + uptoBulkAll r
def uptoBulkEntries {H : Type} : List (Lit × DataW H) → Nat
  | [] => 0
  | x :: r => uptoBulkEntry x + uptoBulkEntries r
def uptoBulkEntry {H : Type} : Lit × DataW H → Nat
  | (.string bytes, d) => bytes.length + uptoBulk d + 1
  | (_, d) => uptoBulk d + 1
 end
def uptoSmall : (H : Type) → List (DataW H) → Bool := fun _ ds => decide (uptoBulkAll ds ≤ 1048576)
def OpenSpec.upto (s : _root_.Go.ChangeSpec) : _root_.Go.OpenSpec := { _root_.Go.OpenSpec.ofChange s with cond := some uptoSmall }

/-- 'laws.FnReach', WHERE WHAT IT READS IS OF BULK AT MOST 1048576: true; the input reads as it did. -/
def fnReachUptoRow : OpenClaim := { program := "ytllfgdcplbfdhaa", sum := "3c3294c973e091027c8fdca6aeaf7c70ef96d481dc0ba41c39f9bcaea2597feb", func := "loop.example/g03302/laws.FnReach", spec := "fnReach", recurses := true, apart := false, narrowed := true }
def FnReachUptoSaid : Prop := fnReachUptoRow.holds Try.pinned (OpenSpec.upto fnReachSpec)

/-- 'laws.FnExactIsSmall', WHERE WHAT IT READS IS OF BULK AT MOST 1048576: true; the input reads as it did. -/
def fnExactIsSmallUptoRow : OpenClaim := { program := "ytllfgdcplbfdhaa", sum := "3c3294c973e091027c8fdca6aeaf7c70ef96d481dc0ba41c39f9bcaea2597feb", func := "loop.example/g03302/laws.FnExactIsSmall", spec := "fnExactIsSmall", apart := false, narrowed := true }
def FnExactIsSmallUptoSaid : Prop := fnExactIsSmallUptoRow.holds Try.pinned (OpenSpec.upto fnExactIsSmallSpec)

/-- 'laws.FnExactReachOf', WHERE WHAT IT READS IS OF BULK AT MOST 1048576: true; the input reads as it did. -/
def fnExactReachOfUptoRow : OpenClaim := { program := "ytllfgdcplbfdhaa", sum := "3c3294c973e091027c8fdca6aeaf7c70ef96d481dc0ba41c39f9bcaea2597feb", func := "loop.example/g03302/laws.FnExactReachOf", spec := "fnExactReachOf", recurses := true, apart := false, narrowed := true }
def FnExactReachOfUptoSaid : Prop := fnExactReachOfUptoRow.holds Try.pinned (OpenSpec.upto fnExactReachOfSpec)

/-- 'laws.FnExactCanReach', WHERE WHAT IT READS IS OF BULK AT MOST 1048576: true; the input reads as it did. -/
def fnExactCanReachUptoRow : OpenClaim := { program := "ytllfgdcplbfdhaa", sum := "3c3294c973e091027c8fdca6aeaf7c70ef96d481dc0ba41c39f9bcaea2597feb", func := "loop.example/g03302/laws.FnExactCanReach", spec := "fnExactCanReach", recurses := true, apart := false, narrowed := true }
def FnExactCanReachUptoSaid : Prop := fnExactCanReachUptoRow.holds Try.pinned (OpenSpec.upto fnExactCanReachSpec)

/-- 'laws.FnExactCountReach', WHERE WHAT IT READS IS OF BULK AT MOST 1048576: true; the input reads as it did. -/
def fnExactCountReachUptoRow : OpenClaim := { program := "ytllfgdcplbfdhaa", sum := "3c3294c973e091027c8fdca6aeaf7c70ef96d481dc0ba41c39f9bcaea2597feb", func := "loop.example/g03302/laws.FnExactCountReach", spec := "fnExactCountReach", recurses := true, apart := false, narrowed := true }
def FnExactCountReachUptoSaid : Prop := fnExactCountReachUptoRow.holds Try.pinned (OpenSpec.upto fnExactCountReachSpec)

/-- 'laws.FnExactFewestLeft', WHERE WHAT IT READS IS OF BULK AT MOST 1048576: true; the input reads as it did. -/
def fnExactFewestLeftUptoRow : OpenClaim := { program := "ytllfgdcplbfdhaa", sum := "3c3294c973e091027c8fdca6aeaf7c70ef96d481dc0ba41c39f9bcaea2597feb", func := "loop.example/g03302/laws.FnExactFewestLeft", spec := "fnExactFewestLeft", recurses := true, apart := false, narrowed := true }
def FnExactFewestLeftUptoSaid : Prop := fnExactFewestLeftUptoRow.holds Try.pinned (OpenSpec.upto fnExactFewestLeftSpec)

/-- 'laws.FnExactFinalsOf', WHERE WHAT IT READS IS OF BULK AT MOST 1048576: true; the input reads as it did. -/
def fnExactFinalsOfUptoRow : OpenClaim := { program := "ytllfgdcplbfdhaa", sum := "3c3294c973e091027c8fdca6aeaf7c70ef96d481dc0ba41c39f9bcaea2597feb", func := "loop.example/g03302/laws.FnExactFinalsOf", spec := "fnExactFinalsOf", recurses := true, apart := false, narrowed := true }
def FnExactFinalsOfUptoSaid : Prop := fnExactFinalsOfUptoRow.holds Try.pinned (OpenSpec.upto fnExactFinalsOfSpec)

end Rows
end Go.Proofs.Ytllfgdcplbfdhaa
