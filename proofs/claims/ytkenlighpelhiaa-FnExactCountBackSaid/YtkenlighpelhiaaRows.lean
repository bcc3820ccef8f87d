/-
  No cell of these rows narrows 'for every input' (looked for: loops, veiled, ifaces, maps, wideKeys, modest, calm, conditions, laid).
  DERIVED. THE GIVEN ROWS OF THIS SEAT. 5 by the template 'for every input the law returns true; each argument reads behind the call as it read before'; 0 by the template 'total and deterministic' (their statements: YtkenlighpelhiaaTotals.lean).
  GIVEN WITH THE SEED: the statements are not yours to turn. If you find one false, say at which input.
  Laid BY PROGRAM, IN A SANDBOX (cutbox-rows.mjs): the forced cells as the released guide's own fill.sh prints them over the translation d846d5fe42bc05aa… (all of the seat's roots in one cut). By AI agents, Wed Nov 11 2026. No macro, syntax, notation, axiom, sorry.
-/
import Derived.Test.YtkenlighpelhiaaChecked
import GoSem.Claim
import GoSem.ClaimJoined
import GoSem.ClaimMapViews
import Derived.JoinedTies
import Derived.KernelRfl
namespace Go.Proofs.Ytkenlighpelhiaa
/- THE CELL 'sum', in the pinned program and in every row, IS THE sha256 OF THE DUMP (.gsa) THAT YtkenlighpelhiaaProg.lean LOADS. Nothing in Lean hashes anything: it is a label: what it is worth is what the hold of that sum in a sandbox is worth. -/
noncomputable def Try.pinned : Pinned := { name := "ytkenlighpelhiaa", sum := "d846d5fe42bc05aae775c07c1f44114ad526ac02b86eee12af07fd190bb01ee0", checked := Try.checked }
namespace Rows
def none {H : Type} : Left H := { results := [], args := [] }

/-- 'laws.FnExactBackOf': WHATEVER THE INPUT: true; the input reads as it did. -/
def fnExactBackOfSpec : ChangeSpec := { name := "fnExactBackOf", fn := fun _ => fun
  | [d1, d2] => { results := [.lit (.bool true)], args := [d1, d2] }
  | _ => none }
def fnExactBackOfRow : OpenClaim := { program := "ytkenlighpelhiaa", sum := "d846d5fe42bc05aae775c07c1f44114ad526ac02b86eee12af07fd190bb01ee0", func := "loop.example/g03302/laws.FnExactBackOf", spec := "fnExactBackOf", unfollowed := true, recurses := true, apart := false }
def FnExactBackOfSaid : Prop := fnExactBackOfRow.holds Try.pinned (OpenSpec.ofChange fnExactBackOfSpec)

/-- ITS FALSE NEIGHBOUR: 'it returns false'. Refute it at one input. -/
def fnExactBackOfWrong : ChangeSpec := { name := "fnExactBackOf", fn := fun _ => fun
  | [d1, d2] => { results := [.lit (.bool false)], args := [d1, d2] }
  | _ => none }
def FnExactBackOfWrongFalsely : Prop := fnExactBackOfRow.holds Try.pinned (OpenSpec.ofChange fnExactBackOfWrong)

/-- 'laws.FnExactStartsFor': WHATEVER THE INPUT: true; the input reads as it did. -/
def fnExactStartsForSpec : ChangeSpec := { name := "fnExactStartsFor", fn := fun _ => fun
  | [d1, d2] => { results := [.lit (.bool true)], args := [d1, d2] }
  | _ => none }
def fnExactStartsForRow : OpenClaim := { program := "ytkenlighpelhiaa", sum := "d846d5fe42bc05aae775c07c1f44114ad526ac02b86eee12af07fd190bb01ee0", func := "loop.example/g03302/laws.FnExactStartsFor", spec := "fnExactStartsFor", unfollowed := true, recurses := true, apart := false }
def FnExactStartsForSaid : Prop := fnExactStartsForRow.holds Try.pinned (OpenSpec.ofChange fnExactStartsForSpec)

/-- ITS FALSE NEIGHBOUR: 'it returns false'. Refute it at one input. -/
def fnExactStartsForWrong : ChangeSpec := { name := "fnExactStartsFor", fn := fun _ => fun
  | [d1, d2] => { results := [.lit (.bool false)], args := [d1, d2] }
  | _ => none }
def FnExactStartsForWrongFalsely : Prop := fnExactStartsForRow.holds Try.pinned (OpenSpec.ofChange fnExactStartsForWrong)

/-- 'laws.FnExactSolvableHoles': WHATEVER THE INPUT: true; the input reads as it did. -/
def fnExactSolvableHolesSpec : ChangeSpec := { name := "fnExactSolvableHoles", fn := fun _ => fun
  | [d] => { results := [.lit (.bool true)], args := [d] }
  | _ => none }
def fnExactSolvableHolesRow : OpenClaim := { program := "ytkenlighpelhiaa", sum := "d846d5fe42bc05aae775c07c1f44114ad526ac02b86eee12af07fd190bb01ee0", func := "loop.example/g03302/laws.FnExactSolvableHoles", spec := "fnExactSolvableHoles", recurses := true, apart := false }
def FnExactSolvableHolesSaid : Prop := fnExactSolvableHolesRow.holds Try.pinned (OpenSpec.ofChange fnExactSolvableHolesSpec)

/-- ITS FALSE NEIGHBOUR: 'it returns false'. Refute it at one input. -/
def fnExactSolvableHolesWrong : ChangeSpec := { name := "fnExactSolvableHoles", fn := fun _ => fun
  | [d] => { results := [.lit (.bool false)], args := [d] }
  | _ => none }
def FnExactSolvableHolesWrongFalsely : Prop := fnExactSolvableHolesRow.holds Try.pinned (OpenSpec.ofChange fnExactSolvableHolesWrong)

/-- 'laws.FnExactPairsOf': WHATEVER THE INPUT: true; the input reads as it did. -/
def fnExactPairsOfSpec : ChangeSpec := { name := "fnExactPairsOf", fn := fun _ => fun
  | [d] => { results := [.lit (.bool true)], args := [d] }
  | _ => none }
def fnExactPairsOfRow : OpenClaim := { program := "ytkenlighpelhiaa", sum := "d846d5fe42bc05aae775c07c1f44114ad526ac02b86eee12af07fd190bb01ee0", func := "loop.example/g03302/laws.FnExactPairsOf", spec := "fnExactPairsOf", recurses := true, apart := false }
def FnExactPairsOfSaid : Prop := fnExactPairsOfRow.holds Try.pinned (OpenSpec.ofChange fnExactPairsOfSpec)

/-- ITS FALSE NEIGHBOUR: 'it returns false'. Refute it at one input. -/
def fnExactPairsOfWrong : ChangeSpec := { name := "fnExactPairsOf", fn := fun _ => fun
  | [d] => { results := [.lit (.bool false)], args := [d] }
  | _ => none }
def FnExactPairsOfWrongFalsely : Prop := fnExactPairsOfRow.holds Try.pinned (OpenSpec.ofChange fnExactPairsOfWrong)

/-- 'laws.FnExactCountBack': WHATEVER THE INPUT: true; the input reads as it did. -/
def fnExactCountBackSpec : ChangeSpec := { name := "fnExactCountBack", fn := fun _ => fun
  | [d1, d2] => { results := [.lit (.bool true)], args := [d1, d2] }
  | _ => none }
def fnExactCountBackRow : OpenClaim := { program := "ytkenlighpelhiaa", sum := "d846d5fe42bc05aae775c07c1f44114ad526ac02b86eee12af07fd190bb01ee0", func := "loop.example/g03302/laws.FnExactCountBack", spec := "fnExactCountBack", unfollowed := true, recurses := true, apart := false }
def FnExactCountBackSaid : Prop := fnExactCountBackRow.holds Try.pinned (OpenSpec.ofChange fnExactCountBackSpec)

/-- ITS FALSE NEIGHBOUR: 'it returns false'. Refute it at one input. -/
def fnExactCountBackWrong : ChangeSpec := { name := "fnExactCountBack", fn := fun _ => fun
  | [d1, d2] => { results := [.lit (.bool false)], args := [d1, d2] }
  | _ => none }
def FnExactCountBackWrongFalsely : Prop := fnExactCountBackRow.holds Try.pinned (OpenSpec.ofChange fnExactCountBackWrong)

/- THE SECOND FORM. 'bulk': how many values and letters a reading holds, each counted each time it is reached (what is shared counts as often as it is met; a slice's spare places count too). A statement '..UptoSaid' is the law's where the arguments, and the package variables that the reading takes, are together of bulk at most 1048576: NARROWER than '..Said'. Prove '..Said' where nothing that the law and all that it calls make is longer than what came in: it says more and counts as full. Else prove '..UptoSaid'. A law counts once. -/
mutual
def uptoBulk {H : Type} : DataW H → Nat
  | .lit (.string bytes) => bytes.length + 1
  | .lit _ => 1
  | .nil => 1
  | .ptr d => uptoBulk d + 1
  | .slice elems spare => uptoBulkAll elems + uptoBulkAll spare + 1
  | .agg parts => uptoBulkAll parts + 1
  | .iface _ d => uptoBulk d + 1
  | .map entries => uptoBulkEntries entries + 1
  | .held _ => 1
def uptoBulkAll {H : Type} : List (DataW H) → Nat
  | [] => 0
  | d :: r => uptoBulk d + uptoBulkAll r
def uptoBulkEntries {H : Type} : List (Lit × DataW H) → Nat
  | [] => 0
  | x :: r => uptoBulkEntry x + uptoBulkEntries r
def uptoBulkEntry {H : Type} : Lit × DataW H → Nat
  | (.string bytes, d) => bytes.length + uptoBulk d + 1
  | (_, d) => uptoBulk d + 1
 end
def uptoSmall : (H : Type) → List (DataW H) → Bool := fun _ ds => decide (uptoBulkAll ds ≤ 1048576)
def OpenSpec.upto (s : _root_.Go.ChangeSpec) : _root_.Go.OpenSpec := { _root_.Go.OpenSpec.ofChange s with cond := some uptoSmall }

/-- 'laws.FnExactBackOf', WHERE WHAT IT READS IS OF BULK AT MOST 1048576: true; the input reads as it did. -/
def fnExactBackOfUptoRow : OpenClaim := { program := "ytkenlighpelhiaa", sum := "d846d5fe42bc05aae775c07c1f44114ad526ac02b86eee12af07fd190bb01ee0", func := "loop.example/g03302/laws.FnExactBackOf", spec := "fnExactBackOf", unfollowed := true, recurses := true, apart := false, narrowed := true }
def FnExactBackOfUptoSaid : Prop := fnExactBackOfUptoRow.holds Try.pinned (OpenSpec.upto fnExactBackOfSpec)

/-- 'laws.FnExactStartsFor', WHERE WHAT IT READS IS OF BULK AT MOST 1048576: true; the input reads as it did. -/
def fnExactStartsForUptoRow : OpenClaim := { program := "ytkenlighpelhiaa", sum := "d846d5fe42bc05aae775c07c1f44114ad526ac02b86eee12af07fd190bb01ee0", func := "loop.example/g03302/laws.FnExactStartsFor", spec := "fnExactStartsFor", unfollowed := true, recurses := true, apart := false, narrowed := true }
def FnExactStartsForUptoSaid : Prop := fnExactStartsForUptoRow.holds Try.pinned (OpenSpec.upto fnExactStartsForSpec)

/-- 'laws.FnExactSolvableHoles', WHERE WHAT IT READS IS OF BULK AT MOST 1048576: true; the input reads as it did. -/
def fnExactSolvableHolesUptoRow : OpenClaim := { program := "ytkenlighpelhiaa", sum := "d846d5fe42bc05aae775c07c1f44114ad526ac02b86eee12af07fd190bb01ee0", func := "loop.example/g03302/laws.FnExactSolvableHoles", spec := "fnExactSolvableHoles", recurses := true, apart := false, narrowed := true }
def FnExactSolvableHolesUptoSaid : Prop := fnExactSolvableHolesUptoRow.holds Try.pinned (OpenSpec.upto fnExactSolvableHolesSpec)

/-- 'laws.FnExactPairsOf', WHERE WHAT IT READS IS OF BULK AT MOST 1048576: true; the input reads as it did. -/
def fnExactPairsOfUptoRow : OpenClaim := { program := "ytkenlighpelhiaa", sum := "d846d5fe42bc05aae775c07c1f44114ad526ac02b86eee12af07fd190bb01ee0", func := "loop.example/g03302/laws.FnExactPairsOf", spec := "fnExactPairsOf", recurses := true, apart := false, narrowed := true }
def FnExactPairsOfUptoSaid : Prop := fnExactPairsOfUptoRow.holds Try.pinned (OpenSpec.upto fnExactPairsOfSpec)

/-- 'laws.FnExactCountBack', WHERE WHAT IT READS IS OF BULK AT MOST 1048576: true; the input reads as it did. -/
def fnExactCountBackUptoRow : OpenClaim := { program := "ytkenlighpelhiaa", sum := "d846d5fe42bc05aae775c07c1f44114ad526ac02b86eee12af07fd190bb01ee0", func := "loop.example/g03302/laws.FnExactCountBack", spec := "fnExactCountBack", unfollowed := true, recurses := true, apart := false, narrowed := true }
def FnExactCountBackUptoSaid : Prop := fnExactCountBackUptoRow.holds Try.pinned (OpenSpec.upto fnExactCountBackSpec)

end Rows
end Go.Proofs.Ytkenlighpelhiaa
