/-
  No cell of these rows narrows 'for every input' (looked for: loops, veiled, ifaces, maps, wideKeys, modest, calm, conditions, laid).
  DERIVED. THE GIVEN ROWS OF THIS SEAT. 6 by the template 'for every input the law returns true; each argument reads behind the call as it read before'; 0 by the template 'total and deterministic' (their statements: YtoginbmflomjeaaTotals.lean).
  GIVEN WITH THE SEED: the statements are not yours to turn. If you find one false, say at which input.
  Laid BY PROGRAM, IN A SANDBOX (cutbox-rows.mjs): the forced cells as the released guide's own fill.sh prints them over the translation 4056889d1fb0d6ba… (all of the seat's roots in one cut). By AI agents, Wed Nov 11 2026. No macro, syntax, notation, axiom, sorry.
-/
import Derived.Test.YtoginbmflomjeaaChecked
import GoSem.Claim
import GoSem.ClaimJoined
import GoSem.ClaimMapViews
import Derived.JoinedTies
import Derived.KernelRfl
namespace Go.Proofs.Ytoginbmflomjeaa
/- THE CELL 'sum', in the pinned program and in every row, IS THE sha256 OF THE DUMP (.gsa) THAT YtoginbmflomjeaaProg.lean LOADS. Nothing in Lean hashes anything: it is a label: what it is worth is what the hold of that sum in a sandbox is worth. -/
noncomputable def Try.pinned : Pinned := { name := "ytoginbmflomjeaa", sum := "4056889d1fb0d6ba59df8d6d6e9bf83ae1354f48aea37c7a537699264d302213", checked := Try.checked }
namespace Rows
def none {H : Type} : Left H := { results := [], args := [] }

/-- 'laws.FnArmies': WHATEVER THE INPUT: true; the input reads as it did. -/
def fnArmiesSpec : ChangeSpec := { name := "fnArmies", fn := fun _ => fun
  | [d] => { results := [.lit (.bool true)], args := [d] }
  | _ => none }
def fnArmiesRow : OpenClaim := { program := "ytoginbmflomjeaa", sum := "4056889d1fb0d6ba59df8d6d6e9bf83ae1354f48aea37c7a537699264d302213", func := "loop.example/g03302/laws.FnArmies", spec := "fnArmies", unfollowed := true, recurses := true, plainKeys := false, apart := false }
def FnArmiesSaid : Prop := fnArmiesRow.holds Try.pinned (OpenSpec.ofChange fnArmiesSpec)

/-- ITS FALSE NEIGHBOUR: 'it returns false'. Refute it at one input. -/
def fnArmiesWrong : ChangeSpec := { name := "fnArmies", fn := fun _ => fun
  | [d] => { results := [.lit (.bool false)], args := [d] }
  | _ => none }
def FnArmiesWrongFalsely : Prop := fnArmiesRow.holds Try.pinned (OpenSpec.ofChange fnArmiesWrong)

/-- 'laws.FnExactArmyOk': WHATEVER THE INPUT: true; the input reads as it did. -/
def fnExactArmyOkSpec : ChangeSpec := { name := "fnExactArmyOk", fn := fun _ => fun
  | [d] => { results := [.lit (.bool true)], args := [d] }
  | _ => none }
def fnExactArmyOkRow : OpenClaim := { program := "ytoginbmflomjeaa", sum := "4056889d1fb0d6ba59df8d6d6e9bf83ae1354f48aea37c7a537699264d302213", func := "loop.example/g03302/laws.FnExactArmyOk", spec := "fnExactArmyOk", plainKeys := false, apart := false }
def FnExactArmyOkSaid : Prop := fnExactArmyOkRow.holds Try.pinned (OpenSpec.ofChange fnExactArmyOkSpec)

/-- ITS FALSE NEIGHBOUR: 'it returns false'. Refute it at one input. -/
def fnExactArmyOkWrong : ChangeSpec := { name := "fnExactArmyOk", fn := fun _ => fun
  | [d] => { results := [.lit (.bool false)], args := [d] }
  | _ => none }
def FnExactArmyOkWrongFalsely : Prop := fnExactArmyOkRow.holds Try.pinned (OpenSpec.ofChange fnExactArmyOkWrong)

/-- 'laws.FnExactWeightTo': WHATEVER THE INPUT: true; the input reads as it did. -/
def fnExactWeightToSpec : ChangeSpec := { name := "fnExactWeightTo", fn := fun _ => fun
  | [d1, d2] => { results := [.lit (.bool true)], args := [d1, d2] }
  | _ => none }
def fnExactWeightToRow : OpenClaim := { program := "ytoginbmflomjeaa", sum := "4056889d1fb0d6ba59df8d6d6e9bf83ae1354f48aea37c7a537699264d302213", func := "loop.example/g03302/laws.FnExactWeightTo", spec := "fnExactWeightTo", plainKeys := false, apart := false }
def FnExactWeightToSaid : Prop := fnExactWeightToRow.holds Try.pinned (OpenSpec.ofChange fnExactWeightToSpec)

/-- ITS FALSE NEIGHBOUR: 'it returns false'. Refute it at one input. -/
def fnExactWeightToWrong : ChangeSpec := { name := "fnExactWeightTo", fn := fun _ => fun
  | [d1, d2] => { results := [.lit (.bool false)], args := [d1, d2] }
  | _ => none }
def FnExactWeightToWrongFalsely : Prop := fnExactWeightToRow.holds Try.pinned (OpenSpec.ofChange fnExactWeightToWrong)

/-- 'laws.FnExactArmySum': WHATEVER THE INPUT: true; the input reads as it did. -/
def fnExactArmySumSpec : ChangeSpec := { name := "fnExactArmySum", fn := fun _ => fun
  | [d1, d2] => { results := [.lit (.bool true)], args := [d1, d2] }
  | _ => none }
def fnExactArmySumRow : OpenClaim := { program := "ytoginbmflomjeaa", sum := "4056889d1fb0d6ba59df8d6d6e9bf83ae1354f48aea37c7a537699264d302213", func := "loop.example/g03302/laws.FnExactArmySum", spec := "fnExactArmySum", plainKeys := false, apart := false }
def FnExactArmySumSaid : Prop := fnExactArmySumRow.holds Try.pinned (OpenSpec.ofChange fnExactArmySumSpec)

/-- ITS FALSE NEIGHBOUR: 'it returns false'. Refute it at one input. -/
def fnExactArmySumWrong : ChangeSpec := { name := "fnExactArmySum", fn := fun _ => fun
  | [d1, d2] => { results := [.lit (.bool false)], args := [d1, d2] }
  | _ => none }
def FnExactArmySumWrongFalsely : Prop := fnExactArmySumRow.holds Try.pinned (OpenSpec.ofChange fnExactArmySumWrong)

/-- 'laws.FnExactMayReach': WHATEVER THE INPUT: true; the input reads as it did. -/
def fnExactMayReachSpec : ChangeSpec := { name := "fnExactMayReach", fn := fun _ => fun
  | [d1, d2] => { results := [.lit (.bool true)], args := [d1, d2] }
  | _ => none }
def fnExactMayReachRow : OpenClaim := { program := "ytoginbmflomjeaa", sum := "4056889d1fb0d6ba59df8d6d6e9bf83ae1354f48aea37c7a537699264d302213", func := "loop.example/g03302/laws.FnExactMayReach", spec := "fnExactMayReach", plainKeys := false, apart := false }
def FnExactMayReachSaid : Prop := fnExactMayReachRow.holds Try.pinned (OpenSpec.ofChange fnExactMayReachSpec)

/-- ITS FALSE NEIGHBOUR: 'it returns false'. Refute it at one input. -/
def fnExactMayReachWrong : ChangeSpec := { name := "fnExactMayReach", fn := fun _ => fun
  | [d1, d2] => { results := [.lit (.bool false)], args := [d1, d2] }
  | _ => none }
def FnExactMayReachWrongFalsely : Prop := fnExactMayReachRow.holds Try.pinned (OpenSpec.ofChange fnExactMayReachWrong)

/-- 'laws.FnExactLeastArmy': WHATEVER THE INPUT: true; the input reads as it did. -/
def fnExactLeastArmySpec : ChangeSpec := { name := "fnExactLeastArmy", fn := fun _ => fun
  | [d] => { results := [.lit (.bool true)], args := [d] }
  | _ => none }
def fnExactLeastArmyRow : OpenClaim := { program := "ytoginbmflomjeaa", sum := "4056889d1fb0d6ba59df8d6d6e9bf83ae1354f48aea37c7a537699264d302213", func := "loop.example/g03302/laws.FnExactLeastArmy", spec := "fnExactLeastArmy", unfollowed := true, recurses := true, plainKeys := false, apart := false }
def FnExactLeastArmySaid : Prop := fnExactLeastArmyRow.holds Try.pinned (OpenSpec.ofChange fnExactLeastArmySpec)

/-- ITS FALSE NEIGHBOUR: 'it returns false'. Refute it at one input. -/
def fnExactLeastArmyWrong : ChangeSpec := { name := "fnExactLeastArmy", fn := fun _ => fun
  | [d] => { results := [.lit (.bool false)], args := [d] }
  | _ => none }
def FnExactLeastArmyWrongFalsely : Prop := fnExactLeastArmyRow.holds Try.pinned (OpenSpec.ofChange fnExactLeastArmyWrong)

/- THE SECOND FORM. 'bulk': how many values and letters a reading holds, each counted each time it is reached (what is shared counts as often as it is met; a slice's spare places count too). A statement '..UptoSaid' is the law's where the arguments, and the package variables that the reading takes, are together of bulk at most 1048576: NARROWER than '..Said'. Prove '..Said' where nothing that the law and all that it calls make is longer than what came in: it says more and counts as full. Else prove '..UptoSaid'. A law counts once. -/
mutual
def uptoBulk {H : Type} : DataW H → Nat
  | .lit (.string bytes) => bytes.length + 1
  | .lit _ => 1
  | .nil => 1
  | .ptr d => uptoBulk d + 1
  | .slice elems spare => uptoBulkAll elems + uptoBulkAll spare + 1
  | .agg parts => uptoBulkAll parts + 1
  | .iface _ d => uptoBulk d + 1
  | .map entries => uptoBulkEntries entries + 1
  | .held _ => 1
def uptoBulkAll {H : Type} : List (DataW H) → Nat
  | [] => 0
  | d :: r => uptoBulk d + uptoBulkAll r
def uptoBulkEntries {H : Type} : List (Lit × DataW H) → Nat
  | [] => 0
  | x :: r => uptoBulkEntry x + uptoBulkEntries r
def uptoBulkEntry {H : Type} : Lit × DataW H → Nat
  | (.string bytes, d) => bytes.length + uptoBulk d + 1
  | (_, d) => uptoBulk d + 1
 end
def uptoSmall : (H : Type) → List (DataW H) → Bool := fun _ ds => decide (uptoBulkAll ds ≤ 1048576)
def OpenSpec.upto (s : _root_.Go.ChangeSpec) : _root_.Go.OpenSpec := { _root_.Go.OpenSpec.ofChange s with cond := some uptoSmall }

/-- 'laws.FnArmies', WHERE WHAT IT READS IS OF BULK AT MOST 1048576: true; the input reads as it did. -/
def fnArmiesUptoRow : OpenClaim := { program := "ytoginbmflomjeaa", sum := "4056889d1fb0d6ba59df8d6d6e9bf83ae1354f48aea37c7a537699264d302213", func := "loop.example/g03302/laws.FnArmies", spec := "fnArmies", unfollowed := true, recurses := true, plainKeys := false, apart := false, narrowed := true }
def FnArmiesUptoSaid : Prop := fnArmiesUptoRow.holds Try.pinned (OpenSpec.upto fnArmiesSpec)

/-- 'laws.FnExactArmyOk', WHERE WHAT IT READS IS OF BULK AT MOST 1048576: true; the input reads as it did. -/
def fnExactArmyOkUptoRow : OpenClaim := { program := "ytoginbmflomjeaa", sum := "4056889d1fb0d6ba59df8d6d6e9bf83ae1354f48aea37c7a537699264d302213", func := "loop.example/g03302/laws.FnExactArmyOk", spec := "fnExactArmyOk", plainKeys := false, apart := false, narrowed := true }
def FnExactArmyOkUptoSaid : Prop := fnExactArmyOkUptoRow.holds Try.pinned (OpenSpec.upto fnExactArmyOkSpec)

/-- 'laws.FnExactWeightTo', WHERE WHAT IT READS IS OF BULK AT MOST 1048576: true; the input reads as it did. -/
def fnExactWeightToUptoRow : OpenClaim := { program := "ytoginbmflomjeaa", sum := "4056889d1fb0d6ba59df8d6d6e9bf83ae1354f48aea37c7a537699264d302213", func := "loop.example/g03302/laws.FnExactWeightTo", spec := "fnExactWeightTo", plainKeys := false, apart := false, narrowed := true }
def FnExactWeightToUptoSaid : Prop := fnExactWeightToUptoRow.holds Try.pinned (OpenSpec.upto fnExactWeightToSpec)

/-- 'laws.FnExactArmySum', WHERE WHAT IT READS IS OF BULK AT MOST 1048576: true; the input reads as it did. -/
def fnExactArmySumUptoRow : OpenClaim := { program := "ytoginbmflomjeaa", sum := "4056889d1fb0d6ba59df8d6d6e9bf83ae1354f48aea37c7a537699264d302213", func := "loop.example/g03302/laws.FnExactArmySum", spec := "fnExactArmySum", plainKeys := false, apart := false, narrowed := true }
def FnExactArmySumUptoSaid : Prop := fnExactArmySumUptoRow.holds Try.pinned (OpenSpec.upto fnExactArmySumSpec)

/-- 'laws.FnExactMayReach', WHERE WHAT IT READS IS OF BULK AT MOST 1048576: true; the input reads as it did. -/
def fnExactMayReachUptoRow : OpenClaim := { program := "ytoginbmflomjeaa", sum := "4056889d1fb0d6ba59df8d6d6e9bf83ae1354f48aea37c7a537699264d302213", func := "loop.example/g03302/laws.FnExactMayReach", spec := "fnExactMayReach", plainKeys := false, apart := false, narrowed := true }
def FnExactMayReachUptoSaid : Prop := fnExactMayReachUptoRow.holds Try.pinned (OpenSpec.upto fnExactMayReachSpec)

/-- 'laws.FnExactLeastArmy', WHERE WHAT IT READS IS OF BULK AT MOST 1048576: true; the input reads as it did. -/
def fnExactLeastArmyUptoRow : OpenClaim := { program := "ytoginbmflomjeaa", sum := "4056889d1fb0d6ba59df8d6d6e9bf83ae1354f48aea37c7a537699264d302213", func := "loop.example/g03302/laws.FnExactLeastArmy", spec := "fnExactLeastArmy", unfollowed := true, recurses := true, plainKeys := false, apart := false, narrowed := true }
def FnExactLeastArmyUptoSaid : Prop := fnExactLeastArmyUptoRow.holds Try.pinned (OpenSpec.upto fnExactLeastArmySpec)

end Rows
end Go.Proofs.Ytoginbmflomjeaa
