/-
  DERIVED. GIVEN WITH THE SEED: THE CARDS: each row of YtpdhdogllejdbaaDoorRows.lean that lists a variable, with what it lists TIED to the program's text (the seventh form; the later family's looks); each row that meets fmt, with fmt's text TOLD by the authors' own Lean function (tested against real Go, not proved from fmt's source: count such statements apart). THE CARD IS WHAT COUNTS. Prove the row's statement (the work); the ties are given (YtpdhdogllejdbaaDoorTie.lean); close each card by the builder's one call (the guide's Derived/Test/ToyasCard.lean, 'card_holds'). Laid BY PROGRAM, IN A SANDBOX (cutbox-door.mjs). By AI agents, Wed Nov 11 2026. No macro, syntax, notation, axiom, sorry.
-/
import Derived.Test.YtpdhdogllejdbaaDoorRows
import GoSem.ClaimSeven
namespace Go.Proofs.YtpdhdogllejdbaaDoor
namespace Rows

/-- THE TIED CARD OF 'laws.FnBoards'. -/
def fnBoardsCard : Claim7 := { stood := { row := fnBoardsRow, standIns := [], harness := (true, "3a2192cbc38fb8d8eadbfa87621d5df4780939fea78abcf36005f9015ca26f9e"), looks := false }, kinds := [], alts := [], laidByText := true, laidKinds := [.data, .data, .data], laidTests := true, laidLooks := .later }
def FnBoardsCardSaid : Prop := Claim7.holds Tryd.pinned (.plain (OpenSpec.ofChange fnBoardsSpec)) fnBoardsCard

/-- THE TIED CARD OF 'laws.FnExactHoleName'. -/
def fnExactHoleNameCard : Claim7 := { stood := { row := fnExactHoleNameRow, standIns := [], harness := (true, "3a2192cbc38fb8d8eadbfa87621d5df4780939fea78abcf36005f9015ca26f9e"), looks := false }, kinds := [], alts := [], laidByText := true, laidKinds := [.data, .data, .data], laidTests := true, laidLooks := .later }
def FnExactHoleNameCardSaid : Prop := Claim7.holds Tryd.pinned (.plain (OpenSpec.ofChange fnExactHoleNameSpec)) fnExactHoleNameCard

/-- THE SECOND FORM's CARD OF 'laws.FnBoards'. -/
def fnBoardsUptoCard : Claim7 := { stood := { row := fnBoardsUptoRow, standIns := [], harness := (true, "3a2192cbc38fb8d8eadbfa87621d5df4780939fea78abcf36005f9015ca26f9e"), looks := false }, kinds := [], alts := [], laidByText := true, laidKinds := [.data, .data, .data], laidTests := true, laidLooks := .later }
def FnBoardsUptoCardSaid : Prop := Claim7.holds Tryd.pinned (.plain (OpenSpec.upto fnBoardsSpec)) fnBoardsUptoCard

/-- THE SECOND FORM's CARD OF 'laws.FnExactHoleName'. -/
def fnExactHoleNameUptoCard : Claim7 := { stood := { row := fnExactHoleNameUptoRow, standIns := [], harness := (true, "3a2192cbc38fb8d8eadbfa87621d5df4780939fea78abcf36005f9015ca26f9e"), looks := false }, kinds := [], alts := [], laidByText := true, laidKinds := [.data, .data, .data], laidTests := true, laidLooks := .later }
def FnExactHoleNameUptoCardSaid : Prop := Claim7.holds Tryd.pinned (.plain (OpenSpec.upto fnExactHoleNameSpec)) fnExactHoleNameUptoCard
end Rows
end Go.Proofs.YtpdhdogllejdbaaDoor
