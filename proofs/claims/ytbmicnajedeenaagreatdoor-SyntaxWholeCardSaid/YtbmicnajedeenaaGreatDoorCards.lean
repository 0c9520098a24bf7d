/-
  DERIVED. GIVEN WITH THE SEED: THE CARDS: each row of YtbmicnajedeenaaGreatDoorRows.lean that lists a variable, with what it lists TIED to the program's text (the seventh form; the later family's looks); each row that meets fmt, with fmt's text TOLD by the authors' own Lean function (tested against real Go, not proved from fmt's source: count such statements apart). THE CARD IS WHAT COUNTS. Prove the row's statement (the work); the ties are given (YtbmicnajedeenaaGreatDoorTie.lean); close each card by the builder's one call (the guide's Derived/Test/ToyasCard.lean, 'card_holds'). Laid BY PROGRAM, IN A SANDBOX (cutbox-door.mjs). By AI agents, Wed Nov 11 2026. No macro, syntax, notation, axiom, sorry.
-/
import Derived.Test.YtbmicnajedeenaaGreatDoorRows
import GoSem.ClaimSeven
namespace Go.Proofs.YtbmicnajedeenaaGreatDoor
namespace Rows

/-- THE TIED CARD OF 'repriselaw02.SyntaxWhole'. -/
def syntaxWholeCard : Claim7 := { stood := { row := syntaxWholeRow, standIns := [], harness := (true, "0ffc5ba47e35df9f03cda901d7de0979939019d05f49d7c21b2b7458d5fbb939"), looks := false }, kinds := [], alts := [], laidByText := true, laidKinds := [.data, .data, .data, .data, .data, .data], laidTests := true, laidLooks := .later }
def SyntaxWholeCardSaid : Prop := Claim7.holds Tryz.pinned (.plain (OpenSpec.ofChange syntaxWholeSpec)) syntaxWholeCard

/-- THE SECOND FORM's CARD OF 'repriselaw02.SyntaxWhole'. -/
def syntaxWholeUptoCard : Claim7 := { stood := { row := syntaxWholeUptoRow, standIns := [], harness := (true, "0ffc5ba47e35df9f03cda901d7de0979939019d05f49d7c21b2b7458d5fbb939"), looks := false }, kinds := [], alts := [], laidByText := true, laidKinds := [.data, .data, .data, .data, .data, .data], laidTests := true, laidLooks := .later }
def SyntaxWholeUptoCardSaid : Prop := Claim7.holds Tryz.pinned (.plain (OpenSpec.upto syntaxWholeSpec)) syntaxWholeUptoCard
end Rows
end Go.Proofs.YtbmicnajedeenaaGreatDoor
