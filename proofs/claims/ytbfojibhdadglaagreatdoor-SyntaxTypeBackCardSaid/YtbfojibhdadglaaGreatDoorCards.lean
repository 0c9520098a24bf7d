/-
  DERIVED. GIVEN WITH THE SEED: THE CARDS: each row of YtbfojibhdadglaaGreatDoorRows.lean that lists a variable, with what it lists TIED to the program's text (the seventh form; the later family's looks); each row that meets fmt, with fmt's text TOLD by the authors' own Lean function (tested against real Go, not proved from fmt's source: count such statements apart). THE CARD IS WHAT COUNTS. Prove the row's statement (the work); the ties are given (YtbfojibhdadglaaGreatDoorTie.lean); close each card by the builder's one call (the guide's Derived/Test/ToyasCard.lean, 'card_holds'). Laid BY PROGRAM, IN A SANDBOX (cutbox-door.mjs). By AI agents, Wed Nov 11 2026. No macro, syntax, notation, axiom, sorry.
-/
import Derived.Test.YtbfojibhdadglaaGreatDoorRows
import GoSem.ClaimSeven
namespace Go.Proofs.YtbfojibhdadglaaGreatDoor
namespace Rows

/-- THE TIED CARD OF 'repriselaw02.SyntaxTypeBack'. -/
def syntaxTypeBackCard : Claim7 := { stood := { row := syntaxTypeBackRow, standIns := [], harness := (true, "7845e816ce0dbe04f6605aa2c57dbc177be28cb7b86c8cb17f4f3f2fec8d2fed"), looks := false }, kinds := [], alts := [], laidByText := true, laidKinds := [.data, .data, .data, .data, .data, .data], laidTests := true, laidLooks := .later }
def SyntaxTypeBackCardSaid : Prop := Claim7.holds Tryz.pinned (.plain (OpenSpec.ofChange syntaxTypeBackSpec)) syntaxTypeBackCard

/-- THE SECOND FORM's CARD OF 'repriselaw02.SyntaxTypeBack'. -/
def syntaxTypeBackUptoCard : Claim7 := { stood := { row := syntaxTypeBackUptoRow, standIns := [], harness := (true, "7845e816ce0dbe04f6605aa2c57dbc177be28cb7b86c8cb17f4f3f2fec8d2fed"), looks := false }, kinds := [], alts := [], laidByText := true, laidKinds := [.data, .data, .data, .data, .data, .data], laidTests := true, laidLooks := .later }
def SyntaxTypeBackUptoCardSaid : Prop := Claim7.holds Tryz.pinned (.plain (OpenSpec.upto syntaxTypeBackSpec)) syntaxTypeBackUptoCard
end Rows
end Go.Proofs.YtbfojibhdadglaaGreatDoor
