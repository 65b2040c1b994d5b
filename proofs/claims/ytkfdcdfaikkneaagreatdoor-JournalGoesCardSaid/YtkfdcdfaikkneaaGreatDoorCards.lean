/-
  DERIVED. GIVEN WITH THE SEED: THE CARDS: each row of YtkfdcdfaikkneaaGreatDoorRows.lean that lists a variable, with what it lists TIED to the program's text (the seventh form; the later family's looks); each row that meets fmt, with fmt's text TOLD by the authors' own Lean function (tested against real Go, not proved from fmt's source: count such statements apart). THE CARD IS WHAT COUNTS. Prove the row's statement (the work); the ties are given (YtkfdcdfaikkneaaGreatDoorTie.lean); close each card by the builder's one call (the guide's Derived/Test/ToyasCard.lean, 'card_holds'). Laid BY PROGRAM, IN A SANDBOX (cutbox-door.mjs). By AI agents, Wed Nov 11 2026. No macro, syntax, notation, axiom, sorry.
-/
import Derived.Test.YtkfdcdfaikkneaaGreatDoorRows
import GoSem.ClaimSeven
namespace Go.Proofs.YtkfdcdfaikkneaaGreatDoor
namespace Rows

/-- THE TIED CARD OF 'largesselaw15.JournalGoes'. -/
def journalGoesCard : Claim7 := { stood := { row := journalGoesRow, standIns := [], harness := (true, "9fc04125b4848e8ad4a644762ee75d9ef599d92723d3c2a546841e70fb811b9f"), looks := false }, kinds := [], alts := [], laidByText := true, laidKinds := [.data, .data], laidTests := true, laidLooks := .later }
def JournalGoesCardSaid : Prop := Claim7.holds Tryz.pinned (.plain (OpenSpec.ofChange journalGoesSpec)) journalGoesCard

/-- THE SECOND FORM's CARD OF 'largesselaw15.JournalGoes'. -/
def journalGoesUptoCard : Claim7 := { stood := { row := journalGoesUptoRow, standIns := [], harness := (true, "9fc04125b4848e8ad4a644762ee75d9ef599d92723d3c2a546841e70fb811b9f"), looks := false }, kinds := [], alts := [], laidByText := true, laidKinds := [.data, .data], laidTests := true, laidLooks := .later }
def JournalGoesUptoCardSaid : Prop := Claim7.holds Tryz.pinned (.plain (OpenSpec.upto journalGoesSpec)) journalGoesUptoCard
end Rows
end Go.Proofs.YtkfdcdfaikkneaaGreatDoor
