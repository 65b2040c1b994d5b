/-
  DERIVED. GIVEN WITH THE SEED: THE CARDS: each row of YtadcgngiofdhcaaDoorRows.lean that lists a variable, with what it lists TIED to the program's text (the seventh form; the later family's looks); each row that meets fmt, with fmt's text TOLD by the authors' own Lean function (tested against real Go, not proved from fmt's source: count such statements apart). THE CARD IS WHAT COUNTS. Prove the row's statement (the work); the ties are given (YtadcgngiofdhcaaDoorTie.lean); close each card by the builder's one call (the guide's Derived/Test/ToyasCard.lean, 'card_holds'). Laid BY PROGRAM, IN A SANDBOX (cutbox-door.mjs). By AI agents, Wed Nov 11 2026. No macro, syntax, notation, axiom, sorry.
-/
import Derived.Test.YtadcgngiofdhcaaDoorRows
import GoSem.ClaimSeven
namespace Go.Proofs.YtadcgngiofdhcaaDoor
namespace Rows

/-- THE TIED CARD OF 'largesselaw14.SectorSupers'. -/
def sectorSupersCard : Claim7 := { stood := { row := sectorSupersRow, standIns := [], harness := (true, "42409ed0818d8add8bd8074315ac2611122d4da2f4d7a128c8082d47ee8775e9"), looks := false }, kinds := [], alts := [], laidByText := true, laidKinds := [.data, .data], laidTests := true, laidLooks := .later }
def SectorSupersCardSaid : Prop := Claim7.holds Tryd.pinned (.plain (OpenSpec.ofChange sectorSupersSpec)) sectorSupersCard

/-- THE SECOND FORM's CARD OF 'largesselaw14.SectorSupers'. -/
def sectorSupersUptoCard : Claim7 := { stood := { row := sectorSupersUptoRow, standIns := [], harness := (true, "42409ed0818d8add8bd8074315ac2611122d4da2f4d7a128c8082d47ee8775e9"), looks := false }, kinds := [], alts := [], laidByText := true, laidKinds := [.data, .data], laidTests := true, laidLooks := .later }
def SectorSupersUptoCardSaid : Prop := Claim7.holds Tryd.pinned (.plain (OpenSpec.upto sectorSupersSpec)) sectorSupersUptoCard
end Rows
end Go.Proofs.YtadcgngiofdhcaaDoor
