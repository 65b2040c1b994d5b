/-
  DERIVED. GIVEN WITH THE SEED: THE CARDS: each row of YtcdepbnglmncpaaDoorRows.lean that lists a variable, with what it lists TIED to the program's text (the seventh form; the later family's looks); each row that meets fmt, with fmt's text TOLD by the authors' own Lean function (tested against real Go, not proved from fmt's source: count such statements apart). THE CARD IS WHAT COUNTS. Prove the row's statement (the work); the ties are given (YtcdepbnglmncpaaDoorTie.lean); close each card by the builder's one call (the guide's Derived/Test/ToyasCard.lean, 'card_holds'). Laid BY PROGRAM, IN A SANDBOX (cutbox-door.mjs). By AI agents, Wed Nov 11 2026. No macro, syntax, notation, axiom, sorry.
-/
import Derived.Test.YtcdepbnglmncpaaDoorRows
import GoSem.ClaimSeven
namespace Go.Proofs.YtcdepbnglmncpaaDoor
namespace Rows

/-- THE TIED CARD OF 'largesselaw11.AontWraps'. -/
def aontWrapsCard : Claim7 := { stood := { row := aontWrapsRow, standIns := [], harness := (true, "4591f60b24a534ec854aff100a8f99bad58eb7972fad3637ecd4440868051e9f"), looks := false }, kinds := [], alts := [], laidByText := true, laidKinds := [.data, .data], laidTests := true, laidLooks := .later }
def AontWrapsCardSaid : Prop := Claim7.holds Tryd.pinned (.plain (OpenSpec.ofChange aontWrapsSpec)) aontWrapsCard

/-- THE TIED CARD OF 'largesselaw11.AontNothing'. -/
def aontNothingCard : Claim7 := { stood := { row := aontNothingRow, standIns := [], harness := (true, "4591f60b24a534ec854aff100a8f99bad58eb7972fad3637ecd4440868051e9f"), looks := false }, kinds := [], alts := [], laidByText := true, laidKinds := [.data, .data], laidTests := true, laidLooks := .later }
def AontNothingCardSaid : Prop := Claim7.holds Tryd.pinned (.plain (OpenSpec.ofChange aontNothingSpec)) aontNothingCard

/-- THE SECOND FORM's CARD OF 'largesselaw11.AontWraps'. -/
def aontWrapsUptoCard : Claim7 := { stood := { row := aontWrapsUptoRow, standIns := [], harness := (true, "4591f60b24a534ec854aff100a8f99bad58eb7972fad3637ecd4440868051e9f"), looks := false }, kinds := [], alts := [], laidByText := true, laidKinds := [.data, .data], laidTests := true, laidLooks := .later }
def AontWrapsUptoCardSaid : Prop := Claim7.holds Tryd.pinned (.plain (OpenSpec.upto aontWrapsSpec)) aontWrapsUptoCard

/-- THE SECOND FORM's CARD OF 'largesselaw11.AontNothing'. -/
def aontNothingUptoCard : Claim7 := { stood := { row := aontNothingUptoRow, standIns := [], harness := (true, "4591f60b24a534ec854aff100a8f99bad58eb7972fad3637ecd4440868051e9f"), looks := false }, kinds := [], alts := [], laidByText := true, laidKinds := [.data, .data], laidTests := true, laidLooks := .later }
def AontNothingUptoCardSaid : Prop := Claim7.holds Tryd.pinned (.plain (OpenSpec.upto aontNothingSpec)) aontNothingUptoCard
end Rows
end Go.Proofs.YtcdepbnglmncpaaDoor
