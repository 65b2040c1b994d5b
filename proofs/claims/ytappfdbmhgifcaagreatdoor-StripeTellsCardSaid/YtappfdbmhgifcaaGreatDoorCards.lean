/-
  DERIVED. GIVEN WITH THE SEED: THE CARDS: each row of YtappfdbmhgifcaaGreatDoorRows.lean that lists a variable, with what it lists TIED to the program's text (the seventh form; the later family's looks); each row that meets fmt, with fmt's text TOLD by the authors' own Lean function (tested against real Go, not proved from fmt's source: count such statements apart). THE CARD IS WHAT COUNTS. Prove the row's statement (the work); the ties are given (YtappfdbmhgifcaaGreatDoorTie.lean); close each card by the builder's one call (the guide's Derived/Test/ToyasCard.lean, 'card_holds'). Laid BY PROGRAM, IN A SANDBOX (cutbox-door.mjs). By AI agents, Wed Nov 11 2026. No macro, syntax, notation, axiom, sorry.
-/
import Derived.Test.YtappfdbmhgifcaaGreatDoorRows
import GoSem.ClaimSeven
namespace Go.Proofs.YtappfdbmhgifcaaGreatDoor
namespace Rows

/-- THE TIED CARD OF 'largesselaw17.StripeSpreads'. -/
def stripeSpreadsCard : Claim7 := { stood := { row := stripeSpreadsRow, standIns := [], harness := (true, "50528ab9e65ca31f40d54c85a7a33b1b00b9161f4109bc27dd10a1b07c14a499"), looks := false }, kinds := [], alts := [], laidByText := true, laidKinds := [.data, .data], laidTests := true, laidLooks := .later }
def StripeSpreadsCardSaid : Prop := Claim7.holds Tryz.pinned (.plain (OpenSpec.ofChange stripeSpreadsSpec)) stripeSpreadsCard

/-- THE TIED CARD OF 'largesselaw17.StripeTells'. -/
def stripeTellsCard : Claim7 := { stood := { row := stripeTellsRow, standIns := [], harness := (true, "50528ab9e65ca31f40d54c85a7a33b1b00b9161f4109bc27dd10a1b07c14a499"), looks := false }, kinds := [], alts := [], laidByText := true, laidKinds := [.data, .data], laidTests := true, laidLooks := .later }
def StripeTellsCardSaid : Prop := Claim7.holds Tryz.pinned (.plain (OpenSpec.ofChange stripeTellsSpec)) stripeTellsCard

/-- THE TIED CARD OF 'largesselaw17.StripeFresh'. -/
def stripeFreshCard : Claim7 := { stood := { row := stripeFreshRow, standIns := [], harness := (true, "50528ab9e65ca31f40d54c85a7a33b1b00b9161f4109bc27dd10a1b07c14a499"), looks := false }, kinds := [], alts := [], laidByText := true, laidKinds := [.data, .data], laidTests := true, laidLooks := .later }
def StripeFreshCardSaid : Prop := Claim7.holds Tryz.pinned (.plain (OpenSpec.ofChange stripeFreshSpec)) stripeFreshCard

/-- THE TIED CARD OF 'largesselaw17.StripeForms'. -/
def stripeFormsCard : Claim7 := { stood := { row := stripeFormsRow, standIns := [], harness := (true, "50528ab9e65ca31f40d54c85a7a33b1b00b9161f4109bc27dd10a1b07c14a499"), looks := false }, kinds := [], alts := [], laidByText := true, laidKinds := [.data, .data], laidTests := true, laidLooks := .later }
def StripeFormsCardSaid : Prop := Claim7.holds Tryz.pinned (.plain (OpenSpec.ofChange stripeFormsSpec)) stripeFormsCard

/-- THE SECOND FORM's CARD OF 'largesselaw17.StripeSpreads'. -/
def stripeSpreadsUptoCard : Claim7 := { stood := { row := stripeSpreadsUptoRow, standIns := [], harness := (true, "50528ab9e65ca31f40d54c85a7a33b1b00b9161f4109bc27dd10a1b07c14a499"), looks := false }, kinds := [], alts := [], laidByText := true, laidKinds := [.data, .data], laidTests := true, laidLooks := .later }
def StripeSpreadsUptoCardSaid : Prop := Claim7.holds Tryz.pinned (.plain (OpenSpec.upto stripeSpreadsSpec)) stripeSpreadsUptoCard

/-- THE SECOND FORM's CARD OF 'largesselaw17.StripeTells'. -/
def stripeTellsUptoCard : Claim7 := { stood := { row := stripeTellsUptoRow, standIns := [], harness := (true, "50528ab9e65ca31f40d54c85a7a33b1b00b9161f4109bc27dd10a1b07c14a499"), looks := false }, kinds := [], alts := [], laidByText := true, laidKinds := [.data, .data], laidTests := true, laidLooks := .later }
def StripeTellsUptoCardSaid : Prop := Claim7.holds Tryz.pinned (.plain (OpenSpec.upto stripeTellsSpec)) stripeTellsUptoCard

/-- THE SECOND FORM's CARD OF 'largesselaw17.StripeFresh'. -/
def stripeFreshUptoCard : Claim7 := { stood := { row := stripeFreshUptoRow, standIns := [], harness := (true, "50528ab9e65ca31f40d54c85a7a33b1b00b9161f4109bc27dd10a1b07c14a499"), looks := false }, kinds := [], alts := [], laidByText := true, laidKinds := [.data, .data], laidTests := true, laidLooks := .later }
def StripeFreshUptoCardSaid : Prop := Claim7.holds Tryz.pinned (.plain (OpenSpec.upto stripeFreshSpec)) stripeFreshUptoCard

/-- THE SECOND FORM's CARD OF 'largesselaw17.StripeForms'. -/
def stripeFormsUptoCard : Claim7 := { stood := { row := stripeFormsUptoRow, standIns := [], harness := (true, "50528ab9e65ca31f40d54c85a7a33b1b00b9161f4109bc27dd10a1b07c14a499"), looks := false }, kinds := [], alts := [], laidByText := true, laidKinds := [.data, .data], laidTests := true, laidLooks := .later }
def StripeFormsUptoCardSaid : Prop := Claim7.holds Tryz.pinned (.plain (OpenSpec.upto stripeFormsSpec)) stripeFormsUptoCard
end Rows
end Go.Proofs.YtappfdbmhgifcaaGreatDoor
