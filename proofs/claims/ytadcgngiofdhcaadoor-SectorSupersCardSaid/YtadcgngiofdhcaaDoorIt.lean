/- Supers, plain: their sector, with the sum. -/
import Derived.Test.YtadcgngiofdhcaaDoorIs
import Derived.Test.YtadcgngiofdhcaaDoorQH
namespace Go.Proofs.YtadcgngiofdhcaaDoor
open Go.ChangeShapes Go.WideShapes Go.ChangeAt Go.RowKit Go.Shelf
set_option linter.unusedVariables false
set_option linter.unusedSimpArgs false

def SU.B (P : SU) : List Int := szL (P.H ++ (shaL P.H).take 8)
def SU.S (P : SU) : List Int := if P.Ok then P.B else []
def SU.E (P : SU) : Int := if P.Ok then 0 else 2
theorem SU.S_ok {P : SU} (h : P.Ok) : P.S = P.B ∧ P.E = 0 := ⟨if_pos h, if_pos h⟩
theorem SU.S_no {P : SU} (h : ¬ P.Ok) : P.S = [] ∧ P.E = 2 := ⟨if_neg h, if_neg h⟩
theorem SU.B_split (P : SU) : ∃ r, P.B = P.H ++ r := ⟨(shaL P.H).take 8 ++ List.replicate (512 - (P.H ++ (shaL P.H).take 8).length) 0, by unfold SU.B szL; rw [List.append_assoc]⟩
theorem psu_R {P : SU} (h : P.Wf) : psuR P.B = P := by
  obtain ⟨r, hr⟩ := P.B_split
  rw [hr]; exact (SU.at_H h r).eq h
/-- What a super's sector says, if it is one. -/
def chSU (P : SU) (b : List Int) : Prop := P.E = 0 ∧ P.S = b
def psu (b : List Int) : Option SU := if b.length = 512 ∧ (psuR b).Ok ∧ (psuR b).B = b then some (psuR b) else none
def psuE (b : List Int) : Int := if (psu b).isSome then 0 else 3
def psuZ (b : List Int) : SU := (psu b).getD suZ
theorem su_ok {P : SU} (hE : P.E = 0) : P.Ok := by
  unfold SU.E at hE
  by_cases h : P.Ok
  · exact h
  · rw [if_neg h] at hE; omega
theorem psu_len {b : List Int} (h : b.length ≠ 512) : psuZ b = suZ ∧ psuE b = 3 := by
  have : psu b = none := by unfold psu; exact if_neg (fun k => h k.1)
  unfold psuZ psuE; rw [this]; exact ⟨rfl, rfl⟩
theorem psu_yes {b : List Int} (hl : b.length = 512) (h : chSU (psuR b) b) : psuZ b = psuR b ∧ psuE b = 0 := by
  have ho := su_ok h.1
  have : psu b = some (psuR b) := by unfold psu; exact if_pos ⟨hl, ho, (SU.S_ok ho).1.symm.trans h.2⟩
  unfold psuZ psuE; rw [this]; exact ⟨rfl, rfl⟩
theorem psu_not {b : List Int} (h : ¬ chSU (psuR b) b) : psuZ b = suZ ∧ psuE b = 3 := by
  have : psu b = none := by unfold psu; exact if_neg (fun k => h ⟨(SU.S_ok k.2.1).2, (SU.S_ok k.2.1).1.trans k.2.2⟩)
  unfold psuZ psuE; rw [this]; exact ⟨rfl, rfl⟩
end Go.Proofs.YtadcgngiofdhcaaDoor
