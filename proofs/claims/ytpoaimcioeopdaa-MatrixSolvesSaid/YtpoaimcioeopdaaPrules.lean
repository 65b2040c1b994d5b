/- The walk of PolyRules. -/
import Derived.Test.YtpoaimcioeopdaaPlives
import Derived.Deep.RegionHeld
import Derived.Deep.Cut
namespace Go.Proofs.Ytpoaimcioeopdaa
open Go.ChangeShapes Go.WideShapes Go.ChangeAt Go.RowKit Go.Shelf GF
set_option linter.unusedVariables false
set_option maxRecDepth 100000

theorem toG_of {x : Int} (h : (Lit.int .u8 x).wf = true) : ∃ g : GF, x = toI g := ⟨toG x, (toI_toG (wf_u8 h)).symm⟩
theorem Pa.bd {w : World} {a : Option Addr} {L cap : Nat} {P : List GF} (h : Pa w a L cap P) : L ≤ cap ∧ cap ≤ 9223372036854775807 := ⟨h.1.2.2.2.1, by have := h.1.2.2.2.2; unfold maxLen at this; omega⟩
/-- What a row reads as, as a string, in whatever world comes after. -/
theorem Pa.str_on {w0 : World} {a : Option Addr} {n c : Nat} {P Q : List GF} (h : Pa w0 a n c P) (e : P = Q) : ∀ W, Below w0.heap.size w0 W → (convert 22 9 (.slice a n c)).run Try.prog W = .ok (.string (strOfNums (iL Q))) W := fun W hW => by
  subst e
  exact (h.on hW).str
/-- A slice out of a row of one's own. -/
theorem own_pa {w : World} {base : Nat} {e : TypeId} {v : Value} {n : Nat} {P : List GF} (h : w.ownsRow base e 1 v n ((iL P).map (Value.int .u8))) : ∃ a c, v = .slice a n c ∧ Pa w a n c P := by
  obtain ⟨a, c, e, hp, _⟩ := Pa.own h
  exact ⟨a, c, e, hp⟩

theorem mulL_len (P Q : List GF) : (mulL P Q).length ≤ P.length + Q.length := by
  induction P with
  | nil => simp [mulL]
  | cons a P ih => simp only [mulL]; rw [length_addL]; simp [smulL]; omega
theorem rules_eq (P Q O : List GF) : tr (addL (tr (mulL P O)) (tr (mulL Q O))) = tr (mulL (tr (addL P Q)) O) := by
  apply tr_ext
  intro k
  rw [co_addL, co_tr, co_tr, ← co_addL, ← co_tr (addL _ _), ← tr_mulL_add, co_tr, co_mulL, co_mulL]
  exact sm_congr fun i _ => by rw [co_tr]

end Go.Proofs.Ytpoaimcioeopdaa
