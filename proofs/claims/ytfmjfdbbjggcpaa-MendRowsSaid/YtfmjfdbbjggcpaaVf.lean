/- Contract of shamir's value. -/
import Derived.Test.YtfmjfdbbjggcpaaQ4
namespace Go.Proofs.Ytfmjfdbbjggcpaa
open Go.ChangeShapes Go.WideShapes Go.ChangeAt Go.RowKit Go.Shelf GF
set_option linter.unusedVariables false
set_option linter.unusedSimpArgs false
set_option maxRecDepth 100000
attribute [local go_sem] Oper.semAt_some

theorem Pa.noncell {w w' : World} {a : Option Addr} {L c : Nat} {P : List GF} {row : Option Nat} (h : Pa w a L c P) (hg : w.grownBy w' row) (hr : ∀ r, row = some r → ∃ o : Obj, w.heap[r]? = some o ∧ o.isCells = false) : Pa w' a L c P :=
  ⟨⟨h.1.1, h.1.2.1, fun h0 => by
    obtain ⟨b, off, e, hb, hc⟩ := h.1.2.2.1 h0
    exact ⟨b, off, e, Nat.lt_of_lt_of_le hb hg.size, fun i hi => cell_kept (hc i hi) hg hr⟩, h.1.2.2.2⟩, h.2⟩
theorem KeepsOthers.ofBelow {w w' : World} (h : Below w.heap.size w w') : KeepsOthers w w' :=
  ⟨h.size, fun k o hk _ => (h.block k (Array.getElem?_eq_some_iff.1 hk).1).trans hk⟩
/-- The slices of rows of rows, by number. -/
theorem Mat.slices {w : World} {a : Option Addr} {n c : Nat} {M : List (List GF)} (h : Mat w a n c M) : ∃ (A : Nat → Option Addr) (C : Nat → Nat), (∀ j, j < n → ∃ b off, a = some ⟨b, off, none⟩ ∧ b < w.heap.size ∧ w.cell? ⟨b, off + j, none⟩ = some (.slice (A j) (rw_ M j).length (C j))) ∧ ∀ j, j < n → Pa w (A j) (rw_ M j).length (C j) (rw_ M j) := by
  have key : ∀ j, ∃ (x : Option Addr × Nat), j < n → (∃ b off, a = some ⟨b, off, none⟩ ∧ b < w.heap.size ∧ w.cell? ⟨b, off + j, none⟩ = some (.slice x.1 (rw_ M j).length x.2)) ∧ Pa w x.1 (rw_ M j).length x.2 (rw_ M j) := fun j => by
    by_cases hj : j < n
    · obtain ⟨b, off, ai, ci, e, hb, hc, hp⟩ := h.row hj
      exact ⟨(ai, ci), fun _ => ⟨⟨b, off, e, hb, hc⟩, hp⟩⟩
    · exact ⟨(none, 0), fun h => absurd h hj⟩
  obtain ⟨f, hf⟩ := Classical.axiomOfChoice key
  exact ⟨fun j => (f j).1, fun j => (f j).2, fun j hj => (hf j hj).1, fun j hj => (hf j hj).2⟩

end Go.Proofs.Ytfmjfdbbjggcpaa
