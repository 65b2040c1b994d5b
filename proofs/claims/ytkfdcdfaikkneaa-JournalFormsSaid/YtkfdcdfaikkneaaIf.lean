/- SectorCommits, under the contracts of package sector's commits. (genIf.py writes this text.) -/
import Derived.Test.YtkfdcdfaikkneaaIe
import Derived.BigRegion
import Derived.Deep.QuietTactic
import Derived.BigQuiet
import Derived.Deep.RegionHeld
namespace Go.Proofs.Ytkfdcdfaikkneaa
open Go.ChangeShapes Go.WideShapes Go.ChangeAt Go.RowKit Go.Shelf
set_option linter.unusedVariables false
set_option linter.unusedSimpArgs false
set_option maxRecDepth 100000
attribute [local go_sem] Oper.semAt_some

theorem str_neq0 {l : List Int} (h : 0 < l.length) : ((strOfNums l).toList == []) = false := by
  rw [Lib.strOfNums_toList, beq_eq_false_iff_ne]
  intro e
  have := congrArg List.length e
  simp [Lib.bytesOf] at this
  subst this; simp at h
theorem pcm_zero {b : List Int} (h : pcm b = none) : pcmZ b = ⟨0, 0, 0⟩ ∧ pcmE b = 3 := by unfold pcmZ pcmE; rw [h]; exact ⟨rfl, rfl⟩
theorem pcm_one {b : List Int} {c : CM} (h : pcm b = some c) : pcmZ b = c ∧ pcmE b = 0 := by unfold pcmZ pcmE; rw [h]; exact ⟨rfl, rfl⟩
theorem pcmR_S {b : List Int} (hB : AllB b) (hl : b.length = 512) (h : pcm b = none) : (pcmR b).S ≠ b := by
  intro e
  rcases pcm_none h with h1 | h1 | h1
  · exact h1 hl
  · rw [(CM.S_no h1).1] at e; subst e; cases hl
  · by_cases ho : (pcmR b).Ok
    · rw [(CM.S_ok ho).1] at e; exact h1 e
    · rw [(CM.S_no ho).1] at e; subst e; cases hl
/-- A block of three cells, behind what made memory, and behind one more block. -/
theorem cells3 {W0 W : World} {b : Nat} {x y z : Value} {T T2 : TypeId} {cs : Array Value} (h : W0.heap[b]? = some (.cells #[x, y, z] T (0, 0))) (hb : Below W0.heap.size W0 W) : (W.alloc (.cells cs T2)).cell? ⟨b, 0, none⟩ = some x ∧ (W.alloc (.cells cs T2)).cell? ⟨b, 1, none⟩ = some y ∧ (W.alloc (.cells cs T2)).cell? ⟨b, 2, none⟩ = some z := by
  have hlt : b < W0.heap.size := (Array.getElem?_eq_some_iff.1 h).1
  have h2 : (W.alloc (.cells cs T2)).heap[b]? = some (.cells #[x, y, z] T (0, 0)) := by
    rw [heap_alloc_old _ _ (by have := hb.size; omega), hb.block b hlt]; exact h
  exact ⟨(cell_of_row _ b 0 _ _ _ h2).trans rfl, (cell_of_row _ b 1 _ _ _ h2).trans rfl, (cell_of_row _ b 2 _ _ _ h2).trans rfl⟩
theorem cells3' {W0 W : World} {b : Nat} {x y z : Value} {T : TypeId} (h : W0.heap[b]? = some (.cells #[x, y, z] T (0, 0))) (hb : Below W0.heap.size W0 W) : W.cell? ⟨b, 0, none⟩ = some x ∧ W.cell? ⟨b, 1, none⟩ = some y ∧ W.cell? ⟨b, 2, none⟩ = some z := by
  have h2 : W.heap[b]? = some (.cells #[x, y, z] T (0, 0)) := (hb.block b (Array.getElem?_eq_some_iff.1 h).1).trans h
  exact ⟨(cell_of_row _ b 0 _ _ _ h2).trans rfl, (cell_of_row _ b 1 _ _ _ h2).trans rfl, (cell_of_row _ b 2 _ _ _ h2).trans rfl⟩
end Go.Proofs.Ytkfdcdfaikkneaa
