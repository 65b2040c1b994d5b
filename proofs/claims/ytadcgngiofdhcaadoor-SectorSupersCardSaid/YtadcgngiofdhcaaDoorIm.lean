/- Package sector: checked at a commit; ParseCommit. -/
import Derived.Test.YtadcgngiofdhcaaDoorIl
namespace Go.Proofs.YtadcgngiofdhcaaDoor
open Go.ChangeShapes Go.WideShapes Go.ChangeAt Go.RowKit Go.Shelf
set_option linter.unusedVariables false
set_option linter.unusedSimpArgs false
set_option maxRecDepth 100000
attribute [local go_sem] Oper.semAt_some

theorem meth_C (x y z : Value) (m : Nat) (w : World) : (method (m + 1) 48 (.agg #[x, y, z]) "Bytes").run Tryd.prog w = .ok (12, .agg #[x, y, z]) w := by kernel_rfl
def set3 (W : World) (g : Nat) (x0 x1 x2 : Value) : World := ((W.setCell ⟨g, 0, none⟩ x0).setCell ⟨g, 1, none⟩ x1).setCell ⟨g, 2, none⟩ x2
theorem set3_row {W : World} {g : Nat} {T : TypeId} {a0 a1 a2 : Value} (x0 x1 x2 : Value) (h : W.heap[g]? = some (.cells #[a0, a1, a2] T (0, 0))) : (set3 W g x0 x1 x2).heap[g]? = some (.cells #[x0, x1, x2] T (0, 0)) :=
  heap_setCell_same _ g 2 _ T x2 (heap_setCell_same _ g 1 _ T x1 (heap_setCell_same _ g 0 _ T x0 h))
theorem set3_below {B : Nat} {V W : World} (h : Below B V W) {g : Nat} (hg : B ≤ g) (x0 x1 x2 : Value) : Below B V (set3 W g x0 x1 x2) :=
  ((h.setCell (p := ⟨g, 0, none⟩) hg x0).setCell (p := ⟨g, 1, none⟩) hg x1).setCell (p := ⟨g, 2, none⟩) hg x2
/-- A row of three cells that may be written: what the walk asks of it, now and behind a new block. -/
theorem free3 {W : World} {b : Nat} {x0 x1 x2 : Value} {T : TypeId} (h : W.heap[b]? = some (.cells #[x0, x1, x2] T (0, 0))) : (W.cell? ⟨b, 0, none⟩ = some x0 ∧ W.cell? ⟨b, 1, none⟩ = some x1 ∧ W.cell? ⟨b, 2, none⟩ = some x2) ∧ (∀ j, W.frozen? ⟨b, j, none⟩ = false) :=
  ⟨cell3 h, fun j => frozen_of_row W b j _ _ h⟩
theorem free3n {W : World} {b : Nat} {x0 x1 x2 : Value} {T : TypeId} (h : W.heap[b]? = some (.cells #[x0, x1, x2] T (0, 0))) (o : Obj) : ((W.alloc o).cell? ⟨b, 0, none⟩ = some x0 ∧ (W.alloc o).cell? ⟨b, 1, none⟩ = some x1 ∧ (W.alloc o).cell? ⟨b, 2, none⟩ = some x2) ∧ (∀ j, (W.alloc o).frozen? ⟨b, j, none⟩ = false) :=
  free3 ((heap_alloc_old W o (Array.getElem?_eq_some_iff.1 h).1).trans h)
theorem sizeCm : (Tryd.prog.info? 48).map (·.size) = some 3 := by kernel_rfl
def chC (c : CM) (b : List Int) : Value := if c.E = 0 ∧ c.S = b then .tuple #[cmA c, .int .i64 0] else .tuple #[cmA ⟨0, 0, 0⟩, .int .i64 3]
theorem cm_ok {c : CM} {b : List Int} (hE : c.E = 0) : c.Ok := by
  unfold CM.E at hE
  by_cases h : c.Ok
  · exact h
  · rw [if_neg h] at hE; omega
theorem chC_par {b : List Int} (hl : b.length = 512) : chC (pcmR b) b = .tuple #[cmA (pcmZ b), .int .i64 (pcmE b)] := by
  unfold chC pcmZ pcmE pcm
  by_cases h : (pcmR b).E = 0 ∧ (pcmR b).S = b
  · have ho := cm_ok (b := b) h.1
    rw [if_pos h, if_pos ⟨hl, ho, (CM.S_ok ho).1.symm.trans h.2⟩]; rfl
  · rw [if_neg h, if_neg (fun k => h ⟨(CM.S_ok k.2.1).2, (CM.S_ok k.2.1).1.trans k.2.2⟩)]; rfl
end Go.Proofs.YtadcgngiofdhcaaDoor
