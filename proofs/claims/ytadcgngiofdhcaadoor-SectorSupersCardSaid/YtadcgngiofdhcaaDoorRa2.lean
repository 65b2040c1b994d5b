/- The document's super as a value; rows of fourteen cells. -/
import Derived.Test.YtadcgngiofdhcaaDoorRa1
import Derived.Test.YtadcgngiofdhcaaDoorIw
namespace Go.Proofs.YtadcgngiofdhcaaDoor
open Go.ChangeShapes Go.WideShapes Go.ChangeAt Go.RowKit Go.Shelf
set_option linter.unusedVariables false
set_option linter.unusedSimpArgs false
set_option maxRecDepth 100000

theorem strCellsB {l : List Int} (h : AllB l) : Lib.strCells (strOfNums l) = l.map (Value.int .u8) := by
  unfold Lib.strCells
  rw [strOfNums_data, List.map_map]
  refine List.map_congr_left fun x hx => ?_
  have := h x hx
  simp
  omega
/-- The document's super, as a value: who is in lies in v. -/
def ruA (P : SU) (v : Value) : Value := .agg #[.string (strOfNums P.nm), .int .i64 P.p, .int .i64 P.n, .int .i64 P.t, .int .i64 P.m, .int .i64 P.c, .int .u64 P.bl, .int .u64 P.bo, .int .u64 P.ep, v, .int .u64 P.rf, .int .u64 P.sc, .int .i64 P.tg, .int .u64 P.rs]
theorem cell14 {W : World} {b : Nat} {x0 x1 x2 x3 x4 x5 x6 x7 x8 x9 xa xb xc xd : Value} {T : TypeId} (h : W.heap[b]? = some (.cells #[x0, x1, x2, x3, x4, x5, x6, x7, x8, x9, xa, xb, xc, xd] T (0, 0))) :
    W.cell? ⟨b, 0, none⟩ = some x0 ∧ W.cell? ⟨b, 1, none⟩ = some x1 ∧ W.cell? ⟨b, 2, none⟩ = some x2 ∧ W.cell? ⟨b, 3, none⟩ = some x3 ∧ W.cell? ⟨b, 4, none⟩ = some x4 ∧ W.cell? ⟨b, 5, none⟩ = some x5 ∧ W.cell? ⟨b, 6, none⟩ = some x6 ∧ W.cell? ⟨b, 7, none⟩ = some x7 ∧ W.cell? ⟨b, 8, none⟩ = some x8 ∧ W.cell? ⟨b, 9, none⟩ = some x9 ∧ W.cell? ⟨b, 10, none⟩ = some xa ∧ W.cell? ⟨b, 11, none⟩ = some xb ∧ W.cell? ⟨b, 12, none⟩ = some xc ∧ W.cell? ⟨b, 13, none⟩ = some xd :=
  ⟨(cell_of_row _ b 0 _ _ _ h).trans rfl, (cell_of_row _ b 1 _ _ _ h).trans rfl, (cell_of_row _ b 2 _ _ _ h).trans rfl, (cell_of_row _ b 3 _ _ _ h).trans rfl, (cell_of_row _ b 4 _ _ _ h).trans rfl, (cell_of_row _ b 5 _ _ _ h).trans rfl, (cell_of_row _ b 6 _ _ _ h).trans rfl, (cell_of_row _ b 7 _ _ _ h).trans rfl, (cell_of_row _ b 8 _ _ _ h).trans rfl, (cell_of_row _ b 9 _ _ _ h).trans rfl, (cell_of_row _ b 10 _ _ _ h).trans rfl, (cell_of_row _ b 11 _ _ _ h).trans rfl, (cell_of_row _ b 12 _ _ _ h).trans rfl, (cell_of_row _ b 13 _ _ _ h).trans rfl⟩
end Go.Proofs.YtadcgngiofdhcaaDoor
