/- The document's share: its bytes. -/
import Derived.Test.YtkfdcdfaikkneaaId
import Derived.Lib.AppendStr
namespace Go.Proofs.Ytkfdcdfaikkneaa
open Go.ChangeShapes Go.WideShapes Go.ChangeAt Go.RowKit Go.Shelf
set_option linter.unusedVariables false
set_option linter.unusedSimpArgs false
set_option maxRecDepth 100000
attribute [local go_sem] Oper.semAt_some

theorem strCells_nums {l : List Int} (h : AllB l) : Lib.strCells (strOfNums l) = l.map (Value.int .u8) := by
  unfold Lib.strCells
  rw [strOfNums_data, List.map_map]
  refine List.map_congr_left fun x hx => ?_
  have := h x hx
  simp
  omega
def SH.S (s : SH) : List Int := if s.Ok then s.B else []
def shA (s : SH) : Value := .agg #[.int .u8 s.m, .int .u8 s.p, .int .u32 s.st, .int .u64 s.g, .string (strOfNums s.row)]
theorem SH.B_assoc (m p st g : Int) (row : List Int) : SH.B ⟨m, p, st, g, row⟩ = szL (((([76, 83, m, p] ++ be 4 st) ++ be 8 g) ++ be 2 (row.length : Int)) ++ List.replicate 14 0 ++ row) := by
  unfold SH.B SH.H
  simp only [List.append_assoc]
theorem cell5 {W : World} {b : Nat} {x0 x1 x2 x3 x4 : Value} {T : TypeId} (h : W.heap[b]? = some (.cells #[x0, x1, x2, x3, x4] T (0, 0))) : W.cell? ⟨b, 0, none⟩ = some x0 ∧ W.cell? ⟨b, 1, none⟩ = some x1 ∧ W.cell? ⟨b, 2, none⟩ = some x2 ∧ W.cell? ⟨b, 3, none⟩ = some x3 ∧ W.cell? ⟨b, 4, none⟩ = some x4 :=
  ⟨(cell_of_row _ b 0 _ _ _ h).trans rfl, (cell_of_row _ b 1 _ _ _ h).trans rfl, (cell_of_row _ b 2 _ _ _ h).trans rfl, (cell_of_row _ b 3 _ _ _ h).trans rfl, (cell_of_row _ b 4 _ _ _ h).trans rfl⟩
end Go.Proofs.Ytkfdcdfaikkneaa
