/- Texts of mine, one behind the other: Ig Ih Ii. -/
import Derived.Test.YtkfdcdfaikkneaaGreatDoorDE
import Derived.Lib.AppendStr
import Derived.BigRegion
import Derived.Deep.RegionHeld
/- The document's share: its bytes. -/
namespace Go.Proofs.YtkfdcdfaikkneaaGreatDoor
open Go.ChangeShapes Go.WideShapes Go.ChangeAt Go.RowKit Go.Shelf
set_option linter.unusedVariables false
set_option linter.unusedSimpArgs false
set_option maxRecDepth 100000
attribute [local go_sem] Oper.semAt_some

theorem strCells_nums {l : List Int} (h : AllB l) : Lib.strCells (strOfNums l) = l.map (Value.int .u8) := by
  unfold Lib.strCells
  rw [strOfNums_data, List.map_map]
  refine List.map_congr_left fun x hx => ?_
  have := h x hx
  simp
  omega
def SH.S (s : SH) : List Int := if s.Ok then s.B else []
def shA (s : SH) : Value := .agg #[.int .u8 s.m, .int .u8 s.p, .int .u32 s.st, .int .u64 s.g, .string (strOfNums s.row)]
theorem SH.B_assoc (m p st g : Int) (row : List Int) : SH.B ⟨m, p, st, g, row⟩ = szL (((([76, 83, m, p] ++ be 4 st) ++ be 8 g) ++ be 2 (row.length : Int)) ++ List.replicate 14 0 ++ row) := by
  unfold SH.B SH.H
  simp only [List.append_assoc]
theorem cell5 {W : World} {b : Nat} {x0 x1 x2 x3 x4 : Value} {T : TypeId} (h : W.heap[b]? = some (.cells #[x0, x1, x2, x3, x4] T (0, 0))) : W.cell? ⟨b, 0, none⟩ = some x0 ∧ W.cell? ⟨b, 1, none⟩ = some x1 ∧ W.cell? ⟨b, 2, none⟩ = some x2 ∧ W.cell? ⟨b, 3, none⟩ = some x3 ∧ W.cell? ⟨b, 4, none⟩ = some x4 :=
  ⟨(cell_of_row _ b 0 _ _ _ h).trans rfl, (cell_of_row _ b 1 _ _ _ h).trans rfl, (cell_of_row _ b 2 _ _ _ h).trans rfl, (cell_of_row _ b 3 _ _ _ h).trans rfl, (cell_of_row _ b 4 _ _ _ h).trans rfl⟩
end Go.Proofs.YtkfdcdfaikkneaaGreatDoor
/- The document's ParseShare. -/
namespace Go.Proofs.YtkfdcdfaikkneaaGreatDoor
open Go.ChangeShapes Go.WideShapes Go.ChangeAt Go.RowKit Go.Shelf
set_option linter.unusedVariables false
set_option linter.unusedSimpArgs false
set_option maxRecDepth 100000
attribute [local go_sem] Oper.semAt_some

theorem run_slice_str_lh (P : Program) (w : World) (t : TypeId) (s : ByteArray) (ht : P.underlying t = some .string) (l h : Int) (h0 : 0 ≤ l) (h1 : l ≤ h) (h2 : h ≤ s.size) :
    (Instr.slice t (.string s) (some (.int .i64 l)) (some (.int .i64 h)) none).run P w = .ok (.string (s.extract l.toNat h.toNat)) w := by
  simp [Instr.slice, run_underlying ht, Instr.sliceBounds, run_sliceBound, sliced, *, (by omega : (h.toNat : Int) = h), (by omega : 0 ≤ h), (by omega : 0 ≤ l)]
def set5 (W : World) (g : Nat) (x0 x1 x2 x3 x4 : Value) : World := ((((W.setCell ⟨g, 0, none⟩ x0).setCell ⟨g, 1, none⟩ x1).setCell ⟨g, 2, none⟩ x2).setCell ⟨g, 3, none⟩ x3).setCell ⟨g, 4, none⟩ x4
theorem set5_row {W : World} {g : Nat} {T : TypeId} {a0 a1 a2 a3 a4 : Value} (x0 x1 x2 x3 x4 : Value) (h : W.heap[g]? = some (.cells #[a0, a1, a2, a3, a4] T (0, 0))) : (set5 W g x0 x1 x2 x3 x4).heap[g]? = some (.cells #[x0, x1, x2, x3, x4] T (0, 0)) :=
  heap_setCell_same _ g 4 _ T x4 (heap_setCell_same _ g 3 _ T x3 (heap_setCell_same _ g 2 _ T x2 (heap_setCell_same _ g 1 _ T x1 (heap_setCell_same _ g 0 _ T x0 h))))
theorem set5_below {B : Nat} {V W : World} (h : Below B V W) {g : Nat} (hg : B ≤ g) (x0 x1 x2 x3 x4 : Value) : Below B V (set5 W g x0 x1 x2 x3 x4) :=
  ((((h.setCell (p := ⟨g, 0, none⟩) hg x0).setCell (p := ⟨g, 1, none⟩) hg x1).setCell (p := ⟨g, 2, none⟩) hg x2).setCell (p := ⟨g, 3, none⟩) hg x3).setCell (p := ⟨g, 4, none⟩) hg x4
theorem str_byte {BS : ByteArray} {b : List Int} (hB : AllB b) (h : BS = strOfNums b) (k : Nat) (hk : k < BS.size) : (((BS[k]'hk).toNat : Nat) : Int) = b.getD k 0 := by
  subst h
  have hk2 : k < b.length := by rw [strOfNums_size] at hk; exact hk
  have h1 : (strOfNums b)[k]'hk = UInt8.ofNat (b[k]'hk2).toNat := by
    show (strOfNums b).data[k]'_ = _
    simp [strOfNums]
  have h2 := hB (b[k]'hk2) (List.getElem_mem hk2)
  rw [h1, List.getD_eq_getElem?_getD, List.getElem?_eq_getElem hk2]
  simp
  omega
def pshZ (b : List Int) : SH := (psh b).getD ⟨0, 0, 0, 0, []⟩
end Go.Proofs.YtkfdcdfaikkneaaGreatDoor
/- The contracts of package sector's shares, as propositions; the law's sameShare. -/
namespace Go.Proofs.YtkfdcdfaikkneaaGreatDoor
open Go.ChangeShapes Go.WideShapes Go.ChangeAt Go.RowKit Go.Shelf
set_option linter.unusedVariables false
set_option linter.unusedSimpArgs false
set_option maxRecDepth 100000
attribute [local go_sem] Oper.semAt_some

def shG (s : SH) (v : Value) : Value := .agg #[.int .u8 s.m, .int .u8 s.p, .int .u32 s.st, .int .u64 s.g, v]
def SH.E (s : SH) : Int := if s.Ok then 0 else 2
def pshE (b : List Int) : Int := if (psh b).isSome then 0 else 3
def ShareBytesC : Prop := ∀ (s : SH) (a : Option Addr) (n k : Nat) (w : World), s.Wf → Arg8c w a n k s.row → n ≤ 500 →
  Calls Tryz.prog 94 #[shG s (.slice a n k)] w fun e w' => ∃ a2 k2, e = .returned (.tuple #[.slice a2 s.S.length k2, .int .i64 s.E]) ∧ Arg8c w' a2 s.S.length k2 s.S ∧ NewS w a2 s.S.length ∧ Below w.heap.size w w'
def ParseShareC : Prop := ∀ (a : Option Addr) (n k : Nat) (b : List Int) (w : World), Arg8c w a n k b → n ≤ 600 →
  Calls Tryz.prog 60 #[.slice a n k] w fun e w' => ∃ a2 k2, e = .returned (.tuple #[shG (pshZ b) (.slice a2 (pshZ b).row.length k2), .int .i64 (pshE b)]) ∧ Arg8c w' a2 (pshZ b).row.length k2 (pshZ b).row ∧ Below w.heap.size w w'
theorem SH.S_ok {s : SH} (h : s.Ok) : s.S = s.B ∧ s.E = 0 := ⟨if_pos h, if_pos h⟩
theorem SH.S_no {s : SH} (h : ¬ s.Ok) : s.S = [] ∧ s.E = 2 := ⟨if_neg h, if_neg h⟩
theorem SH.S_B {s : SH} (h : s.Wf) : AllB s.S := by
  unfold SH.S; split
  · exact SH.B_B h
  · exact fun x hx => by cases hx
theorem psh_zero {b : List Int} (h : psh b = none) : pshZ b = ⟨0, 0, 0, 0, []⟩ ∧ pshE b = 3 := by unfold pshZ pshE; rw [h]; exact ⟨rfl, rfl⟩
theorem psh_one {b : List Int} {c : SH} (h : psh b = some c) : pshZ b = c ∧ pshE b = 0 := by unfold pshZ pshE; rw [h]; exact ⟨rfl, rfl⟩
end Go.Proofs.YtkfdcdfaikkneaaGreatDoor
