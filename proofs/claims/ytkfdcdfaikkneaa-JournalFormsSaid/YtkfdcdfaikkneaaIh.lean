/- The document's ParseShare. -/
import Derived.Test.YtkfdcdfaikkneaaIg
import Derived.BigRegion
import Derived.Deep.RegionHeld
namespace Go.Proofs.Ytkfdcdfaikkneaa
open Go.ChangeShapes Go.WideShapes Go.ChangeAt Go.RowKit Go.Shelf
set_option linter.unusedVariables false
set_option linter.unusedSimpArgs false
set_option maxRecDepth 100000
attribute [local go_sem] Oper.semAt_some

theorem run_slice_str_lh (P : Program) (w : World) (t : TypeId) (s : ByteArray) (ht : P.underlying t = some .string) (l h : Int) (h0 : 0 ≤ l) (h1 : l ≤ h) (h2 : h ≤ s.size) :
    (Instr.slice t (.string s) (some (.int .i64 l)) (some (.int .i64 h)) none).run P w = .ok (.string (s.extract l.toNat h.toNat)) w := by
  simp [Instr.slice, run_underlying ht, Instr.sliceBounds, run_sliceBound, sliced, *, (by omega : (h.toNat : Int) = h), (by omega : 0 ≤ h), (by omega : 0 ≤ l)]
def set5 (W : World) (g : Nat) (x0 x1 x2 x3 x4 : Value) : World := ((((W.setCell ⟨g, 0, none⟩ x0).setCell ⟨g, 1, none⟩ x1).setCell ⟨g, 2, none⟩ x2).setCell ⟨g, 3, none⟩ x3).setCell ⟨g, 4, none⟩ x4
theorem set5_row {W : World} {g : Nat} {T : TypeId} {a0 a1 a2 a3 a4 : Value} (x0 x1 x2 x3 x4 : Value) (h : W.heap[g]? = some (.cells #[a0, a1, a2, a3, a4] T (0, 0))) : (set5 W g x0 x1 x2 x3 x4).heap[g]? = some (.cells #[x0, x1, x2, x3, x4] T (0, 0)) :=
  heap_setCell_same _ g 4 _ T x4 (heap_setCell_same _ g 3 _ T x3 (heap_setCell_same _ g 2 _ T x2 (heap_setCell_same _ g 1 _ T x1 (heap_setCell_same _ g 0 _ T x0 h))))
theorem set5_below {B : Nat} {V W : World} (h : Below B V W) {g : Nat} (hg : B ≤ g) (x0 x1 x2 x3 x4 : Value) : Below B V (set5 W g x0 x1 x2 x3 x4) :=
  ((((h.setCell (p := ⟨g, 0, none⟩) hg x0).setCell (p := ⟨g, 1, none⟩) hg x1).setCell (p := ⟨g, 2, none⟩) hg x2).setCell (p := ⟨g, 3, none⟩) hg x3).setCell (p := ⟨g, 4, none⟩) hg x4
theorem str_byte {BS : ByteArray} {b : List Int} (hB : AllB b) (h : BS = strOfNums b) (k : Nat) (hk : k < BS.size) : (((BS[k]'hk).toNat : Nat) : Int) = b.getD k 0 := by
  subst h
  have hk2 : k < b.length := by rw [strOfNums_size] at hk; exact hk
  have h1 : (strOfNums b)[k]'hk = UInt8.ofNat (b[k]'hk2).toNat := by
    show (strOfNums b).data[k]'_ = _
    simp [strOfNums]
  have h2 := hB (b[k]'hk2) (List.getElem_mem hk2)
  rw [h1, List.getD_eq_getElem?_getD, List.getElem?_eq_getElem hk2]
  simp
  omega
def pshZ (b : List Int) : SH := (psh b).getD ⟨0, 0, 0, 0, []⟩
end Go.Proofs.Ytkfdcdfaikkneaa
