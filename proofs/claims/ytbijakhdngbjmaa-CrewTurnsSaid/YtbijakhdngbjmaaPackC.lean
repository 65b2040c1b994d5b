/- Contracts of word.packed, word.place, word.Pack. -/
import Derived.Test.YtbijakhdngbjmaaBool
import Derived.Test.YtbijakhdngbjmaaPackM
import Derived.Test.YtbijakhdngbjmaaLives
import Derived.Deep.RegionHeld
namespace Go.Proofs.Ytbijakhdngbjmaa
open Go.ChangeShapes Go.WideShapes Go.ChangeAt Go.RowKit
set_option linter.unusedVariables false
set_option maxRecDepth 100000

theorem info4 : (Try.prog.info? 4).map (fun i => (i.zero, i.size, i.bytes)) = some (some (.bool false), 1, 1) := by kernel_rfl
theorem shift128 {r : Nat} (h : r < 8) : (128 : Int) / 2 ^ r = 2 ^ (7 - r) := by
  match r, h with
  | 0, _ => rfl
  | 1, _ => rfl
  | 2, _ => rfl
  | 3, _ => rfl
  | 4, _ => rfl
  | 5, _ => rfl
  | 6, _ => rfl
  | 7, _ => rfl
theorem own_rowK {w : World} {base : Nat} {e : TypeId} {g m : Nat} {l : List Bool} {k : Nat} (hl : (l.length + 7) / 8 = m) (hy : l.getD k false = true) (hk : k < l.length)
    (h : w.ownsRow base e 1 (.slice (some ⟨g, 0, none⟩) m m) m ((rowK l k).map (Value.int .u8))) :
    w.cell? ⟨g, k / 8, none⟩ = some (.int .u8 (byteK l k (k / 8) : Nat)) ∧
    (w.setCell ⟨g, k / 8, none⟩ (.int .u8 (bits .or .u8 (byteK l k (k / 8) : Nat) (2 ^ (7 - k % 8))))).ownsRow base e 1 (.slice (some ⟨g, 0, none⟩) m m) m ((rowK l (k + 1)).map (Value.int .u8)) := by
  have hj : k / 8 < (l.length + 7) / 8 := by omega
  constructor
  · have := own_cells h (k / 8) (by omega)
    rw [Nat.zero_add, rowK_getD hj] at this
    exact this
  · have := (h.stored (k / 8) (.int .u8 (bits .or .u8 (byteK l k (k / 8) : Nat) (2 ^ (7 - k % 8))))).1
    rw [map_set_u8, or_place (byteK_lt _ _ _) (by omega), rowK_yes hy] at this
    rw [or_place (byteK_lt _ _ _) (by omega)]
    exact this
end Go.Proofs.Ytbijakhdngbjmaa
