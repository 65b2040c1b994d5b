/- Texts of mine, one behind the other: Blk. -/
import Derived.Test.YtappfdbmhgifcaaGreatDoorZS01
import Derived.WalkKit
import Derived.OpenShut
import Derived.Below
import Derived.Deep.WholeRow
import Derived.ChangeAlike
import Derived.BigRegion
import Derived.Deep.CutRange
import Derived.Deep.RegionWith
import Derived.Deep.DrawnRows
/- Blocks known whole. No program is named here. -/
namespace Go.Proofs.YtappfdbmhgifcaaGreatDoor
open Go.RowKit
set_option linter.unusedVariables false

theorem size_alloc1 (w : World) (o : Obj) : (w.alloc o).heap.size = w.heap.size + 1 := by simp
/-- n values, told by a function. -/
def tabV (n : Nat) (g : Nat → Value) : Array Value := ((List.range n).map g).toArray
theorem size_tabV (n : Nat) (g : Nat → Value) : (tabV n g).size = n := by simp [tabV]
theorem get_tabV {n : Nat} {g : Nat → Value} {j : Nat} (h : j < n) : (tabV n g)[j]? = some (g j) := by simp [tabV, h]
theorem tabV_congr {n : Nat} {g h : Nat → Value} (e : ∀ j, j < n → g j = h j) : tabV n g = tabV n h := by
  unfold tabV; congr 1; exact List.map_congr_left fun j hj => e j (List.mem_range.1 hj)
theorem tabV_set {n : Nat} (g : Nat → Value) {i : Nat} (h : i < n) (v : Value) : (tabV n g).setIfInBounds i v = tabV n (fun j => if j = i then v else g j) := by
  apply Array.ext_getElem?
  intro j
  rw [Array.getElem?_setIfInBounds]
  by_cases e : i = j
  · subst e
    rw [if_pos rfl, if_pos (by rw [size_tabV]; exact h), get_tabV h, if_pos rfl]
  · rw [if_neg e]
    by_cases hj : j < n
    · rw [get_tabV hj, get_tabV hj, if_neg (fun h => e h.symm)]
    · rw [Array.getElem?_eq_none (by rw [size_tabV]; omega), Array.getElem?_eq_none (by rw [size_tabV]; omega)]
theorem replicate_tabV (n : Nat) (v : Value) : Array.replicate n v = tabV n (fun _ => v) := by
  apply Array.ext_getElem?
  intro j
  by_cases hj : j < n
  · rw [get_tabV hj]; simp [hj]
  · rw [Array.getElem?_eq_none (by simp; omega), Array.getElem?_eq_none (by rw [size_tabV]; omega)]
theorem tabV_one {n : Nat} {g : Nat → Value} (h : ∀ j, (g j).oneCell' = true) : (tabV n g).all (·.oneCell') = true := by
  rw [Array.all_eq_true_iff_forall_mem]
  intro v hv
  simp [tabV] at hv
  obtain ⟨j, _, rfl⟩ := hv
  exact h j
/-- A block of one's own, whole. -/
def Blk (w : World) (b : Nat) (T : TypeId) (n : Nat) (g : Nat → Value) : Prop := w.heap[b]? = some (.cells (tabV n g) T (0, 0))
theorem Blk.lt {w : World} {b : Nat} {T : TypeId} {n : Nat} {g : Nat → Value} (h : Blk w b T n g) : b < w.heap.size := (Array.getElem?_eq_some_iff.1 h).1
theorem Blk.cell {w : World} {b : Nat} {T : TypeId} {n : Nat} {g : Nat → Value} (h : Blk w b T n g) {j : Nat} (hj : j < n) : w.cell? ⟨b, j, none⟩ = some (g j) := by
  rw [cell_of_row w b j _ T _ h, get_tabV hj]
theorem Blk.free {w : World} {b : Nat} {T : TypeId} {n : Nat} {g : Nat → Value} (h : Blk w b T n g) (j : Nat) : w.frozen? ⟨b, j, none⟩ = false := frozen_of_row w b j _ T h
theorem Blk.set {w : World} {b : Nat} {T : TypeId} {n : Nat} {g : Nat → Value} (h : Blk w b T n g) {i : Nat} (hi : i < n) (v : Value) : Blk (w.setCell ⟨b, i, none⟩ v) b T n (fun j => if j = i then v else g j) := by
  unfold Blk
  rw [heap_setCell_same w b i _ T v h, tabV_set g hi]
theorem Blk.congr {w : World} {b : Nat} {T : TypeId} {n : Nat} {g h : Nat → Value} (k : Blk w b T n g) (e : ∀ j, j < n → g j = h j) : Blk w b T n h := by
  unfold Blk at *; rw [← tabV_congr e]; exact k
theorem Blk.drewN {w : World} {b : Nat} {T : TypeId} {n : Nat} {g : Nat → Value} (h : Blk w b T n g) (q : Nat) : Blk (w.drewN q) b T n g := h
theorem Blk.made (w : World) (T : TypeId) (n : Nat) (g : Nat → Value) : Blk (w.alloc (.cells (tabV n g) T)) w.heap.size T n g := heap_alloc_new w _
theorem Blk.on {w w' : World} {b : Nat} {T : TypeId} {n : Nat} {g : Nat → Value} (h : Blk w b T n g) {B : Nat} (hb : Below B w w') (hB : b < B) : Blk w' b T n g := by
  unfold Blk; rw [hb.block b hB]; exact h
theorem Blk.other {w : World} {b : Nat} {T : TypeId} {n : Nat} {g : Nat → Value} (h : Blk w b T n g) (a : Addr) (v : Value) (hne : b ≠ a.block) : Blk (w.setCell a v) b T n g := by
  unfold Blk; rw [heap_setCell_other w a b v hne]; exact h
theorem Blk.row {w : World} {b : Nat} {T : TypeId} {n : Nat} {g : Nat → Value} (h : Blk w b T n g) (g' : Nat → Value) : Blk (w.setRow b (tabV n g')) b T n g' := setRow_heap w b _ _ T _ h
theorem below_setRow {B : Nat} {a w : World} (h : Below B a w) {b : Nat} (hB : B ≤ b) (cs : Array Value) : Below B a (w.setRow b cs) :=
  ⟨h.os, h.tape, h.output, by rw [setRow_size]; exact h.size, fun k hk => by rw [setRow_other w b k cs (by omega)]; exact h.block k hk⟩
end Go.Proofs.YtappfdbmhgifcaaGreatDoor
