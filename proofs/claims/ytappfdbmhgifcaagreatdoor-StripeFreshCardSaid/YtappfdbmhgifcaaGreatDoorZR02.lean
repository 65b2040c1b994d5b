/- Texts of mine, one behind the other: Blk. -/
import Derived.Test.YtappfdbmhgifcaaGreatDoorZR01
import Derived.Deep.WholeRow
import Derived.Deep.CutRange
import Derived.Deep.DrawnRows
set_option linter.unusedVariables false
set_option linter.unusedSimpArgs false
set_option maxRecDepth 100000
namespace Go.Proofs.YtappfdbmhgifcaaGreatDoor
open Go.RowKit
theorem a4t (w:World) (o:Obj):(w.alloc o).heap.size = w.heap.size + 1:=by simp
def a0e (n:Nat) (g:Nat → Value):Array Value:=((List.range n).map g).toArray
theorem a0b (n:Nat) (g:Nat → Value):(a0e n g).size = n:=by simp [a0e]
theorem a1f {n:Nat} {g:Nat → Value} {j:Nat} (h:j < n):(a0e n g)[j]? = some (g j):=by simp [a0e,h]
theorem b3l {n:Nat} {g h:Nat → Value} (e:∀ j,j < n → g j = h j):a0e n g = a0e n h:=by
 unfold a0e;congr 1;exact List.map_congr_left fun j hj => e j (List.mem_range.1 hj)
theorem b9u {n:Nat} (g:Nat → Value) {i:Nat} (h:i < n) (v:Value):(a0e n g).setIfInBounds i v = a0e n (fun j => if j = i then v else g j):=by
 apply Array.ext_getElem?
 intro j
 rw [Array.getElem?_setIfInBounds]
 by_cases e:i = j
 ·subst e
  rw [if_pos rfl,if_pos (by rw [a0b];exact h),a1f h,if_pos rfl]
 ·rw [if_neg e]
  by_cases hj:j < n
  ·rw [a1f hj,a1f hj,if_neg (fun h => e h.symm)]
  ·rw [Array.getElem?_eq_none (by rw [a0b];omega),Array.getElem?_eq_none (by rw [a0b];omega)]
theorem a0m (n:Nat) (v:Value):Array.replicate n v = a0e n (fun _ => v):=by
 apply Array.ext_getElem?
 intro j
 by_cases hj:j < n
 ·rw [a1f hj];simp [hj]
 ·rw [Array.getElem?_eq_none (by simp;omega),Array.getElem?_eq_none (by rw [a0b];omega)]
theorem a0l {n:Nat} {g:Nat → Value} (h:∀ j,(g j).oneCell' = true):(a0e n g).all (·.oneCell') = true:=by
 rw [Array.all_eq_true_iff_forall_mem]
 intro v hv
 simp [a0e] at hv
 obtain ⟨j,_,rfl⟩:=hv
 exact h j
def Blk (w:World) (b:Nat) (T:TypeId) (n:Nat) (g:Nat → Value):Prop:=w.heap[b]? = some (.cells (a0e n g) T (0,0))
theorem Blk.lt {w:World} {b:Nat} {T:TypeId} {n:Nat} {g:Nat → Value} (h:Blk w b T n g):b < w.heap.size:=(Array.getElem?_eq_some_iff.1 h).1
theorem Blk.cell {w:World} {b:Nat} {T:TypeId} {n:Nat} {g:Nat → Value} (h:Blk w b T n g) {j:Nat} (hj:j < n):w.cell? ⟨b,j,none⟩ = some (g j):=by
 rw [cell_of_row w b j _ T _ h,a1f hj]
theorem Blk.free {w:World} {b:Nat} {T:TypeId} {n:Nat} {g:Nat → Value} (h:Blk w b T n g) (j:Nat):w.frozen? ⟨b,j,none⟩ = false:=frozen_of_row w b j _ T h
theorem Blk.set {w:World} {b:Nat} {T:TypeId} {n:Nat} {g:Nat → Value} (h:Blk w b T n g) {i:Nat} (hi:i < n) (v:Value):Blk (w.setCell ⟨b,i,none⟩ v) b T n (fun j => if j = i then v else g j):=by
 unfold Blk
 rw [heap_setCell_same w b i _ T v h,b9u g hi]
theorem Blk.congr {w:World} {b:Nat} {T:TypeId} {n:Nat} {g h:Nat → Value} (k:Blk w b T n g) (e:∀ j,j < n → g j = h j):Blk w b T n h:=by
 unfold Blk at *;rw [← b3l e];exact k
theorem Blk.drewN {w:World} {b:Nat} {T:TypeId} {n:Nat} {g:Nat → Value} (h:Blk w b T n g) (q:Nat):Blk (w.drewN q) b T n g:=h
theorem Blk.made (w:World) (T:TypeId) (n:Nat) (g:Nat → Value):Blk (w.alloc (.cells (a0e n g) T)) w.heap.size T n g:=heap_alloc_new w _
theorem Blk.on {w w':World} {b:Nat} {T:TypeId} {n:Nat} {g:Nat → Value} (h:Blk w b T n g) {B:Nat} (hb:Below B w w') (hB:b < B):Blk w' b T n g:=by
 unfold Blk;rw [hb.block b hB];exact h
theorem Blk.other {w:World} {b:Nat} {T:TypeId} {n:Nat} {g:Nat → Value} (h:Blk w b T n g) (a:Addr) (v:Value) (hne:b ≠ a.block):Blk (w.setCell a v) b T n g:=by
 unfold Blk;rw [heap_setCell_other w a b v hne];exact h
theorem Blk.row {w:World} {b:Nat} {T:TypeId} {n:Nat} {g:Nat → Value} (h:Blk w b T n g) (g':Nat → Value):Blk (w.setRow b (a0e n g')) b T n g':=setRow_heap w b _ _ T _ h
theorem below_setRow {B:Nat} {a w:World} (h:Below B a w) {b:Nat} (hB:B ≤ b) (cs:Array Value):Below B a (w.setRow b cs):=
 ⟨h.os,h.tape,h.output,by rw [setRow_size];exact h.size,fun k hk => by rw [setRow_other w b k cs (by omega)];exact h.block k hk⟩
end Go.Proofs.YtappfdbmhgifcaaGreatDoor
