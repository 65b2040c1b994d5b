/- Rows of bytes that are worked over from the head on; plain facts. -/
import Derived.Test.YtmhknggjpggagaaFint
import Derived.Test.YtmhknggjpggagaaApp
import Derived.StillTailTactics
import Derived.Deep.RegionWith
import Derived.Deep.OwnRows
namespace Go.Proofs.Ytmhknggjpggagaa
open Go.ChangeShapes Go.WideShapes Go.ChangeAt Go.RowKit
set_option linter.unusedVariables false

theorem info5 : (Try.prog.info? 5).map (fun i => (i.zero, i.size, i.bytes)) = some (some (.int .u8 0), 1, 1) := by kernel_rfl
theorem size_u8 : (Try.prog.info? 5).map (·.size) = some 1 := by kernel_rfl
theorem allB_getD {l : List Int} (h : AllB l) (k : Nat) : 0 ≤ l.getD k 0 ∧ l.getD k 0 < 256 := by
  by_cases hk : k < l.length
  · have : l.getD k 0 = l[k] := by simp [List.getD_eq_getElem?_getD, List.getElem?_eq_getElem hk]
    rw [this]; exact h _ (List.getElem_mem hk)
  · have : l.getD k 0 = 0 := by simp [List.getD_eq_getElem?_getD, List.getElem?_eq_none (Nat.le_of_not_lt hk)]
    omega
theorem list_ext_getD {l m : List Int} (h : l.length = m.length) (hi : ∀ i, i < l.length → l.getD i 0 = m.getD i 0) : l = m := by
  apply List.ext_getElem h
  intro i h1 h2
  have := hi i h1
  simpa [List.getD_eq_getElem?_getD, List.getElem?_eq_getElem h1, List.getElem?_eq_getElem h2] using this

/-- The row cur is L up to k, and l beyond. -/
def Mix (L l cur : List Int) (k : Nat) : Prop := cur.length = l.length ∧ ∀ i, i < l.length → cur.getD i 0 = if i < k then L.getD i 0 else l.getD i 0
theorem Mix.zero (L l : List Int) : Mix L l l 0 := ⟨rfl, fun i hi => by rw [if_neg (by omega)]⟩
theorem Mix.next {L l cur : List Int} {k : Nat} (h : Mix L l cur k) (hk : k < l.length) : Mix L l (cur.set k (L.getD k 0)) (k + 1) := by
  refine ⟨by simpa using h.1, fun i hi => ?_⟩
  by_cases e : i = k
  · subst e
    rw [if_pos (by omega)]
    simp [List.getD_eq_getElem?_getD, h.1, hi]
  · rw [getD_set_ne (Ne.symm e), h.2 i hi]
    by_cases h1 : i < k
    · rw [if_pos h1, if_pos (by omega)]
    · rw [if_neg h1, if_neg (by omega)]
theorem Mix.all {L l cur : List Int} {k : Nat} (h : Mix L l cur k) (hL : L.length = l.length) (hr : ∀ i, k ≤ i → i < l.length → l.getD i 0 = L.getD i 0) : cur = L := by
  apply list_ext_getD (by rw [h.1, hL])
  intro i hi
  rw [h.1] at hi
  rw [h.2 i hi]
  by_cases h1 : i < k
  · rw [if_pos h1]
  · rw [if_neg h1]; exact hr i (by omega) hi
/-- Each byte times c. -/
def scaL (c : Int) (l : List Int) : List Int := l.map (gmI c)
theorem length_scaL (c : Int) (l : List Int) : (scaL c l).length = l.length := by simp [scaL]
theorem scaL_getD (c : Int) {l : List Int} {i : Nat} (h : i < l.length) : (scaL c l).getD i 0 = gmI c (l.getD i 0) := by
  simp [scaL, List.getD_eq_getElem?_getD, List.getElem?_map, List.getElem?_eq_getElem h]
theorem allB_scaL (c : Int) (l : List Int) : AllB (scaL c l) := by
  intro x hx
  obtain ⟨y, _, rfl⟩ := List.mem_map.1 hx
  exact gmI_bd _ _

theorem own_block_le (g n c : Nat) : ∀ k, (Value.slice (some ⟨g, 0, none⟩) n c).ownBlock = some k → g ≤ k := fun k hk => by cases hk; exact Nat.le_refl _
theorem own_empty (w : World) (e : TypeId) : (w.alloc (.cells #[] e)).ownsRow w.heap.size e 1 (.slice (some ⟨w.heap.size, 0, none⟩) 0 0) 0 (([] : List Int).map (Value.int .u8)) :=
  World.ownsRow_lit (base := w.heap.size) (e := e) (size := 1) w #[] 0 (Nat.le_refl _) (Nat.zero_le _) rfl
theorem below_drewN {B : Nat} {a w : World} (h : Below B a w) (n : Nat) : Below B a (w.drewN n) := ⟨h.os, h.tape, h.output, h.size, h.block⟩
end Go.Proofs.Ytmhknggjpggagaa
