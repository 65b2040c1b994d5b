/- Slices of bools: what they read as. No program is named here. -/
import Derived.Test.YtbijakhdngbjmaaQ1
import Derived.Deep.Grids
import Derived.Deep.OwnRows
namespace Go.Proofs.Ytbijakhdngbjmaa
open Go.RowKit

theorem allB_getD' {l : List Int} (h : AllB l) (k : Nat) : 0 ≤ l.getD k 0 ∧ l.getD k 0 < 256 := by
  by_cases hk : k < l.length
  · have : l.getD k 0 = l[k] := by simp [List.getD_eq_getElem?_getD, List.getElem?_eq_getElem hk]
    rw [this]; exact h _ (List.getElem_mem hk)
  · have : l.getD k 0 = 0 := by simp [List.getD_eq_getElem?_getD, List.getElem?_eq_none (Nat.le_of_not_lt hk)]
    omega
def Ls (w : World) (B : Nat) (a : Option Addr) (l : List Bool) : Prop :=
  0 < l.length → ∃ b off, a = some ⟨b, off, none⟩ ∧ b < B ∧ ∀ i, i < l.length → w.cell? ⟨b, off + i, none⟩ = some (.bool (l.getD i false))
theorem Ls.below {w w' : World} {B : Nat} {a : Option Addr} {l : List Bool} (h : Ls w B a l) (hb : Below B w w') : Ls w' B a l := fun h0 => by
  obtain ⟨b, off, e, hB, hc⟩ := h h0
  exact ⟨b, off, e, hB, fun i hi => (hb.cell (p := ⟨b, off + i, none⟩) hB).trans (hc i hi)⟩
theorem Ls.more {w : World} {B B' : Nat} {a : Option Addr} {l : List Bool} (h : Ls w B a l) (hB : B ≤ B') : Ls w B' a l := fun h0 => by
  obtain ⟨b, off, e, hb, hc⟩ := h h0
  exact ⟨b, off, e, by omega, hc⟩
theorem Ls.at_ {w : World} {B : Nat} {a : Option Addr} {l : List Bool} {k : Nat} (h : Ls w B a l) (hk : k < l.length) :
    ∃ b off, a = some ⟨b, off, none⟩ ∧ b < B ∧ w.cell? ⟨b, off + k, none⟩ = some (.bool (l.getD k false)) := by
  obtain ⟨b, off, e, hB, hc⟩ := h (by omega)
  exact ⟨b, off, e, hB, hc k hk⟩
def ArgL (w : World) (a : Option Addr) (len cap : Nat) (l : List Bool) : Prop := l.length = len ∧ Ls w w.heap.size a l ∧ len ≤ cap ∧ cap ≤ maxLen
theorem ArgL.on {W w : World} {a : Option Addr} {n c : Nat} {l : List Bool} (h : ArgL W a n c l) (hb : Below W.heap.size W w) : ArgL w a n c l :=
  ⟨h.1, (h.2.1.below hb).more hb.size, h.2.2⟩
/-- From the reading of an argument that is a slice of bools. -/
theorem argL {w : World} {a : Option Addr} {len cap : Nat} (h : (a = none ∧ len = 0 ∧ cap = 0) ∨
    ∃ (x : Addr) (B : Nat → Bool), a = some x ∧ len ≤ cap ∧ cap ≤ maxLen ∧ ∀ i, i < cap → w.cell? (x.add i) = some (.bool (B i))) :
    ∃ l, ArgL w a len cap l := by
  rcases h with ⟨rfl, rfl, rfl⟩ | ⟨x, B, rfl, hl, hm, hc⟩
  · exact ⟨[], rfl, fun h => absurd h (by simp), Nat.le_refl _, Nat.zero_le _⟩
  · refine ⟨(List.range len).map B, by simp, fun h0 => ?_, hl, hm⟩
    have h1 : 0 < cap := by simp at h0; omega
    have hc0 := hc 0 h1
    obtain ⟨b, off, spot⟩ := x
    have hs : spot = none := by simpa [Addr.add] using World.cell?_spot hc0
    subst hs
    have hb : b < w.heap.size := by
      rcases Nat.lt_or_ge b w.heap.size with hlt | hge
      · exact hlt
      · have : w.cell? ((⟨b, off, none⟩ : Addr).add 0) = none := by
          simp [World.cell?, Addr.add, Array.getElem?_eq_none hge]
        rw [this] at hc0; cases hc0
    refine ⟨b, off, rfl, hb, fun i hi => ?_⟩
    have hi' : i < len := by simpa using hi
    have := hc i (by omega)
    rw [Addr.add_lit] at this
    rw [this]
    simp [List.getD_eq_getElem?_getD, List.getElem?_map, List.getElem?_range hi']
theorem map_bool_getElem? {l : List Bool} {j : Nat} (h : j < l.length) : (l.map Value.bool)[j]? = some (.bool (l.getD j false)) := by
  simp [List.getElem?_map, List.getD_eq_getElem?_getD, List.getElem?_eq_getElem h]
theorem own_cellsL {w : World} {base : Nat} {e : TypeId} {g n c : Nat} {l : List Bool} (h : w.ownsRow base e 1 (.slice (some ⟨g, 0, none⟩) n c) n (l.map Value.bool)) :
    ∀ i, i < n → w.cell? ⟨g, 0 + i, none⟩ = some (.bool (l.getD i false)) := by
  intro i hi
  have hl : l.length = n := by have := h.1; simpa using this
  rw [Nat.zero_add, h.cellAt i (by omega)]
  exact map_bool_getElem? (by omega)
theorem ArgL.own {w : World} {base : Nat} {e : TypeId} {g n c : Nat} {l : List Bool} (h : w.ownsRow base e 1 (.slice (some ⟨g, 0, none⟩) n c) n (l.map Value.bool)) (hc : n ≤ c ∧ c ≤ maxLen) :
    ArgL w (some ⟨g, 0, none⟩) n c l := by
  have hl : l.length = n := by have := h.1; simpa using this
  exact ⟨hl, fun h0 => ⟨g, 0, rfl, (h.lt g rfl).2, fun i hi => own_cellsL h i (by omega)⟩, hc⟩
theorem own_madeL {w : World} {e : TypeId} {n : Nat} (hm : n ≤ maxLen) :
    (w.alloc (.cells (madeCells #[Value.bool false] n) e)).ownsRow w.heap.size e 1 (.slice (some ⟨w.heap.size, 0, none⟩) n n) n ((List.replicate n false).map Value.bool) := by
  have := World.ownsRow_lit (base := w.heap.size) (e := e) (size := 1) w (madeCells #[Value.bool false] n) n (Nat.le_refl _) hm (by simp [size_madeCells])
  rw [toList_madeCells_one] at this
  simpa using this
def partL (L : List Bool) (k : Nat) : List Bool := L.take k ++ List.replicate (L.length - k) false
theorem partL_zero (L : List Bool) : partL L 0 = List.replicate L.length false := by simp [partL]
theorem partL_all (L : List Bool) : partL L L.length = L := by simp [partL]
theorem partL_set {L : List Bool} {k : Nat} (h : k < L.length) : (partL L k).set k (L.getD k false) = partL L (k + 1) := by
  unfold partL
  rw [List.set_append_right _ _ (by simp; omega)]
  have e : k - (L.take k).length = 0 := by simp; omega
  rw [e, show L.length - k = (L.length - (k + 1)) + 1 by omega, List.replicate_succ, List.set_cons_zero, List.take_succ_eq_append_getElem h, List.append_assoc]
  have e2 : L.getD k false = L[k] := by rw [List.getD_eq_getElem?_getD, List.getElem?_eq_getElem h]; rfl
  rw [e2]; rfl
theorem partL_set_own {w : World} {base : Nat} {e : TypeId} {g n cap k : Nat} {L : List Bool} (hL : L.length = n) (hk : k < n)
    (h : w.ownsRow base e 1 (.slice (some ⟨g, 0, none⟩) n cap) n ((partL L k).map Value.bool)) :
    (w.setCell ⟨g, k, none⟩ (.bool (L.getD k false))).ownsRow base e 1 (.slice (some ⟨g, 0, none⟩) n cap) n ((partL L (k + 1)).map Value.bool) := by
  have := (h.stored k (.bool (L.getD k false))).1
  rw [← List.map_set, partL_set (by omega)] at this
  exact this
end Go.Proofs.Ytbijakhdngbjmaa
