/- What a slice of bytes reads as ('Bs': nil and empty ones too), and small facts on worlds. No program is named here. -/
import Derived.WalkKit
import Derived.Below
import Derived.Laws.OwnMore
import Derived.Laws.CopyOwn
import Derived.Laws.BytesArg
import Derived.Lib.Hide
import Derived.Deep.Draws
import Derived.WalkSmall
namespace Go.Proofs.Ytocdbknahbokbaa
open Go.RowKit

/-- All of l are bytes. -/
def AllB (l : List Int) : Prop := ∀ x ∈ l, 0 ≤ x ∧ x < 256

/-- The slice that begins at a reads, as far as l goes, as the bytes l; it lies below block B. -/
def Bs (w : World) (B : Nat) (a : Option Addr) (l : List Int) : Prop :=
  0 < l.length → ∃ b off, a = some ⟨b, off, none⟩ ∧ b < B ∧ ∀ i, i < l.length → w.cell? ⟨b, off + i, none⟩ = some (.int .u8 (l.getD i 0))

theorem Bs.below {w w' : World} {B : Nat} {a : Option Addr} {l : List Int} (h : Bs w B a l) (hb : Below B w w') : Bs w' B a l := fun h0 => by
  obtain ⟨b, off, e, hB, hc⟩ := h h0
  exact ⟨b, off, e, hB, fun i hi => (hb.cell (p := ⟨b, off + i, none⟩) hB).trans (hc i hi)⟩
theorem Bs.more {w : World} {B B' : Nat} {a : Option Addr} {l : List Int} (h : Bs w B a l) (hB : B ≤ B') : Bs w B' a l := fun h0 => by
  obtain ⟨b, off, e, hb, hc⟩ := h h0
  exact ⟨b, off, e, by omega, hc⟩
theorem Bs.nil (w : World) (B : Nat) (a : Option Addr) : Bs w B a [] := fun h => absurd h (by simp)
theorem getElem?_map_u8 {l : List Int} {j : Nat} {u : Value} (h : (l.map (Value.int .u8))[j]? = some u) : j < l.length ∧ u = .int .u8 (l.getD j 0) := by
  rw [List.getElem?_map] at h
  obtain ⟨x, hx, rfl⟩ := Option.map_eq_some_iff.1 h
  obtain ⟨hj, e⟩ := List.getElem?_eq_some_iff.1 hx
  exact ⟨hj, by rw [List.getD_eq_getElem?_getD, hx]; rfl⟩
theorem map_u8_getElem? {l : List Int} {j : Nat} (h : j < l.length) : (l.map (Value.int .u8))[j]? = some (.int .u8 (l.getD j 0)) := by
  simp [List.getElem?_map, List.getD_eq_getElem?_getD, List.getElem?_eq_getElem h]
theorem Bs.of_own {w : World} {base : Nat} {e : TypeId} {a : Option Addr} {n c : Nat} {l : List Int} (h : w.ownsRow base e 1 (.slice a n c) n (l.map (Value.int .u8))) : Bs w w.heap.size a l ∧ l.length = n := by
  have hl : l.length = n := by have := h.1; simpa using this
  refine ⟨fun h0 => ?_, hl⟩
  rcases h.2 with ⟨_, rfl⟩ | ⟨g, cap, cur, hv, _, hh, hn, _, hsz, htk⟩
  · omega
  · injection hv with h1 h2 h3
    subst h1 h3
    have hlt : g < w.heap.size := by
      rcases Nat.lt_or_ge g w.heap.size with hlt | hge
      · exact hlt
      · rw [Array.getElem?_eq_none hge] at hh; cases hh
    refine ⟨g, 0, rfl, hlt, fun i hi => ?_⟩
    rw [Nat.zero_add, h.cellAt i (by omega)]
    exact map_u8_getElem? hi
/-- One of a slice's bytes, for the walk. -/
theorem Bs.at_ {w : World} {B : Nat} {a : Option Addr} {l : List Int} {k : Nat} (h : Bs w B a l) (hk : k < l.length) :
    ∃ b off, a = some ⟨b, off, none⟩ ∧ b < B ∧ w.cell? ⟨b, off + k, none⟩ = some (.int .u8 (l.getD k 0)) := by
  obtain ⟨b, off, e, hB, hc⟩ := h (by omega)
  exact ⟨b, off, e, hB, hc k hk⟩
/-- The cells, in the form that append and copy ask for. -/
theorem Bs.cells {w : World} {B : Nat} {a : Option Addr} {l : List Int} (h : Bs w B a l) :
    0 < (l.map (Value.int .u8)).length → ∃ ad, a = some ad ∧ ∀ j v, (l.map (Value.int .u8))[j]? = some v → w.cell? (ad.add j) = some v := fun h0 => by
  obtain ⟨b, off, e, hB, hc⟩ := h (by simpa using h0)
  refine ⟨_, e, fun j v hj => ?_⟩
  obtain ⟨hl, rfl⟩ := getElem?_map_u8 hj
  rw [Addr.add_lit]
  exact hc j hl
theorem own_cells {w : World} {base : Nat} {e : TypeId} {g n c : Nat} {l : List Int} (h : w.ownsRow base e 1 (.slice (some ⟨g, 0, none⟩) n c) n (l.map (Value.int .u8))) :
    ∀ i, i < n → w.cell? ⟨g, 0 + i, none⟩ = some (.int .u8 (l.getD i 0)) := by
  intro i hi
  have hl : l.length = n := by have := h.1; simpa using this
  rw [Nat.zero_add, h.cellAt i (by omega)]
  exact map_u8_getElem? (by omega)
/-- A row of one's own, made a string. -/
theorem own_string {P : Program} {w : World} {base : Nat} {e src : TypeId} {g n c : Nat} {l : List Int} (h : w.ownsRow base e 1 (.slice (some ⟨g, 0, none⟩) n c) n (l.map (Value.int .u8)))
    (hs : P.underlying src = some (.slice e)) (he : P.underlying e = some (.int .u8)) {dst : TypeId} (hd : P.underlying dst = some .string) :
    (convert src dst (.slice (some ⟨g, 0, none⟩) n c)).run P w = .ok (.string (strOfNums l)) w :=
  run_convert_bytes_arg w src e hs he g 0 n c l (by have := h.1; simpa using this) (own_cells h) dst hd
theorem Bs.string {P : Program} {w : World} {B : Nat} {e src : TypeId} {a : Option Addr} {n c : Nat} {l : List Int} (h : Bs w B a l) (hl : l.length = n)
    (hs : P.underlying src = some (.slice e)) (he : P.underlying e = some (.int .u8)) {dst : TypeId} (hd : P.underlying dst = some .string) (h0 : 0 < n) :
    (convert src dst (.slice a n c)).run P w = .ok (.string (strOfNums l)) w := by
  obtain ⟨b, off, rfl, _, hc⟩ := h (by omega)
  exact run_convert_bytes_arg w src e hs he b off n c l hl (fun i hi => hc i (by omega)) dst hd
theorem splice_all {α : Type} (L cs : List α) : splice L 0 cs = cs ++ L.drop cs.length := by simp [splice]
end Go.Proofs.Ytocdbknahbokbaa
