/- What a slice of bytes reads as ('Bs': nil and empty ones too), and small facts on worlds. No program is named here. -/
import Derived.WalkKit
import Derived.Below
import Derived.Laws.OwnMore
import Derived.Laws.CopyOwn
import Derived.Laws.BytesArg
import Derived.Lib.Hide
import Derived.Deep.Draws
import Derived.WalkSmall
namespace Go.Proofs.Ytmhknggjpggagaa
open Go.RowKit

/-- All of l are bytes. -/
def AllB (l : List Int) : Prop := ∀ x ∈ l, 0 ≤ x ∧ x < 256

/-- The slice that begins at a reads, as far as l goes, as the bytes l; it lies below block B. -/
def Bs (w : World) (B : Nat) (a : Option Addr) (l : List Int) : Prop :=
  0 < l.length → ∃ b off, a = some ⟨b, off, none⟩ ∧ b < B ∧ ∀ i, i < l.length → w.cell? ⟨b, off + i, none⟩ = some (.int .u8 (l.getD i 0))

theorem Bs.below {w w' : World} {B : Nat} {a : Option Addr} {l : List Int} (h : Bs w B a l) (hb : Below B w w') : Bs w' B a l := fun h0 => by
  obtain ⟨b, off, e, hB, hc⟩ := h h0
  exact ⟨b, off, e, hB, fun i hi => (hb.cell (p := ⟨b, off + i, none⟩) hB).trans (hc i hi)⟩
theorem Bs.more {w : World} {B B' : Nat} {a : Option Addr} {l : List Int} (h : Bs w B a l) (hB : B ≤ B') : Bs w B' a l := fun h0 => by
  obtain ⟨b, off, e, hb, hc⟩ := h h0
  exact ⟨b, off, e, by omega, hc⟩
theorem Bs.nil (w : World) (B : Nat) (a : Option Addr) : Bs w B a [] := fun h => absurd h (by simp)
theorem getElem?_map_u8 {l : List Int} {j : Nat} {u : Value} (h : (l.map (Value.int .u8))[j]? = some u) : j < l.length ∧ u = .int .u8 (l.getD j 0) := by
  rw [List.getElem?_map] at h
  obtain ⟨x, hx, rfl⟩ := Option.map_eq_some_iff.1 h
  obtain ⟨hj, e⟩ := List.getElem?_eq_some_iff.1 hx
  exact ⟨hj, by rw [List.getD_eq_getElem?_getD, hx]; rfl⟩
theorem map_u8_getElem? {l : List Int} {j : Nat} (h : j < l.length) : (l.map (Value.int .u8))[j]? = some (.int .u8 (l.getD j 0)) := by
  simp [List.getElem?_map, List.getD_eq_getElem?_getD, List.getElem?_eq_getElem h]
theorem Bs.of_own {w : World} {base : Nat} {e : TypeId} {a : Option Addr} {n c : Nat} {l : List Int} (h : w.ownsRow base e 1 (.slice a n c) n (l.map (Value.int .u8))) : Bs w w.heap.size a l ∧ l.length = n := by
  have hl : l.length = n := by have := h.1; simpa using this
  refine ⟨fun h0 => ?_, hl⟩
  rcases h.2 with ⟨_, rfl⟩ | ⟨g, cap, cur, hv, _, hh, hn, _, hsz, htk⟩
  · omega
  · injection hv with h1 h2 h3
    subst h1 h3
    have hlt : g < w.heap.size := by
      rcases Nat.lt_or_ge g w.heap.size with hlt | hge
      · exact hlt
      · rw [Array.getElem?_eq_none hge] at hh; cases hh
    refine ⟨g, 0, rfl, hlt, fun i hi => ?_⟩
    rw [Nat.zero_add, h.cellAt i (by omega)]
    exact map_u8_getElem? hi
/-- One of a slice's bytes, for the walk. -/
theorem Bs.at_ {w : World} {B : Nat} {a : Option Addr} {l : List Int} {k : Nat} (h : Bs w B a l) (hk : k < l.length) :
    ∃ b off, a = some ⟨b, off, none⟩ ∧ b < B ∧ w.cell? ⟨b, off + k, none⟩ = some (.int .u8 (l.getD k 0)) := by
  obtain ⟨b, off, e, hB, hc⟩ := h (by omega)
  exact ⟨b, off, e, hB, hc k hk⟩
/-- The cells, in the form that append and copy ask for. -/
theorem Bs.cells {w : World} {B : Nat} {a : Option Addr} {l : List Int} (h : Bs w B a l) :
    0 < (l.map (Value.int .u8)).length → ∃ ad, a = some ad ∧ ∀ j v, (l.map (Value.int .u8))[j]? = some v → w.cell? (ad.add j) = some v := fun h0 => by
  obtain ⟨b, off, e, hB, hc⟩ := h (by simpa using h0)
  refine ⟨_, e, fun j v hj => ?_⟩
  obtain ⟨hl, rfl⟩ := getElem?_map_u8 hj
  rw [Addr.add_lit]
  exact hc j hl
theorem own_cells {w : World} {base : Nat} {e : TypeId} {g n c : Nat} {l : List Int} (h : w.ownsRow base e 1 (.slice (some ⟨g, 0, none⟩) n c) n (l.map (Value.int .u8))) :
    ∀ i, i < n → w.cell? ⟨g, 0 + i, none⟩ = some (.int .u8 (l.getD i 0)) := by
  intro i hi
  have hl : l.length = n := by have := h.1; simpa using this
  rw [Nat.zero_add, h.cellAt i (by omega)]
  exact map_u8_getElem? (by omega)
/-- A row of one's own, made a string. -/
theorem own_string {P : Program} {w : World} {base : Nat} {e src : TypeId} {g n c : Nat} {l : List Int} (h : w.ownsRow base e 1 (.slice (some ⟨g, 0, none⟩) n c) n (l.map (Value.int .u8)))
    (hs : P.underlying src = some (.slice e)) (he : P.underlying e = some (.int .u8)) {dst : TypeId} (hd : P.underlying dst = some .string) :
    (convert src dst (.slice (some ⟨g, 0, none⟩) n c)).run P w = .ok (.string (strOfNums l)) w :=
  run_convert_bytes_arg w src e hs he g 0 n c l (by have := h.1; simpa using this) (own_cells h) dst hd
theorem Bs.string {P : Program} {w : World} {B : Nat} {e src : TypeId} {a : Option Addr} {n c : Nat} {l : List Int} (h : Bs w B a l) (hl : l.length = n)
    (hs : P.underlying src = some (.slice e)) (he : P.underlying e = some (.int .u8)) {dst : TypeId} (hd : P.underlying dst = some .string) (h0 : 0 < n) :
    (convert src dst (.slice a n c)).run P w = .ok (.string (strOfNums l)) w := by
  obtain ⟨b, off, rfl, _, hc⟩ := h (by omega)
  exact run_convert_bytes_arg w src e hs he b off n c l hl (fun i hi => hc i (by omega)) dst hd
/-- What the frame tells of an argument that is a slice of bytes. -/
def Arg8 (w : World) (a : Option Addr) (len cap : Nat) (l : List Int) : Prop := l.length = len ∧ AllB l ∧ Bs w w.heap.size a l ∧ len ≤ cap ∧ cap ≤ maxLen
theorem arg8 {w : World} {a : Option Addr} {len cap : Nat} {zs : List Int} (h : (a = none ∧ len = 0 ∧ cap = 0 ∧ zs = []) ∨
    ∃ x, a = some x ∧ len ≤ cap ∧ cap ≤ maxLen ∧ zs.length = cap ∧ (∀ i, i < zs.length → w.cell? (x.add i) = some (.int .u8 (zs.getD i 0))) ∧ ∀ n ∈ zs, (Lit.int .u8 n).wf = true) :
    ∃ l, Arg8 w a len cap l := by
  rcases h with ⟨rfl, rfl, rfl, rfl⟩ | ⟨x, rfl, hl, hm, hz, hc, hw⟩
  · exact ⟨[], ⟨rfl, (by intro x hx; cases hx), Bs.nil _ _ _, Nat.le_refl _, Nat.zero_le _⟩⟩
  · refine ⟨zs.take len, by simp [hz, hl], ?_, ?_, hl, hm⟩
    · intro n hn
      have := hw n (List.mem_of_mem_take hn)
      have : 0 ≤ n ∧ n ≤ 255 := by simpa [Lit.wf, IntKind.min, IntKind.max, IntKind.signed, IntKind.bits] using this
      omega
    · intro h0
      have h1 : 0 < zs.length := by simp at h0; omega
      have hc0 := hc 0 h1
      obtain ⟨b, off, spot⟩ := x
      have hs : spot = none := by simpa [Addr.add] using World.cell?_spot hc0
      subst hs
      have hb : b < w.heap.size := by
        rcases Nat.lt_or_ge b w.heap.size with hlt | hge
        · exact hlt
        · have : w.cell? ((⟨b, off, none⟩ : Addr).add 0) = none := by
            simp [World.cell?, Addr.add, Array.getElem?_eq_none hge]
          rw [this] at hc0; cases hc0
      refine ⟨b, off, rfl, hb, fun i hi => ?_⟩
      have hi' : i < len ∧ i < zs.length := by simp at hi; omega
      have := hc i hi'.2
      rw [Addr.add_lit] at this
      rw [this]
      simp [List.getD_eq_getElem?_getD, hi'.1]
theorem getD_set_ne {l : List Int} {i j : Nat} {x : Int} (h : i ≠ j) : (l.set i x).getD j 0 = l.getD j 0 := by
  simp [List.getD_eq_getElem?_getD, h]
/-- A row that is filled from its head on. -/
def part (L : List Int) (k : Nat) : List Int := L.take k ++ List.replicate (L.length - k) 0
theorem part_zero (L : List Int) : part L 0 = List.replicate L.length 0 := by simp [part]
theorem part_all (L : List Int) : part L L.length = L := by simp [part]
theorem length_part {L : List Int} {k : Nat} (h : k ≤ L.length) : (part L k).length = L.length := by simp [part]; omega
theorem part_set {L : List Int} {k : Nat} (h : k < L.length) : (part L k).set k (L.getD k 0) = part L (k + 1) := by
  unfold part
  rw [List.set_append_right _ _ (by simp; omega)]
  have e : k - (L.take k).length = 0 := by simp; omega
  rw [e, show L.length - k = (L.length - (k + 1)) + 1 by omega, List.replicate_succ, List.set_cons_zero, List.take_succ_eq_append_getElem h, List.append_assoc]
  have e2 : L.getD k 0 = L[k] := by rw [List.getD_eq_getElem?_getD, List.getElem?_eq_getElem h]; rfl
  rw [e2]; rfl
theorem map_set_u8 (l : List Int) (k : Nat) (x : Int) : (l.map (Value.int .u8)).set k (.int .u8 x) = (l.set k x).map (Value.int .u8) := by
  rw [List.map_set]
theorem part_set_own {w : World} {base : Nat} {e : TypeId} {g n cap k : Nat} {L : List Int} (hL : L.length = n) (hk : k < n)
    (h : w.ownsRow base e 1 (.slice (some ⟨g, 0, none⟩) n cap) n ((part L k).map (Value.int .u8))) :
    (w.setCell ⟨g, k, none⟩ (.int .u8 (L.getD k 0))).ownsRow base e 1 (.slice (some ⟨g, 0, none⟩) n cap) n ((part L (k + 1)).map (Value.int .u8)) := by
  have := (h.stored k (.int .u8 (L.getD k 0))).1
  rw [map_set_u8, part_set (by omega)] at this
  exact this
theorem replicate_cells (n : Nat) : (madeCells #[Value.int .u8 0] n).toList = (List.replicate n (0 : Int)).map (Value.int .u8) := by
  rw [toList_madeCells_one]; simp
theorem own_made {w : World} {e : TypeId} {n : Nat} (hm : n ≤ maxLen) :
    (w.alloc (.cells (madeCells #[Value.int .u8 0] n) e)).ownsRow w.heap.size e 1 (.slice (some ⟨w.heap.size, 0, none⟩) n n) n ((List.replicate n (0 : Int)).map (Value.int .u8)) := by
  have := World.ownsRow_lit (base := w.heap.size) (e := e) (size := 1) w (madeCells #[Value.int .u8 0] n) n (Nat.le_refl _) hm (by simp [size_madeCells])
  rw [replicate_cells] at this
  exact this
theorem splice_all {α : Type} (L cs : List α) : splice L 0 cs = cs ++ L.drop cs.length := by simp [splice]
end Go.Proofs.Ytmhknggjpggagaa
