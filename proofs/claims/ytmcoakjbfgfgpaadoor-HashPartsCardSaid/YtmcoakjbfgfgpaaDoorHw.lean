/- Rows of words of 64 bits in memory. No program is named here. -/
import Derived.Test.YtmcoakjbfgfgpaaDoorApp
import Derived.Deep.OwnRows
import Derived.Deep.RegionHeld
namespace Go.Proofs.YtmcoakjbfgfgpaaDoor
open Go.RowKit
set_option linter.unusedVariables false

def v64 (l : List Nat) : List Value := l.map fun x => .int .u64 ((x : Nat) : Int)
theorem v64_len (l : List Nat) : (v64 l).length = l.length := by simp [v64]
theorem v64_append (l m : List Nat) : v64 (l ++ m) = v64 l ++ v64 m := by simp [v64]
theorem v64_get {l : List Nat} {i : Nat} (h : i < l.length) : (v64 l)[i]? = some (.int .u64 ((l.getD i 0 : Nat) : Int)) := by
  simp [v64, List.getD_eq_getElem?_getD, List.getElem?_eq_getElem h]
/-- A slice that reads as numbers. -/
def A64 (w : World) (a : Option Addr) (n c : Nat) (l : List Nat) : Prop := l.length = n ∧ n ≤ c ∧ c ≤ maxLen ∧
  (0 < n → ∃ b off, a = some ⟨b, off, none⟩ ∧ b < w.heap.size ∧ ∀ i, i < n → w.cell? ⟨b, off + i, none⟩ = some (.int .u64 ((l.getD i 0 : Nat) : Int)))
theorem A64.on {w w' : World} {a : Option Addr} {n c : Nat} {l : List Nat} (h : A64 w a n c l) (hb : Below w.heap.size w w') : A64 w' a n c l := by
  obtain ⟨h1, h2, h3, h4⟩ := h
  refine ⟨h1, h2, h3, fun h0 => ?_⟩
  obtain ⟨b, off, e, hlt, hc⟩ := h4 h0
  exact ⟨b, off, e, Nat.lt_of_lt_of_le hlt hb.size, fun i hi => (hb.cell (p := ⟨b, off + i, none⟩) hlt).trans (hc i hi)⟩
theorem A64.at_ {w : World} {a : Option Addr} {n c : Nat} {l : List Nat} (h : A64 w a n c l) {i : Nat} (hi : i < n) :
    ∃ b off, a = some ⟨b, off, none⟩ ∧ b < w.heap.size ∧ w.cell? ⟨b, off + i, none⟩ = some (.int .u64 ((l.getD i 0 : Nat) : Int)) := by
  obtain ⟨b, off, e, hlt, hc⟩ := h.2.2.2 (by omega)
  exact ⟨b, off, e, hlt, hc i hi⟩
theorem A64.other {w : World} {g off n c : Nat} {l : List Nat} (h : A64 w (some ⟨g, off, none⟩) n c l) (p : Addr) (v : Value) (hne : p.block ≠ g) : A64 (w.setCell p v) (some ⟨g, off, none⟩) n c l := by
  obtain ⟨h1, h2, h3, h4⟩ := h
  refine ⟨h1, h2, h3, fun h0 => ?_⟩
  obtain ⟨b, o, e, hlt, hc⟩ := h4 h0
  cases e
  exact ⟨_, _, rfl, by simpa using hlt, fun i hi => (World.cell?_setCell_far w p ⟨g, off + i, none⟩ v hne).trans (hc i hi)⟩
theorem own64 {w : World} {base : Nat} {e : TypeId} {a : Option Addr} {n c : Nat} {l : List Nat} (h : w.ownsRow base e 1 (.slice a n c) n (v64 l)) : A64 w a n c l := by
  have hl : l.length = n := by have := h.1; rw [v64_len] at this; omega
  rcases h.2 with ⟨hv, h0⟩ | ⟨g, cap, cur, hv, hg, hh, hn, hm, hsz, htk⟩
  · injection hv with e1 e2 e3
    subst e1 e2 e3
    exact ⟨hl, Nat.le_refl _, Nat.zero_le _, fun h => by omega⟩
  · injection hv with e1 e2 e3
    subst e1 e3
    refine ⟨hl, hn, hm, fun h0 => ⟨g, 0, rfl, (Array.getElem?_eq_some_iff.1 hh).1, fun i hi => ?_⟩⟩
    rw [Nat.zero_add, h.cellAt i (by omega), v64_get (by omega)]
theorem own_blockGe {w : World} {base : Nat} {e : TypeId} {v : Value} {n : Nat} {xs : List Value} (h : w.ownsRow base e 1 v n xs) : ∀ k, v.ownBlock = some k → base ≤ k := by
  intro k hk
  rcases h.2 with ⟨rfl, _⟩ | ⟨g, cap, cur, rfl, hg, _⟩
  · cases hk
  · have : some g = some k := hk
    injection this with this
    omega
theorem own_empty64 (w : World) (e : TypeId) : (w.alloc (.cells #[] e)).ownsRow w.heap.size e 1 (.slice (some ⟨w.heap.size, 0, none⟩) 0 0) 0 (v64 []) :=
  World.ownsRow_lit (base := w.heap.size) (e := e) (size := 1) w #[] 0 (Nat.le_refl _) (Nat.zero_le _) rfl
theorem own_one64 (w : World) (e : TypeId) (x : Nat) : (w.alloc (.cells #[.int .u64 ((x : Nat) : Int)] e)).ownsRow w.heap.size e 1 (.slice (some ⟨w.heap.size, 0, none⟩) 1 1) 1 (v64 [x]) :=
  World.ownsRow_lit (base := w.heap.size) (e := e) (size := 1) w #[.int .u64 ((x : Nat) : Int)] 1 (Nat.le_refl _) (by unfold maxLen; omega) rfl
theorem own_zeros64 {w : World} {e : TypeId} {n : Nat} (hm : n ≤ maxLen) :
    (w.alloc (.cells (madeCells #[Value.int .u64 0] n) e)).ownsRow w.heap.size e 1 (.slice (some ⟨w.heap.size, 0, none⟩) n n) n (v64 (List.replicate n 0)) := by
  have := World.ownsRow_lit (base := w.heap.size) (e := e) (size := 1) w (madeCells #[Value.int .u64 0] n) n (Nat.le_refl _) hm (by simp [size_madeCells])
  rw [toList_madeCells_one] at this
  simpa [v64] using this
/-- append of one number. -/
theorem wpList_append_one64 {P : Program} {w : World} {ops : Array Oper} {rest : List Oper} {o : Oper} {a : Act} {Q : Exit → Act → World → Prop} (hgd : o.guard = none) (s x : Operand) (t : TypeId)
    (ho : o.op = .call { callee := .builtin .append, args := #[s, x], argTypes := #[t, t] })
    (base : Nat) (e : TypeId) (i : TypeInfo) (ht : P.underlying t = some (.slice e)) (hi : P.info? e = some i) (hz : i.zero = some (.int .u64 0)) (hsize : i.size = 1) (hby : i.bytes = 8)
    (ad : Option Addr) (n c : Nat) (l : List Nat) (hs : a.eval s = .slice ad n c) (hown : w.ownsRow base e 1 (.slice ad n c) n (v64 l))
    (g : Nat) (d : Int) (y : Nat) (hy : d = ((y : Nat) : Int)) (hx : a.eval x = .slice (some ⟨g, 0, none⟩) 1 1) (hc : w.cell? ⟨g, 0, none⟩ = some (.int .u64 d)) (hn : n ≤ 1000000) (hbase : base ≤ w.heap.size)
    (h : ∀ g' c' w', w'.ownsRow base e 1 (.slice (some ⟨g', 0, none⟩) (n + 1) c') (n + 1) (v64 (l ++ [y])) → Below base w w' → wpList P ops Q rest (a.put o.dst (.slice (some ⟨g', 0, none⟩) (n + 1) c')) w') :
    wpList P ops Q (o :: rest) a w := by
  refine wpList_append_own w hgd s x t ho base e i (.int .u64 0) 1 8 ht hi hz hsize hby rfl (by decide) (.slice ad n c) n (v64 l) hs hown ⟨g, 0, none⟩ 1 1 (v64 [y]) hx rfl ?_ (fun u hu => by simp [v64] at hu; subst hu; rfl) (by unfold maxLen; omega) (by omega) hbase ?_
  · intro j u hj
    match j, hj with
    | 0, hj => simp [v64] at hj; subst hj; simp [Addr.add]; rw [hc, hy]
  · intro v' w' h1 h2 _
    obtain ⟨g', c', rfl⟩ : ∃ g' c', v' = .slice (some ⟨g', 0, none⟩) (n + 1) c' := by
      rcases h1.2 with ⟨_, h0⟩ | ⟨g', c', cur, hv, _⟩
      · omega
      · exact ⟨g', c', hv⟩
    rw [← v64_append] at h1
    exact h g' c' w' h1 ((Below.refl _ _).grown h2 hbase (own_blockGe hown))
end Go.Proofs.YtmcoakjbfgfgpaaDoor
