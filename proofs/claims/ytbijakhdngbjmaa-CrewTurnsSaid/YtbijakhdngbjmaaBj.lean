/- Plain words on rows and arguments of bytes: cut, kept where their blocks are; slices.Clone at bytes. -/
import Derived.Test.YtbijakhdngbjmaaBa
import Derived.Test.YtbijakhdngbjmaaBlk
namespace Go.Proofs.Ytbijakhdngbjmaa
open Go.ChangeShapes Go.WideShapes Go.ChangeAt Go.RowKit Go.Shelf
set_option linter.unusedVariables false
set_option linter.unusedSimpArgs false
set_option maxRecDepth 100000
attribute [local go_sem] Oper.semAt_some

/-! ## plain -/
theorem KB.monoF {F G : Nat → Prop} {w w' : World} (h : KB F w w') (k : ∀ j, F j → G j) : KB G w w' := ⟨h.1, fun j hj hf => h.2 j hj (fun e => hf (k j e))⟩
def cutT (a : Option Addr) (c k : Nat) : Option Addr := if c = k then a else a.map (·.add k)
theorem Arg8c.cut8 {w : World} {a : Option Addr} {m c : Nat} {l : List Int} (h : Arg8c w a m c l) {k : Nat} (hk : k ≤ m) : Arg8c w (cutT a c k) (m - k) (c - k) (l.drop k) := by
  obtain ⟨⟨h1, h2, h3, h4, h5⟩, h6⟩ := h
  refine ⟨⟨by rw [List.length_drop, h1], fun x hx => h2 x (List.mem_of_mem_drop hx), ?_, by omega, by omega⟩, fun e => ?_⟩
  · intro h0
    rw [List.length_drop] at h0
    obtain ⟨b, off, e, hb, hc⟩ := h3 (by omega)
    refine ⟨b, off + k, ?_, hb, fun i hi => ?_⟩
    · unfold cutT; rw [if_neg (by omega), e]; exact congrArg some (Addr.add_lit _ _ _)
    · rw [List.length_drop] at hi
      have := hc (k + i) (by omega)
      rw [show off + k + i = off + (k + i) by omega, this]
      simp [List.getD_eq_getElem?_getD, List.getElem?_drop]
  · unfold cutT at e
    by_cases hc : c = k
    · omega
    · rw [if_neg hc] at e
      rcases a with _ | ad
      · have := h6 rfl; omega
      · cases e
theorem cutT_block {c k b o b0 o0 : Nat} (h : cutT (some ⟨b0, o0, none⟩) c k = some ⟨b, o, none⟩) : b = b0 := by
  unfold cutT at h
  by_cases hc : c = k
  · rw [if_pos hc] at h; cases h; rfl
  · rw [if_neg hc, Option.map_some, Addr.add_lit] at h; cases h; rfl
theorem Arg8c.takeT {w : World} {a : Option Addr} {m c : Nat} {l : List Int} (h : Arg8c w a m c l) {k : Nat} (hk : k ≤ m) : Arg8c w a k c (l.take k) := by
  obtain ⟨⟨h1, h2, h3, h4, h5⟩, h6⟩ := h
  exact ⟨⟨by rw [List.length_take, h1]; omega, fun x hx => h2 x (List.mem_of_mem_take hx), h3.take k, by omega, h5⟩, h6⟩
theorem own_lt {w : World} {base s n g : Nat} {e : TypeId} {v : Value} {xs : List Value} (h : w.ownsRow base e s v n xs) (hv : v.ownBlock = some g) : base ≤ g ∧ g < w.heap.size := by
  rcases h.2 with ⟨rfl, _⟩ | ⟨g', cap, cur, rfl, hb, hg, _⟩
  · cases hv
  · cases hv
    refine ⟨hb, ?_⟩
    rcases Nat.lt_or_ge g' w.heap.size with hlt | hge
    · exact hlt
    · rw [Array.getElem?_eq_none hge] at hg; cases hg
theorem own_blockT {w w' : World} {base s n : Nat} {e : TypeId} {v : Value} {xs : List Value} (h : w.ownsRow base e s v n xs) (hk : ∀ g, v.ownBlock = some g → w'.heap[g]? = w.heap[g]?) : w'.ownsRow base e s v n xs := by
  obtain ⟨h1, h2⟩ := h
  refine ⟨h1, ?_⟩
  rcases h2 with h2 | ⟨g, cap, cur, rfl, h3, h4, h5⟩
  · exact .inl h2
  · exact .inr ⟨g, cap, cur, rfl, h3, (hk g rfl).trans h4, h5⟩
theorem own_belowU {w w' : World} {base s n : Nat} {e : TypeId} {v : Value} {xs : List Value} (h : w.ownsRow base e s v n xs) (hb : Below w.heap.size w w') : w'.ownsRow base e s v n xs := own_blockT h fun g e => hb.block g (own_lt h e).2
theorem own_low {w : World} {base base' s n : Nat} {e : TypeId} {v : Value} {xs : List Value} (h : w.ownsRow base e s v n xs) (hb : base' ≤ base) : w.ownsRow base' e s v n xs := by
  refine ⟨h.1, ?_⟩
  rcases h.2 with h2 | ⟨g, cap, cur, h1, h2, h3⟩
  · exact .inl h2
  · exact .inr ⟨g, cap, cur, h1, Nat.le_trans hb h2, h3⟩
theorem Arg8c.blockT {w w' : World} {a : Option Addr} {m c : Nat} {l : List Int} (h : Arg8c w a m c l) (hk : 0 < m → ∀ b o, a = some ⟨b, o, none⟩ → w'.heap[b]? = w.heap[b]?) : Arg8c w' a m c l := by
  obtain ⟨⟨h1, h2, h3, h4, h5⟩, h6⟩ := h
  refine ⟨⟨h1, h2, fun h0 => ?_, h4, h5⟩, h6⟩
  obtain ⟨b, off, e, hb, hc⟩ := h3 h0
  have hkb := hk (by omega) b off e
  refine ⟨b, off, e, ?_, fun i hi => (World.cell?_of_block (w := w) (a := ⟨b, off + i, none⟩) hkb).trans (hc i hi)⟩
  rcases Nat.lt_or_ge b w'.heap.size with h7 | h7
  · exact h7
  · rw [Array.getElem?_eq_none h7, Array.getElem?_eq_getElem hb] at hkb; cases hkb
/-! ## slices.Clone -/
theorem eqlT_nil (w : World) : (binOp .eql 24 (.slice none 0 0) (.slice none 0 0)).run Try.prog w = .ok (.bool true) w := rfl
theorem eqlT_some (w : World) (ad : Addr) (n c : Nat) : (binOp .eql 24 (.slice (some ad) n c) (.slice none 0 0)).run Try.prog w = .ok (.bool false) w := rfl
end Go.Proofs.Ytbijakhdngbjmaa
