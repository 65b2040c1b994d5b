/- Contracts of poly's trimmed, Trim, Eval, and of slices.Clone. -/
import Derived.Test.YtmhknggjpggagaaPdeg
namespace Go.Proofs.Ytmhknggjpggagaa
open Go.ChangeShapes Go.WideShapes Go.ChangeAt Go.RowKit Go.Shelf GF
set_option linter.unusedVariables false
set_option maxRecDepth 100000
attribute [local go_sem] Oper.semAt_some

theorem tr_take (l : List GF) : l.take (tr l).length = tr l := by
  have h := tr_len_le l
  apply ext_co (by simp; omega)
  intro k hk
  rw [co_tr, co_take (by simp at hk; omega)]
theorem iL_take (l : List GF) (n : Nat) : iL (l.take n) = (iL l).take n := by simp [iL, List.map_take]
theorem Arg8.len {w : World} {a : Option Addr} {L cap : Nat} {P : List GF} (h : Arg8 w a L cap (iL P)) : P.length = L := by have := h.1; rwa [length_iL] at this
theorem Arg8.trim {w : World} {a : Option Addr} {L cap : Nat} {P : List GF} (h : Arg8 w a L cap (iL P)) : Arg8 w a (tr P).length cap (iL (tr P)) := by
  have hl := tr_len_le P
  have := h.len
  refine ⟨length_iL _, allB_iL _, ?_, by have := h.2.2.2.1; omega, h.2.2.2.2⟩
  have := h.2.2.1.take (tr P).length
  rwa [← iL_take, tr_take] at this

theorem own_base {w : World} {base base' : Nat} {e : TypeId} {v : Value} {n : Nat} {xs : List Value} (h : w.ownsRow base e 1 v n xs) (hb : base' ≤ base) : w.ownsRow base' e 1 v n xs := by
  refine ⟨h.1, ?_⟩
  rcases h.2 with h2 | ⟨g, cap, cur, h1, h2, h3⟩
  · exact .inl h2
  · exact .inr ⟨g, cap, cur, h1, Nat.le_trans hb h2, h3⟩
/-- An argument that is a polynomial. -/
def Pa (w : World) (a : Option Addr) (len cap : Nat) (P : List GF) : Prop := Arg8c w a len cap (iL P)
theorem Pa.len {w : World} {a : Option Addr} {L cap : Nat} {P : List GF} (h : Pa w a L cap P) : P.length = L := h.1.len
theorem Pa.on {W w : World} {a : Option Addr} {n c : Nat} {P : List GF} (h : Pa W a n c P) (hb : Below W.heap.size W w) : Pa w a n c P := ⟨h.1.on hb, h.2⟩
theorem Pa.trim {w : World} {a : Option Addr} {L cap : Nat} {P : List GF} (h : Pa w a L cap P) : Pa w a (tr P).length cap (tr P) := ⟨h.1.trim, h.2⟩
theorem Pa.of {w : World} {a : Option Addr} {L cap : Nat} {l : List Int} (h : Arg8c w a L cap l) : Pa w a L cap (gL l) := by unfold Pa; rw [iL_gL h.1.2.1]; exact h
/-- A row of one's own, as an argument. -/
theorem Pa.own {w : World} {base : Nat} {e : TypeId} {v : Value} {n : Nat} {P : List GF} (h : w.ownsRow base e 1 v n ((iL P).map (Value.int .u8))) : ∃ a c, v = .slice a n c ∧ Pa w a n c P ∧ (∀ b off, a = some ⟨b, off, none⟩ → base ≤ b ∧ off = 0) := by
  obtain ⟨a, c, rfl, hb, hl, h1, h2, h3⟩ := own_form h
  refine ⟨a, c, rfl, ⟨⟨hl, allB_iL P, hb, h1, h2⟩, h3⟩, fun b off e => ?_⟩
  rcases h.2 with ⟨h4, _⟩ | ⟨g, cap, cur, hv, hg, _⟩
  · cases h4; cases e
  · cases hv; cases e; exact ⟨hg, rfl⟩

set_option maxRecDepth 100000 in
theorem eql_nil (w : World) : (binOp .eql 22 (.slice none 0 0) (.slice none 0 0)).run Try.prog w = .ok (.bool true) w := rfl
set_option maxRecDepth 100000 in
theorem eql_some (w : World) (ad : Addr) (n c : Nat) : (binOp .eql 22 (.slice (some ad) n c) (.slice none 0 0)).run Try.prog w = .ok (.bool false) w := rfl
end Go.Proofs.Ytmhknggjpggagaa
