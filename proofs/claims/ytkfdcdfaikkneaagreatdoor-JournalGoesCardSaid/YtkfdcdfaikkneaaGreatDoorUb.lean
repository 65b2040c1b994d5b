/- Media: bools and acts as arguments; the contracts of package medium, as propositions (MediumM). -/
import Derived.Test.YtkfdcdfaikkneaaGreatDoorUa
namespace Go.Proofs.YtkfdcdfaikkneaaGreatDoor
open Go.ChangeShapes Go.WideShapes Go.ChangeAt Go.RowKit Go.Shelf
set_option linter.unusedVariables false
set_option linter.unusedSimpArgs false
set_option maxRecDepth 100000

/-! ## arguments -/
/-- An argument that is bools. -/
def ArgB (w : World) (a : Option Addr) (n c : Nat) (l : List Bool) : Prop :=
  l.length = n ∧ n ≤ c ∧ c ≤ maxLen ∧ (a = none → c = 0) ∧ (0 < n → ∃ b off, a = some ⟨b, off, none⟩ ∧ b < w.heap.size ∧ ∀ i, i < n → w.cell? ⟨b, off + i, none⟩ = some (.bool (l.getD i false)))
theorem ArgB.nil (w : World) : ArgB w none 0 0 [] := ⟨rfl, Nat.le_refl _, Nat.zero_le _, fun _ => rfl, fun h => absurd h (by omega)⟩
theorem ArgB.kept {w w' : World} {a : Option Addr} {n c : Nat} {l : List Bool} (h : ArgB w a n c l) (hk : ∀ b o, 0 < n → a = some ⟨b, o, none⟩ → b < w.heap.size → w'.heap[b]? = w.heap[b]?) (hs : w.heap.size ≤ w'.heap.size) : ArgB w' a n c l := by
  obtain ⟨h1, h2, h3, h4, h5⟩ := h
  refine ⟨h1, h2, h3, h4, fun h0 => ?_⟩
  obtain ⟨b, off, e, hb, hc⟩ := h5 h0
  exact ⟨b, off, e, by omega, fun i hi => (World.cell?_of_block (w := w) (a := ⟨b, off + i, none⟩) (hk b off h0 e hb)).trans (hc i hi)⟩
theorem ArgB.on {w w' : World} {a : Option Addr} {n c : Nat} {l : List Bool} (h : ArgB w a n c l) (hb : Below w.heap.size w w') : ArgB w' a n c l := h.kept (fun b o _ _ hlt => hb.block b hlt) hb.size
theorem ArgB.bd {w : World} {a : Option Addr} {n c : Nat} {l : List Bool} (h : ArgB w a n c l) : n ≤ c ∧ c ≤ 9223372036854775807 := ⟨h.2.1, by have := h.2.2.1; unfold maxLen at this; omega⟩
theorem ArgB.low {w : World} {a : Option Addr} {n c b o : Nat} {l : List Bool} (h : ArgB w a n c l) (h0 : 0 < n) (e : a = some ⟨b, o, none⟩) : b < w.heap.size := by
  obtain ⟨b', off, e', hb, _⟩ := h.2.2.2.2 h0
  rw [e] at e'; cases e'; exact hb
def i64R (x : Int) : Prop := -9223372036854775808 ≤ x ∧ x ≤ 9223372036854775807
def acC (x : AC) : List Value := [.int .i64 x.kind, .int .i64 x.at_, .int .i64 x.x, .slice x.ka x.kn x.kc]
def acA (x : AC) : Value := .agg #[.int .i64 x.kind, .int .i64 x.at_, .int .i64 x.x, .slice x.ka x.kn x.kc]
/-- An act, as an argument by value. -/
def ActV (w : World) (x : AC) : Prop := i64R x.kind ∧ i64R x.at_ ∧ i64R x.x ∧ ArgB w x.ka x.kn x.kc x.keep
theorem ActV.on {w w' : World} {x : AC} (h : ActV w x) (hb : Below w.heap.size w w') : ActV w' x := ⟨h.1, h.2.1, h.2.2.1, h.2.2.2.on hb⟩
/-- Acts as an argument. -/
def ActA (w : World) (a : Option Addr) (n c : Nat) (l : List AC) : Prop :=
  l.length = n ∧ n ≤ c ∧ c ≤ maxLen ∧ (∀ x, x ∈ l → ActV w x) ∧ (0 < n → ∃ b off, a = some ⟨b, off, none⟩ ∧ b < w.heap.size ∧ ∀ i x, l[i]? = some x → w.rangeAt b (off + i * 4) (acC x))
theorem ActA.on {w w' : World} {a : Option Addr} {n c : Nat} {l : List AC} (h : ActA w a n c l) (hb : Below w.heap.size w w') : ActA w' a n c l := by
  obtain ⟨h1, h2, h3, h4, h5⟩ := h
  refine ⟨h1, h2, h3, fun x hx => (h4 x hx).on hb, fun h0 => ?_⟩
  obtain ⟨b, off, e, hlt, hc⟩ := h5 h0
  exact ⟨b, off, e, Nat.lt_of_lt_of_le hlt hb.size, fun i x hx j v hv => (hb.cell (p := ⟨b, off + i * 4 + j, none⟩) hlt).trans (hc i x hx j v hv)⟩

/-! ## package medium -/
def PO (P : World → Nat → (Nat → Prop) → Int → Nat → Prop) (w : World) (pp : Option Nat) (Fp : Nat → Prop) (l : Int) (u : Nat) : Prop :=
  match pp with
  | none => (∀ k, ¬ Fp k) ∧ l = -1 ∧ u = 0
  | some pb => P w pb Fp l u
abbrev ppV (pp : Option Nat) : Value := .pointer (pp.map fun b => ⟨b, 0, none⟩)
abbrev tbV (tb : Nat) : Value := .pointer (some ⟨tb, 0, none⟩)
/-- What is told lies in new memory; no byte of an argument lies in these blocks. -/
def NewA (w : World) (a : Option Addr) (n : Nat) : Prop := 0 < n → ∀ b o, a = some ⟨b, o, none⟩ → w.heap.size ≤ b
def Off (F : Nat → Prop) (a : Option Addr) (n : Nat) : Prop := 0 < n → ∀ b o, a = some ⟨b, o, none⟩ → ¬ F b
/-- The writes of a cache as they are told: a row of pairs. -/
def cwC : List CW → List (Option Addr × Nat) → List Value
  | x :: c, d :: ds => .int .i64 (x.1 : Nat) :: .slice d.1 512 d.2 :: cwC c ds
  | _, _ => []
end Go.Proofs.YtkfdcdfaikkneaaGreatDoor
