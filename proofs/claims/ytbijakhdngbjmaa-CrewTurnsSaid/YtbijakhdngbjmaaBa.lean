/- Tapes: plain words; the contracts of package tape, as propositions (TapeM). -/
import Derived.Test.YtbijakhdngbjmaaLa
namespace Go.Proofs.Ytbijakhdngbjmaa
open Go.ChangeShapes Go.WideShapes Go.ChangeAt Go.RowKit Go.Shelf
set_option linter.unusedVariables false
set_option linter.unusedSimpArgs false
set_option maxRecDepth 100000

/-- What was taken: the note, from where on, how many. -/
abbrev TK := ByteArray × Nat × Nat
def tkV (x : TK) : List Value := [.string x.1, .int .i64 (x.2.1 : Nat), .int .i64 (x.2.2 : Nat)]
def tkC : List TK → List Value
  | [] => []
  | x :: r => tkV x ++ tkC r
theorem tkC_append (a b : List TK) : tkC (a ++ b) = tkC a ++ tkC b := by
  induction a with
  | nil => rfl
  | cons x r ih => rw [List.cons_append, tkC, ih, tkC, List.append_assoc]
theorem tkC_len (l : List TK) : (tkC l).length = l.length * 3 := by
  induction l with
  | nil => rfl
  | cons x r ih => rw [tkC, List.length_append, ih, List.length_cons]; show 3 + r.length * 3 = _; omega
theorem tkC_one (x : TK) : tkC [x] = tkV x := by simp [tkC]
/-- All blocks but some stay. -/
def KB (F : Nat → Prop) (w w' : World) : Prop := Below 0 w w' ∧ ∀ k, k < w.heap.size → ¬ F k → w'.heap[k]? = w.heap[k]?
theorem KB.of_below {F : Nat → Prop} {w w' : World} (h : Below w.heap.size w w') : KB F w w' := ⟨h.mono (Nat.zero_le _), fun k hk _ => h.block k hk⟩
theorem KB.below {F : Nat → Prop} {w w' : World} {B : Nat} (h : KB F w w') (hF : ∀ k, F k → B ≤ k) (hB : B ≤ w.heap.size) : Below B w w' :=
  ⟨h.1.os, h.1.tape, h.1.output, h.1.size, fun k hk => h.2 k (by omega) (fun hf => by have := hF k hf; omega)⟩
theorem KB.trans {F : Nat → Prop} {w w1 w2 : World} (h : KB F w w1) (k : KB F w1 w2) : KB F w w2 :=
  ⟨h.1.trans k.1, fun j hj hf => (k.2 j (by have := h.1.size; omega) hf).trans (h.2 j hj hf)⟩
theorem KB.refl (F : Nat → Prop) (w : World) : KB F w w := ⟨Below.refl _ _, fun _ _ _ => rfl⟩
theorem KB.cell {F : Nat → Prop} {w w' : World} (h : KB F w w') {p : Addr} (hp : p.block < w.heap.size) (hf : ¬ F p.block) : w'.cell? p = w.cell? p := World.cell?_of_block (w := w) (h.2 p.block hp hf)
theorem KB.arg8 {F : Nat → Prop} {w w' : World} (h : KB F w w') {a : Option Addr} {n c : Nat} {l : List Int} (hx : Arg8 w a n c l) (hf : ∀ b o, a = some ⟨b, o, none⟩ → ¬ F b) : Arg8 w' a n c l := by
  obtain ⟨h1, h2, h3, h4, h5⟩ := hx
  refine ⟨h1, h2, fun h0 => ?_, h4, h5⟩
  obtain ⟨b, off, e, hb, hc⟩ := h3 h0
  exact ⟨b, off, e, Nat.lt_of_lt_of_le hb h.1.size, fun i hi => (h.cell (p := ⟨b, off + i, none⟩) hb (hf b off e)).trans (hc i hi)⟩
theorem KB.own {F : Nat → Prop} {w w' : World} (h : KB F w w') {base size n : Nat} {e : TypeId} {v : Value} {xs : List Value} (ho : w.ownsRow base e size v n xs) (hf : ∀ g, v.ownBlock = some g → ¬ F g) : w'.ownsRow base e size v n xs := by
  obtain ⟨h1, h2⟩ := ho
  refine ⟨h1, ?_⟩
  rcases h2 with h2 | ⟨g, cap, cur, rfl, h3, h4, h5⟩
  · exact .inl h2
  · have hg : g < w.heap.size := by
      rcases Nat.lt_or_ge g w.heap.size with h6 | h6
      · exact h6
      · rw [Array.getElem?_eq_none h6] at h4; cases h4
    exact .inr ⟨g, cap, cur, rfl, h3, (h.2 g hg (hf g rfl)).trans h4, h5⟩
theorem KB.of_grown {w w' : World} {r : Option Nat} (h : w.grownBy w' r) : KB (fun k => r = some k) w w' :=
  ⟨⟨h.os, h.tape, h.output, h.size, fun k hk => absurd hk (Nat.not_lt_zero _)⟩, fun k hk hf => h.block k hk (fun e => hf e.symm)⟩
theorem KB.of_set (w : World) (g k : Nat) (v : Value) : KB (fun j => j = g) w (w.setCell ⟨g, k, none⟩ v) :=
  ⟨(Below.refl _ _).setCell (Nat.zero_le _) _, fun j hj hf => Below.heap_setCell w ⟨g, k, none⟩ v j hf⟩
theorem own_form3 {w : World} {base n : Nat} {e : TypeId} {v : Value} {xs : List Value} (h : w.ownsRow base e 3 v n xs) : ∃ a c, v = .slice a n c := by
  rcases h.2 with ⟨rfl, rfl⟩ | ⟨g, cap, cur, rfl, _⟩
  · exact ⟨none, 0, rfl⟩
  · exact ⟨_, _, rfl⟩
theorem own_any {w : World} {base g n c : Nat} {e : TypeId} {l : List Int} (h : w.ownsRow base e 1 (.slice (some ⟨g, 0, none⟩) n c) n (l.map (Value.int .u8))) (hA : AllB l) : Arg8c w (some ⟨g, 0, none⟩) n c l := by
  obtain ⟨a', c', e1, hb, hl, h1, h2, h3⟩ := own_form h
  cases e1
  exact ⟨⟨hl, hA, hb, h1, h2⟩, fun e => by cases e⟩
theorem Arg8.strL {w : World} {a : Option Addr} {n c : Nat} {l : List Int} (h : Arg8 w a n c l) : ∀ U, Below w.heap.size w U → (convert 24 9 (.slice a n c)).run Try.prog U = .ok (.string (strOfNums l)) U := fun U hU =>
  (h.2.2.1.below hU).str h.1 Try.underlying24 Try.underlying5 Try.underlying9
end Go.Proofs.Ytbijakhdngbjmaa
