/- What package mend's functions answer: the contracts, as statements (each is to be proved of the program). -/
import Derived.Test.YtfmjfdbbjggcpaaRa
import Derived.Test.YtfmjfdbbjggcpaaQ3
namespace Go.Proofs.Ytfmjfdbbjggcpaa
open Go.ChangeShapes Go.WideShapes Go.ChangeAt Go.RowKit Go.Shelf GF
set_option linter.unusedVariables false

/-- Which error a column has ahead of being looked at. -/
noncomputable def colErr (X : List GF) (K : Nat) (t e : Int) : Int := if X.length ≠ K then 1 else if t < 1 ∨ 255 < t ∨ e < 0 then 2 else if (X.length : Int) < t then 5 else plErr X
theorem colErr_zero {X : List GF} {K : Nat} {t e : Int} : colErr X K t e = 0 ↔ X.length = K ∧ 1 ≤ t ∧ t ≤ 255 ∧ 0 ≤ e ∧ t ≤ X.length ∧ plErr X = 0 := by
  unfold colErr
  by_cases h1 : X.length ≠ K
  · rw [if_pos h1]; exact ⟨fun h => absurd h (by decide), fun h => absurd h.1 h1⟩
  · rw [if_neg h1]
    by_cases h2 : t < 1 ∨ 255 < t ∨ e < 0
    · rw [if_pos h2]; exact ⟨fun h => absurd h (by decide), fun h => by omega⟩
    · rw [if_neg h2]
      by_cases h3 : (X.length : Int) < t
      · rw [if_pos h3]; exact ⟨fun h => absurd h (by decide), fun h => by omega⟩
      · rw [if_neg h3]; exact ⟨fun h => ⟨by omega, by omega, by omega, by omega, by omega, h⟩, fun h => h.2.2.2.2.2⟩
def ColErrC : Prop := ∀ (b L K : Nat) (t e : Int) (aX : Option Addr) (cX : Nat) (X : List GF) (aY : Option Addr) (cY : Nat) (Y : List GF) (w : World),
  Fld w b → Pa w aX L cX X → Pa w aY K cY Y → (Lit.int .i64 t).wf = true → (Lit.int .i64 e).wf = true → L ≤ 300 → K ≤ 300 → colErr X K t e ≠ 0 →
  Calls Try.prog 7 #[.pointer (some ⟨b, 0, none⟩), .int .i64 t, .slice aX L cX, .slice aY K cY, .int .i64 e] w fun r w' => ∃ a' c', r = .returned (.tuple #[.slice a' 0 c', .int .i64 (colErr X K t e)]) ∧ Below w.heap.size w w'
def ColOkC : Prop := ∀ (b L t : Nat) (e : Int) (aX : Option Addr) (cX : Nat) (X : List GF) (aY : Option Addr) (cY : Nat) (Y p : List GF) (w : World),
  Fld w b → Pa w aX L cX X → Pa w aY L cY Y → (Lit.int .i64 e).wf = true → 0 ≤ e → 1 ≤ t → t ≤ L → L ≤ 100 → plErr X = 0 → RightP X Y t e.toNat p →
  Calls Try.prog 7 #[.pointer (some ⟨b, 0, none⟩), .int .i64 (t : Nat), .slice aX L cX, .slice aY L cY, .int .i64 e] w fun r w' => ∃ a' c', r = .returned (.tuple #[.slice a' p.length c', .int .i64 0]) ∧ Pa w' a' p.length c' p ∧ Below w.heap.size w w'
def ColNoC : Prop := ∀ (b L t : Nat) (e : Int) (aX : Option Addr) (cX : Nat) (X : List GF) (aY : Option Addr) (cY : Nat) (Y : List GF) (w : World),
  Fld w b → Pa w aX L cX X → Pa w aY L cY Y → (Lit.int .i64 e).wf = true → 0 ≤ e → 1 ≤ t → t ≤ L → L ≤ 100 → plErr X = 0 → (∀ p, ¬ RightP X Y t e.toNat p) →
  Calls Try.prog 7 #[.pointer (some ⟨b, 0, none⟩), .int .i64 (t : Nat), .slice aX L cX, .slice aY L cY, .int .i64 e] w fun r w' => ∃ a' c', r = .returned (.tuple #[.slice a' 0 c', .int .i64 11]) ∧ Below w.heap.size w w'
def ColAll : Prop := ColErrC ∧ ColOkC ∧ ColNoC
/-- Both at once: what Column answers of a column without an error ahead. -/
theorem col_both (h : ColAll) (b L t : Nat) (e : Int) (aX : Option Addr) (cX : Nat) (X : List GF) (aY : Option Addr) (cY : Nat) (Y : List GF) (w : World) (hf : Fld w b) (hX : Pa w aX L cX X) (hY : Pa w aY L cY Y) (he : (Lit.int .i64 e).wf = true) (he0 : 0 ≤ e) (ht : 1 ≤ t) (htL : t ≤ L) (hL : L ≤ 100) (hp : plErr X = 0) :
    Calls Try.prog 7 #[.pointer (some ⟨b, 0, none⟩), .int .i64 (t : Nat), .slice aX L cX, .slice aY L cY, .int .i64 e] w fun r w' => ∃ a' n' c' er, r = .returned (.tuple #[.slice a' n' c', .int .i64 er]) ∧
      ((er = 0 ∧ ∃ p, RightP X Y t e.toNat p ∧ n' = p.length ∧ Pa w' a' n' c' p) ∨ (er = 11 ∧ n' = 0 ∧ ∀ p, ¬ RightP X Y t e.toNat p)) ∧ Below w.heap.size w w' := by
  by_cases hr : ∃ p, RightP X Y t e.toNat p
  · obtain ⟨p, hr⟩ := hr
    refine (h.2.1 b L t e aX cX X aY cY Y p w hf hX hY he he0 ht htL hL hp hr).mono ?_
    rintro r w' ⟨a', c', h1, h2, h3⟩
    exact ⟨a', _, c', 0, h1, .inl ⟨rfl, p, hr, rfl, h2⟩, h3⟩
  · refine (h.2.2 b L t e aX cX X aY cY Y w hf hX hY he he0 ht htL hL hp (fun p hp => hr ⟨p, hp⟩)).mono ?_
    rintro r w' ⟨a', c', h1, h3⟩
    exact ⟨a', 0, c', 11, h1, .inr ⟨rfl, rfl, fun p hp => hr ⟨p, hp⟩⟩, h3⟩
end Go.Proofs.Ytfmjfdbbjggcpaa
