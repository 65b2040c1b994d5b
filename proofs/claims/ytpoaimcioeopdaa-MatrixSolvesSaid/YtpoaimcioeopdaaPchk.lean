/- Contract of poly's checked: the places that are the same are seen by a map. -/
import Derived.Test.YtpoaimcioeopdaaPvan
import Derived.Maps.OwnOps
import Derived.Maps.OwnSet
namespace Go.Proofs.Ytpoaimcioeopdaa
open Go.ChangeShapes Go.WideShapes Go.ChangeAt Go.RowKit Go.Shelf GF Go.Maps
set_option linter.unusedVariables false
set_option maxRecDepth 100000

/-- The first k are no two the same. -/
def ApTo (X : List GF) (k : Nat) : Prop := ∀ i j, i < k → j < i → co X i ≠ co X j
theorem apTo_all (X : List GF) : ApTo X X.length ↔ Apart X := Iff.rfl
open Classical in
/-- What is wrong with places. -/
noncomputable def plErr (X : List GF) : Int := if X.length = 0 then 5 else if 255 < X.length then 4 else if Apart X then 0 else 6
theorem plErr_zero {X : List GF} : plErr X = 0 ↔ 0 < X.length ∧ X.length ≤ 255 ∧ Apart X := by
  unfold plErr
  by_cases h0 : X.length = 0
  · rw [if_pos h0]; exact ⟨fun h => absurd h (by decide), fun h => absurd h0 (by omega)⟩
  · rw [if_neg h0]
    by_cases h1 : 255 < X.length
    · rw [if_pos h1]; exact ⟨fun h => absurd h (by decide), fun h => absurd h1 (by omega)⟩
    · rw [if_neg h1]
      by_cases h2 : Apart X
      · rw [if_pos h2]; exact ⟨fun _ => ⟨by omega, by omega, h2⟩, fun _ => rfl⟩
      · rw [if_neg h2]; exact ⟨fun h => absurd h (by decide), fun h => absurd h.2.2 h2⟩
abbrev keyG (y : GF) : Lit := .int .u8 (toI y)
theorem keyG_wf (y : GF) : (keyG y).wf = true := by
  have := toI_bd y
  simp only [Lit.wf, IntKind.min, IntKind.max, IntKind.signed, IntKind.bits, Bool.and_eq_true]
  simp
  omega
theorem keyG_ne {x y : GF} (h : x ≠ y) : keyG x ≠ keyG y := fun e => by injection e with _ e; exact h (toI_inj e)
def SeenTo (X : List GF) (k : Nat) (D : DataW Unit) : Prop :=
  (∀ y, has D (keyG y) = true ↔ ∃ j, j < k ∧ co X j = y) ∧ size D ≤ k ∧ (size D = k ↔ ApTo X k)
theorem SeenTo.zero (X : List GF) : SeenTo X 0 (.map []) :=
  ⟨fun y => ⟨fun h => by simp [has_eq] at h, fun ⟨j, hj, _⟩ => by omega⟩, Nat.le_refl _, ⟨fun _ i j hi _ => by omega, fun _ => rfl⟩⟩
theorem SeenTo.next {X : List GF} {k : Nat} {D : DataW Unit} (h : SeenTo X k D) (hT : Tidy D) (d : DataW Unit) : SeenTo X (k + 1) (D.put (keyG (co X k)) d) := by
  obtain ⟨h1, h2, h3⟩ := h
  refine ⟨fun y => ?_, ?_, ?_⟩
  · by_cases e : y = co X k
    · subst e
      rw [has_put_same hT.isMap (by trivial) d]
      exact ⟨fun _ => ⟨k, by omega, rfl⟩, fun _ => rfl⟩
    · rw [has_put_other (keyG_ne e) d, h1]
      exact ⟨fun ⟨j, hj, he⟩ => ⟨j, by omega, he⟩, fun ⟨j, hj, he⟩ => ⟨j, by rcases Nat.lt_succ_iff_lt_or_eq.1 hj with h | h; exact h; subst h; exact absurd he.symm e, he⟩⟩
  · rw [size_put hT d]; split <;> omega
  · rw [size_put hT d]
    by_cases hh : has D (keyG (co X k)) = true
    · rw [if_pos hh]
      obtain ⟨j, hj, he⟩ := (h1 _).1 hh
      exact ⟨fun e => by omega, fun ha => absurd he.symm (ha k j (by omega) hj)⟩
    · rw [if_neg hh]
      constructor
      · intro e i j hi hj
        rcases Nat.lt_succ_iff_lt_or_eq.1 hi with hi | hi
        · exact (h3.1 (by omega)) i j hi hj
        · subst hi
          exact fun he => hh ((h1 _).2 ⟨j, hj, he.symm⟩)
      · intro ha
        have := h3.2 (fun i j hi hj => ha i j (by omega) hj)
        omega

theorem lawU : Keyed Try.prog 5 := int_keyed Try.underlying5
theorem zeroI (w : World) : (zeroValue 3).run Try.prog w = .ok (.int .i64 0) w := by kernel_rfl

end Go.Proofs.Ytpoaimcioeopdaa
