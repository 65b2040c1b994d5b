/- Contract of poly's Through (Newton's way). -/
import Derived.Test.YtmhknggjpggagaaPwt
import Derived.Deep.RegionHeld
import Derived.Deep.Cut
namespace Go.Proofs.Ytmhknggjpggagaa
open Go.ChangeShapes Go.WideShapes Go.ChangeAt Go.RowKit Go.Shelf GF
set_option linter.unusedVariables false
set_option maxRecDepth 100000

theorem ev_axp {P Q : List GF} {c : GF} (h : Q.length ≤ P.length) (x : GF) : ev (axp P 0 c Q) x = ev P x + c * ev Q x := by
  rw [← ev_smulL, ← ev_addL]
  apply ev_congr
  intro k
  rw [co_axp (by omega), if_pos (Nat.zero_le _), Nat.sub_zero, co_addL, co_smulL]
/-- Newton's, the first k places taken in. -/
def newt (X Y : List GF) : Nat → List GF
  | 0 => List.replicate X.length 0
  | k + 1 => axp (newt X Y k) 0 ((co Y k + ev (newt X Y k) (co X k)) * GF.inv (ev (vanA X k) (co X k))) (vanA X k)
theorem length_newt (X Y : List GF) (k : Nat) : (newt X Y k).length = X.length := by
  induction k with
  | zero => simp [newt]
  | succ k ih => simp only [newt]; rw [length_axp, ih]
theorem van_ne {X : List GF} (hA : Apart X) {k : Nat} (hk : k < X.length) : ev (vanA X k) (co X k) ≠ 0 := fun e => by
  obtain ⟨j, hj, he⟩ := (ev_vanA k (by omega)).1 e
  exact hA k j hk hj he.symm
theorem co_newt (X Y : List GF) : ∀ k, k ≤ X.length → ∀ j, k ≤ j → co (newt X Y k) j = 0 := by
  intro k
  induction k with
  | zero => intro _ j _; simp only [newt]; exact co_replicate _ _
  | succ k ih =>
    intro hk j hj
    simp only [newt]
    rw [co_axp (by rw [length_vanA, length_newt]; omega), ih (by omega) j (by omega), if_pos (Nat.zero_le _), Nat.sub_zero, (co_vanA X k).2 j (by omega), GF.mul_zero, GF.add_zero]
theorem ev_newt {X Y : List GF} (hA : Apart X) : ∀ k, k ≤ X.length → ∀ j, j < k → ev (newt X Y k) (co X j) = co Y j := by
  intro k
  induction k with
  | zero => intro _ j hj; omega
  | succ k ih =>
    intro hk j hj
    simp only [newt]
    rw [ev_axp (by rw [length_vanA, length_newt]; omega)]
    by_cases e : j = k
    · subst e
      rw [GF.mul_assoc, GF.inv_mul (van_ne hA (by omega)), GF.mul_one, GF.add_comm, GF.add_assoc, GF.add_self, GF.add_zero]
    · rw [(ev_vanA k (by omega)).2 ⟨j, by omega, rfl⟩, GF.mul_zero, GF.add_zero]
      exact ih (by omega) j (by omega)
theorem newt_lag {X Y : List GF} (hA : Apart X) : tr (newt X Y X.length) = lag X Y :=
  lag_uniq hA (fun k hk => co_newt X Y _ (Nat.le_refl _) k hk) (fun j hj => ev_newt hA _ (Nat.le_refl _) j hj)

theorem own_on {w w' : World} {base B : Nat} {e : TypeId} {g n c : Nat} {xs : List Value} (h : w.ownsRow base e 1 (.slice (some ⟨g, 0, none⟩) n c) n xs) (hb : Below B w w') (hg : g < B) : w'.ownsRow base e 1 (.slice (some ⟨g, 0, none⟩) n c) n xs := by
  refine ⟨h.1, ?_⟩
  rcases h.2 with h2 | ⟨g', cap, cur, h1, h2, h3, h4⟩
  · exact .inl h2
  · cases h1
    exact .inr ⟨g, _, cur, rfl, h2, (hb.block g hg).trans h3, h4⟩
theorem own_drew {w : World} {base : Nat} {e : TypeId} {v : Value} {n : Nat} {xs : List Value} (h : w.ownsRow base e 1 v n xs) : w.drew.ownsRow base e 1 v n xs := h

theorem pn_own {w : World} {base : Nat} {e : TypeId} {g gb n c : Nat} {P : List GF} (h : w.ownsRow base e 1 (.slice (some ⟨gb, 0, none⟩) n c) n ((iL P).map (Value.int .u8))) (hne : gb ≠ g) : Pn w g (some ⟨gb, 0, none⟩) P := fun h0 => by
  have hl : P.length = n := by have := h.1; simpa [iL] using this
  exact ⟨gb, 0, rfl, hne, fun i hi => by rw [own_cells h i (by omega), getD_iL]⟩

end Go.Proofs.Ytmhknggjpggagaa
