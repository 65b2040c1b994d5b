/- Plain facts on products of rows; small numbers; for the laws' walks. -/
import Derived.Test.YtpoaimcioeopdaaMinv
import Derived.Test.YtpoaimcioeopdaaMnam
namespace Go.Proofs.Ytpoaimcioeopdaa
open Go.ChangeShapes Go.WideShapes Go.ChangeAt Go.RowKit Go.Shelf GF
set_option linter.unusedVariables false
set_option linter.unusedSimpArgs false

theorem small_mod (n d : Int) (h1 : 1 ≤ d) (h2 : d ≤ 1000) : ∃ N : Nat, (N : Int) < d ∧ wrap64 ((IntKind.u64.wrap n).tmod d) = (N : Int) := by
  have h0 : 0 ≤ IntKind.u64.wrap n ∧ IntKind.u64.wrap n < 18446744073709551616 := by rw [IntKind.wrap_u64]; omega
  have e : (IntKind.u64.wrap n).tmod d = (IntKind.u64.wrap n) % d := Int.tmod_eq_emod_of_nonneg h0.1
  rw [e]
  have l1 := Int.emod_nonneg (IntKind.u64.wrap n) (show d ≠ 0 by omega)
  have l2 := Int.emod_lt_of_pos (IntKind.u64.wrap n) (show 0 < d by omega)
  obtain ⟨x, hx⟩ : ∃ x, x = IntKind.u64.wrap n % d := ⟨_, rfl⟩
  rw [← hx] at l1 l2 ⊢
  exact ⟨x.toNat, by omega, by unfold wrap64; omega⟩
theorem small_one (n d : Int) (h1 : 1 ≤ d) (h2 : d ≤ 1000) : ∃ N : Nat, (1 ≤ N ∧ (N : Int) ≤ d) ∧ wrap64 (1 + wrap64 ((IntKind.u64.wrap n).tmod d)) = (N : Int) := by
  obtain ⟨N, a, b⟩ := small_mod n d h1 h2
  refine ⟨N + 1, ⟨by omega, by omega⟩, ?_⟩
  rw [b]; unfold wrap64; omega
theorem ent_mulM {M O : List (List GF)} {n k m i c : Nat} (hl : M.length = n) (hw : Wide M k) (hi : i < n) (hc : c < m) : ent (mulM M O m n) i c = mmul k (ent M) (ent O) i c := by
  show co (rw_ (mulM M O m n) i) c = _
  rw [rw_mulM hi, co_mrow hc, hw i (by omega)]
  rfl
theorem co_timesL {M : List (List GF)} {V : List GF} {i : Nat} (h : i < M.length) : co (timesL M V) i = dt (rw_ M i).length (ent M i) (co V) := by
  unfold timesL
  simp only [co, List.getD_eq_getElem?_getD, List.getElem?_map, List.getElem?_eq_getElem h, Option.map_some, Option.getD_some]
  have : M[i] = rw_ M i := by unfold rw_; simp [List.getD_eq_getElem?_getD, List.getElem?_eq_getElem h]
  rw [this]
  rfl
theorem times_mul {M O : List (List GF)} {n k m : Nat} (V : List GF) (hl : M.length = n) (hw : Wide M k) (hl2 : O.length = k) (hw2 : Wide O m) : timesL (mulM M O m n) V = timesL M (timesL O V) := by
  apply List.ext_getElem (by rw [length_timesL, length_timesL, length_mulM, hl])
  intro i h1 h2
  have hi : i < n := by rw [length_timesL, length_mulM] at h1; exact h1
  have e1 : (timesL (mulM M O m n) V)[i] = co (timesL (mulM M O m n) V) i := (co_lt h1).symm
  have e2 : (timesL M (timesL O V))[i] = co (timesL M (timesL O V)) i := (co_lt h2).symm
  rw [e1, e2, co_timesL (by rw [length_mulM]; exact hi), co_timesL (by omega), rw_mulM hi, length_mrow, hw i (by omega)]
  have h3 : dt m (ent (mulM M O m n) i) (co V) = dt m (mmul k (ent M) (ent O) i) (co V) := dt_congr fun c hc => by rw [ent_mulM hl hw hi hc]
  rw [h3, dt_mmul]
  exact dt_congr fun j hj => by rw [co_timesL (by omega), hw2 j (by omega)]
theorem rk_mul_le {M O : List (List GF)} {n k m r s t : Nat} {N N2 N3 : Nat → Nat → GF} {p p2 p3 : Nat → Nat} (hl : M.length = n) (hw : Wide M k) (h1 : Red n k N r p) (k1 : KerEq n k (ent M) N) (h2 : Red k m N2 s p2) (k2 : KerEq k m (ent O) N2) (h3 : Red n m N3 t p3) (k3 : KerEq n m (ent (mulM M O m n)) N3) : t ≤ r ∧ t ≤ s := by
  have hP : Rk n m (mmul k (ent M) (ent O)) t := ((KerEq.of_congr fun i hi c hc => (ent_mulM hl hw hi hc).symm).trans k3).rk h3.rk
  exact ⟨rk_mmul_left k1 h1 hP, rk_mmul_right (k2.rk h2.rk) hP⟩
end Go.Proofs.Ytpoaimcioeopdaa
