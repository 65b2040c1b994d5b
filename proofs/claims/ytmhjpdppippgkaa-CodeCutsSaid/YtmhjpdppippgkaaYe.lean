/- Contracts of code's PartSize, Cut, Glue. -/
import Derived.Test.YtmhjpdppippgkaaYd
import Derived.Test.YtmhjpdppippgkaaCd
namespace Go.Proofs.Ytmhjpdppippgkaa
open Go.ChangeShapes Go.WideShapes Go.ChangeAt Go.RowKit Go.Shelf GF
set_option linter.unusedVariables false
set_option linter.unusedSimpArgs false
set_option maxRecDepth 100000

theorem ceil_parts {L t : Nat} (ht : 1 ≤ t) : ceil L t = L / t + (if 1 < L % t then 1 else L % t) := by
  have h1 := Nat.div_add_mod L t
  have h2 := Nat.mod_lt L (show 0 < t by omega)
  generalize L / t = Q at *
  generalize L % t = M at *
  unfold ceil
  by_cases h0 : M = 0
  · subst h0
    rw [if_neg (by omega)]
    rw [← h1, Nat.add_zero, show t * Q + t - 1 = t * Q + (t - 1) by omega, Nat.mul_add_div (by omega), Nat.div_eq_of_lt (by omega)]
  · have e : (if 1 < M then 1 else M) = 1 := by split <;> omega
    rw [e, ← h1, show t * Q + M + t - 1 = t * (Q + 1) + (M - 1) by rw [Nat.mul_add, Nat.mul_one]; omega, Nat.mul_add_div (by omega), Nat.div_eq_of_lt (by omega)]
set_option maxHeartbeats 1000000 in
theorem partC : PartC := by
  intro L t w ht ht2 hL
  have HP := Lib.hid (can_yes (t : Int) w (by omega) (by omega))
  have HE := Lib.hid (ceil_parts (L := L) ht)
  have e1 : (L : Int).tdiv (t : Int) = ((L / t : Nat) : Int) := by rw [Int.tdiv_eq_ediv_of_nonneg (by omega)]; rfl
  have e2 : (L : Int).tmod (t : Int) = ((L % t : Nat) : Int) := by rw [Int.tmod_eq_emod_of_nonneg (by omega)]; rfl
  have e3 : (L : Int) / (t : Int) = ((L / t : Nat) : Int) := rfl
  have e4 : (L : Int) % (t : Int) = ((L % t : Nat) : Int) := rfl
  have hq : L / t ≤ L := Nat.div_le_self _ _
  have hm : L % t < t := Nat.mod_lt _ (by omega)
  obtain ⟨Q, hQ⟩ : ∃ Q, Q = L / t := ⟨_, rfl⟩
  obtain ⟨M, hM⟩ : ∃ M, M = L % t := ⟨_, rfl⟩
  rw [← hQ] at e1 e3 hq HE
  rw [← hM] at e2 e4 hm HE
  clear hQ hM
  have k1 : (L : Int) ≤ 1000 := by omega
  have k2 : (t : Int) ≤ 255 := by omega
  have k3 : (Q : Int) ≤ 1000 := by omega
  have k4 : (M : Int) ≤ 255 := by omega
  have k5 : ((t : Int) == 0) = false := by rw [beq_eq_false_iff_ne]; omega
  have k6 : ¬ (t : Int) = 0 := by omega
  have k7 : ¬ t = 0 := by omega
  by_cases h : 1 < M
  · have k8 : (1 : Int) < (M : Int) := by omega
    rw [if_pos h] at HE
    clear h ht ht2 hL hq hm
    go_enter Try.func17, Try.ntmps17
    go_upto_region 3 with (go_at_call 24; refine HP.out.mono ?_; rintro e w' ⟨rfl, rfl⟩)
    go_quiet (fail)
    go_wp2
    go_ret
    exact ⟨by rw [HE.out]; rfl, _, rfl⟩
  · have k8 : ¬ (1 : Int) < (M : Int) := by omega
    rw [if_neg h] at HE
    clear h ht ht2 hL hq hm
    go_enter Try.func17, Try.ntmps17
    go_upto_region 3 with (go_at_call 24; refine HP.out.mono ?_; rintro e w' ⟨rfl, rfl⟩)
    go_quiet (fail)
    go_wp2
    go_ret
    exact ⟨by rw [HE.out]; rfl, _, rfl⟩
theorem partBadC : PartBadC := by
  intro L t w _ ht hL
  have HP := Lib.hid (can_no t w ht)
  clear ht
  go_enter Try.func17, Try.ntmps17
  go_wp2_with (go_at_call 24; refine HP.out.mono ?_; rintro e w' ⟨rfl, rfl⟩)
  go_ret
  exact ⟨rfl, 0, rfl⟩
theorem cutBadC : CutBadC := by
  intro L t aB cB B w hB _ ht hL
  have HP := Lib.hid (can_no t w ht)
  have hbd := hB.bd
  clear ht hB
  go_enter Try.func16, Try.ntmps16
  go_wp2_with (go_at_call 24; refine HP.out.mono ?_; rintro e w' ⟨rfl, rfl⟩)
  go_ret2
  exact ⟨_, _, rfl, Below.refl _ _⟩
end Go.Proofs.Ytmhjpdppippgkaa
