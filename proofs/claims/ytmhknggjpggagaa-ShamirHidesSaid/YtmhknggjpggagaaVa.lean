/- Contracts of shamir's possible, maskSize, MaskSize; of slices.Contains for 0; of checked. -/
import Derived.Test.YtmhknggjpggagaaSh
namespace Go.Proofs.Ytmhknggjpggagaa
open Go.ChangeShapes Go.WideShapes Go.ChangeAt Go.RowKit Go.Shelf GF
set_option linter.unusedVariables false
set_option linter.unusedSimpArgs false
set_option maxRecDepth 100000

theorem possible_yes (t s : Int) (w : World) (h1 : 1 ≤ t) (h2 : t ≤ 255) (h3 : 0 ≤ s) :
    Calls Try.prog 45 #[.int .i64 t, .int .i64 s] w fun e w' => e = .returned (.bool true) ∧ w = w' := by
  go_enter Try.func45, Try.ntmps45
  go_wp2
  go_ret
  exact ⟨rfl, rfl⟩
theorem possible_no (t s : Int) (w : World) (h : t < 1 ∨ 255 < t ∨ s < 0) :
    Calls Try.prog 45 #[.int .i64 t, .int .i64 s] w fun e w' => e = .returned (.bool false) ∧ w = w' := by
  by_cases h1 : 1 ≤ t
  · by_cases h2 : t ≤ 255
    · have h3 : ¬ 0 ≤ s := by omega
      clear h
      go_enter Try.func45, Try.ntmps45
      go_wp2
      go_ret
      exact ⟨rfl, rfl⟩
    · clear h
      go_enter Try.func45, Try.ntmps45
      go_wp2
      go_ret
      exact ⟨rfl, rfl⟩
  · clear h
    go_enter Try.func45, Try.ntmps45
    go_wp2
    go_ret
    exact ⟨rfl, rfl⟩
theorem msize_no (t s : Int) (w : World) (h : t < 1 ∨ 255 < t ∨ s < 0) :
    Calls Try.prog 31 #[.int .i64 t, .int .i64 s] w fun e w' => e = .returned (.tuple #[.int .i64 0, .bool false]) ∧ w = w' := by
  go_enter Try.func31, Try.ntmps31
  go_wp2_with (go_at_call 45; refine (possible_no _ _ _ h).mono ?_; rintro e w' ⟨rfl, rfl⟩)
  go_ret2
  exact ⟨rfl, rfl⟩
theorem quo_big {T n : Nat} (h0 : 1 ≤ T) (h1 : T ≤ 254) (hn : n ≤ 1000) : ∃ Q : Int, Int.tdiv 9223372036854775807 (T : Int) = Q ∧ ¬ Q < (n : Int) ∧ 0 ≤ Q ∧ Q ≤ 9223372036854775807 := by
  refine ⟨_, rfl, ?_⟩
  rw [Int.tdiv_eq_ediv_of_nonneg (by omega)]
  have h : (9223372036854775807 : Int) / 254 ≤ 9223372036854775807 / (T : Int) := by
    rw [Int.le_ediv_iff_mul_le (by omega)]
    have e : (9223372036854775807 : Int) / 254 = 36312488334073920 := by decide
    rw [e]; omega
  have h3 : (9223372036854775807 : Int) / (T : Int) ≤ 9223372036854775807 := Int.ediv_le_self _ (by omega)
  have e : (9223372036854775807 : Int) / 254 = 36312488334073920 := by decide
  omega
theorem msize_yes (t n : Nat) (w : World) (h1 : 1 ≤ t) (h2 : t ≤ 255) (hn : n ≤ 1000) :
    Calls Try.prog 31 #[.int .i64 (t : Nat), .int .i64 (n : Nat)] w fun e w' => e = .returned (.tuple #[.int .i64 (((t - 1) * n : Nat) : Int), .bool true]) ∧ w = w' := by
  obtain ⟨T, hT⟩ : ∃ T, T = t - 1 := ⟨_, rfl⟩
  rw [← hT]
  obtain ⟨m, hm⟩ : ∃ m, m = T * n := ⟨_, rfl⟩
  rw [← hm]
  have qm : (T : Int) * (n : Int) = (m : Int) := by rw [hm]; rfl
  have qm2 : m ≤ 254 * 1000 := by rw [hm]; exact Nat.mul_le_mul (by omega) hn
  have qT : (t : Int) - 1 = (T : Int) := by omega
  have HM := Lib.hid hm
  have HT := Lib.hid hT
  have q1 : (1 : Int) ≤ (t : Int) := by omega
  have q2 : (t : Int) ≤ 255 := by omega
  have q3 : (0 : Int) ≤ (n : Int) := by omega
  have HP := Lib.hid (possible_yes (t : Int) (n : Int) w q1 q2 q3)
  have qm3 : (m : Int) ≤ 254000 := by omega
  clear hm hT
  by_cases h0 : T = 0
  · have q4 : ¬ (9223372036854775807 : Int) < (n : Int) := by omega
    have q5 : (T : Int) < 1 := by omega
    clear h0
    go_enter Try.func31, Try.ntmps31
    go_wp2_with (go_at_call 45; refine HP.out.mono ?_; rintro e w' ⟨rfl, rfl⟩)
    go_ret2
    exact ⟨rfl, rfl⟩
  · obtain ⟨Q, hQ, q4, q5, q6⟩ := quo_big (T := T) (n := n) (by omega) (by omega) hn
    have q7 : ¬ (T : Int) < 1 := by omega
    have q8 : ((T : Int) == 0) = false := by rw [beq_eq_false_iff_ne]; omega
    have q9 : (1 : Int) ≤ (T : Int) := by omega
    clear h0
    go_enter Try.func31, Try.ntmps31
    go_wp2_with (go_at_call 45; refine HP.out.mono ?_; rintro e w' ⟨rfl, rfl⟩)
    go_ret2
    exact ⟨rfl, rfl⟩
theorem maskC : MaskC := by
  intro t n w h1 h2 hn
  go_enter Try.func14, Try.ntmps14
  go_wp2_with (go_at_call 31; refine (msize_yes t n _ h1 h2 hn).mono ?_; rintro e w' ⟨rfl, rfl⟩)
  go_ret
  exact ⟨rfl, Below.refl _ _⟩
theorem maskNoC : MaskNoC := by
  intro t s w _ _ h
  go_enter Try.func14, Try.ntmps14
  go_wp2_with (go_at_call 31; refine (msize_no t s _ h).mono ?_; rintro e w' ⟨rfl, rfl⟩)
  go_ret
  exact ⟨rfl, Below.refl _ _⟩
/-- Where 0 stands first, if it does. -/
theorem index_any (a : Option Addr) (L cap : Nat) (X : List GF) (j : Nat) (r : Int) (w : World) (hx : Pa w a L cap X) (hj : j ≤ L) (hn : ∀ k, k < j → co X k ≠ 0) (hz : j < L → co X j = 0) (hr : (j < L → r = (j : Int)) ∧ (j = L → r = -1)) :
    Calls Try.prog 52 #[.slice a L cap, .int .u8 0] w fun e w' => e = .returned (.int .i64 r) ∧ w = w' := by
  have HX := Lib.hid hx
  have HN := Lib.hid hn
  have HZ := Lib.hid hz
  have HR := Lib.hid hr
  have hcap := hx.bd
  clear hx hn hz hr
  go_enter Try.func52, Try.ntmps52
  go_wp2
  go_loopw [8] (fun i wr => ∃ k : Nat, k ≤ j ∧ i = .int .i64 (k : Nat) ∧ wr = w)
    (fun i _ => L - (intOf i).toNat)
  case atStart => exact ⟨0, Nat.zero_le _, rfl, rfl⟩
  case round =>
    obtain ⟨k, hk, rfl, rfl⟩ := hrel
    by_cases hlt : k < L
    · obtain ⟨bx, ox, rfl, hbx, hcx⟩ := HX.out.at_ hlt
      have q2 : (k : Int) < (L : Int) := by omega
      have q3 : (0 : Int) ≤ (k : Int) := by omega
      by_cases e : k = j
      · have hc0 : co X k = 0 := by rw [e]; exact HZ.out (by omega)
        rw [hc0] at hcx
        have q4 : r = (k : Int) := by rw [HR.out.1 (by omega), e]
        have Q4 := Lib.hid q4
        clear hc0 e q4
        have z : toI (0 : GF) = 0 := rfl
        go_wp2
        go_ret
        exact ⟨by rw [Q4.out]; rfl, rfl⟩
      · have hc0 := HN.out k (by omega)
        have q5 : toI (co X k) ≠ 0 := fun h => hc0 (toI_eq_zero.1 h)
        have q6 : (toI (co X k) == 0) = false := by rw [beq_eq_false_iff_ne]; exact q5
        have q7 : ((0 : Int) == toI (co X k)) = false := by rw [beq_eq_false_iff_ne]; exact Ne.symm q5
        have hk1 : k + 1 ≤ j := by omega
        clear hc0 q5 e
        go_wp2
        go_roundw
        case rel => exact ⟨k + 1, by omega, by go_num, by trivial⟩
        case measure => simp [intOf]; omega
    · have q4 : r = -1 := HR.out.2 (by omega)
      have Q4 := Lib.hid q4
      obtain rfl : L = k := by omega
      clear q4
      go_wp2
      go_ret
      exact ⟨by rw [Q4.out]; rfl, rfl⟩
theorem first0 (X : List GF) (L : Nat) : ∃ j, j ≤ L ∧ (∀ k, k < j → co X k ≠ 0) ∧ (j < L → co X j = 0) := by
  induction L with
  | zero => exact ⟨0, Nat.le_refl _, fun k hk => absurd hk (by omega), fun h => absurd h (by omega)⟩
  | succ L ih =>
    obtain ⟨j, h1, h2, h3⟩ := ih
    by_cases h : j < L
    · exact ⟨j, by omega, h2, fun _ => h3 h⟩
    · obtain rfl : j = L := by omega
      by_cases h0 : co X j = 0
      · exact ⟨j, by omega, h2, fun _ => h0⟩
      · exact ⟨j + 1, Nat.le_refl _, fun k hk => by
          rcases Nat.lt_succ_iff_lt_or_eq.1 hk with h4 | h4
          · exact h2 k h4
          · rw [h4]; exact h0, fun h => absurd h (by omega)⟩
theorem contains_yes (a : Option Addr) (L cap : Nat) (X : List GF) (w : World) (hx : Pa w a L cap X) (h : ∃ k, k < L ∧ co X k = 0) :
    Calls Try.prog 46 #[.slice a L cap, .int .u8 0] w fun e w' => e = .returned (.bool true) ∧ w = w' := by
  obtain ⟨j, h1, h2, h3⟩ := first0 X L
  have h4 : j < L := by
    obtain ⟨k, hk, e⟩ := h
    rcases Nat.lt_or_ge j L with h5 | h5
    · exact h5
    · exact absurd e (h2 k (by omega))
  have H := Lib.hid (index_any a L cap X j (j : Int) w hx h1 h2 h3 ⟨fun _ => rfl, fun e => absurd e (by omega)⟩)
  have q : (0 : Int) ≤ (j : Int) := by omega
  clear hx h h1 h2 h3 h4
  go_enter Try.func46, Try.ntmps46
  go_wp2_with (go_at_call 52; refine H.out.mono ?_; rintro e w' ⟨rfl, rfl⟩)
  go_ret
  exact ⟨rfl, rfl⟩
theorem contains_no (a : Option Addr) (L cap : Nat) (X : List GF) (w : World) (hx : Pa w a L cap X) (h : ∀ k, k < L → co X k ≠ 0) :
    Calls Try.prog 46 #[.slice a L cap, .int .u8 0] w fun e w' => e = .returned (.bool false) ∧ w = w' := by
  have H := Lib.hid (index_any a L cap X L (-1) w hx (Nat.le_refl _) h (fun h => absurd h (by omega)) ⟨fun h => absurd h (by omega), fun _ => rfl⟩)
  clear hx h
  go_enter Try.func46, Try.ntmps46
  go_wp2_with (go_at_call 52; refine H.out.mono ?_; rintro e w' ⟨rfl, rfl⟩)
  go_ret
  exact ⟨rfl, rfl⟩
/-! ## checked -/
theorem chk_nil (v1 v2 v3 v4 : Value) (w : World) : Calls Try.prog 27 #[.pointer none, v1, v2, v3, v4] w fun e w' => e = .returned (.int .i64 1) ∧ w = w' := by
  go_enter Try.func27, Try.ntmps27
  go_wp2
  go_ret
  exact ⟨rfl, rfl⟩
theorem chk_range (p : Addr) (t s : Int) (v3 : Value) (a : Option Addr) (L cap : Nat) (X : List GF) (w : World) (hx : Pa w a L cap X) (h : t < 1 ∨ 255 < t ∨ s < 0 ∨ ∃ k, k < L ∧ co X k = 0) :
    Calls Try.prog 27 #[.pointer (some p), .int .i64 t, .int .i64 s, v3, .slice a L cap] w fun e w' => e = .returned (.int .i64 2) ∧ w = w' := by
  by_cases h1 : t < 1 ∨ 255 < t ∨ s < 0
  · have H := Lib.hid (possible_no t s w h1)
    clear h1 h hx
    go_enter Try.func27, Try.ntmps27
    go_wp2_with (go_at_call 45; refine H.out.mono ?_; rintro e w' ⟨rfl, rfl⟩)
    go_ret
    exact ⟨rfl, rfl⟩
  · have H := Lib.hid (possible_yes t s w (by omega) (by omega) (by omega))
    have H2 := Lib.hid (contains_yes a L cap X w hx (by rcases h with h | h | h | h <;> first | exact h | omega))
    clear h1 h hx
    go_enter Try.func27, Try.ntmps27
    go_wp2_with (first
      | (go_at_call 45; refine H.out.mono ?_; rintro e w' ⟨rfl, rfl⟩)
      | (go_at_call 46; refine H2.out.mono ?_; rintro e w' ⟨rfl, rfl⟩))
    go_ret
    exact ⟨rfl, rfl⟩
theorem chk_form (p : Addr) (t n m : Nat) (aM : Option Addr) (cM : Nat) (a : Option Addr) (L cap : Nat) (X : List GF) (w : World) (hx : Pa w a L cap X) (h1 : 1 ≤ t) (h2 : t ≤ 255) (hn : n ≤ 1000) (hz : ∀ k, k < L → co X k ≠ 0) (hm : m ≠ (t - 1) * n) (hc : m ≤ cM ∧ cM ≤ 9223372036854775807) :
    Calls Try.prog 27 #[.pointer (some p), .int .i64 (t : Nat), .int .i64 (n : Nat), .slice aM m cM, .slice a L cap] w fun e w' => e = .returned (.int .i64 3) ∧ w = w' := by
  have H := Lib.hid (possible_yes (t : Int) (n : Int) w (by omega) (by omega) (by omega))
  have H2 := Lib.hid (contains_no a L cap X w hx hz)
  have H3 := Lib.hid (msize_yes t n w h1 h2 hn)
  have q : ((m : Int) != (((t - 1) * n : Nat) : Int)) = true := by rw [bne_iff_ne]; intro e; exact hm (by exact_mod_cast e)
  obtain ⟨Z, hZ⟩ : ∃ Z : Nat, Z = (t - 1) * n := ⟨_, rfl⟩
  rw [← hZ] at q H3
  clear hx hz hm hZ
  go_enter Try.func27, Try.ntmps27
  go_wp2_with (first
    | (go_at_call 45; refine H.out.mono ?_; rintro e w' ⟨rfl, rfl⟩)
    | (go_at_call 46; refine H2.out.mono ?_; rintro e w' ⟨rfl, rfl⟩)
    | (go_at_call 31; refine H3.out.mono ?_; rintro e w' ⟨rfl, rfl⟩))
  go_ret
  exact ⟨rfl, rfl⟩
theorem chk_ok (p : Addr) (t n m : Nat) (aM : Option Addr) (cM : Nat) (a : Option Addr) (L cap : Nat) (X : List GF) (w : World) (hx : Pa w a L cap X) (h1 : 1 ≤ t) (h2 : t ≤ 255) (hn : n ≤ 1000) (hz : ∀ k, k < L → co X k ≠ 0) (hm : m = (t - 1) * n) (hc : m ≤ cM ∧ cM ≤ 9223372036854775807) :
    Calls Try.prog 27 #[.pointer (some p), .int .i64 (t : Nat), .int .i64 (n : Nat), .slice aM m cM, .slice a L cap] w fun e w' => e = .returned (.int .i64 0) ∧ w = w' := by
  have H := Lib.hid (possible_yes (t : Int) (n : Int) w (by omega) (by omega) (by omega))
  have H2 := Lib.hid (contains_no a L cap X w hx hz)
  have H3 := Lib.hid (msize_yes t n w h1 h2 hn)
  rw [← hm] at H3
  have q : ((m : Int) != (m : Int)) = false := by simp
  clear hx hz hm
  go_enter Try.func27, Try.ntmps27
  go_wp2_with (first
    | (go_at_call 45; refine H.out.mono ?_; rintro e w' ⟨rfl, rfl⟩)
    | (go_at_call 46; refine H2.out.mono ?_; rintro e w' ⟨rfl, rfl⟩)
    | (go_at_call 31; refine H3.out.mono ?_; rintro e w' ⟨rfl, rfl⟩))
  go_ret
  exact ⟨rfl, rfl⟩
end Go.Proofs.Ytmhknggjpggagaa
