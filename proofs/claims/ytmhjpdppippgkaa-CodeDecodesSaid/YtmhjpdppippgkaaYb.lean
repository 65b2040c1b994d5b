/- Contracts of code's uneven (slices.ContainsFunc, IndexFunc at its function value), and of the same at Decode's function value. -/
import Derived.Test.YtmhjpdppippgkaaYa
namespace Go.Proofs.Ytmhjpdppippgkaa
open Go.ChangeShapes Go.WideShapes Go.ChangeAt Go.RowKit Go.Shelf GF
set_option linter.unusedVariables false
set_option linter.unusedSimpArgs false
set_option maxRecDepth 100000

theorem litOne (w : World) (v : Value) (e : TypeId) : (w.alloc (.cells #[v] e)).cell? ⟨w.heap.size, 0, none⟩ = some v := by simp
/-- uneven's function value: has the row another length than the first one? -/
theorem unev1_any (Bx : Nat) (ai : Option Addr) (m ci N cR m0 : Nat) (a0 : Option Addr) (c0 : Nat) (b off : Nat) (W : World) (r : Bool) (hx : W.cell? ⟨Bx, 0, none⟩ = some (.slice (some ⟨b, off, none⟩) N cR)) (h0 : W.cell? ⟨b, off, none⟩ = some (.slice a0 m0 c0)) (hN : 0 < N) (hb1 : N ≤ cR ∧ cR ≤ 9223372036854775807) (hb2 : m ≤ ci ∧ ci ≤ 9223372036854775807) (hb3 : m0 ≤ c0 ∧ c0 ≤ 9223372036854775807) (hr : ((m : Int) != (m0 : Int)) = r) :
    Calls Try.prog 37 #[.slice ai m ci, .pointer (some ⟨Bx, 0, none⟩)] W fun e w' => e = .returned (.bool r) ∧ W = w' := by
  have q0 : (0 : Int) < (N : Int) := by omega
  subst hr
  go_enter Try.func37, Try.ntmps37
  go_wp2
  go_ret
  exact ⟨rfl, rfl⟩
/-- The first j rows are as long as the first one; the next, if there is one, is not. -/
theorem unevIdx (Bx : Nat) (aR : Option Addr) (N cR : Nat) (R : List (List GF)) (j : Nat) (w : World) (hx : w.cell? ⟨Bx, 0, none⟩ = some (.slice aR N cR)) (hR : Mat w aR N cR R) (hw : ∀ k, k < N → (rw_ R k).length ≤ 1000) (hj : j ≤ N) (hz : ∀ i, i < j → (rw_ R i).length = (rw_ R 0).length) (hn : j < N → (rw_ R j).length ≠ (rw_ R 0).length) :
    Calls Try.prog 43 #[.slice aR N cR, .func (.func 37) #[] #[.pointer (some ⟨Bx, 0, none⟩)]] w fun e w' => e = .returned (.int .i64 (if j < N then (j : Int) else -1)) ∧ w = w' := by
  have HR := Lib.hid hR
  have HX := Lib.hid hx
  have HW := Lib.hid hw
  have HZ := Lib.hid hz
  have HN := Lib.hid hn
  have hbd := hR.bd
  clear hR hw hz hn hx
  go_enter Try.func43, Try.ntmps43
  go_wp2
  go_loop [8] (fun k => ∃ i : Nat, i ≤ j ∧ i ≤ N ∧ k = .int .i64 (i : Nat)) (fun k => N - (intOf k).toNat)
  case atStart => exact ⟨0, Nat.zero_le _, Nat.zero_le _, rfl⟩
  case round =>
    obtain ⟨i, hi, hiL, rfl⟩ := hrel
    by_cases hlt : i < N
    · have qi : (i : Int) < (N : Int) := by omega
      have qi0 : (0 : Int) ≤ (i : Int) := by omega
      obtain ⟨b, off, ai, ci, rfl, hb, hcell, hpa⟩ := HR.out.row hlt
      obtain ⟨b2, o2, a0, c0, e0, hb0, hc0, hp0⟩ := HR.out.row (i := 0) (by omega)
      cases e0
      rw [Nat.add_zero] at hc0
      have hd1 := hpa.bd
      have hd0 := hp0.bd
      obtain ⟨m, hm⟩ : ∃ m, m = (rw_ R i).length := ⟨_, rfl⟩
      obtain ⟨m0, hm0⟩ : ∃ m, m = (rw_ R 0).length := ⟨_, rfl⟩
      have HM := Lib.hid hm
      have HM0 := Lib.hid hm0
      rw [← hm] at hcell hd1
      rw [← hm0] at hc0 hd0
      clear hpa hp0 hm hm0
      by_cases hij : i < j
      · have HC := Lib.hid (unev1_any Bx ai m ci N cR m0 a0 c0 b off w false HX.out hc0 (by omega) hbd hd1 hd0 (by have := HZ.out i hij; rw [← HM.out, ← HM0.out] at this; subst this; simp))
        clear hc0
        go_wp2_with (go_at_call 37; refine HC.out.mono ?_; rintro e w' ⟨rfl, rfl⟩)
        go_round
        case rel => exact ⟨i + 1, by omega, by omega, by go_num⟩
        case measure => simp [intOf]; omega
      · obtain rfl : j = i := by omega
        have HC := Lib.hid (unev1_any Bx ai m ci N cR m0 a0 c0 b off w true HX.out hc0 (by omega) hbd hd1 hd0 (by have := HN.out hlt; rw [← HM.out, ← HM0.out] at this; rw [bne_iff_ne]; omega))
        clear hc0
        go_wp2_with (go_at_call 37; refine HC.out.mono ?_; rintro e w' ⟨rfl, rfl⟩)
        go_ret
        exact ⟨rfl, rfl⟩
    · obtain rfl : N = i := by omega
      have hjL : j = N := by omega
      have hn0 : ¬ j < N := by omega
      clear hjL
      go_wp2
      go_ret
      exact ⟨rfl, rfl⟩
theorem unevCon (Bx : Nat) (aR : Option Addr) (N cR : Nat) (R : List (List GF)) (j : Nat) (r : Bool) (w : World) (hx : w.cell? ⟨Bx, 0, none⟩ = some (.slice aR N cR)) (hR : Mat w aR N cR R) (hw : ∀ k, k < N → (rw_ R k).length ≤ 1000) (hj : j ≤ N) (hz : ∀ i, i < j → (rw_ R i).length = (rw_ R 0).length) (hn : j < N → (rw_ R j).length ≠ (rw_ R 0).length) (hr : r = decide (j < N)) :
    Calls Try.prog 36 #[.slice aR N cR, .func (.func 37) #[] #[.pointer (some ⟨Bx, 0, none⟩)]] w fun e w' => e = .returned (.bool r) ∧ w = w' := by
  have HI := unevIdx Bx aR N cR R j w hx hR hw hj hz hn
  have hbd := hR.bd
  by_cases h : j < N
  · rw [if_pos h] at HI
    have HH := Lib.hid HI
    have q : (0 : Int) ≤ (j : Int) := by omega
    have Hr := Lib.hid (hr.trans (decide_eq_true h))
    clear hx hR hw hz hn hr HI
    go_enter Try.func36, Try.ntmps36
    go_wp2_with (go_at_call 43; refine HH.out.mono ?_; rintro e w' ⟨rfl, rfl⟩)
    go_ret
    exact ⟨by rw [Hr.out]; rfl, rfl⟩
  · rw [if_neg h] at HI
    have HH := Lib.hid HI
    have Hr := Lib.hid (hr.trans (decide_eq_false h))
    clear hx hR hw hz hn hr HI
    go_enter Try.func36, Try.ntmps36
    go_wp2_with (go_at_call 43; refine HH.out.mono ?_; rintro e w' ⟨rfl, rfl⟩)
    go_ret
    exact ⟨by rw [Hr.out]; rfl, rfl⟩
theorem unev_first (R : List (List GF)) (N : Nat) : ∃ j, j ≤ N ∧ (∀ i, i < j → (rw_ R i).length = (rw_ R 0).length) ∧ (j < N → (rw_ R j).length ≠ (rw_ R 0).length) := by
  induction N with
  | zero => exact ⟨0, Nat.le_refl _, fun i hi => absurd hi (by omega), fun h => absurd h (by omega)⟩
  | succ N ih =>
    obtain ⟨j, h1, h2, h3⟩ := ih
    by_cases h : j < N
    · exact ⟨j, by omega, h2, fun _ => h3 h⟩
    · obtain rfl : j = N := by omega
      by_cases h0 : (rw_ R j).length = (rw_ R 0).length
      · exact ⟨j + 1, Nat.le_refl _, fun k hk => by
          rcases Nat.lt_succ_iff_lt_or_eq.1 hk with h4 | h4
          · exact h2 k h4
          · rw [h4]; exact h0, fun h => absurd h (by omega)⟩
      · exact ⟨j, by omega, h2, fun _ => h0⟩
theorem unev_any (aR : Option Addr) (N cR : Nat) (R : List (List GF)) (r : Bool) (w : World) (hR : Mat w aR N cR R) (hw : ∀ k, k < N → (rw_ R k).length ≤ 1000) (hr : r = true ↔ ∃ i, i < N ∧ (rw_ R i).length ≠ (rw_ R 0).length) :
    Calls Try.prog 27 #[.slice aR N cR] w fun e w' => e = .returned (.bool r) ∧ Below w.heap.size w w' := by
  obtain ⟨j, h1, h2, h3⟩ := unev_first R N
  have hA := (Below.refl w.heap.size w).alloc (Nat.le_refl _) (.cells #[.slice aR N cR] 22)
  have hrr : r = decide (j < N) := by
    rw [Bool.eq_iff_iff, decide_eq_true_eq, hr]
    constructor
    · rintro ⟨i, hi, he⟩
      rcases Nat.lt_or_ge j N with h | h
      · exact h
      · exact absurd (h2 i (by omega)) he
    · exact fun h => ⟨j, h, h3 h⟩
  have HC := Lib.hid (unevCon w.heap.size aR N cR R j r _ (litOne w (.slice aR N cR) 22) (hR.on hA) hw h1 h2 h3 hrr)
  have HA := Lib.hid hA
  have hbd := hR.bd
  clear hR hw hr hrr h2 h3 h1 hA
  go_enter Try.func27, Try.ntmps27
  go_wp2_with (go_at_call 36; refine HC.out.mono ?_; rintro e w' ⟨rfl, rfl⟩)
  go_ret
  exact ⟨rfl, HA.out⟩

/-! ## places that can't be: slices.ContainsFunc at Decode's function value -/
theorem dec1_any (z : Int) (r : Bool) (w : World) (hr : r = true ↔ ¬ okP z) :
    Calls Try.prog 26 #[.int .i64 z] w fun e w' => e = .returned (.bool r) ∧ w = w' := by
  by_cases h : okP z
  · have Hr := Lib.hid (show r = false from Bool.eq_false_iff.2 fun e => hr.1 e h)
    have HP := Lib.hid (can_yes z w h.1 h.2)
    clear hr h
    go_enter Try.func26, Try.ntmps26
    go_wp2_with (go_at_call 24; refine HP.out.mono ?_; rintro e w' ⟨rfl, rfl⟩)
    go_ret
    exact ⟨by rw [Hr.out]; rfl, rfl⟩
  · have Hr := Lib.hid (show r = true from hr.2 h)
    have HP := Lib.hid (can_no z w (by unfold okP at h; omega))
    clear hr h
    go_enter Try.func26, Try.ntmps26
    go_wp2_with (go_at_call 24; refine HP.out.mono ?_; rintro e w' ⟨rfl, rfl⟩)
    go_ret
    exact ⟨by rw [Hr.out]; rfl, rfl⟩
theorem badIdx (aX : Option Addr) (N cX : Nat) (ps : List Int) (j : Nat) (w : World) (hX : IA w aX N cX ps) (hN : N ≤ 255) (hj : j ≤ N) (hz : ∀ i, i < j → okP (ps.getD i 0)) (hn : j < N → ¬ okP (ps.getD j 0)) :
    Calls Try.prog 35 #[.slice aX N cX, .func (.func 26) #[] #[]] w fun e w' => e = .returned (.int .i64 (if j < N then (j : Int) else -1)) ∧ w = w' := by
  have HX := Lib.hid hX
  have HZ := Lib.hid hz
  have HN := Lib.hid hn
  have hbd := hX.bd
  clear hX hz hn
  go_enter Try.func35, Try.ntmps35
  go_wp2
  go_loop [8] (fun k => ∃ i : Nat, i ≤ j ∧ i ≤ N ∧ k = .int .i64 (i : Nat)) (fun k => N - (intOf k).toNat)
  case atStart => exact ⟨0, Nat.zero_le _, Nat.zero_le _, rfl⟩
  case round =>
    obtain ⟨i, hi, hiL, rfl⟩ := hrel
    by_cases hlt : i < N
    · have qi : (i : Int) < (N : Int) := by omega
      have qi0 : (0 : Int) ≤ (i : Int) := by omega
      obtain ⟨b, off, rfl, hb, hcell⟩ := HX.out.at_ hlt
      by_cases hij : i < j
      · have HC := Lib.hid (dec1_any (ps.getD i 0) false w ⟨(fun e => by cases e), fun h => absurd (HZ.out i hij) h⟩)
        generalize ps.getD i 0 = z at hcell HC
        go_wp2_with (go_at_call 26; refine HC.out.mono ?_; rintro e w' ⟨rfl, rfl⟩)
        go_round
        case rel => exact ⟨i + 1, by omega, by omega, by go_num⟩
        case measure => simp [intOf]; omega
      · obtain rfl : j = i := by omega
        have HC := Lib.hid (dec1_any (ps.getD j 0) true w ⟨fun _ => HN.out hlt, fun _ => rfl⟩)
        generalize ps.getD j 0 = z at hcell HC
        go_wp2_with (go_at_call 26; refine HC.out.mono ?_; rintro e w' ⟨rfl, rfl⟩)
        go_ret
        exact ⟨rfl, rfl⟩
    · obtain rfl : N = i := by omega
      have hjL : j = N := by omega
      have hn0 : ¬ j < N := by omega
      clear hjL
      go_wp2
      go_ret
      exact ⟨rfl, rfl⟩
theorem bad_first (ps : List Int) (N : Nat) : ∃ j, j ≤ N ∧ (∀ i, i < j → okP (ps.getD i 0)) ∧ (j < N → ¬ okP (ps.getD j 0)) := by
  induction N with
  | zero => exact ⟨0, Nat.le_refl _, fun i hi => absurd hi (by omega), fun h => absurd h (by omega)⟩
  | succ N ih =>
    obtain ⟨j, h1, h2, h3⟩ := ih
    by_cases h : j < N
    · exact ⟨j, by omega, h2, fun _ => h3 h⟩
    · obtain rfl : j = N := by omega
      by_cases h0 : okP (ps.getD j 0)
      · exact ⟨j + 1, Nat.le_refl _, fun k hk => by
          rcases Nat.lt_succ_iff_lt_or_eq.1 hk with h4 | h4
          · exact h2 k h4
          · rw [h4]; exact h0, fun h => absurd h (by omega)⟩
      · exact ⟨j, by omega, h2, fun _ => h0⟩
theorem badCon (aX : Option Addr) (N cX : Nat) (ps : List Int) (r : Bool) (w : World) (hX : IA w aX N cX ps) (hN : N ≤ 255) (hr : r = true ↔ ∃ i, i < N ∧ ¬ okP (ps.getD i 0)) :
    Calls Try.prog 25 #[.slice aX N cX, .func (.func 26) #[] #[]] w fun e w' => e = .returned (.bool r) ∧ w = w' := by
  obtain ⟨j, h1, h2, h3⟩ := bad_first ps N
  have HI := badIdx aX N cX ps j w hX hN h1 h2 h3
  have hbd := hX.bd
  by_cases h : j < N
  · rw [if_pos h] at HI
    have HH := Lib.hid HI
    have q : (0 : Int) ≤ (j : Int) := by omega
    have Hr := Lib.hid (show r = true from hr.2 ⟨j, h, h3 h⟩)
    clear hX h2 h3 hr HI
    go_enter Try.func25, Try.ntmps25
    go_wp2_with (go_at_call 35; refine HH.out.mono ?_; rintro e w' ⟨rfl, rfl⟩)
    go_ret
    exact ⟨by rw [Hr.out]; rfl, rfl⟩
  · rw [if_neg h] at HI
    have HH := Lib.hid HI
    have Hr := Lib.hid (show r = false from Bool.eq_false_iff.2 fun e => by obtain ⟨i, hi, h0⟩ := hr.1 e; exact h0 (h2 i (by omega)))
    clear hX h2 h3 hr HI
    go_enter Try.func25, Try.ntmps25
    go_wp2_with (go_at_call 35; refine HH.out.mono ?_; rintro e w' ⟨rfl, rfl⟩)
    go_ret
    exact ⟨by rw [Hr.out]; rfl, rfl⟩
end Go.Proofs.Ytmhjpdppippgkaa
