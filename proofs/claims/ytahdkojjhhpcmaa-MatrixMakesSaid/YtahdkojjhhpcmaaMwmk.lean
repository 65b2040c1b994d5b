/- The walk of MatrixMakes. -/
import Derived.Test.YtahdkojjhhpcmaaMpick
namespace Go.Proofs.Ytahdkojjhhpcmaa
open Go.ChangeShapes Go.WideShapes Go.ChangeAt Go.RowKit Go.Shelf GF
set_option linter.unusedVariables false
set_option linter.unusedSimpArgs false

theorem first_bad (p : Nat → Prop) : ∀ n : Nat, ∃ j, j ≤ n ∧ (∀ i, i < j → p i) ∧ (j < n → ¬ p j) := by
  intro n
  induction n with
  | zero => exact ⟨0, Nat.le_refl _, fun i hi => absurd hi (by omega), fun h => absurd h (by omega)⟩
  | succ n ih =>
    obtain ⟨j, h1, h2, h3⟩ := ih
    by_cases e : j < n
    · exact ⟨j, by omega, h2, fun _ => h3 e⟩
    · obtain rfl : j = n := by omega
      by_cases hp : p j
      · exact ⟨j + 1, Nat.le_refl _, fun i hi => by
          by_cases e2 : i = j
          · rw [e2]; exact hp
          · exact h2 i (by omega), fun h => absurd h (by omega)⟩
      · exact ⟨j, by omega, h2, fun _ => hp⟩
theorem few_any (a : Option Addr) (n c j : Nat) (M : List (List GF)) (w : World) (h : Mat w a n c M) (hn : n ≤ 66) (hj : j ≤ n) (hok : ∀ i, i < j → (rw_ M i).length ≤ 66) (hbad : j < n → ¬ (rw_ M j).length ≤ 66) :
    Calls Try.prog 16 #[.slice a n c] w fun e w' => ((j < n ∧ e = .returned (.bool false)) ∨ (j = n ∧ e = .returned (.bool true))) ∧ w = w' := by
  have H := Lib.hid h
  have hbd := h.bd
  have HOK := Lib.hid hok
  have HBAD := Lib.hid hbad
  clear h hok hbad
  go_enter Try.func16, Try.ntmps16
  go_wp2
  go_loop [10] (fun s => ∃ i : Nat, i ≤ j ∧ s = .int .i64 (i : Nat)) (fun s => n - (intOf s).toNat)
  case atStart => exact ⟨0, Nat.zero_le _, rfl⟩
  case round =>
    obtain ⟨i, hi, rfl⟩ := hrel
    by_cases hlt : i < n
    · obtain ⟨b, off, ai, ci, rfl, hb, hcell, hpa⟩ := H.out.row hlt
      have hpb := hpa.bd
      obtain ⟨L, hL⟩ : ∃ L, L = (rw_ M i).length := ⟨_, rfl⟩
      rw [← hL] at hcell hpb
      have qi : (i : Int) < (n : Int) := by omega
      have qi0 : (0 : Int) ≤ (i : Int) := by omega
      by_cases hij : i < j
      · have hok := HOK.out i hij
        rw [← hL] at hok
        have ql : ¬ (66 : Int) < (L : Int) := by omega
        clear hpa hL
        go_wp2
        go_round
        case rel => exact ⟨i + 1, by omega, by go_num⟩
        case measure => simp [intOf]; omega
      · obtain rfl : j = i := by omega
        have hbad := HBAD.out hlt
        rw [← hL] at hbad
        have ql : (66 : Int) < (L : Int) := by omega
        have HLT := Lib.hid hlt
        clear hpa hL hlt
        go_wp2
        go_ret
        exact ⟨.inl ⟨HLT.out, rfl⟩, rfl⟩
    · have hjn : j = n := by omega
      have HJ := Lib.hid hjn
      clear hjn
      go_wp2
      go_ret
      exact ⟨.inr ⟨HJ.out, rfl⟩, rfl⟩
theorem few_yes (a : Option Addr) (n c : Nat) (M : List (List GF)) (w : World) (h : Mat w a n c M) (hn : n ≤ 66) (hok : ∀ i, i < n → (rw_ M i).length ≤ 66) : Calls Try.prog 16 #[.slice a n c] w fun e w' => e = .returned (.bool true) ∧ w = w' :=
  (few_any a n c n M w h hn (Nat.le_refl _) hok (fun h => absurd h (by omega))).mono fun e w' ⟨h1, h2⟩ => ⟨by rcases h1 with ⟨h, _⟩ | ⟨_, h⟩; omega; exact h, h2⟩
theorem few_no (a : Option Addr) (n c : Nat) (M : List (List GF)) (w : World) (h : Mat w a n c M) (hno : ¬ (n ≤ 66 ∧ ∀ i, i < n → (rw_ M i).length ≤ 66)) : Calls Try.prog 16 #[.slice a n c] w fun e w' => e = .returned (.bool false) ∧ w = w' := by
  by_cases hn : n ≤ 66
  · obtain ⟨j, h1, h2, h3⟩ := first_bad (fun i => (rw_ M i).length ≤ 66) n
    refine (few_any a n c j M w h hn h1 h2 h3).mono fun e w' ⟨h4, h5⟩ => ⟨?_, h5⟩
    rcases h4 with ⟨_, h⟩ | ⟨hj, _⟩
    · exact h
    · exact absurd ⟨hn, fun i hi => h2 i (by omega)⟩ hno
  · exact few_many a n c w (by omega) (by have := h.bd; omega)

set_option maxRecDepth 100000 in
set_option maxHeartbeats 4000000 in
/-- Too much for the law: it tells whether its layer lives. -/
theorem makes_out (a : Option Addr) (n c : Nat) (M : List (List GF)) (ap : Option Addr) (L cp : Nat) (w : World) (h : Mat w a n c M) (hL : L ≤ cp ∧ cp ≤ 9223372036854775807) (hno : ¬ (n ≤ 66 ∧ (∀ i, i < n → (rw_ M i).length ≤ 66) ∧ L ≤ 70)) :
    Calls Try.prog 4 #[.slice a n c, .slice ap L cp] w fun e w' => e = .returned (.bool true) ∧ Below w.heap.size w w' := by
  have H := Lib.hid h
  clear h
  by_cases hf : n ≤ 66 ∧ ∀ i, i < n → (rw_ M i).length ≤ 66
  · have hl : ¬ L ≤ 70 := fun e => hno ⟨hf.1, hf.2, e⟩
    have q : (70 : Int) < (L : Int) := by omega
    have HFE := Lib.hid (fun W (hW : Below w.heap.size w W) => few_yes a n c M W (H.out.on hW) hf.1 hf.2)
    clear hf hno
    go_enter Try.func4, Try.ntmps4
    go_upto_region 2 with (first
      | (go_at_call 9; refine (livesM_any _).mono ?_; rintro e w1 ⟨rfl, hb1⟩; have HB1 := Lib.hid hb1; clear hb1)
      | (go_at_call 16; refine (HFE.out _ HB1.out).mono ?_; rintro e w' ⟨rfl, rfl⟩))
    go_wp2_with (go_at_call 9; refine (livesM_any _).mono ?_; rintro e w2 ⟨rfl, hb2⟩; have HB2 := Lib.hid (bt HB1.out hb2); clear hb2)
    go_ret
    exact ⟨rfl, HB2.out⟩
  · have HFE := Lib.hid (fun W (hW : Below w.heap.size w W) => few_no a n c M W (H.out.on hW) hf)
    clear hf hno
    go_enter Try.func4, Try.ntmps4
    go_upto_region 2 with (first
      | (go_at_call 9; refine (livesM_any _).mono ?_; rintro e w1 ⟨rfl, hb1⟩; have HB1 := Lib.hid hb1; clear hb1)
      | (go_at_call 16; refine (HFE.out _ HB1.out).mono ?_; rintro e w' ⟨rfl, rfl⟩))
    go_wp2_with (go_at_call 9; refine (livesM_any _).mono ?_; rintro e w2 ⟨rfl, hb2⟩; have HB2 := Lib.hid (bt HB1.out hb2); clear hb2)
    go_ret
    exact ⟨rfl, HB2.out⟩

set_option maxRecDepth 100000 in
set_option maxHeartbeats 4000000 in
/-- Rows that make no matrix: too many, or none. -/
theorem makes_many (a : Option Addr) (n c : Nat) (M : List (List GF)) (ap : Option Addr) (L cp : Nat) (w : World) (h : Mat w a n c M) (hn : n ≤ 66) (hw : ∀ i, i < n → (rw_ M i).length ≤ 66) (hL : L ≤ 70) (hno : ¬ (1 ≤ n ∧ n ≤ 64)) :
    Calls Try.prog 4 #[.slice a n c, .slice ap L cp] w fun e w' => e = .returned (.bool true) ∧ Below w.heap.size w w' := by
  have H := Lib.hid h
  have hbd := h.bd
  have HFE := Lib.hid (fun W (hW : Below w.heap.size w W) => few_yes a n c M W (H.out.on hW) hn hw)
  have HNE := Lib.hid (fun W => new_many a n c W hno (by omega))
  clear h hw
  by_cases h0 : n = 0
  · have q0 : ((n : Int) == 0) = true := by rw [beq_iff_eq]; omega
    clear h0 hno
    go_enter Try.func4, Try.ntmps4
    go_wp2_with (first
      | (go_at_call 9; refine (livesM_any _).mono ?_; rintro e w1 ⟨rfl, hb1⟩; have HB1 := Lib.hid hb1; clear hb1)
      | (go_at_call 16; refine (HFE.out _ HB1.out).mono ?_; rintro e w' ⟨rfl, rfl⟩)
      | (go_at_call 11; refine (HNE.out _).mono ?_; rintro e w2 ⟨rfl, hb2⟩; have HB2 := Lib.hid (bt HB1.out hb2); clear hb2)
      | (go_at_call 17; refine (size_nil _).mono ?_; rintro e w' ⟨rfl, rfl⟩))
    go_ret
    exact ⟨rfl, HB2.out⟩
  · have q0 : ((n : Int) == 0) = false := by rw [beq_eq_false_iff_ne]; omega
    have q1 : (64 : Int) < (n : Int) := by omega
    clear h0 hno
    go_enter Try.func4, Try.ntmps4
    go_wp2_with (first
      | (go_at_call 9; refine (livesM_any _).mono ?_; rintro e w1 ⟨rfl, hb1⟩; have HB1 := Lib.hid hb1; clear hb1)
      | (go_at_call 16; refine (HFE.out _ HB1.out).mono ?_; rintro e w' ⟨rfl, rfl⟩)
      | (go_at_call 11; refine (HNE.out _).mono ?_; rintro e w2 ⟨rfl, hb2⟩; have HB2 := Lib.hid (bt HB1.out hb2); clear hb2)
      | (go_at_call 17; refine (size_nil _).mono ?_; rintro e w' ⟨rfl, rfl⟩))
    go_ret
    exact ⟨rfl, HB2.out⟩
set_option maxRecDepth 100000 in
set_option maxHeartbeats 4000000 in
/-- Rows that make no matrix: too long, or nothing in the first. -/
theorem makes_wide (a : Option Addr) (n c : Nat) (M : List (List GF)) (ap : Option Addr) (L cp : Nat) (w : World) (h : Mat w a n c M) (hw : ∀ i, i < n → (rw_ M i).length ≤ 66) (hL : L ≤ 70) (hn : 1 ≤ n ∧ n ≤ 64) (hm : ¬ (1 ≤ (rw_ M 0).length ∧ (rw_ M 0).length ≤ 64)) :
    Calls Try.prog 4 #[.slice a n c, .slice ap L cp] w fun e w' => e = .returned (.bool true) ∧ Below w.heap.size w w' := by
  have H := Lib.hid h
  have hbd := h.bd
  have HFE := Lib.hid (fun W (hW : Below w.heap.size w W) => few_yes a n c M W (H.out.on hW) (by omega) hw)
  have HNE := Lib.hid (fun W (hW : Below w.heap.size w W) => new_wide a n c M W (H.out.on hW) hn hm)
  obtain ⟨b, off, ai, ci, rfl, hb, hcell, hpa⟩ := h.row (i := 0) (by omega)
  rw [Nat.add_zero] at hcell
  have hpb := hpa.bd
  obtain ⟨m, hmm⟩ : ∃ m, m = (rw_ M 0).length := ⟨_, rfl⟩
  rw [← hmm] at hcell hpb hm
  have q0 : ((n : Int) == 0) = false := by rw [beq_eq_false_iff_ne]; omega
  have q1 : ¬ (64 : Int) < (n : Int) := by omega
  have q2 : (0 : Int) < (n : Int) := by omega
  clear h hw hpa hmm
  by_cases h0 : m = 0
  · have q3 : ((m : Int) == 0) = true := by rw [beq_iff_eq]; omega
    clear h0 hm
    go_enter Try.func4, Try.ntmps4
    go_wp2_with (first
      | (go_at_call 9; refine (livesM_any _).mono ?_; rintro e w1 ⟨rfl, hb1⟩; have HB1 := Lib.hid hb1; clear hb1)
      | (go_at_call 16; refine (HFE.out _ HB1.out).mono ?_; rintro e w' ⟨rfl, rfl⟩)
      | (go_at_call 11; refine (HNE.out _ HB1.out).mono ?_; rintro e w2 ⟨rfl, hb2⟩; have hc2 := ((bt HB1.out hb2).cell (p := ⟨b, off, none⟩) hb).trans hcell; have HB2 := Lib.hid (bt HB1.out hb2); clear hb2)
      | (go_at_call 17; refine (size_nil _).mono ?_; rintro e w' ⟨rfl, rfl⟩))
    go_ret
    exact ⟨rfl, HB2.out⟩
  · have q3 : ((m : Int) == 0) = false := by rw [beq_eq_false_iff_ne]; omega
    have q4 : (64 : Int) < (m : Int) := by omega
    clear h0 hm
    go_enter Try.func4, Try.ntmps4
    go_wp2_with (first
      | (go_at_call 9; refine (livesM_any _).mono ?_; rintro e w1 ⟨rfl, hb1⟩; have HB1 := Lib.hid hb1; clear hb1)
      | (go_at_call 16; refine (HFE.out _ HB1.out).mono ?_; rintro e w' ⟨rfl, rfl⟩)
      | (go_at_call 11; refine (HNE.out _ HB1.out).mono ?_; rintro e w2 ⟨rfl, hb2⟩; have hc2 := ((bt HB1.out hb2).cell (p := ⟨b, off, none⟩) hb).trans hcell; have HB2 := Lib.hid (bt HB1.out hb2); clear hb2)
      | (go_at_call 17; refine (size_nil _).mono ?_; rintro e w' ⟨rfl, rfl⟩))
    go_ret
    exact ⟨rfl, HB2.out⟩
end Go.Proofs.Ytahdkojjhhpcmaa
