/- Contracts: where New refuses; Pick. -/
import Derived.Test.YtahdkojjhhpcmaaMnam
namespace Go.Proofs.Ytahdkojjhhpcmaa
open Go.ChangeShapes Go.WideShapes Go.ChangeAt Go.RowKit Go.Shelf GF
set_option linter.unusedVariables false
set_option linter.unusedSimpArgs false

theorem new_many (a : Option Addr) (n c : Nat) (w : World) (hn : ¬ (1 ≤ n ∧ n ≤ 64)) (hc : n ≤ 9223372036854775807) :
    Calls Try.prog 11 #[.slice a n c] w fun e w' => e = .returned (.tuple #[.pointer none, .int .i64 2]) ∧ Below w.heap.size w w' := by
  have HF := Lib.hid (fun W => fits_no (n : Int) W (by omega) (by omega))
  go_enter Try.func11, Try.ntmps11
  go_wp2_with (go_at_call 35; refine (HF.out _).mono ?_; rintro e w' ⟨rfl, rfl⟩)
  go_ret2
  exact ⟨rfl, (Below.refl _ _).alloc (Nat.le_refl _) _⟩
theorem new_wide (a : Option Addr) (n c : Nat) (M : List (List GF)) (w : World) (h : Mat w a n c M) (hn : 1 ≤ n ∧ n ≤ 64) (hm : ¬ (1 ≤ (rw_ M 0).length ∧ (rw_ M 0).length ≤ 64)) :
    Calls Try.prog 11 #[.slice a n c] w fun e w' => e = .returned (.tuple #[.pointer none, .int .i64 2]) ∧ Below w.heap.size w w' := by
  obtain ⟨b, off, ai, ci, rfl, hb, hcell, hpa⟩ := h.row (i := 0) (by omega)
  rw [Nat.add_zero] at hcell
  have hbd := h.bd
  have hpb := hpa.bd
  obtain ⟨L, hL⟩ : ∃ L, L = (rw_ M 0).length := ⟨_, rfl⟩
  rw [← hL] at hcell hm hpb
  have hA := (Below.refl w.heap.size w).alloc (Nat.le_refl _) (.cells #[.slice (some ⟨b, off, none⟩) n c] 31)
  have hc0 := (hA.cell (p := ⟨b, off, none⟩) hb).trans hcell
  have hx := lit_one w (.slice (some ⟨b, off, none⟩) n c) 31
  have q : (0 : Int) < (n : Int) := by omega
  have HY := Lib.hid (fun W => fits_yes n W hn)
  have HF := Lib.hid (fun W => fits_no (L : Int) W (by omega) (by omega))
  have HB := Lib.hid hA
  clear h hpa hA hL hcell
  go_enter Try.func11, Try.ntmps11
  go_wp2_with (first
    | (go_at_call 35; (with_reducible refine (HY.out _).mono ?_); rintro e w' ⟨rfl, rfl⟩)
    | (go_at_call 35; (with_reducible refine (HF.out _).mono ?_); rintro e w' ⟨rfl, rfl⟩))
  go_ret2
  exact ⟨rfl, HB.out⟩
theorem new_arg (a : Option Addr) (n c m j : Nat) (M : List (List GF)) (w : World) (h : Mat w a n c M) (hn : 1 ≤ n ∧ n ≤ 64) (hm : 1 ≤ m ∧ m ≤ 64) (h0 : (rw_ M 0).length = m) (hj : j < n) (hl : ∀ i, i < j → (rw_ M i).length = m) (hne : (rw_ M j).length ≠ m) :
    Calls Try.prog 11 #[.slice a n c] w fun e w' => e = .returned (.tuple #[.pointer none, .int .i64 1]) ∧ Below w.heap.size w w' := by
  obtain ⟨b, off, ai, ci, rfl, hb, hcell, hpa⟩ := h.row (i := 0) (by omega)
  rw [Nat.add_zero, h0] at hcell
  have hbd := h.bd
  have hA := (Below.refl w.heap.size w).alloc (Nat.le_refl _) (.cells #[.slice (some ⟨b, off, none⟩) n c] 31)
  have hc0 := (hA.cell (p := ⟨b, off, none⟩) hb).trans hcell
  have hx := lit_one w (.slice (some ⟨b, off, none⟩) n c) 31
  have q : (0 : Int) < (n : Int) := by omega
  have qm : ((m : Int) != (m : Int)) = false := by simp
  have H1 := Lib.hid (h.on hA)
  have HL := Lib.hid hl
  have HNE := Lib.hid hne
  have HB := Lib.hid hA
  clear h hpa hA hcell hl hne h0
  go_enter Try.func11, Try.ntmps11
  go_wp2_with (go_at_call 35; refine (fits_yes _ _ (by omega)).mono ?_; rintro e w' ⟨rfl, rfl⟩)
  obtain ⟨w1, hw1⟩ : ∃ w1, w1 = w.alloc (.cells #[.slice (some ⟨b, off, none⟩) n c] 31) := ⟨_, rfl⟩
  rw [← hw1] at H1 HB ⊢
  clear hw1 hc0 hx
  go_loop [25] (fun s => ∃ i : Nat, i ≤ j ∧ s = .int .i64 (i : Nat)) (fun s => n - (intOf s).toNat)
  case atStart => exact ⟨0, Nat.zero_le _, rfl⟩
  case round =>
    obtain ⟨i, hi, rfl⟩ := hrel
    obtain ⟨b', off', ai', ci', e, hb', hcell', hpa'⟩ := H1.out.row (i := i) (by omega)
    cases e
    have hpb := hpa'.bd
    have qi : (i : Int) < (n : Int) := by omega
    have qi0 : (0 : Int) ≤ (i : Int) := by omega
    by_cases hij : i < j
    · rw [HL.out i hij] at hcell'
      clear hpa' hpb
      go_wp2
      go_round
      case rel => exact ⟨i + 1, by omega, by go_num⟩
      case measure => simp [intOf]; omega
    · obtain rfl : j = i := by omega
      obtain ⟨L, hL⟩ : ∃ L, L = (rw_ M j).length := ⟨_, rfl⟩
      rw [← hL] at hcell' hpb
      have hne := HNE.out
      rw [← hL] at hne
      have qn : ((L : Int) != (m : Int)) = true := by rw [bne_iff_ne]; omega
      clear hL hne hpa'
      go_wp2
      go_ret2
      exact ⟨rfl, HB.out⟩
end Go.Proofs.Ytahdkojjhhpcmaa
