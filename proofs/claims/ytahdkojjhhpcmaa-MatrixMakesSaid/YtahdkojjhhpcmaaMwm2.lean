/- The walk of MatrixMakes: rows of unlike lengths; rows that make a matrix. -/
import Derived.Test.YtahdkojjhhpcmaaMwmk
namespace Go.Proofs.Ytahdkojjhhpcmaa
open Go.ChangeShapes Go.WideShapes Go.ChangeAt Go.RowKit Go.Shelf GF
set_option linter.unusedVariables false
set_option linter.unusedSimpArgs false

set_option maxRecDepth 100000 in
set_option maxHeartbeats 8000000 in
theorem makes_arg (a : Option Addr) (n c m jb : Nat) (M : List (List GF)) (ap : Option Addr) (L cp : Nat) (w : World) (h : Mat w a n c M) (hw : ∀ i, i < n → (rw_ M i).length ≤ 66) (hL : L ≤ 70) (hn : 1 ≤ n ∧ n ≤ 64) (hm : 1 ≤ m ∧ m ≤ 64) (h0 : (rw_ M 0).length = m) (hj : jb < n) (hl : ∀ i, i < jb → (rw_ M i).length = m) (hne : (rw_ M jb).length ≠ m) :
    Calls Try.prog 4 #[.slice a n c, .slice ap L cp] w fun e w' => e = .returned (.bool true) ∧ Below w.heap.size w w' := by
  have H := Lib.hid h
  have hbd := h.bd
  have HFE := Lib.hid (fun W (hW : Below w.heap.size w W) => few_yes a n c M W (H.out.on hW) (by omega) hw)
  have HNE := Lib.hid (fun W (hW : Below w.heap.size w W) => new_arg a n c m jb M W (H.out.on hW) hn hm h0 hj hl hne)
  obtain ⟨b, off, ai, ci, rfl, hb, hcell, hpa⟩ := h.row (i := 0) (by omega)
  rw [Nat.add_zero, h0] at hcell
  have HLL := Lib.hid hl
  have HNN := Lib.hid hne
  have q0 : ((n : Int) == 0) = false := by rw [beq_eq_false_iff_ne]; omega
  have q1 : ¬ (64 : Int) < (n : Int) := by omega
  have q2 : (0 : Int) < (n : Int) := by omega
  have q3 : ((m : Int) == 0) = false := by rw [beq_eq_false_iff_ne]; omega
  have q4 : ¬ (64 : Int) < (m : Int) := by omega
  clear h hw hpa h0 hl hne
  go_enter Try.func4, Try.ntmps4
  go_wp2_with (first
    | (go_at_call 9; refine (livesM_any _).mono ?_; rintro e w1 ⟨rfl, hb1⟩; have HB1 := Lib.hid hb1; clear hb1)
    | (go_at_call 16; refine (HFE.out _ HB1.out).mono ?_; rintro e w' ⟨rfl, rfl⟩)
    | (go_at_call 11; refine (HNE.out _ HB1.out).mono ?_; rintro e w2 ⟨rfl, hb2⟩; have hc2 := ((bt HB1.out hb2).cell (p := ⟨b, off, none⟩) hb).trans hcell; have HB2 := Lib.hid (bt HB1.out hb2); clear hb2))
  go_loop [39, 7] (fun s x => ∃ i : Nat, i ≤ n ∧ s = .int .i64 (i : Nat) ∧ ((i ≤ jb ∧ x = .int .i64 0) ∨ (jb < i ∧ x = .int .i64 1))) (fun s _ => n - (intOf s).toNat)
  case atStart => exact ⟨0, Nat.zero_le _, rfl, .inl ⟨Nat.zero_le _, rfl⟩⟩
  case round =>
    obtain ⟨i, hi, rfl, hx⟩ := hrel
    by_cases hlt : i < n
    · obtain ⟨b', off', ai', ci', e, hb', hcell', hpa'⟩ := H.out.row hlt
      cases e
      have hcr := (HB2.out.cell (p := ⟨b, off + i, none⟩) hb').trans hcell'
      have hpb := hpa'.bd
      have qi : (i : Int) < (n : Int) := by omega
      have qi0 : (0 : Int) ≤ (i : Int) := by omega
      obtain ⟨Li, hLi⟩ : ∃ Li, Li = (rw_ M i).length := ⟨_, rfl⟩
      rw [← hLi] at hcr hpb
      clear hcell' hpa'
      rcases hx with ⟨hij, rfl⟩ | ⟨hij, rfl⟩
      · by_cases hij2 : i < jb
        · have hlm := HLL.out i hij2
          rw [← hLi] at hlm
          subst hlm
          have qn : ((Li : Int) != (Li : Int)) = false := by simp
          clear hLi
          go_wp2
          go_round
          case rel => exact ⟨i + 1, by omega, by go_num, .inl ⟨by omega, rfl⟩⟩
          case measure => simp [intOf]; omega
        · obtain rfl : jb = i := by omega
          have hlm := HNN.out
          rw [← hLi] at hlm
          have qn : ((Li : Int) != (m : Int)) = true := by rw [bne_iff_ne]; omega
          clear hLi hlm
          go_wp2
          go_round
          case rel => exact ⟨jb + 1, by omega, by go_num, .inr ⟨by omega, rfl⟩⟩
          case measure => simp [intOf]; omega
      · by_cases hlm : Li = m
        · have qn : ((Li : Int) != (m : Int)) = false := by rw [hlm]; simp
          clear hLi hlm
          go_wp2
          go_round
          case rel => exact ⟨i + 1, by omega, by go_num, .inr ⟨by omega, rfl⟩⟩
          case measure => simp [intOf]; omega
        · have qn : ((Li : Int) != (m : Int)) = true := by rw [bne_iff_ne]; omega
          clear hLi hlm
          go_wp2
          go_round
          case rel => exact ⟨i + 1, by omega, by go_num, .inr ⟨by omega, rfl⟩⟩
          case measure => simp [intOf]; omega
    · rcases hx with ⟨hij, rfl⟩ | ⟨hij, rfl⟩
      · exact absurd hij (by omega)
      · go_wp2_with (go_at_call 17; refine (size_nil _).mono ?_; rintro e w' ⟨rfl, rfl⟩)
        go_ret
        exact ⟨rfl, HB2.out⟩
end Go.Proofs.Ytahdkojjhhpcmaa
