/- The walk of CipherForms (written by gen24.py). -/
import Derived.Test.YtpfhfnhbholboaaKt
namespace Go.Proofs.Ytpfhfnhbholboaa
open Go.ChangeShapes Go.WideShapes Go.ChangeAt Go.RowKit
set_option linter.unusedVariables false
set_option linter.unusedSimpArgs false
set_option maxRecDepth 100000

theorem made16 (w : World) : Arg8 (w.alloc (.cells (madeCells #[.int .u8 0] 16) 5)) (some ⟨w.heap.size, 0, none⟩) 16 16 (List.replicate 16 0) :=
  Arg8.own (own_made (by unfold maxLen; omega)) (fun x hx => by obtain ⟨_, rfl⟩ := List.mem_replicate.1 hx; omega) ⟨by omega, by unfold maxLen; omega⟩
theorem noughts_B : AllB (List.replicate 16 (0 : Int)) := fun x hx => by obtain ⟨_, rfl⟩ := List.mem_replicate.1 hx; omega
theorem made_below (w : World) : Below w.heap.size w (w.alloc (.cells (madeCells #[.int .u8 0] 16) 5)) := (Below.refl _ _).alloc (Nat.le_refl _) _
theorem make16 : ∀ w : World, (Instr.makeSlice 22 (.int .i64 16) (.int .i64 16)).run Try.prog w = .ok (.slice (some ⟨w.heap.size, 0, none⟩) 16 16) (w.alloc (.cells (madeCells #[.int .u8 0] 16) 5)) := by
  have hmk := run_make_row' (P := Try.prog) 22 5 (.int .u8 0) 1 Try.underlying22 info5 rfl .i64 .i64 16 (by omega) (by omega)
  rw [show ((16 : Nat) : Int) = 2 * 8 from rfl] at hmk
  simp only [Int.reduceMul] at hmk
  exact hmk
set_option maxHeartbeats 2000000 in
theorem forms_long (a0 : Option Addr) (L0 c0 : Nat) (a1 : Option Addr) (L1 c1 : Nat) (w : World) (h : 100 < L0 ∨ 100 < L1) :
    Calls Try.prog 5 #[.slice a0 L0 c0, .slice a1 L1 c1] w fun e w' => e = .returned (.bool true) ∧ Below w.heap.size w w' := by
  by_cases h0 : 100 < L0
  · have q : (100 : Int) < (L0 : Int) := by omega
    clear h h0
    go_enter Try.func5, Try.ntmps5
    go_upto_region 2 with (go_at_call 9; (with_reducible refine (livesK_any _).mono ?_); rintro e w1 ⟨rfl, hb1⟩; have HB1 := Lib.hid hb1; clear hb1)
    go_wp2_with (go_at_call 9; (with_reducible refine (livesK_any _).mono ?_); rintro e w2 ⟨rfl, hb2⟩; have HB2 := Lib.hid hb2; clear hb2)
    go_ret
    exact ⟨rfl, bt HB1.out HB2.out⟩
  · have q : (100 : Int) < (L1 : Int) := by omega
    have q2 : ¬ (100 : Int) < (L0 : Int) := by omega
    clear h h0
    go_enter Try.func5, Try.ntmps5
    go_upto_region 2 with (go_at_call 9; (with_reducible refine (livesK_any _).mono ?_); rintro e w1 ⟨rfl, hb1⟩; have HB1 := Lib.hid hb1; clear hb1)
    go_wp2_with (go_at_call 9; (with_reducible refine (livesK_any _).mono ?_); rintro e w2 ⟨rfl, hb2⟩; have HB2 := Lib.hid hb2; clear hb2)
    go_ret
    exact ⟨rfl, bt HB1.out HB2.out⟩
set_option maxHeartbeats 2000000 in
theorem forms_16_16 (a0 : Option Addr) (c0 : Nat) (a1 : Option Addr) (c1 : Nat) (k b : List Int) (w : World) (hA : Arg8 w a0 16 c0 k) (hB : Arg8 w a1 16 c1 b) :
    Calls Try.prog 5 #[.slice a0 (16 : Nat) c0, .slice a1 (16 : Nat) c1] w fun e w' => e = .returned (.bool true) ∧ Below w.heap.size w w' := by
  have hmk := make16
  have HA := Lib.hid hA
  have HB := Lib.hid hB
  clear hA hB
  go_enter Try.func5, Try.ntmps5
  go_upto_region 4 with (first
    | (go_at_call 9; (with_reducible refine (livesK_any _).mono ?_); rintro e w1 ⟨rfl, hb⟩; have HB1 := Lib.hid hb; clear hb)
    | (go_at_call 12; (with_reducible refine (new_any _).mono ?_); rintro e w2 ⟨fb, rfl, hb0, hf, hbel⟩; have HF2 := Lib.hid hf; have HB2 := Lib.hid (bt HB1.out hbel); clear hf hb0 hbel))
  have HA2 := Lib.hid (HA.out.on HB2.out)
  go_upto_region 8 with (go_at_call 11; (with_reducible refine (new_arg fb a0 16 c0 k w2 HF2.out HA2.out (Or.inl rfl)).mono ?_); rintro e w3 ⟨b0, rfl, hc, hb⟩; have HB3 := Lib.hid (bt HB2.out hb); have HF3 := Lib.hid (HF2.out.below hb); clear hc hb)
  have HM4 := Lib.hid (made16 w3)
  have HBM4 := Lib.hid (bt HB3.out (made_below w3))
  have HF4 := Lib.hid (HF3.out.below (made_below w3))
  go_upto_region 9 with (go_at_call 11; (with_reducible refine (new_arg fb _ 16 16 (List.replicate 16 0) _ HF4.out HM4.out (Or.inl rfl)).mono ?_); rintro e w5 ⟨d, rfl, hc, hb⟩; have HC5 := Lib.hid hc; have HB5 := Lib.hid (bt HBM4.out hb); clear hc hb)
  have HX5 := Lib.hid (HB.out.on HB5.out)
  have HQ5 := Lib.hid (show Cip w5 d ((List.replicate 16 (0 : Int)).length / 4 + 6) (keyW (List.replicate 16 0)) from HC5.out)
  go_upto_region 10 with (go_at_call 13; (with_reducible refine (enc_arg d (List.replicate 16 0) a1 c1 b w5 HC5.out (Or.inl rfl) noughts_B HX5.out).mono ?_); rintro e w6 ⟨g6, rfl, ho, hb⟩; have HB6 := Lib.hid (bt HB5.out hb); have HC6 := Lib.hid (HC5.out.on hb); have HX6 := Lib.hid (HX5.out.on hb); clear ho hb)
  go_upto_region 14 with (go_at_call 14; (with_reducible refine (dec_arg d (List.replicate 16 0) a1 c1 b w6 HC6.out (Or.inl rfl) noughts_B HX6.out).mono ?_); rintro e w7 ⟨g7, rfl, ho, hb⟩; have HB7 := Lib.hid (bt HB6.out hb); clear ho hb)
  have HBM8 := Lib.hid (bt HB7.out (made_below w7))
  go_upto_region 16 with (go_at_call 13; (with_reducible refine (encrypt_nil _ 16 16 _ (by decide)).mono ?_); rintro e w8 ⟨rfl, hb⟩; have HB8 := Lib.hid (bt HBM8.out hb); clear hb)
  have HBM9 := Lib.hid (bt HB8.out (made_below w8))
  go_upto_region 17 with (go_at_call 14; (with_reducible refine (decrypt_nil _ 16 16 _ (by decide)).mono ?_); rintro e w9 ⟨rfl, hb⟩; have HB9 := Lib.hid (bt HBM9.out hb); clear hb)
  have HB10 := Lib.hid (bt HB9.out (made_below w9))
  go_wp2_with (first
    | (go_at_call 11; (with_reducible refine (new_nil _ 16 16 _).mono ?_); rintro e w10 ⟨rfl, rfl⟩)
    | (go_at_call 16; (with_reducible refine (rounds_nil _).mono ?_); rintro e w11 ⟨rfl, rfl⟩))
  go_ret
  exact ⟨rfl, HB10.out⟩
set_option maxHeartbeats 2000000 in
theorem forms_32_16 (a0 : Option Addr) (c0 : Nat) (a1 : Option Addr) (c1 : Nat) (k b : List Int) (w : World) (hA : Arg8 w a0 32 c0 k) (hB : Arg8 w a1 16 c1 b) :
    Calls Try.prog 5 #[.slice a0 (32 : Nat) c0, .slice a1 (16 : Nat) c1] w fun e w' => e = .returned (.bool true) ∧ Below w.heap.size w w' := by
  have hmk := make16
  have HA := Lib.hid hA
  have HB := Lib.hid hB
  clear hA hB
  go_enter Try.func5, Try.ntmps5
  go_upto_region 4 with (first
    | (go_at_call 9; (with_reducible refine (livesK_any _).mono ?_); rintro e w1 ⟨rfl, hb⟩; have HB1 := Lib.hid hb; clear hb)
    | (go_at_call 12; (with_reducible refine (new_any _).mono ?_); rintro e w2 ⟨fb, rfl, hb0, hf, hbel⟩; have HF2 := Lib.hid hf; have HB2 := Lib.hid (bt HB1.out hbel); clear hf hb0 hbel))
  have HA2 := Lib.hid (HA.out.on HB2.out)
  go_upto_region 8 with (go_at_call 11; (with_reducible refine (new_arg fb a0 32 c0 k w2 HF2.out HA2.out (Or.inr rfl)).mono ?_); rintro e w3 ⟨b0, rfl, hc, hb⟩; have HB3 := Lib.hid (bt HB2.out hb); have HF3 := Lib.hid (HF2.out.below hb); clear hc hb)
  have HM4 := Lib.hid (made16 w3)
  have HBM4 := Lib.hid (bt HB3.out (made_below w3))
  have HF4 := Lib.hid (HF3.out.below (made_below w3))
  go_upto_region 9 with (go_at_call 11; (with_reducible refine (new_arg fb _ 16 16 (List.replicate 16 0) _ HF4.out HM4.out (Or.inl rfl)).mono ?_); rintro e w5 ⟨d, rfl, hc, hb⟩; have HC5 := Lib.hid hc; have HB5 := Lib.hid (bt HBM4.out hb); clear hc hb)
  have HX5 := Lib.hid (HB.out.on HB5.out)
  have HQ5 := Lib.hid (show Cip w5 d ((List.replicate 16 (0 : Int)).length / 4 + 6) (keyW (List.replicate 16 0)) from HC5.out)
  go_upto_region 10 with (go_at_call 13; (with_reducible refine (enc_arg d (List.replicate 16 0) a1 c1 b w5 HC5.out (Or.inl rfl) noughts_B HX5.out).mono ?_); rintro e w6 ⟨g6, rfl, ho, hb⟩; have HB6 := Lib.hid (bt HB5.out hb); have HC6 := Lib.hid (HC5.out.on hb); have HX6 := Lib.hid (HX5.out.on hb); clear ho hb)
  go_upto_region 14 with (go_at_call 14; (with_reducible refine (dec_arg d (List.replicate 16 0) a1 c1 b w6 HC6.out (Or.inl rfl) noughts_B HX6.out).mono ?_); rintro e w7 ⟨g7, rfl, ho, hb⟩; have HB7 := Lib.hid (bt HB6.out hb); clear ho hb)
  have HBM8 := Lib.hid (bt HB7.out (made_below w7))
  go_upto_region 16 with (go_at_call 13; (with_reducible refine (encrypt_nil _ 16 16 _ (by decide)).mono ?_); rintro e w8 ⟨rfl, hb⟩; have HB8 := Lib.hid (bt HBM8.out hb); clear hb)
  have HBM9 := Lib.hid (bt HB8.out (made_below w8))
  go_upto_region 17 with (go_at_call 14; (with_reducible refine (decrypt_nil _ 16 16 _ (by decide)).mono ?_); rintro e w9 ⟨rfl, hb⟩; have HB9 := Lib.hid (bt HBM9.out hb); clear hb)
  have HB10 := Lib.hid (bt HB9.out (made_below w9))
  go_wp2_with (first
    | (go_at_call 11; (with_reducible refine (new_nil _ 16 16 _).mono ?_); rintro e w10 ⟨rfl, rfl⟩)
    | (go_at_call 16; (with_reducible refine (rounds_nil _).mono ?_); rintro e w11 ⟨rfl, rfl⟩))
  go_ret
  exact ⟨rfl, HB10.out⟩
set_option maxHeartbeats 2000000 in
theorem forms_x_16 (a0 : Option Addr) (c0 : Nat) (L0 : Nat) (hk1 : L0 ≠ 16) (hk2 : L0 ≠ 32) (hk3 : L0 ≤ 100) (a1 : Option Addr) (c1 : Nat) (k b : List Int) (w : World) (hA : Arg8 w a0 L0 c0 k) (hB : Arg8 w a1 16 c1 b) :
    Calls Try.prog 5 #[.slice a0 (L0 : Nat) c0, .slice a1 (16 : Nat) c1] w fun e w' => e = .returned (.bool true) ∧ Below w.heap.size w w' := by
  have hmk := make16
  have HA := Lib.hid hA
  have HB := Lib.hid hB
  have q1 : ((L0 : Int) == 16) = false := by rw [beq_eq_false_iff_ne]; omega
  have q2 : ((L0 : Int) == 32) = false := by rw [beq_eq_false_iff_ne]; omega
  have q3 : ¬ (100 : Int) < (L0 : Int) := by omega
  have hLm : L0 ≤ 9223372036854775807 := by omega
  have HNW := Lib.hid (fun fb W => new_form fb a0 L0 c0 W hk1 hk2 hLm)
  clear hk1 hk2 hk3 hLm
  clear hA hB
  go_enter Try.func5, Try.ntmps5
  go_upto_region 4 with (first
    | (go_at_call 9; (with_reducible refine (livesK_any _).mono ?_); rintro e w1 ⟨rfl, hb⟩; have HB1 := Lib.hid hb; clear hb)
    | (go_at_call 12; (with_reducible refine (new_any _).mono ?_); rintro e w2 ⟨fb, rfl, hb0, hf, hbel⟩; have HF2 := Lib.hid hf; have HB2 := Lib.hid (bt HB1.out hbel); clear hf hb0 hbel))
  have HA2 := Lib.hid (HA.out.on HB2.out)
  go_upto_region 8 with (go_at_call 11; (with_reducible refine (HNW.out fb w2).mono ?_); rintro e w3 ⟨rfl, rfl⟩)
  have HB3 := HB2
  have HF3 := HF2
  have HM4 := Lib.hid (made16 w2)
  have HBM4 := Lib.hid (bt HB3.out (made_below w2))
  have HF4 := Lib.hid (HF3.out.below (made_below w2))
  go_upto_region 9 with (go_at_call 11; (with_reducible refine (new_arg fb _ 16 16 (List.replicate 16 0) _ HF4.out HM4.out (Or.inl rfl)).mono ?_); rintro e w5 ⟨d, rfl, hc, hb⟩; have HC5 := Lib.hid hc; have HB5 := Lib.hid (bt HBM4.out hb); clear hc hb)
  have HX5 := Lib.hid (HB.out.on HB5.out)
  have HQ5 := Lib.hid (show Cip w5 d ((List.replicate 16 (0 : Int)).length / 4 + 6) (keyW (List.replicate 16 0)) from HC5.out)
  go_upto_region 10 with (go_at_call 13; (with_reducible refine (enc_arg d (List.replicate 16 0) a1 c1 b w5 HC5.out (Or.inl rfl) noughts_B HX5.out).mono ?_); rintro e w6 ⟨g6, rfl, ho, hb⟩; have HB6 := Lib.hid (bt HB5.out hb); have HC6 := Lib.hid (HC5.out.on hb); have HX6 := Lib.hid (HX5.out.on hb); clear ho hb)
  go_upto_region 14 with (go_at_call 14; (with_reducible refine (dec_arg d (List.replicate 16 0) a1 c1 b w6 HC6.out (Or.inl rfl) noughts_B HX6.out).mono ?_); rintro e w7 ⟨g7, rfl, ho, hb⟩; have HB7 := Lib.hid (bt HB6.out hb); clear ho hb)
  have HBM8 := Lib.hid (bt HB7.out (made_below w7))
  go_upto_region 16 with (go_at_call 13; (with_reducible refine (encrypt_nil _ 16 16 _ (by decide)).mono ?_); rintro e w8 ⟨rfl, hb⟩; have HB8 := Lib.hid (bt HBM8.out hb); clear hb)
  have HBM9 := Lib.hid (bt HB8.out (made_below w8))
  go_upto_region 17 with (go_at_call 14; (with_reducible refine (decrypt_nil _ 16 16 _ (by decide)).mono ?_); rintro e w9 ⟨rfl, hb⟩; have HB9 := Lib.hid (bt HBM9.out hb); clear hb)
  have HB10 := Lib.hid (bt HB9.out (made_below w9))
  go_wp2_with (first
    | (go_at_call 11; (with_reducible refine (new_nil _ 16 16 _).mono ?_); rintro e w10 ⟨rfl, rfl⟩)
    | (go_at_call 16; (with_reducible refine (rounds_nil _).mono ?_); rintro e w11 ⟨rfl, rfl⟩))
  go_ret
  exact ⟨rfl, HB10.out⟩
set_option maxHeartbeats 2000000 in
theorem forms_16_x (a0 : Option Addr) (c0 : Nat) (a1 : Option Addr) (c1 : Nat) (L1 : Nat) (hb1 : L1 ≠ 16) (hb2 : L1 ≤ 100) (k b : List Int) (w : World) (hA : Arg8 w a0 16 c0 k) (hB : Arg8 w a1 L1 c1 b) :
    Calls Try.prog 5 #[.slice a0 (16 : Nat) c0, .slice a1 (L1 : Nat) c1] w fun e w' => e = .returned (.bool true) ∧ Below w.heap.size w w' := by
  have hmk := make16
  have HA := Lib.hid hA
  have HB := Lib.hid hB
  have q4 : ((L1 : Int) == 16) = false := by rw [beq_eq_false_iff_ne]; omega
  have q6 : ¬ (100 : Int) < (L1 : Int) := by omega
  have hLn : L1 ≤ 9223372036854775807 := by omega
  have HEF := Lib.hid (fun bb n W V h => encrypt_form bb n W a1 L1 c1 V h hb1 hLn)
  have HDF := Lib.hid (fun bb n W V h => decrypt_form bb n W a1 L1 c1 V h hb1 hLn)
  clear hb1 hb2 hLn
  clear hA hB
  go_enter Try.func5, Try.ntmps5
  go_upto_region 4 with (first
    | (go_at_call 9; (with_reducible refine (livesK_any _).mono ?_); rintro e w1 ⟨rfl, hb⟩; have HB1 := Lib.hid hb; clear hb)
    | (go_at_call 12; (with_reducible refine (new_any _).mono ?_); rintro e w2 ⟨fb, rfl, hb0, hf, hbel⟩; have HF2 := Lib.hid hf; have HB2 := Lib.hid (bt HB1.out hbel); clear hf hb0 hbel))
  have HA2 := Lib.hid (HA.out.on HB2.out)
  go_upto_region 8 with (go_at_call 11; (with_reducible refine (new_arg fb a0 16 c0 k w2 HF2.out HA2.out (Or.inl rfl)).mono ?_); rintro e w3 ⟨b0, rfl, hc, hb⟩; have HB3 := Lib.hid (bt HB2.out hb); have HF3 := Lib.hid (HF2.out.below hb); clear hc hb)
  have HM4 := Lib.hid (made16 w3)
  have HBM4 := Lib.hid (bt HB3.out (made_below w3))
  have HF4 := Lib.hid (HF3.out.below (made_below w3))
  go_upto_region 9 with (go_at_call 11; (with_reducible refine (new_arg fb _ 16 16 (List.replicate 16 0) _ HF4.out HM4.out (Or.inl rfl)).mono ?_); rintro e w5 ⟨d, rfl, hc, hb⟩; have HC5 := Lib.hid hc; have HB5 := Lib.hid (bt HBM4.out hb); clear hc hb)
  have HX5 := Lib.hid (HB.out.on HB5.out)
  have HQ5 := Lib.hid (show Cip w5 d ((List.replicate 16 (0 : Int)).length / 4 + 6) (keyW (List.replicate 16 0)) from HC5.out)
  go_upto_region 10 with (go_at_call 13; (with_reducible refine (HEF.out d _ _ w5 HQ5.out).mono ?_); rintro e w6 ⟨rfl, hb⟩; have HB6 := Lib.hid (bt HB5.out hb); have HC6 := Lib.hid (HC5.out.on hb); clear hb)
  have HQ6 := Lib.hid (show Cip w6 d ((List.replicate 16 (0 : Int)).length / 4 + 6) (keyW (List.replicate 16 0)) from HC6.out)
  go_upto_region 14 with (go_at_call 14; (with_reducible refine (HDF.out d _ _ w6 HQ6.out).mono ?_); rintro e w7 ⟨rfl, hb⟩; have HB7 := Lib.hid (bt HB6.out hb); clear hb)
  have HBM8 := Lib.hid (bt HB7.out (made_below w7))
  go_upto_region 16 with (go_at_call 13; (with_reducible refine (encrypt_nil _ 16 16 _ (by decide)).mono ?_); rintro e w8 ⟨rfl, hb⟩; have HB8 := Lib.hid (bt HBM8.out hb); clear hb)
  have HBM9 := Lib.hid (bt HB8.out (made_below w8))
  go_upto_region 17 with (go_at_call 14; (with_reducible refine (decrypt_nil _ 16 16 _ (by decide)).mono ?_); rintro e w9 ⟨rfl, hb⟩; have HB9 := Lib.hid (bt HBM9.out hb); clear hb)
  have HB10 := Lib.hid (bt HB9.out (made_below w9))
  go_wp2_with (first
    | (go_at_call 11; (with_reducible refine (new_nil _ 16 16 _).mono ?_); rintro e w10 ⟨rfl, rfl⟩)
    | (go_at_call 16; (with_reducible refine (rounds_nil _).mono ?_); rintro e w11 ⟨rfl, rfl⟩))
  go_ret
  exact ⟨rfl, HB10.out⟩
set_option maxHeartbeats 2000000 in
theorem forms_32_x (a0 : Option Addr) (c0 : Nat) (a1 : Option Addr) (c1 : Nat) (L1 : Nat) (hb1 : L1 ≠ 16) (hb2 : L1 ≤ 100) (k b : List Int) (w : World) (hA : Arg8 w a0 32 c0 k) (hB : Arg8 w a1 L1 c1 b) :
    Calls Try.prog 5 #[.slice a0 (32 : Nat) c0, .slice a1 (L1 : Nat) c1] w fun e w' => e = .returned (.bool true) ∧ Below w.heap.size w w' := by
  have hmk := make16
  have HA := Lib.hid hA
  have HB := Lib.hid hB
  have q4 : ((L1 : Int) == 16) = false := by rw [beq_eq_false_iff_ne]; omega
  have q6 : ¬ (100 : Int) < (L1 : Int) := by omega
  have hLn : L1 ≤ 9223372036854775807 := by omega
  have HEF := Lib.hid (fun bb n W V h => encrypt_form bb n W a1 L1 c1 V h hb1 hLn)
  have HDF := Lib.hid (fun bb n W V h => decrypt_form bb n W a1 L1 c1 V h hb1 hLn)
  clear hb1 hb2 hLn
  clear hA hB
  go_enter Try.func5, Try.ntmps5
  go_upto_region 4 with (first
    | (go_at_call 9; (with_reducible refine (livesK_any _).mono ?_); rintro e w1 ⟨rfl, hb⟩; have HB1 := Lib.hid hb; clear hb)
    | (go_at_call 12; (with_reducible refine (new_any _).mono ?_); rintro e w2 ⟨fb, rfl, hb0, hf, hbel⟩; have HF2 := Lib.hid hf; have HB2 := Lib.hid (bt HB1.out hbel); clear hf hb0 hbel))
  have HA2 := Lib.hid (HA.out.on HB2.out)
  go_upto_region 8 with (go_at_call 11; (with_reducible refine (new_arg fb a0 32 c0 k w2 HF2.out HA2.out (Or.inr rfl)).mono ?_); rintro e w3 ⟨b0, rfl, hc, hb⟩; have HB3 := Lib.hid (bt HB2.out hb); have HF3 := Lib.hid (HF2.out.below hb); clear hc hb)
  have HM4 := Lib.hid (made16 w3)
  have HBM4 := Lib.hid (bt HB3.out (made_below w3))
  have HF4 := Lib.hid (HF3.out.below (made_below w3))
  go_upto_region 9 with (go_at_call 11; (with_reducible refine (new_arg fb _ 16 16 (List.replicate 16 0) _ HF4.out HM4.out (Or.inl rfl)).mono ?_); rintro e w5 ⟨d, rfl, hc, hb⟩; have HC5 := Lib.hid hc; have HB5 := Lib.hid (bt HBM4.out hb); clear hc hb)
  have HX5 := Lib.hid (HB.out.on HB5.out)
  have HQ5 := Lib.hid (show Cip w5 d ((List.replicate 16 (0 : Int)).length / 4 + 6) (keyW (List.replicate 16 0)) from HC5.out)
  go_upto_region 10 with (go_at_call 13; (with_reducible refine (HEF.out d _ _ w5 HQ5.out).mono ?_); rintro e w6 ⟨rfl, hb⟩; have HB6 := Lib.hid (bt HB5.out hb); have HC6 := Lib.hid (HC5.out.on hb); clear hb)
  have HQ6 := Lib.hid (show Cip w6 d ((List.replicate 16 (0 : Int)).length / 4 + 6) (keyW (List.replicate 16 0)) from HC6.out)
  go_upto_region 14 with (go_at_call 14; (with_reducible refine (HDF.out d _ _ w6 HQ6.out).mono ?_); rintro e w7 ⟨rfl, hb⟩; have HB7 := Lib.hid (bt HB6.out hb); clear hb)
  have HBM8 := Lib.hid (bt HB7.out (made_below w7))
  go_upto_region 16 with (go_at_call 13; (with_reducible refine (encrypt_nil _ 16 16 _ (by decide)).mono ?_); rintro e w8 ⟨rfl, hb⟩; have HB8 := Lib.hid (bt HBM8.out hb); clear hb)
  have HBM9 := Lib.hid (bt HB8.out (made_below w8))
  go_upto_region 17 with (go_at_call 14; (with_reducible refine (decrypt_nil _ 16 16 _ (by decide)).mono ?_); rintro e w9 ⟨rfl, hb⟩; have HB9 := Lib.hid (bt HBM9.out hb); clear hb)
  have HB10 := Lib.hid (bt HB9.out (made_below w9))
  go_wp2_with (first
    | (go_at_call 11; (with_reducible refine (new_nil _ 16 16 _).mono ?_); rintro e w10 ⟨rfl, rfl⟩)
    | (go_at_call 16; (with_reducible refine (rounds_nil _).mono ?_); rintro e w11 ⟨rfl, rfl⟩))
  go_ret
  exact ⟨rfl, HB10.out⟩
set_option maxHeartbeats 2000000 in
theorem forms_x_x (a0 : Option Addr) (c0 : Nat) (L0 : Nat) (hk1 : L0 ≠ 16) (hk2 : L0 ≠ 32) (hk3 : L0 ≤ 100) (a1 : Option Addr) (c1 : Nat) (L1 : Nat) (hb1 : L1 ≠ 16) (hb2 : L1 ≤ 100) (k b : List Int) (w : World) (hA : Arg8 w a0 L0 c0 k) (hB : Arg8 w a1 L1 c1 b) :
    Calls Try.prog 5 #[.slice a0 (L0 : Nat) c0, .slice a1 (L1 : Nat) c1] w fun e w' => e = .returned (.bool true) ∧ Below w.heap.size w w' := by
  have hmk := make16
  have HA := Lib.hid hA
  have HB := Lib.hid hB
  have q1 : ((L0 : Int) == 16) = false := by rw [beq_eq_false_iff_ne]; omega
  have q2 : ((L0 : Int) == 32) = false := by rw [beq_eq_false_iff_ne]; omega
  have q3 : ¬ (100 : Int) < (L0 : Int) := by omega
  have hLm : L0 ≤ 9223372036854775807 := by omega
  have HNW := Lib.hid (fun fb W => new_form fb a0 L0 c0 W hk1 hk2 hLm)
  clear hk1 hk2 hk3 hLm
  have q4 : ((L1 : Int) == 16) = false := by rw [beq_eq_false_iff_ne]; omega
  have q6 : ¬ (100 : Int) < (L1 : Int) := by omega
  have hLn : L1 ≤ 9223372036854775807 := by omega
  have HEF := Lib.hid (fun bb n W V h => encrypt_form bb n W a1 L1 c1 V h hb1 hLn)
  have HDF := Lib.hid (fun bb n W V h => decrypt_form bb n W a1 L1 c1 V h hb1 hLn)
  clear hb1 hb2 hLn
  clear hA hB
  go_enter Try.func5, Try.ntmps5
  go_upto_region 4 with (first
    | (go_at_call 9; (with_reducible refine (livesK_any _).mono ?_); rintro e w1 ⟨rfl, hb⟩; have HB1 := Lib.hid hb; clear hb)
    | (go_at_call 12; (with_reducible refine (new_any _).mono ?_); rintro e w2 ⟨fb, rfl, hb0, hf, hbel⟩; have HF2 := Lib.hid hf; have HB2 := Lib.hid (bt HB1.out hbel); clear hf hb0 hbel))
  have HA2 := Lib.hid (HA.out.on HB2.out)
  go_upto_region 8 with (go_at_call 11; (with_reducible refine (HNW.out fb w2).mono ?_); rintro e w3 ⟨rfl, rfl⟩)
  have HB3 := HB2
  have HF3 := HF2
  have HM4 := Lib.hid (made16 w2)
  have HBM4 := Lib.hid (bt HB3.out (made_below w2))
  have HF4 := Lib.hid (HF3.out.below (made_below w2))
  go_upto_region 9 with (go_at_call 11; (with_reducible refine (new_arg fb _ 16 16 (List.replicate 16 0) _ HF4.out HM4.out (Or.inl rfl)).mono ?_); rintro e w5 ⟨d, rfl, hc, hb⟩; have HC5 := Lib.hid hc; have HB5 := Lib.hid (bt HBM4.out hb); clear hc hb)
  have HX5 := Lib.hid (HB.out.on HB5.out)
  have HQ5 := Lib.hid (show Cip w5 d ((List.replicate 16 (0 : Int)).length / 4 + 6) (keyW (List.replicate 16 0)) from HC5.out)
  go_upto_region 10 with (go_at_call 13; (with_reducible refine (HEF.out d _ _ w5 HQ5.out).mono ?_); rintro e w6 ⟨rfl, hb⟩; have HB6 := Lib.hid (bt HB5.out hb); have HC6 := Lib.hid (HC5.out.on hb); clear hb)
  have HQ6 := Lib.hid (show Cip w6 d ((List.replicate 16 (0 : Int)).length / 4 + 6) (keyW (List.replicate 16 0)) from HC6.out)
  go_upto_region 14 with (go_at_call 14; (with_reducible refine (HDF.out d _ _ w6 HQ6.out).mono ?_); rintro e w7 ⟨rfl, hb⟩; have HB7 := Lib.hid (bt HB6.out hb); clear hb)
  have HBM8 := Lib.hid (bt HB7.out (made_below w7))
  go_upto_region 16 with (go_at_call 13; (with_reducible refine (encrypt_nil _ 16 16 _ (by decide)).mono ?_); rintro e w8 ⟨rfl, hb⟩; have HB8 := Lib.hid (bt HBM8.out hb); clear hb)
  have HBM9 := Lib.hid (bt HB8.out (made_below w8))
  go_upto_region 17 with (go_at_call 14; (with_reducible refine (decrypt_nil _ 16 16 _ (by decide)).mono ?_); rintro e w9 ⟨rfl, hb⟩; have HB9 := Lib.hid (bt HBM9.out hb); clear hb)
  have HB10 := Lib.hid (bt HB9.out (made_below w9))
  go_wp2_with (first
    | (go_at_call 11; (with_reducible refine (new_nil _ 16 16 _).mono ?_); rintro e w10 ⟨rfl, rfl⟩)
    | (go_at_call 16; (with_reducible refine (rounds_nil _).mono ?_); rintro e w11 ⟨rfl, rfl⟩))
  go_ret
  exact ⟨rfl, HB10.out⟩
theorem cipherForms_walk (a0 : Option Addr) (L0 c0 : Nat) (a1 : Option Addr) (L1 c1 : Nat) (w : World) (w0 : ∃ l, Arg8c w a0 L0 c0 l) (w1 : ∃ l, Arg8c w a1 L1 c1 l) :
    Calls Try.prog 5 #[.slice a0 L0 c0, .slice a1 L1 c1] w fun e w' => e = .returned (.bool true) ∧ Below w.heap.size w w' := by
  obtain ⟨k, hk, _⟩ := w0
  obtain ⟨b, hb, _⟩ := w1
  by_cases h : 100 < L0 ∨ 100 < L1
  · exact forms_long a0 L0 c0 a1 L1 c1 w h
  · by_cases e1 : L1 = 16
    · subst e1
      by_cases e2 : L0 = 16
      · subst e2; exact forms_16_16 a0 c0 a1 c1 k b w hk hb
      · by_cases e3 : L0 = 32
        · subst e3; exact forms_32_16 a0 c0 a1 c1 k b w hk hb
        · exact forms_x_16 a0 c0 L0 e2 e3 (by omega) a1 c1 k b w hk hb
    · by_cases e2 : L0 = 16
      · subst e2; exact forms_16_x a0 c0 a1 c1 L1 e1 (by omega) k b w hk hb
      · by_cases e3 : L0 = 32
        · subst e3; exact forms_32_x a0 c0 a1 c1 L1 e1 (by omega) k b w hk hb
        · exact forms_x_x a0 c0 L0 e2 e3 (by omega) a1 c1 L1 e1 (by omega) k b w hk hb
end Go.Proofs.Ytpfhfnhbholboaa
