/- Contracts of the document's answers for layer 1: Bit, Count, Turn. -/
import Derived.Test.YtdapcnffiapgpaaBits
import Derived.Test.YtdapcnffiapgpaaPop
namespace Go.Proofs.Ytdapcnffiapgpaa
open Go.ChangeShapes Go.WideShapes Go.ChangeAt Go.RowKit
set_option linter.unusedVariables false

theorem refBit (X i : Nat) (hX : X < 2 ^ 64) (hi : i ≤ 1000) (w : World) : Calls Try.prog 53 #[.int .u64 (X : Nat), .int .i64 (i : Nat)] w fun e w' => e = .returned (.int .u64 (bitAt X i : Nat)) ∧ w = w' := by
  go_enter Try.func53, Try.ntmps53
  go_wp2
  go_loop [0, 1] (fun x k => ∃ j : Nat, j ≤ i ∧ k = .int .i64 (j : Nat) ∧ x = .int .u64 ((X / 2 ^ (i - j) : Nat) : Int)) (fun _ k => (intOf k).toNat)
  case atStart => exact ⟨i, Nat.le_refl _, rfl, by simp⟩
  case round =>
    obtain ⟨j, hj, rfl, rfl⟩ := hrel
    obtain ⟨Y, hY⟩ : ∃ Y, Y = X / 2 ^ (i - j) := ⟨_, rfl⟩
    have hYl : Y < 18446744073709551616 := by rw [hY]; exact Nat.lt_of_le_of_lt (Nat.div_le_self _ _) hX
    rw [← hY]
    have HY := Lib.hid hY
    clear hY
    by_cases h0 : 0 < j
    · go_wp2
      go_round
      case rel =>
        refine ⟨j - 1, by omega, by go_num, ?_⟩
        obtain ⟨k, rfl⟩ : ∃ k, j = k + 1 := ⟨j - 1, by omega⟩
        have hy := HY.out
        have e2 : i - k = i - (k + 1) + 1 := by omega
        rw [Nat.add_sub_cancel, e2, Nat.pow_succ, ← Nat.div_div_eq_div_mul, ← hy]
        simp
      case measure => simp [intOf]; omega
    · obtain rfl : j = 0 := by omega
      go_wp2
      go_ret
      refine ⟨ret_int ?_, rfl⟩
      rw [HY.out]; simp [bitAt]
theorem refCount (X : Nat) (hX : X < 2 ^ 64) (w : World) : Calls Try.prog 42 #[.int .u64 (X : Nat)] w fun e w' => e = .returned (.int .i64 (pop 64 X : Nat)) ∧ w = w' := by
  go_enter Try.func42, Try.ntmps42
  go_wp2
  go_loop [3, 4] (fun n i => ∃ k : Nat, k ≤ 64 ∧ i = .int .i64 (k : Nat) ∧ n = .int .i64 ((sumB (bitAt X) k : Nat) : Int)) (fun _ i => 64 - (intOf i).toNat)
  case atStart => exact ⟨0, by omega, rfl, rfl⟩
  case round =>
    obtain ⟨k, hk, rfl, rfl⟩ := hrel
    obtain ⟨S, hS⟩ : ∃ S, S = sumB (bitAt X) k := ⟨_, rfl⟩
    have hSl : S ≤ 64 := by rw [hS]; exact Nat.le_trans (sumB_le fun i _ => bitAt_le X i) hk
    have hB := bitAt_le X k
    rw [← hS]
    have HS := Lib.hid hS
    clear hS
    by_cases hlt : k < 64
    · go_wp2_with (go_at_call 53; refine (refBit _ _ hX (by omega) _).mono ?_; rintro e w' ⟨rfl, rfl⟩)
      go_round
      case rel =>
        refine ⟨k + 1, by omega, by go_num, ?_⟩
        have hs := HS.out
        simp only [sumB]
        rw [← hs]; simp
      case measure => simp [intOf]; omega
    · obtain rfl : k = 64 := by omega
      go_wp2
      go_ret
      refine ⟨ret_int ?_, rfl⟩
      rw [HS.out]; rfl
theorem refBitI (X : Nat) (I : Int) (hX : X < 2 ^ 64) (h0 : 0 ≤ I) (h1 : I ≤ 1000) (w : World) : Calls Try.prog 53 #[.int .u64 (X : Nat), .int .i64 I] w fun e w' => e = .returned (.int .u64 (bitAt X I.toNat : Nat)) ∧ w = w' := by
  obtain ⟨i, rfl⟩ := Int.eq_ofNat_of_zero_le h0
  exact refBit X i hX (by omega) w
/-- The place that the document's answer reads is the turned word's. -/
theorem from_eq (K k : Nat) (n : Int) (hk : k < K) : (((k : Int) - n.tmod K + 2 * K) % K).toNat = (k + K - (n % (K : Int)).toNat % K) % K := by
  have hK : (0 : Int) < K := by omega
  have a := Int.emod_nonneg n (show (K : Int) ≠ 0 by omega)
  have b := Int.emod_lt_of_pos n hK
  have c : (n % (K : Int)).toNat % K = (n % (K : Int)).toNat := Nat.mod_eq_of_lt (by omega)
  rw [c]
  apply Int.ofNat.inj
  show ((((k : Int) - n.tmod K + 2 * K) % K).toNat : Int) = (((k + K - (n % (K : Int)).toNat) % K : Nat) : Int)
  rw [Int.toNat_of_nonneg (Int.emod_nonneg _ (by omega)), Int.natCast_emod, Int.ofNat_sub (by omega), Int.natCast_add, Int.toNat_of_nonneg a]
  apply Int.emod_eq_emod_iff_emod_sub_eq_zero.2
  have d : n.tmod K = n - K * n.tdiv K := by have := Int.tmod_add_mul_tdiv n K; omega
  have e : n % K = n - K * (n / K) := by have := Int.emod_add_mul_ediv n K; omega
  rw [d, e]
  have : (k : Int) - (n - K * n.tdiv K) + 2 * K - (k + K - (n - K * (n / K))) = K * (n.tdiv K + 1 - n / K) := by
    rw [Int.mul_sub, Int.mul_add]; omega
  rw [this]; exact Int.mul_emod_right _ _
theorem turn_zero {O k B R : Nat} (hO : O = R % 2 ^ k) (hB : bitAt R k = B) (h0 : B = 0) : O = R % 2 ^ (k + 1) := by
  rw [mod_pow_succ', hB, h0, ← hO]; omega
theorem turn_one {O k B R : Nat} (hO : O = R % 2 ^ k) (hB : bitAt R k = B) (h0 : B = 1) : O + 2 ^ k = R % 2 ^ (k + 1) := by
  rw [mod_pow_succ', hB, h0, ← hO]; omega

theorem refTurn8 (X : Nat) (n : Int) (hX : X < 2 ^ 8) (wn : (Lit.int .i64 n).wf = true) (w : World) : Calls Try.prog 40 #[.int .u64 (X : Nat), .int .i64 8, .int .i64 n] w fun e w' => e = .returned (.int .u64 (rotI 8 X n)) ∧ w = w' := by
  obtain ⟨n0, n1⟩ := wf_i64 wn
  clear wn
  have t0 : -8 < n.tmod 8 := Int.lt_tmod_of_pos _ (by omega)
  have t1 : n.tmod 8 < 8 := Int.tmod_lt_of_pos _ (by omega)
  have hX' : X < 2 ^ 64 := Nat.lt_of_lt_of_le hX (by decide)
  obtain ⟨R, hR⟩ : ∃ R, R = rot 8 X (n % (8 : Nat)).toNat := ⟨_, rfl⟩
  have hRl : R < 2 ^ 8 := by rw [hR]; exact rot_lt hX
  have hRb : ∀ k : Nat, k < 8 → bitAt X (((k : Int) - n.tmod 8 + 16) % 8).toNat = bitAt R k := by
    intro k hk
    rw [hR, rot_bitAt hX (by omega) hk]
    have := from_eq 8 k n hk
    exact congrArg (bitAt X) this
  have HR := Lib.hid hR
  have HRB := Lib.hid hRb
  clear hR hRb
  go_enter Try.func40, Try.ntmps40
  go_wp2
  go_loop [7, 8, 9] (fun o p i => ∃ k O P : Nat, k ≤ 8 ∧ i = .int .i64 (k : Nat) ∧ o = .int .u64 (O : Nat) ∧ p = .int .u64 (P : Nat) ∧ O = R % 2 ^ k ∧ (k < 8 → P = 2 ^ k)) (fun _ _ i => 8 - (intOf i).toNat)
  case atStart => exact ⟨0, 0, 1, by omega, rfl, rfl, rfl, by simp [Nat.mod_one], fun _ => rfl⟩
  case round =>
    obtain ⟨k, O, P, hk, rfl, rfl, rfl, hO, hP⟩ := hrel
    have HO := Lib.hid hO
    have HP := Lib.hid hP
    clear hO hP
    by_cases hlt : k < 8
    · obtain ⟨B, hB⟩ : ∃ B, bitAt X (((k : Int) - n.tmod 8 + 16) % 8).toNat = B := ⟨_, rfl⟩
      have hB1 : B ≤ 1 := by rw [← hB]; exact bitAt_le _ _
      have hBR := Lib.hid ((HRB.out k hlt).symm.trans hB)
      have hP2 : P < 18446744073709551616 := by
        rw [HP.out hlt]
        exact Nat.lt_of_lt_of_le (Nat.pow_lt_pow_right (by omega) hlt) (by decide)
      have hOl : O < 18446744073709551616 := by
        rw [HO.out]
        exact Nat.lt_of_le_of_lt (Nat.mod_le _ _) (Nat.lt_of_lt_of_le hRl (by decide))
      have hf1 := Int.emod_nonneg ((k : Int) - n.tmod 8 + 16) (show (8 : Int) ≠ 0 by omega)
      have hf2 := Int.emod_lt_of_pos ((k : Int) - n.tmod 8 + 16) (show (0 : Int) < 8 by omega)
      rcases (by omega : B = 0 ∨ B = 1) with hb | hb
      · have N := Lib.hid (turn_zero HO.out hBR.out hb)
        subst hb
        have hPk : k + 1 < 8 → P * 2 < 18446744073709551616 := by
          intro h; rw [HP.out hlt, ← Nat.pow_succ]
          exact Nat.lt_of_lt_of_le (Nat.pow_lt_pow_right (by omega) h) (by decide)
        by_cases hl2 : k + 1 < 8
        all_goals
          have hPk' := Lib.hid hPk
          clear hPk
          go_wp2_with (go_at_call 53; refine (refBitI X _ hX' (by omega) (by omega) _).mono ?_; rintro e w' ⟨rfl, rfl⟩)
          go_round
          case rel =>
            refine ⟨k + 1, O, (P * 2) % 18446744073709551616, by omega, by go_num, by go_num, ?_, N.out, fun h => ?_⟩
            · first | go_num | (congr 1; simp [IntKind.wrap_u64])
            · have := hPk'.out h; have := HP.out hlt; rw [Nat.mod_eq_of_lt (hPk'.out h), Nat.pow_succ]; omega
          case measure => simp [intOf]; omega
      · have N := Lib.hid (turn_one HO.out hBR.out hb)
        have hsum : O + P < 18446744073709551616 := by
          have e := N.out
          rw [← HP.out hlt] at e
          rw [e]
          exact Nat.lt_of_le_of_lt (Nat.mod_le _ _) (Nat.lt_of_lt_of_le hRl (by decide))
        subst hb
        have hPk : k + 1 < 8 → P * 2 < 18446744073709551616 := by
          intro h; rw [HP.out hlt, ← Nat.pow_succ]
          exact Nat.lt_of_lt_of_le (Nat.pow_lt_pow_right (by omega) h) (by decide)
        by_cases hl2 : k + 1 < 8
        all_goals
          have hPk' := Lib.hid hPk
          clear hPk
          go_wp2_with (go_at_call 53; refine (refBitI X _ hX' (by omega) (by omega) _).mono ?_; rintro e w' ⟨rfl, rfl⟩)
          go_round
          case rel =>
            refine ⟨k + 1, O + P, (P * 2) % 18446744073709551616, by omega, by go_num, by go_num, ?_, ?_, fun h => ?_⟩
            · first | go_num | (congr 1; simp [IntKind.wrap_u64])
            · have e := N.out
              rw [← HP.out hlt] at e
              exact e
            · have := hPk'.out h; have := HP.out hlt; rw [Nat.mod_eq_of_lt (hPk'.out h), Nat.pow_succ]; omega
          case measure => simp [intOf]; omega
    · obtain rfl : k = 8 := by omega
      go_wp2
      go_ret
      refine ⟨ret_int ?_, rfl⟩
      rw [HO.out, Nat.mod_eq_of_lt hRl, HR.out]
      rfl

theorem refTurn16 (X : Nat) (n : Int) (hX : X < 2 ^ 16) (wn : (Lit.int .i64 n).wf = true) (w : World) : Calls Try.prog 40 #[.int .u64 (X : Nat), .int .i64 16, .int .i64 n] w fun e w' => e = .returned (.int .u64 (rotI 16 X n)) ∧ w = w' := by
  obtain ⟨n0, n1⟩ := wf_i64 wn
  clear wn
  have t0 : -16 < n.tmod 16 := Int.lt_tmod_of_pos _ (by omega)
  have t1 : n.tmod 16 < 16 := Int.tmod_lt_of_pos _ (by omega)
  have hX' : X < 2 ^ 64 := Nat.lt_of_lt_of_le hX (by decide)
  obtain ⟨R, hR⟩ : ∃ R, R = rot 16 X (n % (16 : Nat)).toNat := ⟨_, rfl⟩
  have hRl : R < 2 ^ 16 := by rw [hR]; exact rot_lt hX
  have hRb : ∀ k : Nat, k < 16 → bitAt X (((k : Int) - n.tmod 16 + 32) % 16).toNat = bitAt R k := by
    intro k hk
    rw [hR, rot_bitAt hX (by omega) hk]
    have := from_eq 16 k n hk
    exact congrArg (bitAt X) this
  have HR := Lib.hid hR
  have HRB := Lib.hid hRb
  clear hR hRb
  go_enter Try.func40, Try.ntmps40
  go_wp2
  go_loop [7, 8, 9] (fun o p i => ∃ k O P : Nat, k ≤ 16 ∧ i = .int .i64 (k : Nat) ∧ o = .int .u64 (O : Nat) ∧ p = .int .u64 (P : Nat) ∧ O = R % 2 ^ k ∧ (k < 16 → P = 2 ^ k)) (fun _ _ i => 16 - (intOf i).toNat)
  case atStart => exact ⟨0, 0, 1, by omega, rfl, rfl, rfl, by simp [Nat.mod_one], fun _ => rfl⟩
  case round =>
    obtain ⟨k, O, P, hk, rfl, rfl, rfl, hO, hP⟩ := hrel
    have HO := Lib.hid hO
    have HP := Lib.hid hP
    clear hO hP
    by_cases hlt : k < 16
    · obtain ⟨B, hB⟩ : ∃ B, bitAt X (((k : Int) - n.tmod 16 + 32) % 16).toNat = B := ⟨_, rfl⟩
      have hB1 : B ≤ 1 := by rw [← hB]; exact bitAt_le _ _
      have hBR := Lib.hid ((HRB.out k hlt).symm.trans hB)
      have hP2 : P < 18446744073709551616 := by
        rw [HP.out hlt]
        exact Nat.lt_of_lt_of_le (Nat.pow_lt_pow_right (by omega) hlt) (by decide)
      have hOl : O < 18446744073709551616 := by
        rw [HO.out]
        exact Nat.lt_of_le_of_lt (Nat.mod_le _ _) (Nat.lt_of_lt_of_le hRl (by decide))
      have hf1 := Int.emod_nonneg ((k : Int) - n.tmod 16 + 32) (show (16 : Int) ≠ 0 by omega)
      have hf2 := Int.emod_lt_of_pos ((k : Int) - n.tmod 16 + 32) (show (0 : Int) < 16 by omega)
      rcases (by omega : B = 0 ∨ B = 1) with hb | hb
      · have N := Lib.hid (turn_zero HO.out hBR.out hb)
        subst hb
        have hPk : k + 1 < 16 → P * 2 < 18446744073709551616 := by
          intro h; rw [HP.out hlt, ← Nat.pow_succ]
          exact Nat.lt_of_lt_of_le (Nat.pow_lt_pow_right (by omega) h) (by decide)
        by_cases hl2 : k + 1 < 16
        all_goals
          have hPk' := Lib.hid hPk
          clear hPk
          go_wp2_with (go_at_call 53; refine (refBitI X _ hX' (by omega) (by omega) _).mono ?_; rintro e w' ⟨rfl, rfl⟩)
          go_round
          case rel =>
            refine ⟨k + 1, O, (P * 2) % 18446744073709551616, by omega, by go_num, by go_num, ?_, N.out, fun h => ?_⟩
            · first | go_num | (congr 1; simp [IntKind.wrap_u64])
            · have := hPk'.out h; have := HP.out hlt; rw [Nat.mod_eq_of_lt (hPk'.out h), Nat.pow_succ]; omega
          case measure => simp [intOf]; omega
      · have N := Lib.hid (turn_one HO.out hBR.out hb)
        have hsum : O + P < 18446744073709551616 := by
          have e := N.out
          rw [← HP.out hlt] at e
          rw [e]
          exact Nat.lt_of_le_of_lt (Nat.mod_le _ _) (Nat.lt_of_lt_of_le hRl (by decide))
        subst hb
        have hPk : k + 1 < 16 → P * 2 < 18446744073709551616 := by
          intro h; rw [HP.out hlt, ← Nat.pow_succ]
          exact Nat.lt_of_lt_of_le (Nat.pow_lt_pow_right (by omega) h) (by decide)
        by_cases hl2 : k + 1 < 16
        all_goals
          have hPk' := Lib.hid hPk
          clear hPk
          go_wp2_with (go_at_call 53; refine (refBitI X _ hX' (by omega) (by omega) _).mono ?_; rintro e w' ⟨rfl, rfl⟩)
          go_round
          case rel =>
            refine ⟨k + 1, O + P, (P * 2) % 18446744073709551616, by omega, by go_num, by go_num, ?_, ?_, fun h => ?_⟩
            · first | go_num | (congr 1; simp [IntKind.wrap_u64])
            · have e := N.out
              rw [← HP.out hlt] at e
              exact e
            · have := hPk'.out h; have := HP.out hlt; rw [Nat.mod_eq_of_lt (hPk'.out h), Nat.pow_succ]; omega
          case measure => simp [intOf]; omega
    · obtain rfl : k = 16 := by omega
      go_wp2
      go_ret
      refine ⟨ret_int ?_, rfl⟩
      rw [HO.out, Nat.mod_eq_of_lt hRl, HR.out]
      rfl

theorem refTurn32 (X : Nat) (n : Int) (hX : X < 2 ^ 32) (wn : (Lit.int .i64 n).wf = true) (w : World) : Calls Try.prog 40 #[.int .u64 (X : Nat), .int .i64 32, .int .i64 n] w fun e w' => e = .returned (.int .u64 (rotI 32 X n)) ∧ w = w' := by
  obtain ⟨n0, n1⟩ := wf_i64 wn
  clear wn
  have t0 : -32 < n.tmod 32 := Int.lt_tmod_of_pos _ (by omega)
  have t1 : n.tmod 32 < 32 := Int.tmod_lt_of_pos _ (by omega)
  have hX' : X < 2 ^ 64 := Nat.lt_of_lt_of_le hX (by decide)
  obtain ⟨R, hR⟩ : ∃ R, R = rot 32 X (n % (32 : Nat)).toNat := ⟨_, rfl⟩
  have hRl : R < 2 ^ 32 := by rw [hR]; exact rot_lt hX
  have hRb : ∀ k : Nat, k < 32 → bitAt X (((k : Int) - n.tmod 32 + 64) % 32).toNat = bitAt R k := by
    intro k hk
    rw [hR, rot_bitAt hX (by omega) hk]
    have := from_eq 32 k n hk
    exact congrArg (bitAt X) this
  have HR := Lib.hid hR
  have HRB := Lib.hid hRb
  clear hR hRb
  go_enter Try.func40, Try.ntmps40
  go_wp2
  go_loop [7, 8, 9] (fun o p i => ∃ k O P : Nat, k ≤ 32 ∧ i = .int .i64 (k : Nat) ∧ o = .int .u64 (O : Nat) ∧ p = .int .u64 (P : Nat) ∧ O = R % 2 ^ k ∧ (k < 32 → P = 2 ^ k)) (fun _ _ i => 32 - (intOf i).toNat)
  case atStart => exact ⟨0, 0, 1, by omega, rfl, rfl, rfl, by simp [Nat.mod_one], fun _ => rfl⟩
  case round =>
    obtain ⟨k, O, P, hk, rfl, rfl, rfl, hO, hP⟩ := hrel
    have HO := Lib.hid hO
    have HP := Lib.hid hP
    clear hO hP
    by_cases hlt : k < 32
    · obtain ⟨B, hB⟩ : ∃ B, bitAt X (((k : Int) - n.tmod 32 + 64) % 32).toNat = B := ⟨_, rfl⟩
      have hB1 : B ≤ 1 := by rw [← hB]; exact bitAt_le _ _
      have hBR := Lib.hid ((HRB.out k hlt).symm.trans hB)
      have hP2 : P < 18446744073709551616 := by
        rw [HP.out hlt]
        exact Nat.lt_of_lt_of_le (Nat.pow_lt_pow_right (by omega) hlt) (by decide)
      have hOl : O < 18446744073709551616 := by
        rw [HO.out]
        exact Nat.lt_of_le_of_lt (Nat.mod_le _ _) (Nat.lt_of_lt_of_le hRl (by decide))
      have hf1 := Int.emod_nonneg ((k : Int) - n.tmod 32 + 64) (show (32 : Int) ≠ 0 by omega)
      have hf2 := Int.emod_lt_of_pos ((k : Int) - n.tmod 32 + 64) (show (0 : Int) < 32 by omega)
      rcases (by omega : B = 0 ∨ B = 1) with hb | hb
      · have N := Lib.hid (turn_zero HO.out hBR.out hb)
        subst hb
        have hPk : k + 1 < 32 → P * 2 < 18446744073709551616 := by
          intro h; rw [HP.out hlt, ← Nat.pow_succ]
          exact Nat.lt_of_lt_of_le (Nat.pow_lt_pow_right (by omega) h) (by decide)
        by_cases hl2 : k + 1 < 32
        all_goals
          have hPk' := Lib.hid hPk
          clear hPk
          go_wp2_with (go_at_call 53; refine (refBitI X _ hX' (by omega) (by omega) _).mono ?_; rintro e w' ⟨rfl, rfl⟩)
          go_round
          case rel =>
            refine ⟨k + 1, O, (P * 2) % 18446744073709551616, by omega, by go_num, by go_num, ?_, N.out, fun h => ?_⟩
            · first | go_num | (congr 1; simp [IntKind.wrap_u64])
            · have := hPk'.out h; have := HP.out hlt; rw [Nat.mod_eq_of_lt (hPk'.out h), Nat.pow_succ]; omega
          case measure => simp [intOf]; omega
      · have N := Lib.hid (turn_one HO.out hBR.out hb)
        have hsum : O + P < 18446744073709551616 := by
          have e := N.out
          rw [← HP.out hlt] at e
          rw [e]
          exact Nat.lt_of_le_of_lt (Nat.mod_le _ _) (Nat.lt_of_lt_of_le hRl (by decide))
        subst hb
        have hPk : k + 1 < 32 → P * 2 < 18446744073709551616 := by
          intro h; rw [HP.out hlt, ← Nat.pow_succ]
          exact Nat.lt_of_lt_of_le (Nat.pow_lt_pow_right (by omega) h) (by decide)
        by_cases hl2 : k + 1 < 32
        all_goals
          have hPk' := Lib.hid hPk
          clear hPk
          go_wp2_with (go_at_call 53; refine (refBitI X _ hX' (by omega) (by omega) _).mono ?_; rintro e w' ⟨rfl, rfl⟩)
          go_round
          case rel =>
            refine ⟨k + 1, O + P, (P * 2) % 18446744073709551616, by omega, by go_num, by go_num, ?_, ?_, fun h => ?_⟩
            · first | go_num | (congr 1; simp [IntKind.wrap_u64])
            · have e := N.out
              rw [← HP.out hlt] at e
              exact e
            · have := hPk'.out h; have := HP.out hlt; rw [Nat.mod_eq_of_lt (hPk'.out h), Nat.pow_succ]; omega
          case measure => simp [intOf]; omega
    · obtain rfl : k = 32 := by omega
      go_wp2
      go_ret
      refine ⟨ret_int ?_, rfl⟩
      rw [HO.out, Nat.mod_eq_of_lt hRl, HR.out]
      rfl

theorem refTurn64 (X : Nat) (n : Int) (hX : X < 2 ^ 64) (wn : (Lit.int .i64 n).wf = true) (w : World) : Calls Try.prog 40 #[.int .u64 (X : Nat), .int .i64 64, .int .i64 n] w fun e w' => e = .returned (.int .u64 (rotI 64 X n)) ∧ w = w' := by
  obtain ⟨n0, n1⟩ := wf_i64 wn
  clear wn
  have t0 : -64 < n.tmod 64 := Int.lt_tmod_of_pos _ (by omega)
  have t1 : n.tmod 64 < 64 := Int.tmod_lt_of_pos _ (by omega)
  have hX' : X < 2 ^ 64 := Nat.lt_of_lt_of_le hX (by decide)
  obtain ⟨R, hR⟩ : ∃ R, R = rot 64 X (n % (64 : Nat)).toNat := ⟨_, rfl⟩
  have hRl : R < 2 ^ 64 := by rw [hR]; exact rot_lt hX
  have hRb : ∀ k : Nat, k < 64 → bitAt X (((k : Int) - n.tmod 64 + 128) % 64).toNat = bitAt R k := by
    intro k hk
    rw [hR, rot_bitAt hX (by omega) hk]
    have := from_eq 64 k n hk
    exact congrArg (bitAt X) this
  have HR := Lib.hid hR
  have HRB := Lib.hid hRb
  clear hR hRb
  go_enter Try.func40, Try.ntmps40
  go_wp2
  go_loop [7, 8, 9] (fun o p i => ∃ k O P : Nat, k ≤ 64 ∧ i = .int .i64 (k : Nat) ∧ o = .int .u64 (O : Nat) ∧ p = .int .u64 (P : Nat) ∧ O = R % 2 ^ k ∧ (k < 64 → P = 2 ^ k)) (fun _ _ i => 64 - (intOf i).toNat)
  case atStart => exact ⟨0, 0, 1, by omega, rfl, rfl, rfl, by simp [Nat.mod_one], fun _ => rfl⟩
  case round =>
    obtain ⟨k, O, P, hk, rfl, rfl, rfl, hO, hP⟩ := hrel
    have HO := Lib.hid hO
    have HP := Lib.hid hP
    clear hO hP
    by_cases hlt : k < 64
    · obtain ⟨B, hB⟩ : ∃ B, bitAt X (((k : Int) - n.tmod 64 + 128) % 64).toNat = B := ⟨_, rfl⟩
      have hB1 : B ≤ 1 := by rw [← hB]; exact bitAt_le _ _
      have hBR := Lib.hid ((HRB.out k hlt).symm.trans hB)
      have hP2 : P < 18446744073709551616 := by
        rw [HP.out hlt]
        exact Nat.lt_of_lt_of_le (Nat.pow_lt_pow_right (by omega) hlt) (by decide)
      have hOl : O < 18446744073709551616 := by
        rw [HO.out]
        exact Nat.lt_of_le_of_lt (Nat.mod_le _ _) (Nat.lt_of_lt_of_le hRl (by decide))
      have hf1 := Int.emod_nonneg ((k : Int) - n.tmod 64 + 128) (show (64 : Int) ≠ 0 by omega)
      have hf2 := Int.emod_lt_of_pos ((k : Int) - n.tmod 64 + 128) (show (0 : Int) < 64 by omega)
      rcases (by omega : B = 0 ∨ B = 1) with hb | hb
      · have N := Lib.hid (turn_zero HO.out hBR.out hb)
        subst hb
        have hPk : k + 1 < 64 → P * 2 < 18446744073709551616 := by
          intro h; rw [HP.out hlt, ← Nat.pow_succ]
          exact Nat.lt_of_lt_of_le (Nat.pow_lt_pow_right (by omega) h) (by decide)
        by_cases hl2 : k + 1 < 64
        all_goals
          have hPk' := Lib.hid hPk
          clear hPk
          go_wp2_with (go_at_call 53; refine (refBitI X _ hX' (by omega) (by omega) _).mono ?_; rintro e w' ⟨rfl, rfl⟩)
          go_round
          case rel =>
            refine ⟨k + 1, O, (P * 2) % 18446744073709551616, by omega, by go_num, by go_num, ?_, N.out, fun h => ?_⟩
            · first | go_num | (congr 1; simp [IntKind.wrap_u64])
            · have := hPk'.out h; have := HP.out hlt; rw [Nat.mod_eq_of_lt (hPk'.out h), Nat.pow_succ]; omega
          case measure => simp [intOf]; omega
      · have N := Lib.hid (turn_one HO.out hBR.out hb)
        have hsum : O + P < 18446744073709551616 := by
          have e := N.out
          rw [← HP.out hlt] at e
          rw [e]
          exact Nat.lt_of_le_of_lt (Nat.mod_le _ _) (Nat.lt_of_lt_of_le hRl (by decide))
        subst hb
        have hPk : k + 1 < 64 → P * 2 < 18446744073709551616 := by
          intro h; rw [HP.out hlt, ← Nat.pow_succ]
          exact Nat.lt_of_lt_of_le (Nat.pow_lt_pow_right (by omega) h) (by decide)
        by_cases hl2 : k + 1 < 64
        all_goals
          have hPk' := Lib.hid hPk
          clear hPk
          go_wp2_with (go_at_call 53; refine (refBitI X _ hX' (by omega) (by omega) _).mono ?_; rintro e w' ⟨rfl, rfl⟩)
          go_round
          case rel =>
            refine ⟨k + 1, O + P, (P * 2) % 18446744073709551616, by omega, by go_num, by go_num, ?_, ?_, fun h => ?_⟩
            · first | go_num | (congr 1; simp [IntKind.wrap_u64])
            · have e := N.out
              rw [← HP.out hlt] at e
              exact e
            · have := hPk'.out h; have := HP.out hlt; rw [Nat.mod_eq_of_lt (hPk'.out h), Nat.pow_succ]; omega
          case measure => simp [intOf]; omega
    · obtain rfl : k = 64 := by omega
      go_wp2
      go_ret
      refine ⟨ret_int ?_, rfl⟩
      rw [HO.out, Nat.mod_eq_of_lt hRl, HR.out]
      rfl
end Go.Proofs.Ytdapcnffiapgpaa
