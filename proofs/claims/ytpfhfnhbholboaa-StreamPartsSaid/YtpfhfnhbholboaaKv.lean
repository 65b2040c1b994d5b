/- The walk of CipherBack (written by gen25.py). -/
import Derived.Test.YtpfhfnhbholboaaKu
namespace Go.Proofs.Ytpfhfnhbholboaa
open Go.ChangeShapes Go.WideShapes Go.ChangeAt Go.RowKit
set_option linter.unusedVariables false
set_option linter.unusedSimpArgs false
set_option maxRecDepth 100000

theorem Arg8.strK {w : World} {a : Option Addr} {n c : Nat} {l : List Int} (h : Arg8 w a n c l) : (convert 22 9 (.slice a n c)).run Try.prog w = .ok (.string (strOfNums l)) w := h.2.2.1.str h.1 Try.underlying22 Try.underlying5 Try.underlying9
theorem own16 {w : World} {base g N : Nat} {l : List Int} (hN : N ≤ 32) (h : w.ownsRow base 5 1 (.slice (some ⟨g, 0, none⟩) N N) N (l.map (Value.int .u8))) (hA : AllB l) : Arg8 w (some ⟨g, 0, none⟩) N N l := Arg8.own h hA ⟨Nat.le_refl _, by unfold maxLen; omega⟩
set_option maxHeartbeats 2000000 in
theorem back_16_same (a0 : Option Addr) (L0 c0 : Nat) (a2 : Option Addr) (L2 c2 : Nat) (a3 : Option Addr) (L3 c3 : Nat) (k x y : List Int) (w : World) (hk : Arg8 w a0 L0 c0 k) (hx : Arg8 w a2 L2 c2 x) (hy : Arg8 w a3 L3 c3 y) (he : padL x 16 = padL y 16) :
    Calls Try.prog 4 #[.slice a0 L0 c0, .bool false, .slice a2 L2 c2, .slice a3 L3 c3] w fun e w' => e = .returned (.bool true) ∧ Below w.heap.size w w' := by
  have HX := Lib.hid hx
  have HY := Lib.hid hy
  have HK := Lib.hid hk
  have HXB := Lib.hid (allB_padL hx.2.1 16)
  have HYB := Lib.hid (allB_padL hy.2.1 16)
  have HXL := Lib.hid (length_padL x 16)
  have HYL := Lib.hid (length_padL y 16)
  have HKB := Lib.hid (allB_padL hk.2.1 16)
  have HKL := Lib.hid (length_padL k 16)
  have HK2 := Lib.hid (fun W (h : Arg8 W a0 L0 c0 k) => key_16 a0 L0 c0 k W h)
  have HX2 := Lib.hid (fun W (h : Arg8 W a2 L2 c2 x) => key_16 a2 L2 c2 x W h)
  have HY2 := Lib.hid (fun W (h : Arg8 W a3 L3 c3 y) => key_16 a3 L3 c3 y W h)
  obtain ⟨K, hK⟩ : ∃ K, K = padL k 16 := ⟨_, rfl⟩
  obtain ⟨X, hX⟩ : ∃ X, X = padL x 16 := ⟨_, rfl⟩
  obtain ⟨Y, hY⟩ : ∃ Y, Y = padL y 16 := ⟨_, rfl⟩
  rw [← hK] at HKB HK2 HKL
  rw [← hX] at HXB HX2 HXL he
  rw [← hY] at HYB HY2 HYL he
  have hWB := keyW_bd HKB.out
  have HS : Hid (K.length = 16 ∨ K.length = 32) := Lib.hid (by rw [HKL.out]; omega)
  have HED := Lib.hid (enc_decL hWB (K.length / 4 + 6) HXL.out HXB.out)
  have HE := Lib.hid he
  have HUB := Lib.hid (allB_encL hWB (K.length / 4 + 6) X)
  have HVB := Lib.hid (allB_encL hWB (K.length / 4 + 6) Y)
  have HDB := Lib.hid (allB_decL hWB (K.length / 4 + 6) X)
  clear hK hX hY hk hx hy he hWB
  go_enter Try.func4, Try.ntmps4
  go_upto_region 3 with (go_at_call 9; (with_reducible refine (livesK_any _).mono ?_); rintro e w1 ⟨rfl, hb⟩; have HB1 := Lib.hid hb; clear hb)
  go_upto_region 4 with (first
    | (go_at_call 12; (with_reducible refine (new_any _).mono ?_); rintro e w2 ⟨fb, rfl, hb0, hf, hbel⟩; have HF2 := Lib.hid hf; have HB2 := Lib.hid (bt HB1.out hbel); have HK3 := Lib.hid (HK.out.on HB2.out); clear hf hb0 hbel)
    | (go_at_call 10; (with_reducible refine (HK2.out w2 HK3.out).mono ?_); rintro e w3 ⟨g3, rfl, ho, hb⟩; have HA3 := Lib.hid (own16 (by omega) ho HKB.out); have HB3 := Lib.hid (bt HB2.out hb); have HF3 := Lib.hid (HF2.out.below hb); clear ho hb)
    | (go_at_call 11; (with_reducible refine (new_arg fb (some ⟨g3, 0, none⟩) 16 16 K w3 HF3.out HA3.out (Or.inl rfl)).mono ?_); rintro e w4 ⟨b, rfl, hc, hb⟩; have HB4 := Lib.hid (bt HB3.out hb); have HC4 := Lib.hid hc; clear hc hb))
  have HX4 := Lib.hid (HX.out.on HB4.out)
  go_upto_region 5 with (first
    | (go_at_call 10; (with_reducible refine (HX2.out w4 HX4.out).mono ?_); rintro e w5 ⟨g5, rfl, ho, hb⟩; have HA5 := Lib.hid (own16 (by omega) ho HXB.out); have HB5 := Lib.hid (bt HB4.out hb); have HC5 := Lib.hid (HC4.out.on hb); have HY5 := Lib.hid (HY.out.on HB5.out); clear ho hb)
    | (go_at_call 10; (with_reducible refine (HY2.out w5 HY5.out).mono ?_); rintro e w6 ⟨g6, rfl, ho, hb⟩; have HA6 := Lib.hid (own16 (by omega) ho HYB.out); have HB6 := Lib.hid (bt HB5.out hb); have HC6 := Lib.hid (HC5.out.on hb); have HP6 := Lib.hid (HA5.out.on hb); clear ho hb))
  go_upto_region 6 with (go_at_call 14; (with_reducible refine (dec_arg b K (some ⟨g5, 0, none⟩) 16 X w6 HC6.out HS.out HKB.out HP6.out).mono ?_); rintro e w7 ⟨g7, rfl, ho, hb⟩; have HD7 := Lib.hid (own16 (by omega) ho HDB.out); have HB7 := Lib.hid (bt HB6.out hb); have HC7 := Lib.hid (HC6.out.on hb); have HX7 := Lib.hid (HP6.out.on hb); have HY7 := Lib.hid (HA6.out.on hb); clear ho hb)
  go_upto_region 7 with (go_at_call 13; (with_reducible refine (enc_arg b K (some ⟨g7, 0, none⟩) 16 _ w7 HC7.out HS.out HKB.out HD7.out).mono ?_); rintro e w8 ⟨g8, rfl, ho, hb⟩; rw [HED.out] at ho; have HQ8 := Lib.hid (own16 (by omega) ho HXB.out); have HB8 := Lib.hid (bt HB7.out hb); have HC8 := Lib.hid (HC7.out.on hb); have HX8 := Lib.hid (HX7.out.on hb); have HY8 := Lib.hid (HY7.out.on hb); clear ho hb)
  go_upto_region 8 with (go_at_call 13; (with_reducible refine (enc_arg b K (some ⟨g5, 0, none⟩) 16 X w8 HC8.out HS.out HKB.out HX8.out).mono ?_); rintro e w9 ⟨g9, rfl, ho, hb⟩; have HU9 := Lib.hid (own16 (by omega) ho HUB.out); have HB9 := Lib.hid (bt HB8.out hb); have HC9 := Lib.hid (HC8.out.on hb); have HX9 := Lib.hid (HX8.out.on hb); have HY9 := Lib.hid (HY8.out.on hb); have HQ9 := Lib.hid (HQ8.out.on hb); clear ho hb)
  go_upto_region 9 with (go_at_call 13; (with_reducible refine (enc_arg b K (some ⟨g6, 0, none⟩) 16 Y w9 HC9.out HS.out HKB.out HY9.out).mono ?_); rintro e w10 ⟨g10, rfl, ho, hb⟩; have HV10 := Lib.hid (own16 (by omega) ho HVB.out); have HB10 := Lib.hid (bt HB9.out hb); have HX10 := Lib.hid (HX9.out.on hb); have HY10 := Lib.hid (HY9.out.on hb); have HQ10 := Lib.hid (HQ9.out.on hb); have HU10 := Lib.hid (HU9.out.on hb); clear ho hb)
  have hvs := HV10.out
  have hys := HY10.out
  rw [← HE.out] at hvs hys
  have hcv := hvs.strK
  have hcy := hys.strK
  clear hvs hys
  have hcx := HX10.out.strK
  have hcq := HQ10.out.strK
  have hcu := HU10.out.strK
  obtain ⟨U, hU⟩ : ∃ U, U = encL (K.length / 4 + 6) (keyW K) X := ⟨_, rfl⟩
  rw [← hU] at hcu hcv
  clear hU
  go_wp2
  go_ret
  exact ⟨rfl, HB10.out⟩
set_option maxHeartbeats 2000000 in
theorem back_16_apart (a0 : Option Addr) (L0 c0 : Nat) (a2 : Option Addr) (L2 c2 : Nat) (a3 : Option Addr) (L3 c3 : Nat) (k x y : List Int) (w : World) (hk : Arg8 w a0 L0 c0 k) (hx : Arg8 w a2 L2 c2 x) (hy : Arg8 w a3 L3 c3 y) (he : padL x 16 ≠ padL y 16) :
    Calls Try.prog 4 #[.slice a0 L0 c0, .bool false, .slice a2 L2 c2, .slice a3 L3 c3] w fun e w' => e = .returned (.bool true) ∧ Below w.heap.size w w' := by
  have HX := Lib.hid hx
  have HY := Lib.hid hy
  have HK := Lib.hid hk
  have HXB := Lib.hid (allB_padL hx.2.1 16)
  have HYB := Lib.hid (allB_padL hy.2.1 16)
  have HXL := Lib.hid (length_padL x 16)
  have HYL := Lib.hid (length_padL y 16)
  have HKB := Lib.hid (allB_padL hk.2.1 16)
  have HKL := Lib.hid (length_padL k 16)
  have HK2 := Lib.hid (fun W (h : Arg8 W a0 L0 c0 k) => key_16 a0 L0 c0 k W h)
  have HX2 := Lib.hid (fun W (h : Arg8 W a2 L2 c2 x) => key_16 a2 L2 c2 x W h)
  have HY2 := Lib.hid (fun W (h : Arg8 W a3 L3 c3 y) => key_16 a3 L3 c3 y W h)
  obtain ⟨K, hK⟩ : ∃ K, K = padL k 16 := ⟨_, rfl⟩
  obtain ⟨X, hX⟩ : ∃ X, X = padL x 16 := ⟨_, rfl⟩
  obtain ⟨Y, hY⟩ : ∃ Y, Y = padL y 16 := ⟨_, rfl⟩
  rw [← hK] at HKB HK2 HKL
  rw [← hX] at HXB HX2 HXL he
  rw [← hY] at HYB HY2 HYL he
  have hWB := keyW_bd HKB.out
  have HS : Hid (K.length = 16 ∨ K.length = 32) := Lib.hid (by rw [HKL.out]; omega)
  have HED := Lib.hid (enc_decL hWB (K.length / 4 + 6) HXL.out HXB.out)
  have hXY := str_ne HXB.out HYB.out he
  have hUV := str_ne (allB_encL hWB (K.length / 4 + 6) X) (allB_encL hWB (K.length / 4 + 6) Y) (fun e => he (encL_inj hWB _ HXL.out HXB.out HYL.out HYB.out e))
  have HUB := Lib.hid (allB_encL hWB (K.length / 4 + 6) X)
  have HVB := Lib.hid (allB_encL hWB (K.length / 4 + 6) Y)
  have HDB := Lib.hid (allB_decL hWB (K.length / 4 + 6) X)
  clear hK hX hY hk hx hy he hWB
  go_enter Try.func4, Try.ntmps4
  go_upto_region 3 with (go_at_call 9; (with_reducible refine (livesK_any _).mono ?_); rintro e w1 ⟨rfl, hb⟩; have HB1 := Lib.hid hb; clear hb)
  go_upto_region 4 with (first
    | (go_at_call 12; (with_reducible refine (new_any _).mono ?_); rintro e w2 ⟨fb, rfl, hb0, hf, hbel⟩; have HF2 := Lib.hid hf; have HB2 := Lib.hid (bt HB1.out hbel); have HK3 := Lib.hid (HK.out.on HB2.out); clear hf hb0 hbel)
    | (go_at_call 10; (with_reducible refine (HK2.out w2 HK3.out).mono ?_); rintro e w3 ⟨g3, rfl, ho, hb⟩; have HA3 := Lib.hid (own16 (by omega) ho HKB.out); have HB3 := Lib.hid (bt HB2.out hb); have HF3 := Lib.hid (HF2.out.below hb); clear ho hb)
    | (go_at_call 11; (with_reducible refine (new_arg fb (some ⟨g3, 0, none⟩) 16 16 K w3 HF3.out HA3.out (Or.inl rfl)).mono ?_); rintro e w4 ⟨b, rfl, hc, hb⟩; have HB4 := Lib.hid (bt HB3.out hb); have HC4 := Lib.hid hc; clear hc hb))
  have HX4 := Lib.hid (HX.out.on HB4.out)
  go_upto_region 5 with (first
    | (go_at_call 10; (with_reducible refine (HX2.out w4 HX4.out).mono ?_); rintro e w5 ⟨g5, rfl, ho, hb⟩; have HA5 := Lib.hid (own16 (by omega) ho HXB.out); have HB5 := Lib.hid (bt HB4.out hb); have HC5 := Lib.hid (HC4.out.on hb); have HY5 := Lib.hid (HY.out.on HB5.out); clear ho hb)
    | (go_at_call 10; (with_reducible refine (HY2.out w5 HY5.out).mono ?_); rintro e w6 ⟨g6, rfl, ho, hb⟩; have HA6 := Lib.hid (own16 (by omega) ho HYB.out); have HB6 := Lib.hid (bt HB5.out hb); have HC6 := Lib.hid (HC5.out.on hb); have HP6 := Lib.hid (HA5.out.on hb); clear ho hb))
  go_upto_region 6 with (go_at_call 14; (with_reducible refine (dec_arg b K (some ⟨g5, 0, none⟩) 16 X w6 HC6.out HS.out HKB.out HP6.out).mono ?_); rintro e w7 ⟨g7, rfl, ho, hb⟩; have HD7 := Lib.hid (own16 (by omega) ho HDB.out); have HB7 := Lib.hid (bt HB6.out hb); have HC7 := Lib.hid (HC6.out.on hb); have HX7 := Lib.hid (HP6.out.on hb); have HY7 := Lib.hid (HA6.out.on hb); clear ho hb)
  go_upto_region 7 with (go_at_call 13; (with_reducible refine (enc_arg b K (some ⟨g7, 0, none⟩) 16 _ w7 HC7.out HS.out HKB.out HD7.out).mono ?_); rintro e w8 ⟨g8, rfl, ho, hb⟩; rw [HED.out] at ho; have HQ8 := Lib.hid (own16 (by omega) ho HXB.out); have HB8 := Lib.hid (bt HB7.out hb); have HC8 := Lib.hid (HC7.out.on hb); have HX8 := Lib.hid (HX7.out.on hb); have HY8 := Lib.hid (HY7.out.on hb); clear ho hb)
  go_upto_region 8 with (go_at_call 13; (with_reducible refine (enc_arg b K (some ⟨g5, 0, none⟩) 16 X w8 HC8.out HS.out HKB.out HX8.out).mono ?_); rintro e w9 ⟨g9, rfl, ho, hb⟩; have HU9 := Lib.hid (own16 (by omega) ho HUB.out); have HB9 := Lib.hid (bt HB8.out hb); have HC9 := Lib.hid (HC8.out.on hb); have HX9 := Lib.hid (HX8.out.on hb); have HY9 := Lib.hid (HY8.out.on hb); have HQ9 := Lib.hid (HQ8.out.on hb); clear ho hb)
  go_upto_region 9 with (go_at_call 13; (with_reducible refine (enc_arg b K (some ⟨g6, 0, none⟩) 16 Y w9 HC9.out HS.out HKB.out HY9.out).mono ?_); rintro e w10 ⟨g10, rfl, ho, hb⟩; have HV10 := Lib.hid (own16 (by omega) ho HVB.out); have HB10 := Lib.hid (bt HB9.out hb); have HX10 := Lib.hid (HX9.out.on hb); have HY10 := Lib.hid (HY9.out.on hb); have HQ10 := Lib.hid (HQ9.out.on hb); have HU10 := Lib.hid (HU9.out.on hb); clear ho hb)
  have hcv := HV10.out.strK
  have hcy := HY10.out.strK
  have hcx := HX10.out.strK
  have hcq := HQ10.out.strK
  have hcu := HU10.out.strK
  obtain ⟨U, hU⟩ : ∃ U, U = encL (K.length / 4 + 6) (keyW K) X := ⟨_, rfl⟩
  obtain ⟨V, hV⟩ : ∃ V, V = encL (K.length / 4 + 6) (keyW K) Y := ⟨_, rfl⟩
  rw [← hU] at hcu hUV
  rw [← hV] at hcv hUV
  clear hV
  clear hU
  go_wp2
  go_ret
  exact ⟨rfl, HB10.out⟩
set_option maxHeartbeats 2000000 in
theorem back_32_same (a0 : Option Addr) (L0 c0 : Nat) (a2 : Option Addr) (L2 c2 : Nat) (a3 : Option Addr) (L3 c3 : Nat) (k x y : List Int) (w : World) (hk : Arg8 w a0 L0 c0 k) (hx : Arg8 w a2 L2 c2 x) (hy : Arg8 w a3 L3 c3 y) (he : padL x 16 = padL y 16) :
    Calls Try.prog 4 #[.slice a0 L0 c0, .bool true, .slice a2 L2 c2, .slice a3 L3 c3] w fun e w' => e = .returned (.bool true) ∧ Below w.heap.size w w' := by
  have HX := Lib.hid hx
  have HY := Lib.hid hy
  have HK := Lib.hid hk
  have HXB := Lib.hid (allB_padL hx.2.1 16)
  have HYB := Lib.hid (allB_padL hy.2.1 16)
  have HXL := Lib.hid (length_padL x 16)
  have HYL := Lib.hid (length_padL y 16)
  have HKB := Lib.hid (allB_padL hk.2.1 32)
  have HKL := Lib.hid (length_padL k 32)
  have HK2 := Lib.hid (fun W (h : Arg8 W a0 L0 c0 k) => key_32 a0 L0 c0 k W h)
  have HX2 := Lib.hid (fun W (h : Arg8 W a2 L2 c2 x) => key_16 a2 L2 c2 x W h)
  have HY2 := Lib.hid (fun W (h : Arg8 W a3 L3 c3 y) => key_16 a3 L3 c3 y W h)
  obtain ⟨K, hK⟩ : ∃ K, K = padL k 32 := ⟨_, rfl⟩
  obtain ⟨X, hX⟩ : ∃ X, X = padL x 16 := ⟨_, rfl⟩
  obtain ⟨Y, hY⟩ : ∃ Y, Y = padL y 16 := ⟨_, rfl⟩
  rw [← hK] at HKB HK2 HKL
  rw [← hX] at HXB HX2 HXL he
  rw [← hY] at HYB HY2 HYL he
  have hWB := keyW_bd HKB.out
  have HS : Hid (K.length = 16 ∨ K.length = 32) := Lib.hid (by rw [HKL.out]; omega)
  have HED := Lib.hid (enc_decL hWB (K.length / 4 + 6) HXL.out HXB.out)
  have HE := Lib.hid he
  have HUB := Lib.hid (allB_encL hWB (K.length / 4 + 6) X)
  have HVB := Lib.hid (allB_encL hWB (K.length / 4 + 6) Y)
  have HDB := Lib.hid (allB_decL hWB (K.length / 4 + 6) X)
  clear hK hX hY hk hx hy he hWB
  go_enter Try.func4, Try.ntmps4
  go_upto_region 3 with (go_at_call 9; (with_reducible refine (livesK_any _).mono ?_); rintro e w1 ⟨rfl, hb⟩; have HB1 := Lib.hid hb; clear hb)
  go_upto_region 4 with (first
    | (go_at_call 12; (with_reducible refine (new_any _).mono ?_); rintro e w2 ⟨fb, rfl, hb0, hf, hbel⟩; have HF2 := Lib.hid hf; have HB2 := Lib.hid (bt HB1.out hbel); have HK3 := Lib.hid (HK.out.on HB2.out); clear hf hb0 hbel)
    | (go_at_call 10; (with_reducible refine (HK2.out w2 HK3.out).mono ?_); rintro e w3 ⟨g3, rfl, ho, hb⟩; have HA3 := Lib.hid (own16 (by omega) ho HKB.out); have HB3 := Lib.hid (bt HB2.out hb); have HF3 := Lib.hid (HF2.out.below hb); clear ho hb)
    | (go_at_call 11; (with_reducible refine (new_arg fb (some ⟨g3, 0, none⟩) 32 32 K w3 HF3.out HA3.out (Or.inr rfl)).mono ?_); rintro e w4 ⟨b, rfl, hc, hb⟩; have HB4 := Lib.hid (bt HB3.out hb); have HC4 := Lib.hid hc; clear hc hb))
  have HX4 := Lib.hid (HX.out.on HB4.out)
  go_upto_region 5 with (first
    | (go_at_call 10; (with_reducible refine (HX2.out w4 HX4.out).mono ?_); rintro e w5 ⟨g5, rfl, ho, hb⟩; have HA5 := Lib.hid (own16 (by omega) ho HXB.out); have HB5 := Lib.hid (bt HB4.out hb); have HC5 := Lib.hid (HC4.out.on hb); have HY5 := Lib.hid (HY.out.on HB5.out); clear ho hb)
    | (go_at_call 10; (with_reducible refine (HY2.out w5 HY5.out).mono ?_); rintro e w6 ⟨g6, rfl, ho, hb⟩; have HA6 := Lib.hid (own16 (by omega) ho HYB.out); have HB6 := Lib.hid (bt HB5.out hb); have HC6 := Lib.hid (HC5.out.on hb); have HP6 := Lib.hid (HA5.out.on hb); clear ho hb))
  go_upto_region 6 with (go_at_call 14; (with_reducible refine (dec_arg b K (some ⟨g5, 0, none⟩) 16 X w6 HC6.out HS.out HKB.out HP6.out).mono ?_); rintro e w7 ⟨g7, rfl, ho, hb⟩; have HD7 := Lib.hid (own16 (by omega) ho HDB.out); have HB7 := Lib.hid (bt HB6.out hb); have HC7 := Lib.hid (HC6.out.on hb); have HX7 := Lib.hid (HP6.out.on hb); have HY7 := Lib.hid (HA6.out.on hb); clear ho hb)
  go_upto_region 7 with (go_at_call 13; (with_reducible refine (enc_arg b K (some ⟨g7, 0, none⟩) 16 _ w7 HC7.out HS.out HKB.out HD7.out).mono ?_); rintro e w8 ⟨g8, rfl, ho, hb⟩; rw [HED.out] at ho; have HQ8 := Lib.hid (own16 (by omega) ho HXB.out); have HB8 := Lib.hid (bt HB7.out hb); have HC8 := Lib.hid (HC7.out.on hb); have HX8 := Lib.hid (HX7.out.on hb); have HY8 := Lib.hid (HY7.out.on hb); clear ho hb)
  go_upto_region 8 with (go_at_call 13; (with_reducible refine (enc_arg b K (some ⟨g5, 0, none⟩) 16 X w8 HC8.out HS.out HKB.out HX8.out).mono ?_); rintro e w9 ⟨g9, rfl, ho, hb⟩; have HU9 := Lib.hid (own16 (by omega) ho HUB.out); have HB9 := Lib.hid (bt HB8.out hb); have HC9 := Lib.hid (HC8.out.on hb); have HX9 := Lib.hid (HX8.out.on hb); have HY9 := Lib.hid (HY8.out.on hb); have HQ9 := Lib.hid (HQ8.out.on hb); clear ho hb)
  go_upto_region 9 with (go_at_call 13; (with_reducible refine (enc_arg b K (some ⟨g6, 0, none⟩) 16 Y w9 HC9.out HS.out HKB.out HY9.out).mono ?_); rintro e w10 ⟨g10, rfl, ho, hb⟩; have HV10 := Lib.hid (own16 (by omega) ho HVB.out); have HB10 := Lib.hid (bt HB9.out hb); have HX10 := Lib.hid (HX9.out.on hb); have HY10 := Lib.hid (HY9.out.on hb); have HQ10 := Lib.hid (HQ9.out.on hb); have HU10 := Lib.hid (HU9.out.on hb); clear ho hb)
  have hvs := HV10.out
  have hys := HY10.out
  rw [← HE.out] at hvs hys
  have hcv := hvs.strK
  have hcy := hys.strK
  clear hvs hys
  have hcx := HX10.out.strK
  have hcq := HQ10.out.strK
  have hcu := HU10.out.strK
  obtain ⟨U, hU⟩ : ∃ U, U = encL (K.length / 4 + 6) (keyW K) X := ⟨_, rfl⟩
  rw [← hU] at hcu hcv
  clear hU
  go_wp2
  go_ret
  exact ⟨rfl, HB10.out⟩
set_option maxHeartbeats 2000000 in
theorem back_32_apart (a0 : Option Addr) (L0 c0 : Nat) (a2 : Option Addr) (L2 c2 : Nat) (a3 : Option Addr) (L3 c3 : Nat) (k x y : List Int) (w : World) (hk : Arg8 w a0 L0 c0 k) (hx : Arg8 w a2 L2 c2 x) (hy : Arg8 w a3 L3 c3 y) (he : padL x 16 ≠ padL y 16) :
    Calls Try.prog 4 #[.slice a0 L0 c0, .bool true, .slice a2 L2 c2, .slice a3 L3 c3] w fun e w' => e = .returned (.bool true) ∧ Below w.heap.size w w' := by
  have HX := Lib.hid hx
  have HY := Lib.hid hy
  have HK := Lib.hid hk
  have HXB := Lib.hid (allB_padL hx.2.1 16)
  have HYB := Lib.hid (allB_padL hy.2.1 16)
  have HXL := Lib.hid (length_padL x 16)
  have HYL := Lib.hid (length_padL y 16)
  have HKB := Lib.hid (allB_padL hk.2.1 32)
  have HKL := Lib.hid (length_padL k 32)
  have HK2 := Lib.hid (fun W (h : Arg8 W a0 L0 c0 k) => key_32 a0 L0 c0 k W h)
  have HX2 := Lib.hid (fun W (h : Arg8 W a2 L2 c2 x) => key_16 a2 L2 c2 x W h)
  have HY2 := Lib.hid (fun W (h : Arg8 W a3 L3 c3 y) => key_16 a3 L3 c3 y W h)
  obtain ⟨K, hK⟩ : ∃ K, K = padL k 32 := ⟨_, rfl⟩
  obtain ⟨X, hX⟩ : ∃ X, X = padL x 16 := ⟨_, rfl⟩
  obtain ⟨Y, hY⟩ : ∃ Y, Y = padL y 16 := ⟨_, rfl⟩
  rw [← hK] at HKB HK2 HKL
  rw [← hX] at HXB HX2 HXL he
  rw [← hY] at HYB HY2 HYL he
  have hWB := keyW_bd HKB.out
  have HS : Hid (K.length = 16 ∨ K.length = 32) := Lib.hid (by rw [HKL.out]; omega)
  have HED := Lib.hid (enc_decL hWB (K.length / 4 + 6) HXL.out HXB.out)
  have hXY := str_ne HXB.out HYB.out he
  have hUV := str_ne (allB_encL hWB (K.length / 4 + 6) X) (allB_encL hWB (K.length / 4 + 6) Y) (fun e => he (encL_inj hWB _ HXL.out HXB.out HYL.out HYB.out e))
  have HUB := Lib.hid (allB_encL hWB (K.length / 4 + 6) X)
  have HVB := Lib.hid (allB_encL hWB (K.length / 4 + 6) Y)
  have HDB := Lib.hid (allB_decL hWB (K.length / 4 + 6) X)
  clear hK hX hY hk hx hy he hWB
  go_enter Try.func4, Try.ntmps4
  go_upto_region 3 with (go_at_call 9; (with_reducible refine (livesK_any _).mono ?_); rintro e w1 ⟨rfl, hb⟩; have HB1 := Lib.hid hb; clear hb)
  go_upto_region 4 with (first
    | (go_at_call 12; (with_reducible refine (new_any _).mono ?_); rintro e w2 ⟨fb, rfl, hb0, hf, hbel⟩; have HF2 := Lib.hid hf; have HB2 := Lib.hid (bt HB1.out hbel); have HK3 := Lib.hid (HK.out.on HB2.out); clear hf hb0 hbel)
    | (go_at_call 10; (with_reducible refine (HK2.out w2 HK3.out).mono ?_); rintro e w3 ⟨g3, rfl, ho, hb⟩; have HA3 := Lib.hid (own16 (by omega) ho HKB.out); have HB3 := Lib.hid (bt HB2.out hb); have HF3 := Lib.hid (HF2.out.below hb); clear ho hb)
    | (go_at_call 11; (with_reducible refine (new_arg fb (some ⟨g3, 0, none⟩) 32 32 K w3 HF3.out HA3.out (Or.inr rfl)).mono ?_); rintro e w4 ⟨b, rfl, hc, hb⟩; have HB4 := Lib.hid (bt HB3.out hb); have HC4 := Lib.hid hc; clear hc hb))
  have HX4 := Lib.hid (HX.out.on HB4.out)
  go_upto_region 5 with (first
    | (go_at_call 10; (with_reducible refine (HX2.out w4 HX4.out).mono ?_); rintro e w5 ⟨g5, rfl, ho, hb⟩; have HA5 := Lib.hid (own16 (by omega) ho HXB.out); have HB5 := Lib.hid (bt HB4.out hb); have HC5 := Lib.hid (HC4.out.on hb); have HY5 := Lib.hid (HY.out.on HB5.out); clear ho hb)
    | (go_at_call 10; (with_reducible refine (HY2.out w5 HY5.out).mono ?_); rintro e w6 ⟨g6, rfl, ho, hb⟩; have HA6 := Lib.hid (own16 (by omega) ho HYB.out); have HB6 := Lib.hid (bt HB5.out hb); have HC6 := Lib.hid (HC5.out.on hb); have HP6 := Lib.hid (HA5.out.on hb); clear ho hb))
  go_upto_region 6 with (go_at_call 14; (with_reducible refine (dec_arg b K (some ⟨g5, 0, none⟩) 16 X w6 HC6.out HS.out HKB.out HP6.out).mono ?_); rintro e w7 ⟨g7, rfl, ho, hb⟩; have HD7 := Lib.hid (own16 (by omega) ho HDB.out); have HB7 := Lib.hid (bt HB6.out hb); have HC7 := Lib.hid (HC6.out.on hb); have HX7 := Lib.hid (HP6.out.on hb); have HY7 := Lib.hid (HA6.out.on hb); clear ho hb)
  go_upto_region 7 with (go_at_call 13; (with_reducible refine (enc_arg b K (some ⟨g7, 0, none⟩) 16 _ w7 HC7.out HS.out HKB.out HD7.out).mono ?_); rintro e w8 ⟨g8, rfl, ho, hb⟩; rw [HED.out] at ho; have HQ8 := Lib.hid (own16 (by omega) ho HXB.out); have HB8 := Lib.hid (bt HB7.out hb); have HC8 := Lib.hid (HC7.out.on hb); have HX8 := Lib.hid (HX7.out.on hb); have HY8 := Lib.hid (HY7.out.on hb); clear ho hb)
  go_upto_region 8 with (go_at_call 13; (with_reducible refine (enc_arg b K (some ⟨g5, 0, none⟩) 16 X w8 HC8.out HS.out HKB.out HX8.out).mono ?_); rintro e w9 ⟨g9, rfl, ho, hb⟩; have HU9 := Lib.hid (own16 (by omega) ho HUB.out); have HB9 := Lib.hid (bt HB8.out hb); have HC9 := Lib.hid (HC8.out.on hb); have HX9 := Lib.hid (HX8.out.on hb); have HY9 := Lib.hid (HY8.out.on hb); have HQ9 := Lib.hid (HQ8.out.on hb); clear ho hb)
  go_upto_region 9 with (go_at_call 13; (with_reducible refine (enc_arg b K (some ⟨g6, 0, none⟩) 16 Y w9 HC9.out HS.out HKB.out HY9.out).mono ?_); rintro e w10 ⟨g10, rfl, ho, hb⟩; have HV10 := Lib.hid (own16 (by omega) ho HVB.out); have HB10 := Lib.hid (bt HB9.out hb); have HX10 := Lib.hid (HX9.out.on hb); have HY10 := Lib.hid (HY9.out.on hb); have HQ10 := Lib.hid (HQ9.out.on hb); have HU10 := Lib.hid (HU9.out.on hb); clear ho hb)
  have hcv := HV10.out.strK
  have hcy := HY10.out.strK
  have hcx := HX10.out.strK
  have hcq := HQ10.out.strK
  have hcu := HU10.out.strK
  obtain ⟨U, hU⟩ : ∃ U, U = encL (K.length / 4 + 6) (keyW K) X := ⟨_, rfl⟩
  obtain ⟨V, hV⟩ : ∃ V, V = encL (K.length / 4 + 6) (keyW K) Y := ⟨_, rfl⟩
  rw [← hU] at hcu hUV
  rw [← hV] at hcv hUV
  clear hV
  clear hU
  go_wp2
  go_ret
  exact ⟨rfl, HB10.out⟩
theorem cipherBack_walk (a0 : Option Addr) (L0 c0 : Nat) (t : Bool) (a2 : Option Addr) (L2 c2 : Nat) (a3 : Option Addr) (L3 c3 : Nat) (w : World) (w0 : ∃ l, Arg8c w a0 L0 c0 l) (w2 : ∃ l, Arg8c w a2 L2 c2 l) (w3 : ∃ l, Arg8c w a3 L3 c3 l) :
    Calls Try.prog 4 #[.slice a0 L0 c0, .bool t, .slice a2 L2 c2, .slice a3 L3 c3] w fun e w' => e = .returned (.bool true) ∧ Below w.heap.size w w' := by
  obtain ⟨k, hk, _⟩ := w0
  obtain ⟨x, hx, _⟩ := w2
  obtain ⟨y, hy, _⟩ := w3
  by_cases he : padL x 16 = padL y 16
  · cases t
    · exact back_16_same a0 L0 c0 a2 L2 c2 a3 L3 c3 k x y w hk hx hy he
    · exact back_32_same a0 L0 c0 a2 L2 c2 a3 L3 c3 k x y w hk hx hy he
  · cases t
    · exact back_16_apart a0 L0 c0 a2 L2 c2 a3 L3 c3 k x y w hk hx hy he
    · exact back_32_apart a0 L0 c0 a2 L2 c2 a3 L3 c3 k x y w hk hx hy he
end Go.Proofs.Ytpfhfnhbholboaa
