/- The walk of CipherEncrypts (written by gen28.py). -/
import Derived.Test.YtpfhfnhbholboaaKv
import Derived.Test.YtpfhfnhbholboaaKe2
import Derived.Deep.DrawnRows
namespace Go.Proofs.Ytpfhfnhbholboaa
open Go.ChangeShapes Go.WideShapes Go.ChangeAt Go.RowKit
set_option linter.unusedVariables false
set_option linter.unusedSimpArgs false
set_option maxRecDepth 100000
attribute [local go_sem ↓] Go.wp_at_zero Go.wp_at_succ

theorem refEnc_arg (a : Option Addr) (L c : Nat) (l : List Int) (a2 : Option Addr) (c2 : Nat) (b : List Int) (w : World) (hx : Arg8 w a L c l) (hL : L = 16 ∨ L = 32) (hy : Arg8 w a2 16 c2 b) :
    Calls Try.prog 15 #[.slice a L c, .slice a2 16 c2] w fun e w' => ∃ g, e = .returned (.slice (some ⟨g, 0, none⟩) 16 16) ∧ Arg8 w' (some ⟨g, 0, none⟩) 16 16 (encL (l.length / 4 + 6) (keyW l) b) ∧ Below w.heap.size w w' := by
  unfold encL keyW
  rw [hx.1]
  rcases hL with rfl | rfl
  · exact refEnc_any a 16 c 4 l a2 c2 b w hx (Or.inl rfl) rfl hy
  · exact refEnc_any a 32 c 8 l a2 c2 b w hx (Or.inr rfl) rfl hy
/-- A row of bytes is no part of a cipher. -/
theorem cip_apart {w : World} {b g cap n g3 base N c : Nat} {W : Nat → Nat → Nat} {l : List Int} (h : CipA w b g cap n W) (ho : w.ownsRow base 5 1 (.slice (some ⟨g3, 0, none⟩) N c) N (l.map (Value.int .u8))) (hN : 0 < N) : b ≠ g3 ∧ g ≠ g3 := by
  have h0 := own_cells ho 0 hN
  rw [Nat.zero_add] at h0
  refine ⟨fun e => ?_, fun e => ?_⟩
  · have := h.2.2.2.1
    rw [e, h0] at this
    cases this
  · have := h.2.2.2.2.1 0 (Nat.zero_le _) 0 (sqc (rk W 0) 0) rfl
    rw [Nat.mul_zero, Nat.add_zero, e, h0] at this
    cases this
theorem u8_xor255 {x : Int} (h : 0 ≤ x ∧ x < 256) : ∃ y : Int, bits .xor .u8 x 255 = y ∧ 0 ≤ y ∧ y < 256 := by
  have h1 := u8_xor_nat x.toNat 255 (by omega) (by omega)
  have h2 := Nat.xor_lt_two_pow (n := 8) (show x.toNat < 2 ^ 8 by omega) (show 255 < 2 ^ 8 by omega)
  rw [show ((x.toNat : Nat) : Int) = x by omega] at h1
  exact ⟨_, h1, by omega, by omega⟩
theorem allB_set {l : List Int} (h : AllB l) (i : Nat) {y : Int} (hy : 0 ≤ y ∧ y < 256) : AllB (l.set i y) := fun x hx => by
  rcases List.mem_or_eq_of_mem_set hx with h1 | h1
  · exact h x h1
  · rw [h1]; exact hy
set_option maxHeartbeats 4000000 in
theorem encrypts_16 (a0 : Option Addr) (L0 c0 : Nat) (a2 : Option Addr) (L2 c2 : Nat) (k x : List Int) (w : World) (hk : Arg8 w a0 L0 c0 k) (hx : Arg8 w a2 L2 c2 x) :
    Calls Try.prog 3 #[.slice a0 L0 c0, .bool false, .slice a2 L2 c2] w fun e w' => e = .returned (.bool true) ∧ Below w.heap.size w w' := by
  have HX := Lib.hid hx
  have HK := Lib.hid hk
  have HXB := Lib.hid (allB_padL hx.2.1 16)
  have HXL := Lib.hid (length_padL x 16)
  have HKB := Lib.hid (allB_padL hk.2.1 16)
  have HKL := Lib.hid (length_padL k 16)
  have HK2 := Lib.hid (fun W (h : Arg8 W a0 L0 c0 k) => key_16 a0 L0 c0 k W h)
  have HX2 := Lib.hid (fun W (h : Arg8 W a2 L2 c2 x) => key_16 a2 L2 c2 x W h)
  obtain ⟨K, hK⟩ : ∃ K, K = padL k 16 := ⟨_, rfl⟩
  obtain ⟨X, hX⟩ : ∃ X, X = padL x 16 := ⟨_, rfl⟩
  rw [← hK] at HKB HK2 HKL
  rw [← hX] at HXB HX2 HXL
  have hWB := keyW_bd HKB.out
  have HS : Hid (K.length = 16 ∨ K.length = 32) := Lib.hid (by rw [HKL.out]; omega)
  have HDE := Lib.hid (dec_encL hWB (K.length / 4 + 6) HXL.out HXB.out)
  have HUB := Lib.hid (allB_encL hWB (K.length / 4 + 6) X)
  clear hK hX hk hx hWB
  go_enter Try.func3, Try.ntmps3
  go_upto_region 3 with (go_at_call 9; (with_reducible refine (livesK_any _).mono ?_); rintro e w1 ⟨rfl, hb⟩; have HB1 := Lib.hid hb; have HK1 := Lib.hid (HK.out.on hb); clear hb)
  go_upto_region 4 with (go_at_call 10; (with_reducible refine (HK2.out w1 HK1.out).mono ?_); rintro e w3 ⟨g3, rfl, ho, hb⟩; have HO3 := Lib.hid ho; have HB3 := Lib.hid (bt HB1.out hb); clear ho hb)
  have HX3 := Lib.hid (HX.out.on HB3.out)
  go_upto_region 5 with (go_at_call 10; (with_reducible refine (HX2.out w3 HX3.out).mono ?_); rintro e w4 ⟨g4, rfl, ho, hb⟩; have HG4 := Lib.hid (show w3.heap.size ≤ g4 from (own_caps ho).2.2.2.1); have HA4 := Lib.hid (own16 (by omega) ho HXB.out); have HO4 := Lib.hid (own_belowK HO3.out hb); have HB4 := Lib.hid (bt HB3.out hb); clear ho hb)
  have HG3 := Lib.hid (show w1.heap.size ≤ g3 ∧ g3 < w3.heap.size from ⟨(own_caps HO3.out).2.2.2.1, (own_caps HO3.out).2.2.2.2⟩)
  go_upto_region 6 with (first
    | (go_at_call 12; (with_reducible refine (new_any _).mono ?_); rintro e w5 ⟨fb, rfl, hb0, hf, hbel⟩; have HF5 := Lib.hid hf; have HB5 := Lib.hid (bt HB4.out hbel); have HO5 := Lib.hid (own_belowK HO4.out hbel); have HA5 := Lib.hid (HA4.out.on hbel); have HE5 := Lib.hid (own16 (by omega) HO5.out HKB.out); clear hf hb0 hbel)
    | (go_at_call 11; (with_reducible refine (new_arg fb (some ⟨g3, 0, none⟩) 16 16 K w5 HF5.out HE5.out (Or.inl rfl)).mono ?_); rintro e w6 ⟨b, rfl, hc, hb⟩; have HB6 := Lib.hid (bt HB5.out hb); have HC6 := Lib.hid hc; have HO6 := Lib.hid (own_belowK HO5.out hb); have HA6 := Lib.hid (HA5.out.on hb); clear hc hb))
  obtain ⟨gk, ck, hca⟩ := HC6.out
  have HCA := Lib.hid (show CipA w6 b gk ck (K.length / 4 + 6) (keyW K) from hca)
  have HAP := Lib.hid (cip_apart HCA.out HO6.out (by omega))
  have HLEN := Lib.hid (show K.length / 4 + 6 = 10 by rw [HKL.out])
  clear hca
  go_wp2_with fail
  go_loopw [31] (fun q V => ∃ (i : Nat) (cur : List Int), i ≤ 16 ∧ q = .int .i64 (i : Nat) ∧ V.ownsRow w1.heap.size 5 1 (.slice (some ⟨g3, 0, none⟩) 16 16) 16 (cur.map (Value.int .u8)) ∧ AllB cur ∧ CipA V b gk ck (K.length / 4 + 6) (keyW K) ∧ Arg8 V (some ⟨g4, 0, none⟩) 16 16 X ∧ Below w.heap.size w V) (fun q _ => 16 - (intOf q).toNat)
  case atStart => exact ⟨0, K, by omega, rfl, HO6.out, HKB.out, HCA.out, HA6.out, HB6.out⟩
  case round =>
    obtain ⟨i, cur, hi, rfl, h1, h2, h3, h4, h5⟩ := hrel
    rename World => V
    have G1 := Lib.hid h1
    have G2 := Lib.hid h2
    have G3 := Lib.hid h3
    have G4 := Lib.hid h4
    have G5 := Lib.hid h5
    clear h1 h2 h3 h4 h5 HO6 HCA HA6 HB6
    by_cases hlt : i < 16
    · have hcc := own_cells G1.out i hlt
      rw [Nat.zero_add] at hcc
      have hfc := G1.out.frozenAt i
      have hx := allB_getD G2.out i
      obtain ⟨x0, hx0⟩ : ∃ x0, x0 = cur.getD i 0 := ⟨_, rfl⟩
      rw [← hx0] at hcc hx
      obtain ⟨y0, hy0, hyb⟩ := u8_xor255 hx
      have HYB := Lib.hid hyb
      have HLT := Lib.hid hlt
      have qi : (i : Int) < 16 := by omega
      have qi0 : (0 : Int) ≤ (i : Int) := by omega
      have hset := cell_set_but V g3 i (.int .u8 y0)
      have HSET := Lib.hid hset
      clear hx0 hyb hlt hi hset
      go_wp2
      go_roundw
      case rel =>
        have hlen : cur.length = 16 := by have h := G1.out.1; rw [List.length_map] at h; omega
        have h1 := (G1.out.stored i (.int .u8 y0)).1
        rw [map_set_u8] at h1
        refine ⟨i + 1, cur.set i y0, by have := HLT.out; omega, by go_num, h1, allB_set G2.out i HYB.out, G3.out.but HSET.out HAP.out.1 HAP.out.2, ?_, G5.out.setCell (p := ⟨g3, i, none⟩) (by have := HG3.out.1; have := HB1.out.size; show w.heap.size ≤ g3; omega) _⟩
        obtain ⟨e1, e2, e3, e4⟩ := G4.out
        refine ⟨e1, e2, fun h0 => ?_, e4⟩
        obtain ⟨b9, o9, e9, l9, c9⟩ := e3 h0
        cases e9
        exact ⟨_, _, rfl, by simpa using l9, fun j hj => cell_but (c9 j hj) HSET.out (by have := HG4.out; have := HG3.out.2; omega)⟩
      case measure => simp [intOf]; have := HLT.out; omega
    · obtain rfl : i = 16 := by omega
      have HC7 := Lib.hid (show CipK V b K from ⟨gk, ck, G3.out⟩)
      clear G1 G2 G3 hlt hi HC6
      go_upto_region 12 with (go_at_call 13; (with_reducible refine (enc_arg b K (some ⟨g4, 0, none⟩) 16 X V HC7.out HS.out HKB.out G4.out).mono ?_); rintro e w8 ⟨g8, rfl, ho, hb⟩; have HX8 := Lib.hid (own16 (by omega) ho HUB.out); have HB8 := Lib.hid (bt G5.out hb); have HC8 := Lib.hid (HC7.out.on hb); have HBL8 := Lib.hid (G4.out.on hb); clear ho hb)
      go_upto_region 13 with (go_at_call 14; (with_reducible refine (dec_arg b K (some ⟨g8, 0, none⟩) 16 _ w8 HC8.out HS.out HKB.out HX8.out).mono ?_); rintro e w9 ⟨g9, rfl, ho, hb⟩; rw [HDE.out] at ho; have HY9 := Lib.hid (own16 (by omega) ho HXB.out); have HB9 := Lib.hid (bt HB8.out hb); have HC9 := Lib.hid (HC8.out.on hb); have HX9 := Lib.hid (HX8.out.on hb); have HBL9 := Lib.hid (HBL8.out.on hb); clear ho hb)
      have HKD := Lib.hid (show Arg8 w9.drew a0 L0 c0 k from (HK.out.on HB9.out.drew))
      obtain ⟨EX, hEX⟩ : ∃ E, E = encL (K.length / 4 + 6) (keyW K) X := ⟨_, rfl⟩
      have HEX := Lib.hid hEX
      rw [← hEX] at HX9
      clear hEX
      go_wp2_with fail
      refine wp_region_held_drew (S := fun U => Below w9.heap.size w9 U) (by kernel_rfl) (Below.refl _ _).drew (fun hHeld => ?_)
      refine wpAnyH_take (i := 0) (oi := { dst := some 53, op := Go.Op.move (Go.Operand.tmp 10), type := 26, pos := "law.go:46", after := #[], guard := none }) (v := ?v0a1) rfl (by kernel_rfl) (by kernel_rfl) (by kernel_rfl) (fun _ _ _ h => h) (Or.inl ⟨by rfl, ?hy0a1⟩) hHeld ?rest0a1
      case hy0a1 =>
        intro W' hV
        try dsimp only at hV
        go_simp
        all_goals with_reducible rfl
      case' rest0a1 => try simp only [Act.put, List.setIfInBounds_toArray, List.set_cons_zero, List.set_cons_succ]
      refine wpAnyH_take (i := 1) (oi := { dst := some 54, op := Go.Op.binOp Go.BinOp.neq 26 (Go.Operand.tmp 53) (Go.Operand.const (Go.Value.int Go.IntKind.i64 0)) 26, type := 4, pos := "law.go:46", after := #[{ on := 0, ground := Go.Ground.data }], guard := none }) (v := ?v1a2) rfl (by kernel_rfl) (by kernel_rfl) (by kernel_rfl) (fun _ _ _ h => h) (Or.inl ⟨by rfl, ?hy1a2⟩) hHeld ?rest1a2
      case hy1a2 =>
        intro W' hV
        try dsimp only at hV
        go_simp
        all_goals with_reducible rfl
      case' rest1a2 => try simp only [Act.put, List.setIfInBounds_toArray, List.set_cons_zero, List.set_cons_succ]
      refine wpAnyH_take (i := 2) (oi := { dst := some 55, op := Go.Op.move (Go.Operand.tmp 54), type := 4, pos := "law.go:46", after := #[{ on := 1, ground := Go.Ground.data }], guard := none }) (v := ?v2a3) rfl (by kernel_rfl) (by kernel_rfl) (by kernel_rfl) (fun _ _ _ h => h) (Or.inl ⟨by rfl, ?hy2a3⟩) hHeld ?rest2a3
      case hy2a3 =>
        intro W' hV
        try dsimp only at hV
        go_simp
        all_goals with_reducible rfl
      case' rest2a3 => try simp only [Act.put, List.setIfInBounds_toArray, List.set_cons_zero, List.set_cons_succ]
      refine wpAnyH_take (i := 3) (oi := { dst := some 56, op := Go.Op.move (Go.Operand.tmp 13), type := 26, pos := "law.go:46", after := #[{ on := 2, ground := Go.Ground.guard }], guard := some (2, false) }) (v := ?v3a4) rfl (by kernel_rfl) (by kernel_rfl) (by kernel_rfl) (fun _ _ _ h => h) (Or.inl ⟨by rfl, ?hy3a4⟩) hHeld ?rest3a4
      case hy3a4 =>
        intro W' hV
        try dsimp only at hV
        go_simp
        all_goals with_reducible rfl
      case' rest3a4 => try simp only [Act.put, List.setIfInBounds_toArray, List.set_cons_zero, List.set_cons_succ]
      refine wpAnyH_take (i := 4) (oi := { dst := some 57, op := Go.Op.binOp Go.BinOp.neq 26 (Go.Operand.tmp 56) (Go.Operand.const (Go.Value.int Go.IntKind.i64 0)) 26, type := 4, pos := "law.go:46", after := #[{ on := 3, ground := Go.Ground.data }, { on := 2, ground := Go.Ground.guard }], guard := some (2, false) }) (v := ?v4a5) rfl (by kernel_rfl) (by kernel_rfl) (by kernel_rfl) (fun _ _ _ h => h) (Or.inl ⟨by rfl, ?hy4a5⟩) hHeld ?rest4a5
      case hy4a5 =>
        intro W' hV
        try dsimp only at hV
        go_simp
        all_goals with_reducible rfl
      case' rest4a5 => try simp only [Act.put, List.setIfInBounds_toArray, List.set_cons_zero, List.set_cons_succ]
      refine wpAnyH_take (i := 5) (oi := { dst := some 58, op := Go.Op.pick (Go.Operand.tmp 55) (Go.Operand.const (Go.Value.bool true)) (Go.Operand.tmp 57), type := 4, pos := "law.go:46", after := #[{ on := 2, ground := Go.Ground.data }, { on := 4, ground := Go.Ground.data }], guard := none }) (v := ?v5a6) rfl (by kernel_rfl) (by kernel_rfl) (by kernel_rfl) (fun _ _ _ h => h) (Or.inl ⟨by rfl, ?hy5a6⟩) hHeld ?rest5a6
      case hy5a6 =>
        intro W' hV
        try dsimp only at hV
        go_simp
        all_goals with_reducible rfl
      case' rest5a6 => try simp only [Act.put, List.setIfInBounds_toArray, List.set_cons_zero, List.set_cons_succ]
      refine wpAnyH_take (i := 6) (oi := { dst := some 59, op := Go.Op.move (Go.Operand.tmp 58), type := 4, pos := "law.go:46", after := #[{ on := 5, ground := Go.Ground.data }, { on := 2, ground := Go.Ground.chain }], guard := none }) (v := ?v6a7) rfl (by kernel_rfl) (by kernel_rfl) (by kernel_rfl) (fun _ _ _ h => h) (Or.inl ⟨by rfl, ?hy6a7⟩) hHeld ?rest6a7
      case hy6a7 =>
        intro W' hV
        try dsimp only at hV
        go_simp
        all_goals with_reducible rfl
      case' rest6a7 => try simp only [Act.put, List.setIfInBounds_toArray, List.set_cons_zero, List.set_cons_succ]
      refine wpAnyH_take (i := 7) (oi := { dst := some 60, op := Go.Op.move (Go.Operand.tmp 15), type := 26, pos := "law.go:46", after := #[{ on := 6, ground := Go.Ground.guard }], guard := some (6, false) }) (v := ?v7a8) rfl (by kernel_rfl) (by kernel_rfl) (by kernel_rfl) (fun _ _ _ h => h) (Or.inl ⟨by rfl, ?hy7a8⟩) hHeld ?rest7a8
      case hy7a8 =>
        intro W' hV
        try dsimp only at hV
        go_simp
        all_goals with_reducible rfl
      case' rest7a8 => try simp only [Act.put, List.setIfInBounds_toArray, List.set_cons_zero, List.set_cons_succ]
      refine wpAnyH_take (i := 8) (oi := { dst := some 61, op := Go.Op.binOp Go.BinOp.neq 26 (Go.Operand.tmp 60) (Go.Operand.const (Go.Value.int Go.IntKind.i64 0)) 26, type := 4, pos := "law.go:46", after := #[{ on := 7, ground := Go.Ground.data }, { on := 6, ground := Go.Ground.guard }], guard := some (6, false) }) (v := ?v8a9) rfl (by kernel_rfl) (by kernel_rfl) (by kernel_rfl) (fun _ _ _ h => h) (Or.inl ⟨by rfl, ?hy8a9⟩) hHeld ?rest8a9
      case hy8a9 =>
        intro W' hV
        try dsimp only at hV
        go_simp
        all_goals with_reducible rfl
      case' rest8a9 => try simp only [Act.put, List.setIfInBounds_toArray, List.set_cons_zero, List.set_cons_succ]
      refine wpAnyH_take (i := 9) (oi := { dst := some 62, op := Go.Op.pick (Go.Operand.tmp 59) (Go.Operand.const (Go.Value.bool true)) (Go.Operand.tmp 61), type := 4, pos := "law.go:46", after := #[{ on := 6, ground := Go.Ground.data }, { on := 8, ground := Go.Ground.data }], guard := none }) (v := ?v9a10) rfl (by kernel_rfl) (by kernel_rfl) (by kernel_rfl) (fun _ _ _ h => h) (Or.inl ⟨by rfl, ?hy9a10⟩) hHeld ?rest9a10
      case hy9a10 =>
        intro W' hV
        try dsimp only at hV
        go_simp
        all_goals with_reducible rfl
      case' rest9a10 => try simp only [Act.put, List.setIfInBounds_toArray, List.set_cons_zero, List.set_cons_succ]
      refine wpAnyH_take (i := 10) (oi := { dst := some 63, op := Go.Op.move (Go.Operand.tmp 62), type := 4, pos := "law.go:46", after := #[{ on := 9, ground := Go.Ground.data }, { on := 6, ground := Go.Ground.chain }], guard := none }) (v := ?v10a11) rfl (by kernel_rfl) (by kernel_rfl) (by kernel_rfl) (fun _ _ _ h => h) (Or.inl ⟨by rfl, ?hy10a11⟩) hHeld ?rest10a11
      case hy10a11 =>
        intro W' hV
        try dsimp only at hV
        go_simp
        all_goals with_reducible rfl
      case' rest10a11 => try simp only [Act.put, List.setIfInBounds_toArray, List.set_cons_zero, List.set_cons_succ]
      refine wpAnyH_take (i := 11) (oi := { dst := some 64, op := Go.Op.move (Go.Operand.tmp 12), type := 22, pos := "law.go:46", after := #[{ on := 10, ground := Go.Ground.guard }], guard := some (10, false) }) (v := ?v11a12) rfl (by kernel_rfl) (by kernel_rfl) (by kernel_rfl) (fun _ _ _ h => h) (Or.inl ⟨by rfl, ?hy11a12⟩) hHeld ?rest11a12
      case hy11a12 =>
        intro W' hV
        try dsimp only at hV
        go_simp
        all_goals with_reducible rfl
      case' rest11a12 => try simp only [Act.put, List.setIfInBounds_toArray, List.set_cons_zero, List.set_cons_succ]
      refine wpAnyH_take (i := 12) (oi := { dst := some 65, op := Go.Op.convert 22 9 (Go.Operand.tmp 64), type := 9, pos := "law.go:46", after := #[{ on := 11, ground := Go.Ground.data }, { on := 10, ground := Go.Ground.guard }], guard := some (10, false) }) (v := ?v12a13) rfl (by kernel_rfl) (by kernel_rfl) (by kernel_rfl) (fun _ _ _ h => h) (Or.inl ⟨by rfl, ?hy12a13⟩) hHeld ?rest12a13
      case hy12a13 =>
        intro W' hV
        try dsimp only at hV
        have hcv := (HX9.out.on hV).strK
        go_simp
        all_goals with_reducible rfl
      case' rest12a13 => try simp only [Act.put, List.setIfInBounds_toArray, List.set_cons_zero, List.set_cons_succ]
      refine wpAnyH_take (i := 13) (oi := { dst := some 66, op := Go.Op.move (Go.Operand.tmp 0), type := 22, pos := "law.go:46", after := #[{ on := 10, ground := Go.Ground.guard }], guard := some (10, false) }) (v := ?v13a14) rfl (by kernel_rfl) (by kernel_rfl) (by kernel_rfl) (fun _ _ _ h => h) (Or.inl ⟨by rfl, ?hy13a14⟩) hHeld ?rest13a14
      case hy13a14 =>
        intro W' hV
        try dsimp only at hV
        go_simp
        all_goals with_reducible rfl
      case' rest13a14 => try simp only [Act.put, List.setIfInBounds_toArray, List.set_cons_zero, List.set_cons_succ]
      refine wpAnyH_take (i := 14) (oi := { dst := some 67, op := Go.Op.move (Go.Operand.tmp 1), type := 4, pos := "law.go:46", after := #[{ on := 10, ground := Go.Ground.guard }], guard := some (10, false) }) (v := ?v14a15) rfl (by kernel_rfl) (by kernel_rfl) (by kernel_rfl) (fun _ _ _ h => h) (Or.inl ⟨by rfl, ?hy14a15⟩) hHeld ?rest14a15
      case hy14a15 =>
        intro W' hV
        try dsimp only at hV
        go_simp
        all_goals with_reducible rfl
      case' rest14a15 => try simp only [Act.put, List.setIfInBounds_toArray, List.set_cons_zero, List.set_cons_succ]
      refine wpAnyH_take (i := 16) (oi := { dst := some 69, op := Go.Op.move (Go.Operand.tmp 8), type := 22, pos := "law.go:46", after := #[{ on := 10, ground := Go.Ground.guard }], guard := some (10, false) }) (v := ?v16a16) rfl (by kernel_rfl) (by kernel_rfl) (by kernel_rfl) (fun _ _ _ h => h) (Or.inl ⟨by rfl, ?hy16a16⟩) hHeld ?rest16a16
      case hy16a16 =>
        intro W' hV
        try dsimp only at hV
        go_simp
        all_goals with_reducible rfl
      case' rest16a16 => try simp only [Act.put, List.setIfInBounds_toArray, List.set_cons_zero, List.set_cons_succ]
      refine wpAnyH_ready (rs := [15]) (by kernel_rfl) (by simp) ?_
      refine AllReadyH.cons (o := { dst := some 68, op := Go.Op.call { callee := Go.Callee.value (Go.Operand.func 10), args := #[Go.Operand.tmp 66, Go.Operand.tmp 67], argTypes := #[22, 4] }, type := 22, pos := "law.go:46", after := #[{ on := 13, ground := Go.Ground.data }, { on := 14, ground := Go.Ground.data }, { on := 10, ground := Go.Ground.chain }, { on := 10, ground := Go.Ground.guard }], guard := some (10, false) }) rfl (fun K' hK => ?_) AllReadyH.nil
      rw [if_pos (by rfl)]
      go_simp
      go_wp2_with (go_at_call 10; (with_reducible refine (HK2.out _ HKD.out).mono ?_); rintro e w10 ⟨g10, rfl, ho, hb⟩)
      have HA10 := Lib.hid (own16 (by omega) ho HKB.out)
      have HB10 := Lib.hid (show Below w9.heap.size w9 w10 from bt hHeld hb)
      have HBL10 := Lib.hid (HBL9.out.on HB10.out)
      clear ho hb
      refine hK.out _ _ HB10.out (fun hHeld1 => ?_)
      clear hK K' hHeld
      have hHeld := hHeld1
      clear hHeld1
      try simp only [Act.put, List.setIfInBounds_toArray, List.set_cons_zero, List.set_cons_succ]
      refine wpAnyH_ready (rs := [17]) (by kernel_rfl) (by simp) ?_
      refine AllReadyH.cons (o := { dst := some 70, op := Go.Op.call { callee := Go.Callee.value (Go.Operand.func 15), args := #[Go.Operand.tmp 68, Go.Operand.tmp 69], argTypes := #[22, 22] }, type := 22, pos := "law.go:46", after := #[{ on := 15, ground := Go.Ground.data }, { on := 16, ground := Go.Ground.data }, { on := 15, ground := Go.Ground.chain }, { on := 10, ground := Go.Ground.guard }], guard := some (10, false) }) rfl (fun K' hK => ?_) AllReadyH.nil
      rw [if_pos (by rfl)]
      go_simp
      go_wp2_with (go_at_call 15; (with_reducible refine (refEnc_arg (some ⟨g10, 0, none⟩) 16 16 K (some ⟨g4, 0, none⟩) 16 X _ HA10.out (Or.inl rfl) HBL10.out).mono ?_); rintro e w11 ⟨g11, rfl, ho, hb⟩)
      rw [← HEX.out] at ho
      have HR11 := Lib.hid ho
      have HB11 := Lib.hid (show Below w9.heap.size w9 w11 from bt HB10.out hb)
      clear ho hb
      refine hK.out _ _ HB11.out (fun hHeld1 => ?_)
      clear hK K' hHeld
      have hHeld := hHeld1
      clear hHeld1
      try simp only [Act.put, List.setIfInBounds_toArray, List.set_cons_zero, List.set_cons_succ]
      refine wpAnyH_ready (rs := [18]) (by kernel_rfl) (by simp) ?_
      refine AllReadyH.cons (o := { dst := some 71, op := Go.Op.convert 22 9 (Go.Operand.tmp 70), type := 9, pos := "law.go:46", after := #[{ on := 17, ground := Go.Ground.data }, { on := 10, ground := Go.Ground.guard }], guard := some (10, false) }) rfl (fun K' hK => ?_) AllReadyH.nil
      rw [if_pos (by rfl)]
      have hcr := HR11.out.strK
      go_simp
      refine hK.out _ _ HB11.out (fun hHeld1 => ?_)
      clear hK K' hHeld
      have hHeld := hHeld1
      clear hHeld1
      try simp only [Act.put, List.setIfInBounds_toArray, List.set_cons_zero, List.set_cons_succ]
      refine wpAnyH_take (i := 19) (oi := { dst := some 72, op := Go.Op.binOp Go.BinOp.neq 9 (Go.Operand.tmp 65) (Go.Operand.tmp 71) 9, type := 4, pos := "law.go:46", after := #[{ on := 12, ground := Go.Ground.data }, { on := 18, ground := Go.Ground.data }, { on := 10, ground := Go.Ground.guard }], guard := some (10, false) }) (v := ?v19a17) rfl (by kernel_rfl) (by kernel_rfl) (by kernel_rfl) (fun _ _ _ h => h) (Or.inl ⟨by rfl, ?hy19a17⟩) hHeld ?rest19a17
      case hy19a17 =>
        intro W' hV
        try dsimp only at hV
        have hee := str_eq (rfl : EX = EX)
        go_simp
        all_goals with_reducible rfl
      case' rest19a17 => try simp only [Act.put, List.setIfInBounds_toArray, List.set_cons_zero, List.set_cons_succ]
      refine wpAnyH_take (i := 20) (oi := { dst := some 73, op := Go.Op.pick (Go.Operand.tmp 63) (Go.Operand.const (Go.Value.bool true)) (Go.Operand.tmp 72), type := 4, pos := "law.go:46", after := #[{ on := 10, ground := Go.Ground.data }, { on := 19, ground := Go.Ground.data }], guard := none }) (v := ?v20a18) rfl (by kernel_rfl) (by kernel_rfl) (by kernel_rfl) (fun _ _ _ h => h) (Or.inl ⟨by rfl, ?hy20a18⟩) hHeld ?rest20a18
      case hy20a18 =>
        intro W' hV
        try dsimp only at hV
        go_simp
        all_goals with_reducible rfl
      case' rest20a18 => try simp only [Act.put, List.setIfInBounds_toArray, List.set_cons_zero, List.set_cons_succ]
      refine wpAnyH_take (i := 21) (oi := { dst := some 74, op := Go.Op.move (Go.Operand.tmp 73), type := 4, pos := "law.go:46", after := #[{ on := 20, ground := Go.Ground.data }, { on := 17, ground := Go.Ground.chain }], guard := none }) (v := ?v21a19) rfl (by kernel_rfl) (by kernel_rfl) (by kernel_rfl) (fun _ _ _ h => h) (Or.inl ⟨by rfl, ?hy21a19⟩) hHeld ?rest21a19
      case hy21a19 =>
        intro W' hV
        try dsimp only at hV
        go_simp
        all_goals with_reducible rfl
      case' rest21a19 => try simp only [Act.put, List.setIfInBounds_toArray, List.set_cons_zero, List.set_cons_succ]
      refine wpAnyH_take (i := 22) (oi := { dst := some 75, op := Go.Op.move (Go.Operand.tmp 14), type := 22, pos := "law.go:46", after := #[{ on := 21, ground := Go.Ground.guard }], guard := some (21, false) }) (v := ?v22a20) rfl (by kernel_rfl) (by kernel_rfl) (by kernel_rfl) (fun _ _ _ h => h) (Or.inl ⟨by rfl, ?hy22a20⟩) hHeld ?rest22a20
      case hy22a20 =>
        intro W' hV
        try dsimp only at hV
        go_simp
        all_goals with_reducible rfl
      case' rest22a20 => try simp only [Act.put, List.setIfInBounds_toArray, List.set_cons_zero, List.set_cons_succ]
      refine wpAnyH_take (i := 23) (oi := { dst := some 76, op := Go.Op.convert 22 9 (Go.Operand.tmp 75), type := 9, pos := "law.go:46", after := #[{ on := 22, ground := Go.Ground.data }, { on := 21, ground := Go.Ground.guard }], guard := some (21, false) }) (v := ?v23a21) rfl (by kernel_rfl) (by kernel_rfl) (by kernel_rfl) (fun _ _ _ h => h) (Or.inl ⟨by rfl, ?hy23a21⟩) hHeld ?rest23a21
      case hy23a21 =>
        intro W' hV
        try dsimp only at hV
        have hcv := (HY9.out.on hV).strK
        go_simp
        all_goals with_reducible rfl
      case' rest23a21 => try simp only [Act.put, List.setIfInBounds_toArray, List.set_cons_zero, List.set_cons_succ]
      refine wpAnyH_take (i := 24) (oi := { dst := some 77, op := Go.Op.move (Go.Operand.tmp 8), type := 22, pos := "law.go:46", after := #[{ on := 21, ground := Go.Ground.guard }], guard := some (21, false) }) (v := ?v24a22) rfl (by kernel_rfl) (by kernel_rfl) (by kernel_rfl) (fun _ _ _ h => h) (Or.inl ⟨by rfl, ?hy24a22⟩) hHeld ?rest24a22
      case hy24a22 =>
        intro W' hV
        try dsimp only at hV
        go_simp
        all_goals with_reducible rfl
      case' rest24a22 => try simp only [Act.put, List.setIfInBounds_toArray, List.set_cons_zero, List.set_cons_succ]
      refine wpAnyH_take (i := 25) (oi := { dst := some 78, op := Go.Op.convert 22 9 (Go.Operand.tmp 77), type := 9, pos := "law.go:46", after := #[{ on := 24, ground := Go.Ground.data }, { on := 21, ground := Go.Ground.guard }], guard := some (21, false) }) (v := ?v25a23) rfl (by kernel_rfl) (by kernel_rfl) (by kernel_rfl) (fun _ _ _ h => h) (Or.inl ⟨by rfl, ?hy25a23⟩) hHeld ?rest25a23
      case hy25a23 =>
        intro W' hV
        try dsimp only at hV
        have hcv := (HBL9.out.on hV).strK
        go_simp
        all_goals with_reducible rfl
      case' rest25a23 => try simp only [Act.put, List.setIfInBounds_toArray, List.set_cons_zero, List.set_cons_succ]
      refine wpAnyH_take (i := 26) (oi := { dst := some 79, op := Go.Op.binOp Go.BinOp.neq 9 (Go.Operand.tmp 76) (Go.Operand.tmp 78) 9, type := 4, pos := "law.go:46", after := #[{ on := 23, ground := Go.Ground.data }, { on := 25, ground := Go.Ground.data }, { on := 21, ground := Go.Ground.guard }], guard := some (21, false) }) (v := ?v26a24) rfl (by kernel_rfl) (by kernel_rfl) (by kernel_rfl) (fun _ _ _ h => h) (Or.inl ⟨by rfl, ?hy26a24⟩) hHeld ?rest26a24
      case hy26a24 =>
        intro W' hV
        try dsimp only at hV
        have hee := str_eq (rfl : X = X)
        go_simp
        all_goals with_reducible rfl
      case' rest26a24 => try simp only [Act.put, List.setIfInBounds_toArray, List.set_cons_zero, List.set_cons_succ]
      refine wpAnyH_take (i := 27) (oi := { dst := some 80, op := Go.Op.pick (Go.Operand.tmp 74) (Go.Operand.const (Go.Value.bool true)) (Go.Operand.tmp 79), type := 4, pos := "law.go:46", after := #[{ on := 21, ground := Go.Ground.data }, { on := 26, ground := Go.Ground.data }], guard := none }) (v := ?v27a25) rfl (by kernel_rfl) (by kernel_rfl) (by kernel_rfl) (fun _ _ _ h => h) (Or.inl ⟨by rfl, ?hy27a25⟩) hHeld ?rest27a25
      case hy27a25 =>
        intro W' hV
        try dsimp only at hV
        go_simp
        all_goals with_reducible rfl
      case' rest27a25 => try simp only [Act.put, List.setIfInBounds_toArray, List.set_cons_zero, List.set_cons_succ]
      refine wpAnyH_done (by kernel_rfl) ?_ _
      clear hHeld
      have HC11 := Lib.hid (show Cip w11 b 10 (keyW K) from by rw [← HLEN.out]; exact HC9.out.on HB11.out)
      go_wp2_with (go_at_call 16; (with_reducible refine (rounds_cip b 10 (keyW K) w11 HC11.out).mono ?_); rintro e w12 ⟨rfl, rfl⟩)
      go_ret
      exact ⟨rfl, bt HB9.out HB11.out⟩
set_option maxHeartbeats 4000000 in
theorem encrypts_32 (a0 : Option Addr) (L0 c0 : Nat) (a2 : Option Addr) (L2 c2 : Nat) (k x : List Int) (w : World) (hk : Arg8 w a0 L0 c0 k) (hx : Arg8 w a2 L2 c2 x) :
    Calls Try.prog 3 #[.slice a0 L0 c0, .bool true, .slice a2 L2 c2] w fun e w' => e = .returned (.bool true) ∧ Below w.heap.size w w' := by
  have HX := Lib.hid hx
  have HK := Lib.hid hk
  have HXB := Lib.hid (allB_padL hx.2.1 16)
  have HXL := Lib.hid (length_padL x 16)
  have HKB := Lib.hid (allB_padL hk.2.1 32)
  have HKL := Lib.hid (length_padL k 32)
  have HK2 := Lib.hid (fun W (h : Arg8 W a0 L0 c0 k) => key_32 a0 L0 c0 k W h)
  have HX2 := Lib.hid (fun W (h : Arg8 W a2 L2 c2 x) => key_16 a2 L2 c2 x W h)
  obtain ⟨K, hK⟩ : ∃ K, K = padL k 32 := ⟨_, rfl⟩
  obtain ⟨X, hX⟩ : ∃ X, X = padL x 16 := ⟨_, rfl⟩
  rw [← hK] at HKB HK2 HKL
  rw [← hX] at HXB HX2 HXL
  have hWB := keyW_bd HKB.out
  have HS : Hid (K.length = 16 ∨ K.length = 32) := Lib.hid (by rw [HKL.out]; omega)
  have HDE := Lib.hid (dec_encL hWB (K.length / 4 + 6) HXL.out HXB.out)
  have HUB := Lib.hid (allB_encL hWB (K.length / 4 + 6) X)
  clear hK hX hk hx hWB
  go_enter Try.func3, Try.ntmps3
  go_upto_region 3 with (go_at_call 9; (with_reducible refine (livesK_any _).mono ?_); rintro e w1 ⟨rfl, hb⟩; have HB1 := Lib.hid hb; have HK1 := Lib.hid (HK.out.on hb); clear hb)
  go_upto_region 4 with (go_at_call 10; (with_reducible refine (HK2.out w1 HK1.out).mono ?_); rintro e w3 ⟨g3, rfl, ho, hb⟩; have HO3 := Lib.hid ho; have HB3 := Lib.hid (bt HB1.out hb); clear ho hb)
  have HX3 := Lib.hid (HX.out.on HB3.out)
  go_upto_region 5 with (go_at_call 10; (with_reducible refine (HX2.out w3 HX3.out).mono ?_); rintro e w4 ⟨g4, rfl, ho, hb⟩; have HG4 := Lib.hid (show w3.heap.size ≤ g4 from (own_caps ho).2.2.2.1); have HA4 := Lib.hid (own16 (by omega) ho HXB.out); have HO4 := Lib.hid (own_belowK HO3.out hb); have HB4 := Lib.hid (bt HB3.out hb); clear ho hb)
  have HG3 := Lib.hid (show w1.heap.size ≤ g3 ∧ g3 < w3.heap.size from ⟨(own_caps HO3.out).2.2.2.1, (own_caps HO3.out).2.2.2.2⟩)
  go_upto_region 6 with (first
    | (go_at_call 12; (with_reducible refine (new_any _).mono ?_); rintro e w5 ⟨fb, rfl, hb0, hf, hbel⟩; have HF5 := Lib.hid hf; have HB5 := Lib.hid (bt HB4.out hbel); have HO5 := Lib.hid (own_belowK HO4.out hbel); have HA5 := Lib.hid (HA4.out.on hbel); have HE5 := Lib.hid (own16 (by omega) HO5.out HKB.out); clear hf hb0 hbel)
    | (go_at_call 11; (with_reducible refine (new_arg fb (some ⟨g3, 0, none⟩) 32 32 K w5 HF5.out HE5.out (Or.inr rfl)).mono ?_); rintro e w6 ⟨b, rfl, hc, hb⟩; have HB6 := Lib.hid (bt HB5.out hb); have HC6 := Lib.hid hc; have HO6 := Lib.hid (own_belowK HO5.out hb); have HA6 := Lib.hid (HA5.out.on hb); clear hc hb))
  obtain ⟨gk, ck, hca⟩ := HC6.out
  have HCA := Lib.hid (show CipA w6 b gk ck (K.length / 4 + 6) (keyW K) from hca)
  have HAP := Lib.hid (cip_apart HCA.out HO6.out (by omega))
  have HLEN := Lib.hid (show K.length / 4 + 6 = 14 by rw [HKL.out])
  clear hca
  go_wp2_with fail
  go_loopw [31] (fun q V => ∃ (i : Nat) (cur : List Int), i ≤ 32 ∧ q = .int .i64 (i : Nat) ∧ V.ownsRow w1.heap.size 5 1 (.slice (some ⟨g3, 0, none⟩) 32 32) 32 (cur.map (Value.int .u8)) ∧ AllB cur ∧ CipA V b gk ck (K.length / 4 + 6) (keyW K) ∧ Arg8 V (some ⟨g4, 0, none⟩) 16 16 X ∧ Below w.heap.size w V) (fun q _ => 32 - (intOf q).toNat)
  case atStart => exact ⟨0, K, by omega, rfl, HO6.out, HKB.out, HCA.out, HA6.out, HB6.out⟩
  case round =>
    obtain ⟨i, cur, hi, rfl, h1, h2, h3, h4, h5⟩ := hrel
    rename World => V
    have G1 := Lib.hid h1
    have G2 := Lib.hid h2
    have G3 := Lib.hid h3
    have G4 := Lib.hid h4
    have G5 := Lib.hid h5
    clear h1 h2 h3 h4 h5 HO6 HCA HA6 HB6
    by_cases hlt : i < 32
    · have hcc := own_cells G1.out i hlt
      rw [Nat.zero_add] at hcc
      have hfc := G1.out.frozenAt i
      have hx := allB_getD G2.out i
      obtain ⟨x0, hx0⟩ : ∃ x0, x0 = cur.getD i 0 := ⟨_, rfl⟩
      rw [← hx0] at hcc hx
      obtain ⟨y0, hy0, hyb⟩ := u8_xor255 hx
      have HYB := Lib.hid hyb
      have HLT := Lib.hid hlt
      have qi : (i : Int) < 32 := by omega
      have qi0 : (0 : Int) ≤ (i : Int) := by omega
      have hset := cell_set_but V g3 i (.int .u8 y0)
      have HSET := Lib.hid hset
      clear hx0 hyb hlt hi hset
      go_wp2
      go_roundw
      case rel =>
        have hlen : cur.length = 32 := by have h := G1.out.1; rw [List.length_map] at h; omega
        have h1 := (G1.out.stored i (.int .u8 y0)).1
        rw [map_set_u8] at h1
        refine ⟨i + 1, cur.set i y0, by have := HLT.out; omega, by go_num, h1, allB_set G2.out i HYB.out, G3.out.but HSET.out HAP.out.1 HAP.out.2, ?_, G5.out.setCell (p := ⟨g3, i, none⟩) (by have := HG3.out.1; have := HB1.out.size; show w.heap.size ≤ g3; omega) _⟩
        obtain ⟨e1, e2, e3, e4⟩ := G4.out
        refine ⟨e1, e2, fun h0 => ?_, e4⟩
        obtain ⟨b9, o9, e9, l9, c9⟩ := e3 h0
        cases e9
        exact ⟨_, _, rfl, by simpa using l9, fun j hj => cell_but (c9 j hj) HSET.out (by have := HG4.out; have := HG3.out.2; omega)⟩
      case measure => simp [intOf]; have := HLT.out; omega
    · obtain rfl : i = 32 := by omega
      have HC7 := Lib.hid (show CipK V b K from ⟨gk, ck, G3.out⟩)
      clear G1 G2 G3 hlt hi HC6
      go_upto_region 12 with (go_at_call 13; (with_reducible refine (enc_arg b K (some ⟨g4, 0, none⟩) 16 X V HC7.out HS.out HKB.out G4.out).mono ?_); rintro e w8 ⟨g8, rfl, ho, hb⟩; have HX8 := Lib.hid (own16 (by omega) ho HUB.out); have HB8 := Lib.hid (bt G5.out hb); have HC8 := Lib.hid (HC7.out.on hb); have HBL8 := Lib.hid (G4.out.on hb); clear ho hb)
      go_upto_region 13 with (go_at_call 14; (with_reducible refine (dec_arg b K (some ⟨g8, 0, none⟩) 16 _ w8 HC8.out HS.out HKB.out HX8.out).mono ?_); rintro e w9 ⟨g9, rfl, ho, hb⟩; rw [HDE.out] at ho; have HY9 := Lib.hid (own16 (by omega) ho HXB.out); have HB9 := Lib.hid (bt HB8.out hb); have HC9 := Lib.hid (HC8.out.on hb); have HX9 := Lib.hid (HX8.out.on hb); have HBL9 := Lib.hid (HBL8.out.on hb); clear ho hb)
      have HKD := Lib.hid (show Arg8 w9.drew a0 L0 c0 k from (HK.out.on HB9.out.drew))
      obtain ⟨EX, hEX⟩ : ∃ E, E = encL (K.length / 4 + 6) (keyW K) X := ⟨_, rfl⟩
      have HEX := Lib.hid hEX
      rw [← hEX] at HX9
      clear hEX
      go_wp2_with fail
      refine wp_region_held_drew (S := fun U => Below w9.heap.size w9 U) (by kernel_rfl) (Below.refl _ _).drew (fun hHeld => ?_)
      refine wpAnyH_take (i := 0) (oi := { dst := some 53, op := Go.Op.move (Go.Operand.tmp 10), type := 26, pos := "law.go:46", after := #[], guard := none }) (v := ?v0a1) rfl (by kernel_rfl) (by kernel_rfl) (by kernel_rfl) (fun _ _ _ h => h) (Or.inl ⟨by rfl, ?hy0a1⟩) hHeld ?rest0a1
      case hy0a1 =>
        intro W' hV
        try dsimp only at hV
        go_simp
        all_goals with_reducible rfl
      case' rest0a1 => try simp only [Act.put, List.setIfInBounds_toArray, List.set_cons_zero, List.set_cons_succ]
      refine wpAnyH_take (i := 1) (oi := { dst := some 54, op := Go.Op.binOp Go.BinOp.neq 26 (Go.Operand.tmp 53) (Go.Operand.const (Go.Value.int Go.IntKind.i64 0)) 26, type := 4, pos := "law.go:46", after := #[{ on := 0, ground := Go.Ground.data }], guard := none }) (v := ?v1a2) rfl (by kernel_rfl) (by kernel_rfl) (by kernel_rfl) (fun _ _ _ h => h) (Or.inl ⟨by rfl, ?hy1a2⟩) hHeld ?rest1a2
      case hy1a2 =>
        intro W' hV
        try dsimp only at hV
        go_simp
        all_goals with_reducible rfl
      case' rest1a2 => try simp only [Act.put, List.setIfInBounds_toArray, List.set_cons_zero, List.set_cons_succ]
      refine wpAnyH_take (i := 2) (oi := { dst := some 55, op := Go.Op.move (Go.Operand.tmp 54), type := 4, pos := "law.go:46", after := #[{ on := 1, ground := Go.Ground.data }], guard := none }) (v := ?v2a3) rfl (by kernel_rfl) (by kernel_rfl) (by kernel_rfl) (fun _ _ _ h => h) (Or.inl ⟨by rfl, ?hy2a3⟩) hHeld ?rest2a3
      case hy2a3 =>
        intro W' hV
        try dsimp only at hV
        go_simp
        all_goals with_reducible rfl
      case' rest2a3 => try simp only [Act.put, List.setIfInBounds_toArray, List.set_cons_zero, List.set_cons_succ]
      refine wpAnyH_take (i := 3) (oi := { dst := some 56, op := Go.Op.move (Go.Operand.tmp 13), type := 26, pos := "law.go:46", after := #[{ on := 2, ground := Go.Ground.guard }], guard := some (2, false) }) (v := ?v3a4) rfl (by kernel_rfl) (by kernel_rfl) (by kernel_rfl) (fun _ _ _ h => h) (Or.inl ⟨by rfl, ?hy3a4⟩) hHeld ?rest3a4
      case hy3a4 =>
        intro W' hV
        try dsimp only at hV
        go_simp
        all_goals with_reducible rfl
      case' rest3a4 => try simp only [Act.put, List.setIfInBounds_toArray, List.set_cons_zero, List.set_cons_succ]
      refine wpAnyH_take (i := 4) (oi := { dst := some 57, op := Go.Op.binOp Go.BinOp.neq 26 (Go.Operand.tmp 56) (Go.Operand.const (Go.Value.int Go.IntKind.i64 0)) 26, type := 4, pos := "law.go:46", after := #[{ on := 3, ground := Go.Ground.data }, { on := 2, ground := Go.Ground.guard }], guard := some (2, false) }) (v := ?v4a5) rfl (by kernel_rfl) (by kernel_rfl) (by kernel_rfl) (fun _ _ _ h => h) (Or.inl ⟨by rfl, ?hy4a5⟩) hHeld ?rest4a5
      case hy4a5 =>
        intro W' hV
        try dsimp only at hV
        go_simp
        all_goals with_reducible rfl
      case' rest4a5 => try simp only [Act.put, List.setIfInBounds_toArray, List.set_cons_zero, List.set_cons_succ]
      refine wpAnyH_take (i := 5) (oi := { dst := some 58, op := Go.Op.pick (Go.Operand.tmp 55) (Go.Operand.const (Go.Value.bool true)) (Go.Operand.tmp 57), type := 4, pos := "law.go:46", after := #[{ on := 2, ground := Go.Ground.data }, { on := 4, ground := Go.Ground.data }], guard := none }) (v := ?v5a6) rfl (by kernel_rfl) (by kernel_rfl) (by kernel_rfl) (fun _ _ _ h => h) (Or.inl ⟨by rfl, ?hy5a6⟩) hHeld ?rest5a6
      case hy5a6 =>
        intro W' hV
        try dsimp only at hV
        go_simp
        all_goals with_reducible rfl
      case' rest5a6 => try simp only [Act.put, List.setIfInBounds_toArray, List.set_cons_zero, List.set_cons_succ]
      refine wpAnyH_take (i := 6) (oi := { dst := some 59, op := Go.Op.move (Go.Operand.tmp 58), type := 4, pos := "law.go:46", after := #[{ on := 5, ground := Go.Ground.data }, { on := 2, ground := Go.Ground.chain }], guard := none }) (v := ?v6a7) rfl (by kernel_rfl) (by kernel_rfl) (by kernel_rfl) (fun _ _ _ h => h) (Or.inl ⟨by rfl, ?hy6a7⟩) hHeld ?rest6a7
      case hy6a7 =>
        intro W' hV
        try dsimp only at hV
        go_simp
        all_goals with_reducible rfl
      case' rest6a7 => try simp only [Act.put, List.setIfInBounds_toArray, List.set_cons_zero, List.set_cons_succ]
      refine wpAnyH_take (i := 7) (oi := { dst := some 60, op := Go.Op.move (Go.Operand.tmp 15), type := 26, pos := "law.go:46", after := #[{ on := 6, ground := Go.Ground.guard }], guard := some (6, false) }) (v := ?v7a8) rfl (by kernel_rfl) (by kernel_rfl) (by kernel_rfl) (fun _ _ _ h => h) (Or.inl ⟨by rfl, ?hy7a8⟩) hHeld ?rest7a8
      case hy7a8 =>
        intro W' hV
        try dsimp only at hV
        go_simp
        all_goals with_reducible rfl
      case' rest7a8 => try simp only [Act.put, List.setIfInBounds_toArray, List.set_cons_zero, List.set_cons_succ]
      refine wpAnyH_take (i := 8) (oi := { dst := some 61, op := Go.Op.binOp Go.BinOp.neq 26 (Go.Operand.tmp 60) (Go.Operand.const (Go.Value.int Go.IntKind.i64 0)) 26, type := 4, pos := "law.go:46", after := #[{ on := 7, ground := Go.Ground.data }, { on := 6, ground := Go.Ground.guard }], guard := some (6, false) }) (v := ?v8a9) rfl (by kernel_rfl) (by kernel_rfl) (by kernel_rfl) (fun _ _ _ h => h) (Or.inl ⟨by rfl, ?hy8a9⟩) hHeld ?rest8a9
      case hy8a9 =>
        intro W' hV
        try dsimp only at hV
        go_simp
        all_goals with_reducible rfl
      case' rest8a9 => try simp only [Act.put, List.setIfInBounds_toArray, List.set_cons_zero, List.set_cons_succ]
      refine wpAnyH_take (i := 9) (oi := { dst := some 62, op := Go.Op.pick (Go.Operand.tmp 59) (Go.Operand.const (Go.Value.bool true)) (Go.Operand.tmp 61), type := 4, pos := "law.go:46", after := #[{ on := 6, ground := Go.Ground.data }, { on := 8, ground := Go.Ground.data }], guard := none }) (v := ?v9a10) rfl (by kernel_rfl) (by kernel_rfl) (by kernel_rfl) (fun _ _ _ h => h) (Or.inl ⟨by rfl, ?hy9a10⟩) hHeld ?rest9a10
      case hy9a10 =>
        intro W' hV
        try dsimp only at hV
        go_simp
        all_goals with_reducible rfl
      case' rest9a10 => try simp only [Act.put, List.setIfInBounds_toArray, List.set_cons_zero, List.set_cons_succ]
      refine wpAnyH_take (i := 10) (oi := { dst := some 63, op := Go.Op.move (Go.Operand.tmp 62), type := 4, pos := "law.go:46", after := #[{ on := 9, ground := Go.Ground.data }, { on := 6, ground := Go.Ground.chain }], guard := none }) (v := ?v10a11) rfl (by kernel_rfl) (by kernel_rfl) (by kernel_rfl) (fun _ _ _ h => h) (Or.inl ⟨by rfl, ?hy10a11⟩) hHeld ?rest10a11
      case hy10a11 =>
        intro W' hV
        try dsimp only at hV
        go_simp
        all_goals with_reducible rfl
      case' rest10a11 => try simp only [Act.put, List.setIfInBounds_toArray, List.set_cons_zero, List.set_cons_succ]
      refine wpAnyH_take (i := 11) (oi := { dst := some 64, op := Go.Op.move (Go.Operand.tmp 12), type := 22, pos := "law.go:46", after := #[{ on := 10, ground := Go.Ground.guard }], guard := some (10, false) }) (v := ?v11a12) rfl (by kernel_rfl) (by kernel_rfl) (by kernel_rfl) (fun _ _ _ h => h) (Or.inl ⟨by rfl, ?hy11a12⟩) hHeld ?rest11a12
      case hy11a12 =>
        intro W' hV
        try dsimp only at hV
        go_simp
        all_goals with_reducible rfl
      case' rest11a12 => try simp only [Act.put, List.setIfInBounds_toArray, List.set_cons_zero, List.set_cons_succ]
      refine wpAnyH_take (i := 12) (oi := { dst := some 65, op := Go.Op.convert 22 9 (Go.Operand.tmp 64), type := 9, pos := "law.go:46", after := #[{ on := 11, ground := Go.Ground.data }, { on := 10, ground := Go.Ground.guard }], guard := some (10, false) }) (v := ?v12a13) rfl (by kernel_rfl) (by kernel_rfl) (by kernel_rfl) (fun _ _ _ h => h) (Or.inl ⟨by rfl, ?hy12a13⟩) hHeld ?rest12a13
      case hy12a13 =>
        intro W' hV
        try dsimp only at hV
        have hcv := (HX9.out.on hV).strK
        go_simp
        all_goals with_reducible rfl
      case' rest12a13 => try simp only [Act.put, List.setIfInBounds_toArray, List.set_cons_zero, List.set_cons_succ]
      refine wpAnyH_take (i := 13) (oi := { dst := some 66, op := Go.Op.move (Go.Operand.tmp 0), type := 22, pos := "law.go:46", after := #[{ on := 10, ground := Go.Ground.guard }], guard := some (10, false) }) (v := ?v13a14) rfl (by kernel_rfl) (by kernel_rfl) (by kernel_rfl) (fun _ _ _ h => h) (Or.inl ⟨by rfl, ?hy13a14⟩) hHeld ?rest13a14
      case hy13a14 =>
        intro W' hV
        try dsimp only at hV
        go_simp
        all_goals with_reducible rfl
      case' rest13a14 => try simp only [Act.put, List.setIfInBounds_toArray, List.set_cons_zero, List.set_cons_succ]
      refine wpAnyH_take (i := 14) (oi := { dst := some 67, op := Go.Op.move (Go.Operand.tmp 1), type := 4, pos := "law.go:46", after := #[{ on := 10, ground := Go.Ground.guard }], guard := some (10, false) }) (v := ?v14a15) rfl (by kernel_rfl) (by kernel_rfl) (by kernel_rfl) (fun _ _ _ h => h) (Or.inl ⟨by rfl, ?hy14a15⟩) hHeld ?rest14a15
      case hy14a15 =>
        intro W' hV
        try dsimp only at hV
        go_simp
        all_goals with_reducible rfl
      case' rest14a15 => try simp only [Act.put, List.setIfInBounds_toArray, List.set_cons_zero, List.set_cons_succ]
      refine wpAnyH_take (i := 16) (oi := { dst := some 69, op := Go.Op.move (Go.Operand.tmp 8), type := 22, pos := "law.go:46", after := #[{ on := 10, ground := Go.Ground.guard }], guard := some (10, false) }) (v := ?v16a16) rfl (by kernel_rfl) (by kernel_rfl) (by kernel_rfl) (fun _ _ _ h => h) (Or.inl ⟨by rfl, ?hy16a16⟩) hHeld ?rest16a16
      case hy16a16 =>
        intro W' hV
        try dsimp only at hV
        go_simp
        all_goals with_reducible rfl
      case' rest16a16 => try simp only [Act.put, List.setIfInBounds_toArray, List.set_cons_zero, List.set_cons_succ]
      refine wpAnyH_ready (rs := [15]) (by kernel_rfl) (by simp) ?_
      refine AllReadyH.cons (o := { dst := some 68, op := Go.Op.call { callee := Go.Callee.value (Go.Operand.func 10), args := #[Go.Operand.tmp 66, Go.Operand.tmp 67], argTypes := #[22, 4] }, type := 22, pos := "law.go:46", after := #[{ on := 13, ground := Go.Ground.data }, { on := 14, ground := Go.Ground.data }, { on := 10, ground := Go.Ground.chain }, { on := 10, ground := Go.Ground.guard }], guard := some (10, false) }) rfl (fun K' hK => ?_) AllReadyH.nil
      rw [if_pos (by rfl)]
      go_simp
      go_wp2_with (go_at_call 10; (with_reducible refine (HK2.out _ HKD.out).mono ?_); rintro e w10 ⟨g10, rfl, ho, hb⟩)
      have HA10 := Lib.hid (own16 (by omega) ho HKB.out)
      have HB10 := Lib.hid (show Below w9.heap.size w9 w10 from bt hHeld hb)
      have HBL10 := Lib.hid (HBL9.out.on HB10.out)
      clear ho hb
      refine hK.out _ _ HB10.out (fun hHeld1 => ?_)
      clear hK K' hHeld
      have hHeld := hHeld1
      clear hHeld1
      try simp only [Act.put, List.setIfInBounds_toArray, List.set_cons_zero, List.set_cons_succ]
      refine wpAnyH_ready (rs := [17]) (by kernel_rfl) (by simp) ?_
      refine AllReadyH.cons (o := { dst := some 70, op := Go.Op.call { callee := Go.Callee.value (Go.Operand.func 15), args := #[Go.Operand.tmp 68, Go.Operand.tmp 69], argTypes := #[22, 22] }, type := 22, pos := "law.go:46", after := #[{ on := 15, ground := Go.Ground.data }, { on := 16, ground := Go.Ground.data }, { on := 15, ground := Go.Ground.chain }, { on := 10, ground := Go.Ground.guard }], guard := some (10, false) }) rfl (fun K' hK => ?_) AllReadyH.nil
      rw [if_pos (by rfl)]
      go_simp
      go_wp2_with (go_at_call 15; (with_reducible refine (refEnc_arg (some ⟨g10, 0, none⟩) 32 32 K (some ⟨g4, 0, none⟩) 16 X _ HA10.out (Or.inr rfl) HBL10.out).mono ?_); rintro e w11 ⟨g11, rfl, ho, hb⟩)
      rw [← HEX.out] at ho
      have HR11 := Lib.hid ho
      have HB11 := Lib.hid (show Below w9.heap.size w9 w11 from bt HB10.out hb)
      clear ho hb
      refine hK.out _ _ HB11.out (fun hHeld1 => ?_)
      clear hK K' hHeld
      have hHeld := hHeld1
      clear hHeld1
      try simp only [Act.put, List.setIfInBounds_toArray, List.set_cons_zero, List.set_cons_succ]
      refine wpAnyH_ready (rs := [18]) (by kernel_rfl) (by simp) ?_
      refine AllReadyH.cons (o := { dst := some 71, op := Go.Op.convert 22 9 (Go.Operand.tmp 70), type := 9, pos := "law.go:46", after := #[{ on := 17, ground := Go.Ground.data }, { on := 10, ground := Go.Ground.guard }], guard := some (10, false) }) rfl (fun K' hK => ?_) AllReadyH.nil
      rw [if_pos (by rfl)]
      have hcr := HR11.out.strK
      go_simp
      refine hK.out _ _ HB11.out (fun hHeld1 => ?_)
      clear hK K' hHeld
      have hHeld := hHeld1
      clear hHeld1
      try simp only [Act.put, List.setIfInBounds_toArray, List.set_cons_zero, List.set_cons_succ]
      refine wpAnyH_take (i := 19) (oi := { dst := some 72, op := Go.Op.binOp Go.BinOp.neq 9 (Go.Operand.tmp 65) (Go.Operand.tmp 71) 9, type := 4, pos := "law.go:46", after := #[{ on := 12, ground := Go.Ground.data }, { on := 18, ground := Go.Ground.data }, { on := 10, ground := Go.Ground.guard }], guard := some (10, false) }) (v := ?v19a17) rfl (by kernel_rfl) (by kernel_rfl) (by kernel_rfl) (fun _ _ _ h => h) (Or.inl ⟨by rfl, ?hy19a17⟩) hHeld ?rest19a17
      case hy19a17 =>
        intro W' hV
        try dsimp only at hV
        have hee := str_eq (rfl : EX = EX)
        go_simp
        all_goals with_reducible rfl
      case' rest19a17 => try simp only [Act.put, List.setIfInBounds_toArray, List.set_cons_zero, List.set_cons_succ]
      refine wpAnyH_take (i := 20) (oi := { dst := some 73, op := Go.Op.pick (Go.Operand.tmp 63) (Go.Operand.const (Go.Value.bool true)) (Go.Operand.tmp 72), type := 4, pos := "law.go:46", after := #[{ on := 10, ground := Go.Ground.data }, { on := 19, ground := Go.Ground.data }], guard := none }) (v := ?v20a18) rfl (by kernel_rfl) (by kernel_rfl) (by kernel_rfl) (fun _ _ _ h => h) (Or.inl ⟨by rfl, ?hy20a18⟩) hHeld ?rest20a18
      case hy20a18 =>
        intro W' hV
        try dsimp only at hV
        go_simp
        all_goals with_reducible rfl
      case' rest20a18 => try simp only [Act.put, List.setIfInBounds_toArray, List.set_cons_zero, List.set_cons_succ]
      refine wpAnyH_take (i := 21) (oi := { dst := some 74, op := Go.Op.move (Go.Operand.tmp 73), type := 4, pos := "law.go:46", after := #[{ on := 20, ground := Go.Ground.data }, { on := 17, ground := Go.Ground.chain }], guard := none }) (v := ?v21a19) rfl (by kernel_rfl) (by kernel_rfl) (by kernel_rfl) (fun _ _ _ h => h) (Or.inl ⟨by rfl, ?hy21a19⟩) hHeld ?rest21a19
      case hy21a19 =>
        intro W' hV
        try dsimp only at hV
        go_simp
        all_goals with_reducible rfl
      case' rest21a19 => try simp only [Act.put, List.setIfInBounds_toArray, List.set_cons_zero, List.set_cons_succ]
      refine wpAnyH_take (i := 22) (oi := { dst := some 75, op := Go.Op.move (Go.Operand.tmp 14), type := 22, pos := "law.go:46", after := #[{ on := 21, ground := Go.Ground.guard }], guard := some (21, false) }) (v := ?v22a20) rfl (by kernel_rfl) (by kernel_rfl) (by kernel_rfl) (fun _ _ _ h => h) (Or.inl ⟨by rfl, ?hy22a20⟩) hHeld ?rest22a20
      case hy22a20 =>
        intro W' hV
        try dsimp only at hV
        go_simp
        all_goals with_reducible rfl
      case' rest22a20 => try simp only [Act.put, List.setIfInBounds_toArray, List.set_cons_zero, List.set_cons_succ]
      refine wpAnyH_take (i := 23) (oi := { dst := some 76, op := Go.Op.convert 22 9 (Go.Operand.tmp 75), type := 9, pos := "law.go:46", after := #[{ on := 22, ground := Go.Ground.data }, { on := 21, ground := Go.Ground.guard }], guard := some (21, false) }) (v := ?v23a21) rfl (by kernel_rfl) (by kernel_rfl) (by kernel_rfl) (fun _ _ _ h => h) (Or.inl ⟨by rfl, ?hy23a21⟩) hHeld ?rest23a21
      case hy23a21 =>
        intro W' hV
        try dsimp only at hV
        have hcv := (HY9.out.on hV).strK
        go_simp
        all_goals with_reducible rfl
      case' rest23a21 => try simp only [Act.put, List.setIfInBounds_toArray, List.set_cons_zero, List.set_cons_succ]
      refine wpAnyH_take (i := 24) (oi := { dst := some 77, op := Go.Op.move (Go.Operand.tmp 8), type := 22, pos := "law.go:46", after := #[{ on := 21, ground := Go.Ground.guard }], guard := some (21, false) }) (v := ?v24a22) rfl (by kernel_rfl) (by kernel_rfl) (by kernel_rfl) (fun _ _ _ h => h) (Or.inl ⟨by rfl, ?hy24a22⟩) hHeld ?rest24a22
      case hy24a22 =>
        intro W' hV
        try dsimp only at hV
        go_simp
        all_goals with_reducible rfl
      case' rest24a22 => try simp only [Act.put, List.setIfInBounds_toArray, List.set_cons_zero, List.set_cons_succ]
      refine wpAnyH_take (i := 25) (oi := { dst := some 78, op := Go.Op.convert 22 9 (Go.Operand.tmp 77), type := 9, pos := "law.go:46", after := #[{ on := 24, ground := Go.Ground.data }, { on := 21, ground := Go.Ground.guard }], guard := some (21, false) }) (v := ?v25a23) rfl (by kernel_rfl) (by kernel_rfl) (by kernel_rfl) (fun _ _ _ h => h) (Or.inl ⟨by rfl, ?hy25a23⟩) hHeld ?rest25a23
      case hy25a23 =>
        intro W' hV
        try dsimp only at hV
        have hcv := (HBL9.out.on hV).strK
        go_simp
        all_goals with_reducible rfl
      case' rest25a23 => try simp only [Act.put, List.setIfInBounds_toArray, List.set_cons_zero, List.set_cons_succ]
      refine wpAnyH_take (i := 26) (oi := { dst := some 79, op := Go.Op.binOp Go.BinOp.neq 9 (Go.Operand.tmp 76) (Go.Operand.tmp 78) 9, type := 4, pos := "law.go:46", after := #[{ on := 23, ground := Go.Ground.data }, { on := 25, ground := Go.Ground.data }, { on := 21, ground := Go.Ground.guard }], guard := some (21, false) }) (v := ?v26a24) rfl (by kernel_rfl) (by kernel_rfl) (by kernel_rfl) (fun _ _ _ h => h) (Or.inl ⟨by rfl, ?hy26a24⟩) hHeld ?rest26a24
      case hy26a24 =>
        intro W' hV
        try dsimp only at hV
        have hee := str_eq (rfl : X = X)
        go_simp
        all_goals with_reducible rfl
      case' rest26a24 => try simp only [Act.put, List.setIfInBounds_toArray, List.set_cons_zero, List.set_cons_succ]
      refine wpAnyH_take (i := 27) (oi := { dst := some 80, op := Go.Op.pick (Go.Operand.tmp 74) (Go.Operand.const (Go.Value.bool true)) (Go.Operand.tmp 79), type := 4, pos := "law.go:46", after := #[{ on := 21, ground := Go.Ground.data }, { on := 26, ground := Go.Ground.data }], guard := none }) (v := ?v27a25) rfl (by kernel_rfl) (by kernel_rfl) (by kernel_rfl) (fun _ _ _ h => h) (Or.inl ⟨by rfl, ?hy27a25⟩) hHeld ?rest27a25
      case hy27a25 =>
        intro W' hV
        try dsimp only at hV
        go_simp
        all_goals with_reducible rfl
      case' rest27a25 => try simp only [Act.put, List.setIfInBounds_toArray, List.set_cons_zero, List.set_cons_succ]
      refine wpAnyH_done (by kernel_rfl) ?_ _
      clear hHeld
      have HC11 := Lib.hid (show Cip w11 b 14 (keyW K) from by rw [← HLEN.out]; exact HC9.out.on HB11.out)
      go_wp2_with (go_at_call 16; (with_reducible refine (rounds_cip b 14 (keyW K) w11 HC11.out).mono ?_); rintro e w12 ⟨rfl, rfl⟩)
      go_ret
      exact ⟨rfl, bt HB9.out HB11.out⟩
theorem cipherEncrypts_walk (a0 : Option Addr) (L0 c0 : Nat) (t : Bool) (a2 : Option Addr) (L2 c2 : Nat) (w : World) (w0 : ∃ l, Arg8c w a0 L0 c0 l) (w2 : ∃ l, Arg8c w a2 L2 c2 l) :
    Calls Try.prog 3 #[.slice a0 L0 c0, .bool t, .slice a2 L2 c2] w fun e w' => e = .returned (.bool true) ∧ Below w.heap.size w w' := by
  obtain ⟨k, hk, _⟩ := w0
  obtain ⟨x, hx, _⟩ := w2
  cases t
  · exact encrypts_16 a0 L0 c0 a2 L2 c2 k x w hk hx
  · exact encrypts_32 a0 L0 c0 a2 L2 c2 k x w hk hx
end Go.Proofs.Ytpfhfnhbholboaa
