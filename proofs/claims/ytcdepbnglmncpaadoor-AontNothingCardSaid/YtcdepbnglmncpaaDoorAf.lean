/- The walk of AontNothing (written by gen62.py). -/
import Derived.Test.YtcdepbnglmncpaaDoorAe
import Derived.Deep.RegionWith
namespace Go.Proofs.YtcdepbnglmncpaaDoor
open Go.ChangeShapes Go.WideShapes Go.ChangeAt Go.RowKit Go.Shelf
set_option linter.unusedVariables false
set_option linter.unusedSimpArgs false
set_option maxRecDepth 100000
theorem mod_natD (n : Int) (D : Nat) (h1 : 1 ≤ D) (h2 : D ≤ 2147483648) : ∃ N : Nat, N < D ∧ wrap64 ((IntKind.u64.wrap n).tmod (D : Int)) = (N : Int) := by
  have h0 : 0 ≤ IntKind.u64.wrap n ∧ IntKind.u64.wrap n < 18446744073709551616 := by rw [IntKind.wrap_u64]; omega
  have e : (IntKind.u64.wrap n).tmod (D : Int) = (IntKind.u64.wrap n) % (D : Int) := Int.tmod_eq_emod_of_nonneg h0.1
  rw [e]
  have l1 := Int.emod_nonneg (IntKind.u64.wrap n) (show (D : Int) ≠ 0 by omega)
  have l2 := Int.emod_lt_of_pos (IntKind.u64.wrap n) (show 0 < (D : Int) by omega)
  obtain ⟨x, hx⟩ : ∃ x, x = IntKind.u64.wrap n % (D : Int) := ⟨_, rfl⟩
  rw [← hx] at l1 l2 ⊢
  clear hx e h0
  exact ⟨x.toNat, by omega, by unfold wrap64; omega⟩
theorem u8x_bd {x y : Int} (hx : 0 ≤ x ∧ x < 256) (hy : 0 ≤ y ∧ y < 256) : 0 ≤ bits .xor .u8 x y ∧ bits .xor .u8 x y < 256 := by
  rw [u8_xor _ _ hx.1 hx.2 hy.1 hy.2]
  have h2 := Nat.xor_lt_two_pow (n := 8) (show x.toNat < 2 ^ 8 by omega) (show y.toNat < 2 ^ 8 by omega)
  omega
theorem u8x_swap {x y z : Int} (hx : 0 ≤ x ∧ x < 256) (hy : 0 ≤ y ∧ y < 256) (hz : 0 ≤ z ∧ z < 256) : bits .xor .u8 (bits .xor .u8 x y) z = bits .xor .u8 (bits .xor .u8 x z) y := by
  have h1 := u8x_bd hx hy
  have h2 := u8x_bd hx hz
  rw [u8_xor (bits .xor .u8 x y) z h1.1 h1.2 hz.1 hz.2, u8_xor (bits .xor .u8 x z) y h2.1 h2.2 hy.1 hy.2, u8_xor x y hx.1 hx.2 hy.1 hy.2, u8_xor x z hx.1 hx.2 hz.1 hz.2, Int.toNat_natCast, Int.toNat_natCast]
  rw [Nat.xor_assoc, Nat.xor_assoc, Nat.xor_comm z.toNat y.toNat]
theorem getD_set_at (l : List Int) (m i : Nat) (y : Int) (hm : m < l.length) : (l.set m y).getD i 0 = if i = m then y else l.getD i 0 := by
  rw [List.getD_eq_getElem?_getD, List.getD_eq_getElem?_getD, List.getElem?_set]
  by_cases h : m = i
  · subst h
    simp [hm]
  · rw [if_neg h, if_neg (fun e => h e.symm)]
theorem getD_drop_at (l : List Int) (m i : Nat) : (l.drop m).getD i 0 = l.getD (m + i) 0 := by
  rw [List.getD_eq_getElem?_getD, List.getD_eq_getElem?_getD, List.getElem?_drop]
/-- A changed bit of a package, and its key. -/
theorem key_at {K B : List Int} {b : Int} {L m n : Nat} (hK : K.length = 32) (hKB : AllB K) (hBB : AllB B) (hB : B.length = L) (hb : 0 ≤ b ∧ b < 256) (hm : m < L + 32) (hn : n < 32) :
    (keyL ((pkgL K B).set m (bits .xor .u8 ((pkgL K B).getD m 0) b))).getD n 0 =
      (if n + L = m then bits .xor .u8 (bits .xor .u8 (bits .xor .u8 (K.getD n 0) ((shaL ((pkgL K B).take L)).getD n 0)) ((shaL (((pkgL K B).set m (bits .xor .u8 ((pkgL K B).getD m 0) b)).take L)).getD n 0)) b
      else bits .xor .u8 (bits .xor .u8 (K.getD n 0) ((shaL ((pkgL K B).take L)).getD n 0)) ((shaL (((pkgL K B).set m (bits .xor .u8 ((pkgL K B).getD m 0) b)).take L)).getD n 0)) := by
  have hPL : (pkgL K B).length = L + 32 := by rw [pkgL_len B hK, hB]
  have hT := pkgL_take B hK
  have hDr := pkgL_drop B hK
  rw [hPL, Nat.add_sub_cancel] at hT hDr
  have hPn : ∀ j, j < 32 → (pkgL K B).getD (L + j) 0 = bits .xor .u8 (K.getD j 0) ((shaL ((pkgL K B).take L)).getD j 0) := fun j hj => by
    rw [← getD_drop_at, hDr, hT]
    exact xor_at hKB (shaL_B _) (by rw [hK]; exact hj) (by rw [shaL_len]; exact hj)
  obtain ⟨P, hP⟩ : ∃ P, P = pkgL K B := ⟨_, rfl⟩
  have hPB : AllB P := by rw [hP]; exact pkgL_B hKB hBB
  rw [← hP] at hPL hPn ⊢
  clear hT hDr hP
  obtain ⟨P2, hP2⟩ : ∃ P2, P2 = P.set m (bits .xor .u8 (P.getD m 0) b) := ⟨_, rfl⟩
  have hS := shaL_B (P.take L)
  obtain ⟨S, hSS⟩ : ∃ S, S = shaL (P.take L) := ⟨_, rfl⟩
  rw [← hSS] at hS hPn ⊢
  have h2L : P2.length = L + 32 := by rw [hP2, List.length_set, hPL]
  have h2B : AllB P2 := by rw [hP2]; exact allB_set hPB m (u8x_bd (allB_getD hPB m) hb)
  have hg : P2.getD (L + n) 0 = if L + n = m then bits .xor .u8 (P.getD m 0) b else P.getD (L + n) 0 := by rw [hP2]; exact getD_set_at P m (L + n) _ (by rw [hPL]; exact hm)
  rw [← hP2]
  have hN := shaL_B (P2.take L)
  have hNL := shaL_len (P2.take L)
  have hk : (keyL P2).getD n 0 = bits .xor .u8 (P2.getD (L + n) 0) ((shaL (P2.take L)).getD n 0) := by
    unfold keyL
    rw [h2L, Nat.add_sub_cancel, ← getD_drop_at]
    exact xor_at (fun x hx => h2B x (List.mem_of_mem_drop hx)) hN (by rw [List.length_drop, h2L]; omega) (by rw [hNL]; exact hn)
  rw [hk, hg]
  have w1 := allB_getD hKB n
  have w2 := allB_getD hS n
  have w3 := allB_getD hN n
  by_cases h : L + n = m
  · rw [if_pos h, if_pos (by omega), ← h, hPn n hn]
    exact u8x_swap (u8x_bd w1 w2) hb w3
  · rw [if_neg h, if_neg (by omega), hPn n hn]
set_option maxHeartbeats 8000000 in
theorem aontNothing_core (a0 : Option Addr) (L0 c0 : Nat) (a1 : Option Addr) (L1 c1 : Nat) (at_ : Int) (a3 : Option Addr) (L3 c3 : Nat) (k B T : List Int) (w : World) (hk : Arg8 w a0 L0 c0 k) (hB : Arg8c w a1 L1 c1 B) (wat : (Lit.int .i64 at_).wf = true) (hT : Arg8c w a3 L3 c3 T) (hL : L1 ≤ 200) (hL3 : L3 ≤ 60) (hG : Gl w) :
    Calls Tryd.prog 4 #[.slice a0 L0 c0, .slice a1 L1 c1, .int .i64 at_, .slice a3 L3 c3] w fun e w' => e = .returned (.bool true) ∧ Below w.heap.size w w' := by
  obtain ⟨i5, hi, hz0, hz1, hz2⟩ := info_parts info5
  have HI := Lib.hid hi
  have HZ0 := Lib.hid hz0
  have HZ1 := Lib.hid hz1
  have HZ2 := Lib.hid hz2
  clear hi hz0 hz1 hz2
  have HK := Lib.hid hk
  have HX := Lib.hid hB
  have HT := Lib.hid hT
  have HG := Lib.hid hG
  have HL := Lib.hid hL
  have HL3 := Lib.hid hL3
  have HBB := Lib.hid (show AllB B from hB.1.2.1)
  have HBL := Lib.hid (show B.length = L1 from hB.1.1)
  have HKB := Lib.hid (allB_padKL hk.2.1 32)
  have HKL := Lib.hid (length_padKL k 32)
  have HMD := Lib.hid (fun W (h : Arg8 W a0 L0 c0 k) => made32_any a0 L0 c0 k W h)
  obtain ⟨K, hK⟩ : ∃ K, K = padKL k 32 := ⟨_, rfl⟩
  rw [← hK] at HKB HKL HMD
  have q0 : ¬ (200 : Int) < (L1 : Int) := by omega
  have q3 : ¬ (60 : Int) < (L3 : Int) := by omega
  clear hk hB hL hL3 hG hK hT
  go_enter Tryd.func4, Tryd.ntmps4
  go_upto_region 3 with (go_at_call 5; go_loud ((with_reducible refine (lives11 w HG.out).mono ?_); rintro e w1 ⟨rfl, hb⟩; have HB1 := Lib.hid hb; have HK1 := Lib.hid (HK.out.on hb); clear hb))
  go_upto_region 4 with (go_at_call 7; go_loud ((with_reducible refine (new_any w1).mono ?_); rintro e w2 ⟨fb, rfl, hfb, hf, hb⟩; have HF2 := Lib.hid hf; have HB2 := Lib.hid (bt HB1.out hb); have HK2 := Lib.hid (HK1.out.on hb); clear hfb hf hb))
  go_upto_region 5 with (go_at_call 6; go_loud ((with_reducible refine (HMD.out w2 HK2.out).mono ?_); rintro e w3 ⟨gk, rfl, ho, hb⟩; have HK3 := Lib.hid (own_any ho HKB.out); have HB3 := Lib.hid (bt HB2.out hb); have HF3 := Lib.hid (HF2.out.below hb); clear ho hb))
  have HG3 := Lib.hid (HG.out.on HB3.out HG.out.1)
  have HT3 := Lib.hid (show Arg8c w3 a3 L3 c3 T from ⟨HT.out.1.on HB3.out, HT.out.2⟩)
  have HX3 := Lib.hid (show Arg8c w3 a1 L1 c1 B from ⟨HX.out.1.on HB3.out, HX.out.2⟩)
  have HWR := Lib.hid (wrapOk fb (some ⟨gk, 0, none⟩) 32 K a1 L1 c1 B w3 (HG.out.on HB3.out HG.out.1) HF3.out HK3.out HX3.out (by have := HL.out; omega))
  have HPB := Lib.hid (pkgL_B HKB.out HBB.out)
  have HPL := Lib.hid (show (pkgL K B).length = L1 + 32 by rw [pkgL_len B HKL.out, HBL.out])
  obtain ⟨P, hP⟩ : ∃ P, P = pkgL K B := ⟨_, rfl⟩
  have HPP := Lib.hid hP
  rw [← hP] at HWR HPB HPL
  clear hP
  go_upto_region 6 with (go_at_call 8; go_loud ((with_reducible refine HWR.out.mono ?_); rintro e w4 ⟨gp, cp, rfl, ho, hb⟩; have HP4 := Lib.hid (own_any ho HPB.out); have HO4 := Lib.hid ho; have HB34 := Lib.hid hb; have HB4 := Lib.hid (bt HB3.out hb); have HK4 := Lib.hid (HK3.out.1.on hb); have HF4 := Lib.hid (HF3.out.below hb); clear ho hb))
  have qw : ((L1 + 32 : Nat) : Int) = (L1 : Int) + 32 := by omega
  obtain ⟨hcp1, hcp2⟩ : L1 + 32 ≤ cp ∧ cp ≤ 9223372036854775807 := ⟨HP4.out.1.2.2.2.1, HP4.out.1.2.2.2.2⟩
  have HPT := Lib.hid (show Arg8c w4 (some ⟨gp, 0, none⟩) L1 cp (P.take L1) from ⟨⟨by rw [List.length_take, HPL.out]; omega, fun x hx => HPB.out x (List.mem_of_mem_take hx), HP4.out.1.2.2.1.take _, by omega, hcp2⟩, fun e => by cases e⟩)
  have HSM := Lib.hid (refSum_new (some ⟨gp, 0, none⟩) L1 cp (P.take L1) w4 HPT.out (by have := HL.out; omega))
  go_upto_region 9 with (go_at_call 11; go_loud ((with_reducible refine HSM.out.mono ?_); rintro e w5 ⟨gW, cW, rfl, hr, hb, hg⟩; have HRW := Lib.hid hr; have HGW := Lib.hid hg; have HB5 := Lib.hid hb; clear hr hb hg))
  have HB45 := Lib.hid (show Below w3.heap.size w3 w5 from by have h4 := HB34.out; exact h4.trans (HB5.out.mono h4.size))
  have HO5 := Lib.hid (own_belowK HO4.out HB5.out)
  have hmd := mod_natD at_ (8 * (L1 + 32)) (by omega) (by have := HL.out; omega)
  rw [show ((8 * (L1 + 32) : Nat) : Int) = 8 * ((L1 : Int) + 32) by omega] at hmd
  obtain ⟨I, hI1, hI2⟩ := hmd
  go_upto_region 10 with fail
  rw [hI2]
  obtain ⟨m, hm⟩ : ∃ m, m = I / 8 := ⟨_, rfl⟩
  obtain ⟨r, hr⟩ : ∃ r, r = I % 8 := ⟨_, rfl⟩
  have HM := Lib.hid (show m < L1 + 32 by omega)
  have HR := Lib.hid (show r < 8 by omega)
  have qm : (I : Int) / 8 = (m : Int) := by omega
  have qm2 : (I : Int).tdiv 8 = (m : Int) := by rw [Int.tdiv_eq_ediv_of_nonneg (by omega)]; omega
  have qr : (I : Int) % 8 = (r : Int) := by omega
  have qr2 : (I : Int).tmod 8 = (r : Int) := by rw [Int.tmod_eq_emod_of_nonneg (by omega)]; omega
  obtain ⟨ql1, ql2, ql3, ql4⟩ : (0 : Int) ≤ (m : Int) ∧ (m : Int) < (L1 : Int) + 32 ∧ (0 : Int) ≤ (r : Int) ∧ (r : Int) < 8 := by omega
  have qL1 : (L1 : Int) ≤ 200 := by have := HL.out; omega
  have kw1 : ∀ [Inhabited Unit], IntKind.i64.wrap (m : Int) = (m : Int) := by intro _; rw [IntKind.wrap_i64]; omega
  have kw2 : ∀ [Inhabited Unit], IntKind.i64.wrap (r : Int) = (r : Int) := by intro _; rw [IntKind.wrap_i64]; omega
  obtain ⟨b, hb⟩ : ∃ b : Nat, b = 2 ^ r := ⟨_, rfl⟩
  have hb256 : b < 256 := by rw [hb]; exact Nat.lt_of_lt_of_le (Nat.pow_lt_pow_right (by omega) HR.out) (by decide)
  have HBB2 := Lib.hid (show (0 : Int) ≤ (b : Int) ∧ (b : Int) < 256 by omega)
  have kb1 : ∀ [Inhabited Unit], (2 : Int) ^ r = (b : Int) := by intro _; rw [hb, Int.natCast_pow]; rfl
  have kb2 : ∀ [Inhabited Unit], IntKind.u8.wrap (b : Int) = (b : Int) := by intro _; rw [IntKind.wrap_u8]; omega
  clear hI1 hI2 hm hr hb
  obtain ⟨Y0, hY0⟩ : ∃ Y, Y = P.getD m 0 := ⟨_, rfl⟩
  have HCP := Lib.hid (show w5.cell? ⟨gp, m, none⟩ = some (.int .u8 Y0) from by
    have h := arg8_at (HP4.out.1.on HB5.out) HM.out
    rw [Nat.zero_add, ← hY0] at h
    exact h)
  have HFP := Lib.hid (HO5.out.frozenAt m)
  have HY0 := Lib.hid hY0
  clear hY0
  try simp only [List.getElem_toArray, List.getElem_cons_succ, List.getElem_cons_zero, List.setIfInBounds_toArray, List.set_cons_zero, List.set_cons_succ, Act.put]
  refine wp_region_held_drew (S := fun _ => True) (by kernel_rfl) trivial (fun hHeld => ?_)
  refine wpAnyH_take (i := 0) (oi := { dst := some 77, op := Go.Op.move (Go.Operand.tmp 11), type := 22, pos := "law.go:58", after := #[], guard := none }) (v := ?v0n1) rfl (by kernel_rfl) (by kernel_rfl) (by kernel_rfl) (fun _ _ _ h => h) (Or.inl ⟨by rfl, ?hy0n1⟩) hHeld ?rest0n1
  case hy0n1 =>
    intro W' hV
    try dsimp only at hV
    go_simp
    all_goals with_reducible rfl
  case' rest0n1 => try simp only [Act.put, List.setIfInBounds_toArray, List.set_cons_zero, List.set_cons_succ]
  refine wpAnyH_take (i := 1) (oi := { dst := some 78, op := Go.Op.move (Go.Operand.tmp 14), type := 3, pos := "law.go:58", after := #[], guard := none }) (v := ?v1n2) rfl (by kernel_rfl) (by kernel_rfl) (by kernel_rfl) (fun _ _ _ h => h) (Or.inl ⟨by rfl, ?hy1n2⟩) hHeld ?rest1n2
  case hy1n2 =>
    intro W' hV
    try dsimp only at hV
    go_simp
    all_goals with_reducible rfl
  case' rest1n2 => try simp only [Act.put, List.setIfInBounds_toArray, List.set_cons_zero, List.set_cons_succ]
  refine wpAnyH_take (i := 2) (oi := { dst := some 79, op := Go.Op.binOp Go.BinOp.quo 3 (Go.Operand.tmp 78) (Go.Operand.const (Go.Value.int Go.IntKind.i64 8)) 3, type := 3, pos := "law.go:58", after := #[{ on := 1, ground := Go.Ground.data }], guard := none }) (v := ?v2n3) rfl (by kernel_rfl) (by kernel_rfl) (by kernel_rfl) (fun _ _ _ h => h) (Or.inl ⟨by rfl, ?hy2n3⟩) hHeld ?rest2n3
  case hy2n3 =>
    intro W' hV
    try dsimp only at hV
    go_simp
    all_goals with_reducible rfl
  case' rest2n3 => try simp only [Act.put, List.setIfInBounds_toArray, List.set_cons_zero, List.set_cons_succ]
  refine wpAnyH_take (i := 3) (oi := { dst := some 80, op := Go.Op.indexAddr 22 (Go.Operand.tmp 77) (Go.Operand.tmp 79), type := 0, pos := "law.go:58", after := #[{ on := 0, ground := Go.Ground.data }, { on := 2, ground := Go.Ground.data }], guard := none }) (v := ?v3n4) rfl (by kernel_rfl) (by kernel_rfl) (by kernel_rfl) (fun _ _ _ h => h) (Or.inl ⟨by rfl, ?hy3n4⟩) hHeld ?rest3n4
  case hy3n4 =>
    intro W' hV
    try dsimp only at hV
    go_simp
    all_goals with_reducible rfl
  case' rest3n4 => try simp only [Act.put, List.setIfInBounds_toArray, List.set_cons_zero, List.set_cons_succ]
  refine wpAnyH_take (i := 5) (oi := { dst := some 82, op := Go.Op.move (Go.Operand.tmp 14), type := 3, pos := "law.go:58", after := #[], guard := none }) (v := ?v5n5) rfl (by kernel_rfl) (by kernel_rfl) (by kernel_rfl) (fun _ _ _ h => h) (Or.inl ⟨by rfl, ?hy5n5⟩) hHeld ?rest5n5
  case hy5n5 =>
    intro W' hV
    try dsimp only at hV
    go_simp
    all_goals with_reducible rfl
  case' rest5n5 => try simp only [Act.put, List.setIfInBounds_toArray, List.set_cons_zero, List.set_cons_succ]
  refine wpAnyH_take (i := 6) (oi := { dst := some 83, op := Go.Op.binOp Go.BinOp.rem 3 (Go.Operand.tmp 82) (Go.Operand.const (Go.Value.int Go.IntKind.i64 8)) 3, type := 3, pos := "law.go:58", after := #[{ on := 5, ground := Go.Ground.data }], guard := none }) (v := ?v6n6) rfl (by kernel_rfl) (by kernel_rfl) (by kernel_rfl) (fun _ _ _ h => h) (Or.inl ⟨by rfl, ?hy6n6⟩) hHeld ?rest6n6
  case hy6n6 =>
    intro W' hV
    try dsimp only at hV
    go_simp
    all_goals with_reducible rfl
  case' rest6n6 => try simp only [Act.put, List.setIfInBounds_toArray, List.set_cons_zero, List.set_cons_succ]
  refine wpAnyH_take (i := 7) (oi := { dst := some 84, op := Go.Op.binOp Go.BinOp.shl 5 (Go.Operand.const (Go.Value.int Go.IntKind.u8 1)) (Go.Operand.tmp 83) 3, type := 5, pos := "law.go:58", after := #[{ on := 6, ground := Go.Ground.data }], guard := none }) (v := ?v7n7) rfl (by kernel_rfl) (by kernel_rfl) (by kernel_rfl) (fun _ _ _ h => h) (Or.inl ⟨by rfl, ?hy7n7⟩) hHeld ?rest7n7
  case hy7n7 =>
    intro W' hV
    try dsimp only at hV
    go_simp
    all_goals with_reducible rfl
  case' rest7n7 => try simp only [Act.put, List.setIfInBounds_toArray, List.set_cons_zero, List.set_cons_succ]
  have hcp := HCP.out
  refine wpAnyH_ready (rs := [4]) (by kernel_rfl) (by simp) ?_
  refine AllReadyH.cons (o := { dst := some 81, op := Go.Op.load 5 (Go.Operand.tmp 80), type := 5, pos := "law.go:58", after := #[{ on := 3, ground := Go.Ground.data }], guard := none }) rfl (fun K' hK => ?_) AllReadyH.nil
  rw [if_pos (by rfl)]
  go_simp
  refine hK.out _ _ trivial (fun hHeld1 => ?_)
  clear hK K' hHeld
  have hHeld := hHeld1
  clear hHeld1
  try simp only [Act.put, List.setIfInBounds_toArray, List.set_cons_zero, List.set_cons_succ]
  refine wpAnyH_take (i := 8) (oi := { dst := some 85, op := Go.Op.binOp Go.BinOp.xor 5 (Go.Operand.tmp 81) (Go.Operand.tmp 84) 5, type := 5, pos := "law.go:58", after := #[{ on := 4, ground := Go.Ground.data }, { on := 7, ground := Go.Ground.data }], guard := none }) (v := ?v8n8) rfl (by kernel_rfl) (by kernel_rfl) (by kernel_rfl) (fun _ _ _ h => h) (Or.inl ⟨by rfl, ?hy8n8⟩) hHeld ?rest8n8
  case hy8n8 =>
    intro W' hV
    try dsimp only at hV
    go_simp
    all_goals with_reducible rfl
  case' rest8n8 => try simp only [Act.put, List.setIfInBounds_toArray, List.set_cons_zero, List.set_cons_succ]
  refine wpAnyH_take (i := 9) (oi := { dst := some 86, op := Go.Op.indexAddr 22 (Go.Operand.tmp 77) (Go.Operand.tmp 79), type := 0, pos := "law.go:58", after := #[{ on := 0, ground := Go.Ground.data }, { on := 2, ground := Go.Ground.data }, { on := 0, ground := Go.Ground.phase }, { on := 1, ground := Go.Ground.phase }, { on := 2, ground := Go.Ground.phase }, { on := 3, ground := Go.Ground.phase }, { on := 4, ground := Go.Ground.phase }, { on := 5, ground := Go.Ground.phase }, { on := 6, ground := Go.Ground.phase }, { on := 7, ground := Go.Ground.phase }, { on := 8, ground := Go.Ground.phase }], guard := none }) (v := ?v9n9) rfl (by kernel_rfl) (by kernel_rfl) (by kernel_rfl) (fun _ _ _ h => h) (Or.inl ⟨by rfl, ?hy9n9⟩) hHeld ?rest9n9
  case hy9n9 =>
    intro W' hV
    try dsimp only at hV
    go_simp
    all_goals with_reducible rfl
  case' rest9n9 => try simp only [Act.put, List.setIfInBounds_toArray, List.set_cons_zero, List.set_cons_succ]
  have hfp := HFP.out
  refine wpAnyH_ready (rs := [10]) (by kernel_rfl) (by simp) ?_
  refine AllReadyH.cons (o := { dst := none, op := Go.Op.store 5 (Go.Operand.tmp 86) (Go.Operand.tmp 85), type := 0, pos := "law.go:58", after := #[{ on := 9, ground := Go.Ground.data }, { on := 8, ground := Go.Ground.data }, { on := 0, ground := Go.Ground.phase }, { on := 1, ground := Go.Ground.phase }, { on := 2, ground := Go.Ground.phase }, { on := 3, ground := Go.Ground.phase }, { on := 4, ground := Go.Ground.phase }, { on := 5, ground := Go.Ground.phase }, { on := 6, ground := Go.Ground.phase }, { on := 7, ground := Go.Ground.phase }, { on := 8, ground := Go.Ground.phase }], guard := none }) rfl (fun K' hK => ?_) AllReadyH.nil
  rw [if_pos (by rfl)]
  go_simp
  refine hK.out _ _ trivial (fun hHeld1 => ?_)
  clear hK K' hHeld
  have hHeld := hHeld1
  clear hHeld1
  try simp only [Act.put, List.setIfInBounds_toArray, List.set_cons_zero, List.set_cons_succ]
  refine wpAnyH_done (by kernel_rfl) ?_ _
  clear hHeld
  obtain ⟨y, hy⟩ : ∃ y, y = bits .xor .u8 Y0 (b : Int) := ⟨_, rfl⟩
  rw [← hy]
  obtain ⟨S, hS⟩ : ∃ S, S = shaL (P.take L1) := ⟨_, rfl⟩
  rw [← hS] at HRW
  have hgpW : gp ≠ gW := by have h1 := (HO4.out.lt gp rfl).2; have h2 := HGW.out; omega
  have HRW6 := Lib.hid (show Row8 (w5.setCell ⟨gp, m, none⟩ (.int .u8 y)).drew gW 32 S from HRW.out.other ⟨gp, m, none⟩ _ hgpW)
  have HO6 := Lib.hid (show (w5.setCell ⟨gp, m, none⟩ (.int .u8 y)).drew.ownsRow w3.heap.size 5 1 (.slice (some ⟨gp, 0, none⟩) (L1 + 32) cp) (L1 + 32) ((P.set m y).map (Value.int .u8)) from by
    have h := (HO5.out.stored m (.int .u8 y)).1
    rw [map_set_u8] at h
    exact h)
  have HB6 := Lib.hid (show Below w3.heap.size w3 (w5.setCell ⟨gp, m, none⟩ (.int .u8 y)).drew from (HB45.out.setCell (p := ⟨gp, m, none⟩) (HO4.out.lt gp rfl).1 _).drew)
  have HYB := Lib.hid (show 0 ≤ y ∧ y < 256 by rw [hy, HY0.out]; exact u8x_bd (allB_getD HPB.out m) HBB2.out)
  obtain ⟨P2, hP2⟩ : ∃ P2, P2 = P.set m y := ⟨_, rfl⟩
  rw [← hP2] at HO6
  have HP2B := Lib.hid (show AllB P2 by rw [hP2]; exact allB_set HPB.out m HYB.out)
  have HP2L := Lib.hid (show P2.length = L1 + 32 by rw [hP2, List.length_set, HPL.out])
  obtain ⟨N, hN⟩ : ∃ N, N = shaL (P2.take L1) := ⟨_, rfl⟩
  have HKA := Lib.hid (show ∀ n, n < 32 → (keyL P2).getD n 0 = if n + L1 = m then bits .xor .u8 (bits .xor .u8 (bits .xor .u8 (K.getD n 0) (S.getD n 0)) (N.getD n 0)) (b : Int) else bits .xor .u8 (bits .xor .u8 (K.getD n 0) (S.getD n 0)) (N.getD n 0) from fun n hn => by
    rw [hN, hP2, hS, hy, HY0.out, HPP.out]
    exact key_at HKL.out HKB.out HBB.out HBL.out HBB2.out HM.out hn)
  generalize hV6 : (w5.setCell ⟨gp, m, none⟩ (.int .u8 y)).drew = V6 at HRW6 HO6 HB6 ⊢
  have HP6 := Lib.hid (own_any HO6.out HP2B.out)
  have HSM2 := Lib.hid (refSum_new (some ⟨gp, 0, none⟩) L1 cp (P2.take L1) V6 ⟨⟨by rw [List.length_take, HP2L.out]; omega, fun x hx => HP2B.out x (List.mem_of_mem_take hx), HP6.out.1.2.2.1.take _, by omega, hcp2⟩, fun e => by cases e⟩ (by have := HL.out; omega))
  rw [← hN] at HSM2
  clear hV6 hy hS hP2 hN HSM hgpW
  go_upto_region 12 with (go_at_call 11; go_loud ((with_reducible refine HSM2.out.mono ?_); rintro e w7 ⟨gN, cN, rfl, hr, hb, hg⟩; have HRN := Lib.hid hr; have HRW7 := Lib.hid (HRW6.out.on hb HRW6.out.2.2.1); have HP7 := Lib.hid (HP6.out.1.on hb); have HB7 := Lib.hid (show Below w3.heap.size w3 w7 from HB6.out.trans (hb.mono HB6.out.size)); clear hr hb hg))
  have HKY := Lib.hid (keyOk (some ⟨gp, 0, none⟩) (L1 + 32) cp P2 w7 (HG3.out.on HB7.out HG3.out.1) ⟨HP7.out, fun e => by cases e⟩ (by omega) (by have := HL.out; omega))
  go_upto_region 13 with (go_at_call 13; go_loud ((with_reducible refine HKY.out.mono ?_); rintro e w8 ⟨al, cl, rfl, ha, hb⟩; have HA8 := Lib.hid ha; have HRN8 := Lib.hid (HRN.out.on hb HRN.out.2.2.1); have HRW8 := Lib.hid (HRW7.out.on hb HRW7.out.2.2.1); have HP8 := Lib.hid (HP7.out.on hb); have HB8 := Lib.hid (show Below w3.heap.size w3 w8 from HB7.out.trans (hb.mono HB7.out.size)); clear ha hb))
  obtain ⟨bl, ol, rfl⟩ := arg_some HA8.out (by omega)
  clear HKY HSM2 HWR HMD
  go_wp2_with fail
  go_loopw [106] (fun q wr => ∃ n : Nat, n ≤ 32 ∧ q = .int .i64 (n : Nat) ∧ Below w8.heap.size w8 wr) (fun q _ => 32 - (intOf q).toNat)
  case atStart => exact ⟨0, by omega, rfl, Below.refl _ _⟩
  case round =>
    obtain ⟨n, hn, rfl, hbel⟩ := hrel
    rename World => W
    have HBV := Lib.hid hbel
    clear hbel
    have HBW := Lib.hid (show Below w3.heap.size w3 W from HB8.out.trans (HBV.out.mono HB8.out.size))
    by_cases hlt : n < 32
    · have HLT := Lib.hid hlt
      have hck := arg8_at (HK3.out.1.on HBW.out) hlt
      rw [Nat.zero_add] at hck
      have hcs := (HRW8.out.on HBV.out HRW8.out.2.2.1).2.2.2 n hlt
      have hcn := (HRN8.out.on HBV.out HRN8.out.2.2.1).2.2.2 n hlt
      have hcl := arg8_at (HA8.out.on HBV.out) hlt
      rw [HKA.out n hlt] at hcl
      obtain ⟨X1, hX1⟩ : ∃ X, X = K.getD n 0 := ⟨_, rfl⟩
      obtain ⟨S1, hS1⟩ : ∃ X, X = S.getD n 0 := ⟨_, rfl⟩
      obtain ⟨N1, hN1⟩ : ∃ X, X = N.getD n 0 := ⟨_, rfl⟩
      rw [← hX1] at hck hcl
      rw [← hS1] at hcs hcl
      rw [← hN1] at hcn hcl
      clear hX1 hS1 hN1
      have qn : (n : Int) < 32 := by omega
      have qn0 : (0 : Int) ≤ (n : Int) := by omega
      by_cases hnm : n + L1 = m
      · rw [if_pos hnm] at hcl
        have q5 : ((n : Int) + (L1 : Int) == (m : Int)) = true := by simp; omega
        clear hnm hlt
        go_wp2_with fail
        go_quiet (fail)
        go_wp2
        go_roundw
        case rel => exact ⟨n + 1, HLT.out, by go_num, below_drewN HBV.out _⟩
        case measure => simp [intOf]; have := HLT.out; omega
      · rw [if_neg hnm] at hcl
        have q5 : ((n : Int) + (L1 : Int) == (m : Int)) = false := by simp; omega
        clear hnm hlt
        go_wp2_with fail
        go_quiet (fail)
        go_wp2
        go_roundw
        case rel => exact ⟨n + 1, HLT.out, by go_num, below_drewN HBV.out _⟩
        case measure => simp [intOf]; have := HLT.out; omega
    · obtain rfl : n = 32 := by omega
      have CKF := Lib.hid keyForm
      have CKO := Lib.hid keyOk
      have COF := Lib.hid openForm
      have COO := Lib.hid openOk
      have COA := Lib.hid openArg
      have CWA := Lib.hid wrapArg
      have CWF := Lib.hid wrapForm
      have CWO := Lib.hid wrapOk
      unfold KeyFormC at CKF
      unfold KeyOkC at CKO
      unfold OpenFormC at COF
      unfold OpenOkC at COO
      unfold OpenArgC at COA
      unfold WrapArgC at CWA
      unfold WrapFormC at CWF
      unfold WrapOkC at CWO
      have HTW := Lib.hid (show Arg8c W a3 L3 c3 T from ⟨HT3.out.1.on HBW.out, HT3.out.2⟩)
      have HPW := Lib.hid (HP8.out.on HBV.out)
      have HGW2 := Lib.hid (HG3.out.on HBW.out HG3.out.1)
      clear hlt hn
      by_cases h32 : L3 < 32
      · have HFEW := Lib.hid h32
        have HN32 := Lib.hid (show L3 ≠ 32 by omega)
        have q7 : (L3 : Int) < 32 := by omega
        have q8 : ¬ (L3 : Int) = 32 := by omega
        have q9 : decide ((L3 : Int) < 32) = true := decide_eq_true q7
        have qa : ((L3 : Int) != 32) = true := by simp; omega
        clear h32
        go_upto_region 30 with (first
          | (go_at_call 13; go_loud ((with_reducible refine (CKF.out a3 L3 c3 T W HTW.out HFEW.out).mono ?_); rintro e wa ⟨aa, ma, ca, rfl, hb⟩; have HBa := Lib.hid (show Below w3.heap.size w3 wa from HBW.out.trans (hb.mono HBW.out.size)); have HTA := Lib.hid (show Arg8c wa a3 L3 c3 T from ⟨HT3.out.1.on HBa.out, HT3.out.2⟩); have HFA := Lib.hid (HF3.out.below HBa.out); have HGA := Lib.hid (HG3.out.on HBa.out HG3.out.1); have HPA := Lib.hid (HPW.out.on hb); clear hb))
          | (go_at_call_of 12 (Value.pointer none); go_loud ((with_reducible refine (COA.out (some ⟨gp, 0, none⟩) (L1 + 32) cp P2 wb HPBB.out).mono ?_); rintro e wc ⟨ac, mc, cc, rfl, hb⟩; have HBc := Lib.hid (show Below w3.heap.size w3 wc from HBb.out.trans (hb.mono HBb.out.size)); have HKC := Lib.hid (show Arg8c wc (some ⟨gk, 0, none⟩) 32 32 K from ⟨HK3.out.1.on HBc.out, fun e => by cases e⟩); have HXC := Lib.hid (show Arg8c wc a1 L1 c1 B from ⟨HX3.out.1.on HBc.out, HX3.out.2⟩); clear hb))
          | (go_at_call 12; go_loud ((with_reducible refine (COF.out fb a3 L3 c3 T wa HFA.out HTA.out HFEW.out).mono ?_); rintro e wb ⟨ab, mb, cb, rfl, hb⟩; have HBb := Lib.hid (show Below w3.heap.size w3 wb from HBa.out.trans (hb.mono HBa.out.size)); have HPBB := Lib.hid (show Arg8c wb (some ⟨gp, 0, none⟩) (L1 + 32) cp P2 from ⟨HPA.out.on hb, fun e => by cases e⟩); clear hb))
          | (go_at_call_of 8 (Value.pointer none); go_loud ((with_reducible refine (CWA.out (some ⟨gk, 0, none⟩) 32 32 K a1 L1 c1 B wc HKC.out HXC.out).mono ?_); rintro e wd ⟨ad, md, cd, rfl, hb⟩; have HBd := Lib.hid (show Below w3.heap.size w3 wd from HBc.out.trans (hb.mono HBc.out.size)); have HTD := Lib.hid (show Arg8c wd a3 L3 c3 T from ⟨HT3.out.1.on HBd.out, HT3.out.2⟩); have HFD := Lib.hid (HF3.out.below HBd.out); have HGD := Lib.hid (HG3.out.on HBd.out HG3.out.1); have HXD := Lib.hid (show Arg8c wd a1 L1 c1 B from ⟨HX3.out.1.on HBd.out, HX3.out.2⟩); clear hb))
          | (go_at_call 8; go_loud ((with_reducible refine (CWF.out fb a3 L3 c3 T a1 L1 c1 B wd HFD.out HTD.out HXD.out HN32.out (by have := HL.out; omega)).mono ?_); rintro e we ⟨ae, me, ce, rfl, hb⟩; have HBe := Lib.hid (show Below w3.heap.size w3 we from HBd.out.trans (hb.mono HBd.out.size)); clear hb)))
        go_wp2
        go_ret
        exact ⟨rfl, HB3.out.trans (HBe.out.mono HB3.out.size)⟩
      · by_cases h33 : L3 = 32
        · subst h33
          have HFEW := Lib.hid (Nat.le_refl 32)
          clear h32
          go_upto_region 30 with (first
            | (go_at_call 13; go_loud ((with_reducible refine (CKO.out a3 32 c3 T W HGW2.out HTW.out HFEW.out (by have := HL3.out; omega)).mono ?_); rintro e wa ⟨aa, ca, rfl, _, hb⟩; have HBa := Lib.hid (show Below w3.heap.size w3 wa from HBW.out.trans (hb.mono HBW.out.size)); have HTA := Lib.hid (show Arg8c wa a3 32 c3 T from ⟨HT3.out.1.on HBa.out, HT3.out.2⟩); have HFA := Lib.hid (HF3.out.below HBa.out); have HGA := Lib.hid (HG3.out.on HBa.out HG3.out.1); have HPA := Lib.hid (HPW.out.on hb); clear hb))
            | (go_at_call_of 12 (Value.pointer none); go_loud ((with_reducible refine (COA.out (some ⟨gp, 0, none⟩) (L1 + 32) cp P2 wb HPBB.out).mono ?_); rintro e wc ⟨ac, mc, cc, rfl, hb⟩; have HBc := Lib.hid (show Below w3.heap.size w3 wc from HBb.out.trans (hb.mono HBb.out.size)); have HKC := Lib.hid (show Arg8c wc (some ⟨gk, 0, none⟩) 32 32 K from ⟨HK3.out.1.on HBc.out, fun e => by cases e⟩); have HXC := Lib.hid (show Arg8c wc a1 L1 c1 B from ⟨HX3.out.1.on HBc.out, HX3.out.2⟩); clear hb))
            | (go_at_call 12; go_loud ((with_reducible refine (COO.out fb a3 32 c3 T wa HGA.out HFA.out HTA.out HFEW.out (by have := HL3.out; omega)).mono ?_); rintro e wb ⟨ab, cb, rfl, _, hb⟩; have HBb := Lib.hid (show Below w3.heap.size w3 wb from HBa.out.trans (hb.mono HBa.out.size)); have HPBB := Lib.hid (show Arg8c wb (some ⟨gp, 0, none⟩) (L1 + 32) cp P2 from ⟨HPA.out.on hb, fun e => by cases e⟩); clear hb))
            | (go_at_call_of 8 (Value.pointer none); go_loud ((with_reducible refine (CWA.out (some ⟨gk, 0, none⟩) 32 32 K a1 L1 c1 B wc HKC.out HXC.out).mono ?_); rintro e wd ⟨ad, md, cd, rfl, hb⟩; have HBd := Lib.hid (show Below w3.heap.size w3 wd from HBc.out.trans (hb.mono HBc.out.size)); have HTD := Lib.hid (show Arg8c wd a3 32 c3 T from ⟨HT3.out.1.on HBd.out, HT3.out.2⟩); have HFD := Lib.hid (HF3.out.below HBd.out); have HGD := Lib.hid (HG3.out.on HBd.out HG3.out.1); have HXD := Lib.hid (show Arg8c wd a1 L1 c1 B from ⟨HX3.out.1.on HBd.out, HX3.out.2⟩); clear hb))
            | (go_at_call 8; go_loud ((with_reducible refine (CWO.out fb a3 c3 T a1 L1 c1 B wd HGD.out HFD.out HTD.out HXD.out (by have := HL.out; omega)).mono ?_); rintro e we ⟨ge, ce, rfl, _, hb⟩; have HBe := Lib.hid (show Below w3.heap.size w3 we from HBd.out.trans (hb.mono HBd.out.size)); clear hb)))
          go_wp2
          go_ret
          exact ⟨rfl, HB3.out.trans (HBe.out.mono HB3.out.size)⟩
        · have HFEW := Lib.hid (show 32 ≤ L3 by omega)
          have HN32 := Lib.hid h33
          have q7 : ¬ (L3 : Int) < 32 := by omega
          have q8 : ¬ (L3 : Int) = 32 := by omega
          have q9 : decide ((L3 : Int) < 32) = false := decide_eq_false q7
          have qa : ((L3 : Int) != 32) = true := by simp; omega
          clear h32 h33
          go_upto_region 30 with (first
            | (go_at_call 13; go_loud ((with_reducible refine (CKO.out a3 L3 c3 T W HGW2.out HTW.out HFEW.out (by have := HL3.out; omega)).mono ?_); rintro e wa ⟨aa, ca, rfl, _, hb⟩; have HBa := Lib.hid (show Below w3.heap.size w3 wa from HBW.out.trans (hb.mono HBW.out.size)); have HTA := Lib.hid (show Arg8c wa a3 L3 c3 T from ⟨HT3.out.1.on HBa.out, HT3.out.2⟩); have HFA := Lib.hid (HF3.out.below HBa.out); have HGA := Lib.hid (HG3.out.on HBa.out HG3.out.1); have HPA := Lib.hid (HPW.out.on hb); clear hb))
            | (go_at_call_of 12 (Value.pointer none); go_loud ((with_reducible refine (COA.out (some ⟨gp, 0, none⟩) (L1 + 32) cp P2 wb HPBB.out).mono ?_); rintro e wc ⟨ac, mc, cc, rfl, hb⟩; have HBc := Lib.hid (show Below w3.heap.size w3 wc from HBb.out.trans (hb.mono HBb.out.size)); have HKC := Lib.hid (show Arg8c wc (some ⟨gk, 0, none⟩) 32 32 K from ⟨HK3.out.1.on HBc.out, fun e => by cases e⟩); have HXC := Lib.hid (show Arg8c wc a1 L1 c1 B from ⟨HX3.out.1.on HBc.out, HX3.out.2⟩); clear hb))
            | (go_at_call 12; go_loud ((with_reducible refine (COO.out fb a3 L3 c3 T wa HGA.out HFA.out HTA.out HFEW.out (by have := HL3.out; omega)).mono ?_); rintro e wb ⟨ab, cb, rfl, _, hb⟩; have HBb := Lib.hid (show Below w3.heap.size w3 wb from HBa.out.trans (hb.mono HBa.out.size)); have HPBB := Lib.hid (show Arg8c wb (some ⟨gp, 0, none⟩) (L1 + 32) cp P2 from ⟨HPA.out.on hb, fun e => by cases e⟩); clear hb))
            | (go_at_call_of 8 (Value.pointer none); go_loud ((with_reducible refine (CWA.out (some ⟨gk, 0, none⟩) 32 32 K a1 L1 c1 B wc HKC.out HXC.out).mono ?_); rintro e wd ⟨ad, md, cd, rfl, hb⟩; have HBd := Lib.hid (show Below w3.heap.size w3 wd from HBc.out.trans (hb.mono HBc.out.size)); have HTD := Lib.hid (show Arg8c wd a3 L3 c3 T from ⟨HT3.out.1.on HBd.out, HT3.out.2⟩); have HFD := Lib.hid (HF3.out.below HBd.out); have HGD := Lib.hid (HG3.out.on HBd.out HG3.out.1); have HXD := Lib.hid (show Arg8c wd a1 L1 c1 B from ⟨HX3.out.1.on HBd.out, HX3.out.2⟩); clear hb))
            | (go_at_call 8; go_loud ((with_reducible refine (CWF.out fb a3 L3 c3 T a1 L1 c1 B wd HFD.out HTD.out HXD.out HN32.out (by have := HL.out; omega)).mono ?_); rintro e we ⟨ae, me, ce, rfl, hb⟩; have HBe := Lib.hid (show Below w3.heap.size w3 we from HBd.out.trans (hb.mono HBd.out.size)); clear hb)))
          go_wp2
          go_ret
          exact ⟨rfl, HB3.out.trans (HBe.out.mono HB3.out.size)⟩
theorem aontNothing_long (a0 : Option Addr) (L0 c0 : Nat) (a1 : Option Addr) (L1 c1 : Nat) (at_ : Int) (a3 : Option Addr) (L3 c3 : Nat) (w : World) (hL : ¬ (L1 ≤ 200 ∧ L3 ≤ 60)) (hG : Gl w) :
    Calls Tryd.prog 4 #[.slice a0 L0 c0, .slice a1 L1 c1, .int .i64 at_, .slice a3 L3 c3] w fun e w' => e = .returned (.bool true) ∧ Below w.heap.size w w' := by
  have HGL := Lib.hid hG
  have HG2 := Lib.hid hG.1
  clear hG
  rcases (show (200 : Int) < (L1 : Int) ∨ (¬ (200 : Int) < (L1 : Int) ∧ (60 : Int) < (L3 : Int)) by omega) with q1 | ⟨q1, q2⟩
  all_goals
    clear hL
    go_enter Tryd.func4, Tryd.ntmps4
    go_upto_region 2 with (go_at_call 5; go_loud ((with_reducible refine (lives11 w HGL.out).mono ?_); rintro e W1 ⟨rfl, hb⟩; have HB1 := Lib.hid hb; clear hb))
    go_wp2_with (go_at_call 5; go_loud ((with_reducible refine (lives11 W1 (HGL.out.on HB1.out HG2.out)).mono ?_); rintro e W2 ⟨rfl, hb⟩; have HB2 := Lib.hid hb; clear hb))
    go_ret
    exact ⟨rfl, bt HB1.out HB2.out⟩
theorem aontNothing_walk (a0 : Option Addr) (L0 c0 : Nat) (a1 : Option Addr) (L1 c1 : Nat) (at_ : Int) (a3 : Option Addr) (L3 c3 : Nat) (w : World) (w0 : ∃ l, Arg8c w a0 L0 c0 l) (w1 : ∃ l, Arg8c w a1 L1 c1 l) (w2 : (Lit.int .i64 at_).wf = true) (w3 : ∃ l, Arg8c w a3 L3 c3 l) (hG : Gl w) :
    Calls Tryd.prog 4 #[.slice a0 L0 c0, .slice a1 L1 c1, .int .i64 at_, .slice a3 L3 c3] w fun e w' => e = .returned (.bool true) ∧ Below w.heap.size w w' := by
  obtain ⟨k, hk⟩ := w0
  obtain ⟨B, hB⟩ := w1
  obtain ⟨T, hT⟩ := w3
  by_cases h : L1 ≤ 200 ∧ L3 ≤ 60
  · exact aontNothing_core a0 L0 c0 a1 L1 c1 at_ a3 L3 c3 k B T w hk.1 hB w2 hT h.1 h.2 hG
  · exact aontNothing_long a0 L0 c0 a1 L1 c1 at_ a3 L3 c3 w h hG
end Go.Proofs.YtcdepbnglmncpaaDoor
