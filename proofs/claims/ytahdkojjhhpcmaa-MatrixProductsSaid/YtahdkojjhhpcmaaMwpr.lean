/- The walk of MatrixProducts. -/
import Derived.Test.YtahdkojjhhpcmaaMlaw
namespace Go.Proofs.Ytahdkojjhhpcmaa
open Go.ChangeShapes Go.WideShapes Go.ChangeAt Go.RowKit Go.Shelf GF
set_option linter.unusedVariables false
set_option linter.unusedSimpArgs false

set_option maxRecDepth 100000 in
set_option maxHeartbeats 8000000 in
theorem matrixProducts_walk (n k c : Int) (a3 : Option Addr) (len3 cap3 : Nat) (a4 : Option Addr) (len4 cap4 : Nat) (a5 : Option Addr) (len5 cap5 : Nat) (w : World) (w0 : (Lit.int .i64 n).wf = true) (w1 : (Lit.int .i64 k).wf = true) (w2 : (Lit.int .i64 c).wf = true) (w3 : ∃ l, Arg8c w a3 len3 cap3 l) (w4 : ∃ l, Arg8c w a4 len4 cap4 l) (w5 : ∃ l, Arg8c w a5 len5 cap5 l) :
    Calls Try.prog 5 #[.int .i64 n, .int .i64 k, .int .i64 c, .slice a3 len3 cap3, .slice a4 len4 cap4, .slice a5 len5 cap5] w fun e w' => e = .returned (.bool true) ∧ Below w.heap.size w w' := by
  obtain ⟨l3, hl3⟩ := w3
  obtain ⟨l4, hl4⟩ := w4
  obtain ⟨l5, hl5⟩ := w5
  have HX := Lib.hid (Pa.of hl3)
  have HY := Lib.hid (Pa.of hl4)
  have HV := Lib.hid (Pa.of hl5)
  have hvb := (Pa.of hl5).bd
  obtain ⟨X, hX⟩ : ∃ X, X = gL l3 := ⟨_, rfl⟩
  obtain ⟨Y, hY⟩ : ∃ Y, Y = gL l4 := ⟨_, rfl⟩
  obtain ⟨V, hV⟩ : ∃ V, V = gL l5 := ⟨_, rfl⟩
  rw [← hX] at HX
  rw [← hY] at HY
  rw [← hV] at HV
  clear hX hY hV hl3 hl4 hl5 w0 w1 w2
  obtain ⟨N, hN, hn⟩ := small_one n 8 (by omega) (by omega)
  obtain ⟨K, hK, hk⟩ := small_one k 8 (by omega) (by omega)
  obtain ⟨C, hC, hc⟩ := small_one c 8 (by omega) (by omega)
  have HN := Lib.hid hn
  have HK := Lib.hid hk
  have HC := Lib.hid hc
  clear hn hk hc
  go_enter Try.func5, Try.ntmps5
  go_upto_region 4 with (go_at_call 9; refine (livesM_any _).mono ?_; rintro e w1 ⟨rfl, hb1⟩; have HB1 := Lib.hid hb1; clear hb1)
  rw [HN.out, HK.out, HC.out]
  go_upto_region 5 with (go_at_call 10; refine (new_any _).mono ?_; rintro e w2 ⟨fb, rfl, hb0, hf, hbel⟩; have HF := Lib.hid hf; have HB2 := Lib.hid (bt HB1.out hbel); clear hf hbel hb0)
  go_upto_region 6 with (first
    | (go_at_call 12; go_loud (with_reducible refine (square_any a3 len3 cap3 X N K _ (HX.out.on HB2.out) (by omega) (by omega)).mono ?_); rintro e w3 ⟨B3, rfl, hg3, hb3⟩; have HG3 := Lib.hid hg3; have HB3 := Lib.hid (bt HB2.out hb3); have HF3 := Lib.hid (HF.out.below hb3); clear hg3 hb3)
    | (go_at_call 12; go_loud (refine (square_any a4 len4 cap4 Y K C _ (HY.out.on HB3.out) (by omega) (by omega)).mono ?_); rintro e w5 ⟨B5, rfl, hg5, hb5⟩; have HG5 := Lib.hid hg5; have HB5 := Lib.hid (bt HB3.out hb5); have HF5 := Lib.hid (HF3.out.below hb5); have HG4 := Lib.hid (HG3.out.on hb5); clear hg5 hb5))
  have hwX := wide_sqM X K N
  have hwY := wide_sqM Y C K
  obtain ⟨XM, hXM⟩ : ∃ XM, XM = sqM X K N := ⟨_, rfl⟩
  obtain ⟨YM, hYM⟩ : ∃ YM, YM = sqM Y C K := ⟨_, rfl⟩
  rw [← hXM] at HG4 hwX
  rw [← hYM] at HG5 hwY
  have HWX := Lib.hid hwX
  have HWY := Lib.hid hwY
  clear hXM hYM hwX hwY
  go_upto_region 7 with (go_at_call 11; go_loud (refine (new_ok _ N N K XM _ HG4.out.mat HWX.out (by omega) (by omega)).mono ?_); rintro e w6 ⟨m4, rfl, hm6, hb6⟩; have HM6 := Lib.hid hm6; have HB6 := Lib.hid (bt HB5.out hb6); have HF6 := Lib.hid (HF5.out.below hb6); have HG6 := Lib.hid (HG5.out.on hb6); have HH6 := Lib.hid (HG4.out.on hb6); clear hm6 hb6)
  go_upto_region 8 with (go_at_call 11; go_loud (refine (new_ok _ K K C YM _ HG6.out.mat HWY.out (by omega) (by omega)).mono ?_); rintro e w7 ⟨m6, rfl, hm7, hb7⟩; have HO7 := Lib.hid hm7; have HB7 := Lib.hid (bt HB6.out hb7); have HF7 := Lib.hid (HF6.out.below hb7); have HG7 := Lib.hid (HG6.out.on hb7); have HH7 := Lib.hid (HH6.out.on hb7); have HM7 := Lib.hid (HM6.out.on hb7); clear hm7 hb7)
  go_upto_region 9 with (go_at_call 13; go_loud (refine (mmul_ok m4 N K XM fb m6 C YM _ HM7.out HO7.out HF7.out).mono ?_); rintro e w8 ⟨m8, rfl, hm8, hb8⟩; have HP8 := Lib.hid hm8; have HB8 := Lib.hid (bt HB7.out hb8); have HF8 := Lib.hid (HF7.out.below hb8); have HM8 := Lib.hid (HM7.out.on hb8); have HO8 := Lib.hid (HO7.out.on hb8); have HG8 := Lib.hid (HG7.out.on hb8); have HH8 := Lib.hid (HH7.out.on hb8); clear hm8 hb8)
  go_upto_region 11 with (first
    | (go_at_call 20; go_loud (refine (rows_any m8 N C _ _ HP8.out).mono ?_); rintro e w9 ⟨v9, vs9, rfl, ho9, hv9, hb9⟩; obtain ⟨a9, c9, hav, hm9⟩ := Mat.own ho9 hv9; subst hav; have HR9 := Lib.hid hm9; have HB9 := Lib.hid (bt HB8.out hb9); have HF9 := Lib.hid (HF8.out.below hb9); have HM9 := Lib.hid (HM8.out.on hb9); have HO9 := Lib.hid (HO8.out.on hb9); have HG9 := Lib.hid (HG8.out.on hb9); have HH9 := Lib.hid (HH8.out.on hb9); clear hm9 hb9 ho9 hv9)
    | (go_at_call 22; go_loud (refine (rmmul_any _ N N XM _ K K YM C _ HH9.out.mat HWX.out HG9.out.mat HWY.out (by omega) (by omega) (by omega) (by omega)).mono ?_); rintro e w10 ⟨v10, vs10, rfl, ho10, hv10, hb10⟩; obtain ⟨a10, c10, hav2, hm10⟩ := Mat.own ho10 hv10; subst hav2; have HR10 := Lib.hid hm10; have HQ10 := Lib.hid (HR9.out.on hb10); have HB10 := Lib.hid (bt HB9.out hb10); have HF10 := Lib.hid (HF9.out.below hb10); have HM10 := Lib.hid (HM9.out.on hb10); have HO10 := Lib.hid (HO9.out.on hb10); have HH10 := Lib.hid (HH9.out.on hb10); clear hm10 hb10 ho10 hv10)
    | (go_at_call 19; go_loud (refine (same_any _ N _ _ _ _ _ HQ10.out HR10.out).mono ?_); rintro e w11 ⟨rfl, hb11⟩; have HB11 := Lib.hid (bt HB10.out hb11); have HF11 := Lib.hid (HF10.out.below hb11); have HM11 := Lib.hid (HM10.out.on hb11); have HO11 := Lib.hid (HO10.out.on hb11); have HH11 := Lib.hid (HH10.out.on hb11); clear hb11))
  by_cases hlen : len5 = K
  · subst hlen
    have qe : ((len5 : Int) != (len5 : Int)) = false := by simp
    go_upto_region 15 with (go_at_call 14; go_loud (refine (times_ok m4 N len5 _ fb a5 cap5 V _ HM11.out HF11.out (HV.out.on HB11.out)).mono ?_); rintro e w12 ⟨g12, rfl, ho12, hb12⟩; have HX12 := Lib.hid (pa_own ho12); have HB12 := Lib.hid (bt HB11.out hb12); have HF12 := Lib.hid (HF11.out.below hb12); have HM12 := Lib.hid (HM11.out.on hb12); have HO12 := Lib.hid (HO11.out.on hb12); have HH12 := Lib.hid (HH11.out.on hb12); clear ho12 hb12)
    have hcv : ∀ W, Below w12.heap.size w12 W → (convert 22 9 (.slice (some ⟨g12, 0, none⟩) N N)).run Try.prog W = .ok (.string (strOfNums (iL (timesL XM V)))) W := fun W hW => (HX12.out.on hW).strM
    have HRT := Lib.hid (fun (W : World) (hW : Below w12.heap.size w12 W) => rtimes_any _ N N XM a5 len5 cap5 V W ((HH12.out.on hW).mat) (HV.out.on (bt HB12.out hW)) (fun i hi => by rw [HWX.out i (by rw [HM12.out.len]; exact hi)]; exact Nat.le_refl _) (by omega))
    refine wp_region_held_drew (S := fun W => Below w12.heap.size w12 W) (by kernel_rfl) (Below.refl _ _).drew (fun hHeld => ?_)
    refine wpAnyH_take (i := 0) (v := ?v0) rfl (by kernel_rfl) (by kernel_rfl) (by kernel_rfl) (fun _ _ _ h => h) (Or.inl ⟨by rfl, ?hy0⟩) hHeld ?rest0
    case hy0 =>
      intro V hV
      try dsimp only at hV
      go_simp
      all_goals with_reducible rfl
    case' rest0 => try simp only [Act.put, List.setIfInBounds_toArray, List.set_cons_zero, List.set_cons_succ]
    refine wpAnyH_take (i := 1) (v := ?v1) rfl (by kernel_rfl) (by kernel_rfl) (by kernel_rfl) (fun _ _ _ h => h) (Or.inl ⟨by rfl, ?hy1⟩) hHeld ?rest1
    case hy1 =>
      intro V hV
      try dsimp only at hV
      go_simp
      all_goals with_reducible rfl
    case' rest1 => try simp only [Act.put, List.setIfInBounds_toArray, List.set_cons_zero, List.set_cons_succ]
    refine wpAnyH_take (i := 2) (v := ?v2) rfl (by kernel_rfl) (by kernel_rfl) (by kernel_rfl) (fun _ _ _ h => h) (Or.inl ⟨by rfl, ?hy2⟩) hHeld ?rest2
    case hy2 =>
      intro V hV
      try dsimp only at hV
      go_simp
      all_goals with_reducible rfl
    case' rest2 => try simp only [Act.put, List.setIfInBounds_toArray, List.set_cons_zero, List.set_cons_succ]
    refine wpAnyH_take (i := 3) (v := ?v3) rfl (by kernel_rfl) (by kernel_rfl) (by kernel_rfl) (fun _ _ _ h => h) (Or.inl ⟨by rfl, ?hy3⟩) hHeld ?rest3
    case hy3 =>
      intro V hV
      try dsimp only at hV
      go_simp
      all_goals with_reducible rfl
    case' rest3 => try simp only [Act.put, List.setIfInBounds_toArray, List.set_cons_zero, List.set_cons_succ]
    refine wpAnyH_take (i := 4) (v := ?v4) rfl (by kernel_rfl) (by kernel_rfl) (by kernel_rfl) (fun _ _ _ h => h) (Or.inl ⟨by rfl, ?hy4⟩) hHeld ?rest4
    case hy4 =>
      intro V hV
      try dsimp only at hV
      go_simp
      all_goals with_reducible rfl
    case' rest4 => try simp only [Act.put, List.setIfInBounds_toArray, List.set_cons_zero, List.set_cons_succ]
    refine wpAnyH_take (i := 5) (v := ?v5) rfl (by kernel_rfl) (by kernel_rfl) (by kernel_rfl) (fun _ _ _ h => h) (Or.inl ⟨by rfl, ?hy5⟩) hHeld ?rest5
    case hy5 =>
      intro V hV
      try dsimp only at hV
      go_simp
      all_goals with_reducible rfl
    case' rest5 => try simp only [Act.put, List.setIfInBounds_toArray, List.set_cons_zero, List.set_cons_succ]
    refine wpAnyH_take (i := 6) (v := ?v6) rfl (by kernel_rfl) (by kernel_rfl) (by kernel_rfl) (fun _ _ _ h => h) (Or.inl ⟨by rfl, ?hy6⟩) hHeld ?rest6
    case hy6 =>
      intro V hV
      try dsimp only at hV
      go_simp
      all_goals with_reducible rfl
    case' rest6 => try simp only [Act.put, List.setIfInBounds_toArray, List.set_cons_zero, List.set_cons_succ]
    refine wpAnyH_ready (rs := [7]) (by kernel_rfl) (by simp) ?_
    refine AllReadyH.cons rfl (fun K hK => ?_) AllReadyH.nil
    go_simp
    go_wp2_with (go_at_call 23; go_loud (refine (HRT.out _ hHeld).mono ?_); rintro e w13 ⟨v13, rfl, ho13, hb13⟩)
    have hq13 : Below w12.heap.size w12 w13 := bt hHeld hb13
    obtain ⟨a13, c13, hv13, hp13, _⟩ := Pa.own ho13
    subst hv13
    have hcv13 := hp13.strM
    have HB13 := Lib.hid (bt HB12.out hq13)
    have HF13 := Lib.hid (HF12.out.below hq13)
    have HM13 := Lib.hid (HM12.out.on hq13)
    have HO13 := Lib.hid (HO12.out.on hq13)
    have HQ13 := Lib.hid hq13
    clear ho13 hp13 hq13 hcv
    refine hK.out _ _ HQ13.out (fun hHeld1 => ?_)
    clear hK K hHeld
    have hHeld := hHeld1
    clear hHeld1
    refine wpAnyH_ready (rs := [8]) (by kernel_rfl) (by simp) ?_
    refine AllReadyH.cons (o := { dst := some 113, op := Op.convert 22 9 (Operand.tmp 112), type := 9, pos := "law.go:124", after := #[{ on := 7, ground := Ground.data }, { on := 2, ground := Ground.guard }], guard := some (2, false) }) rfl (fun K hK => ?_) AllReadyH.nil
    rw [if_pos (by rfl)]
    go_simp
    refine hK.out _ _ HQ13.out (fun hHeld1 => ?_)
    clear hK K hHeld
    have hHeld := hHeld1
    clear hHeld1
    refine wpAnyH_take (i := 9) (v := ?v9) rfl (by kernel_rfl) (by kernel_rfl) (by kernel_rfl) (fun _ _ _ h => h) (Or.inl ⟨by rfl, ?hy9⟩) hHeld ?rest9
    case hy9 =>
      intro V hV
      try dsimp only at hV
      go_simp
      all_goals with_reducible rfl
    case' rest9 => try simp only [Act.put, List.setIfInBounds_toArray, List.set_cons_zero, List.set_cons_succ]
    refine wpAnyH_take (i := 10) (v := ?v10) rfl (by kernel_rfl) (by kernel_rfl) (by kernel_rfl) (fun _ _ _ h => h) (Or.inl ⟨by rfl, ?hy10⟩) hHeld ?rest10
    case hy10 =>
      intro V hV
      try dsimp only at hV
      go_simp
      all_goals with_reducible rfl
    case' rest10 => try simp only [Act.put, List.setIfInBounds_toArray, List.set_cons_zero, List.set_cons_succ]
    refine wpAnyH_done (by kernel_rfl) ?_ _
    clear hHeld
    have hkb : len5 ≤ 8 := by omega
    by_cases hkc : len5 = C
    · have qk : ((len5 : Int) == (C : Int)) = true := by rw [beq_iff_eq]; omega
      have HKC := Lib.hid hkc
      have hmm := Lib.hid (mmul_ok m6 len5 C YM fb m6 C YM w13 (by have h := HO13.out; exact h) (by have h := HO13.out; rw [HKC.out] at h; exact h) HF13.out)
      clear hkc
      go_wp2_with (first
        | (go_at_call 13; with_reducible refine hmm.out.mono ?_; rintro e w14 ⟨m14, rfl, hm14, hb14⟩; have HB14 := Lib.hid (bt HB13.out hb14); have HM14 := Lib.hid (HM13.out.on hb14); clear hm14 hb14)
        | (go_at_call 13; with_reducible refine (mmul_nil m4 N len5 fb XM w14 HM14.out).mono ?_; rintro e w' ⟨rfl, rfl⟩)
        | (go_at_call 13; with_reducible refine (mmul_nofield m4 _ _).mono ?_; rintro e w' ⟨rfl, rfl⟩))
      go_ret
      exact ⟨rfl, HB14.out⟩
    · have qk : ((len5 : Int) == (C : Int)) = false := by rw [beq_eq_false_iff_ne]; omega
      have hmm := Lib.hid (mmul_uneq m6 len5 C YM fb m6 len5 C YM w13 HO13.out HO13.out (fun e => hkc e.symm))
      clear hkc
      go_wp2_with (first
        | (go_at_call 13; with_reducible refine hmm.out.mono ?_; rintro e w14 ⟨rfl, hb14⟩; have HB14 := Lib.hid (bt HB13.out hb14); have HM14 := Lib.hid (HM13.out.on hb14); clear hb14)
        | (go_at_call 13; with_reducible refine (mmul_nil m4 N len5 fb XM w14 HM14.out).mono ?_; rintro e w' ⟨rfl, rfl⟩)
        | (go_at_call 13; with_reducible refine (mmul_nofield m4 _ _).mono ?_; rintro e w' ⟨rfl, rfl⟩))
      go_ret
      exact ⟨rfl, HB14.out⟩
  · have qe : ((len5 : Int) != (K : Int)) = true := by rw [bne_iff_ne]; omega
    go_upto_region 17 with (go_at_call 14; go_loud (refine (times_uneq m4 N K XM fb a5 len5 cap5 _ HM11.out hlen (by omega)).mono ?_); rintro e w12 ⟨rfl, hb12⟩; have HB12 := Lib.hid (bt HB11.out hb12); have HF12 := Lib.hid (HF11.out.below hb12); have HM12 := Lib.hid (HM11.out.on hb12); have HO12 := Lib.hid (HO11.out.on hb12); clear hb12)
    have hkb : K ≤ 8 := by omega
    by_cases hkc : K = C
    · have qk : ((K : Int) == (C : Int)) = true := by rw [beq_iff_eq]; omega
      have HKC := Lib.hid hkc
      have hmm := Lib.hid (mmul_ok m6 K C YM fb m6 C YM w12 (by have h := HO12.out; exact h) (by have h := HO12.out; rw [HKC.out] at h; exact h) HF12.out)
      clear hkc
      go_wp2_with (first
        | (go_at_call 13; with_reducible refine hmm.out.mono ?_; rintro e w14 ⟨m14, rfl, hm14, hb14⟩; have HB14 := Lib.hid (bt HB12.out hb14); have HM14 := Lib.hid (HM12.out.on hb14); clear hm14 hb14)
        | (go_at_call 13; with_reducible refine (mmul_nil m4 N K fb XM w14 HM14.out).mono ?_; rintro e w' ⟨rfl, rfl⟩)
        | (go_at_call 13; with_reducible refine (mmul_nofield m4 _ _).mono ?_; rintro e w' ⟨rfl, rfl⟩))
      go_ret
      exact ⟨rfl, HB14.out⟩
    · have qk : ((K : Int) == (C : Int)) = false := by rw [beq_eq_false_iff_ne]; omega
      have hmm := Lib.hid (mmul_uneq m6 K C YM fb m6 K C YM w12 HO12.out HO12.out (fun e => hkc e.symm))
      clear hkc
      go_wp2_with (first
        | (go_at_call 13; with_reducible refine hmm.out.mono ?_; rintro e w14 ⟨rfl, hb14⟩; have HB14 := Lib.hid (bt HB12.out hb14); have HM14 := Lib.hid (HM12.out.on hb14); clear hb14)
        | (go_at_call 13; with_reducible refine (mmul_nil m4 N K fb XM w14 HM14.out).mono ?_; rintro e w' ⟨rfl, rfl⟩)
        | (go_at_call 13; with_reducible refine (mmul_nofield m4 _ _).mono ?_; rintro e w' ⟨rfl, rfl⟩))
      go_ret
      exact ⟨rfl, HB14.out⟩
end Go.Proofs.Ytahdkojjhhpcmaa
