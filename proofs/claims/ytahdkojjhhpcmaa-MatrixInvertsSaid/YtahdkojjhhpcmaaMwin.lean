/- The walk of MatrixInverts. -/
import Derived.Test.YtahdkojjhhpcmaaMlaw
namespace Go.Proofs.Ytahdkojjhhpcmaa
open Go.ChangeShapes Go.WideShapes Go.ChangeAt Go.RowKit Go.Shelf GF
set_option linter.unusedVariables false
set_option linter.unusedSimpArgs false

theorem mulM_one {M O : List (List GF)} {n : Nat} (hl : M.length = n) (hw : Wide M n) (h : ∀ i j, i < n → j < n → mmul n (ent M) (ent O) i j = one i j) : mulM M O n n = mat one n n := by
  have e := mat_ent (length_mulM M O n n) (wide_mulM M O n n)
  rw [← e]
  exact mat_congr fun i hi j hj => by rw [ent_mulM hl hw hi hj]; exact h i j hi hj
theorem mmul_congr {n i j : Nat} {A A' B B' : Nat → Nat → GF} (h1 : ∀ k, k < n → A i k = A' i k) (h2 : ∀ k, k < n → B k j = B' k j) : mmul n A B i j = mmul n A' B' i j := sm_congr fun k hk => by rw [h1 k hk, h2 k hk]

set_option maxRecDepth 100000 in
set_option maxHeartbeats 8000000 in
theorem matrixInverts_walk (n k : Int) (a2 : Option Addr) (len2 cap2 : Nat) (w : World) (w0 : (Lit.int .i64 n).wf = true) (w1 : (Lit.int .i64 k).wf = true) (w2 : ∃ l, Arg8c w a2 len2 cap2 l) :
    Calls Try.prog 6 #[.int .i64 n, .int .i64 k, .slice a2 len2 cap2] w fun e w' => e = .returned (.bool true) ∧ Below w.heap.size w w' := by
  obtain ⟨l2, hl2⟩ := w2
  have HX := Lib.hid (Pa.of hl2)
  obtain ⟨X, hX⟩ : ∃ X, X = gL l2 := ⟨_, rfl⟩
  rw [← hX] at HX
  clear hX hl2 w0 w1
  obtain ⟨N, hN, hn⟩ := small_one n 4 (by omega) (by omega)
  obtain ⟨K, hK, hk⟩ := small_one k 4 (by omega) (by omega)
  have HN := Lib.hid hn
  have HK := Lib.hid hk
  clear hn hk
  go_enter Try.func6, Try.ntmps6
  go_upto_region 4 with (go_at_call 9; refine (livesM_any _).mono ?_; rintro e w1 ⟨rfl, hb1⟩; have HB1 := Lib.hid hb1; clear hb1)
  rw [HN.out, HK.out]
  go_upto_region 5 with (go_at_call 10; refine (new_any _).mono ?_; rintro e w2 ⟨fb, rfl, hb0, hf, hbel⟩; have HF := Lib.hid hf; have HB2 := Lib.hid (bt HB1.out hbel); clear hf hbel hb0)
  go_upto_region 6 with (go_at_call 12; go_loud (refine (square_any a2 len2 cap2 X N K _ (HX.out.on HB2.out) (by omega) (by omega)).mono ?_); rintro e w3 ⟨B3, rfl, hg3, hb3⟩; have HG3 := Lib.hid hg3; have HB3 := Lib.hid (bt HB2.out hb3); have HF3 := Lib.hid (HF.out.below hb3); clear hg3 hb3)
  have hwX := wide_sqM X K N
  obtain ⟨XM, hXM⟩ : ∃ XM, XM = sqM X K N := ⟨_, rfl⟩
  rw [← hXM] at HG3 hwX
  have HWX := Lib.hid hwX
  clear hXM hwX
  go_upto_region 7 with (go_at_call 11; go_loud (refine (new_ok _ N N K XM _ HG3.out.mat HWX.out (by omega) (by omega)).mono ?_); rintro e w4 ⟨m4, rfl, hm4, hb4⟩; have HM4 := Lib.hid hm4; have HB4 := Lib.hid (bt HB3.out hb4); have HF4 := Lib.hid (HF3.out.below hb4); have HG4 := Lib.hid (HG3.out.on hb4); clear hm4 hb4)
  go_upto_region 9 with (first
    | (go_at_call 15; go_loud (refine (rank_any m4 N K _ fb _ HM4.out HF4.out).mono ?_); rintro e w5 ⟨r, N1, p1, rfl, hr1, hk1, hb5⟩; have HR1 := Lib.hid (hk1.rk hr1.rk); have HB5 := Lib.hid (bt HB4.out hb5); have HF5 := Lib.hid (HF4.out.below hb5); have HM5 := Lib.hid (HM4.out.on hb5); have HG5 := Lib.hid (HG4.out.on hb5); clear hr1 hk1 hb5)
    | (go_at_call 24; go_loud (refine (rrank_any _ N N XM K r _ HG5.out.mat HWX.out (by omega) (by omega) (by omega) (by omega) HR1.out).mono ?_); rintro e w6 ⟨rfl, hb6⟩; have HB6 := Lib.hid (bt HB5.out hb6); have HF6 := Lib.hid (HF5.out.below hb6); have HM6 := Lib.hid (HM5.out.on hb6); have HG6 := Lib.hid (HG5.out.on hb6); have qrr : ((r : Int) != (r : Int)) = false := (by simp); clear hb6))
  by_cases hnk : N = K
  · subst hnk
    have qn : ((N : Int) != (N : Int)) = false := by simp
    have hdl : detL XM = det N (ent XM) := by unfold detL; rw [HM6.out.len]
    have HDL := Lib.hid hdl
    clear hdl
    by_cases hdet : det N (ent XM) = 0
    · have hinv := (inverse_any m4 N XM fb w6 HM6.out HF6.out).mono (fun e w' (h : _) => show e = .returned (.tuple #[.pointer none, .int .i64 7]) ∧ Below w6.heap.size w6 w' from by
        rcases h with ⟨hb, ⟨h1, h2⟩ | ⟨h1, _⟩⟩
        · exact ⟨h2, hb⟩
        · exact absurd hdet h1)
      have HINV := Lib.hid hinv
      have HDT := Lib.hid hdet
      clear hinv hdet
      go_upto_region 12 with (go_at_call 25; go_loud (refine HINV.out.mono ?_); rintro e w7 ⟨rfl, hb7⟩; have HB7 := Lib.hid (bt HB6.out hb7); have HG7 := Lib.hid (HG6.out.on hb7); clear hb7)
      have hdt := rdet_any N (some ⟨B3, 0, none⟩) N XM w7 HG7.out.mat HWX.out (by omega)
      rw [HDL.out, HDT.out, toI_zero] at hdt
      have HDD := Lib.hid hdt
      clear hdt
      go_wp2_with (go_at_call 26; go_loud (refine HDD.out.mono ?_); rintro e w8 ⟨rfl, hb8⟩; have HB8 := Lib.hid (bt HB7.out hb8); clear hb8)
      go_ret
      exact ⟨rfl, HB8.out⟩
    · have hinv := (inverse_any m4 N XM fb w6 HM6.out HF6.out).mono (fun e w' (h : _) => show ∃ a' I, e = .returned (.tuple #[.pointer a', .int .i64 0]) ∧ Mx w' a' N N (mat I N N) ∧ mulM XM (mat I N N) N N = mat one N N ∧ mulM (mat I N N) XM N N = mat one N N ∧ Below w6.heap.size w6 w' from by
        rcases h with ⟨hb, ⟨h1, h2⟩ | ⟨h1, a', I, h2, h3, h4, h5⟩⟩
        · exact absurd h1 hdet
        · refine ⟨a', I, h2, h3, mulM_one HM6.out.len HM6.out.wide fun i j hi hj => ?_, mulM_one (length_mat _ _ _) (wide_mat _ _ _) fun i j hi hj => ?_, hb⟩
          · rw [mmul_congr (A' := ent XM) (B' := I) (fun _ _ => rfl) (fun k hk => ent_mat hk hj)]; exact h4 i j hi hj
          · rw [mmul_congr (A' := I) (B' := ent XM) (fun k hk => ent_mat hi hk) (fun _ _ => rfl)]; exact h5 i j hi hj)
      have HINV := Lib.hid hinv
      have hz : (toI (det N (ent XM)) == 0) = false := by rw [beq_eq_false_iff_ne]; exact fun e => hdet (toI_eq_zero.1 e)
      have HZ := Lib.hid hz
      clear hinv hdet hz
      go_upto_region 12 with (go_at_call 25; go_loud (refine HINV.out.mono ?_); rintro e w7 ⟨m7, I, rfl, hm7, hp7, hq7, hb7⟩; have HI7 := Lib.hid hm7; have HE7 := Lib.hid (And.intro hp7 hq7); have HB7 := Lib.hid (bt HB6.out hb7); have HG7 := Lib.hid (HG6.out.on hb7); have HF7 := Lib.hid (HF6.out.below hb7); have HM7 := Lib.hid (HM6.out.on hb7); clear hm7 hp7 hq7 hb7)
      have hdt := rdet_any N (some ⟨B3, 0, none⟩) N XM w7 HG7.out.mat HWX.out (by omega)
      rw [HDL.out] at hdt
      have HDD := Lib.hid hdt
      have hz := HZ.out
      clear hdt
      go_upto_region 14 with (go_at_call 26; go_loud (refine HDD.out.mono ?_); rintro e w8 ⟨rfl, hb8⟩; have HB8 := Lib.hid (bt HB7.out hb8); have HF8 := Lib.hid (HF7.out.below hb8); have HM8 := Lib.hid (HM7.out.on hb8); have HI8 := Lib.hid (HI7.out.on hb8); clear hb8)
      clear hz
      go_upto_region 15 with (go_at_call 27; go_loud (refine (identity_ok N _ (by omega)).mono ?_); rintro e w9 ⟨m9, rfl, hm9, hb9⟩; have HO9 := Lib.hid hm9; have HB9 := Lib.hid (bt HB8.out hb9); have HF9 := Lib.hid (HF8.out.below hb9); have HM9 := Lib.hid (HM8.out.on hb9); have HI9 := Lib.hid (HI8.out.on hb9); clear hm9 hb9)
      go_upto_region 16 with (go_at_call 13; go_loud (refine (mmul_ok m4 N N XM fb m7 N (mat I N N) _ HM9.out HI9.out HF9.out).mono ?_); rintro e w10 ⟨m10, rfl, hm10, hb10⟩; rw [HE7.out.1] at hm10; have HP10 := Lib.hid hm10; have HB10 := Lib.hid (bt HB9.out hb10); have HF10 := Lib.hid (HF9.out.below hb10); have HM10 := Lib.hid (HM9.out.on hb10); have HI10 := Lib.hid (HI9.out.on hb10); have HO10 := Lib.hid (HO9.out.on hb10); clear hm10 hb10)
      go_upto_region 17 with (go_at_call 13; go_loud (refine (mmul_ok m7 N N (mat I N N) fb m4 N XM _ HI10.out HM10.out HF10.out).mono ?_); rintro e w11 ⟨m11, rfl, hm11, hb11⟩; rw [HE7.out.2] at hm11; have HQ11 := Lib.hid hm11; have HB11 := Lib.hid (bt HB10.out hb11); have HP11 := Lib.hid (HP10.out.on hb11); have HO11 := Lib.hid (HO10.out.on hb11); clear hm11 hb11)
      go_wp2_with (first
        | (go_at_call 20; (with_reducible refine (rows_any m10 N N _ w11 HP11.out).mono ?_); rintro e w12 ⟨v12, vs12, rfl, ho12, hv12, hb12⟩; obtain ⟨a12, c12, hav, hm12⟩ := Mat.own ho12 hv12; subst hav; have HR12 := Lib.hid hm12; have HB12 := Lib.hid (bt HB11.out hb12); have HO12 := Lib.hid (HO11.out.on hb12); have HQ12 := Lib.hid (HQ11.out.on hb12); clear hm12 hb12 ho12 hv12)
        | (go_at_call 20; (with_reducible refine (rows_any m9 N N _ w12 HO12.out).mono ?_); rintro e w13 ⟨v13, vs13, rfl, ho13, hv13, hb13⟩; obtain ⟨a13, c13, hav, hm13⟩ := Mat.own ho13 hv13; subst hav; have HR13 := Lib.hid hm13; have HB13 := Lib.hid (bt HB12.out hb13); have HO13 := Lib.hid (HO12.out.on hb13); have HQ13 := Lib.hid (HQ12.out.on hb13); have HS13 := Lib.hid (HR12.out.on hb13); clear hm13 hb13 ho13 hv13)
        | (go_at_call 19; (with_reducible refine (same_any a12 N c12 _ a13 c13 w13 HS13.out HR13.out).mono ?_); rintro e w14 ⟨rfl, hb14⟩; have HB14 := Lib.hid (bt HB13.out hb14); have HO14 := Lib.hid (HO13.out.on hb14); have HQ14 := Lib.hid (HQ13.out.on hb14); clear hb14)
        | (go_at_call 20; (with_reducible refine (rows_any m11 N N _ w14 HQ14.out).mono ?_); rintro e w15 ⟨v15, vs15, rfl, ho15, hv15, hb15⟩; obtain ⟨a15, c15, hav, hm15⟩ := Mat.own ho15 hv15; subst hav; have HR15 := Lib.hid hm15; have HB15 := Lib.hid (bt HB14.out hb15); have HO15 := Lib.hid (HO14.out.on hb15); clear hm15 hb15 ho15 hv15)
        | (go_at_call 20; (with_reducible refine (rows_any m9 N N _ w15 HO15.out).mono ?_); rintro e w16 ⟨v16, vs16, rfl, ho16, hv16, hb16⟩; obtain ⟨a16, c16, hav, hm16⟩ := Mat.own ho16 hv16; subst hav; have HR16 := Lib.hid hm16; have HB16 := Lib.hid (bt HB15.out hb16); have HS16 := Lib.hid (HR15.out.on hb16); clear hm16 hb16 ho16 hv16)
        | (go_at_call 19; (with_reducible refine (same_any a15 N c15 _ a16 c16 w16 HS16.out HR16.out).mono ?_); rintro e w17 ⟨rfl, hb17⟩; have HB17 := Lib.hid (bt HB16.out hb17); clear hb17))
      go_ret
      exact ⟨rfl, HB17.out⟩
  · have qn : ((N : Int) != (K : Int)) = true := by rw [bne_iff_ne]; omega
    have HINV := Lib.hid (inverse_uneq m4 N K XM fb w6 HM6.out hnk)
    clear hnk
    go_wp2_with (go_at_call 25; go_loud (refine HINV.out.mono ?_); rintro e w7 ⟨rfl, hb7⟩; have HB7 := Lib.hid (bt HB6.out hb7); clear hb7)
    go_ret
    exact ⟨rfl, HB7.out⟩
end Go.Proofs.Ytahdkojjhhpcmaa
