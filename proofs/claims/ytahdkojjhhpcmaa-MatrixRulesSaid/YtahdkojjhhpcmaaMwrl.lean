/- The walk of MatrixRules. -/
import Derived.Test.YtahdkojjhhpcmaaMlaw
namespace Go.Proofs.Ytahdkojjhhpcmaa
open Go.ChangeShapes Go.WideShapes Go.ChangeAt Go.RowKit Go.Shelf GF
set_option linter.unusedVariables false
set_option linter.unusedSimpArgs false

set_option maxRecDepth 100000 in
set_option maxHeartbeats 8000000 in
theorem matrixRules_walk (n k c : Int) (a3 : Option Addr) (len3 cap3 : Nat) (a4 : Option Addr) (len4 cap4 : Nat) (a5 : Option Addr) (len5 cap5 : Nat) (w : World) (w0 : (Lit.int .i64 n).wf = true) (w1 : (Lit.int .i64 k).wf = true) (w2 : (Lit.int .i64 c).wf = true) (w3 : ∃ l, Arg8c w a3 len3 cap3 l) (w4 : ∃ l, Arg8c w a4 len4 cap4 l) (w5 : ∃ l, Arg8c w a5 len5 cap5 l) :
    Calls Try.prog 3 #[.int .i64 n, .int .i64 k, .int .i64 c, .slice a3 len3 cap3, .slice a4 len4 cap4, .slice a5 len5 cap5] w fun e w' => e = .returned (.bool true) ∧ Below w.heap.size w w' := by
  obtain ⟨l3, hl3⟩ := w3
  obtain ⟨l4, hl4⟩ := w4
  obtain ⟨l5, hl5⟩ := w5
  have HX := Lib.hid (Pa.of hl3)
  have HY := Lib.hid (Pa.of hl4)
  have HV := Lib.hid (Pa.of hl5)
  obtain ⟨X, hX⟩ : ∃ X, X = gL l3 := ⟨_, rfl⟩
  obtain ⟨Y, hY⟩ : ∃ Y, Y = gL l4 := ⟨_, rfl⟩
  obtain ⟨V, hV⟩ : ∃ V, V = gL l5 := ⟨_, rfl⟩
  rw [← hX] at HX
  rw [← hY] at HY
  rw [← hV] at HV
  clear hX hY hV hl3 hl4 hl5 w0 w1 w2
  obtain ⟨N, hN, hn⟩ := small_one n 8 (by omega) (by omega)
  obtain ⟨K, hK, hk⟩ := small_one k 8 (by omega) (by omega)
  obtain ⟨C, hC, hc⟩ := small_one c 8 (by omega) (by omega)
  have HN := Lib.hid hn
  have HK := Lib.hid hk
  have HC := Lib.hid hc
  clear hn hk hc
  go_enter Try.func3, Try.ntmps3
  go_upto_region 4 with (go_at_call 9; refine (livesM_any _).mono ?_; rintro e w1 ⟨rfl, hb1⟩; have HB1 := Lib.hid hb1; clear hb1)
  rw [HN.out, HK.out, HC.out]
  go_upto_region 5 with (go_at_call 10; refine (new_any _).mono ?_; rintro e w2 ⟨fb, rfl, hb0, hf, hbel⟩; have HF := Lib.hid hf; have HB2 := Lib.hid (bt HB1.out hbel); clear hf hbel hb0)
  go_upto_region 6 with (first
    | (go_at_call 12; go_loud (refine (square_any a3 len3 cap3 X N K _ (HX.out.on HB2.out) (by omega) (by omega)).mono ?_); rintro e w3 ⟨B3, rfl, hg3, hb3⟩; have HG3 := Lib.hid hg3; have HB3 := Lib.hid (bt HB2.out hb3); have HF3 := Lib.hid (HF.out.below hb3); clear hg3 hb3)
    | (go_at_call 11; go_loud (refine (new_ok _ N N K _ _ HG3.out.mat (wide_sqM X K N) (by omega) (by omega)).mono ?_); rintro e w4 ⟨m4, rfl, hm4, hb4⟩; have HM4 := Lib.hid hm4; have HB4 := Lib.hid (bt HB3.out hb4); have HF4 := Lib.hid (HF3.out.below hb4); clear hm4 hb4))
  go_upto_region 7 with (first
    | (go_at_call 12; go_loud (refine (square_any a4 len4 cap4 Y K C _ (HY.out.on HB4.out) (by omega) (by omega)).mono ?_); rintro e w5 ⟨B5, rfl, hg5, hb5⟩; have HG5 := Lib.hid hg5; have HB5 := Lib.hid (bt HB4.out hb5); have HF5 := Lib.hid (HF4.out.below hb5); have HM5 := Lib.hid (HM4.out.on hb5); clear hg5 hb5)
    | (go_at_call 11; go_loud (refine (new_ok _ K K C _ _ HG5.out.mat (wide_sqM Y C K) (by omega) (by omega)).mono ?_); rintro e w6 ⟨m6, rfl, hm6, hb6⟩; have HO6 := Lib.hid hm6; have HB6 := Lib.hid (bt HB5.out hb6); have HF6 := Lib.hid (HF5.out.below hb6); have HM6 := Lib.hid (HM5.out.on hb6); clear hm6 hb6))
  obtain ⟨XM, hXM⟩ : ∃ XM, XM = sqM X K N := ⟨_, rfl⟩
  obtain ⟨YM, hYM⟩ : ∃ YM, YM = sqM Y C K := ⟨_, rfl⟩
  rw [← hXM] at HM6
  rw [← hYM] at HO6
  clear hXM hYM
  go_upto_region 8 with (go_at_call 13; go_loud (refine (mmul_ok m4 N K XM fb m6 C YM _ HM6.out HO6.out HF6.out).mono ?_); rintro e w7 ⟨m7, rfl, hm7, hb7⟩; have HP7 := Lib.hid hm7; have HB7 := Lib.hid (bt HB6.out hb7); have HF7 := Lib.hid (HF6.out.below hb7); have HM7 := Lib.hid (HM6.out.on hb7); have HO7 := Lib.hid (HO6.out.on hb7); clear hm7 hb7)
  go_upto_region 9 with (go_at_call 12; go_loud (refine (square_any a5 len5 cap5 V 1 C _ (HV.out.on HB7.out) (by omega) (by omega)).mono ?_); rintro e w8 ⟨B8, rfl, hg8, hb8⟩; obtain ⟨ar, cr, hcr, hpr, _⟩ := hg8.row (i := 0) (by omega); rw [rw_sqM (by omega), length_sqr] at hcr hpr; have HV8 := Lib.hid hpr; have HB8 := Lib.hid (bt HB7.out hb8); have HF8 := Lib.hid (HF7.out.below hb8); have HM8 := Lib.hid (HM7.out.on hb8); have HO8 := Lib.hid (HO7.out.on hb8); have HP8 := Lib.hid (HP7.out.on hb8); clear hg8 hb8 hpr)
  obtain ⟨V0, hV0⟩ : ∃ V0, V0 = sqr V 0 C C := ⟨_, rfl⟩
  rw [← hV0] at HV8
  clear hV0 hcr
  go_upto_region 10 with (go_at_call 14; go_loud (refine (times_ok m7 N C _ fb ar cr V0 _ HP8.out HF8.out HV8.out).mono ?_); rintro e w9 ⟨g9, rfl, ho9, hb9⟩; have HX9 := Lib.hid (pa_own ho9); have HB9 := Lib.hid (bt HB8.out hb9); have HF9 := Lib.hid (HF8.out.below hb9); have HM9 := Lib.hid (HM8.out.on hb9); have HO9 := Lib.hid (HO8.out.on hb9); have HP9 := Lib.hid (HP8.out.on hb9); have HV9 := Lib.hid (HV8.out.on hb9); clear ho9 hb9)
  go_upto_region 11 with (go_at_call 14; go_loud (refine (times_ok m6 K C _ fb ar cr V0 _ HO9.out HF9.out HV9.out).mono ?_); rintro e w10 ⟨g10, rfl, ho10, hb10⟩; have HY10 := Lib.hid (pa_own ho10); have HB10 := Lib.hid (bt HB9.out hb10); have HF10 := Lib.hid (HF9.out.below hb10); have HM10 := Lib.hid (HM9.out.on hb10); have HO10 := Lib.hid (HO9.out.on hb10); have HP10 := Lib.hid (HP9.out.on hb10); have HX10 := Lib.hid (HX9.out.on hb10); clear ho10 hb10)
  go_upto_region 12 with (go_at_call 14; go_loud (refine (times_ok m4 N K _ fb _ _ _ _ HM10.out HF10.out HY10.out).mono ?_); rintro e w11 ⟨g11, rfl, ho11, hb11⟩; have HZ11 := Lib.hid (pa_own ho11); have HB11 := Lib.hid (bt HB10.out hb11); have HF11 := Lib.hid (HF10.out.below hb11); have HM11 := Lib.hid (HM10.out.on hb11); have HO11 := Lib.hid (HO10.out.on hb11); have HP11 := Lib.hid (HP10.out.on hb11); have HX11 := Lib.hid (HX10.out.on hb11); clear ho11 hb11)
  have hx := HX11.out.strM
  have hz := HZ11.out.strM
  rw [times_mul V0 HM11.out.len HM11.out.wide HO11.out.len HO11.out.wide] at hx
  go_upto_region 14 with (fail)
  clear hx hz
  have hrk := fun (r s t : Nat) (N1 N2 N3 : Nat → Nat → GF) (p1 p2 p3 : Nat → Nat) h1 k1 h2 k2 h3 k3 => rk_mul_le (M := XM) (O := YM) (n := N) (k := K) (m := C) (r := r) (s := s) (t := t) (N := N1) (N2 := N2) (N3 := N3) (p := p1) (p2 := p2) (p3 := p3) HM11.out.len HM11.out.wide h1 k1 h2 k2 h3 k3
  have HRK := Lib.hid hrk
  clear hrk
  go_wp2_with (first
    | (go_at_call 15; go_loud (with_reducible refine (rank_any m7 N C _ fb w11 HP11.out HF11.out).mono ?_); rintro e w12 ⟨t, N3, p3, rfl, hr3, hk3, hb12⟩; have HR3 := Lib.hid (And.intro hr3 hk3); have HB12 := Lib.hid (bt HB11.out hb12); have HF12 := Lib.hid (HF11.out.below hb12); have HM12 := Lib.hid (HM11.out.on hb12); have HO12 := Lib.hid (HO11.out.on hb12); clear hr3 hk3 hb12)
    | (go_at_call 15; go_loud (with_reducible refine (rank_any m4 N K _ fb w12 HM12.out HF12.out).mono ?_); rintro e w13 ⟨r, N1, p1, rfl, hr1, hk1, hb13⟩; have HR1 := Lib.hid (And.intro hr1 hk1); have HB13 := Lib.hid (bt HB12.out hb13); have HF13 := Lib.hid (HF12.out.below hb13); have HM13 := Lib.hid (HM12.out.on hb13); have HO13 := Lib.hid (HO12.out.on hb13); clear hr1 hk1 hb13)
    | (go_at_call 15; go_loud (with_reducible refine (rank_any m6 K C _ fb w13 HO13.out HF13.out).mono ?_); go_loud (rintro e w14 ⟨s, N2, p2, rfl, hr2, hk2, hb14⟩); go_loud (have hle := HRK.out r s t N1 N2 N3 p1 p2 p3 HR1.out.1 HR1.out.2 hr2 hk2 HR3.out.1 HR3.out.2); go_loud (have hl1 : (t : Int) ≤ (r : Int) := by omega); go_loud (have hl2 : (t : Int) ≤ (s : Int) := by omega); go_loud (have HB14 := Lib.hid (bt HB13.out hb14)); clear hr2 hk2 hb14 hle)
    | (go_at_call 15; go_loud (with_reducible refine (rank_nofield m4 _).mono ?_); rintro e w' ⟨rfl, rfl⟩))
  all_goals
    go_ret
    exact ⟨rfl, HB14.out⟩
end Go.Proofs.Ytahdkojjhhpcmaa
