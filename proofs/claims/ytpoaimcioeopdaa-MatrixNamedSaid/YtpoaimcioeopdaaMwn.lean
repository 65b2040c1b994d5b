/- The walk of MatrixNamed (written by gen16.py). -/
import Derived.Test.YtpoaimcioeopdaaMunl
import Derived.Test.YtpoaimcioeopdaaMinv
import Derived.Test.YtpoaimcioeopdaaMlaw
namespace Go.Proofs.Ytpoaimcioeopdaa
open Go.ChangeShapes Go.WideShapes Go.ChangeAt Go.RowKit Go.Shelf GF
set_option linter.unusedVariables false
set_option linter.unusedSimpArgs false

theorem iL_app (X Y : List GF) : iL (X ++ Y) = iL X ++ iL Y := by simp [iL]
open Classical in
theorem unl1_is (b : Bool) (L : Nat) (X : List GF) (h : decide (Apart X) = b) (W : World) (a : Option Addr) (c : Nat) (hp : Pa W a L c X) :
    Calls Try.prog 18 #[.slice a L c] W fun e w' => e = .returned (.bool b) ∧ Below W.heap.size W w' :=
  (unl1_any a L c X W hp).mono fun e w' ⟨h1, h2⟩ => ⟨by rw [h1, h], h2⟩
theorem det_mat (n : Nat) (F : Nat → Nat → GF) : det n (ent (mat F n n)) = det n F := det_congr fun i hi c hc => ent_mat hi hc
theorem inv_is (b : Bool) (a : Option Addr) (n : Nat) (F : Nat → Nat → GF) (fb : Nat) (w : World) (h : Mx w a n n (mat F n n)) (hf : Fld w fb) (hb : decide (det n F = 0) = b) :
    Calls Try.prog 19 #[.pointer a, .pointer (some ⟨fb, 0, none⟩)] w fun e w' => ∃ a', e = .returned (.tuple #[.pointer a', .int .i64 (if b then 7 else 0)]) ∧ Below w.heap.size w w' := by
  refine (inverse_any a n _ fb w h hf).mono fun e w' hr => ?_
  rw [det_mat] at hr
  rcases hr with ⟨hbl, ⟨h1, h2⟩ | ⟨h1, a', N, h2, _⟩⟩
  · have : b = true := by rw [← hb]; exact decide_eq_true h1
    exact ⟨none, by rw [h2, this]; rfl, hbl⟩
  · have : b = false := by rw [← hb]; exact decide_eq_false h1
    exact ⟨a', by rw [h2, this]; rfl, hbl⟩
set_option maxRecDepth 100000 in
set_option maxHeartbeats 1000000 in
theorem named_out (a : Option Addr) (L c : Nat) (a2 : Option Addr) (L2 c2 : Nat) (n : Int) (w : World) (hL : L ≤ 9223372036854775807) (hL2 : L2 ≤ 9223372036854775807) (ho : 20 < L ∨ 20 < L2) :
    Calls Try.prog 4 #[.slice a L c, .slice a2 L2 c2, .int .i64 n] w fun e w' => e = .returned (.bool true) ∧ Below w.heap.size w w' := by
  by_cases h1 : 20 < L
  · have q1 : (20 : Int) < (L : Int) := by omega
    clear ho
    go_enter Try.func4, Try.ntmps4
    go_upto_region 2 with (go_at_call 8; refine (livesM_any _).mono ?_; rintro e w1 ⟨rfl, hb1⟩; have HB1 := Lib.hid hb1; clear hb1)
    go_wp2_with (go_at_call 8; refine (livesM_any _).mono ?_; rintro e w2 ⟨rfl, hb2⟩; have HB2 := Lib.hid (bt HB1.out hb2); clear hb2)
    go_ret
    exact ⟨rfl, HB2.out⟩
  · have q1 : ¬ (20 : Int) < (L : Int) := by omega
    have q2 : (20 : Int) < (L2 : Int) := by omega
    clear ho
    go_enter Try.func4, Try.ntmps4
    go_upto_region 2 with (go_at_call 8; refine (livesM_any _).mono ?_; rintro e w1 ⟨rfl, hb1⟩; have HB1 := Lib.hid hb1; clear hb1)
    go_wp2_with (go_at_call 8; refine (livesM_any _).mono ?_; rintro e w2 ⟨rfl, hb2⟩; have HB2 := Lib.hid (bt HB1.out hb2); clear hb2)
    go_ret
    exact ⟨rfl, HB2.out⟩
set_option maxRecDepth 100000 in
set_option maxHeartbeats 4000000 in
open Classical in
theorem named_zero (a : Option Addr) (L c : Nat) (X : List GF) (a2 : Option Addr) (L2 c2 : Nat) (Y : List GF) (n : Int) (m : Nat) (w : World) (hx : Pa w a L c X) (hy : Pa w a2 L2 c2 Y) (hL : L ≤ 20) (hL2 : L2 ≤ 20) (hn : wrap64 ((IntKind.u64.wrap n).tmod 70) = (m : Int)) (hm : m < 70) (hc : ¬ 1 ≤ L) :
    Calls Try.prog 4 #[.slice a L c, .slice a2 L2 c2, .int .i64 n] w fun e w' => e = .returned (.bool true) ∧ Below w.heap.size w w' := by
  have HX := Lib.hid hx
  have HY := Lib.hid hy
  have HLX := Lib.hid hx.len
  have HLY := Lib.hid hy.len
  have hbx := hx.bd
  have hby := hy.bd
  have HN := Lib.hid hn
  clear hn
  obtain ⟨i5, hi5, hz0, hz1, hz2⟩ := info_parts info5
  have HI := Lib.hid (And.intro hi5 (And.intro hz0 (And.intro hz1 hz2)))
  have q1 : ¬ (20 : Int) < (L : Int) := by omega
  have q2 : ¬ (20 : Int) < (L2 : Int) := by omega
  clear hx hy hi5 hz0 hz1 hz2
  go_enter Try.func4, Try.ntmps4
  go_upto_region 5 with (first
    | (go_at_call 8; refine (livesM_any _).mono ?_; rintro e w1 ⟨rfl, hb1⟩; have HB1 := Lib.hid hb1; clear hb1)
    | (go_at_call 9; refine (new_any _).mono ?_; rintro e w2 ⟨fb, rfl, hb0, hf, hbel⟩; have HF2 := Lib.hid hf; have HB2 := Lib.hid (bt HB1.out hbel); clear hf hbel hb0))
  rw [HN.out]
  have HV := Lib.hid (vandermonde_nofit fb a L c (m : Int) w2 (by omega) (.inl (by omega)) (by omega))
  have qx : ((L : Int) == 0) = true := by rw [beq_iff_eq]; omega
  have qx2 : ¬ (0 : Int) < (L : Int) := by omega
  have HC := Lib.hid (fun W => cauchy_nofit fb a L c a2 L2 c2 W (by omega) (by omega) (.inl (by omega)))
  clear hc
  go_upto_region 7 with (go_at_call 15; go_loud (refine HV.out.mono ?_); rintro e w3 ⟨rfl, hb3⟩; have HB3 := Lib.hid (bt HB2.out hb3); have HF3 := Lib.hid (HF2.out.below hb3); clear hb3)
  go_upto_region 10 with (go_at_call 16; refine (rows_nil _).mono ?_; rintro e w' ⟨rfl, rfl⟩)
  refine wp_loop_rounds 1 ?_
  rw [rounds_succ]
  go_wp2_with (go_at_call 20; go_loud (refine (HC.out _).mono ?_); rintro e w14 ⟨rfl, hb14⟩; have HB14 := Lib.hid (bt HB3.out hb14); clear hb14)
  go_ret
  exact ⟨rfl, HB14.out⟩
set_option maxRecDepth 100000 in
set_option maxHeartbeats 4000000 in
open Classical in
theorem named_few (a : Option Addr) (L c : Nat) (X : List GF) (a2 : Option Addr) (L2 c2 : Nat) (Y : List GF) (n : Int) (m : Nat) (w : World) (hx : Pa w a L c X) (hy : Pa w a2 L2 c2 Y) (hL : L ≤ 20) (hL2 : L2 ≤ 20) (hn : wrap64 ((IntKind.u64.wrap n).tmod 70) = (m : Int)) (hm : m < 70) (h1 : 1 ≤ L) (hc : ¬ 1 ≤ m) :
    Calls Try.prog 4 #[.slice a L c, .slice a2 L2 c2, .int .i64 n] w fun e w' => e = .returned (.bool true) ∧ Below w.heap.size w w' := by
  have HX := Lib.hid hx
  have HY := Lib.hid hy
  have HLX := Lib.hid hx.len
  have HLY := Lib.hid hy.len
  have hbx := hx.bd
  have hby := hy.bd
  have HN := Lib.hid hn
  clear hn
  obtain ⟨i5, hi5, hz0, hz1, hz2⟩ := info_parts info5
  have HI := Lib.hid (And.intro hi5 (And.intro hz0 (And.intro hz1 hz2)))
  have q1 : ¬ (20 : Int) < (L : Int) := by omega
  have q2 : ¬ (20 : Int) < (L2 : Int) := by omega
  clear hx hy hi5 hz0 hz1 hz2
  go_enter Try.func4, Try.ntmps4
  go_upto_region 5 with (first
    | (go_at_call 8; refine (livesM_any _).mono ?_; rintro e w1 ⟨rfl, hb1⟩; have HB1 := Lib.hid hb1; clear hb1)
    | (go_at_call 9; refine (new_any _).mono ?_; rintro e w2 ⟨fb, rfl, hb0, hf, hbel⟩; have HF2 := Lib.hid hf; have HB2 := Lib.hid (bt HB1.out hbel); clear hf hbel hb0))
  rw [HN.out]
  have HV := Lib.hid (vandermonde_nofit fb a L c (m : Int) w2 (by omega) (.inr (.inl (by omega))) (by omega))
  have qx : ((L : Int) == 0) = false := by rw [beq_eq_false_iff_ne]; omega
  have qx2 : (0 : Int) < (L : Int) := by omega
  have qm : (m : Int) < 1 := by omega
  clear hc
  go_upto_region 7 with (go_at_call 15; go_loud (refine HV.out.mono ?_); rintro e w3 ⟨rfl, hb3⟩; have HB3 := Lib.hid (bt HB2.out hb3); have HF3 := Lib.hid (HF2.out.below hb3); clear hb3)
  go_upto_region 10 with (go_at_call 16; refine (rows_nil _).mono ?_; rintro e w' ⟨rfl, rfl⟩)
  refine wp_loop_rounds 1 ?_
  rw [rounds_succ]
  have HV2 := Lib.hid (vandermonde_ok fb a L c L X w3 HF3.out (HX.out.on HB3.out) (by omega) (by omega))
  go_upto_region 23 with (go_at_call 15; go_loud (refine HV2.out.mono ?_); rintro e w11 ⟨a11, rfl, hm11, hb11⟩; have HM11 := Lib.hid hm11; have HB11 := Lib.hid (bt HB3.out hb11); have HF11 := Lib.hid (HF3.out.below hb11); clear hm11 hb11)
  by_cases hap : Apart X
  · have HAP := Lib.hid hap
    have HI12 := Lib.hid (inv_is false a11 L (vdm X) fb w11 HM11.out HF11.out (decide_eq_false (by rw [← HLX.out]; exact (vdm_iff X).2 hap)))
    clear hap
    go_upto_region 24 with (go_at_call 19; go_loud (refine HI12.out.mono ?_); rintro e w12 ⟨a12, rfl, hb12⟩; have HB12 := Lib.hid (bt HB11.out hb12); have HF12 := Lib.hid (HF11.out.below hb12); clear hb12)
    go_upto_region 26 with (go_at_call 18; go_loud (refine (unl1_is true L X (decide_eq_true HAP.out) _ a c (HX.out.on HB12.out)).mono ?_); rintro e w13 ⟨rfl, hb13⟩; have HB13 := Lib.hid (bt HB12.out hb13); have HF13 := Lib.hid (HF12.out.below hb13); clear hb13)
    by_cases h0 : L2 = 0
    · have h00 : ¬ 1 ≤ L2 := by omega
      have qy : ((L2 : Int) == 0) = true := by rw [beq_iff_eq]; omega
      have hz := h0
      clear h0
      have HC := Lib.hid (cauchy_nofit fb a L c a2 L2 c2 w13 (by omega) (by omega) (.inr hz))
      clear hz
      go_wp2_with (go_at_call 20; go_loud (refine HC.out.mono ?_); rintro e w14 ⟨rfl, hb14⟩; have HB14 := Lib.hid (bt HB13.out hb14); clear hb14)
      go_ret
      exact ⟨rfl, HB14.out⟩
    · have qy : ((L2 : Int) == 0) = false := by rw [beq_eq_false_iff_ne]; omega
      by_cases hxy : Apart (X ++ Y)
      · have HXY := Lib.hid hxy
        clear hxy
        have HC := Lib.hid (cauchy_ok fb a L c X a2 L2 c2 Y w13 HF13.out (HX.out.on HB13.out) (HY.out.on HB13.out) (by omega) (by omega) HXY.out)
        go_upto_region 27 with (go_at_call 20; go_loud (refine HC.out.mono ?_); rintro e w14 ⟨a14, rfl, hm14, hb14⟩; have HM14 := Lib.hid hm14; have HB14 := Lib.hid (bt HB13.out hb14); have HF14 := Lib.hid (HF13.out.below hb14); clear hm14 hb14)
        go_upto_region 29 with (fail)
        have HK15 := Lib.hid ((Below.refl w14.heap.size w14).alloc (Nat.le_refl _) (.cells #[] 5))
        go_wp2_with (((with_reducible show wpList _ _ _ (⟨some 148, _, _, _, _, _⟩ :: _) _ _); (refine wpList_append_bs _ rfl (.tmp 146) (.tmp 147) 22 rfl w14.heap.size 5 i5 Try.underlying22 HI.out.1 HI.out.2.1 HI.out.2.2.1 HI.out.2.2.2 _ 0 [] rfl (own_empty w14 _) a L c _ (iL X) rfl (HX.out.on (bt HB14.out HK15.out)).1.2.2.1 HX.out.1.1 HX.out.2 (by omega) (by simp) ?_)))
        intro v1 w16 hown1 hg1
        try rw [Nat.zero_add, List.nil_append] at hown1
        obtain ⟨ac, cc, rfl, _⟩ := own_form hown1
        have HO16 := Lib.hid hown1
        have HK16 := Lib.hid (HK15.out.grown hg1 (by simp) (own_block_le _ _ _))
        have HW16 := Lib.hid (show w14.heap.size ≤ w16.heap.size from Nat.le_trans (by simp) hg1.size)
        clear hown1 hg1
        go_wp2_with ((with_reducible show wpList _ _ _ (⟨some 150, _, _, _, _, _⟩ :: _) _ _); refine wpList_append_bs _ rfl (.tmp 148) (.tmp 149) 22 rfl w14.heap.size 5 i5 Try.underlying22 HI.out.1 HI.out.2.1 HI.out.2.2.1 HI.out.2.2.2 _ L (iL X) rfl HO16.out a2 L2 c2 _ (iL Y) rfl (HY.out.on (bt HB14.out HK16.out)).1.2.2.1 HY.out.1.1 HY.out.2 (by omega) HW16.out ?_)
        intro v1 w17 hown1 hg1
        first | rw [← iL_app] at hown1 | (rw [← List.map_append, ← iL_app] at hown1)
        obtain ⟨ac2, cc2, hv2, hpa, _⟩ := Pa.own hown1
        subst hv2
        have HP17 := Lib.hid hpa
        have HK17 := Lib.hid (HK16.out.grown hg1 HW16.out (fun z hz => (HO16.out.lt z hz).1))
        clear hown1 hg1 hpa
        go_upto_region 30 with (go_at_call 18; refine (unl1_is true (L + L2) (X ++ Y) (decide_eq_true HXY.out) _ ac2 cc2 HP17.out).mono ?_; rintro e w18 ⟨rfl, hb18⟩; have HK18 := Lib.hid (bt HK17.out hb18); have HB18 := Lib.hid (bt HB14.out HK18.out); clear hb18)
        have HM18 := Lib.hid (HM14.out.on HK18.out)
        have HF18 := Lib.hid (HF14.out.below HK18.out)
        go_upto_region 32 with (go_at_call 16; go_loud (refine (rows_any a14 L L2 _ w18 HM18.out).mono ?_); rintro e w19 ⟨v19, vs19, rfl, ho19, hv19, hb19⟩; obtain ⟨a19, c19, hav, hr19⟩ := Mat.own ho19 hv19; subst hav; have HR19 := Lib.hid hr19; have HB19 := Lib.hid (bt HB18.out hb19); have HM19 := Lib.hid (HM18.out.on hb19); have HF19 := Lib.hid (HF18.out.below hb19); clear ho19 hv19 hr19 hb19)
        have hbd19 := HR19.out.bd
        go_loopw [162] (fun s wr => ∃ i : Nat, i ≤ L ∧ s = .int .i64 (i : Nat) ∧ Below w19.heap.size w19 wr) (fun s _ => L - (intOf s).toNat)
        case atStart => exact ⟨0, Nat.zero_le _, rfl, Below.refl _ _⟩
        case round =>
          obtain ⟨i, hi, rfl, hBi⟩ := hrel
          have HBI := Lib.hid hBi
          clear hBi
          by_cases hlt : i < L
          · obtain ⟨b, off, ai, ci, rfl, hb, hcell0, hpa⟩ := HR19.out.row hlt
            rw [rw_mat hlt, length_fl] at hcell0 hpa
            rename World => w20
            have hcell := (HBI.out.cell (p := ⟨b, off + i, none⟩) hb).trans hcell0
            have HPA := Lib.hid hpa
            have hbp := hpa.bd
            have qi : (i : Int) < (L : Int) := by omega
            have qi0 : (0 : Int) ≤ (i : Int) := by omega
            clear hcell0 hpa
            go_wp2
            go_loopw [169] (fun s wr => ∃ k : Nat, k ≤ L2 ∧ s = .int .i64 (k : Nat) ∧ Below w19.heap.size w19 wr) (fun s _ => L2 - (intOf s).toNat)
            case atStart => exact ⟨0, Nat.zero_le _, rfl, HBI.out⟩
            case round =>
              obtain ⟨k, hk, rfl, hBk⟩ := hrel
              by_cases hlk : k < L2
              · obtain ⟨br, offr, rfl, hbr, hcr⟩ := (HPA.out.on hBk).at_ hlk
                obtain ⟨bx, offx, rfl, hbx, hcx⟩ := (HX.out.on (bt HB19.out hBk)).at_ hlt
                obtain ⟨by_, offy, rfl, hby, hcy⟩ := (HY.out.on (bt HB19.out hBk)).at_ hlk
                rw [co_fl, if_pos hlk] at hcr
                have qk : (k : Int) < (L2 : Int) := by omega
                have qk0 : (0 : Int) ≤ (k : Int) := by omega
                have hxor : bits .xor .u8 (toI (co X i)) (toI (co Y k)) = toI (co X i + co Y k) := u8_xor _ _ (toI_bd _).1 (toI_bd _).2 (toI_bd _).1 (toI_bd _).2
                have HINV := Lib.hid (fun q W => show Calls Try.prog _ _ _ _ from rinv_G (co X i + co Y k) (World.drewN W q))
                have HBK := Lib.hid hBk
                have hcr2 : _ = some (Value.int .u8 (toI (GF.inv (co X i + co Y k)))) := hcr
                clear hcr hBk
                go_wp2_with fail
                go_quiet ((go_at_call 21; exact Calls.quiet_of_same ((HINV.out _ _).mono fun _ _ ⟨he, hw⟩ => ⟨he, hw.symm⟩)))
                go_wp2
                go_roundw
                case rel => exact ⟨k + 1, by omega, by go_num, below_drewN HBK.out _⟩
                case measure => simp [intOf]; omega
              · obtain rfl : L2 = k := by omega
                have HBK := Lib.hid hBk
                clear hBk
                go_wp2
                go_roundw
                case rel => exact ⟨i + 1, by omega, by go_num, HBK.out⟩
                case measure => simp [intOf]; omega
          · obtain rfl : L = i := by omega
            rename World => w20
            by_cases hll : L = L2
            · have HA := Lib.hid (apart_parts HXY.out)
              have HI21 := Lib.hid (inv_is false a14 L (cau X Y) fb w20 (by have h := HM19.out.on HBI.out; rw [← hll] at h; exact h) (HF19.out.below HBI.out) (decide_eq_false (by have h := cau_det (by rw [HLX.out, HLY.out, hll]) HA.out.1 HA.out.2.1 HA.out.2.2; rw [HLX.out] at h; exact h)))
              have qll : ((L : Int) == (L2 : Int)) = true := by rw [beq_iff_eq]; omega
              clear hll
              go_wp2_with (go_at_call 19; go_loud (refine HI21.out.mono ?_); rintro e w21 ⟨a21, rfl, hb21⟩; have HB21 := Lib.hid (bt (bt HB19.out HBI.out) hb21); clear hb21)
              go_ret
              exact ⟨rfl, HB21.out⟩
            · have HI21 := Lib.hid (inverse_uneq a14 L L2 _ fb w20 (HM19.out.on HBI.out) hll)
              have qll : ((L : Int) == (L2 : Int)) = false := by rw [beq_eq_false_iff_ne]; omega
              clear hll
              go_wp2_with (go_at_call 19; go_loud (refine HI21.out.mono ?_); rintro e w21 ⟨rfl, hb21⟩; have HB21 := Lib.hid (bt (bt HB19.out HBI.out) hb21); clear hb21)
              go_ret
              exact ⟨rfl, HB21.out⟩
      · have HXY := Lib.hid hxy
        clear hxy
        have HC := Lib.hid (cauchy_same fb a L c X a2 L2 c2 Y w13 HF13.out (HX.out.on HB13.out) (HY.out.on HB13.out) (by omega) (by omega) HXY.out)
        go_upto_region 27 with (go_at_call 20; go_loud (refine HC.out.mono ?_); rintro e w14 ⟨rfl, hb14⟩; have HB14 := Lib.hid (bt HB13.out hb14); clear hb14)
        go_upto_region 29 with (fail)
        have HK15 := Lib.hid ((Below.refl w14.heap.size w14).alloc (Nat.le_refl _) (.cells #[] 5))
        go_wp2_with (((with_reducible show wpList _ _ _ (⟨some 148, _, _, _, _, _⟩ :: _) _ _); (refine wpList_append_bs _ rfl (.tmp 146) (.tmp 147) 22 rfl w14.heap.size 5 i5 Try.underlying22 HI.out.1 HI.out.2.1 HI.out.2.2.1 HI.out.2.2.2 _ 0 [] rfl (own_empty w14 _) a L c _ (iL X) rfl (HX.out.on (bt HB14.out HK15.out)).1.2.2.1 HX.out.1.1 HX.out.2 (by omega) (by simp) ?_)))
        intro v1 w16 hown1 hg1
        try rw [Nat.zero_add, List.nil_append] at hown1
        obtain ⟨ac, cc, rfl, _⟩ := own_form hown1
        have HO16 := Lib.hid hown1
        have HK16 := Lib.hid (HK15.out.grown hg1 (by simp) (own_block_le _ _ _))
        have HW16 := Lib.hid (show w14.heap.size ≤ w16.heap.size from Nat.le_trans (by simp) hg1.size)
        clear hown1 hg1
        go_wp2_with ((with_reducible show wpList _ _ _ (⟨some 150, _, _, _, _, _⟩ :: _) _ _); refine wpList_append_bs _ rfl (.tmp 148) (.tmp 149) 22 rfl w14.heap.size 5 i5 Try.underlying22 HI.out.1 HI.out.2.1 HI.out.2.2.1 HI.out.2.2.2 _ L (iL X) rfl HO16.out a2 L2 c2 _ (iL Y) rfl (HY.out.on (bt HB14.out HK16.out)).1.2.2.1 HY.out.1.1 HY.out.2 (by omega) HW16.out ?_)
        intro v1 w17 hown1 hg1
        first | rw [← iL_app] at hown1 | (rw [← List.map_append, ← iL_app] at hown1)
        obtain ⟨ac2, cc2, hv2, hpa, _⟩ := Pa.own hown1
        subst hv2
        have HP17 := Lib.hid hpa
        have HK17 := Lib.hid (HK16.out.grown hg1 HW16.out (fun z hz => (HO16.out.lt z hz).1))
        clear hown1 hg1 hpa
        go_upto_region 30 with (go_at_call 18; refine (unl1_is false (L + L2) (X ++ Y) (decide_eq_false HXY.out) _ ac2 cc2 HP17.out).mono ?_; rintro e w18 ⟨rfl, hb18⟩; have HK18 := Lib.hid (bt HK17.out hb18); have HB18 := Lib.hid (bt HB14.out HK18.out); clear hb18)
        go_wp2
        go_ret
        exact ⟨rfl, HB18.out⟩
  · have HAP := Lib.hid hap
    have HI12 := Lib.hid (inv_is true a11 L (vdm X) fb w11 HM11.out HF11.out (decide_eq_true (Classical.not_not.1 fun h => hap ((vdm_iff X).1 (by rw [HLX.out]; exact h)))))
    clear hap
    go_upto_region 24 with (go_at_call 19; go_loud (refine HI12.out.mono ?_); rintro e w12 ⟨a12, rfl, hb12⟩; have HB12 := Lib.hid (bt HB11.out hb12); have HF12 := Lib.hid (HF11.out.below hb12); clear hb12)
    go_upto_region 26 with (go_at_call 18; go_loud (refine (unl1_is false L X (decide_eq_false HAP.out) _ a c (HX.out.on HB12.out)).mono ?_); rintro e w13 ⟨rfl, hb13⟩; have HB13 := Lib.hid (bt HB12.out hb13); have HF13 := Lib.hid (HF12.out.below hb13); clear hb13)
    by_cases h0 : L2 = 0
    · have h00 : ¬ 1 ≤ L2 := by omega
      have qy : ((L2 : Int) == 0) = true := by rw [beq_iff_eq]; omega
      have hz := h0
      clear h0
      have HC := Lib.hid (cauchy_nofit fb a L c a2 L2 c2 w13 (by omega) (by omega) (.inr hz))
      clear hz
      go_wp2_with (go_at_call 20; go_loud (refine HC.out.mono ?_); rintro e w14 ⟨rfl, hb14⟩; have HB14 := Lib.hid (bt HB13.out hb14); clear hb14)
      go_ret
      exact ⟨rfl, HB14.out⟩
    · have qy : ((L2 : Int) == 0) = false := by rw [beq_eq_false_iff_ne]; omega
      have HXY := Lib.hid (show ¬ Apart (X ++ Y) from fun h => HAP.out (apart_parts h).1)
      have HC := Lib.hid (cauchy_same fb a L c X a2 L2 c2 Y w13 HF13.out (HX.out.on HB13.out) (HY.out.on HB13.out) (by omega) (by omega) HXY.out)
      go_upto_region 27 with (go_at_call 20; go_loud (refine HC.out.mono ?_); rintro e w14 ⟨rfl, hb14⟩; have HB14 := Lib.hid (bt HB13.out hb14); clear hb14)
      go_upto_region 29 with (fail)
      have HK15 := Lib.hid ((Below.refl w14.heap.size w14).alloc (Nat.le_refl _) (.cells #[] 5))
      go_wp2_with (((with_reducible show wpList _ _ _ (⟨some 148, _, _, _, _, _⟩ :: _) _ _); (refine wpList_append_bs _ rfl (.tmp 146) (.tmp 147) 22 rfl w14.heap.size 5 i5 Try.underlying22 HI.out.1 HI.out.2.1 HI.out.2.2.1 HI.out.2.2.2 _ 0 [] rfl (own_empty w14 _) a L c _ (iL X) rfl (HX.out.on (bt HB14.out HK15.out)).1.2.2.1 HX.out.1.1 HX.out.2 (by omega) (by simp) ?_)))
      intro v1 w16 hown1 hg1
      try rw [Nat.zero_add, List.nil_append] at hown1
      obtain ⟨ac, cc, rfl, _⟩ := own_form hown1
      have HO16 := Lib.hid hown1
      have HK16 := Lib.hid (HK15.out.grown hg1 (by simp) (own_block_le _ _ _))
      have HW16 := Lib.hid (show w14.heap.size ≤ w16.heap.size from Nat.le_trans (by simp) hg1.size)
      clear hown1 hg1
      go_wp2_with ((with_reducible show wpList _ _ _ (⟨some 150, _, _, _, _, _⟩ :: _) _ _); refine wpList_append_bs _ rfl (.tmp 148) (.tmp 149) 22 rfl w14.heap.size 5 i5 Try.underlying22 HI.out.1 HI.out.2.1 HI.out.2.2.1 HI.out.2.2.2 _ L (iL X) rfl HO16.out a2 L2 c2 _ (iL Y) rfl (HY.out.on (bt HB14.out HK16.out)).1.2.2.1 HY.out.1.1 HY.out.2 (by omega) HW16.out ?_)
      intro v1 w17 hown1 hg1
      first | rw [← iL_app] at hown1 | (rw [← List.map_append, ← iL_app] at hown1)
      obtain ⟨ac2, cc2, hv2, hpa, _⟩ := Pa.own hown1
      subst hv2
      have HP17 := Lib.hid hpa
      have HK17 := Lib.hid (HK16.out.grown hg1 HW16.out (fun z hz => (HO16.out.lt z hz).1))
      clear hown1 hg1 hpa
      go_upto_region 30 with (go_at_call 18; refine (unl1_is false (L + L2) (X ++ Y) (decide_eq_false HXY.out) _ ac2 cc2 HP17.out).mono ?_; rintro e w18 ⟨rfl, hb18⟩; have HK18 := Lib.hid (bt HK17.out hb18); have HB18 := Lib.hid (bt HB14.out HK18.out); clear hb18)
      go_wp2
      go_ret
      exact ⟨rfl, HB18.out⟩
set_option maxRecDepth 100000 in
set_option maxHeartbeats 4000000 in
open Classical in
theorem named_many (a : Option Addr) (L c : Nat) (X : List GF) (a2 : Option Addr) (L2 c2 : Nat) (Y : List GF) (n : Int) (m : Nat) (w : World) (hx : Pa w a L c X) (hy : Pa w a2 L2 c2 Y) (hL : L ≤ 20) (hL2 : L2 ≤ 20) (hn : wrap64 ((IntKind.u64.wrap n).tmod 70) = (m : Int)) (hm : m < 70) (h1 : 1 ≤ L) (hc : 64 < m) :
    Calls Try.prog 4 #[.slice a L c, .slice a2 L2 c2, .int .i64 n] w fun e w' => e = .returned (.bool true) ∧ Below w.heap.size w w' := by
  have HX := Lib.hid hx
  have HY := Lib.hid hy
  have HLX := Lib.hid hx.len
  have HLY := Lib.hid hy.len
  have hbx := hx.bd
  have hby := hy.bd
  have HN := Lib.hid hn
  clear hn
  obtain ⟨i5, hi5, hz0, hz1, hz2⟩ := info_parts info5
  have HI := Lib.hid (And.intro hi5 (And.intro hz0 (And.intro hz1 hz2)))
  have q1 : ¬ (20 : Int) < (L : Int) := by omega
  have q2 : ¬ (20 : Int) < (L2 : Int) := by omega
  clear hx hy hi5 hz0 hz1 hz2
  go_enter Try.func4, Try.ntmps4
  go_upto_region 5 with (first
    | (go_at_call 8; refine (livesM_any _).mono ?_; rintro e w1 ⟨rfl, hb1⟩; have HB1 := Lib.hid hb1; clear hb1)
    | (go_at_call 9; refine (new_any _).mono ?_; rintro e w2 ⟨fb, rfl, hb0, hf, hbel⟩; have HF2 := Lib.hid hf; have HB2 := Lib.hid (bt HB1.out hbel); clear hf hbel hb0))
  rw [HN.out]
  have HV := Lib.hid (vandermonde_nofit fb a L c (m : Int) w2 (by omega) (.inr (.inr (by omega))) (by omega))
  have qx : ((L : Int) == 0) = false := by rw [beq_eq_false_iff_ne]; omega
  have qx2 : (0 : Int) < (L : Int) := by omega
  have qm : ¬ (m : Int) < 1 := by omega
  have qm2 : (64 : Int) < (m : Int) := by omega
  clear hc
  go_upto_region 7 with (go_at_call 15; go_loud (refine HV.out.mono ?_); rintro e w3 ⟨rfl, hb3⟩; have HB3 := Lib.hid (bt HB2.out hb3); have HF3 := Lib.hid (HF2.out.below hb3); clear hb3)
  go_upto_region 10 with (go_at_call 16; refine (rows_nil _).mono ?_; rintro e w' ⟨rfl, rfl⟩)
  refine wp_loop_rounds 1 ?_
  rw [rounds_succ]
  have HV2 := Lib.hid (vandermonde_ok fb a L c L X w3 HF3.out (HX.out.on HB3.out) (by omega) (by omega))
  go_upto_region 23 with (go_at_call 15; go_loud (refine HV2.out.mono ?_); rintro e w11 ⟨a11, rfl, hm11, hb11⟩; have HM11 := Lib.hid hm11; have HB11 := Lib.hid (bt HB3.out hb11); have HF11 := Lib.hid (HF3.out.below hb11); clear hm11 hb11)
  by_cases hap : Apart X
  · have HAP := Lib.hid hap
    have HI12 := Lib.hid (inv_is false a11 L (vdm X) fb w11 HM11.out HF11.out (decide_eq_false (by rw [← HLX.out]; exact (vdm_iff X).2 hap)))
    clear hap
    go_upto_region 24 with (go_at_call 19; go_loud (refine HI12.out.mono ?_); rintro e w12 ⟨a12, rfl, hb12⟩; have HB12 := Lib.hid (bt HB11.out hb12); have HF12 := Lib.hid (HF11.out.below hb12); clear hb12)
    go_upto_region 26 with (go_at_call 18; go_loud (refine (unl1_is true L X (decide_eq_true HAP.out) _ a c (HX.out.on HB12.out)).mono ?_); rintro e w13 ⟨rfl, hb13⟩; have HB13 := Lib.hid (bt HB12.out hb13); have HF13 := Lib.hid (HF12.out.below hb13); clear hb13)
    by_cases h0 : L2 = 0
    · have h00 : ¬ 1 ≤ L2 := by omega
      have qy : ((L2 : Int) == 0) = true := by rw [beq_iff_eq]; omega
      have hz := h0
      clear h0
      have HC := Lib.hid (cauchy_nofit fb a L c a2 L2 c2 w13 (by omega) (by omega) (.inr hz))
      clear hz
      go_wp2_with (go_at_call 20; go_loud (refine HC.out.mono ?_); rintro e w14 ⟨rfl, hb14⟩; have HB14 := Lib.hid (bt HB13.out hb14); clear hb14)
      go_ret
      exact ⟨rfl, HB14.out⟩
    · have qy : ((L2 : Int) == 0) = false := by rw [beq_eq_false_iff_ne]; omega
      by_cases hxy : Apart (X ++ Y)
      · have HXY := Lib.hid hxy
        clear hxy
        have HC := Lib.hid (cauchy_ok fb a L c X a2 L2 c2 Y w13 HF13.out (HX.out.on HB13.out) (HY.out.on HB13.out) (by omega) (by omega) HXY.out)
        go_upto_region 27 with (go_at_call 20; go_loud (refine HC.out.mono ?_); rintro e w14 ⟨a14, rfl, hm14, hb14⟩; have HM14 := Lib.hid hm14; have HB14 := Lib.hid (bt HB13.out hb14); have HF14 := Lib.hid (HF13.out.below hb14); clear hm14 hb14)
        go_upto_region 29 with (fail)
        have HK15 := Lib.hid ((Below.refl w14.heap.size w14).alloc (Nat.le_refl _) (.cells #[] 5))
        go_wp2_with (((with_reducible show wpList _ _ _ (⟨some 148, _, _, _, _, _⟩ :: _) _ _); (refine wpList_append_bs _ rfl (.tmp 146) (.tmp 147) 22 rfl w14.heap.size 5 i5 Try.underlying22 HI.out.1 HI.out.2.1 HI.out.2.2.1 HI.out.2.2.2 _ 0 [] rfl (own_empty w14 _) a L c _ (iL X) rfl (HX.out.on (bt HB14.out HK15.out)).1.2.2.1 HX.out.1.1 HX.out.2 (by omega) (by simp) ?_)))
        intro v1 w16 hown1 hg1
        try rw [Nat.zero_add, List.nil_append] at hown1
        obtain ⟨ac, cc, rfl, _⟩ := own_form hown1
        have HO16 := Lib.hid hown1
        have HK16 := Lib.hid (HK15.out.grown hg1 (by simp) (own_block_le _ _ _))
        have HW16 := Lib.hid (show w14.heap.size ≤ w16.heap.size from Nat.le_trans (by simp) hg1.size)
        clear hown1 hg1
        go_wp2_with ((with_reducible show wpList _ _ _ (⟨some 150, _, _, _, _, _⟩ :: _) _ _); refine wpList_append_bs _ rfl (.tmp 148) (.tmp 149) 22 rfl w14.heap.size 5 i5 Try.underlying22 HI.out.1 HI.out.2.1 HI.out.2.2.1 HI.out.2.2.2 _ L (iL X) rfl HO16.out a2 L2 c2 _ (iL Y) rfl (HY.out.on (bt HB14.out HK16.out)).1.2.2.1 HY.out.1.1 HY.out.2 (by omega) HW16.out ?_)
        intro v1 w17 hown1 hg1
        first | rw [← iL_app] at hown1 | (rw [← List.map_append, ← iL_app] at hown1)
        obtain ⟨ac2, cc2, hv2, hpa, _⟩ := Pa.own hown1
        subst hv2
        have HP17 := Lib.hid hpa
        have HK17 := Lib.hid (HK16.out.grown hg1 HW16.out (fun z hz => (HO16.out.lt z hz).1))
        clear hown1 hg1 hpa
        go_upto_region 30 with (go_at_call 18; refine (unl1_is true (L + L2) (X ++ Y) (decide_eq_true HXY.out) _ ac2 cc2 HP17.out).mono ?_; rintro e w18 ⟨rfl, hb18⟩; have HK18 := Lib.hid (bt HK17.out hb18); have HB18 := Lib.hid (bt HB14.out HK18.out); clear hb18)
        have HM18 := Lib.hid (HM14.out.on HK18.out)
        have HF18 := Lib.hid (HF14.out.below HK18.out)
        go_upto_region 32 with (go_at_call 16; go_loud (refine (rows_any a14 L L2 _ w18 HM18.out).mono ?_); rintro e w19 ⟨v19, vs19, rfl, ho19, hv19, hb19⟩; obtain ⟨a19, c19, hav, hr19⟩ := Mat.own ho19 hv19; subst hav; have HR19 := Lib.hid hr19; have HB19 := Lib.hid (bt HB18.out hb19); have HM19 := Lib.hid (HM18.out.on hb19); have HF19 := Lib.hid (HF18.out.below hb19); clear ho19 hv19 hr19 hb19)
        have hbd19 := HR19.out.bd
        go_loopw [162] (fun s wr => ∃ i : Nat, i ≤ L ∧ s = .int .i64 (i : Nat) ∧ Below w19.heap.size w19 wr) (fun s _ => L - (intOf s).toNat)
        case atStart => exact ⟨0, Nat.zero_le _, rfl, Below.refl _ _⟩
        case round =>
          obtain ⟨i, hi, rfl, hBi⟩ := hrel
          have HBI := Lib.hid hBi
          clear hBi
          by_cases hlt : i < L
          · obtain ⟨b, off, ai, ci, rfl, hb, hcell0, hpa⟩ := HR19.out.row hlt
            rw [rw_mat hlt, length_fl] at hcell0 hpa
            rename World => w20
            have hcell := (HBI.out.cell (p := ⟨b, off + i, none⟩) hb).trans hcell0
            have HPA := Lib.hid hpa
            have hbp := hpa.bd
            have qi : (i : Int) < (L : Int) := by omega
            have qi0 : (0 : Int) ≤ (i : Int) := by omega
            clear hcell0 hpa
            go_wp2
            go_loopw [169] (fun s wr => ∃ k : Nat, k ≤ L2 ∧ s = .int .i64 (k : Nat) ∧ Below w19.heap.size w19 wr) (fun s _ => L2 - (intOf s).toNat)
            case atStart => exact ⟨0, Nat.zero_le _, rfl, HBI.out⟩
            case round =>
              obtain ⟨k, hk, rfl, hBk⟩ := hrel
              by_cases hlk : k < L2
              · obtain ⟨br, offr, rfl, hbr, hcr⟩ := (HPA.out.on hBk).at_ hlk
                obtain ⟨bx, offx, rfl, hbx, hcx⟩ := (HX.out.on (bt HB19.out hBk)).at_ hlt
                obtain ⟨by_, offy, rfl, hby, hcy⟩ := (HY.out.on (bt HB19.out hBk)).at_ hlk
                rw [co_fl, if_pos hlk] at hcr
                have qk : (k : Int) < (L2 : Int) := by omega
                have qk0 : (0 : Int) ≤ (k : Int) := by omega
                have hxor : bits .xor .u8 (toI (co X i)) (toI (co Y k)) = toI (co X i + co Y k) := u8_xor _ _ (toI_bd _).1 (toI_bd _).2 (toI_bd _).1 (toI_bd _).2
                have HINV := Lib.hid (fun q W => show Calls Try.prog _ _ _ _ from rinv_G (co X i + co Y k) (World.drewN W q))
                have HBK := Lib.hid hBk
                have hcr2 : _ = some (Value.int .u8 (toI (GF.inv (co X i + co Y k)))) := hcr
                clear hcr hBk
                go_wp2_with fail
                go_quiet ((go_at_call 21; exact Calls.quiet_of_same ((HINV.out _ _).mono fun _ _ ⟨he, hw⟩ => ⟨he, hw.symm⟩)))
                go_wp2
                go_roundw
                case rel => exact ⟨k + 1, by omega, by go_num, below_drewN HBK.out _⟩
                case measure => simp [intOf]; omega
              · obtain rfl : L2 = k := by omega
                have HBK := Lib.hid hBk
                clear hBk
                go_wp2
                go_roundw
                case rel => exact ⟨i + 1, by omega, by go_num, HBK.out⟩
                case measure => simp [intOf]; omega
          · obtain rfl : L = i := by omega
            rename World => w20
            by_cases hll : L = L2
            · have HA := Lib.hid (apart_parts HXY.out)
              have HI21 := Lib.hid (inv_is false a14 L (cau X Y) fb w20 (by have h := HM19.out.on HBI.out; rw [← hll] at h; exact h) (HF19.out.below HBI.out) (decide_eq_false (by have h := cau_det (by rw [HLX.out, HLY.out, hll]) HA.out.1 HA.out.2.1 HA.out.2.2; rw [HLX.out] at h; exact h)))
              have qll : ((L : Int) == (L2 : Int)) = true := by rw [beq_iff_eq]; omega
              clear hll
              go_wp2_with (go_at_call 19; go_loud (refine HI21.out.mono ?_); rintro e w21 ⟨a21, rfl, hb21⟩; have HB21 := Lib.hid (bt (bt HB19.out HBI.out) hb21); clear hb21)
              go_ret
              exact ⟨rfl, HB21.out⟩
            · have HI21 := Lib.hid (inverse_uneq a14 L L2 _ fb w20 (HM19.out.on HBI.out) hll)
              have qll : ((L : Int) == (L2 : Int)) = false := by rw [beq_eq_false_iff_ne]; omega
              clear hll
              go_wp2_with (go_at_call 19; go_loud (refine HI21.out.mono ?_); rintro e w21 ⟨rfl, hb21⟩; have HB21 := Lib.hid (bt (bt HB19.out HBI.out) hb21); clear hb21)
              go_ret
              exact ⟨rfl, HB21.out⟩
      · have HXY := Lib.hid hxy
        clear hxy
        have HC := Lib.hid (cauchy_same fb a L c X a2 L2 c2 Y w13 HF13.out (HX.out.on HB13.out) (HY.out.on HB13.out) (by omega) (by omega) HXY.out)
        go_upto_region 27 with (go_at_call 20; go_loud (refine HC.out.mono ?_); rintro e w14 ⟨rfl, hb14⟩; have HB14 := Lib.hid (bt HB13.out hb14); clear hb14)
        go_upto_region 29 with (fail)
        have HK15 := Lib.hid ((Below.refl w14.heap.size w14).alloc (Nat.le_refl _) (.cells #[] 5))
        go_wp2_with (((with_reducible show wpList _ _ _ (⟨some 148, _, _, _, _, _⟩ :: _) _ _); (refine wpList_append_bs _ rfl (.tmp 146) (.tmp 147) 22 rfl w14.heap.size 5 i5 Try.underlying22 HI.out.1 HI.out.2.1 HI.out.2.2.1 HI.out.2.2.2 _ 0 [] rfl (own_empty w14 _) a L c _ (iL X) rfl (HX.out.on (bt HB14.out HK15.out)).1.2.2.1 HX.out.1.1 HX.out.2 (by omega) (by simp) ?_)))
        intro v1 w16 hown1 hg1
        try rw [Nat.zero_add, List.nil_append] at hown1
        obtain ⟨ac, cc, rfl, _⟩ := own_form hown1
        have HO16 := Lib.hid hown1
        have HK16 := Lib.hid (HK15.out.grown hg1 (by simp) (own_block_le _ _ _))
        have HW16 := Lib.hid (show w14.heap.size ≤ w16.heap.size from Nat.le_trans (by simp) hg1.size)
        clear hown1 hg1
        go_wp2_with ((with_reducible show wpList _ _ _ (⟨some 150, _, _, _, _, _⟩ :: _) _ _); refine wpList_append_bs _ rfl (.tmp 148) (.tmp 149) 22 rfl w14.heap.size 5 i5 Try.underlying22 HI.out.1 HI.out.2.1 HI.out.2.2.1 HI.out.2.2.2 _ L (iL X) rfl HO16.out a2 L2 c2 _ (iL Y) rfl (HY.out.on (bt HB14.out HK16.out)).1.2.2.1 HY.out.1.1 HY.out.2 (by omega) HW16.out ?_)
        intro v1 w17 hown1 hg1
        first | rw [← iL_app] at hown1 | (rw [← List.map_append, ← iL_app] at hown1)
        obtain ⟨ac2, cc2, hv2, hpa, _⟩ := Pa.own hown1
        subst hv2
        have HP17 := Lib.hid hpa
        have HK17 := Lib.hid (HK16.out.grown hg1 HW16.out (fun z hz => (HO16.out.lt z hz).1))
        clear hown1 hg1 hpa
        go_upto_region 30 with (go_at_call 18; refine (unl1_is false (L + L2) (X ++ Y) (decide_eq_false HXY.out) _ ac2 cc2 HP17.out).mono ?_; rintro e w18 ⟨rfl, hb18⟩; have HK18 := Lib.hid (bt HK17.out hb18); have HB18 := Lib.hid (bt HB14.out HK18.out); clear hb18)
        go_wp2
        go_ret
        exact ⟨rfl, HB18.out⟩
  · have HAP := Lib.hid hap
    have HI12 := Lib.hid (inv_is true a11 L (vdm X) fb w11 HM11.out HF11.out (decide_eq_true (Classical.not_not.1 fun h => hap ((vdm_iff X).1 (by rw [HLX.out]; exact h)))))
    clear hap
    go_upto_region 24 with (go_at_call 19; go_loud (refine HI12.out.mono ?_); rintro e w12 ⟨a12, rfl, hb12⟩; have HB12 := Lib.hid (bt HB11.out hb12); have HF12 := Lib.hid (HF11.out.below hb12); clear hb12)
    go_upto_region 26 with (go_at_call 18; go_loud (refine (unl1_is false L X (decide_eq_false HAP.out) _ a c (HX.out.on HB12.out)).mono ?_); rintro e w13 ⟨rfl, hb13⟩; have HB13 := Lib.hid (bt HB12.out hb13); have HF13 := Lib.hid (HF12.out.below hb13); clear hb13)
    by_cases h0 : L2 = 0
    · have h00 : ¬ 1 ≤ L2 := by omega
      have qy : ((L2 : Int) == 0) = true := by rw [beq_iff_eq]; omega
      have hz := h0
      clear h0
      have HC := Lib.hid (cauchy_nofit fb a L c a2 L2 c2 w13 (by omega) (by omega) (.inr hz))
      clear hz
      go_wp2_with (go_at_call 20; go_loud (refine HC.out.mono ?_); rintro e w14 ⟨rfl, hb14⟩; have HB14 := Lib.hid (bt HB13.out hb14); clear hb14)
      go_ret
      exact ⟨rfl, HB14.out⟩
    · have qy : ((L2 : Int) == 0) = false := by rw [beq_eq_false_iff_ne]; omega
      have HXY := Lib.hid (show ¬ Apart (X ++ Y) from fun h => HAP.out (apart_parts h).1)
      have HC := Lib.hid (cauchy_same fb a L c X a2 L2 c2 Y w13 HF13.out (HX.out.on HB13.out) (HY.out.on HB13.out) (by omega) (by omega) HXY.out)
      go_upto_region 27 with (go_at_call 20; go_loud (refine HC.out.mono ?_); rintro e w14 ⟨rfl, hb14⟩; have HB14 := Lib.hid (bt HB13.out hb14); clear hb14)
      go_upto_region 29 with (fail)
      have HK15 := Lib.hid ((Below.refl w14.heap.size w14).alloc (Nat.le_refl _) (.cells #[] 5))
      go_wp2_with (((with_reducible show wpList _ _ _ (⟨some 148, _, _, _, _, _⟩ :: _) _ _); (refine wpList_append_bs _ rfl (.tmp 146) (.tmp 147) 22 rfl w14.heap.size 5 i5 Try.underlying22 HI.out.1 HI.out.2.1 HI.out.2.2.1 HI.out.2.2.2 _ 0 [] rfl (own_empty w14 _) a L c _ (iL X) rfl (HX.out.on (bt HB14.out HK15.out)).1.2.2.1 HX.out.1.1 HX.out.2 (by omega) (by simp) ?_)))
      intro v1 w16 hown1 hg1
      try rw [Nat.zero_add, List.nil_append] at hown1
      obtain ⟨ac, cc, rfl, _⟩ := own_form hown1
      have HO16 := Lib.hid hown1
      have HK16 := Lib.hid (HK15.out.grown hg1 (by simp) (own_block_le _ _ _))
      have HW16 := Lib.hid (show w14.heap.size ≤ w16.heap.size from Nat.le_trans (by simp) hg1.size)
      clear hown1 hg1
      go_wp2_with ((with_reducible show wpList _ _ _ (⟨some 150, _, _, _, _, _⟩ :: _) _ _); refine wpList_append_bs _ rfl (.tmp 148) (.tmp 149) 22 rfl w14.heap.size 5 i5 Try.underlying22 HI.out.1 HI.out.2.1 HI.out.2.2.1 HI.out.2.2.2 _ L (iL X) rfl HO16.out a2 L2 c2 _ (iL Y) rfl (HY.out.on (bt HB14.out HK16.out)).1.2.2.1 HY.out.1.1 HY.out.2 (by omega) HW16.out ?_)
      intro v1 w17 hown1 hg1
      first | rw [← iL_app] at hown1 | (rw [← List.map_append, ← iL_app] at hown1)
      obtain ⟨ac2, cc2, hv2, hpa, _⟩ := Pa.own hown1
      subst hv2
      have HP17 := Lib.hid hpa
      have HK17 := Lib.hid (HK16.out.grown hg1 HW16.out (fun z hz => (HO16.out.lt z hz).1))
      clear hown1 hg1 hpa
      go_upto_region 30 with (go_at_call 18; refine (unl1_is false (L + L2) (X ++ Y) (decide_eq_false HXY.out) _ ac2 cc2 HP17.out).mono ?_; rintro e w18 ⟨rfl, hb18⟩; have HK18 := Lib.hid (bt HK17.out hb18); have HB18 := Lib.hid (bt HB14.out HK18.out); clear hb18)
      go_wp2
      go_ret
      exact ⟨rfl, HB18.out⟩
set_option maxRecDepth 100000 in
set_option maxHeartbeats 4000000 in
open Classical in
theorem named_good (a : Option Addr) (L c : Nat) (X : List GF) (a2 : Option Addr) (L2 c2 : Nat) (Y : List GF) (n : Int) (m : Nat) (w : World) (hx : Pa w a L c X) (hy : Pa w a2 L2 c2 Y) (hL : L ≤ 20) (hL2 : L2 ≤ 20) (hn : wrap64 ((IntKind.u64.wrap n).tmod 70) = (m : Int)) (hm : m < 70) (h1 : 1 ≤ L) (hc : 1 ≤ m ∧ m ≤ 64) :
    Calls Try.prog 4 #[.slice a L c, .slice a2 L2 c2, .int .i64 n] w fun e w' => e = .returned (.bool true) ∧ Below w.heap.size w w' := by
  have HX := Lib.hid hx
  have HY := Lib.hid hy
  have HLX := Lib.hid hx.len
  have HLY := Lib.hid hy.len
  have hbx := hx.bd
  have hby := hy.bd
  have HN := Lib.hid hn
  clear hn
  obtain ⟨i5, hi5, hz0, hz1, hz2⟩ := info_parts info5
  have HI := Lib.hid (And.intro hi5 (And.intro hz0 (And.intro hz1 hz2)))
  have q1 : ¬ (20 : Int) < (L : Int) := by omega
  have q2 : ¬ (20 : Int) < (L2 : Int) := by omega
  clear hx hy hi5 hz0 hz1 hz2
  go_enter Try.func4, Try.ntmps4
  go_upto_region 5 with (first
    | (go_at_call 8; refine (livesM_any _).mono ?_; rintro e w1 ⟨rfl, hb1⟩; have HB1 := Lib.hid hb1; clear hb1)
    | (go_at_call 9; refine (new_any _).mono ?_; rintro e w2 ⟨fb, rfl, hb0, hf, hbel⟩; have HF2 := Lib.hid hf; have HB2 := Lib.hid (bt HB1.out hbel); clear hf hbel hb0))
  rw [HN.out]
  have HV := Lib.hid (vandermonde_ok fb a L c m X w2 HF2.out (HX.out.on HB2.out) (by omega) (by omega))
  have qx : ((L : Int) == 0) = false := by rw [beq_eq_false_iff_ne]; omega
  have qx2 : (0 : Int) < (L : Int) := by omega
  have qm : ¬ (m : Int) < 1 := by omega
  have qm2 : ¬ (64 : Int) < (m : Int) := by omega
  go_upto_region 7 with (go_at_call 15; go_loud (refine HV.out.mono ?_); rintro e w3 ⟨a3, rfl, hm3, hb3⟩; obtain ⟨p3, rfl⟩ : ∃ p, a3 = some p := (by obtain ⟨g, s, c, e, _⟩ := hm3; exact ⟨_, e⟩); have HM3 := Lib.hid hm3; have HB3 := Lib.hid (bt HB2.out hb3); have HF3 := Lib.hid (HF2.out.below hb3); clear hb3 hm3)
  go_upto_region 10 with (go_at_call 16; go_loud (refine (rows_any (some p3) L m _ w3 HM3.out).mono ?_); rintro e w4 ⟨v4, vs4, rfl, ho4, hv4, hb4⟩; obtain ⟨a4, c4, hav, hr4⟩ := Mat.own ho4 hv4; subst hav; have HR4 := Lib.hid hr4; have HB4 := Lib.hid (bt HB3.out hb4); have HF4 := Lib.hid (HF3.out.below hb4); clear ho4 hv4 hr4 hb4)
  have hbd4 := HR4.out.bd
  go_loopw [76] (fun s wr => ∃ i : Nat, i ≤ L ∧ s = .int .i64 (i : Nat) ∧ Below w4.heap.size w4 wr) (fun s _ => L - (intOf s).toNat)
  case atStart => exact ⟨0, Nat.zero_le _, rfl, Below.refl _ _⟩
  case round =>
    obtain ⟨i, hi, rfl, hBi⟩ := hrel
    have HBI := Lib.hid hBi
    clear hBi
    by_cases hlt : i < L
    · obtain ⟨b, off, ai, ci, rfl, hb, hcell0, hpa⟩ := HR4.out.row hlt
      rw [rw_mat hlt, length_fl] at hcell0 hpa
      rename World => w20
      have hcell := (HBI.out.cell (p := ⟨b, off + i, none⟩) hb).trans hcell0
      have HPA := Lib.hid hpa
      have hbp := hpa.bd
      have qi : (i : Int) < (L : Int) := by omega
      have qi0 : (0 : Int) ≤ (i : Int) := by omega
      clear hcell0 hpa
      go_wp2
      go_loopw [83] (fun s wr => ∃ k : Nat, k ≤ m ∧ s = .int .i64 (k : Nat) ∧ Below w4.heap.size w4 wr) (fun s _ => m - (intOf s).toNat)
      case atStart => exact ⟨0, Nat.zero_le _, rfl, HBI.out⟩
      case round =>
        obtain ⟨k, hk, rfl, hBk⟩ := hrel
        by_cases hlk : k < m
        · obtain ⟨br, offr, rfl, hbr, hcr⟩ := (HPA.out.on hBk).at_ hlk
          obtain ⟨bx, offx, rfl, hbx2, hcx⟩ := (HX.out.on (bt HB4.out hBk)).at_ hlt
          rw [co_fl, if_pos hlk] at hcr
          have qk : (k : Int) < (m : Int) := by omega
          have qk0 : (0 : Int) ≤ (k : Int) := by omega
          have hpw := fun (W : World) => refPow_N (co X i).1 (k : Int) (co X i).2 (by omega) W
          rw [gpw_pow _ _ (by omega)] at hpw
          have HPW := Lib.hid hpw
          have HBK := Lib.hid hBk
          have hcr2 : _ = some (Value.int .u8 (toI (gpw (co X i) k))) := hcr
          clear hcr hBk hpw
          go_wp2_with fail
          go_quiet ((go_at_call 17; exact Calls.quiet_of_same ((HPW.out _).mono fun _ _ ⟨he, hw⟩ => ⟨he, hw.symm⟩)))
          go_wp2
          go_roundw
          case rel => exact ⟨k + 1, by omega, by go_num, below_drewN HBK.out _⟩
          case measure => simp [intOf]; omega
        · obtain rfl : m = k := by omega
          have HBK := Lib.hid hBk
          clear hBk
          go_wp2
          go_roundw
          case rel => exact ⟨i + 1, by omega, by go_num, HBK.out⟩
          case measure => simp [intOf]; omega
    · obtain rfl : L = i := by omega
      rename World => wg
      have HBG := Lib.hid (bt HB4.out HBI.out)
      have HFG := Lib.hid (HF4.out.below HBI.out)
      have HV2 := Lib.hid (vandermonde_ok fb a L c L X wg HFG.out (HX.out.on HBG.out) (by omega) (by omega))
      go_upto_region 23 with (go_at_call 15; go_loud (refine HV2.out.mono ?_); rintro e w11 ⟨a11, rfl, hm11, hb11⟩; have HM11 := Lib.hid hm11; have HB11 := Lib.hid (bt HBG.out hb11); have HF11 := Lib.hid (HFG.out.below hb11); clear hm11 hb11)
      by_cases hap : Apart X
      · have HAP := Lib.hid hap
        have HI12 := Lib.hid (inv_is false a11 L (vdm X) fb w11 HM11.out HF11.out (decide_eq_false (by rw [← HLX.out]; exact (vdm_iff X).2 hap)))
        clear hap
        go_upto_region 24 with (go_at_call 19; go_loud (refine HI12.out.mono ?_); rintro e w12 ⟨a12, rfl, hb12⟩; have HB12 := Lib.hid (bt HB11.out hb12); have HF12 := Lib.hid (HF11.out.below hb12); clear hb12)
        go_upto_region 26 with (go_at_call 18; go_loud (refine (unl1_is true L X (decide_eq_true HAP.out) _ a c (HX.out.on HB12.out)).mono ?_); rintro e w13 ⟨rfl, hb13⟩; have HB13 := Lib.hid (bt HB12.out hb13); have HF13 := Lib.hid (HF12.out.below hb13); clear hb13)
        by_cases h0 : L2 = 0
        · have h00 : ¬ 1 ≤ L2 := by omega
          have qy : ((L2 : Int) == 0) = true := by rw [beq_iff_eq]; omega
          have hz := h0
          clear h0
          have HC := Lib.hid (cauchy_nofit fb a L c a2 L2 c2 w13 (by omega) (by omega) (.inr hz))
          clear hz
          go_wp2_with (go_at_call 20; go_loud (refine HC.out.mono ?_); rintro e w14 ⟨rfl, hb14⟩; have HB14 := Lib.hid (bt HB13.out hb14); clear hb14)
          go_ret
          exact ⟨rfl, HB14.out⟩
        · have qy : ((L2 : Int) == 0) = false := by rw [beq_eq_false_iff_ne]; omega
          by_cases hxy : Apart (X ++ Y)
          · have HXY := Lib.hid hxy
            clear hxy
            have HC := Lib.hid (cauchy_ok fb a L c X a2 L2 c2 Y w13 HF13.out (HX.out.on HB13.out) (HY.out.on HB13.out) (by omega) (by omega) HXY.out)
            go_upto_region 27 with (go_at_call 20; go_loud (refine HC.out.mono ?_); rintro e w14 ⟨a14, rfl, hm14, hb14⟩; have HM14 := Lib.hid hm14; have HB14 := Lib.hid (bt HB13.out hb14); have HF14 := Lib.hid (HF13.out.below hb14); clear hm14 hb14)
            go_upto_region 29 with (fail)
            have HK15 := Lib.hid ((Below.refl w14.heap.size w14).alloc (Nat.le_refl _) (.cells #[] 5))
            go_wp2_with (((with_reducible show wpList _ _ _ (⟨some 148, _, _, _, _, _⟩ :: _) _ _); (refine wpList_append_bs _ rfl (.tmp 146) (.tmp 147) 22 rfl w14.heap.size 5 i5 Try.underlying22 HI.out.1 HI.out.2.1 HI.out.2.2.1 HI.out.2.2.2 _ 0 [] rfl (own_empty w14 _) a L c _ (iL X) rfl (HX.out.on (bt HB14.out HK15.out)).1.2.2.1 HX.out.1.1 HX.out.2 (by omega) (by simp) ?_)))
            intro v1 w16 hown1 hg1
            try rw [Nat.zero_add, List.nil_append] at hown1
            obtain ⟨ac, cc, rfl, _⟩ := own_form hown1
            have HO16 := Lib.hid hown1
            have HK16 := Lib.hid (HK15.out.grown hg1 (by simp) (own_block_le _ _ _))
            have HW16 := Lib.hid (show w14.heap.size ≤ w16.heap.size from Nat.le_trans (by simp) hg1.size)
            clear hown1 hg1
            go_wp2_with ((with_reducible show wpList _ _ _ (⟨some 150, _, _, _, _, _⟩ :: _) _ _); refine wpList_append_bs _ rfl (.tmp 148) (.tmp 149) 22 rfl w14.heap.size 5 i5 Try.underlying22 HI.out.1 HI.out.2.1 HI.out.2.2.1 HI.out.2.2.2 _ L (iL X) rfl HO16.out a2 L2 c2 _ (iL Y) rfl (HY.out.on (bt HB14.out HK16.out)).1.2.2.1 HY.out.1.1 HY.out.2 (by omega) HW16.out ?_)
            intro v1 w17 hown1 hg1
            first | rw [← iL_app] at hown1 | (rw [← List.map_append, ← iL_app] at hown1)
            obtain ⟨ac2, cc2, hv2, hpa, _⟩ := Pa.own hown1
            subst hv2
            have HP17 := Lib.hid hpa
            have HK17 := Lib.hid (HK16.out.grown hg1 HW16.out (fun z hz => (HO16.out.lt z hz).1))
            clear hown1 hg1 hpa
            go_upto_region 30 with (go_at_call 18; refine (unl1_is true (L + L2) (X ++ Y) (decide_eq_true HXY.out) _ ac2 cc2 HP17.out).mono ?_; rintro e w18 ⟨rfl, hb18⟩; have HK18 := Lib.hid (bt HK17.out hb18); have HB18 := Lib.hid (bt HB14.out HK18.out); clear hb18)
            have HM18 := Lib.hid (HM14.out.on HK18.out)
            have HF18 := Lib.hid (HF14.out.below HK18.out)
            go_upto_region 32 with (go_at_call 16; go_loud (refine (rows_any a14 L L2 _ w18 HM18.out).mono ?_); rintro e w19 ⟨v19, vs19, rfl, ho19, hv19, hb19⟩; obtain ⟨a19, c19, hav, hr19⟩ := Mat.own ho19 hv19; subst hav; have HR19 := Lib.hid hr19; have HB19 := Lib.hid (bt HB18.out hb19); have HM19 := Lib.hid (HM18.out.on hb19); have HF19 := Lib.hid (HF18.out.below hb19); clear ho19 hv19 hr19 hb19)
            have hbd19 := HR19.out.bd
            go_loopw [162] (fun s wr => ∃ i : Nat, i ≤ L ∧ s = .int .i64 (i : Nat) ∧ Below w19.heap.size w19 wr) (fun s _ => L - (intOf s).toNat)
            case atStart => exact ⟨0, Nat.zero_le _, rfl, Below.refl _ _⟩
            case round =>
              obtain ⟨i, hi, rfl, hBi⟩ := hrel
              have HBI := Lib.hid hBi
              clear hBi
              by_cases hlt : i < L
              · obtain ⟨b, off, ai, ci, rfl, hb, hcell0, hpa⟩ := HR19.out.row hlt
                rw [rw_mat hlt, length_fl] at hcell0 hpa
                rename World => w20
                have hcell := (HBI.out.cell (p := ⟨b, off + i, none⟩) hb).trans hcell0
                have HPA := Lib.hid hpa
                have hbp := hpa.bd
                have qi : (i : Int) < (L : Int) := by omega
                have qi0 : (0 : Int) ≤ (i : Int) := by omega
                clear hcell0 hpa
                go_wp2
                go_loopw [169] (fun s wr => ∃ k : Nat, k ≤ L2 ∧ s = .int .i64 (k : Nat) ∧ Below w19.heap.size w19 wr) (fun s _ => L2 - (intOf s).toNat)
                case atStart => exact ⟨0, Nat.zero_le _, rfl, HBI.out⟩
                case round =>
                  obtain ⟨k, hk, rfl, hBk⟩ := hrel
                  by_cases hlk : k < L2
                  · obtain ⟨br, offr, rfl, hbr, hcr⟩ := (HPA.out.on hBk).at_ hlk
                    obtain ⟨bx, offx, rfl, hbx, hcx⟩ := (HX.out.on (bt HB19.out hBk)).at_ hlt
                    obtain ⟨by_, offy, rfl, hby, hcy⟩ := (HY.out.on (bt HB19.out hBk)).at_ hlk
                    rw [co_fl, if_pos hlk] at hcr
                    have qk : (k : Int) < (L2 : Int) := by omega
                    have qk0 : (0 : Int) ≤ (k : Int) := by omega
                    have hxor : bits .xor .u8 (toI (co X i)) (toI (co Y k)) = toI (co X i + co Y k) := u8_xor _ _ (toI_bd _).1 (toI_bd _).2 (toI_bd _).1 (toI_bd _).2
                    have HINV := Lib.hid (fun q W => show Calls Try.prog _ _ _ _ from rinv_G (co X i + co Y k) (World.drewN W q))
                    have HBK := Lib.hid hBk
                    have hcr2 : _ = some (Value.int .u8 (toI (GF.inv (co X i + co Y k)))) := hcr
                    clear hcr hBk
                    go_wp2_with fail
                    go_quiet ((go_at_call 21; exact Calls.quiet_of_same ((HINV.out _ _).mono fun _ _ ⟨he, hw⟩ => ⟨he, hw.symm⟩)))
                    go_wp2
                    go_roundw
                    case rel => exact ⟨k + 1, by omega, by go_num, below_drewN HBK.out _⟩
                    case measure => simp [intOf]; omega
                  · obtain rfl : L2 = k := by omega
                    have HBK := Lib.hid hBk
                    clear hBk
                    go_wp2
                    go_roundw
                    case rel => exact ⟨i + 1, by omega, by go_num, HBK.out⟩
                    case measure => simp [intOf]; omega
              · obtain rfl : L = i := by omega
                rename World => w20
                by_cases hll : L = L2
                · have HA := Lib.hid (apart_parts HXY.out)
                  have HI21 := Lib.hid (inv_is false a14 L (cau X Y) fb w20 (by have h := HM19.out.on HBI.out; rw [← hll] at h; exact h) (HF19.out.below HBI.out) (decide_eq_false (by have h := cau_det (by rw [HLX.out, HLY.out, hll]) HA.out.1 HA.out.2.1 HA.out.2.2; rw [HLX.out] at h; exact h)))
                  have qll : ((L : Int) == (L2 : Int)) = true := by rw [beq_iff_eq]; omega
                  clear hll
                  go_wp2_with (go_at_call 19; go_loud (refine HI21.out.mono ?_); rintro e w21 ⟨a21, rfl, hb21⟩; have HB21 := Lib.hid (bt (bt HB19.out HBI.out) hb21); clear hb21)
                  go_ret
                  exact ⟨rfl, HB21.out⟩
                · have HI21 := Lib.hid (inverse_uneq a14 L L2 _ fb w20 (HM19.out.on HBI.out) hll)
                  have qll : ((L : Int) == (L2 : Int)) = false := by rw [beq_eq_false_iff_ne]; omega
                  clear hll
                  go_wp2_with (go_at_call 19; go_loud (refine HI21.out.mono ?_); rintro e w21 ⟨rfl, hb21⟩; have HB21 := Lib.hid (bt (bt HB19.out HBI.out) hb21); clear hb21)
                  go_ret
                  exact ⟨rfl, HB21.out⟩
          · have HXY := Lib.hid hxy
            clear hxy
            have HC := Lib.hid (cauchy_same fb a L c X a2 L2 c2 Y w13 HF13.out (HX.out.on HB13.out) (HY.out.on HB13.out) (by omega) (by omega) HXY.out)
            go_upto_region 27 with (go_at_call 20; go_loud (refine HC.out.mono ?_); rintro e w14 ⟨rfl, hb14⟩; have HB14 := Lib.hid (bt HB13.out hb14); clear hb14)
            go_upto_region 29 with (fail)
            have HK15 := Lib.hid ((Below.refl w14.heap.size w14).alloc (Nat.le_refl _) (.cells #[] 5))
            go_wp2_with (((with_reducible show wpList _ _ _ (⟨some 148, _, _, _, _, _⟩ :: _) _ _); (refine wpList_append_bs _ rfl (.tmp 146) (.tmp 147) 22 rfl w14.heap.size 5 i5 Try.underlying22 HI.out.1 HI.out.2.1 HI.out.2.2.1 HI.out.2.2.2 _ 0 [] rfl (own_empty w14 _) a L c _ (iL X) rfl (HX.out.on (bt HB14.out HK15.out)).1.2.2.1 HX.out.1.1 HX.out.2 (by omega) (by simp) ?_)))
            intro v1 w16 hown1 hg1
            try rw [Nat.zero_add, List.nil_append] at hown1
            obtain ⟨ac, cc, rfl, _⟩ := own_form hown1
            have HO16 := Lib.hid hown1
            have HK16 := Lib.hid (HK15.out.grown hg1 (by simp) (own_block_le _ _ _))
            have HW16 := Lib.hid (show w14.heap.size ≤ w16.heap.size from Nat.le_trans (by simp) hg1.size)
            clear hown1 hg1
            go_wp2_with ((with_reducible show wpList _ _ _ (⟨some 150, _, _, _, _, _⟩ :: _) _ _); refine wpList_append_bs _ rfl (.tmp 148) (.tmp 149) 22 rfl w14.heap.size 5 i5 Try.underlying22 HI.out.1 HI.out.2.1 HI.out.2.2.1 HI.out.2.2.2 _ L (iL X) rfl HO16.out a2 L2 c2 _ (iL Y) rfl (HY.out.on (bt HB14.out HK16.out)).1.2.2.1 HY.out.1.1 HY.out.2 (by omega) HW16.out ?_)
            intro v1 w17 hown1 hg1
            first | rw [← iL_app] at hown1 | (rw [← List.map_append, ← iL_app] at hown1)
            obtain ⟨ac2, cc2, hv2, hpa, _⟩ := Pa.own hown1
            subst hv2
            have HP17 := Lib.hid hpa
            have HK17 := Lib.hid (HK16.out.grown hg1 HW16.out (fun z hz => (HO16.out.lt z hz).1))
            clear hown1 hg1 hpa
            go_upto_region 30 with (go_at_call 18; refine (unl1_is false (L + L2) (X ++ Y) (decide_eq_false HXY.out) _ ac2 cc2 HP17.out).mono ?_; rintro e w18 ⟨rfl, hb18⟩; have HK18 := Lib.hid (bt HK17.out hb18); have HB18 := Lib.hid (bt HB14.out HK18.out); clear hb18)
            go_wp2
            go_ret
            exact ⟨rfl, HB18.out⟩
      · have HAP := Lib.hid hap
        have HI12 := Lib.hid (inv_is true a11 L (vdm X) fb w11 HM11.out HF11.out (decide_eq_true (Classical.not_not.1 fun h => hap ((vdm_iff X).1 (by rw [HLX.out]; exact h)))))
        clear hap
        go_upto_region 24 with (go_at_call 19; go_loud (refine HI12.out.mono ?_); rintro e w12 ⟨a12, rfl, hb12⟩; have HB12 := Lib.hid (bt HB11.out hb12); have HF12 := Lib.hid (HF11.out.below hb12); clear hb12)
        go_upto_region 26 with (go_at_call 18; go_loud (refine (unl1_is false L X (decide_eq_false HAP.out) _ a c (HX.out.on HB12.out)).mono ?_); rintro e w13 ⟨rfl, hb13⟩; have HB13 := Lib.hid (bt HB12.out hb13); have HF13 := Lib.hid (HF12.out.below hb13); clear hb13)
        by_cases h0 : L2 = 0
        · have h00 : ¬ 1 ≤ L2 := by omega
          have qy : ((L2 : Int) == 0) = true := by rw [beq_iff_eq]; omega
          have hz := h0
          clear h0
          have HC := Lib.hid (cauchy_nofit fb a L c a2 L2 c2 w13 (by omega) (by omega) (.inr hz))
          clear hz
          go_wp2_with (go_at_call 20; go_loud (refine HC.out.mono ?_); rintro e w14 ⟨rfl, hb14⟩; have HB14 := Lib.hid (bt HB13.out hb14); clear hb14)
          go_ret
          exact ⟨rfl, HB14.out⟩
        · have qy : ((L2 : Int) == 0) = false := by rw [beq_eq_false_iff_ne]; omega
          have HXY := Lib.hid (show ¬ Apart (X ++ Y) from fun h => HAP.out (apart_parts h).1)
          have HC := Lib.hid (cauchy_same fb a L c X a2 L2 c2 Y w13 HF13.out (HX.out.on HB13.out) (HY.out.on HB13.out) (by omega) (by omega) HXY.out)
          go_upto_region 27 with (go_at_call 20; go_loud (refine HC.out.mono ?_); rintro e w14 ⟨rfl, hb14⟩; have HB14 := Lib.hid (bt HB13.out hb14); clear hb14)
          go_upto_region 29 with (fail)
          have HK15 := Lib.hid ((Below.refl w14.heap.size w14).alloc (Nat.le_refl _) (.cells #[] 5))
          go_wp2_with (((with_reducible show wpList _ _ _ (⟨some 148, _, _, _, _, _⟩ :: _) _ _); (refine wpList_append_bs _ rfl (.tmp 146) (.tmp 147) 22 rfl w14.heap.size 5 i5 Try.underlying22 HI.out.1 HI.out.2.1 HI.out.2.2.1 HI.out.2.2.2 _ 0 [] rfl (own_empty w14 _) a L c _ (iL X) rfl (HX.out.on (bt HB14.out HK15.out)).1.2.2.1 HX.out.1.1 HX.out.2 (by omega) (by simp) ?_)))
          intro v1 w16 hown1 hg1
          try rw [Nat.zero_add, List.nil_append] at hown1
          obtain ⟨ac, cc, rfl, _⟩ := own_form hown1
          have HO16 := Lib.hid hown1
          have HK16 := Lib.hid (HK15.out.grown hg1 (by simp) (own_block_le _ _ _))
          have HW16 := Lib.hid (show w14.heap.size ≤ w16.heap.size from Nat.le_trans (by simp) hg1.size)
          clear hown1 hg1
          go_wp2_with ((with_reducible show wpList _ _ _ (⟨some 150, _, _, _, _, _⟩ :: _) _ _); refine wpList_append_bs _ rfl (.tmp 148) (.tmp 149) 22 rfl w14.heap.size 5 i5 Try.underlying22 HI.out.1 HI.out.2.1 HI.out.2.2.1 HI.out.2.2.2 _ L (iL X) rfl HO16.out a2 L2 c2 _ (iL Y) rfl (HY.out.on (bt HB14.out HK16.out)).1.2.2.1 HY.out.1.1 HY.out.2 (by omega) HW16.out ?_)
          intro v1 w17 hown1 hg1
          first | rw [← iL_app] at hown1 | (rw [← List.map_append, ← iL_app] at hown1)
          obtain ⟨ac2, cc2, hv2, hpa, _⟩ := Pa.own hown1
          subst hv2
          have HP17 := Lib.hid hpa
          have HK17 := Lib.hid (HK16.out.grown hg1 HW16.out (fun z hz => (HO16.out.lt z hz).1))
          clear hown1 hg1 hpa
          go_upto_region 30 with (go_at_call 18; refine (unl1_is false (L + L2) (X ++ Y) (decide_eq_false HXY.out) _ ac2 cc2 HP17.out).mono ?_; rintro e w18 ⟨rfl, hb18⟩; have HK18 := Lib.hid (bt HK17.out hb18); have HB18 := Lib.hid (bt HB14.out HK18.out); clear hb18)
          go_wp2
          go_ret
          exact ⟨rfl, HB18.out⟩
theorem named_core (a : Option Addr) (L c : Nat) (X : List GF) (a2 : Option Addr) (L2 c2 : Nat) (Y : List GF) (n : Int) (w : World) (hx : Pa w a L c X) (hy : Pa w a2 L2 c2 Y) :
    Calls Try.prog 4 #[.slice a L c, .slice a2 L2 c2, .int .i64 n] w fun e w' => e = .returned (.bool true) ∧ Below w.heap.size w w' := by
  obtain ⟨m, hm, hn0⟩ := small_mod n 70 (by omega) (by omega)
  have HN := Lib.hid hn0
  clear hn0
  have hbx := hx.bd
  have hby := hy.bd
  by_cases ho : 20 < L ∨ 20 < L2
  · exact named_out a L c a2 L2 c2 n w (by omega) (by omega) ho
  · by_cases h0 : L = 0
    · exact named_zero a L c X a2 L2 c2 Y n m w hx hy (by omega) (by omega) HN.out (by omega) (by omega)
    · by_cases h1 : m = 0
      · exact named_few a L c X a2 L2 c2 Y n m w hx hy (by omega) (by omega) HN.out (by omega) (by omega) (by omega)
      · by_cases h2 : 64 < m
        · exact named_many a L c X a2 L2 c2 Y n m w hx hy (by omega) (by omega) HN.out (by omega) (by omega) h2
        · exact named_good a L c X a2 L2 c2 Y n m w hx hy (by omega) (by omega) HN.out (by omega) (by omega) (by omega)
theorem matrixNamed_walk (a0 : Option Addr) (len0 cap0 : Nat) (a1 : Option Addr) (len1 cap1 : Nat) (n : Int) (w : World) (w0 : ∃ l, Arg8c w a0 len0 cap0 l) (w1 : ∃ l, Arg8c w a1 len1 cap1 l) (w2 : (Lit.int .i64 n).wf = true) :
    Calls Try.prog 4 #[.slice a0 len0 cap0, .slice a1 len1 cap1, .int .i64 n] w fun e w' => e = .returned (.bool true) ∧ Below w.heap.size w w' := by
  obtain ⟨l, hl⟩ := w0
  obtain ⟨k, hk⟩ := w1
  exact named_core a0 len0 cap0 _ a1 len1 cap1 _ n w (Pa.of hl) (Pa.of hk)
end Go.Proofs.Ytpoaimcioeopdaa
