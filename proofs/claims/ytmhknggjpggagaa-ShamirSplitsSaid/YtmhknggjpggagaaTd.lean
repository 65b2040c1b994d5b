/- ShamirSplits' walk, under the contracts. -/
import Derived.Test.YtmhknggjpggagaaSg
import Derived.Test.YtmhknggjpggagaaTb
import Derived.Deep.QuietTactic
import Derived.Deep.RegionHeld
namespace Go.Proofs.Ytmhknggjpggagaa
open Go.ChangeShapes Go.WideShapes Go.ChangeAt Go.RowKit Go.Shelf GF
set_option linter.unusedVariables false
set_option linter.unusedSimpArgs false
set_option maxRecDepth 100000

theorem i64_wf {n : Int} (h0 : -1000 ≤ n) (h1 : n ≤ 1000) : (Lit.int .i64 n).wf = true := by
  simp [Lit.wf, IntKind.min, IntKind.max, IntKind.signed, IntKind.bits]; omega

set_option maxHeartbeats 4000000 in
theorem shamirSplits_core (hSplit : SplitC) (hJoin : JoinC) (hShare : ShareC) (hRange : SplitRangeC) (hForm : SplitFormC) (hArg : SplitArgC) (hZero : ShareZeroC) (hMask : MaskC) (hMaskNo : MaskNoC) (t : Int) (ht : (Lit.int .i64 t).wf = true) (aS : Option Addr) (n cS : Nat) (S : List GF) (aM : Option Addr) (m0 cM : Nat) (M : List GF) (aX : Option Addr) (L cX : Nat) (X : List GF) (exact_ : Bool) (w : World)
    (hS : Pa w aS n cS S) (hM : Pa w aM m0 cM M) (hX : Pa w aX L cX X) (hn : n ≤ 40) (hm0 : m0 ≤ 500) (hL : L ≤ 20) :
    Calls Try.prog 4 #[.int .i64 t, .slice aS n cS, .slice aM m0 cM, .slice aX L cX, .bool exact_] w fun e w' => e = .returned (.bool true) ∧ Below w.heap.size w w' := by
  have HL8 := Lib.hid (lives8 hSplit hJoin)
  have HSP := Lib.hid hSplit
  have HSH := Lib.hid hShare
  have HRG := Lib.hid hRange
  have HFO := Lib.hid hForm
  have HAR := Lib.hid hArg
  have HZE := Lib.hid hZero
  have HMK := Lib.hid hMask
  have HMN := Lib.hid hMaskNo
  have HS := Lib.hid hS
  have HM := Lib.hid hM
  have HX := Lib.hid hX
  have HXL := Lib.hid hX.len
  have HN := Lib.hid (show n ≤ 40 ∧ L ≤ 20 from ⟨hn, hL⟩)
  have HTW := Lib.hid ht
  have qn : (n : Int) ≤ 40 := by omega
  have qm0 : (m0 : Int) ≤ 500 := by omega
  have qL : (L : Int) ≤ 20 := by omega
  clear hSplit hJoin hShare hRange hForm hArg hZero hMask hMaskNo hS hM hX hn hL hm0 ht
  obtain ⟨z, hz⟩ : ∃ z, snN X L 0 = z := ⟨_, rfl⟩
  have HZ := Lib.hid hz
  clear hz
  go_enter Try.func4, Try.ntmps4
  go_upto_region 3 with (go_at_call 8; go_loud ((with_reducible refine (HL8.out w).mono ?_); rintro e w1 ⟨rfl, hb⟩; have HB1 := Lib.hid hb; clear hb))
  cases exact_ with
  | true =>
    go_upto_region 5 with fail
    obtain ⟨q, hq, hq8⟩ := mod_of t 12 (by omega)
    obtain ⟨m, hm⟩ : ∃ m, m = q * n := ⟨_, rfl⟩
    have hm440 : m ≤ 440 := by rw [hm]; exact Nat.le_trans (Nat.mul_le_mul (show q ≤ 11 by omega) HN.out.1) (by omega)
    have qm : (q : Int) * (n : Int) = (m : Int) := by rw [hm]; rfl
    obtain ⟨T, hT⟩ : ∃ T, T = q + 1 := ⟨_, rfl⟩
    have HMT := Lib.hid (show m = (T - 1) * n by rw [hm, hT]; rfl)
    have w1q : wrap64 (q : Int) = (q : Int) := by unfold wrap64; omega
    have w2q : wrap64 (1 + (q : Int)) = (T : Int) := by unfold wrap64; omega
    rw [hq, w1q, w2q]
    clear hq w1q w2q
    have HT := Lib.hid (show 1 ≤ T ∧ T ≤ 255 by omega)
    have qT1 : (T : Int) - 1 = (q : Int) := by omega
    have qT2 : (1 : Int) ≤ (T : Int) := by omega
    have qT3 : (T : Int) ≤ 255 := by omega
    have qm3 : (m : Int) ≤ 500 := by omega
    have HMd1 := Lib.hid (made_any aM m0 cM M m w1 (HM.out.on HB1.out) (by omega))
    clear hm hm440 hT hq8
    go_upto_region 6 with (go_at_call 9; (with_reducible refine HMd1.out.mono ?_); rintro e w2 ⟨g2, rfl, hk2, hb2⟩; have HMM := Lib.hid hk2; have HB2 := Lib.hid (bt HB1.out hb2); clear hk2 hb2)
    clear HMd1
    cases z with
    | true =>
      go_upto_region 11 with (first
        | (go_at_call 11; go_loud (refine (new_any _).mono ?_; rintro e w3 ⟨b, rfl, hb0, hf, hb3⟩; have HF3 := Lib.hid hf; have HB3 := Lib.hid (bt HB2.out hb3); have HM3 := Lib.hid (HMM.out.on hb3); have HSq := Lib.hid (HRG.out b n m L (T : Int) aS cS S (some ⟨g2, 0, none⟩) m (padM M m) aX cX X w3 hf (HS.out.on HB3.out) HM3.out (HX.out.on HB3.out) (i64_wf (by omega) (by have := HT.out; omega)) (.inr (.inr (snN_true HXL.out HZ.out))) (by have := HN.out; omega) (by have := HN.out; omega)); clear hf hb0 hb3))
        | (go_at_call 12; go_loud ((with_reducible refine HSq.out.mono ?_); rintro e w4 ⟨a4, c4, rfl, hb4⟩; have HB4 := Lib.hid (bt HB3.out hb4); clear hb4)))
      have HX4 := Lib.hid (HX.out.on HB4.out)
      go_loop [15, 69] (fun z s => ∃ k : Nat, k ≤ L ∧ s = .int .i64 (k : Nat) ∧ z = .bool (snN X k 0)) (fun _ s => L - (intOf s).toNat)
      case atStart => exact ⟨0, by omega, rfl, by rw [snN_zero]⟩
      case round =>
        obtain ⟨k, hk, rfl, rfl⟩ := hrel
        by_cases hlt : k < L
        · obtain ⟨bx, ox, rfl, hbx, hcx⟩ := HX4.out.at_ hlt
          have qk : (k : Int) < (L : Int) := by omega
          have qk0 : (0 : Int) ≤ (k : Int) := by omega
          have HST := Lib.hid (snN_step (X := X) (k := k) (by rw [HXL.out]; exact hlt))
          clear hbx
          by_cases hc : co X k = 0
          · have qc : toI (co X k) = 0 := by rw [hc]; rfl
            have hs := HST.out.1 hc
            clear hc
            cases hv : snN X k 0 with
            | true => (go_wp2_with fail); go_round; (case rel => exact ⟨k + 1, by omega, by go_num, by rw [hs]⟩); (case measure => simp [intOf]; omega)
            | false => (go_wp2_with fail); go_round; (case rel => exact ⟨k + 1, by omega, by go_num, by rw [hs]⟩); (case measure => simp [intOf]; omega)
          · have qc : ¬ toI (co X k) = 0 := fun e => hc (toI_eq_zero.1 e)
            have hs := HST.out.2 hc
            clear hc
            cases hv : snN X k 0 with
            | true => (go_wp2_with fail); go_round; (case rel => exact ⟨k + 1, by omega, by go_num, by rw [hs, hv]⟩); (case measure => simp [intOf]; omega)
            | false => (go_wp2_with fail); go_round; (case rel => exact ⟨k + 1, by omega, by go_num, by rw [hs, hv]; simp [qc]⟩); (case measure => simp [intOf]; omega)
        · obtain rfl : L = k := by omega
          have qz := HZ.out
          clear hk hlt
          go_wp2
          all_goals (go_ret; exact ⟨rfl, HB4.out⟩)
    | false =>
      go_upto_region 11 with (first
        | (go_at_call 11; go_loud (refine (new_any _).mono ?_; rintro e w3 ⟨b, rfl, hb0, hf, hb3⟩; have HF3 := Lib.hid hf; have HB3 := Lib.hid (bt HB2.out hb3); have HM3 := Lib.hid (HMM.out.on hb3); have HSq := Lib.hid (HSP.out b T n m L aS cS S (some ⟨g2, 0, none⟩) m (padM M m) aX cX X w3 hf (HS.out.on HB3.out) HM3.out (HX.out.on HB3.out) HT.out.1 HT.out.2 HMT.out (snN_false HXL.out HZ.out) (by have := HN.out; omega) (by have := HN.out; omega)); clear hf hb0 hb3))
        | (go_at_call 12; go_loud ((with_reducible refine HSq.out.mono ?_); rintro e w4 ⟨a4, c4, rfl, hm4, hb4⟩; have HL4 := Lib.hid hm4.mat; have HB34 := Lib.hid hb4; have HB4 := Lib.hid (bt HB3.out hb4); clear hm4 hb4)))
      have HX4 := Lib.hid (HX.out.on HB4.out)
      go_loop [15, 69] (fun z s => ∃ k : Nat, k ≤ L ∧ s = .int .i64 (k : Nat) ∧ z = .bool (snN X k 0)) (fun _ s => L - (intOf s).toNat)
      case atStart => exact ⟨0, by omega, rfl, by rw [snN_zero]⟩
      case round =>
        obtain ⟨k, hk, rfl, rfl⟩ := hrel
        by_cases hlt : k < L
        · obtain ⟨bx, ox, rfl, hbx, hcx⟩ := HX4.out.at_ hlt
          have qk : (k : Int) < (L : Int) := by omega
          have qk0 : (0 : Int) ≤ (k : Int) := by omega
          have HST := Lib.hid (snN_step (X := X) (k := k) (by rw [HXL.out]; exact hlt))
          clear hbx
          by_cases hc : co X k = 0
          · have qc : toI (co X k) = 0 := by rw [hc]; rfl
            have hs := HST.out.1 hc
            clear hc
            cases hv : snN X k 0 with
            | true => (go_wp2_with fail); go_round; (case rel => exact ⟨k + 1, by omega, by go_num, by rw [hs]⟩); (case measure => simp [intOf]; omega)
            | false => (go_wp2_with fail); go_round; (case rel => exact ⟨k + 1, by omega, by go_num, by rw [hs]⟩); (case measure => simp [intOf]; omega)
          · have qc : ¬ toI (co X k) = 0 := fun e => hc (toI_eq_zero.1 e)
            have hs := HST.out.2 hc
            clear hc
            cases hv : snN X k 0 with
            | true => (go_wp2_with fail); go_round; (case rel => exact ⟨k + 1, by omega, by go_num, by rw [hs, hv]⟩); (case measure => simp [intOf]; omega)
            | false => (go_wp2_with fail); go_round; (case rel => exact ⟨k + 1, by omega, by go_num, by rw [hs, hv]; simp [qc]⟩); (case measure => simp [intOf]; omega)
        · obtain rfl : L = k := by omega
          have qz := HZ.out
          clear hk hlt
          have HMZ := Lib.hid (HMK.out T n w4 HT.out.1 HT.out.2 (by have := HN.out; omega))
          rw [← HMT.out] at HMZ
          have HNZ := Lib.hid (snN_false HXL.out HZ.out)
          go_upto_region 24 with (go_at_call 14; go_loud ((with_reducible refine HMZ.out.mono ?_); rintro e w5 ⟨rfl, hb5⟩; have HB35 := Lib.hid (bt HB34.out hb5); have HL5 := Lib.hid (HL4.out.on hb5); clear hb5))
          have HB5 := Lib.hid (bt HB3.out HB35.out)
          have HF5 := Lib.hid (HF3.out.below HB35.out)
          have HM5 := Lib.hid (HM3.out.on HB35.out)
          have HS5 := Lib.hid (HS.out.on HB5.out)
          have HX5 := Lib.hid (HX.out.on HB5.out)
          clear HMZ HL4 HB34 HB35 HX4
          go_loopw [129] (fun s wr => ∃ k : Nat, k ≤ L ∧ s = .int .i64 (k : Nat) ∧ Hid (Below w5.heap.size w5 wr)) (fun s _ => L - (intOf s).toNat)
          case atStart => exact ⟨0, by omega, rfl, Lib.hid (Below.refl _ _)⟩
          case round =>
            obtain ⟨k, hk, rfl, hB⟩ := hrel
            rename World => w6
            have HB56 := Lib.hid hB.out
            clear hB
            by_cases hlt : k < L
            · obtain ⟨bx, ox, rfl, hbx, hcx⟩ := (HX5.out.on HB56.out).at_ hlt
              obtain ⟨bl, ol, al, cl, rfl, hbl, hcl, hpl⟩ := HL5.out.row hlt
              rw [rw_shM_len (by rw [HXL.out]; exact hlt)] at hcl hpl
              rw [shM_row (by rw [HXL.out]; exact hlt)] at hpl
              have qk : (k : Int) < (L : Int) := by omega
              have qk0 : (0 : Int) ≤ (k : Int) := by omega
              have HNK := Lib.hid (HNZ.out k hlt)
              have HLT := Lib.hid hlt
              have HSa := Lib.hid (HSH.out b T n m aS cS S (some ⟨g2, 0, none⟩) m (padM M m) (co X k) w6 (HF5.out.below HB56.out) (HS5.out.on HB56.out) (HM5.out.on HB56.out) HT.out.1 HT.out.2 HMT.out HNK.out (by have := HN.out; omega))
              have HBL := Lib.hid hbl
              have HPL := Lib.hid hpl
              have HCL := Lib.hid hcl
              clear hbx hlt hbl hpl hcl
              go_upto_region 27 with (go_at_call 15; go_loud ((with_reducible refine HSa.out.mono ?_); rintro e w7 ⟨a7, c7, rfl, hp7, hb7⟩; have HP7 := Lib.hid hp7; have HB7 := Lib.hid (bt HB56.out hb7); clear hp7 hb7))
              have hcr : w7.cell? ⟨bl, ol + k, none⟩ = some (.slice al n cl) := (HB7.out.cell (p := ⟨bl, ol + k, none⟩) HBL.out).trans HCL.out
              have hcrd : w7.drew.cell? ⟨bl, ol + k, none⟩ = some (.slice al n cl) := hcr
              have hb7l : bl < w7.heap.size := Nat.lt_of_lt_of_le HBL.out HB7.out.size
              have hv1 : ∀ W, Below w7.heap.size w7 W → (convert 22 9 (.slice al n cl)).run Try.prog W = .ok (.string (strOfNums (iL (shR T n S (padM M m) (co X k))))) W := fun W hW => HPL.out.str_on rfl W (bt HB7.out hW)
              have hv2 : ∀ W, Below w7.heap.size w7 W → (convert 22 9 (.slice a7 n c7)).run Try.prog W = .ok (.string (strOfNums (iL (shR T n S (padM M m) (co X k))))) W := fun W hW => HP7.out.str_on rfl W hW
              have HRF := Lib.hid (fun (W : World) (hW : Below w7.heap.size w7 W) => refShare_any T n m aS cS S (some ⟨g2, 0, none⟩) m (padM M m) (co X k) W ((HS5.out.on HB7.out).on hW) ((HM5.out.on HB7.out).on hW) HT.out.1 (by have := HT.out; omega) (by have := HN.out; omega) HMT.out)
              clear HSa
              go_wp2_with fail
              go_region_held (fun W => W.cell? ⟨bl, ol + k, none⟩ = some (.slice al n cl) ∧ Below w7.heap.size w7 W) (first | exact ⟨hcrd, (Below.refl _ _).drew⟩ | assumption | exact ⟨(hb8.cell (p := ⟨bl, ol + k, none⟩) hb7l).trans hcr, (Below.refl _ _).drew.trans hb8⟩)
                (first | (go_at_call 16; go_loud ((refine (HRF.out _ (by first | assumption | exact (Below.refl _ _).drew)).mono ?_); rintro e w8 ⟨g8, c8, rfl, hp8, hb8⟩; have hv8 := hp8.str_on rfl; have hrf8 := Below.refl w8.heap.size w8)))
              all_goals (go_wp2; go_roundw; (case rel => exact ⟨k + 1, by have := HLT.out; omega, by go_num, Lib.hid (bt HB7.out ((Below.refl _ _).drew.trans hb8))⟩); (case measure => simp [intOf]; have := HLT.out; omega))
            · obtain rfl : L = k := by omega
              have HB6 := Lib.hid (bt HB5.out HB56.out)
              have HNil := Lib.hid (HAR.out T n m L aS cS S (some ⟨g2, 0, none⟩) m (padM M m) aX cX X w6 (HS5.out.on HB56.out) (HM5.out.on HB56.out) (HX5.out.on HB56.out) HT.out.1 HT.out.2 (by have := HN.out; omega) (by have := HN.out; omega))
              have HM1Z := Lib.hid (fun V => HMN.out 0 1 V (i64_wf (by omega) (by omega)) (i64_wf (by omega) (by omega)) (by omega))
              have HM2Z := Lib.hid (fun V => HMN.out 256 1 V (i64_wf (by omega) (by omega)) (i64_wf (by omega) (by omega)) (by omega))
              have HM3Z := Lib.hid (fun V => HMN.out 2 (-1) V (i64_wf (by omega) (by omega)) (i64_wf (by omega) (by omega)) (by omega))
              clear hk hlt
              go_wp2_with (first
                | (go_at_call 12; go_loud (refine HNil.out.mono ?_; rintro e w9 ⟨v9, rfl, hb9⟩; have HB9 := Lib.hid (bt HB6.out hb9); have HZr := Lib.hid (HZE.out b T n m aS cS S (some ⟨g2, 0, none⟩) m (padM M m) w9 (HF5.out.below (bt HB56.out hb9)) (HS5.out.on (bt HB56.out hb9)) (HM5.out.on (bt HB56.out hb9)) HT.out.1 HT.out.2 (by have := HN.out; omega)); clear hb9))
                | (go_at_call 15; go_loud (refine HZr.out.mono ?_; rintro e w10 ⟨v10, rfl, hb10⟩; have HB10 := Lib.hid (bt HB9.out hb10); clear hb10))
                | (go_at_call 14; (with_reducible refine (HM1Z.out _).mono ?_); rintro e w11 ⟨rfl, hb11⟩; have HB11 := Lib.hid (bt HB10.out hb11); clear hb11)
                | (go_at_call 14; (with_reducible refine (HM2Z.out _).mono ?_); rintro e w12 ⟨rfl, hb12⟩; have HB12 := Lib.hid (bt HB11.out hb12); clear hb12)
                | (go_at_call 14; (with_reducible refine (HM3Z.out _).mono ?_); rintro e w13 ⟨rfl, hb13⟩; have HB13 := Lib.hid (bt HB12.out hb13); clear hb13))
              all_goals (go_ret; exact ⟨rfl, HB13.out⟩)
  | false =>
    go_upto_region 6 with fail
    have HMM := Lib.hid (HM.out.on HB1.out)
    have HB2 := HB1
    by_cases hA : t < 1
    · have qA : t < 1 := hA
      go_upto_region 11 with (first
        | (go_at_call 11; go_loud (refine (new_any _).mono ?_; rintro e w3 ⟨b, rfl, hb0, hf, hb3⟩; have HF3 := Lib.hid hf; have HB3 := Lib.hid (bt HB2.out hb3); have HM3 := Lib.hid (HMM.out.on hb3); have HSq := Lib.hid (HRG.out b n m0 L t aS cS S aM cM M aX cX X w3 hf (HS.out.on HB3.out) HM3.out (HX.out.on HB3.out) HTW.out (.inl qA) (by have := HN.out; omega) (by have := HN.out; omega)); clear hf hb0 hb3))
        | (go_at_call 12; go_loud ((with_reducible refine HSq.out.mono ?_); rintro e w4 ⟨a4, c4, rfl, hb4⟩; have HB4 := Lib.hid (bt HB3.out hb4); clear hb4)))
      have HX4 := Lib.hid (HX.out.on HB4.out)
      go_loop [15, 69] (fun z s => ∃ k : Nat, k ≤ L ∧ s = .int .i64 (k : Nat) ∧ z = .bool (snN X k 0)) (fun _ s => L - (intOf s).toNat)
      case atStart => exact ⟨0, by omega, rfl, by rw [snN_zero]⟩
      case round =>
        obtain ⟨k, hk, rfl, rfl⟩ := hrel
        by_cases hlt : k < L
        · obtain ⟨bx, ox, rfl, hbx, hcx⟩ := HX4.out.at_ hlt
          have qk : (k : Int) < (L : Int) := by omega
          have qk0 : (0 : Int) ≤ (k : Int) := by omega
          have HST := Lib.hid (snN_step (X := X) (k := k) (by rw [HXL.out]; exact hlt))
          clear hbx
          by_cases hc : co X k = 0
          · have qc : toI (co X k) = 0 := by rw [hc]; rfl
            have hs := HST.out.1 hc
            clear hc
            cases hv : snN X k 0 with
            | true => (go_wp2_with fail); go_round; (case rel => exact ⟨k + 1, by omega, by go_num, by rw [hs]⟩); (case measure => simp [intOf]; omega)
            | false => (go_wp2_with fail); go_round; (case rel => exact ⟨k + 1, by omega, by go_num, by rw [hs]⟩); (case measure => simp [intOf]; omega)
          · have qc : ¬ toI (co X k) = 0 := fun e => hc (toI_eq_zero.1 e)
            have hs := HST.out.2 hc
            clear hc
            cases hv : snN X k 0 with
            | true => (go_wp2_with fail); go_round; (case rel => exact ⟨k + 1, by omega, by go_num, by rw [hs, hv]⟩); (case measure => simp [intOf]; omega)
            | false => (go_wp2_with fail); go_round; (case rel => exact ⟨k + 1, by omega, by go_num, by rw [hs, hv]; simp [qc]⟩); (case measure => simp [intOf]; omega)
        · obtain rfl : L = k := by omega
          have qz := HZ.out
          clear hk hlt
          go_wp2
          all_goals (go_ret; exact ⟨rfl, HB4.out⟩)
    · by_cases hA2 : 255 < t
      · have qA : ¬ t < 1 := hA
        go_upto_region 11 with (first
          | (go_at_call 11; go_loud (refine (new_any _).mono ?_; rintro e w3 ⟨b, rfl, hb0, hf, hb3⟩; have HF3 := Lib.hid hf; have HB3 := Lib.hid (bt HB2.out hb3); have HM3 := Lib.hid (HMM.out.on hb3); have HSq := Lib.hid (HRG.out b n m0 L t aS cS S aM cM M aX cX X w3 hf (HS.out.on HB3.out) HM3.out (HX.out.on HB3.out) HTW.out (.inr (.inl hA2)) (by have := HN.out; omega) (by have := HN.out; omega)); clear hf hb0 hb3))
          | (go_at_call 12; go_loud ((with_reducible refine HSq.out.mono ?_); rintro e w4 ⟨a4, c4, rfl, hb4⟩; have HB4 := Lib.hid (bt HB3.out hb4); clear hb4)))
        have HX4 := Lib.hid (HX.out.on HB4.out)
        go_loop [15, 69] (fun z s => ∃ k : Nat, k ≤ L ∧ s = .int .i64 (k : Nat) ∧ z = .bool (snN X k 0)) (fun _ s => L - (intOf s).toNat)
        case atStart => exact ⟨0, by omega, rfl, by rw [snN_zero]⟩
        case round =>
          obtain ⟨k, hk, rfl, rfl⟩ := hrel
          by_cases hlt : k < L
          · obtain ⟨bx, ox, rfl, hbx, hcx⟩ := HX4.out.at_ hlt
            have qk : (k : Int) < (L : Int) := by omega
            have qk0 : (0 : Int) ≤ (k : Int) := by omega
            have HST := Lib.hid (snN_step (X := X) (k := k) (by rw [HXL.out]; exact hlt))
            clear hbx
            by_cases hc : co X k = 0
            · have qc : toI (co X k) = 0 := by rw [hc]; rfl
              have hs := HST.out.1 hc
              clear hc
              cases hv : snN X k 0 with
              | true => (go_wp2_with fail); go_round; (case rel => exact ⟨k + 1, by omega, by go_num, by rw [hs]⟩); (case measure => simp [intOf]; omega)
              | false => (go_wp2_with fail); go_round; (case rel => exact ⟨k + 1, by omega, by go_num, by rw [hs]⟩); (case measure => simp [intOf]; omega)
            · have qc : ¬ toI (co X k) = 0 := fun e => hc (toI_eq_zero.1 e)
              have hs := HST.out.2 hc
              clear hc
              cases hv : snN X k 0 with
              | true => (go_wp2_with fail); go_round; (case rel => exact ⟨k + 1, by omega, by go_num, by rw [hs, hv]⟩); (case measure => simp [intOf]; omega)
              | false => (go_wp2_with fail); go_round; (case rel => exact ⟨k + 1, by omega, by go_num, by rw [hs, hv]; simp [qc]⟩); (case measure => simp [intOf]; omega)
          · obtain rfl : L = k := by omega
            have qz := HZ.out
            clear hk hlt
            go_wp2
            all_goals (go_ret; exact ⟨rfl, HB4.out⟩)
      · obtain ⟨T, rfl⟩ : ∃ T : Nat, t = (T : Int) := ⟨t.toNat, by omega⟩
        have HT := Lib.hid (show 1 ≤ T ∧ T ≤ 255 by omega)
        have qT2 : (1 : Int) ≤ (T : Int) := by omega
        have qT3 : (T : Int) ≤ 255 := by omega
        clear hA hA2
        cases z with
        | true =>
          go_upto_region 11 with (first
            | (go_at_call 11; go_loud (refine (new_any _).mono ?_; rintro e w3 ⟨b, rfl, hb0, hf, hb3⟩; have HF3 := Lib.hid hf; have HB3 := Lib.hid (bt HB2.out hb3); have HM3 := Lib.hid (HMM.out.on hb3); have HSq := Lib.hid (HRG.out b n m0 L (T : Int) aS cS S aM cM M aX cX X w3 hf (HS.out.on HB3.out) HM3.out (HX.out.on HB3.out) HTW.out (.inr (.inr (snN_true HXL.out HZ.out))) (by have := HN.out; omega) (by have := HN.out; omega)); clear hf hb0 hb3))
            | (go_at_call 12; go_loud ((with_reducible refine HSq.out.mono ?_); rintro e w4 ⟨a4, c4, rfl, hb4⟩; have HB4 := Lib.hid (bt HB3.out hb4); clear hb4)))
          have HX4 := Lib.hid (HX.out.on HB4.out)
          go_loop [15, 69] (fun z s => ∃ k : Nat, k ≤ L ∧ s = .int .i64 (k : Nat) ∧ z = .bool (snN X k 0)) (fun _ s => L - (intOf s).toNat)
          case atStart => exact ⟨0, by omega, rfl, by rw [snN_zero]⟩
          case round =>
            obtain ⟨k, hk, rfl, rfl⟩ := hrel
            by_cases hlt : k < L
            · obtain ⟨bx, ox, rfl, hbx, hcx⟩ := HX4.out.at_ hlt
              have qk : (k : Int) < (L : Int) := by omega
              have qk0 : (0 : Int) ≤ (k : Int) := by omega
              have HST := Lib.hid (snN_step (X := X) (k := k) (by rw [HXL.out]; exact hlt))
              clear hbx
              by_cases hc : co X k = 0
              · have qc : toI (co X k) = 0 := by rw [hc]; rfl
                have hs := HST.out.1 hc
                clear hc
                cases hv : snN X k 0 with
                | true => (go_wp2_with fail); go_round; (case rel => exact ⟨k + 1, by omega, by go_num, by rw [hs]⟩); (case measure => simp [intOf]; omega)
                | false => (go_wp2_with fail); go_round; (case rel => exact ⟨k + 1, by omega, by go_num, by rw [hs]⟩); (case measure => simp [intOf]; omega)
              · have qc : ¬ toI (co X k) = 0 := fun e => hc (toI_eq_zero.1 e)
                have hs := HST.out.2 hc
                clear hc
                cases hv : snN X k 0 with
                | true => (go_wp2_with fail); go_round; (case rel => exact ⟨k + 1, by omega, by go_num, by rw [hs, hv]⟩); (case measure => simp [intOf]; omega)
                | false => (go_wp2_with fail); go_round; (case rel => exact ⟨k + 1, by omega, by go_num, by rw [hs, hv]; simp [qc]⟩); (case measure => simp [intOf]; omega)
            · obtain rfl : L = k := by omega
              have qz := HZ.out
              clear hk hlt
              go_wp2
              all_goals (go_ret; exact ⟨rfl, HB4.out⟩)
        | false =>
          obtain ⟨q, hq⟩ : ∃ q, q = T - 1 := ⟨_, rfl⟩
          have qT1 : (T : Int) - 1 = (q : Int) := by have := HT.out; omega
          obtain ⟨m, hm⟩ : ∃ m, m = q * n := ⟨_, rfl⟩
          have hmq : m ≤ 254 * 40 := by rw [hm]; exact Nat.mul_le_mul (by have := HT.out; omega) HN.out.1
          have qm : (q : Int) * (n : Int) = (m : Int) := by rw [hm]; rfl
          have HMT := Lib.hid (show m = (T - 1) * n by rw [hm, hq])
          have qm3 : (m : Int) ≤ 20000 := by omega
          clear hm hmq hq
          by_cases hf : m0 = m
          · subst hf
            go_upto_region 11 with (first
              | (go_at_call 11; go_loud (refine (new_any _).mono ?_; rintro e w3 ⟨b, rfl, hb0, hf, hb3⟩; have HF3 := Lib.hid hf; have HB3 := Lib.hid (bt HB2.out hb3); have HM3 := Lib.hid (HMM.out.on hb3); have HSq := Lib.hid (HSP.out b T n m0 L aS cS S aM cM M aX cX X w3 hf (HS.out.on HB3.out) HM3.out (HX.out.on HB3.out) HT.out.1 HT.out.2 HMT.out (snN_false HXL.out HZ.out) (by have := HN.out; omega) (by have := HN.out; omega)); clear hf hb0 hb3))
              | (go_at_call 12; go_loud ((with_reducible refine HSq.out.mono ?_); rintro e w4 ⟨a4, c4, rfl, hm4, hb4⟩; have HL4 := Lib.hid hm4.mat; have HB34 := Lib.hid hb4; have HB4 := Lib.hid (bt HB3.out hb4); clear hm4 hb4)))
            have HX4 := Lib.hid (HX.out.on HB4.out)
            go_loop [15, 69] (fun z s => ∃ k : Nat, k ≤ L ∧ s = .int .i64 (k : Nat) ∧ z = .bool (snN X k 0)) (fun _ s => L - (intOf s).toNat)
            case atStart => exact ⟨0, by omega, rfl, by rw [snN_zero]⟩
            case round =>
              obtain ⟨k, hk, rfl, rfl⟩ := hrel
              by_cases hlt : k < L
              · obtain ⟨bx, ox, rfl, hbx, hcx⟩ := HX4.out.at_ hlt
                have qk : (k : Int) < (L : Int) := by omega
                have qk0 : (0 : Int) ≤ (k : Int) := by omega
                have HST := Lib.hid (snN_step (X := X) (k := k) (by rw [HXL.out]; exact hlt))
                clear hbx
                by_cases hc : co X k = 0
                · have qc : toI (co X k) = 0 := by rw [hc]; rfl
                  have hs := HST.out.1 hc
                  clear hc
                  cases hv : snN X k 0 with
                  | true => (go_wp2_with fail); go_round; (case rel => exact ⟨k + 1, by omega, by go_num, by rw [hs]⟩); (case measure => simp [intOf]; omega)
                  | false => (go_wp2_with fail); go_round; (case rel => exact ⟨k + 1, by omega, by go_num, by rw [hs]⟩); (case measure => simp [intOf]; omega)
                · have qc : ¬ toI (co X k) = 0 := fun e => hc (toI_eq_zero.1 e)
                  have hs := HST.out.2 hc
                  clear hc
                  cases hv : snN X k 0 with
                  | true => (go_wp2_with fail); go_round; (case rel => exact ⟨k + 1, by omega, by go_num, by rw [hs, hv]⟩); (case measure => simp [intOf]; omega)
                  | false => (go_wp2_with fail); go_round; (case rel => exact ⟨k + 1, by omega, by go_num, by rw [hs, hv]; simp [qc]⟩); (case measure => simp [intOf]; omega)
              · obtain rfl : L = k := by omega
                have qz := HZ.out
                clear hk hlt
                have HMZ := Lib.hid (HMK.out T n w4 HT.out.1 HT.out.2 (by have := HN.out; omega))
                rw [← HMT.out] at HMZ
                have HNZ := Lib.hid (snN_false HXL.out HZ.out)
                go_upto_region 24 with (go_at_call 14; go_loud ((with_reducible refine HMZ.out.mono ?_); rintro e w5 ⟨rfl, hb5⟩; have HB35 := Lib.hid (bt HB34.out hb5); have HL5 := Lib.hid (HL4.out.on hb5); clear hb5))
                have HB5 := Lib.hid (bt HB3.out HB35.out)
                have HF5 := Lib.hid (HF3.out.below HB35.out)
                have HM5 := Lib.hid (HM3.out.on HB35.out)
                have HS5 := Lib.hid (HS.out.on HB5.out)
                have HX5 := Lib.hid (HX.out.on HB5.out)
                clear HMZ HL4 HB34 HB35 HX4
                go_loopw [129] (fun s wr => ∃ k : Nat, k ≤ L ∧ s = .int .i64 (k : Nat) ∧ Hid (Below w5.heap.size w5 wr)) (fun s _ => L - (intOf s).toNat)
                case atStart => exact ⟨0, by omega, rfl, Lib.hid (Below.refl _ _)⟩
                case round =>
                  obtain ⟨k, hk, rfl, hB⟩ := hrel
                  rename World => w6
                  have HB56 := Lib.hid hB.out
                  clear hB
                  by_cases hlt : k < L
                  · obtain ⟨bx, ox, rfl, hbx, hcx⟩ := (HX5.out.on HB56.out).at_ hlt
                    obtain ⟨bl, ol, al, cl, rfl, hbl, hcl, hpl⟩ := HL5.out.row hlt
                    rw [rw_shM_len (by rw [HXL.out]; exact hlt)] at hcl hpl
                    rw [shM_row (by rw [HXL.out]; exact hlt)] at hpl
                    have qk : (k : Int) < (L : Int) := by omega
                    have qk0 : (0 : Int) ≤ (k : Int) := by omega
                    have HNK := Lib.hid (HNZ.out k hlt)
                    have HLT := Lib.hid hlt
                    have HSa := Lib.hid (HSH.out b T n m0 aS cS S aM cM M (co X k) w6 (HF5.out.below HB56.out) (HS5.out.on HB56.out) (HM5.out.on HB56.out) HT.out.1 HT.out.2 HMT.out HNK.out (by have := HN.out; omega))
                    have HBL := Lib.hid hbl
                    have HPL := Lib.hid hpl
                    have HCL := Lib.hid hcl
                    clear hbx hlt hbl hpl hcl
                    go_upto_region 27 with (go_at_call 15; go_loud ((with_reducible refine HSa.out.mono ?_); rintro e w7 ⟨a7, c7, rfl, hp7, hb7⟩; have HP7 := Lib.hid hp7; have HB7 := Lib.hid (bt HB56.out hb7); clear hp7 hb7))
                    have hcr : w7.cell? ⟨bl, ol + k, none⟩ = some (.slice al n cl) := (HB7.out.cell (p := ⟨bl, ol + k, none⟩) HBL.out).trans HCL.out
                    have hcrd : w7.drew.cell? ⟨bl, ol + k, none⟩ = some (.slice al n cl) := hcr
                    have hb7l : bl < w7.heap.size := Nat.lt_of_lt_of_le HBL.out HB7.out.size
                    have hv1 : ∀ W, Below w7.heap.size w7 W → (convert 22 9 (.slice al n cl)).run Try.prog W = .ok (.string (strOfNums (iL (shR T n S M (co X k))))) W := fun W hW => HPL.out.str_on rfl W (bt HB7.out hW)
                    have hv2 : ∀ W, Below w7.heap.size w7 W → (convert 22 9 (.slice a7 n c7)).run Try.prog W = .ok (.string (strOfNums (iL (shR T n S M (co X k))))) W := fun W hW => HP7.out.str_on rfl W hW
                    have HRF := Lib.hid (fun (W : World) (hW : Below w7.heap.size w7 W) => refShare_any T n m0 aS cS S aM cM M (co X k) W ((HS5.out.on HB7.out).on hW) ((HM5.out.on HB7.out).on hW) HT.out.1 (by have := HT.out; omega) (by have := HN.out; omega) HMT.out)
                    clear HSa
                    go_wp2_with fail
                    go_region_held (fun W => W.cell? ⟨bl, ol + k, none⟩ = some (.slice al n cl) ∧ Below w7.heap.size w7 W) (first | exact ⟨hcrd, (Below.refl _ _).drew⟩ | assumption | exact ⟨(hb8.cell (p := ⟨bl, ol + k, none⟩) hb7l).trans hcr, (Below.refl _ _).drew.trans hb8⟩)
                      (first | (go_at_call 16; go_loud ((refine (HRF.out _ (by first | assumption | exact (Below.refl _ _).drew)).mono ?_); rintro e w8 ⟨g8, c8, rfl, hp8, hb8⟩; have hv8 := hp8.str_on rfl; have hrf8 := Below.refl w8.heap.size w8)))
                    all_goals (go_wp2; go_roundw; (case rel => exact ⟨k + 1, by have := HLT.out; omega, by go_num, Lib.hid (bt HB7.out ((Below.refl _ _).drew.trans hb8))⟩); (case measure => simp [intOf]; have := HLT.out; omega))
                  · obtain rfl : L = k := by omega
                    have HB6 := Lib.hid (bt HB5.out HB56.out)
                    have HNil := Lib.hid (HAR.out T n m0 L aS cS S aM cM M aX cX X w6 (HS5.out.on HB56.out) (HM5.out.on HB56.out) (HX5.out.on HB56.out) HT.out.1 HT.out.2 (by have := HN.out; omega) (by have := HN.out; omega))
                    have HM1Z := Lib.hid (fun V => HMN.out 0 1 V (i64_wf (by omega) (by omega)) (i64_wf (by omega) (by omega)) (by omega))
                    have HM2Z := Lib.hid (fun V => HMN.out 256 1 V (i64_wf (by omega) (by omega)) (i64_wf (by omega) (by omega)) (by omega))
                    have HM3Z := Lib.hid (fun V => HMN.out 2 (-1) V (i64_wf (by omega) (by omega)) (i64_wf (by omega) (by omega)) (by omega))
                    clear hk hlt
                    go_wp2_with (first
                      | (go_at_call 12; go_loud (refine HNil.out.mono ?_; rintro e w9 ⟨v9, rfl, hb9⟩; have HB9 := Lib.hid (bt HB6.out hb9); have HZr := Lib.hid (HZE.out b T n m0 aS cS S aM cM M w9 (HF5.out.below (bt HB56.out hb9)) (HS5.out.on (bt HB56.out hb9)) (HM5.out.on (bt HB56.out hb9)) HT.out.1 HT.out.2 (by have := HN.out; omega)); clear hb9))
                      | (go_at_call 15; go_loud (refine HZr.out.mono ?_; rintro e w10 ⟨v10, rfl, hb10⟩; have HB10 := Lib.hid (bt HB9.out hb10); clear hb10))
                      | (go_at_call 14; (with_reducible refine (HM1Z.out _).mono ?_); rintro e w11 ⟨rfl, hb11⟩; have HB11 := Lib.hid (bt HB10.out hb11); clear hb11)
                      | (go_at_call 14; (with_reducible refine (HM2Z.out _).mono ?_); rintro e w12 ⟨rfl, hb12⟩; have HB12 := Lib.hid (bt HB11.out hb12); clear hb12)
                      | (go_at_call 14; (with_reducible refine (HM3Z.out _).mono ?_); rintro e w13 ⟨rfl, hb13⟩; have HB13 := Lib.hid (bt HB12.out hb13); clear hb13))
                    all_goals (go_ret; exact ⟨rfl, HB13.out⟩)
          · have qf : ¬ (m0 : Int) = (m : Int) := by omega
            have HNE := Lib.hid (show m0 ≠ (T - 1) * n by rw [← HMT.out]; exact hf)
            clear hf
            go_upto_region 11 with (first
              | (go_at_call 11; go_loud (refine (new_any _).mono ?_; rintro e w3 ⟨b, rfl, hb0, hf, hb3⟩; have HF3 := Lib.hid hf; have HB3 := Lib.hid (bt HB2.out hb3); have HM3 := Lib.hid (HMM.out.on hb3); have HSq := Lib.hid (HFO.out b T n m0 L aS cS S aM cM M aX cX X w3 hf (HS.out.on HB3.out) HM3.out (HX.out.on HB3.out) HT.out.1 HT.out.2 (snN_false HXL.out HZ.out) HNE.out (by have := HN.out; omega) (by have := HN.out; omega)); clear hf hb0 hb3))
              | (go_at_call 12; go_loud ((with_reducible refine HSq.out.mono ?_); rintro e w4 ⟨a4, c4, rfl, hb4⟩; have HB4 := Lib.hid (bt HB3.out hb4); clear hb4)))
            have HX4 := Lib.hid (HX.out.on HB4.out)
            go_loop [15, 69] (fun z s => ∃ k : Nat, k ≤ L ∧ s = .int .i64 (k : Nat) ∧ z = .bool (snN X k 0)) (fun _ s => L - (intOf s).toNat)
            case atStart => exact ⟨0, by omega, rfl, by rw [snN_zero]⟩
            case round =>
              obtain ⟨k, hk, rfl, rfl⟩ := hrel
              by_cases hlt : k < L
              · obtain ⟨bx, ox, rfl, hbx, hcx⟩ := HX4.out.at_ hlt
                have qk : (k : Int) < (L : Int) := by omega
                have qk0 : (0 : Int) ≤ (k : Int) := by omega
                have HST := Lib.hid (snN_step (X := X) (k := k) (by rw [HXL.out]; exact hlt))
                clear hbx
                by_cases hc : co X k = 0
                · have qc : toI (co X k) = 0 := by rw [hc]; rfl
                  have hs := HST.out.1 hc
                  clear hc
                  cases hv : snN X k 0 with
                  | true => (go_wp2_with fail); go_round; (case rel => exact ⟨k + 1, by omega, by go_num, by rw [hs]⟩); (case measure => simp [intOf]; omega)
                  | false => (go_wp2_with fail); go_round; (case rel => exact ⟨k + 1, by omega, by go_num, by rw [hs]⟩); (case measure => simp [intOf]; omega)
                · have qc : ¬ toI (co X k) = 0 := fun e => hc (toI_eq_zero.1 e)
                  have hs := HST.out.2 hc
                  clear hc
                  cases hv : snN X k 0 with
                  | true => (go_wp2_with fail); go_round; (case rel => exact ⟨k + 1, by omega, by go_num, by rw [hs, hv]⟩); (case measure => simp [intOf]; omega)
                  | false => (go_wp2_with fail); go_round; (case rel => exact ⟨k + 1, by omega, by go_num, by rw [hs, hv]; simp [qc]⟩); (case measure => simp [intOf]; omega)
              · obtain rfl : L = k := by omega
                have qz := HZ.out
                clear hk hlt
                go_wp2
                all_goals (go_ret; exact ⟨rfl, HB4.out⟩)
end Go.Proofs.Ytmhknggjpggagaa
