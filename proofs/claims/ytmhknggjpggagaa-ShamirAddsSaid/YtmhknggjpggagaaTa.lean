/- ShamirAdds' walk, under the contracts. -/
import Derived.Test.YtmhknggjpggagaaSe
import Derived.StillTailTactics
namespace Go.Proofs.Ytmhknggjpggagaa
open Go.ChangeShapes Go.WideShapes Go.ChangeAt Go.RowKit Go.Shelf GF
set_option linter.unusedVariables false
set_option linter.unusedSimpArgs false
set_option maxRecDepth 100000

/-- uint(t) % 8 of any number. -/
theorem mod8_of (t : Int) : ∃ q : Nat, (IntKind.u64.wrap t).tmod 8 = (q : Int) ∧ q < 8 := by
  have h : IntKind.u64.wrap t = t % 18446744073709551616 := by rw [IntKind.wrap_u64]
  rw [h, Int.tmod_eq_emod_of_nonneg (by omega)]
  exact ⟨((t % 18446744073709551616) % 8).toNat, by omega, by omega⟩

set_option maxHeartbeats 3000000 in
theorem shamirAdds_core (hSplit : SplitC) (hJoin : JoinC) (hAdd : AddC) (t : Int) (ht : (Lit.int .i64 t).wf = true) (aS : Option Addr) (n cS : Nat) (S : List GF) (aO : Option Addr) (lO cO : Nat) (O : List GF) (aM : Option Addr) (lM cM : Nat) (M : List GF) (aD : Option Addr) (lD cD : Nat) (D : List GF) (aX : Option Addr) (lX cX : Nat) (X : List GF) (w : World)
    (hS : Pa w aS n cS S) (hO : Pa w aO lO cO O) (hM : Pa w aM lM cM M) (hD : Pa w aD lD cD D) (hX : Pa w aX lX cX X) (hn : n ≤ 20) :
    Calls Try.prog 3 #[.int .i64 t, .slice aS n cS, .slice aO lO cO, .slice aM lM cM, .slice aD lD cD, .slice aX lX cX] w fun e w' => e = .returned (.bool true) ∧ Below w.heap.size w w' := by
  have HL8 := Lib.hid (lives8 hSplit hJoin)
  have HSP := Lib.hid hSplit
  have HAD := Lib.hid hAdd
  have HS := Lib.hid hS
  have HO := Lib.hid hO
  have HM := Lib.hid hM
  have HD := Lib.hid hD
  have HX := Lib.hid hX
  have HN := Lib.hid hn
  have qn : (n : Int) ≤ 20 := by omega
  clear hSplit hJoin hAdd hS hO hM hD hX hn
  go_enter Try.func3, Try.ntmps3
  go_upto_region 3 with (go_at_call 8; go_loud ((with_reducible refine (HL8.out w).mono ?_); rintro e w1 ⟨rfl, hb⟩; have HB1 := Lib.hid hb; clear hb))
  go_upto_region 4 with fail
  obtain ⟨q, hq, hq8⟩ := mod8_of t
  obtain ⟨m, hm⟩ : ∃ m, m = q * n := ⟨_, rfl⟩
  have hm140 : m ≤ 140 := by rw [hm]; exact Nat.le_trans (Nat.mul_le_mul (show q ≤ 7 by omega) HN.out) (by omega)
  have HQM := Lib.hid hm
  have HM140 := Lib.hid hm140
  have qm : (q : Int) * (n : Int) = (m : Int) := by rw [hm]; rfl
  obtain ⟨T, hT⟩ : ∃ T, T = q + 1 := ⟨_, rfl⟩
  have HQ := Lib.hid (show q < 8 ∧ T = q + 1 from ⟨hq8, hT⟩)
  have w1q : wrap64 (q : Int) = (q : Int) := by unfold wrap64; omega
  have w2q : wrap64 (1 + (q : Int)) = (T : Int) := by unfold wrap64; omega
  rw [hq, w1q, w2q]
  clear hq w1q w2q ht
  obtain ⟨N, hN⟩ : ∃ N, N = T + 2 := ⟨_, rfl⟩
  have HNT := Lib.hid hN
  have qT1 : (T : Int) - 1 = (q : Int) := by omega
  have qT2 : (T : Int) + 2 = (N : Int) := by omega
  have qT3 : (T : Int) ≤ 8 := by omega
  have qm3 : (m : Int) ≤ 140 := by omega
  clear hm hm140 hT hN hq8
  have HMd1 := Lib.hid (made_blk aO lO cO O n w1 (HO.out.on HB1.out) (by have := HN.out; omega))
  go_upto_region 6 with (first
    | (go_at_call 9; (with_reducible refine HMd1.out.mono ?_); rintro e w2 ⟨g2, rfl, hg2, hk2, hb2⟩; have HG2 := Lib.hid hg2; have HK2 := Lib.hid hk2; have HB2 := Lib.hid (bt HB1.out hb2); have HB12 := Lib.hid hb2; have HMd2 := Lib.hid (made_blk aM lM cM M m w2 (HM.out.on HB2.out) (by have := HM140.out; omega)); clear hg2 hk2 hb2)
    | (go_at_call 9; (with_reducible refine HMd2.out.mono ?_); rintro e w3 ⟨g3, rfl, hg3, hk3, hb3⟩; have HG3 := Lib.hid hg3; have HK3 := Lib.hid hk3; have HB3 := Lib.hid (bt HB2.out hb3); have HB23 := Lib.hid hb3; have HMd3 := Lib.hid (made_blk aD lD cD D m w3 (HD.out.on HB3.out) (by have := HM140.out; omega)); clear hg3 hk3 hb3)
    | (go_at_call 9; (with_reducible refine HMd3.out.mono ?_); rintro e w4 ⟨g4, rfl, hg4, hk4, hb4⟩; have HG4 := Lib.hid hg4; have HK4 := Lib.hid hk4; have HB4 := Lib.hid (bt HB3.out hb4); have HB34 := Lib.hid hb4; clear hg4 hk4 hb4))
  have HUN := Lib.hid (unlike8_any aX lX cX X N w4 (HX.out.on HB4.out) (by have := HNT.out; have := HQ.out; omega))
  go_upto_region 12 with (first
    | (go_at_call 10; go_loud ((with_reducible refine HUN.out.mono ?_); rintro e w5 ⟨aU, cU, U, rfl, hpU, hgU, hlU, hnU, hb5⟩; have HPU := Lib.hid hpU; have HGU := Lib.hid hgU; have HLU := Lib.hid hlU; have HNU := Lib.hid hnU; have HB5 := Lib.hid (bt HB4.out hb5); have HB45 := Lib.hid hb5; clear hpU hgU hlU hnU hb5))
    | (go_at_call 11; go_loud (refine (new_any _).mono ?_; rintro e w6 ⟨b, rfl, hb0, hf, hb6⟩; have HF6 := Lib.hid hf; have HBb := Lib.hid hb0; have HB6 := Lib.hid (bt HB5.out hb6); have HB56 := Lib.hid hb6 ; have HK36 := Lib.hid (HK3.out.on (bt (bt HB34.out HB45.out) hb6) HK3.out.lt) ; have HK46 := Lib.hid (HK4.out.on (bt HB45.out hb6) HK4.out.lt) ; have HK26 := Lib.hid (HK2.out.on (bt (bt (bt HB23.out HB34.out) HB45.out) hb6) HK2.out.lt) ; have HPU6 := Lib.hid (HPU.out.on hb6) ; have HS1 := Lib.hid (HSP.out b T n m N aS cS S (some ⟨g3, 0, none⟩) m (padM M m) aU cU U w6 hf (HS.out.on HB6.out) (HK36.out.pa (padM_len M m) (by have := HM140.out; omega)) HPU6.out (by have := HQ.out; omega) (by have := HQ.out; omega) (by rw [HQM.out, HQ.out.2]; rfl) (fun k hk => gath_co HGU.out (by rw [HLU.out]; exact hk)) (by have := HN.out; omega) (by have := HNT.out; have := HQ.out; omega)) ; clear hf hb0 hb6))
    | (go_at_call 12; go_loud ((with_reducible refine HS1.out.mono ?_); rintro e w7 ⟨a7, c7, rfl, hm7, hb7⟩; have HM7 := Lib.hid hm7; have HB7 := Lib.hid (bt HB6.out hb7); have HB67 := Lib.hid hb7 ; have HS2 := Lib.hid (HSP.out b T n m N (some ⟨g2, 0, none⟩) n (padM O n) (some ⟨g4, 0, none⟩) m (padM D m) aU cU U w7 (HF6.out.below hb7) ((HK26.out.on hb7 HK26.out.lt).pa (padM_len O n) (by have := HN.out; omega)) ((HK46.out.on hb7 HK46.out.lt).pa (padM_len D m) (by have := HM140.out; omega)) (HPU6.out.on hb7) (by have := HQ.out; omega) (by have := HQ.out; omega) (by rw [HQM.out, HQ.out.2]; rfl) (fun k hk => gath_co HGU.out (by rw [HLU.out]; exact hk)) (by have := HN.out; omega) (by have := HNT.out; have := HQ.out; omega)) ; clear hm7 hb7))
    | (go_at_call 12; go_loud ((with_reducible refine HS2.out.mono ?_); rintro e w8 ⟨a8, c8, rfl, hm8, hb8⟩; have HB8 := Lib.hid (bt HB7.out hb8); have HB68 := Lib.hid (bt HB67.out hb8) ; have HA1 := Lib.hid (HAD.out N a7 c7 _ a8 c8 _ w8 (HM7.out.on hb8).mat hm8.mat (fun k hk => by rw [rw_shM_len (by rw [HLU.out]; exact hk), rw_shM_len (by rw [HLU.out]; exact hk)]) (by have := HNT.out; have := HQ.out; omega) (fun k hk => by rw [rw_shM_len (by rw [HLU.out]; exact hk)]; have := HN.out; omega)) ; clear hm8 hb8))
    | (go_at_call 13; go_loud ((with_reducible refine HA1.out.mono ?_); rintro e w9 ⟨a9, c9, rfl, hm9, hb9⟩; have HM9 := Lib.hid hm9; have HB9 := Lib.hid (bt HB8.out hb9); have HB69 := Lib.hid (bt HB68.out hb9); clear hm9 hb9)))
  have HK29 := Lib.hid (HK26.out.on HB69.out HK26.out.lt)
  have HK39 := Lib.hid (HK36.out.on HB69.out HK36.out.lt)
  have HK49 := Lib.hid (HK46.out.on HB69.out HK46.out.lt)
  have HPU9 := Lib.hid (HPU6.out.on HB69.out)
  have HF9 := Lib.hid (HF6.out.below HB69.out)
  have HZ := Lib.hid (show w.heap.size ≤ g2 ∧ g2 < g3 ∧ g3 < g4 ∧ g4 < w4.heap.size ∧ w4.heap.size ≤ w5.heap.size ∧ w5.heap.size ≤ w8.heap.size from
    ⟨Nat.le_trans HB1.out.size HG2.out, Nat.lt_of_lt_of_le HK2.out.lt HG3.out, Nat.lt_of_lt_of_le HK3.out.lt HG4.out, HK4.out.lt, HB45.out.size, Nat.le_trans HB56.out.size HB68.out.size⟩)
  clear HK2 HK3 HK4 HG2 HG3 HG4 HK26 HK36 HK46 HPU6 HF6 HPU HMd1 HMd2 HMd3 HUN HS1 HS2 HA1 HM7 HB12 HB23 HB34 HB67 HB2 HB3 HL8
  go_loopw [88] (fun j wr => ∃ k : Nat, k ≤ n ∧ j = .int .i64 (k : Nat) ∧ Hid (Blk wr g2 5 n (mixV (padM O n) S k)) ∧ Hid (w9.grownBy wr (some g2)) ∧ Hid (Below w.heap.size w wr)) (fun j _ => n - (intOf j).toNat)
  case atStart => exact ⟨0, Nat.zero_le _, rfl, Lib.hid (by rw [mixV_zero]; exact HK29.out), Lib.hid (gb_refl _ _), HB9⟩
  case round =>
    obtain ⟨k, hk, rfl, hK, hG, hB⟩ := hrel
    by_cases hlt : k < n
    · obtain ⟨bx, ox, rfl, hbx, hcx⟩ := (HS.out.on hB.out).at_ hlt
      have q5 : (k : Int) < (n : Int) := by omega
      have q6 : (0 : Int) ≤ (k : Int) := by omega
      have hce := hK.out.cell hlt
      rw [mixV_at] at hce
      have hfz := hK.out.free k
      have hst := Lib.hid (show Blk (World.setCell _ ⟨g2, k, none⟩ (.int .u8 (toI (co (padM O n) k + co S k)))) g2 5 n (mixV (padM O n) S (k + 1)) from (hK.out.set hlt _).congr fun j _ => mixV_set _ _ _ _)
      have hgs := Lib.hid (gb_trans hG.out (gb_set _ g2 k (.int .u8 (toI (co (padM O n) k + co S k)))))
      have hbs := Lib.hid (hB.out.setCell (p := ⟨g2, k, none⟩) HZ.out.1 (.int .u8 (toI (co (padM O n) k + co S k))))
      have hbt := bits_xor_G (co (padM O n) k) (co S k)
      rw [← hbt] at hst hgs hbs
      clear hbt hbx
      go_wp2_with fail
      go_still_tail 10, (by kernel_rfl)
      go_wp2
      go_roundw
      case rel => exact ⟨k + 1, by omega, by go_num, Lib.hid hst.out, Lib.hid (gb_drew hgs.out), Lib.hid hbs.out.drew⟩
      case measure => simp [intOf]; omega
    · obtain rfl : n = k := by omega
      rename World => w10
      clear hk hlt
      have HK210 := Lib.hid ((hK.out.congr (h := gB (addR S (padM O n))) fun j hj => mixV_all (padM_len O n) HS.out.len hj))
      have HK310 := Lib.hid (HK39.out.but hG.out (by have := HZ.out; omega))
      have HK410 := Lib.hid (HK49.out.but hG.out (by have := HZ.out; omega))
      have HPU10 := Lib.hid (HPU9.out.but hG.out (fun b off e => by have := HNU.out b off e; have := HZ.out; omega))
      have HF10 := Lib.hid (HF9.out.but hG.out (by have := HBb.out; have := HZ.out; omega))
      have HM10 := Lib.hid (HM9.out.but hG.out (by have := HZ.out; omega))
      clear hK hG HK29 HK39 HK49 HPU9 HF9 HM9
      have HB10 := Lib.hid hB.out
      clear hB
      go_upto_region 17 with fail
      go_loopw [104] (fun j wr => ∃ k : Nat, k ≤ m ∧ j = .int .i64 (k : Nat) ∧ Hid (Blk wr g4 5 m (mixV (padM D m) (padM M m) k)) ∧ Hid (w10.grownBy wr (some g4)) ∧ Hid (Below w.heap.size w wr)) (fun j _ => m - (intOf j).toNat)
      case atStart => exact ⟨0, Nat.zero_le _, rfl, Lib.hid (by rw [mixV_zero]; exact HK410.out), Lib.hid (gb_refl _ _), HB10⟩
      case round =>
        obtain ⟨k, hk, rfl, hK, hG, hB⟩ := hrel
        by_cases hlt : k < m
        · have hcx := (HK310.out.but hG.out (by have := HZ.out; omega)).cell hlt
          unfold gB at hcx
          have q5 : (k : Int) < (m : Int) := by omega
          have q6 : (0 : Int) ≤ (k : Int) := by omega
          have hce := hK.out.cell hlt
          rw [mixV_at] at hce
          have hfz := hK.out.free k
          have hst := Lib.hid (show Blk (World.setCell _ ⟨g4, k, none⟩ (.int .u8 (toI (co (padM D m) k + co (padM M m) k)))) g4 5 m (mixV (padM D m) (padM M m) (k + 1)) from (hK.out.set hlt _).congr fun j _ => mixV_set _ _ _ _)
          have hgs := Lib.hid (gb_trans hG.out (gb_set _ g4 k (.int .u8 (toI (co (padM D m) k + co (padM M m) k)))))
          have hbs := Lib.hid (hB.out.setCell (p := ⟨g4, k, none⟩) (by have := HZ.out; show w.heap.size ≤ g4; omega) (.int .u8 (toI (co (padM D m) k + co (padM M m) k))))
          have hbt := bits_xor_G (co (padM D m) k) (co (padM M m) k)
          rw [← hbt] at hst hgs hbs
          clear hbt
          go_wp2_with fail
          go_still_tail 10, (by kernel_rfl)
          go_wp2
          go_roundw
          case rel => exact ⟨k + 1, by omega, by go_num, Lib.hid hst.out, Lib.hid (gb_drew hgs.out), Lib.hid hbs.out.drew⟩
          case measure => simp [intOf]; omega
        · obtain rfl : m = k := by omega
          rename World => w11
          clear hk hlt
          have HK411 := Lib.hid (hK.out.congr (h := gB (addR (padM M m) (padM D m))) fun j hj => mixV_all (padM_len D m) (padM_len M m) hj)
          have HK211 := Lib.hid (HK210.out.but hG.out (by have := HZ.out; omega))
          have HPU11 := Lib.hid (HPU10.out.but hG.out (fun b off e => by have := HNU.out b off e; have := HZ.out; omega))
          have HF11 := Lib.hid (HF10.out.but hG.out (by have := HBb.out; have := HZ.out; omega))
          have HM11 := Lib.hid (HM10.out.but hG.out (by have := HZ.out; omega))
          clear hK hG HK210 HK310 HK410 HPU10 HF10 HM10
          have HB11 := Lib.hid hB.out
          clear hB
          have HS3 := Lib.hid (HSP.out b T n m N (some ⟨g2, 0, none⟩) n (addR S (padM O n)) (some ⟨g4, 0, none⟩) m (addR (padM M m) (padM D m)) aU cU U w11 HF11.out (HK211.out.pa (by rw [addR_len]; exact HS.out.len) (by have := HN.out; omega)) (HK411.out.pa (by rw [addR_len]; exact padM_len M m) (by have := HM140.out; omega)) HPU11.out (by have := HQ.out; omega) (by have := HQ.out; omega) (by rw [HQM.out, HQ.out.2]; rfl) (fun k hk => gath_co HGU.out (by rw [HLU.out]; exact hk)) (by have := HN.out; omega) (by have := HNT.out; have := HQ.out; omega))
          go_upto_region 25 with (go_at_call 12; go_loud ((with_reducible refine HS3.out.mono ?_); rintro e w12 ⟨a12, c12, rfl, hm12, hb12⟩; have HM12 := Lib.hid hm12.mat; have HB12 := Lib.hid (bt HB11.out hb12); have HS12 := Lib.hid (HM11.out.on hb12).mat; clear hm12 hb12))
          clear HS3 HK411 HK211 HPU11 HF11 HM11
          go_loopw [150] (fun s wr => ∃ i : Nat, i ≤ N ∧ s = .int .i64 (i : Nat) ∧ Hid (Below w12.heap.size w12 wr)) (fun s _ => N - (intOf s).toNat)
          case atStart => exact ⟨0, Nat.zero_le _, rfl, Lib.hid (Below.refl _ _)⟩
          case round =>
            obtain ⟨k, hk, rfl, hB⟩ := hrel
            by_cases hlt : k < N
            · have hkU : k < U.length := by rw [HLU.out]; exact hlt
              have e1 : rw_ (shM T n (addR S (padM O n)) (addR (padM M m) (padM D m)) U) k = rw_ (addM (shM T n S (padM M m) U) (shM T n (padM O n) (padM D m) U)) k := by
                rw [addM_row (by rw [shM_len]; exact hkU), shM_row hkU, shM_row hkU, shM_row hkU, sh_add (by rw [padM_len]; exact HS.out.len) (by rw [padM_len, padM_len])]
              obtain ⟨R, hR⟩ : ∃ R, R = rw_ (shM T n (addR S (padM O n)) (addR (padM M m) (padM D m)) U) k := ⟨_, rfl⟩
              have hRl : R.length = n := by rw [hR]; exact rw_shM_len hkU
              obtain ⟨b7, off7, a7, c7, rfl, hb7, hcell7, hpa7⟩ := HM12.out.row hlt
              obtain ⟨b8, off8, a8, c8, rfl, hb8, hcell8, hpa8⟩ := HS12.out.row hlt
              rw [← e1] at hcell8 hpa8
              rw [← hR, hRl] at hcell7 hpa7 hcell8 hpa8
              have hcr7 : ∀ j, (World.drewN _ j).cell? ⟨b7, off7 + k, none⟩ = some (.slice a7 n c7) := fun j => (hB.out.cell (p := ⟨b7, off7 + k, none⟩) hb7).trans hcell7
              have hcr8 : ∀ j, (World.drewN _ j).cell? ⟨b8, off8 + k, none⟩ = some (.slice a8 n c8) := fun j => (hB.out.cell (p := ⟨b8, off8 + k, none⟩) hb8).trans hcell8
              have hcr7' := hcr7 0
              have hcr8' := hcr8 0
              have hcv7 : ∀ j, (convert 22 9 (.slice a7 n c7)).run Try.prog (World.drewN _ j) = .ok (.string (strOfNums (iL R))) (World.drewN _ j) := fun j => hpa7.str_on rfl _ (below_drewN hB.out _)
              have hcv8 : ∀ j, (convert 22 9 (.slice a8 n c8)).run Try.prog (World.drewN _ j) = .ok (.string (strOfNums (iL R))) (World.drewN _ j) := fun j => hpa8.str_on rfl _ (below_drewN hB.out _)
              have qk : (k : Int) < (N : Int) := by omega
              have qk0 : (0 : Int) ≤ (k : Int) := by omega
              clear hcell7 hcell8 hpa7 hpa8 hR e1 hRl hkU
              go_wp2_with fail
              go_quiet (fail)
              go_wp2
              go_roundw
              case rel => exact ⟨k + 1, by omega, by go_num, Lib.hid (below_drewN hB.out _)⟩
              case measure => simp [intOf]; omega
            · obtain rfl : N = k := by omega
              have hbw := Lib.hid (bt HB12.out hB.out)
              clear hlt hk
              go_wp2
              go_ret
              exact ⟨rfl, hbw.out⟩
end Go.Proofs.Ytmhknggjpggagaa
