/- ShamirJoins' walk, under the contracts. -/
import Derived.Test.YtmhknggjpggagaaSf
import Derived.Deep.QuietTactic
namespace Go.Proofs.Ytmhknggjpggagaa
open Go.ChangeShapes Go.WideShapes Go.ChangeAt Go.RowKit Go.Shelf GF
set_option linter.unusedVariables false
set_option linter.unusedSimpArgs false
set_option maxRecDepth 100000

/-- uint(t) % d of any number. -/
theorem mod_of (t d : Int) (hd : 0 < d) : ∃ q : Nat, (IntKind.u64.wrap t).tmod d = (q : Int) ∧ (q : Int) < d := by
  have h : IntKind.u64.wrap t = t % 18446744073709551616 := by rw [IntKind.wrap_u64]
  rw [h, Int.tmod_eq_emod_of_nonneg (by omega)]
  have h1 := Int.emod_nonneg (t % 18446744073709551616) (show d ≠ 0 by omega)
  have h2 := Int.emod_lt_of_pos (t % 18446744073709551616) hd
  exact ⟨((t % 18446744073709551616) % d).toNat, by omega, by omega⟩

set_option maxHeartbeats 3000000 in
theorem shamirJoins_core (hSplit : SplitC) (hJoin : JoinC) (hAt : AtC) (hAdd : AddC) (hShare : ShareC) (hDelta : DeltaC) (hBad : AddBadC) (t u : Int) (aS : Option Addr) (n cS : Nat) (S : List GF) (aM : Option Addr) (lM cM : Nat) (M : List GF) (aD : Option Addr) (lD cD : Nat) (D : List GF) (aX : Option Addr) (lX cX : Nat) (X : List GF) (x : GF) (w : World)
    (hS : Pa w aS n cS S) (hM : Pa w aM lM cM M) (hD : Pa w aD lD cD D) (hX : Pa w aX lX cX X) (hn : n ≤ 20) :
    Calls Try.prog 6 #[.int .i64 t, .int .i64 u, .slice aS n cS, .slice aM lM cM, .slice aD lD cD, .slice aX lX cX, .int .u8 (toI x)] w fun e w' => e = .returned (.bool true) ∧ Below w.heap.size w w' := by
  have HL8 := Lib.hid (lives8 hSplit hJoin)
  have HSP := Lib.hid hSplit
  have HAD := Lib.hid hAdd
  have HJO := Lib.hid hJoin
  have HAT := Lib.hid hAt
  have HSH := Lib.hid hShare
  have HDE := Lib.hid hDelta
  have HBD := Lib.hid hBad
  have HS := Lib.hid hS
  have HM := Lib.hid hM
  have HD := Lib.hid hD
  have HX := Lib.hid hX
  have HN := Lib.hid hn
  have qn : (n : Int) ≤ 20 := by omega
  clear hSplit hJoin hAdd hAt hShare hDelta hBad hS hM hD hX hn
  go_enter Try.func6, Try.ntmps6
  go_upto_region 3 with (go_at_call 8; go_loud ((with_reducible refine (HL8.out w).mono ?_); rintro e w1 ⟨rfl, hb⟩; have HB1 := Lib.hid hb; clear hb))
  go_upto_region 4 with fail
  obtain ⟨q, hq, hq8⟩ := mod_of t 8 (by omega)
  obtain ⟨m, hm⟩ : ∃ m, m = q * n := ⟨_, rfl⟩
  have hm140 : m ≤ 140 := by rw [hm]; exact Nat.le_trans (Nat.mul_le_mul (show q ≤ 7 by omega) HN.out) (by omega)
  have HQM := Lib.hid hm
  have HM140 := Lib.hid hm140
  have qm : (q : Int) * (n : Int) = (m : Int) := by rw [hm]; rfl
  obtain ⟨T, hT⟩ : ∃ T, T = q + 1 := ⟨_, rfl⟩
  have HQ := Lib.hid (show q < 8 ∧ T = q + 1 from ⟨by omega, hT⟩)
  have w1q : wrap64 (q : Int) = (q : Int) := by unfold wrap64; omega
  have w2q : wrap64 (1 + (q : Int)) = (T : Int) := by unfold wrap64; omega
  rw [hq, w1q, w2q]
  clear hq w1q w2q
  obtain ⟨p, hp, hp5⟩ := mod_of u 5 (by omega)
  obtain ⟨N, hN⟩ : ∃ N, N = T + p := ⟨_, rfl⟩
  have HNT := Lib.hid (show N = T + p ∧ p < 5 ∧ 1 ≤ T ∧ T ≤ 8 from ⟨hN, by omega, by omega, by omega⟩)
  have w3 : wrap64 ((T : Int) + wrap64 ((IntKind.u64.wrap u).tmod 5)) = (N : Int) := by rw [hp]; unfold wrap64; omega
  have HUN0 := unlike8_any aX lX cX X N w1 (HX.out.on HB1.out) (by omega)
  rw [← w3] at HUN0
  have HUN := Lib.hid HUN0
  have qT1 : (T : Int) - 1 = (q : Int) := by omega
  have qT3 : (T : Int) ≤ 8 := by omega
  have qm3 : (m : Int) ≤ 140 := by omega
  have qN : (N : Int) ≤ 12 := by omega
  clear hm hm140 hT hN hq8 hp hp5 w3 HUN0
  go_upto_region 12 with (first
    | (go_at_call 10; go_loud (refine HUN.out.mono ?_; rintro e w2 ⟨aU, cU, U, rfl, hpU, hgU, hlU, hnU, hb2⟩; have HPU := Lib.hid hpU; have HGU := Lib.hid hgU; have HLU := Lib.hid hlU; have HB2 := Lib.hid (bt HB1.out hb2); have HMd1 := Lib.hid (made_any aM lM cM M m w2 (HM.out.on HB2.out) (by have := HM140.out; omega)); clear hpU hgU hlU hnU hb2))
    | (go_at_call 9; (with_reducible refine HMd1.out.mono ?_); rintro e w3 ⟨g3, rfl, hk3, hb3⟩; have HK3 := Lib.hid hk3; have HB3 := Lib.hid (bt HB2.out hb3); have HB23 := Lib.hid hb3; have HMd2 := Lib.hid (made_any aD lD cD D m w3 (HD.out.on HB3.out) (by have := HM140.out; omega)); clear hk3 hb3)
    | (go_at_call 9; (with_reducible refine HMd2.out.mono ?_); rintro e w4 ⟨g4, rfl, hk4, hb4⟩; have HK4 := Lib.hid hk4; have HB4 := Lib.hid (bt HB3.out hb4); have HB34 := Lib.hid hb4; clear hk4 hb4)
    | (go_at_call 11; go_loud (refine (new_any _).mono ?_; rintro e w6 ⟨b, rfl, hb0, hf, hb6⟩; have HF6 := Lib.hid hf; have HB6 := Lib.hid (bt HB4.out hb6); have HK36 := Lib.hid (HK3.out.on (bt HB34.out hb6)); have HK46 := Lib.hid (HK4.out.on hb6); have HPU6 := Lib.hid (HPU.out.on (bt (bt HB23.out HB34.out) hb6)); have HS6 := Lib.hid (HS.out.on HB6.out); have HS1 := Lib.hid (HSP.out b T n m N aS cS S (some ⟨g3, 0, none⟩) m (padM M m) aU cU U w6 hf HS6.out HK36.out HPU6.out (by have := HNT.out; omega) (by have := HNT.out; omega) (by rw [HQM.out, HQ.out.2]; rfl) (fun k hk => gath_co HGU.out (by rw [HLU.out]; exact hk)) (by have := HN.out; omega) (by have := HNT.out; omega)); clear hf hb0 hb6))
    | (go_at_call 12; go_loud ((with_reducible refine HS1.out.mono ?_); rintro e w7 ⟨a7, c7, rfl, hm7, hb7⟩; have HM7 := Lib.hid hm7.mat; have HB67 := Lib.hid hb7; have HS2 := Lib.hid (HDE.out b T n m N (some ⟨g4, 0, none⟩) m (padM D m) aU cU U w7 (HF6.out.below hb7) (HK46.out.on hb7) (HPU6.out.on hb7) (by have := HNT.out; omega) (by have := HNT.out; omega) (by rw [HQM.out, HQ.out.2]; rfl) (fun k hk => gath_co HGU.out (by rw [HLU.out]; exact hk)) (by have := HN.out; omega) (by have := HNT.out; omega)); clear hm7 hb7))
    | (go_at_call 21; go_loud ((with_reducible refine HS2.out.mono ?_); rintro e w8 ⟨a8, c8, rfl, hm8, hb8⟩; have HB78 := Lib.hid hb8; have HB68 := Lib.hid (bt HB67.out hb8); have HA1 := Lib.hid (HAD.out N a7 c7 _ a8 c8 _ w8 (HM7.out.on hb8) hm8.mat (fun k hk => by rw [rw_shM_len (by rw [HLU.out]; exact hk), rw_shM_len (by rw [HLU.out]; exact hk)]) (by have := HNT.out; omega) (fun k hk => by rw [rw_shM_len (by rw [HLU.out]; exact hk)]; have := HN.out; omega)); clear hm8 hb8))
    | (go_at_call 13; go_loud ((with_reducible refine HA1.out.mono ?_); rintro e w9 ⟨a9, c9, rfl, hm9, hb9⟩; have HM9 := Lib.hid hm9.mat; have HB69 := Lib.hid (bt HB68.out hb9); have HM79 := Lib.hid (HM7.out.on (bt HB78.out hb9)); clear hm9 hb9)))
  have HK39 := Lib.hid (HK36.out.on HB69.out)
  have HPU9 := Lib.hid (HPU6.out.on HB69.out)
  have HF9 := Lib.hid (HF6.out.below HB69.out)
  have HS9 := Lib.hid (HS6.out.on HB69.out)
  have HB9 := Lib.hid (bt HB6.out HB69.out)
  clear HK3 HK4 HK36 HK46 HPU6 HF6 HPU HMd1 HMd2 HUN HS1 HS2 HA1 HM7 HB1 HB2 HB3 HB4 HB23 HB34 HB67 HB78 HB68 HB69 HB6 HS6 HL8 HS HM HD HX
  obtain ⟨bU, oU, rfl⟩ := HPU9.out.some_ (by have := HNT.out; omega)
  obtain ⟨b7, o7, rfl⟩ := HM79.out.some_ (by have := HNT.out; omega)
  obtain ⟨b9, o9, rfl⟩ := HM9.out.some_ (by have := HNT.out; omega)
  by_cases hx : x = 0
  · have qx : toI x = 0 := by rw [hx]; rfl
    have HSha := HSH.out b T n m aS cS S (some ⟨g3, 0, none⟩) m (padM M m) (1 : GF) w9 HF9.out HS9.out HK39.out (by have := HNT.out; omega) (by have := HNT.out; omega) (by rw [HQM.out, HQ.out.2]; rfl) (by decide) (by have := HN.out; omega)
    rw [toI_one] at HSha
    have HSh := Lib.hid HSha
    clear HSha
    go_upto_region 16 with (go_at_call 15; go_loud ((with_reducible refine HSh.out.mono ?_); rintro e wA ⟨aW, cW, rfl, hpW, hbA⟩; have HPW := Lib.hid hpW; have HBA := Lib.hid hbA; clear hpW hbA))
    have HMA := Lib.hid (HM79.out.on HBA.out)
    have HRA := Lib.hid (HM9.out.on HBA.out)
    have HPUA := Lib.hid (HPU9.out.on HBA.out)
    have HFA := Lib.hid (HF9.out.below HBA.out)
    have HSA := Lib.hid (HS9.out.on HBA.out)
    have HBW := Lib.hid (bt HB9.out HBA.out)
    clear HSh HM79 HM9 HPU9 HF9 HS9 HBA HB9 HK39
    go_loopw [25] (fun s wr => ∃ j : Nat, T ≤ j ∧ j ≤ N + 1 ∧ s = .int .i64 (j : Nat) ∧ Hid (Below wA.heap.size wA wr)) (fun s _ => N + 1 - (intOf s).toNat)
    case atStart => exact ⟨T, by omega, by have := HNT.out; omega, rfl, Lib.hid (Below.refl _ _)⟩
    case round =>
      obtain ⟨j, hj1, hj2, rfl, hB⟩ := hrel
      rename World => wB
      by_cases hlt : j ≤ N
      · obtain ⟨d, hd⟩ : ∃ d, d = N - j := ⟨_, rfl⟩
        have HJ := Lib.hid (show T ≤ j ∧ j ≤ N ∧ d + j = N from ⟨hj1, hlt, by omega⟩)
        have qj : (j : Int) ≤ (N : Int) := by omega
        have qd : (N : Int) - (j : Int) = (d : Int) := by omega
        have qd2 : (d : Int) ≤ (N : Int) := by omega
        have qd3 : (0 : Int) ≤ (d : Int) := by omega
        have qNd : N - d = j := by omega
        have HC := Lib.hid (show N ≤ cU ∧ N ≤ c7 ∧ N ≤ c9 ∧ d < N from ⟨HPUA.out.bd.1, HMA.out.bd.1, HRA.out.bd.1, by have := HNT.out; omega⟩)
        have qcU : ¬ cU = d := by have := HC.out; omega
        have qc7 : ¬ c7 = d := by have := HC.out; omega
        have qc9 : ¬ c9 = d := by have := HC.out; omega
        clear hd hj1 hj2 hlt
        have HB := Lib.hid hB.out
        clear hB
        have HPd := Lib.hid (show Pa wB (some ⟨bU, oU + d, none⟩) j (cU - d) (U.drop d) by have h := (HPUA.out.on HB.out).drop d; rwa [qNd] at h)
        have HMd := Lib.hid (show Mat wB (some ⟨b7, o7 + d, none⟩) j (c7 - d) ((shM T n S (padM M m) U).drop d) by have h := (HMA.out.on HB.out).drop d; rwa [qNd] at h)
        have HRd := Lib.hid (show Mat wB (some ⟨b9, o9 + d, none⟩) j (c9 - d) ((addM (shM T n S (padM M m) U) (shM T n (noR n) (padM D m) U)).drop d) by have h := (HRA.out.on HB.out).drop d; rwa [qNd] at h)
        have HFd := Lib.hid (HFA.out.below HB.out)
        have HAp := Lib.hid (show Apart (U.drop d) from apart_of_nodup (HGU.out.1.sublist (List.drop_sublist _ _)))
        have HSl := Lib.hid HSA.out.len
        have HL1 := Lib.hid (show ∀ k, k < j → (rw_ ((shM T n S (padM M m) U).drop d) k).length = n from fun k hk => by rw [rw_drop, rw_shM_len (by rw [HLU.out]; have := HJ.out; omega)])
        have HL2 := Lib.hid (show ∀ k, k < j → (rw_ ((addM (shM T n S (padM M m) U) (shM T n (noR n) (padM D m) U)).drop d) k).length = n from fun k hk => by rw [rw_drop, rows_sum HSl.out (by rw [padM_len, padM_len]) (by rw [HLU.out]; have := HJ.out; omega), shR_len])
        have HE1 := Lib.hid (fun y => join_end (t := T) (n := n) (d := d) (S := S) (M := padM M m) (U := U) (A := shM T n S (padM M m) U) HGU.out.1 (by have := HNT.out; omega) (by rw [HLU.out]; have := HJ.out; omega) (fun k hk => rows_M hk) y)
        have HE2 := Lib.hid (fun y => join_end (t := T) (n := n) (d := d) (S := S) (M := addR (padM M m) (padM D m)) (U := U) (A := addM (shM T n S (padM M m) U) (shM T n (noR n) (padM D m) U)) HGU.out.1 (by have := HNT.out; omega) (by rw [HLU.out]; have := HJ.out; omega) (fun k hk => rows_sum HSl.out (by rw [padM_len, padM_len]) hk) y)
        have hj1 := HJO.out b j n _ _ _ _ _ _ wB HFd.out HPd.out HMd.out HAp.out (by have := HNT.out; have := HJ.out; omega) (by have := HNT.out; have := HJ.out; omega) HL1.out (by have := HN.out; omega)
        rw [HE1.out 0, sh_secret _ HSl.out] at hj1
        have HJ1 := Lib.hid hj1
        clear hj1
        go_upto_region 22 with (first
          | (go_at_call 19; (with_reducible refine HJ1.out.mono ?_); rintro e wC ⟨aJ, cJ, rfl, hpJ, hbC⟩; have HPJ := Lib.hid hpJ; have HBC := Lib.hid hbC; have hj2 := HJO.out b j n _ _ _ _ _ _ wC (HFd.out.below hbC) (HPd.out.on hbC) (HRd.out.on hbC) HAp.out (by have := HNT.out; have := HJ.out; omega) (by have := HNT.out; have := HJ.out; omega) HL2.out (by have := HN.out; omega); rw [HE2.out 0, sh_secret _ HSl.out] at hj2; have HJ2 := Lib.hid hj2; clear hj2 hpJ hbC)
          | (go_at_call 19; (with_reducible refine HJ2.out.mono ?_); rintro e wD ⟨aK, cK, rfl, hpK, hbD⟩; have HPK := Lib.hid hpK; have HBD2 := Lib.hid (bt HBC.out hbD); have HPJD := Lib.hid (HPJ.out.on hbD); have HAta := HAT.out b j n _ _ _ _ _ _ (1 : GF) wD (HFd.out.below HBD2.out) (HPd.out.on HBD2.out) (HMd.out.on HBD2.out) HAp.out (by have := HNT.out; have := HJ.out; omega) (by have := HNT.out; have := HJ.out; omega) HL1.out (by have := HN.out; omega); rw [HE1.out (1 : GF)] at HAta; rw [toI_one] at HAta; have HA3 := Lib.hid HAta; clear HAta hpK hbD)
          | (go_at_call 18; (with_reducible refine HA3.out.mono ?_); rintro e wE ⟨aY, cY, rfl, hpY, hbE⟩; have HPY := Lib.hid hpY; have HBE := Lib.hid (bt HBD2.out hbE); have HPJE := Lib.hid (HPJD.out.on hbE); have HPKE := Lib.hid (HPK.out.on hbE); clear hpY hbE))
        have hbw := bt HB.out HBE.out
        have HBR := Lib.hid hbw
        have kS := (HSA.out.on hbw).str
        have kW := (HPW.out.on hbw).str
        have kJ := HPJE.out.str
        have kK := HPKE.out.str
        have kY := HPY.out.str
        clear hbw qNd qcU qc7 qc9
        go_wp2
        go_roundw
        case rel => exact ⟨j + 1, by have := HJ.out; omega, by have := HJ.out; omega, by go_num, HBR⟩
        case measure => simp [intOf]; have := HJ.out; omega
      · have q1 : (1 : Int) ≤ (N : Int) := by have := HNT.out; omega
        have q2 : ¬ (j : Int) ≤ (N : Int) := by omega
        have q3 : ¬ (N : Int) = 0 := by omega
        have HMB := Lib.hid (HMA.out.on hB.out)
        have HBa := Lib.hid (HBD.out N (N - 1) (some ⟨b7, o7, none⟩) c7 _ _ (c7 - 1) _ wB HMB.out HMB.out.tail1 (by have := HNT.out; omega) (by have := HNT.out; omega) (by have := HNT.out; omega))
        clear hlt hj1 hj2
        have HBB := Lib.hid (bt HBW.out hB.out)
        clear hB
        go_wp2_with (go_at_call 13; go_loud (refine HBa.out.mono ?_; rintro e wF ⟨v, rfl, hbF⟩; have HBF := Lib.hid (bt HBB.out hbF); clear hbF))
        all_goals (go_ret; exact ⟨rfl, HBF.out⟩)
  · have qx : ¬ toI x = 0 := fun e => hx (toI_eq_zero.1 e)
    have HSha := HSH.out b T n m aS cS S (some ⟨g3, 0, none⟩) m (padM M m) x w9 HF9.out HS9.out HK39.out (by have := HNT.out; omega) (by have := HNT.out; omega) (by rw [HQM.out, HQ.out.2]; rfl) hx (by have := HN.out; omega)
    skip
    have HSh := Lib.hid HSha
    clear HSha
    go_upto_region 16 with (go_at_call 15; go_loud ((with_reducible refine HSh.out.mono ?_); rintro e wA ⟨aW, cW, rfl, hpW, hbA⟩; have HPW := Lib.hid hpW; have HBA := Lib.hid hbA; clear hpW hbA))
    have HMA := Lib.hid (HM79.out.on HBA.out)
    have HRA := Lib.hid (HM9.out.on HBA.out)
    have HPUA := Lib.hid (HPU9.out.on HBA.out)
    have HFA := Lib.hid (HF9.out.below HBA.out)
    have HSA := Lib.hid (HS9.out.on HBA.out)
    have HBW := Lib.hid (bt HB9.out HBA.out)
    clear HSh HM79 HM9 HPU9 HF9 HS9 HBA HB9 HK39
    go_loopw [25] (fun s wr => ∃ j : Nat, T ≤ j ∧ j ≤ N + 1 ∧ s = .int .i64 (j : Nat) ∧ Hid (Below wA.heap.size wA wr)) (fun s _ => N + 1 - (intOf s).toNat)
    case atStart => exact ⟨T, by omega, by have := HNT.out; omega, rfl, Lib.hid (Below.refl _ _)⟩
    case round =>
      obtain ⟨j, hj1, hj2, rfl, hB⟩ := hrel
      rename World => wB
      by_cases hlt : j ≤ N
      · obtain ⟨d, hd⟩ : ∃ d, d = N - j := ⟨_, rfl⟩
        have HJ := Lib.hid (show T ≤ j ∧ j ≤ N ∧ d + j = N from ⟨hj1, hlt, by omega⟩)
        have qj : (j : Int) ≤ (N : Int) := by omega
        have qd : (N : Int) - (j : Int) = (d : Int) := by omega
        have qd2 : (d : Int) ≤ (N : Int) := by omega
        have qd3 : (0 : Int) ≤ (d : Int) := by omega
        have qNd : N - d = j := by omega
        have HC := Lib.hid (show N ≤ cU ∧ N ≤ c7 ∧ N ≤ c9 ∧ d < N from ⟨HPUA.out.bd.1, HMA.out.bd.1, HRA.out.bd.1, by have := HNT.out; omega⟩)
        have qcU : ¬ cU = d := by have := HC.out; omega
        have qc7 : ¬ c7 = d := by have := HC.out; omega
        have qc9 : ¬ c9 = d := by have := HC.out; omega
        clear hd hj1 hj2 hlt
        have HB := Lib.hid hB.out
        clear hB
        have HPd := Lib.hid (show Pa wB (some ⟨bU, oU + d, none⟩) j (cU - d) (U.drop d) by have h := (HPUA.out.on HB.out).drop d; rwa [qNd] at h)
        have HMd := Lib.hid (show Mat wB (some ⟨b7, o7 + d, none⟩) j (c7 - d) ((shM T n S (padM M m) U).drop d) by have h := (HMA.out.on HB.out).drop d; rwa [qNd] at h)
        have HRd := Lib.hid (show Mat wB (some ⟨b9, o9 + d, none⟩) j (c9 - d) ((addM (shM T n S (padM M m) U) (shM T n (noR n) (padM D m) U)).drop d) by have h := (HRA.out.on HB.out).drop d; rwa [qNd] at h)
        have HFd := Lib.hid (HFA.out.below HB.out)
        have HAp := Lib.hid (show Apart (U.drop d) from apart_of_nodup (HGU.out.1.sublist (List.drop_sublist _ _)))
        have HSl := Lib.hid HSA.out.len
        have HL1 := Lib.hid (show ∀ k, k < j → (rw_ ((shM T n S (padM M m) U).drop d) k).length = n from fun k hk => by rw [rw_drop, rw_shM_len (by rw [HLU.out]; have := HJ.out; omega)])
        have HL2 := Lib.hid (show ∀ k, k < j → (rw_ ((addM (shM T n S (padM M m) U) (shM T n (noR n) (padM D m) U)).drop d) k).length = n from fun k hk => by rw [rw_drop, rows_sum HSl.out (by rw [padM_len, padM_len]) (by rw [HLU.out]; have := HJ.out; omega), shR_len])
        have HE1 := Lib.hid (fun y => join_end (t := T) (n := n) (d := d) (S := S) (M := padM M m) (U := U) (A := shM T n S (padM M m) U) HGU.out.1 (by have := HNT.out; omega) (by rw [HLU.out]; have := HJ.out; omega) (fun k hk => rows_M hk) y)
        have HE2 := Lib.hid (fun y => join_end (t := T) (n := n) (d := d) (S := S) (M := addR (padM M m) (padM D m)) (U := U) (A := addM (shM T n S (padM M m) U) (shM T n (noR n) (padM D m) U)) HGU.out.1 (by have := HNT.out; omega) (by rw [HLU.out]; have := HJ.out; omega) (fun k hk => rows_sum HSl.out (by rw [padM_len, padM_len]) hk) y)
        have hj1 := HJO.out b j n _ _ _ _ _ _ wB HFd.out HPd.out HMd.out HAp.out (by have := HNT.out; have := HJ.out; omega) (by have := HNT.out; have := HJ.out; omega) HL1.out (by have := HN.out; omega)
        rw [HE1.out 0, sh_secret _ HSl.out] at hj1
        have HJ1 := Lib.hid hj1
        clear hj1
        go_upto_region 22 with (first
          | (go_at_call 19; (with_reducible refine HJ1.out.mono ?_); rintro e wC ⟨aJ, cJ, rfl, hpJ, hbC⟩; have HPJ := Lib.hid hpJ; have HBC := Lib.hid hbC; have hj2 := HJO.out b j n _ _ _ _ _ _ wC (HFd.out.below hbC) (HPd.out.on hbC) (HRd.out.on hbC) HAp.out (by have := HNT.out; have := HJ.out; omega) (by have := HNT.out; have := HJ.out; omega) HL2.out (by have := HN.out; omega); rw [HE2.out 0, sh_secret _ HSl.out] at hj2; have HJ2 := Lib.hid hj2; clear hj2 hpJ hbC)
          | (go_at_call 19; (with_reducible refine HJ2.out.mono ?_); rintro e wD ⟨aK, cK, rfl, hpK, hbD⟩; have HPK := Lib.hid hpK; have HBD2 := Lib.hid (bt HBC.out hbD); have HPJD := Lib.hid (HPJ.out.on hbD); have HAta := HAT.out b j n _ _ _ _ _ _ x wD (HFd.out.below HBD2.out) (HPd.out.on HBD2.out) (HMd.out.on HBD2.out) HAp.out (by have := HNT.out; have := HJ.out; omega) (by have := HNT.out; have := HJ.out; omega) HL1.out (by have := HN.out; omega); rw [HE1.out x] at HAta; skip; have HA3 := Lib.hid HAta; clear HAta hpK hbD)
          | (go_at_call 18; (with_reducible refine HA3.out.mono ?_); rintro e wE ⟨aY, cY, rfl, hpY, hbE⟩; have HPY := Lib.hid hpY; have HBE := Lib.hid (bt HBD2.out hbE); have HPJE := Lib.hid (HPJD.out.on hbE); have HPKE := Lib.hid (HPK.out.on hbE); clear hpY hbE))
        have hbw := bt HB.out HBE.out
        have HBR := Lib.hid hbw
        have kS := (HSA.out.on hbw).str
        have kW := (HPW.out.on hbw).str
        have kJ := HPJE.out.str
        have kK := HPKE.out.str
        have kY := HPY.out.str
        clear hbw qNd qcU qc7 qc9
        go_wp2
        go_roundw
        case rel => exact ⟨j + 1, by have := HJ.out; omega, by have := HJ.out; omega, by go_num, HBR⟩
        case measure => simp [intOf]; have := HJ.out; omega
      · have q1 : (1 : Int) ≤ (N : Int) := by have := HNT.out; omega
        have q2 : ¬ (j : Int) ≤ (N : Int) := by omega
        have q3 : ¬ (N : Int) = 0 := by omega
        have HMB := Lib.hid (HMA.out.on hB.out)
        have HBa := Lib.hid (HBD.out N (N - 1) (some ⟨b7, o7, none⟩) c7 _ _ (c7 - 1) _ wB HMB.out HMB.out.tail1 (by have := HNT.out; omega) (by have := HNT.out; omega) (by have := HNT.out; omega))
        clear hlt hj1 hj2
        have HBB := Lib.hid (bt HBW.out hB.out)
        clear hB
        go_wp2_with (go_at_call 13; go_loud (refine HBa.out.mono ?_; rintro e wF ⟨v, rfl, hbF⟩; have HBF := Lib.hid (bt HBB.out hbF); clear hbF))
        all_goals (go_ret; exact ⟨rfl, HBF.out⟩)
end Go.Proofs.Ytmhknggjpggagaa
