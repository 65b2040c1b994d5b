/- CodeCuts' walk, under the contracts. -/
import Derived.Test.YtmhjpdppippgkaaCl
import Derived.Test.YtmhjpdppippgkaaCd
import Derived.Deep.QuietTactic
import Derived.Deep.RegionHeld
namespace Go.Proofs.Ytmhjpdppippgkaa
open Go.ChangeShapes Go.WideShapes Go.ChangeAt Go.RowKit Go.Shelf GF
set_option linter.unusedVariables false
set_option linter.unusedSimpArgs false
set_option maxRecDepth 100000

/-- Cut's, PartSize's and Glue's contracts. -/
def CutAll : Prop := EncodeC ∧ CutC ∧ CutBadC ∧ PartC ∧ PartBadC ∧ GlueC ∧ GlueBadC

set_option maxHeartbeats 4000000 in
theorem cu_T1 (hAll : CutAll) (t : Int) (s : Int) (L : Nat) (aB : Option Addr) (cB : Nat) (B : List GF) (w : World) (hTW : (Lit.int .i64 t).wf = true) (hSW : (Lit.int .i64 s).wf = true) (hB : Pa w aB L cB B) (hL : L ≤ 300) (ht : t < 1) (qf : ¬ (20 : Int) < t) :
    Calls Try.prog 6 #[.slice aB L cB, .int .i64 t, .int .i64 s] w fun e w' => e = .returned (.bool true) ∧ Below w.heap.size w w' := by
  obtain ⟨hE, hC, hCB, hP, hPB, hG, hGB⟩ := hAll
  have HL9 := Lib.hid (lives9 hE)
  have HC := Lib.hid hC; have HCB := Lib.hid hCB; have HP := Lib.hid hP; have HPB := Lib.hid hPB; have HG := Lib.hid hG; have HGB := Lib.hid hGB
  have HB := Lib.hid hB
  have HBL := Lib.hid hB.len
  have HTW := Lib.hid hTW
  have HSW := Lib.hid hSW
  have HL := Lib.hid hL
  have hbd := hB.bd
  have qL : (L : Int) ≤ 300 := by omega
  clear hE hC hCB hP hPB hG hGB hB hTW hSW hL
  go_enter Try.func6, Try.ntmps6
  go_upto_region 3 with (go_at_call 7; go_loud ((with_reducible refine (HL9.out w).mono ?_); rintro e w1 ⟨rfl, hb⟩; have HB1 := Lib.hid hb; clear hb))
  have HCU := Lib.hid (HCB.out L t aB cB B w1 (HB.out.on HB1.out) HTW.out (.inl ht) (by have := HL.out; omega))
  have HPZ := Lib.hid (fun V => HPB.out L t V HTW.out (.inl ht) (by have := HL.out; omega))
  go_wp2_with (first
    | (go_at_call 16; go_loud ((with_reducible refine HCU.out.mono ?_); rintro e w3 ⟨a3, c3, rfl, hb3⟩; have HB3 := Lib.hid (bt HB1.out hb3); clear hb3))
    | (go_at_call 17; go_loud ((with_reducible refine (HPZ.out _).mono ?_); rintro e w4 ⟨rfl, q4, rfl⟩)))
  go_ret
  exact ⟨rfl, below_drewN HB3.out _⟩

set_option maxHeartbeats 4000000 in
theorem cu_T2 (hAll : CutAll) (t : Int) (s : Int) (L : Nat) (aB : Option Addr) (cB : Nat) (B : List GF) (w : World) (hTW : (Lit.int .i64 t).wf = true) (hSW : (Lit.int .i64 s).wf = true) (hB : Pa w aB L cB B) (hL : L ≤ 300) (ht : 255 < t) (qf : (20 : Int) < t) (qf2 : ¬ t ≤ 255) (qf3 : ¬ t < 1) :
    Calls Try.prog 6 #[.slice aB L cB, .int .i64 t, .int .i64 s] w fun e w' => e = .returned (.bool true) ∧ Below w.heap.size w w' := by
  obtain ⟨hE, hC, hCB, hP, hPB, hG, hGB⟩ := hAll
  have HL9 := Lib.hid (lives9 hE)
  have HC := Lib.hid hC; have HCB := Lib.hid hCB; have HP := Lib.hid hP; have HPB := Lib.hid hPB; have HG := Lib.hid hG; have HGB := Lib.hid hGB
  have HB := Lib.hid hB
  have HBL := Lib.hid hB.len
  have HTW := Lib.hid hTW
  have HSW := Lib.hid hSW
  have HL := Lib.hid hL
  have hbd := hB.bd
  have qL : (L : Int) ≤ 300 := by omega
  clear hE hC hCB hP hPB hG hGB hB hTW hSW hL
  go_enter Try.func6, Try.ntmps6
  go_upto_region 3 with (go_at_call 7; go_loud ((with_reducible refine (HL9.out w).mono ?_); rintro e w1 ⟨rfl, hb⟩; have HB1 := Lib.hid hb; clear hb))
  have HCU := Lib.hid (HCB.out L t aB cB B w1 (HB.out.on HB1.out) HTW.out (.inr ht) (by have := HL.out; omega))
  have HPZ := Lib.hid (fun V => HPB.out L t V HTW.out (.inr ht) (by have := HL.out; omega))
  go_wp2_with (first
    | (go_at_call 16; go_loud ((with_reducible refine HCU.out.mono ?_); rintro e w3 ⟨a3, c3, rfl, hb3⟩; have HB3 := Lib.hid (bt HB1.out hb3); clear hb3))
    | (go_at_call 17; go_loud ((with_reducible refine (HPZ.out _).mono ?_); rintro e w4 ⟨rfl, q4, rfl⟩)))
  go_ret
  exact ⟨rfl, below_drewN HB3.out _⟩

set_option maxHeartbeats 4000000 in
theorem cu_T3_s1 (hAll : CutAll) (t : Nat) (s : Int) (L : Nat) (aB : Option Addr) (cB : Nat) (B : List GF) (w : World) (hTW : (Lit.int .i64 (t : Int)).wf = true) (hSW : (Lit.int .i64 s).wf = true) (hB : Pa w aB L cB B) (hL : L ≤ 300) (ht1 : 1 ≤ t) (ht2 : t ≤ 20) (hs0 : s < 0) :
    Calls Try.prog 6 #[.slice aB L cB, .int .i64 (t : Int), .int .i64 s] w fun e w' => e = .returned (.bool true) ∧ Below w.heap.size w w' := by
  obtain ⟨n, hn⟩ : ∃ n, n = ceil L t := ⟨_, rfl⟩
  obtain ⟨tn, htn⟩ : ∃ tn, tn = t * n := ⟨_, rfl⟩
  have HNE := Lib.hid hn
  have HTN := Lib.hid htn
  have HT := Lib.hid (And.intro ht1 ht2)
  have HN := Lib.hid (show n ≤ 300 from by rw [hn]; exact Nat.le_trans (ceil_bd ht1) hL)
  have HLT := Lib.hid (show L ≤ t * n from by rw [hn]; exact ceil_mul ht1)
  have qtn : (t : Int) * (n : Int) = (tn : Int) := by rw [htn]; rfl
  have qtn2 : (tn : Int) ≤ 6000 := by
    have : tn ≤ 20 * 300 := by rw [htn]; exact Nat.mul_le_mul ht2 HN.out
    omega
  have qt1 : ¬ (t : Int) < 1 := by omega
  have qt2 : ¬ (20 : Int) < (t : Int) := by omega
  have qt3 : (t : Int) ≤ 255 := by omega
  have qt4 : ¬ (255 : Int) < (t : Int) := by omega
  have qt0 : (0 : Int) < (t : Int) := by omega
  have qtt : ((t : Int) != (t : Int)) = false := by simp
  have qnn : ((n : Int) != (n : Int)) = false := by simp
  have qn : (n : Int) ≤ 300 := by have := HN.out; omega
  have HLEN := Lib.hid (fun k (hk : k < t) => show (rw_ (cutM B t n) k).length ≤ 1000 from by rw [cutM_row hk, cutP_len]; have := HN.out; omega)
  clear hn htn ht1 ht2
  obtain ⟨hE, hC, hCB, hP, hPB, hG, hGB⟩ := hAll
  have HL9 := Lib.hid (lives9 hE)
  have HC := Lib.hid hC; have HCB := Lib.hid hCB; have HP := Lib.hid hP; have HPB := Lib.hid hPB; have HG := Lib.hid hG; have HGB := Lib.hid hGB
  have HB := Lib.hid hB
  have HBL := Lib.hid hB.len
  have HTW := Lib.hid hTW
  have HSW := Lib.hid hSW
  have HL := Lib.hid hL
  have hbd := hB.bd
  have qL : (L : Int) ≤ 300 := by omega
  clear hE hC hCB hP hPB hG hGB hB hTW hSW hL
  go_enter Try.func6, Try.ntmps6
  go_upto_region 3 with (go_at_call 7; go_loud ((with_reducible refine (HL9.out w).mono ?_); rintro e w1 ⟨rfl, hb⟩; have HB1 := Lib.hid hb; clear hb))
  have HCU := Lib.hid (HC.out L t aB cB B w1 (HB.out.on HB1.out) HT.out.1 (by have := HT.out; omega) (by have := HL.out; omega))
  rw [← HNE.out] at HCU
  go_upto_region 7 with (first
    | (go_at_call 16; go_loud ((with_reducible refine HCU.out.mono ?_); rintro e w3 ⟨a3, c3, rfl, hm3, hb3⟩; have HM3 := Lib.hid hm3.mat; have HB3 := Lib.hid (bt HB1.out hb3); have HRC := Lib.hid (refCut_any L t aB cB B w3 (HB.out.on (bt HB1.out hb3)) HT.out.1 (by have := HT.out; omega) (by have := HL.out; omega)); clear hm3 hb3))
    | (go_at_call 18; go_loud ((with_reducible refine HRC.out.mono ?_); rintro e w4 ⟨g4, rfl, hm4, hb4⟩; rw [← HNE.out] at hm4; have HM4 := Lib.hid hm4; have HM34 := Lib.hid (HM3.out.on hb4); have HB4 := Lib.hid (bt HB3.out hb4); clear hm4 hb4)))
  clear HCU HRC HM3 HB1 HB3 HL9
  obtain ⟨b0, o0, ai0, ci0, e0, hb0, hc0, hp0⟩ := HM4.out.row (i := 0) (by have := HT.out; omega)
  cases e0
  rw [cutM_row (by have := HT.out; omega), cutP_len] at hc0 hp0
  rw [Nat.add_zero] at hc0
  have hcd : ∀ k, (w4.drewN k).cell? ⟨g4, 0, none⟩ = some (.slice ai0 n ci0) := fun k => hc0
  have hbd0 := hp0.bd
  have HPQ := Lib.hid (fun V => HP.out L t V HT.out.1 (by have := HT.out; omega) (by have := HL.out; omega))
  rw [← HNE.out] at HPQ
  have HC0 := Lib.hid hc0
  have HB0 := Lib.hid hb0
  clear hp0 hb0
  go_wp2_with fail
  go_quiet ((go_at_call 17; exact Calls.quiet_of (HPQ.out _)))
  obtain ⟨w5, h5⟩ : ∃ V, V = w4.drewN nq := ⟨_, rfl⟩
  have HB45 := Lib.hid (show Below w4.heap.size w4 w5 from by rw [h5]; exact below_drewN (Below.refl _ _) nq)
  rw [← h5]
  clear h5 hcd hc0
  go_upto_region 10 with fail
  go_loopw [81] (fun s wr => ∃ k : Nat, k ≤ t ∧ s = .int .i64 (k : Nat) ∧ Hid (Below w4.heap.size w4 wr)) (fun s _ => t - (intOf s).toNat)
  case atStart => exact ⟨0, by omega, rfl, HB45⟩
  case round =>
    obtain ⟨k, hk, rfl, hB⟩ := hrel
    rename World => w6
    by_cases hlt : k < t
    · obtain ⟨b7, off7, a7, c7, rfl, hb7, hcell7, hpa7⟩ := HM34.out.row hlt
      obtain ⟨b8, off8, a8, c8, e8, hb8, hcell8, hpa8⟩ := HM4.out.row hlt
      cases e8
      rw [cutM_row hlt, cutP_len] at hcell7 hpa7 hcell8 hpa8
      obtain ⟨R, hR⟩ : ∃ R, R = cutP B n k n := ⟨_, rfl⟩
      rw [← hR] at hpa7 hpa8
      have hcr7 : ∀ j, (World.drewN w6 j).cell? ⟨b7, off7 + k, none⟩ = some (.slice a7 n c7) := fun j => (hB.out.cell (p := ⟨b7, off7 + k, none⟩) hb7).trans hcell7
      have hcr8 : ∀ j, (World.drewN w6 j).cell? ⟨g4, k, none⟩ = some (.slice a8 n c8) := fun j => by have h := (hB.out.cell (p := ⟨g4, 0 + k, none⟩) hb8).trans hcell8; rw [Nat.zero_add] at h; exact h
      have hcr7' := hcr7 0
      have hcr8' := hcr8 0
      have hcv7 : ∀ j, (convert 23 9 (.slice a7 n c7)).run Try.prog (World.drewN w6 j) = .ok (.string (strOfNums (iL R))) (World.drewN w6 j) := fun j => hpa7.str_on rfl _ (below_drewN hB.out _)
      have hcv8 : ∀ j, (convert 23 9 (.slice a8 n c8)).run Try.prog (World.drewN w6 j) = .ok (.string (strOfNums (iL R))) (World.drewN w6 j) := fun j => hpa8.str_on rfl _ (below_drewN hB.out _)
      have qk : (k : Int) < (t : Int) := by omega
      have qk0 : (0 : Int) ≤ (k : Int) := by omega
      clear hcell7 hcell8 hpa7 hpa8 hR
      go_wp2_with fail
      go_quiet (fail)
      go_wp2
      go_roundw
      case rel => exact ⟨k + 1, by omega, by go_num, Lib.hid (below_drewN hB.out _)⟩
      case measure => simp [intOf]; omega
    · obtain rfl : t = k := by omega
      have HM6 := Lib.hid (HM34.out.on hB.out)
      have HB6 := Lib.hid (bt HB4.out hB.out)
      have HBQ := Lib.hid hB.out
      have HG1 := Lib.hid (HG.out t L _ _ (cutM B t n) w6 HM6.out (by rw [flat_len]; exact HLT.out) (by have := HT.out; omega) HLEN.out)
      rw [flat_take HBL.out HLT.out] at HG1
      clear hlt hk hB
      go_upto_region 17 with (first
        | (go_at_call 19; go_loud ((with_reducible refine HG1.out.mono ?_); rintro e w7 ⟨a7, c7, rfl, hp7, hb7⟩; have HP7 := Lib.hid hp7; have HB67 := Lib.hid hb7; have HM7 := Lib.hid (HM6.out.on hb7); have HG2 := Lib.hid (HGB.out t s _ _ (cutM B t n) w7 HM7.out HSW.out (by rw [flat_len, ← HTN.out]; first | exact .inl hs0 | exact .inr hs1) (by have := HT.out; omega) HLEN.out); clear hp7 hb7))
        | (go_at_call 19; go_loud ((with_reducible refine HG2.out.mono ?_); rintro e w8 ⟨a8, c8, rfl, hb8⟩; have HB68 := Lib.hid (bt HB67.out hb8); have HB78 := Lib.hid hb8; clear hb8)))
      have k7 := (HP7.out.on HB78.out).str
      have kB := (HB.out.on (bt HB6.out HB68.out)).str
      have hc8 : World.cell? _ ⟨g4, 0, none⟩ = some (.slice ai0 n ci0) := ((bt HBQ.out HB68.out).cell (p := ⟨g4, 0, none⟩) HB0.out).trans HC0.out
      have HBF := Lib.hid (bt HB6.out HB68.out)
      clear HG1 HG2
      go_wp2
      go_ret
      exact ⟨rfl, HBF.out⟩

set_option maxHeartbeats 4000000 in
theorem cu_T3_s2 (hAll : CutAll) (t : Nat) (s : Int) (L : Nat) (aB : Option Addr) (cB : Nat) (B : List GF) (w : World) (hTW : (Lit.int .i64 (t : Int)).wf = true) (hSW : (Lit.int .i64 s).wf = true) (hB : Pa w aB L cB B) (hL : L ≤ 300) (ht1 : 1 ≤ t) (ht2 : t ≤ 20) (qs0 : ¬ s < 0) (hs1 : ((t * ceil L t : Nat) : Int) < s) :
    Calls Try.prog 6 #[.slice aB L cB, .int .i64 (t : Int), .int .i64 s] w fun e w' => e = .returned (.bool true) ∧ Below w.heap.size w w' := by
  obtain ⟨n, hn⟩ : ∃ n, n = ceil L t := ⟨_, rfl⟩
  obtain ⟨tn, htn⟩ : ∃ tn, tn = t * n := ⟨_, rfl⟩
  rw [← hn, ← htn] at hs1
  have HNE := Lib.hid hn
  have HTN := Lib.hid htn
  have HT := Lib.hid (And.intro ht1 ht2)
  have HN := Lib.hid (show n ≤ 300 from by rw [hn]; exact Nat.le_trans (ceil_bd ht1) hL)
  have HLT := Lib.hid (show L ≤ t * n from by rw [hn]; exact ceil_mul ht1)
  have qtn : (t : Int) * (n : Int) = (tn : Int) := by rw [htn]; rfl
  have qtn2 : (tn : Int) ≤ 6000 := by
    have : tn ≤ 20 * 300 := by rw [htn]; exact Nat.mul_le_mul ht2 HN.out
    omega
  have qt1 : ¬ (t : Int) < 1 := by omega
  have qt2 : ¬ (20 : Int) < (t : Int) := by omega
  have qt3 : (t : Int) ≤ 255 := by omega
  have qt4 : ¬ (255 : Int) < (t : Int) := by omega
  have qt0 : (0 : Int) < (t : Int) := by omega
  have qtt : ((t : Int) != (t : Int)) = false := by simp
  have qnn : ((n : Int) != (n : Int)) = false := by simp
  have qn : (n : Int) ≤ 300 := by have := HN.out; omega
  have HLEN := Lib.hid (fun k (hk : k < t) => show (rw_ (cutM B t n) k).length ≤ 1000 from by rw [cutM_row hk, cutP_len]; have := HN.out; omega)
  clear hn htn ht1 ht2
  obtain ⟨hE, hC, hCB, hP, hPB, hG, hGB⟩ := hAll
  have HL9 := Lib.hid (lives9 hE)
  have HC := Lib.hid hC; have HCB := Lib.hid hCB; have HP := Lib.hid hP; have HPB := Lib.hid hPB; have HG := Lib.hid hG; have HGB := Lib.hid hGB
  have HB := Lib.hid hB
  have HBL := Lib.hid hB.len
  have HTW := Lib.hid hTW
  have HSW := Lib.hid hSW
  have HL := Lib.hid hL
  have hbd := hB.bd
  have qL : (L : Int) ≤ 300 := by omega
  clear hE hC hCB hP hPB hG hGB hB hTW hSW hL
  go_enter Try.func6, Try.ntmps6
  go_upto_region 3 with (go_at_call 7; go_loud ((with_reducible refine (HL9.out w).mono ?_); rintro e w1 ⟨rfl, hb⟩; have HB1 := Lib.hid hb; clear hb))
  have HCU := Lib.hid (HC.out L t aB cB B w1 (HB.out.on HB1.out) HT.out.1 (by have := HT.out; omega) (by have := HL.out; omega))
  rw [← HNE.out] at HCU
  go_upto_region 7 with (first
    | (go_at_call 16; go_loud ((with_reducible refine HCU.out.mono ?_); rintro e w3 ⟨a3, c3, rfl, hm3, hb3⟩; have HM3 := Lib.hid hm3.mat; have HB3 := Lib.hid (bt HB1.out hb3); have HRC := Lib.hid (refCut_any L t aB cB B w3 (HB.out.on (bt HB1.out hb3)) HT.out.1 (by have := HT.out; omega) (by have := HL.out; omega)); clear hm3 hb3))
    | (go_at_call 18; go_loud ((with_reducible refine HRC.out.mono ?_); rintro e w4 ⟨g4, rfl, hm4, hb4⟩; rw [← HNE.out] at hm4; have HM4 := Lib.hid hm4; have HM34 := Lib.hid (HM3.out.on hb4); have HB4 := Lib.hid (bt HB3.out hb4); clear hm4 hb4)))
  clear HCU HRC HM3 HB1 HB3 HL9
  obtain ⟨b0, o0, ai0, ci0, e0, hb0, hc0, hp0⟩ := HM4.out.row (i := 0) (by have := HT.out; omega)
  cases e0
  rw [cutM_row (by have := HT.out; omega), cutP_len] at hc0 hp0
  rw [Nat.add_zero] at hc0
  have hcd : ∀ k, (w4.drewN k).cell? ⟨g4, 0, none⟩ = some (.slice ai0 n ci0) := fun k => hc0
  have hbd0 := hp0.bd
  have HPQ := Lib.hid (fun V => HP.out L t V HT.out.1 (by have := HT.out; omega) (by have := HL.out; omega))
  rw [← HNE.out] at HPQ
  have HC0 := Lib.hid hc0
  have HB0 := Lib.hid hb0
  clear hp0 hb0
  go_wp2_with fail
  go_quiet ((go_at_call 17; exact Calls.quiet_of (HPQ.out _)))
  obtain ⟨w5, h5⟩ : ∃ V, V = w4.drewN nq := ⟨_, rfl⟩
  have HB45 := Lib.hid (show Below w4.heap.size w4 w5 from by rw [h5]; exact below_drewN (Below.refl _ _) nq)
  rw [← h5]
  clear h5 hcd hc0
  go_upto_region 10 with fail
  go_loopw [81] (fun s wr => ∃ k : Nat, k ≤ t ∧ s = .int .i64 (k : Nat) ∧ Hid (Below w4.heap.size w4 wr)) (fun s _ => t - (intOf s).toNat)
  case atStart => exact ⟨0, by omega, rfl, HB45⟩
  case round =>
    obtain ⟨k, hk, rfl, hB⟩ := hrel
    rename World => w6
    by_cases hlt : k < t
    · obtain ⟨b7, off7, a7, c7, rfl, hb7, hcell7, hpa7⟩ := HM34.out.row hlt
      obtain ⟨b8, off8, a8, c8, e8, hb8, hcell8, hpa8⟩ := HM4.out.row hlt
      cases e8
      rw [cutM_row hlt, cutP_len] at hcell7 hpa7 hcell8 hpa8
      obtain ⟨R, hR⟩ : ∃ R, R = cutP B n k n := ⟨_, rfl⟩
      rw [← hR] at hpa7 hpa8
      have hcr7 : ∀ j, (World.drewN w6 j).cell? ⟨b7, off7 + k, none⟩ = some (.slice a7 n c7) := fun j => (hB.out.cell (p := ⟨b7, off7 + k, none⟩) hb7).trans hcell7
      have hcr8 : ∀ j, (World.drewN w6 j).cell? ⟨g4, k, none⟩ = some (.slice a8 n c8) := fun j => by have h := (hB.out.cell (p := ⟨g4, 0 + k, none⟩) hb8).trans hcell8; rw [Nat.zero_add] at h; exact h
      have hcr7' := hcr7 0
      have hcr8' := hcr8 0
      have hcv7 : ∀ j, (convert 23 9 (.slice a7 n c7)).run Try.prog (World.drewN w6 j) = .ok (.string (strOfNums (iL R))) (World.drewN w6 j) := fun j => hpa7.str_on rfl _ (below_drewN hB.out _)
      have hcv8 : ∀ j, (convert 23 9 (.slice a8 n c8)).run Try.prog (World.drewN w6 j) = .ok (.string (strOfNums (iL R))) (World.drewN w6 j) := fun j => hpa8.str_on rfl _ (below_drewN hB.out _)
      have qk : (k : Int) < (t : Int) := by omega
      have qk0 : (0 : Int) ≤ (k : Int) := by omega
      clear hcell7 hcell8 hpa7 hpa8 hR
      go_wp2_with fail
      go_quiet (fail)
      go_wp2
      go_roundw
      case rel => exact ⟨k + 1, by omega, by go_num, Lib.hid (below_drewN hB.out _)⟩
      case measure => simp [intOf]; omega
    · obtain rfl : t = k := by omega
      have HM6 := Lib.hid (HM34.out.on hB.out)
      have HB6 := Lib.hid (bt HB4.out hB.out)
      have HBQ := Lib.hid hB.out
      have HG1 := Lib.hid (HG.out t L _ _ (cutM B t n) w6 HM6.out (by rw [flat_len]; exact HLT.out) (by have := HT.out; omega) HLEN.out)
      rw [flat_take HBL.out HLT.out] at HG1
      clear hlt hk hB
      go_upto_region 17 with (first
        | (go_at_call 19; go_loud ((with_reducible refine HG1.out.mono ?_); rintro e w7 ⟨a7, c7, rfl, hp7, hb7⟩; have HP7 := Lib.hid hp7; have HB67 := Lib.hid hb7; have HM7 := Lib.hid (HM6.out.on hb7); have HG2 := Lib.hid (HGB.out t s _ _ (cutM B t n) w7 HM7.out HSW.out (by rw [flat_len, ← HTN.out]; first | exact .inl hs0 | exact .inr hs1) (by have := HT.out; omega) HLEN.out); clear hp7 hb7))
        | (go_at_call 19; go_loud ((with_reducible refine HG2.out.mono ?_); rintro e w8 ⟨a8, c8, rfl, hb8⟩; have HB68 := Lib.hid (bt HB67.out hb8); have HB78 := Lib.hid hb8; clear hb8)))
      have k7 := (HP7.out.on HB78.out).str
      have kB := (HB.out.on (bt HB6.out HB68.out)).str
      have hc8 : World.cell? _ ⟨g4, 0, none⟩ = some (.slice ai0 n ci0) := ((bt HBQ.out HB68.out).cell (p := ⟨g4, 0, none⟩) HB0.out).trans HC0.out
      have HBF := Lib.hid (bt HB6.out HB68.out)
      clear HG1 HG2
      go_wp2
      go_ret
      exact ⟨rfl, HBF.out⟩

set_option maxHeartbeats 4000000 in
theorem cu_T3_s3 (hAll : CutAll) (t : Nat) (s : Nat) (L : Nat) (aB : Option Addr) (cB : Nat) (B : List GF) (w : World) (hTW : (Lit.int .i64 (t : Int)).wf = true) (hSW : (Lit.int .i64 (s : Int)).wf = true) (hB : Pa w aB L cB B) (hL : L ≤ 300) (ht1 : 1 ≤ t) (ht2 : t ≤ 20) (hs1 : s ≤ t * ceil L t) :
    Calls Try.prog 6 #[.slice aB L cB, .int .i64 (t : Int), .int .i64 (s : Int)] w fun e w' => e = .returned (.bool true) ∧ Below w.heap.size w w' := by
  obtain ⟨n, hn⟩ : ∃ n, n = ceil L t := ⟨_, rfl⟩
  obtain ⟨tn, htn⟩ : ∃ tn, tn = t * n := ⟨_, rfl⟩
  rw [← hn, ← htn] at hs1
  have HNE := Lib.hid hn
  have HTN := Lib.hid htn
  have HT := Lib.hid (And.intro ht1 ht2)
  have HN := Lib.hid (show n ≤ 300 from by rw [hn]; exact Nat.le_trans (ceil_bd ht1) hL)
  have HLT := Lib.hid (show L ≤ t * n from by rw [hn]; exact ceil_mul ht1)
  have qtn : (t : Int) * (n : Int) = (tn : Int) := by rw [htn]; rfl
  have qtn2 : (tn : Int) ≤ 6000 := by
    have : tn ≤ 20 * 300 := by rw [htn]; exact Nat.mul_le_mul ht2 HN.out
    omega
  have qt1 : ¬ (t : Int) < 1 := by omega
  have qt2 : ¬ (20 : Int) < (t : Int) := by omega
  have qt3 : (t : Int) ≤ 255 := by omega
  have qt4 : ¬ (255 : Int) < (t : Int) := by omega
  have qt0 : (0 : Int) < (t : Int) := by omega
  have qtt : ((t : Int) != (t : Int)) = false := by simp
  have qnn : ((n : Int) != (n : Int)) = false := by simp
  have qn : (n : Int) ≤ 300 := by have := HN.out; omega
  have HLEN := Lib.hid (fun k (hk : k < t) => show (rw_ (cutM B t n) k).length ≤ 1000 from by rw [cutM_row hk, cutP_len]; have := HN.out; omega)
  have qss : ((s : Int) != (s : Int)) = false := by simp
  have qs2 : ¬ (tn : Int) < (s : Int) := by omega
  have qs3 : ¬ (s : Int) < 0 := by omega
  clear hn htn ht1 ht2
  obtain ⟨hE, hC, hCB, hP, hPB, hG, hGB⟩ := hAll
  have HL9 := Lib.hid (lives9 hE)
  have HC := Lib.hid hC; have HCB := Lib.hid hCB; have HP := Lib.hid hP; have HPB := Lib.hid hPB; have HG := Lib.hid hG; have HGB := Lib.hid hGB
  have HB := Lib.hid hB
  have HBL := Lib.hid hB.len
  have HTW := Lib.hid hTW
  have HSW := Lib.hid hSW
  have HL := Lib.hid hL
  have hbd := hB.bd
  have qL : (L : Int) ≤ 300 := by omega
  clear hE hC hCB hP hPB hG hGB hB hTW hSW hL
  go_enter Try.func6, Try.ntmps6
  go_upto_region 3 with (go_at_call 7; go_loud ((with_reducible refine (HL9.out w).mono ?_); rintro e w1 ⟨rfl, hb⟩; have HB1 := Lib.hid hb; clear hb))
  have HCU := Lib.hid (HC.out L t aB cB B w1 (HB.out.on HB1.out) HT.out.1 (by have := HT.out; omega) (by have := HL.out; omega))
  rw [← HNE.out] at HCU
  go_upto_region 7 with (first
    | (go_at_call 16; go_loud ((with_reducible refine HCU.out.mono ?_); rintro e w3 ⟨a3, c3, rfl, hm3, hb3⟩; have HM3 := Lib.hid hm3.mat; have HB3 := Lib.hid (bt HB1.out hb3); have HRC := Lib.hid (refCut_any L t aB cB B w3 (HB.out.on (bt HB1.out hb3)) HT.out.1 (by have := HT.out; omega) (by have := HL.out; omega)); clear hm3 hb3))
    | (go_at_call 18; go_loud ((with_reducible refine HRC.out.mono ?_); rintro e w4 ⟨g4, rfl, hm4, hb4⟩; rw [← HNE.out] at hm4; have HM4 := Lib.hid hm4; have HM34 := Lib.hid (HM3.out.on hb4); have HB4 := Lib.hid (bt HB3.out hb4); clear hm4 hb4)))
  clear HCU HRC HM3 HB1 HB3 HL9
  obtain ⟨b0, o0, ai0, ci0, e0, hb0, hc0, hp0⟩ := HM4.out.row (i := 0) (by have := HT.out; omega)
  cases e0
  rw [cutM_row (by have := HT.out; omega), cutP_len] at hc0 hp0
  rw [Nat.add_zero] at hc0
  have hcd : ∀ k, (w4.drewN k).cell? ⟨g4, 0, none⟩ = some (.slice ai0 n ci0) := fun k => hc0
  have hbd0 := hp0.bd
  have HPQ := Lib.hid (fun V => HP.out L t V HT.out.1 (by have := HT.out; omega) (by have := HL.out; omega))
  rw [← HNE.out] at HPQ
  have HC0 := Lib.hid hc0
  have HB0 := Lib.hid hb0
  clear hp0 hb0
  go_wp2_with fail
  go_quiet ((go_at_call 17; exact Calls.quiet_of (HPQ.out _)))
  obtain ⟨w5, h5⟩ : ∃ V, V = w4.drewN nq := ⟨_, rfl⟩
  have HB45 := Lib.hid (show Below w4.heap.size w4 w5 from by rw [h5]; exact below_drewN (Below.refl _ _) nq)
  rw [← h5]
  clear h5 hcd hc0
  go_upto_region 10 with fail
  go_loopw [81] (fun s wr => ∃ k : Nat, k ≤ t ∧ s = .int .i64 (k : Nat) ∧ Hid (Below w4.heap.size w4 wr)) (fun s _ => t - (intOf s).toNat)
  case atStart => exact ⟨0, by omega, rfl, HB45⟩
  case round =>
    obtain ⟨k, hk, rfl, hB⟩ := hrel
    rename World => w6
    by_cases hlt : k < t
    · obtain ⟨b7, off7, a7, c7, rfl, hb7, hcell7, hpa7⟩ := HM34.out.row hlt
      obtain ⟨b8, off8, a8, c8, e8, hb8, hcell8, hpa8⟩ := HM4.out.row hlt
      cases e8
      rw [cutM_row hlt, cutP_len] at hcell7 hpa7 hcell8 hpa8
      obtain ⟨R, hR⟩ : ∃ R, R = cutP B n k n := ⟨_, rfl⟩
      rw [← hR] at hpa7 hpa8
      have hcr7 : ∀ j, (World.drewN w6 j).cell? ⟨b7, off7 + k, none⟩ = some (.slice a7 n c7) := fun j => (hB.out.cell (p := ⟨b7, off7 + k, none⟩) hb7).trans hcell7
      have hcr8 : ∀ j, (World.drewN w6 j).cell? ⟨g4, k, none⟩ = some (.slice a8 n c8) := fun j => by have h := (hB.out.cell (p := ⟨g4, 0 + k, none⟩) hb8).trans hcell8; rw [Nat.zero_add] at h; exact h
      have hcr7' := hcr7 0
      have hcr8' := hcr8 0
      have hcv7 : ∀ j, (convert 23 9 (.slice a7 n c7)).run Try.prog (World.drewN w6 j) = .ok (.string (strOfNums (iL R))) (World.drewN w6 j) := fun j => hpa7.str_on rfl _ (below_drewN hB.out _)
      have hcv8 : ∀ j, (convert 23 9 (.slice a8 n c8)).run Try.prog (World.drewN w6 j) = .ok (.string (strOfNums (iL R))) (World.drewN w6 j) := fun j => hpa8.str_on rfl _ (below_drewN hB.out _)
      have qk : (k : Int) < (t : Int) := by omega
      have qk0 : (0 : Int) ≤ (k : Int) := by omega
      clear hcell7 hcell8 hpa7 hpa8 hR
      go_wp2_with fail
      go_quiet (fail)
      go_wp2
      go_roundw
      case rel => exact ⟨k + 1, by omega, by go_num, Lib.hid (below_drewN hB.out _)⟩
      case measure => simp [intOf]; omega
    · obtain rfl : t = k := by omega
      have HM6 := Lib.hid (HM34.out.on hB.out)
      have HB6 := Lib.hid (bt HB4.out hB.out)
      have HBQ := Lib.hid hB.out
      have HG1 := Lib.hid (HG.out t L _ _ (cutM B t n) w6 HM6.out (by rw [flat_len]; exact HLT.out) (by have := HT.out; omega) HLEN.out)
      rw [flat_take HBL.out HLT.out] at HG1
      clear hlt hk hB
      go_upto_region 17 with (first
        | (go_at_call 19; go_loud ((with_reducible refine HG1.out.mono ?_); rintro e w7 ⟨a7, c7, rfl, hp7, hb7⟩; have HP7 := Lib.hid hp7; have HB67 := Lib.hid hb7; have HM7 := Lib.hid (HM6.out.on hb7); have HG2 := Lib.hid (HG.out t s _ _ (cutM B t n) w7 HM7.out (by rw [flat_len, ← HTN.out]; omega) (by have := HT.out; omega) HLEN.out); clear hp7 hb7))
        | (go_at_call 19; go_loud ((with_reducible refine HG2.out.mono ?_); rintro e w8 ⟨a8, c8, rfl, hp7, hb8⟩; have HB68 := Lib.hid (bt HB67.out hb8); have HB78 := Lib.hid hb8; clear hb8 hp7)))
      have k7 := (HP7.out.on HB78.out).str
      have kB := (HB.out.on (bt HB6.out HB68.out)).str
      have hc8 : World.cell? _ ⟨g4, 0, none⟩ = some (.slice ai0 n ci0) := ((bt HBQ.out HB68.out).cell (p := ⟨g4, 0, none⟩) HB0.out).trans HC0.out
      have HBF := Lib.hid (bt HB6.out HB68.out)
      clear HG1 HG2
      go_wp2
      go_ret
      exact ⟨rfl, HBF.out⟩

theorem codeCuts_core (hAll : CutAll) (t s : Int) (L : Nat) (aB : Option Addr) (cB : Nat) (B : List GF) (w : World) (hTW : (Lit.int .i64 t).wf = true) (hSW : (Lit.int .i64 s).wf = true) (hB : Pa w aB L cB B) (hL : L ≤ 300) (hNf : ¬ (20 < t ∧ t ≤ 255)) :
    Calls Try.prog 6 #[.slice aB L cB, .int .i64 t, .int .i64 s] w fun e w' => e = .returned (.bool true) ∧ Below w.heap.size w w' := by
  by_cases ht : t < 1
  · exact cu_T1 hAll t s L aB cB B w hTW hSW hB hL ht (by omega)
  by_cases ht2 : 255 < t
  · exact cu_T2 hAll t s L aB cB B w hTW hSW hB hL ht2 (by omega) (by omega) ht
  obtain ⟨T, rfl⟩ : ∃ T : Nat, t = (T : Int) := ⟨t.toNat, by omega⟩
  by_cases hs0 : s < 0
  · exact cu_T3_s1 hAll T s L aB cB B w hTW hSW hB hL (by omega) (by omega) hs0
  by_cases hs1 : ((T * ceil L T : Nat) : Int) < s
  · exact cu_T3_s2 hAll T s L aB cB B w hTW hSW hB hL (by omega) (by omega) hs0 hs1
  obtain ⟨S, rfl⟩ : ∃ S : Nat, s = (S : Int) := ⟨s.toNat, by omega⟩
  exact cu_T3_s3 hAll T S L aB cB B w hTW hSW hB hL (by omega) (by omega) (by omega)
end Go.Proofs.Ytmhjpdppippgkaa
