/- CodeEncodes' walk, under the contracts. -/
import Derived.Test.YtmhjpdppippgkaaCl
import Derived.Deep.QuietTactic
import Derived.Deep.RegionHeld
namespace Go.Proofs.Ytmhjpdppippgkaa
open Go.ChangeShapes Go.WideShapes Go.ChangeAt Go.RowKit Go.Shelf GF
set_option linter.unusedVariables false
set_option linter.unusedSimpArgs false
set_option maxRecDepth 100000

/-- Encode's and Piece's contracts. -/
def EncAll : Prop := EncodeC ∧ EncodeRangeC ∧ EncodeFormC ∧ EncodeArgC ∧ PieceC ∧ PieceRangeC ∧ PieceFormC ∧ PieceArgC

set_option maxHeartbeats 4000000 in
theorem ce_A1F1_a1 (hAll : EncAll) (N : Int) (x : Int) (t n : Nat) (aR : Option Addr) (cR : Nat) (R : List (List GF)) (w : World) (hNW : (Lit.int .i64 N).wf = true) (hXW : (Lit.int .i64 x).wf = true) (hR : Mat w aR t cR R) (hF : FewR t R) (q0 : ((t : Int) == 0) = true) (qf1 : ¬ (20 : Int) < N) :
    Calls Try.prog 4 #[.int .i64 N, .slice aR t cR, .int .i64 x] w fun e w' => e = .returned (.bool true) ∧ Below w.heap.size w w' := by
  obtain ⟨hE, hER, hEF, hEA, hP, hPR, hPF, hPA⟩ := hAll
  have HL9 := Lib.hid (lives9 hE)
  have HE := Lib.hid hE; have HER := Lib.hid hER; have HEF := Lib.hid hEF; have HEA := Lib.hid hEA
  have HP := Lib.hid hP; have HPR := Lib.hid hPR; have HPF := Lib.hid hPF; have HPA := Lib.hid hPA
  have HR := Lib.hid hR
  have HFR := Lib.hid hF
  have HNW := Lib.hid hNW
  have HXW := Lib.hid hXW
  have HT := Lib.hid (show t ≤ 255 from by have := hF.1; omega)
  have HLEN := Lib.hid (fun k (hk : k < t) => show (rw_ R k).length ≤ 1000 from Nat.le_trans (hF.2 k hk) (by omega))
  have hbd := hR.bd
  have qt : (t : Int) ≤ 255 := by have := hF.1; omega
  have HT0 := Lib.hid (show t = 0 from by rw [beq_iff_eq] at q0; omega)
  clear hE hER hEF hEA hP hPR hPF hPA hR hF hNW hXW
  go_enter Try.func4, Try.ntmps4
  go_upto_region 3 with (first
    | (go_at_call 7; go_loud ((with_reducible refine (HL9.out w).mono ?_); rintro e w1 ⟨rfl, hb⟩; have HB1 := Lib.hid hb; have HFW := Lib.hid (few_yes aR t cR R w1 (HR.out.on hb) HFR.out); clear hb))
    | (go_at_call 8; go_loud ((with_reducible refine HFW.out.mono ?_); rintro e w' ⟨rfl, rfl⟩)))
  go_upto_region 6 with (first
    | (go_at_call 10; go_loud (refine (new_any _).mono ?_; rintro e w2 ⟨b, rfl, hb0, hf, hb2⟩; have HF2 := Lib.hid hf; have HB2 := Lib.hid (bt HB1.out hb2); have HEN := Lib.hid (HER.out b t N aR cR R w2 hf (HR.out.on HB2.out) HNW.out (.inl HT0.out) HT.out HLEN.out); clear hf hb0 hb2))
    | (go_at_call 11; go_loud ((with_reducible refine HEN.out.mono ?_); rintro e w3 ⟨a3, c3, rfl, hb3⟩; have HB3 := Lib.hid (bt HB2.out hb3); have HF3 := Lib.hid (HF2.out.below hb3); have HPC := Lib.hid (HPR.out b t x aR cR R w3 HF3.out (HR.out.on HB3.out) HXW.out (.inl HT0.out) HT.out HLEN.out); clear hb3))
    | (go_at_call 12; go_loud ((with_reducible refine HPC.out.mono ?_); rintro e w4 ⟨a4, c4, rfl, hb4⟩; have HB4 := Lib.hid (bt HB3.out hb4); clear hb4)))
  clear HEN HPC HFW HB1 HB2 HB3 HL9
  go_upto_region 14 with fail
  go_loopw [80] (fun s wr => s = .int .i64 0 ∧ wr = w4) (fun s _ => 0)
  case atStart => exact ⟨rfl, rfl⟩
  case round =>
    obtain ⟨rfl, rfl⟩ := hrel
    rename World => w5
    have HEN2 := Lib.hid (HEA.out t N aR cR R w5 (HR.out.on HB4.out) HNW.out HT.out HLEN.out)
    go_upto_region 23 with (first
      | (go_at_call 11; go_loud ((with_reducible refine HEN2.out.mono ?_); rintro e w6 ⟨v6, rfl, hb6⟩; have HB6 := Lib.hid (bt HB4.out hb6); have HB46 := Lib.hid hb6; have HPC2 := Lib.hid (HPA.out t x aR cR R w6 (HR.out.on HB6.out) HXW.out HT.out HLEN.out); clear hb6))
      | (go_at_call 12; go_loud ((with_reducible refine HPC2.out.mono ?_); rintro e w7 ⟨v7, rfl, hb7⟩; have HB7 := Lib.hid (bt HB6.out hb7); have HB47 := Lib.hid (bt HB46.out hb7); clear hb7)))
    clear HEN2 HPC2 HB6 HB46
    go_wp2
    go_ret
    exact ⟨rfl, HB7.out⟩

set_option maxHeartbeats 4000000 in
theorem ce_A1F2_a1 (hAll : EncAll) (N : Int) (x : Int) (t n : Nat) (aR : Option Addr) (cR : Nat) (R : List (List GF)) (w : World) (hNW : (Lit.int .i64 N).wf = true) (hXW : (Lit.int .i64 x).wf = true) (hR : Mat w aR t cR R) (hF : FewR t R) (q0 : ((t : Int) == 0) = true) (qf1 : (20 : Int) < N) (qf2 : ¬ N ≤ 255) :
    Calls Try.prog 4 #[.int .i64 N, .slice aR t cR, .int .i64 x] w fun e w' => e = .returned (.bool true) ∧ Below w.heap.size w w' := by
  obtain ⟨hE, hER, hEF, hEA, hP, hPR, hPF, hPA⟩ := hAll
  have HL9 := Lib.hid (lives9 hE)
  have HE := Lib.hid hE; have HER := Lib.hid hER; have HEF := Lib.hid hEF; have HEA := Lib.hid hEA
  have HP := Lib.hid hP; have HPR := Lib.hid hPR; have HPF := Lib.hid hPF; have HPA := Lib.hid hPA
  have HR := Lib.hid hR
  have HFR := Lib.hid hF
  have HNW := Lib.hid hNW
  have HXW := Lib.hid hXW
  have HT := Lib.hid (show t ≤ 255 from by have := hF.1; omega)
  have HLEN := Lib.hid (fun k (hk : k < t) => show (rw_ R k).length ≤ 1000 from Nat.le_trans (hF.2 k hk) (by omega))
  have hbd := hR.bd
  have qt : (t : Int) ≤ 255 := by have := hF.1; omega
  have HT0 := Lib.hid (show t = 0 from by rw [beq_iff_eq] at q0; omega)
  clear hE hER hEF hEA hP hPR hPF hPA hR hF hNW hXW
  go_enter Try.func4, Try.ntmps4
  go_upto_region 3 with (first
    | (go_at_call 7; go_loud ((with_reducible refine (HL9.out w).mono ?_); rintro e w1 ⟨rfl, hb⟩; have HB1 := Lib.hid hb; have HFW := Lib.hid (few_yes aR t cR R w1 (HR.out.on hb) HFR.out); clear hb))
    | (go_at_call 8; go_loud ((with_reducible refine HFW.out.mono ?_); rintro e w' ⟨rfl, rfl⟩)))
  go_upto_region 6 with (first
    | (go_at_call 10; go_loud (refine (new_any _).mono ?_; rintro e w2 ⟨b, rfl, hb0, hf, hb2⟩; have HF2 := Lib.hid hf; have HB2 := Lib.hid (bt HB1.out hb2); have HEN := Lib.hid (HER.out b t N aR cR R w2 hf (HR.out.on HB2.out) HNW.out (.inl HT0.out) HT.out HLEN.out); clear hf hb0 hb2))
    | (go_at_call 11; go_loud ((with_reducible refine HEN.out.mono ?_); rintro e w3 ⟨a3, c3, rfl, hb3⟩; have HB3 := Lib.hid (bt HB2.out hb3); have HF3 := Lib.hid (HF2.out.below hb3); have HPC := Lib.hid (HPR.out b t x aR cR R w3 HF3.out (HR.out.on HB3.out) HXW.out (.inl HT0.out) HT.out HLEN.out); clear hb3))
    | (go_at_call 12; go_loud ((with_reducible refine HPC.out.mono ?_); rintro e w4 ⟨a4, c4, rfl, hb4⟩; have HB4 := Lib.hid (bt HB3.out hb4); clear hb4)))
  clear HEN HPC HFW HB1 HB2 HB3 HL9
  go_upto_region 14 with fail
  go_loopw [80] (fun s wr => s = .int .i64 0 ∧ wr = w4) (fun s _ => 0)
  case atStart => exact ⟨rfl, rfl⟩
  case round =>
    obtain ⟨rfl, rfl⟩ := hrel
    rename World => w5
    have HEN2 := Lib.hid (HEA.out t N aR cR R w5 (HR.out.on HB4.out) HNW.out HT.out HLEN.out)
    go_upto_region 23 with (first
      | (go_at_call 11; go_loud ((with_reducible refine HEN2.out.mono ?_); rintro e w6 ⟨v6, rfl, hb6⟩; have HB6 := Lib.hid (bt HB4.out hb6); have HB46 := Lib.hid hb6; have HPC2 := Lib.hid (HPA.out t x aR cR R w6 (HR.out.on HB6.out) HXW.out HT.out HLEN.out); clear hb6))
      | (go_at_call 12; go_loud ((with_reducible refine HPC2.out.mono ?_); rintro e w7 ⟨v7, rfl, hb7⟩; have HB7 := Lib.hid (bt HB6.out hb7); have HB47 := Lib.hid (bt HB46.out hb7); clear hb7)))
    clear HEN2 HPC2 HB6 HB46
    go_wp2
    go_ret
    exact ⟨rfl, HB7.out⟩

set_option maxHeartbeats 4000000 in
theorem ce_A2_a2 (hAll : EncAll) (N : Int) (x : Int) (t n : Nat) (aR : Option Addr) (cR : Nat) (R : List (List GF)) (w : World) (hNW : (Lit.int .i64 N).wf = true) (hXW : (Lit.int .i64 x).wf = true) (hR : Mat w aR t cR R) (hF : FewR t R) (q0 : ((t : Int) == 0) = false) (qa : N < (t : Int)) (qf1 : ¬ (20 : Int) < N) (qx : x < 1) :
    Calls Try.prog 4 #[.int .i64 N, .slice aR t cR, .int .i64 x] w fun e w' => e = .returned (.bool true) ∧ Below w.heap.size w w' := by
  obtain ⟨hE, hER, hEF, hEA, hP, hPR, hPF, hPA⟩ := hAll
  have HL9 := Lib.hid (lives9 hE)
  have HE := Lib.hid hE; have HER := Lib.hid hER; have HEF := Lib.hid hEF; have HEA := Lib.hid hEA
  have HP := Lib.hid hP; have HPR := Lib.hid hPR; have HPF := Lib.hid hPF; have HPA := Lib.hid hPA
  have HR := Lib.hid hR
  have HFR := Lib.hid hF
  have HNW := Lib.hid hNW
  have HXW := Lib.hid hXW
  have HT := Lib.hid (show t ≤ 255 from by have := hF.1; omega)
  have HLEN := Lib.hid (fun k (hk : k < t) => show (rw_ R k).length ≤ 1000 from Nat.le_trans (hF.2 k hk) (by omega))
  have hbd := hR.bd
  have qt : (t : Int) ≤ 255 := by have := hF.1; omega
  have HT1 := Lib.hid (show 1 ≤ t from by rw [beq_eq_false_iff_ne] at q0; omega)
  clear hE hER hEF hEA hP hPR hPF hPA hR hF hNW hXW
  go_enter Try.func4, Try.ntmps4
  go_upto_region 3 with (first
    | (go_at_call 7; go_loud ((with_reducible refine (HL9.out w).mono ?_); rintro e w1 ⟨rfl, hb⟩; have HB1 := Lib.hid hb; have HFW := Lib.hid (few_yes aR t cR R w1 (HR.out.on hb) HFR.out); clear hb))
    | (go_at_call 8; go_loud ((with_reducible refine HFW.out.mono ?_); rintro e w' ⟨rfl, rfl⟩)))
  go_upto_region 6 with (first
    | (go_at_call 10; go_loud (refine (new_any _).mono ?_; rintro e w2 ⟨b, rfl, hb0, hf, hb2⟩; have HF2 := Lib.hid hf; have HB2 := Lib.hid (bt HB1.out hb2); have HEN := Lib.hid (HER.out b t N aR cR R w2 hf (HR.out.on HB2.out) HNW.out (.inr (.inl qa)) HT.out HLEN.out); clear hf hb0 hb2))
    | (go_at_call 11; go_loud ((with_reducible refine HEN.out.mono ?_); rintro e w3 ⟨a3, c3, rfl, hb3⟩; have HB3 := Lib.hid (bt HB2.out hb3); have HF3 := Lib.hid (HF2.out.below hb3); have HPC := Lib.hid (HPR.out b t x aR cR R w3 HF3.out (HR.out.on HB3.out) HXW.out (.inr (.inl qx)) HT.out HLEN.out); clear hb3))
    | (go_at_call 12; go_loud ((with_reducible refine HPC.out.mono ?_); rintro e w4 ⟨a4, c4, rfl, hb4⟩; have HB4 := Lib.hid (bt HB3.out hb4); clear hb4)))
  clear HEN HPC HFW HB1 HB2 HB3 HL9
  go_upto_region 14 with fail
  go_loopw [80] (fun s wr => s = .int .i64 0 ∧ wr = w4) (fun s _ => 0)
  case atStart => exact ⟨rfl, rfl⟩
  case round =>
    obtain ⟨rfl, rfl⟩ := hrel
    rename World => w5
    have HEN2 := Lib.hid (HEA.out t N aR cR R w5 (HR.out.on HB4.out) HNW.out HT.out HLEN.out)
    go_upto_region 23 with (first
      | (go_at_call 11; go_loud ((with_reducible refine HEN2.out.mono ?_); rintro e w6 ⟨v6, rfl, hb6⟩; have HB6 := Lib.hid (bt HB4.out hb6); have HB46 := Lib.hid hb6; have HPC2 := Lib.hid (HPA.out t x aR cR R w6 (HR.out.on HB6.out) HXW.out HT.out HLEN.out); clear hb6))
      | (go_at_call 12; go_loud ((with_reducible refine HPC2.out.mono ?_); rintro e w7 ⟨v7, rfl, hb7⟩; have HB7 := Lib.hid (bt HB6.out hb7); have HB47 := Lib.hid (bt HB46.out hb7); clear hb7)))
    clear HEN2 HPC2 HB6 HB46
    go_wp2
    go_ret
    exact ⟨rfl, HB7.out⟩

set_option maxHeartbeats 4000000 in
theorem ce_A2_a3 (hAll : EncAll) (N : Int) (x : Int) (t n : Nat) (aR : Option Addr) (cR : Nat) (R : List (List GF)) (w : World) (hNW : (Lit.int .i64 N).wf = true) (hXW : (Lit.int .i64 x).wf = true) (hR : Mat w aR t cR R) (hF : FewR t R) (q0 : ((t : Int) == 0) = false) (qa : N < (t : Int)) (qf1 : ¬ (20 : Int) < N) (qx : ¬ x < 1) (qy : (255 : Int) < x) :
    Calls Try.prog 4 #[.int .i64 N, .slice aR t cR, .int .i64 x] w fun e w' => e = .returned (.bool true) ∧ Below w.heap.size w w' := by
  obtain ⟨hE, hER, hEF, hEA, hP, hPR, hPF, hPA⟩ := hAll
  have HL9 := Lib.hid (lives9 hE)
  have HE := Lib.hid hE; have HER := Lib.hid hER; have HEF := Lib.hid hEF; have HEA := Lib.hid hEA
  have HP := Lib.hid hP; have HPR := Lib.hid hPR; have HPF := Lib.hid hPF; have HPA := Lib.hid hPA
  have HR := Lib.hid hR
  have HFR := Lib.hid hF
  have HNW := Lib.hid hNW
  have HXW := Lib.hid hXW
  have HT := Lib.hid (show t ≤ 255 from by have := hF.1; omega)
  have HLEN := Lib.hid (fun k (hk : k < t) => show (rw_ R k).length ≤ 1000 from Nat.le_trans (hF.2 k hk) (by omega))
  have hbd := hR.bd
  have qt : (t : Int) ≤ 255 := by have := hF.1; omega
  have HT1 := Lib.hid (show 1 ≤ t from by rw [beq_eq_false_iff_ne] at q0; omega)
  clear hE hER hEF hEA hP hPR hPF hPA hR hF hNW hXW
  go_enter Try.func4, Try.ntmps4
  go_upto_region 3 with (first
    | (go_at_call 7; go_loud ((with_reducible refine (HL9.out w).mono ?_); rintro e w1 ⟨rfl, hb⟩; have HB1 := Lib.hid hb; have HFW := Lib.hid (few_yes aR t cR R w1 (HR.out.on hb) HFR.out); clear hb))
    | (go_at_call 8; go_loud ((with_reducible refine HFW.out.mono ?_); rintro e w' ⟨rfl, rfl⟩)))
  go_upto_region 6 with (first
    | (go_at_call 10; go_loud (refine (new_any _).mono ?_; rintro e w2 ⟨b, rfl, hb0, hf, hb2⟩; have HF2 := Lib.hid hf; have HB2 := Lib.hid (bt HB1.out hb2); have HEN := Lib.hid (HER.out b t N aR cR R w2 hf (HR.out.on HB2.out) HNW.out (.inr (.inl qa)) HT.out HLEN.out); clear hf hb0 hb2))
    | (go_at_call 11; go_loud ((with_reducible refine HEN.out.mono ?_); rintro e w3 ⟨a3, c3, rfl, hb3⟩; have HB3 := Lib.hid (bt HB2.out hb3); have HF3 := Lib.hid (HF2.out.below hb3); have HPC := Lib.hid (HPR.out b t x aR cR R w3 HF3.out (HR.out.on HB3.out) HXW.out (.inr (.inr qy)) HT.out HLEN.out); clear hb3))
    | (go_at_call 12; go_loud ((with_reducible refine HPC.out.mono ?_); rintro e w4 ⟨a4, c4, rfl, hb4⟩; have HB4 := Lib.hid (bt HB3.out hb4); clear hb4)))
  clear HEN HPC HFW HB1 HB2 HB3 HL9
  go_upto_region 14 with fail
  go_loopw [80] (fun s wr => s = .int .i64 0 ∧ wr = w4) (fun s _ => 0)
  case atStart => exact ⟨rfl, rfl⟩
  case round =>
    obtain ⟨rfl, rfl⟩ := hrel
    rename World => w5
    have HEN2 := Lib.hid (HEA.out t N aR cR R w5 (HR.out.on HB4.out) HNW.out HT.out HLEN.out)
    go_upto_region 23 with (first
      | (go_at_call 11; go_loud ((with_reducible refine HEN2.out.mono ?_); rintro e w6 ⟨v6, rfl, hb6⟩; have HB6 := Lib.hid (bt HB4.out hb6); have HB46 := Lib.hid hb6; have HPC2 := Lib.hid (HPA.out t x aR cR R w6 (HR.out.on HB6.out) HXW.out HT.out HLEN.out); clear hb6))
      | (go_at_call 12; go_loud ((with_reducible refine HPC2.out.mono ?_); rintro e w7 ⟨v7, rfl, hb7⟩; have HB7 := Lib.hid (bt HB6.out hb7); have HB47 := Lib.hid (bt HB46.out hb7); clear hb7)))
    clear HEN2 HPC2 HB6 HB46
    go_wp2
    go_ret
    exact ⟨rfl, HB7.out⟩

set_option maxHeartbeats 4000000 in
theorem ce_A2_b (hAll : EncAll) (N : Int) (x : Nat) (t n : Nat) (aR : Option Addr) (cR : Nat) (R : List (List GF)) (w : World) (hNW : (Lit.int .i64 N).wf = true) (hXW : (Lit.int .i64 (x : Int)).wf = true) (hR : Mat w aR t cR R) (hF : FewR t R) (hU : ¬ OneR t R) (q0 : ((t : Int) == 0) = false) (qa : N < (t : Int)) (qf1 : ¬ (20 : Int) < N) (qx : ¬ (x : Int) < 1) (qy : ¬ (255 : Int) < (x : Int)) :
    Calls Try.prog 4 #[.int .i64 N, .slice aR t cR, .int .i64 (x : Int)] w fun e w' => e = .returned (.bool true) ∧ Below w.heap.size w w' := by
  obtain ⟨hE, hER, hEF, hEA, hP, hPR, hPF, hPA⟩ := hAll
  have HL9 := Lib.hid (lives9 hE)
  have HE := Lib.hid hE; have HER := Lib.hid hER; have HEF := Lib.hid hEF; have HEA := Lib.hid hEA
  have HP := Lib.hid hP; have HPR := Lib.hid hPR; have HPF := Lib.hid hPF; have HPA := Lib.hid hPA
  have HR := Lib.hid hR
  have HFR := Lib.hid hF
  have HNW := Lib.hid hNW
  have HXW := Lib.hid hXW
  have HT := Lib.hid (show t ≤ 255 from by have := hF.1; omega)
  have HLEN := Lib.hid (fun k (hk : k < t) => show (rw_ R k).length ≤ 1000 from Nat.le_trans (hF.2 k hk) (by omega))
  have hbd := hR.bd
  have qt : (t : Int) ≤ 255 := by have := hF.1; omega
  have HT1 := Lib.hid (show 1 ≤ t from by rw [beq_eq_false_iff_ne] at q0; omega)
  have HUN := Lib.hid (unl_one hR.len hU)
  have HU := Lib.hid hU
  clear hE hER hEF hEA hP hPR hPF hPA hR hF hNW hXW hU
  go_enter Try.func4, Try.ntmps4
  go_upto_region 3 with (first
    | (go_at_call 7; go_loud ((with_reducible refine (HL9.out w).mono ?_); rintro e w1 ⟨rfl, hb⟩; have HB1 := Lib.hid hb; have HFW := Lib.hid (few_yes aR t cR R w1 (HR.out.on hb) HFR.out); clear hb))
    | (go_at_call 8; go_loud ((with_reducible refine HFW.out.mono ?_); rintro e w' ⟨rfl, rfl⟩)))
  go_upto_region 6 with (first
    | (go_at_call 10; go_loud (refine (new_any _).mono ?_; rintro e w2 ⟨b, rfl, hb0, hf, hb2⟩; have HF2 := Lib.hid hf; have HB2 := Lib.hid (bt HB1.out hb2); have HEN := Lib.hid (HER.out b t N aR cR R w2 hf (HR.out.on HB2.out) HNW.out (.inr (.inl qa)) HT.out HLEN.out); clear hf hb0 hb2))
    | (go_at_call 11; go_loud ((with_reducible refine HEN.out.mono ?_); rintro e w3 ⟨a3, c3, rfl, hb3⟩; have HB3 := Lib.hid (bt HB2.out hb3); have HF3 := Lib.hid (HF2.out.below hb3); have HPC := Lib.hid (HPF.out b t x aR cR R w3 HF3.out (HR.out.on HB3.out) HT1.out HT.out (by omega) (by omega) HUN.out HLEN.out); clear hb3))
    | (go_at_call 12; go_loud ((with_reducible refine HPC.out.mono ?_); rintro e w4 ⟨a4, c4, rfl, hb4⟩; have HB4 := Lib.hid (bt HB3.out hb4); clear hb4)))
  clear HEN HPC HFW HB1 HB2 HB3 HL9
  go_upto_region 14 with fail
  go_loopw [80] (fun s wr => s = .int .i64 0 ∧ wr = w4) (fun s _ => 0)
  case atStart => exact ⟨rfl, rfl⟩
  case round =>
    obtain ⟨rfl, rfl⟩ := hrel
    rename World => w5
    have HEN2 := Lib.hid (HEA.out t N aR cR R w5 (HR.out.on HB4.out) HNW.out HT.out HLEN.out)
    go_upto_region 23 with (first
      | (go_at_call 11; go_loud ((with_reducible refine HEN2.out.mono ?_); rintro e w6 ⟨v6, rfl, hb6⟩; have HB6 := Lib.hid (bt HB4.out hb6); have HB46 := Lib.hid hb6; have HPC2 := Lib.hid (HPA.out t (x : Int) aR cR R w6 (HR.out.on HB6.out) HXW.out HT.out HLEN.out); clear hb6))
      | (go_at_call 12; go_loud ((with_reducible refine HPC2.out.mono ?_); rintro e w7 ⟨v7, rfl, hb7⟩; have HB7 := Lib.hid (bt HB6.out hb7); have HB47 := Lib.hid (bt HB46.out hb7); clear hb7)))
    clear HEN2 HPC2 HB6 HB46
    have HUL2 := Lib.hid (unl_yes aR t cR R w7 (HR.out.on HB7.out) HU.out)
    go_wp2_with (go_at_call 9; go_loud ((with_reducible refine HUL2.out.mono ?_); rintro e w' ⟨rfl, rfl⟩))
    go_ret
    exact ⟨rfl, HB7.out⟩

set_option maxHeartbeats 4000000 in
theorem ce_A2_c (hAll : EncAll) (N : Int) (x : Nat) (t n : Nat) (aR : Option Addr) (cR : Nat) (R : List (List GF)) (w : World) (hNW : (Lit.int .i64 N).wf = true) (hXW : (Lit.int .i64 (x : Int)).wf = true) (hR : Mat w aR t cR R) (hF : FewR t R) (hO : OneR t R) (hn : (rw_ R 0).length = n) (q0 : ((t : Int) == 0) = false) (qa : N < (t : Int)) (qf1 : ¬ (20 : Int) < N) (qx : ¬ (x : Int) < 1) (qy : ¬ (255 : Int) < (x : Int)) :
    Calls Try.prog 4 #[.int .i64 N, .slice aR t cR, .int .i64 (x : Int)] w fun e w' => e = .returned (.bool true) ∧ Below w.heap.size w w' := by
  obtain ⟨hE, hER, hEF, hEA, hP, hPR, hPF, hPA⟩ := hAll
  have HL9 := Lib.hid (lives9 hE)
  have HE := Lib.hid hE; have HER := Lib.hid hER; have HEF := Lib.hid hEF; have HEA := Lib.hid hEA
  have HP := Lib.hid hP; have HPR := Lib.hid hPR; have HPF := Lib.hid hPF; have HPA := Lib.hid hPA
  have HR := Lib.hid hR
  have HFR := Lib.hid hF
  have HNW := Lib.hid hNW
  have HXW := Lib.hid hXW
  have HT := Lib.hid (show t ≤ 255 from by have := hF.1; omega)
  have HLEN := Lib.hid (fun k (hk : k < t) => show (rw_ R k).length ≤ 1000 from Nat.le_trans (hF.2 k hk) (by omega))
  have hbd := hR.bd
  have qt : (t : Int) ≤ 255 := by have := hF.1; omega
  have HT1 := Lib.hid (show 1 ≤ t from by rw [beq_eq_false_iff_ne] at q0; omega)
  have HONE := Lib.hid (fun k (hk : k < t) => show (rw_ R k).length = n from (hO k hk).trans hn)
  have HO := Lib.hid hO
  have HN := Lib.hid (show n ≤ 20 from by rw [← hn]; exact hF.2 0 (by have := HT1.out; omega))
  clear hE hER hEF hEA hP hPR hPF hPA hR hF hNW hXW hO hn
  go_enter Try.func4, Try.ntmps4
  go_upto_region 3 with (first
    | (go_at_call 7; go_loud ((with_reducible refine (HL9.out w).mono ?_); rintro e w1 ⟨rfl, hb⟩; have HB1 := Lib.hid hb; have HFW := Lib.hid (few_yes aR t cR R w1 (HR.out.on hb) HFR.out); clear hb))
    | (go_at_call 8; go_loud ((with_reducible refine HFW.out.mono ?_); rintro e w' ⟨rfl, rfl⟩)))
  go_upto_region 6 with (first
    | (go_at_call 10; go_loud (refine (new_any _).mono ?_; rintro e w2 ⟨b, rfl, hb0, hf, hb2⟩; have HF2 := Lib.hid hf; have HB2 := Lib.hid (bt HB1.out hb2); have HEN := Lib.hid (HER.out b t N aR cR R w2 hf (HR.out.on HB2.out) HNW.out (.inr (.inl qa)) HT.out HLEN.out); clear hf hb0 hb2))
    | (go_at_call 11; go_loud ((with_reducible refine HEN.out.mono ?_); rintro e w3 ⟨a3, c3, rfl, hb3⟩; have HB3 := Lib.hid (bt HB2.out hb3); have HF3 := Lib.hid (HF2.out.below hb3); have HPC := Lib.hid (HP.out b t x n aR cR R w3 HF3.out (HR.out.on HB3.out) HT1.out HT.out (by omega) (by omega) HONE.out (by have := HN.out; omega)); clear hb3))
    | (go_at_call 12; go_loud ((with_reducible refine HPC.out.mono ?_); rintro e w4 ⟨a4, c4, rfl, hp4, hb4⟩; have HB4 := Lib.hid (bt HB3.out hb4); have HP4 := Lib.hid hp4; clear hp4; clear hb4)))
  clear HEN HPC HFW HB1 HB2 HB3 HL9
  go_upto_region 14 with fail
  go_loopw [80] (fun s wr => s = .int .i64 0 ∧ wr = w4) (fun s _ => 0)
  case atStart => exact ⟨rfl, rfl⟩
  case round =>
    obtain ⟨rfl, rfl⟩ := hrel
    rename World => w5
    have HEN2 := Lib.hid (HEA.out t N aR cR R w5 (HR.out.on HB4.out) HNW.out HT.out HLEN.out)
    go_upto_region 23 with (first
      | (go_at_call 11; go_loud ((with_reducible refine HEN2.out.mono ?_); rintro e w6 ⟨v6, rfl, hb6⟩; have HB6 := Lib.hid (bt HB4.out hb6); have HB46 := Lib.hid hb6; have HPC2 := Lib.hid (HPA.out t (x : Int) aR cR R w6 (HR.out.on HB6.out) HXW.out HT.out HLEN.out); clear hb6))
      | (go_at_call 12; go_loud ((with_reducible refine HPC2.out.mono ?_); rintro e w7 ⟨v7, rfl, hb7⟩; have HB7 := Lib.hid (bt HB6.out hb7); have HB47 := Lib.hid (bt HB46.out hb7); clear hb7)))
    clear HEN2 HPC2 HB6 HB46
    have HUL2 := Lib.hid (unl_no aR t cR R w7 (HR.out.on HB7.out) HO.out)
    have hv1 : ∀ W, Below w7.heap.size w7 W → (convert 23 9 (.slice a4 n c4)).run Try.prog W = .ok (.string (strOfNums (iL (pcR R n (pl x))))) W := fun W hW => HP4.out.str_on rfl W (bt HB47.out hW)
    have HRF := Lib.hid (fun (W : World) (hW : Below w7.heap.size w7 W) => refPiece_any t x n aR cR R W ((HR.out.on HB7.out).on hW) HT1.out HT.out (by omega) HONE.out (by have := HN.out; omega))
    go_upto_region 27 with (go_at_call 9; go_loud ((with_reducible refine HUL2.out.mono ?_); rintro e w' ⟨rfl, rfl⟩))
    go_wp2_with fail
    go_region_held (fun W => Below w7.heap.size w7 W) (first | exact (Below.refl _ _).drew | assumption | exact (Below.refl _ _).drew.trans hb8)
      (first | (go_at_call 13; go_loud ((with_reducible refine (HRF.out _ (by first | assumption | exact (Below.refl _ _).drew)).mono ?_); rintro e w8 ⟨g8, c8, rfl, hp8, hb8⟩; have hv8 := hp8.str_on rfl; have hrf8 := Below.refl w8.heap.size w8)))
    all_goals (go_wp2; go_ret; exact ⟨rfl, bt HB7.out ((Below.refl _ _).drew.trans hb8)⟩)

set_option maxHeartbeats 4000000 in
theorem ce_A3_a2 (hAll : EncAll) (N : Int) (x : Int) (t n : Nat) (aR : Option Addr) (cR : Nat) (R : List (List GF)) (w : World) (hNW : (Lit.int .i64 N).wf = true) (hXW : (Lit.int .i64 x).wf = true) (hR : Mat w aR t cR R) (hF : FewR t R) (q0 : ((t : Int) == 0) = false) (qa : ¬ N < (t : Int)) (qb : (255 : Int) < N) (qf1 : (20 : Int) < N) (qf2 : ¬ N ≤ 255) (qx : x < 1) :
    Calls Try.prog 4 #[.int .i64 N, .slice aR t cR, .int .i64 x] w fun e w' => e = .returned (.bool true) ∧ Below w.heap.size w w' := by
  obtain ⟨hE, hER, hEF, hEA, hP, hPR, hPF, hPA⟩ := hAll
  have HL9 := Lib.hid (lives9 hE)
  have HE := Lib.hid hE; have HER := Lib.hid hER; have HEF := Lib.hid hEF; have HEA := Lib.hid hEA
  have HP := Lib.hid hP; have HPR := Lib.hid hPR; have HPF := Lib.hid hPF; have HPA := Lib.hid hPA
  have HR := Lib.hid hR
  have HFR := Lib.hid hF
  have HNW := Lib.hid hNW
  have HXW := Lib.hid hXW
  have HT := Lib.hid (show t ≤ 255 from by have := hF.1; omega)
  have HLEN := Lib.hid (fun k (hk : k < t) => show (rw_ R k).length ≤ 1000 from Nat.le_trans (hF.2 k hk) (by omega))
  have hbd := hR.bd
  have qt : (t : Int) ≤ 255 := by have := hF.1; omega
  have HT1 := Lib.hid (show 1 ≤ t from by rw [beq_eq_false_iff_ne] at q0; omega)
  clear hE hER hEF hEA hP hPR hPF hPA hR hF hNW hXW
  go_enter Try.func4, Try.ntmps4
  go_upto_region 3 with (first
    | (go_at_call 7; go_loud ((with_reducible refine (HL9.out w).mono ?_); rintro e w1 ⟨rfl, hb⟩; have HB1 := Lib.hid hb; have HFW := Lib.hid (few_yes aR t cR R w1 (HR.out.on hb) HFR.out); clear hb))
    | (go_at_call 8; go_loud ((with_reducible refine HFW.out.mono ?_); rintro e w' ⟨rfl, rfl⟩)))
  go_upto_region 6 with (first
    | (go_at_call 10; go_loud (refine (new_any _).mono ?_; rintro e w2 ⟨b, rfl, hb0, hf, hb2⟩; have HF2 := Lib.hid hf; have HB2 := Lib.hid (bt HB1.out hb2); have HEN := Lib.hid (HER.out b t N aR cR R w2 hf (HR.out.on HB2.out) HNW.out (.inr (.inr qb)) HT.out HLEN.out); clear hf hb0 hb2))
    | (go_at_call 11; go_loud ((with_reducible refine HEN.out.mono ?_); rintro e w3 ⟨a3, c3, rfl, hb3⟩; have HB3 := Lib.hid (bt HB2.out hb3); have HF3 := Lib.hid (HF2.out.below hb3); have HPC := Lib.hid (HPR.out b t x aR cR R w3 HF3.out (HR.out.on HB3.out) HXW.out (.inr (.inl qx)) HT.out HLEN.out); clear hb3))
    | (go_at_call 12; go_loud ((with_reducible refine HPC.out.mono ?_); rintro e w4 ⟨a4, c4, rfl, hb4⟩; have HB4 := Lib.hid (bt HB3.out hb4); clear hb4)))
  clear HEN HPC HFW HB1 HB2 HB3 HL9
  go_upto_region 14 with fail
  go_loopw [80] (fun s wr => s = .int .i64 0 ∧ wr = w4) (fun s _ => 0)
  case atStart => exact ⟨rfl, rfl⟩
  case round =>
    obtain ⟨rfl, rfl⟩ := hrel
    rename World => w5
    have HEN2 := Lib.hid (HEA.out t N aR cR R w5 (HR.out.on HB4.out) HNW.out HT.out HLEN.out)
    go_upto_region 23 with (first
      | (go_at_call 11; go_loud ((with_reducible refine HEN2.out.mono ?_); rintro e w6 ⟨v6, rfl, hb6⟩; have HB6 := Lib.hid (bt HB4.out hb6); have HB46 := Lib.hid hb6; have HPC2 := Lib.hid (HPA.out t x aR cR R w6 (HR.out.on HB6.out) HXW.out HT.out HLEN.out); clear hb6))
      | (go_at_call 12; go_loud ((with_reducible refine HPC2.out.mono ?_); rintro e w7 ⟨v7, rfl, hb7⟩; have HB7 := Lib.hid (bt HB6.out hb7); have HB47 := Lib.hid (bt HB46.out hb7); clear hb7)))
    clear HEN2 HPC2 HB6 HB46
    go_wp2
    go_ret
    exact ⟨rfl, HB7.out⟩

set_option maxHeartbeats 4000000 in
theorem ce_A3_a3 (hAll : EncAll) (N : Int) (x : Int) (t n : Nat) (aR : Option Addr) (cR : Nat) (R : List (List GF)) (w : World) (hNW : (Lit.int .i64 N).wf = true) (hXW : (Lit.int .i64 x).wf = true) (hR : Mat w aR t cR R) (hF : FewR t R) (q0 : ((t : Int) == 0) = false) (qa : ¬ N < (t : Int)) (qb : (255 : Int) < N) (qf1 : (20 : Int) < N) (qf2 : ¬ N ≤ 255) (qx : ¬ x < 1) (qy : (255 : Int) < x) :
    Calls Try.prog 4 #[.int .i64 N, .slice aR t cR, .int .i64 x] w fun e w' => e = .returned (.bool true) ∧ Below w.heap.size w w' := by
  obtain ⟨hE, hER, hEF, hEA, hP, hPR, hPF, hPA⟩ := hAll
  have HL9 := Lib.hid (lives9 hE)
  have HE := Lib.hid hE; have HER := Lib.hid hER; have HEF := Lib.hid hEF; have HEA := Lib.hid hEA
  have HP := Lib.hid hP; have HPR := Lib.hid hPR; have HPF := Lib.hid hPF; have HPA := Lib.hid hPA
  have HR := Lib.hid hR
  have HFR := Lib.hid hF
  have HNW := Lib.hid hNW
  have HXW := Lib.hid hXW
  have HT := Lib.hid (show t ≤ 255 from by have := hF.1; omega)
  have HLEN := Lib.hid (fun k (hk : k < t) => show (rw_ R k).length ≤ 1000 from Nat.le_trans (hF.2 k hk) (by omega))
  have hbd := hR.bd
  have qt : (t : Int) ≤ 255 := by have := hF.1; omega
  have HT1 := Lib.hid (show 1 ≤ t from by rw [beq_eq_false_iff_ne] at q0; omega)
  clear hE hER hEF hEA hP hPR hPF hPA hR hF hNW hXW
  go_enter Try.func4, Try.ntmps4
  go_upto_region 3 with (first
    | (go_at_call 7; go_loud ((with_reducible refine (HL9.out w).mono ?_); rintro e w1 ⟨rfl, hb⟩; have HB1 := Lib.hid hb; have HFW := Lib.hid (few_yes aR t cR R w1 (HR.out.on hb) HFR.out); clear hb))
    | (go_at_call 8; go_loud ((with_reducible refine HFW.out.mono ?_); rintro e w' ⟨rfl, rfl⟩)))
  go_upto_region 6 with (first
    | (go_at_call 10; go_loud (refine (new_any _).mono ?_; rintro e w2 ⟨b, rfl, hb0, hf, hb2⟩; have HF2 := Lib.hid hf; have HB2 := Lib.hid (bt HB1.out hb2); have HEN := Lib.hid (HER.out b t N aR cR R w2 hf (HR.out.on HB2.out) HNW.out (.inr (.inr qb)) HT.out HLEN.out); clear hf hb0 hb2))
    | (go_at_call 11; go_loud ((with_reducible refine HEN.out.mono ?_); rintro e w3 ⟨a3, c3, rfl, hb3⟩; have HB3 := Lib.hid (bt HB2.out hb3); have HF3 := Lib.hid (HF2.out.below hb3); have HPC := Lib.hid (HPR.out b t x aR cR R w3 HF3.out (HR.out.on HB3.out) HXW.out (.inr (.inr qy)) HT.out HLEN.out); clear hb3))
    | (go_at_call 12; go_loud ((with_reducible refine HPC.out.mono ?_); rintro e w4 ⟨a4, c4, rfl, hb4⟩; have HB4 := Lib.hid (bt HB3.out hb4); clear hb4)))
  clear HEN HPC HFW HB1 HB2 HB3 HL9
  go_upto_region 14 with fail
  go_loopw [80] (fun s wr => s = .int .i64 0 ∧ wr = w4) (fun s _ => 0)
  case atStart => exact ⟨rfl, rfl⟩
  case round =>
    obtain ⟨rfl, rfl⟩ := hrel
    rename World => w5
    have HEN2 := Lib.hid (HEA.out t N aR cR R w5 (HR.out.on HB4.out) HNW.out HT.out HLEN.out)
    go_upto_region 23 with (first
      | (go_at_call 11; go_loud ((with_reducible refine HEN2.out.mono ?_); rintro e w6 ⟨v6, rfl, hb6⟩; have HB6 := Lib.hid (bt HB4.out hb6); have HB46 := Lib.hid hb6; have HPC2 := Lib.hid (HPA.out t x aR cR R w6 (HR.out.on HB6.out) HXW.out HT.out HLEN.out); clear hb6))
      | (go_at_call 12; go_loud ((with_reducible refine HPC2.out.mono ?_); rintro e w7 ⟨v7, rfl, hb7⟩; have HB7 := Lib.hid (bt HB6.out hb7); have HB47 := Lib.hid (bt HB46.out hb7); clear hb7)))
    clear HEN2 HPC2 HB6 HB46
    go_wp2
    go_ret
    exact ⟨rfl, HB7.out⟩

set_option maxHeartbeats 4000000 in
theorem ce_A3_b (hAll : EncAll) (N : Int) (x : Nat) (t n : Nat) (aR : Option Addr) (cR : Nat) (R : List (List GF)) (w : World) (hNW : (Lit.int .i64 N).wf = true) (hXW : (Lit.int .i64 (x : Int)).wf = true) (hR : Mat w aR t cR R) (hF : FewR t R) (hU : ¬ OneR t R) (q0 : ((t : Int) == 0) = false) (qa : ¬ N < (t : Int)) (qb : (255 : Int) < N) (qf1 : (20 : Int) < N) (qf2 : ¬ N ≤ 255) (qx : ¬ (x : Int) < 1) (qy : ¬ (255 : Int) < (x : Int)) :
    Calls Try.prog 4 #[.int .i64 N, .slice aR t cR, .int .i64 (x : Int)] w fun e w' => e = .returned (.bool true) ∧ Below w.heap.size w w' := by
  obtain ⟨hE, hER, hEF, hEA, hP, hPR, hPF, hPA⟩ := hAll
  have HL9 := Lib.hid (lives9 hE)
  have HE := Lib.hid hE; have HER := Lib.hid hER; have HEF := Lib.hid hEF; have HEA := Lib.hid hEA
  have HP := Lib.hid hP; have HPR := Lib.hid hPR; have HPF := Lib.hid hPF; have HPA := Lib.hid hPA
  have HR := Lib.hid hR
  have HFR := Lib.hid hF
  have HNW := Lib.hid hNW
  have HXW := Lib.hid hXW
  have HT := Lib.hid (show t ≤ 255 from by have := hF.1; omega)
  have HLEN := Lib.hid (fun k (hk : k < t) => show (rw_ R k).length ≤ 1000 from Nat.le_trans (hF.2 k hk) (by omega))
  have hbd := hR.bd
  have qt : (t : Int) ≤ 255 := by have := hF.1; omega
  have HT1 := Lib.hid (show 1 ≤ t from by rw [beq_eq_false_iff_ne] at q0; omega)
  have HUN := Lib.hid (unl_one hR.len hU)
  have HU := Lib.hid hU
  clear hE hER hEF hEA hP hPR hPF hPA hR hF hNW hXW hU
  go_enter Try.func4, Try.ntmps4
  go_upto_region 3 with (first
    | (go_at_call 7; go_loud ((with_reducible refine (HL9.out w).mono ?_); rintro e w1 ⟨rfl, hb⟩; have HB1 := Lib.hid hb; have HFW := Lib.hid (few_yes aR t cR R w1 (HR.out.on hb) HFR.out); clear hb))
    | (go_at_call 8; go_loud ((with_reducible refine HFW.out.mono ?_); rintro e w' ⟨rfl, rfl⟩)))
  go_upto_region 6 with (first
    | (go_at_call 10; go_loud (refine (new_any _).mono ?_; rintro e w2 ⟨b, rfl, hb0, hf, hb2⟩; have HF2 := Lib.hid hf; have HB2 := Lib.hid (bt HB1.out hb2); have HEN := Lib.hid (HER.out b t N aR cR R w2 hf (HR.out.on HB2.out) HNW.out (.inr (.inr qb)) HT.out HLEN.out); clear hf hb0 hb2))
    | (go_at_call 11; go_loud ((with_reducible refine HEN.out.mono ?_); rintro e w3 ⟨a3, c3, rfl, hb3⟩; have HB3 := Lib.hid (bt HB2.out hb3); have HF3 := Lib.hid (HF2.out.below hb3); have HPC := Lib.hid (HPF.out b t x aR cR R w3 HF3.out (HR.out.on HB3.out) HT1.out HT.out (by omega) (by omega) HUN.out HLEN.out); clear hb3))
    | (go_at_call 12; go_loud ((with_reducible refine HPC.out.mono ?_); rintro e w4 ⟨a4, c4, rfl, hb4⟩; have HB4 := Lib.hid (bt HB3.out hb4); clear hb4)))
  clear HEN HPC HFW HB1 HB2 HB3 HL9
  go_upto_region 14 with fail
  go_loopw [80] (fun s wr => s = .int .i64 0 ∧ wr = w4) (fun s _ => 0)
  case atStart => exact ⟨rfl, rfl⟩
  case round =>
    obtain ⟨rfl, rfl⟩ := hrel
    rename World => w5
    have HEN2 := Lib.hid (HEA.out t N aR cR R w5 (HR.out.on HB4.out) HNW.out HT.out HLEN.out)
    go_upto_region 23 with (first
      | (go_at_call 11; go_loud ((with_reducible refine HEN2.out.mono ?_); rintro e w6 ⟨v6, rfl, hb6⟩; have HB6 := Lib.hid (bt HB4.out hb6); have HB46 := Lib.hid hb6; have HPC2 := Lib.hid (HPA.out t (x : Int) aR cR R w6 (HR.out.on HB6.out) HXW.out HT.out HLEN.out); clear hb6))
      | (go_at_call 12; go_loud ((with_reducible refine HPC2.out.mono ?_); rintro e w7 ⟨v7, rfl, hb7⟩; have HB7 := Lib.hid (bt HB6.out hb7); have HB47 := Lib.hid (bt HB46.out hb7); clear hb7)))
    clear HEN2 HPC2 HB6 HB46
    have HUL2 := Lib.hid (unl_yes aR t cR R w7 (HR.out.on HB7.out) HU.out)
    go_wp2_with (go_at_call 9; go_loud ((with_reducible refine HUL2.out.mono ?_); rintro e w' ⟨rfl, rfl⟩))
    go_ret
    exact ⟨rfl, HB7.out⟩

set_option maxHeartbeats 4000000 in
theorem ce_A3_c (hAll : EncAll) (N : Int) (x : Nat) (t n : Nat) (aR : Option Addr) (cR : Nat) (R : List (List GF)) (w : World) (hNW : (Lit.int .i64 N).wf = true) (hXW : (Lit.int .i64 (x : Int)).wf = true) (hR : Mat w aR t cR R) (hF : FewR t R) (hO : OneR t R) (hn : (rw_ R 0).length = n) (q0 : ((t : Int) == 0) = false) (qa : ¬ N < (t : Int)) (qb : (255 : Int) < N) (qf1 : (20 : Int) < N) (qf2 : ¬ N ≤ 255) (qx : ¬ (x : Int) < 1) (qy : ¬ (255 : Int) < (x : Int)) :
    Calls Try.prog 4 #[.int .i64 N, .slice aR t cR, .int .i64 (x : Int)] w fun e w' => e = .returned (.bool true) ∧ Below w.heap.size w w' := by
  obtain ⟨hE, hER, hEF, hEA, hP, hPR, hPF, hPA⟩ := hAll
  have HL9 := Lib.hid (lives9 hE)
  have HE := Lib.hid hE; have HER := Lib.hid hER; have HEF := Lib.hid hEF; have HEA := Lib.hid hEA
  have HP := Lib.hid hP; have HPR := Lib.hid hPR; have HPF := Lib.hid hPF; have HPA := Lib.hid hPA
  have HR := Lib.hid hR
  have HFR := Lib.hid hF
  have HNW := Lib.hid hNW
  have HXW := Lib.hid hXW
  have HT := Lib.hid (show t ≤ 255 from by have := hF.1; omega)
  have HLEN := Lib.hid (fun k (hk : k < t) => show (rw_ R k).length ≤ 1000 from Nat.le_trans (hF.2 k hk) (by omega))
  have hbd := hR.bd
  have qt : (t : Int) ≤ 255 := by have := hF.1; omega
  have HT1 := Lib.hid (show 1 ≤ t from by rw [beq_eq_false_iff_ne] at q0; omega)
  have HONE := Lib.hid (fun k (hk : k < t) => show (rw_ R k).length = n from (hO k hk).trans hn)
  have HO := Lib.hid hO
  have HN := Lib.hid (show n ≤ 20 from by rw [← hn]; exact hF.2 0 (by have := HT1.out; omega))
  clear hE hER hEF hEA hP hPR hPF hPA hR hF hNW hXW hO hn
  go_enter Try.func4, Try.ntmps4
  go_upto_region 3 with (first
    | (go_at_call 7; go_loud ((with_reducible refine (HL9.out w).mono ?_); rintro e w1 ⟨rfl, hb⟩; have HB1 := Lib.hid hb; have HFW := Lib.hid (few_yes aR t cR R w1 (HR.out.on hb) HFR.out); clear hb))
    | (go_at_call 8; go_loud ((with_reducible refine HFW.out.mono ?_); rintro e w' ⟨rfl, rfl⟩)))
  go_upto_region 6 with (first
    | (go_at_call 10; go_loud (refine (new_any _).mono ?_; rintro e w2 ⟨b, rfl, hb0, hf, hb2⟩; have HF2 := Lib.hid hf; have HB2 := Lib.hid (bt HB1.out hb2); have HEN := Lib.hid (HER.out b t N aR cR R w2 hf (HR.out.on HB2.out) HNW.out (.inr (.inr qb)) HT.out HLEN.out); clear hf hb0 hb2))
    | (go_at_call 11; go_loud ((with_reducible refine HEN.out.mono ?_); rintro e w3 ⟨a3, c3, rfl, hb3⟩; have HB3 := Lib.hid (bt HB2.out hb3); have HF3 := Lib.hid (HF2.out.below hb3); have HPC := Lib.hid (HP.out b t x n aR cR R w3 HF3.out (HR.out.on HB3.out) HT1.out HT.out (by omega) (by omega) HONE.out (by have := HN.out; omega)); clear hb3))
    | (go_at_call 12; go_loud ((with_reducible refine HPC.out.mono ?_); rintro e w4 ⟨a4, c4, rfl, hp4, hb4⟩; have HB4 := Lib.hid (bt HB3.out hb4); have HP4 := Lib.hid hp4; clear hp4; clear hb4)))
  clear HEN HPC HFW HB1 HB2 HB3 HL9
  go_upto_region 14 with fail
  go_loopw [80] (fun s wr => s = .int .i64 0 ∧ wr = w4) (fun s _ => 0)
  case atStart => exact ⟨rfl, rfl⟩
  case round =>
    obtain ⟨rfl, rfl⟩ := hrel
    rename World => w5
    have HEN2 := Lib.hid (HEA.out t N aR cR R w5 (HR.out.on HB4.out) HNW.out HT.out HLEN.out)
    go_upto_region 23 with (first
      | (go_at_call 11; go_loud ((with_reducible refine HEN2.out.mono ?_); rintro e w6 ⟨v6, rfl, hb6⟩; have HB6 := Lib.hid (bt HB4.out hb6); have HB46 := Lib.hid hb6; have HPC2 := Lib.hid (HPA.out t (x : Int) aR cR R w6 (HR.out.on HB6.out) HXW.out HT.out HLEN.out); clear hb6))
      | (go_at_call 12; go_loud ((with_reducible refine HPC2.out.mono ?_); rintro e w7 ⟨v7, rfl, hb7⟩; have HB7 := Lib.hid (bt HB6.out hb7); have HB47 := Lib.hid (bt HB46.out hb7); clear hb7)))
    clear HEN2 HPC2 HB6 HB46
    have HUL2 := Lib.hid (unl_no aR t cR R w7 (HR.out.on HB7.out) HO.out)
    have hv1 : ∀ W, Below w7.heap.size w7 W → (convert 23 9 (.slice a4 n c4)).run Try.prog W = .ok (.string (strOfNums (iL (pcR R n (pl x))))) W := fun W hW => HP4.out.str_on rfl W (bt HB47.out hW)
    have HRF := Lib.hid (fun (W : World) (hW : Below w7.heap.size w7 W) => refPiece_any t x n aR cR R W ((HR.out.on HB7.out).on hW) HT1.out HT.out (by omega) HONE.out (by have := HN.out; omega))
    go_upto_region 27 with (go_at_call 9; go_loud ((with_reducible refine HUL2.out.mono ?_); rintro e w' ⟨rfl, rfl⟩))
    go_wp2_with fail
    go_region_held (fun W => Below w7.heap.size w7 W) (first | exact (Below.refl _ _).drew | assumption | exact (Below.refl _ _).drew.trans hb8)
      (first | (go_at_call 13; go_loud ((with_reducible refine (HRF.out _ (by first | assumption | exact (Below.refl _ _).drew)).mono ?_); rintro e w8 ⟨g8, c8, rfl, hp8, hb8⟩; have hv8 := hp8.str_on rfl; have hrf8 := Below.refl w8.heap.size w8)))
    all_goals (go_wp2; go_ret; exact ⟨rfl, bt HB7.out ((Below.refl _ _).drew.trans hb8)⟩)

set_option maxHeartbeats 4000000 in
theorem ce_B_a2 (hAll : EncAll) (N : Nat) (x : Int) (t n : Nat) (aR : Option Addr) (cR : Nat) (R : List (List GF)) (w : World) (hNW : (Lit.int .i64 (N : Int)).wf = true) (hXW : (Lit.int .i64 x).wf = true) (hR : Mat w aR t cR R) (hF : FewR t R) (hU : ¬ OneR t R) (q0 : ((t : Int) == 0) = false) (qa : ¬ (N : Int) < (t : Int)) (qb : ¬ (255 : Int) < (N : Int)) (qf1 : ¬ (20 : Int) < (N : Int)) (qx : x < 1) :
    Calls Try.prog 4 #[.int .i64 (N : Int), .slice aR t cR, .int .i64 x] w fun e w' => e = .returned (.bool true) ∧ Below w.heap.size w w' := by
  obtain ⟨hE, hER, hEF, hEA, hP, hPR, hPF, hPA⟩ := hAll
  have HL9 := Lib.hid (lives9 hE)
  have HE := Lib.hid hE; have HER := Lib.hid hER; have HEF := Lib.hid hEF; have HEA := Lib.hid hEA
  have HP := Lib.hid hP; have HPR := Lib.hid hPR; have HPF := Lib.hid hPF; have HPA := Lib.hid hPA
  have HR := Lib.hid hR
  have HFR := Lib.hid hF
  have HNW := Lib.hid hNW
  have HXW := Lib.hid hXW
  have HT := Lib.hid (show t ≤ 255 from by have := hF.1; omega)
  have HLEN := Lib.hid (fun k (hk : k < t) => show (rw_ R k).length ≤ 1000 from Nat.le_trans (hF.2 k hk) (by omega))
  have hbd := hR.bd
  have qt : (t : Int) ≤ 255 := by have := hF.1; omega
  have HT1 := Lib.hid (show 1 ≤ t from by rw [beq_eq_false_iff_ne] at q0; omega)
  have HUN := Lib.hid (unl_one hR.len hU)
  have HU := Lib.hid hU
  clear hE hER hEF hEA hP hPR hPF hPA hR hF hNW hXW hU
  go_enter Try.func4, Try.ntmps4
  go_upto_region 3 with (first
    | (go_at_call 7; go_loud ((with_reducible refine (HL9.out w).mono ?_); rintro e w1 ⟨rfl, hb⟩; have HB1 := Lib.hid hb; have HFW := Lib.hid (few_yes aR t cR R w1 (HR.out.on hb) HFR.out); clear hb))
    | (go_at_call 8; go_loud ((with_reducible refine HFW.out.mono ?_); rintro e w' ⟨rfl, rfl⟩)))
  go_upto_region 6 with (first
    | (go_at_call 10; go_loud (refine (new_any _).mono ?_; rintro e w2 ⟨b, rfl, hb0, hf, hb2⟩; have HF2 := Lib.hid hf; have HB2 := Lib.hid (bt HB1.out hb2); have HEN := Lib.hid (HEF.out b t N aR cR R w2 hf (HR.out.on HB2.out) HT1.out (by omega) (by omega) HUN.out HLEN.out); clear hf hb0 hb2))
    | (go_at_call 11; go_loud ((with_reducible refine HEN.out.mono ?_); rintro e w3 ⟨a3, c3, rfl, hb3⟩; have HB3 := Lib.hid (bt HB2.out hb3); have HF3 := Lib.hid (HF2.out.below hb3); have HPC := Lib.hid (HPR.out b t x aR cR R w3 HF3.out (HR.out.on HB3.out) HXW.out (.inr (.inl qx)) HT.out HLEN.out); clear hb3))
    | (go_at_call 12; go_loud ((with_reducible refine HPC.out.mono ?_); rintro e w4 ⟨a4, c4, rfl, hb4⟩; have HB4 := Lib.hid (bt HB3.out hb4); clear hb4)))
  clear HEN HPC HFW HB1 HB2 HB3 HL9
  have HUL := Lib.hid (unl_yes aR t cR R w4 (HR.out.on HB4.out) HU.out)
  go_upto_region 14 with (go_at_call 9; go_loud ((with_reducible refine HUL.out.mono ?_); rintro e w' ⟨rfl, rfl⟩))
  go_loopw [80] (fun s wr => s = .int .i64 0 ∧ wr = w4) (fun s _ => 0)
  case atStart => exact ⟨rfl, rfl⟩
  case round =>
    obtain ⟨rfl, rfl⟩ := hrel
    rename World => w5
    have HEN2 := Lib.hid (HEA.out t (N : Int) aR cR R w5 (HR.out.on HB4.out) HNW.out HT.out HLEN.out)
    go_upto_region 23 with (first
      | (go_at_call 11; go_loud ((with_reducible refine HEN2.out.mono ?_); rintro e w6 ⟨v6, rfl, hb6⟩; have HB6 := Lib.hid (bt HB4.out hb6); have HB46 := Lib.hid hb6; have HPC2 := Lib.hid (HPA.out t x aR cR R w6 (HR.out.on HB6.out) HXW.out HT.out HLEN.out); clear hb6))
      | (go_at_call 12; go_loud ((with_reducible refine HPC2.out.mono ?_); rintro e w7 ⟨v7, rfl, hb7⟩; have HB7 := Lib.hid (bt HB6.out hb7); have HB47 := Lib.hid (bt HB46.out hb7); clear hb7)))
    clear HEN2 HPC2 HB6 HB46
    go_wp2
    go_ret
    exact ⟨rfl, HB7.out⟩

set_option maxHeartbeats 4000000 in
theorem ce_B_a3 (hAll : EncAll) (N : Nat) (x : Int) (t n : Nat) (aR : Option Addr) (cR : Nat) (R : List (List GF)) (w : World) (hNW : (Lit.int .i64 (N : Int)).wf = true) (hXW : (Lit.int .i64 x).wf = true) (hR : Mat w aR t cR R) (hF : FewR t R) (hU : ¬ OneR t R) (q0 : ((t : Int) == 0) = false) (qa : ¬ (N : Int) < (t : Int)) (qb : ¬ (255 : Int) < (N : Int)) (qf1 : ¬ (20 : Int) < (N : Int)) (qx : ¬ x < 1) (qy : (255 : Int) < x) :
    Calls Try.prog 4 #[.int .i64 (N : Int), .slice aR t cR, .int .i64 x] w fun e w' => e = .returned (.bool true) ∧ Below w.heap.size w w' := by
  obtain ⟨hE, hER, hEF, hEA, hP, hPR, hPF, hPA⟩ := hAll
  have HL9 := Lib.hid (lives9 hE)
  have HE := Lib.hid hE; have HER := Lib.hid hER; have HEF := Lib.hid hEF; have HEA := Lib.hid hEA
  have HP := Lib.hid hP; have HPR := Lib.hid hPR; have HPF := Lib.hid hPF; have HPA := Lib.hid hPA
  have HR := Lib.hid hR
  have HFR := Lib.hid hF
  have HNW := Lib.hid hNW
  have HXW := Lib.hid hXW
  have HT := Lib.hid (show t ≤ 255 from by have := hF.1; omega)
  have HLEN := Lib.hid (fun k (hk : k < t) => show (rw_ R k).length ≤ 1000 from Nat.le_trans (hF.2 k hk) (by omega))
  have hbd := hR.bd
  have qt : (t : Int) ≤ 255 := by have := hF.1; omega
  have HT1 := Lib.hid (show 1 ≤ t from by rw [beq_eq_false_iff_ne] at q0; omega)
  have HUN := Lib.hid (unl_one hR.len hU)
  have HU := Lib.hid hU
  clear hE hER hEF hEA hP hPR hPF hPA hR hF hNW hXW hU
  go_enter Try.func4, Try.ntmps4
  go_upto_region 3 with (first
    | (go_at_call 7; go_loud ((with_reducible refine (HL9.out w).mono ?_); rintro e w1 ⟨rfl, hb⟩; have HB1 := Lib.hid hb; have HFW := Lib.hid (few_yes aR t cR R w1 (HR.out.on hb) HFR.out); clear hb))
    | (go_at_call 8; go_loud ((with_reducible refine HFW.out.mono ?_); rintro e w' ⟨rfl, rfl⟩)))
  go_upto_region 6 with (first
    | (go_at_call 10; go_loud (refine (new_any _).mono ?_; rintro e w2 ⟨b, rfl, hb0, hf, hb2⟩; have HF2 := Lib.hid hf; have HB2 := Lib.hid (bt HB1.out hb2); have HEN := Lib.hid (HEF.out b t N aR cR R w2 hf (HR.out.on HB2.out) HT1.out (by omega) (by omega) HUN.out HLEN.out); clear hf hb0 hb2))
    | (go_at_call 11; go_loud ((with_reducible refine HEN.out.mono ?_); rintro e w3 ⟨a3, c3, rfl, hb3⟩; have HB3 := Lib.hid (bt HB2.out hb3); have HF3 := Lib.hid (HF2.out.below hb3); have HPC := Lib.hid (HPR.out b t x aR cR R w3 HF3.out (HR.out.on HB3.out) HXW.out (.inr (.inr qy)) HT.out HLEN.out); clear hb3))
    | (go_at_call 12; go_loud ((with_reducible refine HPC.out.mono ?_); rintro e w4 ⟨a4, c4, rfl, hb4⟩; have HB4 := Lib.hid (bt HB3.out hb4); clear hb4)))
  clear HEN HPC HFW HB1 HB2 HB3 HL9
  have HUL := Lib.hid (unl_yes aR t cR R w4 (HR.out.on HB4.out) HU.out)
  go_upto_region 14 with (go_at_call 9; go_loud ((with_reducible refine HUL.out.mono ?_); rintro e w' ⟨rfl, rfl⟩))
  go_loopw [80] (fun s wr => s = .int .i64 0 ∧ wr = w4) (fun s _ => 0)
  case atStart => exact ⟨rfl, rfl⟩
  case round =>
    obtain ⟨rfl, rfl⟩ := hrel
    rename World => w5
    have HEN2 := Lib.hid (HEA.out t (N : Int) aR cR R w5 (HR.out.on HB4.out) HNW.out HT.out HLEN.out)
    go_upto_region 23 with (first
      | (go_at_call 11; go_loud ((with_reducible refine HEN2.out.mono ?_); rintro e w6 ⟨v6, rfl, hb6⟩; have HB6 := Lib.hid (bt HB4.out hb6); have HB46 := Lib.hid hb6; have HPC2 := Lib.hid (HPA.out t x aR cR R w6 (HR.out.on HB6.out) HXW.out HT.out HLEN.out); clear hb6))
      | (go_at_call 12; go_loud ((with_reducible refine HPC2.out.mono ?_); rintro e w7 ⟨v7, rfl, hb7⟩; have HB7 := Lib.hid (bt HB6.out hb7); have HB47 := Lib.hid (bt HB46.out hb7); clear hb7)))
    clear HEN2 HPC2 HB6 HB46
    go_wp2
    go_ret
    exact ⟨rfl, HB7.out⟩

set_option maxHeartbeats 4000000 in
theorem ce_B_b (hAll : EncAll) (N : Nat) (x : Nat) (t n : Nat) (aR : Option Addr) (cR : Nat) (R : List (List GF)) (w : World) (hNW : (Lit.int .i64 (N : Int)).wf = true) (hXW : (Lit.int .i64 (x : Int)).wf = true) (hR : Mat w aR t cR R) (hF : FewR t R) (hU : ¬ OneR t R) (q0 : ((t : Int) == 0) = false) (qa : ¬ (N : Int) < (t : Int)) (qb : ¬ (255 : Int) < (N : Int)) (qf1 : ¬ (20 : Int) < (N : Int)) (qx : ¬ (x : Int) < 1) (qy : ¬ (255 : Int) < (x : Int)) :
    Calls Try.prog 4 #[.int .i64 (N : Int), .slice aR t cR, .int .i64 (x : Int)] w fun e w' => e = .returned (.bool true) ∧ Below w.heap.size w w' := by
  obtain ⟨hE, hER, hEF, hEA, hP, hPR, hPF, hPA⟩ := hAll
  have HL9 := Lib.hid (lives9 hE)
  have HE := Lib.hid hE; have HER := Lib.hid hER; have HEF := Lib.hid hEF; have HEA := Lib.hid hEA
  have HP := Lib.hid hP; have HPR := Lib.hid hPR; have HPF := Lib.hid hPF; have HPA := Lib.hid hPA
  have HR := Lib.hid hR
  have HFR := Lib.hid hF
  have HNW := Lib.hid hNW
  have HXW := Lib.hid hXW
  have HT := Lib.hid (show t ≤ 255 from by have := hF.1; omega)
  have HLEN := Lib.hid (fun k (hk : k < t) => show (rw_ R k).length ≤ 1000 from Nat.le_trans (hF.2 k hk) (by omega))
  have hbd := hR.bd
  have qt : (t : Int) ≤ 255 := by have := hF.1; omega
  have HT1 := Lib.hid (show 1 ≤ t from by rw [beq_eq_false_iff_ne] at q0; omega)
  have HUN := Lib.hid (unl_one hR.len hU)
  have HU := Lib.hid hU
  clear hE hER hEF hEA hP hPR hPF hPA hR hF hNW hXW hU
  go_enter Try.func4, Try.ntmps4
  go_upto_region 3 with (first
    | (go_at_call 7; go_loud ((with_reducible refine (HL9.out w).mono ?_); rintro e w1 ⟨rfl, hb⟩; have HB1 := Lib.hid hb; have HFW := Lib.hid (few_yes aR t cR R w1 (HR.out.on hb) HFR.out); clear hb))
    | (go_at_call 8; go_loud ((with_reducible refine HFW.out.mono ?_); rintro e w' ⟨rfl, rfl⟩)))
  go_upto_region 6 with (first
    | (go_at_call 10; go_loud (refine (new_any _).mono ?_; rintro e w2 ⟨b, rfl, hb0, hf, hb2⟩; have HF2 := Lib.hid hf; have HB2 := Lib.hid (bt HB1.out hb2); have HEN := Lib.hid (HEF.out b t N aR cR R w2 hf (HR.out.on HB2.out) HT1.out (by omega) (by omega) HUN.out HLEN.out); clear hf hb0 hb2))
    | (go_at_call 11; go_loud ((with_reducible refine HEN.out.mono ?_); rintro e w3 ⟨a3, c3, rfl, hb3⟩; have HB3 := Lib.hid (bt HB2.out hb3); have HF3 := Lib.hid (HF2.out.below hb3); have HPC := Lib.hid (HPF.out b t x aR cR R w3 HF3.out (HR.out.on HB3.out) HT1.out HT.out (by omega) (by omega) HUN.out HLEN.out); clear hb3))
    | (go_at_call 12; go_loud ((with_reducible refine HPC.out.mono ?_); rintro e w4 ⟨a4, c4, rfl, hb4⟩; have HB4 := Lib.hid (bt HB3.out hb4); clear hb4)))
  clear HEN HPC HFW HB1 HB2 HB3 HL9
  have HUL := Lib.hid (unl_yes aR t cR R w4 (HR.out.on HB4.out) HU.out)
  go_upto_region 14 with (go_at_call 9; go_loud ((with_reducible refine HUL.out.mono ?_); rintro e w' ⟨rfl, rfl⟩))
  go_loopw [80] (fun s wr => s = .int .i64 0 ∧ wr = w4) (fun s _ => 0)
  case atStart => exact ⟨rfl, rfl⟩
  case round =>
    obtain ⟨rfl, rfl⟩ := hrel
    rename World => w5
    have HEN2 := Lib.hid (HEA.out t (N : Int) aR cR R w5 (HR.out.on HB4.out) HNW.out HT.out HLEN.out)
    go_upto_region 23 with (first
      | (go_at_call 11; go_loud ((with_reducible refine HEN2.out.mono ?_); rintro e w6 ⟨v6, rfl, hb6⟩; have HB6 := Lib.hid (bt HB4.out hb6); have HB46 := Lib.hid hb6; have HPC2 := Lib.hid (HPA.out t (x : Int) aR cR R w6 (HR.out.on HB6.out) HXW.out HT.out HLEN.out); clear hb6))
      | (go_at_call 12; go_loud ((with_reducible refine HPC2.out.mono ?_); rintro e w7 ⟨v7, rfl, hb7⟩; have HB7 := Lib.hid (bt HB6.out hb7); have HB47 := Lib.hid (bt HB46.out hb7); clear hb7)))
    clear HEN2 HPC2 HB6 HB46
    have HUL2 := Lib.hid (unl_yes aR t cR R w7 (HR.out.on HB7.out) HU.out)
    go_wp2_with (go_at_call 9; go_loud ((with_reducible refine HUL2.out.mono ?_); rintro e w' ⟨rfl, rfl⟩))
    go_ret
    exact ⟨rfl, HB7.out⟩

set_option maxHeartbeats 4000000 in
theorem ce_C_a2 (hAll : EncAll) (N : Nat) (x : Int) (t n : Nat) (aR : Option Addr) (cR : Nat) (R : List (List GF)) (w : World) (hNW : (Lit.int .i64 (N : Int)).wf = true) (hXW : (Lit.int .i64 x).wf = true) (hR : Mat w aR t cR R) (hF : FewR t R) (hO : OneR t R) (hn : (rw_ R 0).length = n) (q0 : ((t : Int) == 0) = false) (qa : ¬ (N : Int) < (t : Int)) (qb : ¬ (255 : Int) < (N : Int)) (qf1 : ¬ (20 : Int) < (N : Int)) (qx : x < 1) :
    Calls Try.prog 4 #[.int .i64 (N : Int), .slice aR t cR, .int .i64 x] w fun e w' => e = .returned (.bool true) ∧ Below w.heap.size w w' := by
  obtain ⟨hE, hER, hEF, hEA, hP, hPR, hPF, hPA⟩ := hAll
  have HL9 := Lib.hid (lives9 hE)
  have HE := Lib.hid hE; have HER := Lib.hid hER; have HEF := Lib.hid hEF; have HEA := Lib.hid hEA
  have HP := Lib.hid hP; have HPR := Lib.hid hPR; have HPF := Lib.hid hPF; have HPA := Lib.hid hPA
  have HR := Lib.hid hR
  have HFR := Lib.hid hF
  have HNW := Lib.hid hNW
  have HXW := Lib.hid hXW
  have HT := Lib.hid (show t ≤ 255 from by have := hF.1; omega)
  have HLEN := Lib.hid (fun k (hk : k < t) => show (rw_ R k).length ≤ 1000 from Nat.le_trans (hF.2 k hk) (by omega))
  have hbd := hR.bd
  have qt : (t : Int) ≤ 255 := by have := hF.1; omega
  have HT1 := Lib.hid (show 1 ≤ t from by rw [beq_eq_false_iff_ne] at q0; omega)
  have HONE := Lib.hid (fun k (hk : k < t) => show (rw_ R k).length = n from (hO k hk).trans hn)
  have HO := Lib.hid hO
  have HN := Lib.hid (show n ≤ 20 from by rw [← hn]; exact hF.2 0 (by have := HT1.out; omega))
  clear hE hER hEF hEA hP hPR hPF hPA hR hF hNW hXW hO hn
  go_enter Try.func4, Try.ntmps4
  go_upto_region 3 with (first
    | (go_at_call 7; go_loud ((with_reducible refine (HL9.out w).mono ?_); rintro e w1 ⟨rfl, hb⟩; have HB1 := Lib.hid hb; have HFW := Lib.hid (few_yes aR t cR R w1 (HR.out.on hb) HFR.out); clear hb))
    | (go_at_call 8; go_loud ((with_reducible refine HFW.out.mono ?_); rintro e w' ⟨rfl, rfl⟩)))
  go_upto_region 6 with (first
    | (go_at_call 10; go_loud (refine (new_any _).mono ?_; rintro e w2 ⟨b, rfl, hb0, hf, hb2⟩; have HF2 := Lib.hid hf; have HB2 := Lib.hid (bt HB1.out hb2); have HEN := Lib.hid (HE.out b t N n aR cR R w2 hf (HR.out.on HB2.out) HT1.out (by omega) (by omega) HONE.out (by have := HN.out; omega)); clear hf hb0 hb2))
    | (go_at_call 11; go_loud ((with_reducible refine HEN.out.mono ?_); rintro e w3 ⟨a3, c3, rfl, hm3, hb3⟩; have HB3 := Lib.hid (bt HB2.out hb3); have HF3 := Lib.hid (HF2.out.below hb3); have HM3 := Lib.hid hm3.mat; clear hm3; have HPC := Lib.hid (HPR.out b t x aR cR R w3 HF3.out (HR.out.on HB3.out) HXW.out (.inr (.inl qx)) HT.out HLEN.out); clear hb3))
    | (go_at_call 12; go_loud ((with_reducible refine HPC.out.mono ?_); rintro e w4 ⟨a4, c4, rfl, hb4⟩; have HB4 := Lib.hid (bt HB3.out hb4); have HM4 := Lib.hid (HM3.out.on hb4); clear hb4)))
  clear HEN HPC HFW HB1 HB2 HB3 HL9
  have HUL := Lib.hid (unl_no aR t cR R w4 (HR.out.on HB4.out) HO.out)
  go_upto_region 14 with (go_at_call 9; go_loud ((with_reducible refine HUL.out.mono ?_); rintro e w' ⟨rfl, rfl⟩))
  go_loopw [80] (fun s wr => ∃ k : Nat, k ≤ N ∧ s = .int .i64 (k : Nat) ∧ Hid (Below w4.heap.size w4 wr)) (fun s _ => N - (intOf s).toNat)
  case atStart => exact ⟨0, by omega, rfl, Lib.hid (Below.refl _ _)⟩
  case round =>
    obtain ⟨k, hk, rfl, hB⟩ := hrel
    rename World => w5
    have HB45 := Lib.hid hB.out
    clear hB
    by_cases hlt : k < N
    · obtain ⟨bl, ol, al, cl, rfl, hbl, hcl, hpl⟩ := HM4.out.row hlt
      rw [encM_row hlt, pcR_len] at hcl hpl
      obtain ⟨K, hK⟩ : ∃ K, K = k + 1 := ⟨_, rfl⟩
      rw [← hK] at hpl
      have qK : (k : Int) + 1 = (K : Int) := by omega
      have qKN : (K : Int) ≤ 255 := by omega
      have HKE := Lib.hid hK
      have kw : ∀ [Inhabited Unit], IntKind.i64.wrap (K : Int) = (K : Int) := by intro _; rw [IntKind.wrap_i64]; omega
      clear hK
      have qk : (k : Int) < (N : Int) := by omega
      have qk0 : (0 : Int) ≤ (k : Int) := by omega
      have hcr : w5.cell? ⟨bl, ol + k, none⟩ = some (.slice al n cl) := (HB45.out.cell (p := ⟨bl, ol + k, none⟩) hbl).trans hcl
      have hcrd : w5.drew.cell? ⟨bl, ol + k, none⟩ = some (.slice al n cl) := hcr
      have hb5l : bl < w5.heap.size := Nat.lt_of_lt_of_le hbl HB45.out.size
      have HPL := Lib.hid hpl
      have hv1 : ∀ W, Below w5.heap.size w5 W → (convert 23 9 (.slice al n cl)).run Try.prog W = .ok (.string (strOfNums (iL (pcR R n (pl K))))) W := fun W hW => HPL.out.str_on rfl W (bt HB45.out hW)
      have hrf0 := fun (W : World) (hW : Below w5.heap.size w5 W) => refPiece_any t K n aR cR R W ((HR.out.on (bt HB4.out HB45.out)).on hW) HT1.out HT.out (by omega) HONE.out (by have := HN.out; omega)
      have HRF := Lib.hid hrf0
      clear hbl hcl hpl hrf0
      go_wp2_with fail
      go_region_held (fun W => W.cell? ⟨bl, ol + k, none⟩ = some (.slice al n cl) ∧ Below w5.heap.size w5 W) (first | exact ⟨hcrd, (Below.refl _ _).drew⟩ | assumption | exact ⟨(hb8.cell (p := ⟨bl, ol + k, none⟩) hb5l).trans hcr, (Below.refl _ _).drew.trans hb8⟩)
        (first | (go_at_call 13; go_loud ((with_reducible refine (HRF.out _ (by first | assumption | exact (Below.refl _ _).drew)).mono ?_); rintro e w8 ⟨g8, c8, rfl, hp8, hb8⟩; have hv8 := hp8.str_on rfl; have hrf8 := Below.refl w8.heap.size w8)))
      all_goals (go_wp2; go_roundw; (case rel => exact ⟨k + 1, by omega, by first | go_num | (rw [HKE.out]; go_num), Lib.hid (bt HB45.out ((Below.refl _ _).drew.trans hb8))⟩); (case measure => simp [intOf]; omega))
    · obtain rfl : N = k := by omega
      have HB5 := Lib.hid (bt HB4.out HB45.out)
      have qln : ((N : Int) != (N : Int)) = false := by simp
      clear hlt hk
      have HEN2 := Lib.hid (HEA.out t (N : Int) aR cR R w5 (HR.out.on HB5.out) HNW.out HT.out HLEN.out)
      go_upto_region 23 with (first
        | (go_at_call 11; go_loud ((with_reducible refine HEN2.out.mono ?_); rintro e w6 ⟨v6, rfl, hb6⟩; have HB6 := Lib.hid (bt HB5.out hb6); have HB46 := Lib.hid hb6; have HPC2 := Lib.hid (HPA.out t x aR cR R w6 (HR.out.on HB6.out) HXW.out HT.out HLEN.out); clear hb6))
        | (go_at_call 12; go_loud ((with_reducible refine HPC2.out.mono ?_); rintro e w7 ⟨v7, rfl, hb7⟩; have HB7 := Lib.hid (bt HB6.out hb7); have HB47 := Lib.hid (bt HB46.out hb7); clear hb7)))
      clear HEN2 HPC2 HB6 HB46
      go_wp2
      go_ret
      exact ⟨rfl, HB7.out⟩

set_option maxHeartbeats 4000000 in
theorem ce_C_a3 (hAll : EncAll) (N : Nat) (x : Int) (t n : Nat) (aR : Option Addr) (cR : Nat) (R : List (List GF)) (w : World) (hNW : (Lit.int .i64 (N : Int)).wf = true) (hXW : (Lit.int .i64 x).wf = true) (hR : Mat w aR t cR R) (hF : FewR t R) (hO : OneR t R) (hn : (rw_ R 0).length = n) (q0 : ((t : Int) == 0) = false) (qa : ¬ (N : Int) < (t : Int)) (qb : ¬ (255 : Int) < (N : Int)) (qf1 : ¬ (20 : Int) < (N : Int)) (qx : ¬ x < 1) (qy : (255 : Int) < x) :
    Calls Try.prog 4 #[.int .i64 (N : Int), .slice aR t cR, .int .i64 x] w fun e w' => e = .returned (.bool true) ∧ Below w.heap.size w w' := by
  obtain ⟨hE, hER, hEF, hEA, hP, hPR, hPF, hPA⟩ := hAll
  have HL9 := Lib.hid (lives9 hE)
  have HE := Lib.hid hE; have HER := Lib.hid hER; have HEF := Lib.hid hEF; have HEA := Lib.hid hEA
  have HP := Lib.hid hP; have HPR := Lib.hid hPR; have HPF := Lib.hid hPF; have HPA := Lib.hid hPA
  have HR := Lib.hid hR
  have HFR := Lib.hid hF
  have HNW := Lib.hid hNW
  have HXW := Lib.hid hXW
  have HT := Lib.hid (show t ≤ 255 from by have := hF.1; omega)
  have HLEN := Lib.hid (fun k (hk : k < t) => show (rw_ R k).length ≤ 1000 from Nat.le_trans (hF.2 k hk) (by omega))
  have hbd := hR.bd
  have qt : (t : Int) ≤ 255 := by have := hF.1; omega
  have HT1 := Lib.hid (show 1 ≤ t from by rw [beq_eq_false_iff_ne] at q0; omega)
  have HONE := Lib.hid (fun k (hk : k < t) => show (rw_ R k).length = n from (hO k hk).trans hn)
  have HO := Lib.hid hO
  have HN := Lib.hid (show n ≤ 20 from by rw [← hn]; exact hF.2 0 (by have := HT1.out; omega))
  clear hE hER hEF hEA hP hPR hPF hPA hR hF hNW hXW hO hn
  go_enter Try.func4, Try.ntmps4
  go_upto_region 3 with (first
    | (go_at_call 7; go_loud ((with_reducible refine (HL9.out w).mono ?_); rintro e w1 ⟨rfl, hb⟩; have HB1 := Lib.hid hb; have HFW := Lib.hid (few_yes aR t cR R w1 (HR.out.on hb) HFR.out); clear hb))
    | (go_at_call 8; go_loud ((with_reducible refine HFW.out.mono ?_); rintro e w' ⟨rfl, rfl⟩)))
  go_upto_region 6 with (first
    | (go_at_call 10; go_loud (refine (new_any _).mono ?_; rintro e w2 ⟨b, rfl, hb0, hf, hb2⟩; have HF2 := Lib.hid hf; have HB2 := Lib.hid (bt HB1.out hb2); have HEN := Lib.hid (HE.out b t N n aR cR R w2 hf (HR.out.on HB2.out) HT1.out (by omega) (by omega) HONE.out (by have := HN.out; omega)); clear hf hb0 hb2))
    | (go_at_call 11; go_loud ((with_reducible refine HEN.out.mono ?_); rintro e w3 ⟨a3, c3, rfl, hm3, hb3⟩; have HB3 := Lib.hid (bt HB2.out hb3); have HF3 := Lib.hid (HF2.out.below hb3); have HM3 := Lib.hid hm3.mat; clear hm3; have HPC := Lib.hid (HPR.out b t x aR cR R w3 HF3.out (HR.out.on HB3.out) HXW.out (.inr (.inr qy)) HT.out HLEN.out); clear hb3))
    | (go_at_call 12; go_loud ((with_reducible refine HPC.out.mono ?_); rintro e w4 ⟨a4, c4, rfl, hb4⟩; have HB4 := Lib.hid (bt HB3.out hb4); have HM4 := Lib.hid (HM3.out.on hb4); clear hb4)))
  clear HEN HPC HFW HB1 HB2 HB3 HL9
  have HUL := Lib.hid (unl_no aR t cR R w4 (HR.out.on HB4.out) HO.out)
  go_upto_region 14 with (go_at_call 9; go_loud ((with_reducible refine HUL.out.mono ?_); rintro e w' ⟨rfl, rfl⟩))
  go_loopw [80] (fun s wr => ∃ k : Nat, k ≤ N ∧ s = .int .i64 (k : Nat) ∧ Hid (Below w4.heap.size w4 wr)) (fun s _ => N - (intOf s).toNat)
  case atStart => exact ⟨0, by omega, rfl, Lib.hid (Below.refl _ _)⟩
  case round =>
    obtain ⟨k, hk, rfl, hB⟩ := hrel
    rename World => w5
    have HB45 := Lib.hid hB.out
    clear hB
    by_cases hlt : k < N
    · obtain ⟨bl, ol, al, cl, rfl, hbl, hcl, hpl⟩ := HM4.out.row hlt
      rw [encM_row hlt, pcR_len] at hcl hpl
      obtain ⟨K, hK⟩ : ∃ K, K = k + 1 := ⟨_, rfl⟩
      rw [← hK] at hpl
      have qK : (k : Int) + 1 = (K : Int) := by omega
      have qKN : (K : Int) ≤ 255 := by omega
      have HKE := Lib.hid hK
      have kw : ∀ [Inhabited Unit], IntKind.i64.wrap (K : Int) = (K : Int) := by intro _; rw [IntKind.wrap_i64]; omega
      clear hK
      have qk : (k : Int) < (N : Int) := by omega
      have qk0 : (0 : Int) ≤ (k : Int) := by omega
      have hcr : w5.cell? ⟨bl, ol + k, none⟩ = some (.slice al n cl) := (HB45.out.cell (p := ⟨bl, ol + k, none⟩) hbl).trans hcl
      have hcrd : w5.drew.cell? ⟨bl, ol + k, none⟩ = some (.slice al n cl) := hcr
      have hb5l : bl < w5.heap.size := Nat.lt_of_lt_of_le hbl HB45.out.size
      have HPL := Lib.hid hpl
      have hv1 : ∀ W, Below w5.heap.size w5 W → (convert 23 9 (.slice al n cl)).run Try.prog W = .ok (.string (strOfNums (iL (pcR R n (pl K))))) W := fun W hW => HPL.out.str_on rfl W (bt HB45.out hW)
      have hrf0 := fun (W : World) (hW : Below w5.heap.size w5 W) => refPiece_any t K n aR cR R W ((HR.out.on (bt HB4.out HB45.out)).on hW) HT1.out HT.out (by omega) HONE.out (by have := HN.out; omega)
      have HRF := Lib.hid hrf0
      clear hbl hcl hpl hrf0
      go_wp2_with fail
      go_region_held (fun W => W.cell? ⟨bl, ol + k, none⟩ = some (.slice al n cl) ∧ Below w5.heap.size w5 W) (first | exact ⟨hcrd, (Below.refl _ _).drew⟩ | assumption | exact ⟨(hb8.cell (p := ⟨bl, ol + k, none⟩) hb5l).trans hcr, (Below.refl _ _).drew.trans hb8⟩)
        (first | (go_at_call 13; go_loud ((with_reducible refine (HRF.out _ (by first | assumption | exact (Below.refl _ _).drew)).mono ?_); rintro e w8 ⟨g8, c8, rfl, hp8, hb8⟩; have hv8 := hp8.str_on rfl; have hrf8 := Below.refl w8.heap.size w8)))
      all_goals (go_wp2; go_roundw; (case rel => exact ⟨k + 1, by omega, by first | go_num | (rw [HKE.out]; go_num), Lib.hid (bt HB45.out ((Below.refl _ _).drew.trans hb8))⟩); (case measure => simp [intOf]; omega))
    · obtain rfl : N = k := by omega
      have HB5 := Lib.hid (bt HB4.out HB45.out)
      have qln : ((N : Int) != (N : Int)) = false := by simp
      clear hlt hk
      have HEN2 := Lib.hid (HEA.out t (N : Int) aR cR R w5 (HR.out.on HB5.out) HNW.out HT.out HLEN.out)
      go_upto_region 23 with (first
        | (go_at_call 11; go_loud ((with_reducible refine HEN2.out.mono ?_); rintro e w6 ⟨v6, rfl, hb6⟩; have HB6 := Lib.hid (bt HB5.out hb6); have HB46 := Lib.hid hb6; have HPC2 := Lib.hid (HPA.out t x aR cR R w6 (HR.out.on HB6.out) HXW.out HT.out HLEN.out); clear hb6))
        | (go_at_call 12; go_loud ((with_reducible refine HPC2.out.mono ?_); rintro e w7 ⟨v7, rfl, hb7⟩; have HB7 := Lib.hid (bt HB6.out hb7); have HB47 := Lib.hid (bt HB46.out hb7); clear hb7)))
      clear HEN2 HPC2 HB6 HB46
      go_wp2
      go_ret
      exact ⟨rfl, HB7.out⟩

set_option maxHeartbeats 4000000 in
theorem ce_C_c (hAll : EncAll) (N : Nat) (x : Nat) (t n : Nat) (aR : Option Addr) (cR : Nat) (R : List (List GF)) (w : World) (hNW : (Lit.int .i64 (N : Int)).wf = true) (hXW : (Lit.int .i64 (x : Int)).wf = true) (hR : Mat w aR t cR R) (hF : FewR t R) (hO : OneR t R) (hn : (rw_ R 0).length = n) (q0 : ((t : Int) == 0) = false) (qa : ¬ (N : Int) < (t : Int)) (qb : ¬ (255 : Int) < (N : Int)) (qf1 : ¬ (20 : Int) < (N : Int)) (qx : ¬ (x : Int) < 1) (qy : ¬ (255 : Int) < (x : Int)) :
    Calls Try.prog 4 #[.int .i64 (N : Int), .slice aR t cR, .int .i64 (x : Int)] w fun e w' => e = .returned (.bool true) ∧ Below w.heap.size w w' := by
  obtain ⟨hE, hER, hEF, hEA, hP, hPR, hPF, hPA⟩ := hAll
  have HL9 := Lib.hid (lives9 hE)
  have HE := Lib.hid hE; have HER := Lib.hid hER; have HEF := Lib.hid hEF; have HEA := Lib.hid hEA
  have HP := Lib.hid hP; have HPR := Lib.hid hPR; have HPF := Lib.hid hPF; have HPA := Lib.hid hPA
  have HR := Lib.hid hR
  have HFR := Lib.hid hF
  have HNW := Lib.hid hNW
  have HXW := Lib.hid hXW
  have HT := Lib.hid (show t ≤ 255 from by have := hF.1; omega)
  have HLEN := Lib.hid (fun k (hk : k < t) => show (rw_ R k).length ≤ 1000 from Nat.le_trans (hF.2 k hk) (by omega))
  have hbd := hR.bd
  have qt : (t : Int) ≤ 255 := by have := hF.1; omega
  have HT1 := Lib.hid (show 1 ≤ t from by rw [beq_eq_false_iff_ne] at q0; omega)
  have HONE := Lib.hid (fun k (hk : k < t) => show (rw_ R k).length = n from (hO k hk).trans hn)
  have HO := Lib.hid hO
  have HN := Lib.hid (show n ≤ 20 from by rw [← hn]; exact hF.2 0 (by have := HT1.out; omega))
  clear hE hER hEF hEA hP hPR hPF hPA hR hF hNW hXW hO hn
  go_enter Try.func4, Try.ntmps4
  go_upto_region 3 with (first
    | (go_at_call 7; go_loud ((with_reducible refine (HL9.out w).mono ?_); rintro e w1 ⟨rfl, hb⟩; have HB1 := Lib.hid hb; have HFW := Lib.hid (few_yes aR t cR R w1 (HR.out.on hb) HFR.out); clear hb))
    | (go_at_call 8; go_loud ((with_reducible refine HFW.out.mono ?_); rintro e w' ⟨rfl, rfl⟩)))
  go_upto_region 6 with (first
    | (go_at_call 10; go_loud (refine (new_any _).mono ?_; rintro e w2 ⟨b, rfl, hb0, hf, hb2⟩; have HF2 := Lib.hid hf; have HB2 := Lib.hid (bt HB1.out hb2); have HEN := Lib.hid (HE.out b t N n aR cR R w2 hf (HR.out.on HB2.out) HT1.out (by omega) (by omega) HONE.out (by have := HN.out; omega)); clear hf hb0 hb2))
    | (go_at_call 11; go_loud ((with_reducible refine HEN.out.mono ?_); rintro e w3 ⟨a3, c3, rfl, hm3, hb3⟩; have HB3 := Lib.hid (bt HB2.out hb3); have HF3 := Lib.hid (HF2.out.below hb3); have HM3 := Lib.hid hm3.mat; clear hm3; have HPC := Lib.hid (HP.out b t x n aR cR R w3 HF3.out (HR.out.on HB3.out) HT1.out HT.out (by omega) (by omega) HONE.out (by have := HN.out; omega)); clear hb3))
    | (go_at_call 12; go_loud ((with_reducible refine HPC.out.mono ?_); rintro e w4 ⟨a4, c4, rfl, hp4, hb4⟩; have HB4 := Lib.hid (bt HB3.out hb4); have HM4 := Lib.hid (HM3.out.on hb4); have HP4 := Lib.hid hp4; clear hp4; clear hb4)))
  clear HEN HPC HFW HB1 HB2 HB3 HL9
  have HUL := Lib.hid (unl_no aR t cR R w4 (HR.out.on HB4.out) HO.out)
  go_upto_region 14 with (go_at_call 9; go_loud ((with_reducible refine HUL.out.mono ?_); rintro e w' ⟨rfl, rfl⟩))
  go_loopw [80] (fun s wr => ∃ k : Nat, k ≤ N ∧ s = .int .i64 (k : Nat) ∧ Hid (Below w4.heap.size w4 wr)) (fun s _ => N - (intOf s).toNat)
  case atStart => exact ⟨0, by omega, rfl, Lib.hid (Below.refl _ _)⟩
  case round =>
    obtain ⟨k, hk, rfl, hB⟩ := hrel
    rename World => w5
    have HB45 := Lib.hid hB.out
    clear hB
    by_cases hlt : k < N
    · obtain ⟨bl, ol, al, cl, rfl, hbl, hcl, hpl⟩ := HM4.out.row hlt
      rw [encM_row hlt, pcR_len] at hcl hpl
      obtain ⟨K, hK⟩ : ∃ K, K = k + 1 := ⟨_, rfl⟩
      rw [← hK] at hpl
      have qK : (k : Int) + 1 = (K : Int) := by omega
      have qKN : (K : Int) ≤ 255 := by omega
      have HKE := Lib.hid hK
      have kw : ∀ [Inhabited Unit], IntKind.i64.wrap (K : Int) = (K : Int) := by intro _; rw [IntKind.wrap_i64]; omega
      clear hK
      have qk : (k : Int) < (N : Int) := by omega
      have qk0 : (0 : Int) ≤ (k : Int) := by omega
      have hcr : w5.cell? ⟨bl, ol + k, none⟩ = some (.slice al n cl) := (HB45.out.cell (p := ⟨bl, ol + k, none⟩) hbl).trans hcl
      have hcrd : w5.drew.cell? ⟨bl, ol + k, none⟩ = some (.slice al n cl) := hcr
      have hb5l : bl < w5.heap.size := Nat.lt_of_lt_of_le hbl HB45.out.size
      have HPL := Lib.hid hpl
      have hv1 : ∀ W, Below w5.heap.size w5 W → (convert 23 9 (.slice al n cl)).run Try.prog W = .ok (.string (strOfNums (iL (pcR R n (pl K))))) W := fun W hW => HPL.out.str_on rfl W (bt HB45.out hW)
      have hrf0 := fun (W : World) (hW : Below w5.heap.size w5 W) => refPiece_any t K n aR cR R W ((HR.out.on (bt HB4.out HB45.out)).on hW) HT1.out HT.out (by omega) HONE.out (by have := HN.out; omega)
      have HRF := Lib.hid hrf0
      clear hbl hcl hpl hrf0
      go_wp2_with fail
      go_region_held (fun W => W.cell? ⟨bl, ol + k, none⟩ = some (.slice al n cl) ∧ Below w5.heap.size w5 W) (first | exact ⟨hcrd, (Below.refl _ _).drew⟩ | assumption | exact ⟨(hb8.cell (p := ⟨bl, ol + k, none⟩) hb5l).trans hcr, (Below.refl _ _).drew.trans hb8⟩)
        (first | (go_at_call 13; go_loud ((with_reducible refine (HRF.out _ (by first | assumption | exact (Below.refl _ _).drew)).mono ?_); rintro e w8 ⟨g8, c8, rfl, hp8, hb8⟩; have hv8 := hp8.str_on rfl; have hrf8 := Below.refl w8.heap.size w8)))
      all_goals (go_wp2; go_roundw; (case rel => exact ⟨k + 1, by omega, by first | go_num | (rw [HKE.out]; go_num), Lib.hid (bt HB45.out ((Below.refl _ _).drew.trans hb8))⟩); (case measure => simp [intOf]; omega))
    · obtain rfl : N = k := by omega
      have HB5 := Lib.hid (bt HB4.out HB45.out)
      have qln : ((N : Int) != (N : Int)) = false := by simp
      have HP5 := Lib.hid (HP4.out.on HB45.out)
      clear hlt hk
      have HEN2 := Lib.hid (HEA.out t (N : Int) aR cR R w5 (HR.out.on HB5.out) HNW.out HT.out HLEN.out)
      go_upto_region 23 with (first
        | (go_at_call 11; go_loud ((with_reducible refine HEN2.out.mono ?_); rintro e w6 ⟨v6, rfl, hb6⟩; have HB6 := Lib.hid (bt HB5.out hb6); have HB46 := Lib.hid hb6; have HPC2 := Lib.hid (HPA.out t (x : Int) aR cR R w6 (HR.out.on HB6.out) HXW.out HT.out HLEN.out); clear hb6))
        | (go_at_call 12; go_loud ((with_reducible refine HPC2.out.mono ?_); rintro e w7 ⟨v7, rfl, hb7⟩; have HB7 := Lib.hid (bt HB6.out hb7); have HB47 := Lib.hid (bt HB46.out hb7); clear hb7)))
      clear HEN2 HPC2 HB6 HB46
      have HUL2 := Lib.hid (unl_no aR t cR R w7 (HR.out.on HB7.out) HO.out)
      have hv1 : ∀ W, Below w7.heap.size w7 W → (convert 23 9 (.slice a4 n c4)).run Try.prog W = .ok (.string (strOfNums (iL (pcR R n (pl x))))) W := fun W hW => HP5.out.str_on rfl W (bt HB47.out hW)
      have HRF := Lib.hid (fun (W : World) (hW : Below w7.heap.size w7 W) => refPiece_any t x n aR cR R W ((HR.out.on HB7.out).on hW) HT1.out HT.out (by omega) HONE.out (by have := HN.out; omega))
      go_upto_region 27 with (go_at_call 9; go_loud ((with_reducible refine HUL2.out.mono ?_); rintro e w' ⟨rfl, rfl⟩))
      go_wp2_with fail
      go_region_held (fun W => Below w7.heap.size w7 W) (first | exact (Below.refl _ _).drew | assumption | exact (Below.refl _ _).drew.trans hb8)
        (first | (go_at_call 13; go_loud ((with_reducible refine (HRF.out _ (by first | assumption | exact (Below.refl _ _).drew)).mono ?_); rintro e w8 ⟨g8, c8, rfl, hp8, hb8⟩; have hv8 := hp8.str_on rfl; have hrf8 := Below.refl w8.heap.size w8)))
      all_goals (go_wp2; go_ret; exact ⟨rfl, bt HB7.out ((Below.refl _ _).drew.trans hb8)⟩)

theorem codeEncodes_core (hAll : EncAll) (N x : Int) (t : Nat) (aR : Option Addr) (cR : Nat) (R : List (List GF)) (w : World) (hNW : (Lit.int .i64 N).wf = true) (hXW : (Lit.int .i64 x).wf = true) (hR : Mat w aR t cR R) (hF : FewR t R) (hNf : ¬ (20 < N ∧ N ≤ 255)) :
    Calls Try.prog 4 #[.int .i64 N, .slice aR t cR, .int .i64 x] w fun e w' => e = .returned (.bool true) ∧ Below w.heap.size w w' := by
  have h12 := hF.1
  by_cases h0 : t = 0
  · have q0 : ((t : Int) == 0) = true := by rw [h0]; rfl
    by_cases qf1 : 20 < N
    · have qf2 : ¬ N ≤ 255 := fun h => hNf ⟨qf1, h⟩
      exact ce_A1F2_a1 hAll N x t 0 aR cR R w hNW hXW hR hF q0 qf1 qf2
    · exact ce_A1F1_a1 hAll N x t 0 aR cR R w hNW hXW hR hF q0 qf1
  have q0 : ((t : Int) == 0) = false := by rw [beq_eq_false_iff_ne]; omega
  by_cases qa : N < (t : Int)
  · have qf1 : ¬ 20 < N := by omega
    by_cases qx : x < 1
    · exact ce_A2_a2 hAll N x t 0 aR cR R w hNW hXW hR hF q0 qa qf1 qx
    by_cases qy : 255 < x
    · exact ce_A2_a3 hAll N x t 0 aR cR R w hNW hXW hR hF q0 qa qf1 qx qy
    obtain ⟨xn, rfl⟩ : ∃ xn : Nat, x = (xn : Int) := ⟨x.toNat, by omega⟩
    by_cases hO : OneR t R
    · exact ce_A2_c hAll N xn t _ aR cR R w hNW hXW hR hF hO rfl q0 qa qf1 qx qy
    · exact ce_A2_b hAll N xn t 0 aR cR R w hNW hXW hR hF hO q0 qa qf1 qx qy
  by_cases qb : 255 < N
  · have qf1 : 20 < N := by omega
    have qf2 : ¬ N ≤ 255 := by omega
    by_cases qx : x < 1
    · exact ce_A3_a2 hAll N x t 0 aR cR R w hNW hXW hR hF q0 qa qb qf1 qf2 qx
    by_cases qy : 255 < x
    · exact ce_A3_a3 hAll N x t 0 aR cR R w hNW hXW hR hF q0 qa qb qf1 qf2 qx qy
    obtain ⟨xn, rfl⟩ : ∃ xn : Nat, x = (xn : Int) := ⟨x.toNat, by omega⟩
    by_cases hO : OneR t R
    · exact ce_A3_c hAll N xn t _ aR cR R w hNW hXW hR hF hO rfl q0 qa qb qf1 qf2 qx qy
    · exact ce_A3_b hAll N xn t 0 aR cR R w hNW hXW hR hF hO q0 qa qb qf1 qf2 qx qy
  have qf1 : ¬ 20 < N := fun h => hNf ⟨h, by omega⟩
  obtain ⟨Nn, rfl⟩ : ∃ Nn : Nat, N = (Nn : Int) := ⟨N.toNat, by omega⟩
  by_cases hO : OneR t R
  · by_cases qx : x < 1
    · exact ce_C_a2 hAll Nn x t _ aR cR R w hNW hXW hR hF hO rfl q0 qa qb qf1 qx
    by_cases qy : 255 < x
    · exact ce_C_a3 hAll Nn x t _ aR cR R w hNW hXW hR hF hO rfl q0 qa qb qf1 qx qy
    obtain ⟨xn, rfl⟩ : ∃ xn : Nat, x = (xn : Int) := ⟨x.toNat, by omega⟩
    exact ce_C_c hAll Nn xn t _ aR cR R w hNW hXW hR hF hO rfl q0 qa qb qf1 qx qy
  · by_cases qx : x < 1
    · exact ce_B_a2 hAll Nn x t 0 aR cR R w hNW hXW hR hF hO q0 qa qb qf1 qx
    by_cases qy : 255 < x
    · exact ce_B_a3 hAll Nn x t 0 aR cR R w hNW hXW hR hF hO q0 qa qb qf1 qx qy
    obtain ⟨xn, rfl⟩ : ∃ xn : Nat, x = (xn : Int) := ⟨x.toNat, by omega⟩
    exact ce_B_b hAll Nn xn t 0 aR cR R w hNW hXW hR hF hO q0 qa qb qf1 qx qy
end Go.Proofs.Ytmhjpdppippgkaa
