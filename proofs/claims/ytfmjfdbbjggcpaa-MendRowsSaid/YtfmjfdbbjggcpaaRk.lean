/- MendRows' walk where it is refused, under the contracts. -/
import Derived.Test.YtfmjfdbbjggcpaaRj
namespace Go.Proofs.Ytfmjfdbbjggcpaa
open Go.ChangeShapes Go.WideShapes Go.ChangeAt Go.RowKit Go.Shelf GF
set_option linter.unusedVariables false
set_option linter.unusedSimpArgs false
set_option maxRecDepth 100000

theorem zerosPa (w : World) (K : Nat) (h : K ≤ 1000) : Pa (w.alloc (.cells (madeCells #[Value.int .u8 0] K) 5)) (some ⟨w.heap.size, 0, none⟩) K K (List.replicate K 0) := by
  have := own_made (w := w) (e := 5) (n := K) (by unfold maxLen; omega)
  rw [show List.replicate K (0 : Int) = iL (List.replicate K (0 : GF)) by unfold iL; rw [List.map_replicate]; rfl] at this
  exact Pa.own2 this
theorem zeros_right {X : List GF} {L t : Nat} (hX : X.length = L) (htL : t ≤ L) (e : Nat) : RightP X (List.replicate L 0) t e [] := by
  have h : wrL X (List.replicate L 0) [] = [] := by
    unfold wrL
    rw [List.filter_eq_nil_iff]
    intro k _
    rw [decide_eq_true_eq]
    intro h
    exact h (by rw [show ev [] (co X k) = 0 from rfl, co_replicate])
  exact ⟨rfl, Nat.zero_le _, by rw [h]; exact Nat.zero_le _, by rw [h]; simp; omega⟩
/-- The first of the first k rows that is longer than 8, if there is one. -/
theorem first_long (R : List (List GF)) (K : Nat) : ∃ j, j ≤ K ∧ (∀ i, i < j → (rw_ R i).length ≤ 8) ∧ (j < K → 8 < (rw_ R j).length) := by
  induction K with
  | zero => exact ⟨0, Nat.le_refl _, fun i hi => absurd hi (by omega), fun h => absurd h (by omega)⟩
  | succ K ih =>
    obtain ⟨j, h1, h2, h3⟩ := ih
    by_cases h : j < K
    · exact ⟨j, by omega, h2, fun _ => h3 h⟩
    · obtain rfl : j = K := by omega
      by_cases h0 : (rw_ R j).length ≤ 8
      · exact ⟨j + 1, Nat.le_refl _, fun k hk => by
          rcases Nat.lt_succ_iff_lt_or_eq.1 hk with h4 | h4
          · exact h2 k h4
          · rw [h4]; exact h0, fun h => absurd h (by omega)⟩
      · exact ⟨j, by omega, h2, fun _ => by omega⟩
theorem mr_many1 {Md : World → Addr → List (List GF) → List Nat → Prop} (hAll : ColAll) (hRA : RowsAll Md) (t e : Int) (x : GF) (L : Nat) (aX : Option Addr) (cX : Nat) (X : List GF) (K : Nat) (aR : Option Addr) (cR : Nat) (R : List (List GF)) (w : World) (hX : Pa w aX L cX X) (hR : Mat w aR K cR R) (h : 6 < K) :
    Calls Try.prog 5 #[.int .i64 t, .slice aX L cX, .slice aR K cR, .int .i64 e, .int .u8 (toI x)] w fun r w' => r = .returned (.bool true) ∧ Below w.heap.size w w' := by
  have HLI := Lib.hid (lives10 hAll)
  have hbx := hX.bd; have hbr := hR.bd
  have q6 : (6 : Int) < (K : Int) := by omega
  clear hAll hRA hX hR h
  go_enter Try.func5, Try.ntmps5
  go_upto_region 2 with (go_at_call 6; go_loud (refine (HLI.out _).mono ?_; rintro e w1 ⟨rfl, hb⟩; have HB1 := Lib.hid hb; clear hb))
  go_wp2_with (go_at_call 6; go_loud (refine (HLI.out _).mono ?_; rintro e w2 ⟨rfl, hb⟩; have HB2 := Lib.hid (bt HB1.out hb); clear hb))
  go_ret
  exact ⟨rfl, HB2.out⟩
theorem mr_many2 {Md : World → Addr → List (List GF) → List Nat → Prop} (hAll : ColAll) (hRA : RowsAll Md) (t e : Int) (x : GF) (L : Nat) (aX : Option Addr) (cX : Nat) (X : List GF) (K : Nat) (aR : Option Addr) (cR : Nat) (R : List (List GF)) (w : World) (hX : Pa w aX L cX X) (hR : Mat w aR K cR R) (h0 : K ≤ 6) (h : 6 < L) :
    Calls Try.prog 5 #[.int .i64 t, .slice aX L cX, .slice aR K cR, .int .i64 e, .int .u8 (toI x)] w fun r w' => r = .returned (.bool true) ∧ Below w.heap.size w w' := by
  have HLI := Lib.hid (lives10 hAll)
  have hbx := hX.bd; have hbr := hR.bd
  have q6 : ¬ (6 : Int) < (K : Int) := by omega
  have q7 : (6 : Int) < (L : Int) := by omega
  clear hAll hRA hX hR h
  go_enter Try.func5, Try.ntmps5
  go_upto_region 2 with (go_at_call 6; go_loud (refine (HLI.out _).mono ?_; rintro e w1 ⟨rfl, hb⟩; have HB1 := Lib.hid hb; clear hb))
  go_wp2_with (go_at_call 6; go_loud (refine (HLI.out _).mono ?_; rintro e w2 ⟨rfl, hb⟩; have HB2 := Lib.hid (bt HB1.out hb); clear hb))
  go_ret
  exact ⟨rfl, HB2.out⟩
theorem mr_long {Md : World → Addr → List (List GF) → List Nat → Prop} (hAll : ColAll) (hRA : RowsAll Md) (t e : Int) (x : GF) (L : Nat) (aX : Option Addr) (cX : Nat) (X : List GF) (K : Nat) (aR : Option Addr) (cR : Nat) (R : List (List GF)) (w : World) (hX : Pa w aX L cX X) (hR : Mat w aR K cR R) (hK : K ≤ 6) (hL : L ≤ 6) (j : Nat) (hj : j < K) (hz : ∀ i, i < j → (rw_ R i).length ≤ 8) (hn : 8 < (rw_ R j).length) :
    Calls Try.prog 5 #[.int .i64 t, .slice aX L cX, .slice aR K cR, .int .i64 e, .int .u8 (toI x)] w fun r w' => r = .returned (.bool true) ∧ Below w.heap.size w w' := by
  have HLI := Lib.hid (lives10 hAll)
  have hbx := hX.bd; have hbr := hR.bd
  have HR := Lib.hid hR; have HX := Lib.hid hX
  have HRL := Lib.hid hR.len
  have q6 : ¬ (6 : Int) < (K : Int) := by omega
  have q7 : ¬ (6 : Int) < (L : Int) := by omega
  have HZ := Lib.hid hz
  have HN := Lib.hid hn
  have HJ := Lib.hid hj
  clear hAll hRA hX hR hz hn hj
  go_enter Try.func5, Try.ntmps5
  go_upto_region 5 with (go_at_call 6; go_loud (refine (HLI.out _).mono ?_; rintro e w1 ⟨rfl, hb⟩; have HB1 := Lib.hid hb; clear hb))
  have HR1 := Lib.hid (HR.out.on HB1.out)
  have HX1 := Lib.hid (HX.out.on HB1.out)
  go_loopw [11, 47] (fun o s V => ∃ k : Nat, k ≤ j ∧ s = .int .i64 (k : Nat) ∧ o = .int .i64 (uI R k) ∧ V = w1) (fun _ s _ => K - (intOf s).toNat)
  case atStart => exact ⟨0, Nat.zero_le _, rfl, by rw [uI_zero], rfl⟩
  case round =>
    obtain ⟨k, hk, rfl, rfl, hV⟩ := hrel
    subst hV
    by_cases hlt : k < K
    · obtain ⟨b, off, ai, ci, rfl, hb, hcell, hpa⟩ := HR1.out.row hlt
      obtain ⟨b2, o2, a0, c0, e0, hb0, hc0, hp0⟩ := HR1.out.row (i := 0) (by omega)
      cases e0
      rw [Nat.add_zero] at hc0
      have q1 : (k : Int) < (K : Int) := by omega
      have q2 : (0 : Int) ≤ (k : Int) := by omega
      have q3 : (0 : Int) < (K : Int) := by omega
      have hd1 := hpa.bd
      have hd0 := hp0.bd
      have HU1 := Lib.hid (uI_like (M := R) (k := k) (by rw [HRL.out]; exact hlt))
      have HU2 := Lib.hid (uI_unlike (M := R) (k := k) (by rw [HRL.out]; exact hlt))
      have HL8 := Lib.hid (HZ.out k)
      obtain ⟨m, hm⟩ : ∃ m, m = (rw_ R k).length := ⟨_, rfl⟩
      obtain ⟨m0, hm0⟩ : ∃ m, m = (rw_ R 0).length := ⟨_, rfl⟩
      rw [← hm] at hcell hd1 HU1 HU2 HL8
      rw [← hm0] at hc0 hd0 HU1 HU2
      have HM := Lib.hid hm
      have HM0 := Lib.hid hm0
      have HKL := Lib.hid hlt
      clear hpa hp0 hm hm0 hb hb0 hlt
      by_cases hkj : k = j
      · have q4 : (8 : Int) < (m : Int) := by have := HN.out; rw [← hkj] at this; rw [← HM.out] at this; omega
        clear hkj
        go_wp2
        go_ret
        exact ⟨rfl, HB1.out⟩
      have hm8 : m ≤ 8 := HL8.out (by omega)
      have hkj2 : k + 1 ≤ j := by omega
      have q4 : ¬ (8 : Int) < (m : Int) := by omega
      by_cases he : m = m0
      · have q5 : ((m : Int) != (m0 : Int)) = false := by subst he; simp
        have HU := Lib.hid (HU1.out he)
        clear he
        go_wp2
        go_roundw
        case rel => exact ⟨k + 1, hkj2, by go_num, by rw [HU.out], by trivial⟩
        case measure => simp [intOf]; have := HKL.out; omega
      · have q5 : ((m : Int) != (m0 : Int)) = true := by rw [bne_iff_ne]; omega
        have HU := Lib.hid (HU2.out he)
        clear he
        go_wp2
        go_roundw
        case rel => exact ⟨k + 1, hkj2, by go_num, by rw [HU.out], by trivial⟩
        case measure => simp [intOf]; have := HKL.out; omega
    · exact absurd HJ.out (by omega)
set_option maxHeartbeats 1000000 in
theorem mr_err {Md : World → Addr → List (List GF) → List Nat → Prop} (hAll : ColAll) (hRA : RowsAll Md) (t e : Int) (x : GF) (L : Nat) (aX : Option Addr) (cX : Nat) (X : List GF) (K : Nat) (aR : Option Addr) (cR : Nat) (R : List (List GF)) (w : World) (hX : Pa w aX L cX X) (hR : Mat w aR K cR R) (hT : (Lit.int .i64 t).wf = true) (hE : (Lit.int .i64 e).wf = true) (hK : K ≤ 6) (hL : L ≤ 6) (hz : ∀ i, i < K → (rw_ R i).length ≤ 8) (er : Int) (her : colErr X K t e = er) (hne : er ≠ 0) :
    Calls Try.prog 5 #[.int .i64 t, .slice aX L cX, .slice aR K cR, .int .i64 e, .int .u8 (toI x)] w fun r w' => r = .returned (.bool true) ∧ Below w.heap.size w w' := by
  have HLI := Lib.hid (lives10 hAll)
  have hbx := hX.bd; have hbr := hR.bd
  have HR := Lib.hid hR; have HX := Lib.hid hX
  have HRL := Lib.hid hR.len
  have q6 : ¬ (6 : Int) < (K : Int) := by omega
  have q7 : ¬ (6 : Int) < (L : Int) := by omega
  have HZ := Lib.hid hz
  have HE1 := Lib.hid (fun (b : Nat) (W : World) (hf : Fld W b) (hx : Pa W aX L cX X) (hr : Mat W aR K cR R) => hRA.err b L K t e aX cX X aR cR R W hf hx hr hT hE hL hK hz (by rw [her]; exact hne))
  have HE2 := Lib.hid (fun (b : Nat) (aY : Option Addr) (cY : Nat) (Y : List GF) (W : World) (hf : Fld W b) (hx : Pa W aX L cX X) (hy : Pa W aY K cY Y) => hAll.1 b L K t e aX cX X aY cY Y W hf hx hy hT hE (by omega) (by omega) (by rw [her]; exact hne))
  rw [her] at HE1 HE2
  have hmk := run_make_row' (P := Try.prog) 22 5 (.int .u8 0) 1 Try.underlying22 info5 rfl .i64 .i64 K (by omega) (by omega)
  have qer : (er != 0) = true := by rw [bne_iff_ne]; exact hne
  clear hAll hRA hX hR hz her hne hT hE
  go_enter Try.func5, Try.ntmps5
  go_upto_region 5 with (go_at_call 6; go_loud (refine (HLI.out _).mono ?_; rintro e w1 ⟨rfl, hb⟩; have HB1 := Lib.hid hb; clear hb))
  have HR1 := Lib.hid (HR.out.on HB1.out)
  have HX1 := Lib.hid (HX.out.on HB1.out)
  go_loopw [11, 47] (fun o s V => ∃ k : Nat, k ≤ K ∧ s = .int .i64 (k : Nat) ∧ o = .int .i64 (uI R k) ∧ V = w1) (fun _ s _ => K - (intOf s).toNat)
  case atStart => exact ⟨0, Nat.zero_le _, rfl, by rw [uI_zero], rfl⟩
  case round =>
    obtain ⟨k, hk, rfl, rfl, hV⟩ := hrel
    subst hV
    by_cases hlt : k < K
    · obtain ⟨b, off, ai, ci, rfl, hb, hcell, hpa⟩ := HR1.out.row hlt
      obtain ⟨b2, o2, a0, c0, e0, hb0, hc0, hp0⟩ := HR1.out.row (i := 0) (by omega)
      cases e0
      rw [Nat.add_zero] at hc0
      have q1 : (k : Int) < (K : Int) := by omega
      have q2 : (0 : Int) ≤ (k : Int) := by omega
      have q3 : (0 : Int) < (K : Int) := by omega
      have hd1 := hpa.bd
      have hd0 := hp0.bd
      have HU1 := Lib.hid (uI_like (M := R) (k := k) (by rw [HRL.out]; exact hlt))
      have HU2 := Lib.hid (uI_unlike (M := R) (k := k) (by rw [HRL.out]; exact hlt))
      have hm8 := HZ.out k hlt
      obtain ⟨m, hm⟩ : ∃ m, m = (rw_ R k).length := ⟨_, rfl⟩
      obtain ⟨m0, hm0⟩ : ∃ m, m = (rw_ R 0).length := ⟨_, rfl⟩
      rw [← hm] at hcell hd1 HU1 HU2 hm8
      rw [← hm0] at hc0 hd0 HU1 HU2
      have HM := Lib.hid hm
      have HM0 := Lib.hid hm0
      have HKL := Lib.hid hlt
      clear hpa hp0 hm hm0 hb hb0 hlt
      have q4 : ¬ (8 : Int) < (m : Int) := by omega
      by_cases he : m = m0
      · have q5 : ((m : Int) != (m0 : Int)) = false := by subst he; simp
        have HU := Lib.hid (HU1.out he)
        clear he
        go_wp2
        go_roundw
        case rel => exact ⟨k + 1, by have := HKL.out; omega, by go_num, by rw [HU.out], by trivial⟩
        case measure => simp [intOf]; have := HKL.out; omega
      · have q5 : ((m : Int) != (m0 : Int)) = true := by rw [bne_iff_ne]; omega
        have HU := Lib.hid (HU2.out he)
        clear he
        go_wp2
        go_roundw
        case rel => exact ⟨k + 1, by have := HKL.out; omega, by go_num, by rw [HU.out], by trivial⟩
        case measure => simp [intOf]; have := HKL.out; omega
    · obtain rfl : k = K := by omega
      go_upto_region 15 with (first
        | (go_at_call 8; go_loud (refine (new_any _).mono ?_; rintro e w2 ⟨b, rfl, hb0, hf, hbel⟩; have HB2 := Lib.hid hbel; have HF2 := Lib.hid hf; have HC1 := Lib.hid (HE1.out b w2 hf (HX1.out.on hbel) (HR1.out.on hbel)); clear hf hbel hb0))
        | (go_at_call 15; go_loud (refine HC1.out.mono ?_; rintro e w3 ⟨rfl, hb3⟩; have HB3 := Lib.hid (bt HB2.out hb3); have hba : Below w3.heap.size w3 (w3.alloc (.cells (madeCells #[Value.int .u8 0] k) 5)) := (Below.refl _ _).alloc (Nat.le_refl _) _; have HBA := Lib.hid hba; have HC2 := Lib.hid (HE2.out b _ _ _ _ ((HF2.out.below hb3).below hba) (HX1.out.on (bt HB3.out hba)) (zerosPa w3 k (by omega))); clear hb3 hba))
        | (go_at_call 7; go_loud (refine HC2.out.mono ?_; rintro e w4 ⟨a4, c4, rfl, hb4⟩; have HB4 := Lib.hid (bt HB1.out (bt HB3.out (bt HBA.out hb4))); clear hb4)))
      go_wp2
      go_ret
      exact ⟨rfl, HB4.out⟩
set_option maxHeartbeats 1000000 in
theorem mr_form {Md : World → Addr → List (List GF) → List Nat → Prop} (hAll : ColAll) (hRA : RowsAll Md) (t : Nat) (e : Int) (x : GF) (L : Nat) (aX : Option Addr) (cX : Nat) (X : List GF) (aR : Option Addr) (cR : Nat) (R : List (List GF)) (w : World) (hX : Pa w aX L cX X) (hR : Mat w aR L cR R) (hE : (Lit.int .i64 e).wf = true) (hL : L ≤ 6) (hz : ∀ i, i < L → (rw_ R i).length ≤ 8) (ht : 1 ≤ t) (htL : t ≤ L) (he0 : 0 ≤ e) (hp : plErr X = 0) (hu : unl R L = true) :
    Calls Try.prog 5 #[.int .i64 (t : Nat), .slice aX L cX, .slice aR L cR, .int .i64 e, .int .u8 (toI x)] w fun r w' => r = .returned (.bool true) ∧ Below w.heap.size w w' := by
  have HLI := Lib.hid (lives10 hAll)
  have hbx := hX.bd; have hbr := hR.bd
  have HR := Lib.hid hR; have HX := Lib.hid hX
  have HRL := Lib.hid hR.len
  have q6 : ¬ (6 : Int) < (L : Int) := by omega
  have HZ := Lib.hid hz
  have HUL := Lib.hid (show uI R L = 3 by unfold uI; rw [hu]; rfl)
  have HE1 := Lib.hid (fun (b : Nat) (W : World) (hf : Fld W b) (hx : Pa W aX L cX X) (hr : Mat W aR L cR R) => hRA.form b L t e aX cX X aR cR R W hf hx hr hE he0 ht htL hL hp hz hu)
  have HE2 := Lib.hid (fun (b : Nat) (aY : Option Addr) (cY : Nat) (W : World) (hf : Fld W b) (hx : Pa W aX L cX X) (hy : Pa W aY L cY (List.replicate L 0)) => hAll.2.1 b L t e aX cX X aY cY (List.replicate L 0) [] W hf hx hy hE he0 ht htL (by omega) hp (zeros_right hX.len htL _))
  have hmk := run_make_row' (P := Try.prog) 22 5 (.int .u8 0) 1 Try.underlying22 info5 rfl .i64 .i64 L (by omega) (by omega)
  clear hAll hRA hX hR hz hE he0 ht htL hp hu
  go_enter Try.func5, Try.ntmps5
  go_upto_region 5 with (go_at_call 6; go_loud (refine (HLI.out _).mono ?_; rintro e w1 ⟨rfl, hb⟩; have HB1 := Lib.hid hb; clear hb))
  have HR1 := Lib.hid (HR.out.on HB1.out)
  have HX1 := Lib.hid (HX.out.on HB1.out)
  go_loopw [11, 47] (fun o s V => ∃ k : Nat, k ≤ L ∧ s = .int .i64 (k : Nat) ∧ o = .int .i64 (uI R k) ∧ V = w1) (fun _ s _ => L - (intOf s).toNat)
  case atStart => exact ⟨0, Nat.zero_le _, rfl, by rw [uI_zero], rfl⟩
  case round =>
    obtain ⟨k, hk, rfl, rfl, hV⟩ := hrel
    subst hV
    by_cases hlt : k < L
    · obtain ⟨b, off, ai, ci, rfl, hb, hcell, hpa⟩ := HR1.out.row hlt
      obtain ⟨b2, o2, a0, c0, e0, hb0, hc0, hp0⟩ := HR1.out.row (i := 0) (by omega)
      cases e0
      rw [Nat.add_zero] at hc0
      have q1 : (k : Int) < (L : Int) := by omega
      have q2 : (0 : Int) ≤ (k : Int) := by omega
      have q3 : (0 : Int) < (L : Int) := by omega
      have hd1 := hpa.bd
      have hd0 := hp0.bd
      have HU1 := Lib.hid (uI_like (M := R) (k := k) (by rw [HRL.out]; exact hlt))
      have HU2 := Lib.hid (uI_unlike (M := R) (k := k) (by rw [HRL.out]; exact hlt))
      have hm8 := HZ.out k hlt
      obtain ⟨m, hm⟩ : ∃ m, m = (rw_ R k).length := ⟨_, rfl⟩
      obtain ⟨m0, hm0⟩ : ∃ m, m = (rw_ R 0).length := ⟨_, rfl⟩
      rw [← hm] at hcell hd1 HU1 HU2 hm8
      rw [← hm0] at hc0 hd0 HU1 HU2
      have HM := Lib.hid hm
      have HM0 := Lib.hid hm0
      have HKL := Lib.hid hlt
      clear hpa hp0 hm hm0 hb hb0 hlt
      have q4 : ¬ (8 : Int) < (m : Int) := by omega
      by_cases he : m = m0
      · have q5 : ((m : Int) != (m0 : Int)) = false := by subst he; simp
        have HU := Lib.hid (HU1.out he)
        clear he
        go_wp2
        go_roundw
        case rel => exact ⟨k + 1, by have := HKL.out; omega, by go_num, by rw [HU.out], by trivial⟩
        case measure => simp [intOf]; have := HKL.out; omega
      · have q5 : ((m : Int) != (m0 : Int)) = true := by rw [bne_iff_ne]; omega
        have HU := Lib.hid (HU2.out he)
        clear he
        go_wp2
        go_roundw
        case rel => exact ⟨k + 1, by have := HKL.out; omega, by go_num, by rw [HU.out], by trivial⟩
        case measure => simp [intOf]; have := HKL.out; omega
    · obtain rfl : k = L := by omega
      rw [HUL.out]
      go_upto_region 15 with (first
        | (go_at_call 8; go_loud (refine (new_any _).mono ?_; rintro e w2 ⟨b, rfl, hb0, hf, hbel⟩; have HB2 := Lib.hid hbel; have HF2 := Lib.hid hf; have HC1 := Lib.hid (HE1.out b w2 hf (HX1.out.on hbel) (HR1.out.on hbel)); clear hf hbel hb0))
        | (go_at_call 15; go_loud (refine HC1.out.mono ?_; rintro e w3 ⟨rfl, hb3⟩; have HB3 := Lib.hid (bt HB2.out hb3); have hba : Below w3.heap.size w3 (w3.alloc (.cells (madeCells #[Value.int .u8 0] k) 5)) := (Below.refl _ _).alloc (Nat.le_refl _) _; have HBA := Lib.hid hba; have HC2 := Lib.hid (HE2.out b _ _ _ ((HF2.out.below hb3).below hba) (HX1.out.on (bt HB3.out hba)) (zerosPa w3 k (by omega))); clear hb3 hba))
        | (go_at_call 7; go_loud (refine HC2.out.mono ?_; rintro e w4 ⟨a4, c4, rfl, hp4, hb4⟩; have HB4 := Lib.hid (bt HB1.out (bt HB3.out (bt HBA.out hb4))); clear hb4 hp4)))
      go_wp2
      go_ret
      exact ⟨rfl, HB4.out⟩
end Go.Proofs.Ytfmjfdbbjggcpaa
