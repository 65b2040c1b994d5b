/- Contracts of Vandermonde, and of the laws' lives and rows. -/
import Derived.Test.YtpoaimcioeopdaaMnew
import Derived.Test.YtpoaimcioeopdaaMsq
import Derived.LoopN
namespace Go.Proofs.Ytpoaimcioeopdaa
open Go.ChangeShapes Go.WideShapes Go.ChangeAt Go.RowKit Go.Shelf GF
set_option linter.unusedVariables false
set_option maxRecDepth 100000
set_option linter.unusedSimpArgs false

theorem gpw_pow (x : GF) (j : Nat) (hj : j < 255) : ((powN x.1 (j : Int) : Nat) : Int) = toI (gpw x j) := by
  have h : powN x.1 (j : Int) = (gpw x j).1 := by
    by_cases h0 : x.1 = 0
    · have hx : x = 0 := GF.ext h0
      cases j with
      | zero => unfold powN; rw [if_pos (by omega)]; rfl
      | succ k =>
        unfold powN
        rw [if_neg (by omega), if_pos h0, hx]
        show 0 = (gpw 0 k * 0 : GF).1
        rw [GF.mul_zero]; rfl
    · have hp : ∀ k, pwr x.1 k = (gpw x k).1 := by
        intro k
        induction k with
        | zero => exact pwr_zero _
        | succ k ih => rw [← pwr_succ h0, ih]; rfl
      unfold powN
      by_cases hz : (j : Int) = 0
      · rw [if_pos hz]
        have : j = 0 := by omega
        subst this; rfl
      · rw [if_neg hz, if_neg h0, show ((j : Int) % 255).toNat = j by omega]
        exact hp j
  rw [h]; rfl
theorem vdm1_any (bf bs fb : Nat) (a : Option Addr) (L c : Nat) (X : List GF) (W : World) (i j : Nat) (hf : W.cell? ⟨bf, 0, none⟩ = some (.pointer (some ⟨fb, 0, none⟩))) (hs : W.cell? ⟨bs, 0, none⟩ = some (.slice a L c)) (hF : Fld W fb) (hp : Pa W a L c X) (hi : i < L) (hj : j ≤ 200) :
    Giv Try.prog 41 #[.pointer (some ⟨bf, 0, none⟩), .pointer (some ⟨bs, 0, none⟩)] #[.int .i64 (i : Nat), .int .i64 (j : Nat)] (.int .u8 (toI (vdm X i j))) W := by
  obtain ⟨b, off, rfl, hb, hcell⟩ := hp.at_ hi
  have hbd := hp.bd
  have q : (i : Int) < (L : Int) := by omega
  have q0 : (0 : Int) ≤ (i : Int) := by omega
  have HF := Lib.hid hF
  have hpow := fun k => pow_N fb (co X i).1 (j : Int) (W.drewN k) (hF.drewN k) (co X i).2 (by omega)
  rw [gpw_pow _ _ (by omega)] at hpow
  have HP := Lib.hid hpow
  clear hp hF hpow
  unfold Giv
  go_enter Try.func41, Try.ntmps41
  go_wp2_with fail
  go_quiet ((go_at_call 42; exact Calls.quiet_of_same ((HP.out _).mono fun _ _ ⟨he, hw⟩ => ⟨he, hw.symm⟩)))
  go_wp2
  go_ret
  exact ⟨rfl, _, rfl⟩
set_option maxHeartbeats 1000000 in
theorem vandermonde_ok (fb : Nat) (a : Option Addr) (L c m : Nat) (X : List GF) (w : World) (hf : Fld w fb) (hp : Pa w a L c X) (hL : 1 ≤ L ∧ L ≤ 64) (hm : 1 ≤ m ∧ m ≤ 64) :
    Calls Try.prog 15 #[.pointer (some ⟨fb, 0, none⟩), .slice a L c, .int .i64 (m : Nat)] w fun e w' => ∃ a', e = .returned (.tuple #[.pointer a', .int .i64 0]) ∧ Mx w' a' L m (mat (vdm X) L m) ∧ Below w.heap.size w w' := by
  have hbd := hp.bd
  have hb2 : Below w.heap.size w ((w.alloc (.cells #[.pointer (some ⟨fb, 0, none⟩)] 25)).alloc (.cells #[.slice a L c] 22)) := ((Below.refl w.heap.size w).alloc (Nat.le_refl _) _).alloc (by simp) _
  have hA := Lib.hid (show ((w.alloc (.cells #[.pointer (some ⟨fb, 0, none⟩)] 25)).alloc (.cells #[.slice a L c] 22)).cell? ⟨w.heap.size, 0, none⟩ = some (.pointer (some ⟨fb, 0, none⟩)) from ((((Below.refl _ _).alloc (Nat.le_refl _) _).cell (p := ⟨w.heap.size, 0, none⟩) (by simp)).trans (lit_one w _ _)))
  have hB := Lib.hid (show ((w.alloc (.cells #[.pointer (some ⟨fb, 0, none⟩)] 25)).alloc (.cells #[.slice a L c] 22)).cell? ⟨w.heap.size + 1, 0, none⟩ = some (.slice a L c) from by
    have h := lit_one (w.alloc (.cells #[.pointer (some ⟨fb, 0, none⟩)] 25)) (.slice a L c) 22
    rw [show (w.alloc (.cells #[.pointer (some ⟨fb, 0, none⟩)] 25)).heap.size = w.heap.size + 1 by simp] at h
    exact h)
  have hFL := Lib.hid (filled_any L m 41 #[.pointer (some ⟨w.heap.size, 0, none⟩), .pointer (some ⟨w.heap.size + 1, 0, none⟩)] (vdm X) _ hL hm (enters_of Try.func41 (by kernel_rfl) rfl) (fun W i j hW hi hj =>
    vdm1_any w.heap.size (w.heap.size + 1) fb a L c X W i j ((hW.cell (p := ⟨w.heap.size, 0, none⟩) (by first | (simp; done) | (simp; omega))).trans hA.out) ((hW.cell (p := ⟨w.heap.size + 1, 0, none⟩) (by first | (simp; done) | (simp; omega))).trans hB.out) ((hf.below hb2).below hW) ((hp.on hb2).on hW) hi (by omega)))
  have HB2 := Lib.hid hb2
  clear hf hp hb2
  go_enter Try.func15, Try.ntmps15
  go_wp2_with (first
    | (go_at_call 31; with_reducible refine (fits_yes L _ hL).mono ?_; rintro e w' ⟨rfl, rfl⟩)
    | (go_at_call 31; with_reducible refine (fits_yes m _ hm).mono ?_; rintro e w' ⟨rfl, rfl⟩)
    | (go_at_call 32; go_loud (refine hFL.out.mono ?_); rintro e w7 ⟨a7, rfl, hm7, hb7⟩; have HM7 := Lib.hid hm7; have HB7 := Lib.hid hb7; clear hm7 hb7))
  go_ret2
  exact ⟨a7, rfl, HM7.out, bt HB2.out HB7.out⟩

theorem own_12 (w : World) : (w.alloc (.cells #[.int .u8 1, .int .u8 2] 5)).ownsRow w.heap.size 5 1 (.slice (some ⟨w.heap.size, 0, none⟩) 2 2) 2 ((iL [toG 1, toG 2]).map (Value.int .u8)) :=
  World.ownsRow_lit (base := w.heap.size) (e := 5) (size := 1) w #[.int .u8 1, .int .u8 2] 2 (Nat.le_refl _) (by unfold maxLen; omega) rfl
theorem vdm12 : iL (rw_ (mat (vdm [toG 1, toG 2]) 2 2) 1) = [1, 2] := by decide +kernel
theorem str12 : strOfNums [1, 2] = { data := #[1, 2] } := by decide +kernel
theorem Pa.strM {w : World} {a : Option Addr} {n c : Nat} {P : List GF} (h : Pa w a n c P) : (convert 22 9 (.slice a n c)).run Try.prog w = .ok (.string (strOfNums (iL P))) w :=
  h.1.2.2.1.str h.1.1 Try.underlying22 Try.underlying5 Try.underlying9
set_option maxHeartbeats 1000000 in
theorem livesM_any (w : World) : Calls Try.prog 8 #[] w fun e w' => e = .returned (.bool true) ∧ Below w.heap.size w w' := by
  go_enter Try.func8, Try.ntmps8
  go_wp2_with (first
    | (go_at_call 9; refine (new_any _).mono ?_; rintro e w1 ⟨b, rfl, hb0, hf, hbel⟩; have HF := Lib.hid hf; have HB := Lib.hid hbel; clear hf hbel)
    | (go_at_call 15; go_loud (refine (vandermonde_ok b _ 2 2 2 [toG 1, toG 2] _ (HF.out.below ((Below.refl _ _).alloc (Nat.le_refl _) _)) (pa_own (own_12 w1)) (by omega) (by omega)).mono ?_); rintro e w2 ⟨a2, rfl, hm2, hb2⟩; have HM2 := Lib.hid hm2; have HB2 := Lib.hid hb2; clear hm2 hb2)
    | (go_at_call 29; go_loud (refine (row_any a2 2 2 _ 1 _ HM2.out (by omega)).mono ?_); rintro e w3 ⟨v3, rfl, ho3, hb3⟩; obtain ⟨a3, c3, hv3, hp3, _⟩ := Pa.own ho3; subst hv3; have hcv := hp3.strM; rw [vdm12, str12] at hcv; have HB3 := Lib.hid hb3; clear ho3 hp3 hb3))
  go_ret
  exact ⟨rfl, bt HB.out (bt ((Below.refl _ _).alloc (Nat.le_refl _) _) (bt HB2.out HB3.out))⟩

theorem rows_nil (w : World) : Calls Try.prog 16 #[.pointer none] w fun e w' => e = .returned (.slice none 0 0) ∧ w = w' := by
  go_enter Try.func16, Try.ntmps16
  go_wp2_with (go_at_call 34; refine (size_nil _).mono ?_; rintro e w' ⟨rfl, rfl⟩)
  refine wp_loop_rounds 1 ?_
  rw [rounds_succ]
  go_wp2
  go_ret
  exact ⟨rfl, rfl⟩
theorem take_row {M : List (List GF)} {i : Nat} (h : i < M.length) : M.take i ++ [rw_ M i] = M.take (i + 1) := by
  rw [← List.take_append_getElem h]
  congr 2
  unfold rw_; simp [List.getD_eq_getElem?_getD, List.getElem?_eq_getElem h]
set_option maxHeartbeats 1000000 in
theorem rows_any (a : Option Addr) (n m : Nat) (M : List (List GF)) (w : World) (h : Mx w a n m M) :
    Calls Try.prog 16 #[.pointer a] w fun e w' => ∃ v vs, e = .returned v ∧ w'.ownsRow w.heap.size 22 1 v n vs ∧ RV8 w' vs M ∧ Below w.heap.size w w' := by
  have H := Lib.hid h
  have hbd := h.bd
  obtain ⟨i22, hi, hz0, hz1, hz2⟩ := info_parts info22
  have HI := Lib.hid (And.intro hi (And.intro hz0 (And.intro hz1 hz2)))
  have HL := Lib.hid h.len
  have HW := Lib.hid h.wide
  clear hi hz0 hz1 hz2 h
  go_enter Try.func16, Try.ntmps16
  go_wp2_with (go_at_call 34; refine (size_any _ _ _ _ _ H.out).mono ?_; rintro e w' ⟨rfl, q0, rfl⟩)
  go_loopw [13, 3] (fun j o wr => ∃ (i : Nat) (ao : Option Addr) (cc : Nat) (vs : List Value), i ≤ n ∧ j = .int .i64 (i : Nat) ∧ o = .slice ao (i : Nat) cc ∧ Hid (wr.ownsRow w.heap.size 22 1 (.slice ao (i : Nat) cc) i vs) ∧ Hid (RV8 wr vs (M.take i)) ∧ Hid (Below w.heap.size w wr))
    (fun j _ _ => n - (intOf j).toNat)
  case atStart => exact ⟨0, none, 0, [], Nat.zero_le _, rfl, rfl, Lib.hid (World.ownsRow_nil _ _ _ _), Lib.hid (RV.nil _ _), Lib.hid (below_drewN (Below.refl _ _) q0)⟩
  case round =>
    obtain ⟨i, ao, cc, vs, hi, rfl, rfl, hO, hV, hB⟩ := hrel
    by_cases hlt : i < n
    · have qi : (i : Int) < (n : Int) := by omega
      have qi0 : (0 : Int) ≤ (i : Int) := by omega
      have HROW := Lib.hid (row_any a n m M i wr (H.out.on hB.out) hlt)
      have HLEN := Lib.hid (HW.out i (by rw [HL.out]; exact hlt))
      have HT := Lib.hid (take_row (M := M) (i := i) (by rw [HL.out]; exact hlt))
      rename World => w1
      go_wp2_with (first
        | (go_at_call 29; go_loud (refine HROW.out.mono ?_); rintro e w2 ⟨v2, rfl, ho2, hb2⟩; have h4 := ho2; obtain ⟨a2, c2, hv2⟩ := own_slice ho2; subst hv2; rw [← HLEN.out] at h4; have h5 := (hV.out.below hb2).more h4; rw [HLEN.out, HT.out] at h5; have HV2 := Lib.hid h5; have HO2 := Lib.hid (own_below hO.out hb2); have HB2 := Lib.hid (bt hB.out hb2); clear ho2 hb2 h4 h5)
        | ((with_reducible show wpList _ _ _ (⟨some 21, _, _, _, _, _⟩ :: _) _ _); go_loud (refine wpList_append_own _ rfl (.tmp 16) (.tmp 20) 27 rfl w.heap.size 22 i22 (.slice none 0 0) 1 24 Try.underlying27 HI.out.1 HI.out.2.1 HI.out.2.2.1 HI.out.2.2.2 rfl (by decide) _ i vs rfl (HO2.out.alloc _) _ 1 1 [_] rfl rfl (lit_cells _ _ _) (by intro u hu; cases List.mem_singleton.1 hu; rfl) (by unfold maxLen; omega) (by omega) (by have := HB2.out.size; simp; omega) ?_); go_loud (intro v1 wc hown1 hg1 _; have hbel := (HB2.out.alloc HB2.out.size (.cells #[.slice a2 m c2] 22)).grown hg1 (by have := HB2.out.size; simp; omega) (fun z hz => (HO2.out.lt z hz).1); have hrv := (HV2.out.below ((Below.refl _ _).alloc (Nat.le_refl _) (.cells #[.slice a2 m c2] 22))).grown (HO2.out.alloc _) hg1; obtain ⟨a1, c1, hv1⟩ := own_slice hown1; subst hv1; have HO1 := Lib.hid hown1; have HN1 := Lib.hid hbel; have HRV := Lib.hid hrv; clear hown1 hg1 hbel hrv)))
      go_roundw
      case rel => exact ⟨i + 1, a1, c1, _, by omega, by go_num, rfl, HO1, HRV, HN1⟩
      case measure => simp [intOf]; omega
    · obtain rfl : n = i := by omega
      have h1 := hV.out
      rw [List.take_of_length_le (by rw [HL.out]; exact Nat.le_refl _)] at h1
      have HV1 := Lib.hid h1
      clear h1
      go_wp2
      go_ret
      exact ⟨_, vs, rfl, hO.out, HV1.out, hB.out⟩
end Go.Proofs.Ytpoaimcioeopdaa
