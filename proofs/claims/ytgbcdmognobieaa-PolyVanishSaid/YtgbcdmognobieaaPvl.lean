/- The walk of PolyVanish. -/
import Derived.Test.YtgbcdmognobieaaPrules
import Derived.Deep.CutRange
namespace Go.Proofs.Ytgbcdmognobieaa
open Go.ChangeShapes Go.WideShapes Go.ChangeAt Go.RowKit Go.Shelf GF
set_option linter.unusedVariables false

theorem Pa.take {w : World} {a : Option Addr} {L cap : Nat} {P : List GF} (h : Pa w a L cap P) {m : Nat} (hm : m ≤ L) : Pa w a m cap (P.take m) := by
  have hl := h.len
  refine ⟨⟨by rw [length_iL, List.length_take, hl]; omega, allB_iL _, ?_, by have := h.1.2.2.2.1; omega, h.1.2.2.2.2⟩, h.2⟩
  have := h.1.2.2.1.take m
  rwa [← iL_take] at this
/-- Is x among the first k? -/
def inA (X : List GF) (x : GF) : Nat → Bool
  | 0 => false
  | k + 1 => inA X x k || (toI x == toI (co X k))
theorem inA_iff (X : List GF) (x : GF) : ∀ k, inA X x k = true ↔ ∃ j, j < k ∧ co X j = x := by
  intro k
  induction k with
  | zero => simp [inA]
  | succ k ih =>
    simp only [inA, Bool.or_eq_true, ih, beq_iff_eq]
    constructor
    · rintro (⟨j, hj, e⟩ | h)
      · exact ⟨j, by omega, e⟩
      · exact ⟨k, by omega, (toI_inj h).symm⟩
    · rintro ⟨j, hj, e⟩
      rcases Nat.lt_succ_iff_lt_or_eq.1 hj with h | h
      · exact .inl ⟨j, h, e⟩
      · subst h; exact .inr (by rw [e])
theorem inA_van (X : List GF) (x : GF) {L : Nat} (hl : X.length = L) : (toI (ev (vanA X L) x) == 0) = inA X x L := by
  rw [Bool.eq_iff_iff, inA_iff, beq_iff_eq, toI_eq_zero]
  exact ev_vanA L (by omega)

set_option maxRecDepth 100000 in
set_option maxHeartbeats 4000000 in
theorem polyVanish_core (a0 : Option Addr) (len0 cap0 : Nat) (a1 : Option Addr) (len1 cap1 : Nat) (x : GF) (w : World) (X P : List GF)
    (hX : Pa w a0 len0 cap0 X) (hP : Pa w a1 len1 cap1 P) (h0 : len0 ≤ 40) (h1 : len1 ≤ 40) :
    Calls Try.prog 7 #[.slice a0 len0 cap0, .slice a1 len1 cap1, .int .u8 (toI x)] w fun e w' => e = .returned (.bool true) ∧ Below w.heap.size w w' := by
  have HX := Lib.hid hX
  have HP := Lib.hid hP
  have hl0 := Lib.hid hX.len
  have hl1 := Lib.hid hP.len
  have hb0 := hX.bd
  have hb1 := hP.bd
  have hEq := Lib.hid (inA_van X x hX.len)
  have qz : (toI (0 : GF) != 0) = false := rfl
  clear hX hP
  go_enter Try.func7, Try.ntmps7
  go_upto_region 6 with (first
    | (go_at_call 9; refine (lives_any _).mono ?_; rintro e w1 ⟨rfl, hB1⟩)
    | (go_at_call 10; refine (new_any _).mono ?_; rintro e w2 ⟨b, rfl, _, hf, hB2⟩; have HF := Lib.hid hf; have HB2 := Lib.hid (bt hB1 hB2); clear hf hB1 hB2)
    | (go_at_call 27; go_loud (refine (vanish_any b a0 len0 cap0 X _ HF.out (HX.out.on HB2.out) (by omega)).mono ?_); rintro e w3 ⟨g3, rfl, hown, hb3⟩; have HV := Lib.hid (Pa.own2 hown); have HB3 := Lib.hid (bt HB2.out hb3); have HF3 := Lib.hid (HF.out.below hb3); clear hown hb3)
    | fail)
  obtain ⟨M, hM⟩ : ∃ M, M = len0 + 1 := ⟨_, rfl⟩
  have HM := Lib.hid hM
  rw [← hM] at HV ⊢
  clear hM
  have hM40 : M ≤ 41 := by have := HM.out; omega
  have HX3 := Lib.hid (HX.out.on HB3.out)
  have HP3 := Lib.hid (HP.out.on HB3.out)
  have HEv := Lib.hid (fun (k : Nat) (hk : k < len0) => eval_on b (some ⟨g3, 0, none⟩) M M (vanA X len0) (co X k) 0 w3 HF3.out HV.out (by omega) ((ev_vanA len0 (by rw [hl0.out]; exact Nat.le_refl _)).2 ⟨k, hk, rfl⟩))
  have HEx := Lib.hid (eval_on b (some ⟨g3, 0, none⟩) M M (vanA X len0) x _ w3 HF3.out HV.out (by omega) rfl)
  have HDg := Lib.hid (fun (W : World) (hW : Below w3.heap.size w3 W) => (degree_any (some ⟨g3, 0, none⟩) M M (vanA X len0) W (HV.out.on hW).1 (by omega)).mono (R' := fun e w' => e = .returned (.int .i64 (len0 : Int)) ∧ Below w3.heap.size w3 w') (fun e w' ⟨h1, h2⟩ => ⟨by rw [h1, tr_vanA, length_vanA]; exact ret_int (by omega), bt hW h2⟩))
  go_wp2
  go_loopw [40, 10] (fun j o wr => ∃ k : Nat, k ≤ len0 ∧ j = .int .i64 (k : Nat) ∧ o = .bool (inA X x k) ∧ Hid (Below w3.heap.size w3 wr))
    (fun j _ _ => len0 - (intOf j).toNat)
  case atStart => exact ⟨0, Nat.zero_le _, rfl, rfl, Lib.hid (Below.refl _ _)⟩
  case round =>
    obtain ⟨k, hk, rfl, rfl, hB⟩ := hrel
    by_cases hlt : k < len0
    · obtain ⟨bx, ox, rfl, hbx, hcx⟩ := (HX3.out.on hB.out).at_ hlt
      have q5 : (k : Int) < (len0 : Int) := by omega
      have q6 : (0 : Int) ≤ (k : Int) := by omega
      have hin : inA X x (k + 1) = (inA X x k || (toI x == toI (co X k))) := rfl
      have HIn := Lib.hid hin
      have HEk := Lib.hid (HEv.out k hlt)
      clear hin
      obtain ⟨B, hBb⟩ : ∃ B, B = inA X x k := ⟨_, rfl⟩
      rw [← hBb] at HIn ⊢
      clear hBb
      cases B with
      | true =>
        go_wp2_with (go_at_call 13; refine (HEk.out _ hB.out).mono ?_; rintro e w6 ⟨rfl, hb6⟩)
        go_roundw
        case rel => exact ⟨k + 1, by omega, by go_num, by rw [HIn.out]; rfl, Lib.hid hb6⟩
        case measure => simp [intOf]; omega
      | false =>
        go_wp2_with (go_at_call 13; refine (HEk.out _ hB.out).mono ?_; rintro e w6 ⟨rfl, hb6⟩)
        go_roundw
        case rel => exact ⟨k + 1, by omega, by go_num, by rw [HIn.out, Bool.false_or], Lib.hid hb6⟩
        case measure => simp [intOf]; omega
    · obtain rfl : k = len0 := by omega
      have hBr := hB.out
      have q7 : (toI (ev (vanA X k) x) == 0) = inA X x k := hEq.out
      by_cases hE : plErr X = 0
      · have qe : (plErr X != 0) = false := by rw [hE]; rfl
        have HEz := Lib.hid hE
        clear HEv
        go_upto_region 18 with (first
          | (go_at_call 20; refine (HDg.out _ hBr).mono ?_; rintro e w6 ⟨rfl, hb6⟩)
          | (go_at_call 13; refine (HEx.out _ hb6).mono ?_; rintro e w7 ⟨rfl, hb7⟩)
          | (go_at_call 23; go_loud (refine (weights_any b a0 k cap0 X x _ (HF3.out.below hb7) (HX3.out.on hb7) HEz.out).mono ?_); rintro e w8 ⟨g8, rfl, hown, hb8⟩; have HW := Lib.hid (Pa.own2 hown); have HB8 := Lib.hid (bt HB3.out (bt hb7 hb8)); have HF8 := Lib.hid (HF3.out.below (bt hb7 hb8)); clear hown)
          | fail)
        have HX8 := Lib.hid (HX.out.on HB8.out)
        have HP8 := Lib.hid (HP.out.on HB8.out)
        go_cut [1] from 86 to 92 (fun c wx => (∃ m : Nat, m ≤ k ∧ m ≤ len1 ∧ c = .slice a1 m cap1) ∧ wx = w8)
        case first =>
          go_wp2
          all_goals
            go_meet
            exact ⟨⟨_, by omega, by omega, rfl⟩, rfl⟩
        case rest =>
          obtain ⟨⟨m, hm0, hm1, rfl⟩, rfl⟩ := hcut
          have HPm := Lib.hid (HP8.out.take hm1)
          have HEp := Lib.hid (fun (y : GF) => eval_on b a1 m cap1 (P.take m) y _ _ HF8.out HPm.out (by omega) rfl)
          have hfin := wt_sum (xs := X) (p := P.take m) (plErr_zero.1 hE).2.2 (fun j hj => co_ge (by rw [List.length_take]; have := hl0.out; omega)) x
          rw [hl0.out] at hfin
          have HFin := Lib.hid (show sm k (fun j => wt X j x * ev (P.take m) (co X j)) = ev (P.take m) x by rw [← hfin]; exact sm_congr fun j _ => GF.mul_comm _ _)
          clear hfin hE qe
          go_wp2
          go_loopw [95, 15] (fun j o wq => ∃ i : Nat, i ≤ k ∧ j = .int .i64 (i : Nat) ∧ o = .int .u8 (toI (sm i (fun j => wt X j x * ev (P.take m) (co X j)))) ∧ Hid (Below wc.heap.size wc wq))
            (fun j _ _ => k - (intOf j).toNat)
          case atStart => exact ⟨0, Nat.zero_le _, rfl, rfl, Lib.hid (Below.refl _ _)⟩
          case round =>
            obtain ⟨i, hi, rfl, rfl, hBq⟩ := hrel
            by_cases hlti : i < k
            · obtain ⟨bx, ox, rfl, hbx, hcx⟩ := (HX8.out.on hBq.out).at_ hlti
              obtain ⟨bw, ow, he, hbw, hcw⟩ := HW.out.at_ hlti
              cases he
              rw [co_wts x (by rw [hl0.out]; exact hlti), Nat.zero_add] at hcw
              have q8 : (i : Int) < (k : Int) := by omega
              have q9 : (0 : Int) ≤ (i : Int) := by omega
              have hsm : sm (i + 1) (fun j => wt X j x * ev (P.take m) (co X j)) = sm i (fun j => wt X j x * ev (P.take m) (co X j)) + wt X i x * ev (P.take m) (co X i) := rfl
              have HSm := Lib.hid hsm
              have HEi := Lib.hid (HEp.out (co X i))
              clear hsm
              obtain ⟨Z, hZ⟩ : ∃ Z, Z = sm i (fun j => wt X j x * ev (P.take m) (co X j)) := ⟨_, rfl⟩
              rw [← hZ] at HSm ⊢
              clear hZ
              have hcw2 : wr.drew.cell? ⟨g8, i, none⟩ = some (.int .u8 (toI (wt X i x))) := (hBq.out.cell (p := ⟨g8, i, none⟩) hbw).trans hcw
              have hbd : Below wc.heap.size wc wr.drew := hBq.out.drew
              go_upto_region 23 with fail
              go_region_held (fun W => W.cell? ⟨g8, i, none⟩ = some (.int .u8 (toI (wt X i x))) ∧ Below wc.heap.size wc W) (first | exact ⟨hcw2, hbd⟩ | assumption | exact ⟨(hb9.cell (p := ⟨g8, i, none⟩) hbw).trans hcw, hb9⟩)
                (first
                  | (go_at_call 13; refine (HEi.out _ hbd).mono ?_; rintro e w9 ⟨rfl, hb9⟩)
                  | (go_at_call 15; refine (mul_G _ _ _ _ (HF8.out.below hb9)).mono ?_; rintro e w' ⟨rfl, rfl⟩)
                  | (go_at_call 14; refine (add_G _ _ _).mono ?_; rintro e w' ⟨rfl, rfl⟩))
              all_goals
                go_wp2
                go_roundw
                case rel => exact ⟨i + 1, by omega, by go_num, by rw [HSm.out], Lib.hid hb9⟩
                case measure => simp [intOf]; omega
            · obtain rfl : i = k := by omega
              rw [HFin.out]
              have hBq2 := hBq.out
              have HEf := Lib.hid (HEp.out x)
              go_wp2_with (go_at_call 13; refine (HEf.out _ hBq2).mono ?_; rintro e w9 ⟨rfl, hb9⟩)
              go_ret
              exact ⟨rfl, bt HB8.out hb9⟩
      · have qe : (plErr X != 0) = true := by rw [bne_iff_ne]; exact hE
        go_wp2_with (first
          | (go_at_call 20; refine (HDg.out _ hBr).mono ?_; rintro e w6 ⟨rfl, hb6⟩)
          | (go_at_call 13; refine (HEx.out _ hb6).mono ?_; rintro e w7 ⟨rfl, hb7⟩)
          | (go_at_call 23; refine (weights_bad b a0 k cap0 X x _ (HX3.out.on hb7) hE).mono ?_; rintro e w8 ⟨rfl, hb8⟩))
        go_ret
        exact ⟨rfl, bt HB3.out (bt hb7 hb8)⟩

theorem polyVanish_walk (a0 : Option Addr) (len0 cap0 : Nat) (a1 : Option Addr) (len1 cap1 : Nat) (x : Int) (w : World) (w0 : ∃ l, Arg8c w a0 len0 cap0 l) (w1 : ∃ l, Arg8c w a1 len1 cap1 l) (w2 : (Lit.int .u8 x).wf = true) :
    Calls Try.prog 7 #[.slice a0 len0 cap0, .slice a1 len1 cap1, .int .u8 x] w fun e w' => e = .returned (.bool true) ∧ Below w.heap.size w w' := by
  obtain ⟨l, hl⟩ := w0
  obtain ⟨m, hm⟩ := w1
  obtain ⟨x, rfl⟩ := toG_of w2
  have b0 := (Pa.of hl).bd
  have b1 := (Pa.of hm).bd
  by_cases h0 : len0 ≤ 40
  · by_cases h1 : len1 ≤ 40
    · exact polyVanish_core a0 len0 cap0 a1 len1 cap1 x w _ _ (Pa.of hl) (Pa.of hm) h0 h1
    · clear hl hm w2
      have q : (40 : Int) < (len1 : Int) := by omega
      go_enter Try.func7, Try.ntmps7
      go_wp2_with (go_at_call 9; refine (lives_any _).mono ?_; rintro e w' ⟨rfl, hbel⟩)
      go_ret
      exact ⟨rfl, bt (by assumption) (by assumption)⟩
  · clear hl hm w2
    have q : (40 : Int) < (len0 : Int) := by omega
    go_enter Try.func7, Try.ntmps7
    go_wp2_with (go_at_call 9; refine (lives_any _).mono ?_; rintro e w' ⟨rfl, hbel⟩)
    go_ret
    exact ⟨rfl, bt (by assumption) (by assumption)⟩
end Go.Proofs.Ytgbcdmognobieaa
