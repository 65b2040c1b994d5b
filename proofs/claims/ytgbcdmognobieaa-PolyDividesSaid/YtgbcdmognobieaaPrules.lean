/- The walk of PolyRules. -/
import Derived.Test.YtgbcdmognobieaaPlives
import Derived.Deep.RegionHeld
import Derived.Deep.Cut
namespace Go.Proofs.Ytgbcdmognobieaa
open Go.ChangeShapes Go.WideShapes Go.ChangeAt Go.RowKit Go.Shelf GF
set_option linter.unusedVariables false

theorem toG_of {x : Int} (h : (Lit.int .u8 x).wf = true) : ∃ g : GF, x = toI g := ⟨toG x, (toI_toG (wf_u8 h)).symm⟩
theorem Pa.bd {w : World} {a : Option Addr} {L cap : Nat} {P : List GF} (h : Pa w a L cap P) : L ≤ cap ∧ cap ≤ 9223372036854775807 := ⟨h.1.2.2.2.1, by have := h.1.2.2.2.2; unfold maxLen at this; omega⟩
/-- Eval in whatever world comes after. -/
theorem eval_on (b : Nat) (a : Option Addr) (L cap : Nat) (P : List GF) (x y : GF) (w0 : World) (hf : Fld w0 b) (hx : Pa w0 a L cap P) (hL : L ≤ 140737488355328) (hy : ev P x = y) : ∀ W, Below w0.heap.size w0 W →
    Calls Try.prog 13 #[.pointer (some ⟨b, 0, none⟩), .slice a L cap, .int .u8 (toI x)] W fun e w' => e = .returned (.int .u8 (toI y)) ∧ Below w0.heap.size w0 w' := fun W hW => by
  subst hy
  refine (eval_8 b a L cap P x W (hf.below hW) (hx.on hW).1 hL).mono ?_
  rintro e w' ⟨rfl, hb⟩
  exact ⟨rfl, bt hW hb⟩
/-- What a row reads as, as a string, in whatever world comes after. -/
theorem Pa.str_on {w0 : World} {a : Option Addr} {n c : Nat} {P Q : List GF} (h : Pa w0 a n c P) (e : P = Q) : ∀ W, Below w0.heap.size w0 W → (convert 22 9 (.slice a n c)).run Try.prog W = .ok (.string (strOfNums (iL Q))) W := fun W hW => by
  subst e
  exact (h.on hW).str
/-- A slice out of a row of one's own. -/
theorem own_pa {w : World} {base : Nat} {e : TypeId} {v : Value} {n : Nat} {P : List GF} (h : w.ownsRow base e 1 v n ((iL P).map (Value.int .u8))) : ∃ a c, v = .slice a n c ∧ Pa w a n c P := by
  obtain ⟨a, c, e, hp, _⟩ := Pa.own h
  exact ⟨a, c, e, hp⟩

theorem mulL_len (P Q : List GF) : (mulL P Q).length ≤ P.length + Q.length := by
  induction P with
  | nil => simp [mulL]
  | cons a P ih => simp only [mulL]; rw [length_addL]; simp [smulL]; omega
theorem rules_eq (P Q O : List GF) : tr (addL (tr (mulL P O)) (tr (mulL Q O))) = tr (mulL (tr (addL P Q)) O) := by
  apply tr_ext
  intro k
  rw [co_addL, co_tr, co_tr, ← co_addL, ← co_tr (addL _ _), ← tr_mulL_add, co_tr, co_mulL, co_mulL]
  exact sm_congr fun i _ => by rw [co_tr]

set_option maxRecDepth 100000 in
set_option maxHeartbeats 4000000 in
theorem polyRules_core (a0 : Option Addr) (len0 cap0 : Nat) (a1 : Option Addr) (len1 cap1 : Nat) (a2 : Option Addr) (len2 cap2 : Nat) (x : GF) (w : World) (P Q O : List GF)
    (hP : Pa w a0 len0 cap0 P) (hQ : Pa w a1 len1 cap1 Q) (hO : Pa w a2 len2 cap2 O) (h0 : len0 ≤ 60) (h1 : len1 ≤ 60) (h2 : len2 ≤ 60) :
    Calls Try.prog 3 #[.slice a0 len0 cap0, .slice a1 len1 cap1, .slice a2 len2 cap2, .int .u8 (toI x)] w fun e w' => e = .returned (.bool true) ∧ Below w.heap.size w w' := by
  have HP := Lib.hid hP
  have HQ := Lib.hid hQ
  have HO := Lib.hid hO
  have e1 := Lib.hid (show ev (tr (addL P Q)) x = ev P x + ev Q x by rw [ev_tr, ev_addL])
  have e2 := Lib.hid (show ev (tr (mulL P Q)) x = ev P x * ev Q x by rw [ev_tr, ev_mulL])
  have e3 := Lib.hid (rules_eq P Q O)
  have e4 := Lib.hid (show tr (addL Q P) = tr (addL P Q) from tr_addL_comm Q P)
  have hls : (tr (addL P Q)).length ≤ 60 := by
    have := tr_len_le (addL P Q)
    rw [length_addL, hP.len, hQ.len] at this
    omega
  clear hP hQ hO
  go_enter Try.func3, Try.ntmps3
  go_upto_region 6 with (first
    | (go_at_call 9; refine (lives_any _).mono ?_; rintro e w1 ⟨rfl, hB1⟩)
    | (go_at_call 10; refine (new_any _).mono ?_; rintro e w2 ⟨b, rfl, _, hf, hB2⟩; have HF := Lib.hid hf; have HB2 := Lib.hid (bt hB1 hB2); clear hf hB1 hB2)
    | (go_at_call 11; go_loud (refine (mul_any b a0 len0 cap0 P a1 len1 cap1 Q _ HF.out (HP.out.on HB2.out) (HQ.out.on HB2.out) (by omega)).mono ?_); rintro e w3 ⟨v3, rfl, hown, hb3⟩; obtain ⟨a3, c3, rfl, hp3⟩ := own_pa hown; have HM := Lib.hid hp3; have HB3 := Lib.hid (bt HB2.out hb3); have HF3 := Lib.hid (HF.out.below hb3); clear hown hp3 hb3)
    | (go_at_call 12; go_loud (refine (padd_any a0 len0 cap0 P a1 len1 cap1 Q _ (HP.out.on HB3.out) (HQ.out.on HB3.out) (by omega) (by omega)).mono ?_); rintro e w4 ⟨v4, rfl, hown, hb4⟩; obtain ⟨a4, c4, rfl, hp4⟩ := own_pa hown; have HS := Lib.hid hp4; have HB4 := Lib.hid (bt HB3.out hb4); have HF4 := Lib.hid (HF3.out.below hb4); have HM4 := Lib.hid (HM.out.on hb4); clear hown hp4 hb4)
    | fail)
  have HE1 := Lib.hid (eval_on b a4 _ c4 _ x _ _ HF4.out HS.out (by omega) e1.out)
  have HE2 := Lib.hid (eval_on b a0 len0 cap0 P x _ _ HF4.out (HP.out.on HB4.out) (by omega) rfl)
  have HE3 := Lib.hid (eval_on b a1 len1 cap1 Q x _ _ HF4.out (HQ.out.on HB4.out) (by omega) rfl)
  have HE4 := Lib.hid (eval_on b a3 _ c3 _ x _ _ HF4.out HM4.out (by have := HM4.out.len; have := tr_len_le (mulL P Q); have h5 := mulL_len P Q; have := HP.out.len; have := HQ.out.len; omega) e2.out)
  have hbE := Below.refl w4.heap.size w4
  go_upto_region 8 with (first
    | (go_at_call_of 13 (Value.slice a4 (tr (addL P Q)).length c4); go_loud (refine (HE1.out _ (by assumption)).mono ?_); rintro e wE ⟨rfl, hbE⟩)
    | (go_at_call_of 13 (Value.slice a0 len0 cap0); go_loud (refine (HE2.out _ (by assumption)).mono ?_); rintro e wE ⟨rfl, hbE⟩)
    | (go_at_call_of 13 (Value.slice a1 len1 cap1); go_loud (refine (HE3.out _ (by assumption)).mono ?_); rintro e wE ⟨rfl, hbE⟩)
    | (go_at_call_of 13 (Value.slice a3 (tr (mulL P Q)).length c3); go_loud (refine (HE4.out _ (by assumption)).mono ?_); rintro e wE ⟨rfl, hbE⟩)
    | (go_at_call 14; refine (add_G _ _ _).mono ?_; rintro e w' ⟨rfl, rfl⟩)
    | (go_at_call 15; refine (mul_G _ _ _ _ (HF4.out.below (by assumption))).mono ?_; rintro e w' ⟨rfl, rfl⟩)
    | fail)
  have HBE := Lib.hid (bt HB4.out hbE)
  have HFE := Lib.hid (HF4.out.below hbE)
  have HSE := Lib.hid (HS.out.on hbE)
  clear HE1 HE2 HE3 HE4
  go_upto_region 11 with (first
    | (go_at_call_of 11 (Value.slice a4 (tr (addL P Q)).length c4); go_loud (refine (mul_any b a4 _ c4 _ a2 len2 cap2 O _ HFE.out HSE.out (HO.out.on HBE.out) (by omega)).mono ?_); rintro e w5 ⟨v5, rfl, hown, hb5⟩; obtain ⟨a5, c5, rfl, hp5⟩ := own_pa hown; have HA := Lib.hid hp5; have HB5 := Lib.hid (bt HBE.out hb5); have HF5 := Lib.hid (HFE.out.below hb5); have HS5 := Lib.hid (HSE.out.on hb5); clear hown hp5 hb5)
    | (go_at_call_of 11 (Value.slice a0 len0 cap0); go_loud (refine (mul_any b a0 len0 cap0 P a2 len2 cap2 O _ HF5.out (HP.out.on HB5.out) (HO.out.on HB5.out) (by omega)).mono ?_); rintro e w6 ⟨v6, rfl, hown, hb6⟩; obtain ⟨a6, c6, rfl, hp6⟩ := own_pa hown; have HBm := Lib.hid hp6; have HB6 := Lib.hid (bt HB5.out hb6); have HF6 := Lib.hid (HF5.out.below hb6); have HA6 := Lib.hid (HA.out.on hb6); have HS6 := Lib.hid (HS5.out.on hb6); clear hown hp6 hb6)
    | (go_at_call_of 11 (Value.slice a1 len1 cap1); go_loud (refine (mul_any b a1 len1 cap1 Q a2 len2 cap2 O _ HF6.out (HQ.out.on HB6.out) (HO.out.on HB6.out) (by omega)).mono ?_); rintro e w7 ⟨v7, rfl, hown, hb7⟩; obtain ⟨a7, c7, rfl, hp7⟩ := own_pa hown; have HCm := Lib.hid hp7; have HB7 := Lib.hid (bt HB6.out hb7); have HF7 := Lib.hid (HF6.out.below hb7); have HA7 := Lib.hid (HA6.out.on hb7); have HBm7 := Lib.hid (HBm.out.on hb7); have HS7 := Lib.hid (HS6.out.on hb7); clear hown hp7 hb7)
    | fail)
  have hcvA := HA7.out.str_on rfl
  have hcvS := HS7.out.str_on rfl
  have hL6 : (tr (mulL P O)).length ≤ 140737488355328 := by have := tr_len_le (mulL P O); have := mulL_len P O; have := HP.out.len; have := HO.out.len; omega
  have hL7 : (tr (mulL Q O)).length ≤ 140737488355328 := by have := tr_len_le (mulL Q O); have := mulL_len Q O; have := HQ.out.len; have := HO.out.len; omega
  have hadd1 : ∀ W, Below w7.heap.size w7 W → Calls Try.prog 12 #[.slice a6 (tr (mulL P O)).length c6, .slice a7 (tr (mulL Q O)).length c7] W fun e w' => ∃ a c, e = .returned (.slice a (tr (mulL (tr (addL P Q)) O)).length c) ∧ Pa w' a (tr (mulL (tr (addL P Q)) O)).length c (tr (mulL (tr (addL P Q)) O)) ∧ Below w7.heap.size w7 w' := fun W hW => by
    refine (padd_any a6 _ c6 _ a7 _ c7 _ W (HBm7.out.on hW) (HCm.out.on hW) hL6 hL7).mono ?_
    rintro e w' ⟨v, rfl, hown, hb⟩
    rw [e3.out] at hown
    obtain ⟨a, c, rfl, hp⟩ := own_pa hown
    exact ⟨a, c, rfl, hp, bt hW hb⟩
  have hadd2 : ∀ W, Below w7.heap.size w7 W → Calls Try.prog 12 #[.slice a1 len1 cap1, .slice a0 len0 cap0] W fun e w' => ∃ a c, e = .returned (.slice a (tr (addL P Q)).length c) ∧ Pa w' a (tr (addL P Q)).length c (tr (addL P Q)) ∧ Below w7.heap.size w7 w' := fun W hW => by
    refine (padd_any a1 _ cap1 _ a0 _ cap0 _ W ((HQ.out.on HB7.out).on hW) ((HP.out.on HB7.out).on hW) (by omega) (by omega)).mono ?_
    rintro e w' ⟨v, rfl, hown, hb⟩
    rw [e4.out] at hown
    obtain ⟨a, c, rfl, hp⟩ := own_pa hown
    exact ⟨a, c, rfl, hp, bt hW hb⟩
  have HAdd1 := Lib.hid hadd1
  have HAdd2 := Lib.hid hadd2
  clear hadd1 hadd2
  go_wp2_with fail
  go_region_held (fun W => Below w7.heap.size w7 W) (first | exact (Below.refl _ _).drew | assumption)
    (first
      | (go_at_call_of 12 (Value.slice a6 (tr (mulL P O)).length c6); refine (HAdd1.out _ (by assumption)).mono ?_; rintro e w8 ⟨a8, c8, rfl, hp8, hb8⟩; have hcv8 := hp8.str)
      | (go_at_call_of 12 (Value.slice a1 len1 cap1); refine (HAdd2.out _ (by assumption)).mono ?_; rintro e w9 ⟨a9, c9, rfl, hp9, hb9⟩; have hcv9 := hp9.str))
  go_wp2
  go_ret
  exact ⟨rfl, bt HB7.out hb9⟩

/-- A law at a slice that is too long. -/
theorem polyRules_walk (a0 : Option Addr) (len0 cap0 : Nat) (a1 : Option Addr) (len1 cap1 : Nat) (a2 : Option Addr) (len2 cap2 : Nat) (x : Int) (w : World) (w0 : ∃ l, Arg8c w a0 len0 cap0 l) (w1 : ∃ l, Arg8c w a1 len1 cap1 l) (w2 : ∃ l, Arg8c w a2 len2 cap2 l) (w3 : (Lit.int .u8 x).wf = true) :
    Calls Try.prog 3 #[.slice a0 len0 cap0, .slice a1 len1 cap1, .slice a2 len2 cap2, .int .u8 x] w fun e w' => e = .returned (.bool true) ∧ Below w.heap.size w w' := by
  obtain ⟨l, hl⟩ := w0
  obtain ⟨m, hm⟩ := w1
  obtain ⟨n, hn⟩ := w2
  obtain ⟨x, rfl⟩ := toG_of w3
  have b0 := (Pa.of hl).bd
  have b1 := (Pa.of hm).bd
  have b2 := (Pa.of hn).bd
  by_cases h0 : len0 ≤ 60
  · by_cases h1 : len1 ≤ 60
    · by_cases h2 : len2 ≤ 60
      · exact polyRules_core a0 len0 cap0 a1 len1 cap1 a2 len2 cap2 x w _ _ _ (Pa.of hl) (Pa.of hm) (Pa.of hn) h0 h1 h2
      · clear hl hm hn w3
        have q : (60 : Int) < (len2 : Int) := by omega
        go_enter Try.func3, Try.ntmps3
        go_wp2_with (go_at_call 9; refine (lives_any _).mono ?_; rintro e w' ⟨rfl, hbel⟩)
        go_ret
        exact ⟨rfl, bt (by assumption) (by assumption)⟩
    · clear hl hm hn w3
      have q : (60 : Int) < (len1 : Int) := by omega
      go_enter Try.func3, Try.ntmps3
      go_wp2_with (go_at_call 9; refine (lives_any _).mono ?_; rintro e w' ⟨rfl, hbel⟩)
      go_ret
      exact ⟨rfl, bt (by assumption) (by assumption)⟩
  · clear hl hm hn w3
    have q : (60 : Int) < (len0 : Int) := by omega
    go_enter Try.func3, Try.ntmps3
    go_wp2_with (go_at_call 9; refine (lives_any _).mono ?_; rintro e w' ⟨rfl, hbel⟩)
    go_ret
    exact ⟨rfl, bt (by assumption) (by assumption)⟩
end Go.Proofs.Ytgbcdmognobieaa
