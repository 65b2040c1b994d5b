/- The walk of MendCorrects, under Column's contracts. -/
import Derived.Test.YtfmjfdbbjggcpaaRd
import Derived.Deep.QuietTactic
namespace Go.Proofs.Ytfmjfdbbjggcpaa
open Go.ChangeShapes Go.WideShapes Go.ChangeAt Go.RowKit Go.Shelf GF
set_option linter.unusedVariables false
set_option linter.unusedSimpArgs false
set_option maxRecDepth 100000

theorem takeM {w : World} {a : Option Addr} {L c : Nat} {P : List GF} (h : Pa w a L c P) {k : Nat} (hk : k ≤ L) : Pa w a k c (P.take k) := by
  have hl := h.len
  have hc := h.1.2.2.2
  refine ⟨⟨by rw [length_iL, List.length_take]; omega, allB_iL _, fun h0 => ?_, by omega, hc.2⟩, h.2⟩
  rw [length_iL, List.length_take] at h0
  obtain ⟨b, off, e, hb, hcl⟩ := h.1.2.2.1 (by rw [length_iL]; omega)
  refine ⟨b, off, e, hb, fun i hi => ?_⟩
  rw [length_iL, List.length_take] at hi
  have := hcl i (by rw [length_iL]; omega)
  rw [getD_iL] at this
  rw [getD_iL, co_take (by omega), ← this]
/-- uint(u) modulo d, as the walk may spell it. -/
theorem mod_bothM (u d : Int) (hd : 0 < d) : ∃ q : Nat, (IntKind.u64.wrap u).tmod d = (q : Int) ∧ (IntKind.u64.wrap u) % d = (q : Int) ∧ (q : Int) < d := by
  have h : IntKind.u64.wrap u = u % 18446744073709551616 := by rw [IntKind.wrap_u64]
  rw [h, Int.tmod_eq_emod_of_nonneg (by omega)]
  have h1 := Int.emod_nonneg (u % 18446744073709551616) (show d ≠ 0 by omega)
  have h2 := Int.emod_lt_of_pos (u % 18446744073709551616) hd
  exact ⟨((u % 18446744073709551616) % d).toNat, by omega, by omega, by omega⟩
/-- A polynomial's values. -/
def evY (P O : List GF) (i : Nat) : List GF := (List.range i).map fun k => ev P (co O k)
theorem evY_len (P O : List GF) (i : Nat) : (evY P O i).length = i := by simp [evY]
theorem evY_next (P O : List GF) (i : Nat) : evY P O (i + 1) = evY P O i ++ [ev P (co O i)] := by simp [evY, List.range_succ]
theorem evY_co {P O : List GF} {i k : Nat} (h : k < i) : co (evY P O i) k = ev P (co O k) := by
  show List.getD _ _ _ = _
  unfold evY; simp [List.getD_eq_getElem?_getD, h]
/-- What was changed is wrong. -/
theorem wr_df {O P Z : List GF} {m : Nat} (hO : O.length = m) : (wrL O Z P).length = (dfL (evY P O m) Z m).length := by
  unfold wrL dfL
  rw [hO]
  congr 1
  refine List.filter_congr fun k hk => ?_
  rw [evY_co (List.mem_range.1 hk)]
  by_cases h : ev P (co O k) = co Z k
  · simp [h]
  · simp [h, Ne.symm h]
set_option maxHeartbeats 8000000 in
theorem mendCorrects_core (hAll : ColAll) (u v z : Int) (lP : Nat) (aP : Option Addr) (cP : Nat) (P : List GF) (lX : Nat) (aX : Option Addr) (cX : Nat) (X : List GF) (lW : Nat) (aW : Option Addr) (cW : Nat) (Wr : List GF) (lB : Nat) (aB : Option Addr) (cB : Nat) (B : List GF) (w : World) (hP : Pa w aP lP cP P) (hX : Pa w aX lX cX X) (hW : Pa w aW lW cW Wr) (hB : Pa w aB lB cB B) (hlW : lW ≤ 40) :
    Calls Try.prog 4 #[.int .i64 u, .int .i64 v, .slice aP lP cP, .slice aX lX cX, .slice aW lW cW, .slice aB lB cB, .int .i64 z] w fun e w' => e = .returned (.bool true) ∧ Below w.heap.size w w' := by
  obtain ⟨i5, hi, hz0, hz1, hz2⟩ := info_parts info5
  have HI := Lib.hid (And.intro hi (And.intro hz0 (And.intro hz1 hz2)))
  have HLI := Lib.hid (lives10 hAll)
  have HA := Lib.hid hAll
  have HP := Lib.hid hP; have HX := Lib.hid hX; have HW := Lib.hid hW; have HB := Lib.hid hB
  have hbp := hP.bd; have hbx := hX.bd; have hbw := hW.bd; have hbb := hB.bd
  have HLW := Lib.hid hlW
  have q40 : ¬ (40 : Int) < (lW : Int) := by omega
  obtain ⟨r1, h1, h2, h3⟩ := mod_bothM u 8 (by omega)
  obtain ⟨r2, h4, h5, h6⟩ := mod_bothM v 13 (by omega)
  obtain ⟨T, hT⟩ : ∃ T, T = 1 + r1 := ⟨_, rfl⟩
  obtain ⟨M, hM⟩ : ∃ M, M = T + r2 := ⟨_, rfl⟩
  have HTM := Lib.hid (show 1 ≤ T ∧ T ≤ 8 ∧ T ≤ M ∧ M ≤ 20 from by omega)
  have e1 : ∀ [Inhabited Unit], (IntKind.u64.wrap u).tmod 8 = (r1 : Int) := fun [_] => h1
  have e2 : ∀ [Inhabited Unit], (IntKind.u64.wrap u) % 8 = (r1 : Int) := fun [_] => h2
  have e3 : ∀ [Inhabited Unit], IntKind.i64.wrap (r1 : Int) = (r1 : Int) := fun [_] => by rw [IntKind.wrap_i64]; omega
  have e4 : ∀ [Inhabited Unit], (IntKind.u64.wrap v).tmod 13 = (r2 : Int) := fun [_] => h4
  have e5 : ∀ [Inhabited Unit], (IntKind.u64.wrap v) % 13 = (r2 : Int) := fun [_] => h5
  have e6 : ∀ [Inhabited Unit], IntKind.i64.wrap (r2 : Int) = (r2 : Int) := fun [_] => by rw [IntKind.wrap_i64]; omega
  have qT : (1 : Int) + (r1 : Int) = (T : Int) := by omega
  have qM : (T : Int) + (r2 : Int) = (M : Int) := by omega
  have qT1 : (1 : Int) ≤ (T : Int) := by omega
  have qT8 : (T : Int) ≤ 8 := by omega
  have qM20 : (M : Int) ≤ 20 := by omega
  have qTM : (T : Int) ≤ (M : Int) := by omega
  have qr1 : (r1 : Int) ≤ 7 := by omega
  have qr2 : (r2 : Int) ≤ 12 := by omega
  clear hi hz0 hz1 hz2 hAll hP hX hW hB hlW h1 h2 h3 h4 h5 h6 hT hM
  go_enter Try.func4, Try.ntmps4
  go_upto_region 7 with (first
    | (go_at_call 6; go_loud (refine (HLI.out _).mono ?_; rintro e w1 ⟨rfl, hb⟩; have HB1 := Lib.hid hb; clear hb))
    | (go_at_call 8; go_loud (refine (new_any _).mono ?_; rintro e w2 ⟨b, rfl, hb0, hf, hbel⟩; have HF2 := Lib.hid hf; have HB2 := Lib.hid (bt HB1.out hbel); have HUN := Lib.hid (unlike8_any aX lX cX X M w2 (HX.out.on HB2.out) (by have := HTM.out; omega)); clear hf hbel hb0))
    | (go_at_call 11; go_loud (refine HUN.out.mono ?_; rintro e w3 ⟨aO, cO, O, rfl, hpo, hg, hol, hnew, hb3⟩; have HPO := Lib.hid hpo; have HG := Lib.hid hg; have HOL := Lib.hid hol; have HB3 := Lib.hid (bt HB2.out hb3); have HF3 := Lib.hid (HF2.out.below hb3); have hdo := hpo.bd; clear hpo hg hol hnew hb3)))
  clear e1 e2 e3 e4 e5 e6 qT qM
  by_cases hx : T < lP
  · as_aux_lemma =>
    have qx : (T : Int) < (lP : Int) := by omega
    have qx2 : (T : Int) ≤ (cP : Int) := by omega
    have qx0 : (0 : Int) ≤ (T : Int) := by omega
    obtain ⟨Q, hQ⟩ : ∃ Q, Q = tr (P.take T) := ⟨_, rfl⟩
    have HQ := Lib.hid (show tr Q = Q by rw [hQ, tr_tr])
    have HQL := Lib.hid (show Q.length ≤ T by rw [hQ]; have := tr_len_le (P.take T); rw [List.length_take] at this; omega)
    have HTR := Lib.hid (trim_any aP T cP (P.take T) w3 ((takeM HP.out (by omega)).on HB3.out) (by have := HTM.out; omega))
    rw [← hQ] at HTR
    clear hQ hx
    go_upto_region 10 with (go_at_call 12; go_loud (refine HTR.out.mono ?_; rintro e w4 ⟨v4, rfl, ho4, hb4⟩; obtain ⟨aQ, cQ, rfl, hpq, _⟩ := Pa.own ho4; have HPQ := Lib.hid hpq; have HB34 := Lib.hid hb4; have HB4 := Lib.hid (bt HB3.out hb4); have hdq := hpq.bd; clear ho4 hpq hb4))
    have HF4 := Lib.hid (HF3.out.below HB34.out)
    have HO4 := Lib.hid (HPO.out.on HB34.out)
    obtain ⟨nQ, hnQ⟩ : ∃ n, n = Q.length := ⟨_, rfl⟩
    have HNQ := Lib.hid hnQ
    rw [← hnQ] at HPQ hdq HQL ⊢
    clear hnQ
    go_loopw [18, 57] (fun o j V => ∃ (i : Nat) (a : Option Addr) (c : Nat), i ≤ M ∧ j = .int .i64 (i : Nat) ∧ o = .slice a i c ∧ Hid (V.ownsRow w4.heap.size 5 1 (.slice a i c) i ((iL (evY Q O i)).map (Value.int .u8))) ∧ Hid (Below w4.heap.size w4 V)) (fun _ j _ => M - (intOf j).toNat)
    case atStart => exact ⟨0, none, 0, Nat.zero_le _, rfl, rfl, Lib.hid (own_nilG _ _ _), Lib.hid (Below.refl _ _)⟩
    case round =>
      obtain ⟨i, a, c, hi, rfl, rfl, HO, HBV⟩ := hrel
      rename World => V
      by_cases hlt : i < M
      · obtain ⟨bo, oo, rfl, hbo, hco⟩ := (HO4.out.on HBV.out).at_ (k := i) hlt
        have qi : (i : Int) < (M : Int) := by omega
        have qi0 : (0 : Int) ≤ (i : Int) := by omega
        have HEV := Lib.hid (eval_8 b aQ nQ cQ Q (co O i) V (HF4.out.below HBV.out) (HPQ.out.on HBV.out).1 (by have := HQL.out; have := HTM.out; omega))
        have HLT := Lib.hid hlt
        have HNX := Lib.hid (evY_next Q O i)
        clear hlt hi hbo
        go_wp2_with (first
          | (go_at_call 13; go_loud (refine HEV.out.mono ?_; rintro e V2 ⟨rfl, hb5⟩; have HB5 := Lib.hid (bt HBV.out hb5); have HO5 := Lib.hid (own_belowV HO.out hb5); clear hb5))
          | ((with_reducible show wpList _ _ _ (⟨some 67, _, _, _, _, _⟩ :: _) _ _); go_loud (refine wpList_append_G1 rfl (.tmp 61) (.tmp 66) 22 rfl w4.heap.size 5 i5 Try.underlying22 HI.out.1 HI.out.2.1 HI.out.2.2.1 HI.out.2.2.2 (.slice a i c) i (evY Q O i) rfl HO5.out (ev Q (co O i)) 5 rfl (by have := HLT.out; have := HTM.out; omega) HB5.out.size ?_; intro g6 c6 V3 ho6 hb6; rw [← HNX.out] at ho6; have HO6 := Lib.hid ho6; have HB6 := Lib.hid (HB5.out.trans hb6); clear ho6 hb6)))
        go_roundw
        case rel => exact ⟨i + 1, _, c6, HLT.out, by go_num, rfl, HO6, HB6⟩
        case measure => simp [intOf]; have := HLT.out; omega
      · obtain rfl : i = M := by omega
        obtain ⟨aY, cY, ey, hpy, _⟩ := Pa.own HO.out
        cases ey
        have HPY := Lib.hid hpy
        have hdy := hpy.bd
        obtain ⟨D, hD⟩ : ∃ D, D = i - T := ⟨_, rfl⟩
        obtain ⟨H, hH⟩ : ∃ H, H = (D + 1) / 2 := ⟨_, rfl⟩
        obtain ⟨K, hK⟩ : ∃ K, K = H + 1 := ⟨_, rfl⟩
        obtain ⟨E, h1, h2, h3⟩ := mod_bothM z (K : Int) (by omega)
        have qD : (i : Int) - (T : Int) = (D : Int) := by have := HTM.out; omega
        have qD19 : (D : Int) ≤ 19 := by have := HTM.out; omega
        have qD1 : ∀ [Inhabited Unit], ((D : Int) + 1).tdiv 2 = (H : Int) := fun [_] => by rw [Int.tdiv_eq_ediv_of_nonneg (by omega)]; omega
        have qD2 : ∀ [Inhabited Unit], ((D : Int) + 1) / 2 = (H : Int) := fun [_] => by omega
        have qH : (H : Int) + 1 = (K : Int) := by omega
        have qH10 : (H : Int) ≤ 10 := by omega
        have qK11 : (K : Int) ≤ 11 := by omega
        have qK0 : ((K : Int) == 0) = false := by rw [beq_eq_false_iff_ne]; omega
        have qK1 : ¬ (K : Int) = 0 := by omega
        have qK2 : ¬ K = 0 := by omega
        have qK3 : ∀ [Inhabited Unit], IntKind.u64.wrap (K : Int) = (K : Int) := fun [_] => by rw [IntKind.wrap_u64]; omega
        have e1 : ∀ [Inhabited Unit], (IntKind.u64.wrap z).tmod (K : Int) = (E : Int) := fun [_] => h1
        have e2 : ∀ [Inhabited Unit], (IntKind.u64.wrap z) % (K : Int) = (E : Int) := fun [_] => h2
        have e3 : ∀ [Inhabited Unit], IntKind.i64.wrap (E : Int) = (E : Int) := fun [_] => by rw [IntKind.wrap_i64]; omega
        have HE := Lib.hid (show 2 * E ≤ D + 1 ∧ E ≤ 10 ∧ D = i - T from by omega)
        have HBW := Lib.hid (bt HB4.out HBV.out)
        have HSP := Lib.hid (spoil_any i lW lB E a c (evY Q O i) aW cW Wr aB cB B V hpy (HW.out.on HBW.out) (HB.out.on HBW.out) (by have := HTM.out; omega) (by have := HTM.out; omega) HLW.out (by have := HE.out; omega))
        clear hpy hD hH hK h1 h2 h3 hi hlt
        go_upto_region 16 with (go_at_call 14; go_loud (refine HSP.out.mono ?_; rintro e w7 ⟨aZ, cZ, n, Z, rfl, hpz, hn1, hn2, hb7⟩; have HPZ := Lib.hid hpz; have HN := Lib.hid (And.intro hn1 hn2); have HB7 := Lib.hid hb7; have hdz := hpz.bd; clear hpz hn1 hn2 hb7))
        clear qD1 qD2 qK3 e1 e2 e3 qH
        have HAO := Lib.hid (apart_of_nodup HG.out.1)
        have HB47 := Lib.hid (bt HBV.out HB7.out)
        have HCO := Lib.hid (col_both HA.out b i T (i : Int) aO cO O aZ cZ Z w7 (HF4.out.below HB47.out) (HO4.out.on HB47.out) HPZ.out (by simp [Lit.wf, IntKind.min, IntKind.max, IntKind.signed, IntKind.bits]; have := HTM.out; omega) (by omega) HTM.out.1 HTM.out.2.2.1 (by have := HTM.out; omega) (plErr_zero.2 ⟨by rw [HOL.out]; have := HTM.out; omega, by rw [HOL.out]; have := HTM.out; omega, HAO.out⟩))
        have HWR := Lib.hid (show (wrL O Z Q).length = n by rw [wr_df HOL.out]; exact HN.out.1)
        have hnb : n ≤ 10 := by have := HN.out.2; have := HE.out; omega
        have qn : (n : Int) ≤ 10 := by omega
        go_upto_region 17 with (go_at_call 7; go_loud (refine HCO.out.mono ?_; rintro e w8 ⟨a8, n8, c8, er, rfl, hor, hb8⟩; have HOR := Lib.hid hor; have HB8 := Lib.hid hb8; clear hor hb8))
        have HPQ8 := Lib.hid (HPQ.out.on (bt HB47.out HB8.out))
        have HBZ := Lib.hid (bt (bt HB4.out HB47.out) HB8.out)
        have kQ := HPQ8.out.str
        rcases HOR.out with ⟨rfl, q, hq, rfl, hp8⟩ | ⟨rfl, rfl, hno⟩
        · have e : q = Q := by
            have hu := right_uniq (Y := Z) (p := q) (q := Q) (t := T) HAO.out (fun k hk => hq.co hk) (fun k hk => co_ge (by have := HQL.out; have := HNQ.out; omega)) (by have := hq.2.2.2; have := HWR.out; have := HN.out; have := HE.out; have := HOL.out; have := HTM.out; omega)
            rw [← hq.1, ← HQ.out]; exact tr_ext hu
          subst e
          have k8 := hp8.str
          have hd8 := hp8.bd
          rw [← HNQ.out] at k8 hd8 ⊢
          clear hq hp8
          by_cases hc : 2 * n ≤ D
          · have q2 : (2 : Int) * (n : Int) ≤ (D : Int) := by omega
            go_wp2
            go_ret
            exact ⟨rfl, HBZ.out⟩
          · have q2 : ¬ (2 : Int) * (n : Int) ≤ (D : Int) := by omega
            go_wp2
            go_ret
            exact ⟨rfl, HBZ.out⟩
        · by_cases hc : 2 * n ≤ D
          · exact absurd ⟨HQ.out, by have := HQL.out; have := HNQ.out; omega, by have := HWR.out; have := HTM.out; have := HN.out; simp; omega, by have := HWR.out; have := HOL.out; have := HE.out; have := HTM.out; omega⟩ (hno Q)
          · have q2 : ¬ (2 : Int) * (n : Int) ≤ (D : Int) := by omega
            clear hno
            go_wp2
            go_ret
            exact ⟨rfl, HBZ.out⟩
  · as_aux_lemma =>
    have qx : ¬ (T : Int) < (lP : Int) := by omega
    have qx2 : (lP : Int) ≤ (cP : Int) := by omega
    have qx0 : (0 : Int) ≤ (lP : Int) := by omega
    obtain ⟨Q, hQ⟩ : ∃ Q, Q = tr (P.take lP) := ⟨_, rfl⟩
    have HQ := Lib.hid (show tr Q = Q by rw [hQ, tr_tr])
    have HQL := Lib.hid (show Q.length ≤ T by rw [hQ]; have := tr_len_le (P.take lP); rw [List.length_take] at this; omega)
    have HTR := Lib.hid (trim_any aP lP cP (P.take lP) w3 ((takeM HP.out (Nat.le_refl _)).on HB3.out) (by have := HTM.out; omega))
    rw [← hQ] at HTR
    clear hQ hx
    go_upto_region 10 with (go_at_call 12; go_loud (refine HTR.out.mono ?_; rintro e w4 ⟨v4, rfl, ho4, hb4⟩; obtain ⟨aQ, cQ, rfl, hpq, _⟩ := Pa.own ho4; have HPQ := Lib.hid hpq; have HB34 := Lib.hid hb4; have HB4 := Lib.hid (bt HB3.out hb4); have hdq := hpq.bd; clear ho4 hpq hb4))
    have HF4 := Lib.hid (HF3.out.below HB34.out)
    have HO4 := Lib.hid (HPO.out.on HB34.out)
    obtain ⟨nQ, hnQ⟩ : ∃ n, n = Q.length := ⟨_, rfl⟩
    have HNQ := Lib.hid hnQ
    rw [← hnQ] at HPQ hdq HQL ⊢
    clear hnQ
    go_loopw [18, 57] (fun o j V => ∃ (i : Nat) (a : Option Addr) (c : Nat), i ≤ M ∧ j = .int .i64 (i : Nat) ∧ o = .slice a i c ∧ Hid (V.ownsRow w4.heap.size 5 1 (.slice a i c) i ((iL (evY Q O i)).map (Value.int .u8))) ∧ Hid (Below w4.heap.size w4 V)) (fun _ j _ => M - (intOf j).toNat)
    case atStart => exact ⟨0, none, 0, Nat.zero_le _, rfl, rfl, Lib.hid (own_nilG _ _ _), Lib.hid (Below.refl _ _)⟩
    case round =>
      obtain ⟨i, a, c, hi, rfl, rfl, HO, HBV⟩ := hrel
      rename World => V
      by_cases hlt : i < M
      · obtain ⟨bo, oo, rfl, hbo, hco⟩ := (HO4.out.on HBV.out).at_ (k := i) hlt
        have qi : (i : Int) < (M : Int) := by omega
        have qi0 : (0 : Int) ≤ (i : Int) := by omega
        have HEV := Lib.hid (eval_8 b aQ nQ cQ Q (co O i) V (HF4.out.below HBV.out) (HPQ.out.on HBV.out).1 (by have := HQL.out; have := HTM.out; omega))
        have HLT := Lib.hid hlt
        have HNX := Lib.hid (evY_next Q O i)
        clear hlt hi hbo
        go_wp2_with (first
          | (go_at_call 13; go_loud (refine HEV.out.mono ?_; rintro e V2 ⟨rfl, hb5⟩; have HB5 := Lib.hid (bt HBV.out hb5); have HO5 := Lib.hid (own_belowV HO.out hb5); clear hb5))
          | ((with_reducible show wpList _ _ _ (⟨some 67, _, _, _, _, _⟩ :: _) _ _); go_loud (refine wpList_append_G1 rfl (.tmp 61) (.tmp 66) 22 rfl w4.heap.size 5 i5 Try.underlying22 HI.out.1 HI.out.2.1 HI.out.2.2.1 HI.out.2.2.2 (.slice a i c) i (evY Q O i) rfl HO5.out (ev Q (co O i)) 5 rfl (by have := HLT.out; have := HTM.out; omega) HB5.out.size ?_; intro g6 c6 V3 ho6 hb6; rw [← HNX.out] at ho6; have HO6 := Lib.hid ho6; have HB6 := Lib.hid (HB5.out.trans hb6); clear ho6 hb6)))
        go_roundw
        case rel => exact ⟨i + 1, _, c6, HLT.out, by go_num, rfl, HO6, HB6⟩
        case measure => simp [intOf]; have := HLT.out; omega
      · obtain rfl : i = M := by omega
        obtain ⟨aY, cY, ey, hpy, _⟩ := Pa.own HO.out
        cases ey
        have HPY := Lib.hid hpy
        have hdy := hpy.bd
        obtain ⟨D, hD⟩ : ∃ D, D = i - T := ⟨_, rfl⟩
        obtain ⟨H, hH⟩ : ∃ H, H = (D + 1) / 2 := ⟨_, rfl⟩
        obtain ⟨K, hK⟩ : ∃ K, K = H + 1 := ⟨_, rfl⟩
        obtain ⟨E, h1, h2, h3⟩ := mod_bothM z (K : Int) (by omega)
        have qD : (i : Int) - (T : Int) = (D : Int) := by have := HTM.out; omega
        have qD19 : (D : Int) ≤ 19 := by have := HTM.out; omega
        have qD1 : ∀ [Inhabited Unit], ((D : Int) + 1).tdiv 2 = (H : Int) := fun [_] => by rw [Int.tdiv_eq_ediv_of_nonneg (by omega)]; omega
        have qD2 : ∀ [Inhabited Unit], ((D : Int) + 1) / 2 = (H : Int) := fun [_] => by omega
        have qH : (H : Int) + 1 = (K : Int) := by omega
        have qH10 : (H : Int) ≤ 10 := by omega
        have qK11 : (K : Int) ≤ 11 := by omega
        have qK0 : ((K : Int) == 0) = false := by rw [beq_eq_false_iff_ne]; omega
        have qK1 : ¬ (K : Int) = 0 := by omega
        have qK2 : ¬ K = 0 := by omega
        have qK3 : ∀ [Inhabited Unit], IntKind.u64.wrap (K : Int) = (K : Int) := fun [_] => by rw [IntKind.wrap_u64]; omega
        have e1 : ∀ [Inhabited Unit], (IntKind.u64.wrap z).tmod (K : Int) = (E : Int) := fun [_] => h1
        have e2 : ∀ [Inhabited Unit], (IntKind.u64.wrap z) % (K : Int) = (E : Int) := fun [_] => h2
        have e3 : ∀ [Inhabited Unit], IntKind.i64.wrap (E : Int) = (E : Int) := fun [_] => by rw [IntKind.wrap_i64]; omega
        have HE := Lib.hid (show 2 * E ≤ D + 1 ∧ E ≤ 10 ∧ D = i - T from by omega)
        have HBW := Lib.hid (bt HB4.out HBV.out)
        have HSP := Lib.hid (spoil_any i lW lB E a c (evY Q O i) aW cW Wr aB cB B V hpy (HW.out.on HBW.out) (HB.out.on HBW.out) (by have := HTM.out; omega) (by have := HTM.out; omega) HLW.out (by have := HE.out; omega))
        clear hpy hD hH hK h1 h2 h3 hi hlt
        go_upto_region 16 with (go_at_call 14; go_loud (refine HSP.out.mono ?_; rintro e w7 ⟨aZ, cZ, n, Z, rfl, hpz, hn1, hn2, hb7⟩; have HPZ := Lib.hid hpz; have HN := Lib.hid (And.intro hn1 hn2); have HB7 := Lib.hid hb7; have hdz := hpz.bd; clear hpz hn1 hn2 hb7))
        clear qD1 qD2 qK3 e1 e2 e3 qH
        have HAO := Lib.hid (apart_of_nodup HG.out.1)
        have HB47 := Lib.hid (bt HBV.out HB7.out)
        have HCO := Lib.hid (col_both HA.out b i T (i : Int) aO cO O aZ cZ Z w7 (HF4.out.below HB47.out) (HO4.out.on HB47.out) HPZ.out (by simp [Lit.wf, IntKind.min, IntKind.max, IntKind.signed, IntKind.bits]; have := HTM.out; omega) (by omega) HTM.out.1 HTM.out.2.2.1 (by have := HTM.out; omega) (plErr_zero.2 ⟨by rw [HOL.out]; have := HTM.out; omega, by rw [HOL.out]; have := HTM.out; omega, HAO.out⟩))
        have HWR := Lib.hid (show (wrL O Z Q).length = n by rw [wr_df HOL.out]; exact HN.out.1)
        have hnb : n ≤ 10 := by have := HN.out.2; have := HE.out; omega
        have qn : (n : Int) ≤ 10 := by omega
        go_upto_region 17 with (go_at_call 7; go_loud (refine HCO.out.mono ?_; rintro e w8 ⟨a8, n8, c8, er, rfl, hor, hb8⟩; have HOR := Lib.hid hor; have HB8 := Lib.hid hb8; clear hor hb8))
        have HPQ8 := Lib.hid (HPQ.out.on (bt HB47.out HB8.out))
        have HBZ := Lib.hid (bt (bt HB4.out HB47.out) HB8.out)
        have kQ := HPQ8.out.str
        rcases HOR.out with ⟨rfl, q, hq, rfl, hp8⟩ | ⟨rfl, rfl, hno⟩
        · have e : q = Q := by
            have hu := right_uniq (Y := Z) (p := q) (q := Q) (t := T) HAO.out (fun k hk => hq.co hk) (fun k hk => co_ge (by have := HQL.out; have := HNQ.out; omega)) (by have := hq.2.2.2; have := HWR.out; have := HN.out; have := HE.out; have := HOL.out; have := HTM.out; omega)
            rw [← hq.1, ← HQ.out]; exact tr_ext hu
          subst e
          have k8 := hp8.str
          have hd8 := hp8.bd
          rw [← HNQ.out] at k8 hd8 ⊢
          clear hq hp8
          by_cases hc : 2 * n ≤ D
          · have q2 : (2 : Int) * (n : Int) ≤ (D : Int) := by omega
            go_wp2
            go_ret
            exact ⟨rfl, HBZ.out⟩
          · have q2 : ¬ (2 : Int) * (n : Int) ≤ (D : Int) := by omega
            go_wp2
            go_ret
            exact ⟨rfl, HBZ.out⟩
        · by_cases hc : 2 * n ≤ D
          · exact absurd ⟨HQ.out, by have := HQL.out; have := HNQ.out; omega, by have := HWR.out; have := HTM.out; have := HN.out; simp; omega, by have := HWR.out; have := HOL.out; have := HE.out; have := HTM.out; omega⟩ (hno Q)
          · have q2 : ¬ (2 : Int) * (n : Int) ≤ (D : Int) := by omega
            clear hno
            go_wp2
            go_ret
            exact ⟨rfl, HBZ.out⟩
theorem mendCorrects_any (hAll : ColAll) (u v z : Int) (lP : Nat) (aP : Option Addr) (cP : Nat) (P : List GF) (lX : Nat) (aX : Option Addr) (cX : Nat) (X : List GF) (lW : Nat) (aW : Option Addr) (cW : Nat) (Wr : List GF) (lB : Nat) (aB : Option Addr) (cB : Nat) (B : List GF) (w : World) (hP : Pa w aP lP cP P) (hX : Pa w aX lX cX X) (hW : Pa w aW lW cW Wr) (hB : Pa w aB lB cB B) :
    Calls Try.prog 4 #[.int .i64 u, .int .i64 v, .slice aP lP cP, .slice aX lX cX, .slice aW lW cW, .slice aB lB cB, .int .i64 z] w fun e w' => e = .returned (.bool true) ∧ Below w.heap.size w w' := by
  by_cases h : lW ≤ 40
  · exact mendCorrects_core hAll u v z lP aP cP P lX aX cX X lW aW cW Wr lB aB cB B w hP hX hW hB h
  · have HLI := Lib.hid (lives10 hAll)
    have hbp := hP.bd; have hbx := hX.bd; have hbw := hW.bd; have hbb := hB.bd
    have q40 : (40 : Int) < (lW : Int) := by omega
    clear hAll hP hX hW hB h
    go_enter Try.func4, Try.ntmps4
    go_upto_region 2 with (go_at_call 6; go_loud (refine (HLI.out _).mono ?_; rintro e w1 ⟨rfl, hb⟩; have HB1 := Lib.hid hb; clear hb))
    go_wp2_with (go_at_call 6; go_loud (refine (HLI.out _).mono ?_; rintro e w2 ⟨rfl, hb⟩; have HB2 := Lib.hid (bt HB1.out hb); clear hb))
    go_ret
    exact ⟨rfl, HB2.out⟩
end Go.Proofs.Ytfmjfdbbjggcpaa
