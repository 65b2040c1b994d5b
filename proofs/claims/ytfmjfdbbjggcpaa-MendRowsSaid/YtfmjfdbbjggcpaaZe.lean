/- Contract of mend's found: Euclid's steps from the vanishing polynomial and the one through all values (Gao). -/
import Derived.Test.YtfmjfdbbjggcpaaZd
namespace Go.Proofs.Ytfmjfdbbjggcpaa
open Go.ChangeShapes Go.WideShapes Go.ChangeAt Go.RowKit Go.Shelf GF
set_option linter.unusedVariables false
set_option linter.unusedSimpArgs false
set_option maxRecDepth 100000

/-! ## the maths -/
/-- A polynomial of a column that is right with few enough wrong ones: no other one is. -/
def FoundP (X Y : List GF) (t : Nat) (p : List GF) : Prop := tr p = p ∧ p.length ≤ t ∧ 2 * (wrL X Y p).length + t ≤ X.length ∧ ∀ e q, RightP X Y t e q → q = p
theorem gao_start2 {X Y G : List GF} {t : Nat} (hX : Apart X) (hG : G.length ≤ X.length) (he : ∀ k, k < X.length → ev G (co X k) = co Y k) (ht : t ≤ X.length) (h0 : 0 < X.length) : GaoI X Y t (vanA X X.length) [] G [1] where
  v0 := fun k hk => by rw [(ev_vanA X.length (Nat.le_refl _)).2 ⟨k, hk, rfl⟩, show ev [] (co X k) = 0 from rfl, GF.zero_mul]
  v1 := fun k hk => by rw [he k hk, ev_one, GF.one_mul]
  d := by rw [dg_van, dg_one]; omega
  du := by rw [dg_one]; exact Nat.lt_succ_self _
  dr := by
    have : dg G ≤ X.length := dg_le.2 fun k hk => co_ge (by omega)
    rw [dg_van]; omega
  big := by rw [dg_van]; omega
theorem gao_congr {X Y : List GF} {t : Nat} {r0 u0 r1 u1 r1' u1' : List GF} (h : GaoI X Y t r0 u0 r1 u1) (hr : ∀ k, co r1' k = co r1 k) (hu : ∀ k, co u1' k = co u1 k) : GaoI X Y t r0 u0 r1' u1' where
  v0 := h.v0
  v1 := fun k hk => by rw [ev_congr hr, ev_congr hu]; exact h.v1 k hk
  d := by rw [dg_congr hu]; exact h.d
  du := by rw [dg_congr hu]; exact h.du
  dr := by rw [dg_congr hr]; exact h.dr
  big := h.big
/-- One of Euclid's steps, with what the program holds. -/
theorem gao_next {X Y : List GF} {t : Nat} {r0 u0 r1 u1 A R : List GF} (h : GaoI X Y t r0 u0 r1 u1) (hb : X.length + t + 2 ≤ 2 * dg r1) (hA : ∀ k, co (mulL A r1) k + co R k = co r0 k) (hR : (tr R).length < (tr r1).length) : GaoI X Y t r1 u1 (tr R) (tr (addL u0 (tr (mulL A u1)))) :=
  gao_congr (gao_step h hb hA hR) (fun k => co_tr R k) fun k => by rw [co_tr, co_addL, co_addL, co_tr]
theorem gao_len {X Y : List GF} {t : Nat} {r0 u0 r1 u1 A R : List GF} (h : GaoI X Y t r0 u0 r1 u1) (hb : X.length + t + 2 ≤ 2 * dg r1) (hA : ∀ k, co (mulL A r1) k + co R k = co r0 k) (hR : (tr R).length < (tr r1).length) (hAt : tr A = A) (hu : tr u1 = u1) : A.length + u1.length ≤ X.length + 3 := by
  obtain ⟨a1, a2⟩ := div_dg hA hR (by have := h.dr; omega)
  have e1 : dg A = A.length := by unfold dg; rw [hAt]
  have e2 : dg u1 = u1.length := by unfold dg; rw [hu]
  have := h.d
  have := h.dr
  omega
/-- What the last division tells. -/
theorem gao_end {X Y : List GF} {t : Nat} {r0 u0 r1 u1 A R : List GF} (hX : Apart X) (h : GaoI X Y t r0 u0 r1 u1) (hs : 2 * dg r1 < X.length + t + 2) (ht : 1 ≤ t) (hA : ∀ k, co (mulL A u1) k + co R k = co r1 k) (hR : (tr R).length < (tr u1).length) (hAt : tr A = A) :
    ((tr R).length = 0 → A.length ≤ t → FoundP X Y t A) ∧ (¬ ((tr R).length = 0 ∧ A.length ≤ t) → ∀ e q, ¬ RightP X Y t e q) := by
  refine ⟨fun h1 h2 => ?_, fun hn e q hq => ?_⟩
  · have hg := gao_iff (e := (wrL X Y A).length) hX h hs ht hA hR hAt
    have hr := hg.1 ⟨List.eq_nil_of_length_eq_zero h1, h2, Nat.le_refl _⟩
    exact ⟨hAt, h2, hr.2.2.2, fun e q hq => ((gao_iff (e := e) hX h hs ht hA hR hAt).2 q hq).1⟩
  · obtain ⟨_, h1, h2, _⟩ := (gao_iff (e := e) hX h hs ht hA hR hAt).2 q hq
    exact hn ⟨by rw [h1]; rfl, h2⟩

/-! ## found -/
theorem mul_dg_le (A U : List GF) : (tr (mulL A U)).length ≤ A.length + U.length :=
  dg_le.2 fun k hk => co_mulL_ge (n := A.length) (m := U.length) (fun i hi => co_ge hi) (fun i hi => co_ge hi) (by omega)
theorem add_dg_le (A U : List GF) : (tr (addL A U)).length ≤ max A.length U.length :=
  dg_le.2 fun k hk => by rw [co_addL, co_ge (l := A) (by omega), co_ge (l := U) (by omega), GF.add_zero]
theorem pa_empty (w : World) (g : Nat) : Pa w (some ⟨g, 0, none⟩) 0 0 [] := ⟨⟨rfl, allB_iL _, fun h0 => absurd h0 (by simp [iL]), Nat.le_refl _, Nat.zero_le _⟩, fun e => by cases e⟩
set_option maxHeartbeats 4000000 in
theorem found_any (b L t : Nat) (aV : Option Addr) (cV : Nat) (X Y : List GF) (aG : Option Addr) (cG : Nat) (G : List GF) (w : World) (hf : Fld w b) (hV : Pa w aV (L + 1) cV (vanA X L)) (hG : Pa w aG L cG G) (hA : Apart X) (hl : X.length = L) (hY : ∀ p, p < L → ev G (co X p) = co Y p) (ht : 1 ≤ t) (htL : t ≤ L) (hL : L ≤ 200) :
    Calls Try.prog 59 #[.pointer (some ⟨b, 0, none⟩), .int .i64 (t : Nat), .slice aV (L + 1 : Nat) cV, .slice aG L cG] w fun e w' => ∃ (a : Option Addr) (m c : Nat) (P : List GF) (bb : Bool), e = .returned (.tuple #[.slice a m c, .bool bb]) ∧ w'.ownsRow w.heap.size 5 1 (.slice a m c) m ((iL P).map (Value.int .u8)) ∧
      Hid ((bb = true → FoundP X Y t P) ∧ (bb = false → ∀ e q, ¬ RightP X Y t e q)) ∧ Below w.heap.size w w' := by
  have HDV : Hid (Calls Try.prog 46 #[.slice aV (L + 1 : Nat) cV] w fun e w' => e = .returned (.int .i64 (L : Nat)) ∧ Below w.heap.size w w') := by
    have h := degree_any aV (L + 1) cV (vanA X L) w hV.1 (by omega)
    rw [tr_vanA, length_vanA, show (((L + 1 : Nat) : Int) - 1) = (L : Int) by omega] at h
    exact Lib.hid h
  have HV := Lib.hid hV; have HG := Lib.hid hG; have HF := Lib.hid hf
  have HGI := Lib.hid (show GaoI X Y t (vanA X L) [] G [1] by
    have h := gao_start2 (X := X) (Y := Y) (G := G) (t := t) hA (by rw [hG.len]; omega) (fun k hk => hY k (by omega)) (by omega) (by omega)
    rw [hl] at h
    exact h)
  have HC := Lib.hid (And.intro hA (And.intro hl (And.intro ht (And.intro htL hL))))
  have hbv := hV.bd; have hbg := hG.bd
  have qL : (L : Int) ≤ 200 := by omega
  have qt : (t : Int) ≤ 200 := by omega
  clear hf hV hG hA hl hY ht htL hL
  go_enter Try.func59, Try.ntmps59
  go_wp2_with (go_at_call 46; go_loud (refine HDV.out.mono ?_; rintro e w1 ⟨rfl, hb⟩; have HB1 := Lib.hid hb; clear hb))
  have hpo := litP (w1.alloc (.cells #[] 5)) #[.int .u8 1] [1] 1 rfl rfl (by unfold maxLen; omega)
  rw [size_alloc1] at hpo
  have HPO := Lib.hid hpo
  have HBA := Lib.hid (show Below w1.heap.size w1 ((w1.alloc (.cells #[] 5)).alloc (.cells #[.int .u8 1] 5)) from ((Below.refl _ _).alloc (Nat.le_refl _) _).alloc (by simp) _)
  clear hpo
  go_loopw [11, 12, 13, 14] (fun s0 s1 s2 s3 wr => ∃ (a0 a1 a2 a3 : Option Addr) (l0 c0 l1 c1 l2 c2 l3 c3 : Nat) (r0 r1 u0 u1 : List GF), s0 = .slice a0 l0 c0 ∧ s1 = .slice a1 l1 c1 ∧ s2 = .slice a2 l2 c2 ∧ s3 = .slice a3 l3 c3 ∧
      Hid (Pa wr a0 l0 c0 r0 ∧ Pa wr a1 l1 c1 r1 ∧ Pa wr a2 l2 c2 u0 ∧ Pa wr a3 l3 c3 u1) ∧ Hid (GaoI X Y t r0 u0 r1 u1 ∧ tr u1 = u1) ∧ Hid (l0 ≤ 1000 ∧ l1 ≤ 1000 ∧ l2 ≤ 1000 ∧ l3 ≤ 1000) ∧ Hid (Below w.heap.size w wr))
    (fun _ s1 _ _ _ => match s1 with | .slice _ n _ => n | _ => 0)
  case atStart =>
    have hb := bt HB1.out HBA.out
    refine ⟨_, _, _, _, _, _, _, _, _, _, _, _, vanA X L, G, [], [1], rfl, rfl, rfl, rfl, Lib.hid ⟨HV.out.on hb, HG.out.on hb, pa_empty _ _, HPO.out⟩, Lib.hid ⟨HGI.out, ?_⟩, Lib.hid ⟨?_, ?_, ?_, ?_⟩, Lib.hid hb⟩
    · exact tr_self (.inr (by show (1 : GF) ≠ 0; exact GF.one_ne))
    · have := HC.out.2.2.2.2; omega
    · have := HC.out.2.2.2.2; omega
    · omega
    · omega
  case round =>
    obtain ⟨a0, a1, a2, a3, l0, c0, l1, c1, l2, c2, l3, c3, r0, r1, u0, u1, rfl, rfl, rfl, rfl, hP, hGI, hLn, hB⟩ := hrel
    rename World => wr
    obtain ⟨d, hd⟩ : ∃ d, d = dg r1 := ⟨_, rfl⟩
    have hdl : d ≤ l1 := by rw [hd, ← hP.out.2.1.len]; exact tr_len_le r1
    have hb0 := hP.out.1.bd; have hb1 := hP.out.2.1.bd; have hb2 := hP.out.2.2.1.bd; have hb3 := hP.out.2.2.2.bd
    have HDG : Hid (Calls Try.prog 46 #[.slice a1 l1 c1] wr fun e w' => e = .returned (.int .i64 ((d : Int) - 1)) ∧ Below wr.heap.size wr w') := by
      have h := degree_any a1 l1 c1 r1 wr hP.out.2.1.1 (by have := hLn.out; omega)
      rw [show (tr r1).length = d from hd.symm] at h
      exact Lib.hid h
    have qd : (d : Int) ≤ 1000 := by have := hLn.out; omega
    have qd0 : (0 : Int) ≤ (d : Int) := by omega
    by_cases hc : L + t + 2 ≤ 2 * d
    · have q1 : (L : Int) + (t : Int) ≤ 2 * ((d : Int) - 1) := by omega
      have HD := Lib.hid hd
      have HCC := Lib.hid hc
      clear hd hdl hc
      go_wp2_with (first
        | (go_at_call 46; go_loud (refine HDG.out.mono ?_; rintro e w2 ⟨rfl, hb⟩; have HB2 := Lib.hid hb; have HDM := Lib.hid (divmod_any b a0 l0 c0 r0 a1 l1 c1 r1 w2 (HF.out.below (bt hB.out hb)) (hP.out.1.on hb) (hP.out.2.1.on hb) (by have := hLn.out; omega) (by have := hLn.out; omega) (dg_pos.1 (by have := HCC.out; have := HD.out; omega))); clear hb))
        | (go_at_call 67; go_loud (refine HDM.out.mono ?_; rintro e w3 ⟨v1, v2, A, R, rfl, ho1, ho2, hm, hb⟩; obtain ⟨a4, c4, hv1, _⟩ := own_form ho1; subst hv1; obtain ⟨a5, c5, hv2, _⟩ := own_form ho2; subst hv2; have HLR := Lib.hid hm.out.2.2.1; have HPA := Lib.hid (own_paV ho1); have HPR := Lib.hid (own_paV ho2); have HB3 := Lib.hid (bt HB2.out hb); have HGL := Lib.hid (gao_len hGI.out.1 (by rw [HC.out.2.1, ← HD.out]; exact HCC.out) hm.out.2.2.2 hm.out.2.2.1 hm.out.2.1 hGI.out.2); have HGN := Lib.hid (gao_next hGI.out.1 (by rw [HC.out.2.1, ← HD.out]; exact HCC.out) hm.out.2.2.2 hm.out.2.2.1); have HMU := Lib.hid (mul_any b a4 A.length c4 A a3 l3 c3 u1 w3 (HF.out.below (bt hB.out HB3.out)) HPA.out (hP.out.2.2.2.on HB3.out) (by have h1 := HGL.out; have h2 := hP.out.2.2.2.len; have h3 := HC.out; omega)); have hda := HPA.out.bd; have hdr := HPR.out.bd; clear ho1 ho2 hb))
        | (go_at_call 68; go_loud (refine HMU.out.mono ?_; rintro e w4 ⟨v3, rfl, ho, hb⟩; obtain ⟨a6, c6, hv3, _⟩ := own_form ho; subst hv3; have HPM := Lib.hid (own_paV ho); have HB4 := Lib.hid (bt HB3.out hb); have hdm := HPM.out.bd; have HPR4 := Lib.hid (HPR.out.on hb); have HLM := Lib.hid (show (tr (mulL A u1)).length ≤ 300 from Nat.le_trans (mul_dg_le A u1) (by have := HGL.out; have := HC.out; omega)); have HAD := Lib.hid (padd_any a2 l2 c2 u0 a6 _ c6 (tr (mulL A u1)) w4 (hP.out.2.2.1.on HB4.out) HPM.out (by have := hLn.out; omega) (by have := HLM.out; omega)); clear ho hb))
        | (go_at_call 69; go_loud (refine HAD.out.mono ?_; rintro e w5 ⟨v4, rfl, ho, hb⟩; obtain ⟨a7, c7, hv4, _⟩ := own_form ho; subst hv4; have HPS := Lib.hid (own_paV ho); have HB5 := Lib.hid (bt HB4.out hb); have HPR5 := Lib.hid (HPR4.out.on hb); have hds := HPS.out.bd; clear ho hb)))
      have HLS := Lib.hid (show (tr (addL u0 (tr (mulL A u1)))).length ≤ 1000 from Nat.le_trans (add_dg_le u0 (tr (mulL A u1))) (by have h1 := HLM.out; have h2 := hP.out.2.2.1.len; have h3 := hLn.out; omega))
      have HLT := Lib.hid (show (tr R).length < l1 from Nat.lt_of_lt_of_le HLR.out (by rw [← hP.out.2.1.len]; exact tr_len_le r1))
      go_roundw
      case rel => exact ⟨a1, a5, a3, a7, l1, c1, (tr R).length, c5, l3, c3, _, c7, r1, tr R, u1, _, rfl, rfl, rfl, rfl, Lib.hid ⟨hP.out.2.1.on HB5.out, HPR5.out, hP.out.2.2.2.on HB5.out, HPS.out⟩, Lib.hid ⟨HGN.out, tr_tr _⟩, Lib.hid ⟨hLn.out.2.1, by have := HLT.out; have := hLn.out; omega, hLn.out.2.2.2, HLS.out⟩, Lib.hid (bt hB.out HB5.out)⟩
      case measure => simp; exact HLT.out
    · have q1 : ¬ (L : Int) + (t : Int) ≤ 2 * ((d : Int) - 1) := by omega
      have HD := Lib.hid hd
      have HCC := Lib.hid hc
      have hu0 : tr u1 ≠ [] := dg_pos.1 (gao_du hGI.out.1).1
      have HU0 := Lib.hid hu0
      clear hd hdl hc hu0
      go_wp2_with (first
        | (go_at_call 46; go_loud (refine HDG.out.mono ?_; rintro e w2 ⟨rfl, hb⟩; have HB2 := Lib.hid hb; have HDM := Lib.hid (divmod_any b a1 l1 c1 r1 a3 l3 c3 u1 w2 (HF.out.below (bt hB.out hb)) (hP.out.2.1.on hb) (hP.out.2.2.2.on hb) (by have := hLn.out; omega) (by have := hLn.out; omega) HU0.out); clear hb))
        | (go_at_call 67; go_loud (refine HDM.out.mono ?_; rintro e w3 ⟨v1, v2, A, R, rfl, ho1, ho2, hm, hb⟩; obtain ⟨a4, c4, hv1, _⟩ := own_form ho1; subst hv1; obtain ⟨a5, c5, hv2, _⟩ := own_form ho2; subst hv2; have HPA := Lib.hid (own_paV ho1); have HO1 := Lib.hid (own_base ho1 (bt hB.out HB2.out).size); have HB3 := Lib.hid (bt hB.out (bt HB2.out hb)); have HE := Lib.hid (gao_end HC.out.1 hGI.out.1 (by have := HCC.out; have := HD.out; have := HC.out.2.1; omega) HC.out.2.2.1 hm.out.2.2.2 hm.out.2.2.1 hm.out.2.1); have hda := HPA.out.bd; have hdr := (own_paV ho2).bd; clear ho1 ho2 hb hm))
        | fail)
      all_goals
        go_ret2
        refine ⟨_, _, _, A, _, rfl, HO1.out, Lib.hid ⟨fun hb => ?_, fun hb => ?_⟩, HB3.out⟩
        · first
            | exact absurd hb (by decide)
            | exact HE.out.1 (by simp [*]) (of_decide_eq_true hb)
        · first
            | exact HE.out.2 fun ⟨h1, h2⟩ => of_decide_eq_false hb h2
            | exact HE.out.2 fun ⟨h1, h2⟩ => absurd (List.eq_nil_of_length_eq_zero h1) ‹_›
end Go.Proofs.Ytfmjfdbbjggcpaa
