/- Texts of mine, one behind the other: Ze Zf Zg. -/
import Derived.Test.YtappfdbmhgifcaaGreatDoorZS19
import Derived.Test.YtappfdbmhgifcaaGreatDoorZS14
/- Contract of mend's found: Euclid's steps from the vanishing polynomial and the one through all values (Gao). -/
namespace Go.Proofs.YtappfdbmhgifcaaGreatDoor
open Go.ChangeShapes Go.WideShapes Go.ChangeAt Go.RowKit Go.Shelf GF
set_option linter.unusedVariables false
set_option linter.unusedSimpArgs false
set_option maxRecDepth 100000

/-! ## the maths -/
/-- A polynomial of a column that is right with few enough wrong ones: no other one is. -/
def FoundP (X Y : List GF) (t : Nat) (p : List GF) : Prop := tr p = p ∧ p.length ≤ t ∧ 2 * (wrL X Y p).length + t ≤ X.length ∧ ∀ e q, RightP X Y t e q → q = p
theorem gao_start2 {X Y G : List GF} {t : Nat} (hX : Apart X) (hG : G.length ≤ X.length) (he : ∀ k, k < X.length → ev G (co X k) = co Y k) (ht : t ≤ X.length) (h0 : 0 < X.length) : GaoI X Y t (vanA X X.length) [] G [1] where
  v0 := fun k hk => by rw [(ev_vanA X.length (Nat.le_refl _)).2 ⟨k, hk, rfl⟩, show ev [] (co X k) = 0 from rfl, GF.zero_mul]
  v1 := fun k hk => by rw [he k hk, ev_one, GF.one_mul]
  d := by rw [dg_van, dg_one]; omega
  du := by rw [dg_one]; exact Nat.lt_succ_self _
  dr := by
    have : dg G ≤ X.length := dg_le.2 fun k hk => co_ge (by omega)
    rw [dg_van]; omega
  big := by rw [dg_van]; omega
theorem gao_congr {X Y : List GF} {t : Nat} {r0 u0 r1 u1 r1' u1' : List GF} (h : GaoI X Y t r0 u0 r1 u1) (hr : ∀ k, co r1' k = co r1 k) (hu : ∀ k, co u1' k = co u1 k) : GaoI X Y t r0 u0 r1' u1' where
  v0 := h.v0
  v1 := fun k hk => by rw [ev_congr hr, ev_congr hu]; exact h.v1 k hk
  d := by rw [dg_congr hu]; exact h.d
  du := by rw [dg_congr hu]; exact h.du
  dr := by rw [dg_congr hr]; exact h.dr
  big := h.big
/-- One of Euclid's steps, with what the program holds. -/
theorem gao_next {X Y : List GF} {t : Nat} {r0 u0 r1 u1 A R : List GF} (h : GaoI X Y t r0 u0 r1 u1) (hb : X.length + t + 2 ≤ 2 * dg r1) (hA : ∀ k, co (mulL A r1) k + co R k = co r0 k) (hR : (tr R).length < (tr r1).length) : GaoI X Y t r1 u1 (tr R) (tr (addL u0 (tr (mulL A u1)))) :=
  gao_congr (gao_step h hb hA hR) (fun k => co_tr R k) fun k => by rw [co_tr, co_addL, co_addL, co_tr]
theorem gao_len {X Y : List GF} {t : Nat} {r0 u0 r1 u1 A R : List GF} (h : GaoI X Y t r0 u0 r1 u1) (hb : X.length + t + 2 ≤ 2 * dg r1) (hA : ∀ k, co (mulL A r1) k + co R k = co r0 k) (hR : (tr R).length < (tr r1).length) (hAt : tr A = A) (hu : tr u1 = u1) : A.length + u1.length ≤ X.length + 3 := by
  obtain ⟨a1, a2⟩ := div_dg hA hR (by have := h.dr; omega)
  have e1 : dg A = A.length := by unfold dg; rw [hAt]
  have e2 : dg u1 = u1.length := by unfold dg; rw [hu]
  have := h.d
  have := h.dr
  omega
/-- What the last division tells. -/
theorem gao_end {X Y : List GF} {t : Nat} {r0 u0 r1 u1 A R : List GF} (hX : Apart X) (h : GaoI X Y t r0 u0 r1 u1) (hs : 2 * dg r1 < X.length + t + 2) (ht : 1 ≤ t) (hA : ∀ k, co (mulL A u1) k + co R k = co r1 k) (hR : (tr R).length < (tr u1).length) (hAt : tr A = A) :
    ((tr R).length = 0 → A.length ≤ t → FoundP X Y t A) ∧ (¬ ((tr R).length = 0 ∧ A.length ≤ t) → ∀ e q, ¬ RightP X Y t e q) := by
  refine ⟨fun h1 h2 => ?_, fun hn e q hq => ?_⟩
  · have hg := gao_iff (e := (wrL X Y A).length) hX h hs ht hA hR hAt
    have hr := hg.1 ⟨List.eq_nil_of_length_eq_zero h1, h2, Nat.le_refl _⟩
    exact ⟨hAt, h2, hr.2.2.2, fun e q hq => ((gao_iff (e := e) hX h hs ht hA hR hAt).2 q hq).1⟩
  · obtain ⟨_, h1, h2, _⟩ := (gao_iff (e := e) hX h hs ht hA hR hAt).2 q hq
    exact hn ⟨by rw [h1]; rfl, h2⟩

/-! ## found -/
theorem mul_dg_le (A U : List GF) : (tr (mulL A U)).length ≤ A.length + U.length :=
  dg_le.2 fun k hk => co_mulL_ge (n := A.length) (m := U.length) (fun i hi => co_ge hi) (fun i hi => co_ge hi) (by omega)
theorem add_dg_le (A U : List GF) : (tr (addL A U)).length ≤ max A.length U.length :=
  dg_le.2 fun k hk => by rw [co_addL, co_ge (l := A) (by omega), co_ge (l := U) (by omega), GF.add_zero]
theorem pa_empty (w : World) (g : Nat) : Pa w (some ⟨g, 0, none⟩) 0 0 [] := ⟨⟨rfl, allB_iL _, fun h0 => absurd h0 (by simp [iL]), Nat.le_refl _, Nat.zero_le _⟩, fun e => by cases e⟩
set_option maxHeartbeats 4000000 in
theorem found_any (b L t : Nat) (aV : Option Addr) (cV : Nat) (X Y : List GF) (aG : Option Addr) (cG : Nat) (G : List GF) (w : World) (hf : Fld w b) (hV : Pa w aV (L + 1) cV (vanA X L)) (hG : Pa w aG L cG G) (hA : Apart X) (hl : X.length = L) (hY : ∀ p, p < L → ev G (co X p) = co Y p) (ht : 1 ≤ t) (htL : t ≤ L) (hL : L ≤ 200) :
    Calls Tryz.prog 117 #[.pointer (some ⟨b, 0, none⟩), .int .i64 (t : Nat), .slice aV (L + 1 : Nat) cV, .slice aG L cG] w fun e w' => ∃ (a : Option Addr) (m c : Nat) (P : List GF) (bb : Bool), e = .returned (.tuple #[.slice a m c, .bool bb]) ∧ w'.ownsRow w.heap.size 5 1 (.slice a m c) m ((iL P).map (Value.int .u8)) ∧
      Hid ((bb = true → FoundP X Y t P) ∧ (bb = false → ∀ e q, ¬ RightP X Y t e q)) ∧ Below w.heap.size w w' := by
  have HDV : Hid (Calls Tryz.prog 137 #[.slice aV (L + 1 : Nat) cV] w fun e w' => e = .returned (.int .i64 (L : Nat)) ∧ Below w.heap.size w w') := by
    have h := degree_any aV (L + 1) cV (vanA X L) w hV.1 (by omega)
    rw [tr_vanA, length_vanA, show (((L + 1 : Nat) : Int) - 1) = (L : Int) by omega] at h
    exact Lib.hid h
  have HV := Lib.hid hV; have HG := Lib.hid hG; have HF := Lib.hid hf
  have HGI := Lib.hid (show GaoI X Y t (vanA X L) [] G [1] by
    have h := gao_start2 (X := X) (Y := Y) (G := G) (t := t) hA (by rw [hG.len]; omega) (fun k hk => hY k (by omega)) (by omega) (by omega)
    rw [hl] at h
    exact h)
  have HC := Lib.hid (And.intro hA (And.intro hl (And.intro ht (And.intro htL hL))))
  have hbv := hV.bd; have hbg := hG.bd
  have qL : (L : Int) ≤ 200 := by omega
  have qt : (t : Int) ≤ 200 := by omega
  clear hf hV hG hA hl hY ht htL hL
  go_enter Tryz.func117, Tryz.ntmps117
  go_wp2_with (go_at_call 137; go_loud (refine HDV.out.mono ?_; rintro e w1 ⟨rfl, hb⟩; have HB1 := Lib.hid hb; clear hb))
  have hpo := litP (w1.alloc (.cells #[] 5)) #[.int .u8 1] [1] 1 rfl rfl (by unfold maxLen; omega)
  rw [size_alloc1] at hpo
  have HPO := Lib.hid hpo
  have HBA := Lib.hid (show Below w1.heap.size w1 ((w1.alloc (.cells #[] 5)).alloc (.cells #[.int .u8 1] 5)) from ((Below.refl _ _).alloc (Nat.le_refl _) _).alloc (by simp) _)
  clear hpo
  go_loopw [11, 12, 13, 14] (fun s0 s1 s2 s3 wr => ∃ (a0 a1 a2 a3 : Option Addr) (l0 c0 l1 c1 l2 c2 l3 c3 : Nat) (r0 r1 u0 u1 : List GF), s0 = .slice a0 l0 c0 ∧ s1 = .slice a1 l1 c1 ∧ s2 = .slice a2 l2 c2 ∧ s3 = .slice a3 l3 c3 ∧
      Hid (Pa wr a0 l0 c0 r0 ∧ Pa wr a1 l1 c1 r1 ∧ Pa wr a2 l2 c2 u0 ∧ Pa wr a3 l3 c3 u1) ∧ Hid (GaoI X Y t r0 u0 r1 u1 ∧ tr u1 = u1) ∧ Hid (l0 ≤ 1000 ∧ l1 ≤ 1000 ∧ l2 ≤ 1000 ∧ l3 ≤ 1000) ∧ Hid (Below w.heap.size w wr))
    (fun _ s1 _ _ _ => match s1 with | .slice _ n _ => n | _ => 0)
  case atStart =>
    have hb := bt HB1.out HBA.out
    refine ⟨_, _, _, _, _, _, _, _, _, _, _, _, vanA X L, G, [], [1], rfl, rfl, rfl, rfl, Lib.hid ⟨HV.out.on hb, HG.out.on hb, pa_empty _ _, HPO.out⟩, Lib.hid ⟨HGI.out, ?_⟩, Lib.hid ⟨?_, ?_, ?_, ?_⟩, Lib.hid hb⟩
    · exact tr_self (.inr (by show (1 : GF) ≠ 0; exact GF.one_ne))
    · have := HC.out.2.2.2.2; omega
    · have := HC.out.2.2.2.2; omega
    · omega
    · omega
  case round =>
    obtain ⟨a0, a1, a2, a3, l0, c0, l1, c1, l2, c2, l3, c3, r0, r1, u0, u1, rfl, rfl, rfl, rfl, hP, hGI, hLn, hB⟩ := hrel
    rename World => wr
    obtain ⟨d, hd⟩ : ∃ d, d = dg r1 := ⟨_, rfl⟩
    have hdl : d ≤ l1 := by rw [hd, ← hP.out.2.1.len]; exact tr_len_le r1
    have hb0 := hP.out.1.bd; have hb1 := hP.out.2.1.bd; have hb2 := hP.out.2.2.1.bd; have hb3 := hP.out.2.2.2.bd
    have HDG : Hid (Calls Tryz.prog 137 #[.slice a1 l1 c1] wr fun e w' => e = .returned (.int .i64 ((d : Int) - 1)) ∧ Below wr.heap.size wr w') := by
      have h := degree_any a1 l1 c1 r1 wr hP.out.2.1.1 (by have := hLn.out; omega)
      rw [show (tr r1).length = d from hd.symm] at h
      exact Lib.hid h
    have qd : (d : Int) ≤ 1000 := by have := hLn.out; omega
    have qd0 : (0 : Int) ≤ (d : Int) := by omega
    by_cases hc : L + t + 2 ≤ 2 * d
    · have q1 : (L : Int) + (t : Int) ≤ 2 * ((d : Int) - 1) := by omega
      have HD := Lib.hid hd
      have HCC := Lib.hid hc
      clear hd hdl hc
      go_wp2_with (first
        | (go_at_call 137; go_loud (refine HDG.out.mono ?_; rintro e w2 ⟨rfl, hb⟩; have HB2 := Lib.hid hb; have HDM := Lib.hid (divmod_any b a0 l0 c0 r0 a1 l1 c1 r1 w2 (HF.out.below (bt hB.out hb)) (hP.out.1.on hb) (hP.out.2.1.on hb) (by have := hLn.out; omega) (by have := hLn.out; omega) (dg_pos.1 (by have := HCC.out; have := HD.out; omega))); clear hb))
        | (go_at_call 138; go_loud (refine HDM.out.mono ?_; rintro e w3 ⟨v1, v2, A, R, rfl, ho1, ho2, hm, hb⟩; obtain ⟨a4, c4, hv1, _⟩ := own_form ho1; subst hv1; obtain ⟨a5, c5, hv2, _⟩ := own_form ho2; subst hv2; have HLR := Lib.hid hm.out.2.2.1; have HPA := Lib.hid (own_paV ho1); have HPR := Lib.hid (own_paV ho2); have HB3 := Lib.hid (bt HB2.out hb); have HGL := Lib.hid (gao_len hGI.out.1 (by rw [HC.out.2.1, ← HD.out]; exact HCC.out) hm.out.2.2.2 hm.out.2.2.1 hm.out.2.1 hGI.out.2); have HGN := Lib.hid (gao_next hGI.out.1 (by rw [HC.out.2.1, ← HD.out]; exact HCC.out) hm.out.2.2.2 hm.out.2.2.1); have HMU := Lib.hid (mul_any b a4 A.length c4 A a3 l3 c3 u1 w3 (HF.out.below (bt hB.out HB3.out)) HPA.out (hP.out.2.2.2.on HB3.out) (by have h1 := HGL.out; have h2 := hP.out.2.2.2.len; have h3 := HC.out; omega)); have hda := HPA.out.bd; have hdr := HPR.out.bd; clear ho1 ho2 hb))
        | (go_at_call 139; go_loud (refine HMU.out.mono ?_; rintro e w4 ⟨v3, rfl, ho, hb⟩; obtain ⟨a6, c6, hv3, _⟩ := own_form ho; subst hv3; have HPM := Lib.hid (own_paV ho); have HB4 := Lib.hid (bt HB3.out hb); have hdm := HPM.out.bd; have HPR4 := Lib.hid (HPR.out.on hb); have HLM := Lib.hid (show (tr (mulL A u1)).length ≤ 300 from Nat.le_trans (mul_dg_le A u1) (by have := HGL.out; have := HC.out; omega)); have HAD := Lib.hid (padd_any a2 l2 c2 u0 a6 _ c6 (tr (mulL A u1)) w4 (hP.out.2.2.1.on HB4.out) HPM.out (by have := hLn.out; omega) (by have := HLM.out; omega)); clear ho hb))
        | (go_at_call 140; go_loud (refine HAD.out.mono ?_; rintro e w5 ⟨v4, rfl, ho, hb⟩; obtain ⟨a7, c7, hv4, _⟩ := own_form ho; subst hv4; have HPS := Lib.hid (own_paV ho); have HB5 := Lib.hid (bt HB4.out hb); have HPR5 := Lib.hid (HPR4.out.on hb); have hds := HPS.out.bd; clear ho hb)))
      have HLS := Lib.hid (show (tr (addL u0 (tr (mulL A u1)))).length ≤ 1000 from Nat.le_trans (add_dg_le u0 (tr (mulL A u1))) (by have h1 := HLM.out; have h2 := hP.out.2.2.1.len; have h3 := hLn.out; omega))
      have HLT := Lib.hid (show (tr R).length < l1 from Nat.lt_of_lt_of_le HLR.out (by rw [← hP.out.2.1.len]; exact tr_len_le r1))
      go_roundw
      case rel => exact ⟨a1, a5, a3, a7, l1, c1, (tr R).length, c5, l3, c3, _, c7, r1, tr R, u1, _, rfl, rfl, rfl, rfl, Lib.hid ⟨hP.out.2.1.on HB5.out, HPR5.out, hP.out.2.2.2.on HB5.out, HPS.out⟩, Lib.hid ⟨HGN.out, tr_tr _⟩, Lib.hid ⟨hLn.out.2.1, by have := HLT.out; have := hLn.out; omega, hLn.out.2.2.2, HLS.out⟩, Lib.hid (bt hB.out HB5.out)⟩
      case measure => simp; exact HLT.out
    · have q1 : ¬ (L : Int) + (t : Int) ≤ 2 * ((d : Int) - 1) := by omega
      have HD := Lib.hid hd
      have HCC := Lib.hid hc
      have hu0 : tr u1 ≠ [] := dg_pos.1 (gao_du hGI.out.1).1
      have HU0 := Lib.hid hu0
      clear hd hdl hc hu0
      go_wp2_with (first
        | (go_at_call 137; go_loud (refine HDG.out.mono ?_; rintro e w2 ⟨rfl, hb⟩; have HB2 := Lib.hid hb; have HDM := Lib.hid (divmod_any b a1 l1 c1 r1 a3 l3 c3 u1 w2 (HF.out.below (bt hB.out hb)) (hP.out.2.1.on hb) (hP.out.2.2.2.on hb) (by have := hLn.out; omega) (by have := hLn.out; omega) HU0.out); clear hb))
        | (go_at_call 138; go_loud (refine HDM.out.mono ?_; rintro e w3 ⟨v1, v2, A, R, rfl, ho1, ho2, hm, hb⟩; obtain ⟨a4, c4, hv1, _⟩ := own_form ho1; subst hv1; obtain ⟨a5, c5, hv2, _⟩ := own_form ho2; subst hv2; have HPA := Lib.hid (own_paV ho1); have HO1 := Lib.hid (own_base ho1 (bt hB.out HB2.out).size); have HB3 := Lib.hid (bt hB.out (bt HB2.out hb)); have HE := Lib.hid (gao_end HC.out.1 hGI.out.1 (by have := HCC.out; have := HD.out; have := HC.out.2.1; omega) HC.out.2.2.1 hm.out.2.2.2 hm.out.2.2.1 hm.out.2.1); have hda := HPA.out.bd; have hdr := (own_paV ho2).bd; clear ho1 ho2 hb hm))
        | fail)
      all_goals
        go_ret2
        refine ⟨_, _, _, A, _, rfl, HO1.out, Lib.hid ⟨fun hb => ?_, fun hb => ?_⟩, HB3.out⟩
        · first
            | exact absurd hb (by decide)
            | exact HE.out.1 (by simp [*]) (of_decide_eq_true hb)
        · first
            | exact HE.out.2 fun ⟨h1, h2⟩ => of_decide_eq_false hb h2
            | exact HE.out.2 fun ⟨h1, h2⟩ => absurd (List.eq_nil_of_length_eq_zero h1) ‹_›
end Go.Proofs.YtappfdbmhgifcaaGreatDoor
/- Contract of mend's solved: the numbers of all columns' polynomials. -/
namespace Go.Proofs.YtappfdbmhgifcaaGreatDoor
open Go.ChangeShapes Go.WideShapes Go.ChangeAt Go.RowKit Go.Shelf GF
set_option linter.unusedVariables false
set_option linter.unusedSimpArgs false
set_option maxRecDepth 100000

theorem own_lo {w : World} {base n c : Nat} {e : TypeId} {a : Option Addr} {xs : List Value} (h : w.ownsRow base e 1 (.slice a n c) n xs) : ∀ b off, a = some ⟨b, off, none⟩ → base ≤ b := fun b off e2 => by
  rcases h.2 with ⟨e, _⟩ | ⟨g', c', cur, e, hg, _⟩
  · cases e; cases e2
  · cases e; cases e2; exact hg
theorem BlkM.set {w : World} {g n s k j : Nat} {F F' : Nat → Nat → GF} (h : BlkM w g n s F) (hk : k < n) (hj : j < s) (c : GF) (hF : ∀ k' j', k' < n → j' < s → F' k' j' = if k' = k ∧ j' = j then c else F k' j') : BlkM (w.setCell ⟨g + 1 + k, j, none⟩ (.int .u8 (toI c))) g n s F' := by
  refine ⟨h.1.other _ _ (by show g ≠ g + 1 + k; omega), fun k' hk' => ?_⟩
  by_cases e : k' = k
  · subst e
    refine ((h.2 k' hk).set hj _).congr fun j' hj' => ?_
    rw [hF k' j' hk' hj']
    by_cases e2 : j' = j
    · simp only [if_pos e2, e2, and_self, if_true]
    · simp only [if_neg e2]
      rw [if_neg (fun h => e2 h.2)]
  · refine ((h.2 k' hk').other _ _ (by show g + 1 + k' ≠ g + 1 + k; omega)).congr fun j' hj' => ?_
    rw [hF k' j' hk' hj', if_neg (fun h => e h.1)]
theorem BlkM.congr {w : World} {g n s : Nat} {F F' : Nat → Nat → GF} (h : BlkM w g n s F) (hF : ∀ k' j', k' < n → j' < s → F k' j' = F' k' j') : BlkM w g n s F' :=
  ⟨h.1, fun k hk => (h.2 k hk).congr fun j hj => by rw [hF k j hk hj]⟩
theorem rw_snoc_lt {P : List (List GF)} {p : List GF} {j : Nat} (h : j < P.length) : rw_ (P ++ [p]) j = rw_ P j := by
  unfold rw_; simp only [List.getD_eq_getElem?_getD]; rw [List.getElem?_append_left h]
theorem rw_snoc_eq {P : List (List GF)} {p : List GF} {j : Nat} (h : P.length = j) : rw_ (P ++ [p]) j = p := by
  unfold rw_; simp only [List.getD_eq_getElem?_getD]; rw [List.getElem?_append_right (by omega), h, Nat.sub_self]; rfl
/-- The numbers of the columns' polynomials, and the polynomials. -/
def SolP (X : List GF) (R N P : List (List GF)) (L t n : Nat) : Prop := P.length = n ∧ ∀ j, j < n → FoundP X (colG R L j) t (rw_ P j) ∧ ∀ k, k < t → co (rw_ N k) j = co (rw_ P j) k
/-- What stands in the rows behind i columns and k numbers of the next one. -/
def soF (P : List (List GF)) (p : List GF) (i k : Nat) (k' j : Nat) : GF := if j < i then co (rw_ P j) k' else if j = i ∧ k' < k then co p k' else 0
theorem soF_zero (P : List (List GF)) (p : List GF) (i k' j : Nat) : soF P p i 0 k' j = if j < i then co (rw_ P j) k' else 0 := by
  unfold soF
  by_cases h : j < i
  · rw [if_pos h, if_pos h]
  · rw [if_neg h, if_neg h, if_neg (fun h => absurd h.2 (by omega))]
theorem soF_next (P : List (List GF)) (p : List GF) (i k k' j : Nat) : soF P p i (k + 1) k' j = if k' = k ∧ j = i then co p k else soF P p i k k' j := by
  unfold soF
  by_cases e : k' = k ∧ j = i
  · rw [if_pos e, if_neg (by omega), if_pos (by omega), e.1]
  · rw [if_neg e]
    by_cases h : j < i
    · rw [if_pos h, if_pos h]
    · rw [if_neg h, if_neg h]
      by_cases h2 : j = i ∧ k' < k
      · rw [if_pos h2, if_pos (by omega)]
      · rw [if_neg h2, if_neg (by omega)]
theorem soF_all {P : List (List GF)} {p : List GF} {i : Nat} (hP : P.length = i) (q : List GF) (k' j : Nat) : soF P p i p.length k' j = soF (P ++ [p]) q (i + 1) 0 k' j := by
  rw [soF_zero]
  unfold soF
  by_cases h : j < i
  · rw [if_pos h, if_pos (by omega), rw_snoc_lt (by omega)]
  · rw [if_neg h]
    by_cases e : j = i
    · rw [if_pos (show j < i + 1 by omega), e, rw_snoc_eq hP]
      by_cases h2 : k' < p.length
      · rw [if_pos ⟨rfl, h2⟩]
      · rw [if_neg (fun h => h2 h.2), co_ge (by omega)]
    · rw [if_neg (show ¬ (j = i ∧ k' < p.length) from fun h => e h.1), if_neg (show ¬ j < i + 1 by omega)]

set_option maxHeartbeats 4000000 in
theorem solved_any (b L t n : Nat) (aX : Option Addr) (cX : Nat) (X : List GF) (aR : Option Addr) (cR : Nat) (R : List (List GF)) (w : World) (hf : Fld w b) (hX : Pa w aX L cX X) (hR : Mat w aR L cR R) (hA : Apart X) (ht : 1 ≤ t) (htL : t ≤ L) (hL : L ≤ 200) (hw : ∀ k, k < L → (rw_ R k).length = n) (hn : n ≤ 1000) :
    Calls Tryz.prog 96 #[.pointer (some ⟨b, 0, none⟩), .int .i64 (t : Nat), .slice aX L cX, .slice aR L cR] w fun e w' => ∃ (a : Option Addr) (m c : Nat) (bb : Bool), e = .returned (.tuple #[.slice a m c, .bool bb]) ∧
      Hid ((bb = true → ∃ g N P, a = some ⟨g, 0, none⟩ ∧ m = t ∧ c = t ∧ RB w' w.heap.size g t n N ∧ SolP X R N P L t n) ∧ (bb = false → ∃ j, j < n ∧ ∀ e q, ¬ RightP X (colG R L j) t e q)) ∧ Below w.heap.size w w' := by
  have HVA := Lib.hid (vanish_any b aX L cX X w hf hX (by omega))
  obtain ⟨bR, oR, a0, c0, hbe, hbR, hc0, hp0⟩ := hR.row (i := 0) (by omega)
  rw [hw 0 (by omega)] at hc0 hp0
  subst hbe
  have HX := Lib.hid hX; have HR := Lib.hid hR; have HF := Lib.hid hf
  have HC := Lib.hid (And.intro hA (And.intro hX.len (And.intro ht (And.intro htL (And.intro hL hn)))))
  have HW := Lib.hid hw
  have hbx := hX.bd; have hbr := hR.bd; have hb0 := hp0.bd
  have qL : (0 : Int) < (L : Int) := by omega
  have qt : (t : Int) ≤ 200 := by omega
  rw [Nat.add_zero] at hc0
  clear hf hX hR hA ht htL hL hw hn hp0
  go_enter Tryz.func96, Tryz.ntmps96
  go_wp2_with (first
    | (go_at_call 114; go_loud (refine HVA.out.mono ?_; rintro e w1 ⟨gV, rfl, ho, hb⟩; have HPV := Lib.hid (Pa.own2 ho); have HB1 := Lib.hid hb; have HTH := Lib.hid (thr_any b L n (some ⟨gV, 0, none⟩) (L + 1) X aX cX (some ⟨bR, oR, none⟩) cR R w1 (HF.out.below hb) (Pa.own2 ho) (HX.out.on hb) (HR.out.on hb) HC.out.1 (by have := HC.out; omega) (by have := HC.out; omega) HW.out (by have := HC.out; omega)); have hc1 := (hb.cell (p := ⟨bR, oR, none⟩) hbR).trans hc0; clear ho hb))
    | (go_at_call 115; go_loud (refine HTH.out.mono ?_; rintro e w2 ⟨gW, M, rfl, hrb, hti, hb⟩; have HMW := Lib.hid (hrb.mat (by have := HC.out; omega)); have HB2 := Lib.hid (bt HB1.out hb); have HPV2 := Lib.hid (HPV.out.on hb); have hc2 := (hb.cell (p := ⟨bR, oR, none⟩) (by have := HB1.out.size; show bR < _; omega)).trans hc1; have HBL := Lib.hid (blank_any t n w2 (by have := HC.out; omega) (by have := HC.out; omega)); clear hrb hb))
    | (go_at_call 116; go_loud (refine HBL.out.mono ?_; rintro e w3 ⟨rfl, hm, hb⟩; have HM3 := Lib.hid hm; have H32 := Lib.hid hb; have hc3 := (hb.cell (p := ⟨bR, oR, none⟩) (by have := HB2.out.size; show bR < _; omega)).trans hc2; clear hm hb)))
  obtain ⟨g, hg⟩ : ∃ g, g = w2.heap.size := ⟨_, rfl⟩
  rw [← hg] at HM3
  have HG := Lib.hid hg
  rw [← hg]
  clear hg
  go_loopw [40] (fun j wr => ∃ (i : Nat) (P : List (List GF)), i ≤ n ∧ P.length = i ∧ j = .int .i64 (i : Nat) ∧ Hid (BlkM wr g t n (soF P [] i 0)) ∧ Hid (∀ j, j < i → FoundP X (colG R L j) t (rw_ P j)) ∧ Hid (Below g w2 wr))
    (fun j _ => n - (intOf j).toNat)
  case atStart => exact ⟨0, [], Nat.zero_le _, rfl, rfl, Lib.hid (HM3.out.congr fun k' j' _ _ => by rw [soF_zero, if_neg (by omega)]), Lib.hid (fun j hj => absurd hj (by omega)), Lib.hid (by rw [HG.out]; exact H32.out)⟩
  case round =>
    obtain ⟨i, P, hi, hPl, rfl, hM, hFo, hB⟩ := hrel
    rename World => w4
    have h24 : Below w2.heap.size w2 w4 := by rw [← HG.out]; exact hB.out
    have H24 := Lib.hid h24
    have hc4 := (h24.cell (p := ⟨bR, oR, none⟩) (by have := HB2.out.size; show bR < _; omega)).trans hc2
    clear h24
    by_cases hlt : i < n
    · have qi : (i : Int) < (n : Int) := by omega
      have qi0 : (0 : Int) ≤ (i : Int) := by omega
      have HCO := Lib.hid (column_any (some ⟨gW, 0, none⟩) L L i n M w4 (HMW.out.on H24.out) hti.out.2.1 hlt (by have := HC.out; omega))
      have HLT := Lib.hid hlt
      clear hlt
      go_wp2_with (first
        | (go_at_call 118; go_loud (refine HCO.out.mono ?_; rintro e w5 ⟨gc, rfl, ho, hb⟩; have HB45 := Lib.hid hb; have HFN := Lib.hid (found_any b L t (some ⟨gV, 0, none⟩) (L + 1) X (colG R L i) (some ⟨gc, 0, none⟩) L (colG M L i) w5 (HF.out.below (bt HB2.out (bt H24.out hb))) (HPV2.out.on (bt H24.out hb)) (Pa.own2 ho) HC.out.1 HC.out.2.1 (fun p hp => (by have h9 := hti.out.2.2 i HLT.out p hp; rw [if_pos hp] at h9; rw [h9, colG_co _ hp])) HC.out.2.2.1 HC.out.2.2.2.1 HC.out.2.2.2.2.1); clear ho hb))
        | (go_at_call 117; go_loud (refine HFN.out.mono ?_; rintro e w6 ⟨ap, m, cp, p, bb, rfl, ho, hfp, hb⟩; have HOP := Lib.hid ho; have HB46 := Lib.hid (bt HB45.out hb); have HM6 := Lib.hid (hM.out.on (bt HB45.out hb)); have hdp := (own_paV ho).bd; clear ho hb)))
      · have hbb : bb = false := by cases bb <;> simp_all
        have HNO := Lib.hid (hfp.out.2 hbb)
        have HB9 := Lib.hid (bt HB2.out (bt H24.out HB46.out))
        go_ret2
        exact ⟨_, _, _, false, rfl, Lib.hid ⟨(fun h => by cases h), fun _ => ⟨i, HLT.out, HNO.out⟩⟩, HB9.out⟩
      · have hbb : bb = true := by cases bb <;> simp_all
        have HFP := Lib.hid (hfp.out.1 hbb)
        have HPP := Lib.hid (own_paV HOP.out)
        have HPL := Lib.hid (show p.length = m from HPP.out.len)
        have HNE := Lib.hid (show ∀ b off, ap = some ⟨b, off, none⟩ → ∀ k, k < t → b ≠ g + 1 + k from fun b off e k hk => by
          have h1 := own_lo HOP.out b off e
          have h2 := (hM.out.2 k hk).lt
          have h3 := HB45.out.size
          omega)
        have HB26 := Lib.hid (show Below g w2 w6 from hB.out.trans (HB46.out.mono (by have := hM.out.1.lt; omega)))
        have HM6' := Lib.hid (HM6.out.congr (F' := soF P p i 0) fun k' j' _ _ => by rw [soF_zero, soF_zero])
        have HPL2 := Lib.hid hPl
        clear hbb hPl
        go_loopw [57] (fun j wr => ∃ k : Nat, k ≤ m ∧ j = .int .i64 (k : Nat) ∧ Hid (BlkM wr g t n (soF P p i k)) ∧ Hid (Pa wr ap m cp p) ∧ Hid (Below g w2 wr))
          (fun j _ => m - (intOf j).toNat)
        case atStart => exact ⟨0, Nat.zero_le _, rfl, HM6', HPP, HB26⟩
        case round =>
          obtain ⟨k, hk, rfl, hM7, hP7, hB7⟩ := hrel
          rename World => w7
          by_cases hlk : k < m
          · obtain ⟨bp, op, rfl, hbp, hcp⟩ := hP7.out.at_ hlk
            have hkt : k < t := by have := HFP.out.2.1; have := HPL.out; omega
            have ho1 := hM7.out.1.cell hkt
            have ho2 := (hM7.out.2 k hkt).cell HLT.out
            have hfz := (hM7.out.2 k hkt).free i
            have HM8 := Lib.hid (hM7.out.set (F' := soF P p i (k + 1)) hkt HLT.out (co p k) fun k' j' _ _ => soF_next P p i k k' j')
            have HP8 := Lib.hid (hP7.out.but (gb_set w7 (g + 1 + k) i (.int .u8 (toI (co p k)))) (fun b off e => HNE.out b off e k hkt))
            have HB8 := Lib.hid (hB7.out.setCell (p := ⟨g + 1 + k, i, none⟩) (by show g ≤ g + 1 + k; omega) (.int .u8 (toI (co p k))))
            have qk : (k : Int) < (m : Int) := by omega
            have qk0 : (0 : Int) ≤ (k : Int) := by omega
            have qkt : (k : Int) < (t : Int) := by omega
            have HLK := Lib.hid hlk
            clear hlk hkt
            go_wp2
            go_roundw
            case rel => exact ⟨k + 1, by have := HLK.out; omega, by go_num, HM8, HP8, HB8⟩
            case measure => simp [intOf]; have := HLK.out; omega
          · have HM8 := Lib.hid (hM7.out.congr (F' := soF (P ++ [p]) [] (i + 1) 0) fun k' j' _ _ => by
              rw [show k = p.length by have := HPL.out; omega]
              exact soF_all HPL2.out [] k' j')
            have HFO := Lib.hid (show ∀ j, j < i + 1 → FoundP X (colG R L j) t (rw_ (P ++ [p]) j) from fun j hj => by
              by_cases e : j < i
              · rw [rw_snoc_lt (by have := HPL2.out; omega)]; exact hFo.out j e
              · obtain rfl : j = i := by omega
                rw [rw_snoc_eq HPL2.out]; exact HFP.out)
            have HLN := Lib.hid (show (P ++ [p]).length = i + 1 by rw [List.length_append, HPL2.out]; rfl)
            have qk : ¬ (k : Int) < (m : Int) := by omega
            clear hlk
            go_wp2
            go_roundw
            case rel => exact ⟨i + 1, P ++ [p], by have := HLT.out; omega, HLN.out, by go_num, HM8, HFO, hB7⟩
            case measure => simp [intOf]; have := HLT.out; omega
    · obtain rfl : n = i := by omega
      have HRB := Lib.hid ((hM.out.rb (by have := HC.out; omega)).low (B' := w.heap.size) (by rw [HG.out]; exact HB2.out.size))
      have HSO := Lib.hid (show SolP X R (rowsF t n (soF P [] n 0)) P L t n from ⟨hPl, fun j hj => ⟨hFo.out j hj, fun k hk => by rw [rowsF_co _ hk hj, soF_zero, if_pos hj]⟩⟩)
      have HB9 := Lib.hid (bt HB2.out H24.out)
      clear hPl hlt
      go_wp2
      go_ret2
      exact ⟨_, _, _, true, rfl, Lib.hid ⟨fun _ => ⟨g, _, P, rfl, rfl, rfl, HRB.out, HSO.out⟩, fun h => by cases h⟩, HB9.out⟩
end Go.Proofs.YtappfdbmhgifcaaGreatDoor
/- Contract of mend's value: what polynomials tell at a place, by whole rows. -/
namespace Go.Proofs.YtappfdbmhgifcaaGreatDoor
open Go.ChangeShapes Go.WideShapes Go.ChangeAt Go.RowKit Go.Shelf GF
set_option linter.unusedVariables false
set_option linter.unusedSimpArgs false
set_option maxRecDepth 100000
attribute [local go_sem] Oper.semAt_some

set_option maxHeartbeats 4000000 in
theorem mvalue_any (b T n : Nat) (aR : Option Addr) (cR : Nat) (R : List (List GF)) (x : GF) (w : World) (hf : Fld w b) (hR : Mat w aR T cR R) (hw : ∀ k, k < T → (rw_ R k).length = n) (hT : 1 ≤ T) (hT2 : T ≤ 255) (hn : n ≤ 1000) :
    Calls Tryz.prog 71 #[.pointer (some ⟨b, 0, none⟩), .slice aR T cR, .int .u8 (toI x)] w fun e w' => ∃ a' c', e = .returned (.slice a' n c') ∧ Pa w' a' n c' (valR R T n x) ∧ (∀ bb off, a' = some ⟨bb, off, none⟩ → w.heap.size ≤ bb) ∧ Below w.heap.size w w' := by
  obtain ⟨A, C, hA, hP⟩ := hR.slices
  have hA2 : ∀ j, j < T → ∃ b off, aR = some ⟨b, off, none⟩ ∧ b < w.heap.size ∧ w.cell? ⟨b, off + j, none⟩ = some (.slice (A j) n (C j)) := fun j hj => by
    obtain ⟨b, off, e, hb, hc⟩ := hA j hj; rw [hw j hj] at hc; exact ⟨b, off, e, hb, hc⟩
  have hP2 : ∀ j, j < T → Pa w (A j) n (C j) (rw_ R j) := fun j hj => by
    have h := hP j hj; rw [hw j hj] at h; exact h
  have HA := Lib.hid hA2
  have HP := Lib.hid hP2
  have HW := Lib.hid hw
  have HF := Lib.hid hf
  have HB := Lib.hid hR.bd
  have HT := Lib.hid (And.intro hT hT2)
  have HN := Lib.hid hn
  clear hA hP hA2 hP2 hf hR hw hT hn
  refine (callsIn_wide (n := 3)).1 ?_
  refine callsIn_of_wp_marks Tryz.func71 rfl trivial ?_ rfl
  simp only [Tryz.ntmps71, List.size_toArray, List.length_cons, List.length_nil, Nat.reduceAdd, Nat.reduceSub, Array.replicate_succ, Array.replicate_zero, List.push_toArray, List.append_toArray, List.nil_append, List.cons_append]
  gi_wp2_with (refine ⟨trivial, ?_⟩; gi_at_call 80; refine (callsIn_wide.2 (backR_any _ _ _ _)).mono ?_; rintro e w' ⟨rfl, rfl⟩)
  obtain ⟨V1, hV1⟩ : ∃ V, V = w.alloc (.cells #[.pointer (some ⟨b, 0, none⟩)] 32) := ⟨_, rfl⟩
  obtain ⟨V2, hV2⟩ : ∃ V, V = V1.alloc (.cells #[.int .u8 (toI x)] 5) := ⟨_, rfl⟩
  obtain ⟨V3, hV3⟩ : ∃ V, V = V2.alloc (.cells #[] 5) := ⟨_, rfl⟩
  obtain ⟨V4, hV4⟩ : ∃ V, V = V3.alloc (.cells #[.slice (some ⟨w.heap.size + 1 + 1, 0, none⟩) 0 0] 22) := ⟨_, rfl⟩
  obtain ⟨V5, hV5⟩ : ∃ V, V = V4.alloc (.cells #[.slice aR T cR] 28) := ⟨_, rfl⟩
  have s1 : V1.heap.size = w.heap.size + 1 := by rw [hV1]; simp
  have s2 : V2.heap.size = w.heap.size + 1 + 1 := by rw [hV2]; simp [s1]
  have s3 : V3.heap.size = w.heap.size + 1 + 1 + 1 := by rw [hV3]; simp [s2]
  have s4 : V4.heap.size = w.heap.size + 1 + 1 + 1 + 1 := by rw [hV4]; simp [s3]
  have s5 : V5.heap.size = w.heap.size + 1 + 1 + 1 + 1 + 1 := by rw [hV5]; simp [s4]
  have B1 : Below w.heap.size w V1 := by rw [hV1]; exact (Below.refl _ _).alloc (Nat.le_refl _) _
  have B2 : Below w.heap.size w V2 := by rw [hV2]; exact B1.alloc (by omega) _
  have B3 : Below w.heap.size w V3 := by rw [hV3]; exact B2.alloc (by omega) _
  have B4 : Below w.heap.size w V4 := by rw [hV4]; exact B3.alloc (by omega) _
  have B5 : Below w.heap.size w V5 := by rw [hV5]; exact B4.alloc (by omega) _
  have c0 : Boxed V5 w.heap.size 32 (.pointer (some ⟨b, 0, none⟩)) := by rw [hV5, hV4, hV3, hV2, hV1]; exact ((((Boxed.new w _ _).alloc _).alloc _).alloc _).alloc _
  have c1 : Boxed V5 (w.heap.size + 1) 5 (.int .u8 (toI x)) := by rw [← s1, hV5, hV4, hV3, hV2]; exact (((Boxed.new V1 _ _).alloc _).alloc _).alloc _
  have c3 : Boxed V5 (w.heap.size + 1 + 1 + 1) 22 (.slice (some ⟨w.heap.size + 1 + 1, 0, none⟩) 0 0) := by rw [← s3, hV5, hV4]; exact (Boxed.new V3 _ _).alloc _
  have c4 : Boxed V5 (w.heap.size + 1 + 1 + 1 + 1) 28 (.slice aR T cR) := by rw [← s4, hV5]; exact Boxed.new V4 _ _
  rw [← hV1, ← hV2, ← hV3, ← hV4, ← hV5]
  have HB5 := Lib.hid B5
  have HS5 := Lib.hid s5
  have C0 := Lib.hid c0; have C1 := Lib.hid c1; have C3 := Lib.hid c3; have C4 := Lib.hid c4
  clear hV1 hV2 hV3 hV4 hV5 s1 s2 s3 s4 s5 B1 B2 B3 B4 B5 c0 c1 c3 c4
  obtain ⟨s, hs⟩ : ∃ s, s = w.heap.size := ⟨_, rfl⟩
  rw [← hs] at HB5 HS5 C0 C1 C3 C4 ⊢
  have Hs := Lib.hid hs
  clear hs
  have HRD : Hid (RdR (s + 1 + 1 + 1 + 1) T aR cR A (fun _ => n) C V5) := Lib.hid ⟨C4.out.cell, fun j hj => by
    obtain ⟨b', off, e, hb, hc⟩ := HA.out j hj
    exact ⟨b', off, e, (HB5.out.cell (p := ⟨b', off + j, none⟩) (by rw [Hs.out]; exact hb)).trans hc⟩⟩
  have hle : T ≤ 140737488355328 := by have := HT.out.2; omega
  refine wpIn_rangeFunc_ownF rfl (by omega) (gf := 102) (lb := #[.pointer (some ⟨s + 1 + 1 + 1 + 1, 0, none⟩)]) rfl trivial (enters_of Tryz.func102 (by kernel_rfl) rfl)
    (backR_stops Fence.wide (3 - 1) trivial rfl (by omega) (s + 1 + 1 + 1 + 1) T cR aR A (fun _ => n) C hle V5 (by rw [HS5.out]; omega) HRD.out (fun h0 bb off e => by
      obtain ⟨b', off', e', hb, hc⟩ := HA.out 0 h0
      rw [e] at e'; cases e'; rw [HS5.out, Hs.out]; omega)) (fun h k r => k (h r)) (fun W l o o' _ hl ho _ r => r.put o' hl ho) (Below.refl _ _) (fun _ => by rfl)
    (fun pre W => ((W.cell? ⟨s, 0, none⟩ = some (.pointer (some ⟨b, 0, none⟩)) ∧ W.cell? ⟨s + 1, 0, none⟩ = some (.int .u8 (toI x)) ∧ (∃ ao co', W.cell? ⟨s + 1 + 1 + 1, 0, none⟩ = some (.slice ao (hrR R x pre).length co') ∧ Pa W ao (hrR R x pre).length co' (hrR R x pre) ∧ ∀ bb off, ao = some ⟨bb, off, none⟩ → s ≤ bb) ∧ W.frozen? ⟨s + 1 + 1 + 1, 0, none⟩ = false) ∧ V5.heap.size ≤ W.heap.size) ∧ Below s w W)
    (fun _ _ _ => False)
    (OwnFrom.and (Own.from (fun t A B row hs hg hr => ⟨⟨cell_kept hs.1.1 hg hr, cell_kept hs.1.2.1 hg hr, (by obtain ⟨ao, co', h1, h2⟩ := hs.1.2.2.1; exact ⟨ao, co', cell_kept h1 hg hr, h2.1.noncell hg hr, h2.2⟩), (by obtain ⟨ao, co', h1, h2⟩ := hs.1.2.2.1; exact (frozen_kept h1 hg hr).trans hs.1.2.2.2)⟩, Nat.le_trans hs.2 hg.size⟩) _) (ownFrom_below (by rw [Hs.out]; exact Nat.le_refl _) (by rw [HS5.out]; omega)))
    (fun _ _ _ _ _ hs _ _ => hs)
    ⟨⟨⟨C0.out.cell, C1.out.cell, ⟨_, _, C3.out.cell, ⟨⟨rfl, allB_iL _, Bs.nil _ _ _, Nat.le_refl _, Nat.zero_le _⟩, fun e => by cases e⟩, fun bb off e => by cases e; omega⟩, C3.out.frozen⟩, Nat.le_refl _⟩, HB5.out⟩
    (fun y => { tmps := #[.pointer (some ⟨b, 0, none⟩), .slice aR T cR, .int .u8 (toI x), .pointer (some ⟨s, 0, none⟩), undef, .pointer (some ⟨s + 1, 0, none⟩), .slice none 0 0, .pointer (some ⟨s + 1 + 1 + 1, 0, none⟩), undef, .slice (A y.1) n (C y.1), .slice (some ⟨s + 1 + 1, 0, none⟩) 0 0, .slice aR T cR, .func (.func 102) #[] #[.pointer (some ⟨s + 1 + 1 + 1 + 1, 0, none⟩)], .int .i64 ((y.1 : Nat) : Int), .slice (A y.1) n (C y.1), undef, undef, undef, undef, undef, undef], defers := [] }) ?assign ?body ?done ?stop
  case assign =>
    intro l y W K hK
    dsimp only [itvR]
    gi_wp2
    exact hK
  case body =>
    rintro l pre y W ⟨⟨⟨h1, h2, ⟨ao, co', h3, h4, hnw⟩, h5⟩, h6⟩, hB⟩ _
    obtain ⟨j, hj⟩ := y
    have hfw := HF.out.below (show Below w.heap.size w W by rw [← Hs.out]; exact hB)
    have hpw := (HP.out j hj).on (show Below w.heap.size w W by rw [← Hs.out]; exact hB)
    obtain ⟨o, ho⟩ : ∃ o, o = hrR R x pre := ⟨_, rfl⟩
    have HO := Lib.hid (hrR_snoc R x pre (⟨j, hj⟩ : Fin T))
    rw [← ho] at h3 h4 HO
    have HSU := Lib.hid (fsum_any b (toI x) _ _ _ (iL (rw_ R j)) _ _ _ (iL o) W hfw (toI_bd x) hpw.1 h4.1 (by have := HN.out; omega))
    rw [sumL_G] at HSU
    have H1 := Lib.hid h1; have H2 := Lib.hid h2; have H3 := Lib.hid h3; have H5 := Lib.hid h5; have H6 := Lib.hid h6; have HBB := Lib.hid hB
    have HRL := Lib.hid (HW.out j hj)
    clear hfw hpw h4 hB h6 ho
    dsimp only
    gi_wp2_with (refine ⟨trivial, ?_⟩; gi_at_call 81; refine (CallsIn.inRound l (callsIn_wide.2 HSU.out)).mono ?_; rintro e W1 ⟨g, rfl, hown, hb1⟩; have HO1 := Lib.hid hown; have HB1 := Lib.hid hb1; have k3 := cell_of_heap h3 (hb1.block (s + 1 + 1 + 1) (by have := H6.out; rw [HS5.out] at this; omega)); have k5 : W1.frozen? ⟨s + 1 + 1 + 1, 0, none⟩ = false := (hb1.frozen (p := ⟨s + 1 + 1 + 1, 0, none⟩) (by have := H6.out; rw [HS5.out] at this; show s + 1 + 1 + 1 < _; omega)).trans h5; clear hown hb1)
    have hle5 : s + 1 + 1 + 1 + 1 + 1 ≤ W.heap.size := by have := H6.out; rw [HS5.out] at this; exact this
    have hW1 := HB1.out.size
    have hgl := HO1.out.lt g rfl
    have hbk : ∀ k, k < W.heap.size → k ≠ s + 1 + 1 + 1 → (W1.setCell ⟨s + 1 + 1 + 1, 0, none⟩ (.slice (some ⟨g, 0, none⟩) n n)).heap[k]? = W.heap[k]? := fun k h1 h2 => by
      rw [Below.heap_setCell _ _ _ _ h2]; exact HB1.out.block k h1
    have hp9 : Pa (W1.setCell ⟨s + 1 + 1 + 1, 0, none⟩ (.slice (some ⟨g, 0, none⟩) n n)) (some ⟨g, 0, none⟩) n n (sumG (rw_ R j) x o) :=
      (Pa.own2 HO1.out).but (gb_set _ _ _ _) (fun b off e => by cases e; omega)
    have hl9 : (hrR R x (pre ++ [(⟨j, hj⟩ : Fin T)])).length = n := by rw [HO.out, sumG_len]; exact HRL.out
    refine ⟨(KeepsOthers.ofBelow HB1.out).trans (KeepsOthers.setCell _ _ _), fun r => ⟨cell_of_heap r.1 (hbk _ (by show s + 1 + 1 + 1 + 1 < _; omega) (by show s + 1 + 1 + 1 + 1 ≠ _; omega)), fun i hi => ?_⟩, ⟨⟨cell_of_heap H1.out (hbk _ (by show s < _; omega) (by show s ≠ _; omega)), cell_of_heap H2.out (hbk _ (by show s + 1 < _; omega) (by show s + 1 ≠ _; omega)), ⟨some ⟨g, 0, none⟩, n, ?_, ?_, fun bb off e => by cases e; omega⟩, ?_⟩, ?_⟩, ?_⟩
    · obtain ⟨b', off, e, hc⟩ := r.2 i hi
      obtain ⟨b2, off2, e2, hb2, _⟩ := HA.out i hi
      rw [e] at e2; cases e2
      have := Hs.out
      exact ⟨b', off, e, cell_of_heap hc (hbk _ (by show b' < _; omega) (by show b' ≠ _; omega))⟩
    · rw [hl9]; exact World.cell?_setCell_same' _ _ _ (by rw [k3]; rfl)
    · rw [hl9, HO.out]; exact hp9
    · rw [World.frozen?_setCell]; exact k5
    · exact Nat.le_trans H6.out (Nat.le_trans hW1 (by simp))
    · exact (HBB.out.trans (HB1.out.mono (by omega))).setCell (p := ⟨s + 1 + 1 + 1, 0, none⟩) (by show s ≤ s + 1 + 1 + 1; omega) _
  case done =>
    rintro D ys W hD ⟨hys, hbk⟩ ⟨⟨⟨h1, h2, ⟨ao, co', h3, h4, hnw⟩, h5⟩, h6⟩, hB⟩ hK
    have he := hrR_all (x := x) HW.out hys hbk HT.out.1
    have hl : (hrR R x ys).length = n := hrR_len R x T n HW.out ys (by rw [hys]; exact HT.out.1)
    rw [hl] at h3 h4
    rw [he] at h4
    have H4 := Lib.hid h4
    have HBB := Lib.hid hB
    clear h4 hB he hl
    gi_wp2
    refine ⟨by simp, .inl ⟨_, _, rfl, run_takeDeferred hK, ?_⟩⟩
    have hkb := belowK_b (w := V5) (n₀ := s) (by rw [HS5.out]; omega) W D _ (.deferred none) hD hK rfl rfl
    refine ⟨_, results_tmp rfl _ _ _, ao, co', rfl, H4.out.noncell (grownBy_putObj' W D (.deferred none)) (fun r e => by cases e; exact ⟨_, hK, rfl⟩), by rw [← Hs.out]; exact hnw, by rw [← Hs.out]; exact HBB.out.trans hkb⟩
  case stop =>
    rintro D c pre W _ _ h _
    exact h.elim
end Go.Proofs.YtappfdbmhgifcaaGreatDoor
