/- Contracts of mend's Column. -/
import Derived.Test.YtfmjfdbbjggcpaaZj
namespace Go.Proofs.Ytfmjfdbbjggcpaa
open Go.ChangeShapes Go.WideShapes Go.ChangeAt Go.RowKit Go.Shelf GF
set_option linter.unusedVariables false
set_option linter.unusedSimpArgs false
set_option maxRecDepth 100000

theorem colErrC : ColErrC := by
  intro b L K t e aX cX X aY cY Y w hf hX hY _ _ hL hK hE
  have HCK := Lib.hid (mchk_any b L K t e aX cX X w hf hX)
  have hbx := hX.bd; have hby := hY.bd
  obtain ⟨er, her⟩ : ∃ er, er = colErr X K t e := ⟨_, rfl⟩
  rw [← her] at HCK hE
  rw [← her]
  have q : (er != 0) = true := by rw [bne_iff_ne]; exact hE
  clear hf hX hY hE her
  go_enter Try.func7, Try.ntmps7
  go_wp2_with (go_at_call 20; go_loud (refine HCK.out.mono ?_; rintro r w1 ⟨rfl, hb⟩; have HB1 := Lib.hid hb; clear hb))
  go_ret2
  exact ⟨_, _, rfl, HB1.out⟩
theorem one_col {Y : List GF} {L : Nat} (h : Y.length = L) : colM (oneR Y) L 0 = Y := by
  refine ext_co (by rw [colM_len, h]) fun k hk => ?_
  rw [colM_len] at hk
  rw [colM_co _ hk, oneR_row (by omega)]
  rfl
theorem col_tr {N P : List (List GF)} {t n j : Nat} (h : NumP N P t n) (hj : j < n) (hp : tr (rw_ P j) = rw_ P j) : tr (colM N t j) = rw_ P j := by
  have e : tr (colM N t j) = tr (rw_ P j) := tr_ext fun k => by
    by_cases hk : k < t
    · rw [colM_co _ hk]; exact (h.2.2 j hj).2 k hk
    · rw [co_ge (by rw [colM_len]; omega), co_ge (by have := (h.2.2 j hj).1; omega)]
  rw [e, hp]
set_option maxHeartbeats 4000000 in
theorem col_any (b L t : Nat) (e : Int) (aX : Option Addr) (cX : Nat) (X : List GF) (aY : Option Addr) (cY : Nat) (Y : List GF) (w : World) (hf : Fld w b) (hX : Pa w aX L cX X) (hY : Pa w aY L cY Y) (he : (Lit.int .i64 e).wf = true) (he0 : 0 ≤ e) (ht : 1 ≤ t) (htL : t ≤ L) (hL : L ≤ 100) (hE : plErr X = 0) (er' : Int)
    (hr : (er' = 0 ∧ ∃ p, RightP X Y t e.toNat p) ∨ (er' = 11 ∧ ∀ p, ¬ RightP X Y t e.toNat p)) :
    Calls Try.prog 7 #[.pointer (some ⟨b, 0, none⟩), .int .i64 (t : Nat), .slice aX L cX, .slice aY L cY, .int .i64 e] w fun r w' => ∃ (a' : Option Addr) (n' c' : Nat), r = .returned (.tuple #[.slice a' n' c', .int .i64 er']) ∧
      (er' = 0 → ∃ p, RightP X Y t e.toNat p ∧ n' = p.length ∧ Pa w' a' n' c' p) ∧ (er' = 11 → n' = 0) ∧ Below w.heap.size w w' := by
  have hA : Apart X := (plErr_zero.1 hE).2.2
  have hl := hX.len
  have HCK : Hid (Calls Try.prog 20 #[.pointer (some ⟨b, 0, none⟩), .int .i64 (t : Nat), .slice aX L cX, .int .i64 (L : Nat), .int .i64 e] w fun r w' => r = .returned (.int .i64 0) ∧ Below w.heap.size w w') := by
    have h := mchk_any b L L (t : Int) e aX cX X w hf hX
    rw [colErr_zero.2 ⟨hl, by omega, by omega, he0, by omega, hE⟩] at h
    exact Lib.hid h
  obtain ⟨bY, oY, rfl, hbY, _⟩ := hY.at_ (k := 0) (by omega)
  have HX := Lib.hid hX; have HY := Lib.hid hY; have HF := Lib.hid hf
  have HC := Lib.hid (And.intro hA (And.intro hl (And.intro ht (And.intro htL hL))))
  have HE := Lib.hid (And.intro he he0)
  have HYL := Lib.hid hY.len
  have hbx := hX.bd; have hby := hY.bd
  have HR := Lib.hid hr
  have HBY := Lib.hid hbY
  clear hf hX hY hA hl ht htL hL he he0 hE hr hbY
  rcases HR.out with ⟨rfl, hex⟩ | ⟨rfl, hno⟩
  · have HEX := Lib.hid hex
    clear hex
    go_enter Try.func7, Try.ntmps7
    go_wp2_with (first
      | (go_at_call 20; go_loud (refine HCK.out.mono ?_; rintro r w1 ⟨rfl, hb⟩; have HB1 := Lib.hid hb; clear hb))
      | (go_at_call 23; go_loud (refine (chB_any (some ⟨bY, oY, none⟩) L cY w1).mono ?_; rintro r w2 ⟨rfl, hw2⟩; have hA2 := (show Below w1.heap.size w1 w2 from (by rw [hw2]; exact ((Below.refl _ _).alloc (Nat.le_refl _) _).alloc (by simp) _)); have HB2 := Lib.hid (bt HB1.out hA2); have HCO := Lib.hid (collectR_any w1.heap.size (w1.heap.size + 1) bY oY L cY Y (by have := HC.out; omega) w2 ⟨(by rw [hw2]; simp <;> omega), (by rw [hw2]; simp <;> omega), (by rw [hw2]; simp), (by rw [hw2]; simp)⟩ (HY.out.on HB2.out)); clear hw2 hA2))
      | (go_at_call 22; go_loud (refine HCO.out.mono ?_; rintro r w3 ⟨aR, cR, rfl, hm, hb⟩; have HM3 := Lib.hid hm; have hbr := hm.bd; have HB3 := Lib.hid (bt HB2.out hb); have HME := Lib.hid (mended_any b L t 1 e aX cX X aR cR (oneR Y) w3 (HF.out.below HB3.out) (HX.out.on HB3.out) hm HC.out.1 HC.out.2.2.1 HC.out.2.2.2.1 (by have := HC.out; omega) (fun k hk => (by rw [oneR_row (by rw [HYL.out]; exact hk)]; rfl)) (by omega) HE.out.1 HE.out.2); clear hm hb))
      | (go_at_call 21; go_loud (refine HME.out.mono ?_; rintro r w4 ⟨a1, a2, m1, c1, m2, c2, er, rfl, hs, hb⟩; obtain ⟨rfl, N, P, rfl, hmN, hnp, _, _, hrp⟩ := (hs.out.resolve_right fun ⟨_, j, hj, h⟩ => (by obtain rfl : j = 0 := (by omega); rw [one_col HYL.out] at h; obtain ⟨p, hp⟩ := HEX.out; exact h p hp)); have HMN := Lib.hid hmN; have HNP := Lib.hid hnp; have HRP := Lib.hid (hrp 0 (by omega)); have HB4 := Lib.hid (bt HB3.out hb); have hbn := hmN.bd; have HCL := Lib.hid (column_any a1 m1 c1 0 1 N w4 hmN hnp.1 (by omega) (by have := HC.out; omega)); clear hs hb hmN hnp hrp))
      | (go_at_call 24; go_loud (refine HCL.out.mono ?_; rintro r w5 ⟨gc, rfl, ho, hb⟩; have HB5 := Lib.hid (bt HB4.out hb); have HTR := Lib.hid (trim_any (some ⟨gc, 0, none⟩) m1 m1 (colM N m1 0) w5 (Pa.own2 ho) (by have := HC.out; omega)); clear ho hb))
      | (go_at_call 12; go_loud (refine HTR.out.mono ?_; rintro r w6 ⟨v, rfl, ho, hb⟩; obtain ⟨a6, c6, hv, _⟩ := own_form ho; subst hv; have HPA := Lib.hid (own_paV ho); have HB6 := Lib.hid (bt HB5.out hb); clear ho hb)))
    go_ret2
    have hcol := one_col HYL.out
    have hrp := HRP.out
    rw [hcol] at hrp
    have hpa := HPA.out
    rw [col_tr HNP.out (by omega) hrp.1] at hpa ⊢
    exact ⟨a6, _, c6, rfl, fun _ => ⟨_, hrp, rfl, hpa⟩, fun h => absurd h (by decide), HB6.out⟩
  · have HNO := Lib.hid hno
    clear hno
    go_enter Try.func7, Try.ntmps7
    go_wp2_with (first
      | (go_at_call 20; go_loud (refine HCK.out.mono ?_; rintro r w1 ⟨rfl, hb⟩; have HB1 := Lib.hid hb; clear hb))
      | (go_at_call 23; go_loud (refine (chB_any (some ⟨bY, oY, none⟩) L cY w1).mono ?_; rintro r w2 ⟨rfl, hw2⟩; have hA2 := (show Below w1.heap.size w1 w2 from (by rw [hw2]; exact ((Below.refl _ _).alloc (Nat.le_refl _) _).alloc (by simp) _)); have HB2 := Lib.hid (bt HB1.out hA2); have HCO := Lib.hid (collectR_any w1.heap.size (w1.heap.size + 1) bY oY L cY Y (by have := HC.out; omega) w2 ⟨(by rw [hw2]; simp <;> omega), (by rw [hw2]; simp <;> omega), (by rw [hw2]; simp), (by rw [hw2]; simp)⟩ (HY.out.on HB2.out)); clear hw2 hA2))
      | (go_at_call 22; go_loud (refine HCO.out.mono ?_; rintro r w3 ⟨aR, cR, rfl, hm, hb⟩; have HM3 := Lib.hid hm; have hbr := hm.bd; have HB3 := Lib.hid (bt HB2.out hb); have HME := Lib.hid (mended_any b L t 1 e aX cX X aR cR (oneR Y) w3 (HF.out.below HB3.out) (HX.out.on HB3.out) hm HC.out.1 HC.out.2.2.1 HC.out.2.2.2.1 (by have := HC.out; omega) (fun k hk => (by rw [oneR_row (by rw [HYL.out]; exact hk)]; rfl)) (by omega) HE.out.1 HE.out.2); clear hm hb))
      | (go_at_call 21; go_loud (refine HME.out.mono ?_; rintro r w4 ⟨a1, a2, m1, c1, m2, c2, er, rfl, hs, hb⟩; obtain ⟨rfl, _⟩ := (hs.out.resolve_left fun ⟨_, N, P, _, _, _, _, _, hrp⟩ => (by have h := hrp 0 (by omega); rw [one_col HYL.out] at h; exact HNO.out _ h)); have HB4 := Lib.hid (bt HB3.out hb); clear hs hb)))
    go_ret2
    exact ⟨_, _, _, rfl, fun h => absurd h (by decide), fun _ => rfl, HB4.out⟩
theorem colOkC : ColOkC := by
  intro b L t e aX cX X aY cY Y p w hf hX hY he he0 ht htL hL hE hp
  refine (col_any b L t e aX cX X aY cY Y w hf hX hY he he0 ht htL hL hE 0 (.inl ⟨rfl, p, hp⟩)).mono ?_
  rintro r w' ⟨a', n', c', h1, h2, _, h3⟩
  obtain ⟨q, hq, rfl, hpa⟩ := h2 rfl
  obtain rfl : q = p := RightP.uniq (plErr_zero.1 hE).2.2 hq hp
  exact ⟨a', c', h1, hpa, h3⟩
theorem colNoC : ColNoC := by
  intro b L t e aX cX X aY cY Y w hf hX hY he he0 ht htL hL hE hp
  refine (col_any b L t e aX cX X aY cY Y w hf hX hY he he0 ht htL hL hE 11 (.inr ⟨rfl, hp⟩)).mono ?_
  rintro r w' ⟨a', n', c', h1, _, h2, h3⟩
  obtain rfl := h2 rfl
  exact ⟨a', c', h1, h3⟩
theorem colAll : ColAll := ⟨colErrC, colOkC, colNoC⟩
end Go.Proofs.Ytfmjfdbbjggcpaa
