/- The document's Column: found among all polynomials through t of the places. -/
import Derived.Test.YtfmjfdbbjggcpaaRg
import Derived.Test.YtfmjfdbbjggcpaaPrth2
import Derived.Deep.QuietTactic
namespace Go.Proofs.Ytfmjfdbbjggcpaa
open Go.ChangeShapes Go.WideShapes Go.ChangeAt Go.RowKit Go.Shelf GF
set_option linter.unusedVariables false
set_option linter.unusedSimpArgs false
set_option maxRecDepth 100000

/-- The numbers at these places. -/
def sub (X : List GF) (l : List Nat) : List GF := l.map (co X)
theorem sub_len (X : List GF) (l : List Nat) : (sub X l).length = l.length := by simp [sub]
theorem sub_co {X : List GF} {l : List Nat} {j : Nat} (h : j < l.length) : co (sub X l) j = co X l[j] := by
  show List.getD _ _ _ = _
  unfold sub; simp [List.getD_eq_getElem?_getD, h]
theorem sub_apart {X : List GF} (hX : Apart X) {l : List Nat} (hp : l.Pairwise (· < ·)) (hb : ∀ x, x ∈ l → x < X.length) : Apart (sub X l) :=
  apart_of_nodup (nodup_places hX (hp.imp fun h => Nat.ne_of_lt h) hb)
/-- The polynomial through these places. -/
def cand (X Y : List GF) (l : List Nat) : List GF := lag (sub X l) (sub Y l)
theorem cand_tr (X Y : List GF) (l : List Nat) : tr (cand X Y l) = cand X Y l := by unfold cand lag; exact tr_tr _
theorem cand_len (X Y : List GF) (l : List Nat) : (cand X Y l).length ≤ l.length := by
  rw [← cand_tr]
  refine tr_len.2 fun k hk => co_lag _ _ (by rw [sub_len]; exact hk)
/-- A polynomial that the column is right with goes through t of the places. -/
theorem cand_all {X Y p : List GF} {t e : Nat} (hX : Apart X) (h : RightP X Y t e p) : ∃ l, l ∈ pickL t X.length ∧ cand X Y l = p := by
  obtain ⟨r, hr⟩ : ∃ r, r = (List.range X.length).filter fun k => !(decide (ev p (co X k) ≠ co Y k)) := ⟨_, rfl⟩
  have h1 : (wrL X Y p).length + r.length = X.length := by
    have key : ∀ l : List Nat, (l.filter fun k => decide (ev p (co X k) ≠ co Y k)).length + (l.filter fun k => !(decide (ev p (co X k) ≠ co Y k))).length = l.length := by
      intro l
      induction l with
      | nil => rfl
      | cons a l ih => by_cases hc : ev p (co X a) = co Y a <;> simp [hc] at ih ⊢ <;> omega
    have := key (List.range X.length)
    rw [List.length_range] at this
    rw [hr]; exact this
  have h2 : t ≤ r.length := by have := h.2.2.2; omega
  have hm : ∀ k, k ∈ r → k < X.length ∧ ev p (co X k) = co Y k := fun k hk => by
    rw [hr, List.mem_filter, List.mem_range] at hk
    simpa using hk
  have hl : (r.take t).length = t := by rw [List.length_take]; omega
  have hp : (r.take t).Pairwise (· < ·) := by
    rw [hr]
    exact (List.pairwise_lt_range.sublist List.filter_sublist).sublist (List.take_sublist _ _)
  have hb : ∀ x, x ∈ r.take t → x < X.length := fun x hx => (hm x (List.mem_of_mem_take hx)).1
  refine ⟨r.take t, pickL_all t X.length _ hl hp hb, ?_⟩
  unfold cand
  rw [← lag_uniq (sub_apart hX hp hb) (p := p) (fun k hk => h.co (by rw [sub_len, hl] at hk; exact hk)) (fun j hj => by
    rw [sub_len] at hj
    rw [sub_co hj, sub_co hj]
    exact (hm _ (List.mem_of_mem_take (List.getElem_mem hj))).2)]
  exact h.1
/-- How many of the first i values are wrong. -/
def wcN (X Y p : List GF) (i : Nat) : Nat := ((List.range i).filter fun k => decide (ev p (co X k) ≠ co Y k)).length
theorem wcN_zero (X Y p : List GF) : wcN X Y p 0 = 0 := rfl
theorem wcN_next (X Y p : List GF) (i : Nat) : wcN X Y p (i + 1) = wcN X Y p i + if ev p (co X i) = co Y i then 0 else 1 := by
  unfold wcN
  rw [List.range_succ, List.filter_append, List.length_append]
  by_cases h : ev p (co X i) = co Y i <;> simp [h]
theorem wcN_all (X Y p : List GF) : wcN X Y p X.length = (wrL X Y p).length := rfl
theorem wcN_le (X Y p : List GF) (i : Nat) : wcN X Y p i ≤ i := by unfold wcN; have := List.length_filter_le (fun k => decide (ev p (co X k) ≠ co Y k)) (List.range i); simpa using this
set_option maxHeartbeats 8000000 in
theorem refCol_any (t L : Nat) (e : Int) (aX : Option Addr) (cX : Nat) (X : List GF) (aY : Option Addr) (cY : Nat) (Y : List GF) (w : World) (hX : Pa w aX L cX X) (hY : Pa w aY L cY Y) (ht : 1 ≤ t) (htL : t ≤ L) (hL : L ≤ 7) (hA : Apart X) (he0 : 0 ≤ e) (hwf : (Lit.int .i64 e).wf = true) :
    Calls Try.prog 10 #[.int .i64 (t : Nat), .slice aX L cX, .slice aY L cY, .int .i64 e] w fun r w' => ∃ a' n' c' ok, r = .returned (.tuple #[.slice a' n' c', .bool ok]) ∧
      ((ok = true ∧ ∃ p, RightP X Y t e.toNat p ∧ n' = p.length ∧ Pa w' a' n' c' p ∧ ∀ b off, a' = some ⟨b, off, none⟩ → w.heap.size ≤ b) ∨ (ok = false ∧ n' = 0 ∧ ∀ p, ¬ RightP X Y t e.toNat p)) ∧ Below w.heap.size w w' := by
  obtain ⟨i5, hi, hz0, hz1, hz2⟩ := info_parts info5
  have HI := Lib.hid (And.intro hi (And.intro hz0 (And.intro hz1 hz2)))
  have HX := Lib.hid hX; have HY := Lib.hid hY; have HA := Lib.hid hA
  have HXL := Lib.hid hX.len
  have HT := Lib.hid (And.intro ht (And.intro htL hL))
  have hbx := hX.bd; have hby := hY.bd
  have HP := Lib.hid (pick_any t L w hL (by omega))
  obtain ⟨N, hN⟩ : ∃ N, N = (pickL t L).length := ⟨_, rfl⟩
  have HNE := Lib.hid hN
  rw [← hN] at HP
  have HNB := Lib.hid (show N ≤ 3000000 from by
    have h1 := pickL_len t L (by omega)
    have h2 : 8 ^ t ≤ 8 ^ 7 := Nat.pow_le_pow_right (by omega) (by omega)
    have e : 8 ^ 7 = 2097152 := by decide
    omega)
  have qN : (N : Int) ≤ 3000000 := by have := HNB.out; omega
  obtain ⟨D, hD⟩ : ∃ D, D = L - t := ⟨_, rfl⟩
  obtain ⟨R, hR⟩ : ∃ R, R = D / 2 := ⟨_, rfl⟩
  have qD : (L : Int) - (t : Int) = (D : Int) := by omega
  have qD7 : (D : Int) ≤ 6 := by omega
  have qR1 : ∀ [Inhabited Unit], (D : Int).tdiv 2 = (R : Int) := fun [_] => by rw [Int.tdiv_eq_ediv_of_nonneg (by omega)]; omega
  have qR2 : ∀ [Inhabited Unit], (D : Int) / 2 = (R : Int) := fun [_] => by omega
  have qR7 : (R : Int) ≤ 6 := by omega
  have qL : (L : Int) ≤ 7 := by omega
  have HRD := Lib.hid (show 2 * R ≤ D ∧ D ≤ 2 * R + 1 ∧ D = L - t from by omega)
  have hebd : e ≤ 9223372036854775807 := by simp [Lit.wf, IntKind.min, IntKind.max, IntKind.signed, IntKind.bits] at hwf; omega
  clear hi hz0 hz1 hz2 hX hY hA ht htL hL hN hD hR hwf
  by_cases hc : (R : Int) < e
  · as_aux_lemma =>
    obtain ⟨E, hE⟩ : ∃ E, E = R := ⟨_, rfl⟩
    have HE := Lib.hid (show E = R ∧ E ≤ e.toNat ∧ (e.toNat < E → False) ∧ (E = R ∨ E = e.toNat) from ⟨hE, by omega, by omega, .inl hE⟩)
    have qc : (R : Int) < e := hc
    rw [← hE] at qR1 qR2 qc qR7
    clear hc hE
    go_enter Try.func10, Try.ntmps10
    go_upto_region 4 with (go_at_call 26; go_loud (refine HP.out.mono ?_; rintro r w1 ⟨aM, cM, rfl, hm, hb1⟩; have HM := Lib.hid hm; have HB1 := Lib.hid hb1; have hdm := hm.bd; clear hm hb1))
    clear qR1 qR2
    have HX1 := Lib.hid (HX.out.on HB1.out)
    have HY1 := Lib.hid (HY.out.on HB1.out)
    go_loopw [37] (fun s V => ∃ k : Nat, k ≤ N ∧ s = .int .i64 (k : Nat) ∧ Hid (∀ i, i < k → E < (wrL X Y (cand X Y (rwI (pickL t L) i))).length) ∧ Hid (Below w1.heap.size w1 V)) (fun s _ => N - (intOf s).toNat)
    case atStart => exact ⟨0, Nat.zero_le _, rfl, Lib.hid (fun i hi => absurd hi (by omega)), Lib.hid (Below.refl _ _)⟩
    case round =>
      obtain ⟨k, hk, rfl, HF, HB⟩ := hrel
      rename World => V
      by_cases hlt : k < N
      · have q1 : (k : Int) < (N : Int) := by omega
        have q2 : (0 : Int) ≤ (k : Int) := by omega
        have hkm : k < (pickL t L).length := by rw [← HNE.out]; exact hlt
        have hmem := rwI_mem hkm
        obtain ⟨hl1, hl2, hl3⟩ := pickL_mem t L _ hmem
        obtain ⟨b, off, ai, ci, rfl, hb, hcell, hia⟩ := (HM.out.on HB.out).row hlt (pick_row hmem (by have := HT.out; omega))
        obtain ⟨l, hl⟩ : ∃ l, l = rwI (pickL t L) k := ⟨_, rfl⟩
        rw [← hl] at hcell hia hl1 hl2 hl3
        rw [hl1] at hcell hia
        have HLE := Lib.hid hl
        have HL1 := Lib.hid hl1; have HL2 := Lib.hid hl2; have HL3 := Lib.hid hl3
        have HIA := Lib.hid hia
        have hdi := hia.bd
        have HKN := Lib.hid hlt
        have HX2 := Lib.hid (HX1.out.on HB.out)
        have HY2 := Lib.hid (HY1.out.on HB.out)
        have hO1 := Lib.hid (((own_emptyG V 5).alloc (.cells #[] 5)))
        have hO2 := Lib.hid (show ((V.alloc (.cells #[] 5)).alloc (.cells #[] 5)).ownsRow V.heap.size 5 1 (.slice (some ⟨V.heap.size + 1, 0, none⟩) 0 0) 0 ((iL ([] : List GF)).map (Value.int .u8)) from by
          have := own_emptyG (V.alloc (.cells #[] 5)) 5
          rw [World.size_alloc] at this
          exact own_leG this (by omega))
        have hB0 := Lib.hid (show Below V.heap.size V ((V.alloc (.cells #[] 5)).alloc (.cells #[] 5)) from ((Below.refl _ _).alloc (Nat.le_refl _) _).alloc (by simp) _)
        clear hkm hmem hl hl1 hl2 hl3 hia hb hlt hk
        go_upto_region 8 with fail
        go_loopw [12, 13, 45] (fun o1 o2 s U => ∃ (j ga gb ca cb : Nat), j ≤ t ∧ s = .int .i64 (j : Nat) ∧ o1 = .slice (some ⟨ga, 0, none⟩) j ca ∧ o2 = .slice (some ⟨gb, 0, none⟩) j cb ∧ Hid (U.ownsRow V.heap.size 5 1 (.slice (some ⟨ga, 0, none⟩) j ca) j ((iL (sub X (l.take j))).map (Value.int .u8))) ∧ Hid (U.ownsRow V.heap.size 5 1 (.slice (some ⟨gb, 0, none⟩) j cb) j ((iL (sub Y (l.take j))).map (Value.int .u8))) ∧ Hid (ga ≠ gb) ∧ Hid (Below V.heap.size V U)) (fun _ _ s _ => t - (intOf s).toNat)
        case atStart => exact ⟨0, V.heap.size, V.heap.size + 1, 0, 0, Nat.zero_le _, rfl, rfl, rfl, hO1, hO2, Lib.hid (by omega), hB0⟩
        case round =>
          clear hO1 hO2 hB0
          obtain ⟨j, ga, gb, ca, cb, hj, rfl, rfl, rfl, UA, UB, UN, UW⟩ := hrel
          rename World => U
          by_cases hlt : j < t
          · have q3 : (j : Int) < (t : Int) := by omega
            have q4 : (0 : Int) ≤ (j : Int) := by omega
            obtain ⟨bi, oi, rfl, hbi, hci⟩ := (HIA.out.on UW.out).at_ hlt
            have hjl : j < l.length := by rw [HL1.out]; exact hlt
            have hx3 := HL3.out _ (List.getElem_mem hjl)
            have HNX := Lib.hid (show ∀ Z : List GF, sub Z (l.take (j + 1)) = sub Z (l.take j) ++ [co Z l[j]] from fun Z => by
              have e : l.take (j + 1) = l.take j ++ [l[j]] := by rw [List.take_add_one, List.getElem?_eq_getElem hjl]; rfl
              unfold sub; rw [e, List.map_append]; rfl)
            have hzl : (zl l).getD j 0 = ((l[j] : Nat) : Int) := by rw [zl_get]; simp [List.getD_eq_getElem?_getD, hjl]
            rw [hzl] at hci
            obtain ⟨x, hx⟩ : ∃ x, x = l[j] := ⟨_, rfl⟩
            rw [← hx] at hci hx3 HNX
            have HX3 := Lib.hid hx3
            have q5 : (x : Int) < (L : Int) := by omega
            have q6 : (0 : Int) ≤ (x : Int) := by omega
            obtain ⟨bx, ox, rfl, hbx', hcx⟩ := (HX2.out.on UW.out).at_ (k := x) hx3
            obtain ⟨by_, oy, rfl, hby', hcy⟩ := (HY2.out.on UW.out).at_ (k := x) hx3
            have HCY := Lib.hid (And.intro hby' hcy)
            have HJT := Lib.hid hlt
            have HUS := Lib.hid UW.out.size
            have HOA := Lib.hid (UA.out.alloc (.cells #[.int .u8 (toI (co X x))] 5))
            have HCI := Lib.hid (And.intro hbi hci)
            clear hjl hzl hx hx3 hlt hj hbi hbx' hby' hcy
            go_wp2_with (first
              | ((with_reducible show wpList _ _ _ (⟨some 55, _, _, _, _, _⟩ :: _) _ _); go_loud (refine wpList_append_lies _ rfl (.tmp 49) (.tmp 54) 22 rfl V.heap.size 5 i5 (.int .u8 0) 1 1 Try.underlying22 HI.out.1 HI.out.2.1 HI.out.2.2.1 HI.out.2.2.2 rfl (by decide) _ j _ rfl HOA.out _ 1 1 [_] rfl rfl (lit_cellsV _ _ _) (by intro u hu; cases List.mem_singleton.1 hu; rfl) (by decide) (by unfold maxLen; have := HJT.out; have := HT.out; omega) (by have := HJT.out; have := HT.out; omega) (by have := HUS.out; simp; omega) _ rfl ?_; intro g4 c4 U4 hown4 hg4 hat4 hlt4; rw [show (iL (sub X (l.take j))).map (Value.int .u8) ++ [Value.int .u8 (toI (co X x))] = (iL (sub X (l.take (j + 1)))).map (Value.int .u8) by rw [HNX.out]; simp [iL]] at hown4; have HA4 := Lib.hid hown4; have hne4 : g4 ≠ gb := (by rcases hat4 with h | h; cases h; exact UN.out; rw [h]; have := (UB.out.lt gb rfl).2; simp; omega); have HN4 := Lib.hid hne4; have hb4 := (UB.out.alloc (.cells #[.int .u8 (toI (co X x))] 5)).kept hg4 (.inr (by show some gb ≠ some ga; intro e; injection e with e; exact UN.out e.symm)); have HB4 := Lib.hid (hb4.alloc (.cells #[.int .u8 (toI (co Y x))] 5)); have HW4 := Lib.hid ((UW.out.alloc UW.out.size (.cells #[.int .u8 (toI (co X x))] 5)).grown hg4 (by have := HUS.out; simp; omega) (fun z hz => (HOA.out.lt z hz).1)); have hcy : U4.cell? ⟨by_, oy + x, none⟩ = some (.int .u8 (toI (co Y x))) := (HW4.out.cell (p := ⟨by_, oy + x, none⟩) (by obtain ⟨b9, o9, e9, h9, _⟩ := HY2.out.at_ (k := x) HX3.out; cases e9; exact h9)).trans (by obtain ⟨b9, o9, e9, h9, hc9⟩ := HY2.out.at_ (k := x) HX3.out; cases e9; exact hc9); clear hown4 hg4 hat4 hlt4 hne4 hb4))
              | ((with_reducible show wpList _ _ _ (⟨some 62, _, _, _, _, _⟩ :: _) _ _); go_loud (refine wpList_append_lies _ rfl (.tmp 56) (.tmp 61) 22 rfl V.heap.size 5 i5 (.int .u8 0) 1 1 Try.underlying22 HI.out.1 HI.out.2.1 HI.out.2.2.1 HI.out.2.2.2 rfl (by decide) _ j _ rfl HB4.out _ 1 1 [_] rfl rfl (lit_cellsV _ _ _) (by intro u hu; cases List.mem_singleton.1 hu; rfl) (by decide) (by unfold maxLen; have := HJT.out; have := HT.out; omega) (by have := HJT.out; have := HT.out; omega) (by have := HW4.out.size; simp; omega) _ rfl ?_; intro g6 c6 U6 hown6 hg6 hat6 hlt6; rw [show (iL (sub Y (l.take j))).map (Value.int .u8) ++ [Value.int .u8 (toI (co Y x))] = (iL (sub Y (l.take (j + 1)))).map (Value.int .u8) by rw [HNX.out]; simp [iL]] at hown6; have HB6 := Lib.hid hown6; have HN6 := Lib.hid (show g4 ≠ g6 from (by rcases hat6 with h | h; cases h; exact HN4.out; rw [h]; have := (HA4.out.lt g4 rfl).2; simp; omega)); have HA6 := Lib.hid ((HA4.out.alloc (.cells #[.int .u8 (toI (co Y x))] 5)).kept hg6 (.inr (by show some g4 ≠ some gb; intro e; injection e with e; exact HN4.out e))); have HW6 := Lib.hid ((HW4.out.alloc HW4.out.size (.cells #[.int .u8 (toI (co Y x))] 5)).grown hg6 (by have := HW4.out.size; simp; omega) (fun z hz => (HB4.out.lt z hz).1)); clear hown6 hg6 hat6 hlt6)))
            go_roundw
            case rel => exact ⟨j + 1, g4, g6, c4, c6, HJT.out, by go_num, rfl, rfl, HA6, HB6, HN6, HW6⟩
            case measure => simp [intOf]; have := HJT.out; omega
          · obtain rfl : j = t := by omega
            have HTK := Lib.hid (show l.take j = l from List.take_of_length_le (by rw [HL1.out]; exact Nat.le_refl _))
            have ha := UA.out
            have hb := UB.out
            rw [HTK.out] at ha hb
            have HPA := Lib.hid (Pa.own2 ha)
            have HPB := Lib.hid (Pa.own2 hb)
            have hda := HPA.out.bd
            have hdb := HPB.out.bd
            have HTH := Lib.hid (rthrough_any (some ⟨ga, 0, none⟩) j ca (sub X l) (some ⟨gb, 0, none⟩) cb (sub Y l) U HPA.out HPB.out (by have := HT.out; omega))
            clear ha hb hlt hj
            go_upto_region 16 with (go_at_call 27; go_loud (refine HTH.out.mono ?_; rintro r U2 ⟨v2, rfl, ho2, hb2⟩; obtain ⟨aP, cP, rfl, hpp, hnw⟩ := Pa.own ho2; have HNW := Lib.hid hnw; clear hnw; have HPP := Lib.hid (show Pa U2 aP (cand X Y l).length cP (cand X Y l) from hpp); have HW2 := Lib.hid (bt UW.out hb2); have hdp : (cand X Y l).length ≤ cP ∧ cP ≤ 9223372036854775807 := hpp.bd; clear ho2 hpp hb2))
            obtain ⟨P, hP⟩ : ∃ P, P = cand X Y l := ⟨_, rfl⟩
            obtain ⟨n, hn⟩ : ∃ n, n = P.length := ⟨_, rfl⟩
            have HPE := Lib.hid hP
            have HNP := Lib.hid hn
            rw [show (lag (sub X l) (sub Y l)).length = n by rw [hn, hP]; rfl]
            rw [← hP, ← hn] at HPP hdp
            clear hP hn
            have HX4 := Lib.hid (HX2.out.on HW2.out)
            have HY4 := Lib.hid (HY2.out.on HW2.out)
            go_loopw [17, 69] (fun o s W => ∃ i : Nat, i ≤ L ∧ s = .int .i64 (i : Nat) ∧ o = .int .i64 (wcN X Y P i : Nat) ∧ Hid (Below U2.heap.size U2 W)) (fun _ s _ => L - (intOf s).toNat)
            case atStart => exact ⟨0, Nat.zero_le _, rfl, rfl, Lib.hid (Below.refl _ _)⟩
            case round =>
              obtain ⟨i, hi, rfl, rfl, HBW⟩ := hrel
              rename World => W
              obtain ⟨n1, hn1⟩ : ∃ n1, n1 = wcN X Y P i := ⟨_, rfl⟩
              have hn2 : n1 ≤ i := by rw [hn1]; exact wcN_le _ _ _ _
              have HN1 := Lib.hid hn1
              have HNX := Lib.hid (wcN_next X Y P i)
              rw [← hn1] at HNX ⊢
              clear hn1
              have qn1 : (n1 : Int) ≤ 7 := by have := HT.out; omega
              by_cases hlt : i < L
              · obtain ⟨bx, ox, rfl, hbx', hcx⟩ := (HX4.out.on HBW.out).at_ (k := i) hlt
                obtain ⟨by_, oy, rfl, hby', hcy⟩ := (HY4.out.on HBW.out).at_ (k := i) hlt
                have q7 : (i : Int) < (L : Int) := by omega
                have q8 : (0 : Int) ≤ (i : Int) := by omega
                have HEV := Lib.hid (show ∀ q : Nat, Calls Try.prog 16 #[.slice aP n cP, .int .u8 (toI (co X i))] (W.drewN q) fun r w' => r = .returned (.int .u8 (toI (ev P (co X i)))) ∧ w' = W.drewN q from fun q => (reval_any aP n cP P (co X i) (W.drewN q) ((HPP.out.on HBW.out).on (below_drewN (Below.refl _ _) _)) (by have := HNP.out; have := cand_len X Y l; rw [← HPE.out] at this; have := HL1.out; have := HT.out; omega)).mono fun _ _ ⟨he, hw⟩ => ⟨he, hw.symm⟩)
                have HLT := Lib.hid hlt
                clear hlt hi hbx' hby'
                by_cases hee : ev P (co X i) = co Y i
                · have q9 : (toI (ev P (co X i)) != toI (co Y i)) = false := by rw [hee]; simp
                  rw [if_pos hee, Nat.add_zero] at HNX
                  clear hee
                  go_upto_region 18 with fail
                  go_quiet ((go_at_call 16; exact Calls.quiet_of_same (HEV.out _)))
                  go_wp2
                  go_roundw
                  case rel => exact ⟨i + 1, HLT.out, by go_num, by rw [HNX.out]; rfl, Lib.hid (below_drewN HBW.out _)⟩
                  case measure => simp [intOf]; have := HLT.out; omega
                · have q9 : (toI (ev P (co X i)) != toI (co Y i)) = true := by rw [bne_iff_ne]; exact fun h => hee (toI_inj h)
                  rw [if_neg hee] at HNX
                  clear hee
                  go_upto_region 18 with fail
                  go_quiet ((go_at_call 16; exact Calls.quiet_of_same (HEV.out _)))
                  go_wp2
                  go_roundw
                  case rel => exact ⟨i + 1, HLT.out, by go_num, by rw [HNX.out]; go_num, Lib.hid (below_drewN HBW.out _)⟩
                  case measure => simp [intOf]; have := HLT.out; omega
              · obtain rfl : i = L := by omega
                have HWC := Lib.hid (show n1 = (wrL X Y P).length by rw [HN1.out, ← wcN_all, HXL.out])
                clear hlt hi
                by_cases hE : n1 ≤ E
                · have q7 : (n1 : Int) ≤ (E : Int) := by omega
                  have HRP := Lib.hid (show RightP X Y j e.toNat P from ⟨by rw [HPE.out]; exact cand_tr _ _ _, by rw [HPE.out]; have := cand_len X Y l; have := HL1.out; omega, by have := HWC.out; have := HE.out; omega, by have := HWC.out; have := HE.out; have := HRD.out; have := HXL.out; have := HT.out; omega⟩)
                  have HPW := Lib.hid (HPP.out.on HBW.out)
                  have HBZ := Lib.hid (bt HB1.out (bt HB.out (bt HW2.out HBW.out)))
                  clear hE
                  go_wp2
                  go_ret2
                  exact ⟨_, _, _, _, rfl, .inl ⟨rfl, P, HRP.out, HNP.out, HPW.out, fun b off e => Nat.le_trans (Nat.le_trans HB1.out.size (Nat.le_trans HB.out.size UW.out.size)) (HNW.out b off e).1⟩, HBZ.out⟩
                · have q7 : ¬ (n1 : Int) ≤ (E : Int) := by omega
                  have HFN := Lib.hid (show ∀ z, z < k + 1 → E < (wrL X Y (cand X Y (rwI (pickL j i) z))).length from fun z hz => by
                    rcases Nat.lt_succ_iff_lt_or_eq.1 hz with h | h
                    · exact HF.out z h
                    · rw [h, ← HLE.out, ← HPE.out, ← HWC.out]; omega)
                  clear hE
                  go_wp2
                  go_roundw
                  case rel => exact ⟨k + 1, by have := HKN.out; omega, by go_num, HFN, Lib.hid (bt HB.out (bt HW2.out HBW.out))⟩
                  case measure => simp [intOf]; have := HKN.out; omega
      · obtain rfl : k = N := by omega
        have HNO := Lib.hid (show ∀ p, ¬ RightP X Y t e.toNat p from fun p hp => by
          obtain ⟨l, hl, hlc⟩ := cand_all HA.out hp
          rw [HXL.out] at hl
          obtain ⟨i, hi, he⟩ := List.getElem_of_mem hl
          have h1 := HF.out i (by rw [HNE.out]; exact hi)
          have h2 : rwI (pickL t L) i = l := by unfold rwI; rw [← he]; simp [List.getD_eq_getElem?_getD, hi]
          rw [h2, hlc] at h1
          have := hp.2.2.1; have := hp.2.2.2; have := HE.out; have := HRD.out; have := HXL.out
          omega)
        have HBZ := Lib.hid (bt HB1.out HB.out)
        clear hlt hk
        go_wp2
        go_ret2
        exact ⟨_, _, _, _, rfl, .inr ⟨rfl, rfl, HNO.out⟩, HBZ.out⟩
  · as_aux_lemma =>
    obtain ⟨E, hE⟩ : ∃ E : Nat, e = (E : Int) := ⟨e.toNat, by omega⟩
    subst hE
    have HE := Lib.hid (show E ≤ R ∧ E ≤ (E : Int).toNat ∧ ((E : Int).toNat < E → False) ∧ (E = R ∨ E = (E : Int).toNat) from ⟨by omega, by omega, by omega, .inr (by omega)⟩)
    have qc : ¬ (R : Int) < (E : Int) := hc
    clear hc
    go_enter Try.func10, Try.ntmps10
    go_upto_region 4 with (go_at_call 26; go_loud (refine HP.out.mono ?_; rintro r w1 ⟨aM, cM, rfl, hm, hb1⟩; have HM := Lib.hid hm; have HB1 := Lib.hid hb1; have hdm := hm.bd; clear hm hb1))
    clear qR1 qR2
    have HX1 := Lib.hid (HX.out.on HB1.out)
    have HY1 := Lib.hid (HY.out.on HB1.out)
    go_loopw [37] (fun s V => ∃ k : Nat, k ≤ N ∧ s = .int .i64 (k : Nat) ∧ Hid (∀ i, i < k → E < (wrL X Y (cand X Y (rwI (pickL t L) i))).length) ∧ Hid (Below w1.heap.size w1 V)) (fun s _ => N - (intOf s).toNat)
    case atStart => exact ⟨0, Nat.zero_le _, rfl, Lib.hid (fun i hi => absurd hi (by omega)), Lib.hid (Below.refl _ _)⟩
    case round =>
      obtain ⟨k, hk, rfl, HF, HB⟩ := hrel
      rename World => V
      by_cases hlt : k < N
      · have q1 : (k : Int) < (N : Int) := by omega
        have q2 : (0 : Int) ≤ (k : Int) := by omega
        have hkm : k < (pickL t L).length := by rw [← HNE.out]; exact hlt
        have hmem := rwI_mem hkm
        obtain ⟨hl1, hl2, hl3⟩ := pickL_mem t L _ hmem
        obtain ⟨b, off, ai, ci, rfl, hb, hcell, hia⟩ := (HM.out.on HB.out).row hlt (pick_row hmem (by have := HT.out; omega))
        obtain ⟨l, hl⟩ : ∃ l, l = rwI (pickL t L) k := ⟨_, rfl⟩
        rw [← hl] at hcell hia hl1 hl2 hl3
        rw [hl1] at hcell hia
        have HLE := Lib.hid hl
        have HL1 := Lib.hid hl1; have HL2 := Lib.hid hl2; have HL3 := Lib.hid hl3
        have HIA := Lib.hid hia
        have hdi := hia.bd
        have HKN := Lib.hid hlt
        have HX2 := Lib.hid (HX1.out.on HB.out)
        have HY2 := Lib.hid (HY1.out.on HB.out)
        have hO1 := Lib.hid (((own_emptyG V 5).alloc (.cells #[] 5)))
        have hO2 := Lib.hid (show ((V.alloc (.cells #[] 5)).alloc (.cells #[] 5)).ownsRow V.heap.size 5 1 (.slice (some ⟨V.heap.size + 1, 0, none⟩) 0 0) 0 ((iL ([] : List GF)).map (Value.int .u8)) from by
          have := own_emptyG (V.alloc (.cells #[] 5)) 5
          rw [World.size_alloc] at this
          exact own_leG this (by omega))
        have hB0 := Lib.hid (show Below V.heap.size V ((V.alloc (.cells #[] 5)).alloc (.cells #[] 5)) from ((Below.refl _ _).alloc (Nat.le_refl _) _).alloc (by simp) _)
        clear hkm hmem hl hl1 hl2 hl3 hia hb hlt hk
        go_upto_region 8 with fail
        go_loopw [12, 13, 45] (fun o1 o2 s U => ∃ (j ga gb ca cb : Nat), j ≤ t ∧ s = .int .i64 (j : Nat) ∧ o1 = .slice (some ⟨ga, 0, none⟩) j ca ∧ o2 = .slice (some ⟨gb, 0, none⟩) j cb ∧ Hid (U.ownsRow V.heap.size 5 1 (.slice (some ⟨ga, 0, none⟩) j ca) j ((iL (sub X (l.take j))).map (Value.int .u8))) ∧ Hid (U.ownsRow V.heap.size 5 1 (.slice (some ⟨gb, 0, none⟩) j cb) j ((iL (sub Y (l.take j))).map (Value.int .u8))) ∧ Hid (ga ≠ gb) ∧ Hid (Below V.heap.size V U)) (fun _ _ s _ => t - (intOf s).toNat)
        case atStart => exact ⟨0, V.heap.size, V.heap.size + 1, 0, 0, Nat.zero_le _, rfl, rfl, rfl, hO1, hO2, Lib.hid (by omega), hB0⟩
        case round =>
          clear hO1 hO2 hB0
          obtain ⟨j, ga, gb, ca, cb, hj, rfl, rfl, rfl, UA, UB, UN, UW⟩ := hrel
          rename World => U
          by_cases hlt : j < t
          · have q3 : (j : Int) < (t : Int) := by omega
            have q4 : (0 : Int) ≤ (j : Int) := by omega
            obtain ⟨bi, oi, rfl, hbi, hci⟩ := (HIA.out.on UW.out).at_ hlt
            have hjl : j < l.length := by rw [HL1.out]; exact hlt
            have hx3 := HL3.out _ (List.getElem_mem hjl)
            have HNX := Lib.hid (show ∀ Z : List GF, sub Z (l.take (j + 1)) = sub Z (l.take j) ++ [co Z l[j]] from fun Z => by
              have e : l.take (j + 1) = l.take j ++ [l[j]] := by rw [List.take_add_one, List.getElem?_eq_getElem hjl]; rfl
              unfold sub; rw [e, List.map_append]; rfl)
            have hzl : (zl l).getD j 0 = ((l[j] : Nat) : Int) := by rw [zl_get]; simp [List.getD_eq_getElem?_getD, hjl]
            rw [hzl] at hci
            obtain ⟨x, hx⟩ : ∃ x, x = l[j] := ⟨_, rfl⟩
            rw [← hx] at hci hx3 HNX
            have HX3 := Lib.hid hx3
            have q5 : (x : Int) < (L : Int) := by omega
            have q6 : (0 : Int) ≤ (x : Int) := by omega
            obtain ⟨bx, ox, rfl, hbx', hcx⟩ := (HX2.out.on UW.out).at_ (k := x) hx3
            obtain ⟨by_, oy, rfl, hby', hcy⟩ := (HY2.out.on UW.out).at_ (k := x) hx3
            have HCY := Lib.hid (And.intro hby' hcy)
            have HJT := Lib.hid hlt
            have HUS := Lib.hid UW.out.size
            have HOA := Lib.hid (UA.out.alloc (.cells #[.int .u8 (toI (co X x))] 5))
            have HCI := Lib.hid (And.intro hbi hci)
            clear hjl hzl hx hx3 hlt hj hbi hbx' hby' hcy
            go_wp2_with (first
              | ((with_reducible show wpList _ _ _ (⟨some 55, _, _, _, _, _⟩ :: _) _ _); go_loud (refine wpList_append_lies _ rfl (.tmp 49) (.tmp 54) 22 rfl V.heap.size 5 i5 (.int .u8 0) 1 1 Try.underlying22 HI.out.1 HI.out.2.1 HI.out.2.2.1 HI.out.2.2.2 rfl (by decide) _ j _ rfl HOA.out _ 1 1 [_] rfl rfl (lit_cellsV _ _ _) (by intro u hu; cases List.mem_singleton.1 hu; rfl) (by decide) (by unfold maxLen; have := HJT.out; have := HT.out; omega) (by have := HJT.out; have := HT.out; omega) (by have := HUS.out; simp; omega) _ rfl ?_; intro g4 c4 U4 hown4 hg4 hat4 hlt4; rw [show (iL (sub X (l.take j))).map (Value.int .u8) ++ [Value.int .u8 (toI (co X x))] = (iL (sub X (l.take (j + 1)))).map (Value.int .u8) by rw [HNX.out]; simp [iL]] at hown4; have HA4 := Lib.hid hown4; have hne4 : g4 ≠ gb := (by rcases hat4 with h | h; cases h; exact UN.out; rw [h]; have := (UB.out.lt gb rfl).2; simp; omega); have HN4 := Lib.hid hne4; have hb4 := (UB.out.alloc (.cells #[.int .u8 (toI (co X x))] 5)).kept hg4 (.inr (by show some gb ≠ some ga; intro e; injection e with e; exact UN.out e.symm)); have HB4 := Lib.hid (hb4.alloc (.cells #[.int .u8 (toI (co Y x))] 5)); have HW4 := Lib.hid ((UW.out.alloc UW.out.size (.cells #[.int .u8 (toI (co X x))] 5)).grown hg4 (by have := HUS.out; simp; omega) (fun z hz => (HOA.out.lt z hz).1)); have hcy : U4.cell? ⟨by_, oy + x, none⟩ = some (.int .u8 (toI (co Y x))) := (HW4.out.cell (p := ⟨by_, oy + x, none⟩) (by obtain ⟨b9, o9, e9, h9, _⟩ := HY2.out.at_ (k := x) HX3.out; cases e9; exact h9)).trans (by obtain ⟨b9, o9, e9, h9, hc9⟩ := HY2.out.at_ (k := x) HX3.out; cases e9; exact hc9); clear hown4 hg4 hat4 hlt4 hne4 hb4))
              | ((with_reducible show wpList _ _ _ (⟨some 62, _, _, _, _, _⟩ :: _) _ _); go_loud (refine wpList_append_lies _ rfl (.tmp 56) (.tmp 61) 22 rfl V.heap.size 5 i5 (.int .u8 0) 1 1 Try.underlying22 HI.out.1 HI.out.2.1 HI.out.2.2.1 HI.out.2.2.2 rfl (by decide) _ j _ rfl HB4.out _ 1 1 [_] rfl rfl (lit_cellsV _ _ _) (by intro u hu; cases List.mem_singleton.1 hu; rfl) (by decide) (by unfold maxLen; have := HJT.out; have := HT.out; omega) (by have := HJT.out; have := HT.out; omega) (by have := HW4.out.size; simp; omega) _ rfl ?_; intro g6 c6 U6 hown6 hg6 hat6 hlt6; rw [show (iL (sub Y (l.take j))).map (Value.int .u8) ++ [Value.int .u8 (toI (co Y x))] = (iL (sub Y (l.take (j + 1)))).map (Value.int .u8) by rw [HNX.out]; simp [iL]] at hown6; have HB6 := Lib.hid hown6; have HN6 := Lib.hid (show g4 ≠ g6 from (by rcases hat6 with h | h; cases h; exact HN4.out; rw [h]; have := (HA4.out.lt g4 rfl).2; simp; omega)); have HA6 := Lib.hid ((HA4.out.alloc (.cells #[.int .u8 (toI (co Y x))] 5)).kept hg6 (.inr (by show some g4 ≠ some gb; intro e; injection e with e; exact HN4.out e))); have HW6 := Lib.hid ((HW4.out.alloc HW4.out.size (.cells #[.int .u8 (toI (co Y x))] 5)).grown hg6 (by have := HW4.out.size; simp; omega) (fun z hz => (HB4.out.lt z hz).1)); clear hown6 hg6 hat6 hlt6)))
            go_roundw
            case rel => exact ⟨j + 1, g4, g6, c4, c6, HJT.out, by go_num, rfl, rfl, HA6, HB6, HN6, HW6⟩
            case measure => simp [intOf]; have := HJT.out; omega
          · obtain rfl : j = t := by omega
            have HTK := Lib.hid (show l.take j = l from List.take_of_length_le (by rw [HL1.out]; exact Nat.le_refl _))
            have ha := UA.out
            have hb := UB.out
            rw [HTK.out] at ha hb
            have HPA := Lib.hid (Pa.own2 ha)
            have HPB := Lib.hid (Pa.own2 hb)
            have hda := HPA.out.bd
            have hdb := HPB.out.bd
            have HTH := Lib.hid (rthrough_any (some ⟨ga, 0, none⟩) j ca (sub X l) (some ⟨gb, 0, none⟩) cb (sub Y l) U HPA.out HPB.out (by have := HT.out; omega))
            clear ha hb hlt hj
            go_upto_region 16 with (go_at_call 27; go_loud (refine HTH.out.mono ?_; rintro r U2 ⟨v2, rfl, ho2, hb2⟩; obtain ⟨aP, cP, rfl, hpp, hnw⟩ := Pa.own ho2; have HNW := Lib.hid hnw; clear hnw; have HPP := Lib.hid (show Pa U2 aP (cand X Y l).length cP (cand X Y l) from hpp); have HW2 := Lib.hid (bt UW.out hb2); have hdp : (cand X Y l).length ≤ cP ∧ cP ≤ 9223372036854775807 := hpp.bd; clear ho2 hpp hb2))
            obtain ⟨P, hP⟩ : ∃ P, P = cand X Y l := ⟨_, rfl⟩
            obtain ⟨n, hn⟩ : ∃ n, n = P.length := ⟨_, rfl⟩
            have HPE := Lib.hid hP
            have HNP := Lib.hid hn
            rw [show (lag (sub X l) (sub Y l)).length = n by rw [hn, hP]; rfl]
            rw [← hP, ← hn] at HPP hdp
            clear hP hn
            have HX4 := Lib.hid (HX2.out.on HW2.out)
            have HY4 := Lib.hid (HY2.out.on HW2.out)
            go_loopw [17, 69] (fun o s W => ∃ i : Nat, i ≤ L ∧ s = .int .i64 (i : Nat) ∧ o = .int .i64 (wcN X Y P i : Nat) ∧ Hid (Below U2.heap.size U2 W)) (fun _ s _ => L - (intOf s).toNat)
            case atStart => exact ⟨0, Nat.zero_le _, rfl, rfl, Lib.hid (Below.refl _ _)⟩
            case round =>
              obtain ⟨i, hi, rfl, rfl, HBW⟩ := hrel
              rename World => W
              obtain ⟨n1, hn1⟩ : ∃ n1, n1 = wcN X Y P i := ⟨_, rfl⟩
              have hn2 : n1 ≤ i := by rw [hn1]; exact wcN_le _ _ _ _
              have HN1 := Lib.hid hn1
              have HNX := Lib.hid (wcN_next X Y P i)
              rw [← hn1] at HNX ⊢
              clear hn1
              have qn1 : (n1 : Int) ≤ 7 := by have := HT.out; omega
              by_cases hlt : i < L
              · obtain ⟨bx, ox, rfl, hbx', hcx⟩ := (HX4.out.on HBW.out).at_ (k := i) hlt
                obtain ⟨by_, oy, rfl, hby', hcy⟩ := (HY4.out.on HBW.out).at_ (k := i) hlt
                have q7 : (i : Int) < (L : Int) := by omega
                have q8 : (0 : Int) ≤ (i : Int) := by omega
                have HEV := Lib.hid (show ∀ q : Nat, Calls Try.prog 16 #[.slice aP n cP, .int .u8 (toI (co X i))] (W.drewN q) fun r w' => r = .returned (.int .u8 (toI (ev P (co X i)))) ∧ w' = W.drewN q from fun q => (reval_any aP n cP P (co X i) (W.drewN q) ((HPP.out.on HBW.out).on (below_drewN (Below.refl _ _) _)) (by have := HNP.out; have := cand_len X Y l; rw [← HPE.out] at this; have := HL1.out; have := HT.out; omega)).mono fun _ _ ⟨he, hw⟩ => ⟨he, hw.symm⟩)
                have HLT := Lib.hid hlt
                clear hlt hi hbx' hby'
                by_cases hee : ev P (co X i) = co Y i
                · have q9 : (toI (ev P (co X i)) != toI (co Y i)) = false := by rw [hee]; simp
                  rw [if_pos hee, Nat.add_zero] at HNX
                  clear hee
                  go_upto_region 18 with fail
                  go_quiet ((go_at_call 16; exact Calls.quiet_of_same (HEV.out _)))
                  go_wp2
                  go_roundw
                  case rel => exact ⟨i + 1, HLT.out, by go_num, by rw [HNX.out]; rfl, Lib.hid (below_drewN HBW.out _)⟩
                  case measure => simp [intOf]; have := HLT.out; omega
                · have q9 : (toI (ev P (co X i)) != toI (co Y i)) = true := by rw [bne_iff_ne]; exact fun h => hee (toI_inj h)
                  rw [if_neg hee] at HNX
                  clear hee
                  go_upto_region 18 with fail
                  go_quiet ((go_at_call 16; exact Calls.quiet_of_same (HEV.out _)))
                  go_wp2
                  go_roundw
                  case rel => exact ⟨i + 1, HLT.out, by go_num, by rw [HNX.out]; go_num, Lib.hid (below_drewN HBW.out _)⟩
                  case measure => simp [intOf]; have := HLT.out; omega
              · obtain rfl : i = L := by omega
                have HWC := Lib.hid (show n1 = (wrL X Y P).length by rw [HN1.out, ← wcN_all, HXL.out])
                clear hlt hi
                by_cases hE : n1 ≤ E
                · have q7 : (n1 : Int) ≤ (E : Int) := by omega
                  have HRP := Lib.hid (show RightP X Y j (E : Int).toNat P from ⟨by rw [HPE.out]; exact cand_tr _ _ _, by rw [HPE.out]; have := cand_len X Y l; have := HL1.out; omega, by have := HWC.out; have := HE.out; omega, by have := HWC.out; have := HE.out; have := HRD.out; have := HXL.out; have := HT.out; omega⟩)
                  have HPW := Lib.hid (HPP.out.on HBW.out)
                  have HBZ := Lib.hid (bt HB1.out (bt HB.out (bt HW2.out HBW.out)))
                  clear hE
                  go_wp2
                  go_ret2
                  exact ⟨_, _, _, _, rfl, .inl ⟨rfl, P, HRP.out, HNP.out, HPW.out, fun b off e => Nat.le_trans (Nat.le_trans HB1.out.size (Nat.le_trans HB.out.size UW.out.size)) (HNW.out b off e).1⟩, HBZ.out⟩
                · have q7 : ¬ (n1 : Int) ≤ (E : Int) := by omega
                  have HFN := Lib.hid (show ∀ z, z < k + 1 → E < (wrL X Y (cand X Y (rwI (pickL j i) z))).length from fun z hz => by
                    rcases Nat.lt_succ_iff_lt_or_eq.1 hz with h | h
                    · exact HF.out z h
                    · rw [h, ← HLE.out, ← HPE.out, ← HWC.out]; omega)
                  clear hE
                  go_wp2
                  go_roundw
                  case rel => exact ⟨k + 1, by have := HKN.out; omega, by go_num, HFN, Lib.hid (bt HB.out (bt HW2.out HBW.out))⟩
                  case measure => simp [intOf]; have := HKN.out; omega
      · obtain rfl : k = N := by omega
        have HNO := Lib.hid (show ∀ p, ¬ RightP X Y t (E : Int).toNat p from fun p hp => by
          obtain ⟨l, hl, hlc⟩ := cand_all HA.out hp
          rw [HXL.out] at hl
          obtain ⟨i, hi, he⟩ := List.getElem_of_mem hl
          have h1 := HF.out i (by rw [HNE.out]; exact hi)
          have h2 : rwI (pickL t L) i = l := by unfold rwI; rw [← he]; simp [List.getD_eq_getElem?_getD, hi]
          rw [h2, hlc] at h1
          have := hp.2.2.1; have := hp.2.2.2; have := HE.out; have := HRD.out; have := HXL.out
          omega)
        have HBZ := Lib.hid (bt HB1.out HB.out)
        clear hlt hk
        go_wp2
        go_ret2
        exact ⟨_, _, _, _, rfl, .inr ⟨rfl, rfl, HNO.out⟩, HBZ.out⟩
end Go.Proofs.Ytfmjfdbbjggcpaa
