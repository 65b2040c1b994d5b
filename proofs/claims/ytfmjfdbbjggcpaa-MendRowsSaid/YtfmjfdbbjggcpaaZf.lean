/- Contract of mend's solved: the numbers of all columns' polynomials. -/
import Derived.Test.YtfmjfdbbjggcpaaZe
namespace Go.Proofs.Ytfmjfdbbjggcpaa
open Go.ChangeShapes Go.WideShapes Go.ChangeAt Go.RowKit Go.Shelf GF
set_option linter.unusedVariables false
set_option linter.unusedSimpArgs false
set_option maxRecDepth 100000

theorem own_lo {w : World} {base n c : Nat} {e : TypeId} {a : Option Addr} {xs : List Value} (h : w.ownsRow base e 1 (.slice a n c) n xs) : ∀ b off, a = some ⟨b, off, none⟩ → base ≤ b := fun b off e2 => by
  rcases h.2 with ⟨e, _⟩ | ⟨g', c', cur, e, hg, _⟩
  · cases e; cases e2
  · cases e; cases e2; exact hg
theorem BlkM.set {w : World} {g n s k j : Nat} {F F' : Nat → Nat → GF} (h : BlkM w g n s F) (hk : k < n) (hj : j < s) (c : GF) (hF : ∀ k' j', k' < n → j' < s → F' k' j' = if k' = k ∧ j' = j then c else F k' j') : BlkM (w.setCell ⟨g + 1 + k, j, none⟩ (.int .u8 (toI c))) g n s F' := by
  refine ⟨h.1.other _ _ (by show g ≠ g + 1 + k; omega), fun k' hk' => ?_⟩
  by_cases e : k' = k
  · subst e
    refine ((h.2 k' hk).set hj _).congr fun j' hj' => ?_
    rw [hF k' j' hk' hj']
    by_cases e2 : j' = j
    · simp only [if_pos e2, e2, and_self, if_true]
    · simp only [if_neg e2]
      rw [if_neg (fun h => e2 h.2)]
  · refine ((h.2 k' hk').other _ _ (by show g + 1 + k' ≠ g + 1 + k; omega)).congr fun j' hj' => ?_
    rw [hF k' j' hk' hj', if_neg (fun h => e h.1)]
theorem BlkM.congr {w : World} {g n s : Nat} {F F' : Nat → Nat → GF} (h : BlkM w g n s F) (hF : ∀ k' j', k' < n → j' < s → F k' j' = F' k' j') : BlkM w g n s F' :=
  ⟨h.1, fun k hk => (h.2 k hk).congr fun j hj => by rw [hF k j hk hj]⟩
theorem rw_snoc_lt {P : List (List GF)} {p : List GF} {j : Nat} (h : j < P.length) : rw_ (P ++ [p]) j = rw_ P j := by
  unfold rw_; simp only [List.getD_eq_getElem?_getD]; rw [List.getElem?_append_left h]
theorem rw_snoc_eq {P : List (List GF)} {p : List GF} {j : Nat} (h : P.length = j) : rw_ (P ++ [p]) j = p := by
  unfold rw_; simp only [List.getD_eq_getElem?_getD]; rw [List.getElem?_append_right (by omega), h, Nat.sub_self]; rfl
/-- The numbers of the columns' polynomials, and the polynomials. -/
def SolP (X : List GF) (R N P : List (List GF)) (L t n : Nat) : Prop := P.length = n ∧ ∀ j, j < n → FoundP X (colM R L j) t (rw_ P j) ∧ ∀ k, k < t → co (rw_ N k) j = co (rw_ P j) k
/-- What stands in the rows behind i columns and k numbers of the next one. -/
def soF (P : List (List GF)) (p : List GF) (i k : Nat) (k' j : Nat) : GF := if j < i then co (rw_ P j) k' else if j = i ∧ k' < k then co p k' else 0
theorem soF_zero (P : List (List GF)) (p : List GF) (i k' j : Nat) : soF P p i 0 k' j = if j < i then co (rw_ P j) k' else 0 := by
  unfold soF
  by_cases h : j < i
  · rw [if_pos h, if_pos h]
  · rw [if_neg h, if_neg h, if_neg (fun h => absurd h.2 (by omega))]
theorem soF_next (P : List (List GF)) (p : List GF) (i k k' j : Nat) : soF P p i (k + 1) k' j = if k' = k ∧ j = i then co p k else soF P p i k k' j := by
  unfold soF
  by_cases e : k' = k ∧ j = i
  · rw [if_pos e, if_neg (by omega), if_pos (by omega), e.1]
  · rw [if_neg e]
    by_cases h : j < i
    · rw [if_pos h, if_pos h]
    · rw [if_neg h, if_neg h]
      by_cases h2 : j = i ∧ k' < k
      · rw [if_pos h2, if_pos (by omega)]
      · rw [if_neg h2, if_neg (by omega)]
theorem soF_all {P : List (List GF)} {p : List GF} {i : Nat} (hP : P.length = i) (q : List GF) (k' j : Nat) : soF P p i p.length k' j = soF (P ++ [p]) q (i + 1) 0 k' j := by
  rw [soF_zero]
  unfold soF
  by_cases h : j < i
  · rw [if_pos h, if_pos (by omega), rw_snoc_lt (by omega)]
  · rw [if_neg h]
    by_cases e : j = i
    · rw [if_pos (show j < i + 1 by omega), e, rw_snoc_eq hP]
      by_cases h2 : k' < p.length
      · rw [if_pos ⟨rfl, h2⟩]
      · rw [if_neg (fun h => h2 h.2), co_ge (by omega)]
    · rw [if_neg (show ¬ (j = i ∧ k' < p.length) from fun h => e h.1), if_neg (show ¬ j < i + 1 by omega)]

set_option maxHeartbeats 4000000 in
theorem solved_any (b L t n : Nat) (aX : Option Addr) (cX : Nat) (X : List GF) (aR : Option Addr) (cR : Nat) (R : List (List GF)) (w : World) (hf : Fld w b) (hX : Pa w aX L cX X) (hR : Mat w aR L cR R) (hA : Apart X) (ht : 1 ≤ t) (htL : t ≤ L) (hL : L ≤ 200) (hw : ∀ k, k < L → (rw_ R k).length = n) (hn : n ≤ 1000) :
    Calls Try.prog 38 #[.pointer (some ⟨b, 0, none⟩), .int .i64 (t : Nat), .slice aX L cX, .slice aR L cR] w fun e w' => ∃ (a : Option Addr) (m c : Nat) (bb : Bool), e = .returned (.tuple #[.slice a m c, .bool bb]) ∧
      Hid ((bb = true → ∃ g N P, a = some ⟨g, 0, none⟩ ∧ m = t ∧ c = t ∧ RB w' w.heap.size g t n N ∧ SolP X R N P L t n) ∧ (bb = false → ∃ j, j < n ∧ ∀ e q, ¬ RightP X (colM R L j) t e q)) ∧ Below w.heap.size w w' := by
  have HVA := Lib.hid (vanish_any b aX L cX X w hf hX (by omega))
  obtain ⟨bR, oR, a0, c0, hbe, hbR, hc0, hp0⟩ := hR.row (i := 0) (by omega)
  rw [hw 0 (by omega)] at hc0 hp0
  subst hbe
  have HX := Lib.hid hX; have HR := Lib.hid hR; have HF := Lib.hid hf
  have HC := Lib.hid (And.intro hA (And.intro hX.len (And.intro ht (And.intro htL (And.intro hL hn)))))
  have HW := Lib.hid hw
  have hbx := hX.bd; have hbr := hR.bd; have hb0 := hp0.bd
  have qL : (0 : Int) < (L : Int) := by omega
  have qt : (t : Int) ≤ 200 := by omega
  rw [Nat.add_zero] at hc0
  clear hf hX hR hA ht htL hL hw hn hp0
  go_enter Try.func38, Try.ntmps38
  go_wp2_with (first
    | (go_at_call 56; go_loud (refine HVA.out.mono ?_; rintro e w1 ⟨gV, rfl, ho, hb⟩; have HPV := Lib.hid (Pa.own2 ho); have HB1 := Lib.hid hb; have HTH := Lib.hid (thr_any b L n (some ⟨gV, 0, none⟩) (L + 1) X aX cX (some ⟨bR, oR, none⟩) cR R w1 (HF.out.below hb) (Pa.own2 ho) (HX.out.on hb) (HR.out.on hb) HC.out.1 (by have := HC.out; omega) (by have := HC.out; omega) HW.out (by have := HC.out; omega)); have hc1 := (hb.cell (p := ⟨bR, oR, none⟩) hbR).trans hc0; clear ho hb))
    | (go_at_call 57; go_loud (refine HTH.out.mono ?_; rintro e w2 ⟨gW, M, rfl, hrb, hti, hb⟩; have HMW := Lib.hid (hrb.mat (by have := HC.out; omega)); have HB2 := Lib.hid (bt HB1.out hb); have HPV2 := Lib.hid (HPV.out.on hb); have hc2 := (hb.cell (p := ⟨bR, oR, none⟩) (by have := HB1.out.size; show bR < _; omega)).trans hc1; have HBL := Lib.hid (blank_any t n w2 (by have := HC.out; omega) (by have := HC.out; omega)); clear hrb hb))
    | (go_at_call 58; go_loud (refine HBL.out.mono ?_; rintro e w3 ⟨rfl, hm, hb⟩; have HM3 := Lib.hid hm; have H32 := Lib.hid hb; have hc3 := (hb.cell (p := ⟨bR, oR, none⟩) (by have := HB2.out.size; show bR < _; omega)).trans hc2; clear hm hb)))
  obtain ⟨g, hg⟩ : ∃ g, g = w2.heap.size := ⟨_, rfl⟩
  rw [← hg] at HM3
  have HG := Lib.hid hg
  rw [← hg]
  clear hg
  go_loopw [40] (fun j wr => ∃ (i : Nat) (P : List (List GF)), i ≤ n ∧ P.length = i ∧ j = .int .i64 (i : Nat) ∧ Hid (BlkM wr g t n (soF P [] i 0)) ∧ Hid (∀ j, j < i → FoundP X (colM R L j) t (rw_ P j)) ∧ Hid (Below g w2 wr))
    (fun j _ => n - (intOf j).toNat)
  case atStart => exact ⟨0, [], Nat.zero_le _, rfl, rfl, Lib.hid (HM3.out.congr fun k' j' _ _ => by rw [soF_zero, if_neg (by omega)]), Lib.hid (fun j hj => absurd hj (by omega)), Lib.hid (by rw [HG.out]; exact H32.out)⟩
  case round =>
    obtain ⟨i, P, hi, hPl, rfl, hM, hFo, hB⟩ := hrel
    rename World => w4
    have h24 : Below w2.heap.size w2 w4 := by rw [← HG.out]; exact hB.out
    have H24 := Lib.hid h24
    have hc4 := (h24.cell (p := ⟨bR, oR, none⟩) (by have := HB2.out.size; show bR < _; omega)).trans hc2
    clear h24
    by_cases hlt : i < n
    · have qi : (i : Int) < (n : Int) := by omega
      have qi0 : (0 : Int) ≤ (i : Int) := by omega
      have HCO := Lib.hid (column_any (some ⟨gW, 0, none⟩) L L i n M w4 (HMW.out.on H24.out) hti.out.2.1 hlt (by have := HC.out; omega))
      have HLT := Lib.hid hlt
      clear hlt
      go_wp2_with (first
        | (go_at_call 24; go_loud (refine HCO.out.mono ?_; rintro e w5 ⟨gc, rfl, ho, hb⟩; have HB45 := Lib.hid hb; have HFN := Lib.hid (found_any b L t (some ⟨gV, 0, none⟩) (L + 1) X (colM R L i) (some ⟨gc, 0, none⟩) L (colM M L i) w5 (HF.out.below (bt HB2.out (bt H24.out hb))) (HPV2.out.on (bt H24.out hb)) (Pa.own2 ho) HC.out.1 HC.out.2.1 (fun p hp => (by have h9 := hti.out.2.2 i HLT.out p hp; rw [if_pos hp] at h9; rw [h9, colM_co _ hp])) HC.out.2.2.1 HC.out.2.2.2.1 HC.out.2.2.2.2.1); clear ho hb))
        | (go_at_call 59; go_loud (refine HFN.out.mono ?_; rintro e w6 ⟨ap, m, cp, p, bb, rfl, ho, hfp, hb⟩; have HOP := Lib.hid ho; have HB46 := Lib.hid (bt HB45.out hb); have HM6 := Lib.hid (hM.out.on (bt HB45.out hb)); have hdp := (own_paV ho).bd; clear ho hb)))
      · have hbb : bb = false := by cases bb <;> simp_all
        have HNO := Lib.hid (hfp.out.2 hbb)
        have HB9 := Lib.hid (bt HB2.out (bt H24.out HB46.out))
        go_ret2
        exact ⟨_, _, _, false, rfl, Lib.hid ⟨(fun h => by cases h), fun _ => ⟨i, HLT.out, HNO.out⟩⟩, HB9.out⟩
      · have hbb : bb = true := by cases bb <;> simp_all
        have HFP := Lib.hid (hfp.out.1 hbb)
        have HPP := Lib.hid (own_paV HOP.out)
        have HPL := Lib.hid (show p.length = m from HPP.out.len)
        have HNE := Lib.hid (show ∀ b off, ap = some ⟨b, off, none⟩ → ∀ k, k < t → b ≠ g + 1 + k from fun b off e k hk => by
          have h1 := own_lo HOP.out b off e
          have h2 := (hM.out.2 k hk).lt
          have h3 := HB45.out.size
          omega)
        have HB26 := Lib.hid (show Below g w2 w6 from hB.out.trans (HB46.out.mono (by have := hM.out.1.lt; omega)))
        have HM6' := Lib.hid (HM6.out.congr (F' := soF P p i 0) fun k' j' _ _ => by rw [soF_zero, soF_zero])
        have HPL2 := Lib.hid hPl
        clear hbb hPl
        go_loopw [57] (fun j wr => ∃ k : Nat, k ≤ m ∧ j = .int .i64 (k : Nat) ∧ Hid (BlkM wr g t n (soF P p i k)) ∧ Hid (Pa wr ap m cp p) ∧ Hid (Below g w2 wr))
          (fun j _ => m - (intOf j).toNat)
        case atStart => exact ⟨0, Nat.zero_le _, rfl, HM6', HPP, HB26⟩
        case round =>
          obtain ⟨k, hk, rfl, hM7, hP7, hB7⟩ := hrel
          rename World => w7
          by_cases hlk : k < m
          · obtain ⟨bp, op, rfl, hbp, hcp⟩ := hP7.out.at_ hlk
            have hkt : k < t := by have := HFP.out.2.1; have := HPL.out; omega
            have ho1 := hM7.out.1.cell hkt
            have ho2 := (hM7.out.2 k hkt).cell HLT.out
            have hfz := (hM7.out.2 k hkt).free i
            have HM8 := Lib.hid (hM7.out.set (F' := soF P p i (k + 1)) hkt HLT.out (co p k) fun k' j' _ _ => soF_next P p i k k' j')
            have HP8 := Lib.hid (hP7.out.but (gb_set w7 (g + 1 + k) i (.int .u8 (toI (co p k)))) (fun b off e => HNE.out b off e k hkt))
            have HB8 := Lib.hid (hB7.out.setCell (p := ⟨g + 1 + k, i, none⟩) (by show g ≤ g + 1 + k; omega) (.int .u8 (toI (co p k))))
            have qk : (k : Int) < (m : Int) := by omega
            have qk0 : (0 : Int) ≤ (k : Int) := by omega
            have qkt : (k : Int) < (t : Int) := by omega
            have HLK := Lib.hid hlk
            clear hlk hkt
            go_wp2
            go_roundw
            case rel => exact ⟨k + 1, by have := HLK.out; omega, by go_num, HM8, HP8, HB8⟩
            case measure => simp [intOf]; have := HLK.out; omega
          · have HM8 := Lib.hid (hM7.out.congr (F' := soF (P ++ [p]) [] (i + 1) 0) fun k' j' _ _ => by
              rw [show k = p.length by have := HPL.out; omega]
              exact soF_all HPL2.out [] k' j')
            have HFO := Lib.hid (show ∀ j, j < i + 1 → FoundP X (colM R L j) t (rw_ (P ++ [p]) j) from fun j hj => by
              by_cases e : j < i
              · rw [rw_snoc_lt (by have := HPL2.out; omega)]; exact hFo.out j e
              · obtain rfl : j = i := by omega
                rw [rw_snoc_eq HPL2.out]; exact HFP.out)
            have HLN := Lib.hid (show (P ++ [p]).length = i + 1 by rw [List.length_append, HPL2.out]; rfl)
            have qk : ¬ (k : Int) < (m : Int) := by omega
            clear hlk
            go_wp2
            go_roundw
            case rel => exact ⟨i + 1, P ++ [p], by have := HLT.out; omega, HLN.out, by go_num, HM8, HFO, hB7⟩
            case measure => simp [intOf]; have := HLT.out; omega
    · obtain rfl : n = i := by omega
      have HRB := Lib.hid ((hM.out.rb (by have := HC.out; omega)).low (B' := w.heap.size) (by rw [HG.out]; exact HB2.out.size))
      have HSO := Lib.hid (show SolP X R (rowsF t n (soF P [] n 0)) P L t n from ⟨hPl, fun j hj => ⟨hFo.out j hj, fun k hk => by rw [rowsF_co _ hk hj, soF_zero, if_pos hj]⟩⟩)
      have HB9 := Lib.hid (bt HB2.out H24.out)
      clear hPl hlt
      go_wp2
      go_ret2
      exact ⟨_, _, _, true, rfl, Lib.hid ⟨fun _ => ⟨g, _, P, rfl, rfl, rfl, HRB.out, HSO.out⟩, fun h => by cases h⟩, HB9.out⟩
end Go.Proofs.Ytfmjfdbbjggcpaa
