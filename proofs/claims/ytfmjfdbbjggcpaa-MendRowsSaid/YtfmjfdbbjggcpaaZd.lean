/- Contract of mend's through: the polynomials through all places and rows, by whole rows. -/
import Derived.Test.YtfmjfdbbjggcpaaZc
namespace Go.Proofs.Ytfmjfdbbjggcpaa
open Go.ChangeShapes Go.WideShapes Go.ChangeAt Go.RowKit Go.Shelf GF
set_option linter.unusedVariables false
set_option linter.unusedSimpArgs false
set_option maxRecDepth 100000

/-! ## rows behind a block of their own -/
/-- A block of numbers. -/
def TyB (w : World) (b : Nat) : Prop := ∃ cur fz, w.heap[b]? = some (.cells cur 5 fz)
/-- Rows of one width: their slices in a block from B on, the rows in blocks of numbers from B on. -/
def RB (w : World) (B g n s : Nat) (M : List (List GF)) : Prop :=
  B ≤ g ∧ M.length = n ∧ ∃ (A : Nat → Option Addr) (C : Nat → Nat), Blk w g 22 n (fun k => .slice (A k) s (C k)) ∧
    ∀ k, k < n → (rw_ M k).length = s ∧ Pa w (A k) s (C k) (rw_ M k) ∧ ∀ b off, A k = some ⟨b, off, none⟩ → B ≤ b ∧ b < w.heap.size ∧ TyB w b
theorem RB.on {w w' : World} {B g n s : Nat} {M : List (List GF)} (h : RB w B g n s M) (hb : Below w.heap.size w w') : RB w' B g n s M := by
  obtain ⟨h1, h2, A, C, h3, h4⟩ := h
  refine ⟨h1, h2, A, C, h3.on hb h3.lt, fun k hk => ?_⟩
  obtain ⟨k1, k2, k3⟩ := h4 k hk
  refine ⟨k1, k2.on hb, fun b off e => ?_⟩
  obtain ⟨m1, m2, cur, fz, m3⟩ := k3 b off e
  exact ⟨m1, by have := hb.size; omega, cur, fz, by rw [hb.block b m2]; exact m3⟩
theorem RB.low {w : World} {B B' g n s : Nat} {M : List (List GF)} (h : RB w B g n s M) (hB : B' ≤ B) : RB w B' g n s M := by
  obtain ⟨h1, h2, A, C, h3, h4⟩ := h
  refine ⟨by omega, h2, A, C, h3, fun k hk => ?_⟩
  obtain ⟨k1, k2, k3⟩ := h4 k hk
  exact ⟨k1, k2, fun b off e => ⟨by have := (k3 b off e).1; omega, (k3 b off e).2⟩⟩
theorem rw_set {M : List (List GF)} {k i : Nat} {P : List GF} (h : k < M.length) : rw_ (M.set k P) i = if i = k then P else rw_ M i := by
  unfold rw_
  simp only [List.getD_eq_getElem?_getD, List.getElem?_set]
  by_cases e : k = i
  · subst e; simp [h]
  · simp [e, Ne.symm e]
theorem ty_of_own {w : World} {base n c : Nat} {e : TypeId} {g : Nat} {xs : List Value} (h : w.ownsRow base e 1 (.slice (some ⟨g, 0, none⟩) n c) n xs) : base ≤ g ∧ g < w.heap.size ∧ ∃ cur fz, w.heap[g]? = some (.cells cur e fz) := by
  rcases h.2 with ⟨e, _⟩ | ⟨g', c', cur, e, hg, hh, _⟩
  · cases e
  · cases e; exact ⟨hg, (Array.getElem?_eq_some_iff.1 hh).1, _, _, hh⟩
/-- One of the rows is put anew: a row of one's own. -/
theorem RB.set {w w' : World} {B g n s k g' : Nat} {M : List (List GF)} {P : List GF} (h : RB w B g n s M) (hB : B ≤ w.heap.size) (hb : Below w.heap.size w w') (hk : k < n) (hl : P.length = s) (ho : w'.ownsRow w.heap.size 5 1 (.slice (some ⟨g', 0, none⟩) s s) s ((iL P).map (Value.int .u8))) :
    RB (w'.setCell ⟨g, k, none⟩ (.slice (some ⟨g', 0, none⟩) s s)) B g n s (M.set k P) := by
  have h' := h.on hb
  obtain ⟨h1, h2, A, C, h3, h4⟩ := h'
  obtain ⟨t1, t2, t3⟩ := ty_of_own ho
  have hne : ∀ b, TyB w' b → b ≠ g := fun b ⟨cur, fz, e⟩ e2 => by
    rw [e2, h3] at e
    injection e with e
    injection e with _ e
    exact absurd e (by decide)
  have hty : ∀ b, TyB w' b → TyB (w'.setCell ⟨g, k, none⟩ (.slice (some ⟨g', 0, none⟩) s s)) b := fun b ⟨cur, fz, e⟩ => ⟨cur, fz, by rw [Below.heap_setCell _ _ _ _ (hne b ⟨cur, fz, e⟩)]; exact e⟩
  refine ⟨h1, by rw [List.length_set]; exact h2, fun i => if i = k then some ⟨g', 0, none⟩ else A i, fun i => if i = k then s else C i, (h3.set hk _).congr fun j hj => ?_, fun i hi => ?_⟩
  · by_cases e : j = k
    · simp only [if_pos e]
    · simp only [if_neg e]
  · rw [rw_set (M := M) (by omega)]
    by_cases e : i = k
    · simp only [if_pos e]
      refine ⟨hl, (own_paV ho).but (gb_set _ _ _ _) (fun b off e2 => by cases e2; exact hne g' t3), fun b off e2 => ?_⟩
      cases e2
      exact ⟨by omega, by simp; exact t2, hty g' t3⟩
    · simp only [if_neg e]
      obtain ⟨k1, k2, k3⟩ := h4 i hi
      refine ⟨k1, k2.but (gb_set _ _ _ _) (fun b off e2 => hne b (k3 b off e2).2.2), fun b off e2 => ?_⟩
      obtain ⟨m1, m2, m3⟩ := k3 b off e2
      exact ⟨m1, by simp; exact m2, hty b m3⟩
theorem RB.mat {w : World} {B g n s : Nat} {M : List (List GF)} (h : RB w B g n s M) (hn : n ≤ 1000000) : Mat w (some ⟨g, 0, none⟩) n n M := by
  obtain ⟨h1, h2, A, C, h3, h4⟩ := h
  refine ⟨h2, Nat.le_refl _, by unfold maxLen; omega, (fun e => by cases e), (List.range n).map (fun k => .slice (A k) s (C k)), ⟨by simp [h2], fun i hi => ?_⟩, fun h0 => ⟨g, 0, rfl, h3.lt, fun i hi => ?_⟩⟩
  · rw [h2] at hi
    obtain ⟨k1, k2, _⟩ := h4 i hi
    refine ⟨A i, C i, by rw [k1]; simp [hi], by rw [k1]; exact k2.1.2.2.2.1, k2.1.2.2.2.2, k2.2, fun h0 => ?_⟩
    obtain ⟨b, off, e, hb, hc⟩ := k2.1.2.2.1 (by rw [length_iL]; exact h0)
    exact ⟨b, off, e, hb, trivial, fun j hj => by have := hc j (by rw [length_iL]; exact hj); rwa [getD_iL] at this⟩
  · rw [Nat.zero_add, h3.cell hi]; simp [hi]
/-- The rows that a function tells. -/
def rowsF (n s : Nat) (F : Nat → Nat → GF) : List (List GF) := (List.range n).map fun k => (List.range s).map (F k)
theorem rowsF_row {n s k : Nat} (F : Nat → Nat → GF) (h : k < n) : rw_ (rowsF n s F) k = (List.range s).map (F k) := by
  unfold rw_ rowsF; simp [List.getD_eq_getElem?_getD, h]
theorem rowsF_co {n s k j : Nat} (F : Nat → Nat → GF) (h : k < n) (hj : j < s) : co (rw_ (rowsF n s F) k) j = F k j := by
  rw [rowsF_row F h]; unfold co; simp [List.getD_eq_getElem?_getD, hj]
theorem BlkM.rb {w : World} {g n s : Nat} {F : Nat → Nat → GF} (h : BlkM w g n s F) (hs : s ≤ 1000000) : RB w g g n s (rowsF n s F) := by
  refine ⟨Nat.le_refl _, by simp [rowsF], fun k => some ⟨g + 1 + k, 0, none⟩, fun _ => s, h.1, fun k hk => ?_⟩
  have hb := h.2 k hk
  rw [rowsF_row F hk]
  refine ⟨by simp, Blk.pa (hb.congr fun j hj => ?_) (by simp) hs, fun b off e => ?_⟩
  · unfold gB co; simp [List.getD_eq_getElem?_getD, hj]
  · cases e; exact ⟨by omega, hb.lt, _, _, hb⟩

/-! ## the maths -/
/-- The first k rows, and U's numbers times the row r. -/
def thS (M : List (List GF)) (U r : List GF) : Nat → List (List GF)
  | 0 => M
  | k + 1 => (thS M U r k).set k (sumG (rw_ (thS M U r k) k) (co U k) r)
theorem thS_len (M : List (List GF)) (U r : List GF) : ∀ k, (thS M U r k).length = M.length
  | 0 => rfl
  | k + 1 => by rw [thS, List.length_set, thS_len M U r k]
theorem thS_row {M : List (List GF)} (U r : List GF) : ∀ k, k ≤ M.length → ∀ i, rw_ (thS M U r k) i = if i < k then sumG (rw_ M i) (co U i) r else rw_ M i
  | 0, _, i => by rw [if_neg (by omega)]; rfl
  | k + 1, hk, i => by
    have ih := thS_row (M := M) U r k (by omega)
    have e0 := ih k
    rw [if_neg (Nat.lt_irrefl k)] at e0
    rw [thS, rw_set (M := thS M U r k) (by rw [thS_len]; omega), e0]
    by_cases e : i = k
    · rw [if_pos e, if_pos (by omega), e]
    · rw [if_neg e, ih i]
      by_cases e2 : i < k
      · rw [if_pos e2, if_pos (by omega)]
      · rw [if_neg e2, if_neg (by omega)]
theorem thS_ev {M : List (List GF)} {U r : List GF} {L n j : Nat} (hM : M.length = L) (hw : ∀ k, k < L → (rw_ M k).length = n) (hU : U.length = L) (hj : j < n) (x : GF) :
    ev (colM (thS M U r L) L j) x = ev (colM M L j) x + co r j * ev U x := by
  rw [← ev_smulL, ← ev_addL]
  refine ev_congr (fun k => ?_) x
  rw [co_addL, co_smulL]
  by_cases hk : k < L
  · rw [colM_co _ hk, colM_co _ hk, thS_row U r L (by omega), if_pos hk, sumG_co _ _ (by rw [hw k hk]; exact hj), GF.mul_comm (co U k)]
  · rw [co_ge (by rw [colM_len]; omega), co_ge (by rw [colM_len]; omega), co_ge (l := U) (by omega), GF.mul_zero, GF.add_zero]
/-- What the rows are behind the first i places. -/
def ThrI (X : List GF) (R M : List (List GF)) (L n i : Nat) : Prop := M.length = L ∧ (∀ k, k < L → (rw_ M k).length = n) ∧ ∀ j, j < n → ∀ p, p < L → ev (colM M L j) (co X p) = if p < i then co (rw_ R p) j else 0
theorem thr_zero (X : List GF) (R : List (List GF)) (L n : Nat) : ThrI X R (rowsF L n fun _ _ => 0) L n 0 := by
  refine ⟨by simp [rowsF], fun k hk => by rw [rowsF_row _ hk]; simp, fun j hj p hp => ?_⟩
  rw [if_neg (by omega)]
  have e : ev (colM (rowsF L n fun _ _ => 0) L j) (co X p) = ev [] (co X p) := ev_congr (fun k => by
    by_cases hk : k < L
    · rw [colM_co _ hk, rowsF_co _ hk hj]; rfl
    · rw [co_ge (by rw [colM_len]; omega)]; rfl) _
  rw [e]; rfl
theorem thr_next {X : List GF} {R M : List (List GF)} {L n i : Nat} {U : List GF} (h : ThrI X R M L n i) (hX : X.length = L) (hU : UnitP X i U) : ThrI X R (thS M U (rw_ R i) L) L n (i + 1) := by
  obtain ⟨h1, h2, h3⟩ := h
  refine ⟨by rw [thS_len]; exact h1, fun k hk => by rw [thS_row _ _ L (by omega), if_pos hk, sumG_len]; exact h2 k hk, fun j hj p hp => ?_⟩
  rw [thS_ev h1 h2 (hU.1.trans hX) hj, h3 j hj p hp, hU.2 p (by omega)]
  by_cases e : p = i
  · rw [if_neg (by omega), if_pos e, if_pos (by omega), GF.mul_one, GF.zero_add, e]
  · rw [if_neg e, GF.mul_zero, GF.add_zero]
    by_cases e2 : p < i
    · rw [if_pos e2, if_pos (by omega)]
    · rw [if_neg e2, if_neg (by omega)]

/-! ## through -/
set_option maxHeartbeats 4000000 in
theorem thr_any (b L n : Nat) (aV : Option Addr) (cV : Nat) (X : List GF) (aX : Option Addr) (cX : Nat) (aR : Option Addr) (cR : Nat) (R : List (List GF)) (w : World) (hf : Fld w b) (hV : Pa w aV (L + 1) cV (vanA X L)) (hX : Pa w aX L cX X) (hR : Mat w aR L cR R) (hA : Apart X) (hL1 : 1 ≤ L) (hL : L ≤ 255) (hw : ∀ k, k < L → (rw_ R k).length = n) (hn : n ≤ 1000) :
    Calls Try.prog 57 #[.pointer (some ⟨b, 0, none⟩), .slice aV (L + 1 : Nat) cV, .slice aX L cX, .slice aR L cR] w fun e w' => ∃ g M, e = .returned (.slice (some ⟨g, 0, none⟩) L L) ∧ RB w' w.heap.size g L n M ∧ Hid (ThrI X R M L n L) ∧ Below w.heap.size w w' := by
  have HBL := Lib.hid (blank_any L n w (by omega) hn)
  obtain ⟨bR, oR, a0, c0, hbe, hbR, hc0, hp0⟩ := hR.row (i := 0) (by omega)
  rw [hw 0 (by omega)] at hc0 hp0
  subst hbe
  have HV := Lib.hid hV; have HX := Lib.hid hX; have HR := Lib.hid hR; have HF := Lib.hid hf
  have HC := Lib.hid (And.intro hA (And.intro hX.len (And.intro hL hn)))
  have HW := Lib.hid hw
  have hbx := hX.bd; have hbr := hR.bd; have hbv := hV.bd; have hb0 := hp0.bd
  have qL : (0 : Int) < (L : Int) := by omega
  rw [Nat.add_zero] at hc0
  clear hf hV hX hR hA hL1 hL hw hn hp0
  go_enter Try.func57, Try.ntmps57
  go_wp2_with (go_at_call 58; go_loud (refine HBL.out.mono ?_; rintro e w1 ⟨rfl, hm, hb⟩; have HM1 := Lib.hid (hm.rb (by have := HC.out.2.2.2; omega)); have HB1 := Lib.hid hb; clear hm hb))
  obtain ⟨g, hg⟩ : ∃ g, g = w.heap.size := ⟨_, rfl⟩
  rw [← hg] at HM1
  have HG := Lib.hid hg
  rw [← hg]
  clear hg
  go_loopw [23] (fun j wr => ∃ (i : Nat) (M : List (List GF)), i ≤ L ∧ j = .int .i64 (i : Nat) ∧ Hid (RB wr g g L n M) ∧ Hid (ThrI X R M L n i) ∧ Hid (Below w.heap.size w wr))
    (fun j _ => L - (intOf j).toNat)
  case atStart => exact ⟨0, _, Nat.zero_le _, rfl, HM1, Lib.hid (thr_zero _ _ _ _), HB1⟩
  case round =>
    obtain ⟨i, M, hi, rfl, hM, hT, hB⟩ := hrel
    rename World => w2
    by_cases hlt : i < L
    · obtain ⟨bx, ox, rfl, hbx', hcx⟩ := (HX.out.on hB.out).at_ hlt
      have qi : (i : Int) < (L : Int) := by omega
      have qi0 : (0 : Int) ≤ (i : Int) := by omega
      have HU := Lib.hid (unit_any b L i aV cV X w2 (HF.out.below hB.out) (HV.out.on hB.out) HC.out.1 HC.out.2.1 hlt HC.out.2.2.1)
      have HLT := Lib.hid hlt
      clear hlt
      go_wp2_with (go_at_call 66; go_loud (refine HU.out.mono ?_; rintro e w3 ⟨gU, U, rfl, ho, hup, hb⟩; have HM3 := Lib.hid (hM.out.on hb); have HB3 := Lib.hid (bt hB.out hb); have HPU := Lib.hid (own_paV ho); have HNE := Lib.hid (show gU ≠ g from (by obtain ⟨_, _, _, _, hbk9, _⟩ := hM.out; have h1 := hbk9.lt; have h2 := (ho.lt gU rfl).1; omega)); clear ho hb))
      go_loopw [33] (fun j wr => ∃ (k : Nat), k ≤ L ∧ j = .int .i64 (k : Nat) ∧ Hid (RB wr g g L n (thS M U (rw_ R i) k)) ∧ Hid (Below w.heap.size w wr) ∧ Hid (Pa wr (some ⟨gU, 0, none⟩) L L U))
        (fun j _ => L - (intOf j).toNat)
      case atStart => exact ⟨0, Nat.zero_le _, rfl, HM3, HB3, HPU⟩
      case round =>
        obtain ⟨k, hk, rfl, hM4, hB4, hPU4⟩ := hrel
        rename World => w4
        by_cases hlk : k < L
        · obtain ⟨bU, oU, eU, hbU, hcU⟩ := hPU4.out.at_ hlk
          cases eU
          rw [Nat.zero_add] at hcU
          obtain ⟨_, _, A, C, hbk, hrows⟩ := hM4.out
          obtain ⟨k1, k2, k3⟩ := hrows k hlk
          have hcg := hbk.cell hlk
          have hfz := hbk.free k
          obtain ⟨b9, o9, a9, c9, e9, hb9, hc9, hp9⟩ := (HR.out.on hB4.out).row (i := i) HLT.out
          cases e9
          rw [HW.out i HLT.out] at hc9 hp9
          have HSU := Lib.hid (fsum_any b (toI (co U k)) _ _ _ (iL (rw_ (thS M U (rw_ R i) k) k)) _ _ _ (iL (rw_ R i)) w4.drew (HF.out.below (show Below w.heap.size w w4.drew from hB4.out.drew)) (toI_bd _) k2.1 hp9.1 (by have := HC.out.2.2.2; omega))
          rw [sumL_G] at HSU
          have hd2 := k2.bd; have hd9 := hp9.bd
          have qk : (k : Int) < (L : Int) := by omega
          have qk0 : (0 : Int) ≤ (k : Int) := by omega
          have HLK := Lib.hid hlk
          have HK1 := Lib.hid k1
          have hgw := hbk.lt
          clear k2 k3 hrows hp9 hlk k1
          go_wp2_with fail
          go_region_with (go_at_call 53; refine HSU.out.mono ?_; rintro e w5 ⟨g5, rfl, ho5, hb5⟩; have HO5 := Lib.hid ho5; have HB5 := Lib.hid hb5; have hc5 := cell_of_heap hcg (hb5.block g hgw); have hf5 := (hb5.frozen (p := ⟨g, k, none⟩) hgw).trans hfz; clear ho5 hb5)
          all_goals
            have HM6 := Lib.hid ((show RB w4.drew g g L n (thS M U (rw_ R i) k) from hM4.out).set (w' := w5) (by have := hgw; show g ≤ w4.heap.size; omega) HB5.out HLK.out (by rw [sumG_len]; exact HK1.out) HO5.out)
            have HB6 := Lib.hid ((hB4.out.trans ((show Below w4.heap.size w4 w5 from (below_drewN (Below.refl _ _) 1).trans HB5.out).mono hB4.out.size)).setCell (p := ⟨g, k, none⟩) (by rw [HG.out]; exact Nat.le_refl _) (.slice (some ⟨g5, 0, none⟩) n n))
            have HPU6 := Lib.hid (((show Pa w4.drew (some ⟨gU, 0, none⟩) L L U from hPU4.out).on HB5.out).but (gb_set w5 g k (.slice (some ⟨g5, 0, none⟩) n n)) (fun b off e => by cases e; exact HNE.out))
            go_wp2
            go_roundw
            case rel => exact ⟨k + 1, by have := HLK.out; omega, by go_num, HM6, HB6, HPU6⟩
            case measure => simp [intOf]; have := HLK.out; omega
        · obtain rfl : k = L := by omega
          have HT2 := Lib.hid (thr_next hT.out HC.out.2.1 hup.out)
          have HM9 := Lib.hid hM4.out
          have HLT2 := Lib.hid (show i + 1 ≤ k from HLT.out)
          clear hlk
          go_wp2
          go_roundw
          case rel => exact ⟨i + 1, _, HLT2.out, by go_num, HM9, HT2, hB4⟩
          case measure => simp [intOf]; have := HLT2.out; omega
    · obtain rfl : i = L := by omega
      go_wp2
      go_ret
      exact ⟨g, M, rfl, by rw [← HG.out]; exact hM.out, hT, hB.out⟩
end Go.Proofs.Ytfmjfdbbjggcpaa
