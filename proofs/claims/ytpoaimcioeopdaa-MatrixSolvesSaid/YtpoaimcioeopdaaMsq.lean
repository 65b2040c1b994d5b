/- Contract of the laws' square: bytes laid out as rows. -/
import Derived.Test.YtpoaimcioeopdaaMfill
namespace Go.Proofs.Ytpoaimcioeopdaa
open Go.ChangeShapes Go.WideShapes Go.ChangeAt Go.RowKit Go.Shelf GF
set_option linter.unusedVariables false
set_option maxRecDepth 100000
set_option linter.unusedSimpArgs false

/-- The i-th row of m numbers, the first q laid; the first k rows. -/
def sqr (P : List GF) (i m q : Nat) : List GF := (List.range m).map fun k => if k < q then co P (i * m + k) else 0
def sqM (P : List GF) (m k : Nat) : List (List GF) := (List.range k).map fun i => sqr P i m m
theorem length_sqr (P : List GF) (i m q : Nat) : (sqr P i m q).length = m := by simp [sqr]
theorem length_sqM (P : List GF) (m k : Nat) : (sqM P m k).length = k := by simp [sqM]
theorem sqM_step (P : List GF) (m k : Nat) : sqM P m (k + 1) = sqM P m k ++ [sqr P k m m] := by simp [sqM, List.range_succ]
theorem sqr_zero (P : List GF) (i m : Nat) : sqr P i m 0 = List.replicate m 0 := by
  apply List.ext_getElem (by simp [sqr])
  intro k h1 h2
  simp [sqr]
theorem sqr_set {P : List GF} {i m q : Nat} (hq : q < m) : (sqr P i m q).set q (co P (i * m + q)) = sqr P i m (q + 1) := by
  apply List.ext_getElem (by simp [sqr])
  intro k h1 h2
  rw [List.getElem_set]
  simp only [sqr, List.getElem_map, List.getElem_range]
  by_cases e : q = k
  · subst e; rw [if_pos rfl, if_pos (by omega)]
  · rw [if_neg e]
    by_cases e2 : k < q
    · rw [if_pos e2, if_pos (by omega)]
    · rw [if_neg e2, if_neg (by omega)]
theorem sqr_skip {P : List GF} {i m q : Nat} (h : P.length ≤ i * m + q) : sqr P i m (q + 1) = sqr P i m q := by
  apply List.ext_getElem (by simp [sqr])
  intro k h1 h2
  simp only [sqr, List.getElem_map, List.getElem_range]
  by_cases e : k = q
  · subst e; rw [if_pos (by omega), if_neg (by omega), co_ge h]
  · by_cases e2 : k < q
    · rw [if_pos e2, if_pos (by omega)]
    · rw [if_neg e2, if_neg (by omega)]
theorem wide_sqM (P : List GF) (m k : Nat) : Wide (sqM P m k) m := fun i hi => by
  rw [length_sqM] at hi
  have : rw_ (sqM P m k) i = sqr P i m m := by unfold rw_ sqM; simp [List.getD_eq_getElem?_getD, hi]
  rw [this, length_sqr]

theorem rw_sqM {P : List GF} {m k i : Nat} (h : i < k) : rw_ (sqM P m k) i = sqr P i m m := by
  unfold rw_ sqM; simp [List.getD_eq_getElem?_getD, h]
/-- The first i rows laid. -/
def sqx (P : List GF) (m n i : Nat) : List (List GF) := (List.range n).map fun k => if k < i then sqr P k m m else []
theorem length_sqx (P : List GF) (m n i : Nat) : (sqx P m n i).length = n := by simp [sqx]
theorem sqx_zero (P : List GF) (m n : Nat) : sqx P m n 0 = List.replicate n [] := by
  apply List.ext_getElem (by simp [sqx])
  intro k h1 h2
  simp [sqx]
theorem sqx_all (P : List GF) (m n : Nat) : sqx P m n n = sqM P m n := by
  apply List.ext_getElem (by simp [sqx, sqM])
  intro k h1 h2
  simp [sqx, sqM]
  intro h3; simp [sqx] at h1; omega
theorem sqx_set {P : List GF} {m n i : Nat} (h : i < n) : (sqx P m n i).set i (sqr P i m m) = sqx P m n (i + 1) := by
  apply List.ext_getElem (by simp [sqx])
  intro k h1 h2
  rw [List.getElem_set]
  simp only [sqx, List.getElem_map, List.getElem_range]
  by_cases e : i = k
  · subst e; rw [if_pos rfl, if_pos (by omega)]
  · rw [if_neg e]
    by_cases e2 : k < i
    · rw [if_pos e2, if_pos (by omega)]
    · rw [if_neg e2, if_neg (by omega)]

theorem sq_idx (i m q : Nat) (hi : i ≤ 64) (hm : m ≤ 64) (hq : q ≤ 64) : ∃ A : Nat, A = i * m + q ∧ 0 ≤ (i : Int) * (m : Int) ∧ (i : Int) * (m : Int) ≤ 5000 ∧ (i : Int) * (m : Int) + (q : Int) = (A : Int) := by
  have h : i * m ≤ 64 * 64 := Nat.mul_le_mul hi hm
  have h2 : (i : Int) * (m : Int) = ((i * m : Nat) : Int) := by rw [Int.natCast_mul]
  refine ⟨i * m + q, rfl, ?_, ?_, ?_⟩
  · rw [h2]; omega
  · rw [h2]; omega
  · rw [h2, Int.natCast_add]

set_option maxRecDepth 10000 in
set_option maxHeartbeats 4000000 in
theorem square_any (a : Option Addr) (L cap : Nat) (P : List GF) (n m : Nat) (w : World) (hp : Pa w a L cap P) (hn : n ≤ 64) (hm : m ≤ 64) :
    Calls Try.prog 10 #[.slice a L cap, .int .i64 (n : Nat), .int .i64 (m : Nat)] w fun e w' => ∃ B, e = .returned (.slice (some ⟨B, 0, none⟩) n n) ∧ GR w' w.heap.size B n (sqM P m n) ∧ Below w.heap.size w w' := by
  have HP := Lib.hid hp
  have Hl := Lib.hid hp.len
  have hbd := hp.bd
  have hmk1 := run_make_row' (P := Try.prog) 27 22 (.slice none 0 0) 24 Try.underlying27 info22 rfl .i64 .i64 n (by omega) (by omega)
  have hmk2 := run_make_row' (P := Try.prog) 22 5 (.int .u8 0) 1 Try.underlying22 info5 rfl .i64 .i64 m (by omega) (by omega)
  have hG0 := Lib.hid (GR.made w (n := n) (by unfold maxLen; omega))
  have hB0 : Hid (Below w.heap.size w (w.alloc (.cells (madeCells #[.slice none 0 0] n) 22))) := Lib.hid ((Below.refl w.heap.size w).alloc (Nat.le_refl _) _)
  clear hp
  go_enter Try.func10, Try.ntmps10
  go_wp2
  obtain ⟨B, hB⟩ : ∃ B, B = w.heap.size := ⟨_, rfl⟩
  rw [← hB] at hG0 hB0 ⊢
  have HB := Lib.hid hB
  clear hB
  go_loopw [15] (fun j wr => ∃ i : Nat, i ≤ n ∧ j = .int .i64 (i : Nat) ∧ Hid (GR wr B B n (sqx P m n i)) ∧ Hid (Below B w wr))
    (fun j _ => n - (intOf j).toNat)
  case atStart => exact ⟨0, Nat.zero_le _, rfl, by rw [sqx_zero]; exact hG0, hB0⟩
  case round =>
    obtain ⟨i, hi, rfl, hR, hW⟩ := hrel
    by_cases hlt : i < n
    · have qi : (i : Int) < (n : Int) := by omega
      have qi0 : (0 : Int) ≤ (i : Int) := by omega
      obtain ⟨ai, ci, hcB, _, _⟩ := hR.out.row hlt
      have hfz := hR.out.free i
      have hA := (Below.refl wr.heap.size wr).alloc (Nat.le_refl _) (.cells (madeCells #[.int .u8 0] m) 5)
      have hcB1 := (hA.cell (p := ⟨B, i, none⟩) hR.out.lt.2).trans hcB
      have hfz1 := (hA.frozen (p := ⟨B, i, none⟩) hR.out.lt.2).trans hfz
      obtain ⟨W2, hW2⟩ : ∃ W2, W2 = ((wr.alloc (.cells (madeCells #[.int .u8 0] m) 5)).setCell ⟨B, i, none⟩ (.slice (some ⟨wr.heap.size, 0, none⟩) m m)) := ⟨_, rfl⟩
      obtain ⟨vs, hv1, hv2⟩ := hR.out
      obtain ⟨g2, hg2⟩ : ∃ g2, g2 = wr.heap.size := ⟨_, rfl⟩
      have hBlt := hR.out.lt.2
      have hs2 : W2.heap.size = g2 + 1 := by rw [hW2, hg2]; simp
      have hblk : ∀ b, b < g2 → b ≠ B → W2.heap[b]? = wr.heap[b]? := fun b h1 h2 => by
        rw [hW2, Below.heap_setCell _ _ _ _ h2, Below.heap_alloc _ _ _ (by omega)]
      have hm2 : W2.ownsRow g2 5 1 (.slice (some ⟨g2, 0, none⟩) m m) m ((iL (sqr P i m 0)).map (Value.int .u8)) := by
        have h := own_made (w := wr) (e := 5) (n := m) (by unfold maxLen; omega)
        rw [sqr_zero]
        rw [← hg2] at h
        have h2 := h.2
        have e0 : (iL (List.replicate m 0)).map (Value.int .u8) = (List.replicate m (0 : Int)).map (Value.int .u8) := by simp [iL, toI_zero]
        rw [e0]
        refine ⟨h.1, ?_⟩
        rcases h2 with h2 | ⟨g', cap, cur, e1, e2, e3, e4⟩
        · exact .inl h2
        · refine .inr ⟨g', cap, cur, e1, e2, ?_, e4⟩
          cases e1
          rw [← e3, hW2]
          exact Below.heap_setCell _ _ _ _ (show g2 ≠ B by omega)
      have hO2 : W2.ownsRow B 22 1 (.slice (some ⟨B, 0, none⟩) n n) n (vs.set i (.slice (some ⟨g2, 0, none⟩) m m)) := by
        rw [hW2, hg2]
        exact ((hv1.alloc (.cells (madeCells #[.int .u8 0] m) 5)).stored i (.slice (some ⟨wr.heap.size, 0, none⟩) m m)).1
      have hcB2 : W2.cell? ⟨B, i, none⟩ = some (.slice (some ⟨g2, 0, none⟩) m m) := by
        have h3 := hO2.cellAt i (by omega)
        rw [List.getElem?_set_self (by rw [hv1.1]; omega)] at h3
        exact h3
      have hW3 : Below B w W2 := by
        rw [hW2]
        exact ((hW.out.alloc (by have := HB.out; have := hW.out.size; omega) _).setCell (p := ⟨B, i, none⟩) (Nat.le_refl _) _)
      have HO2 := Lib.hid hO2
      have HV2 := Lib.hid hv2
      have HM2 := Lib.hid hm2
      have HS2 := Lib.hid hs2
      have HBK := Lib.hid hblk
      have HW3 := Lib.hid hW3
      have HG2 := Lib.hid hg2
      have hmg : B < g2 := by rw [hg2]; exact hBlt
      have HC2 := Lib.hid hcB2
      clear hA hm2 hs2 hblk hW3 hBlt hv1 hv2 hO2 hcB2
      go_upto_region 6 with (fail)
      rw [← hW2, ← hg2]
      clear hcB1 hfz1 hcB hfz hW2 hg2
      have hcB2 := HC2.out
      go_wp2
      clear hcB2
      go_loopw [28] (fun j wr => ∃ q : Nat, q ≤ m ∧ j = .int .i64 (q : Nat) ∧ Hid (wr.ownsRow g2 5 1 (.slice (some ⟨g2, 0, none⟩) m m) m ((iL (sqr P i m q)).map (Value.int .u8))) ∧ Hid (Below g2 W2 wr))
        (fun j _ => m - (intOf j).toNat)
      case atStart => exact ⟨0, Nat.zero_le _, rfl, HM2, Lib.hid (Below.refl _ _)⟩
      case round =>
        rename World => w1
        obtain ⟨q, hq, rfl, hO, hB5⟩ := hrel
        by_cases hlt2 : q < m
        · have qq : (q : Int) < (m : Int) := by omega
          have qq0 : (0 : Int) ≤ (q : Int) := by omega
          have hcB := (hB5.out.cell (p := ⟨B, i, none⟩) hmg).trans HC2.out
          have hBw : Below w.heap.size w w1 := by
            have h := HW3.out.trans (hB5.out.mono (by omega : B ≤ g2))
            rw [HB.out] at h; exact h
          obtain ⟨A, hA, hm0, hm1, hm2⟩ := sq_idx i m q (by omega) hm (by omega)
          have HA := Lib.hid hA
          clear hA
          by_cases hAl : A < L
          · obtain ⟨bx, ox, rfl, hbx, hcx⟩ := (HP.out.on hBw).at_ hAl
            have qA : (A : Int) < (L : Int) := by omega
            have hcg := own_cells hO.out q hlt2
            rw [Nat.zero_add] at hcg
            have hfz := hO.out.frozenAt q
            have hst := (hO.out.stored q (.int .u8 (toI (co P A)))).1
            have hset : (iL (sqr P i m q)).set q (toI (co P A)) = iL (sqr P i m (q + 1)) := by
              rw [← sqr_set hlt2, HA.out]; simp [iL, List.map_set]
            rw [map_set_u8, hset] at hst
            have HST := Lib.hid hst
            have HBS := Lib.hid (hB5.out.setCell (p := ⟨g2, q, none⟩) (Nat.le_refl _) (.int .u8 (toI (co P A))))
            clear hBw hst hset
            go_upto_region 11 with (fail)
            go_region
            all_goals
              go_wp2
              go_roundw
              case rel => exact ⟨q + 1, by omega, by go_num, Lib.hid HST.out, Lib.hid ⟨HBS.out.os, HBS.out.tape, HBS.out.output, HBS.out.size, HBS.out.block⟩⟩
              case measure => simp [intOf]; omega
          · have qA : ¬ (A : Int) < (L : Int) := by omega
            have hsk := sqr_skip (P := P) (i := i) (m := m) (q := q) (by rw [Hl.out, ← HA.out]; omega)
            have HSK := Lib.hid hsk
            clear hBw hsk
            go_wp2
            go_roundw
            case rel => exact ⟨q + 1, by omega, by go_num, Lib.hid (by rw [HSK.out]; exact hO.out), hB5⟩
            case measure => simp [intOf]; omega
        · obtain rfl : m = q := by omega
          have hp := pa_own hO.out
          have hv := HV2.out.keep (w' := w1) (ok' := T8 w1) (by have := hB5.out.size; have := HS2.out; have := HG2.out; omega) (fun b h1 h2 => by
            have e := (hB5.out.block b (by rw [HG2.out]; exact h1)).trans (HBK.out b (by rw [HG2.out]; exact h1) (hR.out.ne h2))
            exact ⟨h2.keep e, e⟩)
          have hr := hv.set (i := i) (by rw [length_sqx]; exact hlt) (P := sqr P i m m) (a := some ⟨g2, 0, none⟩) (c := m) (by rw [length_sqr]; exact hp) (fun b off e _ => by cases e; exact own_t8 hO.out)
          rw [length_sqr, sqx_set hlt] at hr
          have HGR : Hid (GR w1 B B n (sqx P m n (i + 1))) := Lib.hid ⟨_, own_on HO2.out hB5.out hmg, hr⟩
          have HWW : Hid (Below B w w1) := Lib.hid (HW3.out.trans (hB5.out.mono (by omega : B ≤ g2)))
          clear hp hv hr
          go_wp2
          go_roundw
          case rel => exact ⟨i + 1, by omega, by go_num, HGR, HWW⟩
          case measure => simp [intOf]; omega
    · obtain rfl : n = i := by omega
      go_wp2
      go_ret
      have h := hR.out
      rw [sqx_all] at h
      have h2 := hW.out
      rw [HB.out] at h2
      exact ⟨B, rfl, h.base (by have := HB.out; omega), h2⟩
end Go.Proofs.Ytpoaimcioeopdaa
