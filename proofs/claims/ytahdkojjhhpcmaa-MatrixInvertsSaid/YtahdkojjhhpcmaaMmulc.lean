/- Contracts of Mul. -/
import Derived.Test.YtahdkojjhhpcmaaMtimes
import Derived.Deep.RegionHeld
namespace Go.Proofs.Ytahdkojjhhpcmaa
open Go.ChangeShapes Go.WideShapes Go.ChangeAt Go.RowKit Go.Shelf GF
set_option linter.unusedVariables false
set_option linter.unusedSimpArgs false

theorem GR.make_row {w : World} {base B n : Nat} {M : List (List GF)} (h : GR w base B n M) {i m : Nat} (hi : i < n) (hm : m ≤ maxLen) : GR ((w.alloc (.cells (madeCells #[.int .u8 0] m) 5)).setCell ⟨B, i, none⟩ (.slice (some ⟨w.heap.size, 0, none⟩) m m)) base B n (M.set i (List.replicate m 0)) := by
  have h1 := h.on ((Below.refl w.heap.size w).alloc (Nat.le_refl _) (.cells (madeCells #[.int .u8 0] m) 5))
  have h2 := own_made (w := w) (e := 5) hm
  have e : (List.replicate m (0 : Int)).map (Value.int .u8) = (iL (List.replicate m 0)).map (Value.int .u8) := by simp [iL, toI_zero]
  rw [e] at h2
  have h3 := pa_own h2
  have h4 := h1.set hi (P := List.replicate m 0) (a := some ⟨w.heap.size, 0, none⟩) (c := m) (by rw [List.length_replicate]; exact h3) (fun b off e _ => by cases e; exact own_t8 h2)
  rw [List.length_replicate] at h4
  exact h4
/-- Sums of rows. -/
theorem sumL_G {P Q : List GF} {m : Nat} (x : GF) (hp : P.length = m) (hq : Q.length = m) : sumL (iL P) (toI x) (iL Q) = iL (fl m fun c => co P c + x * co Q c) := by
  apply list_ext_getD (by rw [length_sumL, length_iL, length_iL, length_fl, hp])
  intro i hi
  rw [length_sumL, length_iL, hp] at hi
  rw [sumL_getD _ _ (by rw [length_iL, hp]; exact hi), if_pos (by rw [length_iL, hq]; exact hi), getD_iL, getD_iL, getD_iL, co_fl, if_pos hi, gmI_G, xoI_G]
theorem sum_G (b : Nat) (x : GF) (m : Nat) (a1 : Option Addr) (cap1 : Nat) (P : List GF) (a2 : Option Addr) (cap2 : Nat) (Q : List GF) (w : World) (hf : Fld w b) (hp : Pa w a1 m cap1 P) (hq : Pa w a2 m cap2 Q) (hm : m ≤ 1000) :
    Calls Try.prog 39 #[.pointer (some ⟨b, 0, none⟩), .slice a1 m cap1, .int .u8 (toI x), .slice a2 m cap2] w fun e w' => ∃ g, e = .returned (.slice (some ⟨g, 0, none⟩) m m) ∧ (w.heap.size ≤ g ∧ T8 w' g) ∧ Pa w' (some ⟨g, 0, none⟩) m m (fl m fun c => co P c + x * co Q c) ∧ Below w.heap.size w w' :=
  (sum_any b (toI x) a1 m cap1 (iL P) a2 m cap2 (iL Q) w hf (toI_bd x) hp.1 hq.1 (by omega)).mono fun e w' ⟨g, h1, h2, h3⟩ => ⟨g, h1, ⟨(h2.lt g rfl).1, own_t8 h2⟩, by rw [sumL_G x hp.len hq.len] at h2; exact pa_own h2, h3⟩
/-- So many of the inner sums. -/
def mpart (r : List GF) (O : List (List GF)) (m k : Nat) : List GF := fl m fun c => dt k (co r) (fun j => ent O j c)
theorem length_mpart (r : List GF) (O : List (List GF)) (m k : Nat) : (mpart r O m k).length = m := length_fl _ _
theorem mpart_zero (r : List GF) (O : List (List GF)) (m : Nat) : mpart r O m 0 = List.replicate m 0 := by
  apply List.ext_getElem (by simp [length_mpart])
  intro k h1 h2
  simp [mpart, fl, dt, sm]
theorem mpart_all (r : List GF) (O : List (List GF)) (m : Nat) : mpart r O m r.length = mrow r O m := rfl
theorem mpart_next (r : List GF) (O : List (List GF)) (m k : Nat) : (fl m fun c => co (mpart r O m k) c + co r k * co (rw_ O k) c) = mpart r O m (k + 1) := by
  unfold mpart fl
  apply List.map_congr_left
  intro c hc
  have hc : c < m := by simpa using hc
  have := co_fl m (fun c => dt k (co r) (fun j => ent O j c)) c
  unfold fl at this
  rw [this, if_pos hc]
  rfl
/-- The first i rows of a product. -/
def mulx (M O : List (List GF)) (m n i : Nat) : List (List GF) := (List.range n).map fun k => if k < i then mrow (rw_ M k) O m else []
theorem length_mulx (M O : List (List GF)) (m n i : Nat) : (mulx M O m n i).length = n := by simp [mulx]
theorem mulx_zero (M O : List (List GF)) (m n : Nat) : mulx M O m n 0 = List.replicate n [] := by
  apply List.ext_getElem (by simp [mulx])
  intro k h1 h2
  simp [mulx]
theorem mulx_all (M O : List (List GF)) (m n : Nat) : mulx M O m n n = mulM M O m n := by
  apply List.ext_getElem (by simp [mulx, mulM])
  intro k h1 h2
  simp [mulx, mulM]
  intro h3; simp [mulx] at h1; omega
theorem mulx_set {M O : List (List GF)} {m n i : Nat} (h : i < n) : (mulx M O m n i).set i (mrow (rw_ M i) O m) = mulx M O m n (i + 1) := by
  apply List.ext_getElem (by simp [mulx])
  intro k h1 h2
  rw [List.getElem_set]
  simp only [mulx, List.getElem_map, List.getElem_range]
  by_cases e : i = k
  · subst e; rw [if_pos rfl, if_pos (by omega)]
  · rw [if_neg e]
    by_cases e2 : k < i
    · rw [if_pos e2, if_pos (by omega)]
    · rw [if_neg e2, if_neg (by omega)]
theorem wide_mulM (M O : List (List GF)) (m n : Nat) : Wide (mulM M O m n) m := fun i hi => by
  rw [length_mulM] at hi; rw [rw_mulM hi, length_mrow]

theorem mmul_nofield (a : Option Addr) (v : Value) (w : World) : Calls Try.prog 13 #[.pointer a, .pointer none, v] w fun e w' => e = .returned (.tuple #[.pointer none, .int .i64 1]) ∧ w = w' := by
  go_enter Try.func13, Try.ntmps13
  go_wp2
  go_ret2
  exact ⟨rfl, rfl⟩
theorem mmul_nil (a : Option Addr) (n m fb : Nat) (M : List (List GF)) (w : World) (h : Mx w a n m M) : Calls Try.prog 13 #[.pointer a, .pointer (some ⟨fb, 0, none⟩), .pointer none] w fun e w' => e = .returned (.tuple #[.pointer none, .int .i64 1]) ∧ w = w' := by
  go_enter Try.func13, Try.ntmps13
  go_wp2_with (first
    | (go_at_call 38; with_reducible refine (missing_nil _).mono ?_; rintro e w' ⟨rfl, rfl⟩)
    | (go_at_call 38; refine (missing_any _ _ _ _ _ h).mono ?_; rintro e w' ⟨rfl, rfl⟩))
  go_ret2
  exact ⟨rfl, rfl⟩
theorem mmul_uneq (a : Option Addr) (n k : Nat) (M : List (List GF)) (fb : Nat) (a2 : Option Addr) (k2 m : Nat) (O : List (List GF)) (w : World) (h : Mx w a n k M) (h2 : Mx w a2 k2 m O) (hne : k ≠ k2) :
    Calls Try.prog 13 #[.pointer a, .pointer (some ⟨fb, 0, none⟩), .pointer a2] w fun e w' => e = .returned (.tuple #[.pointer none, .int .i64 1]) ∧ Below w.heap.size w w' := by
  have H := Lib.hid h
  have H2 := Lib.hid h2
  have hb1 := h.bd
  have hb2 := h2.bd
  have q : ((k : Int) != (k2 : Int)) = true := by rw [bne_iff_ne]; omega
  clear h h2
  go_enter Try.func13, Try.ntmps13
  go_wp2_with (first
    | (go_at_call 38; with_reducible refine (missing_any _ _ _ _ _ H.out).mono ?_; rintro e w' ⟨rfl, rfl⟩)
    | (go_at_call 38; with_reducible refine (missing_any _ _ _ _ _ H2.out).mono ?_; rintro e w' ⟨rfl, rfl⟩)
    | (go_at_call 17; with_reducible refine (size_any _ _ _ _ _ H.out).mono ?_; rintro e w' ⟨rfl, q0, rfl⟩)
    | (go_at_call 17; with_reducible refine (size_any _ _ _ _ _ (H2.out.drewN _)).mono ?_; rintro e w' ⟨rfl, q1, rfl⟩))
  go_ret2
  exact ⟨rfl, ⟨rfl, rfl, rfl, Nat.le_refl _, fun _ _ => rfl⟩⟩

set_option maxHeartbeats 4000000 in
theorem mmul_ok (a : Option Addr) (n k : Nat) (M : List (List GF)) (fb : Nat) (a2 : Option Addr) (m : Nat) (O : List (List GF)) (w : World) (h : Mx w a n k M) (h2 : Mx w a2 k m O) (hf : Fld w fb) :
    Calls Try.prog 13 #[.pointer a, .pointer (some ⟨fb, 0, none⟩), .pointer a2] w fun e w' => ∃ a', e = .returned (.tuple #[.pointer a', .int .i64 0]) ∧ Mx w' a' n m (mulM M O m n) ∧ Below w.heap.size w w' := by
  have H := Lib.hid h
  have H2 := Lib.hid h2
  have HF := Lib.hid hf
  have hb1 := h.bd
  have hb2 := h2.bd
  have q : ((k : Int) != (k : Int)) = false := by simp
  have hmk1 := run_make_row' (P := Try.prog) 31 22 (.slice none 0 0) 24 Try.underlying31 info22 rfl .i64 .i64 n (by omega) (by omega)
  have hmk2 := run_make_row' (P := Try.prog) 22 5 (.int .u8 0) 1 Try.underlying22 info5 rfl .i64 .i64 m (by omega) (by omega)
  clear h h2 hf
  go_enter Try.func13, Try.ntmps13
  go_upto_region 8 with (first
    | (go_at_call 38; with_reducible refine (missing_any _ _ _ _ _ H.out).mono ?_; rintro e w' ⟨rfl, rfl⟩)
    | (go_at_call 38; with_reducible refine (missing_any _ _ _ _ _ H2.out).mono ?_; rintro e w' ⟨rfl, rfl⟩)
    | (go_at_call 17; with_reducible refine (size_any _ _ _ _ _ H.out).mono ?_; rintro e w' ⟨rfl, q0, rfl⟩)
    | (go_at_call 17; with_reducible refine (size_any _ _ _ _ _ (H2.out.drewN _)).mono ?_; rintro e w' ⟨rfl, q1, rfl⟩))
  obtain ⟨B, hB⟩ : ∃ B, B = w.heap.size := ⟨_, rfl⟩
  obtain ⟨G, hG⟩ : ∃ G, G = B + 1 := ⟨_, rfl⟩
  obtain ⟨W0, hW0⟩ : ∃ W0, W0 = ((w.drewN (q0 + q1)).alloc (Obj.cells (madeCells #[Value.slice none 0 0] n) 22)).alloc (Obj.cells #[Value.slice (some { block := w.heap.size, off := 0 }) n n] 71) := ⟨_, rfl⟩
  rw [← hW0, ← hB, ← hG]
  have hs0 : (w.drewN (q0 + q1)).heap.size = B := hB.symm
  have hA := (Below.refl (w.drewN (q0 + q1)).heap.size (w.drewN (q0 + q1))).alloc (Nat.le_refl _) (Obj.cells (madeCells #[Value.slice none 0 0] n) 22)
  have hG0 : GR W0 B B n (List.replicate n []) := by
    have h := (GR.made (w.drewN (q0 + q1)) (n := n) (by unfold maxLen; omega)).on ((Below.refl _ _).alloc (Nat.le_refl _) (.cells #[.slice (some ⟨w.heap.size, 0, none⟩) n n] 71))
    rw [← hW0, hs0] at h; exact h
  have hB0 : Below B w W0 := by
    rw [hW0, hB]
    exact ((below_drewN (Below.refl w.heap.size w) _).alloc (Nat.le_refl _) _).alloc (by simp) _
  have hC0 : W0.cell? ⟨G, 0, none⟩ = some (.slice (some ⟨B, 0, none⟩) n n) := by
    have h := lit_one ((w.drewN (q0 + q1)).alloc (Obj.cells (madeCells #[Value.slice none 0 0] n) 22)) (.slice (some ⟨w.heap.size, 0, none⟩) n n) 71
    rw [← hW0, ← hB] at h
    rw [hG, hB]
    rw [show ((w.drewN (q0 + q1)).alloc (Obj.cells (madeCells #[Value.slice none 0 0] n) 22)).heap.size = w.heap.size + 1 by simp, hB] at h
    exact h
  have hS0 : G < W0.heap.size := by rw [hW0, hG, hB]; simp
  have HB := Lib.hid hB
  have HG := Lib.hid hG
  have HG0 := Lib.hid hG0
  have HB0 := Lib.hid hB0
  have HC0 := Lib.hid hC0
  have HS0 := Lib.hid hS0
  have hBw : Below w.heap.size w W0 := by rw [hB] at hB0; exact hB0
  have Hm := Lib.hid (H.out.on hBw)
  obtain ⟨g1, s1, c1, rfl, hg1, hc1, hmat, hwd, _⟩ := H.out
  obtain ⟨g2, s2, c2, rfl, hg2, hc2, hmat2, hwd2, _⟩ := H2.out
  have hl1 := hmat.len
  have hl2 := hmat2.len
  have HM1 := Lib.hid (And.intro hc1 (And.intro hmat (And.intro hwd hl1)))
  have HM2 := Lib.hid (And.intro hc2 (And.intro hmat2 (And.intro hwd2 hl2)))
  have hcw := (hBw.cell (p := ⟨g1, 0, none⟩) hg1).trans hc1
  clear hA hG0 hB0 hC0 hS0 hs0 hB hG hW0 hBw hc1 hc2 hmat hmat2 hwd hwd2 hl1 hl2
  go_wp2
  clear hcw
  go_loopw [49] (fun j wr => ∃ i : Nat, i ≤ n ∧ j = .int .i64 (i : Nat) ∧ Hid (GR wr B B n (mulx M O m n i)) ∧ Hid (wr.cell? ⟨G, 0, none⟩ = some (.slice (some ⟨B, 0, none⟩) n n)) ∧ Hid (G < wr.heap.size) ∧ Hid (Below B w wr))
    (fun j _ => n - (intOf j).toNat)
  case atStart => exact ⟨0, Nat.zero_le _, rfl, by rw [mulx_zero]; exact HG0, HC0, HS0, HB0⟩
  case round =>
    obtain ⟨i, hi, rfl, hR, hC, hS, hW⟩ := hrel
    have HWw : Hid (Below w.heap.size w wr) := by have h := hW.out; rw [HB.out] at h; exact Lib.hid h
    by_cases hlt : i < n
    · have qi : (i : Int) < (n : Int) := by omega
      have qi0 : (0 : Int) ≤ (i : Int) := by omega
      obtain ⟨b1, off1, ai1, ci1, rfl, hb1', hcell1, hpa1⟩ := HM1.out.2.1.row hlt
      rw [HM1.out.2.2.1 i (by rw [HM1.out.2.2.2]; exact hlt)] at hcell1 hpa1
      have hcr := (HWw.out.cell (p := ⟨b1, off1 + i, none⟩) hb1').trans hcell1
      obtain ⟨r, hr⟩ : ∃ r, r = rw_ M i := ⟨_, rfl⟩
      rw [← hr] at hpa1
      have HR := Lib.hid hr
      have HP := Lib.hid hpa1
      have hpb := hpa1.bd
      have HRL := Lib.hid (show r.length = k by rw [hr]; exact HM1.out.2.2.1 i (by rw [HM1.out.2.2.2]; exact hlt))
      have hcG := hC.out
      obtain ⟨ai, ci, hcB, _, _⟩ := hR.out.row hlt
      have hfz := hR.out.free i
      have hA := (Below.refl wr.heap.size wr).alloc (Nat.le_refl _) (.cells (madeCells #[.int .u8 0] m) 5)
      have hcG1 := (hA.cell (p := ⟨G, 0, none⟩) hS.out).trans hcG
      have hcB1 := (hA.cell (p := ⟨B, i, none⟩) hR.out.lt.2).trans hcB
      have hfz1 := (hA.frozen (p := ⟨B, i, none⟩) hR.out.lt.2).trans hfz
      obtain ⟨W2, hW2⟩ : ∃ W2, W2 = ((wr.alloc (.cells (madeCells #[.int .u8 0] m) 5)).setCell ⟨B, i, none⟩ (.slice (some ⟨wr.heap.size, 0, none⟩) m m)).drew := ⟨_, rfl⟩
      have hGR2 : GR W2 B B n ((mulx M O m n i).set i (mpart r O m 0)) := by
        rw [hW2, mpart_zero]; exact (hR.out.make_row hlt (by unfold maxLen; omega)).on (Below.refl _ _).drew
      have hC2 : W2.cell? ⟨G, 0, none⟩ = some (.slice (some ⟨B, 0, none⟩) n n) := by
        rw [hW2]
        show (World.setCell _ _ _).cell? _ = _
        rw [World.cell?_setCell_far _ _ _ _ (show B ≠ G by have := HG.out; omega)]
        exact hcG1
      have hS2 : G < W2.heap.size := by rw [hW2]; simp; have := hS.out; omega
      have hWB2 : Below B w W2 := by
        rw [hW2]
        exact ((hW.out.alloc (by have := HB.out; have := hW.out.size; omega) _).setCell (p := ⟨B, i, none⟩) (Nat.le_refl _) _).drew
      have HGR2 := Lib.hid hGR2
      have HC2 := Lib.hid hC2
      have HS2 := Lib.hid hS2
      have HWB2 := Lib.hid hWB2
      clear hA hGR2 hC2 hS2 hWB2 hcell1 hpa1 hr
      go_upto_region 11 with (fail)
      go_region
      rw [← hW2]
      clear hcG1 hcB1 hfz1 hcG hcB hfz hW2 hcr
      go_wp2
      go_loopw [64] (fun j wr => ∃ q : Nat, q ≤ k ∧ j = .int .i64 (q : Nat) ∧ Hid (GR wr B B n ((mulx M O m n i).set i (mpart r O m q))) ∧ Hid (wr.cell? ⟨G, 0, none⟩ = some (.slice (some ⟨B, 0, none⟩) n n)) ∧ Hid (G < wr.heap.size) ∧ Hid (Below B w wr))
        (fun j _ => k - (intOf j).toNat)
      case atStart => exact ⟨0, Nat.zero_le _, rfl, HGR2, HC2, HS2, HWB2⟩
      case round =>
        rename World => w1
        obtain ⟨q, hq, rfl, hR3, hC3, hS3, hW3⟩ := hrel
        have HWx : Hid (Below w.heap.size w w1) := by have h := hW3.out; rw [HB.out] at h; exact Lib.hid h
        by_cases hlt2 : q < k
        · have qq : (q : Int) < (k : Int) := by omega
          have qq0 : (0 : Int) ≤ (q : Int) := by omega
          obtain ⟨bx, ox, rfl, hbx, hcx⟩ := (HP.out.on HWx.out).at_ hlt2
          obtain ⟨b2, off2, ai2, ci2, rfl, hb2', hcell2, hpa2⟩ := HM2.out.2.1.row hlt2
          rw [HM2.out.2.2.1 q (by rw [HM2.out.2.2.2]; exact hlt2)] at hcell2 hpa2
          have hco := (HWx.out.cell (p := ⟨b2, off2 + q, none⟩) hb2').trans hcell2
          have hcg2 := (HWx.out.cell (p := ⟨g2, 0, none⟩) hg2).trans HM2.out.1
          obtain ⟨ai3, ci3, hcB3, hpa3, hne3⟩ := hR3.out.row hlt
          have hset : rw_ ((mulx M O m n i).set i (mpart r O m q)) i = mpart r O m q := by rw [rw_set, if_pos ⟨rfl, by rw [length_mulx]; exact hlt⟩]
          rw [hset, length_mpart] at hcB3 hpa3
          have hcG3 := hC3.out
          have hfd : Fld w1.drew fb := (HF.out.below HWx.out : Fld w1 fb)
          have hsum := sum_G fb (co r q) m ai3 ci3 (mpart r O m q) ai2 ci2 (rw_ O q) w1.drew hfd (hpa3.on (Below.refl _ _).drew) ((hpa2.on HWx.out).on (Below.refl _ _).drew) (by omega)
          rw [mpart_next] at hsum
          have HSUM := Lib.hid hsum
          have hBl := hR3.out.lt.2
          have hb2w : b2 < w1.heap.size := by have := HWx.out.size; omega
          have hg2w : g2 < w1.heap.size := by have := HWx.out.size; omega
          have hBG : B ≠ G := by have := HG.out; omega
          have hBb2 : B ≠ b2 := by have := HB.out; omega
          have hBg2 : B ≠ g2 := by have := HB.out; omega
          have HN := Lib.hid (And.intro hBG (And.intro hBb2 hBg2))
          have HL := Lib.hid (And.intro hBl (And.intro hb2w (And.intro hg2w hS3.out)))
          have hpb2 := hpa2.bd
          have hpb3 := hpa3.bd
          have hcd : w1.drew.cell? ⟨B, i, none⟩ = some (.slice ai3 m ci3) := hcB3
          clear hcell2 hpa2 hpa3 hset hsum hBl hb2w hg2w hBG hBb2 hBg2 hfd
          go_upto_region 15 with (fail)
          have KH := Lib.hid (show w1.drew.cell? ⟨G, 0, none⟩ = some (.slice (some ⟨B, 0, none⟩) n n) ∧ w1.drew.cell? ⟨g2, 0, none⟩ = some (.slice (some ⟨b2, off2, none⟩) k c2) ∧ w1.drew.cell? ⟨b2, off2 + q, none⟩ = some (.slice ai2 m ci2) from ⟨hcG3, hcg2, hco⟩)
          clear hcG3 hcg2 hco
          refine wp_region_held_drew (S := fun W => W.cell? ⟨G, 0, none⟩ = some (.slice (some ⟨B, 0, none⟩) n n) ∧ W.cell? ⟨g2, 0, none⟩ = some (.slice (some ⟨b2, off2, none⟩) k c2) ∧ W.cell? ⟨b2, off2 + q, none⟩ = some (.slice ai2 m ci2)) (by kernel_rfl) KH.out (fun hHeld => ?_)
          refine wpAnyH_take (i := 0) (v := ?v0) rfl (by kernel_rfl) (by kernel_rfl) (by kernel_rfl) (fun _ _ _ h => h) (Or.inl ⟨by rfl, ?hy0⟩) hHeld ?rest0
          case hy0 =>
            intro V hV
            try dsimp only at hV
            go_simp
            all_goals with_reducible rfl
          case' rest0 => try simp only [Act.put, List.setIfInBounds_toArray, List.set_cons_zero, List.set_cons_succ]
          refine wpAnyH_take (i := 1) (v := ?v1) rfl (by kernel_rfl) (by kernel_rfl) (by kernel_rfl) (fun _ _ _ h => h) (Or.inl ⟨by rfl, ?hy1⟩) hHeld ?rest1
          case hy1 =>
            intro V hV
            try dsimp only at hV
            go_simp
            all_goals with_reducible rfl
          case' rest1 => try simp only [Act.put, List.setIfInBounds_toArray, List.set_cons_zero, List.set_cons_succ]
          refine wpAnyH_take (i := 2) (v := ?v2) rfl (by kernel_rfl) (by kernel_rfl) (by kernel_rfl) (fun _ _ _ h => h) (Or.inl ⟨by rfl, ?hy2⟩) hHeld ?rest2
          case hy2 =>
            intro V hV
            try dsimp only at hV
            go_simp
            all_goals with_reducible rfl
          case' rest2 => try simp only [Act.put, List.setIfInBounds_toArray, List.set_cons_zero, List.set_cons_succ]
          refine wpAnyH_take (i := 3) (v := ?v3) rfl (by kernel_rfl) (by kernel_rfl) (by kernel_rfl) (fun _ _ _ h => h) (Or.inl ⟨by rfl, ?hy3⟩) hHeld ?rest3
          case hy3 =>
            intro V hV
            try dsimp only at hV
            go_simp
            all_goals with_reducible rfl
          case' rest3 => try simp only [Act.put, List.setIfInBounds_toArray, List.set_cons_zero, List.set_cons_succ]
          refine wpAnyH_take (i := 4) (v := ?v4) rfl (by kernel_rfl) (by kernel_rfl) (by kernel_rfl) (fun _ _ _ h => h) (Or.inl ⟨by rfl, ?hy4⟩) hHeld ?rest4
          case hy4 =>
            intro V hV
            try dsimp only at hV
            go_simp
            all_goals with_reducible rfl
          case' rest4 => try simp only [Act.put, List.setIfInBounds_toArray, List.set_cons_zero, List.set_cons_succ]
          refine wpAnyH_take (i := 5) (v := ?v5) rfl (by kernel_rfl) (by kernel_rfl) (by kernel_rfl) (fun _ _ _ h => h) (Or.inl ⟨by rfl, ?hy5⟩) hHeld ?rest5
          case hy5 =>
            intro V hV
            try dsimp only at hV
            go_simp
            all_goals with_reducible rfl
          case' rest5 => try simp only [Act.put, List.setIfInBounds_toArray, List.set_cons_zero, List.set_cons_succ]
          refine wpAnyH_take (i := 6) (v := ?v6) rfl (by kernel_rfl) (by kernel_rfl) (by kernel_rfl) (fun _ _ _ h => h) (Or.inl ⟨by rfl, ?hy6⟩) hHeld ?rest6
          case hy6 =>
            intro V hV
            try dsimp only at hV
            go_simp
            all_goals with_reducible rfl
          case' rest6 => try simp only [Act.put, List.setIfInBounds_toArray, List.set_cons_zero, List.set_cons_succ]
          refine wpAnyH_take (i := 7) (v := ?v7) rfl (by kernel_rfl) (by kernel_rfl) (by kernel_rfl) (fun _ _ _ h => h) (Or.inl ⟨by rfl, ?hy7⟩) hHeld ?rest7
          case hy7 =>
            intro V hV
            try dsimp only at hV
            go_simp
            all_goals with_reducible rfl
          case' rest7 => try simp only [Act.put, List.setIfInBounds_toArray, List.set_cons_zero, List.set_cons_succ]
          refine wpAnyH_take (i := 8) (v := ?v8) rfl (by kernel_rfl) (by kernel_rfl) (by kernel_rfl) (fun _ _ _ h => h) (Or.inl ⟨by rfl, ?hy8⟩) hHeld ?rest8
          case hy8 =>
            intro V hV
            try dsimp only at hV
            go_simp
            all_goals with_reducible rfl
          case' rest8 => try simp only [Act.put, List.setIfInBounds_toArray, List.set_cons_zero, List.set_cons_succ]
          refine wpAnyH_take (i := 9) (v := ?v9) rfl (by kernel_rfl) (by kernel_rfl) (by kernel_rfl) (fun _ _ _ h => h) (Or.inl ⟨by rfl, ?hy9⟩) hHeld ?rest9
          case hy9 =>
            intro V hV
            try dsimp only at hV
            go_simp
            all_goals with_reducible rfl
          case' rest9 => try simp only [Act.put, List.setIfInBounds_toArray, List.set_cons_zero, List.set_cons_succ]
          refine wpAnyH_take (i := 10) (v := ?v10) rfl (by kernel_rfl) (by kernel_rfl) (by kernel_rfl) (fun _ _ _ h => h) (Or.inl ⟨by rfl, ?hy10⟩) hHeld ?rest10
          case hy10 =>
            intro V hV
            try dsimp only at hV
            go_simp
            all_goals with_reducible rfl
          case' rest10 => try simp only [Act.put, List.setIfInBounds_toArray, List.set_cons_zero, List.set_cons_succ]
          refine wpAnyH_take (i := 11) (v := ?v11) rfl (by kernel_rfl) (by kernel_rfl) (by kernel_rfl) (fun _ _ _ h => h) (Or.inl ⟨by rfl, ?hy11⟩) hHeld ?rest11
          case hy11 =>
            intro V hV
            try dsimp only at hV
            go_simp
            all_goals with_reducible rfl
          case' rest11 => try simp only [Act.put, List.setIfInBounds_toArray, List.set_cons_zero, List.set_cons_succ]
          refine wpAnyH_take (i := 13) (v := ?v13) rfl (by kernel_rfl) (by kernel_rfl) (by kernel_rfl) (fun _ _ _ h => h) (Or.inl ⟨by rfl, ?hy13⟩) hHeld ?rest13
          case hy13 =>
            intro V hV
            try dsimp only at hV
            go_simp
            all_goals with_reducible rfl
          case' rest13 => try simp only [Act.put, List.setIfInBounds_toArray, List.set_cons_zero, List.set_cons_succ]
          refine wpAnyH_take (i := 14) (v := ?v14) rfl (by kernel_rfl) (by kernel_rfl) (by kernel_rfl) (fun _ _ _ h => h) (Or.inl ⟨by rfl, ?hy14⟩) hHeld ?rest14
          case hy14 =>
            intro V hV
            try dsimp only at hV
            go_simp
            all_goals with_reducible rfl
          case' rest14 => try simp only [Act.put, List.setIfInBounds_toArray, List.set_cons_zero, List.set_cons_succ]
          refine wpAnyH_take (i := 15) (v := ?v15) rfl (by kernel_rfl) (by kernel_rfl) (by kernel_rfl) (fun _ _ _ h => h) (Or.inl ⟨by rfl, ?hy15⟩) hHeld ?rest15
          case hy15 =>
            intro V hV
            try dsimp only at hV
            go_simp
            all_goals with_reducible rfl
          case' rest15 => try simp only [Act.put, List.setIfInBounds_toArray, List.set_cons_zero, List.set_cons_succ]
          refine wpAnyH_take (i := 16) (v := ?v16) rfl (by kernel_rfl) (by kernel_rfl) (by kernel_rfl) (fun _ _ _ h => h) (Or.inl ⟨by rfl, ?hy16⟩) hHeld ?rest16
          case hy16 =>
            intro V hV
            try dsimp only at hV
            go_simp
            all_goals with_reducible rfl
          case' rest16 => try simp only [Act.put, List.setIfInBounds_toArray, List.set_cons_zero, List.set_cons_succ]
          refine wpAnyH_take (i := 17) (v := ?v17) rfl (by kernel_rfl) (by kernel_rfl) (by kernel_rfl) (fun _ _ _ h => h) (Or.inl ⟨by rfl, ?hy17⟩) hHeld ?rest17
          case hy17 =>
            intro V hV
            try dsimp only at hV
            go_simp
            all_goals with_reducible rfl
          case' rest17 => try simp only [Act.put, List.setIfInBounds_toArray, List.set_cons_zero, List.set_cons_succ]
          refine wpAnyH_take (i := 18) (v := ?v18) rfl (by kernel_rfl) (by kernel_rfl) (by kernel_rfl) (fun _ _ _ h => h) (Or.inl ⟨by rfl, ?hy18⟩) hHeld ?rest18
          case hy18 =>
            intro V hV
            try dsimp only at hV
            go_simp
            all_goals with_reducible rfl
          case' rest18 => try simp only [Act.put, List.setIfInBounds_toArray, List.set_cons_zero, List.set_cons_succ]
          refine wpAnyH_take (i := 19) (v := ?v19) rfl (by kernel_rfl) (by kernel_rfl) (by kernel_rfl) (fun _ _ _ h => h) (Or.inl ⟨by rfl, ?hy19⟩) hHeld ?rest19
          case hy19 =>
            intro V hV
            try dsimp only at hV
            go_simp
            all_goals with_reducible rfl
          case' rest19 => try simp only [Act.put, List.setIfInBounds_toArray, List.set_cons_zero, List.set_cons_succ]
          refine wpAnyH_take (i := 20) (v := ?v20) rfl (by kernel_rfl) (by kernel_rfl) (by kernel_rfl) (fun _ _ _ h => h) (Or.inl ⟨by rfl, ?hy20⟩) hHeld ?rest20
          case hy20 =>
            intro V hV
            try dsimp only at hV
            go_simp
            all_goals with_reducible rfl
          case' rest20 => try simp only [Act.put, List.setIfInBounds_toArray, List.set_cons_zero, List.set_cons_succ]
          refine wpAnyH_ready (rs := [12]) (by kernel_rfl) (by simp) ?_
          refine AllReadyH.cons rfl (fun K hK => ?_) AllReadyH.nil
          go_simp
          refine hK.out _ _ KH.out (fun hHeld1 => ?_)
          clear hK K hHeld
          have hHeld := hHeld1
          clear hHeld1
          refine wpAnyH_ready (rs := [21]) (by kernel_rfl) (by simp) ?_
          refine AllReadyH.cons rfl (fun K hK => ?_) AllReadyH.nil
          go_simp
          go_wp2_with (go_at_call 39; go_loud (refine HSUM.out.mono ?_); rintro e w9 ⟨g9, rfl, hg9, hp9, hb9⟩)
          have hc9 := (hb9.cell (p := ⟨B, i, none⟩) HL.out.1).trans hcd
          have hf9 := (hb9.frozen (p := ⟨B, i, none⟩) HL.out.1).trans (hR3.out.free i)
          have K9 := Lib.hid (show w9.cell? ⟨G, 0, none⟩ = some (.slice (some ⟨B, 0, none⟩) n n) ∧ w9.cell? ⟨g2, 0, none⟩ = some (.slice (some ⟨b2, off2, none⟩) k c2) ∧ w9.cell? ⟨b2, off2 + q, none⟩ = some (.slice ai2 m ci2) from ⟨(hb9.cell (p := ⟨G, 0, none⟩) HL.out.2.2.2).trans KH.out.1, (hb9.cell (p := ⟨g2, 0, none⟩) HL.out.2.2.1).trans KH.out.2.1, (hb9.cell (p := ⟨b2, off2 + q, none⟩) HL.out.2.1).trans KH.out.2.2⟩)
          refine hK.out _ _ K9.out (fun hHeld1 => ?_)
          clear hK K hHeld
          have hHeld := hHeld1
          clear hHeld1
          refine wpAnyH_take (i := 22) (v := ?v22) rfl (by kernel_rfl) (by kernel_rfl) (by kernel_rfl) (fun _ _ _ h => h) (Or.inl ⟨by rfl, ?hy22⟩) hHeld ?rest22
          case hy22 =>
            intro V hV
            try dsimp only at hV
            go_simp
            all_goals with_reducible rfl
          case' rest22 => try simp only [Act.put, List.setIfInBounds_toArray, List.set_cons_zero, List.set_cons_succ]
          refine wpAnyH_ready (rs := [23]) (by kernel_rfl) (by simp) ?_
          refine AllReadyH.cons rfl (fun K hK => ?_) AllReadyH.nil
          go_simp
          refine hK.out _ _ ⟨by rw [World.cell?_setCell_far _ _ _ _ HN.out.1]; exact K9.out.1, by rw [World.cell?_setCell_far _ _ _ _ HN.out.2.2]; exact K9.out.2.1, by rw [World.cell?_setCell_far _ _ _ _ HN.out.2.1]; exact K9.out.2.2⟩ (fun hHeld1 => ?_)
          clear hK K hHeld
          have hHeld := hHeld1
          clear hHeld1
          refine wpAnyH_done (by kernel_rfl) ?_ _
          clear hHeld
          have hb10 : Below w1.heap.size w1 w9 := bt ((Below.refl _ _).drew) hb9
          have h1 := (hR3.out.on hb10).set hlt (a := some ⟨g9, 0, none⟩) (c := m) (P := mpart r O m (q + 1)) (by rw [length_mpart]; exact hp9) (fun b off e _ => by cases e; exact hg9.2)
          rw [length_mpart, List.set_set] at h1
          have HGR9 := Lib.hid h1
          have HC9 : Hid ((w9.setCell ⟨B, i, none⟩ (.slice (some ⟨g9, 0, none⟩) m m)).cell? ⟨G, 0, none⟩ = some (.slice (some ⟨B, 0, none⟩) n n)) := Lib.hid (by rw [World.cell?_setCell_far _ _ _ _ HN.out.1]; exact K9.out.1)
          have HS9 : Hid (G < (w9.setCell ⟨B, i, none⟩ (.slice (some ⟨g9, 0, none⟩) m m)).heap.size) := Lib.hid (by have := hb10.size; have := HL.out.2.2.2; simp; omega)
          have HW9 : Hid (Below B w (w9.setCell ⟨B, i, none⟩ (.slice (some ⟨g9, 0, none⟩) m m))) := Lib.hid ((hW3.out.trans (hb10.mono (by have := HL.out.1; omega))).setCell (p := ⟨B, i, none⟩) (Nat.le_refl _) _)
          clear hb9 hb10 h1 hp9 hc9 hf9 hg9
          go_wp2
          go_roundw
          case rel => exact ⟨q + 1, by omega, by go_num, HGR9, HC9, HS9, HW9⟩
          case measure => simp [intOf]; omega
        · obtain rfl : k = q := by omega
          have h1 := hR3.out
          have h2 : mpart r O m k = mrow (rw_ M i) O m := by rw [← HR.out, ← mpart_all, HRL.out]
          rw [h2, mulx_set hlt] at h1
          have HGR9 := Lib.hid h1
          clear h1 h2
          go_wp2
          go_roundw
          case rel => exact ⟨i + 1, by omega, by go_num, HGR9, hC3, hS3, hW3⟩
          case measure => simp [intOf]; omega
    · obtain rfl : n = i := by omega
      have h := hR.out
      rw [mulx_all] at h
      have HFin := Lib.hid h
      clear h
      go_wp2
      go_ret2
      exact ⟨_, rfl, ⟨G, _, n, rfl, hS.out, hC.out, HFin.out.m8, wide_mulM _ _ _ _, by omega, by omega⟩, HWw.out⟩
end Go.Proofs.Ytahdkojjhhpcmaa
