/- Contract of filled: rows of numbers that a function value tells. -/
import Derived.Test.YtpoaimcioeopdaaMx
import Derived.Test.YtpoaimcioeopdaaLnam
import Derived.BigRegion
import Derived.Shelf.Abstract
namespace Go.Proofs.Ytpoaimcioeopdaa
open Go.ChangeShapes Go.WideShapes Go.ChangeAt Go.RowKit Go.Shelf GF
set_option linter.unusedVariables false
set_option maxRecDepth 100000
set_option linter.unusedSimpArgs false

/-- A function value with what it has caught, called: it hands that back, and may draw. -/
def Giv (P : Program) (g : Nat) (lb args : Array Value) (res : Value) (W : World) : Prop := Calls P g (args ++ lb) W fun e w' => e = .returned res ∧ ∃ q, w' = W.drewN q
/-- n rows of m numbers. -/
def mat (F : Nat → Nat → GF) (n m : Nat) : List (List GF) := (List.range n).map fun k => fl m (F k)
/-- The first i of them laid. -/
def mixR (F : Nat → Nat → GF) (n m i : Nat) : List (List GF) := (List.range n).map fun k => if k < i then fl m (F k) else []
theorem length_fl (n : Nat) (f : Nat → GF) : (fl n f).length = n := by simp [fl]
theorem length_mat (F : Nat → Nat → GF) (n m : Nat) : (mat F n m).length = n := by simp [mat]
theorem length_mixR (F : Nat → Nat → GF) (n m i : Nat) : (mixR F n m i).length = n := by simp [mixR]
theorem rw_mat {F : Nat → Nat → GF} {n m i : Nat} (h : i < n) : rw_ (mat F n m) i = fl m (F i) := by
  unfold rw_ mat; simp [List.getD_eq_getElem?_getD, h]
theorem wide_mat (F : Nat → Nat → GF) (n m : Nat) : Wide (mat F n m) m := fun i hi => by
  rw [length_mat] at hi; rw [rw_mat hi, length_fl]
theorem ent_mat {F : Nat → Nat → GF} {n m i j : Nat} (hi : i < n) (hj : j < m) : ent (mat F n m) i j = F i j := by
  show co (rw_ (mat F n m) i) j = _
  rw [rw_mat hi, co_fl, if_pos hj]
theorem mixR_zero (F : Nat → Nat → GF) (n m : Nat) : mixR F n m 0 = List.replicate n [] := by
  apply List.ext_getElem (by simp [mixR])
  intro k h1 h2
  simp [mixR]
theorem mixR_all (F : Nat → Nat → GF) (n m : Nat) : mixR F n m n = mat F n m := by
  apply List.ext_getElem (by simp [mixR, mat])
  intro k h1 h2
  simp [mixR, mat]
  intro h3; simp [mixR] at h1; omega
theorem mixR_set {F : Nat → Nat → GF} {n m i : Nat} (h : i < n) : (mixR F n m i).set i (fl m (F i)) = mixR F n m (i + 1) := by
  apply List.ext_getElem (by simp [mixR])
  intro k h1 h2
  rw [List.getElem_set]
  simp only [mixR, List.getElem_map, List.getElem_range]
  by_cases e : i = k
  · subst e; rw [if_pos rfl, if_pos (by omega)]
  · rw [if_neg e]
    by_cases e2 : k < i
    · rw [if_pos e2, if_pos (by omega)]
    · rw [if_neg e2, if_neg (by omega)]
theorem part_fl {n q : Nat} (f : Nat → GF) (h : q < n) : (iL (fl n f)).getD q 0 = toI (f q) := by rw [getD_iL, co_fl, if_pos h]
theorem pa_own {w : World} {base g n : Nat} {P : List GF} (h : w.ownsRow base 5 1 (.slice (some ⟨g, 0, none⟩) n n) n ((iL P).map (Value.int .u8))) : Pa w (some ⟨g, 0, none⟩) n n P := by
  obtain ⟨a, c, e, hp, _⟩ := Pa.own h
  cases e
  exact hp

set_option maxHeartbeats 4000000 in
theorem filled_any (n m g : Nat) (lb : Array Value) (F : Nat → Nat → GF) (w : World) (hn : 1 ≤ n ∧ n ≤ 64) (hm : 1 ≤ m ∧ m ≤ 64) (eg : ∀ args w, (callFunc g args).run Try.prog w = .ok (.enter g args) w)
    (hF : ∀ (W : World) (i j : Nat), Below w.heap.size w W → i < n → j < m → Giv Try.prog g lb #[.int .i64 (i : Nat), .int .i64 (j : Nat)] (.int .u8 (toI (F i j))) W) :
    Calls Try.prog 32 #[.int .i64 (n : Nat), .int .i64 (m : Nat), .func (.func g) #[] lb] w fun e w' => ∃ a, e = .returned (.pointer a) ∧ Mx w' a n m (mat F n m) ∧ Below w.heap.size w w' := by
  have HF := Lib.hid hF
  have hmk1 := run_make_row' (P := Try.prog) 27 22 (.slice none 0 0) 24 Try.underlying27 info22 rfl .i64 .i64 n (by omega) (by omega)
  have hmk2 := run_make_row' (P := Try.prog) 22 5 (.int .u8 0) 1 Try.underlying22 info5 rfl .i64 .i64 m (by omega) (by omega)
  clear hF
  have hG0 := Lib.hid ((GR.made w (n := n) (by unfold maxLen; omega)).on ((Below.refl _ _).alloc (Nat.le_refl _) (.cells #[.slice (some ⟨w.heap.size, 0, none⟩) n n] 109)))
  have hB0 : Hid (Below w.heap.size w ((w.alloc (.cells (madeCells #[.slice none 0 0] n) 22)).alloc (.cells #[.slice (some ⟨w.heap.size, 0, none⟩) n n] 109))) := Lib.hid (((Below.refl w.heap.size w).alloc (Nat.le_refl _) _).alloc (by simp) _)
  have hC0 : Hid (((w.alloc (.cells (madeCells #[.slice none 0 0] n) 22)).alloc (.cells #[.slice (some ⟨w.heap.size, 0, none⟩) n n] 109)).cell? ⟨w.heap.size + 1, 0, none⟩ = some (.slice (some ⟨w.heap.size, 0, none⟩) n n)) := by
    refine Lib.hid ?_
    have h := (World.ownsRow_lit (base := w.heap.size) (e := 109) (size := 1) (w.alloc (.cells (madeCells #[.slice none 0 0] n) 22)) #[.slice (some ⟨w.heap.size, 0, none⟩) n n] 1 (by simp) (by unfold maxLen; omega) rfl).cellAt 0 (by omega)
    rw [show w.heap.size + 1 = (w.alloc (.cells (madeCells #[.slice none 0 0] n) 22)).heap.size by simp]
    exact h
  have hS0 : Hid (w.heap.size + 1 < ((w.alloc (.cells (madeCells #[.slice none 0 0] n) 22)).alloc (.cells #[.slice (some ⟨w.heap.size, 0, none⟩) n n] 109)).heap.size) := Lib.hid (by simp)
  go_enter Try.func32, Try.ntmps32
  go_wp2
  obtain ⟨B, hB⟩ : ∃ B, B = w.heap.size := ⟨_, rfl⟩
  obtain ⟨G, hG⟩ : ∃ G, G = B + 1 := ⟨_, rfl⟩
  rw [← hB] at hG0 hB0 hC0 hS0 ⊢
  rw [← hG] at hC0 hS0 ⊢
  have HG := Lib.hid hG
  have HB := Lib.hid hB
  clear hG hB
  go_loopw [19] (fun j wr => ∃ i : Nat, i ≤ n ∧ j = .int .i64 (i : Nat) ∧ Hid (GR wr B B n (mixR F n m i)) ∧ Hid (wr.cell? ⟨G, 0, none⟩ = some (.slice (some ⟨B, 0, none⟩) n n)) ∧ Hid (G < wr.heap.size) ∧ Hid (Below B w wr))
    (fun j _ => n - (intOf j).toNat)
  case atStart => exact ⟨0, Nat.zero_le _, rfl, by rw [mixR_zero]; exact hG0, hC0, hS0, hB0⟩
  case round =>
    obtain ⟨i, hi, rfl, hR, hC, hS, hW⟩ := hrel
    by_cases hlt : i < n
    · have qi : (i : Int) < (n : Int) := by omega
      have qi0 : (0 : Int) ≤ (i : Int) := by omega
      have hcG := hC.out
      obtain ⟨ai, ci, hcB, _, _⟩ := hR.out.row hlt
      have hfz := hR.out.free i
      have hA := (Below.refl wr.heap.size wr).alloc (Nat.le_refl _) (.cells (madeCells #[.int .u8 0] m) 5)
      have hcG1 := (hA.cell (p := ⟨G, 0, none⟩) hS.out).trans hcG
      have hcB1 := (hA.cell (p := ⟨B, i, none⟩) hR.out.lt.2).trans hcB
      have hfz1 := (hA.frozen (p := ⟨B, i, none⟩) hR.out.lt.2).trans hfz
      have hm9 := own_made (w := wr) (e := 5) (n := m) (by unfold maxLen; omega)
      have hm8 := hm9.cellAt
      clear hm9 hm8
      obtain ⟨W2, hW2⟩ : ∃ W2, W2 = ((wr.alloc (.cells (madeCells #[.int .u8 0] m) 5)).setCell ⟨B, i, none⟩ (.slice (some ⟨wr.heap.size, 0, none⟩) m m)).drew := ⟨_, rfl⟩
      obtain ⟨vs, hv1, hv2⟩ := hR.out
      obtain ⟨g2, hg2⟩ : ∃ g2, g2 = wr.heap.size := ⟨_, rfl⟩
      have hGne : G ≠ B := by have := HG.out; omega
      have hBlt := hR.out.lt.2
      have hs2 : W2.heap.size = g2 + 1 := by rw [hW2, hg2]; simp
      have hblk : ∀ b, b < g2 → b ≠ B → W2.heap[b]? = wr.heap[b]? := fun b h1 h2 => by
        rw [hW2]
        show (World.setCell _ _ _).heap[b]? = _
        rw [Below.heap_setCell _ _ _ _ h2, Below.heap_alloc _ _ _ (by omega)]
      have hm2 : W2.ownsRow g2 5 1 (.slice (some ⟨g2, 0, none⟩) m m) m ((part (iL (fl m (F i))) 0).map (Value.int .u8)) := by
        have h := own_made (w := wr) (e := 5) (n := m) (by unfold maxLen; omega)
        rw [part_zero, length_iL, length_fl]
        rw [← hg2] at h
        have h2 := h.2
        refine ⟨h.1, ?_⟩
        rcases h2 with h2 | ⟨g', cap, cur, e1, e2, e3, e4⟩
        · exact .inl h2
        · refine .inr ⟨g', cap, cur, e1, e2, ?_, e4⟩
          cases e1
          rw [← e3, hW2]
          exact Below.heap_setCell _ _ _ _ (show g2 ≠ B by omega)
      have hcG2 : W2.cell? ⟨G, 0, none⟩ = some (.slice (some ⟨B, 0, none⟩) n n) := by
        rw [World.cell?_of_block (w := wr) (a := ⟨G, 0, none⟩) (hblk G (by rw [hg2]; exact hS.out) hGne)]; exact hcG
      have hO2 : W2.ownsRow B 22 1 (.slice (some ⟨B, 0, none⟩) n n) n (vs.set i (.slice (some ⟨g2, 0, none⟩) m m)) := by
        rw [hW2, hg2]
        exact ((hv1.alloc (.cells (madeCells #[.int .u8 0] m) 5)).stored i (.slice (some ⟨wr.heap.size, 0, none⟩) m m)).1
      have hcB2 : W2.cell? ⟨B, i, none⟩ = some (.slice (some ⟨g2, 0, none⟩) m m) := by
        have h3 := hO2.cellAt i (by omega)
        rw [List.getElem?_set_self (by rw [hv1.1]; omega)] at h3
        exact h3
      have HO2 := Lib.hid hO2
      have HV2 := Lib.hid hv2
      have hW3 : Below B w W2 := by
        rw [hW2]
        exact ((hW.out.alloc (by have := HB.out; have := hW.out.size; omega) _).setCell (p := ⟨B, i, none⟩) (Nat.le_refl _) _).drew
      have HM2 := Lib.hid hm2
      have HS2 := Lib.hid hs2
      have HBK := Lib.hid hblk
      have HW3 := Lib.hid hW3
      have HG2 := Lib.hid hg2
      have HBL := Lib.hid hBlt
      have HGN := Lib.hid hGne
      have hmg : B < g2 := by rw [hg2]; exact hBlt
      have hGg : G < g2 := by rw [hg2]; exact hS.out
      clear hA hm2 hs2 hblk hW3 hBlt hGne hv1 hv2 hO2
      go_wp2_with fail
      go_region
      rw [← hW2, ← hg2]
      clear hcG1 hcB1 hfz1 hcG hcB hfz hW2 hg2
      go_wp2
      go_loopw [38] (fun j wr => ∃ q : Nat, q ≤ m ∧ j = .int .i64 (q : Nat) ∧ Hid (wr.ownsRow g2 5 1 (.slice (some ⟨g2, 0, none⟩) m m) m ((part (iL (fl m (F i))) q).map (Value.int .u8))) ∧ Hid (Below g2 W2 wr))
        (fun j _ => m - (intOf j).toNat)
      case atStart => exact ⟨0, Nat.zero_le _, rfl, HM2, Lib.hid (Below.refl _ _)⟩
      case round =>
        rename World => w1
        obtain ⟨q, hq, rfl, hO, hB5⟩ := hrel
        by_cases hlt2 : q < m
        · have qq : (q : Int) < (m : Int) := by omega
          have qq0 : (0 : Int) ≤ (q : Int) := by omega
          have hcG := (hB5.out.cell (p := ⟨G, 0, none⟩) hGg).trans hcG2
          have hcB := (hB5.out.cell (p := ⟨B, i, none⟩) hmg).trans hcB2
          have hBw : Below w.heap.size w w1 := by
            have h := HW3.out.trans (hB5.out.mono (by omega : B ≤ g2))
            rw [HB.out] at h; exact h
          have hcall := HF.out w1.drew i q hBw.drew hlt hlt2
          have hlen : (iL (fl m (F i))).length = m := by rw [length_iL, length_fl]
          have hcg := own_cells hO.out q hlt2
          rw [Nat.zero_add] at hcg
          have hfz := hO.out.frozenAt q
          have hst := part_set_own hlen hlt2 hO.out
          rw [part_fl _ hlt2] at hst
          have HST := Lib.hid hst
          have HBS := Lib.hid (hB5.out.setCell (p := ⟨g2, q, none⟩) (Nat.le_refl _) (.int .u8 (toI (F i q))))
          clear hBw hlen hst
          go_wp2_with fail
          go_region_with (go_at_fn g; refine hcall.mono ?_; rintro e w' ⟨rfl, k, rfl⟩)
          all_goals
            go_wp2
            go_roundw
            case rel => exact ⟨q + 1, by omega, by go_num, Lib.hid HST.out, Lib.hid ⟨HBS.out.os, HBS.out.tape, HBS.out.output, HBS.out.size, HBS.out.block⟩⟩
            case measure => simp [intOf]; omega
        · obtain rfl : m = q := by omega
          have hlen : (iL (fl m (F i))).length = m := by rw [length_iL, length_fl]
          have hO := hO.out
          have hall : part (iL (fl m (F i))) m = iL (fl m (F i)) := by
            have h := part_all (iL (fl m (F i)))
            rw [hlen] at h; exact h
          rw [hall] at hO
          have hp := pa_own hO
          have hv := HV2.out.keep (w' := w1) (ok' := T8 w1) (by have := hB5.out.size; have := HS2.out; have := HG2.out; omega) (fun b h1 h2 => by
            have e := (hB5.out.block b (by rw [HG2.out]; exact h1)).trans (HBK.out b (by rw [HG2.out]; exact h1) (hR.out.ne h2))
            exact ⟨h2.keep e, e⟩)
          have hr := hv.set (i := i) (by rw [length_mixR]; exact hlt) (P := fl m (F i)) (a := some ⟨g2, 0, none⟩) (c := m) (by rw [length_fl]; exact hp) (fun b off e _ => by cases e; exact own_t8 hO)
          rw [length_fl, mixR_set hlt] at hr
          have HGR : Hid (GR w1 B B n (mixR F n m (i + 1))) := Lib.hid ⟨_, own_on HO2.out hB5.out hmg, hr⟩
          have HCC : Hid (w1.cell? ⟨G, 0, none⟩ = some (.slice (some ⟨B, 0, none⟩) n n)) := Lib.hid ((hB5.out.cell (p := ⟨G, 0, none⟩) hGg).trans hcG2)
          have HSS : Hid (G < w1.heap.size) := Lib.hid (by have := hB5.out.size; have := HS2.out; omega)
          have HWW : Hid (Below B w w1) := Lib.hid (HW3.out.trans (hB5.out.mono (by omega : B ≤ g2)))
          clear hlen hO hall hp hv hr
          go_wp2
          go_roundw
          case rel => exact ⟨i + 1, by omega, by go_num, HGR, HCC, HSS, HWW⟩
          case measure => simp [intOf]; omega
    · obtain rfl : n = i := by omega
      go_wp2
      go_ret
      have h := hR.out
      rw [mixR_all] at h
      have h2 := hW.out
      rw [HB.out] at h2
      exact ⟨_, rfl, ⟨G, _, n, rfl, hS.out, hC.out, h.m8, wide_mat _ _ _, hn, hm⟩, h2⟩
end Go.Proofs.Ytpoaimcioeopdaa
