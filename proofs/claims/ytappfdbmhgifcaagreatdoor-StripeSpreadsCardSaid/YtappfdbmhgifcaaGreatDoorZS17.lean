/- Texts of mine, one behind the other: Yf Zb Zc Hd. -/
import Derived.Test.YtappfdbmhgifcaaGreatDoorZS15
import Derived.Test.YtappfdbmhgifcaaGreatDoorZS02
import Derived.Test.YtappfdbmhgifcaaGreatDoorZS13
import Derived.Test.YtappfdbmhgifcaaGreatDoorZS04
import Derived.Test.YtappfdbmhgifcaaGreatDoorZS05
import Derived.Test.YtappfdbmhgifcaaGreatDoorZS11
import Derived.Deep.RegionHeld
import Derived.OrdersIn
import Derived.Deep.CutRange
import Derived.Test.YtappfdbmhgifcaaGreatDoorZS12
import Derived.Test.YtappfdbmhgifcaaGreatDoorZS16
/- Contract of code's Cut, where it goes well. -/
namespace Go.Proofs.YtappfdbmhgifcaaGreatDoor
open Go.ChangeShapes Go.WideShapes Go.ChangeAt Go.RowKit Go.Shelf GF
set_option linter.unusedVariables false
set_option linter.unusedSimpArgs false
set_option maxRecDepth 100000

/-- Bytes of a slice, as what is copied. -/
theorem cut_src {w : World} {a : Option Addr} {L c : Nat} {B : List GF} (h : Pa w a L c B) {st n i m : Nat} (hm : st + m ≤ L) (e : m = 0 ∨ st = i * n) : 0 < ((iL (cutP B n i m)).map (Value.int .u8)).length → ∃ ad, cutA a c st = some ad ∧ ∀ j v, ((iL (cutP B n i m)).map (Value.int .u8))[j]? = some v → w.cell? (ad.add j) = some v := by
  have hs := h.seg (lo := st) (n := m) hm
  have hh : seg B st m = cutP B n i m := by
    refine ext_co (by rw [seg_len (by rw [h.len]; exact hm), cutP_len]) fun k hk => ?_
    rw [seg_len (by rw [h.len]; exact hm)] at hk
    rw [seg_co hk]
    rcases e with rfl | rfl
    · omega
    · show _ = List.getD _ _ _
      unfold cutP; simp [List.getD_eq_getElem?_getD, hk]
  rw [hh] at hs
  exact fun h0 => hs.1.2.2.1.cells h0
theorem cut_pad {B : List GF} {L n i m : Nat} (hB : B.length = L) (hm : m ≤ n) (he : m = n ∨ L ≤ i * n + m) : padL (cutP B n i m) n = cutP B n i n := by
  refine ext_co (by rw [length_padL (by rw [cutP_len]; exact hm), cutP_len]) fun k hk => ?_
  rw [length_padL (by rw [cutP_len]; exact hm)] at hk
  rw [co_padL]
  have key : ∀ M, co (cutP B n i M) k = if k < M then co B (i * n + k) else 0 := fun M => by
    by_cases h : k < M
    · rw [if_pos h]; show List.getD _ _ _ = _
      unfold cutP; simp [List.getD_eq_getElem?_getD, h]
    · rw [if_neg h, co_ge (by rw [cutP_len]; omega)]
  rw [key, key, if_pos hk]
  by_cases h : k < m
  · rw [if_pos h]
  · rw [if_neg h, co_ge (by rw [hB]; omega)]
theorem own_madeN {w : World} {n : Nat} : (w.alloc (.cells (madeCells #[Value.int .u8 0] n) 5)).heap[w.heap.size]? = some (.cells (madeCells #[.int .u8 0] n).toList.toArray 5 (0, 0)) := by rw [Array.toArray_toList]; exact heap_alloc_new w _
set_option maxHeartbeats 4000000 in
theorem cutC : CutC := by
  intro L t aB cB B w hB ht ht2 hL
  have HP := Lib.hid (can_yes (t : Int) w (by omega) (by omega))
  have HS := Lib.hid (partC L t w ht ht2 hL)
  have HB := Lib.hid hB
  have HBL := Lib.hid hB.len
  have HT := Lib.hid (And.intro ht ht2)
  have HL := Lib.hid hL
  have hbd := hB.bd
  obtain ⟨n, hn⟩ : ∃ n, n = ceil L t := ⟨_, rfl⟩
  rw [← hn] at HS ⊢
  have HN := Lib.hid hn
  have HN2 := Lib.hid (show n ≤ 1000 by rw [hn]; exact Nat.le_trans (ceil_bd ht) hL)
  have qt : (t : Int) ≤ 255 := by omega
  have qL : (L : Int) ≤ 1000 := by omega
  have qn : (n : Int) ≤ 1000 := by have := HN2.out; omega
  have hmk := run_make_row' (P := Tryz.prog) 28 22 (.slice none 0 0) 24 Tryz.underlying28 infoR rfl .i64 .i64 t (by omega) (by omega)
  have hmk2 := run_make_row' (P := Tryz.prog) 22 5 (.int .u8 0) 1 Tryz.underlying22 info5 rfl .i64 .i64 n (by omega) (by omega)
  clear hB ht ht2 hL hn
  go_enter Tryz.func54, Tryz.ntmps54
  go_upto_region 6 with (first
    | (go_at_call 64; refine HP.out.mono ?_; rintro e w' ⟨rfl, rfl⟩)
    | (go_at_call 35; refine HS.out.mono ?_; rintro e w1 ⟨rfl, q, rfl⟩))
  obtain ⟨wr, hwr⟩ : ∃ wr, wr = w.drewN q := ⟨_, rfl⟩
  have HW := Lib.hid hwr
  have HBR := Lib.hid (show Below w.heap.size w wr by rw [hwr]; exact below_drewN (Below.refl _ _) _)
  have HSZ := Lib.hid (show wr.heap.size = w.heap.size by rw [hwr]; rfl)
  obtain ⟨G, hG⟩ : ∃ G, G = w.heap.size := ⟨_, rfl⟩
  have HG := Lib.hid hG
  have hO0 : Hid ((wr.alloc (.cells (madeCells #[Value.slice none 0 0] t) 22)).ownsRow G 22 1 (.slice (some ⟨G, 0, none⟩) t t) t (([] : List Value) ++ List.replicate (t - 0) (.slice none 0 0))) := by
    rw [hG, ← HSZ.out]; exact Lib.hid (own_madeC (w := wr) (n := t) (by unfold maxLen; have := HT.out; omega))
  have hB0 : Hid (Below G wr (wr.alloc (.cells (madeCells #[Value.slice none 0 0] t) 22))) := by rw [hG, ← HSZ.out]; exact Lib.hid ((Below.refl _ _).alloc (Nat.le_refl _) _)
  have hw0 : Hid (RV (wr.alloc (.cells (madeCells #[Value.slice none 0 0] t) 22)) (fun b => G < b) [] ((cutM B t n).take 0)) := Lib.hid (RV.nil _ _)
  rw [← hwr, ← hG]
  clear hG hmk hwr
  go_loopw [20] (fun s V => ∃ (i : Nat) (vs : List Value), i ≤ t ∧ s = .int .i64 (i : Nat) ∧ Hid (vs.length = i) ∧ Hid (V.ownsRow G 22 1 (.slice (some ⟨G, 0, none⟩) t t) t (vs ++ List.replicate (t - i) (.slice none 0 0))) ∧ Hid (RV V (fun b => G < b) vs ((cutM B t n).take i)) ∧ Hid (Below G wr V)) (fun s _ => t - (intOf s).toNat)
  case atStart => exact ⟨0, [], by omega, rfl, Lib.hid rfl, hO0, hw0, hB0⟩
  case round =>
    obtain ⟨i, vs, hi, rfl, HVL, HO, HV, HBV⟩ := hrel
    rename World => V
    by_cases hlt : i < t
    · have qi : (i : Int) < (t : Int) := by omega
      have qi0 : (0 : Int) ≤ (i : Int) := by omega
      obtain ⟨lo, hlo⟩ : ∃ lo, lo = i * n := ⟨_, rfl⟩
      have qlo : (i : Int) * (n : Int) = (lo : Int) := by rw [hlo]; rfl
      have qlo2 : (lo : Int) ≤ 255000 := by
        have : lo ≤ 255 * 1000 := by rw [hlo]; exact Nat.mul_le_mul (by have := HT.out.2; omega) HN2.out
        omega
      have HLO := Lib.hid hlo
      have kw : ∀ [Inhabited Unit], IntKind.i64.wrap (lo : Int) = (lo : Int) := by intro _; rw [IntKind.wrap_i64]; omega
      have HI1 := Lib.hid hlt
      have HGV := Lib.hid (HO.out.lt G rfl).2
      have HO1 : Hid (V.ownsRow G 22 1 (.slice (some ⟨G, 0, none⟩) t t) t (vs ++ .slice none 0 0 :: List.replicate (t - (i + 1)) (.slice none 0 0))) := by
        have h := HO.out; rw [rep_mid _ hlt] at h; exact Lib.hid h
      obtain ⟨g, hg⟩ : ∃ g, g = V.heap.size := ⟨_, rfl⟩
      obtain ⟨V1, hV1⟩ : ∃ V1, V1 = V.setCell ⟨G, i, none⟩ (.slice (some ⟨g, 0, none⟩) n n) := ⟨_, rfl⟩
      obtain ⟨U, hU⟩ : ∃ U, U = V1.alloc (.cells (madeCells #[Value.int .u8 0] n) 5) := ⟨_, rfl⟩
      have hs1 : V1.heap.size = g := by rw [hV1, hg]; simp
      have hst := (HO1.out.stored i (.slice (some ⟨g, 0, none⟩) n n)).1
      rw [set_mid _ _ _ HVL.out, ← hV1] at hst
      have HOU := Lib.hid (show U.ownsRow G 22 1 (.slice (some ⟨G, 0, none⟩) t t) t (vs ++ .slice (some ⟨g, 0, none⟩) n n :: List.replicate (t - (i + 1)) (.slice none 0 0)) by rw [hU]; exact hst.alloc _)
      have HBU := Lib.hid (show Below G wr U by rw [hU, hV1]; exact (HBV.out.setCell (p := ⟨G, i, none⟩) (Nat.le_refl _) _).alloc (by have := HGV.out; simp; omega) _)
      have HGC := Lib.hid (show U.heap[g]? = some (.cells (madeCells #[.int .u8 0] n).toList.toArray 5 (0, 0)) by rw [hU, ← hs1]; exact own_madeN)
      have HRV : Hid (RV U (fun b => G < b ∧ b < g) vs ((cutM B t n).take i)) := Lib.hid (HV.out.keep (by rw [hU, hV1]; simp) (fun b h1 h2 => ⟨⟨h2, by omega⟩, by rw [hU, hV1]; exact (Below.heap_alloc _ _ b (by simpa using h1)).trans (Below.heap_setCell _ _ _ _ (by show b ≠ G; omega))⟩))
      have hcl0 := HO1.out.cellAt i (by omega)
      rw [List.getElem?_append_right (by rw [HVL.out]; exact Nat.le_refl _), HVL.out, Nat.sub_self, List.getElem?_cons_zero] at hcl0
      have hfz0 := HO1.out.frozenAt i
      have hGV : G < V.heap.size := HGV.out
      have HGG := Lib.hid (show G < g by omega)
      clear hlo hlt hi HO hst hO0 hB0 hw0
      go_upto_region 9 with fail
      rw [← hg, ← hV1, ← hU]
      have hcl := HOU.out.cellAt i (by have := HI1.out; omega)
      rw [List.getElem?_append_right (by rw [HVL.out]; exact Nat.le_refl _), HVL.out, Nat.sub_self, List.getElem?_cons_zero] at hcl
      have HGD := Lib.hid (show U.drew.heap[g]? = some (.cells (madeCells #[.int .u8 0] n).toList.toArray 5 (0, 0)) from HGC.out)
      have HBW := Lib.hid (show Pa U.drew aB L cB B from HB.out.on (bt HBR.out (by have := HBU.out.drew; rw [HG.out, ← HSZ.out] at this; exact this)))
      have HBD := Lib.hid (show Below g U U.drew from (Below.refl _ _).drew)
      clear hg hV1 hU hs1 hcl0 hfz0 hGV
      by_cases hc : lo ≤ L
      · as_aux_lemma =>
        have qm : ¬ (L : Int) < (lo : Int) := by omega
        have qs : (lo : Int) ≤ (L : Int) := by omega
        have qs0 : (0 : Int) ≤ (lo : Int) := by omega
        have qs2 : (lo : Int) ≤ (cB : Int) := by omega
        obtain ⟨m, hm⟩ : ∃ m, m = Nat.min (L - lo) n := ⟨_, rfl⟩
        have hm2 : m ≤ n ∧ lo + m ≤ L := by rw [hm]; refine ⟨Nat.min_le_right _ _, ?_⟩; have h1 : Nat.min (L - lo) n ≤ L - lo := Nat.min_le_left _ _; omega
        have HC := Lib.hid (cut_src (n := n) (i := i) (m := m) HBW.out hm2.2 (by exact .inr HLO.out))
        have HPD := Lib.hid (cut_pad (i := i) HBL.out hm2.1 (by have := HLO.out; rw [← this, hm]; rcases Nat.le_total n (L - lo) with h | h; left; exact Nat.min_eq_right h; right; rw [show Nat.min (L - lo) n = L - lo from Nat.min_eq_left h]; omega))
        have HLEN := Lib.hid (show ((iL (cutP B n i m)).map (Value.int .u8)).length = Nat.min (L - lo) n by rw [List.length_map, length_iL, cutP_len, hm])
        have HFIT := Lib.hid (show 0 + ((iL (cutP B n i m)).map (Value.int .u8)).length ≤ (madeCells #[Value.int .u8 0] n).toList.length by simp [length_iL, cutP_len, size_madeCells]; exact hm2.1)
        have HMN := Lib.hid hm2.1
        clear hm hm2
        rcases aB with _ | ad
        · have hz : cB = 0 := HBW.out.2 rfl
          subst hz
          rw [show cutA none 0 lo = none by unfold cutA; simp] at HC
          go_still_tail 12, (by kernel_rfl)
          go_wp2_with ((with_reducible show wpList _ _ _ (⟨some 40, _, _, _, _, _⟩ :: _) _ _); go_loud (refine wpList_copy_splice (o := ⟨some 40, _, _, _, _, _⟩) rfl (.tmp 31) (.tmp 39) 22 22 rfl 5 Tryz.underlying22 size_u8 (some ⟨g, 0, none⟩) _ n n _ _ rfl rfl g 0 (madeCells #[.int .u8 0] n).toList 5 HGD.out ((iL (cutP B n i m)).map (Value.int .u8)) HLEN.out (fun h0 => ⟨rfl, HC.out h0⟩) HFIT.out (ints_oneCell _ _) g U HBD.out (Nat.le_refl _) ?_); go_loud (intro w6 hg6 hb6; have HO6 := Lib.hid (pad_row hg6.out (by rw [cutP_len]; exact HMN.out) (by have := HN2.out; omega)); have HB6 := Lib.hid hb6; clear hg6 hb6))
          rw [HPD.out] at HO6
          have HOO := Lib.hid (own_on HOU.out HB6.out HGG.out)
          rw [show vs ++ Value.slice (some ⟨g, 0, none⟩) n n :: List.replicate (t - (i + 1)) (.slice none 0 0) = (vs ++ [.slice (some ⟨g, 0, none⟩) n n]) ++ List.replicate (t - (i + 1)) (.slice none 0 0) by simp] at HOO
          have hmo := (HRV.out.keep (w' := w6) (ok' := fun b => G < b) HB6.out.size (fun b h1 h2 => ⟨h2.1, HB6.out.block b h2.2⟩)).more (P := cutP B n i n) (a := some ⟨g, 0, none⟩) (c := n) (by rw [cutP_len]; exact Pa.own2 HO6.out) (fun bb off e _ => by cases e; exact HGG.out)
          rw [cutP_len, ← cutM_take HI1.out] at hmo
          have HMO := Lib.hid hmo
          have HVV := Lib.hid (show (vs ++ [Value.slice (some ⟨g, 0, none⟩) n n]).length = i + 1 by rw [List.length_append, HVL.out]; rfl)
          have HBB := Lib.hid (HBU.out.trans (HB6.out.mono (Nat.le_of_lt HGG.out)))
          clear hmo
          go_roundw
          case rel => exact ⟨i + 1, vs ++ [.slice (some ⟨g, 0, none⟩) n n], by have := HI1.out; omega, by go_num, HVV, HOO, HMO, HBB⟩
          case measure => simp [intOf]; have := HI1.out; omega
        · by_cases qc : cB = lo
          · obtain rfl : cB = lo := qc
            rw [show cutA (some ad) cB cB = some ad by unfold cutA; rw [if_pos rfl]] at HC
            rw [show L - cB = 0 by omega] at HLEN
            go_still_tail 12, (by kernel_rfl)
            go_wp2_with ((with_reducible show wpList _ _ _ (⟨some 40, _, _, _, _, _⟩ :: _) _ _); go_loud (refine wpList_copy_splice (o := ⟨some 40, _, _, _, _, _⟩) rfl (.tmp 31) (.tmp 39) 22 22 rfl 5 Tryz.underlying22 size_u8 (some ⟨g, 0, none⟩) _ n n _ _ rfl rfl g 0 (madeCells #[.int .u8 0] n).toList 5 HGD.out ((iL (cutP B n i m)).map (Value.int .u8)) HLEN.out (fun h0 => ⟨rfl, HC.out h0⟩) HFIT.out (ints_oneCell _ _) g U HBD.out (Nat.le_refl _) ?_); go_loud (intro w6 hg6 hb6; have HO6 := Lib.hid (pad_row hg6.out (by rw [cutP_len]; exact HMN.out) (by have := HN2.out; omega)); have HB6 := Lib.hid hb6; clear hg6 hb6))
            rw [HPD.out] at HO6
            have HOO := Lib.hid (own_on HOU.out HB6.out HGG.out)
            rw [show vs ++ Value.slice (some ⟨g, 0, none⟩) n n :: List.replicate (t - (i + 1)) (.slice none 0 0) = (vs ++ [.slice (some ⟨g, 0, none⟩) n n]) ++ List.replicate (t - (i + 1)) (.slice none 0 0) by simp] at HOO
            have hmo := (HRV.out.keep (w' := w6) (ok' := fun b => G < b) HB6.out.size (fun b h1 h2 => ⟨h2.1, HB6.out.block b h2.2⟩)).more (P := cutP B n i n) (a := some ⟨g, 0, none⟩) (c := n) (by rw [cutP_len]; exact Pa.own2 HO6.out) (fun bb off e _ => by cases e; exact HGG.out)
            rw [cutP_len, ← cutM_take HI1.out] at hmo
            have HMO := Lib.hid hmo
            have HVV := Lib.hid (show (vs ++ [Value.slice (some ⟨g, 0, none⟩) n n]).length = i + 1 by rw [List.length_append, HVL.out]; rfl)
            have HBB := Lib.hid (HBU.out.trans (HB6.out.mono (Nat.le_of_lt HGG.out)))
            clear hmo
            go_roundw
            case rel => exact ⟨i + 1, vs ++ [.slice (some ⟨g, 0, none⟩) n n], by have := HI1.out; omega, by go_num, HVV, HOO, HMO, HBB⟩
            case measure => simp [intOf]; have := HI1.out; omega
          · rw [show cutA (some ad) cB lo = some (ad.add lo) by unfold cutA; rw [if_neg qc]; rfl] at HC
            go_still_tail 12, (by kernel_rfl)
            go_wp2_with ((with_reducible show wpList _ _ _ (⟨some 40, _, _, _, _, _⟩ :: _) _ _); go_loud (refine wpList_copy_splice (o := ⟨some 40, _, _, _, _, _⟩) rfl (.tmp 31) (.tmp 39) 22 22 rfl 5 Tryz.underlying22 size_u8 (some ⟨g, 0, none⟩) _ n n _ _ rfl rfl g 0 (madeCells #[.int .u8 0] n).toList 5 HGD.out ((iL (cutP B n i m)).map (Value.int .u8)) HLEN.out (fun h0 => ⟨rfl, HC.out h0⟩) HFIT.out (ints_oneCell _ _) g U HBD.out (Nat.le_refl _) ?_); go_loud (intro w6 hg6 hb6; have HO6 := Lib.hid (pad_row hg6.out (by rw [cutP_len]; exact HMN.out) (by have := HN2.out; omega)); have HB6 := Lib.hid hb6; clear hg6 hb6))
            rw [HPD.out] at HO6
            have HOO := Lib.hid (own_on HOU.out HB6.out HGG.out)
            rw [show vs ++ Value.slice (some ⟨g, 0, none⟩) n n :: List.replicate (t - (i + 1)) (.slice none 0 0) = (vs ++ [.slice (some ⟨g, 0, none⟩) n n]) ++ List.replicate (t - (i + 1)) (.slice none 0 0) by simp] at HOO
            have hmo := (HRV.out.keep (w' := w6) (ok' := fun b => G < b) HB6.out.size (fun b h1 h2 => ⟨h2.1, HB6.out.block b h2.2⟩)).more (P := cutP B n i n) (a := some ⟨g, 0, none⟩) (c := n) (by rw [cutP_len]; exact Pa.own2 HO6.out) (fun bb off e _ => by cases e; exact HGG.out)
            rw [cutP_len, ← cutM_take HI1.out] at hmo
            have HMO := Lib.hid hmo
            have HVV := Lib.hid (show (vs ++ [Value.slice (some ⟨g, 0, none⟩) n n]).length = i + 1 by rw [List.length_append, HVL.out]; rfl)
            have HBB := Lib.hid (HBU.out.trans (HB6.out.mono (Nat.le_of_lt HGG.out)))
            clear hmo
            go_roundw
            case rel => exact ⟨i + 1, vs ++ [.slice (some ⟨g, 0, none⟩) n n], by have := HI1.out; omega, by go_num, HVV, HOO, HMO, HBB⟩
            case measure => simp [intOf]; have := HI1.out; omega
      · as_aux_lemma =>
        have qm : (L : Int) < (lo : Int) := by omega
        have qs0 : (0 : Int) ≤ (L : Int) := by omega
        have qs2 : (L : Int) ≤ (cB : Int) := by omega
        obtain ⟨m, hm⟩ : ∃ m, m = Nat.min (L - L) n := ⟨_, rfl⟩
        have hm2 : m ≤ n ∧ L + m ≤ L := by rw [hm]; refine ⟨Nat.min_le_right _ _, ?_⟩; have h1 : Nat.min (L - L) n ≤ L - L := Nat.min_le_left _ _; omega
        have HC := Lib.hid (cut_src (n := n) (i := i) (m := m) HBW.out hm2.2 (by left; rw [hm, Nat.sub_self]; exact Nat.zero_min _))
        have HPD := Lib.hid (cut_pad (i := i) HBL.out hm2.1 (by right; have := HLO.out; omega))
        have HLEN := Lib.hid (show ((iL (cutP B n i m)).map (Value.int .u8)).length = Nat.min 0 n by rw [List.length_map, length_iL, cutP_len, hm, Nat.sub_self])
        have HFIT := Lib.hid (show 0 + ((iL (cutP B n i m)).map (Value.int .u8)).length ≤ (madeCells #[Value.int .u8 0] n).toList.length by simp [length_iL, cutP_len, size_madeCells]; exact hm2.1)
        have HMN := Lib.hid hm2.1
        clear hm hm2
        rcases aB with _ | ad
        · have hz : cB = 0 := HBW.out.2 rfl
          subst hz
          rw [show cutA none 0 L = none by unfold cutA; simp] at HC
          go_still_tail 12, (by kernel_rfl)
          go_wp2_with ((with_reducible show wpList _ _ _ (⟨some 40, _, _, _, _, _⟩ :: _) _ _); go_loud (refine wpList_copy_splice (o := ⟨some 40, _, _, _, _, _⟩) rfl (.tmp 31) (.tmp 39) 22 22 rfl 5 Tryz.underlying22 size_u8 (some ⟨g, 0, none⟩) _ n n _ _ rfl rfl g 0 (madeCells #[.int .u8 0] n).toList 5 HGD.out ((iL (cutP B n i m)).map (Value.int .u8)) HLEN.out (fun h0 => ⟨rfl, HC.out h0⟩) HFIT.out (ints_oneCell _ _) g U HBD.out (Nat.le_refl _) ?_); go_loud (intro w6 hg6 hb6; have HO6 := Lib.hid (pad_row hg6.out (by rw [cutP_len]; exact HMN.out) (by have := HN2.out; omega)); have HB6 := Lib.hid hb6; clear hg6 hb6))
          rw [HPD.out] at HO6
          have HOO := Lib.hid (own_on HOU.out HB6.out HGG.out)
          rw [show vs ++ Value.slice (some ⟨g, 0, none⟩) n n :: List.replicate (t - (i + 1)) (.slice none 0 0) = (vs ++ [.slice (some ⟨g, 0, none⟩) n n]) ++ List.replicate (t - (i + 1)) (.slice none 0 0) by simp] at HOO
          have hmo := (HRV.out.keep (w' := w6) (ok' := fun b => G < b) HB6.out.size (fun b h1 h2 => ⟨h2.1, HB6.out.block b h2.2⟩)).more (P := cutP B n i n) (a := some ⟨g, 0, none⟩) (c := n) (by rw [cutP_len]; exact Pa.own2 HO6.out) (fun bb off e _ => by cases e; exact HGG.out)
          rw [cutP_len, ← cutM_take HI1.out] at hmo
          have HMO := Lib.hid hmo
          have HVV := Lib.hid (show (vs ++ [Value.slice (some ⟨g, 0, none⟩) n n]).length = i + 1 by rw [List.length_append, HVL.out]; rfl)
          have HBB := Lib.hid (HBU.out.trans (HB6.out.mono (Nat.le_of_lt HGG.out)))
          clear hmo
          go_roundw
          case rel => exact ⟨i + 1, vs ++ [.slice (some ⟨g, 0, none⟩) n n], by have := HI1.out; omega, by go_num, HVV, HOO, HMO, HBB⟩
          case measure => simp [intOf]; have := HI1.out; omega
        · by_cases qc : cB = L
          · obtain rfl : cB = L := qc
            rw [show cutA (some ad) cB cB = some ad by unfold cutA; rw [if_pos rfl]] at HC
            go_still_tail 12, (by kernel_rfl)
            go_wp2_with ((with_reducible show wpList _ _ _ (⟨some 40, _, _, _, _, _⟩ :: _) _ _); go_loud (refine wpList_copy_splice (o := ⟨some 40, _, _, _, _, _⟩) rfl (.tmp 31) (.tmp 39) 22 22 rfl 5 Tryz.underlying22 size_u8 (some ⟨g, 0, none⟩) _ n n _ _ rfl rfl g 0 (madeCells #[.int .u8 0] n).toList 5 HGD.out ((iL (cutP B n i m)).map (Value.int .u8)) HLEN.out (fun h0 => ⟨rfl, HC.out h0⟩) HFIT.out (ints_oneCell _ _) g U HBD.out (Nat.le_refl _) ?_); go_loud (intro w6 hg6 hb6; have HO6 := Lib.hid (pad_row hg6.out (by rw [cutP_len]; exact HMN.out) (by have := HN2.out; omega)); have HB6 := Lib.hid hb6; clear hg6 hb6))
            rw [HPD.out] at HO6
            have HOO := Lib.hid (own_on HOU.out HB6.out HGG.out)
            rw [show vs ++ Value.slice (some ⟨g, 0, none⟩) n n :: List.replicate (t - (i + 1)) (.slice none 0 0) = (vs ++ [.slice (some ⟨g, 0, none⟩) n n]) ++ List.replicate (t - (i + 1)) (.slice none 0 0) by simp] at HOO
            have hmo := (HRV.out.keep (w' := w6) (ok' := fun b => G < b) HB6.out.size (fun b h1 h2 => ⟨h2.1, HB6.out.block b h2.2⟩)).more (P := cutP B n i n) (a := some ⟨g, 0, none⟩) (c := n) (by rw [cutP_len]; exact Pa.own2 HO6.out) (fun bb off e _ => by cases e; exact HGG.out)
            rw [cutP_len, ← cutM_take HI1.out] at hmo
            have HMO := Lib.hid hmo
            have HVV := Lib.hid (show (vs ++ [Value.slice (some ⟨g, 0, none⟩) n n]).length = i + 1 by rw [List.length_append, HVL.out]; rfl)
            have HBB := Lib.hid (HBU.out.trans (HB6.out.mono (Nat.le_of_lt HGG.out)))
            clear hmo
            go_roundw
            case rel => exact ⟨i + 1, vs ++ [.slice (some ⟨g, 0, none⟩) n n], by have := HI1.out; omega, by go_num, HVV, HOO, HMO, HBB⟩
            case measure => simp [intOf]; have := HI1.out; omega
          · rw [show cutA (some ad) cB L = some (ad.add L) by unfold cutA; rw [if_neg qc]; rfl] at HC
            go_still_tail 12, (by kernel_rfl)
            go_wp2_with ((with_reducible show wpList _ _ _ (⟨some 40, _, _, _, _, _⟩ :: _) _ _); go_loud (refine wpList_copy_splice (o := ⟨some 40, _, _, _, _, _⟩) rfl (.tmp 31) (.tmp 39) 22 22 rfl 5 Tryz.underlying22 size_u8 (some ⟨g, 0, none⟩) _ n n _ _ rfl rfl g 0 (madeCells #[.int .u8 0] n).toList 5 HGD.out ((iL (cutP B n i m)).map (Value.int .u8)) HLEN.out (fun h0 => ⟨rfl, HC.out h0⟩) HFIT.out (ints_oneCell _ _) g U HBD.out (Nat.le_refl _) ?_); go_loud (intro w6 hg6 hb6; have HO6 := Lib.hid (pad_row hg6.out (by rw [cutP_len]; exact HMN.out) (by have := HN2.out; omega)); have HB6 := Lib.hid hb6; clear hg6 hb6))
            rw [HPD.out] at HO6
            have HOO := Lib.hid (own_on HOU.out HB6.out HGG.out)
            rw [show vs ++ Value.slice (some ⟨g, 0, none⟩) n n :: List.replicate (t - (i + 1)) (.slice none 0 0) = (vs ++ [.slice (some ⟨g, 0, none⟩) n n]) ++ List.replicate (t - (i + 1)) (.slice none 0 0) by simp] at HOO
            have hmo := (HRV.out.keep (w' := w6) (ok' := fun b => G < b) HB6.out.size (fun b h1 h2 => ⟨h2.1, HB6.out.block b h2.2⟩)).more (P := cutP B n i n) (a := some ⟨g, 0, none⟩) (c := n) (by rw [cutP_len]; exact Pa.own2 HO6.out) (fun bb off e _ => by cases e; exact HGG.out)
            rw [cutP_len, ← cutM_take HI1.out] at hmo
            have HMO := Lib.hid hmo
            have HVV := Lib.hid (show (vs ++ [Value.slice (some ⟨g, 0, none⟩) n n]).length = i + 1 by rw [List.length_append, HVL.out]; rfl)
            have HBB := Lib.hid (HBU.out.trans (HB6.out.mono (Nat.le_of_lt HGG.out)))
            clear hmo
            go_roundw
            case rel => exact ⟨i + 1, vs ++ [.slice (some ⟨g, 0, none⟩) n n], by have := HI1.out; omega, by go_num, HVV, HOO, HMO, HBB⟩
            case measure => simp [intOf]; have := HI1.out; omega
    · obtain rfl : i = t := by omega
      have ho := HO.out
      have hv := HV.out
      rw [Nat.sub_self, List.replicate_zero, List.append_nil] at ho
      rw [List.take_of_length_le (by rw [cutM_len]; exact Nat.le_refl _)] at hv
      have HM := Lib.hid (MatB.ofOk ho hv (fun b hb => Nat.le_of_lt hb))
      have HBF := Lib.hid (show Below w.heap.size w V from HBR.out.trans (by have := HBV.out; rw [HG.out] at this; exact this))
      clear ho hv
      go_wp2
      go_ret2
      exact ⟨_, _, rfl, by rw [← HG.out]; exact HM.out, HBF.out⟩
end Go.Proofs.YtappfdbmhgifcaaGreatDoor
/- Contracts of mend's blank and column. -/
namespace Go.Proofs.YtappfdbmhgifcaaGreatDoor
open Go.ChangeShapes Go.WideShapes Go.ChangeAt Go.RowKit Go.Shelf GF
set_option linter.unusedVariables false
set_option linter.unusedSimpArgs false
set_option maxRecDepth 100000

/-- Rows of one's own, each in a block of its own: the slices' block, then the rows'. -/
def BlkM (w : World) (g n s : Nat) (F : Nat → Nat → GF) : Prop :=
  Blk w g 22 n (fun k => .slice (some ⟨g + 1 + k, 0, none⟩) s s) ∧ ∀ k, k < n → Blk w (g + 1 + k) 5 s (fun j => .int .u8 (toI (F k j)))
theorem BlkM.on {w w' : World} {g n s : Nat} {F : Nat → Nat → GF} (h : BlkM w g n s F) (hb : Below w.heap.size w w') : BlkM w' g n s F :=
  ⟨h.1.on hb h.1.lt, fun k hk => (h.2 k hk).on hb (h.2 k hk).lt⟩
end Go.Proofs.YtappfdbmhgifcaaGreatDoor
/- Contracts of mend's unit and through: by whole rows, the polynomials through all places and rows. -/
namespace Go.Proofs.YtappfdbmhgifcaaGreatDoor
open Go.ChangeShapes Go.WideShapes Go.ChangeAt Go.RowKit Go.Shelf GF
set_option linter.unusedVariables false
set_option linter.unusedSimpArgs false
set_option maxRecDepth 100000

/-! ## the maths -/
/-! ## Scale -/
theorem own_paV {w : World} {base n c : Nat} {e : TypeId} {a : Option Addr} {P : List GF} (h : w.ownsRow base e 1 (.slice a n c) n ((iL P).map (Value.int .u8))) : Pa w a n c P := by
  obtain ⟨a', c', e, hp, _⟩ := Pa.own h
  cases e
  exact hp

/-! ## unit -/
end Go.Proofs.YtappfdbmhgifcaaGreatDoor
/- Contracts of word.Zero and of stripe's sealed, opened, pieces, Spread. -/
namespace Go.Proofs.YtappfdbmhgifcaaGreatDoor
open Go.ChangeShapes Go.WideShapes Go.ChangeAt Go.RowKit Go.Shelf GF
set_option linter.unusedVariables false
set_option linter.unusedSimpArgs false
set_option maxRecDepth 100000

/-- Rows of rows of one's own: rows that lie in new memory. -/
def OwnM (w : World) (B : Nat) (a : Option Addr) (n c : Nat) (M : List (List GF)) : Prop := ∃ vs, w.ownsRow B 22 1 (.slice a n c) n vs ∧ RV w (fun b => B ≤ b) vs M
theorem OwnM.matB {w : World} {B : Nat} {a : Option Addr} {n c : Nat} {M : List (List GF)} (h : OwnM w B a n c M) : MatB w B a n c M := by
  obtain ⟨vs, h1, h2⟩ := h
  exact MatB.ofOk h1 h2 fun b hb => hb
theorem OwnM.mat {w : World} {B : Nat} {a : Option Addr} {n c : Nat} {M : List (List GF)} (h : OwnM w B a n c M) : Mat w a n c M := h.matB.mat
theorem OwnM.low {w : World} {B B' : Nat} {a : Option Addr} {n c : Nat} {M : List (List GF)} (h : OwnM w B a n c M) (hB : B' ≤ B) : OwnM w B' a n c M := by
  obtain ⟨vs, h1, h2⟩ := h
  exact ⟨vs, own_base h1 hB, h2.keep (Nat.le_refl _) fun b _ hb => ⟨Nat.le_trans hB hb, rfl⟩⟩
theorem OwnM.on {w w' : World} {B : Nat} {a : Option Addr} {n c : Nat} {M : List (List GF)} (h : OwnM w B a n c M) (hb : Below w.heap.size w w') : OwnM w' B a n c M := by
  obtain ⟨vs, h1, h2⟩ := h
  exact ⟨vs, own_belowV h1 hb, h2.keep hb.size fun b hlt hB => ⟨hB, hb.block b hlt⟩⟩
set_option maxHeartbeats 2000000 in
theorem splitO (b t n m L : Nat) (aS : Option Addr) (cS : Nat) (S : List GF) (aM : Option Addr) (cM : Nat) (M : List GF) (aX : Option Addr) (cX : Nat) (X : List GF) (w : World) (hf : Fld w b) (hS : Pa w aS n cS S) (hM : Pa w aM m cM M) (hX : Pa w aX L cX X) (ht1 : 1 ≤ t) (ht2 : t ≤ 255) (hm : m = (t - 1) * n) (hz : ∀ k, k < L → co X k ≠ 0) (hn : n ≤ 1000) (hL : L ≤ 255) :
    Calls Tryz.prog 25 #[.pointer (some ⟨b, 0, none⟩), .int .i64 (t : Nat), .slice aS n cS, .slice aM m cM, .slice aX L cX] w fun e w' =>
      ∃ a' c', e = .returned (.tuple #[.slice a' L c', .int .i64 0]) ∧ OwnM w' w.heap.size a' L c' (shM t n S M X) ∧ Below w.heap.size w w' := by
  have HCH := Lib.hid (chk_ok ⟨b, 0, none⟩ t n m aM cM aX L cX X w hX ht1 ht2 hn hz hm hM.bd)
  have HDE := Lib.hid (dealing_any t n m aS cS S aM cM M w hS hM ht1 ht2 hm hn)
  have HWD := Lib.hid (fun k (hk : k < t) => dR_wide hS.len hM.len ht1 hm hk)
  have HF := Lib.hid hf
  have HX := Lib.hid hX
  have HXL := Lib.hid hX.len
  have HT := Lib.hid (And.intro ht1 ht2)
  have HN := Lib.hid hn
  have HL := Lib.hid hL
  have hsb := hS.bd
  have hmb := hM.bd
  have hxb := hX.bd
  have hmk := run_make_row' (P := Tryz.prog) 28 22 (.slice none 0 0) 24 Tryz.underlying28 infoR rfl .i64 .i64 L (by omega) (by omega)
  clear hf hS hM hX ht1 ht2 hm hz hn hL
  go_enter Tryz.func25, Tryz.ntmps25
  go_wp2_with (first
    | (go_at_call 49; refine HCH.out.mono ?_; rintro e w' ⟨rfl, rfl⟩)
    | (go_at_call 50; refine HDE.out.mono ?_; rintro e w1 ⟨aR, cR, rfl, hmat, hb1⟩; have HMAT := Lib.hid hmat; have HB1 := Lib.hid hb1; clear hmat hb1))
  have hO0 : Hid ((w1.alloc (.cells (madeCells #[Value.slice none 0 0] L) 22)).ownsRow w1.heap.size 22 1 (.slice (some ⟨w1.heap.size, 0, none⟩) L L) L ([] ++ List.replicate (L - ([] : List Value).length) (.slice none 0 0))) :=
    Lib.hid (own_madeR (w := w1) (n := L) (by unfold maxLen; have := HL.out; omega))
  have hB0 : Hid (Below w1.heap.size w1 (w1.alloc (.cells (madeCells #[Value.slice none 0 0] L) 22))) := Lib.hid ((Below.refl _ _).alloc (Nat.le_refl _) _)
  go_loopw [36] (fun j wr => ∃ (i : Nat) (vs : List Value), i ≤ L ∧ vs.length = i ∧ j = .int .i64 (i : Nat) ∧ Hid (wr.ownsRow w1.heap.size 22 1 (.slice (some ⟨w1.heap.size, 0, none⟩) L L) L (vs ++ List.replicate (L - vs.length) (.slice none 0 0))) ∧ Hid (RV wr (fun b => w1.heap.size < b) vs ((shM t n S M X).take i)) ∧ Hid (Below w1.heap.size w1 wr))
    (fun j _ => L - (intOf j).toNat)
  case atStart => exact ⟨0, [], Nat.zero_le _, rfl, rfl, hO0, Lib.hid (RV.nil _ _), hB0⟩
  case round =>
    obtain ⟨i, vs, hi, hvl, rfl, hO, hV, hB⟩ := hrel
    rename World => w2
    by_cases hlt : i < L
    · obtain ⟨bx, ox, rfl, hbx, hcx⟩ := (HX.out.on (bt HB1.out hB.out)).at_ hlt
      have qi : (i : Int) < (L : Int) := by omega
      have qi0 : (0 : Int) ≤ (i : Int) := by omega
      have HVA := Lib.hid (value_any b t n aR cR (dR t n S M) (co X i) w2 (HF.out.below (bt HB1.out hB.out)) (HMAT.out.on hB.out) HWD.out HT.out.1 HT.out.2 HN.out)
      rw [valR_dR _ HT.out.1] at HVA
      have HVL := Lib.hid hvl
      clear hvl
      have hgs := (hO.out.lt w1.heap.size rfl).2
      go_wp2_with (go_at_call 51; refine HVA.out.mono ?_; rintro e w3 ⟨aV, cV, rfl, hpv, hnew, hb3⟩; have HPV := Lib.hid hpv; have HNEW := Lib.hid hnew; have HB3 := Lib.hid hb3; have HO3 := Lib.hid (own_belowV hO.out hb3); have hfz := HO3.out.frozenAt i; have hcl := HO3.out.cellAt i (by have := HVL.out; simp; omega); rw [List.getElem?_eq_getElem (by have := HVL.out; simp; omega)] at hcl; clear hpv hnew hb3)
      have hst := (HO3.out.stored i (.slice aV n cV)).1
      have hsn := set_next (vs := vs) (n := L) (.slice none 0 0) (.slice aV n cV) (by rw [HVL.out]; exact hlt)
      rw [HVL.out] at hsn hst
      rw [hsn] at hst
      have hpv : Pa (w3.setCell ⟨w1.heap.size, i, none⟩ (.slice aV n cV)) aV n cV (shR t n S M (co X i)) := HPV.out.but (gb_set _ _ _ _) (fun bb off e => by have := HNEW.out bb off e; omega)
      have hrv : RV (w3.setCell ⟨w1.heap.size, i, none⟩ (.slice aV n cV)) (fun b => w1.heap.size < b) vs ((shM t n S M X).take i) := hV.out.keep (by have := HB3.out.size; simp; omega) (fun b h1 h2 => ⟨h2, by rw [Below.heap_setCell _ _ _ _ (by show b ≠ w1.heap.size; omega)]; exact HB3.out.block b h1⟩)
      have hl := shR_len t n S M (co X i)
      have hmo := hrv.more (P := shR t n S M (co X i)) (a := aV) (c := cV) (by rw [hl]; exact hpv) (fun bb off e _ => by have := HNEW.out bb off e; omega)
      rw [hl, ← shM_take (by rw [HXL.out]; exact hlt)] at hmo
      have HST := Lib.hid hst; have HMO := Lib.hid hmo
      have HBN := Lib.hid ((hB.out.trans (HB3.out.mono (by omega))).setCell (p := ⟨w1.heap.size, i, none⟩) (Nat.le_refl _) (.slice aV n cV))
      have hl2 : (vs ++ [Value.slice aV n cV]).length = i + 1 := by rw [List.length_append, HVL.out]; rfl
      clear hst hsn hpv hrv hl hmo
      exact ⟨⟨i + 1, vs ++ [.slice aV n cV], by omega, hl2, by go_num, by rw [hl2]; exact HST, HMO, HBN⟩, by simp [intOf]; omega⟩
    · obtain rfl : L = i := by omega
      have ho := hO.out
      have hv := hV.out
      rw [hvl, Nat.sub_self, List.replicate_zero, List.append_nil] at ho
      rw [List.take_of_length_le (by rw [shM_len, HXL.out]; exact Nat.le_refl _)] at hv
      have HMB := Lib.hid (show OwnM w2 w.heap.size (some ⟨w1.heap.size, 0, none⟩) L L (shM t n S M X) from ⟨vs, own_base ho HB1.out.size, hv.keep (Nat.le_refl _) (fun b _ hb => ⟨by have := HB1.out.size; omega, rfl⟩)⟩)
      have HBF := Lib.hid (bt HB1.out hB.out)
      clear ho hv hvl
      go_wp2
      go_ret2
      exact ⟨_, _, rfl, HMB.out, HBF.out⟩
theorem encodeO (b t N n : Nat) (aR : Option Addr) (cR : Nat) (R : List (List GF)) (w : World) (hf : Fld w b) (hR : Mat w aR t cR R) (ht : 1 ≤ t) (htN : t ≤ N) (hN : N ≤ 255) (hw : ∀ k, k < t → (rw_ R k).length = n) (hn : n ≤ 1000) :
    Calls Tryz.prog 55 #[.pointer (some ⟨b, 0, none⟩), .int .i64 (N : Nat), .slice aR t cR] w fun e w' =>
      ∃ a' c', e = .returned (.tuple #[.slice a' N c', .int .i64 0]) ∧ OwnM w' w.heap.size a' N c' (encM R n N) ∧ Below w.heap.size w w' := by
  have H := Lib.hid (encO b t n 1 N N (N : Int) aR cR R w hf hR ht (by omega) (by omega) hw hn (Nat.le_refl _) (by omega) hN (Nat.add_comm 1 N))
  have HL := Lib.hid hR.len
  have hb2 := hR.bd
  clear hf hR ht htN hN hw hn
  go_enter Tryz.func55, Tryz.ntmps55
  go_wp2_with (go_at_call 85; go_loud (refine H.out.mono ?_; rintro e w3 ⟨a, c, rfl, vs, ho, hv, hb⟩; have HM := Lib.hid (show OwnM w3 w.heap.size a N c (valM (plc t) (rw_ R) n 1 N) from ⟨vs, ho, hv.keep (Nat.le_refl _) fun b _ hb => ⟨hb.1, rfl⟩⟩); have HB := Lib.hid hb; clear ho hv hb))
  go_ret2
  exact ⟨_, _, rfl, by rw [← valM_enc HL.out]; exact HM.out, HB.out⟩

/-! ## the marked package -/
theorem pa_one (w : World) : Pa (w.alloc (.cells #[.int .u8 1] 5)) (some ⟨w.heap.size, 0, none⟩) 1 1 [1] := by
  refine ⟨⟨rfl, allB_iL _, fun h0 => ⟨w.heap.size, 0, rfl, by simp, fun j hj => ?_⟩, Nat.le_refl _, by unfold maxLen; omega⟩, fun e => by cases e⟩
  have : j < 1 := hj
  obtain rfl : j = 0 := by omega
  simp [iL, toI_one]
theorem pkg_pa {w : World} {base g c : Nat} {e : TypeId} {K B : List GF} (h : w.ownsRow base e 1 (.slice (some ⟨g, 0, none⟩) 472 c) 472 ((pkgL (iL K) (iL B)).map (Value.int .u8))) : Pa w (some ⟨g, 0, none⟩) 472 c (gL (pkgL (iL K) (iL B))) :=
  Pa.of (own_any h (pkgL_B (allB_iL _) (allB_iL _)))
set_option maxHeartbeats 1000000 in
theorem sealed_any (b : Nat) (aK : Option Addr) (cK : Nat) (K : List GF) (aB : Option Addr) (cB : Nat) (B : List GF) (w : World) (hG : Gl w) (hf : Fld w b) (hK : Pa w aK 32 cK K) (hB : Pa w aB 440 cB B) :
    Calls Tryz.prog 28 #[.pointer (some ⟨b, 0, none⟩), .slice aK 32 cK, .slice aB 440 cB] w fun e w' => ∃ a c, e = .returned (.tuple #[.slice a 473 c, .int .i64 0]) ∧ Pa w' a 473 c (parG K B) ∧ Below w.heap.size w w' := by
  have HW : Hid (Calls Tryz.prog 52 #[.pointer (some ⟨b, 0, none⟩), .slice aK 32 cK, .slice aB 440 cB] w fun e w' => ∃ g c, e = .returned (.tuple #[.slice (some ⟨g, 0, none⟩) 472 c, .int .i64 0]) ∧
      w'.ownsRow w.heap.size 5 1 (.slice (some ⟨g, 0, none⟩) 472 c) 472 ((pkgL (iL K) (iL B)).map (Value.int .u8)) ∧ Below w.heap.size w w') := Lib.hid (wrapOk b aK cK (iL K) aB 440 cB (iL B) w hG hf hK hB (by omega))
  clear hG hf hK hB
  go_enter Tryz.func28, Tryz.ntmps28
  go_wp2_with (first
    | (go_at_call 52; go_loud ((with_reducible refine HW.out.mono ?_); rintro e w1 ⟨g1, c1, rfl, ho, hb⟩; have hb0 := (own_any ho (pkgL_B (allB_iL _) (allB_iL _))).1; have hcb := hb0.2.2.2; have HP1 := Lib.hid (pkg_pa ho); have HB1 := Lib.hid hb; have HA1 := Lib.hid ((Below.refl w1.heap.size w1).alloc (Nat.le_refl _) (.cells #[.int .u8 1] 5)); have HA2 := Lib.hid (HA1.out.alloc (by simp) (.cells #[.slice (some ⟨w1.heap.size, 0, none⟩) 1 1, .slice (some ⟨g1, 0, none⟩) 472 c1] 22)); have HO := Lib.hid ((pa_one w1).on ((Below.refl _ _).alloc (Nat.le_refl _) (.cells #[.slice (some ⟨w1.heap.size, 0, none⟩) 1 1, .slice (some ⟨g1, 0, none⟩) 472 c1] 22))); have HCC := Lib.hid (concat8_any (w1.heap.size + 1) (some ⟨w1.heap.size, 0, none⟩) 1 1 (iL [1]) (some ⟨g1, 0, none⟩) 472 c1 (iL (gL (pkgL (iL K) (iL B)))) ((w1.alloc (.cells #[.int .u8 1] 5)).alloc (.cells #[.slice (some ⟨w1.heap.size, 0, none⟩) 1 1, .slice (some ⟨g1, 0, none⟩) 472 c1] 22)) (by simp) (by simp) (by simp) HO.out (HP1.out.on HA2.out) (by omega) (by omega)); clear ho hb hb0))
    | (go_at_call 53; go_loud ((with_reducible refine HCC.out.mono ?_); rintro e w3 ⟨v3, rfl, ho, hb⟩; obtain ⟨a3, c3, rfl, _⟩ := own_form ho; have HO3 := Lib.hid ho; have HB3 := Lib.hid (bt (bt HB1.out HA2.out) hb); clear ho hb)))
  go_ret2
  have ho := HO3.out
  rw [show iL [1] ++ iL (gL (pkgL (iL K) (iL B))) = iL (parG K B) from rfl] at ho
  exact ⟨a3, c3, rfl, own_paV ho, HB3.out⟩
theorem pieces_any (b : Nat) (m : Int) (t n c : Nat) (a : Option Addr) (cP : Nat) (P : List GF) (w : World) (h : Sh m t n c) (hf : Fld w b) (hP : Pa w a 473 cP P) :
    Calls Tryz.prog 29 #[.agg #[.int .i64 m, .int .i64 t, .int .i64 n, .int .i64 c], .pointer (some ⟨b, 0, none⟩), .slice a 473 cP] w fun e w' => ∃ a' c', e = .returned (.tuple #[.slice a' n c', .int .i64 0]) ∧ OwnM w' w.heap.size a' n c' (stR (cutQ P t) n) ∧ Below w.heap.size w w' := by
  have HA := Lib.hid (bxS w #[.int .i64 m, .int .i64 t, .int .i64 n, .int .i64 c] 25)
  have HX := Lib.hid (Bx.new w m t n c)
  have HT := Lib.hid h.2
  have HF := Lib.hid hf
  have hbd := hP.bd
  have HC := Lib.hid (cutC 473 t a cP P (w.alloc (.cells #[.int .i64 m, .int .i64 t, .int .i64 n, .int .i64 c] 25)) (hP.on HA.out) h.2.1 (by have := h.2; omega) (by omega))
  clear h hf hP
  go_enter Tryz.func29, Tryz.ntmps29
  go_wp2_with (first
    | (go_at_call 54; go_loud (refine HC.out.mono ?_; rintro e w1 ⟨a1, c1, rfl, hm, hb⟩; have HB1 := Lib.hid (bt HA.out hb); have HX1 := Lib.hid (HX.out.on hb); have x2 := HX1.out.c2; have HE := Lib.hid (encodeO b t n (ceil 473 t) a1 c1 (cutM P t (ceil 473 t)) w1 (HF.out.below HB1.out) hm.mat HT.out.1 HT.out.2.1 HT.out.2.2.1 (fun k hk => qcut_row hk) (by have := (ceil473 HT.out.1).2.1; omega)); clear hm hb))
    | (go_at_call 55; go_loud (refine HE.out.mono ?_; rintro e w2 ⟨a2, c2, rfl, hm, hb⟩; rw [encM_st] at hm; have HM2 := Lib.hid (hm.low (B' := w.heap.size) HB1.out.size); have HB2 := Lib.hid (bt HB1.out hb); clear hm hb)))
  go_ret2
  exact ⟨a2, c2, rfl, HM2.out, HB2.out⟩

/-! ## Spread -/
theorem spr_1 (b t n c : Nat) (aB : Option Addr) (cB : Nat) (B : List GF) (aR : Option Addr) (cR : Nat) (R : List GF) (w : World) (h : Sh 1 t n c) (hG : Gl w) (hf : Fld w b) (hB : Pa w aB 440 cB B) (hR : Pa w aR 32 cR R) :
    Calls Tryz.prog 10 #[.agg #[.int .i64 1, .int .i64 t, .int .i64 n, .int .i64 c], .pointer (some ⟨b, 0, none⟩), .slice aB 440 cB, .slice aR 32 cR] w fun e w' => ∃ a' c', e = .returned (.tuple #[.slice a' n c', .int .i64 0]) ∧ OwnM w' w.heap.size a' n c' (stR (qM 1 t B R) n) ∧ Below w.heap.size w w' := by
  have HA := Lib.hid (bxS w #[.int .i64 1, .int .i64 t, .int .i64 n, .int .i64 c] 25)
  have HX := Lib.hid (Bx.new w 1 t n c)
  have hrd := hR.bd
  have hbd := hB.bd
  have HC := Lib.hid (schk_yes b 1 t n c aR 32 cR (w.alloc (.cells #[.int .i64 1, .int .i64 t, .int .i64 n, .int .i64 c] 25)) h hrd)
  rw [if_pos (show 32 = needV 1 t from rfl)] at HC
  have HF := Lib.hid hf
  have HG := Lib.hid hG
  have HP := Lib.hid hB
  have HR := Lib.hid hR
  have HS := Lib.hid h
  clear h hG hf hB hR
  go_enter Tryz.func10, Tryz.ntmps10
  go_wp2_with (first
    | (go_at_call 24; go_loud (refine HC.out.mono ?_; rintro e w1 ⟨rfl, hb⟩; have HB1 := Lib.hid (bt HA.out hb); have HX1 := Lib.hid (HX.out.on hb); have x0 := HX1.out.c0; have HSE := Lib.hid (sealed_any b aR cR R aB cB B w1 (HG.out.on HB1.out HG.out.1) (HF.out.below HB1.out) (HR.out.on HB1.out) (HP.out.on HB1.out)); clear hb))
    | (go_at_call 28; go_loud (refine HSE.out.mono ?_; rintro e w2 ⟨a2, c2, rfl, hp, hb⟩; have HB2 := Lib.hid (bt HB1.out hb); have HX2 := Lib.hid (HX1.out.on hb); have y0 := HX2.out.c0; have y1 := HX2.out.c1; have y2 := HX2.out.c2; have y3 := HX2.out.c3; have HPI := Lib.hid (pieces_any b 1 t n c a2 c2 (parG R B) w2 HS.out (HF.out.below HB2.out) hp); clear hp hb))
    | (go_at_call 29; go_loud (refine HPI.out.mono ?_; rintro e w3 ⟨a3, c3, rfl, hm, hb⟩; have HM3 := Lib.hid (hm.low (B' := w.heap.size) HB2.out.size); have HB3 := Lib.hid (bt HB2.out hb); clear hm hb)))
  go_ret2
  exact ⟨a3, c3, rfl, HM3.out, HB3.out⟩
theorem spr_0 (b t n c : Nat) (aB : Option Addr) (cB : Nat) (B : List GF) (aR : Option Addr) (L cR : Nat) (R : List GF) (w : World) (h : Sh 0 t n c) (hf : Fld w b) (hB : Pa w aB 440 cB B) (hR : Pa w aR L cR R) (hL : L = (t - 1) * 440) :
    Calls Tryz.prog 10 #[.agg #[.int .i64 0, .int .i64 t, .int .i64 n, .int .i64 c], .pointer (some ⟨b, 0, none⟩), .slice aB 440 cB, .slice aR L cR] w fun e w' => ∃ a' c', e = .returned (.tuple #[.slice a' n c', .int .i64 0]) ∧ OwnM w' w.heap.size a' n c' (stR (qM 0 t B R) n) ∧ Below w.heap.size w w' := by
  have HA := Lib.hid (bxS w #[.int .i64 0, .int .i64 t, .int .i64 n, .int .i64 c] 25)
  have HX := Lib.hid (Bx.new w 0 t n c)
  have hrd := hR.bd
  have hbd := hB.bd
  have HC := Lib.hid (schk_yes b 0 t n c aR L cR (w.alloc (.cells #[.int .i64 0, .int .i64 t, .int .i64 n, .int .i64 c] 25)) h hrd)
  rw [if_pos (show L = needV 0 t from hL)] at HC
  have HF := Lib.hid hf
  have HP := Lib.hid hB
  have HR := Lib.hid hR
  have HS := Lib.hid h
  have HL := Lib.hid hL
  clear h hf hB hR hL
  go_enter Tryz.func10, Tryz.ntmps10
  go_upto_region 7 with (go_at_call 24; go_loud (refine HC.out.mono ?_; rintro e w1 ⟨rfl, hb⟩; have HB1 := Lib.hid (bt HA.out hb); have HX1 := Lib.hid (HX.out.on hb); have x0 := HX1.out.c0; clear hb))
  have y0 : ∀ W, Below w1.heap.size w1 W → W.cell? ⟨w.heap.size, 0, none⟩ = some (.int .i64 0) := fun W hW => (HX1.out.on hW).c0
  have y1 : ∀ W, Below w1.heap.size w1 W → W.cell? ⟨w.heap.size, 1, none⟩ = some (.int .i64 (t : Nat)) := fun W hW => (HX1.out.on hW).c1
  have y2 : ∀ W, Below w1.heap.size w1 W → W.cell? ⟨w.heap.size, 2, none⟩ = some (.int .i64 (n : Nat)) := fun W hW => (HX1.out.on hW).c2
  have y3 : ∀ W, Below w1.heap.size w1 W → W.cell? ⟨w.heap.size, 3, none⟩ = some (.int .i64 (c : Nat)) := fun W hW => (HX1.out.on hW).c3
  have HPL := Lib.hid (show ∀ W : World, Below w1.heap.size w1 W → Calls Tryz.prog 27 #[.agg #[.int .i64 0, .int .i64 t, .int .i64 n, .int .i64 c]] W fun e w' => ∃ g, e = .returned (.slice (some ⟨g, 0, none⟩) n n) ∧ IA w' (some ⟨g, 0, none⟩) n n (zl (upN n)) ∧ Below w1.heap.size w1 w' from fun W hW => (places_any 0 t c n W (by have := HS.out.2; omega)).mono fun e w' ⟨g, h1, h2, h3, h4⟩ => ⟨g, h1, h3, bt hW h4⟩)
  go_region_held (fun W => Below w1.heap.size w1 W) (first | assumption | exact (Below.refl _ _).drew | (refine Below.drew ?_; assumption))
    (first
      | (go_at_call 27; go_loud (refine (HPL.out _ (by first | assumption | exact (Below.refl _ _).drew)).mono ?_; rintro e w2 ⟨g2, rfl, hia, hbw2⟩; have HNU := Lib.hid (snumbers_any (some ⟨g2, 0, none⟩) n n (zl (upN n)) w2 hia (by have := HS.out.2; omega) (fun k hk => (by have := HS.out.2; have hz := up_getD (n := n) hk; omega))); rw [gZ_up] at HNU; clear hia))
      | (go_at_call 26; go_loud (refine HNU.out.mono ?_; rintro e w3 ⟨g3, rfl, hp3, hb3⟩; have hbw3 := bt hbw2 hb3; have HB3 := Lib.hid (bt HB1.out hbw3); have HSP := Lib.hid (splitO b t 440 L n aB cB B aR cR R (some ⟨g3, 0, none⟩) n (plc n) w3 (HF.out.below HB3.out) (HP.out.on HB3.out) (HR.out.on HB3.out) hp3 HS.out.2.1 (by have := HS.out.2; omega) HL.out (fun k hk => plc_ne (by have := HS.out.2; omega) hk) (by omega) (by have := HS.out.2; omega)); clear hp3 hb3))
      | (go_at_call 25; go_loud (refine HSP.out.mono ?_; rintro e w4 ⟨a4, c4, rfl, hm, hb4⟩; rw [shM_st] at hm; have HM4 := Lib.hid (hm.low (B' := w.heap.size) HB3.out.size); have hbw4 := bt hbw3 hb4; have HB4 := Lib.hid (bt HB1.out hbw4); clear hm hb4)))
  all_goals
    go_wp2
    go_ret2
    exact ⟨a4, c4, rfl, HM4.out, HB4.out⟩
theorem spr_any (b : Nat) (m : Int) (t n c : Nat) (aB : Option Addr) (cB : Nat) (B : List GF) (aR : Option Addr) (L cR : Nat) (R : List GF) (w : World) (h : Sh m t n c) (hG : Gl w) (hf : Fld w b) (hB : Pa w aB 440 cB B) (hR : Pa w aR L cR R) (hL : L = needV m t) :
    Calls Tryz.prog 10 #[.agg #[.int .i64 m, .int .i64 t, .int .i64 n, .int .i64 c], .pointer (some ⟨b, 0, none⟩), .slice aB 440 cB, .slice aR L cR] w fun e w' => ∃ a' c', e = .returned (.tuple #[.slice a' n c', .int .i64 0]) ∧ OwnM w' w.heap.size a' n c' (stR (qM m t B R) n) ∧ Below w.heap.size w w' := by
  rcases h.1 with rfl | rfl
  · exact spr_0 b t n c aB cB B aR L cR R w h hf hB hR hL
  · obtain rfl : L = 32 := hL
    exact spr_1 b t n c aB cB B aR cR R w h hG hf hB hR
end Go.Proofs.YtappfdbmhgifcaaGreatDoor
