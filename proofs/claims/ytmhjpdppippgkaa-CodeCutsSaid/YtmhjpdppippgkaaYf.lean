/- Contract of code's Cut, where it goes well. -/
import Derived.Test.YtmhjpdppippgkaaYe
namespace Go.Proofs.Ytmhjpdppippgkaa
open Go.ChangeShapes Go.WideShapes Go.ChangeAt Go.RowKit Go.Shelf GF
set_option linter.unusedVariables false
set_option linter.unusedSimpArgs false
set_option maxRecDepth 100000

/-- Bytes of a slice, as what is copied. -/
theorem cut_src {w : World} {a : Option Addr} {L c : Nat} {B : List GF} (h : Pa w a L c B) {st n i m : Nat} (hm : st + m ≤ L) (e : m = 0 ∨ st = i * n) : 0 < ((iL (cutP B n i m)).map (Value.int .u8)).length → ∃ ad, cutA a c st = some ad ∧ ∀ j v, ((iL (cutP B n i m)).map (Value.int .u8))[j]? = some v → w.cell? (ad.add j) = some v := by
  have hs := h.seg (lo := st) (n := m) hm
  have hh : seg B st m = cutP B n i m := by
    refine ext_co (by rw [seg_len (by rw [h.len]; exact hm), cutP_len]) fun k hk => ?_
    rw [seg_len (by rw [h.len]; exact hm)] at hk
    rw [seg_co hk]
    rcases e with rfl | rfl
    · omega
    · show _ = List.getD _ _ _
      unfold cutP; simp [List.getD_eq_getElem?_getD, hk]
  rw [hh] at hs
  exact fun h0 => hs.1.2.2.1.cells h0
theorem cut_pad {B : List GF} {L n i m : Nat} (hB : B.length = L) (hm : m ≤ n) (he : m = n ∨ L ≤ i * n + m) : padL (cutP B n i m) n = cutP B n i n := by
  refine ext_co (by rw [length_padL (by rw [cutP_len]; exact hm), cutP_len]) fun k hk => ?_
  rw [length_padL (by rw [cutP_len]; exact hm)] at hk
  rw [co_padL]
  have key : ∀ M, co (cutP B n i M) k = if k < M then co B (i * n + k) else 0 := fun M => by
    by_cases h : k < M
    · rw [if_pos h]; show List.getD _ _ _ = _
      unfold cutP; simp [List.getD_eq_getElem?_getD, h]
    · rw [if_neg h, co_ge (by rw [cutP_len]; omega)]
  rw [key, key, if_pos hk]
  by_cases h : k < m
  · rw [if_pos h]
  · rw [if_neg h, co_ge (by rw [hB]; omega)]
theorem own_madeN {w : World} {n : Nat} : (w.alloc (.cells (madeCells #[Value.int .u8 0] n) 5)).heap[w.heap.size]? = some (.cells (madeCells #[.int .u8 0] n).toList.toArray 5 (0, 0)) := by rw [Array.toArray_toList]; exact heap_alloc_new w _
set_option maxHeartbeats 4000000 in
theorem cutC : CutC := by
  intro L t aB cB B w hB ht ht2 hL
  have HP := Lib.hid (can_yes (t : Int) w (by omega) (by omega))
  have HS := Lib.hid (partC L t w ht ht2 hL)
  have HB := Lib.hid hB
  have HBL := Lib.hid hB.len
  have HT := Lib.hid (And.intro ht ht2)
  have HL := Lib.hid hL
  have hbd := hB.bd
  obtain ⟨n, hn⟩ : ∃ n, n = ceil L t := ⟨_, rfl⟩
  rw [← hn] at HS ⊢
  have HN := Lib.hid hn
  have HN2 := Lib.hid (show n ≤ 1000 by rw [hn]; exact Nat.le_trans (ceil_bd ht) hL)
  have qt : (t : Int) ≤ 255 := by omega
  have qL : (L : Int) ≤ 1000 := by omega
  have qn : (n : Int) ≤ 1000 := by have := HN2.out; omega
  have hmk := run_make_row' (P := Try.prog) 22 23 (.slice none 0 0) 24 Try.underlying22 infoR rfl .i64 .i64 t (by omega) (by omega)
  have hmk2 := run_make_row' (P := Try.prog) 23 5 (.int .u8 0) 1 Try.underlying23 info5 rfl .i64 .i64 n (by omega) (by omega)
  clear hB ht ht2 hL hn
  go_enter Try.func16, Try.ntmps16
  go_upto_region 6 with (first
    | (go_at_call 24; refine HP.out.mono ?_; rintro e w' ⟨rfl, rfl⟩)
    | (go_at_call 17; refine HS.out.mono ?_; rintro e w1 ⟨rfl, q, rfl⟩))
  obtain ⟨wr, hwr⟩ : ∃ wr, wr = w.drewN q := ⟨_, rfl⟩
  have HW := Lib.hid hwr
  have HBR := Lib.hid (show Below w.heap.size w wr by rw [hwr]; exact below_drewN (Below.refl _ _) _)
  have HSZ := Lib.hid (show wr.heap.size = w.heap.size by rw [hwr]; rfl)
  obtain ⟨G, hG⟩ : ∃ G, G = w.heap.size := ⟨_, rfl⟩
  have HG := Lib.hid hG
  have hO0 : Hid ((wr.alloc (.cells (madeCells #[Value.slice none 0 0] t) 23)).ownsRow G 23 1 (.slice (some ⟨G, 0, none⟩) t t) t (([] : List Value) ++ List.replicate (t - 0) (.slice none 0 0))) := by
    rw [hG, ← HSZ.out]; exact Lib.hid (own_madeC (w := wr) (n := t) (by unfold maxLen; have := HT.out; omega))
  have hB0 : Hid (Below G wr (wr.alloc (.cells (madeCells #[Value.slice none 0 0] t) 23))) := by rw [hG, ← HSZ.out]; exact Lib.hid ((Below.refl _ _).alloc (Nat.le_refl _) _)
  have hw0 : Hid (RV (wr.alloc (.cells (madeCells #[Value.slice none 0 0] t) 23)) (fun b => G < b) [] ((cutM B t n).take 0)) := Lib.hid (RV.nil _ _)
  rw [← hwr, ← hG]
  clear hG hmk hwr
  go_loopw [20] (fun s V => ∃ (i : Nat) (vs : List Value), i ≤ t ∧ s = .int .i64 (i : Nat) ∧ Hid (vs.length = i) ∧ Hid (V.ownsRow G 23 1 (.slice (some ⟨G, 0, none⟩) t t) t (vs ++ List.replicate (t - i) (.slice none 0 0))) ∧ Hid (RV V (fun b => G < b) vs ((cutM B t n).take i)) ∧ Hid (Below G wr V)) (fun s _ => t - (intOf s).toNat)
  case atStart => exact ⟨0, [], by omega, rfl, Lib.hid rfl, hO0, hw0, hB0⟩
  case round =>
    obtain ⟨i, vs, hi, rfl, HVL, HO, HV, HBV⟩ := hrel
    rename World => V
    by_cases hlt : i < t
    · have qi : (i : Int) < (t : Int) := by omega
      have qi0 : (0 : Int) ≤ (i : Int) := by omega
      obtain ⟨lo, hlo⟩ : ∃ lo, lo = i * n := ⟨_, rfl⟩
      have qlo : (i : Int) * (n : Int) = (lo : Int) := by rw [hlo]; rfl
      have qlo2 : (lo : Int) ≤ 255000 := by
        have : lo ≤ 255 * 1000 := by rw [hlo]; exact Nat.mul_le_mul (by have := HT.out.2; omega) HN2.out
        omega
      have HLO := Lib.hid hlo
      have kw : ∀ [Inhabited Unit], IntKind.i64.wrap (lo : Int) = (lo : Int) := by intro _; rw [IntKind.wrap_i64]; omega
      have HI1 := Lib.hid hlt
      have HGV := Lib.hid (HO.out.lt G rfl).2
      have HO1 : Hid (V.ownsRow G 23 1 (.slice (some ⟨G, 0, none⟩) t t) t (vs ++ .slice none 0 0 :: List.replicate (t - (i + 1)) (.slice none 0 0))) := by
        have h := HO.out; rw [rep_mid _ hlt] at h; exact Lib.hid h
      obtain ⟨g, hg⟩ : ∃ g, g = V.heap.size := ⟨_, rfl⟩
      obtain ⟨V1, hV1⟩ : ∃ V1, V1 = V.setCell ⟨G, i, none⟩ (.slice (some ⟨g, 0, none⟩) n n) := ⟨_, rfl⟩
      obtain ⟨U, hU⟩ : ∃ U, U = V1.alloc (.cells (madeCells #[Value.int .u8 0] n) 5) := ⟨_, rfl⟩
      have hs1 : V1.heap.size = g := by rw [hV1, hg]; simp
      have hst := (HO1.out.stored i (.slice (some ⟨g, 0, none⟩) n n)).1
      rw [set_mid _ _ _ HVL.out, ← hV1] at hst
      have HOU := Lib.hid (show U.ownsRow G 23 1 (.slice (some ⟨G, 0, none⟩) t t) t (vs ++ .slice (some ⟨g, 0, none⟩) n n :: List.replicate (t - (i + 1)) (.slice none 0 0)) by rw [hU]; exact hst.alloc _)
      have HBU := Lib.hid (show Below G wr U by rw [hU, hV1]; exact (HBV.out.setCell (p := ⟨G, i, none⟩) (Nat.le_refl _) _).alloc (by have := HGV.out; simp; omega) _)
      have HGC := Lib.hid (show U.heap[g]? = some (.cells (madeCells #[.int .u8 0] n).toList.toArray 5 (0, 0)) by rw [hU, ← hs1]; exact own_madeN)
      have HRV : Hid (RV U (fun b => G < b ∧ b < g) vs ((cutM B t n).take i)) := Lib.hid (HV.out.keep (by rw [hU, hV1]; simp) (fun b h1 h2 => ⟨⟨h2, by omega⟩, by rw [hU, hV1]; exact (Below.heap_alloc _ _ b (by simpa using h1)).trans (Below.heap_setCell _ _ _ _ (by show b ≠ G; omega))⟩))
      have hcl0 := HO1.out.cellAt i (by omega)
      rw [List.getElem?_append_right (by rw [HVL.out]; exact Nat.le_refl _), HVL.out, Nat.sub_self, List.getElem?_cons_zero] at hcl0
      have hfz0 := HO1.out.frozenAt i
      have hGV : G < V.heap.size := HGV.out
      have HGG := Lib.hid (show G < g by omega)
      clear hlo hlt hi HO hst hO0 hB0 hw0
      go_upto_region 9 with fail
      rw [← hg, ← hV1, ← hU]
      have hcl := HOU.out.cellAt i (by have := HI1.out; omega)
      rw [List.getElem?_append_right (by rw [HVL.out]; exact Nat.le_refl _), HVL.out, Nat.sub_self, List.getElem?_cons_zero] at hcl
      have HGD := Lib.hid (show U.drew.heap[g]? = some (.cells (madeCells #[.int .u8 0] n).toList.toArray 5 (0, 0)) from HGC.out)
      have HBW := Lib.hid (show Pa U.drew aB L cB B from HB.out.on (bt HBR.out (by have := HBU.out.drew; rw [HG.out, ← HSZ.out] at this; exact this)))
      have HBD := Lib.hid (show Below g U U.drew from (Below.refl _ _).drew)
      clear hg hV1 hU hs1 hcl0 hfz0 hGV
      by_cases hc : lo ≤ L
      · as_aux_lemma =>
        have qm : ¬ (L : Int) < (lo : Int) := by omega
        have qs : (lo : Int) ≤ (L : Int) := by omega
        have qs0 : (0 : Int) ≤ (lo : Int) := by omega
        have qs2 : (lo : Int) ≤ (cB : Int) := by omega
        obtain ⟨m, hm⟩ : ∃ m, m = Nat.min (L - lo) n := ⟨_, rfl⟩
        have hm2 : m ≤ n ∧ lo + m ≤ L := by rw [hm]; refine ⟨Nat.min_le_right _ _, ?_⟩; have h1 : Nat.min (L - lo) n ≤ L - lo := Nat.min_le_left _ _; omega
        have HC := Lib.hid (cut_src (n := n) (i := i) (m := m) HBW.out hm2.2 (by exact .inr HLO.out))
        have HPD := Lib.hid (cut_pad (i := i) HBL.out hm2.1 (by have := HLO.out; rw [← this, hm]; rcases Nat.le_total n (L - lo) with h | h; left; exact Nat.min_eq_right h; right; rw [show Nat.min (L - lo) n = L - lo from Nat.min_eq_left h]; omega))
        have HLEN := Lib.hid (show ((iL (cutP B n i m)).map (Value.int .u8)).length = Nat.min (L - lo) n by rw [List.length_map, length_iL, cutP_len, hm])
        have HFIT := Lib.hid (show 0 + ((iL (cutP B n i m)).map (Value.int .u8)).length ≤ (madeCells #[Value.int .u8 0] n).toList.length by simp [length_iL, cutP_len, size_madeCells]; exact hm2.1)
        have HMN := Lib.hid hm2.1
        clear hm hm2
        rcases aB with _ | ad
        · have hz : cB = 0 := HBW.out.2 rfl
          subst hz
          rw [show cutA none 0 lo = none by unfold cutA; simp] at HC
          go_still_tail 12, (by kernel_rfl)
          go_wp2_with ((with_reducible show wpList _ _ _ (⟨some 40, _, _, _, _, _⟩ :: _) _ _); go_loud (refine wpList_copy_splice (o := ⟨some 40, _, _, _, _, _⟩) rfl (.tmp 31) (.tmp 39) 23 23 rfl 5 Try.underlying23 size_u8 (some ⟨g, 0, none⟩) _ n n _ _ rfl rfl g 0 (madeCells #[.int .u8 0] n).toList 5 HGD.out ((iL (cutP B n i m)).map (Value.int .u8)) HLEN.out (fun h0 => ⟨rfl, HC.out h0⟩) HFIT.out (ints_oneCell _ _) g U HBD.out (Nat.le_refl _) ?_); go_loud (intro w6 hg6 hb6; have HO6 := Lib.hid (pad_row hg6.out (by rw [cutP_len]; exact HMN.out) (by have := HN2.out; omega)); have HB6 := Lib.hid hb6; clear hg6 hb6))
          rw [HPD.out] at HO6
          have HOO := Lib.hid (own_on HOU.out HB6.out HGG.out)
          rw [show vs ++ Value.slice (some ⟨g, 0, none⟩) n n :: List.replicate (t - (i + 1)) (.slice none 0 0) = (vs ++ [.slice (some ⟨g, 0, none⟩) n n]) ++ List.replicate (t - (i + 1)) (.slice none 0 0) by simp] at HOO
          have hmo := (HRV.out.keep (w' := w6) (ok' := fun b => G < b) HB6.out.size (fun b h1 h2 => ⟨h2.1, HB6.out.block b h2.2⟩)).more (P := cutP B n i n) (a := some ⟨g, 0, none⟩) (c := n) (by rw [cutP_len]; exact Pa.own2 HO6.out) (fun bb off e _ => by cases e; exact HGG.out)
          rw [cutP_len, ← cutM_take HI1.out] at hmo
          have HMO := Lib.hid hmo
          have HVV := Lib.hid (show (vs ++ [Value.slice (some ⟨g, 0, none⟩) n n]).length = i + 1 by rw [List.length_append, HVL.out]; rfl)
          have HBB := Lib.hid (HBU.out.trans (HB6.out.mono (Nat.le_of_lt HGG.out)))
          clear hmo
          go_roundw
          case rel => exact ⟨i + 1, vs ++ [.slice (some ⟨g, 0, none⟩) n n], by have := HI1.out; omega, by go_num, HVV, HOO, HMO, HBB⟩
          case measure => simp [intOf]; have := HI1.out; omega
        · by_cases qc : cB = lo
          · obtain rfl : cB = lo := qc
            rw [show cutA (some ad) cB cB = some ad by unfold cutA; rw [if_pos rfl]] at HC
            rw [show L - cB = 0 by omega] at HLEN
            go_still_tail 12, (by kernel_rfl)
            go_wp2_with ((with_reducible show wpList _ _ _ (⟨some 40, _, _, _, _, _⟩ :: _) _ _); go_loud (refine wpList_copy_splice (o := ⟨some 40, _, _, _, _, _⟩) rfl (.tmp 31) (.tmp 39) 23 23 rfl 5 Try.underlying23 size_u8 (some ⟨g, 0, none⟩) _ n n _ _ rfl rfl g 0 (madeCells #[.int .u8 0] n).toList 5 HGD.out ((iL (cutP B n i m)).map (Value.int .u8)) HLEN.out (fun h0 => ⟨rfl, HC.out h0⟩) HFIT.out (ints_oneCell _ _) g U HBD.out (Nat.le_refl _) ?_); go_loud (intro w6 hg6 hb6; have HO6 := Lib.hid (pad_row hg6.out (by rw [cutP_len]; exact HMN.out) (by have := HN2.out; omega)); have HB6 := Lib.hid hb6; clear hg6 hb6))
            rw [HPD.out] at HO6
            have HOO := Lib.hid (own_on HOU.out HB6.out HGG.out)
            rw [show vs ++ Value.slice (some ⟨g, 0, none⟩) n n :: List.replicate (t - (i + 1)) (.slice none 0 0) = (vs ++ [.slice (some ⟨g, 0, none⟩) n n]) ++ List.replicate (t - (i + 1)) (.slice none 0 0) by simp] at HOO
            have hmo := (HRV.out.keep (w' := w6) (ok' := fun b => G < b) HB6.out.size (fun b h1 h2 => ⟨h2.1, HB6.out.block b h2.2⟩)).more (P := cutP B n i n) (a := some ⟨g, 0, none⟩) (c := n) (by rw [cutP_len]; exact Pa.own2 HO6.out) (fun bb off e _ => by cases e; exact HGG.out)
            rw [cutP_len, ← cutM_take HI1.out] at hmo
            have HMO := Lib.hid hmo
            have HVV := Lib.hid (show (vs ++ [Value.slice (some ⟨g, 0, none⟩) n n]).length = i + 1 by rw [List.length_append, HVL.out]; rfl)
            have HBB := Lib.hid (HBU.out.trans (HB6.out.mono (Nat.le_of_lt HGG.out)))
            clear hmo
            go_roundw
            case rel => exact ⟨i + 1, vs ++ [.slice (some ⟨g, 0, none⟩) n n], by have := HI1.out; omega, by go_num, HVV, HOO, HMO, HBB⟩
            case measure => simp [intOf]; have := HI1.out; omega
          · rw [show cutA (some ad) cB lo = some (ad.add lo) by unfold cutA; rw [if_neg qc]; rfl] at HC
            go_still_tail 12, (by kernel_rfl)
            go_wp2_with ((with_reducible show wpList _ _ _ (⟨some 40, _, _, _, _, _⟩ :: _) _ _); go_loud (refine wpList_copy_splice (o := ⟨some 40, _, _, _, _, _⟩) rfl (.tmp 31) (.tmp 39) 23 23 rfl 5 Try.underlying23 size_u8 (some ⟨g, 0, none⟩) _ n n _ _ rfl rfl g 0 (madeCells #[.int .u8 0] n).toList 5 HGD.out ((iL (cutP B n i m)).map (Value.int .u8)) HLEN.out (fun h0 => ⟨rfl, HC.out h0⟩) HFIT.out (ints_oneCell _ _) g U HBD.out (Nat.le_refl _) ?_); go_loud (intro w6 hg6 hb6; have HO6 := Lib.hid (pad_row hg6.out (by rw [cutP_len]; exact HMN.out) (by have := HN2.out; omega)); have HB6 := Lib.hid hb6; clear hg6 hb6))
            rw [HPD.out] at HO6
            have HOO := Lib.hid (own_on HOU.out HB6.out HGG.out)
            rw [show vs ++ Value.slice (some ⟨g, 0, none⟩) n n :: List.replicate (t - (i + 1)) (.slice none 0 0) = (vs ++ [.slice (some ⟨g, 0, none⟩) n n]) ++ List.replicate (t - (i + 1)) (.slice none 0 0) by simp] at HOO
            have hmo := (HRV.out.keep (w' := w6) (ok' := fun b => G < b) HB6.out.size (fun b h1 h2 => ⟨h2.1, HB6.out.block b h2.2⟩)).more (P := cutP B n i n) (a := some ⟨g, 0, none⟩) (c := n) (by rw [cutP_len]; exact Pa.own2 HO6.out) (fun bb off e _ => by cases e; exact HGG.out)
            rw [cutP_len, ← cutM_take HI1.out] at hmo
            have HMO := Lib.hid hmo
            have HVV := Lib.hid (show (vs ++ [Value.slice (some ⟨g, 0, none⟩) n n]).length = i + 1 by rw [List.length_append, HVL.out]; rfl)
            have HBB := Lib.hid (HBU.out.trans (HB6.out.mono (Nat.le_of_lt HGG.out)))
            clear hmo
            go_roundw
            case rel => exact ⟨i + 1, vs ++ [.slice (some ⟨g, 0, none⟩) n n], by have := HI1.out; omega, by go_num, HVV, HOO, HMO, HBB⟩
            case measure => simp [intOf]; have := HI1.out; omega
      · as_aux_lemma =>
        have qm : (L : Int) < (lo : Int) := by omega
        have qs0 : (0 : Int) ≤ (L : Int) := by omega
        have qs2 : (L : Int) ≤ (cB : Int) := by omega
        obtain ⟨m, hm⟩ : ∃ m, m = Nat.min (L - L) n := ⟨_, rfl⟩
        have hm2 : m ≤ n ∧ L + m ≤ L := by rw [hm]; refine ⟨Nat.min_le_right _ _, ?_⟩; have h1 : Nat.min (L - L) n ≤ L - L := Nat.min_le_left _ _; omega
        have HC := Lib.hid (cut_src (n := n) (i := i) (m := m) HBW.out hm2.2 (by left; rw [hm, Nat.sub_self]; exact Nat.zero_min _))
        have HPD := Lib.hid (cut_pad (i := i) HBL.out hm2.1 (by right; have := HLO.out; omega))
        have HLEN := Lib.hid (show ((iL (cutP B n i m)).map (Value.int .u8)).length = Nat.min 0 n by rw [List.length_map, length_iL, cutP_len, hm, Nat.sub_self])
        have HFIT := Lib.hid (show 0 + ((iL (cutP B n i m)).map (Value.int .u8)).length ≤ (madeCells #[Value.int .u8 0] n).toList.length by simp [length_iL, cutP_len, size_madeCells]; exact hm2.1)
        have HMN := Lib.hid hm2.1
        clear hm hm2
        rcases aB with _ | ad
        · have hz : cB = 0 := HBW.out.2 rfl
          subst hz
          rw [show cutA none 0 L = none by unfold cutA; simp] at HC
          go_still_tail 12, (by kernel_rfl)
          go_wp2_with ((with_reducible show wpList _ _ _ (⟨some 40, _, _, _, _, _⟩ :: _) _ _); go_loud (refine wpList_copy_splice (o := ⟨some 40, _, _, _, _, _⟩) rfl (.tmp 31) (.tmp 39) 23 23 rfl 5 Try.underlying23 size_u8 (some ⟨g, 0, none⟩) _ n n _ _ rfl rfl g 0 (madeCells #[.int .u8 0] n).toList 5 HGD.out ((iL (cutP B n i m)).map (Value.int .u8)) HLEN.out (fun h0 => ⟨rfl, HC.out h0⟩) HFIT.out (ints_oneCell _ _) g U HBD.out (Nat.le_refl _) ?_); go_loud (intro w6 hg6 hb6; have HO6 := Lib.hid (pad_row hg6.out (by rw [cutP_len]; exact HMN.out) (by have := HN2.out; omega)); have HB6 := Lib.hid hb6; clear hg6 hb6))
          rw [HPD.out] at HO6
          have HOO := Lib.hid (own_on HOU.out HB6.out HGG.out)
          rw [show vs ++ Value.slice (some ⟨g, 0, none⟩) n n :: List.replicate (t - (i + 1)) (.slice none 0 0) = (vs ++ [.slice (some ⟨g, 0, none⟩) n n]) ++ List.replicate (t - (i + 1)) (.slice none 0 0) by simp] at HOO
          have hmo := (HRV.out.keep (w' := w6) (ok' := fun b => G < b) HB6.out.size (fun b h1 h2 => ⟨h2.1, HB6.out.block b h2.2⟩)).more (P := cutP B n i n) (a := some ⟨g, 0, none⟩) (c := n) (by rw [cutP_len]; exact Pa.own2 HO6.out) (fun bb off e _ => by cases e; exact HGG.out)
          rw [cutP_len, ← cutM_take HI1.out] at hmo
          have HMO := Lib.hid hmo
          have HVV := Lib.hid (show (vs ++ [Value.slice (some ⟨g, 0, none⟩) n n]).length = i + 1 by rw [List.length_append, HVL.out]; rfl)
          have HBB := Lib.hid (HBU.out.trans (HB6.out.mono (Nat.le_of_lt HGG.out)))
          clear hmo
          go_roundw
          case rel => exact ⟨i + 1, vs ++ [.slice (some ⟨g, 0, none⟩) n n], by have := HI1.out; omega, by go_num, HVV, HOO, HMO, HBB⟩
          case measure => simp [intOf]; have := HI1.out; omega
        · by_cases qc : cB = L
          · obtain rfl : cB = L := qc
            rw [show cutA (some ad) cB cB = some ad by unfold cutA; rw [if_pos rfl]] at HC
            go_still_tail 12, (by kernel_rfl)
            go_wp2_with ((with_reducible show wpList _ _ _ (⟨some 40, _, _, _, _, _⟩ :: _) _ _); go_loud (refine wpList_copy_splice (o := ⟨some 40, _, _, _, _, _⟩) rfl (.tmp 31) (.tmp 39) 23 23 rfl 5 Try.underlying23 size_u8 (some ⟨g, 0, none⟩) _ n n _ _ rfl rfl g 0 (madeCells #[.int .u8 0] n).toList 5 HGD.out ((iL (cutP B n i m)).map (Value.int .u8)) HLEN.out (fun h0 => ⟨rfl, HC.out h0⟩) HFIT.out (ints_oneCell _ _) g U HBD.out (Nat.le_refl _) ?_); go_loud (intro w6 hg6 hb6; have HO6 := Lib.hid (pad_row hg6.out (by rw [cutP_len]; exact HMN.out) (by have := HN2.out; omega)); have HB6 := Lib.hid hb6; clear hg6 hb6))
            rw [HPD.out] at HO6
            have HOO := Lib.hid (own_on HOU.out HB6.out HGG.out)
            rw [show vs ++ Value.slice (some ⟨g, 0, none⟩) n n :: List.replicate (t - (i + 1)) (.slice none 0 0) = (vs ++ [.slice (some ⟨g, 0, none⟩) n n]) ++ List.replicate (t - (i + 1)) (.slice none 0 0) by simp] at HOO
            have hmo := (HRV.out.keep (w' := w6) (ok' := fun b => G < b) HB6.out.size (fun b h1 h2 => ⟨h2.1, HB6.out.block b h2.2⟩)).more (P := cutP B n i n) (a := some ⟨g, 0, none⟩) (c := n) (by rw [cutP_len]; exact Pa.own2 HO6.out) (fun bb off e _ => by cases e; exact HGG.out)
            rw [cutP_len, ← cutM_take HI1.out] at hmo
            have HMO := Lib.hid hmo
            have HVV := Lib.hid (show (vs ++ [Value.slice (some ⟨g, 0, none⟩) n n]).length = i + 1 by rw [List.length_append, HVL.out]; rfl)
            have HBB := Lib.hid (HBU.out.trans (HB6.out.mono (Nat.le_of_lt HGG.out)))
            clear hmo
            go_roundw
            case rel => exact ⟨i + 1, vs ++ [.slice (some ⟨g, 0, none⟩) n n], by have := HI1.out; omega, by go_num, HVV, HOO, HMO, HBB⟩
            case measure => simp [intOf]; have := HI1.out; omega
          · rw [show cutA (some ad) cB L = some (ad.add L) by unfold cutA; rw [if_neg qc]; rfl] at HC
            go_still_tail 12, (by kernel_rfl)
            go_wp2_with ((with_reducible show wpList _ _ _ (⟨some 40, _, _, _, _, _⟩ :: _) _ _); go_loud (refine wpList_copy_splice (o := ⟨some 40, _, _, _, _, _⟩) rfl (.tmp 31) (.tmp 39) 23 23 rfl 5 Try.underlying23 size_u8 (some ⟨g, 0, none⟩) _ n n _ _ rfl rfl g 0 (madeCells #[.int .u8 0] n).toList 5 HGD.out ((iL (cutP B n i m)).map (Value.int .u8)) HLEN.out (fun h0 => ⟨rfl, HC.out h0⟩) HFIT.out (ints_oneCell _ _) g U HBD.out (Nat.le_refl _) ?_); go_loud (intro w6 hg6 hb6; have HO6 := Lib.hid (pad_row hg6.out (by rw [cutP_len]; exact HMN.out) (by have := HN2.out; omega)); have HB6 := Lib.hid hb6; clear hg6 hb6))
            rw [HPD.out] at HO6
            have HOO := Lib.hid (own_on HOU.out HB6.out HGG.out)
            rw [show vs ++ Value.slice (some ⟨g, 0, none⟩) n n :: List.replicate (t - (i + 1)) (.slice none 0 0) = (vs ++ [.slice (some ⟨g, 0, none⟩) n n]) ++ List.replicate (t - (i + 1)) (.slice none 0 0) by simp] at HOO
            have hmo := (HRV.out.keep (w' := w6) (ok' := fun b => G < b) HB6.out.size (fun b h1 h2 => ⟨h2.1, HB6.out.block b h2.2⟩)).more (P := cutP B n i n) (a := some ⟨g, 0, none⟩) (c := n) (by rw [cutP_len]; exact Pa.own2 HO6.out) (fun bb off e _ => by cases e; exact HGG.out)
            rw [cutP_len, ← cutM_take HI1.out] at hmo
            have HMO := Lib.hid hmo
            have HVV := Lib.hid (show (vs ++ [Value.slice (some ⟨g, 0, none⟩) n n]).length = i + 1 by rw [List.length_append, HVL.out]; rfl)
            have HBB := Lib.hid (HBU.out.trans (HB6.out.mono (Nat.le_of_lt HGG.out)))
            clear hmo
            go_roundw
            case rel => exact ⟨i + 1, vs ++ [.slice (some ⟨g, 0, none⟩) n n], by have := HI1.out; omega, by go_num, HVV, HOO, HMO, HBB⟩
            case measure => simp [intOf]; have := HI1.out; omega
    · obtain rfl : i = t := by omega
      have ho := HO.out
      have hv := HV.out
      rw [Nat.sub_self, List.replicate_zero, List.append_nil] at ho
      rw [List.take_of_length_le (by rw [cutM_len]; exact Nat.le_refl _)] at hv
      have HM := Lib.hid (MatB.ofOk ho hv (fun b hb => Nat.le_of_lt hb))
      have HBF := Lib.hid (show Below w.heap.size w V from HBR.out.trans (by have := HBV.out; rw [HG.out] at this; exact this))
      clear ho hv
      go_wp2
      go_ret2
      exact ⟨_, _, rfl, by rw [← HG.out]; exact HM.out, HBF.out⟩
end Go.Proofs.Ytmhjpdppippgkaa
