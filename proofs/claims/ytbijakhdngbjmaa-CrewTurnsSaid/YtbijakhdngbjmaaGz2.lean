/- CrewTurns, walked. -/
import Derived.Test.YtbijakhdngbjmaaGz
import Derived.Deep.CutRange
namespace Go.Proofs.Ytbijakhdngbjmaa
open Go.ChangeShapes Go.WideShapes Go.ChangeAt Go.RowKit Go.Shelf
set_option linter.unusedVariables false
set_option linter.unusedSimpArgs false
set_option maxRecDepth 100000
attribute [local go_sem] Oper.semAt_some

set_option maxHeartbeats 40000000 in
theorem turns_core (a : Option Addr) (n c : Nat) (l : List PSu) (pl : Int) (w : World) (hA : ArgP w a n c l) (hpl : (Lit.int .i64 pl).wf = true) :
    Calls Try.prog 3 #[.slice a n c, .int .i64 pl] w fun e w' => e = .returned (.bool true) ∧ Below w.heap.size w w' := by
  have HLV := Lib.hid (fun W => lives16 W)
  obtain ⟨hb1, hb2⟩ := hA.bd
  have hpl2 : -9223372036854775808 ≤ pl ∧ pl ≤ 9223372036854775807 := by simpa [Lit.wf, IntKind.min, IntKind.max, IntKind.signed, IntKind.bits] using hpl
  have HL := Lib.hid (show l.length = n from hA.1)
  have HA := Lib.hid hA
  clear hA hpl
  by_cases hn8 : n ≤ 8
  case neg =>
    have q8 : (8 : Int) < (n : Int) := by omega
    go_enter Try.func3, Try.ntmps3
    go_wp2_with (go_at_call 5; go_loud ((with_reducible refine (HLV.out _).mono ?_); rintro e w1 ⟨rfl, hb⟩; first | (have HB2 := Lib.hid (bt HB1.out hb); clear hb) | (have HB1 := Lib.hid hb; clear hb)))
    go_ret
    exact ⟨rfl, HB2.out⟩
  have q8 : ¬ (8 : Int) < (n : Int) := by omega
  go_enter Try.func3, Try.ntmps3
  go_upto_region 3 with (go_at_call 5; go_loud ((with_reducible refine (HLV.out _).mono ?_); rintro e w1 ⟨rfl, hb⟩; have HB1 := Lib.hid hb; clear hb))
  obtain ⟨hz0, hi0⟩ := zero_of_info infoSu
  clear hi0
  obtain ⟨c0, hc0⟩ : ∃ s, s = tabV 276 (suV suZ) := ⟨_, rfl⟩
  rw [← hc0] at hz0
  have HC0 := Lib.hid (show c0.size = 276 by rw [hc0, size_tabV])
  obtain ⟨hy0, hi0⟩ := zero_of_info infoCr
  clear hi0
  obtain ⟨z0, hzz0⟩ : ∃ s, s = crZ := ⟨_, rfl⟩
  replace hy0 : ∀ W : World, (zeroValue 38).run Try.prog W = .ok (.agg z0) W := by rw [hzz0]; exact hy0
  have HZ0 := Lib.hid (show z0.size = 277 ∧ z0.all (·.oneCell') = true by rw [hzz0]; exact crZ_size)
  have HZZ := Lib.hid hzz0
  clear hc0 hzz0
  go_wp2
  go_loopw [35] (fun iv wr => ∃ k : Nat, k ≤ n ∧ iv = .int .i64 (k : Nat) ∧ Hid (∀ y ∈ l.take k, y.lI ≤ 20) ∧ Hid (Below w.heap.size w wr)) (fun iv _ => n - (intOf iv).toNat)
  case atStart => exact ⟨0, Nat.zero_le _, rfl, Lib.hid (fun y hy => by simp at hy), Lib.hid HB1.out⟩
  case round =>
    obtain ⟨k, hk, rfl, hall, hbn⟩ := hrel
    rename World => w2
    have HAL := Lib.hid hall.out
    have HB2 := Lib.hid hbn.out
    clear hall hbn
    by_cases hlt : k < n
    · obtain ⟨b, off, y, ha, hbl, hyk, hyv, hrg⟩ := (HA.out.on HB2.out).at_ hlt
      subst ha
      have q1 : (k : Int) < (n : Int) := by omega
      have HRG := Lib.hid hrg
      have HLT := Lib.hid hlt
      have HYK := Lib.hid hyk
      have hyl := hyv.2.2.2.1.2.2.2.1
      clear hrg hyv hyk hlt
      go_upto_region 6 with (first
        | ((with_reducible show wpList _ _ _ (⟨some 38, _, _, _, _, _⟩ :: _) _ _); go_loud (refine wpList_load_mid rfl 27 (.tmp 37) rfl b (off + k * 14) rfl (psA y).toList _ HRG.out Try.underlying27 rfl sizePs ?_; rw [Array.toArray_toList]))
        | ((with_reducible show wpList _ _ _ (⟨none, Op.store 27 _ _, _, _, _, _⟩ :: _) _ _); go_loud (refine wpList_store_row rfl 27 (.tmp 6) (.tmp 38) rfl w2.heap.size (psA y) rfl rfl 27 #[.slice none 0 0, .int .u8 0, .int .u8 0, .int .u8 0, .int .u8 0, .int .u8 0, .int .u32 0, .int .u32 0, .int .u32 0, .slice none 0 0, .int .u32 0, .int .u32 0, .int .u8 0, .int .u32 0] (heap_alloc_new _ _) sizePs rfl (by simp [psA, Value.oneCell']) ?_; rw [alloc_setRow])))
      have HQ0 := Lib.hid (show (w2.alloc (.cells (psA y) 27)).heap[w2.heap.size]? = some (.cells #[.slice y.aN y.lN y.cN, .int .u8 y.P.p, .int .u8 y.P.n, .int .u8 y.P.t, .int .u8 y.P.m, .int .u8 y.P.c, .int .u32 y.P.bl, .int .u32 y.P.bo, .int .u32 y.P.ep, .slice y.aI y.lI y.cI, .int .u32 y.P.rf, .int .u32 y.P.sc, .int .u8 y.P.tg, .int .u32 y.P.rs] 27 (0, 0)) from heap_alloc_new w2 _)
      have HB3 := Lib.hid (show Below w.heap.size w (w2.alloc (.cells (psA y) 27)) from HB2.out.alloc HB2.out.size _)
      generalize w2.alloc (.cells (psA y) 27) = V at HQ0 HB3 ⊢
      obtain ⟨-, -, -, -, -, -, -, -, -, x9, -⟩ := cell14 HQ0.out
      by_cases h20 : y.lI ≤ 20
      · have q2 : ¬ (20 : Int) < (y.lI : Int) := by omega
        go_wp2
        go_roundw
        case rel => exact ⟨k + 1, HLT.out, by go_num, Lib.hid (fun z hz => by
            rw [List.take_add_one, HYK.out] at hz
            rcases List.mem_append.1 hz with hz | hz
            · exact HAL.out z hz
            · have : z = y := by simpa using hz
              rw [this]; exact h20), Lib.hid HB3.out⟩
        case measure => simp [intOf]; have := HLT.out; omega
      · have q2 : (20 : Int) < (y.lI : Int) := by omega
        go_wp2
        go_ret
        exact ⟨rfl, HB3.out⟩
    · obtain rfl : k = n := by omega
      have HI := Lib.hid (show ∀ y ∈ l, y.lI ≤ 20 by
        have h1 := HAL.out
        rw [List.take_of_length_le (by rw [HL.out]; exact Nat.le_refl _)] at h1
        exact h1)
      have qk : ¬ (k : Int) < (k : Int) := by omega
      clear HAL
      obtain ⟨y0, hy0'⟩ : ∃ y0, y0 = l.getD 0 default := ⟨_, rfl⟩
      have HY0 := Lib.hid (show ∀ y, l[0]? = some y → y = y0 from fun y h => by rw [hy0', List.getD_eq_getElem?_getD, h]; rfl)
      clear hy0'
      have HOF := Lib.hid (of_alike a k c l y0 w2 (HA.out.on HB2.out) HY0.out HI.out hn8)
      obtain ⟨M, hM⟩ : ∃ M, M = ofK y0 l k := ⟨_, rfl⟩
      have HM := Lib.hid hM
      rw [← hM] at HOF
      clear hM
      go_upto_region 10 with (go_at_call 6; go_loud ((with_reducible refine HOF.out.mono ?_); rintro e w3 ⟨ra, rb, rc, rd, rfl, ho, hb⟩; have HO3 := Lib.hid ho; have HB3 := Lib.hid (bt HB2.out hb); clear ho hb))
      have HSR := Lib.hid (SuR.of_own HO3.out)
      clear HOF
      rcases Nat.eq_zero_or_pos k with h0 | h0
      · subst h0
        have HG := Lib.hid (show Calls Try.prog 7 #[.slice ra 0 rc] w3 fun e w' => e = .returned (.tuple #[.agg z0, .int .i64 16]) ∧ Below w3.heap.size w3 w' from by rw [HZZ.out]; exact gather_nil ra rc w3)
        go_upto_region 12 with (first
          | (go_at_call 7; go_loud ((with_reducible refine HG.out.mono ?_); rintro e w5 ⟨rfl, hb⟩; have HB5 := Lib.hid (bt HB3.out hb); clear hb))
          | ((with_reducible show wpList _ _ _ (⟨none, Op.store 38 _ _, _, _, _, _⟩ :: _) _ _); go_loud (refine wpList_store_row rfl 38 (.tmp 9) (.tmp 52) rfl w5.heap.size z0 rfl rfl 38 z0 (heap_alloc_new _ _) (by rw [HZ0.out.1]; exact sizeCr) rfl HZ0.out.2 ?_; rw [alloc_setRow])))
        have HCB := Lib.hid (show CrB (w5.alloc (.cells z0 38)) w5.heap.size suZ (.slice none 0 0) by unfold CrB Blk; rw [HZZ.out]; exact heap_alloc_new w5 _)
        have z276 := HCB.out.slot
        have HBV := Lib.hid (show Below w.heap.size w (w5.alloc (.cells z0 38)) from HB5.out.alloc HB5.out.size _)
        go_wp2
        go_ret
        exact ⟨rfl, HBV.out⟩
      · have HTG := Lib.hid (show Tog M by
          have hAon := HA.out.on HB2.out
          rw [HM.out]
          have h1 := ofK_tog (y0 := y0) (l := l) (w := w2) (by
            obtain ⟨_, _, y1, _, _, hy1, hv, _⟩ := hAon.at_ h0
            rw [← HY0.out y1 hy1]; exact hv) hAon.2.2.2.1 (by rw [HL.out]; omega)
          rw [HL.out] at h1
          exact h1)
        have HGS := Lib.hid (gather_some ra k rc M w3 HSR.out HTG.out h0)
        by_cases hg : gaI M = 0
        case neg =>
          obtain ⟨er, her⟩ : ∃ e, e = gaI M := ⟨_, rfl⟩
          have HG := Lib.hid (show Calls Try.prog 7 #[.slice ra k rc] w3 fun e w' => e = .returned (.tuple #[.agg z0, .int .i64 er]) ∧ Below w3.heap.size w3 w' from by
            refine HGS.out.mono ?_
            rintro e w' ⟨-, h2, h3⟩
            rw [HZZ.out, her]
            exact ⟨h2 hg, h3⟩)
          have qe : (er != 0) = true := by rw [her]; simpa using hg
          clear her hg HGS
          go_upto_region 12 with (first
            | (go_at_call 7; go_loud ((with_reducible refine HG.out.mono ?_); rintro e w5 ⟨rfl, hb⟩; have HB5 := Lib.hid (bt HB3.out hb); clear hb))
            | ((with_reducible show wpList _ _ _ (⟨none, Op.store 38 _ _, _, _, _, _⟩ :: _) _ _); go_loud (refine wpList_store_row rfl 38 (.tmp 9) (.tmp 52) rfl w5.heap.size z0 rfl rfl 38 z0 (heap_alloc_new _ _) (by rw [HZ0.out.1]; exact sizeCr) rfl HZ0.out.2 ?_; rw [alloc_setRow])))
          have HCB := Lib.hid (show CrB (w5.alloc (.cells z0 38)) w5.heap.size suZ (.slice none 0 0) by unfold CrB Blk; rw [HZZ.out]; exact heap_alloc_new w5 _)
          have z276 := HCB.out.slot
          have HBV := Lib.hid (show Below w.heap.size w (w5.alloc (.cells z0 38)) from HB5.out.alloc HB5.out.size _)
          go_wp2
          go_ret
          exact ⟨rfl, HBV.out⟩
        case pos =>
          have HGA := Lib.hid hg
          obtain ⟨T, hTT⟩ : ∃ T, T = tabSU M := ⟨_, rfl⟩
          have HTT := Lib.hid hTT
          have HTW := Lib.hid (show T.Wf by rw [hTT]; exact tabSU_wf HTG.out.wf (by have := HSR.out.1; omega))
          obtain ⟨CU, hCU⟩ : ∃ CU, CU = curL T M := ⟨_, rfl⟩
          obtain ⟨m, hm⟩ : ∃ m, m = CU.length := ⟨_, rfl⟩
          have HMM := Lib.hid (show m ≤ 8 by
            rw [hm, hCU]
            have := cur_len_le (T := T) HTG.out.un HTG.out.wf
            have := HSR.out.1
            omega)
          have HG := Lib.hid (show Calls Try.prog 7 #[.slice ra k rc] w3 fun e w' => (∃ (ao : Option Addr) (co : Nat), e = .returned (.tuple #[crA T (.slice ao m co), .int .i64 0]) ∧ IA w' ao m co CU) ∧ Below w3.heap.size w3 w' from by
            refine HGS.out.mono ?_
            rintro e w' ⟨h2, -, h3⟩
            obtain ⟨ao, co, h4, h5⟩ := h2 hg
            rw [← hTT, ← hCU, ← hm] at h4 h5
            exact ⟨⟨ao, co, h4, ia_own h5 (by rw [hCU]; exact cur_64)⟩, h3⟩)
          have HCU := Lib.hid hCU
          have HM2 := Lib.hid hm
          clear hg hTT hCU hm HGS
          go_upto_region 13 with (first
            | (go_at_call 7; go_loud ((with_reducible refine HG.out.mono ?_); rintro e w5 ⟨⟨ao, co, rfl, hia⟩, hb⟩; have HB35 := Lib.hid hb; have HB5 := Lib.hid (bt HB3.out hb); have HIA5 := Lib.hid hia; clear hb hia; obtain ⟨sC, hsC⟩ : ∃ s, s = tabV 277 (crV T (.slice ao m co)) := ⟨_, rfl⟩; have HCA := Lib.hid (show crA T (.slice ao m co) = .agg sC by rw [hsC]; rfl); have HSC := Lib.hid (show sC.size = 277 ∧ sC.all (·.oneCell') = true by rw [hsC]; exact ⟨size_tabV _ _, tabV_one (crV_one T rfl)⟩); have HSD := Lib.hid hsC; clear hsC; rw [HCA.out]))
            | ((with_reducible show wpList _ _ _ (⟨none, Op.store 38 _ _, _, _, _, _⟩ :: _) _ _); go_loud (refine wpList_store_row rfl 38 (.tmp 9) (.tmp 52) rfl w5.heap.size sC rfl rfl 38 z0 (heap_alloc_new _ _) (by rw [HSC.out.1]; exact sizeCr) (by rw [HSC.out.1, HZ0.out.1]) HSC.out.2 ?_; rw [alloc_setRow])))
          obtain ⟨q, hq⟩ : ∃ q, q = w5.heap.size := ⟨_, rfl⟩
          have HCB := Lib.hid (show CrB (w5.alloc (.cells sC 38)) q T (.slice ao m co) by unfold CrB Blk; rw [← HSD.out, hq]; exact heap_alloc_new w5 _)
          have HRV := Lib.hid (show (w5.alloc (.cells sC 38)).heap[q]? = some (.cells sC 38 (0, 0)) by rw [hq]; exact heap_alloc_new w5 _)
          have HIV := Lib.hid (HIA5.out.on (w' := w5.alloc (.cells sC 38)) ((Below.refl _ _).alloc (Nat.le_refl _) _))
          have HWV := Lib.hid (show Below w.heap.size w (w5.alloc (.cells sC 38)) from HB5.out.alloc HB5.out.size _)
          have HSV := Lib.hid (show SuR (w5.alloc (.cells sC 38)) ra k rc M from HSR.out.on (HB35.out.alloc HB35.out.size _))
          rw [← hq]
          clear hq HB5 HB35 HG HIA5 HB3 HO3 HSR HB2 HLV
          generalize w5.alloc (.cells sC 38) = V at HCB HRV HIV HWV HSV ⊢
          clear HZ0 HZZ HCA hy0
          go_wp2
          go_loopw [62] (fun iv wr => ∃ j : Nat, j ≤ k ∧ iv = .int .i64 (j : Nat) ∧ Hid (Below V.heap.size V wr)) (fun iv _ => k - (intOf iv).toNat)
          case atStart => exact ⟨0, Nat.zero_le _, rfl, Lib.hid (Below.refl _ _)⟩
          case round =>
            obtain ⟨j, hj, rfl, hbn⟩ := hrel
            rename World => wj
            have HBJ := Lib.hid hbn.out
            clear hbn
            by_cases hlt : j < k
            · obtain ⟨b, off, P, ha, hbl, hPk, hrg⟩ := (HSV.out.on HBJ.out).at_ hlt
              subst ha
              have hnew := tabSU_new (List.mem_of_getElem? hPk)
              rw [← HTT.out] at hnew
              obtain ⟨sP, hsP⟩ : ∃ s, s = tabV 276 (suV P) := ⟨_, rfl⟩
              have HSP := Lib.hid (show sP.size = 276 ∧ sP.all (·.oneCell') = true by rw [hsP]; exact ⟨size_tabV _ _, tabV_one (suV_one P)⟩)
              have HSL := Lib.hid (show (suL P).toArray = sP by rw [suL_arr, hsP])
              have HS3 := Lib.hid (show SuB (wj.alloc (.cells sP 35)) wj.heap.size P by unfold SuB Blk; rw [hsP]; exact heap_alloc_new wj _)
              have HRG := Lib.hid hrg
              have HLT := Lib.hid hlt
              have HNEW := Lib.hid hnew
              have q1 : (j : Int) < (k : Int) := by omega
              clear hsP hrg hPk hnew hlt
              go_upto_region 16 with (first
                | ((with_reducible show wpList _ _ _ (⟨some 65, _, _, _, _, _⟩ :: _) _ _); go_loud (refine wpList_load_mid rfl 35 (.tmp 64) rfl b (off + j * 276) rfl (suL P) _ HRG.out Try.underlying35 rfl (by rw [suL_len]; exact sizeSu) ?_; rw [HSL.out]))
                | ((with_reducible show wpList _ _ _ (⟨none, Op.store 35 _ _, _, _, _, _⟩ :: _) _ _); go_loud (refine wpList_store_row rfl 35 (.tmp 12) (.tmp 65) rfl wj.heap.size sP rfl rfl 35 c0 (heap_alloc_new _ _) (by rw [HSP.out.1]; exact sizeSu) (by rw [HSP.out.1, HC0.out]) HSP.out.2 ?_; rw [alloc_setRow])))
              have HB3 := Lib.hid (show Below V.heap.size V (wj.alloc (.cells sP 35)) from HBJ.out.alloc HBJ.out.size _)
              generalize wj.alloc (.cells sP 35) = V3 at HS3 HB3 ⊢
              have x14 := HS3.out.num.2.2.2.2.2.2.1
              have x15 := HS3.out.num.2.2.2.2.2.2.2.1
              have y14 := (HCB.out.on HB3.out).num.2.2.2.1
              have y15 := (HCB.out.on HB3.out).num.2.2.2.2
              by_cases hbb : P.bo < T.bo
              · have k1 : ¬ T.bo < P.bo := by omega
                have k2 : (P.bo == T.bo) = false := by rw [beq_eq_false_iff_ne]; omega
                go_wp2
                go_roundw
                case rel => exact ⟨j + 1, HLT.out, by go_num, Lib.hid HB3.out⟩
                case measure => simp [intOf]; have := HLT.out; omega
              · obtain ⟨k3, k4⟩ : P.bo = T.bo ∧ P.ep ≤ T.ep := by
                  rcases HNEW.out with h | h
                  · exact absurd h hbb
                  · exact h
                have k1 : ¬ T.bo < P.bo := by omega
                have k2 : (P.bo == T.bo) = true := by rw [k3]; simp
                have k5 : ¬ T.ep < P.ep := by omega
                clear k3 k4 hbb
                go_wp2
                go_roundw
                case rel => exact ⟨j + 1, HLT.out, by go_num, Lib.hid HB3.out⟩
                case measure => simp [intOf]; have := HLT.out; omega
            · obtain rfl : j = k := by omega
              have qj : ¬ (j : Int) < (j : Int) := by omega
              have x276 := (HCB.out.on HBJ.out).slot
              go_wp2
              clear x276
              go_loopw [92] (fun iv wr => ∃ i : Nat, i ≤ m ∧ iv = .int .i64 (i : Nat) ∧ Hid (Below V.heap.size V wr)) (fun iv _ => m - (intOf iv).toNat)
              case atStart => exact ⟨0, Nat.zero_le _, rfl, Lib.hid HBJ.out⟩
              case round =>
                obtain ⟨i, hi, rfl, hbn⟩ := hrel
                rename World => wi
                have HBI := Lib.hid hbn.out
                clear hbn
                have hm8 : m ≤ 8 := HMM.out
                by_cases hlt2 : i < m
                · obtain ⟨b, off, ha, hbl, hcx⟩ := (HIV.out.on HBI.out).at_ (i := i) hlt2
                  subst ha
                  have hil : i < CU.length := by rw [← HM2.out]; exact hlt2
                  obtain ⟨x, hx, hx2, hxi⟩ := cur_in (T := T) (SL := M) (p := CU.getD i 0) (by rw [← HCU.out, List.getD_eq_getElem?_getD, List.getElem?_eq_getElem hil]; exact List.getElem_mem hil)
                  rw [hx] at hcx
                  have xci := (HCB.out.on HBI.out).inn hx2
                  rw [hxi] at xci
                  have q2 : (x : Int) < 256 := by omega
                  have q3 : (i : Int) < (m : Int) := by omega
                  have HLT := Lib.hid hlt2
                  clear hx hxi hil hlt2
                  go_wp2
                  go_roundw
                  case rel => exact ⟨i + 1, HLT.out, by go_num, Lib.hid HBI.out⟩
                  case measure => simp [intOf]; have := HLT.out; omega
                · obtain rfl : i = m := by omega
                  have qi : ¬ (i : Int) < (i : Int) := by omega
                  obtain ⟨Nn, fN, Dd, hND1, hND2⟩ : ∃ (Nn : SU) (fN : Int) (Dd : SU), (T.bo < 2147483648 → Nn = nextP T ∧ fN = 0 ∧ Dd = closP T CU) ∧ (2147483648 ≤ T.bo → Nn = suZ ∧ fN = 2 ∧ Dd = suZ) := by
                    by_cases h : T.bo < 2147483648
                    · exact ⟨nextP T, 0, closP T CU, fun _ => ⟨rfl, rfl, rfl⟩, fun h2 => absurd h (by omega)⟩
                    · exact ⟨suZ, 2, suZ, fun h2 => absurd h2 h, fun _ => ⟨rfl, rfl, rfl⟩⟩
                  have HND1 := Lib.hid hND1
                  have HND2 := Lib.hid hND2
                  have hCA : crA T (.slice ao i co) = .agg sC := by rw [HSD.out]; rfl
                  have HNX := Lib.hid (show ∀ W, Calls Try.prog 8 #[.agg sC] W fun e w' => e = .returned (.tuple #[suA Nn, .int .i64 fN]) ∧ Below W.heap.size W w' from fun W => by
                    have h := next_any T HTW.out ao i co W
                    rw [hCA] at h
                    refine h.mono ?_
                    rintro e w' ⟨h1, h2, h3⟩
                    by_cases hb : T.bo < 2147483648
                    · obtain ⟨e1, e2, _⟩ := hND1 hb
                      exact ⟨by rw [h1 hb, e1, e2], h3⟩
                    · obtain ⟨e1, e2, _⟩ := hND2 (by omega)
                      exact ⟨by rw [h2 (by omega), e1, e2], h3⟩)
                  have HCLS := Lib.hid (show ∀ W, Below V.heap.size V W → Calls Try.prog 9 #[.agg sC] W fun e w' => e = .returned (.tuple #[suA Dd, .int .i64 fN]) ∧ Below W.heap.size W w' from fun W hW => by
                    have h := closed_any T HTW.out ao i co CU W (HIV.out.on hW) (by rw [HCU.out]; exact cur_byte)
                    rw [hCA] at h
                    refine h.mono ?_
                    rintro e w' ⟨h1, h2, h3⟩
                    by_cases hb : T.bo < 2147483648
                    · obtain ⟨_, e1, e2⟩ := hND1 hb
                      exact ⟨by rw [h1 hb, e1, e2], h3⟩
                    · obtain ⟨_, e1, e2⟩ := hND2 (by omega)
                      exact ⟨by rw [h2 (by omega), e1, e2], h3⟩)
                  obtain ⟨sN, hsN⟩ : ∃ s, s = tabV 276 (suV Nn) := ⟨_, rfl⟩
                  obtain ⟨sD, hsD⟩ : ∃ s, s = tabV 276 (suV Dd) := ⟨_, rfl⟩
                  have hNA : suA Nn = .agg sN := by rw [hsN]; rfl
                  have hDA : suA Dd = .agg sD := by rw [hsD]; rfl
                  have HSN := Lib.hid (show sN.size = 276 ∧ sN.all (·.oneCell') = true by rw [hsN]; exact ⟨size_tabV _ _, tabV_one (suV_one _)⟩)
                  have HDN := Lib.hid (show sD.size = 276 ∧ sD.all (·.oneCell') = true by rw [hsD]; exact ⟨size_tabV _ _, tabV_one (suV_one _)⟩)
                  have HNE := Lib.hid hsN
                  have HDE := Lib.hid hsD
                  have HNA := Lib.hid hNA
                  have HDA := Lib.hid hDA
                  have HSCZ := Lib.hid HSC.out.1
                  have HRI := Lib.hid ((HBI.out.block q (by have := HCB.out.lt; exact this)).trans HRV.out)
                  rw [hNA] at HNX
                  rw [hDA] at HCLS
                  clear hND1 hND2 hCA hsN hsD hNA hDA HRV
                  go_upto_region 26 with (first
                    | ((with_reducible show wpList _ _ _ (⟨some 104, _, _, _, _, _⟩ :: _) _ _); go_loud (refine wpList_load_row rfl 38 (.tmp 9) rfl q rfl 38 sC (0, 0) _ HRI.out Try.underlying38 rfl (by rw [HSCZ.out]; exact sizeCr) ?_))
                    | (go_at_call 8; go_loud ((with_reducible refine (HNX.out _).mono ?_); rintro e w7 ⟨rfl, hb⟩; have HB7 := Lib.hid (bt HBI.out hb); clear hb))
                    | ((with_reducible show wpList _ _ _ (⟨none, Op.store 35 _ _, _, _, _, _⟩ :: _) _ _); go_loud (refine wpList_store_row rfl 35 (.tmp 15) (.tmp 106) rfl w7.heap.size sN rfl rfl 35 c0 (heap_alloc_new _ _) (by rw [HSN.out.1]; exact sizeSu) (by rw [HSN.out.1, HC0.out]) HSN.out.2 ?_; rw [alloc_setRow])))
                  obtain ⟨p1, hp1⟩ : ∃ p, p = w7.heap.size := ⟨_, rfl⟩
                  have HP1 := Lib.hid (show SuB (w7.alloc (.cells sN 35)) p1 Nn by unfold SuB Blk; rw [← HNE.out, hp1]; exact heap_alloc_new w7 _)
                  have HB8 := Lib.hid (show Below V.heap.size V (w7.alloc (.cells sN 35)) from HB7.out.alloc HB7.out.size _)
                  have HL1 := Lib.hid (show p1 < (w7.alloc (.cells sN 35)).heap.size by rw [hp1]; simp)
                  rw [← hp1]
                  clear hp1 HB7
                  generalize w7.alloc (.cells sN 35) = V8 at HP1 HB8 HL1 ⊢
                  have HR8 := Lib.hid (show V8.heap[q]? = some (.cells sC 38 (0, 0)) by have h := HCB.out.on HB8.out; unfold CrB Blk at h; rw [← HSD.out] at h; exact h)
                  go_upto_if 116 with (first
                    | ((with_reducible show wpList _ _ _ (⟨some 109, _, _, _, _, _⟩ :: _) _ _); go_loud (refine wpList_load_row rfl 38 (.tmp 9) rfl q rfl 38 sC (0, 0) _ HR8.out Try.underlying38 rfl (by rw [HSCZ.out]; exact sizeCr) ?_))
                    | (go_at_call 9; go_loud ((with_reducible refine (HCLS.out _ HB8.out).mono ?_); rintro e w9 ⟨rfl, hb⟩; have HB89 := Lib.hid hb; have z14 := (HCB.out.on ((bt HB8.out HB89.out).alloc (bt HB8.out HB89.out).size (.cells sD 35))).num.2.2.2.1; clear hb))
                    | ((with_reducible show wpList _ _ _ (⟨none, Op.store 35 _ _, _, _, _, _⟩ :: _) _ _); go_loud (refine wpList_store_row rfl 35 (.tmp 17) (.tmp 111) rfl w9.heap.size sD rfl rfl 35 c0 (heap_alloc_new _ _) (by rw [HDN.out.1]; exact sizeSu) (by rw [HDN.out.1, HC0.out]) HDN.out.2 ?_; rw [alloc_setRow])))
                  obtain ⟨p2, hp2⟩ : ∃ p, p = w9.heap.size := ⟨_, rfl⟩
                  have HP2 := Lib.hid (show SuB (w9.alloc (.cells sD 35)) p2 Dd by unfold SuB Blk; rw [← HDE.out, hp2]; exact heap_alloc_new w9 _)
                  have HB9 := Lib.hid (show Below V.heap.size V (w9.alloc (.cells sD 35)) from (bt HB8.out HB89.out).alloc (bt HB8.out HB89.out).size _)
                  have HP19 := Lib.hid (show SuB (w9.alloc (.cells sD 35)) p1 Nn from (HP1.out.on HB89.out).on ((Below.refl _ _).alloc (Nat.le_refl _) _))
                  rw [← hp2]
                  clear hp2 HB89 HP1 z14
                  generalize w9.alloc (.cells sD 35) = V9 at HP2 HB9 HP19 ⊢
                  obtain ⟨sT, hsT⟩ : ∃ s, s = tabV 276 (suV T) := ⟨_, rfl⟩
                  have HTA := Lib.hid (show suA T = .agg sT by rw [hsT]; rfl)
                  have HTL := Lib.hid (show (suL T).toArray = sT by rw [suL_arr, hsT])
                  clear hsT
                  obtain ⟨LT, hLT⟩ : ∃ L, L = T.L.length := ⟨_, rfl⟩
                  have HLT := Lib.hid hLT
                  have HL256 := Lib.hid (show LT ≤ 256 by rw [hLT]; exact L_len T)
                  have HIN2 := Lib.hid (show ∀ W, Calls Try.prog 11 #[.agg sT] W fun e w' => (∃ (a1 : Option Addr) (c1 : Nat), e = .returned (.slice a1 LT c1) ∧ IA w' a1 LT c1 T.L) ∧ Below W.heap.size W w' from fun W => by
                    have h := in_any T HTW.out W
                    rw [HTA.out] at h
                    refine h.mono ?_
                    rintro e w' ⟨a1, c1, h1, h2, h3⟩
                    rw [← hLT] at h1 h2
                    exact ⟨⟨a1, c1, h1, ia_own h2 (L_64' T)⟩, h3⟩)
                  clear hLT
                  have HSAME := Lib.hid (show ∀ (W : World) (a1 a2 : Option Addr) (L c1 c2 : Nat) (l : List Int), IA W a1 L c1 l → IA W a2 L c2 l → Calls Try.prog 10 #[.slice a1 L c1, .slice a2 L c2] W fun e w' => e = .returned (.bool true) ∧ Below W.heap.size W w' from fun W a1 a2 L c1 c2 l h1 h2 => by
                    have h := sameI_any a1 a2 L L c1 c2 l l W h1 h2
                    rw [decide_eq_true (rfl : l = l)] at h
                    exact h)
                  have hld9 : ∀ W, Below V9.heap.size V9 W → (Instr.loadAt 35 (.pointer (some ⟨q, 0, none⟩))).run Try.prog W = .ok (.agg sT) W := fun W hW => by
                    have := run_loadAt_mid (P := Try.prog) W q 0 35 (suL T) _ ((HCB.out.on HB9.out).on hW).table Try.underlying35 rfl (by rw [suL_len]; exact sizeSu)
                    rw [HTL.out] at this
                    exact this
                  go_cut [] from 116 to 185 (fun wx => Hid (Below V.heap.size V wx))
                  case first =>
                    by_cases hb : T.bo < 2147483648
                    case neg =>
                      obtain ⟨-, hfn, -⟩ := HND2.out (by omega)
                      have q2 : 2147483648 ≤ T.bo := by omega
                      subst hfn
                      go_wp2
                      go_meet
                      exact Lib.hid HB9.out
                    case pos =>
                      obtain ⟨hnn, hfn, hdd⟩ := HND1.out hb
                      subst hfn
                      have q2 : ¬ 2147483648 ≤ T.bo := by omega
                      have htb := HTW.out.bo
                      unfold u32I at htb
                      obtain ⟨B1, hB1⟩ : ∃ B, B = T.bo + 1 := ⟨_, rfl⟩
                      have n14 : ∀ W, Below V9.heap.size V9 W → W.cell? ⟨p1, 14, none⟩ = some (.int .u32 B1) := fun W hW => by
                        have := (HP19.out.on hW).num.2.2.2.2.2.2.1
                        rw [hnn] at this; rw [hB1]; exact this
                      have n15 : ∀ W, Below V9.heap.size V9 W → W.cell? ⟨p1, 15, none⟩ = some (.int .u32 0) := fun W hW => by
                        have := (HP19.out.on hW).num.2.2.2.2.2.2.2.1
                        rw [hnn] at this; exact this
                      have n8 : ∀ W, Below V9.heap.size V9 W → W.cell? ⟨p1, 8, none⟩ = some (.int .u8 T.p) := fun W hW => by
                        have := (HP19.out.on hW).num.1
                        rw [hnn] at this; exact this
                      have d14 : ∀ W, Below V9.heap.size V9 W → W.cell? ⟨p2, 14, none⟩ = some (.int .u32 B1) := fun W hW => by
                        have := (HP2.out.on hW).num.2.2.2.2.2.2.1
                        rw [hdd] at this; rw [hB1]; exact this
                      have d15 : ∀ W, Below V9.heap.size V9 W → W.cell? ⟨p2, 15, none⟩ = some (.int .u32 1) := fun W hW => by
                        have := (HP2.out.on hW).num.2.2.2.2.2.2.2.1
                        rw [hdd] at this; exact this
                      have z14 : ∀ W, Below V9.heap.size V9 W → W.cell? ⟨q, 14, none⟩ = some (.int .u32 T.bo) := fun W hW => ((HCB.out.on HB9.out).on hW).num.2.2.2.1
                      have z8 : ∀ W, Below V9.heap.size V9 W → W.cell? ⟨q, 8, none⟩ = some (.int .u8 T.p) := fun W hW => ((HCB.out.on HB9.out).on hW).num.1
                      have z276 : ∀ W, Below V9.heap.size V9 W → W.cell? ⟨q, 276, none⟩ = some (.slice ao i co) := fun W hW => ((HCB.out.on HB9.out).on hW).slot
                      have hld15 : ∀ W, Below V9.heap.size V9 W → (Instr.loadAt 35 (.pointer (some ⟨p1, 0, none⟩))).run Try.prog W = .ok (.agg sN) W := fun W hW => by
                        have := run_loadAt_mid (P := Try.prog) W p1 0 35 (suL Nn) _ (SuB.range (HP19.out.on hW)) Try.underlying35 rfl (by rw [suL_len]; exact sizeSu)
                        rw [suL_arr, ← HNE.out] at this
                        exact this
                      have hld17 : ∀ W, Below V9.heap.size V9 W → (Instr.loadAt 35 (.pointer (some ⟨p2, 0, none⟩))).run Try.prog W = .ok (.agg sD) W := fun W hW => by
                        have := run_loadAt_mid (P := Try.prog) W p2 0 35 (suL Dd) _ (SuB.range (HP2.out.on hW)) Try.underlying35 rfl (by rw [suL_len]; exact sizeSu)
                        rw [suL_arr, ← HDE.out] at this
                        exact this
                      have HIN1 := Lib.hid (show ∀ W, Calls Try.prog 11 #[.agg sN] W fun e w' => (∃ (a1 : Option Addr) (c1 : Nat), e = .returned (.slice a1 LT c1) ∧ IA w' a1 LT c1 T.L) ∧ Below W.heap.size W w' from fun W => by
                        have hL : Nn.L = T.L := by rw [hnn]; rfl
                        have h := in_any Nn (by rw [hnn]; exact nextP_wf HTW.out hb) W
                        rw [HNA.out, hL] at h
                        refine h.mono ?_
                        rintro e w' ⟨a1, c1, h1, h2, h3⟩
                        rw [← HLT.out] at h1 h2
                        exact ⟨⟨a1, c1, h1, ia_own h2 (L_64' T)⟩, h3⟩)
                      have hDL : Dd.L = CU := by rw [hdd, HCU.out]; exact closP_L T M
                      have hDW : Dd.Wf := by rw [hdd]; exact closP_wf HTW.out hb _
                      have HIN3 := Lib.hid (show ∀ W, Calls Try.prog 11 #[.agg sD] W fun e w' => (∃ (a1 : Option Addr) (c1 : Nat), e = .returned (.slice a1 i c1) ∧ IA w' a1 i c1 CU) ∧ Below W.heap.size W w' from fun W => by
                        have h := in_any Dd hDW W
                        rw [HDA.out, hDL] at h
                        refine h.mono ?_
                        rintro e w' ⟨a1, c1, h1, h2, h3⟩
                        rw [← HM2.out] at h1 h2
                        exact ⟨⟨a1, c1, h1, ia_own h2 (by rw [HCU.out]; exact cur_64)⟩, h3⟩)
                      have HEN := Lib.hid (show ∀ W, Calls Try.prog 12 #[.agg sD] W fun e w' => e = .returned (.int .i64 0) ∧ Below W.heap.size W w' from fun W => by
                        have h := Enough_any Dd hDW W
                        have hz : enI Dd Dd.L.length = 0 := by
                          have h0 := ga_zero HGA.out
                          rw [← HTT.out, ← HCU.out] at h0
                          rw [hDL]
                          unfold enI at h0 ⊢
                          rw [hdd]
                          exact h0
                        rw [HDA.out, hz] at h
                        exact h)
                      have hwB : IntKind.u32.wrap (T.bo + 1) = B1 := by rw [IntKind.wrap_u32, hB1]; omega
                      clear hnn hdd hDL hDW htb hB1
                      go_upto_region 30 with fail
                      as_aux_lemma =>
                        refine wp_region_held_drew (S := (fun W => Below V9.heap.size V9 W)) (by kernel_rfl) (Below.refl _ _).drew (fun hHeld => ?_)
                        refine wpAnyH_take (i := 0) (oi := { dst := some 123, op := Go.Op.move (Go.Operand.tmp 16), type := 39, pos := "law.go:112", after := #[], guard := none }) (v := ?v0p1) rfl (by kernel_rfl) (by kernel_rfl) (by kernel_rfl) (fun _ _ _ h => h) (Or.inl ⟨by rfl, ?hy0p1⟩) hHeld ?rest0p1
                        case hy0p1 =>
                          intro W' hV
                          try dsimp only at hV
                          go_simp
                          all_goals with_reducible rfl
                        case' rest0p1 => try simp only [Act.put, List.setIfInBounds_toArray, List.set_cons_zero, List.set_cons_succ]
                        refine wpAnyH_take (i := 1) (oi := { dst := some 124, op := Go.Op.binOp Go.BinOp.neq 39 (Go.Operand.tmp 123) (Go.Operand.const (Go.Value.int Go.IntKind.i64 0)) 39, type := 4, pos := "law.go:112", after := #[{ on := 0, ground := Go.Ground.data }], guard := none }) (v := ?v1p2) rfl (by kernel_rfl) (by kernel_rfl) (by kernel_rfl) (fun _ _ _ h => h) (Or.inl ⟨by rfl, ?hy1p2⟩) hHeld ?rest1p2
                        case hy1p2 =>
                          intro W' hV
                          try dsimp only at hV
                          go_simp
                          all_goals with_reducible rfl
                        case' rest1p2 => try simp only [Act.put, List.setIfInBounds_toArray, List.set_cons_zero, List.set_cons_succ]
                        refine wpAnyH_take (i := 2) (oi := { dst := some 125, op := Go.Op.move (Go.Operand.tmp 124), type := 4, pos := "law.go:112", after := #[{ on := 1, ground := Go.Ground.data }], guard := none }) (v := ?v2p3) rfl (by kernel_rfl) (by kernel_rfl) (by kernel_rfl) (fun _ _ _ h => h) (Or.inl ⟨by rfl, ?hy2p3⟩) hHeld ?rest2p3
                        case hy2p3 =>
                          intro W' hV
                          try dsimp only at hV
                          go_simp
                          all_goals with_reducible rfl
                        case' rest2p3 => try simp only [Act.put, List.setIfInBounds_toArray, List.set_cons_zero, List.set_cons_succ]
                        refine wpAnyH_take (i := 3) (oi := { dst := some 126, op := Go.Op.move (Go.Operand.tmp 18), type := 39, pos := "law.go:112", after := #[{ on := 2, ground := Go.Ground.guard }], guard := some (2, false) }) (v := ?v3p4) rfl (by kernel_rfl) (by kernel_rfl) (by kernel_rfl) (fun _ _ _ h => h) (Or.inl ⟨by rfl, ?hy3p4⟩) hHeld ?rest3p4
                        case hy3p4 =>
                          intro W' hV
                          try dsimp only at hV
                          go_simp
                          all_goals with_reducible rfl
                        case' rest3p4 => try simp only [Act.put, List.setIfInBounds_toArray, List.set_cons_zero, List.set_cons_succ]
                        refine wpAnyH_take (i := 4) (oi := { dst := some 127, op := Go.Op.binOp Go.BinOp.neq 39 (Go.Operand.tmp 126) (Go.Operand.const (Go.Value.int Go.IntKind.i64 0)) 39, type := 4, pos := "law.go:112", after := #[{ on := 3, ground := Go.Ground.data }, { on := 2, ground := Go.Ground.guard }], guard := some (2, false) }) (v := ?v4p5) rfl (by kernel_rfl) (by kernel_rfl) (by kernel_rfl) (fun _ _ _ h => h) (Or.inl ⟨by rfl, ?hy4p5⟩) hHeld ?rest4p5
                        case hy4p5 =>
                          intro W' hV
                          try dsimp only at hV
                          go_simp
                          all_goals with_reducible rfl
                        case' rest4p5 => try simp only [Act.put, List.setIfInBounds_toArray, List.set_cons_zero, List.set_cons_succ]
                        refine wpAnyH_take (i := 5) (oi := { dst := some 128, op := Go.Op.pick (Go.Operand.tmp 125) (Go.Operand.const (Go.Value.bool true)) (Go.Operand.tmp 127), type := 4, pos := "law.go:112", after := #[{ on := 2, ground := Go.Ground.data }, { on := 4, ground := Go.Ground.data }], guard := none }) (v := ?v5p6) rfl (by kernel_rfl) (by kernel_rfl) (by kernel_rfl) (fun _ _ _ h => h) (Or.inl ⟨by rfl, ?hy5p6⟩) hHeld ?rest5p6
                        case hy5p6 =>
                          intro W' hV
                          try dsimp only at hV
                          go_simp
                          all_goals with_reducible rfl
                        case' rest5p6 => try simp only [Act.put, List.setIfInBounds_toArray, List.set_cons_zero, List.set_cons_succ]
                        refine wpAnyH_take (i := 6) (oi := { dst := some 129, op := Go.Op.move (Go.Operand.tmp 128), type := 4, pos := "law.go:112", after := #[{ on := 5, ground := Go.Ground.data }, { on := 2, ground := Go.Ground.chain }], guard := none }) (v := ?v6p7) rfl (by kernel_rfl) (by kernel_rfl) (by kernel_rfl) (fun _ _ _ h => h) (Or.inl ⟨by rfl, ?hy6p7⟩) hHeld ?rest6p7
                        case hy6p7 =>
                          intro W' hV
                          try dsimp only at hV
                          go_simp
                          all_goals with_reducible rfl
                        case' rest6p7 => try simp only [Act.put, List.setIfInBounds_toArray, List.set_cons_zero, List.set_cons_succ]
                        refine wpAnyH_take (i := 7) (oi := { dst := some 130, op := Go.Op.fieldAddr 35 (Go.Operand.tmp 15) 7, type := 0, pos := "law.go:112", after := #[{ on := 6, ground := Go.Ground.guard }], guard := some (6, false) }) (v := ?v7p8) rfl (by kernel_rfl) (by kernel_rfl) (by kernel_rfl) (fun _ _ _ h => h) (Or.inl ⟨by rfl, ?hy7p8⟩) hHeld ?rest7p8
                        case hy7p8 =>
                          intro W' hV
                          try dsimp only at hV
                          go_simp
                          all_goals with_reducible rfl
                        case' rest7p8 => try simp only [Act.put, List.setIfInBounds_toArray, List.set_cons_zero, List.set_cons_succ]
                        refine wpAnyH_take (i := 8) (oi := { dst := some 131, op := Go.Op.load 25 (Go.Operand.tmp 130), type := 25, pos := "law.go:112", after := #[{ on := 7, ground := Go.Ground.data }, { on := 6, ground := Go.Ground.guard }], guard := some (6, false) }) (v := ?v8p9) rfl (by kernel_rfl) (by kernel_rfl) (by kernel_rfl) (fun _ _ _ h => h) (Or.inl ⟨by rfl, ?hy8p9⟩) hHeld ?rest8p9
                        case hy8p9 =>
                          intro W' hV
                          try dsimp only at hV
                          go_simp
                          all_goals with_reducible rfl
                        case' rest8p9 => try simp only [Act.put, List.setIfInBounds_toArray, List.set_cons_zero, List.set_cons_succ]
                        refine wpAnyH_take (i := 9) (oi := { dst := some 132, op := Go.Op.fieldAddr 38 (Go.Operand.tmp 9) 0, type := 0, pos := "law.go:112", after := #[{ on := 6, ground := Go.Ground.guard }], guard := some (6, false) }) (v := ?v9p10) rfl (by kernel_rfl) (by kernel_rfl) (by kernel_rfl) (fun _ _ _ h => h) (Or.inl ⟨by rfl, ?hy9p10⟩) hHeld ?rest9p10
                        case hy9p10 =>
                          intro W' hV
                          try dsimp only at hV
                          go_simp
                          all_goals with_reducible rfl
                        case' rest9p10 => try simp only [Act.put, List.setIfInBounds_toArray, List.set_cons_zero, List.set_cons_succ]
                        refine wpAnyH_take (i := 10) (oi := { dst := some 133, op := Go.Op.fieldAddr 35 (Go.Operand.tmp 132) 7, type := 0, pos := "law.go:112", after := #[{ on := 9, ground := Go.Ground.data }, { on := 6, ground := Go.Ground.guard }], guard := some (6, false) }) (v := ?v10p11) rfl (by kernel_rfl) (by kernel_rfl) (by kernel_rfl) (fun _ _ _ h => h) (Or.inl ⟨by rfl, ?hy10p11⟩) hHeld ?rest10p11
                        case hy10p11 =>
                          intro W' hV
                          try dsimp only at hV
                          go_simp
                          all_goals with_reducible rfl
                        case' rest10p11 => try simp only [Act.put, List.setIfInBounds_toArray, List.set_cons_zero, List.set_cons_succ]
                        refine wpAnyH_take (i := 11) (oi := { dst := some 134, op := Go.Op.load 25 (Go.Operand.tmp 133), type := 25, pos := "law.go:112", after := #[{ on := 10, ground := Go.Ground.data }, { on := 6, ground := Go.Ground.guard }], guard := some (6, false) }) (v := ?v11p12) rfl (by kernel_rfl) (by kernel_rfl) (by kernel_rfl) (fun _ _ _ h => h) (Or.inl ⟨by rfl, ?hy11p12⟩) hHeld ?rest11p12
                        case hy11p12 =>
                          intro W' hV
                          try dsimp only at hV
                          go_simp
                          all_goals with_reducible rfl
                        case' rest11p12 => try simp only [Act.put, List.setIfInBounds_toArray, List.set_cons_zero, List.set_cons_succ]
                        refine wpAnyH_take (i := 12) (oi := { dst := some 135, op := Go.Op.binOp Go.BinOp.add 25 (Go.Operand.tmp 134) (Go.Operand.const (Go.Value.int Go.IntKind.u32 1)) 25, type := 25, pos := "law.go:112", after := #[{ on := 11, ground := Go.Ground.data }, { on := 6, ground := Go.Ground.guard }], guard := some (6, false) }) (v := ?v12p13) rfl (by kernel_rfl) (by kernel_rfl) (by kernel_rfl) (fun _ _ _ h => h) (Or.inl ⟨by rfl, ?hy12p13⟩) hHeld ?rest12p13
                        case hy12p13 =>
                          intro W' hV
                          try dsimp only at hV
                          go_simp
                          all_goals with_reducible rfl
                        case' rest12p13 => try simp only [Act.put, List.setIfInBounds_toArray, List.set_cons_zero, List.set_cons_succ]
                        refine wpAnyH_take (i := 13) (oi := { dst := some 136, op := Go.Op.binOp Go.BinOp.neq 25 (Go.Operand.tmp 131) (Go.Operand.tmp 135) 25, type := 4, pos := "law.go:112", after := #[{ on := 8, ground := Go.Ground.data }, { on := 12, ground := Go.Ground.data }, { on := 6, ground := Go.Ground.guard }], guard := some (6, false) }) (v := ?v13p14) rfl (by kernel_rfl) (by kernel_rfl) (by kernel_rfl) (fun _ _ _ h => h) (Or.inl ⟨by rfl, ?hy13p14⟩) hHeld ?rest13p14
                        case hy13p14 =>
                          intro W' hV
                          try dsimp only at hV
                          go_simp
                          all_goals with_reducible rfl
                        case' rest13p14 => try simp only [Act.put, List.setIfInBounds_toArray, List.set_cons_zero, List.set_cons_succ]
                        refine wpAnyH_take (i := 14) (oi := { dst := some 137, op := Go.Op.pick (Go.Operand.tmp 129) (Go.Operand.const (Go.Value.bool true)) (Go.Operand.tmp 136), type := 4, pos := "law.go:112", after := #[{ on := 6, ground := Go.Ground.data }, { on := 13, ground := Go.Ground.data }], guard := none }) (v := ?v14p15) rfl (by kernel_rfl) (by kernel_rfl) (by kernel_rfl) (fun _ _ _ h => h) (Or.inl ⟨by rfl, ?hy14p15⟩) hHeld ?rest14p15
                        case hy14p15 =>
                          intro W' hV
                          try dsimp only at hV
                          go_simp
                          all_goals with_reducible rfl
                        case' rest14p15 => try simp only [Act.put, List.setIfInBounds_toArray, List.set_cons_zero, List.set_cons_succ]
                        refine wpAnyH_take (i := 15) (oi := { dst := some 138, op := Go.Op.move (Go.Operand.tmp 137), type := 4, pos := "law.go:112", after := #[{ on := 14, ground := Go.Ground.data }, { on := 6, ground := Go.Ground.chain }], guard := none }) (v := ?v15p16) rfl (by kernel_rfl) (by kernel_rfl) (by kernel_rfl) (fun _ _ _ h => h) (Or.inl ⟨by rfl, ?hy15p16⟩) hHeld ?rest15p16
                        case hy15p16 =>
                          intro W' hV
                          try dsimp only at hV
                          go_simp
                          all_goals with_reducible rfl
                        case' rest15p16 => try simp only [Act.put, List.setIfInBounds_toArray, List.set_cons_zero, List.set_cons_succ]
                        refine wpAnyH_take (i := 16) (oi := { dst := some 139, op := Go.Op.fieldAddr 35 (Go.Operand.tmp 15) 8, type := 0, pos := "law.go:112", after := #[{ on := 15, ground := Go.Ground.guard }], guard := some (15, false) }) (v := ?v16p17) rfl (by kernel_rfl) (by kernel_rfl) (by kernel_rfl) (fun _ _ _ h => h) (Or.inl ⟨by rfl, ?hy16p17⟩) hHeld ?rest16p17
                        case hy16p17 =>
                          intro W' hV
                          try dsimp only at hV
                          go_simp
                          all_goals with_reducible rfl
                        case' rest16p17 => try simp only [Act.put, List.setIfInBounds_toArray, List.set_cons_zero, List.set_cons_succ]
                        refine wpAnyH_take (i := 17) (oi := { dst := some 140, op := Go.Op.load 25 (Go.Operand.tmp 139), type := 25, pos := "law.go:112", after := #[{ on := 16, ground := Go.Ground.data }, { on := 15, ground := Go.Ground.guard }], guard := some (15, false) }) (v := ?v17p18) rfl (by kernel_rfl) (by kernel_rfl) (by kernel_rfl) (fun _ _ _ h => h) (Or.inl ⟨by rfl, ?hy17p18⟩) hHeld ?rest17p18
                        case hy17p18 =>
                          intro W' hV
                          try dsimp only at hV
                          go_simp
                          all_goals with_reducible rfl
                        case' rest17p18 => try simp only [Act.put, List.setIfInBounds_toArray, List.set_cons_zero, List.set_cons_succ]
                        refine wpAnyH_take (i := 18) (oi := { dst := some 141, op := Go.Op.binOp Go.BinOp.neq 25 (Go.Operand.tmp 140) (Go.Operand.const (Go.Value.int Go.IntKind.u32 0)) 25, type := 4, pos := "law.go:112", after := #[{ on := 17, ground := Go.Ground.data }, { on := 15, ground := Go.Ground.guard }], guard := some (15, false) }) (v := ?v18p19) rfl (by kernel_rfl) (by kernel_rfl) (by kernel_rfl) (fun _ _ _ h => h) (Or.inl ⟨by rfl, ?hy18p19⟩) hHeld ?rest18p19
                        case hy18p19 =>
                          intro W' hV
                          try dsimp only at hV
                          go_simp
                          all_goals with_reducible rfl
                        case' rest18p19 => try simp only [Act.put, List.setIfInBounds_toArray, List.set_cons_zero, List.set_cons_succ]
                        refine wpAnyH_take (i := 19) (oi := { dst := some 142, op := Go.Op.pick (Go.Operand.tmp 138) (Go.Operand.const (Go.Value.bool true)) (Go.Operand.tmp 141), type := 4, pos := "law.go:112", after := #[{ on := 15, ground := Go.Ground.data }, { on := 18, ground := Go.Ground.data }], guard := none }) (v := ?v19p20) rfl (by kernel_rfl) (by kernel_rfl) (by kernel_rfl) (fun _ _ _ h => h) (Or.inl ⟨by rfl, ?hy19p20⟩) hHeld ?rest19p20
                        case hy19p20 =>
                          intro W' hV
                          try dsimp only at hV
                          go_simp
                          all_goals with_reducible rfl
                        case' rest19p20 => try simp only [Act.put, List.setIfInBounds_toArray, List.set_cons_zero, List.set_cons_succ]
                        refine wpAnyH_take (i := 20) (oi := { dst := some 143, op := Go.Op.move (Go.Operand.tmp 142), type := 4, pos := "law.go:112", after := #[{ on := 19, ground := Go.Ground.data }, { on := 15, ground := Go.Ground.chain }], guard := none }) (v := ?v20p21) rfl (by kernel_rfl) (by kernel_rfl) (by kernel_rfl) (fun _ _ _ h => h) (Or.inl ⟨by rfl, ?hy20p21⟩) hHeld ?rest20p21
                        case hy20p21 =>
                          intro W' hV
                          try dsimp only at hV
                          go_simp
                          all_goals with_reducible rfl
                        case' rest20p21 => try simp only [Act.put, List.setIfInBounds_toArray, List.set_cons_zero, List.set_cons_succ]
                        refine wpAnyH_take (i := 21) (oi := { dst := some 144, op := Go.Op.load 35 (Go.Operand.tmp 15), type := 35, pos := "law.go:112", after := #[{ on := 20, ground := Go.Ground.guard }], guard := some (20, false) }) (v := .agg sN) rfl (by kernel_rfl) (by kernel_rfl) (by kernel_rfl) (fun _ _ _ h => h) (yields_loadAt (by rfl) 35 (.tmp 15) rfl (by rfl) (fun W h => hld15 W h)) hHeld ?rest21p22
                        case' rest21p22 => try simp only [Act.put, List.setIfInBounds_toArray, List.set_cons_zero, List.set_cons_succ]
                        refine wpAnyH_take (i := 23) (oi := { dst := some 146, op := Go.Op.fieldAddr 38 (Go.Operand.tmp 9) 0, type := 0, pos := "law.go:112", after := #[{ on := 20, ground := Go.Ground.guard }], guard := some (20, false) }) (v := ?v23p23) rfl (by kernel_rfl) (by kernel_rfl) (by kernel_rfl) (fun _ _ _ h => h) (Or.inl ⟨by rfl, ?hy23p23⟩) hHeld ?rest23p23
                        case hy23p23 =>
                          intro W' hV
                          try dsimp only at hV
                          go_simp
                          all_goals with_reducible rfl
                        case' rest23p23 => try simp only [Act.put, List.setIfInBounds_toArray, List.set_cons_zero, List.set_cons_succ]
                        refine wpAnyH_take (i := 24) (oi := { dst := some 147, op := Go.Op.load 35 (Go.Operand.tmp 146), type := 35, pos := "law.go:112", after := #[{ on := 23, ground := Go.Ground.data }, { on := 20, ground := Go.Ground.guard }], guard := some (20, false) }) (v := .agg sT) rfl (by kernel_rfl) (by kernel_rfl) (by kernel_rfl) (fun _ _ _ h => h) (yields_loadAt (by rfl) 35 (.tmp 146) rfl (by rfl) (fun W h => hld9 W h)) hHeld ?rest24p24
                        case' rest24p24 => try simp only [Act.put, List.setIfInBounds_toArray, List.set_cons_zero, List.set_cons_succ]
                        generalize V9.drew = v0 at hHeld ⊢
                        have HH0 := Lib.hid hHeld
                        refine wpAnyH_ready (rs := [22]) (by kernel_rfl) (by simp) ?_
                        refine AllReadyH.cons (o := { dst := some 145, op := Go.Op.call { callee := Go.Callee.value (Go.Operand.func 11), args := #[Go.Operand.tmp 144], argTypes := #[35] }, type := 36, pos := "law.go:112", after := #[{ on := 21, ground := Go.Ground.data }, { on := 20, ground := Go.Ground.chain }, { on := 20, ground := Go.Ground.guard }], guard := some (20, false) }) rfl (fun K' hK => ?_) AllReadyH.nil
                        rw [if_pos (by rfl)]
                        go_wp2_with (go_at_call 11; go_loud ((with_reducible refine (HIN1.out v0).mono ?_); rintro e v1 ⟨⟨a1, c1, rfl, hi1⟩, hb1⟩))
                        refine hK.out _ _ (bt HH0.out hb1) (fun hHeld1 => ?_)
                        clear hK K' hHeld
                        have hHeld := hHeld1
                        clear hHeld1
                        try simp only [Act.put, List.setIfInBounds_toArray, List.set_cons_zero, List.set_cons_succ]
                        have HH1 := Lib.hid hHeld
                        have HI1 := Lib.hid hi1
                        clear hi1 hb1
                        refine wpAnyH_ready (rs := [25]) (by kernel_rfl) (by simp) ?_
                        refine AllReadyH.cons (o := { dst := some 148, op := Go.Op.call { callee := Go.Callee.value (Go.Operand.func 11), args := #[Go.Operand.tmp 147], argTypes := #[35] }, type := 36, pos := "law.go:112", after := #[{ on := 24, ground := Go.Ground.data }, { on := 22, ground := Go.Ground.chain }, { on := 20, ground := Go.Ground.guard }], guard := some (20, false) }) rfl (fun K' hK => ?_) AllReadyH.nil
                        rw [if_pos (by rfl)]
                        go_wp2_with (go_at_call 11; go_loud ((with_reducible refine (HIN2.out v1).mono ?_); rintro e v2 ⟨⟨a2, c2, rfl, hi2⟩, hb2⟩))
                        refine hK.out _ _ (bt HH1.out hb2) (fun hHeld1 => ?_)
                        clear hK K' hHeld
                        have hHeld := hHeld1
                        clear hHeld1
                        try simp only [Act.put, List.setIfInBounds_toArray, List.set_cons_zero, List.set_cons_succ]
                        have HH2 := Lib.hid hHeld
                        have HI2 := Lib.hid hi2
                        have HI12 := Lib.hid (HI1.out.on hb2)
                        clear hi2 hb2
                        refine wpAnyH_ready (rs := [26]) (by kernel_rfl) (by simp) ?_
                        refine AllReadyH.cons (o := { dst := some 149, op := Go.Op.call { callee := Go.Callee.value (Go.Operand.func 10), args := #[Go.Operand.tmp 145, Go.Operand.tmp 148], argTypes := #[36, 36] }, type := 4, pos := "law.go:112", after := #[{ on := 22, ground := Go.Ground.data }, { on := 25, ground := Go.Ground.data }, { on := 25, ground := Go.Ground.chain }, { on := 20, ground := Go.Ground.guard }], guard := some (20, false) }) rfl (fun K' hK => ?_) AllReadyH.nil
                        rw [if_pos (by rfl)]
                        go_wp2_with (go_at_call 10; go_loud ((with_reducible refine (HSAME.out v2 a1 a2 LT c1 c2 T.L HI12.out HI2.out).mono ?_); rintro e v3 ⟨rfl, hb3⟩))
                        refine hK.out _ _ (bt HH2.out hb3) (fun hHeld1 => ?_)
                        clear hK K' hHeld
                        have hHeld := hHeld1
                        clear hHeld1
                        try simp only [Act.put, List.setIfInBounds_toArray, List.set_cons_zero, List.set_cons_succ]
                        have HH3 := Lib.hid hHeld
                        clear hb3
                        as_aux_lemma =>
                          refine wpAnyH_take (i := 27) (oi := { dst := some 150, op := Go.Op.unOp Go.UnOp.not 4 (Go.Operand.tmp 149), type := 4, pos := "law.go:112", after := #[{ on := 26, ground := Go.Ground.data }, { on := 20, ground := Go.Ground.guard }], guard := some (20, false) }) (v := ?v27p25) rfl (by kernel_rfl) (by kernel_rfl) (by kernel_rfl) (fun _ _ _ h => h) (Or.inl ⟨by rfl, ?hy27p25⟩) hHeld ?rest27p25
                          case hy27p25 =>
                            intro W' hV
                            try dsimp only at hV
                            go_simp
                            all_goals with_reducible rfl
                          case' rest27p25 => try simp only [Act.put, List.setIfInBounds_toArray, List.set_cons_zero, List.set_cons_succ]
                          refine wpAnyH_take (i := 28) (oi := { dst := some 151, op := Go.Op.pick (Go.Operand.tmp 143) (Go.Operand.const (Go.Value.bool true)) (Go.Operand.tmp 150), type := 4, pos := "law.go:112", after := #[{ on := 20, ground := Go.Ground.data }, { on := 27, ground := Go.Ground.data }], guard := none }) (v := ?v28p26) rfl (by kernel_rfl) (by kernel_rfl) (by kernel_rfl) (fun _ _ _ h => h) (Or.inl ⟨by rfl, ?hy28p26⟩) hHeld ?rest28p26
                          case hy28p26 =>
                            intro W' hV
                            try dsimp only at hV
                            go_simp
                            all_goals with_reducible rfl
                          case' rest28p26 => try simp only [Act.put, List.setIfInBounds_toArray, List.set_cons_zero, List.set_cons_succ]
                          refine wpAnyH_take (i := 29) (oi := { dst := some 152, op := Go.Op.move (Go.Operand.tmp 151), type := 4, pos := "law.go:112", after := #[{ on := 28, ground := Go.Ground.data }, { on := 26, ground := Go.Ground.chain }], guard := none }) (v := ?v29p27) rfl (by kernel_rfl) (by kernel_rfl) (by kernel_rfl) (fun _ _ _ h => h) (Or.inl ⟨by rfl, ?hy29p27⟩) hHeld ?rest29p27
                          case hy29p27 =>
                            intro W' hV
                            try dsimp only at hV
                            go_simp
                            all_goals with_reducible rfl
                          case' rest29p27 => try simp only [Act.put, List.setIfInBounds_toArray, List.set_cons_zero, List.set_cons_succ]
                          refine wpAnyH_take (i := 30) (oi := { dst := some 153, op := Go.Op.fieldAddr 35 (Go.Operand.tmp 17) 7, type := 0, pos := "law.go:112", after := #[{ on := 29, ground := Go.Ground.guard }], guard := some (29, false) }) (v := ?v30p28) rfl (by kernel_rfl) (by kernel_rfl) (by kernel_rfl) (fun _ _ _ h => h) (Or.inl ⟨by rfl, ?hy30p28⟩) hHeld ?rest30p28
                          case hy30p28 =>
                            intro W' hV
                            try dsimp only at hV
                            go_simp
                            all_goals with_reducible rfl
                          case' rest30p28 => try simp only [Act.put, List.setIfInBounds_toArray, List.set_cons_zero, List.set_cons_succ]
                          refine wpAnyH_take (i := 31) (oi := { dst := some 154, op := Go.Op.load 25 (Go.Operand.tmp 153), type := 25, pos := "law.go:112", after := #[{ on := 30, ground := Go.Ground.data }, { on := 29, ground := Go.Ground.guard }], guard := some (29, false) }) (v := ?v31p29) rfl (by kernel_rfl) (by kernel_rfl) (by kernel_rfl) (fun _ _ _ h => h) (Or.inl ⟨by rfl, ?hy31p29⟩) hHeld ?rest31p29
                          case hy31p29 =>
                            intro W' hV
                            try dsimp only at hV
                            go_simp
                            all_goals with_reducible rfl
                          case' rest31p29 => try simp only [Act.put, List.setIfInBounds_toArray, List.set_cons_zero, List.set_cons_succ]
                          refine wpAnyH_take (i := 32) (oi := { dst := some 155, op := Go.Op.fieldAddr 35 (Go.Operand.tmp 15) 7, type := 0, pos := "law.go:112", after := #[{ on := 29, ground := Go.Ground.guard }], guard := some (29, false) }) (v := ?v32p30) rfl (by kernel_rfl) (by kernel_rfl) (by kernel_rfl) (fun _ _ _ h => h) (Or.inl ⟨by rfl, ?hy32p30⟩) hHeld ?rest32p30
                          case hy32p30 =>
                            intro W' hV
                            try dsimp only at hV
                            go_simp
                            all_goals with_reducible rfl
                          case' rest32p30 => try simp only [Act.put, List.setIfInBounds_toArray, List.set_cons_zero, List.set_cons_succ]
                          refine wpAnyH_take (i := 33) (oi := { dst := some 156, op := Go.Op.load 25 (Go.Operand.tmp 155), type := 25, pos := "law.go:112", after := #[{ on := 32, ground := Go.Ground.data }, { on := 29, ground := Go.Ground.guard }], guard := some (29, false) }) (v := ?v33p31) rfl (by kernel_rfl) (by kernel_rfl) (by kernel_rfl) (fun _ _ _ h => h) (Or.inl ⟨by rfl, ?hy33p31⟩) hHeld ?rest33p31
                          case hy33p31 =>
                            intro W' hV
                            try dsimp only at hV
                            go_simp
                            all_goals with_reducible rfl
                          case' rest33p31 => try simp only [Act.put, List.setIfInBounds_toArray, List.set_cons_zero, List.set_cons_succ]
                          refine wpAnyH_take (i := 34) (oi := { dst := some 157, op := Go.Op.binOp Go.BinOp.neq 25 (Go.Operand.tmp 154) (Go.Operand.tmp 156) 25, type := 4, pos := "law.go:112", after := #[{ on := 31, ground := Go.Ground.data }, { on := 33, ground := Go.Ground.data }, { on := 29, ground := Go.Ground.guard }], guard := some (29, false) }) (v := ?v34p32) rfl (by kernel_rfl) (by kernel_rfl) (by kernel_rfl) (fun _ _ _ h => h) (Or.inl ⟨by rfl, ?hy34p32⟩) hHeld ?rest34p32
                          case hy34p32 =>
                            intro W' hV
                            try dsimp only at hV
                            go_simp
                            all_goals with_reducible rfl
                          case' rest34p32 => try simp only [Act.put, List.setIfInBounds_toArray, List.set_cons_zero, List.set_cons_succ]
                          refine wpAnyH_take (i := 35) (oi := { dst := some 158, op := Go.Op.pick (Go.Operand.tmp 152) (Go.Operand.const (Go.Value.bool true)) (Go.Operand.tmp 157), type := 4, pos := "law.go:112", after := #[{ on := 29, ground := Go.Ground.data }, { on := 34, ground := Go.Ground.data }], guard := none }) (v := ?v35p33) rfl (by kernel_rfl) (by kernel_rfl) (by kernel_rfl) (fun _ _ _ h => h) (Or.inl ⟨by rfl, ?hy35p33⟩) hHeld ?rest35p33
                          case hy35p33 =>
                            intro W' hV
                            try dsimp only at hV
                            go_simp
                            all_goals with_reducible rfl
                          case' rest35p33 => try simp only [Act.put, List.setIfInBounds_toArray, List.set_cons_zero, List.set_cons_succ]
                          refine wpAnyH_take (i := 36) (oi := { dst := some 159, op := Go.Op.move (Go.Operand.tmp 158), type := 4, pos := "law.go:112", after := #[{ on := 35, ground := Go.Ground.data }, { on := 29, ground := Go.Ground.chain }], guard := none }) (v := ?v36p34) rfl (by kernel_rfl) (by kernel_rfl) (by kernel_rfl) (fun _ _ _ h => h) (Or.inl ⟨by rfl, ?hy36p34⟩) hHeld ?rest36p34
                          case hy36p34 =>
                            intro W' hV
                            try dsimp only at hV
                            go_simp
                            all_goals with_reducible rfl
                          case' rest36p34 => try simp only [Act.put, List.setIfInBounds_toArray, List.set_cons_zero, List.set_cons_succ]
                          refine wpAnyH_take (i := 37) (oi := { dst := some 160, op := Go.Op.fieldAddr 35 (Go.Operand.tmp 17) 8, type := 0, pos := "law.go:112", after := #[{ on := 36, ground := Go.Ground.guard }], guard := some (36, false) }) (v := ?v37p35) rfl (by kernel_rfl) (by kernel_rfl) (by kernel_rfl) (fun _ _ _ h => h) (Or.inl ⟨by rfl, ?hy37p35⟩) hHeld ?rest37p35
                          case hy37p35 =>
                            intro W' hV
                            try dsimp only at hV
                            go_simp
                            all_goals with_reducible rfl
                          case' rest37p35 => try simp only [Act.put, List.setIfInBounds_toArray, List.set_cons_zero, List.set_cons_succ]
                          refine wpAnyH_take (i := 38) (oi := { dst := some 161, op := Go.Op.load 25 (Go.Operand.tmp 160), type := 25, pos := "law.go:112", after := #[{ on := 37, ground := Go.Ground.data }, { on := 36, ground := Go.Ground.guard }], guard := some (36, false) }) (v := ?v38p36) rfl (by kernel_rfl) (by kernel_rfl) (by kernel_rfl) (fun _ _ _ h => h) (Or.inl ⟨by rfl, ?hy38p36⟩) hHeld ?rest38p36
                          case hy38p36 =>
                            intro W' hV
                            try dsimp only at hV
                            go_simp
                            all_goals with_reducible rfl
                          case' rest38p36 => try simp only [Act.put, List.setIfInBounds_toArray, List.set_cons_zero, List.set_cons_succ]
                          refine wpAnyH_take (i := 39) (oi := { dst := some 162, op := Go.Op.binOp Go.BinOp.neq 25 (Go.Operand.tmp 161) (Go.Operand.const (Go.Value.int Go.IntKind.u32 1)) 25, type := 4, pos := "law.go:112", after := #[{ on := 38, ground := Go.Ground.data }, { on := 36, ground := Go.Ground.guard }], guard := some (36, false) }) (v := ?v39p37) rfl (by kernel_rfl) (by kernel_rfl) (by kernel_rfl) (fun _ _ _ h => h) (Or.inl ⟨by rfl, ?hy39p37⟩) hHeld ?rest39p37
                          case hy39p37 =>
                            intro W' hV
                            try dsimp only at hV
                            go_simp
                            all_goals with_reducible rfl
                          case' rest39p37 => try simp only [Act.put, List.setIfInBounds_toArray, List.set_cons_zero, List.set_cons_succ]
                          refine wpAnyH_take (i := 40) (oi := { dst := some 163, op := Go.Op.pick (Go.Operand.tmp 159) (Go.Operand.const (Go.Value.bool true)) (Go.Operand.tmp 162), type := 4, pos := "law.go:112", after := #[{ on := 36, ground := Go.Ground.data }, { on := 39, ground := Go.Ground.data }], guard := none }) (v := ?v40p38) rfl (by kernel_rfl) (by kernel_rfl) (by kernel_rfl) (fun _ _ _ h => h) (Or.inl ⟨by rfl, ?hy40p38⟩) hHeld ?rest40p38
                          case hy40p38 =>
                            intro W' hV
                            try dsimp only at hV
                            go_simp
                            all_goals with_reducible rfl
                          case' rest40p38 => try simp only [Act.put, List.setIfInBounds_toArray, List.set_cons_zero, List.set_cons_succ]
                          refine wpAnyH_take (i := 41) (oi := { dst := some 164, op := Go.Op.move (Go.Operand.tmp 163), type := 4, pos := "law.go:112", after := #[{ on := 40, ground := Go.Ground.data }, { on := 36, ground := Go.Ground.chain }], guard := none }) (v := ?v41p39) rfl (by kernel_rfl) (by kernel_rfl) (by kernel_rfl) (fun _ _ _ h => h) (Or.inl ⟨by rfl, ?hy41p39⟩) hHeld ?rest41p39
                          case hy41p39 =>
                            intro W' hV
                            try dsimp only at hV
                            go_simp
                            all_goals with_reducible rfl
                          case' rest41p39 => try simp only [Act.put, List.setIfInBounds_toArray, List.set_cons_zero, List.set_cons_succ]
                          refine wpAnyH_take (i := 42) (oi := { dst := some 165, op := Go.Op.load 35 (Go.Operand.tmp 17), type := 35, pos := "law.go:112", after := #[{ on := 41, ground := Go.Ground.guard }], guard := some (41, false) }) (v := .agg sD) rfl (by kernel_rfl) (by kernel_rfl) (by kernel_rfl) (fun _ _ _ h => h) (yields_loadAt (by rfl) 35 (.tmp 17) rfl (by rfl) (fun W h => hld17 W h)) hHeld ?rest42p40
                          case' rest42p40 => try simp only [Act.put, List.setIfInBounds_toArray, List.set_cons_zero, List.set_cons_succ]
                          refine wpAnyH_take (i := 44) (oi := { dst := some 167, op := Go.Op.fieldAddr 38 (Go.Operand.tmp 9) 1, type := 0, pos := "law.go:112", after := #[{ on := 41, ground := Go.Ground.guard }], guard := some (41, false) }) (v := ?v44p41) rfl (by kernel_rfl) (by kernel_rfl) (by kernel_rfl) (fun _ _ _ h => h) (Or.inl ⟨by rfl, ?hy44p41⟩) hHeld ?rest44p41
                          case hy44p41 =>
                            intro W' hV
                            try dsimp only at hV
                            go_simp
                            all_goals with_reducible rfl
                          case' rest44p41 => try simp only [Act.put, List.setIfInBounds_toArray, List.set_cons_zero, List.set_cons_succ]
                          refine wpAnyH_take (i := 45) (oi := { dst := some 168, op := Go.Op.load 36 (Go.Operand.tmp 167), type := 36, pos := "law.go:112", after := #[{ on := 44, ground := Go.Ground.data }, { on := 41, ground := Go.Ground.guard }], guard := some (41, false) }) (v := ?v45p42) rfl (by kernel_rfl) (by kernel_rfl) (by kernel_rfl) (fun _ _ _ h => h) (Or.inl ⟨by rfl, ?hy45p42⟩) hHeld ?rest45p42
                          case hy45p42 =>
                            intro W' hV
                            try dsimp only at hV
                            go_simp
                            all_goals with_reducible rfl
                          case' rest45p42 => try simp only [Act.put, List.setIfInBounds_toArray, List.set_cons_zero, List.set_cons_succ]
                          refine wpAnyH_ready (rs := [43]) (by kernel_rfl) (by simp) ?_
                          refine AllReadyH.cons (o := { dst := some 166, op := Go.Op.call { callee := Go.Callee.value (Go.Operand.func 11), args := #[Go.Operand.tmp 165], argTypes := #[35] }, type := 36, pos := "law.go:112", after := #[{ on := 42, ground := Go.Ground.data }, { on := 41, ground := Go.Ground.chain }, { on := 41, ground := Go.Ground.guard }], guard := some (41, false) }) rfl (fun K' hK => ?_) AllReadyH.nil
                          rw [if_pos (by rfl)]
                          go_wp2_with (go_at_call 11; go_loud ((with_reducible refine (HIN3.out v3).mono ?_); rintro e v4 ⟨⟨a4, c4, rfl, hi4⟩, hb4⟩))
                          refine hK.out _ _ (bt HH3.out hb4) (fun hHeld1 => ?_)
                          clear hK K' hHeld
                          have hHeld := hHeld1
                          clear hHeld1
                          try simp only [Act.put, List.setIfInBounds_toArray, List.set_cons_zero, List.set_cons_succ]
                          have HH4 := Lib.hid hHeld
                          have HI4 := Lib.hid hi4
                          have HIC := Lib.hid (HIV.out.on (bt HB9.out HH4.out))
                          clear hi4 hb4
                          as_aux_lemma =>
                            refine wpAnyH_ready (rs := [46]) (by kernel_rfl) (by simp) ?_
                            refine AllReadyH.cons (o := { dst := some 169, op := Go.Op.call { callee := Go.Callee.value (Go.Operand.func 10), args := #[Go.Operand.tmp 166, Go.Operand.tmp 168], argTypes := #[36, 36] }, type := 4, pos := "law.go:112", after := #[{ on := 43, ground := Go.Ground.data }, { on := 45, ground := Go.Ground.data }, { on := 43, ground := Go.Ground.chain }, { on := 41, ground := Go.Ground.guard }], guard := some (41, false) }) rfl (fun K' hK => ?_) AllReadyH.nil
                            rw [if_pos (by rfl)]
                            go_wp2_with (go_at_call 10; go_loud ((with_reducible refine (HSAME.out v4 a4 ao i c4 co CU HI4.out HIC.out).mono ?_); rintro e v5 ⟨rfl, hb5⟩))
                            refine hK.out _ _ (bt HH4.out hb5) (fun hHeld1 => ?_)
                            clear hK K' hHeld
                            have hHeld := hHeld1
                            clear hHeld1
                            try simp only [Act.put, List.setIfInBounds_toArray, List.set_cons_zero, List.set_cons_succ]
                            have HH5 := Lib.hid hHeld
                            clear hb5
                            refine wpAnyH_take (i := 47) (oi := { dst := some 170, op := Go.Op.unOp Go.UnOp.not 4 (Go.Operand.tmp 169), type := 4, pos := "law.go:112", after := #[{ on := 46, ground := Go.Ground.data }, { on := 41, ground := Go.Ground.guard }], guard := some (41, false) }) (v := ?v47p43) rfl (by kernel_rfl) (by kernel_rfl) (by kernel_rfl) (fun _ _ _ h => h) (Or.inl ⟨by rfl, ?hy47p43⟩) hHeld ?rest47p43
                            case hy47p43 =>
                              intro W' hV
                              try dsimp only at hV
                              go_simp
                              all_goals with_reducible rfl
                            case' rest47p43 => try simp only [Act.put, List.setIfInBounds_toArray, List.set_cons_zero, List.set_cons_succ]
                            refine wpAnyH_take (i := 48) (oi := { dst := some 171, op := Go.Op.pick (Go.Operand.tmp 164) (Go.Operand.const (Go.Value.bool true)) (Go.Operand.tmp 170), type := 4, pos := "law.go:112", after := #[{ on := 41, ground := Go.Ground.data }, { on := 47, ground := Go.Ground.data }], guard := none }) (v := ?v48p44) rfl (by kernel_rfl) (by kernel_rfl) (by kernel_rfl) (fun _ _ _ h => h) (Or.inl ⟨by rfl, ?hy48p44⟩) hHeld ?rest48p44
                            case hy48p44 =>
                              intro W' hV
                              try dsimp only at hV
                              go_simp
                              all_goals with_reducible rfl
                            case' rest48p44 => try simp only [Act.put, List.setIfInBounds_toArray, List.set_cons_zero, List.set_cons_succ]
                            refine wpAnyH_take (i := 49) (oi := { dst := some 172, op := Go.Op.move (Go.Operand.tmp 171), type := 4, pos := "law.go:112", after := #[{ on := 48, ground := Go.Ground.data }, { on := 46, ground := Go.Ground.chain }], guard := none }) (v := ?v49p45) rfl (by kernel_rfl) (by kernel_rfl) (by kernel_rfl) (fun _ _ _ h => h) (Or.inl ⟨by rfl, ?hy49p45⟩) hHeld ?rest49p45
                            case hy49p45 =>
                              intro W' hV
                              try dsimp only at hV
                              go_simp
                              all_goals with_reducible rfl
                            case' rest49p45 => try simp only [Act.put, List.setIfInBounds_toArray, List.set_cons_zero, List.set_cons_succ]
                            refine wpAnyH_take (i := 50) (oi := { dst := some 173, op := Go.Op.load 35 (Go.Operand.tmp 17), type := 35, pos := "law.go:112", after := #[{ on := 49, ground := Go.Ground.guard }], guard := some (49, false) }) (v := .agg sD) rfl (by kernel_rfl) (by kernel_rfl) (by kernel_rfl) (fun _ _ _ h => h) (yields_loadAt (by rfl) 35 (.tmp 17) rfl (by rfl) (fun W h => hld17 W h)) hHeld ?rest50p46
                            case' rest50p46 => try simp only [Act.put, List.setIfInBounds_toArray, List.set_cons_zero, List.set_cons_succ]
                            refine wpAnyH_ready (rs := [51]) (by kernel_rfl) (by simp) ?_
                            refine AllReadyH.cons (o := { dst := some 174, op := Go.Op.call { callee := Go.Callee.value (Go.Operand.func 12), args := #[Go.Operand.tmp 173], argTypes := #[35] }, type := 39, pos := "law.go:112", after := #[{ on := 50, ground := Go.Ground.data }, { on := 49, ground := Go.Ground.chain }, { on := 49, ground := Go.Ground.guard }], guard := some (49, false) }) rfl (fun K' hK => ?_) AllReadyH.nil
                            rw [if_pos (by rfl)]
                            go_wp2_with (go_at_call 12; go_loud ((with_reducible refine (HEN.out v5).mono ?_); rintro e v6 ⟨rfl, hb6⟩))
                            refine hK.out _ _ (bt HH5.out hb6) (fun hHeld1 => ?_)
                            clear hK K' hHeld
                            have hHeld := hHeld1
                            clear hHeld1
                            try simp only [Act.put, List.setIfInBounds_toArray, List.set_cons_zero, List.set_cons_succ]
                            have HH6 := Lib.hid hHeld
                            clear hb6
                            refine wpAnyH_take (i := 52) (oi := { dst := some 175, op := Go.Op.binOp Go.BinOp.neq 39 (Go.Operand.tmp 174) (Go.Operand.const (Go.Value.int Go.IntKind.i64 0)) 39, type := 4, pos := "law.go:112", after := #[{ on := 51, ground := Go.Ground.data }, { on := 49, ground := Go.Ground.guard }], guard := some (49, false) }) (v := ?v52p47) rfl (by kernel_rfl) (by kernel_rfl) (by kernel_rfl) (fun _ _ _ h => h) (Or.inl ⟨by rfl, ?hy52p47⟩) hHeld ?rest52p47
                            case hy52p47 =>
                              intro W' hV
                              try dsimp only at hV
                              go_simp
                              all_goals with_reducible rfl
                            case' rest52p47 => try simp only [Act.put, List.setIfInBounds_toArray, List.set_cons_zero, List.set_cons_succ]
                            refine wpAnyH_take (i := 53) (oi := { dst := some 176, op := Go.Op.pick (Go.Operand.tmp 172) (Go.Operand.const (Go.Value.bool true)) (Go.Operand.tmp 175), type := 4, pos := "law.go:112", after := #[{ on := 49, ground := Go.Ground.data }, { on := 52, ground := Go.Ground.data }], guard := none }) (v := ?v53p48) rfl (by kernel_rfl) (by kernel_rfl) (by kernel_rfl) (fun _ _ _ h => h) (Or.inl ⟨by rfl, ?hy53p48⟩) hHeld ?rest53p48
                            case hy53p48 =>
                              intro W' hV
                              try dsimp only at hV
                              go_simp
                              all_goals with_reducible rfl
                            case' rest53p48 => try simp only [Act.put, List.setIfInBounds_toArray, List.set_cons_zero, List.set_cons_succ]
                            refine wpAnyH_take (i := 54) (oi := { dst := some 177, op := Go.Op.move (Go.Operand.tmp 176), type := 4, pos := "law.go:112", after := #[{ on := 53, ground := Go.Ground.data }, { on := 51, ground := Go.Ground.chain }], guard := none }) (v := ?v54p49) rfl (by kernel_rfl) (by kernel_rfl) (by kernel_rfl) (fun _ _ _ h => h) (Or.inl ⟨by rfl, ?hy54p49⟩) hHeld ?rest54p49
                            case hy54p49 =>
                              intro W' hV
                              try dsimp only at hV
                              go_simp
                              all_goals with_reducible rfl
                            case' rest54p49 => try simp only [Act.put, List.setIfInBounds_toArray, List.set_cons_zero, List.set_cons_succ]
                            refine wpAnyH_take (i := 55) (oi := { dst := some 178, op := Go.Op.fieldAddr 35 (Go.Operand.tmp 15) 1, type := 0, pos := "law.go:112", after := #[{ on := 54, ground := Go.Ground.guard }], guard := some (54, false) }) (v := ?v55p50) rfl (by kernel_rfl) (by kernel_rfl) (by kernel_rfl) (fun _ _ _ h => h) (Or.inl ⟨by rfl, ?hy55p50⟩) hHeld ?rest55p50
                            case hy55p50 =>
                              intro W' hV
                              try dsimp only at hV
                              go_simp
                              all_goals with_reducible rfl
                            case' rest55p50 => try simp only [Act.put, List.setIfInBounds_toArray, List.set_cons_zero, List.set_cons_succ]
                            refine wpAnyH_take (i := 56) (oi := { dst := some 179, op := Go.Op.load 5 (Go.Operand.tmp 178), type := 5, pos := "law.go:112", after := #[{ on := 55, ground := Go.Ground.data }, { on := 54, ground := Go.Ground.guard }], guard := some (54, false) }) (v := ?v56p51) rfl (by kernel_rfl) (by kernel_rfl) (by kernel_rfl) (fun _ _ _ h => h) (Or.inl ⟨by rfl, ?hy56p51⟩) hHeld ?rest56p51
                            case hy56p51 =>
                              intro W' hV
                              try dsimp only at hV
                              go_simp
                              all_goals with_reducible rfl
                            case' rest56p51 => try simp only [Act.put, List.setIfInBounds_toArray, List.set_cons_zero, List.set_cons_succ]
                            refine wpAnyH_take (i := 57) (oi := { dst := some 180, op := Go.Op.fieldAddr 38 (Go.Operand.tmp 9) 0, type := 0, pos := "law.go:112", after := #[{ on := 54, ground := Go.Ground.guard }], guard := some (54, false) }) (v := ?v57p52) rfl (by kernel_rfl) (by kernel_rfl) (by kernel_rfl) (fun _ _ _ h => h) (Or.inl ⟨by rfl, ?hy57p52⟩) hHeld ?rest57p52
                            case hy57p52 =>
                              intro W' hV
                              try dsimp only at hV
                              go_simp
                              all_goals with_reducible rfl
                            case' rest57p52 => try simp only [Act.put, List.setIfInBounds_toArray, List.set_cons_zero, List.set_cons_succ]
                            refine wpAnyH_take (i := 58) (oi := { dst := some 181, op := Go.Op.fieldAddr 35 (Go.Operand.tmp 180) 1, type := 0, pos := "law.go:112", after := #[{ on := 57, ground := Go.Ground.data }, { on := 54, ground := Go.Ground.guard }], guard := some (54, false) }) (v := ?v58p53) rfl (by kernel_rfl) (by kernel_rfl) (by kernel_rfl) (fun _ _ _ h => h) (Or.inl ⟨by rfl, ?hy58p53⟩) hHeld ?rest58p53
                            case hy58p53 =>
                              intro W' hV
                              try dsimp only at hV
                              go_simp
                              all_goals with_reducible rfl
                            case' rest58p53 => try simp only [Act.put, List.setIfInBounds_toArray, List.set_cons_zero, List.set_cons_succ]
                            refine wpAnyH_take (i := 59) (oi := { dst := some 182, op := Go.Op.load 5 (Go.Operand.tmp 181), type := 5, pos := "law.go:112", after := #[{ on := 58, ground := Go.Ground.data }, { on := 54, ground := Go.Ground.guard }], guard := some (54, false) }) (v := ?v59p54) rfl (by kernel_rfl) (by kernel_rfl) (by kernel_rfl) (fun _ _ _ h => h) (Or.inl ⟨by rfl, ?hy59p54⟩) hHeld ?rest59p54
                            case hy59p54 =>
                              intro W' hV
                              try dsimp only at hV
                              go_simp
                              all_goals with_reducible rfl
                            case' rest59p54 => try simp only [Act.put, List.setIfInBounds_toArray, List.set_cons_zero, List.set_cons_succ]
                            refine wpAnyH_take (i := 60) (oi := { dst := some 183, op := Go.Op.binOp Go.BinOp.neq 5 (Go.Operand.tmp 179) (Go.Operand.tmp 182) 5, type := 4, pos := "law.go:112", after := #[{ on := 56, ground := Go.Ground.data }, { on := 59, ground := Go.Ground.data }, { on := 54, ground := Go.Ground.guard }], guard := some (54, false) }) (v := ?v60p55) rfl (by kernel_rfl) (by kernel_rfl) (by kernel_rfl) (fun _ _ _ h => h) (Or.inl ⟨by rfl, ?hy60p55⟩) hHeld ?rest60p55
                            case hy60p55 =>
                              intro W' hV
                              try dsimp only at hV
                              go_simp
                              all_goals with_reducible rfl
                            case' rest60p55 => try simp only [Act.put, List.setIfInBounds_toArray, List.set_cons_zero, List.set_cons_succ]
                            refine wpAnyH_take (i := 61) (oi := { dst := some 184, op := Go.Op.pick (Go.Operand.tmp 177) (Go.Operand.const (Go.Value.bool true)) (Go.Operand.tmp 183), type := 4, pos := "law.go:112", after := #[{ on := 54, ground := Go.Ground.data }, { on := 60, ground := Go.Ground.data }], guard := none }) (v := ?v61p56) rfl (by kernel_rfl) (by kernel_rfl) (by kernel_rfl) (fun _ _ _ h => h) (Or.inl ⟨by rfl, ?hy61p56⟩) hHeld ?rest61p56
                            case hy61p56 =>
                              intro W' hV
                              try dsimp only at hV
                              go_simp
                              all_goals with_reducible rfl
                            case' rest61p56 => try simp only [Act.put, List.setIfInBounds_toArray, List.set_cons_zero, List.set_cons_succ]
                            refine wpAnyH_done (by kernel_rfl) ?_ _
                            clear hHeld
                            clear n14 n15 n8 d14 d15 z14 z8 z276 hld15 hld9 hld17
                            go_wp2
                            go_meet
                            exact Lib.hid (bt HB9.out HH6.out)
                  case rest =>
                    as_aux_lemma =>
                      have HBC := Lib.hid hcut.out
                      rename World => V8a
                      clear hcut HB9 HP19 HP2 HND1 HND2 HSN HDN HNE HDE HNA HDA HB8 HL1 HR8 HNX HCLS HRI HBI HBJ hld9
                      have HCC := Lib.hid (HCB.out.on HBC.out)
                      have HRC := Lib.hid (show V8a.heap[q]? = some (.cells sC 38 (0, 0)) by have h := HCC.out; unfold CrB Blk at h; rw [← HSD.out] at h; exact h)
                      have hCA : crA T (.slice ao i co) = .agg sC := by rw [HSD.out]; rfl
                      obtain ⟨Rw, hRw⟩ : ∃ R, R = movR T pl false 16 := ⟨_, rfl⟩
                      obtain ⟨Rx, hRx⟩ : ∃ R, R = movR T pl true 6 := ⟨_, rfl⟩
                      obtain ⟨sW, hsW⟩ : ∃ s, s = tabV 276 (suV Rw.1) := ⟨_, rfl⟩
                      obtain ⟨sX, hsX⟩ : ∃ s, s = tabV 276 (suV Rx.1) := ⟨_, rfl⟩
                      obtain ⟨gw, hgw⟩ : ∃ g, g = Rw.2 := ⟨_, rfl⟩
                      obtain ⟨gx, hgx⟩ : ∃ g, g = Rx.2 := ⟨_, rfl⟩
                      have HWO := Lib.hid (show ∀ W, Calls Try.prog 13 #[.agg sC, .int .i64 pl] W fun e w' => e = .returned (.tuple #[.agg sW, .int .i64 gw]) ∧ Below W.heap.size W w' from fun W => by
                        have h := without_any T HTW.out ao i co pl W
                        rw [hCA, ← hRw, ← hgw] at h
                        unfold suA at h
                        rw [← hsW] at h
                        exact h)
                      have HWI := Lib.hid (show ∀ W, Calls Try.prog 14 #[.agg sC, .int .i64 pl] W fun e w' => e = .returned (.tuple #[.agg sX, .int .i64 gx]) ∧ Below W.heap.size W w' from fun W => by
                        have h := with_any T HTW.out ao i co pl W
                        rw [hCA, ← hRx, ← hgx] at h
                        unfold suA at h
                        rw [← hsX] at h
                        exact h)
                      have HSW := Lib.hid (show sW.size = 276 ∧ sW.all (·.oneCell') = true by rw [hsW]; exact ⟨size_tabV _ _, tabV_one (suV_one _)⟩)
                      have HSX := Lib.hid (show sX.size = 276 ∧ sX.all (·.oneCell') = true by rw [hsX]; exact ⟨size_tabV _ _, tabV_one (suV_one _)⟩)
                      have HWE := Lib.hid hsW
                      have HXE := Lib.hid hsX
                      have HRW := Lib.hid hRw
                      have HRX := Lib.hid hRx
                      have HGW := Lib.hid hgw
                      have HGX := Lib.hid hgx
                      clear hCA hRw hRx hsW hsX hgw hgx
                      go_upto_region 33 with (first
                        | ((with_reducible show wpList _ _ _ (⟨some 186, _, _, _, _, _⟩ :: _) _ _); go_loud (refine wpList_load_row rfl 38 (.tmp 9) rfl q rfl 38 sC (0, 0) _ HRC.out Try.underlying38 rfl (by rw [HSCZ.out]; exact sizeCr) ?_))
                        | (go_at_call 13; go_loud ((with_reducible refine (HWO.out _).mono ?_); rintro e x1 ⟨rfl, hb⟩; have HX1 := Lib.hid hb; clear hb))
                        | ((with_reducible show wpList _ _ _ (⟨none, Op.store 35 _ _, _, _, _, _⟩ :: _) _ _); go_loud (refine wpList_store_row rfl 35 (.tmp 19) (.tmp 189) rfl x1.heap.size sW rfl rfl 35 c0 (heap_alloc_new _ _) (by rw [HSW.out.1]; exact sizeSu) (by rw [HSW.out.1, HC0.out]) HSW.out.2 ?_; rw [alloc_setRow])))
                      obtain ⟨pw, hpw⟩ : ∃ p, p = x1.heap.size := ⟨_, rfl⟩
                      have HPW := Lib.hid (show SuB (x1.alloc (.cells sW 35)) pw Rw.1 by unfold SuB Blk; rw [← HWE.out, hpw]; exact heap_alloc_new x1 _)
                      have HB2 := Lib.hid (show Below V8a.heap.size V8a (x1.alloc (.cells sW 35)) from HX1.out.alloc HX1.out.size _)
                      rw [← hpw]
                      clear hpw HX1
                      generalize x1.alloc (.cells sW 35) = V2b at HPW HB2 ⊢
                      have HRC2 := Lib.hid ((HB2.out.block q HCC.out.lt).trans HRC.out)
                      go_upto_region 34 with (first
                        | ((with_reducible show wpList _ _ _ (⟨some 192, _, _, _, _, _⟩ :: _) _ _); go_loud (refine wpList_load_row rfl 38 (.tmp 9) rfl q rfl 38 sC (0, 0) _ HRC2.out Try.underlying38 rfl (by rw [HSCZ.out]; exact sizeCr) ?_))
                        | (go_at_call 14; go_loud ((with_reducible refine (HWI.out _).mono ?_); rintro e x2 ⟨rfl, hb⟩; have HX2 := Lib.hid hb; clear hb))
                        | ((with_reducible show wpList _ _ _ (⟨none, Op.store 35 _ _, _, _, _, _⟩ :: _) _ _); go_loud (refine wpList_store_row rfl 35 (.tmp 21) (.tmp 195) rfl x2.heap.size sX rfl rfl 35 c0 (heap_alloc_new _ _) (by rw [HSX.out.1]; exact sizeSu) (by rw [HSX.out.1, HC0.out]) HSX.out.2 ?_; rw [alloc_setRow])))
                      obtain ⟨px, hpx⟩ : ∃ p, p = x2.heap.size := ⟨_, rfl⟩
                      have HPX := Lib.hid (show SuB (x2.alloc (.cells sX 35)) px Rx.1 by unfold SuB Blk; rw [← HXE.out, hpx]; exact heap_alloc_new x2 _)
                      have HB3 := Lib.hid (show Below V2b.heap.size V2b (x2.alloc (.cells sX 35)) from HX2.out.alloc HX2.out.size _)
                      rw [← hpx]
                      clear hpx HX2
                      generalize x2.alloc (.cells sX 35) = V8b at HPX HB3 ⊢
                      have HPW2 := Lib.hid (HPW.out.on HB3.out)
                      have HCD := Lib.hid ((HCC.out.on HB2.out).on HB3.out)
                      have HWW := Lib.hid (show Below w.heap.size w V8b from bt (bt (bt HWV.out HBC.out) HB2.out) HB3.out)
                      have z9 := HCD.out.num.2.1
                      have hnb := HTW.out.n
                      unfold byteI at hnb
                      have wn := IntWalk.i64_in T.n (by omega)
                      by_cases k1 : pl < 1
                      case pos =>
                        have k1' : ¬ (1 : Int) ≤ pl := by omega
                        have hg1 : gw = 2 := by rw [HGW.out, HRW.out, mov_out _ _ (.inl k1)]
                        have hg2 : gx = 2 := by rw [HGX.out, HRX.out, mov_out _ _ (.inl k1)]
                        subst hg1
                        subst hg2
                        go_wp2
                        go_ret
                        exact ⟨rfl, HWW.out⟩
                      case neg =>
                        by_cases k2 : T.n < pl
                        case pos =>
                          have k1' : (1 : Int) ≤ pl := by omega
                          have k2' : ¬ pl ≤ T.n := by omega
                          have hg1 : gw = 2 := by rw [HGW.out, HRW.out, mov_out _ _ (.inr k2)]
                          have hg2 : gx = 2 := by rw [HGX.out, HRX.out, mov_out _ _ (.inr k2)]
                          subst hg1
                          subst hg2
                          go_wp2
                          go_ret
                          exact ⟨rfl, HWW.out⟩
                        case neg =>
                          obtain ⟨x, hx⟩ := Int.eq_ofNat_of_zero_le (show 0 ≤ pl by omega)
                          subst hx
                          have hx1 : 1 ≤ x := by omega
                          have hxn : (x : Int) ≤ T.n := by omega
                          have hx2 : x < 256 := by omega
                          have q256 : (x : Int) < 256 := by omega
                          have k1' : (1 : Int) ≤ (x : Int) := by omega
                          obtain ⟨bi, hbi⟩ : ∃ b, b = T.inn.getD x false := ⟨_, rfl⟩
                          have zin := HCD.out.inn hx2
                          rw [← hbi] at zin
                          have hldt : ∀ W, Below V8b.heap.size V8b W → (Instr.loadAt 35 (.pointer (some ⟨q, 0, none⟩))).run Try.prog W = .ok (.agg sT) W := fun W hW => by
                            have := run_loadAt_mid (P := Try.prog) W q 0 35 (suL T) _ (HCD.out.on hW).table Try.underlying35 rfl (by rw [suL_len]; exact sizeSu)
                            rw [HTL.out] at this
                            exact this
                          obtain ⟨e1, he1⟩ : ∃ e, e = IntKind.u32.wrap (T.ep + 1) := ⟨_, rfl⟩
                          have y15 : ∀ W, Below V8b.heap.size V8b W → W.cell? ⟨q, 15, none⟩ = some (.int .u32 T.ep) := fun W hW => (HCD.out.on hW).num.2.2.2.2
                          have hwE : IntKind.u32.wrap (T.ep + 1) = e1 := he1.symm
                          have HE1 := Lib.hid he1
                          have HL25 : LT ≤ 256 := HL256.out
                          clear he1
                          cases bi with
                          | true =>
                            have HWG := Lib.hid (show Rw = (movP T (x : Int) false, 0) by rw [HRW.out, mov_goes _ hx1 hxn (by rw [← hbi]; simp)])
                            have hg1 : gw = 0 := by rw [HGW.out, HWG.out]
                            have hg2 : gx = 6 := by rw [HGX.out, HRX.out, mov_was _ hx1 hxn hbi.symm]
                            subst hg1
                            subst hg2
                            obtain ⟨kk, hkk⟩ : ∃ k, k = Rw.1.L.length := ⟨_, rfl⟩
                            have hkl : kk + 1 = LT := by
                              have := L_less HTW.out hx2 hbi.symm
                              rw [hkk, HWG.out, this, HLT.out]
                            have HWF := Lib.hid (show Rw.1.Wf by rw [HWG.out]; exact movP_wf HTW.out _ _)
                            have HINW := Lib.hid (show ∀ W, Calls Try.prog 11 #[.agg sW] W fun e w' => (∃ (a1 : Option Addr) (c1 : Nat), e = .returned (.slice a1 kk c1)) ∧ Below W.heap.size W w' from fun W => by
                              have h := in_any Rw.1 HWF.out W
                              unfold suA at h
                              rw [← HWE.out] at h
                              refine h.mono ?_
                              rintro e w' ⟨a1, c1, h1, _, h3⟩
                              rw [← hkk] at h1
                              exact ⟨⟨a1, c1, h1⟩, h3⟩)
                            obtain ⟨zz, hzz⟩ : ∃ z, z = enI T kk := ⟨_, rfl⟩
                            have HZE := Lib.hid hzz
                            have HENW := Lib.hid (show ∀ W, Calls Try.prog 12 #[.agg sW] W fun e w' => e = .returned (.int .i64 zz) ∧ Below W.heap.size W w' from fun W => by
                              have h := Enough_any Rw.1 HWF.out W
                              have hz : enI Rw.1 Rw.1.L.length = zz := by rw [← hkk, hzz]; unfold enI; rw [HWG.out]; rfl
                              rw [hz] at h
                              unfold suA at h
                              rw [← HWE.out] at h
                              exact h)
                            have hldw : ∀ W, Below V8b.heap.size V8b W → (Instr.loadAt 35 (.pointer (some ⟨pw, 0, none⟩))).run Try.prog W = .ok (.agg sW) W := fun W hW => by
                              have := run_loadAt_mid (P := Try.prog) W pw 0 35 (suL Rw.1) _ (SuB.range (HPW2.out.on hW)) Try.underlying35 rfl (by rw [suL_len]; exact sizeSu)
                              rw [suL_arr, ← HWE.out] at this
                              exact this
                            have HRP := Lib.hid (show V8b.heap[pw]? = some (.cells sW 35 (0, 0)) by rw [HWE.out]; exact HPW2.out)
                            have hw15 : ∀ W, Below V8b.heap.size V8b W → W.cell? ⟨pw, 15, none⟩ = some (.int .u32 e1) := fun W hW => by
                              have := (HPW2.out.on hW).num.2.2.2.2.2.2.2.1
                              rw [HWG.out] at this; rw [HE1.out]; exact this
                            have hw9 : ∀ W, Below V8b.heap.size V8b W → W.cell? ⟨pw, 9, none⟩ = some (.int .u8 T.n) := fun W hW => by
                              have := (HPW2.out.on hW).num.2.1
                              rw [HWG.out] at this; exact this
                            have hw10 : ∀ W, Below V8b.heap.size V8b W → W.cell? ⟨pw, 10, none⟩ = some (.int .u8 T.t) := fun W hW => by
                              have := (HPW2.out.on hW).num.2.2.1
                              rw [HWG.out] at this; exact this
                            have hwin : ∀ W, Below V8b.heap.size V8b W → W.cell? ⟨pw, 16 + x, none⟩ = some (.bool false) := fun W hW => by
                              have := (HPW2.out.on hW).inn hx2
                              rw [HWG.out] at this
                              have h2 := movP_in HTW.out hx2 false
                              rw [h2] at this; exact this
                            have htt := HTW.out.t
                            unfold byteI at htt
                            have wt := IntWalk.i64_in T.t (by omega)
                            have hlk : (LT : Int) - 1 = (kk : Int) := by omega
                            have hkk9 : kk ≤ 256 := by omega
                            have wkk := IntWalk.i64_in (kk : Int) (by omega)
                            have wk2 := IntWalk.i64_in (2 * (kk : Int)) (by omega)
                            clear hbi hzz hkk hkl
                            go_upto_region 39 with (first
                              | ((with_reducible show wpList _ _ _ (⟨some 233, _, _, _, _, _⟩ :: _) _ _); go_loud (refine wpList_load_row rfl 35 (.tmp 19) rfl pw rfl 35 sW (0, 0) _ HRP.out Try.underlying35 rfl (by rw [HSW.out.1]; exact sizeSu) ?_))
                              | (go_at_call 11; go_loud ((with_reducible refine (HINW.out _).mono ?_); rintro e x3 ⟨⟨a3, c3, rfl⟩, hb⟩; have HX3 := Lib.hid hb; clear hb)))
                            clear z9 zin
                            by_cases k7 : T.t ≤ (kk : Int)
                            case neg =>
                              as_aux_lemma =>
                                have k7b : decide (T.t ≤ (kk : Int)) = false := decide_eq_false k7
                                have HZ := Lib.hid (show zz = 12 by rw [HZE.out]; unfold enI; rw [if_neg (fun h => k7 h.1)])
                                rw [HZ.out] at HENW
                                refine wp_region_held_drew (S := (fun W => Below V8b.heap.size V8b W)) (by kernel_rfl) (HX3.out.drew) (fun hHeld => ?_)
                                refine wpAnyH_take (i := 0) (oi := { dst := some 236, op := Go.Op.move (Go.Operand.tmp 20), type := 39, pos := "law.go:123", after := #[], guard := none }) (v := ?v0p57) rfl (by kernel_rfl) (by kernel_rfl) (by kernel_rfl) (fun _ _ _ h => h) (Or.inl ⟨by rfl, ?hy0p57⟩) hHeld ?rest0p57
                                case hy0p57 =>
                                  intro W' hV
                                  try dsimp only at hV
                                  go_simp
                                  all_goals with_reducible rfl
                                case' rest0p57 => try simp only [Act.put, List.setIfInBounds_toArray, List.set_cons_zero, List.set_cons_succ]
                                refine wpAnyH_take (i := 1) (oi := { dst := some 237, op := Go.Op.binOp Go.BinOp.eql 39 (Go.Operand.tmp 236) (Go.Operand.const (Go.Value.int Go.IntKind.i64 0)) 39, type := 4, pos := "law.go:123", after := #[{ on := 0, ground := Go.Ground.data }], guard := none }) (v := ?v1p58) rfl (by kernel_rfl) (by kernel_rfl) (by kernel_rfl) (fun _ _ _ h => h) (Or.inl ⟨by rfl, ?hy1p58⟩) hHeld ?rest1p58
                                case hy1p58 =>
                                  intro W' hV
                                  try dsimp only at hV
                                  go_simp
                                  all_goals with_reducible rfl
                                case' rest1p58 => try simp only [Act.put, List.setIfInBounds_toArray, List.set_cons_zero, List.set_cons_succ]
                                refine wpAnyH_take (i := 2) (oi := { dst := some 238, op := Go.Op.move (Go.Operand.tmp 237), type := 4, pos := "law.go:123", after := #[{ on := 1, ground := Go.Ground.data }], guard := none }) (v := ?v2p59) rfl (by kernel_rfl) (by kernel_rfl) (by kernel_rfl) (fun _ _ _ h => h) (Or.inl ⟨by rfl, ?hy2p59⟩) hHeld ?rest2p59
                                case hy2p59 =>
                                  intro W' hV
                                  try dsimp only at hV
                                  go_simp
                                  all_goals with_reducible rfl
                                case' rest2p59 => try simp only [Act.put, List.setIfInBounds_toArray, List.set_cons_zero, List.set_cons_succ]
                                refine wpAnyH_take (i := 3) (oi := { dst := some 239, op := Go.Op.move (Go.Operand.tmp 22), type := 39, pos := "law.go:123", after := #[{ on := 2, ground := Go.Ground.guard }], guard := some (2, true) }) (v := ?v3p60) rfl (by kernel_rfl) (by kernel_rfl) (by kernel_rfl) (fun _ _ _ h => h) (Or.inl ⟨by rfl, ?hy3p60⟩) hHeld ?rest3p60
                                case hy3p60 =>
                                  intro W' hV
                                  try dsimp only at hV
                                  go_simp
                                  all_goals with_reducible rfl
                                case' rest3p60 => try simp only [Act.put, List.setIfInBounds_toArray, List.set_cons_zero, List.set_cons_succ]
                                refine wpAnyH_take (i := 4) (oi := { dst := some 240, op := Go.Op.binOp Go.BinOp.eql 39 (Go.Operand.tmp 239) (Go.Operand.const (Go.Value.int Go.IntKind.i64 6)) 39, type := 4, pos := "law.go:123", after := #[{ on := 3, ground := Go.Ground.data }, { on := 2, ground := Go.Ground.guard }], guard := some (2, true) }) (v := ?v4p61) rfl (by kernel_rfl) (by kernel_rfl) (by kernel_rfl) (fun _ _ _ h => h) (Or.inl ⟨by rfl, ?hy4p61⟩) hHeld ?rest4p61
                                case hy4p61 =>
                                  intro W' hV
                                  try dsimp only at hV
                                  go_simp
                                  all_goals with_reducible rfl
                                case' rest4p61 => try simp only [Act.put, List.setIfInBounds_toArray, List.set_cons_zero, List.set_cons_succ]
                                refine wpAnyH_take (i := 5) (oi := { dst := some 241, op := Go.Op.pick (Go.Operand.tmp 238) (Go.Operand.tmp 240) (Go.Operand.const (Go.Value.bool false)), type := 4, pos := "law.go:123", after := #[{ on := 2, ground := Go.Ground.data }, { on := 4, ground := Go.Ground.data }], guard := none }) (v := ?v5p62) rfl (by kernel_rfl) (by kernel_rfl) (by kernel_rfl) (fun _ _ _ h => h) (Or.inl ⟨by rfl, ?hy5p62⟩) hHeld ?rest5p62
                                case hy5p62 =>
                                  intro W' hV
                                  try dsimp only at hV
                                  go_simp
                                  all_goals with_reducible rfl
                                case' rest5p62 => try simp only [Act.put, List.setIfInBounds_toArray, List.set_cons_zero, List.set_cons_succ]
                                refine wpAnyH_take (i := 6) (oi := { dst := some 242, op := Go.Op.move (Go.Operand.tmp 241), type := 4, pos := "law.go:123", after := #[{ on := 5, ground := Go.Ground.data }, { on := 2, ground := Go.Ground.chain }], guard := none }) (v := ?v6p63) rfl (by kernel_rfl) (by kernel_rfl) (by kernel_rfl) (fun _ _ _ h => h) (Or.inl ⟨by rfl, ?hy6p63⟩) hHeld ?rest6p63
                                case hy6p63 =>
                                  intro W' hV
                                  try dsimp only at hV
                                  go_simp
                                  all_goals with_reducible rfl
                                case' rest6p63 => try simp only [Act.put, List.setIfInBounds_toArray, List.set_cons_zero, List.set_cons_succ]
                                refine wpAnyH_take (i := 7) (oi := { dst := some 243, op := Go.Op.move (Go.Operand.tmp 1), type := 3, pos := "law.go:123", after := #[{ on := 6, ground := Go.Ground.guard }], guard := some (6, true) }) (v := ?v7p64) rfl (by kernel_rfl) (by kernel_rfl) (by kernel_rfl) (fun _ _ _ h => h) (Or.inl ⟨by rfl, ?hy7p64⟩) hHeld ?rest7p64
                                case hy7p64 =>
                                  intro W' hV
                                  try dsimp only at hV
                                  go_simp
                                  all_goals with_reducible rfl
                                case' rest7p64 => try simp only [Act.put, List.setIfInBounds_toArray, List.set_cons_zero, List.set_cons_succ]
                                refine wpAnyH_take (i := 8) (oi := { dst := some 244, op := Go.Op.fieldAddr 35 (Go.Operand.tmp 19) 9, type := 0, pos := "law.go:123", after := #[{ on := 6, ground := Go.Ground.guard }], guard := some (6, true) }) (v := ?v8p65) rfl (by kernel_rfl) (by kernel_rfl) (by kernel_rfl) (fun _ _ _ h => h) (Or.inl ⟨by rfl, ?hy8p65⟩) hHeld ?rest8p65
                                case hy8p65 =>
                                  intro W' hV
                                  try dsimp only at hV
                                  go_simp
                                  all_goals with_reducible rfl
                                case' rest8p65 => try simp only [Act.put, List.setIfInBounds_toArray, List.set_cons_zero, List.set_cons_succ]
                                refine wpAnyH_take (i := 9) (oi := { dst := some 245, op := Go.Op.indexAddr 33 (Go.Operand.tmp 244) (Go.Operand.tmp 243), type := 0, pos := "law.go:123", after := #[{ on := 8, ground := Go.Ground.data }, { on := 7, ground := Go.Ground.data }, { on := 6, ground := Go.Ground.guard }], guard := some (6, true) }) (v := ?v9p66) rfl (by kernel_rfl) (by kernel_rfl) (by kernel_rfl) (fun _ _ _ h => h) (Or.inl ⟨by rfl, ?hy9p66⟩) hHeld ?rest9p66
                                case hy9p66 =>
                                  intro W' hV
                                  try dsimp only at hV
                                  go_simp
                                  all_goals with_reducible rfl
                                case' rest9p66 => try simp only [Act.put, List.setIfInBounds_toArray, List.set_cons_zero, List.set_cons_succ]
                                refine wpAnyH_take (i := 10) (oi := { dst := some 246, op := Go.Op.load 4 (Go.Operand.tmp 245), type := 4, pos := "law.go:123", after := #[{ on := 9, ground := Go.Ground.data }, { on := 6, ground := Go.Ground.guard }], guard := some (6, true) }) (v := ?v10p67) rfl (by kernel_rfl) (by kernel_rfl) (by kernel_rfl) (fun _ _ _ h => h) (Or.inl ⟨by rfl, ?hy10p67⟩) hHeld ?rest10p67
                                case hy10p67 =>
                                  intro W' hV
                                  try dsimp only at hV
                                  go_simp
                                  all_goals with_reducible rfl
                                case' rest10p67 => try simp only [Act.put, List.setIfInBounds_toArray, List.set_cons_zero, List.set_cons_succ]
                                refine wpAnyH_take (i := 11) (oi := { dst := some 247, op := Go.Op.unOp Go.UnOp.not 4 (Go.Operand.tmp 246), type := 4, pos := "law.go:123", after := #[{ on := 10, ground := Go.Ground.data }, { on := 6, ground := Go.Ground.guard }], guard := some (6, true) }) (v := ?v11p68) rfl (by kernel_rfl) (by kernel_rfl) (by kernel_rfl) (fun _ _ _ h => h) (Or.inl ⟨by rfl, ?hy11p68⟩) hHeld ?rest11p68
                                case hy11p68 =>
                                  intro W' hV
                                  try dsimp only at hV
                                  go_simp
                                  all_goals with_reducible rfl
                                case' rest11p68 => try simp only [Act.put, List.setIfInBounds_toArray, List.set_cons_zero, List.set_cons_succ]
                                refine wpAnyH_take (i := 12) (oi := { dst := some 248, op := Go.Op.pick (Go.Operand.tmp 242) (Go.Operand.tmp 247) (Go.Operand.const (Go.Value.bool false)), type := 4, pos := "law.go:123", after := #[{ on := 6, ground := Go.Ground.data }, { on := 11, ground := Go.Ground.data }], guard := none }) (v := ?v12p69) rfl (by kernel_rfl) (by kernel_rfl) (by kernel_rfl) (fun _ _ _ h => h) (Or.inl ⟨by rfl, ?hy12p69⟩) hHeld ?rest12p69
                                case hy12p69 =>
                                  intro W' hV
                                  try dsimp only at hV
                                  go_simp
                                  all_goals with_reducible rfl
                                case' rest12p69 => try simp only [Act.put, List.setIfInBounds_toArray, List.set_cons_zero, List.set_cons_succ]
                                refine wpAnyH_take (i := 13) (oi := { dst := some 249, op := Go.Op.move (Go.Operand.tmp 248), type := 4, pos := "law.go:123", after := #[{ on := 12, ground := Go.Ground.data }, { on := 6, ground := Go.Ground.chain }], guard := none }) (v := ?v13p70) rfl (by kernel_rfl) (by kernel_rfl) (by kernel_rfl) (fun _ _ _ h => h) (Or.inl ⟨by rfl, ?hy13p70⟩) hHeld ?rest13p70
                                case hy13p70 =>
                                  intro W' hV
                                  try dsimp only at hV
                                  go_simp
                                  all_goals with_reducible rfl
                                case' rest13p70 => try simp only [Act.put, List.setIfInBounds_toArray, List.set_cons_zero, List.set_cons_succ]
                                refine wpAnyH_take (i := 14) (oi := { dst := some 250, op := Go.Op.fieldAddr 35 (Go.Operand.tmp 19) 8, type := 0, pos := "law.go:123", after := #[{ on := 13, ground := Go.Ground.guard }], guard := some (13, true) }) (v := ?v14p71) rfl (by kernel_rfl) (by kernel_rfl) (by kernel_rfl) (fun _ _ _ h => h) (Or.inl ⟨by rfl, ?hy14p71⟩) hHeld ?rest14p71
                                case hy14p71 =>
                                  intro W' hV
                                  try dsimp only at hV
                                  go_simp
                                  all_goals with_reducible rfl
                                case' rest14p71 => try simp only [Act.put, List.setIfInBounds_toArray, List.set_cons_zero, List.set_cons_succ]
                                refine wpAnyH_take (i := 15) (oi := { dst := some 251, op := Go.Op.load 25 (Go.Operand.tmp 250), type := 25, pos := "law.go:123", after := #[{ on := 14, ground := Go.Ground.data }, { on := 13, ground := Go.Ground.guard }], guard := some (13, true) }) (v := ?v15p72) rfl (by kernel_rfl) (by kernel_rfl) (by kernel_rfl) (fun _ _ _ h => h) (Or.inl ⟨by rfl, ?hy15p72⟩) hHeld ?rest15p72
                                case hy15p72 =>
                                  intro W' hV
                                  try dsimp only at hV
                                  go_simp
                                  all_goals with_reducible rfl
                                case' rest15p72 => try simp only [Act.put, List.setIfInBounds_toArray, List.set_cons_zero, List.set_cons_succ]
                                refine wpAnyH_take (i := 16) (oi := { dst := some 252, op := Go.Op.fieldAddr 38 (Go.Operand.tmp 9) 0, type := 0, pos := "law.go:123", after := #[{ on := 13, ground := Go.Ground.guard }], guard := some (13, true) }) (v := ?v16p73) rfl (by kernel_rfl) (by kernel_rfl) (by kernel_rfl) (fun _ _ _ h => h) (Or.inl ⟨by rfl, ?hy16p73⟩) hHeld ?rest16p73
                                case hy16p73 =>
                                  intro W' hV
                                  try dsimp only at hV
                                  go_simp
                                  all_goals with_reducible rfl
                                case' rest16p73 => try simp only [Act.put, List.setIfInBounds_toArray, List.set_cons_zero, List.set_cons_succ]
                                refine wpAnyH_take (i := 17) (oi := { dst := some 253, op := Go.Op.fieldAddr 35 (Go.Operand.tmp 252) 8, type := 0, pos := "law.go:123", after := #[{ on := 16, ground := Go.Ground.data }, { on := 13, ground := Go.Ground.guard }], guard := some (13, true) }) (v := ?v17p74) rfl (by kernel_rfl) (by kernel_rfl) (by kernel_rfl) (fun _ _ _ h => h) (Or.inl ⟨by rfl, ?hy17p74⟩) hHeld ?rest17p74
                                case hy17p74 =>
                                  intro W' hV
                                  try dsimp only at hV
                                  go_simp
                                  all_goals with_reducible rfl
                                case' rest17p74 => try simp only [Act.put, List.setIfInBounds_toArray, List.set_cons_zero, List.set_cons_succ]
                                refine wpAnyH_take (i := 18) (oi := { dst := some 254, op := Go.Op.load 25 (Go.Operand.tmp 253), type := 25, pos := "law.go:123", after := #[{ on := 17, ground := Go.Ground.data }, { on := 13, ground := Go.Ground.guard }], guard := some (13, true) }) (v := ?v18p75) rfl (by kernel_rfl) (by kernel_rfl) (by kernel_rfl) (fun _ _ _ h => h) (Or.inl ⟨by rfl, ?hy18p75⟩) hHeld ?rest18p75
                                case hy18p75 =>
                                  intro W' hV
                                  try dsimp only at hV
                                  go_simp
                                  all_goals with_reducible rfl
                                case' rest18p75 => try simp only [Act.put, List.setIfInBounds_toArray, List.set_cons_zero, List.set_cons_succ]
                                refine wpAnyH_take (i := 19) (oi := { dst := some 255, op := Go.Op.binOp Go.BinOp.add 25 (Go.Operand.tmp 254) (Go.Operand.const (Go.Value.int Go.IntKind.u32 1)) 25, type := 25, pos := "law.go:123", after := #[{ on := 18, ground := Go.Ground.data }, { on := 13, ground := Go.Ground.guard }], guard := some (13, true) }) (v := ?v19p76) rfl (by kernel_rfl) (by kernel_rfl) (by kernel_rfl) (fun _ _ _ h => h) (Or.inl ⟨by rfl, ?hy19p76⟩) hHeld ?rest19p76
                                case hy19p76 =>
                                  intro W' hV
                                  try dsimp only at hV
                                  go_simp
                                  all_goals with_reducible rfl
                                case' rest19p76 => try simp only [Act.put, List.setIfInBounds_toArray, List.set_cons_zero, List.set_cons_succ]
                                refine wpAnyH_take (i := 20) (oi := { dst := some 256, op := Go.Op.binOp Go.BinOp.eql 25 (Go.Operand.tmp 251) (Go.Operand.tmp 255) 25, type := 4, pos := "law.go:123", after := #[{ on := 15, ground := Go.Ground.data }, { on := 19, ground := Go.Ground.data }, { on := 13, ground := Go.Ground.guard }], guard := some (13, true) }) (v := ?v20p77) rfl (by kernel_rfl) (by kernel_rfl) (by kernel_rfl) (fun _ _ _ h => h) (Or.inl ⟨by rfl, ?hy20p77⟩) hHeld ?rest20p77
                                case hy20p77 =>
                                  intro W' hV
                                  try dsimp only at hV
                                  go_simp
                                  all_goals with_reducible rfl
                                case' rest20p77 => try simp only [Act.put, List.setIfInBounds_toArray, List.set_cons_zero, List.set_cons_succ]
                                refine wpAnyH_take (i := 21) (oi := { dst := some 257, op := Go.Op.pick (Go.Operand.tmp 249) (Go.Operand.tmp 256) (Go.Operand.const (Go.Value.bool false)), type := 4, pos := "law.go:123", after := #[{ on := 13, ground := Go.Ground.data }, { on := 20, ground := Go.Ground.data }], guard := none }) (v := ?v21p78) rfl (by kernel_rfl) (by kernel_rfl) (by kernel_rfl) (fun _ _ _ h => h) (Or.inl ⟨by rfl, ?hy21p78⟩) hHeld ?rest21p78
                                case hy21p78 =>
                                  intro W' hV
                                  try dsimp only at hV
                                  go_simp
                                  all_goals with_reducible rfl
                                case' rest21p78 => try simp only [Act.put, List.setIfInBounds_toArray, List.set_cons_zero, List.set_cons_succ]
                                refine wpAnyH_take (i := 22) (oi := { dst := some 258, op := Go.Op.move (Go.Operand.tmp 257), type := 4, pos := "law.go:123", after := #[{ on := 21, ground := Go.Ground.data }, { on := 13, ground := Go.Ground.chain }], guard := none }) (v := ?v22p79) rfl (by kernel_rfl) (by kernel_rfl) (by kernel_rfl) (fun _ _ _ h => h) (Or.inl ⟨by rfl, ?hy22p79⟩) hHeld ?rest22p79
                                case hy22p79 =>
                                  intro W' hV
                                  try dsimp only at hV
                                  go_simp
                                  all_goals with_reducible rfl
                                case' rest22p79 => try simp only [Act.put, List.setIfInBounds_toArray, List.set_cons_zero, List.set_cons_succ]
                                refine wpAnyH_take (i := 23) (oi := { dst := some 259, op := Go.Op.move (Go.Operand.tmp 24), type := 3, pos := "law.go:123", after := #[{ on := 22, ground := Go.Ground.guard }], guard := some (22, true) }) (v := ?v23p80) rfl (by kernel_rfl) (by kernel_rfl) (by kernel_rfl) (fun _ _ _ h => h) (Or.inl ⟨by rfl, ?hy23p80⟩) hHeld ?rest23p80
                                case hy23p80 =>
                                  intro W' hV
                                  try dsimp only at hV
                                  go_simp
                                  all_goals with_reducible rfl
                                case' rest23p80 => try simp only [Act.put, List.setIfInBounds_toArray, List.set_cons_zero, List.set_cons_succ]
                                refine wpAnyH_take (i := 24) (oi := { dst := some 260, op := Go.Op.fieldAddr 38 (Go.Operand.tmp 9) 0, type := 0, pos := "law.go:123", after := #[{ on := 22, ground := Go.Ground.guard }], guard := some (22, true) }) (v := ?v24p81) rfl (by kernel_rfl) (by kernel_rfl) (by kernel_rfl) (fun _ _ _ h => h) (Or.inl ⟨by rfl, ?hy24p81⟩) hHeld ?rest24p81
                                case hy24p81 =>
                                  intro W' hV
                                  try dsimp only at hV
                                  go_simp
                                  all_goals with_reducible rfl
                                case' rest24p81 => try simp only [Act.put, List.setIfInBounds_toArray, List.set_cons_zero, List.set_cons_succ]
                                refine wpAnyH_take (i := 25) (oi := { dst := some 261, op := Go.Op.load 35 (Go.Operand.tmp 260), type := 35, pos := "law.go:123", after := #[{ on := 24, ground := Go.Ground.data }, { on := 22, ground := Go.Ground.guard }], guard := some (22, true) }) (v := .agg sT) rfl (by kernel_rfl) (by kernel_rfl) (by kernel_rfl) (fun _ _ _ h => h) (yields_loadAt (by rfl) 35 (.tmp 260) rfl (by rfl) (fun W h => hldt W h)) hHeld ?rest25p82
                                case' rest25p82 => try simp only [Act.put, List.setIfInBounds_toArray, List.set_cons_zero, List.set_cons_succ]
                                generalize x3.drew = v0 at hHeld ⊢
                                have HH0 := Lib.hid hHeld
                                refine wpAnyH_ready (rs := [26]) (by kernel_rfl) (by simp) ?_
                                refine AllReadyH.cons (o := { dst := some 262, op := Go.Op.call { callee := Go.Callee.value (Go.Operand.func 11), args := #[Go.Operand.tmp 261], argTypes := #[35] }, type := 36, pos := "law.go:123", after := #[{ on := 25, ground := Go.Ground.data }, { on := 22, ground := Go.Ground.chain }, { on := 22, ground := Go.Ground.guard }], guard := some (22, true) }) rfl (fun K' hK => ?_) AllReadyH.nil
                                rw [if_pos (by rfl)]
                                go_wp2_with (go_at_call 11; go_loud ((with_reducible refine (HIN2.out v0).mono ?_); rintro e v1 ⟨⟨a1, c1, rfl, hi1⟩, hb1⟩))
                                refine hK.out _ _ (bt HH0.out hb1) (fun hHeld1 => ?_)
                                clear hK K' hHeld
                                have hHeld := hHeld1
                                clear hHeld1
                                try simp only [Act.put, List.setIfInBounds_toArray, List.set_cons_zero, List.set_cons_succ]
                                have HH1 := Lib.hid hHeld
                                clear hi1 hb1
                                refine wpAnyH_take (i := 27) (oi := { dst := some 263, op := Go.Op.call { callee := Go.Callee.builtin Go.Builtin.len, args := #[Go.Operand.tmp 262], argTypes := #[36] }, type := 3, pos := "law.go:123", after := #[{ on := 26, ground := Go.Ground.data }, { on := 22, ground := Go.Ground.guard }], guard := some (22, true) }) (v := ?v27p83) rfl (by kernel_rfl) (by kernel_rfl) (by kernel_rfl) (fun _ _ _ h => h) (Or.inl ⟨by rfl, ?hy27p83⟩) hHeld ?rest27p83
                                case hy27p83 =>
                                  intro W' hV
                                  try dsimp only at hV
                                  go_simp
                                  all_goals with_reducible rfl
                                case' rest27p83 => try simp only [Act.put, List.setIfInBounds_toArray, List.set_cons_zero, List.set_cons_succ]
                                refine wpAnyH_take (i := 28) (oi := { dst := some 264, op := Go.Op.binOp Go.BinOp.sub 3 (Go.Operand.tmp 263) (Go.Operand.const (Go.Value.int Go.IntKind.i64 1)) 3, type := 3, pos := "law.go:123", after := #[{ on := 27, ground := Go.Ground.data }, { on := 22, ground := Go.Ground.guard }], guard := some (22, true) }) (v := ?v28p84) rfl (by kernel_rfl) (by kernel_rfl) (by kernel_rfl) (fun _ _ _ h => h) (Or.inl ⟨by rfl, ?hy28p84⟩) hHeld ?rest28p84
                                case hy28p84 =>
                                  intro W' hV
                                  try dsimp only at hV
                                  go_simp
                                  all_goals with_reducible rfl
                                case' rest28p84 => try simp only [Act.put, List.setIfInBounds_toArray, List.set_cons_zero, List.set_cons_succ]
                                refine wpAnyH_take (i := 29) (oi := { dst := some 265, op := Go.Op.binOp Go.BinOp.eql 3 (Go.Operand.tmp 259) (Go.Operand.tmp 264) 3, type := 4, pos := "law.go:123", after := #[{ on := 23, ground := Go.Ground.data }, { on := 28, ground := Go.Ground.data }, { on := 22, ground := Go.Ground.guard }], guard := some (22, true) }) (v := ?v29p85) rfl (by kernel_rfl) (by kernel_rfl) (by kernel_rfl) (fun _ _ _ h => h) (Or.inl ⟨by rfl, ?hy29p85⟩) hHeld ?rest29p85
                                case hy29p85 =>
                                  intro W' hV
                                  try dsimp only at hV
                                  go_simp
                                  all_goals with_reducible rfl
                                case' rest29p85 => try simp only [Act.put, List.setIfInBounds_toArray, List.set_cons_zero, List.set_cons_succ]
                                refine wpAnyH_take (i := 30) (oi := { dst := some 266, op := Go.Op.pick (Go.Operand.tmp 258) (Go.Operand.tmp 265) (Go.Operand.const (Go.Value.bool false)), type := 4, pos := "law.go:123", after := #[{ on := 22, ground := Go.Ground.data }, { on := 29, ground := Go.Ground.data }], guard := none }) (v := ?v30p86) rfl (by kernel_rfl) (by kernel_rfl) (by kernel_rfl) (fun _ _ _ h => h) (Or.inl ⟨by rfl, ?hy30p86⟩) hHeld ?rest30p86
                                case hy30p86 =>
                                  intro W' hV
                                  try dsimp only at hV
                                  go_simp
                                  all_goals with_reducible rfl
                                case' rest30p86 => try simp only [Act.put, List.setIfInBounds_toArray, List.set_cons_zero, List.set_cons_succ]
                                refine wpAnyH_take (i := 31) (oi := { dst := some 267, op := Go.Op.move (Go.Operand.tmp 266), type := 4, pos := "law.go:123", after := #[{ on := 30, ground := Go.Ground.data }, { on := 26, ground := Go.Ground.chain }], guard := none }) (v := ?v31p87) rfl (by kernel_rfl) (by kernel_rfl) (by kernel_rfl) (fun _ _ _ h => h) (Or.inl ⟨by rfl, ?hy31p87⟩) hHeld ?rest31p87
                                case hy31p87 =>
                                  intro W' hV
                                  try dsimp only at hV
                                  go_simp
                                  all_goals with_reducible rfl
                                case' rest31p87 => try simp only [Act.put, List.setIfInBounds_toArray, List.set_cons_zero, List.set_cons_succ]
                                refine wpAnyH_take (i := 32) (oi := { dst := some 268, op := Go.Op.load 35 (Go.Operand.tmp 19), type := 35, pos := "law.go:123", after := #[{ on := 31, ground := Go.Ground.guard }], guard := some (31, true) }) (v := .agg sW) rfl (by kernel_rfl) (by kernel_rfl) (by kernel_rfl) (fun _ _ _ h => h) (yields_loadAt (by rfl) 35 (.tmp 19) rfl (by rfl) (fun W h => hldw W h)) hHeld ?rest32p88
                                case' rest32p88 => try simp only [Act.put, List.setIfInBounds_toArray, List.set_cons_zero, List.set_cons_succ]
                                refine wpAnyH_take (i := 35) (oi := { dst := some 271, op := Go.Op.move (Go.Operand.tmp 24), type := 3, pos := "law.go:123", after := #[{ on := 31, ground := Go.Ground.guard }], guard := some (31, true) }) (v := ?v35p89) rfl (by kernel_rfl) (by kernel_rfl) (by kernel_rfl) (fun _ _ _ h => h) (Or.inl ⟨by rfl, ?hy35p89⟩) hHeld ?rest35p89
                                case hy35p89 =>
                                  intro W' hV
                                  try dsimp only at hV
                                  go_simp
                                  all_goals with_reducible rfl
                                case' rest35p89 => try simp only [Act.put, List.setIfInBounds_toArray, List.set_cons_zero, List.set_cons_succ]
                                refine wpAnyH_take (i := 36) (oi := { dst := some 272, op := Go.Op.fieldAddr 35 (Go.Operand.tmp 19) 3, type := 0, pos := "law.go:123", after := #[{ on := 31, ground := Go.Ground.guard }], guard := some (31, true) }) (v := ?v36p90) rfl (by kernel_rfl) (by kernel_rfl) (by kernel_rfl) (fun _ _ _ h => h) (Or.inl ⟨by rfl, ?hy36p90⟩) hHeld ?rest36p90
                                case hy36p90 =>
                                  intro W' hV
                                  try dsimp only at hV
                                  go_simp
                                  all_goals with_reducible rfl
                                case' rest36p90 => try simp only [Act.put, List.setIfInBounds_toArray, List.set_cons_zero, List.set_cons_succ]
                                refine wpAnyH_take (i := 37) (oi := { dst := some 273, op := Go.Op.load 5 (Go.Operand.tmp 272), type := 5, pos := "law.go:123", after := #[{ on := 36, ground := Go.Ground.data }, { on := 31, ground := Go.Ground.guard }], guard := some (31, true) }) (v := ?v37p91) rfl (by kernel_rfl) (by kernel_rfl) (by kernel_rfl) (fun _ _ _ h => h) (Or.inl ⟨by rfl, ?hy37p91⟩) hHeld ?rest37p91
                                case hy37p91 =>
                                  intro W' hV
                                  try dsimp only at hV
                                  go_simp
                                  all_goals with_reducible rfl
                                case' rest37p91 => try simp only [Act.put, List.setIfInBounds_toArray, List.set_cons_zero, List.set_cons_succ]
                                refine wpAnyH_take (i := 38) (oi := { dst := some 274, op := Go.Op.convert 5 3 (Go.Operand.tmp 273), type := 3, pos := "law.go:123", after := #[{ on := 37, ground := Go.Ground.data }, { on := 31, ground := Go.Ground.guard }], guard := some (31, true) }) (v := ?v38p92) rfl (by kernel_rfl) (by kernel_rfl) (by kernel_rfl) (fun _ _ _ h => h) (Or.inl ⟨by rfl, ?hy38p92⟩) hHeld ?rest38p92
                                case hy38p92 =>
                                  intro W' hV
                                  try dsimp only at hV
                                  go_simp
                                  all_goals with_reducible rfl
                                case' rest38p92 => try simp only [Act.put, List.setIfInBounds_toArray, List.set_cons_zero, List.set_cons_succ]
                                refine wpAnyH_take (i := 39) (oi := { dst := some 275, op := Go.Op.binOp Go.BinOp.geq 3 (Go.Operand.tmp 271) (Go.Operand.tmp 274) 3, type := 4, pos := "law.go:123", after := #[{ on := 35, ground := Go.Ground.data }, { on := 38, ground := Go.Ground.data }, { on := 31, ground := Go.Ground.guard }], guard := some (31, true) }) (v := ?v39p93) rfl (by kernel_rfl) (by kernel_rfl) (by kernel_rfl) (fun _ _ _ h => h) (Or.inl ⟨by rfl, ?hy39p93⟩) hHeld ?rest39p93
                                case hy39p93 =>
                                  intro W' hV
                                  try dsimp only at hV
                                  go_simp
                                  all_goals with_reducible rfl
                                case' rest39p93 => try simp only [Act.put, List.setIfInBounds_toArray, List.set_cons_zero, List.set_cons_succ]
                                refine wpAnyH_ready (rs := [33]) (by kernel_rfl) (by simp) ?_
                                refine AllReadyH.cons (o := { dst := some 269, op := Go.Op.call { callee := Go.Callee.value (Go.Operand.func 12), args := #[Go.Operand.tmp 268], argTypes := #[35] }, type := 39, pos := "law.go:123", after := #[{ on := 32, ground := Go.Ground.data }, { on := 31, ground := Go.Ground.chain }, { on := 31, ground := Go.Ground.guard }], guard := some (31, true) }) rfl (fun K' hK => ?_) AllReadyH.nil
                                rw [if_pos (by rfl)]
                                go_wp2_with (go_at_call 12; go_loud ((with_reducible refine (HENW.out v1).mono ?_); rintro e v2 ⟨rfl, hb2⟩))
                                refine hK.out _ _ (bt HH1.out hb2) (fun hHeld1 => ?_)
                                clear hK K' hHeld
                                have hHeld := hHeld1
                                clear hHeld1
                                try simp only [Act.put, List.setIfInBounds_toArray, List.set_cons_zero, List.set_cons_succ]
                                have HH2 := Lib.hid hHeld
                                clear hb2
                                refine wpAnyH_take (i := 34) (oi := { dst := some 270, op := Go.Op.binOp Go.BinOp.eql 39 (Go.Operand.tmp 269) (Go.Operand.const (Go.Value.int Go.IntKind.i64 0)) 39, type := 4, pos := "law.go:123", after := #[{ on := 33, ground := Go.Ground.data }, { on := 31, ground := Go.Ground.guard }], guard := some (31, true) }) (v := ?v34p94) rfl (by kernel_rfl) (by kernel_rfl) (by kernel_rfl) (fun _ _ _ h => h) (Or.inl ⟨by rfl, ?hy34p94⟩) hHeld ?rest34p94
                                case hy34p94 =>
                                  intro W' hV
                                  try dsimp only at hV
                                  go_simp
                                  all_goals with_reducible rfl
                                case' rest34p94 => try simp only [Act.put, List.setIfInBounds_toArray, List.set_cons_zero, List.set_cons_succ]
                                refine wpAnyH_take (i := 40) (oi := { dst := some 276, op := Go.Op.move (Go.Operand.tmp 275), type := 4, pos := "law.go:123", after := #[{ on := 39, ground := Go.Ground.data }, { on := 33, ground := Go.Ground.chain }, { on := 31, ground := Go.Ground.guard }], guard := some (31, true) }) (v := ?v40p95) rfl (by kernel_rfl) (by kernel_rfl) (by kernel_rfl) (fun _ _ _ h => h) (Or.inl ⟨by rfl, ?hy40p95⟩) hHeld ?rest40p95
                                case hy40p95 =>
                                  intro W' hV
                                  try dsimp only at hV
                                  go_simp
                                  all_goals with_reducible rfl
                                case' rest40p95 => try simp only [Act.put, List.setIfInBounds_toArray, List.set_cons_zero, List.set_cons_succ]
                                refine wpAnyH_take (i := 41) (oi := { dst := some 277, op := Go.Op.move (Go.Operand.tmp 24), type := 3, pos := "law.go:123", after := #[{ on := 40, ground := Go.Ground.guard }], guard := some (40, true) }) (v := undef) rfl (by kernel_rfl) (by kernel_rfl) (by kernel_rfl) (fun _ _ _ h => h) (Or.inr ⟨by rfl, rfl⟩) hHeld ?rest41p96
                                case' rest41p96 => try simp only [Act.put, List.setIfInBounds_toArray, List.set_cons_zero, List.set_cons_succ]
                                refine wpAnyH_take (i := 42) (oi := { dst := some 278, op := Go.Op.binOp Go.BinOp.mul 3 (Go.Operand.const (Go.Value.int Go.IntKind.i64 2)) (Go.Operand.tmp 277) 3, type := 3, pos := "law.go:123", after := #[{ on := 41, ground := Go.Ground.data }, { on := 40, ground := Go.Ground.guard }], guard := some (40, true) }) (v := undef) rfl (by kernel_rfl) (by kernel_rfl) (by kernel_rfl) (fun _ _ _ h => h) (Or.inr ⟨by rfl, rfl⟩) hHeld ?rest42p97
                                case' rest42p97 => try simp only [Act.put, List.setIfInBounds_toArray, List.set_cons_zero, List.set_cons_succ]
                                refine wpAnyH_take (i := 43) (oi := { dst := some 279, op := Go.Op.fieldAddr 35 (Go.Operand.tmp 19) 2, type := 0, pos := "law.go:123", after := #[{ on := 40, ground := Go.Ground.guard }], guard := some (40, true) }) (v := undef) rfl (by kernel_rfl) (by kernel_rfl) (by kernel_rfl) (fun _ _ _ h => h) (Or.inr ⟨by rfl, rfl⟩) hHeld ?rest43p98
                                case' rest43p98 => try simp only [Act.put, List.setIfInBounds_toArray, List.set_cons_zero, List.set_cons_succ]
                                refine wpAnyH_take (i := 44) (oi := { dst := some 280, op := Go.Op.load 5 (Go.Operand.tmp 279), type := 5, pos := "law.go:123", after := #[{ on := 43, ground := Go.Ground.data }, { on := 40, ground := Go.Ground.guard }], guard := some (40, true) }) (v := undef) rfl (by kernel_rfl) (by kernel_rfl) (by kernel_rfl) (fun _ _ _ h => h) (Or.inr ⟨by rfl, rfl⟩) hHeld ?rest44p99
                                case' rest44p99 => try simp only [Act.put, List.setIfInBounds_toArray, List.set_cons_zero, List.set_cons_succ]
                                refine wpAnyH_take (i := 45) (oi := { dst := some 281, op := Go.Op.convert 5 3 (Go.Operand.tmp 280), type := 3, pos := "law.go:123", after := #[{ on := 44, ground := Go.Ground.data }, { on := 40, ground := Go.Ground.guard }], guard := some (40, true) }) (v := undef) rfl (by kernel_rfl) (by kernel_rfl) (by kernel_rfl) (fun _ _ _ h => h) (Or.inr ⟨by rfl, rfl⟩) hHeld ?rest45p100
                                case' rest45p100 => try simp only [Act.put, List.setIfInBounds_toArray, List.set_cons_zero, List.set_cons_succ]
                                refine wpAnyH_take (i := 46) (oi := { dst := some 282, op := Go.Op.binOp Go.BinOp.gtr 3 (Go.Operand.tmp 278) (Go.Operand.tmp 281) 3, type := 4, pos := "law.go:123", after := #[{ on := 42, ground := Go.Ground.data }, { on := 45, ground := Go.Ground.data }, { on := 40, ground := Go.Ground.guard }], guard := some (40, true) }) (v := undef) rfl (by kernel_rfl) (by kernel_rfl) (by kernel_rfl) (fun _ _ _ h => h) (Or.inr ⟨by rfl, rfl⟩) hHeld ?rest46p101
                                case' rest46p101 => try simp only [Act.put, List.setIfInBounds_toArray, List.set_cons_zero, List.set_cons_succ]
                                refine wpAnyH_take (i := 47) (oi := { dst := some 283, op := Go.Op.pick (Go.Operand.tmp 276) (Go.Operand.tmp 282) (Go.Operand.const (Go.Value.bool false)), type := 4, pos := "law.go:123", after := #[{ on := 40, ground := Go.Ground.data }, { on := 46, ground := Go.Ground.data }, { on := 31, ground := Go.Ground.guard }], guard := some (31, true) }) (v := ?v47p102) rfl (by kernel_rfl) (by kernel_rfl) (by kernel_rfl) (fun _ _ _ h => h) (Or.inl ⟨by rfl, ?hy47p102⟩) hHeld ?rest47p102
                                case hy47p102 =>
                                  intro W' hV
                                  try dsimp only at hV
                                  go_simp
                                  all_goals with_reducible rfl
                                case' rest47p102 => try simp only [Act.put, List.setIfInBounds_toArray, List.set_cons_zero, List.set_cons_succ]
                                refine wpAnyH_take (i := 48) (oi := { dst := some 284, op := Go.Op.binOp Go.BinOp.eql 4 (Go.Operand.tmp 270) (Go.Operand.tmp 283) 4, type := 4, pos := "law.go:123", after := #[{ on := 34, ground := Go.Ground.data }, { on := 47, ground := Go.Ground.data }, { on := 31, ground := Go.Ground.guard }], guard := some (31, true) }) (v := ?v48p103) rfl (by kernel_rfl) (by kernel_rfl) (by kernel_rfl) (fun _ _ _ h => h) (Or.inl ⟨by rfl, ?hy48p103⟩) hHeld ?rest48p103
                                case hy48p103 =>
                                  intro W' hV
                                  try dsimp only at hV
                                  go_simp
                                  all_goals with_reducible rfl
                                case' rest48p103 => try simp only [Act.put, List.setIfInBounds_toArray, List.set_cons_zero, List.set_cons_succ]
                                refine wpAnyH_take (i := 49) (oi := { dst := some 285, op := Go.Op.pick (Go.Operand.tmp 267) (Go.Operand.tmp 284) (Go.Operand.const (Go.Value.bool false)), type := 4, pos := "law.go:123", after := #[{ on := 31, ground := Go.Ground.data }, { on := 48, ground := Go.Ground.data }], guard := none }) (v := ?v49p104) rfl (by kernel_rfl) (by kernel_rfl) (by kernel_rfl) (fun _ _ _ h => h) (Or.inl ⟨by rfl, ?hy49p104⟩) hHeld ?rest49p104
                                case hy49p104 =>
                                  intro W' hV
                                  try dsimp only at hV
                                  go_simp
                                  all_goals with_reducible rfl
                                case' rest49p104 => try simp only [Act.put, List.setIfInBounds_toArray, List.set_cons_zero, List.set_cons_succ]
                                refine wpAnyH_take (i := 50) (oi := { dst := some 4, op := Go.Op.assign (Go.Operand.tmp 285), type := 4, pos := "law.go:123", after := #[{ on := 49, ground := Go.Ground.data }, { on := 40, ground := Go.Ground.chain }, { on := 0, ground := Go.Ground.phase }, { on := 1, ground := Go.Ground.phase }, { on := 2, ground := Go.Ground.phase }, { on := 3, ground := Go.Ground.phase }, { on := 4, ground := Go.Ground.phase }, { on := 5, ground := Go.Ground.phase }, { on := 6, ground := Go.Ground.phase }, { on := 7, ground := Go.Ground.phase }, { on := 8, ground := Go.Ground.phase }, { on := 9, ground := Go.Ground.phase }, { on := 10, ground := Go.Ground.phase }, { on := 11, ground := Go.Ground.phase }, { on := 12, ground := Go.Ground.phase }, { on := 13, ground := Go.Ground.phase }, { on := 14, ground := Go.Ground.phase }, { on := 15, ground := Go.Ground.phase }, { on := 16, ground := Go.Ground.phase }, { on := 17, ground := Go.Ground.phase }, { on := 18, ground := Go.Ground.phase }, { on := 19, ground := Go.Ground.phase }, { on := 20, ground := Go.Ground.phase }, { on := 21, ground := Go.Ground.phase }, { on := 22, ground := Go.Ground.phase }, { on := 23, ground := Go.Ground.phase }, { on := 24, ground := Go.Ground.phase }, { on := 25, ground := Go.Ground.phase }, { on := 26, ground := Go.Ground.phase }, { on := 27, ground := Go.Ground.phase }, { on := 28, ground := Go.Ground.phase }, { on := 29, ground := Go.Ground.phase }, { on := 30, ground := Go.Ground.phase }, { on := 31, ground := Go.Ground.phase }, { on := 32, ground := Go.Ground.phase }, { on := 33, ground := Go.Ground.phase }, { on := 34, ground := Go.Ground.phase }, { on := 35, ground := Go.Ground.phase }, { on := 36, ground := Go.Ground.phase }, { on := 37, ground := Go.Ground.phase }, { on := 38, ground := Go.Ground.phase }, { on := 39, ground := Go.Ground.phase }, { on := 40, ground := Go.Ground.phase }, { on := 41, ground := Go.Ground.phase }, { on := 42, ground := Go.Ground.phase }, { on := 43, ground := Go.Ground.phase }, { on := 44, ground := Go.Ground.phase }, { on := 45, ground := Go.Ground.phase }, { on := 46, ground := Go.Ground.phase }, { on := 47, ground := Go.Ground.phase }, { on := 48, ground := Go.Ground.phase }, { on := 49, ground := Go.Ground.phase }], guard := none }) (v := ?v50p105) rfl (by kernel_rfl) (by kernel_rfl) (by kernel_rfl) (fun _ _ _ h => h) (Or.inl ⟨by rfl, ?hy50p105⟩) hHeld ?rest50p105
                                case hy50p105 =>
                                  intro W' hV
                                  try dsimp only at hV
                                  go_simp
                                  all_goals with_reducible rfl
                                case' rest50p105 => try simp only [Act.put, List.setIfInBounds_toArray, List.set_cons_zero, List.set_cons_succ]
                                refine wpAnyH_done (by kernel_rfl) ?_ _
                                clear hHeld
                                go_wp2
                                go_ret
                                exact ⟨rfl, bt HWW.out HH2.out⟩
                            case pos =>
                              by_cases k8 : T.n < 2 * (kk : Int)
                              case pos =>
                                as_aux_lemma =>
                                  have k7b : decide (T.t ≤ (kk : Int)) = true := decide_eq_true k7
                                  have k8b : decide (T.n < 2 * (kk : Int)) = true := decide_eq_true k8
                                  have HZ := Lib.hid (show zz = 0 by rw [HZE.out]; unfold enI; rw [if_pos ⟨k7, k8⟩])
                                  rw [HZ.out] at HENW
                                  refine wp_region_held_drew (S := (fun W => Below V8b.heap.size V8b W)) (by kernel_rfl) (HX3.out.drew) (fun hHeld => ?_)
                                  refine wpAnyH_take (i := 0) (oi := { dst := some 236, op := Go.Op.move (Go.Operand.tmp 20), type := 39, pos := "law.go:123", after := #[], guard := none }) (v := ?v0p106) rfl (by kernel_rfl) (by kernel_rfl) (by kernel_rfl) (fun _ _ _ h => h) (Or.inl ⟨by rfl, ?hy0p106⟩) hHeld ?rest0p106
                                  case hy0p106 =>
                                    intro W' hV
                                    try dsimp only at hV
                                    go_simp
                                    all_goals with_reducible rfl
                                  case' rest0p106 => try simp only [Act.put, List.setIfInBounds_toArray, List.set_cons_zero, List.set_cons_succ]
                                  refine wpAnyH_take (i := 1) (oi := { dst := some 237, op := Go.Op.binOp Go.BinOp.eql 39 (Go.Operand.tmp 236) (Go.Operand.const (Go.Value.int Go.IntKind.i64 0)) 39, type := 4, pos := "law.go:123", after := #[{ on := 0, ground := Go.Ground.data }], guard := none }) (v := ?v1p107) rfl (by kernel_rfl) (by kernel_rfl) (by kernel_rfl) (fun _ _ _ h => h) (Or.inl ⟨by rfl, ?hy1p107⟩) hHeld ?rest1p107
                                  case hy1p107 =>
                                    intro W' hV
                                    try dsimp only at hV
                                    go_simp
                                    all_goals with_reducible rfl
                                  case' rest1p107 => try simp only [Act.put, List.setIfInBounds_toArray, List.set_cons_zero, List.set_cons_succ]
                                  refine wpAnyH_take (i := 2) (oi := { dst := some 238, op := Go.Op.move (Go.Operand.tmp 237), type := 4, pos := "law.go:123", after := #[{ on := 1, ground := Go.Ground.data }], guard := none }) (v := ?v2p108) rfl (by kernel_rfl) (by kernel_rfl) (by kernel_rfl) (fun _ _ _ h => h) (Or.inl ⟨by rfl, ?hy2p108⟩) hHeld ?rest2p108
                                  case hy2p108 =>
                                    intro W' hV
                                    try dsimp only at hV
                                    go_simp
                                    all_goals with_reducible rfl
                                  case' rest2p108 => try simp only [Act.put, List.setIfInBounds_toArray, List.set_cons_zero, List.set_cons_succ]
                                  refine wpAnyH_take (i := 3) (oi := { dst := some 239, op := Go.Op.move (Go.Operand.tmp 22), type := 39, pos := "law.go:123", after := #[{ on := 2, ground := Go.Ground.guard }], guard := some (2, true) }) (v := ?v3p109) rfl (by kernel_rfl) (by kernel_rfl) (by kernel_rfl) (fun _ _ _ h => h) (Or.inl ⟨by rfl, ?hy3p109⟩) hHeld ?rest3p109
                                  case hy3p109 =>
                                    intro W' hV
                                    try dsimp only at hV
                                    go_simp
                                    all_goals with_reducible rfl
                                  case' rest3p109 => try simp only [Act.put, List.setIfInBounds_toArray, List.set_cons_zero, List.set_cons_succ]
                                  refine wpAnyH_take (i := 4) (oi := { dst := some 240, op := Go.Op.binOp Go.BinOp.eql 39 (Go.Operand.tmp 239) (Go.Operand.const (Go.Value.int Go.IntKind.i64 6)) 39, type := 4, pos := "law.go:123", after := #[{ on := 3, ground := Go.Ground.data }, { on := 2, ground := Go.Ground.guard }], guard := some (2, true) }) (v := ?v4p110) rfl (by kernel_rfl) (by kernel_rfl) (by kernel_rfl) (fun _ _ _ h => h) (Or.inl ⟨by rfl, ?hy4p110⟩) hHeld ?rest4p110
                                  case hy4p110 =>
                                    intro W' hV
                                    try dsimp only at hV
                                    go_simp
                                    all_goals with_reducible rfl
                                  case' rest4p110 => try simp only [Act.put, List.setIfInBounds_toArray, List.set_cons_zero, List.set_cons_succ]
                                  refine wpAnyH_take (i := 5) (oi := { dst := some 241, op := Go.Op.pick (Go.Operand.tmp 238) (Go.Operand.tmp 240) (Go.Operand.const (Go.Value.bool false)), type := 4, pos := "law.go:123", after := #[{ on := 2, ground := Go.Ground.data }, { on := 4, ground := Go.Ground.data }], guard := none }) (v := ?v5p111) rfl (by kernel_rfl) (by kernel_rfl) (by kernel_rfl) (fun _ _ _ h => h) (Or.inl ⟨by rfl, ?hy5p111⟩) hHeld ?rest5p111
                                  case hy5p111 =>
                                    intro W' hV
                                    try dsimp only at hV
                                    go_simp
                                    all_goals with_reducible rfl
                                  case' rest5p111 => try simp only [Act.put, List.setIfInBounds_toArray, List.set_cons_zero, List.set_cons_succ]
                                  refine wpAnyH_take (i := 6) (oi := { dst := some 242, op := Go.Op.move (Go.Operand.tmp 241), type := 4, pos := "law.go:123", after := #[{ on := 5, ground := Go.Ground.data }, { on := 2, ground := Go.Ground.chain }], guard := none }) (v := ?v6p112) rfl (by kernel_rfl) (by kernel_rfl) (by kernel_rfl) (fun _ _ _ h => h) (Or.inl ⟨by rfl, ?hy6p112⟩) hHeld ?rest6p112
                                  case hy6p112 =>
                                    intro W' hV
                                    try dsimp only at hV
                                    go_simp
                                    all_goals with_reducible rfl
                                  case' rest6p112 => try simp only [Act.put, List.setIfInBounds_toArray, List.set_cons_zero, List.set_cons_succ]
                                  refine wpAnyH_take (i := 7) (oi := { dst := some 243, op := Go.Op.move (Go.Operand.tmp 1), type := 3, pos := "law.go:123", after := #[{ on := 6, ground := Go.Ground.guard }], guard := some (6, true) }) (v := ?v7p113) rfl (by kernel_rfl) (by kernel_rfl) (by kernel_rfl) (fun _ _ _ h => h) (Or.inl ⟨by rfl, ?hy7p113⟩) hHeld ?rest7p113
                                  case hy7p113 =>
                                    intro W' hV
                                    try dsimp only at hV
                                    go_simp
                                    all_goals with_reducible rfl
                                  case' rest7p113 => try simp only [Act.put, List.setIfInBounds_toArray, List.set_cons_zero, List.set_cons_succ]
                                  refine wpAnyH_take (i := 8) (oi := { dst := some 244, op := Go.Op.fieldAddr 35 (Go.Operand.tmp 19) 9, type := 0, pos := "law.go:123", after := #[{ on := 6, ground := Go.Ground.guard }], guard := some (6, true) }) (v := ?v8p114) rfl (by kernel_rfl) (by kernel_rfl) (by kernel_rfl) (fun _ _ _ h => h) (Or.inl ⟨by rfl, ?hy8p114⟩) hHeld ?rest8p114
                                  case hy8p114 =>
                                    intro W' hV
                                    try dsimp only at hV
                                    go_simp
                                    all_goals with_reducible rfl
                                  case' rest8p114 => try simp only [Act.put, List.setIfInBounds_toArray, List.set_cons_zero, List.set_cons_succ]
                                  refine wpAnyH_take (i := 9) (oi := { dst := some 245, op := Go.Op.indexAddr 33 (Go.Operand.tmp 244) (Go.Operand.tmp 243), type := 0, pos := "law.go:123", after := #[{ on := 8, ground := Go.Ground.data }, { on := 7, ground := Go.Ground.data }, { on := 6, ground := Go.Ground.guard }], guard := some (6, true) }) (v := ?v9p115) rfl (by kernel_rfl) (by kernel_rfl) (by kernel_rfl) (fun _ _ _ h => h) (Or.inl ⟨by rfl, ?hy9p115⟩) hHeld ?rest9p115
                                  case hy9p115 =>
                                    intro W' hV
                                    try dsimp only at hV
                                    go_simp
                                    all_goals with_reducible rfl
                                  case' rest9p115 => try simp only [Act.put, List.setIfInBounds_toArray, List.set_cons_zero, List.set_cons_succ]
                                  refine wpAnyH_take (i := 10) (oi := { dst := some 246, op := Go.Op.load 4 (Go.Operand.tmp 245), type := 4, pos := "law.go:123", after := #[{ on := 9, ground := Go.Ground.data }, { on := 6, ground := Go.Ground.guard }], guard := some (6, true) }) (v := ?v10p116) rfl (by kernel_rfl) (by kernel_rfl) (by kernel_rfl) (fun _ _ _ h => h) (Or.inl ⟨by rfl, ?hy10p116⟩) hHeld ?rest10p116
                                  case hy10p116 =>
                                    intro W' hV
                                    try dsimp only at hV
                                    go_simp
                                    all_goals with_reducible rfl
                                  case' rest10p116 => try simp only [Act.put, List.setIfInBounds_toArray, List.set_cons_zero, List.set_cons_succ]
                                  refine wpAnyH_take (i := 11) (oi := { dst := some 247, op := Go.Op.unOp Go.UnOp.not 4 (Go.Operand.tmp 246), type := 4, pos := "law.go:123", after := #[{ on := 10, ground := Go.Ground.data }, { on := 6, ground := Go.Ground.guard }], guard := some (6, true) }) (v := ?v11p117) rfl (by kernel_rfl) (by kernel_rfl) (by kernel_rfl) (fun _ _ _ h => h) (Or.inl ⟨by rfl, ?hy11p117⟩) hHeld ?rest11p117
                                  case hy11p117 =>
                                    intro W' hV
                                    try dsimp only at hV
                                    go_simp
                                    all_goals with_reducible rfl
                                  case' rest11p117 => try simp only [Act.put, List.setIfInBounds_toArray, List.set_cons_zero, List.set_cons_succ]
                                  refine wpAnyH_take (i := 12) (oi := { dst := some 248, op := Go.Op.pick (Go.Operand.tmp 242) (Go.Operand.tmp 247) (Go.Operand.const (Go.Value.bool false)), type := 4, pos := "law.go:123", after := #[{ on := 6, ground := Go.Ground.data }, { on := 11, ground := Go.Ground.data }], guard := none }) (v := ?v12p118) rfl (by kernel_rfl) (by kernel_rfl) (by kernel_rfl) (fun _ _ _ h => h) (Or.inl ⟨by rfl, ?hy12p118⟩) hHeld ?rest12p118
                                  case hy12p118 =>
                                    intro W' hV
                                    try dsimp only at hV
                                    go_simp
                                    all_goals with_reducible rfl
                                  case' rest12p118 => try simp only [Act.put, List.setIfInBounds_toArray, List.set_cons_zero, List.set_cons_succ]
                                  refine wpAnyH_take (i := 13) (oi := { dst := some 249, op := Go.Op.move (Go.Operand.tmp 248), type := 4, pos := "law.go:123", after := #[{ on := 12, ground := Go.Ground.data }, { on := 6, ground := Go.Ground.chain }], guard := none }) (v := ?v13p119) rfl (by kernel_rfl) (by kernel_rfl) (by kernel_rfl) (fun _ _ _ h => h) (Or.inl ⟨by rfl, ?hy13p119⟩) hHeld ?rest13p119
                                  case hy13p119 =>
                                    intro W' hV
                                    try dsimp only at hV
                                    go_simp
                                    all_goals with_reducible rfl
                                  case' rest13p119 => try simp only [Act.put, List.setIfInBounds_toArray, List.set_cons_zero, List.set_cons_succ]
                                  refine wpAnyH_take (i := 14) (oi := { dst := some 250, op := Go.Op.fieldAddr 35 (Go.Operand.tmp 19) 8, type := 0, pos := "law.go:123", after := #[{ on := 13, ground := Go.Ground.guard }], guard := some (13, true) }) (v := ?v14p120) rfl (by kernel_rfl) (by kernel_rfl) (by kernel_rfl) (fun _ _ _ h => h) (Or.inl ⟨by rfl, ?hy14p120⟩) hHeld ?rest14p120
                                  case hy14p120 =>
                                    intro W' hV
                                    try dsimp only at hV
                                    go_simp
                                    all_goals with_reducible rfl
                                  case' rest14p120 => try simp only [Act.put, List.setIfInBounds_toArray, List.set_cons_zero, List.set_cons_succ]
                                  refine wpAnyH_take (i := 15) (oi := { dst := some 251, op := Go.Op.load 25 (Go.Operand.tmp 250), type := 25, pos := "law.go:123", after := #[{ on := 14, ground := Go.Ground.data }, { on := 13, ground := Go.Ground.guard }], guard := some (13, true) }) (v := ?v15p121) rfl (by kernel_rfl) (by kernel_rfl) (by kernel_rfl) (fun _ _ _ h => h) (Or.inl ⟨by rfl, ?hy15p121⟩) hHeld ?rest15p121
                                  case hy15p121 =>
                                    intro W' hV
                                    try dsimp only at hV
                                    go_simp
                                    all_goals with_reducible rfl
                                  case' rest15p121 => try simp only [Act.put, List.setIfInBounds_toArray, List.set_cons_zero, List.set_cons_succ]
                                  refine wpAnyH_take (i := 16) (oi := { dst := some 252, op := Go.Op.fieldAddr 38 (Go.Operand.tmp 9) 0, type := 0, pos := "law.go:123", after := #[{ on := 13, ground := Go.Ground.guard }], guard := some (13, true) }) (v := ?v16p122) rfl (by kernel_rfl) (by kernel_rfl) (by kernel_rfl) (fun _ _ _ h => h) (Or.inl ⟨by rfl, ?hy16p122⟩) hHeld ?rest16p122
                                  case hy16p122 =>
                                    intro W' hV
                                    try dsimp only at hV
                                    go_simp
                                    all_goals with_reducible rfl
                                  case' rest16p122 => try simp only [Act.put, List.setIfInBounds_toArray, List.set_cons_zero, List.set_cons_succ]
                                  refine wpAnyH_take (i := 17) (oi := { dst := some 253, op := Go.Op.fieldAddr 35 (Go.Operand.tmp 252) 8, type := 0, pos := "law.go:123", after := #[{ on := 16, ground := Go.Ground.data }, { on := 13, ground := Go.Ground.guard }], guard := some (13, true) }) (v := ?v17p123) rfl (by kernel_rfl) (by kernel_rfl) (by kernel_rfl) (fun _ _ _ h => h) (Or.inl ⟨by rfl, ?hy17p123⟩) hHeld ?rest17p123
                                  case hy17p123 =>
                                    intro W' hV
                                    try dsimp only at hV
                                    go_simp
                                    all_goals with_reducible rfl
                                  case' rest17p123 => try simp only [Act.put, List.setIfInBounds_toArray, List.set_cons_zero, List.set_cons_succ]
                                  refine wpAnyH_take (i := 18) (oi := { dst := some 254, op := Go.Op.load 25 (Go.Operand.tmp 253), type := 25, pos := "law.go:123", after := #[{ on := 17, ground := Go.Ground.data }, { on := 13, ground := Go.Ground.guard }], guard := some (13, true) }) (v := ?v18p124) rfl (by kernel_rfl) (by kernel_rfl) (by kernel_rfl) (fun _ _ _ h => h) (Or.inl ⟨by rfl, ?hy18p124⟩) hHeld ?rest18p124
                                  case hy18p124 =>
                                    intro W' hV
                                    try dsimp only at hV
                                    go_simp
                                    all_goals with_reducible rfl
                                  case' rest18p124 => try simp only [Act.put, List.setIfInBounds_toArray, List.set_cons_zero, List.set_cons_succ]
                                  refine wpAnyH_take (i := 19) (oi := { dst := some 255, op := Go.Op.binOp Go.BinOp.add 25 (Go.Operand.tmp 254) (Go.Operand.const (Go.Value.int Go.IntKind.u32 1)) 25, type := 25, pos := "law.go:123", after := #[{ on := 18, ground := Go.Ground.data }, { on := 13, ground := Go.Ground.guard }], guard := some (13, true) }) (v := ?v19p125) rfl (by kernel_rfl) (by kernel_rfl) (by kernel_rfl) (fun _ _ _ h => h) (Or.inl ⟨by rfl, ?hy19p125⟩) hHeld ?rest19p125
                                  case hy19p125 =>
                                    intro W' hV
                                    try dsimp only at hV
                                    go_simp
                                    all_goals with_reducible rfl
                                  case' rest19p125 => try simp only [Act.put, List.setIfInBounds_toArray, List.set_cons_zero, List.set_cons_succ]
                                  refine wpAnyH_take (i := 20) (oi := { dst := some 256, op := Go.Op.binOp Go.BinOp.eql 25 (Go.Operand.tmp 251) (Go.Operand.tmp 255) 25, type := 4, pos := "law.go:123", after := #[{ on := 15, ground := Go.Ground.data }, { on := 19, ground := Go.Ground.data }, { on := 13, ground := Go.Ground.guard }], guard := some (13, true) }) (v := ?v20p126) rfl (by kernel_rfl) (by kernel_rfl) (by kernel_rfl) (fun _ _ _ h => h) (Or.inl ⟨by rfl, ?hy20p126⟩) hHeld ?rest20p126
                                  case hy20p126 =>
                                    intro W' hV
                                    try dsimp only at hV
                                    go_simp
                                    all_goals with_reducible rfl
                                  case' rest20p126 => try simp only [Act.put, List.setIfInBounds_toArray, List.set_cons_zero, List.set_cons_succ]
                                  refine wpAnyH_take (i := 21) (oi := { dst := some 257, op := Go.Op.pick (Go.Operand.tmp 249) (Go.Operand.tmp 256) (Go.Operand.const (Go.Value.bool false)), type := 4, pos := "law.go:123", after := #[{ on := 13, ground := Go.Ground.data }, { on := 20, ground := Go.Ground.data }], guard := none }) (v := ?v21p127) rfl (by kernel_rfl) (by kernel_rfl) (by kernel_rfl) (fun _ _ _ h => h) (Or.inl ⟨by rfl, ?hy21p127⟩) hHeld ?rest21p127
                                  case hy21p127 =>
                                    intro W' hV
                                    try dsimp only at hV
                                    go_simp
                                    all_goals with_reducible rfl
                                  case' rest21p127 => try simp only [Act.put, List.setIfInBounds_toArray, List.set_cons_zero, List.set_cons_succ]
                                  refine wpAnyH_take (i := 22) (oi := { dst := some 258, op := Go.Op.move (Go.Operand.tmp 257), type := 4, pos := "law.go:123", after := #[{ on := 21, ground := Go.Ground.data }, { on := 13, ground := Go.Ground.chain }], guard := none }) (v := ?v22p128) rfl (by kernel_rfl) (by kernel_rfl) (by kernel_rfl) (fun _ _ _ h => h) (Or.inl ⟨by rfl, ?hy22p128⟩) hHeld ?rest22p128
                                  case hy22p128 =>
                                    intro W' hV
                                    try dsimp only at hV
                                    go_simp
                                    all_goals with_reducible rfl
                                  case' rest22p128 => try simp only [Act.put, List.setIfInBounds_toArray, List.set_cons_zero, List.set_cons_succ]
                                  refine wpAnyH_take (i := 23) (oi := { dst := some 259, op := Go.Op.move (Go.Operand.tmp 24), type := 3, pos := "law.go:123", after := #[{ on := 22, ground := Go.Ground.guard }], guard := some (22, true) }) (v := ?v23p129) rfl (by kernel_rfl) (by kernel_rfl) (by kernel_rfl) (fun _ _ _ h => h) (Or.inl ⟨by rfl, ?hy23p129⟩) hHeld ?rest23p129
                                  case hy23p129 =>
                                    intro W' hV
                                    try dsimp only at hV
                                    go_simp
                                    all_goals with_reducible rfl
                                  case' rest23p129 => try simp only [Act.put, List.setIfInBounds_toArray, List.set_cons_zero, List.set_cons_succ]
                                  refine wpAnyH_take (i := 24) (oi := { dst := some 260, op := Go.Op.fieldAddr 38 (Go.Operand.tmp 9) 0, type := 0, pos := "law.go:123", after := #[{ on := 22, ground := Go.Ground.guard }], guard := some (22, true) }) (v := ?v24p130) rfl (by kernel_rfl) (by kernel_rfl) (by kernel_rfl) (fun _ _ _ h => h) (Or.inl ⟨by rfl, ?hy24p130⟩) hHeld ?rest24p130
                                  case hy24p130 =>
                                    intro W' hV
                                    try dsimp only at hV
                                    go_simp
                                    all_goals with_reducible rfl
                                  case' rest24p130 => try simp only [Act.put, List.setIfInBounds_toArray, List.set_cons_zero, List.set_cons_succ]
                                  refine wpAnyH_take (i := 25) (oi := { dst := some 261, op := Go.Op.load 35 (Go.Operand.tmp 260), type := 35, pos := "law.go:123", after := #[{ on := 24, ground := Go.Ground.data }, { on := 22, ground := Go.Ground.guard }], guard := some (22, true) }) (v := .agg sT) rfl (by kernel_rfl) (by kernel_rfl) (by kernel_rfl) (fun _ _ _ h => h) (yields_loadAt (by rfl) 35 (.tmp 260) rfl (by rfl) (fun W h => hldt W h)) hHeld ?rest25p131
                                  case' rest25p131 => try simp only [Act.put, List.setIfInBounds_toArray, List.set_cons_zero, List.set_cons_succ]
                                  generalize x3.drew = v0 at hHeld ⊢
                                  have HH0 := Lib.hid hHeld
                                  refine wpAnyH_ready (rs := [26]) (by kernel_rfl) (by simp) ?_
                                  refine AllReadyH.cons (o := { dst := some 262, op := Go.Op.call { callee := Go.Callee.value (Go.Operand.func 11), args := #[Go.Operand.tmp 261], argTypes := #[35] }, type := 36, pos := "law.go:123", after := #[{ on := 25, ground := Go.Ground.data }, { on := 22, ground := Go.Ground.chain }, { on := 22, ground := Go.Ground.guard }], guard := some (22, true) }) rfl (fun K' hK => ?_) AllReadyH.nil
                                  rw [if_pos (by rfl)]
                                  go_wp2_with (go_at_call 11; go_loud ((with_reducible refine (HIN2.out v0).mono ?_); rintro e v1 ⟨⟨a1, c1, rfl, hi1⟩, hb1⟩))
                                  refine hK.out _ _ (bt HH0.out hb1) (fun hHeld1 => ?_)
                                  clear hK K' hHeld
                                  have hHeld := hHeld1
                                  clear hHeld1
                                  try simp only [Act.put, List.setIfInBounds_toArray, List.set_cons_zero, List.set_cons_succ]
                                  have HH1 := Lib.hid hHeld
                                  clear hi1 hb1
                                  refine wpAnyH_take (i := 27) (oi := { dst := some 263, op := Go.Op.call { callee := Go.Callee.builtin Go.Builtin.len, args := #[Go.Operand.tmp 262], argTypes := #[36] }, type := 3, pos := "law.go:123", after := #[{ on := 26, ground := Go.Ground.data }, { on := 22, ground := Go.Ground.guard }], guard := some (22, true) }) (v := ?v27p132) rfl (by kernel_rfl) (by kernel_rfl) (by kernel_rfl) (fun _ _ _ h => h) (Or.inl ⟨by rfl, ?hy27p132⟩) hHeld ?rest27p132
                                  case hy27p132 =>
                                    intro W' hV
                                    try dsimp only at hV
                                    go_simp
                                    all_goals with_reducible rfl
                                  case' rest27p132 => try simp only [Act.put, List.setIfInBounds_toArray, List.set_cons_zero, List.set_cons_succ]
                                  refine wpAnyH_take (i := 28) (oi := { dst := some 264, op := Go.Op.binOp Go.BinOp.sub 3 (Go.Operand.tmp 263) (Go.Operand.const (Go.Value.int Go.IntKind.i64 1)) 3, type := 3, pos := "law.go:123", after := #[{ on := 27, ground := Go.Ground.data }, { on := 22, ground := Go.Ground.guard }], guard := some (22, true) }) (v := ?v28p133) rfl (by kernel_rfl) (by kernel_rfl) (by kernel_rfl) (fun _ _ _ h => h) (Or.inl ⟨by rfl, ?hy28p133⟩) hHeld ?rest28p133
                                  case hy28p133 =>
                                    intro W' hV
                                    try dsimp only at hV
                                    go_simp
                                    all_goals with_reducible rfl
                                  case' rest28p133 => try simp only [Act.put, List.setIfInBounds_toArray, List.set_cons_zero, List.set_cons_succ]
                                  refine wpAnyH_take (i := 29) (oi := { dst := some 265, op := Go.Op.binOp Go.BinOp.eql 3 (Go.Operand.tmp 259) (Go.Operand.tmp 264) 3, type := 4, pos := "law.go:123", after := #[{ on := 23, ground := Go.Ground.data }, { on := 28, ground := Go.Ground.data }, { on := 22, ground := Go.Ground.guard }], guard := some (22, true) }) (v := ?v29p134) rfl (by kernel_rfl) (by kernel_rfl) (by kernel_rfl) (fun _ _ _ h => h) (Or.inl ⟨by rfl, ?hy29p134⟩) hHeld ?rest29p134
                                  case hy29p134 =>
                                    intro W' hV
                                    try dsimp only at hV
                                    go_simp
                                    all_goals with_reducible rfl
                                  case' rest29p134 => try simp only [Act.put, List.setIfInBounds_toArray, List.set_cons_zero, List.set_cons_succ]
                                  refine wpAnyH_take (i := 30) (oi := { dst := some 266, op := Go.Op.pick (Go.Operand.tmp 258) (Go.Operand.tmp 265) (Go.Operand.const (Go.Value.bool false)), type := 4, pos := "law.go:123", after := #[{ on := 22, ground := Go.Ground.data }, { on := 29, ground := Go.Ground.data }], guard := none }) (v := ?v30p135) rfl (by kernel_rfl) (by kernel_rfl) (by kernel_rfl) (fun _ _ _ h => h) (Or.inl ⟨by rfl, ?hy30p135⟩) hHeld ?rest30p135
                                  case hy30p135 =>
                                    intro W' hV
                                    try dsimp only at hV
                                    go_simp
                                    all_goals with_reducible rfl
                                  case' rest30p135 => try simp only [Act.put, List.setIfInBounds_toArray, List.set_cons_zero, List.set_cons_succ]
                                  refine wpAnyH_take (i := 31) (oi := { dst := some 267, op := Go.Op.move (Go.Operand.tmp 266), type := 4, pos := "law.go:123", after := #[{ on := 30, ground := Go.Ground.data }, { on := 26, ground := Go.Ground.chain }], guard := none }) (v := ?v31p136) rfl (by kernel_rfl) (by kernel_rfl) (by kernel_rfl) (fun _ _ _ h => h) (Or.inl ⟨by rfl, ?hy31p136⟩) hHeld ?rest31p136
                                  case hy31p136 =>
                                    intro W' hV
                                    try dsimp only at hV
                                    go_simp
                                    all_goals with_reducible rfl
                                  case' rest31p136 => try simp only [Act.put, List.setIfInBounds_toArray, List.set_cons_zero, List.set_cons_succ]
                                  refine wpAnyH_take (i := 32) (oi := { dst := some 268, op := Go.Op.load 35 (Go.Operand.tmp 19), type := 35, pos := "law.go:123", after := #[{ on := 31, ground := Go.Ground.guard }], guard := some (31, true) }) (v := .agg sW) rfl (by kernel_rfl) (by kernel_rfl) (by kernel_rfl) (fun _ _ _ h => h) (yields_loadAt (by rfl) 35 (.tmp 19) rfl (by rfl) (fun W h => hldw W h)) hHeld ?rest32p137
                                  case' rest32p137 => try simp only [Act.put, List.setIfInBounds_toArray, List.set_cons_zero, List.set_cons_succ]
                                  refine wpAnyH_take (i := 35) (oi := { dst := some 271, op := Go.Op.move (Go.Operand.tmp 24), type := 3, pos := "law.go:123", after := #[{ on := 31, ground := Go.Ground.guard }], guard := some (31, true) }) (v := ?v35p138) rfl (by kernel_rfl) (by kernel_rfl) (by kernel_rfl) (fun _ _ _ h => h) (Or.inl ⟨by rfl, ?hy35p138⟩) hHeld ?rest35p138
                                  case hy35p138 =>
                                    intro W' hV
                                    try dsimp only at hV
                                    go_simp
                                    all_goals with_reducible rfl
                                  case' rest35p138 => try simp only [Act.put, List.setIfInBounds_toArray, List.set_cons_zero, List.set_cons_succ]
                                  refine wpAnyH_take (i := 36) (oi := { dst := some 272, op := Go.Op.fieldAddr 35 (Go.Operand.tmp 19) 3, type := 0, pos := "law.go:123", after := #[{ on := 31, ground := Go.Ground.guard }], guard := some (31, true) }) (v := ?v36p139) rfl (by kernel_rfl) (by kernel_rfl) (by kernel_rfl) (fun _ _ _ h => h) (Or.inl ⟨by rfl, ?hy36p139⟩) hHeld ?rest36p139
                                  case hy36p139 =>
                                    intro W' hV
                                    try dsimp only at hV
                                    go_simp
                                    all_goals with_reducible rfl
                                  case' rest36p139 => try simp only [Act.put, List.setIfInBounds_toArray, List.set_cons_zero, List.set_cons_succ]
                                  refine wpAnyH_take (i := 37) (oi := { dst := some 273, op := Go.Op.load 5 (Go.Operand.tmp 272), type := 5, pos := "law.go:123", after := #[{ on := 36, ground := Go.Ground.data }, { on := 31, ground := Go.Ground.guard }], guard := some (31, true) }) (v := ?v37p140) rfl (by kernel_rfl) (by kernel_rfl) (by kernel_rfl) (fun _ _ _ h => h) (Or.inl ⟨by rfl, ?hy37p140⟩) hHeld ?rest37p140
                                  case hy37p140 =>
                                    intro W' hV
                                    try dsimp only at hV
                                    go_simp
                                    all_goals with_reducible rfl
                                  case' rest37p140 => try simp only [Act.put, List.setIfInBounds_toArray, List.set_cons_zero, List.set_cons_succ]
                                  refine wpAnyH_take (i := 38) (oi := { dst := some 274, op := Go.Op.convert 5 3 (Go.Operand.tmp 273), type := 3, pos := "law.go:123", after := #[{ on := 37, ground := Go.Ground.data }, { on := 31, ground := Go.Ground.guard }], guard := some (31, true) }) (v := ?v38p141) rfl (by kernel_rfl) (by kernel_rfl) (by kernel_rfl) (fun _ _ _ h => h) (Or.inl ⟨by rfl, ?hy38p141⟩) hHeld ?rest38p141
                                  case hy38p141 =>
                                    intro W' hV
                                    try dsimp only at hV
                                    go_simp
                                    all_goals with_reducible rfl
                                  case' rest38p141 => try simp only [Act.put, List.setIfInBounds_toArray, List.set_cons_zero, List.set_cons_succ]
                                  refine wpAnyH_take (i := 39) (oi := { dst := some 275, op := Go.Op.binOp Go.BinOp.geq 3 (Go.Operand.tmp 271) (Go.Operand.tmp 274) 3, type := 4, pos := "law.go:123", after := #[{ on := 35, ground := Go.Ground.data }, { on := 38, ground := Go.Ground.data }, { on := 31, ground := Go.Ground.guard }], guard := some (31, true) }) (v := ?v39p142) rfl (by kernel_rfl) (by kernel_rfl) (by kernel_rfl) (fun _ _ _ h => h) (Or.inl ⟨by rfl, ?hy39p142⟩) hHeld ?rest39p142
                                  case hy39p142 =>
                                    intro W' hV
                                    try dsimp only at hV
                                    go_simp
                                    all_goals with_reducible rfl
                                  case' rest39p142 => try simp only [Act.put, List.setIfInBounds_toArray, List.set_cons_zero, List.set_cons_succ]
                                  refine wpAnyH_ready (rs := [33]) (by kernel_rfl) (by simp) ?_
                                  refine AllReadyH.cons (o := { dst := some 269, op := Go.Op.call { callee := Go.Callee.value (Go.Operand.func 12), args := #[Go.Operand.tmp 268], argTypes := #[35] }, type := 39, pos := "law.go:123", after := #[{ on := 32, ground := Go.Ground.data }, { on := 31, ground := Go.Ground.chain }, { on := 31, ground := Go.Ground.guard }], guard := some (31, true) }) rfl (fun K' hK => ?_) AllReadyH.nil
                                  rw [if_pos (by rfl)]
                                  go_wp2_with (go_at_call 12; go_loud ((with_reducible refine (HENW.out v1).mono ?_); rintro e v2 ⟨rfl, hb2⟩))
                                  refine hK.out _ _ (bt HH1.out hb2) (fun hHeld1 => ?_)
                                  clear hK K' hHeld
                                  have hHeld := hHeld1
                                  clear hHeld1
                                  try simp only [Act.put, List.setIfInBounds_toArray, List.set_cons_zero, List.set_cons_succ]
                                  have HH2 := Lib.hid hHeld
                                  clear hb2
                                  refine wpAnyH_take (i := 34) (oi := { dst := some 270, op := Go.Op.binOp Go.BinOp.eql 39 (Go.Operand.tmp 269) (Go.Operand.const (Go.Value.int Go.IntKind.i64 0)) 39, type := 4, pos := "law.go:123", after := #[{ on := 33, ground := Go.Ground.data }, { on := 31, ground := Go.Ground.guard }], guard := some (31, true) }) (v := ?v34p143) rfl (by kernel_rfl) (by kernel_rfl) (by kernel_rfl) (fun _ _ _ h => h) (Or.inl ⟨by rfl, ?hy34p143⟩) hHeld ?rest34p143
                                  case hy34p143 =>
                                    intro W' hV
                                    try dsimp only at hV
                                    go_simp
                                    all_goals with_reducible rfl
                                  case' rest34p143 => try simp only [Act.put, List.setIfInBounds_toArray, List.set_cons_zero, List.set_cons_succ]
                                  refine wpAnyH_take (i := 40) (oi := { dst := some 276, op := Go.Op.move (Go.Operand.tmp 275), type := 4, pos := "law.go:123", after := #[{ on := 39, ground := Go.Ground.data }, { on := 33, ground := Go.Ground.chain }, { on := 31, ground := Go.Ground.guard }], guard := some (31, true) }) (v := ?v40p144) rfl (by kernel_rfl) (by kernel_rfl) (by kernel_rfl) (fun _ _ _ h => h) (Or.inl ⟨by rfl, ?hy40p144⟩) hHeld ?rest40p144
                                  case hy40p144 =>
                                    intro W' hV
                                    try dsimp only at hV
                                    go_simp
                                    all_goals with_reducible rfl
                                  case' rest40p144 => try simp only [Act.put, List.setIfInBounds_toArray, List.set_cons_zero, List.set_cons_succ]
                                  refine wpAnyH_take (i := 41) (oi := { dst := some 277, op := Go.Op.move (Go.Operand.tmp 24), type := 3, pos := "law.go:123", after := #[{ on := 40, ground := Go.Ground.guard }], guard := some (40, true) }) (v := ?v41p145) rfl (by kernel_rfl) (by kernel_rfl) (by kernel_rfl) (fun _ _ _ h => h) (Or.inl ⟨by rfl, ?hy41p145⟩) hHeld ?rest41p145
                                  case hy41p145 =>
                                    intro W' hV
                                    try dsimp only at hV
                                    go_simp
                                    all_goals with_reducible rfl
                                  case' rest41p145 => try simp only [Act.put, List.setIfInBounds_toArray, List.set_cons_zero, List.set_cons_succ]
                                  refine wpAnyH_take (i := 42) (oi := { dst := some 278, op := Go.Op.binOp Go.BinOp.mul 3 (Go.Operand.const (Go.Value.int Go.IntKind.i64 2)) (Go.Operand.tmp 277) 3, type := 3, pos := "law.go:123", after := #[{ on := 41, ground := Go.Ground.data }, { on := 40, ground := Go.Ground.guard }], guard := some (40, true) }) (v := ?v42p146) rfl (by kernel_rfl) (by kernel_rfl) (by kernel_rfl) (fun _ _ _ h => h) (Or.inl ⟨by rfl, ?hy42p146⟩) hHeld ?rest42p146
                                  case hy42p146 =>
                                    intro W' hV
                                    try dsimp only at hV
                                    go_simp
                                    all_goals with_reducible rfl
                                  case' rest42p146 => try simp only [Act.put, List.setIfInBounds_toArray, List.set_cons_zero, List.set_cons_succ]
                                  refine wpAnyH_take (i := 43) (oi := { dst := some 279, op := Go.Op.fieldAddr 35 (Go.Operand.tmp 19) 2, type := 0, pos := "law.go:123", after := #[{ on := 40, ground := Go.Ground.guard }], guard := some (40, true) }) (v := ?v43p147) rfl (by kernel_rfl) (by kernel_rfl) (by kernel_rfl) (fun _ _ _ h => h) (Or.inl ⟨by rfl, ?hy43p147⟩) hHeld ?rest43p147
                                  case hy43p147 =>
                                    intro W' hV
                                    try dsimp only at hV
                                    go_simp
                                    all_goals with_reducible rfl
                                  case' rest43p147 => try simp only [Act.put, List.setIfInBounds_toArray, List.set_cons_zero, List.set_cons_succ]
                                  refine wpAnyH_take (i := 44) (oi := { dst := some 280, op := Go.Op.load 5 (Go.Operand.tmp 279), type := 5, pos := "law.go:123", after := #[{ on := 43, ground := Go.Ground.data }, { on := 40, ground := Go.Ground.guard }], guard := some (40, true) }) (v := ?v44p148) rfl (by kernel_rfl) (by kernel_rfl) (by kernel_rfl) (fun _ _ _ h => h) (Or.inl ⟨by rfl, ?hy44p148⟩) hHeld ?rest44p148
                                  case hy44p148 =>
                                    intro W' hV
                                    try dsimp only at hV
                                    go_simp
                                    all_goals with_reducible rfl
                                  case' rest44p148 => try simp only [Act.put, List.setIfInBounds_toArray, List.set_cons_zero, List.set_cons_succ]
                                  refine wpAnyH_take (i := 45) (oi := { dst := some 281, op := Go.Op.convert 5 3 (Go.Operand.tmp 280), type := 3, pos := "law.go:123", after := #[{ on := 44, ground := Go.Ground.data }, { on := 40, ground := Go.Ground.guard }], guard := some (40, true) }) (v := ?v45p149) rfl (by kernel_rfl) (by kernel_rfl) (by kernel_rfl) (fun _ _ _ h => h) (Or.inl ⟨by rfl, ?hy45p149⟩) hHeld ?rest45p149
                                  case hy45p149 =>
                                    intro W' hV
                                    try dsimp only at hV
                                    go_simp
                                    all_goals with_reducible rfl
                                  case' rest45p149 => try simp only [Act.put, List.setIfInBounds_toArray, List.set_cons_zero, List.set_cons_succ]
                                  refine wpAnyH_take (i := 46) (oi := { dst := some 282, op := Go.Op.binOp Go.BinOp.gtr 3 (Go.Operand.tmp 278) (Go.Operand.tmp 281) 3, type := 4, pos := "law.go:123", after := #[{ on := 42, ground := Go.Ground.data }, { on := 45, ground := Go.Ground.data }, { on := 40, ground := Go.Ground.guard }], guard := some (40, true) }) (v := ?v46p150) rfl (by kernel_rfl) (by kernel_rfl) (by kernel_rfl) (fun _ _ _ h => h) (Or.inl ⟨by rfl, ?hy46p150⟩) hHeld ?rest46p150
                                  case hy46p150 =>
                                    intro W' hV
                                    try dsimp only at hV
                                    go_simp
                                    all_goals with_reducible rfl
                                  case' rest46p150 => try simp only [Act.put, List.setIfInBounds_toArray, List.set_cons_zero, List.set_cons_succ]
                                  refine wpAnyH_take (i := 47) (oi := { dst := some 283, op := Go.Op.pick (Go.Operand.tmp 276) (Go.Operand.tmp 282) (Go.Operand.const (Go.Value.bool false)), type := 4, pos := "law.go:123", after := #[{ on := 40, ground := Go.Ground.data }, { on := 46, ground := Go.Ground.data }, { on := 31, ground := Go.Ground.guard }], guard := some (31, true) }) (v := ?v47p151) rfl (by kernel_rfl) (by kernel_rfl) (by kernel_rfl) (fun _ _ _ h => h) (Or.inl ⟨by rfl, ?hy47p151⟩) hHeld ?rest47p151
                                  case hy47p151 =>
                                    intro W' hV
                                    try dsimp only at hV
                                    go_simp
                                    all_goals with_reducible rfl
                                  case' rest47p151 => try simp only [Act.put, List.setIfInBounds_toArray, List.set_cons_zero, List.set_cons_succ]
                                  refine wpAnyH_take (i := 48) (oi := { dst := some 284, op := Go.Op.binOp Go.BinOp.eql 4 (Go.Operand.tmp 270) (Go.Operand.tmp 283) 4, type := 4, pos := "law.go:123", after := #[{ on := 34, ground := Go.Ground.data }, { on := 47, ground := Go.Ground.data }, { on := 31, ground := Go.Ground.guard }], guard := some (31, true) }) (v := ?v48p152) rfl (by kernel_rfl) (by kernel_rfl) (by kernel_rfl) (fun _ _ _ h => h) (Or.inl ⟨by rfl, ?hy48p152⟩) hHeld ?rest48p152
                                  case hy48p152 =>
                                    intro W' hV
                                    try dsimp only at hV
                                    go_simp
                                    all_goals with_reducible rfl
                                  case' rest48p152 => try simp only [Act.put, List.setIfInBounds_toArray, List.set_cons_zero, List.set_cons_succ]
                                  refine wpAnyH_take (i := 49) (oi := { dst := some 285, op := Go.Op.pick (Go.Operand.tmp 267) (Go.Operand.tmp 284) (Go.Operand.const (Go.Value.bool false)), type := 4, pos := "law.go:123", after := #[{ on := 31, ground := Go.Ground.data }, { on := 48, ground := Go.Ground.data }], guard := none }) (v := ?v49p153) rfl (by kernel_rfl) (by kernel_rfl) (by kernel_rfl) (fun _ _ _ h => h) (Or.inl ⟨by rfl, ?hy49p153⟩) hHeld ?rest49p153
                                  case hy49p153 =>
                                    intro W' hV
                                    try dsimp only at hV
                                    go_simp
                                    all_goals with_reducible rfl
                                  case' rest49p153 => try simp only [Act.put, List.setIfInBounds_toArray, List.set_cons_zero, List.set_cons_succ]
                                  refine wpAnyH_take (i := 50) (oi := { dst := some 4, op := Go.Op.assign (Go.Operand.tmp 285), type := 4, pos := "law.go:123", after := #[{ on := 49, ground := Go.Ground.data }, { on := 40, ground := Go.Ground.chain }, { on := 0, ground := Go.Ground.phase }, { on := 1, ground := Go.Ground.phase }, { on := 2, ground := Go.Ground.phase }, { on := 3, ground := Go.Ground.phase }, { on := 4, ground := Go.Ground.phase }, { on := 5, ground := Go.Ground.phase }, { on := 6, ground := Go.Ground.phase }, { on := 7, ground := Go.Ground.phase }, { on := 8, ground := Go.Ground.phase }, { on := 9, ground := Go.Ground.phase }, { on := 10, ground := Go.Ground.phase }, { on := 11, ground := Go.Ground.phase }, { on := 12, ground := Go.Ground.phase }, { on := 13, ground := Go.Ground.phase }, { on := 14, ground := Go.Ground.phase }, { on := 15, ground := Go.Ground.phase }, { on := 16, ground := Go.Ground.phase }, { on := 17, ground := Go.Ground.phase }, { on := 18, ground := Go.Ground.phase }, { on := 19, ground := Go.Ground.phase }, { on := 20, ground := Go.Ground.phase }, { on := 21, ground := Go.Ground.phase }, { on := 22, ground := Go.Ground.phase }, { on := 23, ground := Go.Ground.phase }, { on := 24, ground := Go.Ground.phase }, { on := 25, ground := Go.Ground.phase }, { on := 26, ground := Go.Ground.phase }, { on := 27, ground := Go.Ground.phase }, { on := 28, ground := Go.Ground.phase }, { on := 29, ground := Go.Ground.phase }, { on := 30, ground := Go.Ground.phase }, { on := 31, ground := Go.Ground.phase }, { on := 32, ground := Go.Ground.phase }, { on := 33, ground := Go.Ground.phase }, { on := 34, ground := Go.Ground.phase }, { on := 35, ground := Go.Ground.phase }, { on := 36, ground := Go.Ground.phase }, { on := 37, ground := Go.Ground.phase }, { on := 38, ground := Go.Ground.phase }, { on := 39, ground := Go.Ground.phase }, { on := 40, ground := Go.Ground.phase }, { on := 41, ground := Go.Ground.phase }, { on := 42, ground := Go.Ground.phase }, { on := 43, ground := Go.Ground.phase }, { on := 44, ground := Go.Ground.phase }, { on := 45, ground := Go.Ground.phase }, { on := 46, ground := Go.Ground.phase }, { on := 47, ground := Go.Ground.phase }, { on := 48, ground := Go.Ground.phase }, { on := 49, ground := Go.Ground.phase }], guard := none }) (v := ?v50p154) rfl (by kernel_rfl) (by kernel_rfl) (by kernel_rfl) (fun _ _ _ h => h) (Or.inl ⟨by rfl, ?hy50p154⟩) hHeld ?rest50p154
                                  case hy50p154 =>
                                    intro W' hV
                                    try dsimp only at hV
                                    go_simp
                                    all_goals with_reducible rfl
                                  case' rest50p154 => try simp only [Act.put, List.setIfInBounds_toArray, List.set_cons_zero, List.set_cons_succ]
                                  refine wpAnyH_done (by kernel_rfl) ?_ _
                                  clear hHeld
                                  go_wp2
                                  go_ret
                                  exact ⟨rfl, bt HWW.out HH2.out⟩
                              case neg =>
                                as_aux_lemma =>
                                  have k7b : decide (T.t ≤ (kk : Int)) = true := decide_eq_true k7
                                  have k8b : decide (T.n < 2 * (kk : Int)) = false := decide_eq_false k8
                                  have HZ := Lib.hid (show zz = 12 by rw [HZE.out]; unfold enI; rw [if_neg (fun h => k8 h.2)])
                                  rw [HZ.out] at HENW
                                  refine wp_region_held_drew (S := (fun W => Below V8b.heap.size V8b W)) (by kernel_rfl) (HX3.out.drew) (fun hHeld => ?_)
                                  refine wpAnyH_take (i := 0) (oi := { dst := some 236, op := Go.Op.move (Go.Operand.tmp 20), type := 39, pos := "law.go:123", after := #[], guard := none }) (v := ?v0p155) rfl (by kernel_rfl) (by kernel_rfl) (by kernel_rfl) (fun _ _ _ h => h) (Or.inl ⟨by rfl, ?hy0p155⟩) hHeld ?rest0p155
                                  case hy0p155 =>
                                    intro W' hV
                                    try dsimp only at hV
                                    go_simp
                                    all_goals with_reducible rfl
                                  case' rest0p155 => try simp only [Act.put, List.setIfInBounds_toArray, List.set_cons_zero, List.set_cons_succ]
                                  refine wpAnyH_take (i := 1) (oi := { dst := some 237, op := Go.Op.binOp Go.BinOp.eql 39 (Go.Operand.tmp 236) (Go.Operand.const (Go.Value.int Go.IntKind.i64 0)) 39, type := 4, pos := "law.go:123", after := #[{ on := 0, ground := Go.Ground.data }], guard := none }) (v := ?v1p156) rfl (by kernel_rfl) (by kernel_rfl) (by kernel_rfl) (fun _ _ _ h => h) (Or.inl ⟨by rfl, ?hy1p156⟩) hHeld ?rest1p156
                                  case hy1p156 =>
                                    intro W' hV
                                    try dsimp only at hV
                                    go_simp
                                    all_goals with_reducible rfl
                                  case' rest1p156 => try simp only [Act.put, List.setIfInBounds_toArray, List.set_cons_zero, List.set_cons_succ]
                                  refine wpAnyH_take (i := 2) (oi := { dst := some 238, op := Go.Op.move (Go.Operand.tmp 237), type := 4, pos := "law.go:123", after := #[{ on := 1, ground := Go.Ground.data }], guard := none }) (v := ?v2p157) rfl (by kernel_rfl) (by kernel_rfl) (by kernel_rfl) (fun _ _ _ h => h) (Or.inl ⟨by rfl, ?hy2p157⟩) hHeld ?rest2p157
                                  case hy2p157 =>
                                    intro W' hV
                                    try dsimp only at hV
                                    go_simp
                                    all_goals with_reducible rfl
                                  case' rest2p157 => try simp only [Act.put, List.setIfInBounds_toArray, List.set_cons_zero, List.set_cons_succ]
                                  refine wpAnyH_take (i := 3) (oi := { dst := some 239, op := Go.Op.move (Go.Operand.tmp 22), type := 39, pos := "law.go:123", after := #[{ on := 2, ground := Go.Ground.guard }], guard := some (2, true) }) (v := ?v3p158) rfl (by kernel_rfl) (by kernel_rfl) (by kernel_rfl) (fun _ _ _ h => h) (Or.inl ⟨by rfl, ?hy3p158⟩) hHeld ?rest3p158
                                  case hy3p158 =>
                                    intro W' hV
                                    try dsimp only at hV
                                    go_simp
                                    all_goals with_reducible rfl
                                  case' rest3p158 => try simp only [Act.put, List.setIfInBounds_toArray, List.set_cons_zero, List.set_cons_succ]
                                  refine wpAnyH_take (i := 4) (oi := { dst := some 240, op := Go.Op.binOp Go.BinOp.eql 39 (Go.Operand.tmp 239) (Go.Operand.const (Go.Value.int Go.IntKind.i64 6)) 39, type := 4, pos := "law.go:123", after := #[{ on := 3, ground := Go.Ground.data }, { on := 2, ground := Go.Ground.guard }], guard := some (2, true) }) (v := ?v4p159) rfl (by kernel_rfl) (by kernel_rfl) (by kernel_rfl) (fun _ _ _ h => h) (Or.inl ⟨by rfl, ?hy4p159⟩) hHeld ?rest4p159
                                  case hy4p159 =>
                                    intro W' hV
                                    try dsimp only at hV
                                    go_simp
                                    all_goals with_reducible rfl
                                  case' rest4p159 => try simp only [Act.put, List.setIfInBounds_toArray, List.set_cons_zero, List.set_cons_succ]
                                  refine wpAnyH_take (i := 5) (oi := { dst := some 241, op := Go.Op.pick (Go.Operand.tmp 238) (Go.Operand.tmp 240) (Go.Operand.const (Go.Value.bool false)), type := 4, pos := "law.go:123", after := #[{ on := 2, ground := Go.Ground.data }, { on := 4, ground := Go.Ground.data }], guard := none }) (v := ?v5p160) rfl (by kernel_rfl) (by kernel_rfl) (by kernel_rfl) (fun _ _ _ h => h) (Or.inl ⟨by rfl, ?hy5p160⟩) hHeld ?rest5p160
                                  case hy5p160 =>
                                    intro W' hV
                                    try dsimp only at hV
                                    go_simp
                                    all_goals with_reducible rfl
                                  case' rest5p160 => try simp only [Act.put, List.setIfInBounds_toArray, List.set_cons_zero, List.set_cons_succ]
                                  refine wpAnyH_take (i := 6) (oi := { dst := some 242, op := Go.Op.move (Go.Operand.tmp 241), type := 4, pos := "law.go:123", after := #[{ on := 5, ground := Go.Ground.data }, { on := 2, ground := Go.Ground.chain }], guard := none }) (v := ?v6p161) rfl (by kernel_rfl) (by kernel_rfl) (by kernel_rfl) (fun _ _ _ h => h) (Or.inl ⟨by rfl, ?hy6p161⟩) hHeld ?rest6p161
                                  case hy6p161 =>
                                    intro W' hV
                                    try dsimp only at hV
                                    go_simp
                                    all_goals with_reducible rfl
                                  case' rest6p161 => try simp only [Act.put, List.setIfInBounds_toArray, List.set_cons_zero, List.set_cons_succ]
                                  refine wpAnyH_take (i := 7) (oi := { dst := some 243, op := Go.Op.move (Go.Operand.tmp 1), type := 3, pos := "law.go:123", after := #[{ on := 6, ground := Go.Ground.guard }], guard := some (6, true) }) (v := ?v7p162) rfl (by kernel_rfl) (by kernel_rfl) (by kernel_rfl) (fun _ _ _ h => h) (Or.inl ⟨by rfl, ?hy7p162⟩) hHeld ?rest7p162
                                  case hy7p162 =>
                                    intro W' hV
                                    try dsimp only at hV
                                    go_simp
                                    all_goals with_reducible rfl
                                  case' rest7p162 => try simp only [Act.put, List.setIfInBounds_toArray, List.set_cons_zero, List.set_cons_succ]
                                  refine wpAnyH_take (i := 8) (oi := { dst := some 244, op := Go.Op.fieldAddr 35 (Go.Operand.tmp 19) 9, type := 0, pos := "law.go:123", after := #[{ on := 6, ground := Go.Ground.guard }], guard := some (6, true) }) (v := ?v8p163) rfl (by kernel_rfl) (by kernel_rfl) (by kernel_rfl) (fun _ _ _ h => h) (Or.inl ⟨by rfl, ?hy8p163⟩) hHeld ?rest8p163
                                  case hy8p163 =>
                                    intro W' hV
                                    try dsimp only at hV
                                    go_simp
                                    all_goals with_reducible rfl
                                  case' rest8p163 => try simp only [Act.put, List.setIfInBounds_toArray, List.set_cons_zero, List.set_cons_succ]
                                  refine wpAnyH_take (i := 9) (oi := { dst := some 245, op := Go.Op.indexAddr 33 (Go.Operand.tmp 244) (Go.Operand.tmp 243), type := 0, pos := "law.go:123", after := #[{ on := 8, ground := Go.Ground.data }, { on := 7, ground := Go.Ground.data }, { on := 6, ground := Go.Ground.guard }], guard := some (6, true) }) (v := ?v9p164) rfl (by kernel_rfl) (by kernel_rfl) (by kernel_rfl) (fun _ _ _ h => h) (Or.inl ⟨by rfl, ?hy9p164⟩) hHeld ?rest9p164
                                  case hy9p164 =>
                                    intro W' hV
                                    try dsimp only at hV
                                    go_simp
                                    all_goals with_reducible rfl
                                  case' rest9p164 => try simp only [Act.put, List.setIfInBounds_toArray, List.set_cons_zero, List.set_cons_succ]
                                  refine wpAnyH_take (i := 10) (oi := { dst := some 246, op := Go.Op.load 4 (Go.Operand.tmp 245), type := 4, pos := "law.go:123", after := #[{ on := 9, ground := Go.Ground.data }, { on := 6, ground := Go.Ground.guard }], guard := some (6, true) }) (v := ?v10p165) rfl (by kernel_rfl) (by kernel_rfl) (by kernel_rfl) (fun _ _ _ h => h) (Or.inl ⟨by rfl, ?hy10p165⟩) hHeld ?rest10p165
                                  case hy10p165 =>
                                    intro W' hV
                                    try dsimp only at hV
                                    go_simp
                                    all_goals with_reducible rfl
                                  case' rest10p165 => try simp only [Act.put, List.setIfInBounds_toArray, List.set_cons_zero, List.set_cons_succ]
                                  refine wpAnyH_take (i := 11) (oi := { dst := some 247, op := Go.Op.unOp Go.UnOp.not 4 (Go.Operand.tmp 246), type := 4, pos := "law.go:123", after := #[{ on := 10, ground := Go.Ground.data }, { on := 6, ground := Go.Ground.guard }], guard := some (6, true) }) (v := ?v11p166) rfl (by kernel_rfl) (by kernel_rfl) (by kernel_rfl) (fun _ _ _ h => h) (Or.inl ⟨by rfl, ?hy11p166⟩) hHeld ?rest11p166
                                  case hy11p166 =>
                                    intro W' hV
                                    try dsimp only at hV
                                    go_simp
                                    all_goals with_reducible rfl
                                  case' rest11p166 => try simp only [Act.put, List.setIfInBounds_toArray, List.set_cons_zero, List.set_cons_succ]
                                  refine wpAnyH_take (i := 12) (oi := { dst := some 248, op := Go.Op.pick (Go.Operand.tmp 242) (Go.Operand.tmp 247) (Go.Operand.const (Go.Value.bool false)), type := 4, pos := "law.go:123", after := #[{ on := 6, ground := Go.Ground.data }, { on := 11, ground := Go.Ground.data }], guard := none }) (v := ?v12p167) rfl (by kernel_rfl) (by kernel_rfl) (by kernel_rfl) (fun _ _ _ h => h) (Or.inl ⟨by rfl, ?hy12p167⟩) hHeld ?rest12p167
                                  case hy12p167 =>
                                    intro W' hV
                                    try dsimp only at hV
                                    go_simp
                                    all_goals with_reducible rfl
                                  case' rest12p167 => try simp only [Act.put, List.setIfInBounds_toArray, List.set_cons_zero, List.set_cons_succ]
                                  refine wpAnyH_take (i := 13) (oi := { dst := some 249, op := Go.Op.move (Go.Operand.tmp 248), type := 4, pos := "law.go:123", after := #[{ on := 12, ground := Go.Ground.data }, { on := 6, ground := Go.Ground.chain }], guard := none }) (v := ?v13p168) rfl (by kernel_rfl) (by kernel_rfl) (by kernel_rfl) (fun _ _ _ h => h) (Or.inl ⟨by rfl, ?hy13p168⟩) hHeld ?rest13p168
                                  case hy13p168 =>
                                    intro W' hV
                                    try dsimp only at hV
                                    go_simp
                                    all_goals with_reducible rfl
                                  case' rest13p168 => try simp only [Act.put, List.setIfInBounds_toArray, List.set_cons_zero, List.set_cons_succ]
                                  refine wpAnyH_take (i := 14) (oi := { dst := some 250, op := Go.Op.fieldAddr 35 (Go.Operand.tmp 19) 8, type := 0, pos := "law.go:123", after := #[{ on := 13, ground := Go.Ground.guard }], guard := some (13, true) }) (v := ?v14p169) rfl (by kernel_rfl) (by kernel_rfl) (by kernel_rfl) (fun _ _ _ h => h) (Or.inl ⟨by rfl, ?hy14p169⟩) hHeld ?rest14p169
                                  case hy14p169 =>
                                    intro W' hV
                                    try dsimp only at hV
                                    go_simp
                                    all_goals with_reducible rfl
                                  case' rest14p169 => try simp only [Act.put, List.setIfInBounds_toArray, List.set_cons_zero, List.set_cons_succ]
                                  refine wpAnyH_take (i := 15) (oi := { dst := some 251, op := Go.Op.load 25 (Go.Operand.tmp 250), type := 25, pos := "law.go:123", after := #[{ on := 14, ground := Go.Ground.data }, { on := 13, ground := Go.Ground.guard }], guard := some (13, true) }) (v := ?v15p170) rfl (by kernel_rfl) (by kernel_rfl) (by kernel_rfl) (fun _ _ _ h => h) (Or.inl ⟨by rfl, ?hy15p170⟩) hHeld ?rest15p170
                                  case hy15p170 =>
                                    intro W' hV
                                    try dsimp only at hV
                                    go_simp
                                    all_goals with_reducible rfl
                                  case' rest15p170 => try simp only [Act.put, List.setIfInBounds_toArray, List.set_cons_zero, List.set_cons_succ]
                                  refine wpAnyH_take (i := 16) (oi := { dst := some 252, op := Go.Op.fieldAddr 38 (Go.Operand.tmp 9) 0, type := 0, pos := "law.go:123", after := #[{ on := 13, ground := Go.Ground.guard }], guard := some (13, true) }) (v := ?v16p171) rfl (by kernel_rfl) (by kernel_rfl) (by kernel_rfl) (fun _ _ _ h => h) (Or.inl ⟨by rfl, ?hy16p171⟩) hHeld ?rest16p171
                                  case hy16p171 =>
                                    intro W' hV
                                    try dsimp only at hV
                                    go_simp
                                    all_goals with_reducible rfl
                                  case' rest16p171 => try simp only [Act.put, List.setIfInBounds_toArray, List.set_cons_zero, List.set_cons_succ]
                                  refine wpAnyH_take (i := 17) (oi := { dst := some 253, op := Go.Op.fieldAddr 35 (Go.Operand.tmp 252) 8, type := 0, pos := "law.go:123", after := #[{ on := 16, ground := Go.Ground.data }, { on := 13, ground := Go.Ground.guard }], guard := some (13, true) }) (v := ?v17p172) rfl (by kernel_rfl) (by kernel_rfl) (by kernel_rfl) (fun _ _ _ h => h) (Or.inl ⟨by rfl, ?hy17p172⟩) hHeld ?rest17p172
                                  case hy17p172 =>
                                    intro W' hV
                                    try dsimp only at hV
                                    go_simp
                                    all_goals with_reducible rfl
                                  case' rest17p172 => try simp only [Act.put, List.setIfInBounds_toArray, List.set_cons_zero, List.set_cons_succ]
                                  refine wpAnyH_take (i := 18) (oi := { dst := some 254, op := Go.Op.load 25 (Go.Operand.tmp 253), type := 25, pos := "law.go:123", after := #[{ on := 17, ground := Go.Ground.data }, { on := 13, ground := Go.Ground.guard }], guard := some (13, true) }) (v := ?v18p173) rfl (by kernel_rfl) (by kernel_rfl) (by kernel_rfl) (fun _ _ _ h => h) (Or.inl ⟨by rfl, ?hy18p173⟩) hHeld ?rest18p173
                                  case hy18p173 =>
                                    intro W' hV
                                    try dsimp only at hV
                                    go_simp
                                    all_goals with_reducible rfl
                                  case' rest18p173 => try simp only [Act.put, List.setIfInBounds_toArray, List.set_cons_zero, List.set_cons_succ]
                                  refine wpAnyH_take (i := 19) (oi := { dst := some 255, op := Go.Op.binOp Go.BinOp.add 25 (Go.Operand.tmp 254) (Go.Operand.const (Go.Value.int Go.IntKind.u32 1)) 25, type := 25, pos := "law.go:123", after := #[{ on := 18, ground := Go.Ground.data }, { on := 13, ground := Go.Ground.guard }], guard := some (13, true) }) (v := ?v19p174) rfl (by kernel_rfl) (by kernel_rfl) (by kernel_rfl) (fun _ _ _ h => h) (Or.inl ⟨by rfl, ?hy19p174⟩) hHeld ?rest19p174
                                  case hy19p174 =>
                                    intro W' hV
                                    try dsimp only at hV
                                    go_simp
                                    all_goals with_reducible rfl
                                  case' rest19p174 => try simp only [Act.put, List.setIfInBounds_toArray, List.set_cons_zero, List.set_cons_succ]
                                  refine wpAnyH_take (i := 20) (oi := { dst := some 256, op := Go.Op.binOp Go.BinOp.eql 25 (Go.Operand.tmp 251) (Go.Operand.tmp 255) 25, type := 4, pos := "law.go:123", after := #[{ on := 15, ground := Go.Ground.data }, { on := 19, ground := Go.Ground.data }, { on := 13, ground := Go.Ground.guard }], guard := some (13, true) }) (v := ?v20p175) rfl (by kernel_rfl) (by kernel_rfl) (by kernel_rfl) (fun _ _ _ h => h) (Or.inl ⟨by rfl, ?hy20p175⟩) hHeld ?rest20p175
                                  case hy20p175 =>
                                    intro W' hV
                                    try dsimp only at hV
                                    go_simp
                                    all_goals with_reducible rfl
                                  case' rest20p175 => try simp only [Act.put, List.setIfInBounds_toArray, List.set_cons_zero, List.set_cons_succ]
                                  refine wpAnyH_take (i := 21) (oi := { dst := some 257, op := Go.Op.pick (Go.Operand.tmp 249) (Go.Operand.tmp 256) (Go.Operand.const (Go.Value.bool false)), type := 4, pos := "law.go:123", after := #[{ on := 13, ground := Go.Ground.data }, { on := 20, ground := Go.Ground.data }], guard := none }) (v := ?v21p176) rfl (by kernel_rfl) (by kernel_rfl) (by kernel_rfl) (fun _ _ _ h => h) (Or.inl ⟨by rfl, ?hy21p176⟩) hHeld ?rest21p176
                                  case hy21p176 =>
                                    intro W' hV
                                    try dsimp only at hV
                                    go_simp
                                    all_goals with_reducible rfl
                                  case' rest21p176 => try simp only [Act.put, List.setIfInBounds_toArray, List.set_cons_zero, List.set_cons_succ]
                                  refine wpAnyH_take (i := 22) (oi := { dst := some 258, op := Go.Op.move (Go.Operand.tmp 257), type := 4, pos := "law.go:123", after := #[{ on := 21, ground := Go.Ground.data }, { on := 13, ground := Go.Ground.chain }], guard := none }) (v := ?v22p177) rfl (by kernel_rfl) (by kernel_rfl) (by kernel_rfl) (fun _ _ _ h => h) (Or.inl ⟨by rfl, ?hy22p177⟩) hHeld ?rest22p177
                                  case hy22p177 =>
                                    intro W' hV
                                    try dsimp only at hV
                                    go_simp
                                    all_goals with_reducible rfl
                                  case' rest22p177 => try simp only [Act.put, List.setIfInBounds_toArray, List.set_cons_zero, List.set_cons_succ]
                                  refine wpAnyH_take (i := 23) (oi := { dst := some 259, op := Go.Op.move (Go.Operand.tmp 24), type := 3, pos := "law.go:123", after := #[{ on := 22, ground := Go.Ground.guard }], guard := some (22, true) }) (v := ?v23p178) rfl (by kernel_rfl) (by kernel_rfl) (by kernel_rfl) (fun _ _ _ h => h) (Or.inl ⟨by rfl, ?hy23p178⟩) hHeld ?rest23p178
                                  case hy23p178 =>
                                    intro W' hV
                                    try dsimp only at hV
                                    go_simp
                                    all_goals with_reducible rfl
                                  case' rest23p178 => try simp only [Act.put, List.setIfInBounds_toArray, List.set_cons_zero, List.set_cons_succ]
                                  refine wpAnyH_take (i := 24) (oi := { dst := some 260, op := Go.Op.fieldAddr 38 (Go.Operand.tmp 9) 0, type := 0, pos := "law.go:123", after := #[{ on := 22, ground := Go.Ground.guard }], guard := some (22, true) }) (v := ?v24p179) rfl (by kernel_rfl) (by kernel_rfl) (by kernel_rfl) (fun _ _ _ h => h) (Or.inl ⟨by rfl, ?hy24p179⟩) hHeld ?rest24p179
                                  case hy24p179 =>
                                    intro W' hV
                                    try dsimp only at hV
                                    go_simp
                                    all_goals with_reducible rfl
                                  case' rest24p179 => try simp only [Act.put, List.setIfInBounds_toArray, List.set_cons_zero, List.set_cons_succ]
                                  refine wpAnyH_take (i := 25) (oi := { dst := some 261, op := Go.Op.load 35 (Go.Operand.tmp 260), type := 35, pos := "law.go:123", after := #[{ on := 24, ground := Go.Ground.data }, { on := 22, ground := Go.Ground.guard }], guard := some (22, true) }) (v := .agg sT) rfl (by kernel_rfl) (by kernel_rfl) (by kernel_rfl) (fun _ _ _ h => h) (yields_loadAt (by rfl) 35 (.tmp 260) rfl (by rfl) (fun W h => hldt W h)) hHeld ?rest25p180
                                  case' rest25p180 => try simp only [Act.put, List.setIfInBounds_toArray, List.set_cons_zero, List.set_cons_succ]
                                  generalize x3.drew = v0 at hHeld ⊢
                                  have HH0 := Lib.hid hHeld
                                  refine wpAnyH_ready (rs := [26]) (by kernel_rfl) (by simp) ?_
                                  refine AllReadyH.cons (o := { dst := some 262, op := Go.Op.call { callee := Go.Callee.value (Go.Operand.func 11), args := #[Go.Operand.tmp 261], argTypes := #[35] }, type := 36, pos := "law.go:123", after := #[{ on := 25, ground := Go.Ground.data }, { on := 22, ground := Go.Ground.chain }, { on := 22, ground := Go.Ground.guard }], guard := some (22, true) }) rfl (fun K' hK => ?_) AllReadyH.nil
                                  rw [if_pos (by rfl)]
                                  go_wp2_with (go_at_call 11; go_loud ((with_reducible refine (HIN2.out v0).mono ?_); rintro e v1 ⟨⟨a1, c1, rfl, hi1⟩, hb1⟩))
                                  refine hK.out _ _ (bt HH0.out hb1) (fun hHeld1 => ?_)
                                  clear hK K' hHeld
                                  have hHeld := hHeld1
                                  clear hHeld1
                                  try simp only [Act.put, List.setIfInBounds_toArray, List.set_cons_zero, List.set_cons_succ]
                                  have HH1 := Lib.hid hHeld
                                  clear hi1 hb1
                                  refine wpAnyH_take (i := 27) (oi := { dst := some 263, op := Go.Op.call { callee := Go.Callee.builtin Go.Builtin.len, args := #[Go.Operand.tmp 262], argTypes := #[36] }, type := 3, pos := "law.go:123", after := #[{ on := 26, ground := Go.Ground.data }, { on := 22, ground := Go.Ground.guard }], guard := some (22, true) }) (v := ?v27p181) rfl (by kernel_rfl) (by kernel_rfl) (by kernel_rfl) (fun _ _ _ h => h) (Or.inl ⟨by rfl, ?hy27p181⟩) hHeld ?rest27p181
                                  case hy27p181 =>
                                    intro W' hV
                                    try dsimp only at hV
                                    go_simp
                                    all_goals with_reducible rfl
                                  case' rest27p181 => try simp only [Act.put, List.setIfInBounds_toArray, List.set_cons_zero, List.set_cons_succ]
                                  refine wpAnyH_take (i := 28) (oi := { dst := some 264, op := Go.Op.binOp Go.BinOp.sub 3 (Go.Operand.tmp 263) (Go.Operand.const (Go.Value.int Go.IntKind.i64 1)) 3, type := 3, pos := "law.go:123", after := #[{ on := 27, ground := Go.Ground.data }, { on := 22, ground := Go.Ground.guard }], guard := some (22, true) }) (v := ?v28p182) rfl (by kernel_rfl) (by kernel_rfl) (by kernel_rfl) (fun _ _ _ h => h) (Or.inl ⟨by rfl, ?hy28p182⟩) hHeld ?rest28p182
                                  case hy28p182 =>
                                    intro W' hV
                                    try dsimp only at hV
                                    go_simp
                                    all_goals with_reducible rfl
                                  case' rest28p182 => try simp only [Act.put, List.setIfInBounds_toArray, List.set_cons_zero, List.set_cons_succ]
                                  refine wpAnyH_take (i := 29) (oi := { dst := some 265, op := Go.Op.binOp Go.BinOp.eql 3 (Go.Operand.tmp 259) (Go.Operand.tmp 264) 3, type := 4, pos := "law.go:123", after := #[{ on := 23, ground := Go.Ground.data }, { on := 28, ground := Go.Ground.data }, { on := 22, ground := Go.Ground.guard }], guard := some (22, true) }) (v := ?v29p183) rfl (by kernel_rfl) (by kernel_rfl) (by kernel_rfl) (fun _ _ _ h => h) (Or.inl ⟨by rfl, ?hy29p183⟩) hHeld ?rest29p183
                                  case hy29p183 =>
                                    intro W' hV
                                    try dsimp only at hV
                                    go_simp
                                    all_goals with_reducible rfl
                                  case' rest29p183 => try simp only [Act.put, List.setIfInBounds_toArray, List.set_cons_zero, List.set_cons_succ]
                                  refine wpAnyH_take (i := 30) (oi := { dst := some 266, op := Go.Op.pick (Go.Operand.tmp 258) (Go.Operand.tmp 265) (Go.Operand.const (Go.Value.bool false)), type := 4, pos := "law.go:123", after := #[{ on := 22, ground := Go.Ground.data }, { on := 29, ground := Go.Ground.data }], guard := none }) (v := ?v30p184) rfl (by kernel_rfl) (by kernel_rfl) (by kernel_rfl) (fun _ _ _ h => h) (Or.inl ⟨by rfl, ?hy30p184⟩) hHeld ?rest30p184
                                  case hy30p184 =>
                                    intro W' hV
                                    try dsimp only at hV
                                    go_simp
                                    all_goals with_reducible rfl
                                  case' rest30p184 => try simp only [Act.put, List.setIfInBounds_toArray, List.set_cons_zero, List.set_cons_succ]
                                  refine wpAnyH_take (i := 31) (oi := { dst := some 267, op := Go.Op.move (Go.Operand.tmp 266), type := 4, pos := "law.go:123", after := #[{ on := 30, ground := Go.Ground.data }, { on := 26, ground := Go.Ground.chain }], guard := none }) (v := ?v31p185) rfl (by kernel_rfl) (by kernel_rfl) (by kernel_rfl) (fun _ _ _ h => h) (Or.inl ⟨by rfl, ?hy31p185⟩) hHeld ?rest31p185
                                  case hy31p185 =>
                                    intro W' hV
                                    try dsimp only at hV
                                    go_simp
                                    all_goals with_reducible rfl
                                  case' rest31p185 => try simp only [Act.put, List.setIfInBounds_toArray, List.set_cons_zero, List.set_cons_succ]
                                  refine wpAnyH_take (i := 32) (oi := { dst := some 268, op := Go.Op.load 35 (Go.Operand.tmp 19), type := 35, pos := "law.go:123", after := #[{ on := 31, ground := Go.Ground.guard }], guard := some (31, true) }) (v := .agg sW) rfl (by kernel_rfl) (by kernel_rfl) (by kernel_rfl) (fun _ _ _ h => h) (yields_loadAt (by rfl) 35 (.tmp 19) rfl (by rfl) (fun W h => hldw W h)) hHeld ?rest32p186
                                  case' rest32p186 => try simp only [Act.put, List.setIfInBounds_toArray, List.set_cons_zero, List.set_cons_succ]
                                  refine wpAnyH_take (i := 35) (oi := { dst := some 271, op := Go.Op.move (Go.Operand.tmp 24), type := 3, pos := "law.go:123", after := #[{ on := 31, ground := Go.Ground.guard }], guard := some (31, true) }) (v := ?v35p187) rfl (by kernel_rfl) (by kernel_rfl) (by kernel_rfl) (fun _ _ _ h => h) (Or.inl ⟨by rfl, ?hy35p187⟩) hHeld ?rest35p187
                                  case hy35p187 =>
                                    intro W' hV
                                    try dsimp only at hV
                                    go_simp
                                    all_goals with_reducible rfl
                                  case' rest35p187 => try simp only [Act.put, List.setIfInBounds_toArray, List.set_cons_zero, List.set_cons_succ]
                                  refine wpAnyH_take (i := 36) (oi := { dst := some 272, op := Go.Op.fieldAddr 35 (Go.Operand.tmp 19) 3, type := 0, pos := "law.go:123", after := #[{ on := 31, ground := Go.Ground.guard }], guard := some (31, true) }) (v := ?v36p188) rfl (by kernel_rfl) (by kernel_rfl) (by kernel_rfl) (fun _ _ _ h => h) (Or.inl ⟨by rfl, ?hy36p188⟩) hHeld ?rest36p188
                                  case hy36p188 =>
                                    intro W' hV
                                    try dsimp only at hV
                                    go_simp
                                    all_goals with_reducible rfl
                                  case' rest36p188 => try simp only [Act.put, List.setIfInBounds_toArray, List.set_cons_zero, List.set_cons_succ]
                                  refine wpAnyH_take (i := 37) (oi := { dst := some 273, op := Go.Op.load 5 (Go.Operand.tmp 272), type := 5, pos := "law.go:123", after := #[{ on := 36, ground := Go.Ground.data }, { on := 31, ground := Go.Ground.guard }], guard := some (31, true) }) (v := ?v37p189) rfl (by kernel_rfl) (by kernel_rfl) (by kernel_rfl) (fun _ _ _ h => h) (Or.inl ⟨by rfl, ?hy37p189⟩) hHeld ?rest37p189
                                  case hy37p189 =>
                                    intro W' hV
                                    try dsimp only at hV
                                    go_simp
                                    all_goals with_reducible rfl
                                  case' rest37p189 => try simp only [Act.put, List.setIfInBounds_toArray, List.set_cons_zero, List.set_cons_succ]
                                  refine wpAnyH_take (i := 38) (oi := { dst := some 274, op := Go.Op.convert 5 3 (Go.Operand.tmp 273), type := 3, pos := "law.go:123", after := #[{ on := 37, ground := Go.Ground.data }, { on := 31, ground := Go.Ground.guard }], guard := some (31, true) }) (v := ?v38p190) rfl (by kernel_rfl) (by kernel_rfl) (by kernel_rfl) (fun _ _ _ h => h) (Or.inl ⟨by rfl, ?hy38p190⟩) hHeld ?rest38p190
                                  case hy38p190 =>
                                    intro W' hV
                                    try dsimp only at hV
                                    go_simp
                                    all_goals with_reducible rfl
                                  case' rest38p190 => try simp only [Act.put, List.setIfInBounds_toArray, List.set_cons_zero, List.set_cons_succ]
                                  refine wpAnyH_take (i := 39) (oi := { dst := some 275, op := Go.Op.binOp Go.BinOp.geq 3 (Go.Operand.tmp 271) (Go.Operand.tmp 274) 3, type := 4, pos := "law.go:123", after := #[{ on := 35, ground := Go.Ground.data }, { on := 38, ground := Go.Ground.data }, { on := 31, ground := Go.Ground.guard }], guard := some (31, true) }) (v := ?v39p191) rfl (by kernel_rfl) (by kernel_rfl) (by kernel_rfl) (fun _ _ _ h => h) (Or.inl ⟨by rfl, ?hy39p191⟩) hHeld ?rest39p191
                                  case hy39p191 =>
                                    intro W' hV
                                    try dsimp only at hV
                                    go_simp
                                    all_goals with_reducible rfl
                                  case' rest39p191 => try simp only [Act.put, List.setIfInBounds_toArray, List.set_cons_zero, List.set_cons_succ]
                                  refine wpAnyH_ready (rs := [33]) (by kernel_rfl) (by simp) ?_
                                  refine AllReadyH.cons (o := { dst := some 269, op := Go.Op.call { callee := Go.Callee.value (Go.Operand.func 12), args := #[Go.Operand.tmp 268], argTypes := #[35] }, type := 39, pos := "law.go:123", after := #[{ on := 32, ground := Go.Ground.data }, { on := 31, ground := Go.Ground.chain }, { on := 31, ground := Go.Ground.guard }], guard := some (31, true) }) rfl (fun K' hK => ?_) AllReadyH.nil
                                  rw [if_pos (by rfl)]
                                  go_wp2_with (go_at_call 12; go_loud ((with_reducible refine (HENW.out v1).mono ?_); rintro e v2 ⟨rfl, hb2⟩))
                                  refine hK.out _ _ (bt HH1.out hb2) (fun hHeld1 => ?_)
                                  clear hK K' hHeld
                                  have hHeld := hHeld1
                                  clear hHeld1
                                  try simp only [Act.put, List.setIfInBounds_toArray, List.set_cons_zero, List.set_cons_succ]
                                  have HH2 := Lib.hid hHeld
                                  clear hb2
                                  refine wpAnyH_take (i := 34) (oi := { dst := some 270, op := Go.Op.binOp Go.BinOp.eql 39 (Go.Operand.tmp 269) (Go.Operand.const (Go.Value.int Go.IntKind.i64 0)) 39, type := 4, pos := "law.go:123", after := #[{ on := 33, ground := Go.Ground.data }, { on := 31, ground := Go.Ground.guard }], guard := some (31, true) }) (v := ?v34p192) rfl (by kernel_rfl) (by kernel_rfl) (by kernel_rfl) (fun _ _ _ h => h) (Or.inl ⟨by rfl, ?hy34p192⟩) hHeld ?rest34p192
                                  case hy34p192 =>
                                    intro W' hV
                                    try dsimp only at hV
                                    go_simp
                                    all_goals with_reducible rfl
                                  case' rest34p192 => try simp only [Act.put, List.setIfInBounds_toArray, List.set_cons_zero, List.set_cons_succ]
                                  refine wpAnyH_take (i := 40) (oi := { dst := some 276, op := Go.Op.move (Go.Operand.tmp 275), type := 4, pos := "law.go:123", after := #[{ on := 39, ground := Go.Ground.data }, { on := 33, ground := Go.Ground.chain }, { on := 31, ground := Go.Ground.guard }], guard := some (31, true) }) (v := ?v40p193) rfl (by kernel_rfl) (by kernel_rfl) (by kernel_rfl) (fun _ _ _ h => h) (Or.inl ⟨by rfl, ?hy40p193⟩) hHeld ?rest40p193
                                  case hy40p193 =>
                                    intro W' hV
                                    try dsimp only at hV
                                    go_simp
                                    all_goals with_reducible rfl
                                  case' rest40p193 => try simp only [Act.put, List.setIfInBounds_toArray, List.set_cons_zero, List.set_cons_succ]
                                  refine wpAnyH_take (i := 41) (oi := { dst := some 277, op := Go.Op.move (Go.Operand.tmp 24), type := 3, pos := "law.go:123", after := #[{ on := 40, ground := Go.Ground.guard }], guard := some (40, true) }) (v := ?v41p194) rfl (by kernel_rfl) (by kernel_rfl) (by kernel_rfl) (fun _ _ _ h => h) (Or.inl ⟨by rfl, ?hy41p194⟩) hHeld ?rest41p194
                                  case hy41p194 =>
                                    intro W' hV
                                    try dsimp only at hV
                                    go_simp
                                    all_goals with_reducible rfl
                                  case' rest41p194 => try simp only [Act.put, List.setIfInBounds_toArray, List.set_cons_zero, List.set_cons_succ]
                                  refine wpAnyH_take (i := 42) (oi := { dst := some 278, op := Go.Op.binOp Go.BinOp.mul 3 (Go.Operand.const (Go.Value.int Go.IntKind.i64 2)) (Go.Operand.tmp 277) 3, type := 3, pos := "law.go:123", after := #[{ on := 41, ground := Go.Ground.data }, { on := 40, ground := Go.Ground.guard }], guard := some (40, true) }) (v := ?v42p195) rfl (by kernel_rfl) (by kernel_rfl) (by kernel_rfl) (fun _ _ _ h => h) (Or.inl ⟨by rfl, ?hy42p195⟩) hHeld ?rest42p195
                                  case hy42p195 =>
                                    intro W' hV
                                    try dsimp only at hV
                                    go_simp
                                    all_goals with_reducible rfl
                                  case' rest42p195 => try simp only [Act.put, List.setIfInBounds_toArray, List.set_cons_zero, List.set_cons_succ]
                                  refine wpAnyH_take (i := 43) (oi := { dst := some 279, op := Go.Op.fieldAddr 35 (Go.Operand.tmp 19) 2, type := 0, pos := "law.go:123", after := #[{ on := 40, ground := Go.Ground.guard }], guard := some (40, true) }) (v := ?v43p196) rfl (by kernel_rfl) (by kernel_rfl) (by kernel_rfl) (fun _ _ _ h => h) (Or.inl ⟨by rfl, ?hy43p196⟩) hHeld ?rest43p196
                                  case hy43p196 =>
                                    intro W' hV
                                    try dsimp only at hV
                                    go_simp
                                    all_goals with_reducible rfl
                                  case' rest43p196 => try simp only [Act.put, List.setIfInBounds_toArray, List.set_cons_zero, List.set_cons_succ]
                                  refine wpAnyH_take (i := 44) (oi := { dst := some 280, op := Go.Op.load 5 (Go.Operand.tmp 279), type := 5, pos := "law.go:123", after := #[{ on := 43, ground := Go.Ground.data }, { on := 40, ground := Go.Ground.guard }], guard := some (40, true) }) (v := ?v44p197) rfl (by kernel_rfl) (by kernel_rfl) (by kernel_rfl) (fun _ _ _ h => h) (Or.inl ⟨by rfl, ?hy44p197⟩) hHeld ?rest44p197
                                  case hy44p197 =>
                                    intro W' hV
                                    try dsimp only at hV
                                    go_simp
                                    all_goals with_reducible rfl
                                  case' rest44p197 => try simp only [Act.put, List.setIfInBounds_toArray, List.set_cons_zero, List.set_cons_succ]
                                  refine wpAnyH_take (i := 45) (oi := { dst := some 281, op := Go.Op.convert 5 3 (Go.Operand.tmp 280), type := 3, pos := "law.go:123", after := #[{ on := 44, ground := Go.Ground.data }, { on := 40, ground := Go.Ground.guard }], guard := some (40, true) }) (v := ?v45p198) rfl (by kernel_rfl) (by kernel_rfl) (by kernel_rfl) (fun _ _ _ h => h) (Or.inl ⟨by rfl, ?hy45p198⟩) hHeld ?rest45p198
                                  case hy45p198 =>
                                    intro W' hV
                                    try dsimp only at hV
                                    go_simp
                                    all_goals with_reducible rfl
                                  case' rest45p198 => try simp only [Act.put, List.setIfInBounds_toArray, List.set_cons_zero, List.set_cons_succ]
                                  refine wpAnyH_take (i := 46) (oi := { dst := some 282, op := Go.Op.binOp Go.BinOp.gtr 3 (Go.Operand.tmp 278) (Go.Operand.tmp 281) 3, type := 4, pos := "law.go:123", after := #[{ on := 42, ground := Go.Ground.data }, { on := 45, ground := Go.Ground.data }, { on := 40, ground := Go.Ground.guard }], guard := some (40, true) }) (v := ?v46p199) rfl (by kernel_rfl) (by kernel_rfl) (by kernel_rfl) (fun _ _ _ h => h) (Or.inl ⟨by rfl, ?hy46p199⟩) hHeld ?rest46p199
                                  case hy46p199 =>
                                    intro W' hV
                                    try dsimp only at hV
                                    go_simp
                                    all_goals with_reducible rfl
                                  case' rest46p199 => try simp only [Act.put, List.setIfInBounds_toArray, List.set_cons_zero, List.set_cons_succ]
                                  refine wpAnyH_take (i := 47) (oi := { dst := some 283, op := Go.Op.pick (Go.Operand.tmp 276) (Go.Operand.tmp 282) (Go.Operand.const (Go.Value.bool false)), type := 4, pos := "law.go:123", after := #[{ on := 40, ground := Go.Ground.data }, { on := 46, ground := Go.Ground.data }, { on := 31, ground := Go.Ground.guard }], guard := some (31, true) }) (v := ?v47p200) rfl (by kernel_rfl) (by kernel_rfl) (by kernel_rfl) (fun _ _ _ h => h) (Or.inl ⟨by rfl, ?hy47p200⟩) hHeld ?rest47p200
                                  case hy47p200 =>
                                    intro W' hV
                                    try dsimp only at hV
                                    go_simp
                                    all_goals with_reducible rfl
                                  case' rest47p200 => try simp only [Act.put, List.setIfInBounds_toArray, List.set_cons_zero, List.set_cons_succ]
                                  refine wpAnyH_take (i := 48) (oi := { dst := some 284, op := Go.Op.binOp Go.BinOp.eql 4 (Go.Operand.tmp 270) (Go.Operand.tmp 283) 4, type := 4, pos := "law.go:123", after := #[{ on := 34, ground := Go.Ground.data }, { on := 47, ground := Go.Ground.data }, { on := 31, ground := Go.Ground.guard }], guard := some (31, true) }) (v := ?v48p201) rfl (by kernel_rfl) (by kernel_rfl) (by kernel_rfl) (fun _ _ _ h => h) (Or.inl ⟨by rfl, ?hy48p201⟩) hHeld ?rest48p201
                                  case hy48p201 =>
                                    intro W' hV
                                    try dsimp only at hV
                                    go_simp
                                    all_goals with_reducible rfl
                                  case' rest48p201 => try simp only [Act.put, List.setIfInBounds_toArray, List.set_cons_zero, List.set_cons_succ]
                                  refine wpAnyH_take (i := 49) (oi := { dst := some 285, op := Go.Op.pick (Go.Operand.tmp 267) (Go.Operand.tmp 284) (Go.Operand.const (Go.Value.bool false)), type := 4, pos := "law.go:123", after := #[{ on := 31, ground := Go.Ground.data }, { on := 48, ground := Go.Ground.data }], guard := none }) (v := ?v49p202) rfl (by kernel_rfl) (by kernel_rfl) (by kernel_rfl) (fun _ _ _ h => h) (Or.inl ⟨by rfl, ?hy49p202⟩) hHeld ?rest49p202
                                  case hy49p202 =>
                                    intro W' hV
                                    try dsimp only at hV
                                    go_simp
                                    all_goals with_reducible rfl
                                  case' rest49p202 => try simp only [Act.put, List.setIfInBounds_toArray, List.set_cons_zero, List.set_cons_succ]
                                  refine wpAnyH_take (i := 50) (oi := { dst := some 4, op := Go.Op.assign (Go.Operand.tmp 285), type := 4, pos := "law.go:123", after := #[{ on := 49, ground := Go.Ground.data }, { on := 40, ground := Go.Ground.chain }, { on := 0, ground := Go.Ground.phase }, { on := 1, ground := Go.Ground.phase }, { on := 2, ground := Go.Ground.phase }, { on := 3, ground := Go.Ground.phase }, { on := 4, ground := Go.Ground.phase }, { on := 5, ground := Go.Ground.phase }, { on := 6, ground := Go.Ground.phase }, { on := 7, ground := Go.Ground.phase }, { on := 8, ground := Go.Ground.phase }, { on := 9, ground := Go.Ground.phase }, { on := 10, ground := Go.Ground.phase }, { on := 11, ground := Go.Ground.phase }, { on := 12, ground := Go.Ground.phase }, { on := 13, ground := Go.Ground.phase }, { on := 14, ground := Go.Ground.phase }, { on := 15, ground := Go.Ground.phase }, { on := 16, ground := Go.Ground.phase }, { on := 17, ground := Go.Ground.phase }, { on := 18, ground := Go.Ground.phase }, { on := 19, ground := Go.Ground.phase }, { on := 20, ground := Go.Ground.phase }, { on := 21, ground := Go.Ground.phase }, { on := 22, ground := Go.Ground.phase }, { on := 23, ground := Go.Ground.phase }, { on := 24, ground := Go.Ground.phase }, { on := 25, ground := Go.Ground.phase }, { on := 26, ground := Go.Ground.phase }, { on := 27, ground := Go.Ground.phase }, { on := 28, ground := Go.Ground.phase }, { on := 29, ground := Go.Ground.phase }, { on := 30, ground := Go.Ground.phase }, { on := 31, ground := Go.Ground.phase }, { on := 32, ground := Go.Ground.phase }, { on := 33, ground := Go.Ground.phase }, { on := 34, ground := Go.Ground.phase }, { on := 35, ground := Go.Ground.phase }, { on := 36, ground := Go.Ground.phase }, { on := 37, ground := Go.Ground.phase }, { on := 38, ground := Go.Ground.phase }, { on := 39, ground := Go.Ground.phase }, { on := 40, ground := Go.Ground.phase }, { on := 41, ground := Go.Ground.phase }, { on := 42, ground := Go.Ground.phase }, { on := 43, ground := Go.Ground.phase }, { on := 44, ground := Go.Ground.phase }, { on := 45, ground := Go.Ground.phase }, { on := 46, ground := Go.Ground.phase }, { on := 47, ground := Go.Ground.phase }, { on := 48, ground := Go.Ground.phase }, { on := 49, ground := Go.Ground.phase }], guard := none }) (v := ?v50p203) rfl (by kernel_rfl) (by kernel_rfl) (by kernel_rfl) (fun _ _ _ h => h) (Or.inl ⟨by rfl, ?hy50p203⟩) hHeld ?rest50p203
                                  case hy50p203 =>
                                    intro W' hV
                                    try dsimp only at hV
                                    go_simp
                                    all_goals with_reducible rfl
                                  case' rest50p203 => try simp only [Act.put, List.setIfInBounds_toArray, List.set_cons_zero, List.set_cons_succ]
                                  refine wpAnyH_done (by kernel_rfl) ?_ _
                                  clear hHeld
                                  go_wp2
                                  go_ret
                                  exact ⟨rfl, bt HWW.out HH2.out⟩
                          | false =>
                            have HXG := Lib.hid (show Rx = (movP T (x : Int) true, 0) by rw [HRX.out, mov_goes _ hx1 hxn (by rw [← hbi]; simp)])
                            have hg1 : gw = 16 := by rw [HGW.out, HRW.out, mov_was _ hx1 hxn hbi.symm]
                            have hg2 : gx = 0 := by rw [HGX.out, HXG.out]
                            subst hg1
                            subst hg2
                            obtain ⟨LX, hLX⟩ : ∃ k, k = Rx.1.L.length := ⟨_, rfl⟩
                            have hlx2 : LX = LT + 1 := by
                              have := L_more HTW.out hx2 hbi.symm
                              rw [hLX, HXG.out, this, HLT.out]
                            have HXF := Lib.hid (show Rx.1.Wf by rw [HXG.out]; exact movP_wf HTW.out _ _)
                            have HINX := Lib.hid (show ∀ W, Calls Try.prog 11 #[.agg sX] W fun e w' => (∃ (a1 : Option Addr) (c1 : Nat), e = .returned (.slice a1 LX c1)) ∧ Below W.heap.size W w' from fun W => by
                              have h := in_any Rx.1 HXF.out W
                              unfold suA at h
                              rw [← HXE.out] at h
                              refine h.mono ?_
                              rintro e w' ⟨a1, c1, h1, _, h3⟩
                              rw [← hLX] at h1
                              exact ⟨⟨a1, c1, h1⟩, h3⟩)
                            have hldx : ∀ W, Below V8b.heap.size V8b W → (Instr.loadAt 35 (.pointer (some ⟨px, 0, none⟩))).run Try.prog W = .ok (.agg sX) W := fun W hW => by
                              have := run_loadAt_mid (P := Try.prog) W px 0 35 (suL Rx.1) _ (SuB.range (HPX.out.on hW)) Try.underlying35 rfl (by rw [suL_len]; exact sizeSu)
                              rw [suL_arr, ← HXE.out] at this
                              exact this
                            have hx15 : ∀ W, Below V8b.heap.size V8b W → W.cell? ⟨px, 15, none⟩ = some (.int .u32 e1) := fun W hW => by
                              have := (HPX.out.on hW).num.2.2.2.2.2.2.2.1
                              rw [HXG.out] at this; rw [HE1.out]; exact this
                            have hxin : ∀ W, Below V8b.heap.size V8b W → W.cell? ⟨px, 16 + x, none⟩ = some (.bool true) := fun W hW => by
                              have := (HPX.out.on hW).inn hx2
                              rw [HXG.out] at this
                              have h2 := movP_in HTW.out hx2 true
                              rw [h2] at this; exact this
                            have hlk : (LT : Int) + 1 = (LX : Int) := by omega
                            have wlx := IntWalk.i64_in (LX : Int) (by omega)
                            clear hbi hLX hlx2
                            go_upto_region 40 with fail
                            as_aux_lemma =>
                              refine wp_region_held_drew (S := (fun W => Below V8b.heap.size V8b W)) (by kernel_rfl) (Below.refl _ _).drew (fun hHeld => ?_)
                              refine wpAnyH_take (i := 0) (oi := { dst := some 286, op := Go.Op.move (Go.Operand.tmp 20), type := 39, pos := "law.go:125", after := #[], guard := none }) (v := ?v0p204) rfl (by kernel_rfl) (by kernel_rfl) (by kernel_rfl) (fun _ _ _ h => h) (Or.inl ⟨by rfl, ?hy0p204⟩) hHeld ?rest0p204
                              case hy0p204 =>
                                intro W' hV
                                try dsimp only at hV
                                go_simp
                                all_goals with_reducible rfl
                              case' rest0p204 => try simp only [Act.put, List.setIfInBounds_toArray, List.set_cons_zero, List.set_cons_succ]
                              refine wpAnyH_take (i := 1) (oi := { dst := some 287, op := Go.Op.binOp Go.BinOp.eql 39 (Go.Operand.tmp 286) (Go.Operand.const (Go.Value.int Go.IntKind.i64 16)) 39, type := 4, pos := "law.go:125", after := #[{ on := 0, ground := Go.Ground.data }], guard := none }) (v := ?v1p205) rfl (by kernel_rfl) (by kernel_rfl) (by kernel_rfl) (fun _ _ _ h => h) (Or.inl ⟨by rfl, ?hy1p205⟩) hHeld ?rest1p205
                              case hy1p205 =>
                                intro W' hV
                                try dsimp only at hV
                                go_simp
                                all_goals with_reducible rfl
                              case' rest1p205 => try simp only [Act.put, List.setIfInBounds_toArray, List.set_cons_zero, List.set_cons_succ]
                              refine wpAnyH_take (i := 2) (oi := { dst := some 288, op := Go.Op.move (Go.Operand.tmp 287), type := 4, pos := "law.go:125", after := #[{ on := 1, ground := Go.Ground.data }], guard := none }) (v := ?v2p206) rfl (by kernel_rfl) (by kernel_rfl) (by kernel_rfl) (fun _ _ _ h => h) (Or.inl ⟨by rfl, ?hy2p206⟩) hHeld ?rest2p206
                              case hy2p206 =>
                                intro W' hV
                                try dsimp only at hV
                                go_simp
                                all_goals with_reducible rfl
                              case' rest2p206 => try simp only [Act.put, List.setIfInBounds_toArray, List.set_cons_zero, List.set_cons_succ]
                              refine wpAnyH_take (i := 3) (oi := { dst := some 289, op := Go.Op.move (Go.Operand.tmp 22), type := 39, pos := "law.go:125", after := #[{ on := 2, ground := Go.Ground.guard }], guard := some (2, true) }) (v := ?v3p207) rfl (by kernel_rfl) (by kernel_rfl) (by kernel_rfl) (fun _ _ _ h => h) (Or.inl ⟨by rfl, ?hy3p207⟩) hHeld ?rest3p207
                              case hy3p207 =>
                                intro W' hV
                                try dsimp only at hV
                                go_simp
                                all_goals with_reducible rfl
                              case' rest3p207 => try simp only [Act.put, List.setIfInBounds_toArray, List.set_cons_zero, List.set_cons_succ]
                              refine wpAnyH_take (i := 4) (oi := { dst := some 290, op := Go.Op.binOp Go.BinOp.eql 39 (Go.Operand.tmp 289) (Go.Operand.const (Go.Value.int Go.IntKind.i64 0)) 39, type := 4, pos := "law.go:125", after := #[{ on := 3, ground := Go.Ground.data }, { on := 2, ground := Go.Ground.guard }], guard := some (2, true) }) (v := ?v4p208) rfl (by kernel_rfl) (by kernel_rfl) (by kernel_rfl) (fun _ _ _ h => h) (Or.inl ⟨by rfl, ?hy4p208⟩) hHeld ?rest4p208
                              case hy4p208 =>
                                intro W' hV
                                try dsimp only at hV
                                go_simp
                                all_goals with_reducible rfl
                              case' rest4p208 => try simp only [Act.put, List.setIfInBounds_toArray, List.set_cons_zero, List.set_cons_succ]
                              refine wpAnyH_take (i := 5) (oi := { dst := some 291, op := Go.Op.pick (Go.Operand.tmp 288) (Go.Operand.tmp 290) (Go.Operand.const (Go.Value.bool false)), type := 4, pos := "law.go:125", after := #[{ on := 2, ground := Go.Ground.data }, { on := 4, ground := Go.Ground.data }], guard := none }) (v := ?v5p209) rfl (by kernel_rfl) (by kernel_rfl) (by kernel_rfl) (fun _ _ _ h => h) (Or.inl ⟨by rfl, ?hy5p209⟩) hHeld ?rest5p209
                              case hy5p209 =>
                                intro W' hV
                                try dsimp only at hV
                                go_simp
                                all_goals with_reducible rfl
                              case' rest5p209 => try simp only [Act.put, List.setIfInBounds_toArray, List.set_cons_zero, List.set_cons_succ]
                              refine wpAnyH_take (i := 6) (oi := { dst := some 292, op := Go.Op.move (Go.Operand.tmp 291), type := 4, pos := "law.go:125", after := #[{ on := 5, ground := Go.Ground.data }, { on := 2, ground := Go.Ground.chain }], guard := none }) (v := ?v6p210) rfl (by kernel_rfl) (by kernel_rfl) (by kernel_rfl) (fun _ _ _ h => h) (Or.inl ⟨by rfl, ?hy6p210⟩) hHeld ?rest6p210
                              case hy6p210 =>
                                intro W' hV
                                try dsimp only at hV
                                go_simp
                                all_goals with_reducible rfl
                              case' rest6p210 => try simp only [Act.put, List.setIfInBounds_toArray, List.set_cons_zero, List.set_cons_succ]
                              refine wpAnyH_take (i := 7) (oi := { dst := some 293, op := Go.Op.move (Go.Operand.tmp 1), type := 3, pos := "law.go:125", after := #[{ on := 6, ground := Go.Ground.guard }], guard := some (6, true) }) (v := ?v7p211) rfl (by kernel_rfl) (by kernel_rfl) (by kernel_rfl) (fun _ _ _ h => h) (Or.inl ⟨by rfl, ?hy7p211⟩) hHeld ?rest7p211
                              case hy7p211 =>
                                intro W' hV
                                try dsimp only at hV
                                go_simp
                                all_goals with_reducible rfl
                              case' rest7p211 => try simp only [Act.put, List.setIfInBounds_toArray, List.set_cons_zero, List.set_cons_succ]
                              refine wpAnyH_take (i := 8) (oi := { dst := some 294, op := Go.Op.fieldAddr 35 (Go.Operand.tmp 21) 9, type := 0, pos := "law.go:125", after := #[{ on := 6, ground := Go.Ground.guard }], guard := some (6, true) }) (v := ?v8p212) rfl (by kernel_rfl) (by kernel_rfl) (by kernel_rfl) (fun _ _ _ h => h) (Or.inl ⟨by rfl, ?hy8p212⟩) hHeld ?rest8p212
                              case hy8p212 =>
                                intro W' hV
                                try dsimp only at hV
                                go_simp
                                all_goals with_reducible rfl
                              case' rest8p212 => try simp only [Act.put, List.setIfInBounds_toArray, List.set_cons_zero, List.set_cons_succ]
                              refine wpAnyH_take (i := 9) (oi := { dst := some 295, op := Go.Op.indexAddr 33 (Go.Operand.tmp 294) (Go.Operand.tmp 293), type := 0, pos := "law.go:125", after := #[{ on := 8, ground := Go.Ground.data }, { on := 7, ground := Go.Ground.data }, { on := 6, ground := Go.Ground.guard }], guard := some (6, true) }) (v := ?v9p213) rfl (by kernel_rfl) (by kernel_rfl) (by kernel_rfl) (fun _ _ _ h => h) (Or.inl ⟨by rfl, ?hy9p213⟩) hHeld ?rest9p213
                              case hy9p213 =>
                                intro W' hV
                                try dsimp only at hV
                                go_simp
                                all_goals with_reducible rfl
                              case' rest9p213 => try simp only [Act.put, List.setIfInBounds_toArray, List.set_cons_zero, List.set_cons_succ]
                              refine wpAnyH_take (i := 10) (oi := { dst := some 296, op := Go.Op.load 4 (Go.Operand.tmp 295), type := 4, pos := "law.go:125", after := #[{ on := 9, ground := Go.Ground.data }, { on := 6, ground := Go.Ground.guard }], guard := some (6, true) }) (v := ?v10p214) rfl (by kernel_rfl) (by kernel_rfl) (by kernel_rfl) (fun _ _ _ h => h) (Or.inl ⟨by rfl, ?hy10p214⟩) hHeld ?rest10p214
                              case hy10p214 =>
                                intro W' hV
                                try dsimp only at hV
                                go_simp
                                all_goals with_reducible rfl
                              case' rest10p214 => try simp only [Act.put, List.setIfInBounds_toArray, List.set_cons_zero, List.set_cons_succ]
                              refine wpAnyH_take (i := 11) (oi := { dst := some 297, op := Go.Op.pick (Go.Operand.tmp 292) (Go.Operand.tmp 296) (Go.Operand.const (Go.Value.bool false)), type := 4, pos := "law.go:125", after := #[{ on := 6, ground := Go.Ground.data }, { on := 10, ground := Go.Ground.data }], guard := none }) (v := ?v11p215) rfl (by kernel_rfl) (by kernel_rfl) (by kernel_rfl) (fun _ _ _ h => h) (Or.inl ⟨by rfl, ?hy11p215⟩) hHeld ?rest11p215
                              case hy11p215 =>
                                intro W' hV
                                try dsimp only at hV
                                go_simp
                                all_goals with_reducible rfl
                              case' rest11p215 => try simp only [Act.put, List.setIfInBounds_toArray, List.set_cons_zero, List.set_cons_succ]
                              refine wpAnyH_take (i := 12) (oi := { dst := some 298, op := Go.Op.move (Go.Operand.tmp 297), type := 4, pos := "law.go:125", after := #[{ on := 11, ground := Go.Ground.data }, { on := 6, ground := Go.Ground.chain }], guard := none }) (v := ?v12p216) rfl (by kernel_rfl) (by kernel_rfl) (by kernel_rfl) (fun _ _ _ h => h) (Or.inl ⟨by rfl, ?hy12p216⟩) hHeld ?rest12p216
                              case hy12p216 =>
                                intro W' hV
                                try dsimp only at hV
                                go_simp
                                all_goals with_reducible rfl
                              case' rest12p216 => try simp only [Act.put, List.setIfInBounds_toArray, List.set_cons_zero, List.set_cons_succ]
                              refine wpAnyH_take (i := 13) (oi := { dst := some 299, op := Go.Op.fieldAddr 35 (Go.Operand.tmp 21) 8, type := 0, pos := "law.go:125", after := #[{ on := 12, ground := Go.Ground.guard }], guard := some (12, true) }) (v := ?v13p217) rfl (by kernel_rfl) (by kernel_rfl) (by kernel_rfl) (fun _ _ _ h => h) (Or.inl ⟨by rfl, ?hy13p217⟩) hHeld ?rest13p217
                              case hy13p217 =>
                                intro W' hV
                                try dsimp only at hV
                                go_simp
                                all_goals with_reducible rfl
                              case' rest13p217 => try simp only [Act.put, List.setIfInBounds_toArray, List.set_cons_zero, List.set_cons_succ]
                              refine wpAnyH_take (i := 14) (oi := { dst := some 300, op := Go.Op.load 25 (Go.Operand.tmp 299), type := 25, pos := "law.go:125", after := #[{ on := 13, ground := Go.Ground.data }, { on := 12, ground := Go.Ground.guard }], guard := some (12, true) }) (v := ?v14p218) rfl (by kernel_rfl) (by kernel_rfl) (by kernel_rfl) (fun _ _ _ h => h) (Or.inl ⟨by rfl, ?hy14p218⟩) hHeld ?rest14p218
                              case hy14p218 =>
                                intro W' hV
                                try dsimp only at hV
                                go_simp
                                all_goals with_reducible rfl
                              case' rest14p218 => try simp only [Act.put, List.setIfInBounds_toArray, List.set_cons_zero, List.set_cons_succ]
                              refine wpAnyH_take (i := 15) (oi := { dst := some 301, op := Go.Op.fieldAddr 38 (Go.Operand.tmp 9) 0, type := 0, pos := "law.go:125", after := #[{ on := 12, ground := Go.Ground.guard }], guard := some (12, true) }) (v := ?v15p219) rfl (by kernel_rfl) (by kernel_rfl) (by kernel_rfl) (fun _ _ _ h => h) (Or.inl ⟨by rfl, ?hy15p219⟩) hHeld ?rest15p219
                              case hy15p219 =>
                                intro W' hV
                                try dsimp only at hV
                                go_simp
                                all_goals with_reducible rfl
                              case' rest15p219 => try simp only [Act.put, List.setIfInBounds_toArray, List.set_cons_zero, List.set_cons_succ]
                              refine wpAnyH_take (i := 16) (oi := { dst := some 302, op := Go.Op.fieldAddr 35 (Go.Operand.tmp 301) 8, type := 0, pos := "law.go:125", after := #[{ on := 15, ground := Go.Ground.data }, { on := 12, ground := Go.Ground.guard }], guard := some (12, true) }) (v := ?v16p220) rfl (by kernel_rfl) (by kernel_rfl) (by kernel_rfl) (fun _ _ _ h => h) (Or.inl ⟨by rfl, ?hy16p220⟩) hHeld ?rest16p220
                              case hy16p220 =>
                                intro W' hV
                                try dsimp only at hV
                                go_simp
                                all_goals with_reducible rfl
                              case' rest16p220 => try simp only [Act.put, List.setIfInBounds_toArray, List.set_cons_zero, List.set_cons_succ]
                              refine wpAnyH_take (i := 17) (oi := { dst := some 303, op := Go.Op.load 25 (Go.Operand.tmp 302), type := 25, pos := "law.go:125", after := #[{ on := 16, ground := Go.Ground.data }, { on := 12, ground := Go.Ground.guard }], guard := some (12, true) }) (v := ?v17p221) rfl (by kernel_rfl) (by kernel_rfl) (by kernel_rfl) (fun _ _ _ h => h) (Or.inl ⟨by rfl, ?hy17p221⟩) hHeld ?rest17p221
                              case hy17p221 =>
                                intro W' hV
                                try dsimp only at hV
                                go_simp
                                all_goals with_reducible rfl
                              case' rest17p221 => try simp only [Act.put, List.setIfInBounds_toArray, List.set_cons_zero, List.set_cons_succ]
                              refine wpAnyH_take (i := 18) (oi := { dst := some 304, op := Go.Op.binOp Go.BinOp.add 25 (Go.Operand.tmp 303) (Go.Operand.const (Go.Value.int Go.IntKind.u32 1)) 25, type := 25, pos := "law.go:125", after := #[{ on := 17, ground := Go.Ground.data }, { on := 12, ground := Go.Ground.guard }], guard := some (12, true) }) (v := ?v18p222) rfl (by kernel_rfl) (by kernel_rfl) (by kernel_rfl) (fun _ _ _ h => h) (Or.inl ⟨by rfl, ?hy18p222⟩) hHeld ?rest18p222
                              case hy18p222 =>
                                intro W' hV
                                try dsimp only at hV
                                go_simp
                                all_goals with_reducible rfl
                              case' rest18p222 => try simp only [Act.put, List.setIfInBounds_toArray, List.set_cons_zero, List.set_cons_succ]
                              refine wpAnyH_take (i := 19) (oi := { dst := some 305, op := Go.Op.binOp Go.BinOp.eql 25 (Go.Operand.tmp 300) (Go.Operand.tmp 304) 25, type := 4, pos := "law.go:125", after := #[{ on := 14, ground := Go.Ground.data }, { on := 18, ground := Go.Ground.data }, { on := 12, ground := Go.Ground.guard }], guard := some (12, true) }) (v := ?v19p223) rfl (by kernel_rfl) (by kernel_rfl) (by kernel_rfl) (fun _ _ _ h => h) (Or.inl ⟨by rfl, ?hy19p223⟩) hHeld ?rest19p223
                              case hy19p223 =>
                                intro W' hV
                                try dsimp only at hV
                                go_simp
                                all_goals with_reducible rfl
                              case' rest19p223 => try simp only [Act.put, List.setIfInBounds_toArray, List.set_cons_zero, List.set_cons_succ]
                              refine wpAnyH_take (i := 20) (oi := { dst := some 306, op := Go.Op.pick (Go.Operand.tmp 298) (Go.Operand.tmp 305) (Go.Operand.const (Go.Value.bool false)), type := 4, pos := "law.go:125", after := #[{ on := 12, ground := Go.Ground.data }, { on := 19, ground := Go.Ground.data }], guard := none }) (v := ?v20p224) rfl (by kernel_rfl) (by kernel_rfl) (by kernel_rfl) (fun _ _ _ h => h) (Or.inl ⟨by rfl, ?hy20p224⟩) hHeld ?rest20p224
                              case hy20p224 =>
                                intro W' hV
                                try dsimp only at hV
                                go_simp
                                all_goals with_reducible rfl
                              case' rest20p224 => try simp only [Act.put, List.setIfInBounds_toArray, List.set_cons_zero, List.set_cons_succ]
                              refine wpAnyH_take (i := 21) (oi := { dst := some 307, op := Go.Op.move (Go.Operand.tmp 306), type := 4, pos := "law.go:125", after := #[{ on := 20, ground := Go.Ground.data }, { on := 12, ground := Go.Ground.chain }], guard := none }) (v := ?v21p225) rfl (by kernel_rfl) (by kernel_rfl) (by kernel_rfl) (fun _ _ _ h => h) (Or.inl ⟨by rfl, ?hy21p225⟩) hHeld ?rest21p225
                              case hy21p225 =>
                                intro W' hV
                                try dsimp only at hV
                                go_simp
                                all_goals with_reducible rfl
                              case' rest21p225 => try simp only [Act.put, List.setIfInBounds_toArray, List.set_cons_zero, List.set_cons_succ]
                              refine wpAnyH_take (i := 22) (oi := { dst := some 308, op := Go.Op.load 35 (Go.Operand.tmp 21), type := 35, pos := "law.go:125", after := #[{ on := 21, ground := Go.Ground.guard }], guard := some (21, true) }) (v := .agg sX) rfl (by kernel_rfl) (by kernel_rfl) (by kernel_rfl) (fun _ _ _ h => h) (yields_loadAt (by rfl) 35 (.tmp 21) rfl (by rfl) (fun W h => hldx W h)) hHeld ?rest22p226
                              case' rest22p226 => try simp only [Act.put, List.setIfInBounds_toArray, List.set_cons_zero, List.set_cons_succ]
                              refine wpAnyH_take (i := 25) (oi := { dst := some 311, op := Go.Op.fieldAddr 38 (Go.Operand.tmp 9) 0, type := 0, pos := "law.go:125", after := #[{ on := 21, ground := Go.Ground.guard }], guard := some (21, true) }) (v := ?v25p227) rfl (by kernel_rfl) (by kernel_rfl) (by kernel_rfl) (fun _ _ _ h => h) (Or.inl ⟨by rfl, ?hy25p227⟩) hHeld ?rest25p227
                              case hy25p227 =>
                                intro W' hV
                                try dsimp only at hV
                                go_simp
                                all_goals with_reducible rfl
                              case' rest25p227 => try simp only [Act.put, List.setIfInBounds_toArray, List.set_cons_zero, List.set_cons_succ]
                              refine wpAnyH_take (i := 26) (oi := { dst := some 312, op := Go.Op.load 35 (Go.Operand.tmp 311), type := 35, pos := "law.go:125", after := #[{ on := 25, ground := Go.Ground.data }, { on := 21, ground := Go.Ground.guard }], guard := some (21, true) }) (v := .agg sT) rfl (by kernel_rfl) (by kernel_rfl) (by kernel_rfl) (fun _ _ _ h => h) (yields_loadAt (by rfl) 35 (.tmp 311) rfl (by rfl) (fun W h => hldt W h)) hHeld ?rest26p228
                              case' rest26p228 => try simp only [Act.put, List.setIfInBounds_toArray, List.set_cons_zero, List.set_cons_succ]
                              generalize V8b.drew = v0 at hHeld ⊢
                              have HH0 := Lib.hid hHeld
                              refine wpAnyH_ready (rs := [23]) (by kernel_rfl) (by simp) ?_
                              refine AllReadyH.cons (o := { dst := some 309, op := Go.Op.call { callee := Go.Callee.value (Go.Operand.func 11), args := #[Go.Operand.tmp 308], argTypes := #[35] }, type := 36, pos := "law.go:125", after := #[{ on := 22, ground := Go.Ground.data }, { on := 21, ground := Go.Ground.chain }, { on := 21, ground := Go.Ground.guard }], guard := some (21, true) }) rfl (fun K' hK => ?_) AllReadyH.nil
                              rw [if_pos (by rfl)]
                              go_wp2_with (go_at_call 11; go_loud ((with_reducible refine (HINX.out v0).mono ?_); rintro e v1 ⟨⟨a1, c1, rfl⟩, hb1⟩))
                              refine hK.out _ _ (bt HH0.out hb1) (fun hHeld1 => ?_)
                              clear hK K' hHeld
                              have hHeld := hHeld1
                              clear hHeld1
                              try simp only [Act.put, List.setIfInBounds_toArray, List.set_cons_zero, List.set_cons_succ]
                              have HH1 := Lib.hid hHeld
                              clear hb1
                              refine wpAnyH_take (i := 24) (oi := { dst := some 310, op := Go.Op.call { callee := Go.Callee.builtin Go.Builtin.len, args := #[Go.Operand.tmp 309], argTypes := #[36] }, type := 3, pos := "law.go:125", after := #[{ on := 23, ground := Go.Ground.data }, { on := 21, ground := Go.Ground.guard }], guard := some (21, true) }) (v := ?v24p229) rfl (by kernel_rfl) (by kernel_rfl) (by kernel_rfl) (fun _ _ _ h => h) (Or.inl ⟨by rfl, ?hy24p229⟩) hHeld ?rest24p229
                              case hy24p229 =>
                                intro W' hV
                                try dsimp only at hV
                                go_simp
                                all_goals with_reducible rfl
                              case' rest24p229 => try simp only [Act.put, List.setIfInBounds_toArray, List.set_cons_zero, List.set_cons_succ]
                              refine wpAnyH_ready (rs := [27]) (by kernel_rfl) (by simp) ?_
                              refine AllReadyH.cons (o := { dst := some 313, op := Go.Op.call { callee := Go.Callee.value (Go.Operand.func 11), args := #[Go.Operand.tmp 312], argTypes := #[35] }, type := 36, pos := "law.go:125", after := #[{ on := 26, ground := Go.Ground.data }, { on := 23, ground := Go.Ground.chain }, { on := 21, ground := Go.Ground.guard }], guard := some (21, true) }) rfl (fun K' hK => ?_) AllReadyH.nil
                              rw [if_pos (by rfl)]
                              go_wp2_with (go_at_call 11; go_loud ((with_reducible refine (HIN2.out v1).mono ?_); rintro e v2 ⟨⟨a2, c2, rfl, hi2⟩, hb2⟩))
                              refine hK.out _ _ (bt HH1.out hb2) (fun hHeld1 => ?_)
                              clear hK K' hHeld
                              have hHeld := hHeld1
                              clear hHeld1
                              try simp only [Act.put, List.setIfInBounds_toArray, List.set_cons_zero, List.set_cons_succ]
                              have HH2 := Lib.hid hHeld
                              clear hi2 hb2
                              refine wpAnyH_take (i := 28) (oi := { dst := some 314, op := Go.Op.call { callee := Go.Callee.builtin Go.Builtin.len, args := #[Go.Operand.tmp 313], argTypes := #[36] }, type := 3, pos := "law.go:125", after := #[{ on := 27, ground := Go.Ground.data }, { on := 21, ground := Go.Ground.guard }], guard := some (21, true) }) (v := ?v28p230) rfl (by kernel_rfl) (by kernel_rfl) (by kernel_rfl) (fun _ _ _ h => h) (Or.inl ⟨by rfl, ?hy28p230⟩) hHeld ?rest28p230
                              case hy28p230 =>
                                intro W' hV
                                try dsimp only at hV
                                go_simp
                                all_goals with_reducible rfl
                              case' rest28p230 => try simp only [Act.put, List.setIfInBounds_toArray, List.set_cons_zero, List.set_cons_succ]
                              refine wpAnyH_take (i := 29) (oi := { dst := some 315, op := Go.Op.binOp Go.BinOp.add 3 (Go.Operand.tmp 314) (Go.Operand.const (Go.Value.int Go.IntKind.i64 1)) 3, type := 3, pos := "law.go:125", after := #[{ on := 28, ground := Go.Ground.data }, { on := 21, ground := Go.Ground.guard }], guard := some (21, true) }) (v := ?v29p231) rfl (by kernel_rfl) (by kernel_rfl) (by kernel_rfl) (fun _ _ _ h => h) (Or.inl ⟨by rfl, ?hy29p231⟩) hHeld ?rest29p231
                              case hy29p231 =>
                                intro W' hV
                                try dsimp only at hV
                                go_simp
                                all_goals with_reducible rfl
                              case' rest29p231 => try simp only [Act.put, List.setIfInBounds_toArray, List.set_cons_zero, List.set_cons_succ]
                              refine wpAnyH_take (i := 30) (oi := { dst := some 316, op := Go.Op.binOp Go.BinOp.eql 3 (Go.Operand.tmp 310) (Go.Operand.tmp 315) 3, type := 4, pos := "law.go:125", after := #[{ on := 24, ground := Go.Ground.data }, { on := 29, ground := Go.Ground.data }, { on := 21, ground := Go.Ground.guard }], guard := some (21, true) }) (v := ?v30p232) rfl (by kernel_rfl) (by kernel_rfl) (by kernel_rfl) (fun _ _ _ h => h) (Or.inl ⟨by rfl, ?hy30p232⟩) hHeld ?rest30p232
                              case hy30p232 =>
                                intro W' hV
                                try dsimp only at hV
                                go_simp
                                all_goals with_reducible rfl
                              case' rest30p232 => try simp only [Act.put, List.setIfInBounds_toArray, List.set_cons_zero, List.set_cons_succ]
                              refine wpAnyH_take (i := 31) (oi := { dst := some 317, op := Go.Op.pick (Go.Operand.tmp 307) (Go.Operand.tmp 316) (Go.Operand.const (Go.Value.bool false)), type := 4, pos := "law.go:125", after := #[{ on := 21, ground := Go.Ground.data }, { on := 30, ground := Go.Ground.data }], guard := none }) (v := ?v31p233) rfl (by kernel_rfl) (by kernel_rfl) (by kernel_rfl) (fun _ _ _ h => h) (Or.inl ⟨by rfl, ?hy31p233⟩) hHeld ?rest31p233
                              case hy31p233 =>
                                intro W' hV
                                try dsimp only at hV
                                go_simp
                                all_goals with_reducible rfl
                              case' rest31p233 => try simp only [Act.put, List.setIfInBounds_toArray, List.set_cons_zero, List.set_cons_succ]
                              refine wpAnyH_take (i := 32) (oi := { dst := some 4, op := Go.Op.assign (Go.Operand.tmp 317), type := 4, pos := "law.go:125", after := #[{ on := 31, ground := Go.Ground.data }, { on := 27, ground := Go.Ground.chain }, { on := 0, ground := Go.Ground.phase }, { on := 1, ground := Go.Ground.phase }, { on := 2, ground := Go.Ground.phase }, { on := 3, ground := Go.Ground.phase }, { on := 4, ground := Go.Ground.phase }, { on := 5, ground := Go.Ground.phase }, { on := 6, ground := Go.Ground.phase }, { on := 7, ground := Go.Ground.phase }, { on := 8, ground := Go.Ground.phase }, { on := 9, ground := Go.Ground.phase }, { on := 10, ground := Go.Ground.phase }, { on := 11, ground := Go.Ground.phase }, { on := 12, ground := Go.Ground.phase }, { on := 13, ground := Go.Ground.phase }, { on := 14, ground := Go.Ground.phase }, { on := 15, ground := Go.Ground.phase }, { on := 16, ground := Go.Ground.phase }, { on := 17, ground := Go.Ground.phase }, { on := 18, ground := Go.Ground.phase }, { on := 19, ground := Go.Ground.phase }, { on := 20, ground := Go.Ground.phase }, { on := 21, ground := Go.Ground.phase }, { on := 22, ground := Go.Ground.phase }, { on := 23, ground := Go.Ground.phase }, { on := 24, ground := Go.Ground.phase }, { on := 25, ground := Go.Ground.phase }, { on := 26, ground := Go.Ground.phase }, { on := 27, ground := Go.Ground.phase }, { on := 28, ground := Go.Ground.phase }, { on := 29, ground := Go.Ground.phase }, { on := 30, ground := Go.Ground.phase }, { on := 31, ground := Go.Ground.phase }], guard := none }) (v := ?v32p234) rfl (by kernel_rfl) (by kernel_rfl) (by kernel_rfl) (fun _ _ _ h => h) (Or.inl ⟨by rfl, ?hy32p234⟩) hHeld ?rest32p234
                              case hy32p234 =>
                                intro W' hV
                                try dsimp only at hV
                                go_simp
                                all_goals with_reducible rfl
                              case' rest32p234 => try simp only [Act.put, List.setIfInBounds_toArray, List.set_cons_zero, List.set_cons_succ]
                              refine wpAnyH_done (by kernel_rfl) ?_ _
                              clear hHeld
                              go_wp2
                              go_ret
                              exact ⟨rfl, bt HWW.out HH2.out⟩
end Go.Proofs.Ytbijakhdngbjmaa
