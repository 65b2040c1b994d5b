/- Package crew: Gather. -/
import Derived.Test.YtbijakhdngbjmaaGh
namespace Go.Proofs.Ytbijakhdngbjmaa
open Go.ChangeShapes Go.WideShapes Go.ChangeAt Go.RowKit Go.Shelf Go.Maps
set_option linter.unusedVariables false
set_option linter.unusedSimpArgs false
set_option maxRecDepth 100000
attribute [local go_sem] Oper.semAt_some

set_option maxHeartbeats 8000000 in
theorem gather_nil (ae : Option Addr) (ce : Nat) (w : World) :
    Calls Try.prog 7 #[.slice ae 0 ce] w fun e w' => e = .returned (.tuple #[.agg crZ, .int .i64 16]) ∧ Below w.heap.size w w' := by
  obtain ⟨hz0, hi0⟩ := zero_of_info infoCr
  clear hi0
  obtain ⟨z0, hzz0⟩ : ∃ s, s = crZ := ⟨_, rfl⟩
  replace hz0 : ∀ W : World, (zeroValue 38).run Try.prog W = .ok (.agg z0) W := by rw [hzz0]; exact hz0
  have HBZ := Lib.hid (show Try.prog.built 38 [] = some z0 by rw [hzz0]; exact built_cr0)
  have HSZ := Lib.hid (show z0.size = 277 ∧ z0.all (·.oneCell') = true by rw [hzz0]; exact crZ_size)
  obtain ⟨A, hA⟩ : ∃ A, A = w.alloc (.cells z0 38) := ⟨_, rfl⟩
  have HA := Lib.hid hA
  have HB := Lib.hid (show Below w.heap.size w A by rw [hA]; exact (Below.refl _ _).alloc (Nat.le_refl _) _)
  have HAC := Lib.hid (show A.heap[w.heap.size]? = some (.cells z0 38 (0, 0)) by rw [hA]; exact heap_alloc_new w _)
  have HAS := Lib.hid (show A.heap.size = w.heap.size + 1 by rw [hA]; simp)
  have HF := Lib.hid (show Calls Try.prog 17 #[.slice ae 0 ce] A fun e w' => e = .returned (.tuple #[.agg z0, .int .i64 16]) ∧ Below A.heap.size A w' by rw [hzz0]; exact crewOf_nil ae ce A)
  rw [← hzz0]
  clear hzz0 hA
  go_enter Try.func7, Try.ntmps7
  go_upto_region 1 with fail
  rw [← HA.out]
  go_wp2_with (first
    | (go_at_call 17; go_loud ((with_reducible refine HF.out.mono ?_); rintro e w1 ⟨rfl, hb⟩; have HB1 := Lib.hid hb; clear hb))
    | ((with_reducible show wpList _ _ _ (⟨none, Op.store 38 (.tmp 4) _, _, _, _, _⟩ :: _) _ _); go_loud (refine wpList_store_row rfl 38 (.tmp 4) (.tmp 10) rfl w1.heap.size z0 rfl rfl 38 z0 (heap_alloc_new _ _) (by rw [HSZ.out.1]; exact sizeCr) rfl HSZ.out.2 ?_; have HB2 := Lib.hid (show Below (w.heap.size + 1) A ((w1.alloc (.cells z0 38)).setRow w1.heap.size z0) from by rw [alloc_setRow]; have h1 := HAS.out; exact (HB1.out.mono (by omega)).alloc (by have := HB1.out.size; omega) _)))
    | ((with_reducible show wpList _ _ _ (⟨some 14, _, _, _, _, _⟩ :: _) _ _); go_loud (refine wpList_buildTo rfl 38 _ rfl (some 14) rfl z0 (by rw [Array.toList_map]; exact HBZ.out) ?_))
    | ((with_reducible show wpList _ _ _ (⟨none, Op.store 38 (.tmp 2) _, _, _, _, _⟩ :: _) _ _); go_loud (refine wpList_store_row rfl 38 (.tmp 2) (.tmp 14) rfl w.heap.size z0 rfl rfl 38 z0 ((HB2.out.block _ (by omega)).trans HAC.out) (by rw [HSZ.out.1]; exact sizeCr) rfl HSZ.out.2 ?_)))
  exact bodyPost_ret (results_gather _ _ w.heap.size z0 _ rfl rfl (setRow_heap _ _ _ _ _ _ ((HB2.out.block _ (by omega)).trans HAC.out)) (by rw [HSZ.out.1]; exact sizeCr)) rfl ⟨rfl, below_setRow (HB.out.trans (HB2.out.mono (by omega))) (Nat.le_refl _) _⟩
/-- What Gather tells, but for none. -/
def gaI (SL : List SU) : Int := if (tabSU SL).n < 2 * (SL.length : Int) then enI (tabSU SL) (curL (tabSU SL) SL).length else 13
set_option maxHeartbeats 8000000 in
theorem gather_some (a : Option Addr) (L c : Nat) (SL : List SU) (w : World) (hI : SuR w a L c SL) (hT : Tog SL) (hL : 0 < L) :
    Calls Try.prog 7 #[.slice a L c] w fun e w' => (gaI SL = 0 → ∃ (ao : Option Addr) (co : Nat), e = .returned (.tuple #[crA (tabSU SL) (.slice ao (curL (tabSU SL) SL).length co), .int .i64 0]) ∧ w'.ownsRow (w.heap.size + 1) 3 1 (.slice ao (curL (tabSU SL) SL).length co) (curL (tabSU SL) SL).length ((curL (tabSU SL) SL).map (Value.int .i64))) ∧ (gaI SL ≠ 0 → e = .returned (.tuple #[.agg crZ, .int .i64 (gaI SL)])) ∧ Below w.heap.size w w' := by
  have hl : SL.length = L := hI.1
  have hL9 : L ≤ 100 := by rw [← hl]; exact hT.le
  obtain ⟨hz0, hi0⟩ := zero_of_info infoCr
  clear hi0
  obtain ⟨z0, hzz0⟩ : ∃ s, s = crZ := ⟨_, rfl⟩
  replace hz0 : ∀ W : World, (zeroValue 38).run Try.prog W = .ok (.agg z0) W := by rw [hzz0]; exact hz0
  have HBZ := Lib.hid (show Try.prog.built 38 [] = some z0 by rw [hzz0]; exact built_cr0)
  have HSZ := Lib.hid (show z0.size = 277 ∧ z0.all (·.oneCell') = true by rw [hzz0]; exact crZ_size)
  obtain ⟨A, hA⟩ : ∃ A, A = w.alloc (.cells z0 38) := ⟨_, rfl⟩
  have HA := Lib.hid hA
  have HB := Lib.hid (show Below w.heap.size w A by rw [hA]; exact (Below.refl _ _).alloc (Nat.le_refl _) _)
  have HAC := Lib.hid (show A.heap[w.heap.size]? = some (.cells z0 38 (0, 0)) by rw [hA]; exact heap_alloc_new w _)
  have HAS := Lib.hid (show A.heap.size = w.heap.size + 1 by rw [hA]; simp)
  obtain ⟨T, hTT⟩ : ∃ T, T = tabSU SL := ⟨_, rfl⟩
  have hTW : T.Wf := by rw [hTT]; exact tabSU_wf hT.wf (by omega)
  have hn9 : (curL T SL).length ≤ 100 := Nat.le_trans (cur_len_le hT.un hT.wf) hT.le
  have HF := Lib.hid (crewOf_some a L c SL A (hI.on (HB.out)) hT hL)
  unfold gaI
  rw [← hTT] at HF ⊢
  obtain ⟨CL, hCL⟩ : ∃ CL, CL = curL T SL := ⟨_, rfl⟩
  rw [← hCL] at HF hn9 ⊢
  obtain ⟨n, hn⟩ : ∃ n, n = CL.length := ⟨_, rfl⟩
  rw [← hn] at HF hn9 ⊢
  rw [hl]
  have HF1 := Lib.hid (fun W => most_any T hTW L (by omega) W)
  have HF2 := Lib.hid (fun W => enough_any T hTW n (by omega) W)
  obtain ⟨sT, hsT⟩ : ∃ s, s = tabV 276 (suV T) := ⟨_, rfl⟩
  have HSU := Lib.hid (show suA T = .agg sT by rw [hsT]; rfl)
  have HSL := Lib.hid (show (suL T).toArray = sT by rw [suL_arr, hsT])
  rw [HSU.out] at HF1 HF2
  obtain ⟨b1, hb1⟩ : ∃ b, b = decide (T.n < 2 * (L : Int)) := ⟨_, rfl⟩
  obtain ⟨z, hz⟩ : ∃ z, z = enI T n := ⟨_, rfl⟩
  have HR := Lib.hid (show (if T.n < 2 * (L : Int) then enI T n else 13) = if b1 = true then z else 13 by rw [hb1, hz]; simp only [decide_eq_true_eq])
  rw [HR.out]
  rw [← hb1] at HF1
  rw [← hz] at HF2
  rw [← hzz0]
  have HZZ := Lib.hid (show z = 0 ∨ z = 12 by rw [hz]; unfold enI; split <;> simp)
  clear hl hI hT hL hzz0 hA hTT hTW hsT hb1 hz hCL hn HR
  go_enter Try.func7, Try.ntmps7
  go_upto_region 1 with fail
  rw [← HA.out]
  go_upto_region 2 with (first
    | (go_at_call 17; go_loud ((with_reducible refine HF.out.mono ?_); rintro e w1 ⟨ao, co, rfl, ho, hb⟩; have HB1 := Lib.hid hb; have HO1 := Lib.hid ho; clear ho hb; obtain ⟨sC, hsC⟩ : ∃ s, s = tabV 277 (crV T (.slice ao n co)) := ⟨_, rfl⟩; have HCA := Lib.hid (show crA T (.slice ao n co) = .agg sC by rw [hsC]; rfl); have HSC := Lib.hid (show sC.size = 277 ∧ sC.all (·.oneCell') = true by rw [hsC]; exact ⟨size_tabV _ _, tabV_one (crV_one T rfl)⟩); have HSD := Lib.hid hsC; clear hsC; rw [HCA.out]))
    | ((with_reducible show wpList _ _ _ (⟨none, Op.store 38 (.tmp 4) _, _, _, _, _⟩ :: _) _ _); go_loud (refine wpList_store_row rfl 38 (.tmp 4) (.tmp 10) rfl w1.heap.size sC rfl rfl 38 z0 (heap_alloc_new _ _) (by rw [HSC.out.1]; exact sizeCr) (by rw [HSC.out.1, HSZ.out.1]) HSC.out.2 ?_)))
  change Code.wp _ _ _ _ ((w1.alloc (.cells z0 38)).setRow w1.heap.size sC)
  rw [alloc_setRow]
  have HBV := Lib.hid (show Below A.heap.size A (w1.alloc (.cells sC 38)) from HB1.out.alloc HB1.out.size _)
  have HCB := Lib.hid (show CrB (w1.alloc (.cells sC 38)) w1.heap.size T (.slice ao n co) by unfold CrB Blk; rw [← HSD.out]; exact heap_alloc_new w1 _)
  have HOV := Lib.hid (HO1.out.alloc (.cells sC 38))
  have HVS := Lib.hid (show w.heap.size < w1.heap.size ∧ (w1.alloc (.cells sC 38)).heap.size = w1.heap.size + 1 from ⟨by have := HB1.out.size; have := HAS.out; omega, by simp⟩)
  generalize w1.alloc (.cells sC 38) = V at HBV HCB HOV HVS ⊢
  have HZV := Lib.hid (show V.heap[w.heap.size]? = some (.cells z0 38 (0, 0)) from (HBV.out.block _ (by have := HAS.out; omega)).trans HAC.out)
  cases b1 with
  | false =>
    go_wp2_with (first
      | ((with_reducible show wpList _ _ _ (⟨some 17, _, _, _, _, _⟩ :: _) _ _); go_loud (refine wpList_load_mid rfl 35 (.tmp 16) rfl w1.heap.size 0 rfl (suL T) _ HCB.out.table Try.underlying35 rfl (by rw [suL_len]; exact sizeSu) ?_; rw [HSL.out]))
      | (go_at_call 18; go_loud ((with_reducible refine (HF1.out _).mono ?_); rintro e w2 ⟨rfl, hb⟩; have HB2 := Lib.hid hb; clear hb))
      | ((with_reducible show wpList _ _ _ (⟨some 22, _, _, _, _, _⟩ :: _) _ _); go_loud (refine wpList_buildTo rfl 38 _ rfl (some 22) rfl z0 (by rw [Array.toList_map]; exact HBZ.out) ?_))
      | ((with_reducible show wpList _ _ _ (⟨none, Op.store 38 (.tmp 2) _, _, _, _, _⟩ :: _) _ _); go_loud (refine wpList_store_row rfl 38 (.tmp 2) (.tmp 22) rfl w.heap.size z0 rfl rfl 38 z0 ((HB2.out.block _ (by have := HVS.out; omega)).trans HZV.out) (by rw [HSZ.out.1]; exact sizeCr) rfl HSZ.out.2 ?_)))
    exact bodyPost_ret (results_gather _ _ w.heap.size z0 _ rfl rfl (setRow_heap _ _ _ _ _ _ ((HB2.out.block _ (by have := HVS.out; omega)).trans HZV.out)) (by rw [HSZ.out.1]; exact sizeCr)) rfl ⟨rfl, below_setRow (HB.out.trans ((bt HBV.out HB2.out).mono (by have := HAS.out; omega))) (Nat.le_refl _) _⟩
  | true =>
    go_upto_region 7 with (first
      | ((with_reducible show wpList _ _ _ (⟨some 17, _, _, _, _, _⟩ :: _) _ _); go_loud (refine wpList_load_mid rfl 35 (.tmp 16) rfl w1.heap.size 0 rfl (suL T) _ HCB.out.table Try.underlying35 rfl (by rw [suL_len]; exact sizeSu) ?_; rw [HSL.out]))
      | (go_at_call 18; go_loud ((with_reducible refine (HF1.out _).mono ?_); rintro e w2 ⟨rfl, hb⟩; have HB2 := Lib.hid hb; have HC2 := Lib.hid (HCB.out.on hb); have hc276 := HC2.out.slot; clear hb))
      | ((with_reducible show wpList _ _ _ (⟨some 24, _, _, _, _, _⟩ :: _) _ _); go_loud (refine wpList_load_mid rfl 35 (.tmp 23) rfl w1.heap.size 0 rfl (suL T) _ HC2.out.table Try.underlying35 rfl (by rw [suL_len]; exact sizeSu) ?_; rw [HSL.out]))
      | (go_at_call 19; go_loud ((with_reducible refine (HF2.out _).mono ?_); rintro e w3 ⟨rfl, hb⟩; have HB3 := Lib.hid (bt HB2.out hb); clear hb)))
    have HZ3 := Lib.hid ((HB3.out.block _ (by have := HVS.out; omega)).trans HZV.out)
    have HR3 := Lib.hid (show w3.heap[w1.heap.size]? = some (.cells sC 38 (0, 0)) by have h := HCB.out; unfold CrB Blk at h; rw [← HSD.out] at h; exact (HB3.out.block _ (by have := HVS.out; omega)).trans h)
    have HBW := Lib.hid (HB.out.trans ((bt HBV.out HB3.out).mono (by have := HAS.out; omega)))
    clear hc276
    rcases HZZ.out with h0 | h0
    · subst h0
      go_wp2_with (first
        | ((with_reducible show wpList _ _ _ (⟨some 33, _, _, _, _, _⟩ :: _) _ _); go_loud (refine wpList_load_row rfl 38 (.tmp 4) rfl w1.heap.size rfl 38 sC (0, 0) _ HR3.out Try.underlying38 rfl (by rw [HSC.out.1]; exact sizeCr) ?_))
        | ((with_reducible show wpList _ _ _ (⟨none, Op.store 38 (.tmp 2) _, _, _, _, _⟩ :: _) _ _); go_loud (refine wpList_store_row rfl 38 (.tmp 2) (.tmp 33) rfl w.heap.size sC rfl rfl 38 z0 HZ3.out (by rw [HSC.out.1]; exact sizeCr) (by rw [HSC.out.1, HSZ.out.1]) HSC.out.2 ?_)))
      refine bodyPost_ret (results_gather _ _ w.heap.size sC _ rfl rfl (setRow_heap _ _ _ _ _ _ HZ3.out) (by rw [HSC.out.1]; exact sizeCr)) rfl ⟨⟨ao, co, by rw [HCA.out]; rfl, ?_⟩, below_setRow HBW.out (Nat.le_refl _) _⟩
      exact own_blockT (own_low HOV.out (by have := HAS.out; omega)) (fun g e => by
        have h1 := HOV.out.lt g e
        have h2 := HAS.out
        rw [setRow_other _ _ _ _ (by omega)]
        exact HB3.out.block g (by omega))
    · subst h0
      go_wp2_with (first
        | ((with_reducible show wpList _ _ _ (⟨some 31, _, _, _, _, _⟩ :: _) _ _); go_loud (refine wpList_buildTo rfl 38 _ rfl (some 31) rfl z0 (by rw [Array.toList_map]; exact HBZ.out) ?_))
        | ((with_reducible show wpList _ _ _ (⟨none, Op.store 38 (.tmp 2) _, _, _, _, _⟩ :: _) _ _); go_loud (refine wpList_store_row rfl 38 (.tmp 2) (.tmp 31) rfl w.heap.size z0 rfl rfl 38 z0 HZ3.out (by rw [HSZ.out.1]; exact sizeCr) rfl HSZ.out.2 ?_)))
      exact bodyPost_ret (results_gather _ _ w.heap.size z0 _ rfl rfl (setRow_heap _ _ _ _ _ _ HZ3.out) (by rw [HSZ.out.1]; exact sizeCr)) rfl ⟨rfl, below_setRow HBW.out (Nat.le_refl _) _⟩
end Go.Proofs.Ytbijakhdngbjmaa
