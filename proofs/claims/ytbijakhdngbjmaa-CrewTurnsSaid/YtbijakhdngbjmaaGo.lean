/- The law's lives. -/
import Derived.Test.YtbijakhdngbjmaaGj
import Derived.Test.YtbijakhdngbjmaaGm
import Derived.Test.YtbijakhdngbjmaaGn
import Derived.Great.FillDense
namespace Go.Proofs.Ytbijakhdngbjmaa
open Go.ChangeShapes Go.WideShapes Go.ChangeAt Go.RowKit Go.Shelf Go.Maps
set_option linter.unusedVariables false
set_option linter.unusedSimpArgs false
set_option maxRecDepth 100000
attribute [local go_sem] Oper.semAt_some

/-- A row of one super, of two. -/
theorem cells_suA (P : SU) : (suA P).cells = tabV 276 (suV P) := rfl
theorem flat_SU : ∀ SL : List SU, (SL.map suA).flatMap (fun v => v.cells.toList) = rowSU SL
  | [] => rfl
  | P :: SL => by
    have := flat_SU SL
    unfold rowSU at *
    rw [List.map_cons, List.flatMap_cons, List.flatMap_cons, this, cells_suA]
    rfl
theorem fill_SU (z : Value) (SL : List SU) (n : Nat) (hn : SL.length = n) : Instr.fill (fun i => some (i * 276, 276)) ((Array.range (n * 276)).map (z.cells[· % z.cells.size]!)) (((SL.map suA).zipIdx 0).map fun x => (x.2, x.1)) = some (rowSU SL).toArray := by
  rw [Go.Great.fill_whole (by omega) (SL.map suA) _ (fun v hv => by obtain ⟨P, _, rfl⟩ := List.mem_map.1 hv; rw [cells_suA, size_tabV]) (by rw [List.length_map, hn, Array.size_map, Array.size_range]), flat_SU]
theorem SuR.made (w : World) (cs : Array Value) {n : Nat} {SL : List SU} (hc : cs.toList = rowSU SL) (hn : SL.length = n) (hm : n ≤ maxLen) : SuR (w.alloc (.cells cs 35)) (some ⟨w.heap.size, 0, none⟩) n n SL := by
  refine ⟨hn, Nat.le_refl _, hm, fun _ => ⟨w.heap.size, 0, rfl, by simp, fun i P hP j v hj => ?_⟩⟩
  have hj2 : j < 276 := by
    rcases Nat.lt_or_ge j 276 with h | h
    · exact h
    · rw [List.getElem?_eq_none (by rw [suL_len]; exact h)] at hj; cases hj
  have := rowSU_get hP hj2
  rw [hj, ← hc, Array.getElem?_toList] at this
  rw [Nat.zero_add]
  exact (cell_of_row _ w.heap.size (i * 276 + j) _ _ _ (heap_alloc_new w _)).trans this
def exP : SU := supP 3 1 4 [1, 2, 3]
def exQ : SU := supP 3 3 4 [1, 2, 3]
theorem exP_wf : exP.Wf := supP_wf (by unfold byteI; omega) (by unfold byteI; omega) (by unfold u32I; omega) _
theorem exQ_wf : exQ.Wf := supP_wf (by unfold byteI; omega) (by unfold byteI; omega) (by unfold u32I; omega) _
theorem ex_tog : Tog [exP, exQ] where
  wf P h := by
    rcases List.mem_cons.1 h with rfl | h
    · exact exP_wf
    · rcases List.mem_cons.1 h with rfl | h
      · exact exQ_wf
      · cases h
  co P h Q k := by
    have e : Co exP = Co exQ := rfl
    have hp : Co P = Co exP := by
      rcases List.mem_cons.1 h with rfl | h
      · rfl
      · rcases List.mem_cons.1 h with rfl | h
        · exact e.symm
        · cases h
    have hq : Co Q = Co exP := by
      rcases List.mem_cons.1 k with rfl | h
      · rfl
      · rcases List.mem_cons.1 h with rfl | h
        · exact e.symm
        · cases h
    rw [hp, hq]
  un := by
    unfold Unlk
    show ([1, 3] : List Int).Nodup
    decide
  le := by decide
theorem ex_tab : tabSU [exP, exQ] = exP := by
  have h : ¬ 0 < ageI exQ exP := by decide +kernel
  show newer exP exQ = exP
  unfold newer
  rw [if_neg h]
theorem ex_cur : curL exP [exP, exQ] = [1, 3] := by decide +kernel
theorem ex_ga : gaI [exP, exQ] = 0 := by
  unfold gaI
  rw [ex_tab, ex_cur]
  decide +kernel
theorem b123 : ∀ x ∈ ([1, 2, 3] : List Int), 0 ≤ x ∧ x < 256 := by decide
theorem b13 : ∀ x ∈ ([1, 3] : List Int), -9223372036854775808 ≤ x ∧ x ≤ 9223372036854775807 := by decide
set_option maxHeartbeats 8000000 in
theorem lives16 (w : World) : Calls Try.prog 5 #[] w fun e w' => e = .returned (.bool true) ∧ Below w.heap.size w w' := by
  have HF1 := Lib.hid (show ∀ W : World, Calls Try.prog 15 #[.int .u8 3, .int .u8 1, .int .u32 4, .slice (some ⟨W.heap.size, 0, none⟩) 3 3] (W.alloc (.cells #[.int .i64 1, .int .i64 2, .int .i64 3] 3)) fun e w' => e = .returned (suA exP) ∧ Below (W.alloc (.cells #[.int .i64 1, .int .i64 2, .int .i64 3] 3)).heap.size (W.alloc (.cells #[.int .i64 1, .int .i64 2, .int .i64 3] 3)) w' from fun W => by
    rw [show exP = supP 3 1 4 [1, 2, 3] from rfl]
    exact super_any 3 1 4 _ 3 3 [1, 2, 3] _ (ia3 W 1 2 3 (by omega) (by omega) (by omega)) b123)
  have HF2 := Lib.hid (show ∀ W : World, Calls Try.prog 15 #[.int .u8 3, .int .u8 3, .int .u32 4, .slice (some ⟨W.heap.size, 0, none⟩) 3 3] (W.alloc (.cells #[.int .i64 1, .int .i64 2, .int .i64 3] 3)) fun e w' => e = .returned (suA exQ) ∧ Below (W.alloc (.cells #[.int .i64 1, .int .i64 2, .int .i64 3] 3)).heap.size (W.alloc (.cells #[.int .i64 1, .int .i64 2, .int .i64 3] 3)) w' from fun W => by
    rw [show exQ = supP 3 3 4 [1, 2, 3] from rfl]
    exact super_any 3 3 4 _ 3 3 [1, 2, 3] _ (ia3 W 1 2 3 (by omega) (by omega) (by omega)) b123)
  obtain ⟨iS, hiS, hzS⟩ := Option.map_eq_some_iff.1 infoSu
  simp only [Prod.mk.injEq] at hzS
  obtain ⟨hz0, hi0⟩ := zero_of_info infoSu
  clear hi0
  obtain ⟨c0, hc0⟩ : ∃ s, s = tabV 276 (suV suZ) := ⟨_, rfl⟩
  rw [← hc0] at hz0
  have HC0 := Lib.hid (show c0.size = 276 by rw [hc0, size_tabV])
  obtain ⟨hy0, hi0⟩ := zero_of_info infoCr
  clear hi0
  obtain ⟨z0, hzz0⟩ : ∃ s, s = crZ := ⟨_, rfl⟩
  replace hy0 : ∀ W : World, (zeroValue 38).run Try.prog W = .ok (.agg z0) W := by rw [hzz0]; exact hy0
  have HZ0 := Lib.hid (show z0.size = 277 by rw [hzz0]; exact crZ_size.1)
  obtain ⟨c2, hc2⟩ : ∃ s, s = (rowSU [exP, exQ]).toArray := ⟨_, rfl⟩
  have HFL := Lib.hid (show Instr.fill (fun i => some (i * iS.size, iS.size)) ((Array.range (2 * iS.size)).map ((Value.agg (tabV 276 (suV suZ))).cells[· % (Value.agg (tabV 276 (suV suZ))).cells.size]!)) [(0, suA exP), (1, suA exQ)] = some c2 by rw [hzS.2, hc2]; exact fill_SU _ [exP, exQ] 2 rfl)
  have HIS := Lib.hid (And.intro hiS hzS)
  have HC2 := Lib.hid (show c2.toList = rowSU [exP, exQ] by rw [hc2])
  have HG := Lib.hid (show ∀ W : World, Calls Try.prog 7 #[.slice (some ⟨W.heap.size, 0, none⟩) 2 2] (W.alloc (.cells c2 35)) fun e w' => (∃ (ao : Option Addr) (co : Nat), e = .returned (.tuple #[crA exP (.slice ao 2 co), .int .i64 0]) ∧ IA w' ao 2 co [1, 3]) ∧ Below (W.alloc (.cells c2 35)).heap.size (W.alloc (.cells c2 35)) w' from fun W => by
    refine (gather_some _ 2 2 [exP, exQ] _ (SuR.made W c2 HC2.out rfl (by unfold maxLen; omega)) ex_tog (by omega)).mono ?_
    rintro e w' ⟨h1, -, hb⟩
    obtain ⟨ao, co, he, ho⟩ := h1 ex_ga
    rw [ex_tab, ex_cur] at he ho
    exact ⟨⟨ao, co, he, ia_own ho b13⟩, hb⟩)
  clear hiS hzS hc0 hzz0 hc2
  go_enter Try.func5, Try.ntmps5
  go_upto_region 2 with (first
    | (go_at_call 15; go_loud ((with_reducible refine (HF1.out _).mono ?_); rintro e w1 ⟨rfl, hb⟩; have HB1 := Lib.hid hb; clear hb))
    | (go_at_call 15; go_loud ((with_reducible refine (HF2.out _).mono ?_); rintro e w2 ⟨rfl, hb⟩; have HB2 := Lib.hid hb; clear hb))
    | ((with_reducible show wpList _ _ _ (⟨some 10, _, _, _, _, _⟩ :: _) _ _); go_loud (refine wpList_buildSlice rfl 28 35 2 _ rfl c2 iS (.agg (tabV 276 (suV suZ))) Try.underlying28 HIS.out.1 HIS.out.2.1 (by rw [HIS.out.2.2]; omega) (by rw [HIS.out.2.2]; omega) (by rw [Array.toList_map]; exact HFL.out) ?_))
    | (go_at_call 7; go_loud ((with_reducible refine (HG.out _).mono ?_); rintro e w3 ⟨⟨ao, co, rfl, hia⟩, hb⟩; have HB3 := Lib.hid hb; have HIA3 := Lib.hid hia; clear hb hia; obtain ⟨sC, hsC⟩ : ∃ s, s = tabV 277 (crV exP (.slice ao 2 co)) := ⟨_, rfl⟩; have HCA := Lib.hid (show crA exP (.slice ao 2 co) = .agg sC by rw [hsC]; rfl); have HSC := Lib.hid (show sC.size = 277 ∧ sC.all (·.oneCell') = true by rw [hsC]; exact ⟨size_tabV _ _, tabV_one (crV_one exP rfl)⟩); have HSD := Lib.hid hsC; clear hsC; rw [HCA.out]))
    | ((with_reducible show wpList _ _ _ (⟨none, Op.store 38 _ _, _, _, _, _⟩ :: _) _ _); go_loud (refine wpList_store_row rfl 38 (.tmp 1) (.tmp 12) rfl w3.heap.size sC rfl rfl 38 z0 (heap_alloc_new _ _) (by rw [HSC.out.1]; exact sizeCr) (by rw [HSC.out.1, HZ0.out]) HSC.out.2 ?_; rw [alloc_setRow])))
  have HW3 := Lib.hid (show Below w.heap.size w w3 from by
    have h1 : Below w.heap.size w w1 := bt ((Below.refl _ _).alloc (Nat.le_refl _) _) HB1.out
    have h2 : Below w.heap.size w w2 := bt (bt h1 ((Below.refl _ _).alloc (Nat.le_refl _) _)) HB2.out
    exact bt (bt h2 ((Below.refl _ _).alloc (Nat.le_refl _) _)) HB3.out)
  obtain ⟨q, hq⟩ : ∃ q, q = w3.heap.size := ⟨_, rfl⟩
  have HCB := Lib.hid (show CrB (w3.alloc (.cells sC 38)) q exP (.slice ao 2 co) by unfold CrB Blk; rw [← HSD.out, hq]; exact heap_alloc_new w3 _)
  have HRV := Lib.hid (show (w3.alloc (.cells sC 38)).heap[q]? = some (.cells sC 38 (0, 0)) by rw [hq]; exact heap_alloc_new w3 _)
  have HIV := Lib.hid (HIA3.out.on (w' := w3.alloc (.cells sC 38)) ((Below.refl _ _).alloc (Nat.le_refl _) _))
  have HWV := Lib.hid (show Below w.heap.size w (w3.alloc (.cells sC 38)) from HW3.out.alloc HW3.out.size _)
  rw [← hq]
  clear hq
  generalize w3.alloc (.cells sC 38) = V at HCB HRV HIV HWV ⊢
  obtain ⟨D, hD⟩ : ∃ D, D = closP exP [1, 3] := ⟨_, rfl⟩
  have HD1 := Lib.hid (show D.bo = 5 by rw [hD]; rfl)
  have HD2 := Lib.hid (show D.inn.getD 2 false = false by rw [hD]; decide +kernel)
  have HC := Lib.hid (show Calls Try.prog 9 #[.agg sC] V fun e w' => e = .returned (.tuple #[suA D, .int .i64 0]) ∧ Below V.heap.size V w' by
    have h := closed_any exP exP_wf ao 2 co [1, 3] V HIV.out (by decide)
    rw [HCA.out, ← hD] at h
    exact h.mono (fun e w' k => ⟨k.1 (by decide), k.2.2⟩))
  clear hD
  obtain ⟨sD, hsD⟩ : ∃ s, s = tabV 276 (suV D) := ⟨_, rfl⟩
  have HDA := Lib.hid (show suA D = .agg sD by rw [hsD]; rfl)
  have HSZ := Lib.hid (show sD.size = 276 ∧ sD.all (·.oneCell') = true by rw [hsD]; exact ⟨size_tabV _ _, tabV_one (suV_one _)⟩)
  have HSDE := Lib.hid hsD
  rw [HDA.out] at HC
  clear hsD
  go_upto_region 3 with (first
    | ((with_reducible show wpList _ _ _ (⟨some 15, _, _, _, _, _⟩ :: _) _ _); go_loud (refine wpList_load_row rfl 38 (.tmp 1) rfl q rfl 38 sC (0, 0) _ HRV.out Try.underlying38 rfl (by rw [HSC.out.1]; exact sizeCr) ?_))
    | (go_at_call 9; go_loud ((with_reducible refine HC.out.mono ?_); rintro e w5 ⟨rfl, hb⟩; have HB5 := Lib.hid hb; clear hb))
    | ((with_reducible show wpList _ _ _ (⟨none, Op.store 35 _ _, _, _, _, _⟩ :: _) _ _); go_loud (refine wpList_store_row rfl 35 (.tmp 3) (.tmp 17) rfl w5.heap.size sD rfl rfl 35 c0 (heap_alloc_new _ _) (by rw [HSZ.out.1]; exact sizeSu) (by rw [HSZ.out.1, HC0.out]) HSZ.out.2 ?_; rw [alloc_setRow])))
  have HB6 := Lib.hid (show Below V.heap.size V (w5.alloc (.cells sD 35)) from HB5.out.alloc HB5.out.size _)
  obtain ⟨p, hp⟩ : ∃ p, p = w5.heap.size := ⟨_, rfl⟩
  have HS6 := Lib.hid (show SuB (w5.alloc (.cells sD 35)) p D by unfold SuB Blk; rw [← HSDE.out, hp]; exact heap_alloc_new w5 _)
  rw [← hp]
  clear hp
  generalize w5.alloc (.cells sD 35) = V6 at HB6 HS6 ⊢
  have z276 := (HCB.out.on HB6.out).slot
  have z14 := HS6.out.num.2.2.2.2.2.2.1
  have z18 := HS6.out.inn (j := 2) (by omega)
  rw [HD1.out] at z14
  rw [HD2.out] at z18
  obtain ⟨b, off, rfl, hb, hc1⟩ := (HIV.out.on HB6.out).at_ (i := 1) (by omega)
  have hc2 : V6.cell? ⟨b, off + 1, none⟩ = some (.int .i64 3) := hc1
  clear hc1
  go_wp2
  go_ret
  exact ⟨rfl, bt HWV.out HB6.out⟩
end Go.Proofs.Ytbijakhdngbjmaa
