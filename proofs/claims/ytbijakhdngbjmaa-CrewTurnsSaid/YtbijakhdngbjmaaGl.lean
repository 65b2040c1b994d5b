/- Package crew: Next, moved, Without, With. -/
import Derived.Test.YtbijakhdngbjmaaGh
namespace Go.Proofs.Ytbijakhdngbjmaa
open Go.ChangeShapes Go.WideShapes Go.ChangeAt Go.RowKit Go.Shelf Go.Maps
set_option linter.unusedVariables false
set_option linter.unusedSimpArgs false
set_option maxRecDepth 100000
attribute [local go_sem] Oper.semAt_some

theorem results_next (tmps : Array Value) (w : World) (g : Nat) (cs : Array Value) (v : Value) (h2 : tmps.getD 2 undef = .pointer (some ⟨g, 0, none⟩)) (h3 : tmps.getD 3 undef = v) (hg : w.heap[g]? = some (.cells cs 35 (0, 0))) (hs : (Try.prog.info? 35).map (·.size) = some cs.size) :
    (results Try.f8 tmps).run Try.prog w = .ok (.tuple #[.agg cs, v]) w := by
  have h2' : tmps[2]?.getD undef = .pointer (some ⟨g, 0, none⟩) := by simpa using h2
  have h3' : tmps[3]?.getD undef = v := by simpa using h3
  have hr := run_loadVar_row (P := Try.prog) w g 35 35 cs (0, 0) _ hg Try.underlying35 rfl hs
  simp [results, Try.f8, h2', h3', asAddr, hr]
theorem results_moved (tmps : Array Value) (w : World) (g : Nat) (cs : Array Value) (v : Value) (h2 : tmps.getD 8 undef = .pointer (some ⟨g, 0, none⟩)) (h3 : tmps.getD 9 undef = v) (hg : w.heap[g]? = some (.cells cs 35 (0, 0))) (hs : (Try.prog.info? 35).map (·.size) = some cs.size) :
    (results Try.f20 tmps).run Try.prog w = .ok (.tuple #[.agg cs, v]) w := by
  have h2' : tmps[8]?.getD undef = .pointer (some ⟨g, 0, none⟩) := by simpa using h2
  have h3' : tmps[9]?.getD undef = v := by simpa using h3
  have hr := run_loadVar_row (P := Try.prog) w g 35 35 cs (0, 0) _ hg Try.underlying35 rfl hs
  simp [results, Try.f20, h2', h3', asAddr, hr]
theorem results_without (tmps : Array Value) (w : World) (g : Nat) (cs : Array Value) (v : Value) (h2 : tmps.getD 4 undef = .pointer (some ⟨g, 0, none⟩)) (h3 : tmps.getD 5 undef = v) (hg : w.heap[g]? = some (.cells cs 35 (0, 0))) (hs : (Try.prog.info? 35).map (·.size) = some cs.size) :
    (results Try.f13 tmps).run Try.prog w = .ok (.tuple #[.agg cs, v]) w := by
  have h2' : tmps[4]?.getD undef = .pointer (some ⟨g, 0, none⟩) := by simpa using h2
  have h3' : tmps[5]?.getD undef = v := by simpa using h3
  have hr := run_loadVar_row (P := Try.prog) w g 35 35 cs (0, 0) _ hg Try.underlying35 rfl hs
  simp [results, Try.f13, h2', h3', asAddr, hr]
theorem results_with (tmps : Array Value) (w : World) (g : Nat) (cs : Array Value) (v : Value) (h2 : tmps.getD 4 undef = .pointer (some ⟨g, 0, none⟩)) (h3 : tmps.getD 5 undef = v) (hg : w.heap[g]? = some (.cells cs 35 (0, 0))) (hs : (Try.prog.info? 35).map (·.size) = some cs.size) :
    (results Try.f14 tmps).run Try.prog w = .ok (.tuple #[.agg cs, v]) w := by
  have h2' : tmps[4]?.getD undef = .pointer (some ⟨g, 0, none⟩) := by simpa using h2
  have h3' : tmps[5]?.getD undef = v := by simpa using h3
  have hr := run_loadVar_row (P := Try.prog) w g 35 35 cs (0, 0) _ hg Try.underlying35 rfl hs
  simp [results, Try.f14, h2', h3', asAddr, hr]
/-- A crew in a box. -/
theorem cr_box (P : SU) (s : Value) (w : World) : Below w.heap.size w (w.alloc (.cells (tabV 277 (crV P s)) 38)) ∧ CrB (w.alloc (.cells (tabV 277 (crV P s)) 38)) w.heap.size P s :=
  ⟨(Below.refl _ _).alloc (Nat.le_refl _) _, Blk.made _ _ _ _⟩
theorem suB_bo {w : World} {q : Nat} {P : SU} (h : SuB w q P) (x : Int) : SuB (w.setCell ⟨q, 14, none⟩ (.int .u32 x)) q { P with bo := x } := (Blk.set h (i := 14) (by omega) _).congr (fun i hi => suV_bo P x hi)
theorem suB_ep {w : World} {q : Nat} {P : SU} (h : SuB w q P) (x : Int) : SuB (w.setCell ⟨q, 15, none⟩ (.int .u32 x)) q { P with ep := x } := (Blk.set h (i := 15) (by omega) _).congr (fun i hi => suV_ep P x hi)
theorem suV_in2 (P : SU) (x : Nat) (v : Bool) (hl : P.inn.length = 256) (hx : x < 256) {i : Nat} (hi : i < 276) : (if i = 16 + x then Value.bool v else suV P i) = suV { P with inn := P.inn.set x v } i := by
  rw [← suV_inn P (P.inn.set x v) (by rw [List.length_set]; exact hl) hi]
  have hsl : ((P.inn.set x v).map Value.bool).length = 256 := by rw [List.length_map, List.length_set]; exact hl
  rw [hsl]
  by_cases h : 16 ≤ i ∧ i < 16 + 256
  · rw [if_pos h, List.getD_eq_getElem?_getD, List.getElem?_map]
    by_cases e : i = 16 + x
    · rw [if_pos e]
      subst e
      rw [show 16 + x - 16 = x by omega, List.getElem?_set_self (by omega)]
      rfl
    · rw [if_neg e, List.getElem?_set_ne (by omega)]
      have := suV_in P (j := i - 16) (by omega)
      rw [show 16 + (i - 16) = i by omega] at this
      rw [this, List.getD_eq_getElem?_getD, List.getElem?_eq_getElem (by omega)]
      rfl
  · rw [if_neg h, if_neg (by omega)]
theorem suB_in {w : World} {q : Nat} {P : SU} (h : SuB w q P) (hl : P.inn.length = 256) {x : Nat} (hx : x < 256) (v : Bool) : SuB (w.setCell ⟨q, 16 + x, none⟩ (.bool v)) q { P with inn := P.inn.set x v } := (Blk.set h (i := 16 + x) (by omega) _).congr (fun i hi => suV_in2 P x v hl hx hi)
/-- The next boot's table. -/
def nextP (P : SU) : SU := { P with bo := P.bo + 1, ep := 0 }
theorem nextP_wf {P : SU} (h : P.Wf) (hb : P.bo < 2147483648) : (nextP P).Wf := by
  obtain ⟨h1, h2, h3, h4, h5, h6, h7, h8, h9, h10, h11, h12, h13, h14⟩ := h
  exact ⟨h1, h2, h3, h4, h5, h6, h7, ⟨by have := h8.1; show 0 ≤ P.bo + 1; omega, by show P.bo + 1 < 4294967296; omega⟩, ⟨Int.le_refl _, by show (0 : Int) < 4294967296; omega⟩, h10, h11, h12, h13, h14⟩
set_option maxHeartbeats 8000000 in
theorem next_any (P : SU) (hP : P.Wf) (ao : Option Addr) (n co : Nat) (w : World) :
    Calls Try.prog 8 #[crA P (.slice ao n co)] w fun e w' => (P.bo < 2147483648 → e = .returned (.tuple #[suA (nextP P), .int .i64 0])) ∧ (2147483648 ≤ P.bo → e = .returned (.tuple #[suA suZ, .int .i64 2])) ∧ Below w.heap.size w w' := by
  obtain ⟨hz0, hi0⟩ := zero_of_info infoSu
  clear hi0
  obtain ⟨c0, hc0⟩ : ∃ s, s = tabV 276 (suV suZ) := ⟨_, rfl⟩
  rw [← hc0] at hz0
  have HC0 := Lib.hid (show c0.size = 276 ∧ c0.all (·.oneCell') = true by rw [hc0]; exact ⟨size_tabV _ _, tabV_one (suV_one suZ)⟩)
  have HBZ := Lib.hid (show Try.prog.built 35 [] = some c0 by rw [hc0]; exact built_su0)
  have HCZ := Lib.hid (show suA suZ = .agg c0 by rw [hc0]; rfl)
  have HCC := Lib.hid hc0
  obtain ⟨hBX, hSX⟩ := cr_box P (.slice ao n co) w
  obtain ⟨sX, hsX⟩ : ∃ s, s = tabV 277 (crV P (.slice ao n co)) := ⟨_, rfl⟩
  unfold crA
  rw [← hsX] at hBX hSX ⊢
  have HSXE := Lib.hid (show sX.size = 277 ∧ sX.all (·.oneCell') = true by rw [hsX]; exact ⟨size_tabV _ _, tabV_one (crV_one P rfl)⟩)
  have HSXA := Lib.hid (show crA P (.slice ao n co) = .agg sX by rw [hsX]; rfl)
  obtain ⟨X, hX⟩ : ∃ X, X = w.alloc (.cells sX 38) := ⟨_, rfl⟩
  obtain ⟨A, hA⟩ : ∃ A, A = X.alloc (.cells c0 35) := ⟨_, rfl⟩
  have HA := Lib.hid (show A = (w.alloc (.cells sX 38)).alloc (.cells c0 35) by rw [hA, hX])
  have HXS := Lib.hid (show X.heap.size = w.heap.size + 1 by rw [hX]; simp)
  have HAS := Lib.hid (show A.heap.size = w.heap.size + 2 by rw [hA]; have := HXS.out; simp; omega)
  rw [← hX] at hBX hSX
  have hbA : Below X.heap.size X A := by rw [hA]; exact (Below.refl _ _).alloc (Nat.le_refl _) _
  have HCB := Lib.hid (hSX.on hbA)
  have HBA := Lib.hid (hBX.trans (hbA.mono (by have := HXS.out; omega)))
  have HZA := Lib.hid (show A.heap[w.heap.size + 1]? = some (.cells c0 35 (0, 0)) by rw [hA, ← HXS.out]; exact heap_alloc_new X _)
  have HRA := Lib.hid (show A.heap[w.heap.size]? = some (.cells sX 38 (0, 0)) by have h := HCB.out; unfold CrB Blk at h; rw [← hsX] at h; exact h)
  obtain ⟨sP, hsP⟩ : ∃ s, s = tabV 276 (suV P) := ⟨_, rfl⟩
  have HSP := Lib.hid (show sP.size = 276 ∧ sP.all (·.oneCell') = true by rw [hsP]; exact ⟨size_tabV _ _, tabV_one (suV_one P)⟩)
  have HSPP := Lib.hid hsP
  have HSL := Lib.hid (show (suL P).toArray = sP by rw [suL_arr, hsP])
  have HPW := Lib.hid hP
  clear hc0 hsX hBX hSX hX hA hbA hsP hP
  go_enter Try.func8, Try.ntmps8
  go_upto_region 1 with fail
  rw [← HA.out]
  go_upto_region 2 with (first
    | ((with_reducible show wpList _ _ _ (⟨some 6, _, _, _, _, _⟩ :: _) _ _); go_loud (refine wpList_load_mid rfl 35 (.tmp 5) rfl w.heap.size 0 rfl (suL P) _ HCB.out.table Try.underlying35 rfl (by rw [suL_len]; exact sizeSu) ?_; rw [HSL.out]))
    | ((with_reducible show wpList _ _ _ (⟨none, Op.store 35 (.tmp 4) _, _, _, _, _⟩ :: _) _ _); go_loud (refine wpList_store_row rfl 35 (.tmp 4) (.tmp 6) rfl A.heap.size sP rfl rfl 35 c0 (heap_alloc_new _ _) (by rw [HSP.out.1]; exact sizeSu) (by rw [HSP.out.1, HC0.out.1]) HSP.out.2 ?_)))
  change Code.wp _ _ _ _ ((A.alloc (.cells c0 35)).setRow A.heap.size sP)
  rw [alloc_setRow]
  obtain ⟨hBV, hSV⟩ := su_box P A
  rw [← HSPP.out] at hBV hSV
  have HVS := Lib.hid (show (A.alloc (.cells sP 35)).heap.size = w.heap.size + 3 by have := HAS.out; simp; omega)
  rw [HAS.out] at hSV ⊢
  have HBV := Lib.hid (HBA.out.trans (hBV.mono (by have := HAS.out; omega)))
  have HZV := Lib.hid ((hBV.block (w.heap.size + 1) (by have := HAS.out; omega)).trans HZA.out)
  generalize A.alloc (.cells sP 35) = V at hSV HBV HZV HVS ⊢
  clear hBV
  have c14 := hSV.num.2.2.2.2.2.2.1
  by_cases hb : P.bo < 2147483648
  case neg =>
    have hb2 : 2147483648 ≤ P.bo := by omega
    go_wp2_with (first
      | ((with_reducible show wpList _ _ _ (⟨some 10, _, _, _, _, _⟩ :: _) _ _); go_loud (refine wpList_buildTo rfl 35 _ rfl (some 10) rfl c0 (by rw [Array.toList_map]; exact HBZ.out) ?_))
      | ((with_reducible show wpList _ _ _ (⟨none, Op.store 35 (.tmp 2) _, _, _, _, _⟩ :: _) _ _); go_loud (refine wpList_store_row rfl 35 (.tmp 2) (.tmp 10) rfl (w.heap.size + 1) c0 rfl rfl 35 c0 HZV.out (by rw [HC0.out.1]; exact sizeSu) rfl HC0.out.2 ?_)))
    exact bodyPost_ret (results_next _ _ (w.heap.size + 1) c0 _ rfl rfl (setRow_heap _ _ _ _ _ _ HZV.out) (by rw [HC0.out.1]; exact sizeSu)) rfl ⟨fun h => absurd h (by omega), by rw [HCZ.out]; rfl, below_setRow HBV.out (by omega) _⟩
  case pos =>
    have hbo := HPW.out.bo
    unfold u32I at hbo
    have hwr : IntKind.u32.wrap (P.bo + 1) = P.bo + 1 := by rw [IntKind.wrap_u32]; omega
    have f14 := Blk.free hSV 14
    have HSV := Lib.hid hSV
    have HBO := Lib.hid hb
    have hb2 : ¬ 2147483648 ≤ P.bo := by omega
    go_upto_region 5 with fail
    have HS2 := Lib.hid (suB_bo HSV.out (P.bo + 1))
    have HB2 := Lib.hid (show Below w.heap.size w (V.setCell ⟨w.heap.size + 2, 14, none⟩ (.int .u32 (P.bo + 1))) from HBV.out.setCell (p := ⟨w.heap.size + 2, 14, none⟩) (Nat.le_add_right _ _) _)
    have HZ2 := Lib.hid (show (V.setCell ⟨w.heap.size + 2, 14, none⟩ (.int .u32 (P.bo + 1))).heap[w.heap.size + 1]? = some (.cells c0 35 (0, 0)) by rw [heap_setCell_other _ _ _ _ (by show w.heap.size + 1 ≠ w.heap.size + 2; omega)]; exact HZV.out)
    clear c14 f14
    generalize V.setCell ⟨w.heap.size + 2, 14, none⟩ (.int .u32 (P.bo + 1)) = V2 at HS2 HB2 HZ2 ⊢
    have c15 := HS2.out.num.2.2.2.2.2.2.2.1
    have f15 := Blk.free HS2.out 15
    go_upto_region 6 with fail
    have HS3 := Lib.hid (suB_ep HS2.out 0)
    have HB3 := Lib.hid (show Below w.heap.size w (V2.setCell ⟨w.heap.size + 2, 15, none⟩ (.int .u32 0)) from HB2.out.setCell (p := ⟨w.heap.size + 2, 15, none⟩) (Nat.le_add_right _ _) _)
    have HZ3 := Lib.hid (show (V2.setCell ⟨w.heap.size + 2, 15, none⟩ (.int .u32 0)).heap[w.heap.size + 1]? = some (.cells c0 35 (0, 0)) by rw [heap_setCell_other _ _ _ _ (by show w.heap.size + 1 ≠ w.heap.size + 2; omega)]; exact HZ2.out)
    clear c15 f15
    generalize V2.setCell ⟨w.heap.size + 2, 15, none⟩ (.int .u32 0) = V3 at HS3 HB3 HZ3 ⊢
    obtain ⟨sN, hsN⟩ : ∃ s, s = tabV 276 (suV (nextP P)) := ⟨_, rfl⟩
    have HSN := Lib.hid (show sN.size = 276 ∧ sN.all (·.oneCell') = true by rw [hsN]; exact ⟨size_tabV _ _, tabV_one (suV_one _)⟩)
    have HNA := Lib.hid (show suA (nextP P) = .agg sN by rw [hsN]; rfl)
    have HRN := Lib.hid (show V3.heap[w.heap.size + 2]? = some (.cells sN 35 (0, 0)) by rw [hsN]; exact HS3.out)
    clear hsN
    go_wp2_with (first
      | ((with_reducible show wpList _ _ _ (⟨some 16, _, _, _, _, _⟩ :: _) _ _); go_loud (refine wpList_load_row rfl 35 (.tmp 4) rfl (w.heap.size + 2) rfl 35 sN (0, 0) _ HRN.out Try.underlying35 rfl (by rw [HSN.out.1]; exact sizeSu) ?_))
      | ((with_reducible show wpList _ _ _ (⟨none, Op.store 35 (.tmp 2) _, _, _, _, _⟩ :: _) _ _); go_loud (refine wpList_store_row rfl 35 (.tmp 2) (.tmp 16) rfl (w.heap.size + 1) sN rfl rfl 35 c0 HZ3.out (by rw [HSN.out.1]; exact sizeSu) (by rw [HSN.out.1, HC0.out.1]) HSN.out.2 ?_)))
    exact bodyPost_ret (results_next _ _ (w.heap.size + 1) sN _ rfl rfl (setRow_heap _ _ _ _ _ _ HZ3.out) (by rw [HSN.out.1]; exact sizeSu)) rfl ⟨by rw [HNA.out]; rfl, fun h => absurd h (by have := HBO.out; omega), below_setRow HB3.out (by omega) _⟩
/-- The table with a place in, or out: what is told. -/
def movP (P : SU) (x : Int) (v : Bool) : SU := { P with ep := IntKind.u32.wrap (P.ep + 1), inn := P.inn.set x.toNat v }
def movR (P : SU) (x : Int) (v : Bool) (er : Int) : SU × Int := if x < 1 ∨ P.n < x then (suZ, 2) else if P.inn.getD x.toNat false = v then (suZ, er) else (movP P x v, 0)
theorem movP_wf {P : SU} (h : P.Wf) (x : Int) (v : Bool) : (movP P x v).Wf := by
  obtain ⟨h1, h2, h3, h4, h5, h6, h7, h8, h9, h10, h11, h12, h13, h14⟩ := h
  exact ⟨h1, h2, h3, h4, h5, h6, h7, h8, by have := IntKind.wrap_u32 (P.ep + 1); show 0 ≤ IntKind.u32.wrap (P.ep + 1) ∧ IntKind.u32.wrap (P.ep + 1) < 4294967296; rw [this]; omega, by show (P.inn.set x.toNat v).length = 256; rw [List.length_set]; exact h10, h11, h12, h13, h14⟩
theorem movR_wf {P : SU} (h : P.Wf) (x : Int) (v : Bool) (er : Int) : (movR P x v er).1.Wf := by
  unfold movR
  split
  · exact suZ_wf
  · split
    · exact suZ_wf
    · exact movP_wf h x v
set_option maxHeartbeats 8000000 in
theorem moved_any (P : SU) (hP : P.Wf) (ao : Option Addr) (n co : Nat) (pl : Int) (v : Bool) (er : Int) (w : World) :
    Calls Try.prog 20 #[crA P (.slice ao n co), .int .i64 pl, .bool v, .int .i64 er] w fun e w' => e = .returned (.tuple #[suA (movR P pl v er).1, .int .i64 (movR P pl v er).2]) ∧ Below w.heap.size w w' := by
  obtain ⟨R, hR⟩ : ∃ R, R = movR P pl v er := ⟨_, rfl⟩
  rw [← hR]
  unfold movR at hR
  have HR := Lib.hid hR
  clear hR
  obtain ⟨hz0, hi0⟩ := zero_of_info infoSu
  clear hi0
  obtain ⟨c0, hc0⟩ : ∃ s, s = tabV 276 (suV suZ) := ⟨_, rfl⟩
  rw [← hc0] at hz0
  have HC0 := Lib.hid (show c0.size = 276 ∧ c0.all (·.oneCell') = true by rw [hc0]; exact ⟨size_tabV _ _, tabV_one (suV_one suZ)⟩)
  have HBZ := Lib.hid (show Try.prog.built 35 [] = some c0 by rw [hc0]; exact built_su0)
  have HCZ := Lib.hid (show suA suZ = .agg c0 by rw [hc0]; rfl)
  have HCC := Lib.hid hc0
  obtain ⟨hBX, hSX⟩ := cr_box P (.slice ao n co) w
  obtain ⟨sX, hsX⟩ : ∃ s, s = tabV 277 (crV P (.slice ao n co)) := ⟨_, rfl⟩
  unfold crA
  rw [← hsX] at hBX hSX ⊢
  have HSXE := Lib.hid (show sX.size = 277 ∧ sX.all (·.oneCell') = true by rw [hsX]; exact ⟨size_tabV _ _, tabV_one (crV_one P rfl)⟩)
  have HSXA := Lib.hid (show crA P (.slice ao n co) = .agg sX by rw [hsX]; rfl)
  obtain ⟨X, hX⟩ : ∃ X, X = w.alloc (.cells sX 38) := ⟨_, rfl⟩
  obtain ⟨A, hA⟩ : ∃ A, A = X.alloc (.cells c0 35) := ⟨_, rfl⟩
  have HA := Lib.hid (show A = (w.alloc (.cells sX 38)).alloc (.cells c0 35) by rw [hA, hX])
  have HXS := Lib.hid (show X.heap.size = w.heap.size + 1 by rw [hX]; simp)
  have HAS := Lib.hid (show A.heap.size = w.heap.size + 2 by rw [hA]; have := HXS.out; simp; omega)
  rw [← hX] at hBX hSX
  have hbA : Below X.heap.size X A := by rw [hA]; exact (Below.refl _ _).alloc (Nat.le_refl _) _
  have HCB := Lib.hid (hSX.on hbA)
  have HBA := Lib.hid (hBX.trans (hbA.mono (by have := HXS.out; omega)))
  have HZA := Lib.hid (show A.heap[w.heap.size + 1]? = some (.cells c0 35 (0, 0)) by rw [hA, ← HXS.out]; exact heap_alloc_new X _)
  have HRA := Lib.hid (show A.heap[w.heap.size]? = some (.cells sX 38 (0, 0)) by have h := HCB.out; unfold CrB Blk at h; rw [← hsX] at h; exact h)
  obtain ⟨sP, hsP⟩ : ∃ s, s = tabV 276 (suV P) := ⟨_, rfl⟩
  have HSP := Lib.hid (show sP.size = 276 ∧ sP.all (·.oneCell') = true by rw [hsP]; exact ⟨size_tabV _ _, tabV_one (suV_one P)⟩)
  have HSPP := Lib.hid hsP
  have HSL := Lib.hid (show (suL P).toArray = sP by rw [suL_arr, hsP])
  have HPW := Lib.hid hP
  clear hc0 hsX hBX hSX hX hA hbA hsP hP
  go_enter Try.func20, Try.ntmps20
  go_upto_region 1 with fail
  rw [← HA.out]
  go_upto_region 2 with (first
    | ((with_reducible show wpList _ _ _ (⟨some 12, _, _, _, _, _⟩ :: _) _ _); go_loud (refine wpList_load_mid rfl 35 (.tmp 11) rfl w.heap.size 0 rfl (suL P) _ HCB.out.table Try.underlying35 rfl (by rw [suL_len]; exact sizeSu) ?_; rw [HSL.out]))
    | ((with_reducible show wpList _ _ _ (⟨none, Op.store 35 (.tmp 10) _, _, _, _, _⟩ :: _) _ _); go_loud (refine wpList_store_row rfl 35 (.tmp 10) (.tmp 12) rfl A.heap.size sP rfl rfl 35 c0 (heap_alloc_new _ _) (by rw [HSP.out.1]; exact sizeSu) (by rw [HSP.out.1, HC0.out.1]) HSP.out.2 ?_)))
  change Code.wp _ _ _ _ ((A.alloc (.cells c0 35)).setRow A.heap.size sP)
  rw [alloc_setRow]
  obtain ⟨hBV, hSV⟩ := su_box P A
  rw [← HSPP.out] at hBV hSV
  have HVS := Lib.hid (show (A.alloc (.cells sP 35)).heap.size = w.heap.size + 3 by have := HAS.out; simp; omega)
  rw [HAS.out] at hSV ⊢
  have HBV := Lib.hid (HBA.out.trans (hBV.mono (by have := HAS.out; omega)))
  have HZV := Lib.hid ((hBV.block (w.heap.size + 1) (by have := HAS.out; omega)).trans HZA.out)
  generalize A.alloc (.cells sP 35) = V at hSV HBV HZV HVS ⊢
  clear hBV
  have c9 := hSV.num.2.1
  have hnb := HPW.out.n
  unfold byteI at hnb
  have wn := IntWalk.i64_in P.n (by omega)
  by_cases k1 : pl < 1
  case pos =>
    have HE := Lib.hid (show R = (suZ, 2) by rw [HR.out, if_pos (.inl k1)])
    go_wp2_with (first
      | ((with_reducible show wpList _ _ _ (⟨some 22, _, _, _, _, _⟩ :: _) _ _); go_loud (refine wpList_buildTo rfl 35 _ rfl (some 22) rfl c0 (by rw [Array.toList_map]; exact HBZ.out) ?_))
      | ((with_reducible show wpList _ _ _ (⟨none, Op.store 35 (.tmp 8) _, _, _, _, _⟩ :: _) _ _); go_loud (refine wpList_store_row rfl 35 (.tmp 8) (.tmp 22) rfl (w.heap.size + 1) c0 rfl rfl 35 c0 HZV.out (by rw [HC0.out.1]; exact sizeSu) rfl HC0.out.2 ?_)))
    exact bodyPost_ret (results_moved _ _ (w.heap.size + 1) c0 _ rfl rfl (setRow_heap _ _ _ _ _ _ HZV.out) (by rw [HC0.out.1]; exact sizeSu)) rfl ⟨by rw [HE.out, HCZ.out]; rfl, below_setRow HBV.out (by omega) _⟩
  case neg =>
    by_cases k2 : P.n < pl
    case pos =>
      have HE := Lib.hid (show R = (suZ, 2) by rw [HR.out, if_pos (.inr k2)])
      go_wp2_with (first
      | ((with_reducible show wpList _ _ _ (⟨some 22, _, _, _, _, _⟩ :: _) _ _); go_loud (refine wpList_buildTo rfl 35 _ rfl (some 22) rfl c0 (by rw [Array.toList_map]; exact HBZ.out) ?_))
      | ((with_reducible show wpList _ _ _ (⟨none, Op.store 35 (.tmp 8) _, _, _, _, _⟩ :: _) _ _); go_loud (refine wpList_store_row rfl 35 (.tmp 8) (.tmp 22) rfl (w.heap.size + 1) c0 rfl rfl 35 c0 HZV.out (by rw [HC0.out.1]; exact sizeSu) rfl HC0.out.2 ?_)))
      exact bodyPost_ret (results_moved _ _ (w.heap.size + 1) c0 _ rfl rfl (setRow_heap _ _ _ _ _ _ HZV.out) (by rw [HC0.out.1]; exact sizeSu)) rfl ⟨by rw [HE.out, HCZ.out]; rfl, below_setRow HBV.out (by omega) _⟩
    case neg =>
      obtain ⟨x, hx⟩ := Int.eq_ofNat_of_zero_le (show 0 ≤ pl by omega)
      subst hx
      have hx2 : x < 256 := by omega
      have q2 : (x : Int) < 256 := by omega
      obtain ⟨b, hb⟩ : ∃ b, b = P.inn.getD x false := ⟨_, rfl⟩
      have ci := hSV.inn hx2
      rw [← hb] at ci
      have HRR := Lib.hid (show R = if b = v then (suZ, er) else (movP P (x : Int) v, 0) by rw [HR.out, if_neg (by omega), Int.toNat_natCast, hb])
      have HX2 := Lib.hid hx2
      clear hx2 hb HR
      by_cases k3 : b = v
      case pos =>
        have HE := Lib.hid (show R = (suZ, er) by rw [HRR.out, if_pos k3])
        subst k3
        have kb : (b == b) = true := by simp
        clear HRR
        go_wp2_with (first
      | ((with_reducible show wpList _ _ _ (⟨some 29, _, _, _, _, _⟩ :: _) _ _); go_loud (refine wpList_buildTo rfl 35 _ rfl (some 29) rfl c0 (by rw [Array.toList_map]; exact HBZ.out) ?_))
      | ((with_reducible show wpList _ _ _ (⟨none, Op.store 35 (.tmp 8) _, _, _, _, _⟩ :: _) _ _); go_loud (refine wpList_store_row rfl 35 (.tmp 8) (.tmp 29) rfl (w.heap.size + 1) c0 rfl rfl 35 c0 HZV.out (by rw [HC0.out.1]; exact sizeSu) rfl HC0.out.2 ?_)))
        exact bodyPost_ret (results_moved _ _ (w.heap.size + 1) c0 _ rfl rfl (setRow_heap _ _ _ _ _ _ HZV.out) (by rw [HC0.out.1]; exact sizeSu)) rfl ⟨by rw [HE.out, HCZ.out]; rfl, below_setRow HBV.out (by omega) _⟩
      case neg =>
        have HE := Lib.hid (show R = (movP P (x : Int) v, 0) by rw [HRR.out, if_neg k3])
        have kb : (b == v) = false := by simpa using k3
        have fi := Blk.free hSV (16 + x)
        have HSV := Lib.hid hSV
        clear HRR k3
        go_upto_region 7 with fail
        have HS2 := Lib.hid (suB_in HSV.out HPW.out.inn HX2.out v)
        have HB2 := Lib.hid (show Below w.heap.size w (V.setCell ⟨w.heap.size + 2, 16 + x, none⟩ (.bool v)) from HBV.out.setCell (p := ⟨w.heap.size + 2, 16 + x, none⟩) (Nat.le_add_right _ _) _)
        have HZ2 := Lib.hid (show (V.setCell ⟨w.heap.size + 2, 16 + x, none⟩ (.bool v)).heap[w.heap.size + 1]? = some (.cells c0 35 (0, 0)) by rw [heap_setCell_other _ _ _ _ (by show w.heap.size + 1 ≠ w.heap.size + 2; omega)]; exact HZV.out)
        clear ci fi c9
        generalize V.setCell ⟨w.heap.size + 2, 16 + x, none⟩ (.bool v) = V2 at HS2 HB2 HZ2 ⊢
        have c15 := HS2.out.num.2.2.2.2.2.2.2.1
        have f15 := Blk.free HS2.out 15
        obtain ⟨e1, he1⟩ : ∃ e1, e1 = IntKind.u32.wrap (P.ep + 1) := ⟨_, rfl⟩
        have HE1 := Lib.hid he1
        have he2 : IntKind.u32.wrap (P.ep + 1) = e1 := he1.symm
        clear he1
        go_upto_region 8 with fail
        have HS3 := Lib.hid (suB_ep HS2.out e1)
        have HB3 := Lib.hid (show Below w.heap.size w (V2.setCell ⟨w.heap.size + 2, 15, none⟩ (.int .u32 e1)) from HB2.out.setCell (p := ⟨w.heap.size + 2, 15, none⟩) (Nat.le_add_right _ _) _)
        have HZ3 := Lib.hid (show (V2.setCell ⟨w.heap.size + 2, 15, none⟩ (.int .u32 e1)).heap[w.heap.size + 1]? = some (.cells c0 35 (0, 0)) by rw [heap_setCell_other _ _ _ _ (by show w.heap.size + 1 ≠ w.heap.size + 2; omega)]; exact HZ2.out)
        clear c15 f15 he2
        generalize V2.setCell ⟨w.heap.size + 2, 15, none⟩ (.int .u32 e1) = V3 at HS3 HB3 HZ3 ⊢
        obtain ⟨sN, hsN⟩ : ∃ s, s = tabV 276 (suV (movP P (x : Int) v)) := ⟨_, rfl⟩
        have HSN := Lib.hid (show sN.size = 276 ∧ sN.all (·.oneCell') = true by rw [hsN]; exact ⟨size_tabV _ _, tabV_one (suV_one _)⟩)
        have HNA := Lib.hid (show suA (movP P (x : Int) v) = .agg sN by rw [hsN]; rfl)
        have HRN := Lib.hid (show V3.heap[w.heap.size + 2]? = some (.cells sN 35 (0, 0)) by rw [hsN]; unfold movP; rw [← HE1.out, Int.toNat_natCast]; exact HS3.out)
        clear hsN
        go_wp2_with (first
          | ((with_reducible show wpList _ _ _ (⟨some 39, _, _, _, _, _⟩ :: _) _ _); go_loud (refine wpList_load_row rfl 35 (.tmp 10) rfl (w.heap.size + 2) rfl 35 sN (0, 0) _ HRN.out Try.underlying35 rfl (by rw [HSN.out.1]; exact sizeSu) ?_))
          | ((with_reducible show wpList _ _ _ (⟨none, Op.store 35 (.tmp 8) _, _, _, _, _⟩ :: _) _ _); go_loud (refine wpList_store_row rfl 35 (.tmp 8) (.tmp 39) rfl (w.heap.size + 1) sN rfl rfl 35 c0 HZ3.out (by rw [HSN.out.1]; exact sizeSu) (by rw [HSN.out.1, HC0.out.1]) HSN.out.2 ?_)))
        exact bodyPost_ret (results_moved _ _ (w.heap.size + 1) sN _ rfl rfl (setRow_heap _ _ _ _ _ _ HZ3.out) (by rw [HSN.out.1]; exact sizeSu)) rfl ⟨by rw [HE.out, HNA.out]; rfl, below_setRow HB3.out (by omega) _⟩
set_option maxHeartbeats 8000000 in
theorem without_any (P : SU) (hP : P.Wf) (ao : Option Addr) (n co : Nat) (pl : Int) (w : World) :
    Calls Try.prog 13 #[crA P (.slice ao n co), .int .i64 pl] w fun e w' => e = .returned (.tuple #[suA (movR P pl false 16).1, .int .i64 (movR P pl false 16).2]) ∧ Below w.heap.size w w' := by
  have HF := Lib.hid (fun W => moved_any P hP ao n co pl false 16 W)
  obtain ⟨R, hR⟩ : ∃ R, R = movR P pl false 16 := ⟨_, rfl⟩
  rw [← hR] at HF ⊢
  clear hR
  obtain ⟨sR, hsR⟩ : ∃ s, s = tabV 276 (suV R.1) := ⟨_, rfl⟩
  have HSR := Lib.hid (show sR.size = 276 ∧ sR.all (·.oneCell') = true by rw [hsR]; exact ⟨size_tabV _ _, tabV_one (suV_one _)⟩)
  have hRA : suA R.1 = .agg sR := by rw [hsR]; rfl
  rw [hRA] at HF ⊢
  clear hRA hsR
  obtain ⟨r2, hr2⟩ : ∃ r, r = R.2 := ⟨_, rfl⟩
  rw [← hr2] at HF ⊢
  clear hr2
  obtain ⟨hz0, hi0⟩ := zero_of_info infoSu
  clear hi0
  obtain ⟨c0, hc0⟩ : ∃ s, s = tabV 276 (suV suZ) := ⟨_, rfl⟩
  rw [← hc0] at hz0
  have HC0 := Lib.hid (show c0.size = 276 ∧ c0.all (·.oneCell') = true by rw [hc0]; exact ⟨size_tabV _ _, tabV_one (suV_one suZ)⟩)
  have HBZ := Lib.hid (show Try.prog.built 35 [] = some c0 by rw [hc0]; exact built_su0)
  have HCZ := Lib.hid (show suA suZ = .agg c0 by rw [hc0]; rfl)
  have HCC := Lib.hid hc0
  obtain ⟨hBX, hSX⟩ := cr_box P (.slice ao n co) w
  obtain ⟨sX, hsX⟩ : ∃ s, s = tabV 277 (crV P (.slice ao n co)) := ⟨_, rfl⟩
  unfold crA
  rw [← hsX] at hBX hSX ⊢
  have HSXE := Lib.hid (show sX.size = 277 ∧ sX.all (·.oneCell') = true by rw [hsX]; exact ⟨size_tabV _ _, tabV_one (crV_one P rfl)⟩)
  have HSXA := Lib.hid (show crA P (.slice ao n co) = .agg sX by rw [hsX]; rfl)
  obtain ⟨X, hX⟩ : ∃ X, X = w.alloc (.cells sX 38) := ⟨_, rfl⟩
  obtain ⟨A, hA⟩ : ∃ A, A = X.alloc (.cells c0 35) := ⟨_, rfl⟩
  have HA := Lib.hid (show A = (w.alloc (.cells sX 38)).alloc (.cells c0 35) by rw [hA, hX])
  have HXS := Lib.hid (show X.heap.size = w.heap.size + 1 by rw [hX]; simp)
  have HAS := Lib.hid (show A.heap.size = w.heap.size + 2 by rw [hA]; have := HXS.out; simp; omega)
  rw [← hX] at hBX hSX
  have hbA : Below X.heap.size X A := by rw [hA]; exact (Below.refl _ _).alloc (Nat.le_refl _) _
  have HCB := Lib.hid (hSX.on hbA)
  have HBA := Lib.hid (hBX.trans (hbA.mono (by have := HXS.out; omega)))
  have HZA := Lib.hid (show A.heap[w.heap.size + 1]? = some (.cells c0 35 (0, 0)) by rw [hA, ← HXS.out]; exact heap_alloc_new X _)
  have HRA := Lib.hid (show A.heap[w.heap.size]? = some (.cells sX 38 (0, 0)) by have h := HCB.out; unfold CrB Blk at h; rw [← hsX] at h; exact h)
  obtain ⟨sP, hsP⟩ : ∃ s, s = tabV 276 (suV P) := ⟨_, rfl⟩
  have HSP := Lib.hid (show sP.size = 276 ∧ sP.all (·.oneCell') = true by rw [hsP]; exact ⟨size_tabV _ _, tabV_one (suV_one P)⟩)
  have HSPP := Lib.hid hsP
  have HSL := Lib.hid (show (suL P).toArray = sP by rw [suL_arr, hsP])
  have HPW := Lib.hid hP
  clear hc0 hsX hBX hSX hX hA hbA hsP hP
  rw [HSXA.out] at HF
  go_enter Try.func13, Try.ntmps13
  go_upto_region 1 with fail
  rw [← HA.out]
  go_wp2_with (first
    | ((with_reducible show wpList _ _ _ (⟨some 6, _, _, _, _, _⟩ :: _) _ _); go_loud (refine wpList_load_row rfl 38 (.tmp 2) rfl w.heap.size rfl 38 sX (0, 0) _ HRA.out Try.underlying38 rfl (by rw [HSXE.out.1]; exact sizeCr) ?_))
    | (go_at_call 20; go_loud ((with_reducible refine (HF.out _).mono ?_); rintro e w1 ⟨rfl, hb⟩; have HZ1 := Lib.hid ((hb.block (w.heap.size + 1) (by have := HAS.out; omega)).trans HZA.out); have HB1 := Lib.hid (bt HBA.out hb); clear hb))
    | ((with_reducible show wpList _ _ _ (⟨none, Op.store 35 (.tmp 4) _, _, _, _, _⟩ :: _) _ _); go_loud (refine wpList_store_row rfl 35 (.tmp 4) (.tmp 9) rfl (w.heap.size + 1) sR rfl rfl 35 c0 HZ1.out (by rw [HSR.out.1]; exact sizeSu) (by rw [HSR.out.1, HC0.out.1]) HSR.out.2 ?_)))
  exact bodyPost_ret (results_without _ _ (w.heap.size + 1) sR _ rfl rfl (setRow_heap _ _ _ _ _ _ HZ1.out) (by rw [HSR.out.1]; exact sizeSu)) rfl ⟨rfl, below_setRow HB1.out (by omega) _⟩
set_option maxHeartbeats 8000000 in
theorem with_any (P : SU) (hP : P.Wf) (ao : Option Addr) (n co : Nat) (pl : Int) (w : World) :
    Calls Try.prog 14 #[crA P (.slice ao n co), .int .i64 pl] w fun e w' => e = .returned (.tuple #[suA (movR P pl true 6).1, .int .i64 (movR P pl true 6).2]) ∧ Below w.heap.size w w' := by
  have HF := Lib.hid (fun W => moved_any P hP ao n co pl true 6 W)
  obtain ⟨R, hR⟩ : ∃ R, R = movR P pl true 6 := ⟨_, rfl⟩
  rw [← hR] at HF ⊢
  clear hR
  obtain ⟨sR, hsR⟩ : ∃ s, s = tabV 276 (suV R.1) := ⟨_, rfl⟩
  have HSR := Lib.hid (show sR.size = 276 ∧ sR.all (·.oneCell') = true by rw [hsR]; exact ⟨size_tabV _ _, tabV_one (suV_one _)⟩)
  have hRA : suA R.1 = .agg sR := by rw [hsR]; rfl
  rw [hRA] at HF ⊢
  clear hRA hsR
  obtain ⟨r2, hr2⟩ : ∃ r, r = R.2 := ⟨_, rfl⟩
  rw [← hr2] at HF ⊢
  clear hr2
  obtain ⟨hz0, hi0⟩ := zero_of_info infoSu
  clear hi0
  obtain ⟨c0, hc0⟩ : ∃ s, s = tabV 276 (suV suZ) := ⟨_, rfl⟩
  rw [← hc0] at hz0
  have HC0 := Lib.hid (show c0.size = 276 ∧ c0.all (·.oneCell') = true by rw [hc0]; exact ⟨size_tabV _ _, tabV_one (suV_one suZ)⟩)
  have HBZ := Lib.hid (show Try.prog.built 35 [] = some c0 by rw [hc0]; exact built_su0)
  have HCZ := Lib.hid (show suA suZ = .agg c0 by rw [hc0]; rfl)
  have HCC := Lib.hid hc0
  obtain ⟨hBX, hSX⟩ := cr_box P (.slice ao n co) w
  obtain ⟨sX, hsX⟩ : ∃ s, s = tabV 277 (crV P (.slice ao n co)) := ⟨_, rfl⟩
  unfold crA
  rw [← hsX] at hBX hSX ⊢
  have HSXE := Lib.hid (show sX.size = 277 ∧ sX.all (·.oneCell') = true by rw [hsX]; exact ⟨size_tabV _ _, tabV_one (crV_one P rfl)⟩)
  have HSXA := Lib.hid (show crA P (.slice ao n co) = .agg sX by rw [hsX]; rfl)
  obtain ⟨X, hX⟩ : ∃ X, X = w.alloc (.cells sX 38) := ⟨_, rfl⟩
  obtain ⟨A, hA⟩ : ∃ A, A = X.alloc (.cells c0 35) := ⟨_, rfl⟩
  have HA := Lib.hid (show A = (w.alloc (.cells sX 38)).alloc (.cells c0 35) by rw [hA, hX])
  have HXS := Lib.hid (show X.heap.size = w.heap.size + 1 by rw [hX]; simp)
  have HAS := Lib.hid (show A.heap.size = w.heap.size + 2 by rw [hA]; have := HXS.out; simp; omega)
  rw [← hX] at hBX hSX
  have hbA : Below X.heap.size X A := by rw [hA]; exact (Below.refl _ _).alloc (Nat.le_refl _) _
  have HCB := Lib.hid (hSX.on hbA)
  have HBA := Lib.hid (hBX.trans (hbA.mono (by have := HXS.out; omega)))
  have HZA := Lib.hid (show A.heap[w.heap.size + 1]? = some (.cells c0 35 (0, 0)) by rw [hA, ← HXS.out]; exact heap_alloc_new X _)
  have HRA := Lib.hid (show A.heap[w.heap.size]? = some (.cells sX 38 (0, 0)) by have h := HCB.out; unfold CrB Blk at h; rw [← hsX] at h; exact h)
  obtain ⟨sP, hsP⟩ : ∃ s, s = tabV 276 (suV P) := ⟨_, rfl⟩
  have HSP := Lib.hid (show sP.size = 276 ∧ sP.all (·.oneCell') = true by rw [hsP]; exact ⟨size_tabV _ _, tabV_one (suV_one P)⟩)
  have HSPP := Lib.hid hsP
  have HSL := Lib.hid (show (suL P).toArray = sP by rw [suL_arr, hsP])
  have HPW := Lib.hid hP
  clear hc0 hsX hBX hSX hX hA hbA hsP hP
  rw [HSXA.out] at HF
  go_enter Try.func14, Try.ntmps14
  go_upto_region 1 with fail
  rw [← HA.out]
  go_wp2_with (first
    | ((with_reducible show wpList _ _ _ (⟨some 6, _, _, _, _, _⟩ :: _) _ _); go_loud (refine wpList_load_row rfl 38 (.tmp 2) rfl w.heap.size rfl 38 sX (0, 0) _ HRA.out Try.underlying38 rfl (by rw [HSXE.out.1]; exact sizeCr) ?_))
    | (go_at_call 20; go_loud ((with_reducible refine (HF.out _).mono ?_); rintro e w1 ⟨rfl, hb⟩; have HZ1 := Lib.hid ((hb.block (w.heap.size + 1) (by have := HAS.out; omega)).trans HZA.out); have HB1 := Lib.hid (bt HBA.out hb); clear hb))
    | ((with_reducible show wpList _ _ _ (⟨none, Op.store 35 (.tmp 4) _, _, _, _, _⟩ :: _) _ _); go_loud (refine wpList_store_row rfl 35 (.tmp 4) (.tmp 9) rfl (w.heap.size + 1) sR rfl rfl 35 c0 HZ1.out (by rw [HSR.out.1]; exact sizeSu) (by rw [HSR.out.1, HC0.out.1]) HSR.out.2 ?_)))
  exact bodyPost_ret (results_with _ _ (w.heap.size + 1) sR _ rfl rfl (setRow_heap _ _ _ _ _ _ HZ1.out) (by rw [HSR.out.1]; exact sizeSu)) rfl ⟨rfl, below_setRow HB1.out (by omega) _⟩
end Go.Proofs.Ytbijakhdngbjmaa
