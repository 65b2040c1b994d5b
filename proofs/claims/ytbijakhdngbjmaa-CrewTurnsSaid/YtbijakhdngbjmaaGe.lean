/- Package crew: slices.MaxFunc by age. -/
import Derived.Test.YtbijakhdngbjmaaGd
namespace Go.Proofs.Ytbijakhdngbjmaa
open Go.ChangeShapes Go.WideShapes Go.ChangeAt Go.RowKit Go.Shelf Go.Maps
set_option linter.unusedVariables false
set_option linter.unusedSimpArgs false
set_option maxRecDepth 100000
attribute [local go_sem] Oper.semAt_some

theorem results_max (tmps : Array Value) (w : World) (g : Nat) (cs : Array Value) (h2 : tmps.getD 4 undef = .pointer (some ⟨g, 0, none⟩)) (hg : w.heap[g]? = some (.cells cs 35 (0, 0))) (hs : cs.size = 276) :
    (results Try.f23 tmps).run Try.prog w = .ok (.agg cs) w := by
  have h2' : tmps[4]?.getD undef = .pointer (some ⟨g, 0, none⟩) := by simpa using h2
  have hr := run_loadVar_row (P := Try.prog) w g 35 35 cs (0, 0) _ hg Try.underlying35 rfl (by rw [hs]; exact sizeSu)
  simp [results, Try.f23, h2', asAddr, hr]
theorem getD_some {SL : List SU} {i : Nat} {P : SU} (h : SL[i]? = some P) : SL.getD i suZ = P := by rw [List.getD_eq_getElem?_getD, h]; rfl
set_option maxHeartbeats 8000000 in
theorem maxFunc_any (a : Option Addr) (L c : Nat) (SL : List SU) (w : World) (hI : SuR w a L c SL) (hL : 0 < L) (hL9 : L ≤ 100) :
    Calls Try.prog 23 #[.slice a L c, .func (.func 24) #[] #[]] w fun e w' => e = .returned (suA (tabSU SL)) ∧ Below w.heap.size w w' := by
  obtain ⟨hb1, hb2⟩ := hI.bd
  have hl : SL.length = L := hI.1
  have HL := Lib.hid hl
  obtain ⟨hz0, hi0⟩ := zero_of_info infoSu
  clear hi0
  obtain ⟨c0, hc0⟩ : ∃ s, s = tabV 276 (suV suZ) := ⟨_, rfl⟩
  rw [← hc0] at hz0
  have HC0 := Lib.hid (show c0.size = 276 by rw [hc0, size_tabV])
  obtain ⟨b, off, P0, ha, hbl, hP0, hrg0⟩ := hI.at_ (i := 0) hL
  subst ha
  obtain ⟨s0, hs0⟩ : ∃ s, s = tabV 276 (suV P0) := ⟨_, rfl⟩
  have HS0 := Lib.hid (show s0.size = 276 ∧ s0.all (·.oneCell') = true by rw [hs0]; exact ⟨size_tabV _ _, tabV_one (suV_one P0)⟩)
  have HSS := Lib.hid hs0
  have HRG0 := Lib.hid (show (w.alloc (.cells c0 35)).rangeAt b off (suL P0) from fun j v hj => (((Below.refl _ _).alloc (Nat.le_refl _) (.cells c0 35)).cell (p := ⟨b, off + j, none⟩) hbl).trans (by have := hrg0 j v hj; rw [Nat.zero_mul] at this; exact this))
  have HI := Lib.hid hI
  have HP0 := Lib.hid hP0
  have q00 : ¬ (L : Int) < 1 := by omega
  have q01 : 0 < L := hL
  clear hl hI hc0 hs0 hP0 hrg0
  go_enter Try.func23, Try.ntmps23
  go_upto_region 4 with (first
    | ((with_reducible show wpList _ _ _ (⟨some 13, _, _, _, _, _⟩ :: _) _ _); go_loud (refine wpList_load_mid rfl 35 (.tmp 12) rfl b off rfl (suL P0) _ HRG0.out Try.underlying35 rfl (by rw [suL_len]; exact sizeSu) ?_; rw [suL_arr, ← HSS.out]))
    | ((with_reducible show wpList _ _ _ (⟨none, Op.store 35 _ _, _, _, _, _⟩ :: _) _ _); go_loud (refine wpList_store_row rfl 35 (.tmp 5) (.tmp 13) rfl (w.heap.size + 1) s0 rfl rfl 35 c0 (by have := heap_alloc_new (w.alloc (.cells c0 35)) (.cells c0 35); rw [size_alloc1] at this; exact this) (by rw [HS0.out.1]; exact sizeSu) (by rw [HS0.out.1, HC0.out]) HS0.out.2 ?_)))
  have HEQ : ((w.alloc (.cells c0 35)).alloc (.cells c0 35)).setRow (w.heap.size + 1) s0 = (w.alloc (.cells c0 35)).alloc (.cells s0 35) := by
    have := alloc_setRow (w.alloc (.cells c0 35)) c0 s0 35
    rw [size_alloc1] at this
    exact this
  change Code.wp _ _ _ _ (((w.alloc (.cells c0 35)).alloc (.cells c0 35)).setRow (w.heap.size + 1) s0)
  rw [HEQ]
  obtain ⟨hBV, hSV⟩ := su_box P0 (w.alloc (.cells c0 35))
  rw [← HSS.out, size_alloc1] at hSV
  rw [← HSS.out] at hBV
  have HBV := Lib.hid (bt ((Below.refl _ _).alloc (Nat.le_refl _) (.cells c0 35)) hBV)
  have HZ0 := Lib.hid (show ((w.alloc (.cells c0 35)).alloc (.cells s0 35)).heap[w.heap.size]? = some (.cells c0 35 (0, 0)) by rw [heap_alloc_old _ _ (by simp)]; exact heap_alloc_new w _)
  have HVS := Lib.hid (show ((w.alloc (.cells c0 35)).alloc (.cells s0 35)).heap.size = w.heap.size + 2 by simp)
  have HSV := Lib.hid hSV
  clear HEQ hBV hSV
  generalize (w.alloc (.cells c0 35)).alloc (.cells s0 35) = V at HBV HZ0 HVS HSV ⊢
  have HTB := Lib.hid (show tabK SL 0 = P0 from getD_some HP0.out)
  go_wp2
  go_loopw [6] (fun iv wr => ∃ k : Nat, (1 ≤ k ∧ k ≤ L) ∧ iv = .int .i64 (k : Nat) ∧ Hid (SuB wr (w.heap.size + 1) (tabK SL (k - 1))) ∧ Hid (wr.heap[w.heap.size]? = some (.cells c0 35 (0, 0))) ∧ Hid (Below w.heap.size w wr)) (fun iv _ => L - (intOf iv).toNat)
  case atStart => exact ⟨1, ⟨Nat.le_refl _, by omega⟩, rfl, Lib.hid (by rw [HTB.out]; exact HSV.out), Lib.hid HZ0.out, Lib.hid HBV.out⟩
  case round =>
    obtain ⟨k, hk, rfl, hS, hZ, hnx⟩ := hrel
    have HNX := Lib.hid hnx.out
    have HLT0 := Lib.hid (hS.out.lt)
    clear hnx
    by_cases hlt : k < L
    · obtain ⟨b', off', P, ha', hbl', hPk, hrg⟩ := (HI.out.on HNX.out).at_ hlt
      cases ha'
      obtain ⟨s1, hs1⟩ : ∃ s, s = tabV 276 (suV P) := ⟨_, rfl⟩
      obtain ⟨m, hm⟩ : ∃ m, m = tabK SL (k - 1) := ⟨_, rfl⟩
      rw [← hm] at hS
      obtain ⟨s2, hs2⟩ : ∃ s, s = tabV 276 (suV m) := ⟨_, rfl⟩
      have hld1 : ∀ W, Below wr.heap.size wr W → (Instr.loadAt 35 (.pointer (some ⟨b, off + k * 276, none⟩))).run Try.prog W = .ok (.agg s1) W := fun W hW => by
        have := run_loadAt_mid (P := Try.prog) W b (off + k * 276) 35 (suL P) _ (fun j v hj => (hW.cell (p := ⟨b, off + k * 276 + j, none⟩) hbl').trans (hrg j v hj)) Try.underlying35 rfl (by rw [suL_len]; exact sizeSu)
        rw [suL_arr, ← hs1] at this
        exact this
      have hld2 : ∀ W, Below wr.heap.size wr W → (Instr.loadAt 35 (.pointer (some ⟨w.heap.size + 1, 0, none⟩))).run Try.prog W = .ok (.agg s2) W := fun W hW => by
        have := run_loadAt_mid (P := Try.prog) W (w.heap.size + 1) 0 35 (suL m) _ (SuB.range (hS.out.on hW)) Try.underlying35 rfl (by rw [suL_len]; exact sizeSu)
        rw [suL_arr, ← hs2] at this
        exact this
      obtain ⟨z, hz⟩ : ∃ z, z = ageI P m := ⟨_, rfl⟩
      have HF := Lib.hid (show ∀ W, Calls Try.prog 24 #[.agg s1, .agg s2] W fun e w' => e = .returned (.int .i64 z) ∧ Below W.heap.size W w' from fun W => by rw [hs1, hs2, hz]; exact byAge_any P m W)
      have HN := Lib.hid (show tabK SL k = if 0 < z then P else m by obtain ⟨j, rfl⟩ : ∃ j, k = j + 1 := ⟨k - 1, by omega⟩; rw [hz, hm, Nat.add_sub_cancel]; show newer (tabK SL j) (SL.getD (j + 1) suZ) = _; rw [getD_some hPk]; rfl)
      have HLT := Lib.hid hlt
      have HS1 := Lib.hid (show s1.size = 276 ∧ s1.all (·.oneCell') = true by rw [hs1]; exact ⟨size_tabV _ _, tabV_one (suV_one P)⟩)
      have HS2 := Lib.hid (show s2.size = 276 by rw [hs2]; exact size_tabV _ _)
      have HSS1 := Lib.hid hs1
      have HSS2 := Lib.hid hs2
      have HRG := Lib.hid hrg
      have HBL := Lib.hid hbl'
      have q1 : (k : Int) < (L : Int) := by omega
      have q3 : k < L := hlt
      have q4 : (0 : Int) ≤ (k : Int) := by omega
      clear hz hm hs1 hs2 hrg hbl' hPk hlt
      go_upto_region 7 with fail
      refine wp_region_held_drew (S := (fun W => Below wr.heap.size wr W)) (by kernel_rfl) (Below.refl _ _).drew (fun hHeld => ?_)
      refine wpAnyH_take (i := 0) (oi := { dst := some 20, op := Go.Op.move (Go.Operand.tmp 1), type := 65, pos := "sort.go:115", after := #[], guard := none }) (v := ?v0p1) rfl (by kernel_rfl) (by kernel_rfl) (by kernel_rfl) (fun _ _ _ h => h) (Or.inl ⟨by rfl, ?hy0p1⟩) hHeld ?rest0p1
      case hy0p1 =>
        intro W' hV
        try dsimp only at hV
        go_simp
        all_goals with_reducible rfl
      case' rest0p1 => try simp only [Act.put, List.setIfInBounds_toArray, List.set_cons_zero, List.set_cons_succ]
      refine wpAnyH_take (i := 1) (oi := { dst := some 21, op := Go.Op.move (Go.Operand.tmp 0), type := 28, pos := "sort.go:115", after := #[], guard := none }) (v := ?v1p2) rfl (by kernel_rfl) (by kernel_rfl) (by kernel_rfl) (fun _ _ _ h => h) (Or.inl ⟨by rfl, ?hy1p2⟩) hHeld ?rest1p2
      case hy1p2 =>
        intro W' hV
        try dsimp only at hV
        go_simp
        all_goals with_reducible rfl
      case' rest1p2 => try simp only [Act.put, List.setIfInBounds_toArray, List.set_cons_zero, List.set_cons_succ]
      refine wpAnyH_take (i := 2) (oi := { dst := some 22, op := Go.Op.move (Go.Operand.tmp 6), type := 3, pos := "sort.go:115", after := #[], guard := none }) (v := ?v2p3) rfl (by kernel_rfl) (by kernel_rfl) (by kernel_rfl) (fun _ _ _ h => h) (Or.inl ⟨by rfl, ?hy2p3⟩) hHeld ?rest2p3
      case hy2p3 =>
        intro W' hV
        try dsimp only at hV
        go_simp
        all_goals with_reducible rfl
      case' rest2p3 => try simp only [Act.put, List.setIfInBounds_toArray, List.set_cons_zero, List.set_cons_succ]
      refine wpAnyH_take (i := 3) (oi := { dst := some 23, op := Go.Op.indexAddr 28 (Go.Operand.tmp 21) (Go.Operand.tmp 22), type := 0, pos := "sort.go:115", after := #[{ on := 1, ground := Go.Ground.data }, { on := 2, ground := Go.Ground.data }], guard := none }) (v := ?v3p4) rfl (by kernel_rfl) (by kernel_rfl) (by kernel_rfl) (fun _ _ _ h => h) (Or.inl ⟨by rfl, ?hy3p4⟩) hHeld ?rest3p4
      case hy3p4 =>
        intro W' hV
        try dsimp only at hV
        go_simp
        all_goals with_reducible rfl
      case' rest3p4 => try simp only [Act.put, List.setIfInBounds_toArray, List.set_cons_zero, List.set_cons_succ]
      refine wpAnyH_take (i := 4) (oi := { dst := some 24, op := Go.Op.load 35 (Go.Operand.tmp 23), type := 35, pos := "sort.go:115", after := #[{ on := 3, ground := Go.Ground.data }], guard := none }) (v := .agg s1) rfl (by kernel_rfl) (by kernel_rfl) (by kernel_rfl) (fun _ _ _ h => h) (yields_loadAt (by rfl) 35 (.tmp 23) rfl (by rfl) (fun W h => hld1 W h)) hHeld ?rest4p5
      case' rest4p5 => try simp only [Act.put, List.setIfInBounds_toArray, List.set_cons_zero, List.set_cons_succ]
      refine wpAnyH_take (i := 5) (oi := { dst := some 25, op := Go.Op.load 35 (Go.Operand.tmp 5), type := 35, pos := "sort.go:115", after := #[], guard := none }) (v := .agg s2) rfl (by kernel_rfl) (by kernel_rfl) (by kernel_rfl) (fun _ _ _ h => h) (yields_loadAt (by rfl) 35 (.tmp 5) rfl (by rfl) (fun W h => hld2 W h)) hHeld ?rest5p6
      case' rest5p6 => try simp only [Act.put, List.setIfInBounds_toArray, List.set_cons_zero, List.set_cons_succ]
      generalize wr.drew = V1 at hHeld ⊢
      have HV1 := Lib.hid hHeld
      refine wpAnyH_ready (rs := [6]) (by kernel_rfl) (by simp) ?_
      refine AllReadyH.cons (o := { dst := some 26, op := Go.Op.call { callee := Go.Callee.value (Go.Operand.tmp 20), args := #[Go.Operand.tmp 24, Go.Operand.tmp 25], argTypes := #[35, 35] }, type := 3, pos := "sort.go:115", after := #[{ on := 0, ground := Go.Ground.data }, { on := 4, ground := Go.Ground.data }, { on := 5, ground := Go.Ground.data }], guard := none }) rfl (fun K' hK => ?_) AllReadyH.nil
      rw [if_pos (by rfl)]
      go_wp2_with (go_at_call 24; go_loud ((with_reducible refine (HF.out _).mono ?_); rintro e w3 ⟨rfl, hb3⟩))
      refine hK.out _ _ (bt HV1.out hb3) (fun hHeld1 => ?_)
      clear hK K' hHeld
      have hHeld := hHeld1
      clear hHeld1
      try simp only [Act.put, List.setIfInBounds_toArray, List.set_cons_zero, List.set_cons_succ]
      have HV3 := Lib.hid hHeld
      clear hld1 hld2 hb3
      refine wpAnyH_take (i := 7) (oi := { dst := some 27, op := Go.Op.binOp Go.BinOp.gtr 3 (Go.Operand.tmp 26) (Go.Operand.const (Go.Value.int Go.IntKind.i64 0)) 3, type := 4, pos := "sort.go:115", after := #[{ on := 6, ground := Go.Ground.data }], guard := none }) (v := ?v7p7) rfl (by kernel_rfl) (by kernel_rfl) (by kernel_rfl) (fun _ _ _ h => h) (Or.inl ⟨by rfl, ?hy7p7⟩) hHeld ?rest7p7
      case hy7p7 =>
        intro W' hV
        try dsimp only at hV
        go_simp
        all_goals with_reducible rfl
      case' rest7p7 => try simp only [Act.put, List.setIfInBounds_toArray, List.set_cons_zero, List.set_cons_succ]
      refine wpAnyH_done (by kernel_rfl) ?_ _
      clear hHeld
      have HW3 := Lib.hid (bt HNX.out HV3.out)
      have HZ3 := Lib.hid ((HV3.out.block w.heap.size (by have := HLT0.out; omega)).trans hZ.out)
      have HM3 := Lib.hid (hS.out.on HV3.out)
      have HRG3 := Lib.hid (show w3.rangeAt b (off + k * 276) (suL P) from fun j v hj => (HV3.out.cell (p := ⟨b, off + k * 276 + j, none⟩) HBL.out).trans (HRG.out j v hj))
      by_cases hz : 0 < z
      · have HN2 := Lib.hid (show tabK SL k = P by rw [HN.out, if_pos hz])
        go_wp2_with (first
          | ((with_reducible show wpList _ _ _ (⟨some 31, _, _, _, _, _⟩ :: _) _ _); go_loud (refine wpList_load_mid rfl 35 (.tmp 30) rfl b (off + k * 276) rfl (suL P) _ HRG3.out Try.underlying35 rfl (by rw [suL_len]; exact sizeSu) ?_; rw [suL_arr, ← HSS1.out]))
          | ((with_reducible show wpList _ _ _ (⟨none, Op.store 35 _ _, _, _, _, _⟩ :: _) _ _); go_loud (refine wpList_store_row rfl 35 (.tmp 5) (.tmp 31) rfl (w.heap.size + 1) s1 rfl rfl 35 s2 (by have := HM3.out; unfold SuB Blk at this; rw [← HSS2.out] at this; exact this) (by rw [HS1.out.1]; exact sizeSu) (by rw [HS1.out.1, HS2.out]) HS1.out.2 ?_)))
        go_roundw
        case rel => exact ⟨k + 1, ⟨by omega, q3⟩, by go_num, Lib.hid (by rw [Nat.add_sub_cancel, HN2.out, HSS1.out]; exact row_set HM3.out), Lib.hid (by rw [setRow_other _ _ _ _ (by omega)]; exact HZ3.out), Lib.hid (below_setRow HW3.out (by omega) _)⟩
        case measure => simp [intOf]; omega
      · have HN2 := Lib.hid (show tabK SL k = m by rw [HN.out, if_neg hz])
        go_wp2
        go_roundw
        case rel => exact ⟨k + 1, ⟨by omega, q3⟩, by go_num, Lib.hid (by rw [Nat.add_sub_cancel, HN2.out]; exact HM3.out), Lib.hid HZ3.out, Lib.hid HW3.out⟩
        case measure => simp [intOf]; omega
    · obtain rfl : k = L := by omega
      have HT := Lib.hid (show tabK SL (k - 1) = tabSU SL by unfold tabSU; rw [HL.out])
      rw [HT.out] at hS
      have q1 : ¬ (k : Int) < (k : Int) := by omega
      obtain ⟨sT, hsT⟩ : ∃ s, s = tabV 276 (suV (tabSU SL)) := ⟨_, rfl⟩
      have HST := Lib.hid (show sT.size = 276 ∧ sT.all (·.oneCell') = true by rw [hsT]; exact ⟨size_tabV _ _, tabV_one (suV_one _)⟩)
      have HSU := Lib.hid (show suA (tabSU SL) = .agg sT by rw [hsT]; rfl)
      have HRW := Lib.hid (show wr.heap[w.heap.size + 1]? = some (.cells sT 35 (0, 0)) by rw [hsT]; exact hS.out)
      clear hsT hlt
      go_wp2_with (first
        | ((with_reducible show wpList _ _ _ (⟨some 32, _, _, _, _, _⟩ :: _) _ _); go_loud (refine wpList_load_row rfl 35 (.tmp 5) rfl (w.heap.size + 1) rfl 35 sT (0, 0) _ HRW.out Try.underlying35 rfl (by rw [HST.out.1]; exact sizeSu) ?_))
        | ((with_reducible show wpList _ _ _ (⟨none, Op.store 35 _ _, _, _, _, _⟩ :: _) _ _); go_loud (refine wpList_store_row rfl 35 (.tmp 4) (.tmp 32) rfl w.heap.size sT rfl rfl 35 c0 hZ.out (by rw [HST.out.1]; exact sizeSu) (by rw [HST.out.1, HC0.out]) HST.out.2 ?_)))
      refine bodyPost_ret (v := .agg sT) (results_max _ _ w.heap.size sT rfl (setRow_heap _ _ _ _ _ _ hZ.out) HST.out.1) rfl ⟨by rw [HSU.out], below_setRow HNX.out (Nat.le_refl _) _⟩
end Go.Proofs.Ytbijakhdngbjmaa
