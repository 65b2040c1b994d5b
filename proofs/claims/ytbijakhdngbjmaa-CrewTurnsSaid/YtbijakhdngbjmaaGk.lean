/- Package crew: In, Enough. -/
import Derived.Test.YtbijakhdngbjmaaGd
namespace Go.Proofs.Ytbijakhdngbjmaa
open Go.ChangeShapes Go.WideShapes Go.ChangeAt Go.RowKit Go.Shelf Go.Maps
set_option linter.unusedVariables false
set_option linter.unusedSimpArgs false
set_option maxRecDepth 100000
attribute [local go_sem] Oper.semAt_some

set_option maxHeartbeats 8000000 in
theorem in_any (P : SU) (hP : P.Wf) (w : World) :
    Calls Try.prog 11 #[suA P] w fun e w' => ∃ (a : Option Addr) (c : Nat), e = .returned (.slice a P.L.length c) ∧ w'.ownsRow (w.heap.size + 1) 3 1 (.slice a P.L.length c) P.L.length (P.L.map (Value.int .i64)) ∧ Below w.heap.size w w' := by
  obtain ⟨hBT, hST⟩ := su_box P w
  obtain ⟨sT, hsT⟩ : ∃ s, s = tabV 276 (suV P) := ⟨_, rfl⟩
  unfold suA
  rw [← hsT] at hBT hST ⊢
  obtain ⟨A, hA⟩ : ∃ A, A = w.alloc (.cells sT 35) := ⟨_, rfl⟩
  have HA := Lib.hid hA
  have HAS := Lib.hid (show A.heap.size = w.heap.size + 1 by rw [hA]; simp)
  rw [← hA] at hBT hST
  have HRG := Lib.hid (show A.rangeAt w.heap.size 16 (P.inn.map Value.bool) from fun j v hj => by
    have hjl : j < 256 := by have := (List.getElem?_eq_some_iff.1 hj).1; rw [List.length_map, hP.inn] at this; exact this
    rw [map_bool_getElem? (by rw [hP.inn]; exact hjl)] at hj
    rw [← hj]
    exact hST.inn hjl)
  have HSZ := Lib.hid (show (Try.prog.info? 33).map (·.size) = some (P.inn.map Value.bool).length by rw [List.length_map, hP.inn]; kernel_rfl)
  obtain ⟨iI, hi5, hz5⟩ := Option.map_eq_some_iff.1 infoI
  simp only [Prod.mk.injEq] at hz5
  have HI := Lib.hid (And.intro hi5 hz5)
  have HBT := Lib.hid hBT
  have HPW := Lib.hid hP
  unfold SU.L
  clear hi5 hz5 hsT hA hBT hST hP
  go_enter Try.func11, Try.ntmps11
  go_upto_region 1 with fail
  rw [← HA.out]
  go_upto_region 3 with ((with_reducible show wpList _ _ _ (⟨some 7, _, _, _, _, _⟩ :: _) _ _); go_loud (refine wpList_load_mid (by rfl) 33 (.tmp 6) (by rfl) w.heap.size 16 (by rfl) (P.inn.map Value.bool) _ HRG.out und256 (by rfl) HSZ.out ?_))
  go_loopw [3, 8] (fun ov iv wr => ∃ (k : Nat) (a : Option Addr) (c : Nat), k ≤ 256 ∧ iv = .int .i64 (k : Nat) ∧ ov = .slice a (inK P.inn k).length c ∧ Hid (wr.ownsRow (w.heap.size + 1) 3 1 (.slice a (inK P.inn k).length c) (inK P.inn k).length ((inK P.inn k).map (Value.int .i64))) ∧ Hid (Below (w.heap.size + 1) A wr))
    (fun _ iv _ => 256 - (intOf iv).toNat)
  case atStart => exact ⟨0, none, 0, by omega, rfl, rfl, Lib.hid (own_emptyI _ _), Lib.hid (Below.refl _ _)⟩
  case round =>
    obtain ⟨k, a, c, hk, rfl, rfl, ho, hb⟩ := hrel
    have HWS := Lib.hid (show w.heap.size + 1 ≤ wr.heap.size by have := hb.out.size; have := HAS.out; omega)
    by_cases hlt : k < 256
    · obtain ⟨v, hv⟩ : ∃ v, v = P.inn.getD k false := ⟨_, rfl⟩
      have hix : ∀ W : World, (Instr.index 33 (.agg (P.inn.map Value.bool).toArray) (.int .i64 (k : Nat))).run Try.prog W = .ok (.bool v) W := fun W => by rw [hv]; exact index256 P.inn k HPW.out.inn hlt W
      obtain ⟨n, hn⟩ : ∃ n, n = (inK P.inn k).length := ⟨_, rfl⟩
      have hnk : n ≤ k := by rw [hn]; exact inK_len _ _
      rw [← hn] at ho ⊢
      have HN := Lib.hid hn
      have qk : (k : Int) < 256 := by omega
      cases v with
      | false =>
        have HK := Lib.hid (inK_no hv.symm)
        clear hv hn
        go_wp2
        go_roundw
        case rel => exact ⟨k + 1, a, c, by omega, by go_num, by rw [HK.out, ← HN.out], Lib.hid (by rw [HK.out, ← HN.out]; exact ho.out), hb⟩
        case measure => simp [intOf]; omega
      | true =>
        have HK := Lib.hid (inK_yes hv.symm)
        clear hv hn
        go_wp2_with ((with_reducible show wpList _ _ _ (⟨some 16, _, _, _, _, _⟩ :: _) _ _); go_loud (refine wpList_append_i1 _ rfl (.tmp 13) (.tmp 15) 36 rfl (w.heap.size + 1) 3 iI Try.underlying36 HI.out.1 HI.out.2.1 HI.out.2.2.1 HI.out.2.2.2 (.slice a n c) n (inK P.inn k) rfl (ho.out.alloc _) ⟨wr.heap.size, 0, none⟩ (k : Int) rfl (by simp) (by omega) (by have := HWS.out; simp; omega) (wr.heap.size + 1) (by simp) ?_; intro g4 c4 w4 ho4 hg4 hat4; have HO4 := Lib.hid ho4; have HB4 := Lib.hid ((hb.out.alloc HWS.out _).grown hg4 (by have := HWS.out; simp; omega) (fun j e => (ho.out.lt j e).1)); clear ho4 hg4))
        go_roundw
        case rel => exact ⟨k + 1, some ⟨g4, 0, none⟩, c4, by omega, by go_num, by rw [HK.out, List.length_append, ← HN.out]; rfl, Lib.hid (by rw [HK.out, List.length_append, ← HN.out]; exact HO4.out), Lib.hid HB4.out⟩
        case measure => simp [intOf]; omega
    · obtain rfl : k = 256 := by omega
      go_wp2
      go_ret
      exact ⟨a, c, rfl, ho.out, HBT.out.trans (hb.out.mono (by omega))⟩
theorem L_len (P : SU) : P.L.length ≤ 256 := inK_len _ _
set_option maxHeartbeats 8000000 in
theorem Enough_any (P : SU) (hP : P.Wf) (w : World) :
    Calls Try.prog 12 #[suA P] w fun e w' => e = .returned (.int .i64 (enI P P.L.length)) ∧ Below w.heap.size w w' := by
  obtain ⟨hBT, hST⟩ := su_box P w
  have HF1 := Lib.hid (fun W => in_any P hP W)
  have HF2 := Lib.hid (fun W => enough_any P hP P.L.length (by have := L_len P; omega) W)
  obtain ⟨r, hr⟩ : ∃ r, r = enI P P.L.length := ⟨_, rfl⟩
  obtain ⟨n, hn⟩ : ∃ n, n = P.L.length := ⟨_, rfl⟩
  rw [← hr] at HF2 ⊢
  rw [← hn] at HF1 HF2
  obtain ⟨sT, hsT⟩ : ∃ s, s = tabV 276 (suV P) := ⟨_, rfl⟩
  have HSS := Lib.hid (show sT.size = 276 by rw [hsT, size_tabV])
  unfold suA at HF1 HF2 ⊢
  rw [← hsT] at hBT hST HF1 HF2 ⊢
  obtain ⟨A, hA⟩ : ∃ A, A = w.alloc (.cells sT 35) := ⟨_, rfl⟩
  have HA := Lib.hid hA
  have HAR := Lib.hid (show A.heap[w.heap.size]? = some (.cells sT 35 (0, 0)) by rw [hA]; exact heap_alloc_new w _)
  rw [← hA] at hBT
  have HBT := Lib.hid hBT
  have HAS := Lib.hid (show A.heap.size = w.heap.size + 1 by rw [hA]; simp)
  clear hr hn hsT hA hBT hST
  go_enter Try.func12, Try.ntmps12
  go_upto_region 1 with fail
  rw [← HA.out]
  refine wp_region_held_drew (S := (fun W => W.heap[w.heap.size]? = some (.cells sT 35 (0, 0)))) (by kernel_rfl) (show A.drew.heap[w.heap.size]? = _ from HAR.out) (fun hHeld => ?_)
  have HBD := Lib.hid (show Below A.heap.size A A.drew from (Below.refl _ _).drew)
  generalize A.drew = V1 at hHeld HBD ⊢
  refine wpAnyH_take (i := 0) (oi := { dst := some 3, op := Go.Op.load 35 (Go.Operand.tmp 1), type := 35, pos := "crew.go:179", after := #[], guard := none }) (v := .agg sT) rfl (by kernel_rfl) (by kernel_rfl) (by kernel_rfl) (fun _ _ _ h => h) (yieldsIf_load_row (by rfl) 35 (.tmp 1) rfl w.heap.size (by rfl) 35 sT (0, 0) _ (fun W h => h) Try.underlying35 rfl (by rw [HSS.out]; exact sizeSu)) hHeld ?rest0p1
  case' rest0p1 => try simp only [Act.put, List.setIfInBounds_toArray, List.set_cons_zero, List.set_cons_succ]
  refine wpAnyH_take (i := 1) (oi := { dst := some 4, op := Go.Op.load 35 (Go.Operand.tmp 1), type := 35, pos := "crew.go:179", after := #[], guard := none }) (v := .agg sT) rfl (by kernel_rfl) (by kernel_rfl) (by kernel_rfl) (fun _ _ _ h => h) (yieldsIf_load_row (by rfl) 35 (.tmp 1) rfl w.heap.size (by rfl) 35 sT (0, 0) _ (fun W h => h) Try.underlying35 rfl (by rw [HSS.out]; exact sizeSu)) hHeld ?rest1p2
  case' rest1p2 => try simp only [Act.put, List.setIfInBounds_toArray, List.set_cons_zero, List.set_cons_succ]
  refine wpAnyH_ready (rs := [2]) (by kernel_rfl) (by simp) ?_
  refine AllReadyH.cons (o := { dst := some 5, op := Go.Op.call { callee := Go.Callee.value (Go.Operand.func 11), args := #[Go.Operand.tmp 4], argTypes := #[35] }, type := 36, pos := "crew.go:179", after := #[{ on := 1, ground := Go.Ground.data }], guard := none }) rfl (fun K' hK => ?_) AllReadyH.nil
  rw [if_pos (by rfl)]
  go_wp2_with (go_at_call 11; go_loud ((with_reducible refine (HF1.out _).mono ?_); rintro e w3 ⟨ai, ci, rfl, ho, hb⟩; have HB3 := Lib.hid (bt HBD.out hb); clear ho hb))
  refine hK.out _ _ ((HB3.out.block _ (by have := HAS.out; omega)).trans HAR.out) (fun hHeld1 => ?_)
  clear hK K' hHeld
  have hHeld := hHeld1
  clear hHeld1
  try simp only [Act.put, List.setIfInBounds_toArray, List.set_cons_zero, List.set_cons_succ]
  refine wpAnyH_take (i := 3) (oi := { dst := some 6, op := Go.Op.call { callee := Go.Callee.builtin Go.Builtin.len, args := #[Go.Operand.tmp 5], argTypes := #[36] }, type := 3, pos := "crew.go:179", after := #[{ on := 2, ground := Go.Ground.data }], guard := none }) (v := ?v3p3) rfl (by kernel_rfl) (by kernel_rfl) (by kernel_rfl) (fun _ _ _ h => h) (Or.inl ⟨by rfl, ?hy3p3⟩) hHeld ?rest3p3
  case hy3p3 =>
    intro W' hV
    try dsimp only at hV
    go_simp
    all_goals with_reducible rfl
  case' rest3p3 => try simp only [Act.put, List.setIfInBounds_toArray, List.set_cons_zero, List.set_cons_succ]
  refine wpAnyH_ready (rs := [4]) (by kernel_rfl) (by simp) ?_
  refine AllReadyH.cons (o := { dst := some 7, op := Go.Op.call { callee := Go.Callee.value (Go.Operand.func 19), args := #[Go.Operand.tmp 3, Go.Operand.tmp 6], argTypes := #[35, 3] }, type := 39, pos := "crew.go:179", after := #[{ on := 0, ground := Go.Ground.data }, { on := 3, ground := Go.Ground.data }, { on := 2, ground := Go.Ground.chain }], guard := none }) rfl (fun K' hK => ?_) AllReadyH.nil
  rw [if_pos (by rfl)]
  go_wp2_with (go_at_call 19; go_loud ((with_reducible refine (HF2.out _).mono ?_); rintro e w4 ⟨rfl, hb⟩; have HB4 := Lib.hid (bt HB3.out hb); clear hb))
  refine hK.out _ _ ((HB4.out.block _ (by have := HAS.out; omega)).trans HAR.out) (fun hHeld1 => ?_)
  clear hK K' hHeld
  have hHeld := hHeld1
  clear hHeld1
  try simp only [Act.put, List.setIfInBounds_toArray, List.set_cons_zero, List.set_cons_succ]
  refine wpAnyH_take (i := 5) (oi := { dst := some 2, op := Go.Op.assign (Go.Operand.tmp 7), type := 39, pos := "crew.go:179", after := #[{ on := 4, ground := Go.Ground.data }, { on := 4, ground := Go.Ground.chain }, { on := 0, ground := Go.Ground.phase }, { on := 1, ground := Go.Ground.phase }, { on := 2, ground := Go.Ground.phase }, { on := 3, ground := Go.Ground.phase }, { on := 4, ground := Go.Ground.phase }], guard := none }) (v := ?v5p4) rfl (by kernel_rfl) (by kernel_rfl) (by kernel_rfl) (fun _ _ _ h => h) (Or.inl ⟨by rfl, ?hy5p4⟩) hHeld ?rest5p4
  case hy5p4 =>
    intro W' hV
    try dsimp only at hV
    go_simp
    all_goals with_reducible rfl
  case' rest5p4 => try simp only [Act.put, List.setIfInBounds_toArray, List.set_cons_zero, List.set_cons_succ]
  refine wpAnyH_done (by kernel_rfl) ?_ _
  clear hHeld
  go_wp2
  go_ret
  exact ⟨rfl, bt HBT.out HB4.out⟩
end Go.Proofs.Ytbijakhdngbjmaa
