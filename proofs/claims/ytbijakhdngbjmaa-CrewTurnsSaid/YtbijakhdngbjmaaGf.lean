/- The law's Of: a super, and the document's (Rf1; no hash). -/
import Derived.Test.YtbijakhdngbjmaaGr
import Derived.Laws.CopyOwn
namespace Go.Proofs.Ytbijakhdngbjmaa
open Go.ChangeShapes Go.WideShapes Go.ChangeAt Go.RowKit Go.Shelf
set_option linter.unusedVariables false
set_option linter.unusedSimpArgs false
set_option maxRecDepth 100000
attribute [local go_sem] Oper.semAt_some

/-- A name's eight bytes; who is in. -/
def nmL (N : List Int) : List Int := N.take 8 ++ List.replicate (8 - N.length) 0
theorem nmL_len (N : List Int) : (nmL N).length = 8 := by unfold nmL; rw [List.length_append, List.length_take, List.length_replicate]; omega
theorem nmL_B {N : List Int} (h : AllB N) : AllB (nmL N) := allB_app2 (h.takeB _) (allB_zeros _)
def innL (I : List Int) : List Bool := I.foldl (fun l i => l.set i.toNat true) (List.replicate 256 false)
theorem innL_snoc (I : List Int) (x : Int) : innL (I ++ [x]) = (innL I).set x.toNat true := by simp [innL]
theorem innL_len (I : List Int) : (innL I).length = 256 := by
  unfold innL
  have : ∀ (J : List Int) (l : List Bool), (J.foldl (fun l i => l.set i.toNat true) l).length = l.length := by
    intro J
    induction J with
    | nil => intro l; rfl
    | cons x J ih => intro l; rw [List.foldl_cons, ih, List.length_set]
  rw [this, List.length_replicate]
/-- A super of plain numbers, with a name and who is in. -/
def SU.mk2 (P : SU) (N I : List Int) : SU := { P with nm := nmL N, inn := innL I }
theorem SU.mk2_wf {P : SU} (h : P.Wf) {N I : List Int} (hN : AllB N) : (P.mk2 N I).Wf := by
  obtain ⟨h1, h2, h3, h4, h5, h6, h7, h8, h9, h10, h11, h12, h13, h14⟩ := h
  exact ⟨⟨nmL_len N, nmL_B hN⟩, h2, h3, h4, h5, h6, h7, h8, h9, innL_len I, h11, h12, h13, h14⟩
theorem suV_nm2 (P : SU) (l : List Int) {i : Nat} (hi : i < 276) : (if i < 8 then Value.int .u8 (l.getD i 0) else suV P i) = suV { P with nm := l } i := by
  unfold suV
  by_cases h : i < 8
  · rw [if_pos h, if_pos h]
  · rw [if_neg h, if_neg h, if_neg h]
theorem copy_nm {W : World} {q : Nat} {P : SU} {N : List Int} (hz : P.nm = List.replicate 8 0) (h : W.heap[q]? = some (.cells (splice (tabV 276 (suV P)).toList 0 ((N.take 8).map (Value.int .u8))).toArray 35 (0, 0))) : SuB W q { P with nm := nmL N } := by
  have hm : (N.take 8).length ≤ 8 := by rw [List.length_take]; omega
  unfold SuB Blk
  rw [h]
  unfold splice
  rw [splice_tabV (by rw [List.length_map]; omega)]
  congr 2
  refine tabV_congr fun i hi => ?_
  rw [← suV_nm2 P (nmL N) hi, List.length_map, Nat.zero_add, Nat.sub_zero]
  by_cases h8 : i < 8
  · rw [if_pos h8]
    by_cases h1 : i < (N.take 8).length
    · rw [if_pos ⟨Nat.zero_le _, h1⟩]
      unfold nmL
      rw [List.getD_eq_getElem?_getD, List.getElem?_map, List.getElem?_eq_getElem h1, List.getD_eq_getElem?_getD, List.getElem?_append_left h1, List.getElem?_eq_getElem h1]
      rfl
    · rw [if_neg (fun k => h1 k.2), suV_nm P h8, hz]
      unfold nmL
      have e1 : (List.replicate 8 (0 : Int)).getD i 0 = 0 := by
        rw [List.getD_eq_getElem?_getD, List.getElem?_replicate]
        split <;> rfl
      have e2 : (N.take 8 ++ List.replicate (8 - N.length) (0 : Int)).getD i 0 = 0 := by
        rw [List.getD_eq_getElem?_getD, List.getElem?_append_right (by omega), List.getElem?_replicate]
        split <;> rfl
      rw [e1, e2]
  · rw [if_neg h8, if_neg (fun k => h8 (by omega))]
theorem suV_in1 (P : SU) (x : Nat) (hl : P.inn.length = 256) (hx : x < 256) {i : Nat} (hi : i < 276) : (if i = 16 + x then Value.bool true else suV P i) = suV { P with inn := P.inn.set x true } i := by
  rw [← suV_inn P (P.inn.set x true) (by rw [List.length_set]; exact hl) hi]
  have hsl : ((P.inn.set x true).map Value.bool).length = 256 := by rw [List.length_map, List.length_set]; exact hl
  rw [hsl]
  by_cases h : 16 ≤ i ∧ i < 16 + 256
  · rw [if_pos h, List.getD_eq_getElem?_getD, List.getElem?_map]
    by_cases e : i = 16 + x
    · rw [if_pos e]
      subst e
      rw [show 16 + x - 16 = x by omega, List.getElem?_set_self (by omega)]
      rfl
    · rw [if_neg e, List.getElem?_set_ne (by omega)]
      have := suV_in P (j := i - 16) (by omega)
      rw [show 16 + (i - 16) = i by omega] at this
      rw [this, List.getD_eq_getElem?_getD, List.getElem?_eq_getElem (by omega)]
      rfl
  · rw [if_neg h, if_neg (by omega)]
theorem built_P (p n t m c bl bo ep rf sc tg rs : Int) : Try.prog.built 35 [(1, .int .u8 p), (2, .int .u8 n), (3, .int .u8 t), (4, .int .u8 m), (5, .int .u8 c), (6, .int .u32 bl), (7, .int .u32 bo), (8, .int .u32 ep), (10, .int .u32 rf), (11, .int .u32 sc), (12, .int .u8 tg), (13, .int .u32 rs)] = some (tabV 276 (suV ⟨List.replicate 8 0, p, n, t, m, c, bl, bo, ep, List.replicate 256 false, rf, sc, tg, rs⟩)) := by kernel_rfl
theorem built_P2 (P : SU) (hz : P.nm = List.replicate 8 0 ∧ P.inn = List.replicate 256 false) : Try.prog.built 35 [(1, .int .u8 P.p), (2, .int .u8 P.n), (3, .int .u8 P.t), (4, .int .u8 P.m), (5, .int .u8 P.c), (6, .int .u32 P.bl), (7, .int .u32 P.bo), (8, .int .u32 P.ep), (10, .int .u32 P.rf), (11, .int .u32 P.sc), (12, .int .u8 P.tg), (13, .int .u32 P.rs)] = some (tabV 276 (suV P)) := by
  rw [built_P]
  cases P
  obtain ⟨h1, h2⟩ := hz
  simp only at h1 h2
  rw [h1, h2]
theorem results_of (tmps : Array Value) (w : World) (g h : Nat) (cs ds : Array Value) (h2 : tmps.getD 2 undef = .pointer (some ⟨g, 0, none⟩)) (h3 : tmps.getD 3 undef = .pointer (some ⟨h, 0, none⟩)) (hg : w.heap[g]? = some (.cells cs 35 (0, 0))) (hh : w.heap[h]? = some (.cells ds 55 (0, 0)))
    (hs : (Try.prog.info? 35).map (·.size) = some cs.size) (hd : ds.size = 14) :
    (results Try.f16 tmps).run Try.prog w = .ok (.tuple #[.agg cs, .agg ds]) w := by
  have h2' : tmps[2]?.getD undef = .pointer (some ⟨g, 0, none⟩) := by simpa using h2
  have h3' : tmps[3]?.getD undef = .pointer (some ⟨h, 0, none⟩) := by simpa using h3
  have hr := run_loadVar_row (P := Try.prog) w g 35 35 cs (0, 0) _ hg Try.underlying35 rfl hs
  have hr2 := run_loadVar_row (P := Try.prog) w h 55 55 ds (0, 0) _ hh Try.underlying55 rfl (by rw [hd]; exact sizeRu)
  simp [results, Try.f16, h2', h3', asAddr, hr, hr2]
set_option maxHeartbeats 16000000 in
theorem of_new (P : SU) (hz : P.nm = List.replicate 8 0 ∧ P.inn = List.replicate 256 false) (hP : P.Wf) (aN aI : Option Addr) (lN cN lI cI : Nat) (N I : List Int) (w : World) (hN : Arg8c w aN lN cN N) (hI : Arg8c w aI lI cI I) (hlI : lI ≤ 20) :
    Calls Try.prog 16 #[.agg #[.slice aN lN cN, .int .u8 P.p, .int .u8 P.n, .int .u8 P.t, .int .u8 P.m, .int .u8 P.c, .int .u32 P.bl, .int .u32 P.bo, .int .u32 P.ep, .slice aI lI cI, .int .u32 P.rf, .int .u32 P.sc, .int .u8 P.tg, .int .u32 P.rs]] w fun e w' => ∃ (cY : Array Value) (a : Option Addr) (c : Nat), e = .returned (.tuple #[suA (P.mk2 N I), .agg cY]) ∧ (cY.size = 14 ∧ cY.all (·.oneCell') = true) ∧ .agg cY = ruA (P.mk2 N I) (.slice a (P.mk2 N I).L.length c) ∧ (IA w' a (P.mk2 N I).L.length c (P.mk2 N I).L ∧ ∀ b o, a = some ⟨b, o, none⟩ → w.heap.size ≤ b) ∧ Below w.heap.size w w' := by
  obtain ⟨P2, hP2⟩ : ∃ Q, Q = P.mk2 N I := ⟨_, rfl⟩
  rw [← hP2]
  have HP2 := Lib.hid hP2
  clear hP2
  have hBP := built_P2 P hz
  obtain ⟨hz0, hi0⟩ := zero_of_info infoSu
  clear hi0
  obtain ⟨c0, hc0⟩ : ∃ s, s = tabV 276 (suV suZ) := ⟨_, rfl⟩
  obtain ⟨cP, hcP⟩ : ∃ s, s = tabV 276 (suV P) := ⟨_, rfl⟩
  rw [← hc0] at hz0
  rw [← hcP] at hBP
  have HBP := Lib.hid hBP
  have HCP := Lib.hid hcP
  obtain ⟨A, hA⟩ : ∃ A, A = ((w.alloc (.cells #[.slice aN lN cN, .int .u8 P.p, .int .u8 P.n, .int .u8 P.t, .int .u8 P.m, .int .u8 P.c, .int .u32 P.bl, .int .u32 P.bo, .int .u32 P.ep, .slice aI lI cI, .int .u32 P.rf, .int .u32 P.sc, .int .u8 P.tg, .int .u32 P.rs] 27)).alloc (.cells c0 35)).alloc (.cells #[.string { data := #[] }, .int .i64 0, .int .i64 0, .int .i64 0, .int .i64 0, .int .i64 0, .int .u64 0, .int .u64 0, .int .u64 0, .slice none 0 0, .int .u64 0, .int .u64 0, .int .i64 0, .int .u64 0] 55) := ⟨_, rfl⟩
  have hwA : Below w.heap.size w A := by rw [hA]; exact (((Below.refl _ _).alloc (Nat.le_refl _) _).alloc (by simp) _).alloc (by simp; omega) _
  have hAs : A.heap.size = w.heap.size + 3 := by rw [hA]; simp
  have r0 : A.heap[w.heap.size]? = some (.cells #[.slice aN lN cN, .int .u8 P.p, .int .u8 P.n, .int .u8 P.t, .int .u8 P.m, .int .u8 P.c, .int .u32 P.bl, .int .u32 P.bo, .int .u32 P.ep, .slice aI lI cI, .int .u32 P.rf, .int .u32 P.sc, .int .u8 P.tg, .int .u32 P.rs] 27 (0, 0)) := by
    rw [hA, heap_alloc_old _ _ (by simp; omega), heap_alloc_old _ _ (by simp)]; exact heap_alloc_new w _
  have r1 : A.heap[w.heap.size + 1]? = some (.cells c0 35 (0, 0)) := by
    have := heap_alloc_new (w.alloc (.cells #[.slice aN lN cN, .int .u8 P.p, .int .u8 P.n, .int .u8 P.t, .int .u8 P.m, .int .u8 P.c, .int .u32 P.bl, .int .u32 P.bo, .int .u32 P.ep, .slice aI lI cI, .int .u32 P.rf, .int .u32 P.sc, .int .u8 P.tg, .int .u32 P.rs] 27)) (.cells c0 35)
    rw [size_alloc1] at this
    rw [hA, heap_alloc_old _ _ (by simp)]; exact this
  have r2 : A.heap[w.heap.size + 2]? = some (.cells #[.string { data := #[] }, .int .i64 0, .int .i64 0, .int .i64 0, .int .i64 0, .int .i64 0, .int .u64 0, .int .u64 0, .int .u64 0, .slice none 0 0, .int .u64 0, .int .u64 0, .int .i64 0, .int .u64 0] 55 (0, 0)) := by
    have := heap_alloc_new ((w.alloc (.cells #[.slice aN lN cN, .int .u8 P.p, .int .u8 P.n, .int .u8 P.t, .int .u8 P.m, .int .u8 P.c, .int .u32 P.bl, .int .u32 P.bo, .int .u32 P.ep, .slice aI lI cI, .int .u32 P.rf, .int .u32 P.sc, .int .u8 P.tg, .int .u32 P.rs] 27)).alloc (.cells c0 35)) (.cells #[.string { data := #[] }, .int .i64 0, .int .i64 0, .int .i64 0, .int .i64 0, .int .i64 0, .int .u64 0, .int .u64 0, .int .u64 0, .slice none 0 0, .int .u64 0, .int .u64 0, .int .i64 0, .int .u64 0] 55)
    rw [size_alloc1, size_alloc1] at this
    rw [hA]; exact this
  obtain ⟨x0, x1, x2, x3, x4, x5, x6, x7, x8, x9, xa, xb, xc, xd⟩ := cell14 r0
  rw [hA] at x0 x1 x2 x3 x4 x5 x6 x7 x8 x9 xa xb xc xd
  have HA := Lib.hid (And.intro hA (And.intro hwA (And.intro hAs (And.intro r0 (And.intro r1 r2)))))
  have HSZ := Lib.hid (show (Try.prog.info? 35).map (·.size) = some cP.size ∧ cP.size = 276 ∧ c0.size = 276 by rw [hcP, hc0, size_tabV, size_tabV]; exact ⟨sizeSu, rfl, rfl⟩)
  have HON := Lib.hid (show cP.all (·.oneCell') = true by rw [hcP]; exact tabV_one (suV_one P))
  have HNN := Lib.hid hN
  have HII := Lib.hid hI
  have HZZ := Lib.hid hz
  have HPW := Lib.hid hP
  clear hz hP hN hI hBP hc0 hcP r0 r1 r2 hA hwA hAs
  go_enter Try.func16, Try.ntmps16
  go_upto_region 2 with (first
    | ((with_reducible show wpList _ _ _ (⟨some 31, _, _, _, _, _⟩ :: _) _ _); go_loud (refine wpList_buildTo rfl 35 _ rfl (some 31) rfl cP (by rw [Array.toList_map]; exact HBP.out) ?_))
    | ((with_reducible show wpList _ _ _ (⟨none, Op.store 35 _ _, _, _, _, _⟩ :: _) _ _); go_loud (rw [← HA.out.1]; refine wpList_store_row rfl 35 (.tmp 4) (.tmp 31) rfl (w.heap.size + 3) cP rfl rfl 35 c0 (by rw [← HA.out.2.2.1]; exact heap_alloc_new A _) HSZ.out.1 (by rw [HSZ.out.2.1, HSZ.out.2.2]) HON.out ?_)))
  have HV1 := Lib.hid (show Below w.heap.size w ((A.alloc (.cells c0 35)).setRow (w.heap.size + 3) cP) from below_setRow (HA.out.2.1.alloc HA.out.2.1.size _) (by omega) _)
  have HQ1 := Lib.hid (show SuB ((A.alloc (.cells c0 35)).setRow (w.heap.size + 3) cP) (w.heap.size + 3) P by unfold SuB Blk; rw [← HCP.out]; exact setRow_heap _ _ _ _ _ _ (by rw [← HA.out.2.2.1]; exact heap_alloc_new A (.cells c0 35)))
  have HOLD := Lib.hid (show ∀ k, k < w.heap.size + 3 → ((A.alloc (.cells c0 35)).setRow (w.heap.size + 3) cP).heap[k]? = A.heap[k]? from fun k hk => by rw [setRow_other _ _ _ _ (by omega), heap_alloc_old _ _ (by rw [HA.out.2.2.1]; omega)])
  clear x0 x1 x2 x3 x4 x5 x6 x7 x8 x9 xa xb xc xd
  generalize (A.alloc (.cells c0 35)).setRow (w.heap.size + 3) cP = V1 at HV1 HQ1 HOLD ⊢
  obtain ⟨y0, -⟩ := cell14 ((HOLD.out w.heap.size (by omega)).trans HA.out.2.2.2.1)
  have hsl8 := fun W => slice8 W (w.heap.size + 3) 0
  go_still_tail 4, (by kernel_rfl)
  change wpList _ _ _ _ _ V1.drew
  have HD1 := Lib.hid (show Below V1.heap.size V1 V1.drew from (Below.refl _ _).drew)
  have HD2 := Lib.hid (show V1.drew.heap = V1.heap from rfl)
  clear y0 hsl8
  generalize V1.drew = V2 at HD1 HD2 ⊢
  have HV2 := Lib.hid (show Below w.heap.size w V2 from HV1.out.trans (HD1.out.mono HV1.out.size))
  have K1 := Lib.hid (show V2.heap[w.heap.size + 3]? = some (.cells (tabV 276 (suV P)).toList.toArray 35 (0, 0)) by rw [HD2.out, Array.toArray_toList]; exact HQ1.out)
  have K2 := Lib.hid (show ((N.take 8).map (Value.int .u8)).length = Nat.min lN 8 by rw [List.length_map, List.length_take, HNN.out.1.1]; exact Nat.min_comm _ _)
  have K3 := Lib.hid (show 0 < ((N.take 8).map (Value.int .u8)).length → ∃ ad, aN = some ad ∧ ∀ j v, ((N.take 8).map (Value.int .u8))[j]? = some v → V2.cell? (ad.add j) = some v from fun h0 => ((HNN.out.1.2.2.1.take 8).below HV2.out).cells h0)
  have K4 := Lib.hid (show 0 + ((N.take 8).map (Value.int .u8)).length ≤ (tabV 276 (suV P)).toList.length by have e : (tabV 276 (suV P)).toList.length = 276 := (by rw [Array.length_toList, size_tabV]); rw [List.length_map, List.length_take, e]; omega)
  go_upto_region 3 with ((with_reducible show wpList _ _ _ (⟨some 36, _, _, _, _, _⟩ :: _) _ _); go_loud (refine wpList_copy_splice (o := ⟨some 36, _, _, _, _, _⟩) rfl (.tmp 33) (.tmp 35) 24 24 rfl 5 Try.underlying24 size_u8 (some ⟨w.heap.size + 3, 0, none⟩) aN 8 8 lN cN rfl rfl (w.heap.size + 3) 0 (tabV 276 (suV P)).toList 35 K1.out ((N.take 8).map (Value.int .u8)) K2.out (fun h0 => ⟨rfl, K3.out h0⟩) K4.out (ints_oneCell _ _) (w.heap.size + 3) V2 (Below.refl _ _) (Nat.le_refl _) ?_; intro V3 hg hb; have HQ3 := Lib.hid (copy_nm HZZ.out.1 hg.out); have HB3 := Lib.hid hb; clear hg hb))
  have HO3 := Lib.hid (show ∀ k, k < w.heap.size + 3 → V3.heap[k]? = A.heap[k]? from fun k hk => by rw [HB3.out.block k hk, HD2.out]; exact HOLD.out k hk)
  obtain ⟨-, -, -, -, -, -, -, -, -, y9, -⟩ := cell14 ((HO3.out w.heap.size (by omega)).trans HA.out.2.2.2.1)
  have HV3 := Lib.hid (show Below w.heap.size w V3 from HV2.out.trans (HB3.out.mono (by omega)))
  go_wp2_with fail
  clear y9
  go_loopw [40] (fun iv wr => ∃ j : Nat, j ≤ lI ∧ iv = .int .i64 (j : Nat) ∧ Hid (SuB wr (w.heap.size + 3) (P.mk2 N (I.take j))) ∧ Hid (Below (w.heap.size + 3) V3 wr)) (fun iv _ => lI - (intOf iv).toNat)
  case atStart =>
    refine ⟨0, Nat.zero_le _, rfl, Lib.hid ?_, Lib.hid (Below.refl _ _)⟩
    have e : P.mk2 N (I.take 0) = { P with nm := nmL N } := by unfold SU.mk2; rw [List.take_zero, show innL [] = P.inn from HZZ.out.2.symm]
    rw [e]; exact HQ3.out
  case round =>
    obtain ⟨j, hj, rfl, hq, hb⟩ := hrel
    rename World => wr
    by_cases hlt : j < lI
    · have hjl : j < I.length := by rw [HII.out.1.1]; exact hlt
      obtain ⟨bI, oI, rfl, hBI, hcX⟩ := (HII.out.1.2.2.1.below (HV3.out.trans (hb.out.mono (by omega)))).at_ (k := j) hjl
      have hXb := allB_getD HII.out.1.2.1 j
      obtain ⟨x, hx⟩ := Int.eq_ofNat_of_zero_le hXb.1
      rw [hx] at hcX hXb
      have hx2 : x < 256 := by omega
      have HTK := Lib.hid (show I.take (j + 1) = I.take j ++ [(x : Int)] by rw [take_snoc_getD hjl, hx])
      have hci := hq.out.inn hx2
      have hfr := Blk.free hq.out (16 + x)
      obtain ⟨v, hv⟩ : ∃ v, v = (P.mk2 N (I.take j)).inn.getD x false := ⟨_, rfl⟩
      rw [← hv] at hci
      have qj : (j : Int) < (lI : Int) := by omega
      have qx : (x : Int) < 256 := by omega
      have HX2 := Lib.hid hx2
      have HLT := Lib.hid hlt
      clear hv hx hjl hx2 hlt hXb hBI
      go_wp2
      go_roundw
      case rel =>
        refine ⟨j + 1, HLT.out, by go_num, Lib.hid ?_, Lib.hid (hb.out.setCell (p := ⟨w.heap.size + 3, 16 + x, none⟩) (Nat.le_refl _) _)⟩
        have h1 := (Blk.set hq.out (i := 16 + x) (by have := HX2.out; omega) (.bool true)).congr (fun i hi => suV_in1 (P.mk2 N (I.take j)) x (innL_len _) HX2.out hi)
        have e : ({ P.mk2 N (I.take j) with inn := (P.mk2 N (I.take j)).inn.set x true } : SU) = P.mk2 N (I.take (j + 1)) := by
          unfold SU.mk2; rw [HTK.out, innL_snoc, Int.toNat_natCast]
        rw [e] at h1
        exact h1
      case measure => simp [intOf]; have := HLT.out; omega
    · obtain rfl : j = lI := by omega
      have htk : I.take j = I := List.take_of_length_le (by rw [HII.out.1.1]; exact Nat.le_refl _)
      rw [htk] at hq
      rw [← HP2.out] at hq
      have hW2 : P2.Wf := by rw [HP2.out]; exact SU.mk2_wf HPW.out HNN.out.1.2.1
      obtain ⟨s1, hs1⟩ : ∃ s, s = tabV 276 (suV P2) := ⟨_, rfl⟩
      have hRe := fun W => ref_any P2 hW2 W
      unfold suA at hRe
      rw [← hs1] at hRe
      have HRE := Lib.hid (show ∀ W, Calls Try.prog 21 #[.agg s1] W fun e w' => (∃ (cY : Array Value) (aY : Option Addr) (kY : Nat), e = .returned (.agg cY) ∧ (cY.size = 14 ∧ cY.all (·.oneCell') = true) ∧ .agg cY = ruA P2 (.slice aY P2.L.length kY) ∧ IA w' aY P2.L.length kY P2.L ∧ (∀ b o, aY = some ⟨b, o, none⟩ → W.heap.size ≤ b)) ∧ Below W.heap.size W w' from fun W => (hRe W).mono fun e w' h => by
        obtain ⟨aa, cc, rfl, hia, hb, hf⟩ := h
        exact ⟨⟨_, aa, cc, rfl, ⟨rfl, by simp [Value.oneCell']⟩, rfl, hia, hf⟩, hb⟩)
      have HQW := Lib.hid (show wr.heap[w.heap.size + 3]? = some (.cells s1 35 (0, 0)) by rw [hs1]; exact hq.out)
      have HS1 := Lib.hid (show (Try.prog.info? 35).map (·.size) = some s1.size ∧ s1.size = 276 by rw [hs1, size_tabV]; exact ⟨sizeSu, rfl⟩)
      have HO1 := Lib.hid (show s1.all (·.oneCell') = true by rw [hs1]; exact tabV_one (suV_one P2))
      have HSUA := Lib.hid (show suA P2 = .agg s1 by rw [hs1]; rfl)
      have HC2 := Lib.hid (show wr.heap[w.heap.size + 1]? = some (.cells c0 35 (0, 0)) from by rw [hb.out.block _ (by omega)]; exact (HO3.out _ (by omega)).trans HA.out.2.2.2.2.1)
      have HC3 := Lib.hid (show wr.heap[w.heap.size + 2]? = some (.cells #[.string { data := #[] }, .int .i64 0, .int .i64 0, .int .i64 0, .int .i64 0, .int .i64 0, .int .u64 0, .int .u64 0, .int .u64 0, .slice none 0 0, .int .u64 0, .int .u64 0, .int .i64 0, .int .u64 0] 55 (0, 0)) from by rw [hb.out.block _ (by omega)]; exact (HO3.out _ (by omega)).trans HA.out.2.2.2.2.2)
      have HBW := Lib.hid (show Below w.heap.size w wr from HV3.out.trans (hb.out.mono (by omega)))
      have HLW := Lib.hid (show w.heap.size + 3 < wr.heap.size from hq.out.lt)
      clear hW2 hs1 hRe hq hb htk hlt
      go_upto_region 8 with fail
      refine wp_region_held_drew (S := fun W => W.heap[w.heap.size + 3]? = some (.cells s1 35 (0, 0))) (by kernel_rfl) (show wr.heap[w.heap.size + 3]? = _ from HQW.out) (fun hHeld => ?_)
      generalize hvd : wr.drew = v0 at hHeld ⊢
      have HBD0 := Lib.hid (show Below wr.heap.size wr v0 by rw [← hvd]; exact (Below.refl _ _).drew)
      clear hvd
      refine wpAnyH_take (i := 0) (oi := { dst := some 48, op := Go.Op.load 35 (Go.Operand.tmp 4), type := 35, pos := "law.go:110", after := #[], guard := none }) (v := .agg s1) rfl (by kernel_rfl) (by kernel_rfl) (by kernel_rfl) (fun _ _ _ h => h) (yieldsIf_load_row (by rfl) 35 (.tmp 4) rfl (w.heap.size + 3) (by rfl) 35 s1 (0, 0) _ (fun W h => h) Try.underlying35 rfl HS1.out.1) hHeld ?rest0o1
      case' rest0o1 => try simp only [Act.put, List.setIfInBounds_toArray, List.set_cons_zero, List.set_cons_succ]
      refine wpAnyH_take (i := 1) (oi := { dst := some 49, op := Go.Op.load 35 (Go.Operand.tmp 4), type := 35, pos := "law.go:110", after := #[], guard := none }) (v := .agg s1) rfl (by kernel_rfl) (by kernel_rfl) (by kernel_rfl) (fun _ _ _ h => h) (yieldsIf_load_row (by rfl) 35 (.tmp 4) rfl (w.heap.size + 3) (by rfl) 35 s1 (0, 0) _ (fun W h => h) Try.underlying35 rfl HS1.out.1) hHeld ?rest1o2
      case' rest1o2 => try simp only [Act.put, List.setIfInBounds_toArray, List.set_cons_zero, List.set_cons_succ]
      refine wpAnyH_ready (rs := [2]) (by kernel_rfl) (by simp) ?_
      refine AllReadyH.cons (o := { dst := some 50, op := Go.Op.call { callee := Go.Callee.value (Go.Operand.func 21), args := #[Go.Operand.tmp 49], argTypes := #[35] }, type := 55, pos := "law.go:110", after := #[{ on := 1, ground := Go.Ground.data }], guard := none }) rfl (fun K' hK => ?_) AllReadyH.nil
      rw [if_pos (by rfl)]
      go_simp
      go_wp2_with (go_at_call 21; go_loud ((with_reducible refine (HRE.out v0).mono ?_); rintro e v1 ⟨⟨cY, aY, kY, rfl, h14, hY⟩, hb⟩; have HYY := Lib.hid hY; have HY14 := Lib.hid h14; clear hY h14))
      have HBD1 := Lib.hid (bt HBD0.out hb)
      refine hK.out _ _ ((hb.block _ (Array.getElem?_eq_some_iff.1 hHeld).1).trans hHeld) (fun hHeld1 => ?_)
      clear hK K' hHeld hb
      have hHeld := hHeld1
      clear hHeld1
      try simp only [Act.put, List.setIfInBounds_toArray, List.set_cons_zero, List.set_cons_succ]
      refine wpAnyH_ready (rs := [3]) (by kernel_rfl) (by simp) ?_
      refine AllReadyH.cons (o := { dst := none, op := Go.Op.store 35 (Go.Operand.tmp 2) (Go.Operand.tmp 48), type := 0, pos := "law.go:110", after := #[{ on := 0, ground := Go.Ground.data }, { on := 2, ground := Go.Ground.chain }, { on := 0, ground := Go.Ground.phase }, { on := 1, ground := Go.Ground.textOnly Go.Departure.lateStores }, { on := 2, ground := Go.Ground.textOnly Go.Departure.lateStoresUnsure }], guard := none }) rfl (fun K' hK => ?_) AllReadyH.nil
      rw [if_pos (by rfl)]
      refine wp_store_row 35 (.tmp 2) (.tmp 48) rfl (w.heap.size + 1) s1 rfl rfl 35 c0 ((HBD1.out.block _ (by have := HLW.out; omega)).trans HC2.out) HS1.out.1 (by rw [HS1.out.2, HSZ.out.2.2]) HO1.out ?_
      refine hK.out _ _ ((setRow_other _ _ _ _ (by omega)).trans hHeld) (fun hHeld1 => ?_)
      clear hK K' hHeld
      have hHeld := hHeld1
      clear hHeld1
      try simp only [Act.put, List.setIfInBounds_toArray, List.set_cons_zero, List.set_cons_succ]
      refine wpAnyH_ready (rs := [4]) (by kernel_rfl) (by simp) ?_
      refine AllReadyH.cons (o := { dst := none, op := Go.Op.store 55 (Go.Operand.tmp 3) (Go.Operand.tmp 50), type := 0, pos := "law.go:110", after := #[{ on := 2, ground := Go.Ground.data }, { on := 3, ground := Go.Ground.chain }, { on := 0, ground := Go.Ground.phase }, { on := 1, ground := Go.Ground.phase }, { on := 2, ground := Go.Ground.phase }, { on := 3, ground := Go.Ground.phase }], guard := none }) rfl (fun K' hK => ?_) AllReadyH.nil
      rw [if_pos (by rfl)]
      refine wp_store_row 55 (.tmp 3) (.tmp 50) rfl (w.heap.size + 2) cY rfl rfl 55 #[.string { data := #[] }, .int .i64 0, .int .i64 0, .int .i64 0, .int .i64 0, .int .i64 0, .int .u64 0, .int .u64 0, .int .u64 0, .slice none 0 0, .int .u64 0, .int .u64 0, .int .i64 0, .int .u64 0] (((setRow_other _ _ _ _ (by omega)).trans (HBD1.out.block _ (by have := HLW.out; omega))).trans HC3.out) (by rw [HY14.out.1]; exact sizeRu) HY14.out.1.symm HY14.out.2 ?_
      refine hK.out _ _ ((setRow_other _ _ _ _ (by omega)).trans hHeld) (fun hHeld1 => ?_)
      clear hK K' hHeld
      have hHeld := hHeld1
      clear hHeld1
      try simp only [Act.put, List.setIfInBounds_toArray, List.set_cons_zero, List.set_cons_succ]
      refine wpAnyH_done (by kernel_rfl) ?_ _
      clear hHeld
      go_wp2
      have h1 := HLW.out
      refine bodyPost_ret (v := .tuple #[.agg s1, .agg cY]) (results_of _ _ (w.heap.size + 1) (w.heap.size + 2) s1 cY rfl rfl ?_ ?_ HS1.out.1 HY14.out.1) rfl ⟨cY, aY, kY, by rw [HSUA.out], HY14.out, HYY.out.1, ?_, ?_⟩
      · rw [setRow_other _ _ _ _ (by omega)]
        exact setRow_heap _ _ _ _ _ _ ((HBD1.out.block _ (by omega)).trans HC2.out)
      · exact setRow_heap _ _ _ _ _ _ (((setRow_other _ _ _ _ (by omega)).trans (HBD1.out.block _ (by omega))).trans HC3.out)
      · refine ⟨HYY.out.2.1.onB fun hp b o e => ?_, fun b o e => ?_⟩
        · have h3 := HYY.out.2.2 b o e
          have h4 := HBD0.out.size
          rw [setRow_other _ _ _ _ (by omega), setRow_other _ _ _ _ (by omega)]
        · have h3 := HYY.out.2.2 b o e
          have h4 := HBD0.out.size
          omega
      · exact below_setRow (below_setRow (bt HBW.out HBD1.out) (by omega) _) (by omega) _
theorem of_any (P : SU) (hz : P.nm = List.replicate 8 0 ∧ P.inn = List.replicate 256 false) (hP : P.Wf) (aN aI : Option Addr) (lN cN lI cI : Nat) (N I : List Int) (w : World) (hN : Arg8c w aN lN cN N) (hI : Arg8c w aI lI cI I) (hlI : lI ≤ 20) :
    Calls Try.prog 16 #[.agg #[.slice aN lN cN, .int .u8 P.p, .int .u8 P.n, .int .u8 P.t, .int .u8 P.m, .int .u8 P.c, .int .u32 P.bl, .int .u32 P.bo, .int .u32 P.ep, .slice aI lI cI, .int .u32 P.rf, .int .u32 P.sc, .int .u8 P.tg, .int .u32 P.rs]] w fun e w' => ∃ (cY : Array Value) (a : Option Addr) (c : Nat), e = .returned (.tuple #[suA (P.mk2 N I), .agg cY]) ∧ (cY.size = 14 ∧ cY.all (·.oneCell') = true) ∧ .agg cY = ruA (P.mk2 N I) (.slice a (P.mk2 N I).L.length c) ∧ IA w' a (P.mk2 N I).L.length c (P.mk2 N I).L ∧ Below w.heap.size w w' :=
  (of_new P hz hP aN aI lN cN lI cI N I w hN hI hlI).mono fun e w' h => by
    obtain ⟨cY, a, c, h1, h2, h3, h4, h5⟩ := h
    exact ⟨cY, a, c, h1, h2, h3, h4.1, h5⟩
end Go.Proofs.Ytbijakhdngbjmaa
