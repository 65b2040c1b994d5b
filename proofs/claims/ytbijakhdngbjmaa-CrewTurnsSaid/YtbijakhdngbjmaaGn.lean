/- The law's super, same; rows of one and two supers. -/
import Derived.Test.YtbijakhdngbjmaaGd
import Derived.Test.YtbijakhdngbjmaaGf
namespace Go.Proofs.Ytbijakhdngbjmaa
open Go.ChangeShapes Go.WideShapes Go.ChangeAt Go.RowKit Go.Shelf Go.Maps
set_option linter.unusedVariables false
set_option linter.unusedSimpArgs false
set_option maxRecDepth 100000
attribute [local go_sem] Oper.semAt_some

/-- The law's super. -/
def supP (n p bo : Int) (I : List Int) : SU := ⟨List.replicate 8 0, p, n, 2, 0, 0, 4, bo, 0, innL I, 0, 0, 0, 0⟩
theorem supP_wf {n p bo : Int} (hn : byteI n) (hp : byteI p) (hb : u32I bo) (I : List Int) : (supP n p bo I).Wf :=
  ⟨⟨rfl, fun x hx => by rw [(List.mem_replicate.1 hx).2]; omega⟩, hp, hn, ⟨by show (0 : Int) ≤ 2; omega, by show (2 : Int) < 256; omega⟩, byte0, byte0, ⟨by show (0 : Int) ≤ 4; omega, by show (4 : Int) < 4294967296; omega⟩, hb, u320, innL_len I, u320, u320, byte0, u320⟩
theorem built_sup (n p bo : Int) : Try.prog.built 35 [(1, .int .u8 p), (2, .int .u8 n), (3, .int .u8 2), (6, .int .u32 4), (7, .int .u32 bo)] = some (tabV 276 (suV ⟨List.replicate 8 0, p, n, 2, 0, 0, 4, bo, 0, List.replicate 256 false, 0, 0, 0, 0⟩)) := by kernel_rfl
theorem results_super (tmps : Array Value) (w : World) (g : Nat) (cs : Array Value) (h2 : tmps.getD 8 undef = .pointer (some ⟨g, 0, none⟩)) (hg : w.heap[g]? = some (.cells cs 35 (0, 0))) (hs : cs.size = 276) :
    (results Try.f15 tmps).run Try.prog w = .ok (.agg cs) w := by
  have h2' : tmps[8]?.getD undef = .pointer (some ⟨g, 0, none⟩) := by simpa using h2
  have hr := run_loadVar_row (P := Try.prog) w g 35 35 cs (0, 0) _ hg Try.underlying35 rfl (by rw [hs]; exact sizeSu)
  simp [results, Try.f15, h2', asAddr, hr]
theorem suB_in0 {w : World} {q : Nat} {P : SU} (h : SuB w q P) (hl : P.inn.length = 256) {x : Nat} (hx : x < 256) : SuB (w.setCell ⟨q, 16 + x, none⟩ (.bool true)) q { P with inn := P.inn.set x true } := (Blk.set h (i := 16 + x) (by omega) _).congr (fun i hi => suV_in1 P x hl hx hi)
set_option maxHeartbeats 8000000 in
theorem super_any (n p bo : Int) (a : Option Addr) (L c : Nat) (I : List Int) (w : World) (hI : IA w a L c I) (hIb : ∀ x ∈ I, 0 ≤ x ∧ x < 256) :
    Calls Try.prog 15 #[.int .u8 n, .int .u8 p, .int .u32 bo, .slice a L c] w fun e w' => e = .returned (suA (supP n p bo I)) ∧ Below w.heap.size w w' := by
  obtain ⟨hb1, hb2⟩ := hI.bd
  have HIL := Lib.hid (show I.length = L from hI.1)
  have HI := Lib.hid hI
  have HIB := Lib.hid hIb
  obtain ⟨hz0, hi0⟩ := zero_of_info infoSu
  clear hi0
  obtain ⟨c0, hc0⟩ : ∃ s, s = tabV 276 (suV suZ) := ⟨_, rfl⟩
  rw [← hc0] at hz0
  have HC0 := Lib.hid (show c0.size = 276 by rw [hc0, size_tabV])
  have hPB := built_sup n p bo
  obtain ⟨cP, hcP⟩ : ∃ s, s = tabV 276 (suV ⟨List.replicate 8 0, p, n, 2, 0, 0, 4, bo, 0, List.replicate 256 false, 0, 0, 0, 0⟩) := ⟨_, rfl⟩
  rw [← hcP] at hPB
  have HPB := Lib.hid hPB
  have HCP := Lib.hid (show cP.size = 276 ∧ cP.all (·.oneCell') = true by rw [hcP]; exact ⟨size_tabV _ _, tabV_one (suV_one _)⟩)
  obtain ⟨A, hA⟩ : ∃ A, A = w.alloc (.cells c0 35) := ⟨_, rfl⟩
  have HA := Lib.hid hA
  have HAS := Lib.hid (show A.heap.size = w.heap.size + 1 by rw [hA]; simp)
  have HBA := Lib.hid (show Below w.heap.size w A by rw [hA]; exact (Below.refl _ _).alloc (Nat.le_refl _) _)
  have HZA := Lib.hid (show A.heap[w.heap.size]? = some (.cells c0 35 (0, 0)) by rw [hA]; exact heap_alloc_new w _)
  have HS0 := Lib.hid (show SuB (A.alloc (.cells cP 35)) A.heap.size (supP n p bo []) by unfold SuB Blk; rw [hcP]; exact heap_alloc_new A _)
  clear hI hIb hc0 hPB hcP hA
  go_enter Try.func15, Try.ntmps15
  go_upto_region 1 with fail
  rw [← HA.out]
  go_upto_region 2 with (first
    | ((with_reducible show wpList _ _ _ (⟨some 15, _, _, _, _, _⟩ :: _) _ _); go_loud (refine wpList_buildTo rfl 35 _ rfl (some 15) rfl cP (by rw [Array.toList_map]; exact HPB.out) ?_))
    | ((with_reducible show wpList _ _ _ (⟨none, Op.store 35 _ _, _, _, _, _⟩ :: _) _ _); go_loud (refine wpList_store_row rfl 35 (.tmp 9) (.tmp 15) rfl A.heap.size cP rfl rfl 35 c0 (heap_alloc_new _ _) (by rw [HCP.out.1]; exact sizeSu) (by rw [HCP.out.1, HC0.out]) HCP.out.2 ?_; rw [alloc_setRow])))
  have HB1 := Lib.hid (show Below (w.heap.size + 1) A (A.alloc (.cells cP 35)) from (Below.refl _ _).alloc (by have := HAS.out; omega) _)
  have hq := HAS.out
  rw [hq] at HS0 ⊢
  clear hq
  generalize A.alloc (.cells cP 35) = V at HS0 HB1 ⊢
  go_wp2
  go_loopw [18] (fun iv wr => ∃ k : Nat, k ≤ L ∧ iv = .int .i64 (k : Nat) ∧ Hid (SuB wr (w.heap.size + 1) (supP n p bo (I.take k))) ∧ Hid (Below (w.heap.size + 1) V wr)) (fun iv _ => L - (intOf iv).toNat)
  case atStart => exact ⟨0, Nat.zero_le _, rfl, Lib.hid (by rw [List.take_zero]; exact HS0.out), Lib.hid (Below.refl _ _)⟩
  case round =>
    obtain ⟨k, hk, rfl, hS, hbn⟩ := hrel
    by_cases hlt : k < L
    · have hkl : k < I.length := by rw [HIL.out]; exact hlt
      obtain ⟨bI, oI, rfl, hBI, hcX⟩ := (HI.out.on (HBA.out.trans ((HB1.out.trans hbn.out).mono (by omega)))).at_ (i := k) hlt
      have hmem : I.getD k 0 ∈ I := by rw [List.getD_eq_getElem?_getD, List.getElem?_eq_getElem hkl]; exact List.getElem_mem hkl
      have hxb := HIB.out _ hmem
      obtain ⟨x, hx⟩ := Int.eq_ofNat_of_zero_le hxb.1
      rw [hx] at hcX hxb
      have hx2 : x < 256 := by omega
      have HTK := Lib.hid (show I.take (k + 1) = I.take k ++ [(x : Int)] by rw [List.take_add_one, List.getElem?_eq_getElem hkl, ← hx, List.getD_eq_getElem?_getD, List.getElem?_eq_getElem hkl]; rfl)
      have hci := hS.out.inn hx2
      have hfr := Blk.free hS.out (16 + x)
      obtain ⟨v, hv⟩ : ∃ v, v = (supP n p bo (I.take k)).inn.getD x false := ⟨_, rfl⟩
      rw [← hv] at hci
      have qj : (k : Int) < (L : Int) := by omega
      have qx : (x : Int) < 256 := by omega
      have qx0 : (0 : Int) ≤ (x : Int) := by omega
      have HX2 := Lib.hid hx2
      have HLT := Lib.hid hlt
      clear hv hx hkl hx2 hlt hxb hBI hmem
      go_wp2
      go_roundw
      case rel =>
        refine ⟨k + 1, HLT.out, by go_num, Lib.hid ?_, Lib.hid (hbn.out.setCell (p := ⟨w.heap.size + 1, 16 + x, none⟩) (Nat.le_refl _) _)⟩
        have h1 := suB_in0 hS.out (innL_len _) HX2.out
        have e : ({ supP n p bo (I.take k) with inn := (supP n p bo (I.take k)).inn.set x true } : SU) = supP n p bo (I.take (k + 1)) := by
          unfold supP; rw [HTK.out, innL_snoc, Int.toNat_natCast]
        rw [e] at h1
        exact h1
      case measure => simp [intOf]; have := HLT.out; omega
    · obtain rfl : k = L := by omega
      have htk : I.take k = I := List.take_of_length_le (by rw [HIL.out]; exact Nat.le_refl _)
      rw [htk] at hS
      obtain ⟨sF, hsF⟩ : ∃ s, s = tabV 276 (suV (supP n p bo I)) := ⟨_, rfl⟩
      have HSF := Lib.hid (show sF.size = 276 ∧ sF.all (·.oneCell') = true by rw [hsF]; exact ⟨size_tabV _ _, tabV_one (suV_one _)⟩)
      have HFA := Lib.hid (show suA (supP n p bo I) = .agg sF by rw [hsF]; rfl)
      have HRF := Lib.hid (show wr.heap[w.heap.size + 1]? = some (.cells sF 35 (0, 0)) by rw [hsF]; exact hS.out)
      have HZF := Lib.hid (show wr.heap[w.heap.size]? = some (.cells c0 35 (0, 0)) from ((HB1.out.trans hbn.out).block _ (by omega)).trans HZA.out)
      have HBW := Lib.hid (show Below w.heap.size w wr from HBA.out.trans ((HB1.out.trans hbn.out).mono (by omega)))
      have q1 : ¬ (k : Int) < (k : Int) := by omega
      clear hsF htk hlt
      go_wp2_with (first
        | ((with_reducible show wpList _ _ _ (⟨some 26, _, _, _, _, _⟩ :: _) _ _); go_loud (refine wpList_load_row rfl 35 (.tmp 9) rfl (w.heap.size + 1) rfl 35 sF (0, 0) _ HRF.out Try.underlying35 rfl (by rw [HSF.out.1]; exact sizeSu) ?_))
        | ((with_reducible show wpList _ _ _ (⟨none, Op.store 35 (.tmp 8) _, _, _, _, _⟩ :: _) _ _); go_loud (refine wpList_store_row rfl 35 (.tmp 8) (.tmp 26) rfl w.heap.size sF rfl rfl 35 c0 HZF.out (by rw [HSF.out.1]; exact sizeSu) (by rw [HSF.out.1, HC0.out]) HSF.out.2 ?_)))
      exact bodyPost_ret (v := .agg sF) (results_super _ _ w.heap.size sF rfl (setRow_heap _ _ _ _ _ _ HZF.out) HSF.out.1) rfl ⟨by rw [HFA.out], below_setRow HBW.out (Nat.le_refl _) _⟩
theorem same_next {l m : List Int} {k : Nat} (h : l.take k = m.take k) (hl : l.length = m.length) (hk : k < l.length) : (l.getD k 0 = m.getD k 0 → l.take (k + 1) = m.take (k + 1)) ∧ (l.getD k 0 ≠ m.getD k 0 → l ≠ m) := by
  have e1 : l.take (k + 1) = l.take k ++ [l.getD k 0] := by rw [List.take_add_one, List.getElem?_eq_getElem hk, List.getD_eq_getElem?_getD, List.getElem?_eq_getElem hk]; rfl
  have e2 : m.take (k + 1) = m.take k ++ [m.getD k 0] := by rw [List.take_add_one, List.getElem?_eq_getElem (by omega), List.getD_eq_getElem?_getD, List.getElem?_eq_getElem (by omega)]; rfl
  exact ⟨fun e => by rw [e1, e2, h, e], fun hne e => hne (by rw [e])⟩
set_option maxHeartbeats 8000000 in
theorem sameI_any (a b : Option Addr) (L M ca cb : Nat) (l m : List Int) (w : World) (hl : IA w a L ca l) (hm : IA w b M cb m) :
    Calls Try.prog 10 #[.slice a L ca, .slice b M cb] w fun e w' => e = .returned (.bool (decide (l = m))) ∧ Below w.heap.size w w' := by
  obtain ⟨r, hr⟩ : ∃ r, r = decide (l = m) := ⟨_, rfl⟩
  rw [← hr]
  have hll : l.length = L := hl.1
  have hml : m.length = M := hm.1
  obtain ⟨hb1, hb2⟩ := hl.bd
  obtain ⟨hb3, hb4⟩ := hm.bd
  have HR := Lib.hid hr
  have HLL := Lib.hid hll
  have HML := Lib.hid hml
  have HL := Lib.hid hl
  have HM := Lib.hid hm
  by_cases hLM : L = M
  case neg =>
    have q1 : ((L : Int) != (M : Int)) = true := by simp; omega
    have HE := Lib.hid (show r = false by rw [hr, decide_eq_false_iff_not]; intro e; rw [e] at hll; omega)
    clear hr hll hml hl hm hLM
    go_enter Try.func10, Try.ntmps10
    go_wp2
    go_ret
    exact ⟨by rw [HE.out]; rfl, Below.refl _ _⟩
  case pos =>
    subst hLM
    have q1 : ((L : Int) != (L : Int)) = false := by simp
    clear hr hll hml hl hm
    go_enter Try.func10, Try.ntmps10
    go_wp2
    go_loopw [13] (fun iv wr => ∃ k : Nat, k ≤ L ∧ iv = .int .i64 (k : Nat) ∧ Hid (l.take k = m.take k) ∧ Hid (Below w.heap.size w wr)) (fun iv _ => L - (intOf iv).toNat)
    case atStart => exact ⟨0, Nat.zero_le _, rfl, Lib.hid (by rw [List.take_zero, List.take_zero]), Lib.hid (Below.refl _ _)⟩
    case round =>
      obtain ⟨k, hk, rfl, hE, hbn⟩ := hrel
      by_cases hlt : k < L
      · obtain ⟨b1, o1, rfl, hB1, c1⟩ := (HL.out.on hbn.out).at_ (i := k) hlt
        obtain ⟨b2, o2, rfl, hB2, c2⟩ := (HM.out.on hbn.out).at_ (i := k) hlt
        obtain ⟨hy, hn⟩ := same_next hE.out (by rw [HLL.out, HML.out]) (by rw [HLL.out]; exact hlt)
        obtain ⟨x, hx⟩ : ∃ x, x = l.getD k 0 := ⟨_, rfl⟩
        obtain ⟨y, hyy⟩ : ∃ y, y = m.getD k 0 := ⟨_, rfl⟩
        rw [← hx] at c1 hy hn
        rw [← hyy] at c2 hy hn
        have HLT := Lib.hid hlt
        have HY := Lib.hid hy
        have HN := Lib.hid hn
        have HBN := Lib.hid hbn.out
        have qk : (k : Int) < (L : Int) := by omega
        have qk0 : (0 : Int) ≤ (k : Int) := by omega
        clear hx hyy hy hn hlt hB1 hB2 hbn hE
        by_cases hxy : x = y
        · have qq : (x != y) = false := by simp [hxy]
          have HXY := Lib.hid hxy
          clear hxy
          go_upto_region 6 with fail
          go_quiet (fail)
          go_wp2
          go_roundw
          case rel => exact ⟨k + 1, HLT.out, by go_num, Lib.hid (HY.out HXY.out), Lib.hid (below_drewN HBN.out _)⟩
          case measure => simp [intOf]; have := HLT.out; omega
        · have qq : (x != y) = true := by simp [hxy]
          have HE := Lib.hid (show r = false by rw [HR.out, decide_eq_false_iff_not]; exact HN.out hxy)
          clear hxy
          go_upto_region 6 with fail
          go_quiet (fail)
          go_wp2
          go_ret
          exact ⟨by rw [HE.out]; rfl, below_drewN HBN.out _⟩
      · obtain rfl : k = L := by omega
        have HE := Lib.hid (show r = true by
          have := hE.out
          rw [List.take_of_length_le (by rw [HLL.out]; exact Nat.le_refl _), List.take_of_length_le (by rw [HML.out]; exact Nat.le_refl _)] at this
          rw [HR.out, this]; simp)
        have q2 : ¬ (k : Int) < (k : Int) := by omega
        go_wp2
        go_ret
        exact ⟨by rw [HE.out]; rfl, hbn.out⟩
end Go.Proofs.Ytbijakhdngbjmaa
