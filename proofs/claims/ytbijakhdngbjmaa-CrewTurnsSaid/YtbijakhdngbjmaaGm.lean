/- Package crew: Closed. -/
import Derived.Test.YtbijakhdngbjmaaGl
import Derived.Test.YtbijakhdngbjmaaGf
import Derived.Lib.SliceRun
namespace Go.Proofs.Ytbijakhdngbjmaa
open Go.ChangeShapes Go.WideShapes Go.ChangeAt Go.RowKit Go.Shelf Go.Maps
set_option linter.unusedVariables false
set_option linter.unusedSimpArgs false
set_option maxRecDepth 100000
attribute [local go_sem] Oper.semAt_some

theorem results_closed (tmps : Array Value) (w : World) (g : Nat) (cs : Array Value) (v : Value) (h2 : tmps.getD 2 undef = .pointer (some ⟨g, 0, none⟩)) (h3 : tmps.getD 3 undef = v) (hg : w.heap[g]? = some (.cells cs 35 (0, 0))) (hs : (Try.prog.info? 35).map (·.size) = some cs.size) :
    (results Try.f9 tmps).run Try.prog w = .ok (.tuple #[.agg cs, v]) w := by
  have h2' : tmps[2]?.getD undef = .pointer (some ⟨g, 0, none⟩) := by simpa using h2
  have h3' : tmps[3]?.getD undef = v := by simpa using h3
  have hr := run_loadVar_row (P := Try.prog) w g 35 35 cs (0, 0) _ hg Try.underlying35 rfl hs
  simp [results, Try.f9, h2', h3', asAddr, hr]
theorem wpList_clear_run {P : Program} (w : World) {ops : Array Oper} {rest : List Oper} {o : Oper} {a : Act} {Q : Exit → Act → World → Prop} (hgd : o.guard = none) (s : Operand) (t : TypeId)
    (ho : o.op = .call { callee := .builtin .clear, args := #[s], argTypes := #[t] }) (v : Value) (hs : a.eval s = v) {v' : Value} {w' : World}
    (hr : (Builtin.clear_ #[t] o.type #[v]).run P w = .ok v' w') (h : wpList P ops Q rest (a.put o.dst v') w') : wpList P ops Q (o :: rest) a w := by
  refine wpList_plain hgd fun K hK => ?_
  unfold Oper.wp
  simp [execOp, ho, resolve, invoke, builtin, hs, hr, Result.andThen]
  exact hK _ _ h
theorem heap_setCells (g : Nat) (T : TypeId) : ∀ (vs : List Value) (o : Nat) (w : World) (cur : Array Value), w.heap[g]? = some (.cells cur T (0, 0)) → o + vs.length ≤ cur.size → ∃ cur', (w.setCells g o vs).heap[g]? = some (.cells cur' T (0, 0)) ∧ cur'.size = cur.size ∧ ∀ j, cur'[j]? = if o ≤ j ∧ j < o + vs.length then vs[j - o]? else cur[j]?
  | [], o, w, cur, h, _ => ⟨cur, h, rfl, fun j => by rw [if_neg (by rw [List.length_nil]; omega)]⟩
  | v :: r, o, w, cur, h, hl => by
    rw [List.length_cons] at hl
    obtain ⟨cur', h1, h2, h3⟩ := heap_setCells g T r (o + 1) (w.setCell ⟨g, o, none⟩ v) (cur.setIfInBounds o v) (heap_setCell_same w g o _ _ v h) (by rw [Array.size_setIfInBounds]; omega)
    refine ⟨cur', h1, by rw [h2, Array.size_setIfInBounds], fun j => ?_⟩
    rw [h3 j, List.length_cons]
    by_cases c1 : o + 1 ≤ j ∧ j < o + 1 + r.length
    · rw [if_pos c1, if_pos (by omega), show j - o = (j - (o + 1)) + 1 by omega, List.getElem?_cons_succ]
    · rw [if_neg c1, Array.getElem?_setIfInBounds]
      by_cases c2 : o = j
      · subst c2
        rw [if_pos rfl, if_pos (by omega), if_pos (by omega), Nat.sub_self]; rfl
      · rw [if_neg c2, if_neg (by omega)]
theorem below_setCells {B g : Nat} (hg : B ≤ g) : ∀ (vs : List Value) (o : Nat) {w V : World}, Below B w V → Below B w (V.setCells g o vs)
  | [], o, w, V, h => h
  | v :: r, o, w, V, h => below_setCells hg r (o + 1) (h.setCell (p := ⟨g, o, none⟩) hg v)
theorem other_setCells {g k : Nat} (hk : k ≠ g) : ∀ (vs : List Value) (o : Nat) (w : World), (w.setCells g o vs).heap[k]? = w.heap[k]?
  | [], o, w => rfl
  | v :: r, o, w => (other_setCells hk r (o + 1) _).trans (heap_setCell_other w ⟨g, o, none⟩ k v hk)
/-- Nobody is in. -/
def SU.none_in (P : SU) : SU := { P with inn := List.replicate 256 false }
theorem suB_row {w : World} {q : Nat} {P : SU} (h : SuB w q P) {l : List Bool} (hl : l.length = 256) {vs : List Value} (hv : vs = l.map Value.bool) : SuB (w.setCells q 16 vs) q { P with inn := l } := by
  have hvl : vs.length = 256 := by rw [hv, List.length_map, hl]
  obtain ⟨cur', h1, h2, h3⟩ := heap_setCells q 35 vs 16 w _ h (by rw [hvl, size_tabV]; omega)
  refine h1.trans ?_
  congr 2
  apply Array.ext_getElem?
  intro j
  rw [h3 j, hvl]
  by_cases hj : j < 276
  · have e2 := get_tabV (n := 276) (g := suV { P with inn := l }) hj
    rw [e2, ← suV_inn P l hl hj, ← hv, hvl]
    by_cases c : 16 ≤ j ∧ j < 16 + 256
    · rw [if_pos c, if_pos c, List.getD_eq_getElem?_getD, List.getElem?_eq_getElem (by omega)]; rfl
    · rw [if_neg c, if_neg c, get_tabV hj]
  · rw [if_neg (by omega), Array.getElem?_eq_none (by rw [size_tabV]; omega), Array.getElem?_eq_none (by rw [size_tabV]; omega)]
theorem innL_len0 (I : List Int) : (innL I).length = 256 := innL_len I
/-- The next boot's table, with those who are current. -/
def closP (P : SU) (I : List Int) : SU := { P with bo := P.bo + 1, ep := 1, inn := innL I }
theorem zeroB (w : World) : (zeroValue 4).run Try.prog w = .ok (.bool false) w := by kernel_rfl
set_option maxHeartbeats 8000000 in
theorem closed_any (P : SU) (hP : P.Wf) (ao : Option Addr) (n co : Nat) (I : List Int) (w : World) (hI : IA w ao n co I) (hIb : ∀ x ∈ I, 0 ≤ x ∧ x < 256) :
    Calls Try.prog 9 #[crA P (.slice ao n co)] w fun e w' => (P.bo < 2147483648 → e = .returned (.tuple #[suA (closP P I), .int .i64 0])) ∧ (2147483648 ≤ P.bo → e = .returned (.tuple #[suA suZ, .int .i64 2])) ∧ Below w.heap.size w w' := by
  have HF := Lib.hid (fun W => next_any P hP ao n co W)
  have HII := Lib.hid hI
  have HIB := Lib.hid hIb
  obtain ⟨hb1, hb2⟩ := hI.bd
  have HIL := Lib.hid (show I.length = n from hI.1)
  clear hI hIb
  obtain ⟨hz0, hi0⟩ := zero_of_info infoSu
  clear hi0
  obtain ⟨c0, hc0⟩ : ∃ s, s = tabV 276 (suV suZ) := ⟨_, rfl⟩
  rw [← hc0] at hz0
  have HC0 := Lib.hid (show c0.size = 276 ∧ c0.all (·.oneCell') = true by rw [hc0]; exact ⟨size_tabV _ _, tabV_one (suV_one suZ)⟩)
  have HBZ := Lib.hid (show Try.prog.built 35 [] = some c0 by rw [hc0]; exact built_su0)
  have HCZ := Lib.hid (show suA suZ = .agg c0 by rw [hc0]; rfl)
  have HCC := Lib.hid hc0
  obtain ⟨hBX, hSX⟩ := cr_box P (.slice ao n co) w
  obtain ⟨sX, hsX⟩ : ∃ s, s = tabV 277 (crV P (.slice ao n co)) := ⟨_, rfl⟩
  unfold crA
  rw [← hsX] at hBX hSX ⊢
  have HSXE := Lib.hid (show sX.size = 277 ∧ sX.all (·.oneCell') = true by rw [hsX]; exact ⟨size_tabV _ _, tabV_one (crV_one P rfl)⟩)
  have HSXA := Lib.hid (show crA P (.slice ao n co) = .agg sX by rw [hsX]; rfl)
  obtain ⟨X, hX⟩ : ∃ X, X = w.alloc (.cells sX 38) := ⟨_, rfl⟩
  obtain ⟨A, hA⟩ : ∃ A, A = X.alloc (.cells c0 35) := ⟨_, rfl⟩
  have HA := Lib.hid (show A = (w.alloc (.cells sX 38)).alloc (.cells c0 35) by rw [hA, hX])
  have HXS := Lib.hid (show X.heap.size = w.heap.size + 1 by rw [hX]; simp)
  have HAS := Lib.hid (show A.heap.size = w.heap.size + 2 by rw [hA]; have := HXS.out; simp; omega)
  rw [← hX] at hBX hSX
  have hbA : Below X.heap.size X A := by rw [hA]; exact (Below.refl _ _).alloc (Nat.le_refl _) _
  have HCB := Lib.hid (hSX.on hbA)
  have HBA := Lib.hid (hBX.trans (hbA.mono (by have := HXS.out; omega)))
  have HZA := Lib.hid (show A.heap[w.heap.size + 1]? = some (.cells c0 35 (0, 0)) by rw [hA, ← HXS.out]; exact heap_alloc_new X _)
  have HRA := Lib.hid (show A.heap[w.heap.size]? = some (.cells sX 38 (0, 0)) by have h := HCB.out; unfold CrB Blk at h; rw [← hsX] at h; exact h)
  obtain ⟨sP, hsP⟩ : ∃ s, s = tabV 276 (suV P) := ⟨_, rfl⟩
  have HSP := Lib.hid (show sP.size = 276 ∧ sP.all (·.oneCell') = true by rw [hsP]; exact ⟨size_tabV _ _, tabV_one (suV_one P)⟩)
  have HSPP := Lib.hid hsP
  have HSL := Lib.hid (show (suL P).toArray = sP by rw [suL_arr, hsP])
  have HPW := Lib.hid hP
  clear hc0 hsX hBX hSX hX hA hbA hsP hP
  rw [HSXA.out] at HF
  go_enter Try.func9, Try.ntmps9
  go_upto_region 1 with fail
  rw [← HA.out]
  by_cases hb : P.bo < 2147483648
  case neg =>
    have HBO := Lib.hid (show 2147483648 ≤ P.bo by omega)
    have HNB := Lib.hid hb
    clear hb
    rw [HCZ.out] at HF
    go_wp2_with (first
      | ((with_reducible show wpList _ _ _ (⟨some 9, _, _, _, _, _⟩ :: _) _ _); go_loud (refine wpList_load_row rfl 38 (.tmp 1) rfl w.heap.size rfl 38 sX (0, 0) _ HRA.out Try.underlying38 rfl (by rw [HSXE.out.1]; exact sizeCr) ?_))
      | (go_at_call 8; go_loud ((with_reducible refine (HF.out _).mono ?_); rintro e w1 ⟨-, he, hb⟩; obtain rfl := he HBO.out; have HZ1 := Lib.hid ((hb.block (w.heap.size + 1) (by have := HAS.out; omega)).trans HZA.out); have HB1 := Lib.hid hb; clear hb he))
      | ((with_reducible show wpList _ _ _ (⟨none, Op.store 35 (.tmp 4) _, _, _, _, _⟩ :: _) _ _); go_loud (refine wpList_store_row rfl 35 (.tmp 4) (.tmp 11) rfl w1.heap.size c0 rfl rfl 35 c0 (heap_alloc_new _ _) (by rw [HC0.out.1]; exact sizeSu) rfl HC0.out.2 ?_; rw [alloc_setRow]; have HB2 := Lib.hid (show Below A.heap.size A (w1.alloc (.cells c0 35)) from HB1.out.alloc HB1.out.size _); have HZ2 := Lib.hid ((HB2.out.block (w.heap.size + 1) (by have := HAS.out; omega)).trans HZA.out)))
      | ((with_reducible show wpList _ _ _ (⟨some 15, _, _, _, _, _⟩ :: _) _ _); go_loud (refine wpList_buildTo rfl 35 _ rfl (some 15) rfl c0 (by rw [Array.toList_map]; exact HBZ.out) ?_))
      | ((with_reducible show wpList _ _ _ (⟨none, Op.store 35 (.tmp 2) _, _, _, _, _⟩ :: _) _ _); go_loud (refine wpList_store_row rfl 35 (.tmp 2) (.tmp 15) rfl (w.heap.size + 1) c0 rfl rfl 35 c0 HZ2.out (by rw [HC0.out.1]; exact sizeSu) rfl HC0.out.2 ?_)))
    exact bodyPost_ret (results_closed _ _ (w.heap.size + 1) c0 _ rfl rfl (setRow_heap _ _ _ _ _ _ HZ2.out) (by rw [HC0.out.1]; exact sizeSu)) rfl ⟨fun h => absurd h (by have := HNB.out; omega), fun _ => by rw [HCZ.out]; rfl, below_setRow (bt HBA.out HB2.out) (by omega) _⟩
  case pos =>
    have HBO := Lib.hid hb
    clear hb
    obtain ⟨sN, hsN⟩ : ∃ s, s = tabV 276 (suV (nextP P)) := ⟨_, rfl⟩
    have HSN := Lib.hid (show sN.size = 276 ∧ sN.all (·.oneCell') = true by rw [hsN]; exact ⟨size_tabV _ _, tabV_one (suV_one _)⟩)
    have HNA := Lib.hid (show suA (nextP P) = .agg sN by rw [hsN]; rfl)
    have HSNE := Lib.hid hsN
    clear hsN
    rw [HNA.out] at HF
    go_upto_region 4 with (first
      | ((with_reducible show wpList _ _ _ (⟨some 9, _, _, _, _, _⟩ :: _) _ _); go_loud (refine wpList_load_row rfl 38 (.tmp 1) rfl w.heap.size rfl 38 sX (0, 0) _ HRA.out Try.underlying38 rfl (by rw [HSXE.out.1]; exact sizeCr) ?_))
      | (go_at_call 8; go_loud ((with_reducible refine (HF.out _).mono ?_); rintro e w1 ⟨he, -, hb⟩; obtain rfl := he HBO.out; have HB1 := Lib.hid hb; clear hb he))
      | ((with_reducible show wpList _ _ _ (⟨none, Op.store 35 (.tmp 4) _, _, _, _, _⟩ :: _) _ _); go_loud (refine wpList_store_row rfl 35 (.tmp 4) (.tmp 11) rfl w1.heap.size sN rfl rfl 35 c0 (heap_alloc_new _ _) (by rw [HSN.out.1]; exact sizeSu) (by rw [HSN.out.1, HC0.out.1]) HSN.out.2 ?_; rw [alloc_setRow])))
    have HB2 := Lib.hid (show Below A.heap.size A (w1.alloc (.cells sN 35)) from HB1.out.alloc HB1.out.size _)
    have HS2 := Lib.hid (show SuB (w1.alloc (.cells sN 35)) w1.heap.size (nextP P) by unfold SuB Blk; rw [← HSNE.out]; exact heap_alloc_new w1 _)
    have HQ := Lib.hid (show w.heap.size + 2 ≤ w1.heap.size by have := HB1.out.size; have := HAS.out; omega)
    obtain ⟨q, hq⟩ : ∃ q, q = w1.heap.size := ⟨_, rfl⟩
    rw [← hq] at HS2 HQ ⊢
    clear hq HB1
    generalize w1.alloc (.cells sN 35) = V at HB2 HS2 ⊢
    have HB3 := Lib.hid (show Below (w.heap.size + 2) A V from HB2.out.mono (by have := HAS.out; omega))
    have c15 := HS2.out.num.2.2.2.2.2.2.2.1
    have f15 := Blk.free HS2.out 15
    go_upto_region 5 with fail
    have HS4 := Lib.hid (suB_ep HS2.out 1)
    have HB4 := Lib.hid (show Below (w.heap.size + 2) A (V.setCell ⟨q, 15, none⟩ (.int .u32 1)) from HB3.out.setCell (p := ⟨q, 15, none⟩) HQ.out _)
    clear c15 f15 HB3
    generalize V.setCell ⟨q, 15, none⟩ (.int .u32 1) = V4 at HS4 HB4 ⊢
    have hsl : ∀ W, (Instr.sliceAt 33 (.pointer (some ⟨q, 16, none⟩)) none none none).run Try.prog W = .ok (.slice (some ⟨q, 16, none⟩) 256 256) W := fun W => slice256a W q 16
    obtain ⟨vs, hvs⟩ : ∃ vs, vs = List.replicate 256 (Value.bool false) := ⟨_, rfl⟩
    have HCLR := Lib.hid (show ∀ ty, (Builtin.clear_ #[60] ty #[.slice (some ⟨q, 16, none⟩) 256 256]).run Try.prog V4 = .ok (.tuple #[]) (V4.setCells q 16 vs) from fun ty => by
      rw [hvs]
      exact Lib.run_clear_slice V4 60 4 ty (.bool false) Try.underlying60 zeroB rfl rfl q 16 256 256 (by omega) (fun j hj => by rw [HS4.out.inn hj]; rfl) (fun j hj => Blk.free HS4.out _))
    have HVS := Lib.hid (show vs = (List.replicate 256 false).map Value.bool by rw [hvs, List.map_replicate])
    clear hvs
    go_upto_region 6 with ((with_reducible show wpList _ _ _ (⟨none, Op.call _, _, _, _, _⟩ :: _) _ _); go_loud (refine wpList_clear_run _ rfl (.tmp 19) 60 rfl _ rfl (HCLR.out _) ?_))
    have HS5 := Lib.hid (suB_row HS4.out (l := List.replicate 256 false) (by simp) HVS.out)
    have HB5 := Lib.hid (show Below (w.heap.size + 2) A (V4.setCells q 16 vs) from below_setCells HQ.out vs 16 HB4.out)
    clear hsl
    generalize V4.setCells q 16 vs = V5 at HS5 HB5 ⊢
    have HC5 := Lib.hid (Blk.on HCB.out HB5.out (by omega))
    have h276 : V5.cell? ⟨w.heap.size, 276, none⟩ = some (.slice ao n co) := CrB.slot HC5.out
    have HBW5 := Lib.hid (show Below w.heap.size w V5 from HBA.out.trans (HB5.out.mono (by omega)))
    go_wp2
    go_loopw [23] (fun iv wr => ∃ k : Nat, k ≤ n ∧ iv = .int .i64 (k : Nat) ∧ Hid (SuB wr q (closP P (I.take k))) ∧ Hid (Below (w.heap.size + 2) V5 wr)) (fun iv _ => n - (intOf iv).toNat)
    case atStart =>
      refine ⟨0, Nat.zero_le _, rfl, Lib.hid ?_, Lib.hid (Below.refl _ _)⟩
      rw [List.take_zero]
      exact HS5.out
    case round =>
      obtain ⟨k, hk, rfl, hS, hbn⟩ := hrel
      by_cases hlt : k < n
      · have hkl : k < I.length := by rw [HIL.out]; exact hlt
        obtain ⟨bI, oI, rfl, hBI, hcX⟩ := (HII.out.on (HBW5.out.trans (hbn.out.mono (by omega)))).at_ (i := k) hlt
        have hmem : I.getD k 0 ∈ I := by rw [List.getD_eq_getElem?_getD, List.getElem?_eq_getElem hkl]; exact List.getElem_mem hkl
        have hxb := HIB.out _ hmem
        obtain ⟨x, hx⟩ := Int.eq_ofNat_of_zero_le hxb.1
        rw [hx] at hcX hxb
        have hx2 : x < 256 := by omega
        have HTK := Lib.hid (show I.take (k + 1) = I.take k ++ [(x : Int)] by rw [List.take_add_one, List.getElem?_eq_getElem hkl, ← hx, List.getD_eq_getElem?_getD, List.getElem?_eq_getElem hkl]; rfl)
        have hci := hS.out.inn hx2
        have hfr := Blk.free hS.out (16 + x)
        obtain ⟨v, hv⟩ : ∃ v, v = (closP P (I.take k)).inn.getD x false := ⟨_, rfl⟩
        rw [← hv] at hci
        have qj : (k : Int) < (n : Int) := by omega
        have qx : (x : Int) < 256 := by omega
        have qx0 : (0 : Int) ≤ (x : Int) := by omega
        have HX2 := Lib.hid hx2
        have HLT := Lib.hid hlt
        clear hv hx hkl hx2 hlt hxb hBI hmem
        go_wp2
        go_roundw
        case rel =>
          refine ⟨k + 1, HLT.out, by go_num, Lib.hid ?_, Lib.hid (hbn.out.setCell (p := ⟨q, 16 + x, none⟩) HQ.out _)⟩
          have h1 := suB_in hS.out (innL_len _) HX2.out true
          have e : ({ closP P (I.take k) with inn := (closP P (I.take k)).inn.set x true } : SU) = closP P (I.take (k + 1)) := by
            unfold closP; rw [HTK.out, innL_snoc, Int.toNat_natCast]
          rw [e] at h1
          exact h1
        case measure => simp [intOf]; have := HLT.out; omega
      · obtain rfl : k = n := by omega
        have htk : I.take k = I := List.take_of_length_le (by rw [HIL.out]; exact Nat.le_refl _)
        rw [htk] at hS
        obtain ⟨sF, hsF⟩ : ∃ s, s = tabV 276 (suV (closP P I)) := ⟨_, rfl⟩
        have HSF := Lib.hid (show sF.size = 276 ∧ sF.all (·.oneCell') = true by rw [hsF]; exact ⟨size_tabV _ _, tabV_one (suV_one _)⟩)
        have HFA := Lib.hid (show suA (closP P I) = .agg sF by rw [hsF]; rfl)
        have HRF := Lib.hid (show wr.heap[q]? = some (.cells sF 35 (0, 0)) by rw [hsF]; exact hS.out)
        have HZF := Lib.hid (show wr.heap[w.heap.size + 1]? = some (.cells c0 35 (0, 0)) from (hbn.out.block _ (by omega)).trans ((HB5.out.block _ (by omega)).trans HZA.out))
        have q1 : ¬ (k : Int) < (k : Int) := by omega
        clear hsF htk hlt
        go_wp2_with (first
          | ((with_reducible show wpList _ _ _ (⟨some 37, _, _, _, _, _⟩ :: _) _ _); go_loud (refine wpList_load_row rfl 35 (.tmp 4) rfl q rfl 35 sF (0, 0) _ HRF.out Try.underlying35 rfl (by rw [HSF.out.1]; exact sizeSu) ?_))
          | ((with_reducible show wpList _ _ _ (⟨none, Op.store 35 (.tmp 2) _, _, _, _, _⟩ :: _) _ _); go_loud (refine wpList_store_row rfl 35 (.tmp 2) (.tmp 37) rfl (w.heap.size + 1) sF rfl rfl 35 c0 HZF.out (by rw [HSF.out.1]; exact sizeSu) (by rw [HSF.out.1, HC0.out.1]) HSF.out.2 ?_)))
        exact bodyPost_ret (results_closed _ _ (w.heap.size + 1) sF _ rfl rfl (setRow_heap _ _ _ _ _ _ HZF.out) (by rw [HSF.out.1]; exact sizeSu)) rfl ⟨fun _ => by rw [HFA.out]; rfl, fun h => absurd h (by have := HBO.out; omega), below_setRow (HBW5.out.trans (hbn.out.mono (by omega))) (by omega) _⟩
end Go.Proofs.Ytbijakhdngbjmaa
