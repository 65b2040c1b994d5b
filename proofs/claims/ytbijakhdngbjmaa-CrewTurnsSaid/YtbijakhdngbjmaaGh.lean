/- Package crew: who is current of supers (crewOf, Gather). -/
import Derived.Test.YtbijakhdngbjmaaGe
import Derived.Test.YtbijakhdngbjmaaGg
namespace Go.Proofs.Ytbijakhdngbjmaa
open Go.ChangeShapes Go.WideShapes Go.ChangeAt Go.RowKit Go.Shelf Go.Maps
set_option linter.unusedVariables false
set_option linter.unusedSimpArgs false
set_option maxRecDepth 100000
attribute [local go_sem] Oper.semAt_some

theorem results_crewOf (tmps : Array Value) (w : World) (g : Nat) (cs : Array Value) (v : Value) (h2 : tmps.getD 2 undef = .pointer (some ⟨g, 0, none⟩)) (h3 : tmps.getD 3 undef = v) (hg : w.heap[g]? = some (.cells cs 38 (0, 0))) (hs : (Try.prog.info? 38).map (·.size) = some cs.size) :
    (results Try.f17 tmps).run Try.prog w = .ok (.tuple #[.agg cs, v]) w := by
  have h2' : tmps[2]?.getD undef = .pointer (some ⟨g, 0, none⟩) := by simpa using h2
  have h3' : tmps[3]?.getD undef = v := by simpa using h3
  have hr := run_loadVar_row (P := Try.prog) w g 38 38 cs (0, 0) _ hg Try.underlying38 rfl hs
  simp [results, Try.f17, h2', h3', asAddr, hr]
theorem results_gather (tmps : Array Value) (w : World) (g : Nat) (cs : Array Value) (v : Value) (h2 : tmps.getD 2 undef = .pointer (some ⟨g, 0, none⟩)) (h3 : tmps.getD 3 undef = v) (hg : w.heap[g]? = some (.cells cs 38 (0, 0))) (hs : (Try.prog.info? 38).map (·.size) = some cs.size) :
    (results Try.f7 tmps).run Try.prog w = .ok (.tuple #[.agg cs, v]) w := by
  have h2' : tmps[2]?.getD undef = .pointer (some ⟨g, 0, none⟩) := by simpa using h2
  have h3' : tmps[3]?.getD undef = v := by simpa using h3
  have hr := run_loadVar_row (P := Try.prog) w g 38 38 cs (0, 0) _ hg Try.underlying38 rfl hs
  simp [results, Try.f7, h2', h3', asAddr, hr]
theorem newer_or (m P : SU) : newer m P = m ∨ newer m P = P := by
  unfold newer
  split
  · exact .inr rfl
  · exact .inl rfl
theorem tabK_mem {SL : List SU} : ∀ k, k < SL.length → tabK SL k ∈ SL
  | 0, h => by
    show SL.getD 0 suZ ∈ SL
    rw [List.getD_eq_getElem?_getD, List.getElem?_eq_getElem h]
    exact List.getElem_mem h
  | k + 1, h => by
    show newer (tabK SL k) (SL.getD (k + 1) suZ) ∈ SL
    rcases newer_or (tabK SL k) (SL.getD (k + 1) suZ) with e | e
    · rw [e]; exact tabK_mem k (by omega)
    · rw [e, List.getD_eq_getElem?_getD, List.getElem?_eq_getElem h]
      exact List.getElem_mem h
theorem tabSU_mem {SL : List SU} (h : 0 < SL.length) : tabSU SL ∈ SL := tabK_mem _ (by omega)
theorem tabSU_wf {SL : List SU} (hw : ∀ P ∈ SL, P.Wf) (h : 0 < SL.length) : (tabSU SL).Wf := hw _ (tabSU_mem h)
theorem yields_build {P : Program} {ops : Array Oper} {S : World → Prop} {op : Oper} {a : Act} (hw : Region.wanted op (yielded ops a.tmps) = true) (t : TypeId) (parts : Array (Nat × Operand)) (ho : op.op = .build t parts)
    {cells : Array Value} (hf : P.built t (parts.map fun (i, x) => (i, a.eval x)).toList = some cells) : YieldsIf P ops S op (.agg cells) a :=
  .inl ⟨hw, fun w hw' => by
    have hr := run_build (P := P) w t (parts.map fun (i, x) => (i, a.eval x)) cells hf
    unfold execOp
    simp only [ho, hr, Sem.run_bind, Sem.run_pure, Result.andThen_ok]⟩
theorem built_crg (g : Nat → Value) (a : Option Addr) (n c : Nat) : Try.prog.built 38 [(0, .agg (tabV 276 g)), (1, .slice a n c)] = some (tabV 277 (fun j => if j < 276 then g j else .slice a n c)) := by kernel_rfl
theorem built_cr (P : SU) (a : Option Addr) (n c : Nat) : Try.prog.built 38 [(0, suA P), (1, .slice a n c)] = some (tabV 277 (crV P (.slice a n c))) := built_crg (suV P) a n c
/-- Nobody's crew. -/
def crZ : Array Value := tabV 277 (crV suZ (.slice none 0 0))
theorem crZ_size : crZ.size = 277 ∧ crZ.all (·.oneCell') = true := ⟨size_tabV _ _, tabV_one (crV_one suZ rfl)⟩
set_option maxHeartbeats 8000000 in
theorem crewOf_nil (ae : Option Addr) (ce : Nat) (w : World) :
    Calls Try.prog 17 #[.slice ae 0 ce] w fun e w' => e = .returned (.tuple #[.agg crZ, .int .i64 16]) ∧ Below w.heap.size w w' := by
  obtain ⟨hz0, hi0⟩ := zero_of_info infoCr
  clear hi0
  obtain ⟨z0, hzz0⟩ : ∃ s, s = crZ := ⟨_, rfl⟩
  replace hz0 : ∀ W : World, (zeroValue 38).run Try.prog W = .ok (.agg z0) W := by rw [hzz0]; exact hz0
  have HBZ := Lib.hid (show Try.prog.built 38 [] = some z0 by rw [hzz0]; exact built_cr0)
  have HSZ := Lib.hid (show z0.size = 277 ∧ z0.all (·.oneCell') = true by rw [hzz0]; exact crZ_size)
  have HB := Lib.hid (show Below w.heap.size w (w.alloc (.cells z0 38)) from (Below.refl _ _).alloc (Nat.le_refl _) _)
  have HAC := Lib.hid (show (w.alloc (.cells z0 38)).heap[w.heap.size]? = some (.cells z0 38 (0, 0)) from heap_alloc_new w _)
  rw [← hzz0]
  clear hzz0
  go_enter Try.func17, Try.ntmps17
  go_wp2_with (first
    | ((with_reducible show wpList _ _ _ (⟨some 8, _, _, _, _, _⟩ :: _) _ _); go_loud (refine wpList_buildTo rfl 38 _ rfl (some 8) rfl z0 (by rw [Array.toList_map]; exact HBZ.out) ?_))
    | ((with_reducible show wpList _ _ _ (⟨none, Op.store 38 _ _, _, _, _, _⟩ :: _) _ _); go_loud (refine wpList_store_row rfl 38 (.tmp 2) (.tmp 8) rfl w.heap.size z0 rfl rfl 38 z0 HAC.out (by rw [HSZ.out.1]; exact sizeCr) rfl HSZ.out.2 ?_)))
  exact bodyPost_ret (results_crewOf _ _ w.heap.size z0 _ rfl rfl (setRow_heap _ _ _ _ _ _ HAC.out) (by rw [HSZ.out.1]; exact sizeCr)) rfl ⟨rfl, below_setRow HB.out (Nat.le_refl _) _⟩
set_option maxHeartbeats 8000000 in
theorem crewOf_some (a : Option Addr) (L c : Nat) (SL : List SU) (w : World) (hI : SuR w a L c SL) (hT : Tog SL) (hL : 0 < L) :
    Calls Try.prog 17 #[.slice a L c] w fun e w' => ∃ (ao : Option Addr) (co : Nat), e = .returned (.tuple #[crA (tabSU SL) (.slice ao (curL (tabSU SL) SL).length co), .int .i64 0]) ∧ w'.ownsRow (w.heap.size + 1) 3 1 (.slice ao (curL (tabSU SL) SL).length co) (curL (tabSU SL) SL).length ((curL (tabSU SL) SL).map (Value.int .i64)) ∧ Below w.heap.size w w' := by
  have hl : SL.length = L := hI.1
  have hL9 : L ≤ 100 := by rw [← hl]; exact hT.le
  obtain ⟨hz0, hi0⟩ := zero_of_info infoCr
  obtain ⟨hz1, hi1⟩ := zero_of_info infoSu
  clear hi0 hi1
  obtain ⟨z0, hzz0⟩ : ∃ s, s = crZ := ⟨_, rfl⟩
  replace hz0 : ∀ W : World, (zeroValue 38).run Try.prog W = .ok (.agg z0) W := by rw [hzz0]; exact hz0
  obtain ⟨c0, hc0⟩ : ∃ s, s = tabV 276 (suV suZ) := ⟨_, rfl⟩
  rw [← hc0] at hz1
  have HC0 := Lib.hid (show c0.size = 276 by rw [hc0, size_tabV])
  have HSZ := Lib.hid (show z0.size = 277 by rw [hzz0]; exact crZ_size.1)
  obtain ⟨A, hA⟩ : ∃ A, A = w.alloc (.cells z0 38) := ⟨_, rfl⟩
  have HB := Lib.hid (show Below w.heap.size w A by rw [hA]; exact (Below.refl _ _).alloc (Nat.le_refl _) _)
  have HAC := Lib.hid (show A.heap[w.heap.size]? = some (.cells z0 38 (0, 0)) by rw [hA]; exact heap_alloc_new w _)
  have HAS := Lib.hid (show A.heap.size = w.heap.size + 1 by rw [hA]; simp)
  have HA := Lib.hid hA
  obtain ⟨T, hTT⟩ : ∃ T, T = tabSU SL := ⟨_, rfl⟩
  have HTT := Lib.hid hTT
  obtain ⟨sT, hsT⟩ : ∃ s, s = tabV 276 (suV T) := ⟨_, rfl⟩
  have HST := Lib.hid hsT
  have HS1 := Lib.hid (show sT.size = 276 ∧ sT.all (·.oneCell') = true by rw [hsT]; exact ⟨size_tabV _ _, tabV_one (suV_one T)⟩)
  have hIA : ∀ W, Below A.heap.size A W → SuR W a L c SL := fun W hW => hI.on (HB.out.trans (hW.mono (by have := HAS.out; omega)))
  have HIA := Lib.hid hIA
  have HF1 := Lib.hid (together_any a L c SL A (hIA A (Below.refl _ _)) hT)
  have HF2 := Lib.hid (show ∀ W, Below A.heap.size A W → Calls Try.prog 23 #[.slice a L c, .func (.func 24) #[] #[]] W fun e w' => e = .returned (.agg sT) ∧ Below W.heap.size W w' from fun W hW => by
    have := maxFunc_any a L c SL W (hIA W hW) hL hL9
    rw [← hTT] at this
    unfold suA at this
    rw [← hsT] at this
    exact this)
  have HTW := Lib.hid (tabSU_wf hT.wf (by omega : 0 < SL.length))
  rw [← hTT] at HTW
  have HF3 := Lib.hid (show ∀ W, Below A.heap.size A W → Calls Try.prog 25 #[.agg sT, .slice a L c] W fun e w' => ∃ (ao : Option Addr) (co : Nat), e = .returned (.slice ao (curL T SL).length co) ∧ w'.ownsRow W.heap.size 3 1 (.slice ao (curL T SL).length co) (curL T SL).length ((curL T SL).map (Value.int .i64)) ∧ Below W.heap.size W w' from fun W hW => by
    have := current_any T HTW.out a L c SL W (hIA W hW) hT
    unfold suA at this
    rw [← hsT] at this
    exact this)
  have q0 : ((L : Int) == 0) = false := by rw [beq_eq_false_iff_ne]; omega
  rw [← hTT]
  clear hl hI hT hL hzz0 hc0 hA hTT hsT hIA
  go_enter Try.func17, Try.ntmps17
  go_upto_region 3 with fail
  rw [← HA.out]
  go_upto_region 6 with (first
    | (go_at_call 22; go_loud ((with_reducible refine HF1.out.mono ?_); rintro e w1 ⟨rfl, hb⟩; have HB1 := Lib.hid hb; clear hb))
    | (go_at_call 23; go_loud ((with_reducible refine (HF2.out _ HB1.out).mono ?_); rintro e w2 ⟨rfl, hb⟩; have HB2 := Lib.hid (bt HB1.out hb); clear hb))
    | ((with_reducible show wpList _ _ _ (⟨none, Op.store 35 _ _, _, _, _, _⟩ :: _) _ _); go_loud (refine wpList_store_row rfl 35 (.tmp 4) (.tmp 14) rfl w2.heap.size sT rfl rfl 35 c0 (heap_alloc_new _ _) (by rw [HS1.out.1]; exact sizeSu) (by rw [HS1.out.1, HC0.out]) HS1.out.2 ?_)))
  change Code.wp _ _ _ _ ((w2.alloc (.cells c0 35)).setRow w2.heap.size sT)
  rw [alloc_setRow]
  have HB3 := Lib.hid (show Below A.heap.size A (w2.alloc (.cells sT 35)) from HB2.out.alloc HB2.out.size _)
  have HR3 := Lib.hid (show (w2.alloc (.cells sT 35)).heap[w2.heap.size]? = some (.cells sT 35 (0, 0)) from heap_alloc_new w2 _)
  have HV3 := Lib.hid (show w.heap.size < w2.heap.size ∧ (w2.alloc (.cells sT 35)).heap.size = w2.heap.size + 1 from ⟨by have := HB2.out.size; have := HAS.out; omega, by simp⟩)
  generalize w2.alloc (.cells sT 35) = V at HB3 HR3 HV3 ⊢
  refine wp_region_held_drew (S := (fun W => W.heap[w2.heap.size]? = some (.cells sT 35 (0, 0)))) (by kernel_rfl) (show V.drew.heap[w2.heap.size]? = _ from HR3.out) (fun hHeld => ?_)
  have HBD := Lib.hid (show Below V.heap.size V V.drew from (Below.refl _ _).drew)
  generalize V.drew = V1 at hHeld HBD ⊢
  refine wpAnyH_take (i := 0) (oi := { dst := some 15, op := Go.Op.load 35 (Go.Operand.tmp 4), type := 35, pos := "crew.go:71", after := #[], guard := none }) (v := .agg sT) rfl (by kernel_rfl) (by kernel_rfl) (by kernel_rfl) (fun _ _ _ h => h) (yieldsIf_load_row (by rfl) 35 (.tmp 4) rfl w2.heap.size (by rfl) 35 sT (0, 0) _ (fun W h => h) Try.underlying35 rfl (by rw [HS1.out.1]; exact sizeSu)) hHeld ?rest0p1
  case' rest0p1 => try simp only [Act.put, List.setIfInBounds_toArray, List.set_cons_zero, List.set_cons_succ]
  refine wpAnyH_take (i := 1) (oi := { dst := some 16, op := Go.Op.load 35 (Go.Operand.tmp 4), type := 35, pos := "crew.go:71", after := #[], guard := none }) (v := .agg sT) rfl (by kernel_rfl) (by kernel_rfl) (by kernel_rfl) (fun _ _ _ h => h) (yieldsIf_load_row (by rfl) 35 (.tmp 4) rfl w2.heap.size (by rfl) 35 sT (0, 0) _ (fun W h => h) Try.underlying35 rfl (by rw [HS1.out.1]; exact sizeSu)) hHeld ?rest1p2
  case' rest1p2 => try simp only [Act.put, List.setIfInBounds_toArray, List.set_cons_zero, List.set_cons_succ]
  refine wpAnyH_take (i := 2) (oi := { dst := some 17, op := Go.Op.move (Go.Operand.tmp 0), type := 28, pos := "crew.go:71", after := #[], guard := none }) (v := ?v2p3) rfl (by kernel_rfl) (by kernel_rfl) (by kernel_rfl) (fun _ _ _ h => h) (Or.inl ⟨by rfl, ?hy2p3⟩) hHeld ?rest2p3
  case hy2p3 =>
    intro W' hV
    try dsimp only at hV
    go_simp
    all_goals with_reducible rfl
  case' rest2p3 => try simp only [Act.put, List.setIfInBounds_toArray, List.set_cons_zero, List.set_cons_succ]
  refine wpAnyH_ready (rs := [3]) (by kernel_rfl) (by simp) ?_
  refine AllReadyH.cons (o := { dst := some 18, op := Go.Op.call { callee := Go.Callee.value (Go.Operand.func 25), args := #[Go.Operand.tmp 16, Go.Operand.tmp 17], argTypes := #[35, 28] }, type := 36, pos := "crew.go:71", after := #[{ on := 1, ground := Go.Ground.data }, { on := 2, ground := Go.Ground.data }], guard := none }) rfl (fun K' hK => ?_) AllReadyH.nil
  rw [if_pos (by rfl)]
  go_wp2_with (go_at_call 25; go_loud ((with_reducible refine (HF3.out _ (bt HB3.out HBD.out)).mono ?_); rintro e w4 ⟨ao, co, rfl, ho, hb⟩; have HO4 := Lib.hid ho; have HB4 := Lib.hid hb; clear ho hb))
  refine hK.out _ _ ((HB4.out.block _ (by have := HV3.out.2; have := HBD.out.size; omega)).trans hHeld) (fun hHeld1 => ?_)
  clear hK K' hHeld
  have hHeld := hHeld1
  clear hHeld1
  try simp only [Act.put, List.setIfInBounds_toArray, List.set_cons_zero, List.set_cons_succ]
  obtain ⟨n, hn⟩ : ∃ n, n = (curL T SL).length := ⟨_, rfl⟩
  rw [← hn] at HO4
  try rw [← hn]
  obtain ⟨sC, hsC⟩ : ∃ s, s = tabV 277 (crV T (.slice ao n co)) := ⟨_, rfl⟩
  have HBC := Lib.hid (show Try.prog.built 38 [(0, .agg sT), (1, .slice ao n co)] = some sC by rw [hsC, HST.out]; exact built_cr T ao n co)
  have HSC := Lib.hid (show sC.size = 277 ∧ sC.all (·.oneCell') = true by rw [hsC]; exact ⟨size_tabV _ _, tabV_one (crV_one T rfl)⟩)
  have HCA := Lib.hid (show crA T (.slice ao n co) = .agg sC by rw [hsC]; rfl)
  clear hsC
  refine wpAnyH_take (i := 4) (oi := { dst := some 19, op := Go.Op.build 38 #[(0, Go.Operand.tmp 15), (1, Go.Operand.tmp 18)], type := 38, pos := "crew.go:71", after := #[{ on := 0, ground := Go.Ground.data }, { on := 3, ground := Go.Ground.data }], guard := none }) (v := .agg sC) rfl (by kernel_rfl) (by kernel_rfl) (by kernel_rfl) (fun _ _ _ h => h) (yields_build (by rfl) 38 _ rfl (by rw [Array.toList_map]; exact HBC.out)) hHeld ?rest4p4
  case' rest4p4 => try simp only [Act.put, List.setIfInBounds_toArray, List.set_cons_zero, List.set_cons_succ]
  have HZ4 := Lib.hid (show w4.heap[w.heap.size]? = some (.cells z0 38 (0, 0)) from (HB4.out.block _ (by have := HV3.out; have := HBD.out.size; omega)).trans ((HBD.out.block _ (by have := HV3.out; omega)).trans ((HB3.out.block _ (by have := HAS.out; omega)).trans HAC.out)))
  refine wpAnyH_ready (rs := [5]) (by kernel_rfl) (by simp) ?_
  refine AllReadyH.cons (o := { dst := none, op := Go.Op.store 38 (Go.Operand.tmp 2) (Go.Operand.tmp 19), type := 0, pos := "crew.go:71", after := #[{ on := 4, ground := Go.Ground.data }, { on := 3, ground := Go.Ground.chain }, { on := 0, ground := Go.Ground.phase }, { on := 1, ground := Go.Ground.phase }, { on := 2, ground := Go.Ground.phase }, { on := 3, ground := Go.Ground.phase }, { on := 4, ground := Go.Ground.phase }], guard := none }) rfl (fun K' hK => ?_) AllReadyH.nil
  rw [if_pos (by rfl)]
  refine wp_store_row 38 (.tmp 2) (.tmp 19) rfl w.heap.size sC rfl rfl 38 z0 HZ4.out (by rw [HSC.out.1]; exact sizeCr) (by rw [HSC.out.1, HSZ.out]) HSC.out.2 ?_
  refine hK.out _ _ ((setRow_other _ _ _ _ (by have := HV3.out.1; omega)).trans hHeld) (fun hHeld1 => ?_)
  clear hK K' hHeld
  have hHeld := hHeld1
  clear hHeld1
  try simp only [Act.put, List.setIfInBounds_toArray, List.set_cons_zero, List.set_cons_succ]
  refine wpAnyH_take (i := 6) (oi := { dst := some 3, op := Go.Op.assign (Go.Operand.const (Go.Value.int Go.IntKind.i64 0)), type := 39, pos := "crew.go:71", after := #[{ on := 5, ground := Go.Ground.chain }, { on := 0, ground := Go.Ground.phase }, { on := 1, ground := Go.Ground.phase }, { on := 2, ground := Go.Ground.phase }, { on := 3, ground := Go.Ground.phase }, { on := 4, ground := Go.Ground.phase }, { on := 5, ground := Go.Ground.phase }], guard := none }) (v := ?v6p5) rfl (by kernel_rfl) (by kernel_rfl) (by kernel_rfl) (fun _ _ _ h => h) (Or.inl ⟨by rfl, ?hy6p5⟩) hHeld ?rest6p5
  case hy6p5 =>
    intro W' hV
    try dsimp only at hV
    go_simp
    all_goals with_reducible rfl
  case' rest6p5 => try simp only [Act.put, List.setIfInBounds_toArray, List.set_cons_zero, List.set_cons_succ]
  refine wpAnyH_done (by kernel_rfl) ?_ _
  clear hHeld
  go_wp2
  have HBW := Lib.hid (bt (HB.out.trans ((bt HB3.out HBD.out).mono (by have := HAS.out; omega))) HB4.out)
  refine bodyPost_ret (results_crewOf _ _ w.heap.size sC _ rfl rfl (setRow_heap _ _ _ _ _ _ HZ4.out) (by rw [HSC.out.1]; exact sizeCr)) rfl ⟨ao, co, by rw [← hn, HCA.out]; rfl, ?_, below_setRow HBW.out (Nat.le_refl _) _⟩
  rw [← hn]
  exact own_blockT (own_low HO4.out (by have := HV3.out; have := HBD.out.size; omega)) (fun g e => setRow_other _ _ _ _ (by have := (HO4.out.lt g e).1; have := HV3.out; have := HBD.out.size; omega))
end Go.Proofs.Ytbijakhdngbjmaa
