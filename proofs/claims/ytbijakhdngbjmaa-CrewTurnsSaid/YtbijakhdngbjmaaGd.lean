/- Package crew: together. -/
import Derived.Test.YtbijakhdngbjmaaGc
namespace Go.Proofs.Ytbijakhdngbjmaa
open Go.ChangeShapes Go.WideShapes Go.ChangeAt Go.RowKit Go.Shelf Go.Maps
set_option linter.unusedVariables false
set_option linter.unusedSimpArgs false
set_option maxRecDepth 100000
attribute [local go_sem] Oper.semAt_some

theorem kl_nm0 (d : Nat) (P : SU) (hP : P.Wf) : ∃ L, Try.prog.keyLits (d + 2) 32 (((tabV 13 (coV P)).toList.drop 0).take 8) = some L := by
  have hl : (((tabV 13 (coV P)).toList.drop 0).take 8).length = Try.prog.cellsOf 32 := by rw [cells_1.2.2.2.1]; simp [tabV]
  obtain ⟨ys, hys⟩ := mapM_some (f := fun i => Try.prog.keyLits (d + 1) 5 (((((tabV 13 (coV P)).toList.drop 0).take 8).drop (i * Try.prog.cellsOf 5)).take (Try.prog.cellsOf 5))) (l := List.range 8) (fun i hi => by
    have hi' := List.mem_range.1 hi
    rw [cells_1.1, Nat.mul_one, drop_take1 hi', Nat.zero_add, tabV_one1 _ (by omega), show coV P i = .int .u8 (P.nm.getD i 0) from if_pos hi']
    refine ⟨_, kl_u8 d _ ?_⟩
    exact allB_getD hP.nm.2 i)
  exact ⟨ys.flatten, by unfold Program.keyLits; rw [und8]; simp only [hl, if_true, hys]; rfl⟩
theorem cells_co : Try.prog.cellsOf 69 = 13 := by kernel_rfl
theorem fields_co : (Try.prog.fieldsOf 69).toList.all (fun f => decide (f.name ≠ "_") && decide ((f.type, f.offset) ∈ [(32, 0), (5, 8), (5, 9), (5, 10), (5, 11), (25, 12)])) = true := by kernel_rfl
theorem und_co : Try.prog.underlying 69 = some (.struct (Try.prog.fieldsOf 69)) := by kernel_rfl
theorem kl_co (d : Nat) (P : SU) (hP : P.Wf) : ∃ L, Try.prog.keyLits (d + 3) 69 (tabV 13 (coV P)).toList = some L := by
  have hl : (tabV 13 (coV P)).toList.length = Try.prog.cellsOf 69 := by rw [cells_co]; simp [tabV]
  have hn : (Try.prog.fieldsOf 69).all (fun f => f.name != "_") = true := by
    rw [Array.all_eq_true_iff_forall_mem]
    intro f hf
    have := List.all_eq_true.1 fields_co f (by simpa using hf)
    rw [Bool.and_eq_true] at this
    simpa using this.1
  have n1 : ∀ (k : Nat) (x : Int), k < 13 → coV P k = .int .u8 x → byteI x → ∃ y, Try.prog.keyLits (d + 2) 5 (((tabV 13 (coV P)).toList.drop k).take (Try.prog.cellsOf 5)) = some y := fun k x hk he hb => by
    rw [cells_1.1, tabV_one1 _ hk, he]; exact ⟨_, kl_u8 _ x hb⟩
  obtain ⟨ys, hys⟩ := mapM_some (f := fun f => Try.prog.keyLits (d + 2) f.type (((tabV 13 (coV P)).toList.drop f.offset).take (Try.prog.cellsOf f.type))) (l := (Try.prog.fieldsOf 69).toList) (fun f hf => by
    have h := List.all_eq_true.1 fields_co f hf
    rw [Bool.and_eq_true] at h
    have hm := of_decide_eq_true h.2
    obtain ⟨ft, fo, hfe⟩ : ∃ ft fo, (f.type, f.offset) = (ft, fo) := ⟨_, _, rfl⟩
    have e1 : f.type = ft := congrArg Prod.fst hfe
    have e2 : f.offset = fo := congrArg Prod.snd hfe
    rw [hfe] at hm
    rw [e1, e2]
    simp only [List.mem_cons, Prod.mk.injEq, List.not_mem_nil, or_false] at hm
    rcases hm with ⟨rfl, rfl⟩ | ⟨rfl, rfl⟩ | ⟨rfl, rfl⟩ | ⟨rfl, rfl⟩ | ⟨rfl, rfl⟩ | ⟨rfl, rfl⟩
    · rw [cells_1.2.2.2.1]; exact kl_nm0 d P hP
    · exact n1 8 P.n (by omega) rfl hP.n
    · exact n1 9 P.t (by omega) rfl hP.t
    · exact n1 10 P.m (by omega) rfl hP.m
    · exact n1 11 P.c (by omega) rfl hP.c
    · rw [cells_1.2.1, tabV_one1 _ (by omega), show coV P 12 = .int .u32 P.bl from rfl]; exact ⟨_, kl_u32 _ _ hP.bl⟩)
  exact ⟨ys.flatten, by unfold Program.keyLits; rw [und_co]; simp only [hl, hn, true_and, and_self, if_true, hys]; rfl⟩
theorem keyTy_co : Try.prog.keyTypeAt 3 69 = true := by kernel_rfl
theorem formed_co (P : SU) : (coA P).formed Try.prog 69 = true := by
  unfold coA Value.formed
  rw [und_co]
  simp [cells_co, tabV]
theorem eqCo (P : SU) (hP : P.Wf) (W : World) : (Op.equalIn 10000 69 (coA P) (coA P)).run Try.prog W = .ok true W := by
  obtain ⟨L, hL⟩ := kl_co 0 P hP
  obtain ⟨r, hr, hi⟩ := run_equalIn_deep (P := Try.prog) 9997 3 69 keyTy_co W 3 3 (coA P) (coA P) L L (formed_co P) (formed_co P) hL hL
  rw [hi.2 rfl] at hr
  exact hr
theorem neqCo (P : SU) (hP : P.Wf) (W : World) : (binOp .neq 69 (coA P) (coA P)).run Try.prog W = .ok (.bool false) W := by
  have h := eqCo P hP W
  unfold coA at h ⊢
  rw [run_neq_struct, h]; rfl
theorem guardCo (op : BinOp) (x y : Operand) (s t : Array Value) (W : World) : (eqGuard op 69 x y (.agg s) (.agg t)).run Try.prog W = .ok () W := by
  have h : Try.prog.eqGuardType Try.prog.depth 69 = false := by kernel_rfl
  unfold eqGuard
  cases op <;> simp [h]
/-- The places of the first k were seen. -/
def SeenP (SL : List SU) (k : Nat) (D : DataW Unit) : Prop := ∀ x, has D (.int .u8 x) = true ↔ ∃ j Q, j < k ∧ SL[j]? = some Q ∧ Q.p = x
theorem SeenP.zero (SL : List SU) : SeenP SL 0 (.map []) := fun x => ⟨fun h => by simp [has_eq] at h, fun ⟨j, _, hj, _⟩ => by omega⟩
theorem SeenP.next {SL : List SU} {k : Nat} {D : DataW Unit} (h : SeenP SL k D) (hT : Tidy D) {P : SU} (hP : SL[k]? = some P) (d : DataW Unit) : SeenP SL (k + 1) (D.put (.int .u8 P.p) d) := fun x => by
  by_cases e : x = P.p
  · subst e
    rw [has_put_same hT.isMap (by trivial) d]
    exact ⟨fun _ => ⟨k, P, by omega, hP, rfl⟩, fun _ => rfl⟩
  · rw [has_put_other (show (Lit.int .u8 x) ≠ .int .u8 P.p from fun h2 => by injection h2 with _ h2; exact e h2) d, h x]
    exact ⟨fun ⟨j, Q, hj, hq⟩ => ⟨j, Q, by omega, hq⟩, fun ⟨j, Q, hj, hq, he⟩ => ⟨j, Q, by rcases Nat.lt_succ_iff_lt_or_eq.1 hj with h | h; exact h; subst h; rw [hP] at hq; cases hq; exact absurd he.symm e, hq, he⟩⟩
theorem SeenP.not {SL : List SU} {k : Nat} {D : DataW Unit} (h : SeenP SL k D) (hu : Unlk SL) {P : SU} (hP : SL[k]? = some P) : has D (.int .u8 P.p) = false := by
  rw [Bool.eq_false_iff]
  intro ht
  obtain ⟨j, Q, hj, hq, he⟩ := (h _).1 ht
  obtain ⟨hk, hk2⟩ := List.getElem?_eq_some_iff.1 hP
  obtain ⟨hj1, hj2⟩ := List.getElem?_eq_some_iff.1 hq
  have := List.pairwise_iff_getElem.1 hu j k (by rw [List.length_map]; omega) (by rw [List.length_map]; omega) hj
  rw [List.getElem_map, List.getElem_map, hj2, hk2] at this
  exact this he
theorem SuB.range {w : World} {b : Nat} {P : SU} (h : SuB w b P) : w.rangeAt b 0 (suL P) := fun j v hj => by
  have hj2 : j < 276 := by
    rcases Nat.lt_or_ge j 276 with h | h
    · exact h
    · rw [List.getElem?_eq_none (by rw [suL_len]; exact h)] at hj; cases hj
  rw [suL_get P hj2] at hj
  have := h.cell (j := j) hj2
  rw [hj] at this
  rw [Nat.zero_add]
  exact this
theorem yields_loadAt {P : Program} {ops : Array Oper} {S : World → Prop} {op : Oper} {a : Act} (hw : Region.wanted op (yielded ops a.tmps) = true) (ty : TypeId) (x : Operand) (ho : op.op = .load ty x)
    {p v : Value} (hx : a.eval x = p) (hS : ∀ w, S w → (Instr.loadAt ty p).run P w = .ok v w) : YieldsIf P ops S op v a :=
  .inl ⟨hw, fun w hw' => by
    unfold execOp
    simp only [ho, hx, hS w hw', Sem.run_bind, Sem.run_pure, Result.andThen_ok]⟩
theorem yields_bin {P : Program} {ops : Array Oper} {S : World → Prop} {op : Oper} {a : Act} (hw : Region.wanted op (yielded ops a.tmps) = true) (b : BinOp) (t : TypeId) (x y : Operand) (t2 : TypeId) (ho : op.op = .binOp b t x y t2)
    {vx vy v : Value} (hx : a.eval x = vx) (hy : a.eval y = vy) (hg : ∀ w, (eqGuard b t x y vx vy).run P w = .ok () w) (hr : ∀ w, (binOp b t vx vy).run P w = .ok v w) : YieldsIf P ops S op v a :=
  .inl ⟨hw, fun w hw' => by
    unfold execOp
    simp only [ho, hx, hy, hg w, hr w, Sem.run_bind, Sem.run_pure, Result.andThen_ok]⟩
theorem ownsMap_on {H : Type} {P : Program} {k : TypeId} {R : Value → Option (DataW H × List MemPlace)} {b n B : Nat} {D : DataW H} {w w' : World} (h : w.ownsMap P k R b n D) (hb : Below B w w') (hB : b < B) : w'.ownsMap P k R b n D := by
  obtain ⟨es, clock, h1, h2⟩ := h
  exact ⟨es, clock, (hb.block b hB).trans h1, h2⟩
theorem lawP : Keyed Try.prog 5 := int_keyed Try.underlying5
theorem zeroE (w : World) : (zeroValue 71).run Try.prog w = .ok (.agg #[]) w := by kernel_rfl
theorem sizeE : (Try.prog.info? 71).map (·.size) = some 0 := by kernel_rfl
theorem built_e : Try.prog.built 71 [] = some #[] := by kernel_rfl
/-- A row made and filled at once. -/
theorem alloc_setRow (w : World) (c s : Array Value) (T : TypeId) : (w.alloc (.cells c T)).setRow w.heap.size s = w.alloc (.cells s T) := by
  have h : ∀ (h : Array Obj), (h.push (.cells c T)).modify h.size (fun | .cells _ elem frozen => .cells s elem frozen | o => o) = h.push (.cells s T) := fun h => by
    apply Array.ext_getElem?
    intro i
    rw [Array.getElem?_modify]
    by_cases e : h.size = i
    · subst e; simp
    · rw [if_neg e]
      by_cases h2 : i < h.size
      · rw [Array.getElem?_push_lt h2, Array.getElem?_push_lt h2]
      · rw [Array.getElem?_eq_none (by simp; omega), Array.getElem?_eq_none (by simp; omega)]
  unfold World.setRow World.alloc
  exact congrArg (fun x => ({ w with heap := x } : World)) (h w.heap)
/-- Supers that belong together. -/
structure Tog (SL : List SU) : Prop where
  wf : ∀ P ∈ SL, P.Wf
  co : ∀ P ∈ SL, ∀ Q ∈ SL, Co P = Co Q
  un : Unlk SL
  le : SL.length ≤ 100
set_option maxHeartbeats 8000000 in
theorem together_any (a : Option Addr) (L c : Nat) (SL : List SU) (w : World) (hI : SuR w a L c SL) (hT : Tog SL) :
    Calls Try.prog 22 #[.slice a L c] w fun e w' => e = .returned (.bool true) ∧ Below w.heap.size w w' := by
  obtain ⟨hb1, hb2⟩ := hI.bd
  have hl : SL.length = L := hI.1
  have hL9 : L ≤ 100 := by rw [← hl]; exact hT.le
  have HL := Lib.hid hl
  have HI := Lib.hid hI
  have HT := Lib.hid hT
  have hmm := @run_makeMap Try.prog
  obtain ⟨hz0, hi0⟩ := zero_of_info infoSu
  clear hi0
  obtain ⟨c0, hc0⟩ : ∃ s, s = tabV 276 (suV suZ) := ⟨_, rfl⟩
  rw [← hc0] at hz0
  have HC0 := Lib.hid (show c0.size = 276 by rw [hc0, size_tabV])
  have hzE := zeroE
  clear hl hI hT hc0
  go_enter Try.func22, Try.ntmps22
  go_wp2
  go_loopw [11] (fun iv wr => ∃ (k : Nat) (D : DataW Unit), k ≤ L ∧ iv = .int .i64 (k : Nat) ∧ wr.ownsMap Try.prog 5 unitElem w.heap.size k D ∧ Hid (SeenP SL k D) ∧ Hid (Below w.heap.size w wr)) (fun iv _ => L - (intOf iv).toNat)
  case atStart => exact ⟨0, .map [], Nat.zero_le _, rfl, World.ownsMap_made _ _ _ _, Lib.hid (SeenP.zero SL), Lib.hid ((Below.refl _ _).alloc (Nat.le_refl _) _)⟩
  case round =>
    obtain ⟨k, D, hk, rfl, hown, hS, hnx⟩ := hrel
    by_cases hlt : k < L
    · obtain ⟨b, off, P, ha, hbl, hPk, hrg⟩ := (HI.out.on hnx.out).at_ hlt
      obtain ⟨b', off', P0, ha', hbl', hP0, hrg0⟩ := (HI.out.on hnx.out).at_ (i := 0) (by omega)
      subst ha
      cases ha'
      have hPm := List.mem_of_getElem? hPk
      have hPw := HT.out.wf P hPm
      have hco : coA P = coA P0 := coA_eq (HT.out.co P hPm P0 (List.mem_of_getElem? hP0))
      have hnot := hS.out.not HT.out.un hPk
      have HTD := Lib.hid (hown.tidy lawP)
      have HOW := Lib.hid hown
      have HRG := Lib.hid hrg
      have HRG0 := Lib.hid hrg0
      have HPW := Lib.hid hPw
      have HCO := Lib.hid hco
      have HNX := Lib.hid hnx.out
      have HLT := Lib.hid hlt
      have HPK := Lib.hid hPk
      have HBL := Lib.hid hbl
      have HNOT := Lib.hid hnot
      have q1 : (k : Int) < (L : Int) := by omega
      have q00 : 0 < L := by omega
      clear hown hrg hrg0 hPw hco hnx hlt hPk hP0 hPm hbl hbl' hnot
      obtain ⟨s0, hs0⟩ : ∃ s, s = tabV 276 (suV P) := ⟨_, rfl⟩
      have HS0 := Lib.hid (show s0.size = 276 ∧ s0.all (·.oneCell') = true by rw [hs0]; exact ⟨size_tabV _ _, tabV_one (suV_one P)⟩)
      have HSS := Lib.hid hs0
      clear hs0
      go_upto_region 5 with (first
        | ((with_reducible show wpList _ _ _ (⟨some 14, _, _, _, _, _⟩ :: _) _ _); go_loud (refine wpList_load_mid rfl 35 (.tmp 13) rfl b (off + k * 276) rfl (suL P) _ HRG.out Try.underlying35 rfl (by rw [suL_len]; exact sizeSu) ?_; rw [suL_arr, ← HSS.out]))
        | ((with_reducible show wpList _ _ _ (⟨none, Op.store 35 _ _, _, _, _, _⟩ :: _) _ _); go_loud (refine wpList_store_row rfl 35 (.tmp 5) (.tmp 14) rfl wr.heap.size s0 rfl rfl 35 c0 (heap_alloc_new _ _) (by rw [HS0.out.1]; exact sizeSu) (by rw [HS0.out.1, HC0.out]) HS0.out.2 ?_)))
      change Code.wp _ _ _ _ ((wr.alloc (Obj.cells c0 35)).setRow wr.heap.size s0)
      rw [alloc_setRow]
      obtain ⟨hBV, hSV⟩ := su_box P wr
      rw [← HSS.out] at hBV hSV
      have HBV := Lib.hid hBV
      generalize hV : wr.alloc (Obj.cells s0 35) = V at HBV hSV ⊢
      have HVS := Lib.hid (show V.heap.size = wr.heap.size + 1 by rw [← hV]; simp)
      have HSV := Lib.hid hSV
      have hld1 : ∀ W, Below V.heap.size V W → (Instr.loadAt 35 (.pointer (some ⟨wr.heap.size, 0, none⟩))).run Try.prog W = .ok (.agg s0) W := fun W hW => by
        have := run_loadAt_mid (P := Try.prog) W wr.heap.size 0 35 (suL P) _ (SuB.range (HSV.out.on hW)) Try.underlying35 rfl (by rw [suL_len]; exact sizeSu)
        rw [suL_arr, ← HSS.out] at this
        exact this
      obtain ⟨s1, hs1⟩ : ∃ s, s = tabV 276 (suV P0) := ⟨_, rfl⟩
      have hld2 : ∀ W, Below V.heap.size V W → (Instr.loadAt 35 (.pointer (some ⟨b, off, none⟩))).run Try.prog W = .ok (.agg s1) W := fun W hW => by
        have := run_loadAt_mid (P := Try.prog) W b off 35 (suL P0) _ (fun j v hj => (hW.cell (p := ⟨b, off + j, none⟩) (by have := HBL.out; have := HVS.out; show b < V.heap.size; omega)).trans ((HBV.out.cell (p := ⟨b, off + j, none⟩) HBL.out).trans (by have := HRG0.out j v hj; rw [Nat.zero_mul] at this; exact this))) Try.underlying35 rfl (by rw [suL_len]; exact sizeSu)
        rw [suL_arr, ← hs1] at this
        exact this
      obtain ⟨cc, hcc⟩ : ∃ s, s = tabV 13 (coV P) := ⟨_, rfl⟩
      have HF1 := Lib.hid (show ∀ W, Calls Try.prog 27 #[.agg s0] W fun e w' => e = .returned (.agg cc) ∧ Below W.heap.size W w' from fun W => by rw [HSS.out, hcc]; exact commonOf_any P W)
      have HF2 := Lib.hid (show ∀ W, Calls Try.prog 27 #[.agg s1] W fun e w' => e = .returned (.agg cc) ∧ Below W.heap.size W w' from fun W => by rw [hs1, hcc]; have := commonOf_any P0 W; rw [← HCO.out] at this; exact this)
      have hneq : ∀ W, (binOp .neq 69 (.agg cc) (.agg cc)).run Try.prog W = .ok (.bool false) W := fun W => by rw [hcc]; exact neqCo P HPW.out W
      have hgu : ∀ (x y : Operand) W, (eqGuard .neq 69 x y (.agg cc) (.agg cc)).run Try.prog W = .ok () W := fun x y W => guardCo _ _ _ _ _ W
      clear hV hSV hBV hs1 hcc
      refine wp_region_held_drew (S := (fun W => Below V.heap.size V W)) (by kernel_rfl) (Below.refl _ _).drew (fun hHeld => ?_)
      refine wpAnyH_take (i := 0) (oi := { dst := some 15, op := Go.Op.load 35 (Go.Operand.tmp 5), type := 35, pos := "crew.go:34", after := #[], guard := none }) (v := .agg s0) rfl (by kernel_rfl) (by kernel_rfl) (by kernel_rfl) (fun _ _ _ h => h) (yields_loadAt (by rfl) 35 (.tmp 5) rfl (by rfl) (fun W h => hld1 W h)) hHeld ?rest0p1
      case' rest0p1 => try simp only [Act.put, List.setIfInBounds_toArray, List.set_cons_zero, List.set_cons_succ]
      refine wpAnyH_take (i := 2) (oi := { dst := some 17, op := Go.Op.move (Go.Operand.tmp 0), type := 28, pos := "crew.go:34", after := #[], guard := none }) (v := ?v2p2) rfl (by kernel_rfl) (by kernel_rfl) (by kernel_rfl) (fun _ _ _ h => h) (Or.inl ⟨by rfl, ?hy2p2⟩) hHeld ?rest2p2
      case hy2p2 =>
        intro W' hV
        try dsimp only at hV
        go_simp
        all_goals with_reducible rfl
      case' rest2p2 => try simp only [Act.put, List.setIfInBounds_toArray, List.set_cons_zero, List.set_cons_succ]
      refine wpAnyH_take (i := 3) (oi := { dst := some 18, op := Go.Op.indexAddr 28 (Go.Operand.tmp 17) (Go.Operand.const (Go.Value.int Go.IntKind.i64 0)), type := 0, pos := "crew.go:34", after := #[{ on := 2, ground := Go.Ground.data }], guard := none }) (v := ?v3p3) rfl (by kernel_rfl) (by kernel_rfl) (by kernel_rfl) (fun _ _ _ h => h) (Or.inl ⟨by rfl, ?hy3p3⟩) hHeld ?rest3p3
      case hy3p3 =>
        intro W' hV
        try dsimp only at hV
        go_simp
        all_goals with_reducible rfl
      case' rest3p3 => try simp only [Act.put, List.setIfInBounds_toArray, List.set_cons_zero, List.set_cons_succ]
      refine wpAnyH_take (i := 4) (oi := { dst := some 19, op := Go.Op.load 35 (Go.Operand.tmp 18), type := 35, pos := "crew.go:34", after := #[{ on := 3, ground := Go.Ground.data }], guard := none }) (v := .agg s1) rfl (by kernel_rfl) (by kernel_rfl) (by kernel_rfl) (fun _ _ _ h => h) (yields_loadAt (by rfl) 35 (.tmp 18) rfl (by rfl) (fun W h => hld2 W h)) hHeld ?rest4p4
      case' rest4p4 => try simp only [Act.put, List.setIfInBounds_toArray, List.set_cons_zero, List.set_cons_succ]
      generalize V.drew = V1 at hHeld ⊢
      have HV1 := Lib.hid hHeld
      refine wpAnyH_ready (rs := [1]) (by kernel_rfl) (by simp) ?_
      refine AllReadyH.cons (o := { dst := some 16, op := Go.Op.call { callee := Go.Callee.value (Go.Operand.func 27), args := #[Go.Operand.tmp 15], argTypes := #[35] }, type := 69, pos := "crew.go:34", after := #[{ on := 0, ground := Go.Ground.data }], guard := none }) rfl (fun K' hK => ?_) AllReadyH.nil
      rw [if_pos (by rfl)]
      go_wp2_with (go_at_call 27; go_loud ((with_reducible refine (HF1.out _).mono ?_); rintro e w3 ⟨rfl, hb3⟩))
      refine hK.out _ _ (bt HV1.out hb3) (fun hHeld1 => ?_)
      clear hK K' hHeld
      have hHeld := hHeld1
      clear hHeld1
      try simp only [Act.put, List.setIfInBounds_toArray, List.set_cons_zero, List.set_cons_succ]
      have HV3 := Lib.hid hHeld
      refine wpAnyH_ready (rs := [5]) (by kernel_rfl) (by simp) ?_
      refine AllReadyH.cons (o := { dst := some 20, op := Go.Op.call { callee := Go.Callee.value (Go.Operand.func 27), args := #[Go.Operand.tmp 19], argTypes := #[35] }, type := 69, pos := "crew.go:34", after := #[{ on := 4, ground := Go.Ground.data }, { on := 1, ground := Go.Ground.chain }], guard := none }) rfl (fun K' hK => ?_) AllReadyH.nil
      rw [if_pos (by rfl)]
      go_wp2_with (go_at_call 27; go_loud ((with_reducible refine (HF2.out _).mono ?_); rintro e w4 ⟨rfl, hb4⟩))
      refine hK.out _ _ (bt HV3.out hb4) (fun hHeld1 => ?_)
      clear hK K' hHeld
      have hHeld := hHeld1
      clear hHeld1
      try simp only [Act.put, List.setIfInBounds_toArray, List.set_cons_zero, List.set_cons_succ]
      refine wpAnyH_take (i := 6) (oi := { dst := some 21, op := Go.Op.binOp Go.BinOp.neq 69 (Go.Operand.tmp 16) (Go.Operand.tmp 20) 69, type := 4, pos := "crew.go:34", after := #[{ on := 1, ground := Go.Ground.data }, { on := 5, ground := Go.Ground.data }], guard := none }) (v := .bool false) rfl (by kernel_rfl) (by kernel_rfl) (by kernel_rfl) (fun _ _ _ h => h) (yields_bin (by rfl) .neq 69 (.tmp 16) (.tmp 20) 69 rfl rfl rfl (hgu _ _) hneq) hHeld ?rest6p5
      case' rest6p5 => try simp only [Act.put, List.setIfInBounds_toArray, List.set_cons_zero, List.set_cons_succ]
      have HV4 := Lib.hid hHeld
      refine wpAnyH_done (by kernel_rfl) ?_ _
      clear hHeld
      have HW4 := Lib.hid (bt (bt HNX.out HBV.out) HV4.out)
      have hlw := HOW.out
      have hlw2 : w.heap.size < wr.heap.size := by
        obtain ⟨es, clock, h1, h2⟩ := hlw
        exact (Array.getElem?_eq_some_iff.1 h1).1
      clear hlw
      have hown4 : w4.ownsMap Try.prog 5 unitElem w.heap.size k D := ownsMap_on HOW.out (bt HBV.out HV4.out) hlw2
      have hown5 : (w4.alloc (Obj.cells #[] 71)).ownsMap Try.prog 5 unitElem w.heap.size k D := ownsMap_on hown4 ((Below.refl _ _).alloc (Nat.le_refl _) _) (by have := HBV.out.size; have := HV4.out.size; omega)
      have HB5 := Lib.hid (HW4.out.alloc HW4.out.size (.cells #[] 71))
      clear hlw2
      have hnot := HNOT.out
      have hkey : keyOf Try.prog 5 (.int .u8 P.p) = some (.int .u8 P.p) := keyOf_int_mk Try.underlying5 (w8 HPW.out.p)
      have hcp5 : (w4.alloc (Obj.cells #[] 71)).cell? ⟨wr.heap.size, 8, none⟩ = some (.int .u8 P.p) := (((HSV.out.on HV4.out).on ((Below.refl _ _).alloc (Nat.le_refl _) _))).num.1
      have hcp : w4.cell? ⟨wr.heap.size, 8, none⟩ = some (.int .u8 P.p) := (HSV.out.on HV4.out).num.1
      clear hld1 hld2 hneq hgu
      go_wp2_with (first
        | (at_lookup; go_loud (refine wpList_lookup_own_unit _ rfl _ _ 67 rfl 5 71 lawP Try.underlying67 (zeroE _) w.heap.size k D rfl hown4 _ _ rfl hkey ?_))
        | (at_mapUpdate; go_loud (refine wpList_mapUpdate_own _ rfl _ _ _ 67 rfl 5 71 lawP Try.underlying67 _ w.heap.size k _ rfl hown5 (by unfold maxLen; omega) _ _ _ rfl rfl hkey _ [] unitElem_mk ?_; intro w6 hown6 hgrow6)))
      go_roundw
      case rel => exact ⟨k + 1, _, HLT.out, by go_num, hown6, Lib.hid (hS.out.next HTD.out HPK.out _), Lib.hid (HB5.out.grown hgrow6 HB5.out.size (fun j hj => by cases hj; exact Nat.le_refl _))⟩
      case measure => simp [intOf]; have := HLT.out; omega
    · obtain rfl : k = L := by omega
      have HNX := Lib.hid hnx.out
      have q1 : ¬ (k : Int) < (k : Int) := by omega
      go_wp2
      go_ret
      exact ⟨rfl, HNX.out⟩
end Go.Proofs.Ytbijakhdngbjmaa
