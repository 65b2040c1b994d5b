/- Supers are compared; rows read whole where an order is drawn. -/
import Derived.Test.YtadcgngiofdhcaaDoorIx
import Derived.DeepKeys
import Derived.Deep.RegionHeld
namespace Go.Proofs.YtadcgngiofdhcaaDoor
open Go.ChangeShapes Go.WideShapes Go.ChangeAt Go.RowKit Go.Shelf
set_option linter.unusedVariables false
set_option linter.unusedSimpArgs false
set_option maxRecDepth 100000

theorem wpList_binG {P : Program} {ops : Array Oper} {rest : List Oper} {o : Oper} {a : Act} {w : World} {Q : Exit → Act → World → Prop} (hw : Region.wanted o (yielded ops a.tmps) = true) (op : BinOp) (t : TypeId) (x y : Operand) (t2 : TypeId) (ho : o.op = .binOp op t x y t2)
    (vx vy v : Value) (hx : a.eval x = vx) (hy : a.eval y = vy) (hg : (eqGuard op t x y vx vy).run P w = .ok () w) (hr : (binOp op t vx vy).run P w = .ok v w)
    (h : wpList P ops Q rest (a.put o.dst v) w) : wpList P ops Q (o :: rest) a w :=
  wpList_step fun K hK => by
    rw [if_pos hw]
    unfold Oper.wp execOp
    simp only [ho, hx, hy, Sem.run_bind, Sem.run_pure, Result.andThen_ok, hg, hr]
    exact hK _ _ h
theorem yieldsIf_load_row {P : Program} {ops : Array Oper} {S : World → Prop} {op : Oper} {a : Act} (hw : Region.wanted op (yielded ops a.tmps) = true) (ty : TypeId) (x : Operand) (ho : op.op = .load ty x)
    (g : Nat) (hx : a.eval x = .pointer (some ⟨g, 0, none⟩)) (t : TypeId) (cs : Array Value) (fr : Nat × Nat) (d : TypeDesc) (hS : ∀ w, S w → w.heap[g]? = some (.cells cs t fr))
    (hu : P.underlying ty = some d) (hd : (match d with | .struct _ | .array _ _ => true | _ => false) = true) (hi : (P.info? ty).map (·.size) = some cs.size) : YieldsIf P ops S op (.agg cs) a :=
  .inl ⟨hw, fun w hw' => by
    have hr := run_loadVar_row (P := P) w g t ty cs fr d (hS w hw') hu hd hi
    unfold execOp
    simp only [ho, hx, Instr.loadAt, Instr.sureAddr, Sem.run_bind, Sem.run_pure, Result.andThen_ok, hr]⟩
theorem mapM_some {α β : Type} {f : α → Option β} : ∀ {l : List α}, (∀ x ∈ l, ∃ y, f x = some y) → ∃ ys, l.mapM f = some ys
  | [], _ => ⟨[], rfl⟩
  | x :: l, h => by
    obtain ⟨y, hy⟩ := h x (List.mem_cons_self ..)
    obtain ⟨ys, hys⟩ := mapM_some (l := l) (fun z hz => h z (List.mem_cons_of_mem _ hz))
    exact ⟨y :: ys, by rw [List.mapM_cons, hy, hys]; rfl⟩
theorem tabV_one1 (g : Nat → Value) {n k : Nat} (h : k < n) : ((tabV n g).toList.drop k).take 1 = [g k] := by
  apply List.ext_getElem?
  intro i
  cases i with
  | zero => simp [tabV, List.getElem?_drop, h]
  | succ i => simp [List.getElem?_take]
theorem drop_take1 {cs : List Value} {o n i : Nat} (h : i < n) : (((cs.drop o).take n).drop i).take 1 = (cs.drop (o + i)).take 1 := by
  apply List.ext_getElem?
  intro j
  cases j with
  | zero => simp [List.getElem?_take, List.getElem?_drop, h]
  | succ j => simp [List.getElem?_take]
theorem kl_u8 (d : Nat) (x : Int) (h : byteI x) : Tryd.prog.keyLits (d + 1) 5 [.int .u8 x] = some [.int .u8 x] := by
  have hw : (Lit.int .u8 x).wf = true := by unfold byteI at h; simp [Lit.wf, IntKind.min, IntKind.max, IntKind.bits, IntKind.signed]; omega
  simp [Program.keyLits, Tryd.underlying5, hw]
theorem kl_u32 (d : Nat) (x : Int) (h : u32I x) : Tryd.prog.keyLits (d + 1) 23 [.int .u32 x] = some [.int .u32 x] := by
  simp [Program.keyLits, Tryd.underlying23, w32 h]
theorem kl_bool (d : Nat) (x : Bool) : Tryd.prog.keyLits (d + 1) 4 [.bool x] = some [.bool x] := by
  simp [Program.keyLits, Tryd.underlying4]
theorem cells_1 : Tryd.prog.cellsOf 5 = 1 ∧ Tryd.prog.cellsOf 23 = 1 ∧ Tryd.prog.cellsOf 4 = 1 ∧ Tryd.prog.cellsOf 27 = 8 ∧ Tryd.prog.cellsOf 28 = 256 ∧ Tryd.prog.cellsOf 30 = 276 := by
  refine ⟨?_, ?_, ?_, ?_, ?_, ?_⟩ <;> kernel_rfl
theorem kl_nm (d : Nat) (P : SU) (hP : P.Wf) : ∃ L, Tryd.prog.keyLits (d + 2) 27 (((tabV 276 (suV P)).toList.drop 0).take 8) = some L := by
  have hl : (((tabV 276 (suV P)).toList.drop 0).take 8).length = Tryd.prog.cellsOf 27 := by rw [cells_1.2.2.2.1]; simp [tabV]
  obtain ⟨ys, hys⟩ := mapM_some (f := fun i => Tryd.prog.keyLits (d + 1) 5 (((((tabV 276 (suV P)).toList.drop 0).take 8).drop (i * Tryd.prog.cellsOf 5)).take (Tryd.prog.cellsOf 5))) (l := List.range 8) (fun i hi => by
    have hi' := List.mem_range.1 hi
    rw [cells_1.1, Nat.mul_one, drop_take1 hi', Nat.zero_add, tabV_one1 _ (by omega), suV_nm P hi']
    refine ⟨_, kl_u8 d _ ?_⟩
    exact allB_getD hP.nm.2 i)
  exact ⟨ys.flatten, by unfold Program.keyLits; rw [und8]; simp only [hl, if_true, hys]; rfl⟩
theorem kl_in (d : Nat) (P : SU) : ∃ L, Tryd.prog.keyLits (d + 2) 28 (((tabV 276 (suV P)).toList.drop 16).take 256) = some L := by
  have hl : (((tabV 276 (suV P)).toList.drop 16).take 256).length = Tryd.prog.cellsOf 28 := by rw [cells_1.2.2.2.2.1]; simp [tabV]
  obtain ⟨ys, hys⟩ := mapM_some (f := fun i => Tryd.prog.keyLits (d + 1) 4 (((((tabV 276 (suV P)).toList.drop 16).take 256).drop (i * Tryd.prog.cellsOf 4)).take (Tryd.prog.cellsOf 4))) (l := List.range 256) (fun i hi => by
    have hi' := List.mem_range.1 hi
    rw [cells_1.2.2.1, Nat.mul_one, drop_take1 hi', tabV_one1 _ (by omega), suV_in P hi']
    exact ⟨_, kl_bool d _⟩)
  exact ⟨ys.flatten, by unfold Program.keyLits; rw [und256]; simp only [hl, if_true, hys]; rfl⟩
theorem fields_su : (Tryd.prog.fieldsOf 30).toList.all (fun f => decide (f.name ≠ "_") && decide ((f.type, f.offset) ∈ [(27, 0), (5, 8), (5, 9), (5, 10), (5, 11), (5, 12), (23, 13), (23, 14), (23, 15), (28, 16), (23, 272), (23, 273), (5, 274), (23, 275)])) = true := by kernel_rfl
theorem und_su : Tryd.prog.underlying 30 = some (.struct (Tryd.prog.fieldsOf 30)) := by kernel_rfl
theorem kl_su (d : Nat) (P : SU) (hP : P.Wf) : ∃ L, Tryd.prog.keyLits (d + 3) 30 (tabV 276 (suV P)).toList = some L := by
  have hl : (tabV 276 (suV P)).toList.length = Tryd.prog.cellsOf 30 := by rw [cells_1.2.2.2.2.2]; simp [tabV]
  have hn : (Tryd.prog.fieldsOf 30).all (fun f => f.name != "_") = true := by
    rw [Array.all_eq_true_iff_forall_mem]
    intro f hf
    have := List.all_eq_true.1 fields_su f (by simpa using hf)
    rw [Bool.and_eq_true] at this
    simpa using this.1
  have n1 : ∀ (k : Nat) (x : Int), k < 276 → suV P k = .int .u8 x → byteI x → ∃ y, Tryd.prog.keyLits (d + 2) 5 (((tabV 276 (suV P)).toList.drop k).take (Tryd.prog.cellsOf 5)) = some y := fun k x hk he hb => by
    rw [cells_1.1, tabV_one1 _ hk, he]; exact ⟨_, kl_u8 _ x hb⟩
  have n4 : ∀ (k : Nat) (x : Int), k < 276 → suV P k = .int .u32 x → u32I x → ∃ y, Tryd.prog.keyLits (d + 2) 23 (((tabV 276 (suV P)).toList.drop k).take (Tryd.prog.cellsOf 23)) = some y := fun k x hk he hb => by
    rw [cells_1.2.1, tabV_one1 _ hk, he]; exact ⟨_, kl_u32 _ x hb⟩
  obtain ⟨ys, hys⟩ := mapM_some (f := fun f => Tryd.prog.keyLits (d + 2) f.type (((tabV 276 (suV P)).toList.drop f.offset).take (Tryd.prog.cellsOf f.type))) (l := (Tryd.prog.fieldsOf 30).toList) (fun f hf => by
    have h := List.all_eq_true.1 fields_su f hf
    rw [Bool.and_eq_true] at h
    have hm := of_decide_eq_true h.2
    obtain ⟨ft, fo, hfe⟩ : ∃ ft fo, (f.type, f.offset) = (ft, fo) := ⟨_, _, rfl⟩
    have e1 : f.type = ft := congrArg Prod.fst hfe
    have e2 : f.offset = fo := congrArg Prod.snd hfe
    rw [hfe] at hm
    rw [e1, e2]
    simp only [List.mem_cons, Prod.mk.injEq, List.not_mem_nil, or_false] at hm
    rcases hm with ⟨rfl, rfl⟩ | ⟨rfl, rfl⟩ | ⟨rfl, rfl⟩ | ⟨rfl, rfl⟩ | ⟨rfl, rfl⟩ | ⟨rfl, rfl⟩ | ⟨rfl, rfl⟩ | ⟨rfl, rfl⟩ | ⟨rfl, rfl⟩ | ⟨rfl, rfl⟩ | ⟨rfl, rfl⟩ | ⟨rfl, rfl⟩ | ⟨rfl, rfl⟩ | ⟨rfl, rfl⟩
    · rw [cells_1.2.2.2.1]; exact kl_nm d P hP
    · exact n1 8 P.p (by omega) rfl hP.p
    · exact n1 9 P.n (by omega) rfl hP.n
    · exact n1 10 P.t (by omega) rfl hP.t
    · exact n1 11 P.m (by omega) rfl hP.m
    · exact n1 12 P.c (by omega) rfl hP.c
    · exact n4 13 P.bl (by omega) rfl hP.bl
    · exact n4 14 P.bo (by omega) rfl hP.bo
    · exact n4 15 P.ep (by omega) rfl hP.ep
    · rw [cells_1.2.2.2.2.1]; exact kl_in d P
    · exact n4 272 P.rf (by omega) rfl hP.rf
    · exact n4 273 P.sc (by omega) rfl hP.sc
    · exact n1 274 P.tg (by omega) rfl hP.tg
    · exact n4 275 P.rs (by omega) rfl hP.rs)
  exact ⟨ys.flatten, by unfold Program.keyLits; rw [und_su]; simp only [hl, hn, true_and, and_self, if_true, hys]; rfl⟩
theorem keyTy_su : Tryd.prog.keyTypeAt 3 30 = true := by kernel_rfl
theorem formed_su (P : SU) : (suA P).formed Tryd.prog 30 = true := by
  unfold suA Value.formed
  rw [und_su]
  simp [cells_1.2.2.2.2.2, tabV]
/-- A super is the same as itself. -/
theorem eqSu (P : SU) (hP : P.Wf) (W : World) : (Op.equalIn 10000 30 (suA P) (suA P)).run Tryd.prog W = .ok true W := by
  obtain ⟨L, hL⟩ := kl_su 0 P hP
  obtain ⟨r, hr, hi⟩ := run_equalIn_deep (P := Tryd.prog) 9997 3 30 keyTy_su W 3 3 (suA P) (suA P) L L (formed_su P) (formed_su P) hL hL
  rw [hi.2 rfl] at hr
  exact hr
theorem eqlSu (P : SU) (hP : P.Wf) (W : World) : (binOp .eql 30 (suA P) (suA P)).run Tryd.prog W = .ok (.bool true) W := by
  have h := eqSu P hP W
  unfold suA at h ⊢
  rw [run_eql_struct, h]; rfl
theorem neqSu (P : SU) (hP : P.Wf) (W : World) : (binOp .neq 30 (suA P) (suA P)).run Tryd.prog W = .ok (.bool false) W := by
  have h := eqSu P hP W
  unfold suA at h ⊢
  rw [run_neq_struct, h]; rfl
theorem guardSu (op : BinOp) (x y : Operand) (s t : Array Value) (W : World) : (eqGuard op 30 x y (.agg s) (.agg t)).run Tryd.prog W = .ok () W := by
  have h : Tryd.prog.eqGuardType Tryd.prog.depth 30 = false := by kernel_rfl
  unfold eqGuard
  cases op <;> simp [h]
end Go.Proofs.YtadcgngiofdhcaaDoor
