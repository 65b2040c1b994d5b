/- Supers in memory (out of Jm, Iu, Iv, Iw, Ix, Iy, Rd2: no hash, no bytes). -/
import Derived.Test.YtbijakhdngbjmaaIs
import Derived.Test.YtbijakhdngbjmaaBj
import Derived.DeepKeys
import Derived.Deep.RegionHeld
import Derived.Laws.CopyOwn
import Derived.Lib.SlBytesConst
import Derived.ArgAppend
import Derived.Deep.MidRow
import Derived.Great.BuildSlice
import Derived.IntWalk
import Derived.Laws.Cover1
import Derived.Laws.Cover3
import Derived.Lib.ConvBytes
import Derived.Lib.SmallJoins
import Derived.Maps.AppendAt
import Derived.Shelf.RegionOpen
namespace Go.Proofs.Ytbijakhdngbjmaa
open Go.ChangeShapes Go.WideShapes Go.ChangeAt Go.RowKit Go.Shelf
set_option linter.unusedVariables false
set_option linter.unusedSimpArgs false
set_option maxRecDepth 100000
attribute [local go_sem] Oper.semAt_some

/-- Cells laid into a row. -/
theorem splice_tabV {n o : Nat} {f : Nat → Value} {cs : List Value} (h : o + cs.length ≤ n) :
    ((tabV n f).toList.take o ++ (cs ++ (tabV n f).toList.drop (o + cs.length))).toArray = tabV n (fun j => if o ≤ j ∧ j < o + cs.length then cs.getD (j - o) (.bool false) else f j) := by
  apply Array.ext_getElem?
  intro j
  have hl : ((tabV n f).toList.take o).length = o := by simp [size_tabV]; omega
  rw [List.getElem?_toArray]
  by_cases h1 : j < o
  · rw [List.getElem?_append_left (by omega), get_tabV (by omega), if_neg (by omega), List.getElem?_take, if_pos h1, Array.getElem?_toList, get_tabV (by omega)]
  · rw [List.getElem?_append_right (by omega), hl]
    by_cases h2 : j < o + cs.length
    · rw [List.getElem?_append_left (by omega), get_tabV (by omega), if_pos (by omega), List.getD_eq_getElem?_getD, List.getElem?_eq_getElem (by omega)]
      rfl
    · rw [List.getElem?_append_right (by omega), List.getElem?_drop, Array.getElem?_toList, show o + cs.length + (j - o - cs.length) = j by omega]
      by_cases h3 : j < n
      · rw [get_tabV h3, get_tabV h3, if_neg (by omega)]
      · rw [Array.getElem?_eq_none (by rw [size_tabV]; omega), Array.getElem?_eq_none (by rw [size_tabV]; omega)]
/-- At b lies a super. -/
def SuB (w : World) (b : Nat) (P : SU) : Prop := Blk w b 35 276 (suV P)
theorem su_box (P : SU) (w : World) : Below w.heap.size w (w.alloc (.cells (tabV 276 (suV P)) 35)) ∧ SuB (w.alloc (.cells (tabV 276 (suV P)) 35)) w.heap.size P :=
  ⟨(Below.refl _ _).alloc (Nat.le_refl _) _, Blk.made _ _ _ _⟩
theorem SuB.num {w : World} {b : Nat} {P : SU} (h : SuB w b P) : w.cell? ⟨b, 8, none⟩ = some (.int .u8 P.p) ∧ w.cell? ⟨b, 9, none⟩ = some (.int .u8 P.n) ∧ w.cell? ⟨b, 10, none⟩ = some (.int .u8 P.t) ∧ w.cell? ⟨b, 11, none⟩ = some (.int .u8 P.m) ∧ w.cell? ⟨b, 12, none⟩ = some (.int .u8 P.c) ∧
    w.cell? ⟨b, 13, none⟩ = some (.int .u32 P.bl) ∧ w.cell? ⟨b, 14, none⟩ = some (.int .u32 P.bo) ∧ w.cell? ⟨b, 15, none⟩ = some (.int .u32 P.ep) ∧ w.cell? ⟨b, 272, none⟩ = some (.int .u32 P.rf) ∧ w.cell? ⟨b, 273, none⟩ = some (.int .u32 P.sc) ∧ w.cell? ⟨b, 274, none⟩ = some (.int .u8 P.tg) ∧ w.cell? ⟨b, 275, none⟩ = some (.int .u32 P.rs) :=
  ⟨h.cell (by omega), h.cell (by omega), h.cell (by omega), h.cell (by omega), h.cell (by omega), h.cell (by omega), h.cell (by omega), h.cell (by omega), h.cell (by omega), h.cell (by omega), h.cell (by omega), h.cell (by omega)⟩
theorem SuB.inn {w : World} {b : Nat} {P : SU} (h : SuB w b P) {j : Nat} (hj : j < 256) : w.cell? ⟨b, 16 + j, none⟩ = some (.bool (P.inn.getD j false)) := by
  have := h.cell (j := 16 + j) (by omega)
  rw [suV_in P hj] at this
  exact this
theorem SuB.nm {w : World} {b : Nat} {P : SU} (h : SuB w b P) {j : Nat} (hj : j < 8) : w.cell? ⟨b, j, none⟩ = some (.int .u8 (P.nm.getD j 0)) := by
  have := h.cell (j := j) (by omega)
  rw [suV_nm P hj] at this
  exact this
theorem arr256 : (match Try.prog.underlying 33 with | some (.pointer _) => false | some (.array _ _) => true | _ => false) = true := by kernel_rfl
theorem und256 : Try.prog.underlying 33 = some (.array 256 4) := by kernel_rfl
theorem len256 : Try.prog.arrayLen 33 = 256 := by kernel_rfl
theorem size256 (W : World) : (sizeOf (Try.prog.elem 33)).run Try.prog W = .ok 1 W := by kernel_rfl
/-- A whole row read, under a guard that lets it. -/
theorem wpList_load_rowG {P : Program} {ops : Array Oper} {rest : List Oper} {o : Oper} {a : Act} {w : World} {Q : Exit → Act → World → Prop} (hw : Region.wanted o (yielded ops a.tmps) = true) (ty : TypeId) (x : Operand) (ho : o.op = .load ty x)
    (g : Nat) (hx : a.eval x = .pointer (some ⟨g, 0, none⟩)) (t : TypeId) (cs : Array Value) (fr : Nat × Nat) (d : TypeDesc) (hg : w.heap[g]? = some (.cells cs t fr))
    (hu : P.underlying ty = some d) (hd : (match d with | .struct _ | .array _ _ => true | _ => false) = true) (hi : (P.info? ty).map (·.size) = some cs.size)
    (h : wpList P ops Q rest (a.put o.dst (.agg cs)) w) : wpList P ops Q (o :: rest) a w :=
  wpList_step fun K hK => by rw [if_pos hw]; exact wp_load_row ty x ho g hx t cs fr d hg hu hd hi (hK _ _ h)
theorem sizeSu : (Try.prog.info? 35).map (·.size) = some 276 := by kernel_rfl
theorem und8 : Try.prog.underlying 32 = some (.array 8 5) := by kernel_rfl
theorem slice8 (W : World) (g o : Nat) : (Instr.sliceAt 32 (.pointer (some ⟨g, o, none⟩)) none none none).run Try.prog W = .ok (.slice (some ⟨g, o, none⟩) 8 8) W := by
  rw [run_sliceAt_array_all W 32 ⟨g, o, none⟩ und8, show (sizeOf (Try.prog.elem 32)).run Try.prog W = .ok 1 W by kernel_rfl, show Try.prog.arrayLen 32 = 8 by kernel_rfl]
  show Result.ok (slicedAt _ _ _ _ _) W = _
  simp [slicedAt, Addr.add]
theorem slice256a (W : World) (g o : Nat) : (Instr.sliceAt 33 (.pointer (some ⟨g, o, none⟩)) none none none).run Try.prog W = .ok (.slice (some ⟨g, o, none⟩) 256 256) W := by
  rw [run_sliceAt_array_all W 33 ⟨g, o, none⟩ und256, size256, len256]
  show Result.ok (slicedAt _ _ _ _ _) W = _
  simp [slicedAt, Addr.add]
theorem SuB.bs {w : World} {b : Nat} {P : SU} (h : SuB w b P) (hP : P.Wf) : Bs w w.heap.size (some ⟨b, 0, none⟩) P.nm := fun h0 => ⟨b, 0, rfl, h.lt, fun i hi => by rw [Nat.zero_add]; exact h.nm (by rw [← hP.nm.1]; exact hi)⟩
theorem SuB.ls {w : World} {b : Nat} {P : SU} (h : SuB w b P) (hP : P.Wf) : ArgL w (some ⟨b, 16, none⟩) 256 256 P.inn := ⟨hP.inn, fun h0 => ⟨b, 16, rfl, h.lt, fun i hi => h.inn (by rw [← hP.inn]; exact hi)⟩, Nat.le_refl _, by unfold maxLen; omega⟩
theorem SuB.on {w w' : World} {b : Nat} {P : SU} (h : SuB w b P) (hb : Below w.heap.size w w') : SuB w' b P := Blk.on h hb h.lt
theorem w32 {x : Int} (h : u32I x) : (Lit.int .u32 x).wf = true := by
  unfold u32I at h
  simp [Lit.wf, IntKind.min, IntKind.max, IntKind.signed, IntKind.bits]; omega
theorem infoSu : (Try.prog.info? 35).map (fun i => (i.zero, i.size)) = some (some (.agg (tabV 276 (suV suZ))), 276) := by kernel_rfl
theorem byte0 : byteI 0 := ⟨Int.le_refl _, by omega⟩
theorem u320 : u32I 0 := ⟨Int.le_refl _, by omega⟩
theorem suZ_wf : suZ.Wf := ⟨⟨rfl, fun x hx => by rw [(List.mem_replicate.1 hx).2]; omega⟩, byte0, byte0, byte0, byte0, byte0, u320, u320, u320, by simp [suZ], u320, u320, byte0, u320⟩
/-- A row set anew. -/
theorem row_set {w : World} {b : Nat} {P Q : SU} (h : SuB w b P) : SuB (w.setRow b (tabV 276 (suV Q))) b Q := Blk.row h _
theorem row_other (w : World) (b k : Nat) (cs : Array Value) (h : k ≠ b) : (w.setRow b cs).heap[k]? = w.heap[k]? := setRow_other w b k cs h
/-! ## the super's cells, one set anew -/
theorem suV_p (P : SU) (x : Int) {i : Nat} (hi : i < 276) : (if i = 8 then Value.int .u8 x else suV P i) = suV { P with p := x } i := by
  by_cases h : i = 8
  · subst h; rfl
  · rw [if_neg h]; unfold suV; simp only [h, if_false]
theorem suV_n (P : SU) (x : Int) {i : Nat} (hi : i < 276) : (if i = 9 then Value.int .u8 x else suV P i) = suV { P with n := x } i := by
  by_cases h : i = 9
  · subst h; rfl
  · rw [if_neg h]; unfold suV; simp only [h, if_false]
theorem suV_t (P : SU) (x : Int) {i : Nat} (hi : i < 276) : (if i = 10 then Value.int .u8 x else suV P i) = suV { P with t := x } i := by
  by_cases h : i = 10
  · subst h; rfl
  · rw [if_neg h]; unfold suV; simp only [h, if_false]
theorem suV_m (P : SU) (x : Int) {i : Nat} (hi : i < 276) : (if i = 11 then Value.int .u8 x else suV P i) = suV { P with m := x } i := by
  by_cases h : i = 11
  · subst h; rfl
  · rw [if_neg h]; unfold suV; simp only [h, if_false]
theorem suV_c (P : SU) (x : Int) {i : Nat} (hi : i < 276) : (if i = 12 then Value.int .u8 x else suV P i) = suV { P with c := x } i := by
  by_cases h : i = 12
  · subst h; rfl
  · rw [if_neg h]; unfold suV; simp only [h, if_false]
theorem suV_bl (P : SU) (x : Int) {i : Nat} (hi : i < 276) : (if i = 13 then Value.int .u32 x else suV P i) = suV { P with bl := x } i := by
  by_cases h : i = 13
  · subst h; rfl
  · rw [if_neg h]; unfold suV; simp only [h, if_false]
theorem suV_bo (P : SU) (x : Int) {i : Nat} (hi : i < 276) : (if i = 14 then Value.int .u32 x else suV P i) = suV { P with bo := x } i := by
  by_cases h : i = 14
  · subst h; rfl
  · rw [if_neg h]; unfold suV; simp only [h, if_false]
theorem suV_ep (P : SU) (x : Int) {i : Nat} (hi : i < 276) : (if i = 15 then Value.int .u32 x else suV P i) = suV { P with ep := x } i := by
  by_cases h : i = 15
  · subst h; rfl
  · rw [if_neg h]; unfold suV; simp only [h, if_false]
theorem suV_rf (P : SU) (x : Int) {i : Nat} (hi : i < 276) : (if i = 272 then Value.int .u32 x else suV P i) = suV { P with rf := x } i := by
  by_cases h : i = 272
  · subst h; rfl
  · rw [if_neg h]; unfold suV; simp only [h, if_false]
theorem suV_sc (P : SU) (x : Int) {i : Nat} (hi : i < 276) : (if i = 273 then Value.int .u32 x else suV P i) = suV { P with sc := x } i := by
  by_cases h : i = 273
  · subst h; rfl
  · rw [if_neg h]; unfold suV; simp only [h, if_false]
theorem suV_tg (P : SU) (x : Int) {i : Nat} (hi : i < 276) : (if i = 274 then Value.int .u8 x else suV P i) = suV { P with tg := x } i := by
  by_cases h : i = 274
  · subst h; rfl
  · rw [if_neg h]; unfold suV; simp only [h, if_false]
theorem suV_rs (P : SU) (x : Int) {i : Nat} (hi : i < 276) : (if i = 275 then Value.int .u32 x else suV P i) = suV { P with rs := x } i := by
  by_cases h : i = 275
  · subst h; rfl
  · rw [if_neg h]; unfold suV; simp only [show i < 272 ∨ i = 272 ∨ i = 273 ∨ i = 274 from by omega]; rcases (show i < 272 ∨ i = 272 ∨ i = 273 ∨ i = 274 from by omega) with h1 | h1 | h1 | h1 <;> simp [h1]
theorem suV_inn (P : SU) (l : List Bool) (hl : l.length = 256) {i : Nat} (hi : i < 276) : (if 16 ≤ i ∧ i < 16 + (l.map Value.bool).length then (l.map Value.bool).getD (i - 16) (.bool false) else suV P i) = suV { P with inn := l } i := by
  rw [List.length_map, hl]
  by_cases h : 16 ≤ i ∧ i < 16 + 256
  · rw [if_pos h]
    have := suV_in { P with inn := l } (j := i - 16) (by omega)
    rw [show 16 + (i - 16) = i by omega] at this
    rw [this]
    show (l.map Value.bool).getD (i - 16) (.bool false) = .bool (l.getD (i - 16) false)
    rw [List.getD_eq_getElem?_getD, List.getElem?_map, List.getElem?_eq_getElem (by omega), List.getD_eq_getElem?_getD, List.getElem?_eq_getElem (by omega)]
    rfl
  · rw [if_neg h]
    have e : ∀ x y : Value, (if i < 272 then x else y) = if i < 16 then x else y := fun x y => by
      by_cases h1 : i < 16
      · rw [if_pos (by omega), if_pos h1]
      · rw [if_neg (by omega), if_neg h1]
    unfold suV
    by_cases h1 : i < 16
    · rcases (show i < 8 ∨ i = 8 ∨ i = 9 ∨ i = 10 ∨ i = 11 ∨ i = 12 ∨ i = 13 ∨ i = 14 ∨ i = 15 by omega) with h2 | h2 | h2 | h2 | h2 | h2 | h2 | h2 | h2
      · rw [if_pos h2, if_pos h2]
      all_goals (subst h2; rfl)
    · rw [if_neg (by omega), if_neg (by omega), if_neg (by omega), if_neg (by omega), if_neg (by omega), if_neg (by omega), if_neg (by omega), if_neg (by omega), if_neg (by omega), if_neg (by omega)]
      rw [if_neg (show ¬ i < 8 by omega), if_neg (show ¬ i = 8 by omega), if_neg (show ¬ i = 9 by omega), if_neg (show ¬ i = 10 by omega), if_neg (show ¬ i = 11 by omega), if_neg (show ¬ i = 12 by omega), if_neg (show ¬ i = 13 by omega), if_neg (show ¬ i = 14 by omega), if_neg (show ¬ i = 15 by omega), if_neg (show ¬ i < 272 by omega)]
theorem suV_name (l : List Int) {i : Nat} (hi : i < 276) : (if i < 8 then Value.int .u8 (l.getD i 0) else suV suZ i) = suV { suZ with nm := l } i := by
  unfold suV
  by_cases h : i < 8
  · rw [if_pos h, if_pos h]
  · rw [if_neg h, if_neg h, if_neg h]
theorem built_nm (g : Nat → Value) : Try.prog.built 35 [(0, .agg (tabV 8 g))] = some (tabV 276 (fun i => if i < 8 then g i else suV suZ i)) := by kernel_rfl
theorem copy_inn {W : World} {q : Nat} {P : SU} {l : List Bool} (hl : l.length = 256) (h : W.heap[q]? = some (.cells (splice (tabV 276 (suV P)).toList 16 (l.map Value.bool)).toArray 35 (0, 0))) : SuB W q { P with inn := l } := by
  unfold SuB Blk
  rw [h]
  unfold splice
  rw [splice_tabV (by rw [List.length_map, hl]; omega)]
  congr 2
  exact tabV_congr fun i hi => suV_inn P l hl hi
theorem built_su0 : Try.prog.built 35 [] = some (tabV 276 (suV suZ)) := by kernel_rfl
theorem size8a : (Try.prog.info? 32).map (·.size) = some 8 := by kernel_rfl
theorem size_b4 : (Try.prog.info? 4).map (·.size) = some 1 := by kernel_rfl
theorem wpList_binG {P : Program} {ops : Array Oper} {rest : List Oper} {o : Oper} {a : Act} {w : World} {Q : Exit → Act → World → Prop} (hw : Region.wanted o (yielded ops a.tmps) = true) (op : BinOp) (t : TypeId) (x y : Operand) (t2 : TypeId) (ho : o.op = .binOp op t x y t2)
    (vx vy v : Value) (hx : a.eval x = vx) (hy : a.eval y = vy) (hg : (eqGuard op t x y vx vy).run P w = .ok () w) (hr : (binOp op t vx vy).run P w = .ok v w)
    (h : wpList P ops Q rest (a.put o.dst v) w) : wpList P ops Q (o :: rest) a w :=
  wpList_step fun K hK => by
    rw [if_pos hw]
    unfold Oper.wp execOp
    simp only [ho, hx, hy, Sem.run_bind, Sem.run_pure, Result.andThen_ok, hg, hr]
    exact hK _ _ h
theorem yieldsIf_load_row {P : Program} {ops : Array Oper} {S : World → Prop} {op : Oper} {a : Act} (hw : Region.wanted op (yielded ops a.tmps) = true) (ty : TypeId) (x : Operand) (ho : op.op = .load ty x)
    (g : Nat) (hx : a.eval x = .pointer (some ⟨g, 0, none⟩)) (t : TypeId) (cs : Array Value) (fr : Nat × Nat) (d : TypeDesc) (hS : ∀ w, S w → w.heap[g]? = some (.cells cs t fr))
    (hu : P.underlying ty = some d) (hd : (match d with | .struct _ | .array _ _ => true | _ => false) = true) (hi : (P.info? ty).map (·.size) = some cs.size) : YieldsIf P ops S op (.agg cs) a :=
  .inl ⟨hw, fun w hw' => by
    have hr := run_loadVar_row (P := P) w g t ty cs fr d (hS w hw') hu hd hi
    unfold execOp
    simp only [ho, hx, Instr.loadAt, Instr.sureAddr, Sem.run_bind, Sem.run_pure, Result.andThen_ok, hr]⟩
theorem mapM_some {α β : Type} {f : α → Option β} : ∀ {l : List α}, (∀ x ∈ l, ∃ y, f x = some y) → ∃ ys, l.mapM f = some ys
  | [], _ => ⟨[], rfl⟩
  | x :: l, h => by
    obtain ⟨y, hy⟩ := h x (List.mem_cons_self ..)
    obtain ⟨ys, hys⟩ := mapM_some (l := l) (fun z hz => h z (List.mem_cons_of_mem _ hz))
    exact ⟨y :: ys, by rw [List.mapM_cons, hy, hys]; rfl⟩
theorem tabV_one1 (g : Nat → Value) {n k : Nat} (h : k < n) : ((tabV n g).toList.drop k).take 1 = [g k] := by
  apply List.ext_getElem?
  intro i
  cases i with
  | zero => simp [tabV, List.getElem?_drop, h]
  | succ i => simp [List.getElem?_take]
theorem drop_take1 {cs : List Value} {o n i : Nat} (h : i < n) : (((cs.drop o).take n).drop i).take 1 = (cs.drop (o + i)).take 1 := by
  apply List.ext_getElem?
  intro j
  cases j with
  | zero => simp [List.getElem?_take, List.getElem?_drop, h]
  | succ j => simp [List.getElem?_take]
theorem kl_u8 (d : Nat) (x : Int) (h : byteI x) : Try.prog.keyLits (d + 1) 5 [.int .u8 x] = some [.int .u8 x] := by
  have hw : (Lit.int .u8 x).wf = true := by unfold byteI at h; simp [Lit.wf, IntKind.min, IntKind.max, IntKind.bits, IntKind.signed]; omega
  simp [Program.keyLits, Try.underlying5, hw]
theorem kl_u32 (d : Nat) (x : Int) (h : u32I x) : Try.prog.keyLits (d + 1) 25 [.int .u32 x] = some [.int .u32 x] := by
  simp [Program.keyLits, Try.underlying25, w32 h]
theorem kl_bool (d : Nat) (x : Bool) : Try.prog.keyLits (d + 1) 4 [.bool x] = some [.bool x] := by
  simp [Program.keyLits, Try.underlying4]
theorem cells_1 : Try.prog.cellsOf 5 = 1 ∧ Try.prog.cellsOf 25 = 1 ∧ Try.prog.cellsOf 4 = 1 ∧ Try.prog.cellsOf 32 = 8 ∧ Try.prog.cellsOf 33 = 256 ∧ Try.prog.cellsOf 35 = 276 := by
  refine ⟨?_, ?_, ?_, ?_, ?_, ?_⟩ <;> kernel_rfl
theorem kl_nm (d : Nat) (P : SU) (hP : P.Wf) : ∃ L, Try.prog.keyLits (d + 2) 32 (((tabV 276 (suV P)).toList.drop 0).take 8) = some L := by
  have hl : (((tabV 276 (suV P)).toList.drop 0).take 8).length = Try.prog.cellsOf 32 := by rw [cells_1.2.2.2.1]; simp [tabV]
  obtain ⟨ys, hys⟩ := mapM_some (f := fun i => Try.prog.keyLits (d + 1) 5 (((((tabV 276 (suV P)).toList.drop 0).take 8).drop (i * Try.prog.cellsOf 5)).take (Try.prog.cellsOf 5))) (l := List.range 8) (fun i hi => by
    have hi' := List.mem_range.1 hi
    rw [cells_1.1, Nat.mul_one, drop_take1 hi', Nat.zero_add, tabV_one1 _ (by omega), suV_nm P hi']
    refine ⟨_, kl_u8 d _ ?_⟩
    exact allB_getD hP.nm.2 i)
  exact ⟨ys.flatten, by unfold Program.keyLits; rw [und8]; simp only [hl, if_true, hys]; rfl⟩
theorem kl_in (d : Nat) (P : SU) : ∃ L, Try.prog.keyLits (d + 2) 33 (((tabV 276 (suV P)).toList.drop 16).take 256) = some L := by
  have hl : (((tabV 276 (suV P)).toList.drop 16).take 256).length = Try.prog.cellsOf 33 := by rw [cells_1.2.2.2.2.1]; simp [tabV]
  obtain ⟨ys, hys⟩ := mapM_some (f := fun i => Try.prog.keyLits (d + 1) 4 (((((tabV 276 (suV P)).toList.drop 16).take 256).drop (i * Try.prog.cellsOf 4)).take (Try.prog.cellsOf 4))) (l := List.range 256) (fun i hi => by
    have hi' := List.mem_range.1 hi
    rw [cells_1.2.2.1, Nat.mul_one, drop_take1 hi', tabV_one1 _ (by omega), suV_in P hi']
    exact ⟨_, kl_bool d _⟩)
  exact ⟨ys.flatten, by unfold Program.keyLits; rw [und256]; simp only [hl, if_true, hys]; rfl⟩
theorem fields_su : (Try.prog.fieldsOf 35).toList.all (fun f => decide (f.name ≠ "_") && decide ((f.type, f.offset) ∈ [(32, 0), (5, 8), (5, 9), (5, 10), (5, 11), (5, 12), (25, 13), (25, 14), (25, 15), (33, 16), (25, 272), (25, 273), (5, 274), (25, 275)])) = true := by kernel_rfl
theorem und_su : Try.prog.underlying 35 = some (.struct (Try.prog.fieldsOf 35)) := by kernel_rfl
theorem kl_su (d : Nat) (P : SU) (hP : P.Wf) : ∃ L, Try.prog.keyLits (d + 3) 35 (tabV 276 (suV P)).toList = some L := by
  have hl : (tabV 276 (suV P)).toList.length = Try.prog.cellsOf 35 := by rw [cells_1.2.2.2.2.2]; simp [tabV]
  have hn : (Try.prog.fieldsOf 35).all (fun f => f.name != "_") = true := by
    rw [Array.all_eq_true_iff_forall_mem]
    intro f hf
    have := List.all_eq_true.1 fields_su f (by simpa using hf)
    rw [Bool.and_eq_true] at this
    simpa using this.1
  have n1 : ∀ (k : Nat) (x : Int), k < 276 → suV P k = .int .u8 x → byteI x → ∃ y, Try.prog.keyLits (d + 2) 5 (((tabV 276 (suV P)).toList.drop k).take (Try.prog.cellsOf 5)) = some y := fun k x hk he hb => by
    rw [cells_1.1, tabV_one1 _ hk, he]; exact ⟨_, kl_u8 _ x hb⟩
  have n4 : ∀ (k : Nat) (x : Int), k < 276 → suV P k = .int .u32 x → u32I x → ∃ y, Try.prog.keyLits (d + 2) 25 (((tabV 276 (suV P)).toList.drop k).take (Try.prog.cellsOf 25)) = some y := fun k x hk he hb => by
    rw [cells_1.2.1, tabV_one1 _ hk, he]; exact ⟨_, kl_u32 _ x hb⟩
  obtain ⟨ys, hys⟩ := mapM_some (f := fun f => Try.prog.keyLits (d + 2) f.type (((tabV 276 (suV P)).toList.drop f.offset).take (Try.prog.cellsOf f.type))) (l := (Try.prog.fieldsOf 35).toList) (fun f hf => by
    have h := List.all_eq_true.1 fields_su f hf
    rw [Bool.and_eq_true] at h
    have hm := of_decide_eq_true h.2
    obtain ⟨ft, fo, hfe⟩ : ∃ ft fo, (f.type, f.offset) = (ft, fo) := ⟨_, _, rfl⟩
    have e1 : f.type = ft := congrArg Prod.fst hfe
    have e2 : f.offset = fo := congrArg Prod.snd hfe
    rw [hfe] at hm
    rw [e1, e2]
    simp only [List.mem_cons, Prod.mk.injEq, List.not_mem_nil, or_false] at hm
    rcases hm with ⟨rfl, rfl⟩ | ⟨rfl, rfl⟩ | ⟨rfl, rfl⟩ | ⟨rfl, rfl⟩ | ⟨rfl, rfl⟩ | ⟨rfl, rfl⟩ | ⟨rfl, rfl⟩ | ⟨rfl, rfl⟩ | ⟨rfl, rfl⟩ | ⟨rfl, rfl⟩ | ⟨rfl, rfl⟩ | ⟨rfl, rfl⟩ | ⟨rfl, rfl⟩ | ⟨rfl, rfl⟩
    · rw [cells_1.2.2.2.1]; exact kl_nm d P hP
    · exact n1 8 P.p (by omega) rfl hP.p
    · exact n1 9 P.n (by omega) rfl hP.n
    · exact n1 10 P.t (by omega) rfl hP.t
    · exact n1 11 P.m (by omega) rfl hP.m
    · exact n1 12 P.c (by omega) rfl hP.c
    · exact n4 13 P.bl (by omega) rfl hP.bl
    · exact n4 14 P.bo (by omega) rfl hP.bo
    · exact n4 15 P.ep (by omega) rfl hP.ep
    · rw [cells_1.2.2.2.2.1]; exact kl_in d P
    · exact n4 272 P.rf (by omega) rfl hP.rf
    · exact n4 273 P.sc (by omega) rfl hP.sc
    · exact n1 274 P.tg (by omega) rfl hP.tg
    · exact n4 275 P.rs (by omega) rfl hP.rs)
  exact ⟨ys.flatten, by unfold Program.keyLits; rw [und_su]; simp only [hl, hn, true_and, and_self, if_true, hys]; rfl⟩
theorem keyTy_su : Try.prog.keyTypeAt 3 35 = true := by kernel_rfl
theorem formed_su (P : SU) : (suA P).formed Try.prog 35 = true := by
  unfold suA Value.formed
  rw [und_su]
  simp [cells_1.2.2.2.2.2, tabV]
/-- A super is the same as itself. -/
theorem eqSu (P : SU) (hP : P.Wf) (W : World) : (Op.equalIn 10000 35 (suA P) (suA P)).run Try.prog W = .ok true W := by
  obtain ⟨L, hL⟩ := kl_su 0 P hP
  obtain ⟨r, hr, hi⟩ := run_equalIn_deep (P := Try.prog) 9997 3 35 keyTy_su W 3 3 (suA P) (suA P) L L (formed_su P) (formed_su P) hL hL
  rw [hi.2 rfl] at hr
  exact hr
theorem eqlSu (P : SU) (hP : P.Wf) (W : World) : (binOp .eql 35 (suA P) (suA P)).run Try.prog W = .ok (.bool true) W := by
  have h := eqSu P hP W
  unfold suA at h ⊢
  rw [run_eql_struct, h]; rfl
theorem neqSu (P : SU) (hP : P.Wf) (W : World) : (binOp .neq 35 (suA P) (suA P)).run Try.prog W = .ok (.bool false) W := by
  have h := eqSu P hP W
  unfold suA at h ⊢
  rw [run_neq_struct, h]; rfl
theorem guardSu (op : BinOp) (x y : Operand) (s t : Array Value) (W : World) : (eqGuard op 35 x y (.agg s) (.agg t)).run Try.prog W = .ok () W := by
  have h : Try.prog.eqGuardType Try.prog.depth 35 = false := by kernel_rfl
  unfold eqGuard
  cases op <;> simp [h]
end Go.Proofs.Ytbijakhdngbjmaa
