/- The law's Ref: the document's super of a super (out of Ra1, Ra2, Rc1; no hash). -/
import Derived.Test.YtbijakhdngbjmaaGs
import Derived.Test.YtbijakhdngbjmaaLa
import Derived.BigRegion
import Derived.Deep.RegionHeld
import Derived.Laws.AppendOwnNone
namespace Go.Proofs.Ytbijakhdngbjmaa
open Go.ChangeShapes Go.WideShapes Go.ChangeAt Go.RowKit Go.Shelf
set_option linter.unusedVariables false
set_option linter.unusedSimpArgs false
set_option maxRecDepth 100000
attribute [local go_sem] Oper.semAt_some

/-- The places below k of who is in. -/
def inK (l : List Bool) : Nat → List Int
  | 0 => []
  | k + 1 => if l.getD k false then inK l k ++ [(k : Int)] else inK l k
theorem inK_mem {l : List Bool} {p : Int} : ∀ {k : Nat}, p ∈ inK l k ↔ ∃ i : Nat, i < k ∧ p = (i : Int) ∧ l.getD i false = true
  | 0 => by simp [inK]
  | k + 1 => by
    rw [inK]
    by_cases h : l.getD k false = true
    · rw [if_pos h, List.mem_append, inK_mem, List.mem_singleton]
      constructor
      · rintro (⟨i, h1, h2, h3⟩ | rfl)
        · exact ⟨i, by omega, h2, h3⟩
        · exact ⟨k, by omega, rfl, h⟩
      · rintro ⟨i, h1, h2, h3⟩
        by_cases e : i = k
        · subst e; exact .inr h2
        · exact .inl ⟨i, by omega, h2, h3⟩
    · rw [if_neg h, inK_mem]
      constructor
      · rintro ⟨i, h1, h2, h3⟩; exact ⟨i, by omega, h2, h3⟩
      · rintro ⟨i, h1, h2, h3⟩
        by_cases e : i = k
        · subst e; exact absurd h3 h
        · exact ⟨i, by omega, h2, h3⟩
theorem inK_len (l : List Bool) : ∀ k, (inK l k).length ≤ k
  | 0 => by simp [inK]
  | k + 1 => by
    rw [inK]
    have := inK_len l k
    split
    · rw [List.length_append, List.length_singleton]; omega
    · omega
theorem inK_yes {l : List Bool} {k : Nat} (h : l.getD k false = true) : inK l (k + 1) = inK l k ++ [(k : Int)] := by rw [inK, if_pos h]
theorem inK_no {l : List Bool} {k : Nat} (h : l.getD k false = false) : inK l (k + 1) = inK l k := by rw [inK, if_neg (by rw [h]; decide)]
/-- Who is in, of a super. -/
def SU.L (P : SU) : List Int := inK P.inn 256
theorem SU.L_in {P : SU} {p : Int} (h : p ∈ P.L) : 0 ≤ p ∧ p < 256 := by
  obtain ⟨i, h1, h2, _⟩ := inK_mem.1 h
  omega
theorem strCellsB {l : List Int} (h : AllB l) : Lib.strCells (strOfNums l) = l.map (Value.int .u8) := by
  unfold Lib.strCells
  rw [strOfNums_data, List.map_map]
  refine List.map_congr_left fun x hx => ?_
  have := h x hx
  simp
  omega
/-- The document's super, as a value: who is in lies in v. -/
def ruA (P : SU) (v : Value) : Value := .agg #[.string (strOfNums P.nm), .int .i64 P.p, .int .i64 P.n, .int .i64 P.t, .int .i64 P.m, .int .i64 P.c, .int .u64 P.bl, .int .u64 P.bo, .int .u64 P.ep, v, .int .u64 P.rf, .int .u64 P.sc, .int .i64 P.tg, .int .u64 P.rs]
theorem cell14 {W : World} {b : Nat} {x0 x1 x2 x3 x4 x5 x6 x7 x8 x9 xa xb xc xd : Value} {T : TypeId} (h : W.heap[b]? = some (.cells #[x0, x1, x2, x3, x4, x5, x6, x7, x8, x9, xa, xb, xc, xd] T (0, 0))) :
    W.cell? ⟨b, 0, none⟩ = some x0 ∧ W.cell? ⟨b, 1, none⟩ = some x1 ∧ W.cell? ⟨b, 2, none⟩ = some x2 ∧ W.cell? ⟨b, 3, none⟩ = some x3 ∧ W.cell? ⟨b, 4, none⟩ = some x4 ∧ W.cell? ⟨b, 5, none⟩ = some x5 ∧ W.cell? ⟨b, 6, none⟩ = some x6 ∧ W.cell? ⟨b, 7, none⟩ = some x7 ∧ W.cell? ⟨b, 8, none⟩ = some x8 ∧ W.cell? ⟨b, 9, none⟩ = some x9 ∧ W.cell? ⟨b, 10, none⟩ = some xa ∧ W.cell? ⟨b, 11, none⟩ = some xb ∧ W.cell? ⟨b, 12, none⟩ = some xc ∧ W.cell? ⟨b, 13, none⟩ = some xd :=
  ⟨(cell_of_row _ b 0 _ _ _ h).trans rfl, (cell_of_row _ b 1 _ _ _ h).trans rfl, (cell_of_row _ b 2 _ _ _ h).trans rfl, (cell_of_row _ b 3 _ _ _ h).trans rfl, (cell_of_row _ b 4 _ _ _ h).trans rfl, (cell_of_row _ b 5 _ _ _ h).trans rfl, (cell_of_row _ b 6 _ _ _ h).trans rfl, (cell_of_row _ b 7 _ _ _ h).trans rfl, (cell_of_row _ b 8 _ _ _ h).trans rfl, (cell_of_row _ b 9 _ _ _ h).trans rfl, (cell_of_row _ b 10 _ _ _ h).trans rfl, (cell_of_row _ b 11 _ _ _ h).trans rfl, (cell_of_row _ b 12 _ _ _ h).trans rfl, (cell_of_row _ b 13 _ _ _ h).trans rfl⟩
theorem isAggB (W : World) : (isAgg 4).run Try.prog W = .ok false W := by kernel_rfl
theorem sizeB4 (W : World) : (sizeOf 4).run Try.prog W = .ok 1 W := by kernel_rfl
/-- in[k], of an array by value. -/
theorem index256 (l : List Bool) (k : Nat) (hl : l.length = 256) (hk : k < 256) (W : World) : (Instr.index 33 (.agg (l.map Value.bool).toArray) (.int .i64 (k : Nat))).run Try.prog W = .ok (.bool (l.getD k false)) W := by
  have hh : (0 : Int) ≤ (k : Int) ∧ (k : Int) < ((256 : Nat) : Int) := by omega
  have hc : (l.map Value.bool).toArray[k]? = some (.bool (l.getD k false)) := by
    rw [List.getElem?_toArray]; exact map_bool_getElem? (by omega)
  simp [Instr.index, asIntOf, run_underlying und256, sizeB4, Go.part, isAggB, hk, List.getElem?_eq_getElem (show k < l.length by omega)]
/-- append of one number onto a row of numbers of one's own. -/
theorem wpList_append_i1 {P : Program} (w : World) {ops : Array Oper} {rest : List Oper} {o : Oper} {a : Act} {Q : Exit → Act → World → Prop} (hgd : o.guard = none) (s x : Operand) (t : TypeId)
    (ho : o.op = .call { callee := .builtin .append, args := #[s, x], argTypes := #[t, t] })
    (base : Nat) (e : TypeId) (i : TypeInfo) (ht : P.underlying t = some (.slice e)) (hi : P.info? e = some i) (hz : i.zero = some (.int .i64 0)) (hsize : i.size = 1) (hby : i.bytes = 8)
    (v : Value) (n : Nat) (l : List Int) (hs : a.eval s = v) (hown : w.ownsRow base e 1 v n (l.map (Value.int .i64)))
    (ad : Addr) (z : Int) (hx : a.eval x = .slice (some ad) 1 1) (hB : w.cell? ad = some (.int .i64 z)) (hn : n + 1 ≤ 1000) (hbase : base ≤ w.heap.size) (Hs : Nat) (hH : w.heap.size = Hs)
    (h : ∀ g' c' w', w'.ownsRow base e 1 (.slice (some ⟨g', 0, none⟩) (n + 1) c') (n + 1) ((l ++ [z]).map (Value.int .i64)) → w.grownBy w' v.ownBlock → (v.ownBlock = some g' ∨ g' = Hs) → wpList P ops Q rest (a.put o.dst (.slice (some ⟨g', 0, none⟩) (n + 1) c')) w') :
    wpList P ops Q (o :: rest) a w := by
  refine wpList_append_lies w hgd s x t ho base e i (.int .i64 0) 1 8 ht hi hz hsize hby rfl (by decide) v n (l.map (Value.int .i64)) hs hown ad 1 1 [.int .i64 z] hx rfl ?_ ?_ (by decide) (by unfold maxLen; omega) (by omega) hbase Hs hH ?_
  · intro j u hj
    cases j with
    | zero =>
      have hu : u = .int .i64 z := (Option.some.inj hj).symm
      rw [hu, Addr.add_zero']
      exact hB
    | succ j => cases hj
  · intro u hu
    cases List.mem_singleton.1 hu
    rfl
  · intro g' cap w' h1 h2 h3 _
    exact h g' cap w' (by rw [List.map_append]; exact h1) h2 h3
theorem IA.onB {w w' : World} {a : Option Addr} {L c : Nat} {ps : List Int} (h : IA w a L c ps) (hk : 0 < L → ∀ b o, a = some ⟨b, o, none⟩ → w'.heap[b]? = w.heap[b]?) : IA w' a L c ps := by
  obtain ⟨h1, h2, h3, h4, h5, h6⟩ := h
  refine ⟨h1, h2, h3, h4, h5, fun hp => ?_⟩
  obtain ⟨b, off, e, hb, hc⟩ := h6 hp
  have hkb := hk hp b off e
  refine ⟨b, off, e, ?_, fun i hi => (World.cell?_of_block (w := w) (a := ⟨b, off + i, none⟩) hkb).trans (hc i hi)⟩
  rcases Nat.lt_or_ge b w'.heap.size with h7 | h7
  · exact h7
  · rw [Array.getElem?_eq_none h7, Array.getElem?_eq_getElem hb] at hkb; cases hkb
theorem infoI : (Try.prog.info? 3).map (fun i => (i.zero, i.size, i.bytes)) = some (some (.int .i64 0), 1, 8) := by kernel_rfl
theorem own_emptyI (w : World) (B : Nat) : w.ownsRow B 3 1 (.slice none 0 0) 0 (([] : List Int).map (Value.int .i64)) := World.ownsRow_nil _ _ _ _
theorem ia_own {w : World} {B n c : Nat} {a : Option Addr} {l : List Int} (h : w.ownsRow B 3 1 (.slice a n c) n (l.map (Value.int .i64))) (hl : ∀ x ∈ l, -9223372036854775808 ≤ x ∧ x ≤ 9223372036854775807) : IA w a n c l := by
  have hln : l.length = n := by have := h.1; simpa using this
  have hb : ∀ i, -9223372036854775808 ≤ l.getD i 0 ∧ l.getD i 0 ≤ 9223372036854775807 := fun i => by
    rcases Nat.lt_or_ge i l.length with h1 | h1
    · rw [List.getD_eq_getElem?_getD, List.getElem?_eq_getElem h1]; exact hl _ (List.getElem_mem h1)
    · rw [List.getD_eq_getElem?_getD, List.getElem?_eq_none h1]; exact ⟨by decide, by decide⟩
  have h0 := h
  obtain ⟨h1, h2⟩ := h
  rcases h2 with ⟨hv, hn⟩ | ⟨g, cap, cur, hv, hg, hh, hn, hm, hs, ht⟩
  · cases hv
    exact ⟨hln, Nat.le_refl _, Nat.zero_le _, fun _ => rfl, hb, fun h => absurd h (by omega)⟩
  · cases hv
    refine ⟨hln, hn, hm, fun h => (by cases h), hb, fun hp => ⟨g, 0, rfl, (Array.getElem?_eq_some_iff.1 hh).1, fun i hi => ?_⟩⟩
    rw [Nat.zero_add, h0.cellAt i (by omega)]
    rw [List.getElem?_map, List.getElem?_eq_getElem (by omega), List.getD_eq_getElem?_getD, List.getElem?_eq_getElem (by omega)]
    rfl
theorem SU.L_64 {P : SU} : ∀ k, ∀ x ∈ inK P.inn k, k ≤ 256 → -9223372036854775808 ≤ x ∧ x ≤ 9223372036854775807 := fun k x hx hk => by
  obtain ⟨i, h1, h2, _⟩ := inK_mem.1 hx
  omega
theorem sizeRu : (Try.prog.info? 55).map (·.size) = some 14 := by kernel_rfl
theorem results_ref (tmps : Array Value) (w : World) (g : Nat) (cs : Array Value) (h2 : tmps.getD 2 undef = .pointer (some ⟨g, 0, none⟩)) (hg : w.heap[g]? = some (.cells cs 55 (0, 0))) (hs : cs.size = 14) :
    (results Try.f21 tmps).run Try.prog w = .ok (.agg cs) w := by
  have h2' : tmps[2]?.getD undef = .pointer (some ⟨g, 0, none⟩) := by simpa using h2
  have hr := run_loadVar_row (P := Try.prog) w g 55 55 cs (0, 0) _ hg Try.underlying55 rfl (by rw [hs]; exact sizeRu)
  simp [results, Try.f21, h2', asAddr, hr]
set_option maxHeartbeats 16000000 in
theorem ref_any (P : SU) (hP : P.Wf) (w : World) :
    Calls Try.prog 21 #[suA P] w fun e w' => ∃ a c, e = .returned (ruA P (.slice a P.L.length c)) ∧ IA w' a P.L.length c P.L ∧ Below w.heap.size w w' ∧ (∀ b o, a = some ⟨b, o, none⟩ → w.heap.size ≤ b) := by
  obtain ⟨hwA, hSA⟩ := su_box P w
  obtain ⟨SS, hSS⟩ : ∃ s, s = strOfNums P.nm := ⟨_, rfl⟩
  obtain ⟨s0, hs0⟩ : ∃ s, s = tabV 276 (suV P) := ⟨_, rfl⟩
  unfold suA ruA
  rw [← hs0] at hwA hSA ⊢
  rw [← hSS]
  obtain ⟨A1, hA1⟩ : ∃ A, A = w.alloc (.cells s0 35) := ⟨_, rfl⟩
  rw [← hA1] at hwA hSA
  have hA1s : A1.heap.size = w.heap.size + 1 := by rw [hA1]; simp
  obtain ⟨A, hA⟩ : ∃ A, A = A1.alloc (.cells #[.string { data := #[] }, .int .i64 0, .int .i64 0, .int .i64 0, .int .i64 0, .int .i64 0, .int .u64 0, .int .u64 0, .int .u64 0, .slice none 0 0, .int .u64 0, .int .u64 0, .int .i64 0, .int .u64 0] 55) := ⟨_, rfl⟩
  have hbA : Below A1.heap.size A1 A := by rw [hA]; exact (Below.refl _ _).alloc (Nat.le_refl _) _
  have hAs : A.heap.size = w.heap.size + 2 := by rw [hA]; simp; omega
  have hSA2 := hSA.on hbA
  have hrA : A.heap[w.heap.size + 1]? = some (.cells #[.string { data := #[] }, .int .i64 0, .int .i64 0, .int .i64 0, .int .i64 0, .int .i64 0, .int .u64 0, .int .u64 0, .int .u64 0, .slice none 0 0, .int .u64 0, .int .u64 0, .int .i64 0, .int .u64 0] 55 (0, 0)) := by rw [hA, ← hA1s]; exact heap_alloc_new A1 _
  have HA := Lib.hid (And.intro (show A = (w.alloc (.cells s0 35)).alloc (.cells #[.string { data := #[] }, .int .i64 0, .int .i64 0, .int .i64 0, .int .i64 0, .int .i64 0, .int .u64 0, .int .u64 0, .int .u64 0, .slice none 0 0, .int .u64 0, .int .u64 0, .int .i64 0, .int .u64 0] 55) by rw [hA, hA1]) (And.intro (bt hwA hbA) (And.intro hAs (And.intro hSA2 hrA))))
  have HSU := Lib.hid (show ∀ W, Below A.heap.size A W → SuB W w.heap.size P from fun W hW => hSA2.on hW)
  have hsl8 := fun W => slice8 W w.heap.size 0
  have hcv : ∀ W, Below A.heap.size A W → (convert 24 9 (.slice (some ⟨w.heap.size, 0, none⟩) 8 8)).run Try.prog W = .ok (.string SS) W := fun W hW => by
    rw [hSS]
    exact ((HSU.out W hW).bs hP).str hP.nm.1 Try.underlying24 Try.underlying5 Try.underlying9
  have z8 : ∀ W, Below A.heap.size A W → W.cell? ⟨w.heap.size, 8, none⟩ = some (.int .u8 P.p) := fun W hW => (HSU.out W hW).num.1
  have z9 : ∀ W, Below A.heap.size A W → W.cell? ⟨w.heap.size, 9, none⟩ = some (.int .u8 P.n) := fun W hW => (HSU.out W hW).num.2.1
  have z10 : ∀ W, Below A.heap.size A W → W.cell? ⟨w.heap.size, 10, none⟩ = some (.int .u8 P.t) := fun W hW => (HSU.out W hW).num.2.2.1
  have z11 : ∀ W, Below A.heap.size A W → W.cell? ⟨w.heap.size, 11, none⟩ = some (.int .u8 P.m) := fun W hW => (HSU.out W hW).num.2.2.2.1
  have z12 : ∀ W, Below A.heap.size A W → W.cell? ⟨w.heap.size, 12, none⟩ = some (.int .u8 P.c) := fun W hW => (HSU.out W hW).num.2.2.2.2.1
  have z13 : ∀ W, Below A.heap.size A W → W.cell? ⟨w.heap.size, 13, none⟩ = some (.int .u32 P.bl) := fun W hW => (HSU.out W hW).num.2.2.2.2.2.1
  have z14 : ∀ W, Below A.heap.size A W → W.cell? ⟨w.heap.size, 14, none⟩ = some (.int .u32 P.bo) := fun W hW => (HSU.out W hW).num.2.2.2.2.2.2.1
  have z15 : ∀ W, Below A.heap.size A W → W.cell? ⟨w.heap.size, 15, none⟩ = some (.int .u32 P.ep) := fun W hW => (HSU.out W hW).num.2.2.2.2.2.2.2.1
  have z272 : ∀ W, Below A.heap.size A W → W.cell? ⟨w.heap.size, 272, none⟩ = some (.int .u32 P.rf) := fun W hW => (HSU.out W hW).num.2.2.2.2.2.2.2.2.1
  have z273 : ∀ W, Below A.heap.size A W → W.cell? ⟨w.heap.size, 273, none⟩ = some (.int .u32 P.sc) := fun W hW => (HSU.out W hW).num.2.2.2.2.2.2.2.2.2.1
  have z274 : ∀ W, Below A.heap.size A W → W.cell? ⟨w.heap.size, 274, none⟩ = some (.int .u8 P.tg) := fun W hW => (HSU.out W hW).num.2.2.2.2.2.2.2.2.2.2.1
  have z275 : ∀ W, Below A.heap.size A W → W.cell? ⟨w.heap.size, 275, none⟩ = some (.int .u32 P.rs) := fun W hW => (HSU.out W hW).num.2.2.2.2.2.2.2.2.2.2.2
  have b_p : 0 ≤ P.p ∧ P.p < 256 := hP.p
  have b_n : 0 ≤ P.n ∧ P.n < 256 := hP.n
  have b_t : 0 ≤ P.t ∧ P.t < 256 := hP.t
  have b_m : 0 ≤ P.m ∧ P.m < 256 := hP.m
  have b_c : 0 ≤ P.c ∧ P.c < 256 := hP.c
  have b_tg : 0 ≤ P.tg ∧ P.tg < 256 := hP.tg
  have b_bl : 0 ≤ P.bl ∧ P.bl < 4294967296 := hP.bl
  have b_bo : 0 ≤ P.bo ∧ P.bo < 4294967296 := hP.bo
  have b_ep : 0 ≤ P.ep ∧ P.ep < 4294967296 := hP.ep
  have b_rf : 0 ≤ P.rf ∧ P.rf < 4294967296 := hP.rf
  have b_sc : 0 ≤ P.sc ∧ P.sc < 4294967296 := hP.sc
  have b_rs : 0 ≤ P.rs ∧ P.rs < 4294967296 := hP.rs
  clear hs0 hSS hwA hSA hA1 hA1s hA hbA hAs hSA2 hrA
  go_enter Try.func21, Try.ntmps21
  go_upto_region 1 with fail
  rw [← HA.out.1]
  go_region_held (fun W => Below A.heap.size A W) (first | assumption | exact (Below.refl _ _).drew | exact ((Below.refl _ _).alloc (Nat.le_refl _) _).drew | (refine Below.drew ?_; assumption)) (fail)
  have w_p := IntWalk.i64_in P.p (by omega)
  have w_n := IntWalk.i64_in P.n (by omega)
  have w_t := IntWalk.i64_in P.t (by omega)
  have w_m := IntWalk.i64_in P.m (by omega)
  have w_c := IntWalk.i64_in P.c (by omega)
  have w_tg := IntWalk.i64_in P.tg (by omega)
  have w_bl : IntKind.u64.wrap P.bl = P.bl := by rw [IntKind.wrap_u64]; omega
  have w_bo : IntKind.u64.wrap P.bo = P.bo := by rw [IntKind.wrap_u64]; omega
  have w_ep : IntKind.u64.wrap P.ep = P.ep := by rw [IntKind.wrap_u64]; omega
  have w_rf : IntKind.u64.wrap P.rf = P.rf := by rw [IntKind.wrap_u64]; omega
  have w_sc : IntKind.u64.wrap P.sc = P.sc := by rw [IntKind.wrap_u64]; omega
  have w_rs : IntKind.u64.wrap P.rs = P.rs := by rw [IntKind.wrap_u64]; omega
  rw [w_p, w_n, w_t, w_m, w_c, w_tg, w_bl, w_bo, w_ep, w_rf, w_sc, w_rs]
  clear w_p w_n w_t w_m w_c w_tg w_bl w_bo w_ep w_rf w_sc w_rs z8 z9 z10 z11 z12 z13 z14 z15 z272 z273 z274 z275 hcv hsl8
  obtain ⟨q, hq⟩ : ∃ q, q = A.heap.size := ⟨_, rfl⟩
  have HQ := Lib.hid hq
  have HB0 := Lib.hid (show Below q A (A.alloc (.cells #[.string SS, .int .i64 P.p, .int .i64 P.n, .int .i64 P.t, .int .i64 P.m, .int .i64 P.c, .int .u64 P.bl, .int .u64 P.bo, .int .u64 P.ep, .slice none 0 0, .int .u64 P.rf, .int .u64 P.sc, .int .i64 P.tg, .int .u64 P.rs] 55)).drew by rw [hq]; exact ((Below.refl _ _).alloc (Nat.le_refl _) _).drew)
  have HR0 := Lib.hid (show (A.alloc (.cells #[.string SS, .int .i64 P.p, .int .i64 P.n, .int .i64 P.t, .int .i64 P.m, .int .i64 P.c, .int .u64 P.bl, .int .u64 P.bo, .int .u64 P.ep, .slice none 0 0, .int .u64 P.rf, .int .u64 P.sc, .int .i64 P.tg, .int .u64 P.rs] 55)).drew.heap[q]? = some (.cells #[.string SS, .int .i64 P.p, .int .i64 P.n, .int .i64 P.t, .int .i64 P.m, .int .i64 P.c, .int .u64 P.bl, .int .u64 P.bo, .int .u64 P.ep, .slice none 0 0, .int .u64 P.rf, .int .u64 P.sc, .int .i64 P.tg, .int .u64 P.rs] 55 (0, 0)) by rw [hq]; exact heap_alloc_new A _)
  rw [← hq]
  generalize (A.alloc (.cells #[.string SS, .int .i64 P.p, .int .i64 P.n, .int .i64 P.t, .int .i64 P.m, .int .i64 P.c, .int .u64 P.bl, .int .u64 P.bo, .int .u64 P.ep, .slice none 0 0, .int .u64 P.rf, .int .u64 P.sc, .int .i64 P.tg, .int .u64 P.rs] 55)).drew = W0 at HB0 HR0 ⊢
  clear hq
  have HS0 := Lib.hid (HSU.out W0 (HQ.out ▸ HB0.out))
  have HRG := Lib.hid (show W0.rangeAt w.heap.size 16 (P.inn.map Value.bool) from fun j v hj => by
    have hjl : j < 256 := by have := (List.getElem?_eq_some_iff.1 hj).1; rw [List.length_map, hP.inn] at this; exact this
    rw [map_bool_getElem? (by rw [hP.inn]; exact hjl)] at hj
    rw [← hj]
    exact HS0.out.inn hjl)
  have HSZ := Lib.hid (show (Try.prog.info? 33).map (·.size) = some (P.inn.map Value.bool).length by rw [List.length_map, hP.inn]; kernel_rfl)
  obtain ⟨iI, hi5, hz5⟩ := Option.map_eq_some_iff.1 infoI
  simp only [Prod.mk.injEq] at hz5
  have HI := Lib.hid (And.intro hi5 hz5)
  clear hi5 hz5
  go_upto_region 3 with ((with_reducible show wpList _ _ _ (⟨some 47, _, _, _, _, _⟩ :: _) _ _); go_loud (refine wpList_load_mid (by rfl) 33 (.tmp 46) (by rfl) w.heap.size 16 (by rfl) (P.inn.map Value.bool) _ HRG.out und256 (by rfl) HSZ.out ?_))
  go_loopw [48] (fun iv wr => ∃ (k : Nat) (a : Option Addr) (c : Nat), k ≤ 256 ∧ iv = .int .i64 (k : Nat) ∧ Hid (wr.heap[q]? = some (.cells #[.string SS, .int .i64 P.p, .int .i64 P.n, .int .i64 P.t, .int .i64 P.m, .int .i64 P.c, .int .u64 P.bl, .int .u64 P.bo, .int .u64 P.ep, .slice a (inK P.inn k).length c, .int .u64 P.rf, .int .u64 P.sc, .int .i64 P.tg, .int .u64 P.rs] 55 (0, 0))) ∧ Hid (wr.ownsRow (q + 1) 3 1 (.slice a (inK P.inn k).length c) (inK P.inn k).length ((inK P.inn k).map (Value.int .i64))) ∧ Hid (Below q W0 wr))
    (fun iv _ => 256 - (intOf iv).toNat)
  case atStart => exact ⟨0, none, 0, by omega, rfl, Lib.hid HR0.out, Lib.hid (own_emptyI _ _), Lib.hid (Below.refl _ _)⟩
  case round =>
    obtain ⟨k, a, c, hk, rfl, hr, ho, hb⟩ := hrel
    rename World => wr
    by_cases hlt : k < 256
    · obtain ⟨v, hv⟩ : ∃ v, v = P.inn.getD k false := ⟨_, rfl⟩
      have hix : ∀ W : World, (Instr.index 33 (.agg (P.inn.map Value.bool).toArray) (.int .i64 (k : Nat))).run Try.prog W = .ok (.bool v) W := fun W => by rw [hv]; exact index256 P.inn k hP.inn hlt W
      obtain ⟨n, hn⟩ : ∃ n, n = (inK P.inn k).length := ⟨_, rfl⟩
      have hnk : n ≤ k := by rw [hn]; exact inK_len _ _
      rw [← hn] at hr ho
      have HN := Lib.hid hn
      have qk : (k : Int) < 256 := by omega
      cases v with
      | false =>
        have HK := Lib.hid (inK_no hv.symm)
        clear hv hn
        go_wp2
        go_roundw
        case rel => exact ⟨k + 1, a, c, by omega, by go_num, Lib.hid (by rw [HK.out, ← HN.out]; exact hr.out), Lib.hid (by rw [HK.out, ← HN.out]; exact ho.out), hb⟩
        case measure => simp [intOf]; omega
      | true =>
        have HK := Lib.hid (inK_yes hv.symm)
        have hcl := (cell14 hr.out).2.2.2.2.2.2.2.2.2.1
        have HQL := Lib.hid (Array.getElem?_eq_some_iff.1 hr.out).1
        clear hv hn
        go_wp2_with ((with_reducible show wpList _ _ _ (⟨some 57, _, _, _, _, _⟩ :: _) _ _); go_loud (refine wpList_append_i1 _ rfl (.tmp 54) (.tmp 56) 36 rfl (q + 1) 3 iI Try.underlying36 HI.out.1 HI.out.2.1 HI.out.2.2.1 HI.out.2.2.2 (.slice a n c) n (inK P.inn k) rfl (ho.out.alloc _) ⟨wr.heap.size, 0, none⟩ (k : Int) rfl (by simp) (by omega) (by have := HQL.out; simp; omega) (wr.heap.size + 1) (by simp) ?_; intro g4 c4 w4 ho4 hg4 hat4; have h4r := (hg4.block q (by have := HQL.out; simp; omega) (fun e => by have := (ho.out.lt q e.symm).1; omega)).trans ((heap_alloc_old wr _ HQL.out).trans hr.out); have HR4 := Lib.hid h4r; have HO4 := Lib.hid ho4; have HB4 := Lib.hid ((hb.out.alloc (Nat.le_of_lt HQL.out) _).grown hg4 (by have := HQL.out; simp; omega) (fun j e => by have := (ho.out.lt j e).1; omega)); have z9 := (cell14 h4r).2.2.2.2.2.2.2.2.2.1; have zf := frozen_of_row w4 q 9 _ _ h4r; clear ho4 hg4 h4r))
        go_roundw
        case rel =>
          refine ⟨k + 1, some ⟨g4, 0, none⟩, c4, by omega, by go_num, Lib.hid ?_, Lib.hid ?_, Lib.hid (HB4.out.setCell (p := ⟨q, 9, none⟩) (Nat.le_refl _) _)⟩
          · rw [HK.out, List.length_append, ← HN.out]
            exact heap_setCell_same w4 q 9 _ _ _ HR4.out
          · rw [HK.out, List.length_append, ← HN.out]
            exact own_blockT HO4.out (fun g e => heap_setCell_other w4 ⟨q, 9, none⟩ g _ (by have := (HO4.out.lt g e).1; show g ≠ q; omega))
        case measure => simp [intOf]; omega
    · obtain rfl : k = 256 := by omega
      have HZ := Lib.hid (show wr.heap[w.heap.size + 1]? = some (.cells #[.string { data := #[] }, .int .i64 0, .int .i64 0, .int .i64 0, .int .i64 0, .int .i64 0, .int .u64 0, .int .u64 0, .int .u64 0, .slice none 0 0, .int .u64 0, .int .u64 0, .int .i64 0, .int .u64 0] 55 (0, 0)) from by
        have h1 := HQ.out
        have h2 := HA.out.2.2.1
        rw [hb.out.block _ (by omega), HB0.out.block _ (by omega)]
        exact HA.out.2.2.2.2)
      have HBW := Lib.hid (show Below w.heap.size w wr from by
        have h1 := HQ.out
        have h2 := HA.out.2.2.1
        exact (HA.out.2.1.trans (HB0.out.mono (by omega))).trans (hb.out.mono (by omega)))
      have HS14 := Lib.hid (show (Try.prog.info? 55).map (·.size) = some 14 from sizeRu)
      obtain ⟨cF, hcF⟩ : ∃ cF : Array Value, cF = #[.string SS, .int .i64 P.p, .int .i64 P.n, .int .i64 P.t, .int .i64 P.m, .int .i64 P.c, .int .u64 P.bl, .int .u64 P.bo, .int .u64 P.ep, .slice a (inK P.inn 256).length c, .int .u64 P.rf, .int .u64 P.sc, .int .i64 P.tg, .int .u64 P.rs] := ⟨_, rfl⟩
      have hsF : cF.size = 14 := by rw [hcF]; rfl
      have hoF : cF.all (·.oneCell') = true := by rw [hcF]; simp [Value.oneCell']
      have HRF := Lib.hid (show wr.heap[q]? = some (.cells cF 55 (0, 0)) by rw [hcF]; exact hr.out)
      have HCF := Lib.hid (And.intro hcF (And.intro hsF hoF))
      obtain ⟨zF, hzF⟩ : ∃ zF : Array Value, zF = #[.string { data := #[] }, .int .i64 0, .int .i64 0, .int .i64 0, .int .i64 0, .int .i64 0, .int .u64 0, .int .u64 0, .int .u64 0, .slice none 0 0, .int .u64 0, .int .u64 0, .int .i64 0, .int .u64 0] := ⟨_, rfl⟩
      rw [← hzF] at HZ
      have HZS := Lib.hid (show zF.size = 14 by rw [hzF]; rfl)
      have HOI := Lib.hid ho.out
      clear hcF hsF hoF hzF hr ho hb hlt
      go_wp2_with (first
        | ((with_reducible show wpList _ _ _ (⟨some 60, _, _, _, _, _⟩ :: _) _ _); go_loud (refine wpList_load_row rfl 55 (.tmp 3) rfl q rfl 55 cF (0, 0) _ HRF.out Try.underlying55 rfl (by rw [HCF.out.2.1]; exact HS14.out) ?_))
        | ((with_reducible show wpList _ _ _ (⟨none, _, _, _, _, _⟩ :: _) _ _); go_loud (refine wpList_store_row rfl 55 (.tmp 2) (.tmp 60) rfl (w.heap.size + 1) cF rfl rfl 55 zF HZ.out (by rw [HCF.out.2.1]; exact HS14.out) (by rw [HZS.out, HCF.out.2.1]) HCF.out.2.2 ?_)))
      refine bodyPost_ret (v := .agg cF) (results_ref _ _ (w.heap.size + 1) cF rfl (setRow_heap _ _ _ _ _ _ HZ.out) HCF.out.2.1) rfl ⟨a, c, by rw [HCF.out.1]; rfl, ?_, below_setRow HBW.out (by omega) _, fun b o e => by have h1 := HQ.out; have h2 := HA.out.2.2.1; have h3 := (HOI.out.lt b (by rw [e]; rfl)).1; omega⟩
      have hia := ia_own HOI.out (fun x hx => SU.L_64 256 x hx (Nat.le_refl _))
      refine hia.onB fun hp b o e => setRow_other _ _ _ _ ?_
      have h1 := HQ.out
      have h2 := HA.out.2.2.1
      have h3 := (HOI.out.lt b (by rw [e]; rfl)).1
      omega
end Go.Proofs.Ytbijakhdngbjmaa
