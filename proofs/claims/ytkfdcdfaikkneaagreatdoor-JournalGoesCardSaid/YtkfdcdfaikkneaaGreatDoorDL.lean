/- Texts of mine, one behind the other: Rc1 Rd2 Rf1. -/
import Derived.Test.YtkfdcdfaikkneaaGreatDoorDK
import Derived.Test.YtkfdcdfaikkneaaGreatDoorDA
import Derived.BigRegion
import Derived.Deep.RegionHeld
import Derived.Laws.AppendOwnNone
import Derived.Test.YtkfdcdfaikkneaaGreatDoorDJ
import Derived.DeepKeys
import Derived.Laws.CopyOwn
/- The law's Ref: the document's super of a super. -/
namespace Go.Proofs.YtkfdcdfaikkneaaGreatDoor
open Go.ChangeShapes Go.WideShapes Go.ChangeAt Go.RowKit Go.Shelf
set_option linter.unusedVariables false
set_option linter.unusedSimpArgs false
set_option maxRecDepth 100000
attribute [local go_sem] Oper.semAt_some

theorem isAggB (W : World) : (isAgg 4).run Tryz.prog W = .ok false W := by kernel_rfl
theorem sizeB4 (W : World) : (sizeOf 4).run Tryz.prog W = .ok 1 W := by kernel_rfl
/-- in[k], of an array by value. -/
theorem index256 (l : List Bool) (k : Nat) (hl : l.length = 256) (hk : k < 256) (W : World) : (Instr.index 31 (.agg (l.map Value.bool).toArray) (.int .i64 (k : Nat))).run Tryz.prog W = .ok (.bool (l.getD k false)) W := by
  have hh : (0 : Int) ≤ (k : Int) ∧ (k : Int) < ((256 : Nat) : Int) := by omega
  have hc : (l.map Value.bool).toArray[k]? = some (.bool (l.getD k false)) := by
    rw [List.getElem?_toArray]; exact map_bool_getElem? (by omega)
  simp [Instr.index, asIntOf, run_underlying und256, sizeB4, Go.part, isAggB, hk, List.getElem?_eq_getElem (show k < l.length by omega)]
/-- append of one number onto a row of numbers of one's own. -/
theorem wpList_append_i1 {P : Program} (w : World) {ops : Array Oper} {rest : List Oper} {o : Oper} {a : Act} {Q : Exit → Act → World → Prop} (hgd : o.guard = none) (s x : Operand) (t : TypeId)
    (ho : o.op = .call { callee := .builtin .append, args := #[s, x], argTypes := #[t, t] })
    (base : Nat) (e : TypeId) (i : TypeInfo) (ht : P.underlying t = some (.slice e)) (hi : P.info? e = some i) (hz : i.zero = some (.int .i64 0)) (hsize : i.size = 1) (hby : i.bytes = 8)
    (v : Value) (n : Nat) (l : List Int) (hs : a.eval s = v) (hown : w.ownsRow base e 1 v n (l.map (Value.int .i64)))
    (ad : Addr) (z : Int) (hx : a.eval x = .slice (some ad) 1 1) (hB : w.cell? ad = some (.int .i64 z)) (hn : n + 1 ≤ 1000) (hbase : base ≤ w.heap.size) (Hs : Nat) (hH : w.heap.size = Hs)
    (h : ∀ g' c' w', w'.ownsRow base e 1 (.slice (some ⟨g', 0, none⟩) (n + 1) c') (n + 1) ((l ++ [z]).map (Value.int .i64)) → w.grownBy w' v.ownBlock → (v.ownBlock = some g' ∨ g' = Hs) → wpList P ops Q rest (a.put o.dst (.slice (some ⟨g', 0, none⟩) (n + 1) c')) w') :
    wpList P ops Q (o :: rest) a w := by
  refine wpList_append_lies w hgd s x t ho base e i (.int .i64 0) 1 8 ht hi hz hsize hby rfl (by decide) v n (l.map (Value.int .i64)) hs hown ad 1 1 [.int .i64 z] hx rfl ?_ ?_ (by decide) (by unfold maxLen; omega) (by omega) hbase Hs hH ?_
  · intro j u hj
    cases j with
    | zero =>
      have hu : u = .int .i64 z := (Option.some.inj hj).symm
      rw [hu, Addr.add_zero']
      exact hB
    | succ j => cases hj
  · intro u hu
    cases List.mem_singleton.1 hu
    rfl
  · intro g' cap w' h1 h2 h3 _
    exact h g' cap w' (by rw [List.map_append]; exact h1) h2 h3
theorem IA.onB {w w' : World} {a : Option Addr} {L c : Nat} {ps : List Int} (h : IA w a L c ps) (hk : 0 < L → ∀ b o, a = some ⟨b, o, none⟩ → w'.heap[b]? = w.heap[b]?) : IA w' a L c ps := by
  obtain ⟨h1, h2, h3, h4, h5, h6⟩ := h
  refine ⟨h1, h2, h3, h4, h5, fun hp => ?_⟩
  obtain ⟨b, off, e, hb, hc⟩ := h6 hp
  have hkb := hk hp b off e
  refine ⟨b, off, e, ?_, fun i hi => (World.cell?_of_block (w := w) (a := ⟨b, off + i, none⟩) hkb).trans (hc i hi)⟩
  rcases Nat.lt_or_ge b w'.heap.size with h7 | h7
  · exact h7
  · rw [Array.getElem?_eq_none h7, Array.getElem?_eq_getElem hb] at hkb; cases hkb
theorem infoI : (Tryz.prog.info? 3).map (fun i => (i.zero, i.size, i.bytes)) = some (some (.int .i64 0), 1, 8) := by kernel_rfl
theorem own_emptyI (w : World) (B : Nat) : w.ownsRow B 3 1 (.slice none 0 0) 0 (([] : List Int).map (Value.int .i64)) := World.ownsRow_nil _ _ _ _
theorem ia_own {w : World} {B n c : Nat} {a : Option Addr} {l : List Int} (h : w.ownsRow B 3 1 (.slice a n c) n (l.map (Value.int .i64))) (hl : ∀ x ∈ l, -9223372036854775808 ≤ x ∧ x ≤ 9223372036854775807) : IA w a n c l := by
  have hln : l.length = n := by have := h.1; simpa using this
  have hb : ∀ i, -9223372036854775808 ≤ l.getD i 0 ∧ l.getD i 0 ≤ 9223372036854775807 := fun i => by
    rcases Nat.lt_or_ge i l.length with h1 | h1
    · rw [List.getD_eq_getElem?_getD, List.getElem?_eq_getElem h1]; exact hl _ (List.getElem_mem h1)
    · rw [List.getD_eq_getElem?_getD, List.getElem?_eq_none h1]; exact ⟨by decide, by decide⟩
  have h0 := h
  obtain ⟨h1, h2⟩ := h
  rcases h2 with ⟨hv, hn⟩ | ⟨g, cap, cur, hv, hg, hh, hn, hm, hs, ht⟩
  · cases hv
    exact ⟨hln, Nat.le_refl _, Nat.zero_le _, fun _ => rfl, hb, fun h => absurd h (by omega)⟩
  · cases hv
    refine ⟨hln, hn, hm, fun h => (by cases h), hb, fun hp => ⟨g, 0, rfl, (Array.getElem?_eq_some_iff.1 hh).1, fun i hi => ?_⟩⟩
    rw [Nat.zero_add, h0.cellAt i (by omega)]
    rw [List.getElem?_map, List.getElem?_eq_getElem (by omega), List.getD_eq_getElem?_getD, List.getElem?_eq_getElem (by omega)]
    rfl
theorem SU.L_64 {P : SU} : ∀ k, ∀ x ∈ inK P.inn k, k ≤ 256 → -9223372036854775808 ≤ x ∧ x ≤ 9223372036854775807 := fun k x hx hk => by
  obtain ⟨i, h1, h2, _⟩ := inK_mem.1 hx
  omega
theorem sizeRu : (Tryz.prog.info? 59).map (·.size) = some 14 := by kernel_rfl
theorem results_ref (tmps : Array Value) (w : World) (g : Nat) (cs : Array Value) (h2 : tmps.getD 2 undef = .pointer (some ⟨g, 0, none⟩)) (hg : w.heap[g]? = some (.cells cs 59 (0, 0))) (hs : cs.size = 14) :
    (results Tryz.f34 tmps).run Tryz.prog w = .ok (.agg cs) w := by
  have h2' : tmps[2]?.getD undef = .pointer (some ⟨g, 0, none⟩) := by simpa using h2
  have hr := run_loadVar_row (P := Tryz.prog) w g 59 59 cs (0, 0) _ hg Tryz.underlying59 rfl (by rw [hs]; exact sizeRu)
  simp [results, Tryz.f34, h2', asAddr, hr]
set_option maxHeartbeats 16000000 in
theorem ref_any (P : SU) (hP : P.Wf) (w : World) :
    Calls Tryz.prog 34 #[suA P] w fun e w' => ∃ a c, e = .returned (ruA P (.slice a P.L.length c)) ∧ IA w' a P.L.length c P.L ∧ Below w.heap.size w w' ∧ (∀ b o, a = some ⟨b, o, none⟩ → w.heap.size ≤ b) := by
  obtain ⟨hwA, hSA⟩ := su_box P w
  obtain ⟨SS, hSS⟩ : ∃ s, s = strOfNums P.nm := ⟨_, rfl⟩
  obtain ⟨s0, hs0⟩ : ∃ s, s = tabV 276 (suV P) := ⟨_, rfl⟩
  unfold suA ruA
  rw [← hs0] at hwA hSA ⊢
  rw [← hSS]
  obtain ⟨A1, hA1⟩ : ∃ A, A = w.alloc (.cells s0 33) := ⟨_, rfl⟩
  rw [← hA1] at hwA hSA
  have hA1s : A1.heap.size = w.heap.size + 1 := by rw [hA1]; simp
  obtain ⟨A, hA⟩ : ∃ A, A = A1.alloc (.cells #[.string { data := #[] }, .int .i64 0, .int .i64 0, .int .i64 0, .int .i64 0, .int .i64 0, .int .u64 0, .int .u64 0, .int .u64 0, .slice none 0 0, .int .u64 0, .int .u64 0, .int .i64 0, .int .u64 0] 59) := ⟨_, rfl⟩
  have hbA : Below A1.heap.size A1 A := by rw [hA]; exact (Below.refl _ _).alloc (Nat.le_refl _) _
  have hAs : A.heap.size = w.heap.size + 2 := by rw [hA]; simp; omega
  have hSA2 := hSA.on hbA
  have hrA : A.heap[w.heap.size + 1]? = some (.cells #[.string { data := #[] }, .int .i64 0, .int .i64 0, .int .i64 0, .int .i64 0, .int .i64 0, .int .u64 0, .int .u64 0, .int .u64 0, .slice none 0 0, .int .u64 0, .int .u64 0, .int .i64 0, .int .u64 0] 59 (0, 0)) := by rw [hA, ← hA1s]; exact heap_alloc_new A1 _
  have HA := Lib.hid (And.intro (show A = (w.alloc (.cells s0 33)).alloc (.cells #[.string { data := #[] }, .int .i64 0, .int .i64 0, .int .i64 0, .int .i64 0, .int .i64 0, .int .u64 0, .int .u64 0, .int .u64 0, .slice none 0 0, .int .u64 0, .int .u64 0, .int .i64 0, .int .u64 0] 59) by rw [hA, hA1]) (And.intro (bt hwA hbA) (And.intro hAs (And.intro hSA2 hrA))))
  have HSU := Lib.hid (show ∀ W, Below A.heap.size A W → SuB W w.heap.size P from fun W hW => hSA2.on hW)
  have hsl8 := fun W => slice8 W w.heap.size 0
  have hcv : ∀ W, Below A.heap.size A W → (convert 23 9 (.slice (some ⟨w.heap.size, 0, none⟩) 8 8)).run Tryz.prog W = .ok (.string SS) W := fun W hW => by
    rw [hSS]
    exact ((HSU.out W hW).bs hP).str hP.nm.1 Tryz.underlying23 Tryz.underlying5 Tryz.underlying9
  have z8 : ∀ W, Below A.heap.size A W → W.cell? ⟨w.heap.size, 8, none⟩ = some (.int .u8 P.p) := fun W hW => (HSU.out W hW).num.1
  have z9 : ∀ W, Below A.heap.size A W → W.cell? ⟨w.heap.size, 9, none⟩ = some (.int .u8 P.n) := fun W hW => (HSU.out W hW).num.2.1
  have z10 : ∀ W, Below A.heap.size A W → W.cell? ⟨w.heap.size, 10, none⟩ = some (.int .u8 P.t) := fun W hW => (HSU.out W hW).num.2.2.1
  have z11 : ∀ W, Below A.heap.size A W → W.cell? ⟨w.heap.size, 11, none⟩ = some (.int .u8 P.m) := fun W hW => (HSU.out W hW).num.2.2.2.1
  have z12 : ∀ W, Below A.heap.size A W → W.cell? ⟨w.heap.size, 12, none⟩ = some (.int .u8 P.c) := fun W hW => (HSU.out W hW).num.2.2.2.2.1
  have z13 : ∀ W, Below A.heap.size A W → W.cell? ⟨w.heap.size, 13, none⟩ = some (.int .u32 P.bl) := fun W hW => (HSU.out W hW).num.2.2.2.2.2.1
  have z14 : ∀ W, Below A.heap.size A W → W.cell? ⟨w.heap.size, 14, none⟩ = some (.int .u32 P.bo) := fun W hW => (HSU.out W hW).num.2.2.2.2.2.2.1
  have z15 : ∀ W, Below A.heap.size A W → W.cell? ⟨w.heap.size, 15, none⟩ = some (.int .u32 P.ep) := fun W hW => (HSU.out W hW).num.2.2.2.2.2.2.2.1
  have z272 : ∀ W, Below A.heap.size A W → W.cell? ⟨w.heap.size, 272, none⟩ = some (.int .u32 P.rf) := fun W hW => (HSU.out W hW).num.2.2.2.2.2.2.2.2.1
  have z273 : ∀ W, Below A.heap.size A W → W.cell? ⟨w.heap.size, 273, none⟩ = some (.int .u32 P.sc) := fun W hW => (HSU.out W hW).num.2.2.2.2.2.2.2.2.2.1
  have z274 : ∀ W, Below A.heap.size A W → W.cell? ⟨w.heap.size, 274, none⟩ = some (.int .u8 P.tg) := fun W hW => (HSU.out W hW).num.2.2.2.2.2.2.2.2.2.2.1
  have z275 : ∀ W, Below A.heap.size A W → W.cell? ⟨w.heap.size, 275, none⟩ = some (.int .u32 P.rs) := fun W hW => (HSU.out W hW).num.2.2.2.2.2.2.2.2.2.2.2
  have b_p : 0 ≤ P.p ∧ P.p < 256 := hP.p
  have b_n : 0 ≤ P.n ∧ P.n < 256 := hP.n
  have b_t : 0 ≤ P.t ∧ P.t < 256 := hP.t
  have b_m : 0 ≤ P.m ∧ P.m < 256 := hP.m
  have b_c : 0 ≤ P.c ∧ P.c < 256 := hP.c
  have b_tg : 0 ≤ P.tg ∧ P.tg < 256 := hP.tg
  have b_bl : 0 ≤ P.bl ∧ P.bl < 4294967296 := hP.bl
  have b_bo : 0 ≤ P.bo ∧ P.bo < 4294967296 := hP.bo
  have b_ep : 0 ≤ P.ep ∧ P.ep < 4294967296 := hP.ep
  have b_rf : 0 ≤ P.rf ∧ P.rf < 4294967296 := hP.rf
  have b_sc : 0 ≤ P.sc ∧ P.sc < 4294967296 := hP.sc
  have b_rs : 0 ≤ P.rs ∧ P.rs < 4294967296 := hP.rs
  clear hs0 hSS hwA hSA hA1 hA1s hA hbA hAs hSA2 hrA
  go_enter Tryz.func34, Tryz.ntmps34
  go_upto_region 1 with fail
  rw [← HA.out.1]
  go_region_held (fun W => Below A.heap.size A W) (first | assumption | exact (Below.refl _ _).drew | exact ((Below.refl _ _).alloc (Nat.le_refl _) _).drew | (refine Below.drew ?_; assumption)) (fail)
  have w_p := IntWalk.i64_in P.p (by omega)
  have w_n := IntWalk.i64_in P.n (by omega)
  have w_t := IntWalk.i64_in P.t (by omega)
  have w_m := IntWalk.i64_in P.m (by omega)
  have w_c := IntWalk.i64_in P.c (by omega)
  have w_tg := IntWalk.i64_in P.tg (by omega)
  have w_bl : IntKind.u64.wrap P.bl = P.bl := by rw [IntKind.wrap_u64]; omega
  have w_bo : IntKind.u64.wrap P.bo = P.bo := by rw [IntKind.wrap_u64]; omega
  have w_ep : IntKind.u64.wrap P.ep = P.ep := by rw [IntKind.wrap_u64]; omega
  have w_rf : IntKind.u64.wrap P.rf = P.rf := by rw [IntKind.wrap_u64]; omega
  have w_sc : IntKind.u64.wrap P.sc = P.sc := by rw [IntKind.wrap_u64]; omega
  have w_rs : IntKind.u64.wrap P.rs = P.rs := by rw [IntKind.wrap_u64]; omega
  rw [w_p, w_n, w_t, w_m, w_c, w_tg, w_bl, w_bo, w_ep, w_rf, w_sc, w_rs]
  clear w_p w_n w_t w_m w_c w_tg w_bl w_bo w_ep w_rf w_sc w_rs z8 z9 z10 z11 z12 z13 z14 z15 z272 z273 z274 z275 hcv hsl8
  obtain ⟨q, hq⟩ : ∃ q, q = A.heap.size := ⟨_, rfl⟩
  have HQ := Lib.hid hq
  have HB0 := Lib.hid (show Below q A (A.alloc (.cells #[.string SS, .int .i64 P.p, .int .i64 P.n, .int .i64 P.t, .int .i64 P.m, .int .i64 P.c, .int .u64 P.bl, .int .u64 P.bo, .int .u64 P.ep, .slice none 0 0, .int .u64 P.rf, .int .u64 P.sc, .int .i64 P.tg, .int .u64 P.rs] 59)).drew by rw [hq]; exact ((Below.refl _ _).alloc (Nat.le_refl _) _).drew)
  have HR0 := Lib.hid (show (A.alloc (.cells #[.string SS, .int .i64 P.p, .int .i64 P.n, .int .i64 P.t, .int .i64 P.m, .int .i64 P.c, .int .u64 P.bl, .int .u64 P.bo, .int .u64 P.ep, .slice none 0 0, .int .u64 P.rf, .int .u64 P.sc, .int .i64 P.tg, .int .u64 P.rs] 59)).drew.heap[q]? = some (.cells #[.string SS, .int .i64 P.p, .int .i64 P.n, .int .i64 P.t, .int .i64 P.m, .int .i64 P.c, .int .u64 P.bl, .int .u64 P.bo, .int .u64 P.ep, .slice none 0 0, .int .u64 P.rf, .int .u64 P.sc, .int .i64 P.tg, .int .u64 P.rs] 59 (0, 0)) by rw [hq]; exact heap_alloc_new A _)
  rw [← hq]
  generalize (A.alloc (.cells #[.string SS, .int .i64 P.p, .int .i64 P.n, .int .i64 P.t, .int .i64 P.m, .int .i64 P.c, .int .u64 P.bl, .int .u64 P.bo, .int .u64 P.ep, .slice none 0 0, .int .u64 P.rf, .int .u64 P.sc, .int .i64 P.tg, .int .u64 P.rs] 59)).drew = W0 at HB0 HR0 ⊢
  clear hq
  have HS0 := Lib.hid (HSU.out W0 (HQ.out ▸ HB0.out))
  have HRG := Lib.hid (show W0.rangeAt w.heap.size 16 (P.inn.map Value.bool) from fun j v hj => by
    have hjl : j < 256 := by have := (List.getElem?_eq_some_iff.1 hj).1; rw [List.length_map, hP.inn] at this; exact this
    rw [map_bool_getElem? (by rw [hP.inn]; exact hjl)] at hj
    rw [← hj]
    exact HS0.out.inn hjl)
  have HSZ := Lib.hid (show (Tryz.prog.info? 31).map (·.size) = some (P.inn.map Value.bool).length by rw [List.length_map, hP.inn]; kernel_rfl)
  obtain ⟨iI, hi5, hz5⟩ := Option.map_eq_some_iff.1 infoI
  simp only [Prod.mk.injEq] at hz5
  have HI := Lib.hid (And.intro hi5 hz5)
  clear hi5 hz5
  go_upto_region 3 with ((with_reducible show wpList _ _ _ (⟨some 47, _, _, _, _, _⟩ :: _) _ _); go_loud (refine wpList_load_mid (by rfl) 31 (.tmp 46) (by rfl) w.heap.size 16 (by rfl) (P.inn.map Value.bool) _ HRG.out und256 (by rfl) HSZ.out ?_))
  go_loopw [48] (fun iv wr => ∃ (k : Nat) (a : Option Addr) (c : Nat), k ≤ 256 ∧ iv = .int .i64 (k : Nat) ∧ Hid (wr.heap[q]? = some (.cells #[.string SS, .int .i64 P.p, .int .i64 P.n, .int .i64 P.t, .int .i64 P.m, .int .i64 P.c, .int .u64 P.bl, .int .u64 P.bo, .int .u64 P.ep, .slice a (inK P.inn k).length c, .int .u64 P.rf, .int .u64 P.sc, .int .i64 P.tg, .int .u64 P.rs] 59 (0, 0))) ∧ Hid (wr.ownsRow (q + 1) 3 1 (.slice a (inK P.inn k).length c) (inK P.inn k).length ((inK P.inn k).map (Value.int .i64))) ∧ Hid (Below q W0 wr))
    (fun iv _ => 256 - (intOf iv).toNat)
  case atStart => exact ⟨0, none, 0, by omega, rfl, Lib.hid HR0.out, Lib.hid (own_emptyI _ _), Lib.hid (Below.refl _ _)⟩
  case round =>
    obtain ⟨k, a, c, hk, rfl, hr, ho, hb⟩ := hrel
    rename World => wr
    by_cases hlt : k < 256
    · obtain ⟨v, hv⟩ : ∃ v, v = P.inn.getD k false := ⟨_, rfl⟩
      have hix : ∀ W : World, (Instr.index 31 (.agg (P.inn.map Value.bool).toArray) (.int .i64 (k : Nat))).run Tryz.prog W = .ok (.bool v) W := fun W => by rw [hv]; exact index256 P.inn k hP.inn hlt W
      obtain ⟨n, hn⟩ : ∃ n, n = (inK P.inn k).length := ⟨_, rfl⟩
      have hnk : n ≤ k := by rw [hn]; exact inK_len _ _
      rw [← hn] at hr ho
      have HN := Lib.hid hn
      have qk : (k : Int) < 256 := by omega
      cases v with
      | false =>
        have HK := Lib.hid (inK_no hv.symm)
        clear hv hn
        go_wp2
        go_roundw
        case rel => exact ⟨k + 1, a, c, by omega, by go_num, Lib.hid (by rw [HK.out, ← HN.out]; exact hr.out), Lib.hid (by rw [HK.out, ← HN.out]; exact ho.out), hb⟩
        case measure => simp [intOf]; omega
      | true =>
        have HK := Lib.hid (inK_yes hv.symm)
        have hcl := (cell14 hr.out).2.2.2.2.2.2.2.2.2.1
        have HQL := Lib.hid (Array.getElem?_eq_some_iff.1 hr.out).1
        clear hv hn
        go_wp2_with ((with_reducible show wpList _ _ _ (⟨some 57, _, _, _, _, _⟩ :: _) _ _); go_loud (refine wpList_append_i1 _ rfl (.tmp 54) (.tmp 56) 57 rfl (q + 1) 3 iI Tryz.underlying57 HI.out.1 HI.out.2.1 HI.out.2.2.1 HI.out.2.2.2 (.slice a n c) n (inK P.inn k) rfl (ho.out.alloc _) ⟨wr.heap.size, 0, none⟩ (k : Int) rfl (by simp) (by omega) (by have := HQL.out; simp; omega) (wr.heap.size + 1) (by simp) ?_; intro g4 c4 w4 ho4 hg4 hat4; have h4r := (hg4.block q (by have := HQL.out; simp; omega) (fun e => by have := (ho.out.lt q e.symm).1; omega)).trans ((heap_alloc_old wr _ HQL.out).trans hr.out); have HR4 := Lib.hid h4r; have HO4 := Lib.hid ho4; have HB4 := Lib.hid ((hb.out.alloc (Nat.le_of_lt HQL.out) _).grown hg4 (by have := HQL.out; simp; omega) (fun j e => by have := (ho.out.lt j e).1; omega)); have z9 := (cell14 h4r).2.2.2.2.2.2.2.2.2.1; have zf := frozen_of_row w4 q 9 _ _ h4r; clear ho4 hg4 h4r))
        go_roundw
        case rel =>
          refine ⟨k + 1, some ⟨g4, 0, none⟩, c4, by omega, by go_num, Lib.hid ?_, Lib.hid ?_, Lib.hid (HB4.out.setCell (p := ⟨q, 9, none⟩) (Nat.le_refl _) _)⟩
          · rw [HK.out, List.length_append, ← HN.out]
            exact heap_setCell_same w4 q 9 _ _ _ HR4.out
          · rw [HK.out, List.length_append, ← HN.out]
            exact own_blockT HO4.out (fun g e => heap_setCell_other w4 ⟨q, 9, none⟩ g _ (by have := (HO4.out.lt g e).1; show g ≠ q; omega))
        case measure => simp [intOf]; omega
    · obtain rfl : k = 256 := by omega
      have HZ := Lib.hid (show wr.heap[w.heap.size + 1]? = some (.cells #[.string { data := #[] }, .int .i64 0, .int .i64 0, .int .i64 0, .int .i64 0, .int .i64 0, .int .u64 0, .int .u64 0, .int .u64 0, .slice none 0 0, .int .u64 0, .int .u64 0, .int .i64 0, .int .u64 0] 59 (0, 0)) from by
        have h1 := HQ.out
        have h2 := HA.out.2.2.1
        rw [hb.out.block _ (by omega), HB0.out.block _ (by omega)]
        exact HA.out.2.2.2.2)
      have HBW := Lib.hid (show Below w.heap.size w wr from by
        have h1 := HQ.out
        have h2 := HA.out.2.2.1
        exact (HA.out.2.1.trans (HB0.out.mono (by omega))).trans (hb.out.mono (by omega)))
      have HS14 := Lib.hid (show (Tryz.prog.info? 59).map (·.size) = some 14 from sizeRu)
      obtain ⟨cF, hcF⟩ : ∃ cF : Array Value, cF = #[.string SS, .int .i64 P.p, .int .i64 P.n, .int .i64 P.t, .int .i64 P.m, .int .i64 P.c, .int .u64 P.bl, .int .u64 P.bo, .int .u64 P.ep, .slice a (inK P.inn 256).length c, .int .u64 P.rf, .int .u64 P.sc, .int .i64 P.tg, .int .u64 P.rs] := ⟨_, rfl⟩
      have hsF : cF.size = 14 := by rw [hcF]; rfl
      have hoF : cF.all (·.oneCell') = true := by rw [hcF]; simp [Value.oneCell']
      have HRF := Lib.hid (show wr.heap[q]? = some (.cells cF 59 (0, 0)) by rw [hcF]; exact hr.out)
      have HCF := Lib.hid (And.intro hcF (And.intro hsF hoF))
      obtain ⟨zF, hzF⟩ : ∃ zF : Array Value, zF = #[.string { data := #[] }, .int .i64 0, .int .i64 0, .int .i64 0, .int .i64 0, .int .i64 0, .int .u64 0, .int .u64 0, .int .u64 0, .slice none 0 0, .int .u64 0, .int .u64 0, .int .i64 0, .int .u64 0] := ⟨_, rfl⟩
      rw [← hzF] at HZ
      have HZS := Lib.hid (show zF.size = 14 by rw [hzF]; rfl)
      have HOI := Lib.hid ho.out
      clear hcF hsF hoF hzF hr ho hb hlt
      go_wp2_with (first
        | ((with_reducible show wpList _ _ _ (⟨some 60, _, _, _, _, _⟩ :: _) _ _); go_loud (refine wpList_load_row rfl 59 (.tmp 3) rfl q rfl 59 cF (0, 0) _ HRF.out Tryz.underlying59 rfl (by rw [HCF.out.2.1]; exact HS14.out) ?_))
        | ((with_reducible show wpList _ _ _ (⟨none, _, _, _, _, _⟩ :: _) _ _); go_loud (refine wpList_store_row rfl 59 (.tmp 2) (.tmp 60) rfl (w.heap.size + 1) cF rfl rfl 59 zF HZ.out (by rw [HCF.out.2.1]; exact HS14.out) (by rw [HZS.out, HCF.out.2.1]) HCF.out.2.2 ?_)))
      refine bodyPost_ret (v := .agg cF) (results_ref _ _ (w.heap.size + 1) cF rfl (setRow_heap _ _ _ _ _ _ HZ.out) HCF.out.2.1) rfl ⟨a, c, by rw [HCF.out.1]; rfl, ?_, below_setRow HBW.out (by omega) _, fun b o e => by have h1 := HQ.out; have h2 := HA.out.2.2.1; have h3 := (HOI.out.lt b (by rw [e]; rfl)).1; omega⟩
      have hia := ia_own HOI.out (fun x hx => SU.L_64 256 x hx (Nat.le_refl _))
      refine hia.onB fun hp b o e => setRow_other _ _ _ _ ?_
      have h1 := HQ.out
      have h2 := HA.out.2.2.1
      have h3 := (HOI.out.lt b (by rw [e]; rfl)).1
      omega
end Go.Proofs.YtkfdcdfaikkneaaGreatDoor
/- Supers are compared; rows read whole where an order is drawn. -/
namespace Go.Proofs.YtkfdcdfaikkneaaGreatDoor
open Go.ChangeShapes Go.WideShapes Go.ChangeAt Go.RowKit Go.Shelf
set_option linter.unusedVariables false
set_option linter.unusedSimpArgs false
set_option maxRecDepth 100000

theorem wpList_binG {P : Program} {ops : Array Oper} {rest : List Oper} {o : Oper} {a : Act} {w : World} {Q : Exit → Act → World → Prop} (hw : Region.wanted o (yielded ops a.tmps) = true) (op : BinOp) (t : TypeId) (x y : Operand) (t2 : TypeId) (ho : o.op = .binOp op t x y t2)
    (vx vy v : Value) (hx : a.eval x = vx) (hy : a.eval y = vy) (hg : (eqGuard op t x y vx vy).run P w = .ok () w) (hr : (binOp op t vx vy).run P w = .ok v w)
    (h : wpList P ops Q rest (a.put o.dst v) w) : wpList P ops Q (o :: rest) a w :=
  wpList_step fun K hK => by
    rw [if_pos hw]
    unfold Oper.wp execOp
    simp only [ho, hx, hy, Sem.run_bind, Sem.run_pure, Result.andThen_ok, hg, hr]
    exact hK _ _ h
theorem yieldsIf_load_row {P : Program} {ops : Array Oper} {S : World → Prop} {op : Oper} {a : Act} (hw : Region.wanted op (yielded ops a.tmps) = true) (ty : TypeId) (x : Operand) (ho : op.op = .load ty x)
    (g : Nat) (hx : a.eval x = .pointer (some ⟨g, 0, none⟩)) (t : TypeId) (cs : Array Value) (fr : Nat × Nat) (d : TypeDesc) (hS : ∀ w, S w → w.heap[g]? = some (.cells cs t fr))
    (hu : P.underlying ty = some d) (hd : (match d with | .struct _ | .array _ _ => true | _ => false) = true) (hi : (P.info? ty).map (·.size) = some cs.size) : YieldsIf P ops S op (.agg cs) a :=
  .inl ⟨hw, fun w hw' => by
    have hr := run_loadVar_row (P := P) w g t ty cs fr d (hS w hw') hu hd hi
    unfold execOp
    simp only [ho, hx, Instr.loadAt, Instr.sureAddr, Sem.run_bind, Sem.run_pure, Result.andThen_ok, hr]⟩
theorem mapM_some {α β : Type} {f : α → Option β} : ∀ {l : List α}, (∀ x ∈ l, ∃ y, f x = some y) → ∃ ys, l.mapM f = some ys
  | [], _ => ⟨[], rfl⟩
  | x :: l, h => by
    obtain ⟨y, hy⟩ := h x (List.mem_cons_self ..)
    obtain ⟨ys, hys⟩ := mapM_some (l := l) (fun z hz => h z (List.mem_cons_of_mem _ hz))
    exact ⟨y :: ys, by rw [List.mapM_cons, hy, hys]; rfl⟩
theorem tabV_one1 (g : Nat → Value) {n k : Nat} (h : k < n) : ((tabV n g).toList.drop k).take 1 = [g k] := by
  apply List.ext_getElem?
  intro i
  cases i with
  | zero => simp [tabV, List.getElem?_drop, h]
  | succ i => simp [List.getElem?_take]
theorem drop_take1 {cs : List Value} {o n i : Nat} (h : i < n) : (((cs.drop o).take n).drop i).take 1 = (cs.drop (o + i)).take 1 := by
  apply List.ext_getElem?
  intro j
  cases j with
  | zero => simp [List.getElem?_take, List.getElem?_drop, h]
  | succ j => simp [List.getElem?_take]
theorem kl_u8 (d : Nat) (x : Int) (h : byteI x) : Tryz.prog.keyLits (d + 1) 5 [.int .u8 x] = some [.int .u8 x] := by
  have hw : (Lit.int .u8 x).wf = true := by unfold byteI at h; simp [Lit.wf, IntKind.min, IntKind.max, IntKind.bits, IntKind.signed]; omega
  simp [Program.keyLits, Tryz.underlying5, hw]
theorem kl_u32 (d : Nat) (x : Int) (h : u32I x) : Tryz.prog.keyLits (d + 1) 24 [.int .u32 x] = some [.int .u32 x] := by
  simp [Program.keyLits, Tryz.underlying24, w32 h]
theorem kl_bool (d : Nat) (x : Bool) : Tryz.prog.keyLits (d + 1) 4 [.bool x] = some [.bool x] := by
  simp [Program.keyLits, Tryz.underlying4]
theorem cells_1 : Tryz.prog.cellsOf 5 = 1 ∧ Tryz.prog.cellsOf 24 = 1 ∧ Tryz.prog.cellsOf 4 = 1 ∧ Tryz.prog.cellsOf 30 = 8 ∧ Tryz.prog.cellsOf 31 = 256 ∧ Tryz.prog.cellsOf 33 = 276 := by
  refine ⟨?_, ?_, ?_, ?_, ?_, ?_⟩ <;> kernel_rfl
theorem kl_nm (d : Nat) (P : SU) (hP : P.Wf) : ∃ L, Tryz.prog.keyLits (d + 2) 30 (((tabV 276 (suV P)).toList.drop 0).take 8) = some L := by
  have hl : (((tabV 276 (suV P)).toList.drop 0).take 8).length = Tryz.prog.cellsOf 30 := by rw [cells_1.2.2.2.1]; simp [tabV]
  obtain ⟨ys, hys⟩ := mapM_some (f := fun i => Tryz.prog.keyLits (d + 1) 5 (((((tabV 276 (suV P)).toList.drop 0).take 8).drop (i * Tryz.prog.cellsOf 5)).take (Tryz.prog.cellsOf 5))) (l := List.range 8) (fun i hi => by
    have hi' := List.mem_range.1 hi
    rw [cells_1.1, Nat.mul_one, drop_take1 hi', Nat.zero_add, tabV_one1 _ (by omega), suV_nm P hi']
    refine ⟨_, kl_u8 d _ ?_⟩
    exact allB_getD hP.nm.2 i)
  exact ⟨ys.flatten, by unfold Program.keyLits; rw [und8]; simp only [hl, if_true, hys]; rfl⟩
theorem kl_in (d : Nat) (P : SU) : ∃ L, Tryz.prog.keyLits (d + 2) 31 (((tabV 276 (suV P)).toList.drop 16).take 256) = some L := by
  have hl : (((tabV 276 (suV P)).toList.drop 16).take 256).length = Tryz.prog.cellsOf 31 := by rw [cells_1.2.2.2.2.1]; simp [tabV]
  obtain ⟨ys, hys⟩ := mapM_some (f := fun i => Tryz.prog.keyLits (d + 1) 4 (((((tabV 276 (suV P)).toList.drop 16).take 256).drop (i * Tryz.prog.cellsOf 4)).take (Tryz.prog.cellsOf 4))) (l := List.range 256) (fun i hi => by
    have hi' := List.mem_range.1 hi
    rw [cells_1.2.2.1, Nat.mul_one, drop_take1 hi', tabV_one1 _ (by omega), suV_in P hi']
    exact ⟨_, kl_bool d _⟩)
  exact ⟨ys.flatten, by unfold Program.keyLits; rw [und256]; simp only [hl, if_true, hys]; rfl⟩
theorem fields_su : (Tryz.prog.fieldsOf 33).toList.all (fun f => decide (f.name ≠ "_") && decide ((f.type, f.offset) ∈ [(30, 0), (5, 8), (5, 9), (5, 10), (5, 11), (5, 12), (24, 13), (24, 14), (24, 15), (31, 16), (24, 272), (24, 273), (5, 274), (24, 275)])) = true := by kernel_rfl
theorem und_su : Tryz.prog.underlying 33 = some (.struct (Tryz.prog.fieldsOf 33)) := by kernel_rfl
theorem kl_su (d : Nat) (P : SU) (hP : P.Wf) : ∃ L, Tryz.prog.keyLits (d + 3) 33 (tabV 276 (suV P)).toList = some L := by
  have hl : (tabV 276 (suV P)).toList.length = Tryz.prog.cellsOf 33 := by rw [cells_1.2.2.2.2.2]; simp [tabV]
  have hn : (Tryz.prog.fieldsOf 33).all (fun f => f.name != "_") = true := by
    rw [Array.all_eq_true_iff_forall_mem]
    intro f hf
    have := List.all_eq_true.1 fields_su f (by simpa using hf)
    rw [Bool.and_eq_true] at this
    simpa using this.1
  have n1 : ∀ (k : Nat) (x : Int), k < 276 → suV P k = .int .u8 x → byteI x → ∃ y, Tryz.prog.keyLits (d + 2) 5 (((tabV 276 (suV P)).toList.drop k).take (Tryz.prog.cellsOf 5)) = some y := fun k x hk he hb => by
    rw [cells_1.1, tabV_one1 _ hk, he]; exact ⟨_, kl_u8 _ x hb⟩
  have n4 : ∀ (k : Nat) (x : Int), k < 276 → suV P k = .int .u32 x → u32I x → ∃ y, Tryz.prog.keyLits (d + 2) 24 (((tabV 276 (suV P)).toList.drop k).take (Tryz.prog.cellsOf 24)) = some y := fun k x hk he hb => by
    rw [cells_1.2.1, tabV_one1 _ hk, he]; exact ⟨_, kl_u32 _ x hb⟩
  obtain ⟨ys, hys⟩ := mapM_some (f := fun f => Tryz.prog.keyLits (d + 2) f.type (((tabV 276 (suV P)).toList.drop f.offset).take (Tryz.prog.cellsOf f.type))) (l := (Tryz.prog.fieldsOf 33).toList) (fun f hf => by
    have h := List.all_eq_true.1 fields_su f hf
    rw [Bool.and_eq_true] at h
    have hm := of_decide_eq_true h.2
    obtain ⟨ft, fo, hfe⟩ : ∃ ft fo, (f.type, f.offset) = (ft, fo) := ⟨_, _, rfl⟩
    have e1 : f.type = ft := congrArg Prod.fst hfe
    have e2 : f.offset = fo := congrArg Prod.snd hfe
    rw [hfe] at hm
    rw [e1, e2]
    simp only [List.mem_cons, Prod.mk.injEq, List.not_mem_nil, or_false] at hm
    rcases hm with ⟨rfl, rfl⟩ | ⟨rfl, rfl⟩ | ⟨rfl, rfl⟩ | ⟨rfl, rfl⟩ | ⟨rfl, rfl⟩ | ⟨rfl, rfl⟩ | ⟨rfl, rfl⟩ | ⟨rfl, rfl⟩ | ⟨rfl, rfl⟩ | ⟨rfl, rfl⟩ | ⟨rfl, rfl⟩ | ⟨rfl, rfl⟩ | ⟨rfl, rfl⟩ | ⟨rfl, rfl⟩
    · rw [cells_1.2.2.2.1]; exact kl_nm d P hP
    · exact n1 8 P.p (by omega) rfl hP.p
    · exact n1 9 P.n (by omega) rfl hP.n
    · exact n1 10 P.t (by omega) rfl hP.t
    · exact n1 11 P.m (by omega) rfl hP.m
    · exact n1 12 P.c (by omega) rfl hP.c
    · exact n4 13 P.bl (by omega) rfl hP.bl
    · exact n4 14 P.bo (by omega) rfl hP.bo
    · exact n4 15 P.ep (by omega) rfl hP.ep
    · rw [cells_1.2.2.2.2.1]; exact kl_in d P
    · exact n4 272 P.rf (by omega) rfl hP.rf
    · exact n4 273 P.sc (by omega) rfl hP.sc
    · exact n1 274 P.tg (by omega) rfl hP.tg
    · exact n4 275 P.rs (by omega) rfl hP.rs)
  exact ⟨ys.flatten, by unfold Program.keyLits; rw [und_su]; simp only [hl, hn, true_and, and_self, if_true, hys]; rfl⟩
theorem keyTy_su : Tryz.prog.keyTypeAt 3 33 = true := by kernel_rfl
theorem formed_su (P : SU) : (suA P).formed Tryz.prog 33 = true := by
  unfold suA Value.formed
  rw [und_su]
  simp [cells_1.2.2.2.2.2, tabV]
/-- A super is the same as itself. -/
theorem eqSu (P : SU) (hP : P.Wf) (W : World) : (Op.equalIn 10000 33 (suA P) (suA P)).run Tryz.prog W = .ok true W := by
  obtain ⟨L, hL⟩ := kl_su 0 P hP
  obtain ⟨r, hr, hi⟩ := run_equalIn_deep (P := Tryz.prog) 9997 3 33 keyTy_su W 3 3 (suA P) (suA P) L L (formed_su P) (formed_su P) hL hL
  rw [hi.2 rfl] at hr
  exact hr
theorem eqlSu (P : SU) (hP : P.Wf) (W : World) : (binOp .eql 33 (suA P) (suA P)).run Tryz.prog W = .ok (.bool true) W := by
  have h := eqSu P hP W
  unfold suA at h ⊢
  rw [run_eql_struct, h]; rfl
theorem neqSu (P : SU) (hP : P.Wf) (W : World) : (binOp .neq 33 (suA P) (suA P)).run Tryz.prog W = .ok (.bool false) W := by
  have h := eqSu P hP W
  unfold suA at h ⊢
  rw [run_neq_struct, h]; rfl
theorem guardSu (op : BinOp) (x y : Operand) (s t : Array Value) (W : World) : (eqGuard op 33 x y (.agg s) (.agg t)).run Tryz.prog W = .ok () W := by
  have h : Tryz.prog.eqGuardType Tryz.prog.depth 33 = false := by kernel_rfl
  unfold eqGuard
  cases op <;> simp [h]
end Go.Proofs.YtkfdcdfaikkneaaGreatDoor
/- The law's Of: a super, and the document's. -/
namespace Go.Proofs.YtkfdcdfaikkneaaGreatDoor
open Go.ChangeShapes Go.WideShapes Go.ChangeAt Go.RowKit Go.Shelf
set_option linter.unusedVariables false
set_option linter.unusedSimpArgs false
set_option maxRecDepth 100000
attribute [local go_sem] Oper.semAt_some

/-- A name's eight bytes; who is in. -/
def nmL (N : List Int) : List Int := N.take 8 ++ List.replicate (8 - N.length) 0
theorem nmL_len (N : List Int) : (nmL N).length = 8 := by unfold nmL; rw [List.length_append, List.length_take, List.length_replicate]; omega
theorem nmL_B {N : List Int} (h : AllB N) : AllB (nmL N) := allB_app2 (h.takeB _) (allB_zeros _)
def innL (I : List Int) : List Bool := I.foldl (fun l i => l.set i.toNat true) (List.replicate 256 false)
theorem innL_snoc (I : List Int) (x : Int) : innL (I ++ [x]) = (innL I).set x.toNat true := by simp [innL]
theorem innL_len (I : List Int) : (innL I).length = 256 := by
  unfold innL
  have : ∀ (J : List Int) (l : List Bool), (J.foldl (fun l i => l.set i.toNat true) l).length = l.length := by
    intro J
    induction J with
    | nil => intro l; rfl
    | cons x J ih => intro l; rw [List.foldl_cons, ih, List.length_set]
  rw [this, List.length_replicate]
/-- A super of plain numbers, with a name and who is in. -/
def SU.mk2 (P : SU) (N I : List Int) : SU := { P with nm := nmL N, inn := innL I }
theorem SU.mk2_wf {P : SU} (h : P.Wf) {N I : List Int} (hN : AllB N) : (P.mk2 N I).Wf := by
  obtain ⟨h1, h2, h3, h4, h5, h6, h7, h8, h9, h10, h11, h12, h13, h14⟩ := h
  exact ⟨⟨nmL_len N, nmL_B hN⟩, h2, h3, h4, h5, h6, h7, h8, h9, innL_len I, h11, h12, h13, h14⟩
theorem suV_nm2 (P : SU) (l : List Int) {i : Nat} (hi : i < 276) : (if i < 8 then Value.int .u8 (l.getD i 0) else suV P i) = suV { P with nm := l } i := by
  unfold suV
  by_cases h : i < 8
  · rw [if_pos h, if_pos h]
  · rw [if_neg h, if_neg h, if_neg h]
theorem copy_nm {W : World} {q : Nat} {P : SU} {N : List Int} (hz : P.nm = List.replicate 8 0) (h : W.heap[q]? = some (.cells (splice (tabV 276 (suV P)).toList 0 ((N.take 8).map (Value.int .u8))).toArray 33 (0, 0))) : SuB W q { P with nm := nmL N } := by
  have hm : (N.take 8).length ≤ 8 := by rw [List.length_take]; omega
  unfold SuB Blk
  rw [h]
  unfold splice
  rw [splice_tabV (by rw [List.length_map]; omega)]
  congr 2
  refine tabV_congr fun i hi => ?_
  rw [← suV_nm2 P (nmL N) hi, List.length_map, Nat.zero_add, Nat.sub_zero]
  by_cases h8 : i < 8
  · rw [if_pos h8]
    by_cases h1 : i < (N.take 8).length
    · rw [if_pos ⟨Nat.zero_le _, h1⟩]
      unfold nmL
      rw [List.getD_eq_getElem?_getD, List.getElem?_map, List.getElem?_eq_getElem h1, List.getD_eq_getElem?_getD, List.getElem?_append_left h1, List.getElem?_eq_getElem h1]
      rfl
    · rw [if_neg (fun k => h1 k.2), suV_nm P h8, hz]
      unfold nmL
      have e1 : (List.replicate 8 (0 : Int)).getD i 0 = 0 := by
        rw [List.getD_eq_getElem?_getD, List.getElem?_replicate]
        split <;> rfl
      have e2 : (N.take 8 ++ List.replicate (8 - N.length) (0 : Int)).getD i 0 = 0 := by
        rw [List.getD_eq_getElem?_getD, List.getElem?_append_right (by omega), List.getElem?_replicate]
        split <;> rfl
      rw [e1, e2]
  · rw [if_neg h8, if_neg (fun k => h8 (by omega))]
theorem suV_in1 (P : SU) (x : Nat) (hl : P.inn.length = 256) (hx : x < 256) {i : Nat} (hi : i < 276) : (if i = 16 + x then Value.bool true else suV P i) = suV { P with inn := P.inn.set x true } i := by
  rw [← suV_inn P (P.inn.set x true) (by rw [List.length_set]; exact hl) hi]
  have hsl : ((P.inn.set x true).map Value.bool).length = 256 := by rw [List.length_map, List.length_set]; exact hl
  rw [hsl]
  by_cases h : 16 ≤ i ∧ i < 16 + 256
  · rw [if_pos h, List.getD_eq_getElem?_getD, List.getElem?_map]
    by_cases e : i = 16 + x
    · rw [if_pos e]
      subst e
      rw [show 16 + x - 16 = x by omega, List.getElem?_set_self (by omega)]
      rfl
    · rw [if_neg e, List.getElem?_set_ne (by omega)]
      have := suV_in P (j := i - 16) (by omega)
      rw [show 16 + (i - 16) = i by omega] at this
      rw [this, List.getD_eq_getElem?_getD, List.getElem?_eq_getElem (by omega)]
      rfl
  · rw [if_neg h, if_neg (by omega)]
theorem built_P (p n t m c bl bo ep rf sc tg rs : Int) : Tryz.prog.built 33 [(1, .int .u8 p), (2, .int .u8 n), (3, .int .u8 t), (4, .int .u8 m), (5, .int .u8 c), (6, .int .u32 bl), (7, .int .u32 bo), (8, .int .u32 ep), (10, .int .u32 rf), (11, .int .u32 sc), (12, .int .u8 tg), (13, .int .u32 rs)] = some (tabV 276 (suV ⟨List.replicate 8 0, p, n, t, m, c, bl, bo, ep, List.replicate 256 false, rf, sc, tg, rs⟩)) := by kernel_rfl
theorem built_P2 (P : SU) (hz : P.nm = List.replicate 8 0 ∧ P.inn = List.replicate 256 false) : Tryz.prog.built 33 [(1, .int .u8 P.p), (2, .int .u8 P.n), (3, .int .u8 P.t), (4, .int .u8 P.m), (5, .int .u8 P.c), (6, .int .u32 P.bl), (7, .int .u32 P.bo), (8, .int .u32 P.ep), (10, .int .u32 P.rf), (11, .int .u32 P.sc), (12, .int .u8 P.tg), (13, .int .u32 P.rs)] = some (tabV 276 (suV P)) := by
  rw [built_P]
  cases P
  obtain ⟨h1, h2⟩ := hz
  simp only at h1 h2
  rw [h1, h2]
theorem results_of (tmps : Array Value) (w : World) (g h : Nat) (cs ds : Array Value) (h2 : tmps.getD 2 undef = .pointer (some ⟨g, 0, none⟩)) (h3 : tmps.getD 3 undef = .pointer (some ⟨h, 0, none⟩)) (hg : w.heap[g]? = some (.cells cs 33 (0, 0))) (hh : w.heap[h]? = some (.cells ds 59 (0, 0)))
    (hs : (Tryz.prog.info? 33).map (·.size) = some cs.size) (hd : ds.size = 14) :
    (results Tryz.f15 tmps).run Tryz.prog w = .ok (.tuple #[.agg cs, .agg ds]) w := by
  have h2' : tmps[2]?.getD undef = .pointer (some ⟨g, 0, none⟩) := by simpa using h2
  have h3' : tmps[3]?.getD undef = .pointer (some ⟨h, 0, none⟩) := by simpa using h3
  have hr := run_loadVar_row (P := Tryz.prog) w g 33 33 cs (0, 0) _ hg Tryz.underlying33 rfl hs
  have hr2 := run_loadVar_row (P := Tryz.prog) w h 59 59 ds (0, 0) _ hh Tryz.underlying59 rfl (by rw [hd]; exact sizeRu)
  simp [results, Tryz.f15, h2', h3', asAddr, hr, hr2]

set_option maxHeartbeats 16000000 in
theorem of_new (P : SU) (hz : P.nm = List.replicate 8 0 ∧ P.inn = List.replicate 256 false) (hP : P.Wf) (aN aI : Option Addr) (lN cN lI cI : Nat) (N I : List Int) (w : World) (hN : Arg8c w aN lN cN N) (hI : Arg8c w aI lI cI I) (hlI : lI ≤ 20) :
    Calls Tryz.prog 15 #[.agg #[.slice aN lN cN, .int .u8 P.p, .int .u8 P.n, .int .u8 P.t, .int .u8 P.m, .int .u8 P.c, .int .u32 P.bl, .int .u32 P.bo, .int .u32 P.ep, .slice aI lI cI, .int .u32 P.rf, .int .u32 P.sc, .int .u8 P.tg, .int .u32 P.rs]] w fun e w' => ∃ (cY : Array Value) (a : Option Addr) (c : Nat), e = .returned (.tuple #[suA (P.mk2 N I), .agg cY]) ∧ (cY.size = 14 ∧ cY.all (·.oneCell') = true) ∧ .agg cY = ruA (P.mk2 N I) (.slice a (P.mk2 N I).L.length c) ∧ (IA w' a (P.mk2 N I).L.length c (P.mk2 N I).L ∧ ∀ b o, a = some ⟨b, o, none⟩ → w.heap.size ≤ b) ∧ Below w.heap.size w w' := by
  obtain ⟨P2, hP2⟩ : ∃ Q, Q = P.mk2 N I := ⟨_, rfl⟩
  rw [← hP2]
  have HP2 := Lib.hid hP2
  clear hP2
  have hBP := built_P2 P hz
  obtain ⟨hz0, hi0⟩ := zero_of_info infoSu
  clear hi0
  obtain ⟨c0, hc0⟩ : ∃ s, s = tabV 276 (suV suZ) := ⟨_, rfl⟩
  obtain ⟨cP, hcP⟩ : ∃ s, s = tabV 276 (suV P) := ⟨_, rfl⟩
  rw [← hc0] at hz0
  rw [← hcP] at hBP
  have HBP := Lib.hid hBP
  have HCP := Lib.hid hcP
  obtain ⟨A, hA⟩ : ∃ A, A = ((w.alloc (.cells #[.slice aN lN cN, .int .u8 P.p, .int .u8 P.n, .int .u8 P.t, .int .u8 P.m, .int .u8 P.c, .int .u32 P.bl, .int .u32 P.bo, .int .u32 P.ep, .slice aI lI cI, .int .u32 P.rf, .int .u32 P.sc, .int .u8 P.tg, .int .u32 P.rs] 26)).alloc (.cells c0 33)).alloc (.cells #[.string { data := #[] }, .int .i64 0, .int .i64 0, .int .i64 0, .int .i64 0, .int .i64 0, .int .u64 0, .int .u64 0, .int .u64 0, .slice none 0 0, .int .u64 0, .int .u64 0, .int .i64 0, .int .u64 0] 59) := ⟨_, rfl⟩
  have hwA : Below w.heap.size w A := by rw [hA]; exact (((Below.refl _ _).alloc (Nat.le_refl _) _).alloc (by simp) _).alloc (by simp; omega) _
  have hAs : A.heap.size = w.heap.size + 3 := by rw [hA]; simp
  have r0 : A.heap[w.heap.size]? = some (.cells #[.slice aN lN cN, .int .u8 P.p, .int .u8 P.n, .int .u8 P.t, .int .u8 P.m, .int .u8 P.c, .int .u32 P.bl, .int .u32 P.bo, .int .u32 P.ep, .slice aI lI cI, .int .u32 P.rf, .int .u32 P.sc, .int .u8 P.tg, .int .u32 P.rs] 26 (0, 0)) := by
    rw [hA, heap_alloc_old _ _ (by simp; omega), heap_alloc_old _ _ (by simp)]; exact heap_alloc_new w _
  have r1 : A.heap[w.heap.size + 1]? = some (.cells c0 33 (0, 0)) := by
    have := heap_alloc_new (w.alloc (.cells #[.slice aN lN cN, .int .u8 P.p, .int .u8 P.n, .int .u8 P.t, .int .u8 P.m, .int .u8 P.c, .int .u32 P.bl, .int .u32 P.bo, .int .u32 P.ep, .slice aI lI cI, .int .u32 P.rf, .int .u32 P.sc, .int .u8 P.tg, .int .u32 P.rs] 26)) (.cells c0 33)
    rw [size_alloc1] at this
    rw [hA, heap_alloc_old _ _ (by simp)]; exact this
  have r2 : A.heap[w.heap.size + 2]? = some (.cells #[.string { data := #[] }, .int .i64 0, .int .i64 0, .int .i64 0, .int .i64 0, .int .i64 0, .int .u64 0, .int .u64 0, .int .u64 0, .slice none 0 0, .int .u64 0, .int .u64 0, .int .i64 0, .int .u64 0] 59 (0, 0)) := by
    have := heap_alloc_new ((w.alloc (.cells #[.slice aN lN cN, .int .u8 P.p, .int .u8 P.n, .int .u8 P.t, .int .u8 P.m, .int .u8 P.c, .int .u32 P.bl, .int .u32 P.bo, .int .u32 P.ep, .slice aI lI cI, .int .u32 P.rf, .int .u32 P.sc, .int .u8 P.tg, .int .u32 P.rs] 26)).alloc (.cells c0 33)) (.cells #[.string { data := #[] }, .int .i64 0, .int .i64 0, .int .i64 0, .int .i64 0, .int .i64 0, .int .u64 0, .int .u64 0, .int .u64 0, .slice none 0 0, .int .u64 0, .int .u64 0, .int .i64 0, .int .u64 0] 59)
    rw [size_alloc1, size_alloc1] at this
    rw [hA]; exact this
  obtain ⟨x0, x1, x2, x3, x4, x5, x6, x7, x8, x9, xa, xb, xc, xd⟩ := cell14 r0
  rw [hA] at x0 x1 x2 x3 x4 x5 x6 x7 x8 x9 xa xb xc xd
  have HA := Lib.hid (And.intro hA (And.intro hwA (And.intro hAs (And.intro r0 (And.intro r1 r2)))))
  have HSZ := Lib.hid (show (Tryz.prog.info? 33).map (·.size) = some cP.size ∧ cP.size = 276 ∧ c0.size = 276 by rw [hcP, hc0, size_tabV, size_tabV]; exact ⟨sizeSu, rfl, rfl⟩)
  have HON := Lib.hid (show cP.all (·.oneCell') = true by rw [hcP]; exact tabV_one (suV_one P))
  have HNN := Lib.hid hN
  have HII := Lib.hid hI
  have HZZ := Lib.hid hz
  have HPW := Lib.hid hP
  clear hz hP hN hI hBP hc0 hcP r0 r1 r2 hA hwA hAs
  go_enter Tryz.func15, Tryz.ntmps15
  go_upto_region 2 with (first
    | ((with_reducible show wpList _ _ _ (⟨some 31, _, _, _, _, _⟩ :: _) _ _); go_loud (refine wpList_buildTo rfl 33 _ rfl (some 31) rfl cP (by rw [Array.toList_map]; exact HBP.out) ?_))
    | ((with_reducible show wpList _ _ _ (⟨none, Op.store 33 _ _, _, _, _, _⟩ :: _) _ _); go_loud (rw [← HA.out.1]; refine wpList_store_row rfl 33 (.tmp 4) (.tmp 31) rfl (w.heap.size + 3) cP rfl rfl 33 c0 (by rw [← HA.out.2.2.1]; exact heap_alloc_new A _) HSZ.out.1 (by rw [HSZ.out.2.1, HSZ.out.2.2]) HON.out ?_)))
  have HV1 := Lib.hid (show Below w.heap.size w ((A.alloc (.cells c0 33)).setRow (w.heap.size + 3) cP) from below_setRow (HA.out.2.1.alloc HA.out.2.1.size _) (by omega) _)
  have HQ1 := Lib.hid (show SuB ((A.alloc (.cells c0 33)).setRow (w.heap.size + 3) cP) (w.heap.size + 3) P by unfold SuB Blk; rw [← HCP.out]; exact setRow_heap _ _ _ _ _ _ (by rw [← HA.out.2.2.1]; exact heap_alloc_new A (.cells c0 33)))
  have HOLD := Lib.hid (show ∀ k, k < w.heap.size + 3 → ((A.alloc (.cells c0 33)).setRow (w.heap.size + 3) cP).heap[k]? = A.heap[k]? from fun k hk => by rw [setRow_other _ _ _ _ (by omega), heap_alloc_old _ _ (by rw [HA.out.2.2.1]; omega)])
  clear x0 x1 x2 x3 x4 x5 x6 x7 x8 x9 xa xb xc xd
  generalize (A.alloc (.cells c0 33)).setRow (w.heap.size + 3) cP = V1 at HV1 HQ1 HOLD ⊢
  obtain ⟨y0, -⟩ := cell14 ((HOLD.out w.heap.size (by omega)).trans HA.out.2.2.2.1)
  have hsl8 := fun W => slice8 W (w.heap.size + 3) 0
  go_still_tail 4, (by kernel_rfl)
  change wpList _ _ _ _ _ V1.drew
  have HD1 := Lib.hid (show Below V1.heap.size V1 V1.drew from (Below.refl _ _).drew)
  have HD2 := Lib.hid (show V1.drew.heap = V1.heap from rfl)
  clear y0 hsl8
  generalize V1.drew = V2 at HD1 HD2 ⊢
  have HV2 := Lib.hid (show Below w.heap.size w V2 from HV1.out.trans (HD1.out.mono HV1.out.size))
  have K1 := Lib.hid (show V2.heap[w.heap.size + 3]? = some (.cells (tabV 276 (suV P)).toList.toArray 33 (0, 0)) by rw [HD2.out, Array.toArray_toList]; exact HQ1.out)
  have K2 := Lib.hid (show ((N.take 8).map (Value.int .u8)).length = Nat.min lN 8 by rw [List.length_map, List.length_take, HNN.out.1.1]; exact Nat.min_comm _ _)
  have K3 := Lib.hid (show 0 < ((N.take 8).map (Value.int .u8)).length → ∃ ad, aN = some ad ∧ ∀ j v, ((N.take 8).map (Value.int .u8))[j]? = some v → V2.cell? (ad.add j) = some v from fun h0 => ((HNN.out.1.2.2.1.take 8).below HV2.out).cells h0)
  have K4 := Lib.hid (show 0 + ((N.take 8).map (Value.int .u8)).length ≤ (tabV 276 (suV P)).toList.length by have e : (tabV 276 (suV P)).toList.length = 276 := (by rw [Array.length_toList, size_tabV]); rw [List.length_map, List.length_take, e]; omega)
  go_upto_region 3 with ((with_reducible show wpList _ _ _ (⟨some 36, _, _, _, _, _⟩ :: _) _ _); go_loud (refine wpList_copy_splice (o := ⟨some 36, _, _, _, _, _⟩) rfl (.tmp 33) (.tmp 35) 23 23 rfl 5 Tryz.underlying23 size_u8 (some ⟨w.heap.size + 3, 0, none⟩) aN 8 8 lN cN rfl rfl (w.heap.size + 3) 0 (tabV 276 (suV P)).toList 33 K1.out ((N.take 8).map (Value.int .u8)) K2.out (fun h0 => ⟨rfl, K3.out h0⟩) K4.out (ints_oneCell _ _) (w.heap.size + 3) V2 (Below.refl _ _) (Nat.le_refl _) ?_; intro V3 hg hb; have HQ3 := Lib.hid (copy_nm HZZ.out.1 hg.out); have HB3 := Lib.hid hb; clear hg hb))
  have HO3 := Lib.hid (show ∀ k, k < w.heap.size + 3 → V3.heap[k]? = A.heap[k]? from fun k hk => by rw [HB3.out.block k hk, HD2.out]; exact HOLD.out k hk)
  obtain ⟨-, -, -, -, -, -, -, -, -, y9, -⟩ := cell14 ((HO3.out w.heap.size (by omega)).trans HA.out.2.2.2.1)
  have HV3 := Lib.hid (show Below w.heap.size w V3 from HV2.out.trans (HB3.out.mono (by omega)))
  go_wp2_with fail
  clear y9
  go_loopw [40] (fun iv wr => ∃ j : Nat, j ≤ lI ∧ iv = .int .i64 (j : Nat) ∧ Hid (SuB wr (w.heap.size + 3) (P.mk2 N (I.take j))) ∧ Hid (Below (w.heap.size + 3) V3 wr)) (fun iv _ => lI - (intOf iv).toNat)
  case atStart =>
    refine ⟨0, Nat.zero_le _, rfl, Lib.hid ?_, Lib.hid (Below.refl _ _)⟩
    have e : P.mk2 N (I.take 0) = { P with nm := nmL N } := by unfold SU.mk2; rw [List.take_zero, show innL [] = P.inn from HZZ.out.2.symm]
    rw [e]; exact HQ3.out
  case round =>
    obtain ⟨j, hj, rfl, hq, hb⟩ := hrel
    rename World => wr
    by_cases hlt : j < lI
    · have hjl : j < I.length := by rw [HII.out.1.1]; exact hlt
      obtain ⟨bI, oI, rfl, hBI, hcX⟩ := (HII.out.1.2.2.1.below (HV3.out.trans (hb.out.mono (by omega)))).at_ (k := j) hjl
      have hXb := allB_getD HII.out.1.2.1 j
      obtain ⟨x, hx⟩ := Int.eq_ofNat_of_zero_le hXb.1
      rw [hx] at hcX hXb
      have hx2 : x < 256 := by omega
      have HTK := Lib.hid (show I.take (j + 1) = I.take j ++ [(x : Int)] by rw [take_snoc_getD hjl, hx])
      have hci := hq.out.inn hx2
      have hfr := Blk.free hq.out (16 + x)
      obtain ⟨v, hv⟩ : ∃ v, v = (P.mk2 N (I.take j)).inn.getD x false := ⟨_, rfl⟩
      rw [← hv] at hci
      have qj : (j : Int) < (lI : Int) := by omega
      have qx : (x : Int) < 256 := by omega
      have HX2 := Lib.hid hx2
      have HLT := Lib.hid hlt
      clear hv hx hjl hx2 hlt hXb hBI
      go_wp2
      go_roundw
      case rel =>
        refine ⟨j + 1, HLT.out, by go_num, Lib.hid ?_, Lib.hid (hb.out.setCell (p := ⟨w.heap.size + 3, 16 + x, none⟩) (Nat.le_refl _) _)⟩
        have h1 := (Blk.set hq.out (i := 16 + x) (by have := HX2.out; omega) (.bool true)).congr (fun i hi => suV_in1 (P.mk2 N (I.take j)) x (innL_len _) HX2.out hi)
        have e : ({ P.mk2 N (I.take j) with inn := (P.mk2 N (I.take j)).inn.set x true } : SU) = P.mk2 N (I.take (j + 1)) := by
          unfold SU.mk2; rw [HTK.out, innL_snoc, Int.toNat_natCast]
        rw [e] at h1
        exact h1
      case measure => simp [intOf]; have := HLT.out; omega
    · obtain rfl : j = lI := by omega
      have htk : I.take j = I := List.take_of_length_le (by rw [HII.out.1.1]; exact Nat.le_refl _)
      rw [htk] at hq
      rw [← HP2.out] at hq
      have hW2 : P2.Wf := by rw [HP2.out]; exact SU.mk2_wf HPW.out HNN.out.1.2.1
      obtain ⟨s1, hs1⟩ : ∃ s, s = tabV 276 (suV P2) := ⟨_, rfl⟩
      have hRe := fun W => ref_any P2 hW2 W
      unfold suA at hRe
      rw [← hs1] at hRe
      have HRE := Lib.hid (show ∀ W, Calls Tryz.prog 34 #[.agg s1] W fun e w' => (∃ (cY : Array Value) (aY : Option Addr) (kY : Nat), e = .returned (.agg cY) ∧ (cY.size = 14 ∧ cY.all (·.oneCell') = true) ∧ .agg cY = ruA P2 (.slice aY P2.L.length kY) ∧ IA w' aY P2.L.length kY P2.L ∧ (∀ b o, aY = some ⟨b, o, none⟩ → W.heap.size ≤ b)) ∧ Below W.heap.size W w' from fun W => (hRe W).mono fun e w' h => by
        obtain ⟨aa, cc, rfl, hia, hb, hf⟩ := h
        exact ⟨⟨_, aa, cc, rfl, ⟨rfl, by simp [Value.oneCell']⟩, rfl, hia, hf⟩, hb⟩)
      have HQW := Lib.hid (show wr.heap[w.heap.size + 3]? = some (.cells s1 33 (0, 0)) by rw [hs1]; exact hq.out)
      have HS1 := Lib.hid (show (Tryz.prog.info? 33).map (·.size) = some s1.size ∧ s1.size = 276 by rw [hs1, size_tabV]; exact ⟨sizeSu, rfl⟩)
      have HO1 := Lib.hid (show s1.all (·.oneCell') = true by rw [hs1]; exact tabV_one (suV_one P2))
      have HSUA := Lib.hid (show suA P2 = .agg s1 by rw [hs1]; rfl)
      have HC2 := Lib.hid (show wr.heap[w.heap.size + 1]? = some (.cells c0 33 (0, 0)) from by rw [hb.out.block _ (by omega)]; exact (HO3.out _ (by omega)).trans HA.out.2.2.2.2.1)
      have HC3 := Lib.hid (show wr.heap[w.heap.size + 2]? = some (.cells #[.string { data := #[] }, .int .i64 0, .int .i64 0, .int .i64 0, .int .i64 0, .int .i64 0, .int .u64 0, .int .u64 0, .int .u64 0, .slice none 0 0, .int .u64 0, .int .u64 0, .int .i64 0, .int .u64 0] 59 (0, 0)) from by rw [hb.out.block _ (by omega)]; exact (HO3.out _ (by omega)).trans HA.out.2.2.2.2.2)
      have HBW := Lib.hid (show Below w.heap.size w wr from HV3.out.trans (hb.out.mono (by omega)))
      have HLW := Lib.hid (show w.heap.size + 3 < wr.heap.size from hq.out.lt)
      clear hW2 hs1 hRe hq hb htk hlt
      go_upto_region 8 with fail
      refine wp_region_held_drew (S := fun W => W.heap[w.heap.size + 3]? = some (.cells s1 33 (0, 0))) (by kernel_rfl) (show wr.heap[w.heap.size + 3]? = _ from HQW.out) (fun hHeld => ?_)
      generalize hvd : wr.drew = v0 at hHeld ⊢
      have HBD0 := Lib.hid (show Below wr.heap.size wr v0 by rw [← hvd]; exact (Below.refl _ _).drew)
      clear hvd
      refine wpAnyH_take (i := 0) (oi := { dst := some 48, op := Go.Op.load 33 (Go.Operand.tmp 4), type := 33, pos := "law.go:110", after := #[], guard := none }) (v := .agg s1) rfl (by kernel_rfl) (by kernel_rfl) (by kernel_rfl) (fun _ _ _ h => h) (yieldsIf_load_row (by rfl) 33 (.tmp 4) rfl (w.heap.size + 3) (by rfl) 33 s1 (0, 0) _ (fun W h => h) Tryz.underlying33 rfl HS1.out.1) hHeld ?rest0o1
      case' rest0o1 => try simp only [Act.put, List.setIfInBounds_toArray, List.set_cons_zero, List.set_cons_succ]
      refine wpAnyH_take (i := 1) (oi := { dst := some 49, op := Go.Op.load 33 (Go.Operand.tmp 4), type := 33, pos := "law.go:110", after := #[], guard := none }) (v := .agg s1) rfl (by kernel_rfl) (by kernel_rfl) (by kernel_rfl) (fun _ _ _ h => h) (yieldsIf_load_row (by rfl) 33 (.tmp 4) rfl (w.heap.size + 3) (by rfl) 33 s1 (0, 0) _ (fun W h => h) Tryz.underlying33 rfl HS1.out.1) hHeld ?rest1o2
      case' rest1o2 => try simp only [Act.put, List.setIfInBounds_toArray, List.set_cons_zero, List.set_cons_succ]
      refine wpAnyH_ready (rs := [2]) (by kernel_rfl) (by simp) ?_
      refine AllReadyH.cons (o := { dst := some 50, op := Go.Op.call { callee := Go.Callee.value (Go.Operand.func 34), args := #[Go.Operand.tmp 49], argTypes := #[33] }, type := 59, pos := "law.go:110", after := #[{ on := 1, ground := Go.Ground.data }], guard := none }) rfl (fun K' hK => ?_) AllReadyH.nil
      rw [if_pos (by rfl)]
      go_simp
      go_wp2_with (go_at_call 34; go_loud ((with_reducible refine (HRE.out v0).mono ?_); rintro e v1 ⟨⟨cY, aY, kY, rfl, h14, hY⟩, hb⟩; have HYY := Lib.hid hY; have HY14 := Lib.hid h14; clear hY h14))
      have HBD1 := Lib.hid (bt HBD0.out hb)
      refine hK.out _ _ ((hb.block _ (Array.getElem?_eq_some_iff.1 hHeld).1).trans hHeld) (fun hHeld1 => ?_)
      clear hK K' hHeld hb
      have hHeld := hHeld1
      clear hHeld1
      try simp only [Act.put, List.setIfInBounds_toArray, List.set_cons_zero, List.set_cons_succ]
      refine wpAnyH_ready (rs := [3]) (by kernel_rfl) (by simp) ?_
      refine AllReadyH.cons (o := { dst := none, op := Go.Op.store 33 (Go.Operand.tmp 2) (Go.Operand.tmp 48), type := 0, pos := "law.go:110", after := #[{ on := 0, ground := Go.Ground.data }, { on := 2, ground := Go.Ground.chain }, { on := 0, ground := Go.Ground.phase }, { on := 1, ground := Go.Ground.textOnly Go.Departure.lateStores }, { on := 2, ground := Go.Ground.textOnly Go.Departure.lateStoresUnsure }], guard := none }) rfl (fun K' hK => ?_) AllReadyH.nil
      rw [if_pos (by rfl)]
      refine wp_store_row 33 (.tmp 2) (.tmp 48) rfl (w.heap.size + 1) s1 rfl rfl 33 c0 ((HBD1.out.block _ (by have := HLW.out; omega)).trans HC2.out) HS1.out.1 (by rw [HS1.out.2, HSZ.out.2.2]) HO1.out ?_
      refine hK.out _ _ ((setRow_other _ _ _ _ (by omega)).trans hHeld) (fun hHeld1 => ?_)
      clear hK K' hHeld
      have hHeld := hHeld1
      clear hHeld1
      try simp only [Act.put, List.setIfInBounds_toArray, List.set_cons_zero, List.set_cons_succ]
      refine wpAnyH_ready (rs := [4]) (by kernel_rfl) (by simp) ?_
      refine AllReadyH.cons (o := { dst := none, op := Go.Op.store 59 (Go.Operand.tmp 3) (Go.Operand.tmp 50), type := 0, pos := "law.go:110", after := #[{ on := 2, ground := Go.Ground.data }, { on := 3, ground := Go.Ground.chain }, { on := 0, ground := Go.Ground.phase }, { on := 1, ground := Go.Ground.phase }, { on := 2, ground := Go.Ground.phase }, { on := 3, ground := Go.Ground.phase }], guard := none }) rfl (fun K' hK => ?_) AllReadyH.nil
      rw [if_pos (by rfl)]
      refine wp_store_row 59 (.tmp 3) (.tmp 50) rfl (w.heap.size + 2) cY rfl rfl 59 #[.string { data := #[] }, .int .i64 0, .int .i64 0, .int .i64 0, .int .i64 0, .int .i64 0, .int .u64 0, .int .u64 0, .int .u64 0, .slice none 0 0, .int .u64 0, .int .u64 0, .int .i64 0, .int .u64 0] (((setRow_other _ _ _ _ (by omega)).trans (HBD1.out.block _ (by have := HLW.out; omega))).trans HC3.out) (by rw [HY14.out.1]; exact sizeRu) HY14.out.1.symm HY14.out.2 ?_
      refine hK.out _ _ ((setRow_other _ _ _ _ (by omega)).trans hHeld) (fun hHeld1 => ?_)
      clear hK K' hHeld
      have hHeld := hHeld1
      clear hHeld1
      try simp only [Act.put, List.setIfInBounds_toArray, List.set_cons_zero, List.set_cons_succ]
      refine wpAnyH_done (by kernel_rfl) ?_ _
      clear hHeld
      go_wp2
      have h1 := HLW.out
      refine bodyPost_ret (v := .tuple #[.agg s1, .agg cY]) (results_of _ _ (w.heap.size + 1) (w.heap.size + 2) s1 cY rfl rfl ?_ ?_ HS1.out.1 HY14.out.1) rfl ⟨cY, aY, kY, by rw [HSUA.out], HY14.out, HYY.out.1, ?_, ?_⟩
      · rw [setRow_other _ _ _ _ (by omega)]
        exact setRow_heap _ _ _ _ _ _ ((HBD1.out.block _ (by omega)).trans HC2.out)
      · exact setRow_heap _ _ _ _ _ _ (((setRow_other _ _ _ _ (by omega)).trans (HBD1.out.block _ (by omega))).trans HC3.out)
      · refine ⟨HYY.out.2.1.onB fun hp b o e => ?_, fun b o e => ?_⟩
        · have h3 := HYY.out.2.2 b o e
          have h4 := HBD0.out.size
          rw [setRow_other _ _ _ _ (by omega), setRow_other _ _ _ _ (by omega)]
        · have h3 := HYY.out.2.2 b o e
          have h4 := HBD0.out.size
          omega
      · exact below_setRow (below_setRow (bt HBW.out HBD1.out) (by omega) _) (by omega) _
theorem of_any (P : SU) (hz : P.nm = List.replicate 8 0 ∧ P.inn = List.replicate 256 false) (hP : P.Wf) (aN aI : Option Addr) (lN cN lI cI : Nat) (N I : List Int) (w : World) (hN : Arg8c w aN lN cN N) (hI : Arg8c w aI lI cI I) (hlI : lI ≤ 20) :
    Calls Tryz.prog 15 #[.agg #[.slice aN lN cN, .int .u8 P.p, .int .u8 P.n, .int .u8 P.t, .int .u8 P.m, .int .u8 P.c, .int .u32 P.bl, .int .u32 P.bo, .int .u32 P.ep, .slice aI lI cI, .int .u32 P.rf, .int .u32 P.sc, .int .u8 P.tg, .int .u32 P.rs]] w fun e w' => ∃ (cY : Array Value) (a : Option Addr) (c : Nat), e = .returned (.tuple #[suA (P.mk2 N I), .agg cY]) ∧ (cY.size = 14 ∧ cY.all (·.oneCell') = true) ∧ .agg cY = ruA (P.mk2 N I) (.slice a (P.mk2 N I).L.length c) ∧ IA w' a (P.mk2 N I).L.length c (P.mk2 N I).L ∧ Below w.heap.size w w' :=
  (of_new P hz hP aN aI lN cN lI cI N I w hN hI hlI).mono fun e w' h => by
    obtain ⟨cY, a, c, h1, h2, h3, h4, h5⟩ := h
    exact ⟨cY, a, c, h1, h2, h3, h4.1, h5⟩
end Go.Proofs.YtkfdcdfaikkneaaGreatDoor
