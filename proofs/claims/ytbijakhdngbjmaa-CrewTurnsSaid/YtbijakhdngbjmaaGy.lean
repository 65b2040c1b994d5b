/- The law's of. -/
import Derived.Test.YtbijakhdngbjmaaGx
namespace Go.Proofs.Ytbijakhdngbjmaa
open Go.ChangeShapes Go.WideShapes Go.ChangeAt Go.RowKit Go.Shelf Go.Maps
set_option linter.unusedVariables false
set_option linter.unusedSimpArgs false
set_option maxRecDepth 100000
attribute [local go_sem] Oper.semAt_some

theorem sizePs : (Try.prog.info? 27).map (·.size) = some 14 := by kernel_rfl
theorem infoRu3 : (Try.prog.info? 55).map (fun i => (i.zero, i.size, decide (i.bytes ≤ 1000))) = some (some (.agg #[.string { data := #[] }, .int .i64 0, .int .i64 0, .int .i64 0, .int .i64 0, .int .i64 0, .int .u64 0, .int .u64 0, .int .u64 0, .slice none 0 0, .int .u64 0, .int .u64 0, .int .i64 0, .int .u64 0]), 14, true) := by kernel_rfl
theorem infoPs : (Try.prog.info? 27).map (fun i => (i.zero, i.size)) = some (some (.agg #[.slice none 0 0, .int .u8 0, .int .u8 0, .int .u8 0, .int .u8 0, .int .u8 0, .int .u32 0, .int .u32 0, .int .u32 0, .slice none 0 0, .int .u32 0, .int .u32 0, .int .u8 0, .int .u32 0]), 14) := by kernel_rfl
theorem infoRu : (Try.prog.info? 55).map (fun i => (i.zero, i.size)) = some (some (.agg #[.string { data := #[] }, .int .i64 0, .int .i64 0, .int .i64 0, .int .i64 0, .int .i64 0, .int .u64 0, .int .u64 0, .int .u64 0, .slice none 0 0, .int .u64 0, .int .u64 0, .int .i64 0, .int .u64 0]), 14) := by kernel_rfl
theorem results_of16 (tmps : Array Value) (w : World) (u v : Value) (h4 : tmps.getD 4 undef = u) (h5 : tmps.getD 5 undef = v) :
    (results Try.f6 tmps).run Try.prog w = .ok (.tuple #[u, v]) w := by
  have h4' : tmps[4]?.getD undef = u := by simpa using h4
  have h5' : tmps[5]?.getD undef = v := by simpa using h5
  simp [results, Try.f6, h4', h5']
/-- A row of one of the document's supers, made; appended. -/
theorem wp_build_ru {o : Oper} {a : Act} {w : World} {K : Act → World → Prop} {Q : Exit → Act → World → Prop} (x : Operand) (ho : o.op = .buildSlice 29 1 #[(0, x)]) (cY : Array Value) (hx : a.eval x = .agg cY) (hc : cY.size = 14)
    (h : K (a.put o.dst (.slice (some ⟨w.heap.size, 0, none⟩) 1 1)) (w.alloc (.cells cY 55))) : o.wp Try.prog a w K Q := by
  obtain ⟨iS, hiS, hzS⟩ := Option.map_eq_some_iff.1 infoRu
  simp only [Prod.mk.injEq] at hzS
  refine wp_buildSlice 29 55 1 #[(0, x)] ho cY iS (.agg #[.string { data := #[] }, .int .i64 0, .int .i64 0, .int .i64 0, .int .i64 0, .int .i64 0, .int .u64 0, .int .u64 0, .int .u64 0, .slice none 0 0, .int .u64 0, .int .u64 0, .int .i64 0, .int .u64 0]) Try.underlying29 hiS hzS.1 (by rw [hzS.2]; omega) (by rw [hzS.2]; omega) ?_ h
  rw [Array.toList_map, hzS.2]
  show Instr.fill _ _ [(0, a.eval x)] = _
  rw [hx]
  have h1 := Go.Great.fill_whole (s := 14) (by omega) [.agg cY] ((Array.range (1 * 14)).map ((Value.agg #[.string { data := #[] }, .int .i64 0, .int .i64 0, .int .i64 0, .int .i64 0, .int .i64 0, .int .u64 0, .int .u64 0, .int .u64 0, .slice none 0 0, .int .u64 0, .int .u64 0, .int .i64 0, .int .u64 0]).cells[· % (Value.agg #[.string { data := #[] }, .int .i64 0, .int .i64 0, .int .i64 0, .int .i64 0, .int .i64 0, .int .u64 0, .int .u64 0, .int .u64 0, .slice none 0 0, .int .u64 0, .int .u64 0, .int .i64 0, .int .u64 0]).cells.size]!)) (fun v hv => by rw [List.mem_singleton.1 hv]; exact hc) (by rw [Array.size_map, Array.size_range]; rfl)
  have e : ([Value.agg cY].flatMap fun v => v.cells.toList).toArray = cY := by simp [Value.cells]
  rw [e] at h1
  exact h1
theorem wp_append_ru {o : Oper} {a : Act} {w : World} {K : Act → World → Prop} {Q : Exit → Act → World → Prop} (s x : Operand)
    (ho : o.op = .call { callee := .builtin .append, args := #[s, x], argTypes := #[29, 29] }) (base : Nat)
    (v : Value) (n : Nat) (xs : List Value) (hs : a.eval s = v) (hown : w.ownsRow base 55 14 v n xs)
    (gx : Nat) (cY : Array Value) (hx : a.eval x = .slice (some ⟨gx, 0, none⟩) 1 1) (hB : w.heap[gx]? = some (.cells cY 55 (0, 0))) (hc : cY.size = 14 ∧ cY.all (·.oneCell') = true) (hn : n + 1 ≤ 1000) (hbase : base ≤ w.heap.size) (Hs : Nat) (hH : w.heap.size = Hs)
    (h : ∀ g' c' w', w'.ownsRow base 55 14 (.slice (some ⟨g', 0, none⟩) (n + 1) c') (n + 1) (xs ++ cY.toList) → w.grownBy w' v.ownBlock → (v.ownBlock = some g' ∨ g' = Hs) → g' < w'.heap.size → K (a.put o.dst (.slice (some ⟨g', 0, none⟩) (n + 1) c')) w') :
    o.wp Try.prog a w K Q := by
  obtain ⟨iS, hiS, hzS⟩ := Option.map_eq_some_iff.1 infoRu3
  simp only [Prod.mk.injEq, decide_eq_true_eq] at hzS
  refine wp_append_lies w s x 29 ho base 55 iS (.agg #[.string { data := #[] }, .int .i64 0, .int .i64 0, .int .i64 0, .int .i64 0, .int .i64 0, .int .u64 0, .int .u64 0, .int .u64 0, .slice none 0 0, .int .u64 0, .int .u64 0, .int .i64 0, .int .u64 0]) 14 iS.bytes Try.underlying29 hiS hzS.1 hzS.2.1 rfl rfl (by omega) v n xs hs hown ⟨gx, 0, none⟩ 1 1 cY.toList hx (by rw [Array.length_toList, hc.1]) ?_ (fun u hu => (Array.all_eq_true_iff_forall_mem.1 hc.2) u (by simpa using hu)) (by omega) (by unfold maxLen; omega) ?_ hbase Hs hH h
  · intro j u hj
    rw [Array.getElem?_toList] at hj
    rw [Addr.add_mid, Nat.zero_add]
    exact (cell_of_row _ gx j _ _ _ hB).trans hj
  · have h1 : (n + 1) * iS.bytes ≤ 1000 * 1000 := Nat.mul_le_mul hn hzS.2.2
    exact Nat.le_trans h1 (by decide)
theorem wp_build_su {o : Oper} {a : Act} {w : World} {K : Act → World → Prop} {Q : Exit → Act → World → Prop} (x : Operand) (ho : o.op = .buildSlice 28 1 #[(0, x)]) (P : SU) (hx : a.eval x = suA P)
    (h : K (a.put o.dst (.slice (some ⟨w.heap.size, 0, none⟩) 1 1)) (w.alloc (.cells (tabV 276 (suV P)) 35))) : o.wp Try.prog a w K Q := by
  obtain ⟨iS, hiS, hzS⟩ := Option.map_eq_some_iff.1 infoSu
  simp only [Prod.mk.injEq] at hzS
  refine wp_buildSlice 28 35 1 #[(0, x)] ho (tabV 276 (suV P)) iS (.agg (tabV 276 (suV suZ))) Try.underlying28 hiS hzS.1 (by rw [hzS.2]; omega) (by rw [hzS.2]; omega) ?_ h
  rw [Array.toList_map, hzS.2]
  show Instr.fill _ _ [(0, a.eval x)] = _
  rw [hx]
  have h1 := fill_SU (.agg (tabV 276 (suV suZ))) [P] 1 rfl
  have e : (rowSU [P]).toArray = tabV 276 (suV P) := by
    have : rowSU [P] = suL P := by simp [rowSU]
    rw [this, suL_arr]
  rw [e] at h1
  exact h1
theorem wp_append_su {o : Oper} {a : Act} {w : World} {K : Act → World → Prop} {Q : Exit → Act → World → Prop} (s x : Operand)
    (ho : o.op = .call { callee := .builtin .append, args := #[s, x], argTypes := #[28, 28] }) (base : Nat)
    (v : Value) (n : Nat) (SL : List SU) (hs : a.eval s = v) (hown : w.ownsRow base 35 276 v n (rowSU SL))
    (gx : Nat) (P : SU) (hx : a.eval x = .slice (some ⟨gx, 0, none⟩) 1 1) (hB : SuB w gx P) (hn : n + 1 ≤ 1000) (hbase : base ≤ w.heap.size) (Hs : Nat) (hH : w.heap.size = Hs)
    (h : ∀ g' c' w', w'.ownsRow base 35 276 (.slice (some ⟨g', 0, none⟩) (n + 1) c') (n + 1) (rowSU (SL ++ [P])) → w.grownBy w' v.ownBlock → (v.ownBlock = some g' ∨ g' = Hs) → g' < w'.heap.size → K (a.put o.dst (.slice (some ⟨g', 0, none⟩) (n + 1) c')) w') :
    o.wp Try.prog a w K Q := by
  obtain ⟨iS, hiS, hzS⟩ := Option.map_eq_some_iff.1 infoSu3
  simp only [Prod.mk.injEq, decide_eq_true_eq] at hzS
  refine wp_append_lies w s x 28 ho base 35 iS (.agg (tabV 276 (suV suZ))) 276 iS.bytes Try.underlying28 hiS hzS.1 hzS.2.1 rfl (size_tabV _ _) (by omega) v n (rowSU SL) hs hown ⟨gx, 0, none⟩ 1 1 (suL P) hx (by rw [suL_len]) ?_ (suL_one P) (by omega) (by unfold maxLen; omega) ?_ hbase Hs hH ?_
  · intro j u hj
    have := SuB.range hB j u hj
    rw [Nat.zero_add] at this
    rw [Addr.add_mid, Nat.zero_add]
    exact this
  · have h1 : (n + 1) * iS.bytes ≤ 1000 * 1000 := Nat.mul_le_mul hn hzS.2.2
    exact Nat.le_trans h1 (by decide)
  · intro g' cap w' h1 h2 h3 h4
    exact h g' cap w' (by rw [rowSU_snoc]; exact h1) h2 h3 h4
theorem own_heap {w : World} {base s n g : Nat} {e : TypeId} {v : Value} {xs : List Value} (h : w.ownsRow base e s v n xs) (hv : v.ownBlock = some g) : ∃ cur, w.heap[g]? = some (.cells cur e (0, 0)) := by
  rcases h.2 with ⟨rfl, _⟩ | ⟨g', cap, cur, rfl, hb, hg, _⟩
  · cases hv
  · cases hv; exact ⟨cur, hg⟩
theorem own_apart {w : World} {b1 s1 n1 b2 s2 n2 : Nat} {e1 e2 : TypeId} {v1 v2 : Value} {xs1 xs2 : List Value} (h1 : w.ownsRow b1 e1 s1 v1 n1 xs1) (h2 : w.ownsRow b2 e2 s2 v2 n2 xs2) (hne : e1 ≠ e2) : v1.ownBlock = none ∨ v1.ownBlock ≠ v2.ownBlock := by
  cases hv : v1.ownBlock with
  | none => exact .inl rfl
  | some g =>
    refine .inr fun e => ?_
    obtain ⟨c1, k1⟩ := own_heap h1 hv
    obtain ⟨c2, k2⟩ := own_heap h2 e.symm
    rw [k1] at k2
    injection k2 with k2
    injection k2 with _ k2 _
    exact hne k2
set_option maxHeartbeats 16000000 in
theorem of_alike (a : Option Addr) (n c : Nat) (l : List PSu) (y0 : PSu) (w : World) (hA : ArgP w a n c l) (h0 : ∀ y, l[0]? = some y → y = y0) (hI : ∀ y ∈ l, y.lI ≤ 20) (hn8 : n ≤ 8) :
    Calls Try.prog 6 #[.slice a n c, .bool true] w fun e w' => ∃ (ra rb : Option Addr) (rc rd : Nat), e = .returned (.tuple #[.slice ra n rc, .slice rb n rd]) ∧ w'.ownsRow w.heap.size 35 276 (.slice ra n rc) n (rowSU (ofK y0 l n)) ∧ Below w.heap.size w w' := by
  obtain ⟨hb1, hb2⟩ := hA.bd
  have HL := Lib.hid (show l.length = n from hA.1)
  have HA := Lib.hid hA
  have H0 := Lib.hid h0
  have HI := Lib.hid hI
  obtain ⟨hz0, hi0⟩ := zero_of_info infoSu
  clear hi0
  obtain ⟨c0, hc0⟩ : ∃ s, s = tabV 276 (suV suZ) := ⟨_, rfl⟩
  rw [← hc0] at hz0
  have HC0 := Lib.hid (show c0.size = 276 by rw [hc0, size_tabV])
  clear hA h0 hI hc0
  go_enter Try.func6, Try.ntmps6
  go_wp2
  go_loopw [6, 7, 14] (fun av bv iv wr => ∃ (k : Nat) (ra rb : Option Addr) (rc rd : Nat) (xs : List Value), k ≤ n ∧ iv = .int .i64 (k : Nat) ∧ av = .slice ra k rc ∧ bv = .slice rb k rd ∧ Hid (wr.ownsRow w.heap.size 35 276 (.slice ra k rc) k (rowSU (ofK y0 l k))) ∧ Hid (wr.ownsRow w.heap.size 55 14 (.slice rb k rd) k xs) ∧ Hid (Below w.heap.size w wr))
    (fun _ _ iv _ => n - (intOf iv).toNat)
  case atStart => exact ⟨0, none, none, 0, 0, [], Nat.zero_le _, rfl, rfl, rfl, Lib.hid (own_nilSU _ _), Lib.hid (World.ownsRow_nil _ _ _ _), Lib.hid (Below.refl _ _)⟩
  case round =>
    obtain ⟨k, ra, rb, rc, rd, xs, hk, rfl, rfl, rfl, hoa, hob, hbn⟩ := hrel
    rename World => wo
    have HOA := Lib.hid hoa.out
    have HOB := Lib.hid hob.out
    have HBN := Lib.hid hbn.out
    clear hoa hob hbn
    by_cases hlt : k < n
    · obtain ⟨b, off, y, ha, hbl, hyk, hyv, hrg⟩ := (HA.out.on HBN.out).at_ hlt
      obtain ⟨b', off', y1, ha', hbl', hy1, hyv1, hrg1⟩ := (HA.out.on HBN.out).at_ (i := 0) (by omega)
      obtain rfl := H0.out y1 hy1
      rename PSu => y0
      subst ha
      cases ha'
      have q1 : (k : Int) < (n : Int) := by omega
      have q00 : 0 < n := by omega
      have HRG := Lib.hid hrg
      have HYV := Lib.hid hyv
      have HYV0 := Lib.hid hyv1
      have HLT := Lib.hid hlt
      have HBL := Lib.hid hbl
      have HYK := Lib.hid hyk
      have HY0 := Lib.hid hrg1
      clear hrg hyv hyv1 hlt hbl' hyk hrg1 hy1
      go_upto_region 7 with (first
        | ((with_reducible show wpList _ _ _ (⟨some 18, _, _, _, _, _⟩ :: _) _ _); go_loud (refine wpList_load_mid rfl 27 (.tmp 17) rfl b (off + k * 14) rfl (psA y).toList _ HRG.out Try.underlying27 rfl sizePs ?_; rw [Array.toArray_toList]))
        | ((with_reducible show wpList _ _ _ (⟨none, Op.store 27 _ _, _, _, _, _⟩ :: _) _ _); go_loud (refine wpList_store_row rfl 27 (.tmp 9) (.tmp 18) rfl wo.heap.size (psA y) rfl rfl 27 #[.slice none 0 0, .int .u8 0, .int .u8 0, .int .u8 0, .int .u8 0, .int .u8 0, .int .u32 0, .int .u32 0, .int .u32 0, .slice none 0 0, .int .u32 0, .int .u32 0, .int .u8 0, .int .u32 0] (heap_alloc_new _ _) sizePs rfl (by simp [psA, Value.oneCell']) ?_; rw [alloc_setRow])))
      obtain ⟨q, hq⟩ : ∃ q, q = wo.heap.size := ⟨_, rfl⟩
      have HQ := Lib.hid hq
      have HQ0 := Lib.hid (show (wo.alloc (.cells (psA y) 27)).heap[q]? = some (.cells #[.slice y.aN y.lN y.cN, .int .u8 y.P.p, .int .u8 y.P.n, .int .u8 y.P.t, .int .u8 y.P.m, .int .u8 y.P.c, .int .u32 y.P.bl, .int .u32 y.P.bo, .int .u32 y.P.ep, .slice y.aI y.lI y.cI, .int .u32 y.P.rf, .int .u32 y.P.sc, .int .u8 y.P.tg, .int .u32 y.P.rs] 27 (0, 0)) by rw [hq]; exact heap_alloc_new wo _)
      have HB0 := Lib.hid (show Below q wo (wo.alloc (.cells (psA y) 27)) by rw [hq]; exact (Below.refl _ _).alloc (Nat.le_refl _) _)
      rw [← hq]
      have hzz : ∀ (W : World) (j : Nat) (v : Value), Below q wo W → (psA y0).toList[j]? = some v → W.cell? ⟨b, off + j, none⟩ = some v := fun W j v hW hv => by
        have h1 := HY0.out j v hv
        rw [Nat.zero_mul, Nat.add_zero] at h1
        exact (hW.cell (p := ⟨b, off + j, none⟩) (by rw [hq]; exact HBL.out)).trans h1
      have z0 : ∀ W, Below q wo W → W.cell? ⟨b, off, none⟩ = some (.slice y0.aN y0.lN y0.cN) := fun W hW => hzz W 0 _ hW rfl
      have z2 : ∀ W, Below q wo W → W.cell? ⟨b, off + 2, none⟩ = some (.int .u8 y0.P.n) := fun W hW => hzz W 2 _ hW rfl
      have z3 : ∀ W, Below q wo W → W.cell? ⟨b, off + 3, none⟩ = some (.int .u8 y0.P.t) := fun W hW => hzz W 3 _ hW rfl
      have z4 : ∀ W, Below q wo W → W.cell? ⟨b, off + 4, none⟩ = some (.int .u8 y0.P.m) := fun W hW => hzz W 4 _ hW rfl
      have z5 : ∀ W, Below q wo W → W.cell? ⟨b, off + 5, none⟩ = some (.int .u8 y0.P.c) := fun W hW => hzz W 5 _ hW rfl
      have z6 : ∀ W, Below q wo W → W.cell? ⟨b, off + 6, none⟩ = some (.int .u32 y0.P.bl) := fun W hW => hzz W 6 _ hW rfl
      clear hq hzz
      generalize wo.alloc (.cells (psA y) 27) = V at HQ0 HB0 ⊢
      refine wp_region_held_drew (S := (fun W => Below q wo W)) (by kernel_rfl) (HB0.out.drew) (fun hHeld => ?_)
      have HD0 := Lib.hid (show V.drew.heap[q]? = some (.cells #[.slice y.aN y.lN y.cN, .int .u8 y.P.p, .int .u8 y.P.n, .int .u8 y.P.t, .int .u8 y.P.m, .int .u8 y.P.c, .int .u32 y.P.bl, .int .u32 y.P.bo, .int .u32 y.P.ep, .slice y.aI y.lI y.cI, .int .u32 y.P.rf, .int .u32 y.P.sc, .int .u8 y.P.tg, .int .u32 y.P.rs] 27 (0, 0)) from HQ0.out)
      generalize V.drew = V0 at hHeld HD0 ⊢
      refine wpAnyH_take (i := 0) (oi := { dst := some 20, op := Go.Op.move (Go.Operand.tmp 0), type := 22, pos := "law.go:48", after := #[], guard := none }) (v := ?v0p1) rfl (by kernel_rfl) (by kernel_rfl) (by kernel_rfl) (fun _ _ _ h => h) (Or.inl ⟨by rfl, ?hy0p1⟩) hHeld ?rest0p1
      case hy0p1 =>
        intro W' hV
        try dsimp only at hV
        go_simp
        all_goals with_reducible rfl
      case' rest0p1 => try simp only [Act.put, List.setIfInBounds_toArray, List.set_cons_zero, List.set_cons_succ]
      refine wpAnyH_take (i := 1) (oi := { dst := some 21, op := Go.Op.indexAddr 22 (Go.Operand.tmp 20) (Go.Operand.const (Go.Value.int Go.IntKind.i64 0)), type := 0, pos := "law.go:48", after := #[{ on := 0, ground := Go.Ground.data }], guard := none }) (v := ?v1p2) rfl (by kernel_rfl) (by kernel_rfl) (by kernel_rfl) (fun _ _ _ h => h) (Or.inl ⟨by rfl, ?hy1p2⟩) hHeld ?rest1p2
      case hy1p2 =>
        intro W' hV
        try dsimp only at hV
        go_simp
        all_goals with_reducible rfl
      case' rest1p2 => try simp only [Act.put, List.setIfInBounds_toArray, List.set_cons_zero, List.set_cons_succ]
      refine wpAnyH_take (i := 2) (oi := { dst := some 22, op := Go.Op.fieldAddr 27 (Go.Operand.tmp 21) 0, type := 0, pos := "law.go:48", after := #[{ on := 1, ground := Go.Ground.data }], guard := none }) (v := ?v2p3) rfl (by kernel_rfl) (by kernel_rfl) (by kernel_rfl) (fun _ _ _ h => h) (Or.inl ⟨by rfl, ?hy2p3⟩) hHeld ?rest2p3
      case hy2p3 =>
        intro W' hV
        try dsimp only at hV
        go_simp
        all_goals with_reducible rfl
      case' rest2p3 => try simp only [Act.put, List.setIfInBounds_toArray, List.set_cons_zero, List.set_cons_succ]
      refine wpAnyH_take (i := 3) (oi := { dst := some 23, op := Go.Op.load 24 (Go.Operand.tmp 22), type := 24, pos := "law.go:48", after := #[{ on := 2, ground := Go.Ground.data }], guard := none }) (v := ?v3p4) rfl (by kernel_rfl) (by kernel_rfl) (by kernel_rfl) (fun _ _ _ h => h) (Or.inl ⟨by rfl, ?hy3p4⟩) hHeld ?rest3p4
      case hy3p4 =>
        intro W' hV
        try dsimp only at hV
        go_simp
        all_goals with_reducible rfl
      case' rest3p4 => try simp only [Act.put, List.setIfInBounds_toArray, List.set_cons_zero, List.set_cons_succ]
      refine wpAnyH_take (i := 4) (oi := { dst := some 24, op := Go.Op.move (Go.Operand.tmp 0), type := 22, pos := "law.go:48", after := #[{ on := 25, ground := Go.Ground.gcOnly Go.Departure.lateStores }], guard := none }) (v := ?v4p5) rfl (by kernel_rfl) (by kernel_rfl) (by kernel_rfl) (fun _ _ _ h => h) (Or.inl ⟨by rfl, ?hy4p5⟩) hHeld ?rest4p5
      case hy4p5 =>
        intro W' hV
        try dsimp only at hV
        go_simp
        all_goals with_reducible rfl
      case' rest4p5 => try simp only [Act.put, List.setIfInBounds_toArray, List.set_cons_zero, List.set_cons_succ]
      refine wpAnyH_take (i := 5) (oi := { dst := some 25, op := Go.Op.indexAddr 22 (Go.Operand.tmp 24) (Go.Operand.const (Go.Value.int Go.IntKind.i64 0)), type := 0, pos := "law.go:48", after := #[{ on := 4, ground := Go.Ground.data }, { on := 25, ground := Go.Ground.gcOnly Go.Departure.lateStores }], guard := none }) (v := ?v5p6) rfl (by kernel_rfl) (by kernel_rfl) (by kernel_rfl) (fun _ _ _ h => h) (Or.inl ⟨by rfl, ?hy5p6⟩) hHeld ?rest5p6
      case hy5p6 =>
        intro W' hV
        try dsimp only at hV
        go_simp
        all_goals with_reducible rfl
      case' rest5p6 => try simp only [Act.put, List.setIfInBounds_toArray, List.set_cons_zero, List.set_cons_succ]
      refine wpAnyH_take (i := 6) (oi := { dst := some 26, op := Go.Op.fieldAddr 27 (Go.Operand.tmp 25) 2, type := 0, pos := "law.go:48", after := #[{ on := 5, ground := Go.Ground.data }, { on := 25, ground := Go.Ground.gcOnly Go.Departure.lateStores }], guard := none }) (v := ?v6p7) rfl (by kernel_rfl) (by kernel_rfl) (by kernel_rfl) (fun _ _ _ h => h) (Or.inl ⟨by rfl, ?hy6p7⟩) hHeld ?rest6p7
      case hy6p7 =>
        intro W' hV
        try dsimp only at hV
        go_simp
        all_goals with_reducible rfl
      case' rest6p7 => try simp only [Act.put, List.setIfInBounds_toArray, List.set_cons_zero, List.set_cons_succ]
      refine wpAnyH_take (i := 7) (oi := { dst := some 27, op := Go.Op.load 5 (Go.Operand.tmp 26), type := 5, pos := "law.go:48", after := #[{ on := 6, ground := Go.Ground.data }, { on := 25, ground := Go.Ground.gcOnly Go.Departure.lateStores }], guard := none }) (v := ?v7p8) rfl (by kernel_rfl) (by kernel_rfl) (by kernel_rfl) (fun _ _ _ h => h) (Or.inl ⟨by rfl, ?hy7p8⟩) hHeld ?rest7p8
      case hy7p8 =>
        intro W' hV
        try dsimp only at hV
        go_simp
        all_goals with_reducible rfl
      case' rest7p8 => try simp only [Act.put, List.setIfInBounds_toArray, List.set_cons_zero, List.set_cons_succ]
      refine wpAnyH_take (i := 8) (oi := { dst := some 28, op := Go.Op.move (Go.Operand.tmp 0), type := 22, pos := "law.go:48", after := #[{ on := 27, ground := Go.Ground.gcOnly Go.Departure.lateStores }], guard := none }) (v := ?v8p9) rfl (by kernel_rfl) (by kernel_rfl) (by kernel_rfl) (fun _ _ _ h => h) (Or.inl ⟨by rfl, ?hy8p9⟩) hHeld ?rest8p9
      case hy8p9 =>
        intro W' hV
        try dsimp only at hV
        go_simp
        all_goals with_reducible rfl
      case' rest8p9 => try simp only [Act.put, List.setIfInBounds_toArray, List.set_cons_zero, List.set_cons_succ]
      refine wpAnyH_take (i := 9) (oi := { dst := some 29, op := Go.Op.indexAddr 22 (Go.Operand.tmp 28) (Go.Operand.const (Go.Value.int Go.IntKind.i64 0)), type := 0, pos := "law.go:48", after := #[{ on := 8, ground := Go.Ground.data }, { on := 27, ground := Go.Ground.gcOnly Go.Departure.lateStores }], guard := none }) (v := ?v9p10) rfl (by kernel_rfl) (by kernel_rfl) (by kernel_rfl) (fun _ _ _ h => h) (Or.inl ⟨by rfl, ?hy9p10⟩) hHeld ?rest9p10
      case hy9p10 =>
        intro W' hV
        try dsimp only at hV
        go_simp
        all_goals with_reducible rfl
      case' rest9p10 => try simp only [Act.put, List.setIfInBounds_toArray, List.set_cons_zero, List.set_cons_succ]
      refine wpAnyH_take (i := 10) (oi := { dst := some 30, op := Go.Op.fieldAddr 27 (Go.Operand.tmp 29) 3, type := 0, pos := "law.go:48", after := #[{ on := 9, ground := Go.Ground.data }, { on := 27, ground := Go.Ground.gcOnly Go.Departure.lateStores }], guard := none }) (v := ?v10p11) rfl (by kernel_rfl) (by kernel_rfl) (by kernel_rfl) (fun _ _ _ h => h) (Or.inl ⟨by rfl, ?hy10p11⟩) hHeld ?rest10p11
      case hy10p11 =>
        intro W' hV
        try dsimp only at hV
        go_simp
        all_goals with_reducible rfl
      case' rest10p11 => try simp only [Act.put, List.setIfInBounds_toArray, List.set_cons_zero, List.set_cons_succ]
      refine wpAnyH_take (i := 11) (oi := { dst := some 31, op := Go.Op.load 5 (Go.Operand.tmp 30), type := 5, pos := "law.go:48", after := #[{ on := 10, ground := Go.Ground.data }, { on := 27, ground := Go.Ground.gcOnly Go.Departure.lateStores }], guard := none }) (v := ?v11p12) rfl (by kernel_rfl) (by kernel_rfl) (by kernel_rfl) (fun _ _ _ h => h) (Or.inl ⟨by rfl, ?hy11p12⟩) hHeld ?rest11p12
      case hy11p12 =>
        intro W' hV
        try dsimp only at hV
        go_simp
        all_goals with_reducible rfl
      case' rest11p12 => try simp only [Act.put, List.setIfInBounds_toArray, List.set_cons_zero, List.set_cons_succ]
      refine wpAnyH_take (i := 12) (oi := { dst := some 32, op := Go.Op.move (Go.Operand.tmp 0), type := 22, pos := "law.go:48", after := #[{ on := 29, ground := Go.Ground.gcOnly Go.Departure.lateStores }], guard := none }) (v := ?v12p13) rfl (by kernel_rfl) (by kernel_rfl) (by kernel_rfl) (fun _ _ _ h => h) (Or.inl ⟨by rfl, ?hy12p13⟩) hHeld ?rest12p13
      case hy12p13 =>
        intro W' hV
        try dsimp only at hV
        go_simp
        all_goals with_reducible rfl
      case' rest12p13 => try simp only [Act.put, List.setIfInBounds_toArray, List.set_cons_zero, List.set_cons_succ]
      refine wpAnyH_take (i := 13) (oi := { dst := some 33, op := Go.Op.indexAddr 22 (Go.Operand.tmp 32) (Go.Operand.const (Go.Value.int Go.IntKind.i64 0)), type := 0, pos := "law.go:48", after := #[{ on := 12, ground := Go.Ground.data }, { on := 29, ground := Go.Ground.gcOnly Go.Departure.lateStores }], guard := none }) (v := ?v13p14) rfl (by kernel_rfl) (by kernel_rfl) (by kernel_rfl) (fun _ _ _ h => h) (Or.inl ⟨by rfl, ?hy13p14⟩) hHeld ?rest13p14
      case hy13p14 =>
        intro W' hV
        try dsimp only at hV
        go_simp
        all_goals with_reducible rfl
      case' rest13p14 => try simp only [Act.put, List.setIfInBounds_toArray, List.set_cons_zero, List.set_cons_succ]
      refine wpAnyH_take (i := 14) (oi := { dst := some 34, op := Go.Op.fieldAddr 27 (Go.Operand.tmp 33) 4, type := 0, pos := "law.go:48", after := #[{ on := 13, ground := Go.Ground.data }, { on := 29, ground := Go.Ground.gcOnly Go.Departure.lateStores }], guard := none }) (v := ?v14p15) rfl (by kernel_rfl) (by kernel_rfl) (by kernel_rfl) (fun _ _ _ h => h) (Or.inl ⟨by rfl, ?hy14p15⟩) hHeld ?rest14p15
      case hy14p15 =>
        intro W' hV
        try dsimp only at hV
        go_simp
        all_goals with_reducible rfl
      case' rest14p15 => try simp only [Act.put, List.setIfInBounds_toArray, List.set_cons_zero, List.set_cons_succ]
      refine wpAnyH_take (i := 15) (oi := { dst := some 35, op := Go.Op.load 5 (Go.Operand.tmp 34), type := 5, pos := "law.go:48", after := #[{ on := 14, ground := Go.Ground.data }, { on := 29, ground := Go.Ground.gcOnly Go.Departure.lateStores }], guard := none }) (v := ?v15p16) rfl (by kernel_rfl) (by kernel_rfl) (by kernel_rfl) (fun _ _ _ h => h) (Or.inl ⟨by rfl, ?hy15p16⟩) hHeld ?rest15p16
      case hy15p16 =>
        intro W' hV
        try dsimp only at hV
        go_simp
        all_goals with_reducible rfl
      case' rest15p16 => try simp only [Act.put, List.setIfInBounds_toArray, List.set_cons_zero, List.set_cons_succ]
      refine wpAnyH_take (i := 16) (oi := { dst := some 36, op := Go.Op.move (Go.Operand.tmp 0), type := 22, pos := "law.go:48", after := #[{ on := 31, ground := Go.Ground.gcOnly Go.Departure.lateStores }], guard := none }) (v := ?v16p17) rfl (by kernel_rfl) (by kernel_rfl) (by kernel_rfl) (fun _ _ _ h => h) (Or.inl ⟨by rfl, ?hy16p17⟩) hHeld ?rest16p17
      case hy16p17 =>
        intro W' hV
        try dsimp only at hV
        go_simp
        all_goals with_reducible rfl
      case' rest16p17 => try simp only [Act.put, List.setIfInBounds_toArray, List.set_cons_zero, List.set_cons_succ]
      refine wpAnyH_take (i := 17) (oi := { dst := some 37, op := Go.Op.indexAddr 22 (Go.Operand.tmp 36) (Go.Operand.const (Go.Value.int Go.IntKind.i64 0)), type := 0, pos := "law.go:48", after := #[{ on := 16, ground := Go.Ground.data }, { on := 31, ground := Go.Ground.gcOnly Go.Departure.lateStores }], guard := none }) (v := ?v17p18) rfl (by kernel_rfl) (by kernel_rfl) (by kernel_rfl) (fun _ _ _ h => h) (Or.inl ⟨by rfl, ?hy17p18⟩) hHeld ?rest17p18
      case hy17p18 =>
        intro W' hV
        try dsimp only at hV
        go_simp
        all_goals with_reducible rfl
      case' rest17p18 => try simp only [Act.put, List.setIfInBounds_toArray, List.set_cons_zero, List.set_cons_succ]
      refine wpAnyH_take (i := 18) (oi := { dst := some 38, op := Go.Op.fieldAddr 27 (Go.Operand.tmp 37) 5, type := 0, pos := "law.go:48", after := #[{ on := 17, ground := Go.Ground.data }, { on := 31, ground := Go.Ground.gcOnly Go.Departure.lateStores }], guard := none }) (v := ?v18p19) rfl (by kernel_rfl) (by kernel_rfl) (by kernel_rfl) (fun _ _ _ h => h) (Or.inl ⟨by rfl, ?hy18p19⟩) hHeld ?rest18p19
      case hy18p19 =>
        intro W' hV
        try dsimp only at hV
        go_simp
        all_goals with_reducible rfl
      case' rest18p19 => try simp only [Act.put, List.setIfInBounds_toArray, List.set_cons_zero, List.set_cons_succ]
      refine wpAnyH_take (i := 19) (oi := { dst := some 39, op := Go.Op.load 5 (Go.Operand.tmp 38), type := 5, pos := "law.go:48", after := #[{ on := 18, ground := Go.Ground.data }, { on := 31, ground := Go.Ground.gcOnly Go.Departure.lateStores }], guard := none }) (v := ?v19p20) rfl (by kernel_rfl) (by kernel_rfl) (by kernel_rfl) (fun _ _ _ h => h) (Or.inl ⟨by rfl, ?hy19p20⟩) hHeld ?rest19p20
      case hy19p20 =>
        intro W' hV
        try dsimp only at hV
        go_simp
        all_goals with_reducible rfl
      case' rest19p20 => try simp only [Act.put, List.setIfInBounds_toArray, List.set_cons_zero, List.set_cons_succ]
      refine wpAnyH_take (i := 20) (oi := { dst := some 40, op := Go.Op.move (Go.Operand.tmp 0), type := 22, pos := "law.go:48", after := #[{ on := 33, ground := Go.Ground.gcOnly Go.Departure.lateStores }], guard := none }) (v := ?v20p21) rfl (by kernel_rfl) (by kernel_rfl) (by kernel_rfl) (fun _ _ _ h => h) (Or.inl ⟨by rfl, ?hy20p21⟩) hHeld ?rest20p21
      case hy20p21 =>
        intro W' hV
        try dsimp only at hV
        go_simp
        all_goals with_reducible rfl
      case' rest20p21 => try simp only [Act.put, List.setIfInBounds_toArray, List.set_cons_zero, List.set_cons_succ]
      refine wpAnyH_take (i := 21) (oi := { dst := some 41, op := Go.Op.indexAddr 22 (Go.Operand.tmp 40) (Go.Operand.const (Go.Value.int Go.IntKind.i64 0)), type := 0, pos := "law.go:48", after := #[{ on := 20, ground := Go.Ground.data }, { on := 33, ground := Go.Ground.gcOnly Go.Departure.lateStores }], guard := none }) (v := ?v21p22) rfl (by kernel_rfl) (by kernel_rfl) (by kernel_rfl) (fun _ _ _ h => h) (Or.inl ⟨by rfl, ?hy21p22⟩) hHeld ?rest21p22
      case hy21p22 =>
        intro W' hV
        try dsimp only at hV
        go_simp
        all_goals with_reducible rfl
      case' rest21p22 => try simp only [Act.put, List.setIfInBounds_toArray, List.set_cons_zero, List.set_cons_succ]
      refine wpAnyH_take (i := 22) (oi := { dst := some 42, op := Go.Op.fieldAddr 27 (Go.Operand.tmp 41) 6, type := 0, pos := "law.go:48", after := #[{ on := 21, ground := Go.Ground.data }, { on := 33, ground := Go.Ground.gcOnly Go.Departure.lateStores }], guard := none }) (v := ?v22p23) rfl (by kernel_rfl) (by kernel_rfl) (by kernel_rfl) (fun _ _ _ h => h) (Or.inl ⟨by rfl, ?hy22p23⟩) hHeld ?rest22p23
      case hy22p23 =>
        intro W' hV
        try dsimp only at hV
        go_simp
        all_goals with_reducible rfl
      case' rest22p23 => try simp only [Act.put, List.setIfInBounds_toArray, List.set_cons_zero, List.set_cons_succ]
      refine wpAnyH_take (i := 23) (oi := { dst := some 43, op := Go.Op.load 25 (Go.Operand.tmp 42), type := 25, pos := "law.go:48", after := #[{ on := 22, ground := Go.Ground.data }, { on := 33, ground := Go.Ground.gcOnly Go.Departure.lateStores }], guard := none }) (v := ?v23p24) rfl (by kernel_rfl) (by kernel_rfl) (by kernel_rfl) (fun _ _ _ h => h) (Or.inl ⟨by rfl, ?hy23p24⟩) hHeld ?rest23p24
      case hy23p24 =>
        intro W' hV
        try dsimp only at hV
        go_simp
        all_goals with_reducible rfl
      case' rest23p24 => try simp only [Act.put, List.setIfInBounds_toArray, List.set_cons_zero, List.set_cons_succ]
      refine wpAnyH_take (i := 24) (oi := { dst := some 44, op := Go.Op.fieldAddr 27 (Go.Operand.tmp 9) 0, type := 0, pos := "law.go:48", after := #[{ on := 0, ground := Go.Ground.phase }, { on := 1, ground := Go.Ground.phase }, { on := 2, ground := Go.Ground.phase }, { on := 3, ground := Go.Ground.phase }, { on := 4, ground := Go.Ground.textOnly Go.Departure.lateStores }, { on := 5, ground := Go.Ground.textOnly Go.Departure.lateStores }, { on := 6, ground := Go.Ground.textOnly Go.Departure.lateStores }, { on := 7, ground := Go.Ground.textOnly Go.Departure.lateStores }, { on := 8, ground := Go.Ground.textOnly Go.Departure.lateStores }, { on := 9, ground := Go.Ground.textOnly Go.Departure.lateStores }, { on := 10, ground := Go.Ground.textOnly Go.Departure.lateStores }, { on := 11, ground := Go.Ground.textOnly Go.Departure.lateStores }, { on := 12, ground := Go.Ground.textOnly Go.Departure.lateStores }, { on := 13, ground := Go.Ground.textOnly Go.Departure.lateStores }, { on := 14, ground := Go.Ground.textOnly Go.Departure.lateStores }, { on := 15, ground := Go.Ground.textOnly Go.Departure.lateStores }, { on := 16, ground := Go.Ground.textOnly Go.Departure.lateStores }, { on := 17, ground := Go.Ground.textOnly Go.Departure.lateStores }, { on := 18, ground := Go.Ground.textOnly Go.Departure.lateStores }, { on := 19, ground := Go.Ground.textOnly Go.Departure.lateStores }, { on := 20, ground := Go.Ground.textOnly Go.Departure.lateStores }, { on := 21, ground := Go.Ground.textOnly Go.Departure.lateStores }, { on := 22, ground := Go.Ground.textOnly Go.Departure.lateStores }, { on := 23, ground := Go.Ground.textOnly Go.Departure.lateStores }], guard := none }) (v := ?v24p25) rfl (by kernel_rfl) (by kernel_rfl) (by kernel_rfl) (fun _ _ _ h => h) (Or.inl ⟨by rfl, ?hy24p25⟩) hHeld ?rest24p25
      case hy24p25 =>
        intro W' hV
        try dsimp only at hV
        go_simp
        all_goals with_reducible rfl
      case' rest24p25 => try simp only [Act.put, List.setIfInBounds_toArray, List.set_cons_zero, List.set_cons_succ]
      clear z0 z2 z3 z4 z5 z6
      have zc := cell14 HD0.out
      have zf := frozen_of_row V0 q 0 _ _ HD0.out
      have HH0 := Lib.hid hHeld
      have HE0 := Lib.hid (show (V0.setCell ⟨q, 0, none⟩ (.slice y0.aN y0.lN y0.cN)).heap[q]? = some (.cells #[.slice y0.aN y0.lN y0.cN, .int .u8 y.P.p, .int .u8 y.P.n, .int .u8 y.P.t, .int .u8 y.P.m, .int .u8 y.P.c, .int .u32 y.P.bl, .int .u32 y.P.bo, .int .u32 y.P.ep, .slice y.aI y.lI y.cI, .int .u32 y.P.rf, .int .u32 y.P.sc, .int .u8 y.P.tg, .int .u32 y.P.rs] 27 (0, 0)) from heap_setCell_same V0 q 0 _ _ _ HD0.out)
      refine wpAnyH_ready (rs := [25]) (by kernel_rfl) (by simp) ?_
      refine AllReadyH.cons (o := { dst := none, op := Go.Op.store 24 (Go.Operand.tmp 44) (Go.Operand.tmp 23), type := 0, pos := "law.go:48", after := #[{ on := 24, ground := Go.Ground.data }, { on := 3, ground := Go.Ground.data }, { on := 0, ground := Go.Ground.phase }, { on := 1, ground := Go.Ground.phase }, { on := 2, ground := Go.Ground.phase }, { on := 3, ground := Go.Ground.phase }, { on := 4, ground := Go.Ground.textOnly Go.Departure.lateStores }, { on := 5, ground := Go.Ground.textOnly Go.Departure.lateStores }, { on := 6, ground := Go.Ground.textOnly Go.Departure.lateStores }, { on := 7, ground := Go.Ground.textOnly Go.Departure.lateStores }, { on := 8, ground := Go.Ground.textOnly Go.Departure.lateStores }, { on := 9, ground := Go.Ground.textOnly Go.Departure.lateStores }, { on := 10, ground := Go.Ground.textOnly Go.Departure.lateStores }, { on := 11, ground := Go.Ground.textOnly Go.Departure.lateStores }, { on := 12, ground := Go.Ground.textOnly Go.Departure.lateStores }, { on := 13, ground := Go.Ground.textOnly Go.Departure.lateStores }, { on := 14, ground := Go.Ground.textOnly Go.Departure.lateStores }, { on := 15, ground := Go.Ground.textOnly Go.Departure.lateStores }, { on := 16, ground := Go.Ground.textOnly Go.Departure.lateStores }, { on := 17, ground := Go.Ground.textOnly Go.Departure.lateStores }, { on := 18, ground := Go.Ground.textOnly Go.Departure.lateStores }, { on := 19, ground := Go.Ground.textOnly Go.Departure.lateStores }, { on := 20, ground := Go.Ground.textOnly Go.Departure.lateStores }, { on := 21, ground := Go.Ground.textOnly Go.Departure.lateStores }, { on := 22, ground := Go.Ground.textOnly Go.Departure.lateStores }, { on := 23, ground := Go.Ground.textOnly Go.Departure.lateStores }], guard := none }) rfl (fun K' hK => ?_) AllReadyH.nil
      rw [if_pos (by rfl)]
      obtain ⟨x0, x1, x2, x3, x4, x5, x6, x7, x8, x9, xa, xb, xc, xd⟩ := zc
      go_simp
      refine hK.out _ _ (HH0.out.setCell (p := ⟨q, 0, none⟩) (Nat.le_refl _) _) (fun hHeld1 => ?_)
      clear hK K' hHeld
      have hHeld := hHeld1
      clear hHeld1
      try simp only [Act.put, List.setIfInBounds_toArray, List.set_cons_zero, List.set_cons_succ]
      clear x0 x1 x2 x3 x4 x5 x6 x7 x8 x9 xa xb xc xd zf
      generalize V0.setCell ⟨q, 0, none⟩ (.slice y0.aN y0.lN y0.cN) = V1 at hHeld HE0 ⊢
      have HD1 := Lib.hid HE0.out
      clear HE0 HD0
      refine wpAnyH_take (i := 26) (oi := { dst := some 45, op := Go.Op.fieldAddr 27 (Go.Operand.tmp 9) 2, type := 0, pos := "law.go:48", after := #[{ on := 0, ground := Go.Ground.phase }, { on := 1, ground := Go.Ground.phase }, { on := 2, ground := Go.Ground.phase }, { on := 3, ground := Go.Ground.phase }, { on := 4, ground := Go.Ground.phase }, { on := 5, ground := Go.Ground.phase }, { on := 6, ground := Go.Ground.phase }, { on := 7, ground := Go.Ground.phase }, { on := 8, ground := Go.Ground.textOnly Go.Departure.lateStores }, { on := 9, ground := Go.Ground.textOnly Go.Departure.lateStores }, { on := 10, ground := Go.Ground.textOnly Go.Departure.lateStores }, { on := 11, ground := Go.Ground.textOnly Go.Departure.lateStores }, { on := 12, ground := Go.Ground.textOnly Go.Departure.lateStores }, { on := 13, ground := Go.Ground.textOnly Go.Departure.lateStores }, { on := 14, ground := Go.Ground.textOnly Go.Departure.lateStores }, { on := 15, ground := Go.Ground.textOnly Go.Departure.lateStores }, { on := 16, ground := Go.Ground.textOnly Go.Departure.lateStores }, { on := 17, ground := Go.Ground.textOnly Go.Departure.lateStores }, { on := 18, ground := Go.Ground.textOnly Go.Departure.lateStores }, { on := 19, ground := Go.Ground.textOnly Go.Departure.lateStores }, { on := 20, ground := Go.Ground.textOnly Go.Departure.lateStores }, { on := 21, ground := Go.Ground.textOnly Go.Departure.lateStores }, { on := 22, ground := Go.Ground.textOnly Go.Departure.lateStores }, { on := 23, ground := Go.Ground.textOnly Go.Departure.lateStores }, { on := 24, ground := Go.Ground.phase }, { on := 25, ground := Go.Ground.phase }], guard := none }) (v := ?v26p26) rfl (by kernel_rfl) (by kernel_rfl) (by kernel_rfl) (fun _ _ _ h => h) (Or.inl ⟨by rfl, ?hy26p26⟩) hHeld ?rest26p26
      case hy26p26 =>
        intro W' hV
        try dsimp only at hV
        go_simp
        all_goals with_reducible rfl
      case' rest26p26 => try simp only [Act.put, List.setIfInBounds_toArray, List.set_cons_zero, List.set_cons_succ]
      have zc := cell14 HD1.out
      have zf := frozen_of_row V1 q 2 _ _ HD1.out
      have HH1 := Lib.hid hHeld
      have HE1 := Lib.hid (show (V1.setCell ⟨q, 2, none⟩ (.int .u8 y0.P.n)).heap[q]? = some (.cells #[.slice y0.aN y0.lN y0.cN, .int .u8 y.P.p, .int .u8 y0.P.n, .int .u8 y.P.t, .int .u8 y.P.m, .int .u8 y.P.c, .int .u32 y.P.bl, .int .u32 y.P.bo, .int .u32 y.P.ep, .slice y.aI y.lI y.cI, .int .u32 y.P.rf, .int .u32 y.P.sc, .int .u8 y.P.tg, .int .u32 y.P.rs] 27 (0, 0)) from heap_setCell_same V1 q 2 _ _ _ HD1.out)
      refine wpAnyH_ready (rs := [27]) (by kernel_rfl) (by simp) ?_
      refine AllReadyH.cons (o := { dst := none, op := Go.Op.store 5 (Go.Operand.tmp 45) (Go.Operand.tmp 27), type := 0, pos := "law.go:48", after := #[{ on := 26, ground := Go.Ground.data }, { on := 7, ground := Go.Ground.data }, { on := 25, ground := Go.Ground.chain }, { on := 0, ground := Go.Ground.phase }, { on := 1, ground := Go.Ground.phase }, { on := 2, ground := Go.Ground.phase }, { on := 3, ground := Go.Ground.phase }, { on := 4, ground := Go.Ground.phase }, { on := 5, ground := Go.Ground.phase }, { on := 6, ground := Go.Ground.phase }, { on := 7, ground := Go.Ground.phase }, { on := 8, ground := Go.Ground.textOnly Go.Departure.lateStores }, { on := 9, ground := Go.Ground.textOnly Go.Departure.lateStores }, { on := 10, ground := Go.Ground.textOnly Go.Departure.lateStores }, { on := 11, ground := Go.Ground.textOnly Go.Departure.lateStores }, { on := 12, ground := Go.Ground.textOnly Go.Departure.lateStores }, { on := 13, ground := Go.Ground.textOnly Go.Departure.lateStores }, { on := 14, ground := Go.Ground.textOnly Go.Departure.lateStores }, { on := 15, ground := Go.Ground.textOnly Go.Departure.lateStores }, { on := 16, ground := Go.Ground.textOnly Go.Departure.lateStores }, { on := 17, ground := Go.Ground.textOnly Go.Departure.lateStores }, { on := 18, ground := Go.Ground.textOnly Go.Departure.lateStores }, { on := 19, ground := Go.Ground.textOnly Go.Departure.lateStores }, { on := 20, ground := Go.Ground.textOnly Go.Departure.lateStores }, { on := 21, ground := Go.Ground.textOnly Go.Departure.lateStores }, { on := 22, ground := Go.Ground.textOnly Go.Departure.lateStores }, { on := 23, ground := Go.Ground.textOnly Go.Departure.lateStores }, { on := 24, ground := Go.Ground.phase }, { on := 25, ground := Go.Ground.phase }], guard := none }) rfl (fun K' hK => ?_) AllReadyH.nil
      rw [if_pos (by rfl)]
      obtain ⟨x0, x1, x2, x3, x4, x5, x6, x7, x8, x9, xa, xb, xc, xd⟩ := zc
      go_simp
      refine hK.out _ _ (HH1.out.setCell (p := ⟨q, 2, none⟩) (Nat.le_refl _) _) (fun hHeld1 => ?_)
      clear hK K' hHeld
      have hHeld := hHeld1
      clear hHeld1
      try simp only [Act.put, List.setIfInBounds_toArray, List.set_cons_zero, List.set_cons_succ]
      clear x0 x1 x2 x3 x4 x5 x6 x7 x8 x9 xa xb xc xd zf
      generalize V1.setCell ⟨q, 2, none⟩ (.int .u8 y0.P.n) = V2 at hHeld HE1 ⊢
      have HD2 := Lib.hid HE1.out
      clear HE1 HD1
      refine wpAnyH_take (i := 28) (oi := { dst := some 46, op := Go.Op.fieldAddr 27 (Go.Operand.tmp 9) 3, type := 0, pos := "law.go:48", after := #[{ on := 0, ground := Go.Ground.phase }, { on := 1, ground := Go.Ground.phase }, { on := 2, ground := Go.Ground.phase }, { on := 3, ground := Go.Ground.phase }, { on := 4, ground := Go.Ground.phase }, { on := 5, ground := Go.Ground.phase }, { on := 6, ground := Go.Ground.phase }, { on := 7, ground := Go.Ground.phase }, { on := 8, ground := Go.Ground.phase }, { on := 9, ground := Go.Ground.phase }, { on := 10, ground := Go.Ground.phase }, { on := 11, ground := Go.Ground.phase }, { on := 12, ground := Go.Ground.textOnly Go.Departure.lateStores }, { on := 13, ground := Go.Ground.textOnly Go.Departure.lateStores }, { on := 14, ground := Go.Ground.textOnly Go.Departure.lateStores }, { on := 15, ground := Go.Ground.textOnly Go.Departure.lateStores }, { on := 16, ground := Go.Ground.textOnly Go.Departure.lateStores }, { on := 17, ground := Go.Ground.textOnly Go.Departure.lateStores }, { on := 18, ground := Go.Ground.textOnly Go.Departure.lateStores }, { on := 19, ground := Go.Ground.textOnly Go.Departure.lateStores }, { on := 20, ground := Go.Ground.textOnly Go.Departure.lateStores }, { on := 21, ground := Go.Ground.textOnly Go.Departure.lateStores }, { on := 22, ground := Go.Ground.textOnly Go.Departure.lateStores }, { on := 23, ground := Go.Ground.textOnly Go.Departure.lateStores }, { on := 24, ground := Go.Ground.phase }, { on := 25, ground := Go.Ground.phase }, { on := 26, ground := Go.Ground.phase }, { on := 27, ground := Go.Ground.phase }], guard := none }) (v := ?v28p27) rfl (by kernel_rfl) (by kernel_rfl) (by kernel_rfl) (fun _ _ _ h => h) (Or.inl ⟨by rfl, ?hy28p27⟩) hHeld ?rest28p27
      case hy28p27 =>
        intro W' hV
        try dsimp only at hV
        go_simp
        all_goals with_reducible rfl
      case' rest28p27 => try simp only [Act.put, List.setIfInBounds_toArray, List.set_cons_zero, List.set_cons_succ]
      have zc := cell14 HD2.out
      have zf := frozen_of_row V2 q 3 _ _ HD2.out
      have HH2 := Lib.hid hHeld
      have HE2 := Lib.hid (show (V2.setCell ⟨q, 3, none⟩ (.int .u8 y0.P.t)).heap[q]? = some (.cells #[.slice y0.aN y0.lN y0.cN, .int .u8 y.P.p, .int .u8 y0.P.n, .int .u8 y0.P.t, .int .u8 y.P.m, .int .u8 y.P.c, .int .u32 y.P.bl, .int .u32 y.P.bo, .int .u32 y.P.ep, .slice y.aI y.lI y.cI, .int .u32 y.P.rf, .int .u32 y.P.sc, .int .u8 y.P.tg, .int .u32 y.P.rs] 27 (0, 0)) from heap_setCell_same V2 q 3 _ _ _ HD2.out)
      refine wpAnyH_ready (rs := [29]) (by kernel_rfl) (by simp) ?_
      refine AllReadyH.cons (o := { dst := none, op := Go.Op.store 5 (Go.Operand.tmp 46) (Go.Operand.tmp 31), type := 0, pos := "law.go:48", after := #[{ on := 28, ground := Go.Ground.data }, { on := 11, ground := Go.Ground.data }, { on := 27, ground := Go.Ground.chain }, { on := 0, ground := Go.Ground.phase }, { on := 1, ground := Go.Ground.phase }, { on := 2, ground := Go.Ground.phase }, { on := 3, ground := Go.Ground.phase }, { on := 4, ground := Go.Ground.phase }, { on := 5, ground := Go.Ground.phase }, { on := 6, ground := Go.Ground.phase }, { on := 7, ground := Go.Ground.phase }, { on := 8, ground := Go.Ground.phase }, { on := 9, ground := Go.Ground.phase }, { on := 10, ground := Go.Ground.phase }, { on := 11, ground := Go.Ground.phase }, { on := 12, ground := Go.Ground.textOnly Go.Departure.lateStores }, { on := 13, ground := Go.Ground.textOnly Go.Departure.lateStores }, { on := 14, ground := Go.Ground.textOnly Go.Departure.lateStores }, { on := 15, ground := Go.Ground.textOnly Go.Departure.lateStores }, { on := 16, ground := Go.Ground.textOnly Go.Departure.lateStores }, { on := 17, ground := Go.Ground.textOnly Go.Departure.lateStores }, { on := 18, ground := Go.Ground.textOnly Go.Departure.lateStores }, { on := 19, ground := Go.Ground.textOnly Go.Departure.lateStores }, { on := 20, ground := Go.Ground.textOnly Go.Departure.lateStores }, { on := 21, ground := Go.Ground.textOnly Go.Departure.lateStores }, { on := 22, ground := Go.Ground.textOnly Go.Departure.lateStores }, { on := 23, ground := Go.Ground.textOnly Go.Departure.lateStores }, { on := 24, ground := Go.Ground.phase }, { on := 25, ground := Go.Ground.phase }, { on := 26, ground := Go.Ground.phase }, { on := 27, ground := Go.Ground.phase }], guard := none }) rfl (fun K' hK => ?_) AllReadyH.nil
      rw [if_pos (by rfl)]
      obtain ⟨x0, x1, x2, x3, x4, x5, x6, x7, x8, x9, xa, xb, xc, xd⟩ := zc
      go_simp
      refine hK.out _ _ (HH2.out.setCell (p := ⟨q, 3, none⟩) (Nat.le_refl _) _) (fun hHeld1 => ?_)
      clear hK K' hHeld
      have hHeld := hHeld1
      clear hHeld1
      try simp only [Act.put, List.setIfInBounds_toArray, List.set_cons_zero, List.set_cons_succ]
      clear x0 x1 x2 x3 x4 x5 x6 x7 x8 x9 xa xb xc xd zf
      generalize V2.setCell ⟨q, 3, none⟩ (.int .u8 y0.P.t) = V3 at hHeld HE2 ⊢
      have HD3 := Lib.hid HE2.out
      clear HE2 HD2
      refine wpAnyH_take (i := 30) (oi := { dst := some 47, op := Go.Op.fieldAddr 27 (Go.Operand.tmp 9) 4, type := 0, pos := "law.go:48", after := #[{ on := 0, ground := Go.Ground.phase }, { on := 1, ground := Go.Ground.phase }, { on := 2, ground := Go.Ground.phase }, { on := 3, ground := Go.Ground.phase }, { on := 4, ground := Go.Ground.phase }, { on := 5, ground := Go.Ground.phase }, { on := 6, ground := Go.Ground.phase }, { on := 7, ground := Go.Ground.phase }, { on := 8, ground := Go.Ground.phase }, { on := 9, ground := Go.Ground.phase }, { on := 10, ground := Go.Ground.phase }, { on := 11, ground := Go.Ground.phase }, { on := 12, ground := Go.Ground.phase }, { on := 13, ground := Go.Ground.phase }, { on := 14, ground := Go.Ground.phase }, { on := 15, ground := Go.Ground.phase }, { on := 16, ground := Go.Ground.textOnly Go.Departure.lateStores }, { on := 17, ground := Go.Ground.textOnly Go.Departure.lateStores }, { on := 18, ground := Go.Ground.textOnly Go.Departure.lateStores }, { on := 19, ground := Go.Ground.textOnly Go.Departure.lateStores }, { on := 20, ground := Go.Ground.textOnly Go.Departure.lateStores }, { on := 21, ground := Go.Ground.textOnly Go.Departure.lateStores }, { on := 22, ground := Go.Ground.textOnly Go.Departure.lateStores }, { on := 23, ground := Go.Ground.textOnly Go.Departure.lateStores }, { on := 24, ground := Go.Ground.phase }, { on := 25, ground := Go.Ground.phase }, { on := 26, ground := Go.Ground.phase }, { on := 27, ground := Go.Ground.phase }, { on := 28, ground := Go.Ground.phase }, { on := 29, ground := Go.Ground.phase }], guard := none }) (v := ?v30p28) rfl (by kernel_rfl) (by kernel_rfl) (by kernel_rfl) (fun _ _ _ h => h) (Or.inl ⟨by rfl, ?hy30p28⟩) hHeld ?rest30p28
      case hy30p28 =>
        intro W' hV
        try dsimp only at hV
        go_simp
        all_goals with_reducible rfl
      case' rest30p28 => try simp only [Act.put, List.setIfInBounds_toArray, List.set_cons_zero, List.set_cons_succ]
      have zc := cell14 HD3.out
      have zf := frozen_of_row V3 q 4 _ _ HD3.out
      have HH3 := Lib.hid hHeld
      have HE3 := Lib.hid (show (V3.setCell ⟨q, 4, none⟩ (.int .u8 y0.P.m)).heap[q]? = some (.cells #[.slice y0.aN y0.lN y0.cN, .int .u8 y.P.p, .int .u8 y0.P.n, .int .u8 y0.P.t, .int .u8 y0.P.m, .int .u8 y.P.c, .int .u32 y.P.bl, .int .u32 y.P.bo, .int .u32 y.P.ep, .slice y.aI y.lI y.cI, .int .u32 y.P.rf, .int .u32 y.P.sc, .int .u8 y.P.tg, .int .u32 y.P.rs] 27 (0, 0)) from heap_setCell_same V3 q 4 _ _ _ HD3.out)
      refine wpAnyH_ready (rs := [31]) (by kernel_rfl) (by simp) ?_
      refine AllReadyH.cons (o := { dst := none, op := Go.Op.store 5 (Go.Operand.tmp 47) (Go.Operand.tmp 35), type := 0, pos := "law.go:48", after := #[{ on := 30, ground := Go.Ground.data }, { on := 15, ground := Go.Ground.data }, { on := 29, ground := Go.Ground.chain }, { on := 0, ground := Go.Ground.phase }, { on := 1, ground := Go.Ground.phase }, { on := 2, ground := Go.Ground.phase }, { on := 3, ground := Go.Ground.phase }, { on := 4, ground := Go.Ground.phase }, { on := 5, ground := Go.Ground.phase }, { on := 6, ground := Go.Ground.phase }, { on := 7, ground := Go.Ground.phase }, { on := 8, ground := Go.Ground.phase }, { on := 9, ground := Go.Ground.phase }, { on := 10, ground := Go.Ground.phase }, { on := 11, ground := Go.Ground.phase }, { on := 12, ground := Go.Ground.phase }, { on := 13, ground := Go.Ground.phase }, { on := 14, ground := Go.Ground.phase }, { on := 15, ground := Go.Ground.phase }, { on := 16, ground := Go.Ground.textOnly Go.Departure.lateStores }, { on := 17, ground := Go.Ground.textOnly Go.Departure.lateStores }, { on := 18, ground := Go.Ground.textOnly Go.Departure.lateStores }, { on := 19, ground := Go.Ground.textOnly Go.Departure.lateStores }, { on := 20, ground := Go.Ground.textOnly Go.Departure.lateStores }, { on := 21, ground := Go.Ground.textOnly Go.Departure.lateStores }, { on := 22, ground := Go.Ground.textOnly Go.Departure.lateStores }, { on := 23, ground := Go.Ground.textOnly Go.Departure.lateStores }, { on := 24, ground := Go.Ground.phase }, { on := 25, ground := Go.Ground.phase }, { on := 26, ground := Go.Ground.phase }, { on := 27, ground := Go.Ground.phase }, { on := 28, ground := Go.Ground.phase }, { on := 29, ground := Go.Ground.phase }], guard := none }) rfl (fun K' hK => ?_) AllReadyH.nil
      rw [if_pos (by rfl)]
      obtain ⟨x0, x1, x2, x3, x4, x5, x6, x7, x8, x9, xa, xb, xc, xd⟩ := zc
      go_simp
      refine hK.out _ _ (HH3.out.setCell (p := ⟨q, 4, none⟩) (Nat.le_refl _) _) (fun hHeld1 => ?_)
      clear hK K' hHeld
      have hHeld := hHeld1
      clear hHeld1
      try simp only [Act.put, List.setIfInBounds_toArray, List.set_cons_zero, List.set_cons_succ]
      clear x0 x1 x2 x3 x4 x5 x6 x7 x8 x9 xa xb xc xd zf
      generalize V3.setCell ⟨q, 4, none⟩ (.int .u8 y0.P.m) = V4 at hHeld HE3 ⊢
      have HD4 := Lib.hid HE3.out
      clear HE3 HD3
      refine wpAnyH_take (i := 32) (oi := { dst := some 48, op := Go.Op.fieldAddr 27 (Go.Operand.tmp 9) 5, type := 0, pos := "law.go:48", after := #[{ on := 0, ground := Go.Ground.phase }, { on := 1, ground := Go.Ground.phase }, { on := 2, ground := Go.Ground.phase }, { on := 3, ground := Go.Ground.phase }, { on := 4, ground := Go.Ground.phase }, { on := 5, ground := Go.Ground.phase }, { on := 6, ground := Go.Ground.phase }, { on := 7, ground := Go.Ground.phase }, { on := 8, ground := Go.Ground.phase }, { on := 9, ground := Go.Ground.phase }, { on := 10, ground := Go.Ground.phase }, { on := 11, ground := Go.Ground.phase }, { on := 12, ground := Go.Ground.phase }, { on := 13, ground := Go.Ground.phase }, { on := 14, ground := Go.Ground.phase }, { on := 15, ground := Go.Ground.phase }, { on := 16, ground := Go.Ground.phase }, { on := 17, ground := Go.Ground.phase }, { on := 18, ground := Go.Ground.phase }, { on := 19, ground := Go.Ground.phase }, { on := 20, ground := Go.Ground.textOnly Go.Departure.lateStores }, { on := 21, ground := Go.Ground.textOnly Go.Departure.lateStores }, { on := 22, ground := Go.Ground.textOnly Go.Departure.lateStores }, { on := 23, ground := Go.Ground.textOnly Go.Departure.lateStores }, { on := 24, ground := Go.Ground.phase }, { on := 25, ground := Go.Ground.phase }, { on := 26, ground := Go.Ground.phase }, { on := 27, ground := Go.Ground.phase }, { on := 28, ground := Go.Ground.phase }, { on := 29, ground := Go.Ground.phase }, { on := 30, ground := Go.Ground.phase }, { on := 31, ground := Go.Ground.phase }], guard := none }) (v := ?v32p29) rfl (by kernel_rfl) (by kernel_rfl) (by kernel_rfl) (fun _ _ _ h => h) (Or.inl ⟨by rfl, ?hy32p29⟩) hHeld ?rest32p29
      case hy32p29 =>
        intro W' hV
        try dsimp only at hV
        go_simp
        all_goals with_reducible rfl
      case' rest32p29 => try simp only [Act.put, List.setIfInBounds_toArray, List.set_cons_zero, List.set_cons_succ]
      have zc := cell14 HD4.out
      have zf := frozen_of_row V4 q 5 _ _ HD4.out
      have HH4 := Lib.hid hHeld
      have HE4 := Lib.hid (show (V4.setCell ⟨q, 5, none⟩ (.int .u8 y0.P.c)).heap[q]? = some (.cells #[.slice y0.aN y0.lN y0.cN, .int .u8 y.P.p, .int .u8 y0.P.n, .int .u8 y0.P.t, .int .u8 y0.P.m, .int .u8 y0.P.c, .int .u32 y.P.bl, .int .u32 y.P.bo, .int .u32 y.P.ep, .slice y.aI y.lI y.cI, .int .u32 y.P.rf, .int .u32 y.P.sc, .int .u8 y.P.tg, .int .u32 y.P.rs] 27 (0, 0)) from heap_setCell_same V4 q 5 _ _ _ HD4.out)
      refine wpAnyH_ready (rs := [33]) (by kernel_rfl) (by simp) ?_
      refine AllReadyH.cons (o := { dst := none, op := Go.Op.store 5 (Go.Operand.tmp 48) (Go.Operand.tmp 39), type := 0, pos := "law.go:48", after := #[{ on := 32, ground := Go.Ground.data }, { on := 19, ground := Go.Ground.data }, { on := 31, ground := Go.Ground.chain }, { on := 0, ground := Go.Ground.phase }, { on := 1, ground := Go.Ground.phase }, { on := 2, ground := Go.Ground.phase }, { on := 3, ground := Go.Ground.phase }, { on := 4, ground := Go.Ground.phase }, { on := 5, ground := Go.Ground.phase }, { on := 6, ground := Go.Ground.phase }, { on := 7, ground := Go.Ground.phase }, { on := 8, ground := Go.Ground.phase }, { on := 9, ground := Go.Ground.phase }, { on := 10, ground := Go.Ground.phase }, { on := 11, ground := Go.Ground.phase }, { on := 12, ground := Go.Ground.phase }, { on := 13, ground := Go.Ground.phase }, { on := 14, ground := Go.Ground.phase }, { on := 15, ground := Go.Ground.phase }, { on := 16, ground := Go.Ground.phase }, { on := 17, ground := Go.Ground.phase }, { on := 18, ground := Go.Ground.phase }, { on := 19, ground := Go.Ground.phase }, { on := 20, ground := Go.Ground.textOnly Go.Departure.lateStores }, { on := 21, ground := Go.Ground.textOnly Go.Departure.lateStores }, { on := 22, ground := Go.Ground.textOnly Go.Departure.lateStores }, { on := 23, ground := Go.Ground.textOnly Go.Departure.lateStores }, { on := 24, ground := Go.Ground.phase }, { on := 25, ground := Go.Ground.phase }, { on := 26, ground := Go.Ground.phase }, { on := 27, ground := Go.Ground.phase }, { on := 28, ground := Go.Ground.phase }, { on := 29, ground := Go.Ground.phase }, { on := 30, ground := Go.Ground.phase }, { on := 31, ground := Go.Ground.phase }], guard := none }) rfl (fun K' hK => ?_) AllReadyH.nil
      rw [if_pos (by rfl)]
      obtain ⟨x0, x1, x2, x3, x4, x5, x6, x7, x8, x9, xa, xb, xc, xd⟩ := zc
      go_simp
      refine hK.out _ _ (HH4.out.setCell (p := ⟨q, 5, none⟩) (Nat.le_refl _) _) (fun hHeld1 => ?_)
      clear hK K' hHeld
      have hHeld := hHeld1
      clear hHeld1
      try simp only [Act.put, List.setIfInBounds_toArray, List.set_cons_zero, List.set_cons_succ]
      clear x0 x1 x2 x3 x4 x5 x6 x7 x8 x9 xa xb xc xd zf
      generalize V4.setCell ⟨q, 5, none⟩ (.int .u8 y0.P.c) = V5 at hHeld HE4 ⊢
      have HD5 := Lib.hid HE4.out
      clear HE4 HD4
      refine wpAnyH_take (i := 34) (oi := { dst := some 49, op := Go.Op.fieldAddr 27 (Go.Operand.tmp 9) 6, type := 0, pos := "law.go:48", after := #[{ on := 0, ground := Go.Ground.phase }, { on := 1, ground := Go.Ground.phase }, { on := 2, ground := Go.Ground.phase }, { on := 3, ground := Go.Ground.phase }, { on := 4, ground := Go.Ground.phase }, { on := 5, ground := Go.Ground.phase }, { on := 6, ground := Go.Ground.phase }, { on := 7, ground := Go.Ground.phase }, { on := 8, ground := Go.Ground.phase }, { on := 9, ground := Go.Ground.phase }, { on := 10, ground := Go.Ground.phase }, { on := 11, ground := Go.Ground.phase }, { on := 12, ground := Go.Ground.phase }, { on := 13, ground := Go.Ground.phase }, { on := 14, ground := Go.Ground.phase }, { on := 15, ground := Go.Ground.phase }, { on := 16, ground := Go.Ground.phase }, { on := 17, ground := Go.Ground.phase }, { on := 18, ground := Go.Ground.phase }, { on := 19, ground := Go.Ground.phase }, { on := 20, ground := Go.Ground.phase }, { on := 21, ground := Go.Ground.phase }, { on := 22, ground := Go.Ground.phase }, { on := 23, ground := Go.Ground.phase }, { on := 24, ground := Go.Ground.phase }, { on := 25, ground := Go.Ground.phase }, { on := 26, ground := Go.Ground.phase }, { on := 27, ground := Go.Ground.phase }, { on := 28, ground := Go.Ground.phase }, { on := 29, ground := Go.Ground.phase }, { on := 30, ground := Go.Ground.phase }, { on := 31, ground := Go.Ground.phase }, { on := 32, ground := Go.Ground.phase }, { on := 33, ground := Go.Ground.phase }], guard := none }) (v := ?v34p30) rfl (by kernel_rfl) (by kernel_rfl) (by kernel_rfl) (fun _ _ _ h => h) (Or.inl ⟨by rfl, ?hy34p30⟩) hHeld ?rest34p30
      case hy34p30 =>
        intro W' hV
        try dsimp only at hV
        go_simp
        all_goals with_reducible rfl
      case' rest34p30 => try simp only [Act.put, List.setIfInBounds_toArray, List.set_cons_zero, List.set_cons_succ]
      have zc := cell14 HD5.out
      have zf := frozen_of_row V5 q 6 _ _ HD5.out
      have HH5 := Lib.hid hHeld
      have HE5 := Lib.hid (show (V5.setCell ⟨q, 6, none⟩ (.int .u32 y0.P.bl)).heap[q]? = some (.cells #[.slice y0.aN y0.lN y0.cN, .int .u8 y.P.p, .int .u8 y0.P.n, .int .u8 y0.P.t, .int .u8 y0.P.m, .int .u8 y0.P.c, .int .u32 y0.P.bl, .int .u32 y.P.bo, .int .u32 y.P.ep, .slice y.aI y.lI y.cI, .int .u32 y.P.rf, .int .u32 y.P.sc, .int .u8 y.P.tg, .int .u32 y.P.rs] 27 (0, 0)) from heap_setCell_same V5 q 6 _ _ _ HD5.out)
      refine wpAnyH_ready (rs := [35]) (by kernel_rfl) (by simp) ?_
      refine AllReadyH.cons (o := { dst := none, op := Go.Op.store 25 (Go.Operand.tmp 49) (Go.Operand.tmp 43), type := 0, pos := "law.go:48", after := #[{ on := 34, ground := Go.Ground.data }, { on := 23, ground := Go.Ground.data }, { on := 33, ground := Go.Ground.chain }, { on := 0, ground := Go.Ground.phase }, { on := 1, ground := Go.Ground.phase }, { on := 2, ground := Go.Ground.phase }, { on := 3, ground := Go.Ground.phase }, { on := 4, ground := Go.Ground.phase }, { on := 5, ground := Go.Ground.phase }, { on := 6, ground := Go.Ground.phase }, { on := 7, ground := Go.Ground.phase }, { on := 8, ground := Go.Ground.phase }, { on := 9, ground := Go.Ground.phase }, { on := 10, ground := Go.Ground.phase }, { on := 11, ground := Go.Ground.phase }, { on := 12, ground := Go.Ground.phase }, { on := 13, ground := Go.Ground.phase }, { on := 14, ground := Go.Ground.phase }, { on := 15, ground := Go.Ground.phase }, { on := 16, ground := Go.Ground.phase }, { on := 17, ground := Go.Ground.phase }, { on := 18, ground := Go.Ground.phase }, { on := 19, ground := Go.Ground.phase }, { on := 20, ground := Go.Ground.phase }, { on := 21, ground := Go.Ground.phase }, { on := 22, ground := Go.Ground.phase }, { on := 23, ground := Go.Ground.phase }, { on := 24, ground := Go.Ground.phase }, { on := 25, ground := Go.Ground.phase }, { on := 26, ground := Go.Ground.phase }, { on := 27, ground := Go.Ground.phase }, { on := 28, ground := Go.Ground.phase }, { on := 29, ground := Go.Ground.phase }, { on := 30, ground := Go.Ground.phase }, { on := 31, ground := Go.Ground.phase }, { on := 32, ground := Go.Ground.phase }, { on := 33, ground := Go.Ground.phase }], guard := none }) rfl (fun K' hK => ?_) AllReadyH.nil
      rw [if_pos (by rfl)]
      obtain ⟨x0, x1, x2, x3, x4, x5, x6, x7, x8, x9, xa, xb, xc, xd⟩ := zc
      go_simp
      refine hK.out _ _ (HH5.out.setCell (p := ⟨q, 6, none⟩) (Nat.le_refl _) _) (fun hHeld1 => ?_)
      clear hK K' hHeld
      have hHeld := hHeld1
      clear hHeld1
      try simp only [Act.put, List.setIfInBounds_toArray, List.set_cons_zero, List.set_cons_succ]
      clear x0 x1 x2 x3 x4 x5 x6 x7 x8 x9 xa xb xc xd zf
      generalize V5.setCell ⟨q, 6, none⟩ (.int .u32 y0.P.bl) = V6 at hHeld HE5 ⊢
      have HD6 := Lib.hid HE5.out
      clear HE5 HD5
      have HB7 := Lib.hid hHeld
      refine wpAnyH_done (by kernel_rfl) ?_ _
      clear hHeld
      have HB8 := Lib.hid (show Below q wo V6 from HB7.out)
      obtain ⟨kk, hkk⟩ : ∃ kk, kk = (k : Int) + 1 := ⟨_, rfl⟩
      have HKK := Lib.hid (show kk = ((k + 1 : Nat) : Int) by omega)
      have hk1 : (k : Int) + 1 = kk := hkk.symm
      have hk2 : IntKind.u8.wrap kk = kk := by rw [IntKind.wrap_u8]; omega
      have zf := frozen_of_row V6 q 1 _ _ HD6.out
      obtain ⟨x0, x1, x2, x3, x4, x5, x6, x7, x8, x9, xa, xb, xc, xd⟩ := cell14 HD6.out
      have HE6 := Lib.hid (show (V6.setCell ⟨q, 1, none⟩ (.int .u8 kk)).heap[q]? = some (.cells #[.slice y0.aN y0.lN y0.cN, .int .u8 kk, .int .u8 y0.P.n, .int .u8 y0.P.t, .int .u8 y0.P.m, .int .u8 y0.P.c, .int .u32 y0.P.bl, .int .u32 y.P.bo, .int .u32 y.P.ep, .slice y.aI y.lI y.cI, .int .u32 y.P.rf, .int .u32 y.P.sc, .int .u8 y.P.tg, .int .u32 y.P.rs] 27 (0, 0)) from heap_setCell_same V6 q 1 _ _ _ HD6.out)
      have HB9 := Lib.hid (show Below q wo (V6.setCell ⟨q, 1, none⟩ (.int .u8 kk)) from HB8.out.setCell (p := ⟨q, 1, none⟩) (Nat.le_refl _) _)
      clear hkk x0 x2 x3 x4 x5 x6 x7 x8 x9 xa xb xc xd
      go_upto_region 9 with fail
      clear x1 zf hk1 hk2
      generalize V6.setCell ⟨q, 1, none⟩ (.int .u8 kk) = V7 at HE6 HB9 ⊢
      obtain ⟨sF, hsF⟩ : ∃ s : Array Value, s = #[.slice y0.aN y0.lN y0.cN, .int .u8 kk, .int .u8 y0.P.n, .int .u8 y0.P.t, .int .u8 y0.P.m, .int .u8 y0.P.c, .int .u32 y0.P.bl, .int .u32 y.P.bo, .int .u32 y.P.ep, .slice y.aI y.lI y.cI, .int .u32 y.P.rf, .int .u32 y.P.sc, .int .u8 y.P.tg, .int .u32 y.P.rs] := ⟨_, rfl⟩
      rw [← hsF] at HE6
      have HSF := Lib.hid (show sF.size = 14 by rw [hsF]; rfl)
      obtain ⟨PP, hPP⟩ : ∃ P, P = aliP y0 y k := ⟨_, rfl⟩
      have HQW := Lib.hid (show Below wo.heap.size wo V7 by have h := HB9.out; rw [HQ.out] at h; exact h)
      have HF := Lib.hid (show Calls Try.prog 16 #[.agg sF] V7 fun e w' => (∃ cY : Array Value, e = .returned (.tuple #[suA PP, .agg cY]) ∧ cY.size = 14 ∧ cY.all (·.oneCell') = true) ∧ Below V7.heap.size V7 w' by
        have hy := HYV.out.on HQW.out
        have hy0 := HYV0.out.on HQW.out
        have h := of_new (aliB y0 y k) hy.1 (aliB_wf hy0.2.1 hy.2.1 (by omega)) y0.aN y.aI y0.lN y0.cN y.lI y.cI y0.N y.I V7 hy0.2.2.1 hy.2.2.2 (HI.out y (List.mem_of_getElem? HYK.out))
        rw [hsF, hPP, HKK.out]
        exact h.mono (fun e w' k => by
          obtain ⟨cY, _, _, h1, h2, _, _, h3⟩ := k
          exact ⟨⟨cY, h1, h2⟩, h3⟩))
      have HOF := Lib.hid (show ofK y0 l (k + 1) = ofK y0 l k ++ [PP] by rw [ofK, hPP, List.getD_eq_getElem?_getD, HYK.out]; rfl)
      obtain ⟨sM, hsM⟩ : ∃ s, s = tabV 276 (suV PP) := ⟨_, rfl⟩
      have HSM := Lib.hid (show sM.size = 276 ∧ sM.all (·.oneCell') = true by rw [hsM]; exact ⟨size_tabV _ _, tabV_one (suV_one _)⟩)
      have hMA : suA PP = .agg sM := by rw [hsM]; rfl
      have HMA := Lib.hid hMA
      have HSME := Lib.hid hsM
      rw [hMA] at HF
      clear hsF hPP hsM hMA HD6
      go_upto_region 10 with (first
        | ((with_reducible show wpList _ _ _ (⟨some 55, _, _, _, _, _⟩ :: _) _ _); go_loud (refine wpList_load_row rfl 27 (.tmp 9) rfl q rfl 27 sF (0, 0) _ HE6.out Try.underlying27 rfl (by rw [HSF.out]; exact sizePs) ?_))
        | (go_at_call 16; go_loud ((with_reducible refine HF.out.mono ?_); rintro e w8 ⟨⟨cY, rfl, hc14⟩, hb⟩; have H8 := Lib.hid hb; have HC14 := Lib.hid hc14; clear hb hc14))
        | ((with_reducible show wpList _ _ _ (⟨none, Op.store 35 _ _, _, _, _, _⟩ :: _) _ _); go_loud (refine wpList_store_row rfl 35 (.tmp 10) (.tmp 57) rfl w8.heap.size sM rfl rfl 35 c0 (by rw [heap_alloc_old _ _ (by simp)]; exact heap_alloc_new _ _) (by rw [HSM.out.1]; exact sizeSu) (by rw [HSM.out.1, HC0.out]) HSM.out.2 ?_))
        | ((with_reducible show wpList _ _ _ (⟨none, Op.store 55 _ _, _, _, _, _⟩ :: _) _ _); go_loud (refine wpList_store_row rfl 55 (.tmp 11) (.tmp 58) rfl (w8.heap.size + 1) cY rfl rfl 55 #[.string { data := #[] }, .int .i64 0, .int .i64 0, .int .i64 0, .int .i64 0, .int .i64 0, .int .u64 0, .int .u64 0, .int .u64 0, .slice none 0 0, .int .u64 0, .int .u64 0, .int .i64 0, .int .u64 0] (by rw [setRow_other _ _ _ _ (by omega)]; have := heap_alloc_new (w8.alloc (.cells c0 35)) (.cells #[.string { data := #[] }, .int .i64 0, .int .i64 0, .int .i64 0, .int .i64 0, .int .i64 0, .int .u64 0, .int .u64 0, .int .u64 0, .slice none 0 0, .int .u64 0, .int .u64 0, .int .i64 0, .int .u64 0] 55); rw [size_alloc1] at this; exact this) (by rw [HC14.out.1]; exact sizeRu) (by rw [HC14.out.1]; rfl) HC14.out.2 ?_)))
      obtain ⟨p, hp⟩ : ∃ p, p = w8.heap.size := ⟨_, rfl⟩
      have HP9 := Lib.hid (show ((((w8.alloc (.cells c0 35)).alloc (.cells #[.string { data := #[] }, .int .i64 0, .int .i64 0, .int .i64 0, .int .i64 0, .int .i64 0, .int .u64 0, .int .u64 0, .int .u64 0, .slice none 0 0, .int .u64 0, .int .u64 0, .int .i64 0, .int .u64 0] 55)).setRow w8.heap.size sM).setRow (w8.heap.size + 1) cY).heap[p]? = some (.cells sM 35 (0, 0)) by
        rw [setRow_other _ _ _ _ (by omega), hp]
        exact setRow_heap _ _ c0 _ _ _ (by rw [heap_alloc_old _ _ (by simp)]; exact heap_alloc_new _ _))
      have HR9 := Lib.hid (show ((((w8.alloc (.cells c0 35)).alloc (.cells #[.string { data := #[] }, .int .i64 0, .int .i64 0, .int .i64 0, .int .i64 0, .int .i64 0, .int .u64 0, .int .u64 0, .int .u64 0, .slice none 0 0, .int .u64 0, .int .u64 0, .int .i64 0, .int .u64 0] 55)).setRow w8.heap.size sM).setRow (w8.heap.size + 1) cY).heap[p + 1]? = some (.cells cY 55 (0, 0)) by
        rw [hp]
        exact setRow_heap _ _ #[.string { data := #[] }, .int .i64 0, .int .i64 0, .int .i64 0, .int .i64 0, .int .i64 0, .int .u64 0, .int .u64 0, .int .u64 0, .slice none 0 0, .int .u64 0, .int .u64 0, .int .i64 0, .int .u64 0] _ _ _ (by rw [setRow_other _ _ _ _ (by omega)]; have := heap_alloc_new (w8.alloc (.cells c0 35)) (.cells #[.string { data := #[] }, .int .i64 0, .int .i64 0, .int .i64 0, .int .i64 0, .int .i64 0, .int .u64 0, .int .u64 0, .int .u64 0, .slice none 0 0, .int .u64 0, .int .u64 0, .int .i64 0, .int .u64 0] 55); rw [size_alloc1] at this; exact this))
      have HB10 := Lib.hid (show Below wo.heap.size wo ((((w8.alloc (.cells c0 35)).alloc (.cells #[.string { data := #[] }, .int .i64 0, .int .i64 0, .int .i64 0, .int .i64 0, .int .i64 0, .int .u64 0, .int .u64 0, .int .u64 0, .slice none 0 0, .int .u64 0, .int .u64 0, .int .i64 0, .int .u64 0] 55)).setRow w8.heap.size sM).setRow (w8.heap.size + 1) cY) by
        have h1 := HQW.out.size
        have h2 := H8.out.size
        exact below_setRow (below_setRow (((bt HQW.out H8.out).alloc (by omega) _).alloc (by simp; omega) _) (by omega) _) (by omega) _)
      have HPW := Lib.hid (show wo.heap.size ≤ p by have h1 := HQW.out.size; have h2 := H8.out.size; omega)
      rw [← hp] at HP9 HR9 HB10 ⊢
      clear hp HB9 HE6 HF H8 HQW
      generalize (((w8.alloc (.cells c0 35)).alloc (.cells #[.string { data := #[] }, .int .i64 0, .int .i64 0, .int .i64 0, .int .i64 0, .int .i64 0, .int .u64 0, .int .u64 0, .int .u64 0, .slice none 0 0, .int .u64 0, .int .u64 0, .int .i64 0, .int .u64 0] 55)).setRow p sM).setRow (p + 1) cY = V9 at HP9 HR9 HB10 ⊢
      refine wp_region_held_drew (S := fun W => W.heap[p]? = some (.cells sM 35 (0, 0)) ∧ W.heap[p + 1]? = some (.cells cY 55 (0, 0))) (by kernel_rfl) (show V9.drew.heap[p]? = _ ∧ V9.drew.heap[p + 1]? = _ from ⟨HP9.out, HR9.out⟩) (fun hHeld => ?_)
      have HA0 := Lib.hid (show V9.drew.ownsRow w.heap.size 35 276 (.slice ra k rc) k (rowSU (ofK y0 l k)) from own_blockT HOA.out (fun g e => HB10.out.block g (HOA.out.lt g e).2))
      have HB0 := Lib.hid (show V9.drew.ownsRow w.heap.size 55 14 (.slice rb k rd) k xs from own_blockT HOB.out (fun g e => HB10.out.block g (HOB.out.lt g e).2))
      have HW0 := Lib.hid (show Below w.heap.size w V9.drew from (bt HBN.out HB10.out).drew)
      have HNA := Lib.hid (show ∀ g, (Value.slice ra k rc).ownBlock = some g → g < p from fun g e => by have := (HOA.out.lt g e).2; have := HPW.out; omega)
      have HNB := Lib.hid (show ∀ g, (Value.slice rb k rd).ownBlock = some g → g < p from fun g e => by have := (HOB.out.lt g e).2; have := HPW.out; omega)
      have HL0 := Lib.hid (show p + 1 < V9.drew.heap.size from (Array.getElem?_eq_some_iff.1 HR9.out).1)
      clear HP9 HR9 HB10 HOA HOB
      generalize V9.drew = v0 at hHeld HA0 HB0 HW0 HL0 ⊢
      refine wpAnyH_take (i := 0) (oi := { dst := some 59, op := Go.Op.move (Go.Operand.tmp 6), type := 28, pos := "law.go:52", after := #[], guard := none }) (v := ?v0p31) rfl (by kernel_rfl) (by kernel_rfl) (by kernel_rfl) (fun _ _ _ h => h) (Or.inl ⟨by rfl, ?hy0p31⟩) hHeld ?rest0p31
      case hy0p31 =>
        intro W' hV
        try dsimp only at hV
        go_simp
        all_goals with_reducible rfl
      case' rest0p31 => try simp only [Act.put, List.setIfInBounds_toArray, List.set_cons_zero, List.set_cons_succ]
      refine wpAnyH_take (i := 1) (oi := { dst := some 60, op := Go.Op.load 35 (Go.Operand.tmp 10), type := 35, pos := "law.go:52", after := #[], guard := none }) (v := .agg sM) rfl (by kernel_rfl) (by kernel_rfl) (by kernel_rfl) (fun _ _ _ h => h) (yieldsIf_load_row (by rfl) 35 (.tmp 10) rfl p (by rfl) 35 sM (0, 0) _ (fun W h => h.1) Try.underlying35 rfl (by rw [HSM.out.1]; exact sizeSu)) hHeld ?rest1p32
      case' rest1p32 => try simp only [Act.put, List.setIfInBounds_toArray, List.set_cons_zero, List.set_cons_succ]
      refine wpAnyH_take (i := 4) (oi := { dst := some 63, op := Go.Op.move (Go.Operand.tmp 7), type := 29, pos := "law.go:52", after := #[], guard := none }) (v := ?v4p33) rfl (by kernel_rfl) (by kernel_rfl) (by kernel_rfl) (fun _ _ _ h => h) (Or.inl ⟨by rfl, ?hy4p33⟩) hHeld ?rest4p33
      case hy4p33 =>
        intro W' hV
        try dsimp only at hV
        go_simp
        all_goals with_reducible rfl
      case' rest4p33 => try simp only [Act.put, List.setIfInBounds_toArray, List.set_cons_zero, List.set_cons_succ]
      refine wpAnyH_take (i := 5) (oi := { dst := some 64, op := Go.Op.load 55 (Go.Operand.tmp 11), type := 55, pos := "law.go:52", after := #[], guard := none }) (v := .agg cY) rfl (by kernel_rfl) (by kernel_rfl) (by kernel_rfl) (fun _ _ _ h => h) (yieldsIf_load_row (by rfl) 55 (.tmp 11) rfl (p + 1) (by rfl) 55 cY (0, 0) _ (fun W h => h.2) Try.underlying55 rfl (by rw [HC14.out.1]; exact sizeRu)) hHeld ?rest5p34
      case' rest5p34 => try simp only [Act.put, List.setIfInBounds_toArray, List.set_cons_zero, List.set_cons_succ]
      refine wpAnyH_ready (rs := [2, 6]) (by kernel_rfl) (by simp) ?_
      refine AllReadyH.cons (o := { dst := some 61, op := Go.Op.buildSlice 28 1 #[(0, Go.Operand.tmp 60)], type := 28, pos := "law.go:52", after := #[{ on := 1, ground := Go.Ground.data }], guard := none }) rfl (fun K' hK => ?_) (AllReadyH.cons (o := { dst := some 65, op := Go.Op.buildSlice 29 1 #[(0, Go.Operand.tmp 64)], type := 29, pos := "law.go:52", after := #[{ on := 5, ground := Go.Ground.data }], guard := none }) rfl (fun K' hK => ?_) AllReadyH.nil)
      · rw [if_pos (by rfl)]
        refine wp_build_su (.tmp 60) rfl PP HMA.out.symm ?_
        have HA1 := Lib.hid (HA0.out.alloc (.cells (tabV 276 (suV PP)) 35))
        have HB1 := Lib.hid (HB0.out.alloc (.cells (tabV 276 (suV PP)) 35))
        have HW1 := Lib.hid (HW0.out.alloc HW0.out.size (.cells (tabV 276 (suV PP)) 35))
        have HL1 := Lib.hid (show p + 1 < (v0.alloc (.cells (tabV 276 (suV PP)) 35)).heap.size by have := HL0.out; simp; omega)
        have HGX := Lib.hid (show SuB (v0.alloc (.cells (tabV 276 (suV PP)) 35)) v0.heap.size PP from Blk.made _ _ _ _)
        have HHH := Lib.hid hHeld
        refine hK.out _ _ (show (v0.alloc (.cells (tabV 276 (suV PP)) 35)).heap[p]? = _ ∧ (v0.alloc (.cells (tabV 276 (suV PP)) 35)).heap[p + 1]? = _ from ⟨by rw [heap_alloc_old _ _ (by have := HL0.out; omega)]; exact HHH.out.1, by rw [heap_alloc_old _ _ (by have := HL0.out; omega)]; exact HHH.out.2⟩) (fun hHeld1 => ?_)
        clear hK K' hHeld
        have hHeld := hHeld1
        clear hHeld1
        try simp only [Act.put, List.setIfInBounds_toArray, List.set_cons_zero, List.set_cons_succ]
        clear HHH
        obtain ⟨gx, hgx⟩ : ∃ g, g = v0.heap.size := ⟨_, rfl⟩
        rw [← hgx] at HGX
        try rw [← hgx]
        clear hgx
        generalize v0.alloc (.cells (tabV 276 (suV PP)) 35) = v1 at hHeld HA1 HB1 HW1 HL1 HGX  ⊢
        refine wpAnyH_ready (rs := [3, 6]) (by kernel_rfl) (by simp) ?_
        refine AllReadyH.cons (o := { dst := some 62, op := Go.Op.call { callee := Go.Callee.builtin Go.Builtin.append, args := #[Go.Operand.tmp 59, Go.Operand.tmp 61], argTypes := #[28, 28] }, type := 28, pos := "law.go:52", after := #[{ on := 0, ground := Go.Ground.data }, { on := 2, ground := Go.Ground.data }], guard := none }) rfl (fun K' hK => ?_) (AllReadyH.cons (o := { dst := some 65, op := Go.Op.buildSlice 29 1 #[(0, Go.Operand.tmp 64)], type := 29, pos := "law.go:52", after := #[{ on := 5, ground := Go.Ground.data }], guard := none }) rfl (fun K' hK => ?_) AllReadyH.nil)
        · rw [if_pos (by rfl)]
          refine wp_append_su (.tmp 59) (.tmp 61) rfl w.heap.size (.slice ra k rc) k (ofK y0 l k) rfl HA1.out gx PP rfl HGX.out (by omega) HW1.out.size v1.heap.size rfl ?_
          intro g3 c3 v2 ho3 hg3 hat3 hlt3
          have HA2 := Lib.hid ho3
          have HB2 := Lib.hid (HB1.out.kept hg3 (own_apart HB1.out HA1.out (by decide)))
          have HW2 := Lib.hid (HW1.out.grown hg3 HW1.out.size (fun j e => (HA1.out.lt j e).1))
          have HL2 := Lib.hid (show p + 1 < v2.heap.size from Nat.lt_of_lt_of_le HL1.out hg3.size)
          have HHH := Lib.hid (show v2.heap[p]? = some (.cells sM 35 (0, 0)) ∧ v2.heap[p + 1]? = some (.cells cY 55 (0, 0)) from ⟨(hg3.block p (by have := HL1.out; omega) (fun e => by have := HNA.out p e.symm; omega)).trans hHeld.1, (hg3.block (p + 1) HL1.out (fun e => by have := HNA.out (p + 1) e.symm; omega)).trans hHeld.2⟩)
          clear ho3 hg3 hat3 hlt3 HGX
          refine hK.out _ _ HHH.out (fun hHeld1 => ?_)
          clear hK K' hHeld
          have hHeld := hHeld1
          clear hHeld1
          try simp only [Act.put, List.setIfInBounds_toArray, List.set_cons_zero, List.set_cons_succ]
          clear HHH
          refine wpAnyH_ready (rs := [6]) (by kernel_rfl) (by simp) ?_
          refine AllReadyH.cons (o := { dst := some 65, op := Go.Op.buildSlice 29 1 #[(0, Go.Operand.tmp 64)], type := 29, pos := "law.go:52", after := #[{ on := 5, ground := Go.Ground.data }], guard := none }) rfl (fun K' hK => ?_) AllReadyH.nil
          rw [if_pos (by rfl)]
          refine wp_build_ru (.tmp 64) rfl cY rfl HC14.out.1 ?_
          have HA3 := Lib.hid (HA2.out.alloc (.cells cY 55))
          have HB3 := Lib.hid (HB2.out.alloc (.cells cY 55))
          have HW3 := Lib.hid (HW2.out.alloc HW2.out.size (.cells cY 55))
          have HL3 := Lib.hid (show p + 1 < (v2.alloc (.cells cY 55)).heap.size by have := HL2.out; simp; omega)
          have HGY3 := Lib.hid (show (v2.alloc (.cells cY 55)).heap[v2.heap.size]? = some (.cells cY 55 (0, 0)) from heap_alloc_new _ _)
          have HHH := Lib.hid hHeld
          refine hK.out _ _ (show (v2.alloc (.cells cY 55)).heap[p]? = _ ∧ (v2.alloc (.cells cY 55)).heap[p + 1]? = _ from ⟨by rw [heap_alloc_old _ _ (by have := HL2.out; omega)]; exact HHH.out.1, by rw [heap_alloc_old _ _ (by have := HL2.out; omega)]; exact HHH.out.2⟩) (fun hHeld1 => ?_)
          clear hK K' hHeld
          have hHeld := hHeld1
          clear hHeld1
          try simp only [Act.put, List.setIfInBounds_toArray, List.set_cons_zero, List.set_cons_succ]
          clear HHH
          obtain ⟨gy, hgy⟩ : ∃ g, g = v2.heap.size := ⟨_, rfl⟩
          rw [← hgy] at HGY3
          try rw [← hgy]
          clear hgy
          generalize v2.alloc (.cells cY 55) = v3 at hHeld HA3 HB3 HW3 HL3 HGY3  ⊢
          refine wpAnyH_ready (rs := [7]) (by kernel_rfl) (by simp) ?_
          refine AllReadyH.cons (o := { dst := some 66, op := Go.Op.call { callee := Go.Callee.builtin Go.Builtin.append, args := #[Go.Operand.tmp 63, Go.Operand.tmp 65], argTypes := #[29, 29] }, type := 29, pos := "law.go:52", after := #[{ on := 4, ground := Go.Ground.data }, { on := 6, ground := Go.Ground.data }, { on := 3, ground := Go.Ground.chain }], guard := none }) rfl (fun K' hK => ?_) AllReadyH.nil
          rw [if_pos (by rfl)]
          refine wp_append_ru (.tmp 63) (.tmp 65) rfl w.heap.size (.slice rb k rd) k xs rfl HB3.out gy cY rfl HGY3.out HC14.out (by omega) HW3.out.size v3.heap.size rfl ?_
          intro g7 c7 v4 ho7 hg7 hat7 hlt7
          have HB4 := Lib.hid ho7
          have HA4 := Lib.hid (HA3.out.kept hg7 (own_apart HA3.out HB3.out (by decide)))
          have HW4 := Lib.hid (HW3.out.grown hg7 HW3.out.size (fun j e => (HB3.out.lt j e).1))
          have HHH := Lib.hid (show v4.heap[p]? = some (.cells sM 35 (0, 0)) ∧ v4.heap[p + 1]? = some (.cells cY 55 (0, 0)) from ⟨(hg7.block p (by have := HL3.out; omega) (fun e => by have := HNB.out p e.symm; omega)).trans hHeld.1, (hg7.block (p + 1) HL3.out (fun e => by have := HNB.out (p + 1) e.symm; omega)).trans hHeld.2⟩)
          clear ho7 hg7 hat7 hlt7
          refine hK.out _ _ HHH.out (fun hHeld1 => ?_)
          clear hK K' hHeld
          have hHeld := hHeld1
          clear hHeld1
          try simp only [Act.put, List.setIfInBounds_toArray, List.set_cons_zero, List.set_cons_succ]
          clear HHH
          refine wpAnyH_take (i := 8) (oi := { dst := some 6, op := Go.Op.assign (Go.Operand.tmp 62), type := 28, pos := "law.go:52", after := #[{ on := 3, ground := Go.Ground.data }, { on := 7, ground := Go.Ground.chain }, { on := 0, ground := Go.Ground.phase }, { on := 1, ground := Go.Ground.phase }, { on := 2, ground := Go.Ground.phase }, { on := 3, ground := Go.Ground.phase }, { on := 4, ground := Go.Ground.textOnly Go.Departure.lateStores }, { on := 5, ground := Go.Ground.textOnly Go.Departure.lateStores }, { on := 6, ground := Go.Ground.textOnly Go.Departure.lateStores }, { on := 7, ground := Go.Ground.textOnly Go.Departure.lateStoresUnsure }], guard := none }) (v := ?v8p35) rfl (by kernel_rfl) (by kernel_rfl) (by kernel_rfl) (fun _ _ _ h => h) (Or.inl ⟨by rfl, ?hy8p35⟩) hHeld ?rest8p35
          case hy8p35 =>
            intro W' hV
            try dsimp only at hV
            go_simp
            all_goals with_reducible rfl
          case' rest8p35 => try simp only [Act.put, List.setIfInBounds_toArray, List.set_cons_zero, List.set_cons_succ]
          refine wpAnyH_take (i := 9) (oi := { dst := some 7, op := Go.Op.assign (Go.Operand.tmp 66), type := 29, pos := "law.go:52", after := #[{ on := 7, ground := Go.Ground.data }, { on := 8, ground := Go.Ground.chain }, { on := 0, ground := Go.Ground.phase }, { on := 1, ground := Go.Ground.phase }, { on := 2, ground := Go.Ground.phase }, { on := 3, ground := Go.Ground.phase }, { on := 4, ground := Go.Ground.phase }, { on := 5, ground := Go.Ground.phase }, { on := 6, ground := Go.Ground.phase }, { on := 7, ground := Go.Ground.phase }, { on := 8, ground := Go.Ground.phase }], guard := none }) (v := ?v9p36) rfl (by kernel_rfl) (by kernel_rfl) (by kernel_rfl) (fun _ _ _ h => h) (Or.inl ⟨by rfl, ?hy9p36⟩) hHeld ?rest9p36
          case hy9p36 =>
            intro W' hV
            try dsimp only at hV
            go_simp
            all_goals with_reducible rfl
          case' rest9p36 => try simp only [Act.put, List.setIfInBounds_toArray, List.set_cons_zero, List.set_cons_succ]
          refine wpAnyH_done (by kernel_rfl) ?_ _
          clear hHeld
          go_wp2
          go_roundw
          case rel => exact ⟨k + 1, some ⟨g3, 0, none⟩, some ⟨g7, 0, none⟩, c3, c7, xs ++ cY.toList, HLT.out, by go_num, rfl, rfl, Lib.hid (by rw [HOF.out]; exact HA4.out), Lib.hid HB4.out, Lib.hid HW4.out⟩
          case measure => simp [intOf]; have := HLT.out; omega
        · rw [if_pos (by rfl)]
          refine wp_build_ru (.tmp 64) rfl cY rfl HC14.out.1 ?_
          have HA2 := Lib.hid (HA1.out.alloc (.cells cY 55))
          have HB2 := Lib.hid (HB1.out.alloc (.cells cY 55))
          have HW2 := Lib.hid (HW1.out.alloc HW1.out.size (.cells cY 55))
          have HL2 := Lib.hid (show p + 1 < (v1.alloc (.cells cY 55)).heap.size by have := HL1.out; simp; omega)
          have HGY2 := Lib.hid (show (v1.alloc (.cells cY 55)).heap[v1.heap.size]? = some (.cells cY 55 (0, 0)) from heap_alloc_new _ _)
          have HHH := Lib.hid hHeld
          have HGX2 := Lib.hid (HGX.out.on (w' := (v1.alloc (.cells cY 55))) ((Below.refl _ _).alloc (Nat.le_refl _) _))
          clear HGX
          have HGX := Lib.hid HGX2.out
          clear HGX2
          refine hK.out _ _ (show (v1.alloc (.cells cY 55)).heap[p]? = _ ∧ (v1.alloc (.cells cY 55)).heap[p + 1]? = _ from ⟨by rw [heap_alloc_old _ _ (by have := HL1.out; omega)]; exact HHH.out.1, by rw [heap_alloc_old _ _ (by have := HL1.out; omega)]; exact HHH.out.2⟩) (fun hHeld1 => ?_)
          clear hK K' hHeld
          have hHeld := hHeld1
          clear hHeld1
          try simp only [Act.put, List.setIfInBounds_toArray, List.set_cons_zero, List.set_cons_succ]
          clear HHH
          obtain ⟨gy, hgy⟩ : ∃ g, g = v1.heap.size := ⟨_, rfl⟩
          rw [← hgy] at HGY2
          try rw [← hgy]
          clear hgy
          generalize v1.alloc (.cells cY 55) = v2 at hHeld HA2 HB2 HW2 HL2 HGY2 HGX ⊢
          refine wpAnyH_ready (rs := [3]) (by kernel_rfl) (by simp) ?_
          refine AllReadyH.cons (o := { dst := some 62, op := Go.Op.call { callee := Go.Callee.builtin Go.Builtin.append, args := #[Go.Operand.tmp 59, Go.Operand.tmp 61], argTypes := #[28, 28] }, type := 28, pos := "law.go:52", after := #[{ on := 0, ground := Go.Ground.data }, { on := 2, ground := Go.Ground.data }], guard := none }) rfl (fun K' hK => ?_) AllReadyH.nil
          rw [if_pos (by rfl)]
          refine wp_append_su (.tmp 59) (.tmp 61) rfl w.heap.size (.slice ra k rc) k (ofK y0 l k) rfl HA2.out gx PP rfl HGX.out (by omega) HW2.out.size v2.heap.size rfl ?_
          intro g3 c3 v3 ho3 hg3 hat3 hlt3
          have HA3 := Lib.hid ho3
          have HB3 := Lib.hid (HB2.out.kept hg3 (own_apart HB2.out HA2.out (by decide)))
          have HW3 := Lib.hid (HW2.out.grown hg3 HW2.out.size (fun j e => (HA2.out.lt j e).1))
          have HL3 := Lib.hid (show p + 1 < v3.heap.size from Nat.lt_of_lt_of_le HL2.out hg3.size)
          have HHH := Lib.hid (show v3.heap[p]? = some (.cells sM 35 (0, 0)) ∧ v3.heap[p + 1]? = some (.cells cY 55 (0, 0)) from ⟨(hg3.block p (by have := HL2.out; omega) (fun e => by have := HNA.out p e.symm; omega)).trans hHeld.1, (hg3.block (p + 1) HL2.out (fun e => by have := HNA.out (p + 1) e.symm; omega)).trans hHeld.2⟩)
          have HGY3 := Lib.hid ((hg3.block gy (Array.getElem?_eq_some_iff.1 HGY2.out).1 (fun e => by obtain ⟨cu, hcu⟩ := own_heap HA2.out e.symm; rw [HGY2.out] at hcu; injection hcu with hcu; injection hcu with _ hcu _; exact absurd hcu (by decide))).trans HGY2.out)
          clear ho3 hg3 hat3 hlt3 HGX
          refine hK.out _ _ HHH.out (fun hHeld1 => ?_)
          clear hK K' hHeld
          have hHeld := hHeld1
          clear hHeld1
          try simp only [Act.put, List.setIfInBounds_toArray, List.set_cons_zero, List.set_cons_succ]
          clear HHH
          refine wpAnyH_ready (rs := [7]) (by kernel_rfl) (by simp) ?_
          refine AllReadyH.cons (o := { dst := some 66, op := Go.Op.call { callee := Go.Callee.builtin Go.Builtin.append, args := #[Go.Operand.tmp 63, Go.Operand.tmp 65], argTypes := #[29, 29] }, type := 29, pos := "law.go:52", after := #[{ on := 4, ground := Go.Ground.data }, { on := 6, ground := Go.Ground.data }, { on := 3, ground := Go.Ground.chain }], guard := none }) rfl (fun K' hK => ?_) AllReadyH.nil
          rw [if_pos (by rfl)]
          refine wp_append_ru (.tmp 63) (.tmp 65) rfl w.heap.size (.slice rb k rd) k xs rfl HB3.out gy cY rfl HGY3.out HC14.out (by omega) HW3.out.size v3.heap.size rfl ?_
          intro g7 c7 v4 ho7 hg7 hat7 hlt7
          have HB4 := Lib.hid ho7
          have HA4 := Lib.hid (HA3.out.kept hg7 (own_apart HA3.out HB3.out (by decide)))
          have HW4 := Lib.hid (HW3.out.grown hg7 HW3.out.size (fun j e => (HB3.out.lt j e).1))
          have HHH := Lib.hid (show v4.heap[p]? = some (.cells sM 35 (0, 0)) ∧ v4.heap[p + 1]? = some (.cells cY 55 (0, 0)) from ⟨(hg7.block p (by have := HL3.out; omega) (fun e => by have := HNB.out p e.symm; omega)).trans hHeld.1, (hg7.block (p + 1) HL3.out (fun e => by have := HNB.out (p + 1) e.symm; omega)).trans hHeld.2⟩)
          clear ho7 hg7 hat7 hlt7
          refine hK.out _ _ HHH.out (fun hHeld1 => ?_)
          clear hK K' hHeld
          have hHeld := hHeld1
          clear hHeld1
          try simp only [Act.put, List.setIfInBounds_toArray, List.set_cons_zero, List.set_cons_succ]
          clear HHH
          refine wpAnyH_take (i := 8) (oi := { dst := some 6, op := Go.Op.assign (Go.Operand.tmp 62), type := 28, pos := "law.go:52", after := #[{ on := 3, ground := Go.Ground.data }, { on := 7, ground := Go.Ground.chain }, { on := 0, ground := Go.Ground.phase }, { on := 1, ground := Go.Ground.phase }, { on := 2, ground := Go.Ground.phase }, { on := 3, ground := Go.Ground.phase }, { on := 4, ground := Go.Ground.textOnly Go.Departure.lateStores }, { on := 5, ground := Go.Ground.textOnly Go.Departure.lateStores }, { on := 6, ground := Go.Ground.textOnly Go.Departure.lateStores }, { on := 7, ground := Go.Ground.textOnly Go.Departure.lateStoresUnsure }], guard := none }) (v := ?v8p37) rfl (by kernel_rfl) (by kernel_rfl) (by kernel_rfl) (fun _ _ _ h => h) (Or.inl ⟨by rfl, ?hy8p37⟩) hHeld ?rest8p37
          case hy8p37 =>
            intro W' hV
            try dsimp only at hV
            go_simp
            all_goals with_reducible rfl
          case' rest8p37 => try simp only [Act.put, List.setIfInBounds_toArray, List.set_cons_zero, List.set_cons_succ]
          refine wpAnyH_take (i := 9) (oi := { dst := some 7, op := Go.Op.assign (Go.Operand.tmp 66), type := 29, pos := "law.go:52", after := #[{ on := 7, ground := Go.Ground.data }, { on := 8, ground := Go.Ground.chain }, { on := 0, ground := Go.Ground.phase }, { on := 1, ground := Go.Ground.phase }, { on := 2, ground := Go.Ground.phase }, { on := 3, ground := Go.Ground.phase }, { on := 4, ground := Go.Ground.phase }, { on := 5, ground := Go.Ground.phase }, { on := 6, ground := Go.Ground.phase }, { on := 7, ground := Go.Ground.phase }, { on := 8, ground := Go.Ground.phase }], guard := none }) (v := ?v9p38) rfl (by kernel_rfl) (by kernel_rfl) (by kernel_rfl) (fun _ _ _ h => h) (Or.inl ⟨by rfl, ?hy9p38⟩) hHeld ?rest9p38
          case hy9p38 =>
            intro W' hV
            try dsimp only at hV
            go_simp
            all_goals with_reducible rfl
          case' rest9p38 => try simp only [Act.put, List.setIfInBounds_toArray, List.set_cons_zero, List.set_cons_succ]
          refine wpAnyH_done (by kernel_rfl) ?_ _
          clear hHeld
          go_wp2
          go_roundw
          case rel => exact ⟨k + 1, some ⟨g3, 0, none⟩, some ⟨g7, 0, none⟩, c3, c7, xs ++ cY.toList, HLT.out, by go_num, rfl, rfl, Lib.hid (by rw [HOF.out]; exact HA4.out), Lib.hid HB4.out, Lib.hid HW4.out⟩
          case measure => simp [intOf]; have := HLT.out; omega
      · rw [if_pos (by rfl)]
        refine wp_build_ru (.tmp 64) rfl cY rfl HC14.out.1 ?_
        have HA1 := Lib.hid (HA0.out.alloc (.cells cY 55))
        have HB1 := Lib.hid (HB0.out.alloc (.cells cY 55))
        have HW1 := Lib.hid (HW0.out.alloc HW0.out.size (.cells cY 55))
        have HL1 := Lib.hid (show p + 1 < (v0.alloc (.cells cY 55)).heap.size by have := HL0.out; simp; omega)
        have HGY1 := Lib.hid (show (v0.alloc (.cells cY 55)).heap[v0.heap.size]? = some (.cells cY 55 (0, 0)) from heap_alloc_new _ _)
        have HHH := Lib.hid hHeld
        refine hK.out _ _ (show (v0.alloc (.cells cY 55)).heap[p]? = _ ∧ (v0.alloc (.cells cY 55)).heap[p + 1]? = _ from ⟨by rw [heap_alloc_old _ _ (by have := HL0.out; omega)]; exact HHH.out.1, by rw [heap_alloc_old _ _ (by have := HL0.out; omega)]; exact HHH.out.2⟩) (fun hHeld1 => ?_)
        clear hK K' hHeld
        have hHeld := hHeld1
        clear hHeld1
        try simp only [Act.put, List.setIfInBounds_toArray, List.set_cons_zero, List.set_cons_succ]
        clear HHH
        obtain ⟨gy, hgy⟩ : ∃ g, g = v0.heap.size := ⟨_, rfl⟩
        rw [← hgy] at HGY1
        try rw [← hgy]
        clear hgy
        generalize v0.alloc (.cells cY 55) = v1 at hHeld HA1 HB1 HW1 HL1 HGY1  ⊢
        refine wpAnyH_ready (rs := [2]) (by kernel_rfl) (by simp) ?_
        refine AllReadyH.cons (o := { dst := some 61, op := Go.Op.buildSlice 28 1 #[(0, Go.Operand.tmp 60)], type := 28, pos := "law.go:52", after := #[{ on := 1, ground := Go.Ground.data }], guard := none }) rfl (fun K' hK => ?_) AllReadyH.nil
        rw [if_pos (by rfl)]
        refine wp_build_su (.tmp 60) rfl PP HMA.out.symm ?_
        have HA2 := Lib.hid (HA1.out.alloc (.cells (tabV 276 (suV PP)) 35))
        have HB2 := Lib.hid (HB1.out.alloc (.cells (tabV 276 (suV PP)) 35))
        have HW2 := Lib.hid (HW1.out.alloc HW1.out.size (.cells (tabV 276 (suV PP)) 35))
        have HL2 := Lib.hid (show p + 1 < (v1.alloc (.cells (tabV 276 (suV PP)) 35)).heap.size by have := HL1.out; simp; omega)
        have HGX := Lib.hid (show SuB (v1.alloc (.cells (tabV 276 (suV PP)) 35)) v1.heap.size PP from Blk.made _ _ _ _)
        have HHH := Lib.hid hHeld
        have HGY2 := Lib.hid (show (v1.alloc (.cells (tabV 276 (suV PP)) 35)).heap[gy]? = some (.cells cY 55 (0, 0)) by rw [heap_alloc_old _ _ (Array.getElem?_eq_some_iff.1 HGY1.out).1]; exact HGY1.out)
        refine hK.out _ _ (show (v1.alloc (.cells (tabV 276 (suV PP)) 35)).heap[p]? = _ ∧ (v1.alloc (.cells (tabV 276 (suV PP)) 35)).heap[p + 1]? = _ from ⟨by rw [heap_alloc_old _ _ (by have := HL1.out; omega)]; exact HHH.out.1, by rw [heap_alloc_old _ _ (by have := HL1.out; omega)]; exact HHH.out.2⟩) (fun hHeld1 => ?_)
        clear hK K' hHeld
        have hHeld := hHeld1
        clear hHeld1
        try simp only [Act.put, List.setIfInBounds_toArray, List.set_cons_zero, List.set_cons_succ]
        clear HHH
        obtain ⟨gx, hgx⟩ : ∃ g, g = v1.heap.size := ⟨_, rfl⟩
        rw [← hgx] at HGX
        try rw [← hgx]
        clear hgx
        generalize v1.alloc (.cells (tabV 276 (suV PP)) 35) = v2 at hHeld HA2 HB2 HW2 HL2 HGX HGY2 ⊢
        refine wpAnyH_ready (rs := [3]) (by kernel_rfl) (by simp) ?_
        refine AllReadyH.cons (o := { dst := some 62, op := Go.Op.call { callee := Go.Callee.builtin Go.Builtin.append, args := #[Go.Operand.tmp 59, Go.Operand.tmp 61], argTypes := #[28, 28] }, type := 28, pos := "law.go:52", after := #[{ on := 0, ground := Go.Ground.data }, { on := 2, ground := Go.Ground.data }], guard := none }) rfl (fun K' hK => ?_) AllReadyH.nil
        rw [if_pos (by rfl)]
        refine wp_append_su (.tmp 59) (.tmp 61) rfl w.heap.size (.slice ra k rc) k (ofK y0 l k) rfl HA2.out gx PP rfl HGX.out (by omega) HW2.out.size v2.heap.size rfl ?_
        intro g3 c3 v3 ho3 hg3 hat3 hlt3
        have HA3 := Lib.hid ho3
        have HB3 := Lib.hid (HB2.out.kept hg3 (own_apart HB2.out HA2.out (by decide)))
        have HW3 := Lib.hid (HW2.out.grown hg3 HW2.out.size (fun j e => (HA2.out.lt j e).1))
        have HL3 := Lib.hid (show p + 1 < v3.heap.size from Nat.lt_of_lt_of_le HL2.out hg3.size)
        have HHH := Lib.hid (show v3.heap[p]? = some (.cells sM 35 (0, 0)) ∧ v3.heap[p + 1]? = some (.cells cY 55 (0, 0)) from ⟨(hg3.block p (by have := HL2.out; omega) (fun e => by have := HNA.out p e.symm; omega)).trans hHeld.1, (hg3.block (p + 1) HL2.out (fun e => by have := HNA.out (p + 1) e.symm; omega)).trans hHeld.2⟩)
        have HGY3 := Lib.hid ((hg3.block gy (Array.getElem?_eq_some_iff.1 HGY2.out).1 (fun e => by obtain ⟨cu, hcu⟩ := own_heap HA2.out e.symm; rw [HGY2.out] at hcu; injection hcu with hcu; injection hcu with _ hcu _; exact absurd hcu (by decide))).trans HGY2.out)
        clear ho3 hg3 hat3 hlt3 HGX
        refine hK.out _ _ HHH.out (fun hHeld1 => ?_)
        clear hK K' hHeld
        have hHeld := hHeld1
        clear hHeld1
        try simp only [Act.put, List.setIfInBounds_toArray, List.set_cons_zero, List.set_cons_succ]
        clear HHH
        refine wpAnyH_ready (rs := [7]) (by kernel_rfl) (by simp) ?_
        refine AllReadyH.cons (o := { dst := some 66, op := Go.Op.call { callee := Go.Callee.builtin Go.Builtin.append, args := #[Go.Operand.tmp 63, Go.Operand.tmp 65], argTypes := #[29, 29] }, type := 29, pos := "law.go:52", after := #[{ on := 4, ground := Go.Ground.data }, { on := 6, ground := Go.Ground.data }, { on := 3, ground := Go.Ground.chain }], guard := none }) rfl (fun K' hK => ?_) AllReadyH.nil
        rw [if_pos (by rfl)]
        refine wp_append_ru (.tmp 63) (.tmp 65) rfl w.heap.size (.slice rb k rd) k xs rfl HB3.out gy cY rfl HGY3.out HC14.out (by omega) HW3.out.size v3.heap.size rfl ?_
        intro g7 c7 v4 ho7 hg7 hat7 hlt7
        have HB4 := Lib.hid ho7
        have HA4 := Lib.hid (HA3.out.kept hg7 (own_apart HA3.out HB3.out (by decide)))
        have HW4 := Lib.hid (HW3.out.grown hg7 HW3.out.size (fun j e => (HB3.out.lt j e).1))
        have HHH := Lib.hid (show v4.heap[p]? = some (.cells sM 35 (0, 0)) ∧ v4.heap[p + 1]? = some (.cells cY 55 (0, 0)) from ⟨(hg7.block p (by have := HL3.out; omega) (fun e => by have := HNB.out p e.symm; omega)).trans hHeld.1, (hg7.block (p + 1) HL3.out (fun e => by have := HNB.out (p + 1) e.symm; omega)).trans hHeld.2⟩)
        clear ho7 hg7 hat7 hlt7
        refine hK.out _ _ HHH.out (fun hHeld1 => ?_)
        clear hK K' hHeld
        have hHeld := hHeld1
        clear hHeld1
        try simp only [Act.put, List.setIfInBounds_toArray, List.set_cons_zero, List.set_cons_succ]
        clear HHH
        refine wpAnyH_take (i := 8) (oi := { dst := some 6, op := Go.Op.assign (Go.Operand.tmp 62), type := 28, pos := "law.go:52", after := #[{ on := 3, ground := Go.Ground.data }, { on := 7, ground := Go.Ground.chain }, { on := 0, ground := Go.Ground.phase }, { on := 1, ground := Go.Ground.phase }, { on := 2, ground := Go.Ground.phase }, { on := 3, ground := Go.Ground.phase }, { on := 4, ground := Go.Ground.textOnly Go.Departure.lateStores }, { on := 5, ground := Go.Ground.textOnly Go.Departure.lateStores }, { on := 6, ground := Go.Ground.textOnly Go.Departure.lateStores }, { on := 7, ground := Go.Ground.textOnly Go.Departure.lateStoresUnsure }], guard := none }) (v := ?v8p39) rfl (by kernel_rfl) (by kernel_rfl) (by kernel_rfl) (fun _ _ _ h => h) (Or.inl ⟨by rfl, ?hy8p39⟩) hHeld ?rest8p39
        case hy8p39 =>
          intro W' hV
          try dsimp only at hV
          go_simp
          all_goals with_reducible rfl
        case' rest8p39 => try simp only [Act.put, List.setIfInBounds_toArray, List.set_cons_zero, List.set_cons_succ]
        refine wpAnyH_take (i := 9) (oi := { dst := some 7, op := Go.Op.assign (Go.Operand.tmp 66), type := 29, pos := "law.go:52", after := #[{ on := 7, ground := Go.Ground.data }, { on := 8, ground := Go.Ground.chain }, { on := 0, ground := Go.Ground.phase }, { on := 1, ground := Go.Ground.phase }, { on := 2, ground := Go.Ground.phase }, { on := 3, ground := Go.Ground.phase }, { on := 4, ground := Go.Ground.phase }, { on := 5, ground := Go.Ground.phase }, { on := 6, ground := Go.Ground.phase }, { on := 7, ground := Go.Ground.phase }, { on := 8, ground := Go.Ground.phase }], guard := none }) (v := ?v9p40) rfl (by kernel_rfl) (by kernel_rfl) (by kernel_rfl) (fun _ _ _ h => h) (Or.inl ⟨by rfl, ?hy9p40⟩) hHeld ?rest9p40
        case hy9p40 =>
          intro W' hV
          try dsimp only at hV
          go_simp
          all_goals with_reducible rfl
        case' rest9p40 => try simp only [Act.put, List.setIfInBounds_toArray, List.set_cons_zero, List.set_cons_succ]
        refine wpAnyH_done (by kernel_rfl) ?_ _
        clear hHeld
        go_wp2
        go_roundw
        case rel => exact ⟨k + 1, some ⟨g3, 0, none⟩, some ⟨g7, 0, none⟩, c3, c7, xs ++ cY.toList, HLT.out, by go_num, rfl, rfl, Lib.hid (by rw [HOF.out]; exact HA4.out), Lib.hid HB4.out, Lib.hid HW4.out⟩
        case measure => simp [intOf]; have := HLT.out; omega
    · obtain rfl : k = n := by omega
      go_wp2
      exact bodyPost_ret (results_of16 _ _ _ _ rfl rfl) rfl ⟨ra, rb, rc, rd, rfl, HOA.out, HBN.out⟩
end Go.Proofs.Ytbijakhdngbjmaa
