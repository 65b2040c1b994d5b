/- The law's parsed. -/
import Derived.Test.YtadcgngiofdhcaaDoorRd1
import Derived.Test.YtadcgngiofdhcaaDoorRd2
import Derived.Test.YtadcgngiofdhcaaDoorIe
import Derived.Test.YtadcgngiofdhcaaDoorIy
namespace Go.Proofs.YtadcgngiofdhcaaDoor
open Go.ChangeShapes Go.WideShapes Go.ChangeAt Go.RowKit Go.Shelf
set_option linter.unusedVariables false
set_option linter.unusedSimpArgs false
set_option maxRecDepth 100000
attribute [local go_sem] Oper.semAt_some

theorem wpList_buildG {P : Program} {ops : Array Oper} {rest : List Oper} {o : Oper} {a : Act} {w : World} {Q : Exit → Act → World → Prop} (hw : Region.wanted o (yielded ops a.tmps) = true) (t : TypeId) (parts : Array (Nat × Operand)) (ho : o.op = .build t parts)
    (d : Option Tmp) (hd : o.dst = d) (cells : Array Value) (hf : P.built t (parts.map fun (i, x) => (i, a.eval x)).toList = some cells)
    (h : wpList P ops Q rest (a.put d (.agg cells)) w) : wpList P ops Q (o :: rest) a w :=
  wpList_step fun K hK => by
    rw [if_pos hw]
    refine wp_build t parts ho (by rw [hf]; rfl) ?_
    rw [hf]
    exact hK _ _ (by subst hd; exact h)
theorem su_all (P : SU) : (tabV 276 (suV P)).all (·.oneCell') = true := tabV_one (suV_one P)
theorem ru_one (P : SU) (a : Option Addr) (n c : Nat) : ∃ cX : Array Value, ruA P (.slice a n c) = .agg cX ∧ cX.size = 14 ∧ cX.all (·.oneCell') = true := ⟨_, rfl, rfl, by simp [Value.oneCell']⟩
theorem parsed_cases {b : List Int} (h : b.length = 512) (hB : AllB b) : ((psuR b).S = b → chSU (psuR b) b) := fun e => by
  by_cases ho : (psuR b).Ok
  · exact ⟨(SU.S_ok ho).2, e⟩
  · rw [(SU.S_no ho).1] at e
    rw [← e] at h; simp at h

set_option maxHeartbeats 16000000 in
theorem parsed_any (a : Option Addr) (n k : Nat) (b : List Int) (w : World) (hx : Arg8c w a n k b) (hn : n ≤ 600) (hG : Gl w) :
    Calls Tryd.prog 10 #[.slice a n k] w fun e w' => e = .returned (.bool true) ∧ Below w.heap.size w w' := by
  have hl := hx.1.1
  have hB : AllB b := hx.1.2.1
  have hP := parseSuper_any a n k b w hx hn hG
  obtain ⟨BS, hBS⟩ : ∃ BS, BS = strOfNums b := ⟨_, rfl⟩
  obtain ⟨hz, hi⟩ := zero_of_info infoSu
  clear hi
  obtain ⟨c0, hc0⟩ : ∃ s, s = tabV 276 (suV suZ) := ⟨_, rfl⟩
  rw [← hc0] at hz
  have HZ0 := Lib.hid hc0
  have HX := Lib.hid hx
  have HBS := Lib.hid hBS
  have HBD := Lib.hid (show Tryd.prog.built 30 [] = some c0 by rw [hc0]; exact built_su0)
  have hR := fun W => refParseSuper_any b hB (by omega) W
  rw [← hBS] at hR
  by_cases hS : b.length = 512 ∧ (psuR b).S = b
  case neg =>
    have hZ : psuZ b = suZ ∧ psuE b = 3 := by
      by_cases h5 : b.length = 512
      · exact psu_not (fun h => hS ⟨h5, h.2⟩)
      · exact psu_len h5
    rw [hZ.1, hZ.2] at hP
    unfold suA at hP
    rw [← hc0] at hP
    have HP := Lib.hid hP
    have HR := Lib.hid (show ∀ W, Calls Tryd.prog 30 #[.string BS] W fun e w' => (∃ cX : Array Value, e = .returned (.tuple #[.agg cX, .bool false]) ∧ cX.size = 14 ∧ cX.all (·.oneCell') = true) ∧ Below W.heap.size W w' from fun W => (hR W).mono fun e w' h => by
      obtain ⟨hb, ⟨h5, rfl⟩ | ⟨h5, aa, cc, rfl, hia⟩⟩ := h
      · exact ⟨⟨_, rfl, rfl, by simp [Value.oneCell']⟩, hb⟩
      · obtain ⟨cX, h1, h2, h3⟩ := ru_one (psuR b) aa (psuR b).L.length cc
        exact ⟨⟨cX, by rw [h1, decide_eq_false (fun e => hS ⟨h5, e⟩)], h2, h3⟩, hb⟩)
    have HSZ := Lib.hid (show (Tryd.prog.info? 30).map (·.size) = some c0.size ∧ (Tryd.prog.info? 30).map (·.size) = some c0.size ∧ c0.size = c0.size by rw [hc0, size_tabV]; exact ⟨sizeSu, sizeSu, rfl⟩)
    have HON := Lib.hid (show c0.all (·.oneCell') = true ∧ c0.all (·.oneCell') = true by rw [hc0]; exact ⟨tabV_one (suV_one suZ), tabV_one (suV_one suZ)⟩)
    have HEQ := Lib.hid (show ∀ W, (binOp .eql 30 (.agg c0) (.agg c0)).run Tryd.prog W = .ok (.bool true) W from fun W => by rw [hc0]; exact eqlSu suZ suZ_wf W)
    clear hR hP hZ hS hc0 hBS hl hx hG
    go_enter Tryd.func10, Tryd.ntmps10
    go_upto_region 3 with (first
      | (go_at_call 9; go_loud (refine HP.out.mono ?_; rintro e w1 ⟨rfl, hb1⟩; have HB1 := Lib.hid hb1; clear hb1))
      | ((with_reducible show wpList _ _ _ (⟨none, Op.store 30 _ _, _, _, _, _⟩ :: _) _ _); go_loud (refine wpList_store_row rfl 30 (.tmp 3) (.tmp 10) rfl w1.heap.size c0 rfl rfl 30 c0 (heap_alloc_new w1 _) HSZ.out.1 rfl HON.out.1 ?_; have HV1 := Lib.hid (show Below w.heap.size w ((w1.alloc (.cells c0 30)).setRow w1.heap.size c0) from below_setRow (HB1.out.alloc HB1.out.size _) HB1.out.size _); have HG3 := Lib.hid (setRow_heap _ _ _ c0 _ _ (heap_alloc_new w1 (.cells c0 30))); have hc1 := arg_str HX.out HV1.out; rw [← HBS.out] at hc1; generalize (w1.alloc (.cells c0 30)).setRow w1.heap.size c0 = V1 at HV1 HG3 hc1 ⊢))
      | (go_at_call 30; go_loud (refine (HR.out V1).mono ?_; rintro e w2 ⟨⟨cX, rfl, h14, h15⟩, hb2⟩; have HB2 := Lib.hid hb2; have HX14 := Lib.hid (And.intro h14 h15); clear hb2 h14 h15))
      | ((with_reducible show wpList _ _ _ (⟨none, Op.store 34 _ _, _, _, _, _⟩ :: _) _ _); go_loud (refine wpList_store_row rfl 34 (.tmp 5) (.tmp 16) rfl w2.heap.size cX rfl rfl 34 #[.string { data := #[] }, .int .i64 0, .int .i64 0, .int .i64 0, .int .i64 0, .int .i64 0, .int .u64 0, .int .u64 0, .int .u64 0, .slice none 0 0, .int .u64 0, .int .u64 0, .int .i64 0, .int .u64 0] (heap_alloc_new w2 _) (by rw [HX14.out.1]; exact sizeRu) HX14.out.1.symm HX14.out.2 ?_; have HV2 := Lib.hid (show Below V1.heap.size V1 ((w2.alloc (.cells #[.string { data := #[] }, .int .i64 0, .int .i64 0, .int .i64 0, .int .i64 0, .int .i64 0, .int .u64 0, .int .u64 0, .int .u64 0, .slice none 0 0, .int .u64 0, .int .u64 0, .int .i64 0, .int .u64 0] 34)).setRow w2.heap.size cX) from below_setRow (HB2.out.alloc HB2.out.size _) HB2.out.size _); have HG5 := Lib.hid (setRow_heap _ _ _ cX _ _ (heap_alloc_new w2 (.cells #[.string { data := #[] }, .int .i64 0, .int .i64 0, .int .i64 0, .int .i64 0, .int .i64 0, .int .u64 0, .int .u64 0, .int .u64 0, .slice none 0 0, .int .u64 0, .int .u64 0, .int .i64 0, .int .u64 0] 34))); have HW2 := Lib.hid (show Below w2.heap.size w2 ((w2.alloc (.cells #[.string { data := #[] }, .int .i64 0, .int .i64 0, .int .i64 0, .int .i64 0, .int .i64 0, .int .u64 0, .int .u64 0, .int .u64 0, .slice none 0 0, .int .u64 0, .int .u64 0, .int .i64 0, .int .u64 0] 34)).setRow w2.heap.size cX) from below_setRow ((Below.refl _ _).alloc (Nat.le_refl _) _) (Nat.le_refl _) _); generalize (w2.alloc (.cells #[.string { data := #[] }, .int .i64 0, .int .i64 0, .int .i64 0, .int .i64 0, .int .i64 0, .int .u64 0, .int .u64 0, .int .u64 0, .slice none 0 0, .int .u64 0, .int .u64 0, .int .i64 0, .int .u64 0] 34)).setRow w2.heap.size cX = V2 at HV2 HG5 HW2 ⊢)))
    have HL3 := Lib.hid ((HV2.out.block w1.heap.size (Array.getElem?_eq_some_iff.1 HG3.out).1).trans HG3.out)
    go_wp2_with (first
      | ((with_reducible show wpList _ _ _ (⟨some 23, _, _, _, _, _⟩ :: _) _ _); go_loud (refine wpList_load_rowG (by rfl) 30 (.tmp 3) rfl w1.heap.size rfl 30 c0 (0, 0) _ HL3.out Tryd.underlying30 rfl HSZ.out.1 ?_))
      | ((with_reducible show wpList _ _ _ (⟨some 25, _, _, _, _, _⟩ :: _) _ _); go_loud (refine wpList_binG (by rfl) .eql 30 (.tmp 23) (.tmp 24) 30 rfl (.agg c0) (.agg c0) (.bool true) rfl rfl (guardSu _ _ _ _ _ _) (HEQ.out _) ?_)))
    go_ret
    exact ⟨rfl, HV1.out.trans (HV2.out.mono HV1.out.size)⟩
  case pos =>
    obtain ⟨h5, hSb⟩ := hS
    have hZ := psu_yes h5 (parsed_cases h5 hB hSb)
    rw [hZ.1, hZ.2] at hP
    have hPW : (psuR b).Wf := psuR_wf hB h5
    have hRe := fun W => ref_any (psuR b) hPW W
    have hSu := fun (aa : Option Addr) (cc : Nat) (W : World) (h : IA W aa (psuR b).L.length cc (psuR b).L) => refSuper_any (psuR b) hPW aa _ cc W h
    generalize psuR b = P at hP hR hSb hPW hRe hSu
    have HR := Lib.hid (show ∀ W, Calls Tryd.prog 30 #[.string BS] W fun e w' => (∃ (cX : Array Value) (aX : Option Addr) (kX : Nat), e = .returned (.tuple #[.agg cX, .bool true]) ∧ (cX.size = 14 ∧ cX.all (·.oneCell') = true) ∧ .agg cX = ruA P (.slice aX P.L.length kX) ∧ IA w' aX P.L.length kX P.L) ∧ Below W.heap.size W w' from fun W => (hR W).mono fun e w' h => by
      obtain ⟨hb, ⟨h6, rfl⟩ | ⟨h6, aa, cc, rfl, hia⟩⟩ := h
      · exact absurd h5 h6
      · obtain ⟨cX, h1, h2, h3⟩ := ru_one P aa P.L.length cc
        exact ⟨⟨cX, aa, cc, by rw [h1, decide_eq_true hSb], ⟨h2, h3⟩, h1.symm, hia⟩, hb⟩)
    obtain ⟨s0, hs0⟩ : ∃ s, s = tabV 276 (suV P) := ⟨_, rfl⟩
    unfold suA at hP hRe
    rw [← hs0] at hP hRe
    have HP := Lib.hid hP
    have HRE := Lib.hid (show ∀ W, Calls Tryd.prog 13 #[.agg s0] W fun e w' => (∃ (cY : Array Value) (aY : Option Addr) (kY : Nat), e = .returned (.agg cY) ∧ .agg cY = ruA P (.slice aY P.L.length kY) ∧ IA w' aY P.L.length kY P.L) ∧ Below W.heap.size W w' from fun W => (hRe W).mono fun e w' h => by
      obtain ⟨aa, cc, rfl, hia, hb, -⟩ := h
      obtain ⟨cY, h1, h2, h3⟩ := ru_one P aa P.L.length cc
      exact ⟨⟨cY, aa, cc, by rw [h1], h1.symm, hia⟩, hb⟩)
    obtain ⟨SP, hSP⟩ : ∃ s, s = strOfNums P.S := ⟨_, rfl⟩
    rw [← hSP] at hSu
    have HSU := Lib.hid hSu
    have HSZ := Lib.hid (show (Tryd.prog.info? 30).map (·.size) = some s0.size ∧ (Tryd.prog.info? 30).map (·.size) = some c0.size ∧ c0.size = s0.size by rw [hs0, hc0, size_tabV, size_tabV]; exact ⟨sizeSu, sizeSu, rfl⟩)
    have HON := Lib.hid (show s0.all (·.oneCell') = true ∧ c0.all (·.oneCell') = true by rw [hs0, hc0]; exact ⟨tabV_one (suV_one P), tabV_one (suV_one suZ)⟩)
    clear hR hP hZ hSb hc0 hs0 hBS hl hx hG hRe hSu hPW hSP h5 hB
    go_enter Tryd.func10, Tryd.ntmps10
    go_upto_region 3 with (first
      | (go_at_call 9; go_loud (refine HP.out.mono ?_; rintro e w1 ⟨rfl, hb1⟩; have HB1 := Lib.hid hb1; clear hb1))
      | ((with_reducible show wpList _ _ _ (⟨none, Op.store 30 _ _, _, _, _, _⟩ :: _) _ _); go_loud (refine wpList_store_row rfl 30 (.tmp 3) (.tmp 10) rfl w1.heap.size s0 rfl rfl 30 c0 (heap_alloc_new w1 _) HSZ.out.1 HSZ.out.2.2 HON.out.1 ?_; have HV1 := Lib.hid (show Below w.heap.size w ((w1.alloc (.cells c0 30)).setRow w1.heap.size s0) from below_setRow (HB1.out.alloc HB1.out.size _) HB1.out.size _); have HG3 := Lib.hid (setRow_heap _ _ _ s0 _ _ (heap_alloc_new w1 (.cells c0 30))); have hc1 := arg_str HX.out HV1.out; rw [← HBS.out] at hc1; generalize (w1.alloc (.cells c0 30)).setRow w1.heap.size s0 = V1 at HV1 HG3 hc1 ⊢))
      | (go_at_call 30; go_loud (refine (HR.out V1).mono ?_; rintro e w2 ⟨⟨cX, aX, kX, rfl, h14, hXX⟩, hb2⟩; have HB2 := Lib.hid hb2; have HX14 := Lib.hid h14; have HXX := Lib.hid hXX; clear hb2 h14 hXX))
      | ((with_reducible show wpList _ _ _ (⟨none, Op.store 34 _ _, _, _, _, _⟩ :: _) _ _); go_loud (refine wpList_store_row rfl 34 (.tmp 5) (.tmp 16) rfl w2.heap.size cX rfl rfl 34 #[.string { data := #[] }, .int .i64 0, .int .i64 0, .int .i64 0, .int .i64 0, .int .i64 0, .int .u64 0, .int .u64 0, .int .u64 0, .slice none 0 0, .int .u64 0, .int .u64 0, .int .i64 0, .int .u64 0] (heap_alloc_new w2 _) (by rw [HX14.out.1]; exact sizeRu) HX14.out.1.symm HX14.out.2 ?_; have HV2 := Lib.hid (show Below V1.heap.size V1 ((w2.alloc (.cells #[.string { data := #[] }, .int .i64 0, .int .i64 0, .int .i64 0, .int .i64 0, .int .i64 0, .int .u64 0, .int .u64 0, .int .u64 0, .slice none 0 0, .int .u64 0, .int .u64 0, .int .i64 0, .int .u64 0] 34)).setRow w2.heap.size cX) from below_setRow (HB2.out.alloc HB2.out.size _) HB2.out.size _); have HG5 := Lib.hid (setRow_heap _ _ _ cX _ _ (heap_alloc_new w2 (.cells #[.string { data := #[] }, .int .i64 0, .int .i64 0, .int .i64 0, .int .i64 0, .int .i64 0, .int .u64 0, .int .u64 0, .int .u64 0, .slice none 0 0, .int .u64 0, .int .u64 0, .int .i64 0, .int .u64 0] 34))); have HW2 := Lib.hid (show Below w2.heap.size w2 ((w2.alloc (.cells #[.string { data := #[] }, .int .i64 0, .int .i64 0, .int .i64 0, .int .i64 0, .int .i64 0, .int .u64 0, .int .u64 0, .int .u64 0, .slice none 0 0, .int .u64 0, .int .u64 0, .int .i64 0, .int .u64 0] 34)).setRow w2.heap.size cX) from below_setRow ((Below.refl _ _).alloc (Nat.le_refl _) _) (Nat.le_refl _) _); generalize (w2.alloc (.cells #[.string { data := #[] }, .int .i64 0, .int .i64 0, .int .i64 0, .int .i64 0, .int .i64 0, .int .u64 0, .int .u64 0, .int .u64 0, .slice none 0 0, .int .u64 0, .int .u64 0, .int .i64 0, .int .u64 0] 34)).setRow w2.heap.size cX = V2 at HV2 HG5 HW2 ⊢)))
    have HL3 := Lib.hid ((HV2.out.block w1.heap.size (Array.getElem?_eq_some_iff.1 HG3.out).1).trans HG3.out)
    have HIX := Lib.hid (HXX.out.2.on HW2.out)
    have HSZ14 := Lib.hid (show (Tryd.prog.info? 34).map (·.size) = some cX.size by rw [HX14.out.1]; exact sizeRu)
    go_upto_region 5 with fail
    refine wp_region_held_drew (S := fun W => W.heap[w1.heap.size]? = some (.cells s0 30 (0, 0)) ∧ W.heap[w2.heap.size]? = some (.cells cX 34 (0, 0))) (by kernel_rfl) (And.intro (show V2.heap[w1.heap.size]? = _ from HL3.out) (show V2.heap[w2.heap.size]? = _ from HG5.out)) (fun hHeld => ?_)
    generalize hvd : V2.drew = v0 at hHeld ⊢
    have HBD0 := Lib.hid (show Below V2.heap.size V2 v0 by rw [← hvd]; exact (Below.refl _ _).drew)
    clear hvd
    refine wpAnyH_take (i := 0) (oi := { dst := some 27, op := Go.Op.move (Go.Operand.tmp 4), type := 37, pos := "law.go:158", after := #[], guard := none }) (v := ?v0p1) rfl (by kernel_rfl) (by kernel_rfl) (by kernel_rfl) (fun _ _ _ h => h) (Or.inl ⟨by rfl, ?hy0p1⟩) hHeld ?rest0p1
    case hy0p1 =>
      intro W' hV
      try dsimp only at hV
      go_simp
      all_goals with_reducible rfl
    case' rest0p1 => try simp only [Act.put, List.setIfInBounds_toArray, List.set_cons_zero, List.set_cons_succ]
    refine wpAnyH_take (i := 1) (oi := { dst := some 28, op := Go.Op.binOp Go.BinOp.eql 37 (Go.Operand.tmp 27) (Go.Operand.const (Go.Value.int Go.IntKind.i64 0)) 37, type := 4, pos := "law.go:158", after := #[{ on := 0, ground := Go.Ground.data }], guard := none }) (v := ?v1p2) rfl (by kernel_rfl) (by kernel_rfl) (by kernel_rfl) (fun _ _ _ h => h) (Or.inl ⟨by rfl, ?hy1p2⟩) hHeld ?rest1p2
    case hy1p2 =>
      intro W' hV
      try dsimp only at hV
      go_simp
      all_goals with_reducible rfl
    case' rest1p2 => try simp only [Act.put, List.setIfInBounds_toArray, List.set_cons_zero, List.set_cons_succ]
    refine wpAnyH_take (i := 2) (oi := { dst := some 29, op := Go.Op.move (Go.Operand.tmp 28), type := 4, pos := "law.go:158", after := #[{ on := 1, ground := Go.Ground.data }], guard := none }) (v := ?v2p3) rfl (by kernel_rfl) (by kernel_rfl) (by kernel_rfl) (fun _ _ _ h => h) (Or.inl ⟨by rfl, ?hy2p3⟩) hHeld ?rest2p3
    case hy2p3 =>
      intro W' hV
      try dsimp only at hV
      go_simp
      all_goals with_reducible rfl
    case' rest2p3 => try simp only [Act.put, List.setIfInBounds_toArray, List.set_cons_zero, List.set_cons_succ]
    refine wpAnyH_take (i := 3) (oi := { dst := some 30, op := Go.Op.load 30 (Go.Operand.tmp 3), type := 30, pos := "law.go:158", after := #[{ on := 2, ground := Go.Ground.guard }], guard := some (2, true) }) (v := .agg s0) rfl (by kernel_rfl) (by kernel_rfl) (by kernel_rfl) (fun _ _ _ h => h) (yieldsIf_load_row (by rfl) 30 (.tmp 3) rfl w1.heap.size (by rfl) 30 s0 (0, 0) _ (fun W h => h.1) Tryd.underlying30 rfl HSZ.out.1) hHeld ?rest3p4
    case' rest3p4 => try simp only [Act.put, List.setIfInBounds_toArray, List.set_cons_zero, List.set_cons_succ]
    refine wpAnyH_take (i := 6) (oi := { dst := some 33, op := Go.Op.load 34 (Go.Operand.tmp 5), type := 34, pos := "law.go:158", after := #[{ on := 2, ground := Go.Ground.guard }], guard := some (2, true) }) (v := .agg cX) rfl (by kernel_rfl) (by kernel_rfl) (by kernel_rfl) (fun _ _ _ h => h) (yieldsIf_load_row (by rfl) 34 (.tmp 5) rfl w2.heap.size (by rfl) 34 cX (0, 0) _ (fun W h => h.2) Tryd.underlying34 rfl HSZ14.out) hHeld ?rest6p5
    case' rest6p5 => try simp only [Act.put, List.setIfInBounds_toArray, List.set_cons_zero, List.set_cons_succ]
    refine wpAnyH_ready (rs := [4]) (by kernel_rfl) (by simp) ?_
    refine AllReadyH.cons (o := { dst := some 31, op := Go.Op.call { callee := Go.Callee.value (Go.Operand.func 13), args := #[Go.Operand.tmp 30], argTypes := #[30] }, type := 34, pos := "law.go:158", after := #[{ on := 3, ground := Go.Ground.data }, { on := 2, ground := Go.Ground.chain }, { on := 2, ground := Go.Ground.guard }], guard := some (2, true) }) rfl (fun K' hK => ?_) AllReadyH.nil
    rw [if_pos (by rfl)]
    go_simp
    go_wp2_with (go_at_call 13; go_loud ((with_reducible refine (HRE.out v0).mono ?_); rintro e v1 ⟨⟨cY, aY, kY, rfl, hY, hIY⟩, hb⟩; have HYY := Lib.hid (And.intro hY hIY); clear hY hIY))
    have HBD1 := Lib.hid (bt HBD0.out hb)
    refine hK.out _ _ (And.intro ((hb.block _ (Array.getElem?_eq_some_iff.1 hHeld.1).1).trans hHeld.1) ((hb.block _ (Array.getElem?_eq_some_iff.1 hHeld.2).1).trans hHeld.2)) (fun hHeld1 => ?_)
    clear hK K' hHeld hb
    have hHeld := hHeld1
    clear hHeld1
    try simp only [Act.put, List.setIfInBounds_toArray, List.set_cons_zero, List.set_cons_succ]
    refine wpAnyH_ready (rs := [5]) (by kernel_rfl) (by simp) ?_
    refine AllReadyH.cons (o := { dst := some 32, op := Go.Op.call { callee := Go.Callee.value (Go.Operand.func 7), args := #[Go.Operand.tmp 31], argTypes := #[34] }, type := 9, pos := "law.go:158", after := #[{ on := 4, ground := Go.Ground.data }, { on := 4, ground := Go.Ground.chain }, { on := 2, ground := Go.Ground.guard }], guard := some (2, true) }) rfl (fun K' hK => ?_) AllReadyH.nil
    rw [if_pos (by rfl)]
    go_simp
    go_wp2_with (go_at_call 7; go_loud (rw [HYY.out.1]; (with_reducible refine (HSU.out aY kY v1 HYY.out.2).mono ?_); rintro e v2 ⟨rfl, hb⟩))
    have HBD2 := Lib.hid (bt HBD1.out hb)
    refine hK.out _ _ (And.intro ((hb.block _ (Array.getElem?_eq_some_iff.1 hHeld.1).1).trans hHeld.1) ((hb.block _ (Array.getElem?_eq_some_iff.1 hHeld.2).1).trans hHeld.2)) (fun hHeld1 => ?_)
    clear hK K' hHeld hb
    have hHeld := hHeld1
    clear hHeld1
    try simp only [Act.put, List.setIfInBounds_toArray, List.set_cons_zero, List.set_cons_succ]
    refine wpAnyH_ready (rs := [7]) (by kernel_rfl) (by simp) ?_
    refine AllReadyH.cons (o := { dst := some 34, op := Go.Op.call { callee := Go.Callee.value (Go.Operand.func 7), args := #[Go.Operand.tmp 33], argTypes := #[34] }, type := 9, pos := "law.go:158", after := #[{ on := 6, ground := Go.Ground.data }, { on := 5, ground := Go.Ground.chain }, { on := 2, ground := Go.Ground.guard }], guard := some (2, true) }) rfl (fun K' hK => ?_) AllReadyH.nil
    rw [if_pos (by rfl)]
    go_simp
    go_wp2_with (go_at_call 7; go_loud (rw [HXX.out.1]; (with_reducible refine (HSU.out aX kX v2 (HIX.out.on HBD2.out)).mono ?_); rintro e v3 ⟨rfl, hb⟩))
    have HBD3 := Lib.hid (bt HBD2.out hb)
    refine hK.out _ _ (And.intro ((hb.block _ (Array.getElem?_eq_some_iff.1 hHeld.1).1).trans hHeld.1) ((hb.block _ (Array.getElem?_eq_some_iff.1 hHeld.2).1).trans hHeld.2)) (fun hHeld1 => ?_)
    clear hK K' hHeld hb
    have hHeld := hHeld1
    clear hHeld1
    try simp only [Act.put, List.setIfInBounds_toArray, List.set_cons_zero, List.set_cons_succ]
    refine wpAnyH_take (i := 8) (oi := { dst := some 35, op := Go.Op.binOp Go.BinOp.eql 9 (Go.Operand.tmp 32) (Go.Operand.tmp 34) 9, type := 4, pos := "law.go:158", after := #[{ on := 5, ground := Go.Ground.data }, { on := 7, ground := Go.Ground.data }, { on := 2, ground := Go.Ground.guard }], guard := some (2, true) }) (v := ?v8p6) rfl (by kernel_rfl) (by kernel_rfl) (by kernel_rfl) (fun _ _ _ h => h) (Or.inl ⟨by rfl, ?hy8p6⟩) hHeld ?rest8p6
    case hy8p6 =>
      intro W' hV
      try dsimp only at hV
      go_simp
      all_goals with_reducible rfl
    case' rest8p6 => try simp only [Act.put, List.setIfInBounds_toArray, List.set_cons_zero, List.set_cons_succ]
    refine wpAnyH_take (i := 9) (oi := { dst := some 36, op := Go.Op.pick (Go.Operand.tmp 29) (Go.Operand.tmp 35) (Go.Operand.const (Go.Value.bool false)), type := 4, pos := "law.go:158", after := #[{ on := 2, ground := Go.Ground.data }, { on := 8, ground := Go.Ground.data }], guard := none }) (v := ?v9p7) rfl (by kernel_rfl) (by kernel_rfl) (by kernel_rfl) (fun _ _ _ h => h) (Or.inl ⟨by rfl, ?hy9p7⟩) hHeld ?rest9p7
    case hy9p7 =>
      intro W' hV
      try dsimp only at hV
      go_simp
      all_goals with_reducible rfl
    case' rest9p7 => try simp only [Act.put, List.setIfInBounds_toArray, List.set_cons_zero, List.set_cons_succ]
    refine wpAnyH_take (i := 10) (oi := { dst := some 2, op := Go.Op.assign (Go.Operand.tmp 36), type := 4, pos := "law.go:158", after := #[{ on := 9, ground := Go.Ground.data }, { on := 7, ground := Go.Ground.chain }, { on := 0, ground := Go.Ground.phase }, { on := 1, ground := Go.Ground.phase }, { on := 2, ground := Go.Ground.phase }, { on := 3, ground := Go.Ground.phase }, { on := 4, ground := Go.Ground.phase }, { on := 5, ground := Go.Ground.phase }, { on := 6, ground := Go.Ground.phase }, { on := 7, ground := Go.Ground.phase }, { on := 8, ground := Go.Ground.phase }, { on := 9, ground := Go.Ground.phase }], guard := none }) (v := ?v10p8) rfl (by kernel_rfl) (by kernel_rfl) (by kernel_rfl) (fun _ _ _ h => h) (Or.inl ⟨by rfl, ?hy10p8⟩) hHeld ?rest10p8
    case hy10p8 =>
      intro W' hV
      try dsimp only at hV
      go_simp
      all_goals with_reducible rfl
    case' rest10p8 => try simp only [Act.put, List.setIfInBounds_toArray, List.set_cons_zero, List.set_cons_succ]
    refine wpAnyH_done (by kernel_rfl) ?_ _
    clear hHeld
    have HF := HBD3
    go_wp2
    go_ret
    exact ⟨rfl, (HV1.out.trans (HV2.out.mono HV1.out.size)).trans (HF.out.mono (by have := HV1.out.size; have := HV2.out.size; omega))⟩
end Go.Proofs.YtadcgngiofdhcaaDoor
