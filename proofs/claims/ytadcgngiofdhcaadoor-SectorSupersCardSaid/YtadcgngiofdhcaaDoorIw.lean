/- Package sector: a super's bytes. -/
import Derived.Test.YtadcgngiofdhcaaDoorIv
import Derived.Test.YtadcgngiofdhcaaDoorQJ3
import Derived.Test.YtadcgngiofdhcaaDoorUnp
namespace Go.Proofs.YtadcgngiofdhcaaDoor
open Go.ChangeShapes Go.WideShapes Go.ChangeAt Go.RowKit Go.Shelf
set_option linter.unusedVariables false
set_option linter.unusedSimpArgs false
set_option maxRecDepth 100000
attribute [local go_sem] Oper.semAt_some

/-- A whole row read, under a guard that lets it. -/
theorem wpList_load_rowG {P : Program} {ops : Array Oper} {rest : List Oper} {o : Oper} {a : Act} {w : World} {Q : Exit → Act → World → Prop} (hw : Region.wanted o (yielded ops a.tmps) = true) (ty : TypeId) (x : Operand) (ho : o.op = .load ty x)
    (g : Nat) (hx : a.eval x = .pointer (some ⟨g, 0, none⟩)) (t : TypeId) (cs : Array Value) (fr : Nat × Nat) (d : TypeDesc) (hg : w.heap[g]? = some (.cells cs t fr))
    (hu : P.underlying ty = some d) (hd : (match d with | .struct _ | .array _ _ => true | _ => false) = true) (hi : (P.info? ty).map (·.size) = some cs.size)
    (h : wpList P ops Q rest (a.put o.dst (.agg cs)) w) : wpList P ops Q (o :: rest) a w :=
  wpList_step fun K hK => by rw [if_pos hw]; exact wp_load_row ty x ho g hx t cs fr d hg hu hd hi (hK _ _ h)
theorem sizeSu : (Tryd.prog.info? 30).map (·.size) = some 276 := by kernel_rfl
theorem und8 : Tryd.prog.underlying 27 = some (.array 8 5) := by kernel_rfl
theorem slice8 (W : World) (g o : Nat) : (Instr.sliceAt 27 (.pointer (some ⟨g, o, none⟩)) none none none).run Tryd.prog W = .ok (.slice (some ⟨g, o, none⟩) 8 8) W := by
  rw [run_sliceAt_array_all W 27 ⟨g, o, none⟩ und8, show (sizeOf (Tryd.prog.elem 27)).run Tryd.prog W = .ok 1 W by kernel_rfl, show Tryd.prog.arrayLen 27 = 8 by kernel_rfl]
  show Result.ok (slicedAt _ _ _ _ _) W = _
  simp [slicedAt, Addr.add]
theorem slice256a (W : World) (g o : Nat) : (Instr.sliceAt 28 (.pointer (some ⟨g, o, none⟩)) none none none).run Tryd.prog W = .ok (.slice (some ⟨g, o, none⟩) 256 256) W := by
  rw [run_sliceAt_array_all W 28 ⟨g, o, none⟩ und256, size256, len256]
  show Result.ok (slicedAt _ _ _ _ _) W = _
  simp [slicedAt, Addr.add]
theorem SuB.bs {w : World} {b : Nat} {P : SU} (h : SuB w b P) (hP : P.Wf) : Bs w w.heap.size (some ⟨b, 0, none⟩) P.nm := fun h0 => ⟨b, 0, rfl, h.lt, fun i hi => by rw [Nat.zero_add]; exact h.nm (by rw [← hP.nm.1]; exact hi)⟩
theorem SuB.ls {w : World} {b : Nat} {P : SU} (h : SuB w b P) (hP : P.Wf) : ArgL w (some ⟨b, 16, none⟩) 256 256 P.inn := ⟨hP.inn, fun h0 => ⟨b, 16, rfl, h.lt, fun i hi => h.inn (by rw [← hP.inn]; exact hi)⟩, Nat.le_refl _, by unfold maxLen; omega⟩
theorem SuB.on {w w' : World} {b : Nat} {P : SU} (h : SuB w b P) (hb : Below w.heap.size w w') : SuB w' b P := Blk.on h hb h.lt
theorem bs_five (W : World) (x y z u v : Int) : Bs (W.alloc (.cells #[.int .u8 x, .int .u8 y, .int .u8 z, .int .u8 u, .int .u8 v] 5)) (W.heap.size + 1) (some ⟨W.heap.size, 0, none⟩) [x, y, z, u, v] := fun h0 => ⟨W.heap.size, 0, rfl, by omega, fun j hj => by
  rw [cell_of_row _ _ _ _ _ _ (heap_alloc_new W _)]
  match j, hj with
  | 0, _ => rfl
  | 1, _ => rfl
  | 2, _ => rfl
  | 3, _ => rfl
  | 4, _ => rfl
  | j + 5, hj => simp at hj; omega⟩
theorem bs_one (W : World) (x : Int) : Bs (W.alloc (.cells #[.int .u8 x] 5)) (W.heap.size + 1) (some ⟨W.heap.size, 0, none⟩) [x] := fun h0 => ⟨W.heap.size, 0, rfl, by omega, fun j hj => by
  rw [cell_of_row _ _ _ _ _ _ (heap_alloc_new W _)]
  match j, hj with
  | 0, _ => rfl
  | j + 1, hj => simp at hj⟩
theorem conv2u (A : World) (x y : Int) : (convert 22 22 (.slice (some ⟨A.heap.size, 0, none⟩) 2 2)).run Tryd.prog (A.alloc (.cells #[.int .u8 x, .int .u8 y] 5)) = .ok (.slice (some ⟨A.heap.size, 0, none⟩) 2 2) (A.alloc (.cells #[.int .u8 x, .int .u8 y] 5 (2, 3))) :=
  Lib.run_convert_bytes_const (P := Tryd.prog) A 22 5 #[.int .u8 x, .int .u8 y] 2 2 Tryd.underlying22 Tryd.underlying5
theorem own_base_le {w : World} {base n : Nat} {e : TypeId} {v : Value} {l : List Int} (h : w.ownsRow base e 1 v n (l.map (Value.int .u8))) (hn : 0 < n) : base ≤ w.heap.size := by
  rcases h.2 with ⟨_, h0⟩ | ⟨g, cap, cur, hv, _⟩
  · omega
  · have := h.lt g (by rw [hv]; rfl); omega
theorem w32 {x : Int} (h : u32I x) : (Lit.int .u32 x).wf = true := by
  unfold u32I at h
  simp [Lit.wf, IntKind.min, IntKind.max, IntKind.signed, IntKind.bits]; omega
set_option maxHeartbeats 16000000 in
theorem superBytes_any (P : SU) (hP : P.Wf) (w : World) (hG : Gl w) :
    Calls Tryd.prog 6 #[suA P] w fun e w' => ∃ a k, e = .returned (.tuple #[.slice a P.S.length k, .int .i64 P.E]) ∧ Arg8c w' a P.S.length k P.S ∧ (NewS w a P.S.length ∧ (0 < P.S.length → w'.ownsRow w.heap.size 5 1 (.slice a P.S.length k) P.S.length (P.S.map (Value.int .u8)))) ∧ Below w.heap.size w w' := by
  obtain ⟨S, hS⟩ : ∃ S, S = P.S := ⟨_, rfl⟩
  obtain ⟨E, hE⟩ : ∃ E, E = P.E := ⟨_, rfl⟩
  rw [← hS, ← hE]
  obtain ⟨hwA, hSA⟩ := su_box P w
  have H1 := Lib.hid (fun W => counts_any P hP W)
  have H2 := Lib.hid (fun W => known_any P hP W)
  have H3 := Lib.hid (fun W => cursors_any P hP W)
  obtain ⟨s0, hs0⟩ : ∃ s, s = tabV 276 (suV P) := ⟨_, rfl⟩
  have HTB := Lib.hid hs0
  have HSZ := Lib.hid (show (Tryd.prog.info? 30).map (·.size) = some s0.size by rw [hs0, size_tabV]; exact sizeSu)
  unfold suA at H1 H2 H3 ⊢
  rw [← hs0] at hwA hSA H1 H2 H3 ⊢
  obtain ⟨A, hA⟩ : ∃ A, A = w.alloc (.cells s0 30) := ⟨_, rfl⟩
  have hAs : A.heap.size = w.heap.size + 1 := by rw [hA]; simp
  rw [← hA] at hwA hSA
  have HA := Lib.hid (And.intro hA (And.intro hwA (And.intro hAs hSA)))
  have HR := Lib.hid (show ∀ W, SuB W w.heap.size P → W.heap[w.heap.size]? = some (.cells s0 30 (0, 0)) from fun W h => by rw [hs0]; exact h)
  have HG := Lib.hid hG
  clear hs0 hwA hSA hA hAs hG
  by_cases k1 : P.Ok1
  case neg =>
    have hno : ¬ P.Ok := fun h => k1 h.1
    have HE := Lib.hid (show S = [] ∧ E = 2 from ⟨by rw [hS]; exact (SU.S_no hno).1, by rw [hE]; exact (SU.S_no hno).2⟩)
    clear hS hE hno
    have E1 := Lib.hid (show decide P.Ok1 = false from decide_eq_false k1)
    go_enter Tryd.func6, Tryd.ntmps6
    go_wp2_with (first
      | ((with_reducible show wpList _ _ _ (⟨some 5, _, _, _, _, _⟩ :: _) _ _); go_loud (refine wpList_load_row rfl 30 (.tmp 1) rfl w.heap.size rfl 30 s0 (0, 0) _ (by rw [← HA.out.1]; exact HR.out _ HA.out.2.2.2) Tryd.underlying30 rfl HSZ.out ?_))
      | (go_at_call 14; go_loud (rw [← HA.out.1]; refine (H1.out _).mono ?_; rintro e w1 ⟨rfl, hb⟩; rw [E1.out]; have Sw1 := Lib.hid (HA.out.2.2.2.on hb); have Bw1 := Lib.hid (show Below A.heap.size A w1 from hb); clear hb)))
    go_ret2
    exact ⟨none, 0, by rw [HE.out.1, HE.out.2]; rfl, by rw [HE.out.1]; exact arg8c_nil _, ⟨(fun h => by rw [HE.out.1] at h; simp at h), (fun h => by rw [HE.out.1] at h; simp at h)⟩, bt HA.out.2.1 Bw1.out⟩
  case pos =>
    have E1 := Lib.hid (show decide P.Ok1 = true from decide_eq_true k1)
    by_cases k2 : P.Ok2
    case neg =>
      have hno : ¬ P.Ok := fun h => k2 h.2.1
      have HE := Lib.hid (show S = [] ∧ E = 2 from ⟨by rw [hS]; exact (SU.S_no hno).1, by rw [hE]; exact (SU.S_no hno).2⟩)
      clear hS hE hno
      have E2 := Lib.hid (show decide P.Ok2 = false from decide_eq_false k2)
      go_enter Tryd.func6, Tryd.ntmps6
      go_wp2_with (first
        | ((with_reducible show wpList _ _ _ (⟨some 5, _, _, _, _, _⟩ :: _) _ _); go_loud (refine wpList_load_row rfl 30 (.tmp 1) rfl w.heap.size rfl 30 s0 (0, 0) _ (by rw [← HA.out.1]; exact HR.out _ HA.out.2.2.2) Tryd.underlying30 rfl HSZ.out ?_))
        | (go_at_call 14; go_loud (rw [← HA.out.1]; refine (H1.out _).mono ?_; rintro e w1 ⟨rfl, hb⟩; rw [E1.out]; have Sw1 := Lib.hid (HA.out.2.2.2.on hb); have Bw1 := Lib.hid (show Below A.heap.size A w1 from hb); clear hb))
        | ((with_reducible show wpList _ _ _ (⟨some 9, _, _, _, _, _⟩ :: _) _ _); go_loud (refine wpList_load_rowG (by rfl) 30 (.tmp 1) rfl w.heap.size rfl 30 s0 (0, 0) _ (HR.out _ Sw1.out) Tryd.underlying30 rfl HSZ.out ?_))
        | (go_at_call 15; go_loud (refine (H2.out _).mono ?_; rintro e w2 ⟨rfl, hb⟩; rw [E2.out]; have Sw2 := Lib.hid (Sw1.out.on hb); have Bw2 := Lib.hid (show Below A.heap.size A w2 from bt Bw1.out hb); clear hb)))
      go_ret2
      exact ⟨none, 0, by rw [HE.out.1, HE.out.2]; rfl, by rw [HE.out.1]; exact arg8c_nil _, ⟨(fun h => by rw [HE.out.1] at h; simp at h), (fun h => by rw [HE.out.1] at h; simp at h)⟩, bt HA.out.2.1 Bw2.out⟩
    case pos =>
      have E2 := Lib.hid (show decide P.Ok2 = true from decide_eq_true k2)
      by_cases k3 : P.Ok3
      case neg =>
        have hno : ¬ P.Ok := fun h => k3 h.2.2
        have HE := Lib.hid (show S = [] ∧ E = 2 from ⟨by rw [hS]; exact (SU.S_no hno).1, by rw [hE]; exact (SU.S_no hno).2⟩)
        clear hS hE hno
        have E3 := Lib.hid (show decide P.Ok3 = false from decide_eq_false k3)
        go_enter Tryd.func6, Tryd.ntmps6
        go_wp2_with (first
          | ((with_reducible show wpList _ _ _ (⟨some 5, _, _, _, _, _⟩ :: _) _ _); go_loud (refine wpList_load_row rfl 30 (.tmp 1) rfl w.heap.size rfl 30 s0 (0, 0) _ (by rw [← HA.out.1]; exact HR.out _ HA.out.2.2.2) Tryd.underlying30 rfl HSZ.out ?_))
          | (go_at_call 14; go_loud (rw [← HA.out.1]; refine (H1.out _).mono ?_; rintro e w1 ⟨rfl, hb⟩; rw [E1.out]; have Sw1 := Lib.hid (HA.out.2.2.2.on hb); have Bw1 := Lib.hid (show Below A.heap.size A w1 from hb); clear hb))
          | ((with_reducible show wpList _ _ _ (⟨some 9, _, _, _, _, _⟩ :: _) _ _); go_loud (refine wpList_load_rowG (by rfl) 30 (.tmp 1) rfl w.heap.size rfl 30 s0 (0, 0) _ (HR.out _ Sw1.out) Tryd.underlying30 rfl HSZ.out ?_))
          | (go_at_call 15; go_loud (refine (H2.out _).mono ?_; rintro e w2 ⟨rfl, hb⟩; rw [E2.out]; have Sw2 := Lib.hid (Sw1.out.on hb); have Bw2 := Lib.hid (show Below A.heap.size A w2 from bt Bw1.out hb); clear hb))
          | ((with_reducible show wpList _ _ _ (⟨some 14, _, _, _, _, _⟩ :: _) _ _); go_loud (refine wpList_load_rowG (by rfl) 30 (.tmp 1) rfl w.heap.size rfl 30 s0 (0, 0) _ (HR.out _ Sw2.out) Tryd.underlying30 rfl HSZ.out ?_))
          | (go_at_call 16; go_loud (refine (H3.out _).mono ?_; rintro e w3 ⟨rfl, hb⟩; rw [E3.out]; have Sw3 := Lib.hid (Sw2.out.on hb); have Bw3 := Lib.hid (show Below A.heap.size A w3 from bt Bw2.out hb); clear hb)))
        go_ret2
        exact ⟨none, 0, by rw [HE.out.1, HE.out.2]; rfl, by rw [HE.out.1]; exact arg8c_nil _, ⟨(fun h => by rw [HE.out.1] at h; simp at h), (fun h => by rw [HE.out.1] at h; simp at h)⟩, bt HA.out.2.1 Bw3.out⟩
      case pos =>
        have E3 := Lib.hid (show decide P.Ok3 = true from decide_eq_true k3)
        have hok : P.Ok := ⟨k1, k2, k3⟩
        have HE := Lib.hid (show S = P.B ∧ E = 0 from ⟨by rw [hS]; exact (SU.S_ok hok).1, by rw [hE]; exact (SU.S_ok hok).2⟩)
        clear hS hE hok k1 k2 k3
        go_enter Tryd.func6, Tryd.ntmps6
        go_upto_region 3 with (first
          | ((with_reducible show wpList _ _ _ (⟨some 5, _, _, _, _, _⟩ :: _) _ _); go_loud (refine wpList_load_row rfl 30 (.tmp 1) rfl w.heap.size rfl 30 s0 (0, 0) _ (by rw [← HA.out.1]; exact HR.out _ HA.out.2.2.2) Tryd.underlying30 rfl HSZ.out ?_))
          | (go_at_call 14; go_loud (rw [← HA.out.1]; refine (H1.out _).mono ?_; rintro e w1 ⟨rfl, hb⟩; rw [E1.out]; have Sw1 := Lib.hid (HA.out.2.2.2.on hb); have Bw1 := Lib.hid (show Below A.heap.size A w1 from hb); clear hb))
          | ((with_reducible show wpList _ _ _ (⟨some 9, _, _, _, _, _⟩ :: _) _ _); go_loud (refine wpList_load_rowG (by rfl) 30 (.tmp 1) rfl w.heap.size rfl 30 s0 (0, 0) _ (HR.out _ Sw1.out) Tryd.underlying30 rfl HSZ.out ?_))
          | (go_at_call 15; go_loud (refine (H2.out _).mono ?_; rintro e w2 ⟨rfl, hb⟩; rw [E2.out]; have Sw2 := Lib.hid (Sw1.out.on hb); have Bw2 := Lib.hid (show Below A.heap.size A w2 from bt Bw1.out hb); clear hb))
          | ((with_reducible show wpList _ _ _ (⟨some 14, _, _, _, _, _⟩ :: _) _ _); go_loud (refine wpList_load_rowG (by rfl) 30 (.tmp 1) rfl w.heap.size rfl 30 s0 (0, 0) _ (HR.out _ Sw2.out) Tryd.underlying30 rfl HSZ.out ?_))
          | (go_at_call 16; go_loud (refine (H3.out _).mono ?_; rintro e w3 ⟨rfl, hb⟩; rw [E3.out]; have Sw3 := Lib.hid (Sw2.out.on hb); have Bw3 := Lib.hid (show Below A.heap.size A w3 from bt Bw2.out hb); clear hb)))
        clear H1 H2 H3 E1 E2 E3
        obtain ⟨i5, hi5, hz5⟩ := Option.map_eq_some_iff.1 info5
        simp only [Prod.mk.injEq] at hz5
        have HI := Lib.hid (And.intro hi5 hz5)
        clear hi5 hz5
        have hkc := fun A => conv2u A 76 85
        have hsl8 := fun W => slice8 W w.heap.size 0
        have hsla := fun W => slice256a W w.heap.size 16
        have HSB := Lib.hid (show ∀ W, Below A.heap.size A W → SuB W w.heap.size P from fun W hW => HA.out.2.2.2.on hW)
        obtain ⟨C, hC⟩ : ∃ C, C = w3.alloc (.cells #[.int .u8 76, .int .u8 85] 5 (2, 3)) := ⟨_, rfl⟩
        have hbC : Below w3.heap.size w3 C := by rw [hC]; exact (Below.refl _ _).alloc (Nat.le_refl _) _
        have hbt := bs_two w3 76 85 (2, 3)
        rw [← hC] at hbt
        have HC := Lib.hid (And.intro hC (And.intro (bt Bw3.out hbC) hbt))
        clear hC hbC hbt
        go_upto_region 4 with ((with_reducible show wpList _ _ _ (⟨some 22, _, _, _, _, _⟩ :: _) _ _); go_loud (refine wpList_append_full _ rfl (.tmp 19) (.tmp 21) 22 rfl 5 i5 Tryd.underlying22 HI.out.1 HI.out.2.1 HI.out.2.2.1 HI.out.2.2.2 ⟨w3.heap.size, 0, none⟩ 2 [76, 85] rfl rfl (w3.heap.size + 1) (by rw [← HC.out.1]; exact HC.out.2.2) ⟨w.heap.size, 0, none⟩ 8 8 P.nm rfl hP.nm.1 C.heap.size (by rw [← HC.out.1]; exact (HSB.out _ HC.out.2.1).bs hP) (by omega) (by omega) ?_; rw [← HC.out.1]; intro v2 w4 ho2 hb2; have HO4 := Lib.hid ho2; have B4 := Lib.hid (bt HC.out.2.1 hb2); obtain ⟨a4, c4, hv2, -⟩ := own_form ho2; subst hv2; clear ho2 hb2))
        have HZC := Lib.hid HC.out.2.1.size
        have Z4 := Lib.hid B4.out.size
        have HCA := Lib.hid HC.out.2.1.size
        have HCS := Lib.hid (show C.heap.size ≤ w4.heap.size from own_base_le HO4.out (by omega))
        obtain ⟨n0, n1, n2, n3, n4, -, -, -, -, -, -, -⟩ := (HSB.out w4 B4.out).num
        have hw5 : Below w4.heap.size w4 (w4.alloc (.cells #[.int .u8 P.p, .int .u8 P.n, .int .u8 P.t, .int .u8 P.m, .int .u8 P.c] 5)) := (Below.refl _ _).alloc (Nat.le_refl _) _
        have HW5 := Lib.hid (bt B4.out hw5)
        clear hw5
        go_upto_region 5 with ((with_reducible show wpList _ _ _ (⟨some 35, _, _, _, _, _⟩ :: _) _ _); go_loud (refine wpList_append_bs _ rfl (.tmp 23) (.tmp 34) 22 rfl C.heap.size 5 i5 Tryd.underlying22 HI.out.1 HI.out.2.1 HI.out.2.2.1 HI.out.2.2.2 _ 10 ([76, 85] ++ P.nm) rfl (HO4.out.alloc _) (some ⟨w4.heap.size, 0, none⟩) 5 5 (w4.heap.size + 1) [P.p, P.n, P.t, P.m, P.c] rfl (bs_five w4 _ _ _ _ _) rfl (by simp) (by omega) (by have := HCS.out; simp; omega) ?_; intro v2 w5 ho2 hg2; have HO5 := Lib.hid ho2; have B5 := Lib.hid (HW5.out.grown hg2 (by have := HW5.out.size; omega) (fun j e => by have := (HO4.out.lt j e).1; have := HCA.out; omega)); obtain ⟨a5, c5, hv2, -⟩ := own_form ho2; subst hv2; clear ho2 hg2))
        clear n0 n1 n2 n3 n4
        have HP1 := Lib.hid (put32 a5 15 c5 (([76, 85] ++ P.nm) ++ [P.p, P.n, P.t, P.m, P.c]) w5 (by simp [hP.nm.1]) (Bs.of_own HO5.out).1 (by omega) P.bl (w32 hP.bl))
        obtain ⟨-, -, -, -, -, q0, -, -, -, -, -, -⟩ := (HSB.out w5 B5.out).num
        go_upto_region 8 with (first
          | (go_at_call 17; go_loud (refine HP3.out.mono ?_; rintro e w8 ⟨g8, rfl, ho, hb⟩; have B8 := Lib.hid (bt B7.out hb); have HO8 := Lib.hid ho; clear ho hb))
          | (go_at_call 17; go_loud (refine HP2.out.mono ?_; rintro e w7 ⟨g7, rfl, ho, hb⟩; have B7 := Lib.hid (bt B6.out hb); have HO7 := Lib.hid ho; have HP3 := Lib.hid (put32 (some ⟨g7, 0, none⟩) 23 23 (((([76, 85] ++ P.nm) ++ [P.p, P.n, P.t, P.m, P.c]) ++ be 4 P.bl) ++ be 4 P.bo) w7 (by simp [hP.nm.1, length_be, length_packL, hP.inn]) (Bs.of_own ho).1 (by omega) P.ep (w32 hP.ep)); obtain ⟨-, -, -, -, -, -, -, q2, -, -, -, -⟩ := (HSB.out w7 B7.out).num; clear ho hb))
          | (go_at_call 17; go_loud (refine HP1.out.mono ?_; rintro e w6 ⟨g6, rfl, ho, hb⟩; have B6 := Lib.hid (bt B5.out hb); have HO6 := Lib.hid ho; have HP2 := Lib.hid (put32 (some ⟨g6, 0, none⟩) 19 19 ((([76, 85] ++ P.nm) ++ [P.p, P.n, P.t, P.m, P.c]) ++ be 4 P.bl) w6 (by simp [hP.nm.1, length_be, length_packL, hP.inn]) (Bs.of_own ho).1 (by omega) P.bo (w32 hP.bo)); obtain ⟨-, -, -, -, -, -, q1, -, -, -, -, -⟩ := (HSB.out w6 B6.out).num; clear ho hb)))
        clear q0 q1 q2
        have HZ78 := Lib.hid (show w7.heap.size ≤ w8.heap.size from own_base_le HO8.out (by omega))
        have HPK := Lib.hid (pack_any (some ⟨w.heap.size, 16, none⟩) 256 256 P.inn w8 ((HSB.out w8 B8.out).ls hP) (by omega))
        go_upto_region 9 with (first
          | (go_at_call 18; go_loud (refine HPK.out.mono ?_; rintro e w9 ⟨g9, rfl, ho, hb⟩; have B9 := Lib.hid (bt B8.out hb); have HO9 := Lib.hid ho; have HK9 := Lib.hid hb; clear ho hb))
          | ((with_reducible show wpList _ _ _ (⟨some 52, _, _, _, _, _⟩ :: _) _ _); go_loud (refine wpList_append_bs _ rfl (.tmp 48) (.tmp 51) 22 rfl w7.heap.size 5 i5 Tryd.underlying22 HI.out.1 HI.out.2.1 HI.out.2.2.1 HI.out.2.2.2 _ 27 ((((([76, 85] ++ P.nm) ++ [P.p, P.n, P.t, P.m, P.c]) ++ be 4 P.bl) ++ be 4 P.bo) ++ be 4 P.ep) rfl (own_blockT2 HO8.out HK9.out) (some ⟨g9, 0, none⟩) 32 32 w9.heap.size (packL P.inn) rfl (Bs.of_own HO9.out).1 (by rw [length_packL, hP.inn]) (by simp) (by omega) (by have := HK9.out.size; have := HZ78.out; omega) ?_; intro v2 wa ho2 hg2; have HOa := Lib.hid ho2; have Ba := Lib.hid (B9.out.grown hg2 (by have := B9.out.size; omega) (fun j e => by have := (HO8.out.lt j e).1; have := B7.out.size; omega)); obtain ⟨aa, ca, hv2, -⟩ := own_form ho2; subst hv2; clear ho2 hg2)))
        have HP4 := Lib.hid (put32 aa 59 ca (((((([76, 85] ++ P.nm) ++ [P.p, P.n, P.t, P.m, P.c]) ++ be 4 P.bl) ++ be 4 P.bo) ++ be 4 P.ep) ++ packL P.inn) wa (by simp [hP.nm.1, length_be, length_packL, hP.inn]) (Bs.of_own HOa.out).1 (by omega) P.rf (w32 hP.rf))
        obtain ⟨-, -, -, -, -, -, -, -, q0, -, -, -⟩ := (HSB.out wa Ba.out).num
        go_upto_region 11 with (first
          | (go_at_call 17; go_loud (refine HP5.out.mono ?_; rintro e wc ⟨gc, rfl, ho, hb⟩; have Bc := Lib.hid (bt Bb.out hb); have HOc := Lib.hid ho; clear ho hb))
          | (go_at_call 17; go_loud (refine HP4.out.mono ?_; rintro e wb ⟨gb, rfl, ho, hb⟩; have Bb := Lib.hid (bt Ba.out hb); have HOb := Lib.hid ho; have HP5 := Lib.hid (put32 (some ⟨gb, 0, none⟩) 63 63 ((((((([76, 85] ++ P.nm) ++ [P.p, P.n, P.t, P.m, P.c]) ++ be 4 P.bl) ++ be 4 P.bo) ++ be 4 P.ep) ++ packL P.inn) ++ be 4 P.rf) wb (by simp [hP.nm.1, length_be, length_packL, hP.inn]) (Bs.of_own ho).1 (by omega) P.sc (w32 hP.sc)); obtain ⟨-, -, -, -, -, -, -, -, -, q1, -, -⟩ := (HSB.out wb Bb.out).num; clear ho hb)))
        clear q0 q1
        obtain ⟨-, -, -, -, -, -, -, -, -, -, q0, -⟩ := (HSB.out wc Bc.out).num
        have hwd : Below wc.heap.size wc (wc.alloc (.cells #[.int .u8 P.tg] 5)) := (Below.refl _ _).alloc (Nat.le_refl _) _
        have HWD := Lib.hid (bt Bc.out hwd)
        clear hwd
        have HZbc := Lib.hid (show wb.heap.size ≤ wc.heap.size from own_base_le HOc.out (by omega))
        go_upto_region 12 with ((with_reducible show wpList _ _ _ (⟨some 65, _, _, _, _, _⟩ :: _) _ _); go_loud (refine wpList_append_bs _ rfl (.tmp 61) (.tmp 64) 22 rfl wb.heap.size 5 i5 Tryd.underlying22 HI.out.1 HI.out.2.1 HI.out.2.2.1 HI.out.2.2.2 _ 67 (((((((([76, 85] ++ P.nm) ++ [P.p, P.n, P.t, P.m, P.c]) ++ be 4 P.bl) ++ be 4 P.bo) ++ be 4 P.ep) ++ packL P.inn) ++ be 4 P.rf) ++ be 4 P.sc) rfl (HOc.out.alloc _) (some ⟨wc.heap.size, 0, none⟩) 1 1 (wc.heap.size + 1) [P.tg] rfl (bs_one wc _) rfl (by simp) (by omega) (by have := HZbc.out; simp; omega) ?_; intro v2 wd ho2 hg2; have HOd := Lib.hid ho2; have Bd := Lib.hid (HWD.out.grown hg2 (by have := HWD.out.size; omega) (fun j e => by have := (HOc.out.lt j e).1; have := Bb.out.size; omega)); obtain ⟨ad, cd, hv2, -⟩ := own_form ho2; subst hv2; clear ho2 hg2))
        clear q0
        have HP6 := Lib.hid (put32 ad 68 cd ((((((((([76, 85] ++ P.nm) ++ [P.p, P.n, P.t, P.m, P.c]) ++ be 4 P.bl) ++ be 4 P.bo) ++ be 4 P.ep) ++ packL P.inn) ++ be 4 P.rf) ++ be 4 P.sc) ++ [P.tg]) wd (by simp [hP.nm.1, length_be, length_packL, hP.inn]) (Bs.of_own HOd.out).1 (by omega) P.rs (w32 hP.rs))
        obtain ⟨-, -, -, -, -, -, -, -, -, -, -, q0⟩ := (HSB.out wd Bd.out).num
        go_upto_region 13 with (go_at_call 17; go_loud (refine HP6.out.mono ?_; rintro e we ⟨ge, rfl, ho, hb⟩; have Be := Lib.hid (bt Bd.out hb); have HOe := Lib.hid ho; clear ho hb))
        clear q0
        have HH := Lib.hid (show (((((((((([76, 85] ++ P.nm) ++ [P.p, P.n, P.t, P.m, P.c]) ++ be 4 P.bl) ++ be 4 P.bo) ++ be 4 P.ep) ++ packL P.inn) ++ be 4 P.rf) ++ be 4 P.sc) ++ [P.tg]) ++ be 4 P.rs) = P.H by unfold SU.H; simp only [List.append_assoc])
        rw [HH.out] at HOe
        obtain ⟨W1, hW1⟩ : ∃ W, W = we.alloc (.cells #[.slice (some ⟨ge, 0, none⟩) 72 72] 22) := ⟨_, rfl⟩
        have hbe1 : Below we.heap.size we W1 := by rw [hW1]; exact (Below.refl _ _).alloc (Nat.le_refl _) _
        have hce : W1.cell? ⟨we.heap.size, 0, none⟩ = some (.slice (some ⟨ge, 0, none⟩) 72 72) := by rw [hW1]; exact (cell_of_row _ _ 0 _ _ _ (heap_alloc_new we _)).trans rfl
        have HSU := Lib.hid (sum_one_cap we.heap.size (some ⟨ge, 0, none⟩) 72 72 P.H W1 hce (by rw [hW1]; simp) ((arg_own HOe.out (SU.H_B hP)).onV hbe1).1 (by omega) (HG.out.on (bt (bt HA.out.2.1 Be.out) hbe1) HG.out.1))
        have HW1 := Lib.hid (And.intro hW1 hbe1)
        have HZde := Lib.hid (show wd.heap.size ≤ we.heap.size from own_base_le HOe.out (by omega))
        clear hW1 hbe1 hce
        go_upto_region 14 with (first
          | (go_at_call 19; go_loud (rw [← HW1.out.1]; refine HSU.out.mono ?_; rintro e wf ⟨gf, cf, rfl, hr, hb, hc⟩; have hqc : (8 : Int) ≤ (cf : Int) := (by omega); have HRF := Lib.hid hr; have HKF := Lib.hid (bt HW1.out.2 hb); have Bf := Lib.hid (bt Be.out (bt HW1.out.2 hb)); have HCF := Lib.hid hc; clear hr hb hc))
          | ((with_reducible show wpList _ _ _ (⟨some 75, _, _, _, _, _⟩ :: _) _ _); go_loud (refine wpList_append_bs _ rfl (.tmp 70) (.tmp 74) 22 rfl wd.heap.size 5 i5 Tryd.underlying22 HI.out.1 HI.out.2.1 HI.out.2.2.1 HI.out.2.2.2 _ 72 P.H rfl (own_blockT2 HOe.out HKF.out) (some ⟨gf, 0, none⟩) 8 cf wf.heap.size ((shaL P.H).take 8) rfl (HRF.out.bs.take 8) (by rw [List.length_take, shaL_len]; rfl) (by simp) (by omega) (by have := HKF.out.size; have := HZde.out; omega) ?_; intro v2 wg ho2 hg2; have HOg := Lib.hid ho2; have Bg := Lib.hid (Bf.out.grown hg2 (by have := Bf.out.size; omega) (fun j e => by have := (HOe.out.lt j e).1; have := Bd.out.size; omega)); obtain ⟨ag, cg, hv2, -⟩ := own_form ho2; subst hv2; clear ho2 hg2)))
        have HW := Lib.hid (whole_any ag 80 cg (P.H ++ (shaL P.H).take 8) wg (arg_own HOg.out (allB_app2 (SU.H_B hP) ((shaL_B _).takeB 8))))
        go_wp2_with (go_at_call 20; go_loud (refine HW.out.mono ?_; rintro e wh ⟨gh, rfl, how, ha, hn, hb⟩; have HOWh := Lib.hid how; have HAh := Lib.hid ha; have HNh := Lib.hid hn; have Bh := Lib.hid (bt Bg.out hb); clear how ha hn hb))
        go_ret2
        have hl80 : (P.H ++ (shaL P.H).take 8).length = 80 := by rw [List.length_append, SU.H_len hP, List.length_take, shaL_len]; rfl
        have hSB : S = madeL (P.H ++ (shaL P.H).take 8) := by rw [HE.out.1, madeL_sz (by omega)]; rfl
        have hl : S.length = 512 := by rw [hSB]; exact madeL_len _
        refine ⟨some ⟨gh, 0, none⟩, 512, by rw [hl, HE.out.2]; rfl, ?_, ⟨(fun _ b o e => by cases e; have := HNh.out; have := Bg.out.size; have := HA.out.2.2.1; omega), (fun _ => by rw [hl, hSB]; exact own_base HOWh.out (by have := Bg.out.size; have := HA.out.2.2.1; omega))⟩, bt HA.out.2.1 Bh.out⟩
        rw [hl, hSB]
        exact HAh.out
end Go.Proofs.YtadcgngiofdhcaaDoor
