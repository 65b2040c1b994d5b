/- Texts of mine, one behind the other: Iw Ix Iy. -/
import Derived.Test.YtkfdcdfaikkneaaGreatDoorDI
import Derived.Test.YtkfdcdfaikkneaaGreatDoorQJ3
import Derived.Test.YtkfdcdfaikkneaaGreatDoorDD
import Derived.Test.YtkfdcdfaikkneaaGreatDoorDG
import Derived.Laws.Cover3
import Derived.Great.BuildSlice
import Derived.Deep.MidRow
/- Package sector: a super's bytes. -/
namespace Go.Proofs.YtkfdcdfaikkneaaGreatDoor
open Go.ChangeShapes Go.WideShapes Go.ChangeAt Go.RowKit Go.Shelf
set_option linter.unusedVariables false
set_option linter.unusedSimpArgs false
set_option maxRecDepth 100000
attribute [local go_sem] Oper.semAt_some

/-- A whole row read, under a guard that lets it. -/
theorem wpList_load_rowG {P : Program} {ops : Array Oper} {rest : List Oper} {o : Oper} {a : Act} {w : World} {Q : Exit → Act → World → Prop} (hw : Region.wanted o (yielded ops a.tmps) = true) (ty : TypeId) (x : Operand) (ho : o.op = .load ty x)
    (g : Nat) (hx : a.eval x = .pointer (some ⟨g, 0, none⟩)) (t : TypeId) (cs : Array Value) (fr : Nat × Nat) (d : TypeDesc) (hg : w.heap[g]? = some (.cells cs t fr))
    (hu : P.underlying ty = some d) (hd : (match d with | .struct _ | .array _ _ => true | _ => false) = true) (hi : (P.info? ty).map (·.size) = some cs.size)
    (h : wpList P ops Q rest (a.put o.dst (.agg cs)) w) : wpList P ops Q (o :: rest) a w :=
  wpList_step fun K hK => by rw [if_pos hw]; exact wp_load_row ty x ho g hx t cs fr d hg hu hd hi (hK _ _ h)
theorem sizeSu : (Tryz.prog.info? 33).map (·.size) = some 276 := by kernel_rfl
theorem und8 : Tryz.prog.underlying 30 = some (.array 8 5) := by kernel_rfl
theorem slice8 (W : World) (g o : Nat) : (Instr.sliceAt 30 (.pointer (some ⟨g, o, none⟩)) none none none).run Tryz.prog W = .ok (.slice (some ⟨g, o, none⟩) 8 8) W := by
  rw [run_sliceAt_array_all W 30 ⟨g, o, none⟩ und8, show (sizeOf (Tryz.prog.elem 30)).run Tryz.prog W = .ok 1 W by kernel_rfl, show Tryz.prog.arrayLen 30 = 8 by kernel_rfl]
  show Result.ok (slicedAt _ _ _ _ _) W = _
  simp [slicedAt, Addr.add]
theorem slice256a (W : World) (g o : Nat) : (Instr.sliceAt 31 (.pointer (some ⟨g, o, none⟩)) none none none).run Tryz.prog W = .ok (.slice (some ⟨g, o, none⟩) 256 256) W := by
  rw [run_sliceAt_array_all W 31 ⟨g, o, none⟩ und256, size256, len256]
  show Result.ok (slicedAt _ _ _ _ _) W = _
  simp [slicedAt, Addr.add]
theorem SuB.bs {w : World} {b : Nat} {P : SU} (h : SuB w b P) (hP : P.Wf) : Bs w w.heap.size (some ⟨b, 0, none⟩) P.nm := fun h0 => ⟨b, 0, rfl, h.lt, fun i hi => by rw [Nat.zero_add]; exact h.nm (by rw [← hP.nm.1]; exact hi)⟩
theorem SuB.ls {w : World} {b : Nat} {P : SU} (h : SuB w b P) (hP : P.Wf) : ArgL w (some ⟨b, 16, none⟩) 256 256 P.inn := ⟨hP.inn, fun h0 => ⟨b, 16, rfl, h.lt, fun i hi => h.inn (by rw [← hP.inn]; exact hi)⟩, Nat.le_refl _, by unfold maxLen; omega⟩
theorem SuB.on {w w' : World} {b : Nat} {P : SU} (h : SuB w b P) (hb : Below w.heap.size w w') : SuB w' b P := Blk.on h hb h.lt
theorem bs_five (W : World) (x y z u v : Int) : Bs (W.alloc (.cells #[.int .u8 x, .int .u8 y, .int .u8 z, .int .u8 u, .int .u8 v] 5)) (W.heap.size + 1) (some ⟨W.heap.size, 0, none⟩) [x, y, z, u, v] := fun h0 => ⟨W.heap.size, 0, rfl, by omega, fun j hj => by
  rw [cell_of_row _ _ _ _ _ _ (heap_alloc_new W _)]
  match j, hj with
  | 0, _ => rfl
  | 1, _ => rfl
  | 2, _ => rfl
  | 3, _ => rfl
  | 4, _ => rfl
  | j + 5, hj => simp at hj; omega⟩
theorem bs_one (W : World) (x : Int) : Bs (W.alloc (.cells #[.int .u8 x] 5)) (W.heap.size + 1) (some ⟨W.heap.size, 0, none⟩) [x] := fun h0 => ⟨W.heap.size, 0, rfl, by omega, fun j hj => by
  rw [cell_of_row _ _ _ _ _ _ (heap_alloc_new W _)]
  match j, hj with
  | 0, _ => rfl
  | j + 1, hj => simp at hj⟩
theorem conv2u (A : World) (x y : Int) : (convert 23 23 (.slice (some ⟨A.heap.size, 0, none⟩) 2 2)).run Tryz.prog (A.alloc (.cells #[.int .u8 x, .int .u8 y] 5)) = .ok (.slice (some ⟨A.heap.size, 0, none⟩) 2 2) (A.alloc (.cells #[.int .u8 x, .int .u8 y] 5 (2, 3))) :=
  Lib.run_convert_bytes_const (P := Tryz.prog) A 23 5 #[.int .u8 x, .int .u8 y] 2 2 Tryz.underlying23 Tryz.underlying5
theorem own_base_le {w : World} {base n : Nat} {e : TypeId} {v : Value} {l : List Int} (h : w.ownsRow base e 1 v n (l.map (Value.int .u8))) (hn : 0 < n) : base ≤ w.heap.size := by
  rcases h.2 with ⟨_, h0⟩ | ⟨g, cap, cur, hv, _⟩
  · omega
  · have := h.lt g (by rw [hv]; rfl); omega
theorem w32 {x : Int} (h : u32I x) : (Lit.int .u32 x).wf = true := by
  unfold u32I at h
  simp [Lit.wf, IntKind.min, IntKind.max, IntKind.signed, IntKind.bits]; omega
set_option maxHeartbeats 16000000 in
theorem superBytes_any (P : SU) (hP : P.Wf) (w : World) (hG : Gl w) :
    Calls Tryz.prog 35 #[suA P] w fun e w' => ∃ a k, e = .returned (.tuple #[.slice a P.S.length k, .int .i64 P.E]) ∧ Arg8c w' a P.S.length k P.S ∧ (NewS w a P.S.length ∧ (0 < P.S.length → w'.ownsRow w.heap.size 5 1 (.slice a P.S.length k) P.S.length (P.S.map (Value.int .u8)))) ∧ Below w.heap.size w w' := by
  obtain ⟨S, hS⟩ : ∃ S, S = P.S := ⟨_, rfl⟩
  obtain ⟨E, hE⟩ : ∃ E, E = P.E := ⟨_, rfl⟩
  rw [← hS, ← hE]
  obtain ⟨hwA, hSA⟩ := su_box P w
  have H1 := Lib.hid (fun W => counts_any P hP W)
  have H2 := Lib.hid (fun W => known_any P hP W)
  have H3 := Lib.hid (fun W => cursors_any P hP W)
  obtain ⟨s0, hs0⟩ : ∃ s, s = tabV 276 (suV P) := ⟨_, rfl⟩
  have HTB := Lib.hid hs0
  have HSZ := Lib.hid (show (Tryz.prog.info? 33).map (·.size) = some s0.size by rw [hs0, size_tabV]; exact sizeSu)
  unfold suA at H1 H2 H3 ⊢
  rw [← hs0] at hwA hSA H1 H2 H3 ⊢
  obtain ⟨A, hA⟩ : ∃ A, A = w.alloc (.cells s0 33) := ⟨_, rfl⟩
  have hAs : A.heap.size = w.heap.size + 1 := by rw [hA]; simp
  rw [← hA] at hwA hSA
  have HA := Lib.hid (And.intro hA (And.intro hwA (And.intro hAs hSA)))
  have HR := Lib.hid (show ∀ W, SuB W w.heap.size P → W.heap[w.heap.size]? = some (.cells s0 33 (0, 0)) from fun W h => by rw [hs0]; exact h)
  have HG := Lib.hid hG
  clear hs0 hwA hSA hA hAs hG
  by_cases k1 : P.Ok1
  case neg =>
    have hno : ¬ P.Ok := fun h => k1 h.1
    have HE := Lib.hid (show S = [] ∧ E = 2 from ⟨by rw [hS]; exact (SU.S_no hno).1, by rw [hE]; exact (SU.S_no hno).2⟩)
    clear hS hE hno
    have E1 := Lib.hid (show decide P.Ok1 = false from decide_eq_false k1)
    go_enter Tryz.func35, Tryz.ntmps35
    go_wp2_with (first
      | ((with_reducible show wpList _ _ _ (⟨some 5, _, _, _, _, _⟩ :: _) _ _); go_loud (refine wpList_load_row rfl 33 (.tmp 1) rfl w.heap.size rfl 33 s0 (0, 0) _ (by rw [← HA.out.1]; exact HR.out _ HA.out.2.2.2) Tryz.underlying33 rfl HSZ.out ?_))
      | (go_at_call 61; go_loud (rw [← HA.out.1]; refine (H1.out _).mono ?_; rintro e w1 ⟨rfl, hb⟩; rw [E1.out]; have Sw1 := Lib.hid (HA.out.2.2.2.on hb); have Bw1 := Lib.hid (show Below A.heap.size A w1 from hb); clear hb)))
    go_ret2
    exact ⟨none, 0, by rw [HE.out.1, HE.out.2]; rfl, by rw [HE.out.1]; exact arg8c_nil _, ⟨(fun h => by rw [HE.out.1] at h; simp at h), (fun h => by rw [HE.out.1] at h; simp at h)⟩, bt HA.out.2.1 Bw1.out⟩
  case pos =>
    have E1 := Lib.hid (show decide P.Ok1 = true from decide_eq_true k1)
    by_cases k2 : P.Ok2
    case neg =>
      have hno : ¬ P.Ok := fun h => k2 h.2.1
      have HE := Lib.hid (show S = [] ∧ E = 2 from ⟨by rw [hS]; exact (SU.S_no hno).1, by rw [hE]; exact (SU.S_no hno).2⟩)
      clear hS hE hno
      have E2 := Lib.hid (show decide P.Ok2 = false from decide_eq_false k2)
      go_enter Tryz.func35, Tryz.ntmps35
      go_wp2_with (first
        | ((with_reducible show wpList _ _ _ (⟨some 5, _, _, _, _, _⟩ :: _) _ _); go_loud (refine wpList_load_row rfl 33 (.tmp 1) rfl w.heap.size rfl 33 s0 (0, 0) _ (by rw [← HA.out.1]; exact HR.out _ HA.out.2.2.2) Tryz.underlying33 rfl HSZ.out ?_))
        | (go_at_call 61; go_loud (rw [← HA.out.1]; refine (H1.out _).mono ?_; rintro e w1 ⟨rfl, hb⟩; rw [E1.out]; have Sw1 := Lib.hid (HA.out.2.2.2.on hb); have Bw1 := Lib.hid (show Below A.heap.size A w1 from hb); clear hb))
        | ((with_reducible show wpList _ _ _ (⟨some 9, _, _, _, _, _⟩ :: _) _ _); go_loud (refine wpList_load_rowG (by rfl) 33 (.tmp 1) rfl w.heap.size rfl 33 s0 (0, 0) _ (HR.out _ Sw1.out) Tryz.underlying33 rfl HSZ.out ?_))
        | (go_at_call 62; go_loud (refine (H2.out _).mono ?_; rintro e w2 ⟨rfl, hb⟩; rw [E2.out]; have Sw2 := Lib.hid (Sw1.out.on hb); have Bw2 := Lib.hid (show Below A.heap.size A w2 from bt Bw1.out hb); clear hb)))
      go_ret2
      exact ⟨none, 0, by rw [HE.out.1, HE.out.2]; rfl, by rw [HE.out.1]; exact arg8c_nil _, ⟨(fun h => by rw [HE.out.1] at h; simp at h), (fun h => by rw [HE.out.1] at h; simp at h)⟩, bt HA.out.2.1 Bw2.out⟩
    case pos =>
      have E2 := Lib.hid (show decide P.Ok2 = true from decide_eq_true k2)
      by_cases k3 : P.Ok3
      case neg =>
        have hno : ¬ P.Ok := fun h => k3 h.2.2
        have HE := Lib.hid (show S = [] ∧ E = 2 from ⟨by rw [hS]; exact (SU.S_no hno).1, by rw [hE]; exact (SU.S_no hno).2⟩)
        clear hS hE hno
        have E3 := Lib.hid (show decide P.Ok3 = false from decide_eq_false k3)
        go_enter Tryz.func35, Tryz.ntmps35
        go_wp2_with (first
          | ((with_reducible show wpList _ _ _ (⟨some 5, _, _, _, _, _⟩ :: _) _ _); go_loud (refine wpList_load_row rfl 33 (.tmp 1) rfl w.heap.size rfl 33 s0 (0, 0) _ (by rw [← HA.out.1]; exact HR.out _ HA.out.2.2.2) Tryz.underlying33 rfl HSZ.out ?_))
          | (go_at_call 61; go_loud (rw [← HA.out.1]; refine (H1.out _).mono ?_; rintro e w1 ⟨rfl, hb⟩; rw [E1.out]; have Sw1 := Lib.hid (HA.out.2.2.2.on hb); have Bw1 := Lib.hid (show Below A.heap.size A w1 from hb); clear hb))
          | ((with_reducible show wpList _ _ _ (⟨some 9, _, _, _, _, _⟩ :: _) _ _); go_loud (refine wpList_load_rowG (by rfl) 33 (.tmp 1) rfl w.heap.size rfl 33 s0 (0, 0) _ (HR.out _ Sw1.out) Tryz.underlying33 rfl HSZ.out ?_))
          | (go_at_call 62; go_loud (refine (H2.out _).mono ?_; rintro e w2 ⟨rfl, hb⟩; rw [E2.out]; have Sw2 := Lib.hid (Sw1.out.on hb); have Bw2 := Lib.hid (show Below A.heap.size A w2 from bt Bw1.out hb); clear hb))
          | ((with_reducible show wpList _ _ _ (⟨some 14, _, _, _, _, _⟩ :: _) _ _); go_loud (refine wpList_load_rowG (by rfl) 33 (.tmp 1) rfl w.heap.size rfl 33 s0 (0, 0) _ (HR.out _ Sw2.out) Tryz.underlying33 rfl HSZ.out ?_))
          | (go_at_call 63; go_loud (refine (H3.out _).mono ?_; rintro e w3 ⟨rfl, hb⟩; rw [E3.out]; have Sw3 := Lib.hid (Sw2.out.on hb); have Bw3 := Lib.hid (show Below A.heap.size A w3 from bt Bw2.out hb); clear hb)))
        go_ret2
        exact ⟨none, 0, by rw [HE.out.1, HE.out.2]; rfl, by rw [HE.out.1]; exact arg8c_nil _, ⟨(fun h => by rw [HE.out.1] at h; simp at h), (fun h => by rw [HE.out.1] at h; simp at h)⟩, bt HA.out.2.1 Bw3.out⟩
      case pos =>
        have E3 := Lib.hid (show decide P.Ok3 = true from decide_eq_true k3)
        have hok : P.Ok := ⟨k1, k2, k3⟩
        have HE := Lib.hid (show S = P.B ∧ E = 0 from ⟨by rw [hS]; exact (SU.S_ok hok).1, by rw [hE]; exact (SU.S_ok hok).2⟩)
        clear hS hE hok k1 k2 k3
        go_enter Tryz.func35, Tryz.ntmps35
        go_upto_region 3 with (first
          | ((with_reducible show wpList _ _ _ (⟨some 5, _, _, _, _, _⟩ :: _) _ _); go_loud (refine wpList_load_row rfl 33 (.tmp 1) rfl w.heap.size rfl 33 s0 (0, 0) _ (by rw [← HA.out.1]; exact HR.out _ HA.out.2.2.2) Tryz.underlying33 rfl HSZ.out ?_))
          | (go_at_call 61; go_loud (rw [← HA.out.1]; refine (H1.out _).mono ?_; rintro e w1 ⟨rfl, hb⟩; rw [E1.out]; have Sw1 := Lib.hid (HA.out.2.2.2.on hb); have Bw1 := Lib.hid (show Below A.heap.size A w1 from hb); clear hb))
          | ((with_reducible show wpList _ _ _ (⟨some 9, _, _, _, _, _⟩ :: _) _ _); go_loud (refine wpList_load_rowG (by rfl) 33 (.tmp 1) rfl w.heap.size rfl 33 s0 (0, 0) _ (HR.out _ Sw1.out) Tryz.underlying33 rfl HSZ.out ?_))
          | (go_at_call 62; go_loud (refine (H2.out _).mono ?_; rintro e w2 ⟨rfl, hb⟩; rw [E2.out]; have Sw2 := Lib.hid (Sw1.out.on hb); have Bw2 := Lib.hid (show Below A.heap.size A w2 from bt Bw1.out hb); clear hb))
          | ((with_reducible show wpList _ _ _ (⟨some 14, _, _, _, _, _⟩ :: _) _ _); go_loud (refine wpList_load_rowG (by rfl) 33 (.tmp 1) rfl w.heap.size rfl 33 s0 (0, 0) _ (HR.out _ Sw2.out) Tryz.underlying33 rfl HSZ.out ?_))
          | (go_at_call 63; go_loud (refine (H3.out _).mono ?_; rintro e w3 ⟨rfl, hb⟩; rw [E3.out]; have Sw3 := Lib.hid (Sw2.out.on hb); have Bw3 := Lib.hid (show Below A.heap.size A w3 from bt Bw2.out hb); clear hb)))
        clear H1 H2 H3 E1 E2 E3
        obtain ⟨i5, hi5, hz5⟩ := Option.map_eq_some_iff.1 info5
        simp only [Prod.mk.injEq] at hz5
        have HI := Lib.hid (And.intro hi5 hz5)
        clear hi5 hz5
        have hkc := fun A => conv2u A 76 85
        have hsl8 := fun W => slice8 W w.heap.size 0
        have hsla := fun W => slice256a W w.heap.size 16
        have HSB := Lib.hid (show ∀ W, Below A.heap.size A W → SuB W w.heap.size P from fun W hW => HA.out.2.2.2.on hW)
        obtain ⟨C, hC⟩ : ∃ C, C = w3.alloc (.cells #[.int .u8 76, .int .u8 85] 5 (2, 3)) := ⟨_, rfl⟩
        have hbC : Below w3.heap.size w3 C := by rw [hC]; exact (Below.refl _ _).alloc (Nat.le_refl _) _
        have hbt := bs_two w3 76 85 (2, 3)
        rw [← hC] at hbt
        have HC := Lib.hid (And.intro hC (And.intro (bt Bw3.out hbC) hbt))
        clear hC hbC hbt
        go_upto_region 4 with ((with_reducible show wpList _ _ _ (⟨some 22, _, _, _, _, _⟩ :: _) _ _); go_loud (refine wpList_append_full _ rfl (.tmp 19) (.tmp 21) 23 rfl 5 i5 Tryz.underlying23 HI.out.1 HI.out.2.1 HI.out.2.2.1 HI.out.2.2.2 ⟨w3.heap.size, 0, none⟩ 2 [76, 85] rfl rfl (w3.heap.size + 1) (by rw [← HC.out.1]; exact HC.out.2.2) ⟨w.heap.size, 0, none⟩ 8 8 P.nm rfl hP.nm.1 C.heap.size (by rw [← HC.out.1]; exact (HSB.out _ HC.out.2.1).bs hP) (by omega) (by omega) ?_; rw [← HC.out.1]; intro v2 w4 ho2 hb2; have HO4 := Lib.hid ho2; have B4 := Lib.hid (bt HC.out.2.1 hb2); obtain ⟨a4, c4, hv2, -⟩ := own_form ho2; subst hv2; clear ho2 hb2))
        have HZC := Lib.hid HC.out.2.1.size
        have Z4 := Lib.hid B4.out.size
        have HCA := Lib.hid HC.out.2.1.size
        have HCS := Lib.hid (show C.heap.size ≤ w4.heap.size from own_base_le HO4.out (by omega))
        obtain ⟨n0, n1, n2, n3, n4, -, -, -, -, -, -, -⟩ := (HSB.out w4 B4.out).num
        have hw5 : Below w4.heap.size w4 (w4.alloc (.cells #[.int .u8 P.p, .int .u8 P.n, .int .u8 P.t, .int .u8 P.m, .int .u8 P.c] 5)) := (Below.refl _ _).alloc (Nat.le_refl _) _
        have HW5 := Lib.hid (bt B4.out hw5)
        clear hw5
        go_upto_region 5 with ((with_reducible show wpList _ _ _ (⟨some 35, _, _, _, _, _⟩ :: _) _ _); go_loud (refine wpList_append_bs _ rfl (.tmp 23) (.tmp 34) 23 rfl C.heap.size 5 i5 Tryz.underlying23 HI.out.1 HI.out.2.1 HI.out.2.2.1 HI.out.2.2.2 _ 10 ([76, 85] ++ P.nm) rfl (HO4.out.alloc _) (some ⟨w4.heap.size, 0, none⟩) 5 5 (w4.heap.size + 1) [P.p, P.n, P.t, P.m, P.c] rfl (bs_five w4 _ _ _ _ _) rfl (by simp) (by omega) (by have := HCS.out; simp; omega) ?_; intro v2 w5 ho2 hg2; have HO5 := Lib.hid ho2; have B5 := Lib.hid (HW5.out.grown hg2 (by have := HW5.out.size; omega) (fun j e => by have := (HO4.out.lt j e).1; have := HCA.out; omega)); obtain ⟨a5, c5, hv2, -⟩ := own_form ho2; subst hv2; clear ho2 hg2))
        clear n0 n1 n2 n3 n4
        have HP1 := Lib.hid (put32 a5 15 c5 (([76, 85] ++ P.nm) ++ [P.p, P.n, P.t, P.m, P.c]) w5 (by simp [hP.nm.1]) (Bs.of_own HO5.out).1 (by omega) P.bl (w32 hP.bl))
        obtain ⟨-, -, -, -, -, q0, -, -, -, -, -, -⟩ := (HSB.out w5 B5.out).num
        go_upto_region 8 with (first
          | (go_at_call 64; go_loud (refine HP3.out.mono ?_; rintro e w8 ⟨g8, rfl, ho, hb⟩; have B8 := Lib.hid (bt B7.out hb); have HO8 := Lib.hid ho; clear ho hb))
          | (go_at_call 64; go_loud (refine HP2.out.mono ?_; rintro e w7 ⟨g7, rfl, ho, hb⟩; have B7 := Lib.hid (bt B6.out hb); have HO7 := Lib.hid ho; have HP3 := Lib.hid (put32 (some ⟨g7, 0, none⟩) 23 23 (((([76, 85] ++ P.nm) ++ [P.p, P.n, P.t, P.m, P.c]) ++ be 4 P.bl) ++ be 4 P.bo) w7 (by simp [hP.nm.1, length_be, length_packL, hP.inn]) (Bs.of_own ho).1 (by omega) P.ep (w32 hP.ep)); obtain ⟨-, -, -, -, -, -, -, q2, -, -, -, -⟩ := (HSB.out w7 B7.out).num; clear ho hb))
          | (go_at_call 64; go_loud (refine HP1.out.mono ?_; rintro e w6 ⟨g6, rfl, ho, hb⟩; have B6 := Lib.hid (bt B5.out hb); have HO6 := Lib.hid ho; have HP2 := Lib.hid (put32 (some ⟨g6, 0, none⟩) 19 19 ((([76, 85] ++ P.nm) ++ [P.p, P.n, P.t, P.m, P.c]) ++ be 4 P.bl) w6 (by simp [hP.nm.1, length_be, length_packL, hP.inn]) (Bs.of_own ho).1 (by omega) P.bo (w32 hP.bo)); obtain ⟨-, -, -, -, -, -, q1, -, -, -, -, -⟩ := (HSB.out w6 B6.out).num; clear ho hb)))
        clear q0 q1 q2
        have HZ78 := Lib.hid (show w7.heap.size ≤ w8.heap.size from own_base_le HO8.out (by omega))
        have HPK := Lib.hid (pack_any (some ⟨w.heap.size, 16, none⟩) 256 256 P.inn w8 ((HSB.out w8 B8.out).ls hP) (by omega))
        go_upto_region 9 with (first
          | (go_at_call 65; go_loud (refine HPK.out.mono ?_; rintro e w9 ⟨g9, rfl, ho, hb⟩; have B9 := Lib.hid (bt B8.out hb); have HO9 := Lib.hid ho; have HK9 := Lib.hid hb; clear ho hb))
          | ((with_reducible show wpList _ _ _ (⟨some 52, _, _, _, _, _⟩ :: _) _ _); go_loud (refine wpList_append_bs _ rfl (.tmp 48) (.tmp 51) 23 rfl w7.heap.size 5 i5 Tryz.underlying23 HI.out.1 HI.out.2.1 HI.out.2.2.1 HI.out.2.2.2 _ 27 ((((([76, 85] ++ P.nm) ++ [P.p, P.n, P.t, P.m, P.c]) ++ be 4 P.bl) ++ be 4 P.bo) ++ be 4 P.ep) rfl (own_blockT2 HO8.out HK9.out) (some ⟨g9, 0, none⟩) 32 32 w9.heap.size (packL P.inn) rfl (Bs.of_own HO9.out).1 (by rw [length_packL, hP.inn]) (by simp) (by omega) (by have := HK9.out.size; have := HZ78.out; omega) ?_; intro v2 wa ho2 hg2; have HOa := Lib.hid ho2; have Ba := Lib.hid (B9.out.grown hg2 (by have := B9.out.size; omega) (fun j e => by have := (HO8.out.lt j e).1; have := B7.out.size; omega)); obtain ⟨aa, ca, hv2, -⟩ := own_form ho2; subst hv2; clear ho2 hg2)))
        have HP4 := Lib.hid (put32 aa 59 ca (((((([76, 85] ++ P.nm) ++ [P.p, P.n, P.t, P.m, P.c]) ++ be 4 P.bl) ++ be 4 P.bo) ++ be 4 P.ep) ++ packL P.inn) wa (by simp [hP.nm.1, length_be, length_packL, hP.inn]) (Bs.of_own HOa.out).1 (by omega) P.rf (w32 hP.rf))
        obtain ⟨-, -, -, -, -, -, -, -, q0, -, -, -⟩ := (HSB.out wa Ba.out).num
        go_upto_region 11 with (first
          | (go_at_call 64; go_loud (refine HP5.out.mono ?_; rintro e wc ⟨gc, rfl, ho, hb⟩; have Bc := Lib.hid (bt Bb.out hb); have HOc := Lib.hid ho; clear ho hb))
          | (go_at_call 64; go_loud (refine HP4.out.mono ?_; rintro e wb ⟨gb, rfl, ho, hb⟩; have Bb := Lib.hid (bt Ba.out hb); have HOb := Lib.hid ho; have HP5 := Lib.hid (put32 (some ⟨gb, 0, none⟩) 63 63 ((((((([76, 85] ++ P.nm) ++ [P.p, P.n, P.t, P.m, P.c]) ++ be 4 P.bl) ++ be 4 P.bo) ++ be 4 P.ep) ++ packL P.inn) ++ be 4 P.rf) wb (by simp [hP.nm.1, length_be, length_packL, hP.inn]) (Bs.of_own ho).1 (by omega) P.sc (w32 hP.sc)); obtain ⟨-, -, -, -, -, -, -, -, -, q1, -, -⟩ := (HSB.out wb Bb.out).num; clear ho hb)))
        clear q0 q1
        obtain ⟨-, -, -, -, -, -, -, -, -, -, q0, -⟩ := (HSB.out wc Bc.out).num
        have hwd : Below wc.heap.size wc (wc.alloc (.cells #[.int .u8 P.tg] 5)) := (Below.refl _ _).alloc (Nat.le_refl _) _
        have HWD := Lib.hid (bt Bc.out hwd)
        clear hwd
        have HZbc := Lib.hid (show wb.heap.size ≤ wc.heap.size from own_base_le HOc.out (by omega))
        go_upto_region 12 with ((with_reducible show wpList _ _ _ (⟨some 65, _, _, _, _, _⟩ :: _) _ _); go_loud (refine wpList_append_bs _ rfl (.tmp 61) (.tmp 64) 23 rfl wb.heap.size 5 i5 Tryz.underlying23 HI.out.1 HI.out.2.1 HI.out.2.2.1 HI.out.2.2.2 _ 67 (((((((([76, 85] ++ P.nm) ++ [P.p, P.n, P.t, P.m, P.c]) ++ be 4 P.bl) ++ be 4 P.bo) ++ be 4 P.ep) ++ packL P.inn) ++ be 4 P.rf) ++ be 4 P.sc) rfl (HOc.out.alloc _) (some ⟨wc.heap.size, 0, none⟩) 1 1 (wc.heap.size + 1) [P.tg] rfl (bs_one wc _) rfl (by simp) (by omega) (by have := HZbc.out; simp; omega) ?_; intro v2 wd ho2 hg2; have HOd := Lib.hid ho2; have Bd := Lib.hid (HWD.out.grown hg2 (by have := HWD.out.size; omega) (fun j e => by have := (HOc.out.lt j e).1; have := Bb.out.size; omega)); obtain ⟨ad, cd, hv2, -⟩ := own_form ho2; subst hv2; clear ho2 hg2))
        clear q0
        have HP6 := Lib.hid (put32 ad 68 cd ((((((((([76, 85] ++ P.nm) ++ [P.p, P.n, P.t, P.m, P.c]) ++ be 4 P.bl) ++ be 4 P.bo) ++ be 4 P.ep) ++ packL P.inn) ++ be 4 P.rf) ++ be 4 P.sc) ++ [P.tg]) wd (by simp [hP.nm.1, length_be, length_packL, hP.inn]) (Bs.of_own HOd.out).1 (by omega) P.rs (w32 hP.rs))
        obtain ⟨-, -, -, -, -, -, -, -, -, -, -, q0⟩ := (HSB.out wd Bd.out).num
        go_upto_region 13 with (go_at_call 64; go_loud (refine HP6.out.mono ?_; rintro e we ⟨ge, rfl, ho, hb⟩; have Be := Lib.hid (bt Bd.out hb); have HOe := Lib.hid ho; clear ho hb))
        clear q0
        have HH := Lib.hid (show (((((((((([76, 85] ++ P.nm) ++ [P.p, P.n, P.t, P.m, P.c]) ++ be 4 P.bl) ++ be 4 P.bo) ++ be 4 P.ep) ++ packL P.inn) ++ be 4 P.rf) ++ be 4 P.sc) ++ [P.tg]) ++ be 4 P.rs) = P.H by unfold SU.H; simp only [List.append_assoc])
        rw [HH.out] at HOe
        obtain ⟨W1, hW1⟩ : ∃ W, W = we.alloc (.cells #[.slice (some ⟨ge, 0, none⟩) 72 72] 23) := ⟨_, rfl⟩
        have hbe1 : Below we.heap.size we W1 := by rw [hW1]; exact (Below.refl _ _).alloc (Nat.le_refl _) _
        have hce : W1.cell? ⟨we.heap.size, 0, none⟩ = some (.slice (some ⟨ge, 0, none⟩) 72 72) := by rw [hW1]; exact (cell_of_row _ _ 0 _ _ _ (heap_alloc_new we _)).trans rfl
        have HSU := Lib.hid (sum_one_cap we.heap.size (some ⟨ge, 0, none⟩) 72 72 P.H W1 hce (by rw [hW1]; simp) ((arg_own HOe.out (SU.H_B hP)).onV hbe1).1 (by omega) (HG.out.on (bt (bt HA.out.2.1 Be.out) hbe1) HG.out.1))
        have HW1 := Lib.hid (And.intro hW1 hbe1)
        have HZde := Lib.hid (show wd.heap.size ≤ we.heap.size from own_base_le HOe.out (by omega))
        clear hW1 hbe1 hce
        go_upto_region 14 with (first
          | (go_at_call 66; go_loud (rw [← HW1.out.1]; refine HSU.out.mono ?_; rintro e wf ⟨gf, cf, rfl, hr, hb, hc⟩; have hqc : (8 : Int) ≤ (cf : Int) := (by omega); have HRF := Lib.hid hr; have HKF := Lib.hid (bt HW1.out.2 hb); have Bf := Lib.hid (bt Be.out (bt HW1.out.2 hb)); have HCF := Lib.hid hc; clear hr hb hc))
          | ((with_reducible show wpList _ _ _ (⟨some 75, _, _, _, _, _⟩ :: _) _ _); go_loud (refine wpList_append_bs _ rfl (.tmp 70) (.tmp 74) 23 rfl wd.heap.size 5 i5 Tryz.underlying23 HI.out.1 HI.out.2.1 HI.out.2.2.1 HI.out.2.2.2 _ 72 P.H rfl (own_blockT2 HOe.out HKF.out) (some ⟨gf, 0, none⟩) 8 cf wf.heap.size ((shaL P.H).take 8) rfl (HRF.out.bs.take 8) (by rw [List.length_take, shaL_len]; rfl) (by simp) (by omega) (by have := HKF.out.size; have := HZde.out; omega) ?_; intro v2 wg ho2 hg2; have HOg := Lib.hid ho2; have Bg := Lib.hid (Bf.out.grown hg2 (by have := Bf.out.size; omega) (fun j e => by have := (HOe.out.lt j e).1; have := Bd.out.size; omega)); obtain ⟨ag, cg, hv2, -⟩ := own_form ho2; subst hv2; clear ho2 hg2)))
        have HW := Lib.hid (whole_any ag 80 cg (P.H ++ (shaL P.H).take 8) wg (arg_own HOg.out (allB_app2 (SU.H_B hP) ((shaL_B _).takeB 8))))
        go_wp2_with (go_at_call 67; go_loud (refine HW.out.mono ?_; rintro e wh ⟨gh, rfl, how, ha, hn, hb⟩; have HOWh := Lib.hid how; have HAh := Lib.hid ha; have HNh := Lib.hid hn; have Bh := Lib.hid (bt Bg.out hb); clear how ha hn hb))
        go_ret2
        have hl80 : (P.H ++ (shaL P.H).take 8).length = 80 := by rw [List.length_append, SU.H_len hP, List.length_take, shaL_len]; rfl
        have hSB : S = madeL (P.H ++ (shaL P.H).take 8) := by rw [HE.out.1, madeL_sz (by omega)]; rfl
        have hl : S.length = 512 := by rw [hSB]; exact madeL_len _
        refine ⟨some ⟨gh, 0, none⟩, 512, by rw [hl, HE.out.2]; rfl, ?_, ⟨(fun _ b o e => by cases e; have := HNh.out; have := Bg.out.size; have := HA.out.2.2.1; omega), (fun _ => by rw [hl, hSB]; exact own_base HOWh.out (by have := Bg.out.size; have := HA.out.2.2.1; omega))⟩, bt HA.out.2.1 Bh.out⟩
        rw [hl, hSB]
        exact HAh.out
end Go.Proofs.YtkfdcdfaikkneaaGreatDoor
/- Package sector: checked at a super. -/
namespace Go.Proofs.YtkfdcdfaikkneaaGreatDoor
open Go.ChangeShapes Go.WideShapes Go.ChangeAt Go.RowKit Go.Shelf
set_option linter.unusedVariables false
set_option linter.unusedSimpArgs false
set_option maxRecDepth 100000
attribute [local go_sem] Oper.semAt_some

theorem meth_Su (cs : Array Value) (m : Nat) (w : World) : (method (m + 1) 33 (.agg cs) "Bytes").run Tryz.prog w = .ok (35, .agg cs) w := by kernel_rfl
theorem infoSu : (Tryz.prog.info? 33).map (fun i => (i.zero, i.size)) = some (some (.agg (tabV 276 (suV suZ))), 276) := by kernel_rfl
theorem byte0 : byteI 0 := ⟨Int.le_refl _, by omega⟩
theorem u320 : u32I 0 := ⟨Int.le_refl _, by omega⟩
theorem suZ_wf : suZ.Wf := ⟨⟨rfl, fun x hx => by rw [(List.mem_replicate.1 hx).2]; omega⟩, byte0, byte0, byte0, byte0, byte0, u320, u320, u320, by simp [suZ], u320, u320, byte0, u320⟩
theorem results_chSu (tmps : Array Value) (w : World) (g : Nat) (cs : Array Value) (v : Value) (h2 : tmps.getD 4 undef = .pointer (some ⟨g, 0, none⟩)) (h3 : tmps.getD 5 undef = v) (hg : w.heap[g]? = some (.cells cs 33 (0, 0))) (hs : (Tryz.prog.info? 33).map (·.size) = some cs.size) :
    (results Tryz.f51 tmps).run Tryz.prog w = .ok (.tuple #[.agg cs, v]) w := by
  have h2' : tmps[4]?.getD undef = .pointer (some ⟨g, 0, none⟩) := by simpa using h2
  have h3' : tmps[5]?.getD undef = v := by simpa using h3
  have hr := run_loadVar_row (P := Tryz.prog) w g 33 33 cs (0, 0) _ hg Tryz.underlying33 rfl hs
  simp [results, Tryz.f51, h2', h3', asAddr, hr]
theorem results_paSu (tmps : Array Value) (w : World) (g : Nat) (cs : Array Value) (v : Value) (h2 : tmps.getD 2 undef = .pointer (some ⟨g, 0, none⟩)) (h3 : tmps.getD 3 undef = v) (hg : w.heap[g]? = some (.cells cs 33 (0, 0))) (hs : (Tryz.prog.info? 33).map (·.size) = some cs.size) :
    (results Tryz.f25 tmps).run Tryz.prog w = .ok (.tuple #[.agg cs, v]) w := by
  have h2' : tmps[2]?.getD undef = .pointer (some ⟨g, 0, none⟩) := by simpa using h2
  have h3' : tmps[3]?.getD undef = v := by simpa using h3
  have hr := run_loadVar_row (P := Tryz.prog) w g 33 33 cs (0, 0) _ hg Tryz.underlying33 rfl hs
  simp [results, Tryz.f25, h2', h3', asAddr, hr]
/-- A row set anew. -/
theorem row_set {w : World} {b : Nat} {P Q : SU} (h : SuB w b P) : SuB (w.setRow b (tabV 276 (suV Q))) b Q := Blk.row h _
theorem row_other (w : World) (b k : Nat) (cs : Array Value) (h : k ≠ b) : (w.setRow b cs).heap[k]? = w.heap[k]? := setRow_other w b k cs h
set_option maxHeartbeats 8000000 in
theorem checkedSu_any (P : SU) (hP : P.Wf) (a : Option Addr) (n k : Nat) (b : List Int) (w : World) (hG : Gl w) (hx : Arg8c w a n k b) :
    Calls Tryz.prog 51 #[suA P, .slice a n k] w fun e w' => (chSU P b → e = .returned (.tuple #[suA P, .int .i64 0])) ∧ (¬ chSU P b → e = .returned (.tuple #[suA suZ, .int .i64 3])) ∧ Below w.heap.size w w' := by
  have HC := Lib.hid (fun (W : World) (hW : Below w.heap.size w W) => superBytes_any P hP W (hG.on hW hG.1))
  unfold chSU
  obtain ⟨S, hS⟩ : ∃ S, S = P.S := ⟨_, rfl⟩
  obtain ⟨E, hE⟩ : ∃ E, E = P.E := ⟨_, rfl⟩
  have HEE := Lib.hid (show E = 0 ∨ E = 2 by rw [hE]; unfold SU.E; split <;> simp)
  rw [← hS, ← hE] at HC
  rw [← hS, ← hE]
  clear hS hE hG
  obtain ⟨hz, hi⟩ := zero_of_info infoSu
  obtain ⟨s0, hs0⟩ : ∃ s, s = tabV 276 (suV P) := ⟨_, rfl⟩
  obtain ⟨c0, hc0⟩ : ∃ s, s = tabV 276 (suV suZ) := ⟨_, rfl⟩
  unfold suA at HC ⊢
  rw [← hs0] at HC
  rw [← hs0, ← hc0]
  rw [← hc0] at hz
  have HSZ := Lib.hid (show (Tryz.prog.info? 33).map (·.size) = some s0.size ∧ (Tryz.prog.info? 33).map (·.size) = some c0.size ∧ c0.size = s0.size by rw [hs0, hc0, size_tabV, size_tabV]; exact ⟨sizeSu, sizeSu, rfl⟩)
  have HON := Lib.hid (show s0.all (·.oneCell') = true ∧ c0.all (·.oneCell') = true by rw [hs0, hc0]; exact ⟨tabV_one (suV_one P), tabV_one (suV_one suZ)⟩)
  have hm := meth_Su s0
  obtain ⟨A, hA⟩ : ∃ A, A = (w.alloc (.cells s0 33)).alloc (.cells c0 33) := ⟨_, rfl⟩
  have hwA : Below w.heap.size w A := by rw [hA]; exact ((Below.refl _ _).alloc (Nat.le_refl _) _).alloc (by simp) _
  have hAs : A.heap.size = w.heap.size + 2 := by rw [hA]; simp
  have r1 : A.heap[w.heap.size]? = some (.cells s0 33 (0, 0)) := by rw [hA, heap_alloc_old _ _ (by simp)]; exact heap_alloc_new w _
  have r2 : A.heap[w.heap.size + 1]? = some (.cells c0 33 (0, 0)) := by
    have := heap_alloc_new (w.alloc (.cells s0 33)) (.cells c0 33)
    rw [size_alloc1] at this
    rw [hA]; exact this
  have HX := Lib.hid hx
  have HA := Lib.hid (And.intro hA (And.intro hwA (And.intro hAs (And.intro r1 r2))))
  clear hx hA hwA hAs r1 r2 hs0 hc0 hi
  by_cases hE0 : E = 0
  · subst hE0
    by_cases hSb : S = b
    · have HSB := Lib.hid hSb
      clear hSb
      go_enter Tryz.func51, Tryz.ntmps51
      go_wp2_with (first
        | ((with_reducible show wpList _ _ _ (⟨some 10, _, _, _, _, _⟩ :: _) _ _); go_loud (refine wpList_load_row rfl 33 (.tmp 2) rfl w.heap.size rfl 33 s0 (0, 0) _ (by rw [← HA.out.1]; exact HA.out.2.2.2.1) Tryz.underlying33 rfl HSZ.out.1 ?_))
        | (go_at_call 35; go_loud (rw [← HA.out.1]; refine (HC.out _ HA.out.2.1).mono ?_; rintro e w1 ⟨a1, k1, rfl, hs1, -, hb1⟩; have HB1 := Lib.hid hb1; have HEQ := Lib.hid (eqB_any a1 S.length k1 S a n k b true w1 hs1 (HX.out.onV (bt HA.out.2.1 hb1)) ⟨fun _ => HSB.out, fun _ => rfl⟩); have R1 := Lib.hid ((HB1.out.block _ (by rw [HA.out.2.2.1]; omega)).trans HA.out.2.2.2.1); have R2 := Lib.hid ((HB1.out.block _ (by rw [HA.out.2.2.1]; omega)).trans HA.out.2.2.2.2); clear hs1 hb1))
        | (go_at_call 82; go_loud (refine HEQ.out.mono ?_; rintro e w2 ⟨rfl, rfl⟩))
        | ((with_reducible show wpList _ _ _ (⟨some 24, _, _, _, _, _⟩ :: _) _ _); go_loud (refine wpList_load_row rfl 33 (.tmp 2) rfl w.heap.size rfl 33 s0 (0, 0) _ R1.out Tryz.underlying33 rfl HSZ.out.1 ?_))
        | ((with_reducible show wpList _ _ _ (⟨none, _, _, _, _, _⟩ :: _) _ _); go_loud (refine wpList_store_row rfl 33 (.tmp 4) (.tmp 24) rfl (w.heap.size + 1) s0 rfl rfl 33 c0 R2.out HSZ.out.1 HSZ.out.2.2 HON.out.1 ?_)))
      refine bodyPost_ret (v := .tuple #[.agg s0, .int .i64 0]) (results_chSu _ _ (w.heap.size + 1) s0 _ rfl rfl (setRow_heap _ _ _ _ _ _ R2.out) HSZ.out.1) rfl ⟨fun _ => rfl, fun h => absurd ⟨trivial, HSB.out⟩ h, below_setRow (bt HA.out.2.1 HB1.out) (by omega) _⟩
    · have HSB := Lib.hid hSb
      have HN := Lib.hid (show ¬ ((0 : Int) = 0 ∧ S = b) from fun h => hSb h.2)
      clear hSb
      go_enter Tryz.func51, Tryz.ntmps51
      go_wp2_with (first
        | ((with_reducible show wpList _ _ _ (⟨some 10, _, _, _, _, _⟩ :: _) _ _); go_loud (refine wpList_load_row rfl 33 (.tmp 2) rfl w.heap.size rfl 33 s0 (0, 0) _ (by rw [← HA.out.1]; exact HA.out.2.2.2.1) Tryz.underlying33 rfl HSZ.out.1 ?_))
        | (go_at_call 35; go_loud (rw [← HA.out.1]; refine (HC.out _ HA.out.2.1).mono ?_; rintro e w1 ⟨a1, k1, rfl, hs1, -, hb1⟩; have HB1 := Lib.hid hb1; have HEQ := Lib.hid (eqB_any a1 S.length k1 S a n k b false w1 hs1 (HX.out.onV (bt HA.out.2.1 hb1)) ⟨fun h => (by cases h), fun h => absurd h HSB.out⟩); have R1 := Lib.hid ((HB1.out.block _ (by rw [HA.out.2.2.1]; omega)).trans HA.out.2.2.2.1); have R2 := Lib.hid ((HB1.out.block _ (by rw [HA.out.2.2.1]; omega)).trans HA.out.2.2.2.2); clear hs1 hb1))
        | (go_at_call 82; go_loud (refine HEQ.out.mono ?_; rintro e w2 ⟨rfl, rfl⟩))
        | ((with_reducible show wpList _ _ _ (⟨some 23, _, _, _, _, _⟩ :: _) _ _); go_loud (refine wpList_load_row rfl 33 (.tmp 8) rfl w2.heap.size rfl 33 c0 (0, 0) _ (heap_alloc_new w2 _) Tryz.underlying33 rfl HSZ.out.2.1 ?_))
        | ((with_reducible show wpList _ _ _ (⟨none, _, _, _, _, _⟩ :: _) _ _); go_loud (refine wpList_store_row rfl 33 (.tmp 4) (.tmp 23) rfl (w.heap.size + 1) c0 rfl rfl 33 c0 ((heap_alloc_old _ _ (by have := HB1.out.size; have := HA.out.2.2.1; omega)).trans R2.out) HSZ.out.2.1 rfl HON.out.2 ?_)))
      refine bodyPost_ret (v := .tuple #[.agg c0, .int .i64 3]) (results_chSu _ _ (w.heap.size + 1) c0 _ rfl rfl (setRow_heap _ _ _ _ _ _ ((heap_alloc_old _ _ (by have := HB1.out.size; have := HA.out.2.2.1; omega)).trans R2.out)) HSZ.out.2.1) rfl ⟨fun h => absurd h HN.out, fun _ => rfl, below_setRow ((bt HA.out.2.1 HB1.out).alloc (by have := HB1.out.size; have := HA.out.2.2.1; omega) _) (by omega) _⟩
  · obtain rfl : E = 2 := by rcases HEE.out with h | h <;> omega
    have HN := Lib.hid (show ¬ ((2 : Int) = 0 ∧ S = b) from fun h => by have := h.1; omega)
    go_enter Tryz.func51, Tryz.ntmps51
    go_wp2_with (first
      | ((with_reducible show wpList _ _ _ (⟨some 10, _, _, _, _, _⟩ :: _) _ _); go_loud (refine wpList_load_row rfl 33 (.tmp 2) rfl w.heap.size rfl 33 s0 (0, 0) _ (by rw [← HA.out.1]; exact HA.out.2.2.2.1) Tryz.underlying33 rfl HSZ.out.1 ?_))
      | (go_at_call 35; go_loud (rw [← HA.out.1]; refine (HC.out _ HA.out.2.1).mono ?_; rintro e w1 ⟨a1, k1, rfl, hs1, -, hb1⟩; have HB1 := Lib.hid hb1; skip; have R1 := Lib.hid ((HB1.out.block _ (by rw [HA.out.2.2.1]; omega)).trans HA.out.2.2.2.1); have R2 := Lib.hid ((HB1.out.block _ (by rw [HA.out.2.2.1]; omega)).trans HA.out.2.2.2.2); clear hs1 hb1))
      | (go_at_call 82; go_loud (refine HEQ.out.mono ?_; rintro e w2 ⟨rfl, rfl⟩))
      | ((with_reducible show wpList _ _ _ (⟨some 23, _, _, _, _, _⟩ :: _) _ _); go_loud (refine wpList_load_row rfl 33 (.tmp 8) rfl w1.heap.size rfl 33 c0 (0, 0) _ (heap_alloc_new w1 _) Tryz.underlying33 rfl HSZ.out.2.1 ?_))
      | ((with_reducible show wpList _ _ _ (⟨none, _, _, _, _, _⟩ :: _) _ _); go_loud (refine wpList_store_row rfl 33 (.tmp 4) (.tmp 23) rfl (w.heap.size + 1) c0 rfl rfl 33 c0 ((heap_alloc_old _ _ (by have := HB1.out.size; have := HA.out.2.2.1; omega)).trans R2.out) HSZ.out.2.1 rfl HON.out.2 ?_)))
    refine bodyPost_ret (v := .tuple #[.agg c0, .int .i64 3]) (results_chSu _ _ (w.heap.size + 1) c0 _ rfl rfl (setRow_heap _ _ _ _ _ _ ((heap_alloc_old _ _ (by have := HB1.out.size; have := HA.out.2.2.1; omega)).trans R2.out)) HSZ.out.2.1) rfl ⟨fun h => absurd h HN.out, fun _ => rfl, below_setRow ((bt HA.out.2.1 HB1.out).alloc (by have := HB1.out.size; have := HA.out.2.2.1; omega) _) (by omega) _⟩
end Go.Proofs.YtkfdcdfaikkneaaGreatDoor
/- Package sector: ParseSuper. -/
namespace Go.Proofs.YtkfdcdfaikkneaaGreatDoor
open Go.ChangeShapes Go.WideShapes Go.ChangeAt Go.RowKit Go.Shelf
set_option linter.unusedVariables false
set_option linter.unusedSimpArgs false
set_option maxRecDepth 100000
attribute [local go_sem] Oper.semAt_some

/-! ## the super's cells, one set anew -/
theorem suV_p (P : SU) (x : Int) {i : Nat} (hi : i < 276) : (if i = 8 then Value.int .u8 x else suV P i) = suV { P with p := x } i := by
  by_cases h : i = 8
  · subst h; rfl
  · rw [if_neg h]; unfold suV; simp only [h, if_false]
theorem suV_n (P : SU) (x : Int) {i : Nat} (hi : i < 276) : (if i = 9 then Value.int .u8 x else suV P i) = suV { P with n := x } i := by
  by_cases h : i = 9
  · subst h; rfl
  · rw [if_neg h]; unfold suV; simp only [h, if_false]
theorem suV_t (P : SU) (x : Int) {i : Nat} (hi : i < 276) : (if i = 10 then Value.int .u8 x else suV P i) = suV { P with t := x } i := by
  by_cases h : i = 10
  · subst h; rfl
  · rw [if_neg h]; unfold suV; simp only [h, if_false]
theorem suV_m (P : SU) (x : Int) {i : Nat} (hi : i < 276) : (if i = 11 then Value.int .u8 x else suV P i) = suV { P with m := x } i := by
  by_cases h : i = 11
  · subst h; rfl
  · rw [if_neg h]; unfold suV; simp only [h, if_false]
theorem suV_c (P : SU) (x : Int) {i : Nat} (hi : i < 276) : (if i = 12 then Value.int .u8 x else suV P i) = suV { P with c := x } i := by
  by_cases h : i = 12
  · subst h; rfl
  · rw [if_neg h]; unfold suV; simp only [h, if_false]
theorem suV_bl (P : SU) (x : Int) {i : Nat} (hi : i < 276) : (if i = 13 then Value.int .u32 x else suV P i) = suV { P with bl := x } i := by
  by_cases h : i = 13
  · subst h; rfl
  · rw [if_neg h]; unfold suV; simp only [h, if_false]
theorem suV_bo (P : SU) (x : Int) {i : Nat} (hi : i < 276) : (if i = 14 then Value.int .u32 x else suV P i) = suV { P with bo := x } i := by
  by_cases h : i = 14
  · subst h; rfl
  · rw [if_neg h]; unfold suV; simp only [h, if_false]
theorem suV_ep (P : SU) (x : Int) {i : Nat} (hi : i < 276) : (if i = 15 then Value.int .u32 x else suV P i) = suV { P with ep := x } i := by
  by_cases h : i = 15
  · subst h; rfl
  · rw [if_neg h]; unfold suV; simp only [h, if_false]
theorem suV_rf (P : SU) (x : Int) {i : Nat} (hi : i < 276) : (if i = 272 then Value.int .u32 x else suV P i) = suV { P with rf := x } i := by
  by_cases h : i = 272
  · subst h; rfl
  · rw [if_neg h]; unfold suV; simp only [h, if_false]
theorem suV_sc (P : SU) (x : Int) {i : Nat} (hi : i < 276) : (if i = 273 then Value.int .u32 x else suV P i) = suV { P with sc := x } i := by
  by_cases h : i = 273
  · subst h; rfl
  · rw [if_neg h]; unfold suV; simp only [h, if_false]
theorem suV_tg (P : SU) (x : Int) {i : Nat} (hi : i < 276) : (if i = 274 then Value.int .u8 x else suV P i) = suV { P with tg := x } i := by
  by_cases h : i = 274
  · subst h; rfl
  · rw [if_neg h]; unfold suV; simp only [h, if_false]
theorem suV_rs (P : SU) (x : Int) {i : Nat} (hi : i < 276) : (if i = 275 then Value.int .u32 x else suV P i) = suV { P with rs := x } i := by
  by_cases h : i = 275
  · subst h; rfl
  · rw [if_neg h]; unfold suV; simp only [show i < 272 ∨ i = 272 ∨ i = 273 ∨ i = 274 from by omega]; rcases (show i < 272 ∨ i = 272 ∨ i = 273 ∨ i = 274 from by omega) with h1 | h1 | h1 | h1 <;> simp [h1]
theorem suV_inn (P : SU) (l : List Bool) (hl : l.length = 256) {i : Nat} (hi : i < 276) : (if 16 ≤ i ∧ i < 16 + (l.map Value.bool).length then (l.map Value.bool).getD (i - 16) (.bool false) else suV P i) = suV { P with inn := l } i := by
  rw [List.length_map, hl]
  by_cases h : 16 ≤ i ∧ i < 16 + 256
  · rw [if_pos h]
    have := suV_in { P with inn := l } (j := i - 16) (by omega)
    rw [show 16 + (i - 16) = i by omega] at this
    rw [this]
    show (l.map Value.bool).getD (i - 16) (.bool false) = .bool (l.getD (i - 16) false)
    rw [List.getD_eq_getElem?_getD, List.getElem?_map, List.getElem?_eq_getElem (by omega), List.getD_eq_getElem?_getD, List.getElem?_eq_getElem (by omega)]
    rfl
  · rw [if_neg h]
    have e : ∀ x y : Value, (if i < 272 then x else y) = if i < 16 then x else y := fun x y => by
      by_cases h1 : i < 16
      · rw [if_pos (by omega), if_pos h1]
      · rw [if_neg (by omega), if_neg h1]
    unfold suV
    by_cases h1 : i < 16
    · rcases (show i < 8 ∨ i = 8 ∨ i = 9 ∨ i = 10 ∨ i = 11 ∨ i = 12 ∨ i = 13 ∨ i = 14 ∨ i = 15 by omega) with h2 | h2 | h2 | h2 | h2 | h2 | h2 | h2 | h2
      · rw [if_pos h2, if_pos h2]
      all_goals (subst h2; rfl)
    · rw [if_neg (by omega), if_neg (by omega), if_neg (by omega), if_neg (by omega), if_neg (by omega), if_neg (by omega), if_neg (by omega), if_neg (by omega), if_neg (by omega), if_neg (by omega)]
      rw [if_neg (show ¬ i < 8 by omega), if_neg (show ¬ i = 8 by omega), if_neg (show ¬ i = 9 by omega), if_neg (show ¬ i = 10 by omega), if_neg (show ¬ i = 11 by omega), if_neg (show ¬ i = 12 by omega), if_neg (show ¬ i = 13 by omega), if_neg (show ¬ i = 14 by omega), if_neg (show ¬ i = 15 by omega), if_neg (show ¬ i < 272 by omega)]
theorem suV_name (l : List Int) {i : Nat} (hi : i < 276) : (if i < 8 then Value.int .u8 (l.getD i 0) else suV suZ i) = suV { suZ with nm := l } i := by
  unfold suV
  by_cases h : i < 8
  · rw [if_pos h, if_pos h]
  · rw [if_neg h, if_neg h, if_neg h]
theorem built_nm (g : Nat → Value) : Tryz.prog.built 33 [(0, .agg (tabV 8 g))] = some (tabV 276 (fun i => if i < 8 then g i else suV suZ i)) := by kernel_rfl

/-! ## what stands where while a super is read -/
/-- At p a reader that reads b from k on, at q a super; the result's block is as it was made. -/
def PS (w W : World) (p q : Nat) (b : List Int) (k : Nat) (P : SU) : Prop := RS w W p b k ∧ SuB W q P ∧ SuB W w.heap.size suZ ∧ w.heap.size < p ∧ p < q
theorem PS.nextB {w W W' : World} {p q k k' : Nat} {b : List Int} {P : SU} (h : PS w W p q b k P) (hr : RS w W' p b k') (hb : But p W W') : PS w W' p q b k' P := by
  obtain ⟨h1, h2, h3, h4, h5⟩ := h
  exact ⟨hr, by unfold SuB Blk; rw [hb.block h2.lt (by omega)]; exact h2, by unfold SuB Blk; rw [hb.block h3.lt (by omega)]; exact h3, h4, h5⟩
theorem PS.on {w W W' : World} {p q k : Nat} {b : List Int} {P : SU} (h : PS w W p q b k P) (hb : Below W.heap.size W W') : PS w W' p q b k P :=
  ⟨h.1.on hb, h.2.1.on hb, h.2.2.1.on hb, h.2.2.2.1, h.2.2.2.2⟩
theorem RS.keep {w W W' : World} {p k : Nat} {b : List Int} (h : RS w W p b k) (hb : Below w.heap.size w W') (hp : W'.heap[p]? = W.heap[p]?) : RS w W' p b k := by
  obtain ⟨h1, h2, a, m, c, h3, h4⟩ := h
  exact ⟨h1, hb, a, m, c, hp.trans h3, h4⟩
theorem PS.st {w W : World} {p q k : Nat} {b : List Int} {P : SU} (h : PS w W p q b k P) (j : Nat) (hj : j < 276) (v : Value) (P' : SU) (he : ∀ i, i < 276 → (if i = j then v else suV P i) = suV P' i) : PS w (W.setCell ⟨q, j, none⟩ v) p q b k P' := by
  obtain ⟨h1, h2, h3, h4, h5⟩ := h
  refine ⟨h1.keep (h1.below.setCell (p := ⟨q, j, none⟩) (by show w.heap.size ≤ q; omega) v) (heap_setCell_other W ⟨q, j, none⟩ p v (by show p ≠ q; omega)), (Blk.set h2 hj v).congr he, Blk.other h3 ⟨q, j, none⟩ v (by show w.heap.size ≠ q; omega), h4, h5⟩
theorem PS.row {w W W' : World} {p q k : Nat} {b : List Int} {P P' : SU} (h : PS w W p q b k P) (hk : KB (fun j => j = q) W W') (hs : SuB W' q P') : PS w W' p q b k P' := by
  obtain ⟨h1, h2, h3, h4, h5⟩ := h
  refine ⟨h1.keep (h1.below.trans (hk.below (fun j e => by rw [e]; omega) (by have := h1.below.size; exact this))) (hk.2 p (Nat.lt_trans h5 h2.lt) (by omega)), hs, by unfold SuB Blk; rw [hk.2 _ h3.lt (by omega)]; exact h3, h4, h5⟩
theorem ps_next8 {w W : World} {p q k : Nat} {b : List Int} {P : SU} (h : PS w W p q b k P) (hn : k + 1 ≤ b.length) :
    Calls Tryz.prog 48 #[.pointer (some ⟨p, 0, none⟩)] W fun e w' => e = .returned (.int .u8 (nb b k 1)) ∧ PS w w' p q b (k + 1) P :=
  (next8S w W p k b h.1 hn).mono fun _ _ ⟨h1, h2, h3⟩ => ⟨h1, h.nextB h2 h3⟩
theorem ps_next32 {w W : World} {p q k : Nat} {b : List Int} {P : SU} (h : PS w W p q b k P) (hn : k + 4 ≤ b.length) :
    Calls Tryz.prog 49 #[.pointer (some ⟨p, 0, none⟩)] W fun e w' => e = .returned (.int .u32 (nb b k 4)) ∧ PS w w' p q b (k + 4) P :=
  (next32S w W p k b h.1 hn).mono fun _ _ ⟨h1, h2, h3⟩ => ⟨h1, h.nextB h2 h3⟩
theorem ps_take {w W : World} {p q k : Nat} {b : List Int} {P : SU} (h : PS w W p q b k P) (n : Nat) (hn : k + n ≤ b.length) :
    Calls Tryz.prog 47 #[.pointer (some ⟨p, 0, none⟩), .int .i64 (n : Nat)] W fun e w' => ∃ a c, e = .returned (.slice a n c) ∧ Arg8c w a n c ((b.drop k).take n) ∧ PS w w' p q b (k + n) P :=
  (takeS w W p k n b h.1 hn).mono fun _ _ ⟨a, c, h1, h2, h3, h4⟩ => ⟨a, c, h1, h2, h.nextB h3 h4⟩
theorem PS.free {w W : World} {p q k : Nat} {b : List Int} {P : SU} (h : PS w W p q b k P) : ∀ j, W.frozen? ⟨q, j, none⟩ = false := fun j => Blk.free h.2.1 j
theorem PS.rowq {w W W' : World} {p q k : Nat} {b : List Int} {P P' : SU} (h : PS w W p q b k P) (hk : Below q W W') (hs : SuB W' q P') : PS w W' p q b k P' := by
  obtain ⟨h1, h2, h3, h4, h5⟩ := h
  refine ⟨h1.keep (h1.below.trans (hk.mono (by omega))) (hk.block p h5), hs, by unfold SuB Blk; rw [hk.block _ (by omega)]; exact h3, h4, h5⟩
theorem copy_inn {W : World} {q : Nat} {P : SU} {l : List Bool} (hl : l.length = 256) (h : W.heap[q]? = some (.cells (splice (tabV 276 (suV P)).toList 16 (l.map Value.bool)).toArray 33 (0, 0))) : SuB W q { P with inn := l } := by
  unfold SuB Blk
  rw [h]
  unfold splice
  rw [splice_tabV (by rw [List.length_map, hl]; omega)]
  congr 2
  exact tabV_congr fun i hi => suV_inn P l hl hi
theorem ps_start {w w2 : World} {p k : Nat} {b : List Int} {P : SU} (c0 cN : Array Value) (h : RS w w2 p b k) (hr : SuB w2 w.heap.size suZ) (hp : w.heap.size < p) (hN : cN = tabV 276 (suV P)) : PS w ((w2.alloc (.cells c0 33)).setRow w2.heap.size cN) p w2.heap.size b k P := by
  have hpl : p < w2.heap.size := by obtain ⟨_, _, _, _, _, h3, _⟩ := h; exact h3.lt
  refine ⟨h.keep (below_setRow (h.below.alloc h.below.size _) h.below.size _) (by rw [setRow_other _ _ _ _ (by omega), heap_alloc_old _ _ hpl]), ?_, ?_, hp, hpl⟩
  · unfold SuB Blk; rw [hN]; exact setRow_heap _ _ _ _ _ _ (heap_alloc_new w2 _)
  · unfold SuB Blk; rw [setRow_other _ _ _ _ (by omega), heap_alloc_old _ _ hr.lt]; exact hr
theorem range_nm {w W : World} {bb oo : Nat} {nm : List Int} {c8 : Array Value} (h : c8 = tabV 8 (fun j => Value.int .u8 (nm.getD j 0))) (hl : nm.length = 8) (hb : bb < w.heap.size) (hW : Below w.heap.size w W) (hc : ∀ i, i < nm.length → w.cell? ⟨bb, oo + i, none⟩ = some (.int .u8 (nm.getD i 0))) : W.rangeAt bb oo c8.toList := fun j v hj => by
  rw [h, Array.getElem?_toList] at hj
  by_cases h8 : j < 8
  · rw [get_tabV h8] at hj
    rw [← hj]
    exact (hW.cell (p := ⟨bb, oo + j, none⟩) hb).trans (hc j (by omega))
  · rw [Array.getElem?_eq_none (by rw [size_tabV]; omega)] at hj; cases hj
theorem built_su0 : Tryz.prog.built 33 [] = some (tabV 276 (suV suZ)) := by kernel_rfl
theorem size8a : (Tryz.prog.info? 30).map (·.size) = some 8 := by kernel_rfl
theorem size_b4 : (Tryz.prog.info? 4).map (·.size) = some 1 := by kernel_rfl
set_option maxHeartbeats 16000000 in
theorem parseSuper_any (a : Option Addr) (n k : Nat) (b : List Int) (w : World) (hx : Arg8c w a n k b) (hn : n ≤ 600) (hG : Gl w) :
    Calls Tryz.prog 25 #[.slice a n k] w fun e w' => e = .returned (.tuple #[suA (psuZ b), .int .i64 (psuE b)]) ∧ Below w.heap.size w w' := by
  have hl := hx.1.1
  have hcap := hx.1.2.2.2
  unfold maxLen at hcap
  obtain ⟨hz, hi⟩ := zero_of_info infoSu
  obtain ⟨c0, hc0⟩ : ∃ s, s = tabV 276 (suV suZ) := ⟨_, rfl⟩
  rw [← hc0] at hz
  have HSZ := Lib.hid (show (Tryz.prog.info? 33).map (·.size) = some c0.size by rw [hc0, size_tabV]; exact sizeSu)
  have HON := Lib.hid (show c0.all (·.oneCell') = true by rw [hc0]; exact tabV_one (suV_one suZ))
  have HC0 := Lib.hid hc0
  obtain ⟨A, hA⟩ : ∃ A, A = w.alloc (.cells c0 33) := ⟨_, rfl⟩
  have hwA : Below w.heap.size w A := by rw [hA]; exact (Below.refl _ _).alloc (Nat.le_refl _) _
  have hAs : A.heap.size = w.heap.size + 1 := by rw [hA]; simp
  have r1 : A.heap[w.heap.size]? = some (.cells c0 33 (0, 0)) := by rw [hA]; exact heap_alloc_new w _
  have HA := Lib.hid (And.intro hA (And.intro hwA (And.intro hAs r1)))
  by_cases h5 : n = 512
  case neg =>
    have HV := Lib.hid (psu_len (b := b) (by omega))
    have HRD := Lib.hid (read_no a n k A h5 (by omega))
    have HBD := Lib.hid (show Tryz.prog.built 33 [] = some c0 by rw [hc0]; exact built_su0)
    clear hx hl hcap hA hwA hAs r1 h5 hc0 hi
    go_enter Tryz.func25, Tryz.ntmps25
    go_wp2_with (first
      | (go_at_call 46; go_loud (rw [← HA.out.1]; refine HRD.out.mono ?_; rintro e w1 ⟨rfl, rfl⟩))
      | ((with_reducible show wpList _ _ _ (⟨some 16, _, _, _, _, _⟩ :: _) _ _); go_loud (refine wpList_buildTo rfl 33 #[] rfl (some 16) rfl c0 HBD.out ?_))
      | ((with_reducible show wpList _ _ _ (⟨none, _, _, _, _, _⟩ :: _) _ _); go_loud (refine wpList_store_row rfl 33 (.tmp 2) (.tmp 16) rfl w.heap.size c0 rfl rfl 33 c0 HA.out.2.2.2 HSZ.out rfl HON.out ?_)))
    refine bodyPost_ret (v := .tuple #[.agg c0, .int .i64 3]) (results_paSu _ _ w.heap.size c0 _ rfl rfl (setRow_heap _ _ _ _ _ _ HA.out.2.2.2) HSZ.out) rfl ⟨?_, below_setRow HA.out.2.1 (Nat.le_refl _) _⟩
    rw [HV.out.1, HV.out.2, HC0.out]; rfl
  case pos =>
    subst h5
    have HRD := Lib.hid (readS w A hwA (by omega) a k b hx)
    rw [hAs] at HRD
    have HX := Lib.hid hx
    have HL := Lib.hid hl
    have HG := Lib.hid hG
    obtain ⟨nm, hnm⟩ : ∃ l, l = (b.drop 2).take 8 := ⟨_, rfl⟩
    have hnl : nm.length = 8 := by rw [hnm, List.length_take, List.length_drop, hl]; rfl
    obtain ⟨c8, hc8⟩ : ∃ s, s = tabV 8 (fun j => Value.int .u8 (nm.getD j 0)) := ⟨_, rfl⟩
    obtain ⟨cN, hcN⟩ : ∃ s, s = tabV 276 (suV { suZ with nm := nm }) := ⟨_, rfl⟩
    have HBN := Lib.hid (show Tryz.prog.built 33 [(0, .agg c8)] = some cN by
      rw [hc8, built_nm, hcN]
      exact congrArg some (tabV_congr fun i hi => suV_name nm hi))
    have H8 := Lib.hid (show (Tryz.prog.info? 30).map (·.size) = some c8.toList.length by rw [hc8, Array.length_toList, size_tabV]; exact size8a)
    have HSN := Lib.hid (show (Tryz.prog.info? 33).map (·.size) = some cN.size ∧ c0.size = cN.size ∧ cN.all (·.oneCell') = true by
      rw [hcN, hc0, size_tabV, size_tabV]; exact ⟨sizeSu, rfl, tabV_one (suV_one _)⟩)
    have HN := Lib.hid (And.intro hnm (And.intro hnl (And.intro hc8 hcN)))
    clear hx hl hcap hA hwA hAs r1 hc0 hi hG hnm hnl hc8 hcN
    go_enter Tryz.func25, Tryz.ntmps25
    go_upto_region 4 with (go_at_call 46; go_loud (rw [← HA.out.1]; refine HRD.out.mono ?_; rintro e w1 ⟨rfl, hs1, hb1⟩; have HS1 := Lib.hid hs1; have R1 := Lib.hid (show SuB w1 w.heap.size suZ from ((hb1.block _ (by have := HA.out.2.2.1; omega)).trans HA.out.2.2.2).trans (by rw [HC0.out])); clear hs1 hb1))
    go_upto_region 5 with (first
      | (go_at_call 47; go_loud (refine (takeS w w1 (w.heap.size + 1) 2 8 b HS1.out (by have := HL.out; omega)).mono ?_; rintro e w2 ⟨a8, k8, rfl, ha8, hs2, hb2⟩; rw [← HN.out.1] at ha8; obtain ⟨bb, oo, rfl, hbl, hcc⟩ := ha8.1.2.2.1 (by rw [HN.out.2.1]; omega); have hap := (fun W => run_arrayAt (P := Tryz.prog) (w := W) 30 5 8 (some ⟨bb, oo, none⟩) 8 k8 und8 (Nat.le_refl _)); have HS2 := Lib.hid hs2; have R2 := Lib.hid (show SuB w2 w.heap.size suZ from (hb2.block R1.out.lt (by omega)).trans R1.out); have HRG := Lib.hid (show w2.rangeAt bb oo c8.toList from range_nm HN.out.2.2.1 HN.out.2.1 hbl hs2.below hcc); clear ha8 hs2 hb2 hbl hcc))
      | ((with_reducible show wpList _ _ _ (⟨some 20, _, _, _, _, _⟩ :: _) _ _); go_loud (refine wpList_load_mid (by rfl) 30 (.tmp 19) (by rfl) bb oo (by rfl) c8.toList _ HRG.out und8 (by rfl) H8.out ?_; rw [Array.toArray_toList]))
      | ((with_reducible show wpList _ _ _ (⟨some 21, _, _, _, _, _⟩ :: _) _ _); go_loud (refine wpList_buildTo rfl 33 #[(0, .tmp 20)] rfl (some 21) rfl cN (by rw [Array.toList_map]; exact HBN.out) ?_))
      | ((with_reducible show wpList _ _ _ (⟨none, _, _, _, _, _⟩ :: _) _ _); go_loud (refine wpList_store_row rfl 33 (.tmp 6) (.tmp 21) rfl w2.heap.size cN rfl rfl 33 c0 (heap_alloc_new w2 _) HSN.out.1 HSN.out.2.1 HSN.out.2.2 ?_)))
    have HP1 := Lib.hid (ps_start c0 cN HS2.out R2.out (Nat.lt_succ_self _) HN.out.2.2.2)
    clear hz hap
    obtain ⟨q, hq⟩ : ∃ q, q = w2.heap.size := ⟨_, rfl⟩
    rw [← hq] at HP1 ⊢
    generalize (w2.alloc (.cells c0 33)).setRow q cN = W1 at HP1 ⊢
    clear hq
    obtain ⟨y_p, h_p⟩ : ∃ y, y = nb b 10 1 := ⟨_, rfl⟩
    obtain ⟨y_n, h_n⟩ : ∃ y, y = nb b 11 1 := ⟨_, rfl⟩
    obtain ⟨y_t, h_t⟩ : ∃ y, y = nb b 12 1 := ⟨_, rfl⟩
    obtain ⟨y_m, h_m⟩ : ∃ y, y = nb b 13 1 := ⟨_, rfl⟩
    obtain ⟨y_c, h_c⟩ : ∃ y, y = nb b 14 1 := ⟨_, rfl⟩
    obtain ⟨y_bl, h_bl⟩ : ∃ y, y = nb b 15 4 := ⟨_, rfl⟩
    obtain ⟨y_bo, h_bo⟩ : ∃ y, y = nb b 19 4 := ⟨_, rfl⟩
    obtain ⟨y_ep, h_ep⟩ : ∃ y, y = nb b 23 4 := ⟨_, rfl⟩
    obtain ⟨y_rf, h_rf⟩ : ∃ y, y = nb b 59 4 := ⟨_, rfl⟩
    obtain ⟨y_sc, h_sc⟩ : ∃ y, y = nb b 63 4 := ⟨_, rfl⟩
    obtain ⟨y_tg, h_tg⟩ : ∃ y, y = nb b 67 1 := ⟨_, rfl⟩
    obtain ⟨y_rs, h_rs⟩ : ∃ y, y = nb b 68 4 := ⟨_, rfl⟩
    have HNB := Lib.hid (show nb b 10 1 = y_p ∧ nb b 11 1 = y_n ∧ nb b 12 1 = y_t ∧ nb b 13 1 = y_m ∧ nb b 14 1 = y_c ∧ nb b 15 4 = y_bl ∧ nb b 19 4 = y_bo ∧ nb b 23 4 = y_ep ∧ nb b 59 4 = y_rf ∧ nb b 63 4 = y_sc ∧ nb b 67 1 = y_tg ∧ nb b 68 4 = y_rs from ⟨h_p.symm, h_n.symm, h_t.symm, h_m.symm, h_c.symm, h_bl.symm, h_bo.symm, h_ep.symm, h_rf.symm, h_sc.symm, h_tg.symm, h_rs.symm⟩)
    obtain ⟨l27, h27⟩ : ∃ l, l = unpackL ((b.drop 27).take 32) 256 := ⟨_, rfl⟩
    have H27 := Lib.hid h27
    have HPR := Lib.hid (show psuR b = ⟨nm, y_p, y_n, y_t, y_m, y_c, y_bl, y_bo, y_ep, l27, y_rf, y_sc, y_tg, y_rs⟩ by
      have h := HL.out
      unfold psuR
      rw [h27, h_p, h_n, h_t, h_m, h_c, h_bl, h_bo, h_ep, h_rf, h_sc, h_tg, h_rs, HN.out.1, nb_one (by omega), nb_one (by omega), nb_one (by omega), nb_one (by omega), nb_one (by omega), nb_one (by omega)])
    clear h27 h_p h_n h_t h_m h_c h_bl h_bo h_ep h_rf h_sc h_tg h_rs
    go_upto_region 6 with (first
      | (go_at_call 48; go_loud (refine (ps_next8 (k := 14) HP5.out (by have := HL.out; omega)).mono ?_; rintro e W6 ⟨rfl, hp⟩; rw [HNB.out.2.2.2.2.1]; have HP6 := Lib.hid hp; obtain ⟨c8, c9, c10, c11, c12, -, -, -, -, -, -, -⟩ := hp.2.1.num; have hf := hp.free; clear hp))
      | (go_at_call 48; go_loud (refine (ps_next8 (k := 13) HP4.out (by have := HL.out; omega)).mono ?_; rintro e W5 ⟨rfl, hp⟩; rw [HNB.out.2.2.2.1]; have HP5 := Lib.hid hp; clear hp))
      | (go_at_call 48; go_loud (refine (ps_next8 (k := 12) HP3.out (by have := HL.out; omega)).mono ?_; rintro e W4 ⟨rfl, hp⟩; rw [HNB.out.2.2.1]; have HP4 := Lib.hid hp; clear hp))
      | (go_at_call 48; go_loud (refine (ps_next8 (k := 11) HP2.out (by have := HL.out; omega)).mono ?_; rintro e W3 ⟨rfl, hp⟩; rw [HNB.out.2.1]; have HP3 := Lib.hid hp; clear hp))
      | (go_at_call 48; go_loud (refine (ps_next8 (k := 10) HP1.out (by have := HL.out; omega)).mono ?_; rintro e W2 ⟨rfl, hp⟩; rw [HNB.out.1]; have HP2 := Lib.hid hp; clear hp)))
    have HP7 := Lib.hid (PS.st (PS.st (PS.st (PS.st (PS.st HP6.out 8 (by omega) (.int .u8 y_p) ⟨nm, y_p, 0, 0, 0, 0, 0, 0, 0, (List.replicate 256 false), 0, 0, 0, 0⟩ (fun i hi => suV_p _ y_p hi)) 9 (by omega) (.int .u8 y_n) ⟨nm, y_p, y_n, 0, 0, 0, 0, 0, 0, (List.replicate 256 false), 0, 0, 0, 0⟩ (fun i hi => suV_n _ y_n hi)) 10 (by omega) (.int .u8 y_t) ⟨nm, y_p, y_n, y_t, 0, 0, 0, 0, 0, (List.replicate 256 false), 0, 0, 0, 0⟩ (fun i hi => suV_t _ y_t hi)) 11 (by omega) (.int .u8 y_m) ⟨nm, y_p, y_n, y_t, y_m, 0, 0, 0, 0, (List.replicate 256 false), 0, 0, 0, 0⟩ (fun i hi => suV_m _ y_m hi)) 12 (by omega) (.int .u8 y_c) ⟨nm, y_p, y_n, y_t, y_m, y_c, 0, 0, 0, (List.replicate 256 false), 0, 0, 0, 0⟩ (fun i hi => suV_c _ y_c hi))
    clear c8 c9 c10 c11 c12 hf
    generalize (((((W6.setCell ⟨q, 8, none⟩ (.int .u8 y_p)).setCell ⟨q, 9, none⟩ (.int .u8 y_n)).setCell ⟨q, 10, none⟩ (.int .u8 y_t)).setCell ⟨q, 11, none⟩ (.int .u8 y_m)).setCell ⟨q, 12, none⟩ (.int .u8 y_c)) = W7 at HP7 ⊢
    go_upto_region 7 with (first
      | (go_at_call 49; go_loud (refine (ps_next32 (k := 23) HP9.out (by have := HL.out; omega)).mono ?_; rintro e W10 ⟨rfl, hp⟩; rw [HNB.out.2.2.2.2.2.2.2.1]; have HP10 := Lib.hid hp; obtain ⟨-, -, -, -, -, c13, c14, c15, -, -, -, -⟩ := hp.2.1.num; have hf := hp.free; clear hp))
      | (go_at_call 49; go_loud (refine (ps_next32 (k := 19) HP8.out (by have := HL.out; omega)).mono ?_; rintro e W9 ⟨rfl, hp⟩; rw [HNB.out.2.2.2.2.2.2.1]; have HP9 := Lib.hid hp; clear hp))
      | (go_at_call 49; go_loud (refine (ps_next32 (k := 15) HP7.out (by have := HL.out; omega)).mono ?_; rintro e W8 ⟨rfl, hp⟩; rw [HNB.out.2.2.2.2.2.1]; have HP8 := Lib.hid hp; clear hp)))
    have HP11 := Lib.hid (PS.st (PS.st (PS.st HP10.out 13 (by omega) (.int .u32 y_bl) ⟨nm, y_p, y_n, y_t, y_m, y_c, y_bl, 0, 0, (List.replicate 256 false), 0, 0, 0, 0⟩ (fun i hi => suV_bl _ y_bl hi)) 14 (by omega) (.int .u32 y_bo) ⟨nm, y_p, y_n, y_t, y_m, y_c, y_bl, y_bo, 0, (List.replicate 256 false), 0, 0, 0, 0⟩ (fun i hi => suV_bo _ y_bo hi)) 15 (by omega) (.int .u32 y_ep) ⟨nm, y_p, y_n, y_t, y_m, y_c, y_bl, y_bo, y_ep, (List.replicate 256 false), 0, 0, 0, 0⟩ (fun i hi => suV_ep _ y_ep hi))
    clear c13 c14 c15 hf
    generalize (((W10.setCell ⟨q, 13, none⟩ (.int .u32 y_bl)).setCell ⟨q, 14, none⟩ (.int .u32 y_bo)).setCell ⟨q, 15, none⟩ (.int .u32 y_ep)) = W11 at HP11 ⊢
    have hul : ((b.drop 27).take 32).length = 32 := by rw [List.length_take, List.length_drop, HL.out]; rfl
    have HUL := Lib.hid (And.intro hul (show l27.length = 256 by rw [H27.out]; exact length_unpackL _ _))
    clear hul
    go_upto_region 8 with (first
      | (go_at_call 47; go_loud (refine (ps_take (k := 27) HP11.out 32 (by have := HL.out; omega)).mono ?_; rintro e W12 ⟨a27, k27, rfl, ha, hp⟩; have HP12 := Lib.hid hp; have HU := Lib.hid (unpack_yes a27 32 k27 ((b.drop 27).take 32) 256 W12 HUL.out.1 ha.1.2.1 ((ha.1.2.2.1.below hp.1.below).more hp.1.below.size) (by omega) rfl (fun i h1 h2 => by rw [HUL.out.1] at h2; omega)); rw [← H27.out] at HU; clear ha hp))
      | (go_at_call 50; go_loud (refine HU.out.mono ?_; rintro e W13 ⟨gU, rfl, ho, hb⟩; have HP13 := Lib.hid (HP12.out.on hb); have HOU := Lib.hid ho; clear ho hb)))
    have hsla := fun W => slice256a W q 16
    obtain ⟨cur, hcur⟩ : ∃ c, c = (tabV 276 (suV ⟨nm, y_p, y_n, y_t, y_m, y_c, y_bl, y_bo, y_ep, (List.replicate 256 false), 0, 0, 0, 0⟩)).toList := ⟨_, rfl⟩
    obtain ⟨cs, hcs⟩ : ∃ c, c = l27.map Value.bool := ⟨_, rfl⟩
    have hcl : cs.length = 256 ∧ cur.length = 276 := ⟨by rw [hcs, List.length_map]; exact HUL.out.2, by rw [hcur, Array.length_toList, size_tabV]⟩
    have HCS := Lib.hid (And.intro hcs (And.intro hcur hcl))
    have HGQ := Lib.hid (show W13.heap[q]? = some (.cells cur.toArray 33 (0, 0)) by rw [hcur, Array.toArray_toList]; exact HP13.out.2.1)
    have HSRC := Lib.hid (show ∀ j v, cs[j]? = some v → W13.cell? ((⟨gU, 0, none⟩ : Addr).add j) = some v from fun j v hj => by
      rw [hcs] at hj
      have hjl : j < 256 := by have := (List.getElem?_eq_some_iff.1 hj).1; rw [List.length_map, HUL.out.2] at this; exact this
      rw [map_bool_getElem? (by rw [HUL.out.2]; exact hjl)] at hj
      rw [Addr.add_lit, ← hj]
      exact own_cellsL HOU.out j hjl)
    have HOC := Lib.hid (show ∀ v ∈ cs, v.oneCell' = true from fun v hv => by rw [hcs] at hv; obtain ⟨x, _, rfl⟩ := List.mem_map.1 hv; rfl)
    clear hcur hcs hcl
    go_upto_region 9 with ((with_reducible show wpList _ _ _ (⟨some 55, _, _, _, _, _⟩ :: _) _ _); go_loud (refine wpList_copy_splice (o := ⟨some 55, _, _, _, _, _⟩) rfl (.tmp 53) (.tmp 54) 108 108 rfl 4 Tryz.underlying108 size_b4 (some ⟨q, 16, none⟩) (some ⟨gU, 0, none⟩) 256 256 256 256 rfl rfl q 16 cur 33 HGQ.out cs (by rw [HCS.out.2.2.1]; rfl) (fun _ => ⟨rfl, ⟨gU, 0, none⟩, rfl, HSRC.out⟩) (by rw [HCS.out.2.2.1, HCS.out.2.2.2]; omega) HOC.out q W13 (Below.refl _ _) (Nat.le_refl _) ?_; intro W14 hg hb; have HP14 := Lib.hid (HP13.out.rowq hb (copy_inn (P := ⟨nm, y_p, y_n, y_t, y_m, y_c, y_bl, y_bo, y_ep, (List.replicate 256 false), 0, 0, 0, 0⟩) HUL.out.2 (by have h := hg.out; rw [HCS.out.1, HCS.out.2.1] at h; exact h))); clear hg hb))
    clear hsla HU HSRC HOC HGQ
    go_upto_region 10 with (first
      | (go_at_call 49; go_loud (refine (ps_next32 (k := 63) HP15.out (by have := HL.out; omega)).mono ?_; rintro e W16 ⟨rfl, hp⟩; rw [HNB.out.2.2.2.2.2.2.2.2.2.1]; have HP16 := Lib.hid hp; obtain ⟨-, -, -, -, -, -, -, -, c272, c273, -, -⟩ := hp.2.1.num; have hf := hp.free; clear hp))
      | (go_at_call 49; go_loud (refine (ps_next32 (k := 59) HP14.out (by have := HL.out; omega)).mono ?_; rintro e W15 ⟨rfl, hp⟩; rw [HNB.out.2.2.2.2.2.2.2.2.1]; have HP15 := Lib.hid hp; clear hp)))
    have HP17 := Lib.hid (PS.st (PS.st HP16.out 272 (by omega) (.int .u32 y_rf) ⟨nm, y_p, y_n, y_t, y_m, y_c, y_bl, y_bo, y_ep, l27, y_rf, 0, 0, 0⟩ (fun i hi => suV_rf _ y_rf hi)) 273 (by omega) (.int .u32 y_sc) ⟨nm, y_p, y_n, y_t, y_m, y_c, y_bl, y_bo, y_ep, l27, y_rf, y_sc, 0, 0⟩ (fun i hi => suV_sc _ y_sc hi))
    clear c272 c273 hf
    generalize ((W16.setCell ⟨q, 272, none⟩ (.int .u32 y_rf)).setCell ⟨q, 273, none⟩ (.int .u32 y_sc)) = W17 at HP17 ⊢
    go_upto_region 11 with (first
      | (go_at_call 48; go_loud (refine (ps_next8 (k := 67) HP17.out (by have := HL.out; omega)).mono ?_; rintro e W18 ⟨rfl, hp⟩; rw [HNB.out.2.2.2.2.2.2.2.2.2.2.1]; have HP18 := Lib.hid hp; obtain ⟨-, -, -, -, -, -, -, -, -, -, c274, -⟩ := hp.2.1.num; have hf := hp.free; clear hp)))
    have HP19 := Lib.hid (PS.st HP18.out 274 (by omega) (.int .u8 y_tg) ⟨nm, y_p, y_n, y_t, y_m, y_c, y_bl, y_bo, y_ep, l27, y_rf, y_sc, y_tg, 0⟩ (fun i hi => suV_tg _ y_tg hi))
    clear c274 hf
    generalize (W18.setCell ⟨q, 274, none⟩ (.int .u8 y_tg)) = W19 at HP19 ⊢
    go_upto_region 12 with (first
      | (go_at_call 49; go_loud (refine (ps_next32 (k := 68) HP19.out (by have := HL.out; omega)).mono ?_; rintro e W20 ⟨rfl, hp⟩; rw [HNB.out.2.2.2.2.2.2.2.2.2.2.2]; have HP20 := Lib.hid hp; obtain ⟨-, -, -, -, -, -, -, -, -, -, -, c275⟩ := hp.2.1.num; have hf := hp.free; clear hp)))
    have HP21 := Lib.hid (PS.st HP20.out 275 (by omega) (.int .u32 y_rs) ⟨nm, y_p, y_n, y_t, y_m, y_c, y_bl, y_bo, y_ep, l27, y_rf, y_sc, y_tg, y_rs⟩ (fun i hi => suV_rs _ y_rs hi))
    clear c275 hf
    generalize (W20.setCell ⟨q, 275, none⟩ (.int .u32 y_rs)) = W21 at HP21 ⊢
    obtain ⟨sF, hsF⟩ : ∃ s, s = tabV 276 (suV ⟨nm, y_p, y_n, y_t, y_m, y_c, y_bl, y_bo, y_ep, l27, y_rf, y_sc, y_tg, y_rs⟩) := ⟨_, rfl⟩
    have HFR := Lib.hid (show W21.heap[q]? = some (.cells sF 33 (0, 0)) by rw [hsF]; exact HP21.out.2.1)
    have HFS := Lib.hid (show (Tryz.prog.info? 33).map (·.size) = some sF.size ∧ c0.size = sF.size ∧ sF.all (·.oneCell') = true by rw [hsF, HC0.out, size_tabV, size_tabV]; exact ⟨sizeSu, rfl, tabV_one (suV_one _)⟩)
    have HCK := Lib.hid (checkedSu_any ⟨nm, y_p, y_n, y_t, y_m, y_c, y_bl, y_bo, y_ep, l27, y_rf, y_sc, y_tg, y_rs⟩ (HPR.out ▸ psuR_wf HX.out.1.2.1 HL.out) a 512 k b W21 (HG.out.on HP21.out.1.below HG.out.1) (HX.out.onV HP21.out.1.below))
    rw [← HPR.out] at HCK
    unfold suA at HCK
    have HRA := Lib.hid (show suA (psuR b) = .agg sF by unfold suA; rw [HPR.out, hsF])
    rw [HPR.out, ← hsF, ← HC0.out, ← HPR.out] at HCK
    clear hsF
    by_cases hch : chSU (psuR b) b
    · have HV := Lib.hid (psu_yes HL.out hch)
      have HCH := Lib.hid hch
      clear hch
      go_wp2_with (first
        | ((with_reducible show wpList _ _ _ (⟨some 68, _, _, _, _, _⟩ :: _) _ _); go_loud (refine wpList_load_row rfl 33 (.tmp 6) rfl q rfl 33 sF (0, 0) _ HFR.out Tryz.underlying33 rfl HFS.out.1 ?_))
        | (go_at_call 51; go_loud (refine HCK.out.mono ?_; rintro e WF ⟨hy, hno, hb⟩; obtain rfl := hy HCH.out; have RF := Lib.hid (show WF.heap[w.heap.size]? = some (.cells c0 33 (0, 0)) by rw [hb.block _ HP21.out.2.2.1.lt, HC0.out]; exact HP21.out.2.2.1); have BF := Lib.hid (bt HP21.out.1.below hb); clear hy hno hb))
        | ((with_reducible show wpList _ _ _ (⟨none, _, _, _, _, _⟩ :: _) _ _); go_loud (refine wpList_store_row rfl 33 (.tmp 2) (.tmp 71) rfl w.heap.size sF rfl rfl 33 c0 RF.out HFS.out.1 HFS.out.2.1 HFS.out.2.2 ?_)))
      refine bodyPost_ret (v := .tuple #[.agg sF, .int .i64 0]) (results_paSu _ _ w.heap.size sF _ rfl rfl (setRow_heap _ _ _ _ _ _ RF.out) HFS.out.1) rfl ⟨?_, below_setRow BF.out (Nat.le_refl _) _⟩
      rw [HV.out.1, HV.out.2, HRA.out]
    · have HV := Lib.hid (psu_not hch)
      have HCH := Lib.hid hch
      clear hch
      go_wp2_with (first
        | ((with_reducible show wpList _ _ _ (⟨some 68, _, _, _, _, _⟩ :: _) _ _); go_loud (refine wpList_load_row rfl 33 (.tmp 6) rfl q rfl 33 sF (0, 0) _ HFR.out Tryz.underlying33 rfl HFS.out.1 ?_))
        | (go_at_call 51; go_loud (refine HCK.out.mono ?_; rintro e WF ⟨hy, hno, hb⟩; obtain rfl := hno HCH.out; have RF := Lib.hid (show WF.heap[w.heap.size]? = some (.cells c0 33 (0, 0)) by rw [hb.block _ HP21.out.2.2.1.lt, HC0.out]; exact HP21.out.2.2.1); have BF := Lib.hid (bt HP21.out.1.below hb); clear hy hno hb))
        | ((with_reducible show wpList _ _ _ (⟨none, _, _, _, _, _⟩ :: _) _ _); go_loud (refine wpList_store_row rfl 33 (.tmp 2) (.tmp 71) rfl w.heap.size c0 rfl rfl 33 c0 RF.out HSZ.out rfl HON.out ?_)))
      refine bodyPost_ret (v := .tuple #[.agg c0, .int .i64 3]) (results_paSu _ _ w.heap.size c0 _ rfl rfl (setRow_heap _ _ _ _ _ _ RF.out) HSZ.out) rfl ⟨?_, below_setRow BF.out (Nat.le_refl _) _⟩
      rw [HV.out.1, HV.out.2, HC0.out]; rfl
end Go.Proofs.YtkfdcdfaikkneaaGreatDoor
