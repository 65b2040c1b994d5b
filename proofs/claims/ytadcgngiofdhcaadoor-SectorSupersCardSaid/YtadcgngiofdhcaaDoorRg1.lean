/- SectorSupers' walk. -/
import Derived.Test.YtadcgngiofdhcaaDoorRe1
import Derived.Test.YtadcgngiofdhcaaDoorRf1
import Derived.Test.YtadcgngiofdhcaaDoorIl
import Derived.Test.YtadcgngiofdhcaaDoorId
import Derived.Test.YtadcgngiofdhcaaDoorZero
namespace Go.Proofs.YtadcgngiofdhcaaDoor
open Go.ChangeShapes Go.WideShapes Go.ChangeAt Go.RowKit Go.Shelf
set_option linter.unusedVariables false
set_option linter.unusedSimpArgs false
set_option maxRecDepth 100000
attribute [local go_sem] Oper.semAt_some

theorem blank2_any (a : Option Addr) (n c : Nat) (l : List Int) (q : Bool) (hq : zeroL l = q) (w : World) (hl : l.length = n) (hb : Bs w w.heap.size a l) (hn : n ≤ 9223372036854775807) :
    Calls Tryd.prog 11 #[.slice a n c] w fun e w' => e = .returned (.bool q) ∧ w = w' := by
  have HZ := Lib.hid (zero_any a n c l w hl hb hn)
  rw [hq] at HZ
  clear hq hb
  go_enter Tryd.func11, Tryd.ntmps11
  go_wp2_with (go_at_call 31; go_loud (refine HZ.out.mono ?_; rintro e w1 ⟨rfl, rfl⟩))
  go_ret
  exact ⟨rfl, rfl⟩
theorem size25 : (Tryd.prog.info? 25).map (·.size) = some 14 := by kernel_rfl
theorem zeroL_01 : zeroL [0, 1] = false := by decide
theorem zeroL_rep (n : Nat) : zeroL (List.replicate n 0) = true := zeroL_true fun i hi => by
  rw [List.getD_eq_getElem?_getD, List.getElem?_replicate]
  split <;> rfl
theorem bs_zeros (w : World) : Bs (w.alloc (.cells (madeCells #[.int .u8 0] 512) 5)) (w.alloc (.cells (madeCells #[.int .u8 0] 512) 5)).heap.size (some ⟨w.heap.size, 0, none⟩) (List.replicate 512 0) :=
  (Bs.of_own (own_made (w := w) (e := 5) (n := 512) (by unfold maxLen; omega))).1
theorem blank_zeros (w : World) : Calls Tryd.prog 11 #[.slice (some ⟨w.heap.size, 0, none⟩) 512 512] (w.alloc (.cells (madeCells #[.int .u8 0] 512) 5)) fun e w' => e = .returned (.bool true) ∧ Below w.heap.size w w' :=
  (blank2_any (some ⟨w.heap.size, 0, none⟩) 512 512 (List.replicate 512 0) true (zeroL_rep 512) _ List.length_replicate (bs_zeros w) (by omega)).mono fun e w' h => ⟨h.1, h.2 ▸ (Below.refl _ _).alloc (Nat.le_refl _) _⟩
theorem bs_two01 (W : World) : Bs (W.alloc (.cells #[.int .u8 0, .int .u8 1] 5)) (W.alloc (.cells #[.int .u8 0, .int .u8 1] 5)).heap.size (some ⟨W.heap.size, 0, none⟩) [0, 1] := fun h0 => ⟨W.heap.size, 0, rfl, by simp, fun j hj => by
  rw [Nat.zero_add, cell_of_row _ W.heap.size j _ _ _ (heap_alloc_new W _)]
  match j, hj with
  | 0, _ => rfl
  | 1, _ => rfl⟩
theorem arg8c_other {W : World} {g n k : Nat} {l : List Int} (h : Arg8c W (some ⟨g, 0, none⟩) n k l) {p : Addr} (hp : g ≠ p.block) (v : Value) : Arg8c (W.setCell p v) (some ⟨g, 0, none⟩) n k l := by
  obtain ⟨⟨h1, h2, h3, h4, h5⟩, h6⟩ := h
  refine ⟨⟨h1, h2, fun h0 => ?_, h4, h5⟩, h6⟩
  obtain ⟨b, off, e, hb, hc⟩ := h3 h0
  cases e
  have hk := heap_setCell_other W p g v hp
  refine ⟨g, 0, rfl, ?_, fun i hi => (World.cell?_of_block (w := W) (a := ⟨g, 0 + i, none⟩) hk).trans (hc i hi)⟩
  rcases Nat.lt_or_ge g (W.setCell p v).heap.size with h7 | h7
  · exact h7
  · rw [Array.getElem?_eq_none h7, Array.getElem?_eq_getElem hb] at hk; cases hk
theorem blank_01 (w : World) : Calls Tryd.prog 11 #[.slice (some ⟨w.heap.size, 0, none⟩) 2 2] (w.alloc (.cells #[.int .u8 0, .int .u8 1] 5)) fun e w' => e = .returned (.bool false) ∧ Below w.heap.size w w' :=
  (blank2_any (some ⟨w.heap.size, 0, none⟩) 2 2 [0, 1] false zeroL_01 _ rfl (bs_two01 w) (by omega)).mono fun e w' h => ⟨h.1, h.2 ▸ (Below.refl _ _).alloc (Nat.le_refl _) _⟩
theorem str_neq02 {l : List Int} (h : 0 < l.length) : ((strOfNums l).toList == []) = false := by
  rw [Lib.strOfNums_toList, beq_eq_false_iff_ne]
  intro e
  have := congrArg List.length e
  simp [Lib.bytesOf] at this
  subst this; simp at h
theorem su_okS {P : SU} (hP : P.Wf) (h : P.Ok) : P.S.length = 512 ∧ psuZ P.S = P ∧ psuE P.S = 0 := by
  have hS := (SU.S_ok h).1
  have hl : P.S.length = 512 := by rw [hS]; exact szL_len (by rw [List.length_append, SU.H_len hP, List.length_take, shaL_len]; decide)
  have hr : psuR P.S = P := by rw [hS]; exact psu_R hP
  have := psu_yes (b := P.S) hl (by rw [hr]; exact ⟨(SU.S_ok h).2, rfl⟩)
  rw [hr] at this
  exact ⟨hl, this⟩
theorem mod4096 (t : Int) : ∃ q : Nat, (IntKind.u64.wrap t).tmod 4096 = (q : Int) ∧ q < 4096 := by
  have h : IntKind.u64.wrap t = t % 18446744073709551616 := by rw [IntKind.wrap_u64]
  rw [h, Int.tmod_eq_emod_of_nonneg (by omega)]
  exact ⟨((t % 18446744073709551616) % 4096).toNat, by omega, by omega⟩
theorem allB_set2 {l : List Int} (h : AllB l) (i : Nat) {y : Int} (hy : 0 ≤ y ∧ y < 256) : AllB (l.set i y) := fun x hx => by
  rcases List.mem_or_eq_of_mem_set hx with h1 | h1
  · exact h x h1
  · rw [h1]; exact hy
theorem xor_byte {x y : Int} (hx : 0 ≤ x ∧ x < 256) (hy : 0 ≤ y ∧ y < 256) : 0 ≤ bits .xor .u8 x y ∧ bits .xor .u8 x y < 256 := by
  rw [u8_xor _ _ hx.1 hx.2 hy.1 hy.2]
  have h2 := Nat.xor_lt_two_pow (n := 8) (show x.toNat < 2 ^ 8 by omega) (show y.toNat < 2 ^ 8 by omega)
  omega

set_option maxHeartbeats 32000000 in
theorem sectorSupers_any (P : SU) (hz : P.nm = List.replicate 8 0 ∧ P.inn = List.replicate 256 false) (hP : P.Wf) (aN aI : Option Addr) (lN cN lI cI : Nat) (N I : List Int) (aB : Option Addr) (lB cB : Nat) (B : List Int) (whole : Bool) (tt : Int) (w : World)
    (hN : Arg8c w aN lN cN N) (hI : Arg8c w aI lI cI I) (hB : Arg8c w aB lB cB B) (ht : -9223372036854775808 ≤ tt ∧ tt ≤ 9223372036854775807) (hG : Gl w) :
    Calls Tryd.prog 3 #[.agg #[.slice aN lN cN, .int .u8 P.p, .int .u8 P.n, .int .u8 P.t, .int .u8 P.m, .int .u8 P.c, .int .u32 P.bl, .int .u32 P.bo, .int .u32 P.ep, .slice aI lI cI, .int .u32 P.rf, .int .u32 P.sc, .int .u8 P.tg, .int .u32 P.rs], .slice aB lB cB, .bool whole, .int .i64 tt] w fun e w' => e = .returned (.bool true) ∧ Below w.heap.size w w' := by
  have HLV := Lib.hid (lives14 commitBytes_any)
  have HNN := Lib.hid hN
  have HII := Lib.hid hI
  have HBB := Lib.hid hB
  have hIk := hI.1.2.2.2
  have hBk := hB.1.2.2.2
  unfold maxLen at hIk hBk
  have HGG := Lib.hid hG
  obtain ⟨A, hA⟩ : ∃ A, A = w.alloc (.cells #[.slice aN lN cN, .int .u8 P.p, .int .u8 P.n, .int .u8 P.t, .int .u8 P.m, .int .u8 P.c, .int .u32 P.bl, .int .u32 P.bo, .int .u32 P.ep, .slice aI lI cI, .int .u32 P.rf, .int .u32 P.sc, .int .u8 P.tg, .int .u32 P.rs] 25) := ⟨_, rfl⟩
  have hwA : Below w.heap.size w A := by rw [hA]; exact (Below.refl _ _).alloc (Nat.le_refl _) _
  have hAs : A.heap.size = w.heap.size + 1 := by rw [hA]; simp
  have r0 : A.heap[w.heap.size]? = some (.cells #[.slice aN lN cN, .int .u8 P.p, .int .u8 P.n, .int .u8 P.t, .int .u8 P.m, .int .u8 P.c, .int .u32 P.bl, .int .u32 P.bo, .int .u32 P.ep, .slice aI lI cI, .int .u32 P.rf, .int .u32 P.sc, .int .u8 P.tg, .int .u32 P.rs] 25 (0, 0)) := by rw [hA]; exact heap_alloc_new w _
  have HA := Lib.hid (And.intro hA (And.intro hwA (And.intro hAs r0)))
  clear hA hwA hAs r0 hG
  by_cases hI20 : 20 < lI
  case pos =>
    have q1 : (20 : Int) < (lI : Int) := by omega
    clear hI20 hN hI hB hz hP
    go_enter Tryd.func3, Tryd.ntmps3
    go_wp2_with (first
      | (go_at_call 4; go_loud (rw [← HA.out.1]; refine (HLV.out A).mono ?_; rintro e w1 ⟨rfl, hb1⟩; have HB1 := Lib.hid hb1; obtain ⟨-, -, -, -, -, -, -, -, -, y9, -⟩ := cell14 ((hb1.block w.heap.size (by rw [HA.out.2.2.1]; omega)).trans HA.out.2.2.2); clear hb1))
      | (go_at_call 4; go_loud (refine (HLV.out w1).mono ?_; rintro e w2 ⟨rfl, hb2⟩)))
    go_ret
    exact ⟨rfl, bt (bt HA.out.2.1 HB1.out) hb2⟩
  case neg =>
  by_cases hB600 : 600 < lB
  case pos =>
    have q1 : ¬ (20 : Int) < (lI : Int) := by omega
    have q2 : (600 : Int) < (lB : Int) := by omega
    clear hI20 hB600 hN hI hB hz hP
    go_enter Tryd.func3, Tryd.ntmps3
    go_wp2_with (first
      | (go_at_call 4; go_loud (rw [← HA.out.1]; refine (HLV.out A).mono ?_; rintro e w1 ⟨rfl, hb1⟩; have HB1 := Lib.hid hb1; obtain ⟨-, -, -, -, -, -, -, -, -, y9, -⟩ := cell14 ((hb1.block w.heap.size (by rw [HA.out.2.2.1]; omega)).trans HA.out.2.2.2); clear hb1))
      | (go_at_call 4; go_loud (refine (HLV.out w1).mono ?_; rintro e w2 ⟨rfl, hb2⟩)))
    go_ret
    exact ⟨rfl, bt (bt HA.out.2.1 HB1.out) hb2⟩
  case neg =>
  have q1 : ¬ (20 : Int) < (lI : Int) := by omega
  have q2 : ¬ (600 : Int) < (lB : Int) := by omega
  have hOF := fun (W : World) (h1 : Arg8c W aN lN cN N) (h2 : Arg8c W aI lI cI I) => of_any P hz hP aN aI lN cN lI cI N I W h1 h2 (by omega)
  have HL6 := Lib.hid (show lB ≤ 600 by omega)
  have hW2 : (P.mk2 N I).Wf := SU.mk2_wf hP hN.1.2.1
  generalize P.mk2 N I = P2 at hOF hW2
  have hsb := fun (W : World) (hg : Gl W) => superBytes_any P2 hW2 W hg
  have hds := fun (aa : Option Addr) (cc : Nat) (W : World) (h : IA W aa P2.L.length cc P2.L) => refSuper_any P2 hW2 aa _ cc W h
  obtain ⟨s1, hs1⟩ : ∃ s, s = tabV 276 (suV P2) := ⟨_, rfl⟩
  obtain ⟨hz0, hi0⟩ := zero_of_info infoSu
  clear hi0
  obtain ⟨c0, hc0⟩ : ∃ s, s = tabV 276 (suV suZ) := ⟨_, rfl⟩
  rw [← hc0] at hz0
  have HSUA := Lib.hid (show suA P2 = .agg s1 by rw [hs1]; rfl)
  rw [HSUA.out] at hOF hsb
  have HOF := Lib.hid (show ∀ (W : World), Below w.heap.size w W → Calls Tryd.prog 5 #[.agg #[.slice aN lN cN, .int .u8 P.p, .int .u8 P.n, .int .u8 P.t, .int .u8 P.m, .int .u8 P.c, .int .u32 P.bl, .int .u32 P.bo, .int .u32 P.ep, .slice aI lI cI, .int .u32 P.rf, .int .u32 P.sc, .int .u8 P.tg, .int .u32 P.rs]] W fun e w' => (∃ (cY : Array Value) (aY : Option Addr) (kY : Nat), e = .returned (.tuple #[.agg s1, .agg cY]) ∧ (cY.size = 14 ∧ cY.all (·.oneCell') = true) ∧ .agg cY = ruA P2 (.slice aY P2.L.length kY) ∧ IA w' aY P2.L.length kY P2.L) ∧ Below W.heap.size W w' from fun W hW => (hOF W (HNN.out.onV hW) (HII.out.onV hW)).mono fun e w' h => by
    obtain ⟨cY, aa, cc, h1, h2, h3, h4, h5⟩ := h
    exact ⟨⟨cY, aa, cc, h1, h2, h3, h4⟩, h5⟩)
  have HS1 := Lib.hid (show (Tryd.prog.info? 30).map (·.size) = some s1.size ∧ s1.size = c0.size by rw [hs1, hc0, size_tabV, size_tabV]; exact ⟨sizeSu, rfl⟩)
  have HO1 := Lib.hid (show s1.all (·.oneCell') = true by rw [hs1]; exact tabV_one (suV_one P2))
  have HNQ := Lib.hid (show ∀ W, (binOp .neq 30 (.agg s1) (.agg s1)).run Tryd.prog W = .ok (.bool false) W from fun W => by rw [← HSUA.out]; exact neqSu P2 hW2 W)
  have HSB := Lib.hid hsb
  have HW2 := Lib.hid hW2
  have hmk := run_make_row' (P := Tryd.prog) 22 5 (.int .u8 0) 1 Tryd.underlying22 info5 rfl .i64 .i64 512 (by omega) (by omega)
  have hmk : ∀ w : World, (Instr.makeSlice 22 (.int .i64 512) (.int .i64 512)).run Tryd.prog w = .ok (.slice (some ⟨w.heap.size, 0, none⟩) 512 512) (w.alloc (.cells (madeCells #[.int .u8 0] 512) 5)) := hmk
  obtain ⟨t4, htt, ht4⟩ := mod4096 tt
  have ht5 : IntKind.u64.wrap (t4 : Int) = (t4 : Int) := by rw [IntKind.wrap_u64]; omega
  have HDS := Lib.hid hds
  clear hI20 hB600 hN hI hB hz hP hOF hsb hds hs1 hc0 hW2
  by_cases hok : P2.Ok
  case pos =>
    have hSE := SU.S_ok hok
    have HOKS := Lib.hid (su_okS HW2.out hok)
    have HCB := Lib.hid (show ∀ (W : World), Gl W → Calls Tryd.prog 6 #[.agg s1] W fun e w' => ∃ a k, e = .returned (.tuple #[.slice a 512 k, .int .i64 0]) ∧ Arg8c w' a 512 k P2.S ∧ w'.ownsRow W.heap.size 5 1 (.slice a 512 k) 512 (P2.S.map (Value.int .u8)) ∧ Below W.heap.size W w' from fun W hg => (HSB.out W hg).mono fun e w' h => by
      obtain ⟨a, k, h1, h2, h3, h4⟩ := h
      have h5 := h3.2 (by rw [HOKS.out.1]; omega)
      rw [HOKS.out.1] at h1 h2 h5
      rw [hSE.2] at h1
      exact ⟨a, k, h1, h2, h5, h4⟩)
    obtain ⟨SS, hSS⟩ : ∃ s, s = strOfNums P2.S := ⟨_, rfl⟩
    have hne : (SS.toList == []) = false := by rw [hSS]; exact str_neq02 (by rw [HOKS.out.1]; omega)
    have hds := HDS.out
    rw [← hSS] at hds
    clear HDS
    have HDS := Lib.hid hds
    have HSS := Lib.hid hSS
    clear hSE hok hds hSS
    cases whole
    · -- whole = false
      go_enter Tryd.func3, Tryd.ntmps3
      go_upto_region 4 with (first
        | (go_at_call 4; go_loud (rw [← HA.out.1]; refine (HLV.out A).mono ?_; rintro e w1 ⟨rfl, hb1⟩; have HB1 := Lib.hid hb1; have HBX := Lib.hid ((hb1.block w.heap.size (by rw [HA.out.2.2.1]; omega)).trans HA.out.2.2.2); obtain ⟨-, -, -, -, -, -, -, -, -, y9, -⟩ := cell14 HBX.out; clear hb1))
        | ((with_reducible show wpList _ _ _ (⟨some 31, _, _, _, _, _⟩ :: _) _ _); go_loud (refine wpList_load_row rfl 25 (.tmp 4) rfl w.heap.size rfl 25 #[.slice aN lN cN, .int .u8 P.p, .int .u8 P.n, .int .u8 P.t, .int .u8 P.m, .int .u8 P.c, .int .u32 P.bl, .int .u32 P.bo, .int .u32 P.ep, .slice aI lI cI, .int .u32 P.rf, .int .u32 P.sc, .int .u8 P.tg, .int .u32 P.rs] (0, 0) _ HBX.out Tryd.underlying25 rfl size25 ?_; clear y9))
        | (go_at_call 5; go_loud (refine (HOF.out w1 (bt HA.out.2.1 HB1.out)).mono ?_; rintro e w2 ⟨⟨cY, aY, kY, rfl, h14, hY, hIY⟩, hb2⟩; have HB2 := Lib.hid hb2; have HY14 := Lib.hid h14; have HYY := Lib.hid (And.intro hY hIY); clear hb2 h14 hY hIY))
        | ((with_reducible show wpList _ _ _ (⟨none, Op.store 30 _ _, _, _, _, _⟩ :: _) _ _); go_loud (refine wpList_store_row rfl 30 (.tmp 9) (.tmp 33) rfl w2.heap.size s1 rfl rfl 30 c0 ((heap_alloc_old _ _ (by simp)).trans (heap_alloc_new w2 _)) HS1.out.1 HS1.out.2.symm HO1.out ?_))
        | ((with_reducible show wpList _ _ _ (⟨none, Op.store 34 _ _, _, _, _, _⟩ :: _) _ _); go_loud (refine wpList_store_row rfl 34 (.tmp 10) (.tmp 34) rfl (w2.heap.size + 1) cY rfl rfl 34 #[.string { data := #[] }, .int .i64 0, .int .i64 0, .int .i64 0, .int .i64 0, .int .i64 0, .int .u64 0, .int .u64 0, .int .u64 0, .slice none 0 0, .int .u64 0, .int .u64 0, .int .i64 0, .int .u64 0] ((setRow_other _ _ _ _ (by omega)).trans (by have h := heap_alloc_new (w2.alloc (.cells c0 30)) (.cells #[.string { data := #[] }, .int .i64 0, .int .i64 0, .int .i64 0, .int .i64 0, .int .i64 0, .int .u64 0, .int .u64 0, .int .u64 0, .slice none 0 0, .int .u64 0, .int .u64 0, .int .i64 0, .int .u64 0] 34); rw [size_alloc1] at h; exact h)) (by rw [HY14.out.1]; exact sizeRu) HY14.out.1.symm HY14.out.2 ?_)))
      have HV1 := Lib.hid (show Below w2.heap.size w2 ((((w2.alloc (.cells c0 30)).alloc (.cells #[.string { data := #[] }, .int .i64 0, .int .i64 0, .int .i64 0, .int .i64 0, .int .i64 0, .int .u64 0, .int .u64 0, .int .u64 0, .slice none 0 0, .int .u64 0, .int .u64 0, .int .i64 0, .int .u64 0] 34)).setRow w2.heap.size s1).setRow (w2.heap.size + 1) cY) from below_setRow (below_setRow (((Below.refl _ _).alloc (Nat.le_refl _) _).alloc (by simp) _) (Nat.le_refl _) _) (by omega) _)
      have HG9 := Lib.hid (show ((((w2.alloc (.cells c0 30)).alloc (.cells #[.string { data := #[] }, .int .i64 0, .int .i64 0, .int .i64 0, .int .i64 0, .int .i64 0, .int .u64 0, .int .u64 0, .int .u64 0, .slice none 0 0, .int .u64 0, .int .u64 0, .int .i64 0, .int .u64 0] 34)).setRow w2.heap.size s1).setRow (w2.heap.size + 1) cY).heap[w2.heap.size]? = some (.cells s1 30 (0, 0)) from (setRow_other _ _ _ _ (by omega)).trans (setRow_heap _ _ _ _ _ _ ((heap_alloc_old _ _ (by simp)).trans (heap_alloc_new w2 _))))
      have HG10 := Lib.hid (show ((((w2.alloc (.cells c0 30)).alloc (.cells #[.string { data := #[] }, .int .i64 0, .int .i64 0, .int .i64 0, .int .i64 0, .int .i64 0, .int .u64 0, .int .u64 0, .int .u64 0, .slice none 0 0, .int .u64 0, .int .u64 0, .int .i64 0, .int .u64 0] 34)).setRow w2.heap.size s1).setRow (w2.heap.size + 1) cY).heap[w2.heap.size + 1]? = some (.cells cY 34 (0, 0)) from setRow_heap _ _ _ _ _ _ ((setRow_other _ _ _ _ (by omega)).trans (by have h := heap_alloc_new (w2.alloc (.cells c0 30)) (.cells #[.string { data := #[] }, .int .i64 0, .int .i64 0, .int .i64 0, .int .i64 0, .int .i64 0, .int .u64 0, .int .u64 0, .int .u64 0, .slice none 0 0, .int .u64 0, .int .u64 0, .int .i64 0, .int .u64 0] 34); rw [size_alloc1] at h; exact h)))
      generalize (((w2.alloc (.cells c0 30)).alloc (.cells #[.string { data := #[] }, .int .i64 0, .int .i64 0, .int .i64 0, .int .i64 0, .int .i64 0, .int .u64 0, .int .u64 0, .int .u64 0, .slice none 0 0, .int .u64 0, .int .u64 0, .int .i64 0, .int .u64 0] 34)).setRow w2.heap.size s1).setRow (w2.heap.size + 1) cY = V1 at HV1 HG9 HG10 ⊢
      have HWV := Lib.hid (show Below w.heap.size w V1 from bt (bt (bt HA.out.2.1 HB1.out) HB2.out) HV1.out)
      have HIY := Lib.hid (HYY.out.2.on HV1.out)
      go_upto_region 5 with (first
        | ((with_reducible show wpList _ _ _ (⟨some 36, _, _, _, _, _⟩ :: _) _ _); go_loud (refine wpList_load_row rfl 30 (.tmp 9) rfl w2.heap.size rfl 30 s1 (0, 0) _ HG9.out Tryd.underlying30 rfl HS1.out.1 ?_))
        | (go_at_call 6; go_loud (refine (HCB.out V1 (HGG.out.on HWV.out HGG.out.1)).mono ?_; rintro e w5 ⟨a, k, rfl, hax, how, hb5⟩; have HAX := Lib.hid hax; have HOW := Lib.hid how; have HB5 := Lib.hid hb5; clear hax how hb5)))
      have HW5 := Lib.hid (bt HWV.out HB5.out)
      have HR10 := Lib.hid ((HB5.out.block _ (Array.getElem?_eq_some_iff.1 HG10.out).1).trans HG10.out)
      have HR9 := Lib.hid ((HB5.out.block _ (Array.getElem?_eq_some_iff.1 HG9.out).1).trans HG9.out)
      have HS14 := Lib.hid (show (Tryd.prog.info? 34).map (·.size) = some cY.size by rw [HY14.out.1]; exact sizeRu)
      have hcv : ∀ W, Below w5.heap.size w5 W → (convert 22 9 (.slice a 512 k)).run Tryd.prog W = .ok (.string SS) W := fun W hW => by rw [HSS.out]; exact arg_str HAX.out hW
      refine wp_region_held_drew (S := fun W => Below w5.heap.size w5 W) (by kernel_rfl) (Below.refl _ _).drew (fun hHeld => ?_)
      generalize w5.drew = v0 at hHeld ⊢
      refine wpAnyH_take (i := 0) (oi := { dst := some 40, op := Go.Op.move (Go.Operand.tmp 11), type := 22, pos := "law.go:131", after := #[], guard := none }) (v := ?v0c1) rfl (by kernel_rfl) (by kernel_rfl) (by kernel_rfl) (fun _ _ _ h => h) (Or.inl ⟨by rfl, ?hy0c1⟩) hHeld ?rest0c1
      case hy0c1 =>
        intro W' hV
        try dsimp only at hV
        go_simp
        all_goals with_reducible rfl
      case' rest0c1 => try simp only [Act.put, List.setIfInBounds_toArray, List.set_cons_zero, List.set_cons_succ]
      refine wpAnyH_take (i := 1) (oi := { dst := some 41, op := Go.Op.convert 22 9 (Go.Operand.tmp 40), type := 9, pos := "law.go:131", after := #[{ on := 0, ground := Go.Ground.data }], guard := none }) (v := ?v1c2) rfl (by kernel_rfl) (by kernel_rfl) (by kernel_rfl) (fun _ _ _ h => h) (Or.inl ⟨by rfl, ?hy1c2⟩) hHeld ?rest1c2
      case hy1c2 =>
        intro W' hV
        try dsimp only at hV
        go_simp
        all_goals with_reducible rfl
      case' rest1c2 => try simp only [Act.put, List.setIfInBounds_toArray, List.set_cons_zero, List.set_cons_succ]
      refine wpAnyH_take (i := 2) (oi := { dst := some 42, op := Go.Op.load 34 (Go.Operand.tmp 10), type := 34, pos := "law.go:131", after := #[], guard := none }) (v := .agg cY) rfl (by kernel_rfl) (by kernel_rfl) (by kernel_rfl) (fun _ _ _ h => h) (yieldsIf_load_row (by rfl) 34 (.tmp 10) rfl (w2.heap.size + 1) (by rfl) 34 cY (0, 0) _ (fun W h => (h.block _ (Array.getElem?_eq_some_iff.1 HR10.out).1).trans HR10.out) Tryd.underlying34 rfl HS14.out) hHeld ?rest2c3
      case' rest2c3 => try simp only [Act.put, List.setIfInBounds_toArray, List.set_cons_zero, List.set_cons_succ]
      refine wpAnyH_ready (rs := [3]) (by kernel_rfl) (by simp) ?_
      refine AllReadyH.cons (o := { dst := some 43, op := Go.Op.call { callee := Go.Callee.value (Go.Operand.func 7), args := #[Go.Operand.tmp 42], argTypes := #[34] }, type := 9, pos := "law.go:131", after := #[{ on := 2, ground := Go.Ground.data }], guard := none }) rfl (fun K' hK => ?_) AllReadyH.nil
      rw [if_pos (by rfl)]
      go_simp
      go_wp2_with (go_at_call 7; go_loud (rw [HYY.out.1]; (with_reducible refine (HDS.out aY kY v0 ((HIY.out.on HB5.out).on hHeld)).mono ?_); rintro e v1 ⟨rfl, hb⟩))
      refine hK.out _ _ (bt hHeld hb) (fun hHeld1 => ?_)
      clear hK K' hHeld hb
      have hHeld := hHeld1
      clear hHeld1
      try simp only [Act.put, List.setIfInBounds_toArray, List.set_cons_zero, List.set_cons_succ]
      refine wpAnyH_take (i := 4) (oi := { dst := some 44, op := Go.Op.binOp Go.BinOp.neq 9 (Go.Operand.tmp 41) (Go.Operand.tmp 43) 9, type := 4, pos := "law.go:131", after := #[{ on := 1, ground := Go.Ground.data }, { on := 3, ground := Go.Ground.data }], guard := none }) (v := ?v4c4) rfl (by kernel_rfl) (by kernel_rfl) (by kernel_rfl) (fun _ _ _ h => h) (Or.inl ⟨by rfl, ?hy4c4⟩) hHeld ?rest4c4
      case hy4c4 =>
        intro W' hV
        try dsimp only at hV
        go_simp
        all_goals with_reducible rfl
      case' rest4c4 => try simp only [Act.put, List.setIfInBounds_toArray, List.set_cons_zero, List.set_cons_succ]
      refine wpAnyH_take (i := 5) (oi := { dst := some 45, op := Go.Op.move (Go.Operand.tmp 44), type := 4, pos := "law.go:131", after := #[{ on := 4, ground := Go.Ground.data }, { on := 3, ground := Go.Ground.chain }], guard := none }) (v := ?v5c5) rfl (by kernel_rfl) (by kernel_rfl) (by kernel_rfl) (fun _ _ _ h => h) (Or.inl ⟨by rfl, ?hy5c5⟩) hHeld ?rest5c5
      case hy5c5 =>
        intro W' hV
        try dsimp only at hV
        go_simp
        all_goals with_reducible rfl
      case' rest5c5 => try simp only [Act.put, List.setIfInBounds_toArray, List.set_cons_zero, List.set_cons_succ]
      refine wpAnyH_take (i := 6) (oi := { dst := some 46, op := Go.Op.move (Go.Operand.tmp 12), type := 37, pos := "law.go:131", after := #[{ on := 5, ground := Go.Ground.guard }], guard := some (5, false) }) (v := ?v6c6) rfl (by kernel_rfl) (by kernel_rfl) (by kernel_rfl) (fun _ _ _ h => h) (Or.inl ⟨by rfl, ?hy6c6⟩) hHeld ?rest6c6
      case hy6c6 =>
        intro W' hV
        try dsimp only at hV
        go_simp
        all_goals with_reducible rfl
      case' rest6c6 => try simp only [Act.put, List.setIfInBounds_toArray, List.set_cons_zero, List.set_cons_succ]
      refine wpAnyH_take (i := 7) (oi := { dst := some 47, op := Go.Op.binOp Go.BinOp.eql 37 (Go.Operand.tmp 46) (Go.Operand.const (Go.Value.int Go.IntKind.i64 0)) 37, type := 4, pos := "law.go:131", after := #[{ on := 6, ground := Go.Ground.data }, { on := 5, ground := Go.Ground.guard }], guard := some (5, false) }) (v := ?v7c7) rfl (by kernel_rfl) (by kernel_rfl) (by kernel_rfl) (fun _ _ _ h => h) (Or.inl ⟨by rfl, ?hy7c7⟩) hHeld ?rest7c7
      case hy7c7 =>
        intro W' hV
        try dsimp only at hV
        go_simp
        all_goals with_reducible rfl
      case' rest7c7 => try simp only [Act.put, List.setIfInBounds_toArray, List.set_cons_zero, List.set_cons_succ]
      refine wpAnyH_take (i := 8) (oi := { dst := some 48, op := Go.Op.load 34 (Go.Operand.tmp 10), type := 34, pos := "law.go:131", after := #[{ on := 5, ground := Go.Ground.guard }], guard := some (5, false) }) (v := .agg cY) rfl (by kernel_rfl) (by kernel_rfl) (by kernel_rfl) (fun _ _ _ h => h) (yieldsIf_load_row (by rfl) 34 (.tmp 10) rfl (w2.heap.size + 1) (by rfl) 34 cY (0, 0) _ (fun W h => (h.block _ (Array.getElem?_eq_some_iff.1 HR10.out).1).trans HR10.out) Tryd.underlying34 rfl HS14.out) hHeld ?rest8c8
      case' rest8c8 => try simp only [Act.put, List.setIfInBounds_toArray, List.set_cons_zero, List.set_cons_succ]
      refine wpAnyH_ready (rs := [9]) (by kernel_rfl) (by simp) ?_
      refine AllReadyH.cons (o := { dst := some 49, op := Go.Op.call { callee := Go.Callee.value (Go.Operand.func 7), args := #[Go.Operand.tmp 48], argTypes := #[34] }, type := 9, pos := "law.go:131", after := #[{ on := 8, ground := Go.Ground.data }, { on := 5, ground := Go.Ground.chain }, { on := 5, ground := Go.Ground.guard }], guard := some (5, false) }) rfl (fun K' hK => ?_) AllReadyH.nil
      rw [if_pos (by rfl)]
      go_simp
      go_wp2_with (go_at_call 7; go_loud (rw [HYY.out.1]; (with_reducible refine (HDS.out aY kY v1 ((HIY.out.on HB5.out).on hHeld)).mono ?_); rintro e v2 ⟨rfl, hb⟩))
      refine hK.out _ _ (bt hHeld hb) (fun hHeld1 => ?_)
      clear hK K' hHeld hb
      have hHeld := hHeld1
      clear hHeld1
      try simp only [Act.put, List.setIfInBounds_toArray, List.set_cons_zero, List.set_cons_succ]
      refine wpAnyH_take (i := 10) (oi := { dst := some 50, op := Go.Op.binOp Go.BinOp.neq 9 (Go.Operand.tmp 49) (Go.Operand.const (Go.Value.string { data := #[] })) 9, type := 4, pos := "law.go:131", after := #[{ on := 9, ground := Go.Ground.data }, { on := 5, ground := Go.Ground.guard }], guard := some (5, false) }) (v := ?v10c9) rfl (by kernel_rfl) (by kernel_rfl) (by kernel_rfl) (fun _ _ _ h => h) (Or.inl ⟨by rfl, ?hy10c9⟩) hHeld ?rest10c9
      case hy10c9 =>
        intro W' hV
        try dsimp only at hV
        go_simp
        all_goals with_reducible rfl
      case' rest10c9 => try simp only [Act.put, List.setIfInBounds_toArray, List.set_cons_zero, List.set_cons_succ]
      refine wpAnyH_take (i := 11) (oi := { dst := some 51, op := Go.Op.binOp Go.BinOp.neq 4 (Go.Operand.tmp 47) (Go.Operand.tmp 50) 4, type := 4, pos := "law.go:131", after := #[{ on := 7, ground := Go.Ground.data }, { on := 10, ground := Go.Ground.data }, { on := 5, ground := Go.Ground.guard }], guard := some (5, false) }) (v := ?v11c10) rfl (by kernel_rfl) (by kernel_rfl) (by kernel_rfl) (fun _ _ _ h => h) (Or.inl ⟨by rfl, ?hy11c10⟩) hHeld ?rest11c10
      case hy11c10 =>
        intro W' hV
        try dsimp only at hV
        go_simp
        all_goals with_reducible rfl
      case' rest11c10 => try simp only [Act.put, List.setIfInBounds_toArray, List.set_cons_zero, List.set_cons_succ]
      refine wpAnyH_take (i := 12) (oi := { dst := some 52, op := Go.Op.pick (Go.Operand.tmp 45) (Go.Operand.const (Go.Value.bool true)) (Go.Operand.tmp 51), type := 4, pos := "law.go:131", after := #[{ on := 5, ground := Go.Ground.data }, { on := 11, ground := Go.Ground.data }], guard := none }) (v := ?v12c11) rfl (by kernel_rfl) (by kernel_rfl) (by kernel_rfl) (fun _ _ _ h => h) (Or.inl ⟨by rfl, ?hy12c11⟩) hHeld ?rest12c11
      case hy12c11 =>
        intro W' hV
        try dsimp only at hV
        go_simp
        all_goals with_reducible rfl
      case' rest12c11 => try simp only [Act.put, List.setIfInBounds_toArray, List.set_cons_zero, List.set_cons_succ]
      refine wpAnyH_take (i := 13) (oi := { dst := some 53, op := Go.Op.move (Go.Operand.tmp 52), type := 4, pos := "law.go:131", after := #[{ on := 12, ground := Go.Ground.data }, { on := 9, ground := Go.Ground.chain }], guard := none }) (v := ?v13c12) rfl (by kernel_rfl) (by kernel_rfl) (by kernel_rfl) (fun _ _ _ h => h) (Or.inl ⟨by rfl, ?hy13c12⟩) hHeld ?rest13c12
      case hy13c12 =>
        intro W' hV
        try dsimp only at hV
        go_simp
        all_goals with_reducible rfl
      case' rest13c12 => try simp only [Act.put, List.setIfInBounds_toArray, List.set_cons_zero, List.set_cons_succ]
      refine wpAnyH_take (i := 14) (oi := { dst := some 54, op := Go.Op.move (Go.Operand.tmp 12), type := 37, pos := "law.go:131", after := #[{ on := 13, ground := Go.Ground.guard }], guard := some (13, false) }) (v := ?v14c13) rfl (by kernel_rfl) (by kernel_rfl) (by kernel_rfl) (fun _ _ _ h => h) (Or.inl ⟨by rfl, ?hy14c13⟩) hHeld ?rest14c13
      case hy14c13 =>
        intro W' hV
        try dsimp only at hV
        go_simp
        all_goals with_reducible rfl
      case' rest14c13 => try simp only [Act.put, List.setIfInBounds_toArray, List.set_cons_zero, List.set_cons_succ]
      refine wpAnyH_take (i := 15) (oi := { dst := some 55, op := Go.Op.binOp Go.BinOp.neq 37 (Go.Operand.tmp 54) (Go.Operand.const (Go.Value.int Go.IntKind.i64 0)) 37, type := 4, pos := "law.go:131", after := #[{ on := 14, ground := Go.Ground.data }, { on := 13, ground := Go.Ground.guard }], guard := some (13, false) }) (v := ?v15c14) rfl (by kernel_rfl) (by kernel_rfl) (by kernel_rfl) (fun _ _ _ h => h) (Or.inl ⟨by rfl, ?hy15c14⟩) hHeld ?rest15c14
      case hy15c14 =>
        intro W' hV
        try dsimp only at hV
        go_simp
        all_goals with_reducible rfl
      case' rest15c14 => try simp only [Act.put, List.setIfInBounds_toArray, List.set_cons_zero, List.set_cons_succ]
      refine wpAnyH_take (i := 16) (oi := { dst := some 56, op := Go.Op.move (Go.Operand.tmp 55), type := 4, pos := "law.go:131", after := #[{ on := 15, ground := Go.Ground.data }, { on := 13, ground := Go.Ground.chain }, { on := 13, ground := Go.Ground.guard }], guard := some (13, false) }) (v := ?v16c15) rfl (by kernel_rfl) (by kernel_rfl) (by kernel_rfl) (fun _ _ _ h => h) (Or.inl ⟨by rfl, ?hy16c15⟩) hHeld ?rest16c15
      case hy16c15 =>
        intro W' hV
        try dsimp only at hV
        go_simp
        all_goals with_reducible rfl
      case' rest16c15 => try simp only [Act.put, List.setIfInBounds_toArray, List.set_cons_zero, List.set_cons_succ]
      refine wpAnyH_take (i := 17) (oi := { dst := some 57, op := Go.Op.move (Go.Operand.tmp 12), type := 37, pos := "law.go:131", after := #[{ on := 16, ground := Go.Ground.guard }], guard := some (16, true) }) (v := undef) rfl (by kernel_rfl) (by kernel_rfl) (by kernel_rfl) (fun _ _ _ h => h) (Or.inr ⟨by rfl, by rfl⟩) hHeld ?rest17c16
      case' rest17c16 => try simp only [Act.put, List.setIfInBounds_toArray, List.set_cons_zero, List.set_cons_succ]
      refine wpAnyH_take (i := 18) (oi := { dst := some 58, op := Go.Op.binOp Go.BinOp.neq 37 (Go.Operand.tmp 57) (Go.Operand.const (Go.Value.int Go.IntKind.i64 2)) 37, type := 4, pos := "law.go:131", after := #[{ on := 17, ground := Go.Ground.data }, { on := 16, ground := Go.Ground.guard }], guard := some (16, true) }) (v := undef) rfl (by kernel_rfl) (by kernel_rfl) (by kernel_rfl) (fun _ _ _ h => h) (Or.inr ⟨by rfl, by rfl⟩) hHeld ?rest18c17
      case' rest18c17 => try simp only [Act.put, List.setIfInBounds_toArray, List.set_cons_zero, List.set_cons_succ]
      refine wpAnyH_take (i := 19) (oi := { dst := some 59, op := Go.Op.pick (Go.Operand.tmp 56) (Go.Operand.tmp 58) (Go.Operand.const (Go.Value.bool false)), type := 4, pos := "law.go:131", after := #[{ on := 16, ground := Go.Ground.data }, { on := 18, ground := Go.Ground.data }, { on := 13, ground := Go.Ground.guard }], guard := some (13, false) }) (v := ?v19c18) rfl (by kernel_rfl) (by kernel_rfl) (by kernel_rfl) (fun _ _ _ h => h) (Or.inl ⟨by rfl, ?hy19c18⟩) hHeld ?rest19c18
      case hy19c18 =>
        intro W' hV
        try dsimp only at hV
        go_simp
        all_goals with_reducible rfl
      case' rest19c18 => try simp only [Act.put, List.setIfInBounds_toArray, List.set_cons_zero, List.set_cons_succ]
      refine wpAnyH_take (i := 20) (oi := { dst := some 60, op := Go.Op.pick (Go.Operand.tmp 53) (Go.Operand.const (Go.Value.bool true)) (Go.Operand.tmp 59), type := 4, pos := "law.go:131", after := #[{ on := 13, ground := Go.Ground.data }, { on := 19, ground := Go.Ground.data }], guard := none }) (v := ?v20c19) rfl (by kernel_rfl) (by kernel_rfl) (by kernel_rfl) (fun _ _ _ h => h) (Or.inl ⟨by rfl, ?hy20c19⟩) hHeld ?rest20c19
      case hy20c19 =>
        intro W' hV
        try dsimp only at hV
        go_simp
        all_goals with_reducible rfl
      case' rest20c19 => try simp only [Act.put, List.setIfInBounds_toArray, List.set_cons_zero, List.set_cons_succ]
      refine wpAnyH_done (by kernel_rfl) ?_ _
      have HB6 := Lib.hid hHeld
      clear hHeld hcv
      have HW6 := Lib.hid (bt HW5.out HB6.out)
      go_upto_region 9 with fail
      have HW8 := HW6
      have HW8R := Lib.hid (Below.refl v2.heap.size v2)
      have HX6 := Lib.hid (HAX.out.onV (bt HB6.out HW8R.out))
      have HOX := Lib.hid (own_blockT2 (own_blockT2 HOW.out HB6.out) HW8R.out)
      have HPS := Lib.hid (show Calls Tryd.prog 9 #[.slice a 512 k] v2 fun e w' => e = .returned (.tuple #[.agg s1, .int .i64 0]) ∧ Below v2.heap.size v2 w' by
        have h := parseSuper_any a 512 k P2.S v2 HX6.out (by omega) (HGG.out.on HW8.out HGG.out.1)
        rw [HOKS.out.2.1, HOKS.out.2.2, HSUA.out] at h
        exact h)
      go_upto_region 11 with (first
        | (go_at_call 9; go_loud (refine HPS.out.mono ?_; rintro e w7 ⟨rfl, hb7⟩; have HB7 := Lib.hid hb7; clear hb7))
        | ((with_reducible show wpList _ _ _ (⟨none, Op.store 30 _ _, _, _, _, _⟩ :: _) _ _); go_loud (refine wpList_store_row rfl 30 (.tmp 13) (.tmp 69) rfl w7.heap.size s1 rfl rfl 30 c0 (heap_alloc_new w7 _) HS1.out.1 HS1.out.2.symm HO1.out ?_)))
      have HV7 := Lib.hid (show Below w7.heap.size w7 ((w7.alloc (.cells c0 30)).setRow w7.heap.size s1) from below_setRow ((Below.refl _ _).alloc (Nat.le_refl _) _) (Nat.le_refl _) _)
      have HG13 := Lib.hid (setRow_heap _ _ _ s1 _ _ (heap_alloc_new w7 (.cells c0 30)))
      generalize (w7.alloc (.cells c0 30)).setRow w7.heap.size s1 = V7 at HV7 HG13 ⊢
      have HR97 := Lib.hid (show V7.heap[w2.heap.size]? = some (.cells s1 30 (0, 0)) from (bt (bt (bt HB6.out HW8R.out) HB7.out) HV7.out).block _ (Array.getElem?_eq_some_iff.1 HR9.out).1 |>.trans HR9.out)
      have HW7 := Lib.hid (bt (bt HW8.out HB7.out) HV7.out)
      have HOV := Lib.hid (own_blockT2 (own_blockT2 HOX.out HB7.out) HV7.out)
      obtain ⟨d1, d2, d3, d4⟩ := div8 (k := t4) (by omega)
      obtain ⟨m1, m2, m3, m4⟩ := mod8 (k := t4) (by omega)
      have d5 : (t4 : Int) / 8 < 512 := by omega
      obtain ⟨gx, ha⟩ : ∃ gx, a = some ⟨gx, 0, none⟩ := by
        rcases HOV.out.2 with ⟨hv, -⟩ | ⟨gx, cap, cur, hv, -⟩
        · cases hv
        · cases hv; exact ⟨gx, rfl⟩
      subst ha
      have hcl := own_cells HOV.out (t4 / 8) (by omega)
      rw [Nat.zero_add] at hcl
      have HXB := Lib.hid (allB_getD HX6.out.1.2.1 (t4 / 8))
      obtain ⟨X, hX⟩ : ∃ X, X = P2.S.getD (t4 / 8) 0 := ⟨_, rfl⟩
      rw [← hX] at hcl HXB
      have HX := Lib.hid hX
      have HOWL := Lib.hid (show gx < v2.heap.size from by have h1 := (HOW.out.lt gx rfl).2; have h2 := HB6.out.size; omega)
      clear hX
      have HT4 := Lib.hid ht4
      clear ht4
      go_upto_region 14 with (first
        | ((with_reducible show wpList _ _ _ (⟨some 74, _, _, _, _, _⟩ :: _) _ _); go_loud (refine wpList_load_rowG (by rfl) 30 (.tmp 13) rfl w7.heap.size rfl 30 s1 (0, 0) _ HG13.out Tryd.underlying30 rfl HS1.out.1 ?_))
        | ((with_reducible show wpList _ _ _ (⟨some 75, _, _, _, _, _⟩ :: _) _ _); go_loud (refine wpList_load_rowG (by rfl) 30 (.tmp 9) rfl w2.heap.size rfl 30 s1 (0, 0) _ HR97.out Tryd.underlying30 rfl HS1.out.1 ?_))
        | ((with_reducible show wpList _ _ _ (⟨some 76, _, _, _, _, _⟩ :: _) _ _); go_loud (refine wpList_binG (by rfl) .neq 30 (.tmp 74) (.tmp 75) 30 rfl (.agg s1) (.agg s1) (.bool false) rfl rfl (guardSu _ _ _ _ _ _) (HNQ.out _) ?_)))
      go_still_tail 10, (by kernel_rfl)
      change wpList _ _ _ _ _ V7.drew
      have HD8 := Lib.hid (show Below V7.heap.size V7 V7.drew from (Below.refl _ _).drew)
      clear hcl
      generalize V7.drew = V8 at HD8 ⊢
      have HOV8 := Lib.hid (own_blockT2 HOV.out HD8.out)
      have hcl8 := own_cells HOV8.out (t4 / 8) (by omega)
      rw [Nat.zero_add, ← HX.out] at hcl8
      have hfz8 := HOV8.out.frozenAt (t4 / 8)
      go_upto_region 15 with fail
      clear hcl8 hfz8
      obtain ⟨Z, hZ⟩ : ∃ Z, Z = bits .xor .u8 X (2 ^ (t4 % 8) % 256) := ⟨_, rfl⟩
      have hZb : 0 ≤ Z ∧ Z < 256 := by rw [hZ]; exact xor_byte HXB.out ⟨Int.emod_nonneg _ (by omega), Int.emod_lt_of_pos _ (by omega)⟩
      rw [← hZ]
      clear hZ
      have HGX := Lib.hid (HOV8.out.lt gx rfl)
      have HV9 := Lib.hid (show Below w.heap.size w (V8.setCell ⟨gx, t4 / 8, none⟩ (.int .u8 Z)) from (bt HW7.out HD8.out).setCell (p := ⟨gx, t4 / 8, none⟩) (by have := HGX.out.1; have := HWV.out.size; show w.heap.size ≤ gx; omega) _)
      have HO9 := Lib.hid (show (V8.setCell ⟨gx, t4 / 8, none⟩ (.int .u8 Z)).ownsRow V1.heap.size 5 1 (.slice (some ⟨gx, 0, none⟩) 512 k) 512 ((P2.S.set (t4 / 8) Z).map (Value.int .u8)) by
        have h := (HOV8.out.stored (t4 / 8) (.int .u8 Z)).1
        rw [← map_set_u8]
        exact h)
      have HX9 := Lib.hid (arg_own HO9.out (allB_set2 HX6.out.1.2.1 _ hZb))
      generalize V8.setCell ⟨gx, t4 / 8, none⟩ (.int .u8 Z) = V9 at HV9 HO9 HX9 ⊢
      have HPX := Lib.hid (parsed_any (some ⟨gx, 0, none⟩) 512 k (P2.S.set (t4 / 8) Z) V9 HX9.out (by omega) (HGG.out.on HV9.out HGG.out.1))
      go_upto_region 17 with (go_at_call 10; go_loud (refine HPX.out.mono ?_; rintro e w16 ⟨rfl, hb16⟩; have HB16 := Lib.hid hb16; clear hb16))
      have HW16 := Lib.hid (bt HV9.out HB16.out)
      have HPB := Lib.hid (parsed_any aB lB cB B w16 (HBB.out.onV HW16.out) HL6.out (HGG.out.on HW16.out HGG.out.1))
      have hmk := hmk
      go_wp2_with (first
        | (go_at_call 10; go_loud (refine HPB.out.mono ?_; rintro e w20 ⟨rfl, hb20⟩; have HB20 := Lib.hid hb20; clear hb20))
        | (go_at_call 11; go_loud ((with_reducible refine (blank_zeros w20).mono ?_); rintro e w21 ⟨rfl, hb21⟩; have HB21 := Lib.hid (bt HB20.out hb21); clear hb21))
        | (go_at_call 11; go_loud ((with_reducible refine (blank_01 w21).mono ?_); rintro e w22 ⟨rfl, hb22⟩; have HB22 := Lib.hid (bt HB21.out hb22); clear hb22)))
      go_ret
      exact ⟨rfl, bt HW16.out HB22.out⟩
    · -- whole = true
      go_enter Tryd.func3, Tryd.ntmps3
      go_upto_region 4 with (first
        | (go_at_call 4; go_loud (rw [← HA.out.1]; refine (HLV.out A).mono ?_; rintro e w1 ⟨rfl, hb1⟩; have HB1 := Lib.hid hb1; have HBX := Lib.hid ((hb1.block w.heap.size (by rw [HA.out.2.2.1]; omega)).trans HA.out.2.2.2); obtain ⟨-, -, -, -, -, -, -, -, -, y9, -⟩ := cell14 HBX.out; clear hb1))
        | ((with_reducible show wpList _ _ _ (⟨some 31, _, _, _, _, _⟩ :: _) _ _); go_loud (refine wpList_load_row rfl 25 (.tmp 4) rfl w.heap.size rfl 25 #[.slice aN lN cN, .int .u8 P.p, .int .u8 P.n, .int .u8 P.t, .int .u8 P.m, .int .u8 P.c, .int .u32 P.bl, .int .u32 P.bo, .int .u32 P.ep, .slice aI lI cI, .int .u32 P.rf, .int .u32 P.sc, .int .u8 P.tg, .int .u32 P.rs] (0, 0) _ HBX.out Tryd.underlying25 rfl size25 ?_; clear y9))
        | (go_at_call 5; go_loud (refine (HOF.out w1 (bt HA.out.2.1 HB1.out)).mono ?_; rintro e w2 ⟨⟨cY, aY, kY, rfl, h14, hY, hIY⟩, hb2⟩; have HB2 := Lib.hid hb2; have HY14 := Lib.hid h14; have HYY := Lib.hid (And.intro hY hIY); clear hb2 h14 hY hIY))
        | ((with_reducible show wpList _ _ _ (⟨none, Op.store 30 _ _, _, _, _, _⟩ :: _) _ _); go_loud (refine wpList_store_row rfl 30 (.tmp 9) (.tmp 33) rfl w2.heap.size s1 rfl rfl 30 c0 ((heap_alloc_old _ _ (by simp)).trans (heap_alloc_new w2 _)) HS1.out.1 HS1.out.2.symm HO1.out ?_))
        | ((with_reducible show wpList _ _ _ (⟨none, Op.store 34 _ _, _, _, _, _⟩ :: _) _ _); go_loud (refine wpList_store_row rfl 34 (.tmp 10) (.tmp 34) rfl (w2.heap.size + 1) cY rfl rfl 34 #[.string { data := #[] }, .int .i64 0, .int .i64 0, .int .i64 0, .int .i64 0, .int .i64 0, .int .u64 0, .int .u64 0, .int .u64 0, .slice none 0 0, .int .u64 0, .int .u64 0, .int .i64 0, .int .u64 0] ((setRow_other _ _ _ _ (by omega)).trans (by have h := heap_alloc_new (w2.alloc (.cells c0 30)) (.cells #[.string { data := #[] }, .int .i64 0, .int .i64 0, .int .i64 0, .int .i64 0, .int .i64 0, .int .u64 0, .int .u64 0, .int .u64 0, .slice none 0 0, .int .u64 0, .int .u64 0, .int .i64 0, .int .u64 0] 34); rw [size_alloc1] at h; exact h)) (by rw [HY14.out.1]; exact sizeRu) HY14.out.1.symm HY14.out.2 ?_)))
      have HV1 := Lib.hid (show Below w2.heap.size w2 ((((w2.alloc (.cells c0 30)).alloc (.cells #[.string { data := #[] }, .int .i64 0, .int .i64 0, .int .i64 0, .int .i64 0, .int .i64 0, .int .u64 0, .int .u64 0, .int .u64 0, .slice none 0 0, .int .u64 0, .int .u64 0, .int .i64 0, .int .u64 0] 34)).setRow w2.heap.size s1).setRow (w2.heap.size + 1) cY) from below_setRow (below_setRow (((Below.refl _ _).alloc (Nat.le_refl _) _).alloc (by simp) _) (Nat.le_refl _) _) (by omega) _)
      have HG9 := Lib.hid (show ((((w2.alloc (.cells c0 30)).alloc (.cells #[.string { data := #[] }, .int .i64 0, .int .i64 0, .int .i64 0, .int .i64 0, .int .i64 0, .int .u64 0, .int .u64 0, .int .u64 0, .slice none 0 0, .int .u64 0, .int .u64 0, .int .i64 0, .int .u64 0] 34)).setRow w2.heap.size s1).setRow (w2.heap.size + 1) cY).heap[w2.heap.size]? = some (.cells s1 30 (0, 0)) from (setRow_other _ _ _ _ (by omega)).trans (setRow_heap _ _ _ _ _ _ ((heap_alloc_old _ _ (by simp)).trans (heap_alloc_new w2 _))))
      have HG10 := Lib.hid (show ((((w2.alloc (.cells c0 30)).alloc (.cells #[.string { data := #[] }, .int .i64 0, .int .i64 0, .int .i64 0, .int .i64 0, .int .i64 0, .int .u64 0, .int .u64 0, .int .u64 0, .slice none 0 0, .int .u64 0, .int .u64 0, .int .i64 0, .int .u64 0] 34)).setRow w2.heap.size s1).setRow (w2.heap.size + 1) cY).heap[w2.heap.size + 1]? = some (.cells cY 34 (0, 0)) from setRow_heap _ _ _ _ _ _ ((setRow_other _ _ _ _ (by omega)).trans (by have h := heap_alloc_new (w2.alloc (.cells c0 30)) (.cells #[.string { data := #[] }, .int .i64 0, .int .i64 0, .int .i64 0, .int .i64 0, .int .i64 0, .int .u64 0, .int .u64 0, .int .u64 0, .slice none 0 0, .int .u64 0, .int .u64 0, .int .i64 0, .int .u64 0] 34); rw [size_alloc1] at h; exact h)))
      generalize (((w2.alloc (.cells c0 30)).alloc (.cells #[.string { data := #[] }, .int .i64 0, .int .i64 0, .int .i64 0, .int .i64 0, .int .i64 0, .int .u64 0, .int .u64 0, .int .u64 0, .slice none 0 0, .int .u64 0, .int .u64 0, .int .i64 0, .int .u64 0] 34)).setRow w2.heap.size s1).setRow (w2.heap.size + 1) cY = V1 at HV1 HG9 HG10 ⊢
      have HWV := Lib.hid (show Below w.heap.size w V1 from bt (bt (bt HA.out.2.1 HB1.out) HB2.out) HV1.out)
      have HIY := Lib.hid (HYY.out.2.on HV1.out)
      go_upto_region 5 with (first
        | ((with_reducible show wpList _ _ _ (⟨some 36, _, _, _, _, _⟩ :: _) _ _); go_loud (refine wpList_load_row rfl 30 (.tmp 9) rfl w2.heap.size rfl 30 s1 (0, 0) _ HG9.out Tryd.underlying30 rfl HS1.out.1 ?_))
        | (go_at_call 6; go_loud (refine (HCB.out V1 (HGG.out.on HWV.out HGG.out.1)).mono ?_; rintro e w5 ⟨a, k, rfl, hax, how, hb5⟩; have HAX := Lib.hid hax; have HOW := Lib.hid how; have HB5 := Lib.hid hb5; clear hax how hb5)))
      have HW5 := Lib.hid (bt HWV.out HB5.out)
      have HR10 := Lib.hid ((HB5.out.block _ (Array.getElem?_eq_some_iff.1 HG10.out).1).trans HG10.out)
      have HR9 := Lib.hid ((HB5.out.block _ (Array.getElem?_eq_some_iff.1 HG9.out).1).trans HG9.out)
      have HS14 := Lib.hid (show (Tryd.prog.info? 34).map (·.size) = some cY.size by rw [HY14.out.1]; exact sizeRu)
      have hcv : ∀ W, Below w5.heap.size w5 W → (convert 22 9 (.slice a 512 k)).run Tryd.prog W = .ok (.string SS) W := fun W hW => by rw [HSS.out]; exact arg_str HAX.out hW
      refine wp_region_held_drew (S := fun W => Below w5.heap.size w5 W) (by kernel_rfl) (Below.refl _ _).drew (fun hHeld => ?_)
      generalize w5.drew = v0 at hHeld ⊢
      refine wpAnyH_take (i := 0) (oi := { dst := some 40, op := Go.Op.move (Go.Operand.tmp 11), type := 22, pos := "law.go:131", after := #[], guard := none }) (v := ?v0d1) rfl (by kernel_rfl) (by kernel_rfl) (by kernel_rfl) (fun _ _ _ h => h) (Or.inl ⟨by rfl, ?hy0d1⟩) hHeld ?rest0d1
      case hy0d1 =>
        intro W' hV
        try dsimp only at hV
        go_simp
        all_goals with_reducible rfl
      case' rest0d1 => try simp only [Act.put, List.setIfInBounds_toArray, List.set_cons_zero, List.set_cons_succ]
      refine wpAnyH_take (i := 1) (oi := { dst := some 41, op := Go.Op.convert 22 9 (Go.Operand.tmp 40), type := 9, pos := "law.go:131", after := #[{ on := 0, ground := Go.Ground.data }], guard := none }) (v := ?v1d2) rfl (by kernel_rfl) (by kernel_rfl) (by kernel_rfl) (fun _ _ _ h => h) (Or.inl ⟨by rfl, ?hy1d2⟩) hHeld ?rest1d2
      case hy1d2 =>
        intro W' hV
        try dsimp only at hV
        go_simp
        all_goals with_reducible rfl
      case' rest1d2 => try simp only [Act.put, List.setIfInBounds_toArray, List.set_cons_zero, List.set_cons_succ]
      refine wpAnyH_take (i := 2) (oi := { dst := some 42, op := Go.Op.load 34 (Go.Operand.tmp 10), type := 34, pos := "law.go:131", after := #[], guard := none }) (v := .agg cY) rfl (by kernel_rfl) (by kernel_rfl) (by kernel_rfl) (fun _ _ _ h => h) (yieldsIf_load_row (by rfl) 34 (.tmp 10) rfl (w2.heap.size + 1) (by rfl) 34 cY (0, 0) _ (fun W h => (h.block _ (Array.getElem?_eq_some_iff.1 HR10.out).1).trans HR10.out) Tryd.underlying34 rfl HS14.out) hHeld ?rest2d3
      case' rest2d3 => try simp only [Act.put, List.setIfInBounds_toArray, List.set_cons_zero, List.set_cons_succ]
      refine wpAnyH_ready (rs := [3]) (by kernel_rfl) (by simp) ?_
      refine AllReadyH.cons (o := { dst := some 43, op := Go.Op.call { callee := Go.Callee.value (Go.Operand.func 7), args := #[Go.Operand.tmp 42], argTypes := #[34] }, type := 9, pos := "law.go:131", after := #[{ on := 2, ground := Go.Ground.data }], guard := none }) rfl (fun K' hK => ?_) AllReadyH.nil
      rw [if_pos (by rfl)]
      go_simp
      go_wp2_with (go_at_call 7; go_loud (rw [HYY.out.1]; (with_reducible refine (HDS.out aY kY v0 ((HIY.out.on HB5.out).on hHeld)).mono ?_); rintro e v1 ⟨rfl, hb⟩))
      refine hK.out _ _ (bt hHeld hb) (fun hHeld1 => ?_)
      clear hK K' hHeld hb
      have hHeld := hHeld1
      clear hHeld1
      try simp only [Act.put, List.setIfInBounds_toArray, List.set_cons_zero, List.set_cons_succ]
      refine wpAnyH_take (i := 4) (oi := { dst := some 44, op := Go.Op.binOp Go.BinOp.neq 9 (Go.Operand.tmp 41) (Go.Operand.tmp 43) 9, type := 4, pos := "law.go:131", after := #[{ on := 1, ground := Go.Ground.data }, { on := 3, ground := Go.Ground.data }], guard := none }) (v := ?v4d4) rfl (by kernel_rfl) (by kernel_rfl) (by kernel_rfl) (fun _ _ _ h => h) (Or.inl ⟨by rfl, ?hy4d4⟩) hHeld ?rest4d4
      case hy4d4 =>
        intro W' hV
        try dsimp only at hV
        go_simp
        all_goals with_reducible rfl
      case' rest4d4 => try simp only [Act.put, List.setIfInBounds_toArray, List.set_cons_zero, List.set_cons_succ]
      refine wpAnyH_take (i := 5) (oi := { dst := some 45, op := Go.Op.move (Go.Operand.tmp 44), type := 4, pos := "law.go:131", after := #[{ on := 4, ground := Go.Ground.data }, { on := 3, ground := Go.Ground.chain }], guard := none }) (v := ?v5d5) rfl (by kernel_rfl) (by kernel_rfl) (by kernel_rfl) (fun _ _ _ h => h) (Or.inl ⟨by rfl, ?hy5d5⟩) hHeld ?rest5d5
      case hy5d5 =>
        intro W' hV
        try dsimp only at hV
        go_simp
        all_goals with_reducible rfl
      case' rest5d5 => try simp only [Act.put, List.setIfInBounds_toArray, List.set_cons_zero, List.set_cons_succ]
      refine wpAnyH_take (i := 6) (oi := { dst := some 46, op := Go.Op.move (Go.Operand.tmp 12), type := 37, pos := "law.go:131", after := #[{ on := 5, ground := Go.Ground.guard }], guard := some (5, false) }) (v := ?v6d6) rfl (by kernel_rfl) (by kernel_rfl) (by kernel_rfl) (fun _ _ _ h => h) (Or.inl ⟨by rfl, ?hy6d6⟩) hHeld ?rest6d6
      case hy6d6 =>
        intro W' hV
        try dsimp only at hV
        go_simp
        all_goals with_reducible rfl
      case' rest6d6 => try simp only [Act.put, List.setIfInBounds_toArray, List.set_cons_zero, List.set_cons_succ]
      refine wpAnyH_take (i := 7) (oi := { dst := some 47, op := Go.Op.binOp Go.BinOp.eql 37 (Go.Operand.tmp 46) (Go.Operand.const (Go.Value.int Go.IntKind.i64 0)) 37, type := 4, pos := "law.go:131", after := #[{ on := 6, ground := Go.Ground.data }, { on := 5, ground := Go.Ground.guard }], guard := some (5, false) }) (v := ?v7d7) rfl (by kernel_rfl) (by kernel_rfl) (by kernel_rfl) (fun _ _ _ h => h) (Or.inl ⟨by rfl, ?hy7d7⟩) hHeld ?rest7d7
      case hy7d7 =>
        intro W' hV
        try dsimp only at hV
        go_simp
        all_goals with_reducible rfl
      case' rest7d7 => try simp only [Act.put, List.setIfInBounds_toArray, List.set_cons_zero, List.set_cons_succ]
      refine wpAnyH_take (i := 8) (oi := { dst := some 48, op := Go.Op.load 34 (Go.Operand.tmp 10), type := 34, pos := "law.go:131", after := #[{ on := 5, ground := Go.Ground.guard }], guard := some (5, false) }) (v := .agg cY) rfl (by kernel_rfl) (by kernel_rfl) (by kernel_rfl) (fun _ _ _ h => h) (yieldsIf_load_row (by rfl) 34 (.tmp 10) rfl (w2.heap.size + 1) (by rfl) 34 cY (0, 0) _ (fun W h => (h.block _ (Array.getElem?_eq_some_iff.1 HR10.out).1).trans HR10.out) Tryd.underlying34 rfl HS14.out) hHeld ?rest8d8
      case' rest8d8 => try simp only [Act.put, List.setIfInBounds_toArray, List.set_cons_zero, List.set_cons_succ]
      refine wpAnyH_ready (rs := [9]) (by kernel_rfl) (by simp) ?_
      refine AllReadyH.cons (o := { dst := some 49, op := Go.Op.call { callee := Go.Callee.value (Go.Operand.func 7), args := #[Go.Operand.tmp 48], argTypes := #[34] }, type := 9, pos := "law.go:131", after := #[{ on := 8, ground := Go.Ground.data }, { on := 5, ground := Go.Ground.chain }, { on := 5, ground := Go.Ground.guard }], guard := some (5, false) }) rfl (fun K' hK => ?_) AllReadyH.nil
      rw [if_pos (by rfl)]
      go_simp
      go_wp2_with (go_at_call 7; go_loud (rw [HYY.out.1]; (with_reducible refine (HDS.out aY kY v1 ((HIY.out.on HB5.out).on hHeld)).mono ?_); rintro e v2 ⟨rfl, hb⟩))
      refine hK.out _ _ (bt hHeld hb) (fun hHeld1 => ?_)
      clear hK K' hHeld hb
      have hHeld := hHeld1
      clear hHeld1
      try simp only [Act.put, List.setIfInBounds_toArray, List.set_cons_zero, List.set_cons_succ]
      refine wpAnyH_take (i := 10) (oi := { dst := some 50, op := Go.Op.binOp Go.BinOp.neq 9 (Go.Operand.tmp 49) (Go.Operand.const (Go.Value.string { data := #[] })) 9, type := 4, pos := "law.go:131", after := #[{ on := 9, ground := Go.Ground.data }, { on := 5, ground := Go.Ground.guard }], guard := some (5, false) }) (v := ?v10d9) rfl (by kernel_rfl) (by kernel_rfl) (by kernel_rfl) (fun _ _ _ h => h) (Or.inl ⟨by rfl, ?hy10d9⟩) hHeld ?rest10d9
      case hy10d9 =>
        intro W' hV
        try dsimp only at hV
        go_simp
        all_goals with_reducible rfl
      case' rest10d9 => try simp only [Act.put, List.setIfInBounds_toArray, List.set_cons_zero, List.set_cons_succ]
      refine wpAnyH_take (i := 11) (oi := { dst := some 51, op := Go.Op.binOp Go.BinOp.neq 4 (Go.Operand.tmp 47) (Go.Operand.tmp 50) 4, type := 4, pos := "law.go:131", after := #[{ on := 7, ground := Go.Ground.data }, { on := 10, ground := Go.Ground.data }, { on := 5, ground := Go.Ground.guard }], guard := some (5, false) }) (v := ?v11d10) rfl (by kernel_rfl) (by kernel_rfl) (by kernel_rfl) (fun _ _ _ h => h) (Or.inl ⟨by rfl, ?hy11d10⟩) hHeld ?rest11d10
      case hy11d10 =>
        intro W' hV
        try dsimp only at hV
        go_simp
        all_goals with_reducible rfl
      case' rest11d10 => try simp only [Act.put, List.setIfInBounds_toArray, List.set_cons_zero, List.set_cons_succ]
      refine wpAnyH_take (i := 12) (oi := { dst := some 52, op := Go.Op.pick (Go.Operand.tmp 45) (Go.Operand.const (Go.Value.bool true)) (Go.Operand.tmp 51), type := 4, pos := "law.go:131", after := #[{ on := 5, ground := Go.Ground.data }, { on := 11, ground := Go.Ground.data }], guard := none }) (v := ?v12d11) rfl (by kernel_rfl) (by kernel_rfl) (by kernel_rfl) (fun _ _ _ h => h) (Or.inl ⟨by rfl, ?hy12d11⟩) hHeld ?rest12d11
      case hy12d11 =>
        intro W' hV
        try dsimp only at hV
        go_simp
        all_goals with_reducible rfl
      case' rest12d11 => try simp only [Act.put, List.setIfInBounds_toArray, List.set_cons_zero, List.set_cons_succ]
      refine wpAnyH_take (i := 13) (oi := { dst := some 53, op := Go.Op.move (Go.Operand.tmp 52), type := 4, pos := "law.go:131", after := #[{ on := 12, ground := Go.Ground.data }, { on := 9, ground := Go.Ground.chain }], guard := none }) (v := ?v13d12) rfl (by kernel_rfl) (by kernel_rfl) (by kernel_rfl) (fun _ _ _ h => h) (Or.inl ⟨by rfl, ?hy13d12⟩) hHeld ?rest13d12
      case hy13d12 =>
        intro W' hV
        try dsimp only at hV
        go_simp
        all_goals with_reducible rfl
      case' rest13d12 => try simp only [Act.put, List.setIfInBounds_toArray, List.set_cons_zero, List.set_cons_succ]
      refine wpAnyH_take (i := 14) (oi := { dst := some 54, op := Go.Op.move (Go.Operand.tmp 12), type := 37, pos := "law.go:131", after := #[{ on := 13, ground := Go.Ground.guard }], guard := some (13, false) }) (v := ?v14d13) rfl (by kernel_rfl) (by kernel_rfl) (by kernel_rfl) (fun _ _ _ h => h) (Or.inl ⟨by rfl, ?hy14d13⟩) hHeld ?rest14d13
      case hy14d13 =>
        intro W' hV
        try dsimp only at hV
        go_simp
        all_goals with_reducible rfl
      case' rest14d13 => try simp only [Act.put, List.setIfInBounds_toArray, List.set_cons_zero, List.set_cons_succ]
      refine wpAnyH_take (i := 15) (oi := { dst := some 55, op := Go.Op.binOp Go.BinOp.neq 37 (Go.Operand.tmp 54) (Go.Operand.const (Go.Value.int Go.IntKind.i64 0)) 37, type := 4, pos := "law.go:131", after := #[{ on := 14, ground := Go.Ground.data }, { on := 13, ground := Go.Ground.guard }], guard := some (13, false) }) (v := ?v15d14) rfl (by kernel_rfl) (by kernel_rfl) (by kernel_rfl) (fun _ _ _ h => h) (Or.inl ⟨by rfl, ?hy15d14⟩) hHeld ?rest15d14
      case hy15d14 =>
        intro W' hV
        try dsimp only at hV
        go_simp
        all_goals with_reducible rfl
      case' rest15d14 => try simp only [Act.put, List.setIfInBounds_toArray, List.set_cons_zero, List.set_cons_succ]
      refine wpAnyH_take (i := 16) (oi := { dst := some 56, op := Go.Op.move (Go.Operand.tmp 55), type := 4, pos := "law.go:131", after := #[{ on := 15, ground := Go.Ground.data }, { on := 13, ground := Go.Ground.chain }, { on := 13, ground := Go.Ground.guard }], guard := some (13, false) }) (v := ?v16d15) rfl (by kernel_rfl) (by kernel_rfl) (by kernel_rfl) (fun _ _ _ h => h) (Or.inl ⟨by rfl, ?hy16d15⟩) hHeld ?rest16d15
      case hy16d15 =>
        intro W' hV
        try dsimp only at hV
        go_simp
        all_goals with_reducible rfl
      case' rest16d15 => try simp only [Act.put, List.setIfInBounds_toArray, List.set_cons_zero, List.set_cons_succ]
      refine wpAnyH_take (i := 17) (oi := { dst := some 57, op := Go.Op.move (Go.Operand.tmp 12), type := 37, pos := "law.go:131", after := #[{ on := 16, ground := Go.Ground.guard }], guard := some (16, true) }) (v := undef) rfl (by kernel_rfl) (by kernel_rfl) (by kernel_rfl) (fun _ _ _ h => h) (Or.inr ⟨by rfl, by rfl⟩) hHeld ?rest17d16
      case' rest17d16 => try simp only [Act.put, List.setIfInBounds_toArray, List.set_cons_zero, List.set_cons_succ]
      refine wpAnyH_take (i := 18) (oi := { dst := some 58, op := Go.Op.binOp Go.BinOp.neq 37 (Go.Operand.tmp 57) (Go.Operand.const (Go.Value.int Go.IntKind.i64 2)) 37, type := 4, pos := "law.go:131", after := #[{ on := 17, ground := Go.Ground.data }, { on := 16, ground := Go.Ground.guard }], guard := some (16, true) }) (v := undef) rfl (by kernel_rfl) (by kernel_rfl) (by kernel_rfl) (fun _ _ _ h => h) (Or.inr ⟨by rfl, by rfl⟩) hHeld ?rest18d17
      case' rest18d17 => try simp only [Act.put, List.setIfInBounds_toArray, List.set_cons_zero, List.set_cons_succ]
      refine wpAnyH_take (i := 19) (oi := { dst := some 59, op := Go.Op.pick (Go.Operand.tmp 56) (Go.Operand.tmp 58) (Go.Operand.const (Go.Value.bool false)), type := 4, pos := "law.go:131", after := #[{ on := 16, ground := Go.Ground.data }, { on := 18, ground := Go.Ground.data }, { on := 13, ground := Go.Ground.guard }], guard := some (13, false) }) (v := ?v19d18) rfl (by kernel_rfl) (by kernel_rfl) (by kernel_rfl) (fun _ _ _ h => h) (Or.inl ⟨by rfl, ?hy19d18⟩) hHeld ?rest19d18
      case hy19d18 =>
        intro W' hV
        try dsimp only at hV
        go_simp
        all_goals with_reducible rfl
      case' rest19d18 => try simp only [Act.put, List.setIfInBounds_toArray, List.set_cons_zero, List.set_cons_succ]
      refine wpAnyH_take (i := 20) (oi := { dst := some 60, op := Go.Op.pick (Go.Operand.tmp 53) (Go.Operand.const (Go.Value.bool true)) (Go.Operand.tmp 59), type := 4, pos := "law.go:131", after := #[{ on := 13, ground := Go.Ground.data }, { on := 19, ground := Go.Ground.data }], guard := none }) (v := ?v20d19) rfl (by kernel_rfl) (by kernel_rfl) (by kernel_rfl) (fun _ _ _ h => h) (Or.inl ⟨by rfl, ?hy20d19⟩) hHeld ?rest20d19
      case hy20d19 =>
        intro W' hV
        try dsimp only at hV
        go_simp
        all_goals with_reducible rfl
      case' rest20d19 => try simp only [Act.put, List.setIfInBounds_toArray, List.set_cons_zero, List.set_cons_succ]
      refine wpAnyH_done (by kernel_rfl) ?_ _
      have HB6 := Lib.hid hHeld
      clear hHeld hcv
      have HW6 := Lib.hid (bt HW5.out HB6.out)
      go_upto_region 9 with (go_at_call 8; go_loud (refine (made_any aB lB cB B v2 (HBB.out.onV HW6.out)).mono ?_; rintro e w8 ⟨g8, rfl, hx8, hg8, hb8⟩; have HX8 := Lib.hid hx8; have HG8 := Lib.hid hg8; have HW8R := Lib.hid hb8; clear hx8 hg8 hb8))
      have HW8 := Lib.hid (bt HW6.out HW8R.out)
      have HX6 := Lib.hid (HAX.out.onV (bt HB6.out HW8R.out))
      have HOX := Lib.hid (own_blockT2 (own_blockT2 HOW.out HB6.out) HW8R.out)
      have HPS := Lib.hid (show Calls Tryd.prog 9 #[.slice a 512 k] w8 fun e w' => e = .returned (.tuple #[.agg s1, .int .i64 0]) ∧ Below w8.heap.size w8 w' by
        have h := parseSuper_any a 512 k P2.S w8 HX6.out (by omega) (HGG.out.on HW8.out HGG.out.1)
        rw [HOKS.out.2.1, HOKS.out.2.2, HSUA.out] at h
        exact h)
      go_upto_region 11 with (first
        | (go_at_call 9; go_loud (refine HPS.out.mono ?_; rintro e w7 ⟨rfl, hb7⟩; have HB7 := Lib.hid hb7; clear hb7))
        | ((with_reducible show wpList _ _ _ (⟨none, Op.store 30 _ _, _, _, _, _⟩ :: _) _ _); go_loud (refine wpList_store_row rfl 30 (.tmp 13) (.tmp 69) rfl w7.heap.size s1 rfl rfl 30 c0 (heap_alloc_new w7 _) HS1.out.1 HS1.out.2.symm HO1.out ?_)))
      have HV7 := Lib.hid (show Below w7.heap.size w7 ((w7.alloc (.cells c0 30)).setRow w7.heap.size s1) from below_setRow ((Below.refl _ _).alloc (Nat.le_refl _) _) (Nat.le_refl _) _)
      have HG13 := Lib.hid (setRow_heap _ _ _ s1 _ _ (heap_alloc_new w7 (.cells c0 30)))
      generalize (w7.alloc (.cells c0 30)).setRow w7.heap.size s1 = V7 at HV7 HG13 ⊢
      have HR97 := Lib.hid (show V7.heap[w2.heap.size]? = some (.cells s1 30 (0, 0)) from (bt (bt (bt HB6.out HW8R.out) HB7.out) HV7.out).block _ (Array.getElem?_eq_some_iff.1 HR9.out).1 |>.trans HR9.out)
      have HW7 := Lib.hid (bt (bt HW8.out HB7.out) HV7.out)
      have HOV := Lib.hid (own_blockT2 (own_blockT2 HOX.out HB7.out) HV7.out)
      obtain ⟨d1, d2, d3, d4⟩ := div8 (k := t4) (by omega)
      obtain ⟨m1, m2, m3, m4⟩ := mod8 (k := t4) (by omega)
      have d5 : (t4 : Int) / 8 < 512 := by omega
      obtain ⟨gx, ha⟩ : ∃ gx, a = some ⟨gx, 0, none⟩ := by
        rcases HOV.out.2 with ⟨hv, -⟩ | ⟨gx, cap, cur, hv, -⟩
        · cases hv
        · cases hv; exact ⟨gx, rfl⟩
      subst ha
      have hcl := own_cells HOV.out (t4 / 8) (by omega)
      rw [Nat.zero_add] at hcl
      have HXB := Lib.hid (allB_getD HX6.out.1.2.1 (t4 / 8))
      obtain ⟨X, hX⟩ : ∃ X, X = P2.S.getD (t4 / 8) 0 := ⟨_, rfl⟩
      rw [← hX] at hcl HXB
      have HX := Lib.hid hX
      have HOWL := Lib.hid (show gx < v2.heap.size from by have h1 := (HOW.out.lt gx rfl).2; have h2 := HB6.out.size; omega)
      clear hX
      have HT4 := Lib.hid ht4
      clear ht4
      go_upto_region 14 with (first
        | ((with_reducible show wpList _ _ _ (⟨some 74, _, _, _, _, _⟩ :: _) _ _); go_loud (refine wpList_load_rowG (by rfl) 30 (.tmp 13) rfl w7.heap.size rfl 30 s1 (0, 0) _ HG13.out Tryd.underlying30 rfl HS1.out.1 ?_))
        | ((with_reducible show wpList _ _ _ (⟨some 75, _, _, _, _, _⟩ :: _) _ _); go_loud (refine wpList_load_rowG (by rfl) 30 (.tmp 9) rfl w2.heap.size rfl 30 s1 (0, 0) _ HR97.out Tryd.underlying30 rfl HS1.out.1 ?_))
        | ((with_reducible show wpList _ _ _ (⟨some 76, _, _, _, _, _⟩ :: _) _ _); go_loud (refine wpList_binG (by rfl) .neq 30 (.tmp 74) (.tmp 75) 30 rfl (.agg s1) (.agg s1) (.bool false) rfl rfl (guardSu _ _ _ _ _ _) (HNQ.out _) ?_)))
      go_still_tail 10, (by kernel_rfl)
      change wpList _ _ _ _ _ V7.drew
      have HD8 := Lib.hid (show Below V7.heap.size V7 V7.drew from (Below.refl _ _).drew)
      clear hcl
      generalize V7.drew = V8 at HD8 ⊢
      have HOV8 := Lib.hid (own_blockT2 HOV.out HD8.out)
      have hcl8 := own_cells HOV8.out (t4 / 8) (by omega)
      rw [Nat.zero_add, ← HX.out] at hcl8
      have hfz8 := HOV8.out.frozenAt (t4 / 8)
      go_upto_region 15 with fail
      clear hcl8 hfz8
      obtain ⟨Z, hZ⟩ : ∃ Z, Z = bits .xor .u8 X (2 ^ (t4 % 8) % 256) := ⟨_, rfl⟩
      have hZb : 0 ≤ Z ∧ Z < 256 := by rw [hZ]; exact xor_byte HXB.out ⟨Int.emod_nonneg _ (by omega), Int.emod_lt_of_pos _ (by omega)⟩
      rw [← hZ]
      clear hZ
      have HGX := Lib.hid (HOV8.out.lt gx rfl)
      have HV9 := Lib.hid (show Below w.heap.size w (V8.setCell ⟨gx, t4 / 8, none⟩ (.int .u8 Z)) from (bt HW7.out HD8.out).setCell (p := ⟨gx, t4 / 8, none⟩) (by have := HGX.out.1; have := HWV.out.size; show w.heap.size ≤ gx; omega) _)
      have HO9 := Lib.hid (show (V8.setCell ⟨gx, t4 / 8, none⟩ (.int .u8 Z)).ownsRow V1.heap.size 5 1 (.slice (some ⟨gx, 0, none⟩) 512 k) 512 ((P2.S.set (t4 / 8) Z).map (Value.int .u8)) by
        have h := (HOV8.out.stored (t4 / 8) (.int .u8 Z)).1
        rw [← map_set_u8]
        exact h)
      have HX9 := Lib.hid (arg_own HO9.out (allB_set2 HX6.out.1.2.1 _ hZb))
      have HY9 := Lib.hid (arg8c_other (HX8.out.onV (bt (bt HB7.out HV7.out) HD8.out)) (p := ⟨gx, t4 / 8, none⟩) (by have h1 := HGX.out; have h2 := HG8.out; have h3 := HOWL.out; show g8 ≠ gx; omega) (.int .u8 Z))
      generalize V8.setCell ⟨gx, t4 / 8, none⟩ (.int .u8 Z) = V9 at HV9 HO9 HX9 HY9 ⊢
      have HPX := Lib.hid (parsed_any (some ⟨gx, 0, none⟩) 512 k (P2.S.set (t4 / 8) Z) V9 HX9.out (by omega) (HGG.out.on HV9.out HGG.out.1))
      go_upto_region 17 with (go_at_call 10; go_loud (refine HPX.out.mono ?_; rintro e w16 ⟨rfl, hb16⟩; have HB16 := Lib.hid hb16; clear hb16))
      have HW16 := Lib.hid (bt HV9.out HB16.out)
      have HPB := Lib.hid (parsed_any (some ⟨g8, 0, none⟩) 512 512 (madeL B) w16 (HY9.out.onV HB16.out) (by omega) (HGG.out.on HW16.out HGG.out.1))
      have hmk := hmk
      go_wp2_with (first
        | (go_at_call 10; go_loud (refine HPB.out.mono ?_; rintro e w20 ⟨rfl, hb20⟩; have HB20 := Lib.hid hb20; clear hb20))
        | (go_at_call 11; go_loud ((with_reducible refine (blank_zeros w20).mono ?_); rintro e w21 ⟨rfl, hb21⟩; have HB21 := Lib.hid (bt HB20.out hb21); clear hb21))
        | (go_at_call 11; go_loud ((with_reducible refine (blank_01 w21).mono ?_); rintro e w22 ⟨rfl, hb22⟩; have HB22 := Lib.hid (bt HB21.out hb22); clear hb22)))
      go_ret
      exact ⟨rfl, bt HW16.out HB22.out⟩
  case neg =>
    have hSE := SU.S_no hok
    have HCB := Lib.hid (show ∀ (W : World), Gl W → Calls Tryd.prog 6 #[.agg s1] W fun e w' => ∃ a k, e = .returned (.tuple #[.slice a 0 k, .int .i64 2]) ∧ Arg8c w' a 0 k [] ∧ True ∧ Below W.heap.size W w' from fun W hg => (HSB.out W hg).mono fun e w' h => by
      obtain ⟨a, k, h1, h2, -, h4⟩ := h
      rw [hSE.1, hSE.2] at h1
      rw [hSE.1] at h2
      exact ⟨a, k, h1, h2, trivial, h4⟩)
    obtain ⟨SS, hSS⟩ : ∃ s, s = strOfNums P2.S := ⟨_, rfl⟩
    have hne : (SS.toList == []) = true := by rw [hSS, hSE.1, Lib.strOfNums_toList]; rfl
    have hds := HDS.out
    rw [← hSS] at hds
    clear HDS
    have HDS := Lib.hid hds
    have HSS := Lib.hid (show SS = strOfNums [] by rw [hSS, hSE.1])
    clear hSE hok hds hSS
    cases whole
    · -- whole = false
      go_enter Tryd.func3, Tryd.ntmps3
      go_upto_region 4 with (first
        | (go_at_call 4; go_loud (rw [← HA.out.1]; refine (HLV.out A).mono ?_; rintro e w1 ⟨rfl, hb1⟩; have HB1 := Lib.hid hb1; have HBX := Lib.hid ((hb1.block w.heap.size (by rw [HA.out.2.2.1]; omega)).trans HA.out.2.2.2); obtain ⟨-, -, -, -, -, -, -, -, -, y9, -⟩ := cell14 HBX.out; clear hb1))
        | ((with_reducible show wpList _ _ _ (⟨some 31, _, _, _, _, _⟩ :: _) _ _); go_loud (refine wpList_load_row rfl 25 (.tmp 4) rfl w.heap.size rfl 25 #[.slice aN lN cN, .int .u8 P.p, .int .u8 P.n, .int .u8 P.t, .int .u8 P.m, .int .u8 P.c, .int .u32 P.bl, .int .u32 P.bo, .int .u32 P.ep, .slice aI lI cI, .int .u32 P.rf, .int .u32 P.sc, .int .u8 P.tg, .int .u32 P.rs] (0, 0) _ HBX.out Tryd.underlying25 rfl size25 ?_; clear y9))
        | (go_at_call 5; go_loud (refine (HOF.out w1 (bt HA.out.2.1 HB1.out)).mono ?_; rintro e w2 ⟨⟨cY, aY, kY, rfl, h14, hY, hIY⟩, hb2⟩; have HB2 := Lib.hid hb2; have HY14 := Lib.hid h14; have HYY := Lib.hid (And.intro hY hIY); clear hb2 h14 hY hIY))
        | ((with_reducible show wpList _ _ _ (⟨none, Op.store 30 _ _, _, _, _, _⟩ :: _) _ _); go_loud (refine wpList_store_row rfl 30 (.tmp 9) (.tmp 33) rfl w2.heap.size s1 rfl rfl 30 c0 ((heap_alloc_old _ _ (by simp)).trans (heap_alloc_new w2 _)) HS1.out.1 HS1.out.2.symm HO1.out ?_))
        | ((with_reducible show wpList _ _ _ (⟨none, Op.store 34 _ _, _, _, _, _⟩ :: _) _ _); go_loud (refine wpList_store_row rfl 34 (.tmp 10) (.tmp 34) rfl (w2.heap.size + 1) cY rfl rfl 34 #[.string { data := #[] }, .int .i64 0, .int .i64 0, .int .i64 0, .int .i64 0, .int .i64 0, .int .u64 0, .int .u64 0, .int .u64 0, .slice none 0 0, .int .u64 0, .int .u64 0, .int .i64 0, .int .u64 0] ((setRow_other _ _ _ _ (by omega)).trans (by have h := heap_alloc_new (w2.alloc (.cells c0 30)) (.cells #[.string { data := #[] }, .int .i64 0, .int .i64 0, .int .i64 0, .int .i64 0, .int .i64 0, .int .u64 0, .int .u64 0, .int .u64 0, .slice none 0 0, .int .u64 0, .int .u64 0, .int .i64 0, .int .u64 0] 34); rw [size_alloc1] at h; exact h)) (by rw [HY14.out.1]; exact sizeRu) HY14.out.1.symm HY14.out.2 ?_)))
      have HV1 := Lib.hid (show Below w2.heap.size w2 ((((w2.alloc (.cells c0 30)).alloc (.cells #[.string { data := #[] }, .int .i64 0, .int .i64 0, .int .i64 0, .int .i64 0, .int .i64 0, .int .u64 0, .int .u64 0, .int .u64 0, .slice none 0 0, .int .u64 0, .int .u64 0, .int .i64 0, .int .u64 0] 34)).setRow w2.heap.size s1).setRow (w2.heap.size + 1) cY) from below_setRow (below_setRow (((Below.refl _ _).alloc (Nat.le_refl _) _).alloc (by simp) _) (Nat.le_refl _) _) (by omega) _)
      have HG9 := Lib.hid (show ((((w2.alloc (.cells c0 30)).alloc (.cells #[.string { data := #[] }, .int .i64 0, .int .i64 0, .int .i64 0, .int .i64 0, .int .i64 0, .int .u64 0, .int .u64 0, .int .u64 0, .slice none 0 0, .int .u64 0, .int .u64 0, .int .i64 0, .int .u64 0] 34)).setRow w2.heap.size s1).setRow (w2.heap.size + 1) cY).heap[w2.heap.size]? = some (.cells s1 30 (0, 0)) from (setRow_other _ _ _ _ (by omega)).trans (setRow_heap _ _ _ _ _ _ ((heap_alloc_old _ _ (by simp)).trans (heap_alloc_new w2 _))))
      have HG10 := Lib.hid (show ((((w2.alloc (.cells c0 30)).alloc (.cells #[.string { data := #[] }, .int .i64 0, .int .i64 0, .int .i64 0, .int .i64 0, .int .i64 0, .int .u64 0, .int .u64 0, .int .u64 0, .slice none 0 0, .int .u64 0, .int .u64 0, .int .i64 0, .int .u64 0] 34)).setRow w2.heap.size s1).setRow (w2.heap.size + 1) cY).heap[w2.heap.size + 1]? = some (.cells cY 34 (0, 0)) from setRow_heap _ _ _ _ _ _ ((setRow_other _ _ _ _ (by omega)).trans (by have h := heap_alloc_new (w2.alloc (.cells c0 30)) (.cells #[.string { data := #[] }, .int .i64 0, .int .i64 0, .int .i64 0, .int .i64 0, .int .i64 0, .int .u64 0, .int .u64 0, .int .u64 0, .slice none 0 0, .int .u64 0, .int .u64 0, .int .i64 0, .int .u64 0] 34); rw [size_alloc1] at h; exact h)))
      generalize (((w2.alloc (.cells c0 30)).alloc (.cells #[.string { data := #[] }, .int .i64 0, .int .i64 0, .int .i64 0, .int .i64 0, .int .i64 0, .int .u64 0, .int .u64 0, .int .u64 0, .slice none 0 0, .int .u64 0, .int .u64 0, .int .i64 0, .int .u64 0] 34)).setRow w2.heap.size s1).setRow (w2.heap.size + 1) cY = V1 at HV1 HG9 HG10 ⊢
      have HWV := Lib.hid (show Below w.heap.size w V1 from bt (bt (bt HA.out.2.1 HB1.out) HB2.out) HV1.out)
      have HIY := Lib.hid (HYY.out.2.on HV1.out)
      go_upto_region 5 with (first
        | ((with_reducible show wpList _ _ _ (⟨some 36, _, _, _, _, _⟩ :: _) _ _); go_loud (refine wpList_load_row rfl 30 (.tmp 9) rfl w2.heap.size rfl 30 s1 (0, 0) _ HG9.out Tryd.underlying30 rfl HS1.out.1 ?_))
        | (go_at_call 6; go_loud (refine (HCB.out V1 (HGG.out.on HWV.out HGG.out.1)).mono ?_; rintro e w5 ⟨a, k, rfl, hax, how, hb5⟩; have HAX := Lib.hid hax; have HOW := Lib.hid how; have HB5 := Lib.hid hb5; clear hax how hb5)))
      have HW5 := Lib.hid (bt HWV.out HB5.out)
      have HR10 := Lib.hid ((HB5.out.block _ (Array.getElem?_eq_some_iff.1 HG10.out).1).trans HG10.out)
      have HR9 := Lib.hid ((HB5.out.block _ (Array.getElem?_eq_some_iff.1 HG9.out).1).trans HG9.out)
      have HS14 := Lib.hid (show (Tryd.prog.info? 34).map (·.size) = some cY.size by rw [HY14.out.1]; exact sizeRu)
      have hcv : ∀ W, Below w5.heap.size w5 W → (convert 22 9 (.slice a 0 k)).run Tryd.prog W = .ok (.string SS) W := fun W hW => by rw [HSS.out]; exact arg_str HAX.out hW
      refine wp_region_held_drew (S := fun W => Below w5.heap.size w5 W) (by kernel_rfl) (Below.refl _ _).drew (fun hHeld => ?_)
      generalize w5.drew = v0 at hHeld ⊢
      refine wpAnyH_take (i := 0) (oi := { dst := some 40, op := Go.Op.move (Go.Operand.tmp 11), type := 22, pos := "law.go:131", after := #[], guard := none }) (v := ?v0a1) rfl (by kernel_rfl) (by kernel_rfl) (by kernel_rfl) (fun _ _ _ h => h) (Or.inl ⟨by rfl, ?hy0a1⟩) hHeld ?rest0a1
      case hy0a1 =>
        intro W' hV
        try dsimp only at hV
        go_simp
        all_goals with_reducible rfl
      case' rest0a1 => try simp only [Act.put, List.setIfInBounds_toArray, List.set_cons_zero, List.set_cons_succ]
      refine wpAnyH_take (i := 1) (oi := { dst := some 41, op := Go.Op.convert 22 9 (Go.Operand.tmp 40), type := 9, pos := "law.go:131", after := #[{ on := 0, ground := Go.Ground.data }], guard := none }) (v := ?v1a2) rfl (by kernel_rfl) (by kernel_rfl) (by kernel_rfl) (fun _ _ _ h => h) (Or.inl ⟨by rfl, ?hy1a2⟩) hHeld ?rest1a2
      case hy1a2 =>
        intro W' hV
        try dsimp only at hV
        go_simp
        all_goals with_reducible rfl
      case' rest1a2 => try simp only [Act.put, List.setIfInBounds_toArray, List.set_cons_zero, List.set_cons_succ]
      refine wpAnyH_take (i := 2) (oi := { dst := some 42, op := Go.Op.load 34 (Go.Operand.tmp 10), type := 34, pos := "law.go:131", after := #[], guard := none }) (v := .agg cY) rfl (by kernel_rfl) (by kernel_rfl) (by kernel_rfl) (fun _ _ _ h => h) (yieldsIf_load_row (by rfl) 34 (.tmp 10) rfl (w2.heap.size + 1) (by rfl) 34 cY (0, 0) _ (fun W h => (h.block _ (Array.getElem?_eq_some_iff.1 HR10.out).1).trans HR10.out) Tryd.underlying34 rfl HS14.out) hHeld ?rest2a3
      case' rest2a3 => try simp only [Act.put, List.setIfInBounds_toArray, List.set_cons_zero, List.set_cons_succ]
      refine wpAnyH_ready (rs := [3]) (by kernel_rfl) (by simp) ?_
      refine AllReadyH.cons (o := { dst := some 43, op := Go.Op.call { callee := Go.Callee.value (Go.Operand.func 7), args := #[Go.Operand.tmp 42], argTypes := #[34] }, type := 9, pos := "law.go:131", after := #[{ on := 2, ground := Go.Ground.data }], guard := none }) rfl (fun K' hK => ?_) AllReadyH.nil
      rw [if_pos (by rfl)]
      go_simp
      go_wp2_with (go_at_call 7; go_loud (rw [HYY.out.1]; (with_reducible refine (HDS.out aY kY v0 ((HIY.out.on HB5.out).on hHeld)).mono ?_); rintro e v1 ⟨rfl, hb⟩))
      refine hK.out _ _ (bt hHeld hb) (fun hHeld1 => ?_)
      clear hK K' hHeld hb
      have hHeld := hHeld1
      clear hHeld1
      try simp only [Act.put, List.setIfInBounds_toArray, List.set_cons_zero, List.set_cons_succ]
      refine wpAnyH_take (i := 4) (oi := { dst := some 44, op := Go.Op.binOp Go.BinOp.neq 9 (Go.Operand.tmp 41) (Go.Operand.tmp 43) 9, type := 4, pos := "law.go:131", after := #[{ on := 1, ground := Go.Ground.data }, { on := 3, ground := Go.Ground.data }], guard := none }) (v := ?v4a4) rfl (by kernel_rfl) (by kernel_rfl) (by kernel_rfl) (fun _ _ _ h => h) (Or.inl ⟨by rfl, ?hy4a4⟩) hHeld ?rest4a4
      case hy4a4 =>
        intro W' hV
        try dsimp only at hV
        go_simp
        all_goals with_reducible rfl
      case' rest4a4 => try simp only [Act.put, List.setIfInBounds_toArray, List.set_cons_zero, List.set_cons_succ]
      refine wpAnyH_take (i := 5) (oi := { dst := some 45, op := Go.Op.move (Go.Operand.tmp 44), type := 4, pos := "law.go:131", after := #[{ on := 4, ground := Go.Ground.data }, { on := 3, ground := Go.Ground.chain }], guard := none }) (v := ?v5a5) rfl (by kernel_rfl) (by kernel_rfl) (by kernel_rfl) (fun _ _ _ h => h) (Or.inl ⟨by rfl, ?hy5a5⟩) hHeld ?rest5a5
      case hy5a5 =>
        intro W' hV
        try dsimp only at hV
        go_simp
        all_goals with_reducible rfl
      case' rest5a5 => try simp only [Act.put, List.setIfInBounds_toArray, List.set_cons_zero, List.set_cons_succ]
      refine wpAnyH_take (i := 6) (oi := { dst := some 46, op := Go.Op.move (Go.Operand.tmp 12), type := 37, pos := "law.go:131", after := #[{ on := 5, ground := Go.Ground.guard }], guard := some (5, false) }) (v := ?v6a6) rfl (by kernel_rfl) (by kernel_rfl) (by kernel_rfl) (fun _ _ _ h => h) (Or.inl ⟨by rfl, ?hy6a6⟩) hHeld ?rest6a6
      case hy6a6 =>
        intro W' hV
        try dsimp only at hV
        go_simp
        all_goals with_reducible rfl
      case' rest6a6 => try simp only [Act.put, List.setIfInBounds_toArray, List.set_cons_zero, List.set_cons_succ]
      refine wpAnyH_take (i := 7) (oi := { dst := some 47, op := Go.Op.binOp Go.BinOp.eql 37 (Go.Operand.tmp 46) (Go.Operand.const (Go.Value.int Go.IntKind.i64 0)) 37, type := 4, pos := "law.go:131", after := #[{ on := 6, ground := Go.Ground.data }, { on := 5, ground := Go.Ground.guard }], guard := some (5, false) }) (v := ?v7a7) rfl (by kernel_rfl) (by kernel_rfl) (by kernel_rfl) (fun _ _ _ h => h) (Or.inl ⟨by rfl, ?hy7a7⟩) hHeld ?rest7a7
      case hy7a7 =>
        intro W' hV
        try dsimp only at hV
        go_simp
        all_goals with_reducible rfl
      case' rest7a7 => try simp only [Act.put, List.setIfInBounds_toArray, List.set_cons_zero, List.set_cons_succ]
      refine wpAnyH_take (i := 8) (oi := { dst := some 48, op := Go.Op.load 34 (Go.Operand.tmp 10), type := 34, pos := "law.go:131", after := #[{ on := 5, ground := Go.Ground.guard }], guard := some (5, false) }) (v := .agg cY) rfl (by kernel_rfl) (by kernel_rfl) (by kernel_rfl) (fun _ _ _ h => h) (yieldsIf_load_row (by rfl) 34 (.tmp 10) rfl (w2.heap.size + 1) (by rfl) 34 cY (0, 0) _ (fun W h => (h.block _ (Array.getElem?_eq_some_iff.1 HR10.out).1).trans HR10.out) Tryd.underlying34 rfl HS14.out) hHeld ?rest8a8
      case' rest8a8 => try simp only [Act.put, List.setIfInBounds_toArray, List.set_cons_zero, List.set_cons_succ]
      refine wpAnyH_ready (rs := [9]) (by kernel_rfl) (by simp) ?_
      refine AllReadyH.cons (o := { dst := some 49, op := Go.Op.call { callee := Go.Callee.value (Go.Operand.func 7), args := #[Go.Operand.tmp 48], argTypes := #[34] }, type := 9, pos := "law.go:131", after := #[{ on := 8, ground := Go.Ground.data }, { on := 5, ground := Go.Ground.chain }, { on := 5, ground := Go.Ground.guard }], guard := some (5, false) }) rfl (fun K' hK => ?_) AllReadyH.nil
      rw [if_pos (by rfl)]
      go_simp
      go_wp2_with (go_at_call 7; go_loud (rw [HYY.out.1]; (with_reducible refine (HDS.out aY kY v1 ((HIY.out.on HB5.out).on hHeld)).mono ?_); rintro e v2 ⟨rfl, hb⟩))
      refine hK.out _ _ (bt hHeld hb) (fun hHeld1 => ?_)
      clear hK K' hHeld hb
      have hHeld := hHeld1
      clear hHeld1
      try simp only [Act.put, List.setIfInBounds_toArray, List.set_cons_zero, List.set_cons_succ]
      refine wpAnyH_take (i := 10) (oi := { dst := some 50, op := Go.Op.binOp Go.BinOp.neq 9 (Go.Operand.tmp 49) (Go.Operand.const (Go.Value.string { data := #[] })) 9, type := 4, pos := "law.go:131", after := #[{ on := 9, ground := Go.Ground.data }, { on := 5, ground := Go.Ground.guard }], guard := some (5, false) }) (v := ?v10a9) rfl (by kernel_rfl) (by kernel_rfl) (by kernel_rfl) (fun _ _ _ h => h) (Or.inl ⟨by rfl, ?hy10a9⟩) hHeld ?rest10a9
      case hy10a9 =>
        intro W' hV
        try dsimp only at hV
        go_simp
        all_goals with_reducible rfl
      case' rest10a9 => try simp only [Act.put, List.setIfInBounds_toArray, List.set_cons_zero, List.set_cons_succ]
      refine wpAnyH_take (i := 11) (oi := { dst := some 51, op := Go.Op.binOp Go.BinOp.neq 4 (Go.Operand.tmp 47) (Go.Operand.tmp 50) 4, type := 4, pos := "law.go:131", after := #[{ on := 7, ground := Go.Ground.data }, { on := 10, ground := Go.Ground.data }, { on := 5, ground := Go.Ground.guard }], guard := some (5, false) }) (v := ?v11a10) rfl (by kernel_rfl) (by kernel_rfl) (by kernel_rfl) (fun _ _ _ h => h) (Or.inl ⟨by rfl, ?hy11a10⟩) hHeld ?rest11a10
      case hy11a10 =>
        intro W' hV
        try dsimp only at hV
        go_simp
        all_goals with_reducible rfl
      case' rest11a10 => try simp only [Act.put, List.setIfInBounds_toArray, List.set_cons_zero, List.set_cons_succ]
      refine wpAnyH_take (i := 12) (oi := { dst := some 52, op := Go.Op.pick (Go.Operand.tmp 45) (Go.Operand.const (Go.Value.bool true)) (Go.Operand.tmp 51), type := 4, pos := "law.go:131", after := #[{ on := 5, ground := Go.Ground.data }, { on := 11, ground := Go.Ground.data }], guard := none }) (v := ?v12a11) rfl (by kernel_rfl) (by kernel_rfl) (by kernel_rfl) (fun _ _ _ h => h) (Or.inl ⟨by rfl, ?hy12a11⟩) hHeld ?rest12a11
      case hy12a11 =>
        intro W' hV
        try dsimp only at hV
        go_simp
        all_goals with_reducible rfl
      case' rest12a11 => try simp only [Act.put, List.setIfInBounds_toArray, List.set_cons_zero, List.set_cons_succ]
      refine wpAnyH_take (i := 13) (oi := { dst := some 53, op := Go.Op.move (Go.Operand.tmp 52), type := 4, pos := "law.go:131", after := #[{ on := 12, ground := Go.Ground.data }, { on := 9, ground := Go.Ground.chain }], guard := none }) (v := ?v13a12) rfl (by kernel_rfl) (by kernel_rfl) (by kernel_rfl) (fun _ _ _ h => h) (Or.inl ⟨by rfl, ?hy13a12⟩) hHeld ?rest13a12
      case hy13a12 =>
        intro W' hV
        try dsimp only at hV
        go_simp
        all_goals with_reducible rfl
      case' rest13a12 => try simp only [Act.put, List.setIfInBounds_toArray, List.set_cons_zero, List.set_cons_succ]
      refine wpAnyH_take (i := 14) (oi := { dst := some 54, op := Go.Op.move (Go.Operand.tmp 12), type := 37, pos := "law.go:131", after := #[{ on := 13, ground := Go.Ground.guard }], guard := some (13, false) }) (v := ?v14a13) rfl (by kernel_rfl) (by kernel_rfl) (by kernel_rfl) (fun _ _ _ h => h) (Or.inl ⟨by rfl, ?hy14a13⟩) hHeld ?rest14a13
      case hy14a13 =>
        intro W' hV
        try dsimp only at hV
        go_simp
        all_goals with_reducible rfl
      case' rest14a13 => try simp only [Act.put, List.setIfInBounds_toArray, List.set_cons_zero, List.set_cons_succ]
      refine wpAnyH_take (i := 15) (oi := { dst := some 55, op := Go.Op.binOp Go.BinOp.neq 37 (Go.Operand.tmp 54) (Go.Operand.const (Go.Value.int Go.IntKind.i64 0)) 37, type := 4, pos := "law.go:131", after := #[{ on := 14, ground := Go.Ground.data }, { on := 13, ground := Go.Ground.guard }], guard := some (13, false) }) (v := ?v15a14) rfl (by kernel_rfl) (by kernel_rfl) (by kernel_rfl) (fun _ _ _ h => h) (Or.inl ⟨by rfl, ?hy15a14⟩) hHeld ?rest15a14
      case hy15a14 =>
        intro W' hV
        try dsimp only at hV
        go_simp
        all_goals with_reducible rfl
      case' rest15a14 => try simp only [Act.put, List.setIfInBounds_toArray, List.set_cons_zero, List.set_cons_succ]
      refine wpAnyH_take (i := 16) (oi := { dst := some 56, op := Go.Op.move (Go.Operand.tmp 55), type := 4, pos := "law.go:131", after := #[{ on := 15, ground := Go.Ground.data }, { on := 13, ground := Go.Ground.chain }, { on := 13, ground := Go.Ground.guard }], guard := some (13, false) }) (v := ?v16a15) rfl (by kernel_rfl) (by kernel_rfl) (by kernel_rfl) (fun _ _ _ h => h) (Or.inl ⟨by rfl, ?hy16a15⟩) hHeld ?rest16a15
      case hy16a15 =>
        intro W' hV
        try dsimp only at hV
        go_simp
        all_goals with_reducible rfl
      case' rest16a15 => try simp only [Act.put, List.setIfInBounds_toArray, List.set_cons_zero, List.set_cons_succ]
      refine wpAnyH_take (i := 17) (oi := { dst := some 57, op := Go.Op.move (Go.Operand.tmp 12), type := 37, pos := "law.go:131", after := #[{ on := 16, ground := Go.Ground.guard }], guard := some (16, true) }) (v := ?v17a16) rfl (by kernel_rfl) (by kernel_rfl) (by kernel_rfl) (fun _ _ _ h => h) (Or.inl ⟨by rfl, ?hy17a16⟩) hHeld ?rest17a16
      case hy17a16 =>
        intro W' hV
        try dsimp only at hV
        go_simp
        all_goals with_reducible rfl
      case' rest17a16 => try simp only [Act.put, List.setIfInBounds_toArray, List.set_cons_zero, List.set_cons_succ]
      refine wpAnyH_take (i := 18) (oi := { dst := some 58, op := Go.Op.binOp Go.BinOp.neq 37 (Go.Operand.tmp 57) (Go.Operand.const (Go.Value.int Go.IntKind.i64 2)) 37, type := 4, pos := "law.go:131", after := #[{ on := 17, ground := Go.Ground.data }, { on := 16, ground := Go.Ground.guard }], guard := some (16, true) }) (v := ?v18a17) rfl (by kernel_rfl) (by kernel_rfl) (by kernel_rfl) (fun _ _ _ h => h) (Or.inl ⟨by rfl, ?hy18a17⟩) hHeld ?rest18a17
      case hy18a17 =>
        intro W' hV
        try dsimp only at hV
        go_simp
        all_goals with_reducible rfl
      case' rest18a17 => try simp only [Act.put, List.setIfInBounds_toArray, List.set_cons_zero, List.set_cons_succ]
      refine wpAnyH_take (i := 19) (oi := { dst := some 59, op := Go.Op.pick (Go.Operand.tmp 56) (Go.Operand.tmp 58) (Go.Operand.const (Go.Value.bool false)), type := 4, pos := "law.go:131", after := #[{ on := 16, ground := Go.Ground.data }, { on := 18, ground := Go.Ground.data }, { on := 13, ground := Go.Ground.guard }], guard := some (13, false) }) (v := ?v19a18) rfl (by kernel_rfl) (by kernel_rfl) (by kernel_rfl) (fun _ _ _ h => h) (Or.inl ⟨by rfl, ?hy19a18⟩) hHeld ?rest19a18
      case hy19a18 =>
        intro W' hV
        try dsimp only at hV
        go_simp
        all_goals with_reducible rfl
      case' rest19a18 => try simp only [Act.put, List.setIfInBounds_toArray, List.set_cons_zero, List.set_cons_succ]
      refine wpAnyH_take (i := 20) (oi := { dst := some 60, op := Go.Op.pick (Go.Operand.tmp 53) (Go.Operand.const (Go.Value.bool true)) (Go.Operand.tmp 59), type := 4, pos := "law.go:131", after := #[{ on := 13, ground := Go.Ground.data }, { on := 19, ground := Go.Ground.data }], guard := none }) (v := ?v20a19) rfl (by kernel_rfl) (by kernel_rfl) (by kernel_rfl) (fun _ _ _ h => h) (Or.inl ⟨by rfl, ?hy20a19⟩) hHeld ?rest20a19
      case hy20a19 =>
        intro W' hV
        try dsimp only at hV
        go_simp
        all_goals with_reducible rfl
      case' rest20a19 => try simp only [Act.put, List.setIfInBounds_toArray, List.set_cons_zero, List.set_cons_succ]
      refine wpAnyH_done (by kernel_rfl) ?_ _
      have HB6 := Lib.hid hHeld
      clear hHeld hcv
      have HW6 := Lib.hid (bt HW5.out HB6.out)
      go_upto_region 9 with fail
      have HW8 := HW6
      have HW8R := Lib.hid (Below.refl v2.heap.size v2)
      have HPB := Lib.hid (parsed_any aB lB cB B v2 (HBB.out.onV HW6.out) HL6.out (HGG.out.on HW8.out HGG.out.1))
      have hmk := hmk
      go_wp2_with (first
        | (go_at_call 10; go_loud (refine HPB.out.mono ?_; rintro e w20 ⟨rfl, hb20⟩; have HB20 := Lib.hid hb20; clear hb20))
        | (go_at_call 11; go_loud ((with_reducible refine (blank_zeros w20).mono ?_); rintro e w21 ⟨rfl, hb21⟩; have HB21 := Lib.hid (bt HB20.out hb21); clear hb21))
        | (go_at_call 11; go_loud ((with_reducible refine (blank_01 w21).mono ?_); rintro e w22 ⟨rfl, hb22⟩; have HB22 := Lib.hid (bt HB21.out hb22); clear hb22)))
      go_ret
      exact ⟨rfl, bt HW8.out HB22.out⟩
    · -- whole = true
      go_enter Tryd.func3, Tryd.ntmps3
      go_upto_region 4 with (first
        | (go_at_call 4; go_loud (rw [← HA.out.1]; refine (HLV.out A).mono ?_; rintro e w1 ⟨rfl, hb1⟩; have HB1 := Lib.hid hb1; have HBX := Lib.hid ((hb1.block w.heap.size (by rw [HA.out.2.2.1]; omega)).trans HA.out.2.2.2); obtain ⟨-, -, -, -, -, -, -, -, -, y9, -⟩ := cell14 HBX.out; clear hb1))
        | ((with_reducible show wpList _ _ _ (⟨some 31, _, _, _, _, _⟩ :: _) _ _); go_loud (refine wpList_load_row rfl 25 (.tmp 4) rfl w.heap.size rfl 25 #[.slice aN lN cN, .int .u8 P.p, .int .u8 P.n, .int .u8 P.t, .int .u8 P.m, .int .u8 P.c, .int .u32 P.bl, .int .u32 P.bo, .int .u32 P.ep, .slice aI lI cI, .int .u32 P.rf, .int .u32 P.sc, .int .u8 P.tg, .int .u32 P.rs] (0, 0) _ HBX.out Tryd.underlying25 rfl size25 ?_; clear y9))
        | (go_at_call 5; go_loud (refine (HOF.out w1 (bt HA.out.2.1 HB1.out)).mono ?_; rintro e w2 ⟨⟨cY, aY, kY, rfl, h14, hY, hIY⟩, hb2⟩; have HB2 := Lib.hid hb2; have HY14 := Lib.hid h14; have HYY := Lib.hid (And.intro hY hIY); clear hb2 h14 hY hIY))
        | ((with_reducible show wpList _ _ _ (⟨none, Op.store 30 _ _, _, _, _, _⟩ :: _) _ _); go_loud (refine wpList_store_row rfl 30 (.tmp 9) (.tmp 33) rfl w2.heap.size s1 rfl rfl 30 c0 ((heap_alloc_old _ _ (by simp)).trans (heap_alloc_new w2 _)) HS1.out.1 HS1.out.2.symm HO1.out ?_))
        | ((with_reducible show wpList _ _ _ (⟨none, Op.store 34 _ _, _, _, _, _⟩ :: _) _ _); go_loud (refine wpList_store_row rfl 34 (.tmp 10) (.tmp 34) rfl (w2.heap.size + 1) cY rfl rfl 34 #[.string { data := #[] }, .int .i64 0, .int .i64 0, .int .i64 0, .int .i64 0, .int .i64 0, .int .u64 0, .int .u64 0, .int .u64 0, .slice none 0 0, .int .u64 0, .int .u64 0, .int .i64 0, .int .u64 0] ((setRow_other _ _ _ _ (by omega)).trans (by have h := heap_alloc_new (w2.alloc (.cells c0 30)) (.cells #[.string { data := #[] }, .int .i64 0, .int .i64 0, .int .i64 0, .int .i64 0, .int .i64 0, .int .u64 0, .int .u64 0, .int .u64 0, .slice none 0 0, .int .u64 0, .int .u64 0, .int .i64 0, .int .u64 0] 34); rw [size_alloc1] at h; exact h)) (by rw [HY14.out.1]; exact sizeRu) HY14.out.1.symm HY14.out.2 ?_)))
      have HV1 := Lib.hid (show Below w2.heap.size w2 ((((w2.alloc (.cells c0 30)).alloc (.cells #[.string { data := #[] }, .int .i64 0, .int .i64 0, .int .i64 0, .int .i64 0, .int .i64 0, .int .u64 0, .int .u64 0, .int .u64 0, .slice none 0 0, .int .u64 0, .int .u64 0, .int .i64 0, .int .u64 0] 34)).setRow w2.heap.size s1).setRow (w2.heap.size + 1) cY) from below_setRow (below_setRow (((Below.refl _ _).alloc (Nat.le_refl _) _).alloc (by simp) _) (Nat.le_refl _) _) (by omega) _)
      have HG9 := Lib.hid (show ((((w2.alloc (.cells c0 30)).alloc (.cells #[.string { data := #[] }, .int .i64 0, .int .i64 0, .int .i64 0, .int .i64 0, .int .i64 0, .int .u64 0, .int .u64 0, .int .u64 0, .slice none 0 0, .int .u64 0, .int .u64 0, .int .i64 0, .int .u64 0] 34)).setRow w2.heap.size s1).setRow (w2.heap.size + 1) cY).heap[w2.heap.size]? = some (.cells s1 30 (0, 0)) from (setRow_other _ _ _ _ (by omega)).trans (setRow_heap _ _ _ _ _ _ ((heap_alloc_old _ _ (by simp)).trans (heap_alloc_new w2 _))))
      have HG10 := Lib.hid (show ((((w2.alloc (.cells c0 30)).alloc (.cells #[.string { data := #[] }, .int .i64 0, .int .i64 0, .int .i64 0, .int .i64 0, .int .i64 0, .int .u64 0, .int .u64 0, .int .u64 0, .slice none 0 0, .int .u64 0, .int .u64 0, .int .i64 0, .int .u64 0] 34)).setRow w2.heap.size s1).setRow (w2.heap.size + 1) cY).heap[w2.heap.size + 1]? = some (.cells cY 34 (0, 0)) from setRow_heap _ _ _ _ _ _ ((setRow_other _ _ _ _ (by omega)).trans (by have h := heap_alloc_new (w2.alloc (.cells c0 30)) (.cells #[.string { data := #[] }, .int .i64 0, .int .i64 0, .int .i64 0, .int .i64 0, .int .i64 0, .int .u64 0, .int .u64 0, .int .u64 0, .slice none 0 0, .int .u64 0, .int .u64 0, .int .i64 0, .int .u64 0] 34); rw [size_alloc1] at h; exact h)))
      generalize (((w2.alloc (.cells c0 30)).alloc (.cells #[.string { data := #[] }, .int .i64 0, .int .i64 0, .int .i64 0, .int .i64 0, .int .i64 0, .int .u64 0, .int .u64 0, .int .u64 0, .slice none 0 0, .int .u64 0, .int .u64 0, .int .i64 0, .int .u64 0] 34)).setRow w2.heap.size s1).setRow (w2.heap.size + 1) cY = V1 at HV1 HG9 HG10 ⊢
      have HWV := Lib.hid (show Below w.heap.size w V1 from bt (bt (bt HA.out.2.1 HB1.out) HB2.out) HV1.out)
      have HIY := Lib.hid (HYY.out.2.on HV1.out)
      go_upto_region 5 with (first
        | ((with_reducible show wpList _ _ _ (⟨some 36, _, _, _, _, _⟩ :: _) _ _); go_loud (refine wpList_load_row rfl 30 (.tmp 9) rfl w2.heap.size rfl 30 s1 (0, 0) _ HG9.out Tryd.underlying30 rfl HS1.out.1 ?_))
        | (go_at_call 6; go_loud (refine (HCB.out V1 (HGG.out.on HWV.out HGG.out.1)).mono ?_; rintro e w5 ⟨a, k, rfl, hax, how, hb5⟩; have HAX := Lib.hid hax; have HOW := Lib.hid how; have HB5 := Lib.hid hb5; clear hax how hb5)))
      have HW5 := Lib.hid (bt HWV.out HB5.out)
      have HR10 := Lib.hid ((HB5.out.block _ (Array.getElem?_eq_some_iff.1 HG10.out).1).trans HG10.out)
      have HR9 := Lib.hid ((HB5.out.block _ (Array.getElem?_eq_some_iff.1 HG9.out).1).trans HG9.out)
      have HS14 := Lib.hid (show (Tryd.prog.info? 34).map (·.size) = some cY.size by rw [HY14.out.1]; exact sizeRu)
      have hcv : ∀ W, Below w5.heap.size w5 W → (convert 22 9 (.slice a 0 k)).run Tryd.prog W = .ok (.string SS) W := fun W hW => by rw [HSS.out]; exact arg_str HAX.out hW
      refine wp_region_held_drew (S := fun W => Below w5.heap.size w5 W) (by kernel_rfl) (Below.refl _ _).drew (fun hHeld => ?_)
      generalize w5.drew = v0 at hHeld ⊢
      refine wpAnyH_take (i := 0) (oi := { dst := some 40, op := Go.Op.move (Go.Operand.tmp 11), type := 22, pos := "law.go:131", after := #[], guard := none }) (v := ?v0b1) rfl (by kernel_rfl) (by kernel_rfl) (by kernel_rfl) (fun _ _ _ h => h) (Or.inl ⟨by rfl, ?hy0b1⟩) hHeld ?rest0b1
      case hy0b1 =>
        intro W' hV
        try dsimp only at hV
        go_simp
        all_goals with_reducible rfl
      case' rest0b1 => try simp only [Act.put, List.setIfInBounds_toArray, List.set_cons_zero, List.set_cons_succ]
      refine wpAnyH_take (i := 1) (oi := { dst := some 41, op := Go.Op.convert 22 9 (Go.Operand.tmp 40), type := 9, pos := "law.go:131", after := #[{ on := 0, ground := Go.Ground.data }], guard := none }) (v := ?v1b2) rfl (by kernel_rfl) (by kernel_rfl) (by kernel_rfl) (fun _ _ _ h => h) (Or.inl ⟨by rfl, ?hy1b2⟩) hHeld ?rest1b2
      case hy1b2 =>
        intro W' hV
        try dsimp only at hV
        go_simp
        all_goals with_reducible rfl
      case' rest1b2 => try simp only [Act.put, List.setIfInBounds_toArray, List.set_cons_zero, List.set_cons_succ]
      refine wpAnyH_take (i := 2) (oi := { dst := some 42, op := Go.Op.load 34 (Go.Operand.tmp 10), type := 34, pos := "law.go:131", after := #[], guard := none }) (v := .agg cY) rfl (by kernel_rfl) (by kernel_rfl) (by kernel_rfl) (fun _ _ _ h => h) (yieldsIf_load_row (by rfl) 34 (.tmp 10) rfl (w2.heap.size + 1) (by rfl) 34 cY (0, 0) _ (fun W h => (h.block _ (Array.getElem?_eq_some_iff.1 HR10.out).1).trans HR10.out) Tryd.underlying34 rfl HS14.out) hHeld ?rest2b3
      case' rest2b3 => try simp only [Act.put, List.setIfInBounds_toArray, List.set_cons_zero, List.set_cons_succ]
      refine wpAnyH_ready (rs := [3]) (by kernel_rfl) (by simp) ?_
      refine AllReadyH.cons (o := { dst := some 43, op := Go.Op.call { callee := Go.Callee.value (Go.Operand.func 7), args := #[Go.Operand.tmp 42], argTypes := #[34] }, type := 9, pos := "law.go:131", after := #[{ on := 2, ground := Go.Ground.data }], guard := none }) rfl (fun K' hK => ?_) AllReadyH.nil
      rw [if_pos (by rfl)]
      go_simp
      go_wp2_with (go_at_call 7; go_loud (rw [HYY.out.1]; (with_reducible refine (HDS.out aY kY v0 ((HIY.out.on HB5.out).on hHeld)).mono ?_); rintro e v1 ⟨rfl, hb⟩))
      refine hK.out _ _ (bt hHeld hb) (fun hHeld1 => ?_)
      clear hK K' hHeld hb
      have hHeld := hHeld1
      clear hHeld1
      try simp only [Act.put, List.setIfInBounds_toArray, List.set_cons_zero, List.set_cons_succ]
      refine wpAnyH_take (i := 4) (oi := { dst := some 44, op := Go.Op.binOp Go.BinOp.neq 9 (Go.Operand.tmp 41) (Go.Operand.tmp 43) 9, type := 4, pos := "law.go:131", after := #[{ on := 1, ground := Go.Ground.data }, { on := 3, ground := Go.Ground.data }], guard := none }) (v := ?v4b4) rfl (by kernel_rfl) (by kernel_rfl) (by kernel_rfl) (fun _ _ _ h => h) (Or.inl ⟨by rfl, ?hy4b4⟩) hHeld ?rest4b4
      case hy4b4 =>
        intro W' hV
        try dsimp only at hV
        go_simp
        all_goals with_reducible rfl
      case' rest4b4 => try simp only [Act.put, List.setIfInBounds_toArray, List.set_cons_zero, List.set_cons_succ]
      refine wpAnyH_take (i := 5) (oi := { dst := some 45, op := Go.Op.move (Go.Operand.tmp 44), type := 4, pos := "law.go:131", after := #[{ on := 4, ground := Go.Ground.data }, { on := 3, ground := Go.Ground.chain }], guard := none }) (v := ?v5b5) rfl (by kernel_rfl) (by kernel_rfl) (by kernel_rfl) (fun _ _ _ h => h) (Or.inl ⟨by rfl, ?hy5b5⟩) hHeld ?rest5b5
      case hy5b5 =>
        intro W' hV
        try dsimp only at hV
        go_simp
        all_goals with_reducible rfl
      case' rest5b5 => try simp only [Act.put, List.setIfInBounds_toArray, List.set_cons_zero, List.set_cons_succ]
      refine wpAnyH_take (i := 6) (oi := { dst := some 46, op := Go.Op.move (Go.Operand.tmp 12), type := 37, pos := "law.go:131", after := #[{ on := 5, ground := Go.Ground.guard }], guard := some (5, false) }) (v := ?v6b6) rfl (by kernel_rfl) (by kernel_rfl) (by kernel_rfl) (fun _ _ _ h => h) (Or.inl ⟨by rfl, ?hy6b6⟩) hHeld ?rest6b6
      case hy6b6 =>
        intro W' hV
        try dsimp only at hV
        go_simp
        all_goals with_reducible rfl
      case' rest6b6 => try simp only [Act.put, List.setIfInBounds_toArray, List.set_cons_zero, List.set_cons_succ]
      refine wpAnyH_take (i := 7) (oi := { dst := some 47, op := Go.Op.binOp Go.BinOp.eql 37 (Go.Operand.tmp 46) (Go.Operand.const (Go.Value.int Go.IntKind.i64 0)) 37, type := 4, pos := "law.go:131", after := #[{ on := 6, ground := Go.Ground.data }, { on := 5, ground := Go.Ground.guard }], guard := some (5, false) }) (v := ?v7b7) rfl (by kernel_rfl) (by kernel_rfl) (by kernel_rfl) (fun _ _ _ h => h) (Or.inl ⟨by rfl, ?hy7b7⟩) hHeld ?rest7b7
      case hy7b7 =>
        intro W' hV
        try dsimp only at hV
        go_simp
        all_goals with_reducible rfl
      case' rest7b7 => try simp only [Act.put, List.setIfInBounds_toArray, List.set_cons_zero, List.set_cons_succ]
      refine wpAnyH_take (i := 8) (oi := { dst := some 48, op := Go.Op.load 34 (Go.Operand.tmp 10), type := 34, pos := "law.go:131", after := #[{ on := 5, ground := Go.Ground.guard }], guard := some (5, false) }) (v := .agg cY) rfl (by kernel_rfl) (by kernel_rfl) (by kernel_rfl) (fun _ _ _ h => h) (yieldsIf_load_row (by rfl) 34 (.tmp 10) rfl (w2.heap.size + 1) (by rfl) 34 cY (0, 0) _ (fun W h => (h.block _ (Array.getElem?_eq_some_iff.1 HR10.out).1).trans HR10.out) Tryd.underlying34 rfl HS14.out) hHeld ?rest8b8
      case' rest8b8 => try simp only [Act.put, List.setIfInBounds_toArray, List.set_cons_zero, List.set_cons_succ]
      refine wpAnyH_ready (rs := [9]) (by kernel_rfl) (by simp) ?_
      refine AllReadyH.cons (o := { dst := some 49, op := Go.Op.call { callee := Go.Callee.value (Go.Operand.func 7), args := #[Go.Operand.tmp 48], argTypes := #[34] }, type := 9, pos := "law.go:131", after := #[{ on := 8, ground := Go.Ground.data }, { on := 5, ground := Go.Ground.chain }, { on := 5, ground := Go.Ground.guard }], guard := some (5, false) }) rfl (fun K' hK => ?_) AllReadyH.nil
      rw [if_pos (by rfl)]
      go_simp
      go_wp2_with (go_at_call 7; go_loud (rw [HYY.out.1]; (with_reducible refine (HDS.out aY kY v1 ((HIY.out.on HB5.out).on hHeld)).mono ?_); rintro e v2 ⟨rfl, hb⟩))
      refine hK.out _ _ (bt hHeld hb) (fun hHeld1 => ?_)
      clear hK K' hHeld hb
      have hHeld := hHeld1
      clear hHeld1
      try simp only [Act.put, List.setIfInBounds_toArray, List.set_cons_zero, List.set_cons_succ]
      refine wpAnyH_take (i := 10) (oi := { dst := some 50, op := Go.Op.binOp Go.BinOp.neq 9 (Go.Operand.tmp 49) (Go.Operand.const (Go.Value.string { data := #[] })) 9, type := 4, pos := "law.go:131", after := #[{ on := 9, ground := Go.Ground.data }, { on := 5, ground := Go.Ground.guard }], guard := some (5, false) }) (v := ?v10b9) rfl (by kernel_rfl) (by kernel_rfl) (by kernel_rfl) (fun _ _ _ h => h) (Or.inl ⟨by rfl, ?hy10b9⟩) hHeld ?rest10b9
      case hy10b9 =>
        intro W' hV
        try dsimp only at hV
        go_simp
        all_goals with_reducible rfl
      case' rest10b9 => try simp only [Act.put, List.setIfInBounds_toArray, List.set_cons_zero, List.set_cons_succ]
      refine wpAnyH_take (i := 11) (oi := { dst := some 51, op := Go.Op.binOp Go.BinOp.neq 4 (Go.Operand.tmp 47) (Go.Operand.tmp 50) 4, type := 4, pos := "law.go:131", after := #[{ on := 7, ground := Go.Ground.data }, { on := 10, ground := Go.Ground.data }, { on := 5, ground := Go.Ground.guard }], guard := some (5, false) }) (v := ?v11b10) rfl (by kernel_rfl) (by kernel_rfl) (by kernel_rfl) (fun _ _ _ h => h) (Or.inl ⟨by rfl, ?hy11b10⟩) hHeld ?rest11b10
      case hy11b10 =>
        intro W' hV
        try dsimp only at hV
        go_simp
        all_goals with_reducible rfl
      case' rest11b10 => try simp only [Act.put, List.setIfInBounds_toArray, List.set_cons_zero, List.set_cons_succ]
      refine wpAnyH_take (i := 12) (oi := { dst := some 52, op := Go.Op.pick (Go.Operand.tmp 45) (Go.Operand.const (Go.Value.bool true)) (Go.Operand.tmp 51), type := 4, pos := "law.go:131", after := #[{ on := 5, ground := Go.Ground.data }, { on := 11, ground := Go.Ground.data }], guard := none }) (v := ?v12b11) rfl (by kernel_rfl) (by kernel_rfl) (by kernel_rfl) (fun _ _ _ h => h) (Or.inl ⟨by rfl, ?hy12b11⟩) hHeld ?rest12b11
      case hy12b11 =>
        intro W' hV
        try dsimp only at hV
        go_simp
        all_goals with_reducible rfl
      case' rest12b11 => try simp only [Act.put, List.setIfInBounds_toArray, List.set_cons_zero, List.set_cons_succ]
      refine wpAnyH_take (i := 13) (oi := { dst := some 53, op := Go.Op.move (Go.Operand.tmp 52), type := 4, pos := "law.go:131", after := #[{ on := 12, ground := Go.Ground.data }, { on := 9, ground := Go.Ground.chain }], guard := none }) (v := ?v13b12) rfl (by kernel_rfl) (by kernel_rfl) (by kernel_rfl) (fun _ _ _ h => h) (Or.inl ⟨by rfl, ?hy13b12⟩) hHeld ?rest13b12
      case hy13b12 =>
        intro W' hV
        try dsimp only at hV
        go_simp
        all_goals with_reducible rfl
      case' rest13b12 => try simp only [Act.put, List.setIfInBounds_toArray, List.set_cons_zero, List.set_cons_succ]
      refine wpAnyH_take (i := 14) (oi := { dst := some 54, op := Go.Op.move (Go.Operand.tmp 12), type := 37, pos := "law.go:131", after := #[{ on := 13, ground := Go.Ground.guard }], guard := some (13, false) }) (v := ?v14b13) rfl (by kernel_rfl) (by kernel_rfl) (by kernel_rfl) (fun _ _ _ h => h) (Or.inl ⟨by rfl, ?hy14b13⟩) hHeld ?rest14b13
      case hy14b13 =>
        intro W' hV
        try dsimp only at hV
        go_simp
        all_goals with_reducible rfl
      case' rest14b13 => try simp only [Act.put, List.setIfInBounds_toArray, List.set_cons_zero, List.set_cons_succ]
      refine wpAnyH_take (i := 15) (oi := { dst := some 55, op := Go.Op.binOp Go.BinOp.neq 37 (Go.Operand.tmp 54) (Go.Operand.const (Go.Value.int Go.IntKind.i64 0)) 37, type := 4, pos := "law.go:131", after := #[{ on := 14, ground := Go.Ground.data }, { on := 13, ground := Go.Ground.guard }], guard := some (13, false) }) (v := ?v15b14) rfl (by kernel_rfl) (by kernel_rfl) (by kernel_rfl) (fun _ _ _ h => h) (Or.inl ⟨by rfl, ?hy15b14⟩) hHeld ?rest15b14
      case hy15b14 =>
        intro W' hV
        try dsimp only at hV
        go_simp
        all_goals with_reducible rfl
      case' rest15b14 => try simp only [Act.put, List.setIfInBounds_toArray, List.set_cons_zero, List.set_cons_succ]
      refine wpAnyH_take (i := 16) (oi := { dst := some 56, op := Go.Op.move (Go.Operand.tmp 55), type := 4, pos := "law.go:131", after := #[{ on := 15, ground := Go.Ground.data }, { on := 13, ground := Go.Ground.chain }, { on := 13, ground := Go.Ground.guard }], guard := some (13, false) }) (v := ?v16b15) rfl (by kernel_rfl) (by kernel_rfl) (by kernel_rfl) (fun _ _ _ h => h) (Or.inl ⟨by rfl, ?hy16b15⟩) hHeld ?rest16b15
      case hy16b15 =>
        intro W' hV
        try dsimp only at hV
        go_simp
        all_goals with_reducible rfl
      case' rest16b15 => try simp only [Act.put, List.setIfInBounds_toArray, List.set_cons_zero, List.set_cons_succ]
      refine wpAnyH_take (i := 17) (oi := { dst := some 57, op := Go.Op.move (Go.Operand.tmp 12), type := 37, pos := "law.go:131", after := #[{ on := 16, ground := Go.Ground.guard }], guard := some (16, true) }) (v := ?v17b16) rfl (by kernel_rfl) (by kernel_rfl) (by kernel_rfl) (fun _ _ _ h => h) (Or.inl ⟨by rfl, ?hy17b16⟩) hHeld ?rest17b16
      case hy17b16 =>
        intro W' hV
        try dsimp only at hV
        go_simp
        all_goals with_reducible rfl
      case' rest17b16 => try simp only [Act.put, List.setIfInBounds_toArray, List.set_cons_zero, List.set_cons_succ]
      refine wpAnyH_take (i := 18) (oi := { dst := some 58, op := Go.Op.binOp Go.BinOp.neq 37 (Go.Operand.tmp 57) (Go.Operand.const (Go.Value.int Go.IntKind.i64 2)) 37, type := 4, pos := "law.go:131", after := #[{ on := 17, ground := Go.Ground.data }, { on := 16, ground := Go.Ground.guard }], guard := some (16, true) }) (v := ?v18b17) rfl (by kernel_rfl) (by kernel_rfl) (by kernel_rfl) (fun _ _ _ h => h) (Or.inl ⟨by rfl, ?hy18b17⟩) hHeld ?rest18b17
      case hy18b17 =>
        intro W' hV
        try dsimp only at hV
        go_simp
        all_goals with_reducible rfl
      case' rest18b17 => try simp only [Act.put, List.setIfInBounds_toArray, List.set_cons_zero, List.set_cons_succ]
      refine wpAnyH_take (i := 19) (oi := { dst := some 59, op := Go.Op.pick (Go.Operand.tmp 56) (Go.Operand.tmp 58) (Go.Operand.const (Go.Value.bool false)), type := 4, pos := "law.go:131", after := #[{ on := 16, ground := Go.Ground.data }, { on := 18, ground := Go.Ground.data }, { on := 13, ground := Go.Ground.guard }], guard := some (13, false) }) (v := ?v19b18) rfl (by kernel_rfl) (by kernel_rfl) (by kernel_rfl) (fun _ _ _ h => h) (Or.inl ⟨by rfl, ?hy19b18⟩) hHeld ?rest19b18
      case hy19b18 =>
        intro W' hV
        try dsimp only at hV
        go_simp
        all_goals with_reducible rfl
      case' rest19b18 => try simp only [Act.put, List.setIfInBounds_toArray, List.set_cons_zero, List.set_cons_succ]
      refine wpAnyH_take (i := 20) (oi := { dst := some 60, op := Go.Op.pick (Go.Operand.tmp 53) (Go.Operand.const (Go.Value.bool true)) (Go.Operand.tmp 59), type := 4, pos := "law.go:131", after := #[{ on := 13, ground := Go.Ground.data }, { on := 19, ground := Go.Ground.data }], guard := none }) (v := ?v20b19) rfl (by kernel_rfl) (by kernel_rfl) (by kernel_rfl) (fun _ _ _ h => h) (Or.inl ⟨by rfl, ?hy20b19⟩) hHeld ?rest20b19
      case hy20b19 =>
        intro W' hV
        try dsimp only at hV
        go_simp
        all_goals with_reducible rfl
      case' rest20b19 => try simp only [Act.put, List.setIfInBounds_toArray, List.set_cons_zero, List.set_cons_succ]
      refine wpAnyH_done (by kernel_rfl) ?_ _
      have HB6 := Lib.hid hHeld
      clear hHeld hcv
      have HW6 := Lib.hid (bt HW5.out HB6.out)
      go_upto_region 9 with (go_at_call 8; go_loud (refine (made_any aB lB cB B v2 (HBB.out.onV HW6.out)).mono ?_; rintro e w8 ⟨g8, rfl, hx8, hg8, hb8⟩; have HX8 := Lib.hid hx8; have HG8 := Lib.hid hg8; have HW8R := Lib.hid hb8; clear hx8 hg8 hb8))
      have HW8 := Lib.hid (bt HW6.out HW8R.out)
      have HPB := Lib.hid (parsed_any (some ⟨g8, 0, none⟩) 512 512 (madeL B) w8 HX8.out (by omega) (HGG.out.on HW8.out HGG.out.1))
      have hmk := hmk
      go_wp2_with (first
        | (go_at_call 10; go_loud (refine HPB.out.mono ?_; rintro e w20 ⟨rfl, hb20⟩; have HB20 := Lib.hid hb20; clear hb20))
        | (go_at_call 11; go_loud ((with_reducible refine (blank_zeros w20).mono ?_); rintro e w21 ⟨rfl, hb21⟩; have HB21 := Lib.hid (bt HB20.out hb21); clear hb21))
        | (go_at_call 11; go_loud ((with_reducible refine (blank_01 w21).mono ?_); rintro e w22 ⟨rfl, hb22⟩; have HB22 := Lib.hid (bt HB21.out hb22); clear hb22)))
      go_ret
      exact ⟨rfl, bt HW8.out HB22.out⟩
end Go.Proofs.YtadcgngiofdhcaaDoor
