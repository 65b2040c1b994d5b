/- SectorCommits, under the contracts of package sector's commits. (genIf.py writes this text.) -/
import Derived.Test.YtadcgngiofdhcaaIe
import Derived.BigRegion
import Derived.Deep.QuietTactic
import Derived.BigQuiet
import Derived.Deep.RegionHeld
namespace Go.Proofs.Ytadcgngiofdhcaa
open Go.ChangeShapes Go.WideShapes Go.ChangeAt Go.RowKit Go.Shelf
set_option linter.unusedVariables false
set_option linter.unusedSimpArgs false
set_option maxRecDepth 100000
attribute [local go_sem] Oper.semAt_some

theorem str_neq0 {l : List Int} (h : 0 < l.length) : ((strOfNums l).toList == []) = false := by
  rw [Lib.strOfNums_toList, beq_eq_false_iff_ne]
  intro e
  have := congrArg List.length e
  simp [Lib.bytesOf] at this
  subst this; simp at h
theorem pcm_zero {b : List Int} (h : pcm b = none) : pcmZ b = ⟨0, 0, 0⟩ ∧ pcmE b = 3 := by unfold pcmZ pcmE; rw [h]; exact ⟨rfl, rfl⟩
theorem pcm_one {b : List Int} {c : CM} (h : pcm b = some c) : pcmZ b = c ∧ pcmE b = 0 := by unfold pcmZ pcmE; rw [h]; exact ⟨rfl, rfl⟩
theorem pcmR_S {b : List Int} (hB : AllB b) (hl : b.length = 512) (h : pcm b = none) : (pcmR b).S ≠ b := by
  intro e
  rcases pcm_none h with h1 | h1 | h1
  · exact h1 hl
  · rw [(CM.S_no h1).1] at e; subst e; cases hl
  · by_cases ho : (pcmR b).Ok
    · rw [(CM.S_ok ho).1] at e; exact h1 e
    · rw [(CM.S_no ho).1] at e; subst e; cases hl
/-- A block of three cells, behind what made memory, and behind one more block. -/
theorem cells3 {W0 W : World} {b : Nat} {x y z : Value} {T T2 : TypeId} {cs : Array Value} (h : W0.heap[b]? = some (.cells #[x, y, z] T (0, 0))) (hb : Below W0.heap.size W0 W) : (W.alloc (.cells cs T2)).cell? ⟨b, 0, none⟩ = some x ∧ (W.alloc (.cells cs T2)).cell? ⟨b, 1, none⟩ = some y ∧ (W.alloc (.cells cs T2)).cell? ⟨b, 2, none⟩ = some z := by
  have hlt : b < W0.heap.size := (Array.getElem?_eq_some_iff.1 h).1
  have h2 : (W.alloc (.cells cs T2)).heap[b]? = some (.cells #[x, y, z] T (0, 0)) := by
    rw [heap_alloc_old _ _ (by have := hb.size; omega), hb.block b hlt]; exact h
  exact ⟨(cell_of_row _ b 0 _ _ _ h2).trans rfl, (cell_of_row _ b 1 _ _ _ h2).trans rfl, (cell_of_row _ b 2 _ _ _ h2).trans rfl⟩
theorem cells3' {W0 W : World} {b : Nat} {x y z : Value} {T : TypeId} (h : W0.heap[b]? = some (.cells #[x, y, z] T (0, 0))) (hb : Below W0.heap.size W0 W) : W.cell? ⟨b, 0, none⟩ = some x ∧ W.cell? ⟨b, 1, none⟩ = some y ∧ W.cell? ⟨b, 2, none⟩ = some z := by
  have h2 : W.heap[b]? = some (.cells #[x, y, z] T (0, 0)) := (hb.block b (Array.getElem?_eq_some_iff.1 h).1).trans h
  exact ⟨(cell_of_row _ b 0 _ _ _ h2).trans rfl, (cell_of_row _ b 1 _ _ _ h2).trans rfl, (cell_of_row _ b 2 _ _ _ h2).trans rfl⟩
set_option maxHeartbeats 4000000 in
theorem sectorCommits_any (hC : CommitBytesC) (hP : ParseCommitC) (st n g : Int) (a : Option Addr) (L k : Nat) (whole : Bool) (w : World) (c0 : (CM.mk st n g).Wf) (w0 : ∃ b, Arg8c w a L k b) :
    Calls Try.prog 5 #[.int .u8 st, .int .u8 n, .int .u64 g, .slice a L k, .bool whole] w fun e w' => e = .returned (.bool true) ∧ Below w.heap.size w w' := by
  obtain ⟨b, hb⟩ := w0
  have HLV := Lib.hid (show ∀ W, Below w.heap.size w W → Calls Try.prog 6 #[] W fun e w' => e = .returned (.bool true) ∧ Below w.heap.size w w' from fun W hW => (lives14 hC W).mono fun e w' h => ⟨h.1, bt hW h.2⟩)
  have hkb := hb.1.2.2.2
  unfold maxLen at hkb
  have HA := Lib.hid hb
  have hq0 : Below w.heap.size w w := Below.refl _ _
  by_cases hL : 600 < L
  · have q1 : (600 : Int) < (L : Int) := by omega
    clear hb
    go_enter Try.func5, Try.ntmps5
    go_wp2_with (go_at_call 6; go_loud (refine (HLV.out _ (by assumption)).mono ?_; rintro e w1 ⟨rfl, hb1⟩))
    go_ret
    exact ⟨rfl, hb1⟩
  have q1 : ¬ (600 : Int) < (L : Int) := by omega
  have hL6 : L ≤ 600 := by omega
  have HL6 := Lib.hid hL6
  clear hL
  obtain ⟨SS, hSS⟩ : ∃ SS, SS = strOfNums (CM.mk st n g).S := ⟨_, rfl⟩
  have HSS := Lib.hid hSS
  have HCB := Lib.hid (show ∀ W, Below w.heap.size w W → Calls Try.prog 16 #[.agg #[.int .u8 st, .int .u8 n, .int .u64 g]] W fun e w' => ∃ a k, e = .returned (.tuple #[.slice a (CM.mk st n g).S.length k, .int .i64 (CM.mk st n g).E]) ∧ Arg8c w' a (CM.mk st n g).S.length k (CM.mk st n g).S ∧ Below w.heap.size w w' ∧ Below W.heap.size W w' from fun W hW => (hC (CM.mk st n g) W c0).mono (by rintro e w' ⟨a, k, h1, h2, h3, h4⟩; exact ⟨a, k, h1, h2, bt hW h4, h4⟩))
  have HRC := Lib.hid (show ∀ W (c : CM), c.Wf → Below w.heap.size w W → Calls Try.prog 17 #[.int .u8 c.st, .int .u8 c.n, .int .u64 c.g] W fun e w' => e = .returned (.string (strOfNums c.S)) ∧ Below w.heap.size w w' ∧ Below W.heap.size W w' from fun W c hc hW => (refCommit_any c hc W).mono fun e w' h => ⟨h.1, bt hW h.2, h.2⟩)
  have HPC := Lib.hid (show ∀ W a n k b, Arg8c W a n k b → n ≤ 600 → Below w.heap.size w W → Calls Try.prog 10 #[.slice a n k] W fun e w' => e = .returned (.tuple #[cmA (pcmZ b), .int .i64 (pcmE b)]) ∧ Below w.heap.size w w' ∧ Below W.heap.size W w' from fun W a n k b hx hn hW => (hP a n k b W hx hn).mono fun e w' h => ⟨h.1, bt hW h.2, h.2⟩)
  have hs1 : (SS.toList == SS.toList) = true := by simp
  have hs2 : (SS.toList != SS.toList) = false := by simp
  have HC0 := Lib.hid c0
  clear hSS hb c0
  by_cases hok : (CM.mk st n g).Ok
  · have hSB := CM.S_ok hok
    have hlen : (CM.mk st n g).S.length = 512 := by rw [hSB.1, CM.B_len]
    have hs3 : (SS.toList == []) = false := by rw [HSS.out]; exact str_neq0 (by rw [hlen]; omega)
    have hs4 : (SS.toList != []) = true := by rw [bne, hs3]; rfl
    have hpc := pcm_one (pcm_B HC0.out hok)
    rw [hlen, hSB.2] at HCB
    have HSB := Lib.hid hSB.1
    have HPC1 := Lib.hid hpc
    have HMD := Lib.hid (show ∀ W, Below w.heap.size w W → Calls Try.prog 7 #[.slice a L k] W fun e w' => ∃ g, e = .returned (.slice (some ⟨g, 0, none⟩) 512 512) ∧ Arg8c w' (some ⟨g, 0, none⟩) 512 512 (madeL b) ∧ Below w.heap.size w w' from fun W hW => (made_any a L k b W ⟨HA.out.1.on hW, HA.out.2⟩).mono (by rintro e w' ⟨g, h1, h2, h3, h4⟩; exact ⟨g, h1, h2, bt hW h4⟩))
    clear hpc
    clear hSB hlen
    cases whole with
    | true =>
      go_enter Try.func5, Try.ntmps5
      go_upto_region 14 with (first
        | (go_at_call 6; go_loud (refine (HLV.out _ (by assumption)).mono ?_; rintro e w1 ⟨rfl, hb1⟩))
        | (go_at_call 16; go_loud (refine (HCB.out _ (hb1.alloc hb1.size _)).mono ?_; rintro e w2 ⟨a2, k2, rfl, hx2, hb2, hb2'⟩; have HX2 := Lib.hid hx2; clear hx2))
        | (go_at_call 17; go_loud (refine (HRC.out _ ⟨st, n, g⟩ HC0.out (by assumption)).mono ?_; rintro e w3 ⟨rfl, hb3, hb3'⟩; rw [← HSS.out]; have hx3 := arg_str HX2.out hb3'; rw [← HSS.out] at hx3; have HX3 := Lib.hid (show Arg8c w3 a2 512 k2 (CM.mk st n g).B from by rw [← HSB.out]; exact ⟨HX2.out.1.on hb3', HX2.out.2⟩)))
        | (go_at_call 10; go_loud (refine (HPC.out w3 a2 512 k2 _ HX3.out (by omega) hb3).mono ?_; rintro e w4 ⟨rfl, hb4, hb4'⟩; have h11 := cells3 (T2 := 39) (cs := #[.int .u8 st, .int .u8 n, .int .u64 g]) (heap_alloc_new w1 (.cells #[.int .u8 st, .int .u8 n, .int .u64 g] 39)) (bt (bt hb2' hb3') hb4'); have e0 := h11.1; have e1 := h11.2.1; have e2 := h11.2.2; clear h11; rw [HPC1.out.1, HPC1.out.2]; simp only [cmA]))
        | (go_at_call 7; go_loud (refine (HMD.out _ (by first | exact hb4.alloc hb4.size _ | exact hb3)).mono ?_; rintro e w5 ⟨g5, rfl, hx5, hb5⟩; have HX5 := Lib.hid hx5; clear hx5)))
      have hb6 := hb5
      have HXX := HX5
      clear hb5
      obtain ⟨W6, hW6⟩ : ∃ W6, W6 = w5 := ⟨_, rfl⟩
      subst hW6
      have hxb := HXX.out
      have hbl := hxb.1.1
      have hbB := hxb.1.2.1
      have hbk := hxb.1.2.2.2
      unfold maxLen at hbk
      cases hpc3 : pcm (madeL b) with
      | none =>
        have hz := pcm_zero hpc3
        have HP3 := Lib.hid (HPC.out W6 (some ⟨g5, 0, none⟩) (512) (512) (madeL b) HXX.out (by omega) hb6)
        rw [hz.1, hz.2] at HP3
        simp only [cmA] at HP3
        have HRN := Lib.hid (str_ne (CM.S_B (pcmR_wf hbB)) hbB (pcmR_S hbB hbl hpc3))
        obtain ⟨bb, off, hA3, hblt, hcc⟩ := hxb.1.2.2.1 (by rw [hbl]; omega)
        cases hA3
        have HC2 := Lib.hid (hcc 2 (by rw [hbl]; omega))
        have HC3 := Lib.hid (hcc 3 (by rw [hbl]; omega))
        have HWF := Lib.hid (pcmR_wf hbB)
        have HLT := Lib.hid hblt
        have HXB := Lib.hid hxb
        clear hz hpc3 hxb hbl hbB hcc hblt
        go_upto_region 16 with (go_at_call 10; go_loud (refine HP3.out.mono ?_; rintro e w7 ⟨rfl, hb7, hb7'⟩))
        obtain ⟨W8, hW8⟩ : ∃ W8, W8 = w7.alloc (.cells #[.int .u8 0, .int .u8 0, .int .u64 0] 39) := ⟨_, rfl⟩
        have hal8 : Below w7.heap.size w7 W8 := by rw [hW8]; exact (Below.refl _ _).alloc (Nat.le_refl _) _
        have hbl8 : W8.heap[w7.heap.size]? = some (.cells #[.int .u8 0, .int .u8 0, .int .u64 0] 39 (0, 0)) := by rw [hW8]; exact heap_alloc_new w7 _
        have hb68 : Below W6.heap.size W6 W8 := bt hb7' hal8
        have hb8 : Below w.heap.size w W8 := bt hb7 hal8
        rw [← hW8]
        have hz0 : ∀ W, Below W8.heap.size W8 W → W.cell? ⟨w7.heap.size, 0, none⟩ = some (.int .u8 0) := fun W hW => (cells3' hbl8 hW).1
        have hz1 : ∀ W, Below W8.heap.size W8 W → W.cell? ⟨w7.heap.size, 1, none⟩ = some (.int .u8 0) := fun W hW => (cells3' hbl8 hW).2.1
        have hz2 : ∀ W, Below W8.heap.size W8 W → W.cell? ⟨w7.heap.size, 2, none⟩ = some (.int .u64 0) := fun W hW => (cells3' hbl8 hW).2.2
        obtain ⟨BS, hBS⟩ : ∃ BS, BS = strOfNums (madeL b) := ⟨_, rfl⟩
        have hcv : ∀ W, Below W8.heap.size W8 W → (convert 22 9 (.slice (some ⟨g5, 0, none⟩) (512) (512))).run Try.prog W = .ok (.string BS) W := fun W hW => by rw [hBS]; exact arg_str HXX.out (bt hb68 hW)
        obtain ⟨x2, hx2⟩ : ∃ x, x = (madeL b).getD 2 0 := ⟨_, rfl⟩
        obtain ⟨x3, hx3⟩ : ∃ x, x = (madeL b).getD 3 0 := ⟨_, rfl⟩
        obtain ⟨g8, hg8⟩ : ∃ x, x = nb (madeL b) 4 8 := ⟨_, rfl⟩
        obtain ⟨RS, hRS⟩ : ∃ RS, RS = strOfNums (pcmR (madeL b)).S := ⟨_, rfl⟩
        have hd2 : ∀ W, Below W8.heap.size W8 W → W.cell? ⟨g5, 2, none⟩ = some (.int .u8 x2) := fun W hW => by rw [hx2]; exact ((bt hb68 hW).cell (p := ⟨g5, 2, none⟩) HLT.out).trans HC2.out
        have hd3 : ∀ W, Below W8.heap.size W8 W → W.cell? ⟨g5, 3, none⟩ = some (.int .u8 x3) := fun W hW => by rw [hx3]; exact ((bt hb68 hW).cell (p := ⟨g5, 3, none⟩) HLT.out).trans HC3.out
        have HGE := Lib.hid (show ∀ W, Below W8.heap.size W8 W → Calls Try.prog 18 #[.slice (some ⟨g5, 0, none⟩) 512 (512)] W fun e w' => e = .returned (.int .u64 g8) ∧ W = w' from fun W hW => by rw [hg8]; exact gens_any _ _ _ (madeL b) W ⟨HXX.out.1.on (bt hb68 hW), HXX.out.2⟩ (by omega))
        have HRR := Lib.hid (show ∀ W, Below W8.heap.size W8 W → Calls Try.prog 17 #[.int .u8 x2, .int .u8 x3, .int .u64 g8] W fun e w' => e = .returned (.string RS) ∧ Below W8.heap.size W8 w' from fun W hW => by
          rw [hx2, hx3, hg8, hRS]
          exact (HRC.out W (pcmR (madeL b)) HWF.out (bt hb8 hW)).mono fun e w' h => ⟨h.1, bt hW h.2.2⟩)
        have hne : (RS.toList == BS.toList) = false := by rw [hRS, hBS]; exact HRN.out
        have HB8 := Lib.hid hb8
        clear hW8 hal8 hbl8 hb68 hb8 hBS hx2 hx3 hg8 hRS hb7 hb7'
        go_region_held (fun W => Below W8.heap.size W8 W) (first | assumption | exact (Below.refl _ _).drew | (refine Below.drew ?_; assumption))
          (first
            | (go_at_call 18; refine (HGE.out _ (by first | assumption | exact (Below.refl _ _).drew | (refine Below.drew ?_; assumption))).mono ?_; rintro e w9 ⟨rfl, rfl⟩)
            | (go_at_call 17; refine (HRR.out _ (by first | assumption | exact (Below.refl _ _).drew | (refine Below.drew ?_; assumption))).mono ?_; rintro e w9 ⟨rfl, hb9⟩))
        all_goals
          go_wp2_with fail
          go_ret
          exact ⟨rfl, bt HB8.out (by first | assumption | exact (Below.refl _ _).drew)⟩
      | some cc =>
        have ho := pcm_one hpc3
        obtain ⟨hl5, hso, hsB, hsR⟩ := pcm_some hpc3
        have HP3 := Lib.hid (HPC.out W6 (some ⟨g5, 0, none⟩) (512) (512) (madeL b) HXX.out (by omega) hb6)
        rw [ho.1, ho.2] at HP3
        simp only [cmA] at HP3
        have HWF := Lib.hid (show cc.Wf from hsR ▸ pcmR_wf hbB)
        have HSO := Lib.hid hso
        have HSB := Lib.hid hsB
        clear ho hpc3 hxb hbl hbB hl5 hso hsB hsR
        go_upto_region 17 with (go_at_call 10; go_loud (refine HP3.out.mono ?_; rintro e w7 ⟨rfl, hb7, hb7'⟩))
        obtain ⟨W8, hW8⟩ : ∃ W8, W8 = w7.alloc (.cells #[.int .u8 cc.st, .int .u8 cc.n, .int .u64 cc.g] 39) := ⟨_, rfl⟩
        have hal8 : Below w7.heap.size w7 W8 := by rw [hW8]; exact (Below.refl _ _).alloc (Nat.le_refl _) _
        have hbl8 : W8.heap[w7.heap.size]? = some (.cells #[.int .u8 cc.st, .int .u8 cc.n, .int .u64 cc.g] 39 (0, 0)) := by rw [hW8]; exact heap_alloc_new w7 _
        have hb68 : Below W6.heap.size W6 W8 := bt hb7' hal8
        have hb8 : Below w.heap.size w W8 := bt hb7 hal8
        rw [← hW8]
        have hz0 : ∀ W, Below W8.heap.size W8 W → W.cell? ⟨w7.heap.size, 0, none⟩ = some (.int .u8 cc.st) := fun W hW => (cells3' hbl8 hW).1
        have hz1 : ∀ W, Below W8.heap.size W8 W → W.cell? ⟨w7.heap.size, 1, none⟩ = some (.int .u8 cc.n) := fun W hW => (cells3' hbl8 hW).2.1
        have hz2 : ∀ W, Below W8.heap.size W8 W → W.cell? ⟨w7.heap.size, 2, none⟩ = some (.int .u64 cc.g) := fun W hW => (cells3' hbl8 hW).2.2
        obtain ⟨BS, hBS⟩ : ∃ BS, BS = strOfNums (madeL b) := ⟨_, rfl⟩
        have hcv : ∀ W, Below W8.heap.size W8 W → (convert 22 9 (.slice (some ⟨g5, 0, none⟩) (512) (512))).run Try.prog W = .ok (.string BS) W := fun W hW => by rw [hBS]; exact arg_str HXX.out (bt hb68 hW)
        have HRR := Lib.hid (show ∀ W, Below W8.heap.size W8 W → Calls Try.prog 17 #[.int .u8 cc.st, .int .u8 cc.n, .int .u64 cc.g] W fun e w' => e = .returned (.string BS) ∧ Below W8.heap.size W8 w' from fun W hW => by
          rw [hBS, ← HSB.out, ← (CM.S_ok HSO.out).1]
          exact (HRC.out W cc HWF.out (bt hb8 hW)).mono fun e w' h => ⟨h.1, bt hW h.2.2⟩)
        have hne : (BS.toList == BS.toList) = true := by simp
        have HB8 := Lib.hid hb8
        clear hW8 hal8 hbl8 hb68 hb8 hBS hb7 hb7'
        go_region_held (fun W => Below W8.heap.size W8 W) (first | assumption | exact (Below.refl _ _).drew | (refine Below.drew ?_; assumption))
          (first | (go_at_call 17; refine (HRR.out _ (by first | assumption | exact (Below.refl _ _).drew | (refine Below.drew ?_; assumption))).mono ?_; rintro e w9 ⟨rfl, hb9⟩))
        all_goals
          go_wp2_with fail
          go_ret
          exact ⟨rfl, bt HB8.out (by first | assumption | exact (Below.refl _ _).drew)⟩
    | false =>
      go_enter Try.func5, Try.ntmps5
      go_upto_region 14 with (first
        | (go_at_call 6; go_loud (refine (HLV.out _ (by assumption)).mono ?_; rintro e w1 ⟨rfl, hb1⟩))
        | (go_at_call 16; go_loud (refine (HCB.out _ (hb1.alloc hb1.size _)).mono ?_; rintro e w2 ⟨a2, k2, rfl, hx2, hb2, hb2'⟩; have HX2 := Lib.hid hx2; clear hx2))
        | (go_at_call 17; go_loud (refine (HRC.out _ ⟨st, n, g⟩ HC0.out (by assumption)).mono ?_; rintro e w3 ⟨rfl, hb3, hb3'⟩; rw [← HSS.out]; have hx3 := arg_str HX2.out hb3'; rw [← HSS.out] at hx3; have HX3 := Lib.hid (show Arg8c w3 a2 512 k2 (CM.mk st n g).B from by rw [← HSB.out]; exact ⟨HX2.out.1.on hb3', HX2.out.2⟩)))
        | (go_at_call 10; go_loud (refine (HPC.out w3 a2 512 k2 _ HX3.out (by omega) hb3).mono ?_; rintro e w4 ⟨rfl, hb4, hb4'⟩; have h11 := cells3 (T2 := 39) (cs := #[.int .u8 st, .int .u8 n, .int .u64 g]) (heap_alloc_new w1 (.cells #[.int .u8 st, .int .u8 n, .int .u64 g] 39)) (bt (bt hb2' hb3') hb4'); have e0 := h11.1; have e1 := h11.2.1; have e2 := h11.2.2; clear h11; rw [HPC1.out.1, HPC1.out.2]; simp only [cmA])))
      obtain ⟨W6, hW6⟩ : ∃ W6, W6 = w4.alloc (.cells #[.int .u8 st, .int .u8 n, .int .u64 g] 39) := ⟨_, rfl⟩
      have hb6 : Below w.heap.size w W6 := by rw [hW6]; exact hb4.alloc hb4.size _
      rw [← hW6]
      clear hW6
      have HXX := Lib.hid (show Arg8c W6 a L k b from ⟨HA.out.1.on hb6, HA.out.2⟩)
      have hxb := HXX.out
      have hbl := hxb.1.1
      have hbB := hxb.1.2.1
      have hbk := hxb.1.2.2.2
      unfold maxLen at hbk
      cases hpc3 : pcm (b) with
      | none =>
        have hz := pcm_zero hpc3
        have HP3 := Lib.hid (HPC.out W6 (a) (L) (k) (b) HXX.out HL6.out hb6)
        rw [hz.1, hz.2] at HP3
        simp only [cmA] at HP3
        by_cases h512 : L = 512
        · subst h512
          have HRN := Lib.hid (str_ne (CM.S_B (pcmR_wf hbB)) hbB (pcmR_S hbB hbl hpc3))
          obtain ⟨bb, off, hA3, hblt, hcc⟩ := hxb.1.2.2.1 (by rw [hbl]; omega)
          subst hA3
          have HC2 := Lib.hid (hcc 2 (by rw [hbl]; omega))
          have HC3 := Lib.hid (hcc 3 (by rw [hbl]; omega))
          have HWF := Lib.hid (pcmR_wf hbB)
          have HLT := Lib.hid hblt
          have HXB := Lib.hid hxb
          clear hz hpc3 hxb hbl hbB hcc hblt
          go_upto_region 16 with (go_at_call 10; go_loud (refine HP3.out.mono ?_; rintro e w7 ⟨rfl, hb7, hb7'⟩))
          obtain ⟨W8, hW8⟩ : ∃ W8, W8 = w7.alloc (.cells #[.int .u8 0, .int .u8 0, .int .u64 0] 39) := ⟨_, rfl⟩
          have hal8 : Below w7.heap.size w7 W8 := by rw [hW8]; exact (Below.refl _ _).alloc (Nat.le_refl _) _
          have hbl8 : W8.heap[w7.heap.size]? = some (.cells #[.int .u8 0, .int .u8 0, .int .u64 0] 39 (0, 0)) := by rw [hW8]; exact heap_alloc_new w7 _
          have hb68 : Below W6.heap.size W6 W8 := bt hb7' hal8
          have hb8 : Below w.heap.size w W8 := bt hb7 hal8
          rw [← hW8]
          have hz0 : ∀ W, Below W8.heap.size W8 W → W.cell? ⟨w7.heap.size, 0, none⟩ = some (.int .u8 0) := fun W hW => (cells3' hbl8 hW).1
          have hz1 : ∀ W, Below W8.heap.size W8 W → W.cell? ⟨w7.heap.size, 1, none⟩ = some (.int .u8 0) := fun W hW => (cells3' hbl8 hW).2.1
          have hz2 : ∀ W, Below W8.heap.size W8 W → W.cell? ⟨w7.heap.size, 2, none⟩ = some (.int .u64 0) := fun W hW => (cells3' hbl8 hW).2.2
          obtain ⟨BS, hBS⟩ : ∃ BS, BS = strOfNums (b) := ⟨_, rfl⟩
          have hcv : ∀ W, Below W8.heap.size W8 W → (convert 22 9 (.slice (some ⟨bb, off, none⟩) (512) (k))).run Try.prog W = .ok (.string BS) W := fun W hW => by rw [hBS]; exact arg_str HXX.out (bt hb68 hW)
          obtain ⟨x2, hx2⟩ : ∃ x, x = (b).getD 2 0 := ⟨_, rfl⟩
          obtain ⟨x3, hx3⟩ : ∃ x, x = (b).getD 3 0 := ⟨_, rfl⟩
          obtain ⟨g8, hg8⟩ : ∃ x, x = nb (b) 4 8 := ⟨_, rfl⟩
          obtain ⟨RS, hRS⟩ : ∃ RS, RS = strOfNums (pcmR (b)).S := ⟨_, rfl⟩
          have hd2 : ∀ W, Below W8.heap.size W8 W → W.cell? ⟨bb, off + 2, none⟩ = some (.int .u8 x2) := fun W hW => by rw [hx2]; exact ((bt hb68 hW).cell (p := ⟨bb, off + 2, none⟩) HLT.out).trans HC2.out
          have hd3 : ∀ W, Below W8.heap.size W8 W → W.cell? ⟨bb, off + 3, none⟩ = some (.int .u8 x3) := fun W hW => by rw [hx3]; exact ((bt hb68 hW).cell (p := ⟨bb, off + 3, none⟩) HLT.out).trans HC3.out
          have HGE := Lib.hid (show ∀ W, Below W8.heap.size W8 W → Calls Try.prog 18 #[.slice (some ⟨bb, off, none⟩) 512 (k)] W fun e w' => e = .returned (.int .u64 g8) ∧ W = w' from fun W hW => by rw [hg8]; exact gens_any _ _ _ (b) W ⟨HXX.out.1.on (bt hb68 hW), HXX.out.2⟩ (by omega))
          have HRR := Lib.hid (show ∀ W, Below W8.heap.size W8 W → Calls Try.prog 17 #[.int .u8 x2, .int .u8 x3, .int .u64 g8] W fun e w' => e = .returned (.string RS) ∧ Below W8.heap.size W8 w' from fun W hW => by
            rw [hx2, hx3, hg8, hRS]
            exact (HRC.out W (pcmR (b)) HWF.out (bt hb8 hW)).mono fun e w' h => ⟨h.1, bt hW h.2.2⟩)
          have hne : (RS.toList == BS.toList) = false := by rw [hRS, hBS]; exact HRN.out
          have HB8 := Lib.hid hb8
          clear hW8 hal8 hbl8 hb68 hb8 hBS hx2 hx3 hg8 hRS hb7 hb7'
          go_region_held (fun W => Below W8.heap.size W8 W) (first | assumption | exact (Below.refl _ _).drew | (refine Below.drew ?_; assumption))
            (first
              | (go_at_call 18; refine (HGE.out _ (by first | assumption | exact (Below.refl _ _).drew | (refine Below.drew ?_; assumption))).mono ?_; rintro e w9 ⟨rfl, rfl⟩)
              | (go_at_call 17; refine (HRR.out _ (by first | assumption | exact (Below.refl _ _).drew | (refine Below.drew ?_; assumption))).mono ?_; rintro e w9 ⟨rfl, hb9⟩))
          all_goals
            go_wp2_with fail
            go_ret
            exact ⟨rfl, bt HB8.out (by first | assumption | exact (Below.refl _ _).drew)⟩
        · have q5 : ¬ ((L : Nat) : Int) = 512 := by omega
          have H512 := Lib.hid h512
          clear hz hpc3 hxb hbl hbB h512
          go_upto_region 16 with (go_at_call 10; go_loud (refine HP3.out.mono ?_; rintro e w7 ⟨rfl, hb7, hb7'⟩))
          go_quiet (fail)
          go_wp2_with fail
          go_ret
          have hal8 := (bt hb7 ((Below.refl _ w7).alloc (Nat.le_refl _) (.cells #[.int .u8 0, .int .u8 0, .int .u64 0] 39)))
          exact ⟨rfl, bt hal8 (below_drewN (Below.refl _ _) _)⟩
      | some cc =>
        have ho := pcm_one hpc3
        obtain ⟨hl5, hso, hsB, hsR⟩ := pcm_some hpc3
        have HP3 := Lib.hid (HPC.out W6 (a) (L) (k) (b) HXX.out HL6.out hb6)
        rw [ho.1, ho.2] at HP3
        simp only [cmA] at HP3
        have HWF := Lib.hid (show cc.Wf from hsR ▸ pcmR_wf hbB)
        have HSO := Lib.hid hso
        have HSB := Lib.hid hsB
        clear ho hpc3 hxb hbl hbB hl5 hso hsB hsR
        go_upto_region 17 with (go_at_call 10; go_loud (refine HP3.out.mono ?_; rintro e w7 ⟨rfl, hb7, hb7'⟩))
        obtain ⟨W8, hW8⟩ : ∃ W8, W8 = w7.alloc (.cells #[.int .u8 cc.st, .int .u8 cc.n, .int .u64 cc.g] 39) := ⟨_, rfl⟩
        have hal8 : Below w7.heap.size w7 W8 := by rw [hW8]; exact (Below.refl _ _).alloc (Nat.le_refl _) _
        have hbl8 : W8.heap[w7.heap.size]? = some (.cells #[.int .u8 cc.st, .int .u8 cc.n, .int .u64 cc.g] 39 (0, 0)) := by rw [hW8]; exact heap_alloc_new w7 _
        have hb68 : Below W6.heap.size W6 W8 := bt hb7' hal8
        have hb8 : Below w.heap.size w W8 := bt hb7 hal8
        rw [← hW8]
        have hz0 : ∀ W, Below W8.heap.size W8 W → W.cell? ⟨w7.heap.size, 0, none⟩ = some (.int .u8 cc.st) := fun W hW => (cells3' hbl8 hW).1
        have hz1 : ∀ W, Below W8.heap.size W8 W → W.cell? ⟨w7.heap.size, 1, none⟩ = some (.int .u8 cc.n) := fun W hW => (cells3' hbl8 hW).2.1
        have hz2 : ∀ W, Below W8.heap.size W8 W → W.cell? ⟨w7.heap.size, 2, none⟩ = some (.int .u64 cc.g) := fun W hW => (cells3' hbl8 hW).2.2
        obtain ⟨BS, hBS⟩ : ∃ BS, BS = strOfNums (b) := ⟨_, rfl⟩
        have hcv : ∀ W, Below W8.heap.size W8 W → (convert 22 9 (.slice (a) (L) (k))).run Try.prog W = .ok (.string BS) W := fun W hW => by rw [hBS]; exact arg_str HXX.out (bt hb68 hW)
        have HRR := Lib.hid (show ∀ W, Below W8.heap.size W8 W → Calls Try.prog 17 #[.int .u8 cc.st, .int .u8 cc.n, .int .u64 cc.g] W fun e w' => e = .returned (.string BS) ∧ Below W8.heap.size W8 w' from fun W hW => by
          rw [hBS, ← HSB.out, ← (CM.S_ok HSO.out).1]
          exact (HRC.out W cc HWF.out (bt hb8 hW)).mono fun e w' h => ⟨h.1, bt hW h.2.2⟩)
        have hne : (BS.toList == BS.toList) = true := by simp
        have HB8 := Lib.hid hb8
        clear hW8 hal8 hbl8 hb68 hb8 hBS hb7 hb7'
        go_region_held (fun W => Below W8.heap.size W8 W) (first | assumption | exact (Below.refl _ _).drew | (refine Below.drew ?_; assumption))
          (first | (go_at_call 17; refine (HRR.out _ (by first | assumption | exact (Below.refl _ _).drew | (refine Below.drew ?_; assumption))).mono ?_; rintro e w9 ⟨rfl, hb9⟩))
        all_goals
          go_wp2_with fail
          go_ret
          exact ⟨rfl, bt HB8.out (by first | assumption | exact (Below.refl _ _).drew)⟩
  · have hSN := CM.S_no hok
    have hs3 : (SS.toList == []) = true := by rw [HSS.out, hSN.1, Lib.strOfNums_toList]; rfl
    have hs4 : (SS.toList != []) = false := by rw [bne, hs3]; rfl
    have hlen : (CM.mk st n g).S.length = 0 := by rw [hSN.1]; rfl
    rw [hlen, hSN.2] at HCB
    have HSN := Lib.hid hSN.1
    have HMD := Lib.hid (show ∀ W, Below w.heap.size w W → Calls Try.prog 7 #[.slice a L k] W fun e w' => ∃ g, e = .returned (.slice (some ⟨g, 0, none⟩) 512 512) ∧ Arg8c w' (some ⟨g, 0, none⟩) 512 512 (madeL b) ∧ Below w.heap.size w w' from fun W hW => (made_any a L k b W ⟨HA.out.1.on hW, HA.out.2⟩).mono (by rintro e w' ⟨g, h1, h2, h3, h4⟩; exact ⟨g, h1, h2, bt hW h4⟩))
    clear hSN hlen
    cases whole with
    | true =>
      go_enter Try.func5, Try.ntmps5
      go_upto_region 14 with (first
        | (go_at_call 6; go_loud (refine (HLV.out _ (by assumption)).mono ?_; rintro e w1 ⟨rfl, hb1⟩))
        | (go_at_call 16; go_loud (refine (HCB.out _ (hb1.alloc hb1.size _)).mono ?_; rintro e w2 ⟨a2, k2, rfl, hx2, hb2, hb2'⟩; have HX2 := Lib.hid hx2; clear hx2))
        | (go_at_call 17; go_loud (refine (HRC.out _ ⟨st, n, g⟩ HC0.out (by assumption)).mono ?_; rintro e w3 ⟨rfl, hb3, hb3'⟩; rw [← HSS.out]; have hx3 := arg_str HX2.out hb3'; rw [← HSS.out] at hx3))
        | (go_at_call 7; go_loud (refine (HMD.out _ (by first | exact hb4.alloc hb4.size _ | exact hb3)).mono ?_; rintro e w5 ⟨g5, rfl, hx5, hb5⟩; have HX5 := Lib.hid hx5; clear hx5)))
      have hb6 := hb5
      have HXX := HX5
      clear hb5
      obtain ⟨W6, hW6⟩ : ∃ W6, W6 = w5 := ⟨_, rfl⟩
      subst hW6
      have hxb := HXX.out
      have hbl := hxb.1.1
      have hbB := hxb.1.2.1
      have hbk := hxb.1.2.2.2
      unfold maxLen at hbk
      cases hpc3 : pcm (madeL b) with
      | none =>
        have hz := pcm_zero hpc3
        have HP3 := Lib.hid (HPC.out W6 (some ⟨g5, 0, none⟩) (512) (512) (madeL b) HXX.out (by omega) hb6)
        rw [hz.1, hz.2] at HP3
        simp only [cmA] at HP3
        have HRN := Lib.hid (str_ne (CM.S_B (pcmR_wf hbB)) hbB (pcmR_S hbB hbl hpc3))
        obtain ⟨bb, off, hA3, hblt, hcc⟩ := hxb.1.2.2.1 (by rw [hbl]; omega)
        cases hA3
        have HC2 := Lib.hid (hcc 2 (by rw [hbl]; omega))
        have HC3 := Lib.hid (hcc 3 (by rw [hbl]; omega))
        have HWF := Lib.hid (pcmR_wf hbB)
        have HLT := Lib.hid hblt
        have HXB := Lib.hid hxb
        clear hz hpc3 hxb hbl hbB hcc hblt
        go_upto_region 16 with (go_at_call 10; go_loud (refine HP3.out.mono ?_; rintro e w7 ⟨rfl, hb7, hb7'⟩))
        obtain ⟨W8, hW8⟩ : ∃ W8, W8 = w7.alloc (.cells #[.int .u8 0, .int .u8 0, .int .u64 0] 39) := ⟨_, rfl⟩
        have hal8 : Below w7.heap.size w7 W8 := by rw [hW8]; exact (Below.refl _ _).alloc (Nat.le_refl _) _
        have hbl8 : W8.heap[w7.heap.size]? = some (.cells #[.int .u8 0, .int .u8 0, .int .u64 0] 39 (0, 0)) := by rw [hW8]; exact heap_alloc_new w7 _
        have hb68 : Below W6.heap.size W6 W8 := bt hb7' hal8
        have hb8 : Below w.heap.size w W8 := bt hb7 hal8
        rw [← hW8]
        have hz0 : ∀ W, Below W8.heap.size W8 W → W.cell? ⟨w7.heap.size, 0, none⟩ = some (.int .u8 0) := fun W hW => (cells3' hbl8 hW).1
        have hz1 : ∀ W, Below W8.heap.size W8 W → W.cell? ⟨w7.heap.size, 1, none⟩ = some (.int .u8 0) := fun W hW => (cells3' hbl8 hW).2.1
        have hz2 : ∀ W, Below W8.heap.size W8 W → W.cell? ⟨w7.heap.size, 2, none⟩ = some (.int .u64 0) := fun W hW => (cells3' hbl8 hW).2.2
        obtain ⟨BS, hBS⟩ : ∃ BS, BS = strOfNums (madeL b) := ⟨_, rfl⟩
        have hcv : ∀ W, Below W8.heap.size W8 W → (convert 22 9 (.slice (some ⟨g5, 0, none⟩) (512) (512))).run Try.prog W = .ok (.string BS) W := fun W hW => by rw [hBS]; exact arg_str HXX.out (bt hb68 hW)
        obtain ⟨x2, hx2⟩ : ∃ x, x = (madeL b).getD 2 0 := ⟨_, rfl⟩
        obtain ⟨x3, hx3⟩ : ∃ x, x = (madeL b).getD 3 0 := ⟨_, rfl⟩
        obtain ⟨g8, hg8⟩ : ∃ x, x = nb (madeL b) 4 8 := ⟨_, rfl⟩
        obtain ⟨RS, hRS⟩ : ∃ RS, RS = strOfNums (pcmR (madeL b)).S := ⟨_, rfl⟩
        have hd2 : ∀ W, Below W8.heap.size W8 W → W.cell? ⟨g5, 2, none⟩ = some (.int .u8 x2) := fun W hW => by rw [hx2]; exact ((bt hb68 hW).cell (p := ⟨g5, 2, none⟩) HLT.out).trans HC2.out
        have hd3 : ∀ W, Below W8.heap.size W8 W → W.cell? ⟨g5, 3, none⟩ = some (.int .u8 x3) := fun W hW => by rw [hx3]; exact ((bt hb68 hW).cell (p := ⟨g5, 3, none⟩) HLT.out).trans HC3.out
        have HGE := Lib.hid (show ∀ W, Below W8.heap.size W8 W → Calls Try.prog 18 #[.slice (some ⟨g5, 0, none⟩) 512 (512)] W fun e w' => e = .returned (.int .u64 g8) ∧ W = w' from fun W hW => by rw [hg8]; exact gens_any _ _ _ (madeL b) W ⟨HXX.out.1.on (bt hb68 hW), HXX.out.2⟩ (by omega))
        have HRR := Lib.hid (show ∀ W, Below W8.heap.size W8 W → Calls Try.prog 17 #[.int .u8 x2, .int .u8 x3, .int .u64 g8] W fun e w' => e = .returned (.string RS) ∧ Below W8.heap.size W8 w' from fun W hW => by
          rw [hx2, hx3, hg8, hRS]
          exact (HRC.out W (pcmR (madeL b)) HWF.out (bt hb8 hW)).mono fun e w' h => ⟨h.1, bt hW h.2.2⟩)
        have hne : (RS.toList == BS.toList) = false := by rw [hRS, hBS]; exact HRN.out
        have HB8 := Lib.hid hb8
        clear hW8 hal8 hbl8 hb68 hb8 hBS hx2 hx3 hg8 hRS hb7 hb7'
        go_region_held (fun W => Below W8.heap.size W8 W) (first | assumption | exact (Below.refl _ _).drew | (refine Below.drew ?_; assumption))
          (first
            | (go_at_call 18; refine (HGE.out _ (by first | assumption | exact (Below.refl _ _).drew | (refine Below.drew ?_; assumption))).mono ?_; rintro e w9 ⟨rfl, rfl⟩)
            | (go_at_call 17; refine (HRR.out _ (by first | assumption | exact (Below.refl _ _).drew | (refine Below.drew ?_; assumption))).mono ?_; rintro e w9 ⟨rfl, hb9⟩))
        all_goals
          go_wp2_with fail
          go_ret
          exact ⟨rfl, bt HB8.out (by first | assumption | exact (Below.refl _ _).drew)⟩
      | some cc =>
        have ho := pcm_one hpc3
        obtain ⟨hl5, hso, hsB, hsR⟩ := pcm_some hpc3
        have HP3 := Lib.hid (HPC.out W6 (some ⟨g5, 0, none⟩) (512) (512) (madeL b) HXX.out (by omega) hb6)
        rw [ho.1, ho.2] at HP3
        simp only [cmA] at HP3
        have HWF := Lib.hid (show cc.Wf from hsR ▸ pcmR_wf hbB)
        have HSO := Lib.hid hso
        have HSB := Lib.hid hsB
        clear ho hpc3 hxb hbl hbB hl5 hso hsB hsR
        go_upto_region 17 with (go_at_call 10; go_loud (refine HP3.out.mono ?_; rintro e w7 ⟨rfl, hb7, hb7'⟩))
        obtain ⟨W8, hW8⟩ : ∃ W8, W8 = w7.alloc (.cells #[.int .u8 cc.st, .int .u8 cc.n, .int .u64 cc.g] 39) := ⟨_, rfl⟩
        have hal8 : Below w7.heap.size w7 W8 := by rw [hW8]; exact (Below.refl _ _).alloc (Nat.le_refl _) _
        have hbl8 : W8.heap[w7.heap.size]? = some (.cells #[.int .u8 cc.st, .int .u8 cc.n, .int .u64 cc.g] 39 (0, 0)) := by rw [hW8]; exact heap_alloc_new w7 _
        have hb68 : Below W6.heap.size W6 W8 := bt hb7' hal8
        have hb8 : Below w.heap.size w W8 := bt hb7 hal8
        rw [← hW8]
        have hz0 : ∀ W, Below W8.heap.size W8 W → W.cell? ⟨w7.heap.size, 0, none⟩ = some (.int .u8 cc.st) := fun W hW => (cells3' hbl8 hW).1
        have hz1 : ∀ W, Below W8.heap.size W8 W → W.cell? ⟨w7.heap.size, 1, none⟩ = some (.int .u8 cc.n) := fun W hW => (cells3' hbl8 hW).2.1
        have hz2 : ∀ W, Below W8.heap.size W8 W → W.cell? ⟨w7.heap.size, 2, none⟩ = some (.int .u64 cc.g) := fun W hW => (cells3' hbl8 hW).2.2
        obtain ⟨BS, hBS⟩ : ∃ BS, BS = strOfNums (madeL b) := ⟨_, rfl⟩
        have hcv : ∀ W, Below W8.heap.size W8 W → (convert 22 9 (.slice (some ⟨g5, 0, none⟩) (512) (512))).run Try.prog W = .ok (.string BS) W := fun W hW => by rw [hBS]; exact arg_str HXX.out (bt hb68 hW)
        have HRR := Lib.hid (show ∀ W, Below W8.heap.size W8 W → Calls Try.prog 17 #[.int .u8 cc.st, .int .u8 cc.n, .int .u64 cc.g] W fun e w' => e = .returned (.string BS) ∧ Below W8.heap.size W8 w' from fun W hW => by
          rw [hBS, ← HSB.out, ← (CM.S_ok HSO.out).1]
          exact (HRC.out W cc HWF.out (bt hb8 hW)).mono fun e w' h => ⟨h.1, bt hW h.2.2⟩)
        have hne : (BS.toList == BS.toList) = true := by simp
        have HB8 := Lib.hid hb8
        clear hW8 hal8 hbl8 hb68 hb8 hBS hb7 hb7'
        go_region_held (fun W => Below W8.heap.size W8 W) (first | assumption | exact (Below.refl _ _).drew | (refine Below.drew ?_; assumption))
          (first | (go_at_call 17; refine (HRR.out _ (by first | assumption | exact (Below.refl _ _).drew | (refine Below.drew ?_; assumption))).mono ?_; rintro e w9 ⟨rfl, hb9⟩))
        all_goals
          go_wp2_with fail
          go_ret
          exact ⟨rfl, bt HB8.out (by first | assumption | exact (Below.refl _ _).drew)⟩
    | false =>
      go_enter Try.func5, Try.ntmps5
      go_upto_region 14 with (first
        | (go_at_call 6; go_loud (refine (HLV.out _ (by assumption)).mono ?_; rintro e w1 ⟨rfl, hb1⟩))
        | (go_at_call 16; go_loud (refine (HCB.out _ (hb1.alloc hb1.size _)).mono ?_; rintro e w2 ⟨a2, k2, rfl, hx2, hb2, hb2'⟩; have HX2 := Lib.hid hx2; clear hx2))
        | (go_at_call 17; go_loud (refine (HRC.out _ ⟨st, n, g⟩ HC0.out (by assumption)).mono ?_; rintro e w3 ⟨rfl, hb3, hb3'⟩; rw [← HSS.out]; have hx3 := arg_str HX2.out hb3'; rw [← HSS.out] at hx3)))
      obtain ⟨W6, hW6⟩ : ∃ W6, W6 = w3 := ⟨_, rfl⟩
      have hb6 : Below w.heap.size w W6 := by rw [hW6]; exact hb3
      subst hW6
      have HXX := Lib.hid (show Arg8c W6 a L k b from ⟨HA.out.1.on hb6, HA.out.2⟩)
      have hxb := HXX.out
      have hbl := hxb.1.1
      have hbB := hxb.1.2.1
      have hbk := hxb.1.2.2.2
      unfold maxLen at hbk
      cases hpc3 : pcm (b) with
      | none =>
        have hz := pcm_zero hpc3
        have HP3 := Lib.hid (HPC.out W6 (a) (L) (k) (b) HXX.out HL6.out hb6)
        rw [hz.1, hz.2] at HP3
        simp only [cmA] at HP3
        by_cases h512 : L = 512
        · subst h512
          have HRN := Lib.hid (str_ne (CM.S_B (pcmR_wf hbB)) hbB (pcmR_S hbB hbl hpc3))
          obtain ⟨bb, off, hA3, hblt, hcc⟩ := hxb.1.2.2.1 (by rw [hbl]; omega)
          subst hA3
          have HC2 := Lib.hid (hcc 2 (by rw [hbl]; omega))
          have HC3 := Lib.hid (hcc 3 (by rw [hbl]; omega))
          have HWF := Lib.hid (pcmR_wf hbB)
          have HLT := Lib.hid hblt
          have HXB := Lib.hid hxb
          clear hz hpc3 hxb hbl hbB hcc hblt
          go_upto_region 16 with (go_at_call 10; go_loud (refine HP3.out.mono ?_; rintro e w7 ⟨rfl, hb7, hb7'⟩))
          obtain ⟨W8, hW8⟩ : ∃ W8, W8 = w7.alloc (.cells #[.int .u8 0, .int .u8 0, .int .u64 0] 39) := ⟨_, rfl⟩
          have hal8 : Below w7.heap.size w7 W8 := by rw [hW8]; exact (Below.refl _ _).alloc (Nat.le_refl _) _
          have hbl8 : W8.heap[w7.heap.size]? = some (.cells #[.int .u8 0, .int .u8 0, .int .u64 0] 39 (0, 0)) := by rw [hW8]; exact heap_alloc_new w7 _
          have hb68 : Below W6.heap.size W6 W8 := bt hb7' hal8
          have hb8 : Below w.heap.size w W8 := bt hb7 hal8
          rw [← hW8]
          have hz0 : ∀ W, Below W8.heap.size W8 W → W.cell? ⟨w7.heap.size, 0, none⟩ = some (.int .u8 0) := fun W hW => (cells3' hbl8 hW).1
          have hz1 : ∀ W, Below W8.heap.size W8 W → W.cell? ⟨w7.heap.size, 1, none⟩ = some (.int .u8 0) := fun W hW => (cells3' hbl8 hW).2.1
          have hz2 : ∀ W, Below W8.heap.size W8 W → W.cell? ⟨w7.heap.size, 2, none⟩ = some (.int .u64 0) := fun W hW => (cells3' hbl8 hW).2.2
          obtain ⟨BS, hBS⟩ : ∃ BS, BS = strOfNums (b) := ⟨_, rfl⟩
          have hcv : ∀ W, Below W8.heap.size W8 W → (convert 22 9 (.slice (some ⟨bb, off, none⟩) (512) (k))).run Try.prog W = .ok (.string BS) W := fun W hW => by rw [hBS]; exact arg_str HXX.out (bt hb68 hW)
          obtain ⟨x2, hx2⟩ : ∃ x, x = (b).getD 2 0 := ⟨_, rfl⟩
          obtain ⟨x3, hx3⟩ : ∃ x, x = (b).getD 3 0 := ⟨_, rfl⟩
          obtain ⟨g8, hg8⟩ : ∃ x, x = nb (b) 4 8 := ⟨_, rfl⟩
          obtain ⟨RS, hRS⟩ : ∃ RS, RS = strOfNums (pcmR (b)).S := ⟨_, rfl⟩
          have hd2 : ∀ W, Below W8.heap.size W8 W → W.cell? ⟨bb, off + 2, none⟩ = some (.int .u8 x2) := fun W hW => by rw [hx2]; exact ((bt hb68 hW).cell (p := ⟨bb, off + 2, none⟩) HLT.out).trans HC2.out
          have hd3 : ∀ W, Below W8.heap.size W8 W → W.cell? ⟨bb, off + 3, none⟩ = some (.int .u8 x3) := fun W hW => by rw [hx3]; exact ((bt hb68 hW).cell (p := ⟨bb, off + 3, none⟩) HLT.out).trans HC3.out
          have HGE := Lib.hid (show ∀ W, Below W8.heap.size W8 W → Calls Try.prog 18 #[.slice (some ⟨bb, off, none⟩) 512 (k)] W fun e w' => e = .returned (.int .u64 g8) ∧ W = w' from fun W hW => by rw [hg8]; exact gens_any _ _ _ (b) W ⟨HXX.out.1.on (bt hb68 hW), HXX.out.2⟩ (by omega))
          have HRR := Lib.hid (show ∀ W, Below W8.heap.size W8 W → Calls Try.prog 17 #[.int .u8 x2, .int .u8 x3, .int .u64 g8] W fun e w' => e = .returned (.string RS) ∧ Below W8.heap.size W8 w' from fun W hW => by
            rw [hx2, hx3, hg8, hRS]
            exact (HRC.out W (pcmR (b)) HWF.out (bt hb8 hW)).mono fun e w' h => ⟨h.1, bt hW h.2.2⟩)
          have hne : (RS.toList == BS.toList) = false := by rw [hRS, hBS]; exact HRN.out
          have HB8 := Lib.hid hb8
          clear hW8 hal8 hbl8 hb68 hb8 hBS hx2 hx3 hg8 hRS hb7 hb7'
          go_region_held (fun W => Below W8.heap.size W8 W) (first | assumption | exact (Below.refl _ _).drew | (refine Below.drew ?_; assumption))
            (first
              | (go_at_call 18; refine (HGE.out _ (by first | assumption | exact (Below.refl _ _).drew | (refine Below.drew ?_; assumption))).mono ?_; rintro e w9 ⟨rfl, rfl⟩)
              | (go_at_call 17; refine (HRR.out _ (by first | assumption | exact (Below.refl _ _).drew | (refine Below.drew ?_; assumption))).mono ?_; rintro e w9 ⟨rfl, hb9⟩))
          all_goals
            go_wp2_with fail
            go_ret
            exact ⟨rfl, bt HB8.out (by first | assumption | exact (Below.refl _ _).drew)⟩
        · have q5 : ¬ ((L : Nat) : Int) = 512 := by omega
          have H512 := Lib.hid h512
          clear hz hpc3 hxb hbl hbB h512
          go_upto_region 16 with (go_at_call 10; go_loud (refine HP3.out.mono ?_; rintro e w7 ⟨rfl, hb7, hb7'⟩))
          go_quiet (fail)
          go_wp2_with fail
          go_ret
          have hal8 := (bt hb7 ((Below.refl _ w7).alloc (Nat.le_refl _) (.cells #[.int .u8 0, .int .u8 0, .int .u64 0] 39)))
          exact ⟨rfl, bt hal8 (below_drewN (Below.refl _ _) _)⟩
      | some cc =>
        have ho := pcm_one hpc3
        obtain ⟨hl5, hso, hsB, hsR⟩ := pcm_some hpc3
        have HP3 := Lib.hid (HPC.out W6 (a) (L) (k) (b) HXX.out HL6.out hb6)
        rw [ho.1, ho.2] at HP3
        simp only [cmA] at HP3
        have HWF := Lib.hid (show cc.Wf from hsR ▸ pcmR_wf hbB)
        have HSO := Lib.hid hso
        have HSB := Lib.hid hsB
        clear ho hpc3 hxb hbl hbB hl5 hso hsB hsR
        go_upto_region 17 with (go_at_call 10; go_loud (refine HP3.out.mono ?_; rintro e w7 ⟨rfl, hb7, hb7'⟩))
        obtain ⟨W8, hW8⟩ : ∃ W8, W8 = w7.alloc (.cells #[.int .u8 cc.st, .int .u8 cc.n, .int .u64 cc.g] 39) := ⟨_, rfl⟩
        have hal8 : Below w7.heap.size w7 W8 := by rw [hW8]; exact (Below.refl _ _).alloc (Nat.le_refl _) _
        have hbl8 : W8.heap[w7.heap.size]? = some (.cells #[.int .u8 cc.st, .int .u8 cc.n, .int .u64 cc.g] 39 (0, 0)) := by rw [hW8]; exact heap_alloc_new w7 _
        have hb68 : Below W6.heap.size W6 W8 := bt hb7' hal8
        have hb8 : Below w.heap.size w W8 := bt hb7 hal8
        rw [← hW8]
        have hz0 : ∀ W, Below W8.heap.size W8 W → W.cell? ⟨w7.heap.size, 0, none⟩ = some (.int .u8 cc.st) := fun W hW => (cells3' hbl8 hW).1
        have hz1 : ∀ W, Below W8.heap.size W8 W → W.cell? ⟨w7.heap.size, 1, none⟩ = some (.int .u8 cc.n) := fun W hW => (cells3' hbl8 hW).2.1
        have hz2 : ∀ W, Below W8.heap.size W8 W → W.cell? ⟨w7.heap.size, 2, none⟩ = some (.int .u64 cc.g) := fun W hW => (cells3' hbl8 hW).2.2
        obtain ⟨BS, hBS⟩ : ∃ BS, BS = strOfNums (b) := ⟨_, rfl⟩
        have hcv : ∀ W, Below W8.heap.size W8 W → (convert 22 9 (.slice (a) (L) (k))).run Try.prog W = .ok (.string BS) W := fun W hW => by rw [hBS]; exact arg_str HXX.out (bt hb68 hW)
        have HRR := Lib.hid (show ∀ W, Below W8.heap.size W8 W → Calls Try.prog 17 #[.int .u8 cc.st, .int .u8 cc.n, .int .u64 cc.g] W fun e w' => e = .returned (.string BS) ∧ Below W8.heap.size W8 w' from fun W hW => by
          rw [hBS, ← HSB.out, ← (CM.S_ok HSO.out).1]
          exact (HRC.out W cc HWF.out (bt hb8 hW)).mono fun e w' h => ⟨h.1, bt hW h.2.2⟩)
        have hne : (BS.toList == BS.toList) = true := by simp
        have HB8 := Lib.hid hb8
        clear hW8 hal8 hbl8 hb68 hb8 hBS hb7 hb7'
        go_region_held (fun W => Below W8.heap.size W8 W) (first | assumption | exact (Below.refl _ _).drew | (refine Below.drew ?_; assumption))
          (first | (go_at_call 17; refine (HRR.out _ (by first | assumption | exact (Below.refl _ _).drew | (refine Below.drew ?_; assumption))).mono ?_; rintro e w9 ⟨rfl, hb9⟩))
        all_goals
          go_wp2_with fail
          go_ret
          exact ⟨rfl, bt HB8.out (by first | assumption | exact (Below.refl _ _).drew)⟩
end Go.Proofs.Ytadcgngiofdhcaa
