/- The document's share: its bytes. -/
import Derived.Test.YtadcgngiofdhcaaId
import Derived.Lib.AppendStr
namespace Go.Proofs.Ytadcgngiofdhcaa
open Go.ChangeShapes Go.WideShapes Go.ChangeAt Go.RowKit Go.Shelf
set_option linter.unusedVariables false
set_option linter.unusedSimpArgs false
set_option maxRecDepth 100000
attribute [local go_sem] Oper.semAt_some

theorem strCells_nums {l : List Int} (h : AllB l) : Lib.strCells (strOfNums l) = l.map (Value.int .u8) := by
  unfold Lib.strCells
  rw [strOfNums_data, List.map_map]
  refine List.map_congr_left fun x hx => ?_
  have := h x hx
  simp
  omega
def SH.S (s : SH) : List Int := if s.Ok then s.B else []
def shA (s : SH) : Value := .agg #[.int .u8 s.m, .int .u8 s.p, .int .u32 s.st, .int .u64 s.g, .string (strOfNums s.row)]
theorem SH.B_assoc (m p st g : Int) (row : List Int) : SH.B ⟨m, p, st, g, row⟩ = szL (((([76, 83, m, p] ++ be 4 st) ++ be 8 g) ++ be 2 (row.length : Int)) ++ List.replicate 14 0 ++ row) := by
  unfold SH.B SH.H
  simp only [List.append_assoc]
theorem cell5 {W : World} {b : Nat} {x0 x1 x2 x3 x4 : Value} {T : TypeId} (h : W.heap[b]? = some (.cells #[x0, x1, x2, x3, x4] T (0, 0))) : W.cell? ⟨b, 0, none⟩ = some x0 ∧ W.cell? ⟨b, 1, none⟩ = some x1 ∧ W.cell? ⟨b, 2, none⟩ = some x2 ∧ W.cell? ⟨b, 3, none⟩ = some x3 ∧ W.cell? ⟨b, 4, none⟩ = some x4 :=
  ⟨(cell_of_row _ b 0 _ _ _ h).trans rfl, (cell_of_row _ b 1 _ _ _ h).trans rfl, (cell_of_row _ b 2 _ _ _ h).trans rfl, (cell_of_row _ b 3 _ _ _ h).trans rfl, (cell_of_row _ b 4 _ _ _ h).trans rfl⟩
set_option maxHeartbeats 4000000 in
theorem refShare_any (s : SH) (hw : s.Wf) (hl : s.row.length ≤ 512) (w : World) :
    Calls Try.prog 13 #[shA s] w fun e w' => e = .returned (.string (strOfNums s.S)) ∧ Below w.heap.size w w' := by
  obtain ⟨⟨m0, m1⟩, ⟨p0, p1⟩, ⟨st0, st1⟩, ⟨g0, g1⟩, hB⟩ := hw
  obtain ⟨S, hS⟩ : ∃ S, S = s.S := ⟨_, rfl⟩
  rw [← hS]
  obtain ⟨m, p, st, g, row⟩ := s
  dsimp only at m0 m1 p0 p1 st0 st1 g0 g1 hB hl
  unfold shA
  dsimp only
  obtain ⟨RS, hRS⟩ : ∃ RS, RS = strOfNums row := ⟨_, rfl⟩
  have hsz : RS.size = row.length := by rw [hRS]; exact strOfNums_size row
  have HRC := Lib.hid (show Lib.strCells RS = row.map (Value.int .u8) by rw [hRS]; exact strCells_nums hB)
  rw [← hRS]
  obtain ⟨N, hN⟩ : ∃ N, N = row.length := ⟨_, rfl⟩
  rw [← hN] at hsz hl
  have HN := Lib.hid hN
  have HB := Lib.hid hB
  have hb1 : Below w.heap.size w (w.alloc (.cells #[.int .u8 m, .int .u8 p, .int .u32 st, .int .u64 g, .string RS] 46)) := (Below.refl _ _).alloc (Nat.le_refl _) _
  have hbk := heap_alloc_new w (.cells #[.int .u8 m, .int .u8 p, .int .u32 st, .int .u64 g, .string RS] 46)
  have hcc := cell5 hbk
  have hc0 := hcc.1
  have hc1 := hcc.2.1
  have hc2 := hcc.2.2.1
  have hc3 := hcc.2.2.2.1
  have hc4 := hcc.2.2.2.2
  clear hRS hN hB hcc
  by_cases h1 : 1 < m
  · have HE := Lib.hid (show S = [] by rw [hS]; unfold SH.S; exact if_neg (fun h : SH.Ok _ => by have h3 := h.1; dsimp only at h3; omega))
    clear hS hbk
    go_enter Try.func13, Try.ntmps13
    go_wp2
    go_ret
    exact ⟨by rw [HE.out]; rfl, hb1⟩
  by_cases h2 : p = 0
  · have HE := Lib.hid (show S = [] by rw [hS]; unfold SH.S; exact if_neg (fun h : SH.Ok _ => h.2.1 h2))
    clear hS hbk
    go_enter Try.func13, Try.ntmps13
    go_wp2
    go_ret
    exact ⟨by rw [HE.out]; rfl, by subst h2; exact hb1⟩
  by_cases h3 : 480 < N
  · have HE := Lib.hid (show S = [] by rw [hS]; unfold SH.S; exact if_neg (fun h : SH.Ok _ => by have h4 := h.2.2; dsimp only at h4; have := HN.out; omega))
    have q3 : (480 : Int) < (N : Int) := by omega
    clear hS hbk
    go_enter Try.func13, Try.ntmps13
    go_wp2
    go_ret
    exact ⟨by rw [HE.out]; rfl, hb1⟩
  · have HE := Lib.hid (show S = SH.B ⟨m, p, st, g, row⟩ by rw [hS]; unfold SH.S; exact if_pos (show SH.Ok _ from ⟨by dsimp only; omega, h2, by dsimp only; have := HN.out; omega⟩))
    have q3 : ¬ (480 : Int) < (N : Int) := by omega
    have HN4 := Lib.hid (show N ≤ 480 by omega)
    obtain ⟨i5, hi5, hz5⟩ := Option.map_eq_some_iff.1 info5
    simp only [Prod.mk.injEq] at hz5
    have HI := Lib.hid (And.intro hi5 hz5)
    obtain ⟨w1, hw1⟩ : ∃ w1, w1 = w.alloc (.cells #[.int .u8 m, .int .u8 p, .int .u32 st, .int .u64 g, .string RS] 46) := ⟨_, rfl⟩
    rw [← hw1] at hb1 hbk hc0 hc1 hc2 hc3 hc4
    have HW1 := Lib.hid hw1
    have HCE := Lib.hid (show ∀ W, Below w1.heap.size w1 W → W.cell? ⟨w.heap.size, 2, none⟩ = some (.int .u32 st) ∧ W.cell? ⟨w.heap.size, 3, none⟩ = some (.int .u64 g) ∧ W.cell? ⟨w.heap.size, 4, none⟩ = some (.string RS) from fun W hW => by
      have h := cell5 ((hW.block w.heap.size (Array.getElem?_eq_some_iff.1 hbk).1).trans hbk)
      exact ⟨h.2.2.1, h.2.2.2.1, h.2.2.2.2⟩)
    have HB1 := Lib.hid hb1
    have HO0 := Lib.hid (show (w1.alloc (.cells #[.int .u8 76, .int .u8 83, .int .u8 m, .int .u8 p] 5)).ownsRow w1.heap.size 5 1 (.slice (some ⟨w1.heap.size, 0, none⟩) 4 4) 4 (([76, 83, m, p] : List Int).map (Value.int .u8)) from World.ownsRow_lit (base := w1.heap.size) (e := 5) (size := 1) w1 #[.int .u8 76, .int .u8 83, .int .u8 m, .int .u8 p] 4 (Nat.le_refl _) (by unfold maxLen; omega) rfl)
    obtain ⟨w2, hw2⟩ : ∃ w2, w2 = w1.alloc (.cells #[.int .u8 76, .int .u8 83, .int .u8 m, .int .u8 p] 5) := ⟨_, rfl⟩
    rw [← hw2] at HO0
    have HB2 := Lib.hid (show Below w1.heap.size w1 w2 by rw [hw2]; exact (Below.refl _ _).alloc (Nat.le_refl _) _)
    have HPUT := Lib.hid (show ∀ (n : Nat) (X : Int) (W : World), n ≤ 8 → 0 ≤ X → X < 18446744073709551616 → Below w1.heap.size w1 W → Calls Try.prog 36 #[.int .u64 X, .int .i64 (n : Nat)] W fun e w' => ∃ gg, e = .returned (.slice (some ⟨gg, 0, none⟩) n n) ∧ w'.ownsRow W.heap.size 5 1 (.slice (some ⟨gg, 0, none⟩) n n) n ((be n X).map (Value.int .u8)) ∧ Below W.heap.size W w' ∧ Below w1.heap.size w1 w' from fun n X W hn h0 h1 hW => (refPut n hn X h0 h1 W).mono (by rintro e w' ⟨gg, a1, a2, a3⟩; exact ⟨gg, a1, a2, a3, bt hW a3⟩))
    have HLB := Lib.hid (show ∀ n X, (be n X).length = n from length_be)
    have hNs : (0 : Int) ≤ (N : Int) ∧ (N : Int) < 65536 := by omega
    clear hS hbk hi5 hz5 h3 hb1
    go_enter Try.func13, Try.ntmps13
    go_upto_region 3 with fail
    rw [← hw1]
    have HW2 := Lib.hid hw2
    clear hw1 hw2
    go_upto_region 4 with fail
    rw [← HW2.out]
    have e0 := (HCE.out w2 HB2.out).1
    have e1 := (HCE.out w2 HB2.out).2.1
    have e2 := (HCE.out w2 HB2.out).2.2
    clear hc0 hc1 hc2 hc3 hc4
    go_upto_region 5 with (first
      | (go_at_call 36; (refine (HPUT.out 4 st w2 (by omega) st0 (by omega) HB2.out).mono ?_; rintro e w3 ⟨b3, rfl, ho3, hb3, hbw3⟩; have HO3 := Lib.hid ho3; have HB3 := Lib.hid hb3; have HBW3 := Lib.hid hbw3; clear ho3 hb3 hbw3))
      | ((with_reducible show wpList _ _ _ (⟨some 28, _, _, _, _, _⟩ :: _) _ _); go_loud (refine wpList_append_bs _ rfl (.tmp 23) (.tmp 27) 22 rfl w1.heap.size 5 i5 Try.underlying22 HI.out.1 HI.out.2.1 HI.out.2.2.1 HI.out.2.2.2 _ 4 [76, 83, m, p] rfl (own_blockT2 HO0.out HB3.out) (some ⟨b3, 0, none⟩) 4 4 w3.heap.size (be 4 st) rfl (Bs.of_own HO3.out).1 (HLB.out 4 st) (by simp) (by omega) HBW3.out.size ?_; intro v4 w4 hown4 hg4; have hb4 : Below w1.heap.size w1 w4 := HBW3.out.grown hg4 HBW3.out.size (fun j e => (HO0.out.lt j e).1); have HO4 := Lib.hid hown4; have HB4 := Lib.hid hb4; have e0 := (HCE.out w4 hb4).2.1; have e1 := (HCE.out w4 hb4).2.2; obtain ⟨a4, c4, hv4, -⟩ := own_form hown4; subst hv4; clear hown4 hg4 hb4)))
    go_upto_region 6 with (first
      | (go_at_call 36; (refine (HPUT.out 8 g w4 (by omega) g0 (by omega) HB4.out).mono ?_; rintro e w5 ⟨b5, rfl, ho5, hb5, hbw5⟩; have HO5 := Lib.hid ho5; have HB5 := Lib.hid hb5; have HBW5 := Lib.hid hbw5; clear ho5 hb5 hbw5))
      | ((with_reducible show wpList _ _ _ (⟨some 33, _, _, _, _, _⟩ :: _) _ _); go_loud (refine wpList_append_bs _ rfl (.tmp 29) (.tmp 32) 22 rfl w1.heap.size 5 i5 Try.underlying22 HI.out.1 HI.out.2.1 HI.out.2.2.1 HI.out.2.2.2 _ 8 ([76, 83, m, p] ++ be 4 st) rfl (own_blockT2 HO4.out HB5.out) (some ⟨b5, 0, none⟩) 8 8 w5.heap.size (be 8 g) rfl (Bs.of_own HO5.out).1 (HLB.out 8 g) (by simp) (by omega) HBW5.out.size ?_; intro v6 w6 hown6 hg6; have hb6 : Below w1.heap.size w1 w6 := HBW5.out.grown hg6 HBW5.out.size (fun j e => (HO4.out.lt j e).1); have HO6 := Lib.hid hown6; have HB6 := Lib.hid hb6; have e1 := (HCE.out w6 hb6).2.2; obtain ⟨a6, c6, hv6, -⟩ := own_form hown6; subst hv6; clear hown6 hg6 hb6)))
    go_wp2_with (first
      | (go_at_call 36; (refine (HPUT.out 2 (N : Int) w6 (by omega) (by omega) (by omega) HB6.out).mono ?_; rintro e w7 ⟨b7, rfl, ho7, hb7, hbw7⟩; have HO7 := Lib.hid ho7; have HB7 := Lib.hid hb7; have HBW7 := Lib.hid hbw7; clear ho7 hb7 hbw7))
      | ((with_reducible show wpList _ _ _ (⟨some 40, _, _, _, _, _⟩ :: _) _ _); go_loud (refine wpList_append_bs _ rfl (.tmp 34) (.tmp 39) 22 rfl w1.heap.size 5 i5 Try.underlying22 HI.out.1 HI.out.2.1 HI.out.2.2.1 HI.out.2.2.2 _ 16 (([76, 83, m, p] ++ be 4 st) ++ be 8 g) rfl (own_blockT2 HO6.out HB7.out) (some ⟨b7, 0, none⟩) 2 2 w7.heap.size (be 2 (N : Int)) rfl (Bs.of_own HO7.out).1 (HLB.out 2 (N : Int)) (by simp) (by omega) HBW7.out.size ?_; intro v8 w8 hown8 hg8; have hb8 : Below w1.heap.size w1 w8 := HBW7.out.grown hg8 HBW7.out.size (fun j e => (HO6.out.lt j e).1); have HO8 := Lib.hid hown8; have HB8 := Lib.hid hb8; obtain ⟨a8, c8, hv8, -⟩ := own_form hown8; subst hv8; clear hown8 hg8 hb8)))
    try clear e0
    try clear e1
    try clear e2
    obtain ⟨l8, hl8⟩ : ∃ l8, l8 = (([76, 83, m, p] ++ be 4 st) ++ be 8 g) ++ be 2 (N : Int) := ⟨_, rfl⟩
    rw [← hl8] at HO8
    have HL8 := Lib.hid hl8
    clear hl8
    go_loopw [3] (fun v wr => ∃ (k mm : Nat) (a : Option Addr) (c : Nat), k ≤ 14 ∧ mm = 18 + k ∧ v = .slice a mm c ∧ wr.ownsRow w1.heap.size 5 1 (.slice a mm c) mm ((l8 ++ List.replicate k 0).map (Value.int .u8)) ∧ Below w1.heap.size w1 wr)
      (fun v _ => match v with | .slice _ m _ => 32 - m | _ => 0)
    case atStart => exact ⟨0, 18, a8, c8, by omega, rfl, rfl, by rw [List.replicate_zero, List.append_nil]; exact HO8.out, HB8.out⟩
    case round =>
      obtain ⟨k, mm, ak, ck, hk, hm, rfl, ho, hB⟩ := hrel
      have HM := Lib.hid hm
      have HO := Lib.hid ho
      have HBk := Lib.hid hB
      have e1 := (HCE.out wr hB).2.2
      by_cases hlt : mm < 32
      · have q1 : (mm : Int) < 32 := by omega
        have HSRC := Lib.hid (show Bs (wr.alloc (.cells #[.int .u8 0] 5)) (wr.heap.size + 1) (some ⟨wr.heap.size, 0, none⟩) [0] from fun h0 => ⟨wr.heap.size, 0, rfl, by omega, fun j hj => by
          obtain rfl : j = 0 := by simp at hj; omega
          rw [cell_of_row _ _ _ _ _ _ (heap_alloc_new wr _)]; rfl⟩)
        have HBL := Lib.hid (show Below wr.heap.size wr (wr.alloc (.cells #[.int .u8 0] 5)) from (Below.refl _ _).alloc (Nat.le_refl _) _)
        clear hm ho hB
        go_wp2_with ((with_reducible show wpList _ _ _ (⟨some 46, _, _, _, _, _⟩ :: _) _ _); go_loud (refine wpList_append_bs _ rfl (.tmp 44) (.tmp 45) 22 rfl w1.heap.size 5 i5 Try.underlying22 HI.out.1 HI.out.2.1 HI.out.2.2.1 HI.out.2.2.2 _ mm (l8 ++ List.replicate k 0) rfl (HO.out.alloc _) (some ⟨wr.heap.size, 0, none⟩) 1 1 (wr.heap.size + 1) [0] rfl HSRC.out rfl (by simp) (by omega) (by have := HBk.out.size; simp; omega) ?_; intro v9 w9 hown9 hg9; have hb9 : Below w1.heap.size w1 w9 := (bt HBk.out HBL.out).grown hg9 (by have := HBk.out.size; simp; omega) (fun j e => (HO.out.lt j e).1); have HO9 := Lib.hid hown9; have HB9 := Lib.hid hb9; obtain ⟨a9, c9, hv9, -⟩ := own_form hown9; subst hv9; clear hown9 hg9 hb9))
        go_roundw
        case rel =>
          refine ⟨k + 1, mm + 1, a9, c9, by have := HM.out; omega, by have := HM.out; omega, rfl, ?_, HB9.out⟩
          have h := HO9.out
          rw [zeros_next] at h
          exact h
        case measure => simp; omega
      · obtain rfl : mm = 32 := by omega
        obtain rfl : k = 14 := by omega
        obtain ⟨LF, hLF⟩ : ∃ LF, LF = l8 ++ List.replicate 14 0 ++ row := ⟨_, rfl⟩
        have HLF := Lib.hid hLF
        clear hm ho hB hLF
        go_wp2_with (first
          | ((with_reducible show wpList _ _ _ (⟨some 50, _, _, _, _, _⟩ :: _) _ _); go_loud (refine Lib.wpList_append_own_string _ rfl (.tmp 47) (.tmp 49) 22 9 rfl w1.heap.size 5 i5 Try.underlying22 Try.underlying9 HI.out.1 HI.out.2.1 HI.out.2.2.1 HI.out.2.2.2 (.slice ak 32 ck) 32 ((l8 ++ List.replicate 14 0).map (Value.int .u8)) rfl HO.out RS rfl (by rw [hsz]; unfold maxLen; omega) (by rw [hsz]; omega) HBk.out.size ?_; intro v9 w9 hown9 hg9 _; rw [hsz, HRC.out, ← List.map_append, ← HLF.out] at hown9; have hb9 : Below w1.heap.size w1 w9 := HBk.out.grown hg9 HBk.out.size (fun j e => (HO.out.lt j e).1); have HO9 := Lib.hid hown9; have HB9 := Lib.hid hb9; obtain ⟨a9, c9, hv9, -⟩ := own_form hown9; subst hv9; clear hown9 hg9 hb9))
          | (go_at_call 37; go_loud (refine (sized_any a9 (32 + N) c9 w1.heap.size _ w9 HO9.out (by have := HN4.out; omega) HB9.out.size).mono ?_; rintro e w10 ⟨rfl, hb10⟩; have HB10 := Lib.hid hb10; clear hb10)))
        go_ret
        refine ⟨?_, bt HB1.out (HB9.out.trans HB10.out)⟩
        rw [HE.out, SH.B_assoc, ← HN.out, ← HL8.out, ← HLF.out]
        rfl
end Go.Proofs.Ytadcgngiofdhcaa
