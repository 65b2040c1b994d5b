/- The document's commit, the laws' gens and Made. -/
import Derived.Test.YtadcgngiofdhcaaIc
import Derived.Laws.CopyOwn
import Derived.StillTailTactics
namespace Go.Proofs.Ytadcgngiofdhcaa
open Go.ChangeShapes Go.WideShapes Go.ChangeAt Go.RowKit Go.Shelf
set_option linter.unusedVariables false
set_option linter.unusedSimpArgs false
set_option maxRecDepth 100000
attribute [local go_sem] Oper.semAt_some

theorem ret_str {l m : List Int} (h : l = m) : Ending.returned (.string (strOfNums l)) = .returned (.string (strOfNums m)) := by rw [h]
def CM.S (c : CM) : List Int := if c.Ok then c.B else []
set_option maxHeartbeats 2000000 in
theorem refCommit_any (c : CM) (hw : c.Wf) (w : World) :
    Calls Try.prog 17 #[.int .u8 c.st, .int .u8 c.n, .int .u64 c.g] w fun e w' => e = .returned (.string (strOfNums c.S)) ∧ Below w.heap.size w w' := by
  obtain ⟨⟨s0, s1⟩, ⟨n0, n1⟩, g0, g1⟩ := hw
  obtain ⟨S, hS⟩ : ∃ S, S = c.S := ⟨_, rfl⟩
  have HS := Lib.hid hS
  rw [← hS]
  obtain ⟨st, n, g⟩ := c
  dsimp only at s0 s1 n0 n1 g0 g1 ⊢
  by_cases h1 : 2 < st
  · have HE := Lib.hid (show S = [] by rw [hS]; unfold CM.S; exact if_neg (fun h : CM.Ok ⟨st, n, g⟩ => by have h3 := h.1; have h4 := h.2; dsimp only at h3 h4; omega))
    clear hS
    go_enter Try.func17, Try.ntmps17
    go_wp2
    go_ret
    exact ⟨by rw [HE.out]; rfl, Below.refl _ _⟩
  by_cases h2 : 16 < n
  · have HE := Lib.hid (show S = [] by rw [hS]; unfold CM.S; exact if_neg (fun h : CM.Ok ⟨st, n, g⟩ => by have h3 := h.1; have h4 := h.2; dsimp only at h3 h4; omega))
    clear hS
    go_enter Try.func17, Try.ntmps17
    go_wp2
    go_ret
    exact ⟨by rw [HE.out]; rfl, Below.refl _ _⟩
  · have HE := Lib.hid (show S = szL ([76, 67, st, n] ++ be 8 g) by rw [hS]; unfold CM.S; exact if_pos (show CM.Ok ⟨st, n, g⟩ from ⟨by dsimp only; omega, by dsimp only; omega⟩))
    obtain ⟨i5, hi5, hz5⟩ := Option.map_eq_some_iff.1 info5
    simp only [Prod.mk.injEq] at hz5
    have HI := Lib.hid (And.intro hi5 hz5)
    have HO := Lib.hid (show (w.alloc (.cells #[.int .u8 76, .int .u8 67, .int .u8 st, .int .u8 n] 5)).ownsRow w.heap.size 5 1 (.slice (some ⟨w.heap.size, 0, none⟩) 4 4) 4 (([76, 67, st, n] : List Int).map (Value.int .u8)) from World.ownsRow_lit (base := w.heap.size) (e := 5) (size := 1) w #[.int .u8 76, .int .u8 67, .int .u8 st, .int .u8 n] 4 (Nat.le_refl _) (by unfold maxLen; omega) rfl)
    have HBL := Lib.hid (show Below w.heap.size w (w.alloc (.cells #[.int .u8 76, .int .u8 67, .int .u8 st, .int .u8 n] 5)) from (Below.refl _ _).alloc (Nat.le_refl _) _)
    have HP := Lib.hid (refPut 8 (by omega) g g0 g1 (w.alloc (.cells #[.int .u8 76, .int .u8 67, .int .u8 st, .int .u8 n] 5)))
    have HLB := Lib.hid (length_be 8 g)
    clear hS hi5 hz5
    go_enter Try.func17, Try.ntmps17
    go_wp2_with (first
      | (go_at_call 36; go_loud (refine HP.out.mono ?_; rintro e w1 ⟨g1, rfl, ho1, hb1⟩; have HO1 := Lib.hid ho1; have HB1 := Lib.hid hb1; clear ho1 hb1))
      | (go_at_call 37; go_loud (refine (sized_any a2 12 c2 w.heap.size ([76, 67, st, n] ++ be 8 g) w2 HO2.out (by omega) HB2.out.size).mono ?_; rintro e w3 ⟨rfl, hb3⟩; have HB3 := Lib.hid hb3; clear hb3))
      | ((with_reducible show wpList _ _ _ (⟨some 18, _, _, _, _, _⟩ :: _) _ _); go_loud (refine wpList_append_bs _ rfl (.tmp 15) (.tmp 17) 22 rfl w.heap.size 5 i5 Try.underlying22 HI.out.1 HI.out.2.1 HI.out.2.2.1 HI.out.2.2.2 _ 4 [76, 67, st, n] rfl (own_blockT2 HO.out HB1.out) (some ⟨g1, 0, none⟩) 8 8 w1.heap.size (be 8 g) rfl (Bs.of_own HO1.out).1 HLB.out (by simp) (by omega) (by have := HBL.out.size; have := HB1.out.size; omega) ?_; intro v2 w2 hown2 hg2; have hb2 : Below w.heap.size w w2 := (bt HBL.out HB1.out).grown hg2 (by have := HBL.out.size; have := HB1.out.size; omega) (fun j e => (HO.out.lt j e).1); have HO2 := Lib.hid hown2; have HB2 := Lib.hid hb2; obtain ⟨a2, c2, hv2, -⟩ := own_form hown2; subst hv2; clear hown2 hg2 hb2)))
    go_ret
    exact ⟨by rw [HE.out]; rfl, HB2.out.trans HB3.out⟩
set_option maxHeartbeats 2000000 in
theorem gens_any (a : Option Addr) (n c : Nat) (b : List Int) (w : World) (hx : Arg8c w a n c b) (hn : 12 ≤ n) :
    Calls Try.prog 18 #[.slice a n c] w fun e w' => e = .returned (.int .u64 (nb b 4 8)) ∧ w = w' := by
  have hl : b.length = n := hx.1.1
  have hB := hx.1.2.1
  obtain ⟨bb, off, rfl, hlt, hc⟩ := hx.1.2.2.1 (by omega)
  have HC := Lib.hid hc
  have HD := Lib.hid (show nb b 4 8 = numB ((b.drop 4).take 8) by unfold nb; rw [getV_num (by rw [List.length_drop]; omega)])
  have HBD := Lib.hid (hB.dropB 4)
  have HL := Lib.hid hl
  have hnc := hx.1.2.2.2
  unfold maxLen at hnc
  have q1 : ¬ c = 4 := by omega
  have q2 : (12 : Int) ≤ (c : Int) := by omega
  clear hx hB hc hl
  go_enter Try.func18, Try.ntmps18
  go_wp2
  go_loop [3, 9] (fun v i => ∃ j : Nat, j ≤ 8 ∧ i = .int .i64 (j : Nat) ∧ v = .int .u64 (numB ((b.drop 4).take j))) (fun _ i => 8 - (intOf i).toNat)
  case atStart => exact ⟨0, by omega, rfl, rfl⟩
  case round =>
    obtain ⟨j, hj, rfl, rfl⟩ := hrel
    obtain ⟨S, hS⟩ : ∃ S, S = numB ((b.drop 4).take j) := ⟨_, rfl⟩
    have hbd := numB_bound (HBD.out.takeB j)
    rw [List.length_take, Nat.min_eq_left (by rw [List.length_drop, HL.out]; omega), ← hS] at hbd
    rw [← hS]
    by_cases hlt8 : j < 8
    · have hp := pow_le_56 hlt8 (by omega)
      have hcj : w.cell? ⟨bb, off + 4 + j, none⟩ = some (.int .u8 (b.getD (4 + j) 0)) := by
        rw [show off + 4 + j = off + (4 + j) by omega]; exact HC.out (4 + j) (by rw [HL.out]; omega)
      have HN := Lib.hid (numB_take_succ (l := b.drop 4) (k := j) (by rw [List.length_drop, HL.out]; omega))
      have hg : (b.drop 4).getD j 0 = b.getD (4 + j) 0 := by simp [List.getD_eq_getElem?_getD, List.getElem?_drop]
      rw [hg, ← hS] at HN
      have hxb : byteI ((b.drop 4).getD j 0) := byte_getD HBD.out j
      rw [hg] at hxb
      obtain ⟨X, hX⟩ : ∃ X, X = b.getD (4 + j) 0 := ⟨_, rfl⟩
      rw [← hX] at hcj HN hxb
      have HS := Lib.hid hS
      have s0 : 0 ≤ S := hbd.1
      have s1 : S < 72057594037927936 := by omega
      have x0 : 0 ≤ X := hxb.1
      have x1 : X < 256 := hxb.2
      have q3 : (j : Int) < 8 := by omega
      clear hX hS hbd hp hg hxb
      go_wp2
      go_round
      case rel => exact ⟨j + 1, by omega, by go_num, by rw [HN.out]⟩
      case measure => simp [intOf] <;> omega
    · obtain rfl : 8 = j := by omega
      have HS := Lib.hid hS
      clear hS hbd
      go_wp2
      go_ret
      exact ⟨by rw [HD.out, ← HS.out]; rfl, rfl⟩
def madeL (b : List Int) : List Int := b.take 512 ++ List.replicate (512 - b.length) 0
theorem madeL_len (b : List Int) : (madeL b).length = 512 := by unfold madeL; rw [List.length_append, List.length_take, List.length_replicate]; omega
theorem madeL_B {b : List Int} (h : AllB b) : AllB (madeL b) := allB_app2 (h.takeB _) (allB_zeros _)
set_option maxHeartbeats 2000000 in
theorem made_any (a : Option Addr) (n c : Nat) (b : List Int) (w : World) (hx : Arg8c w a n c b) :
    Calls Try.prog 7 #[.slice a n c] w fun e w' => ∃ g, e = .returned (.slice (some ⟨g, 0, none⟩) 512 512) ∧ Arg8c w' (some ⟨g, 0, none⟩) 512 512 (madeL b) ∧ w.heap.size ≤ g ∧ Below w.heap.size w w' := by
  have hmk := run_make_row' (P := Try.prog) 22 5 (.int .u8 0) 1 Try.underlying22 info5 rfl .i64 .i64 512 (by omega) (by omega)
  have hmk : ∀ w : World, (Instr.makeSlice 22 (.int .i64 512) (.int .i64 512)).run Try.prog w = .ok (.slice (some ⟨w.heap.size, 0, none⟩) 512 512) (w.alloc (.cells (madeCells #[.int .u8 0] 512) 5)) := hmk
  have k1 : (w.alloc (.cells (madeCells #[.int .u8 0] 512) 5)).heap[w.heap.size]? = some (.cells (madeCells #[.int .u8 0] 512).toList.toArray 5 (0, 0)) := by rw [Array.toArray_toList]; exact heap_alloc_new w _
  have hbl := hx.1.1
  have k2 : ((b.take 512).map (Value.int .u8)).length = Nat.min n 512 := by rw [List.length_map, List.length_take, hbl]; exact Nat.min_comm _ _
  have k5 : Below w.heap.size w (w.alloc (.cells (madeCells #[.int .u8 0] 512) 5)) := (Below.refl _ _).alloc (Nat.le_refl _) _
  have k3 : 0 < ((b.take 512).map (Value.int .u8)).length → ∃ ad, a = some ad ∧ ∀ j v, ((b.take 512).map (Value.int .u8))[j]? = some v → (w.alloc (.cells (madeCells #[.int .u8 0] 512) 5)).cell? (ad.add j) = some v :=
    fun h0 => ((hx.1.2.2.1.take 512).below k5).cells h0
  have k4 : 0 + ((b.take 512).map (Value.int .u8)).length ≤ (madeCells #[.int .u8 0] 512).toList.length := by
    have e : (madeCells #[Value.int .u8 0] 512).toList.length = 512 := by rw [Array.length_toList, size_madeCells]
    rw [List.length_map, List.length_take, e]; omega
  have K1 := Lib.hid k1; have K2 := Lib.hid k2; have K3 := Lib.hid k3; have HL := Lib.hid hbl
  have HBB := Lib.hid hx.1.2.1
  clear k1 k2 k3 hbl hx
  go_enter Try.func7, Try.ntmps7
  go_wp2_with ((with_reducible show wpList _ _ _ (⟨some 7, _, _, _, _, _⟩ :: _) _ _); refine wpList_copy_splice (o := ⟨some 7, _, _, _, _, _⟩) rfl (.tmp 5) (.tmp 6) 22 22 rfl 5 Try.underlying22 size_u8 (some ⟨w.heap.size, 0, none⟩) a 512 512 n c rfl rfl w.heap.size 0 (madeCells #[.int .u8 0] 512).toList 5 K1.out ((b.take 512).map (Value.int .u8)) K2.out (fun h0 => ⟨rfl, K3.out h0⟩) k4 (ints_oneCell _ _) w.heap.size w k5 (Nat.le_refl _) ?_; intro w1 hg1 hb1)
  go_ret
  have hsp : splice (madeCells #[.int .u8 0] 512).toList 0 ((b.take 512).map (Value.int .u8)) = (madeL b).map (Value.int .u8) := by
    rw [splice_all, replicate_cells, List.length_map, List.length_take]
    unfold madeL
    rw [List.map_append, ← List.map_drop, List.drop_replicate]
    rw [show 512 - min 512 b.length = 512 - b.length by omega]
  refine ⟨w.heap.size, rfl, arg_own (B := 0) ⟨by rw [List.length_map, madeL_len], .inr ⟨w.heap.size, 512, _, rfl, Nat.zero_le _, hg1.out, Nat.le_refl _, by unfold maxLen; omega, ?_, ?_⟩⟩ (madeL_B HBB.out), Nat.le_refl _, hb1⟩
  · rw [hsp]; simp [madeL_len]
  · rw [hsp]; exact List.take_of_length_le (by rw [List.length_map, madeL_len]; omega)
end Go.Proofs.Ytadcgngiofdhcaa
