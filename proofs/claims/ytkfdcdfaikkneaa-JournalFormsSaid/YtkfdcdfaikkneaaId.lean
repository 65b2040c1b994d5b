/- The document's commit, the laws' gens and Made. -/
import Derived.Test.YtkfdcdfaikkneaaIc
import Derived.Laws.CopyOwn
import Derived.StillTailTactics
namespace Go.Proofs.Ytkfdcdfaikkneaa
open Go.ChangeShapes Go.WideShapes Go.ChangeAt Go.RowKit Go.Shelf
set_option linter.unusedVariables false
set_option linter.unusedSimpArgs false
set_option maxRecDepth 100000
attribute [local go_sem] Oper.semAt_some

theorem ret_str {l m : List Int} (h : l = m) : Ending.returned (.string (strOfNums l)) = .returned (.string (strOfNums m)) := by rw [h]
def CM.S (c : CM) : List Int := if c.Ok then c.B else []
def madeL (b : List Int) : List Int := b.take 512 ++ List.replicate (512 - b.length) 0
theorem madeL_len (b : List Int) : (madeL b).length = 512 := by unfold madeL; rw [List.length_append, List.length_take, List.length_replicate]; omega
theorem madeL_B {b : List Int} (h : AllB b) : AllB (madeL b) := allB_app2 (h.takeB _) (allB_zeros _)
set_option maxHeartbeats 2000000 in
theorem made_any (a : Option Addr) (n c : Nat) (b : List Int) (w : World) (hx : Arg8c w a n c b) :
    Calls Try.prog 25 #[.slice a n c] w fun e w' => ∃ g, e = .returned (.slice (some ⟨g, 0, none⟩) 512 512) ∧ Arg8c w' (some ⟨g, 0, none⟩) 512 512 (madeL b) ∧ w.heap.size ≤ g ∧ Below w.heap.size w w' := by
  have hmk := run_make_row' (P := Try.prog) 47 5 (.int .u8 0) 1 Try.underlying47 info5 rfl .i64 .i64 512 (by omega) (by omega)
  have hmk : ∀ w : World, (Instr.makeSlice 47 (.int .i64 512) (.int .i64 512)).run Try.prog w = .ok (.slice (some ⟨w.heap.size, 0, none⟩) 512 512) (w.alloc (.cells (madeCells #[.int .u8 0] 512) 5)) := hmk
  have k1 : (w.alloc (.cells (madeCells #[.int .u8 0] 512) 5)).heap[w.heap.size]? = some (.cells (madeCells #[.int .u8 0] 512).toList.toArray 5 (0, 0)) := by rw [Array.toArray_toList]; exact heap_alloc_new w _
  have hbl := hx.1.1
  have k2 : ((b.take 512).map (Value.int .u8)).length = Nat.min n 512 := by rw [List.length_map, List.length_take, hbl]; exact Nat.min_comm _ _
  have k5 : Below w.heap.size w (w.alloc (.cells (madeCells #[.int .u8 0] 512) 5)) := (Below.refl _ _).alloc (Nat.le_refl _) _
  have k3 : 0 < ((b.take 512).map (Value.int .u8)).length → ∃ ad, a = some ad ∧ ∀ j v, ((b.take 512).map (Value.int .u8))[j]? = some v → (w.alloc (.cells (madeCells #[.int .u8 0] 512) 5)).cell? (ad.add j) = some v :=
    fun h0 => ((hx.1.2.2.1.take 512).below k5).cells h0
  have k4 : 0 + ((b.take 512).map (Value.int .u8)).length ≤ (madeCells #[.int .u8 0] 512).toList.length := by
    have e : (madeCells #[Value.int .u8 0] 512).toList.length = 512 := by rw [Array.length_toList, size_madeCells]
    rw [List.length_map, List.length_take, e]; omega
  have K1 := Lib.hid k1; have K2 := Lib.hid k2; have K3 := Lib.hid k3; have HL := Lib.hid hbl
  have HBB := Lib.hid hx.1.2.1
  clear k1 k2 k3 hbl hx
  go_enter Try.func25, Try.ntmps25
  go_wp2_with ((with_reducible show wpList _ _ _ (⟨some 7, _, _, _, _, _⟩ :: _) _ _); refine wpList_copy_splice (o := ⟨some 7, _, _, _, _, _⟩) rfl (.tmp 5) (.tmp 6) 47 47 rfl 5 Try.underlying47 size_u8 (some ⟨w.heap.size, 0, none⟩) a 512 512 n c rfl rfl w.heap.size 0 (madeCells #[.int .u8 0] 512).toList 5 K1.out ((b.take 512).map (Value.int .u8)) K2.out (fun h0 => ⟨rfl, K3.out h0⟩) k4 (ints_oneCell _ _) w.heap.size w k5 (Nat.le_refl _) ?_; intro w1 hg1 hb1)
  go_ret
  have hsp : splice (madeCells #[.int .u8 0] 512).toList 0 ((b.take 512).map (Value.int .u8)) = (madeL b).map (Value.int .u8) := by
    rw [splice_all, replicate_cells, List.length_map, List.length_take]
    unfold madeL
    rw [List.map_append, ← List.map_drop, List.drop_replicate]
    rw [show 512 - min 512 b.length = 512 - b.length by omega]
  refine ⟨w.heap.size, rfl, arg_own (B := 0) ⟨by rw [List.length_map, madeL_len], .inr ⟨w.heap.size, 512, _, rfl, Nat.zero_le _, hg1.out, Nat.le_refl _, by unfold maxLen; omega, ?_, ?_⟩⟩ (madeL_B HBB.out), Nat.le_refl _, hb1⟩
  · rw [hsp]; simp [madeL_len]
  · rw [hsp]; exact List.take_of_length_le (by rw [List.length_map, madeL_len]; omega)
end Go.Proofs.Ytkfdcdfaikkneaa
