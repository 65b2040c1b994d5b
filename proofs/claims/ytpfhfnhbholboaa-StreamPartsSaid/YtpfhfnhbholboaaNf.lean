/- Layer 6: the laws' made and nonce. -/
import Derived.Test.YtpfhfnhbholboaaNe
namespace Go.Proofs.Ytpfhfnhbholboaa
open Go.ChangeShapes Go.WideShapes Go.ChangeAt Go.RowKit
set_option linter.unusedVariables false
set_option maxRecDepth 100000

set_option maxHeartbeats 1000000 in
theorem nonce_any (a : Option Addr) (L cap : Nat) (l : List Int) (w : World) (hx : Arg8 w a L cap l) :
    Calls Try.prog 20 #[.slice a L cap] w fun e w' => ∃ g, e = .returned (.slice (some ⟨g, 0, none⟩) 8 8) ∧
      w'.ownsRow w.heap.size 5 1 (.slice (some ⟨g, 0, none⟩) 8 8) 8 ((padL l 8).map (Value.int .u8)) ∧ Below w.heap.size w w' := by
  obtain ⟨hl, hb8, hb, hc1, hc2⟩ := hx
  have hmk := run_make_row' (P := Try.prog) 22 5 (.int .u8 0) 1 Try.underlying22 info5 rfl .i64 .i64 8 (by omega) (by omega)
  rw [show ((8 : Nat) : Int) = 2 * 4 from rfl] at hmk
  simp only [Int.reduceMul] at hmk
  have k1 : (w.alloc (.cells (madeCells #[.int .u8 0] 8) 5)).heap[w.heap.size]? = some (.cells (madeCells #[.int .u8 0] 8).toList.toArray 5 (0, 0)) := by rw [Array.toArray_toList]; exact heap_alloc_new w _
  have k2 : ((l.take 8).map (Value.int .u8)).length = Nat.min L 8 := by rw [List.length_map, List.length_take, hl]; exact Nat.min_comm _ _
  have k3 : 0 < ((l.take 8).map (Value.int .u8)).length → ∃ ad, a = some ad ∧ ∀ j v, ((l.take 8).map (Value.int .u8))[j]? = some v → (w.alloc (.cells (madeCells #[.int .u8 0] 8) 5)).cell? (ad.add j) = some v :=
    fun h0 => ((hb.take 8).below ((Below.refl _ _).alloc (Nat.le_refl _) _)).cells h0
  have k4 : 0 + ((l.take 8).map (Value.int .u8)).length ≤ (madeCells #[.int .u8 0] 8).toList.length := by simp [hl, size_madeCells]; omega
  have k5 : Below w.heap.size w (w.alloc (.cells (madeCells #[.int .u8 0] 8) 5)) := (Below.refl _ _).alloc (Nat.le_refl _) _
  have K1 := Lib.hid k1; have K2 := Lib.hid k2; have K3 := Lib.hid k3; have HL := Lib.hid hl
  clear k1 k2 k3 hl
  go_enter Try.func20, Try.ntmps20
  go_wp2_with ((with_reducible show wpList _ _ _ (⟨some 7, _, _, _, _, _⟩ :: _) _ _); go_loud (refine wpList_copy_splice (o := ⟨some 7, _, _, _, _, _⟩) rfl (.tmp 5) (.tmp 6) 22 22 rfl 5 Try.underlying22 size_u8 (some ⟨w.heap.size, 0, none⟩) a 8 8 L cap rfl rfl w.heap.size 0 (madeCells #[.int .u8 0] 8).toList 5 K1.out ((l.take 8).map (Value.int .u8)) K2.out (fun h0 => ⟨rfl, K3.out h0⟩) k4 (ints_oneCell _ _) w.heap.size w k5 (Nat.le_refl _) ?_); intro w1 hg1 hb1)
  go_ret
  refine ⟨w.heap.size, rfl, ⟨by rw [List.length_map, length_padL], .inr ⟨w.heap.size, 8, _, rfl, Nat.le_refl _, hg1.out, Nat.le_refl _, by unfold maxLen; omega, ?_, ?_⟩⟩, hb1⟩
  · rw [splice_pad, List.size_toArray, List.length_map, length_padL]
  · rw [splice_pad]
    exact List.take_of_length_le (by rw [List.length_map, length_padL]; omega)
theorem own_le32 {w : World} {base g n : Nat} {l : List Int} (hn : n ≤ 32) (h : w.ownsRow base 5 1 (.slice (some ⟨g, 0, none⟩) n n) n (l.map (Value.int .u8))) (hA : AllB l) : Arg8 w (some ⟨g, 0, none⟩) n n l := Arg8.own h hA ⟨Nat.le_refl _, by unfold maxLen; omega⟩
set_option maxHeartbeats 2000000 in
theorem made_any (a : Option Addr) (L cap : Nat) (l : List Int) (w : World) (hx : Arg8 w a L cap l) :
    Calls Try.prog 18 #[.slice a L cap] w fun e w' => ∃ b g, e = .returned (.tuple #[.pointer (some ⟨b, 0, none⟩), .slice (some ⟨g, 0, none⟩) 16 16]) ∧
      CipK w' b (padL l 16) ∧ Arg8 w' (some ⟨g, 0, none⟩) 16 16 (padL l 16) ∧ Below w.heap.size w w' := by
  have HPB := Lib.hid (allB_padL hx.2.1 16)
  have HPL := Lib.hid (length_padL l 16)
  obtain ⟨hl, hb8, hb, hc1, hc2⟩ := hx
  have hmk := run_make_row' (P := Try.prog) 22 5 (.int .u8 0) 1 Try.underlying22 info5 rfl .i64 .i64 16 (by omega) (by omega)
  rw [show ((16 : Nat) : Int) = 2 * 8 from rfl] at hmk
  simp only [Int.reduceMul] at hmk
  have k1 : (w.alloc (.cells (madeCells #[.int .u8 0] 16) 5)).heap[w.heap.size]? = some (.cells (madeCells #[.int .u8 0] 16).toList.toArray 5 (0, 0)) := by rw [Array.toArray_toList]; exact heap_alloc_new w _
  have k2 : ((l.take 16).map (Value.int .u8)).length = Nat.min L 16 := by rw [List.length_map, List.length_take, hl]; exact Nat.min_comm _ _
  have k3 : 0 < ((l.take 16).map (Value.int .u8)).length → ∃ ad, a = some ad ∧ ∀ j v, ((l.take 16).map (Value.int .u8))[j]? = some v → (w.alloc (.cells (madeCells #[.int .u8 0] 16) 5)).cell? (ad.add j) = some v :=
    fun h0 => ((hb.take 16).below ((Below.refl _ _).alloc (Nat.le_refl _) _)).cells h0
  have k4 : 0 + ((l.take 16).map (Value.int .u8)).length ≤ (madeCells #[.int .u8 0] 16).toList.length := by simp [hl, size_madeCells]; omega
  have k5 : Below w.heap.size w (w.alloc (.cells (madeCells #[.int .u8 0] 16) 5)) := (Below.refl _ _).alloc (Nat.le_refl _) _
  have HSP := Lib.hid (splice_pad l 16)
  have K1 := Lib.hid k1; have K2 := Lib.hid k2; have K3 := Lib.hid k3; have HL := Lib.hid hl
  clear k1 k2 k3 hl
  go_enter Try.func18, Try.ntmps18
  go_upto_region 3 with ((with_reducible show wpList _ _ _ (⟨some 10, _, _, _, _, _⟩ :: _) _ _); go_loud (refine wpList_copy_splice (o := ⟨some 10, _, _, _, _, _⟩) rfl (.tmp 8) (.tmp 9) 22 22 rfl 5 Try.underlying22 size_u8 (some ⟨w.heap.size, 0, none⟩) a 16 16 L cap rfl rfl w.heap.size 0 (madeCells #[.int .u8 0] 16).toList 5 K1.out ((l.take 16).map (Value.int .u8)) K2.out (fun h0 => ⟨rfl, K3.out h0⟩) k4 (ints_oneCell _ _) w.heap.size w k5 (Nat.le_refl _) ?_); intro w1 hg1 hb1)
  have ho : w1.ownsRow w.heap.size 5 1 (.slice (some ⟨w.heap.size, 0, none⟩) 16 16) 16 ((padL l 16).map (Value.int .u8)) := by
    refine ⟨by rw [List.length_map, HPL.out], .inr ⟨w.heap.size, 16, _, rfl, Nat.le_refl _, hg1.out, Nat.le_refl _, by unfold maxLen; omega, ?_, ?_⟩⟩
    · rw [HSP.out, List.size_toArray, List.length_map, HPL.out]
    · rw [HSP.out]
      exact List.take_of_length_le (by rw [List.length_map, HPL.out]; omega)
  have HA1 := Lib.hid (own_le32 (by omega) ho HPB.out)
  have HB1 := Lib.hid hb1
  clear ho hg1 hb1
  obtain ⟨g1, hg1⟩ : ∃ g1, g1 = w.heap.size := ⟨_, rfl⟩
  rw [← hg1]
  rw [← hg1] at HA1
  have HG1 := Lib.hid hg1
  clear hg1 hmk k4 k5 K1 K2 K3 HSP
  go_wp2_with (first
    | (go_at_call 12; (with_reducible refine (new_any _).mono ?_); rintro e w2 ⟨fb, rfl, hb0, hf, hbel⟩; have HF2 := Lib.hid hf; have HB2 := Lib.hid (bt HB1.out hbel); have HA2 := Lib.hid (HA1.out.on hbel); clear hf hb0 hbel)
    | (go_at_call 11; (with_reducible refine (new_arg fb (some ⟨g1, 0, none⟩) 16 16 (padL l 16) w2 HF2.out HA2.out (Or.inl rfl)).mono ?_); rintro e w3 ⟨b, rfl, hc, hb⟩; have HC3 := Lib.hid hc; have HB3 := Lib.hid (bt HB2.out hb); have HA3 := Lib.hid (HA2.out.on hb); clear hc hb))
  go_ret2
  exact ⟨b, g1, rfl, HC3.out, HA3.out, HB3.out⟩
end Go.Proofs.Ytpfhfnhbholboaa
