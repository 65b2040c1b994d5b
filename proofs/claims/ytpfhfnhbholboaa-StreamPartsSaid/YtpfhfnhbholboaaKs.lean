/- The cipher's contracts in the laws' words; blocks and squares; the laws' key. -/
import Derived.Test.YtpfhfnhbholboaaKq
import Derived.Test.YtpfhfnhbholboaaKl
import Derived.Test.YtpfhfnhbholboaaKx
namespace Go.Proofs.Ytpfhfnhbholboaa
open Go.ChangeShapes Go.WideShapes Go.ChangeAt Go.RowKit
set_option linter.unusedVariables false
set_option maxRecDepth 100000

theorem outL_congr {S T : Nat → Nat → Nat} (h : Same S T) : outL S 4 = outL T 4 := by
  simp only [outL, colL, h 0 0 (by omega) (by omega), h 0 1 (by omega) (by omega), h 0 2 (by omega) (by omega), h 0 3 (by omega) (by omega), h 1 0 (by omega) (by omega), h 1 1 (by omega) (by omega), h 1 2 (by omega) (by omega), h 1 3 (by omega) (by omega),
    h 2 0 (by omega) (by omega), h 2 1 (by omega) (by omega), h 2 2 (by omega) (by omega), h 2 3 (by omega) (by omega), h 3 0 (by omega) (by omega), h 3 1 (by omega) (by omega), h 3 2 (by omega) (by omega), h 3 3 (by omega) (by omega)]
theorem getD_colL (f : Nat → Nat) {r : Nat} (hr : r < 4) : (colL f).getD r 0 = ((f r : Nat) : Int) := by
  rcases lt4 hr with rfl | rfl | rfl | rfl <;> rfl
theorem getD_outL (S : Nat → Nat → Nat) {c r : Nat} (hr : r < 4) : ∀ i, c < i → (outL S i).getD (4 * c + r) 0 = ((S c r : Nat) : Int)
  | 0, h => by omega
  | i + 1, h => by
    rw [outL, List.getD_eq_getElem?_getD]
    by_cases e : c = i
    · subst e
      rw [List.getElem?_append_right (by rw [length_outL]; omega), length_outL, show 4 * c + r - 4 * c = r by omega, ← List.getD_eq_getElem?_getD, getD_colL _ hr]
    · rw [List.getElem?_append_left (by rw [length_outL]; omega), ← List.getD_eq_getElem?_getD]
      exact getD_outL S hr i (by omega)
theorem kw_outL (S : Nat → Nat → Nat) : Same (kw (outL S 4)) S := fun c r hc hr => by
  unfold kw
  rw [getD_outL S hr 4 hc, Int.toNat_natCast]
theorem allB_outL {S : Nat → Nat → Nat} (hS : SqB S) : ∀ i, AllB (outL S i)
  | 0 => fun x hx => by cases hx
  | i + 1 => fun x hx => by
    rcases List.mem_append.1 hx with h | h
    · exact allB_outL hS i x h
    · have h0 := hS i 0; have h1 := hS i 1; have h2 := hS i 2; have h3 := hS i 3
      simp only [colL, List.mem_cons, List.not_mem_nil, or_false] at h
      rcases h with rfl | rfl | rfl | rfl <;> omega
theorem outL_kw {l : List Int} (hl : l.length = 16) (hA : AllB l) : outL (kw l) 4 = l := by
  refine list_ext_getD (by rw [length_outL, hl]) (fun i hi => ?_)
  rw [length_outL] at hi
  have h := getD_outL (kw l) (c := i / 4) (r := i % 4) (by omega) 4 (by omega)
  rw [show 4 * (i / 4) + i % 4 = i by omega] at h
  rw [h]
  unfold kw
  rw [show 4 * (i / 4) + i % 4 = i by omega]
  have := allB_getD hA i
  omega
/-- A block, encrypted and decrypted. -/
def encL (n : Nat) (W : Nat → Nat → Nat) (l : List Int) : List Int := outL (enc W n (kw l)) 4
def decL (n : Nat) (W : Nat → Nat → Nat) (l : List Int) : List Int := outL (dec W n (kw l)) 4
theorem length_encL (n : Nat) (W : Nat → Nat → Nat) (l : List Int) : (encL n W l).length = 16 := length_outL _ 4
theorem length_decL (n : Nat) (W : Nat → Nat → Nat) (l : List Int) : (decL n W l).length = 16 := length_outL _ 4
theorem allB_encL {W : Nat → Nat → Nat} (hW : SqB W) (n : Nat) (l : List Int) : AllB (encL n W l) := allB_outL (enc_bd n _ hW) 4
theorem allB_decL {W : Nat → Nat → Nat} (hW : SqB W) (n : Nat) (l : List Int) : AllB (decL n W l) := allB_outL (dec_bd n _ hW) 4
theorem enc_decL {W : Nat → Nat → Nat} (hW : SqB W) (n : Nat) {l : List Int} (hl : l.length = 16) (hA : AllB l) : encL n W (decL n W l) = l := by
  unfold encL decL
  rw [outL_congr ((Same.enc (kw_outL _) W n).trans (enc_dec hW (kw_lt hA) n)), outL_kw hl hA]
theorem dec_encL {W : Nat → Nat → Nat} (hW : SqB W) (n : Nat) {l : List Int} (hl : l.length = 16) (hA : AllB l) : decL n W (encL n W l) = l := by
  unfold encL decL
  rw [outL_congr ((Same.dec (kw_outL _) W n).trans (dec_enc hW (kw_lt hA) n)), outL_kw hl hA]
theorem encL_inj {W : Nat → Nat → Nat} (hW : SqB W) (n : Nat) {l m : List Int} (hl : l.length = 16) (hA : AllB l) (hm : m.length = 16) (hB : AllB m) (h : encL n W l = encL n W m) : l = m := by
  rw [← dec_encL hW n hl hA, h, dec_encL hW n hm hB]
/-- The words of a key's round keys. -/
def keyW (l : List Int) : Nat → Nat → Nat := kx (l.length / 4) (kw l) (3 * (l.length / 4) + 28)
theorem keyW_bd {l : List Int} (hA : AllB l) : SqB (keyW l) := kx_bd _ (kw_lt hA) _
/-- Cip, with the number of its rounds. -/
def CipK (w : World) (b : Nat) (l : List Int) : Prop := Cip w b (l.length / 4 + 6) (keyW l)
theorem CipK.on {w w' : World} {b : Nat} {l : List Int} (h : CipK w b l) (hb : Below w.heap.size w w') : CipK w' b l := Cip.on h hb
theorem new_arg (fb : Nat) (a : Option Addr) (L c : Nat) (l : List Int) (w : World) (hf : Fld w fb) (hx : Arg8 w a L c l) (hL : L = 16 ∨ L = 32) :
    Calls Try.prog 11 #[.pointer (some ⟨fb, 0, none⟩), .slice a L c] w fun e w' => ∃ b, e = .returned (.tuple #[.pointer (some ⟨b, 0, none⟩), .int .i64 0]) ∧ CipK w' b l ∧ Below w.heap.size w w' := by
  obtain ⟨hl, hA, hb, hc, hm⟩ := hx
  obtain ⟨ba, oa, rfl, _⟩ := hb (by omega)
  unfold maxLen at hm
  unfold CipK keyW
  rw [hl]
  rcases hL with rfl | rfl
  · exact new_4 fb 4 ba oa c l w hf rfl hl hA hb hc hm
  · exact new_8 fb 8 ba oa c l w hf rfl hl hA hb hc hm
theorem enc_arg (b : Nat) (k : List Int) (a : Option Addr) (c : Nat) (l : List Int) (w : World) (h : CipK w b k) (hk : k.length = 16 ∨ k.length = 32) (hK : AllB k) (hx : Arg8 w a 16 c l) :
    Calls Try.prog 13 #[.pointer (some ⟨b, 0, none⟩), .slice a (16 : Nat) c] w fun e w' => ∃ g, e = .returned (.tuple #[.slice (some ⟨g, 0, none⟩) 16 16, .int .i64 0]) ∧ w'.ownsRow w.heap.size 5 1 (.slice (some ⟨g, 0, none⟩) 16 16) 16 ((encL (k.length / 4 + 6) (keyW k) l).map (Value.int .u8)) ∧ Below w.heap.size w w' := by
  obtain ⟨hl, hA, hb, hc, hm⟩ := hx
  obtain ⟨ba, oa, rfl, _⟩ := hb (by omega)
  unfold maxLen at hm
  refine (encrypt_ok b (k.length / 4 + 6) (keyW k) (keyW_bd hK) (by omega) (by omega) ba oa c l w h hl hA hb hc hm).mono ?_
  rintro e w' ⟨a, rfl, ho, hbe⟩
  obtain ⟨g, cap, hv, _⟩ := ho.form (by omega)
  cases hv
  exact ⟨g, rfl, ho, hbe⟩
theorem dec_arg (b : Nat) (k : List Int) (a : Option Addr) (c : Nat) (l : List Int) (w : World) (h : CipK w b k) (hk : k.length = 16 ∨ k.length = 32) (hK : AllB k) (hx : Arg8 w a 16 c l) :
    Calls Try.prog 14 #[.pointer (some ⟨b, 0, none⟩), .slice a (16 : Nat) c] w fun e w' => ∃ g, e = .returned (.tuple #[.slice (some ⟨g, 0, none⟩) 16 16, .int .i64 0]) ∧ w'.ownsRow w.heap.size 5 1 (.slice (some ⟨g, 0, none⟩) 16 16) 16 ((decL (k.length / 4 + 6) (keyW k) l).map (Value.int .u8)) ∧ Below w.heap.size w w' := by
  obtain ⟨hl, hA, hb, hc, hm⟩ := hx
  obtain ⟨ba, oa, rfl, _⟩ := hb (by omega)
  unfold maxLen at hm
  refine (decrypt_ok b (k.length / 4 + 6) (keyW k) (keyW_bd hK) (by omega) (by omega) ba oa c l w h hl hA hb hc hm).mono ?_
  rintro e w' ⟨a, rfl, ho, hbe⟩
  obtain ⟨g, cap, hv, _⟩ := ho.form (by omega)
  cases hv
  exact ⟨g, rfl, ho, hbe⟩
/-- The bytes that a law makes a key of. -/
def padL (l : List Int) (N : Nat) : List Int := l.take N ++ List.replicate (N - l.length) 0
theorem length_padL (l : List Int) (N : Nat) : (padL l N).length = N := by simp [padL]; omega
theorem allB_padL {l : List Int} (h : AllB l) (N : Nat) : AllB (padL l N) := fun x hx => by
  rcases List.mem_append.1 hx with h1 | h1
  · exact h x (List.mem_of_mem_take h1)
  · obtain ⟨_, rfl⟩ := List.mem_replicate.1 h1; omega
def keyN (t : Bool) : Nat := if t then 32 else 16
theorem splice_pad (l : List Int) (N : Nat) : splice (madeCells #[Value.int .u8 0] N).toList 0 ((l.take N).map (Value.int .u8)) = (padL l N).map (Value.int .u8) := by
  rw [splice_all, replicate_cells, padL, List.map_append, ← List.map_drop, List.drop_replicate, List.length_map, List.length_take, show N - min N l.length = N - l.length by omega]
set_option maxHeartbeats 1000000 in
theorem key_16 (a : Option Addr) (L cap : Nat) (l : List Int) (w : World) (hx : Arg8 w a L cap l) :
    Calls Try.prog 10 #[.slice a L cap, .bool false] w fun e w' => ∃ g, e = .returned (.slice (some ⟨g, 0, none⟩) 16 16) ∧
      w'.ownsRow w.heap.size 5 1 (.slice (some ⟨g, 0, none⟩) 16 16) 16 ((padL l 16).map (Value.int .u8)) ∧ Below w.heap.size w w' := by
  obtain ⟨hl, hb8, hb, hc1, hc2⟩ := hx
  have hmk := run_make_row' (P := Try.prog) 22 5 (.int .u8 0) 1 Try.underlying22 info5 rfl .i64 .i64 16 (by omega) (by omega)
  rw [show ((16 : Nat) : Int) = 2 * 8 from rfl] at hmk
  simp only [Int.reduceMul] at hmk
  have k1 : (w.alloc (.cells (madeCells #[.int .u8 0] 16) 5)).heap[w.heap.size]? = some (.cells (madeCells #[.int .u8 0] 16).toList.toArray 5 (0, 0)) := by rw [Array.toArray_toList]; exact heap_alloc_new w _
  have k2 : ((l.take 16).map (Value.int .u8)).length = Nat.min L 16 := by rw [List.length_map, List.length_take, hl]; exact Nat.min_comm _ _
  have k3 : 0 < ((l.take 16).map (Value.int .u8)).length → ∃ ad, a = some ad ∧ ∀ j v, ((l.take 16).map (Value.int .u8))[j]? = some v → (w.alloc (.cells (madeCells #[.int .u8 0] 16) 5)).cell? (ad.add j) = some v :=
    fun h0 => ((hb.take 16).below ((Below.refl _ _).alloc (Nat.le_refl _) _)).cells h0
  have k4 : 0 + ((l.take 16).map (Value.int .u8)).length ≤ (madeCells #[.int .u8 0] 16).toList.length := by simp [hl, size_madeCells]; omega
  have k5 : Below w.heap.size w (w.alloc (.cells (madeCells #[.int .u8 0] 16) 5)) := (Below.refl _ _).alloc (Nat.le_refl _) _
  have K1 := Lib.hid k1; have K2 := Lib.hid k2; have K3 := Lib.hid k3; have HL := Lib.hid hl
  clear k1 k2 k3 hl
  go_enter Try.func10, Try.ntmps10
  go_wp2_with ((with_reducible show wpList _ _ _ (⟨some 12, _, _, _, _, _⟩ :: _) _ _); go_loud (refine wpList_copy_splice (o := ⟨some 12, _, _, _, _, _⟩) rfl (.tmp 10) (.tmp 11) 22 22 rfl 5 Try.underlying22 size_u8 (some ⟨w.heap.size, 0, none⟩) a 16 16 L cap rfl rfl w.heap.size 0 (madeCells #[.int .u8 0] 16).toList 5 K1.out ((l.take 16).map (Value.int .u8)) K2.out (fun h0 => ⟨rfl, K3.out h0⟩) k4 (ints_oneCell _ _) w.heap.size w k5 (Nat.le_refl _) ?_); intro w1 hg1 hb1)
  go_ret
  refine ⟨w.heap.size, rfl, ⟨by rw [List.length_map, length_padL], .inr ⟨w.heap.size, 16, _, rfl, Nat.le_refl _, hg1.out, Nat.le_refl _, by unfold maxLen; omega, ?_, ?_⟩⟩, hb1⟩
  · rw [splice_pad, List.size_toArray, List.length_map, length_padL]
  · rw [splice_pad]
    exact List.take_of_length_le (by rw [List.length_map, length_padL]; omega)
set_option maxHeartbeats 1000000 in
theorem key_32 (a : Option Addr) (L cap : Nat) (l : List Int) (w : World) (hx : Arg8 w a L cap l) :
    Calls Try.prog 10 #[.slice a L cap, .bool true] w fun e w' => ∃ g, e = .returned (.slice (some ⟨g, 0, none⟩) 32 32) ∧
      w'.ownsRow w.heap.size 5 1 (.slice (some ⟨g, 0, none⟩) 32 32) 32 ((padL l 32).map (Value.int .u8)) ∧ Below w.heap.size w w' := by
  obtain ⟨hl, hb8, hb, hc1, hc2⟩ := hx
  have hmk := run_make_row' (P := Try.prog) 22 5 (.int .u8 0) 1 Try.underlying22 info5 rfl .i64 .i64 32 (by omega) (by omega)
  rw [show ((32 : Nat) : Int) = 2 * 16 from rfl] at hmk
  simp only [Int.reduceMul] at hmk
  have k1 : (w.alloc (.cells (madeCells #[.int .u8 0] 32) 5)).heap[w.heap.size]? = some (.cells (madeCells #[.int .u8 0] 32).toList.toArray 5 (0, 0)) := by rw [Array.toArray_toList]; exact heap_alloc_new w _
  have k2 : ((l.take 32).map (Value.int .u8)).length = Nat.min L 32 := by rw [List.length_map, List.length_take, hl]; exact Nat.min_comm _ _
  have k3 : 0 < ((l.take 32).map (Value.int .u8)).length → ∃ ad, a = some ad ∧ ∀ j v, ((l.take 32).map (Value.int .u8))[j]? = some v → (w.alloc (.cells (madeCells #[.int .u8 0] 32) 5)).cell? (ad.add j) = some v :=
    fun h0 => ((hb.take 32).below ((Below.refl _ _).alloc (Nat.le_refl _) _)).cells h0
  have k4 : 0 + ((l.take 32).map (Value.int .u8)).length ≤ (madeCells #[.int .u8 0] 32).toList.length := by simp [hl, size_madeCells]; omega
  have k5 : Below w.heap.size w (w.alloc (.cells (madeCells #[.int .u8 0] 32) 5)) := (Below.refl _ _).alloc (Nat.le_refl _) _
  have K1 := Lib.hid k1; have K2 := Lib.hid k2; have K3 := Lib.hid k3; have HL := Lib.hid hl
  clear k1 k2 k3 hl
  go_enter Try.func10, Try.ntmps10
  go_wp2_with ((with_reducible show wpList _ _ _ (⟨some 12, _, _, _, _, _⟩ :: _) _ _); go_loud (refine wpList_copy_splice (o := ⟨some 12, _, _, _, _, _⟩) rfl (.tmp 10) (.tmp 11) 22 22 rfl 5 Try.underlying22 size_u8 (some ⟨w.heap.size, 0, none⟩) a 32 32 L cap rfl rfl w.heap.size 0 (madeCells #[.int .u8 0] 32).toList 5 K1.out ((l.take 32).map (Value.int .u8)) K2.out (fun h0 => ⟨rfl, K3.out h0⟩) k4 (ints_oneCell _ _) w.heap.size w k5 (Nat.le_refl _) ?_); intro w1 hg1 hb1)
  go_ret
  refine ⟨w.heap.size, rfl, ⟨by rw [List.length_map, length_padL], .inr ⟨w.heap.size, 32, _, rfl, Nat.le_refl _, hg1.out, Nat.le_refl _, by unfold maxLen; omega, ?_, ?_⟩⟩, hb1⟩
  · rw [splice_pad, List.size_toArray, List.length_map, length_padL]
  · rw [splice_pad]
    exact List.take_of_length_le (by rw [List.length_map, length_padL]; omega)
end Go.Proofs.Ytpfhfnhbholboaa
