import Derived.Test.YtkfdcdfaikkneaaBits
import Derived.Test.YtkfdcdfaikkneaaQ1
namespace Go.Proofs.Ytkfdcdfaikkneaa
open Go.ChangeShapes Go.WideShapes Go.ChangeAt Go.RowKit
set_option linter.unusedVariables false
set_option maxRecDepth 100000

/-- The last n bytes of x, the greatest first. -/
def be (n : Nat) (x : Int) : List Int := (List.range n).map fun i => x / 2 ^ (8 * (n - 1 - i)) % 256
theorem length_be (n : Nat) (x : Int) : (be n x).length = n := by simp [be]
theorem be_getD (n : Nat) (x : Int) (i : Nat) (h : i < n) : (be n x).getD i 0 = x / 2 ^ (8 * (n - 1 - i)) % 256 := by
  simp [be, List.getD_eq_getElem?_getD, List.getElem?_map, List.getElem?_range h]
theorem be_take_succ (n : Nat) (x : Int) (i : Nat) (h : i < n) : (be n x).take (i + 1) = (be n x).take i ++ [x / 2 ^ (8 * (n - 1 - i)) % 256] := by
  have hl : i < (be n x).length := by rw [length_be]; exact h
  rw [List.take_succ_eq_append_getElem hl]
  congr 2
  simp [be]
theorem size16 (w : World) : Calls Try.prog 65 #[] w fun e w' => e = .returned (.int .i64 2) ∧ w = w' := by
  go_enter Try.func65, Try.ntmps65
  go_wp2_with (go_at_call 81; refine (bits16 _).mono ?_; rintro e w' ⟨rfl, rfl⟩)
  go_ret
  exact ⟨by kernel_rfl, rfl⟩

theorem put16 (a : Option Addr) (L cap : Nat) (l : List Int) (w : World) (hl : l.length = L) (hb : Bs w w.heap.size a l) (hL : L ≤ 140737488355328) (x : Int) (wx : (Lit.int .u16 x).wf = true) :
    Calls Try.prog 38 #[.slice a L cap, .int .u16 x] w fun e w' => ∃ g, e = .returned (.slice (some ⟨g, 0, none⟩) (L + 2) (L + 2)) ∧
      w'.ownsRow w.heap.size 5 1 (.slice (some ⟨g, 0, none⟩) (L + 2) (L + 2)) (L + 2) ((l ++ be 2 x).map (Value.int .u8)) ∧ Below w.heap.size w w' := by
  obtain ⟨hx0, hx1⟩ := wf_u16 wx
  clear wx
  have hx2 : x < 18446744073709551616 := by omega
  have hmk : ∀ W : World, (Instr.makeSlice 47 (.int .i64 (L : Int)) (.int .i64 ((L : Int) + 2))).run Try.prog W = .ok (.slice (some ⟨W.heap.size, 0, none⟩) L (L + 2)) (W.alloc (.cells (madeCells #[.int .u8 0] (L + 2)) 5)) := by
    intro W
    obtain ⟨i, hi, hz0, hz1, hz2⟩ := info_parts info5
    have := run_make (P := Try.prog) W 47 5 i _ Try.underlying47 hi hz0 .i64 .i64 (L : Int) ((L : Int) + 2) (by omega) (by omega) (by rw [hz2]; omega) (by omega)
    rw [this, hz1]
    have e1 : ((L : Int) + 2).toNat = L + 2 := by omega
    rw [e1]; simp
    rfl
  go_enter Try.func38, Try.ntmps38
  have k1 : (w.alloc (.cells (madeCells #[.int .u8 0] (L + 2)) 5)).heap[w.heap.size]? = some (.cells (madeCells #[.int .u8 0] (L + 2)).toList.toArray 5 (0, 0)) := by rw [Array.toArray_toList]; exact heap_alloc_new w _
  have k2 : (l.map (Value.int .u8)).length = Nat.min L L := by simp [hl]
  have k3 : 0 < (l.map (Value.int .u8)).length → ∃ ad, a = some ad ∧ ∀ j v, (l.map (Value.int .u8))[j]? = some v → (w.alloc (.cells (madeCells #[.int .u8 0] (L + 2)) 5)).cell? (ad.add j) = some v :=
    fun h0 => (hb.below ((Below.refl _ _).alloc (Nat.le_refl _) _)).cells h0
  have k4 : 0 + (l.map (Value.int .u8)).length ≤ (madeCells #[.int .u8 0] (L + 2)).toList.length := by simp [hl, size_madeCells]
  have k5 : Below w.heap.size w (w.alloc (.cells (madeCells #[.int .u8 0] (L + 2)) 5)) := (Below.refl _ _).alloc (Nat.le_refl _) _
  have K1 := Lib.hid k1; have K2 := Lib.hid k2; have K3 := Lib.hid k3
  clear k1 k2 k3
  go_wp2_with (first
    | (go_at_call 65; refine (size16 _).mono ?_; rintro e w' ⟨rfl, rfl⟩)
    | ((with_reducible show wpList _ _ _ (⟨some 19, _, _, _, _, _⟩ :: _) _ _); refine wpList_copy_splice (o := ⟨some 19, _, _, _, _, _⟩) rfl (.tmp 17) (.tmp 18) 47 47 rfl 5 Try.underlying47 size_u8 (some ⟨w.heap.size, 0, none⟩) a L (L + 2) L cap rfl rfl w.heap.size 0 (madeCells #[.int .u8 0] (L + 2)).toList 5 K1.out (l.map (Value.int .u8)) K2.out (fun h0 => ⟨rfl, K3.out h0⟩) k4 (ints_oneCell _ _) w.heap.size w k5 (Nat.le_refl _) ?_; intro w1 hg1 hb1))
  have own1 : w1.ownsRow w.heap.size 5 1 (.slice (some ⟨w.heap.size, 0, none⟩) L (L + 2)) L (l.map (Value.int .u8)) := by
    refine ⟨by simp [hl], .inr ⟨w.heap.size, L + 2, _, rfl, Nat.le_refl _, hg1.out, by omega, by unfold maxLen; omega, ?_, ?_⟩⟩
    · simp [splice_all, hl, size_madeCells]
    · simp [splice_all, hl]
  have hsz1 : w.heap.size < w1.heap.size := (own1.lt w.heap.size rfl).2
  clear hg1 K1 K2 K3 k4 k5
  go_loopw [6, 23] (fun out i wr => ∃ k : Nat, k ≤ 2 ∧ i = .int .i64 k ∧ out = .slice (some ⟨w.heap.size, 0, none⟩) (L + k) (L + 2) ∧
      wr.ownsRow w.heap.size 5 1 (.slice (some ⟨w.heap.size, 0, none⟩) (L + k) (L + 2)) (L + k) ((l ++ (be 2 x).take k).map (Value.int .u8)) ∧ Below w.heap.size w wr ∧ w.heap.size < wr.heap.size)
    (fun _ i _ => 2 - (intOf i).toNat)
  case atStart => exact ⟨0, by omega, rfl, rfl, by simpa using own1, hb1, hsz1⟩
  case round =>
    obtain ⟨k, hk, rfl, rfl, hown, hbel, hsz⟩ := hrel
    by_cases hlt : k < 2
    · have hap := (hown.alloc (.cells #[.int .u8 (x / 2 ^ (8 * (1 - k)) % 256)] 5))
      have hn1 : ∀ j u, [Value.int .u8 (x / 2 ^ (8 * (1 - k)) % 256)][j]? = some u → (wr.alloc (.cells #[.int .u8 (x / 2 ^ (8 * (1 - k)) % 256)] 5)).cell? ((⟨wr.heap.size, 0, none⟩ : Addr).add j) = some u := by
        intro j u hj
        match j, hj with
        | 0, hj => simp at hj; subst hj; simp [Addr.add]
      have hn2 : ∀ u ∈ [Value.int .u8 (x / 2 ^ (8 * (1 - k)) % 256)], u.oneCell' = true := by intro u hu; simp at hu; subst hu; rfl
      have hbt := be_take_succ 2 x k hlt
      have HAP := Lib.hid hap; have HN1 := Lib.hid hn1; have HN2 := Lib.hid hn2; have HBT := Lib.hid hbt
      clear hap hn1 hn2 hbt
      obtain ⟨i5, hi, hz0, hz1, hz2⟩ := info_parts info5
      have HI := Lib.hid hi
      have HZ := Lib.hid hz1
      clear hi hz0 hz1 hz2
      go_wp2_with (((with_reducible show wpList _ _ _ (⟨some 36, _, _, _, _, _⟩ :: _) _ _); go_loud (refine wpList_append_fits _ rfl (.tmp 26) (.tmp 35) 47 rfl w.heap.size 5 i5 1 Try.underlying47 HI.out HZ.out w.heap.size (L + k) (L + 2) _ rfl HAP.out ⟨wr.heap.size, 0, none⟩ 1 1 [.int .u8 (x / 2 ^ (8 * (1 - k)) % 256)] rfl rfl HN1.out HN2.out (by omega) ?_); intro w2 hown2 hg2))
      go_roundw
      case rel =>
        refine ⟨k + 1, by omega, by go_num, rfl, ?_, ?_, ?_⟩
        · rw [HBT.out, ← List.append_assoc, List.map_append]
          exact hown2
        · exact (hbel.alloc (by omega) _).grown hg2 (by simp <;> omega) (fun g hg => by injection hg with hg; omega)
        · have := hg2.size; simp at this; omega
      case measure => simp [intOf] <;> omega
    · have : k = 2 := by omega
      subst this
      go_wp2
      go_ret
      refine ⟨_, rfl, ?_, hbel⟩
      have e : (be 2 x).take 2 = be 2 x := List.take_of_length_le (by rw [length_be]; exact Nat.le_refl _)
      rw [e] at hown
      exact hown
theorem size32 (w : World) : Calls Try.prog 63 #[] w fun e w' => e = .returned (.int .i64 4) ∧ w = w' := by
  go_enter Try.func63, Try.ntmps63
  go_wp2_with (go_at_call 77; refine (bits32 _).mono ?_; rintro e w' ⟨rfl, rfl⟩)
  go_ret
  exact ⟨by kernel_rfl, rfl⟩

theorem put32 (a : Option Addr) (L cap : Nat) (l : List Int) (w : World) (hl : l.length = L) (hb : Bs w w.heap.size a l) (hL : L ≤ 140737488355328) (x : Int) (wx : (Lit.int .u32 x).wf = true) :
    Calls Try.prog 36 #[.slice a L cap, .int .u32 x] w fun e w' => ∃ g, e = .returned (.slice (some ⟨g, 0, none⟩) (L + 4) (L + 4)) ∧
      w'.ownsRow w.heap.size 5 1 (.slice (some ⟨g, 0, none⟩) (L + 4) (L + 4)) (L + 4) ((l ++ be 4 x).map (Value.int .u8)) ∧ Below w.heap.size w w' := by
  obtain ⟨hx0, hx1⟩ := wf_u32 wx
  clear wx
  have hx2 : x < 18446744073709551616 := by omega
  have hmk : ∀ W : World, (Instr.makeSlice 47 (.int .i64 (L : Int)) (.int .i64 ((L : Int) + 4))).run Try.prog W = .ok (.slice (some ⟨W.heap.size, 0, none⟩) L (L + 4)) (W.alloc (.cells (madeCells #[.int .u8 0] (L + 4)) 5)) := by
    intro W
    obtain ⟨i, hi, hz0, hz1, hz2⟩ := info_parts info5
    have := run_make (P := Try.prog) W 47 5 i _ Try.underlying47 hi hz0 .i64 .i64 (L : Int) ((L : Int) + 4) (by omega) (by omega) (by rw [hz2]; omega) (by omega)
    rw [this, hz1]
    have e1 : ((L : Int) + 4).toNat = L + 4 := by omega
    rw [e1]; simp
    rfl
  go_enter Try.func36, Try.ntmps36
  have k1 : (w.alloc (.cells (madeCells #[.int .u8 0] (L + 4)) 5)).heap[w.heap.size]? = some (.cells (madeCells #[.int .u8 0] (L + 4)).toList.toArray 5 (0, 0)) := by rw [Array.toArray_toList]; exact heap_alloc_new w _
  have k2 : (l.map (Value.int .u8)).length = Nat.min L L := by simp [hl]
  have k3 : 0 < (l.map (Value.int .u8)).length → ∃ ad, a = some ad ∧ ∀ j v, (l.map (Value.int .u8))[j]? = some v → (w.alloc (.cells (madeCells #[.int .u8 0] (L + 4)) 5)).cell? (ad.add j) = some v :=
    fun h0 => (hb.below ((Below.refl _ _).alloc (Nat.le_refl _) _)).cells h0
  have k4 : 0 + (l.map (Value.int .u8)).length ≤ (madeCells #[.int .u8 0] (L + 4)).toList.length := by simp [hl, size_madeCells]
  have k5 : Below w.heap.size w (w.alloc (.cells (madeCells #[.int .u8 0] (L + 4)) 5)) := (Below.refl _ _).alloc (Nat.le_refl _) _
  have K1 := Lib.hid k1; have K2 := Lib.hid k2; have K3 := Lib.hid k3
  clear k1 k2 k3
  go_wp2_with (first
    | (go_at_call 63; refine (size32 _).mono ?_; rintro e w' ⟨rfl, rfl⟩)
    | ((with_reducible show wpList _ _ _ (⟨some 19, _, _, _, _, _⟩ :: _) _ _); refine wpList_copy_splice (o := ⟨some 19, _, _, _, _, _⟩) rfl (.tmp 17) (.tmp 18) 47 47 rfl 5 Try.underlying47 size_u8 (some ⟨w.heap.size, 0, none⟩) a L (L + 4) L cap rfl rfl w.heap.size 0 (madeCells #[.int .u8 0] (L + 4)).toList 5 K1.out (l.map (Value.int .u8)) K2.out (fun h0 => ⟨rfl, K3.out h0⟩) k4 (ints_oneCell _ _) w.heap.size w k5 (Nat.le_refl _) ?_; intro w1 hg1 hb1))
  have own1 : w1.ownsRow w.heap.size 5 1 (.slice (some ⟨w.heap.size, 0, none⟩) L (L + 4)) L (l.map (Value.int .u8)) := by
    refine ⟨by simp [hl], .inr ⟨w.heap.size, L + 4, _, rfl, Nat.le_refl _, hg1.out, by omega, by unfold maxLen; omega, ?_, ?_⟩⟩
    · simp [splice_all, hl, size_madeCells]
    · simp [splice_all, hl]
  have hsz1 : w.heap.size < w1.heap.size := (own1.lt w.heap.size rfl).2
  clear hg1 K1 K2 K3 k4 k5
  go_loopw [6, 23] (fun out i wr => ∃ k : Nat, k ≤ 4 ∧ i = .int .i64 k ∧ out = .slice (some ⟨w.heap.size, 0, none⟩) (L + k) (L + 4) ∧
      wr.ownsRow w.heap.size 5 1 (.slice (some ⟨w.heap.size, 0, none⟩) (L + k) (L + 4)) (L + k) ((l ++ (be 4 x).take k).map (Value.int .u8)) ∧ Below w.heap.size w wr ∧ w.heap.size < wr.heap.size)
    (fun _ i _ => 4 - (intOf i).toNat)
  case atStart => exact ⟨0, by omega, rfl, rfl, by simpa using own1, hb1, hsz1⟩
  case round =>
    obtain ⟨k, hk, rfl, rfl, hown, hbel, hsz⟩ := hrel
    by_cases hlt : k < 4
    · have hap := (hown.alloc (.cells #[.int .u8 (x / 2 ^ (8 * (3 - k)) % 256)] 5))
      have hn1 : ∀ j u, [Value.int .u8 (x / 2 ^ (8 * (3 - k)) % 256)][j]? = some u → (wr.alloc (.cells #[.int .u8 (x / 2 ^ (8 * (3 - k)) % 256)] 5)).cell? ((⟨wr.heap.size, 0, none⟩ : Addr).add j) = some u := by
        intro j u hj
        match j, hj with
        | 0, hj => simp at hj; subst hj; simp [Addr.add]
      have hn2 : ∀ u ∈ [Value.int .u8 (x / 2 ^ (8 * (3 - k)) % 256)], u.oneCell' = true := by intro u hu; simp at hu; subst hu; rfl
      have hbt := be_take_succ 4 x k hlt
      have HAP := Lib.hid hap; have HN1 := Lib.hid hn1; have HN2 := Lib.hid hn2; have HBT := Lib.hid hbt
      clear hap hn1 hn2 hbt
      obtain ⟨i5, hi, hz0, hz1, hz2⟩ := info_parts info5
      have HI := Lib.hid hi
      have HZ := Lib.hid hz1
      clear hi hz0 hz1 hz2
      go_wp2_with (((with_reducible show wpList _ _ _ (⟨some 36, _, _, _, _, _⟩ :: _) _ _); go_loud (refine wpList_append_fits _ rfl (.tmp 26) (.tmp 35) 47 rfl w.heap.size 5 i5 1 Try.underlying47 HI.out HZ.out w.heap.size (L + k) (L + 4) _ rfl HAP.out ⟨wr.heap.size, 0, none⟩ 1 1 [.int .u8 (x / 2 ^ (8 * (3 - k)) % 256)] rfl rfl HN1.out HN2.out (by omega) ?_); intro w2 hown2 hg2))
      go_roundw
      case rel =>
        refine ⟨k + 1, by omega, by go_num, rfl, ?_, ?_, ?_⟩
        · rw [HBT.out, ← List.append_assoc, List.map_append]
          exact hown2
        · exact (hbel.alloc (by omega) _).grown hg2 (by simp <;> omega) (fun g hg => by injection hg with hg; omega)
        · have := hg2.size; simp at this; omega
      case measure => simp [intOf] <;> omega
    · have : k = 4 := by omega
      subst this
      go_wp2
      go_ret
      refine ⟨_, rfl, ?_, hbel⟩
      have e : (be 4 x).take 4 = be 4 x := List.take_of_length_le (by rw [length_be]; exact Nat.le_refl _)
      rw [e] at hown
      exact hown
theorem size64 (w : World) : Calls Try.prog 64 #[] w fun e w' => e = .returned (.int .i64 8) ∧ w = w' := by
  go_enter Try.func64, Try.ntmps64
  go_wp2_with (go_at_call 79; refine (bits64 _).mono ?_; rintro e w' ⟨rfl, rfl⟩)
  go_ret
  exact ⟨by kernel_rfl, rfl⟩

theorem put64 (a : Option Addr) (L cap : Nat) (l : List Int) (w : World) (hl : l.length = L) (hb : Bs w w.heap.size a l) (hL : L ≤ 140737488355328) (x : Int) (wx : (Lit.int .u64 x).wf = true) :
    Calls Try.prog 37 #[.slice a L cap, .int .u64 x] w fun e w' => ∃ g, e = .returned (.slice (some ⟨g, 0, none⟩) (L + 8) (L + 8)) ∧
      w'.ownsRow w.heap.size 5 1 (.slice (some ⟨g, 0, none⟩) (L + 8) (L + 8)) (L + 8) ((l ++ be 8 x).map (Value.int .u8)) ∧ Below w.heap.size w w' := by
  obtain ⟨hx0, hx1⟩ := wf_u64 wx
  clear wx
  have hx2 : x < 18446744073709551616 := by omega
  have hmk : ∀ W : World, (Instr.makeSlice 47 (.int .i64 (L : Int)) (.int .i64 ((L : Int) + 8))).run Try.prog W = .ok (.slice (some ⟨W.heap.size, 0, none⟩) L (L + 8)) (W.alloc (.cells (madeCells #[.int .u8 0] (L + 8)) 5)) := by
    intro W
    obtain ⟨i, hi, hz0, hz1, hz2⟩ := info_parts info5
    have := run_make (P := Try.prog) W 47 5 i _ Try.underlying47 hi hz0 .i64 .i64 (L : Int) ((L : Int) + 8) (by omega) (by omega) (by rw [hz2]; omega) (by omega)
    rw [this, hz1]
    have e1 : ((L : Int) + 8).toNat = L + 8 := by omega
    rw [e1]; simp
    rfl
  go_enter Try.func37, Try.ntmps37
  have k1 : (w.alloc (.cells (madeCells #[.int .u8 0] (L + 8)) 5)).heap[w.heap.size]? = some (.cells (madeCells #[.int .u8 0] (L + 8)).toList.toArray 5 (0, 0)) := by rw [Array.toArray_toList]; exact heap_alloc_new w _
  have k2 : (l.map (Value.int .u8)).length = Nat.min L L := by simp [hl]
  have k3 : 0 < (l.map (Value.int .u8)).length → ∃ ad, a = some ad ∧ ∀ j v, (l.map (Value.int .u8))[j]? = some v → (w.alloc (.cells (madeCells #[.int .u8 0] (L + 8)) 5)).cell? (ad.add j) = some v :=
    fun h0 => (hb.below ((Below.refl _ _).alloc (Nat.le_refl _) _)).cells h0
  have k4 : 0 + (l.map (Value.int .u8)).length ≤ (madeCells #[.int .u8 0] (L + 8)).toList.length := by simp [hl, size_madeCells]
  have k5 : Below w.heap.size w (w.alloc (.cells (madeCells #[.int .u8 0] (L + 8)) 5)) := (Below.refl _ _).alloc (Nat.le_refl _) _
  have K1 := Lib.hid k1; have K2 := Lib.hid k2; have K3 := Lib.hid k3
  clear k1 k2 k3
  go_wp2_with (first
    | (go_at_call 64; refine (size64 _).mono ?_; rintro e w' ⟨rfl, rfl⟩)
    | ((with_reducible show wpList _ _ _ (⟨some 19, _, _, _, _, _⟩ :: _) _ _); refine wpList_copy_splice (o := ⟨some 19, _, _, _, _, _⟩) rfl (.tmp 17) (.tmp 18) 47 47 rfl 5 Try.underlying47 size_u8 (some ⟨w.heap.size, 0, none⟩) a L (L + 8) L cap rfl rfl w.heap.size 0 (madeCells #[.int .u8 0] (L + 8)).toList 5 K1.out (l.map (Value.int .u8)) K2.out (fun h0 => ⟨rfl, K3.out h0⟩) k4 (ints_oneCell _ _) w.heap.size w k5 (Nat.le_refl _) ?_; intro w1 hg1 hb1))
  have own1 : w1.ownsRow w.heap.size 5 1 (.slice (some ⟨w.heap.size, 0, none⟩) L (L + 8)) L (l.map (Value.int .u8)) := by
    refine ⟨by simp [hl], .inr ⟨w.heap.size, L + 8, _, rfl, Nat.le_refl _, hg1.out, by omega, by unfold maxLen; omega, ?_, ?_⟩⟩
    · simp [splice_all, hl, size_madeCells]
    · simp [splice_all, hl]
  have hsz1 : w.heap.size < w1.heap.size := (own1.lt w.heap.size rfl).2
  clear hg1 K1 K2 K3 k4 k5
  go_loopw [6, 22] (fun out i wr => ∃ k : Nat, k ≤ 8 ∧ i = .int .i64 k ∧ out = .slice (some ⟨w.heap.size, 0, none⟩) (L + k) (L + 8) ∧
      wr.ownsRow w.heap.size 5 1 (.slice (some ⟨w.heap.size, 0, none⟩) (L + k) (L + 8)) (L + k) ((l ++ (be 8 x).take k).map (Value.int .u8)) ∧ Below w.heap.size w wr ∧ w.heap.size < wr.heap.size)
    (fun _ i _ => 8 - (intOf i).toNat)
  case atStart => exact ⟨0, by omega, rfl, rfl, by simpa using own1, hb1, hsz1⟩
  case round =>
    obtain ⟨k, hk, rfl, rfl, hown, hbel, hsz⟩ := hrel
    by_cases hlt : k < 8
    · have hap := (hown.alloc (.cells #[.int .u8 (x / 2 ^ (8 * (7 - k)) % 256)] 5))
      have hn1 : ∀ j u, [Value.int .u8 (x / 2 ^ (8 * (7 - k)) % 256)][j]? = some u → (wr.alloc (.cells #[.int .u8 (x / 2 ^ (8 * (7 - k)) % 256)] 5)).cell? ((⟨wr.heap.size, 0, none⟩ : Addr).add j) = some u := by
        intro j u hj
        match j, hj with
        | 0, hj => simp at hj; subst hj; simp [Addr.add]
      have hn2 : ∀ u ∈ [Value.int .u8 (x / 2 ^ (8 * (7 - k)) % 256)], u.oneCell' = true := by intro u hu; simp at hu; subst hu; rfl
      have hbt := be_take_succ 8 x k hlt
      have HAP := Lib.hid hap; have HN1 := Lib.hid hn1; have HN2 := Lib.hid hn2; have HBT := Lib.hid hbt
      clear hap hn1 hn2 hbt
      obtain ⟨i5, hi, hz0, hz1, hz2⟩ := info_parts info5
      have HI := Lib.hid hi
      have HZ := Lib.hid hz1
      clear hi hz0 hz1 hz2
      go_wp2_with (((with_reducible show wpList _ _ _ (⟨some 35, _, _, _, _, _⟩ :: _) _ _); go_loud (refine wpList_append_fits _ rfl (.tmp 25) (.tmp 34) 47 rfl w.heap.size 5 i5 1 Try.underlying47 HI.out HZ.out w.heap.size (L + k) (L + 8) _ rfl HAP.out ⟨wr.heap.size, 0, none⟩ 1 1 [.int .u8 (x / 2 ^ (8 * (7 - k)) % 256)] rfl rfl HN1.out HN2.out (by omega) ?_); intro w2 hown2 hg2))
      go_roundw
      case rel =>
        refine ⟨k + 1, by omega, by go_num, rfl, ?_, ?_, ?_⟩
        · rw [HBT.out, ← List.append_assoc, List.map_append]
          exact hown2
        · exact (hbel.alloc (by omega) _).grown hg2 (by simp <;> omega) (fun g hg => by injection hg with hg; omega)
        · have := hg2.size; simp at this; omega
      case measure => simp [intOf] <;> omega
    · have : k = 8 := by omega
      subst this
      go_wp2
      go_ret
      refine ⟨_, rfl, ?_, hbel⟩
      have e : (be 8 x).take 8 = be 8 x := List.take_of_length_le (by rw [length_be]; exact Nat.le_refl _)
      rw [e] at hown
      exact hown
end Go.Proofs.Ytkfdcdfaikkneaa
