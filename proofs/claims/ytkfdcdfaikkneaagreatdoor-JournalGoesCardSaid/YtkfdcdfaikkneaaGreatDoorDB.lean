/- Texts of mine, one behind the other: Put Get Rput. -/
import Derived.Test.YtkfdcdfaikkneaaGreatDoorDA
import Derived.Test.YtkfdcdfaikkneaaGreatDoorQ1
import Derived.Deep.OwnRows
namespace Go.Proofs.YtkfdcdfaikkneaaGreatDoor
open Go.ChangeShapes Go.WideShapes Go.ChangeAt Go.RowKit
set_option linter.unusedVariables false
set_option maxRecDepth 100000

/-- The last n bytes of x, the greatest first. -/
def be (n : Nat) (x : Int) : List Int := (List.range n).map fun i => x / 2 ^ (8 * (n - 1 - i)) % 256
theorem length_be (n : Nat) (x : Int) : (be n x).length = n := by simp [be]
theorem be_getD (n : Nat) (x : Int) (i : Nat) (h : i < n) : (be n x).getD i 0 = x / 2 ^ (8 * (n - 1 - i)) % 256 := by
  simp [be, List.getD_eq_getElem?_getD, List.getElem?_map, List.getElem?_range h]
theorem be_take_succ (n : Nat) (x : Int) (i : Nat) (h : i < n) : (be n x).take (i + 1) = (be n x).take i ++ [x / 2 ^ (8 * (n - 1 - i)) % 256] := by
  have hl : i < (be n x).length := by rw [length_be]; exact h
  rw [List.take_succ_eq_append_getElem hl]
  congr 2
  simp [be]
theorem size16 (w : World) : Calls Tryz.prog 108 #[] w fun e w' => e = .returned (.int .i64 2) ∧ w = w' := by
  go_enter Tryz.func108, Tryz.ntmps108
  go_wp2_with (go_at_call 102; refine (bits16 _).mono ?_; rintro e w' ⟨rfl, rfl⟩)
  go_ret
  exact ⟨by kernel_rfl, rfl⟩

theorem put16 (a : Option Addr) (L cap : Nat) (l : List Int) (w : World) (hl : l.length = L) (hb : Bs w w.heap.size a l) (hL : L ≤ 140737488355328) (x : Int) (wx : (Lit.int .u16 x).wf = true) :
    Calls Tryz.prog 107 #[.slice a L cap, .int .u16 x] w fun e w' => ∃ g, e = .returned (.slice (some ⟨g, 0, none⟩) (L + 2) (L + 2)) ∧
      w'.ownsRow w.heap.size 5 1 (.slice (some ⟨g, 0, none⟩) (L + 2) (L + 2)) (L + 2) ((l ++ be 2 x).map (Value.int .u8)) ∧ Below w.heap.size w w' := by
  obtain ⟨hx0, hx1⟩ := wf_u16 wx
  clear wx
  have hx2 : x < 18446744073709551616 := by omega
  have hmk : ∀ W : World, (Instr.makeSlice 23 (.int .i64 (L : Int)) (.int .i64 ((L : Int) + 2))).run Tryz.prog W = .ok (.slice (some ⟨W.heap.size, 0, none⟩) L (L + 2)) (W.alloc (.cells (madeCells #[.int .u8 0] (L + 2)) 5)) := by
    intro W
    obtain ⟨i, hi, hz0, hz1, hz2⟩ := info_parts info5
    have := run_make (P := Tryz.prog) W 23 5 i _ Tryz.underlying23 hi hz0 .i64 .i64 (L : Int) ((L : Int) + 2) (by omega) (by omega) (by rw [hz2]; omega) (by omega)
    rw [this, hz1]
    have e1 : ((L : Int) + 2).toNat = L + 2 := by omega
    rw [e1]; simp
    rfl
  go_enter Tryz.func107, Tryz.ntmps107
  have k1 : (w.alloc (.cells (madeCells #[.int .u8 0] (L + 2)) 5)).heap[w.heap.size]? = some (.cells (madeCells #[.int .u8 0] (L + 2)).toList.toArray 5 (0, 0)) := by rw [Array.toArray_toList]; exact heap_alloc_new w _
  have k2 : (l.map (Value.int .u8)).length = Nat.min L L := by simp [hl]
  have k3 : 0 < (l.map (Value.int .u8)).length → ∃ ad, a = some ad ∧ ∀ j v, (l.map (Value.int .u8))[j]? = some v → (w.alloc (.cells (madeCells #[.int .u8 0] (L + 2)) 5)).cell? (ad.add j) = some v :=
    fun h0 => (hb.below ((Below.refl _ _).alloc (Nat.le_refl _) _)).cells h0
  have k4 : 0 + (l.map (Value.int .u8)).length ≤ (madeCells #[.int .u8 0] (L + 2)).toList.length := by simp [hl, size_madeCells]
  have k5 : Below w.heap.size w (w.alloc (.cells (madeCells #[.int .u8 0] (L + 2)) 5)) := (Below.refl _ _).alloc (Nat.le_refl _) _
  have K1 := Lib.hid k1; have K2 := Lib.hid k2; have K3 := Lib.hid k3
  clear k1 k2 k3
  go_wp2_with (first
    | (go_at_call 108; refine (size16 _).mono ?_; rintro e w' ⟨rfl, rfl⟩)
    | ((with_reducible show wpList _ _ _ (⟨some 19, _, _, _, _, _⟩ :: _) _ _); refine wpList_copy_splice (o := ⟨some 19, _, _, _, _, _⟩) rfl (.tmp 17) (.tmp 18) 23 23 rfl 5 Tryz.underlying23 size_u8 (some ⟨w.heap.size, 0, none⟩) a L (L + 2) L cap rfl rfl w.heap.size 0 (madeCells #[.int .u8 0] (L + 2)).toList 5 K1.out (l.map (Value.int .u8)) K2.out (fun h0 => ⟨rfl, K3.out h0⟩) k4 (ints_oneCell _ _) w.heap.size w k5 (Nat.le_refl _) ?_; intro w1 hg1 hb1))
  have own1 : w1.ownsRow w.heap.size 5 1 (.slice (some ⟨w.heap.size, 0, none⟩) L (L + 2)) L (l.map (Value.int .u8)) := by
    refine ⟨by simp [hl], .inr ⟨w.heap.size, L + 2, _, rfl, Nat.le_refl _, hg1.out, by omega, by unfold maxLen; omega, ?_, ?_⟩⟩
    · simp [splice_all, hl, size_madeCells]
    · simp [splice_all, hl]
  have hsz1 : w.heap.size < w1.heap.size := (own1.lt w.heap.size rfl).2
  clear hg1 K1 K2 K3 k4 k5
  go_loopw [6, 23] (fun out i wr => ∃ k : Nat, k ≤ 2 ∧ i = .int .i64 k ∧ out = .slice (some ⟨w.heap.size, 0, none⟩) (L + k) (L + 2) ∧
      wr.ownsRow w.heap.size 5 1 (.slice (some ⟨w.heap.size, 0, none⟩) (L + k) (L + 2)) (L + k) ((l ++ (be 2 x).take k).map (Value.int .u8)) ∧ Below w.heap.size w wr ∧ w.heap.size < wr.heap.size)
    (fun _ i _ => 2 - (intOf i).toNat)
  case atStart => exact ⟨0, by omega, rfl, rfl, by simpa using own1, hb1, hsz1⟩
  case round =>
    obtain ⟨k, hk, rfl, rfl, hown, hbel, hsz⟩ := hrel
    by_cases hlt : k < 2
    · have hap := (hown.alloc (.cells #[.int .u8 (x / 2 ^ (8 * (1 - k)) % 256)] 5))
      have hn1 : ∀ j u, [Value.int .u8 (x / 2 ^ (8 * (1 - k)) % 256)][j]? = some u → (wr.alloc (.cells #[.int .u8 (x / 2 ^ (8 * (1 - k)) % 256)] 5)).cell? ((⟨wr.heap.size, 0, none⟩ : Addr).add j) = some u := by
        intro j u hj
        match j, hj with
        | 0, hj => simp at hj; subst hj; simp [Addr.add]
      have hn2 : ∀ u ∈ [Value.int .u8 (x / 2 ^ (8 * (1 - k)) % 256)], u.oneCell' = true := by intro u hu; simp at hu; subst hu; rfl
      have hbt := be_take_succ 2 x k hlt
      have HAP := Lib.hid hap; have HN1 := Lib.hid hn1; have HN2 := Lib.hid hn2; have HBT := Lib.hid hbt
      clear hap hn1 hn2 hbt
      obtain ⟨i5, hi, hz0, hz1, hz2⟩ := info_parts info5
      have HI := Lib.hid hi
      have HZ := Lib.hid hz1
      clear hi hz0 hz1 hz2
      go_wp2_with (((with_reducible show wpList _ _ _ (⟨some 36, _, _, _, _, _⟩ :: _) _ _); go_loud (refine wpList_append_fits _ rfl (.tmp 26) (.tmp 35) 23 rfl w.heap.size 5 i5 1 Tryz.underlying23 HI.out HZ.out w.heap.size (L + k) (L + 2) _ rfl HAP.out ⟨wr.heap.size, 0, none⟩ 1 1 [.int .u8 (x / 2 ^ (8 * (1 - k)) % 256)] rfl rfl HN1.out HN2.out (by omega) ?_); intro w2 hown2 hg2))
      go_roundw
      case rel =>
        refine ⟨k + 1, by omega, by go_num, rfl, ?_, ?_, ?_⟩
        · rw [HBT.out, ← List.append_assoc, List.map_append]
          exact hown2
        · exact (hbel.alloc (by omega) _).grown hg2 (by simp <;> omega) (fun g hg => by injection hg with hg; omega)
        · have := hg2.size; simp at this; omega
      case measure => simp [intOf] <;> omega
    · have : k = 2 := by omega
      subst this
      go_wp2
      go_ret
      refine ⟨_, rfl, ?_, hbel⟩
      have e : (be 2 x).take 2 = be 2 x := List.take_of_length_le (by rw [length_be]; exact Nat.le_refl _)
      rw [e] at hown
      exact hown
theorem size32 (w : World) : Calls Tryz.prog 89 #[] w fun e w' => e = .returned (.int .i64 4) ∧ w = w' := by
  go_enter Tryz.func89, Tryz.ntmps89
  go_wp2_with (go_at_call 79; refine (bits32 _).mono ?_; rintro e w' ⟨rfl, rfl⟩)
  go_ret
  exact ⟨by kernel_rfl, rfl⟩

theorem put32 (a : Option Addr) (L cap : Nat) (l : List Int) (w : World) (hl : l.length = L) (hb : Bs w w.heap.size a l) (hL : L ≤ 140737488355328) (x : Int) (wx : (Lit.int .u32 x).wf = true) :
    Calls Tryz.prog 64 #[.slice a L cap, .int .u32 x] w fun e w' => ∃ g, e = .returned (.slice (some ⟨g, 0, none⟩) (L + 4) (L + 4)) ∧
      w'.ownsRow w.heap.size 5 1 (.slice (some ⟨g, 0, none⟩) (L + 4) (L + 4)) (L + 4) ((l ++ be 4 x).map (Value.int .u8)) ∧ Below w.heap.size w w' := by
  obtain ⟨hx0, hx1⟩ := wf_u32 wx
  clear wx
  have hx2 : x < 18446744073709551616 := by omega
  have hmk : ∀ W : World, (Instr.makeSlice 23 (.int .i64 (L : Int)) (.int .i64 ((L : Int) + 4))).run Tryz.prog W = .ok (.slice (some ⟨W.heap.size, 0, none⟩) L (L + 4)) (W.alloc (.cells (madeCells #[.int .u8 0] (L + 4)) 5)) := by
    intro W
    obtain ⟨i, hi, hz0, hz1, hz2⟩ := info_parts info5
    have := run_make (P := Tryz.prog) W 23 5 i _ Tryz.underlying23 hi hz0 .i64 .i64 (L : Int) ((L : Int) + 4) (by omega) (by omega) (by rw [hz2]; omega) (by omega)
    rw [this, hz1]
    have e1 : ((L : Int) + 4).toNat = L + 4 := by omega
    rw [e1]; simp
    rfl
  go_enter Tryz.func64, Tryz.ntmps64
  have k1 : (w.alloc (.cells (madeCells #[.int .u8 0] (L + 4)) 5)).heap[w.heap.size]? = some (.cells (madeCells #[.int .u8 0] (L + 4)).toList.toArray 5 (0, 0)) := by rw [Array.toArray_toList]; exact heap_alloc_new w _
  have k2 : (l.map (Value.int .u8)).length = Nat.min L L := by simp [hl]
  have k3 : 0 < (l.map (Value.int .u8)).length → ∃ ad, a = some ad ∧ ∀ j v, (l.map (Value.int .u8))[j]? = some v → (w.alloc (.cells (madeCells #[.int .u8 0] (L + 4)) 5)).cell? (ad.add j) = some v :=
    fun h0 => (hb.below ((Below.refl _ _).alloc (Nat.le_refl _) _)).cells h0
  have k4 : 0 + (l.map (Value.int .u8)).length ≤ (madeCells #[.int .u8 0] (L + 4)).toList.length := by simp [hl, size_madeCells]
  have k5 : Below w.heap.size w (w.alloc (.cells (madeCells #[.int .u8 0] (L + 4)) 5)) := (Below.refl _ _).alloc (Nat.le_refl _) _
  have K1 := Lib.hid k1; have K2 := Lib.hid k2; have K3 := Lib.hid k3
  clear k1 k2 k3
  go_wp2_with (first
    | (go_at_call 89; refine (size32 _).mono ?_; rintro e w' ⟨rfl, rfl⟩)
    | ((with_reducible show wpList _ _ _ (⟨some 19, _, _, _, _, _⟩ :: _) _ _); refine wpList_copy_splice (o := ⟨some 19, _, _, _, _, _⟩) rfl (.tmp 17) (.tmp 18) 23 23 rfl 5 Tryz.underlying23 size_u8 (some ⟨w.heap.size, 0, none⟩) a L (L + 4) L cap rfl rfl w.heap.size 0 (madeCells #[.int .u8 0] (L + 4)).toList 5 K1.out (l.map (Value.int .u8)) K2.out (fun h0 => ⟨rfl, K3.out h0⟩) k4 (ints_oneCell _ _) w.heap.size w k5 (Nat.le_refl _) ?_; intro w1 hg1 hb1))
  have own1 : w1.ownsRow w.heap.size 5 1 (.slice (some ⟨w.heap.size, 0, none⟩) L (L + 4)) L (l.map (Value.int .u8)) := by
    refine ⟨by simp [hl], .inr ⟨w.heap.size, L + 4, _, rfl, Nat.le_refl _, hg1.out, by omega, by unfold maxLen; omega, ?_, ?_⟩⟩
    · simp [splice_all, hl, size_madeCells]
    · simp [splice_all, hl]
  have hsz1 : w.heap.size < w1.heap.size := (own1.lt w.heap.size rfl).2
  clear hg1 K1 K2 K3 k4 k5
  go_loopw [6, 23] (fun out i wr => ∃ k : Nat, k ≤ 4 ∧ i = .int .i64 k ∧ out = .slice (some ⟨w.heap.size, 0, none⟩) (L + k) (L + 4) ∧
      wr.ownsRow w.heap.size 5 1 (.slice (some ⟨w.heap.size, 0, none⟩) (L + k) (L + 4)) (L + k) ((l ++ (be 4 x).take k).map (Value.int .u8)) ∧ Below w.heap.size w wr ∧ w.heap.size < wr.heap.size)
    (fun _ i _ => 4 - (intOf i).toNat)
  case atStart => exact ⟨0, by omega, rfl, rfl, by simpa using own1, hb1, hsz1⟩
  case round =>
    obtain ⟨k, hk, rfl, rfl, hown, hbel, hsz⟩ := hrel
    by_cases hlt : k < 4
    · have hap := (hown.alloc (.cells #[.int .u8 (x / 2 ^ (8 * (3 - k)) % 256)] 5))
      have hn1 : ∀ j u, [Value.int .u8 (x / 2 ^ (8 * (3 - k)) % 256)][j]? = some u → (wr.alloc (.cells #[.int .u8 (x / 2 ^ (8 * (3 - k)) % 256)] 5)).cell? ((⟨wr.heap.size, 0, none⟩ : Addr).add j) = some u := by
        intro j u hj
        match j, hj with
        | 0, hj => simp at hj; subst hj; simp [Addr.add]
      have hn2 : ∀ u ∈ [Value.int .u8 (x / 2 ^ (8 * (3 - k)) % 256)], u.oneCell' = true := by intro u hu; simp at hu; subst hu; rfl
      have hbt := be_take_succ 4 x k hlt
      have HAP := Lib.hid hap; have HN1 := Lib.hid hn1; have HN2 := Lib.hid hn2; have HBT := Lib.hid hbt
      clear hap hn1 hn2 hbt
      obtain ⟨i5, hi, hz0, hz1, hz2⟩ := info_parts info5
      have HI := Lib.hid hi
      have HZ := Lib.hid hz1
      clear hi hz0 hz1 hz2
      go_wp2_with (((with_reducible show wpList _ _ _ (⟨some 36, _, _, _, _, _⟩ :: _) _ _); go_loud (refine wpList_append_fits _ rfl (.tmp 26) (.tmp 35) 23 rfl w.heap.size 5 i5 1 Tryz.underlying23 HI.out HZ.out w.heap.size (L + k) (L + 4) _ rfl HAP.out ⟨wr.heap.size, 0, none⟩ 1 1 [.int .u8 (x / 2 ^ (8 * (3 - k)) % 256)] rfl rfl HN1.out HN2.out (by omega) ?_); intro w2 hown2 hg2))
      go_roundw
      case rel =>
        refine ⟨k + 1, by omega, by go_num, rfl, ?_, ?_, ?_⟩
        · rw [HBT.out, ← List.append_assoc, List.map_append]
          exact hown2
        · exact (hbel.alloc (by omega) _).grown hg2 (by simp <;> omega) (fun g hg => by injection hg with hg; omega)
        · have := hg2.size; simp at this; omega
      case measure => simp [intOf] <;> omega
    · have : k = 4 := by omega
      subst this
      go_wp2
      go_ret
      refine ⟨_, rfl, ?_, hbel⟩
      have e : (be 4 x).take 4 = be 4 x := List.take_of_length_le (by rw [length_be]; exact Nat.le_refl _)
      rw [e] at hown
      exact hown
theorem size64 (w : World) : Calls Tryz.prog 100 #[] w fun e w' => e = .returned (.int .i64 8) ∧ w = w' := by
  go_enter Tryz.func100, Tryz.ntmps100
  go_wp2_with (go_at_call 85; refine (bits64 _).mono ?_; rintro e w' ⟨rfl, rfl⟩)
  go_ret
  exact ⟨by kernel_rfl, rfl⟩

theorem put64 (a : Option Addr) (L cap : Nat) (l : List Int) (w : World) (hl : l.length = L) (hb : Bs w w.heap.size a l) (hL : L ≤ 140737488355328) (x : Int) (wx : (Lit.int .u64 x).wf = true) :
    Calls Tryz.prog 96 #[.slice a L cap, .int .u64 x] w fun e w' => ∃ g, e = .returned (.slice (some ⟨g, 0, none⟩) (L + 8) (L + 8)) ∧
      w'.ownsRow w.heap.size 5 1 (.slice (some ⟨g, 0, none⟩) (L + 8) (L + 8)) (L + 8) ((l ++ be 8 x).map (Value.int .u8)) ∧ Below w.heap.size w w' := by
  obtain ⟨hx0, hx1⟩ := wf_u64 wx
  clear wx
  have hx2 : x < 18446744073709551616 := by omega
  have hmk : ∀ W : World, (Instr.makeSlice 23 (.int .i64 (L : Int)) (.int .i64 ((L : Int) + 8))).run Tryz.prog W = .ok (.slice (some ⟨W.heap.size, 0, none⟩) L (L + 8)) (W.alloc (.cells (madeCells #[.int .u8 0] (L + 8)) 5)) := by
    intro W
    obtain ⟨i, hi, hz0, hz1, hz2⟩ := info_parts info5
    have := run_make (P := Tryz.prog) W 23 5 i _ Tryz.underlying23 hi hz0 .i64 .i64 (L : Int) ((L : Int) + 8) (by omega) (by omega) (by rw [hz2]; omega) (by omega)
    rw [this, hz1]
    have e1 : ((L : Int) + 8).toNat = L + 8 := by omega
    rw [e1]; simp
    rfl
  go_enter Tryz.func96, Tryz.ntmps96
  have k1 : (w.alloc (.cells (madeCells #[.int .u8 0] (L + 8)) 5)).heap[w.heap.size]? = some (.cells (madeCells #[.int .u8 0] (L + 8)).toList.toArray 5 (0, 0)) := by rw [Array.toArray_toList]; exact heap_alloc_new w _
  have k2 : (l.map (Value.int .u8)).length = Nat.min L L := by simp [hl]
  have k3 : 0 < (l.map (Value.int .u8)).length → ∃ ad, a = some ad ∧ ∀ j v, (l.map (Value.int .u8))[j]? = some v → (w.alloc (.cells (madeCells #[.int .u8 0] (L + 8)) 5)).cell? (ad.add j) = some v :=
    fun h0 => (hb.below ((Below.refl _ _).alloc (Nat.le_refl _) _)).cells h0
  have k4 : 0 + (l.map (Value.int .u8)).length ≤ (madeCells #[.int .u8 0] (L + 8)).toList.length := by simp [hl, size_madeCells]
  have k5 : Below w.heap.size w (w.alloc (.cells (madeCells #[.int .u8 0] (L + 8)) 5)) := (Below.refl _ _).alloc (Nat.le_refl _) _
  have K1 := Lib.hid k1; have K2 := Lib.hid k2; have K3 := Lib.hid k3
  clear k1 k2 k3
  go_wp2_with (first
    | (go_at_call 100; refine (size64 _).mono ?_; rintro e w' ⟨rfl, rfl⟩)
    | ((with_reducible show wpList _ _ _ (⟨some 19, _, _, _, _, _⟩ :: _) _ _); refine wpList_copy_splice (o := ⟨some 19, _, _, _, _, _⟩) rfl (.tmp 17) (.tmp 18) 23 23 rfl 5 Tryz.underlying23 size_u8 (some ⟨w.heap.size, 0, none⟩) a L (L + 8) L cap rfl rfl w.heap.size 0 (madeCells #[.int .u8 0] (L + 8)).toList 5 K1.out (l.map (Value.int .u8)) K2.out (fun h0 => ⟨rfl, K3.out h0⟩) k4 (ints_oneCell _ _) w.heap.size w k5 (Nat.le_refl _) ?_; intro w1 hg1 hb1))
  have own1 : w1.ownsRow w.heap.size 5 1 (.slice (some ⟨w.heap.size, 0, none⟩) L (L + 8)) L (l.map (Value.int .u8)) := by
    refine ⟨by simp [hl], .inr ⟨w.heap.size, L + 8, _, rfl, Nat.le_refl _, hg1.out, by omega, by unfold maxLen; omega, ?_, ?_⟩⟩
    · simp [splice_all, hl, size_madeCells]
    · simp [splice_all, hl]
  have hsz1 : w.heap.size < w1.heap.size := (own1.lt w.heap.size rfl).2
  clear hg1 K1 K2 K3 k4 k5
  go_loopw [6, 22] (fun out i wr => ∃ k : Nat, k ≤ 8 ∧ i = .int .i64 k ∧ out = .slice (some ⟨w.heap.size, 0, none⟩) (L + k) (L + 8) ∧
      wr.ownsRow w.heap.size 5 1 (.slice (some ⟨w.heap.size, 0, none⟩) (L + k) (L + 8)) (L + k) ((l ++ (be 8 x).take k).map (Value.int .u8)) ∧ Below w.heap.size w wr ∧ w.heap.size < wr.heap.size)
    (fun _ i _ => 8 - (intOf i).toNat)
  case atStart => exact ⟨0, by omega, rfl, rfl, by simpa using own1, hb1, hsz1⟩
  case round =>
    obtain ⟨k, hk, rfl, rfl, hown, hbel, hsz⟩ := hrel
    by_cases hlt : k < 8
    · have hap := (hown.alloc (.cells #[.int .u8 (x / 2 ^ (8 * (7 - k)) % 256)] 5))
      have hn1 : ∀ j u, [Value.int .u8 (x / 2 ^ (8 * (7 - k)) % 256)][j]? = some u → (wr.alloc (.cells #[.int .u8 (x / 2 ^ (8 * (7 - k)) % 256)] 5)).cell? ((⟨wr.heap.size, 0, none⟩ : Addr).add j) = some u := by
        intro j u hj
        match j, hj with
        | 0, hj => simp at hj; subst hj; simp [Addr.add]
      have hn2 : ∀ u ∈ [Value.int .u8 (x / 2 ^ (8 * (7 - k)) % 256)], u.oneCell' = true := by intro u hu; simp at hu; subst hu; rfl
      have hbt := be_take_succ 8 x k hlt
      have HAP := Lib.hid hap; have HN1 := Lib.hid hn1; have HN2 := Lib.hid hn2; have HBT := Lib.hid hbt
      clear hap hn1 hn2 hbt
      obtain ⟨i5, hi, hz0, hz1, hz2⟩ := info_parts info5
      have HI := Lib.hid hi
      have HZ := Lib.hid hz1
      clear hi hz0 hz1 hz2
      go_wp2_with (((with_reducible show wpList _ _ _ (⟨some 35, _, _, _, _, _⟩ :: _) _ _); go_loud (refine wpList_append_fits _ rfl (.tmp 25) (.tmp 34) 23 rfl w.heap.size 5 i5 1 Tryz.underlying23 HI.out HZ.out w.heap.size (L + k) (L + 8) _ rfl HAP.out ⟨wr.heap.size, 0, none⟩ 1 1 [.int .u8 (x / 2 ^ (8 * (7 - k)) % 256)] rfl rfl HN1.out HN2.out (by omega) ?_); intro w2 hown2 hg2))
      go_roundw
      case rel =>
        refine ⟨k + 1, by omega, by go_num, rfl, ?_, ?_, ?_⟩
        · rw [HBT.out, ← List.append_assoc, List.map_append]
          exact hown2
        · exact (hbel.alloc (by omega) _).grown hg2 (by simp <;> omega) (fun g hg => by injection hg with hg; omega)
        · have := hg2.size; simp at this; omega
      case measure => simp [intOf] <;> omega
    · have : k = 8 := by omega
      subst this
      go_wp2
      go_ret
      refine ⟨_, rfl, ?_, hbel⟩
      have e : (be 8 x).take 8 = be 8 x := List.take_of_length_le (by rw [length_be]; exact Nat.le_refl _)
      rw [e] at hown
      exact hown
end Go.Proofs.YtkfdcdfaikkneaaGreatDoor
/- Contracts: word.Get at four widths, the document's Get and Put. -/
namespace Go.Proofs.YtkfdcdfaikkneaaGreatDoor
open Go.ChangeShapes Go.WideShapes Go.ChangeAt Go.RowKit
set_option linter.unusedVariables false

/-- The number that bytes write, the greatest first. -/
def numB (l : List Int) : Int := l.foldl (fun s x => s * 256 + x) 0
theorem numB_snoc (l : List Int) (x : Int) : numB (l ++ [x]) = numB l * 256 + x := by simp [numB]
theorem numB_bound {l : List Int} (h : AllB l) : 0 ≤ numB l ∧ numB l < 256 ^ l.length := by
  obtain ⟨n, hn⟩ : ∃ n, n = l.length := ⟨_, rfl⟩
  induction n generalizing l with
  | zero => obtain rfl : l = [] := List.eq_nil_of_length_eq_zero hn.symm; simp [numB]
  | succ n ih =>
    obtain ⟨m, x, rfl⟩ : ∃ m x, l = m ++ [x] := by
      rcases List.eq_nil_or_concat l with rfl | ⟨m, x, e⟩
      · simp at hn
      · exact ⟨m, x, by simpa using e⟩
    have hm : n = m.length := by simp at hn; omega
    have hi := ih (l := m) (fun y hy => h y (List.mem_append_left _ hy)) hm
    have hx := h x (by simp)
    rw [numB_snoc, List.length_append, List.length_singleton, Int.pow_succ]
    generalize (256 : Int) ^ m.length = P at *
    omega
theorem take_snoc_getD {l : List Int} {k : Nat} (h : k < l.length) : l.take (k + 1) = l.take k ++ [l.getD k 0] := by
  rw [List.take_succ_eq_append_getElem h]
  simp [List.getD_eq_getElem?_getD, List.getElem?_eq_getElem h]
theorem numB_take_succ {l : List Int} {k : Nat} (h : k < l.length) : numB (l.take (k + 1)) = numB (l.take k) * 256 + l.getD k 0 := by
  rw [take_snoc_getD h, numB_snoc]
/-- What Get tells. -/
def getV (n : Nat) (l : List Int) : Int := if l.length < n then 0 else numB (l.take n)
theorem getV_few {n : Nat} {l : List Int} (h : l.length < n) : getV n l = 0 := by simp [getV, h]
theorem getV_num {n : Nat} {l : List Int} (h : n ≤ l.length) : getV n l = numB (l.take n) := by simp [getV, Nat.not_lt.2 h]
theorem getV_bound {n : Nat} {l : List Int} (h : AllB l) : 0 ≤ getV n l ∧ getV n l < 256 ^ n := by
  by_cases hl : l.length < n
  · rw [getV_few hl]
    exact ⟨Int.le_refl _, Int.pow_pos (by omega)⟩
  · rw [getV_num (by omega)]
    have := numB_bound (h.take n)
    rw [List.length_take, Nat.min_eq_left (by omega)] at this
    exact this
theorem or_byte {S X : Int} (h0 : 0 ≤ S) (h1 : S < 72057594037927936) (hx : 0 ≤ X ∧ X < 256) : bits .or .u64 (S * 256) X = S * 256 + X := by
  obtain ⟨s, rfl⟩ := Int.eq_ofNat_of_zero_le h0
  obtain ⟨x, rfl⟩ := Int.eq_ofNat_of_zero_le hx.1
  rw [show ((s : Int) * 256) = ((s * 256 : Nat) : Int) by simp, u64_or_nat _ _ (by omega) (by omega), nat_join 8 _ _ (by omega) (by omega)]
  simp
theorem ret_tup {k : IntKind} {a b : Int} {c d : Bool} (h : a = b) (g : c = d) : Ending.returned (.tuple #[.int k a, .bool c]) = .returned (.tuple #[.int k b, .bool d]) := by rw [h, g]
theorem pow_le_56 {k n : Nat} (h : k < n) (hn : n ≤ 8) : (256 : Int) ^ k ≤ 72057594037927936 := by
  have h1 : (256 : Nat) ^ k ≤ 72057594037927936 := Nat.le_trans (Nat.pow_le_pow_right (by omega) (show k ≤ 7 by omega)) (by decide)
  have h2 : ((256 ^ k : Nat) : Int) ≤ ((72057594037927936 : Nat) : Int) := Int.ofNat_le.2 h1
  rw [Int.natCast_pow] at h2
  exact h2

theorem get16 (a : Option Addr) (L c : Nat) (l : List Int) (w : World) (hl : l.length = L) (hB : AllB l) (hb : Bs w w.heap.size a l) (hL : L ≤ 9223372036854775807) :
    Calls Tryz.prog 101 #[.slice a L c] w fun e w' => e = .returned (.tuple #[.int .u16 (getV 2 l), .bool (decide (2 ≤ L))]) ∧ w = w' := by
  by_cases hs : L < 2
  · have HV := Lib.hid (getV_few (n := 2) (l := l) (by omega))
    have HD := Lib.hid (decide_eq_false (show ¬ 2 ≤ L by omega))
    go_enter Tryz.func101, Tryz.ntmps101
    go_wp2_with (go_at_call 108; refine (size16 _).mono ?_; rintro e w' ⟨rfl, rfl⟩)
    go_ret2
    exact ⟨ret_tup HV.out.symm HD.out.symm, rfl⟩
  · have HV := Lib.hid (getV_num (n := 2) (l := l) (by omega))
    have HD := Lib.hid (decide_eq_true (show 2 ≤ L by omega))
    have hs' : (2 : Int) ≤ (L : Int) := by omega
    go_enter Tryz.func101, Tryz.ntmps101
    go_wp2_with (go_at_call 108; refine (size16 _).mono ?_; rintro e w' ⟨rfl, rfl⟩)
    go_loop [5, 13] (fun v i => ∃ j : Nat, j ≤ 2 ∧ i = .int .i64 j ∧ v = .int .u64 (numB (l.take j))) (fun _ i => 2 - (intOf i).toNat)
    case atStart => exact ⟨0, by omega, rfl, rfl⟩
    case round =>
      obtain ⟨j, hj, rfl, rfl⟩ := hrel
      obtain ⟨S, hS⟩ : ∃ S, S = numB (l.take j) := ⟨_, rfl⟩
      have hbd := numB_bound (hB.take j)
      rw [List.length_take, Nat.min_eq_left (by omega), ← hS] at hbd
      rw [← hS]
      by_cases hlt : j < 2
      · have hp := pow_le_56 hlt (by omega)
        obtain ⟨b, off, rfl, _, hc⟩ := hb.at_ (k := j) (by omega)
        have hxb := allB_getD hB j
        have HN := Lib.hid (numB_take_succ (l := l) (k := j) (by omega))
        obtain ⟨X, hX⟩ : ∃ X, X = l.getD j 0 := ⟨_, rfl⟩
        rw [← hX] at hc hxb
        have HX := Lib.hid hX
        have HS := Lib.hid hS
        have s0 : 0 ≤ S := hbd.1
        have s1 : S < 72057594037927936 := by omega
        have hor := or_byte s0 s1 hxb
        clear hX hS hbd hp
        go_wp2
        go_round
        case rel => exact ⟨j + 1, by omega, by go_num, by rw [HN.out, ← HS.out, ← HX.out]⟩
        case measure => simp [intOf] <;> omega
      · obtain rfl : 2 = j := by omega
        have s0 : 0 ≤ S := hbd.1
        have s1 : S < 65536 := hbd.2
        have HS := Lib.hid hS
        clear hS hbd
        go_wp2
        go_ret2
        exact ⟨ret_tup (HS.out.trans HV.out.symm) HD.out.symm, rfl⟩

theorem get32 (a : Option Addr) (L c : Nat) (l : List Int) (w : World) (hl : l.length = L) (hB : AllB l) (hb : Bs w w.heap.size a l) (hL : L ≤ 9223372036854775807) :
    Calls Tryz.prog 78 #[.slice a L c] w fun e w' => e = .returned (.tuple #[.int .u32 (getV 4 l), .bool (decide (4 ≤ L))]) ∧ w = w' := by
  by_cases hs : L < 4
  · have HV := Lib.hid (getV_few (n := 4) (l := l) (by omega))
    have HD := Lib.hid (decide_eq_false (show ¬ 4 ≤ L by omega))
    go_enter Tryz.func78, Tryz.ntmps78
    go_wp2_with (go_at_call 89; refine (size32 _).mono ?_; rintro e w' ⟨rfl, rfl⟩)
    go_ret2
    exact ⟨ret_tup HV.out.symm HD.out.symm, rfl⟩
  · have HV := Lib.hid (getV_num (n := 4) (l := l) (by omega))
    have HD := Lib.hid (decide_eq_true (show 4 ≤ L by omega))
    have hs' : (4 : Int) ≤ (L : Int) := by omega
    go_enter Tryz.func78, Tryz.ntmps78
    go_wp2_with (go_at_call 89; refine (size32 _).mono ?_; rintro e w' ⟨rfl, rfl⟩)
    go_loop [5, 13] (fun v i => ∃ j : Nat, j ≤ 4 ∧ i = .int .i64 j ∧ v = .int .u64 (numB (l.take j))) (fun _ i => 4 - (intOf i).toNat)
    case atStart => exact ⟨0, by omega, rfl, rfl⟩
    case round =>
      obtain ⟨j, hj, rfl, rfl⟩ := hrel
      obtain ⟨S, hS⟩ : ∃ S, S = numB (l.take j) := ⟨_, rfl⟩
      have hbd := numB_bound (hB.take j)
      rw [List.length_take, Nat.min_eq_left (by omega), ← hS] at hbd
      rw [← hS]
      by_cases hlt : j < 4
      · have hp := pow_le_56 hlt (by omega)
        obtain ⟨b, off, rfl, _, hc⟩ := hb.at_ (k := j) (by omega)
        have hxb := allB_getD hB j
        have HN := Lib.hid (numB_take_succ (l := l) (k := j) (by omega))
        obtain ⟨X, hX⟩ : ∃ X, X = l.getD j 0 := ⟨_, rfl⟩
        rw [← hX] at hc hxb
        have HX := Lib.hid hX
        have HS := Lib.hid hS
        have s0 : 0 ≤ S := hbd.1
        have s1 : S < 72057594037927936 := by omega
        have hor := or_byte s0 s1 hxb
        clear hX hS hbd hp
        go_wp2
        go_round
        case rel => exact ⟨j + 1, by omega, by go_num, by rw [HN.out, ← HS.out, ← HX.out]⟩
        case measure => simp [intOf] <;> omega
      · obtain rfl : 4 = j := by omega
        have s0 : 0 ≤ S := hbd.1
        have s1 : S < 4294967296 := hbd.2
        have HS := Lib.hid hS
        clear hS hbd
        go_wp2
        go_ret2
        exact ⟨ret_tup (HS.out.trans HV.out.symm) HD.out.symm, rfl⟩

theorem get64 (a : Option Addr) (L c : Nat) (l : List Int) (w : World) (hl : l.length = L) (hB : AllB l) (hb : Bs w w.heap.size a l) (hL : L ≤ 9223372036854775807) :
    Calls Tryz.prog 84 #[.slice a L c] w fun e w' => e = .returned (.tuple #[.int .u64 (getV 8 l), .bool (decide (8 ≤ L))]) ∧ w = w' := by
  by_cases hs : L < 8
  · have HV := Lib.hid (getV_few (n := 8) (l := l) (by omega))
    have HD := Lib.hid (decide_eq_false (show ¬ 8 ≤ L by omega))
    go_enter Tryz.func84, Tryz.ntmps84
    go_wp2_with (go_at_call 100; refine (size64 _).mono ?_; rintro e w' ⟨rfl, rfl⟩)
    go_ret2
    exact ⟨ret_tup HV.out.symm HD.out.symm, rfl⟩
  · have HV := Lib.hid (getV_num (n := 8) (l := l) (by omega))
    have HD := Lib.hid (decide_eq_true (show 8 ≤ L by omega))
    have hs' : (8 : Int) ≤ (L : Int) := by omega
    go_enter Tryz.func84, Tryz.ntmps84
    go_wp2_with (go_at_call 100; refine (size64 _).mono ?_; rintro e w' ⟨rfl, rfl⟩)
    go_loop [5, 13] (fun v i => ∃ j : Nat, j ≤ 8 ∧ i = .int .i64 j ∧ v = .int .u64 (numB (l.take j))) (fun _ i => 8 - (intOf i).toNat)
    case atStart => exact ⟨0, by omega, rfl, rfl⟩
    case round =>
      obtain ⟨j, hj, rfl, rfl⟩ := hrel
      obtain ⟨S, hS⟩ : ∃ S, S = numB (l.take j) := ⟨_, rfl⟩
      have hbd := numB_bound (hB.take j)
      rw [List.length_take, Nat.min_eq_left (by omega), ← hS] at hbd
      rw [← hS]
      by_cases hlt : j < 8
      · have hp := pow_le_56 hlt (by omega)
        obtain ⟨b, off, rfl, _, hc⟩ := hb.at_ (k := j) (by omega)
        have hxb := allB_getD hB j
        have HN := Lib.hid (numB_take_succ (l := l) (k := j) (by omega))
        obtain ⟨X, hX⟩ : ∃ X, X = l.getD j 0 := ⟨_, rfl⟩
        rw [← hX] at hc hxb
        have HX := Lib.hid hX
        have HS := Lib.hid hS
        have s0 : 0 ≤ S := hbd.1
        have s1 : S < 72057594037927936 := by omega
        have hor := or_byte s0 s1 hxb
        clear hX hS hbd hp
        go_wp2
        go_round
        case rel => exact ⟨j + 1, by omega, by go_num, by rw [HN.out, ← HS.out, ← HX.out]⟩
        case measure => simp [intOf] <;> omega
      · obtain rfl : 8 = j := by omega
        have s0 : 0 ≤ S := hbd.1
        have s1 : S < 18446744073709551616 := hbd.2
        have HS := Lib.hid hS
        clear hS hbd
        go_wp2
        go_ret2
        exact ⟨ret_tup (HS.out.trans HV.out.symm) HD.out.symm, rfl⟩

end Go.Proofs.YtkfdcdfaikkneaaGreatDoor
/- The contract of the document's Put. -/
namespace Go.Proofs.YtkfdcdfaikkneaaGreatDoor
open Go.ChangeShapes Go.WideShapes Go.ChangeAt Go.RowKit
set_option linter.unusedVariables false

theorem allB_be (n : Nat) (x : Int) : AllB (be n x) := by
  intro v hv
  simp only [be, List.mem_map] at hv
  obtain ⟨i, _, rfl⟩ := hv
  exact ⟨Int.emod_nonneg _ (by omega), Int.emod_lt_of_pos _ (by omega)⟩
/-- A row that is filled from its end on. -/
def tailed (L : List Int) (j : Nat) : List Int := List.replicate j 0 ++ L.drop j
theorem length_tailed {L : List Int} {j : Nat} (h : j ≤ L.length) : (tailed L j).length = L.length := by simp [tailed]; omega
theorem tailed_set {L : List Int} {m : Nat} (h : m < L.length) : (tailed L (m + 1)).set m (L.getD m 0) = tailed L m := by
  have e : L.getD m 0 = L[m] := by simp [List.getD_eq_getElem?_getD, List.getElem?_eq_getElem h]
  unfold tailed
  rw [List.replicate_succ', List.append_assoc, List.set_append_right _ _ (by simp), e, List.drop_eq_getElem_cons h]
  simp
theorem div_step (X : Int) (n m : Nat) (h : m < n) : X / 2 ^ (8 * (n - (m + 1))) / 256 = X / 2 ^ (8 * (n - m)) := by
  rw [show (256 : Int) = 2 ^ 8 by rfl, Int.ediv_ediv_of_nonneg (Int.pow_nonneg (by omega)), ← Int.pow_add, show 8 * (n - (m + 1)) + 8 = 8 * (n - m) by omega]
theorem refPut (n : Nat) (hn : n ≤ 8) (X : Int) (h0 : 0 ≤ X) (h1 : X < 18446744073709551616) (w : World) :
    Calls Tryz.prog 37 #[.int .u64 X, .int .i64 (n : Nat)] w fun e w' => ∃ g, e = .returned (.slice (some ⟨g, 0, none⟩) n n) ∧
      w'.ownsRow w.heap.size 5 1 (.slice (some ⟨g, 0, none⟩) n n) n ((be n X).map (Value.int .u8)) ∧ Below w.heap.size w w' := by
  have hmk := run_make_row' (P := Tryz.prog) 23 5 (.int .u8 0) 1 Tryz.underlying23 info5 rfl .i64 .i64 n (by omega) (by omega)
  have HO := Lib.hid (own_made (w := w) (e := 5) (n := n) (by unfold maxLen; omega))
  go_enter Tryz.func37, Tryz.ntmps37
  go_wp2
  go_loopw [0, 6] (fun x i wr => ∃ j : Nat, j ≤ n ∧ i = .int .i64 ((j : Int) - 1) ∧ x = .int .u64 (X / 2 ^ (8 * (n - j))) ∧
      wr.ownsRow w.heap.size 5 1 (.slice (some ⟨w.heap.size, 0, none⟩) n n) n ((tailed (be n X) j).map (Value.int .u8)) ∧ Below w.heap.size w wr)
    (fun _ i _ => (intOf i + 1).toNat)
  case atStart =>
    refine ⟨n, Nat.le_refl _, rfl, by simp, ?_, (Below.refl _ _).alloc (Nat.le_refl _) _⟩
    have e : tailed (be n X) n = List.replicate n 0 := by unfold tailed; rw [List.drop_of_length_le (by rw [length_be]; exact Nat.le_refl _), List.append_nil]
    rw [e]; exact HO.out
  case round =>
    obtain ⟨j, hj, rfl, rfl, hown, hbel⟩ := hrel
    clear hmk
    rcases Nat.eq_zero_or_pos j with hz | hz
    · subst hz
      go_wp2
      go_ret
      refine ⟨_, rfl, ?_, hbel⟩
      have e : tailed (be n X) 0 = be n X := by simp [tailed]
      rw [e] at hown
      exact hown
    · obtain ⟨m, rfl⟩ : ∃ m, j = m + 1 := ⟨j - 1, by omega⟩
      have ej : ((m + 1 : Nat) : Int) - 1 = m := by omega
      rw [ej]
      have hd := Lib.hid (div_step X n m (by omega))
      have hv := Lib.hid (be_getD n X m (by omega))
      obtain ⟨Y, hY⟩ : ∃ Y, Y = X / 2 ^ (8 * (n - (m + 1))) := ⟨_, rfl⟩
      have hY0 : 0 ≤ Y := by rw [hY]; exact Int.ediv_nonneg h0 (Int.pow_nonneg (by omega))
      have hY1 : Y < 18446744073709551616 := by rw [hY]; exact Int.lt_of_le_of_lt (Int.ediv_le_self _ h0) h1
      rw [← hY]
      have HY := Lib.hid hY
      have hcg := own_cells hown m (by omega)
      rw [Nat.zero_add] at hcg
      have hfz := hown.frozenAt m
      have hval : (be n X).getD m 0 = Y % 256 := by rw [hv.out, hY, show n - 1 - m = n - (m + 1) by omega]
      have hst := (hown.stored m (.int .u8 (Y % 256))).1
      rw [map_set_u8, ← hval, tailed_set (by rw [length_be]; omega), hval] at hst
      have HST := Lib.hid hst
      have HB := Lib.hid (hbel.setCell (p := ⟨w.heap.size, m, none⟩) (Nat.le_refl _) (.int .u8 (Y % 256)))
      clear hown hbel hst hval hY
      have q1 : (m : Int) < (n : Int) := by omega
      go_wp2
      go_roundw
      case rel => exact ⟨m, by omega, by go_num, by rw [← hd.out, ← HY.out], HST.out, HB.out⟩
      case measure => simp [intOf] <;> omega
end Go.Proofs.YtkfdcdfaikkneaaGreatDoor
