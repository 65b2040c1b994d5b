/- Contracts of copied, Sum; a row and x times another, as numbers of the field. -/
import Derived.Test.YtmhknggjpggagaaRowk
import Derived.StillTailTactics
import Derived.Deep.RegionWith
import Derived.Deep.OwnRows
namespace Go.Proofs.Ytmhknggjpggagaa
open Go.ChangeShapes Go.WideShapes Go.ChangeAt Go.RowKit
set_option linter.unusedVariables false
set_option maxRecDepth 100000

theorem fcopied_any (a : Option Addr) (L cap : Nat) (l : List Int) (w : World) (hx : Arg8 w a L cap l) (hL : L ≤ 140737488355328) :
    Calls Try.prog 48 #[.slice a L cap] w fun e w' => ∃ g, e = .returned (.slice (some ⟨g, 0, none⟩) L L) ∧
      w'.ownsRow w.heap.size 5 1 (.slice (some ⟨g, 0, none⟩) L L) L (l.map (Value.int .u8)) ∧ Below w.heap.size w w' := by
  obtain ⟨hl, hb8, hb, hc1, hc2⟩ := hx
  have hmk := run_make_row' (P := Try.prog) 22 5 (.int .u8 0) 1 Try.underlying22 info5 rfl .i64 .i64 L (by omega) (by omega)
  have k1 : (w.alloc (.cells (madeCells #[.int .u8 0] L) 5)).heap[w.heap.size]? = some (.cells (madeCells #[.int .u8 0] L).toList.toArray 5 (0, 0)) := by rw [Array.toArray_toList]; exact heap_alloc_new w _
  have k2 : (l.map (Value.int .u8)).length = Nat.min L L := by simp [hl]
  have k3 : 0 < (l.map (Value.int .u8)).length → ∃ ad, a = some ad ∧ ∀ j v, (l.map (Value.int .u8))[j]? = some v → (w.alloc (.cells (madeCells #[.int .u8 0] L) 5)).cell? (ad.add j) = some v :=
    fun h0 => (hb.below ((Below.refl _ _).alloc (Nat.le_refl _) _)).cells h0
  have k4 : 0 + (l.map (Value.int .u8)).length ≤ (madeCells #[.int .u8 0] L).toList.length := by simp [hl, size_madeCells]
  have k5 : Below w.heap.size w (w.alloc (.cells (madeCells #[.int .u8 0] L) 5)) := (Below.refl _ _).alloc (Nat.le_refl _) _
  have K1 := Lib.hid k1; have K2 := Lib.hid k2; have K3 := Lib.hid k3; have HL := Lib.hid hl
  clear k1 k2 k3 hl
  go_enter Try.func48, Try.ntmps48
  go_wp2_with ((with_reducible show wpList _ _ _ (⟨some 9, _, _, _, _, _⟩ :: _) _ _); refine wpList_copy_splice (o := ⟨some 9, _, _, _, _, _⟩) rfl (.tmp 7) (.tmp 8) 22 22 rfl 5 Try.underlying22 size_u8 (some ⟨w.heap.size, 0, none⟩) a L L L cap rfl rfl w.heap.size 0 (madeCells #[.int .u8 0] L).toList 5 K1.out (l.map (Value.int .u8)) K2.out (fun h0 => ⟨rfl, K3.out h0⟩) k4 (ints_oneCell _ _) w.heap.size w k5 (Nat.le_refl _) ?_; intro w1 hg1 hb1)
  go_ret
  refine ⟨w.heap.size, rfl, ⟨by simp [HL.out], .inr ⟨w.heap.size, L, _, rfl, Nat.le_refl _, hg1.out, Nat.le_refl _, by unfold maxLen; omega, ?_, ?_⟩⟩, hb1⟩
  · simp [splice_all, HL.out, size_madeCells]
  · simp [splice_all, HL.out]

/-- Each byte, and c times the other row's at its place added. -/
def sumL (l : List Int) (c : Int) (m : List Int) : List Int := (List.range l.length).map fun i => if i < m.length then xoI (l.getD i 0) (gmI c (m.getD i 0)) else l.getD i 0
theorem length_sumL (l : List Int) (c : Int) (m : List Int) : (sumL l c m).length = l.length := by simp [sumL]
theorem sumL_getD {l : List Int} (c : Int) (m : List Int) {i : Nat} (h : i < l.length) : (sumL l c m).getD i 0 = if i < m.length then xoI (l.getD i 0) (gmI c (m.getD i 0)) else l.getD i 0 := by
  simp only [sumL, List.getD_eq_getElem?_getD, List.getElem?_map, List.getElem?_range h, Option.map_some, Option.getD_some]
theorem allB_sumL {l : List Int} (c : Int) (m : List Int) (hl : AllB l) : AllB (sumL l c m) := by
  intro x hx
  obtain ⟨i, _, rfl⟩ := List.mem_map.1 hx
  split
  · exact xoI_bd (allB_getD hl i) (gmI_bd _ _)
  · exact allB_getD hl i

set_option maxHeartbeats 1000000 in
theorem fsum_any (b : Nat) (c : Int) (a1 : Option Addr) (L1 cap1 : Nat) (l : List Int) (a2 : Option Addr) (L2 cap2 : Nat) (m : List Int) (w : World) (hf : Fld w b) (hc : 0 ≤ c ∧ c < 256) (hx : Arg8 w a1 L1 cap1 l) (hy : Arg8 w a2 L2 cap2 m) (hL : L1 ≤ 140737488355328) :
    Calls Try.prog 34 #[.pointer (some ⟨b, 0, none⟩), .slice a1 L1 cap1, .int .u8 c, .slice a2 L2 cap2] w fun e w' => ∃ g, e = .returned (.slice (some ⟨g, 0, none⟩) L1 L1) ∧
      w'.ownsRow w.heap.size 5 1 (.slice (some ⟨g, 0, none⟩) L1 L1) L1 ((sumL l c m).map (Value.int .u8)) ∧ Below w.heap.size w w' := by
  have HF := Lib.hid hf
  have HX := Lib.hid hx
  have HY := Lib.hid hy
  have HL := Lib.hid hx.1
  have HL2 := Lib.hid hy.1
  have hcap := hx.2.2.2
  have hcap2 := hy.2.2.2
  clear hf hx hy
  go_enter Try.func34, Try.ntmps34
  go_wp2_with (go_at_call 48; refine (fcopied_any _ _ _ l _ HX.out hL).mono ?_; rintro e w1 ⟨g, rfl, hown, hbel⟩)
  case inl =>
    have hM1 : L2 ≤ L1 := by omega
    have hM2 : L2 ≤ L2 := by omega
    have hM3 : ∀ i, L2 ≤ i → i < L1 → ¬ i < L2 := fun i h1 h2 => by omega
    have HM3 := Lib.hid hM3
    clear hM3
    have hg0 : w.heap.size ≤ g := (hown.lt g rfl).1
    go_loopw [20] (fun i wr => ∃ (k : Nat) (cur : List Int), k ≤ L2 ∧ i = .int .i64 (k : Nat) ∧ wr.ownsRow w.heap.size 5 1 (.slice (some ⟨g, 0, none⟩) L1 L1) L1 (cur.map (Value.int .u8)) ∧ Hid (Mix (sumL l c m) l cur k) ∧ Below w.heap.size w wr)
      (fun i _ => L2 - (intOf i).toNat)
    case atStart => exact ⟨0, l, Nat.zero_le _, rfl, hown, Lib.hid (Mix.zero _ _), hbel⟩
    case round =>
      obtain ⟨k, cur, hk, rfl, hown, hM, hbel⟩ := hrel
      by_cases hlt : k < L2
      · obtain ⟨bb, ob, rfl, hbb, hcb⟩ := (HY.out.2.2.1.below hbel).at_ (k := k) (by rw [HL2.out]; omega)
        have hcl : cur.length = L1 := by rw [hM.out.1, HL.out]
        have hcg := own_cells hown k (by omega)
        rw [Nat.zero_add] at hcg
        have hfz := hown.frozenAt k
        have hfw := HF.out.below hbel
        have hst := Lib.hid ((hown.stored k (.int .u8 ((sumL l c m).getD k 0))).1)
        have hb2 := Lib.hid (hbel.setCell (p := ⟨g, k, none⟩) hg0 (.int .u8 ((sumL l c m).getD k 0)))
        have hN := Lib.hid (hM.out.next (by rw [HL.out]; omega))
        have hcur := hM.out.2 k (by rw [HL.out]; omega)
        rw [if_neg (by omega)] at hcur
        have wX := allB_getD HX.out.2.1 k
        have wY := allB_getD HY.out.2.1 k
        have hsc := sumL_getD c m (l := l) (i := k) (by rw [HL.out]; omega)
        rw [if_pos (by rw [HL2.out]; omega)] at hsc
        rw [hcur] at hcg
        rw [hsc] at hst hb2
        have HS := Lib.hid hsc
        obtain ⟨X, hX⟩ : ∃ X, X = l.getD k 0 := ⟨_, rfl⟩
        obtain ⟨Y, hY⟩ : ∃ Y, Y = m.getD k 0 := ⟨_, rfl⟩
        rw [← hX] at hcg wX hst hb2
        rw [← hY] at hcb wY hst hb2
        have HXX := Lib.hid hX
        have HYY := Lib.hid hY
        have wG := gmI_bd c Y
        clear hX hY hcl hcur hsc hown hbel
        have q1 : (k : Int) < (L1 : Int) := by omega
        have q2 : (k : Int) < (L2 : Int) := by omega
        have q3 : (0 : Int) ≤ (k : Int) := by omega
        have hfd : Fld wr.drew b := hfw
        go_wp2_with fail
        go_region_with (first
          | (go_at_call 25; refine (mul_I _ _ _ _ hfd hc wY).mono ?_; rintro e w' ⟨rfl, rfl⟩)
          | (go_at_call 43; refine (add_I _ _ wX wG _).mono ?_; rintro e w' ⟨rfl, rfl⟩))
        all_goals
          go_wp2
          go_roundw
          case rel => exact ⟨k + 1, cur.set k ((sumL l c m).getD k 0), by omega, by go_num, by rw [← map_set_u8, HS.out, ← HXX.out, ← HYY.out]; exact hst.out, hN, hb2.out.drew⟩
          case measure => simp [intOf]; omega
      · obtain rfl : k = L2 := by omega
        have he := hM.out.all (by rw [length_sumL]) (fun i h1 h2 => by rw [sumL_getD c m h2, if_neg (by rw [HL2.out]; exact HM3.out i h1 (by rw [← HL.out]; exact h2))])
        have HO := Lib.hid hown
        have HB := Lib.hid hbel
        have HE := Lib.hid he
        clear hown hbel he
        go_wp2
        go_ret
        exact ⟨g, rfl, by rw [← HE.out]; exact HO.out, HB.out⟩
  case inr =>
    have hM1 : L1 ≤ L1 := by omega
    have hM2 : L1 ≤ L2 := by omega
    have hM3 : ∀ i, L1 ≤ i → i < L1 → ¬ i < L2 := fun i h1 h2 => by omega
    have HM3 := Lib.hid hM3
    clear hM3
    have hg0 : w.heap.size ≤ g := (hown.lt g rfl).1
    go_loopw [20] (fun i wr => ∃ (k : Nat) (cur : List Int), k ≤ L1 ∧ i = .int .i64 (k : Nat) ∧ wr.ownsRow w.heap.size 5 1 (.slice (some ⟨g, 0, none⟩) L1 L1) L1 (cur.map (Value.int .u8)) ∧ Hid (Mix (sumL l c m) l cur k) ∧ Below w.heap.size w wr)
      (fun i _ => L1 - (intOf i).toNat)
    case atStart => exact ⟨0, l, Nat.zero_le _, rfl, hown, Lib.hid (Mix.zero _ _), hbel⟩
    case round =>
      obtain ⟨k, cur, hk, rfl, hown, hM, hbel⟩ := hrel
      by_cases hlt : k < L1
      · obtain ⟨bb, ob, rfl, hbb, hcb⟩ := (HY.out.2.2.1.below hbel).at_ (k := k) (by rw [HL2.out]; omega)
        have hcl : cur.length = L1 := by rw [hM.out.1, HL.out]
        have hcg := own_cells hown k (by omega)
        rw [Nat.zero_add] at hcg
        have hfz := hown.frozenAt k
        have hfw := HF.out.below hbel
        have hst := Lib.hid ((hown.stored k (.int .u8 ((sumL l c m).getD k 0))).1)
        have hb2 := Lib.hid (hbel.setCell (p := ⟨g, k, none⟩) hg0 (.int .u8 ((sumL l c m).getD k 0)))
        have hN := Lib.hid (hM.out.next (by rw [HL.out]; omega))
        have hcur := hM.out.2 k (by rw [HL.out]; omega)
        rw [if_neg (by omega)] at hcur
        have wX := allB_getD HX.out.2.1 k
        have wY := allB_getD HY.out.2.1 k
        have hsc := sumL_getD c m (l := l) (i := k) (by rw [HL.out]; omega)
        rw [if_pos (by rw [HL2.out]; omega)] at hsc
        rw [hcur] at hcg
        rw [hsc] at hst hb2
        have HS := Lib.hid hsc
        obtain ⟨X, hX⟩ : ∃ X, X = l.getD k 0 := ⟨_, rfl⟩
        obtain ⟨Y, hY⟩ : ∃ Y, Y = m.getD k 0 := ⟨_, rfl⟩
        rw [← hX] at hcg wX hst hb2
        rw [← hY] at hcb wY hst hb2
        have HXX := Lib.hid hX
        have HYY := Lib.hid hY
        have wG := gmI_bd c Y
        clear hX hY hcl hcur hsc hown hbel
        have q1 : (k : Int) < (L1 : Int) := by omega
        have q2 : (k : Int) < (L2 : Int) := by omega
        have q3 : (0 : Int) ≤ (k : Int) := by omega
        have hfd : Fld wr.drew b := hfw
        go_wp2_with fail
        go_region_with (first
          | (go_at_call 25; refine (mul_I _ _ _ _ hfd hc wY).mono ?_; rintro e w' ⟨rfl, rfl⟩)
          | (go_at_call 43; refine (add_I _ _ wX wG _).mono ?_; rintro e w' ⟨rfl, rfl⟩))
        all_goals
          go_wp2
          go_roundw
          case rel => exact ⟨k + 1, cur.set k ((sumL l c m).getD k 0), by omega, by go_num, by rw [← map_set_u8, HS.out, ← HXX.out, ← HYY.out]; exact hst.out, hN, hb2.out.drew⟩
          case measure => simp [intOf]; omega
      · obtain rfl : k = L1 := by omega
        have he := hM.out.all (by rw [length_sumL]) (fun i h1 h2 => by rw [sumL_getD c m h2, if_neg (by rw [HL2.out]; exact HM3.out i h1 (by rw [← HL.out]; exact h2))])
        have HO := Lib.hid hown
        have HB := Lib.hid hbel
        have HE := Lib.hid he
        clear hown hbel he
        go_wp2
        go_ret
        exact ⟨g, rfl, by rw [← HE.out]; exact HO.out, HB.out⟩
end Go.Proofs.Ytmhknggjpggagaa
