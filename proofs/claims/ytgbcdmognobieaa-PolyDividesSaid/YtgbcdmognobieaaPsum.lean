/- Contract of poly's Add; the laws' lives. -/
import Derived.Test.YtgbcdmognobieaaPmul
namespace Go.Proofs.Ytgbcdmognobieaa
open Go.ChangeShapes Go.WideShapes Go.ChangeAt Go.RowKit Go.Shelf GF
set_option linter.unusedVariables false

/-- P, and noughts behind it. -/
def padL (P : List GF) (M : Nat) : List GF := P ++ List.replicate (M - P.length) 0
theorem length_padL {P : List GF} {M : Nat} (h : P.length ≤ M) : (padL P M).length = M := by simp [padL]; omega
theorem co_padL (P : List GF) (M k : Nat) : co (padL P M) k = co P k := by
  unfold padL
  by_cases h : k < P.length
  · simp [co, List.getD_eq_getElem?_getD, List.getElem?_append_left h]
  · rw [co_ge (l := P) (by omega)]
    have : co (P ++ List.replicate (M - P.length) 0) k = co (List.replicate (M - P.length) 0) (k - P.length) := by
      simp [co, List.getD_eq_getElem?_getD, List.getElem?_append_right (Nat.le_of_not_lt h)]
    rw [this, co_replicate]
theorem pad_row {w1 : World} {g M : Nat} {P : List GF} (hg : w1.heap[g]? = some (.cells (splice (madeCells #[Value.int .u8 0] M).toList 0 ((iL P).map (Value.int .u8))).toArray 5 (0, 0))) (hl : P.length ≤ M) (hm : M ≤ 140737488355328) :
    w1.ownsRow g 5 1 (.slice (some ⟨g, 0, none⟩) M M) M ((iL (padL P M)).map (Value.int .u8)) := by
  rw [splice_all, replicate_cells] at hg
  have e : ((iL P).map (Value.int .u8)) ++ ((List.replicate M (0 : Int)).map (Value.int .u8)).drop ((iL P).map (Value.int .u8)).length = (iL (padL P M)).map (Value.int .u8) := by
    simp [padL, iL, List.map_replicate, toI_zero]
  rw [e] at hg
  have hL : (iL (padL P M)).length = M := by rw [length_iL, length_padL hl]
  refine ⟨by simp [hL], .inr ⟨g, M, _, rfl, Nat.le_refl _, hg, Nat.le_refl _, by unfold maxLen; omega, by simp [hL], ?_⟩⟩
  rw [List.take_of_length_le (by simp [hL])]
theorem tr_sum {P Q : List GF} {M : Nat} (hP : P.length ≤ M) (hQ : Q.length ≤ M) : tr (axp (padL P M) 0 1 Q) = tr (addL P Q) := by
  apply tr_ext
  intro k
  rw [co_axp (by rw [length_padL hP]; omega), if_pos (Nat.zero_le _), Nat.sub_zero, co_padL, co_addL, GF.one_mul]

set_option maxHeartbeats 1000000 in
theorem padd_lt (a : Option Addr) (L cap : Nat) (P : List GF) (a2 : Option Addr) (L2 cap2 : Nat) (Q : List GF) (w : World) (hx : Pa w a L cap P) (hy : Pa w a2 L2 cap2 Q) (hL : L ≤ 140737488355328) (hL2 : L2 ≤ 140737488355328) (hc : L < L2) :
    Calls Try.prog 12 #[.slice a L cap, .slice a2 L2 cap2] w fun e w' => ∃ v, e = .returned v ∧ w'.ownsRow w.heap.size 5 1 v (tr (addL P Q)).length ((iL (tr (addL P Q))).map (Value.int .u8)) ∧ Below w.heap.size w w' := by
  have hl := hx.len
  have hl2 := hy.len
  have hM1 : L ≤ L2 := by omega
  have hM2 : L2 ≤ L2 := by omega
  have qc : (L : Int) < (L2 : Int) := by omega
  have hsum := tr_sum (P := P) (Q := Q) (M := L2) (by omega) (by omega)
  have HSum := Lib.hid hsum
  have hmk := run_make_row' (P := Try.prog) 22 5 (.int .u8 0) 1 Try.underlying22 info5 rfl .i64 .i64 L2 (by omega) (by omega)
  have k1 : (w.alloc (.cells (madeCells #[.int .u8 0] L2) 5)).heap[w.heap.size]? = some (.cells (madeCells #[.int .u8 0] L2).toList.toArray 5 (0, 0)) := by rw [Array.toArray_toList]; exact heap_alloc_new w _
  have k2 : ((iL P).map (Value.int .u8)).length = Nat.min L L2 := by rw [List.length_map, length_iL, hl]; exact (Nat.min_eq_left hM1).symm
  have k5 : Below w.heap.size w (w.alloc (.cells (madeCells #[.int .u8 0] L2) 5)) := (Below.refl _ _).alloc (Nat.le_refl _) _
  have k3 : 0 < ((iL P).map (Value.int .u8)).length → ∃ ad, a = some ad ∧ ∀ j v, ((iL P).map (Value.int .u8))[j]? = some v → (w.alloc (.cells (madeCells #[.int .u8 0] L2) 5)).cell? (ad.add j) = some v :=
    fun h0 => (hx.1.2.2.1.below k5).cells h0
  have k4 : 0 + ((iL P).map (Value.int .u8)).length ≤ (madeCells #[.int .u8 0] L2).toList.length := by simp [length_iL, hl, size_madeCells]; try omega
  have K1 := Lib.hid k1; have K2 := Lib.hid k2; have K3 := Lib.hid k3; have K4 := Lib.hid k4; have K5 := Lib.hid k5
  have HX := Lib.hid hx; have HY := Lib.hid hy; have HL := Lib.hid hl; have HL2 := Lib.hid hl2
  have hcap := hx.1.2.2.2
  have hcap2 := hy.1.2.2.2
  clear k1 k2 k3 k4 k5 hx hy hl hl2 hsum hc
  go_enter Try.func12, Try.ntmps12
  go_wp2_with (first
    | ((with_reducible show wpList _ _ _ (⟨some 16, _, _, _, _, _⟩ :: _) _ _); go_loud (refine wpList_copy_splice (o := ⟨some 16, _, _, _, _, _⟩) rfl (.tmp 14) (.tmp 15) 22 22 rfl 5 Try.underlying22 size_u8 (some ⟨w.heap.size, 0, none⟩) a L2 L2 L cap rfl rfl w.heap.size 0 (madeCells #[.int .u8 0] L2).toList 5 K1.out ((iL P).map (Value.int .u8)) K2.out (fun h0 => ⟨rfl, K3.out h0⟩) K4.out (ints_oneCell _ _) w.heap.size w K5.out (Nat.le_refl _) ?_); go_loud (intro w1 hg1 hb1; have HO1 := Lib.hid (pad_row hg1.out (by rw [HL.out]; exact hM1) (by omega)))))
  obtain ⟨g, hg⟩ : ∃ g, g = w.heap.size := ⟨_, rfl⟩
  have hgw : w.heap.size ≤ g := by omega
  have HP1 := Lib.hid (length_padL (P := P) (M := L2) (by rw [HL.out]; exact hM1))
  rw [← hg] at HO1
  rw [show (⟨w.heap.size, 0, none⟩ : Addr) = ⟨g, 0, none⟩ by rw [hg]]
  have HG := Lib.hid hg
  clear hg hg1
  go_loopw [19] (fun j wr => ∃ k : Nat, k ≤ L2 ∧ j = .int .i64 (k : Nat) ∧ Hid (wr.ownsRow w.heap.size 5 1 (.slice (some ⟨g, 0, none⟩) L2 L2) L2 ((iL (addAt (padL P L2) 0 1 Q k)).map (Value.int .u8))) ∧ Hid (Below w.heap.size w wr))
    (fun j _ => L2 - (intOf j).toNat)
  case atStart => exact ⟨0, Nat.zero_le _, rfl, Lib.hid (by rw [addAt_zero]; exact own_base HO1.out hgw), Lib.hid hb1⟩
  case round =>
    obtain ⟨k, hk, rfl, hR, hB⟩ := hrel
    by_cases hlt : k < L2
    · obtain ⟨bx, ox, rfl, hbx, hcx⟩ := (HY.out.on hB.out).at_ hlt
      have q5 : (k : Int) < (L2 : Int) := by omega
      have q6 : (0 : Int) ≤ (k : Int) := by omega
      have q7 : (k : Int) < (L2 : Int) := by omega
      have hcg := own_cells hR.out k (by omega)
      rw [Nat.zero_add, getD_iL, co_addAt (by rw [HP1.out]; omega), if_neg (by omega), co_padL] at hcg
      have hfz := hR.out.frozenAt k
      have hst := (hR.out.stored k (.int .u8 (toI (co P k + co Q k)))).1
      have hset : (iL (addAt (padL P L2) 0 1 Q k)).set k (toI (co P k + co Q k)) = iL (addAt (padL P L2) 0 1 Q (k + 1)) := by
        rw [← addAt_set (by rw [HP1.out]; omega), Nat.zero_add, co_padL, GF.one_mul]; simp [iL, List.map_set]
      rw [map_set_u8, hset] at hst
      have HS := Lib.hid hst
      have HB2 := Lib.hid (hB.out.setCell (p := ⟨g, k, none⟩) hgw (.int .u8 (toI (co P k + co Q k))))
      clear hst hset
      go_wp2_with (go_at_call 14; refine (add_G _ _ _).mono ?_; rintro e w' ⟨rfl, rfl⟩)
      go_roundw
      case rel => exact ⟨k + 1, by omega, by go_num, Lib.hid HS.out, Lib.hid HB2.out⟩
      case measure => simp [intOf]; omega
    · obtain rfl : k = L2 := by omega
      have hR2 : Hid (wr.ownsRow w.heap.size 5 1 (.slice (some ⟨g, 0, none⟩) k k) k ((iL (axp (padL P k) 0 1 Q)).map (Value.int .u8))) := Lib.hid (by unfold axp; rw [HL2.out]; exact hR.out)
      go_wp2_with (go_at_call 19; refine (trim_any _ _ _ (axp (padL P k) 0 1 Q) _ (Pa.own2 hR2.out) (by omega)).mono ?_; rintro e w9 ⟨v, rfl, hown9, hb9⟩; obtain ⟨ac, cc, hv, _, _, _, _, _⟩ := own_form hown9; subst hv; have HO9 := Lib.hid hown9; clear hown9)
      go_ret
      rw [HSum.out] at HO9
      exact ⟨_, by rw [HSum.out]; rfl, own_base HO9.out hB.out.size, bt hB.out hb9⟩
set_option maxHeartbeats 1000000 in
theorem padd_ge (a : Option Addr) (L cap : Nat) (P : List GF) (a2 : Option Addr) (L2 cap2 : Nat) (Q : List GF) (w : World) (hx : Pa w a L cap P) (hy : Pa w a2 L2 cap2 Q) (hL : L ≤ 140737488355328) (hL2 : L2 ≤ 140737488355328) (hc : L2 ≤ L) :
    Calls Try.prog 12 #[.slice a L cap, .slice a2 L2 cap2] w fun e w' => ∃ v, e = .returned v ∧ w'.ownsRow w.heap.size 5 1 v (tr (addL P Q)).length ((iL (tr (addL P Q))).map (Value.int .u8)) ∧ Below w.heap.size w w' := by
  have hl := hx.len
  have hl2 := hy.len
  have hM1 : L ≤ L := by omega
  have hM2 : L2 ≤ L := by omega
  have qc : ¬ (L : Int) < (L2 : Int) := by omega
  have hsum := tr_sum (P := P) (Q := Q) (M := L) (by omega) (by omega)
  have HSum := Lib.hid hsum
  have hmk := run_make_row' (P := Try.prog) 22 5 (.int .u8 0) 1 Try.underlying22 info5 rfl .i64 .i64 L (by omega) (by omega)
  have k1 : (w.alloc (.cells (madeCells #[.int .u8 0] L) 5)).heap[w.heap.size]? = some (.cells (madeCells #[.int .u8 0] L).toList.toArray 5 (0, 0)) := by rw [Array.toArray_toList]; exact heap_alloc_new w _
  have k2 : ((iL P).map (Value.int .u8)).length = Nat.min L L := by rw [List.length_map, length_iL, hl]; exact (Nat.min_eq_left hM1).symm
  have k5 : Below w.heap.size w (w.alloc (.cells (madeCells #[.int .u8 0] L) 5)) := (Below.refl _ _).alloc (Nat.le_refl _) _
  have k3 : 0 < ((iL P).map (Value.int .u8)).length → ∃ ad, a = some ad ∧ ∀ j v, ((iL P).map (Value.int .u8))[j]? = some v → (w.alloc (.cells (madeCells #[.int .u8 0] L) 5)).cell? (ad.add j) = some v :=
    fun h0 => (hx.1.2.2.1.below k5).cells h0
  have k4 : 0 + ((iL P).map (Value.int .u8)).length ≤ (madeCells #[.int .u8 0] L).toList.length := by simp [length_iL, hl, size_madeCells]; try omega
  have K1 := Lib.hid k1; have K2 := Lib.hid k2; have K3 := Lib.hid k3; have K4 := Lib.hid k4; have K5 := Lib.hid k5
  have HX := Lib.hid hx; have HY := Lib.hid hy; have HL := Lib.hid hl; have HL2 := Lib.hid hl2
  have hcap := hx.1.2.2.2
  have hcap2 := hy.1.2.2.2
  clear k1 k2 k3 k4 k5 hx hy hl hl2 hsum hc
  go_enter Try.func12, Try.ntmps12
  go_wp2_with (first
    | ((with_reducible show wpList _ _ _ (⟨some 16, _, _, _, _, _⟩ :: _) _ _); go_loud (refine wpList_copy_splice (o := ⟨some 16, _, _, _, _, _⟩) rfl (.tmp 14) (.tmp 15) 22 22 rfl 5 Try.underlying22 size_u8 (some ⟨w.heap.size, 0, none⟩) a L L L cap rfl rfl w.heap.size 0 (madeCells #[.int .u8 0] L).toList 5 K1.out ((iL P).map (Value.int .u8)) K2.out (fun h0 => ⟨rfl, K3.out h0⟩) K4.out (ints_oneCell _ _) w.heap.size w K5.out (Nat.le_refl _) ?_); go_loud (intro w1 hg1 hb1; have HO1 := Lib.hid (pad_row hg1.out (by rw [HL.out]; exact hM1) (by omega)))))
  obtain ⟨g, hg⟩ : ∃ g, g = w.heap.size := ⟨_, rfl⟩
  have hgw : w.heap.size ≤ g := by omega
  have HP1 := Lib.hid (length_padL (P := P) (M := L) (by rw [HL.out]; exact hM1))
  rw [← hg] at HO1
  rw [show (⟨w.heap.size, 0, none⟩ : Addr) = ⟨g, 0, none⟩ by rw [hg]]
  have HG := Lib.hid hg
  clear hg hg1
  go_loopw [19] (fun j wr => ∃ k : Nat, k ≤ L2 ∧ j = .int .i64 (k : Nat) ∧ Hid (wr.ownsRow w.heap.size 5 1 (.slice (some ⟨g, 0, none⟩) L L) L ((iL (addAt (padL P L) 0 1 Q k)).map (Value.int .u8))) ∧ Hid (Below w.heap.size w wr))
    (fun j _ => L2 - (intOf j).toNat)
  case atStart => exact ⟨0, Nat.zero_le _, rfl, Lib.hid (by rw [addAt_zero]; exact own_base HO1.out hgw), Lib.hid hb1⟩
  case round =>
    obtain ⟨k, hk, rfl, hR, hB⟩ := hrel
    by_cases hlt : k < L2
    · obtain ⟨bx, ox, rfl, hbx, hcx⟩ := (HY.out.on hB.out).at_ hlt
      have q5 : (k : Int) < (L2 : Int) := by omega
      have q6 : (0 : Int) ≤ (k : Int) := by omega
      have q7 : (k : Int) < (L : Int) := by omega
      have hcg := own_cells hR.out k (by omega)
      rw [Nat.zero_add, getD_iL, co_addAt (by rw [HP1.out]; omega), if_neg (by omega), co_padL] at hcg
      have hfz := hR.out.frozenAt k
      have hst := (hR.out.stored k (.int .u8 (toI (co P k + co Q k)))).1
      have hset : (iL (addAt (padL P L) 0 1 Q k)).set k (toI (co P k + co Q k)) = iL (addAt (padL P L) 0 1 Q (k + 1)) := by
        rw [← addAt_set (by rw [HP1.out]; omega), Nat.zero_add, co_padL, GF.one_mul]; simp [iL, List.map_set]
      rw [map_set_u8, hset] at hst
      have HS := Lib.hid hst
      have HB2 := Lib.hid (hB.out.setCell (p := ⟨g, k, none⟩) hgw (.int .u8 (toI (co P k + co Q k))))
      clear hst hset
      go_wp2_with (go_at_call 14; refine (add_G _ _ _).mono ?_; rintro e w' ⟨rfl, rfl⟩)
      go_roundw
      case rel => exact ⟨k + 1, by omega, by go_num, Lib.hid HS.out, Lib.hid HB2.out⟩
      case measure => simp [intOf]; omega
    · obtain rfl : k = L2 := by omega
      have hR2 : Hid (wr.ownsRow w.heap.size 5 1 (.slice (some ⟨g, 0, none⟩) L L) L ((iL (axp (padL P L) 0 1 Q)).map (Value.int .u8))) := Lib.hid (by unfold axp; rw [HL2.out]; exact hR.out)
      go_wp2_with (go_at_call 19; refine (trim_any _ _ _ (axp (padL P L) 0 1 Q) _ (Pa.own2 hR2.out) (by omega)).mono ?_; rintro e w9 ⟨v, rfl, hown9, hb9⟩; obtain ⟨ac, cc, hv, _, _, _, _, _⟩ := own_form hown9; subst hv; have HO9 := Lib.hid hown9; clear hown9)
      go_ret
      rw [HSum.out] at HO9
      exact ⟨_, by rw [HSum.out]; rfl, own_base HO9.out hB.out.size, bt hB.out hb9⟩
theorem padd_any (a : Option Addr) (L cap : Nat) (P : List GF) (a2 : Option Addr) (L2 cap2 : Nat) (Q : List GF) (w : World) (hx : Pa w a L cap P) (hy : Pa w a2 L2 cap2 Q) (hL : L ≤ 140737488355328) (hL2 : L2 ≤ 140737488355328) :
    Calls Try.prog 12 #[.slice a L cap, .slice a2 L2 cap2] w fun e w' => ∃ v, e = .returned v ∧ w'.ownsRow w.heap.size 5 1 v (tr (addL P Q)).length ((iL (tr (addL P Q))).map (Value.int .u8)) ∧ Below w.heap.size w w' := by
  rcases Nat.lt_or_ge L L2 with h | h
  · exact padd_lt a L cap P a2 L2 cap2 Q w hx hy hL hL2 h
  · exact padd_ge a L cap P a2 L2 cap2 Q w hx hy hL hL2 h
end Go.Proofs.Ytgbcdmognobieaa
