/- The contract of the document's Put. -/
import Derived.Test.YtadcgngiofdhcaaDoorGet
import Derived.Deep.OwnRows
namespace Go.Proofs.YtadcgngiofdhcaaDoor
open Go.ChangeShapes Go.WideShapes Go.ChangeAt Go.RowKit
set_option linter.unusedVariables false

theorem allB_be (n : Nat) (x : Int) : AllB (be n x) := by
  intro v hv
  simp only [be, List.mem_map] at hv
  obtain ⟨i, _, rfl⟩ := hv
  exact ⟨Int.emod_nonneg _ (by omega), Int.emod_lt_of_pos _ (by omega)⟩
/-- A row that is filled from its end on. -/
def tailed (L : List Int) (j : Nat) : List Int := List.replicate j 0 ++ L.drop j
theorem length_tailed {L : List Int} {j : Nat} (h : j ≤ L.length) : (tailed L j).length = L.length := by simp [tailed]; omega
theorem tailed_set {L : List Int} {m : Nat} (h : m < L.length) : (tailed L (m + 1)).set m (L.getD m 0) = tailed L m := by
  have e : L.getD m 0 = L[m] := by simp [List.getD_eq_getElem?_getD, List.getElem?_eq_getElem h]
  unfold tailed
  rw [List.replicate_succ', List.append_assoc, List.set_append_right _ _ (by simp), e, List.drop_eq_getElem_cons h]
  simp
theorem div_step (X : Int) (n m : Nat) (h : m < n) : X / 2 ^ (8 * (n - (m + 1))) / 256 = X / 2 ^ (8 * (n - m)) := by
  rw [show (256 : Int) = 2 ^ 8 by rfl, Int.ediv_ediv_of_nonneg (Int.pow_nonneg (by omega)), ← Int.pow_add, show 8 * (n - (m + 1)) + 8 = 8 * (n - m) by omega]
theorem refPut (n : Nat) (hn : n ≤ 8) (X : Int) (h0 : 0 ≤ X) (h1 : X < 18446744073709551616) (w : World) :
    Calls Tryd.prog 21 #[.int .u64 X, .int .i64 (n : Nat)] w fun e w' => ∃ g, e = .returned (.slice (some ⟨g, 0, none⟩) n n) ∧
      w'.ownsRow w.heap.size 5 1 (.slice (some ⟨g, 0, none⟩) n n) n ((be n X).map (Value.int .u8)) ∧ Below w.heap.size w w' := by
  have hmk := run_make_row' (P := Tryd.prog) 22 5 (.int .u8 0) 1 Tryd.underlying22 info5 rfl .i64 .i64 n (by omega) (by omega)
  have HO := Lib.hid (own_made (w := w) (e := 5) (n := n) (by unfold maxLen; omega))
  go_enter Tryd.func21, Tryd.ntmps21
  go_wp2
  go_loopw [0, 6] (fun x i wr => ∃ j : Nat, j ≤ n ∧ i = .int .i64 ((j : Int) - 1) ∧ x = .int .u64 (X / 2 ^ (8 * (n - j))) ∧
      wr.ownsRow w.heap.size 5 1 (.slice (some ⟨w.heap.size, 0, none⟩) n n) n ((tailed (be n X) j).map (Value.int .u8)) ∧ Below w.heap.size w wr)
    (fun _ i _ => (intOf i + 1).toNat)
  case atStart =>
    refine ⟨n, Nat.le_refl _, rfl, by simp, ?_, (Below.refl _ _).alloc (Nat.le_refl _) _⟩
    have e : tailed (be n X) n = List.replicate n 0 := by unfold tailed; rw [List.drop_of_length_le (by rw [length_be]; exact Nat.le_refl _), List.append_nil]
    rw [e]; exact HO.out
  case round =>
    obtain ⟨j, hj, rfl, rfl, hown, hbel⟩ := hrel
    clear hmk
    rcases Nat.eq_zero_or_pos j with hz | hz
    · subst hz
      go_wp2
      go_ret
      refine ⟨_, rfl, ?_, hbel⟩
      have e : tailed (be n X) 0 = be n X := by simp [tailed]
      rw [e] at hown
      exact hown
    · obtain ⟨m, rfl⟩ : ∃ m, j = m + 1 := ⟨j - 1, by omega⟩
      have ej : ((m + 1 : Nat) : Int) - 1 = m := by omega
      rw [ej]
      have hd := Lib.hid (div_step X n m (by omega))
      have hv := Lib.hid (be_getD n X m (by omega))
      obtain ⟨Y, hY⟩ : ∃ Y, Y = X / 2 ^ (8 * (n - (m + 1))) := ⟨_, rfl⟩
      have hY0 : 0 ≤ Y := by rw [hY]; exact Int.ediv_nonneg h0 (Int.pow_nonneg (by omega))
      have hY1 : Y < 18446744073709551616 := by rw [hY]; exact Int.lt_of_le_of_lt (Int.ediv_le_self _ h0) h1
      rw [← hY]
      have HY := Lib.hid hY
      have hcg := own_cells hown m (by omega)
      rw [Nat.zero_add] at hcg
      have hfz := hown.frozenAt m
      have hval : (be n X).getD m 0 = Y % 256 := by rw [hv.out, hY, show n - 1 - m = n - (m + 1) by omega]
      have hst := (hown.stored m (.int .u8 (Y % 256))).1
      rw [map_set_u8, ← hval, tailed_set (by rw [length_be]; omega), hval] at hst
      have HST := Lib.hid hst
      have HB := Lib.hid (hbel.setCell (p := ⟨w.heap.size, m, none⟩) (Nat.le_refl _) (.int .u8 (Y % 256)))
      clear hown hbel hst hval hY
      have q1 : (m : Int) < (n : Int) := by omega
      go_wp2
      go_roundw
      case rel => exact ⟨m, by omega, by go_num, by rw [← hd.out, ← HY.out], HST.out, HB.out⟩
      case measure => simp [intOf] <;> omega
end Go.Proofs.YtadcgngiofdhcaaDoor
