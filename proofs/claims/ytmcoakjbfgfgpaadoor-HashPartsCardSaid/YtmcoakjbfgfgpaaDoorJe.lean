/- The contract of hash's end: the padding and the length. -/
import Derived.Test.YtmcoakjbfgfgpaaDoorJb
namespace Go.Proofs.YtmcoakjbfgfgpaaDoor
open Go.ChangeShapes Go.WideShapes Go.ChangeAt Go.RowKit
set_option linter.unusedVariables false
set_option maxRecDepth 100000

theorem madeCells_tabV (v : Value) (n : Nat) : madeCells #[v] n = tabV n (fun _ => v) := by
  rw [← Array.toArray_toList (xs := madeCells #[v] n), toList_madeCells_one, ← replicate_tabV, List.toArray_replicate]
theorem end_head (Z : Nat) : ∀ j, j < Z + 1 → (if j = 0 then Value.int .u8 128 else Value.int .u8 0) = Value.int .u8 (([128] ++ List.replicate Z 0 : List Int).getD j 0) := fun j hj => by
  match j, hj with
  | 0, _ => rfl
  | j + 1, hj =>
    rw [if_neg (by omega)]
    simp [List.getD_eq_getElem?_getD, List.getElem?_replicate]
    split <;> rfl
set_option maxHeartbeats 1000000 in
theorem end_any (g : Nat) (h : Nat → Nat) (W : List Int) (n : Nat) (w : World) (hR : Blk w g 35 73 (runV h W n)) (hn : n ≤ 1000000) :
    Calls Tryd.prog 9 #[.pointer (some ⟨g, 0, none⟩)] w fun e w' => ∃ g' c', e = .returned (.slice (some ⟨g', 0, none⟩) (zc n + 9) c') ∧ zc n + 9 ≤ c' ∧ w.heap.size ≤ g' ∧ Row8 w' g' (zc n + 9) (endL n) ∧ Below w.heap.size w w' := by
  obtain ⟨i8, hi8, hz8, hz81, hz82⟩ := info_parts info5
  obtain ⟨Z, hZ⟩ : ∃ Z, Z = zc n := ⟨_, rfl⟩
  obtain ⟨R, hRR⟩ : ∃ R, R = n % 64 := ⟨_, rfl⟩
  have hcell := hR.cell (j := 72) (by omega)
  rw [runV_total] at hcell
  have qR : (n : Int) % 64 = (R : Int) := by omega
  have qZ : (119 - (R : Int)) % 64 = (Z : Int) := by unfold zc at hZ; omega
  have bR : (R : Int) < 64 := by omega
  have bZ : (Z : Int) < 64 := by have := zc_lt n; omega
  have bn : (n : Int) ≤ 1000000 := by omega
  have hmk : ∀ U : World, (Instr.makeSlice 22 (.int .u64 (1 + (Z : Int))) (.int .u64 (1 + (Z : Int)))).run Tryd.prog U = .ok (.slice (some ⟨U.heap.size, 0, none⟩) (Z + 1) (Z + 1)) (U.alloc (.cells (madeCells #[.int .u8 0] (Z + 1)) 5)) := by
    intro U
    have := run_make (P := Tryd.prog) U 22 5 i8 _ Tryd.underlying22 hi8 hz8 .u64 .u64 (1 + (Z : Int)) (1 + (Z : Int)) (by omega) (by omega) (by rw [hz82]; omega) (by omega)
    rw [this, hz81]
    have e1 : (1 + (Z : Int)).toNat = Z + 1 := by omega
    rw [e1]; simp
    rfl
  have hB1 : Blk (w.alloc (.cells (madeCells #[.int .u8 0] (Z + 1)) 5)) w.heap.size 5 (Z + 1) (fun _ => .int .u8 0) := by rw [madeCells_tabV]; exact Blk.made _ _ _ _
  have hc0 := hB1.cell (j := 0) (by omega)
  have hf0 := hB1.free 0
  clear hB1
  obtain ⟨W2, hW2⟩ : ∃ W2, W2 = w.alloc (.cells ((madeCells #[.int .u8 0] (Z + 1)).setIfInBounds 0 (.int .u8 128)) 5) := ⟨_, rfl⟩
  have H2 := Lib.hid (show Blk W2 w.heap.size 5 (Z + 1) (fun j => .int .u8 (([128] ++ List.replicate Z 0 : List Int).getD j 0)) by
    rw [hW2, madeCells_tabV, tabV_set _ (by omega)]
    exact (Blk.made _ _ _ _).congr (end_head Z))
  have HB2 := Lib.hid (show Below w.heap.size w W2 by rw [hW2]; exact (Below.refl _ _).alloc (Nat.le_refl _) _)
  have hc2 : W2.cell? ⟨g, 72, none⟩ = some (.int .u64 ((n : Nat) : Int)) := by
    have := (hR.on HB2.out hR.lt).cell (j := 72) (by omega)
    rw [runV_total] at this; exact this
  have HPUT := Lib.hid (show Calls Tryd.prog 15 #[.slice (some ⟨w.heap.size, 0, none⟩) (Z + 1) (Z + 1), .int .u64 (8 * (n : Int))] W2 _ from
    put64 (some ⟨w.heap.size, 0, none⟩) (Z + 1) (Z + 1) ([128] ++ List.replicate Z 0) W2 (by simp) (fun h0 => ⟨w.heap.size, 0, rfl, H2.out.lt, fun i hi => by rw [Nat.zero_add]; exact H2.out.cell (by simp at hi; omega)⟩) (by omega) (8 * (n : Int)) (mk_u64 (by omega) (by omega)))
  have HE := Lib.hid (show [128] ++ List.replicate Z 0 ++ be 8 (8 * (n : Int)) = endL n by unfold endL; rw [← be8_w8, ← hZ]; try rfl)
  have HZ := Lib.hid hZ
  rw [← hZ]
  have HW2 := Lib.hid hW2
  clear hW2
  have bw : 8 * (n : Int) < 18446744073709551616 := by omega
  clear hRR hi8 hz8 hz81 hz82 hZ hn hR
  go_enter Tryd.func9, Tryd.ntmps9
  go_upto_region 2 with fail
  go_upto_region 3 with fail
  go_upto_region 4 with fail
  clear qR qZ hmk hf0 hc0 hcell
  rw [← HW2.out]
  go_wp2_with (go_at_call 15; go_loud ((with_reducible refine HPUT.out.mono ?_); rintro e W3 ⟨g3, rfl, ho, hb⟩; have HO := Lib.hid ho; have HB := Lib.hid hb; clear ho hb))
  go_ret
  have HB3 := Lib.hid (HB2.out.trans (HB.out.mono HB2.out.size))
  refine ⟨g3, _, rfl, by omega, ?_, ?_, HB3.out⟩
  · have h := HO.out.2
    rcases h with ⟨h, _⟩ | ⟨g', cap, cur, e, hge, _⟩
    · cases h
    · cases e
      have := HB2.out.size
      omega
  · have h := Row8.own HO.out (by rw [HE.out]; exact endL_B n)
    rw [HE.out] at h
    exact h
end Go.Proofs.YtmcoakjbfgfgpaaDoor
