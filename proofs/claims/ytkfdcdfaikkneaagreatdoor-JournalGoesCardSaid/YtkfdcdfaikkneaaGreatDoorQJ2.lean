/- Texts of mine, one behind the other: Jb Je. -/
import Derived.Test.YtkfdcdfaikkneaaGreatDoorQJ1
import Derived.Deep.OwnRows
import Derived.Deep.DrawnRows
import Derived.Deep.WholeRow
/- Contracts of hash: the state's bytes; what stands behind all bytes. -/
namespace Go.Proofs.YtkfdcdfaikkneaaGreatDoor
open Go.ChangeShapes Go.WideShapes Go.ChangeAt Go.RowKit
set_option linter.unusedVariables false
set_option maxRecDepth 100000

theorem index_S (f : Nat → Nat) {k : Nat} (hk : k < 8) (w : World) : (Instr.index 155 (.agg (tabV 8 (gV f))) (.int .i64 (k : Nat))).run Tryz.prog w = .ok (.int .u32 ((f k : Nat) : Int)) w := by
  rcases lt8H hk with rfl | rfl | rfl | rfl | rfl | rfl | rfl | rfl <;> kernel_rfl
theorem Row8.bs {w : World} {g n : Nat} {l : List Int} (h : Row8 w g n l) : Bs w w.heap.size (some ⟨g, 0, none⟩) l := fun h0 => ⟨g, 0, rfl, h.2.2.1, fun i hi => by rw [Nat.zero_add]; exact h.2.2.2 i (by rw [← h.1]; exact hi)⟩
set_option maxHeartbeats 1000000 in
theorem hbytes_cap (h : Nat → Nat) (w : World) (hh : ∀ i, h i < 4294967296) :
    Calls Tryz.prog 92 #[.agg (tabV 8 (gV h))] w fun e w' => ∃ g c', e = .returned (.slice (some ⟨g, 0, none⟩) 32 c') ∧ Row8 w' g 32 (outW h 8) ∧ Below w.heap.size w w' ∧ 32 ≤ c' := by
  have HHB := Lib.hid hh
  obtain ⟨s0, hs0⟩ : ∃ s0 : Array Value, s0 = tabV 8 (gV h) := ⟨_, rfl⟩
  rw [← hs0]
  have HSS := Lib.hid (show (Tryz.prog.info? 155).map (·.size) = some s0.size by rw [hs0, size_tabV]; exact size_S)
  have HS0 := Lib.hid hs0
  have S1 := Lib.hid (show ((w.alloc (.cells s0 155)).alloc (.cells #[] 5)).heap[w.heap.size]? = some (.cells s0 155 (0, 0)) by
    rw [((Below.refl (w.heap.size + 1) (w.alloc (.cells s0 155))).alloc (by simp) _).block w.heap.size (by omega)]
    exact heap_alloc_new w _)
  have HB0 := Lib.hid (show Below w.heap.size w ((w.alloc (.cells s0 155)).alloc (.cells #[] 5)) from ((Below.refl _ _).alloc (Nat.le_refl _) _).alloc (by simp) _)
  have HR0 := Lib.hid (show Row8 ((w.alloc (.cells s0 155)).alloc (.cells #[] 5)) (w.heap.size + 1) 0 (outW h 0) from ⟨rfl, (fun y hy => by cases hy), by simp, fun i hi => by omega⟩)
  clear hs0 hh
  go_enter Tryz.func92, Tryz.ntmps92
  go_upto_region 3 with ((with_reducible show wpList _ _ _ (⟨some 7, _, _, _, _, _⟩ :: _) _ _); go_loud (refine wpList_load_row rfl 155 (.tmp 1) rfl w.heap.size rfl _ s0 _ _ S1.out Tryz.underlying155 rfl HSS.out ?_))
  go_loopw [3, 8] (fun o s wr => ∃ (i g c' : Nat), i ≤ 8 ∧ s = .int .i64 (i : Nat) ∧ o = .slice (some ⟨g, 0, none⟩) (4 * i) c' ∧ Row8 wr g (4 * i) (outW h i) ∧ Below w.heap.size w wr ∧ 4 * i ≤ c') (fun _ s _ => 8 - (intOf s).toNat)
  case atStart => exact ⟨0, _, _, by omega, rfl, rfl, HR0.out, HB0.out, by omega⟩
  case round =>
    obtain ⟨i, g, c', hi, rfl, rfl, h1, h2, h3⟩ := hrel
    rename World => R
    have RR := Lib.hid h1
    have RB := Lib.hid h2
    have RC := Lib.hid h3
    clear h1 h2 h3 HR0 HB0 S1
    by_cases hlt : i < 8
    · have HLI := Lib.hid hlt
      have qi : (i : Int) < 8 := by omega
      have hix : ∀ w : World, (Instr.index 155 (.agg s0) (.int .i64 (i : Nat))).run Tryz.prog w = .ok (.int .u32 ((h i : Nat) : Int)) w := fun w => by rw [HS0.out]; exact index_S h hlt w
      have HP := Lib.hid (put32 (some ⟨g, 0, none⟩) (4 * i) c' (outW h i) R RR.out.1 RR.out.bs (by omega) ((h i : Nat) : Int) (mk_u32 (by omega) (by have := HHB.out i; omega)))
      have HW := Lib.hid (show outW h i ++ be 4 ((h i : Nat) : Int) = outW h (i + 1) by rw [be4_w4, outW])
      obtain ⟨x, hx⟩ : ∃ x, x = h i := ⟨_, rfl⟩
      rw [← hx] at hix HP HW
      clear hlt hx
      go_wp2_with (go_at_call 64; go_loud ((with_reducible refine HP.out.mono ?_); rintro e R2 ⟨g2, rfl, ho, hb⟩; have HO := Lib.hid ho; have HB := Lib.hid hb; clear ho hb))
      go_roundw
      case rel => exact ⟨i + 1, g2, _, HLI.out, by go_num, by rw [Nat.mul_succ], by rw [← HW.out, Nat.mul_succ]; exact Row8.own HO.out (by rw [HW.out]; exact outW_B h _), bt RB.out HB.out, by omega⟩
      case measure => simp [intOf] <;> omega
    · obtain rfl : i = 8 := by omega
      go_wp2
      go_ret
      exact ⟨g, c', rfl, RR.out, RB.out, by have := RC.out; omega⟩
theorem hbytes_any (h : Nat → Nat) (w : World) (hh : ∀ i, h i < 4294967296) :
    Calls Tryz.prog 92 #[.agg (tabV 8 (gV h))] w fun e w' => ∃ g c', e = .returned (.slice (some ⟨g, 0, none⟩) 32 c') ∧ Row8 w' g 32 (outW h 8) ∧ Below w.heap.size w w' :=
  (hbytes_cap h w hh).mono fun _ _ ⟨g, c', h1, h2, h3, _⟩ => ⟨g, c', h1, h2, h3⟩
/-- What stands behind n bytes. -/
def endL (n : Nat) : List Int := [128] ++ List.replicate (zc n) 0 ++ w8L (8 * n) 8
theorem shaM_end (b : List Int) : shaM b = b ++ endL b.length := by unfold shaM endL; simp [List.append_assoc]
theorem endL_len (n : Nat) : (endL n).length = zc n + 9 := by unfold endL; simp [length_w8L] <;> omega
theorem endL_B (n : Nat) : AllB (endL n) := fun y hy => by
  rcases List.mem_append.1 hy with h | h
  · rcases List.mem_append.1 h with h | h
    · rw [List.mem_singleton.1 h]; omega
    · rw [(List.mem_replicate.1 h).2]; omega
  · exact w8L_B _ _ y h
end Go.Proofs.YtkfdcdfaikkneaaGreatDoor
/- The contract of hash's end: the padding and the length. -/
namespace Go.Proofs.YtkfdcdfaikkneaaGreatDoor
open Go.ChangeShapes Go.WideShapes Go.ChangeAt Go.RowKit
set_option linter.unusedVariables false
set_option maxRecDepth 100000

theorem madeCells_tabV (v : Value) (n : Nat) : madeCells #[v] n = tabV n (fun _ => v) := by
  rw [← Array.toArray_toList (xs := madeCells #[v] n), toList_madeCells_one, ← replicate_tabV, List.toArray_replicate]
theorem end_head (Z : Nat) : ∀ j, j < Z + 1 → (if j = 0 then Value.int .u8 128 else Value.int .u8 0) = Value.int .u8 (([128] ++ List.replicate Z 0 : List Int).getD j 0) := fun j hj => by
  match j, hj with
  | 0, _ => rfl
  | j + 1, hj =>
    rw [if_neg (by omega)]
    simp [List.getD_eq_getElem?_getD, List.getElem?_replicate]
    split <;> rfl
set_option maxHeartbeats 1000000 in
theorem end_any (g : Nat) (h : Nat → Nat) (W : List Int) (n : Nat) (w : World) (hR : Blk w g 158 73 (runV h W n)) (hn : n ≤ 1000000) :
    Calls Tryz.prog 91 #[.pointer (some ⟨g, 0, none⟩)] w fun e w' => ∃ g' c', e = .returned (.slice (some ⟨g', 0, none⟩) (zc n + 9) c') ∧ zc n + 9 ≤ c' ∧ w.heap.size ≤ g' ∧ Row8 w' g' (zc n + 9) (endL n) ∧ Below w.heap.size w w' := by
  obtain ⟨i8, hi8, hz8, hz81, hz82⟩ := info_parts info5
  obtain ⟨Z, hZ⟩ : ∃ Z, Z = zc n := ⟨_, rfl⟩
  obtain ⟨R, hRR⟩ : ∃ R, R = n % 64 := ⟨_, rfl⟩
  have hcell := hR.cell (j := 72) (by omega)
  rw [runV_total] at hcell
  have qR : (n : Int) % 64 = (R : Int) := by omega
  have qZ : (119 - (R : Int)) % 64 = (Z : Int) := by unfold zc at hZ; omega
  have bR : (R : Int) < 64 := by omega
  have bZ : (Z : Int) < 64 := by have := zc_lt n; omega
  have bn : (n : Int) ≤ 1000000 := by omega
  have hmk : ∀ U : World, (Instr.makeSlice 23 (.int .u64 (1 + (Z : Int))) (.int .u64 (1 + (Z : Int)))).run Tryz.prog U = .ok (.slice (some ⟨U.heap.size, 0, none⟩) (Z + 1) (Z + 1)) (U.alloc (.cells (madeCells #[.int .u8 0] (Z + 1)) 5)) := by
    intro U
    have := run_make (P := Tryz.prog) U 23 5 i8 _ Tryz.underlying23 hi8 hz8 .u64 .u64 (1 + (Z : Int)) (1 + (Z : Int)) (by omega) (by omega) (by rw [hz82]; omega) (by omega)
    rw [this, hz81]
    have e1 : (1 + (Z : Int)).toNat = Z + 1 := by omega
    rw [e1]; simp
    rfl
  have hB1 : Blk (w.alloc (.cells (madeCells #[.int .u8 0] (Z + 1)) 5)) w.heap.size 5 (Z + 1) (fun _ => .int .u8 0) := by rw [madeCells_tabV]; exact Blk.made _ _ _ _
  have hc0 := hB1.cell (j := 0) (by omega)
  have hf0 := hB1.free 0
  clear hB1
  obtain ⟨W2, hW2⟩ : ∃ W2, W2 = w.alloc (.cells ((madeCells #[.int .u8 0] (Z + 1)).setIfInBounds 0 (.int .u8 128)) 5) := ⟨_, rfl⟩
  have H2 := Lib.hid (show Blk W2 w.heap.size 5 (Z + 1) (fun j => .int .u8 (([128] ++ List.replicate Z 0 : List Int).getD j 0)) by
    rw [hW2, madeCells_tabV, tabV_set _ (by omega)]
    exact (Blk.made _ _ _ _).congr (end_head Z))
  have HB2 := Lib.hid (show Below w.heap.size w W2 by rw [hW2]; exact (Below.refl _ _).alloc (Nat.le_refl _) _)
  have hc2 : W2.cell? ⟨g, 72, none⟩ = some (.int .u64 ((n : Nat) : Int)) := by
    have := (hR.on HB2.out hR.lt).cell (j := 72) (by omega)
    rw [runV_total] at this; exact this
  have HPUT := Lib.hid (show Calls Tryz.prog 96 #[.slice (some ⟨w.heap.size, 0, none⟩) (Z + 1) (Z + 1), .int .u64 (8 * (n : Int))] W2 _ from
    put64 (some ⟨w.heap.size, 0, none⟩) (Z + 1) (Z + 1) ([128] ++ List.replicate Z 0) W2 (by simp) (fun h0 => ⟨w.heap.size, 0, rfl, H2.out.lt, fun i hi => by rw [Nat.zero_add]; exact H2.out.cell (by simp at hi; omega)⟩) (by omega) (8 * (n : Int)) (mk_u64 (by omega) (by omega)))
  have HE := Lib.hid (show [128] ++ List.replicate Z 0 ++ be 8 (8 * (n : Int)) = endL n by unfold endL; rw [← be8_w8, ← hZ]; try rfl)
  have HZ := Lib.hid hZ
  rw [← hZ]
  have HW2 := Lib.hid hW2
  clear hW2
  have bw : 8 * (n : Int) < 18446744073709551616 := by omega
  clear hRR hi8 hz8 hz81 hz82 hZ hn hR
  go_enter Tryz.func91, Tryz.ntmps91
  go_upto_region 2 with fail
  go_upto_region 3 with fail
  go_upto_region 4 with fail
  clear qR qZ hmk hf0 hc0 hcell
  rw [← HW2.out]
  go_wp2_with (go_at_call 96; go_loud ((with_reducible refine HPUT.out.mono ?_); rintro e W3 ⟨g3, rfl, ho, hb⟩; have HO := Lib.hid ho; have HB := Lib.hid hb; clear ho hb))
  go_ret
  have HB3 := Lib.hid (HB2.out.trans (HB.out.mono HB2.out.size))
  refine ⟨g3, _, rfl, by omega, ?_, ?_, HB3.out⟩
  · have h := HO.out.2
    rcases h with ⟨h, _⟩ | ⟨g', cap, cur, e, hge, _⟩
    · cases h
    · cases e
      have := HB2.out.size
      omega
  · have h := Row8.own HO.out (by rw [HE.out]; exact endL_B n)
    rw [HE.out] at h
    exact h
end Go.Proofs.YtkfdcdfaikkneaaGreatDoor
