/- Contract of the laws' lives (layer 5). -/
import Derived.Test.YtpfhfnhbholboaaKs
import Derived.BigRegion
namespace Go.Proofs.Ytpfhfnhbholboaa
open Go.ChangeShapes Go.WideShapes Go.ChangeAt Go.RowKit
set_option linter.unusedVariables false
set_option linter.unusedSimpArgs false
set_option maxRecDepth 100000

theorem exK_at : ∀ i : Nat, i < 16 → exK.getD i 0 = (i : Int) := by decide
theorem exB_at : ∀ i : Nat, i < 16 → exB.getD i 0 = 17 * (i : Int) := by decide
theorem exK_B : AllB exK := by unfold AllB exK; decide
theorem exB_B : AllB exB := by unfold AllB exB; decide
theorem ex_at0 : (encL (exK.length / 4 + 6) (keyW exK) exB).getD 0 0 = 105 := by
  have h := getD_outL (enc exW 10 (kw exB)) (c := 0) (r := 0) (by omega) 4 (by omega)
  rw [ex_first.1] at h
  exact h
theorem ex_at1 : (encL (exK.length / 4 + 6) (keyW exK) exB).getD 1 0 = 196 := by
  have h := getD_outL (enc exW 10 (kw exB)) (c := 0) (r := 1) (by omega) 4 (by omega)
  rw [ex_first.2] at h
  exact h
/-- Two rows of noughts, made one behind the other. -/
theorem two_rows (w : World) : ∃ WW : World, WW = ((w.alloc (.cells (madeCells #[.int .u8 0] 16) 5)).alloc (.cells (madeCells #[.int .u8 0] 16) 5)).drew ∧ Below w.heap.size w WW ∧
    WW.ownsRow w.heap.size 5 1 (.slice (some ⟨w.heap.size, 0, none⟩) 16 16) 16 ((List.replicate 16 (0 : Int)).map (Value.int .u8)) ∧
    WW.ownsRow w.heap.size 5 1 (.slice (some ⟨w.heap.size + 1, 0, none⟩) 16 16) 16 ((List.replicate 16 (0 : Int)).map (Value.int .u8)) := by
  have h1 := own_made (w := w) (e := 5) (n := 16) (by unfold maxLen; omega)
  have h2 := own_made (w := w.alloc (.cells (madeCells #[.int .u8 0] 16) 5)) (e := 5) (n := 16) (by unfold maxLen; omega)
  rw [World.size_alloc] at h2
  exact ⟨_, rfl, (((Below.refl _ _).alloc (Nat.le_refl _) _).alloc (by simp) _).drew, h1.alloc _, own_base h2 (by omega)⟩
set_option maxHeartbeats 2000000 in
theorem livesK_any (w : World) : Calls Try.prog 9 #[] w fun e w' => e = .returned (.bool true) ∧ Below w.heap.size w w' := by
  have hmk := run_make_row' (P := Try.prog) 22 5 (.int .u8 0) 1 Try.underlying22 info5 rfl .i64 .i64 16 (by omega) (by omega)
  rw [show ((16 : Nat) : Int) = 2 * 8 from rfl] at hmk
  simp only [Int.reduceMul] at hmk
  go_enter Try.func9, Try.ntmps9
  go_wp2_with fail
  go_region
  clear hmk
  all_goals obtain ⟨WW, hWW, hbw, ha, hb⟩ := two_rows w
  case' _ =>
    obtain ⟨bb, hbb⟩ : ∃ b, b = w.heap.size + 1 := ⟨_, rfl⟩
    obtain ⟨bk, hbk⟩ : ∃ b, b = w.heap.size := ⟨_, rfl⟩
    have HA0 := Lib.hid (show WW.ownsRow w.heap.size 5 1 (.slice (some ⟨bk, 0, none⟩) 16 16) 16 ((part exK 0).map (Value.int .u8)) by rw [hbk]; exact ha)
    have HB0 := Lib.hid (show WW.ownsRow w.heap.size 5 1 (.slice (some ⟨bb, 0, none⟩) 16 16) 16 ((part exB 0).map (Value.int .u8)) by rw [hbb]; exact hb)
  rotate_left
  case' _ =>
    obtain ⟨bk, hbk⟩ : ∃ b, b = w.heap.size + 1 := ⟨_, rfl⟩
    obtain ⟨bb, hbb⟩ : ∃ b, b = w.heap.size := ⟨_, rfl⟩
    have HA0 := Lib.hid (show WW.ownsRow w.heap.size 5 1 (.slice (some ⟨bk, 0, none⟩) 16 16) 16 ((part exK 0).map (Value.int .u8)) by rw [hbk]; exact hb)
    have HB0 := Lib.hid (show WW.ownsRow w.heap.size 5 1 (.slice (some ⟨bb, 0, none⟩) 16 16) 16 ((part exB 0).map (Value.int .u8)) by rw [hbb]; exact ha)
  rotate_left
  all_goals
    have hne : bk ≠ bb := by omega
    have hbn : w.heap.size ≤ bk ∧ w.heap.size ≤ bb := by omega
    have HW := Lib.hid hbw
    first
      | rw [← hWW, ← hbb, ← hbk]
      | rw [← hWW, ← hbk, ← hbb]
    have HN := Lib.hid hbn
    clear hWW hbb hbk hbw ha hb hbn
    go_wp2_with fail
    go_loopw [12] (fun q wr => ∃ i : Nat, i ≤ 16 ∧ q = .int .i64 (i : Nat) ∧ wr.ownsRow w.heap.size 5 1 (.slice (some ⟨bk, 0, none⟩) 16 16) 16 ((part exK i).map (Value.int .u8)) ∧ wr.ownsRow w.heap.size 5 1 (.slice (some ⟨bb, 0, none⟩) 16 16) 16 ((part exB i).map (Value.int .u8)) ∧ Below w.heap.size w wr) (fun q _ => 16 - (intOf q).toNat)
    case atStart => exact ⟨0, by omega, rfl, HA0.out, HB0.out, HW.out⟩
    case round =>
      obtain ⟨i, hi, rfl, ha, hb, hbw⟩ := hrel
      have HA := Lib.hid ha
      have HB := Lib.hid hb
      have HBW := Lib.hid hbw
      clear ha hb hbw HA0 HB0 HW
      rename World => wr
      by_cases hlt : i < 16
      · have qi : (i : Int) < 16 := by omega
        have qi0 : (0 : Int) ≤ (i : Int) := by omega
        have hca := own_cells HA.out i hlt
        rw [Nat.zero_add] at hca
        have hfa := HA.out.frozenAt i
        have hcb : ∀ v, (wr.setCell ⟨bk, i, none⟩ v).cell? ⟨bb, i, none⟩ = some (.int .u8 ((part exB i).getD i 0)) := fun v => (World.cell?_setCell_far wr ⟨bk, i, none⟩ ⟨bb, i, none⟩ v hne).trans (by have h := own_cells HB.out i hlt; rwa [Nat.zero_add] at h)
        have hfb : ∀ v, (wr.setCell ⟨bk, i, none⟩ v).frozen? ⟨bb, i, none⟩ = false := fun v => by rw [World.frozen?_setCell]; exact HB.out.frozenAt i
        have qw1 : IntKind.u8.wrap (i : Int) = (i : Int) := by rw [IntKind.wrap_u8]; omega
        have qw2 : IntKind.u8.wrap (17 * (i : Int)) = 17 * (i : Int) := by rw [IntKind.wrap_u8]; omega
        have HNE := Lib.hid hne
        clear hne
        go_wp2
        go_roundw
        case rel =>
          refine ⟨i + 1, by omega, by go_num, ?_, ?_, ?_⟩
          · have h := part_set_own (L := exK) rfl hlt HA.out
            rw [exK_at i hlt] at h
            exact h.kept (cell_set_but _ bb i _) (Or.inr (fun e => HNE.out (Option.some.inj e)))
          · have h := part_set_own (L := exB) rfl hlt (HB.out.kept (cell_set_but wr bk i (.int .u8 (i : Int))) (Or.inr (fun e => HNE.out (Option.some.inj e).symm)))
            rw [exB_at i hlt] at h
            exact h
          · exact (HBW.out.setCell (p := ⟨bk, i, none⟩) HN.out.1 _).setCell (p := ⟨bb, i, none⟩) HN.out.2 _
        case measure => simp [intOf]; omega
      · obtain rfl : i = 16 := by omega
        have HKA := Lib.hid (show Arg8 wr (some ⟨bk, 0, none⟩) 16 16 exK from Arg8.own HA.out exK_B ⟨by omega, by unfold maxLen; omega⟩)
        have HBA := Lib.hid (show Arg8 wr (some ⟨bb, 0, none⟩) 16 16 exB from Arg8.own HB.out exB_B ⟨by omega, by unfold maxLen; omega⟩)
        clear HA HB
        go_wp2_with (first
          | (go_at_call 12; (with_reducible refine (new_any _).mono ?_); rintro e w1 ⟨fb, rfl, hb0, hf, hbel⟩; have HF1 := Lib.hid hf; have HB1 := Lib.hid hbel; have HK1 := Lib.hid (HKA.out.on hbel); have HX1 := Lib.hid (HBA.out.on hbel); clear hf hb0 hbel)
          | (go_at_call 11; (with_reducible refine (new_arg fb (some ⟨bk, 0, none⟩) 16 16 exK w1 HF1.out HK1.out (Or.inl rfl)).mono ?_); rintro e w2 ⟨b, rfl, hc, hb⟩; have HC2 := Lib.hid hc; have HB2 := Lib.hid (bt HB1.out hb); have HX2 := Lib.hid (HX1.out.on hb); clear hc hb)
          | (go_at_call 13; (with_reducible refine (enc_arg b exK (some ⟨bb, 0, none⟩) 16 exB w2 HC2.out (Or.inl rfl) exK_B HX2.out).mono ?_); rintro e w3 ⟨g, rfl, ho, hb⟩; have h0 := own_cells ho 0 (by omega); have h1 := own_cells ho 1 (by omega); rw [ex_at0] at h0; rw [ex_at1] at h1; have HB3 := Lib.hid (bt HB2.out hb); clear ho hb))
        go_ret
        exact ⟨rfl, bt HBW.out HB3.out⟩
end Go.Proofs.Ytpfhfnhbholboaa
