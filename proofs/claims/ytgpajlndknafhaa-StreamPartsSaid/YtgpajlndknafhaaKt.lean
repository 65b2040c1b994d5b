/- Contract of the laws' lives (layer 5). -/
import Derived.Test.YtgpajlndknafhaaKs
import Derived.BigRegion
namespace Go.Proofs.Ytgpajlndknafhaa
open Go.ChangeShapes Go.WideShapes Go.ChangeAt Go.RowKit
set_option linter.unusedVariables false
set_option linter.unusedSimpArgs false
set_option maxRecDepth 100000

theorem exK_at : ∀ i : Nat, i < 16 → exK.getD i 0 = (i : Int) := by decide
theorem exB_at : ∀ i : Nat, i < 16 → exB.getD i 0 = 17 * (i : Int) := by decide
theorem exK_B : AllB exK := by unfold AllB exK; decide
theorem exB_B : AllB exB := by unfold AllB exB; decide
theorem ex_at0 : (encL (exK.length / 4 + 6) (keyW exK) exB).getD 0 0 = 105 := by
  have h := getD_outL (enc exW 10 (kw exB)) (c := 0) (r := 0) (by omega) 4 (by omega)
  rw [ex_first.1] at h
  exact h
theorem ex_at1 : (encL (exK.length / 4 + 6) (keyW exK) exB).getD 1 0 = 196 := by
  have h := getD_outL (enc exW 10 (kw exB)) (c := 0) (r := 1) (by omega) 4 (by omega)
  rw [ex_first.2] at h
  exact h
/-- Two rows of noughts, made one behind the other. -/
theorem two_rows (w : World) : ∃ WW : World, WW = ((w.alloc (.cells (madeCells #[.int .u8 0] 16) 5)).alloc (.cells (madeCells #[.int .u8 0] 16) 5)).drew ∧ Below w.heap.size w WW ∧
    WW.ownsRow w.heap.size 5 1 (.slice (some ⟨w.heap.size, 0, none⟩) 16 16) 16 ((List.replicate 16 (0 : Int)).map (Value.int .u8)) ∧
    WW.ownsRow w.heap.size 5 1 (.slice (some ⟨w.heap.size + 1, 0, none⟩) 16 16) 16 ((List.replicate 16 (0 : Int)).map (Value.int .u8)) := by
  have h1 := own_made (w := w) (e := 5) (n := 16) (by unfold maxLen; omega)
  have h2 := own_made (w := w.alloc (.cells (madeCells #[.int .u8 0] 16) 5)) (e := 5) (n := 16) (by unfold maxLen; omega)
  rw [World.size_alloc] at h2
  exact ⟨_, rfl, (((Below.refl _ _).alloc (Nat.le_refl _) _).alloc (by simp) _).drew, h1.alloc _, own_base h2 (by omega)⟩
end Go.Proofs.Ytgpajlndknafhaa
