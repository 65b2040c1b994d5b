/- The walk of CipherForms (written by gen24.py). -/
import Derived.Test.YtgpajlndknafhaaKt
namespace Go.Proofs.Ytgpajlndknafhaa
open Go.ChangeShapes Go.WideShapes Go.ChangeAt Go.RowKit
set_option linter.unusedVariables false
set_option linter.unusedSimpArgs false
set_option maxRecDepth 100000

theorem made16 (w : World) : Arg8 (w.alloc (.cells (madeCells #[.int .u8 0] 16) 5)) (some ⟨w.heap.size, 0, none⟩) 16 16 (List.replicate 16 0) :=
  Arg8.own (own_made (by unfold maxLen; omega)) (fun x hx => by obtain ⟨_, rfl⟩ := List.mem_replicate.1 hx; omega) ⟨by omega, by unfold maxLen; omega⟩
theorem noughts_B : AllB (List.replicate 16 (0 : Int)) := fun x hx => by obtain ⟨_, rfl⟩ := List.mem_replicate.1 hx; omega
theorem made_below (w : World) : Below w.heap.size w (w.alloc (.cells (madeCells #[.int .u8 0] 16) 5)) := (Below.refl _ _).alloc (Nat.le_refl _) _
theorem make16 : ∀ w : World, (Instr.makeSlice 22 (.int .i64 16) (.int .i64 16)).run Try.prog w = .ok (.slice (some ⟨w.heap.size, 0, none⟩) 16 16) (w.alloc (.cells (madeCells #[.int .u8 0] 16) 5)) := by
  have hmk := run_make_row' (P := Try.prog) 22 5 (.int .u8 0) 1 Try.underlying22 info5 rfl .i64 .i64 16 (by omega) (by omega)
  rw [show ((16 : Nat) : Int) = 2 * 8 from rfl] at hmk
  simp only [Int.reduceMul] at hmk
  exact hmk
end Go.Proofs.Ytgpajlndknafhaa
