/- The field's tables in memory; contracts of power, log. -/
import Derived.Test.YtmhknggjpggagaaFref
namespace Go.Proofs.Ytmhknggjpggagaa
open Go.ChangeShapes Go.WideShapes Go.ChangeAt Go.RowKit
set_option linter.unusedVariables false
set_option maxRecDepth 100000

/-- Block b holds the tables: each power of 3, gone round twice, and which power each number is. -/
def Fld (w : World) (b : Nat) : Prop :=
  b < w.heap.size ∧ (∀ j, j < 510 → w.cell? ⟨b, j, none⟩ = some (.int .u8 ((pw j : Nat) : Int))) ∧ (∀ j, j < 256 → w.cell? ⟨b, 510 + j, none⟩ = some (.int .u8 ((lg j : Nat) : Int)))
theorem Fld.below {w w' : World} {b : Nat} (h : Fld w b) (hb : Below w.heap.size w w') : Fld w' b :=
  ⟨Nat.lt_of_lt_of_le h.1 hb.size, fun j hj => (hb.cell (p := ⟨b, j, none⟩) h.1).trans (h.2.1 j hj), fun j hj => (hb.cell (p := ⟨b, 510 + j, none⟩) h.1).trans (h.2.2 j hj)⟩
theorem Fld.drewN {w : World} {b : Nat} (h : Fld w b) (n : Nat) : Fld (w.drewN n) b := h

theorem power_N (b n : Nat) (w : World) (hf : Fld w b) (hn : n < 510) : Calls Try.prog 41 #[.pointer (some ⟨b, 0, none⟩), .int .i64 (n : Nat)] w fun e w' => e = .returned (.int .u8 ((pw n : Nat) : Int)) ∧ w = w' := by
  have hc := hf.2.1 n hn
  have q1 : (n : Int) < 510 := by omega
  clear hf
  go_enter Try.func41, Try.ntmps41
  go_wp2
  go_ret
  exact ⟨rfl, rfl⟩
theorem log_N (b a : Nat) (w : World) (hf : Fld w b) (ha : a < 256) : Calls Try.prog 42 #[.pointer (some ⟨b, 0, none⟩), .int .u8 (a : Nat)] w fun e w' => e = .returned (.int .i64 ((lg a : Nat) : Int)) ∧ w = w' := by
  have hc := hf.2.2 a ha
  have q1 : (a : Int) < 256 := by omega
  have hl := lg_lt a
  clear hf
  go_enter Try.func42, Try.ntmps42
  go_wp2
  go_ret
  exact ⟨rfl, rfl⟩
end Go.Proofs.Ytmhknggjpggagaa
