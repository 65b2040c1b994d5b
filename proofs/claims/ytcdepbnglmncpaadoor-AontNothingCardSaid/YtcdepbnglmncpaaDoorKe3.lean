/- The walk of CipherEncrypts (written by gen28.py). -/
import Derived.Test.YtcdepbnglmncpaaDoorQK4
import Derived.Test.YtcdepbnglmncpaaDoorKe2
import Derived.Deep.DrawnRows
namespace Go.Proofs.YtcdepbnglmncpaaDoor
open Go.ChangeShapes Go.WideShapes Go.ChangeAt Go.RowKit
set_option linter.unusedVariables false
set_option linter.unusedSimpArgs false
set_option maxRecDepth 100000
attribute [local go_sem ↓] Go.wp_at_zero Go.wp_at_succ

theorem refEnc_arg (a : Option Addr) (L c : Nat) (l : List Int) (a2 : Option Addr) (c2 : Nat) (b : List Int) (w : World) (hx : Arg8 w a L c l) (hL : L = 16 ∨ L = 32) (hy : Arg8 w a2 16 c2 b) :
    Calls Tryd.prog 9 #[.slice a L c, .slice a2 16 c2] w fun e w' => ∃ g, e = .returned (.slice (some ⟨g, 0, none⟩) 16 16) ∧ Arg8 w' (some ⟨g, 0, none⟩) 16 16 (encL (l.length / 4 + 6) (keyW l) b) ∧ Below w.heap.size w w' := by
  unfold encL keyW
  rw [hx.1]
  rcases hL with rfl | rfl
  · exact refEnc_any a 16 c 4 l a2 c2 b w hx (Or.inl rfl) rfl hy
  · exact refEnc_any a 32 c 8 l a2 c2 b w hx (Or.inr rfl) rfl hy
/-- A row of bytes is no part of a cipher. -/
theorem cip_apart {w : World} {b g cap n g3 base N c : Nat} {W : Nat → Nat → Nat} {l : List Int} (h : CipA w b g cap n W) (ho : w.ownsRow base 5 1 (.slice (some ⟨g3, 0, none⟩) N c) N (l.map (Value.int .u8))) (hN : 0 < N) : b ≠ g3 ∧ g ≠ g3 := by
  have h0 := own_cells ho 0 hN
  rw [Nat.zero_add] at h0
  refine ⟨fun e => ?_, fun e => ?_⟩
  · have := h.2.2.2.1
    rw [e, h0] at this
    cases this
  · have := h.2.2.2.2.1 0 (Nat.zero_le _) 0 (sqc (rk W 0) 0) rfl
    rw [Nat.mul_zero, Nat.add_zero, e, h0] at this
    cases this
theorem u8_xor255 {x : Int} (h : 0 ≤ x ∧ x < 256) : ∃ y : Int, bits .xor .u8 x 255 = y ∧ 0 ≤ y ∧ y < 256 := by
  have h1 := u8_xor_nat x.toNat 255 (by omega) (by omega)
  have h2 := Nat.xor_lt_two_pow (n := 8) (show x.toNat < 2 ^ 8 by omega) (show 255 < 2 ^ 8 by omega)
  rw [show ((x.toNat : Nat) : Int) = x by omega] at h1
  exact ⟨_, h1, by omega, by omega⟩
theorem allB_set {l : List Int} (h : AllB l) (i : Nat) {y : Int} (hy : 0 ≤ y ∧ y < 256) : AllB (l.set i y) := fun x hx => by
  rcases List.mem_or_eq_of_mem_set hx with h1 | h1
  · exact h x h1
  · rw [h1]; exact hy
end Go.Proofs.YtcdepbnglmncpaaDoor
