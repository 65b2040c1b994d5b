/- What a cipher is in memory; contracts of missing, Rounds, squareOf. -/
import Derived.Test.YtpfhfnhbholboaaKg
import Derived.Laws.ResultCell
namespace Go.Proofs.Ytpfhfnhbholboaa
open Go.ChangeShapes Go.WideShapes Go.ChangeAt Go.RowKit
set_option linter.unusedVariables false
set_option maxRecDepth 100000

def sqL4 (S : Nat → Nat → Nat) : List Value := (List.range 4).map (sqc S)
theorem sqV_list (S : Nat → Nat → Nat) : sqV S = (sqL4 S).toArray := rfl
/-- A cipher: its round keys, and the tables. -/
def Cip (w : World) (b n : Nat) (W : Nat → Nat → Nat) : Prop :=
  ∃ g cap, g < w.heap.size ∧ n + 1 ≤ cap ∧ cap ≤ 9223372036854775807 ∧ w.cell? ⟨b, 0, none⟩ = some (.slice (some ⟨g, 0, none⟩) (n + 1) cap) ∧ (∀ j, j ≤ n → w.rangeAt g (4 * j) (sqL4 (rk W j))) ∧
    Tb w b 1 box ∧ Tb w b 257 bxb ∧ Tp w b 513 (prt m2) ∧ Tp w b 769 (prt m14)
theorem Cip.lt {w : World} {b n : Nat} {W : Nat → Nat → Nat} (h : Cip w b n W) : b < w.heap.size := by
  obtain ⟨_, _, _, _, _, _, _, h1, _⟩ := h
  exact h1.1
theorem Cip.on {w w' : World} {b n : Nat} {W : Nat → Nat → Nat} (h : Cip w b n W) (hb : Below w.heap.size w w') : Cip w' b n W := by
  have hlt := h.lt
  obtain ⟨g, cap, h1, h2, h3, h4, h5, h6, h7, h8, h9⟩ := h
  exact ⟨g, cap, Nat.lt_of_lt_of_le h1 hb.size, h2, h3, (hb.cell (p := ⟨b, 0, none⟩) hlt).trans h4, fun j hj k v hv => (hb.cell (p := ⟨g, 4 * j + k, none⟩) h1).trans (h5 j hj k v hv), h6.on hb, h7.on hb, h8.on hb, h9.on hb⟩
theorem Cip.drewN {w : World} {b n : Nat} {W : Nat → Nat → Nat} (h : Cip w b n W) (q : Nat) : Cip (w.drewN q) b n W := h
theorem missing_nil (w : World) : Calls Try.prog 38 #[.pointer none] w fun e w' => e = .returned (.bool true) ∧ w = w' := by
  go_enter Try.func38, Try.ntmps38
  go_wp2
  go_ret
  exact ⟨rfl, rfl⟩
theorem missing_cip (b n : Nat) (W : Nat → Nat → Nat) (w : World) (h : Cip w b n W) : Calls Try.prog 38 #[.pointer (some ⟨b, 0, none⟩)] w fun e w' => e = .returned (.bool false) ∧ w = w' := by
  obtain ⟨g, cap, h1, h2, h3, h4, _⟩ := h
  have q : (((n + 1 : Nat) : Int) == 0) = false := by rw [beq_eq_false_iff_ne]; omega
  have q2 : ((n : Int) + 1 == 0) = false := by rw [beq_eq_false_iff_ne]; omega
  clear h1 h2 h3
  go_enter Try.func38, Try.ntmps38
  go_wp2
  go_ret
  exact ⟨rfl, rfl⟩
theorem rounds_nil (w : World) : Calls Try.prog 16 #[.pointer none] w fun e w' => e = .returned (.int .i64 0) ∧ w = w' := by
  go_enter Try.func16, Try.ntmps16
  go_wp2_with (go_at_call 38; refine (missing_nil _).mono ?_; rintro e w' ⟨rfl, rfl⟩)
  go_ret
  exact ⟨rfl, rfl⟩
theorem rounds_cip (b n : Nat) (W : Nat → Nat → Nat) (w : World) (h : Cip w b n W) : Calls Try.prog 16 #[.pointer (some ⟨b, 0, none⟩)] w fun e w' => e = .returned (.int .i64 (n : Nat)) ∧ w = w' := by
  have HM := Lib.hid (missing_cip b n W w h)
  obtain ⟨g, cap, h1, h2, h3, h4, _⟩ := h
  have hn : (n : Int) < 9223372036854775807 := by omega
  go_enter Try.func16, Try.ntmps16
  go_wp2_with (go_at_call 38; refine HM.out.mono ?_; rintro e w' ⟨rfl, rfl⟩)
  go_ret
  exact ⟨ret_int (by omega), rfl⟩
end Go.Proofs.Ytpfhfnhbholboaa
