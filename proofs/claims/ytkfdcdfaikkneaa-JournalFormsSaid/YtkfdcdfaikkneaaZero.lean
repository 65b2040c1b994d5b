/- The contract of word.Zero. -/
import Derived.Test.YtkfdcdfaikkneaaXor
namespace Go.Proofs.Ytkfdcdfaikkneaa
open Go.ChangeShapes Go.WideShapes Go.ChangeAt Go.RowKit
set_option linter.unusedVariables false

def zeroL (l : List Int) : Bool := l.all (· == 0)
theorem zeroL_false {l : List Int} {k : Nat} (hk : k < l.length) (h : l.getD k 0 ≠ 0) : zeroL l = false := by
  unfold zeroL
  rw [List.all_eq_false]
  refine ⟨l[k], List.getElem_mem hk, ?_⟩
  have : l.getD k 0 = l[k] := by simp [List.getD_eq_getElem?_getD, List.getElem?_eq_getElem hk]
  rw [this] at h
  simpa using h
theorem zeroL_true {l : List Int} (h : ∀ i, i < l.length → l.getD i 0 = 0) : zeroL l = true := by
  unfold zeroL
  rw [List.all_eq_true]
  intro x hx
  obtain ⟨i, hi, rfl⟩ := List.getElem_of_mem hx
  have := h i hi
  have e : l.getD i 0 = l[i] := by simp [List.getD_eq_getElem?_getD, List.getElem?_eq_getElem hi]
  rw [e] at this
  simpa using this
theorem ret_bool {a b : Bool} (h : a = b) : Ending.returned (.bool a) = .returned (.bool b) := by rw [h]

theorem zero_any (a : Option Addr) (n c : Nat) (l : List Int) (w : World) (hl : l.length = n) (hb : Bs w w.heap.size a l) (hn : n ≤ 9223372036854775807) :
    Calls Try.prog 60 #[.slice a n c] w fun e w' => e = .returned (.bool (zeroL l)) ∧ w = w' := by
  go_enter Try.func60, Try.ntmps60
  go_wp2
  go_loop [7] (fun i => ∃ k : Nat, k ≤ n ∧ i = .int .i64 k ∧ Hid (∀ i, i < k → l.getD i 0 = 0)) (fun i => n - (intOf i).toNat)
  case atStart => exact ⟨0, Nat.zero_le _, rfl, fun i hi => absurd hi (by omega)⟩
  case round =>
    obtain ⟨k, hk, rfl, hz⟩ := hrel
    by_cases hlt : k < n
    · obtain ⟨b, off, rfl, hB, hc⟩ := hb.at_ (k := k) (by omega)
      obtain ⟨X, hX⟩ : ∃ X, X = l.getD k 0 := ⟨_, rfl⟩
      rw [← hX] at hc
      have HX := Lib.hid hX
      clear hX
      by_cases h0 : X = 0
      · subst h0
        go_wp2
        go_round
        case rel =>
          refine ⟨k + 1, by omega, by go_num, fun i hi => ?_⟩
          by_cases e : i = k
          · subst e; exact HX.out.symm
          · exact hz.out i (by omega)
        case measure => simp [intOf]; omega
      · have HF := Lib.hid (zeroL_false (l := l) (k := k) (by omega) (by rw [← HX.out]; exact h0))
        have h1 : (X != 0) = true := by simpa using h0
        go_wp2
        go_ret
        exact ⟨ret_bool HF.out.symm, rfl⟩
    · obtain rfl : k = n := by omega
      have HT := Lib.hid (zeroL_true (l := l) (fun i hi => hz.out i (by omega)))
      go_wp2
      go_ret
      exact ⟨ret_bool HT.out.symm, rfl⟩
end Go.Proofs.Ytkfdcdfaikkneaa
