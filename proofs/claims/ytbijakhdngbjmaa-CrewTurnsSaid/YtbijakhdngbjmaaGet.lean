/- Contracts: word.Get at four widths, the document's Get and Put. -/
import Derived.Test.YtbijakhdngbjmaaPut
import Derived.Test.YtbijakhdngbjmaaQ1
namespace Go.Proofs.Ytbijakhdngbjmaa
open Go.ChangeShapes Go.WideShapes Go.ChangeAt Go.RowKit
set_option linter.unusedVariables false

/-- The number that bytes write, the greatest first. -/
def numB (l : List Int) : Int := l.foldl (fun s x => s * 256 + x) 0
theorem numB_snoc (l : List Int) (x : Int) : numB (l ++ [x]) = numB l * 256 + x := by simp [numB]
theorem numB_bound {l : List Int} (h : AllB l) : 0 ≤ numB l ∧ numB l < 256 ^ l.length := by
  obtain ⟨n, hn⟩ : ∃ n, n = l.length := ⟨_, rfl⟩
  induction n generalizing l with
  | zero => obtain rfl : l = [] := List.eq_nil_of_length_eq_zero hn.symm; simp [numB]
  | succ n ih =>
    obtain ⟨m, x, rfl⟩ : ∃ m x, l = m ++ [x] := by
      rcases List.eq_nil_or_concat l with rfl | ⟨m, x, e⟩
      · simp at hn
      · exact ⟨m, x, by simpa using e⟩
    have hm : n = m.length := by simp at hn; omega
    have hi := ih (l := m) (fun y hy => h y (List.mem_append_left _ hy)) hm
    have hx := h x (by simp)
    rw [numB_snoc, List.length_append, List.length_singleton, Int.pow_succ]
    generalize (256 : Int) ^ m.length = P at *
    omega
theorem take_snoc_getD {l : List Int} {k : Nat} (h : k < l.length) : l.take (k + 1) = l.take k ++ [l.getD k 0] := by
  rw [List.take_succ_eq_append_getElem h]
  simp [List.getD_eq_getElem?_getD, List.getElem?_eq_getElem h]
theorem numB_take_succ {l : List Int} {k : Nat} (h : k < l.length) : numB (l.take (k + 1)) = numB (l.take k) * 256 + l.getD k 0 := by
  rw [take_snoc_getD h, numB_snoc]
/-- What Get tells. -/
def getV (n : Nat) (l : List Int) : Int := if l.length < n then 0 else numB (l.take n)
theorem getV_few {n : Nat} {l : List Int} (h : l.length < n) : getV n l = 0 := by simp [getV, h]
theorem getV_num {n : Nat} {l : List Int} (h : n ≤ l.length) : getV n l = numB (l.take n) := by simp [getV, Nat.not_lt.2 h]
theorem getV_bound {n : Nat} {l : List Int} (h : AllB l) : 0 ≤ getV n l ∧ getV n l < 256 ^ n := by
  by_cases hl : l.length < n
  · rw [getV_few hl]
    exact ⟨Int.le_refl _, Int.pow_pos (by omega)⟩
  · rw [getV_num (by omega)]
    have := numB_bound (h.take n)
    rw [List.length_take, Nat.min_eq_left (by omega)] at this
    exact this
theorem or_byte {S X : Int} (h0 : 0 ≤ S) (h1 : S < 72057594037927936) (hx : 0 ≤ X ∧ X < 256) : bits .or .u64 (S * 256) X = S * 256 + X := by
  obtain ⟨s, rfl⟩ := Int.eq_ofNat_of_zero_le h0
  obtain ⟨x, rfl⟩ := Int.eq_ofNat_of_zero_le hx.1
  rw [show ((s : Int) * 256) = ((s * 256 : Nat) : Int) by simp, u64_or_nat _ _ (by omega) (by omega), nat_join 8 _ _ (by omega) (by omega)]
  simp
theorem ret_tup {k : IntKind} {a b : Int} {c d : Bool} (h : a = b) (g : c = d) : Ending.returned (.tuple #[.int k a, .bool c]) = .returned (.tuple #[.int k b, .bool d]) := by rw [h, g]
theorem pow_le_56 {k n : Nat} (h : k < n) (hn : n ≤ 8) : (256 : Int) ^ k ≤ 72057594037927936 := by
  have h1 : (256 : Nat) ^ k ≤ 72057594037927936 := Nat.le_trans (Nat.pow_le_pow_right (by omega) (show k ≤ 7 by omega)) (by decide)
  have h2 : ((256 ^ k : Nat) : Int) ≤ ((72057594037927936 : Nat) : Int) := Int.ofNat_le.2 h1
  rw [Int.natCast_pow] at h2
  exact h2

end Go.Proofs.Ytbijakhdngbjmaa
