/- A cipher's stream as lists: plain maths. -/
import Derived.Test.YtpfhfnhbholboaaKs
import Derived.Test.YtpfhfnhbholboaaNa
namespace Go.Proofs.Ytpfhfnhbholboaa
open Go.ChangeShapes Go.WideShapes Go.ChangeAt Go.RowKit
set_option linter.unusedVariables false
set_option maxRecDepth 100000

/-- Blocks, so many, from a counter on. -/
def blks (f : Nat → List Int) (c : Nat) : Nat → List Int
  | 0 => []
  | m + 1 => blks f c m ++ f (c + m)
theorem length_blks {f : Nat → List Int} (hf : ∀ c, (f c).length = 16) (c : Nat) : ∀ m, (blks f c m).length = 16 * m
  | 0 => rfl
  | m + 1 => by rw [blks, List.length_append, length_blks hf c m, hf]; omega
/-- The stream's byte at a place. -/
def sb (f : Nat → List Int) (p : Nat) : Int := (f (p / 16)).getD (p % 16) 0
/-- Bytes of the stream, so many, from a place on. -/
def stL (f : Nat → List Int) (at_ n : Nat) : List Int := (List.range n).map fun i => sb f (at_ + i)
theorem length_stL (f : Nat → List Int) (at_ n : Nat) : (stL f at_ n).length = n := by simp [stL]
theorem getD_stL (f : Nat → List Int) (at_ : Nat) {n i : Nat} (h : i < n) : (stL f at_ n).getD i 0 = sb f (at_ + i) := by
  simp [stL, List.getD_eq_getElem?_getD, List.getElem?_map, List.getElem?_range h]
theorem sb_bd {f : Nat → List Int} (hB : ∀ c, AllB (f c)) (p : Nat) : 0 ≤ sb f p ∧ sb f p < 256 := allB_getD (hB _) _
theorem allB_stL {f : Nat → List Int} (hB : ∀ c, AllB (f c)) (at_ n : Nat) : AllB (stL f at_ n) := fun x hx => by
  simp only [stL, List.mem_map] at hx
  obtain ⟨i, _, rfl⟩ := hx
  exact sb_bd hB _
theorem blks_getD {f : Nat → List Int} (hf : ∀ c, (f c).length = 16) (c : Nat) : ∀ m i, i < 16 * m → (blks f c m).getD i 0 = sb f (16 * c + i)
  | 0, i, h => by omega
  | m + 1, i, h => by
    rw [blks, List.getD_eq_getElem?_getD]
    by_cases e : i < 16 * m
    · rw [List.getElem?_append_left (by rw [length_blks hf]; exact e), ← List.getD_eq_getElem?_getD]
      exact blks_getD hf c m i e
    · rw [List.getElem?_append_right (by rw [length_blks hf]; omega), length_blks hf, ← List.getD_eq_getElem?_getD]
      unfold sb
      rw [show (16 * c + i) / 16 = c + m by omega, show (16 * c + i) % 16 = i - 16 * m by omega]
theorem blks_part {f : Nat → List Int} (hf : ∀ c, (f c).length = 16) (at_ n m : Nat) (h : at_ % 16 + n ≤ 16 * m) : ((blks f (at_ / 16) m).drop (at_ % 16)).take n = stL f at_ n := by
  refine list_ext_getD (by rw [List.length_take, List.length_drop, length_blks hf, length_stL]; omega) (fun i hi => ?_)
  have hi' : i < n := by rw [List.length_take] at hi; omega
  rw [getD_stL f at_ hi', List.getD_eq_getElem?_getD, List.getElem?_take_of_lt hi', List.getElem?_drop, ← List.getD_eq_getElem?_getD, blks_getD hf _ _ _ (by omega), show 16 * (at_ / 16) + (at_ % 16 + i) = at_ + i by omega]
theorem stL_block {f : Nat → List Int} (hf : ∀ c, (f c).length = 16) (c : Nat) : stL f (16 * c) 16 = f c := by
  refine list_ext_getD (by rw [length_stL, hf]) (fun i hi => ?_)
  rw [length_stL] at hi
  rw [getD_stL f _ hi]
  unfold sb
  rw [show (16 * c + i) / 16 = c by omega, show (16 * c + i) % 16 = i by omega]
theorem stL_drop (f : Nat → List Int) (a n k : Nat) : (stL f a n).drop k = stL f (a + k) (n - k) := by
  refine list_ext_getD (by rw [List.length_drop, length_stL, length_stL]) (fun i hi => ?_)
  rw [List.length_drop, length_stL] at hi
  rw [getD_stL f _ hi, List.getD_eq_getElem?_getD, List.getElem?_drop, ← List.getD_eq_getElem?_getD, getD_stL f a (by omega), Nat.add_assoc]
/-- The block of a counter under a key and a nonce. -/
def strf (K N : List Int) (c : Nat) : List Int := encL (K.length / 4 + 6) (keyW K) (N ++ be 8 (c : Int))
theorem strf_len (K N : List Int) : ∀ c, (strf K N c).length = 16 := fun c => length_encL _ _ _
theorem strf_B {K : List Int} (hK : AllB K) (N : List Int) : ∀ c, AllB (strf K N c) := fun c => allB_encL (keyW_bd hK) _ _
theorem xorL_B (a b : List Int) (ha : AllB a) (hb : AllB b) : AllB (xorL a b) := by
  intro x hx
  obtain ⟨i, hi, rfl⟩ := List.getElem_of_mem hx
  have h1 := xorL_getD (a := a) (b := b) (k := i) (by rw [length_xorL] at hi; exact hi)
  rw [List.getD_eq_getElem?_getD, List.getElem?_eq_getElem hi] at h1
  simp only [Option.getD_some] at h1
  rw [h1]
  have h2 := allB_getD ha i
  have h3 := allB_getD hb i
  have := Nat.xor_lt_two_pow (n := 8) (show (a.getD i 0).toNat < 2 ^ 8 by omega) (show (b.getD i 0).toNat < 2 ^ 8 by omega)
  omega
theorem xorL_twice {a b : List Int} (h : a.length = b.length) (ha : AllB a) : xorL (xorL a b) b = a := by
  refine list_ext_getD (by rw [length_xorL, length_xorL]; omega) (fun i hi => ?_)
  rw [length_xorL, length_xorL] at hi
  rw [xorL_getD (by rw [length_xorL]; omega), xorL_getD (by omega), Int.toNat_natCast, Nat.xor_assoc, Nat.xor_self, Nat.xor_zero]
  have := allB_getD ha i
  omega
end Go.Proofs.Ytpfhfnhbholboaa
