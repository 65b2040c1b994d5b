/- Rows of bytes as polynomials, and back. No program is named here. -/
import Derived.Test.YtmhknggjpggagaaGlag
import Derived.Test.YtmhknggjpggagaaMem
namespace Go.Proofs.Ytmhknggjpggagaa
open GF

/-- A byte as a number of the field. -/
def toG (x : Int) : GF := ⟨x.toNat % 256, Nat.mod_lt _ (by decide)⟩
/-- .. and back. -/
def toI (a : GF) : Int := ((a.1 : Nat) : Int)
theorem toI_bd (a : GF) : 0 ≤ toI a ∧ toI a < 256 := by have := a.2; unfold toI; omega
theorem toI_toG {x : Int} (h : 0 ≤ x ∧ x < 256) : toI (toG x) = x := by
  show (((x.toNat % 256 : Nat)) : Int) = x
  omega
theorem toG_toI (a : GF) : toG (toI a) = a := by
  apply GF.ext
  show ((a.1 : Nat) : Int).toNat % 256 = a.1
  have := a.2
  omega
theorem toG_nat {n : Nat} (h : n < 256) : (toG (n : Int)).1 = n := by
  show ((n : Nat) : Int).toNat % 256 = n
  omega
theorem toG_zero : toG 0 = 0 := rfl
theorem toG_one : toG 1 = 1 := rfl
theorem toI_zero : toI 0 = 0 := rfl
theorem toI_one : toI 1 = 1 := rfl
theorem toI_inj {a b : GF} (h : toI a = toI b) : a = b := by rw [← toG_toI a, h, toG_toI]
theorem toG_inj {x y : Int} (hx : 0 ≤ x ∧ x < 256) (hy : 0 ≤ y ∧ y < 256) (h : toG x = toG y) : x = y := by rw [← toI_toG hx, h, toI_toG hy]
theorem toI_eq_zero {a : GF} : toI a = 0 ↔ a = 0 := ⟨fun h => toI_inj (by rw [h]; rfl), fun h => by rw [h]; rfl⟩
/-- A row of bytes as a polynomial. -/
def gL (l : List Int) : List GF := l.map toG
/-- .. and back. -/
def iL (l : List GF) : List Int := l.map toI
theorem length_gL (l : List Int) : (gL l).length = l.length := by simp [gL]
theorem length_iL (l : List GF) : (iL l).length = l.length := by simp [iL]
theorem gL_iL (l : List GF) : gL (iL l) = l := by
  unfold gL iL
  rw [List.map_map]
  conv => rhs; rw [← List.map_id l]
  apply List.map_congr_left
  intro a _
  exact toG_toI a
theorem iL_gL {l : List Int} (h : AllB l) : iL (gL l) = l := by
  unfold gL iL
  rw [List.map_map]
  conv => rhs; rw [← List.map_id l]
  apply List.map_congr_left
  intro x hx
  exact toI_toG (h x hx)
theorem allB_iL (l : List GF) : AllB (iL l) := by
  intro x hx
  obtain ⟨a, _, rfl⟩ := List.mem_map.1 hx
  exact toI_bd a
theorem iL_inj {l m : List GF} (h : iL l = iL m) : l = m := by rw [← gL_iL l, h, gL_iL]
theorem gL_inj {l m : List Int} (hl : AllB l) (hm : AllB m) (h : gL l = gL m) : l = m := by rw [← iL_gL hl, h, iL_gL hm]
theorem co_gL (l : List Int) (k : Nat) : co (gL l) k = toG (l.getD k 0) := by
  by_cases h : k < l.length
  · rw [co_lt (by simpa [gL] using h)]
    simp [gL, List.getD_eq_getElem?_getD, List.getElem?_eq_getElem h]
  · rw [co_ge (by simp [gL]; omega)]
    simp [List.getD_eq_getElem?_getD, List.getElem?_eq_none (Nat.le_of_not_lt h)]
    exact toG_zero.symm
theorem getD_iL (l : List GF) (k : Nat) : (iL l).getD k 0 = toI (co l k) := by
  by_cases h : k < l.length
  · rw [co_lt h]
    simp [iL, List.getD_eq_getElem?_getD, List.getElem?_eq_getElem h]
  · rw [co_ge (by omega)]
    simp [iL, List.getD_eq_getElem?_getD, List.getElem?_eq_none (Nat.le_of_not_lt h)]
    exact toI_zero.symm
theorem gL_take (l : List Int) (n : Nat) : gL (l.take n) = (gL l).take n := by simp [gL, List.map_take]
theorem gL_append (l m : List Int) : gL (l ++ m) = gL l ++ gL m := by simp [gL]
theorem gL_set (l : List Int) (k : Nat) (x : Int) : gL (l.set k x) = (gL l).set k (toG x) := by simp [gL, List.map_set]
theorem gL_replicate (n : Nat) : gL (List.replicate n 0) = List.replicate n 0 := by simp only [gL, List.map_replicate]; rw [toG_zero]
theorem co_set {l : List GF} {k j : Nat} {c : GF} (hk : k < l.length) : co (l.set k c) j = if j = k then c else co l j := by
  by_cases e : j = k
  · subst e; rw [if_pos rfl]; simp [co, List.getD_eq_getElem?_getD, hk]
  · rw [if_neg e]; simp [co, List.getD_eq_getElem?_getD, Ne.symm e]
theorem co_take {l : List GF} {n k : Nat} (h : k < n) : co (l.take n) k = co l k := by simp [co, List.getD_eq_getElem?_getD, h]
theorem co_replicate (n k : Nat) : co (List.replicate n 0) k = 0 := by
  by_cases h : k < n
  · rw [co_lt (by simpa using h)]; simp
  · rw [co_ge (by simpa using Nat.le_of_not_lt h)]
theorem toI_mul {x y : Int} : toI (toG x * toG y) = ((gm (x.toNat % 256) (y.toNat % 256) : Nat) : Int) := rfl
theorem toI_add {x y : Int} : toI (toG x + toG y) = (((x.toNat % 256) ^^^ (y.toNat % 256) : Nat) : Int) := rfl
theorem toG_gm {x y : Int} (hx : 0 ≤ x ∧ x < 256) (hy : 0 ≤ y ∧ y < 256) : toG ((gm x.toNat y.toNat : Nat) : Int) = toG x * toG y := by
  apply toI_inj
  have := gm_lt x.toNat y.toNat
  rw [toI_toG (by omega), toI_mul, Nat.mod_eq_of_lt (by omega), Nat.mod_eq_of_lt (by omega)]
theorem toG_xor {x y : Int} (hx : 0 ≤ x ∧ x < 256) (hy : 0 ≤ y ∧ y < 256) : toG ((x.toNat ^^^ y.toNat : Nat) : Int) = toG x + toG y := by
  apply toI_inj
  have := xor_lt (a := x.toNat) (b := y.toNat) (by omega) (by omega)
  rw [toI_toG (by omega), toI_add, Nat.mod_eq_of_lt (by omega), Nat.mod_eq_of_lt (by omega)]
theorem toG_inv {x : Int} (hx : 0 ≤ x ∧ x < 256) : toG ((inv x.toNat : Nat) : Int) = GF.inv (toG x) := by
  apply toI_inj
  have := inv_lt x.toNat
  rw [toI_toG (by omega)]
  show _ = ((inv (x.toNat % 256) : Nat) : Int)
  rw [Nat.mod_eq_of_lt (by omega)]
end Go.Proofs.Ytmhknggjpggagaa
