/- Texts of mine, one behind the other: Ra1 Ra2. -/
import Derived.Test.YtkfdcdfaikkneaaGreatDoorDI
import Derived.Test.YtkfdcdfaikkneaaGreatDoorDD
import Derived.Test.YtkfdcdfaikkneaaGreatDoorDJ
/- Supers, plain: the document's: who is in as places, rising; their bits added up. -/
namespace Go.Proofs.YtkfdcdfaikkneaaGreatDoor
open Go.ChangeShapes Go.WideShapes Go.ChangeAt Go.RowKit Go.Shelf
set_option linter.unusedVariables false
set_option linter.unusedSimpArgs false

/-- The places below k of who is in. -/
def inK (l : List Bool) : Nat → List Int
  | 0 => []
  | k + 1 => if l.getD k false then inK l k ++ [(k : Int)] else inK l k
theorem inK_mem {l : List Bool} {p : Int} : ∀ {k : Nat}, p ∈ inK l k ↔ ∃ i : Nat, i < k ∧ p = (i : Int) ∧ l.getD i false = true
  | 0 => by simp [inK]
  | k + 1 => by
    rw [inK]
    by_cases h : l.getD k false = true
    · rw [if_pos h, List.mem_append, inK_mem, List.mem_singleton]
      constructor
      · rintro (⟨i, h1, h2, h3⟩ | rfl)
        · exact ⟨i, by omega, h2, h3⟩
        · exact ⟨k, by omega, rfl, h⟩
      · rintro ⟨i, h1, h2, h3⟩
        by_cases e : i = k
        · subst e; exact .inr h2
        · exact .inl ⟨i, by omega, h2, h3⟩
    · rw [if_neg h, inK_mem]
      constructor
      · rintro ⟨i, h1, h2, h3⟩; exact ⟨i, by omega, h2, h3⟩
      · rintro ⟨i, h1, h2, h3⟩
        by_cases e : i = k
        · subst e; exact absurd h3 h
        · exact ⟨i, by omega, h2, h3⟩
theorem inK_len (l : List Bool) : ∀ k, (inK l k).length ≤ k
  | 0 => by simp [inK]
  | k + 1 => by
    rw [inK]
    have := inK_len l k
    split
    · rw [List.length_append, List.length_singleton]; omega
    · omega
theorem inK_yes {l : List Bool} {k : Nat} (h : l.getD k false = true) : inK l (k + 1) = inK l k ++ [(k : Int)] := by rw [inK, if_pos h]
theorem inK_no {l : List Bool} {k : Nat} (h : l.getD k false = false) : inK l (k + 1) = inK l k := by rw [inK, if_neg (by rw [h]; decide)]
/-- A bit added. -/
def addB (row : List Int) (i : Int) : List Int := row.set (i.toNat / 8) ((row.getD (i.toNat / 8) 0 + 2 ^ (7 - i.toNat % 8)) % 256)
def rowS (S : List Int) : List Int := S.foldl addB (List.replicate 32 0)
theorem rowS_snoc (S : List Int) (x : Int) : rowS (S ++ [x]) = addB (rowS S) x := by simp [rowS]
theorem addB_len (row : List Int) (i : Int) : (addB row i).length = row.length := by simp [addB]
theorem rowS_len (S : List Int) : (rowS S).length = 32 := by
  unfold rowS
  have : ∀ (T : List Int) (r : List Int), (T.foldl addB r).length = r.length := by
    intro T
    induction T with
    | nil => intro r; rfl
    | cons x T ih => intro r; rw [List.foldl_cons, ih, addB_len]
  rw [this, List.length_replicate]
theorem addB_B {row : List Int} (h : AllB row) (i : Int) : AllB (addB row i) := fun y hy => by
  unfold addB at hy
  rcases List.mem_or_eq_of_mem_set hy with h1 | h1
  · exact h y h1
  · rw [h1]; omega
theorem rowS_B (S : List Int) : AllB (rowS S) := by
  unfold rowS
  have : ∀ (T : List Int) (r : List Int), AllB r → AllB (T.foldl addB r) := by
    intro T
    induction T with
    | nil => intro r h; exact h
    | cons x T ih => intro r h; rw [List.foldl_cons]; exact ih _ (addB_B h x)
  exact this S _ (allB_zeros 32)
theorem byteK_add {l : List Bool} {k : Nat} : byteK l k (k / 8) ||| 2 ^ (7 - k % 8) = byteK l k (k / 8) + 2 ^ (7 - k % 8) := by
  have hd : byteK l k (k / 8) % 2 ^ (8 - k % 8) = 0 := by
    apply Nat.eq_of_testBit_eq
    intro t
    rw [Nat.testBit_mod_two_pow, Nat.zero_testBit]
    by_cases ht : t < 8 - k % 8
    · have h8 : t < 8 := by omega
      rw [byteK_bit l k _ t h8]
      have : ¬ 8 * (k / 8) + (7 - t) < k := by omega
      simp [this]
    · simp [ht]
  obtain ⟨q, hq⟩ : ∃ q, byteK l k (k / 8) = 2 ^ (8 - k % 8) * q := ⟨_, (Nat.mul_div_cancel' (Nat.dvd_of_mod_eq_zero hd)).symm⟩
  rw [hq]
  have := Nat.two_pow_add_eq_or_of_lt (i := 8 - k % 8) (b := 2 ^ (7 - k % 8)) (Nat.pow_lt_pow_right (by omega) (by omega)) q
  exact this.symm
theorem rowS_inK {l : List Bool} (hl : l.length = 256) : ∀ k, k ≤ 256 → rowS (inK l k) = rowK l k
  | 0, _ => by rw [rowK_zero, hl]; rfl
  | k + 1, h => by
    cases hy : l.getD k false with
    | false => rw [inK_no hy, rowK_no hy, rowS_inK hl k (by omega)]
    | true =>
      rw [inK_yes hy, rowS_snoc, rowS_inK hl k (by omega), ← rowK_yes hy, byteK_add]
      unfold addB
      rw [Int.toNat_natCast, rowK_getD (by rw [hl]; omega)]
      have h1 := byteK_lt l (k + 1) (k / 8)
      rw [← byteK_yes hy, byteK_add] at h1
      congr 1
      rw [Int.emod_eq_of_lt (by have : (0 : Int) < 2 ^ (7 - k % 8) := Int.pow_pos (by omega); omega) (by
        have e : ((byteK l k (k / 8) + 2 ^ (7 - k % 8) : Nat) : Int) = (byteK l k (k / 8) : Int) + 2 ^ (7 - k % 8) := by simp
        rw [← e]; omega)]
      simp
/-- Who is in, of a super. -/
def SU.L (P : SU) : List Int := inK P.inn 256
theorem rowS_L {P : SU} (h : P.Wf) : rowS P.L = packL P.inn := by
  unfold SU.L packL
  rw [rowS_inK h.inn 256 (Nat.le_refl _), h.inn]
theorem SU.L_in {P : SU} {p : Int} (h : p ∈ P.L) : 0 ≤ p ∧ p < 256 := by
  obtain ⟨i, h1, h2, _⟩ := inK_mem.1 h
  omega
theorem ok2_iff {P : SU} (h : P.Wf) : P.Ok2 ↔ ∀ p ∈ P.L, 1 ≤ p ∧ p ≤ P.n := by
  have hn := h.n
  unfold byteI at hn
  unfold SU.Ok2 SU.L
  constructor
  · rintro ⟨h0, h1⟩ p hp
    obtain ⟨i, hi, rfl, ht⟩ := inK_mem.1 hp
    constructor
    · rcases Nat.eq_zero_or_pos i with rfl | h2
      · rw [h0] at ht; cases ht
      · omega
    · rcases Int.lt_or_le P.n (i : Int) with hlt | hle
      · have hx := List.all_eq_true.1 h1 (P.inn[i]'(by rw [h.inn]; exact hi)) (by
          rw [List.mem_iff_getElem]
          refine ⟨i - (P.n.toNat + 1), by rw [List.length_drop, h.inn]; omega, ?_⟩
          rw [List.getElem_drop]
          congr 1; omega)
        rw [List.getD_eq_getElem?_getD, List.getElem?_eq_getElem (by rw [h.inn]; exact hi), Option.getD_some] at ht
        rw [ht] at hx; cases hx
      · exact hle
  · intro hp
    constructor
    · cases h0 : P.inn.getD 0 false with
      | false => rfl
      | true =>
        have := (hp ((0 : Nat) : Int) (inK_mem.2 ⟨0, by omega, rfl, h0⟩)).1
        omega
    · refine List.all_eq_true.2 fun x hx => ?_
      obtain ⟨j, hj, rfl⟩ := List.getElem_of_mem hx
      rw [List.length_drop, h.inn] at hj
      rw [List.getElem_drop]
      cases hv : P.inn[P.n.toNat + 1 + j]'(by rw [h.inn]; omega) with
      | false => rfl
      | true =>
        have := (hp ((P.n.toNat + 1 + j : Nat) : Int) (inK_mem.2 ⟨P.n.toNat + 1 + j, by omega, rfl, by
          rw [List.getD_eq_getElem?_getD, List.getElem?_eq_getElem (by rw [h.inn]; omega), Option.getD_some, hv]⟩)).2
        omega
end Go.Proofs.YtkfdcdfaikkneaaGreatDoor
/- The document's super as a value; rows of fourteen cells. -/
namespace Go.Proofs.YtkfdcdfaikkneaaGreatDoor
open Go.ChangeShapes Go.WideShapes Go.ChangeAt Go.RowKit Go.Shelf
set_option linter.unusedVariables false
set_option linter.unusedSimpArgs false
set_option maxRecDepth 100000

theorem strCellsB {l : List Int} (h : AllB l) : Lib.strCells (strOfNums l) = l.map (Value.int .u8) := by
  unfold Lib.strCells
  rw [strOfNums_data, List.map_map]
  refine List.map_congr_left fun x hx => ?_
  have := h x hx
  simp
  omega
/-- The document's super, as a value: who is in lies in v. -/
def ruA (P : SU) (v : Value) : Value := .agg #[.string (strOfNums P.nm), .int .i64 P.p, .int .i64 P.n, .int .i64 P.t, .int .i64 P.m, .int .i64 P.c, .int .u64 P.bl, .int .u64 P.bo, .int .u64 P.ep, v, .int .u64 P.rf, .int .u64 P.sc, .int .i64 P.tg, .int .u64 P.rs]
theorem cell14 {W : World} {b : Nat} {x0 x1 x2 x3 x4 x5 x6 x7 x8 x9 xa xb xc xd : Value} {T : TypeId} (h : W.heap[b]? = some (.cells #[x0, x1, x2, x3, x4, x5, x6, x7, x8, x9, xa, xb, xc, xd] T (0, 0))) :
    W.cell? ⟨b, 0, none⟩ = some x0 ∧ W.cell? ⟨b, 1, none⟩ = some x1 ∧ W.cell? ⟨b, 2, none⟩ = some x2 ∧ W.cell? ⟨b, 3, none⟩ = some x3 ∧ W.cell? ⟨b, 4, none⟩ = some x4 ∧ W.cell? ⟨b, 5, none⟩ = some x5 ∧ W.cell? ⟨b, 6, none⟩ = some x6 ∧ W.cell? ⟨b, 7, none⟩ = some x7 ∧ W.cell? ⟨b, 8, none⟩ = some x8 ∧ W.cell? ⟨b, 9, none⟩ = some x9 ∧ W.cell? ⟨b, 10, none⟩ = some xa ∧ W.cell? ⟨b, 11, none⟩ = some xb ∧ W.cell? ⟨b, 12, none⟩ = some xc ∧ W.cell? ⟨b, 13, none⟩ = some xd :=
  ⟨(cell_of_row _ b 0 _ _ _ h).trans rfl, (cell_of_row _ b 1 _ _ _ h).trans rfl, (cell_of_row _ b 2 _ _ _ h).trans rfl, (cell_of_row _ b 3 _ _ _ h).trans rfl, (cell_of_row _ b 4 _ _ _ h).trans rfl, (cell_of_row _ b 5 _ _ _ h).trans rfl, (cell_of_row _ b 6 _ _ _ h).trans rfl, (cell_of_row _ b 7 _ _ _ h).trans rfl, (cell_of_row _ b 8 _ _ _ h).trans rfl, (cell_of_row _ b 9 _ _ _ h).trans rfl, (cell_of_row _ b 10 _ _ _ h).trans rfl, (cell_of_row _ b 11 _ _ _ h).trans rfl, (cell_of_row _ b 12 _ _ _ h).trans rfl, (cell_of_row _ b 13 _ _ _ h).trans rfl⟩
end Go.Proofs.YtkfdcdfaikkneaaGreatDoor
