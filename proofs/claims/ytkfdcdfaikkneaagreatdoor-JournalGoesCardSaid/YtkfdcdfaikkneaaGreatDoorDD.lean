/- Texts of mine, one behind the other: PackM Bool PackC Unp. -/
import Derived.Test.YtkfdcdfaikkneaaGreatDoorDA
import Derived.Laws.BitsAllLaws
import Derived.Test.YtkfdcdfaikkneaaGreatDoorQ1
import Derived.Deep.Grids
import Derived.Deep.OwnRows
import Derived.Test.YtkfdcdfaikkneaaGreatDoorDC
import Derived.Deep.RegionHeld
/- Plain facts on bits packed in bytes. No program is named here. -/
namespace Go.Proofs.YtkfdcdfaikkneaaGreatDoor

/-- The number below 2^n whose bits f tells. -/
def ofB (f : Nat → Bool) : Nat → Nat
  | 0 => 0
  | n + 1 => ofB f n ||| (if f n then 2 ^ n else 0)
theorem testBit_ofB (f : Nat → Bool) : ∀ n i, (ofB f n).testBit i = (decide (i < n) && f i) := by
  intro n
  induction n with
  | zero => intro i; simp [ofB]
  | succ n ih =>
    intro i
    rw [ofB, Nat.testBit_or, ih]
    by_cases hf : f n
    · rw [if_pos hf, Nat.testBit_two_pow]
      by_cases h1 : n = i
      · subst h1; simp [hf]
      · by_cases h2 : i < n
        · have : i < n + 1 := by omega
          simp [h1, h2, this]
        · have : ¬ i < n + 1 := by omega
          simp [h1, h2, this]
    · rw [if_neg hf]
      by_cases h1 : n = i
      · subst h1; simp [hf]
      · by_cases h2 : i < n
        · have : i < n + 1 := by omega
          simp [h2, this]
        · have : ¬ i < n + 1 := by omega
          simp [h2, this]
theorem ofB_lt (f : Nat → Bool) (n : Nat) : ofB f n < 2 ^ n := by
  apply Nat.lt_pow_two_of_testBit
  intro i hi
  rw [testBit_ofB]; simp; omega

/-- The j-th byte of bits of which the first k are told. -/
def byteK (l : List Bool) (k j : Nat) : Nat := ofB (fun t => decide (8 * j + (7 - t) < k) && l.getD (8 * j + (7 - t)) false) 8
theorem byteK_lt (l : List Bool) (k j : Nat) : byteK l k j < 256 := ofB_lt _ 8
theorem byteK_bit (l : List Bool) (k j t : Nat) (ht : t < 8) : (byteK l k j).testBit t = (decide (8 * j + (7 - t) < k) && l.getD (8 * j + (7 - t)) false) := by
  unfold byteK; rw [testBit_ofB]; simp [ht]
theorem byteK_zero (l : List Bool) (j : Nat) : byteK l 0 j = 0 := by
  apply Nat.eq_of_testBit_eq
  intro i
  unfold byteK; rw [testBit_ofB]; simp
theorem byteK_no {l : List Bool} {k : Nat} (h : l.getD k false = false) (j : Nat) : byteK l (k + 1) j = byteK l k j := by
  apply Nat.eq_of_testBit_eq
  intro t
  unfold byteK; rw [testBit_ofB, testBit_ofB]
  by_cases e : 8 * j + (7 - t) = k
  · rw [e]; simp only [h]; simp
  · have : (8 * j + (7 - t) < k + 1) ↔ (8 * j + (7 - t) < k) := by omega
    simp [this]
theorem byteK_other {l : List Bool} {k j : Nat} (h : j ≠ k / 8) : byteK l (k + 1) j = byteK l k j := by
  apply Nat.eq_of_testBit_eq
  intro t
  unfold byteK; rw [testBit_ofB, testBit_ofB]
  by_cases ht : t < 8
  · have : (8 * j + (7 - t) < k + 1) ↔ (8 * j + (7 - t) < k) := by omega
    simp [this]
  · simp [ht]
theorem byteK_yes {l : List Bool} {k : Nat} (h : l.getD k false = true) : byteK l k (k / 8) ||| 2 ^ (7 - k % 8) = byteK l (k + 1) (k / 8) := by
  apply Nat.eq_of_testBit_eq
  intro t
  rw [Nat.testBit_or, Nat.testBit_two_pow]
  unfold byteK; rw [testBit_ofB, testBit_ofB]
  by_cases ht : t < 8
  · by_cases e : 7 - k % 8 = t
    · have e2 : 8 * (k / 8) + (7 - t) = k := by omega
      rw [e2]; simp only [h]; simp [ht, e]
    · have : (8 * (k / 8) + (7 - t) < k + 1) ↔ (8 * (k / 8) + (7 - t) < k) := by omega
      simp [this, e]
  · have : ¬ 7 - k % 8 = t := by omega
    simp [ht, this]
def rowK (l : List Bool) (k : Nat) : List Int := (List.range ((l.length + 7) / 8)).map fun j => (byteK l k j : Int)
theorem length_rowK (l : List Bool) (k : Nat) : (rowK l k).length = (l.length + 7) / 8 := by simp [rowK]
theorem rowK_getD {l : List Bool} {k j : Nat} (h : j < (l.length + 7) / 8) : (rowK l k).getD j 0 = (byteK l k j : Int) := by
  simp [rowK, List.getD_eq_getElem?_getD, List.getElem?_map, List.getElem?_range h]
theorem rowK_zero (l : List Bool) : rowK l 0 = List.replicate ((l.length + 7) / 8) 0 := by
  apply List.ext_getElem
  · simp [rowK]
  · intro i h1 h2; simp [rowK, byteK_zero]
theorem rowK_no {l : List Bool} {k : Nat} (h : l.getD k false = false) : rowK l (k + 1) = rowK l k := by
  unfold rowK; simp only [byteK_no h]
theorem rowK_yes {l : List Bool} {k : Nat} (h : l.getD k false = true) : (rowK l k).set (k / 8) ((byteK l k (k / 8) ||| 2 ^ (7 - k % 8) : Nat) : Int) = rowK l (k + 1) := by
  apply List.ext_getElem
  · simp [rowK]
  · intro i h1 h2
    rw [List.getElem_set]
    by_cases e : k / 8 = i
    · rw [if_pos e]; subst e
      simp [rowK, byteK_yes h]
    · rw [if_neg e]
      simp [rowK, byteK_other (l := l) (k := k) (j := i) (by omega)]
/-- Bits as bytes. -/
def packL (l : List Bool) : List Int := rowK l l.length
theorem length_packL (l : List Bool) : (packL l).length = (l.length + 7) / 8 := length_rowK l _
/-- The bit that stands at a place of bytes. -/
def bitOf (b : List Int) (i : Nat) : Bool := (b.getD (i / 8) 0).toNat.testBit (7 - i % 8)
theorem bitOf_packL {l : List Bool} {i : Nat} (h : i / 8 < (l.length + 7) / 8) : bitOf (packL l) i = l.getD i false := by
  unfold bitOf packL
  rw [rowK_getD h, Int.toNat_natCast, byteK_bit _ _ _ _ (by omega), show 8 * (i / 8) + (7 - (7 - i % 8)) = i by omega]
  by_cases hi : i < l.length
  · simp [hi]
  · simp [hi, List.getD_eq_getElem?_getD]
/-- A bit that is masked out. -/
theorem and_place {X : Int} (h : 0 ≤ X ∧ X < 256) {p : Nat} (hp : p < 8) : bits .and .u8 X (2 ^ p) = (if X.toNat.testBit p then 2 ^ p else 0) := by
  obtain ⟨n, rfl⟩ := Int.eq_ofNat_of_zero_le h.1
  have hn : n < 256 := by omega
  have h2 : (2 : Nat) ^ p < 256 := by
    calc 2 ^ p < 2 ^ 8 := Nat.pow_lt_pow_right (by omega) hp
      _ = 256 := rfl
  rw [show ((2 : Int) ^ p) = ((2 ^ p : Nat) : Int) by simp, u8_and_nat _ _ hn h2, Int.toNat_natCast, nat_bit, Nat.testBit_eq_decide_div_mod_eq]
  rcases (by omega : n / 2 ^ p % 2 = 0 ∨ n / 2 ^ p % 2 = 1) with e | e <;> simp [e]
theorem and_place_ne {X : Int} (h : 0 ≤ X ∧ X < 256) {p : Nat} (hp : p < 8) : (bits .and .u8 X (2 ^ p) != 0) = X.toNat.testBit p := by
  rw [and_place h hp]
  have : (0 : Int) < 2 ^ p := Int.pow_pos (by omega)
  cases X.toNat.testBit p
  · rfl
  · simp; omega
theorem or_place {X p : Nat} (h : X < 256) (hp : p < 8) : bits .or .u8 (X : Int) (2 ^ p) = ((X ||| 2 ^ p : Nat) : Int) := by
  have h2 : (2 : Nat) ^ p < 256 := by
    calc 2 ^ p < 2 ^ 8 := Nat.pow_lt_pow_right (by omega) hp
      _ = 256 := rfl
  rw [show ((2 : Int) ^ p) = ((2 ^ p : Nat) : Int) by simp, u8_or_nat _ _ h h2]
/-- Are there no bits behind the first n? -/
def tight (b : List Int) (n : Nat) : Prop := ∀ i, n ≤ i → i < 8 * b.length → bitOf b i = false
/-- So many bits of bytes. -/
def unpackL (b : List Int) (n : Nat) : List Bool := (List.range n).map (bitOf b)
theorem length_unpackL (b : List Int) (n : Nat) : (unpackL b n).length = n := by simp [unpackL]
theorem unpackL_getD {b : List Int} {n i : Nat} (h : i < n) : (unpackL b n).getD i false = bitOf b i := by
  simp [unpackL, List.getD_eq_getElem?_getD, List.getElem?_map, List.getElem?_range h]
theorem unpack_pack (l : List Bool) : unpackL (packL l) l.length = l := by
  apply List.ext_getElem
  · simp [unpackL]
  · intro i h1 h2
    simp only [unpackL, List.getElem_map, List.getElem_range]
    rw [bitOf_packL (by omega)]
    simp [List.getD_eq_getElem?_getD, List.getElem?_eq_getElem h2]
theorem tight_pack (l : List Bool) : tight (packL l) l.length := by
  intro i h1 h2
  rw [length_packL] at h2
  rw [bitOf_packL (by omega)]
  simp [List.getD_eq_getElem?_getD, List.getElem?_eq_none h1]
theorem pack_unpack {b : List Int} {n : Nat} (hb : ∀ x ∈ b, 0 ≤ x ∧ x < 256) (hn : (n + 7) / 8 = b.length) (ht : tight b n) : packL (unpackL b n) = b := by
  apply List.ext_getElem
  · rw [length_packL, length_unpackL, hn]
  · intro j h1 h2
    have hj : j < ((unpackL b n).length + 7) / 8 := by rw [length_unpackL, hn]; exact h2
    have hx := hb _ (List.getElem_mem h2)
    have e0 : (packL (unpackL b n))[j] = (byteK (unpackL b n) n j : Int) := by
      have := rowK_getD (l := unpackL b n) (k := n) hj
      have e : (rowK (unpackL b n) n).getD j 0 = (packL (unpackL b n))[j] := by
        simp [packL, length_unpackL, List.getD_eq_getElem?_getD, List.getElem?_eq_getElem (show j < (rowK (unpackL b n) n).length by rw [length_rowK]; exact hj)]
      rw [← e, this]
    rw [e0]
    have key : byteK (unpackL b n) n j = b[j].toNat := by
      apply Nat.eq_of_testBit_eq
      intro t
      by_cases ht8 : t < 8
      · rw [byteK_bit _ _ _ _ ht8]
        have eb : b.getD j 0 = b[j] := by simp [List.getD_eq_getElem?_getD, List.getElem?_eq_getElem h2]
        have e2 : bitOf b (8 * j + (7 - t)) = b[j].toNat.testBit t := by
          unfold bitOf
          rw [show (8 * j + (7 - t)) / 8 = j by omega, show 7 - (8 * j + (7 - t)) % 8 = t by omega, eb]
        by_cases hi : 8 * j + (7 - t) < n
        · rw [unpackL_getD hi, e2]; simp [hi]
        · have := ht (8 * j + (7 - t)) (by omega) (by omega)
          rw [e2] at this
          simp [hi, this]
      · have h3 : (b[j]).toNat < 2 ^ 8 := by have : (2 : Nat) ^ 8 = 256 := rfl; omega
        rw [Nat.testBit_lt_two_pow (Nat.lt_of_lt_of_le h3 (Nat.pow_le_pow_right (by omega) (by omega)))]
        exact Nat.testBit_lt_two_pow (Nat.lt_of_lt_of_le (ofB_lt _ 8) (Nat.pow_le_pow_right (by omega) (by omega)))
    rw [key]; omega
end Go.Proofs.YtkfdcdfaikkneaaGreatDoor
/- Slices of bools: what they read as. No program is named here. -/
namespace Go.Proofs.YtkfdcdfaikkneaaGreatDoor
open Go.RowKit

theorem allB_getD' {l : List Int} (h : AllB l) (k : Nat) : 0 ≤ l.getD k 0 ∧ l.getD k 0 < 256 := by
  by_cases hk : k < l.length
  · have : l.getD k 0 = l[k] := by simp [List.getD_eq_getElem?_getD, List.getElem?_eq_getElem hk]
    rw [this]; exact h _ (List.getElem_mem hk)
  · have : l.getD k 0 = 0 := by simp [List.getD_eq_getElem?_getD, List.getElem?_eq_none (Nat.le_of_not_lt hk)]
    omega
def Ls (w : World) (B : Nat) (a : Option Addr) (l : List Bool) : Prop :=
  0 < l.length → ∃ b off, a = some ⟨b, off, none⟩ ∧ b < B ∧ ∀ i, i < l.length → w.cell? ⟨b, off + i, none⟩ = some (.bool (l.getD i false))
theorem Ls.below {w w' : World} {B : Nat} {a : Option Addr} {l : List Bool} (h : Ls w B a l) (hb : Below B w w') : Ls w' B a l := fun h0 => by
  obtain ⟨b, off, e, hB, hc⟩ := h h0
  exact ⟨b, off, e, hB, fun i hi => (hb.cell (p := ⟨b, off + i, none⟩) hB).trans (hc i hi)⟩
theorem Ls.more {w : World} {B B' : Nat} {a : Option Addr} {l : List Bool} (h : Ls w B a l) (hB : B ≤ B') : Ls w B' a l := fun h0 => by
  obtain ⟨b, off, e, hb, hc⟩ := h h0
  exact ⟨b, off, e, by omega, hc⟩
theorem Ls.at_ {w : World} {B : Nat} {a : Option Addr} {l : List Bool} {k : Nat} (h : Ls w B a l) (hk : k < l.length) :
    ∃ b off, a = some ⟨b, off, none⟩ ∧ b < B ∧ w.cell? ⟨b, off + k, none⟩ = some (.bool (l.getD k false)) := by
  obtain ⟨b, off, e, hB, hc⟩ := h (by omega)
  exact ⟨b, off, e, hB, hc k hk⟩
def ArgL (w : World) (a : Option Addr) (len cap : Nat) (l : List Bool) : Prop := l.length = len ∧ Ls w w.heap.size a l ∧ len ≤ cap ∧ cap ≤ maxLen
theorem ArgL.on {W w : World} {a : Option Addr} {n c : Nat} {l : List Bool} (h : ArgL W a n c l) (hb : Below W.heap.size W w) : ArgL w a n c l :=
  ⟨h.1, (h.2.1.below hb).more hb.size, h.2.2⟩
/-- From the reading of an argument that is a slice of bools. -/
theorem argL {w : World} {a : Option Addr} {len cap : Nat} (h : (a = none ∧ len = 0 ∧ cap = 0) ∨
    ∃ (x : Addr) (B : Nat → Bool), a = some x ∧ len ≤ cap ∧ cap ≤ maxLen ∧ ∀ i, i < cap → w.cell? (x.add i) = some (.bool (B i))) :
    ∃ l, ArgL w a len cap l := by
  rcases h with ⟨rfl, rfl, rfl⟩ | ⟨x, B, rfl, hl, hm, hc⟩
  · exact ⟨[], rfl, fun h => absurd h (by simp), Nat.le_refl _, Nat.zero_le _⟩
  · refine ⟨(List.range len).map B, by simp, fun h0 => ?_, hl, hm⟩
    have h1 : 0 < cap := by simp at h0; omega
    have hc0 := hc 0 h1
    obtain ⟨b, off, spot⟩ := x
    have hs : spot = none := by simpa [Addr.add] using World.cell?_spot hc0
    subst hs
    have hb : b < w.heap.size := by
      rcases Nat.lt_or_ge b w.heap.size with hlt | hge
      · exact hlt
      · have : w.cell? ((⟨b, off, none⟩ : Addr).add 0) = none := by
          simp [World.cell?, Addr.add, Array.getElem?_eq_none hge]
        rw [this] at hc0; cases hc0
    refine ⟨b, off, rfl, hb, fun i hi => ?_⟩
    have hi' : i < len := by simpa using hi
    have := hc i (by omega)
    rw [Addr.add_lit] at this
    rw [this]
    simp [List.getD_eq_getElem?_getD, List.getElem?_map, List.getElem?_range hi']
theorem map_bool_getElem? {l : List Bool} {j : Nat} (h : j < l.length) : (l.map Value.bool)[j]? = some (.bool (l.getD j false)) := by
  simp [List.getElem?_map, List.getD_eq_getElem?_getD, List.getElem?_eq_getElem h]
theorem own_cellsL {w : World} {base : Nat} {e : TypeId} {g n c : Nat} {l : List Bool} (h : w.ownsRow base e 1 (.slice (some ⟨g, 0, none⟩) n c) n (l.map Value.bool)) :
    ∀ i, i < n → w.cell? ⟨g, 0 + i, none⟩ = some (.bool (l.getD i false)) := by
  intro i hi
  have hl : l.length = n := by have := h.1; simpa using this
  rw [Nat.zero_add, h.cellAt i (by omega)]
  exact map_bool_getElem? (by omega)
theorem ArgL.own {w : World} {base : Nat} {e : TypeId} {g n c : Nat} {l : List Bool} (h : w.ownsRow base e 1 (.slice (some ⟨g, 0, none⟩) n c) n (l.map Value.bool)) (hc : n ≤ c ∧ c ≤ maxLen) :
    ArgL w (some ⟨g, 0, none⟩) n c l := by
  have hl : l.length = n := by have := h.1; simpa using this
  exact ⟨hl, fun h0 => ⟨g, 0, rfl, (h.lt g rfl).2, fun i hi => own_cellsL h i (by omega)⟩, hc⟩
theorem own_madeL {w : World} {e : TypeId} {n : Nat} (hm : n ≤ maxLen) :
    (w.alloc (.cells (madeCells #[Value.bool false] n) e)).ownsRow w.heap.size e 1 (.slice (some ⟨w.heap.size, 0, none⟩) n n) n ((List.replicate n false).map Value.bool) := by
  have := World.ownsRow_lit (base := w.heap.size) (e := e) (size := 1) w (madeCells #[Value.bool false] n) n (Nat.le_refl _) hm (by simp [size_madeCells])
  rw [toList_madeCells_one] at this
  simpa using this
def partL (L : List Bool) (k : Nat) : List Bool := L.take k ++ List.replicate (L.length - k) false
theorem partL_zero (L : List Bool) : partL L 0 = List.replicate L.length false := by simp [partL]
theorem partL_all (L : List Bool) : partL L L.length = L := by simp [partL]
theorem partL_set {L : List Bool} {k : Nat} (h : k < L.length) : (partL L k).set k (L.getD k false) = partL L (k + 1) := by
  unfold partL
  rw [List.set_append_right _ _ (by simp; omega)]
  have e : k - (L.take k).length = 0 := by simp; omega
  rw [e, show L.length - k = (L.length - (k + 1)) + 1 by omega, List.replicate_succ, List.set_cons_zero, List.take_succ_eq_append_getElem h, List.append_assoc]
  have e2 : L.getD k false = L[k] := by rw [List.getD_eq_getElem?_getD, List.getElem?_eq_getElem h]; rfl
  rw [e2]; rfl
theorem partL_set_own {w : World} {base : Nat} {e : TypeId} {g n cap k : Nat} {L : List Bool} (hL : L.length = n) (hk : k < n)
    (h : w.ownsRow base e 1 (.slice (some ⟨g, 0, none⟩) n cap) n ((partL L k).map Value.bool)) :
    (w.setCell ⟨g, k, none⟩ (.bool (L.getD k false))).ownsRow base e 1 (.slice (some ⟨g, 0, none⟩) n cap) n ((partL L (k + 1)).map Value.bool) := by
  have := (h.stored k (.bool (L.getD k false))).1
  rw [← List.map_set, partL_set (by omega)] at this
  exact this
end Go.Proofs.YtkfdcdfaikkneaaGreatDoor
/- Contracts of word.packed, word.place, word.Pack. -/
namespace Go.Proofs.YtkfdcdfaikkneaaGreatDoor
open Go.ChangeShapes Go.WideShapes Go.ChangeAt Go.RowKit
set_option linter.unusedVariables false
set_option maxRecDepth 100000

theorem info4 : (Tryz.prog.info? 4).map (fun i => (i.zero, i.size, i.bytes)) = some (some (.bool false), 1, 1) := by kernel_rfl
theorem packed_any (n : Int) (h0 : 0 ≤ n) (h1 : n ≤ 9223372036854775807) (w : World) : Calls Tryz.prog 80 #[.int .i64 n] w fun e w' => e = .returned (.int .i64 ((n + 7) / 8)) ∧ w = w' := by
  have r0 := Int.emod_nonneg n (show (8 : Int) ≠ 0 by omega)
  have r1 := Int.emod_lt_of_pos n (show (0 : Int) < 8 by omega)
  by_cases h : 0 < n % 8
  · have E := Lib.hid (show n / 8 + 1 = (n + 7) / 8 by omega)
    go_enter Tryz.func80, Tryz.ntmps80
    go_wp2
    go_ret
    exact ⟨ret_int E.out, rfl⟩
  · have E := Lib.hid (show n / 8 = (n + 7) / 8 by omega)
    go_enter Tryz.func80, Tryz.ntmps80
    go_wp2
    go_ret
    exact ⟨ret_int E.out, rfl⟩
theorem shift128 {r : Nat} (h : r < 8) : (128 : Int) / 2 ^ r = 2 ^ (7 - r) := by
  match r, h with
  | 0, _ => rfl
  | 1, _ => rfl
  | 2, _ => rfl
  | 3, _ => rfl
  | 4, _ => rfl
  | 5, _ => rfl
  | 6, _ => rfl
  | 7, _ => rfl
theorem place_any (k : Nat) (h1 : k ≤ 9223372036854775807) (w : World) : Calls Tryz.prog 81 #[.int .i64 (k : Nat)] w fun e w' => e = .returned (.int .u8 (2 ^ (7 - k % 8))) ∧ w = w' := by
  have E := Lib.hid (shift128 (r := k % 8) (by omega))
  go_enter Tryz.func81, Tryz.ntmps81
  go_wp2
  go_ret
  exact ⟨ret_int E.out, rfl⟩
theorem own_rowK {w : World} {base : Nat} {e : TypeId} {g m : Nat} {l : List Bool} {k : Nat} (hl : (l.length + 7) / 8 = m) (hy : l.getD k false = true) (hk : k < l.length)
    (h : w.ownsRow base e 1 (.slice (some ⟨g, 0, none⟩) m m) m ((rowK l k).map (Value.int .u8))) :
    w.cell? ⟨g, k / 8, none⟩ = some (.int .u8 (byteK l k (k / 8) : Nat)) ∧
    (w.setCell ⟨g, k / 8, none⟩ (.int .u8 (bits .or .u8 (byteK l k (k / 8) : Nat) (2 ^ (7 - k % 8))))).ownsRow base e 1 (.slice (some ⟨g, 0, none⟩) m m) m ((rowK l (k + 1)).map (Value.int .u8)) := by
  have hj : k / 8 < (l.length + 7) / 8 := by omega
  constructor
  · have := own_cells h (k / 8) (by omega)
    rw [Nat.zero_add, rowK_getD hj] at this
    exact this
  · have := (h.stored (k / 8) (.int .u8 (bits .or .u8 (byteK l k (k / 8) : Nat) (2 ^ (7 - k % 8))))).1
    rw [map_set_u8, or_place (byteK_lt _ _ _) (by omega), rowK_yes hy] at this
    rw [or_place (byteK_lt _ _ _) (by omega)]
    exact this
theorem pack_any (a : Option Addr) (L cap : Nat) (l : List Bool) (w : World) (hA : ArgL w a L cap l) (hL : L ≤ 140737488355328) :
    Calls Tryz.prog 65 #[.slice a L cap] w fun e w' => ∃ g, e = .returned (.slice (some ⟨g, 0, none⟩) ((L + 7) / 8) ((L + 7) / 8)) ∧
      w'.ownsRow w.heap.size 5 1 (.slice (some ⟨g, 0, none⟩) ((L + 7) / 8) ((L + 7) / 8)) ((L + 7) / 8) ((packL l).map (Value.int .u8)) ∧ Below w.heap.size w w' := by
  obtain ⟨hl, hc, _, _⟩ := hA
  obtain ⟨m, hm⟩ : ∃ m, m = (L + 7) / 8 := ⟨_, rfl⟩
  have hmI : ((L : Int) + 7) / 8 = (m : Int) := by omega
  have hm8 : m ≤ L + 7 := by omega
  rw [← hm]
  have HM := Lib.hid (show (l.length + 7) / 8 = m by omega)
  have HO := Lib.hid (own_made (w := w) (e := 5) (n := m) (by unfold maxLen; omega))
  have hmk := run_make_row' (P := Tryz.prog) 23 5 (.int .u8 0) 1 Tryz.underlying23 info5 rfl .i64 .i64 m (by omega) (by omega)
  have HL := Lib.hid hl
  have HMM := Lib.hid hm
  clear hm
  go_enter Tryz.func65, Tryz.ntmps65
  go_wp2_with (go_at_call 80; refine (packed_any _ (by omega) (by omega) _).mono ?_; rw [hmI]; rintro e w' ⟨rfl, rfl⟩)
  clear hmk
  go_loopw [12] (fun i wr => ∃ k : Nat, k ≤ L ∧ i = .int .i64 k ∧ wr.ownsRow w.heap.size 5 1 (.slice (some ⟨w.heap.size, 0, none⟩) m m) m ((rowK l k).map (Value.int .u8)) ∧ Below w.heap.size w wr)
    (fun i _ => L - (intOf i).toNat)
  case atStart => exact ⟨0, Nat.zero_le _, rfl, by rw [rowK_zero, HM.out]; exact HO.out, (Below.refl _ _).alloc (Nat.le_refl _) _⟩
  case round =>
    obtain ⟨k, hk, rfl, hown, hbel⟩ := hrel
    by_cases hlt : k < L
    · obtain ⟨b, off, rfl, hB, hcb⟩ := (hc.below hbel).at_ (k := k) (by rw [HL.out]; omega)
      obtain ⟨v, hv⟩ : ∃ v, v = l.getD k false := ⟨_, rfl⟩
      rw [← hv] at hcb
      cases v
      · have HN := Lib.hid (rowK_no hv.symm)
        clear hv
        go_wp2
        go_roundw
        case rel => exact ⟨k + 1, by omega, by go_num, by rw [HN.out]; exact hown, hbel⟩
        case measure => simp [intOf]; omega
      · obtain ⟨hcell, hst⟩ := own_rowK HM.out hv.symm (by rw [HL.out]; exact hlt) hown
        have HST := Lib.hid hst
        have hfz := hown.frozenAt (k / 8)
        have HB := Lib.hid (hbel.setCell (p := ⟨w.heap.size, k / 8, none⟩) (Nat.le_refl _) (.int .u8 (bits .or .u8 (byteK l k (k / 8) : Nat) (2 ^ (7 - k % 8)))))
        have q1 : (k : Int) / 8 < (m : Int) := by omega
        have q2 : (0 : Int) ≤ (k : Int) / 8 := by omega
        have q3 : (k : Int).tdiv 8 = (k : Int) / 8 := Int.tdiv_eq_ediv_of_nonneg (by omega)
        have q4 : IntKind.i64.wrap ((k : Int) / 8) = (k : Int) / 8 := IntWalk.i64_in _ (by omega)
        have q5 : ((k : Int) / 8).toNat = k / 8 := by omega
        obtain ⟨X, hX⟩ : ∃ X, X = byteK l k (k / 8) := ⟨_, rfl⟩
        rw [← hX] at hcell HST HB
        have hbel' := Lib.hid hbel
        clear hv hst hX hown hbel
        go_wp2_with fail
        go_region_with (first | (go_at_call 81; refine (place_any k (by omega) _).mono ?_; rintro e w' ⟨rfl, rfl⟩))
        all_goals
          go_wp2
          go_roundw
          case rel => exact ⟨k + 1, by omega, by go_num, HST.out, HB.out.drew⟩
          case measure => simp [intOf]; omega
    · obtain rfl : L = k := by omega
      go_wp2
      go_ret
      refine ⟨_, rfl, ?_, hbel⟩
      unfold packL
      rw [HL.out]
      exact hown
end Go.Proofs.YtkfdcdfaikkneaaGreatDoor
/- Contracts of word.Unpack and of the law's loose. -/
namespace Go.Proofs.YtkfdcdfaikkneaaGreatDoor
open Go.ChangeShapes Go.WideShapes Go.ChangeAt Go.RowKit
set_option linter.unusedVariables false

theorem own_base {w : World} {base base' : Nat} {e : TypeId} {s : Nat} {v : Value} {n : Nat} {xs : List Value} (h : w.ownsRow base e s v n xs) (hb : base' ≤ base) : w.ownsRow base' e s v n xs := by
  refine ⟨h.1, ?_⟩
  rcases h.2 with h | ⟨g, cap, cur, h1, h2, h3⟩
  · exact .inl h
  · exact .inr ⟨g, cap, cur, h1, by omega, h3⟩
theorem div8 {k : Nat} (h : k ≤ 9223372036854775807) : (k : Int).tdiv 8 = (k : Int) / 8 ∧ IntKind.i64.wrap ((k : Int) / 8) = (k : Int) / 8 ∧ ((k : Int) / 8).toNat = k / 8 ∧ (0 : Int) ≤ (k : Int) / 8 :=
  ⟨Int.tdiv_eq_ediv_of_nonneg (by omega), IntWalk.i64_in _ (by omega), by omega, by omega⟩
theorem mod8 {k : Nat} (h : k ≤ 9223372036854775807) : (k : Int).tmod 8 = (k : Int) % 8 ∧ IntKind.i64.wrap ((k : Int) % 8) = (k : Int) % 8 ∧ ((k : Int) % 8).toNat = k % 8 ∧ (0 : Int) ≤ (k : Int) % 8 :=
  ⟨Int.tmod_eq_emod_of_nonneg (by omega), IntWalk.i64_in _ (by omega), by omega, by omega⟩
theorem bit_test {b : List Int} (hb : AllB b) {k : Nat} {X : Int} (hX : X = b.getD (k / 8) 0) : (bits .and .u8 X (2 ^ (7 - k % 8)) != 0) = bitOf b k := by
  have h := allB_getD' hb (k / 8)
  rw [← hX] at h
  rw [and_place_ne h (by omega), hX]; rfl
theorem ret_no : Ending.returned (.tuple #[.slice none 0 0, .bool false]) = .returned (.tuple #[.slice none 0 0, .bool false]) := rfl

theorem unpack_no (a : Option Addr) (L c : Nat) (b : List Int) (n : Int) (w : World) (hl : b.length = L) (hB : AllB b) (hb : Bs w w.heap.size a b) (hL : L ≤ 140737488355328) (wn : (Lit.int .i64 n).wf = true)
    (hno : n < 0 ∨ (n + 7) / 8 ≠ L ∨ ¬ tight b n.toNat) :
    Calls Tryz.prog 50 #[.slice a L c, .int .i64 n] w fun e w' => e = .returned (.tuple #[.slice none 0 0, .bool false]) ∧ Below w.heap.size w w' := by
  obtain ⟨n0, n1⟩ := wf_i64 wn
  clear wn
  by_cases h0 : n < 0
  · clear hno
    go_enter Tryz.func50, Tryz.ntmps50
    go_wp2
    go_ret2
    exact ⟨rfl, Below.refl _ _⟩
  · obtain ⟨N, rfl⟩ := Int.eq_ofNat_of_zero_le (Int.not_lt.1 h0)
    have HL := Lib.hid hl
    clear hl
    obtain ⟨m, hm⟩ : ∃ m : Int, ((N : Int) + 7) / 8 = m := ⟨_, rfl⟩
    rw [hm] at hno
    by_cases h1 : m = L
    · have ht : ¬ tight b N := by
        rcases hno with h | h | h
        · omega
        · exact absurd h1 h
        · simpa using h
      have HT := Lib.hid ht
      clear ht hno
      subst h1
      have HM := Lib.hid hm
      have hNL : (N : Int) ≤ 8 * (L : Int) := by omega
      go_enter Tryz.func50, Tryz.ntmps50
      go_wp2_with (go_at_call 80; refine (packed_any _ (by omega) (by omega) _).mono ?_; rw [HM.out]; rintro e w' ⟨rfl, rfl⟩)
      go_loopw [6] (fun i wr => ∃ k : Nat, N ≤ k ∧ k ≤ 8 * L ∧ i = .int .i64 k ∧ Hid (∀ i, N ≤ i → i < k → bitOf b i = false) ∧ Below w.heap.size w wr) (fun i _ => 8 * L - (intOf i).toNat)
      case atStart => exact ⟨N, Nat.le_refl _, by omega, rfl, fun i h1 h2 => absurd h1 (by omega), Below.refl _ _⟩
      case round =>
        obtain ⟨k, hNk, hk, rfl, hz, hbel⟩ := hrel
        by_cases hlt : k < 8 * L
        · obtain ⟨bb, off, rfl, hBB, hcb⟩ := (hb.below hbel).at_ (k := k / 8) (by rw [HL.out]; omega)
          obtain ⟨X, hX⟩ : ∃ X, X = b.getD (k / 8) 0 := ⟨_, rfl⟩
          have hbt := bit_test hB hX
          rw [← hX] at hcb
          obtain ⟨q3, q4, q5, q2⟩ := div8 (k := k) (by omega)
          have q1 : (k : Int) / 8 < (L : Int) := by omega
          obtain ⟨v, hv⟩ : ∃ v, bitOf b k = v := ⟨_, rfl⟩
          rw [hv] at hbt
          have HV := Lib.hid hv
          have HBL := Lib.hid hbel
          clear hX hv hbel
          cases v
          · go_wp2_with fail
            go_quiet ((go_at_call 81; exact Calls.quiet_of_same ((place_any k (by omega) _).mono fun _ _ ⟨he, hw⟩ => ⟨he, hw.symm⟩)))
            go_wp2
            go_roundw
            case rel =>
              refine ⟨k + 1, by omega, by omega, by go_num, fun i h1 h2 => ?_, below_drewN HBL.out _⟩
              by_cases e : i = k
              · subst e; exact HV.out
              · exact hz.out i h1 (by omega)
            case measure => simp [intOf]; omega
          · go_wp2_with fail
            go_quiet ((go_at_call 81; exact Calls.quiet_of_same ((place_any k (by omega) _).mono fun _ _ ⟨he, hw⟩ => ⟨he, hw.symm⟩)))
            go_wp2
            go_ret2
            exact ⟨rfl, below_drewN HBL.out _⟩
        · exact absurd (fun i h1 h2 => hz.out i h1 (by rw [HL.out] at h2; omega)) HT.out
    · have h1' : ((m == (L : Int)) = false) := by simpa using h1
      have h1'' : ((m != (L : Int)) = true) := by simpa using h1
      have HM := Lib.hid hm
      clear hno h1 hm
      go_enter Tryz.func50, Tryz.ntmps50
      go_wp2_with (go_at_call 80; refine (packed_any _ (by omega) (by omega) _).mono ?_; rw [HM.out]; rintro e w' ⟨rfl, rfl⟩)
      go_ret2
      exact ⟨rfl, Below.refl _ _⟩

set_option maxHeartbeats 1000000 in
theorem unpack_yes (a : Option Addr) (L c : Nat) (b : List Int) (N : Nat) (w : World) (hl : b.length = L) (hB : AllB b) (hb : Bs w w.heap.size a b) (hL : L ≤ 1099511627776)
    (hm : (N + 7) / 8 = L) (ht : tight b N) :
    Calls Tryz.prog 50 #[.slice a L c, .int .i64 (N : Nat)] w fun e w' => ∃ g, e = .returned (.tuple #[.slice (some ⟨g, 0, none⟩) N N, .bool true]) ∧
      w'.ownsRow w.heap.size 4 1 (.slice (some ⟨g, 0, none⟩) N N) N ((unpackL b N).map Value.bool) ∧ Below w.heap.size w w' := by
  have HL := Lib.hid hl
  have HT := Lib.hid ht
  have HM := Lib.hid (show ((N : Int) + 7) / 8 = (L : Int) by omega)
  have hNL : N ≤ 8 * L := by omega
  have hNM : N ≤ 9223372036854775807 := by omega
  have HM8 := Lib.hid hm
  clear hl ht hm
  go_enter Tryz.func50, Tryz.ntmps50
  go_wp2_with (go_at_call 80; refine (packed_any _ (by omega) (by omega) _).mono ?_; rw [HM.out]; rintro e w' ⟨rfl, rfl⟩)
  go_loopw [6] (fun i wr => ∃ k : Nat, N ≤ k ∧ k ≤ 8 * L ∧ i = .int .i64 k ∧ Hid (∀ i, N ≤ i → i < k → bitOf b i = false) ∧ Below w.heap.size w wr) (fun i _ => 8 * L - (intOf i).toNat)
  case atStart => exact ⟨N, Nat.le_refl _, by omega, rfl, fun i h1 h2 => absurd h1 (by omega), Below.refl _ _⟩
  case round =>
    obtain ⟨k, hNk, hk, rfl, hz, hbel⟩ := hrel
    by_cases hlt : k < 8 * L
    · obtain ⟨bb, off, rfl, hBB, hcb⟩ := (hb.below hbel).at_ (k := k / 8) (by rw [HL.out]; omega)
      obtain ⟨X, hX⟩ : ∃ X, X = b.getD (k / 8) 0 := ⟨_, rfl⟩
      have hbt := bit_test hB hX
      rw [← hX] at hcb
      obtain ⟨q3, q4, q5, q2⟩ := div8 (k := k) (by omega)
      have q1 : (k : Int) / 8 < (L : Int) := by omega
      obtain ⟨v, hv⟩ : ∃ v, bitOf b k = v := ⟨_, rfl⟩
      rw [hv] at hbt
      have HV := Lib.hid hv
      have HBL := Lib.hid hbel
      clear hX hv hbel
      cases v
      · go_wp2_with fail
        go_quiet ((go_at_call 81; exact Calls.quiet_of_same ((place_any k (by omega) _).mono fun _ _ ⟨he, hw⟩ => ⟨he, hw.symm⟩)))
        go_wp2
        go_roundw
        case rel =>
          refine ⟨k + 1, by omega, by omega, by go_num, fun i h1 h2 => ?_, below_drewN HBL.out _⟩
          by_cases e : i = k
          · subst e; exact HV.out
          · exact hz.out i h1 (by omega)
        case measure => simp [intOf]; omega
      · exact absurd (HT.out k hNk (by rw [HL.out]; exact hlt)) (by rw [HV.out]; simp)
    · clear hz
      have hNL8 : N ≤ 2 ^ 50 := by omega
      obtain ⟨V, hV⟩ : ∃ V, V = wr := ⟨wr, rfl⟩
      subst hV
      have hmk := run_make_row' (P := Tryz.prog) 108 4 (.bool false) 1 Tryz.underlying108 info4 rfl .i64 .i64 N (by omega) (by omega)
      have HO := Lib.hid (own_madeL (w := V) (e := 4) (n := N) (by unfold maxLen; omega))
      have HU := Lib.hid (length_unpackL b N)
      have hbel0 := hbel.size
      go_wp2
      go_loopw [39] (fun i wq => ∃ j : Nat, j ≤ N ∧ i = .int .i64 j ∧ wq.ownsRow V.heap.size 4 1 (.slice (some ⟨V.heap.size, 0, none⟩) N N) N ((partL (unpackL b N) j).map Value.bool) ∧ Below V.heap.size V wq) (fun i _ => N - (intOf i).toNat)
      case atStart => exact ⟨0, Nat.zero_le _, rfl, by rw [partL_zero, HU.out]; exact HO.out, (Below.refl _ _).alloc (Nat.le_refl _) _⟩
      case round =>
        obtain ⟨j, hj, rfl, hown, hbelq⟩ := hrel
        clear hmk
        by_cases hjn : j < N
        · obtain ⟨bb, off, rfl, hBB, hcb⟩ := ((hb.below hbel).below (hbelq.mono hbel0)).at_ (k := j / 8) (by rw [HL.out]; omega)
          obtain ⟨X, hX⟩ : ∃ X, X = b.getD (j / 8) 0 := ⟨_, rfl⟩
          have hbt := bit_test hB hX
          rw [← hX] at hcb
          obtain ⟨q3, q4, q5, q2⟩ := div8 (k := j) (by omega)
          have q1 : (j : Int) / 8 < (L : Int) := by omega
          have q6 : (j : Int) < (N : Int) := by omega
          have q7 : (0 : Int) ≤ (j : Int) := by omega
          have hv := unpackL_getD (b := b) hjn
          have hst := partL_set_own HU.out hjn hown
          have hb2 := hbelq.setCell (p := ⟨V.heap.size, j, none⟩) (Nat.le_refl _) (.bool ((unpackL b N).getD j false))
          rw [hv, ← hbt] at hst hb2
          have hcg := own_cellsL hown j hjn
          rw [Nat.zero_add] at hcg
          have hfz := hown.frozenAt j
          have HST := Lib.hid hst
          have HB2 := Lib.hid hb2
          clear hX hbt hv hst hb2 hown hbelq hbel
          go_wp2_with fail
          go_region_with (first | (go_at_call 81; refine (place_any j (by omega) _).mono ?_; rintro e w' ⟨rfl, rfl⟩))
          all_goals
            go_wp2
            go_roundw
            case rel => exact ⟨j + 1, by omega, by go_num, HST.out, HB2.out.drew⟩
            case measure => simp [intOf]; omega
        · obtain rfl : N = j := by omega
          go_wp2
          go_ret2
          refine ⟨_, rfl, ?_, hbel.trans (hbelq.mono hbel0)⟩
          have e := partL_all (unpackL b N)
          rw [HU.out] at e
          rw [e] at hown
          exact own_base hown hbel0
end Go.Proofs.YtkfdcdfaikkneaaGreatDoor
