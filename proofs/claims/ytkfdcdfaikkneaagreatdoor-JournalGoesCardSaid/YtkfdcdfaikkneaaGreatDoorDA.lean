/- Texts of mine, one behind the other: Blk La Math Bits. -/
import Derived.Test.YtkfdcdfaikkneaaGreatDoorQ1
import Derived.WalkKit
import Derived.OpenShut
import Derived.Below
import Derived.Deep.WholeRow
import Derived.ChangeAlike
import Derived.BigRegion
import Derived.Deep.CutRange
import Derived.Deep.RegionWith
import Derived.Deep.DrawnRows
import Derived.BigQuiet
import Derived.Deep.QuietTactic
import Derived.Deep.AppendLies
import Derived.Deep.RegionHeld
import Derived.Deep.Cut
import Derived.StillTailTactics
import Derived.Shelf.Abstract
import Derived.Test.YtkfdcdfaikkneaaGreatDoorRows
import Derived.ProofKit
import Derived.ShutString
import Derived.Laws.BitsAllLaws
import Derived.Lib.Hide
/- Blocks known whole. No program is named here. -/
namespace Go.Proofs.YtkfdcdfaikkneaaGreatDoor
open Go.RowKit
set_option linter.unusedVariables false

theorem size_alloc1 (w : World) (o : Obj) : (w.alloc o).heap.size = w.heap.size + 1 := by simp
/-- n values, told by a function. -/
def tabV (n : Nat) (g : Nat → Value) : Array Value := ((List.range n).map g).toArray
theorem size_tabV (n : Nat) (g : Nat → Value) : (tabV n g).size = n := by simp [tabV]
theorem get_tabV {n : Nat} {g : Nat → Value} {j : Nat} (h : j < n) : (tabV n g)[j]? = some (g j) := by simp [tabV, h]
theorem tabV_congr {n : Nat} {g h : Nat → Value} (e : ∀ j, j < n → g j = h j) : tabV n g = tabV n h := by
  unfold tabV; congr 1; exact List.map_congr_left fun j hj => e j (List.mem_range.1 hj)
theorem tabV_set {n : Nat} (g : Nat → Value) {i : Nat} (h : i < n) (v : Value) : (tabV n g).setIfInBounds i v = tabV n (fun j => if j = i then v else g j) := by
  apply Array.ext_getElem?
  intro j
  rw [Array.getElem?_setIfInBounds]
  by_cases e : i = j
  · subst e
    rw [if_pos rfl, if_pos (by rw [size_tabV]; exact h), get_tabV h, if_pos rfl]
  · rw [if_neg e]
    by_cases hj : j < n
    · rw [get_tabV hj, get_tabV hj, if_neg (fun h => e h.symm)]
    · rw [Array.getElem?_eq_none (by rw [size_tabV]; omega), Array.getElem?_eq_none (by rw [size_tabV]; omega)]
theorem replicate_tabV (n : Nat) (v : Value) : Array.replicate n v = tabV n (fun _ => v) := by
  apply Array.ext_getElem?
  intro j
  by_cases hj : j < n
  · rw [get_tabV hj]; simp [hj]
  · rw [Array.getElem?_eq_none (by simp; omega), Array.getElem?_eq_none (by rw [size_tabV]; omega)]
theorem tabV_one {n : Nat} {g : Nat → Value} (h : ∀ j, (g j).oneCell' = true) : (tabV n g).all (·.oneCell') = true := by
  rw [Array.all_eq_true_iff_forall_mem]
  intro v hv
  simp [tabV] at hv
  obtain ⟨j, _, rfl⟩ := hv
  exact h j
/-- A block of one's own, whole. -/
def Blk (w : World) (b : Nat) (T : TypeId) (n : Nat) (g : Nat → Value) : Prop := w.heap[b]? = some (.cells (tabV n g) T (0, 0))
theorem Blk.lt {w : World} {b : Nat} {T : TypeId} {n : Nat} {g : Nat → Value} (h : Blk w b T n g) : b < w.heap.size := (Array.getElem?_eq_some_iff.1 h).1
theorem Blk.cell {w : World} {b : Nat} {T : TypeId} {n : Nat} {g : Nat → Value} (h : Blk w b T n g) {j : Nat} (hj : j < n) : w.cell? ⟨b, j, none⟩ = some (g j) := by
  rw [cell_of_row w b j _ T _ h, get_tabV hj]
theorem Blk.free {w : World} {b : Nat} {T : TypeId} {n : Nat} {g : Nat → Value} (h : Blk w b T n g) (j : Nat) : w.frozen? ⟨b, j, none⟩ = false := frozen_of_row w b j _ T h
theorem Blk.set {w : World} {b : Nat} {T : TypeId} {n : Nat} {g : Nat → Value} (h : Blk w b T n g) {i : Nat} (hi : i < n) (v : Value) : Blk (w.setCell ⟨b, i, none⟩ v) b T n (fun j => if j = i then v else g j) := by
  unfold Blk
  rw [heap_setCell_same w b i _ T v h, tabV_set g hi]
theorem Blk.congr {w : World} {b : Nat} {T : TypeId} {n : Nat} {g h : Nat → Value} (k : Blk w b T n g) (e : ∀ j, j < n → g j = h j) : Blk w b T n h := by
  unfold Blk at *; rw [← tabV_congr e]; exact k
theorem Blk.drewN {w : World} {b : Nat} {T : TypeId} {n : Nat} {g : Nat → Value} (h : Blk w b T n g) (q : Nat) : Blk (w.drewN q) b T n g := h
theorem Blk.made (w : World) (T : TypeId) (n : Nat) (g : Nat → Value) : Blk (w.alloc (.cells (tabV n g) T)) w.heap.size T n g := heap_alloc_new w _
theorem Blk.on {w w' : World} {b : Nat} {T : TypeId} {n : Nat} {g : Nat → Value} (h : Blk w b T n g) {B : Nat} (hb : Below B w w') (hB : b < B) : Blk w' b T n g := by
  unfold Blk; rw [hb.block b hB]; exact h
theorem Blk.other {w : World} {b : Nat} {T : TypeId} {n : Nat} {g : Nat → Value} (h : Blk w b T n g) (a : Addr) (v : Value) (hne : b ≠ a.block) : Blk (w.setCell a v) b T n g := by
  unfold Blk; rw [heap_setCell_other w a b v hne]; exact h
theorem Blk.row {w : World} {b : Nat} {T : TypeId} {n : Nat} {g : Nat → Value} (h : Blk w b T n g) (g' : Nat → Value) : Blk (w.setRow b (tabV n g')) b T n g' := setRow_heap w b _ _ T _ h
theorem below_setRow {B : Nat} {a w : World} (h : Below B a w) {b : Nat} (hB : B ≤ b) (cs : Array Value) : Below B a (w.setRow b cs) :=
  ⟨h.os, h.tape, h.output, by rw [setRow_size]; exact h.size, fun k hk => by rw [setRow_other w b k cs (by omega)]; exact h.block k hk⟩
end Go.Proofs.YtkfdcdfaikkneaaGreatDoor
/- Whole numbers as an argument; what the frame tells of them (out of Ia, Ef: for seats without polynomials). -/
namespace Go.Proofs.YtkfdcdfaikkneaaGreatDoor
open Go.ChangeShapes Go.WideShapes Go.ChangeAt Go.RowKit Go.Shelf
set_option linter.unusedVariables false
set_option linter.unusedSimpArgs false

/-- An argument that is whole numbers. -/
def IA (w : World) (a : Option Addr) (L c : Nat) (ps : List Int) : Prop :=
  ps.length = L ∧ L ≤ c ∧ c ≤ maxLen ∧ (a = none → c = 0) ∧ (∀ i, -9223372036854775808 ≤ ps.getD i 0 ∧ ps.getD i 0 ≤ 9223372036854775807) ∧ (0 < L → ∃ b off, a = some ⟨b, off, none⟩ ∧ b < w.heap.size ∧ ∀ i, i < L → w.cell? ⟨b, off + i, none⟩ = some (.int .i64 (ps.getD i 0)))
theorem IA.on {w w' : World} {a : Option Addr} {L c : Nat} {ps : List Int} (h : IA w a L c ps) (hb : Below w.heap.size w w') : IA w' a L c ps := by
  obtain ⟨h1, h2, h3, h4, h5, h6⟩ := h
  refine ⟨h1, h2, h3, h4, h5, fun h0 => ?_⟩
  obtain ⟨b, off, e, hlt, hc⟩ := h6 h0
  exact ⟨b, off, e, by have := hb.size; omega, fun i hi => (hb.cell (p := ⟨b, off + i, none⟩) hlt).trans (hc i hi)⟩
theorem IA.bd {w : World} {a : Option Addr} {L c : Nat} {ps : List Int} (h : IA w a L c ps) : L ≤ c ∧ c ≤ 9223372036854775807 := ⟨h.2.1, by have := h.2.2.1; unfold maxLen at this; omega⟩
theorem IA.at_ {w : World} {a : Option Addr} {L c : Nat} {ps : List Int} (h : IA w a L c ps) {i : Nat} (hi : i < L) : ∃ b off, a = some ⟨b, off, none⟩ ∧ b < w.heap.size ∧ w.cell? ⟨b, off + i, none⟩ = some (.int .i64 (ps.getD i 0)) := by
  obtain ⟨h1, h2, h3, h4, h5, h6⟩ := h
  obtain ⟨b, off, e, hlt, hc⟩ := h6 (by omega)
  exact ⟨b, off, e, hlt, hc i hi⟩
theorem addr_lit {w : World} {x : Addr} {v : Value} (h : w.cell? (x.add 0) = some v) : ∃ b off, x = ⟨b, off, none⟩ ∧ b < w.heap.size := by
  obtain ⟨b, off, spot⟩ := x
  have hs : spot = none := by simpa [Addr.add] using World.cell?_spot h
  subst hs
  refine ⟨b, off, rfl, ?_⟩
  rcases Nat.lt_or_ge b w.heap.size with hlt | hge
  · exact hlt
  · have : w.cell? ((⟨b, off, none⟩ : Addr).add 0) = none := by simp [World.cell?, Addr.add, Array.getElem?_eq_none hge]
    rw [this] at h; cases h
theorem argIA {w : World} {a : Option Addr} {len cap : Nat} {zs : List Int} (h : (a = none ∧ len = 0 ∧ cap = 0 ∧ zs = []) ∨
    ∃ x, a = some x ∧ len ≤ cap ∧ cap ≤ maxLen ∧ zs.length = cap ∧ (∀ i, i < zs.length → w.cell? (x.add i) = some (.int .i64 (zs.getD i 0))) ∧ ∀ n ∈ zs, (Lit.int .i64 n).wf = true) :
    ∃ l, IA w a len cap l := by
  rcases h with ⟨rfl, rfl, rfl, rfl⟩ | ⟨x, rfl, hl, hm, hz, hc, hw⟩
  · exact ⟨[], rfl, Nat.le_refl _, Nat.zero_le _, fun _ => rfl, fun i => by simp, fun h => absurd h (by omega)⟩
  · refine ⟨zs.take len, by simp [hz, hl], hl, hm, (fun e => by cases e), fun i => ?_, fun h0 => ?_⟩
    · by_cases hi : i < (zs.take len).length
      · have e : (zs.take len).getD i 0 = (zs.take len)[i] := by simp [List.getD_eq_getElem?_getD, List.getElem?_eq_getElem hi]
        rw [e]
        have := hw _ (List.mem_of_mem_take (List.getElem_mem hi))
        have : -9223372036854775808 ≤ (zs.take len)[i] ∧ (zs.take len)[i] ≤ 9223372036854775807 := by simpa [Lit.wf, IntKind.min, IntKind.max, IntKind.signed, IntKind.bits] using this
        exact this
      · have e : (zs.take len).getD i 0 = 0 := by rw [List.getD_eq_getElem?_getD, List.getElem?_eq_none (Nat.le_of_not_lt hi)]; rfl
        rw [e]; omega
    · obtain ⟨b, off, rfl, hb⟩ := addr_lit (hc 0 (by omega))
      refine ⟨b, off, rfl, hb, fun i hi => ?_⟩
      have := hc i (by omega)
      rw [Addr.add_lit] at this
      rw [this]
      simp [List.getD_eq_getElem?_getD, List.getElem?_take, hi]
end Go.Proofs.YtkfdcdfaikkneaaGreatDoor
/- Plain facts on numbers that the walks of package word's functions use: turned words, bits. No program is named here. -/
namespace Go.Proofs.YtkfdcdfaikkneaaGreatDoor

/-- x, a word of k bits, turned by s. -/
def rot (k x s : Nat) : Nat := (x * 2 ^ (s % k) % 2 ^ k) ||| (x / 2 ^ (k - s % k))

theorem rot_lt {k x s : Nat} (hx : x < 2 ^ k) : rot k x s < 2 ^ k := by
  unfold rot
  exact Nat.or_lt_two_pow (Nat.mod_lt _ (Nat.two_pow_pos k)) (Nat.lt_of_le_of_lt (Nat.div_le_self _ _) hx)

theorem mod_sub_lt {i k u : Nat} (hi : i < k) (hu : u < k) : (i + k - u) % k = if u ≤ i then i - u else i + k - u := by
  by_cases h : u ≤ i
  · rw [if_pos h, show i + k - u = (i - u) + k by omega, Nat.add_mod_right, Nat.mod_eq_of_lt (by omega)]
  · rw [if_neg h, Nat.mod_eq_of_lt (by omega)]

theorem rot_testBit {k x s : Nat} (hx : x < 2 ^ k) (hk : 0 < k) (i : Nat) :
    (rot k x s).testBit i = (decide (i < k) && x.testBit ((i + k - s % k) % k)) := by
  have hu : s % k < k := Nat.mod_lt _ hk
  unfold rot
  rw [Nat.testBit_or, Nat.testBit_mod_two_pow, Nat.mul_comm, Nat.testBit_two_pow_mul, ← Nat.shiftRight_eq_div_pow, Nat.testBit_shiftRight]
  by_cases hi : i < k
  · rw [mod_sub_lt hi hu]
    by_cases h : s % k ≤ i
    · have : x.testBit (k - s % k + i) = false := by
        apply Nat.testBit_lt_two_pow
        exact Nat.lt_of_lt_of_le hx (Nat.pow_le_pow_right (by omega) (by omega))
      simp [hi, h, this]
    · have e : k - s % k + i = i + k - s % k := by omega
      simp [hi, h, e]
  · have : x.testBit (k - s % k + i) = false := by
      apply Nat.testBit_lt_two_pow
      exact Nat.lt_of_lt_of_le hx (Nat.pow_le_pow_right (by omega) (by omega))
    simp [hi, this]

theorem rot_rot {k x s t : Nat} (hx : x < 2 ^ k) (hk : 0 < k) : rot k (rot k x s) t = rot k x (s + t) := by
  apply Nat.eq_of_testBit_eq
  intro i
  rw [rot_testBit (rot_lt hx) hk, rot_testBit hx hk, rot_testBit hx hk]
  by_cases hi : i < k
  · have h1 : (i + k - t % k) % k < k := Nat.mod_lt _ hk
    have e : ((i + k - t % k) % k + k - s % k) % k = (i + k - (s + t) % k) % k := by
      have hs : s % k < k := Nat.mod_lt _ hk
      have ht : t % k < k := Nat.mod_lt _ hk
      have hst : (s + t) % k = if s % k + t % k < k then s % k + t % k else s % k + t % k - k := by
        rw [Nat.add_mod]
        by_cases h : s % k + t % k < k
        · rw [if_pos h, Nat.mod_eq_of_lt h]
        · rw [if_neg h, Nat.mod_eq_sub_mod (by omega), Nat.mod_eq_of_lt (by omega)]
      have hst' : (s + t) % k < k := Nat.mod_lt _ hk
      rw [mod_sub_lt h1 hs, mod_sub_lt hi hst', mod_sub_lt hi ht, hst]
      by_cases a : t % k ≤ i <;> by_cases b : s % k + t % k < k <;> simp only [a, b, if_true, if_false] <;> split <;> split <;> omega
    rw [e]; simp [hi, h1]
  · simp [hi]

theorem rot_mod {k x s : Nat} : rot k x (s % k) = rot k x s := by unfold rot; rw [Nat.mod_mod]

/-- The same over Int, for any number of turns. -/
def rotI (k : Nat) (x n : Int) : Int := ((rot k x.toNat (n % (k : Int)).toNat : Nat) : Int)

theorem toNat_lt_pow {x : Int} {k : Nat} (h0 : 0 ≤ x) (hx : x < 2 ^ k) : x.toNat < 2 ^ k := by
  have : ((2 : Int) ^ k) = ((2 ^ k : Nat) : Int) := by simp
  rw [this] at hx; omega
theorem rotI_nonneg (k : Nat) (x n : Int) : 0 ≤ rotI k x n := Int.natCast_nonneg _
theorem rotI_lt {k : Nat} {x : Int} (n : Int) (h0 : 0 ≤ x) (hx : x < 2 ^ k) : rotI k x n < 2 ^ k := by
  have : rot k x.toNat (n % (k : Int)).toNat < 2 ^ k := rot_lt (toNat_lt_pow h0 hx)
  unfold rotI
  exact_mod_cast this
theorem rotI_rotI {k : Nat} {x n m : Int} (h0 : 0 ≤ x) (hx : x < 2 ^ k) (hk : 0 < k) : rotI k (rotI k x n) m = rotI k x (n + m) := by
  have hx' := toNat_lt_pow h0 hx
  unfold rotI
  rw [Int.toNat_natCast, rot_rot hx' hk]
  have e : ((n % (k : Int)).toNat + (m % (k : Int)).toNat) % k = ((n + m) % (k : Int)).toNat := by
    have hk' : (0 : Int) < (k : Int) := by omega
    have a := Int.emod_nonneg n (show (k : Int) ≠ 0 by omega)
    have b := Int.emod_nonneg m (show (k : Int) ≠ 0 by omega)
    have c := Int.emod_nonneg (n + m) (show (k : Int) ≠ 0 by omega)
    apply Int.ofNat.inj
    show ((((n % (k : Int)).toNat + (m % (k : Int)).toNat) % k : Nat) : Int) = (((n + m) % (k : Int)).toNat : Int)
    rw [Int.natCast_emod, Int.natCast_add, Int.toNat_of_nonneg a, Int.toNat_of_nonneg b, Int.toNat_of_nonneg c, ← Int.add_emod]
  rw [← rot_mod, e]
end Go.Proofs.YtkfdcdfaikkneaaGreatDoor
/- Contracts of package word's Bits and Turn, at all four widths. -/
namespace Go.Proofs.YtkfdcdfaikkneaaGreatDoor
open Go.ChangeShapes Go.WideShapes Go.ChangeAt Go.RowKit
set_option linter.unusedVariables false

theorem wf_u16 {x : Int} (h : (Lit.int .u16 x).wf = true) : 0 ≤ x ∧ x < 2 ^ 16 := by have : 0 ≤ x ∧ x ≤ 65535 := by simpa [Lit.wf, IntKind.min, IntKind.max, IntKind.signed, IntKind.bits] using h
                                                                                     omega
theorem wf_u32 {x : Int} (h : (Lit.int .u32 x).wf = true) : 0 ≤ x ∧ x < 2 ^ 32 := by have : 0 ≤ x ∧ x ≤ 4294967295 := by simpa [Lit.wf, IntKind.min, IntKind.max, IntKind.signed, IntKind.bits] using h
                                                                                     omega
theorem wf_u64 {x : Int} (h : (Lit.int .u64 x).wf = true) : 0 ≤ x ∧ x < 2 ^ 64 := by have : 0 ≤ x ∧ x ≤ 18446744073709551615 := by simpa [Lit.wf, IntKind.min, IntKind.max, IntKind.signed, IntKind.bits] using h
                                                                                     omega
theorem mk_u8 {x : Int} (h0 : 0 ≤ x) (h1 : x < 2 ^ 8) : (Lit.int .u8 x).wf = true := by simp [Lit.wf, IntKind.min, IntKind.max, IntKind.signed, IntKind.bits]; omega
theorem mk_u16 {x : Int} (h0 : 0 ≤ x) (h1 : x < 2 ^ 16) : (Lit.int .u16 x).wf = true := by simp [Lit.wf, IntKind.min, IntKind.max, IntKind.signed, IntKind.bits]; omega
theorem mk_u32 {x : Int} (h0 : 0 ≤ x) (h1 : x < 2 ^ 32) : (Lit.int .u32 x).wf = true := by simp [Lit.wf, IntKind.min, IntKind.max, IntKind.signed, IntKind.bits]; omega
theorem mk_u64 {x : Int} (h0 : 0 ≤ x) (h1 : x < 2 ^ 64) : (Lit.int .u64 x).wf = true := by simp [Lit.wf, IntKind.min, IntKind.max, IntKind.signed, IntKind.bits]; omega
theorem mk_i64 {x : Int} (h0 : -9223372036854775808 ≤ x) (h1 : x ≤ 9223372036854775807) : (Lit.int .i64 x).wf = true := by simp [Lit.wf, IntKind.min, IntKind.max, IntKind.signed, IntKind.bits]; omega
theorem tmod_facts (n : Int) (k : Int) (hk : 0 < k) (hn : n < 0) : -k < n.tmod k ∧ n.tmod k ≤ 0 ∧ (n.tmod k < 0 → n.tmod k + k = n % k) ∧ (0 ≤ n.tmod k → n.tmod k = n % k) := by
  have h1 : n.tmod k = -((-n) % k) := by
    rw [show n = -(-n) by omega, Int.neg_tmod, Int.tmod_eq_emod_of_nonneg (by omega)]; simp
  have h2 := Int.emod_nonneg (-n) (show k ≠ 0 by omega)
  have h3 := Int.emod_lt_of_pos (-n) hk
  have h4 : k * (-n / k) + -n % k = -n := Int.mul_ediv_add_emod (-n) k
  have h5 : n % k = (-((-n) % k)) % k := by
    conv => lhs; rw [show n = -((-n) % k) + k * (-(-n / k)) by rw [Int.mul_neg]; omega]
    rw [Int.add_mul_emod_self_left]
  refine ⟨by omega, by omega, fun h => ?_, fun h => ?_⟩
  · rw [h5, h1]
    have e : -(-n % k) % k = (-(-n % k) + k) % k := by rw [Int.add_emod_right]
    rw [e, Int.emod_eq_of_lt (a := -(-n % k) + k) (by omega) (by omega)]
  · have : (-n) % k = 0 := by omega
    rw [h5, h1, this]; simp

set_option maxRecDepth 100000 in
theorem len64_8 (w : World) : Calls Tryz.prog 98 #[.int .u64 255] w fun e w' => e = .returned (.int .i64 8) ∧ w = w' := by
  go_enter Tryz.func98, Tryz.ntmps98
  go_wp2
  go_ret
  exact ⟨by kernel_rfl, rfl⟩
theorem rot8_eq (x n R : Int) (h0 : 0 ≤ x) (h1 : x < 2 ^ 8) (hR : R = n % 8) : bits .or .u8 (x * 2 ^ R.toNat % 256) (x / 2 ^ (8 - R).toNat) = rotI 8 x n := by
  have r0 := Int.emod_nonneg n (show (8 : Int) ≠ 0 by omega)
  have r1 := Int.emod_lt_of_pos n (show (0 : Int) < 8 by omega)
  rw [← hR] at r0 r1
  obtain ⟨y, rfl⟩ := Int.eq_ofNat_of_zero_le h0
  obtain ⟨q, rfl⟩ := Int.eq_ofNat_of_zero_le r0
  have e2 : ((8 : Int) - (q : Int)).toNat = 8 - q := by omega
  have f1 : ((y : Int) * 2 ^ q % 256) = ((y * 2 ^ q % 256 : Nat) : Int) := by simp
  have f2 : ((y : Int) / 2 ^ (8 - q)) = ((y / 2 ^ (8 - q) : Nat) : Int) := by simp
  have g1 : y * 2 ^ q % 256 < 256 := Nat.mod_lt _ (by omega)
  have g2 : y / 2 ^ (8 - q) < 256 := Nat.lt_of_le_of_lt (Nat.div_le_self _ _) (by omega)
  rw [Int.toNat_natCast, e2, f1, f2, u8_or_nat _ _ g1 g2]
  unfold rotI rot
  have e3 : (n % ((8 : Nat) : Int)).toNat = q := by
    show (n % 8).toNat = q
    rw [← hR]; exact Int.toNat_natCast _
  rw [e3, Nat.mod_eq_of_lt (show q < 8 by omega), Int.toNat_natCast]
theorem i64_mask8 (n : Int) : bits .and .i64 n 7 = n % 8 := by
  have hm : (BitVec.ofInt 64 7).toNat = 2 ^ 3 - 1 := by decide
  have key : (BitVec.ofInt 64 n &&& BitVec.ofInt 64 7).toNat = (n % ((2 ^ 64 : Nat) : Int)).toNat % 2 ^ 3 := by
    rw [BitVec.toNat_and, BitVec.toNat_ofInt, hm, Nat.and_two_pow_sub_one_eq_mod]
  show IntKind.i64.wrap ((BitVec.ofInt 64 n &&& BitVec.ofInt 64 7).toNat : Nat) = n % 8
  rw [key, IntKind.wrap_i64]
  omega
set_option maxRecDepth 100000 in
theorem len64_16 (w : World) : Calls Tryz.prog 98 #[.int .u64 65535] w fun e w' => e = .returned (.int .i64 16) ∧ w = w' := by
  go_enter Tryz.func98, Tryz.ntmps98
  go_wp2
  go_ret
  exact ⟨by kernel_rfl, rfl⟩
theorem bits16 (w : World) : Calls Tryz.prog 102 #[] w fun e w' => e = .returned (.int .i64 16) ∧ w = w' := by
  go_enter Tryz.func102, Tryz.ntmps102
  go_wp2_with (go_at_call 98; refine (len64_16 _).mono ?_; rintro e w' ⟨rfl, rfl⟩)
  go_ret
  exact ⟨by kernel_rfl, rfl⟩
theorem rot16_eq (x n R : Int) (h0 : 0 ≤ x) (h1 : x < 2 ^ 16) (hR : R = n % 16) : bits .or .u16 (x * 2 ^ R.toNat % 65536) (x / 2 ^ (16 - R).toNat) = rotI 16 x n := by
  have r0 := Int.emod_nonneg n (show (16 : Int) ≠ 0 by omega)
  have r1 := Int.emod_lt_of_pos n (show (0 : Int) < 16 by omega)
  rw [← hR] at r0 r1
  obtain ⟨y, rfl⟩ := Int.eq_ofNat_of_zero_le h0
  obtain ⟨q, rfl⟩ := Int.eq_ofNat_of_zero_le r0
  have e2 : ((16 : Int) - (q : Int)).toNat = 16 - q := by omega
  have f1 : ((y : Int) * 2 ^ q % 65536) = ((y * 2 ^ q % 65536 : Nat) : Int) := by simp
  have f2 : ((y : Int) / 2 ^ (16 - q)) = ((y / 2 ^ (16 - q) : Nat) : Int) := by simp
  have g1 : y * 2 ^ q % 65536 < 65536 := Nat.mod_lt _ (by omega)
  have g2 : y / 2 ^ (16 - q) < 65536 := Nat.lt_of_le_of_lt (Nat.div_le_self _ _) (by omega)
  rw [Int.toNat_natCast, e2, f1, f2, u16_or_nat _ _ g1 g2]
  unfold rotI rot
  have e3 : (n % ((16 : Nat) : Int)).toNat = q := by
    show (n % 16).toNat = q
    rw [← hR]; exact Int.toNat_natCast _
  rw [e3, Nat.mod_eq_of_lt (show q < 16 by omega), Int.toNat_natCast]
theorem i64_mask16 (n : Int) : bits .and .i64 n 15 = n % 16 := by
  have hm : (BitVec.ofInt 64 15).toNat = 2 ^ 4 - 1 := by decide
  have key : (BitVec.ofInt 64 n &&& BitVec.ofInt 64 15).toNat = (n % ((2 ^ 64 : Nat) : Int)).toNat % 2 ^ 4 := by
    rw [BitVec.toNat_and, BitVec.toNat_ofInt, hm, Nat.and_two_pow_sub_one_eq_mod]
  show IntKind.i64.wrap ((BitVec.ofInt 64 n &&& BitVec.ofInt 64 15).toNat : Nat) = n % 16
  rw [key, IntKind.wrap_i64]
  omega
set_option maxRecDepth 100000 in
theorem len64_32 (w : World) : Calls Tryz.prog 98 #[.int .u64 4294967295] w fun e w' => e = .returned (.int .i64 32) ∧ w = w' := by
  go_enter Tryz.func98, Tryz.ntmps98
  go_wp2
  go_ret
  exact ⟨by kernel_rfl, rfl⟩
theorem bits32 (w : World) : Calls Tryz.prog 79 #[] w fun e w' => e = .returned (.int .i64 32) ∧ w = w' := by
  go_enter Tryz.func79, Tryz.ntmps79
  go_wp2_with (go_at_call 98; refine (len64_32 _).mono ?_; rintro e w' ⟨rfl, rfl⟩)
  go_ret
  exact ⟨by kernel_rfl, rfl⟩
theorem rot32_eq (x n R : Int) (h0 : 0 ≤ x) (h1 : x < 2 ^ 32) (hR : R = n % 32) : bits .or .u32 (x * 2 ^ R.toNat % 4294967296) (x / 2 ^ (32 - R).toNat) = rotI 32 x n := by
  have r0 := Int.emod_nonneg n (show (32 : Int) ≠ 0 by omega)
  have r1 := Int.emod_lt_of_pos n (show (0 : Int) < 32 by omega)
  rw [← hR] at r0 r1
  obtain ⟨y, rfl⟩ := Int.eq_ofNat_of_zero_le h0
  obtain ⟨q, rfl⟩ := Int.eq_ofNat_of_zero_le r0
  have e2 : ((32 : Int) - (q : Int)).toNat = 32 - q := by omega
  have f1 : ((y : Int) * 2 ^ q % 4294967296) = ((y * 2 ^ q % 4294967296 : Nat) : Int) := by simp
  have f2 : ((y : Int) / 2 ^ (32 - q)) = ((y / 2 ^ (32 - q) : Nat) : Int) := by simp
  have g1 : y * 2 ^ q % 4294967296 < 4294967296 := Nat.mod_lt _ (by omega)
  have g2 : y / 2 ^ (32 - q) < 4294967296 := Nat.lt_of_le_of_lt (Nat.div_le_self _ _) (by omega)
  rw [Int.toNat_natCast, e2, f1, f2, u32_or_nat _ _ g1 g2]
  unfold rotI rot
  have e3 : (n % ((32 : Nat) : Int)).toNat = q := by
    show (n % 32).toNat = q
    rw [← hR]; exact Int.toNat_natCast _
  rw [e3, Nat.mod_eq_of_lt (show q < 32 by omega), Int.toNat_natCast]
theorem i64_mask32 (n : Int) : bits .and .i64 n 31 = n % 32 := by
  have hm : (BitVec.ofInt 64 31).toNat = 2 ^ 5 - 1 := by decide
  have key : (BitVec.ofInt 64 n &&& BitVec.ofInt 64 31).toNat = (n % ((2 ^ 64 : Nat) : Int)).toNat % 2 ^ 5 := by
    rw [BitVec.toNat_and, BitVec.toNat_ofInt, hm, Nat.and_two_pow_sub_one_eq_mod]
  show IntKind.i64.wrap ((BitVec.ofInt 64 n &&& BitVec.ofInt 64 31).toNat : Nat) = n % 32
  rw [key, IntKind.wrap_i64]
  omega
theorem turn32 (x n : Int) (wx : (Lit.int .u32 x).wf = true) (wn : (Lit.int .i64 n).wf = true) (w : World) : Calls Tryz.prog 111 #[.int .u32 x, .int .i64 n] w fun e w' => e = .returned (.int .u32 (rotI 32 x n)) ∧ ∃ j, w' = w.drewN j := by
  obtain ⟨hx0, hx1⟩ := wf_u32 wx
  have hx2 : x < 4294967296 := hx1
  clear wx wn
  have r0 := Int.emod_nonneg n (show (32 : Int) ≠ 0 by omega)
  have r1 := Int.emod_lt_of_pos n (show (0 : Int) < 32 by omega)
  have hmask := i64_mask32 n
  have E : Hid (bits .or .u32 (x * 2 ^ (n % 32).toNat % 4294967296) (x / 2 ^ (32 - n % 32).toNat) = rotI 32 x n) := Lib.hid (rot32_eq x n _ hx0 hx1 rfl)
  go_enter Tryz.func111, Tryz.ntmps111
  go_wp2_with (go_at_call 79; refine (bits32 _).mono ?_; rintro e w' ⟨rfl, rfl⟩)
  go_quiet (fail)
  go_wp2
  go_ret
  exact ⟨ret_int E.out, _, rfl⟩

set_option maxRecDepth 100000 in
theorem len64_64 (w : World) : Calls Tryz.prog 98 #[.int .u64 18446744073709551615] w fun e w' => e = .returned (.int .i64 64) ∧ w = w' := by
  go_enter Tryz.func98, Tryz.ntmps98
  go_wp2
  go_ret
  exact ⟨by kernel_rfl, rfl⟩
theorem bits64 (w : World) : Calls Tryz.prog 85 #[] w fun e w' => e = .returned (.int .i64 64) ∧ w = w' := by
  go_enter Tryz.func85, Tryz.ntmps85
  go_wp2_with (go_at_call 98; refine (len64_64 _).mono ?_; rintro e w' ⟨rfl, rfl⟩)
  go_ret
  exact ⟨by kernel_rfl, rfl⟩
theorem rot64_eq (x n R : Int) (h0 : 0 ≤ x) (h1 : x < 2 ^ 64) (hR : R = n % 64) : bits .or .u64 (x * 2 ^ R.toNat % 18446744073709551616) (x / 2 ^ (64 - R).toNat) = rotI 64 x n := by
  have r0 := Int.emod_nonneg n (show (64 : Int) ≠ 0 by omega)
  have r1 := Int.emod_lt_of_pos n (show (0 : Int) < 64 by omega)
  rw [← hR] at r0 r1
  obtain ⟨y, rfl⟩ := Int.eq_ofNat_of_zero_le h0
  obtain ⟨q, rfl⟩ := Int.eq_ofNat_of_zero_le r0
  have e2 : ((64 : Int) - (q : Int)).toNat = 64 - q := by omega
  have f1 : ((y : Int) * 2 ^ q % 18446744073709551616) = ((y * 2 ^ q % 18446744073709551616 : Nat) : Int) := by simp
  have f2 : ((y : Int) / 2 ^ (64 - q)) = ((y / 2 ^ (64 - q) : Nat) : Int) := by simp
  have g1 : y * 2 ^ q % 18446744073709551616 < 18446744073709551616 := Nat.mod_lt _ (by omega)
  have g2 : y / 2 ^ (64 - q) < 18446744073709551616 := Nat.lt_of_le_of_lt (Nat.div_le_self _ _) (by omega)
  rw [Int.toNat_natCast, e2, f1, f2, u64_or_nat _ _ g1 g2]
  unfold rotI rot
  have e3 : (n % ((64 : Nat) : Int)).toNat = q := by
    show (n % 64).toNat = q
    rw [← hR]; exact Int.toNat_natCast _
  rw [e3, Nat.mod_eq_of_lt (show q < 64 by omega), Int.toNat_natCast]
theorem i64_mask64 (n : Int) : bits .and .i64 n 63 = n % 64 := by
  have hm : (BitVec.ofInt 64 63).toNat = 2 ^ 6 - 1 := by decide
  have key : (BitVec.ofInt 64 n &&& BitVec.ofInt 64 63).toNat = (n % ((2 ^ 64 : Nat) : Int)).toNat % 2 ^ 6 := by
    rw [BitVec.toNat_and, BitVec.toNat_ofInt, hm, Nat.and_two_pow_sub_one_eq_mod]
  show IntKind.i64.wrap ((BitVec.ofInt 64 n &&& BitVec.ofInt 64 63).toNat : Nat) = n % 64
  rw [key, IntKind.wrap_i64]
  omega
end Go.Proofs.YtkfdcdfaikkneaaGreatDoor
