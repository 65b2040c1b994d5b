/- Texts of mine, one behind the other: Hs. -/
import Derived.Test.YtappfdbmhgifcaaGreatDoorZS05
import Derived.Test.YtappfdbmhgifcaaGreatDoorZS02
import Derived.Deep.OwnRows
import Derived.Laws.AppendOwnNone
import Derived.IntWalk
import Derived.Great.BuildSlice
/- The document's Sum (layer 7; written by gen32.py). -/
namespace Go.Proofs.YtappfdbmhgifcaaGreatDoor
open Go.ChangeShapes Go.WideShapes Go.ChangeAt Go.RowKit
set_option linter.unusedVariables false
set_option linter.unusedSimpArgs false
set_option maxRecDepth 100000

theorem infoK : (Tryz.prog.info? 116).map (fun i => (i.zero, i.size)) = some (some (.agg (Array.replicate 64 (.int .u32 0))), 64) := by kernel_rfl
theorem size_K : (Tryz.prog.info? 116).map (·.size) = some 64 := by kernel_rfl
theorem size_H : (Tryz.prog.info? 117).map (·.size) = some 8 := by kernel_rfl
/-- The first i words of a table, noughts behind them. -/
def fV (f : Nat → Nat) (i j : Nat) : Value := .int .u32 ((if j < i then f j else 0 : Nat) : Int)
theorem fV_zero (f : Nat → Nat) (j : Nat) : fV f 0 j = .int .u32 0 := rfl
theorem fV_set (f : Nat → Nat) (i j : Nat) : (if j = i then .int .u32 ((f i : Nat) : Int) else fV f i j) = fV f (i + 1) j := by
  unfold fV
  by_cases e : j = i
  · rw [if_pos e, if_pos (by omega), e]
  · rw [if_neg e]
    by_cases h : j < i
    · rw [if_pos h, if_pos (by omega)]
    · rw [if_neg h, if_neg (by omega)]
def gV (f : Nat → Nat) (j : Nat) : Value := .int .u32 ((f j : Nat) : Int)
theorem fV_all (f : Nat → Nat) {n j : Nat} (h : j < n) : fV f n j = gV f j := by unfold fV gV; rw [if_pos h]
/-- A row of bytes in a block of its own. -/
def Row8 (w : World) (g n : Nat) (l : List Int) : Prop := l.length = n ∧ AllB l ∧ g < w.heap.size ∧ ∀ i, i < n → w.cell? ⟨g, i, none⟩ = some (.int .u8 (l.getD i 0))
theorem Row8.on {w w' : World} {g n B : Nat} {l : List Int} (h : Row8 w g n l) (hb : Below B w w') (hB : g < B) : Row8 w' g n l :=
  ⟨h.1, h.2.1, Nat.lt_of_lt_of_le h.2.2.1 hb.size, fun i hi => (hb.cell (p := ⟨g, i, none⟩) hB).trans (h.2.2.2 i hi)⟩
theorem Row8.own {w : World} {base g n c : Nat} {e : TypeId} {l : List Int} (h : w.ownsRow base e 1 (.slice (some ⟨g, 0, none⟩) n c) n (l.map (Value.int .u8))) (hl : AllB l) : Row8 w g n l := by
  have hlen : l.length = n := (Bs.of_own h).2
  refine ⟨hlen, hl, (h.lt g rfl).2, fun i hi => ?_⟩
  have := own_cells h i hi
  rwa [Nat.zero_add] at this
theorem allB_g {l : List Int} (h : AllB l) (k : Nat) : 0 ≤ l.getD k 0 ∧ l.getD k 0 < 256 := by
  have h1 := toNat_byte h k
  by_cases hk : k < l.length
  · have e : l.getD k 0 = l[k] := by simp [List.getD_eq_getElem?_getD, List.getElem?_eq_getElem hk]
    rw [e]; exact h _ (List.getElem_mem hk)
  · have e : l.getD k 0 = 0 := by simp [List.getD_eq_getElem?_getD, List.getElem?_eq_none (Nat.le_of_not_lt hk)]
    rw [e]; omega
theorem Blk.keep {w : World} {b : Nat} {T : TypeId} {n : Nat} {g : Nat → Value} (h : Blk w b T n g) {i : Nat} (hi : i < n) (v : Value) {j : Nat} (hj : j < n) (hne : j ≠ i) : (w.setCell ⟨b, i, none⟩ v).cell? ⟨b, j, none⟩ = some (g j) := by
  have := (h.set hi v).cell hj
  rw [if_neg hne] at this
  exact this
theorem Row8.other {w : World} {g n : Nat} {l : List Int} (h : Row8 w g n l) (p : Addr) (v : Value) (hne : p.block ≠ g) : Row8 (w.setCell p v) g n l :=
  ⟨h.1, h.2.1, by simpa using h.2.2.1, fun i hi => (World.cell?_setCell_far w p ⟨g, i, none⟩ v hne).trans (h.2.2.2 i hi)⟩
theorem not32 {x : Nat} (h : x < 4294967296) : 4294967295 ^^^ x = 4294967295 - x := by
  apply Nat.eq_of_testBit_eq
  intro i
  have e := Nat.testBit_two_pow_sub_succ (n := 32) (x := x) h i
  rw [show (4294967295 : Nat) - x = 2 ^ 32 - (x + 1) by omega, e, Nat.testBit_xor, show (4294967295 : Nat) = 2 ^ 32 - 1 by rfl, Nat.testBit_two_pow_sub_one]
  by_cases hi : i < 32
  · simp [hi]
  · have : x.testBit i = false := Nat.testBit_lt_two_pow (Nat.lt_of_lt_of_le h (Nat.pow_le_pow_right (n := 2) (by omega) (show 32 ≤ i by omega)))
    simp [hi, this]
theorem builtH (x0 x1 x2 x3 x4 x5 x6 x7 : Int) : Tryz.prog.built 117 [(0, .int .u32 x0), (1, .int .u32 x1), (2, .int .u32 x2), (3, .int .u32 x3), (4, .int .u32 x4), (5, .int .u32 x5), (6, .int .u32 x6), (7, .int .u32 x7)] =
    some #[.int .u32 x0, .int .u32 x1, .int .u32 x2, .int .u32 x3, .int .u32 x4, .int .u32 x5, .int .u32 x6, .int .u32 x7] := by kernel_rfl
theorem tab8 (f : Nat → Nat) : tabV 8 (gV f) = #[gV f 0, gV f 1, gV f 2, gV f 3, gV f 4, gV f 5, gV f 6, gV f 7] := rfl
theorem lt8H {k : Nat} (h : k < 8) : k = 0 ∨ k = 1 ∨ k = 2 ∨ k = 3 ∨ k = 4 ∨ k = 5 ∨ k = 6 ∨ k = 7 := by omega
theorem index_H (f : Nat → Nat) {k : Nat} (hk : k < 8) (w : World) : (Instr.index 117 (.agg (tabV 8 (gV f))) (.int .i64 (k : Nat))).run Tryz.prog w = .ok (.int .u32 ((f k : Nat) : Int)) w := by
  rcases lt8H hk with rfl | rfl | rfl | rfl | rfl | rfl | rfl | rfl <;> kernel_rfl
/-- Behind i of the words the sums. -/
def sV (h c : Nat → Nat) (i j : Nat) : Value := .int .u32 ((if j < i then ad (h j) (c j) else h j : Nat) : Int)
theorem sV_zero (h c : Nat → Nat) (j : Nat) : sV h c 0 j = gV h j := rfl
theorem sV_set (h c : Nat → Nat) (i j : Nat) : (if j = i then .int .u32 ((ad (h i) (c i) : Nat) : Int) else sV h c i j) = sV h c (i + 1) j := by
  unfold sV
  by_cases e : j = i
  · rw [if_pos e, if_pos (by omega), e]
  · rw [if_neg e]
    by_cases h : j < i
    · rw [if_pos h, if_pos (by omega)]
    · rw [if_neg h, if_neg (by omega)]
end Go.Proofs.YtappfdbmhgifcaaGreatDoor
