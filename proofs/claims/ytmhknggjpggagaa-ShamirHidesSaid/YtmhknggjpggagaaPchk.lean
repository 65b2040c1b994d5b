/- Contract of poly's checked: the places that are the same are seen by a map. -/
import Derived.Test.YtmhknggjpggagaaPvan
import Derived.Maps.OwnOps
import Derived.Maps.OwnSet
namespace Go.Proofs.Ytmhknggjpggagaa
open Go.ChangeShapes Go.WideShapes Go.ChangeAt Go.RowKit Go.Shelf GF Go.Maps
set_option linter.unusedVariables false
set_option maxRecDepth 100000

/-- The first k are no two the same. -/
def ApTo (X : List GF) (k : Nat) : Prop := ∀ i j, i < k → j < i → co X i ≠ co X j
theorem apTo_all (X : List GF) : ApTo X X.length ↔ Apart X := Iff.rfl
open Classical in
/-- What is wrong with places. -/
noncomputable def plErr (X : List GF) : Int := if X.length = 0 then 5 else if 255 < X.length then 4 else if Apart X then 0 else 6
theorem plErr_zero {X : List GF} : plErr X = 0 ↔ 0 < X.length ∧ X.length ≤ 255 ∧ Apart X := by
  unfold plErr
  by_cases h0 : X.length = 0
  · rw [if_pos h0]; exact ⟨fun h => absurd h (by decide), fun h => absurd h0 (by omega)⟩
  · rw [if_neg h0]
    by_cases h1 : 255 < X.length
    · rw [if_pos h1]; exact ⟨fun h => absurd h (by decide), fun h => absurd h1 (by omega)⟩
    · rw [if_neg h1]
      by_cases h2 : Apart X
      · rw [if_pos h2]; exact ⟨fun _ => ⟨by omega, by omega, h2⟩, fun _ => rfl⟩
      · rw [if_neg h2]; exact ⟨fun h => absurd h (by decide), fun h => absurd h.2.2 h2⟩
abbrev keyG (y : GF) : Lit := .int .u8 (toI y)
theorem keyG_wf (y : GF) : (keyG y).wf = true := by
  have := toI_bd y
  simp only [Lit.wf, IntKind.min, IntKind.max, IntKind.signed, IntKind.bits, Bool.and_eq_true]
  simp
  omega
theorem keyG_ne {x y : GF} (h : x ≠ y) : keyG x ≠ keyG y := fun e => by injection e with _ e; exact h (toI_inj e)
def SeenTo (X : List GF) (k : Nat) (D : DataW Unit) : Prop :=
  (∀ y, has D (keyG y) = true ↔ ∃ j, j < k ∧ co X j = y) ∧ size D ≤ k ∧ (size D = k ↔ ApTo X k)
theorem SeenTo.zero (X : List GF) : SeenTo X 0 (.map []) :=
  ⟨fun y => ⟨fun h => by simp [has_eq] at h, fun ⟨j, hj, _⟩ => by omega⟩, Nat.le_refl _, ⟨fun _ i j hi _ => by omega, fun _ => rfl⟩⟩
theorem SeenTo.next {X : List GF} {k : Nat} {D : DataW Unit} (h : SeenTo X k D) (hT : Tidy D) (d : DataW Unit) : SeenTo X (k + 1) (D.put (keyG (co X k)) d) := by
  obtain ⟨h1, h2, h3⟩ := h
  refine ⟨fun y => ?_, ?_, ?_⟩
  · by_cases e : y = co X k
    · subst e
      rw [has_put_same hT.isMap (by trivial) d]
      exact ⟨fun _ => ⟨k, by omega, rfl⟩, fun _ => rfl⟩
    · rw [has_put_other (keyG_ne e) d, h1]
      exact ⟨fun ⟨j, hj, he⟩ => ⟨j, by omega, he⟩, fun ⟨j, hj, he⟩ => ⟨j, by rcases Nat.lt_succ_iff_lt_or_eq.1 hj with h | h; exact h; subst h; exact absurd he.symm e, he⟩⟩
  · rw [size_put hT d]; split <;> omega
  · rw [size_put hT d]
    by_cases hh : has D (keyG (co X k)) = true
    · rw [if_pos hh]
      obtain ⟨j, hj, he⟩ := (h1 _).1 hh
      exact ⟨fun e => by omega, fun ha => absurd he.symm (ha k j (by omega) hj)⟩
    · rw [if_neg hh]
      constructor
      · intro e i j hi hj
        rcases Nat.lt_succ_iff_lt_or_eq.1 hi with hi | hi
        · exact (h3.1 (by omega)) i j hi hj
        · subst hi
          exact fun he => hh ((h1 _).2 ⟨j, hj, he.symm⟩)
      · intro ha
        have := h3.2 (fun i j hi hj => ha i j (by omega) hj)
        omega

theorem lawU : Keyed Try.prog 5 := int_keyed Try.underlying5
theorem zeroI (w : World) : (zeroValue 3).run Try.prog w = .ok (.int .i64 0) w := by kernel_rfl

theorem checked_nil (v : Value) (w : World) : Calls Try.prog 38 #[.pointer none, v] w fun e w' => e = .returned (.int .i64 1) ∧ w = w' := by
  go_enter Try.func38, Try.ntmps38
  go_wp2
  go_ret
  exact ⟨rfl, rfl⟩

set_option maxRecDepth 100000 in
set_option maxHeartbeats 1000000 in
theorem checked_any (p : Addr) (a : Option Addr) (L cap : Nat) (X : List GF) (w : World) (hx : Pa w a L cap X) :
    Calls Try.prog 38 #[.pointer (some p), .slice a L cap] w fun e w' => e = .returned (.int .i64 (plErr X)) ∧ Below w.heap.size w w' := by
  have hl := hx.len
  have hm : L ≤ 9223372036854775807 := by have := hx.1.2.2.2; unfold maxLen at this; omega
  rcases Nat.eq_zero_or_pos L with h0 | h0
  · have hp : plErr X = 5 := by unfold plErr; rw [if_pos (by omega)]
    rw [hp]
    clear hp hx
    subst h0
    go_enter Try.func38, Try.ntmps38
    go_wp2
    go_ret
    exact ⟨rfl, Below.refl _ _⟩
  have q0 : ((L : Int) == 0) = false := by rw [beq_eq_false_iff_ne]; omega
  by_cases h255 : 255 < L
  · have hp : plErr X = 4 := by unfold plErr; rw [if_neg (by omega), if_pos (by omega)]
    rw [hp]
    clear hp hx
    have q1 : (255 : Int) < (L : Int) := by omega
    go_enter Try.func38, Try.ntmps38
    go_wp2
    go_ret
    exact ⟨rfl, Below.refl _ _⟩
  have q1 : ¬ (255 : Int) < (L : Int) := by omega
  have HX := Lib.hid hx
  have HL := Lib.hid hl
  clear hx hl
  have hmm := @run_makeMap Try.prog
  go_enter Try.func38, Try.ntmps38
  go_wp2
  go_loopw [19] (fun i wr => ∃ (k : Nat) (D : DataW Unit), k ≤ L ∧ i = .int .i64 (k : Nat) ∧ wr.ownsMap Try.prog 5 (plainElem Try.prog 3) w.heap.size k D ∧ Hid (SeenTo X k D) ∧ Below w.heap.size w wr)
    (fun i _ => L - (intOf i).toNat)
  case atStart => exact ⟨0, .map [], Nat.zero_le _, rfl, World.ownsMap_made _ _ _ _, Lib.hid (SeenTo.zero X), (Below.refl _ _).alloc (Nat.le_refl _) _⟩
  case round =>
    obtain ⟨k, D, hk, rfl, hown, hS, hnx⟩ := hrel
    by_cases hlt : k < L
    · obtain ⟨bx, ox, rfl, hbx, hcx⟩ := (HX.out.on hnx).at_ hlt
      have q2 : (k : Int) < (L : Int) := by omega
      have q3 : (0 : Int) ≤ (k : Int) := by omega
      have hkey : keyOf Try.prog 5 (.int .u8 (toI (co X k))) = some (keyG (co X k)) := keyOf_int_mk Try.underlying5 (keyG_wf _)
      have HT := Lib.hid (hown.tidy lawU)
      go_wp2_with (first
        | (at_lookup; refine wpList_lookup_own_int _ rfl _ _ 81 rfl 5 3 .i64 lawU Try.underlying81 Try.underlying3 (zeroI _) w.heap.size k _ rfl hown _ _ rfl hkey ?_; intro c hat hwc)
        | (at_mapUpdate; refine wpList_mapUpdate_own _ rfl _ _ _ 81 rfl 5 3 lawU Try.underlying81 _ w.heap.size k _ rfl hown (by unfold maxLen; omega) _ _ _ rfl rfl hkey _ [] (plainElem_int Try.underlying3 (wrap64_wf _)) ?_; intro w1 hown1 hgrow1))
      go_roundw
      case rel => exact ⟨k + 1, _, by omega, by go_num, hown1, Lib.hid (hS.out.next HT.out _), hnx.grown hgrow1 hnx.size (fun j hj => by cases hj; exact Nat.le_refl _)⟩
      case measure => simp [intOf]; omega
    · obtain rfl : k = L := by omega
      have hsz := hS.out.2
      have HS := Lib.hid hS.out.2.2
      by_cases hap : Apart X
      · have hp : plErr X = 0 := plErr_zero.2 ⟨by rw [HL.out]; omega, by rw [HL.out]; omega, hap⟩
        have he : size D = k := HS.out.2 (by rw [← HL.out]; exact hap)
        have HP := Lib.hid hp
        clear hp hsz
        have q5 : ¬ ((size D : Nat) : Int) < (k : Int) := by omega
        go_wp2_with (at_len; refine wpList_len_own _ rfl _ 81 rfl 5 3 Try.underlying81 _ w.heap.size k _ rfl hown ?_)
        go_ret
        exact ⟨ret_int HP.out.symm, hnx⟩
      · have hp : plErr X = 6 := by unfold plErr; rw [if_neg (by rw [HL.out]; omega), if_neg (by rw [HL.out]; omega), if_neg hap]
        have he : ((size D : Nat) : Int) < (k : Int) := by
          have h1 := hS.out.2.1
          rcases Nat.lt_or_ge (size D) k with h | h
          · omega
          · exact absurd (by rw [← apTo_all, HL.out]; exact HS.out.1 (by omega)) hap
        have HP := Lib.hid hp
        clear hp hsz
        go_wp2_with (at_len; refine wpList_len_own _ rfl _ 81 rfl 5 3 Try.underlying81 _ w.heap.size k _ rfl hown ?_)
        go_ret
        exact ⟨ret_int HP.out.symm, hnx⟩
end Go.Proofs.Ytmhknggjpggagaa
