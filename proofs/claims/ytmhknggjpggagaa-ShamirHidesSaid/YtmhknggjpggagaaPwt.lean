/- Contracts of poly's weight, Weights. -/
import Derived.Test.YtmhknggjpggagaaPchk
namespace Go.Proofs.Ytmhknggjpggagaa
open Go.ChangeShapes Go.WideShapes Go.ChangeAt Go.RowKit Go.Shelf GF
set_option linter.unusedVariables false
set_option maxRecDepth 100000

theorem GF.inv_prod {a b : GF} (ha : a ≠ 0) (hb : b ≠ 0) : GF.inv (a * b) = GF.inv a * GF.inv b := by
  have h : (a * b) * (GF.inv a * GF.inv b) = 1 := by
    rw [show (a * b) * (GF.inv a * GF.inv b) = (a * GF.inv a) * (b * GF.inv b) by
      rw [GF.mul_assoc, GF.mul_left_comm b, ← GF.mul_assoc]]
    rw [GF.mul_inv ha, GF.mul_inv hb, GF.mul_one]
  have h2 := GF.inv_mul (GF.mul_ne ha hb)
  rw [← GF.mul_one (GF.inv (a * b)), ← h, ← GF.mul_assoc, h2, GF.one_mul]
/-- The product of x less each of the first k places but the i-th. -/
def topA (X : List GF) (i : Nat) (x : GF) : Nat → GF
  | 0 => 1
  | k + 1 => if k = i then topA X i x k else topA X i x k * (x + co X k)
theorem bot_ne {X : List GF} (h : Apart X) {i : Nat} (hi : i < X.length) : ∀ k, k ≤ X.length → topA X i (co X i) k ≠ 0 := by
  intro k
  induction k with
  | zero => intro _; exact GF.one_ne
  | succ k ih =>
    intro hk
    simp only [topA]
    by_cases e : k = i
    · rw [if_pos e]; exact ih (by omega)
    · rw [if_neg e]
      exact GF.mul_ne (ih (by omega)) (fun z => h.ne hi (by omega) (Ne.symm e) (GF.add_eq_zero.1 z))
theorem wtA_top {X : List GF} (h : Apart X) {i : Nat} (hi : i < X.length) (x : GF) : ∀ k, k ≤ X.length → topA X i x k * GF.inv (topA X i (co X i) k) = wtA X i x k := by
  intro k
  induction k with
  | zero => intro _; simp only [topA, wtA]; rw [GF.inv_one, GF.one_mul]
  | succ k ih =>
    intro hk
    simp only [topA, wtA]
    by_cases e : k = i
    · rw [if_pos e, if_pos e, if_pos e]; exact ih (by omega)
    · rw [if_neg e, if_neg e, if_neg e, ← ih (by omega), GF.inv_prod (bot_ne h hi k (by omega)) (fun z => h.ne hi (by omega) (Ne.symm e) (GF.add_eq_zero.1 z)), GF.mul_assoc, GF.mul_left_comm (x + co X k), ← GF.mul_assoc]

theorem Pa.drewN {w : World} {a : Option Addr} {L cap : Nat} {P : List GF} (h : Pa w a L cap P) (n : Nat) : Pa (w.drewN n) a L cap P := h

set_option maxHeartbeats 1000000 in
theorem weight_any (b : Nat) (a : Option Addr) (L cap i : Nat) (X : List GF) (x : GF) (w : World) (hf : Fld w b) (hx : Pa w a L cap X) (hi : i < L) (hA : Apart X) (hL : L ≤ 255) :
    Calls Try.prog 39 #[.pointer (some ⟨b, 0, none⟩), .slice a L cap, .int .i64 (i : Nat), .int .u8 (toI x)] w fun e w' => e = .returned (.int .u8 (toI (wt X i x))) ∧ w = w' := by
  have hl := hx.len
  obtain ⟨bi, oi, rfl, hbi, hci⟩ := hx.at_ hi
  have hcell : ∀ k, k < L → w.cell? ⟨bi, oi + k, none⟩ = some (.int .u8 (toI (co X k))) := fun k hk => by
    obtain ⟨b', o', e, _, hc⟩ := hx.at_ hk
    cases e
    exact hc
  have HCell := Lib.hid hcell
  have hne := bot_ne hA (i := i) (by omega) L (by omega)
  have hres := wtA_top hA (i := i) (by omega) x L (by omega)
  have HNE := Lib.hid hne
  have HRES := Lib.hid hres
  have HL := Lib.hid hl
  have hqi : (i : Int) < (L : Int) := by omega
  have hqi0 : (0 : Int) ≤ (i : Int) := by omega
  clear hx hl hcell hA hne hres
  go_enter Try.func39, Try.ntmps39
  go_wp2
  go_loopw [17, 9, 10] (fun j t o wr => ∃ k : Nat, k ≤ L ∧ j = .int .i64 (k : Nat) ∧ t = .int .u8 (toI (topA X i x k)) ∧ o = .int .u8 (toI (topA X i (co X i) k)) ∧ wr = w)
    (fun j _ _ _ => L - (intOf j).toNat)
  case atStart => exact ⟨0, Nat.zero_le _, rfl, rfl, rfl, rfl⟩
  case round =>
    obtain ⟨k, hk, rfl, rfl, rfl, rfl⟩ := hrel
    by_cases hlt : k < L
    · have hck := HCell.out k hlt
      have q2 : (k : Int) < (L : Int) := by omega
      have q3 : (0 : Int) ≤ (k : Int) := by omega
      by_cases e : k = i
      · have q4 : ((k : Int) != (i : Int)) = false := by rw [e]; simp
        have ht : topA X i x (k + 1) = topA X i x k := by simp only [topA]; rw [if_pos e]
        have hb : topA X i (co X i) (k + 1) = topA X i (co X i) k := by simp only [topA]; rw [if_pos e]
        have HT := Lib.hid ht; have HB := Lib.hid hb
        clear ht hb e
        go_wp2
        go_roundw
        case rel => exact ⟨k + 1, by omega, by go_num, by rw [HT.out], by rw [HB.out], by trivial⟩
        case measure => simp [intOf]; omega
      · have q4 : ((k : Int) != (i : Int)) = true := by rw [bne_iff_ne]; omega
        have ht : topA X i x (k + 1) = topA X i x k * (x + co X k) := by simp only [topA]; rw [if_neg e]
        have hb : topA X i (co X i) (k + 1) = topA X i (co X i) k * (co X i + co X k) := by simp only [topA]; rw [if_neg e]
        have HT := Lib.hid ht; have HB := Lib.hid hb
        clear ht hb e
        go_wp2_with (first
          | (go_at_call 25; refine (mul_G _ _ _ _ hf).mono ?_; rintro e w' ⟨rfl, rfl⟩)
          | (go_at_call 43; refine (add_G _ _ _).mono ?_; rintro e w' ⟨rfl, rfl⟩))
        go_roundw
        case rel => exact ⟨k + 1, by omega, by go_num, by rw [HT.out], by rw [HB.out], by trivial⟩
        case measure => simp [intOf]; omega
    · obtain rfl : L = k := by omega
      go_wp2_with (go_at_call 40; refine (div_G _ _ _ _ hf HNE.out).mono ?_; rintro e w' ⟨rfl, rfl⟩)
      go_ret
      refine ⟨?_, rfl⟩
      rw [HRES.out]; unfold wt; rw [HL.out]; rfl

/-- All weights. -/
def wts (X : List GF) (x : GF) : List GF := (List.range X.length).map fun i => wt X i x
theorem length_wts (X : List GF) (x : GF) : (wts X x).length = X.length := by simp [wts]
theorem co_wts {X : List GF} (x : GF) {i : Nat} (hi : i < X.length) : co (wts X x) i = wt X i x := by
  simp only [wts, co, List.getD_eq_getElem?_getD, List.getElem?_map, List.getElem?_range hi, Option.map_some, Option.getD_some]

theorem weights_nil (v : Value) (x : Int) (w : World) : Calls Try.prog 23 #[.pointer none, v, .int .u8 x] w fun e w' => e = .returned (.tuple #[.slice none 0 0, .int .i64 1]) ∧ w = w' := by
  go_enter Try.func23, Try.ntmps23
  go_wp2_with (go_at_call 38; refine (checked_nil _ _).mono ?_; rintro e w' ⟨rfl, rfl⟩)
  go_ret2
  exact ⟨rfl, rfl⟩
theorem weights_bad (b : Nat) (a : Option Addr) (L cap : Nat) (X : List GF) (x : GF) (w : World) (hx : Pa w a L cap X) (hE : plErr X ≠ 0) :
    Calls Try.prog 23 #[.pointer (some ⟨b, 0, none⟩), .slice a L cap, .int .u8 (toI x)] w fun e w' => e = .returned (.tuple #[.slice none 0 0, .int .i64 (plErr X)]) ∧ Below w.heap.size w w' := by
  have q : (plErr X != 0) = true := by rw [bne_iff_ne]; exact hE
  have HX := Lib.hid hx
  clear hx hE
  go_enter Try.func23, Try.ntmps23
  go_wp2_with (go_at_call 38; refine (checked_any _ _ _ _ X _ HX.out).mono ?_; rintro e w1 ⟨rfl, hb1⟩)
  go_ret2
  exact ⟨rfl, hb1⟩

set_option maxHeartbeats 1000000 in
theorem weights_any (b : Nat) (a : Option Addr) (L cap : Nat) (X : List GF) (x : GF) (w : World) (hf : Fld w b) (hx : Pa w a L cap X) (hE : plErr X = 0) :
    Calls Try.prog 23 #[.pointer (some ⟨b, 0, none⟩), .slice a L cap, .int .u8 (toI x)] w fun e w' => ∃ g, e = .returned (.tuple #[.slice (some ⟨g, 0, none⟩) L L, .int .i64 0]) ∧
      w'.ownsRow w.heap.size 5 1 (.slice (some ⟨g, 0, none⟩) L L) L ((iL (wts X x)).map (Value.int .u8)) ∧ Below w.heap.size w w' := by
  have hl := hx.len
  obtain ⟨h0, h255, hA⟩ := plErr_zero.1 hE
  rw [hl] at h0 h255
  have HX := Lib.hid hx
  have HF := Lib.hid hf
  have HL := Lib.hid hl
  have HE := Lib.hid hE
  have HA := Lib.hid hA
  have hcap := hx.1.2.2.2
  have hW : (iL (wts X x)).length = L := by rw [length_iL, length_wts, hl]
  have HW := Lib.hid hW
  have hmk := run_make_row' (P := Try.prog) 22 5 (.int .u8 0) 1 Try.underlying22 info5 rfl .i64 .i64 L (by omega) (by omega)
  clear hx hf hl hE hA hW
  go_enter Try.func23, Try.ntmps23
  go_wp2_with (go_at_call 38; refine (checked_any _ _ _ _ X _ HX.out).mono ?_; rintro e w1 ⟨rfl, hb1⟩; have q5 : (plErr X != 0) = false := (by rw [HE.out]; rfl))
  have ho1 := own_made (w := w1) (e := 5) (n := L) (by unfold maxLen; omega)
  rw [show List.replicate L (0 : Int) = part (iL (wts X x)) 0 by rw [part_zero, HW.out]] at ho1
  have HO1 := Lib.hid (own_base ho1 hb1.size)
  clear ho1
  have hb2 := hb1.alloc hb1.size (.cells (madeCells #[Value.int .u8 0] L) 5)
  go_loopw [22] (fun j wr => ∃ k : Nat, k ≤ L ∧ j = .int .i64 (k : Nat) ∧ Hid (wr.ownsRow w.heap.size 5 1 (.slice (some ⟨w1.heap.size, 0, none⟩) L L) L ((part (iL (wts X x)) k).map (Value.int .u8))) ∧ Hid (Below w.heap.size w wr))
    (fun j _ => L - (intOf j).toNat)
  case atStart => exact ⟨0, Nat.zero_le _, rfl, HO1, Lib.hid hb2⟩
  case round =>
    obtain ⟨k, hk, rfl, hR, hB⟩ := hrel
    by_cases hlt : k < L
    · have q2 : (k : Int) < (L : Int) := by omega
      have q3 : (0 : Int) ≤ (k : Int) := by omega
      have hst := part_set_own HW.out hlt hR.out
      have hcg := own_cells hR.out k hlt
      rw [Nat.zero_add] at hcg
      have hfz := hR.out.frozenAt k
      rw [getD_iL, co_wts x (by rw [HL.out]; exact hlt)] at hst
      have HS := Lib.hid hst
      have HB2 := Lib.hid (hB.out.setCell (p := ⟨w1.heap.size, k, none⟩) hb1.size (.int .u8 (toI (wt X k x))))
      clear hst
      obtain ⟨Z, hZ⟩ : ∃ Z, Z = (part (iL (wts X x)) k).getD k 0 := ⟨_, rfl⟩
      rw [← hZ] at hcg
      clear hZ
      go_wp2_with (go_at_call 39; refine (weight_any b _ L cap k X x _ (HF.out.below hB.out) (HX.out.on hB.out) hlt HA.out h255).mono ?_; rintro e w' ⟨rfl, rfl⟩)
      go_roundw
      case rel => exact ⟨k + 1, by omega, by go_num, Lib.hid HS.out, Lib.hid HB2.out⟩
      case measure => simp [intOf]; omega
    · obtain rfl : k = L := by omega
      have he : part (iL (wts X x)) k = iL (wts X x) := by have := part_all (iL (wts X x)); rwa [HW.out] at this
      rw [he] at hR
      go_wp2
      go_ret2
      exact ⟨_, rfl, hR.out, hB.out⟩
end Go.Proofs.Ytmhknggjpggagaa
