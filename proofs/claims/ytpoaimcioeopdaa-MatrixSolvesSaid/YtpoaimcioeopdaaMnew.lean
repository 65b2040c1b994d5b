/- Contracts of Row, New, Identity. -/
import Derived.Test.YtpoaimcioeopdaaMfill
namespace Go.Proofs.Ytpoaimcioeopdaa
open Go.ChangeShapes Go.WideShapes Go.ChangeAt Go.RowKit Go.Shelf GF
set_option linter.unusedVariables false
set_option maxRecDepth 100000
set_option linter.unusedSimpArgs false

theorem fits_yes (n : Nat) (w : World) (h : 1 ≤ n ∧ n ≤ 64) : Calls Try.prog 31 #[.int .i64 (n : Nat)] w fun e w' => e = .returned (.bool true) ∧ w = w' :=
  (fits_any _ w (by omega)).mono fun e w' ⟨h1, h2⟩ => ⟨by rw [h1]; simp; omega, h2⟩
theorem fits_no (n : Int) (w : World) (h : -9223372036854775808 ≤ n ∧ n ≤ 9223372036854775807) (h2 : ¬ (1 ≤ n ∧ n ≤ 64)) : Calls Try.prog 31 #[.int .i64 n] w fun e w' => e = .returned (.bool false) ∧ w = w' :=
  (fits_any _ w h).mono fun e w' ⟨h1, h3⟩ => ⟨by rw [h1]; simp; omega, h3⟩
theorem mat_ent {M : List (List GF)} {n m : Nat} (hl : M.length = n) (hw : Wide M m) : mat (ent M) n m = M := by
  apply List.ext_getElem (by rw [length_mat, hl])
  intro i h1 h2
  have h3 : M[i] = rw_ M i := by unfold rw_; simp [List.getD_eq_getElem?_getD, List.getElem?_eq_getElem h2]
  have h4 : (mat (ent M) n m)[i] = fl m (ent M i) := by simp [mat]
  rw [h3, h4]
  have hlen := hw i h2
  apply List.ext_getElem (by rw [length_fl, hlen])
  intro j k1 k2
  have h5 : (fl m (ent M i))[j] = ent M i j := by simp [fl]
  rw [h5]
  show co (rw_ M i) j = _
  rw [co_lt k2]

/-- The i-th row of a matrix: a copy. -/
theorem row_any (a : Option Addr) (n m : Nat) (M : List (List GF)) (i : Nat) (w : World) (h : Mx w a n m M) (hi : i < n) : Calls Try.prog 29 #[.pointer a, .int .i64 (i : Nat)] w fun e w' => ∃ v, e = .returned v ∧ w'.ownsRow w.heap.size 5 1 v m ((iL (rw_ M i)).map (Value.int .u8)) ∧ Below w.heap.size w w' := by
  have H := Lib.hid h
  have hbd := h.bd
  obtain ⟨g, s, c, rfl, hg, hc, hm, hw, hn, hm1⟩ := h
  obtain ⟨b, off, ai, ci, rfl, hb, hcell, hpa⟩ := hm.row hi
  rw [hw i (by rw [hm.len]; exact hi)] at hcell hpa
  have HP := Lib.hid hpa
  have q : (i : Int) < (n : Int) := by omega
  have q0 : (0 : Int) ≤ (i : Int) := by omega
  have hhas := has_any _ _ _ _ (i : Int) w H.out
  rw [show (decide ((0 : Int) ≤ (i : Nat)) && decide ((i : Int) < (n : Nat))) = true by simp; omega] at hhas
  have HH := Lib.hid hhas
  clear hm hw hpa hhas
  go_enter Try.func29, Try.ntmps29
  go_wp2_with (first
    | (go_at_call 64; refine HH.out.mono ?_; rintro e w' ⟨rfl, k, rfl⟩)
    | (go_at_call 65; go_loud (refine (clone_any _ _ _ _ _ (HP.out.on (below_drewN (Below.refl _ _) _)) (by omega)).mono ?_); rintro e w' ⟨v, rfl, hown, hbel⟩))
  go_ret
  exact ⟨_, rfl, hown, ⟨hbel.os, hbel.tape, hbel.output, hbel.size, hbel.block⟩⟩
theorem row_out (a : Option Addr) (n m : Nat) (M : List (List GF)) (i : Int) (w : World) (h : Mx w a n m M) (hi : ¬ (0 ≤ i ∧ i < n)) : Calls Try.prog 29 #[.pointer a, .int .i64 i] w fun e w' => e = .returned (.slice none 0 0) ∧ Below w.heap.size w w' := by
  have hhas := has_any _ _ _ _ i w h
  rw [show (decide ((0 : Int) ≤ i) && decide (i < (n : Nat))) = false by simp; omega] at hhas
  have HH := Lib.hid hhas
  clear hhas
  go_enter Try.func29, Try.ntmps29
  go_wp2_with (go_at_call 64; refine HH.out.mono ?_; rintro e w' ⟨rfl, k, rfl⟩)
  go_ret
  exact ⟨rfl, below_drewN (Below.refl _ _) _⟩

/-- What New's function value tells: the rows' numbers. -/
theorem new1_any (Bx : Nat) (a : Option Addr) (n c : Nat) (M : List (List GF)) (W : World) (i j : Nat) (hx : W.cell? ⟨Bx, 0, none⟩ = some (.slice a n c)) (hm : Mat W a n c M) (hi : i < n) (hj : j < (rw_ M i).length) :
    Giv Try.prog 33 #[.pointer (some ⟨Bx, 0, none⟩)] #[.int .i64 (i : Nat), .int .i64 (j : Nat)] (.int .u8 (toI (ent M i j))) W := by
  obtain ⟨b, off, ai, ci, rfl, hb, hcell, hpa⟩ := hm.row hi
  obtain ⟨b2, off2, rfl, hb2, hc2⟩ := hpa.at_ hj
  rw [show co (rw_ M i) j = ent M i j from rfl] at hc2
  have hbd := hpa.bd
  have hb3 := hm.bd
  obtain ⟨L, hL⟩ : ∃ L, L = (rw_ M i).length := ⟨_, rfl⟩
  rw [← hL] at hcell hj hbd
  have q : (i : Int) < (n : Int) := by omega
  have q0 : (0 : Int) ≤ (i : Int) := by omega
  have q1 : (j : Int) < (L : Int) := by omega
  have q2 : (0 : Int) ≤ (j : Int) := by omega
  clear hm hpa hL
  unfold Giv
  go_enter Try.func33, Try.ntmps33
  go_wp2
  go_ret
  exact ⟨rfl, 0, rfl⟩
theorem lit_one (w : World) (v : Value) (e : TypeId) : (w.alloc (.cells #[v] e)).cell? ⟨w.heap.size, 0, none⟩ = some v := by
  have h := lit_cells w v e 0 v rfl
  exact h

set_option maxHeartbeats 1000000 in
theorem new_ok (a : Option Addr) (n c m : Nat) (M : List (List GF)) (w : World) (h : Mat w a n c M) (hw : Wide M m) (hn : 1 ≤ n ∧ n ≤ 64) (hm : 1 ≤ m ∧ m ≤ 64) :
    Calls Try.prog 11 #[.slice a n c] w fun e w' => ∃ a', e = .returned (.tuple #[.pointer a', .int .i64 0]) ∧ Mx w' a' n m M ∧ Below w.heap.size w w' := by
  have H := Lib.hid h
  have HW := Lib.hid hw
  have HL := Lib.hid h.len
  obtain ⟨b, off, ai, ci, rfl, hb, hcell, hpa⟩ := h.row (i := 0) (by omega)
  rw [hw 0 (by rw [h.len]; omega), Nat.add_zero] at hcell
  have hbd := h.bd
  have hA := (Below.refl w.heap.size w).alloc (Nat.le_refl _) (.cells #[.slice (some ⟨b, off, none⟩) n c] 27)
  have hc0 := (hA.cell (p := ⟨b, off, none⟩) hb).trans hcell
  have hx := lit_one w (.slice (some ⟨b, off, none⟩) n c) 27
  obtain ⟨w1, hw1⟩ : ∃ w1, w1 = w.alloc (.cells #[.slice (some ⟨b, off, none⟩) n c] 27) := ⟨_, rfl⟩
  have HX := Lib.hid (And.intro hA hx)
  rw [← hw1] at HX
  have H1 := Lib.hid (h.on hA)
  rw [← hw1] at H1
  have HY := Lib.hid (fun (W : World) (hW : Below w1.heap.size w1 W) => (hW.cell (p := ⟨w.heap.size, 0, none⟩) (by rw [hw1]; simp)).trans HX.out.2)
  have HS := Lib.hid (show b < w1.heap.size by rw [hw1]; simp; omega)
  have q : (0 : Int) < (n : Int) := by omega
  have qm : ((m : Int) != (m : Int)) = false := by simp
  clear h hw hpa hA
  go_enter Try.func11, Try.ntmps11
  go_wp2_with (go_at_call 31; refine (fits_yes _ _ (by omega)).mono ?_; rintro e w' ⟨rfl, rfl⟩)
  rw [← hw1]
  have HW1 := Lib.hid hw1
  clear hw1
  go_loop [25] (fun j => ∃ i : Nat, i ≤ n ∧ j = .int .i64 (i : Nat)) (fun j => n - (intOf j).toNat)
  case atStart => exact ⟨0, Nat.zero_le _, rfl⟩
  case round =>
    obtain ⟨i, hi, rfl⟩ := hrel
    by_cases hlt : i < n
    · obtain ⟨b', off', ai', ci', e, hb', hcell', hpa'⟩ := H1.out.row hlt
      cases e
      rw [HW.out i (by rw [HL.out]; exact hlt)] at hcell'
      have qi : (i : Int) < (n : Int) := by omega
      have qi0 : (0 : Int) ≤ (i : Int) := by omega
      clear hpa'
      go_wp2
      go_round
      case rel => exact ⟨i + 1, by omega, by go_num⟩
      case measure => simp [intOf]; omega
    · obtain rfl : n = i := by omega
      have hx1 := HX.out.2
      go_wp2_with (go_at_call 32; go_loud (refine (filled_any n m 33 #[.pointer (some ⟨w.heap.size, 0, none⟩)] (ent M) w1 hn hm (enters_of Try.func33 (by kernel_rfl) rfl) (fun W i j hW hi hj => new1_any w.heap.size _ n c M W i j (HY.out W hW) (H1.out.on hW) hi (by rw [HW.out i (by rw [HL.out]; exact hi)]; exact hj))).mono ?_); rintro e w' ⟨a', rfl, hmx, hbel⟩)
      go_ret2
      refine ⟨_, rfl, ?_, bt HX.out.1 hbel⟩
      rwa [mat_ent HL.out HW.out] at hmx

/-- How many ones on the way down. -/
theorem ident1_any (W : World) (i j : Nat) (hi : i ≤ 1000) (hj : j ≤ 1000) : Giv Try.prog 71 #[] #[.int .i64 (i : Nat), .int .i64 (j : Nat)] (.int .u8 (toI (one i j))) W := by
  unfold Giv
  by_cases h : i = j
  · subst h
    have e : ((i : Int) == (i : Int)) = true := by simp
    go_enter Try.func71, Try.ntmps71
    go_wp2
    go_ret
    exact ⟨by unfold one; rw [if_pos rfl]; rfl, 0, rfl⟩
  · have e : ((i : Int) == (j : Int)) = false := by rw [beq_eq_false_iff_ne]; omega
    have HN := Lib.hid h
    clear h
    go_enter Try.func71, Try.ntmps71
    go_wp2
    go_ret
    exact ⟨by unfold one; rw [if_neg HN.out]; rfl, 0, rfl⟩
theorem identity_ok (n : Nat) (w : World) (hn : 1 ≤ n ∧ n ≤ 64) :
    Calls Try.prog 43 #[.int .i64 (n : Nat)] w fun e w' => ∃ a', e = .returned (.tuple #[.pointer a', .int .i64 0]) ∧ Mx w' a' n n (mat one n n) ∧ Below w.heap.size w w' := by
  go_enter Try.func43, Try.ntmps43
  go_wp2_with (first
    | (go_at_call 31; refine (fits_yes _ _ hn).mono ?_; rintro e w' ⟨rfl, rfl⟩)
    | (go_at_call 32; go_loud (refine (filled_any n n 71 #[] one w hn hn (enters_of Try.func71 (by kernel_rfl) rfl) (fun W i j hW hi hj => ident1_any W i j (by omega) (by omega))).mono ?_); rintro e w' ⟨a', rfl, hmx, hbel⟩))
  go_ret2
  exact ⟨_, rfl, hmx, hbel⟩
end Go.Proofs.Ytpoaimcioeopdaa
