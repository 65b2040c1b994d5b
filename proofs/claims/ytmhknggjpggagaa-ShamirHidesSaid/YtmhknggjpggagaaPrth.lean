/- Contracts of the document's Places, Weight, Through. -/
import Derived.Test.YtmhknggjpggagaaPx
import Derived.Deep.CutRange
namespace Go.Proofs.Ytmhknggjpggagaa
open Go.ChangeShapes Go.WideShapes Go.ChangeAt Go.RowKit Go.Shelf GF
set_option linter.unusedVariables false
set_option maxRecDepth 100000

set_option maxHeartbeats 2000000 in
theorem rplaces_any (a : Option Addr) (L cap : Nat) (X : List GF) (w : World) (hx : Pa w a L cap X) :
    Calls Try.prog 17 #[.slice a L cap] w fun e w' => e = .returned (.int .i64 (plErr X)) ∧ Below w.heap.size w w' := by
  have hl := hx.len
  have hm : L ≤ 9223372036854775807 := by have := hx.1.2.2.2; unfold maxLen at this; omega
  rcases Nat.eq_zero_or_pos L with h0 | h0
  · have HP := Lib.hid (show plErr X = 5 by unfold plErr; rw [if_pos (by omega)])
    clear hx hl
    subst h0
    go_enter Try.func17, Try.ntmps17
    go_wp2
    go_ret
    exact ⟨ret_int HP.out.symm, Below.refl _ _⟩
  have q0 : ((L : Int) == 0) = false := by rw [beq_eq_false_iff_ne]; omega
  by_cases h255 : 255 < L
  · have HP := Lib.hid (show plErr X = 4 by unfold plErr; rw [if_neg (by omega), if_pos (by omega)])
    clear hx hl
    have q1 : (255 : Int) < (L : Int) := by omega
    go_enter Try.func17, Try.ntmps17
    go_wp2
    go_ret
    exact ⟨ret_int HP.out.symm, Below.refl _ _⟩
  have q1 : ¬ (255 : Int) < (L : Int) := by omega
  have HX := Lib.hid hx
  have HL := Lib.hid hl
  clear hx hl
  go_enter Try.func17, Try.ntmps17
  go_wp2
  go_loopw [13] (fun j wr => ∃ i : Nat, i ≤ L ∧ j = .int .i64 (i : Nat) ∧ Hid (ApTo X i) ∧ Hid (Below w.heap.size w wr))
    (fun j _ => L - (intOf j).toNat)
  case atStart => exact ⟨0, Nat.zero_le _, rfl, Lib.hid (fun i j hi _ => by omega), Lib.hid (Below.refl _ _)⟩
  case round =>
    obtain ⟨i, hi, rfl, hA, hB⟩ := hrel
    by_cases hlt : i < L
    · have q2 : (i : Int) < (L : Int) := by omega
      have q3 : (0 : Int) ≤ (i : Int) := by omega
      go_wp2
      go_loopw [4] (fun j wq => ∃ k : Nat, k ≤ i ∧ j = .int .i64 (k : Nat) ∧ Hid (∀ j, j < k → co X i ≠ co X j) ∧ Hid (Below w.heap.size w wq))
        (fun j _ => i - (intOf j).toNat)
      case atStart => exact ⟨0, Nat.zero_le _, rfl, Lib.hid (fun j hj => by omega), hB⟩
      case round =>
        obtain ⟨k, hk, rfl, hN, hB2⟩ := hrel
        by_cases hlt2 : k < i
        · obtain ⟨bx, ox, rfl, hbx, hci⟩ := (HX.out.on hB2.out).at_ hlt
          obtain ⟨bk, ok, he, hbk, hck⟩ := (HX.out.on hB2.out).at_ (show k < L by omega)
          cases he
          have q4 : (k : Int) < (i : Int) := by omega
          have q5 : (0 : Int) ≤ (k : Int) := by omega
          have q6 : (k : Int) < (L : Int) := by omega
          by_cases e : co X i = co X k
          · have q7 : (toI (co X i) == toI (co X k)) = true := by rw [e]; simp
            have HP := Lib.hid (show plErr X = 6 by unfold plErr; rw [if_neg (by rw [HL.out]; omega), if_neg (by rw [HL.out]; omega), if_neg (fun ha => ha i k (by rw [HL.out]; exact hlt) hlt2 e)])
            clear e
            go_wp2_with fail
            go_quiet (fail)
            go_wp2
            go_ret
            exact ⟨ret_int HP.out.symm, below_drewN hB2.out _⟩
          · have q7 : (toI (co X i) == toI (co X k)) = false := by rw [beq_eq_false_iff_ne]; exact fun h => e (toI_inj h)
            have HE := Lib.hid e
            clear e
            go_wp2_with fail
            go_quiet (fail)
            go_wp2
            go_roundw
            case rel => exact ⟨k + 1, by omega, by go_num, Lib.hid (fun j hj => by rcases Nat.lt_succ_iff_lt_or_eq.1 hj with h | h; exact hN.out j h; subst h; exact HE.out), Lib.hid (below_drewN hB2.out _)⟩
            case measure => simp [intOf]; omega
        · obtain rfl : i = k := by omega
          have hA2 : ApTo X (i + 1) := fun p q hp hq => by
            rcases Nat.lt_succ_iff_lt_or_eq.1 hp with h | h
            · exact hA.out p q h hq
            · subst h; exact hN.out q hq
          have HA2 := Lib.hid hA2
          clear hA2
          go_wp2
          go_roundw
          case rel => exact ⟨i + 1, by omega, by go_num, HA2, hB2⟩
          case measure => simp [intOf]; omega
    · obtain rfl : L = i := by omega
      have HP := Lib.hid (show plErr X = 0 from plErr_zero.2 ⟨by rw [HL.out]; omega, by rw [HL.out]; omega, by rw [← apTo_all, HL.out]; exact hA.out⟩)
      go_wp2
      go_ret
      exact ⟨ret_int HP.out.symm, hB.out⟩

set_option maxHeartbeats 2000000 in
theorem rweight_any (a : Option Addr) (L cap i : Nat) (X : List GF) (x : GF) (w : World) (hx : Pa w a L cap X) (hi : i < L) (hL : L ≤ 255) :
    Calls Try.prog 36 #[.slice a L cap, .int .i64 (i : Nat), .int .u8 (toI x)] w fun e w' => e = .returned (.int .u8 (toI (wt X i x))) ∧ Below w.heap.size w w' := by
  have HX := Lib.hid hx
  have HL := Lib.hid hx.len
  have hqi : (i : Int) < (L : Int) := by omega
  have hqi0 : (0 : Int) ≤ (i : Int) := by omega
  clear hx
  go_enter Try.func36, Try.ntmps36
  go_wp2
  go_loopw [11, 7] (fun j o wr => ∃ k : Nat, k ≤ L ∧ j = .int .i64 (k : Nat) ∧ o = .int .u8 (toI (wtA X i x k)) ∧ Hid (Below w.heap.size w wr))
    (fun j _ _ => L - (intOf j).toNat)
  case atStart => exact ⟨0, Nat.zero_le _, rfl, rfl, Lib.hid (Below.refl _ _)⟩
  case round =>
    obtain ⟨k, hk, rfl, rfl, hB⟩ := hrel
    by_cases hlt : k < L
    · obtain ⟨bx, ox, rfl, hbx, hci⟩ := (HX.out.on hB.out).at_ hi
      obtain ⟨bk, ok, he, hbk, hck⟩ := (HX.out.on hB.out).at_ hlt
      cases he
      have q2 : (k : Int) < (L : Int) := by omega
      have q3 : (0 : Int) ≤ (k : Int) := by omega
      by_cases e : k = i
      · have q4 : ((k : Int) != (i : Int)) = false := by rw [e]; simp
        have HT := Lib.hid (show wtA X i x (k + 1) = wtA X i x k by simp only [wtA]; rw [if_pos e])
        clear e
        go_wp2
        go_roundw
        case rel => exact ⟨k + 1, by omega, by go_num, by rw [HT.out], hB⟩
        case measure => simp [intOf]; omega
      · have q4 : ((k : Int) != (i : Int)) = true := by rw [bne_iff_ne]; omega
        have HT := Lib.hid (show wtA X i x (k + 1) = wtA X i x k * ((x + co X k) * GF.inv (co X i + co X k)) by simp only [wtA]; rw [if_neg e])
        clear e
        have hb1 := bits_xor_G x (co X k)
        have hb2 := bits_xor_G (co X i) (co X k)
        go_wp2_with fail
        go_quiet ((first
          | (go_at_call 49; exact Calls.quiet_of_same ((rinv_G _ _).mono fun _ _ ⟨he, hw⟩ => ⟨he, hw.symm⟩))
          | (go_at_call 35; exact Calls.quiet_of_same ((rmul_G _ _ _).mono fun _ _ ⟨he, hw⟩ => ⟨he, hw.symm⟩))))
        go_wp2
        go_roundw
        case rel => exact ⟨k + 1, by omega, by go_num, by rw [HT.out], Lib.hid (below_drewN hB.out _)⟩
        case measure => simp [intOf]; omega
    · obtain rfl : L = k := by omega
      have HT := Lib.hid (show wtA X i x L = wt X i x by unfold wt; rw [HL.out])
      go_wp2
      go_ret
      exact ⟨by rw [← HT.out]; rfl, hB.out⟩
end Go.Proofs.Ytmhknggjpggagaa
