/- Contracts of code's possible, and value: what rows tell of a place, whether the place is one of theirs or not. -/
import Derived.Test.YtmhjpdppippgkaaQ4
import Derived.Test.YtmhjpdppippgkaaEc
namespace Go.Proofs.Ytmhjpdppippgkaa
open Go.ChangeShapes Go.WideShapes Go.ChangeAt Go.RowKit Go.Shelf GF
set_option linter.unusedVariables false
set_option linter.unusedSimpArgs false
set_option maxRecDepth 100000

theorem can_yes (n : Int) (w : World) (h1 : 1 ≤ n) (h2 : n ≤ 255) :
    Calls Try.prog 24 #[.int .i64 n] w fun e w' => e = .returned (.bool true) ∧ w = w' := by
  go_enter Try.func24, Try.ntmps24
  go_wp2
  go_ret
  exact ⟨rfl, rfl⟩
theorem can_no (n : Int) (w : World) (h : n < 1 ∨ 255 < n) :
    Calls Try.prog 24 #[.int .i64 n] w fun e w' => e = .returned (.bool false) ∧ w = w' := by
  by_cases h1 : 1 ≤ n
  · have h2 : ¬ n ≤ 255 := by omega
    clear h
    go_enter Try.func24, Try.ntmps24
    go_wp2
    go_ret
    exact ⟨rfl, rfl⟩
  · clear h
    go_enter Try.func24, Try.ntmps24
    go_wp2
    go_ret
    exact ⟨rfl, rfl⟩
/-- Where y stands first, if it does. -/
theorem indexY_any (a : Option Addr) (L cap : Nat) (X : List GF) (y : GF) (j : Nat) (r : Int) (w : World) (hx : Pa w a L cap X) (hj : j ≤ L) (hn : ∀ k, k < j → co X k ≠ y) (hz : j < L → co X j = y) (hr : (j < L → r = (j : Int)) ∧ (j = L → r = -1)) :
    Calls Try.prog 47 #[.slice a L cap, .int .u8 (toI y)] w fun e w' => e = .returned (.int .i64 r) ∧ w = w' := by
  have HX := Lib.hid hx
  have HN := Lib.hid hn
  have HZ := Lib.hid hz
  have HR := Lib.hid hr
  have hcap := hx.bd
  obtain ⟨u, hu⟩ : ∃ u, u = toI y := ⟨_, rfl⟩
  have HU := Lib.hid hu
  rw [← hu]
  clear hx hn hz hr hu
  go_enter Try.func47, Try.ntmps47
  go_wp2
  go_loopw [8] (fun i wr => ∃ k : Nat, k ≤ j ∧ i = .int .i64 (k : Nat) ∧ wr = w)
    (fun i _ => L - (intOf i).toNat)
  case atStart => exact ⟨0, Nat.zero_le _, rfl, rfl⟩
  case round =>
    obtain ⟨k, hk, rfl, rfl⟩ := hrel
    by_cases hlt : k < L
    · obtain ⟨bx, ox, rfl, hbx, hcx⟩ := HX.out.at_ hlt
      have q2 : (k : Int) < (L : Int) := by omega
      have q3 : (0 : Int) ≤ (k : Int) := by omega
      by_cases e : k = j
      · have hc0 : co X k = y := by rw [e]; exact HZ.out (by omega)
        rw [hc0, ← HU.out] at hcx
        have q4 : r = (k : Int) := by rw [HR.out.1 (by omega), e]
        have Q4 := Lib.hid q4
        clear hc0 e q4
        go_wp2
        go_ret
        exact ⟨by rw [Q4.out]; rfl, rfl⟩
      · have hc0 := HN.out k (by omega)
        obtain ⟨v, hv⟩ : ∃ v, v = toI (co X k) := ⟨_, rfl⟩
        have q5 : v ≠ u := fun h => hc0 (toI_inj (by rw [← hv, h, HU.out]))
        have q6 : (v == u) = false := by rw [beq_eq_false_iff_ne]; exact q5
        have q7 : (u == v) = false := by rw [beq_eq_false_iff_ne]; exact Ne.symm q5
        have hk1 : k + 1 ≤ j := by omega
        rw [← hv] at hcx
        clear hc0 q5 e hv
        go_wp2
        go_roundw
        case rel => exact ⟨k + 1, by omega, by go_num, by trivial⟩
        case measure => simp [intOf]; omega
    · have q4 : r = -1 := HR.out.2 (by omega)
      have Q4 := Lib.hid q4
      obtain rfl : L = k := by omega
      clear q4
      go_wp2
      go_ret
      exact ⟨by rw [Q4.out]; rfl, rfl⟩
theorem firstY (X : List GF) (y : GF) (L : Nat) : ∃ j, j ≤ L ∧ (∀ k, k < j → co X k ≠ y) ∧ (j < L → co X j = y) := by
  induction L with
  | zero => exact ⟨0, Nat.le_refl _, fun k hk => absurd hk (by omega), fun h => absurd h (by omega)⟩
  | succ L ih =>
    obtain ⟨j, h1, h2, h3⟩ := ih
    by_cases h : j < L
    · exact ⟨j, by omega, h2, fun _ => h3 h⟩
    · obtain rfl : j = L := by omega
      by_cases h0 : co X j = y
      · exact ⟨j, by omega, h2, fun _ => h0⟩
      · exact ⟨j + 1, Nat.le_refl _, fun k hk => by
          rcases Nat.lt_succ_iff_lt_or_eq.1 hk with h4 | h4
          · exact h2 k h4
          · rw [h4]; exact h0, fun h => absurd h (by omega)⟩
/-- At a place of theirs rows tell the row there. -/
theorem at_mine {X : List GF} {R : Nat → List GF} {n i : Nat} (hX : Apart X) (hi : i < X.length) (hn : (R i).length = n) : atR X R (co X i) n = R i := by
  refine ext_co (by rw [atR_len, hn]) fun j hj => ?_
  rw [atR_len] at hj
  rw [atR_co hj]
  have e := ev_lag X ((List.range X.length).map fun k => co (R k) j) (co X i)
  have c : ∀ k, k < X.length → co ((List.range X.length).map fun k => co (R k) j) k = co (R k) j := fun k hk => by
    show List.getD _ _ _ = _
    simp [List.getD_eq_getElem?_getD, hk]
  rw [ev_lag_at hX hi, c i hi] at e
  rw [e]
  exact sm_congr fun k hk => by rw [c k hk, mul_comm]
set_option maxHeartbeats 1000000 in
theorem valueO (b L n : Nat) (aX : Option Addr) (cX : Nat) (X : List GF) (aR : Option Addr) (cR : Nat) (R : List (List GF)) (x : GF) (w : World) (hf : Fld w b) (hX : Pa w aX L cX X) (hR : Mat w aR L cR R) (hA : Apart X) (hL1 : 1 ≤ L) (hL : L ≤ 255) (hw : ∀ k, k < L → (rw_ R k).length = n) (hn : n ≤ 1000) :
    Calls Try.prog 41 #[.pointer (some ⟨b, 0, none⟩), .slice aX L cX, .slice aR L cR, .int .u8 (toI x)] w fun e w' =>
      ∃ v, e = .returned v ∧ w'.ownsRow w.heap.size 5 1 v n ((iL (atR X (rw_ R) x n)).map (Value.int .u8)) ∧ Below w.heap.size w w' := by
  obtain ⟨j, h1, h2, h3⟩ := firstY X x L
  have hb1 := hX.bd
  have hb2 := hR.bd
  by_cases hj : j < L
  · have HI := Lib.hid (indexY_any aX L cX X x j (j : Int) w hX h1 h2 h3 ⟨fun _ => rfl, fun e => absurd e (by omega)⟩)
    obtain ⟨bx, ox, a1, c1, rfl, hbx, hc1, hp1⟩ := hR.row hj
    have HE := Lib.hid (show atR X (rw_ R) x n = rw_ R j by rw [← h3 hj]; exact at_mine hA (by rw [hX.len]; exact hj) (hw j hj))
    have HC := Lib.hid (clone_any a1 _ c1 (rw_ R j) w hp1 (by rw [hw j hj]; omega))
    have hbd := hp1.bd
    rw [hw j hj] at hc1 HC hbd
    have q0 : (0 : Int) ≤ (j : Int) := by omega
    have q1 : (j : Int) < (L : Int) := by omega
    clear hf hX hR hA hL1 hw hn h1 h2 h3 hp1 hj
    go_enter Try.func41, Try.ntmps41
    go_wp2_with (first
      | (go_at_call 47; refine HI.out.mono ?_; rintro e w' ⟨rfl, rfl⟩)
      | (go_at_call 48; go_loud (refine HC.out.mono ?_; rintro e w2 ⟨v, rfl, ho, hb⟩; obtain ⟨a2, c2, hv2, _, _, _, _, _⟩ := own_form ho; subst hv2; have HO := Lib.hid ho; have HB := Lib.hid hb; clear ho hb)))
    go_ret
    exact ⟨_, rfl, by rw [HE.out]; exact HO.out, HB.out⟩
  · have HI := Lib.hid (indexY_any aX L cX X x j (-1) w hX h1 h2 h3 ⟨fun h => absurd h hj, fun _ => rfl⟩)
    have HT := Lib.hid (atO b L n aX cX X aR cR R x w hf hX hR hA hL1 hL hw hn)
    clear hf hX hR hA hL1 hw hn h1 h2 h3 hj
    go_enter Try.func41, Try.ntmps41
    go_wp2_with (first
      | (go_at_call 47; refine HI.out.mono ?_; rintro e w' ⟨rfl, rfl⟩)
      | (go_at_call 49; go_loud (refine HT.out.mono ?_; rintro e w2 ⟨g, rfl, ho, hb⟩; have HO := Lib.hid ho; have HB := Lib.hid hb; clear ho hb)))
    go_ret
    exact ⟨_, rfl, HO.out, HB.out⟩
end Go.Proofs.Ytmhjpdppippgkaa
