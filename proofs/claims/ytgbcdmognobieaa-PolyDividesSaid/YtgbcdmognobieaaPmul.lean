/- Contract of poly's Mul. -/
import Derived.Test.YtgbcdmognobieaaPthr
namespace Go.Proofs.Ytgbcdmognobieaa
open Go.ChangeShapes Go.WideShapes Go.ChangeAt Go.RowKit Go.Shelf GF
set_option linter.unusedVariables false

theorem tr_pos {P : List GF} (h : tr P ≠ []) : 0 < (tr P).length := List.length_pos_iff.2 h
/-- The product of two without noughts at their ends has none either. -/
theorem tr_mul_tr {P Q : List GF} (hp : tr P ≠ []) (hq : tr Q ≠ []) : tr (mulL P Q) = mulL (tr P) (tr Q) := by
  have h1 : tr (mulL P Q) = tr (mulL (tr P) (tr Q)) := tr_mulL_congr (fun k => (co_tr P k).symm) (fun k => (co_tr Q k).symm)
  rw [h1]
  apply tr_self
  right
  have a1 := tr_pos hp
  have a2 := tr_pos hq
  rw [length_mulL _ _ a1 a2, show (tr P).length + (tr Q).length - 1 - 1 = ((tr P).length - 1) + ((tr Q).length - 1) by omega, co_mulL_top (fun i hi => co_ge (by omega)) (fun i hi => co_ge (by omega)), co_tr, co_tr]
  exact GF.mul_ne (tr_last P hp) (tr_last Q hq)
theorem tr_mul_nil {P Q : List GF} (h : tr P = [] ∨ tr Q = []) : tr (mulL P Q) = [] := by
  rw [tr_nil]
  intro k
  rw [co_mulL]
  apply sm_zero
  intro i _
  rcases h with h | h
  · rw [tr_nil.1 h i, GF.zero_mul]
  · rw [tr_nil.1 h (k - i), GF.mul_zero]
/-- The product, the first k numbers of P taken in. -/
def mulA (P Q : List GF) (N : Nat) : Nat → List GF
  | 0 => List.replicate N 0
  | k + 1 => axp (mulA P Q N k) k (co P k) Q
theorem length_mulA (P Q : List GF) (N k : Nat) : (mulA P Q N k).length = N := by
  induction k with
  | zero => simp [mulA]
  | succ k ih => simp only [mulA]; rw [length_axp, ih]
theorem co_mulA {P Q : List GF} {N : Nat} (j : Nat) : ∀ k, k + Q.length ≤ N + 1 → co (mulA P Q N k) j = sm k fun i => if i ≤ j then co P i * co Q (j - i) else 0 := by
  intro k
  induction k with
  | zero => intro _; simp only [mulA, sm]; exact co_replicate _ _
  | succ k ih =>
    intro hk
    simp only [mulA, sm]
    rw [co_axp (by rw [length_mulA]; omega), ih (by omega)]
theorem mulA_all {P Q : List GF} (hp : 0 < P.length) (hq : 0 < Q.length) : mulA P Q (P.length + Q.length - 1) P.length = mulL P Q := by
  apply ext_co (by rw [length_mulA, length_mulL _ _ hp hq])
  intro j _
  rw [co_mulA j _ (by omega), co_mulL]
  have h1 : sm (max P.length (j + 1)) (fun i => if i ≤ j then co P i * co Q (j - i) else 0) = sm P.length (fun i => if i ≤ j then co P i * co Q (j - i) else 0) :=
    sm_more (Nat.le_max_left ..) (fun i h _ => by split; rw [co_ge h, GF.zero_mul]; rfl)
  have h2 : sm (max P.length (j + 1)) (fun i => if i ≤ j then co P i * co Q (j - i) else 0) = sm (j + 1) (fun i => if i ≤ j then co P i * co Q (j - i) else 0) :=
    sm_more (Nat.le_max_right ..) (fun i h _ => by rw [if_neg (by omega)])
  rw [← h1, h2]
  exact sm_congr fun i hi => by rw [if_pos (by omega)]

theorem mul_nofield (u v : Value) (w : World) : Calls Try.prog 11 #[.pointer none, u, v] w fun e w' => e = .returned (.tuple #[.slice none 0 0, .int .i64 1]) ∧ w = w' := by
  go_enter Try.func11, Try.ntmps11
  go_wp2
  go_ret2
  exact ⟨rfl, rfl⟩

theorem mul_zero_any (b : Nat) (a : Option Addr) (L cap : Nat) (P : List GF) (a2 : Option Addr) (L2 cap2 : Nat) (Q : List GF) (w : World) (hx : Pa w a L cap P) (hy : Pa w a2 L2 cap2 Q) (hL : L ≤ 140737488355328) (hL2 : L2 ≤ 140737488355328) (h0 : tr P = [] ∨ tr Q = []) :
    Calls Try.prog 11 #[.pointer (some ⟨b, 0, none⟩), .slice a L cap, .slice a2 L2 cap2] w fun e w' => e = .returned (.tuple #[.slice none 0 0, .int .i64 0]) ∧ Below w.heap.size w w' := by
  have HX := Lib.hid hx
  have HY := Lib.hid hy
  clear hx hy
  obtain ⟨n, hn⟩ : ∃ n, n = (tr P).length := ⟨_, rfl⟩
  obtain ⟨m, hm⟩ : ∃ m, m = (tr Q).length := ⟨_, rfl⟩
  have hP : ∀ w1 : World, Below w.heap.size w w1 → Calls Try.prog 29 #[.slice a L cap] w1 fun e w' => e = .returned (.slice a n cap) ∧ Below w1.heap.size w1 w' := fun w1 hb => by rw [hn]; exact trimmed_8 a L cap P w1 (HX.out.on hb).1 hL
  have hQ : ∀ w1 : World, Below w.heap.size w w1 → Calls Try.prog 29 #[.slice a2 L2 cap2] w1 fun e w' => e = .returned (.slice a2 m cap2) ∧ Below w1.heap.size w1 w' := fun w1 hb => by rw [hm]; exact trimmed_8 a2 L2 cap2 Q w1 (HY.out.on hb).1 hL2
  have HP := Lib.hid hP
  have HQ := Lib.hid hQ
  clear hP hQ
  by_cases hn0 : n = 0
  · have q1 : ((n : Int) == 0) = true := by rw [hn0]; rfl
    clear h0 hn hm hn0
    go_enter Try.func11, Try.ntmps11
    go_wp2_with (first
      | (go_at_call 29; with_reducible refine (HP.out _ (Below.refl _ _)).mono ?_; rintro e w1 ⟨rfl, hb1⟩)
      | (go_at_call 29; with_reducible refine (HQ.out _ hb1).mono ?_; rintro e w2 ⟨rfl, hb2⟩))
    go_ret2
    exact ⟨rfl, bt hb1 hb2⟩
  · have hm0 : m = 0 := by
      rcases h0 with h0 | h0
      · exact absurd (by rw [hn, h0]; rfl) hn0
      · rw [hm, h0]; rfl
    have q1 : ((n : Int) == 0) = false := by rw [beq_eq_false_iff_ne]; omega
    have q2 : ((m : Int) == 0) = true := by rw [hm0]; rfl
    clear h0 hn hm hn0 hm0
    go_enter Try.func11, Try.ntmps11
    go_wp2_with (first
      | (go_at_call 29; with_reducible refine (HP.out _ (Below.refl _ _)).mono ?_; rintro e w1 ⟨rfl, hb1⟩)
      | (go_at_call 29; with_reducible refine (HQ.out _ hb1).mono ?_; rintro e w2 ⟨rfl, hb2⟩))
    go_ret2
    exact ⟨rfl, bt hb1 hb2⟩
theorem mul_long (b : Nat) (a : Option Addr) (L cap : Nat) (P : List GF) (a2 : Option Addr) (L2 cap2 : Nat) (Q : List GF) (w : World) (hx : Pa w a L cap P) (hy : Pa w a2 L2 cap2 Q) (hL : L ≤ 140737488355328) (hL2 : L2 ≤ 140737488355328) (hp : tr P ≠ []) (hq : tr Q ≠ []) (hlong : 257 < (tr P).length + (tr Q).length) :
    Calls Try.prog 11 #[.pointer (some ⟨b, 0, none⟩), .slice a L cap, .slice a2 L2 cap2] w fun e w' => e = .returned (.tuple #[.slice none 0 0, .int .i64 4]) ∧ Below w.heap.size w w' := by
  have hn1 := tr_pos hp
  have hm1 := tr_pos hq
  have hn2 := tr_len_le P
  have hm2 := tr_len_le Q
  rw [hx.len] at hn2
  rw [hy.len] at hm2
  have HX := Lib.hid hx
  have HY := Lib.hid hy
  clear hx hy hp hq
  obtain ⟨n, hn⟩ : ∃ n, n = (tr P).length := ⟨_, rfl⟩
  obtain ⟨m, hm⟩ : ∃ m, m = (tr Q).length := ⟨_, rfl⟩
  have hP : ∀ w1 : World, Below w.heap.size w w1 → Calls Try.prog 29 #[.slice a L cap] w1 fun e w' => e = .returned (.slice a n cap) ∧ Below w1.heap.size w1 w' := fun w1 hb => by rw [hn]; exact trimmed_8 a L cap P w1 (HX.out.on hb).1 hL
  have hQ : ∀ w1 : World, Below w.heap.size w w1 → Calls Try.prog 29 #[.slice a2 L2 cap2] w1 fun e w' => e = .returned (.slice a2 m cap2) ∧ Below w1.heap.size w1 w' := fun w1 hb => by rw [hm]; exact trimmed_8 a2 L2 cap2 Q w1 (HY.out.on hb).1 hL2
  have HP := Lib.hid hP
  have HQ := Lib.hid hQ
  rw [← hn] at hn1 hlong hn2
  rw [← hm] at hm1 hlong hm2
  have q1 : ((n : Int) == 0) = false := by rw [beq_eq_false_iff_ne]; omega
  have q2 : ((m : Int) == 0) = false := by rw [beq_eq_false_iff_ne]; omega
  have q3 : (256 : Int) < (n : Int) + (m : Int) - 1 := by omega
  clear hP hQ hn hm
  go_enter Try.func11, Try.ntmps11
  go_wp2_with (first
    | (go_at_call 29; with_reducible refine (HP.out _ (Below.refl _ _)).mono ?_; rintro e w1 ⟨rfl, hb1⟩)
    | (go_at_call 29; with_reducible refine (HQ.out _ hb1).mono ?_; rintro e w2 ⟨rfl, hb2⟩))
  go_ret2
  exact ⟨rfl, bt hb1 hb2⟩

set_option maxHeartbeats 1000000 in
theorem mul_short (b : Nat) (a : Option Addr) (L cap : Nat) (P : List GF) (a2 : Option Addr) (L2 cap2 : Nat) (Q : List GF) (w : World) (hf : Fld w b) (hx : Pa w a L cap P) (hy : Pa w a2 L2 cap2 Q) (hL : L ≤ 140737488355328) (hL2 : L2 ≤ 140737488355328) (hp : tr P ≠ []) (hq : tr Q ≠ []) (hsh : (tr P).length + (tr Q).length ≤ 257) :
    Calls Try.prog 11 #[.pointer (some ⟨b, 0, none⟩), .slice a L cap, .slice a2 L2 cap2] w fun e w' => ∃ v, e = .returned (.tuple #[v, .int .i64 0]) ∧
      w'.ownsRow w.heap.size 5 1 v (tr (mulL P Q)).length ((iL (tr (mulL P Q))).map (Value.int .u8)) ∧ Below w.heap.size w w' := by
  have hn1 := tr_pos hp
  have hm1 := tr_pos hq
  have hall := mulA_all hn1 hm1
  have hlen := length_mulL (tr P) (tr Q) hn1 hm1
  have HX := Lib.hid hx
  have HY := Lib.hid hy
  have HF := Lib.hid hf
  have hcap := hx.1.2.2.2
  have hcap2 := hy.1.2.2.2
  have htr := Lib.hid (tr_mul_tr hp hq)
  clear hx hy hp hq hf
  obtain ⟨n, hn⟩ : ∃ n, n = (tr P).length := ⟨_, rfl⟩
  obtain ⟨m, hm⟩ : ∃ m, m = (tr Q).length := ⟨_, rfl⟩
  have hP : ∀ w1 : World, Below w.heap.size w w1 → Calls Try.prog 29 #[.slice a L cap] w1 fun e w' => e = .returned (.slice a n cap) ∧ Below w1.heap.size w1 w' := fun w1 hb => by rw [hn]; exact trimmed_8 a L cap P w1 (HX.out.on hb).1 hL
  have hQ : ∀ w1 : World, Below w.heap.size w w1 → Calls Try.prog 29 #[.slice a2 L2 cap2] w1 fun e w' => e = .returned (.slice a2 m cap2) ∧ Below w1.heap.size w1 w' := fun w1 hb => by rw [hm]; exact trimmed_8 a2 L2 cap2 Q w1 (HY.out.on hb).1 hL2
  have HP := Lib.hid hP
  have HQ := Lib.hid hQ
  have hXt := HX.out.trim
  have hYt := HY.out.trim
  rw [← hn] at hn1 hsh hall hlen hXt
  rw [← hm] at hm1 hsh hall hlen hYt
  obtain ⟨N, hN⟩ : ∃ N, N = n + m - 1 := ⟨_, rfl⟩
  rw [← hN] at hall hlen
  have HXt := Lib.hid hXt
  have HYt := Lib.hid hYt
  have HA := Lib.hid hall
  have HLn := Lib.hid hlen
  have Hn := Lib.hid hn
  have Hm := Lib.hid hm
  have q1 : ((n : Int) == 0) = false := by rw [beq_eq_false_iff_ne]; omega
  have q2 : ((m : Int) == 0) = false := by rw [beq_eq_false_iff_ne]; omega
  have q3 : (n : Int) + (m : Int) - 1 = (N : Int) := by omega
  have q4 : N ≤ 256 := by omega
  have hmk := run_make_row' (P := Try.prog) 22 5 (.int .u8 0) 1 Try.underlying22 info5 rfl .i64 .i64 N (by omega) (by omega)
  have HNe := Lib.hid hN
  clear hP hQ hn hm hXt hYt hall hlen hN
  go_enter Try.func11, Try.ntmps11
  go_wp2_with (first
    | (go_at_call 29; with_reducible refine (HP.out _ (Below.refl _ _)).mono ?_; rintro e w1 ⟨rfl, hb1⟩)
    | (go_at_call 29; with_reducible refine (HQ.out _ hb1).mono ?_; rintro e w2 ⟨rfl, hb2⟩))
  have hb12 := bt hb1 hb2
  obtain ⟨g, hg⟩ : ∃ g, g = w2.heap.size := ⟨_, rfl⟩
  have hmade := own_made (w := w2) (e := 5) (n := N) (by unfold maxLen; omega)
  have HO0 := Lib.hid (own_base hmade hb12.size)
  have HW0 := Lib.hid (hb12.alloc hb12.size (.cells (madeCells #[.int .u8 0] N) 5))
  have hgw : w.heap.size ≤ g := by rw [hg]; exact hb12.size
  rw [← hg] at HO0 ⊢
  clear hmade hg hb12 hb1 hb2
  go_loopw [38] (fun j wr => ∃ k : Nat, k ≤ n ∧ j = .int .i64 (k : Nat) ∧ Hid (wr.ownsRow w.heap.size 5 1 (.slice (some ⟨g, 0, none⟩) N N) N ((iL (mulA (tr P) (tr Q) N k)).map (Value.int .u8))) ∧ Hid (Below w.heap.size w wr))
    (fun j _ => n - (intOf j).toNat)
  case atStart =>
    refine ⟨0, Nat.zero_le _, rfl, Lib.hid ?_, HW0⟩
    have : iL (mulA (tr P) (tr Q) N 0) = List.replicate N 0 := by simp only [mulA, iL, List.map_replicate, toI_zero]
    rw [this]
    exact HO0.out
  case round =>
    obtain ⟨k, hk, rfl, hR, hB⟩ := hrel
    by_cases hlt : k < n
    · obtain ⟨bx, ox, rfl, hbx, hcx⟩ := (HXt.out.on hB.out).at_ hlt
      have q5 : (k : Int) < (n : Int) := by omega
      have q6 : (0 : Int) ≤ (k : Int) := by omega
      have q7 : (k : Int) < (N : Int) := by have := HNe.out; omega
      have q8 : k < N := by omega
      have q9 : m ≤ N - k := by have := HNe.out; omega
      have q10 : k + m ≤ N := by have := HNe.out; omega
      have hbb : b < w.heap.size := HF.out.1
      go_wp2_with (go_at_call 30; go_loud (refine (addTimes_any b g k (N - k) (N - k) N N w.heap.size (co (tr P) k) a2 m cap2 (mulA (tr P) (tr Q) N k) (tr Q) _ (HF.out.below hB.out) (by omega) hR.out (Pn.below HYt.out.1.2.2.1 hB.out hgw) Hm.out.symm q9 q10 (by omega)).mono ?_); rintro e w3 ⟨rfl, hown3, hg3⟩; have hr3 := Lib.hid hown3; have H3 := Lib.hid (hB.out.trans (grown_below hg3 hgw hB.out.size)); clear hown3 hg3)
      go_roundw
      case rel => exact ⟨k + 1, by omega, by go_num, Lib.hid hr3.out, Lib.hid H3.out⟩
      case measure => simp [intOf]; omega
    · obtain rfl : n = k := by omega
      have he : mulA (tr P) (tr Q) N n = tr (mulL P Q) := by rw [htr.out]; exact HA.out
      rw [he] at hR
      have hlen : (tr (mulL P Q)).length = N := by rw [htr.out]; exact HLn.out
      have HE := Lib.hid hlen
      clear he hlen
      go_wp2
      go_ret2
      exact ⟨_, rfl, by rw [HE.out]; exact hR.out, hB.out⟩
/-- The product, whatever it is, if it is no longer than it may be. -/
theorem mul_any (b : Nat) (a : Option Addr) (L cap : Nat) (P : List GF) (a2 : Option Addr) (L2 cap2 : Nat) (Q : List GF) (w : World) (hf : Fld w b) (hx : Pa w a L cap P) (hy : Pa w a2 L2 cap2 Q) (hsh : L + L2 ≤ 257) :
    Calls Try.prog 11 #[.pointer (some ⟨b, 0, none⟩), .slice a L cap, .slice a2 L2 cap2] w fun e w' => ∃ v, e = .returned (.tuple #[v, .int .i64 0]) ∧
      w'.ownsRow w.heap.size 5 1 v (tr (mulL P Q)).length ((iL (tr (mulL P Q))).map (Value.int .u8)) ∧ Below w.heap.size w w' := by
  by_cases h0 : tr P = [] ∨ tr Q = []
  · refine (mul_zero_any b a L cap P a2 L2 cap2 Q w hx hy (by omega) (by omega) h0).mono ?_
    rintro e w' ⟨rfl, hb⟩
    rw [tr_mul_nil h0]
    exact ⟨_, rfl, World.ownsRow_nil _ _ _ _, hb⟩
  · have h1 : tr P ≠ [] := fun h => h0 (.inl h)
    have h2 : tr Q ≠ [] := fun h => h0 (.inr h)
    have := tr_len_le P
    have := tr_len_le Q
    have := hx.len
    have := hy.len
    exact mul_short b a L cap P a2 L2 cap2 Q w hf hx hy (by omega) (by omega) h1 h2 (by omega)
end Go.Proofs.Ytgbcdmognobieaa
