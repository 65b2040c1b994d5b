/- Poly's products, sums, the document's own, the laws' lives: five texts in one. -/
import Derived.Test.YtmhknggjpggagaaPthr
import Derived.Deep.RegionHeld
import Derived.Deep.Cut
/- Contract of poly's Mul. -/
namespace Go.Proofs.Ytmhknggjpggagaa
open Go.ChangeShapes Go.WideShapes Go.ChangeAt Go.RowKit Go.Shelf GF
set_option linter.unusedVariables false
set_option maxRecDepth 100000

theorem tr_pos {P : List GF} (h : tr P ≠ []) : 0 < (tr P).length := List.length_pos_iff.2 h
/-- The product of two without noughts at their ends has none either. -/
theorem tr_mul_tr {P Q : List GF} (hp : tr P ≠ []) (hq : tr Q ≠ []) : tr (mulL P Q) = mulL (tr P) (tr Q) := by
  have h1 : tr (mulL P Q) = tr (mulL (tr P) (tr Q)) := tr_mulL_congr (fun k => (co_tr P k).symm) (fun k => (co_tr Q k).symm)
  rw [h1]
  apply tr_self
  right
  have a1 := tr_pos hp
  have a2 := tr_pos hq
  rw [length_mulL _ _ a1 a2, show (tr P).length + (tr Q).length - 1 - 1 = ((tr P).length - 1) + ((tr Q).length - 1) by omega, co_mulL_top (fun i hi => co_ge (by omega)) (fun i hi => co_ge (by omega)), co_tr, co_tr]
  exact GF.mul_ne (tr_last P hp) (tr_last Q hq)
theorem tr_mul_nil {P Q : List GF} (h : tr P = [] ∨ tr Q = []) : tr (mulL P Q) = [] := by
  rw [tr_nil]
  intro k
  rw [co_mulL]
  apply sm_zero
  intro i _
  rcases h with h | h
  · rw [tr_nil.1 h i, GF.zero_mul]
  · rw [tr_nil.1 h (k - i), GF.mul_zero]
/-- The product, the first k numbers of P taken in. -/
def mulA (P Q : List GF) (N : Nat) : Nat → List GF
  | 0 => List.replicate N 0
  | k + 1 => axp (mulA P Q N k) k (co P k) Q
theorem length_mulA (P Q : List GF) (N k : Nat) : (mulA P Q N k).length = N := by
  induction k with
  | zero => simp [mulA]
  | succ k ih => simp only [mulA]; rw [length_axp, ih]
theorem co_mulA {P Q : List GF} {N : Nat} (j : Nat) : ∀ k, k + Q.length ≤ N + 1 → co (mulA P Q N k) j = sm k fun i => if i ≤ j then co P i * co Q (j - i) else 0 := by
  intro k
  induction k with
  | zero => intro _; simp only [mulA, sm]; exact co_replicate _ _
  | succ k ih =>
    intro hk
    simp only [mulA, sm]
    rw [co_axp (by rw [length_mulA]; omega), ih (by omega)]
theorem mulA_all {P Q : List GF} (hp : 0 < P.length) (hq : 0 < Q.length) : mulA P Q (P.length + Q.length - 1) P.length = mulL P Q := by
  apply ext_co (by rw [length_mulA, length_mulL _ _ hp hq])
  intro j _
  rw [co_mulA j _ (by omega), co_mulL]
  have h1 : sm (max P.length (j + 1)) (fun i => if i ≤ j then co P i * co Q (j - i) else 0) = sm P.length (fun i => if i ≤ j then co P i * co Q (j - i) else 0) :=
    sm_more (Nat.le_max_left ..) (fun i h _ => by split; rw [co_ge h, GF.zero_mul]; rfl)
  have h2 : sm (max P.length (j + 1)) (fun i => if i ≤ j then co P i * co Q (j - i) else 0) = sm (j + 1) (fun i => if i ≤ j then co P i * co Q (j - i) else 0) :=
    sm_more (Nat.le_max_right ..) (fun i h _ => by rw [if_neg (by omega)])
  rw [← h1, h2]
  exact sm_congr fun i hi => by rw [if_pos (by omega)]

end Go.Proofs.Ytmhknggjpggagaa
/- Contract of poly's Add; the laws' lives. -/
namespace Go.Proofs.Ytmhknggjpggagaa
open Go.ChangeShapes Go.WideShapes Go.ChangeAt Go.RowKit Go.Shelf GF
set_option linter.unusedVariables false
set_option maxRecDepth 100000

/-- P, and noughts behind it. -/
def padL (P : List GF) (M : Nat) : List GF := P ++ List.replicate (M - P.length) 0
theorem length_padL {P : List GF} {M : Nat} (h : P.length ≤ M) : (padL P M).length = M := by simp [padL]; omega
theorem co_padL (P : List GF) (M k : Nat) : co (padL P M) k = co P k := by
  unfold padL
  by_cases h : k < P.length
  · simp [co, List.getD_eq_getElem?_getD, List.getElem?_append_left h]
  · rw [co_ge (l := P) (by omega)]
    have : co (P ++ List.replicate (M - P.length) 0) k = co (List.replicate (M - P.length) 0) (k - P.length) := by
      simp [co, List.getD_eq_getElem?_getD, List.getElem?_append_right (Nat.le_of_not_lt h)]
    rw [this, co_replicate]
theorem pad_row {w1 : World} {g M : Nat} {P : List GF} (hg : w1.heap[g]? = some (.cells (splice (madeCells #[Value.int .u8 0] M).toList 0 ((iL P).map (Value.int .u8))).toArray 5 (0, 0))) (hl : P.length ≤ M) (hm : M ≤ 140737488355328) :
    w1.ownsRow g 5 1 (.slice (some ⟨g, 0, none⟩) M M) M ((iL (padL P M)).map (Value.int .u8)) := by
  rw [splice_all, replicate_cells] at hg
  have e : ((iL P).map (Value.int .u8)) ++ ((List.replicate M (0 : Int)).map (Value.int .u8)).drop ((iL P).map (Value.int .u8)).length = (iL (padL P M)).map (Value.int .u8) := by
    simp [padL, iL, List.map_replicate, toI_zero]
  rw [e] at hg
  have hL : (iL (padL P M)).length = M := by rw [length_iL, length_padL hl]
  refine ⟨by simp [hL], .inr ⟨g, M, _, rfl, Nat.le_refl _, hg, Nat.le_refl _, by unfold maxLen; omega, by simp [hL], ?_⟩⟩
  rw [List.take_of_length_le (by simp [hL])]
theorem tr_sum {P Q : List GF} {M : Nat} (hP : P.length ≤ M) (hQ : Q.length ≤ M) : tr (axp (padL P M) 0 1 Q) = tr (addL P Q) := by
  apply tr_ext
  intro k
  rw [co_axp (by rw [length_padL hP]; omega), if_pos (Nat.zero_le _), Nat.sub_zero, co_padL, co_addL, GF.one_mul]

end Go.Proofs.Ytmhknggjpggagaa
/- Contracts of the document's own Trim, Eval, Mul. -/
namespace Go.Proofs.Ytmhknggjpggagaa
open Go.ChangeShapes Go.WideShapes Go.ChangeAt Go.RowKit Go.Shelf GF
set_option linter.unusedVariables false
set_option maxRecDepth 100000

theorem own_cut {w : World} {base : Nat} {e : TypeId} {g n c : Nat} {P : List GF} (h : w.ownsRow base e 1 (.slice (some ⟨g, 0, none⟩) n c) n ((iL P).map (Value.int .u8))) {m : Nat} (hm : m ≤ n) :
    w.ownsRow base e 1 (.slice (some ⟨g, 0, none⟩) m c) m ((iL (P.take m)).map (Value.int .u8)) := by
  have hl : P.length = n := by have := h.1; simpa [iL] using this
  rcases h.2 with ⟨h1, _⟩ | ⟨g', cap, cur, h1, h2, h3, h4, h5, h6, h7⟩
  · cases h1
  · cases h1
    refine ⟨by rw [List.length_map, length_iL, List.length_take, hl]; omega, .inr ⟨g, c, cur, rfl, h2, h3, by omega, h5, h6, ?_⟩⟩
    rw [iL_take, List.map_take, ← h7, List.take_take]
    congr 1
    omega

theorem take_tr {P : List GF} {k : Nat} (h : (tr P).length ≤ k) : tr (P.take k) = tr P := tr_ext fun j => by
  by_cases hj : j < k
  · exact co_take hj
  · rw [co_ge (by simp; omega)]
    exact (tr_len.1 h j (by omega)).symm

/-- x to the k-th; the first k terms of the value. -/
def pwA (x : GF) : Nat → GF
  | 0 => 1
  | k + 1 => pwA x k * x
def evA (P : List GF) (x : GF) : Nat → GF
  | 0 => 0
  | k + 1 => evA P x k + co P k * pwA x k
theorem evA_drop (P : List GF) (x : GF) : ∀ k, evA P x k + pwA x k * ev (P.drop k) x = ev P x := by
  intro k
  induction k with
  | zero => simp only [evA, pwA, List.drop_zero]; rw [GF.zero_add, GF.one_mul]
  | succ k ih =>
    rw [← ih, ev_drop P k x]
    simp only [evA, pwA]
    rw [GF.mul_add, GF.add_assoc, GF.mul_comm (co P k), GF.mul_assoc]
theorem evA_all (P : List GF) (x : GF) : evA P x P.length = ev P x := by
  have := evA_drop P x P.length
  rw [List.drop_length] at this
  rw [← this]
  simp only [ev]
  rw [GF.mul_zero, GF.add_zero]
theorem bits_xor_G (x y : GF) : bits .xor .u8 (toI x) (toI y) = toI (x + y) :=
  u8_xor _ _ (toI_bd x).1 (toI_bd x).2 (toI_bd y).1 (toI_bd y).2

set_option maxHeartbeats 1000000 in
theorem reval_any (a : Option Addr) (L cap : Nat) (P : List GF) (x : GF) (w : World) (hx : Pa w a L cap P) (hL : L ≤ 140737488355328) :
    Calls Try.prog 32 #[.slice a L cap, .int .u8 (toI x)] w fun e w' => e = .returned (.int .u8 (toI (ev P x))) ∧ w = w' := by
  have hl := hx.len
  have HX := Lib.hid hx
  have hcap := hx.1.2.2.2
  have HE := Lib.hid (show evA P x L = ev P x by rw [← hl]; exact evA_all P x)
  clear hx hl
  go_enter Try.func32, Try.ntmps32
  go_wp2
  go_loopw [11, 5, 6] (fun j o p wr => ∃ k : Nat, k ≤ L ∧ j = .int .i64 (k : Nat) ∧ o = .int .u8 (toI (evA P x k)) ∧ p = .int .u8 (toI (pwA x k)) ∧ wr = w)
    (fun j _ _ _ => L - (intOf j).toNat)
  case atStart => exact ⟨0, Nat.zero_le _, rfl, rfl, rfl, rfl⟩
  case round =>
    obtain ⟨k, hk, rfl, rfl, rfl, rfl⟩ := hrel
    by_cases hlt : k < L
    · obtain ⟨bx, ox, rfl, hbx, hcx⟩ := HX.out.at_ hlt
      have q2 : (k : Int) < (L : Int) := by omega
      have q3 : (0 : Int) ≤ (k : Int) := by omega
      have ho : evA P x (k + 1) = evA P x k + co P k * pwA x k := rfl
      have hp : pwA x (k + 1) = pwA x k * x := rfl
      have HO := Lib.hid ho; have HP := Lib.hid hp
      clear ho hp
      have hbt := fun (p q : GF) => bits_xor_G p q
      go_wp2_with (go_at_call 35; refine (rmul_G _ _ _).mono ?_; rintro e w' ⟨rfl, rfl⟩)
      go_roundw
      case rel => exact ⟨k + 1, by omega, by go_num, by rw [HO.out], by rw [HP.out], by trivial⟩
      case measure => simp [intOf]; omega
    · obtain rfl : L = k := by omega
      go_wp2
      go_ret
      exact ⟨by rw [← HE.out]; rfl, rfl⟩

end Go.Proofs.Ytmhknggjpggagaa
/- The laws' lives; small facts for the laws' walks. -/
namespace Go.Proofs.Ytmhknggjpggagaa
open Go.ChangeShapes Go.WideShapes Go.ChangeAt Go.RowKit Go.Shelf GF
set_option linter.unusedVariables false
set_option maxRecDepth 100000

theorem own_two (w : World) : (w.alloc (.cells #[.int .u8 1, .int .u8 2] 5)).ownsRow w.heap.size 5 1 (.slice (some ⟨w.heap.size, 0, none⟩) 2 2) 2 ((iL [toG 1, toG 2]).map (Value.int .u8)) :=
  World.ownsRow_lit (base := w.heap.size) (e := 5) (size := 1) w #[.int .u8 1, .int .u8 2] 2 (Nat.le_refl _) (by unfold maxLen; omega) rfl
/-- A polynomial made a string. -/
theorem Pa.str {w : World} {a : Option Addr} {n c : Nat} {P : List GF} (h : Pa w a n c P) : (convert 22 9 (.slice a n c)).run Try.prog w = .ok (.string (strOfNums (iL P))) w :=
  h.1.2.2.1.str h.1.1 Try.underlying22 Try.underlying5 Try.underlying9
theorem van12 : iL (vanA [toG 1, toG 2] 2) = [2, 3, 1] := by decide +kernel
theorem str231 : strOfNums [2, 3, 1] = { data := #[2, 3, 1] } := by decide +kernel
end Go.Proofs.Ytmhknggjpggagaa
/- The walk of PolyRules. -/
namespace Go.Proofs.Ytmhknggjpggagaa
open Go.ChangeShapes Go.WideShapes Go.ChangeAt Go.RowKit Go.Shelf GF
set_option linter.unusedVariables false
set_option maxRecDepth 100000

theorem toG_of {x : Int} (h : (Lit.int .u8 x).wf = true) : ∃ g : GF, x = toI g := ⟨toG x, (toI_toG (wf_u8 h)).symm⟩
theorem Pa.bd {w : World} {a : Option Addr} {L cap : Nat} {P : List GF} (h : Pa w a L cap P) : L ≤ cap ∧ cap ≤ 9223372036854775807 := ⟨h.1.2.2.2.1, by have := h.1.2.2.2.2; unfold maxLen at this; omega⟩
/-- What a row reads as, as a string, in whatever world comes after. -/
theorem Pa.str_on {w0 : World} {a : Option Addr} {n c : Nat} {P Q : List GF} (h : Pa w0 a n c P) (e : P = Q) : ∀ W, Below w0.heap.size w0 W → (convert 22 9 (.slice a n c)).run Try.prog W = .ok (.string (strOfNums (iL Q))) W := fun W hW => by
  subst e
  exact (h.on hW).str
/-- A slice out of a row of one's own. -/
theorem own_pa {w : World} {base : Nat} {e : TypeId} {v : Value} {n : Nat} {P : List GF} (h : w.ownsRow base e 1 v n ((iL P).map (Value.int .u8))) : ∃ a c, v = .slice a n c ∧ Pa w a n c P := by
  obtain ⟨a, c, e, hp, _⟩ := Pa.own h
  exact ⟨a, c, e, hp⟩

theorem mulL_len (P Q : List GF) : (mulL P Q).length ≤ P.length + Q.length := by
  induction P with
  | nil => simp [mulL]
  | cons a P ih => simp only [mulL]; rw [length_addL]; simp [smulL]; omega
theorem rules_eq (P Q O : List GF) : tr (addL (tr (mulL P O)) (tr (mulL Q O))) = tr (mulL (tr (addL P Q)) O) := by
  apply tr_ext
  intro k
  rw [co_addL, co_tr, co_tr, ← co_addL, ← co_tr (addL _ _), ← tr_mulL_add, co_tr, co_mulL, co_mulL]
  exact sm_congr fun i _ => by rw [co_tr]

end Go.Proofs.Ytmhknggjpggagaa
