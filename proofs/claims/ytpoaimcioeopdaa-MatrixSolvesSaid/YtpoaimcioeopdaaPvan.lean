/- Contracts of poly's withRoot, Vanish. -/
import Derived.Test.YtpoaimcioeopdaaPadd
namespace Go.Proofs.Ytpoaimcioeopdaa
open Go.ChangeShapes Go.WideShapes Go.ChangeAt Go.RowKit Go.Shelf GF
set_option linter.unusedVariables false
set_option maxRecDepth 100000

/-- P, times x less r. -/
def rootL (P : List GF) (r : GF) : List GF := axp (0 :: P) 0 r P
theorem length_rootL (P : List GF) (r : GF) : (rootL P r).length = P.length + 1 := by unfold rootL; rw [length_axp]; rfl
theorem co_rootL (P : List GF) (r : GF) (k : Nat) : co (rootL P r) k = co (0 :: P) k + r * co P k := by
  unfold rootL
  rw [co_axp (by simp), if_pos (Nat.zero_le _), Nat.sub_zero]
theorem rootL_mul (P : List GF) (r : GF) (h : 0 < P.length) : rootL P r = mulL P (lin r 1) := by
  apply ext_co (by rw [length_rootL, length_mulL _ _ h (by simp [lin])]; simp [lin])
  intro k _
  have hl0 : co (lin r 1) 0 = r := by simp only [lin]; rw [co_cons_zero, GF.one_mul]
  have hl1 : co (lin r 1) 1 = 1 := by simp only [lin]; rw [co_cons_succ, co_cons_zero]
  rw [co_rootL, co_mulL]
  cases k with
  | zero =>
    simp only [sm]
    rw [co_cons_zero, GF.zero_add, GF.zero_add, hl0, GF.mul_comm]
  | succ k =>
    simp only [sm]
    rw [sm_zero (fun i hi => by rw [co_lin_ge _ _ (by omega), GF.mul_zero]), GF.zero_add, show k + 1 - k = 1 by omega, Nat.sub_self, hl0, hl1, co_cons_succ, GF.mul_one, GF.mul_comm]

theorem splice_one {α : Type} (z : α) (cs : List α) : splice (z :: List.replicate cs.length z) 1 cs = z :: cs := by
  simp [splice]
  omega

theorem Pn.below {w w' : World} {B g : Nat} {a : Option Addr} {P : List GF} (h : Bs w B a (iL P)) (hb : Below B w w') (hB : B ≤ g) : Pn w' g a P := Pn.of (h.below hb) hB
theorem made_row {w1 : World} {g M L : Nat} {P : List GF} (hg : w1.heap[g]? = some (.cells (splice (madeCells #[Value.int .u8 0] M).toList 1 ((iL P).map (Value.int .u8))).toArray 5 (0, 0)))
    (hc : (madeCells #[Value.int .u8 0] M).toList = (Value.int .u8 0) :: List.replicate ((iL P).map (Value.int .u8)).length (Value.int .u8 0)) (hl : P.length = L) (hM : M = L + 1) (hm : M ≤ 140737488355328) :
    w1.ownsRow g 5 1 (.slice (some ⟨g, 0, none⟩) M M) M ((iL (0 :: P)).map (Value.int .u8)) := by
  rw [hc, splice_one] at hg
  refine ⟨by simp [iL, hl, hM], .inr ⟨g, M, _, rfl, Nat.le_refl _, hg, Nat.le_refl _, by unfold maxLen; omega, by simp [iL, hl, hM], ?_⟩⟩
  rw [List.take_of_length_le (by simp [iL, hl, hM])]
  rfl

theorem Pa.own2 {w : World} {base : Nat} {e : TypeId} {g n c : Nat} {P : List GF} (h : w.ownsRow base e 1 (.slice (some ⟨g, 0, none⟩) n c) n ((iL P).map (Value.int .u8))) : Pa w (some ⟨g, 0, none⟩) n c P := by
  obtain ⟨a', c', e, hp, _⟩ := Pa.own h
  cases e
  exact hp
theorem Pa.at_ {w : World} {a : Option Addr} {L cap : Nat} {P : List GF} {k : Nat} (h : Pa w a L cap P) (hk : k < L) : ∃ b off, a = some ⟨b, off, none⟩ ∧ b < w.heap.size ∧ w.cell? ⟨b, off + k, none⟩ = some (.int .u8 (toI (co P k))) := by
  have hl := h.len
  obtain ⟨b, off, e, hb, hc⟩ := h.1.2.2.1 (by rw [length_iL]; omega)
  exact ⟨b, off, e, hb, by rw [hc k (by rw [length_iL]; omega), getD_iL]⟩
theorem vanA_root (X : List GF) (k : Nat) : rootL (vanA X k) (co X k) = vanA X (k + 1) := rootL_mul _ _ (by rw [length_vanA]; omega)
theorem own_one (w : World) (c : GF) : (w.alloc (.cells #[.int .u8 (toI c)] 5)).ownsRow w.heap.size 5 1 (.slice (some ⟨w.heap.size, 0, none⟩) 1 1) 1 ((iL [c]).map (Value.int .u8)) :=
  World.ownsRow_lit (base := w.heap.size) (e := 5) (size := 1) w #[.int .u8 (toI c)] 1 (Nat.le_refl _) (by unfold maxLen; omega) rfl

end Go.Proofs.Ytpoaimcioeopdaa
