/- Contracts of poly's withRoot, Vanish. -/
import Derived.Test.YtmhknggjpggagaaPadd
namespace Go.Proofs.Ytmhknggjpggagaa
open Go.ChangeShapes Go.WideShapes Go.ChangeAt Go.RowKit Go.Shelf GF
set_option linter.unusedVariables false
set_option maxRecDepth 100000

/-- P, times x less r. -/
def rootL (P : List GF) (r : GF) : List GF := axp (0 :: P) 0 r P
theorem length_rootL (P : List GF) (r : GF) : (rootL P r).length = P.length + 1 := by unfold rootL; rw [length_axp]; rfl
theorem co_rootL (P : List GF) (r : GF) (k : Nat) : co (rootL P r) k = co (0 :: P) k + r * co P k := by
  unfold rootL
  rw [co_axp (by simp), if_pos (Nat.zero_le _), Nat.sub_zero]
theorem rootL_mul (P : List GF) (r : GF) (h : 0 < P.length) : rootL P r = mulL P (lin r 1) := by
  apply ext_co (by rw [length_rootL, length_mulL _ _ h (by simp [lin])]; simp [lin])
  intro k _
  have hl0 : co (lin r 1) 0 = r := by simp only [lin]; rw [co_cons_zero, GF.one_mul]
  have hl1 : co (lin r 1) 1 = 1 := by simp only [lin]; rw [co_cons_succ, co_cons_zero]
  rw [co_rootL, co_mulL]
  cases k with
  | zero =>
    simp only [sm]
    rw [co_cons_zero, GF.zero_add, GF.zero_add, hl0, GF.mul_comm]
  | succ k =>
    simp only [sm]
    rw [sm_zero (fun i hi => by rw [co_lin_ge _ _ (by omega), GF.mul_zero]), GF.zero_add, show k + 1 - k = 1 by omega, Nat.sub_self, hl0, hl1, co_cons_succ, GF.mul_one, GF.mul_comm]

theorem splice_one {α : Type} (z : α) (cs : List α) : splice (z :: List.replicate cs.length z) 1 cs = z :: cs := by
  simp [splice]
  omega

theorem Pn.below {w w' : World} {B g : Nat} {a : Option Addr} {P : List GF} (h : Bs w B a (iL P)) (hb : Below B w w') (hB : B ≤ g) : Pn w' g a P := Pn.of (h.below hb) hB
theorem made_row {w1 : World} {g M L : Nat} {P : List GF} (hg : w1.heap[g]? = some (.cells (splice (madeCells #[Value.int .u8 0] M).toList 1 ((iL P).map (Value.int .u8))).toArray 5 (0, 0)))
    (hc : (madeCells #[Value.int .u8 0] M).toList = (Value.int .u8 0) :: List.replicate ((iL P).map (Value.int .u8)).length (Value.int .u8 0)) (hl : P.length = L) (hM : M = L + 1) (hm : M ≤ 140737488355328) :
    w1.ownsRow g 5 1 (.slice (some ⟨g, 0, none⟩) M M) M ((iL (0 :: P)).map (Value.int .u8)) := by
  rw [hc, splice_one] at hg
  refine ⟨by simp [iL, hl, hM], .inr ⟨g, M, _, rfl, Nat.le_refl _, hg, Nat.le_refl _, by unfold maxLen; omega, by simp [iL, hl, hM], ?_⟩⟩
  rw [List.take_of_length_le (by simp [iL, hl, hM])]
  rfl

set_option maxHeartbeats 1000000 in
theorem withRoot_any (b : Nat) (a : Option Addr) (L cap : Nat) (P : List GF) (r : GF) (w : World) (hf : Fld w b) (hx : Pa w a L cap P) (hL0 : 0 < L) (hL : L + 1 ≤ 140737488355328) :
    Calls Try.prog 37 #[.pointer (some ⟨b, 0, none⟩), .slice a L cap, .int .u8 (toI r)] w fun e w' => ∃ g, e = .returned (.slice (some ⟨g, 0, none⟩) (L + 1 : Nat) (L + 1 : Nat)) ∧
      w'.ownsRow w.heap.size 5 1 (.slice (some ⟨g, 0, none⟩) (L + 1 : Nat) (L + 1 : Nat)) (L + 1) ((iL (rootL P r)).map (Value.int .u8)) ∧ Below w.heap.size w w' := by
  have hl := hx.len
  obtain ⟨M, hM⟩ : ∃ M, M = L + 1 := ⟨_, rfl⟩
  rw [← hM] at hL ⊢
  have hmk := run_make_row' (P := Try.prog) 22 5 (.int .u8 0) 1 Try.underlying22 info5 rfl .i64 .i64 M (by omega) (by omega)
  obtain ⟨W1, hW1⟩ : ∃ W1, W1 = w.alloc (.cells (madeCells #[.int .u8 0] M) 5) := ⟨_, rfl⟩
  have hcur : (madeCells #[Value.int .u8 0] M).toList = (Value.int .u8 0) :: List.replicate ((iL P).map (Value.int .u8)).length (Value.int .u8 0) := by
    rw [toList_madeCells_one, List.length_map, length_iL, hl, hM, List.replicate_succ]
  have k1 : W1.heap[w.heap.size]? = some (.cells (madeCells #[.int .u8 0] M).toList.toArray 5 (0, 0)) := by rw [hW1, Array.toArray_toList]; exact heap_alloc_new w _
  have k2 : ((iL P).map (Value.int .u8)).length = Nat.min L L := by simp [length_iL, hl]
  have k5 : Below w.heap.size w W1 := by rw [hW1]; exact (Below.refl _ _).alloc (Nat.le_refl _) _
  have k3 : 0 < ((iL P).map (Value.int .u8)).length → ∃ ad, a = some ad ∧ ∀ j v, ((iL P).map (Value.int .u8))[j]? = some v → W1.cell? (ad.add j) = some v :=
    fun h0 => (hx.1.2.2.1.below k5).cells h0
  have k4 : 1 + ((iL P).map (Value.int .u8)).length ≤ (madeCells #[.int .u8 0] M).toList.length := by simp [length_iL, hl, size_madeCells]; omega
  have K1 := Lib.hid k1; have K2 := Lib.hid k2; have K3 := Lib.hid k3; have K4 := Lib.hid k4; have HX := Lib.hid hx; have HF := Lib.hid hf; have HM := Lib.hid hM; have HC := Lib.hid hcur; have Hl := Lib.hid hl; have K5 := Lib.hid k5
  have hcap := hx.1.2.2.2
  have q1 : (L : Int) + 1 = (M : Int) := by omega
  have q2 : (M : Int) - 1 = (L : Int) := by omega
  have q3 : (1 : Int) ≤ (M : Int) := by omega
  have q4 : M - 1 = L := by omega
  have q5 : 2 ≤ M := by omega
  have q6 : ¬ M = 1 := by omega
  have hsz : w.heap.size ≤ W1.heap.size := k5.size
  clear k1 k2 k3 k4 k5 hx hf hM hcur hl
  subst hW1
  go_enter Try.func37, Try.ntmps37
  go_wp2_with (first
    | ((with_reducible show wpList _ _ _ (⟨some 15, _, _, _, _, _⟩ :: _) _ _); go_loud (refine wpList_copy_splice (o := ⟨some 15, _, _, _, _, _⟩) rfl (.tmp 13) (.tmp 14) 22 22 rfl 5 Try.underlying22 size_u8 (some ⟨w.heap.size, 1, none⟩) a L L L cap rfl rfl w.heap.size 1 (madeCells #[.int .u8 0] M).toList 5 K1.out ((iL P).map (Value.int .u8)) K2.out (fun h0 => ⟨rfl, K3.out h0⟩) K4.out (ints_oneCell _ _) w.heap.size w K5.out (Nat.le_refl _) ?_); go_loud (intro w1 hg1 hb1; have HO1 := Lib.hid (made_row hg1.out HC.out Hl.out HM.out hL)))
    | (go_at_call 50; refine (addTimes_any b w.heap.size 0 M M M M w.heap.size r a L cap (0 :: P) P _ (HF.out.below hb1) (by have := HF.out.1; omega) HO1.out (Pn.below HX.out.1.2.2.1 hb1 (Nat.le_refl _)) Hl.out (by omega) (by omega) (by omega)).mono ?_; rintro e w2 ⟨rfl, hown2, hg2⟩; have HO2 := Lib.hid hown2; have HG2 := Lib.hid hg2; clear hown2 hg2))
  go_ret
  exact ⟨_, rfl, HO2.out, hb1.trans (grown_below HG2.out (Nat.le_refl _) hb1.size)⟩

theorem Pa.own2 {w : World} {base : Nat} {e : TypeId} {g n c : Nat} {P : List GF} (h : w.ownsRow base e 1 (.slice (some ⟨g, 0, none⟩) n c) n ((iL P).map (Value.int .u8))) : Pa w (some ⟨g, 0, none⟩) n c P := by
  obtain ⟨a', c', e, hp, _⟩ := Pa.own h
  cases e
  exact hp
theorem Pa.at_ {w : World} {a : Option Addr} {L cap : Nat} {P : List GF} {k : Nat} (h : Pa w a L cap P) (hk : k < L) : ∃ b off, a = some ⟨b, off, none⟩ ∧ b < w.heap.size ∧ w.cell? ⟨b, off + k, none⟩ = some (.int .u8 (toI (co P k))) := by
  have hl := h.len
  obtain ⟨b, off, e, hb, hc⟩ := h.1.2.2.1 (by rw [length_iL]; omega)
  exact ⟨b, off, e, hb, by rw [hc k (by rw [length_iL]; omega), getD_iL]⟩
theorem vanA_root (X : List GF) (k : Nat) : rootL (vanA X k) (co X k) = vanA X (k + 1) := rootL_mul _ _ (by rw [length_vanA]; omega)
theorem own_one (w : World) (c : GF) : (w.alloc (.cells #[.int .u8 (toI c)] 5)).ownsRow w.heap.size 5 1 (.slice (some ⟨w.heap.size, 0, none⟩) 1 1) 1 ((iL [c]).map (Value.int .u8)) :=
  World.ownsRow_lit (base := w.heap.size) (e := 5) (size := 1) w #[.int .u8 (toI c)] 1 (Nat.le_refl _) (by unfold maxLen; omega) rfl

theorem vanish_nil (v : Value) (w : World) : Calls Try.prog 22 #[.pointer none, v] w fun e w' => e = .returned (.tuple #[.slice none 0 0, .int .i64 1]) ∧ w = w' := by
  go_enter Try.func22, Try.ntmps22
  go_wp2
  go_ret2
  exact ⟨rfl, rfl⟩
theorem vanish_long (b : Nat) (a : Option Addr) (L cap : Nat) (w : World) (hL : 255 < L) (hm : L ≤ 9223372036854775807) : Calls Try.prog 22 #[.pointer (some ⟨b, 0, none⟩), .slice a L cap] w fun e w' => e = .returned (.tuple #[.slice none 0 0, .int .i64 4]) ∧ w = w' := by
  have q : (255 : Int) < (L : Int) := by omega
  go_enter Try.func22, Try.ntmps22
  go_wp2
  go_ret2
  exact ⟨rfl, rfl⟩

set_option maxHeartbeats 1000000 in
theorem vanish_any (b : Nat) (a : Option Addr) (L cap : Nat) (X : List GF) (w : World) (hf : Fld w b) (hx : Pa w a L cap X) (hL : L ≤ 255) :
    Calls Try.prog 22 #[.pointer (some ⟨b, 0, none⟩), .slice a L cap] w fun e w' => ∃ g, e = .returned (.tuple #[.slice (some ⟨g, 0, none⟩) (L + 1 : Nat) (L + 1 : Nat), .int .i64 0]) ∧
      w'.ownsRow w.heap.size 5 1 (.slice (some ⟨g, 0, none⟩) (L + 1 : Nat) (L + 1 : Nat)) (L + 1) ((iL (vanA X L)).map (Value.int .u8)) ∧ Below w.heap.size w w' := by
  have HX := Lib.hid hx
  have HF := Lib.hid hf
  have hcap := hx.1.2.2.2
  clear hx hf
  go_enter Try.func22, Try.ntmps22
  go_wp2
  go_loopw [17, 6] (fun i o wr => ∃ k g : Nat, k ≤ L ∧ i = .int .i64 (k : Nat) ∧ o = .slice (some ⟨g, 0, none⟩) (k + 1 : Nat) (k + 1 : Nat) ∧ Hid (wr.ownsRow w.heap.size 5 1 (.slice (some ⟨g, 0, none⟩) (k + 1 : Nat) (k + 1 : Nat)) (k + 1) ((iL (vanA X k)).map (Value.int .u8))) ∧ Hid (Below w.heap.size w wr))
    (fun i _ _ => L - (intOf i).toNat)
  case atStart => exact ⟨0, w.heap.size, Nat.zero_le _, rfl, rfl, Lib.hid (own_one w 1), Lib.hid ((Below.refl _ _).alloc (Nat.le_refl _) _)⟩
  case round =>
    obtain ⟨k, g, hk, rfl, rfl, hR, hB⟩ := hrel
    by_cases hlt : k < L
    · obtain ⟨bx, ox, rfl, hbx, hcx⟩ := (HX.out.on hB.out).at_ hlt
      have q1 : (k : Int) < (L : Int) := by omega
      have q3 : (0 : Int) ≤ (k : Int) := by omega
      obtain ⟨M, hM⟩ : ∃ M, M = k + 1 := ⟨_, rfl⟩
      have HM := Lib.hid hM
      rw [← hM] at hR ⊢
      clear hM
      go_wp2_with (go_at_call 37; refine (withRoot_any b _ M M (vanA X k) (co X k) _ (HF.out.below hB.out) (Pa.own2 hR.out) (by rw [HM.out]; omega) (by rw [HM.out]; omega)).mono ?_; rintro e w2 ⟨g2, rfl, hown2, hb2⟩; have HO2 := Lib.hid hown2; clear hown2)
      go_roundw
      case rel =>
        rw [HM.out, vanA_root] at HO2
        exact ⟨k + 1, g2, by omega, by go_num, by rw [HM.out], Lib.hid (own_base HO2.out hB.out.size), Lib.hid (bt hB.out hb2)⟩
      case measure => simp [intOf]; omega
    · obtain rfl : k = L := by omega
      go_wp2
      go_ret2
      exact ⟨g, rfl, hR.out, hB.out⟩
end Go.Proofs.Ytmhknggjpggagaa
