/- Contract of poly's addTimes: so many times one row added to another from a place on. -/
import Derived.Test.YtmhknggjpggagaaPeval
namespace Go.Proofs.Ytmhknggjpggagaa
open Go.ChangeShapes Go.WideShapes Go.ChangeAt Go.RowKit Go.Shelf GF
set_option linter.unusedVariables false
set_option maxRecDepth 100000

/-- P, and c times the first k of Q added from the place off on. -/
def addAt (P : List GF) (off : Nat) (c : GF) (Q : List GF) (k : Nat) : List GF := (List.range P.length).map fun j => if off ≤ j ∧ j < off + k then co P j + c * co Q (j - off) else co P j
def axp (P : List GF) (off : Nat) (c : GF) (Q : List GF) : List GF := addAt P off c Q Q.length
theorem length_addAt (P : List GF) (off : Nat) (c : GF) (Q : List GF) (k : Nat) : (addAt P off c Q k).length = P.length := by simp [addAt]
theorem length_axp (P : List GF) (off : Nat) (c : GF) (Q : List GF) : (axp P off c Q).length = P.length := length_addAt ..
theorem co_addAt {P : List GF} {off : Nat} {c : GF} {Q : List GF} {k j : Nat} (hj : j < P.length) : co (addAt P off c Q k) j = if off ≤ j ∧ j < off + k then co P j + c * co Q (j - off) else co P j := by
  simp only [addAt, co, List.getD_eq_getElem?_getD, List.getElem?_map, List.getElem?_range hj, Option.map_some, Option.getD_some]
theorem addAt_zero (P : List GF) (off : Nat) (c : GF) (Q : List GF) : addAt P off c Q 0 = P := by
  apply ext_co (length_addAt ..)
  intro j hj
  rw [co_addAt (by rwa [length_addAt] at hj), if_neg (by omega)]
theorem addAt_set {P : List GF} {off : Nat} {c : GF} {Q : List GF} {k : Nat} (h : off + k < P.length) : (addAt P off c Q k).set (off + k) (co P (off + k) + c * co Q k) = addAt P off c Q (k + 1) := by
  apply ext_co (by simp [length_addAt])
  intro j hj
  rw [List.length_set, length_addAt] at hj
  rw [co_set (by rw [length_addAt]; exact h), co_addAt hj, co_addAt hj]
  by_cases e : j = off + k
  · rw [if_pos e, if_pos (by omega), e, Nat.add_sub_cancel_left]
  · rw [if_neg e]
    by_cases h1 : off ≤ j ∧ j < off + k
    · rw [if_pos h1, if_pos (by omega)]
    · rw [if_neg h1, if_neg (by omega)]
theorem co_axp {P : List GF} {off : Nat} {c : GF} {Q : List GF} (h : off + Q.length ≤ P.length) (j : Nat) : co (axp P off c Q) j = co P j + if off ≤ j then c * co Q (j - off) else 0 := by
  by_cases hj : j < P.length
  · unfold axp
    rw [co_addAt hj]
    by_cases h1 : off ≤ j
    · rw [if_pos h1]
      by_cases h2 : j < off + Q.length
      · rw [if_pos ⟨h1, h2⟩]
      · rw [if_neg (by omega), co_ge (l := Q) (by omega), GF.mul_zero, GF.add_zero]
    · rw [if_neg (by omega), if_neg h1, GF.add_zero]
  · rw [co_ge (by rw [length_axp]; omega), co_ge (l := P) (by omega)]
    by_cases h1 : off ≤ j
    · rw [if_pos h1, co_ge (l := Q) (by omega), GF.mul_zero, GF.add_zero]
    · rw [if_neg h1, GF.add_zero]
theorem axp_nil (P : List GF) (off : Nat) (c : GF) : axp P off c [] = P := addAt_zero ..

/-- A row of numbers outside the block g. -/
def Pn (w : World) (g : Nat) (a : Option Addr) (P : List GF) : Prop :=
  0 < P.length → ∃ b off, a = some ⟨b, off, none⟩ ∧ b ≠ g ∧ ∀ i, i < P.length → w.cell? ⟨b, off + i, none⟩ = some (.int .u8 (toI (co P i)))
theorem cell_lt {W : World} {p : Addr} {v : Value} (hc : W.cell? p = some v) : p.block < W.heap.size := by
  rcases Nat.lt_or_ge p.block W.heap.size with hlt | hge
  · exact hlt
  · unfold World.cell? at hc; rw [Array.getElem?_eq_none hge] at hc; cases hc
theorem Pn.grown {w w' : World} {g : Nat} {a : Option Addr} {P : List GF} (h : Pn w g a P) (hg : w.grownBy w' (some g)) : Pn w' g a P := fun h0 => by
  obtain ⟨b, off, e, hne, hc⟩ := h h0
  exact ⟨b, off, e, hne, fun i hi => hg.cell (hc i hi) (fun e => by injection e with e; exact hne e)⟩
theorem Pn.of {w : World} {B g : Nat} {a : Option Addr} {P : List GF} (h : Bs w B a (iL P)) (hB : B ≤ g) : Pn w g a P := fun h0 => by
  obtain ⟨b, off, e, hb, hc⟩ := h (by rwa [length_iL])
  exact ⟨b, off, e, by omega, fun i hi => by rw [hc i (by rwa [length_iL]), getD_iL]⟩
theorem Pn.at_ {w : World} {g : Nat} {a : Option Addr} {P : List GF} {k : Nat} (h : Pn w g a P) (hk : k < P.length) : ∃ b off, a = some ⟨b, off, none⟩ ∧ b ≠ g ∧ w.cell? ⟨b, off + k, none⟩ = some (.int .u8 (toI (co P k))) := by
  obtain ⟨b, off, e, hne, hc⟩ := h (by omega)
  exact ⟨b, off, e, hne, hc k hk⟩
theorem grown_trans {a b c : World} {row : Option Nat} (h : a.grownBy b row) (k : b.grownBy c row) : a.grownBy c row :=
  ⟨k.os.trans h.os, k.tape.trans h.tape, k.output.trans h.output, Nat.le_trans h.size k.size, fun i hi hne => (k.block i (Nat.lt_of_lt_of_le hi h.size) hne).trans (h.block i hi hne)⟩
theorem grown_drew {w w' : World} {row : Option Nat} (h : w.grownBy w' row) : w.grownBy w'.drew row := ⟨h.os, h.tape, h.output, h.size, h.block⟩
theorem grown_drewN {w w' : World} {row : Option Nat} (h : w.grownBy w' row) (n : Nat) : w.grownBy (w'.drewN n) row := ⟨h.os, h.tape, h.output, h.size, h.block⟩
theorem grown_below {w w' : World} {g B : Nat} (h : w.grownBy w' (some g)) (hB : B ≤ g) (hs : B ≤ w.heap.size) : Below B w w' :=
  (Below.refl B w).grown h hs (fun k e => by cases e; exact hB)
/-- The field outside the block g. -/
theorem Fld.grown {w w' : World} {b g : Nat} (h : Fld w b) (hg : w.grownBy w' (some g)) (hne : b ≠ g) : Fld w' b := by
  exact ⟨Nat.lt_of_lt_of_le h.1 hg.size, fun j hj => hg.cell (h.2.1 j hj) (fun e => by injection e with e; exact hne e), fun j hj => hg.cell (h.2.2 j hj) (fun e => by injection e with e; exact hne e)⟩

set_option maxHeartbeats 1000000 in
theorem addTimes_any (b : Nat) (g off n C N CC base : Nat) (c : GF) (aq : Option Addr) (nq cq : Nat) (P Q : List GF) (w : World) (hf : Fld w b) (hbg : b ≠ g)
    (hown : w.ownsRow base 5 1 (.slice (some ⟨g, 0, none⟩) N CC) N ((iL P).map (Value.int .u8))) (hQ : Pn w g aq Q) (hq : Q.length = nq) (hn : nq ≤ n) (hN : off + nq ≤ N) (hm : N ≤ 9223372036854775807) :
    Calls Try.prog 50 #[.pointer (some ⟨b, 0, none⟩), .slice (some ⟨g, off, none⟩) n C, .int .u8 (toI c), .slice aq nq cq] w fun e w' => e = .returned (.tuple #[]) ∧
      w'.ownsRow base 5 1 (.slice (some ⟨g, 0, none⟩) N CC) N ((iL (axp P off c Q)).map (Value.int .u8)) ∧ w.grownBy w' (some g) := by
  have hPl : P.length = N := by have := hown.1; simpa [iL] using this
  have HF := Lib.hid hf
  have HQ := Lib.hid hQ
  have HO := Lib.hid hown
  have HP := Lib.hid hPl
  have Hq := Lib.hid hq
  clear hf hQ hown hPl hq
  go_enter Try.func50, Try.ntmps50
  go_wp2
  go_loopw [12] (fun i wr => ∃ k : Nat, k ≤ nq ∧ i = .int .i64 (k : Nat) ∧ Hid (wr.ownsRow base 5 1 (.slice (some ⟨g, 0, none⟩) N CC) N ((iL (addAt P off c Q k)).map (Value.int .u8))) ∧ Hid (w.grownBy wr (some g)))
    (fun i _ => nq - (intOf i).toNat)
  case atStart => exact ⟨0, Nat.zero_le _, rfl, Lib.hid (by rw [addAt_zero]; exact HO.out), Lib.hid (World.grownBy.refl _ _)⟩
  case round =>
    obtain ⟨k, hk, rfl, hR, hG⟩ := hrel
    by_cases hlt : k < nq
    · obtain ⟨bb, ob, rfl, hbb, hcb⟩ := (HQ.out.grown hG.out).at_ (k := k) (by rw [Hq.out]; exact hlt)
      have hcg := own_cells hR.out (off + k) (by omega)
      rw [Nat.zero_add, getD_iL, co_addAt (by rw [HP.out]; omega), if_neg (by omega)] at hcg
      have hfz := hR.out.frozenAt (off + k)
      have hfw := HF.out.grown hG.out hbg
      have hst := (hR.out.stored (off + k) (.int .u8 (toI (co P (off + k) + c * co Q k)))).1
      rw [map_set_u8, show (iL (addAt P off c Q k)).set (off + k) (toI (co P (off + k) + c * co Q k)) = iL (addAt P off c Q (k + 1)) by rw [← addAt_set (by rw [HP.out]; omega)]; simp [iL, List.map_set]] at hst
      have HS := Lib.hid hst
      have hg2 := Lib.hid (grown_trans hG.out (grownBy_setCell' wr g (.int .u8 (toI (co P (off + k) + c * co Q k)))))
      have hsp : wr.setCell ⟨g, off + k, none⟩ (.int .u8 (toI (co P (off + k) + c * co Q k))) = wr.setCell ⟨g, off + k, none⟩ (.int .u8 (toI (co P (off + k) + c * co Q k))) := rfl
      clear hst hsp
      obtain ⟨X, hX⟩ : ∃ X, X = co P (off + k) := ⟨_, rfl⟩
      obtain ⟨Y, hY⟩ : ∃ Y, Y = co Q k := ⟨_, rfl⟩
      rw [← hX] at hcg HS
      rw [← hY] at hcb HS
      clear hg2
      have HG := Lib.hid (fun (u : Value) => grown_trans hG.out (show wr.grownBy (wr.setCell ⟨g, off + k, none⟩ u) (some g) from ⟨rfl, rfl, rfl, by show wr.heap.size ≤ (wr.heap.modify _ _).size; rw [Array.size_modify]; exact Nat.le_refl _, fun i _ hne => Below.heap_setCell _ _ _ i (fun e => hne (by rw [e]))⟩))
      clear hX hY hR hG
      have q1 : (k : Int) < (nq : Int) := by omega
      have q2 : (k : Int) < (n : Int) := by omega
      have q3 : (0 : Int) ≤ (k : Int) := by omega
      have hfd : Fld wr.drew b := hfw
      go_wp2_with fail
      go_region_with (first
        | (go_at_call 25; refine (mul_G _ _ _ _ hfd).mono ?_; rintro e w' ⟨rfl, rfl⟩)
        | (go_at_call 43; refine (add_G _ _ _).mono ?_; rintro e w' ⟨rfl, rfl⟩))
      all_goals
        go_wp2
        go_roundw
        case rel => exact ⟨k + 1, by omega, by go_num, Lib.hid HS.out, Lib.hid (grown_drew (HG.out _))⟩
        case measure => simp [intOf]; omega
    · obtain rfl : k = nq := by omega
      go_wp2
      go_end0
      exact ⟨rfl, by unfold axp; rw [Hq.out]; exact hR.out, hG.out⟩
end Go.Proofs.Ytmhknggjpggagaa
