/- What stays where memory changed in one block alone; a row that another is added to, place by place. -/
import Derived.Test.YtmhknggjpggagaaSl
namespace Go.Proofs.Ytmhknggjpggagaa
open Go.ChangeShapes Go.WideShapes Go.ChangeAt Go.RowKit Go.Shelf GF
set_option linter.unusedVariables false

theorem gb_trans {w w1 w2 : World} {r : Option Nat} (h : w.grownBy w1 r) (k : w1.grownBy w2 r) : w.grownBy w2 r :=
  ⟨k.os.trans h.os, k.tape.trans h.tape, k.output.trans h.output, Nat.le_trans h.size k.size, fun b hb hn => (k.block b (Nat.lt_of_lt_of_le hb h.size) hn).trans (h.block b hb hn)⟩
theorem gb_refl (w : World) (r : Option Nat) : w.grownBy w r := ⟨rfl, rfl, rfl, Nat.le_refl _, fun _ _ _ => rfl⟩
theorem gb_set (w : World) (B i : Nat) (v : Value) : w.grownBy (w.setCell ⟨B, i, none⟩ v) (some B) :=
  ⟨rfl, rfl, rfl, by simp, fun b hb hn => Below.heap_setCell _ _ _ _ (fun e => hn (by rw [e]))⟩
theorem gb_drew {w w1 : World} {r : Option Nat} (h : w.grownBy w1 r) : w.grownBy w1.drew r := ⟨h.os, h.tape, h.output, h.size, h.block⟩
theorem gb_block {w w' : World} {g b : Nat} (h : w.grownBy w' (some g)) (hb : b < w.heap.size) (hn : b ≠ g) : w'.heap[b]? = w.heap[b]? := h.block b hb (fun e => hn (by injection e))
theorem Pa.but {w w' : World} {a : Option Addr} {L c g : Nat} {P : List GF} (h : Pa w a L c P) (hg : w.grownBy w' (some g)) (hne : ∀ b off, a = some ⟨b, off, none⟩ → b ≠ g) : Pa w' a L c P :=
  ⟨⟨h.1.1, h.1.2.1, fun h0 => by
    obtain ⟨b, off, e, hb, hc⟩ := h.1.2.2.1 h0
    exact ⟨b, off, e, Nat.lt_of_lt_of_le hb hg.size, fun j hj => (World.cell?_of_block (w := w) (a := ⟨b, off + j, none⟩) (gb_block hg hb (hne b off e))).trans (hc j hj)⟩, h.1.2.2.2⟩, h.2⟩
theorem Fld.but {w w' : World} {b g : Nat} (h : Fld w b) (hg : w.grownBy w' (some g)) (hne : b ≠ g) : Fld w' b := by
  have e := gb_block hg h.1 hne
  exact ⟨Nat.lt_of_lt_of_le h.1 hg.size, fun j hj => (World.cell?_of_block (w := w) (a := ⟨b, j, none⟩) e).trans (h.2.1 j hj), fun j hj => (World.cell?_of_block (w := w) (a := ⟨b, 510 + j, none⟩) e).trans (h.2.2 j hj)⟩
theorem Blk.but {w w' : World} {b g : Nat} {T : TypeId} {n : Nat} {f : Nat → Value} (h : Blk w b T n f) (hg : w.grownBy w' (some g)) (hne : b ≠ g) : Blk w' b T n f := (gb_block hg h.lt hne).trans h
/-- The row O, the first k places of S added to it. -/
def mixV (O S : List GF) (k j : Nat) : Value := if j < k then .int .u8 (toI (co O j + co S j)) else gB O j
theorem mixV_zero (O S : List GF) : mixV O S 0 = gB O := by funext j; simp [mixV]
theorem mixV_set (O S : List GF) (k j : Nat) : (if j = k then Value.int .u8 (toI (co O k + co S k)) else mixV O S k j) = mixV O S (k + 1) j := by
  unfold mixV
  by_cases h : j = k
  · subst h; simp
  · rw [if_neg h]
    by_cases h2 : j < k
    · rw [if_pos h2, if_pos (by omega)]
    · rw [if_neg h2, if_neg (by omega)]
theorem mixV_all {O S : List GF} {n : Nat} (hO : O.length = n) (hS : S.length = n) {j : Nat} (h : j < n) : mixV O S n j = gB (addR S O) j := by
  unfold mixV gB
  rw [if_pos h, addR_co (by rw [hO, hS]), GF.add_comm]
theorem mixV_at (O S : List GF) (k : Nat) : mixV O S k k = .int .u8 (toI (co O k)) := by simp [mixV, gB]
end Go.Proofs.Ytmhknggjpggagaa
