/- Contracts of the cipher's Decrypt (written by gen19.py). -/
import Derived.Test.YtgpajlndknafhaaKro
import Derived.Deep.CutRange
namespace Go.Proofs.Ytgpajlndknafhaa
open Go.ChangeShapes Go.WideShapes Go.ChangeAt Go.RowKit Go.Shelf
set_option linter.unusedVariables false
set_option linter.unusedSimpArgs false
set_option maxRecDepth 100000
attribute [local go_sem] Oper.semAt_some
attribute [local go_sem ↓] Go.wp_at_zero Go.wp_at_succ

theorem Blk.noncell {w w' : World} {b : Nat} {T : TypeId} {n : Nat} {g : Nat → Value} {row : Option Nat} (h : Blk w b T n g) (hg : w.grownBy w' row) (hr : ∀ r, row = some r → ∃ o : Obj, w.heap[r]? = some o ∧ o.isCells = false) : Blk w' b T n g := by
  unfold Blk
  rw [hg.block b h.lt (fun e => by
    obtain ⟨o, ho, hc⟩ := hr b e.symm
    unfold Blk at h
    rw [h] at ho
    injection ho with ho
    rw [← ho] at hc
    cases hc)]
  exact h
theorem CipA.noncell {w w' : World} {b g cap n : Nat} {W : Nat → Nat → Nat} {row : Option Nat} (h : CipA w b g cap n W) (hg : w.grownBy w' row) (hr : ∀ r, row = some r → ∃ o : Obj, w.heap[r]? = some o ∧ o.isCells = false) : CipA w' b g cap n W := by
  have hlt := h.cip.lt
  obtain ⟨a1, a2, a3, a4, a5, a6, a7, a8, a9⟩ := h
  have hl2 := Nat.lt_of_lt_of_le hlt hg.size
  exact ⟨Nat.lt_of_lt_of_le a1 hg.size, a2, a3, cell_kept a4 hg hr, fun j hj k v hv => cell_kept (a5 j hj k v hv) hg hr, ⟨hl2, fun j hj => cell_kept (a6.2 j hj) hg hr⟩, ⟨hl2, fun j hj => cell_kept (a7.2 j hj) hg hr⟩, ⟨hl2, fun j hj => cell_kept (a8.2 j hj) hg hr⟩, ⟨hl2, fun j hj => cell_kept (a9.2 j hj) hg hr⟩⟩
theorem qRd.put {W : World} {Bx g o len cap l : Nat} {K : Nat → Nat → Nat → Nat} {x : Obj} (h : qRd Bx g o len cap K W) (x' : Obj) (hl : W.heap[l]? = some x) (hx : x.isCells = false) : qRd Bx g o len cap K (W.putObj l x') :=
  ⟨cell_kept h.1 (grownBy_putObj' W l x') (fun r e => by cases e; exact ⟨x, hl, hx⟩), fun j hj k v hv => cell_kept (h.2 j hj k v hv) (grownBy_putObj' W l x') (fun r e => by cases e; exact ⟨x, hl, hx⟩)⟩
theorem cell_but {w w' : World} {b o x : Nat} {v : Value} (h : w.cell? ⟨b, o, none⟩ = some v) (hg : w.grownBy w' (some x)) (hne : b ≠ x) : w'.cell? ⟨b, o, none⟩ = some v :=
  (World.cell?_of_block (w := w) (a := ⟨b, o, none⟩) (hg.block b (block_lt_of_cell h) (fun e => hne (by injection e)))).trans h

theorem ownq_noncell {w w' : World} {base : Nat} {e : TypeId} {v : Value} {n : Nat} {xs : List Value} {row : Option Nat} (h : w.ownsRow base e 1 v n xs) (hg : w.grownBy w' row) (hr : ∀ r, row = some r → ∃ o : Obj, w.heap[r]? = some o ∧ o.isCells = false) : w'.ownsRow base e 1 v n xs := by
  refine h.kept hg ?_
  rcases h.2 with ⟨h2, _⟩ | ⟨g, cap, cur, h1, h2, h3, h4⟩
  · left; rw [h2]; rfl
  · right
    intro e1
    subst h1
    obtain ⟨o, ho, hc⟩ := hr g e1.symm
    rw [h3] at ho
    cases ho
    cases hc

/-- What the rounds have made of the block. -/
def decF (W : Nat → Nat → Nat) (n : Nat) (X : Nat → Nat → Nat) {len : Nat} (pre : List (Fin len)) : Nat → Nat → Nat := pre.foldl (fun s y => thr bxb 3 (mix m14 (adds s (rk W (y.1 + 1))))) (thr bxb 3 (adds X (rk W n)))
theorem decF_snoc (W : Nat → Nat → Nat) (n : Nat) (X : Nat → Nat → Nat) {len : Nat} (pre : List (Fin len)) (y : Fin len) : decF W n X (pre ++ [y]) = thr bxb 3 (mix m14 (adds (decF W n X pre) (rk W (y.1 + 1)))) := by simp [decF]
theorem decF_bd (W : Nat → Nat → Nat) (n : Nat) (X : Nat → Nat → Nat) {len : Nat} (pre : List (Fin len)) : SqB (decF W n X pre) := by
  rcases List.eq_nil_or_concat pre with rfl | ⟨m, x, e⟩
  · exact SqB.thr bxb_lt _ _
  · rw [e, List.concat_eq_append, decF_snoc]; exact SqB.thr bxb_lt _ _
theorem decF_all (W : Nat → Nat → Nat) (n : Nat) (X : Nat → Nat → Nat) (ys : List (Fin (n - 1))) (hl : ys.length = n - 1) (h : qBk (n - 1) ys) : decF W n X ys = decR W n X (n - 1) := by
  have key : ∀ k, k ≤ ys.length → decF W n X (ys.take k) = decR W n X k := by
    intro k
    induction k with
    | zero => intro _; rfl
    | succ k ih =>
      intro hk
      rw [List.take_succ_eq_append_getElem (by omega), decF_snoc, ih (by omega), h.2 k (by omega), decR, show n - 1 - 1 - k + 1 = n - 1 - k by omega]
  have := key ys.length (Nat.le_refl _)
  rw [List.take_length, hl] at this
  exact this
end Go.Proofs.Ytgpajlndknafhaa
