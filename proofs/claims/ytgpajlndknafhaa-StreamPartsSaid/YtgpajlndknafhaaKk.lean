/- slices.Backward over a slice of squares that nobody writes: the contract of its iterator. -/
import Derived.Test.YtgpajlndknafhaaKj
import Derived.RangeFuncNested
import Derived.RangeFuncBox
import Derived.RangeFuncCalls
import Derived.RangeFuncLeaves
import Derived.Shelf.Abstract
import Derived.Shelf.RegionOpen
import Derived.OwnWalkIn
import Derived.TacticsInMore
import Derived.LoopNIn
import Derived.LoopIn
namespace Go.Proofs.Ytgpajlndknafhaa
open Go.ChangeShapes Go.WideShapes Go.ChangeAt Go.RowKit Go.Shelf
set_option linter.unusedVariables false
set_option maxRecDepth 100000
attribute [local go_sem] Oper.semAt_some

/-- What a round is handed: a place, and the square there. -/
def qItv (K : Nat → Nat → Nat → Nat) {len : Nat} (x : Fin len) : Array Value := #[.int .i64 ((x.1 : Nat) : Int), .agg (sqL4 (K x.1)).toArray]
/-- The box holds the slice, and the squares stand there. -/
def qRd (Bx g o len cap : Nat) (K : Nat → Nat → Nat → Nat) (W : World) : Prop :=
  W.cell? ⟨Bx, 0, none⟩ = some (.slice (some ⟨g, o, none⟩) len cap) ∧ ∀ j, j < len → W.rangeAt g (o + j * 4) (sqL4 (K j))
/-- What has come: the last ones, from the last on. -/
def qBk (len : Nat) (pre : List (Fin len)) : Prop := pre.length ≤ len ∧ ∀ k (h : k < pre.length), (pre[k]).1 = len - 1 - k
theorem qBk.nil (len : Nat) : qBk len [] := ⟨Nat.zero_le _, fun k h => by simp at h⟩
theorem qBk.snoc {len : Nat} {pre : List (Fin len)} (h : qBk len pre) (x : Fin len) (hl : pre.length < len) (hx : x.1 = len - 1 - pre.length) : qBk len (pre ++ [x]) := by
  refine ⟨by simp; omega, fun k hk => ?_⟩
  by_cases e : k < pre.length
  · rw [List.getElem_append_left e]; exact h.2 k e
  · have e2 : k = pre.length := by simp at hk; omega
    subst e2
    rw [List.getElem_append_right (Nat.le_refl _)]
    simp only [Nat.sub_self, List.getElem_cons_zero]
    exact hx
theorem qRd.on {W W' : World} {Bx g o len cap : Nat} {K : Nat → Nat → Nat → Nat} (h : qRd Bx g o len cap K W) {B : Nat} (hb : Below B W W') (h1 : Bx < B) (h2 : g < B) : qRd Bx g o len cap K W' :=
  ⟨(hb.cell (p := ⟨Bx, 0, none⟩) h1).trans h.1, fun j hj k v hv => (hb.cell (p := ⟨g, o + j * 4 + k, none⟩) h2).trans (h.2 j hj k v hv)⟩
end Go.Proofs.Ytgpajlndknafhaa
