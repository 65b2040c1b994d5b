/- slices.Backward over a slice of bytes: the contract of its iterator, for bodies that may write what lies at the places still to come, if only numbers stay there. -/
import Derived.Test.YtmhknggjpggagaaGconv
import Derived.Test.YtmhknggjpggagaaRowk
import Derived.RangeFuncNested
import Derived.RangeFuncBox
import Derived.RangeFuncCalls
import Derived.RangeFuncLeaves
import Derived.Shelf.Abstract
import Derived.Shelf.RegionOpen
import Derived.OwnWalkIn
import Derived.TacticsInMore
import Derived.LoopNIn
import Derived.LoopIn
namespace Go.Proofs.Ytmhknggjpggagaa
open Go.ChangeShapes Go.WideShapes Go.ChangeAt Go.RowKit Go.Shelf GF
set_option linter.unusedVariables false
set_option maxRecDepth 100000
attribute [local go_sem] Oper.semAt_some

/-- What a round is handed: a place, and the number there. -/
abbrev It (len : Nat) := Fin len × GF
def itv {len : Nat} (x : It len) : Array Value := #[.int .i64 ((x.1.1 : Nat) : Int), .int .u8 (toI x.2)]
/-- The box holds the slice, and at each place stands a number that V speaks of. -/
def Rd (Bx len : Nat) (a : Option Addr) (cap : Nat) (V : Nat → GF → Prop) (W : World) : Prop :=
  W.cell? ⟨Bx, 0, none⟩ = some (.slice a len cap) ∧ ∀ j, j < len → ∃ b off c, a = some ⟨b, off, none⟩ ∧ V j c ∧ W.cell? ⟨b, off + j, none⟩ = some (.int .u8 (toI c))
/-- What has come: the last ones, from the last on. -/
def Bk (len : Nat) (V : Nat → GF → Prop) (pre : List (It len)) : Prop :=
  pre.length ≤ len ∧ ∀ k (h : k < pre.length), (pre[k]).1.1 = len - 1 - k ∧ V (len - 1 - k) (pre[k]).2
theorem Bk.nil (len : Nat) (V : Nat → GF → Prop) : Bk len V [] := ⟨Nat.zero_le _, fun k h => by simp at h⟩
theorem Bk.snoc {len : Nat} {V : Nat → GF → Prop} {pre : List (It len)} (h : Bk len V pre) (x : It len) (hl : pre.length < len) (hx : x.1.1 = len - 1 - pre.length) (hV : V x.1.1 x.2) : Bk len V (pre ++ [x]) := by
  refine ⟨by simp; omega, fun k hk => ?_⟩
  by_cases e : k < pre.length
  · rw [List.getElem_append_left e]; exact h.2 k e
  · have e2 : k = pre.length := by simp at hk; omega
    subst e2
    rw [List.getElem_append_right (Nat.le_refl _)]
    simp only [Nat.sub_self, List.getElem_cons_zero]
    exact ⟨hx, hx ▸ hV⟩

end Go.Proofs.Ytmhknggjpggagaa
