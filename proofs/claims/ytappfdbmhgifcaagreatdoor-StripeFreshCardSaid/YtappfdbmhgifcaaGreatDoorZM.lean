/- Short words for what the texts behind it say often: a hidden fact, a step of a region that draws. -/
import Derived.Lib.Hide
import Derived.OrdersHeld
import Derived.Deep.RegionHeld
namespace Go.Proofs.YtappfdbmhgifcaaGreatDoor
open Go.RowKit
theorem hJ_ {p : Prop} (h : p) : Hid p := h
theorem p1' {α : Type} {l : List α} {i : Nat} {a : α} : l.toArray.setIfInBounds i a = (l.set i a).toArray := by simp
theorem p2' {α : Type} {x : α} {xs : List α} {a : α} : (x :: xs).set 0 a = a :: xs := by simp
theorem p3' {α : Type} {x : α} {xs : List α} {n : Nat} {a : α} : (x :: xs).set (n + 1) a = x :: xs.set n a := by simp
theorem tk {P : Program} {md : Region.Mode} {ops : Array Oper} {Q : Exit → Act → World → Prop} {S : World → Prop} {fuel : Nat} {listed : Array Bool} {a : Act} {w : World} {v : Value} (i : Nat) (oi : Oper) (hS : S w)
    (h : wpAnyH P md ops Q S fuel (listed.setIfInBounds i true) (a.put oi.dst v) w)
    (hi : ops[i]? = some oi := by rfl) (hs : Region.noSelect ops = true := by kernel_rfl) (hf : Region.free md ops listed i = true := by kernel_rfl) (hr : (Region.ready md ops listed).contains i = true := by kernel_rfl)
    (hQ : ∀ c a w, Q (.panic c) (a.put oi.dst v) w → Q (.panic c) a w := by exact fun _ _ _ h => h)
    (hg : Region.wanted oi (yielded ops a.tmps) = true := by rfl)
    (hy : ∀ w, S w → (execOp a.eval oi).run P w = .ok (.value v) w := by (intro W' hV; try dsimp only at hV); go_simp; all_goals with_reducible rfl) :
    wpAnyH P md ops Q S (fuel + 1) listed a w :=
  wpAnyH_take hi hs hf hr hQ (Or.inl ⟨hg, hy⟩) hS h
end Go.Proofs.YtappfdbmhgifcaaGreatDoor
