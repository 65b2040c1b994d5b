/- slices.Backward over a slice of bytes: the contract of its iterator, for bodies that may write what lies at the places still to come, if only numbers stay there. -/
import Derived.Test.YtgbcdmognobieaaGconv
import Derived.Test.YtgbcdmognobieaaRowk
import Derived.RangeFuncNested
import Derived.RangeFuncBox
import Derived.RangeFuncCalls
import Derived.RangeFuncLeaves
import Derived.Shelf.Abstract
import Derived.Shelf.RegionOpen
import Derived.OwnWalkIn
import Derived.TacticsInMore
import Derived.LoopNIn
import Derived.LoopIn
namespace Go.Proofs.Ytgbcdmognobieaa
open Go.ChangeShapes Go.WideShapes Go.ChangeAt Go.RowKit Go.Shelf GF
set_option linter.unusedVariables false
attribute [local go_sem] Oper.semAt_some

/-- What a round is handed: a place, and the number there. -/
abbrev It (len : Nat) := Fin len × GF
def itv {len : Nat} (x : It len) : Array Value := #[.int .i64 ((x.1.1 : Nat) : Int), .int .u8 (toI x.2)]
/-- The box holds the slice, and at each place stands a number that V speaks of. -/
def Rd (Bx len : Nat) (a : Option Addr) (cap : Nat) (V : Nat → GF → Prop) (W : World) : Prop :=
  W.cell? ⟨Bx, 0, none⟩ = some (.slice a len cap) ∧ ∀ j, j < len → ∃ b off c, a = some ⟨b, off, none⟩ ∧ V j c ∧ W.cell? ⟨b, off + j, none⟩ = some (.int .u8 (toI c))
/-- What has come: the last ones, from the last on. -/
def Bk (len : Nat) (V : Nat → GF → Prop) (pre : List (It len)) : Prop :=
  pre.length ≤ len ∧ ∀ k (h : k < pre.length), (pre[k]).1.1 = len - 1 - k ∧ V (len - 1 - k) (pre[k]).2
theorem Bk.nil (len : Nat) (V : Nat → GF → Prop) : Bk len V [] := ⟨Nat.zero_le _, fun k h => by simp at h⟩
theorem Bk.snoc {len : Nat} {V : Nat → GF → Prop} {pre : List (It len)} (h : Bk len V pre) (x : It len) (hl : pre.length < len) (hx : x.1.1 = len - 1 - pre.length) (hV : V x.1.1 x.2) : Bk len V (pre ++ [x]) := by
  refine ⟨by simp; omega, fun k hk => ?_⟩
  by_cases e : k < pre.length
  · rw [List.getElem_append_left e]; exact h.2 k e
  · have e2 : k = pre.length := by simp at hk; omega
    subst e2
    rw [List.getElem_append_right (Nat.le_refl _)]
    simp only [Nat.sub_self, List.getElem_cons_zero]
    exact ⟨hx, hx ▸ hV⟩

set_option maxRecDepth 100000 in
set_option maxHeartbeats 2000000 in
theorem back1_in (F : Fence) (n : Nat) (hF : F.fn 42) (hro : F.round = none) (hn : 1 ≤ n) (l Bx len cap : Nat) (a : Option Addr) (V : Nat → GF → Prop) (hlen : len ≤ 140737488355328) (J Jx : List (It len) → World → Prop)
    (hY : ∀ pre x W, J pre W → pre.length < len → YieldAt F (n - 1) Try.prog l (itv x) W fun e W' =>
      (e = .returned (.bool true) ∧ J (pre ++ [x]) W' ∧ (Rd Bx len a cap V W → Rd Bx len a cap V W')) ∨ (e = .returned (.bool false) ∧ Jx (pre ++ [x]) W'))
    (W : World) (hR0 : Rd Bx len a cap V W) (h0 : J [] W) :
    CallsIn F n Try.prog 42 #[.func (.yield l) #[] #[], .pointer (some ⟨Bx, 0, none⟩)] W fun e W' => (∃ v, e = .returned v) ∧
      ((∃ ys, (ys.length = len ∧ Bk len V ys) ∧ J ys W') ∨ (∃ pre, Bk len V pre ∧ Jx pre W')) := by
  refine callsIn_of_wp Try.func42 rfl hF ?_ hro
  simp only [Try.ntmps42, List.size_toArray, List.length_cons, List.length_nil, Nat.reduceAdd, Nat.reduceSub, Array.replicate_succ, Array.replicate_zero, List.push_toArray, List.append_toArray, List.nil_append, List.cons_append]
  have hb := hR0.1
  gi_wp2
  gi_loopw [3] (fun i wr => ∃ (r : Nat) (pre : List (It len)), pre.length + r = len ∧ Bk len V pre ∧ ((r = 0 ∧ i = .int .i64 (-1)) ∨ ∃ j : Nat, r = j + 1 ∧ i = .int .i64 (j : Int)) ∧ J pre wr ∧ Rd Bx len a cap V wr)
    (fun i _ => (intOf i + 1).toNat)
  case atStart =>
    refine ⟨len, [], by simp, Bk.nil _ _, ?_, h0, hR0⟩
    rcases Nat.eq_zero_or_pos len with e | e
    · subst e; exact .inl ⟨rfl, by go_num⟩
    · obtain ⟨j, rfl⟩ : ∃ j, len = j + 1 := ⟨len - 1, by omega⟩
      exact .inr ⟨j, rfl, by go_num⟩
  case round =>
    obtain ⟨r, pre, hpl, hbk, hi, hJs, hRd⟩ := hrel
    rcases hi with ⟨rfl, rfl⟩ | ⟨j, rfl, rfl⟩
    · gi_wp2
      go_end0
      exact ⟨⟨_, rfl⟩, .inl ⟨pre, ⟨by omega, hbk⟩, hJs⟩⟩
    · obtain ⟨b, off, c, rfl, hV, hc⟩ := hRd.2 j (by omega)
      have hbx := hRd.1
      obtain ⟨fn, tmps, assign, body, hy, hR⟩ := hY pre (⟨j, by omega⟩, c) wr hJs (by omega)
      dsimp only [itv] at hy
      have q1 : (j : Int) < (len : Int) := by omega
      have q2 : (0 : Int) ≤ (j : Int) := by omega
      have hk := hbk.snoc (⟨j, by omega⟩, c) (by omega) (by show j = _; omega) hV
      gi_wp2
      refine hR.mono ?_
      rintro e W3 (⟨rfl, hJ3, hk3⟩ | ⟨rfl, hJx3⟩)
      · gi_wp2
        go_roundw
        case rel =>
          refine ⟨j, _, by simp; omega, hk, ?_, hJ3, hk3 hRd⟩
          rcases Nat.eq_zero_or_pos j with e | e
          · subst e; exact .inl ⟨rfl, by go_num⟩
          · obtain ⟨m, rfl⟩ : ∃ m, j = m + 1 := ⟨j - 1, by omega⟩
            exact .inr ⟨m, rfl, by go_num⟩
        case measure => simp [intOf]
      · gi_wp2
        refine bodyPost_ret (results_none rfl _ _ _) rfl ?_
        exact ⟨⟨_, rfl⟩, .inr ⟨_, hk, hJx3⟩⟩

set_option maxHeartbeats 1000000 in
theorem back_any (a : Option Addr) (len cap : Nat) (w : World) :
    Calls Try.prog 31 #[.slice a len cap] w fun e w' => e = .returned (.func (.func 42) #[] #[.pointer (some ⟨w.heap.size, 0, none⟩)]) ∧ w' = w.alloc (.cells #[.slice a len cap] 22) := by
  go_enter Try.func31, Try.ntmps31
  go_wp2
  go_ret
  exact ⟨rfl, rfl⟩

/-- The iterator's contract, for whatever keeps what it reads. -/
theorem back_stops (F : Fence) (n : Nat) (hF : F.fn 42) (hro : F.round = none) (hn : 1 ≤ n) (Bx len cap : Nat) (a : Option Addr) (V : Nat → GF → Prop) (hlen : len ≤ 140737488355328) (w : World)
    (hBx : Bx < w.heap.size) (hR : Rd Bx len a cap V w) (hlow : 0 < len → ∀ b off, a = some ⟨b, off, none⟩ → b < w.heap.size) :
    SeqStopsK F n Try.prog 42 #[.pointer (some ⟨Bx, 0, none⟩)] (itv (len := len)) (fun W W' => Rd Bx len a cap V W → Rd Bx len a cap V W') (fun ys => ys.length = len ∧ Bk len V ys) (Bk len V) len w := fun l J Jx W hW _ _ hY h0 => by
  refine back1_in F n hF hro hn l Bx len cap a V hlen J Jx hY W ⟨(hW.cell (p := ⟨Bx, 0, none⟩) hBx).trans hR.1, fun j hj => ?_⟩ h0
  obtain ⟨b, off, c, e, hV, hc⟩ := hR.2 j hj
  exact ⟨b, off, c, e, hV, (hW.cell (p := ⟨b, off + j, none⟩) (hlow (by omega) b off e)).trans hc⟩
end Go.Proofs.Ytgbcdmognobieaa
