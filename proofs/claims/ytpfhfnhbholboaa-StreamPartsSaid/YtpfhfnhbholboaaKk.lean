/- slices.Backward over a slice of squares that nobody writes: the contract of its iterator. -/
import Derived.Test.YtpfhfnhbholboaaKj
import Derived.RangeFuncNested
import Derived.RangeFuncBox
import Derived.RangeFuncCalls
import Derived.RangeFuncLeaves
import Derived.Shelf.Abstract
import Derived.Shelf.RegionOpen
import Derived.OwnWalkIn
import Derived.TacticsInMore
import Derived.LoopNIn
import Derived.LoopIn
namespace Go.Proofs.Ytpfhfnhbholboaa
open Go.ChangeShapes Go.WideShapes Go.ChangeAt Go.RowKit Go.Shelf
set_option linter.unusedVariables false
set_option maxRecDepth 100000
attribute [local go_sem] Oper.semAt_some

/-- What a round is handed: a place, and the square there. -/
def qItv (K : Nat → Nat → Nat → Nat) {len : Nat} (x : Fin len) : Array Value := #[.int .i64 ((x.1 : Nat) : Int), .agg (sqL4 (K x.1)).toArray]
/-- The box holds the slice, and the squares stand there. -/
def qRd (Bx g o len cap : Nat) (K : Nat → Nat → Nat → Nat) (W : World) : Prop :=
  W.cell? ⟨Bx, 0, none⟩ = some (.slice (some ⟨g, o, none⟩) len cap) ∧ ∀ j, j < len → W.rangeAt g (o + j * 4) (sqL4 (K j))
/-- What has come: the last ones, from the last on. -/
def qBk (len : Nat) (pre : List (Fin len)) : Prop := pre.length ≤ len ∧ ∀ k (h : k < pre.length), (pre[k]).1 = len - 1 - k
theorem qBk.nil (len : Nat) : qBk len [] := ⟨Nat.zero_le _, fun k h => by simp at h⟩
theorem qBk.snoc {len : Nat} {pre : List (Fin len)} (h : qBk len pre) (x : Fin len) (hl : pre.length < len) (hx : x.1 = len - 1 - pre.length) : qBk len (pre ++ [x]) := by
  refine ⟨by simp; omega, fun k hk => ?_⟩
  by_cases e : k < pre.length
  · rw [List.getElem_append_left e]; exact h.2 k e
  · have e2 : k = pre.length := by simp at hk; omega
    subst e2
    rw [List.getElem_append_right (Nat.le_refl _)]
    simp only [Nat.sub_self, List.getElem_cons_zero]
    exact hx
set_option maxHeartbeats 2000000 in
theorem backq1_in (F : Fence) (n : Nat) (hF : F.fn 54) (hro : F.round = none) (hn : 1 ≤ n) (l Bx g o len cap : Nat) (K : Nat → Nat → Nat → Nat) (hlen : len ≤ 140737488355328) (J Jx : List (Fin len) → World → Prop)
    (hY : ∀ pre x W, J pre W → pre.length < len → YieldAt F (n - 1) Try.prog l (qItv K x) W fun e W' =>
      (e = .returned (.bool true) ∧ J (pre ++ [x]) W' ∧ (qRd Bx g o len cap K W → qRd Bx g o len cap K W')) ∨ (e = .returned (.bool false) ∧ Jx (pre ++ [x]) W'))
    (W : World) (hR0 : qRd Bx g o len cap K W) (h0 : J [] W) :
    CallsIn F n Try.prog 54 #[.func (.yield l) #[] #[], .pointer (some ⟨Bx, 0, none⟩)] W fun e W' => (∃ v, e = .returned v) ∧
      ((∃ ys, (ys.length = len ∧ qBk len ys) ∧ J ys W') ∨ (∃ pre, qBk len pre ∧ Jx pre W')) := by
  refine callsIn_of_wp Try.func54 rfl hF ?_ hro
  simp only [Try.ntmps54, List.size_toArray, List.length_cons, List.length_nil, Nat.reduceAdd, Nat.reduceSub, Array.replicate_succ, Array.replicate_zero, List.push_toArray, List.append_toArray, List.nil_append, List.cons_append]
  have hb := hR0.1
  gi_wp2
  gi_loopw [3] (fun i wr => ∃ (r : Nat) (pre : List (Fin len)), pre.length + r = len ∧ qBk len pre ∧ ((r = 0 ∧ i = .int .i64 (-1)) ∨ ∃ j : Nat, r = j + 1 ∧ i = .int .i64 (j : Int)) ∧ J pre wr ∧ qRd Bx g o len cap K wr)
    (fun i _ => (intOf i + 1).toNat)
  case atStart =>
    refine ⟨len, [], by simp, qBk.nil _, ?_, h0, hR0⟩
    rcases Nat.eq_zero_or_pos len with e | e
    · subst e; exact .inl ⟨rfl, by go_num⟩
    · obtain ⟨j, rfl⟩ : ∃ j, len = j + 1 := ⟨len - 1, by omega⟩
      exact .inr ⟨j, rfl, by go_num⟩
  case round =>
    obtain ⟨r, pre, hpl, hbk, hi, hJs, hRd⟩ := hrel
    rcases hi with ⟨rfl, rfl⟩ | ⟨j, rfl, rfl⟩
    · gi_wp2
      go_end0
      exact ⟨⟨_, rfl⟩, .inl ⟨pre, ⟨by omega, hbk⟩, hJs⟩⟩
    · have hbx := hRd.1
      have hjl : j < len := by omega
      have HR := Lib.hid (hRd.2 j hjl)
      have hca : ∀ c, c < 4 → wr.cell? ⟨g, o + j * 4 + c, none⟩ = some (sqc (K j) c) := fun c hc => HR.out c _ (by simp [sqL4, hc])
      have hc0 : wr.cell? ⟨g, o + j * 4, none⟩ = some (sqc (K j) 0) := hca 0 (by omega)
      have hc1 := hca 1 (by omega)
      have hc2 := hca 2 (by omega)
      have hc3 := hca 3 (by omega)
      obtain ⟨fn, tmps, assign, body, hy, hR⟩ := hY pre ⟨j, hjl⟩ wr hJs (by omega)
      dsimp only [qItv] at hy
      rw [show (sqL4 (K j)).toArray = #[sqc (K j) 0, sqc (K j) 1, sqc (K j) 2, sqc (K j) 3] from rfl] at hy
      have q1 : (j : Int) < (len : Int) := by omega
      have q2 : (0 : Int) ≤ (j : Int) := by omega
      have hk := hbk.snoc ⟨j, hjl⟩ (by omega) (by show j = _; omega)
      clear hca
      gi_wp2
      refine hR.mono ?_
      rintro e W3 (⟨rfl, hJ3, hk3⟩ | ⟨rfl, hJx3⟩)
      · gi_wp2
        go_roundw
        case rel =>
          refine ⟨j, _, by simp; omega, hk, ?_, hJ3, hk3 hRd⟩
          rcases Nat.eq_zero_or_pos j with e | e
          · subst e; exact .inl ⟨rfl, by go_num⟩
          · obtain ⟨m, rfl⟩ : ∃ m, j = m + 1 := ⟨j - 1, by omega⟩
            exact .inr ⟨m, rfl, by go_num⟩
        case measure => simp [intOf]
      · gi_wp2
        refine bodyPost_ret (results_none rfl _ _ _) rfl ?_
        exact ⟨⟨_, rfl⟩, .inr ⟨_, hk, hJx3⟩⟩
theorem backq_any (v : Value) (w : World) (a : Option Addr) (len cap : Nat) :
    Calls Try.prog 34 #[.slice a len cap] w fun e w' => e = .returned (.func (.func 54) #[] #[.pointer (some ⟨w.heap.size, 0, none⟩)]) ∧ w' = w.alloc (.cells #[.slice a len cap] 57) := by
  go_enter Try.func34, Try.ntmps34
  go_wp2
  go_ret
  exact ⟨rfl, rfl⟩
theorem qRd.on {W W' : World} {Bx g o len cap : Nat} {K : Nat → Nat → Nat → Nat} (h : qRd Bx g o len cap K W) {B : Nat} (hb : Below B W W') (h1 : Bx < B) (h2 : g < B) : qRd Bx g o len cap K W' :=
  ⟨(hb.cell (p := ⟨Bx, 0, none⟩) h1).trans h.1, fun j hj k v hv => (hb.cell (p := ⟨g, o + j * 4 + k, none⟩) h2).trans (h.2 j hj k v hv)⟩
theorem backq_stops (F : Fence) (n : Nat) (hF : F.fn 54) (hro : F.round = none) (hn : 1 ≤ n) (Bx g o len cap : Nat) (K : Nat → Nat → Nat → Nat) (hlen : len ≤ 140737488355328) (w : World)
    (hBx : Bx < w.heap.size) (hg : g < w.heap.size) (hR : qRd Bx g o len cap K w) :
    SeqStopsK F n Try.prog 54 #[.pointer (some ⟨Bx, 0, none⟩)] (qItv K (len := len)) (fun W W' => qRd Bx g o len cap K W → qRd Bx g o len cap K W') (fun ys => ys.length = len ∧ qBk len ys) (qBk len) len w := fun l J Jx W hW _ _ hY h0 =>
  backq1_in F n hF hro hn l Bx g o len cap K hlen J Jx hY W (hR.on hW hBx hg) h0
end Go.Proofs.Ytpfhfnhbholboaa
