/- slices.Chunk over words, four at a time: the contract of its iterator. -/
import Derived.Test.YtpfhfnhbholboaaKm
import Derived.Test.YtpfhfnhbholboaaKro
import Derived.RangeFuncNested
import Derived.RangeFuncBox
import Derived.RangeFuncCalls
import Derived.RangeFuncLeaves
import Derived.Shelf.Abstract
import Derived.Shelf.RegionOpen
import Derived.OwnWalkIn
import Derived.TacticsInMore
import Derived.LoopNIn
import Derived.LoopIn
import Derived.BigRegionIn
namespace Go.Proofs.Ytpfhfnhbholboaa
open Go.ChangeShapes Go.WideShapes Go.ChangeAt Go.RowKit Go.Shelf
set_option linter.unusedVariables false
set_option maxRecDepth 100000
attribute [local go_sem] Oper.semAt_some

/-- What a round is handed: four of the words. -/
def cItv (g : Nat) {len : Nat} (x : Fin len) : Array Value := #[.slice (some ⟨g, 4 * x.1, none⟩) 4 4]
/-- The boxes hold the slice and the 4. -/
def cRd (Bx By g len cap : Nat) (W : World) : Prop :=
  W.cell? ⟨Bx, 0, none⟩ = some (.slice (some ⟨g, 0, none⟩) (4 * len) cap) ∧ W.cell? ⟨By, 0, none⟩ = some (.int .i64 4)
/-- What has come: the first ones, in their order. -/
def cBk (len : Nat) (pre : List (Fin len)) : Prop := pre.length ≤ len ∧ ∀ k (h : k < pre.length), (pre[k]).1 = k
theorem cBk.nil (len : Nat) : cBk len [] := ⟨Nat.zero_le _, fun k h => by simp at h⟩
theorem cBk.snoc {len : Nat} {pre : List (Fin len)} (h : cBk len pre) (x : Fin len) (hx : x.1 = pre.length) : cBk len (pre ++ [x]) := by
  refine ⟨by have := x.2; simp; omega, fun k hk => ?_⟩
  by_cases e : k < pre.length
  · rw [List.getElem_append_left e]; exact h.2 k e
  · have e2 : k = pre.length := by simp at hk; omega
    subst e2
    rw [List.getElem_append_right (Nat.le_refl _)]
    simp only [Nat.sub_self, List.getElem_cons_zero]
    exact hx
set_option maxHeartbeats 2000000 in
theorem chunk1_in (F : Fence) (n : Nat) (hF : F.fn 46) (hro : F.round = none) (hn : 1 ≤ n) (l Bx By g len cap : Nat) (hlen : 4 * len ≤ cap) (hcap : cap ≤ 9223372036854775807) (J Jx : List (Fin len) → World → Prop) (hJd : ∀ pre W, J pre W → J pre W.drew)
    (hY : ∀ pre x W, J pre W → pre.length < len → YieldAt F (n - 1) Try.prog l (cItv g x) W fun e W' =>
      (e = .returned (.bool true) ∧ J (pre ++ [x]) W' ∧ (cRd Bx By g len cap W → cRd Bx By g len cap W')) ∨ (e = .returned (.bool false) ∧ Jx (pre ++ [x]) W'))
    (W : World) (hR0 : cRd Bx By g len cap W) (h0 : J [] W) :
    CallsIn F n Try.prog 46 #[.func (.yield l) #[] #[], .pointer (some ⟨Bx, 0, none⟩), .pointer (some ⟨By, 0, none⟩)] W fun e W' => (∃ v, e = .returned v) ∧
      ((∃ ys, (ys.length = len ∧ cBk len ys) ∧ J ys W') ∨ (∃ pre, cBk len pre ∧ Jx pre W')) := by
  refine callsIn_of_wp Try.func46 rfl hF ?_ hro
  simp only [Try.ntmps46, List.size_toArray, List.length_cons, List.length_nil, Nat.reduceAdd, Nat.reduceSub, Array.replicate_succ, Array.replicate_zero, List.push_toArray, List.append_toArray, List.nil_append, List.cons_append]
  gi_wp2
  gi_loopw [4] (fun i wr => ∃ (j : Nat) (pre : List (Fin len)), pre.length = j ∧ cBk len pre ∧ i = .int .i64 ((4 * j : Nat) : Int) ∧ J pre wr ∧ cRd Bx By g len cap wr)
    (fun i _ => 4 * len - (intOf i).toNat)
  case atStart => exact ⟨0, [], rfl, cBk.nil _, rfl, h0, hR0⟩
  case round =>
    obtain ⟨j, pre, hpl, hbk, rfl, hJs, hRd⟩ := hrel
    have hbx := hRd.1
    have hby := hRd.2
    by_cases hlt : j < len
    · have hjl : j < len := hlt
      obtain ⟨fn, tmps, assign, body, hy, hR⟩ := hY pre ⟨j, hjl⟩ wr.drew (hJd _ _ hJs) (by omega)
      dsimp only [cItv] at hy
      have hk := hbk.snoc ⟨j, hjl⟩ (by show j = _; omega)
      obtain ⟨q, hq⟩ : ∃ q, q = 4 * j := ⟨_, rfl⟩
      obtain ⟨N, hN⟩ : ∃ N, N = 4 * len := ⟨_, rfl⟩
      rw [← hq] at hy ⊢
      rw [← hN] at hbx
      have q1 : (q : Int) < (N : Int) := by omega
      have q2 : (0 : Int) ≤ (q : Int) := by omega
      have q3 : q + 4 ≤ N := by omega
      have q4 : (q : Int) + 4 ≤ (N : Int) := by omega
      have q5 : (N : Int) ≤ (cap : Int) := by omega
      have q6 : (cap : Int) ≤ 9223372036854775807 := by omega
      have q7 : q ≤ N := by omega
      have q8 : ¬ (((N - q : Nat) : Int) < 4) := by omega
      have q9 : (((N - q : Nat) : Int) < 4) = False := by simp; omega
      have q10 : (cap = q) = False := by simp; omega
      have HQ := Lib.hid hq
      have HN := Lib.hid hN
      have HK := Lib.hid hk
      clear hq hN hk
      gi_wp2
      gi_region
      all_goals gi_wp2
      all_goals
        refine hR.mono ?_
        rintro e W3 (⟨rfl, hJ3, hk3⟩ | ⟨rfl, hJx3⟩)
        · have hby3 := (hk3 hRd).2
          gi_wp2
          go_roundw
          case rel => exact ⟨j + 1, _, by simp; omega, HK.out, congrArg (Value.int .i64) (by have := HQ.out; omega), hJ3, hk3 hRd⟩
          case measure => simp [intOf]; have := HQ.out; omega
        · gi_wp2
          refine bodyPost_ret (results_none rfl _ _ _) rfl ?_
          exact ⟨⟨_, rfl⟩, .inr ⟨_, HK.out, hJx3⟩⟩
    · obtain rfl : j = len := by have := hbk.1; omega
      obtain ⟨N, hN⟩ : ∃ N, N = 4 * j := ⟨_, rfl⟩
      rw [← hN] at hbx ⊢
      have HN := Lib.hid hN
      clear hN
      gi_wp2
      go_end0
      exact ⟨⟨_, rfl⟩, .inl ⟨pre, ⟨hpl, hbk⟩, hJs⟩⟩
theorem chunk_any (a : Option Addr) (len cap : Nat) (w : World) :
    Calls Try.prog 26 #[.slice a len cap, .int .i64 4] w fun e w' => e = .returned (.func (.func 46) #[] #[.pointer (some ⟨w.heap.size, 0, none⟩), .pointer (some ⟨w.heap.size + 1, 0, none⟩)]) ∧
      w' = (w.alloc (.cells #[.slice a len cap] 64)).alloc (.cells #[.int .i64 4] 3) := by
  go_enter Try.func26, Try.ntmps26
  go_wp2
  go_ret
  exact ⟨by simp, rfl⟩
theorem cRd.on {W W' : World} {Bx By g len cap : Nat} (h : cRd Bx By g len cap W) {B : Nat} (hb : Below B W W') (h1 : Bx < B) (h2 : By < B) : cRd Bx By g len cap W' :=
  ⟨(hb.cell (p := ⟨Bx, 0, none⟩) h1).trans h.1, (hb.cell (p := ⟨By, 0, none⟩) h2).trans h.2⟩
theorem chunk_stops (F : Fence) (n : Nat) (hF : F.fn 46) (hro : F.round = none) (hn : 1 ≤ n) (Bx By g len cap : Nat) (hlen : 4 * len ≤ cap) (hcap : cap ≤ 9223372036854775807) (w : World)
    (hBx : Bx < w.heap.size) (hBy : By < w.heap.size) (hR : cRd Bx By g len cap w) :
    SeqStopsK F n Try.prog 46 #[.pointer (some ⟨Bx, 0, none⟩), .pointer (some ⟨By, 0, none⟩)] (cItv g (len := len)) (fun W W' => cRd Bx By g len cap W → cRd Bx By g len cap W') (fun ys => ys.length = len ∧ cBk len ys) (cBk len) len w := fun l J Jx W hW hJ _ hY h0 =>
  chunk1_in F n hF hro hn l Bx By g len cap hlen hcap J Jx (fun pre W h => hJ pre W W.drew none h (drew_but W none) (fun _ e => by cases e)) hY W (hR.on hW hBx hBy) h0
end Go.Proofs.Ytpfhfnhbholboaa
