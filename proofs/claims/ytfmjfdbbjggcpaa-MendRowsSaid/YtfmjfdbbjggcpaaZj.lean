/- Contracts of slices.Chunk over bytes, one at a time, and of slices.Collect of these: rows of one number each. -/
import Derived.Test.YtfmjfdbbjggcpaaZi
import Derived.RangeFuncNested
import Derived.RangeFuncBox
import Derived.RangeFuncCalls
import Derived.RangeFuncLeaves
import Derived.Shelf.Abstract
import Derived.Shelf.RegionOpen
import Derived.OwnWalkIn
import Derived.TacticsInMore
import Derived.LoopNIn
import Derived.LoopIn
import Derived.BigRegionIn
import Derived.Maps.AppendAt
namespace Go.Proofs.Ytfmjfdbbjggcpaa
open Go.ChangeShapes Go.WideShapes Go.ChangeAt Go.RowKit Go.Shelf GF
set_option linter.unusedVariables false
set_option linter.unusedSimpArgs false
set_option maxRecDepth 100000
attribute [local go_sem] Oper.semAt_some

theorem drewB (w : World) (g : Option Nat) : w.grownBy w.drew g := ⟨rfl, rfl, rfl, Nat.le_refl _, fun _ _ _ => rfl⟩
/-- What the boxes hold: the slice, and the 1. -/
def ChR (n₀ Bx By b off N c : Nat) (W : World) : Prop := Bx < n₀ ∧ By < n₀ ∧ W.cell? ⟨Bx, 0, none⟩ = some (.slice (some ⟨b, off, none⟩) N c) ∧ W.cell? ⟨By, 0, none⟩ = some (.int .i64 1)
theorem ChR.below {n₀ Bx By b off N c : Nat} {W W' : World} (h : ChR n₀ Bx By b off N c W) (hb : Below n₀ W W') : ChR n₀ Bx By b off N c W' :=
  ⟨h.1, h.2.1, (hb.cell (p := ⟨Bx, 0, none⟩) h.1).trans h.2.2.1, (hb.cell (p := ⟨By, 0, none⟩) h.2.1).trans h.2.2.2⟩
def chV (b off x : Nat) : Value := .slice (some ⟨b, off + x, none⟩) 1 1
set_option maxHeartbeats 4000000 in
theorem chB_in (F : Fence) (n : Nat) (hF : F.fn 41) (hro : F.round = none) (hn : 1 ≤ n) (l n₀ Bx By b off N c : Nat) (hc1 : N ≤ c) (hc2 : c ≤ 9223372036854775807) (hN : N ≤ 1000) (J Jx : List Nat → World → Prop) (hJd : ∀ pre W, J pre W → J pre W.drew)
    (hY : ∀ pre x W, J pre W → pre.length < N → YieldAt F (n - 1) Try.prog l #[chV b off x] W fun e W' =>
      (e = .returned (.bool true) ∧ J (pre ++ [x]) W' ∧ Below n₀ W W') ∨ (e = .returned (.bool false) ∧ Jx (pre ++ [x]) W'))
    (W : World) (hR0 : ChR n₀ Bx By b off N c W) (h0 : J [] W) :
    CallsIn F n Try.prog 41 #[.func (.yield l) #[] #[], .pointer (some ⟨Bx, 0, none⟩), .pointer (some ⟨By, 0, none⟩)] W fun e W' => (∃ v, e = .returned v) ∧
      ((∃ ys, ys = List.range N ∧ J ys W') ∨ (∃ pre, pre <+: List.range N ∧ Jx pre W')) := by
  refine callsIn_of_wp Try.func41 rfl hF ?_ hro
  simp only [Try.ntmps41, List.size_toArray, List.length_cons, List.length_nil, Nat.reduceAdd, Nat.reduceSub, Array.replicate_succ, Array.replicate_zero, List.push_toArray, List.append_toArray, List.nil_append, List.cons_append]
  gi_wp2
  gi_loopw [4] (fun i wr => ∃ j : Nat, j ≤ N ∧ i = .int .i64 (j : Nat) ∧ J (List.range j) wr ∧ ChR n₀ Bx By b off N c wr)
    (fun i _ => N - (intOf i).toNat)
  case atStart => exact ⟨0, Nat.zero_le _, rfl, h0, hR0⟩
  case round =>
    obtain ⟨q, hq, rfl, hJs, hRd⟩ := hrel
    have hbx := hRd.2.2.1
    have hby := hRd.2.2.2
    by_cases hlt : q < N
    · obtain ⟨fn, tmps, assign, body, hy, hR⟩ := hY (List.range q) q wr.drew (hJd _ _ hJs) (by rw [List.length_range]; exact hlt)
      rw [← List.range_succ] at hR
      dsimp only [chV] at hy
      have HK := Lib.hid (show List.range (q + 1) <+: List.range N from by
        have : List.range (q + 1) = (List.range N).take (q + 1) := by rw [List.take_range, Nat.min_eq_left (by omega)]
        rw [this]; exact List.take_prefix _ _)
      have q1 : (q : Int) < (N : Int) := by omega
      have q2 : (0 : Int) ≤ (q : Int) := by omega
      have q3 : q + 1 ≤ N := by omega
      have q4 : (q : Int) + 1 ≤ (N : Int) := by omega
      have q5 : (N : Int) ≤ (c : Int) := by omega
      have q6 : (c : Int) ≤ 9223372036854775807 := by omega
      have q7 : q ≤ N := by omega
      have q8 : ¬ (((N - q : Nat) : Int) < 1) := by omega
      have q9 : (((N - q : Nat) : Int) < 1) = False := by simp; omega
      have q10 : (c = q) = False := by simp; omega
      have HRD := Lib.hid hRd
      clear hRd hlt
      gi_wp2
      gi_region
      all_goals gi_wp2
      all_goals
        refine hR.mono ?_
        rintro e W3 (⟨rfl, hJ3, hk3⟩ | ⟨rfl, hJx3⟩)
        · have hrd3 := HRD.out.below (show Below n₀ wr W3 from (below_drewN (Below.refl _ _) 1).trans hk3)
          have hby3 := hrd3.2.2.2
          gi_wp2
          go_roundw
          case rel => exact ⟨q + 1, by omega, by go_num, hJ3, hrd3⟩
          case measure => simp [intOf]; omega
        · gi_wp2
          refine bodyPost_ret (results_none rfl _ _ _) rfl ?_
          exact ⟨⟨_, rfl⟩, .inr ⟨_, HK.out, hJx3⟩⟩
    · obtain rfl : q = N := by omega
      gi_wp2
      go_end0
      exact ⟨⟨_, rfl⟩, .inl ⟨_, rfl, hJs⟩⟩
theorem chB_any (a : Option Addr) (len cap : Nat) (w : World) :
    Calls Try.prog 23 #[.slice a len cap, .int .i64 1] w fun e w' => e = .returned (.func (.func 41) #[] #[.pointer (some ⟨w.heap.size, 0, none⟩), .pointer (some ⟨w.heap.size + 1, 0, none⟩)]) ∧
      w' = (w.alloc (.cells #[.slice a len cap] 22)).alloc (.cells #[.int .i64 1] 3) := by
  go_enter Try.func23, Try.ntmps23
  go_wp2
  go_ret
  exact ⟨by simp, rfl⟩
theorem chB_stops (F : Fence) (n : Nat) (hF : F.fn 41) (hro : F.round = none) (hn : 1 ≤ n) (n₀ Bx By b off N c : Nat) (hc1 : N ≤ c) (hc2 : c ≤ 9223372036854775807) (hN : N ≤ 1000) (w : World) (hn₀ : n₀ ≤ w.heap.size) (hR : ChR n₀ Bx By b off N c w) :
    SeqStopsK F n Try.prog 41 #[.pointer (some ⟨Bx, 0, none⟩), .pointer (some ⟨By, 0, none⟩)] (fun x : Nat => #[chV b off x]) (Below n₀) (fun ys => ys = List.range N) (fun pre => pre <+: List.range N) N w := fun l J Jx W hW hJ _ hY h0 =>
  chB_in F n hF hro hn l n₀ Bx By b off N c hc1 hc2 hN J Jx (fun pre W h => hJ pre W W.drew none h (drewB W none) (fun _ e => by cases e)) hY W (hR.below (hW.mono hn₀)) h0

/-! ## AppendSeq, Collect -/
set_option maxHeartbeats 4000000 in
theorem appSeqR_in (F : Fence) (n : Nat) (h50 : F.fn 40) (h46 : F.fn 41) (hro : F.round = none) (hn : 2 ≤ n) (Bx By b off N c : Nat) (hc1 : N ≤ c) (hc2 : c ≤ 9223372036854775807) (hN : N ≤ 1000) (w : World) (hR : ChR w.heap.size Bx By b off N c w) :
    CallsIn F n Try.prog 40 #[.slice none 0 0, .func (.func 41) #[] #[.pointer (some ⟨Bx, 0, none⟩), .pointer (some ⟨By, 0, none⟩)]] w fun e W' => ∃ v, e = .returned v ∧ W'.ownsRow w.heap.size 22 1 v N ((List.range N).map (chV b off)) ∧ Below w.heap.size w W' := by
  have h1 : 1 ≤ n := by omega
  obtain ⟨i0, hi, hz0, hz1, hz2⟩ := info_parts infoR
  refine callsIn_of_wp_marks Try.func40 rfl h50 ?_ hro
  simp only [Try.ntmps40, List.size_toArray, List.length_cons, List.length_nil, Nat.reduceAdd, Nat.reduceSub, Array.replicate_succ, Array.replicate_zero, List.push_toArray, List.append_toArray, List.nil_append, List.cons_append]
  gi_wp2
  have bO := Boxed.new w 40 (.slice none 0 0)
  have hB0 : Below w.heap.size w (w.alloc (.cells #[.slice none 0 0] 40)) := (Below.refl _ w).alloc (Nat.le_refl _) _
  refine wpIn_rangeFunc_ownG hro h1 (gf := 41) (lb := #[.pointer (some ⟨Bx, 0, none⟩), .pointer (some ⟨By, 0, none⟩)]) rfl h46 (enters_of Try.func41 (by kernel_rfl) rfl)
    (chB_stops F (n - 1) h46 hro (by omega) w.heap.size Bx By b off N c hc1 hc2 hN _ (by simp) (hR.below hB0)) belowK_t (belowK_b (by simp)) (Below.refl _ _) (fun _ => rfl)
    (fun (pre : List Nat) W => (∃ v, Boxed W w.heap.size 40 v ∧ W.ownsRow w.heap.size 22 1 v pre.length (pre.map (chV b off)) ∧ True) ∧ Below w.heap.size w W)
    (fun _ _ _ => False)
    (OwnFrom.and (Own.from (holdsRow_own w.heap.size w.heap.size 40 22 1 (fun (pre : List Nat) => pre.length) (fun pre => pre.map (chV b off)) (fun _ _ => True)) _) (ownFrom_below (Nat.le_refl _) (by simp)))
    (fun _ _ _ _ _ hs _ _ => hs)
    ⟨⟨_, bO, World.ownsRow_nil _ _ _ _, trivial⟩, hB0⟩
    (fun x => { tmps := #[.slice none 0 0, .func (.func 41) #[] #[.pointer (some ⟨Bx, 0, none⟩), .pointer (some ⟨By, 0, none⟩)], .pointer (some ⟨w.heap.size, 0, none⟩), undef, .slice none 0 0, chV b off x, .func (.func 41) #[] #[.pointer (some ⟨Bx, 0, none⟩), .pointer (some ⟨By, 0, none⟩)], chV b off x, undef, undef, undef, undef, undef], defers := [] }) ?assign ?body ?done ?stop
  case assign =>
    intro l x W K hK
    dsimp only [chV] at hK ⊢
    gi_wp2
    exact hK
  case body =>
    rintro l pre x W ⟨⟨v, hv, hrow, -⟩, hB⟩ hlt
    have hcv := hv.cell
    dsimp only [chV]
    gi_wp2_with (gi_at_builtin; refine wpListIn_append_own _ rfl _ _ 40 rfl w.heap.size 22 i0 (.slice none 0 0) 1 24 Try.underlying40 hi hz0 hz1 hz2 rfl (by decide) _ _ _ rfl (hrow.alloc _) ⟨W.heap.size, 0, none⟩ 1 1 [.slice (some ⟨b, off + x, none⟩) 1 1] rfl rfl (cell_one_new _ _ _) (by simp [Value.oneCell']) (by unfold maxLen; omega) (by omega) (by have := hB.size; simp; omega) ?_; intro v' w1 hown' hgrow _; obtain ⟨g', cap', rfl⟩ := ownsRow_succ hown'; obtain ⟨hv1, hv2, hr2, hk2, hb2⟩ := hv.appended (by decide) hrow hB.size (Nat.le_refl _) hown' hgrow; have hc1 := hv1.cell; have hf1 := hv1.frozen)
    exact ⟨hk2.from _, hb2, ⟨_, hv2, by simpa [chV] using hr2, trivial⟩, hB.trans hb2⟩
  case done =>
    rintro D ys W hD rfl ⟨⟨v, hv, hrow, -⟩, hB⟩ hK
    have hcv := hv.cell
    gi_wp2
    refine ⟨by simp, .inl ⟨_, _, rfl, run_takeDeferred hK, ?_⟩⟩
    refine ⟨_, results_tmp rfl _ _ _, v, rfl, ?_, hB.trans (belowK_b (w := w) (Nat.le_refl _) W D _ _ (by simp at hD; omega) hK rfl rfl)⟩
    rw [List.length_range] at hrow
    exact ownsRow_putObj hrow _ hK rfl
  case stop =>
    rintro D c pre W _ _ h _
    exact h.elim
/-- Rows of one number each. -/
def oneR (Y : List GF) : List (List GF) := Y.map fun y => [y]
theorem oneR_row {Y : List GF} {i : Nat} (h : i < Y.length) : rw_ (oneR Y) i = [co Y i] := by
  unfold rw_ oneR co; simp [List.getD_eq_getElem?_getD, h]
theorem oneR_len (Y : List GF) : (oneR Y).length = Y.length := by simp [oneR]
theorem collectR_any (Bx By b off N c : Nat) (Y : List GF) (hN : N ≤ 1000) (w : World) (hR : ChR w.heap.size Bx By b off N c w) (hY : Pa w (some ⟨b, off, none⟩) N c Y) :
    Calls Try.prog 22 #[.func (.func 41) #[] #[.pointer (some ⟨Bx, 0, none⟩), .pointer (some ⟨By, 0, none⟩)]] w fun e W' => ∃ a' c', e = .returned (.slice a' N c') ∧ Mat W' a' N c' (oneR Y) ∧ Below w.heap.size w W' := by
  have hbd := hY.bd
  have H := Lib.hid ((callsIn_wide (n := 3)).1 (appSeqR_in Fence.wide 3 trivial trivial rfl (by omega) Bx By b off N c hbd.1 hbd.2 hN w hR))
  have HY := Lib.hid hY
  clear hR hY
  go_enter Try.func22, Try.ntmps22
  go_wp2_with (go_at_call 40; go_loud (refine H.out.mono ?_; rintro e w2 ⟨v, rfl, ho, hb⟩; obtain ⟨a2, c2, hv2⟩ := own_sliceV ho; subst hv2; have HO := Lib.hid ho; have HB := Lib.hid hb; clear ho hb))
  go_ret
  have hY2 := HY.out.on HB.out
  have hl := hY2.len
  have hrv : RV w2 (fun _ => True) ((List.range N).map (chV b off)) (oneR Y) := by
    refine ⟨by simp [oneR_len, hl], fun i hi => ?_⟩
    rw [oneR_len, hl] at hi
    rw [oneR_row (by omega)]
    obtain ⟨b', o', e, hb, hc⟩ := hY2.at_ hi
    cases e
    refine ⟨some ⟨b, off + i, none⟩, 1, by simp [chV, hi], Nat.le_refl _, by unfold maxLen; omega, (fun e => by cases e), fun _ => ⟨b, off + i, rfl, hb, trivial, fun j hj => ?_⟩⟩
    obtain rfl : j = 0 := by simp at hj; omega
    rw [Nat.add_zero]
    exact hc
  obtain ⟨a3, c3, e3, hm⟩ := Mat.own HO.out hrv
  cases e3
  exact ⟨_, _, rfl, hm, HB.out⟩
end Go.Proofs.Ytfmjfdbbjggcpaa
