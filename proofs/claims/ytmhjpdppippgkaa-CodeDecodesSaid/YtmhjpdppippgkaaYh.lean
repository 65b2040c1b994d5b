/- Contracts of slices.Values, AppendSeq, Collect, Sorted at whole numbers, and of code's repeated and numbers. -/
import Derived.Test.YtmhjpdppippgkaaYd
import Derived.Test.YtmhjpdppippgkaaShelf
import Derived.Sort.OwnSortedInts
import Derived.RangeFuncBox
import Derived.RangeFuncLeaves
import Derived.Shelf.Abstract
import Derived.OwnWalkIn
import Derived.TacticsInMore
import Derived.LoopNIn
import Derived.LoopIn
import Derived.Maps.AppendAt
namespace Go.Proofs.Ytmhjpdppippgkaa
open Go.ChangeShapes Go.WideShapes Go.ChangeAt Go.RowKit Go.Shelf GF
set_option linter.unusedVariables false
set_option linter.unusedSimpArgs false
set_option maxRecDepth 100000
attribute [local go_sem] Oper.semAt_some

/-! ## plain: sorted numbers, and which are repeated -/
theorem compact_less {zs : List Int} (hs : zs.Pairwise (· ≤ ·)) : (Lib.compact zs).length < zs.length ↔ ¬ zs.Nodup := by
  have hlen : (Lib.compact zs).length = ((List.range zs.length).filter (Lib.keeps zs.toArray)).length := by simp [Lib.compact, Lib.compactUpTo]
  have hle : ((List.range zs.length).filter (Lib.keeps zs.toArray)).length ≤ zs.length := by have := List.length_filter_le (Lib.keeps zs.toArray) (List.range zs.length); simpa using this
  have hall : ((List.range zs.length).filter (Lib.keeps zs.toArray)).length = zs.length ↔ ∀ j, j < zs.length → Lib.keeps zs.toArray j = true := by
    have := @List.length_filter_eq_length_iff _ (Lib.keeps zs.toArray) (List.range zs.length)
    rw [List.length_range] at this
    rw [this]
    exact ⟨fun h j hj => h j (List.mem_range.2 hj), fun h j hj => h j (List.mem_range.1 hj)⟩
  have hk : ∀ j (h : j < zs.length), Lib.keeps zs.toArray j = true ↔ (j = 0 ∨ ∃ h0 : 0 < j, zs[j] ≠ zs[j - 1]) := fun j h => by
    unfold Lib.keeps
    rw [decide_eq_true_eq]
    by_cases h0 : j = 0
    · simp [h0]
    · have e1 : zs.toArray[j]! = zs[j] := by simp [h]
      have e2 : zs.toArray[j - 1]! = zs[j - 1] := by simp [show j - 1 < zs.length by omega]
      rw [e1, e2]
      exact or_congr Iff.rfl ⟨fun h => ⟨by omega, h⟩, fun ⟨_, h⟩ => h⟩
  rw [hlen]
  constructor
  · intro hlt hnd
    refine absurd (hall.2 fun j hj => ?_) (by omega)
    rw [hk j hj]
    by_cases h0 : j = 0
    · exact .inl h0
    · exact .inr ⟨by omega, fun e => absurd (List.pairwise_iff_getElem.1 hnd (j - 1) j (by omega) hj (by omega)) (fun hne => hne e.symm)⟩
  · intro hnd
    rcases Nat.lt_or_ge ((List.range zs.length).filter (Lib.keeps zs.toArray)).length zs.length with h | h
    · exact h
    · refine absurd (List.pairwise_iff_getElem.2 fun i j hi hj hij => ?_) hnd
      have h1 := (hk j hj).1 (hall.1 (by omega) j hj)
      rcases h1 with h1 | ⟨h0, h1⟩
      · omega
      · have h2 : zs[i] ≤ zs[j - 1] := by
          by_cases e : i = j - 1
          · subst e; exact Int.le_refl _
          · exact List.pairwise_iff_getElem.1 hs i (j - 1) hi (by omega) (by omega)
        have h3 := List.pairwise_iff_getElem.1 hs (j - 1) j (by omega) hj (by omega)
        omega
theorem sort_pair (ps : List Int) : (ps.mergeSort fun x y => decide (x ≤ y)).Pairwise (· ≤ ·) := by
  have := List.pairwise_mergeSort (le := fun x y : Int => decide (x ≤ y)) (fun a b c h1 h2 => by simp at *; omega) (fun a b => by simp; omega) ps
  exact this.imp fun h => by simpa using h
theorem sort_less (ps : List Int) : (Lib.compact (ps.mergeSort fun x y => decide (x ≤ y))).length < ps.length ↔ ¬ ps.Nodup := by
  have h := compact_less (sort_pair ps)
  rw [List.length_mergeSort] at h
  rw [h, (List.mergeSort_perm ps _).nodup_iff]
theorem apart_nodupI {ps : List Int} {t : Nat} (hl : ps.length = t) (hok : ∀ k, k < t → okP (ps.getD k 0)) : Apart (psG ps t) ↔ ps.Nodup := by
  have g : ∀ k (h : k < ps.length), ps.getD k 0 = ps[k] := fun k h => by simp [List.getD_eq_getElem?_getD, h]
  constructor
  · intro hA
    refine List.pairwise_iff_getElem.2 fun i j hi hj hij e => ?_
    refine hA j i (by rw [psG_len]; omega) hij ?_
    rw [psG_co (by omega), psG_co (by omega), g i hi, g j hj, e]
  · intro hn i j hi hj e
    rw [psG_len] at hi
    rw [psG_co hi, psG_co (by omega)] at e
    have e2 := toG_place (hok i hi) (hok j (by omega)) e
    rw [g i (by omega), g j (by omega)] at e2
    exact absurd e2 (fun h => List.pairwise_iff_getElem.1 hn j i (by omega) (by omega) hj h.symm)

/-! ## slices.Values: its iterator -/
def RdI (n₀ N cX : Nat) (aX : Option Addr) (ps : List Int) (W : World) : Prop := ∀ j, j < N → ∃ b off, aX = some ⟨b, off, none⟩ ∧ b < n₀ ∧ W.cell? ⟨b, off + j, none⟩ = some (.int .i64 (ps.getD j 0))
theorem RdI.below {n₀ N cX : Nat} {aX : Option Addr} {ps : List Int} {W W' : World} (h : RdI n₀ N cX aX ps W) (hb : Below n₀ W W') : RdI n₀ N cX aX ps W' := fun j hj => by
  obtain ⟨b, off, e, hlt, hc⟩ := h j hj
  exact ⟨b, off, e, hlt, (hb.cell (p := ⟨b, off + j, none⟩) hlt).trans hc⟩
theorem take_nextI {ps : List Int} {k : Nat} (h : k < ps.length) : ps.take (k + 1) = ps.take k ++ [ps.getD k 0] := by
  rw [List.take_add_one, List.getElem?_eq_getElem h]; simp [List.getD_eq_getElem?_getD, h]
set_option maxHeartbeats 2000000 in
theorem valI_in (F : Fence) (n : Nat) (hF : F.fn 46) (hro : F.round = none) (hn : 1 ≤ n) (l Bs n₀ N cX : Nat) (aX : Option Addr) (ps : List Int) (hl : ps.length = N) (hN : N ≤ 1000) (J Jx : List Int → World → Prop)
    (hY : ∀ pre x W, J pre W → pre.length < N → YieldAt F (n - 1) Try.prog l #[.int .i64 x] W fun e W' =>
      (e = .returned (.bool true) ∧ J (pre ++ [x]) W' ∧ Below n₀ W W') ∨ (e = .returned (.bool false) ∧ Jx (pre ++ [x]) W'))
    (W : World) (hBs : W.cell? ⟨Bs, 0, none⟩ = some (.slice aX N cX)) (hR : RdI n₀ N cX aX ps W) (h0 : J [] W) :
    CallsIn F n Try.prog 46 #[.func (.yield l) #[] #[], .pointer (some ⟨Bs, 0, none⟩)] W fun e W' => (∃ v, e = .returned v) ∧
      ((∃ ys, ys = ps ∧ J ys W') ∨ (∃ pre, pre <+: ps ∧ Jx pre W')) := by
  refine callsIn_of_wp Try.func46 rfl hF ?_ hro
  simp only [Try.ntmps46, List.size_toArray, List.length_cons, List.length_nil, Nat.reduceAdd, Nat.reduceSub, Array.replicate_succ, Array.replicate_zero, List.push_toArray, List.append_toArray, List.nil_append, List.cons_append]
  gi_wp2
  gi_loopw [7] (fun i wr => ∃ k : Nat, k ≤ N ∧ i = .int .i64 (k : Nat) ∧ J (ps.take k) wr ∧ RdI n₀ N cX aX ps wr)
    (fun i _ => N - (intOf i).toNat)
  case atStart => exact ⟨0, Nat.zero_le _, rfl, h0, hR⟩
  case round =>
    obtain ⟨k, hk, rfl, hJs, hRd⟩ := hrel
    by_cases hlt : k < N
    · obtain ⟨b, off, rfl, hb, hc⟩ := hRd k hlt
      obtain ⟨fn, tmps, assign, body, hy, hR2⟩ := hY (ps.take k) (ps.getD k 0) wr hJs (by rw [List.length_take]; omega)
      have q1 : (k : Int) < (N : Int) := by omega
      have q2 : (0 : Int) ≤ (k : Int) := by omega
      have HT := Lib.hid (take_nextI (ps := ps) (k := k) (by omega))
      obtain ⟨z, hz⟩ : ∃ z, z = ps.getD k 0 := ⟨_, rfl⟩
      rw [← hz] at hc hy hR2 HT
      have HP := Lib.hid (show ps.take (k + 1) <+: ps from List.take_prefix _ _)
      rw [← HT.out] at hR2
      clear hz
      gi_wp2
      refine hR2.mono ?_
      rintro e W3 (⟨rfl, hJ3, hk3⟩ | ⟨rfl, hJx3⟩)
      · gi_wp2
        go_roundw
        case rel => exact ⟨k + 1, by omega, by go_num, hJ3, hRd.below hk3⟩
        case measure => simp [intOf]; omega
      · gi_wp2
        refine bodyPost_ret (results_none rfl _ _ _) rfl ?_
        exact ⟨⟨_, rfl⟩, .inr ⟨_, HP.out, hJx3⟩⟩
    · obtain rfl : k = N := by omega
      gi_wp2
      go_end0
      exact ⟨⟨_, rfl⟩, .inl ⟨_, rfl, by rw [List.take_of_length_le (by omega)] at hJs; exact hJs⟩⟩
theorem valI_stops (F : Fence) (n : Nat) (hF : F.fn 46) (hro : F.round = none) (hn : 1 ≤ n) (Bs n₀ N cX : Nat) (aX : Option Addr) (ps : List Int) (hl : ps.length = N) (hN : N ≤ 1000) (w : World) (hBs : Bs < w.heap.size) (hn₀ : n₀ ≤ w.heap.size)
    (hc : w.cell? ⟨Bs, 0, none⟩ = some (.slice aX N cX)) (hR : RdI n₀ N cX aX ps w) :
    SeqStopsK F n Try.prog 46 #[.pointer (some ⟨Bs, 0, none⟩)] (fun x : Int => #[Value.int .i64 x]) (Below n₀) (fun ys => ys = ps) (fun pre => pre <+: ps) N w := fun l J Jx W hW _ _ hY h0 =>
  valI_in F n hF hro hn l Bs n₀ N cX aX ps hl hN J Jx hY W ((hW.cell (p := ⟨Bs, 0, none⟩) hBs).trans hc) (hR.below (hW.mono hn₀)) h0
set_option maxHeartbeats 1000000 in
theorem valI_any (a : Option Addr) (len cap : Nat) (w : World) :
    Calls Try.prog 39 #[.slice a len cap] w fun e w' => e = .returned (.func (.func 46) #[] #[.pointer (some ⟨w.heap.size, 0, none⟩)]) ∧ w' = w.alloc (.cells #[.slice a len cap] 37) := by
  go_enter Try.func39, Try.ntmps39
  go_wp2
  go_ret
  exact ⟨rfl, rfl⟩
theorem infoZ : (Try.prog.info? 3).map (fun i => (i.zero, i.size, i.bytes)) = some (some (.int .i64 0), 1, 8) := by kernel_rfl
set_option maxHeartbeats 4000000 in
theorem appSeq_in (F : Fence) (n : Nat) (h50 : F.fn 50) (h46 : F.fn 46) (hro : F.round = none) (hn : 2 ≤ n) (Bs N cX : Nat) (aX : Option Addr) (ps : List Int) (hN : N ≤ 1000) (w : World) (hBs : Bs < w.heap.size) (hc : w.cell? ⟨Bs, 0, none⟩ = some (.slice aX N cX)) (hX : IA w aX N cX ps) :
    CallsIn F n Try.prog 50 #[.slice none 0 0, .func (.func 46) #[] #[.pointer (some ⟨Bs, 0, none⟩)]] w fun e W' => ∃ v, e = .returned v ∧ W'.ownsRow w.heap.size 3 1 v N (ps.map (Value.int .i64)) ∧ Below w.heap.size w W' := by
  have h1 : 1 ≤ n := by omega
  have hl : ps.length = N := hX.1
  obtain ⟨i0, hi, hz0, hz1, hz2⟩ := info_parts infoZ
  have hR : RdI w.heap.size N cX aX ps w := fun j hj => by
    obtain ⟨b, off, e, hb, hcl⟩ := hX.at_ hj
    exact ⟨b, off, e, hb, hcl⟩
  refine callsIn_of_wp_marks Try.func50 rfl h50 ?_ hro
  simp only [Try.ntmps50, List.size_toArray, List.length_cons, List.length_nil, Nat.reduceAdd, Nat.reduceSub, Array.replicate_succ, Array.replicate_zero, List.push_toArray, List.append_toArray, List.nil_append, List.cons_append]
  gi_wp2
  have bO := Boxed.new w 37 (.slice none 0 0)
  have hB0 : Below w.heap.size w (w.alloc (.cells #[.slice none 0 0] 37)) := (Below.refl _ w).alloc (Nat.le_refl _) _
  refine wpIn_rangeFunc_ownG hro h1 (gf := 46) (lb := #[.pointer (some ⟨Bs, 0, none⟩)]) rfl h46 (enters_of Try.func46 (by kernel_rfl) rfl)
    (valI_stops F (n - 1) h46 hro (by omega) Bs w.heap.size N cX aX ps hl hN _ (by simp; omega) (by simp) ((hB0.cell (p := ⟨Bs, 0, none⟩) hBs).trans hc) (hR.below hB0)) belowK_t (belowK_b (by simp)) (Below.refl _ _) (fun _ => rfl)
    (fun (pre : List Int) W => (∃ v, Boxed W w.heap.size 37 v ∧ W.ownsRow w.heap.size 3 1 v pre.length (pre.map (Value.int .i64)) ∧ True) ∧ Below w.heap.size w W)
    (fun _ _ _ => False)
    (OwnFrom.and (Own.from (holdsRow_own w.heap.size w.heap.size 37 3 1 (fun (pre : List Int) => pre.length) (fun pre => pre.map (Value.int .i64)) (fun _ _ => True)) _) (ownFrom_below (Nat.le_refl _) (by simp)))
    (fun _ _ _ _ _ hs _ _ => hs)
    ⟨⟨_, bO, World.ownsRow_nil _ _ _ _, trivial⟩, hB0⟩
    (fun x => { tmps := #[.slice none 0 0, .func (.func 46) #[] #[.pointer (some ⟨Bs, 0, none⟩)], .pointer (some ⟨w.heap.size, 0, none⟩), undef, .slice none 0 0, .int .i64 x, .func (.func 46) #[] #[.pointer (some ⟨Bs, 0, none⟩)], .int .i64 x, undef, undef, undef, undef, undef], defers := [] }) ?assign ?body ?done ?stop
  case assign =>
    intro l x W K hK
    gi_wp2
    exact hK
  case body =>
    rintro l pre x W ⟨⟨v, hv, hrow, -⟩, hB⟩ hlt
    have hcv := hv.cell
    gi_wp2_with (gi_at_builtin; refine wpListIn_append_own _ rfl _ _ 37 rfl w.heap.size 3 i0 (.int .i64 0) 1 8 Try.underlying37 hi hz0 hz1 hz2 rfl (by decide) _ _ _ rfl (hrow.alloc _) ⟨W.heap.size, 0, none⟩ 1 1 [.int .i64 x] rfl rfl (cell_one_new _ _ _) (by simp [Value.oneCell']) (by unfold maxLen; omega) (by omega) (by have := hB.size; simp; omega) ?_; intro v' w1 hown' hgrow _; obtain ⟨g', cap', rfl⟩ := ownsRow_succ hown'; obtain ⟨hv1, hv2, hr2, hk2, hb2⟩ := hv.appended (by decide) hrow hB.size (Nat.le_refl _) hown' hgrow; have hc1 := hv1.cell; have hf1 := hv1.frozen)
    exact ⟨hk2.from _, hb2, ⟨_, hv2, by simpa using hr2, trivial⟩, hB.trans hb2⟩
  case done =>
    rintro D ys W hD rfl ⟨⟨v, hv, hrow, -⟩, hB⟩ hK
    have hcv := hv.cell
    gi_wp2
    refine ⟨by simp, .inl ⟨_, _, rfl, run_takeDeferred hK, ?_⟩⟩
    refine ⟨_, results_tmp rfl _ _ _, v, rfl, ?_, hB.trans (belowK_b (w := w) (Nat.le_refl _) W D _ _ (by simp at hD; omega) hK rfl rfl)⟩
    rw [← hl]
    exact ownsRow_putObj hrow _ hK rfl
  case stop =>
    rintro D c pre W _ _ h _
    exact h.elim

theorem collect_any (Bs N cX : Nat) (aX : Option Addr) (ps : List Int) (hN : N ≤ 1000) (w : World) (hBs : Bs < w.heap.size) (hc : w.cell? ⟨Bs, 0, none⟩ = some (.slice aX N cX)) (hX : IA w aX N cX ps) :
    Calls Try.prog 44 #[.func (.func 46) #[] #[.pointer (some ⟨Bs, 0, none⟩)]] w fun e W' => ∃ v, e = .returned v ∧ W'.ownsRow w.heap.size 3 1 v N (ps.map (Value.int .i64)) ∧ Below w.heap.size w W' := by
  have H := Lib.hid ((callsIn_wide (n := 3)).1 (appSeq_in Fence.wide 3 trivial trivial rfl (by omega) Bs N cX aX ps hN w hBs hc hX))
  clear hBs hc hX
  go_enter Try.func44, Try.ntmps44
  go_wp2_with (go_at_call 50; go_loud (refine H.out.mono ?_; rintro e w2 ⟨v, rfl, ho, hb⟩; obtain ⟨a2, c2, hv2⟩ := own_sliceV ho; subst hv2; have HO := Lib.hid ho; have HB := Lib.hid hb; clear ho hb))
  go_ret
  exact ⟨_, rfl, HO.out, HB.out⟩
/-- slices.Sorted of a slice's values: the same numbers, sorted, in new memory. -/
theorem sortedI_any (Bs N cX : Nat) (aX : Option Addr) (ps : List Int) (hN : N ≤ 1000) (w : World) (hBs : Bs < w.heap.size) (hc : w.cell? ⟨Bs, 0, none⟩ = some (.slice aX N cX)) (hX : IA w aX N cX ps) :
    Calls Try.prog 38 #[.func (.func 46) #[] #[.pointer (some ⟨Bs, 0, none⟩)]] w fun e W' => ∃ v, e = .returned v ∧ W'.ownsRow w.heap.size 3 1 v N ((ps.mergeSort fun x y => decide (x ≤ y)).map (Value.int .i64)) ∧ Below w.heap.size w W' := by
  have HC := Lib.hid (collect_any Bs N cX aX ps hN w hBs hc hX)
  have hl : ps.length = N := hX.1
  have HL := Lib.hid hl
  clear hBs hc hX
  go_enter Try.func38, Try.ntmps38
  by_cases h0 : N = 0
  · subst h0
    have e0 : ps = [] := List.eq_nil_of_length_eq_zero hl
    have E0 := Lib.hid e0
    clear e0 hl
    go_wp2_with (first
      | (go_at_call 44; go_loud (refine HC.out.mono ?_; rintro e w2 ⟨v, rfl, ho, hb⟩; obtain ⟨a2, c2, hv2⟩ := own_sliceV ho; subst hv2; have HO := Lib.hid ho; have HB := Lib.hid hb; clear ho hb))
      | (go_at_call 45; go_loud (refine (Try.slices_Sort_int_none _ _ _).mono ?_; rintro e w3 ⟨rfl, rfl⟩)))
    go_ret
    exact ⟨_, rfl, by have := HO.out; rw [E0.out] at this ⊢; simpa using this, HB.out⟩
  · go_wp2_with (first
      | (go_at_call 44; go_loud (refine HC.out.mono ?_; rintro e w2 ⟨v, rfl, ho, hb⟩; obtain ⟨g, cap, cur, rfl, hbase, hgb, r1, r2, r3, r4⟩ := ho.2.resolve_left (fun h => h0 h.2); have HH := Lib.hid (And.intro hbase (And.intro hgb (And.intro r1 (And.intro r2 r3)))); have HT := Lib.hid r4; have HS := Lib.hid (Try.slices_Sort_int g 0 cap ps w2 (holds_of_blockI hgb (by rw [hl]; simpa using r4)) (Array.getElem?_eq_some_iff.1 hgb).1 (by omega)); rw [hl] at HS; have HB := Lib.hid hb; clear ho hb hbase hgb r1 r2 r3 r4))
      | (go_at_call 45; go_loud (refine HS.out.mono ?_; rintro e w3 ⟨rfl, nn, os, rfl⟩)))
    go_ret
    refine ⟨_, rfl, ?_, HB.out.grown (grownBy_sortedI _) HB.out.size (fun j hj => by cases hj; exact HH.out.1)⟩
    have := ownsRow_sortedI (n := nn) (os := os) (ss := ps) (ts := ps.mergeSort fun x y => decide (x ≤ y)) (by simp) HH.out.1 HH.out.2.1 (by rw [hl]; exact HH.out.2.2.1) HH.out.2.2.2.1 HH.out.2.2.2.2
    rw [hl] at this
    exact this
theorem gb_putRow {w : World} (g n : Nat) (d : Array Int) : w.grownBy (Sort.putRow (Value.int .i64) (Sort.ahead w n) g 0 d) (some g) := by
  refine ⟨rfl, rfl, rfl, by simp, fun k hk hne => ?_⟩
  have : g ≠ k := fun e => hne (by rw [e])
  simp [Sort.putRow, Sort.mapBlock, Sort.ahead, Array.getElem?_modify, this]
theorem rep_any (aX : Option Addr) (N cX : Nat) (ps : List Int) (r : Bool) (w : World) (hX : IA w aX N cX ps) (hN : N ≤ 255) (hr : r = true ↔ ¬ ps.Nodup) :
    Calls Try.prog 28 #[.slice aX N cX] w fun e w' => e = .returned (.bool r) ∧ Below w.heap.size w w' := by
  have hl : ps.length = N := hX.1
  have hA := (Below.refl w.heap.size w).alloc (Nat.le_refl _) (.cells #[.slice aX N cX] 37)
  have HS := Lib.hid (sortedI_any w.heap.size N cX aX ps (by omega) _ (by simp) (litOne w (.slice aX N cX) 37) (hX.on hA))
  have HA := Lib.hid hA
  have hbd := hX.bd
  obtain ⟨zs, hzs⟩ : ∃ zs, zs = ps.mergeSort fun x y => decide (x ≤ y) := ⟨_, rfl⟩
  have hzl : zs.length = N := by rw [hzs, List.length_mergeSort]; exact hl
  have hless : (Lib.compact zs).length < N ↔ r = true := by rw [hzs, ← hl, hr]; exact sort_less ps
  have hcle : (Lib.compact zs).length ≤ N := by
    have := List.length_filter_le (Lib.keeps zs.toArray) (List.range zs.length)
    simp only [Lib.compact, Lib.compactUpTo, List.length_map]
    rw [List.length_range] at this
    omega
  rw [← hzs] at HS
  obtain ⟨M, hM⟩ : ∃ M, M = (Lib.compact zs).length := ⟨_, rfl⟩
  have HM := Lib.hid hM
  rw [← hM] at hless hcle
  have HZL := Lib.hid hzl
  have q : decide ((M : Int) < (N : Int)) = r := by
    rw [Bool.eq_iff_iff, decide_eq_true_eq, ← hless]; omega
  clear hX hr hless hA hzs hM hl hzl
  go_enter Try.func28, Try.ntmps28
  by_cases h0 : N = 0
  · subst h0
    have hrf : r = false := by rw [← q]; simp
    subst hrf
    clear q
    go_wp2_with (first
      | (go_at_call 39; go_loud (refine (valI_any _ _ _ _).mono ?_; rintro e w1 ⟨rfl, rfl⟩))
      | (go_at_call 38; go_loud (refine HS.out.mono ?_; rintro e w2 ⟨v, rfl, ho, hb⟩; obtain ⟨a2, c2, hv2⟩ := own_sliceV ho; subst hv2; have HB := Lib.hid (HA.out.trans (hb.mono (by simp))); clear ho hb))
      | (go_at_call 40; go_loud (refine (Try.slices_Compact_int_empty _ _ _).mono ?_; rintro e w3 ⟨rfl, rfl⟩)))
    go_ret
    exact ⟨rfl, HB.out⟩
  · go_wp2_with (first
      | (go_at_call 39; go_loud (refine (valI_any _ _ _ _).mono ?_; rintro e w1 ⟨rfl, rfl⟩))
      | (go_at_call 38; go_loud (refine HS.out.mono ?_; rintro e w2 ⟨v, rfl, ho, hb⟩; obtain ⟨g, cap, cur, rfl, hbase, hgb, r1, r2, r3, r4⟩ := ho.2.resolve_left (fun h => h0 h.2); have HC := Lib.hid (Try.slices_Compact_int g 0 cap zs w2 (holds_of_blockI hgb (by rw [HZL.out]; simpa using r4)) (by rw [HZL.out]; omega) (by rw [HZL.out]; exact r1)); rw [HZL.out, ← HM.out] at HC; have HBG := Lib.hid hbase; have HB := Lib.hid (HA.out.trans (hb.mono (by simp))); have hcp : N ≤ cap ∧ cap ≤ 9223372036854775807 := ⟨r1, (by unfold maxLen at r2; omega)⟩; clear ho hb hbase hgb r1 r2 r3 r4))
      | (go_at_call 40; go_loud (refine HC.out.mono ?_; rintro e w3 ⟨rfl, qq, rfl⟩)))
    go_ret
    refine ⟨?_, HB.out.grown (gb_putRow _ _ _) HB.out.size (fun j hj => by cases hj; have := HBG.out; simp at this; omega)⟩
    rw [← q]; simp
end Go.Proofs.Ytmhjpdppippgkaa
