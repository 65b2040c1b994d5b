/- Texts of mine, one behind the other: Ye Vf Vg Ra Rf Ha Hb Rj QJ2. -/
import Derived.Test.YtappfdbmhgifcaaGreatDoorZS14
import Derived.Test.YtappfdbmhgifcaaGreatDoorZS13
import Derived.Test.YtappfdbmhgifcaaGreatDoorZS11
import Derived.Test.YtappfdbmhgifcaaGreatDoorZS12
import Derived.Deep.RegionHeld
import Derived.BigQuiet
import Derived.Deep.QuietTactic
import Derived.StillTailTactics
import Derived.Laws.AppendOwnNone
import Derived.Deep.AppendLies
import Derived.Test.YtappfdbmhgifcaaGreatDoorZS03
import Derived.Test.YtappfdbmhgifcaaGreatDoorZS10
import Derived.Deep.OwnRows
import Derived.Deep.DrawnRows
import Derived.Deep.WholeRow
/- Contracts of code's PartSize, Cut, Glue. -/
namespace Go.Proofs.YtappfdbmhgifcaaGreatDoor
open Go.ChangeShapes Go.WideShapes Go.ChangeAt Go.RowKit Go.Shelf GF
set_option linter.unusedVariables false
set_option linter.unusedSimpArgs false
set_option maxRecDepth 100000

theorem ceil_parts {L t : Nat} (ht : 1 ≤ t) : ceil L t = L / t + (if 1 < L % t then 1 else L % t) := by
  have h1 := Nat.div_add_mod L t
  have h2 := Nat.mod_lt L (show 0 < t by omega)
  generalize L / t = Q at *
  generalize L % t = M at *
  unfold ceil
  by_cases h0 : M = 0
  · subst h0
    rw [if_neg (by omega)]
    rw [← h1, Nat.add_zero, show t * Q + t - 1 = t * Q + (t - 1) by omega, Nat.mul_add_div (by omega), Nat.div_eq_of_lt (by omega)]
  · have e : (if 1 < M then 1 else M) = 1 := by split <;> omega
    rw [e, ← h1, show t * Q + M + t - 1 = t * (Q + 1) + (M - 1) by rw [Nat.mul_add, Nat.mul_one]; omega, Nat.mul_add_div (by omega), Nat.div_eq_of_lt (by omega)]
set_option maxHeartbeats 1000000 in
theorem partC : PartC := by
  intro L t w ht ht2 hL
  have HP := Lib.hid (can_yes (t : Int) w (by omega) (by omega))
  have HE := Lib.hid (ceil_parts (L := L) ht)
  have e1 : (L : Int).tdiv (t : Int) = ((L / t : Nat) : Int) := by rw [Int.tdiv_eq_ediv_of_nonneg (by omega)]; rfl
  have e2 : (L : Int).tmod (t : Int) = ((L % t : Nat) : Int) := by rw [Int.tmod_eq_emod_of_nonneg (by omega)]; rfl
  have e3 : (L : Int) / (t : Int) = ((L / t : Nat) : Int) := rfl
  have e4 : (L : Int) % (t : Int) = ((L % t : Nat) : Int) := rfl
  have hq : L / t ≤ L := Nat.div_le_self _ _
  have hm : L % t < t := Nat.mod_lt _ (by omega)
  obtain ⟨Q, hQ⟩ : ∃ Q, Q = L / t := ⟨_, rfl⟩
  obtain ⟨M, hM⟩ : ∃ M, M = L % t := ⟨_, rfl⟩
  rw [← hQ] at e1 e3 hq HE
  rw [← hM] at e2 e4 hm HE
  clear hQ hM
  have k1 : (L : Int) ≤ 1000 := by omega
  have k2 : (t : Int) ≤ 255 := by omega
  have k3 : (Q : Int) ≤ 1000 := by omega
  have k4 : (M : Int) ≤ 255 := by omega
  have k5 : ((t : Int) == 0) = false := by rw [beq_eq_false_iff_ne]; omega
  have k6 : ¬ (t : Int) = 0 := by omega
  have k7 : ¬ t = 0 := by omega
  by_cases h : 1 < M
  · have k8 : (1 : Int) < (M : Int) := by omega
    rw [if_pos h] at HE
    clear h ht ht2 hL hq hm
    go_enter Tryz.func35, Tryz.ntmps35
    go_upto_region 3 with (go_at_call 64; refine HP.out.mono ?_; rintro e w' ⟨rfl, rfl⟩)
    go_quiet (fail)
    go_wp2
    go_ret
    exact ⟨by rw [HE.out]; rfl, _, rfl⟩
  · have k8 : ¬ (1 : Int) < (M : Int) := by omega
    rw [if_neg h] at HE
    clear h ht ht2 hL hq hm
    go_enter Tryz.func35, Tryz.ntmps35
    go_upto_region 3 with (go_at_call 64; refine HP.out.mono ?_; rintro e w' ⟨rfl, rfl⟩)
    go_quiet (fail)
    go_wp2
    go_ret
    exact ⟨by rw [HE.out]; rfl, _, rfl⟩
end Go.Proofs.YtappfdbmhgifcaaGreatDoor
/- Contract of shamir's value. -/
namespace Go.Proofs.YtappfdbmhgifcaaGreatDoor
open Go.ChangeShapes Go.WideShapes Go.ChangeAt Go.RowKit Go.Shelf GF
set_option linter.unusedVariables false
set_option linter.unusedSimpArgs false
set_option maxRecDepth 100000
attribute [local go_sem] Oper.semAt_some

theorem Pa.noncell {w w' : World} {a : Option Addr} {L c : Nat} {P : List GF} {row : Option Nat} (h : Pa w a L c P) (hg : w.grownBy w' row) (hr : ∀ r, row = some r → ∃ o : Obj, w.heap[r]? = some o ∧ o.isCells = false) : Pa w' a L c P :=
  ⟨⟨h.1.1, h.1.2.1, fun h0 => by
    obtain ⟨b, off, e, hb, hc⟩ := h.1.2.2.1 h0
    exact ⟨b, off, e, Nat.lt_of_lt_of_le hb hg.size, fun i hi => cell_kept (hc i hi) hg hr⟩, h.1.2.2.2⟩, h.2⟩
theorem KeepsOthers.ofBelow {w w' : World} (h : Below w.heap.size w w') : KeepsOthers w w' :=
  ⟨h.size, fun k o hk _ => (h.block k (Array.getElem?_eq_some_iff.1 hk).1).trans hk⟩
/-- The slices of rows of rows, by number. -/
theorem Mat.slices {w : World} {a : Option Addr} {n c : Nat} {M : List (List GF)} (h : Mat w a n c M) : ∃ (A : Nat → Option Addr) (C : Nat → Nat), (∀ j, j < n → ∃ b off, a = some ⟨b, off, none⟩ ∧ b < w.heap.size ∧ w.cell? ⟨b, off + j, none⟩ = some (.slice (A j) (rw_ M j).length (C j))) ∧ ∀ j, j < n → Pa w (A j) (rw_ M j).length (C j) (rw_ M j) := by
  have key : ∀ j, ∃ (x : Option Addr × Nat), j < n → (∃ b off, a = some ⟨b, off, none⟩ ∧ b < w.heap.size ∧ w.cell? ⟨b, off + j, none⟩ = some (.slice x.1 (rw_ M j).length x.2)) ∧ Pa w x.1 (rw_ M j).length x.2 (rw_ M j) := fun j => by
    by_cases hj : j < n
    · obtain ⟨b, off, ai, ci, e, hb, hc, hp⟩ := h.row hj
      exact ⟨(ai, ci), fun _ => ⟨⟨b, off, e, hb, hc⟩, hp⟩⟩
    · exact ⟨(none, 0), fun h => absurd h hj⟩
  obtain ⟨f, hf⟩ := Classical.axiomOfChoice key
  exact ⟨fun j => (f j).1, fun j => (f j).2, fun j hj => (hf j hj).1, fun j hj => (hf j hj).2⟩

set_option maxHeartbeats 4000000 in
theorem value_any (b T n : Nat) (aR : Option Addr) (cR : Nat) (R : List (List GF)) (x : GF) (w : World) (hf : Fld w b) (hR : Mat w aR T cR R) (hw : ∀ k, k < T → (rw_ R k).length = n) (hT : 1 ≤ T) (hT2 : T ≤ 255) (hn : n ≤ 1000) :
    Calls Tryz.prog 51 #[.pointer (some ⟨b, 0, none⟩), .slice aR T cR, .int .u8 (toI x)] w fun e w' => ∃ a' c', e = .returned (.slice a' n c') ∧ Pa w' a' n c' (valR R T n x) ∧ (∀ bb off, a' = some ⟨bb, off, none⟩ → w.heap.size ≤ bb) ∧ Below w.heap.size w w' := by
  obtain ⟨A, C, hA, hP⟩ := hR.slices
  have hA2 : ∀ j, j < T → ∃ b off, aR = some ⟨b, off, none⟩ ∧ b < w.heap.size ∧ w.cell? ⟨b, off + j, none⟩ = some (.slice (A j) n (C j)) := fun j hj => by
    obtain ⟨b, off, e, hb, hc⟩ := hA j hj; rw [hw j hj] at hc; exact ⟨b, off, e, hb, hc⟩
  have hP2 : ∀ j, j < T → Pa w (A j) n (C j) (rw_ R j) := fun j hj => by
    have h := hP j hj; rw [hw j hj] at h; exact h
  have HA := Lib.hid hA2
  have HP := Lib.hid hP2
  have HW := Lib.hid hw
  have HF := Lib.hid hf
  have HB := Lib.hid hR.bd
  have HT := Lib.hid (And.intro hT hT2)
  have HN := Lib.hid hn
  clear hA hP hA2 hP2 hf hR hw hT hn
  refine (callsIn_wide (n := 3)).1 ?_
  refine callsIn_of_wp_marks Tryz.func51 rfl trivial ?_ rfl
  simp only [Tryz.ntmps51, List.size_toArray, List.length_cons, List.length_nil, Nat.reduceAdd, Nat.reduceSub, Array.replicate_succ, Array.replicate_zero, List.push_toArray, List.append_toArray, List.nil_append, List.cons_append]
  gi_wp2_with (refine ⟨trivial, ?_⟩; gi_at_call 80; refine (callsIn_wide.2 (backR_any _ _ _ _)).mono ?_; rintro e w' ⟨rfl, rfl⟩)
  obtain ⟨V1, hV1⟩ : ∃ V, V = w.alloc (.cells #[.pointer (some ⟨b, 0, none⟩)] 32) := ⟨_, rfl⟩
  obtain ⟨V2, hV2⟩ : ∃ V, V = V1.alloc (.cells #[.int .u8 (toI x)] 5) := ⟨_, rfl⟩
  obtain ⟨V3, hV3⟩ : ∃ V, V = V2.alloc (.cells #[] 5) := ⟨_, rfl⟩
  obtain ⟨V4, hV4⟩ : ∃ V, V = V3.alloc (.cells #[.slice (some ⟨w.heap.size + 1 + 1, 0, none⟩) 0 0] 22) := ⟨_, rfl⟩
  obtain ⟨V5, hV5⟩ : ∃ V, V = V4.alloc (.cells #[.slice aR T cR] 28) := ⟨_, rfl⟩
  have s1 : V1.heap.size = w.heap.size + 1 := by rw [hV1]; simp
  have s2 : V2.heap.size = w.heap.size + 1 + 1 := by rw [hV2]; simp [s1]
  have s3 : V3.heap.size = w.heap.size + 1 + 1 + 1 := by rw [hV3]; simp [s2]
  have s4 : V4.heap.size = w.heap.size + 1 + 1 + 1 + 1 := by rw [hV4]; simp [s3]
  have s5 : V5.heap.size = w.heap.size + 1 + 1 + 1 + 1 + 1 := by rw [hV5]; simp [s4]
  have B1 : Below w.heap.size w V1 := by rw [hV1]; exact (Below.refl _ _).alloc (Nat.le_refl _) _
  have B2 : Below w.heap.size w V2 := by rw [hV2]; exact B1.alloc (by omega) _
  have B3 : Below w.heap.size w V3 := by rw [hV3]; exact B2.alloc (by omega) _
  have B4 : Below w.heap.size w V4 := by rw [hV4]; exact B3.alloc (by omega) _
  have B5 : Below w.heap.size w V5 := by rw [hV5]; exact B4.alloc (by omega) _
  have c0 : Boxed V5 w.heap.size 32 (.pointer (some ⟨b, 0, none⟩)) := by rw [hV5, hV4, hV3, hV2, hV1]; exact ((((Boxed.new w _ _).alloc _).alloc _).alloc _).alloc _
  have c1 : Boxed V5 (w.heap.size + 1) 5 (.int .u8 (toI x)) := by rw [← s1, hV5, hV4, hV3, hV2]; exact (((Boxed.new V1 _ _).alloc _).alloc _).alloc _
  have c3 : Boxed V5 (w.heap.size + 1 + 1 + 1) 22 (.slice (some ⟨w.heap.size + 1 + 1, 0, none⟩) 0 0) := by rw [← s3, hV5, hV4]; exact (Boxed.new V3 _ _).alloc _
  have c4 : Boxed V5 (w.heap.size + 1 + 1 + 1 + 1) 28 (.slice aR T cR) := by rw [← s4, hV5]; exact Boxed.new V4 _ _
  rw [← hV1, ← hV2, ← hV3, ← hV4, ← hV5]
  have HB5 := Lib.hid B5
  have HS5 := Lib.hid s5
  have C0 := Lib.hid c0; have C1 := Lib.hid c1; have C3 := Lib.hid c3; have C4 := Lib.hid c4
  clear hV1 hV2 hV3 hV4 hV5 s1 s2 s3 s4 s5 B1 B2 B3 B4 B5 c0 c1 c3 c4
  obtain ⟨s, hs⟩ : ∃ s, s = w.heap.size := ⟨_, rfl⟩
  rw [← hs] at HB5 HS5 C0 C1 C3 C4 ⊢
  have Hs := Lib.hid hs
  clear hs
  have HRD : Hid (RdR (s + 1 + 1 + 1 + 1) T aR cR A (fun _ => n) C V5) := Lib.hid ⟨C4.out.cell, fun j hj => by
    obtain ⟨b', off, e, hb, hc⟩ := HA.out j hj
    exact ⟨b', off, e, (HB5.out.cell (p := ⟨b', off + j, none⟩) (by rw [Hs.out]; exact hb)).trans hc⟩⟩
  have hle : T ≤ 140737488355328 := by have := HT.out.2; omega
  refine wpIn_rangeFunc_ownF rfl (by omega) (gf := 102) (lb := #[.pointer (some ⟨s + 1 + 1 + 1 + 1, 0, none⟩)]) rfl trivial (enters_of Tryz.func102 (by kernel_rfl) rfl)
    (backR_stops Fence.wide (3 - 1) trivial rfl (by omega) (s + 1 + 1 + 1 + 1) T cR aR A (fun _ => n) C hle V5 (by rw [HS5.out]; omega) HRD.out (fun h0 bb off e => by
      obtain ⟨b', off', e', hb, hc⟩ := HA.out 0 h0
      rw [e] at e'; cases e'; rw [HS5.out, Hs.out]; omega)) (fun h k r => k (h r)) (fun W l o o' _ hl ho _ r => r.put o' hl ho) (Below.refl _ _) (fun _ => by rfl)
    (fun pre W => ((W.cell? ⟨s, 0, none⟩ = some (.pointer (some ⟨b, 0, none⟩)) ∧ W.cell? ⟨s + 1, 0, none⟩ = some (.int .u8 (toI x)) ∧ (∃ ao co', W.cell? ⟨s + 1 + 1 + 1, 0, none⟩ = some (.slice ao (hrR R x pre).length co') ∧ Pa W ao (hrR R x pre).length co' (hrR R x pre) ∧ ∀ bb off, ao = some ⟨bb, off, none⟩ → s ≤ bb) ∧ W.frozen? ⟨s + 1 + 1 + 1, 0, none⟩ = false) ∧ V5.heap.size ≤ W.heap.size) ∧ Below s w W)
    (fun _ _ _ => False)
    (OwnFrom.and (Own.from (fun t A B row hs hg hr => ⟨⟨cell_kept hs.1.1 hg hr, cell_kept hs.1.2.1 hg hr, (by obtain ⟨ao, co', h1, h2⟩ := hs.1.2.2.1; exact ⟨ao, co', cell_kept h1 hg hr, h2.1.noncell hg hr, h2.2⟩), (by obtain ⟨ao, co', h1, h2⟩ := hs.1.2.2.1; exact (frozen_kept h1 hg hr).trans hs.1.2.2.2)⟩, Nat.le_trans hs.2 hg.size⟩) _) (ownFrom_below (by rw [Hs.out]; exact Nat.le_refl _) (by rw [HS5.out]; omega)))
    (fun _ _ _ _ _ hs _ _ => hs)
    ⟨⟨⟨C0.out.cell, C1.out.cell, ⟨_, _, C3.out.cell, ⟨⟨rfl, allB_iL _, Bs.nil _ _ _, Nat.le_refl _, Nat.zero_le _⟩, fun e => by cases e⟩, fun bb off e => by cases e; omega⟩, C3.out.frozen⟩, Nat.le_refl _⟩, HB5.out⟩
    (fun y => { tmps := #[.pointer (some ⟨b, 0, none⟩), .slice aR T cR, .int .u8 (toI x), .pointer (some ⟨s, 0, none⟩), undef, .pointer (some ⟨s + 1, 0, none⟩), .slice none 0 0, .pointer (some ⟨s + 1 + 1 + 1, 0, none⟩), undef, .slice (A y.1) n (C y.1), .slice (some ⟨s + 1 + 1, 0, none⟩) 0 0, .slice aR T cR, .func (.func 102) #[] #[.pointer (some ⟨s + 1 + 1 + 1 + 1, 0, none⟩)], .int .i64 ((y.1 : Nat) : Int), .slice (A y.1) n (C y.1), undef, undef, undef, undef, undef, undef], defers := [] }) ?assign ?body ?done ?stop
  case assign =>
    intro l y W K hK
    dsimp only [itvR]
    gi_wp2
    exact hK
  case body =>
    rintro l pre y W ⟨⟨⟨h1, h2, ⟨ao, co', h3, h4, hnw⟩, h5⟩, h6⟩, hB⟩ _
    obtain ⟨j, hj⟩ := y
    have hfw := HF.out.below (show Below w.heap.size w W by rw [← Hs.out]; exact hB)
    have hpw := (HP.out j hj).on (show Below w.heap.size w W by rw [← Hs.out]; exact hB)
    obtain ⟨o, ho⟩ : ∃ o, o = hrR R x pre := ⟨_, rfl⟩
    have HO := Lib.hid (hrR_snoc R x pre (⟨j, hj⟩ : Fin T))
    rw [← ho] at h3 h4 HO
    have HSU := Lib.hid (fsum_any b (toI x) _ _ _ (iL (rw_ R j)) _ _ _ (iL o) W hfw (toI_bd x) hpw.1 h4.1 (by have := HN.out; omega))
    rw [sumL_G] at HSU
    have H1 := Lib.hid h1; have H2 := Lib.hid h2; have H3 := Lib.hid h3; have H5 := Lib.hid h5; have H6 := Lib.hid h6; have HBB := Lib.hid hB
    have HRL := Lib.hid (HW.out j hj)
    clear hfw hpw h4 hB h6 ho
    dsimp only
    gi_wp2_with (refine ⟨trivial, ?_⟩; gi_at_call 81; refine (CallsIn.inRound l (callsIn_wide.2 HSU.out)).mono ?_; rintro e W1 ⟨g, rfl, hown, hb1⟩; have HO1 := Lib.hid hown; have HB1 := Lib.hid hb1; have k3 := cell_of_heap h3 (hb1.block (s + 1 + 1 + 1) (by have := H6.out; rw [HS5.out] at this; omega)); have k5 : W1.frozen? ⟨s + 1 + 1 + 1, 0, none⟩ = false := (hb1.frozen (p := ⟨s + 1 + 1 + 1, 0, none⟩) (by have := H6.out; rw [HS5.out] at this; show s + 1 + 1 + 1 < _; omega)).trans h5; clear hown hb1)
    have hle5 : s + 1 + 1 + 1 + 1 + 1 ≤ W.heap.size := by have := H6.out; rw [HS5.out] at this; exact this
    have hW1 := HB1.out.size
    have hgl := HO1.out.lt g rfl
    have hbk : ∀ k, k < W.heap.size → k ≠ s + 1 + 1 + 1 → (W1.setCell ⟨s + 1 + 1 + 1, 0, none⟩ (.slice (some ⟨g, 0, none⟩) n n)).heap[k]? = W.heap[k]? := fun k h1 h2 => by
      rw [Below.heap_setCell _ _ _ _ h2]; exact HB1.out.block k h1
    have hp9 : Pa (W1.setCell ⟨s + 1 + 1 + 1, 0, none⟩ (.slice (some ⟨g, 0, none⟩) n n)) (some ⟨g, 0, none⟩) n n (sumG (rw_ R j) x o) :=
      (Pa.own2 HO1.out).but (gb_set _ _ _ _) (fun b off e => by cases e; omega)
    have hl9 : (hrR R x (pre ++ [(⟨j, hj⟩ : Fin T)])).length = n := by rw [HO.out, sumG_len]; exact HRL.out
    refine ⟨(KeepsOthers.ofBelow HB1.out).trans (KeepsOthers.setCell _ _ _), fun r => ⟨cell_of_heap r.1 (hbk _ (by show s + 1 + 1 + 1 + 1 < _; omega) (by show s + 1 + 1 + 1 + 1 ≠ _; omega)), fun i hi => ?_⟩, ⟨⟨cell_of_heap H1.out (hbk _ (by show s < _; omega) (by show s ≠ _; omega)), cell_of_heap H2.out (hbk _ (by show s + 1 < _; omega) (by show s + 1 ≠ _; omega)), ⟨some ⟨g, 0, none⟩, n, ?_, ?_, fun bb off e => by cases e; omega⟩, ?_⟩, ?_⟩, ?_⟩
    · obtain ⟨b', off, e, hc⟩ := r.2 i hi
      obtain ⟨b2, off2, e2, hb2, _⟩ := HA.out i hi
      rw [e] at e2; cases e2
      have := Hs.out
      exact ⟨b', off, e, cell_of_heap hc (hbk _ (by show b' < _; omega) (by show b' ≠ _; omega))⟩
    · rw [hl9]; exact World.cell?_setCell_same' _ _ _ (by rw [k3]; rfl)
    · rw [hl9, HO.out]; exact hp9
    · rw [World.frozen?_setCell]; exact k5
    · exact Nat.le_trans H6.out (Nat.le_trans hW1 (by simp))
    · exact (HBB.out.trans (HB1.out.mono (by omega))).setCell (p := ⟨s + 1 + 1 + 1, 0, none⟩) (by show s ≤ s + 1 + 1 + 1; omega) _
  case done =>
    rintro D ys W hD ⟨hys, hbk⟩ ⟨⟨⟨h1, h2, ⟨ao, co', h3, h4, hnw⟩, h5⟩, h6⟩, hB⟩ hK
    have he := hrR_all (x := x) HW.out hys hbk HT.out.1
    have hl : (hrR R x ys).length = n := hrR_len R x T n HW.out ys (by rw [hys]; exact HT.out.1)
    rw [hl] at h3 h4
    rw [he] at h4
    have H4 := Lib.hid h4
    have HBB := Lib.hid hB
    clear h4 hB he hl
    gi_wp2
    refine ⟨by simp, .inl ⟨_, _, rfl, run_takeDeferred hK, ?_⟩⟩
    have hkb := belowK_b (w := V5) (n₀ := s) (by rw [HS5.out]; omega) W D _ (.deferred none) hD hK rfl rfl
    refine ⟨_, results_tmp rfl _ _ _, ao, co', rfl, H4.out.noncell (grownBy_putObj' W D (.deferred none)) (fun r e => by cases e; exact ⟨_, hK, rfl⟩), by rw [← Hs.out]; exact hnw, by rw [← Hs.out]; exact HBB.out.trans hkb⟩
  case stop =>
    rintro D c pre W _ _ h _
    exact h.elim
end Go.Proofs.YtappfdbmhgifcaaGreatDoor
/- Shamir's Split, Share, Delta: the contracts proved. -/
namespace Go.Proofs.YtappfdbmhgifcaaGreatDoor
open Go.ChangeShapes Go.WideShapes Go.ChangeAt Go.RowKit Go.Shelf GF
set_option linter.unusedVariables false
set_option linter.unusedSimpArgs false
set_option maxRecDepth 100000

theorem own_madeR {w : World} {n : Nat} (hm : n ≤ maxLen) :
    (w.alloc (.cells (madeCells #[Value.slice none 0 0] n) 22)).ownsRow w.heap.size 22 1 (.slice (some ⟨w.heap.size, 0, none⟩) n n) n (List.replicate n (.slice none 0 0)) := by
  have := World.ownsRow_lit (base := w.heap.size) (e := 22) (size := 1) w (madeCells #[Value.slice none 0 0] n) n (Nat.le_refl _) hm (by simp [size_madeCells])
  rw [toList_madeCells_one] at this
  exact this
theorem set_next {vs : List Value} {n : Nat} (z v : Value) (h : vs.length < n) : (vs ++ List.replicate (n - vs.length) z).set vs.length v = (vs ++ [v]) ++ List.replicate (n - (vs.length + 1)) z := by
  rw [List.set_append_right _ _ (Nat.le_refl _), Nat.sub_self, show n - vs.length = (n - (vs.length + 1)) + 1 by omega, List.replicate_succ, List.set_cons_zero, List.append_assoc]
  rfl
theorem shM_take {t n k : Nat} {S M X : List GF} (h : k < X.length) : (shM t n S M X).take (k + 1) = (shM t n S M X).take k ++ [shR t n S M (co X k)] := by
  refine take_stepV ?_
  have e := shM_row (t := t) (n := n) (S := S) (M := M) h
  unfold rw_ at e
  rw [← e]
  simp [List.getD_eq_getElem?_getD, shM_len, h]
theorem MatB.low {w : World} {B B' : Nat} {a : Option Addr} {n c : Nat} {M : List (List GF)} (h : MatB w B a n c M) (hB : B' ≤ B) : MatB w B' a n c M := by
  obtain ⟨k1, k2, k3, k4, vs, k5, k6⟩ := h
  refine ⟨k1, k2, k3, k4, vs, k5.keep (Nat.le_refl _) (fun b _ hb => ⟨Nat.le_trans hB hb, rfl⟩), fun h => ?_⟩
  obtain ⟨b, off, e, h1, h2, h3⟩ := k6 h
  exact ⟨b, off, e, h1, Nat.le_trans hB h2, h3⟩
end Go.Proofs.YtappfdbmhgifcaaGreatDoor
/- Plain: wrong values among right ones; Euclid's steps from the vanishing polynomial and the one through all values (Gao) find the polynomial, if there is one. No program is named here. -/
namespace Go.Proofs.YtappfdbmhgifcaaGreatDoor
open GF
set_option linter.unusedVariables false

/-! ## lengths of polynomials without noughts at their ends -/
/-! ## which values are wrong -/
/-- The numbers of the places at which p has another value. -/
def wrL (X Y p : List GF) : List Nat := (List.range X.length).filter fun k => decide (ev p (co X k) ≠ co Y k)
/-- A polynomial that the column is right with. -/
def RightP (X Y : List GF) (t e : Nat) (p : List GF) : Prop := tr p = p ∧ p.length ≤ t ∧ (wrL X Y p).length ≤ e ∧ 2 * (wrL X Y p).length + t ≤ X.length
theorem RightP.co {X Y p : List GF} {t e : Nat} (h : RightP X Y t e p) {k : Nat} (hk : t ≤ k) : co p k = 0 := co_ge (by have := h.2.1; omega)
/-! ## Gao -/
end Go.Proofs.YtappfdbmhgifcaaGreatDoor
/- Plain: all ways to pick so many of the first n numbers; rows of whole numbers in memory. -/
namespace Go.Proofs.YtappfdbmhgifcaaGreatDoor
open Go.ChangeShapes Go.WideShapes Go.ChangeAt Go.RowKit Go.Shelf GF
set_option linter.unusedVariables false
set_option linter.unusedSimpArgs false
set_option maxRecDepth 100000

/-! ## rows of whole numbers -/
def zl (l : List Nat) : List Int := l.map fun (x : Nat) => (x : Int)
theorem zl_len (l : List Nat) : (zl l).length = l.length := by simp [zl]
theorem zl_get (l : List Nat) (i : Nat) : (zl l).getD i 0 = ((l.getD i 0 : Nat) : Int) := by
  unfold zl
  by_cases h : i < l.length
  · simp [List.getD_eq_getElem?_getD, h]
  · simp [List.getD_eq_getElem?_getD, List.getElem?_eq_none (Nat.le_of_not_lt h)]
/-- A block of whole numbers. -/
def TyI (w : World) (b : Nat) : Prop := ∃ cur fz, w.heap[b]? = some (.cells cur 3 fz)
/-- These values are slices that read as these rows. -/
def rwI (M : List (List Nat)) (i : Nat) : List Nat := M.getD i []
def IVr (w : World) (B : Nat) (vs : List Value) (M : List (List Nat)) : Prop :=
  vs.length = M.length ∧ ∀ i, i < M.length → ∃ a c, vs[i]? = some (.slice a (rwI M i).length c) ∧ (rwI M i).length ≤ c ∧ c ≤ maxLen ∧ (a = none → c = 0) ∧
    (0 < (rwI M i).length → ∃ b off, a = some ⟨b, off, none⟩ ∧ b < w.heap.size ∧ B ≤ b ∧ TyI w b ∧ ∀ j, j < (rwI M i).length → w.cell? ⟨b, off + j, none⟩ = some (.int .i64 ((zl (rwI M i)).getD j 0)))
theorem IVr.keep {w w' : World} {B : Nat} {vs : List Value} {M : List (List Nat)} (h : IVr w B vs M) (hs : w.heap.size ≤ w'.heap.size) (hk : ∀ b, b < w.heap.size → B ≤ b → TyI w b → w'.heap[b]? = w.heap[b]?) : IVr w' B vs M := by
  refine ⟨h.1, fun i hi => ?_⟩
  obtain ⟨a, c, h1, h2, h3, h4, h5⟩ := h.2 i hi
  refine ⟨a, c, h1, h2, h3, h4, fun h0 => ?_⟩
  obtain ⟨b, off, e, hb, hB, ht, hc⟩ := h5 h0
  have k := hk b hb hB ht
  obtain ⟨cur, fz, e2⟩ := ht
  exact ⟨b, off, e, by omega, hB, ⟨cur, fz, k.trans e2⟩, fun j hj => by rw [World.cell?_of_block (w := w) (a := ⟨b, off + j, none⟩) k]; exact hc j hj⟩
theorem IVr.on {w w' : World} {B : Nat} {vs : List Value} {M : List (List Nat)} (h : IVr w B vs M) (hb : Below w.heap.size w w') : IVr w' B vs M := h.keep hb.size fun b hlt _ _ => hb.block b hlt
theorem IVr.nil (w : World) (B : Nat) : IVr w B [] [] := ⟨rfl, fun i hi => absurd hi (by simp)⟩
theorem IVr.grown {w w' : World} {B : Nat} {vs : List Value} {M : List (List Nat)} (h : IVr w B vs M) {base s n : Nat} {e : TypeId} {v : Value} {ys : List Value} (h2 : w.ownsRow base e s v n ys) (hne : 3 ≠ e) (hg : w.grownBy w' v.ownBlock) : IVr w' B vs M :=
  h.keep hg.size fun b hlt _ ⟨cur, fz, hh⟩ => hg.block b hlt (fun e' => by
    rcases h2.2 with ⟨rfl, _⟩ | ⟨g2, c2, cur2, rfl, _, hh2, _⟩
    · cases e'
    · have e3 : b = g2 := by
        have : some b = some g2 := e'
        injection this
      subst e3
      rw [hh] at hh2
      injection hh2 with h3
      injection h3 with _ h4 _
      exact hne h4)
theorem IVr.more {w : World} {B B' : Nat} {vs : List Value} {M : List (List Nat)} (h : IVr w B vs M) {v : Value} {n : Nat} {l : List Nat} (ho : w.ownsRow B' 3 1 v n ((zl l).map (Value.int .i64))) (hB : B ≤ B') : IVr w B (vs ++ [v]) (M ++ [l]) := by
  have hl : l.length = n := by have := ho.1; rw [List.length_map, zl_len, Nat.mul_one] at this; exact this
  refine ⟨by simp [h.1], fun i hi => ?_⟩
  by_cases e : i < M.length
  · have e1 : rwI (M ++ [l]) i = rwI M i := by unfold rwI; simp only [List.getD_eq_getElem?_getD]; rw [List.getElem?_append_left e]
    rw [e1, List.getElem?_append_left (by rw [h.1]; exact e)]
    exact h.2 i e
  · have e0 : i = M.length := by simp at hi; omega
    have e1 : rwI (M ++ [l]) i = l := by unfold rwI; simp only [List.getD_eq_getElem?_getD]; rw [e0, List.getElem?_append_right (Nat.le_refl _), Nat.sub_self]; rfl
    rw [e1, e0, ← h.1, List.getElem?_append_right (Nat.le_refl _), Nat.sub_self]
    rcases ho.2 with ⟨rfl, h0⟩ | ⟨g, cap, cur, rfl, hg, hh, h4, h5, _⟩
    · exact ⟨none, 0, by rw [hl, h0]; rfl, by omega, Nat.zero_le _, fun _ => rfl, fun h1 => absurd h1 (by omega)⟩
    · refine ⟨_, cap, by rw [hl]; rfl, by omega, h5, (fun e => by cases e), fun h1 => ⟨g, 0, rfl, (Array.getElem?_eq_some_iff.1 hh).1, Nat.le_trans hB hg, ⟨cur, _, hh⟩, fun j hj => ?_⟩⟩
      rw [Nat.zero_add, ho.cellAt j (by omega), List.getElem?_map, List.getElem?_eq_getElem (by rw [zl_len]; exact hj)]
      simp [List.getD_eq_getElem?_getD, List.getElem?_eq_getElem (show j < (zl l).length by rw [zl_len]; exact hj)]
/-- Rows of whole numbers behind a block. -/
def IMat (w : World) (B : Nat) (a : Option Addr) (n c : Nat) (M : List (List Nat)) : Prop :=
  M.length = n ∧ n ≤ c ∧ c ≤ maxLen ∧ ∃ vs, IVr w B vs M ∧ (0 < n → ∃ b off, a = some ⟨b, off, none⟩ ∧ b < w.heap.size ∧ B ≤ b ∧ ∀ i, i < n → w.cell? ⟨b, off + i, none⟩ = vs[i]?)
/-- Blocks from lo up to hi stay. -/
def Kp (lo hi : Nat) (V U : World) : Prop := V.heap.size ≤ U.heap.size ∧ ∀ b, lo ≤ b → b < hi → U.heap[b]? = V.heap[b]?
theorem Kp.refl (lo hi : Nat) (V : World) : Kp lo hi V V := ⟨Nat.le_refl _, fun _ _ _ => rfl⟩
theorem Kp.below {lo hi : Nat} {V U W : World} (h : Kp lo hi V U) (hb : Below U.heap.size U W) (hh : hi ≤ V.heap.size) : Kp lo hi V W := ⟨Nat.le_trans h.1 hb.size, fun b h1 h2 => (hb.block b (by have := h.1; omega)).trans (h.2 b h1 h2)⟩
theorem Kp.grown {lo hi : Nat} {V U W : World} {r : Option Nat} (h : Kp lo hi V U) (hg : U.grownBy W r) (hr : ∀ k, r = some k → k < lo ∨ hi ≤ k) (hh : hi ≤ V.heap.size) : Kp lo hi V W :=
  ⟨Nat.le_trans h.1 hg.size, fun b h1 h2 => (hg.block b (by have := h.1; omega) (fun e => by have := hr b e.symm; omega)).trans (h.2 b h1 h2)⟩
theorem IMat.keepR {w w' : World} {B : Nat} {a : Option Addr} {n c : Nat} {M : List (List Nat)} (h : IMat w B a n c M) (hk : Kp B w.heap.size w w') : IMat w' B a n c M := by
  obtain ⟨h1, h2, h3, vs, h5, h6⟩ := h
  refine ⟨h1, h2, h3, vs, h5.keep hk.1 (fun b hlt hB _ => hk.2 b hB hlt), fun h0 => ?_⟩
  obtain ⟨b, off, e, hlt, hB, hc⟩ := h6 h0
  exact ⟨b, off, e, by have := hk.1; omega, hB, fun i hi => by rw [World.cell?_of_block (w := w) (a := ⟨b, off + i, none⟩) (hk.2 b hB hlt)]; exact hc i hi⟩
theorem IMat.on {w w' : World} {B : Nat} {a : Option Addr} {n c : Nat} {M : List (List Nat)} (h : IMat w B a n c M) (hb : Below w.heap.size w w') : IMat w' B a n c M := h.keepR ((Kp.refl _ _ _).below hb (Nat.le_refl _))
theorem IMat.bd {w : World} {B : Nat} {a : Option Addr} {n c : Nat} {M : List (List Nat)} (h : IMat w B a n c M) : n ≤ c ∧ c ≤ 9223372036854775807 := ⟨h.2.1, by have := h.2.2.1; unfold maxLen at this; omega⟩
theorem IMat.own {w : World} {B n c : Nat} {e : TypeId} {a : Option Addr} {vs : List Value} {M : List (List Nat)} (h : w.ownsRow B e 1 (.slice a n c) n vs) (hv : IVr w B vs M) : IMat w B a n c M := by
  have hl : M.length = n := by rw [← hv.1, h.1, Nat.mul_one]
  rcases h.2 with ⟨e, h0⟩ | ⟨g, cap, cur, e, hg, hh, h4, h5, _⟩
  · cases e
    exact ⟨hl, Nat.le_refl _, Nat.zero_le _, vs, hv, fun h => absurd h (by omega)⟩
  · cases e
    exact ⟨hl, h4, h5, vs, hv, fun h0 => ⟨g, 0, rfl, (Array.getElem?_eq_some_iff.1 hh).1, hg, fun i hi => by rw [Nat.zero_add]; exact h.cellAt i (by omega)⟩⟩
theorem IMat.row {w : World} {B : Nat} {a : Option Addr} {n c : Nat} {M : List (List Nat)} (h : IMat w B a n c M) {i : Nat} (hi : i < n) (hb : ∀ x, x ∈ rwI M i → x ≤ 1000) : ∃ b off ai ci, a = some ⟨b, off, none⟩ ∧ b < w.heap.size ∧ w.cell? ⟨b, off + i, none⟩ = some (.slice ai (rwI M i).length ci) ∧ IA w ai (rwI M i).length ci (zl (rwI M i)) := by
  obtain ⟨h1, h2, h3, vs, h5, h6⟩ := h
  obtain ⟨b, off, e, hlt, _, hc⟩ := h6 (by omega)
  obtain ⟨ai, ci, k1, k2, k3, k4, k5⟩ := h5.2 i (by omega)
  refine ⟨b, off, ai, ci, e, hlt, by rw [hc i hi, k1], zl_len _, k2, k3, k4, fun j => ?_, fun h0 => ?_⟩
  · rw [zl_get]
    have : (rwI M i).getD j 0 ≤ 1000 := by
      by_cases hj : j < (rwI M i).length
      · have e : (rwI M i).getD j 0 = (rwI M i)[j] := by simp [List.getD_eq_getElem?_getD, hj]
        rw [e]; exact hb _ (List.getElem_mem hj)
      · rw [List.getD_eq_getElem?_getD, List.getElem?_eq_none (Nat.le_of_not_lt hj)]; exact Nat.zero_le _
    omega
  · obtain ⟨b, off, e, hb, _, _, hc⟩ := k5 h0
    exact ⟨b, off, e, hb, hc⟩
end Go.Proofs.YtappfdbmhgifcaaGreatDoor
/- Shapes: contracts of stripe's Right, RowSize, Need, checked, outside, places, numbers. -/
namespace Go.Proofs.YtappfdbmhgifcaaGreatDoor
open Go.ChangeShapes Go.WideShapes Go.ChangeAt Go.RowKit Go.Shelf GF
set_option linter.unusedVariables false
set_option linter.unusedSimpArgs false
set_option maxRecDepth 100000

/-- May it be? -/
def rightB (m t n c : Int) : Bool := decide (0 ≤ m) && (decide (m < 2) && (decide (1 ≤ t) && (decide (t ≤ n) && (decide (n ≤ 255) && (decide (0 ≤ c) && decide (c ≤ 127))))))
/-- It may. -/
def Sh (m : Int) (t n c : Nat) : Prop := (m = 0 ∨ m = 1) ∧ 1 ≤ t ∧ t ≤ n ∧ n ≤ 255 ∧ c ≤ 127
theorem Sh.right {m : Int} {t n c : Nat} (h : Sh m t n c) : rightB m t n c = true := by
  unfold Sh at h
  unfold rightB
  simp only [Bool.and_eq_true, decide_eq_true_eq]
  omega
/-- How long a row is; how many random bytes a block takes. -/
def rowV (m : Int) (t : Nat) : Nat := if m = 0 then 440 else ceil 473 t
def needV (m : Int) (t : Nat) : Nat := if m = 0 then (t - 1) * 440 else 32
theorem bxS (w : World) (cs : Array Value) (e : TypeId) : Below w.heap.size w (w.alloc (.cells cs e)) := (Below.refl _ _).alloc (Nat.le_refl _) _
theorem right_any (m t n c : Int) (w : World) : Calls Tryz.prog 22 #[.agg #[.int .i64 m, .int .i64 t, .int .i64 n, .int .i64 c]] w fun e w' => e = .returned (.bool (rightB m t n c)) ∧ Below w.heap.size w w' := by
  have HA := Lib.hid (bxS w #[.int .i64 m, .int .i64 t, .int .i64 n, .int .i64 c] 25)
  by_cases h1 : 0 ≤ m
  rotate_left
  · have HR := Lib.hid (show rightB m t n c = false by unfold rightB; simp [h1])
    go_enter Tryz.func22, Tryz.ntmps22
    go_wp2
    go_ret
    exact ⟨by rw [HR.out] <;> rfl, HA.out⟩
  by_cases h2 : m < 2
  rotate_left
  · have HR := Lib.hid (show rightB m t n c = false by unfold rightB; simp [h1, h2])
    go_enter Tryz.func22, Tryz.ntmps22
    go_wp2
    go_ret
    exact ⟨by rw [HR.out] <;> rfl, HA.out⟩
  by_cases h3 : 1 ≤ t
  rotate_left
  · have HR := Lib.hid (show rightB m t n c = false by unfold rightB; simp [h1, h2, h3])
    go_enter Tryz.func22, Tryz.ntmps22
    go_wp2
    go_ret
    exact ⟨by rw [HR.out] <;> rfl, HA.out⟩
  by_cases h4 : t ≤ n
  rotate_left
  · have HR := Lib.hid (show rightB m t n c = false by unfold rightB; simp [h1, h2, h3, h4])
    go_enter Tryz.func22, Tryz.ntmps22
    go_wp2
    go_ret
    exact ⟨by rw [HR.out] <;> rfl, HA.out⟩
  by_cases h5 : n ≤ 255
  rotate_left
  · have HR := Lib.hid (show rightB m t n c = false by unfold rightB; simp [h1, h2, h3, h4, h5])
    go_enter Tryz.func22, Tryz.ntmps22
    go_wp2
    go_ret
    exact ⟨by rw [HR.out] <;> rfl, HA.out⟩
  by_cases h6 : 0 ≤ c
  rotate_left
  · have HR := Lib.hid (show rightB m t n c = false by unfold rightB; simp [h1, h2, h3, h4, h5, h6])
    go_enter Tryz.func22, Tryz.ntmps22
    go_wp2
    go_ret
    exact ⟨by rw [HR.out] <;> rfl, HA.out⟩
  by_cases h7 : c ≤ 127
  rotate_left
  · have HR := Lib.hid (show rightB m t n c = false by unfold rightB; simp [h1, h2, h3, h4, h5, h6, h7])
    go_enter Tryz.func22, Tryz.ntmps22
    go_wp2
    go_ret
    exact ⟨by rw [HR.out] <;> rfl, HA.out⟩
  have HR := Lib.hid (show rightB m t n c = true by unfold rightB; simp [h1, h2, h3, h4, h5, h6, h7])
  go_enter Tryz.func22, Tryz.ntmps22
  go_wp2
  go_ret
  exact ⟨by rw [HR.out] <;> rfl, HA.out⟩
theorem rowsz_0 (t n c : Nat) (w : World) (h : Sh 0 t n c) : Calls Tryz.prog 15 #[.agg #[.int .i64 0, .int .i64 t, .int .i64 n, .int .i64 c]] w fun e w' => e = .returned (.int .i64 (rowV 0 t : Nat)) ∧ Below w.heap.size w w' := by
  have HA := Lib.hid (bxS w #[.int .i64 0, .int .i64 t, .int .i64 n, .int .i64 c] 25)
  have HR := Lib.hid (right_any 0 t n c (w.alloc (.cells #[.int .i64 0, .int .i64 t, .int .i64 n, .int .i64 c] 25)))
  rw [h.right] at HR
  have HT := Lib.hid h.2
  clear h
  go_enter Tryz.func15, Tryz.ntmps15
  go_wp2_with (go_at_call 22; go_loud (refine HR.out.mono ?_; rintro e w1 ⟨rfl, hb⟩; have HC1 := Lib.hid (hb.block w.heap.size (by simp)); have HB1 := Lib.hid (bt HA.out hb); have hx0 : w1.cell? ⟨w.heap.size, 0, none⟩ = some (.int .i64 0) := (by rw [World.cell?_of_block (w := w.alloc (.cells #[.int .i64 0, .int .i64 t, .int .i64 n, .int .i64 c] 25)) (a := ⟨w.heap.size, 0, none⟩) HC1.out]; simp); clear hb))
  go_ret
  exact ⟨rfl, HB1.out⟩
theorem rowsz_1 (t n c : Nat) (w : World) (h : Sh 1 t n c) : Calls Tryz.prog 15 #[.agg #[.int .i64 1, .int .i64 t, .int .i64 n, .int .i64 c]] w fun e w' => e = .returned (.int .i64 (rowV 1 t : Nat)) ∧ Below w.heap.size w w' := by
  have HA := Lib.hid (bxS w #[.int .i64 1, .int .i64 t, .int .i64 n, .int .i64 c] 25)
  have HR := Lib.hid (right_any 1 t n c (w.alloc (.cells #[.int .i64 1, .int .i64 t, .int .i64 n, .int .i64 c] 25)))
  rw [h.right] at HR
  have HT := Lib.hid h.2
  clear h
  go_enter Tryz.func15, Tryz.ntmps15
  go_wp2_with (first
    | (go_at_call 22; go_loud (refine HR.out.mono ?_; rintro e w1 ⟨rfl, hb⟩; have HC1 := Lib.hid (hb.block w.heap.size (by simp)); have HB1 := Lib.hid (bt HA.out hb); have hx0 : w1.cell? ⟨w.heap.size, 0, none⟩ = some (.int .i64 1) := (by rw [World.cell?_of_block (w := w.alloc (.cells #[.int .i64 1, .int .i64 t, .int .i64 n, .int .i64 c] 25)) (a := ⟨w.heap.size, 0, none⟩) HC1.out]; simp); have hx1 : w1.cell? ⟨w.heap.size, 1, none⟩ = some (.int .i64 t) := (by rw [World.cell?_of_block (w := w.alloc (.cells #[.int .i64 1, .int .i64 t, .int .i64 n, .int .i64 c] 25)) (a := ⟨w.heap.size, 1, none⟩) HC1.out]; simp); have HC := Lib.hid (partC 473 t w1 HT.out.1 (by have := HT.out; omega) (by omega)); clear hb))
    | (go_at_call 35; go_loud (refine HC.out.mono ?_; rintro e w2 ⟨rfl, q, rfl⟩; have HB2 := Lib.hid (below_drewN HB1.out q))))
  go_ret
  exact ⟨rfl, HB2.out⟩
theorem rowsz_any (m : Int) (t n c : Nat) (w : World) (h : Sh m t n c) : Calls Tryz.prog 15 #[.agg #[.int .i64 m, .int .i64 t, .int .i64 n, .int .i64 c]] w fun e w' => e = .returned (.int .i64 (rowV m t : Nat)) ∧ Below w.heap.size w w' := by
  rcases h.1 with rfl | rfl
  · exact rowsz_0 t n c w h
  · exact rowsz_1 t n c w h
theorem need_0 (t n c : Nat) (w : World) (h : Sh 0 t n c) : Calls Tryz.prog 23 #[.agg #[.int .i64 0, .int .i64 t, .int .i64 n, .int .i64 c]] w fun e w' => e = .returned (.int .i64 (needV 0 t : Nat)) ∧ Below w.heap.size w w' := by
  have HA := Lib.hid (bxS w #[.int .i64 0, .int .i64 t, .int .i64 n, .int .i64 c] 25)
  have HR := Lib.hid (right_any 0 t n c (w.alloc (.cells #[.int .i64 0, .int .i64 t, .int .i64 n, .int .i64 c] 25)))
  rw [h.right] at HR
  have HT := Lib.hid h.2
  clear h
  go_enter Tryz.func23, Tryz.ntmps23
  go_wp2_with (first
    | (go_at_call 22; go_loud (refine HR.out.mono ?_; rintro e w1 ⟨rfl, hb⟩; have HC1 := Lib.hid (hb.block w.heap.size (by simp)); have HB1 := Lib.hid (bt HA.out hb); have hx0 : w1.cell? ⟨w.heap.size, 0, none⟩ = some (.int .i64 0) := (by rw [World.cell?_of_block (w := w.alloc (.cells #[.int .i64 0, .int .i64 t, .int .i64 n, .int .i64 c] 25)) (a := ⟨w.heap.size, 0, none⟩) HC1.out]; simp); have hx1 : w1.cell? ⟨w.heap.size, 1, none⟩ = some (.int .i64 t) := (by rw [World.cell?_of_block (w := w.alloc (.cells #[.int .i64 0, .int .i64 t, .int .i64 n, .int .i64 c] 25)) (a := ⟨w.heap.size, 1, none⟩) HC1.out]; simp); have HC := Lib.hid (maskC t 440 w1 HT.out.1 (by have := HT.out; omega) (by omega)); clear hb))
    | (go_at_call 48; go_loud (refine HC.out.mono ?_; rintro e w2 ⟨rfl, hb⟩; have HB2 := Lib.hid (bt HB1.out hb); clear hb)))
  go_ret
  exact ⟨rfl, HB2.out⟩
theorem need_1 (t n c : Nat) (w : World) (h : Sh 1 t n c) : Calls Tryz.prog 23 #[.agg #[.int .i64 1, .int .i64 t, .int .i64 n, .int .i64 c]] w fun e w' => e = .returned (.int .i64 (needV 1 t : Nat)) ∧ Below w.heap.size w w' := by
  have HA := Lib.hid (bxS w #[.int .i64 1, .int .i64 t, .int .i64 n, .int .i64 c] 25)
  have HR := Lib.hid (right_any 1 t n c (w.alloc (.cells #[.int .i64 1, .int .i64 t, .int .i64 n, .int .i64 c] 25)))
  rw [h.right] at HR
  have HT := Lib.hid h.2
  clear h
  go_enter Tryz.func23, Tryz.ntmps23
  go_wp2_with (go_at_call 22; go_loud (refine HR.out.mono ?_; rintro e w1 ⟨rfl, hb⟩; have HC1 := Lib.hid (hb.block w.heap.size (by simp)); have HB1 := Lib.hid (bt HA.out hb); have hx0 : w1.cell? ⟨w.heap.size, 0, none⟩ = some (.int .i64 1) := (by rw [World.cell?_of_block (w := w.alloc (.cells #[.int .i64 1, .int .i64 t, .int .i64 n, .int .i64 c] 25)) (a := ⟨w.heap.size, 0, none⟩) HC1.out]; simp); clear hb))
  go_ret
  exact ⟨rfl, HB1.out⟩
theorem need_any (m : Int) (t n c : Nat) (w : World) (h : Sh m t n c) : Calls Tryz.prog 23 #[.agg #[.int .i64 m, .int .i64 t, .int .i64 n, .int .i64 c]] w fun e w' => e = .returned (.int .i64 (needV m t : Nat)) ∧ Below w.heap.size w w' := by
  rcases h.1 with rfl | rfl
  · exact need_0 t n c w h
  · exact need_1 t n c w h
end Go.Proofs.YtappfdbmhgifcaaGreatDoor
/- Shapes: contracts of stripe's checked, outside, places, numbers, uneven, and of slices.ContainsFunc at these. -/
namespace Go.Proofs.YtappfdbmhgifcaaGreatDoor
open Go.ChangeShapes Go.WideShapes Go.ChangeAt Go.RowKit Go.Shelf GF
set_option linter.unusedVariables false
set_option linter.unusedSimpArgs false
set_option maxRecDepth 100000

/-- A shape in a block of its own. -/
def Bx (w : World) (b : Nat) (m t n c : Int) : Prop := w.heap[b]? = some (.cells #[.int .i64 m, .int .i64 t, .int .i64 n, .int .i64 c] 25 (0, 0))
theorem Bx.lt {w : World} {b : Nat} {m t n c : Int} (h : Bx w b m t n c) : b < w.heap.size := by
  rcases Nat.lt_or_ge b w.heap.size with hlt | hge
  · exact hlt
  · unfold Bx at h; rw [Array.getElem?_eq_none hge] at h; cases h
theorem Bx.on {w w' : World} {b : Nat} {m t n c : Int} (h : Bx w b m t n c) (hb : Below w.heap.size w w') : Bx w' b m t n c := (hb.block b h.lt).trans h
theorem Bx.new (w : World) (m t n c : Int) : Bx (w.alloc (.cells #[.int .i64 m, .int .i64 t, .int .i64 n, .int .i64 c] 25)) w.heap.size m t n c := heap_alloc_new w _
theorem Bx.c0 {w : World} {b : Nat} {m t n c : Int} (h : Bx w b m t n c) : w.cell? ⟨b, 0, none⟩ = some (.int .i64 m) := by unfold Bx at h; simp [World.cell?, h]
theorem Bx.c1 {w : World} {b : Nat} {m t n c : Int} (h : Bx w b m t n c) : w.cell? ⟨b, 1, none⟩ = some (.int .i64 t) := by unfold Bx at h; simp [World.cell?, h]
theorem Bx.c2 {w : World} {b : Nat} {m t n c : Int} (h : Bx w b m t n c) : w.cell? ⟨b, 2, none⟩ = some (.int .i64 n) := by unfold Bx at h; simp [World.cell?, h]
theorem Bx.c3 {w : World} {b : Nat} {m t n c : Int} (h : Bx w b m t n c) : w.cell? ⟨b, 3, none⟩ = some (.int .i64 c) := by unfold Bx at h; simp [World.cell?, h]

/-! ## checked -/
theorem schk_yes (b : Nat) (m : Int) (t n c : Nat) (aR : Option Addr) (L cR : Nat) (w : World) (h : Sh m t n c) (hL : L ≤ cR ∧ cR ≤ 9223372036854775807) :
    Calls Tryz.prog 24 #[.agg #[.int .i64 m, .int .i64 t, .int .i64 n, .int .i64 c], .pointer (some ⟨b, 0, none⟩), .slice aR L cR] w fun e w' => e = .returned (.int .i64 (if L = needV m t then 0 else 3)) ∧ Below w.heap.size w w' := by
  have HA := Lib.hid (bxS w #[.int .i64 m, .int .i64 t, .int .i64 n, .int .i64 c] 25)
  have HX := Lib.hid (Bx.new w m t n c)
  have HR := Lib.hid (right_any m t n c (w.alloc (.cells #[.int .i64 m, .int .i64 t, .int .i64 n, .int .i64 c] 25)))
  rw [h.right] at HR
  have HN := Lib.hid (fun w => need_any m t n c w h)
  obtain ⟨V, hV⟩ : ∃ V, V = needV m t := ⟨_, rfl⟩
  rw [← hV] at HN ⊢
  clear h hV
  by_cases hE : L = V
  · subst hE
    rw [if_pos rfl]
    have q : ((L : Int) != (L : Int)) = false := by simp
    go_enter Tryz.func24, Tryz.ntmps24
    go_wp2_with (first
      | (go_at_call 22; go_loud (refine HR.out.mono ?_; rintro e w1 ⟨rfl, hb⟩; have HX1 := Lib.hid (HX.out.on hb); have HB1 := Lib.hid (bt HA.out hb); have x0 := HX1.out.c0; have x1 := HX1.out.c1; have x2 := HX1.out.c2; have x3 := HX1.out.c3; clear hb))
      | (go_at_call 23; go_loud (refine (HN.out _).mono ?_; rintro e w2 ⟨rfl, hb⟩; have HB2 := Lib.hid (bt HB1.out hb); clear hb)))
    go_ret
    exact ⟨rfl, HB2.out⟩
  · have q : ((L : Int) != (V : Int)) = true := by rw [bne_iff_ne]; omega
    rw [if_neg hE]
    clear hE
    go_enter Tryz.func24, Tryz.ntmps24
    go_wp2_with (first
      | (go_at_call 22; go_loud (refine HR.out.mono ?_; rintro e w1 ⟨rfl, hb⟩; have HX1 := Lib.hid (HX.out.on hb); have HB1 := Lib.hid (bt HA.out hb); have x0 := HX1.out.c0; have x1 := HX1.out.c1; have x2 := HX1.out.c2; have x3 := HX1.out.c3; clear hb))
      | (go_at_call 23; go_loud (refine (HN.out _).mono ?_; rintro e w2 ⟨rfl, hb⟩; have HB2 := Lib.hid (bt HB1.out hb); clear hb)))
    go_ret
    exact ⟨rfl, HB2.out⟩

/-! ## outside -/
/-! ## uneven -/
/-! ## places, numbers -/
/-- The places 1 to n. -/
def upN (n : Nat) : List Nat := (List.range n).map (· + 1)
def upV (n k : Nat) : List Value := (zl (upN k)).map (Value.int .i64) ++ List.replicate (n - k) (.int .i64 0)
theorem upV_len {n k : Nat} (h : k ≤ n) : (upV n k).length = n := by simp [upV, zl, upN]; omega
theorem upV_set {n k : Nat} (h : k < n) : (upV n k).set k (.int .i64 ((k + 1 : Nat) : Int)) = upV n (k + 1) := by
  unfold upV
  have hl : ((zl (upN k)).map (Value.int .i64)).length = k := by simp [zl, upN]
  have := set_nextY (vs := (zl (upN k)).map (Value.int .i64)) (n := n) (.int .i64 0) (.int .i64 ((k + 1 : Nat) : Int)) (by omega)
  rw [hl] at this
  rw [this]
  congr 1
  simp [zl, upN, List.range_succ]
theorem infoI17 : (Tryz.prog.info? 3).map (fun i => (i.zero, i.size, i.bytes)) = some (some (.int .i64 0), 1, 8) := by kernel_rfl
theorem own_madeI17 {w : World} {n : Nat} (hm : n ≤ maxLen) :
    (w.alloc (.cells (madeCells #[Value.int .i64 0] n) 3)).ownsRow w.heap.size 3 1 (.slice (some ⟨w.heap.size, 0, none⟩) n n) n (upV n 0) := by
  have := World.ownsRow_lit (base := w.heap.size) (e := 3) (size := 1) w (madeCells #[Value.int .i64 0] n) n (Nat.le_refl _) hm (by simp [size_madeCells])
  rw [toList_madeCells_one] at this
  exact this
theorem ia_own17 {w : World} {B n c : Nat} {a : Option Addr} {l : List Int} (h : w.ownsRow B 3 1 (.slice a n c) n (l.map (Value.int .i64))) (hz : ∀ z, z ∈ l → 0 ≤ z ∧ z < 256) : IA w a n c l := by
  obtain ⟨a', c', e, hi⟩ := IA.own h hz
  cases e
  exact hi
theorem upN_lt {n z : Nat} (h : z ∈ upN n) : 1 ≤ z ∧ z ≤ n := by
  obtain ⟨i, hi, rfl⟩ := List.mem_map.1 h
  have := List.mem_range.1 hi
  omega
theorem up_getD {n k : Nat} (hk : k < n) : (zl (upN n)).getD k 0 = ((k + 1 : Nat) : Int) := by simp [zl, upN, List.getD_eq_getElem?_getD, hk]
theorem places_any (m t c : Int) (n : Nat) (w : World) (hn : n ≤ 255) :
    Calls Tryz.prog 27 #[.agg #[.int .i64 m, .int .i64 t, .int .i64 (n : Nat), .int .i64 c]] w fun e w' => ∃ g, e = .returned (.slice (some ⟨g, 0, none⟩) n n) ∧ w.heap.size ≤ g ∧ IA w' (some ⟨g, 0, none⟩) n n (zl (upN n)) ∧ Below w.heap.size w w' := by
  have HA := Lib.hid (bxS w #[.int .i64 m, .int .i64 t, .int .i64 n, .int .i64 c] 25)
  have hmk := run_make_row' (P := Tryz.prog) 39 3 (.int .i64 0) 8 Tryz.underlying39 infoI17 rfl .i64 .i64 n (by omega) (by omega)
  have hO0 : Hid (((w.alloc (.cells #[.int .i64 m, .int .i64 t, .int .i64 n, .int .i64 c] 25)).alloc (.cells (madeCells #[.int .i64 0] n) 3)).ownsRow (w.heap.size + 1) 3 1 (.slice (some ⟨w.heap.size + 1, 0, none⟩) n n) n (upV n 0)) := by
    have h := own_madeI17 (w := w.alloc (.cells #[.int .i64 m, .int .i64 t, .int .i64 n, .int .i64 c] 25)) (n := n) (by unfold maxLen; omega)
    rw [show (w.alloc (.cells #[.int .i64 m, .int .i64 t, .int .i64 n, .int .i64 c] 25)).heap.size = w.heap.size + 1 by simp] at h
    exact Lib.hid h
  have hB0 : Hid (Below w.heap.size w ((w.alloc (.cells #[.int .i64 m, .int .i64 t, .int .i64 n, .int .i64 c] 25)).alloc (.cells (madeCells #[.int .i64 0] n) 3))) := Lib.hid (HA.out.alloc (by simp) _)
  have HN := Lib.hid hn
  clear hn
  go_enter Tryz.func27, Tryz.ntmps27
  go_wp2
  go_loopw [10] (fun j wr => ∃ k : Nat, k ≤ n ∧ j = .int .i64 (k : Nat) ∧ Hid (wr.ownsRow (w.heap.size + 1) 3 1 (.slice (some ⟨w.heap.size + 1, 0, none⟩) n n) n (upV n k)) ∧ Hid (Below w.heap.size w wr))
    (fun j _ => n - (intOf j).toNat)
  case atStart => exact ⟨0, Nat.zero_le _, rfl, hO0, hB0⟩
  case round =>
    obtain ⟨k, hk, rfl, hO, hB⟩ := hrel
    rename World => w2
    by_cases hlt : k < n
    · have qi : (k : Int) < (n : Int) := by omega
      have qi0 : (0 : Int) ≤ (k : Int) := by omega
      have k1 : wrap64 ((k : Int) + 1) = ((k + 1 : Nat) : Int) := by have := HN.out; unfold wrap64; omega
      have hfz := hO.out.frozenAt k
      have hcl := hO.out.cellAt k (by omega)
      obtain ⟨vo, hvo⟩ : ∃ v, (upV n k)[k]? = some v := ⟨_, List.getElem?_eq_getElem (by rw [upV_len hk]; exact hlt)⟩
      rw [hvo] at hcl
      have hst := (hO.out.stored k (.int .i64 ((k + 1 : Nat) : Int))).1
      rw [upV_set hlt, ← k1] at hst
      have HST := Lib.hid hst
      have HBS := Lib.hid (hB.out.setCell (p := ⟨w.heap.size + 1, k, none⟩) (Nat.le_succ _) (.int .i64 (wrap64 ((k : Int) + 1))))
      have HLT := Lib.hid hlt
      have K1 := Lib.hid k1
      clear hst hlt hk hvo k1
      go_wp2
      go_roundw
      case rel => exact ⟨k + 1, by have := HLT.out; omega, by rw [K1.out], HST, HBS⟩
      case measure => rw [K1.out]; simp [intOf]; have := HLT.out; omega
    · obtain rfl : k = n := by omega
      have ho := hO.out
      unfold upV at ho
      rw [Nat.sub_self, List.replicate_zero, List.append_nil] at ho
      have HP := Lib.hid (ia_own17 ho (fun z hz => by obtain ⟨x, hx, rfl⟩ := List.mem_map.1 hz; have := upN_lt hx; have := HN.out; omega))
      clear ho hlt
      go_wp2
      go_ret
      exact ⟨_, rfl, by omega, HP.out, hB.out⟩
/-- Places as numbers of the field. -/
def gZ (ps : List Int) : List GF := ps.map toG
theorem gZ_len (ps : List Int) : (gZ ps).length = ps.length := by simp [gZ]
theorem gZ_co (ps : List Int) (k : Nat) : co (gZ ps) k = toG (ps.getD k 0) := co_gL ps k
theorem gZ_up (n : Nat) : gZ (zl (upN n)) = plc n := by
  unfold gZ zl upN plc pl
  rw [List.map_map, List.map_map]
  exact List.map_congr_left fun i _ => rfl
theorem plc_ne {n k : Nat} (hn : n ≤ 255) (hk : k < n) : co (plc n) k ≠ 0 := by
  rw [plc_co hk]
  intro e
  have := congrArg toI e
  rw [pl_I (by omega)] at this
  have h0 : toI 0 = 0 := toI_zero
  omega
theorem snumbers_any (aX : Option Addr) (N cX : Nat) (ps : List Int) (w : World) (hX : IA w aX N cX ps) (hN : N ≤ 255) (hok : ∀ k, k < N → 0 ≤ ps.getD k 0 ∧ ps.getD k 0 < 256) :
    Calls Tryz.prog 26 #[.slice aX N cX] w fun e w' => ∃ g, e = .returned (.slice (some ⟨g, 0, none⟩) N N) ∧ Pa w' (some ⟨g, 0, none⟩) N N (gZ ps) ∧ Below w.heap.size w w' := by
  have HX := Lib.hid hX
  have HOK := Lib.hid hok
  have HN := Lib.hid hN
  have hbd := hX.bd
  have HL := Lib.hid (show (gZ ps).length = N by rw [gZ_len]; exact hX.1)
  have qN : (N : Int) ≤ 255 := by omega
  have hmk := run_make_row' (P := Tryz.prog) 22 5 (.int .u8 0) 1 Tryz.underlying22 info5 rfl .i64 .i64 N (by omega) (by omega)
  have hO0 : Hid ((w.alloc (.cells (madeCells #[.int .u8 0] N) 5)).ownsRow w.heap.size 5 1 (.slice (some ⟨w.heap.size, 0, none⟩) N N) N (plV (gZ ps) N 0)) := by
    rw [plV_zero]
    exact Lib.hid (own_made (w := w) (e := 5) (n := N) (by unfold maxLen; omega))
  have hB0 : Hid (Below w.heap.size w (w.alloc (.cells (madeCells #[.int .u8 0] N) 5))) := Lib.hid ((Below.refl _ _).alloc (Nat.le_refl _) _)
  clear hX hok hN
  go_enter Tryz.func26, Tryz.ntmps26
  go_wp2
  go_loopw [11] (fun j wr => ∃ k : Nat, k ≤ N ∧ j = .int .i64 (k : Nat) ∧ Hid (wr.ownsRow w.heap.size 5 1 (.slice (some ⟨w.heap.size, 0, none⟩) N N) N (plV (gZ ps) N k)) ∧ Hid (Below w.heap.size w wr))
    (fun j _ => N - (intOf j).toNat)
  case atStart => exact ⟨0, Nat.zero_le _, rfl, hO0, hB0⟩
  case round =>
    obtain ⟨k, hk, rfl, hO, hB⟩ := hrel
    rename World => w2
    by_cases hlt : k < N
    · have qi : (k : Int) < (N : Int) := by omega
      have qi0 : (0 : Int) ≤ (k : Int) := by omega
      obtain ⟨b, off, rfl, hb, hcell⟩ := (HX.out.on hB.out).at_ hlt
      have hz := HOK.out k hlt
      obtain ⟨z, hzz⟩ : ∃ z, z = ps.getD k 0 := ⟨_, rfl⟩
      rw [← hzz] at hcell hz
      have k1 : ∀ [Inhabited Unit], IntKind.u8.wrap z = toI (toG z) := by
        intro _
        rw [toI_toG hz, IntKind.wrap_u8]; omega
      have hfz := hO.out.frozenAt k
      have hcl := hO.out.cellAt k (by omega)
      obtain ⟨vo, hvo⟩ : ∃ v, (plV (gZ ps) N k)[k]? = some v := ⟨_, List.getElem?_eq_getElem (by rw [plV_len HL.out hk]; exact hlt)⟩
      rw [hvo] at hcl
      have hst := (hO.out.stored k (.int .u8 (toI (toG z)))).1
      rw [show toG z = co (gZ ps) k by rw [gZ_co, hzz], plV_set HL.out hlt, gZ_co, ← hzz] at hst
      have HST := Lib.hid hst
      have HBS := Lib.hid (hB.out.setCell (p := ⟨w.heap.size, k, none⟩) (Nat.le_refl _) (.int .u8 (toI (toG z))))
      have HLT := Lib.hid hlt
      clear hst hlt hk hvo hz hzz hb
      go_wp2
      go_roundw
      case rel => exact ⟨k + 1, by have := HLT.out; omega, by go_num, HST, HBS⟩
      case measure => simp [intOf]; have := HLT.out; omega
    · obtain rfl : k = N := by omega
      have ho := hO.out
      rw [plV_all HL.out] at ho
      have HP := Lib.hid (Pa.own2 ho)
      clear ho hlt
      go_wp2
      go_ret
      exact ⟨_, rfl, HP.out, hB.out⟩
end Go.Proofs.YtappfdbmhgifcaaGreatDoor
/- What package mend's Rows, At, Wrong and Radius answer: the contracts, as statements over whatever a Mended is in memory. -/
namespace Go.Proofs.YtappfdbmhgifcaaGreatDoor
open Go.ChangeShapes Go.WideShapes Go.ChangeAt Go.RowKit Go.Shelf GF
set_option linter.unusedVariables false
set_option linter.unusedSimpArgs false

/-- What rows should be at a place. -/
def evP (P : List (List GF)) (x : GF) : List GF := P.map fun p => ev p x
theorem evP_len (P : List (List GF)) (x : GF) : (evP P x).length = P.length := by simp [evP]
theorem evP_co {P : List (List GF)} (x : GF) {k : Nat} (h : k < P.length) : co (evP P x) k = ev (rw_ P k) x := by
  show List.getD _ _ _ = _
  unfold evP rw_; simp [List.getD_eq_getElem?_getD, h]
end Go.Proofs.YtappfdbmhgifcaaGreatDoor
/- Texts of mine, one behind the other: Jb Je. -/
/- Contracts of hash: the state's bytes; what stands behind all bytes. -/
namespace Go.Proofs.YtappfdbmhgifcaaGreatDoor
open Go.ChangeShapes Go.WideShapes Go.ChangeAt Go.RowKit
set_option linter.unusedVariables false
set_option maxRecDepth 100000

theorem index_S (f : Nat → Nat) {k : Nat} (hk : k < 8) (w : World) : (Instr.index 166 (.agg (tabV 8 (gV f))) (.int .i64 (k : Nat))).run Tryz.prog w = .ok (.int .u32 ((f k : Nat) : Int)) w := by
  rcases lt8H hk with rfl | rfl | rfl | rfl | rfl | rfl | rfl | rfl <;> kernel_rfl
theorem Row8.bs {w : World} {g n : Nat} {l : List Int} (h : Row8 w g n l) : Bs w w.heap.size (some ⟨g, 0, none⟩) l := fun h0 => ⟨g, 0, rfl, h.2.2.1, fun i hi => by rw [Nat.zero_add]; exact h.2.2.2 i (by rw [← h.1]; exact hi)⟩
set_option maxHeartbeats 1000000 in
theorem hbytes_cap (h : Nat → Nat) (w : World) (hh : ∀ i, h i < 4294967296) :
    Calls Tryz.prog 130 #[.agg (tabV 8 (gV h))] w fun e w' => ∃ g c', e = .returned (.slice (some ⟨g, 0, none⟩) 32 c') ∧ Row8 w' g 32 (outW h 8) ∧ Below w.heap.size w w' ∧ 32 ≤ c' := by
  have HHB := Lib.hid hh
  obtain ⟨s0, hs0⟩ : ∃ s0 : Array Value, s0 = tabV 8 (gV h) := ⟨_, rfl⟩
  rw [← hs0]
  have HSS := Lib.hid (show (Tryz.prog.info? 166).map (·.size) = some s0.size by rw [hs0, size_tabV]; exact size_S)
  have HS0 := Lib.hid hs0
  have S1 := Lib.hid (show ((w.alloc (.cells s0 166)).alloc (.cells #[] 5)).heap[w.heap.size]? = some (.cells s0 166 (0, 0)) by
    rw [((Below.refl (w.heap.size + 1) (w.alloc (.cells s0 166))).alloc (by simp) _).block w.heap.size (by omega)]
    exact heap_alloc_new w _)
  have HB0 := Lib.hid (show Below w.heap.size w ((w.alloc (.cells s0 166)).alloc (.cells #[] 5)) from ((Below.refl _ _).alloc (Nat.le_refl _) _).alloc (by simp) _)
  have HR0 := Lib.hid (show Row8 ((w.alloc (.cells s0 166)).alloc (.cells #[] 5)) (w.heap.size + 1) 0 (outW h 0) from ⟨rfl, (fun y hy => by cases hy), by simp, fun i hi => by omega⟩)
  clear hs0 hh
  go_enter Tryz.func130, Tryz.ntmps130
  go_upto_region 3 with ((with_reducible show wpList _ _ _ (⟨some 7, _, _, _, _, _⟩ :: _) _ _); go_loud (refine wpList_load_row rfl 166 (.tmp 1) rfl w.heap.size rfl _ s0 _ _ S1.out Tryz.underlying166 rfl HSS.out ?_))
  go_loopw [3, 8] (fun o s wr => ∃ (i g c' : Nat), i ≤ 8 ∧ s = .int .i64 (i : Nat) ∧ o = .slice (some ⟨g, 0, none⟩) (4 * i) c' ∧ Row8 wr g (4 * i) (outW h i) ∧ Below w.heap.size w wr ∧ 4 * i ≤ c') (fun _ s _ => 8 - (intOf s).toNat)
  case atStart => exact ⟨0, _, _, by omega, rfl, rfl, HR0.out, HB0.out, by omega⟩
  case round =>
    obtain ⟨i, g, c', hi, rfl, rfl, h1, h2, h3⟩ := hrel
    rename World => R
    have RR := Lib.hid h1
    have RB := Lib.hid h2
    have RC := Lib.hid h3
    clear h1 h2 h3 HR0 HB0 S1
    by_cases hlt : i < 8
    · have HLI := Lib.hid hlt
      have qi : (i : Int) < 8 := by omega
      have hix : ∀ w : World, (Instr.index 166 (.agg s0) (.int .i64 (i : Nat))).run Tryz.prog w = .ok (.int .u32 ((h i : Nat) : Int)) w := fun w => by rw [HS0.out]; exact index_S h hlt w
      have HP := Lib.hid (put32 (some ⟨g, 0, none⟩) (4 * i) c' (outW h i) R RR.out.1 RR.out.bs (by omega) ((h i : Nat) : Int) (mk_u32 (by omega) (by have := HHB.out i; omega)))
      have HW := Lib.hid (show outW h i ++ be 4 ((h i : Nat) : Int) = outW h (i + 1) by rw [be4_w4, outW])
      obtain ⟨x, hx⟩ : ∃ x, x = h i := ⟨_, rfl⟩
      rw [← hx] at hix HP HW
      clear hlt hx
      go_wp2_with (go_at_call 153; go_loud ((with_reducible refine HP.out.mono ?_); rintro e R2 ⟨g2, rfl, ho, hb⟩; have HO := Lib.hid ho; have HB := Lib.hid hb; clear ho hb))
      go_roundw
      case rel => exact ⟨i + 1, g2, _, HLI.out, by go_num, by rw [Nat.mul_succ], by rw [← HW.out, Nat.mul_succ]; exact Row8.own HO.out (by rw [HW.out]; exact outW_B h _), bt RB.out HB.out, by omega⟩
      case measure => simp [intOf] <;> omega
    · obtain rfl : i = 8 := by omega
      go_wp2
      go_ret
      exact ⟨g, c', rfl, RR.out, RB.out, by have := RC.out; omega⟩
/-- What stands behind n bytes. -/
def endL (n : Nat) : List Int := [128] ++ List.replicate (zc n) 0 ++ w8L (8 * n) 8
theorem shaM_end (b : List Int) : shaM b = b ++ endL b.length := by unfold shaM endL; simp [List.append_assoc]
theorem endL_len (n : Nat) : (endL n).length = zc n + 9 := by unfold endL; simp [length_w8L] <;> omega
theorem endL_B (n : Nat) : AllB (endL n) := fun y hy => by
  rcases List.mem_append.1 hy with h | h
  · rcases List.mem_append.1 h with h | h
    · rw [List.mem_singleton.1 h]; omega
    · rw [(List.mem_replicate.1 h).2]; omega
  · exact w8L_B _ _ y h
end Go.Proofs.YtappfdbmhgifcaaGreatDoor
/- The contract of hash's end: the padding and the length. -/
namespace Go.Proofs.YtappfdbmhgifcaaGreatDoor
open Go.ChangeShapes Go.WideShapes Go.ChangeAt Go.RowKit
set_option linter.unusedVariables false
set_option maxRecDepth 100000

theorem end_head (Z : Nat) : ∀ j, j < Z + 1 → (if j = 0 then Value.int .u8 128 else Value.int .u8 0) = Value.int .u8 (([128] ++ List.replicate Z 0 : List Int).getD j 0) := fun j hj => by
  match j, hj with
  | 0, _ => rfl
  | j + 1, hj =>
    rw [if_neg (by omega)]
    simp [List.getD_eq_getElem?_getD, List.getElem?_replicate]
    split <;> rfl
set_option maxHeartbeats 1000000 in
theorem end_any (g : Nat) (h : Nat → Nat) (W : List Int) (n : Nat) (w : World) (hR : Blk w g 169 73 (runV h W n)) (hn : n ≤ 1000000) :
    Calls Tryz.prog 129 #[.pointer (some ⟨g, 0, none⟩)] w fun e w' => ∃ g' c', e = .returned (.slice (some ⟨g', 0, none⟩) (zc n + 9) c') ∧ zc n + 9 ≤ c' ∧ w.heap.size ≤ g' ∧ Row8 w' g' (zc n + 9) (endL n) ∧ Below w.heap.size w w' := by
  obtain ⟨i8, hi8, hz8, hz81, hz82⟩ := info_parts info5
  obtain ⟨Z, hZ⟩ : ∃ Z, Z = zc n := ⟨_, rfl⟩
  obtain ⟨R, hRR⟩ : ∃ R, R = n % 64 := ⟨_, rfl⟩
  have hcell := hR.cell (j := 72) (by omega)
  rw [runV_total] at hcell
  have qR : (n : Int) % 64 = (R : Int) := by omega
  have qZ : (119 - (R : Int)) % 64 = (Z : Int) := by unfold zc at hZ; omega
  have bR : (R : Int) < 64 := by omega
  have bZ : (Z : Int) < 64 := by have := zc_lt n; omega
  have bn : (n : Int) ≤ 1000000 := by omega
  have hmk : ∀ U : World, (Instr.makeSlice 22 (.int .u64 (1 + (Z : Int))) (.int .u64 (1 + (Z : Int)))).run Tryz.prog U = .ok (.slice (some ⟨U.heap.size, 0, none⟩) (Z + 1) (Z + 1)) (U.alloc (.cells (madeCells #[.int .u8 0] (Z + 1)) 5)) := by
    intro U
    have := run_make (P := Tryz.prog) U 22 5 i8 _ Tryz.underlying22 hi8 hz8 .u64 .u64 (1 + (Z : Int)) (1 + (Z : Int)) (by omega) (by omega) (by rw [hz82]; omega) (by omega)
    rw [this, hz81]
    have e1 : (1 + (Z : Int)).toNat = Z + 1 := by omega
    rw [e1]; simp
    rfl
  have hB1 : Blk (w.alloc (.cells (madeCells #[.int .u8 0] (Z + 1)) 5)) w.heap.size 5 (Z + 1) (fun _ => .int .u8 0) := by rw [madeCells_tabV]; exact Blk.made _ _ _ _
  have hc0 := hB1.cell (j := 0) (by omega)
  have hf0 := hB1.free 0
  clear hB1
  obtain ⟨W2, hW2⟩ : ∃ W2, W2 = w.alloc (.cells ((madeCells #[.int .u8 0] (Z + 1)).setIfInBounds 0 (.int .u8 128)) 5) := ⟨_, rfl⟩
  have H2 := Lib.hid (show Blk W2 w.heap.size 5 (Z + 1) (fun j => .int .u8 (([128] ++ List.replicate Z 0 : List Int).getD j 0)) by
    rw [hW2, madeCells_tabV, tabV_set _ (by omega)]
    exact (Blk.made _ _ _ _).congr (end_head Z))
  have HB2 := Lib.hid (show Below w.heap.size w W2 by rw [hW2]; exact (Below.refl _ _).alloc (Nat.le_refl _) _)
  have hc2 : W2.cell? ⟨g, 72, none⟩ = some (.int .u64 ((n : Nat) : Int)) := by
    have := (hR.on HB2.out hR.lt).cell (j := 72) (by omega)
    rw [runV_total] at this; exact this
  have HPUT := Lib.hid (show Calls Tryz.prog 152 #[.slice (some ⟨w.heap.size, 0, none⟩) (Z + 1) (Z + 1), .int .u64 (8 * (n : Int))] W2 _ from
    put64 (some ⟨w.heap.size, 0, none⟩) (Z + 1) (Z + 1) ([128] ++ List.replicate Z 0) W2 (by simp) (fun h0 => ⟨w.heap.size, 0, rfl, H2.out.lt, fun i hi => by rw [Nat.zero_add]; exact H2.out.cell (by simp at hi; omega)⟩) (by omega) (8 * (n : Int)) (mk_u64 (by omega) (by omega)))
  have HE := Lib.hid (show [128] ++ List.replicate Z 0 ++ be 8 (8 * (n : Int)) = endL n by unfold endL; rw [← be8_w8, ← hZ]; try rfl)
  have HZ := Lib.hid hZ
  rw [← hZ]
  have HW2 := Lib.hid hW2
  clear hW2
  have bw : 8 * (n : Int) < 18446744073709551616 := by omega
  clear hRR hi8 hz8 hz81 hz82 hZ hn hR
  go_enter Tryz.func129, Tryz.ntmps129
  go_upto_region 2 with fail
  go_upto_region 3 with fail
  go_upto_region 4 with fail
  clear qR qZ hmk hf0 hc0 hcell
  rw [← HW2.out]
  go_wp2_with (go_at_call 152; go_loud ((with_reducible refine HPUT.out.mono ?_); rintro e W3 ⟨g3, rfl, ho, hb⟩; have HO := Lib.hid ho; have HB := Lib.hid hb; clear ho hb))
  go_ret
  have HB3 := Lib.hid (HB2.out.trans (HB.out.mono HB2.out.size))
  refine ⟨g3, _, rfl, by omega, ?_, ?_, HB3.out⟩
  · have h := HO.out.2
    rcases h with ⟨h, _⟩ | ⟨g', cap, cur, e, hge, _⟩
    · cases h
    · cases e
      have := HB2.out.size
      omega
  · have h := Row8.own HO.out (by rw [HE.out]; exact endL_B n)
    rw [HE.out] at h
    exact h
end Go.Proofs.YtappfdbmhgifcaaGreatDoor
