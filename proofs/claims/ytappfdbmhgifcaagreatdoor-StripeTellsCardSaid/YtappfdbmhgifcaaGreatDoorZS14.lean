/- Texts of mine, one behind the other: Vf Vg Ra Rb Rc Rf Ha. -/
import Derived.Test.YtappfdbmhgifcaaGreatDoorZS12
import Derived.Test.YtappfdbmhgifcaaGreatDoorZS10
import Derived.Test.YtappfdbmhgifcaaGreatDoorZS11
import Derived.Deep.RegionHeld
import Derived.BigQuiet
import Derived.Deep.QuietTactic
import Derived.StillTailTactics
import Derived.Test.YtappfdbmhgifcaaGreatDoorZS13
import Derived.Laws.AppendOwnNone
import Derived.Deep.AppendLies
/- Contract of shamir's value. -/
namespace Go.Proofs.YtappfdbmhgifcaaGreatDoor
open Go.ChangeShapes Go.WideShapes Go.ChangeAt Go.RowKit Go.Shelf GF
set_option linter.unusedVariables false
set_option linter.unusedSimpArgs false
set_option maxRecDepth 100000
attribute [local go_sem] Oper.semAt_some

theorem Pa.noncell {w w' : World} {a : Option Addr} {L c : Nat} {P : List GF} {row : Option Nat} (h : Pa w a L c P) (hg : w.grownBy w' row) (hr : ∀ r, row = some r → ∃ o : Obj, w.heap[r]? = some o ∧ o.isCells = false) : Pa w' a L c P :=
  ⟨⟨h.1.1, h.1.2.1, fun h0 => by
    obtain ⟨b, off, e, hb, hc⟩ := h.1.2.2.1 h0
    exact ⟨b, off, e, Nat.lt_of_lt_of_le hb hg.size, fun i hi => cell_kept (hc i hi) hg hr⟩, h.1.2.2.2⟩, h.2⟩
theorem KeepsOthers.ofBelow {w w' : World} (h : Below w.heap.size w w') : KeepsOthers w w' :=
  ⟨h.size, fun k o hk _ => (h.block k (Array.getElem?_eq_some_iff.1 hk).1).trans hk⟩
/-- The slices of rows of rows, by number. -/
theorem Mat.slices {w : World} {a : Option Addr} {n c : Nat} {M : List (List GF)} (h : Mat w a n c M) : ∃ (A : Nat → Option Addr) (C : Nat → Nat), (∀ j, j < n → ∃ b off, a = some ⟨b, off, none⟩ ∧ b < w.heap.size ∧ w.cell? ⟨b, off + j, none⟩ = some (.slice (A j) (rw_ M j).length (C j))) ∧ ∀ j, j < n → Pa w (A j) (rw_ M j).length (C j) (rw_ M j) := by
  have key : ∀ j, ∃ (x : Option Addr × Nat), j < n → (∃ b off, a = some ⟨b, off, none⟩ ∧ b < w.heap.size ∧ w.cell? ⟨b, off + j, none⟩ = some (.slice x.1 (rw_ M j).length x.2)) ∧ Pa w x.1 (rw_ M j).length x.2 (rw_ M j) := fun j => by
    by_cases hj : j < n
    · obtain ⟨b, off, ai, ci, e, hb, hc, hp⟩ := h.row hj
      exact ⟨(ai, ci), fun _ => ⟨⟨b, off, e, hb, hc⟩, hp⟩⟩
    · exact ⟨(none, 0), fun h => absurd h hj⟩
  obtain ⟨f, hf⟩ := Classical.axiomOfChoice key
  exact ⟨fun j => (f j).1, fun j => (f j).2, fun j hj => (hf j hj).1, fun j hj => (hf j hj).2⟩

set_option maxHeartbeats 4000000 in
theorem value_any (b T n : Nat) (aR : Option Addr) (cR : Nat) (R : List (List GF)) (x : GF) (w : World) (hf : Fld w b) (hR : Mat w aR T cR R) (hw : ∀ k, k < T → (rw_ R k).length = n) (hT : 1 ≤ T) (hT2 : T ≤ 255) (hn : n ≤ 1000) :
    Calls Tryz.prog 51 #[.pointer (some ⟨b, 0, none⟩), .slice aR T cR, .int .u8 (toI x)] w fun e w' => ∃ a' c', e = .returned (.slice a' n c') ∧ Pa w' a' n c' (valR R T n x) ∧ (∀ bb off, a' = some ⟨bb, off, none⟩ → w.heap.size ≤ bb) ∧ Below w.heap.size w w' := by
  obtain ⟨A, C, hA, hP⟩ := hR.slices
  have hA2 : ∀ j, j < T → ∃ b off, aR = some ⟨b, off, none⟩ ∧ b < w.heap.size ∧ w.cell? ⟨b, off + j, none⟩ = some (.slice (A j) n (C j)) := fun j hj => by
    obtain ⟨b, off, e, hb, hc⟩ := hA j hj; rw [hw j hj] at hc; exact ⟨b, off, e, hb, hc⟩
  have hP2 : ∀ j, j < T → Pa w (A j) n (C j) (rw_ R j) := fun j hj => by
    have h := hP j hj; rw [hw j hj] at h; exact h
  have HA := Lib.hid hA2
  have HP := Lib.hid hP2
  have HW := Lib.hid hw
  have HF := Lib.hid hf
  have HB := Lib.hid hR.bd
  have HT := Lib.hid (And.intro hT hT2)
  have HN := Lib.hid hn
  clear hA hP hA2 hP2 hf hR hw hT hn
  refine (callsIn_wide (n := 3)).1 ?_
  refine callsIn_of_wp_marks Tryz.func51 rfl trivial ?_ rfl
  simp only [Tryz.ntmps51, List.size_toArray, List.length_cons, List.length_nil, Nat.reduceAdd, Nat.reduceSub, Array.replicate_succ, Array.replicate_zero, List.push_toArray, List.append_toArray, List.nil_append, List.cons_append]
  gi_wp2_with (refine ⟨trivial, ?_⟩; gi_at_call 80; refine (callsIn_wide.2 (backR_any _ _ _ _)).mono ?_; rintro e w' ⟨rfl, rfl⟩)
  obtain ⟨V1, hV1⟩ : ∃ V, V = w.alloc (.cells #[.pointer (some ⟨b, 0, none⟩)] 32) := ⟨_, rfl⟩
  obtain ⟨V2, hV2⟩ : ∃ V, V = V1.alloc (.cells #[.int .u8 (toI x)] 5) := ⟨_, rfl⟩
  obtain ⟨V3, hV3⟩ : ∃ V, V = V2.alloc (.cells #[] 5) := ⟨_, rfl⟩
  obtain ⟨V4, hV4⟩ : ∃ V, V = V3.alloc (.cells #[.slice (some ⟨w.heap.size + 1 + 1, 0, none⟩) 0 0] 22) := ⟨_, rfl⟩
  obtain ⟨V5, hV5⟩ : ∃ V, V = V4.alloc (.cells #[.slice aR T cR] 28) := ⟨_, rfl⟩
  have s1 : V1.heap.size = w.heap.size + 1 := by rw [hV1]; simp
  have s2 : V2.heap.size = w.heap.size + 1 + 1 := by rw [hV2]; simp [s1]
  have s3 : V3.heap.size = w.heap.size + 1 + 1 + 1 := by rw [hV3]; simp [s2]
  have s4 : V4.heap.size = w.heap.size + 1 + 1 + 1 + 1 := by rw [hV4]; simp [s3]
  have s5 : V5.heap.size = w.heap.size + 1 + 1 + 1 + 1 + 1 := by rw [hV5]; simp [s4]
  have B1 : Below w.heap.size w V1 := by rw [hV1]; exact (Below.refl _ _).alloc (Nat.le_refl _) _
  have B2 : Below w.heap.size w V2 := by rw [hV2]; exact B1.alloc (by omega) _
  have B3 : Below w.heap.size w V3 := by rw [hV3]; exact B2.alloc (by omega) _
  have B4 : Below w.heap.size w V4 := by rw [hV4]; exact B3.alloc (by omega) _
  have B5 : Below w.heap.size w V5 := by rw [hV5]; exact B4.alloc (by omega) _
  have c0 : Boxed V5 w.heap.size 32 (.pointer (some ⟨b, 0, none⟩)) := by rw [hV5, hV4, hV3, hV2, hV1]; exact ((((Boxed.new w _ _).alloc _).alloc _).alloc _).alloc _
  have c1 : Boxed V5 (w.heap.size + 1) 5 (.int .u8 (toI x)) := by rw [← s1, hV5, hV4, hV3, hV2]; exact (((Boxed.new V1 _ _).alloc _).alloc _).alloc _
  have c3 : Boxed V5 (w.heap.size + 1 + 1 + 1) 22 (.slice (some ⟨w.heap.size + 1 + 1, 0, none⟩) 0 0) := by rw [← s3, hV5, hV4]; exact (Boxed.new V3 _ _).alloc _
  have c4 : Boxed V5 (w.heap.size + 1 + 1 + 1 + 1) 28 (.slice aR T cR) := by rw [← s4, hV5]; exact Boxed.new V4 _ _
  rw [← hV1, ← hV2, ← hV3, ← hV4, ← hV5]
  have HB5 := Lib.hid B5
  have HS5 := Lib.hid s5
  have C0 := Lib.hid c0; have C1 := Lib.hid c1; have C3 := Lib.hid c3; have C4 := Lib.hid c4
  clear hV1 hV2 hV3 hV4 hV5 s1 s2 s3 s4 s5 B1 B2 B3 B4 B5 c0 c1 c3 c4
  obtain ⟨s, hs⟩ : ∃ s, s = w.heap.size := ⟨_, rfl⟩
  rw [← hs] at HB5 HS5 C0 C1 C3 C4 ⊢
  have Hs := Lib.hid hs
  clear hs
  have HRD : Hid (RdR (s + 1 + 1 + 1 + 1) T aR cR A (fun _ => n) C V5) := Lib.hid ⟨C4.out.cell, fun j hj => by
    obtain ⟨b', off, e, hb, hc⟩ := HA.out j hj
    exact ⟨b', off, e, (HB5.out.cell (p := ⟨b', off + j, none⟩) (by rw [Hs.out]; exact hb)).trans hc⟩⟩
  have hle : T ≤ 140737488355328 := by have := HT.out.2; omega
  refine wpIn_rangeFunc_ownF rfl (by omega) (gf := 102) (lb := #[.pointer (some ⟨s + 1 + 1 + 1 + 1, 0, none⟩)]) rfl trivial (enters_of Tryz.func102 (by kernel_rfl) rfl)
    (backR_stops Fence.wide (3 - 1) trivial rfl (by omega) (s + 1 + 1 + 1 + 1) T cR aR A (fun _ => n) C hle V5 (by rw [HS5.out]; omega) HRD.out (fun h0 bb off e => by
      obtain ⟨b', off', e', hb, hc⟩ := HA.out 0 h0
      rw [e] at e'; cases e'; rw [HS5.out, Hs.out]; omega)) (fun h k r => k (h r)) (fun W l o o' _ hl ho _ r => r.put o' hl ho) (Below.refl _ _) (fun _ => by rfl)
    (fun pre W => ((W.cell? ⟨s, 0, none⟩ = some (.pointer (some ⟨b, 0, none⟩)) ∧ W.cell? ⟨s + 1, 0, none⟩ = some (.int .u8 (toI x)) ∧ (∃ ao co', W.cell? ⟨s + 1 + 1 + 1, 0, none⟩ = some (.slice ao (hrR R x pre).length co') ∧ Pa W ao (hrR R x pre).length co' (hrR R x pre) ∧ ∀ bb off, ao = some ⟨bb, off, none⟩ → s ≤ bb) ∧ W.frozen? ⟨s + 1 + 1 + 1, 0, none⟩ = false) ∧ V5.heap.size ≤ W.heap.size) ∧ Below s w W)
    (fun _ _ _ => False)
    (OwnFrom.and (Own.from (fun t A B row hs hg hr => ⟨⟨cell_kept hs.1.1 hg hr, cell_kept hs.1.2.1 hg hr, (by obtain ⟨ao, co', h1, h2⟩ := hs.1.2.2.1; exact ⟨ao, co', cell_kept h1 hg hr, h2.1.noncell hg hr, h2.2⟩), (by obtain ⟨ao, co', h1, h2⟩ := hs.1.2.2.1; exact (frozen_kept h1 hg hr).trans hs.1.2.2.2)⟩, Nat.le_trans hs.2 hg.size⟩) _) (ownFrom_below (by rw [Hs.out]; exact Nat.le_refl _) (by rw [HS5.out]; omega)))
    (fun _ _ _ _ _ hs _ _ => hs)
    ⟨⟨⟨C0.out.cell, C1.out.cell, ⟨_, _, C3.out.cell, ⟨⟨rfl, allB_iL _, Bs.nil _ _ _, Nat.le_refl _, Nat.zero_le _⟩, fun e => by cases e⟩, fun bb off e => by cases e; omega⟩, C3.out.frozen⟩, Nat.le_refl _⟩, HB5.out⟩
    (fun y => { tmps := #[.pointer (some ⟨b, 0, none⟩), .slice aR T cR, .int .u8 (toI x), .pointer (some ⟨s, 0, none⟩), undef, .pointer (some ⟨s + 1, 0, none⟩), .slice none 0 0, .pointer (some ⟨s + 1 + 1 + 1, 0, none⟩), undef, .slice (A y.1) n (C y.1), .slice (some ⟨s + 1 + 1, 0, none⟩) 0 0, .slice aR T cR, .func (.func 102) #[] #[.pointer (some ⟨s + 1 + 1 + 1 + 1, 0, none⟩)], .int .i64 ((y.1 : Nat) : Int), .slice (A y.1) n (C y.1), undef, undef, undef, undef, undef, undef], defers := [] }) ?assign ?body ?done ?stop
  case assign =>
    intro l y W K hK
    dsimp only [itvR]
    gi_wp2
    exact hK
  case body =>
    rintro l pre y W ⟨⟨⟨h1, h2, ⟨ao, co', h3, h4, hnw⟩, h5⟩, h6⟩, hB⟩ _
    obtain ⟨j, hj⟩ := y
    have hfw := HF.out.below (show Below w.heap.size w W by rw [← Hs.out]; exact hB)
    have hpw := (HP.out j hj).on (show Below w.heap.size w W by rw [← Hs.out]; exact hB)
    obtain ⟨o, ho⟩ : ∃ o, o = hrR R x pre := ⟨_, rfl⟩
    have HO := Lib.hid (hrR_snoc R x pre (⟨j, hj⟩ : Fin T))
    rw [← ho] at h3 h4 HO
    have HSU := Lib.hid (fsum_any b (toI x) _ _ _ (iL (rw_ R j)) _ _ _ (iL o) W hfw (toI_bd x) hpw.1 h4.1 (by have := HN.out; omega))
    rw [sumL_G] at HSU
    have H1 := Lib.hid h1; have H2 := Lib.hid h2; have H3 := Lib.hid h3; have H5 := Lib.hid h5; have H6 := Lib.hid h6; have HBB := Lib.hid hB
    have HRL := Lib.hid (HW.out j hj)
    clear hfw hpw h4 hB h6 ho
    dsimp only
    gi_wp2_with (refine ⟨trivial, ?_⟩; gi_at_call 81; refine (CallsIn.inRound l (callsIn_wide.2 HSU.out)).mono ?_; rintro e W1 ⟨g, rfl, hown, hb1⟩; have HO1 := Lib.hid hown; have HB1 := Lib.hid hb1; have k3 := cell_of_heap h3 (hb1.block (s + 1 + 1 + 1) (by have := H6.out; rw [HS5.out] at this; omega)); have k5 : W1.frozen? ⟨s + 1 + 1 + 1, 0, none⟩ = false := (hb1.frozen (p := ⟨s + 1 + 1 + 1, 0, none⟩) (by have := H6.out; rw [HS5.out] at this; show s + 1 + 1 + 1 < _; omega)).trans h5; clear hown hb1)
    have hle5 : s + 1 + 1 + 1 + 1 + 1 ≤ W.heap.size := by have := H6.out; rw [HS5.out] at this; exact this
    have hW1 := HB1.out.size
    have hgl := HO1.out.lt g rfl
    have hbk : ∀ k, k < W.heap.size → k ≠ s + 1 + 1 + 1 → (W1.setCell ⟨s + 1 + 1 + 1, 0, none⟩ (.slice (some ⟨g, 0, none⟩) n n)).heap[k]? = W.heap[k]? := fun k h1 h2 => by
      rw [Below.heap_setCell _ _ _ _ h2]; exact HB1.out.block k h1
    have hp9 : Pa (W1.setCell ⟨s + 1 + 1 + 1, 0, none⟩ (.slice (some ⟨g, 0, none⟩) n n)) (some ⟨g, 0, none⟩) n n (sumG (rw_ R j) x o) :=
      (Pa.own2 HO1.out).but (gb_set _ _ _ _) (fun b off e => by cases e; omega)
    have hl9 : (hrR R x (pre ++ [(⟨j, hj⟩ : Fin T)])).length = n := by rw [HO.out, sumG_len]; exact HRL.out
    refine ⟨(KeepsOthers.ofBelow HB1.out).trans (KeepsOthers.setCell _ _ _), fun r => ⟨cell_of_heap r.1 (hbk _ (by show s + 1 + 1 + 1 + 1 < _; omega) (by show s + 1 + 1 + 1 + 1 ≠ _; omega)), fun i hi => ?_⟩, ⟨⟨cell_of_heap H1.out (hbk _ (by show s < _; omega) (by show s ≠ _; omega)), cell_of_heap H2.out (hbk _ (by show s + 1 < _; omega) (by show s + 1 ≠ _; omega)), ⟨some ⟨g, 0, none⟩, n, ?_, ?_, fun bb off e => by cases e; omega⟩, ?_⟩, ?_⟩, ?_⟩
    · obtain ⟨b', off, e, hc⟩ := r.2 i hi
      obtain ⟨b2, off2, e2, hb2, _⟩ := HA.out i hi
      rw [e] at e2; cases e2
      have := Hs.out
      exact ⟨b', off, e, cell_of_heap hc (hbk _ (by show b' < _; omega) (by show b' ≠ _; omega))⟩
    · rw [hl9]; exact World.cell?_setCell_same' _ _ _ (by rw [k3]; rfl)
    · rw [hl9, HO.out]; exact hp9
    · rw [World.frozen?_setCell]; exact k5
    · exact Nat.le_trans H6.out (Nat.le_trans hW1 (by simp))
    · exact (HBB.out.trans (HB1.out.mono (by omega))).setCell (p := ⟨s + 1 + 1 + 1, 0, none⟩) (by show s ≤ s + 1 + 1 + 1; omega) _
  case done =>
    rintro D ys W hD ⟨hys, hbk⟩ ⟨⟨⟨h1, h2, ⟨ao, co', h3, h4, hnw⟩, h5⟩, h6⟩, hB⟩ hK
    have he := hrR_all (x := x) HW.out hys hbk HT.out.1
    have hl : (hrR R x ys).length = n := hrR_len R x T n HW.out ys (by rw [hys]; exact HT.out.1)
    rw [hl] at h3 h4
    rw [he] at h4
    have H4 := Lib.hid h4
    have HBB := Lib.hid hB
    clear h4 hB he hl
    gi_wp2
    refine ⟨by simp, .inl ⟨_, _, rfl, run_takeDeferred hK, ?_⟩⟩
    have hkb := belowK_b (w := V5) (n₀ := s) (by rw [HS5.out]; omega) W D _ (.deferred none) hD hK rfl rfl
    refine ⟨_, results_tmp rfl _ _ _, ao, co', rfl, H4.out.noncell (grownBy_putObj' W D (.deferred none)) (fun r e => by cases e; exact ⟨_, hK, rfl⟩), by rw [← Hs.out]; exact hnw, by rw [← Hs.out]; exact HBB.out.trans hkb⟩
  case stop =>
    rintro D c pre W _ _ h _
    exact h.elim
end Go.Proofs.YtappfdbmhgifcaaGreatDoor
/- Shamir's Split, Share, Delta: the contracts proved. -/
namespace Go.Proofs.YtappfdbmhgifcaaGreatDoor
open Go.ChangeShapes Go.WideShapes Go.ChangeAt Go.RowKit Go.Shelf GF
set_option linter.unusedVariables false
set_option linter.unusedSimpArgs false
set_option maxRecDepth 100000

theorem i64_wfV {n : Int} (h0 : -1000 ≤ n) (h1 : n ≤ 1000) : (Lit.int .i64 n).wf = true := by
  simp only [Lit.wf, IntKind.min, IntKind.max, IntKind.signed, IntKind.bits, Bool.and_eq_true]
  simp
  omega
theorem own_madeR {w : World} {n : Nat} (hm : n ≤ maxLen) :
    (w.alloc (.cells (madeCells #[Value.slice none 0 0] n) 22)).ownsRow w.heap.size 22 1 (.slice (some ⟨w.heap.size, 0, none⟩) n n) n (List.replicate n (.slice none 0 0)) := by
  have := World.ownsRow_lit (base := w.heap.size) (e := 22) (size := 1) w (madeCells #[Value.slice none 0 0] n) n (Nat.le_refl _) hm (by simp [size_madeCells])
  rw [toList_madeCells_one] at this
  exact this
theorem set_next {vs : List Value} {n : Nat} (z v : Value) (h : vs.length < n) : (vs ++ List.replicate (n - vs.length) z).set vs.length v = (vs ++ [v]) ++ List.replicate (n - (vs.length + 1)) z := by
  rw [List.set_append_right _ _ (Nat.le_refl _), Nat.sub_self, show n - vs.length = (n - (vs.length + 1)) + 1 by omega, List.replicate_succ, List.set_cons_zero, List.append_assoc]
  rfl
theorem shM_take {t n k : Nat} {S M X : List GF} (h : k < X.length) : (shM t n S M X).take (k + 1) = (shM t n S M X).take k ++ [shR t n S M (co X k)] := by
  refine take_stepV ?_
  have e := shM_row (t := t) (n := n) (S := S) (M := M) h
  unfold rw_ at e
  rw [← e]
  simp [List.getD_eq_getElem?_getD, shM_len, h]
/-- Rows of one's own behind a block, as rows of new memory. -/
theorem MatB.ofOwn {w : World} {B g n : Nat} {vs : List Value} {M : List (List GF)} {ok : Nat → Prop} (h : w.ownsRow B 22 1 (.slice (some ⟨g, 0, none⟩) n n) n vs) (hv : RV w ok vs M) (hok : ∀ b, ok b → B ≤ b) : MatB w B (some ⟨g, 0, none⟩) n n M := by
  have hl : M.length = n := by rw [← hv.1, h.1, Nat.mul_one]
  have hg := h.lt g rfl
  refine ⟨hl, Nat.le_refl _, ?_, (fun e => by cases e), vs, hv.keep (Nat.le_refl _) (fun b _ hb => ⟨hok b hb, rfl⟩), fun h0 => ⟨g, 0, rfl, hg.2, hg.1, fun i hi => ?_⟩⟩
  · rcases h.2 with ⟨e, _⟩ | ⟨g', c, cur, e, _, _, h4, h5, _⟩
    · cases e
    · cases e; exact h5
  · rw [Nat.zero_add]; exact h.cellAt i (by omega)

theorem MatB.low {w : World} {B B' : Nat} {a : Option Addr} {n c : Nat} {M : List (List GF)} (h : MatB w B a n c M) (hB : B' ≤ B) : MatB w B' a n c M := by
  obtain ⟨k1, k2, k3, k4, vs, k5, k6⟩ := h
  refine ⟨k1, k2, k3, k4, vs, k5.keep (Nat.le_refl _) (fun b _ hb => ⟨Nat.le_trans hB hb, rfl⟩), fun h => ?_⟩
  obtain ⟨b, off, e, h1, h2, h3⟩ := k6 h
  exact ⟨b, off, e, h1, Nat.le_trans hB h2, h3⟩
end Go.Proofs.YtappfdbmhgifcaaGreatDoor
/- Plain: wrong values among right ones; Euclid's steps from the vanishing polynomial and the one through all values (Gao) find the polynomial, if there is one. No program is named here. -/
namespace Go.Proofs.YtappfdbmhgifcaaGreatDoor
open GF
set_option linter.unusedVariables false

/-! ## lengths of polynomials without noughts at their ends -/
def dg (l : List GF) : Nat := (tr l).length
theorem dg_le {l : List GF} {n : Nat} : dg l ≤ n ↔ ∀ k, n ≤ k → co l k = 0 := tr_len
theorem dg_ge {l : List GF} {k : Nat} (h : dg l ≤ k) : co l k = 0 := dg_le.1 (Nat.le_refl _) k h
theorem dg_pos {l : List GF} : 0 < dg l ↔ tr l ≠ [] := by unfold dg; exact List.length_pos_iff
theorem dg_congr {p q : List GF} (h : ∀ k, co p k = co q k) : dg p = dg q := by unfold dg; rw [tr_ext h]
theorem dg_top {l : List GF} (h : 0 < dg l) : co l (dg l - 1) ≠ 0 := tr_last l (dg_pos.1 h)
theorem dg_mul {p q : List GF} (hp : 0 < dg p) (hq : 0 < dg q) : dg (mulL p q) + 1 = dg p + dg q := by
  unfold dg at *
  rw [tr_mul_tr (dg_pos.1 hp) (dg_pos.1 hq), length_mulL _ _ hp hq]
  omega
theorem dg_mul_pos {p q : List GF} (hp : 0 < dg p) (hq : 0 < dg q) : 0 < dg (mulL p q) := by have := dg_mul hp hq; omega
theorem dg_add {p q : List GF} (h : dg p < dg q) : dg (addL p q) = dg q := by
  refine Nat.le_antisymm (dg_le.2 fun k hk => ?_) (Nat.le_of_not_lt fun h2 => ?_)
  · rw [co_addL, dg_ge (l := p) (by omega), dg_ge (l := q) (by omega), GF.add_zero]
  · have h3 := dg_top (l := q) (by omega)
    have h4 := dg_ge (l := addL p q) (k := dg q - 1) (by omega)
    rw [co_addL, dg_ge (l := p) (by omega), GF.zero_add] at h4
    exact h3 h4
/-- What division by a lesser one yields. -/
theorem div_dg {P Q A R : List GF} (h : ∀ k, co (mulL A Q) k + co R k = co P k) (hR : dg R < dg Q) (hQ : dg Q ≤ dg P) : 0 < dg A ∧ dg A + dg Q = dg P + 1 := by
  have h1 : dg (mulL A Q) = dg P := by
    have e : dg (mulL A Q) = dg (addL R P) := dg_congr fun k => by rw [co_addL, ← h k, GF.add_comm (co R k), GF.add_assoc, GF.add_self, GF.add_zero]
    rw [e]; exact dg_add (by omega)
  have hA : 0 < dg A := by
    rcases Nat.eq_zero_or_pos (dg A) with h0 | h0
    · have h2 : dg (mulL A Q) ≤ 0 := dg_le.2 fun k _ => by
        rw [co_mulL]
        exact sm_zero fun i _ => by rw [dg_ge (l := A) (by omega), GF.zero_mul]
      omega
    · exact h0
  exact ⟨hA, by have := dg_mul hA (show 0 < dg Q by omega); omega⟩
/-- .. and it is the only one. -/
theorem div_uniq {Q A R p : List GF} (h : ∀ k, co (mulL A Q) k + co R k = co (mulL p Q) k) (hR : dg R < dg Q) : (∀ k, co A k = co p k) ∧ ∀ k, co R k = 0 := by
  have h1 : ∀ k, co (mulL (addL A p) Q) k = co R k := fun k => by
    have e : co (mulL (addL A p) Q) k = co (mulL A Q) k + co (mulL p Q) k := by
      rw [co_mulL, co_mulL, co_mulL, ← sm_add]
      exact sm_congr fun i _ => by rw [co_addL, GF.add_mul]
    rw [e, ← h k, ← GF.add_assoc, GF.add_self, GF.zero_add]
  have h2 : dg (addL A p) = 0 := by
    rcases Nat.eq_zero_or_pos (dg (addL A p)) with h0 | h0
    · exact h0
    · have := dg_mul h0 (show 0 < dg Q by omega)
      rw [dg_congr h1] at this
      omega
  have h3 : ∀ k, co A k = co p k := fun k => by
    have := dg_ge (l := addL A p) (k := k) (by omega)
    rw [co_addL] at this
    exact GF.add_eq_zero.1 this
  refine ⟨h3, fun k => ?_⟩
  rw [← h1 k, co_mulL]
  exact sm_zero fun i _ => by rw [dg_ge (l := addL A p) (by omega), GF.zero_mul]

/-! ## which values are wrong -/
/-- The numbers of the places at which p has another value. -/
def wrL (X Y p : List GF) : List Nat := (List.range X.length).filter fun k => decide (ev p (co X k) ≠ co Y k)
theorem wrL_mem {X Y p : List GF} {k : Nat} : k ∈ wrL X Y p ↔ k < X.length ∧ ev p (co X k) ≠ co Y k := by
  unfold wrL; rw [List.mem_filter, List.mem_range, decide_eq_true_eq]
theorem wrL_nodup (X Y p : List GF) : (wrL X Y p).Nodup := List.nodup_range.sublist List.filter_sublist
theorem wrL_congr {X Y p q : List GF} (h : ∀ k, co p k = co q k) : wrL X Y p = wrL X Y q := by
  unfold wrL; exact List.filter_congr fun k _ => by rw [ev_congr h]
theorem two_filters {α : Type} (f g : α → Bool) : ∀ l : List α, l.length ≤ (l.filter f).length + (l.filter g).length + (l.filter fun x => !f x && !g x).length
  | [] => by simp
  | a :: l => by
    have ih := two_filters f g l
    cases hf : f a <;> cases hg : g a <;> simp [hf, hg] <;> omega
theorem nodup_places {X : List GF} (hX : Apart X) {l : List Nat} (hl : l.Nodup) (hm : ∀ k, k ∈ l → k < X.length) : (l.map (co X)).Nodup := by
  refine List.pairwise_map.2 (hl.imp_of_mem fun {a b} ha hb hne e => ?_)
  have h1 := hm a ha
  have h2 := hm b hb
  exact Apart.ne hX h1 h2 hne e
/-- Two polynomials that are right at most places are the same. -/
theorem right_uniq {X Y p q : List GF} {t : Nat} (hX : Apart X) (hp : ∀ k, t ≤ k → co p k = 0) (hq : ∀ k, t ≤ k → co q k = 0) (h : (wrL X Y p).length + (wrL X Y q).length + t ≤ X.length) : ∀ k, co p k = co q k := by
  obtain ⟨l, hl⟩ : ∃ l, l = (List.range X.length).filter fun x => !(decide (ev p (co X x) ≠ co Y x)) && !(decide (ev q (co X x) ≠ co Y x)) := ⟨_, rfl⟩
  have h1 := two_filters (fun k => decide (ev p (co X k) ≠ co Y k)) (fun k => decide (ev q (co X k) ≠ co Y k)) (List.range X.length)
  rw [List.length_range, ← hl] at h1
  have h2 : t ≤ l.length := by
    have e1 : (wrL X Y p).length = ((List.range X.length).filter fun k => decide (ev p (co X k) ≠ co Y k)).length := rfl
    have e2 : (wrL X Y q).length = ((List.range X.length).filter fun k => decide (ev q (co X k) ≠ co Y k)).length := rfl
    omega
  have hm : ∀ k, k ∈ l → k < X.length ∧ ev p (co X k) = co Y k ∧ ev q (co X k) = co Y k := fun k hk => by
    rw [hl, List.mem_filter, List.mem_range] at hk
    simpa using hk
  refine same_poly (n := t) (xs := l.map (co X)) hp hq (nodup_places hX (by rw [hl]; exact List.nodup_range.sublist List.filter_sublist) fun k hk => (hm k hk).1) (by rw [List.length_map]; exact h2) fun x hx => ?_
  obtain ⟨k, hk, rfl⟩ := List.mem_map.1 hx
  rw [(hm k hk).2.1, (hm k hk).2.2]
/-- A polynomial that the column is right with. -/
def RightP (X Y : List GF) (t e : Nat) (p : List GF) : Prop := tr p = p ∧ p.length ≤ t ∧ (wrL X Y p).length ≤ e ∧ 2 * (wrL X Y p).length + t ≤ X.length
theorem RightP.co {X Y p : List GF} {t e : Nat} (h : RightP X Y t e p) {k : Nat} (hk : t ≤ k) : co p k = 0 := co_ge (by have := h.2.1; omega)
theorem RightP.uniq {X Y p q : List GF} {t e e' : Nat} (hX : Apart X) (hp : RightP X Y t e p) (hq : RightP X Y t e' q) : p = q := by
  have := right_uniq (Y := Y) hX (fun k hk => hp.co hk) (fun k hk => hq.co hk) (by have := hp.2.2.2; have := hq.2.2.2; omega)
  rw [← hp.1, ← hq.1]; exact tr_ext this

/-! ## Gao -/
/-- What holds between two of Euclid's steps: r0, r1 the rests, u0, u1 what G was multiplied with. -/
structure GaoI (X Y : List GF) (t : Nat) (r0 u0 r1 u1 : List GF) : Prop where
  v0 : ∀ k, k < X.length → ev r0 (co X k) = ev u0 (co X k) * co Y k
  v1 : ∀ k, k < X.length → ev r1 (co X k) = ev u1 (co X k) * co Y k
  d : dg u1 + dg r0 = X.length + 2
  du : dg u0 < dg u1
  dr : dg r1 < dg r0
  big : X.length + t + 2 ≤ 2 * dg r0
theorem dg_van (X : List GF) (i : Nat) : dg (vanA X i) = i + 1 := by unfold dg; rw [tr_vanA, length_vanA]
theorem dg_one : dg [1] = 1 := by
  have h : tr [(1 : GF)] = [1] := tr_self (.inr (by show co [(1 : GF)] 0 ≠ 0; rw [co_cons_zero]; exact GF.one_ne))
  unfold dg; rw [h]; rfl
theorem ev_one (x : GF) : ev [1] x = 1 := by
  have h := ev_drop [(1 : GF)] 0 x
  rw [List.drop_zero, co_cons_zero, show ([(1 : GF)]).drop (0 + 1) = [] from rfl] at h
  rw [h, show ev [] x = 0 from rfl, GF.mul_zero, GF.add_zero]
theorem gao_step {X Y : List GF} {t : Nat} {r0 u0 r1 u1 A R : List GF} (h : GaoI X Y t r0 u0 r1 u1) (hb : X.length + t + 2 ≤ 2 * dg r1) (hA : ∀ k, co (mulL A r1) k + co R k = co r0 k) (hR : dg R < dg r1) : GaoI X Y t r1 u1 R (addL u0 (mulL A u1)) := by
  obtain ⟨a1, a2⟩ := div_dg hA hR (by have := h.dr; omega)
  have hu : 0 < dg u1 := by have := h.du; omega
  have hm := dg_mul a1 hu
  have hdr := h.dr
  have hdu := h.du
  have hd := h.d
  have hs : dg (addL u0 (mulL A u1)) = dg (mulL A u1) := dg_add (by omega)
  refine ⟨h.v1, fun k hk => ?_, by rw [hs]; omega, by rw [hs]; omega, hR, hb⟩
  have e : ev R (co X k) = ev r0 (co X k) + ev A (co X k) * ev r1 (co X k) := by
    rw [← ev_mulL, ← ev_addL]
    refine ev_congr (fun j => ?_) _
    rw [co_addL, ← hA j, GF.add_comm (co (mulL A r1) j), GF.add_assoc, GF.add_self, GF.add_zero]
  rw [e, h.v0 k hk, h.v1 k hk, ev_addL, ev_mulL, GF.add_mul, GF.mul_assoc]
/-- The bound of what G was multiplied with, at the end. -/
theorem gao_du {X Y : List GF} {t : Nat} {r0 u0 r1 u1 : List GF} (h : GaoI X Y t r0 u0 r1 u1) : 0 < dg u1 ∧ 2 * dg u1 + t ≤ X.length + 2 := by
  have := h.du; have := h.d; have := h.big; omega
/-- If the column is right with p, the last rest is p times what G was multiplied with. -/
theorem gao_found {X Y : List GF} {t : Nat} {r0 u0 r1 u1 p : List GF} (hX : Apart X) (h : GaoI X Y t r0 u0 r1 u1) (hs : 2 * dg r1 < X.length + t + 2) (hp : ∀ k, t ≤ k → co p k = 0) (hw : 2 * (wrL X Y p).length + t ≤ X.length) (ht : 1 ≤ t) : ∀ k, co r1 k = co (mulL p u1) k := by
  obtain ⟨hu0, hu⟩ := gao_du h
  obtain ⟨W, hW⟩ : ∃ W, W = (wrL X Y p).map (co X) := ⟨_, rfl⟩
  have hWl : W.length = (wrL X Y p).length := by rw [hW, List.length_map]
  obtain ⟨ε, hε⟩ : ∃ ε, ε = W.length := ⟨_, rfl⟩
  rw [← hWl, ← hε] at hw
  obtain ⟨F, hF⟩ : ∃ F, F = addL r1 (mulL p u1) := ⟨_, rfl⟩
  have hFd : dg F + ε ≤ X.length := by
    have h1 : dg F ≤ max (dg r1) (t + dg u1 - 1) := dg_le.2 fun k hk => by
      rw [hF, co_addL, dg_ge (l := r1) (Nat.le_trans (Nat.le_max_left _ _) hk), co_mulL_ge (n := t) (m := dg u1) hp (fun i hi => dg_ge hi) (by have := Nat.le_trans (Nat.le_max_right (dg r1) (t + dg u1 - 1)) hk; omega), GF.add_zero]
    rcases Nat.le_total (dg r1) (t + dg u1 - 1) with h2 | h2
    · rw [Nat.max_eq_right h2] at h1; omega
    · rw [Nat.max_eq_left h2] at h1; omega
  have hD0 : ∀ k, co (mulL F (vanA W ε)) k = 0 := by
    refine roots X.length _ X (fun k hk => co_mulL_ge (n := dg F) (m := ε + 1) (fun i hi => dg_ge hi) (fun i hi => dg_ge (by rw [dg_van]; exact hi)) (by omega)) (Apart.nodup hX) (Nat.le_refl _) fun x hx => ?_
    obtain ⟨k, hk, rfl⟩ := mem_co.1 hx
    rw [ev_mulL]
    by_cases hr : ev p (co X k) = co Y k
    · have : ev F (co X k) = 0 := by rw [hF, ev_addL, ev_mulL, h.v1 k hk, hr, GF.mul_comm (co Y k), GF.add_self]
      rw [this, GF.zero_mul]
    · have hm : co X k ∈ W := by rw [hW]; exact List.mem_map.2 ⟨k, wrL_mem.2 ⟨hk, hr⟩, rfl⟩
      obtain ⟨j, hj, e⟩ := mem_co.1 hm
      rw [(ev_vanA (xs := W) (x := co X k) ε (by omega)).2 ⟨j, by omega, e⟩, GF.mul_zero]
  have hF0 : dg F = 0 := by
    rcases Nat.eq_zero_or_pos (dg F) with h0 | h0
    · exact h0
    · have h1 := dg_mul_pos h0 (show 0 < dg (vanA W ε) by rw [dg_van]; omega)
      have h2 : dg (mulL F (vanA W ε)) ≤ 0 := dg_le.2 fun k _ => hD0 k
      omega
  intro k
  have := dg_ge (l := F) (k := k) (by omega)
  rw [hF, co_addL] at this
  exact GF.add_eq_zero.1 this
/-- What the last rest is a multiple of is right. -/
theorem gao_right {X Y : List GF} {t : Nat} {r0 u0 r1 u1 p : List GF} (hX : Apart X) (h : GaoI X Y t r0 u0 r1 u1) (he : ∀ k, co r1 k = co (mulL p u1) k) : 2 * (wrL X Y p).length + t ≤ X.length := by
  obtain ⟨hu0, hu⟩ := gao_du h
  have key : (wrL X Y p).length < dg u1 := by
    rcases Nat.lt_or_ge (wrL X Y p).length (dg u1) with h1 | h1
    · exact h1
    · have hz := roots (dg u1) u1 ((wrL X Y p).map (co X)) (fun k hk => dg_ge hk) (nodup_places hX (wrL_nodup _ _ _) fun k hk => (wrL_mem.1 hk).1) (by rw [List.length_map]; exact h1) fun x hx => by
        obtain ⟨k, hk, rfl⟩ := List.mem_map.1 hx
        obtain ⟨h2, h3⟩ := wrL_mem.1 hk
        have h4 := h.v1 k h2
        rw [ev_congr he, ev_mulL, GF.mul_comm] at h4
        have h5 : ev u1 (co X k) * (ev p (co X k) + co Y k) = 0 := by rw [GF.mul_add, h4, GF.add_self]
        exact (GF.mul_eq_zero h5).resolve_right fun h6 => h3 (GF.add_eq_zero.1 h6)
      have : dg u1 ≤ 0 := dg_le.2 fun k _ => hz k
      omega
  omega
/-- Both ways: division of the last rest leaves nothing over and yields a polynomial that is short enough, just if the column is right with it. -/
theorem gao_iff {X Y : List GF} {t e : Nat} {r0 u0 r1 u1 A R : List GF} (hX : Apart X) (h : GaoI X Y t r0 u0 r1 u1) (hs : 2 * dg r1 < X.length + t + 2) (ht : 1 ≤ t) (hA : ∀ k, co (mulL A u1) k + co R k = co r1 k) (hR : dg R < dg u1) (hAt : tr A = A) :
    (tr R = [] ∧ A.length ≤ t ∧ (wrL X Y A).length ≤ e → RightP X Y t e A) ∧ ∀ p, RightP X Y t e p → p = A ∧ tr R = [] ∧ A.length ≤ t ∧ (wrL X Y A).length ≤ e := by
  refine ⟨fun ⟨h1, h2, h3⟩ => ⟨hAt, h2, h3, gao_right hX h fun k => ?_⟩, fun p hp => ?_⟩
  · rw [← hA k, tr_nil.1 h1 k, GF.add_zero]
  · have h1 := gao_found hX h hs (fun k hk => hp.co hk) hp.2.2.2 ht
    obtain ⟨h2, h3⟩ := div_uniq (fun k => (hA k).trans (h1 k)) hR
    have e : p = A := by rw [← hp.1, ← hAt]; exact (tr_ext h2).symm
    subst e
    exact ⟨rfl, tr_nil.2 h3, hp.2.1, hp.2.2.1⟩
end Go.Proofs.YtappfdbmhgifcaaGreatDoor
/- What package mend's functions answer: the contracts, as statements (each is to be proved of the program). -/
namespace Go.Proofs.YtappfdbmhgifcaaGreatDoor
open Go.ChangeShapes Go.WideShapes Go.ChangeAt Go.RowKit Go.Shelf GF
set_option linter.unusedVariables false

/-- Which error a column has ahead of being looked at. -/
noncomputable def colErr (X : List GF) (K : Nat) (t e : Int) : Int := if X.length ≠ K then 1 else if t < 1 ∨ 255 < t ∨ e < 0 then 2 else if (X.length : Int) < t then 5 else plErr X
theorem colErr_zero {X : List GF} {K : Nat} {t e : Int} : colErr X K t e = 0 ↔ X.length = K ∧ 1 ≤ t ∧ t ≤ 255 ∧ 0 ≤ e ∧ t ≤ X.length ∧ plErr X = 0 := by
  unfold colErr
  by_cases h1 : X.length ≠ K
  · rw [if_pos h1]; exact ⟨fun h => absurd h (by decide), fun h => absurd h.1 h1⟩
  · rw [if_neg h1]
    by_cases h2 : t < 1 ∨ 255 < t ∨ e < 0
    · rw [if_pos h2]; exact ⟨fun h => absurd h (by decide), fun h => by omega⟩
    · rw [if_neg h2]
      by_cases h3 : (X.length : Int) < t
      · rw [if_pos h3]; exact ⟨fun h => absurd h (by decide), fun h => by omega⟩
      · rw [if_neg h3]; exact ⟨fun h => ⟨by omega, by omega, by omega, by omega, by omega, h⟩, fun h => h.2.2.2.2.2⟩
end Go.Proofs.YtappfdbmhgifcaaGreatDoor
/- Layer 10's laws' lives, under Column's contracts. -/
namespace Go.Proofs.YtappfdbmhgifcaaGreatDoor
open Go.ChangeShapes Go.WideShapes Go.ChangeAt Go.RowKit Go.Shelf GF
set_option linter.unusedVariables false
set_option linter.unusedSimpArgs false
set_option maxRecDepth 100000

theorem litP (w : World) (c : Array Value) (P : List GF) (n : Nat) (h : c.toList = (iL P).map (Value.int .u8)) (hc : c.size = n) (hm : n ≤ maxLen) : Pa (w.alloc (.cells c 5)) (some ⟨w.heap.size, 0, none⟩) n n P := by
  refine Pa.own2 (base := w.heap.size) (e := 5) ?_
  rw [← h]
  exact World.ownsRow_lit (base := w.heap.size) (e := 5) (size := 1) w c n (Nat.le_refl _) hm (by rw [hc, Nat.mul_one])
end Go.Proofs.YtappfdbmhgifcaaGreatDoor
/- Plain: all ways to pick so many of the first n numbers; rows of whole numbers in memory. -/
namespace Go.Proofs.YtappfdbmhgifcaaGreatDoor
open Go.ChangeShapes Go.WideShapes Go.ChangeAt Go.RowKit Go.Shelf GF
set_option linter.unusedVariables false
set_option linter.unusedSimpArgs false
set_option maxRecDepth 100000

/-! ## rows of whole numbers -/
def zl (l : List Nat) : List Int := l.map fun (x : Nat) => (x : Int)
theorem zl_len (l : List Nat) : (zl l).length = l.length := by simp [zl]
theorem zl_get (l : List Nat) (i : Nat) : (zl l).getD i 0 = ((l.getD i 0 : Nat) : Int) := by
  unfold zl
  by_cases h : i < l.length
  · simp [List.getD_eq_getElem?_getD, h]
  · simp [List.getD_eq_getElem?_getD, List.getElem?_eq_none (Nat.le_of_not_lt h)]
theorem zl_app (l m : List Nat) : zl (l ++ m) = zl l ++ zl m := by simp [zl]
/-- A block of whole numbers. -/
def TyI (w : World) (b : Nat) : Prop := ∃ cur fz, w.heap[b]? = some (.cells cur 3 fz)
/-- These values are slices that read as these rows. -/
def rwI (M : List (List Nat)) (i : Nat) : List Nat := M.getD i []
def IVr (w : World) (B : Nat) (vs : List Value) (M : List (List Nat)) : Prop :=
  vs.length = M.length ∧ ∀ i, i < M.length → ∃ a c, vs[i]? = some (.slice a (rwI M i).length c) ∧ (rwI M i).length ≤ c ∧ c ≤ maxLen ∧ (a = none → c = 0) ∧
    (0 < (rwI M i).length → ∃ b off, a = some ⟨b, off, none⟩ ∧ b < w.heap.size ∧ B ≤ b ∧ TyI w b ∧ ∀ j, j < (rwI M i).length → w.cell? ⟨b, off + j, none⟩ = some (.int .i64 ((zl (rwI M i)).getD j 0)))
theorem IVr.keep {w w' : World} {B : Nat} {vs : List Value} {M : List (List Nat)} (h : IVr w B vs M) (hs : w.heap.size ≤ w'.heap.size) (hk : ∀ b, b < w.heap.size → B ≤ b → TyI w b → w'.heap[b]? = w.heap[b]?) : IVr w' B vs M := by
  refine ⟨h.1, fun i hi => ?_⟩
  obtain ⟨a, c, h1, h2, h3, h4, h5⟩ := h.2 i hi
  refine ⟨a, c, h1, h2, h3, h4, fun h0 => ?_⟩
  obtain ⟨b, off, e, hb, hB, ht, hc⟩ := h5 h0
  have k := hk b hb hB ht
  obtain ⟨cur, fz, e2⟩ := ht
  exact ⟨b, off, e, by omega, hB, ⟨cur, fz, k.trans e2⟩, fun j hj => by rw [World.cell?_of_block (w := w) (a := ⟨b, off + j, none⟩) k]; exact hc j hj⟩
theorem IVr.on {w w' : World} {B : Nat} {vs : List Value} {M : List (List Nat)} (h : IVr w B vs M) (hb : Below w.heap.size w w') : IVr w' B vs M := h.keep hb.size fun b hlt _ _ => hb.block b hlt
theorem IVr.nil (w : World) (B : Nat) : IVr w B [] [] := ⟨rfl, fun i hi => absurd hi (by simp)⟩
theorem IVr.grown {w w' : World} {B : Nat} {vs : List Value} {M : List (List Nat)} (h : IVr w B vs M) {base s n : Nat} {e : TypeId} {v : Value} {ys : List Value} (h2 : w.ownsRow base e s v n ys) (hne : 3 ≠ e) (hg : w.grownBy w' v.ownBlock) : IVr w' B vs M :=
  h.keep hg.size fun b hlt _ ⟨cur, fz, hh⟩ => hg.block b hlt (fun e' => by
    rcases h2.2 with ⟨rfl, _⟩ | ⟨g2, c2, cur2, rfl, _, hh2, _⟩
    · cases e'
    · have e3 : b = g2 := by
        have : some b = some g2 := e'
        injection this
      subst e3
      rw [hh] at hh2
      injection hh2 with h3
      injection h3 with _ h4 _
      exact hne h4)
theorem IVr.more {w : World} {B B' : Nat} {vs : List Value} {M : List (List Nat)} (h : IVr w B vs M) {v : Value} {n : Nat} {l : List Nat} (ho : w.ownsRow B' 3 1 v n ((zl l).map (Value.int .i64))) (hB : B ≤ B') : IVr w B (vs ++ [v]) (M ++ [l]) := by
  have hl : l.length = n := by have := ho.1; rw [List.length_map, zl_len, Nat.mul_one] at this; exact this
  refine ⟨by simp [h.1], fun i hi => ?_⟩
  by_cases e : i < M.length
  · have e1 : rwI (M ++ [l]) i = rwI M i := by unfold rwI; simp only [List.getD_eq_getElem?_getD]; rw [List.getElem?_append_left e]
    rw [e1, List.getElem?_append_left (by rw [h.1]; exact e)]
    exact h.2 i e
  · have e0 : i = M.length := by simp at hi; omega
    have e1 : rwI (M ++ [l]) i = l := by unfold rwI; simp only [List.getD_eq_getElem?_getD]; rw [e0, List.getElem?_append_right (Nat.le_refl _), Nat.sub_self]; rfl
    rw [e1, e0, ← h.1, List.getElem?_append_right (Nat.le_refl _), Nat.sub_self]
    rcases ho.2 with ⟨rfl, h0⟩ | ⟨g, cap, cur, rfl, hg, hh, h4, h5, _⟩
    · exact ⟨none, 0, by rw [hl, h0]; rfl, by omega, Nat.zero_le _, fun _ => rfl, fun h1 => absurd h1 (by omega)⟩
    · refine ⟨_, cap, by rw [hl]; rfl, by omega, h5, (fun e => by cases e), fun h1 => ⟨g, 0, rfl, (Array.getElem?_eq_some_iff.1 hh).1, Nat.le_trans hB hg, ⟨cur, _, hh⟩, fun j hj => ?_⟩⟩
      rw [Nat.zero_add, ho.cellAt j (by omega), List.getElem?_map, List.getElem?_eq_getElem (by rw [zl_len]; exact hj)]
      simp [List.getD_eq_getElem?_getD, List.getElem?_eq_getElem (show j < (zl l).length by rw [zl_len]; exact hj)]
/-- Rows of whole numbers behind a block. -/
def IMat (w : World) (B : Nat) (a : Option Addr) (n c : Nat) (M : List (List Nat)) : Prop :=
  M.length = n ∧ n ≤ c ∧ c ≤ maxLen ∧ ∃ vs, IVr w B vs M ∧ (0 < n → ∃ b off, a = some ⟨b, off, none⟩ ∧ b < w.heap.size ∧ B ≤ b ∧ ∀ i, i < n → w.cell? ⟨b, off + i, none⟩ = vs[i]?)
/-- Blocks from lo up to hi stay. -/
def Kp (lo hi : Nat) (V U : World) : Prop := V.heap.size ≤ U.heap.size ∧ ∀ b, lo ≤ b → b < hi → U.heap[b]? = V.heap[b]?
theorem Kp.refl (lo hi : Nat) (V : World) : Kp lo hi V V := ⟨Nat.le_refl _, fun _ _ _ => rfl⟩
theorem Kp.below {lo hi : Nat} {V U W : World} (h : Kp lo hi V U) (hb : Below U.heap.size U W) (hh : hi ≤ V.heap.size) : Kp lo hi V W := ⟨Nat.le_trans h.1 hb.size, fun b h1 h2 => (hb.block b (by have := h.1; omega)).trans (h.2 b h1 h2)⟩
theorem Kp.grown {lo hi : Nat} {V U W : World} {r : Option Nat} (h : Kp lo hi V U) (hg : U.grownBy W r) (hr : ∀ k, r = some k → k < lo ∨ hi ≤ k) (hh : hi ≤ V.heap.size) : Kp lo hi V W :=
  ⟨Nat.le_trans h.1 hg.size, fun b h1 h2 => (hg.block b (by have := h.1; omega) (fun e => by have := hr b e.symm; omega)).trans (h.2 b h1 h2)⟩
theorem IMat.keepR {w w' : World} {B : Nat} {a : Option Addr} {n c : Nat} {M : List (List Nat)} (h : IMat w B a n c M) (hk : Kp B w.heap.size w w') : IMat w' B a n c M := by
  obtain ⟨h1, h2, h3, vs, h5, h6⟩ := h
  refine ⟨h1, h2, h3, vs, h5.keep hk.1 (fun b hlt hB _ => hk.2 b hB hlt), fun h0 => ?_⟩
  obtain ⟨b, off, e, hlt, hB, hc⟩ := h6 h0
  exact ⟨b, off, e, by have := hk.1; omega, hB, fun i hi => by rw [World.cell?_of_block (w := w) (a := ⟨b, off + i, none⟩) (hk.2 b hB hlt)]; exact hc i hi⟩
theorem IMat.on {w w' : World} {B : Nat} {a : Option Addr} {n c : Nat} {M : List (List Nat)} (h : IMat w B a n c M) (hb : Below w.heap.size w w') : IMat w' B a n c M := h.keepR ((Kp.refl _ _ _).below hb (Nat.le_refl _))
theorem IMat.bd {w : World} {B : Nat} {a : Option Addr} {n c : Nat} {M : List (List Nat)} (h : IMat w B a n c M) : n ≤ c ∧ c ≤ 9223372036854775807 := ⟨h.2.1, by have := h.2.2.1; unfold maxLen at this; omega⟩
theorem IMat.own {w : World} {B n c : Nat} {e : TypeId} {a : Option Addr} {vs : List Value} {M : List (List Nat)} (h : w.ownsRow B e 1 (.slice a n c) n vs) (hv : IVr w B vs M) : IMat w B a n c M := by
  have hl : M.length = n := by rw [← hv.1, h.1, Nat.mul_one]
  rcases h.2 with ⟨e, h0⟩ | ⟨g, cap, cur, e, hg, hh, h4, h5, _⟩
  · cases e
    exact ⟨hl, Nat.le_refl _, Nat.zero_le _, vs, hv, fun h => absurd h (by omega)⟩
  · cases e
    exact ⟨hl, h4, h5, vs, hv, fun h0 => ⟨g, 0, rfl, (Array.getElem?_eq_some_iff.1 hh).1, hg, fun i hi => by rw [Nat.zero_add]; exact h.cellAt i (by omega)⟩⟩
theorem IMat.row {w : World} {B : Nat} {a : Option Addr} {n c : Nat} {M : List (List Nat)} (h : IMat w B a n c M) {i : Nat} (hi : i < n) (hb : ∀ x, x ∈ rwI M i → x ≤ 1000) : ∃ b off ai ci, a = some ⟨b, off, none⟩ ∧ b < w.heap.size ∧ w.cell? ⟨b, off + i, none⟩ = some (.slice ai (rwI M i).length ci) ∧ IA w ai (rwI M i).length ci (zl (rwI M i)) := by
  obtain ⟨h1, h2, h3, vs, h5, h6⟩ := h
  obtain ⟨b, off, e, hlt, _, hc⟩ := h6 (by omega)
  obtain ⟨ai, ci, k1, k2, k3, k4, k5⟩ := h5.2 i (by omega)
  refine ⟨b, off, ai, ci, e, hlt, by rw [hc i hi, k1], zl_len _, k2, k3, k4, fun j => ?_, fun h0 => ?_⟩
  · rw [zl_get]
    have : (rwI M i).getD j 0 ≤ 1000 := by
      by_cases hj : j < (rwI M i).length
      · have e : (rwI M i).getD j 0 = (rwI M i)[j] := by simp [List.getD_eq_getElem?_getD, hj]
        rw [e]; exact hb _ (List.getElem_mem hj)
      · rw [List.getD_eq_getElem?_getD, List.getElem?_eq_none (Nat.le_of_not_lt hj)]; exact Nat.zero_le _
    omega
  · obtain ⟨b, off, e, hb, _, _, hc⟩ := k5 h0
    exact ⟨b, off, e, hb, hc⟩
theorem infoI1 : (Tryz.prog.info? 3).map (fun i => (i.zero, i.size, i.bytes)) = some (some (.int .i64 0), 1, 8) := by kernel_rfl
/-- append(row, src...) of whole numbers, nil sources too. -/
theorem wpList_append_ia {P : Program} (w : World) {ops : Array Oper} {rest : List Oper} {o : Oper} {a : Act} {Q : Exit → Act → World → Prop} (hgd : o.guard = none) (s x : Operand) (t : TypeId)
    (ho : o.op = .call { callee := .builtin .append, args := #[s, x], argTypes := #[t, t] })
    (base : Nat) (e : TypeId) (i : TypeInfo) (ht : P.underlying t = some (.slice e)) (hi : P.info? e = some i) (hz : i.zero = some (.int .i64 0)) (hsize : i.size = 1) (hby : i.bytes = 8)
    (v : Value) (n : Nat) (l : List Int) (hs : a.eval s = v) (hown : w.ownsRow base e 1 v n (l.map (Value.int .i64)))
    (ad : Option Addr) (m c : Nat) (k : List Int) (hx : a.eval x = .slice ad m c) (hB : IA w ad m c k) (hn : n + m ≤ 1000) (hbase : base ≤ w.heap.size)
    (h : ∀ v' w', w'.ownsRow base e 1 v' (n + m) ((l ++ k).map (Value.int .i64)) → w.grownBy w' v.ownBlock → wpList P ops Q rest (a.put o.dst v') w') :
    wpList P ops Q (o :: rest) a w := by
  have hk : k.length = m := hB.1
  rcases ad with _ | ad
  · obtain rfl : c = 0 := hB.2.2.2.1 rfl
    obtain rfl : m = 0 := by have := hB.2.1; omega
    have hm : k = [] := List.eq_nil_of_length_eq_zero hk
    subst hm
    refine wpList_append_own_none hgd s x t ho base e i 1 ht hi v n (l.map (Value.int .i64)) hs hown hx ?_
    exact h v w (by simpa using hown) (World.grownBy.refl _ _)
  · refine wpList_append_own w hgd s x t ho base e i (.int .i64 0) 1 8 ht hi hz hsize hby rfl (by decide) v n (l.map (Value.int .i64)) hs hown ad m c (k.map (Value.int .i64)) hx (by simp [hk]) ?_ (fun u hu => by obtain ⟨z, _, rfl⟩ := List.mem_map.1 hu; rfl) (by unfold maxLen; omega) (by omega) hbase ?_
    · intro j u hj
      have hjk : j < k.length := by rcases Nat.lt_or_ge j k.length with h1 | h1; exact h1; rw [List.getElem?_map, List.getElem?_eq_none h1] at hj; cases hj
      obtain ⟨b, off, e2, _, hc⟩ := hB.at_ (i := j) (by omega)
      cases e2
      rw [Addr.add_lit, hc]
      rw [List.getElem?_map, List.getElem?_eq_getElem hjk] at hj
      simp [List.getD_eq_getElem?_getD, hjk] at hj ⊢
      exact hj
    · intro v' w' h1 h2 _
      rw [← List.map_append] at h1
      exact h v' w' h1 h2
end Go.Proofs.YtappfdbmhgifcaaGreatDoor
/- Shapes: contracts of stripe's Right, RowSize, Need, checked, outside, places, numbers. -/
namespace Go.Proofs.YtappfdbmhgifcaaGreatDoor
open Go.ChangeShapes Go.WideShapes Go.ChangeAt Go.RowKit Go.Shelf GF
set_option linter.unusedVariables false
set_option linter.unusedSimpArgs false
set_option maxRecDepth 100000

/-- May it be? -/
def rightB (m t n c : Int) : Bool := decide (0 ≤ m) && (decide (m < 2) && (decide (1 ≤ t) && (decide (t ≤ n) && (decide (n ≤ 255) && (decide (0 ≤ c) && decide (c ≤ 127))))))
/-- It may. -/
def Sh (m : Int) (t n c : Nat) : Prop := (m = 0 ∨ m = 1) ∧ 1 ≤ t ∧ t ≤ n ∧ n ≤ 255 ∧ c ≤ 127
theorem Sh.right {m : Int} {t n c : Nat} (h : Sh m t n c) : rightB m t n c = true := by
  unfold Sh at h
  unfold rightB
  simp only [Bool.and_eq_true, decide_eq_true_eq]
  omega
/-- How long a row is; how many random bytes a block takes. -/
def rowV (m : Int) (t : Nat) : Nat := if m = 0 then 440 else ceil 473 t
def needV (m : Int) (t : Nat) : Nat := if m = 0 then (t - 1) * 440 else 32
theorem bxS (w : World) (cs : Array Value) (e : TypeId) : Below w.heap.size w (w.alloc (.cells cs e)) := (Below.refl _ _).alloc (Nat.le_refl _) _
theorem right_any (m t n c : Int) (w : World) : Calls Tryz.prog 22 #[.agg #[.int .i64 m, .int .i64 t, .int .i64 n, .int .i64 c]] w fun e w' => e = .returned (.bool (rightB m t n c)) ∧ Below w.heap.size w w' := by
  have HA := Lib.hid (bxS w #[.int .i64 m, .int .i64 t, .int .i64 n, .int .i64 c] 25)
  by_cases h1 : 0 ≤ m
  rotate_left
  · have HR := Lib.hid (show rightB m t n c = false by unfold rightB; simp [h1])
    go_enter Tryz.func22, Tryz.ntmps22
    go_wp2
    go_ret
    exact ⟨by rw [HR.out] <;> rfl, HA.out⟩
  by_cases h2 : m < 2
  rotate_left
  · have HR := Lib.hid (show rightB m t n c = false by unfold rightB; simp [h1, h2])
    go_enter Tryz.func22, Tryz.ntmps22
    go_wp2
    go_ret
    exact ⟨by rw [HR.out] <;> rfl, HA.out⟩
  by_cases h3 : 1 ≤ t
  rotate_left
  · have HR := Lib.hid (show rightB m t n c = false by unfold rightB; simp [h1, h2, h3])
    go_enter Tryz.func22, Tryz.ntmps22
    go_wp2
    go_ret
    exact ⟨by rw [HR.out] <;> rfl, HA.out⟩
  by_cases h4 : t ≤ n
  rotate_left
  · have HR := Lib.hid (show rightB m t n c = false by unfold rightB; simp [h1, h2, h3, h4])
    go_enter Tryz.func22, Tryz.ntmps22
    go_wp2
    go_ret
    exact ⟨by rw [HR.out] <;> rfl, HA.out⟩
  by_cases h5 : n ≤ 255
  rotate_left
  · have HR := Lib.hid (show rightB m t n c = false by unfold rightB; simp [h1, h2, h3, h4, h5])
    go_enter Tryz.func22, Tryz.ntmps22
    go_wp2
    go_ret
    exact ⟨by rw [HR.out] <;> rfl, HA.out⟩
  by_cases h6 : 0 ≤ c
  rotate_left
  · have HR := Lib.hid (show rightB m t n c = false by unfold rightB; simp [h1, h2, h3, h4, h5, h6])
    go_enter Tryz.func22, Tryz.ntmps22
    go_wp2
    go_ret
    exact ⟨by rw [HR.out] <;> rfl, HA.out⟩
  by_cases h7 : c ≤ 127
  rotate_left
  · have HR := Lib.hid (show rightB m t n c = false by unfold rightB; simp [h1, h2, h3, h4, h5, h6, h7])
    go_enter Tryz.func22, Tryz.ntmps22
    go_wp2
    go_ret
    exact ⟨by rw [HR.out] <;> rfl, HA.out⟩
  have HR := Lib.hid (show rightB m t n c = true by unfold rightB; simp [h1, h2, h3, h4, h5, h6, h7])
  go_enter Tryz.func22, Tryz.ntmps22
  go_wp2
  go_ret
  exact ⟨by rw [HR.out] <;> rfl, HA.out⟩
theorem rowsz_0 (t n c : Nat) (w : World) (h : Sh 0 t n c) : Calls Tryz.prog 15 #[.agg #[.int .i64 0, .int .i64 t, .int .i64 n, .int .i64 c]] w fun e w' => e = .returned (.int .i64 (rowV 0 t : Nat)) ∧ Below w.heap.size w w' := by
  have HA := Lib.hid (bxS w #[.int .i64 0, .int .i64 t, .int .i64 n, .int .i64 c] 25)
  have HR := Lib.hid (right_any 0 t n c (w.alloc (.cells #[.int .i64 0, .int .i64 t, .int .i64 n, .int .i64 c] 25)))
  rw [h.right] at HR
  have HT := Lib.hid h.2
  clear h
  go_enter Tryz.func15, Tryz.ntmps15
  go_wp2_with (go_at_call 22; go_loud (refine HR.out.mono ?_; rintro e w1 ⟨rfl, hb⟩; have HC1 := Lib.hid (hb.block w.heap.size (by simp)); have HB1 := Lib.hid (bt HA.out hb); have hx0 : w1.cell? ⟨w.heap.size, 0, none⟩ = some (.int .i64 0) := (by rw [World.cell?_of_block (w := w.alloc (.cells #[.int .i64 0, .int .i64 t, .int .i64 n, .int .i64 c] 25)) (a := ⟨w.heap.size, 0, none⟩) HC1.out]; simp); clear hb))
  go_ret
  exact ⟨rfl, HB1.out⟩
theorem rowsz_1 (t n c : Nat) (w : World) (h : Sh 1 t n c) : Calls Tryz.prog 15 #[.agg #[.int .i64 1, .int .i64 t, .int .i64 n, .int .i64 c]] w fun e w' => e = .returned (.int .i64 (rowV 1 t : Nat)) ∧ Below w.heap.size w w' := by
  have HA := Lib.hid (bxS w #[.int .i64 1, .int .i64 t, .int .i64 n, .int .i64 c] 25)
  have HR := Lib.hid (right_any 1 t n c (w.alloc (.cells #[.int .i64 1, .int .i64 t, .int .i64 n, .int .i64 c] 25)))
  rw [h.right] at HR
  have HT := Lib.hid h.2
  clear h
  go_enter Tryz.func15, Tryz.ntmps15
  go_wp2_with (first
    | (go_at_call 22; go_loud (refine HR.out.mono ?_; rintro e w1 ⟨rfl, hb⟩; have HC1 := Lib.hid (hb.block w.heap.size (by simp)); have HB1 := Lib.hid (bt HA.out hb); have hx0 : w1.cell? ⟨w.heap.size, 0, none⟩ = some (.int .i64 1) := (by rw [World.cell?_of_block (w := w.alloc (.cells #[.int .i64 1, .int .i64 t, .int .i64 n, .int .i64 c] 25)) (a := ⟨w.heap.size, 0, none⟩) HC1.out]; simp); have hx1 : w1.cell? ⟨w.heap.size, 1, none⟩ = some (.int .i64 t) := (by rw [World.cell?_of_block (w := w.alloc (.cells #[.int .i64 1, .int .i64 t, .int .i64 n, .int .i64 c] 25)) (a := ⟨w.heap.size, 1, none⟩) HC1.out]; simp); have HC := Lib.hid (partC 473 t w1 HT.out.1 (by have := HT.out; omega) (by omega)); clear hb))
    | (go_at_call 35; go_loud (refine HC.out.mono ?_; rintro e w2 ⟨rfl, q, rfl⟩; have HB2 := Lib.hid (below_drewN HB1.out q))))
  go_ret
  exact ⟨rfl, HB2.out⟩
theorem rowsz_any (m : Int) (t n c : Nat) (w : World) (h : Sh m t n c) : Calls Tryz.prog 15 #[.agg #[.int .i64 m, .int .i64 t, .int .i64 n, .int .i64 c]] w fun e w' => e = .returned (.int .i64 (rowV m t : Nat)) ∧ Below w.heap.size w w' := by
  rcases h.1 with rfl | rfl
  · exact rowsz_0 t n c w h
  · exact rowsz_1 t n c w h
theorem need_0 (t n c : Nat) (w : World) (h : Sh 0 t n c) : Calls Tryz.prog 23 #[.agg #[.int .i64 0, .int .i64 t, .int .i64 n, .int .i64 c]] w fun e w' => e = .returned (.int .i64 (needV 0 t : Nat)) ∧ Below w.heap.size w w' := by
  have HA := Lib.hid (bxS w #[.int .i64 0, .int .i64 t, .int .i64 n, .int .i64 c] 25)
  have HR := Lib.hid (right_any 0 t n c (w.alloc (.cells #[.int .i64 0, .int .i64 t, .int .i64 n, .int .i64 c] 25)))
  rw [h.right] at HR
  have HT := Lib.hid h.2
  clear h
  go_enter Tryz.func23, Tryz.ntmps23
  go_wp2_with (first
    | (go_at_call 22; go_loud (refine HR.out.mono ?_; rintro e w1 ⟨rfl, hb⟩; have HC1 := Lib.hid (hb.block w.heap.size (by simp)); have HB1 := Lib.hid (bt HA.out hb); have hx0 : w1.cell? ⟨w.heap.size, 0, none⟩ = some (.int .i64 0) := (by rw [World.cell?_of_block (w := w.alloc (.cells #[.int .i64 0, .int .i64 t, .int .i64 n, .int .i64 c] 25)) (a := ⟨w.heap.size, 0, none⟩) HC1.out]; simp); have hx1 : w1.cell? ⟨w.heap.size, 1, none⟩ = some (.int .i64 t) := (by rw [World.cell?_of_block (w := w.alloc (.cells #[.int .i64 0, .int .i64 t, .int .i64 n, .int .i64 c] 25)) (a := ⟨w.heap.size, 1, none⟩) HC1.out]; simp); have HC := Lib.hid (maskC t 440 w1 HT.out.1 (by have := HT.out; omega) (by omega)); clear hb))
    | (go_at_call 48; go_loud (refine HC.out.mono ?_; rintro e w2 ⟨rfl, hb⟩; have HB2 := Lib.hid (bt HB1.out hb); clear hb)))
  go_ret
  exact ⟨rfl, HB2.out⟩
theorem need_1 (t n c : Nat) (w : World) (h : Sh 1 t n c) : Calls Tryz.prog 23 #[.agg #[.int .i64 1, .int .i64 t, .int .i64 n, .int .i64 c]] w fun e w' => e = .returned (.int .i64 (needV 1 t : Nat)) ∧ Below w.heap.size w w' := by
  have HA := Lib.hid (bxS w #[.int .i64 1, .int .i64 t, .int .i64 n, .int .i64 c] 25)
  have HR := Lib.hid (right_any 1 t n c (w.alloc (.cells #[.int .i64 1, .int .i64 t, .int .i64 n, .int .i64 c] 25)))
  rw [h.right] at HR
  have HT := Lib.hid h.2
  clear h
  go_enter Tryz.func23, Tryz.ntmps23
  go_wp2_with (go_at_call 22; go_loud (refine HR.out.mono ?_; rintro e w1 ⟨rfl, hb⟩; have HC1 := Lib.hid (hb.block w.heap.size (by simp)); have HB1 := Lib.hid (bt HA.out hb); have hx0 : w1.cell? ⟨w.heap.size, 0, none⟩ = some (.int .i64 1) := (by rw [World.cell?_of_block (w := w.alloc (.cells #[.int .i64 1, .int .i64 t, .int .i64 n, .int .i64 c] 25)) (a := ⟨w.heap.size, 0, none⟩) HC1.out]; simp); clear hb))
  go_ret
  exact ⟨rfl, HB1.out⟩
theorem need_any (m : Int) (t n c : Nat) (w : World) (h : Sh m t n c) : Calls Tryz.prog 23 #[.agg #[.int .i64 m, .int .i64 t, .int .i64 n, .int .i64 c]] w fun e w' => e = .returned (.int .i64 (needV m t : Nat)) ∧ Below w.heap.size w w' := by
  rcases h.1 with rfl | rfl
  · exact need_0 t n c w h
  · exact need_1 t n c w h
end Go.Proofs.YtappfdbmhgifcaaGreatDoor
