/- Contract of mend's value: what polynomials tell at a place, by whole rows. -/
import Derived.Test.YtfmjfdbbjggcpaaZf
import Derived.Test.YtfmjfdbbjggcpaaVf
namespace Go.Proofs.Ytfmjfdbbjggcpaa
open Go.ChangeShapes Go.WideShapes Go.ChangeAt Go.RowKit Go.Shelf GF
set_option linter.unusedVariables false
set_option linter.unusedSimpArgs false
set_option maxRecDepth 100000
attribute [local go_sem] Oper.semAt_some

set_option maxHeartbeats 4000000 in
theorem mvalue_any (b T n : Nat) (aR : Option Addr) (cR : Nat) (R : List (List GF)) (x : GF) (w : World) (hf : Fld w b) (hR : Mat w aR T cR R) (hw : ∀ k, k < T → (rw_ R k).length = n) (hT : 1 ≤ T) (hT2 : T ≤ 255) (hn : n ≤ 1000) :
    Calls Try.prog 35 #[.pointer (some ⟨b, 0, none⟩), .slice aR T cR, .int .u8 (toI x)] w fun e w' => ∃ a' c', e = .returned (.slice a' n c') ∧ Pa w' a' n c' (valR R T n x) ∧ (∀ bb off, a' = some ⟨bb, off, none⟩ → w.heap.size ≤ bb) ∧ Below w.heap.size w w' := by
  obtain ⟨A, C, hA, hP⟩ := hR.slices
  have hA2 : ∀ j, j < T → ∃ b off, aR = some ⟨b, off, none⟩ ∧ b < w.heap.size ∧ w.cell? ⟨b, off + j, none⟩ = some (.slice (A j) n (C j)) := fun j hj => by
    obtain ⟨b, off, e, hb, hc⟩ := hA j hj; rw [hw j hj] at hc; exact ⟨b, off, e, hb, hc⟩
  have hP2 : ∀ j, j < T → Pa w (A j) n (C j) (rw_ R j) := fun j hj => by
    have h := hP j hj; rw [hw j hj] at h; exact h
  have HA := Lib.hid hA2
  have HP := Lib.hid hP2
  have HW := Lib.hid hw
  have HF := Lib.hid hf
  have HB := Lib.hid hR.bd
  have HT := Lib.hid (And.intro hT hT2)
  have HN := Lib.hid hn
  clear hA hP hA2 hP2 hf hR hw hT hn
  refine (callsIn_wide (n := 3)).1 ?_
  refine callsIn_of_wp_marks Try.func35 rfl trivial ?_ rfl
  simp only [Try.ntmps35, List.size_toArray, List.length_cons, List.length_nil, Nat.reduceAdd, Nat.reduceSub, Array.replicate_succ, Array.replicate_zero, List.push_toArray, List.append_toArray, List.nil_append, List.cons_append]
  gi_wp2_with (refine ⟨trivial, ?_⟩; gi_at_call 52; refine (callsIn_wide.2 (backR_any _ _ _ _)).mono ?_; rintro e w' ⟨rfl, rfl⟩)
  obtain ⟨V1, hV1⟩ : ∃ V, V = w.alloc (.cells #[.pointer (some ⟨b, 0, none⟩)] 27) := ⟨_, rfl⟩
  obtain ⟨V2, hV2⟩ : ∃ V, V = V1.alloc (.cells #[.int .u8 (toI x)] 5) := ⟨_, rfl⟩
  obtain ⟨V3, hV3⟩ : ∃ V, V = V2.alloc (.cells #[] 5) := ⟨_, rfl⟩
  obtain ⟨V4, hV4⟩ : ∃ V, V = V3.alloc (.cells #[.slice (some ⟨w.heap.size + 1 + 1, 0, none⟩) 0 0] 22) := ⟨_, rfl⟩
  obtain ⟨V5, hV5⟩ : ∃ V, V = V4.alloc (.cells #[.slice aR T cR] 40) := ⟨_, rfl⟩
  have s1 : V1.heap.size = w.heap.size + 1 := by rw [hV1]; simp
  have s2 : V2.heap.size = w.heap.size + 1 + 1 := by rw [hV2]; simp [s1]
  have s3 : V3.heap.size = w.heap.size + 1 + 1 + 1 := by rw [hV3]; simp [s2]
  have s4 : V4.heap.size = w.heap.size + 1 + 1 + 1 + 1 := by rw [hV4]; simp [s3]
  have s5 : V5.heap.size = w.heap.size + 1 + 1 + 1 + 1 + 1 := by rw [hV5]; simp [s4]
  have B1 : Below w.heap.size w V1 := by rw [hV1]; exact (Below.refl _ _).alloc (Nat.le_refl _) _
  have B2 : Below w.heap.size w V2 := by rw [hV2]; exact B1.alloc (by omega) _
  have B3 : Below w.heap.size w V3 := by rw [hV3]; exact B2.alloc (by omega) _
  have B4 : Below w.heap.size w V4 := by rw [hV4]; exact B3.alloc (by omega) _
  have B5 : Below w.heap.size w V5 := by rw [hV5]; exact B4.alloc (by omega) _
  have c0 : Boxed V5 w.heap.size 27 (.pointer (some ⟨b, 0, none⟩)) := by rw [hV5, hV4, hV3, hV2, hV1]; exact ((((Boxed.new w _ _).alloc _).alloc _).alloc _).alloc _
  have c1 : Boxed V5 (w.heap.size + 1) 5 (.int .u8 (toI x)) := by rw [← s1, hV5, hV4, hV3, hV2]; exact (((Boxed.new V1 _ _).alloc _).alloc _).alloc _
  have c3 : Boxed V5 (w.heap.size + 1 + 1 + 1) 22 (.slice (some ⟨w.heap.size + 1 + 1, 0, none⟩) 0 0) := by rw [← s3, hV5, hV4]; exact (Boxed.new V3 _ _).alloc _
  have c4 : Boxed V5 (w.heap.size + 1 + 1 + 1 + 1) 40 (.slice aR T cR) := by rw [← s4, hV5]; exact Boxed.new V4 _ _
  rw [← hV1, ← hV2, ← hV3, ← hV4, ← hV5]
  have HB5 := Lib.hid B5
  have HS5 := Lib.hid s5
  have C0 := Lib.hid c0; have C1 := Lib.hid c1; have C3 := Lib.hid c3; have C4 := Lib.hid c4
  clear hV1 hV2 hV3 hV4 hV5 s1 s2 s3 s4 s5 B1 B2 B3 B4 B5 c0 c1 c3 c4
  obtain ⟨s, hs⟩ : ∃ s, s = w.heap.size := ⟨_, rfl⟩
  rw [← hs] at HB5 HS5 C0 C1 C3 C4 ⊢
  have Hs := Lib.hid hs
  clear hs
  have HRD : Hid (RdR (s + 1 + 1 + 1 + 1) T aR cR A (fun _ => n) C V5) := Lib.hid ⟨C4.out.cell, fun j hj => by
    obtain ⟨b', off, e, hb, hc⟩ := HA.out j hj
    exact ⟨b', off, e, (HB5.out.cell (p := ⟨b', off + j, none⟩) (by rw [Hs.out]; exact hb)).trans hc⟩⟩
  have hle : T ≤ 140737488355328 := by have := HT.out.2; omega
  refine wpIn_rangeFunc_ownF rfl (by omega) (gf := 62) (lb := #[.pointer (some ⟨s + 1 + 1 + 1 + 1, 0, none⟩)]) rfl trivial (enters_of Try.func62 (by kernel_rfl) rfl)
    (backR_stops Fence.wide (3 - 1) trivial rfl (by omega) (s + 1 + 1 + 1 + 1) T cR aR A (fun _ => n) C hle V5 (by rw [HS5.out]; omega) HRD.out (fun h0 bb off e => by
      obtain ⟨b', off', e', hb, hc⟩ := HA.out 0 h0
      rw [e] at e'; cases e'; rw [HS5.out, Hs.out]; omega)) (fun h k r => k (h r)) (fun W l o o' _ hl ho _ r => r.put o' hl ho) (Below.refl _ _) (fun _ => by rfl)
    (fun pre W => ((W.cell? ⟨s, 0, none⟩ = some (.pointer (some ⟨b, 0, none⟩)) ∧ W.cell? ⟨s + 1, 0, none⟩ = some (.int .u8 (toI x)) ∧ (∃ ao co', W.cell? ⟨s + 1 + 1 + 1, 0, none⟩ = some (.slice ao (hrR R x pre).length co') ∧ Pa W ao (hrR R x pre).length co' (hrR R x pre) ∧ ∀ bb off, ao = some ⟨bb, off, none⟩ → s ≤ bb) ∧ W.frozen? ⟨s + 1 + 1 + 1, 0, none⟩ = false) ∧ V5.heap.size ≤ W.heap.size) ∧ Below s w W)
    (fun _ _ _ => False)
    (OwnFrom.and (Own.from (fun t A B row hs hg hr => ⟨⟨cell_kept hs.1.1 hg hr, cell_kept hs.1.2.1 hg hr, (by obtain ⟨ao, co', h1, h2⟩ := hs.1.2.2.1; exact ⟨ao, co', cell_kept h1 hg hr, h2.1.noncell hg hr, h2.2⟩), (by obtain ⟨ao, co', h1, h2⟩ := hs.1.2.2.1; exact (frozen_kept h1 hg hr).trans hs.1.2.2.2)⟩, Nat.le_trans hs.2 hg.size⟩) _) (ownFrom_below (by rw [Hs.out]; exact Nat.le_refl _) (by rw [HS5.out]; omega)))
    (fun _ _ _ _ _ hs _ _ => hs)
    ⟨⟨⟨C0.out.cell, C1.out.cell, ⟨_, _, C3.out.cell, ⟨⟨rfl, allB_iL _, Bs.nil _ _ _, Nat.le_refl _, Nat.zero_le _⟩, fun e => by cases e⟩, fun bb off e => by cases e; omega⟩, C3.out.frozen⟩, Nat.le_refl _⟩, HB5.out⟩
    (fun y => { tmps := #[.pointer (some ⟨b, 0, none⟩), .slice aR T cR, .int .u8 (toI x), .pointer (some ⟨s, 0, none⟩), undef, .pointer (some ⟨s + 1, 0, none⟩), .slice none 0 0, .pointer (some ⟨s + 1 + 1 + 1, 0, none⟩), undef, .slice (A y.1) n (C y.1), .slice (some ⟨s + 1 + 1, 0, none⟩) 0 0, .slice aR T cR, .func (.func 62) #[] #[.pointer (some ⟨s + 1 + 1 + 1 + 1, 0, none⟩)], .int .i64 ((y.1 : Nat) : Int), .slice (A y.1) n (C y.1), undef, undef, undef, undef, undef, undef], defers := [] }) ?assign ?body ?done ?stop
  case assign =>
    intro l y W K hK
    dsimp only [itvR]
    gi_wp2
    exact hK
  case body =>
    rintro l pre y W ⟨⟨⟨h1, h2, ⟨ao, co', h3, h4, hnw⟩, h5⟩, h6⟩, hB⟩ _
    obtain ⟨j, hj⟩ := y
    have hfw := HF.out.below (show Below w.heap.size w W by rw [← Hs.out]; exact hB)
    have hpw := (HP.out j hj).on (show Below w.heap.size w W by rw [← Hs.out]; exact hB)
    obtain ⟨o, ho⟩ : ∃ o, o = hrR R x pre := ⟨_, rfl⟩
    have HO := Lib.hid (hrR_snoc R x pre (⟨j, hj⟩ : Fin T))
    rw [← ho] at h3 h4 HO
    have HSU := Lib.hid (fsum_any b (toI x) _ _ _ (iL (rw_ R j)) _ _ _ (iL o) W hfw (toI_bd x) hpw.1 h4.1 (by have := HN.out; omega))
    rw [sumL_G] at HSU
    have H1 := Lib.hid h1; have H2 := Lib.hid h2; have H3 := Lib.hid h3; have H5 := Lib.hid h5; have H6 := Lib.hid h6; have HBB := Lib.hid hB
    have HRL := Lib.hid (HW.out j hj)
    clear hfw hpw h4 hB h6 ho
    dsimp only
    gi_wp2_with (refine ⟨trivial, ?_⟩; gi_at_call 53; refine (CallsIn.inRound l (callsIn_wide.2 HSU.out)).mono ?_; rintro e W1 ⟨g, rfl, hown, hb1⟩; have HO1 := Lib.hid hown; have HB1 := Lib.hid hb1; have k3 := cell_of_heap h3 (hb1.block (s + 1 + 1 + 1) (by have := H6.out; rw [HS5.out] at this; omega)); have k5 : W1.frozen? ⟨s + 1 + 1 + 1, 0, none⟩ = false := (hb1.frozen (p := ⟨s + 1 + 1 + 1, 0, none⟩) (by have := H6.out; rw [HS5.out] at this; show s + 1 + 1 + 1 < _; omega)).trans h5; clear hown hb1)
    have hle5 : s + 1 + 1 + 1 + 1 + 1 ≤ W.heap.size := by have := H6.out; rw [HS5.out] at this; exact this
    have hW1 := HB1.out.size
    have hgl := HO1.out.lt g rfl
    have hbk : ∀ k, k < W.heap.size → k ≠ s + 1 + 1 + 1 → (W1.setCell ⟨s + 1 + 1 + 1, 0, none⟩ (.slice (some ⟨g, 0, none⟩) n n)).heap[k]? = W.heap[k]? := fun k h1 h2 => by
      rw [Below.heap_setCell _ _ _ _ h2]; exact HB1.out.block k h1
    have hp9 : Pa (W1.setCell ⟨s + 1 + 1 + 1, 0, none⟩ (.slice (some ⟨g, 0, none⟩) n n)) (some ⟨g, 0, none⟩) n n (sumG (rw_ R j) x o) :=
      (Pa.own2 HO1.out).but (gb_set _ _ _ _) (fun b off e => by cases e; omega)
    have hl9 : (hrR R x (pre ++ [(⟨j, hj⟩ : Fin T)])).length = n := by rw [HO.out, sumG_len]; exact HRL.out
    refine ⟨(KeepsOthers.ofBelow HB1.out).trans (KeepsOthers.setCell _ _ _), fun r => ⟨cell_of_heap r.1 (hbk _ (by show s + 1 + 1 + 1 + 1 < _; omega) (by show s + 1 + 1 + 1 + 1 ≠ _; omega)), fun i hi => ?_⟩, ⟨⟨cell_of_heap H1.out (hbk _ (by show s < _; omega) (by show s ≠ _; omega)), cell_of_heap H2.out (hbk _ (by show s + 1 < _; omega) (by show s + 1 ≠ _; omega)), ⟨some ⟨g, 0, none⟩, n, ?_, ?_, fun bb off e => by cases e; omega⟩, ?_⟩, ?_⟩, ?_⟩
    · obtain ⟨b', off, e, hc⟩ := r.2 i hi
      obtain ⟨b2, off2, e2, hb2, _⟩ := HA.out i hi
      rw [e] at e2; cases e2
      have := Hs.out
      exact ⟨b', off, e, cell_of_heap hc (hbk _ (by show b' < _; omega) (by show b' ≠ _; omega))⟩
    · rw [hl9]; exact World.cell?_setCell_same' _ _ _ (by rw [k3]; rfl)
    · rw [hl9, HO.out]; exact hp9
    · rw [World.frozen?_setCell]; exact k5
    · exact Nat.le_trans H6.out (Nat.le_trans hW1 (by simp))
    · exact (HBB.out.trans (HB1.out.mono (by omega))).setCell (p := ⟨s + 1 + 1 + 1, 0, none⟩) (by show s ≤ s + 1 + 1 + 1; omega) _
  case done =>
    rintro D ys W hD ⟨hys, hbk⟩ ⟨⟨⟨h1, h2, ⟨ao, co', h3, h4, hnw⟩, h5⟩, h6⟩, hB⟩ hK
    have he := hrR_all (x := x) HW.out hys hbk HT.out.1
    have hl : (hrR R x ys).length = n := hrR_len R x T n HW.out ys (by rw [hys]; exact HT.out.1)
    rw [hl] at h3 h4
    rw [he] at h4
    have H4 := Lib.hid h4
    have HBB := Lib.hid hB
    clear h4 hB he hl
    gi_wp2
    refine ⟨by simp, .inl ⟨_, _, rfl, run_takeDeferred hK, ?_⟩⟩
    have hkb := belowK_b (w := V5) (n₀ := s) (by rw [HS5.out]; omega) W D _ (.deferred none) hD hK rfl rfl
    refine ⟨_, results_tmp rfl _ _ _, ao, co', rfl, H4.out.noncell (grownBy_putObj' W D (.deferred none)) (fun r e => by cases e; exact ⟨_, hK, rfl⟩), by rw [← Hs.out]; exact hnw, by rw [← Hs.out]; exact HBB.out.trans hkb⟩
  case stop =>
    rintro D c pre W _ _ h _
    exact h.elim
end Go.Proofs.Ytfmjfdbbjggcpaa
