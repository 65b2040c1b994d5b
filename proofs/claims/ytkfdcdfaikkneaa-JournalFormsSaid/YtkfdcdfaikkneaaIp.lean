/- Package sector: a share's bytes. -/
import Derived.Test.YtkfdcdfaikkneaaIn
import Derived.Test.YtkfdcdfaikkneaaIi
import Derived.BigRegion
namespace Go.Proofs.Ytkfdcdfaikkneaa
open Go.ChangeShapes Go.WideShapes Go.ChangeAt Go.RowKit Go.Shelf
set_option linter.unusedVariables false
set_option linter.unusedSimpArgs false
set_option maxRecDepth 100000
attribute [local go_sem] Oper.semAt_some

set_option maxHeartbeats 2000000 in
theorem fits_any (m p st g : Int) (a : Option Addr) (n k : Nat) (w : World) (hn : n ≤ 9223372036854775807) :
    Calls Try.prog 35 #[.agg #[.int .u8 m, .int .u8 p, .int .u32 st, .int .u64 g, .slice a n k]] w fun e w' => e = .returned (.bool (decide (m < 2) && (decide (1 ≤ p) && decide (n ≤ 480)))) ∧ Below w.heap.size w w' := by
  have HB := Lib.hid (show Below w.heap.size w (w.alloc (.cells #[.int .u8 m, .int .u8 p, .int .u32 st, .int .u64 g, .slice a n k] 49)) from (Below.refl _ _).alloc (Nat.le_refl _) _)
  obtain ⟨c0, c1, -, -, c4⟩ := cell5 (heap_alloc_new w (.cells #[.int .u8 m, .int .u8 p, .int .u32 st, .int .u64 g, .slice a n k] 49))
  obtain ⟨r, hr⟩ : ∃ r, r = (decide (m < 2) && (decide (1 ≤ p) && decide (n ≤ 480))) := ⟨_, rfl⟩
  rw [← hr]
  by_cases h1 : m < 2
  · by_cases h2 : 1 ≤ p
    · by_cases h3 : n ≤ 480
      · have q : (n : Int) ≤ 480 := by omega
        have HD := Lib.hid (show r = true by rw [hr]; simp [h1, h2, h3])
        clear h3 hr
        go_enter Try.func35, Try.ntmps35
        go_wp2
        go_ret
        exact ⟨by rw [HD.out]; rfl, HB.out⟩
      · have q : ¬ (n : Int) ≤ 480 := by omega
        have HD := Lib.hid (show r = false by rw [hr]; simp [h1, h2, h3])
        clear h3 hr
        go_enter Try.func35, Try.ntmps35
        go_wp2
        go_ret
        exact ⟨by rw [HD.out]; rfl, HB.out⟩
    · have HD := Lib.hid (show r = false by rw [hr]; simp [h1, h2])
      clear hr
      go_enter Try.func35, Try.ntmps35
      go_wp2
      go_ret
      exact ⟨by rw [HD.out]; rfl, HB.out⟩
  · have HD := Lib.hid (show r = false by rw [hr]; simp [h1])
    clear hr
    go_enter Try.func35, Try.ntmps35
    go_wp2
    go_ret
    exact ⟨by rw [HD.out]; rfl, HB.out⟩
theorem own_full {w : World} {base g n : Nat} {l : List Int} (h : w.ownsRow base 5 1 (.slice (some ⟨g, 0, none⟩) n n) n (l.map (Value.int .u8))) : w.heap[g]? = some (.cells (l.map (Value.int .u8)).toArray 5 (0, 0)) := by
  obtain ⟨hl, h2⟩ := h
  rcases h2 with ⟨h0, -⟩ | ⟨g', cap, cur, hv, -, hg, -, -, hs, ht⟩
  · cases h0
  · cases hv
    have e : cur.toList = l.map (Value.int .u8) := by
      rw [← ht, List.take_of_length_le (by rw [Array.length_toList]; omega)]
    rw [hg, ← e, Array.toArray_toList]
theorem share_splice {H row : List Int} (hH : H.length = 18) (hr : row.length ≤ 480) : splice ((madeL H).map (Value.int .u8)) 32 (row.map (Value.int .u8)) = (szL (H ++ List.replicate 14 0 ++ row)).map (Value.int .u8) := by
  have e : madeL H = (H ++ List.replicate 14 0) ++ List.replicate 480 0 := by
    unfold madeL
    rw [List.take_of_length_le (by omega), hH, List.append_assoc, List.replicate_append_replicate]
  have hl : (H ++ List.replicate 14 (0 : Int)).length = 32 := by rw [List.length_append, hH, List.length_replicate]
  unfold splice szL
  rw [e, ← List.map_take, List.length_map, ← List.map_drop, ← List.drop_drop, List.take_left' hl, List.drop_left' hl, List.drop_replicate, ← List.map_append, ← List.map_append, List.length_append, hl, List.append_assoc _ row]
  rw [show 480 - row.length = 512 - (32 + row.length) by omega]
theorem conv2 (A : World) (x y : Int) : (convert 47 47 (.slice (some ⟨A.heap.size, 0, none⟩) 2 2)).run Try.prog (A.alloc (.cells #[.int .u8 x, .int .u8 y] 5)) = .ok (.slice (some ⟨A.heap.size, 0, none⟩) 2 2) (A.alloc (.cells #[.int .u8 x, .int .u8 y] 5 (2, 3))) :=
  Lib.run_convert_bytes_const (P := Try.prog) A 47 5 #[.int .u8 x, .int .u8 y] 2 2 Try.underlying47 Try.underlying5
/-- Behind a mark and two bytes more: what lies where. -/
theorem mark_two (A : World) (x y u v : Int) : ∃ D, D = (A.alloc (.cells #[.int .u8 x, .int .u8 y] 5 (2, 3))).alloc (.cells #[.int .u8 u, .int .u8 v] 5) ∧ Below A.heap.size A D ∧ D.heap.size = A.heap.size + 2 ∧
    Bs D (A.heap.size + 1) (some ⟨A.heap.size, 0, none⟩) [x, y] ∧ Bs D (A.heap.size + 1 + 1) (some ⟨A.heap.size + 1, 0, none⟩) [u, v] := by
  refine ⟨_, rfl, ((Below.refl _ _).alloc (Nat.le_refl _) _).alloc (by simp) _, by simp, ?_, ?_⟩
  · exact (bs_two A x y (2, 3)).below ((Below.refl _ _).alloc (by simp) _)
  · have := bs_two (A.alloc (.cells #[.int .u8 x, .int .u8 y] 5 (2, 3))) u v (0, 0)
    rw [size_alloc1] at this
    exact this
set_option maxHeartbeats 8000000 in
theorem shareBytes_any : ShareBytesC := by
  intro s a n k w hw hx hn
  obtain ⟨⟨m0, m1⟩, ⟨p0, p1⟩, ⟨st0, st1⟩, ⟨g0, g1⟩, hB⟩ := hw
  obtain ⟨S, hS⟩ : ∃ S, S = s.S := ⟨_, rfl⟩
  obtain ⟨E, hE⟩ : ∃ E, E = s.E := ⟨_, rfl⟩
  rw [← hS, ← hE]
  obtain ⟨m, p, st, g, row⟩ := s
  unfold shG
  dsimp only at m0 m1 p0 p1 st0 st1 g0 g1 hB hx ⊢
  have hl := hx.1.1
  have hcap := hx.1.2.2.2
  unfold maxLen at hcap
  obtain ⟨A, hA⟩ : ∃ A, A = w.alloc (.cells #[.int .u8 m, .int .u8 p, .int .u32 st, .int .u64 g, .slice a n k] 49) := ⟨_, rfl⟩
  have hwA : Below w.heap.size w A := by rw [hA]; exact (Below.refl _ _).alloc (Nat.le_refl _) _
  have hAs : A.heap.size = w.heap.size + 1 := by rw [hA]; simp
  have r1 : A.heap[w.heap.size]? = some (.cells #[.int .u8 m, .int .u8 p, .int .u32 st, .int .u64 g, .slice a n k] 49 (0, 0)) := by rw [hA]; exact heap_alloc_new w _
  obtain ⟨c0, c1, c2, c3, c4⟩ := cell5 r1
  rw [hA] at c0 c1 c2 c3 c4
  have HA := Lib.hid (And.intro hA (And.intro hwA (And.intro hAs r1)))
  have HX := Lib.hid hx
  have HF := Lib.hid (fits_any m p st g a n k A (by omega))
  have hdec : (decide (m < 2) && (decide (1 ≤ p) && decide (n ≤ 480))) = true ↔ SH.Ok ⟨m, p, st, g, row⟩ := by
    unfold SH.Ok
    dsimp only
    simp only [Bool.and_eq_true, decide_eq_true_eq]
    rw [hl]
    constructor
    · rintro ⟨h1, h2, h3⟩; exact ⟨by omega, by omega, h3⟩
    · rintro ⟨h1, h2, h3⟩; exact ⟨by omega, by omega, h3⟩
  by_cases hok : SH.Ok ⟨m, p, st, g, row⟩
  case neg =>
    have HE := Lib.hid (show S = [] ∧ E = 2 from ⟨by rw [hS]; exact (SH.S_no hok).1, by rw [hE]; exact (SH.S_no hok).2⟩)
    have hd : (decide (m < 2) && (decide (1 ≤ p) && decide (n ≤ 480))) = false := by
      cases h : (decide (m < 2) && (decide (1 ≤ p) && decide (n ≤ 480))) with
      | false => rfl
      | true => exact absurd (hdec.1 h) hok
    rw [hd] at HF
    clear hS hE hx hA hwA hAs r1 hdec hd hl
    go_enter Try.func14, Try.ntmps14
    go_wp2_with (go_at_call 35; go_loud (rw [← HA.out.1]; refine HF.out.mono ?_; rintro e w1 ⟨rfl, hb1⟩; have HB1 := Lib.hid (bt HA.out.2.1 hb1); clear hb1))
    go_ret2
    exact ⟨none, 0, by rw [HE.out.1, HE.out.2]; rfl, by rw [HE.out.1]; exact arg8c_nil _, fun h => by rw [HE.out.1] at h; simp at h, HB1.out⟩
  case pos =>
    have HE := Lib.hid (show S = szL (((([76, 83, m, p] ++ be 4 st) ++ be 8 g) ++ be 2 (row.length : Int)) ++ List.replicate 14 0 ++ row) ∧ E = 0 from ⟨by rw [hS, (SH.S_ok hok).1, SH.B_assoc], by rw [hE]; exact (SH.S_ok hok).2⟩)
    rw [hdec.2 hok] at HF
    have h48 : n ≤ 480 := by have := hok.2.2; dsimp only at this; omega
    have q16 : (n : Int) ≤ 480 := by omega
    obtain ⟨i5, hi5, hz5⟩ := Option.map_eq_some_iff.1 info5
    simp only [Prod.mk.injEq] at hz5
    have HI := Lib.hid (And.intro hi5 hz5)
    have HL := Lib.hid (And.intro hl (And.intro hcap h48))
    have hkc := fun A => conv2 A 76 83
    clear hS hE hx hA hwA hAs r1 hdec hl h48 hok hi5 hz5
    go_enter Try.func14, Try.ntmps14
    go_upto_region 3 with (go_at_call 35; go_loud (rw [← HA.out.1]; refine HF.out.mono ?_; rintro e w1 ⟨rfl, hb1⟩; have HB1 := Lib.hid (bt HA.out.2.1 hb1); have r1 := (hb1.block _ (by have := HA.out.2.2.1; omega)).trans HA.out.2.2.2; have R1 := Lib.hid r1; clear r1 hb1))
    clear c0 c1 c2 c3 c4
    obtain ⟨D, hD, hbD, hDs, hs1, hs2⟩ := mark_two w1 76 83 m p
    have hsw := HB1.out.size
    have r0 : (w1.alloc (.cells #[.int .u8 76, .int .u8 83] 5 (2, 3))).heap[w.heap.size]? = some (.cells #[.int .u8 m, .int .u8 p, .int .u32 st, .int .u64 g, .slice a n k] 49 (0, 0)) := (heap_alloc_old _ _ (Array.getElem?_eq_some_iff.1 R1.out).1).trans R1.out
    obtain ⟨d0, d1, -, -, -⟩ := cell5 r0
    have HD := Lib.hid (And.intro hD (And.intro hbD (And.intro hDs (And.intro hs1 hs2))))
    have HBD := Lib.hid (bt HB1.out hbD)
    have HRD := Lib.hid ((hbD.block _ (Array.getElem?_eq_some_iff.1 R1.out).1).trans R1.out)
    clear hD hbD hDs hs1 hs2 r0 hsw
    go_upto_region 4 with ((with_reducible show wpList _ _ _ (⟨some 16, _, _, _, _, _⟩ :: _) _ _); go_loud (refine wpList_append_full _ rfl (.tmp 10) (.tmp 15) 47 rfl 5 i5 Try.underlying47 HI.out.1 HI.out.2.1 HI.out.2.2.1 HI.out.2.2.2 ⟨w1.heap.size, 0, none⟩ 2 [76, 83] rfl rfl (w1.heap.size + 1) (by rw [← HD.out.1]; exact HD.out.2.2.2.1) ⟨w1.heap.size + 1, 0, none⟩ 2 2 [m, p] rfl rfl (w1.heap.size + 1 + 1) (by rw [← HD.out.1]; exact HD.out.2.2.2.2) (by omega) (by omega) ?_; rw [← HD.out.1]; intro v2 w2 ho2 hb2; have HO2 := Lib.hid ho2; have HB2 := Lib.hid hb2; obtain ⟨a2, c2, hv2, -⟩ := own_form ho2; subst hv2; clear ho2 hb2))
    clear d0 d1
    have hB2 := bt HBD.out HB2.out
    have r2 := (HB2.out.block _ (Array.getElem?_eq_some_iff.1 HRD.out).1).trans HRD.out
    have R2 := Lib.hid r2
    obtain ⟨-, -, e2, e3, e4⟩ := cell5 r2
    have HP32 := Lib.hid (put32 a2 4 c2 [76, 83, m, p] w2 rfl (Bs.of_own HO2.out).1 (by omega) st (by simp [Lit.wf, IntKind.min, IntKind.max, IntKind.signed, IntKind.bits]; omega))
    have HBB2 := Lib.hid hB2
    have HZ2 := Lib.hid hB2.size
    clear hB2 r2
    go_upto_region 8 with (first
      | (go_at_call 36; go_loud (refine HP32.out.mono ?_; rintro e w3 ⟨g3, rfl, ho3, hb3⟩; have r3 := (hb3.block _ (Array.getElem?_eq_some_iff.1 R2.out).1).trans R2.out; have R3 := Lib.hid r3; obtain ⟨-, -, -, i3, i4⟩ := cell5 r3; have HBB3 := Lib.hid (bt HBB2.out hb3); have HP64 := Lib.hid (put64 (some ⟨g3, 0, none⟩) 8 8 ([76, 83, m, p] ++ be 4 st) w3 (by simp [length_be]) (Bs.of_own ho3).1 (by omega) g (by simp [Lit.wf, IntKind.min, IntKind.max, IntKind.signed, IntKind.bits]; omega)); clear ho3 hb3 r3))
      | (go_at_call 37; go_loud (refine HP64.out.mono ?_; rintro e w4 ⟨g4, rfl, ho4, hb4⟩; have r4 := (hb4.block _ (Array.getElem?_eq_some_iff.1 R3.out).1).trans R3.out; have R4 := Lib.hid r4; obtain ⟨-, -, -, -, j4⟩ := cell5 r4; have HBB4 := Lib.hid (bt HBB3.out hb4); have HP16 := Lib.hid (put16 (some ⟨g4, 0, none⟩) 16 16 (([76, 83, m, p] ++ be 4 st) ++ be 8 g) w4 (by simp [length_be]) (Bs.of_own ho4).1 (by omega) (n : Int) (by simp [Lit.wf, IntKind.min, IntKind.max, IntKind.signed, IntKind.bits]; omega)); clear ho4 hb4 r4))
      | (go_at_call 38; go_loud (refine HP16.out.mono ?_; rintro e w5 ⟨g5, rfl, ho5, hb5⟩; have r5 := (hb5.block _ (Array.getElem?_eq_some_iff.1 R4.out).1).trans R4.out; have R5 := Lib.hid r5; have HBB5 := Lib.hid (bt HBB4.out hb5); have HW := Lib.hid (whole_any (some ⟨g5, 0, none⟩) 18 18 ((([76, 83, m, p] ++ be 4 st) ++ be 8 g) ++ be 2 (n : Int)) w5 (arg_own ho5 (allB_app2 (allB_app2 (allB_app2 (allB_four (by unfold byteI; omega) (by unfold byteI; omega) ⟨m0, m1⟩ ⟨p0, p1⟩) (allB_be _ _)) (allB_be _ _)) (allB_be _ _)))); clear ho5 hb5 r5))
      | (go_at_call 39; go_loud (refine HW.out.mono ?_; rintro e w6 ⟨g6, rfl, ho6, -, hn6, hb6⟩; have r6 := (hb6.block _ (Array.getElem?_eq_some_iff.1 R5.out).1).trans R5.out; have R6 := Lib.hid r6; obtain ⟨-, -, -, -, l4⟩ := cell5 r6; have HO6 := Lib.hid ho6; have HN6 := Lib.hid hn6; have HB6 := Lib.hid hb6; clear ho6 hn6 hb6 r6)))
    obtain ⟨cs, hcs⟩ : ∃ cs, cs = row.map (Value.int .u8) := ⟨_, rfl⟩
    obtain ⟨cur, hcur⟩ : ∃ cur, cur = (madeL ((([76, 83, m, p] ++ be 4 st) ++ be 8 g) ++ be 2 (n : Int))).map (Value.int .u8) := ⟨_, rfl⟩
    have hcl : cs.length = n := by rw [hcs, List.length_map]; exact HL.out.1
    have hul : cur.length = 512 := by rw [hcur, List.length_map, madeL_len]
    have HC := Lib.hid (And.intro hcs (And.intro hcur (And.intro hcl hul)))
    have HG6 := Lib.hid (show ∀ W, Below w6.heap.size w6 W → W.heap[g6]? = some (.cells cur.toArray 5 (0, 0)) from fun W hW => by
      have h := own_full HO6.out
      rw [hcur]
      exact (hW.block _ (Array.getElem?_eq_some_iff.1 h).1).trans h)
    have HBB6 := Lib.hid (bt HBB5.out HB6.out)
    have HSC := Lib.hid (show ∀ W, Below w6.heap.size w6 W → 0 < cs.length → ∃ ad, a = some ad ∧ ∀ j v, cs[j]? = some v → W.cell? (ad.add j) = some v from fun W hW h0 => by
      rw [hcs] at h0 ⊢
      exact ((HX.out.onV (bt HBB6.out hW)).1.2.2.1).cells h0)
    have HOC := Lib.hid (show ∀ v ∈ cs, v.oneCell' = true by rw [hcs]; exact ints_oneCell _ _)
    clear hcs hcur hcl hul e2 e3 e4
    go_region_law (refine step_copy_splice (o := ⟨some 37, _, _, _, _, _⟩) rfl (.tmp 34) (.tmp 36) 47 47 rfl 5 Try.underlying47 size_u8 (some ⟨g6, 32, none⟩) a 480 480 n k rfl rfl g6 32 cur 5 (HG6.out _ ((Below.refl _ _).drew)) cs (by rw [HC.out.2.2.1]; have := HL.out.2.2; exact (Nat.min_eq_left this).symm) (fun h0 => ⟨rfl, HSC.out _ ((Below.refl _ _).drew) h0⟩) (by rw [HC.out.2.2.1, HC.out.2.2.2]; have := HL.out.2.2; omega) HOC.out w.heap.size w (HBB6.out.drew) (by have := HN6.out; have := HBB5.out.size; omega) ?_; intro w7 hg7 hb7)
    go_wp2
    go_ret2
    have hlr := HL.out.1
    have h48 := HL.out.2.2
    have hHl : ((([76, 83, m, p] ++ be 4 st) ++ be 8 g) ++ be 2 (n : Int)).length = 18 := by simp [length_be]
    have hSl : S.length = 512 := by
      rw [HE.out.1, szL_len]
      rw [List.length_append, List.length_append, hlr, hHl, List.length_replicate]; omega
    have hS2 : S = szL (((([76, 83, m, p] ++ be 4 st) ++ be 8 g) ++ be 2 (n : Int)) ++ List.replicate 14 0 ++ row) := by rw [HE.out.1, hlr]
    have hSB : AllB S := by
      rw [hS2]
      exact szL_B (allB_app2 (allB_app2 (allB_app2 (allB_app2 (allB_app2 (allB_four (by unfold byteI; omega) (by unfold byteI; omega) ⟨m0, m1⟩ ⟨p0, p1⟩) (allB_be _ _)) (allB_be _ _)) (allB_be _ _)) (allB_zeros _)) hB)
    have hrow : w7.heap[g6]? = some (.cells (S.map (Value.int .u8)).toArray 5 (0, 0)) := by
      rw [hg7.out, HC.out.1, HC.out.2.1, share_splice hHl (by omega), ← hS2]
    have hgn : w.heap.size ≤ g6 := by have := HN6.out; have := HBB5.out.size; omega
    refine ⟨some ⟨g6, 0, none⟩, 512, by rw [hSl, HE.out.2]; rfl, ?_, fun _ b o e => by cases e; exact hgn, hb7⟩
    rw [hSl]
    exact arg_own (B := 0) ⟨by rw [List.length_map, hSl], .inr ⟨g6, 512, _, rfl, Nat.zero_le _, hrow, Nat.le_refl _, by unfold maxLen; omega, by simp [hSl], List.take_of_length_le (by simp [hSl])⟩⟩ hSB
end Go.Proofs.Ytkfdcdfaikkneaa
