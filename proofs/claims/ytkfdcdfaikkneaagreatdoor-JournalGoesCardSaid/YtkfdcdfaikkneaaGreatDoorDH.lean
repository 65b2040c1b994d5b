/- Texts of mine, one behind the other: Ip Iq Ir. -/
import Derived.Test.YtkfdcdfaikkneaaGreatDoorDG
import Derived.Test.YtkfdcdfaikkneaaGreatDoorDF
import Derived.BigRegion
/- Package sector: a share's bytes. -/
namespace Go.Proofs.YtkfdcdfaikkneaaGreatDoor
open Go.ChangeShapes Go.WideShapes Go.ChangeAt Go.RowKit Go.Shelf
set_option linter.unusedVariables false
set_option linter.unusedSimpArgs false
set_option maxRecDepth 100000
attribute [local go_sem] Oper.semAt_some

set_option maxHeartbeats 2000000 in
theorem fits_any (m p st g : Int) (a : Option Addr) (n k : Nat) (w : World) (hn : n ≤ 9223372036854775807) :
    Calls Tryz.prog 106 #[.agg #[.int .u8 m, .int .u8 p, .int .u32 st, .int .u64 g, .slice a n k]] w fun e w' => e = .returned (.bool (decide (m < 2) && (decide (1 ≤ p) && decide (n ≤ 480)))) ∧ Below w.heap.size w w' := by
  have HB := Lib.hid (show Below w.heap.size w (w.alloc (.cells #[.int .u8 m, .int .u8 p, .int .u32 st, .int .u64 g, .slice a n k] 54)) from (Below.refl _ _).alloc (Nat.le_refl _) _)
  obtain ⟨c0, c1, -, -, c4⟩ := cell5 (heap_alloc_new w (.cells #[.int .u8 m, .int .u8 p, .int .u32 st, .int .u64 g, .slice a n k] 54))
  obtain ⟨r, hr⟩ : ∃ r, r = (decide (m < 2) && (decide (1 ≤ p) && decide (n ≤ 480))) := ⟨_, rfl⟩
  rw [← hr]
  by_cases h1 : m < 2
  · by_cases h2 : 1 ≤ p
    · by_cases h3 : n ≤ 480
      · have q : (n : Int) ≤ 480 := by omega
        have HD := Lib.hid (show r = true by rw [hr]; simp [h1, h2, h3])
        clear h3 hr
        go_enter Tryz.func106, Tryz.ntmps106
        go_wp2
        go_ret
        exact ⟨by rw [HD.out]; rfl, HB.out⟩
      · have q : ¬ (n : Int) ≤ 480 := by omega
        have HD := Lib.hid (show r = false by rw [hr]; simp [h1, h2, h3])
        clear h3 hr
        go_enter Tryz.func106, Tryz.ntmps106
        go_wp2
        go_ret
        exact ⟨by rw [HD.out]; rfl, HB.out⟩
    · have HD := Lib.hid (show r = false by rw [hr]; simp [h1, h2])
      clear hr
      go_enter Tryz.func106, Tryz.ntmps106
      go_wp2
      go_ret
      exact ⟨by rw [HD.out]; rfl, HB.out⟩
  · have HD := Lib.hid (show r = false by rw [hr]; simp [h1])
    clear hr
    go_enter Tryz.func106, Tryz.ntmps106
    go_wp2
    go_ret
    exact ⟨by rw [HD.out]; rfl, HB.out⟩
theorem own_full {w : World} {base g n : Nat} {l : List Int} (h : w.ownsRow base 5 1 (.slice (some ⟨g, 0, none⟩) n n) n (l.map (Value.int .u8))) : w.heap[g]? = some (.cells (l.map (Value.int .u8)).toArray 5 (0, 0)) := by
  obtain ⟨hl, h2⟩ := h
  rcases h2 with ⟨h0, -⟩ | ⟨g', cap, cur, hv, -, hg, -, -, hs, ht⟩
  · cases h0
  · cases hv
    have e : cur.toList = l.map (Value.int .u8) := by
      rw [← ht, List.take_of_length_le (by rw [Array.length_toList]; omega)]
    rw [hg, ← e, Array.toArray_toList]
theorem share_splice {H row : List Int} (hH : H.length = 18) (hr : row.length ≤ 480) : splice ((madeL H).map (Value.int .u8)) 32 (row.map (Value.int .u8)) = (szL (H ++ List.replicate 14 0 ++ row)).map (Value.int .u8) := by
  have e : madeL H = (H ++ List.replicate 14 0) ++ List.replicate 480 0 := by
    unfold madeL
    rw [List.take_of_length_le (by omega), hH, List.append_assoc, List.replicate_append_replicate]
  have hl : (H ++ List.replicate 14 (0 : Int)).length = 32 := by rw [List.length_append, hH, List.length_replicate]
  unfold splice szL
  rw [e, ← List.map_take, List.length_map, ← List.map_drop, ← List.drop_drop, List.take_left' hl, List.drop_left' hl, List.drop_replicate, ← List.map_append, ← List.map_append, List.length_append, hl, List.append_assoc _ row]
  rw [show 480 - row.length = 512 - (32 + row.length) by omega]
theorem conv2 (A : World) (x y : Int) : (convert 23 23 (.slice (some ⟨A.heap.size, 0, none⟩) 2 2)).run Tryz.prog (A.alloc (.cells #[.int .u8 x, .int .u8 y] 5)) = .ok (.slice (some ⟨A.heap.size, 0, none⟩) 2 2) (A.alloc (.cells #[.int .u8 x, .int .u8 y] 5 (2, 3))) :=
  Lib.run_convert_bytes_const (P := Tryz.prog) A 23 5 #[.int .u8 x, .int .u8 y] 2 2 Tryz.underlying23 Tryz.underlying5
/-- Behind a mark and two bytes more: what lies where. -/
theorem mark_two (A : World) (x y u v : Int) : ∃ D, D = (A.alloc (.cells #[.int .u8 x, .int .u8 y] 5 (2, 3))).alloc (.cells #[.int .u8 u, .int .u8 v] 5) ∧ Below A.heap.size A D ∧ D.heap.size = A.heap.size + 2 ∧
    Bs D (A.heap.size + 1) (some ⟨A.heap.size, 0, none⟩) [x, y] ∧ Bs D (A.heap.size + 1 + 1) (some ⟨A.heap.size + 1, 0, none⟩) [u, v] := by
  refine ⟨_, rfl, ((Below.refl _ _).alloc (Nat.le_refl _) _).alloc (by simp) _, by simp, ?_, ?_⟩
  · exact (bs_two A x y (2, 3)).below ((Below.refl _ _).alloc (by simp) _)
  · have := bs_two (A.alloc (.cells #[.int .u8 x, .int .u8 y] 5 (2, 3))) u v (0, 0)
    rw [size_alloc1] at this
    exact this
set_option maxHeartbeats 8000000 in
theorem shareBytes_any : ShareBytesC := by
  intro s a n k w hw hx hn
  obtain ⟨⟨m0, m1⟩, ⟨p0, p1⟩, ⟨st0, st1⟩, ⟨g0, g1⟩, hB⟩ := hw
  obtain ⟨S, hS⟩ : ∃ S, S = s.S := ⟨_, rfl⟩
  obtain ⟨E, hE⟩ : ∃ E, E = s.E := ⟨_, rfl⟩
  rw [← hS, ← hE]
  obtain ⟨m, p, st, g, row⟩ := s
  unfold shG
  dsimp only at m0 m1 p0 p1 st0 st1 g0 g1 hB hx ⊢
  have hl := hx.1.1
  have hcap := hx.1.2.2.2
  unfold maxLen at hcap
  obtain ⟨A, hA⟩ : ∃ A, A = w.alloc (.cells #[.int .u8 m, .int .u8 p, .int .u32 st, .int .u64 g, .slice a n k] 54) := ⟨_, rfl⟩
  have hwA : Below w.heap.size w A := by rw [hA]; exact (Below.refl _ _).alloc (Nat.le_refl _) _
  have hAs : A.heap.size = w.heap.size + 1 := by rw [hA]; simp
  have r1 : A.heap[w.heap.size]? = some (.cells #[.int .u8 m, .int .u8 p, .int .u32 st, .int .u64 g, .slice a n k] 54 (0, 0)) := by rw [hA]; exact heap_alloc_new w _
  obtain ⟨c0, c1, c2, c3, c4⟩ := cell5 r1
  rw [hA] at c0 c1 c2 c3 c4
  have HA := Lib.hid (And.intro hA (And.intro hwA (And.intro hAs r1)))
  have HX := Lib.hid hx
  have HF := Lib.hid (fits_any m p st g a n k A (by omega))
  have hdec : (decide (m < 2) && (decide (1 ≤ p) && decide (n ≤ 480))) = true ↔ SH.Ok ⟨m, p, st, g, row⟩ := by
    unfold SH.Ok
    dsimp only
    simp only [Bool.and_eq_true, decide_eq_true_eq]
    rw [hl]
    constructor
    · rintro ⟨h1, h2, h3⟩; exact ⟨by omega, by omega, h3⟩
    · rintro ⟨h1, h2, h3⟩; exact ⟨by omega, by omega, h3⟩
  by_cases hok : SH.Ok ⟨m, p, st, g, row⟩
  case neg =>
    have HE := Lib.hid (show S = [] ∧ E = 2 from ⟨by rw [hS]; exact (SH.S_no hok).1, by rw [hE]; exact (SH.S_no hok).2⟩)
    have hd : (decide (m < 2) && (decide (1 ≤ p) && decide (n ≤ 480))) = false := by
      cases h : (decide (m < 2) && (decide (1 ≤ p) && decide (n ≤ 480))) with
      | false => rfl
      | true => exact absurd (hdec.1 h) hok
    rw [hd] at HF
    clear hS hE hx hA hwA hAs r1 hdec hd hl
    go_enter Tryz.func94, Tryz.ntmps94
    go_wp2_with (go_at_call 106; go_loud (rw [← HA.out.1]; refine HF.out.mono ?_; rintro e w1 ⟨rfl, hb1⟩; have HB1 := Lib.hid (bt HA.out.2.1 hb1); clear hb1))
    go_ret2
    exact ⟨none, 0, by rw [HE.out.1, HE.out.2]; rfl, by rw [HE.out.1]; exact arg8c_nil _, fun h => by rw [HE.out.1] at h; simp at h, HB1.out⟩
  case pos =>
    have HE := Lib.hid (show S = szL (((([76, 83, m, p] ++ be 4 st) ++ be 8 g) ++ be 2 (row.length : Int)) ++ List.replicate 14 0 ++ row) ∧ E = 0 from ⟨by rw [hS, (SH.S_ok hok).1, SH.B_assoc], by rw [hE]; exact (SH.S_ok hok).2⟩)
    rw [hdec.2 hok] at HF
    have h48 : n ≤ 480 := by have := hok.2.2; dsimp only at this; omega
    have q16 : (n : Int) ≤ 480 := by omega
    obtain ⟨i5, hi5, hz5⟩ := Option.map_eq_some_iff.1 info5
    simp only [Prod.mk.injEq] at hz5
    have HI := Lib.hid (And.intro hi5 hz5)
    have HL := Lib.hid (And.intro hl (And.intro hcap h48))
    have hkc := fun A => conv2 A 76 83
    clear hS hE hx hA hwA hAs r1 hdec hl h48 hok hi5 hz5
    go_enter Tryz.func94, Tryz.ntmps94
    go_upto_region 3 with (go_at_call 106; go_loud (rw [← HA.out.1]; refine HF.out.mono ?_; rintro e w1 ⟨rfl, hb1⟩; have HB1 := Lib.hid (bt HA.out.2.1 hb1); have r1 := (hb1.block _ (by have := HA.out.2.2.1; omega)).trans HA.out.2.2.2; have R1 := Lib.hid r1; clear r1 hb1))
    clear c0 c1 c2 c3 c4
    obtain ⟨D, hD, hbD, hDs, hs1, hs2⟩ := mark_two w1 76 83 m p
    have hsw := HB1.out.size
    have r0 : (w1.alloc (.cells #[.int .u8 76, .int .u8 83] 5 (2, 3))).heap[w.heap.size]? = some (.cells #[.int .u8 m, .int .u8 p, .int .u32 st, .int .u64 g, .slice a n k] 54 (0, 0)) := (heap_alloc_old _ _ (Array.getElem?_eq_some_iff.1 R1.out).1).trans R1.out
    obtain ⟨d0, d1, -, -, -⟩ := cell5 r0
    have HD := Lib.hid (And.intro hD (And.intro hbD (And.intro hDs (And.intro hs1 hs2))))
    have HBD := Lib.hid (bt HB1.out hbD)
    have HRD := Lib.hid ((hbD.block _ (Array.getElem?_eq_some_iff.1 R1.out).1).trans R1.out)
    clear hD hbD hDs hs1 hs2 r0 hsw
    go_upto_region 4 with ((with_reducible show wpList _ _ _ (⟨some 16, _, _, _, _, _⟩ :: _) _ _); go_loud (refine wpList_append_full _ rfl (.tmp 10) (.tmp 15) 23 rfl 5 i5 Tryz.underlying23 HI.out.1 HI.out.2.1 HI.out.2.2.1 HI.out.2.2.2 ⟨w1.heap.size, 0, none⟩ 2 [76, 83] rfl rfl (w1.heap.size + 1) (by rw [← HD.out.1]; exact HD.out.2.2.2.1) ⟨w1.heap.size + 1, 0, none⟩ 2 2 [m, p] rfl rfl (w1.heap.size + 1 + 1) (by rw [← HD.out.1]; exact HD.out.2.2.2.2) (by omega) (by omega) ?_; rw [← HD.out.1]; intro v2 w2 ho2 hb2; have HO2 := Lib.hid ho2; have HB2 := Lib.hid hb2; obtain ⟨a2, c2, hv2, -⟩ := own_form ho2; subst hv2; clear ho2 hb2))
    clear d0 d1
    have hB2 := bt HBD.out HB2.out
    have r2 := (HB2.out.block _ (Array.getElem?_eq_some_iff.1 HRD.out).1).trans HRD.out
    have R2 := Lib.hid r2
    obtain ⟨-, -, e2, e3, e4⟩ := cell5 r2
    have HP32 := Lib.hid (put32 a2 4 c2 [76, 83, m, p] w2 rfl (Bs.of_own HO2.out).1 (by omega) st (by simp [Lit.wf, IntKind.min, IntKind.max, IntKind.signed, IntKind.bits]; omega))
    have HBB2 := Lib.hid hB2
    have HZ2 := Lib.hid hB2.size
    clear hB2 r2
    go_upto_region 8 with (first
      | (go_at_call 64; go_loud (refine HP32.out.mono ?_; rintro e w3 ⟨g3, rfl, ho3, hb3⟩; have r3 := (hb3.block _ (Array.getElem?_eq_some_iff.1 R2.out).1).trans R2.out; have R3 := Lib.hid r3; obtain ⟨-, -, -, i3, i4⟩ := cell5 r3; have HBB3 := Lib.hid (bt HBB2.out hb3); have HP64 := Lib.hid (put64 (some ⟨g3, 0, none⟩) 8 8 ([76, 83, m, p] ++ be 4 st) w3 (by simp [length_be]) (Bs.of_own ho3).1 (by omega) g (by simp [Lit.wf, IntKind.min, IntKind.max, IntKind.signed, IntKind.bits]; omega)); clear ho3 hb3 r3))
      | (go_at_call 96; go_loud (refine HP64.out.mono ?_; rintro e w4 ⟨g4, rfl, ho4, hb4⟩; have r4 := (hb4.block _ (Array.getElem?_eq_some_iff.1 R3.out).1).trans R3.out; have R4 := Lib.hid r4; obtain ⟨-, -, -, -, j4⟩ := cell5 r4; have HBB4 := Lib.hid (bt HBB3.out hb4); have HP16 := Lib.hid (put16 (some ⟨g4, 0, none⟩) 16 16 (([76, 83, m, p] ++ be 4 st) ++ be 8 g) w4 (by simp [length_be]) (Bs.of_own ho4).1 (by omega) (n : Int) (by simp [Lit.wf, IntKind.min, IntKind.max, IntKind.signed, IntKind.bits]; omega)); clear ho4 hb4 r4))
      | (go_at_call 107; go_loud (refine HP16.out.mono ?_; rintro e w5 ⟨g5, rfl, ho5, hb5⟩; have r5 := (hb5.block _ (Array.getElem?_eq_some_iff.1 R4.out).1).trans R4.out; have R5 := Lib.hid r5; have HBB5 := Lib.hid (bt HBB4.out hb5); have HW := Lib.hid (whole_any (some ⟨g5, 0, none⟩) 18 18 ((([76, 83, m, p] ++ be 4 st) ++ be 8 g) ++ be 2 (n : Int)) w5 (arg_own ho5 (allB_app2 (allB_app2 (allB_app2 (allB_four (by unfold byteI; omega) (by unfold byteI; omega) ⟨m0, m1⟩ ⟨p0, p1⟩) (allB_be _ _)) (allB_be _ _)) (allB_be _ _)))); clear ho5 hb5 r5))
      | (go_at_call 67; go_loud (refine HW.out.mono ?_; rintro e w6 ⟨g6, rfl, ho6, -, hn6, hb6⟩; have r6 := (hb6.block _ (Array.getElem?_eq_some_iff.1 R5.out).1).trans R5.out; have R6 := Lib.hid r6; obtain ⟨-, -, -, -, l4⟩ := cell5 r6; have HO6 := Lib.hid ho6; have HN6 := Lib.hid hn6; have HB6 := Lib.hid hb6; clear ho6 hn6 hb6 r6)))
    obtain ⟨cs, hcs⟩ : ∃ cs, cs = row.map (Value.int .u8) := ⟨_, rfl⟩
    obtain ⟨cur, hcur⟩ : ∃ cur, cur = (madeL ((([76, 83, m, p] ++ be 4 st) ++ be 8 g) ++ be 2 (n : Int))).map (Value.int .u8) := ⟨_, rfl⟩
    have hcl : cs.length = n := by rw [hcs, List.length_map]; exact HL.out.1
    have hul : cur.length = 512 := by rw [hcur, List.length_map, madeL_len]
    have HC := Lib.hid (And.intro hcs (And.intro hcur (And.intro hcl hul)))
    have HG6 := Lib.hid (show ∀ W, Below w6.heap.size w6 W → W.heap[g6]? = some (.cells cur.toArray 5 (0, 0)) from fun W hW => by
      have h := own_full HO6.out
      rw [hcur]
      exact (hW.block _ (Array.getElem?_eq_some_iff.1 h).1).trans h)
    have HBB6 := Lib.hid (bt HBB5.out HB6.out)
    have HSC := Lib.hid (show ∀ W, Below w6.heap.size w6 W → 0 < cs.length → ∃ ad, a = some ad ∧ ∀ j v, cs[j]? = some v → W.cell? (ad.add j) = some v from fun W hW h0 => by
      rw [hcs] at h0 ⊢
      exact ((HX.out.onV (bt HBB6.out hW)).1.2.2.1).cells h0)
    have HOC := Lib.hid (show ∀ v ∈ cs, v.oneCell' = true by rw [hcs]; exact ints_oneCell _ _)
    clear hcs hcur hcl hul e2 e3 e4
    go_region_law (refine step_copy_splice (o := ⟨some 37, _, _, _, _, _⟩) rfl (.tmp 34) (.tmp 36) 23 23 rfl 5 Tryz.underlying23 size_u8 (some ⟨g6, 32, none⟩) a 480 480 n k rfl rfl g6 32 cur 5 (HG6.out _ ((Below.refl _ _).drew)) cs (by rw [HC.out.2.2.1]; have := HL.out.2.2; exact (Nat.min_eq_left this).symm) (fun h0 => ⟨rfl, HSC.out _ ((Below.refl _ _).drew) h0⟩) (by rw [HC.out.2.2.1, HC.out.2.2.2]; have := HL.out.2.2; omega) HOC.out w.heap.size w (HBB6.out.drew) (by have := HN6.out; have := HBB5.out.size; omega) ?_; intro w7 hg7 hb7)
    go_wp2
    go_ret2
    have hlr := HL.out.1
    have h48 := HL.out.2.2
    have hHl : ((([76, 83, m, p] ++ be 4 st) ++ be 8 g) ++ be 2 (n : Int)).length = 18 := by simp [length_be]
    have hSl : S.length = 512 := by
      rw [HE.out.1, szL_len]
      rw [List.length_append, List.length_append, hlr, hHl, List.length_replicate]; omega
    have hS2 : S = szL (((([76, 83, m, p] ++ be 4 st) ++ be 8 g) ++ be 2 (n : Int)) ++ List.replicate 14 0 ++ row) := by rw [HE.out.1, hlr]
    have hSB : AllB S := by
      rw [hS2]
      exact szL_B (allB_app2 (allB_app2 (allB_app2 (allB_app2 (allB_app2 (allB_four (by unfold byteI; omega) (by unfold byteI; omega) ⟨m0, m1⟩ ⟨p0, p1⟩) (allB_be _ _)) (allB_be _ _)) (allB_be _ _)) (allB_zeros _)) hB)
    have hrow : w7.heap[g6]? = some (.cells (S.map (Value.int .u8)).toArray 5 (0, 0)) := by
      rw [hg7.out, HC.out.1, HC.out.2.1, share_splice hHl (by omega), ← hS2]
    have hgn : w.heap.size ≤ g6 := by have := HN6.out; have := HBB5.out.size; omega
    refine ⟨some ⟨g6, 0, none⟩, 512, by rw [hSl, HE.out.2]; rfl, ?_, fun _ b o e => by cases e; exact hgn, hb7⟩
    rw [hSl]
    exact arg_own (B := 0) ⟨by rw [List.length_map, hSl], .inr ⟨g6, 512, _, rfl, Nat.zero_le _, hrow, Nat.le_refl _, by unfold maxLen; omega, by simp [hSl], List.take_of_length_le (by simp [hSl])⟩⟩ hSB
end Go.Proofs.YtkfdcdfaikkneaaGreatDoor
/- Package sector: checked at a share. -/
namespace Go.Proofs.YtkfdcdfaikkneaaGreatDoor
open Go.ChangeShapes Go.WideShapes Go.ChangeAt Go.RowKit Go.Shelf
set_option linter.unusedVariables false
set_option linter.unusedSimpArgs false
set_option maxRecDepth 100000
attribute [local go_sem] Oper.semAt_some

theorem meth_S (x y z u v : Value) (m : Nat) (w : World) : (method (m + 1) 54 (.agg #[x, y, z, u, v]) "Bytes").run Tryz.prog w = .ok (94, .agg #[x, y, z, u, v]) w := by kernel_rfl
theorem free5 {W : World} {b : Nat} {x0 x1 x2 x3 x4 : Value} {T : TypeId} (h : W.heap[b]? = some (.cells #[x0, x1, x2, x3, x4] T (0, 0))) : (W.cell? ⟨b, 0, none⟩ = some x0 ∧ W.cell? ⟨b, 1, none⟩ = some x1 ∧ W.cell? ⟨b, 2, none⟩ = some x2 ∧ W.cell? ⟨b, 3, none⟩ = some x3 ∧ W.cell? ⟨b, 4, none⟩ = some x4) ∧ (∀ j, W.frozen? ⟨b, j, none⟩ = false) :=
  ⟨cell5 h, fun j => frozen_of_row W b j _ _ h⟩
theorem free5n {W : World} {b : Nat} {x0 x1 x2 x3 x4 : Value} {T : TypeId} (h : W.heap[b]? = some (.cells #[x0, x1, x2, x3, x4] T (0, 0))) (o : Obj) : ((W.alloc o).cell? ⟨b, 0, none⟩ = some x0 ∧ (W.alloc o).cell? ⟨b, 1, none⟩ = some x1 ∧ (W.alloc o).cell? ⟨b, 2, none⟩ = some x2 ∧ (W.alloc o).cell? ⟨b, 3, none⟩ = some x3 ∧ (W.alloc o).cell? ⟨b, 4, none⟩ = some x4) ∧ (∀ j, (W.alloc o).frozen? ⟨b, j, none⟩ = false) :=
  free5 ((heap_alloc_old W o (Array.getElem?_eq_some_iff.1 h).1).trans h)
theorem sizeSh : (Tryz.prog.info? 54).map (·.size) = some 5 := by kernel_rfl
theorem results_chS (tmps : Array Value) (w : World) (g : Nat) (x0 x1 x2 x3 x4 v : Value) (h2 : tmps.getD 4 undef = .pointer (some ⟨g, 0, none⟩)) (h3 : tmps.getD 5 undef = v) (hg : w.heap[g]? = some (.cells #[x0, x1, x2, x3, x4] 54 (0, 0))) :
    (results Tryz.f87 tmps).run Tryz.prog w = .ok (.tuple #[.agg #[x0, x1, x2, x3, x4], v]) w := by
  have h2' : tmps[4]?.getD undef = .pointer (some ⟨g, 0, none⟩) := by simpa using h2
  have h3' : tmps[5]?.getD undef = v := by simpa using h3
  have hr := run_loadVar_row (P := Tryz.prog) w g 54 54 #[x0, x1, x2, x3, x4] (0, 0) _ hg Tryz.underlying54 rfl sizeSh
  simp [results, Tryz.f87, h2', h3', asAddr, hr]
theorem results_paS (tmps : Array Value) (w : World) (g : Nat) (x0 x1 x2 x3 x4 v : Value) (h2 : tmps.getD 2 undef = .pointer (some ⟨g, 0, none⟩)) (h3 : tmps.getD 3 undef = v) (hg : w.heap[g]? = some (.cells #[x0, x1, x2, x3, x4] 54 (0, 0))) :
    (results Tryz.f60 tmps).run Tryz.prog w = .ok (.tuple #[.agg #[x0, x1, x2, x3, x4], v]) w := by
  have h2' : tmps[2]?.getD undef = .pointer (some ⟨g, 0, none⟩) := by simpa using h2
  have h3' : tmps[3]?.getD undef = v := by simpa using h3
  have hr := run_loadVar_row (P := Tryz.prog) w g 54 54 #[x0, x1, x2, x3, x4] (0, 0) _ hg Tryz.underlying54 rfl sizeSh
  simp [results, Tryz.f60, h2', h3', asAddr, hr]
/-- What a share's sector says, if it is one. -/
def chSok (s : SH) (b : List Int) : Prop := s.E = 0 ∧ s.S = b
theorem sh_ok {s : SH} (hE : s.E = 0) : s.Ok := by
  unfold SH.E at hE
  by_cases h : s.Ok
  · exact h
  · rw [if_neg h] at hE; omega
set_option maxHeartbeats 4000000 in
theorem checkedS_any (s : SH) (hw : s.Wf) (ar : Option Addr) (nr kr : Nat) (a : Option Addr) (n k : Nat) (b : List Int) (w : World) (hr : Arg8c w ar nr kr s.row) (hnr : nr ≤ 500) (hx : Arg8c w a n k b) :
    Calls Tryz.prog 87 #[shG s (.slice ar nr kr), .slice a n k] w fun e w' => (chSok s b → e = .returned (.tuple #[shG s (.slice ar nr kr), .int .i64 0])) ∧ (¬ chSok s b → e = .returned (.tuple #[shG ⟨0, 0, 0, 0, []⟩ (.slice none 0 0), .int .i64 3])) ∧ Below w.heap.size w w' := by
  have HC := Lib.hid (fun (W : World) (hW : Below w.heap.size w W) => shareBytes_any s ar nr kr W hw (hr.onV hW) hnr)
  unfold chSok
  obtain ⟨S, hS⟩ : ∃ S, S = s.S := ⟨_, rfl⟩
  obtain ⟨E, hE⟩ : ∃ E, E = s.E := ⟨_, rfl⟩
  have HEE := Lib.hid (show E = 0 ∨ E = 2 by rw [hE]; unfold SH.E; split <;> simp)
  rw [← hS, ← hE] at HC
  rw [← hS, ← hE]
  clear hS hE hr hnr hw
  obtain ⟨x0, x1, x2, x3, row⟩ := s
  unfold shG at HC ⊢
  dsimp only at HC ⊢
  have hm := meth_S (.int .u8 x0) (.int .u8 x1) (.int .u32 x2) (.int .u64 x3) (.slice ar nr kr)
  obtain ⟨A, hA⟩ : ∃ A, A = (w.alloc (.cells #[.int .u8 x0, .int .u8 x1, .int .u32 x2, .int .u64 x3, .slice ar nr kr] 54)).alloc (.cells #[.int .u8 0, .int .u8 0, .int .u32 0, .int .u64 0, .slice none 0 0] 54) := ⟨_, rfl⟩
  have hwA : Below w.heap.size w A := by rw [hA]; exact ((Below.refl _ _).alloc (Nat.le_refl _) _).alloc (by simp) _
  have hAs : A.heap.size = w.heap.size + 2 := by rw [hA]; simp
  have r1 : A.heap[w.heap.size]? = some (.cells #[.int .u8 x0, .int .u8 x1, .int .u32 x2, .int .u64 x3, .slice ar nr kr] 54 (0, 0)) := by rw [hA, heap_alloc_old _ _ (by simp)]; exact heap_alloc_new w _
  have r2 : A.heap[w.heap.size + 1]? = some (.cells #[.int .u8 0, .int .u8 0, .int .u32 0, .int .u64 0, .slice none 0 0] 54 (0, 0)) := by
    have := heap_alloc_new (w.alloc (.cells #[.int .u8 x0, .int .u8 x1, .int .u32 x2, .int .u64 x3, .slice ar nr kr] 54)) (.cells #[.int .u8 0, .int .u8 0, .int .u32 0, .int .u64 0, .slice none 0 0] 54)
    rw [size_alloc1] at this
    rw [hA]; exact this
  have HX := Lib.hid hx
  have HA := Lib.hid (And.intro hA (And.intro hwA (And.intro hAs (And.intro r1 r2))))
  clear hx hA hwA hAs r1 r2
  by_cases hE0 : E = 0
  · subst hE0
    by_cases hSb : S = b
    · have HSB := Lib.hid hSb
      clear hSb
      go_enter Tryz.func87, Tryz.ntmps87
      go_wp2_with (first
        | (go_at_call 94; go_loud (rw [← HA.out.1]; refine (HC.out _ HA.out.2.1).mono ?_; rintro e w1 ⟨a1, k1, rfl, hs1, -, hb1⟩; have HB1 := Lib.hid hb1; have HEQ := Lib.hid (eqB_any a1 S.length k1 S a n k b true w1 hs1 (HX.out.onV (bt HA.out.2.1 hb1)) ⟨fun _ => HSB.out, fun _ => rfl⟩); clear hs1 hb1))
        | (go_at_call 82; go_loud (refine HEQ.out.mono ?_; rintro e w2 ⟨rfl, rfl⟩; have r1 := (HB1.out.block _ (by rw [HA.out.2.2.1]; omega)).trans HA.out.2.2.2.1; have r2 := (HB1.out.block _ (by rw [HA.out.2.2.1]; omega)).trans HA.out.2.2.2.2; have R2 := Lib.hid r2; obtain ⟨m0, m1, m2, m3, m4⟩ := cell5 r1; obtain ⟨⟨z0, z1, z2, z3, z4⟩, zf⟩ := free5 r2; clear r1 r2)))
      refine bodyPost_ret (v := .tuple #[.agg #[.int .u8 x0, .int .u8 x1, .int .u32 x2, .int .u64 x3, .slice ar nr kr], .int .i64 0]) (results_chS _ _ (w.heap.size + 1) _ _ _ _ _ _ rfl rfl (set5_row _ _ _ _ _ R2.out)) rfl ⟨fun _ => rfl, fun h => absurd ⟨trivial, HSB.out⟩ h, set5_below (bt HA.out.2.1 HB1.out) (by omega) _ _ _ _ _⟩
    · have HSB := Lib.hid hSb
      have HN := Lib.hid (show ¬ ((0 : Int) = 0 ∧ S = b) from fun h => hSb h.2)
      clear hSb
      go_enter Tryz.func87, Tryz.ntmps87
      go_wp2_with (first
        | (go_at_call 94; go_loud (rw [← HA.out.1]; refine (HC.out _ HA.out.2.1).mono ?_; rintro e w1 ⟨a1, k1, rfl, hs1, -, hb1⟩; have HB1 := Lib.hid hb1; have HEQ := Lib.hid (eqB_any a1 S.length k1 S a n k b false w1 hs1 (HX.out.onV (bt HA.out.2.1 hb1)) ⟨fun h => (by cases h), fun h => absurd h HSB.out⟩); clear hs1 hb1))
        | (go_at_call 82; go_loud (refine HEQ.out.mono ?_; rintro e w2 ⟨rfl, rfl⟩; have r2 := (HB1.out.block _ (by rw [HA.out.2.2.1]; omega)).trans HA.out.2.2.2.2; have R2 := Lib.hid r2; obtain ⟨⟨z0, z1, z2, z3, z4⟩, zf⟩ := free5n r2 (.cells #[.int .u8 0, .int .u8 0, .int .u32 0, .int .u64 0, .slice none 0 0] 54); clear r2)))
      refine bodyPost_ret (v := .tuple #[.agg #[.int .u8 0, .int .u8 0, .int .u32 0, .int .u64 0, .slice none 0 0], .int .i64 3]) (results_chS _ _ (w.heap.size + 1) _ _ _ _ _ _ rfl rfl (set5_row _ _ _ _ _ ((heap_alloc_old _ _ (by have := HB1.out.size; have := HA.out.2.2.1; omega)).trans R2.out))) rfl ⟨fun h => absurd h HN.out, fun _ => rfl, set5_below ((bt HA.out.2.1 HB1.out).alloc (by have := HB1.out.size; have := HA.out.2.2.1; omega) _) (by omega) _ _ _ _ _⟩
  · obtain rfl : E = 2 := by rcases HEE.out with h | h <;> omega
    have HN := Lib.hid (show ¬ ((2 : Int) = 0 ∧ S = b) from fun h => by have := h.1; omega)
    go_enter Tryz.func87, Tryz.ntmps87
    go_wp2_with (first
      | (go_at_call 94; go_loud (rw [← HA.out.1]; refine (HC.out _ HA.out.2.1).mono ?_; rintro e w1 ⟨a1, k1, rfl, hs1, -, hb1⟩; have HB1 := Lib.hid hb1; skip; have r2 := (HB1.out.block _ (by rw [HA.out.2.2.1]; omega)).trans HA.out.2.2.2.2; have R2 := Lib.hid r2; obtain ⟨⟨z0, z1, z2, z3, z4⟩, zf⟩ := free5n r2 (.cells #[.int .u8 0, .int .u8 0, .int .u32 0, .int .u64 0, .slice none 0 0] 54); clear r2; clear hs1 hb1))
      | (go_at_call 82; go_loud (refine HEQ.out.mono ?_; rintro e w2 ⟨rfl, rfl⟩; fail)))
    refine bodyPost_ret (v := .tuple #[.agg #[.int .u8 0, .int .u8 0, .int .u32 0, .int .u64 0, .slice none 0 0], .int .i64 3]) (results_chS _ _ (w.heap.size + 1) _ _ _ _ _ _ rfl rfl (set5_row _ _ _ _ _ ((heap_alloc_old _ _ (by have := HB1.out.size; have := HA.out.2.2.1; omega)).trans R2.out))) rfl ⟨fun h => absurd h HN.out, fun _ => rfl, set5_below ((bt HA.out.2.1 HB1.out).alloc (by have := HB1.out.size; have := HA.out.2.2.1; omega) _) (by omega) _ _ _ _ _⟩
end Go.Proofs.YtkfdcdfaikkneaaGreatDoor
/- Package sector: ParseShare. -/
namespace Go.Proofs.YtkfdcdfaikkneaaGreatDoor
open Go.ChangeShapes Go.WideShapes Go.ChangeAt Go.RowKit Go.Shelf
set_option linter.unusedVariables false
set_option linter.unusedSimpArgs false
set_option maxRecDepth 100000
attribute [local go_sem] Oper.semAt_some

theorem set5_other (W : World) (g : Nat) (x0 x1 x2 x3 x4 : Value) {k : Nat} (h : k ≠ g) : (set5 W g x0 x1 x2 x3 x4).heap[k]? = W.heap[k]? :=
  (heap_setCell_other _ ⟨g, 4, none⟩ k x4 h).trans ((heap_setCell_other _ ⟨g, 3, none⟩ k x3 h).trans ((heap_setCell_other _ ⟨g, 2, none⟩ k x2 h).trans ((heap_setCell_other _ ⟨g, 1, none⟩ k x1 h).trans (heap_setCell_other _ ⟨g, 0, none⟩ k x0 h))))
theorem psh_len {b : List Int} (h : ¬ (b.length = 512 ∧ nb b 16 2 ≤ 480)) : pshZ b = ⟨0, 0, 0, 0, []⟩ ∧ pshE b = 3 := by
  have : psh b = none := by unfold psh; exact if_neg (fun k => h ⟨k.1, k.2.1⟩)
  unfold pshZ pshE; rw [this]; exact ⟨rfl, rfl⟩
theorem psh_yes {b : List Int} (hl : b.length = 512) (hn : nb b 16 2 ≤ 480) (h : chSok (pshR b) b) : pshZ b = pshR b ∧ pshE b = 0 := by
  have ho := sh_ok h.1
  have : psh b = some (pshR b) := by unfold psh; exact if_pos ⟨hl, hn, ho, (SH.S_ok ho).1.symm.trans h.2⟩
  exact psh_one this
theorem psh_not {b : List Int} (h : ¬ chSok (pshR b) b) : pshZ b = ⟨0, 0, 0, 0, []⟩ ∧ pshE b = 3 := by
  have : psh b = none := by unfold psh; exact if_neg (fun k => h ⟨(SH.S_ok k.2.2.1).2, (SH.S_ok k.2.2.1).1.trans k.2.2.2⟩)
  exact psh_zero this
theorem nb_u16 {b : List Int} (h : AllB b) (k : Nat) : ∃ n : Nat, nb b k 2 = (n : Int) ∧ n < 65536 := by
  have := nb_bound h k 2
  exact ⟨(nb b k 2).toNat, by omega, by omega⟩
/-- As ParseShareC, and: the row lies in new memory. -/
def ParseShareN : Prop := ∀ (a : Option Addr) (n k : Nat) (b : List Int) (w : World), Arg8c w a n k b → n ≤ 600 →
  Calls Tryz.prog 60 #[.slice a n k] w fun e w' => ∃ a2 k2, e = .returned (.tuple #[shG (pshZ b) (.slice a2 (pshZ b).row.length k2), .int .i64 (pshE b)]) ∧ Arg8c w' a2 (pshZ b).row.length k2 (pshZ b).row ∧ Below w.heap.size w w' ∧ NewS w a2 (pshZ b).row.length
set_option maxHeartbeats 8000000 in
theorem parseShare_new : ParseShareN := by
  intro a n k b w hx hn
  have hl := hx.1.1
  have hcap := hx.1.2.2.2
  unfold maxLen at hcap
  obtain ⟨A, hA⟩ : ∃ A, A = w.alloc (.cells #[.int .u8 0, .int .u8 0, .int .u32 0, .int .u64 0, .slice none 0 0] 54) := ⟨_, rfl⟩
  have hwA : Below w.heap.size w A := by rw [hA]; exact (Below.refl _ _).alloc (Nat.le_refl _) _
  have hAs : A.heap.size = w.heap.size + 1 := by rw [hA]; simp
  have r1 : A.heap[w.heap.size]? = some (.cells #[.int .u8 0, .int .u8 0, .int .u32 0, .int .u64 0, .slice none 0 0] 54 (0, 0)) := by rw [hA]; exact heap_alloc_new w _
  have HA := Lib.hid (And.intro hA (And.intro hwA (And.intro hAs r1)))
  by_cases h5 : n = 512
  case neg =>
    have HV := Lib.hid (psh_len (b := b) (fun h => by have := h.1; omega))
    have HRD := Lib.hid (read_no a n k A h5 (by omega))
    obtain ⟨⟨z0, z1, z2, z3, z4⟩, zf⟩ := free5 r1
    rw [hA] at z0 z1 z2 z3 z4 zf
    clear hx hl hcap hA hwA hAs r1 h5
    go_enter Tryz.func60, Tryz.ntmps60
    go_wp2_with (go_at_call 46; go_loud (rw [← HA.out.1]; refine HRD.out.mono ?_; rintro e w1 ⟨rfl, rfl⟩; rw [HA.out.1]))
    refine bodyPost_ret (v := .tuple #[.agg #[.int .u8 0, .int .u8 0, .int .u32 0, .int .u64 0, .slice none 0 0], .int .i64 3]) (results_paS _ _ w.heap.size _ _ _ _ _ _ rfl rfl (HA.out.1 ▸ HA.out.2.2.2)) rfl ⟨none, 0, ?_, ?_, HA.out.1 ▸ HA.out.2.1, fun _ b o e => by cases e⟩
    · rw [HV.out.1, HV.out.2]; rfl
    · rw [HV.out.1]; exact arg8c_nil _
  case pos =>
    subst h5
    have HRD := Lib.hid (readS w A hwA (by omega) a k b hx)
    rw [hAs] at HRD
    obtain ⟨y2, h2⟩ : ∃ y, y = nb b 2 1 := ⟨_, rfl⟩
    obtain ⟨y3, h3⟩ : ∃ y, y = nb b 3 1 := ⟨_, rfl⟩
    obtain ⟨y4, h4⟩ : ∃ y, y = nb b 4 4 := ⟨_, rfl⟩
    obtain ⟨y8, h8⟩ : ∃ y, y = nb b 8 8 := ⟨_, rfl⟩
    obtain ⟨N, hN, hN2⟩ := nb_u16 hx.1.2.1 16
    have HNB := Lib.hid (And.intro h2.symm (And.intro h3.symm (And.intro h4.symm (And.intro h8.symm hN))))
    have HPR := Lib.hid (show pshR b = ⟨y2, y3, y4, y8, (b.drop 32).take N⟩ by
      unfold pshR
      rw [hN, h2, h3, h4, h8, nb_one (by omega), nb_one (by omega), Int.toNat_natCast])
    have HX := Lib.hid hx
    have HL := Lib.hid (And.intro hl hcap)
    clear h2 h3 h4 h8 hx hl hcap hA hwA hAs r1 hN hn
    by_cases h48 : N ≤ 480
    case neg =>
      have HV := Lib.hid (psh_len (b := b) (fun h => by have := h.2; rw [HNB.out.2.2.2.2] at this; omega))
      have qN : ¬ (N : Int) ≤ 480 := by omega
      go_enter Tryz.func60, Tryz.ntmps60
      go_wp2_with (first
        | (go_at_call 46; go_loud (rw [← HA.out.1]; refine HRD.out.mono ?_; rintro e w1 ⟨rfl, hs1, hb1⟩; have HS1 := Lib.hid hs1; have R1 := Lib.hid ((hb1.block _ (by have := HA.out.2.2.1; omega)).trans HA.out.2.2.2); clear hs1 hb1))
        | (go_at_call 57; go_loud (refine (next64S w _ _ 8 b HS4.out (by have := HL.out.1; omega)).mono ?_; rintro e w5 ⟨rfl, hs5, hb5⟩; have HS5 := Lib.hid hs5; have R5 := Lib.hid ((hb5.block (by have := (Array.getElem?_eq_some_iff.1 R4.out).1; omega) (by omega)).trans R4.out); rw [HNB.out.2.2.2.1]; clear hs5 hb5))
        | (go_at_call 49; go_loud (refine (next32S w _ _ 4 b HS3.out (by have := HL.out.1; omega)).mono ?_; rintro e w4 ⟨rfl, hs4, hb4⟩; have HS4 := Lib.hid hs4; have R4 := Lib.hid ((hb4.block (by have := (Array.getElem?_eq_some_iff.1 R3.out).1; omega) (by omega)).trans R3.out); rw [HNB.out.2.2.1]; clear hs4 hb4))
        | (go_at_call 48; go_loud (refine (next8S w _ _ 3 b HS2.out (by have := HL.out.1; omega)).mono ?_; rintro e w3 ⟨rfl, hs3, hb3⟩; have HS3 := Lib.hid hs3; have R3 := Lib.hid ((hb3.block (by have := (Array.getElem?_eq_some_iff.1 R2.out).1; omega) (by omega)).trans R2.out); rw [HNB.out.2.1]; clear hs3 hb3))
        | (go_at_call 48; go_loud (refine (next8S w _ _ 2 b HS1.out (by have := HL.out.1; omega)).mono ?_; rintro e w2 ⟨rfl, hs2, hb2⟩; have HS2 := Lib.hid hs2; have R2 := Lib.hid ((hb2.block (by have := (Array.getElem?_eq_some_iff.1 R1.out).1; omega) (by omega)).trans R1.out); rw [HNB.out.1]; clear hs2 hb2))
        | (go_at_call 86; go_loud (refine (next16S w _ _ 16 b (HS5.out.on ((Below.refl _ _).alloc (Nat.le_refl _) _)) (by have := HL.out.1; omega)).mono ?_; rintro e w7 ⟨rfl, hs7, hb7⟩; have HB7 := Lib.hid hs7.below; have r7 := (hb7.block (by have := (Array.getElem?_eq_some_iff.1 R5.out).1; simp; omega) (by omega)).trans ((heap_alloc_old _ _ (Array.getElem?_eq_some_iff.1 R5.out).1).trans R5.out); have R7 := Lib.hid r7; obtain ⟨⟨z0, z1, z2, z3, z4⟩, zf⟩ := free5 r7; rw [HNB.out.2.2.2.2]; clear hs7 hb7 r7)))
      refine bodyPost_ret (v := .tuple #[.agg #[.int .u8 0, .int .u8 0, .int .u32 0, .int .u64 0, .slice none 0 0], .int .i64 3]) (results_paS _ _ w.heap.size _ _ _ _ _ _ rfl rfl (set5_row _ _ _ _ _ R7.out)) rfl ⟨none, 0, ?_, ?_, set5_below HB7.out (Nat.le_refl _) _ _ _ _ _, fun _ b o e => by cases e⟩
      · rw [HV.out.1, HV.out.2]; rfl
      · rw [HV.out.1]; exact arg8c_nil _
    case pos =>
      have qN : (N : Int) ≤ 480 := by omega
      have q32 : ¬ k = 32 := by have := HL.out.2; omega
      have qk : (32 : Int) + (N : Int) ≤ (k : Int) := by have := HL.out.2; omega
      have HCT := Lib.hid (show (a.map (·.add 32)) = cutT a k 32 by unfold cutT; rw [if_neg q32])
      have HXR := Lib.hid (show Arg8c w (a.map (·.add 32)) N (k - 32) ((b.drop 32).take N) from HCT.out ▸ (HX.out.cut8 (k := 32) (by omega)).takeT (by omega))
      have HWF := Lib.hid (HPR.out ▸ pshR_wf HX.out.1.2.1)
      have HRL := Lib.hid (show ((b.drop 32).take N).length = N by rw [List.length_take, List.length_drop, HL.out.1]; omega)
      by_cases hch : chSok (pshR b) b
      · have HV := Lib.hid (psh_yes HL.out.1 (by rw [HNB.out.2.2.2.2]; exact qN) hch)
        have HCH := Lib.hid (HPR.out ▸ hch)
        clear hch
        go_enter Tryz.func60, Tryz.ntmps60
        go_wp2_with (first
          | (go_at_call 46; go_loud (rw [← HA.out.1]; refine HRD.out.mono ?_; rintro e w1 ⟨rfl, hs1, hb1⟩; have HS1 := Lib.hid hs1; have R1 := Lib.hid ((hb1.block _ (by have := HA.out.2.2.1; omega)).trans HA.out.2.2.2); clear hs1 hb1))
          | (go_at_call 57; go_loud (refine (next64S w _ _ 8 b HS4.out (by have := HL.out.1; omega)).mono ?_; rintro e w5 ⟨rfl, hs5, hb5⟩; have HS5 := Lib.hid hs5; have R5 := Lib.hid ((hb5.block (by have := (Array.getElem?_eq_some_iff.1 R4.out).1; omega) (by omega)).trans R4.out); rw [HNB.out.2.2.2.1]; clear hs5 hb5))
          | (go_at_call 49; go_loud (refine (next32S w _ _ 4 b HS3.out (by have := HL.out.1; omega)).mono ?_; rintro e w4 ⟨rfl, hs4, hb4⟩; have HS4 := Lib.hid hs4; have R4 := Lib.hid ((hb4.block (by have := (Array.getElem?_eq_some_iff.1 R3.out).1; omega) (by omega)).trans R3.out); rw [HNB.out.2.2.1]; clear hs4 hb4))
          | (go_at_call 48; go_loud (refine (next8S w _ _ 3 b HS2.out (by have := HL.out.1; omega)).mono ?_; rintro e w3 ⟨rfl, hs3, hb3⟩; have HS3 := Lib.hid hs3; have R3 := Lib.hid ((hb3.block (by have := (Array.getElem?_eq_some_iff.1 R2.out).1; omega) (by omega)).trans R2.out); rw [HNB.out.2.1]; clear hs3 hb3))
          | (go_at_call 48; go_loud (refine (next8S w _ _ 2 b HS1.out (by have := HL.out.1; omega)).mono ?_; rintro e w2 ⟨rfl, hs2, hb2⟩; have HS2 := Lib.hid hs2; have R2 := Lib.hid ((hb2.block (by have := (Array.getElem?_eq_some_iff.1 R1.out).1; omega) (by omega)).trans R1.out); rw [HNB.out.1]; clear hs2 hb2))
          | (go_at_call 86; go_loud (refine (next16S w _ _ 16 b (HS5.out.on ((Below.refl _ _).alloc (Nat.le_refl _) _)) (by have := HL.out.1; omega)).mono ?_; rintro e w7 ⟨rfl, hs7, hb7⟩; have HB7 := Lib.hid hs7.below; have h15 : w.heap.size + 1 < w5.heap.size := (by obtain ⟨_, _, _, _, _, hrd, _⟩ := HS5.out; exact hrd.lt); have r7 := (hb7.block (by simp; omega) (by omega)).trans ((heap_alloc_old _ _ (Array.getElem?_eq_some_iff.1 R5.out).1).trans R5.out); have R7 := Lib.hid r7; have b7 := (hb7.block (by simp) (by omega)).trans (heap_alloc_new w5 (.cells #[.int .u8 y2, .int .u8 y3, .int .u32 y4, .int .u64 y8, .slice none 0 0] 54)); have B7 := Lib.hid b7; have H15 := Lib.hid h15; rw [HNB.out.2.2.2.2]; clear hs7 hb7 r7 b7 h15))
          | (go_at_call 69; go_loud (refine (cloneB_any (a.map (·.add 32)) N (k - 32) ((b.drop 32).take N) w7 (HXR.out.onV HB7.out) (by omega)).mono ?_; rintro e w8 ⟨a9, c9, rfl, ho8, ha8, hb8⟩; have b8 := (hb8.block _ (Array.getElem?_eq_some_iff.1 B7.out).1).trans B7.out; have B8 := Lib.hid b8; obtain ⟨⟨m0, m1, m2, m3, m4⟩, mf⟩ := free5 b8; have HB8 := Lib.hid (bt HB7.out hb8); have HK8 := Lib.hid hb8; have HO8 := Lib.hid ho8; have HA8 := Lib.hid ha8; clear b8 ho8 ha8 hb8))
          | (go_at_call 87; go_loud (have h57 : w5.heap.size < w7.heap.size := (Array.getElem?_eq_some_iff.1 B7.out).1; have h78 := HK8.out.size; have h9o : ∀ q, q ≠ w5.heap.size → (w8.setCell ⟨w5.heap.size, 4, none⟩ (.slice a9 N c9)).heap[q]? = w8.heap[q]? := fun q hq => heap_setCell_other w8 ⟨w5.heap.size, 4, none⟩ q (.slice a9 N c9) hq; have hb9 : Below w.heap.size w (w8.setCell ⟨w5.heap.size, 4, none⟩ (.slice a9 N c9)) := HB8.out.setCell (by have := H15.out; show w.heap.size ≤ w5.heap.size; omega) _; have ha9 : ∀ bb o, a9 = some ⟨bb, o, none⟩ → w7.heap.size ≤ bb := fun bb o e => (own_lt HO8.out (g := bb) (by rw [e]; rfl)).1; have h9s : (w8.setCell ⟨w5.heap.size, 4, none⟩ (.slice a9 N c9)).heap.size = w8.heap.size := (by simp); refine (checkedS_any ⟨y2, y3, y4, y8, (b.drop 32).take N⟩ HWF.out a9 N c9 a 512 k b (w8.setCell ⟨w5.heap.size, 4, none⟩ (.slice a9 N c9)) (HA8.out.blockT (fun _ bb o e => h9o bb (by have := ha9 bb o e; omega))) (by omega) (HX.out.onV hb9)).mono ?_; rintro e wA ⟨hyes, hno, hbA⟩; dsimp only [shG] at hyes hno; obtain rfl := hyes HCH.out; have rA := (hbA.block _ (by rw [h9s]; have := (Array.getElem?_eq_some_iff.1 R7.out).1; omega)).trans ((h9o w.heap.size (by have := H15.out; omega)).trans ((HK8.out.block _ (Array.getElem?_eq_some_iff.1 R7.out).1).trans R7.out)); have RA := Lib.hid rA; obtain ⟨⟨z0, z1, z2, z3, z4⟩, zf⟩ := free5 rA; have HBA := Lib.hid (bt hb9 hbA); have HRA := Lib.hid (fun x0 x1 x2 x3 x4 : Value => (((HA8.out.blockT (fun _ bb o e => h9o bb (by have := ha9 bb o e; omega))).onV hbA).blockT (fun _ bb o e => set5_other wA w.heap.size x0 x1 x2 x3 x4 (by have := ha9 bb o e; have := H15.out; omega)))); clear rA hb9 hbA hyes hno h9o ha9)))
        refine bodyPost_ret (v := .tuple #[.agg #[.int .u8 y2, .int .u8 y3, .int .u32 y4, .int .u64 y8, .slice a9 N c9], .int .i64 0]) (results_paS _ _ w.heap.size _ _ _ _ _ _ rfl rfl (set5_row _ _ _ _ _ RA.out)) rfl ⟨a9, c9, ?_, ?_, set5_below HBA.out (Nat.le_refl _) _ _ _ _ _, fun _ bb o e => Nat.le_trans HB7.out.size (own_lt HO8.out (g := bb) (by rw [e]; rfl)).1⟩
        · rw [HV.out.1, HV.out.2, HPR.out, HRL.out]; rfl
        · rw [HV.out.1, HPR.out, HRL.out]; exact HRA.out _ _ _ _ _
      · have HV := Lib.hid (psh_not hch)
        have HCH := Lib.hid (HPR.out ▸ hch)
        clear hch
        go_enter Tryz.func60, Tryz.ntmps60
        go_wp2_with (first
          | (go_at_call 46; go_loud (rw [← HA.out.1]; refine HRD.out.mono ?_; rintro e w1 ⟨rfl, hs1, hb1⟩; have HS1 := Lib.hid hs1; have R1 := Lib.hid ((hb1.block _ (by have := HA.out.2.2.1; omega)).trans HA.out.2.2.2); clear hs1 hb1))
          | (go_at_call 57; go_loud (refine (next64S w _ _ 8 b HS4.out (by have := HL.out.1; omega)).mono ?_; rintro e w5 ⟨rfl, hs5, hb5⟩; have HS5 := Lib.hid hs5; have R5 := Lib.hid ((hb5.block (by have := (Array.getElem?_eq_some_iff.1 R4.out).1; omega) (by omega)).trans R4.out); rw [HNB.out.2.2.2.1]; clear hs5 hb5))
          | (go_at_call 49; go_loud (refine (next32S w _ _ 4 b HS3.out (by have := HL.out.1; omega)).mono ?_; rintro e w4 ⟨rfl, hs4, hb4⟩; have HS4 := Lib.hid hs4; have R4 := Lib.hid ((hb4.block (by have := (Array.getElem?_eq_some_iff.1 R3.out).1; omega) (by omega)).trans R3.out); rw [HNB.out.2.2.1]; clear hs4 hb4))
          | (go_at_call 48; go_loud (refine (next8S w _ _ 3 b HS2.out (by have := HL.out.1; omega)).mono ?_; rintro e w3 ⟨rfl, hs3, hb3⟩; have HS3 := Lib.hid hs3; have R3 := Lib.hid ((hb3.block (by have := (Array.getElem?_eq_some_iff.1 R2.out).1; omega) (by omega)).trans R2.out); rw [HNB.out.2.1]; clear hs3 hb3))
          | (go_at_call 48; go_loud (refine (next8S w _ _ 2 b HS1.out (by have := HL.out.1; omega)).mono ?_; rintro e w2 ⟨rfl, hs2, hb2⟩; have HS2 := Lib.hid hs2; have R2 := Lib.hid ((hb2.block (by have := (Array.getElem?_eq_some_iff.1 R1.out).1; omega) (by omega)).trans R1.out); rw [HNB.out.1]; clear hs2 hb2))
          | (go_at_call 86; go_loud (refine (next16S w _ _ 16 b (HS5.out.on ((Below.refl _ _).alloc (Nat.le_refl _) _)) (by have := HL.out.1; omega)).mono ?_; rintro e w7 ⟨rfl, hs7, hb7⟩; have HB7 := Lib.hid hs7.below; have h15 : w.heap.size + 1 < w5.heap.size := (by obtain ⟨_, _, _, _, _, hrd, _⟩ := HS5.out; exact hrd.lt); have r7 := (hb7.block (by simp; omega) (by omega)).trans ((heap_alloc_old _ _ (Array.getElem?_eq_some_iff.1 R5.out).1).trans R5.out); have R7 := Lib.hid r7; have b7 := (hb7.block (by simp) (by omega)).trans (heap_alloc_new w5 (.cells #[.int .u8 y2, .int .u8 y3, .int .u32 y4, .int .u64 y8, .slice none 0 0] 54)); have B7 := Lib.hid b7; have H15 := Lib.hid h15; rw [HNB.out.2.2.2.2]; clear hs7 hb7 r7 b7 h15))
          | (go_at_call 69; go_loud (refine (cloneB_any (a.map (·.add 32)) N (k - 32) ((b.drop 32).take N) w7 (HXR.out.onV HB7.out) (by omega)).mono ?_; rintro e w8 ⟨a9, c9, rfl, ho8, ha8, hb8⟩; have b8 := (hb8.block _ (Array.getElem?_eq_some_iff.1 B7.out).1).trans B7.out; have B8 := Lib.hid b8; obtain ⟨⟨m0, m1, m2, m3, m4⟩, mf⟩ := free5 b8; have HB8 := Lib.hid (bt HB7.out hb8); have HK8 := Lib.hid hb8; have HO8 := Lib.hid ho8; have HA8 := Lib.hid ha8; clear b8 ho8 ha8 hb8))
          | (go_at_call 87; go_loud (have h57 : w5.heap.size < w7.heap.size := (Array.getElem?_eq_some_iff.1 B7.out).1; have h78 := HK8.out.size; have h9o : ∀ q, q ≠ w5.heap.size → (w8.setCell ⟨w5.heap.size, 4, none⟩ (.slice a9 N c9)).heap[q]? = w8.heap[q]? := fun q hq => heap_setCell_other w8 ⟨w5.heap.size, 4, none⟩ q (.slice a9 N c9) hq; have hb9 : Below w.heap.size w (w8.setCell ⟨w5.heap.size, 4, none⟩ (.slice a9 N c9)) := HB8.out.setCell (by have := H15.out; show w.heap.size ≤ w5.heap.size; omega) _; have ha9 : ∀ bb o, a9 = some ⟨bb, o, none⟩ → w7.heap.size ≤ bb := fun bb o e => (own_lt HO8.out (g := bb) (by rw [e]; rfl)).1; have h9s : (w8.setCell ⟨w5.heap.size, 4, none⟩ (.slice a9 N c9)).heap.size = w8.heap.size := (by simp); refine (checkedS_any ⟨y2, y3, y4, y8, (b.drop 32).take N⟩ HWF.out a9 N c9 a 512 k b (w8.setCell ⟨w5.heap.size, 4, none⟩ (.slice a9 N c9)) (HA8.out.blockT (fun _ bb o e => h9o bb (by have := ha9 bb o e; omega))) (by omega) (HX.out.onV hb9)).mono ?_; rintro e wA ⟨hyes, hno, hbA⟩; dsimp only [shG] at hyes hno; obtain rfl := hno HCH.out; have rA := (hbA.block _ (by rw [h9s]; have := (Array.getElem?_eq_some_iff.1 R7.out).1; omega)).trans ((h9o w.heap.size (by have := H15.out; omega)).trans ((HK8.out.block _ (Array.getElem?_eq_some_iff.1 R7.out).1).trans R7.out)); have RA := Lib.hid rA; obtain ⟨⟨z0, z1, z2, z3, z4⟩, zf⟩ := free5 rA; have HBA := Lib.hid (bt hb9 hbA); have HRA := Lib.hid (fun x0 x1 x2 x3 x4 : Value => (((HA8.out.blockT (fun _ bb o e => h9o bb (by have := ha9 bb o e; omega))).onV hbA).blockT (fun _ bb o e => set5_other wA w.heap.size x0 x1 x2 x3 x4 (by have := ha9 bb o e; have := H15.out; omega)))); clear rA hb9 hbA hyes hno h9o ha9)))
        refine bodyPost_ret (v := .tuple #[.agg #[.int .u8 0, .int .u8 0, .int .u32 0, .int .u64 0, .slice none 0 0], .int .i64 3]) (results_paS _ _ w.heap.size _ _ _ _ _ _ rfl rfl (set5_row _ _ _ _ _ RA.out)) rfl ⟨none, 0, ?_, ?_, set5_below HBA.out (Nat.le_refl _) _ _ _ _ _, fun _ b o e => by cases e⟩
        · rw [HV.out.1, HV.out.2]; rfl
        · rw [HV.out.1]; exact arg8c_nil _
theorem parseShare_any : ParseShareC := fun a n k b w hx hn => (parseShare_new a n k b w hx hn).mono fun e w' ⟨a2, k2, h1, h2, h3, _⟩ => ⟨a2, k2, h1, h2, h3⟩
end Go.Proofs.YtkfdcdfaikkneaaGreatDoor
