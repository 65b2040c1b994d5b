/- Texts of mine, one behind the other: Hw4 Hw5. -/
import Derived.Test.YtappfdbmhgifcaaGreatDoorZS22
import Derived.Test.YtappfdbmhgifcaaGreatDoorZS23
import Derived.Test.YtappfdbmhgifcaaGreatDoorZS24
import Derived.Deep.CutRange
import Derived.Lib.MinMax
/- The walk of StripeTells. -/
namespace Go.Proofs.YtappfdbmhgifcaaGreatDoor
open Go.ChangeShapes Go.WideShapes Go.ChangeAt Go.RowKit Go.Shelf GF
set_option linter.unusedVariables false
set_option linter.unusedSimpArgs false
set_option maxRecDepth 100000
theorem qM_poly17 {m : Int} {T N C : Nat} (h : Sh m T N C) (B R : List GF) : PolyQ (qM m T B R) (rowV m T) T := by
  rcases h.1 with rfl | rfl
  · exact qS_ok B R h.2.1
  · exact cutQ_ok _ T
theorem tel_17 {m : Int} {T N C L : Nat} (h : Sh m T N C) {B R : List GF} (hB : B.length = 440) (hR : R.length = L) (hL : L = needV m T) : Tel m T (qM m T B R) B := by
  rcases h.1 with rfl | rfl
  · exact tel_0 hB
  · exact tel_1 hB (by rw [hR, hL]; rfl)
theorem rowV_bd17 {m : Int} {T N C : Nat} (h : Sh m T N C) (hN : N ≤ 7) : 2 ≤ rowV m T ∧ rowV m T ≤ 473 := by
  have hc := ceil473 h.2.1
  have ht7 : T ≤ 7 := by have := h.2; omega
  have h2 : T * ceil 473 T ≤ 7 * ceil 473 T := Nat.mul_le_mul_right _ ht7
  unfold rowV
  split <;> omega
theorem pk_rows17 {Q : List (List GF)} {N : Nat} {ps : List Nat} (D : List GF) (h : ∀ p, p ∈ ps → 1 ≤ p ∧ p ≤ N) : (ps.map fun p => rw_ (stR Q N) (p - 1)) = wrR17 Q ps D 0 := by
  refine List.ext_getElem (by rw [List.length_map, wrR17_len]) fun i h1 h2 => ?_
  rw [List.length_map] at h1
  have hb := h _ (List.getElem_mem h1)
  have e := wrR17_row (Q := Q) (D := D) (k := 0) h1
  unfold rw_ at e
  rw [List.getD_eq_getElem?_getD, List.getElem?_eq_getElem h2] at e
  simp only [Nat.not_lt_zero, if_false, Option.getD_some] at e
  rw [e, List.getElem_map, stR_row (by omega), List.getD_eq_getElem?_getD, List.getElem?_eq_getElem h1, Option.getD_some, show ps[i] - 1 + 1 = ps[i] by omega]
theorem row_out17 (p : Addr) (x : Int) (w : World) (h : x < 1 ∨ 255 < x) : Calls Tryz.prog 20 #[.pointer (some p), .int .i64 x] w fun e w' => e = .returned (.slice none 0 0) ∧ w = w' := by
  by_cases h1 : x < 1
  · exact row_low p x w h1
  · exact row_high p x w h1 (by omega)
set_option maxHeartbeats 20000000 in
theorem tells_core (mo t n c : Int) (a4 : Option Addr) (L4 c4 : Nat) (b : List GF) (a5 : Option Addr) (L5 c5 : Nat) (r : List GF) (a6 : Option Addr) (L6 c6 : Nat) (X : List GF) (a7 : Option Addr) (L7 c7 : Nat) (Wh : List GF) (wr : Int) (w : World) (hG : Gl w) (hb : Pa w a4 L4 c4 b) (hr : Pa w a5 L5 c5 r) (hx : Pa w a6 L6 c6 X) (hw : Pa w a7 L7 c7 Wh) (h4 : L4 ≤ 500) (h5 : L5 ≤ 500) (h6 : L6 ≤ 20) (h7 : L7 ≤ 600) :
    Calls Tryz.prog 4 #[.int .i64 mo, .int .i64 t, .int .i64 n, .int .i64 c, .slice a4 L4 c4, .slice a5 L5 c5, .slice a6 L6 c6, .slice a7 L7 c7, .int .i64 wr] w fun e w' => e = .returned (.bool true) ∧ Below w.heap.size w w' := by
  have HBB := Lib.hid hb
  have HRR := Lib.hid hr
  have HXX := Lib.hid hx
  have HWW := Lib.hid hw
  have HL := Lib.hid (show L4 ≤ 500 ∧ L5 ≤ 500 ∧ L6 ≤ 20 ∧ L7 ≤ 600 from ⟨h4, h5, h6, h7⟩)
  have HG := Lib.hid hG
  have q4 : ¬ (500 : Int) < (L4 : Int) := by omega
  have q5 : ¬ (500 : Int) < (L5 : Int) := by omega
  have q6 : ¬ (20 : Int) < (L6 : Int) := by omega
  have q7 : ¬ (600 : Int) < (L7 : Int) := by omega
  have hbd := hb.bd
  have hrd := hr.bd
  have hxd := hx.bd
  have hwd := hw.bd
  clear hb hr hx hw h4 h5 h6 h7 hG
  go_enter Tryz.func4, Tryz.ntmps4
  go_upto_region 3 with (go_at_call 7; go_loud (refine (lives17 w).mono ?_; rintro e w1 ⟨rfl, hb⟩; have HB1 := Lib.hid hb; clear hb))
  go_upto_region 4 with (go_at_call 8; go_loud (refine (of_any _ _ _ _ w1).mono ?_; rintro e w2 ⟨m, T, N, C, rfl, hs, hn, hc, hb⟩; have HS := Lib.hid hs; have HN := Lib.hid hn; have HC := Lib.hid hc; have HB2 := Lib.hid (bt HB1.out hb); clear hs hn hc hb))
  obtain ⟨w3, hw3⟩ : ∃ w3, w3 = w2.alloc (.cells #[.int .i64 m, .int .i64 (T : Nat), .int .i64 (N : Nat), .int .i64 (C : Nat)] 25) := ⟨_, rfl⟩
  have HX := Lib.hid (show Bx w3 w2.heap.size m T N C by rw [hw3]; exact Bx.new w2 m T N C)
  have HB3 := Lib.hid (show Below w.heap.size w w3 by rw [hw3]; exact HB2.out.alloc HB2.out.size _)
  try rw [← hw3]
  obtain ⟨G, hGG⟩ : ∃ G, G = w2.heap.size := ⟨_, rfl⟩
  rw [← hGG] at HX
  try rw [← hGG]
  clear hw3 hGG
  obtain ⟨L, hL⟩ : ∃ L, L = needV m T := ⟨_, rfl⟩
  have HLE := Lib.hid hL
  have HLV := Lib.hid (show L ≤ 4000 by rw [hL]; exact need_small HS.out HN.out)
  clear hL
  go_upto_region 5 with (go_at_call 11; go_loud (refine (new_any _).mono ?_; rintro e w4 ⟨bf, rfl, hbf, hfl, hb⟩; have HF4 := Lib.hid hfl; have HX4 := Lib.hid (HX.out.on hb); have HB4 := Lib.hid (bt HB3.out hb); clear hfl hb hbf))
  have y0 : ∀ W, Below w4.heap.size w4 W → W.cell? ⟨G, 0, none⟩ = some (.int .i64 m) := fun W hW => (HX4.out.on hW).c0
  have y1 : ∀ W, Below w4.heap.size w4 W → W.cell? ⟨G, 1, none⟩ = some (.int .i64 (T : Nat)) := fun W hW => (HX4.out.on hW).c1
  have y2 : ∀ W, Below w4.heap.size w4 W → W.cell? ⟨G, 2, none⟩ = some (.int .i64 (N : Nat)) := fun W hW => (HX4.out.on hW).c2
  have y3 : ∀ W, Below w4.heap.size w4 W → W.cell? ⟨G, 3, none⟩ = some (.int .i64 (C : Nat)) := fun W hW => (HX4.out.on hW).c3
  have HBK := Lib.hid (fun (W : World) (hW : Below w.heap.size w W) => blk17 a4 L4 c4 b W (HBB.out.on hW) HL.out.1)
  have HRN := Lib.hid (fun (W : World) (hW : Below w.heap.size w W) => rnd17 m T N C a5 L5 c5 r L W HS.out HLE.out HLV.out (HRR.out.on hW) HL.out.2.1)
  go_region_held (fun W => Below w4.heap.size w4 W) (first | assumption | exact (Below.refl _ _).drew | (refine Below.drew ?_; assumption))
    (first
      | (go_at_call 12; go_loud (refine (HBK.out _ (by first | exact HB4.out | exact HB4.out.drew)).mono ?_; rintro e w5 ⟨g5, rfl, hp5, hb5⟩; have hbw5 : Below w4.heap.size w4 w5 := bt (Below.refl _ _).drew hb5; have HB5 := Lib.hid (bt HB4.out hbw5); have HP5 := Lib.hid hp5; clear hp5 hb5))
      | (go_at_call 9; go_loud (refine (HRN.out _ HB5.out).mono ?_; rintro e w6 ⟨g6, rfl, hp6, hb6⟩; have hbw6 := bt hbw5 hb6; have HB6 := Lib.hid (bt HB4.out hbw6); have HRL := Lib.hid hp6.len; have HSP := Lib.hid (spr_any bf m T N C (some ⟨g5, 0, none⟩) 440 (blkG b) (some ⟨g6, 0, none⟩) L L (rndG r L) w6 HS.out (HG.out.on HB6.out HG.out.1) (HF4.out.below hbw6) (HP5.out.on hb6) hp6 HLE.out); have HBL := Lib.hid HP5.out.len; clear hp6 hb6))
      | (go_at_call 10; go_loud (refine HSP.out.mono ?_; rintro e w7 ⟨a8, c8, rfl, hm7, hb7⟩; have hbw7 := bt hbw6 hb7; have HM7 := Lib.hid hm7.mat; have HX7 := Lib.hid (HX4.out.on hbw7); have HF7 := Lib.hid (HF4.out.below hbw7); have HB7 := Lib.hid (bt HB4.out hbw7); clear hm7 hb7)))
  all_goals
  clear y0 y1 y2 y3 HSP HX4 HF4 HX HRN
  obtain ⟨Q, hQ⟩ : ∃ Q, Q = qM m T (blkG b) (rndG r L) := ⟨_, rfl⟩
  have HQP := Lib.hid (show PolyQ Q Q.length T by rw [hQ, qM_len17 HS.out]; exact qM_poly17 HS.out _ _)
  have HQT := Lib.hid (show Tel m T Q (blkG b) by rw [hQ]; exact tel_17 HS.out HBL.out HRL.out HLE.out)
  have HQL := Lib.hid (show Q.length = rowV m T by rw [hQ]; exact qM_len17 HS.out _ _)
  rw [← hQ] at HM7
  clear hQ
  obtain ⟨R, hR⟩ : ∃ R, R = Q.length := ⟨_, rfl⟩
  have HR := Lib.hid (show R = Q.length ∧ 2 ≤ R ∧ R ≤ 473 by rw [hR, HQL.out]; exact ⟨rfl, rowV_bd17 HS.out HN.out⟩)
  clear hR
  have x0 := HX7.out.c0; have x1 := HX7.out.c1; have x2 := HX7.out.c2; have x3 := HX7.out.c3
  have HPI := Lib.hid (picked_any a8 N c8 (stR Q N) a6 L6 c6 X T R w7 HM7.out (HXX.out.on HB7.out) (by have := HN.out; omega) (by have := HS.out.2; omega) (by have := HL.out; omega) (by have := HR.out; omega) (by have := HR.out; omega) (fun k hk => by rw [stR_row hk, evP_len, HR.out.1]))
  go_upto_region 9 with (go_at_call 16; go_loud (refine HPI.out.mono ?_; rintro e w8 ⟨S0, ps, aA, aR, cA, cR, vs, rfl, hS0, hoa, hor, hrv, hnd, hpb, hge, hle, hb⟩; have HSS := Lib.hid hS0; have HOA := Lib.hid hoa; have HOR := Lib.hid hor; have HND := Lib.hid hnd; have HPB := Lib.hid hpb; rw [pk_rows17 (patG Wh R) hpb] at hrv; have HRV := Lib.hid hrv; have HGE := Lib.hid (And.intro hge hle); have HB8 := Lib.hid hb; clear hS0 hoa hor hrv hnd hpb hge hle hb))
  obtain ⟨M, hM⟩ : ∃ M, M = ps.length := ⟨_, rfl⟩
  rw [← hM] at HOA HOR HGE
  rw [← hM]
  have HM := Lib.hid hM
  have HM1 := Lib.hid (show 1 ≤ M ∧ M ≤ 7 by have := HGE.out; have := HN.out; have := HS.out.2; omega)
  have hcA := own_bd17 HOA.out
  have hcR := own_bd17 HOR.out
  have HX8 := Lib.hid (HX7.out.on HB8.out)
  have HB8w := Lib.hid (bt HB7.out HB8.out)
  clear hM x0 x1 x2 x3 HPI
  have x1 := HX8.out.c1; have x2 := HX8.out.c2; have x3 := HX8.out.c3
  obtain ⟨d, hd⟩ : ∃ d, d = M - T := ⟨_, rfl⟩
  obtain ⟨e2, he2⟩ : ∃ e2, e2 = (d + 1) / 2 := ⟨_, rfl⟩
  obtain ⟨e3, he3⟩ : ∃ e3, e3 = e2 + 1 := ⟨_, rfl⟩
  have HD := Lib.hid (show T + d = M ∧ d ≤ 7 by have := HGE.out; have := HM1.out; omega)
  have HE2 := Lib.hid (show e2 = (d + 1) / 2 ∧ e3 = e2 + 1 ∧ e2 ≤ 4 by have := HD.out; omega)
  obtain ⟨k0, hk1, hk2, hk3⟩ := mod_bothC wr (e3 : Int) (by omega)
  have f0 : (M : Int) - (T : Int) = (d : Int) := by have := HD.out; omega
  have f1 : ∀ [Inhabited Unit], (IntKind.u64.wrap wr).tmod (e3 : Int) = (k0 : Int) := hk1
  have f2 : ∀ [Inhabited Unit], (IntKind.u64.wrap wr) % (e3 : Int) = (k0 : Int) := hk2
  have f3 : ((e3 : Int) == 0) = false := by rw [beq_eq_false_iff_ne]; omega
  have f4 : ¬ (e3 : Int) = 0 := by omega
  have f5 : ¬ e3 = 0 := by omega
  have f6 : ∀ [Inhabited Unit], IntKind.u64.wrap (e3 : Int) = (e3 : Int) := by intro _; have := HE2.out; rw [IntKind.wrap_u64]; omega
  have f7 : ∀ [Inhabited Unit], IntKind.i64.wrap (k0 : Int) = (k0 : Int) := by intro _; have := HE2.out; rw [IntKind.wrap_i64]; omega
  have f8 : ((d : Int) + 1).tdiv 2 = (e2 : Int) := by rw [Int.tdiv_eq_ediv_of_nonneg (by omega)]; omega
  have f9 : (e2 : Int) + 1 = (e3 : Int) := by omega
  have g0 : ∀ [Inhabited Unit], wrap64 (d : Int) = (d : Int) := by intro _; have := HD.out; unfold wrap64; omega
  have g1 : ∀ [Inhabited Unit], wrap64 ((d : Int) + 1) = (d : Int) + 1 := by intro _; have := HD.out; unfold wrap64; omega
  have g2 : ∀ [Inhabited Unit], wrap64 (e2 : Int) = (e2 : Int) := by intro _; have := HE2.out; unfold wrap64; omega
  have g3 : ∀ [Inhabited Unit], wrap64 (e3 : Int) = (e3 : Int) := by intro _; have := HE2.out; unfold wrap64; omega
  obtain ⟨k, hk⟩ : ∃ k, k = min k0 C := ⟨_, rfl⟩
  have kmin : ∀ (ts : Array TypeId) (t : TypeId) (W : World), (Builtin.min_ ts t #[.int .i64 (k0 : Nat), .int .i64 (C : Nat)]).run Tryz.prog W = .ok (.int .i64 (k : Nat)) W := fun ts t W => by
    rw [Lib.run_min_ints, hk]
    congr 2
    omega
  have HK := Lib.hid (show k ≤ C ∧ k ≤ e2 ∧ 2 * k ≤ d + 1 ∧ k ≤ M ∧ k ≤ 3 by have := HE2.out; have := HD.out; have := HC.out; have := HGE.out; have := HS.out.2; omega)
  clear hd he2 he3 hk1 hk2 hk3 hk
  go_upto_region 12 with fail
  clear f0 f1 f2 f3 f4 f5 f6 f7 f8 f9 g0 g1 g2 g3 kmin
  obtain ⟨gR, rfl⟩ := own_some17 HOR.out (by have := HM1.out; omega)
  obtain ⟨gA, rfl⟩ := own_some17 HOA.out (by have := HM1.out; omega)
  obtain ⟨i5, hy, hy0, hy1, hy2⟩ := info_parts info5
  have HI5 := Lib.hid (And.intro hy (And.intro hy0 (And.intro hy1 hy2)))
  have HPL := Lib.hid (show (patG Wh R).length = Q.length by rw [patG_len]; exact HR.out.1)
  have qk7 : (k : Int) ≤ 3 := by have := HK.out; omega
  have qM7 : (M : Int) ≤ 7 := by have := HM1.out; omega
  have qL7 : (L7 : Int) ≤ 600 := by have := HL.out; omega
  have qR7 : (R : Int) ≤ 473 := by have := HR.out; omega
  have HS8 := Lib.hid (show S0 ≤ w8.heap.size by have := (HOR.out.lt gR rfl); omega)
  clear hy hy0 hy1 hy2 x1 x2 x3
  go_upto_region 12 with fail
  go_wp2_with fail
  go_loopw [106] (fun s V => ∃ (i : Nat) (vs : List Value), i ≤ k ∧ s = .int .i64 (i : Nat) ∧ Hid (V.ownsRow S0 22 1 (.slice (some ⟨gR, 0, none⟩) M cR) M vs) ∧ Hid (RV V (NewU V S0) vs (wrR17 Q ps (patG Wh R) i)) ∧ Hid (V.ownsRow S0 3 1 (.slice (some ⟨gA, 0, none⟩) M cA) M ((zl ps).map (Value.int .i64))) ∧ Hid (Below w7.heap.size w7 V) ∧ Hid (w8.heap.size ≤ V.heap.size)) (fun s _ => k - (intOf s).toNat)
  case atStart => exact ⟨0, vs, Nat.zero_le _, rfl, HOR, HRV, HOA, HB8, Lib.hid (Nat.le_refl _)⟩
  case round =>
    obtain ⟨i, vs, hi, rfl, HOR, HRV, HOA, HBV, HSZ⟩ := hrel
    rename World => V
    by_cases hlt : i < k
    ·
      have hiM : i < M := by have := HK.out; omega
      have HIM := Lib.hid hiM
      have HLT := Lib.hid hlt
      have HV7 := Lib.hid (show w7.heap.size ≤ V.heap.size from HBV.out.size)
      have hvs : vs.length = M := by have := HOR.out.1; simpa using this
      obtain ⟨ai, ci, hvi, hpi⟩ := HRV.out.pa (i := i) (by rw [wrR17_len, ← HM.out]; exact hiM)
      rw [wrR17_row (by rw [← HM.out]; exact hiM), if_neg (Nat.lt_irrefl i)] at hvi hpi
      obtain ⟨E, hE⟩ : ∃ E, E = evP Q (pl (ps.getD i 0)) := ⟨_, rfl⟩
      rw [← hE] at hvi hpi
      have hEL : E.length = R := by rw [hE, evP_len, HR.out.1]
      have HEE := Lib.hid (And.intro hE hEL)
      rw [hEL] at hvi hpi
      obtain ⟨bi, oi, rfl⟩ := hpi.some_ (by have := HR.out; omega)
      have hci := hpi.bd
      have HPI := Lib.hid (hpi.on ((Below.refl V.heap.size V).alloc (Nat.le_refl _) (.cells #[] 5)))
      have HRA := Lib.hid (HOR.out.alloc (.cells #[] 5))
      have hc1 := HRA.out.cellAt i (by omega)
      rw [hvi] at hc1
      have qi : (i : Int) < (k : Int) := by omega
      have qiM : (i : Int) < (M : Int) := by omega
      have qi0 : (0 : Int) ≤ (i : Int) := by omega
      have HVI := Lib.hid hvs
      clear hE hEL hpi hvi hvs hlt hi
      go_upto_region 16 with ((with_reducible show wpList _ _ _ (⟨some 116, _, _, _, _, _⟩ :: _) _ _); go_loud (refine wpList_append_e8 rfl (.tmp 111) (.tmp 115) 22 rfl i5 Tryz.underlying22 HI5.out.1 HI5.out.2.1 HI5.out.2.2.1 HI5.out.2.2.2 _ _ rfl (own_emptyH V _ _ rfl) _ _ _ _ E rfl HPI.out (by have := HR.out; omega) (by have := HR.out; omega) (by simp) ?_; intro g9 c9 W9 hown9 hg9; have HTS := Lib.hid (TS.new (i := i) HV7.out HBV.out HSS.out HOR.out HOA.out hg9 hown9); have hE9 : (V.alloc (.cells #[] 5)).ownsRow V.heap.size 5 1 (.slice (some ⟨V.heap.size, 0, none⟩) 0 0) 0 [] := own_emptyH V _ _ rfl; have HR9 := Lib.hid (HRA.out.kept hg9 (own_neC HRA.out hE9 (by decide))); have hf9 := HR9.out.frozenAt i; have hc9 := HR9.out.cellAt i (by have := HIM.out; omega); rw [List.getElem?_eq_getElem (by have := HVI.out; have := HIM.out; omega)] at hc9; have hR9 := own_bd17 hown9; clear hown9 hg9 hE9))
      obtain ⟨U0, hU0⟩ : ∃ U0, U0 = W9.setCell ⟨gR, i, none⟩ (.slice (some ⟨g9, 0, none⟩) R c9) := ⟨_, rfl⟩
      rw [← hU0] at HTS
      rw [← hU0]
      clear hU0 hc1 hf9 hc9 HRA HPI HR9
      have HTS := Lib.hid (show TS w7 V U0 S0 gR gA g9 M R cR cA c9 i vs ((zl ps).map (Value.int .i64)) (mixR E Wh 0) by rw [mixR_zero]; exact HTS.out)
      go_wp2_with fail
      go_loopw [120] (fun s U => ∃ n : Nat, n ≤ L7 ∧ s = .int .i64 (n : Nat) ∧ Hid (TS w7 V U S0 gR gA g9 M R cR cA c9 i vs ((zl ps).map (Value.int .i64)) (mixR E Wh n))) (fun s _ => L7 - (intOf s).toNat)
      case atStart => exact ⟨0, Nat.zero_le _, rfl, HTS⟩
      case round =>
        obtain ⟨n, hn, rfl, HT⟩ := hrel
        rename World => U
        have hrow := HT.out.row HIM.out
        by_cases hln : n < L7
        ·
          obtain ⟨bw, ow, rfl, hbw, hcw⟩ := (HWW.out.on (bt HB7.out HT.out.2.2.2.2.2)).at_ hln
          have qn : (n : Int) < (L7 : Int) := by omega
          have qn0 : (0 : Int) ≤ (n : Int) := by omega
          have HLN := Lib.hid hln
          clear hln hn hbw
          by_cases hnR : n < R
          · have qnR : (n : Int) < (R : Int) := by omega
            have hby := HT.out.byte hnR
            have hfz := HT.out.fz n
            have HT2 := Lib.hid (HT.out.put HV7.out n (co (mixR E Wh n) n + co Wh n))
            rw [mixR_next (by rw [HEE.out.2]; exact hnR), ← bits_xor_G] at HT2
            clear hnR
            go_wp2_with fail
            go_roundw
            case rel => exact ⟨n + 1, by have := HLN.out; omega, by go_num, HT2⟩
            case measure => simp [intOf]; have := HLN.out; omega
          · have qnR : ¬ (n : Int) < (R : Int) := by omega
            have HT2 := Lib.hid (show TS w7 V U S0 gR gA g9 M R cR cA c9 i vs ((zl ps).map (Value.int .i64)) (mixR E Wh (n + 1)) by rw [mixR_skip (by rw [HEE.out.2]; omega)]; exact HT.out)
            clear hnR
            go_wp2_with fail
            go_roundw
            case rel => exact ⟨n + 1, by have := HLN.out; omega, by go_num, HT2⟩
            case measure => simp [intOf]; have := HLN.out; omega
        ·
          obtain rfl : L7 = n := by omega
          clear hln hn
          have hby := HT.out.byte (k := 0) (by have := HR.out; omega)
          have hfz := HT.out.fz 0
          have qR0 : (0 : Int) < (R : Int) := by have := HR.out; omega
          have HT1 := Lib.hid (HT.out.put HV7.out 0 (co (mixR E Wh L7) 0 + toG 1))
          have kx : bits .xor .u8 (toI (co (mixR E Wh L7) 0)) 1 = toI (co (mixR E Wh L7) 0 + toG 1) := by
            have h1 : toI (toG 1) = 1 := toI_toG (by omega)
            rw [← bits_xor_G, h1]
          have HKX := Lib.hid kx
          go_upto_region 23 with fail
          have HT1k := Lib.hid (show TS w7 V (U.setCell ⟨g9, 0, none⟩ (.int .u8 (bits .xor .u8 (toI (co (mixR E Wh L7) 0)) 1))) S0 gR gA g9 M R cR cA c9 i vs ((zl ps).map (Value.int .i64)) ((mixR E Wh L7).set 0 (co (mixR E Wh L7) 0 + toG 1)) by rw [HKX.out]; exact HT1.out)
          obtain ⟨U1, hU1⟩ : ∃ U1, U1 = U.setCell ⟨g9, 0, none⟩ (.int .u8 (toI (co (mixR E Wh L7) 0 + toG 1))) := ⟨_, rfl⟩
          rw [← hU1] at HT1
          rw [← hU1]
          clear hU1 hby hfz hrow kx HT1k
          have HLE := Lib.hid (show (mixR E Wh L7).length = R by rw [mixR_len]; exact HEE.out.2)
          by_cases hL0 : L7 = 0
          · have qL0 : ¬ (0 : Int) < (L7 : Int) := by omega
            have HW0 := Lib.hid (show co Wh 0 = 0 from co_ge (by rw [HWW.out.len]; omega))
            have hend := mixR_end (E := E) (W := Wh) (L := L7) HWW.out.len (by rw [HEE.out.2]; have := HR.out; omega)
            rw [HW0.out, GF.add_zero, HEE.out.2] at hend
            rw [hend] at HT1
            have HRF := Lib.hid (HT1.out.fin HRV.out (by rw [wrR17_len, ← HM.out]; exact HIM.out) (by have := HS8.out; have := HSZ.out; omega))
            have hset := wrR17_set (Q := Q) (ps := ps) (D := patG Wh R) (k := i) (by rw [← HM.out]; exact HIM.out)
            rw [← HEE.out.1] at hset
            rw [hset] at HRF
            clear hset
            clear hL0 hend
            go_wp2_with fail
            go_roundw
            case rel => exact ⟨i + 1, _, by have := HLT.out; omega, by go_num, Lib.hid HT1.out.2.1, HRF, Lib.hid HT1.out.2.2.1, Lib.hid HT1.out.2.2.2.2.2, Lib.hid (by have := HT1.out.2.2.2.1; have := HSZ.out; omega)⟩
            case measure => simp [intOf]; have := HLT.out; omega
          · have qL0 : (0 : Int) < (L7 : Int) := by omega
            obtain ⟨bw, ow, rfl, hbw, hcw⟩ := (HWW.out.on (bt HB7.out HT1.out.2.2.2.2.2)).at_ (k := 0) (by omega)
            have hrow := HT1.out.row HIM.out
            have hby := HT1.out.byte (k := 0) (by have := HR.out; omega)
            have hfz := HT1.out.fz 0
            have eby : co ((mixR E Wh L7).set 0 (co (mixR E Wh L7) 0 + toG 1)) 0 = co (mixR E Wh L7) 0 + toG 1 := by rw [co_set (by rw [HLE.out]; have := HR.out; omega), if_pos rfl]
            rw [eby] at hby
            have HT2 := Lib.hid (HT1.out.put HV7.out 0 (co (mixR E Wh L7) 0 + toG 1 + co Wh 0))
            have hend := mixR_end (E := E) (W := Wh) (L := L7) HWW.out.len (by rw [HEE.out.2]; have := HR.out; omega)
            rw [List.set_set, hend, HEE.out.2, ← bits_xor_G (co (mixR E Wh L7) 0 + toG 1) (co Wh 0)] at HT2
            have HT3 := Lib.hid (HT2.out.on (Below.refl _ _).drew)
            have HRF := Lib.hid (HT3.out.fin HRV.out (by rw [wrR17_len, ← HM.out]; exact HIM.out) (by have := HS8.out; have := HSZ.out; omega))
            have hset := wrR17_set (Q := Q) (ps := ps) (D := patG Wh R) (k := i) (by rw [← HM.out]; exact HIM.out)
            rw [← HEE.out.1] at hset
            rw [hset] at HRF
            clear hset
            clear hL0 hend hbw eby
            rw [Nat.add_zero] at hcw
            have qR1 : 0 < R := by have := HR.out; omega
            have qL1 : 0 < L7 := by omega
            go_upto_region 24 with fail
            go_still_tail 10, (by kernel_rfl)
            go_wp2
            go_roundw
            case rel => exact ⟨i + 1, _, by have := HLT.out; omega, by go_num, Lib.hid HT3.out.2.1, HRF, Lib.hid HT3.out.2.2.1, Lib.hid HT3.out.2.2.2.2.2, Lib.hid (by have := HT3.out.2.2.2.1; have := HSZ.out; omega)⟩
            case measure => simp [intOf]; have := HLT.out; omega
    ·
      obtain rfl : k = i := by omega
      have hiz : ∀ z, z ∈ zl ps → 0 ≤ z ∧ z < 256 := fun z hz => by
        obtain ⟨x, hx, rfl⟩ := List.mem_map.1 hz
        have := HPB.out x hx; have := HN.out; omega
      have HIA := Lib.hid (ia_own17 HOA.out hiz)
      have HMA := Lib.hid (Mat.ownS17 HOR.out HRV.out)
      have HXV := Lib.hid (HX7.out.on HBV.out)
      have HFV := Lib.hid (HF7.out.below HBV.out)
      have HBw := Lib.hid (bt HB7.out HBV.out)
      have hpg : ∀ i, i < ps.length → ps.getD i 0 ∈ ps := fun i h => by rw [List.getD_eq_getElem?_getD, List.getElem?_eq_getElem h]; exact List.getElem_mem h
      have HPG := Lib.hid hpg
      have HIN := Lib.hid (show ∀ i, i < M → 1 ≤ (zl ps).getD i 0 ∧ (zl ps).getD i 0 ≤ (N : Int) from fun i h => by
        rw [zl_get]
        have := HPB.out _ (hpg i (by rw [← HM.out]; exact h))
        omega)
      have HWR := Lib.hid (show ∀ i, i < M → (rw_ (wrR17 Q ps (patG Wh R) k) i).length = R from fun i h => by rw [wrR17_rlen (by rw [← HM.out]; exact h), HR.out.1])
      have HAP := Lib.hid (gX_apart HND.out (fun p hp => by have := HPB.out p hp; have := HN.out; omega))
      have HD0 := Lib.hid (show co (patG Wh R) 0 ≠ 0 by rw [patG_co (by have := HR.out; omega), if_pos rfl]; exact one_ne17)
      have x0 := HXV.out.c0; have x1 := HXV.out.c1; have x2 := HXV.out.c2; have x3 := HXV.out.c3
      obtain ⟨k2, hk2⟩ : ∃ k2, k2 = 2 * k := ⟨_, rfl⟩
      have HK2 := Lib.hid hk2
      have f0 : (M : Int) - (T : Int) = (d : Int) := by have := HD.out; omega
      have f1 : (2 : Int) * (k : Int) = (k2 : Int) := by omega
      have g0 : ∀ [Inhabited Unit], wrap64 (d : Int) = (d : Int) := by intro _; have := HD.out; unfold wrap64; omega
      have g1 : ∀ [Inhabited Unit], wrap64 (k2 : Int) = (k2 : Int) := by intro _; have := HK.out; unfold wrap64; omega
      clear hiz hpg hk2 hlt hi
      go_upto_region 26 with fail
      by_cases h2 : k2 ≤ d
      ·
        have q2 : ¬ (d : Int) < (k2 : Int) := by omega
        have H2 := Lib.hid (show 2 * k + T ≤ ps.length by rw [← HM.out]; have := HK2.out; have := HD.out; omega)
        obtain ⟨ws, hws⟩ : ∃ ws, ws = (wrI (gZ (zl ps)) (wrR17 Q ps (patG Wh R) k) Q (rowV m T) M).map fun i => (zl ps).getD i 0 := ⟨_, rfl⟩
        have hws2 : ws = (List.range k).map fun i => (zl ps).getD i 0 := by
          rw [hws, ← HQL.out, HM.out, wrI17 HPL.out (by rw [← HM.out]; exact HK.out.2.2.2.1) (by have := HR.out; omega) HD0.out]
        have HWL := Lib.hid (show ws.length = k by rw [hws2, List.length_map, List.length_range])
        have HWG := Lib.hid (show ∀ i, i < k → ws.getD i 0 = (zl ps).getD i 0 from fun i h => by
          rw [hws2, List.getD_eq_getElem?_getD, List.getElem?_eq_getElem (by rw [List.length_map, List.length_range]; exact h), Option.getD_some, List.getElem_map, List.getElem_range])
        have HWB := Lib.hid (show ∀ z, z ∈ ws → 0 ≤ z ∧ z < 256 from fun z hz => by
          rw [hws2] at hz
          obtain ⟨i, hi, rfl⟩ := List.mem_map.1 hz
          have h1 := List.mem_range.1 hi
          have := HIN.out i (by have := HK.out; omega)
          have := HN.out; omega)
        have HGO := Lib.hid (gat_ok bf m T N C _ M cA (zl ps) _ cR _ V HFV.out HS.out HIA.out HMA.out (by have := HM1.out; omega) (fun i h => by have := HWR.out i h; have := HR.out; omega) HIN.out (fun i h => by rw [HWR.out i h, HR.out.1, HQL.out]) (by have := HGE.out; omega) (by have := HGE.out; omega) Q (by have := HM1.out; omega) HAP.out HQL.out (fun j hj => by
          rw [HM.out]
          exact right17 HQP.out HPL.out HK.out.1 H2.out j (by rw [HQL.out]; exact hj)))
        rw [← hws] at HGO
        clear h2 hws hws2
        as_aux_lemma =>
        go_upto_region 27 with (go_at_call 17; go_loud (refine HGO.out.mono ?_; rintro e w9 ⟨p9, rfl, hst, hb⟩; have HST := Lib.hid hst; have HX9 := Lib.hid (HXV.out.on hb); have HV9 := Lib.hid hb; have HB9 := Lib.hid (bt HBw.out hb); have HBL9 := Lib.hid (blk_any p9 m T Q (blkG b) ws w9 hst (HG.out.on HB9.out HG.out.1) HS.out.2.1 (by have := HS.out.2; omega) HQT.out); clear hb hst))
        clear x0 x1 x2 x3 HGO
        have x0 := HX9.out.c0; have x1 := HX9.out.c1; have x2 := HX9.out.c2; have x3 := HX9.out.c3
        go_upto_region 33 with (go_at_call 18; go_loud (refine HBL9.out.mono ?_; rintro e wA ⟨aB, cB, rfl, hp, hb⟩; have HPB2 := Lib.hid hp; have HVA := Lib.hid (bt HV9.out hb); have HBA := Lib.hid (bt HB9.out hb); have HXA := Lib.hid (HX9.out.on hb); have HSTA := Lib.hid (HST.out.on hb); clear hb hp))
        clear x0 x1 x2 x3 HBL9
        have x0 := HXA.out.c0; have x1 := HXA.out.c1; have x2 := HXA.out.c2; have x3 := HXA.out.c3
        go_upto_region 35 with fail
        have hvA := HPB2.out.str_on rfl
        have hbB := HPB2.out.bd
        have HSW := Lib.hid (fun (W : World) (hW : Below wA.heap.size wA W) => by
          have h := swr_any p9 m T Q ws W (HSTA.out.on hW) (by rw [HWL.out]; have := HK.out; omega) HWB.out
          rw [HWL.out] at h
          exact h)
        clear f0 f1 g0 g1
        go_region_held (fun W => Below wA.heap.size wA W) (first | assumption | exact (Below.refl _ _).drew | (refine Below.drew ?_; assumption))
          (first
            | (go_at_call 12; go_loud (refine (HBK.out _ (by first | exact HBA.out | exact HBA.out.drew)).mono ?_; rintro e wB ⟨gB, rfl, hpB, hbB⟩; have hbwB : Below wA.heap.size wA wB := (by first | exact (Below.refl _ _).drew.trans hbB | exact bt (Below.refl _ _) hbB); have hvB := hpB.str_on rfl; have hrfB := Below.refl wB.heap.size wB; clear hpB hbB))
            | (go_at_call 19; go_loud (refine (HSW.out _ hbwB).mono ?_; rintro e wC ⟨aC, cC, rfl, hiC, hbC⟩; have hbwC := bt hbwB hbC; have hbdC := hiC.bd; clear hiC)))
        all_goals
        clear hvA hbB
        have HBC := Lib.hid (bt HBA.out hbwC)
        have HVC := Lib.hid (bt HVA.out hbwC)
        have HSTC := Lib.hid (HSTA.out.on hbwC)
        have HSWC := Lib.hid (HSW.out wC hbwC)
        clear hbwC x0 x1 x2 x3 HSW HSTA HVA HBA HXA
        as_aux_lemma =>
        go_wp2_with (go_at_call 19; go_loud (refine HSWC.out.mono ?_; rintro e wD ⟨aD, cD, rfl, hiD, hbD⟩; have HID := Lib.hid hiD; have hdd := hiD.bd; have HBD := Lib.hid (bt HBC.out hbD); have HVD := Lib.hid (bt HVC.out hbD); have HSTD := Lib.hid (HSTC.out.on hbD); clear hiD hbD))
        go_loopw [223] (fun s U => ∃ j : Nat, j ≤ k ∧ s = .int .i64 (j : Nat) ∧ Hid (Below wD.heap.size wD U)) (fun s _ => k - (intOf s).toNat)
        case atStart => exact ⟨0, Nat.zero_le _, rfl, Lib.hid (Below.refl _ _)⟩
        case round =>
          obtain ⟨j, hj, rfl, HBU⟩ := hrel
          rename World => U
          by_cases hjk : j < k
          ·
            obtain ⟨b1, o1, rfl, -, hc1⟩ := (HID.out.on HBU.out).at_ hjk
            obtain ⟨b2, o2, e2, -, hc2⟩ := (HIA.out.on (bt HVD.out HBU.out)).at_ (i := j) (by have := HK.out; omega)
            cases e2
            rw [HWG.out j hjk] at hc1
            rw [Nat.zero_add] at hc2
            obtain ⟨z, hz⟩ : ∃ z, z = (zl ps).getD j 0 := ⟨_, rfl⟩
            rw [← hz] at hc1 hc2
            have qz : (z != z) = false := by simp
            have qj : (j : Int) < (k : Int) := by omega
            have qjM : (j : Int) < (M : Int) := by have := HK.out; omega
            have qj0 : (0 : Int) ≤ (j : Int) := by omega
            have HJ := Lib.hid hjk
            clear hz hjk hj
            go_wp2_with fail
            go_roundw
            case rel => exact ⟨j + 1, by have := HJ.out; omega, by go_num, HBU⟩
            case measure => simp [intOf]; have := HJ.out; omega
          · obtain rfl : k = j := by omega
            clear hjk hj
            have qN7 : (N : Int) ≤ 7 := by have := HN.out; omega
            go_wp2_with fail
            go_loopw [36] (fun s U2 => ∃ j : Nat, j ≤ N ∧ s = .int .i64 ((j : Int) + 1) ∧ Hid (Below wD.heap.size wD U2)) (fun s _ => N + 1 - (intOf s).toNat)
            case atStart => exact ⟨0, Nat.zero_le _, rfl, HBU⟩
            case round =>
              obtain ⟨j, hj, rfl, HB2⟩ := hrel
              rename World => U2
              have HXU := HXV.out.on (bt HVD.out HB2.out)
              have x2 := HXU.c2
              clear HXU
              by_cases hjn : j < N
              ·
                have HROW := Lib.hid (fun (W : World) (hW : Below U2.heap.size U2 W) => by
                  have h := row_any p9 m T Q ws (j + 1) W (HSTD.out.on (bt HB2.out hW)) (by have := HR.out; omega) (by omega) (by have := HN.out; omega)
                  rw [show (((j + 1 : Nat)) : Int) = (j : Int) + 1 by omega, ← HR.out.1] at h
                  exact h)
                obtain ⟨b3, o3, a3, c3', e3', hb3, hc3, hp3⟩ := (HM7.out.on (bt HBV.out (bt HVD.out HB2.out))).row (i := j) hjn
                subst e3'
                rw [stR_row hjn] at hp3 hc3
                rw [evP_len, ← HR.out.1] at hp3 hc3
                have hcl : ∀ W, Below U2.heap.size U2 W → W.cell? ⟨b3, o3 + j, none⟩ = some (.slice a3 R c3') := fun W hW => (hW.cell (p := ⟨b3, o3 + j, none⟩) hb3).trans hc3
                have hv3 := hp3.str_on rfl
                have hd3 := hp3.bd
                have qj : (j : Int) < (N : Int) := by omega
                have qj1 : (j : Int) + 1 ≤ (N : Int) := by omega
                have qj0 : (0 : Int) ≤ (j : Int) := by omega
                have kj : (j : Int) + 1 - 1 = (j : Int) := by omega
                have kw : ∀ [Inhabited Unit], wrap64 (j : Int) = (j : Int) := by intro _; unfold wrap64; omega
                have kw1 : ∀ [Inhabited Unit], wrap64 ((j : Int) + 1 - 1) = (j : Int) := by intro _; unfold wrap64; omega
                have kw2 : ∀ [Inhabited Unit], IntKind.i64.wrap (j : Int) = (j : Int) := by intro _; rw [IntKind.wrap_i64]; omega
                have HJ := Lib.hid hjn
                have hrf := Below.refl U2.heap.size U2
                clear hc3 hp3 hb3 hjn hj
                go_upto_region 46 with fail
                go_region_held (fun W => Below U2.heap.size U2 W) (first | assumption | exact (Below.refl _ _).drew | (refine Below.drew ?_; assumption))
                  (first
                    | (go_at_call 20; go_loud (refine (HROW.out _ (by first | exact (Below.refl _ _).drew | exact Below.refl _ _)).mono ?_; rintro e U3 ⟨a4', c4', rfl, hp4, -, hb4⟩; have hbU3 : Below U2.heap.size U2 U3 := (by first | exact (Below.refl _ _).drew.trans hb4 | exact bt (Below.refl _ _) hb4); have hv4 := hp4.str_on rfl; have hrf4 := Below.refl U3.heap.size U3; clear hp4)))
                all_goals
                  go_wp2
                  go_roundw
                  case rel => exact ⟨j + 1, by have := HJ.out; omega, by go_num, Lib.hid (bt HB2.out hbU3)⟩
                  case measure => simp [intOf]; have := HJ.out; omega
              · obtain rfl : N = j := by omega
                have q1 : ¬ (N : Int) + 1 ≤ (N : Int) := by omega
                clear hjn hj
                go_wp2_with (go_at_call 20; go_loud (refine (row_out17 p9 _ _ (by omega)).mono ?_; rintro e w' ⟨rfl, rfl⟩))
                go_ret
                exact ⟨rfl, bt HBD.out HB2.out⟩
      ·
        have q2 : (d : Int) < (k2 : Int) := by omega
        have HGT := Lib.hid (gat_no bf m T N C _ M cA (zl ps) _ cR _ V HFV.out HS.out HIA.out HMA.out (by have := HM1.out; omega) (fun i h => by have := HWR.out i h; have := HR.out; omega) HIN.out (fun i h => by rw [HWR.out i h, HR.out.1, HQL.out]) (by have := HGE.out; omega) (by have := HGE.out; omega) (by have := HM1.out; omega) HAP.out 0 (by rw [← HQL.out]; have := HR.out; omega) (fun p => by
          rw [HM.out]
          exact not17 HQP.out HPL.out (by rw [← HM.out]; have := HK.out; omega) (by have := HR.out; omega) HD0.out HND.out (fun p hp => by have := HPB.out p hp; have := HN.out; omega) (by rw [← HM.out]; have := HK2.out; have := HK.out; have := HD.out; omega) p))
        clear h2
        as_aux_lemma =>
        go_wp2_with (go_at_call 17; go_loud (refine HGT.out.mono ?_; rintro e w9 ⟨rfl, hb⟩; have HB9 := Lib.hid (bt HBw.out hb); have HX9 := HXV.out.on hb; have x0 := HX9.c0; have x1 := HX9.c1; have x2 := HX9.c2; have x3 := HX9.c3; clear hb))
        go_ret
        exact ⟨rfl, HB9.out⟩
end Go.Proofs.YtappfdbmhgifcaaGreatDoor
/- StripeTells: its walk in the frame's form. -/
namespace Go.Proofs.YtappfdbmhgifcaaGreatDoor
open Go.ChangeShapes Go.WideShapes Go.ChangeAt Go.RowKit Go.Shelf GF
set_option linter.unusedVariables false
set_option linter.unusedSimpArgs false
set_option maxRecDepth 100000

theorem tells_long (mo t n c : Int) (a4 : Option Addr) (L4 c4 : Nat) (a5 : Option Addr) (L5 c5 : Nat) (a6 : Option Addr) (L6 c6 : Nat) (a7 : Option Addr) (L7 c7 : Nat) (wr : Int) (w : World) (h : 500 < L4 ∨ 500 < L5 ∨ 20 < L6 ∨ 600 < L7) :
    Calls Tryz.prog 4 #[.int .i64 mo, .int .i64 t, .int .i64 n, .int .i64 c, .slice a4 L4 c4, .slice a5 L5 c5, .slice a6 L6 c6, .slice a7 L7 c7, .int .i64 wr] w fun e w' => e = .returned (.bool true) ∧ Below w.heap.size w w' := by
  by_cases h0 : 500 < L4
  · have q0 : (500 : Int) < (L4 : Int) := by omega
    clear h h0
    go_enter Tryz.func4, Tryz.ntmps4
    go_upto_region 2 with (go_at_call 7; go_loud (refine (lives17 w).mono ?_; rintro e w1 ⟨rfl, hb⟩; have HB1 := Lib.hid hb; clear hb))
    go_wp2_with (go_at_call 7; go_loud (refine (lives17 w1).mono ?_; rintro e w2 ⟨rfl, hb⟩; have HB2 := Lib.hid (bt HB1.out hb); clear hb))
    go_ret
    exact ⟨rfl, HB2.out⟩
  ·
    by_cases h1 : 500 < L5
    · have q1 : (500 : Int) < (L5 : Int) := by omega
      have q0 : ¬ (500 : Int) < (L4 : Int) := by omega
      clear h h0 h1
      go_enter Tryz.func4, Tryz.ntmps4
      go_upto_region 2 with (go_at_call 7; go_loud (refine (lives17 w).mono ?_; rintro e w1 ⟨rfl, hb⟩; have HB1 := Lib.hid hb; clear hb))
      go_wp2_with (go_at_call 7; go_loud (refine (lives17 w1).mono ?_; rintro e w2 ⟨rfl, hb⟩; have HB2 := Lib.hid (bt HB1.out hb); clear hb))
      go_ret
      exact ⟨rfl, HB2.out⟩
    ·
      by_cases h2 : 20 < L6
      · have q2 : (20 : Int) < (L6 : Int) := by omega
        have q0 : ¬ (500 : Int) < (L4 : Int) := by omega
        have q1 : ¬ (500 : Int) < (L5 : Int) := by omega
        clear h h0 h1 h2
        go_enter Tryz.func4, Tryz.ntmps4
        go_upto_region 2 with (go_at_call 7; go_loud (refine (lives17 w).mono ?_; rintro e w1 ⟨rfl, hb⟩; have HB1 := Lib.hid hb; clear hb))
        go_wp2_with (go_at_call 7; go_loud (refine (lives17 w1).mono ?_; rintro e w2 ⟨rfl, hb⟩; have HB2 := Lib.hid (bt HB1.out hb); clear hb))
        go_ret
        exact ⟨rfl, HB2.out⟩
      ·
        have q3 : (600 : Int) < (L7 : Int) := by omega
        have q0 : ¬ (500 : Int) < (L4 : Int) := by omega
        have q1 : ¬ (500 : Int) < (L5 : Int) := by omega
        have q2 : ¬ (20 : Int) < (L6 : Int) := by omega
        clear h h0 h1 h2
        go_enter Tryz.func4, Tryz.ntmps4
        go_upto_region 2 with (go_at_call 7; go_loud (refine (lives17 w).mono ?_; rintro e w1 ⟨rfl, hb⟩; have HB1 := Lib.hid hb; clear hb))
        go_wp2_with (go_at_call 7; go_loud (refine (lives17 w1).mono ?_; rintro e w2 ⟨rfl, hb⟩; have HB2 := Lib.hid (bt HB1.out hb); clear hb))
        go_ret
        exact ⟨rfl, HB2.out⟩
theorem stripeTells_walk (mo t n c : Int) (a4 : Option Addr) (L4 c4 : Nat) (a5 : Option Addr) (L5 c5 : Nat) (a6 : Option Addr) (L6 c6 : Nat) (a7 : Option Addr) (L7 c7 : Nat) (wr : Int) (w : World) (w0 : (Lit.int .i64 mo).wf = true) (w1 : (Lit.int .i64 t).wf = true) (w2 : (Lit.int .i64 n).wf = true) (w3 : (Lit.int .i64 c).wf = true) (w4 : ∃ l, Arg8c w a4 L4 c4 l) (w5 : ∃ l, Arg8c w a5 L5 c5 l) (w6 : ∃ l, Arg8c w a6 L6 c6 l) (w7 : ∃ l, Arg8c w a7 L7 c7 l) (w8 : (Lit.int .i64 wr).wf = true) (hG : Gl w) :
    Calls Tryz.prog 4 #[.int .i64 mo, .int .i64 t, .int .i64 n, .int .i64 c, .slice a4 L4 c4, .slice a5 L5 c5, .slice a6 L6 c6, .slice a7 L7 c7, .int .i64 wr] w fun e w' => e = .returned (.bool true) ∧ Below w.heap.size w w' := by
  obtain ⟨l4, h4⟩ := w4
  obtain ⟨l5, h5⟩ := w5
  obtain ⟨l6, h6⟩ := w6
  obtain ⟨l7, h7⟩ := w7
  by_cases h : 500 < L4 ∨ 500 < L5 ∨ 20 < L6 ∨ 600 < L7
  · exact tells_long mo t n c a4 L4 c4 a5 L5 c5 a6 L6 c6 a7 L7 c7 wr w h
  · exact tells_core mo t n c a4 L4 c4 _ a5 L5 c5 _ a6 L6 c6 _ a7 L7 c7 _ wr w hG (Pa.of h4) (Pa.of h5) (Pa.of h6) (Pa.of h7) (by omega) (by omega) (by omega) (by omega)
end Go.Proofs.YtappfdbmhgifcaaGreatDoor
