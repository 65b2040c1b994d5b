/- MendRows' walk where rows are of one length, under the contracts. -/
import Derived.Test.YtfmjfdbbjggcpaaRl
import Derived.StillTailTactics
import Derived.Deep.RegionHeld
namespace Go.Proofs.Ytfmjfdbbjggcpaa
open Go.ChangeShapes Go.WideShapes Go.ChangeAt Go.RowKit Go.Shelf GF
set_option linter.unusedVariables false
set_option linter.unusedSimpArgs false
set_option maxRecDepth 100000

set_option maxHeartbeats 8000000 in
theorem mr_like {Md : World → Addr → List (List GF) → List Nat → Prop} (hAll : ColAll) (hRA : RowsAll Md) (t : Nat) (e : Int) (x : GF) (L : Nat) (aX : Option Addr) (cX : Nat) (X : List GF) (aR : Option Addr) (cR : Nat) (R : List (List GF)) (w : World) (hX : Pa w aX L cX X) (hR : Mat w aR L cR R) (hE : (Lit.int .i64 e).wf = true) (hL : L ≤ 6) (n : Nat) (hn : ∀ k, k < L → (rw_ R k).length = n) (hn8 : n ≤ 8) (ht : 1 ≤ t) (htL : t ≤ L) (he0 : 0 ≤ e) (hp : plErr X = 0) (hu : unl R L = false) :
    Calls Try.prog 5 #[.int .i64 (t : Nat), .slice aX L cX, .slice aR L cR, .int .i64 e, .int .u8 (toI x)] w fun r w' => r = .returned (.bool true) ∧ Below w.heap.size w w' := by
  have HLI := Lib.hid (lives10 hAll)
  have hbx := hX.bd; have hbr := hR.bd
  have HR := Lib.hid hR; have HX := Lib.hid hX
  have HRL := Lib.hid hR.len
  have q6 : ¬ (6 : Int) < (L : Int) := by omega
  have HN := Lib.hid hn
  have HZ := Lib.hid (fun k (hk : k < L) => show (rw_ R k).length ≤ 8 from by rw [hn k hk]; exact hn8)
  have HUL := Lib.hid (uI_like_all hu)
  have HA := Lib.hid (plErr_zero.1 hp).2.2
  have HXL := Lib.hid hX.len
  obtain ⟨i5, hi, hz0, hz1, hz2⟩ := info_parts info5
  have HI := Lib.hid (And.intro hi (And.intro hz0 (And.intro hz1 hz2)))
  obtain ⟨P, hPL, hPR⟩ := pO_ex X R L t e.toNat n HA.out
  have HPL := Lib.hid hPL
  have HPR := Lib.hid hPR
  have HRA := Lib.hid hRA
  have HE1 := Lib.hid (fun (b : Nat) (W : World) (hf : Fld W b) (hx : Pa W aX L cX X) (hr : Mat W aR L cR R) => rows_both hRA b L t n e aX cX X aR cR R P W hf hx hr hE he0 ht htL hL hp hn hn8 hPL hPR)
  have HE2 := Lib.hid (fun (b : Nat) (aY : Option Addr) (cY : Nat) (W : World) (hf : Fld W b) (hx : Pa W aX L cX X) (hy : Pa W aY L cY (List.replicate L 0)) => hAll.2.1 b L t e aX cX X aY cY (List.replicate L 0) [] W hf hx hy hE he0 ht htL (by omega) hp (zeros_right hX.len htL _))
  have HRF := Lib.hid (fun (aY : Option Addr) (cY : Nat) (Y : List GF) (W : World) (hx : Pa W aX L cX X) (hy : Pa W aY L cY Y) => refCol_any t L e aX cX X aY cY Y W hx hy ht htL (by omega) HA.out he0 hE)
  have hmk := run_make_row' (P := Try.prog) 22 5 (.int .u8 0) 1 Try.underlying22 info5 rfl .i64 .i64 L (by omega) (by omega)
  have hmkn := run_make_row' (P := Try.prog) 22 5 (.int .u8 0) 1 Try.underlying22 info5 rfl .i64 .i64 n (by omega) (by omega)
  have hmkb := run_make_row' (P := Try.prog) 44 4 (.bool false) 1 Try.underlying44 info1 rfl .i64 .i64 L (by omega) (by omega)
  have HC := Lib.hid (And.intro ht (And.intro htL (And.intro hL hn8)))
  have qt : (t : Int) ≤ 6 := by omega
  have qt1 : (1 : Int) ≤ (t : Int) := by omega
  have qtL : (t : Int) ≤ (L : Int) := by omega
  have qL : (L : Int) ≤ 6 := by omega
  have qn : (n : Int) ≤ 8 := by omega
  clear hAll hRA hX hR hn hE he0 ht htL hp hu hPL hPR hi hz0 hz1 hz2 hL hn8
  go_enter Try.func5, Try.ntmps5
  go_upto_region 5 with (go_at_call 6; go_loud (refine (HLI.out _).mono ?_; rintro e w1 ⟨rfl, hb⟩; have HB1 := Lib.hid hb; clear hb))
  have HR1 := Lib.hid (HR.out.on HB1.out)
  have HX1 := Lib.hid (HX.out.on HB1.out)
  go_loopw [11, 47] (fun o s V => ∃ k : Nat, k ≤ L ∧ s = .int .i64 (k : Nat) ∧ o = .int .i64 (uI R k) ∧ V = w1) (fun _ s _ => L - (intOf s).toNat)
  case atStart => exact ⟨0, Nat.zero_le _, rfl, by rw [uI_zero], rfl⟩
  case round =>
    obtain ⟨k, hk, rfl, rfl, hV⟩ := hrel
    subst hV
    by_cases hlt : k < L
    · obtain ⟨b, off, ai, ci, rfl, hb, hcell, hpa⟩ := HR1.out.row hlt
      obtain ⟨b2, o2, a0, c0, e0, hb0, hc0, hp0⟩ := HR1.out.row (i := 0) (by omega)
      cases e0
      rw [Nat.add_zero] at hc0
      have q1 : (k : Int) < (L : Int) := by omega
      have q2 : (0 : Int) ≤ (k : Int) := by omega
      have q3 : (0 : Int) < (L : Int) := by omega
      have hd1 := hpa.bd
      have hd0 := hp0.bd
      have HU1 := Lib.hid (uI_like (M := R) (k := k) (by rw [HRL.out]; exact hlt))
      have HU2 := Lib.hid (uI_unlike (M := R) (k := k) (by rw [HRL.out]; exact hlt))
      have hm8 := HZ.out k hlt
      obtain ⟨m, hm⟩ : ∃ m, m = (rw_ R k).length := ⟨_, rfl⟩
      obtain ⟨m0, hm0⟩ : ∃ m, m = (rw_ R 0).length := ⟨_, rfl⟩
      rw [← hm] at hcell hd1 HU1 HU2 hm8
      rw [← hm0] at hc0 hd0 HU1 HU2
      have HM := Lib.hid hm
      have HM0 := Lib.hid hm0
      have HKL := Lib.hid hlt
      clear hpa hp0 hm hm0 hb hb0 hlt
      have q4 : ¬ (8 : Int) < (m : Int) := by omega
      by_cases he : m = m0
      · have q5 : ((m : Int) != (m0 : Int)) = false := by subst he; simp
        have HU := Lib.hid (HU1.out he)
        clear he
        go_wp2
        go_roundw
        case rel => exact ⟨k + 1, by have := HKL.out; omega, by go_num, by rw [HU.out], by trivial⟩
        case measure => simp [intOf]; have := HKL.out; omega
      · have q5 : ((m : Int) != (m0 : Int)) = true := by rw [bne_iff_ne]; omega
        have HU := Lib.hid (HU2.out he)
        clear he
        go_wp2
        go_roundw
        case rel => exact ⟨k + 1, by have := HKL.out; omega, by go_num, by rw [HU.out], by trivial⟩
        case measure => simp [intOf]; have := HKL.out; omega
    · obtain rfl : L = k := by omega
      rw [HUL.out]
      clear hlt hk
      go_upto_region 15 with (first
        | (go_at_call 8; go_loud (refine (new_any _).mono ?_; rintro e w2 ⟨b, rfl, hb0, hf, hbel⟩; have HB2 := Lib.hid hbel; have HF2 := Lib.hid hf; have HC1 := Lib.hid (HE1.out b w2 hf (HX1.out.on hbel) (HR1.out.on hbel)); clear hf hbel hb0))
        | (go_at_call 15; go_loud (refine HC1.out.mono ?_; rintro e w3 ⟨pm, g, rfl, hg, hb3⟩; have HB3 := Lib.hid (bt HB2.out hb3); have HG := Lib.hid hg; have hba : Below w3.heap.size w3 (w3.alloc (.cells (madeCells #[Value.int .u8 0] L) 5)) := (Below.refl _ _).alloc (Nat.le_refl _) _; have HBA := Lib.hid hba; have HC2 := Lib.hid (HE2.out b _ _ _ ((HF2.out.below hb3).below hba) (HX1.out.on (bt HB3.out hba)) (zerosPa w3 L (by omega))); clear hb3 hba hg))
        | (go_at_call 7; go_loud (refine HC2.out.mono ?_; rintro e w4 ⟨a4, c4, rfl, hp4, hb4⟩; have HB14 := Lib.hid (bt HB3.out (bt HBA.out hb4)); have HB34 := Lib.hid (bt HBA.out hb4); clear hb4 hp4)))
      have HB4 := Lib.hid (bt HB1.out HB14.out)
      have HR4 := Lib.hid (HR.out.on HB4.out)
      have HX4 := Lib.hid (HX.out.on HB4.out)
      clear hmk HC1 HC2 HE1 HE2 HB1 HB2 HB3 HBA HB14 HR1 HX1 HF2 HR HX HLI HZ
      obtain ⟨b2, o2, a0, c0, rfl, hb0, hc0, hp0⟩ := HR4.out.row (i := 0) (by have := HC.out; omega)
      rw [Nat.add_zero, HN.out 0 (by have := HC.out; omega)] at hc0
      have q0L : (0 : Int) < (L : Int) := by omega
      clear hb0 hp0
      go_upto_region 22 with fail
      clear hc0 hmkn hmkb q0L
      have hO0 : Hid (((w4.alloc (.cells (madeCells #[Value.int .u8 0] n) 5)).alloc (.cells (madeCells #[Value.bool false] L) 4)).ownsRow w4.heap.size 5 1 (.slice (some ⟨w4.heap.size, 0, none⟩) n n) n (plV (evP P x) n 0)) := by
        rw [plV_zero]
        exact Lib.hid ((own_made (w := w4) (e := 5) (n := n) (by unfold maxLen; have := HC.out; omega)).alloc _)
      have hW0 : Hid (((w4.alloc (.cells (madeCells #[Value.int .u8 0] n) 5)).alloc (.cells (madeCells #[Value.bool false] L) 4)).ownsRow w4.heap.size 4 1 (.slice (some ⟨w4.heap.size + 1, 0, none⟩) L L) L (wrV (wrF X R P 0) L)) := by
        have h := own_madeW (w := w4.alloc (.cells (madeCells #[Value.int .u8 0] n) 5)) (n := L) (by unfold maxLen; have := HC.out; omega)
        rw [World.size_alloc] at h
        exact Lib.hid (own_leG h (by omega))
      have hB0 : Hid (Below w4.heap.size w4 ((w4.alloc (.cells (madeCells #[Value.int .u8 0] n) 5)).alloc (.cells (madeCells #[Value.bool false] L) 4))) := Lib.hid (((Below.refl _ _).alloc (Nat.le_refl _) _).alloc (by simp) _)
      go_loopw [111] (fun s V => ∃ i : Nat, i ≤ n ∧ s = .int .i64 (i : Nat) ∧ Hid (∀ z, z < i → RightP X (colM R L z) t e.toNat (rw_ P z)) ∧ Hid (V.ownsRow w4.heap.size 5 1 (.slice (some ⟨w4.heap.size, 0, none⟩) n n) n (plV (evP P x) n i)) ∧ Hid (V.ownsRow w4.heap.size 4 1 (.slice (some ⟨w4.heap.size + 1, 0, none⟩) L L) L (wrV (wrF X R P i) L)) ∧ Hid (Below w4.heap.size w4 V)) (fun s _ => n - (intOf s).toNat)
      case atStart => exact ⟨0, Nat.zero_le _, rfl, Lib.hid (fun z hz => absurd hz (by omega)), hO0, hW0, hB0⟩
      case round =>
        clear hO0 hW0 hB0
        obtain ⟨i, hi, rfl, HRI, HO, HW, HB⟩ := hrel
        rename World => V
        by_cases hlt : i < n
        · have q1 : (i : Int) < (n : Int) := by omega
          have q2 : (0 : Int) ≤ (i : Int) := by omega
          have HIN := Lib.hid hlt
          clear hlt hi
          go_upto_region 26 with fail
          go_loopw [22, 116] (fun o s U => ∃ (j : Nat) (aY : Option Addr) (cY : Nat), j ≤ L ∧ s = .int .i64 (j : Nat) ∧ o = .slice aY j cY ∧ Hid (U.ownsRow V.heap.size 5 1 (.slice aY j cY) j ((iL ((colM R L i).take j)).map (Value.int .u8))) ∧ Hid (Below V.heap.size V U)) (fun _ s _ => L - (intOf s).toNat)
          case atStart => exact ⟨0, none, 0, Nat.zero_le _, rfl, rfl, Lib.hid (own_nilG V V.heap.size 5), Lib.hid (Below.refl _ _)⟩
          case round =>
            obtain ⟨j, aY, cY, hj, rfl, rfl, HY, HU⟩ := hrel
            rename World => U
            by_cases hlj : j < L
            · have q3 : (j : Int) < (L : Int) := by omega
              have q4 : (0 : Int) ≤ (j : Int) := by omega
              obtain ⟨b5, o5, ai, ci, e5, hb5, hc5, hp5⟩ := (HR4.out.on (bt HB.out HU.out)).row hlj
              cases e5
              rw [HN.out j hlj] at hc5 hp5
              obtain ⟨bx, ox, rfl, hbx5, hcx5⟩ := hp5.at_ HIN.out
              have hd5 := hp5.bd
              have HCN := Lib.hid (colM_next (R := R) (i := i) hlj)
              obtain ⟨y, hy⟩ : ∃ y, y = co (rw_ R j) i := ⟨_, rfl⟩
              rw [← hy] at hcx5 HCN
              have HJL := Lib.hid hlj
              have HOA := Lib.hid (HY.out.alloc (.cells #[.int .u8 (toI y)] 5))
              have hdy := own_bdY HY.out
              clear hy hlj hj hp5 hb5 hbx5
              go_wp2_with ((with_reducible show wpList _ _ _ (⟨some 126, _, _, _, _, _⟩ :: _) _ _); go_loud (refine wpList_append_lies _ rfl (.tmp 120) (.tmp 125) 22 rfl V.heap.size 5 i5 (.int .u8 0) 1 1 Try.underlying22 HI.out.1 HI.out.2.1 HI.out.2.2.1 HI.out.2.2.2 rfl (by decide) _ j _ rfl HOA.out _ 1 1 [_] rfl rfl (lit_cellsV _ _ _) (by intro u hu; cases List.mem_singleton.1 hu; rfl) (by decide) (by unfold maxLen; have := HJL.out; have := HC.out; omega) (by have := HJL.out; have := HC.out; omega) (by have := HU.out.size; simp; omega) _ rfl ?_; intro g6 c6 U6 hown6 hg6 hat6 hlt6; rw [show (iL ((colM R L i).take j)).map (Value.int .u8) ++ [Value.int .u8 (toI y)] = (iL ((colM R L i).take (j + 1))).map (Value.int .u8) by rw [HCN.out]; simp [iL]] at hown6; have HY6 := Lib.hid hown6; have HU6 := Lib.hid ((HU.out.alloc HU.out.size (.cells #[.int .u8 (toI y)] 5)).grown hg6 (by have := HU.out.size; simp; omega) (fun z hz => (HOA.out.lt z hz).1)); clear hown6 hg6 hat6 hlt6))
              go_roundw
              case rel => exact ⟨j + 1, _, _, HJL.out, by go_num, rfl, HY6, HU6⟩
              case measure => simp [intOf]; have := HJL.out; omega
            · obtain rfl : L = j := by omega
              have hy := HY.out
              rw [List.take_of_length_le (by rw [colM_len]; exact Nat.le_refl _)] at hy
              obtain ⟨aZ, cZ, eZ, hpz, hnz⟩ := Pa.own hy
              cases eZ
              have HPY := Lib.hid hpz
              have HNY := Lib.hid hnz
              have hdy := hpz.bd
              have HXU := Lib.hid (HX4.out.on (bt HB.out HU.out))
              have HRC := Lib.hid (HRF.out aY cY (colM R L i) U HXU.out HPY.out)
              clear hy hpz hnz hlj hj HY
              go_upto_region 31 with (go_at_call 10; go_loud (refine HRC.out.mono ?_; rintro r U1 ⟨aP, nP, cP, ok, rfl, hor, hb⟩; have HOR := Lib.hid hor; have HU1 := Lib.hid hb; clear hor hb))
              clear HRC
              rcases HOR.out with ⟨rfl, p, hp, hnp, hpp, hnew⟩ | ⟨rfl, hnp, hno⟩
              · have HPE := Lib.hid (HPR.out i p HIN.out hp)
                have HRP := Lib.hid hp
                have HPP := Lib.hid (show Pa U1 aP nP cP p from hpp)
                have HNP := Lib.hid hnew
                have hdp := hpp.bd
                have HUV := Lib.hid (bt HU.out HU1.out)
                have HOU := Lib.hid (own_belowV HO.out HUV.out)
                have HWU := Lib.hid (own_belowV HW.out HUV.out)
                have HLT := Lib.hid (And.intro (show w4.heap.size + 1 < V.heap.size from (HW.out.lt _ rfl).2) (And.intro HU.out.size HU1.out.size))
                have hfz := HOU.out.frozenAt i
                have hcl := HOU.out.cellAt i (by have := HIN.out; omega)
                obtain ⟨vo, hvo⟩ : ∃ v, (plV (evP P x) n i)[i]? = some v := ⟨_, List.getElem?_eq_getElem (by rw [plV_len (by rw [evP_len, HPL.out]) (Nat.le_of_lt HIN.out)]; exact HIN.out)⟩
                rw [hvo] at hcl
                have hst := (HOU.out.stored i (.int .u8 (toI (ev p x)))).1
                rw [show ev p x = co (evP P x) i by rw [evP_co x (by rw [HPL.out]; exact HIN.out), HPE.out], plV_set (by rw [evP_len, HPL.out]) HIN.out, evP_co x (by rw [HPL.out]; exact HIN.out), ← HPE.out] at hst
                have HST := Lib.hid hst
                have HEV := Lib.hid (reval_any aP nP cP p x U1 HPP.out (by have := HRP.out.2.1; have := HC.out; have := HPP.out.len; omega))
                have HW2 := Lib.hid (HWU.out.kept (gb_set U1 w4.heap.size i (.int .u8 (toI (ev p x)))) (.inr (by show some (w4.heap.size + 1) ≠ some w4.heap.size; intro e; injection e with e; omega)))
                have HB2 := Lib.hid ((bt HB.out HUV.out).setCell (p := ⟨w4.heap.size, i, none⟩) (Nat.le_refl _) (.int .u8 (toI (ev p x))))
                have HP2 := Lib.hid (HPP.out.but (gb_set U1 w4.heap.size i (.int .u8 (toI (ev p x)))) (fun b off e => by have := HNP.out b off e; have := HLT.out; omega))
                have HY2 := Lib.hid ((HPY.out.on HU1.out).but (gb_set U1 w4.heap.size i (.int .u8 (toI (ev p x)))) (fun b off e => by have := (HNY.out b off e).1; have := HLT.out; omega))
                obtain ⟨bx, ox, rfl, hbx4, -⟩ := HX4.out.at_ (k := 0) (by have := HC.out; omega)
                have HBX := Lib.hid hbx4
                obtain ⟨by_, oy, rfl, -, -⟩ := HPY.out.at_ (k := 0) (by have := HC.out; omega)
                have HMZ := Lib.hid (mixF_zero X R P i L)
                have HX2 := Lib.hid (HX4.out.on HB2.out)
                clear hp hpp hnew hnp hst hvo HOR HUV HOU HWU HPP hbx4 HXU
                go_upto_region 35 with (go_at_call 16; go_loud (refine HEV.out.mono ?_; rintro r w' ⟨rfl, rfl⟩))
                clear hfz hcl HEV
                rename World => U1
                obtain ⟨U2, hU2⟩ : ∃ U2, U2 = U1.setCell ⟨w4.heap.size, i, none⟩ (.int .u8 (toI (ev p x))) := ⟨_, rfl⟩
                rw [← hU2] at HST HW2 HB2 HP2 HY2 HX2 ⊢
                clear hU2
                go_loopw [152] (fun s W => ∃ z : Nat, z ≤ L ∧ s = .int .i64 (z : Nat) ∧ Hid (W.ownsRow w4.heap.size 4 1 (.slice (some ⟨w4.heap.size + 1, 0, none⟩) L L) L (wrV (mixF X R P i z) L)) ∧ Hid (U2.grownBy W (some (w4.heap.size + 1)))) (fun s _ => L - (intOf s).toNat)
                case atStart => exact ⟨0, Nat.zero_le _, rfl, by rw [HMZ.out]; exact HW2, Lib.hid (gb_refl _ _)⟩
                case round =>
                  obtain ⟨z, hz, rfl, HWW, HGW⟩ := hrel
                  rename World => W
                  by_cases hlz : z < L
                  · have q3 : (z : Int) < (L : Int) := by omega
                    have q4 : (0 : Int) ≤ (z : Int) := by omega
                    have hcw := HWW.out.cellAt z (by omega)
                    rw [wrV_at hlz, mixF_at] at hcw
                    have hfw := HWW.out.frozenAt z
                    have HPW := Lib.hid (HP2.out.but HGW.out (fun b off e => by have := HNP.out b off e; have := HLT.out; omega))
                    obtain ⟨b7, o7, e7, hb7, hcy7⟩ := (HY2.out.but HGW.out (fun b off e => by have := (HNY.out b off e).1; have := HLT.out; omega)).at_ hlz
                    cases e7
                    obtain ⟨b8, o8, e8, hb8, hcx8⟩ := (HX2.out.but HGW.out (fun b off e => by cases e; have := HBX.out; omega)).at_ hlz
                    cases e8
                    rw [colM_co R hlz] at hcy7
                    have HLZ := Lib.hid hlz
                    have HMX := Lib.hid (fun (b : Bool) => mixF_set X R P i z L (b := b))
                    rw [← HPE.out] at HMX
                    have HEV := Lib.hid (reval_any aP nP cP p (co X z) W.drew (HPW.out.on (Below.refl _ _).drew) (by have := HRP.out.2.1; have := HC.out; have := HPW.out.len; omega))
                    have HCX := Lib.hid (show bx < W.heap.size ∧ bx ≠ w4.heap.size + 1 ∧ W.cell? ⟨bx, ox + z, none⟩ = some (.int .u8 (toI (co X z))) from ⟨hb8, by have := HBX.out; omega, hcx8⟩)
                    have HCY := Lib.hid (show by_ < W.heap.size ∧ by_ ≠ w4.heap.size + 1 ∧ W.cell? ⟨by_, oy + z, none⟩ = some (.int .u8 (toI (co (rw_ R z) i))) from ⟨hb7, by have := (HNY.out by_ oy rfl).1; have := HLT.out; omega, hcy7⟩)
                    clear hlz hz hb7 hb8 hcx8 hcy7
                    by_cases hw : wrF X R P i z = true
                    · rw [hw] at hcw HMX
                      have HSET := Lib.hid (HMX.out true (by simp))
                      clear hw HMX
                      go_upto_region 37 with fail
                      refine wp_region_held_drew (S := fun V => W.grownBy V (some (w4.heap.size + 1))) (by kernel_rfl) (gb_drew (gb_refl _ _)) (fun hHeld => ?_)
                      refine wpAnyH_take (i := 0) (oi := { dst := some 155, op := Go.Op.move (Go.Operand.tmp 20), type := 44, pos := "law.go:122", after := #[], guard := none }) (v := ?v0t1) rfl (by kernel_rfl) (by kernel_rfl) (by kernel_rfl) (fun _ _ _ h => h) (Or.inl ⟨by rfl, ?hy0t1⟩) hHeld ?rest0t1
                      case hy0t1 =>
                        intro W' hV
                        try dsimp only at hV
                        go_simp
                        all_goals with_reducible rfl
                      case' rest0t1 => try simp only [Act.put, List.setIfInBounds_toArray, List.set_cons_zero, List.set_cons_succ]
                      refine wpAnyH_take (i := 1) (oi := { dst := some 156, op := Go.Op.move (Go.Operand.tmp 27), type := 3, pos := "law.go:122", after := #[], guard := none }) (v := ?v1t2) rfl (by kernel_rfl) (by kernel_rfl) (by kernel_rfl) (fun _ _ _ h => h) (Or.inl ⟨by rfl, ?hy1t2⟩) hHeld ?rest1t2
                      case hy1t2 =>
                        intro W' hV
                        try dsimp only at hV
                        go_simp
                        all_goals with_reducible rfl
                      case' rest1t2 => try simp only [Act.put, List.setIfInBounds_toArray, List.set_cons_zero, List.set_cons_succ]
                      refine wpAnyH_take (i := 2) (oi := { dst := some 157, op := Go.Op.move (Go.Operand.tmp 20), type := 44, pos := "law.go:122", after := #[], guard := none }) (v := ?v2t3) rfl (by kernel_rfl) (by kernel_rfl) (by kernel_rfl) (fun _ _ _ h => h) (Or.inl ⟨by rfl, ?hy2t3⟩) hHeld ?rest2t3
                      case hy2t3 =>
                        intro W' hV
                        try dsimp only at hV
                        go_simp
                        all_goals with_reducible rfl
                      case' rest2t3 => try simp only [Act.put, List.setIfInBounds_toArray, List.set_cons_zero, List.set_cons_succ]
                      refine wpAnyH_take (i := 3) (oi := { dst := some 158, op := Go.Op.move (Go.Operand.tmp 27), type := 3, pos := "law.go:122", after := #[], guard := none }) (v := ?v3t4) rfl (by kernel_rfl) (by kernel_rfl) (by kernel_rfl) (fun _ _ _ h => h) (Or.inl ⟨by rfl, ?hy3t4⟩) hHeld ?rest3t4
                      case hy3t4 =>
                        intro W' hV
                        try dsimp only at hV
                        go_simp
                        all_goals with_reducible rfl
                      case' rest3t4 => try simp only [Act.put, List.setIfInBounds_toArray, List.set_cons_zero, List.set_cons_succ]
                      refine wpAnyH_take (i := 4) (oi := { dst := some 159, op := Go.Op.indexAddr 44 (Go.Operand.tmp 157) (Go.Operand.tmp 158), type := 0, pos := "law.go:122", after := #[{ on := 2, ground := Go.Ground.data }, { on := 3, ground := Go.Ground.data }], guard := none }) (v := ?v4t5) rfl (by kernel_rfl) (by kernel_rfl) (by kernel_rfl) (fun _ _ _ h => h) (Or.inl ⟨by rfl, ?hy4t5⟩) hHeld ?rest4t5
                      case hy4t5 =>
                        intro W' hV
                        try dsimp only at hV
                        go_simp
                        all_goals with_reducible rfl
                      case' rest4t5 => try simp only [Act.put, List.setIfInBounds_toArray, List.set_cons_zero, List.set_cons_succ]
                      refine wpAnyH_ready (rs := [5]) (by kernel_rfl) (by simp) ?_
                      refine AllReadyH.cons (o := { dst := some 160, op := Go.Op.load 4 (Go.Operand.tmp 159), type := 4, pos := "law.go:122", after := #[{ on := 4, ground := Go.Ground.data }], guard := none }) rfl (fun K' hK => ?_) AllReadyH.nil
                      rw [if_pos (by rfl)]
                      have hcd : W.drew.cell? ⟨w4.heap.size + 1, z, none⟩ = some (.bool true) := hcw
                      go_simp
                      clear hcd
                      refine hK.out _ _ hHeld (fun hHeld1 => ?_)
                      clear hK K' hHeld
                      have hHeld := hHeld1
                      clear hHeld1
                      try simp only [Act.put, List.setIfInBounds_toArray, List.set_cons_zero, List.set_cons_succ]
                      refine wpAnyH_take (i := 6) (oi := { dst := some 161, op := Go.Op.move (Go.Operand.tmp 160), type := 4, pos := "law.go:122", after := #[{ on := 5, ground := Go.Ground.data }], guard := none }) (v := ?v6t6) rfl (by kernel_rfl) (by kernel_rfl) (by kernel_rfl) (fun _ _ _ h => h) (Or.inl ⟨by rfl, ?hy6t6⟩) hHeld ?rest6t6
                      case hy6t6 =>
                        intro W' hV
                        try dsimp only at hV
                        go_simp
                        all_goals with_reducible rfl
                      case' rest6t6 => try simp only [Act.put, List.setIfInBounds_toArray, List.set_cons_zero, List.set_cons_succ]
                      refine wpAnyH_take (i := 7) (oi := { dst := some 162, op := Go.Op.move (Go.Operand.tmp 25), type := 22, pos := "law.go:122", after := #[{ on := 6, ground := Go.Ground.guard }], guard := some (6, false) }) (v := undef) rfl (by kernel_rfl) (by kernel_rfl) (by kernel_rfl) (fun _ _ _ h => h) (Or.inr ⟨by rfl, rfl⟩) hHeld ?_
                      try simp only [Act.put, List.setIfInBounds_toArray, List.set_cons_zero, List.set_cons_succ]
                      refine wpAnyH_take (i := 8) (oi := { dst := some 163, op := Go.Op.move (Go.Operand.tmp 1), type := 22, pos := "law.go:122", after := #[{ on := 6, ground := Go.Ground.guard }], guard := some (6, false) }) (v := undef) rfl (by kernel_rfl) (by kernel_rfl) (by kernel_rfl) (fun _ _ _ h => h) (Or.inr ⟨by rfl, rfl⟩) hHeld ?_
                      try simp only [Act.put, List.setIfInBounds_toArray, List.set_cons_zero, List.set_cons_succ]
                      refine wpAnyH_take (i := 9) (oi := { dst := some 164, op := Go.Op.move (Go.Operand.tmp 27), type := 3, pos := "law.go:122", after := #[{ on := 6, ground := Go.Ground.guard }], guard := some (6, false) }) (v := undef) rfl (by kernel_rfl) (by kernel_rfl) (by kernel_rfl) (fun _ _ _ h => h) (Or.inr ⟨by rfl, rfl⟩) hHeld ?_
                      try simp only [Act.put, List.setIfInBounds_toArray, List.set_cons_zero, List.set_cons_succ]
                      refine wpAnyH_take (i := 10) (oi := { dst := some 165, op := Go.Op.indexAddr 22 (Go.Operand.tmp 163) (Go.Operand.tmp 164), type := 0, pos := "law.go:122", after := #[{ on := 8, ground := Go.Ground.data }, { on := 9, ground := Go.Ground.data }, { on := 6, ground := Go.Ground.guard }], guard := some (6, false) }) (v := undef) rfl (by kernel_rfl) (by kernel_rfl) (by kernel_rfl) (fun _ _ _ h => h) (Or.inr ⟨by rfl, rfl⟩) hHeld ?_
                      try simp only [Act.put, List.setIfInBounds_toArray, List.set_cons_zero, List.set_cons_succ]
                      refine wpAnyH_take (i := 11) (oi := { dst := some 166, op := Go.Op.load 5 (Go.Operand.tmp 165), type := 5, pos := "law.go:122", after := #[{ on := 10, ground := Go.Ground.data }, { on := 6, ground := Go.Ground.guard }], guard := some (6, false) }) (v := undef) rfl (by kernel_rfl) (by kernel_rfl) (by kernel_rfl) (fun _ _ _ h => h) (Or.inr ⟨by rfl, rfl⟩) hHeld ?_
                      try simp only [Act.put, List.setIfInBounds_toArray, List.set_cons_zero, List.set_cons_succ]
                      refine wpAnyH_take (i := 12) (oi := { dst := some 167, op := Go.Op.call { callee := Go.Callee.value (Go.Operand.func 16), args := #[Go.Operand.tmp 162, Go.Operand.tmp 166], argTypes := #[22, 5] }, type := 5, pos := "law.go:122", after := #[{ on := 7, ground := Go.Ground.data }, { on := 11, ground := Go.Ground.data }, { on := 6, ground := Go.Ground.chain }, { on := 6, ground := Go.Ground.guard }], guard := some (6, false) }) (v := undef) rfl (by kernel_rfl) (by kernel_rfl) (by kernel_rfl) (fun _ _ _ h => h) (Or.inr ⟨by rfl, rfl⟩) hHeld ?_
                      try simp only [Act.put, List.setIfInBounds_toArray, List.set_cons_zero, List.set_cons_succ]
                      refine wpAnyH_take (i := 13) (oi := { dst := some 168, op := Go.Op.move (Go.Operand.tmp 22), type := 22, pos := "law.go:122", after := #[{ on := 6, ground := Go.Ground.guard }], guard := some (6, false) }) (v := undef) rfl (by kernel_rfl) (by kernel_rfl) (by kernel_rfl) (fun _ _ _ h => h) (Or.inr ⟨by rfl, rfl⟩) hHeld ?_
                      try simp only [Act.put, List.setIfInBounds_toArray, List.set_cons_zero, List.set_cons_succ]
                      refine wpAnyH_take (i := 14) (oi := { dst := some 169, op := Go.Op.move (Go.Operand.tmp 27), type := 3, pos := "law.go:122", after := #[{ on := 6, ground := Go.Ground.guard }], guard := some (6, false) }) (v := undef) rfl (by kernel_rfl) (by kernel_rfl) (by kernel_rfl) (fun _ _ _ h => h) (Or.inr ⟨by rfl, rfl⟩) hHeld ?_
                      try simp only [Act.put, List.setIfInBounds_toArray, List.set_cons_zero, List.set_cons_succ]
                      refine wpAnyH_take (i := 15) (oi := { dst := some 170, op := Go.Op.indexAddr 22 (Go.Operand.tmp 168) (Go.Operand.tmp 169), type := 0, pos := "law.go:122", after := #[{ on := 13, ground := Go.Ground.data }, { on := 14, ground := Go.Ground.data }, { on := 6, ground := Go.Ground.guard }], guard := some (6, false) }) (v := undef) rfl (by kernel_rfl) (by kernel_rfl) (by kernel_rfl) (fun _ _ _ h => h) (Or.inr ⟨by rfl, rfl⟩) hHeld ?_
                      try simp only [Act.put, List.setIfInBounds_toArray, List.set_cons_zero, List.set_cons_succ]
                      refine wpAnyH_take (i := 16) (oi := { dst := some 171, op := Go.Op.load 5 (Go.Operand.tmp 170), type := 5, pos := "law.go:122", after := #[{ on := 15, ground := Go.Ground.data }, { on := 6, ground := Go.Ground.guard }], guard := some (6, false) }) (v := undef) rfl (by kernel_rfl) (by kernel_rfl) (by kernel_rfl) (fun _ _ _ h => h) (Or.inr ⟨by rfl, rfl⟩) hHeld ?_
                      try simp only [Act.put, List.setIfInBounds_toArray, List.set_cons_zero, List.set_cons_succ]
                      refine wpAnyH_take (i := 17) (oi := { dst := some 172, op := Go.Op.binOp Go.BinOp.neq 5 (Go.Operand.tmp 167) (Go.Operand.tmp 171) 5, type := 4, pos := "law.go:122", after := #[{ on := 12, ground := Go.Ground.data }, { on := 16, ground := Go.Ground.data }, { on := 6, ground := Go.Ground.guard }], guard := some (6, false) }) (v := undef) rfl (by kernel_rfl) (by kernel_rfl) (by kernel_rfl) (fun _ _ _ h => h) (Or.inr ⟨by rfl, rfl⟩) hHeld ?_
                      try simp only [Act.put, List.setIfInBounds_toArray, List.set_cons_zero, List.set_cons_succ]
                      refine wpAnyH_take (i := 18) (oi := { dst := some 173, op := Go.Op.pick (Go.Operand.tmp 161) (Go.Operand.const (Go.Value.bool true)) (Go.Operand.tmp 172), type := 4, pos := "law.go:122", after := #[{ on := 6, ground := Go.Ground.data }, { on := 17, ground := Go.Ground.data }], guard := none }) (v := ?v18t7) rfl (by kernel_rfl) (by kernel_rfl) (by kernel_rfl) (fun _ _ _ h => h) (Or.inl ⟨by rfl, ?hy18t7⟩) hHeld ?rest18t7
                      case hy18t7 =>
                        intro W' hV
                        try dsimp only at hV
                        go_simp
                        all_goals with_reducible rfl
                      case' rest18t7 => try simp only [Act.put, List.setIfInBounds_toArray, List.set_cons_zero, List.set_cons_succ]
                      refine wpAnyH_take (i := 19) (oi := { dst := some 174, op := Go.Op.indexAddr 44 (Go.Operand.tmp 155) (Go.Operand.tmp 156), type := 0, pos := "law.go:122", after := #[{ on := 0, ground := Go.Ground.data }, { on := 1, ground := Go.Ground.data }, { on := 0, ground := Go.Ground.phase }, { on := 1, ground := Go.Ground.phase }, { on := 2, ground := Go.Ground.phase }, { on := 3, ground := Go.Ground.phase }, { on := 4, ground := Go.Ground.phase }, { on := 5, ground := Go.Ground.phase }, { on := 6, ground := Go.Ground.phase }, { on := 7, ground := Go.Ground.phase }, { on := 8, ground := Go.Ground.phase }, { on := 9, ground := Go.Ground.phase }, { on := 10, ground := Go.Ground.phase }, { on := 11, ground := Go.Ground.phase }, { on := 12, ground := Go.Ground.phase }, { on := 13, ground := Go.Ground.phase }, { on := 14, ground := Go.Ground.phase }, { on := 15, ground := Go.Ground.phase }, { on := 16, ground := Go.Ground.phase }, { on := 17, ground := Go.Ground.phase }, { on := 18, ground := Go.Ground.phase }], guard := none }) (v := ?v19t8) rfl (by kernel_rfl) (by kernel_rfl) (by kernel_rfl) (fun _ _ _ h => h) (Or.inl ⟨by rfl, ?hy19t8⟩) hHeld ?rest19t8
                      case hy19t8 =>
                        intro W' hV
                        try dsimp only at hV
                        go_simp
                        all_goals with_reducible rfl
                      case' rest19t8 => try simp only [Act.put, List.setIfInBounds_toArray, List.set_cons_zero, List.set_cons_succ]
                      refine wpAnyH_ready (rs := [20]) (by kernel_rfl) (by simp) ?_
                      refine AllReadyH.cons (o := { dst := none, op := Go.Op.store 4 (Go.Operand.tmp 174) (Go.Operand.tmp 173), type := 0, pos := "law.go:122", after := #[{ on := 19, ground := Go.Ground.data }, { on := 18, ground := Go.Ground.data }, { on := 12, ground := Go.Ground.chain }, { on := 0, ground := Go.Ground.phase }, { on := 1, ground := Go.Ground.phase }, { on := 2, ground := Go.Ground.phase }, { on := 3, ground := Go.Ground.phase }, { on := 4, ground := Go.Ground.phase }, { on := 5, ground := Go.Ground.phase }, { on := 6, ground := Go.Ground.phase }, { on := 7, ground := Go.Ground.phase }, { on := 8, ground := Go.Ground.phase }, { on := 9, ground := Go.Ground.phase }, { on := 10, ground := Go.Ground.phase }, { on := 11, ground := Go.Ground.phase }, { on := 12, ground := Go.Ground.phase }, { on := 13, ground := Go.Ground.phase }, { on := 14, ground := Go.Ground.phase }, { on := 15, ground := Go.Ground.phase }, { on := 16, ground := Go.Ground.phase }, { on := 17, ground := Go.Ground.phase }, { on := 18, ground := Go.Ground.phase }], guard := none }) rfl (fun K' hK => ?_) AllReadyH.nil
                      rw [if_pos (by rfl)]
                      have hfd : W.drew.frozen? ⟨w4.heap.size + 1, z, none⟩ = false := hfw
                      have hcd : W.drew.cell? ⟨w4.heap.size + 1, z, none⟩ = some (.bool true) := hcw
                      go_simp
                      clear hfd hcd
                      refine hK.out _ _ (gb_trans hHeld (gb_set _ _ _ _)) (fun hHeld1 => ?_)
                      clear hK K' hHeld
                      have hHeld := hHeld1
                      clear hHeld1
                      try simp only [Act.put, List.setIfInBounds_toArray, List.set_cons_zero, List.set_cons_succ]
                      refine wpAnyH_done (by kernel_rfl) ?_ _
                      clear hHeld
                      go_wp2
                      go_roundw
                      case rel =>
                        refine ⟨z + 1, HLZ.out, by go_num, ?_, ?_⟩
                        · rw [← HSET.out]; exact Lib.hid ((own_belowV HWW.out (Below.refl _ _).drew).stored z (.bool true)).1
                        · exact Lib.hid (gb_trans HGW.out (gb_trans (gb_drew (gb_refl _ _)) (gb_set _ _ _ _)))
                      case measure => simp [intOf]; have := HLZ.out; omega
                    · have hw2 : wrF X R P i z = false := by simpa using hw
                      rw [hw2] at hcw HMX
                      have HSET := Lib.hid (HMX.out (toI (ev p (co X z)) != toI (co (rw_ R z) i)) (by rw [ne_toI]; simp))
                      clear hw hw2 HMX
                      go_upto_region 37 with fail
                      refine wp_region_held_drew (S := fun V => W.grownBy V (some (w4.heap.size + 1))) (by kernel_rfl) (gb_drew (gb_refl _ _)) (fun hHeld => ?_)
                      refine wpAnyH_take (i := 0) (oi := { dst := some 155, op := Go.Op.move (Go.Operand.tmp 20), type := 44, pos := "law.go:122", after := #[], guard := none }) (v := ?v0f1) rfl (by kernel_rfl) (by kernel_rfl) (by kernel_rfl) (fun _ _ _ h => h) (Or.inl ⟨by rfl, ?hy0f1⟩) hHeld ?rest0f1
                      case hy0f1 =>
                        intro W' hV
                        try dsimp only at hV
                        go_simp
                        all_goals with_reducible rfl
                      case' rest0f1 => try simp only [Act.put, List.setIfInBounds_toArray, List.set_cons_zero, List.set_cons_succ]
                      refine wpAnyH_take (i := 1) (oi := { dst := some 156, op := Go.Op.move (Go.Operand.tmp 27), type := 3, pos := "law.go:122", after := #[], guard := none }) (v := ?v1f2) rfl (by kernel_rfl) (by kernel_rfl) (by kernel_rfl) (fun _ _ _ h => h) (Or.inl ⟨by rfl, ?hy1f2⟩) hHeld ?rest1f2
                      case hy1f2 =>
                        intro W' hV
                        try dsimp only at hV
                        go_simp
                        all_goals with_reducible rfl
                      case' rest1f2 => try simp only [Act.put, List.setIfInBounds_toArray, List.set_cons_zero, List.set_cons_succ]
                      refine wpAnyH_take (i := 2) (oi := { dst := some 157, op := Go.Op.move (Go.Operand.tmp 20), type := 44, pos := "law.go:122", after := #[], guard := none }) (v := ?v2f3) rfl (by kernel_rfl) (by kernel_rfl) (by kernel_rfl) (fun _ _ _ h => h) (Or.inl ⟨by rfl, ?hy2f3⟩) hHeld ?rest2f3
                      case hy2f3 =>
                        intro W' hV
                        try dsimp only at hV
                        go_simp
                        all_goals with_reducible rfl
                      case' rest2f3 => try simp only [Act.put, List.setIfInBounds_toArray, List.set_cons_zero, List.set_cons_succ]
                      refine wpAnyH_take (i := 3) (oi := { dst := some 158, op := Go.Op.move (Go.Operand.tmp 27), type := 3, pos := "law.go:122", after := #[], guard := none }) (v := ?v3f4) rfl (by kernel_rfl) (by kernel_rfl) (by kernel_rfl) (fun _ _ _ h => h) (Or.inl ⟨by rfl, ?hy3f4⟩) hHeld ?rest3f4
                      case hy3f4 =>
                        intro W' hV
                        try dsimp only at hV
                        go_simp
                        all_goals with_reducible rfl
                      case' rest3f4 => try simp only [Act.put, List.setIfInBounds_toArray, List.set_cons_zero, List.set_cons_succ]
                      refine wpAnyH_take (i := 4) (oi := { dst := some 159, op := Go.Op.indexAddr 44 (Go.Operand.tmp 157) (Go.Operand.tmp 158), type := 0, pos := "law.go:122", after := #[{ on := 2, ground := Go.Ground.data }, { on := 3, ground := Go.Ground.data }], guard := none }) (v := ?v4f5) rfl (by kernel_rfl) (by kernel_rfl) (by kernel_rfl) (fun _ _ _ h => h) (Or.inl ⟨by rfl, ?hy4f5⟩) hHeld ?rest4f5
                      case hy4f5 =>
                        intro W' hV
                        try dsimp only at hV
                        go_simp
                        all_goals with_reducible rfl
                      case' rest4f5 => try simp only [Act.put, List.setIfInBounds_toArray, List.set_cons_zero, List.set_cons_succ]
                      refine wpAnyH_ready (rs := [5]) (by kernel_rfl) (by simp) ?_
                      refine AllReadyH.cons (o := { dst := some 160, op := Go.Op.load 4 (Go.Operand.tmp 159), type := 4, pos := "law.go:122", after := #[{ on := 4, ground := Go.Ground.data }], guard := none }) rfl (fun K' hK => ?_) AllReadyH.nil
                      rw [if_pos (by rfl)]
                      have hcd : W.drew.cell? ⟨w4.heap.size + 1, z, none⟩ = some (.bool false) := hcw
                      go_simp
                      clear hcd
                      refine hK.out _ _ hHeld (fun hHeld1 => ?_)
                      clear hK K' hHeld
                      have hHeld := hHeld1
                      clear hHeld1
                      try simp only [Act.put, List.setIfInBounds_toArray, List.set_cons_zero, List.set_cons_succ]
                      refine wpAnyH_take (i := 6) (oi := { dst := some 161, op := Go.Op.move (Go.Operand.tmp 160), type := 4, pos := "law.go:122", after := #[{ on := 5, ground := Go.Ground.data }], guard := none }) (v := ?v6f6) rfl (by kernel_rfl) (by kernel_rfl) (by kernel_rfl) (fun _ _ _ h => h) (Or.inl ⟨by rfl, ?hy6f6⟩) hHeld ?rest6f6
                      case hy6f6 =>
                        intro W' hV
                        try dsimp only at hV
                        go_simp
                        all_goals with_reducible rfl
                      case' rest6f6 => try simp only [Act.put, List.setIfInBounds_toArray, List.set_cons_zero, List.set_cons_succ]
                      refine wpAnyH_take (i := 7) (oi := { dst := some 162, op := Go.Op.move (Go.Operand.tmp 25), type := 22, pos := "law.go:122", after := #[{ on := 6, ground := Go.Ground.guard }], guard := some (6, false) }) (v := ?v7f7) rfl (by kernel_rfl) (by kernel_rfl) (by kernel_rfl) (fun _ _ _ h => h) (Or.inl ⟨by rfl, ?hy7f7⟩) hHeld ?rest7f7
                      case hy7f7 =>
                        intro W' hV
                        try dsimp only at hV
                        go_simp
                        all_goals with_reducible rfl
                      case' rest7f7 => try simp only [Act.put, List.setIfInBounds_toArray, List.set_cons_zero, List.set_cons_succ]
                      refine wpAnyH_take (i := 8) (oi := { dst := some 163, op := Go.Op.move (Go.Operand.tmp 1), type := 22, pos := "law.go:122", after := #[{ on := 6, ground := Go.Ground.guard }], guard := some (6, false) }) (v := ?v8f8) rfl (by kernel_rfl) (by kernel_rfl) (by kernel_rfl) (fun _ _ _ h => h) (Or.inl ⟨by rfl, ?hy8f8⟩) hHeld ?rest8f8
                      case hy8f8 =>
                        intro W' hV
                        try dsimp only at hV
                        go_simp
                        all_goals with_reducible rfl
                      case' rest8f8 => try simp only [Act.put, List.setIfInBounds_toArray, List.set_cons_zero, List.set_cons_succ]
                      refine wpAnyH_take (i := 9) (oi := { dst := some 164, op := Go.Op.move (Go.Operand.tmp 27), type := 3, pos := "law.go:122", after := #[{ on := 6, ground := Go.Ground.guard }], guard := some (6, false) }) (v := ?v9f9) rfl (by kernel_rfl) (by kernel_rfl) (by kernel_rfl) (fun _ _ _ h => h) (Or.inl ⟨by rfl, ?hy9f9⟩) hHeld ?rest9f9
                      case hy9f9 =>
                        intro W' hV
                        try dsimp only at hV
                        go_simp
                        all_goals with_reducible rfl
                      case' rest9f9 => try simp only [Act.put, List.setIfInBounds_toArray, List.set_cons_zero, List.set_cons_succ]
                      refine wpAnyH_take (i := 10) (oi := { dst := some 165, op := Go.Op.indexAddr 22 (Go.Operand.tmp 163) (Go.Operand.tmp 164), type := 0, pos := "law.go:122", after := #[{ on := 8, ground := Go.Ground.data }, { on := 9, ground := Go.Ground.data }, { on := 6, ground := Go.Ground.guard }], guard := some (6, false) }) (v := ?v10f10) rfl (by kernel_rfl) (by kernel_rfl) (by kernel_rfl) (fun _ _ _ h => h) (Or.inl ⟨by rfl, ?hy10f10⟩) hHeld ?rest10f10
                      case hy10f10 =>
                        intro W' hV
                        try dsimp only at hV
                        go_simp
                        all_goals with_reducible rfl
                      case' rest10f10 => try simp only [Act.put, List.setIfInBounds_toArray, List.set_cons_zero, List.set_cons_succ]
                      refine wpAnyH_take (i := 11) (oi := { dst := some 166, op := Go.Op.load 5 (Go.Operand.tmp 165), type := 5, pos := "law.go:122", after := #[{ on := 10, ground := Go.Ground.data }, { on := 6, ground := Go.Ground.guard }], guard := some (6, false) }) (v := ?v11f11) rfl (by kernel_rfl) (by kernel_rfl) (by kernel_rfl) (fun _ _ _ h => h) (Or.inl ⟨by rfl, ?hy11f11⟩) hHeld ?rest11f11
                      case hy11f11 =>
                        intro W' hV
                        try dsimp only at hV
                        have hcc := (World.cell?_of_block (w := W) (a := ⟨bx, ox + z, none⟩) (gb_block hV HCX.out.1 HCX.out.2.1)).trans HCX.out.2.2
                        go_simp
                        all_goals with_reducible rfl
                      case' rest11f11 => try simp only [Act.put, List.setIfInBounds_toArray, List.set_cons_zero, List.set_cons_succ]
                      refine wpAnyH_take (i := 13) (oi := { dst := some 168, op := Go.Op.move (Go.Operand.tmp 22), type := 22, pos := "law.go:122", after := #[{ on := 6, ground := Go.Ground.guard }], guard := some (6, false) }) (v := ?v13f12) rfl (by kernel_rfl) (by kernel_rfl) (by kernel_rfl) (fun _ _ _ h => h) (Or.inl ⟨by rfl, ?hy13f12⟩) hHeld ?rest13f12
                      case hy13f12 =>
                        intro W' hV
                        try dsimp only at hV
                        go_simp
                        all_goals with_reducible rfl
                      case' rest13f12 => try simp only [Act.put, List.setIfInBounds_toArray, List.set_cons_zero, List.set_cons_succ]
                      refine wpAnyH_take (i := 14) (oi := { dst := some 169, op := Go.Op.move (Go.Operand.tmp 27), type := 3, pos := "law.go:122", after := #[{ on := 6, ground := Go.Ground.guard }], guard := some (6, false) }) (v := ?v14f13) rfl (by kernel_rfl) (by kernel_rfl) (by kernel_rfl) (fun _ _ _ h => h) (Or.inl ⟨by rfl, ?hy14f13⟩) hHeld ?rest14f13
                      case hy14f13 =>
                        intro W' hV
                        try dsimp only at hV
                        go_simp
                        all_goals with_reducible rfl
                      case' rest14f13 => try simp only [Act.put, List.setIfInBounds_toArray, List.set_cons_zero, List.set_cons_succ]
                      refine wpAnyH_take (i := 15) (oi := { dst := some 170, op := Go.Op.indexAddr 22 (Go.Operand.tmp 168) (Go.Operand.tmp 169), type := 0, pos := "law.go:122", after := #[{ on := 13, ground := Go.Ground.data }, { on := 14, ground := Go.Ground.data }, { on := 6, ground := Go.Ground.guard }], guard := some (6, false) }) (v := ?v15f14) rfl (by kernel_rfl) (by kernel_rfl) (by kernel_rfl) (fun _ _ _ h => h) (Or.inl ⟨by rfl, ?hy15f14⟩) hHeld ?rest15f14
                      case hy15f14 =>
                        intro W' hV
                        try dsimp only at hV
                        go_simp
                        all_goals with_reducible rfl
                      case' rest15f14 => try simp only [Act.put, List.setIfInBounds_toArray, List.set_cons_zero, List.set_cons_succ]
                      refine wpAnyH_take (i := 16) (oi := { dst := some 171, op := Go.Op.load 5 (Go.Operand.tmp 170), type := 5, pos := "law.go:122", after := #[{ on := 15, ground := Go.Ground.data }, { on := 6, ground := Go.Ground.guard }], guard := some (6, false) }) (v := ?v16f15) rfl (by kernel_rfl) (by kernel_rfl) (by kernel_rfl) (fun _ _ _ h => h) (Or.inl ⟨by rfl, ?hy16f15⟩) hHeld ?rest16f15
                      case hy16f15 =>
                        intro W' hV
                        try dsimp only at hV
                        have hcc := (World.cell?_of_block (w := W) (a := ⟨by_, oy + z, none⟩) (gb_block hV HCY.out.1 HCY.out.2.1)).trans HCY.out.2.2
                        go_simp
                        all_goals with_reducible rfl
                      case' rest16f15 => try simp only [Act.put, List.setIfInBounds_toArray, List.set_cons_zero, List.set_cons_succ]
                      refine wpAnyH_ready (rs := [12]) (by kernel_rfl) (by simp) ?_
                      refine AllReadyH.cons (o := { dst := some 167, op := Go.Op.call { callee := Go.Callee.value (Go.Operand.func 16), args := #[Go.Operand.tmp 162, Go.Operand.tmp 166], argTypes := #[22, 5] }, type := 5, pos := "law.go:122", after := #[{ on := 7, ground := Go.Ground.data }, { on := 11, ground := Go.Ground.data }, { on := 6, ground := Go.Ground.chain }, { on := 6, ground := Go.Ground.guard }], guard := some (6, false) }) rfl (fun K' hK => ?_) AllReadyH.nil
                      rw [if_pos (by rfl)]
                      go_simp
                      go_wp2_with (go_at_call 16; refine HEV.out.mono ?_; rintro r w' ⟨rfl, rfl⟩)
                      refine hK.out _ _ hHeld (fun hHeld1 => ?_)
                      clear hK K' hHeld
                      have hHeld := hHeld1
                      clear hHeld1
                      try simp only [Act.put, List.setIfInBounds_toArray, List.set_cons_zero, List.set_cons_succ]
                      refine wpAnyH_take (i := 17) (oi := { dst := some 172, op := Go.Op.binOp Go.BinOp.neq 5 (Go.Operand.tmp 167) (Go.Operand.tmp 171) 5, type := 4, pos := "law.go:122", after := #[{ on := 12, ground := Go.Ground.data }, { on := 16, ground := Go.Ground.data }, { on := 6, ground := Go.Ground.guard }], guard := some (6, false) }) (v := ?v17f16) rfl (by kernel_rfl) (by kernel_rfl) (by kernel_rfl) (fun _ _ _ h => h) (Or.inl ⟨by rfl, ?hy17f16⟩) hHeld ?rest17f16
                      case hy17f16 =>
                        intro W' hV
                        try dsimp only at hV
                        go_simp
                        all_goals with_reducible rfl
                      case' rest17f16 => try simp only [Act.put, List.setIfInBounds_toArray, List.set_cons_zero, List.set_cons_succ]
                      refine wpAnyH_take (i := 18) (oi := { dst := some 173, op := Go.Op.pick (Go.Operand.tmp 161) (Go.Operand.const (Go.Value.bool true)) (Go.Operand.tmp 172), type := 4, pos := "law.go:122", after := #[{ on := 6, ground := Go.Ground.data }, { on := 17, ground := Go.Ground.data }], guard := none }) (v := ?v18f17) rfl (by kernel_rfl) (by kernel_rfl) (by kernel_rfl) (fun _ _ _ h => h) (Or.inl ⟨by rfl, ?hy18f17⟩) hHeld ?rest18f17
                      case hy18f17 =>
                        intro W' hV
                        try dsimp only at hV
                        go_simp
                        all_goals with_reducible rfl
                      case' rest18f17 => try simp only [Act.put, List.setIfInBounds_toArray, List.set_cons_zero, List.set_cons_succ]
                      refine wpAnyH_take (i := 19) (oi := { dst := some 174, op := Go.Op.indexAddr 44 (Go.Operand.tmp 155) (Go.Operand.tmp 156), type := 0, pos := "law.go:122", after := #[{ on := 0, ground := Go.Ground.data }, { on := 1, ground := Go.Ground.data }, { on := 0, ground := Go.Ground.phase }, { on := 1, ground := Go.Ground.phase }, { on := 2, ground := Go.Ground.phase }, { on := 3, ground := Go.Ground.phase }, { on := 4, ground := Go.Ground.phase }, { on := 5, ground := Go.Ground.phase }, { on := 6, ground := Go.Ground.phase }, { on := 7, ground := Go.Ground.phase }, { on := 8, ground := Go.Ground.phase }, { on := 9, ground := Go.Ground.phase }, { on := 10, ground := Go.Ground.phase }, { on := 11, ground := Go.Ground.phase }, { on := 12, ground := Go.Ground.phase }, { on := 13, ground := Go.Ground.phase }, { on := 14, ground := Go.Ground.phase }, { on := 15, ground := Go.Ground.phase }, { on := 16, ground := Go.Ground.phase }, { on := 17, ground := Go.Ground.phase }, { on := 18, ground := Go.Ground.phase }], guard := none }) (v := ?v19f18) rfl (by kernel_rfl) (by kernel_rfl) (by kernel_rfl) (fun _ _ _ h => h) (Or.inl ⟨by rfl, ?hy19f18⟩) hHeld ?rest19f18
                      case hy19f18 =>
                        intro W' hV
                        try dsimp only at hV
                        go_simp
                        all_goals with_reducible rfl
                      case' rest19f18 => try simp only [Act.put, List.setIfInBounds_toArray, List.set_cons_zero, List.set_cons_succ]
                      refine wpAnyH_ready (rs := [20]) (by kernel_rfl) (by simp) ?_
                      refine AllReadyH.cons (o := { dst := none, op := Go.Op.store 4 (Go.Operand.tmp 174) (Go.Operand.tmp 173), type := 0, pos := "law.go:122", after := #[{ on := 19, ground := Go.Ground.data }, { on := 18, ground := Go.Ground.data }, { on := 12, ground := Go.Ground.chain }, { on := 0, ground := Go.Ground.phase }, { on := 1, ground := Go.Ground.phase }, { on := 2, ground := Go.Ground.phase }, { on := 3, ground := Go.Ground.phase }, { on := 4, ground := Go.Ground.phase }, { on := 5, ground := Go.Ground.phase }, { on := 6, ground := Go.Ground.phase }, { on := 7, ground := Go.Ground.phase }, { on := 8, ground := Go.Ground.phase }, { on := 9, ground := Go.Ground.phase }, { on := 10, ground := Go.Ground.phase }, { on := 11, ground := Go.Ground.phase }, { on := 12, ground := Go.Ground.phase }, { on := 13, ground := Go.Ground.phase }, { on := 14, ground := Go.Ground.phase }, { on := 15, ground := Go.Ground.phase }, { on := 16, ground := Go.Ground.phase }, { on := 17, ground := Go.Ground.phase }, { on := 18, ground := Go.Ground.phase }], guard := none }) rfl (fun K' hK => ?_) AllReadyH.nil
                      rw [if_pos (by rfl)]
                      have hfd : W.drew.frozen? ⟨w4.heap.size + 1, z, none⟩ = false := hfw
                      have hcd : W.drew.cell? ⟨w4.heap.size + 1, z, none⟩ = some (.bool false) := hcw
                      go_simp
                      clear hfd hcd
                      refine hK.out _ _ (gb_trans hHeld (gb_set _ _ _ _)) (fun hHeld1 => ?_)
                      clear hK K' hHeld
                      have hHeld := hHeld1
                      clear hHeld1
                      try simp only [Act.put, List.setIfInBounds_toArray, List.set_cons_zero, List.set_cons_succ]
                      refine wpAnyH_done (by kernel_rfl) ?_ _
                      clear hHeld
                      go_wp2
                      go_roundw
                      case rel =>
                        refine ⟨z + 1, HLZ.out, by go_num, ?_, ?_⟩
                        · rw [← HSET.out]; exact Lib.hid ((own_belowV HWW.out (Below.refl _ _).drew).stored z (.bool (toI (ev p (co X z)) != toI (co (rw_ R z) i)))).1
                        · exact Lib.hid (gb_trans HGW.out (gb_trans (gb_drew (gb_refl _ _)) (gb_set _ _ _ _)))
                      case measure => simp [intOf]; have := HLZ.out; omega
                  · obtain rfl : L = z := by omega
                    have hw := HWW.out
                    rw [mixF_all] at hw
                    have HWN := Lib.hid hw
                    have HON := Lib.hid (HST.out.kept HGW.out (.inr (by show some w4.heap.size ≠ some (w4.heap.size + 1); intro e; injection e with e; omega)))
                    have HBN := Lib.hid (HB2.out.grown HGW.out HB2.out.size (fun g hg => by injection hg with hg; omega))
                    have HRN := Lib.hid (show ∀ z, z < i + 1 → RightP X (colM R L z) t e.toNat (rw_ P z) from fun z hz => by
                      rcases Nat.lt_succ_iff_lt_or_eq.1 hz with h | h
                      · exact HRI.out z h
                      · rw [h, ← HPE.out]; exact HRP.out)
                    clear hw hlz hz
                    go_wp2
                    go_roundw
                    case rel => exact ⟨i + 1, HIN.out, by go_num, HRN, HON, HWN, HBN⟩
                    case measure => simp [intOf]; have := HIN.out; omega
              · rcases HG.out with ⟨rfl, pa, rfl, hmd, hall⟩ | ⟨rfl, rfl, hbad⟩
                · exact absurd (hall i HIN.out) (hno _)
                · have HBZ := Lib.hid (bt HB4.out (bt HB.out (bt HU.out HU1.out)))
                  clear hno hbad HOR HG
                  go_wp2
                  go_ret
                  exact ⟨rfl, HBZ.out⟩
        · obtain rfl : n = i := by omega
          rcases HG.out with ⟨rfl, pa, rfl, hmd, hall⟩ | ⟨rfl, rfl, hbad⟩
          · have HMD := Lib.hid hmd
            have HB3V := Lib.hid (bt HB34.out HB.out)
            have HBV := Lib.hid (bt HB4.out HB.out)
            have HP6 := Lib.hid (show ∀ k, k < P.length → (rw_ P k).length ≤ 6 from fun k hk => by have := (hall k (by rw [← HPL.out]; exact hk)).2.1; have := HC.out; omega)
            have HAT := Lib.hid (fun (W : World) (hW : Below V.heap.size V W) => HRA.out.at_ pa P _ x W (HRA.out.keep _ _ _ _ _ HMD.out (bt HB3V.out hW)) (by rw [HPL.out]; have := HC.out; omega) HP6.out)
            have HWR := Lib.hid (fun (W : World) (hW : Below V.heap.size V W) => HRA.out.wrong pa P _ W (HRA.out.keep _ _ _ _ _ HMD.out (bt HB3V.out hW)) (by have := wrI_le X R P n L; have := HC.out; omega) (fun y hy => by have := wrI_mem hy; have := HC.out; omega))
            rw [HPL.out] at HAT
            have ho := HO.out
            rw [plV_all (by rw [evP_len, HPL.out])] at ho
            have HPT := Lib.hid (Pa.own2 ho)
            have hv1 : ∀ W, Below V.heap.size V W → (convert 22 9 (.slice (some ⟨w4.heap.size, 0, none⟩) n n)).run Try.prog W = .ok (.string (strOfNums (iL (evP P x)))) W := fun W hW => HPT.out.str_on rfl W hW
            have HWN := Lib.hid HRA.out.wrongNil
            have HAN := Lib.hid (fun (W : World) => HRA.out.atNil 1 W)
            rw [toI_one] at HAN
            have HD1 := Lib.hid (fun (W : World) => HRA.out.radius L t W (by have := HC.out; omega) (by have := HC.out; omega))
            have HD2 : Hid (∀ W : World, Calls Try.prog 19 #[.int .i64 1, .int .i64 3] W fun r w' => r = .returned (.int .i64 0) ∧ Below W.heap.size W w') := Lib.hid (fun (W : World) => HRA.out.radius 1 3 W (by omega) (by omega))
            obtain ⟨D, hD⟩ : ∃ D, D = L - t := ⟨_, rfl⟩
            obtain ⟨Rd, hRd⟩ : ∃ Rd, Rd = D / 2 := ⟨_, rfl⟩
            rw [← hD, ← hRd] at HD1
            have qD : (L : Int) - (t : Int) = (D : Int) := by omega
            have qD7 : (D : Int) ≤ 6 := by omega
            have qR1 : ∀ [Inhabited Unit], (D : Int).tdiv 2 = (Rd : Int) := fun [_] => by rw [Int.tdiv_eq_ediv_of_nonneg (by omega)]; omega
            have qR2 : ∀ [Inhabited Unit], (D : Int) / 2 = (Rd : Int) := fun [_] => by omega
            have qRd : (Rd : Int) ≤ 6 := by omega
            clear hD hRd ho hmd hall hlt hi HG
            go_upto_region 40 with fail
            go_region_held (fun W => Below V.heap.size V W) (first | exact (Below.refl _ _).drew | assumption | exact (Below.refl _ _).drew.trans hb8)
              (first | (go_at_call 17; go_loud ((with_reducible refine (HAT.out _ (by first | assumption | exact (Below.refl _ _).drew)).mono ?_); rintro r w8 ⟨g8, c8, rfl, hp8, hb8⟩; have hv8 := hp8.str_on rfl; have hrf8 := Below.refl w8.heap.size w8)))
            all_goals (
              have HB8 := Lib.hid (bt (Below.refl _ _).drew hb8)
              clear hv8 hp8 hrf8 hb8 hv1
              go_upto_region 44 with fail
              go_loopw [28, 190] (fun o s W => ∃ z : Nat, z ≤ L ∧ s = .int .i64 (z : Nat) ∧ o = .int .i64 ((wrI X R P n z).length : Nat) ∧ Hid (Below V.heap.size V W)) (fun _ s _ => L - (intOf s).toNat)
              case atStart => exact ⟨0, Nat.zero_le _, rfl, rfl, HB8⟩
              case round =>
                clear HB8
                obtain ⟨z, hz, rfl, rfl, HBW⟩ := hrel
                rename World => W
                obtain ⟨cnt, hcnt⟩ : ∃ cnt, cnt = (wrI X R P n z).length := ⟨_, rfl⟩
                obtain ⟨N, hN⟩ : ∃ N, N = (wrI X R P n L).length := ⟨_, rfl⟩
                have hN6 : (N : Int) ≤ 6 := by have := wrI_le X R P n L; have := HC.out; omega
                rw [← hcnt]
                by_cases hlz : z < L
                · have q3 : (z : Int) < (L : Int) := by omega
                  have q4 : (0 : Int) ≤ (z : Int) := by omega
                  have hcw := (own_belowV HW.out HBW.out).cellAt z (by omega)
                  rw [wrV_at hlz] at hcw
                  by_cases hw : wrF X R P n z = true
                  · rw [hw] at hcw
                    obtain ⟨h1, h2, h3⟩ := wrI_hit (X := X) (R := R) (P := P) hlz hw
                    rw [← hcnt, ← hN] at h1
                    rw [← hcnt] at h2 h3
                    have q5 : ¬ (N : Int) ≤ (cnt : Int) := by omega
                    have q6 : (cnt : Int) < (N : Int) := by omega
                    have q7 : (0 : Int) ≤ (cnt : Int) := by omega
                    have HH1 := Lib.hid h1
                    have HH2 := Lib.hid h2
                    have HH3 := Lib.hid h3
                    have HLZ := Lib.hid hlz
                    have HC1 := Lib.hid (HWR.out W HBW.out)
                    have HNE := Lib.hid hN
                    rw [← hN] at HC1
                    clear h1 h2 h3 hw hcnt hN hlz hz
                    go_wp2_with (first
                      | (go_at_call 18; go_loud (refine HC1.out.mono ?_; rintro r wA ⟨aA, cA, rfl, hiA, hbA⟩; have HBA := Lib.hid (bt HBW.out hbA); have hdA := hiA.bd; have HC2 := Lib.hid (HWR.out wA HBA.out); rw [← HNE.out] at HC2; clear hiA hbA HC1))
                      | (go_at_call 18; go_loud (refine HC2.out.mono ?_; rintro r wB ⟨aB, cB, rfl, hiB, hbB⟩; have HBB := Lib.hid (bt HBA.out hbB); obtain ⟨bB, oB, rfl, hltB, hcB⟩ := hiB.at_ (i := cnt) HH1.out; rw [HH2.out] at hcB; have hdB := hiB.bd; clear hiB hbB HC2)))
                    go_roundw
                    case rel => exact ⟨z + 1, HLZ.out, by go_num, by rw [HH3.out]; go_num, HBB⟩
                    case measure => simp [intOf]; have := HLZ.out; omega
                  · have hw2 : wrF X R P n z = false := by simpa using hw
                    have HNX := Lib.hid (show (wrI X R P n (z + 1)).length = cnt by rw [wrI_next, hw2, hcnt]; simp)
                    rw [hw2] at hcw
                    have HLZ := Lib.hid hlz
                    clear hw hw2 hcnt hN hlz hz
                    go_wp2
                    go_roundw
                    case rel => exact ⟨z + 1, HLZ.out, by go_num, by rw [HNX.out], HBW⟩
                    case measure => simp [intOf]; have := HLZ.out; omega
                · obtain rfl : L = z := by omega
                  obtain rfl : cnt = N := by rw [hcnt, hN]
                  have HC1 := Lib.hid (HWR.out W HBW.out)
                  rw [← hcnt] at HC1
                  have HNE := Lib.hid hcnt
                  clear hcnt hN hlz hz
                  go_wp2_with (first
                    | (go_at_call 18; go_loud (refine HC1.out.mono ?_; rintro r wA ⟨aA, cA, rfl, hiA, hbA⟩; have HBA := Lib.hid (bt HBW.out hbA); have hdA := hiA.bd; have HC2 := Lib.hid (HAN.out wA); clear hiA hbA HC1))
                    | (go_at_call 17; go_loud (refine HC2.out.mono ?_; rintro r wB ⟨aB, cB, rfl, hbB⟩; have HBB := Lib.hid (bt HBA.out hbB); have HC3 := Lib.hid (HWN.out wB); clear hbB HC2))
                    | (go_at_call 18; go_loud (refine HC3.out.mono ?_; rintro r wC ⟨aC, cC, rfl, hbC⟩; have HBC := Lib.hid (bt HBB.out hbC); have HC4 := Lib.hid (HD1.out wC); clear hbC HC3))
                    | (go_at_call 19; go_loud (refine HC4.out.mono ?_; rintro r wD ⟨rfl, hbD⟩; have HBD := Lib.hid (bt HBC.out hbD); have HC5 := Lib.hid (HD2.out wD); clear hbD HC4))
                    | (go_at_call 19; go_loud (refine HC5.out.mono ?_; rintro r wE ⟨rfl, hbE⟩; have HBE := Lib.hid (bt HBD.out hbE); clear hbE HC5)))
                  go_ret
                  exact ⟨rfl, bt HBV.out HBE.out⟩)
          · obtain ⟨k, hk, hno⟩ := hbad
            exact absurd (HRI.out k hk) (hno _)

end Go.Proofs.Ytfmjfdbbjggcpaa
