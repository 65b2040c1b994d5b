/- JournalGoes' walk. -/
import Derived.Test.YtkfdcdfaikkneaaGreatDoorXw
import Derived.Test.YtkfdcdfaikkneaaGreatDoorDK
import Derived.Test.YtkfdcdfaikkneaaGreatDoorRb1
import Derived.Deep.CutRange
import Derived.Deep.CutBlock
namespace Go.Proofs.YtkfdcdfaikkneaaGreatDoor
open Go.ChangeShapes Go.WideShapes Go.ChangeAt Go.RowKit Go.Shelf
set_option linter.unusedVariables false
set_option linter.unusedSimpArgs false
set_option maxRecDepth 100000
attribute [local go_sem] Oper.semAt_some

theorem size26 : (Tryz.prog.info? 26).map (·.size) = some 14 := by kernel_rfl
theorem str_ne0 {l : List Int} (h : 0 < l.length) : ((strOfNums l).toList == []) = false := by
  rw [Lib.strOfNums_toList, beq_eq_false_iff_ne]
  intro e
  have := congrArg List.length e
  simp [Lib.bytesOf] at this
  subst this; simp at h
theorem goStep {B : Nat} {w' : World} {F F' Fp : Nat → Prop} {w : World} {a : Option Addr} {n c : Nat} {A : List ByteArray} (h : StrR B w a n c A) (hf : ∀ g, (Value.slice a n c).ownBlock = some g → Fr F Fp w g) (hs : Stp F Fp w F' w') : StrR B w' a n c A ∧ ∀ g, (Value.slice a n c).ownBlock = some g → Fr F' Fp w' g :=
  ⟨⟨h.1, own_blockT h.2 (fun g e => hs.same (hf g e))⟩, fun g e => hs.fr (hf g e)⟩
theorem settled_go (st n gg g : Int) (b : Bool) (hb : stdB ⟨st, n, gg⟩ g = b) (v : Value) (w V : World) (hB : Below w.heap.size w V) (hv : v.oneCell' = true) :
    Calls Tryz.prog 11 #[.agg #[.int .u8 st, .int .u8 n, .int .u64 gg, v], .int .u64 g] V fun e w' => e = .returned (.bool b) ∧ Below w.heap.size w w' := by
  refine (settled_any ⟨st, n, gg⟩ v g V hv).mono ?_
  rintro e w' ⟨h1, h2⟩
  exact ⟨by rw [h1, hb], bt hB h2⟩
theorem same_go (B1 B2 : Nat) (a1 a2 : Option Addr) (n c1 c2 : Nat) (A : List ByteArray) (w V : World) (hB : Below w.heap.size w V) (h1 : StrR B1 w a1 n c1 A) (h2 : StrR B2 w a2 n c2 A) :
    Calls Tryz.prog 13 #[.slice a1 n c1, .slice a2 n c2] V fun e w' => e = .returned (.bool true) ∧ Below w.heap.size w w' :=
  (same_yes B1 B2 a1 a2 n c1 c2 A V (h1.on hB) (h2.on hB)).mono fun _ _ h => ⟨h.1, bt hB h.2⟩
set_option maxHeartbeats 32000000 in
theorem journalGoes_core (a0 : Option Addr) (n0 c0 : Nat) (L0 : List (Int × Int)) (a1 : Option Addr) (n1 c1 : Nat) (L1 : List (Int × Int)) (P : SU) (hz : P.nm = List.replicate 8 0 ∧ P.inn = List.replicate 256 false) (hP : P.Wf) (aN : Option Addr) (lN cN : Nat) (aI : Option Addr) (lI cI : Nat) (N I : List Int) (w : World)
    (h0 : ArgS w a0 n0 c0 L0) (h1 : ArgS w a1 n1 c1 L1) (hN : Arg8c w aN lN cN N) (hI : Arg8c w aI lI cI I) (hG : Gl w) (hn0 : n0 ≤ 20) (hn1 : n1 ≤ 20) (hI20 : lI ≤ 20) :
    Calls Tryz.prog 3 #[.slice a0 n0 c0, .slice a1 n1 c1, .agg #[.slice aN lN cN, .int .u8 P.p, .int .u8 P.n, .int .u8 P.t, .int .u8 P.m, .int .u8 P.c, .int .u32 P.bl, .int .u32 P.bo, .int .u32 P.ep, .slice aI lI cI, .int .u32 P.rf, .int .u32 P.sc, .int .u8 P.tg, .int .u32 P.rs]] w fun e w' => e = .returned (.bool true) ∧ Below w.heap.size w w' := by
  have H0 := Lib.hid h0
  have H1 := Lib.hid h1
  have HNN := Lib.hid hN
  have HII := Lib.hid hI
  have b0 := h0.bd
  have b1 := h1.bd
  have hIk := hI.1.2.2.2
  have hNk := hN.1.2.2.2
  unfold maxLen at hIk hNk
  have HGG := Lib.hid hG
  obtain ⟨A, hA⟩ : ∃ A, A = w.alloc (.cells #[.slice aN lN cN, .int .u8 P.p, .int .u8 P.n, .int .u8 P.t, .int .u8 P.m, .int .u8 P.c, .int .u32 P.bl, .int .u32 P.bo, .int .u32 P.ep, .slice aI lI cI, .int .u32 P.rf, .int .u32 P.sc, .int .u8 P.tg, .int .u32 P.rs] 26) := ⟨_, rfl⟩
  have hwA : Below w.heap.size w A := by rw [hA]; exact (Below.refl _ _).alloc (Nat.le_refl _) _
  have hAs : A.heap.size = w.heap.size + 1 := by rw [hA]; simp
  have r0 : A.heap[w.heap.size]? = some (.cells #[.slice aN lN cN, .int .u8 P.p, .int .u8 P.n, .int .u8 P.t, .int .u8 P.m, .int .u8 P.c, .int .u32 P.bl, .int .u32 P.bo, .int .u32 P.ep, .slice aI lI cI, .int .u32 P.rf, .int .u32 P.sc, .int .u8 P.tg, .int .u32 P.rs] 26 (0, 0)) := by rw [hA]; exact heap_alloc_new w _
  have HA := Lib.hid (And.intro hA (And.intro hwA (And.intro hAs r0)))
  have q0 : ¬ (20 : Int) < (n0 : Int) := by omega
  have q1 : ¬ (20 : Int) < (n1 : Int) := by omega
  have qI : ¬ (20 : Int) < (lI : Int) := by omega
  have hg3 : genI 3 := ⟨by omega, by omega⟩
  have hg4 : genI 4 := ⟨by omega, by omega⟩
  have HG3 := Lib.hid hg3
  have HG4 := Lib.hid hg4
  have HOF := Lib.hid (fun (W : World) (hW : Below w.heap.size w W) => of_new P hz hP aN aI lN cN lI cI N I W (hN.onV hW) (hI.onV hW) hI20)
  have HW2 := Lib.hid (SU.mk2_wf (P := P) (I := I) hP hN.1.2.1)
  obtain ⟨P2, hP2⟩ : ∃ P2, P2 = P.mk2 N I := ⟨_, rfl⟩
  rw [← hP2] at HOF HW2
  obtain ⟨hz0, hi0⟩ := zero_of_info infoSu
  clear hi0
  obtain ⟨cz, hcz⟩ : ∃ s, s = tabV 276 (suV suZ) := ⟨_, rfl⟩
  rw [← hcz] at hz0
  have HCZ := Lib.hid (show suA suZ = .agg cz by rw [hcz]; rfl)
  have HSZ := Lib.hid (show (Tryz.prog.info? 33).map (·.size) = some cz.size ∧ cz.all (·.oneCell') = true by rw [hcz, size_tabV]; exact ⟨sizeSu, tabV_one (suV_one suZ)⟩)
  have HCZ2 := Lib.hid hcz
  clear h0 h1 hN hI hG hA hwA hAs r0 hg3 hg4 hz hP hP2 hcz
  go_enter Tryz.func3, Tryz.ntmps3
  go_upto_region 3 with (go_at_call 4; go_loud (rw [← HA.out.1]; refine (lives15 A).mono ?_; rintro e w1 ⟨rfl, hb1⟩; have HB1 := Lib.hid hb1; have HBX := Lib.hid ((hb1.block w.heap.size (by rw [HA.out.2.2.1]; omega)).trans HA.out.2.2.2); obtain ⟨-, -, -, -, -, -, -, -, -, y9, -⟩ := cell14 HBX.out; clear hb1))
  go_upto_region 4 with (go_at_call 5; go_loud (refine (made15_any none FN15 (-1) 0 0 w1 ⟨fun k h => h, rfl, rfl⟩ (by unfold LeftOk; omega) (Nat.le_refl _)).mono ?_; rintro e w2 ⟨tb, F2, rfl, hm, hf, hb⟩; have HM2 := Lib.hid (show MJ w2 tb F2 (memS (MS.new 24).med) none FN15 (-1) 0 0 from hm); have HF2 := Lib.hid hf; have HB2 := Lib.hid (bt HB1.out hb); clear hm hf hb y9))
  have HJ2 := Lib.hid (jsuper_any HM2.out (by omega) rfl (by omega) (HGG.out.on (bt HA.out.2.1 HB2.out) HGG.out.1))
  rw [(js_none (M := (MS.new 24).med) rfl).1, (js_none (M := (MS.new 24).med) rfl).2, HCZ.out] at HJ2
  go_upto_region 5 with (first
    | (go_at_call 6; go_loud (refine HJ2.out.mono ?_; rintro e w3 ⟨rfl, hb⟩; have HB3 := Lib.hid hb; clear hb))
    | ((with_reducible show wpList _ _ _ (⟨none, Op.store 33 _ _, _, _, _, _⟩ :: _) _ _); go_loud (refine wpList_store_row rfl 33 (.tmp 8) (.tmp 52) rfl w3.heap.size cz rfl rfl 33 cz (heap_alloc_new w3 _) HSZ.out.1 rfl HSZ.out.2 ?_)))
  obtain ⟨X3, hX3⟩ : ∃ X3, X3 = (w3.alloc (.cells cz 33)).setRow w3.heap.size cz := ⟨_, rfl⟩
  rw [← hX3]
  have HX3 := Lib.hid (show Below w2.heap.size w2 X3 from bt HB3.out (by rw [hX3]; exact below_setRow ((Below.refl _ _).alloc (Nat.le_refl _) _) (Nat.le_refl _) _))
  clear hX3 HJ2
  go_upto_region 7 with fail
  go_upto_region 8 with (first
    | (go_at_call_of 7 (Value.int IntKind.u64 3); go_loud (refine (of15 a0 n0 c0 L0 3 1 X3 (H0.out.on (bt HA.out.2.1 (bt HB2.out HX3.out))) (by omega) (by unfold byteI; omega) HG3.out).mono ?_; rintro e w4 ⟨aO, cO, ZO, rfl, hp, hs, hb⟩; have HPO := Lib.hid hp; have HSO := Lib.hid hs; have HB4 := Lib.hid hb; clear hp hs hb))
    | (go_at_call_of 7 (Value.int IntKind.u64 4); go_loud (refine (of15 a1 n1 c1 L1 4 1 w4 (H1.out.on (bt HA.out.2.1 (bt HB2.out (bt HX3.out HB4.out)))) (by omega) (by unfold byteI; omega) HG4.out).mono ?_; rintro e w5 ⟨aM, cM, ZM, rfl, hp, hs, hb⟩; have HPM := Lib.hid hp; have HSM := Lib.hid hs; have HB5 := Lib.hid hb; clear hp hs hb)))
  obtain ⟨X5, hX5⟩ : ∃ X5, X5 = w5.alloc (.cells #[.slice aO ZO.length cO, .slice aM ZM.length cM] 37) := ⟨_, rfl⟩
  rw [← hX5]
  have HBX5 := Lib.hid (show Below w5.heap.size w5 X5 from by rw [hX5]; exact (Below.refl _ _).alloc (Nat.le_refl _) _)
  have HKS := Lib.hid (show X5.heap[w5.heap.size]? = some (.cells #[.slice aO ZO.length cO, .slice aM ZM.length cM] 37 (0, 0)) from by rw [hX5]; exact heap_alloc_new w5 _)
  clear hX5
  have HW3 := Lib.hid (bt HB2.out HX3.out)
  have HW5 := Lib.hid (bt HW3.out (bt HB4.out (bt HB5.out HBX5.out)))
  have HB35 := Lib.hid (bt HX3.out (bt HB4.out (bt HB5.out HBX5.out)))
  have hin : ∀ k, F2 k ∨ FN15 k → k < w2.heap.size := fun k hk => HM2.out.inside hk
  have hs3 := HX3.out.size
  have hs4 := HB4.out.size
  have hs5 := HB5.out.size
  have HMX := Lib.hid (HM2.out.on HB35.out)
  have HZO := Lib.hid (show ShRow X5 aO ZO.length cO ZO ∧ ShFr F2 FN15 X5 aO ZO.length cO ZO from ⟨(HSO.out.on (bt HB5.out HBX5.out)).sh, (HSO.out.on (bt HB5.out HBX5.out)).fr (fun k hk => by have := hin k hk; omega)⟩)
  have HZM := Lib.hid (show ShRow X5 aM ZM.length cM ZM ∧ ShFr F2 FN15 X5 aM ZM.length cM ZM from ⟨(HSM.out.on HBX5.out).sh, (HSM.out.on HBX5.out).fr (fun k hk => by have := hin k hk; omega)⟩)
  have HCO := Lib.hid (HPO.out.ch (by unfold byteI; omega) (by omega) HG3.out)
  have HCM := Lib.hid (HPM.out.ch (by unfold byteI; omega) (by omega) HG4.out)
  have HFS := Lib.hid (show Fr F2 FN15 X5 w5.heap.size from HM2.out.fr_new (by omega) (Array.getElem?_eq_some_iff.1 HKS.out).1)
  have HHI := Lib.hid (show ∀ k, F2 k ∨ FN15 k → A.heap.size ≤ k from fun k hk => hk.elim (fun h => Nat.le_trans HB1.out.size (HF2.out k h)) (fun h => h.elim))
  clear hin hs3 hs4 hs5 HSO HSM HPO HPM HB4 HB5 HBX5 HX3 HB35 HF2 HB3
  go_wp2_with fail
  go_loopw [62] (fun q wr => ∃ (k : Nat) (F : Nat → Prop) (u : Nat) (M : Nat → Option (List Int)) (cb : List Int) (H : Nat → List Int), k ≤ 2 ∧ q = .int .i64 (k : Nat) ∧ MJ wr tb F (memS M) none FN15 (-1) u (72 * k) ∧ Std M cb [] H ∧ M 0 = some zsec ∧ ((k = 0 ∧ cb = zsec) ∨ (k = 1 ∧ cb = CM.B ⟨2, 0, 3⟩) ∨ k = 2) ∧ Stp F2 FN15 X5 F wr) (fun q _ => 2 - (intOf q).toNat)
  case atStart => exact ⟨0, F2, 0, _, _, _, Nat.zero_le _, rfl, HMX.out, std0, rfl, .inl ⟨rfl, rfl⟩, Stp.refl _ _ _⟩
  case round =>
    obtain ⟨k, F, u, M, cb, H, hk, rfl, hm, hstd, hM0, hcb, hs⟩ := hrel
    rename World => V
    have HMV := Lib.hid hm
    have HSV := Lib.hid hs
    have HSTD := Lib.hid hstd
    have HM0 := Lib.hid hM0
    have hVr := (HSV.out.same HFS.out).trans HKS.out
    have HZOV := Lib.hid (HZO.out.1.step HZO.out.2 hs)
    have HZMV := Lib.hid (HZM.out.1.step HZM.out.2 hs)
    clear hm hs hstd hM0
    by_cases hlt : k < 2
    · have HLT := Lib.hid hlt
      obtain ⟨g, a, n, c, Z, cP, hgk, hcell, hc, hz, hcP, hst⟩ : ∃ (g : Int) (a : Option Addr) (n c : Nat) (Z : List SZ) (cP : CM), g = 3 + (k : Int) ∧ V.cell? ⟨w5.heap.size, k, none⟩ = some (.slice a n c) ∧ ChP g (L_ Z) ∧ (ShRow V a n c Z ∧ ShFr F FN15 V a n c Z) ∧ ((cb = zsec ∧ cP = ⟨0, 0, 0⟩) ∨ (cb = cP.B ∧ cP.Wf ∧ cP.Ok)) ∧ stdB cP g = false := by
        rcases hcb with ⟨rfl, rfl⟩ | ⟨rfl, rfl⟩ | rfl
        · exact ⟨3, aO, ZO.length, cO, ZO, ⟨0, 0, 0⟩, rfl, by rw [cell_of_row _ w5.heap.size _ _ _ _ hVr]; rfl, HCO.out, HZOV.out, .inl ⟨rfl, rfl⟩, by rfl⟩
        · exact ⟨4, aM, ZM.length, cM, ZM, ⟨2, 0, 3⟩, rfl, by rw [cell_of_row _ w5.heap.size _ _ _ _ hVr]; rfl, HCM.out, HZMV.out, .inr ⟨rfl, cmOk2 HG3.out⟩, by rfl⟩
        · omega
      have HC := Lib.hid hc
      have HZV := Lib.hid hz
      have HCP := Lib.hid hcP
      have HST := Lib.hid hst
      have HGK := Lib.hid hgk
      have hbd := hz.1.bd
      have HGI := Lib.hid hc.gen
      have hzn := hz.1.len
      have h5 : n ≤ 5 := by have := hc.few; rw [List.length_map, hzn] at this; exact this
      have q2 : (k : Int) < 2 := by omega
      have q3 : (0 : Int) ≤ (k : Int) := by omega
      have hw1 : IntKind.i64.wrap (3 + (k : Int)) = g := by rw [IntKind.wrap_i64]; omega
      have hw2 : IntKind.u64.wrap g = g := by rw [IntKind.wrap_u64]; omega
      have H5 := Lib.hid h5
      obtain ⟨L, hL⟩ : ∃ L, L = L_ Z := ⟨_, rfl⟩
      have HL := Lib.hid hL
      rw [← hL] at HC
      have HLn := Lib.hid (show L.length = n by rw [hL, List.length_map, hzn])
      have HSEQ := Lib.hid (seqG4 HSTD.out HC.out)
      clear hzn hc hz hcP hst hgk hlt hcb hVr HZOV HZMV hL
      go_upto_region 11 with fail
      go_upto_region 12 with (go_at_call 8; go_loud (refine (homes_any HMV.out (by have := HLT.out; omega) rfl (by omega) (show 24 ≤ 24 by omega) H HSTD.out.home).mono ?_; rintro e w6 ⟨aB, cB, rfl, hs6, hb6⟩; have HBF := Lib.hid hs6; have HB6 := Lib.hid hb6; clear hs6 hb6))
      have HM6 := Lib.hid (HMV.out.on HB6.out)
      have HBFR := Lib.hid (show ∀ g, (Value.slice aB 6 cB).ownBlock = some g → Fr F FN15 w6 g from fun g e => HMV.out.fr_new (own_lt HBF.out.2 e).1 (own_lt HBF.out.2 e).2)
      have HZ6 := Lib.hid (show ShRow w6 a n c Z ∧ ShFr F FN15 w6 a n c Z from ⟨HZV.out.1.on HB6.out, HZV.out.2.up HB6.out.size⟩)
      have hbB := HBF.out.bd
      clear hcell
      go_wp2_with fail
      go_loopw [75] (fun q wr => ∃ (i : Nat) (F' : Nat → Prop) (u' : Nat), i ≤ 4 ∧ q = .int .i64 (i : Nat) ∧ MJ wr tb F' (memS (seqG g L M i)) none FN15 (-1) u' (72 * k + 18 * i) ∧ Stp F FN15 w6 F' wr) (fun q _ => 4 - (intOf q).toNat)
      case atStart => exact ⟨0, F, u, Nat.zero_le _, rfl, HM6.out, Stp.refl _ _ _⟩
      case round =>
        obtain ⟨i, F', u', hi, rfl, hm, hs⟩ := hrel
        rename World => Y
        have HMY := Lib.hid hm
        have HSY := Lib.hid hs
        clear hm hs
        by_cases hlt : i < 4
        · have HLI := Lib.hid hlt
          have qi4 : (i : Int) < 4 := by omega
          have HZY := Lib.hid (HZ6.out.1.step HZ6.out.2 HSY.out)
          have HBY := Lib.hid (goStep HBF.out HBFR.out HSY.out)
          have HKK := Lib.hid (show 72 * k + 18 * i + 18 ≤ 700 by have := HLT.out; omega)
          clear hi
          have hcls : i = 0 ∨ i = 1 ∨ i = 2 ∨ i = 3 := by omega
          clear hlt
          rcases hcls with hi0 | hi1 | hi2 | hi3
          · have p1 : decide ((0 : Int) < (i : Int)) = false := decide_eq_false (by omega)
            have p2 :  (i : Int) < 3 := by omega
            have p1b : decide (0 < i) = false := decide_eq_false (by omega)
            have p3 : ((i : Int) == 3) = false := by rw [hi0]; rfl
            have p4 :  (i : Int) < 2 := by omega
            have HSTD1 := Lib.hid (show Std (seqG g L M (i + 1)) (cb) L (H) from by rw [hi0]; exact HSEQ.out.1)
            obtain ⟨cS, hcS⟩ : ∃ cS : CM, cS = cP := ⟨_, rfl⟩
            have HCB1 := Lib.hid (show ((cb) = zsec ∧ cS = ⟨0, 0, 0⟩) ∨ ((cb) = cS.B ∧ cS.Wf ∧ cS.Ok) from by rw [hcS]; exact HCP.out)
            have hsb : stdB cS g = false := by rw [hcS]; exact HST.out
            have HSB := Lib.hid hsb
            clear hcS hsb hi0
            go_upto_region 17 with (go_at_call 9; go_loud (refine (step_sure HMY.out (by have := HKK.out; omega) i HLI.out g a n c Z (by rw [← HL.out]; exact HC.out) HZY.out.1 HZY.out.2).mono ?_; rintro e w7 ⟨F7, u7, rfl, hm7, hs7⟩; rw [← HL.out] at hm7; have HM7 := Lib.hid (show MJ w7 tb F7 (memS (seqG g L M (i + 1))) none FN15 (-1) u7 (72 * k + 18 * i + 18) from hm7); have HS7 := Lib.hid (HSY.out.trans hs7); have HBF7 := Lib.hid (goStep HBY.out.1 HBY.out.2 hs7); clear hm7 hs7))
            go_upto_region 18 with (go_at_call 10; go_loud (refine (look_std (g := g) (c := cS) HM7.out (by have := HKK.out; omega) (by omega) HSTD1.out HCB1.out HC.out).mono ?_; rintro e w8 ⟨aS, kS, ZS, rfl, hL8, hs8, hb8⟩; have hz8 : ZS.length = n := (by have h := congrArg List.length hL8; rw [List.length_map, HLn.out] at h; exact h); rw [hz8]; have HL8 := Lib.hid hL8; have HS8 := Lib.hid hs8; have HB8 := Lib.hid hb8; have HZ8 := Lib.hid hz8; clear hL8 hs8 hb8 hz8; unfold stG))
            obtain ⟨X8, hX8⟩ : ∃ X8, X8 = w8.alloc (.cells #[.int .u8 cS.st, .int .u8 cS.n, .int .u64 cS.g, .slice aS n kS] 48) := ⟨_, rfl⟩
            rw [← hX8]
            have HBX8 := Lib.hid (show Below w7.heap.size w7 X8 from bt HB8.out (by rw [hX8]; exact (Below.refl _ _).alloc (Nat.le_refl _) _))
            have HKV := Lib.hid (show X8.heap[w8.heap.size]? = some (.cells #[.int .u8 cS.st, .int .u8 cS.n, .int .u64 cS.g, .slice aS n kS] 48 (0, 0)) from by rw [hX8]; exact heap_alloc_new w8 _)
            have HSRX := Lib.hid (show ShRow X8 aS n kS ZS from by
              have h := (HS8.out.on (by rw [hX8]; exact (Below.refl _ _).alloc (Nat.le_refl _) _ : Below w8.heap.size w8 X8)).sh
              rw [HZ8.out] at h; exact h)
            clear hX8
            have HSTX := Lib.hid (show w8.heap.size < X8.heap.size from (Array.getElem?_eq_some_iff.1 HKV.out).1)
            have HSE := Lib.hid (fun (W : World) (hW : Below X8.heap.size X8 W) => settled_go cS.st cS.n cS.g g false HSB.out (.slice aS n kS) X8 W hW rfl)
            have HHO := Lib.hid (fun (W : World) (hW : Below X8.heap.size X8 W) => holds_any cS.st cS.n cS.g g aS n kS ZS X8 W hW HSRX.out (fun s hs => by rw [HL8.out] at hs; exact ((HC.out).wf s hs).2.2.2))
            have HBc := Lib.hid (Below.refl X8.heap.size X8)
            have hbS := HSRX.out.bd
            obtain ⟨c0, c1, c2, c3⟩ := cell4 HKV.out
            obtain ⟨bn, hbn⟩ : ∃ bn, bn = decide (0 < n) := ⟨_, rfl⟩
            have HDN := Lib.hid hbn.symm
            have qn1 : decide ((0 : Int) < (n : Int)) = bn := by rw [hbn]; by_cases h : 0 < n <;> simp [h]
            have qn2 : decide (0 < n) = bn := hbn.symm
            have qbb : (bn != bn) = false := by simp
            clear hbn
            go_upto_region 20 with (first
              | (go_at_call 11; go_loud (refine (HSE.out _ HBc.out).mono ?_; rintro e w' ⟨rfl, hb⟩; obtain ⟨c0, c1, c2, c3⟩ := cell4 ((hb.block _ HSTX.out).trans HKV.out); have HBc := Lib.hid hb; clear hb))
              | (go_at_call 12; go_loud (refine (HHO.out _ HBc.out).mono ?_; rw [HDN.out]; rintro e w' ⟨rfl, hb⟩; obtain ⟨c0, c1, c2, c3⟩ := cell4 ((hb.block _ HSTX.out).trans HKV.out); have HBc := Lib.hid hb; clear hb)))
            rename World => W9
            have HM9 := Lib.hid (HM7.out.on (bt HBX8.out HBc.out))
            go_upto_region 21 with (go_at_call 8; go_loud (refine (homes_any HM9.out (by have := HKK.out; omega) rfl (by omega) (show 24 ≤ 24 by omega) (H) HSTD1.out.home).mono ?_; rintro e w10 ⟨aX, cX, rfl, hs10, hb10⟩; have HN10 := Lib.hid hs10; have HB10 := Lib.hid hb10; clear hs10 hb10))
            have HW10 := Lib.hid (bt HBX8.out (bt HBc.out HB10.out))
            have HBF10 := Lib.hid (HBF7.out.1.on HW10.out)
            have hbX := HN10.out.bd
            go_wp2_with (go_at_call 13; go_loud (refine (same_go _ _ _ _ 6 _ _ _ w10 w10 (Below.refl _ _) HN10.out HBF10.out).mono ?_; rintro e w11 ⟨rfl, hb11⟩; have HW11 := Lib.hid (bt HW10.out hb11); clear hb11))
            go_roundw
            case rel => exact ⟨i + 1, F7, u7, HLI.out, by go_num, (HM7.out.on HW11.out).more (by omega), HS7.out.on HW11.out⟩
            case measure => simp [intOf]; have := HLI.out; omega
          · have p1 : (0 : Int) < (i : Int) := by omega
            have p2 :  (i : Int) < 3 := by omega
            have p3 : ((i : Int) == 3) = false := by rw [hi1]; rfl
            have p4 :  (i : Int) < 2 := by omega
            have HSTD1 := Lib.hid (show Std (seqG g L M (i + 1)) (CM.B ⟨1, (L.length : Nat), g⟩) L (H) from by rw [hi1]; exact HSEQ.out.2.1)
            obtain ⟨cS, hcS⟩ : ∃ cS : CM, cS = ⟨1, (L.length : Nat), g⟩ := ⟨_, rfl⟩
            have HCB1 := Lib.hid (show ((CM.B ⟨1, (L.length : Nat), g⟩) = zsec ∧ cS = ⟨0, 0, 0⟩) ∨ ((CM.B ⟨1, (L.length : Nat), g⟩) = cS.B ∧ cS.Wf ∧ cS.Ok) from by rw [hcS]; exact .inr ⟨rfl, cmOk1 HC.out.few HGI.out⟩)
            have hsb : stdB cS g = true := by rw [hcS]; exact (by unfold stdB; simp)
            have hwn : IntKind.i64.wrap cS.n = (n : Int) := by
              rw [hcS, ← HLn.out, IntKind.wrap_i64]
              have := HC.out.few
              show ((((L.length : Nat) : Int) + 9223372036854775808) % 18446744073709551616 - 9223372036854775808) = _
              omega
            have HSB := Lib.hid hsb
            clear hcS hsb hi1
            go_upto_region 17 with (go_at_call 9; go_loud (refine (step_sure HMY.out (by have := HKK.out; omega) i HLI.out g a n c Z (by rw [← HL.out]; exact HC.out) HZY.out.1 HZY.out.2).mono ?_; rintro e w7 ⟨F7, u7, rfl, hm7, hs7⟩; rw [← HL.out] at hm7; have HM7 := Lib.hid (show MJ w7 tb F7 (memS (seqG g L M (i + 1))) none FN15 (-1) u7 (72 * k + 18 * i + 18) from hm7); have HS7 := Lib.hid (HSY.out.trans hs7); have HBF7 := Lib.hid (goStep HBY.out.1 HBY.out.2 hs7); clear hm7 hs7))
            go_upto_region 18 with (go_at_call 10; go_loud (refine (look_std (g := g) (c := cS) HM7.out (by have := HKK.out; omega) (by omega) HSTD1.out HCB1.out HC.out).mono ?_; rintro e w8 ⟨aS, kS, ZS, rfl, hL8, hs8, hb8⟩; have hz8 : ZS.length = n := (by have h := congrArg List.length hL8; rw [List.length_map, HLn.out] at h; exact h); rw [hz8]; have HL8 := Lib.hid hL8; have HS8 := Lib.hid hs8; have HB8 := Lib.hid hb8; have HZ8 := Lib.hid hz8; clear hL8 hs8 hb8 hz8; unfold stG))
            obtain ⟨X8, hX8⟩ : ∃ X8, X8 = w8.alloc (.cells #[.int .u8 cS.st, .int .u8 cS.n, .int .u64 cS.g, .slice aS n kS] 48) := ⟨_, rfl⟩
            rw [← hX8]
            have HBX8 := Lib.hid (show Below w7.heap.size w7 X8 from bt HB8.out (by rw [hX8]; exact (Below.refl _ _).alloc (Nat.le_refl _) _))
            have HKV := Lib.hid (show X8.heap[w8.heap.size]? = some (.cells #[.int .u8 cS.st, .int .u8 cS.n, .int .u64 cS.g, .slice aS n kS] 48 (0, 0)) from by rw [hX8]; exact heap_alloc_new w8 _)
            have HSRX := Lib.hid (show ShRow X8 aS n kS ZS from by
              have h := (HS8.out.on (by rw [hX8]; exact (Below.refl _ _).alloc (Nat.le_refl _) _ : Below w8.heap.size w8 X8)).sh
              rw [HZ8.out] at h; exact h)
            clear hX8
            have HSTX := Lib.hid (show w8.heap.size < X8.heap.size from (Array.getElem?_eq_some_iff.1 HKV.out).1)
            have HSE := Lib.hid (fun (W : World) (hW : Below X8.heap.size X8 W) => settled_go cS.st cS.n cS.g g true HSB.out (.slice aS n kS) X8 W hW rfl)
            have HHO := Lib.hid (fun (W : World) (hW : Below X8.heap.size X8 W) => holds_any cS.st cS.n cS.g g aS n kS ZS X8 W hW HSRX.out (fun s hs => by rw [HL8.out] at hs; exact ((HC.out).wf s hs).2.2.2))
            have HBc := Lib.hid (Below.refl X8.heap.size X8)
            have hbS := HSRX.out.bd
            obtain ⟨c0, c1, c2, c3⟩ := cell4 HKV.out
            obtain ⟨bn, hbn⟩ : ∃ bn, bn = decide (0 < n) := ⟨_, rfl⟩
            have HDN := Lib.hid hbn.symm
            have qn1 : decide ((0 : Int) < (n : Int)) = bn := by rw [hbn]; by_cases h : 0 < n <;> simp [h]
            have qn2 : decide (0 < n) = bn := hbn.symm
            have qbb : (bn != bn) = false := by simp
            clear hbn
            go_upto_region 20 with (first
              | (go_at_call 11; go_loud (refine (HSE.out _ HBc.out).mono ?_; rintro e w' ⟨rfl, hb⟩; obtain ⟨c0, c1, c2, c3⟩ := cell4 ((hb.block _ HSTX.out).trans HKV.out); have HBc := Lib.hid hb; clear hb))
              | (go_at_call 12; go_loud (refine (HHO.out _ HBc.out).mono ?_; rw [HDN.out]; rintro e w' ⟨rfl, hb⟩; obtain ⟨c0, c1, c2, c3⟩ := cell4 ((hb.block _ HSTX.out).trans HKV.out); have HBc := Lib.hid hb; clear hb)))
            rename World => W9
            have HM9 := Lib.hid (HM7.out.on (bt HBX8.out HBc.out))
            go_upto_region 21 with (go_at_call 8; go_loud (refine (homes_any HM9.out (by have := HKK.out; omega) rfl (by omega) (show 24 ≤ 24 by omega) (H) HSTD1.out.home).mono ?_; rintro e w10 ⟨aX, cX, rfl, hs10, hb10⟩; have HN10 := Lib.hid hs10; have HB10 := Lib.hid hb10; clear hs10 hb10))
            have HW10 := Lib.hid (bt HBX8.out (bt HBc.out HB10.out))
            have HBF10 := Lib.hid (HBF7.out.1.on HW10.out)
            have hbX := HN10.out.bd
            go_wp2_with (go_at_call 13; go_loud (refine (same_go _ _ _ _ 6 _ _ _ w10 w10 (Below.refl _ _) HN10.out HBF10.out).mono ?_; rintro e w11 ⟨rfl, hb11⟩; have HW11 := Lib.hid (bt HW10.out hb11); clear hb11))
            go_roundw
            case rel => exact ⟨i + 1, F7, u7, HLI.out, by go_num, (HM7.out.on HW11.out).more (by omega), HS7.out.on HW11.out⟩
            case measure => simp [intOf]; have := HLI.out; omega
          · have p1 : (0 : Int) < (i : Int) := by omega
            have p2 :  (i : Int) < 3 := by omega
            have p3 : ((i : Int) == 3) = false := by rw [hi2]; rfl
            have p4 : ¬ (i : Int) < 2 := by omega
            have HSTD1 := Lib.hid (show Std (seqG g L M (i + 1)) (CM.B ⟨1, (L.length : Nat), g⟩) L (putH H L) from by rw [hi2]; exact HSEQ.out.2.2.1)
            obtain ⟨cS, hcS⟩ : ∃ cS : CM, cS = ⟨1, (L.length : Nat), g⟩ := ⟨_, rfl⟩
            have HCB1 := Lib.hid (show ((CM.B ⟨1, (L.length : Nat), g⟩) = zsec ∧ cS = ⟨0, 0, 0⟩) ∨ ((CM.B ⟨1, (L.length : Nat), g⟩) = cS.B ∧ cS.Wf ∧ cS.Ok) from by rw [hcS]; exact .inr ⟨rfl, cmOk1 HC.out.few HGI.out⟩)
            have hsb : stdB cS g = true := by rw [hcS]; exact (by unfold stdB; simp)
            have hwn : IntKind.i64.wrap cS.n = (n : Int) := by
              rw [hcS, ← HLn.out, IntKind.wrap_i64]
              have := HC.out.few
              show ((((L.length : Nat) : Int) + 9223372036854775808) % 18446744073709551616 - 9223372036854775808) = _
              omega
            have HSB := Lib.hid hsb
            clear hcS hsb hi2
            go_upto_region 17 with (go_at_call 9; go_loud (refine (step_sure HMY.out (by have := HKK.out; omega) i HLI.out g a n c Z (by rw [← HL.out]; exact HC.out) HZY.out.1 HZY.out.2).mono ?_; rintro e w7 ⟨F7, u7, rfl, hm7, hs7⟩; rw [← HL.out] at hm7; have HM7 := Lib.hid (show MJ w7 tb F7 (memS (seqG g L M (i + 1))) none FN15 (-1) u7 (72 * k + 18 * i + 18) from hm7); have HS7 := Lib.hid (HSY.out.trans hs7); have HBF7 := Lib.hid (goStep HBY.out.1 HBY.out.2 hs7); clear hm7 hs7))
            go_upto_region 18 with (go_at_call 10; go_loud (refine (look_std (g := g) (c := cS) HM7.out (by have := HKK.out; omega) (by omega) HSTD1.out HCB1.out HC.out).mono ?_; rintro e w8 ⟨aS, kS, ZS, rfl, hL8, hs8, hb8⟩; have hz8 : ZS.length = n := (by have h := congrArg List.length hL8; rw [List.length_map, HLn.out] at h; exact h); rw [hz8]; have HL8 := Lib.hid hL8; have HS8 := Lib.hid hs8; have HB8 := Lib.hid hb8; have HZ8 := Lib.hid hz8; clear hL8 hs8 hb8 hz8; unfold stG))
            obtain ⟨X8, hX8⟩ : ∃ X8, X8 = w8.alloc (.cells #[.int .u8 cS.st, .int .u8 cS.n, .int .u64 cS.g, .slice aS n kS] 48) := ⟨_, rfl⟩
            rw [← hX8]
            have HBX8 := Lib.hid (show Below w7.heap.size w7 X8 from bt HB8.out (by rw [hX8]; exact (Below.refl _ _).alloc (Nat.le_refl _) _))
            have HKV := Lib.hid (show X8.heap[w8.heap.size]? = some (.cells #[.int .u8 cS.st, .int .u8 cS.n, .int .u64 cS.g, .slice aS n kS] 48 (0, 0)) from by rw [hX8]; exact heap_alloc_new w8 _)
            have HSRX := Lib.hid (show ShRow X8 aS n kS ZS from by
              have h := (HS8.out.on (by rw [hX8]; exact (Below.refl _ _).alloc (Nat.le_refl _) _ : Below w8.heap.size w8 X8)).sh
              rw [HZ8.out] at h; exact h)
            clear hX8
            have HSTX := Lib.hid (show w8.heap.size < X8.heap.size from (Array.getElem?_eq_some_iff.1 HKV.out).1)
            have HSE := Lib.hid (fun (W : World) (hW : Below X8.heap.size X8 W) => settled_go cS.st cS.n cS.g g true HSB.out (.slice aS n kS) X8 W hW rfl)
            have HHO := Lib.hid (fun (W : World) (hW : Below X8.heap.size X8 W) => holds_any cS.st cS.n cS.g g aS n kS ZS X8 W hW HSRX.out (fun s hs => by rw [HL8.out] at hs; exact ((HC.out).wf s hs).2.2.2))
            have HBc := Lib.hid (Below.refl X8.heap.size X8)
            have hbS := HSRX.out.bd
            obtain ⟨c0, c1, c2, c3⟩ := cell4 HKV.out
            obtain ⟨bn, hbn⟩ : ∃ bn, bn = decide (0 < n) := ⟨_, rfl⟩
            have HDN := Lib.hid hbn.symm
            have qn1 : decide ((0 : Int) < (n : Int)) = bn := by rw [hbn]; by_cases h : 0 < n <;> simp [h]
            have qn2 : decide (0 < n) = bn := hbn.symm
            have qbb : (bn != bn) = false := by simp
            clear hbn
            go_upto_region 20 with (first
              | (go_at_call 11; go_loud (refine (HSE.out _ HBc.out).mono ?_; rintro e w' ⟨rfl, hb⟩; obtain ⟨c0, c1, c2, c3⟩ := cell4 ((hb.block _ HSTX.out).trans HKV.out); have HBc := Lib.hid hb; clear hb))
              | (go_at_call 12; go_loud (refine (HHO.out _ HBc.out).mono ?_; rw [HDN.out]; rintro e w' ⟨rfl, hb⟩; obtain ⟨c0, c1, c2, c3⟩ := cell4 ((hb.block _ HSTX.out).trans HKV.out); have HBc := Lib.hid hb; clear hb)))
            rename World => W9
            have HM9 := Lib.hid (HM7.out.on (bt HBX8.out HBc.out))
            go_upto_region 21 with (go_at_call 8; go_loud (refine (homes_any HM9.out (by have := HKK.out; omega) rfl (by omega) (show 24 ≤ 24 by omega) (putH H L) HSTD1.out.home).mono ?_; rintro e w10 ⟨aX, cX, rfl, hs10, hb10⟩; have HN10 := Lib.hid hs10; have HB10 := Lib.hid hb10; clear hs10 hb10))
            have HW10 := Lib.hid (bt HBX8.out (bt HBc.out HB10.out))
            have HBF10 := Lib.hid (HBF7.out.1.on HW10.out)
            have hbX := HN10.out.bd
            go_wp2_with fail
            go_roundw
            case rel => exact ⟨i + 1, F7, u7, HLI.out, by go_num, (HM7.out.on HW10.out).more (by omega), HS7.out.on HW10.out⟩
            case measure => simp [intOf]; have := HLI.out; omega
          · have p1 : (0 : Int) < (i : Int) := by omega
            have p2 : ¬ (i : Int) < 3 := by omega
            have p3 : ((i : Int) == 3) = true := by rw [hi3]; rfl
            have p4 : ¬ (i : Int) < 2 := by omega
            have HSTD1 := Lib.hid (show Std (seqG g L M (i + 1)) (CM.B ⟨2, 0, g⟩) [] (putH H L) from by rw [hi3]; exact HSEQ.out.2.2.2)
            obtain ⟨cS, hcS⟩ : ∃ cS : CM, cS = ⟨2, 0, g⟩ := ⟨_, rfl⟩
            have HCB1 := Lib.hid (show ((CM.B ⟨2, 0, g⟩) = zsec ∧ cS = ⟨0, 0, 0⟩) ∨ ((CM.B ⟨2, 0, g⟩) = cS.B ∧ cS.Wf ∧ cS.Ok) from by rw [hcS]; exact .inr ⟨rfl, cmOk2 HGI.out⟩)
            have hsb : stdB cS g = true := by rw [hcS]; exact (by unfold stdB; simp)
            have HSB := Lib.hid hsb
            clear hcS hsb hi3
            go_upto_region 17 with (go_at_call 9; go_loud (refine (step_sure HMY.out (by have := HKK.out; omega) i HLI.out g a n c Z (by rw [← HL.out]; exact HC.out) HZY.out.1 HZY.out.2).mono ?_; rintro e w7 ⟨F7, u7, rfl, hm7, hs7⟩; rw [← HL.out] at hm7; have HM7 := Lib.hid (show MJ w7 tb F7 (memS (seqG g L M (i + 1))) none FN15 (-1) u7 (72 * k + 18 * i + 18) from hm7); have HS7 := Lib.hid (HSY.out.trans hs7); have HBF7 := Lib.hid (goStep HBY.out.1 HBY.out.2 hs7); clear hm7 hs7))
            go_upto_region 18 with (go_at_call 10; go_loud (refine (look_std (g := g) (c := cS) HM7.out (by have := HKK.out; omega) (by omega) HSTD1.out HCB1.out (chP_nil HGI.out)).mono ?_; rintro e w8 ⟨aS, kS, ZS, rfl, hL8, hs8, hb8⟩; have hz8 : ZS.length = 0 := (by have h := congrArg List.length hL8; rw [List.length_map] at h; exact h); rw [hz8]; have HL8 := Lib.hid hL8; have HS8 := Lib.hid hs8; have HB8 := Lib.hid hb8; have HZ8 := Lib.hid hz8; clear hL8 hs8 hb8 hz8; unfold stG))
            obtain ⟨X8, hX8⟩ : ∃ X8, X8 = w8.alloc (.cells #[.int .u8 cS.st, .int .u8 cS.n, .int .u64 cS.g, .slice aS 0 kS] 48) := ⟨_, rfl⟩
            rw [← hX8]
            have HBX8 := Lib.hid (show Below w7.heap.size w7 X8 from bt HB8.out (by rw [hX8]; exact (Below.refl _ _).alloc (Nat.le_refl _) _))
            have HKV := Lib.hid (show X8.heap[w8.heap.size]? = some (.cells #[.int .u8 cS.st, .int .u8 cS.n, .int .u64 cS.g, .slice aS 0 kS] 48 (0, 0)) from by rw [hX8]; exact heap_alloc_new w8 _)
            have HSRX := Lib.hid (show ShRow X8 aS 0 kS ZS from by
              have h := (HS8.out.on (by rw [hX8]; exact (Below.refl _ _).alloc (Nat.le_refl _) _ : Below w8.heap.size w8 X8)).sh
              rw [HZ8.out] at h; exact h)
            clear hX8
            have HSTX := Lib.hid (show w8.heap.size < X8.heap.size from (Array.getElem?_eq_some_iff.1 HKV.out).1)
            have HSE := Lib.hid (fun (W : World) (hW : Below X8.heap.size X8 W) => settled_go cS.st cS.n cS.g g true HSB.out (.slice aS 0 kS) X8 W hW rfl)
            have HHO := Lib.hid (fun (W : World) (hW : Below X8.heap.size X8 W) => holds_any cS.st cS.n cS.g g aS 0 kS ZS X8 W hW HSRX.out (fun s hs => by rw [HL8.out] at hs; exact (((chP_nil HGI.out)).wf s hs).2.2.2))
            have HBc := Lib.hid (Below.refl X8.heap.size X8)
            have hbS := HSRX.out.bd
            obtain ⟨c0, c1, c2, c3⟩ := cell4 HKV.out
            go_upto_region 20 with (first
              | (go_at_call 11; go_loud (refine (HSE.out _ HBc.out).mono ?_; rintro e w' ⟨rfl, hb⟩; obtain ⟨c0, c1, c2, c3⟩ := cell4 ((hb.block _ HSTX.out).trans HKV.out); have HBc := Lib.hid hb; clear hb))
              | (go_at_call 12; go_loud (refine (HHO.out _ HBc.out).mono ?_; rw [show decide (0 < 0) = false from rfl]; rintro e w' ⟨rfl, hb⟩; obtain ⟨c0, c1, c2, c3⟩ := cell4 ((hb.block _ HSTX.out).trans HKV.out); have HBc := Lib.hid hb; clear hb)))
            rename World => W9
            have HM9 := Lib.hid (HM7.out.on (bt HBX8.out HBc.out))
            go_upto_region 21 with (go_at_call 8; go_loud (refine (homes_any HM9.out (by have := HKK.out; omega) rfl (by omega) (show 24 ≤ 24 by omega) (putH H L) HSTD1.out.home).mono ?_; rintro e w10 ⟨aX, cX, rfl, hs10, hb10⟩; have HN10 := Lib.hid hs10; have HB10 := Lib.hid hb10; clear hs10 hb10))
            have HW10 := Lib.hid (bt HBX8.out (bt HBc.out HB10.out))
            have HBF10 := Lib.hid (HBF7.out.1.on HW10.out)
            have hbX := HN10.out.bd
            go_wp2_with fail
            go_roundw
            case rel => exact ⟨i + 1, F7, u7, HLI.out, by go_num, (HM7.out.on HW10.out).more (by omega), HS7.out.on HW10.out⟩
            case measure => simp [intOf]; have := HLI.out; omega
        · have HI4 := Lib.hid (show i = 4 by omega)
          have q4n : ¬ (i : Int) < 4 := by omega
          have HMY4 := Lib.hid (show MJ Y tb F' (memS (seqG g L M 4)) none FN15 (-1) u' (72 * k + 72) from by
            have h := HMY.out
            rw [HI4.out] at h
            exact h.more (by omega))
          clear hi hlt HMY
          have HT4 := Lib.hid HSEQ.out.2.2.2
          have HZY := Lib.hid (HZ6.out.1.step HZ6.out.2 HSY.out)
          have HKK := Lib.hid (show 72 * k + 72 ≤ 600 by have := HLT.out; omega)
          go_wp2_with fail
          go_loopw [171] (fun q wr => ∃ k2 : Nat, k2 ≤ n ∧ q = .int .i64 (k2 : Nat) ∧ Below Y.heap.size Y wr) (fun q _ => n - (intOf q).toNat)
          case atStart => exact ⟨0, Nat.zero_le _, rfl, Below.refl _ _⟩
          case round =>
            obtain ⟨k2, hk2, rfl, hb⟩ := hrel
            rename World => T
            have HBT := Lib.hid hb
            clear hb
            by_cases hlt2 : k2 < n
            · have HL2 := Lib.hid hlt2
              have q5 : (k2 : Int) < (n : Int) := by omega
              have HMT := Lib.hid (HMY4.out.on HBT.out)
              obtain ⟨z, hz⟩ : ∃ z, Z[k2]? = some z := ⟨_, List.getElem?_eq_getElem (by rw [HZV.out.1.len]; exact hlt2)⟩
              obtain ⟨hzw, hzn, hzx⟩ := (HZY.out.1.on HBT.out).row z (List.mem_of_getElem? hz)
              obtain ⟨gb, rfl, hgV, c0, c1, c2, c3, c4⟩ := (HZY.out.1.on HBT.out).cells hz
              have hzL : z.1 ∈ L := by rw [HL.out]; exact List.mem_map.2 ⟨z, List.mem_of_getElem? hz, rfl⟩
              obtain ⟨_, hzo, hz6, hzg⟩ := HC.out.wf z.1 hzL
              have hz0 := hzw.st
              obtain ⟨rr, hrr⟩ : ∃ rr : Nat, z.1.st = (rr : Int) := ⟨z.1.st.toNat, by omega⟩
              have hr6 : rr < 6 := by omega
              have hHO := home_of HT4.out HC.out hzL
              have hhm := home_any HMT.out (by have := HKK.out; omega) rfl (by omega) z.1.st (by unfold i64R; omega)
              rw [hHO.1, hHO.2] at hhm
              unfold shG at hhm
              rw [hrr] at hhm c2
              rw [hzg] at hhm c3
              obtain ⟨rl, hrl⟩ : ∃ rl, rl = z.1.row.length := ⟨_, rfl⟩
              obtain ⟨TT, hTT⟩ : ∃ TT, TT = strOfNums z.1.row := ⟨_, rfl⟩
              have HTT := Lib.hid hTT
              have HZX := Lib.hid hzx
              rw [← hrl] at hhm c4 HZX
              obtain ⟨A2, hA2⟩ : ∃ A2, A2 = T.alloc (.cells #[.int .u8 z.1.m, .int .u8 z.1.p, .int .u32 (rr : Int), .int .u64 g, .slice z.2.1 rl z.2.2] 54) := ⟨_, rfl⟩
              have hTA : Below T.heap.size T A2 := by rw [hA2]; exact (Below.refl _ _).alloc (Nat.le_refl _) _
              have r1 : A2.heap[T.heap.size]? = some (.cells #[.int .u8 z.1.m, .int .u8 z.1.p, .int .u32 (rr : Int), .int .u64 g, .slice z.2.1 rl z.2.2] 54 (0, 0)) := by rw [hA2]; exact heap_alloc_new T _
              have HHM := Lib.hid (show Calls Tryz.prog 14 #[tbV tb, .int .i64 (rr : Int)] A2 fun e w' => ∃ ax kx, e = .returned (.tuple #[.agg #[.int .u8 z.1.m, .int .u8 z.1.p, .int .u32 (rr : Int), .int .u64 g, .slice ax rl kx], .int .i64 0]) ∧ Arg8c w' ax rl kx z.1.row ∧ Below A2.heap.size A2 w' from by
                have h2 := home_any (HMT.out.on hTA) (by have := HKK.out; omega) rfl (by omega) z.1.st (by unfold i64R; omega)
                rw [hHO.1, hHO.2] at h2
                unfold shG at h2
                rw [hrr, hzg, ← hrl] at h2
                refine h2.mono ?_
                rintro e w' ⟨ax, kx, e1, e2, e3, _⟩
                exact ⟨ax, kx, e1, e2, e3⟩)
              have HTA := Lib.hid hTA
              have R1 := Lib.hid r1
              have HA2l := Lib.hid (Array.getElem?_eq_some_iff.1 r1).1
              have hwr : IntKind.i64.wrap (rr : Int) = (rr : Int) := by rw [IntKind.wrap_i64]; omega
              have hgg : (g == g) = true := by simp
              have hgn : (g != g) = false := by simp
              have hss : (TT.toList == TT.toList) = true := by simp
              have hsn : (TT.toList != TT.toList) = false := by simp
              have hbx := hzx.1.2.2.2
              unfold maxLen at hbx
              rw [← hrl] at hbx
              clear hhm hz hzw hzn hzx hzL hzo hz6 hzg hHO hrr hrl hTT hlt2 hTA hz0
              go_upto_region 27 with fail
              rw [← hA2]
              obtain ⟨d0, d1, d2, d3, d4⟩ := cell5 r1
              clear hA2 r1 c0 c1 c2 c3 c4
              go_upto_region 28 with (go_at_call 14; go_loud (refine HHM.out.mono ?_; rintro e w2 ⟨ax, kx, rfl, hx2, hb2⟩; have HX2 := Lib.hid hx2; have HB2 := Lib.hid hb2; clear hx2 hb2))
              obtain ⟨A3, hA3⟩ : ∃ A3, A3 = w2.alloc (.cells #[.int .u8 z.1.m, .int .u8 z.1.p, .int .u32 (rr : Int), .int .u64 g, .slice ax rl kx] 54) := ⟨_, rfl⟩
              rw [← hA3]
              have HB3 := Lib.hid (show Below w2.heap.size w2 A3 from by rw [hA3]; exact (Below.refl _ _).alloc (Nat.le_refl _) _)
              obtain ⟨y0, y1, y2, y3, y4⟩ := cell5 (show A3.heap[w2.heap.size]? = some (.cells #[.int .u8 z.1.m, .int .u8 z.1.p, .int .u32 (rr : Int), .int .u64 g, .slice ax rl kx] 54 (0, 0)) from by rw [hA3]; exact heap_alloc_new w2 _)
              clear hA3 d0 d1 d2 d3 d4
              obtain ⟨d0, d1, d2, d3, d4⟩ := cell5 (((bt HB2.out HB3.out).block _ HA2l.out).trans R1.out)
              have hcx := arg_str HX2.out HB3.out
              have hcz := arg_str HZX.out (bt HTA.out (bt HB2.out HB3.out))
              rw [← HTT.out] at hcx hcz
              have hby := HX2.out.1.2.2.2
              unfold maxLen at hby
              go_wp2_with fail
              go_roundw
              case rel => exact ⟨k2 + 1, HL2.out, by go_num, bt HBT.out (bt HTA.out (bt HB2.out HB3.out))⟩
              case measure => simp [intOf]; have := HL2.out; omega
            · have q5n : ¬ (k2 : Int) < (n : Int) := by omega
              clear hlt2 hk2
              go_wp2_with fail
              go_roundw
              case rel =>
                refine ⟨k + 1, F', u', seqG g L M 4, CM.B ⟨2, 0, g⟩, putH H L, HLT.out, by go_num, (HMY4.out.on HBT.out).more (by omega), HT4.out, (seqG_0 g L M 4).trans HM0.out, ?_, ((HSV.out.on HB6.out).trans HSY.out).on HBT.out⟩
                have h1 := HLT.out
                have h2 := HGK.out
                by_cases h0 : k = 0
                · exact .inr (.inl ⟨by omega, by rw [show g = 3 by omega]⟩)
                · exact .inr (.inr (by omega))
              case measure => simp [intOf]; have := HLT.out; omega
    · obtain rfl : k = 2 := by omega
      clear hk hlt hcb hVr HZOV HZMV
      have HVA := Lib.hid (show Below A.heap.size A V from HW5.out.trans (HSV.out.below HW5.out.size HHI.out))
      have HFV := Lib.hid (show ∀ k, F k ∨ FN15 k → A.heap.size ≤ k from HSV.out.high HW5.out.size HHI.out)
      have HWV := Lib.hid (bt HA.out.2.1 HVA.out)
      have HBXV := Lib.hid ((HVA.out.block _ (Array.getElem?_eq_some_iff.1 HA.out.2.2.2).1).trans HA.out.2.2.2)
      obtain ⟨s1, hs1⟩ : ∃ s, s = tabV 276 (suV P2) := ⟨_, rfl⟩
      have HSUA := Lib.hid (show suA P2 = .agg s1 by rw [hs1]; rfl)
      have HS1 := Lib.hid (show (Tryz.prog.info? 33).map (·.size) = some s1.size ∧ s1.size = cz.size by rw [hs1, HCZ2.out, size_tabV, size_tabV]; exact ⟨sizeSu, rfl⟩)
      have HO1 := Lib.hid (show s1.all (·.oneCell') = true by rw [hs1]; exact tabV_one (suV_one P2))
      have HOV := Lib.hid (HOF.out V HWV.out)
      rw [HSUA.out] at HOV
      have hbI := hIk
      clear hs1
      go_upto_region 33 with (first
        | ((with_reducible show wpList _ _ _ (⟨some 203, _, _, _, _, _⟩ :: _) _ _); go_loud (refine wpList_load_row rfl 26 (.tmp 5) rfl w.heap.size rfl 26 #[.slice aN lN cN, .int .u8 P.p, .int .u8 P.n, .int .u8 P.t, .int .u8 P.m, .int .u8 P.c, .int .u32 P.bl, .int .u32 P.bo, .int .u32 P.ep, .slice aI lI cI, .int .u32 P.rf, .int .u32 P.sc, .int .u8 P.tg, .int .u32 P.rs] (0, 0) _ HBXV.out Tryz.underlying26 rfl size26 ?_))
        | (go_at_call 15; go_loud (refine HOV.out.mono ?_; rintro e w2 ⟨cY, aY, kY, rfl, h14, hY, hIY, hb2⟩; have HB2' := Lib.hid hb2; have HY14 := Lib.hid h14; have HYY := Lib.hid (And.intro hY hIY); clear hb2 h14 hY hIY))
        | ((with_reducible show wpList _ _ _ (⟨none, Op.store 33 _ _, _, _, _, _⟩ :: _) _ _); go_loud (refine wpList_store_row rfl 33 (.tmp 24) (.tmp 205) rfl w2.heap.size s1 rfl rfl 33 cz ((heap_alloc_old _ _ (by simp)).trans (heap_alloc_new w2 _)) HS1.out.1 HS1.out.2.symm HO1.out ?_))
        | ((with_reducible show wpList _ _ _ (⟨none, Op.store 59 _ _, _, _, _, _⟩ :: _) _ _); go_loud (refine wpList_store_row rfl 59 (.tmp 25) (.tmp 206) rfl (w2.heap.size + 1) cY rfl rfl 59 #[.string { data := #[] }, .int .i64 0, .int .i64 0, .int .i64 0, .int .i64 0, .int .i64 0, .int .u64 0, .int .u64 0, .int .u64 0, .slice none 0 0, .int .u64 0, .int .u64 0, .int .i64 0, .int .u64 0] ((setRow_other _ _ _ _ (by omega)).trans (by have h := heap_alloc_new (w2.alloc (.cells cz 33)) (.cells #[.string { data := #[] }, .int .i64 0, .int .i64 0, .int .i64 0, .int .i64 0, .int .i64 0, .int .u64 0, .int .u64 0, .int .u64 0, .slice none 0 0, .int .u64 0, .int .u64 0, .int .i64 0, .int .u64 0] 59); rw [size_alloc1] at h; exact h)) (by rw [HY14.out.1]; exact sizeRu) HY14.out.1.symm HY14.out.2 ?_)))
      have HV1 := Lib.hid (show Below w2.heap.size w2 ((((w2.alloc (.cells cz 33)).alloc (.cells #[.string { data := #[] }, .int .i64 0, .int .i64 0, .int .i64 0, .int .i64 0, .int .i64 0, .int .u64 0, .int .u64 0, .int .u64 0, .slice none 0 0, .int .u64 0, .int .u64 0, .int .i64 0, .int .u64 0] 59)).setRow w2.heap.size s1).setRow (w2.heap.size + 1) cY) from below_setRow (below_setRow (((Below.refl _ _).alloc (Nat.le_refl _) _).alloc (by simp) _) (Nat.le_refl _) _) (by omega) _)
      have HG9 := Lib.hid (show ((((w2.alloc (.cells cz 33)).alloc (.cells #[.string { data := #[] }, .int .i64 0, .int .i64 0, .int .i64 0, .int .i64 0, .int .i64 0, .int .u64 0, .int .u64 0, .int .u64 0, .slice none 0 0, .int .u64 0, .int .u64 0, .int .i64 0, .int .u64 0] 59)).setRow w2.heap.size s1).setRow (w2.heap.size + 1) cY).heap[w2.heap.size]? = some (.cells s1 33 (0, 0)) from (setRow_other _ _ _ _ (by omega)).trans (setRow_heap _ _ _ _ _ _ ((heap_alloc_old _ _ (by simp)).trans (heap_alloc_new w2 _))))
      have HG10 := Lib.hid (show ((((w2.alloc (.cells cz 33)).alloc (.cells #[.string { data := #[] }, .int .i64 0, .int .i64 0, .int .i64 0, .int .i64 0, .int .i64 0, .int .u64 0, .int .u64 0, .int .u64 0, .slice none 0 0, .int .u64 0, .int .u64 0, .int .i64 0, .int .u64 0] 59)).setRow w2.heap.size s1).setRow (w2.heap.size + 1) cY).heap[w2.heap.size + 1]? = some (.cells cY 59 (0, 0)) from setRow_heap _ _ _ _ _ _ ((setRow_other _ _ _ _ (by omega)).trans (by have h := heap_alloc_new (w2.alloc (.cells cz 33)) (.cells #[.string { data := #[] }, .int .i64 0, .int .i64 0, .int .i64 0, .int .i64 0, .int .i64 0, .int .u64 0, .int .u64 0, .int .u64 0, .slice none 0 0, .int .u64 0, .int .u64 0, .int .i64 0, .int .u64 0] 59); rw [size_alloc1] at h; exact h)))
      generalize ((((w2.alloc (.cells cz 33)).alloc (.cells #[.string { data := #[] }, .int .i64 0, .int .i64 0, .int .i64 0, .int .i64 0, .int .i64 0, .int .u64 0, .int .u64 0, .int .u64 0, .slice none 0 0, .int .u64 0, .int .u64 0, .int .i64 0, .int .u64 0] 59)).setRow w2.heap.size s1).setRow (w2.heap.size + 1) cY) = V1 at HV1 HG9 HG10 ⊢
      have HVV1 := Lib.hid (bt HB2'.out HV1.out)
      have HWV1 := Lib.hid (bt HWV.out HVV1.out)
      have HMV1 := Lib.hid (HMV.out.on HVV1.out)
      have HF9 := Lib.hid (show Fr F FN15 V1 w2.heap.size from HMV.out.fr_new HB2'.out.size (Array.getElem?_eq_some_iff.1 HG9.out).1)
      have HF10 := Lib.hid (show Fr F FN15 V1 (w2.heap.size + 1) from HMV.out.fr_new (by have := HB2'.out.size; omega) (Array.getElem?_eq_some_iff.1 HG10.out).1)
      have HIY := Lib.hid (HYY.out.2.1.on HV1.out)
      have HPUT := Lib.hid (putSuper_any HMV1.out (by omega) P2 HW2.out (fun h => by have := (su_okJ HW2.out h).1; unfold SU.S; rw [if_pos h]; exact this) (HGG.out.on HWV1.out HGG.out.1))
      rw [HSUA.out] at HPUT
      have HS14 := Lib.hid (show (Tryz.prog.info? 59).map (·.size) = some cY.size by rw [HY14.out.1]; exact sizeRu)
      have HDS := Lib.hid (fun (W : World) (h : IA W aY P2.L.length kY P2.L) => refSuper_any P2 HW2.out aY _ kY W h)
      have HIYF := Lib.hid (show ∀ (F' : Nat → Prop) (W : World), Stp F FN15 V1 F' W → IA W aY P2.L.length kY P2.L from fun F' W hs => HIY.out.onB fun h0 b o e => hs.same (HMV.out.fr_new (HYY.out.2.2 b o e) (by
        obtain ⟨b', o', e', h, _⟩ := HIY.out.2.2.2.2.2 h0
        rw [e] at e'
        cases e'
        exact h)))
      have HGF := Lib.hid (show ∀ (F' : Nat → Prop) (W : World), Stp F FN15 V1 F' W → Below w.heap.size w W from fun F' W hs => HWV1.out.trans (hs.below HWV1.out.size (fun k hk => Nat.le_trans HA.out.2.1.size (HFV.out k hk))))
      by_cases hok : P2.Ok
      · have hE : P2.E = 0 := if_pos hok
        rw [hE] at HPUT
        have HJ := Lib.hid (js_put (M := M) HW2.out hok)
        have HNQ := Lib.hid (show ∀ W, (binOp .eql 33 (.agg s1) (.agg s1)).run Tryz.prog W = .ok (.bool true) W from fun W => by rw [← HSUA.out]; exact eqlSu P2 HW2.out W)
        obtain ⟨SS, hSS⟩ : ∃ s, s = strOfNums P2.S := ⟨_, rfl⟩
        have hne : (SS.toList == []) = false := by rw [hSS]; exact str_ne0 (by unfold SU.S; rw [if_pos hok, (su_okJ HW2.out hok).1]; omega)
        rw [← hSS] at HDS
        clear hSS hE hok
        go_upto_region 34 with (first
          | ((with_reducible show wpList _ _ _ (⟨some 208, _, _, _, _, _⟩ :: _) _ _); go_loud (refine wpList_load_row rfl 33 (.tmp 24) rfl w2.heap.size rfl 33 s1 (0, 0) _ HG9.out Tryz.underlying33 rfl HS1.out.1 ?_))
          | (go_at_call 16; go_loud (refine HPUT.out.mono ?_; rintro e w4 ⟨F4, u4, rfl, hm4, hs4⟩; have HM4 := Lib.hid hm4; have HS4 := Lib.hid hs4; clear hm4 hs4)))
        have HW4 := Lib.hid (HGF.out _ _ HS4.out)
        have HI4 := Lib.hid (HIYF.out _ _ HS4.out)
        have HG94 := Lib.hid ((HS4.out.same HF9.out).trans HG9.out)
        have HG104 := Lib.hid ((HS4.out.same HF10.out).trans HG10.out)
        have HJS := Lib.hid (jsuper_any HM4.out (by omega) (putSU_down M P2) (by omega) (HGG.out.on HW4.out HGG.out.1))
        rw [HJ.out.1, HJ.out.2, HSUA.out] at HJS
        go_upto_region 35 with (first
          | (go_at_call 6; go_loud (refine HJS.out.mono ?_; rintro e w5' ⟨rfl, hb5⟩; have HB5' := Lib.hid hb5; clear hb5))
          | ((with_reducible show wpList _ _ _ (⟨none, Op.store 33 _ _, _, _, _, _⟩ :: _) _ _); go_loud (refine wpList_store_row rfl 33 (.tmp 27) (.tmp 213) rfl w5'.heap.size s1 rfl rfl 33 cz (heap_alloc_new w5' _) HS1.out.1 HS1.out.2.symm HO1.out ?_)))
        obtain ⟨X6, hX6⟩ : ∃ X6, X6 = (w5'.alloc (.cells cz 33)).setRow w5'.heap.size s1 := ⟨_, rfl⟩
        rw [← hX6]
        have HX6 := Lib.hid (show Below w4.heap.size w4 X6 from bt HB5'.out (by rw [hX6]; exact below_setRow ((Below.refl _ _).alloc (Nat.le_refl _) _) (Nat.le_refl _) _))
        have HG7 := Lib.hid (show X6.heap[w5'.heap.size]? = some (.cells s1 33 (0, 0)) from by rw [hX6]; exact setRow_heap _ _ _ _ _ _ (heap_alloc_new w5' _))
        clear hX6
        have HG96 := Lib.hid ((HX6.out.block _ (Array.getElem?_eq_some_iff.1 HG94.out).1).trans HG94.out)
        have HG106 := Lib.hid ((HX6.out.block _ (Array.getElem?_eq_some_iff.1 HG104.out).1).trans HG104.out)
        go_upto_region 37 with (first
          | ((with_reducible show wpList _ _ _ (⟨some 215, _, _, _, _, _⟩ :: _) _ _); go_loud (refine wpList_load_row rfl 59 (.tmp 25) rfl (w2.heap.size + 1) rfl 59 cY (0, 0) _ HG106.out Tryz.underlying59 rfl HS14.out ?_))
          | (go_at_call 17; go_loud (rw [HYY.out.1]; (with_reducible refine (HDS.out X6 (HI4.out.on HX6.out)).mono ?_); rintro e w7 ⟨rfl, hb7⟩; have HB7 := Lib.hid hb7; clear hb7)))
        have HG77 := Lib.hid ((HB7.out.block _ (Array.getElem?_eq_some_iff.1 HG7.out).1).trans HG7.out)
        have HG97 := Lib.hid ((HB7.out.block _ (Array.getElem?_eq_some_iff.1 HG96.out).1).trans HG96.out)
        go_wp2_with (first
          | ((with_reducible show wpList _ _ _ (⟨some 231, _, _, _, _, _⟩ :: _) _ _); go_loud (refine wpList_load_rowG (by rfl) 33 (.tmp 27) rfl w5'.heap.size rfl 33 s1 (0, 0) _ HG77.out Tryz.underlying33 rfl HS1.out.1 ?_))
          | ((with_reducible show wpList _ _ _ (⟨some 232, _, _, _, _, _⟩ :: _) _ _); go_loud (refine wpList_load_rowG (by rfl) 33 (.tmp 24) rfl w2.heap.size rfl 33 s1 (0, 0) _ HG97.out Tryz.underlying33 rfl HS1.out.1 ?_))
          | ((with_reducible show wpList _ _ _ (⟨some 233, _, _, _, _, _⟩ :: _) _ _); go_loud (refine wpList_binG (by rfl) .eql 33 (.tmp 231) (.tmp 232) 33 rfl (.agg s1) (.agg s1) (.bool true) rfl rfl (guardSu _ _ _ _ _ _) (HNQ.out _) ?_)))
        go_ret
        exact ⟨rfl, bt HW4.out (bt HX6.out HB7.out)⟩
      · have hE : P2.E = 2 := if_neg hok
        rw [hE] at HPUT
        have HJ := Lib.hid (show jsE (putSU M P2) = 16 ∧ jsZ (putSU M P2) = suZ from by rw [putSU_no hok]; exact js_none HM0.out)
        obtain ⟨SS, hSS⟩ : ∃ s, s = strOfNums P2.S := ⟨_, rfl⟩
        have hne : (SS.toList == []) = true := by rw [hSS]; unfold SU.S; rw [if_neg hok, Lib.strOfNums_toList]; rfl
        rw [← hSS] at HDS
        clear hSS hE hok
        go_upto_region 34 with (first
          | ((with_reducible show wpList _ _ _ (⟨some 208, _, _, _, _, _⟩ :: _) _ _); go_loud (refine wpList_load_row rfl 33 (.tmp 24) rfl w2.heap.size rfl 33 s1 (0, 0) _ HG9.out Tryz.underlying33 rfl HS1.out.1 ?_))
          | (go_at_call 16; go_loud (refine HPUT.out.mono ?_; rintro e w4 ⟨F4, u4, rfl, hm4, hs4⟩; have HM4 := Lib.hid hm4; have HS4 := Lib.hid hs4; clear hm4 hs4)))
        have HW4 := Lib.hid (HGF.out _ _ HS4.out)
        have HI4 := Lib.hid (HIYF.out _ _ HS4.out)
        have HG94 := Lib.hid ((HS4.out.same HF9.out).trans HG9.out)
        have HG104 := Lib.hid ((HS4.out.same HF10.out).trans HG10.out)
        have HJS := Lib.hid (jsuper_any HM4.out (by omega) (putSU_down M P2) (by omega) (HGG.out.on HW4.out HGG.out.1))
        rw [HJ.out.1, HJ.out.2, HCZ.out] at HJS
        go_upto_region 35 with (first
          | (go_at_call 6; go_loud (refine HJS.out.mono ?_; rintro e w5' ⟨rfl, hb5⟩; have HB5' := Lib.hid hb5; clear hb5))
          | ((with_reducible show wpList _ _ _ (⟨none, Op.store 33 _ _, _, _, _, _⟩ :: _) _ _); go_loud (refine wpList_store_row rfl 33 (.tmp 27) (.tmp 213) rfl w5'.heap.size cz rfl rfl 33 cz (heap_alloc_new w5' _) HSZ.out.1 rfl HSZ.out.2 ?_)))
        obtain ⟨X6, hX6⟩ : ∃ X6, X6 = (w5'.alloc (.cells cz 33)).setRow w5'.heap.size cz := ⟨_, rfl⟩
        rw [← hX6]
        have HX6 := Lib.hid (show Below w4.heap.size w4 X6 from bt HB5'.out (by rw [hX6]; exact below_setRow ((Below.refl _ _).alloc (Nat.le_refl _) _) (Nat.le_refl _) _))
        have HG7 := Lib.hid (show X6.heap[w5'.heap.size]? = some (.cells cz 33 (0, 0)) from by rw [hX6]; exact setRow_heap _ _ _ _ _ _ (heap_alloc_new w5' _))
        clear hX6
        have HG96 := Lib.hid ((HX6.out.block _ (Array.getElem?_eq_some_iff.1 HG94.out).1).trans HG94.out)
        have HG106 := Lib.hid ((HX6.out.block _ (Array.getElem?_eq_some_iff.1 HG104.out).1).trans HG104.out)
        go_upto_region 36 with (first
          | ((with_reducible show wpList _ _ _ (⟨some 215, _, _, _, _, _⟩ :: _) _ _); go_loud (refine wpList_load_row rfl 59 (.tmp 25) rfl (w2.heap.size + 1) rfl 59 cY (0, 0) _ HG106.out Tryz.underlying59 rfl HS14.out ?_))
          | (go_at_call 17; go_loud (rw [HYY.out.1]; (with_reducible refine (HDS.out X6 (HI4.out.on HX6.out)).mono ?_); rintro e w7 ⟨rfl, hb7⟩; have HB7 := Lib.hid hb7; clear hb7)))
        go_wp2_with fail
        go_ret
        exact ⟨rfl, bt HW4.out (bt HX6.out HB7.out)⟩
end Go.Proofs.YtkfdcdfaikkneaaGreatDoor
