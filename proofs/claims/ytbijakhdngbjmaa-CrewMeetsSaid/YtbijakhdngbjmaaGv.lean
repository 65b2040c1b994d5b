/- CrewMeets, walked. -/
import Derived.Test.YtbijakhdngbjmaaGu
namespace Go.Proofs.Ytbijakhdngbjmaa
open Go.ChangeShapes Go.WideShapes Go.ChangeAt Go.RowKit Go.Shelf Go.Maps
set_option linter.unusedVariables false
set_option linter.unusedSimpArgs false
set_option maxRecDepth 100000
attribute [local go_sem] Oper.semAt_some

theorem u16_and1 (n : Int) : bits .and .u16 n 1 = n % 2 := by
  have h1 : (BitVec.ofInt 16 1).toNat = 2 ^ 1 - 1 := by decide
  have key : (BitVec.ofInt 16 n &&& BitVec.ofInt 16 1).toNat = (n % ((2 ^ 16 : Nat) : Int)).toNat % 2 ^ 1 := by
    rw [BitVec.toNat_and, BitVec.toNat_ofInt, h1, Nat.and_two_pow_sub_one_eq_mod]
  show IntKind.u16.wrap ((BitVec.ofInt 16 n &&& BitVec.ofInt 16 1).toNat : Nat) = n % 2
  rw [key, IntKind.wrap_u16]
  omega
theorem bit_eq (x i : Nat) : (bits .and .u16 ((x : Int) / 2 ^ i) 1 == 1) = bitN x i := by
  rw [u16_and1]
  unfold bitN
  have e : ((x : Int) / 2 ^ i) % 2 = ((x / 2 ^ i % 2 : Nat) : Int) := by simp
  rw [e]
  by_cases h : x / 2 ^ i % 2 = 1
  · rw [h]; simp
  · rw [decide_eq_false h, beq_eq_false_iff_ne]; omega
theorem suB_t {w : World} {q : Nat} {P : SU} (h : SuB w q P) (x : Int) : SuB (w.setCell ⟨q, 10, none⟩ (.int .u8 x)) q { P with t := x } := (Blk.set h (i := 10) (by omega) _).congr (fun i hi => suV_t P x hi)
set_option maxHeartbeats 8000000 in
theorem meets_core (n : Int) (o t : Nat) (boot : Int) (ho : o < 65536) (ht : t < 65536) (hn : (Lit.int .i64 n).wf = true) (hbo : 0 ≤ boot ∧ boot < 4294967296) (w : World) :
    Calls Try.prog 4 #[.int .i64 n, .int .u16 (o : Nat), .int .u16 (t : Nat), .int .u32 boot] w fun e w' => e = .returned (.bool true) ∧ Below w.heap.size w w' := by
  have HLV := Lib.hid (lives16 w)
  obtain ⟨u, hu⟩ : ∃ u, u = IntKind.u64.wrap n := ⟨_, rfl⟩
  have hu0 : 0 ≤ u ∧ u < 18446744073709551616 := by rw [hu, IntKind.wrap_u64]; omega
  obtain ⟨r, hr⟩ : ∃ r, r = u % 12 := ⟨_, rfl⟩
  have hr0 : 0 ≤ r ∧ r < 12 := by omega
  obtain ⟨N, hN⟩ := Int.eq_ofNat_of_zero_le (show 0 ≤ 1 + r by omega)
  have HN := Lib.hid (show 1 ≤ N ∧ N ≤ 12 by omega)
  obtain ⟨b, hb⟩ : ∃ b, b = boot % 1000 := ⟨_, rfl⟩
  have hb0 : 0 ≤ b ∧ b < 1000 := by omega
  obtain ⟨B, hB⟩ : ∃ B, B = 1 + b := ⟨_, rfl⟩
  have HB := Lib.hid (show 1 ≤ B ∧ B ≤ 1000 by omega)
  have f1 : IntKind.u64.wrap n = u := hu.symm
  have f2 : u % 12 = r := hr.symm
  have f3 : IntKind.i64.wrap r = r := IntWalk.i64_in r (by omega)
  have f4 : 1 + r = (N : Int) := hN
  have f5 : boot % 1000 = b := hb.symm
  have f6 : 1 + b = B := hB.symm
  have f7 : u.tmod 12 = r := by rw [Int.tmod_eq_emod_of_nonneg hu0.1]; exact f2
  have f8 : boot.tmod 1000 = b := by rw [Int.tmod_eq_emod_of_nonneg hbo.1]; exact f5
  clear hu hr hN hb hB
  go_enter Try.func4, Try.ntmps4
  go_upto_region 5 with (go_at_call 5; go_loud ((with_reducible refine HLV.out.mono ?_); rintro e w1 ⟨rfl, hb⟩; have HB1 := Lib.hid hb; clear hb))
  clear f1 f2 f3 f4 f5 f6 f7 f8 hu0 hr0 hb0
  obtain ⟨hz0, hi0⟩ := zero_of_info infoSu
  clear hi0
  obtain ⟨c0, hc0⟩ : ∃ s, s = tabV 276 (suV suZ) := ⟨_, rfl⟩
  rw [← hc0] at hz0
  have HC0 := Lib.hid (show c0.size = 276 by rw [hc0, size_tabV])
  clear hc0
  have hNu : IntKind.u8.wrap (N : Int) = (N : Int) := by rw [IntKind.wrap_u8]; have := HN.out; omega
  have hN1 : N ≤ 12 := HN.out.2
  have hB1 : 1 ≤ B ∧ B ≤ 1000 := HB.out
  have HSN := Lib.hid (show ∀ k, cntB o k ≤ k ∧ cntB t k ≤ k from fun k => ⟨cntB_le o k, cntB_le t k⟩)
  go_wp2
  go_loopw [9, 10, 11, 28] (fun lv av bv iv wr => ∃ (k : Nat) (la : Option Addr) (lc : Nat), k ≤ N ∧ iv = .int .i64 (k : Nat) ∧ lv = .slice la (cntB t k) lc ∧ av = .int .i64 ((cntB o k : Nat) : Int) ∧ bv = .int .i64 ((cntB t k : Nat) : Int) ∧ Hid (wr.ownsRow w.heap.size 35 276 (.slice la (cntB t k) lc) (cntB t k) (rowSU (meetL N o t B k))) ∧ Hid (Below w.heap.size w wr))
    (fun _ _ _ iv _ => N - (intOf iv).toNat)
  case atStart => exact ⟨0, none, 0, Nat.zero_le _, rfl, rfl, rfl, rfl, Lib.hid (own_nilSU _ _), Lib.hid HB1.out⟩
  case round =>
    obtain ⟨k, la, lc, hk, rfl, rfl, rfl, rfl, ho1, hbn⟩ := hrel
    rename World => wo
    obtain ⟨ka, hka⟩ : ∃ ka, ka = cntB o k := ⟨_, rfl⟩
    obtain ⟨kb, hkb⟩ : ∃ kb, kb = cntB t k := ⟨_, rfl⟩
    rw [← hkb] at ho1 ⊢
    rw [← hka]
    have hka9 : ka ≤ k := by rw [hka]; exact cntB_le o k
    have hkb9 : kb ≤ k := by rw [hkb]; exact cntB_le t k
    have HKA := Lib.hid hka
    have HKB := Lib.hid hkb
    have HO1 := Lib.hid ho1.out
    have HBN := Lib.hid hbn.out
    clear ho1 hbn hka hkb
    by_cases hlt : k < N
    · have q1 : (k : Int) < (N : Int) := by omega
      have hk1 : IntKind.u8.wrap ((k : Int) + 1) = (k : Int) + 1 := by rw [IntKind.wrap_u8]; omega
      have HF := Lib.hid (show ∀ W : World, Calls Try.prog 15 #[.int .u8 (N : Int), .int .u8 ((k : Int) + 1), .int .u32 B, .slice none 0 0] W fun e w' => e = .returned (suA (supP (N : Int) ((k : Int) + 1) B [])) ∧ Below W.heap.size W w' from fun W => super_any (N : Int) ((k : Int) + 1) B none 0 0 [] W ⟨rfl, Nat.le_refl _, Nat.zero_le _, fun _ => rfl, fun i => ⟨by show (-9223372036854775808 : Int) ≤ 0; decide, by show (0 : Int) ≤ 9223372036854775807; decide⟩, fun h => absurd h (by omega)⟩ (fun x hx => by cases hx))
      obtain ⟨s0, hs0⟩ : ∃ s, s = tabV 276 (suV (supP (N : Int) ((k : Int) + 1) B [])) := ⟨_, rfl⟩
      have HS0 := Lib.hid (show s0.size = 276 ∧ s0.all (·.oneCell') = true by rw [hs0]; exact ⟨size_tabV _ _, tabV_one (suV_one _)⟩)
      have HSS := Lib.hid hs0
      unfold suA at HF
      rw [← hs0] at HF
      have HLT := Lib.hid hlt
      clear hs0 hlt
      go_upto_region 11 with (first
        | (go_at_call 15; go_loud ((with_reducible refine (HF.out _).mono ?_); rintro e w2 ⟨rfl, hb⟩; have HB2 := Lib.hid hb; clear hb))
        | ((with_reducible show wpList _ _ _ (⟨none, Op.store 35 _ _, _, _, _, _⟩ :: _) _ _); go_loud (refine wpList_store_row rfl 35 (.tmp 13) (.tmp 37) rfl w2.heap.size s0 rfl rfl 35 c0 (heap_alloc_new _ _) (by rw [HS0.out.1]; exact sizeSu) (by rw [HS0.out.1, HC0.out]) HS0.out.2 ?_; rw [alloc_setRow])))
      obtain ⟨q, hq⟩ : ∃ q, q = w2.heap.size := ⟨_, rfl⟩
      have HQ := Lib.hid (show wo.heap.size ≤ q by rw [hq]; exact HB2.out.size)
      have HSV := Lib.hid (show SuB (w2.alloc (.cells s0 35)) q (supP (N : Int) ((k : Int) + 1) B []) by unfold SuB Blk; rw [← HSS.out, hq]; exact heap_alloc_new w2 _)
      have HBV := Lib.hid (show Below wo.heap.size wo (w2.alloc (.cells s0 35)) from HB2.out.alloc HB2.out.size _)
      rw [← hq]
      clear hq HB2
      generalize w2.alloc (.cells s0 35) = V at HSV HBV ⊢
      have c10 := HSV.out.num.2.2.1
      have f10 := Blk.free HSV.out 10
      go_upto_region 12 with fail
      have HS2 := Lib.hid (show SuB (V.setCell ⟨q, 10, none⟩ (.int .u8 1)) q (meetP N k 0 B) from suB_t HSV.out 1)
      have HB2 := Lib.hid (show Below wo.heap.size wo (V.setCell ⟨q, 10, none⟩ (.int .u8 1)) from HBV.out.setCell (p := ⟨q, 10, none⟩) HQ.out _)
      clear c10 f10
      generalize V.setCell ⟨q, 10, none⟩ (.int .u8 1) = V2 at HS2 HB2 ⊢
      have HBW2 := Lib.hid (bt HBN.out HB2.out)
      have HO2 := Lib.hid (show V2.ownsRow w.heap.size 35 276 (.slice la kb lc) kb (rowSU (meetL N o t B k)) from own_blockT HO1.out (fun g e => HB2.out.block g (HO1.out.lt g e).2))
      have HLQ := Lib.hid (show w.heap.size ≤ q by have := HBN.out.size; have := HQ.out; omega)
      have HNQ := Lib.hid (show ∀ g, (Value.slice la kb lc).ownBlock = some g → g < q from fun g e => by have := (HO1.out.lt g e).2; have := HQ.out; omega)
      clear HO1 HBV HB2 HSV
      have q12 : N ≤ 12 := HN.out.2
      go_wp2
      go_loopw [40] (fun jv wx => ∃ j : Nat, j ≤ N ∧ jv = .int .i64 (j : Nat) ∧ Hid (SuB wx q (meetP N k j B)) ∧ Hid (Below q V2 wx)) (fun jv _ => N - (intOf jv).toNat)
      case atStart => exact ⟨0, Nat.zero_le _, rfl, Lib.hid HS2.out, Lib.hid (Below.refl _ _)⟩
      case round =>
        obtain ⟨j, hj, rfl, hS, hbx⟩ := hrel
        by_cases hjl : j < N
        · have q2 : (j : Int) < (N : Int) := by omega
          obtain ⟨x, hx⟩ : ∃ x, x = j + 1 := ⟨_, rfl⟩
          have hxe : (j : Int) + 1 = (x : Int) := by omega
          have hx2 : x < 256 := by omega
          have hx3 : (x : Int) < 256 := by omega
          have hci := hS.out.inn (j := x) hx2
          have hfr := Blk.free hS.out (16 + x)
          obtain ⟨v, hv⟩ : ∃ v, v = (meetP N k j B).inn.getD x false := ⟨_, rfl⟩
          rw [← hv] at hci
          have HX := Lib.hid hx
          have HJ := Lib.hid (show x ≤ N by omega)
          clear hv hx hjl
          go_wp2
          go_roundw
          case rel =>
            refine ⟨x, HJ.out, by go_num, Lib.hid ?_, Lib.hid (hbx.out.setCell (p := ⟨q, 16 + x, none⟩) (Nat.le_refl _) _)⟩
            have h1 := suB_in0 hS.out (innL_len _) (x := x) (by have := HJ.out; omega)
            have e : ({ meetP N k j B with inn := (meetP N k j B).inn.set x true } : SU) = meetP N k x B := by
              unfold meetP
              rw [HX.out, allI_next, innL_snoc, Int.toNat_natCast]
            rw [e] at h1
            exact h1
          case measure => simp [intOf]; have := HX.out; have := HJ.out; omega
        · obtain rfl : j = N := by omega
          clear hjl
          have HSX := Lib.hid hS.out
          have HBX := Lib.hid hbx.out
          have fo := bit_eq o k
          have ft := bit_eq t k
          have HBWX := Lib.hid (show Below w.heap.size w wr from HBW2.out.trans (HBX.out.mono HLQ.out))
          have HOX := Lib.hid (show wr.ownsRow w.heap.size 35 276 (.slice la kb lc) kb (rowSU (meetL j o t B k)) from own_blockT HO2.out (fun g e => HBX.out.block g (HNQ.out g e)))
          clear hS hbx
          go_upto_if 52 with fail
          cases hbo2 : bitN o k with
          | false =>
            rw [hbo2] at fo
            have HBO := Lib.hid (show metBo o k B = B by unfold metBo; rw [if_neg (by rw [hbo2]; simp)])
            have HCO := Lib.hid (show cntB o (k + 1) = ka by rw [cntB, if_neg (by rw [hbo2]; simp), HKA.out])
            clear hbo2
            have HSV := Lib.hid HSX.out
            have HOW := Lib.hid HOX.out
            have HBV := Lib.hid HBWX.out
            obtain ⟨sM, hsM⟩ : ∃ s, s = tabV 276 (suV (meetP j k j B)) := ⟨_, rfl⟩
            have HSM := Lib.hid (show sM.size = 276 ∧ sM.all (·.oneCell') = true by rw [hsM]; exact ⟨size_tabV _ _, tabV_one (suV_one _)⟩)
            have HMA := Lib.hid (show suA (meetP j k j B) = .agg sM by rw [hsM]; rfl)
            have HRM := Lib.hid (show wr.heap[q]? = some (.cells sM 35 (0, 0)) by rw [hsM]; exact HSV.out)
            clear hsM
            cases hbt : bitN t k with
            | false =>
              rw [hbt] at ft
              have HML := Lib.hid (show meetL j o t B (k + 1) = meetL j o t B k by rw [meetL, if_neg (by rw [hbt]; simp)])
              have HCT := Lib.hid (show cntB t (k + 1) = kb by rw [cntB, if_neg (by rw [hbt]; simp), HKB.out])
              clear hbt
              go_wp2
              go_roundw
              case rel => exact ⟨k + 1, la, lc, HLT.out, by go_num, (by rw [HCT.out]; first | done | rfl | go_num), (by rw [HCO.out]; first | done | rfl | go_num), (by rw [HCT.out]; first | done | rfl | go_num), Lib.hid (by rw [HCT.out, HML.out]; exact HOW.out), Lib.hid HBV.out⟩
              case measure => simp [intOf]; have := HLT.out; omega
            | true =>
              rw [hbt] at ft
              have HML := Lib.hid (show meetL j o t B (k + 1) = meetL j o t B k ++ [meetP j k j B] by rw [meetL, if_pos hbt, HBO.out])
              have HCT := Lib.hid (show cntB t (k + 1) = kb + 1 by rw [cntB, if_pos hbt, HKB.out])
              clear hbt
              go_wp2_with (first
                | ((with_reducible show wpList _ _ _ (⟨some 65, _, _, _, _, _⟩ :: _) _ _); go_loud (refine wpList_load_row rfl 35 (.tmp 13) rfl q rfl 35 sM (0, 0) _ HRM.out Try.underlying35 rfl (by rw [HSM.out.1]; exact sizeSu) ?_))
                | ((with_reducible show wpList _ _ _ (⟨some 66, _, _, _, _, _⟩ :: _) _ _); go_loud (refine wpList_build_su rfl (.tmp 65) rfl (meetP j k j B) HMA.out.symm ?_))
                | ((with_reducible show wpList _ _ _ (⟨some 67, _, _, _, _, _⟩ :: _) _ _); go_loud (refine wpList_append_su _ rfl (.tmp 64) (.tmp 66) rfl w.heap.size (.slice la kb lc) kb (meetL j o t B k) rfl (HOW.out.alloc _) wr.heap.size (meetP j k j B) rfl (Blk.made _ _ _ _) (by omega) (by have := HBV.out.size; simp; omega) (wr.heap.size + 1) (by simp) ?_; intro g4 c4 w4 ho4 hg4 hat4 hlt4; have HO4 := Lib.hid ho4; have HB4 := Lib.hid ((HBV.out.alloc HBV.out.size _).grown hg4 (by have := HBV.out.size; simp; omega) (fun j e => (HOW.out.lt j e).1)); clear ho4 hg4 hlt4)))
              go_roundw
              case rel => exact ⟨k + 1, some ⟨g4, 0, none⟩, c4, HLT.out, by go_num, (by rw [HCT.out]; first | done | rfl | go_num), (by rw [HCO.out]; first | done | rfl | go_num), (by rw [HCT.out]; first | done | rfl | go_num), Lib.hid (by rw [HCT.out, HML.out]; exact HO4.out), Lib.hid HB4.out⟩
              case measure => simp [intOf]; have := HLT.out; omega
          | true =>
            rw [hbo2] at fo
            have HBO := Lib.hid (show metBo o k B = B + 1 by unfold metBo; rw [if_pos hbo2])
            have HCO := Lib.hid (show cntB o (k + 1) = ka + 1 by rw [cntB, if_pos hbo2, HKA.out])
            clear hbo2
            have c14 : wr.cell? ⟨q, 14, none⟩ = some (.int .u32 B) := HSX.out.num.2.2.2.2.2.2.1
            have f14 := Blk.free HSX.out 14
            have hwB : IntKind.u32.wrap (B + 1) = B + 1 := by rw [IntKind.wrap_u32]; omega
            go_upto_region 19 with fail
            have HSV := Lib.hid (show SuB (wr.setCell ⟨q, 14, none⟩ (.int .u32 (B + 1))) q (meetP j k j (B + 1)) from (Blk.set HSX.out (i := 14) (by omega) _).congr (fun i hi => suV_bo (meetP j k j B) (B + 1) hi))
            have HOW := Lib.hid (show (wr.setCell ⟨q, 14, none⟩ (.int .u32 (B + 1))).ownsRow w.heap.size 35 276 (.slice la kb lc) kb (rowSU (meetL j o t B k)) from own_blockT HOX.out (fun g e => heap_setCell_other _ _ _ _ (by have := HNQ.out g e; show g ≠ q; omega)))
            have HBV := Lib.hid (show Below w.heap.size w (wr.setCell ⟨q, 14, none⟩ (.int .u32 (B + 1))) from HBWX.out.setCell (p := ⟨q, 14, none⟩) HLQ.out _)
            clear c14 f14 hwB
            generalize wr.setCell ⟨q, 14, none⟩ (.int .u32 (B + 1)) = V4 at HSV HOW HBV ⊢
            obtain ⟨sM, hsM⟩ : ∃ s, s = tabV 276 (suV (meetP j k j (B + 1))) := ⟨_, rfl⟩
            have HSM := Lib.hid (show sM.size = 276 ∧ sM.all (·.oneCell') = true by rw [hsM]; exact ⟨size_tabV _ _, tabV_one (suV_one _)⟩)
            have HMA := Lib.hid (show suA (meetP j k j (B + 1)) = .agg sM by rw [hsM]; rfl)
            have HRM := Lib.hid (show V4.heap[q]? = some (.cells sM 35 (0, 0)) by rw [hsM]; exact HSV.out)
            clear hsM
            cases hbt : bitN t k with
            | false =>
              rw [hbt] at ft
              have HML := Lib.hid (show meetL j o t B (k + 1) = meetL j o t B k by rw [meetL, if_neg (by rw [hbt]; simp)])
              have HCT := Lib.hid (show cntB t (k + 1) = kb by rw [cntB, if_neg (by rw [hbt]; simp), HKB.out])
              clear hbt
              go_wp2
              go_roundw
              case rel => exact ⟨k + 1, la, lc, HLT.out, by go_num, (by rw [HCT.out]; first | done | rfl | go_num), (by rw [HCO.out]; first | done | rfl | go_num), (by rw [HCT.out]; first | done | rfl | go_num), Lib.hid (by rw [HCT.out, HML.out]; exact HOW.out), Lib.hid HBV.out⟩
              case measure => simp [intOf]; have := HLT.out; omega
            | true =>
              rw [hbt] at ft
              have HML := Lib.hid (show meetL j o t B (k + 1) = meetL j o t B k ++ [meetP j k j (B + 1)] by rw [meetL, if_pos hbt, HBO.out])
              have HCT := Lib.hid (show cntB t (k + 1) = kb + 1 by rw [cntB, if_pos hbt, HKB.out])
              clear hbt
              go_wp2_with (first
                | ((with_reducible show wpList _ _ _ (⟨some 65, _, _, _, _, _⟩ :: _) _ _); go_loud (refine wpList_load_row rfl 35 (.tmp 13) rfl q rfl 35 sM (0, 0) _ HRM.out Try.underlying35 rfl (by rw [HSM.out.1]; exact sizeSu) ?_))
                | ((with_reducible show wpList _ _ _ (⟨some 66, _, _, _, _, _⟩ :: _) _ _); go_loud (refine wpList_build_su rfl (.tmp 65) rfl (meetP j k j (B + 1)) HMA.out.symm ?_))
                | ((with_reducible show wpList _ _ _ (⟨some 67, _, _, _, _, _⟩ :: _) _ _); go_loud (refine wpList_append_su _ rfl (.tmp 64) (.tmp 66) rfl w.heap.size (.slice la kb lc) kb (meetL j o t B k) rfl (HOW.out.alloc _) V4.heap.size (meetP j k j (B + 1)) rfl (Blk.made _ _ _ _) (by omega) (by have := HBV.out.size; simp; omega) (V4.heap.size + 1) (by simp) ?_; intro g4 c4 w4 ho4 hg4 hat4 hlt4; have HO4 := Lib.hid ho4; have HB4 := Lib.hid ((HBV.out.alloc HBV.out.size _).grown hg4 (by have := HBV.out.size; simp; omega) (fun j e => (HOW.out.lt j e).1)); clear ho4 hg4 hlt4)))
              go_roundw
              case rel => exact ⟨k + 1, some ⟨g4, 0, none⟩, c4, HLT.out, by go_num, (by rw [HCT.out]; first | done | rfl | go_num), (by rw [HCO.out]; first | done | rfl | go_num), (by rw [HCT.out]; first | done | rfl | go_num), Lib.hid (by rw [HCT.out, HML.out]; exact HO4.out), Lib.hid HB4.out⟩
              case measure => simp [intOf]; have := HLT.out; omega
    · obtain rfl : k = N := by omega
      have qk : ¬ (k : Int) < (k : Int) := by omega
      obtain ⟨hy0, hi0⟩ := zero_of_info infoCr
      clear hi0
      obtain ⟨z0, hzz0⟩ : ∃ s, s = crZ := ⟨_, rfl⟩
      replace hy0 : ∀ W : World, (zeroValue 38).run Try.prog W = .ok (.agg z0) W := by rw [hzz0]; exact hy0
      have HZ0 := Lib.hid (show z0.size = 277 ∧ z0.all (·.oneCell') = true by rw [hzz0]; exact crZ_size)
      have HZZ := Lib.hid hzz0
      have HSR := Lib.hid (SuR.of_own HO1.out)
      have HK1 := Lib.hid HN.out.1
      clear hzz0
      rcases Nat.eq_zero_or_pos kb with h0 | h0
      · subst h0
        have HG := Lib.hid (show ∀ W : World, Calls Try.prog 7 #[.slice la 0 lc] W fun e w' => e = .returned (.tuple #[.agg z0, .int .i64 16]) ∧ Below W.heap.size W w' from fun W => by rw [HZZ.out]; exact gather_nil la lc W)
        go_wp2_with (first
          | (go_at_call 7; go_loud ((with_reducible refine (HG.out _).mono ?_); rintro e w5 ⟨rfl, hb⟩; have HB5 := Lib.hid (bt HBN.out hb); clear hb))
          | ((with_reducible show wpList _ _ _ (⟨none, Op.store 38 _ _, _, _, _, _⟩ :: _) _ _); go_loud (refine wpList_store_row rfl 38 (.tmp 15) (.tmp 74) rfl w5.heap.size z0 rfl rfl 38 z0 (heap_alloc_new _ _) (by rw [HZ0.out.1]; exact sizeCr) rfl HZ0.out.2 ?_; rw [alloc_setRow])))
        go_ret
        exact ⟨rfl, HB5.out.alloc HB5.out.size _⟩
      · have HM := Lib.hid (meet_ga (o := o) (t := t) HN.out.1 HN.out.2 (by omega : 0 ≤ B ∧ B ≤ 1000) (by rw [← HKB.out]; exact h0))
        have HGS := Lib.hid (fun W (hW : Below wo.heap.size wo W) => gather_some la kb lc (meetL k o t B k) W (HSR.out.on hW) (meetL_tog HN.out.2 (by omega)) h0)
        by_cases h1 : 2 * kb ≤ k
        · have HG := Lib.hid (show Calls Try.prog 7 #[.slice la kb lc] wo fun e w' => e = .returned (.tuple #[.agg z0, .int .i64 13]) ∧ Below wo.heap.size wo w' by
            refine (HGS.out wo (Below.refl _ _)).mono ?_
            rintro e w' ⟨-, h2, h3⟩
            have h4 := HM.out.1 (by rw [← HKB.out]; exact h1)
            rw [h4] at h2
            rw [HZZ.out]
            exact ⟨h2 (by decide), h3⟩)
          have q3 : (2 : Int) * (kb : Int) ≤ (k : Int) := by omega
          have q4 : (0 : Int) < (kb : Int) := by omega
          go_wp2_with (first
            | (go_at_call 7; go_loud ((with_reducible refine HG.out.mono ?_); rintro e w5 ⟨rfl, hb⟩; have HB5 := Lib.hid (bt HBN.out hb); clear hb))
            | ((with_reducible show wpList _ _ _ (⟨none, Op.store 38 _ _, _, _, _, _⟩ :: _) _ _); go_loud (refine wpList_store_row rfl 38 (.tmp 15) (.tmp 74) rfl w5.heap.size z0 rfl rfl 38 z0 (heap_alloc_new _ _) (by rw [HZ0.out.1]; exact sizeCr) rfl HZ0.out.2 ?_; rw [alloc_setRow])))
          go_ret
          exact ⟨rfl, HB5.out.alloc HB5.out.size _⟩
        · obtain ⟨T, hTT⟩ : ∃ T, T = tabSU (meetL k o t B k) := ⟨_, rfl⟩
          have HMM := Lib.hid (HM.out.2 (by rw [← HKB.out]; omega))
          have HTB := Lib.hid (show k < 2 * ka → T.bo = B + 1 from fun h => by rw [hTT]; exact HMM.out.2.2 (by rw [← HKA.out]; exact h))
          have HG := Lib.hid (show Calls Try.prog 7 #[.slice la kb lc] wo fun e w' => (∃ (ao : Option Addr) (co : Nat), e = .returned (.tuple #[crA T (.slice ao kb co), .int .i64 0])) ∧ Below wo.heap.size wo w' by
            refine (HGS.out wo (Below.refl _ _)).mono ?_
            rintro e w' ⟨h2, -, h3⟩
            obtain ⟨ao, co, h4, -⟩ := h2 HMM.out.1
            rw [HMM.out.2.1, ← HKB.out, ← hTT] at h4
            exact ⟨⟨ao, co, h4⟩, h3⟩)
          have q3 : ¬ (2 : Int) * (kb : Int) ≤ (k : Int) := by omega
          have HQ3 := Lib.hid h1
          clear hTT h1
          go_upto_region 27 with (first
            | (go_at_call 7; go_loud ((with_reducible refine HG.out.mono ?_); rintro e w5 ⟨⟨ao, co, rfl⟩, hb⟩; have HB5 := Lib.hid (bt HBN.out hb); clear hb; obtain ⟨sC, hsC⟩ : ∃ s, s = tabV 277 (crV T (.slice ao kb co)) := ⟨_, rfl⟩; have HCA := Lib.hid (show crA T (.slice ao kb co) = .agg sC by rw [hsC]; rfl); have HSC := Lib.hid (show sC.size = 277 ∧ sC.all (·.oneCell') = true by rw [hsC]; exact ⟨size_tabV _ _, tabV_one (crV_one T rfl)⟩); have HSD := Lib.hid hsC; clear hsC; rw [HCA.out]))
            | ((with_reducible show wpList _ _ _ (⟨none, Op.store 38 _ _, _, _, _, _⟩ :: _) _ _); go_loud (refine wpList_store_row rfl 38 (.tmp 15) (.tmp 74) rfl w5.heap.size sC rfl rfl 38 z0 (heap_alloc_new _ _) (by rw [HSC.out.1]; exact sizeCr) (by rw [HSC.out.1, HZ0.out.1]) HSC.out.2 ?_; rw [alloc_setRow])))
          obtain ⟨q, hq⟩ : ∃ q, q = w5.heap.size := ⟨_, rfl⟩
          have HCB := Lib.hid (show CrB (w5.alloc (.cells sC 38)) q T (.slice ao kb co) by unfold CrB Blk; rw [← HSD.out, hq]; exact heap_alloc_new w5 _)
          have HBV := Lib.hid (show Below w.heap.size w (w5.alloc (.cells sC 38)) from HB5.out.alloc HB5.out.size _)
          rw [← hq]
          clear hq
          generalize w5.alloc (.cells sC 38) = V at HCB HBV ⊢
          have c276 := HCB.out.slot
          have qkk : ((kb : Int) == (kb : Int)) = true := by simp
          by_cases h2 : 2 * ka ≤ k
          · have q5 : (2 : Int) * (ka : Int) ≤ (k : Int) := by omega
            go_wp2
            go_ret
            exact ⟨rfl, HBV.out⟩
          · have q5 : ¬ (2 : Int) * (ka : Int) ≤ (k : Int) := by omega
            have c14 := HCB.out.num.2.2.2.1
            rw [HTB.out (by omega)] at c14
            have hwB : IntKind.u32.wrap (B + 1) = B + 1 := by rw [IntKind.wrap_u32]; omega
            go_wp2
            go_ret
            exact ⟨rfl, HBV.out⟩
end Go.Proofs.Ytbijakhdngbjmaa
