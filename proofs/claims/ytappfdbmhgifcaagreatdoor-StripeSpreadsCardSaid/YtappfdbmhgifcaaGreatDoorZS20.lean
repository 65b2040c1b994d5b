/- Texts of mine, one behind the other: Ke2. -/
import Derived.Test.YtappfdbmhgifcaaGreatDoorZS19
import Derived.Test.YtappfdbmhgifcaaGreatDoorZS18
import Derived.Deep.AppendLies
/- Contract of the document's own Encrypt (written by gen27.py). -/
namespace Go.Proofs.YtappfdbmhgifcaaGreatDoor
open Go.ChangeShapes Go.WideShapes Go.ChangeAt Go.RowKit
set_option linter.unusedVariables false
set_option linter.unusedSimpArgs false
set_option maxRecDepth 100000

set_option maxHeartbeats 8000000 in
theorem refEnc_new (a : Option Addr) (L c n : Nat) (l : List Int) (a2 : Option Addr) (c2 : Nat) (b : List Int) (w : World) (hx : Arg8 w a L c l) (hn : n = 4 ∨ n = 8) (hL : L = 4 * n) (hy : Arg8 w a2 16 c2 b) :
    Calls Tryz.prog 58 #[.slice a L c, .slice a2 16 c2] w fun e w' => ∃ g, e = .returned (.slice (some ⟨g, 0, none⟩) 16 16) ∧
      Arg8 w' (some ⟨g, 0, none⟩) 16 16 (outL (enc (kx n (kw l) (3 * n + 28)) (n + 6) (kw b)) 4) ∧ Below w.heap.size w w' ∧ w.heap.size ≤ g := by
  have HK := Lib.hid (refKeys_any a L c n l w hx hn hL)
  have HWB := Lib.hid (kx_bd n (kw_lt hx.2.1) (3 * n + 28))
  have HXB := Lib.hid (kw_lt hy.2.1)
  have hyc := hy.2.2.2
  have HBA := Lib.hid (show ∃ bb ob, a2 = some ⟨bb, ob, none⟩ ∧ bb < w.heap.size ∧ ∀ i, i < 16 → w.cell? ⟨bb, ob + i, none⟩ = some (.int .u8 ((qd (kw b) i : Nat) : Int)) by
    obtain ⟨bb, ob, e, h1, h2⟩ := hy.2.2.1 (by rw [hy.1]; omega)
    refine ⟨bb, ob, e, h1, fun i hi => ?_⟩
    rw [h2 i (by rw [hy.1]; exact hi)]
    unfold qd kw
    rw [show 4 * (i / 4) + i % 4 = i by omega]
    have := allB_getD hy.2.1 i
    congr 2
    omega)
  obtain ⟨W, hW⟩ : ∃ W, W = kx n (kw l) (3 * n + 28) := ⟨_, rfl⟩
  obtain ⟨X, hX⟩ : ∃ X, X = kw b := ⟨_, rfl⟩
  rw [← hW] at HK HWB ⊢
  rw [← hX] at HXB HBA ⊢
  have hn1 : 4 ≤ n := by omega
  have hn2 : n ≤ 8 := by omega
  have HN := Lib.hid hn
  clear hW hX hx hy hn hL
  obtain ⟨bb, ob, rfl, hbb, hbc⟩ := HBA.out
  have HBC := Lib.hid hbc
  have HBB := Lib.hid hbb
  clear hbc hbb HBA
  obtain ⟨i5, HI⟩ : ∃ i5 : TypeInfo, Hid (Tryz.prog.info? 5 = some i5 ∧ i5.zero = some (.int .u8 0) ∧ i5.size = 1 ∧ i5.bytes = 1) := ⟨_, Lib.hid ⟨rfl, rfl, rfl, rfl⟩⟩
  obtain ⟨LK, hLK⟩ : ∃ K, K = 16 * (n + 7) := ⟨_, rfl⟩
  rw [← hLK] at HK
  have qk : (LK : Int) / 16 = ((n + 7 : Nat) : Int) := by omega
  have qk2 : ((n + 7 : Nat) : Int) - 1 = ((n + 6 : Nat) : Int) := by omega
  have HLK := Lib.hid hLK
  have hlk2 : (LK : Int) ≤ 240 := by omega
  clear hLK
  obtain ⟨n7, hn7⟩ : ∃ k, k = n + 7 := ⟨_, rfl⟩
  obtain ⟨R, hR⟩ : ∃ k, k = n + 6 := ⟨_, rfl⟩
  rw [← hn7] at qk qk2
  rw [← hR] at qk2 ⊢
  have HR := Lib.hid hR
  have qR1 : (10 : Int) ≤ (R : Int) := by omega
  have qR2 : (R : Int) ≤ 14 := by omega
  clear hn7 hR
  have hz := zero16
  have hst := store16
  obtain ⟨z, hzz⟩ : ∃ z, z = z16 := ⟨_, rfl⟩
  have HZB := Lib.hid blk16
  rw [← hzz] at hz hst HZB
  have HZS := Lib.hid (show (Tryz.prog.info? 114).map (·.size) = some z.size by rw [hzz, show z16.size = 16 from size_tabV _ _]; exact size_16)
  have hsz : z.size = 16 := by rw [hzz]; exact size_tabV _ _
  clear hzz
  go_enter Tryz.func58, Tryz.ntmps58
  go_upto_region 4 with (go_at_call 86; (with_reducible refine HK.out.mono ?_); rintro e w1 ⟨g, cap, rfl, ho, hb⟩; have HO1 := Lib.hid ho; have HB1 := Lib.hid hb; clear ho hb)
  have HZZ := Lib.hid hz
  have HST := Lib.hid hst
  have HSZ := Lib.hid hsz
  clear hz hst hsz
  obtain ⟨bs, hbs⟩ : ∃ b, b = w1.heap.size := ⟨_, rfl⟩
  obtain ⟨V3, hV3⟩ : ∃ V, V = w1.alloc (.cells z 114) := ⟨_, rfl⟩
  obtain ⟨S0, hS0⟩ : ∃ S, S = adds X (rk W 0) := ⟨_, rfl⟩
  obtain ⟨Z, hZ0⟩ : ∃ Z : Nat → Nat → Nat, Z = fun _ _ => 0 := ⟨_, rfl⟩
  rw [← hZ0] at HZB
  have HZ0 := Lib.hid hZ0
  have HS3 := Lib.hid (show Blk V3 bs 114 16 (pm Z S0 0) by rw [hV3, hbs]; exact HZB.out w1 S0)
  have HB3 := Lib.hid (show Below w1.heap.size w1 V3 by rw [hV3]; exact (Below.refl _ _).alloc (Nat.le_refl _) _)
  have HBS := Lib.hid hbs
  have HSE := Lib.hid hS0
  have HGC := own_caps HO1.out
  have HGB := Lib.hid (show g < w1.heap.size from HGC.2.2.2.2)
  have HBW := Lib.hid (show bb < w1.heap.size by have := HBB.out; have := HB1.out.size; omega)
  have HKC := Lib.hid (show ∀ j, j < LK → w1.cell? ⟨g, j, none⟩ = some (.int .u8 ((qd W j : Nat) : Int)) from fun j hj => by
    have h := own_cells HO1.out j hj
    have hLK := HLK.out
    rw [Nat.zero_add, show j = 4 * (j / 4) + j % 4 by omega, getD_outL _ (Nat.mod_lt _ (by omega)) _ (by omega), ← show j = 4 * (j / 4) + j % 4 by omega] at h
    exact h)
  have HYC := Lib.hid (show ∀ i, i < 16 → w1.cell? ⟨bb, ob + i, none⟩ = some (.int .u8 ((qd X i : Nat) : Int)) from fun i hi => (HB1.out.cell (p := ⟨bb, ob + i, none⟩) HBB.out).trans (HBC.out i hi))
  have hgc1 : LK ≤ cap := HGC.2.1
  have hgc2 : cap ≤ 9223372036854775807 := HGC.2.2.1
  rw [← hV3, ← hbs]
  clear hV3 hbs hS0 hZ0 HGC HO1
  go_wp2_with fail
  go_loopw [24] (fun q V => ∃ i : Nat, i ≤ 16 ∧ q = .int .i64 (i : Nat) ∧ Blk V bs 114 16 (pm Z S0 i) ∧ Below w1.heap.size w1 V) (fun q _ => 16 - (intOf q).toNat)
  case atStart => exact ⟨0, by omega, rfl, HS3.out, HB3.out⟩
  case round =>
    obtain ⟨i, hi, rfl, hS, hB⟩ := hrel
    rename World => V
    have HS := Lib.hid hS
    have HB := Lib.hid hB
    clear hS hB HS3 HB3
    by_cases hlt : i < 16
    · have hcy := (HB.out.cell (p := ⟨bb, ob + i, none⟩) HBW.out).trans (HYC.out i hlt)
      have hck := (HB.out.cell (p := ⟨g, i, none⟩) HGB.out).trans (HKC.out i (by have := HLK.out; omega))
      have hcs := HS.out.cell hlt
      have hfs := HS.out.free i
      have hxr := u8_xor_nat (qd X i) (qd W i) (qd_lt HXB.out i) (qd_lt HWB.out i)
      have hqa := qd_adds X W 0 hlt
      rw [Nat.mul_zero, Nat.zero_add, ← HSE.out] at hqa
      rw [← hqa] at hxr
      unfold pm at hcs
      rw [if_neg (by omega)] at hcs
      obtain ⟨u1, hu1⟩ : ∃ u, u = qd X i := ⟨_, rfl⟩
      obtain ⟨u2, hu2⟩ : ∃ u, u = qd W i := ⟨_, rfl⟩
      obtain ⟨u3, hu3⟩ : ∃ u, u = qd Z i := ⟨_, rfl⟩
      obtain ⟨u4, hu4⟩ : ∃ u, u = qd S0 i := ⟨_, rfl⟩
      rw [← hu1] at hcy hxr
      rw [← hu2] at hck hxr
      rw [← hu3] at hcs
      rw [← hu4] at hxr
      have HU4 := Lib.hid hu4
      have qi : (i : Int) < 16 := by omega
      have qi0 : (0 : Int) ≤ (i : Int) := by omega
      have qiL : (i : Int) < (LK : Int) := by have := HLK.out; omega
      clear hqa hu1 hu2 hu3 hu4
      go_wp2_with fail
      go_still_tail 11, (by kernel_rfl)
      go_wp2
      go_roundw
      case rel => exact ⟨i + 1, by omega, by go_num, ((HS.out.drewN 1).set hlt _).congr fun j hj => by rw [HU4.out]; exact pm_next, (below_drewN HB.out 1).setCell (p := ⟨bs, i, none⟩) (by rw [HBS.out]; exact Nat.le_refl _) _⟩
      case measure => simp [intOf]; omega
    · obtain rfl : i = 16 := by omega
      have HS1 := Lib.hid (show Blk V bs 114 16 (pm (encR W X 0) Z 0) from HS.out.congr fun j hj => by rw [← show S0 = encR W X 0 from HSE.out]; exact pm_all hj)
      clear HS
      go_wp2_with fail
      go_loopw [9] (fun q U => ∃ r : Nat, 1 ≤ r ∧ r ≤ R + 1 ∧ q = .int .i64 (r : Nat) ∧ Blk U bs 114 16 (pm (stE W R X (r - 1)) Z 0) ∧ Below w1.heap.size w1 U) (fun q _ => R + 1 - (intOf q).toNat)
      case atStart => exact ⟨1, by omega, by omega, rfl, by rw [show stE W R X (1 - 1) = encR W X 0 from if_neg (by omega)]; exact HS1.out, HB.out⟩
      case round =>
        obtain ⟨r, hr1, hr2, rfl, hS, hU⟩ := hrel
        rename World => U
        have HSU := Lib.hid hS
        have HU := Lib.hid hU
        clear hS hU HS1 HB
        by_cases hle : r ≤ R
        · have qr : (r : Int) ≤ (R : Int) := by omega
          have qr1 : (1 : Int) ≤ (r : Int) := by omega
          obtain ⟨k, hk⟩ : ∃ k, k = r - 1 := ⟨_, rfl⟩
          have hPe : stE W R X (r - 1) = encR W X k := by rw [← hk]; exact if_neg (by omega)
          rw [hPe] at HSU
          have HKR := Lib.hid (show r = k + 1 by omega)
          clear hPe hk
          obtain ⟨P, hP⟩ : ∃ P, P = encR W X k := ⟨_, rfl⟩
          rw [← hP] at HSU
          have HPE := Lib.hid hP
          have HPB := Lib.hid (show SqB P by rw [hP]; exact encR_bd HWB.out HXB.out k)
          obtain ⟨T, hT⟩ : ∃ T, T = thr box 1 P := ⟨_, rfl⟩
          have HTE := Lib.hid hT
          have HTB := Lib.hid (show SqB T by rw [hT]; exact SqB.thr box_lt _ _)
          clear hP hT
          have hz := HZZ.out
          have hst := HST.out
          have hsz := HSZ.out
          go_upto_region 13 with fail
          clear hz hst hsz
          obtain ⟨bt, hbt⟩ : ∃ b, b = U.heap.size := ⟨_, rfl⟩
          obtain ⟨V12, hV12⟩ : ∃ V, V = U.alloc (.cells z 114) := ⟨_, rfl⟩
          have HT12 := Lib.hid (show Blk V12 bt 114 16 (pm Z T 0) by rw [hV12, hbt]; exact HZB.out U T)
          have HS12 := Lib.hid (show Blk V12 bs 114 16 (pm P Z 0) by rw [hV12]; exact HSU.out.on ((Below.refl _ _).alloc (Nat.le_refl _) _) HSU.out.lt)
          have HB12 := Lib.hid (show Below w1.heap.size w1 V12 by rw [hV12]; exact HU.out.alloc HU.out.size _)
          have HLT := Lib.hid (show bs < bt ∧ w1.heap.size ≤ bs by rw [hbt]; exact ⟨HSU.out.lt, by rw [HBS.out]; exact Nat.le_refl _⟩)
          rw [← hV12, ← hbt]
          clear hV12 hbt
          go_wp2_with fail
          go_loopw [11] (fun q V => ∃ c : Nat, c ≤ 4 ∧ q = .int .i64 (c : Nat) ∧ Blk V bt 114 16 (pm Z T (4 * c)) ∧ Blk V bs 114 16 (pm P Z 0) ∧ Below w1.heap.size w1 V) (fun q _ => 4 - (intOf q).toNat)
          case atStart => exact ⟨0, by omega, rfl, HT12.out, HS12.out, HB12.out⟩
          case round =>
            obtain ⟨c, hc, rfl, h1, h2, h3⟩ := hrel
            rename World => V
            have H1 := Lib.hid h1
            have H2 := Lib.hid h2
            have H3 := Lib.hid h3
            clear h1 h2 h3 HT12 HS12 HB12
            by_cases hlc : c < 4
            · have qc : (c : Int) < 4 := by omega
              have qc0 : (0 : Int) ≤ (c : Int) := by omega
              go_wp2_with fail
              go_loopw [12] (fun q Y => ∃ i : Nat, i ≤ 4 ∧ q = .int .i64 (i : Nat) ∧ Blk Y bt 114 16 (pm Z T (4 * c + i)) ∧ Blk Y bs 114 16 (pm P Z 0) ∧ Below w1.heap.size w1 Y) (fun q _ => 4 - (intOf q).toNat)
              case atStart => exact ⟨0, by omega, rfl, H1.out, H2.out, H3.out⟩
              case round =>
                obtain ⟨i, hi, rfl, h1, h2, h3⟩ := hrel
                rename World => Y
                have G1 := Lib.hid h1
                have G2 := Lib.hid h2
                have G3 := Lib.hid h3
                clear h1 h2 h3 H1 H2 H3
                by_cases hli : i < 4
                · have hml : (c + i) % 4 < 4 := Nat.mod_lt _ (by omega)
                  have hqt := qd_thr P (c := c) hli
                  rw [← HTE.out] at hqt
                  obtain ⟨d, hd⟩ : ∃ d, d = 4 * c + i := ⟨_, rfl⟩
                  obtain ⟨m, hm⟩ : ∃ m, m = (c + i) % 4 := ⟨_, rfl⟩
                  obtain ⟨e, he⟩ : ∃ e, e = 4 * ((c + i) % 4) + i := ⟨_, rfl⟩
                  rw [← hd, ← he] at hqt
                  rw [← hd] at G1
                  have hcs := G2.out.cell (show e < 16 by omega)
                  rw [pm_at (by omega)] at hcs
                  have hcd := G1.out.cell (show d < 16 by omega)
                  rw [pm_at (by omega)] at hcd
                  have hfd := G1.out.free d
                  have HBX := Lib.hid (refBox_N (qd P e) (qd_lt HPB.out e))
                  have HQT := Lib.hid hqt
                  obtain ⟨u1, hu1⟩ : ∃ u, u = qd P e := ⟨_, rfl⟩
                  obtain ⟨u2, hu2⟩ : ∃ u, u = qd Z d := ⟨_, rfl⟩
                  rw [← hu1] at hcs HBX HQT
                  rw [← hu2] at hcd
                  obtain ⟨u3, hu3⟩ : ∃ u, u = box u1 := ⟨_, rfl⟩
                  rw [← hu3] at HBX HQT
                  have x0 : 4 * (c : Int) + (i : Int) = (d : Int) := by omega
                  have x1 : ((c : Int) + (i : Int)) % 4 = (m : Int) := by omega
                  have x2 : 4 * (m : Int) + (i : Int) = (e : Int) := by omega
                  have y1 : (m : Int) < 4 := by omega
                  have y2 : (d : Int) < 16 := by omega
                  have y3 : (e : Int) < 16 := by omega
                  have y4 : (i : Int) < 4 := by omega
                  have y5 : (0 : Int) ≤ (i : Int) := by omega
                  have HD := Lib.hid hd
                  have HD16 := Lib.hid (show d < 16 by omega)
                  have HLI := Lib.hid hli
                  clear hqt hd hm he hu1 hu2 hu3 hml hli hi
                  go_wp2_with (go_at_call 87; (with_reducible refine (HBX.out _).mono ?_); rintro e9 w9 ⟨rfl, nn, rfl⟩)
                  go_roundw
                  case rel => first | exact ⟨i + 1, by have := HLI.out; omega, by go_num, by rw [show 4 * c + (i + 1) = d + 1 by have := HD.out; omega]; exact ((G1.out.drewN nn).set HD16.out _).congr fun j hj => by rw [← HQT.out]; exact pm_next, (G2.out.drewN nn).other ⟨bt, d, none⟩ _ (by have := HLT.out.1; show bs ≠ bt; omega), (below_drewN G3.out nn).setCell (p := ⟨bt, d, none⟩) (by have := HLT.out; show w1.heap.size ≤ bt; omega) _⟩ | ((repeat apply Exists.intro); exact ⟨⟨i + 1, by have := HLI.out; omega, by go_num, by rw [show 4 * c + (i + 1) = d + 1 by have := HD.out; omega]; exact ((G1.out.drewN nn).set HD16.out _).congr fun j hj => by rw [← HQT.out]; exact pm_next, (G2.out.drewN nn).other ⟨bt, d, none⟩ _ (by have := HLT.out.1; show bs ≠ bt; omega), (below_drewN G3.out nn).setCell (p := ⟨bt, d, none⟩) (by have := HLT.out; show w1.heap.size ≤ bt; omega) _⟩, rfl⟩)
                  case measure => simp [intOf]; have := HLI.out; omega
                · obtain rfl : i = 4 := by omega
                  go_wp2
                  go_roundw
                  case rel => exact ⟨c + 1, by omega, by go_num, by rw [show 4 * (c + 1) = 4 * c + 4 by omega]; exact G1.out, G2.out, G3.out⟩
                  case measure => simp [intOf]; omega
            · obtain rfl : c = 4 := by omega
              have HT4 := Lib.hid (show Blk V bt 114 16 (pm T Z 0) from H1.out.congr fun j hj => pm_all hj)
              clear H1
              by_cases hlr : r < R
              · have ql : (r : Int) < (R : Int) := by omega
                have hz := HZZ.out
                have hst := HST.out
                have hsz := HSZ.out
                go_upto_region 22 with fail
                clear hz hst hsz
                obtain ⟨bu, hbu⟩ : ∃ b, b = V.heap.size := ⟨_, rfl⟩
                obtain ⟨M, hM⟩ : ∃ M, M = mix m2 T := ⟨_, rfl⟩
                have HME := Lib.hid hM
                have HMB := Lib.hid (show SqB M by rw [hM]; exact SqB.mix _ _)
                obtain ⟨V21, hV21⟩ : ∃ X, X = V.alloc (.cells z 114) := ⟨_, rfl⟩
                have hal : Below V.heap.size V V21 := by rw [hV21]; exact (Below.refl _ _).alloc (Nat.le_refl _) _
                have HM21 := Lib.hid (show Blk V21 bu 114 16 (pm Z M 0) by rw [hV21, hbu]; exact HZB.out V M)
                have HT21 := Lib.hid (HT4.out.on hal HT4.out.lt)
                have HS21 := Lib.hid (H2.out.on hal H2.out.lt)
                have HB21 := Lib.hid (show Below w1.heap.size w1 V21 by rw [hV21]; exact H3.out.alloc H3.out.size _)
                have HLU := Lib.hid (show bt < bu by rw [hbu]; exact HT4.out.lt)
                rw [← hV21, ← hbu]
                clear hV21 hbu hM hal H2 H3 HT4
                go_wp2_with fail
                go_loopw [14] (fun q V => ∃ c : Nat, c ≤ 4 ∧ q = .int .i64 (c : Nat) ∧ Blk V bu 114 16 (pm Z M (4 * c)) ∧ Blk V bt 114 16 (pm T Z 0) ∧ Blk V bs 114 16 (pm P Z 0) ∧ Below w1.heap.size w1 V) (fun q _ => 4 - (intOf q).toNat)
                case atStart => exact ⟨0, by omega, rfl, HM21.out, HT21.out, HS21.out, HB21.out⟩
                case round =>
                  obtain ⟨c, hc, rfl, h1, h2, h3, h4⟩ := hrel
                  rename World => Y
                  have H1 := Lib.hid h1
                  have H2 := Lib.hid h2
                  have H3 := Lib.hid h3
                  have H4 := Lib.hid h4
                  clear h1 h2 h3 h4 HM21 HT21 HS21 HB21
                  by_cases hlc : c < 4
                  · have qc : (c : Int) < 4 := by omega
                    have qc0 : (0 : Int) ≤ (c : Int) := by omega
                    go_wp2_with fail
                    go_loopw [15] (fun q Y => ∃ i : Nat, i ≤ 4 ∧ q = .int .i64 (i : Nat) ∧ Blk Y bu 114 16 (pm Z M (4 * c + i)) ∧ Blk Y bt 114 16 (pm T Z 0) ∧ Blk Y bs 114 16 (pm P Z 0) ∧ Below w1.heap.size w1 Y) (fun q _ => 4 - (intOf q).toNat)
                    case atStart => exact ⟨0, by omega, rfl, H1.out, H2.out, H3.out, H4.out⟩
                    case round =>
                      obtain ⟨i, hi, rfl, h1, h2, h3, h4⟩ := hrel
                      rename World => Y2
                      have G1 := Lib.hid h1
                      have G2 := Lib.hid h2
                      have G3 := Lib.hid h3
                      have G4 := Lib.hid h4
                      clear h1 h2 h3 h4 H1 H2 H3 H4
                      by_cases hli : i < 4
                      · have hqm := qd_mix HTB.out c hli
                        rw [← HME.out] at hqm
                        obtain ⟨c4, d, i1, i2, i3, j1, j2, j3, e1, e2, e3, ⟨hd, he1, he2, he3⟩, ⟨hd6, h16, h26, h36⟩, ⟨s0, s1, a1, a2, a3⟩, ⟨d1, d2, d3⟩, ⟨f1, f2, f3⟩, ⟨k1, k2, k3⟩, ⟨o0, o1, o2, o3⟩, ⟨n0, n1, n2, n3, n4, n5, n6, n7'⟩⟩ := idx4 hlc hli
                        have o4 : (i : Int) < 4 := by omega
                        have o5 : (0 : Int) ≤ (i : Int) := by omega
                        rw [← hd, ← he1, ← he2, ← he3] at hqm
                        rw [← hd] at G1
                        have hcu := G1.out.cell hd6
                        have hc0 := G2.out.cell hd6
                        have hc1 := G2.out.cell h16
                        have hc2 := G2.out.cell h26
                        have hc3 := G2.out.cell h36
                        rw [pm_at (Nat.not_lt_zero _)] at hc0 hc1 hc2 hc3
                        rw [pm_at (Nat.lt_irrefl _)] at hcu
                        have hfd := G1.out.free d
                        have hl0 := qd_lt HTB.out d
                        have hl1 := qd_lt HTB.out e1
                        have hl2 := qd_lt HTB.out e2
                        have hl3 := qd_lt HTB.out e3
                        obtain ⟨t0, ht0⟩ : ∃ u, u = qd T d := ⟨_, rfl⟩
                        obtain ⟨t1, ht1⟩ : ∃ u, u = qd T e1 := ⟨_, rfl⟩
                        obtain ⟨t2, ht2⟩ : ∃ u, u = qd T e2 := ⟨_, rfl⟩
                        obtain ⟨t3, ht3⟩ : ∃ u, u = qd T e3 := ⟨_, rfl⟩
                        obtain ⟨u0, hu0⟩ : ∃ u, u = qd Z d := ⟨_, rfl⟩
                        rw [← ht0] at hqm hc0 hl0
                        rw [← ht1] at hqm hc1 hl1
                        rw [← ht2] at hqm hc2 hl2
                        rw [← ht3] at hqm hc3 hl3
                        rw [← hu0] at hcu
                        have HM2 := Lib.hid (show ∀ W : World, Calls Tryz.prog 88 #[.int .u8 2, .int .u8 ((t0 : Nat) : Int)] W (fun e w' => e = .returned (.int .u8 ((gm 2 t0 : Nat) : Int)) ∧ W = w') from fun W => refMul_N 2 t0 (by decide) hl0 W)
                        have HM3 := Lib.hid (show ∀ W : World, Calls Tryz.prog 88 #[.int .u8 3, .int .u8 ((t1 : Nat) : Int)] W (fun e w' => e = .returned (.int .u8 ((gm 3 t1 : Nat) : Int)) ∧ W = w') from fun W => refMul_N 3 t1 (by decide) hl1 W)
                        have hg2 := gm_lt 2 t0
                        have hg3 := gm_lt 3 t1
                        have r1 := u8_xor_nat (gm 2 t0) (gm 3 t1) hg2 hg3
                        have r2 := u8_xor_nat (gm 2 t0 ^^^ gm 3 t1) t2 (xor_lt hg2 hg3) hl2
                        have r3 := u8_xor_nat ((gm 2 t0 ^^^ gm 3 t1) ^^^ t2) t3 (xor_lt (xor_lt hg2 hg3) hl2) hl3
                        rw [← hqm] at r3
                        obtain ⟨v0, hv0⟩ : ∃ u, u = gm 2 t0 := ⟨_, rfl⟩
                        obtain ⟨v1, hv1⟩ : ∃ u, u = gm 3 t1 := ⟨_, rfl⟩
                        rw [← hv0] at HM2 r1 r2 r3
                        rw [← hv1] at HM3 r1 r2 r3
                        obtain ⟨v2, hv2⟩ : ∃ u, u = v0 ^^^ v1 := ⟨_, rfl⟩
                        rw [← hv2] at r1 r2 r3
                        obtain ⟨v3, hv3⟩ : ∃ u, u = v2 ^^^ t2 := ⟨_, rfl⟩
                        rw [← hv3] at r2 r3
                        obtain ⟨v4, hv4⟩ : ∃ u, u = qd M d := ⟨_, rfl⟩
                        rw [← hv4] at r3
                        have HV4 := Lib.hid hv4
                        have s2 := w64 n0
                        have s3 := w64 n1
                        have b1 := w64 n2
                        have b2 := w64 n3
                        have b3 := w64 n4
                        have l1 := w64 n5
                        have l2 := w64 n6
                        have l3 := w64 n7'
                        have HD := Lib.hid hd
                        have HD16 := Lib.hid hd6
                        have HLI := Lib.hid hli
                        clear hqm hd he1 he2 he3 hd6 h16 h26 h36 ht0 ht1 ht2 ht3 hu0 hv0 hv1 hv2 hv3 hv4 hli hi hl0 hl1 hl2 hl3 hg2 hg3 n0 n1 n2 n3 n4 n5 n6 n7' hlc hc
                        go_wp2_with fail
                        refine wp_region_still_tail 40 (by kernel_rfl) (by kernel_rfl) ?_
                        simp only [List.take_succ_cons, List.take_zero, List.drop_succ_cons, List.drop_zero]
                        repeat still_step
                        still_call ((HM2.out _).mono fun _ _ ⟨he, hw⟩ => ⟨he, hw.symm⟩)
                        repeat still_step
                        still_call ((HM3.out _).mono fun _ _ ⟨he, hw⟩ => ⟨he, hw.symm⟩)
                        repeat still_step
                        refine wpStill_nil ?_
                        clear s2 s3 b1 b2 b3 l1 l2 l3 f1 f2 f3 r1 r2
                        go_wp2
                        clear r3
                        go_roundw
                        case rel => first | exact ⟨i + 1, by have := HLI.out; omega, by go_num, by rw [show 4 * c + (i + 1) = d + 1 by have := HD.out; omega]; exact ((G1.out.drewN 1).set HD16.out _).congr fun j hj => by rw [HV4.out]; exact pm_next, (G2.out.drewN 1).other ⟨bu, d, none⟩ _ (by have := HLU.out; show bt ≠ bu; omega), (G3.out.drewN 1).other ⟨bu, d, none⟩ _ (by have := HLU.out; have := HLT.out.1; show bs ≠ bu; omega), (below_drewN G4.out 1).setCell (p := ⟨bu, d, none⟩) (by have := HLU.out; have := HLT.out; show w1.heap.size ≤ bu; omega) _⟩ | ((repeat apply Exists.intro); exact ⟨⟨i + 1, by have := HLI.out; omega, by go_num, by rw [show 4 * c + (i + 1) = d + 1 by have := HD.out; omega]; exact ((G1.out.drewN 1).set HD16.out _).congr fun j hj => by rw [HV4.out]; exact pm_next, (G2.out.drewN 1).other ⟨bu, d, none⟩ _ (by have := HLU.out; show bt ≠ bu; omega), (G3.out.drewN 1).other ⟨bu, d, none⟩ _ (by have := HLU.out; have := HLT.out.1; show bs ≠ bu; omega), (below_drewN G4.out 1).setCell (p := ⟨bu, d, none⟩) (by have := HLU.out; have := HLT.out; show w1.heap.size ≤ bu; omega) _⟩, rfl⟩)
                        case measure => simp [intOf]; have := HLI.out; omega
                      · obtain rfl : i = 4 := by omega
                        go_wp2
                        go_roundw
                        case rel => exact ⟨c + 1, by omega, by go_num, by rw [show 4 * (c + 1) = 4 * c + 4 by omega]; exact G1.out, G2.out, G3.out, G4.out⟩
                        case measure => simp [intOf]; omega
                  · obtain rfl : c = 4 := by omega
                    have HM4 := Lib.hid (show Blk Y bu 114 16 (pm M Z 0) from H1.out.congr fun j hj => pm_all hj)
                    clear H1
                    obtain ⟨cm, hcm⟩ : ∃ cs, cs = tabV 16 (pm M Z 0) := ⟨_, rfl⟩
                    have HMU := Lib.hid (show Y.heap[bu]? = some (.cells cm 114 (0, 0)) by rw [hcm]; exact HM4.out)
                    have HCS1 := Lib.hid (show (Tryz.prog.info? 114).map (·.size) = some cm.size by rw [hcm, size_tabV]; exact size_16)
                    have HCS2 := Lib.hid (show (tabV 16 (pm T Z 0)).size = cm.size by rw [hcm, size_tabV, size_tabV])
                    have HCS3 := Lib.hid (show cm.all (·.oneCell') = true by rw [hcm]; exact tabV_one fun _ => rfl)
                    have HTQ0 := Lib.hid (show Blk (Y.setRow bt cm) bt 114 16 (pm M Z 0) by rw [hcm]; exact H2.out.row _)
                    clear hcm
                    go_upto_region 30 with (first
                      | ((with_reducible show wpList _ _ _ (⟨some 120, _, _, _, _, _⟩ :: _) _ _); refine wpList_load_row rfl 114 (.tmp 13) rfl bu rfl _ cm _ _ HMU.out Tryz.underlying114 rfl HCS1.out ?_)
                      | ((with_reducible show wpList _ _ _ (⟨none, _, _, _, _, _⟩ :: _) _ _); refine wpList_store_row rfl 114 (.tmp 10) (.tmp 120) rfl bt cm rfl rfl _ _ H2.out HCS1.out HCS2.out HCS3.out ?_))
                    obtain ⟨Q, hQ⟩ : ∃ Q, Q = Y.setRow bt cm := ⟨_, rfl⟩
                    have HTQ := Lib.hid (show Blk Q bt 114 16 (pm M Z 0) by rw [hQ]; exact HTQ0.out)
                    have HSQ := Lib.hid (show Blk Q bs 114 16 (pm P Z 0) by rw [hQ]; exact H3.out.same (setRow_other Y bt bs _ (by have := HLT.out.1; omega)))
                    have HBQ := Lib.hid (show Below w1.heap.size w1 Q by rw [hQ]; exact below_setRow H4.out (by have := HLT.out; omega) _)
                    have HFN := Lib.hid (show adds M (rk W r) = stE W R X r by
                      unfold stE
                      rw [if_neg (by omega), HME.out, HTE.out, HPE.out, HKR.out]
                      rfl)
                    rw [← hQ]
                    clear hQ H2 H3 H4 HM4
                    obtain ⟨S2, hS2⟩ : ∃ S, S = adds M (rk W r) := ⟨_, rfl⟩
                    have HSE2 := Lib.hid hS2
                    have HHMB.out := Lib.hid (show SqB M from HMB.out)
                    have HS30 := Lib.hid (show Blk Q bs 114 16 (pm P S2 0) from HSQ.out.congr fun j hj => pm_zero P Z S2 j)
                    clear hS2
                    go_wp2_with fail
                    go_loopw [121] (fun q O => ∃ i : Nat, i ≤ 16 ∧ q = .int .i64 (i : Nat) ∧ Blk O bs 114 16 (pm P S2 i) ∧ Blk O bt 114 16 (pm M Z 0) ∧ Below w1.heap.size w1 O) (fun q _ => 16 - (intOf q).toNat)
                    case atStart => exact ⟨0, by omega, rfl, HS30.out, HTQ.out, HBQ.out⟩
                    case round =>
                      obtain ⟨i, hi, rfl, h1, h2, h3⟩ := hrel
                      rename World => O
                      have G1 := Lib.hid h1
                      have G2 := Lib.hid h2
                      have G3 := Lib.hid h3
                      clear h1 h2 h3 HS30 HTQ HSQ HBQ
                      by_cases hli : i < 16
                      · have hyL : 16 * r + i < LK := by have := HLK.out; have := HR.out; omega
                        have hcs := G1.out.cell hli
                        rw [pm_at (Nat.lt_irrefl _)] at hcs
                        have hct := G2.out.cell hli
                        rw [pm_at (Nat.not_lt_zero _)] at hct
                        have hfs := G1.out.free i
                        have hck := (G3.out.cell (p := ⟨g, 16 * r + i, none⟩) HGB.out).trans (HKC.out _ hyL)
                        have hxr := u8_xor_nat (qd M i) (qd W (16 * r + i)) (qd_lt HHMB.out.out i) (qd_lt HWB.out _)
                        rw [← qd_adds M W r hli, ← HSE2.out] at hxr
                        have s0 : 16 * (r : Int) = ((16 * r : Nat) : Int) := by omega
                        have s1 : ((16 * r : Nat) : Int) + (i : Int) = ((16 * r + i : Nat) : Int) := by omega
                        have n0 : 16 * r < 1000 := by omega
                        have n1 : 16 * r + i < 1000 := by omega
                        have o0 : ((16 * r + i : Nat) : Int) < (LK : Int) := by omega
                        have o1 : (i : Int) < 16 := by omega
                        have o2 : (0 : Int) ≤ (i : Int) := by omega
                        have o3 : (0 : Int) ≤ ((16 * r + i : Nat) : Int) := by omega
                        obtain ⟨r16, hr16⟩ : ∃ x, x = 16 * r := ⟨_, rfl⟩
                        obtain ⟨y, hy⟩ : ∃ x, x = 16 * r + i := ⟨_, rfl⟩
                        rw [← hy] at hck hxr s1 n1 o0 o3
                        rw [← hr16] at s0 s1 n0
                        have s2 := w64 n0
                        have s3 := w64 n1
                        obtain ⟨u1, hu1⟩ : ∃ u, u = qd M i := ⟨_, rfl⟩
                        obtain ⟨u2, hu2⟩ : ∃ u, u = qd W y := ⟨_, rfl⟩
                        obtain ⟨u3, hu3⟩ : ∃ u, u = qd P i := ⟨_, rfl⟩
                        obtain ⟨u4, hu4⟩ : ∃ u, u = qd S2 i := ⟨_, rfl⟩
                        rw [← hu1] at hct hxr
                        rw [← hu2] at hck hxr
                        rw [← hu3] at hcs
                        rw [← hu4] at hxr
                        have HU4 := Lib.hid hu4
                        have HLI := Lib.hid hli
                        clear hu1 hu2 hu3 hu4 hy hr16 n0 n1 hyL hli hi
                        go_wp2_with fail
                        go_still_tail 13, (by kernel_rfl)
                        clear s2 s3 hxr
                        go_wp2
                        go_roundw
                        case rel => first | exact ⟨i + 1, by have := HLI.out; omega, by go_num, ((G1.out.drewN 1).set HLI.out _).congr fun j hj => by rw [HU4.out]; exact pm_next, (G2.out.drewN 1).other ⟨bs, i, none⟩ _ (by have := HLT.out.1; show bt ≠ bs; omega), (below_drewN G3.out 1).setCell (p := ⟨bs, i, none⟩) (by have := HLT.out.2; exact this) _⟩ | ((repeat apply Exists.intro); exact ⟨⟨i + 1, by have := HLI.out; omega, by go_num, ((G1.out.drewN 1).set HLI.out _).congr fun j hj => by rw [HU4.out]; exact pm_next, (G2.out.drewN 1).other ⟨bs, i, none⟩ _ (by have := HLT.out.1; show bt ≠ bs; omega), (below_drewN G3.out 1).setCell (p := ⟨bs, i, none⟩) (by have := HLT.out.2; exact this) _⟩, rfl⟩)
                        case measure => simp [intOf]; have := HLI.out; omega
                      · obtain rfl : i = 16 := by omega
                        have HFB := Lib.hid (show Blk O bs 114 16 (pm (stE W R X (r + 1 - 1)) Z 0) by
                          rw [show r + 1 - 1 = r from rfl, ← HFN.out, ← HSE2.out]
                          exact G1.out.congr fun j hj => pm_all hj)
                        clear G1 G2
                        go_wp2
                        go_roundw
                        case rel => first | exact ⟨r + 1, by omega, by omega, by go_num, HFB.out, G3.out⟩ | ((repeat apply Exists.intro); exact ⟨⟨r + 1, by omega, by omega, by go_num, HFB.out, G3.out⟩, rfl⟩)
                        case measure => simp [intOf]; omega
              · have ql : ¬ (r : Int) < (R : Int) := by omega
                have HRR := Lib.hid (show r = R by omega)
                have HFN := Lib.hid (show adds T (rk W r) = stE W R X r by
                  unfold stE
                  rw [if_pos HRR.out, HTE.out, HPE.out]
                  unfold enc
                  rw [← HRR.out, show r - 1 = k by have := HKR.out; omega])
                have HTQ := HT4
                have HSQ := H2
                have HBQ := H3
                go_upto_region 30 with fail
                obtain ⟨S2, hS2⟩ : ∃ S, S = adds T (rk W r) := ⟨_, rfl⟩
                have HSE2 := Lib.hid hS2
                have HHTB.out := Lib.hid (show SqB T from HTB.out)
                have HS30 := Lib.hid (show Blk V bs 114 16 (pm P S2 0) from HSQ.out.congr fun j hj => pm_zero P Z S2 j)
                clear hS2
                go_wp2_with fail
                go_loopw [121] (fun q O => ∃ i : Nat, i ≤ 16 ∧ q = .int .i64 (i : Nat) ∧ Blk O bs 114 16 (pm P S2 i) ∧ Blk O bt 114 16 (pm T Z 0) ∧ Below w1.heap.size w1 O) (fun q _ => 16 - (intOf q).toNat)
                case atStart => exact ⟨0, by omega, rfl, HS30.out, HTQ.out, HBQ.out⟩
                case round =>
                  obtain ⟨i, hi, rfl, h1, h2, h3⟩ := hrel
                  rename World => O
                  have G1 := Lib.hid h1
                  have G2 := Lib.hid h2
                  have G3 := Lib.hid h3
                  clear h1 h2 h3 HS30 HTQ HSQ HBQ
                  by_cases hli : i < 16
                  · have hyL : 16 * r + i < LK := by have := HLK.out; have := HR.out; omega
                    have hcs := G1.out.cell hli
                    rw [pm_at (Nat.lt_irrefl _)] at hcs
                    have hct := G2.out.cell hli
                    rw [pm_at (Nat.not_lt_zero _)] at hct
                    have hfs := G1.out.free i
                    have hck := (G3.out.cell (p := ⟨g, 16 * r + i, none⟩) HGB.out).trans (HKC.out _ hyL)
                    have hxr := u8_xor_nat (qd T i) (qd W (16 * r + i)) (qd_lt HHTB.out.out i) (qd_lt HWB.out _)
                    rw [← qd_adds T W r hli, ← HSE2.out] at hxr
                    have s0 : 16 * (r : Int) = ((16 * r : Nat) : Int) := by omega
                    have s1 : ((16 * r : Nat) : Int) + (i : Int) = ((16 * r + i : Nat) : Int) := by omega
                    have n0 : 16 * r < 1000 := by omega
                    have n1 : 16 * r + i < 1000 := by omega
                    have o0 : ((16 * r + i : Nat) : Int) < (LK : Int) := by omega
                    have o1 : (i : Int) < 16 := by omega
                    have o2 : (0 : Int) ≤ (i : Int) := by omega
                    have o3 : (0 : Int) ≤ ((16 * r + i : Nat) : Int) := by omega
                    obtain ⟨r16, hr16⟩ : ∃ x, x = 16 * r := ⟨_, rfl⟩
                    obtain ⟨y, hy⟩ : ∃ x, x = 16 * r + i := ⟨_, rfl⟩
                    rw [← hy] at hck hxr s1 n1 o0 o3
                    rw [← hr16] at s0 s1 n0
                    have s2 := w64 n0
                    have s3 := w64 n1
                    obtain ⟨u1, hu1⟩ : ∃ u, u = qd T i := ⟨_, rfl⟩
                    obtain ⟨u2, hu2⟩ : ∃ u, u = qd W y := ⟨_, rfl⟩
                    obtain ⟨u3, hu3⟩ : ∃ u, u = qd P i := ⟨_, rfl⟩
                    obtain ⟨u4, hu4⟩ : ∃ u, u = qd S2 i := ⟨_, rfl⟩
                    rw [← hu1] at hct hxr
                    rw [← hu2] at hck hxr
                    rw [← hu3] at hcs
                    rw [← hu4] at hxr
                    have HU4 := Lib.hid hu4
                    have HLI := Lib.hid hli
                    clear hu1 hu2 hu3 hu4 hy hr16 n0 n1 hyL hli hi
                    go_wp2_with fail
                    go_still_tail 13, (by kernel_rfl)
                    clear s2 s3 hxr
                    go_wp2
                    go_roundw
                    case rel => first | exact ⟨i + 1, by have := HLI.out; omega, by go_num, ((G1.out.drewN 1).set HLI.out _).congr fun j hj => by rw [HU4.out]; exact pm_next, (G2.out.drewN 1).other ⟨bs, i, none⟩ _ (by have := HLT.out.1; show bt ≠ bs; omega), (below_drewN G3.out 1).setCell (p := ⟨bs, i, none⟩) (by have := HLT.out.2; exact this) _⟩ | ((repeat apply Exists.intro); exact ⟨⟨i + 1, by have := HLI.out; omega, by go_num, ((G1.out.drewN 1).set HLI.out _).congr fun j hj => by rw [HU4.out]; exact pm_next, (G2.out.drewN 1).other ⟨bs, i, none⟩ _ (by have := HLT.out.1; show bt ≠ bs; omega), (below_drewN G3.out 1).setCell (p := ⟨bs, i, none⟩) (by have := HLT.out.2; exact this) _⟩, rfl⟩)
                    case measure => simp [intOf]; have := HLI.out; omega
                  · obtain rfl : i = 16 := by omega
                    have HFB := Lib.hid (show Blk O bs 114 16 (pm (stE W R X (r + 1 - 1)) Z 0) by
                      rw [show r + 1 - 1 = r from rfl, ← HFN.out, ← HSE2.out]
                      exact G1.out.congr fun j hj => pm_all hj)
                    clear G1 G2
                    go_wp2
                    go_roundw
                    case rel => first | exact ⟨r + 1, by omega, by omega, by go_num, HFB.out, G3.out⟩ | ((repeat apply Exists.intro); exact ⟨⟨r + 1, by omega, by omega, by go_num, HFB.out, G3.out⟩, rfl⟩)
                    case measure => simp [intOf]; omega
        · obtain rfl : r = R + 1 := by omega
          have HFI := Lib.hid (show Arg8 U (some ⟨bs, 0, none⟩) 16 16 (outL (enc W R X) 4) from ⟨length_outL _ 4, allB_outL (enc_bd R X HWB.out) 4, fun _ => ⟨bs, 0, rfl, HSU.out.lt, fun i hi => by
            have h := HSU.out.cell (show i < 16 by rw [length_outL] at hi; exact hi)
            rw [show stE W R X (R + 1 - 1) = enc W R X from if_pos (by omega), pm_at (by omega)] at h
            rw [Nat.zero_add, h]
            have h2 := getD_outL (enc W R X) (c := i / 4) (r := i % 4) (Nat.mod_lt _ (by omega)) 4 (by rw [length_outL] at hi; omega)
            rw [show 4 * (i / 4) + i % 4 = i by omega] at h2
            rw [h2]
            rfl⟩, Nat.le_refl _, by unfold maxLen; omega⟩)
          go_wp2
          go_ret
          exact ⟨bs, rfl, HFI.out, HB1.out.trans (HU.out.mono HB1.out.size), by rw [HBS.out]; exact HB1.out.size⟩
end Go.Proofs.YtappfdbmhgifcaaGreatDoor
