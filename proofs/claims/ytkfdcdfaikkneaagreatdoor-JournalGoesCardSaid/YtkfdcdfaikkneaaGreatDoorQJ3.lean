/- Texts of mine, one behind the other: Jr Jl. -/
import Derived.Test.YtkfdcdfaikkneaaGreatDoorJa
import Derived.Test.YtkfdcdfaikkneaaGreatDoorQH
import Derived.Lib.SlBytesConst
import Derived.Lib.SmallJoins
/- The contract of hash.Sum: of any parts, however they are cut, the sum of all their bytes. -/
namespace Go.Proofs.YtkfdcdfaikkneaaGreatDoor
open Go.ChangeShapes Go.WideShapes Go.ChangeAt Go.RowKit
set_option linter.unusedVariables false
set_option linter.unusedSimpArgs false
set_option maxRecDepth 100000

theorem infoRun : (Tryz.prog.info? 158).map (fun i => (i.zero, i.size)) = some (some (.agg (tabV 73 (runV (fun _ => 0) (List.replicate 64 0) 0))), 73) := by kernel_rfl
theorem size_R : (Tryz.prog.info? 158).map (·.size) = some 73 := by kernel_rfl
theorem built_R : Tryz.prog.built 158 [(0, .agg (tabV 8 (gV HF0)))] = some (tabV 73 (runV HF0 (List.replicate 64 0) 0)) := by kernel_rfl
/-- All bytes of the first rows. -/
def cat (rows : Nat → List Int) : Nat → List Int
  | 0 => []
  | i + 1 => cat rows i ++ rows i
theorem hF_none (rows : Nat → List Int) : hF (cat rows 0) ((cat rows 0).length / 64) = HF0 := by
  have e : (cat rows 0).length / 64 = 0 := by simp [cat]
  rw [e]; rfl
theorem cat_le (rows : Nat → List Int) : ∀ {i n : Nat}, i ≤ n → (cat rows i).length ≤ (cat rows n).length
  | i, 0, h => by obtain rfl : i = 0 := by omega
                  exact Nat.le_refl _
  | i, n + 1, h => by
    rw [cat, List.length_append]
    by_cases e : i = n + 1
    · subst e; rw [cat, List.length_append]; omega
    · have := cat_le rows (i := i) (n := n) (by omega)
      omega
/-- A slice of slices of bytes reads as rows. -/
def Rws (w : World) (ap : Option Addr) (np : Nat) (rows : Nat → List Int) : Prop :=
  ∀ i, i < np → ∃ pb po a c, ap = some ⟨pb, po, none⟩ ∧ pb < w.heap.size ∧ w.cell? ⟨pb, po + i, none⟩ = some (.slice a (rows i).length c) ∧ Bs w w.heap.size a (rows i) ∧ AllB (rows i) ∧ (rows i).length ≤ c
theorem Rws.on {w w' : World} {ap : Option Addr} {np : Nat} {rows : Nat → List Int} (h : Rws w ap np rows) (hb : Below w.heap.size w w') : Rws w' ap np rows := fun i hi => by
  obtain ⟨pb, po, a, c, e1, e2, e3, e4, e5, e6⟩ := h i hi
  exact ⟨pb, po, a, c, e1, Nat.lt_of_lt_of_le e2 hb.size, (World.cell?_of_block (w := w) (a := ⟨pb, po + i, none⟩) (hb.block pb e2)).trans e3, (e4.below hb).more hb.size, e5, e6⟩
theorem Gl.range {w : World} (h : Gl w) : w.rangeAt 0 0 (tabV 8 (gV HF0)).toList := fun j v hj => by
  rw [Array.getElem?_toList] at hj
  by_cases hjm : j < 8
  · rw [get_tabV hjm] at hj
    rw [Nat.zero_add, h.2.1 j hjm]
    exact hj
  · rw [Array.getElem?_eq_none (by rw [size_tabV]; omega)] at hj; cases hj
set_option maxHeartbeats 3000000 in
theorem sum_cap (ap : Option Addr) (np cp : Nat) (rows : Nat → List Int) (w : World) (hR : Rws w ap np rows) (hn : np ≤ 1000) (hL : (cat rows np).length ≤ 800000) (hG : Gl w) :
    Calls Tryz.prog 66 #[.slice ap np cp] w fun e w' => ∃ g c', e = .returned (.slice (some ⟨g, 0, none⟩) 32 c') ∧ Row8 w' g 32 (shaL (cat rows np)) ∧ Below w.heap.size w w' ∧ 32 ≤ c' := by
  have HRW := Lib.hid hR
  have HNP := Lib.hid hn
  have HLL := Lib.hid hL
  have HGL := Lib.hid hG
  clear hR hn hL hG
  obtain ⟨cH, hcH⟩ : ∃ c, c = tabV 8 (gV HF0) := ⟨_, rfl⟩
  have HRG := Lib.hid (show w.rangeAt 0 0 cH.toList by rw [hcH]; exact HGL.out.range)
  have HHZ := Lib.hid (show (Tryz.prog.info? 124).map (·.size) = some cH.toList.length by rw [hcH, Array.length_toList, size_tabV]; exact size_H)
  obtain ⟨TR, hTR⟩ : ∃ c, c = tabV 73 (runV HF0 (List.replicate 64 0) 0) := ⟨_, rfl⟩
  have HBD := Lib.hid (show Tryz.prog.built 158 [(0, .agg cH)] = some TR by rw [hcH, hTR]; exact built_R)
  have HTS := Lib.hid (show (Tryz.prog.info? 158).map (·.size) = some TR.size by rw [hTR, size_tabV]; exact size_R)
  have HT1 := Lib.hid (show TR.all (·.oneCell') = true by rw [hTR]; exact tabV_one fun j => runV_one _ _ _ j)
  obtain ⟨hz, hi⟩ := zero_of_info infoRun
  obtain ⟨z0, hz0⟩ : ∃ c, c = tabV 73 (runV (fun _ => 0) (List.replicate 64 0) 0) := ⟨_, rfl⟩
  rw [← hz0] at hz
  have HZS := Lib.hid (show z0.size = TR.size by rw [hz0, hTR, size_tabV, size_tabV])
  obtain ⟨W1, hW1⟩ : ∃ W1, W1 = w.alloc (.cells z0 158) := ⟨_, rfl⟩
  have HZ0 := Lib.hid (show (w.alloc (.cells z0 158)).heap[w.heap.size]? = some (.cells z0 158 (0, 0)) from heap_alloc_new w _)
  have HB1 := Lib.hid (show Below w.heap.size w ((w.alloc (.cells z0 158)).setRow w.heap.size TR) from below_setRow ((Below.refl _ _).alloc (Nat.le_refl _) _) (Nat.le_refl _) _)
  have HR1 := Lib.hid (show Rn ((w.alloc (.cells z0 158)).setRow w.heap.size TR) w.heap.size (cat rows 0) (List.replicate 64 0) from ⟨by
    rw [hTR]
    rw [hF_none rows]
    exact Blk.row (g := runV (fun _ => 0) (List.replicate 64 0) 0) (by unfold Blk; rw [← hz0]; exact HZ0.out) _, wait_nil⟩)
  clear hcH hTR hi hz0 hW1 W1
  go_enter Tryz.func66, Tryz.ntmps66
  go_upto_region 2 with (first
    | ((with_reducible show wpList _ _ _ (⟨some 6, _, _, _, _, _⟩ :: _) _ _); go_loud (refine wpList_load_mid (by rfl) 124 (.global 0) (by rfl) 0 0 (by rfl) cH.toList _ HRG.out Tryz.underlying124 (by rfl) HHZ.out ?_; rw [Array.toArray_toList]))
    | ((with_reducible show wpList _ _ _ (⟨some 7, _, _, _, _, _⟩ :: _) _ _); go_loud (refine wpList_buildTo rfl 158 #[(0, .tmp 6)] rfl (some 7) rfl TR (by rw [Array.toList_map]; exact HBD.out) ?_))
    | ((with_reducible show wpList _ _ _ (⟨none, _, _, _, _, _⟩ :: _) _ _); go_loud (refine wpList_store_row rfl 158 (.tmp 3) (.tmp 7) rfl w.heap.size TR rfl rfl _ _ HZ0.out HTS.out HZS.out HT1.out ?_)))
  clear hz
  generalize hW1 : (w.alloc (.cells z0 158)).setRow w.heap.size TR = W1 at HB1 HR1 ⊢
  clear hW1 HZ0
  obtain ⟨g, hg⟩ : ∃ g, g = w.heap.size := ⟨_, rfl⟩
  rw [← hg] at HB1 HR1 ⊢
  have HGW := Lib.hid hg
  have HG2 := Lib.hid (show 2 ≤ g by rw [hg]; exact HGL.out.1)
  clear hg
  go_upto_region 3 with fail
  go_loopw [10] (fun s wr => ∃ (i : Nat) (W' : List Int), i ≤ np ∧ s = .int .i64 (i : Nat) ∧ Rn wr g (cat rows i) W' ∧ Below g w wr) (fun s _ => np - (intOf s).toNat)
  case atStart => exact ⟨0, _, by omega, rfl, HR1.out, HB1.out⟩
  case round =>
    obtain ⟨i, W', hi, rfl, h1, h2⟩ := hrel
    rename World => V
    have HRN := Lib.hid h1
    have HBV := Lib.hid h2
    have HI := Lib.hid hi
    clear h1 h2 hi HR1 HB1
    have HRV := Lib.hid (HRW.out.on (by rw [← HGW.out]; exact HBV.out))
    have HGV := Lib.hid (HGL.out.on HBV.out HG2.out)
    have qn : (np : Int) ≤ 1000 := by have := HNP.out; omega
    by_cases hlt : i < np
    · as_aux_lemma =>
        obtain ⟨pb, po, a, c, rfl, hpb, hcell, hbs, hB, hc⟩ := HRV.out i hlt
        have qi : (i : Int) < (np : Int) := by omega
        have HLE := Lib.hid (show (cat rows i).length + (rows i).length ≤ 900000 by
          have h := cat_le rows (i := i + 1) (n := np) hlt
          rw [cat, List.length_append] at h
          have := HLL.out
          omega)
        have HLT := Lib.hid hlt
        have HADD := Lib.hid (add_any g (cat rows i) W' a (rows i).length c (rows i) V HRN.out rfl hB hbs hc (fun h0 b off e => by
          obtain ⟨pb', po', a', c', e1, e2, e3, e4, _⟩ := HRW.out i hlt
          cases e1
          have hcc := (World.cell?_of_block (w := w) (a := ⟨pb, po + i, none⟩) (HBV.out.block pb (by rw [HGW.out]; exact e2))).trans e3
          rw [hcell] at hcc
          cases hcc
          obtain ⟨b', off', e5, hlt', _⟩ := e4 h0
          rw [e] at e5
          cases e5
          rw [HGW.out]
          omega) HGV.out HG2.out HLE.out)
        obtain ⟨rl, hrl⟩ : ∃ r, r = (rows i).length := ⟨_, rfl⟩
        rw [← hrl] at hcell HADD
        clear hrl hlt hpb hbs hB hc
        go_wp2_with (go_at_call 90; go_loud ((with_reducible refine HADD.out.mono ?_); rintro e V2 ⟨rfl, hgr, W2, hr2⟩; have HGR := Lib.hid hgr; have HR2 := Lib.hid hr2; clear hgr hr2))
        go_roundw
        case rel => exact ⟨i + 1, W2, HLT.out, by go_num, HR2.out, HBV.out.trans (but_below HGR.out (Nat.le_refl _) (Nat.le_of_lt HRN.out.1.lt))⟩
        case measure => simp [intOf] <;> (have := HLT.out; omega)
    · as_aux_lemma =>
        obtain rfl : i = np := by have := HI.out; omega
        obtain ⟨M, hM⟩ : ∃ M, M = cat rows i := ⟨_, rfl⟩
        rw [← hM] at HRN HLL
        have HM := Lib.hid hM
        have HEND := Lib.hid (end_any g (hF M (M.length / 64)) W' M.length V HRN.out.1 (by have := HLL.out; omega))
        clear hM hlt
        go_upto_region 8 with (first
          | (go_at_call 91; go_loud ((with_reducible refine HEND.out.mono ?_); rintro e V2 ⟨g2, c2, rfl, hc2, hg2, hr2, hb2⟩; have HB2 := Lib.hid hb2; have HR2 := Lib.hid hr2; have HADD := Lib.hid (add_any g M W' (some ⟨g2, 0, none⟩) (zc M.length + 9) c2 (endL M.length) V2 ⟨HRN.out.1.on hb2 HRN.out.1.lt, HRN.out.2⟩ (endL_len _) (endL_B _) hr2.bs hc2 (fun _ b off e => by cases e; have := HRN.out.1.lt; omega) (HGV.out.on hb2 HGV.out.1) HG2.out (by have := HLL.out; have := zc_lt M.length; omega)); clear hb2 hr2 hc2 hg2))
          | (go_at_call 90; go_loud ((with_reducible refine HADD.out.mono ?_); rintro e V3 ⟨rfl, hgr, W3, hr3⟩; have HGR := Lib.hid hgr; have HR3 := Lib.hid hr3; clear hgr hr3)))
        rw [← shaM_end] at HR3
        have HBW := Lib.hid (show Below g w V3 from (HBV.out.trans (HB2.out.mono (Nat.le_of_lt HRN.out.1.lt))).trans (but_below HGR.out (Nat.le_refl _) (Nat.le_of_lt (HRN.out.1.on HB2.out HRN.out.1.lt).lt)))
        obtain ⟨h, hh⟩ : ∃ h, h = hF (shaM M) ((shaM M).length / 64) := ⟨_, rfl⟩
        have hhb : ∀ j, h j < 4294967296 := fun j => by rw [hh]; exact hF_lt _ _ j
        have HBK := Lib.hid HR3.out.1
        rw [← hh] at HBK
        have HSM := Lib.hid (show shaL M = outW h 8 by rw [shaL, hh])
        obtain ⟨cS, hcS⟩ : ∃ c, c = tabV 8 (gV h) := ⟨_, rfl⟩
        have HRS := Lib.hid (show V3.rangeAt g 0 cS.toList by rw [hcS]; exact HBK.out.rangeT (by omega) fun j hj => runV_state hj)
        have HSZ := Lib.hid (show (Tryz.prog.info? 155).map (·.size) = some cS.toList.length by rw [hcS, Array.length_toList, size_tabV]; exact size_S)
        have HBY := Lib.hid (hbytes_cap h V3 hhb)
        rw [← hcS] at HBY
        clear hh hhb hcS HADD
        go_wp2_with (first
          | ((with_reducible show wpList _ _ _ (⟨some 20, _, _, _, _, _⟩ :: _) _ _); go_loud (refine wpList_load_mid (by rfl) 155 (.tmp 19) (by rfl) g 0 (by rfl) cS.toList _ HRS.out Tryz.underlying155 (by rfl) HSZ.out ?_; rw [Array.toArray_toList]))
          | (go_at_call 92; go_loud ((with_reducible refine HBY.out.mono ?_); rintro e V4 ⟨g4, c4, rfl, hr4, hb4, hc4⟩; have HR4 := Lib.hid hr4; have HB4 := Lib.hid hb4; have HC4 := Lib.hid hc4; clear hr4 hb4 hc4)))
        go_ret
        refine ⟨g4, c4, rfl, by rw [← HM.out, HSM.out]; exact HR4.out, ?_, HC4.out⟩
        rw [← HGW.out]
        exact HBW.out.trans (HB4.out.mono (Nat.le_of_lt HBK.out.lt))
theorem sum_any (ap : Option Addr) (np cp : Nat) (rows : Nat → List Int) (w : World) (hR : Rws w ap np rows) (hn : np ≤ 1000) (hL : (cat rows np).length ≤ 800000) (hG : Gl w) :
    Calls Tryz.prog 66 #[.slice ap np cp] w fun e w' => ∃ g c', e = .returned (.slice (some ⟨g, 0, none⟩) 32 c') ∧ Row8 w' g 32 (shaL (cat rows np)) ∧ Below w.heap.size w w' :=
  (sum_cap ap np cp rows w hR hn hL hG).mono fun _ _ ⟨g, c', h1, h2, h3, _⟩ => ⟨g, c', h1, h2, h3⟩
end Go.Proofs.YtkfdcdfaikkneaaGreatDoor
/- Layer 7's laws: what they have in common: one part; the sum as a string; the chapter's example. -/
namespace Go.Proofs.YtkfdcdfaikkneaaGreatDoor
open Go.ChangeShapes Go.WideShapes Go.ChangeAt Go.RowKit
set_option linter.unusedVariables false
set_option linter.unusedSimpArgs false
set_option maxRecDepth 100000

theorem Row8.str_on {w : World} {g n : Nat} {l : List Int} (h : Row8 w g n l) (c : Nat) : ∀ U, Below w.heap.size w U → (convert 23 9 (.slice (some ⟨g, 0, none⟩) n c)).run Tryz.prog U = .ok (.string (strOfNums l)) U := fun U hU =>
  (h.bs.below hU).str h.1 Tryz.underlying23 Tryz.underlying5 Tryz.underlying9
theorem Arg8.str_on {w : World} {a : Option Addr} {n c : Nat} {l : List Int} (h : Arg8 w a n c l) : ∀ U, Below w.heap.size w U → (convert 23 9 (.slice a n c)).run Tryz.prog U = .ok (.string (strOfNums l)) U := fun U hU =>
  (h.2.2.1.below hU).str h.1 Tryz.underlying23 Tryz.underlying5 Tryz.underlying9
/-- The sum of one part. -/
theorem sum_one (pb : Nat) (a : Option Addr) (L c : Nat) (l : List Int) (w : World) (hp : w.cell? ⟨pb, 0, none⟩ = some (.slice a L c)) (hpb : pb < w.heap.size) (hx : Arg8 w a L c l) (hL : L ≤ 800000) (hG : Gl w) :
    Calls Tryz.prog 66 #[.slice (some ⟨pb, 0, none⟩) 1 1] w fun e w' => ∃ g c', e = .returned (.slice (some ⟨g, 0, none⟩) 32 c') ∧ Row8 w' g 32 (shaL l) ∧ Below w.heap.size w w' := by
  have e : cat (fun _ => l) 1 = l := by simp [cat]
  have h := sum_any (some ⟨pb, 0, none⟩) 1 1 (fun _ => l) w (fun i hi => ⟨pb, 0, a, c, rfl, hpb, by rw [Nat.zero_add, show i = 0 by omega, hp, hx.1], hx.2.2.1, hx.2.1, by rw [hx.1]; exact hx.2.2.2.1⟩) (by omega) (by rw [e, hx.1]; exact hL) hG
  rw [e] at h
  exact h
theorem sum_one_cap (pb : Nat) (a : Option Addr) (L c : Nat) (l : List Int) (w : World) (hp : w.cell? ⟨pb, 0, none⟩ = some (.slice a L c)) (hpb : pb < w.heap.size) (hx : Arg8 w a L c l) (hL : L ≤ 800000) (hG : Gl w) :
    Calls Tryz.prog 66 #[.slice (some ⟨pb, 0, none⟩) 1 1] w fun e w' => ∃ g c', e = .returned (.slice (some ⟨g, 0, none⟩) 32 c') ∧ Row8 w' g 32 (shaL l) ∧ Below w.heap.size w w' ∧ 32 ≤ c' := by
  have e : cat (fun _ => l) 1 = l := by simp [cat]
  have h := sum_cap (some ⟨pb, 0, none⟩) 1 1 (fun _ => l) w (fun i hi => ⟨pb, 0, a, c, rfl, hpb, by rw [Nat.zero_add, show i = 0 by omega, hp, hx.1], hx.2.2.1, hx.2.1, by rw [hx.1]; exact hx.2.2.2.1⟩) (by omega) (by rw [e, hx.1]; exact hL) hG
  rw [e] at h
  exact h
end Go.Proofs.YtkfdcdfaikkneaaGreatDoor
