/- Contracts of the cipher's tables: productBy, undone. -/
import Derived.Test.YtpfhfnhbholboaaKb
namespace Go.Proofs.Ytpfhfnhbholboaa
open Go.ChangeShapes Go.WideShapes Go.ChangeAt Go.RowKit
set_option linter.unusedVariables false
set_option maxRecDepth 100000

theorem size_pr : (Try.prog.info? 54).map (·.size) = some 256 := by kernel_rfl
theorem size_by : (Try.prog.info? 56).map (·.size) = some 4 := by kernel_rfl
theorem index_by (p : Nat → Nat) {k : Nat} (hk : k < 4) (w : World) : (Instr.index 56 (.agg (tabV 4 fun j => .int .u8 ((p j : Nat) : Int))) (.int .i64 (k : Nat))).run Try.prog w = .ok (.int .u8 ((p k : Nat) : Int)) w := by
  rcases lt4 hk with rfl | rfl | rfl | rfl <;> kernel_rfl
/-- The product's table. -/
def prt (p : Nat → Nat) (j : Nat) : Nat := wd fun k => gm j (p k)
def prtI (p : Nat → Nat) (i j : Nat) : Value := .int .u32 (((if j < i then prt p j else 0 : Nat)) : Int)
def prtJ (p : Nat → Nat) (i k j : Nat) : Value := .int .u32 (((if j = i then wdp (fun r => gm i (p r)) k else if j < i then prt p j else 0 : Nat)) : Int)
set_option maxHeartbeats 1000000 in
theorem productBy_any (fb : Nat) (p : Nat → Nat) (hp : ∀ k, p k < 256) (w : World) (hf : Fld w fb) :
    Calls Try.prog 24 #[.pointer (some ⟨fb, 0, none⟩), .agg (tabV 4 fun j => .int .u8 ((p j : Nat) : Int))] w fun e w' => e = .returned (.agg (tabV 256 fun j => .int .u32 ((prt p j : Nat) : Int))) ∧ Below w.heap.size w w' := by
  obtain ⟨hz, hi⟩ := zero_of_info infoPr
  rw [replicate_tabV] at hz
  obtain ⟨by_, hby⟩ : ∃ c : Array Value, c = tabV 4 fun j => .int .u8 ((p j : Nat) : Int) := ⟨_, rfl⟩
  rw [← hby]
  obtain ⟨c0, hc0⟩ : ∃ c0 : Array Value, c0 = tabV 256 fun _ => .int .u32 0 := ⟨_, rfl⟩
  rw [← hc0] at hz
  have hsz : c0.size = 256 := by rw [hc0, size_tabV]
  have h1 : c0.all (·.oneCell') = true := by rw [hc0]; exact tabV_one fun _ => rfl
  obtain ⟨V0, hV0⟩ : ∃ W, W = w.alloc (.cells by_ 56) := ⟨_, rfl⟩
  obtain ⟨W0, hW0⟩ : ∃ W, W = V0.alloc (.cells c0 54) := ⟨_, rfl⟩
  have hs0 : W0.heap.size = w.heap.size + 1 + 1 := by rw [hW0, hV0]; simp
  have HR1 := Lib.hid (show Blk V0 w.heap.size 56 4 (fun j => .int .u8 ((p j : Nat) : Int)) by rw [hV0, hby]; exact Blk.made _ _ _ _)
  have HBV := Lib.hid (show Below w.heap.size w V0 by rw [hV0]; exact (Below.refl _ _).alloc (Nat.le_refl _) _)
  have HBVW := Lib.hid (show Below V0.heap.size V0 W0 by rw [hW0]; exact (Below.refl _ _).alloc (Nat.le_refl _) _)
  have hsV : V0.heap.size = w.heap.size + 1 := by rw [hV0]; simp
  have HR0 := Lib.hid (show Blk W0 (w.heap.size + 1) 54 256 (fun _ => .int .u32 0) by rw [← hsV, hW0, hc0]; exact Blk.made _ _ _ _)
  have HB0 := Lib.hid (show Below w.heap.size w W0 from bt HBV.out HBVW.out)
  have hsc : (storeCells ⟨w.heap.size + 1 + 1, 0, none⟩ c0.toList 0).run Try.prog (W0.alloc (.cells c0 54)) = .ok () (W0.alloc (.cells c0 54)) := by
    have h := run_storeCells_new (P := Try.prog) W0 54 c0 c0 (by rw [hi, hsz]) rfl h1
    rw [hs0] at h
    exact h
  rw [hW0, hV0] at hsc
  have HF := Lib.hid (hf.below HB0.out)
  have HC0 := Lib.hid hc0
  have HW0 := Lib.hid (show W0 = (w.alloc (.cells by_ 56)).alloc (.cells c0 54) by rw [hW0, hV0])
  have HS0 := Lib.hid hs0
  have HBY := Lib.hid hby
  have HSV := Lib.hid hsV
  clear hc0 hf hi h1 hW0 hs0 hby hV0 hsV
  go_enter Try.func24, Try.ntmps24
  go_wp2_with fail
  clear hsc hz hsz
  rw [← HW0.out, ← HS0.out]
  obtain ⟨b1, hb1⟩ : ∃ b, b = w.heap.size := ⟨_, rfl⟩
  obtain ⟨b2, hb2⟩ : ∃ b, b = w.heap.size + 1 := ⟨_, rfl⟩
  obtain ⟨b3, hb3⟩ : ∃ b, b = W0.heap.size := ⟨_, rfl⟩
  have HBK := Lib.hid (show Blk (W0.alloc (.cells c0 54)) b3 54 256 (prtI p 0) by
    rw [HC0.out, hb3]
    exact (Blk.made _ _ _ _).congr fun j hj => by unfold prtI; rw [if_neg (by omega)]; rfl)
  have HBE := Lib.hid (show Below b3 W0 (W0.alloc (.cells c0 54)) by rw [hb3]; exact (Below.refl _ _).alloc (Nat.le_refl _) _)
  have HB1 := Lib.hid (show Blk W0 b1 56 4 (fun j => .int .u8 ((p j : Nat) : Int)) by rw [hb1]; exact HR1.out.on HBVW.out (by rw [HSV.out]; omega))
  rw [← hb2] at HR0
  have HLT := Lib.hid (show b1 < b3 ∧ b2 < b3 ∧ w.heap.size ≤ b2 by rw [hb1, hb2, hb3, HS0.out]; omega)
  have HLE := Lib.hid (show W0.heap.size ≤ b3 ∧ w.heap.size ≤ b3 by rw [hb3, HS0.out]; omega)
  rw [← hb2, ← hb1, ← hb3]
  have HP := Lib.hid hp
  clear hb1 hb2 hb3 HC0 HS0 HW0 HR1 HBV HBVW HSV hp
  go_loopw [10] (fun s wr => ∃ i : Nat, i ≤ 256 ∧ s = .int .i64 (i : Nat) ∧ Blk wr b3 54 256 (prtI p i) ∧ Below b3 W0 wr) (fun s _ => 256 - (intOf s).toNat)
  case atStart => exact ⟨0, by omega, rfl, HBK.out, HBE.out⟩
  case round =>
    obtain ⟨i, hi, rfl, hK, hB⟩ := hrel
    have HK := Lib.hid hK
    have HB := Lib.hid hB
    clear hK hB HBK HBE
    by_cases hlt : i < 256
    · have qi : (i : Int) < 256 := by omega
      have qi0 : (0 : Int) ≤ (i : Int) := by omega
      have qw : IntKind.u8.wrap (i : Int) = (i : Int) := by rw [IntKind.wrap_u8]; omega
      have HL := Lib.hid (HB1.out.on HB.out HLT.out.1)
      have HSY := Lib.hid (show (Try.prog.info? 56).map (·.size) = some by_.size by rw [HBY.out, size_tabV]; exact size_by)
      rename World => wr
      unfold Blk at HL
      rw [← HBY.out] at HL
      go_upto_region 6 with ((with_reducible show wpList _ _ _ (⟨some 13, _, _, _, _, _⟩ :: _) _ _); refine wpList_load_row rfl 56 (.tmp 3) rfl b1 rfl _ by_ _ _ HL.out Try.underlying56 rfl HSY.out ?_)
      have HK8 := Lib.hid (HK.out.congr (h := prtJ p i 0) fun j hj => by
        unfold prtJ prtI
        by_cases e : j = i
        · rw [if_neg (by omega), if_pos e, wdp_zero]
        · rw [if_neg e])
      go_loopw [14] (fun s W => ∃ k : Nat, k ≤ 4 ∧ s = .int .i64 (k : Nat) ∧ Blk W b3 54 256 (prtJ p i k) ∧ Below b3 W0 W) (fun s _ => 4 - (intOf s).toNat)
      case atStart => exact ⟨0, by omega, rfl, HK8.out, HB.out⟩
      case round =>
        obtain ⟨k, hk, rfl, hK, hB⟩ := hrel
        have HKn := Lib.hid hK
        have HBn := Lib.hid hB
        clear hK hB
        rename World => W
        by_cases hlk : k < 4
        · have hcell := HKn.out.cell hlt
          unfold prtJ at hcell
          rw [if_pos rfl] at hcell
          have hfr := HKn.out.free i
          have hix : ∀ w : World, (Instr.index 56 (.agg by_) (.int .i64 (k : Nat))).run Try.prog w = .ok (.int .u8 ((p k : Nat) : Int)) w := by rw [HBY.out]; exact index_by p hlk
          have hF : ∀ r, (fun r => gm i (p r)) r < 256 := fun r => gm_lt _ _
          have hOR := wdp_or hF hlk
          have hP := wdp_lt hF k
          have hyl := gm_lt i (p k)
          have HMU := Lib.hid (fun W hW => mul_N fb i (p k) W hW hlt (HP.out k))
          have HFW := Lib.hid (HF.out.below (HBn.out.mono HLE.out.1))
          have HSH := Lib.hid (shift_N k hlk)
          obtain ⟨sh, hsh⟩ : ∃ sh, sh = 8 * (3 - k) := ⟨_, rfl⟩
          rw [← hsh] at hOR HSH
          have hs2 : sh ≤ 24 := by omega
          obtain ⟨u, hu⟩ : ∃ u, u = wdp (fun r => gm i (p r)) k := ⟨_, rfl⟩
          obtain ⟨v, hv⟩ : ∃ v, v = gm i (p k) := ⟨_, rfl⟩
          rw [← hu] at hcell hP hOR
          rw [← hv] at hyl HMU
          rw [← hv] at hOR
          have hor := or_shl hP hyl hs2
          rw [hOR] at hor
          have qk : (k : Int) < 4 := by omega
          have qk0 : (0 : Int) ≤ (k : Int) := by omega
          clear hF hOR hu hv hsh
          go_wp2_with fail
          go_region_with (first
            | (go_at_call 44; refine (HMU.out _ (by exact HFW.out)).mono ?_; rintro e w' ⟨rfl, rfl⟩)
            | (go_at_call 45; refine (HSH.out _).mono ?_; rintro e w' ⟨rfl, rfl⟩))
          all_goals
            go_wp2
            go_roundw
            case rel =>
              refine ⟨k + 1, by omega, by go_num, ((HKn.out.drewN 1).set hlt _).congr fun j hj => ?_, (below_drewN HBn.out 1).setCell (p := ⟨b3, i, none⟩) (Nat.le_refl _) _⟩
              unfold prtJ
              by_cases e : j = i
              · rw [if_pos e, if_pos e, hor]
              · rw [if_neg e, if_neg e, if_neg e]
            case measure => simp [intOf]; omega
        · obtain rfl : k = 4 := by omega
          have HKN := Lib.hid (HKn.out.congr (h := prtI p (i + 1)) fun j hj => by
            unfold prtJ prtI
            by_cases e : j = i
            · rw [if_pos e, if_pos (by omega), wdp_all, e]; rfl
            · rw [if_neg e]
              by_cases e2 : j < i
              · rw [if_pos e2, if_pos (by omega)]
              · rw [if_neg e2, if_neg (by omega)])
          go_wp2
          go_roundw
          case rel => exact ⟨i + 1, by omega, by go_num, HKN.out, HBn.out⟩
          case measure => simp [intOf]; omega
    · obtain rfl : i = 256 := by omega
      rename World => wr
      have HK3 := Lib.hid (HK.out.congr (h := fun j => .int .u32 ((prt p j : Nat) : Int)) fun j hj => by unfold prtI; rw [if_pos hj])
      have HR2 := Lib.hid (HR0.out.on HB.out HLT.out.2.1)
      have HS3 := Lib.hid (show (tabV 256 fun j => (Value.int .u32 ((prt p j : Nat) : Int))).all (·.oneCell') = true from tabV_one fun _ => rfl)
      have HS1 := Lib.hid (show (Try.prog.info? 54).map (·.size) = some (tabV 256 fun j => (Value.int .u32 ((prt p j : Nat) : Int))).size by rw [size_tabV]; exact size_pr)
      have HS2 := Lib.hid (show (tabV 256 fun _ => (Value.int .u32 0)).size = (tabV 256 fun j => (Value.int .u32 ((prt p j : Nat) : Int))).size by rw [size_tabV, size_tabV])
      have HR3 := Lib.hid (HR2.out.row (fun j => .int .u32 ((prt p j : Nat) : Int)))
      have HBF := Lib.hid (show Below w.heap.size w (wr.setRow b2 (tabV 256 fun j => .int .u32 ((prt p j : Nat) : Int))) from below_setRow (HB0.out.trans (HB.out.mono HLE.out.2)) HLT.out.2.2 _)
      obtain ⟨cs, hcs⟩ : ∃ cs, cs = tabV 256 fun j => (Value.int .u32 ((prt p j : Nat) : Int)) := ⟨_, rfl⟩
      unfold Blk at HK3 HR3
      rw [← hcs] at HK3 HR3 HBF HS1 HS2 HS3
      have HCS := Lib.hid hcs
      clear hcs
      go_wp2_with (first
        | ((with_reducible show wpList _ _ _ (⟨some 34, _, _, _, _, _⟩ :: _) _ _); refine wpList_load_row rfl 54 (.tmp 5) rfl b3 rfl _ cs _ _ HK3.out Try.underlying54 rfl HS1.out ?_)
        | ((with_reducible show wpList _ _ _ (⟨none, _, _, _, _, _⟩ :: _) _ _); refine wpList_store_row rfl 54 (.tmp 4) (.tmp 34) rfl b2 cs rfl rfl _ _ HR2.out HS1.out HS2.out HS3.out ?_))
      refine bodyPost_ret (v := .agg cs) (results_cell_row rfl _ _ b2 _ cs _ _ rfl HR3.out Try.underlying54 rfl HS1.out) rfl ⟨by rw [HCS.out], HBF.out⟩

def undI (i j : Nat) : Value := .int .u8 (((if bxb j < i then bxb j else 0 : Nat)) : Int)
set_option maxHeartbeats 1000000 in
theorem undone_any (b o : Nat) (w : World) (hT : Tb w b o box) :
    Calls Try.prog 25 #[.pointer (some ⟨b, o, none⟩)] w fun e w' => e = .returned (.agg (tabV 256 fun j => .int .u8 ((bxb j : Nat) : Int))) ∧ Below w.heap.size w w' := by
  obtain ⟨hz, hi⟩ := zero_of_info infoB
  rw [replicate_tabV] at hz
  obtain ⟨c0, hc0⟩ : ∃ c0 : Array Value, c0 = tabV 256 fun _ => .int .u8 0 := ⟨_, rfl⟩
  rw [← hc0] at hz
  have hsz : c0.size = 256 := by rw [hc0, size_tabV]
  have h1 : c0.all (·.oneCell') = true := by rw [hc0]; exact tabV_one fun _ => rfl
  obtain ⟨W0, hW0⟩ : ∃ W, W = w.alloc (.cells c0 50) := ⟨_, rfl⟩
  have hs0 : W0.heap.size = w.heap.size + 1 := by rw [hW0]; simp
  have HR0 := Lib.hid (show Blk W0 w.heap.size 50 256 (fun _ => .int .u8 0) by rw [hW0, hc0]; exact Blk.made _ _ _ _)
  have HB0 := Lib.hid (show Below w.heap.size w W0 by rw [hW0]; exact (Below.refl _ _).alloc (Nat.le_refl _) _)
  have hsc : (storeCells ⟨w.heap.size + 1, 0, none⟩ c0.toList 0).run Try.prog (W0.alloc (.cells c0 50)) = .ok () (W0.alloc (.cells c0 50)) := by
    have h := run_storeCells_new (P := Try.prog) W0 50 c0 c0 (by rw [hi, hsz]) rfl h1
    rw [hs0] at h
    exact h
  rw [hW0] at hsc
  have HT := Lib.hid (hT.on HB0.out)
  have HC0 := Lib.hid hc0
  have HW0 := Lib.hid hW0
  have HS0 := Lib.hid hs0
  clear hc0 hT hi h1 hW0 hs0
  go_enter Try.func25, Try.ntmps25
  go_wp2_with fail
  clear hsc hz hsz
  rw [← HW0.out, ← HS0.out]
  obtain ⟨b2, hb2⟩ : ∃ b, b = w.heap.size := ⟨_, rfl⟩
  obtain ⟨b3, hb3⟩ : ∃ b, b = W0.heap.size := ⟨_, rfl⟩
  have HBK := Lib.hid (show Blk (W0.alloc (.cells c0 50)) b3 50 256 (undI 0) by
    rw [HC0.out, hb3]
    exact (Blk.made _ _ _ _).congr fun j hj => by unfold undI; rw [if_neg (by omega)]; rfl)
  rw [← hb2] at HR0
  have HBE := Lib.hid (show Below b3 W0 (W0.alloc (.cells c0 50)) by rw [hb3]; exact (Below.refl _ _).alloc (Nat.le_refl _) _)
  have HLT := Lib.hid (show b2 < b3 ∧ w.heap.size ≤ b2 by rw [hb2, hb3, HS0.out]; omega)
  have HLE := Lib.hid (show W0.heap.size ≤ b3 ∧ w.heap.size ≤ b3 by rw [hb3, HS0.out]; omega)
  rw [← hb2, ← hb3]
  clear hb2 hb3 HC0 HS0 HW0
  go_loopw [8] (fun s wr => ∃ i : Nat, i ≤ 256 ∧ s = .int .i64 (i : Nat) ∧ Blk wr b3 50 256 (undI i) ∧ Below b3 W0 wr) (fun s _ => 256 - (intOf s).toNat)
  case atStart => exact ⟨0, by omega, rfl, HBK.out, HBE.out⟩
  case round =>
    obtain ⟨i, hi, rfl, hK, hB⟩ := hrel
    have HK := Lib.hid hK
    have HB := Lib.hid hB
    clear hK hB HBK HBE
    rename World => wr
    by_cases hlt : i < 256
    · have qi : (i : Int) < 256 := by omega
      have qi0 : (0 : Int) ≤ (i : Int) := by omega
      have qw : IntKind.u8.wrap (i : Int) = (i : Int) := by rw [IntKind.wrap_u8]; omega
      have hcb := (HT.out.on (HB.out.mono HLE.out.1)).2 i hlt
      have hbl := box_lt i
      have HBX := Lib.hid (bxb_box hlt)
      have hcell := HK.out.cell hbl
      have hfr := HK.out.free (box i)
      obtain ⟨z, hz⟩ : ∃ z, z = box i := ⟨_, rfl⟩
      rw [← hz] at hcb hbl HBX hcell hfr
      have HZ := Lib.hid hz
      have qz : (z : Int) < 256 := by omega
      have qz0 : (0 : Int) ≤ (z : Int) := by omega
      clear hz
      go_wp2_with fail
      go_quiet (fail)
      go_wp2
      go_roundw
      case rel =>
        refine ⟨i + 1, by omega, by go_num, ((HK.out.drewN _).set hbl _).congr fun j hj => ?_, (below_drewN HB.out _).setCell (p := ⟨b3, z, none⟩) (Nat.le_refl _) _⟩
        unfold undI
        by_cases e : j = z
        · rw [if_pos e, if_pos (by rw [e, HBX.out]; omega), e, HBX.out]
        · rw [if_neg e]
          have hne : bxb j ≠ i := fun h => e (by rw [HZ.out, ← h, box_bxb hj])
          by_cases e2 : bxb j < i
          · rw [if_pos e2, if_pos (by omega)]
          · rw [if_neg e2, if_neg (by omega)]
      case measure => simp [intOf]; omega
    · obtain rfl : i = 256 := by omega
      have HK3 := Lib.hid (HK.out.congr (h := fun j => .int .u8 ((bxb j : Nat) : Int)) fun j hj => by unfold undI; rw [if_pos (bxb_lt j)])
      have HR2 := Lib.hid (HR0.out.on HB.out HLT.out.1)
      have HS3 := Lib.hid (show (tabV 256 fun j => (Value.int .u8 ((bxb j : Nat) : Int))).all (·.oneCell') = true from tabV_one fun _ => rfl)
      have HS1 := Lib.hid (show (Try.prog.info? 50).map (·.size) = some (tabV 256 fun j => (Value.int .u8 ((bxb j : Nat) : Int))).size by rw [size_tabV]; exact size_box)
      have HS2 := Lib.hid (show (tabV 256 fun _ => (Value.int .u8 0)).size = (tabV 256 fun j => (Value.int .u8 ((bxb j : Nat) : Int))).size by rw [size_tabV, size_tabV])
      have HR3 := Lib.hid (HR2.out.row (fun j => .int .u8 ((bxb j : Nat) : Int)))
      have HBF := Lib.hid (show Below w.heap.size w (wr.setRow b2 (tabV 256 fun j => .int .u8 ((bxb j : Nat) : Int))) from below_setRow (HB0.out.trans (HB.out.mono HLE.out.2)) HLT.out.2 _)
      obtain ⟨cs, hcs⟩ : ∃ cs, cs = tabV 256 fun j => (Value.int .u8 ((bxb j : Nat) : Int)) := ⟨_, rfl⟩
      unfold Blk at HK3 HR3
      rw [← hcs] at HK3 HR3 HBF HS1 HS2 HS3
      have HCS := Lib.hid hcs
      clear hcs
      go_wp2_with (first
        | ((with_reducible show wpList _ _ _ (⟨some 19, _, _, _, _, _⟩ :: _) _ _); refine wpList_load_row rfl 50 (.tmp 3) rfl b3 rfl _ cs _ _ HK3.out Try.underlying50 rfl HS1.out ?_)
        | ((with_reducible show wpList _ _ _ (⟨none, _, _, _, _, _⟩ :: _) _ _); refine wpList_store_row rfl 50 (.tmp 2) (.tmp 19) rfl b2 cs rfl rfl _ _ HR2.out HS1.out HS2.out HS3.out ?_))
      refine bodyPost_ret (v := .agg cs) (results_cell_row rfl _ _ b2 _ cs _ _ rfl HR3.out Try.underlying50 rfl HS1.out) rfl ⟨by rw [HCS.out], HBF.out⟩
end Go.Proofs.Ytpfhfnhbholboaa
