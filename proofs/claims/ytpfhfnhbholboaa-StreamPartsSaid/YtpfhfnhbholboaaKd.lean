/- Contracts of the cipher's squares: plus, through, times. -/
import Derived.Test.YtpfhfnhbholboaaKc
import Derived.StillTailTactics
namespace Go.Proofs.Ytpfhfnhbholboaa
open Go.ChangeShapes Go.WideShapes Go.ChangeAt Go.RowKit
set_option linter.unusedVariables false
set_option maxRecDepth 100000

theorem infoSq : (Try.prog.info? 68).map (fun i => (i.zero, i.size)) = some (some (.agg (Array.replicate 4 (.int .u32 0))), 4) := by kernel_rfl
theorem size_sq : (Try.prog.info? 68).map (·.size) = some 4 := by kernel_rfl
def sqc (S : Nat → Nat → Nat) (c : Nat) : Value := .int .u32 ((wd (S c) : Nat) : Int)
def sqV (S : Nat → Nat → Nat) : Array Value := tabV 4 (sqc S)
theorem size_sqV (S : Nat → Nat → Nat) : (sqV S).size = 4 := size_tabV _ _
theorem sqV_same {S T : Nat → Nat → Nat} (h : Same S T) : sqV S = sqV T := tabV_congr fun c hc => by unfold sqc; rw [wd_congr fun r hr => h c r hc hr]
/-- Behind i of the four columns the new ones, the others as they were. -/
def sqM (S T : Nat → Nat → Nat) (i c : Nat) : Value := if c < i then sqc T c else sqc S c
set_option maxHeartbeats 1000000 in
theorem sqPlus_any (S T : Nat → Nat → Nat) (hS : SqB S) (hT : SqB T) (w : World) :
    Calls Try.prog 30 #[.agg (sqV S), .agg (sqV T)] w fun e w' => e = .returned (.agg (sqV (adds S T))) ∧ Below w.heap.size w w' := by
  obtain ⟨hz, hi⟩ := zero_of_info infoSq
  rw [replicate_tabV] at hz
  obtain ⟨s0, hs0⟩ : ∃ c : Array Value, c = sqV S := ⟨_, rfl⟩
  obtain ⟨t0, ht0⟩ : ∃ c : Array Value, c = sqV T := ⟨_, rfl⟩
  obtain ⟨c0, hc0⟩ : ∃ c0 : Array Value, c0 = tabV 4 fun _ => .int .u32 0 := ⟨_, rfl⟩
  rw [← hc0] at hz
  rw [← hs0, ← ht0]
  obtain ⟨V1, hV1⟩ : ∃ W, W = w.alloc (.cells s0 68) := ⟨_, rfl⟩
  obtain ⟨V2, hV2⟩ : ∃ W, W = V1.alloc (.cells t0 68) := ⟨_, rfl⟩
  obtain ⟨W0, hW0⟩ : ∃ W, W = V2.alloc (.cells c0 68) := ⟨_, rfl⟩
  have e1 : V1.heap.size = w.heap.size + 1 := by rw [hV1]; simp
  have e2 : V2.heap.size = w.heap.size + 1 + 1 := by rw [hV2, hV1]; simp
  have e0 : W0.heap.size = w.heap.size + 1 + 1 + 1 := by rw [hW0, hV2, hV1]; simp
  have B1 : Below w.heap.size w V1 := by rw [hV1]; exact (Below.refl _ _).alloc (Nat.le_refl _) _
  have B2 : Below V1.heap.size V1 V2 := by rw [hV2]; exact (Below.refl _ _).alloc (Nat.le_refl _) _
  have B3 : Below V2.heap.size V2 W0 := by rw [hW0]; exact (Below.refl _ _).alloc (Nat.le_refl _) _
  have HB0 := Lib.hid (show Below w.heap.size w W0 from bt (bt B1 B2) B3)
  have HS := Lib.hid (show Blk W0 w.heap.size 68 4 (sqM S (adds S T) 0) by
    have h : Blk V1 w.heap.size 68 4 (sqc S) := by rw [hV1, hs0]; exact Blk.made _ _ _ _
    exact ((h.on B2 (by omega)).on B3 (by omega)).congr fun j hj => by unfold sqM; rw [if_neg (by omega)])
  have HT := Lib.hid (show Blk W0 (w.heap.size + 1) 68 4 (sqc T) by
    have h : Blk V2 (w.heap.size + 1) 68 4 (sqc T) := by rw [← e1, hV2, ht0]; exact Blk.made _ _ _ _
    exact h.on B3 (by omega))
  have HR := Lib.hid (show Blk W0 (w.heap.size + 1 + 1) 68 4 (fun _ => .int .u32 0) by rw [← e2, hW0, hc0]; exact Blk.made _ _ _ _)
  have HW0 := Lib.hid (show W0 = ((w.alloc (.cells s0 68)).alloc (.cells t0 68)).alloc (.cells c0 68) by rw [hW0, hV2, hV1])
  have HSB := Lib.hid hS
  have HTB := Lib.hid hT
  clear hV1 hV2 hW0 e1 e2 e0 B1 B2 B3 hS hT hi hs0 ht0 hc0
  go_enter Try.func30, Try.ntmps30
  go_wp2_with fail
  clear hz
  rw [← HW0.out]
  obtain ⟨b0, hb0⟩ : ∃ b, b = w.heap.size := ⟨_, rfl⟩
  rw [← hb0] at HS HT HR HB0 ⊢
  have HLE := Lib.hid (show w.heap.size ≤ b0 by rw [hb0]; exact Nat.le_refl _)
  have HBS := Lib.hid hb0
  clear HW0 hb0
  go_loopw [6] (fun s wr => ∃ i : Nat, i ≤ 4 ∧ s = .int .i64 (i : Nat) ∧ Blk wr b0 68 4 (sqM S (adds S T) i) ∧ Blk wr (b0 + 1) 68 4 (sqc T) ∧ Blk wr (b0 + 1 + 1) 68 4 (fun _ => .int .u32 0) ∧ Below b0 w wr) (fun s _ => 4 - (intOf s).toNat)
  case atStart => exact ⟨0, by omega, rfl, HS.out, HT.out, HR.out, HB0.out⟩
  case round =>
    obtain ⟨i, hi, rfl, h1, h2, h3, hB⟩ := hrel
    have H1 := Lib.hid h1
    have H2 := Lib.hid h2
    have H3 := Lib.hid h3
    have HB := Lib.hid hB
    clear h1 h2 h3 hB HS HT HR HB0
    rename World => wr
    by_cases hlt : i < 4
    · have qi : (i : Int) < 4 := by omega
      have qi0 : (0 : Int) ≤ (i : Int) := by omega
      have hc1 := H1.out.cell hlt
      unfold sqM at hc1
      rw [if_neg (by omega)] at hc1
      have hc2 := H2.out.cell hlt
      have hfr := H1.out.free i
      unfold sqc at hc1 hc2
      have hx := u32_xor_nat (wd (S i)) (wd (T i)) (wd_lt (HSB.out i)) (wd_lt (HTB.out i))
      rw [wd_xor (HSB.out i) (HTB.out i)] at hx
      have hp1 := wd_lt (HSB.out i)
      have hp2 := wd_lt (HTB.out i)
      obtain ⟨u, hu⟩ : ∃ u, u = wd (S i) := ⟨_, rfl⟩
      obtain ⟨v, hv⟩ : ∃ v, v = wd (T i) := ⟨_, rfl⟩
      rw [← hu] at hc1 hx hp1
      rw [← hv] at hc2 hx hp2
      have HX := Lib.hid hx
      clear hu hv hx
      go_wp2_with fail
      go_still_tail 7, (by kernel_rfl)
      go_wp2
      go_roundw
      case rel =>
        refine ⟨i + 1, by omega, by go_num, ((H1.out.drewN 1).set hlt _).congr fun j hj => ?_, (H2.out.drewN 1).other ⟨b0, i, none⟩ _ (by show b0 + 1 ≠ b0; omega), (H3.out.drewN 1).other ⟨b0, i, none⟩ _ (by show b0 + 1 + 1 ≠ b0; omega), (below_drewN HB.out 1).setCell (p := ⟨b0, i, none⟩) (Nat.le_refl _) _⟩
        unfold sqM
        by_cases e : j = i
        · rw [if_pos e, if_pos (by omega), HX.out, e]; rfl
        · rw [if_neg e]
          by_cases e2 : j < i
          · rw [if_pos e2, if_pos (by omega)]
          · rw [if_neg e2, if_neg (by omega)]
      case measure => simp [intOf]; omega
    · obtain rfl : i = 4 := by omega
      have HK3 := Lib.hid (H1.out.congr (h := sqc (adds S T)) fun j hj => by unfold sqM; rw [if_pos hj])
      have HS3 := Lib.hid (show (sqV (adds S T)).all (·.oneCell') = true from tabV_one fun _ => rfl)
      have HS1 := Lib.hid (show (Try.prog.info? 68).map (·.size) = some (sqV (adds S T)).size by rw [size_sqV]; exact size_sq)
      have HS2 := Lib.hid (show (tabV 4 fun _ => (Value.int .u32 0)).size = (sqV (adds S T)).size by rw [size_tabV, size_sqV])
      have HR3 := Lib.hid (H3.out.row (sqc (adds S T)))
      have HBF := Lib.hid (show Below w.heap.size w (wr.setRow (b0 + 1 + 1) (sqV (adds S T))) from below_setRow (by rw [← HBS.out]; exact HB.out) (by have := HLE.out; omega) _)
      obtain ⟨cs, hcs⟩ : ∃ cs, cs = sqV (adds S T) := ⟨_, rfl⟩
      unfold Blk at HK3 HR3
      rw [show tabV 4 (sqc (adds S T)) = cs from hcs.symm] at HK3 HR3
      rw [← hcs] at HBF HS1 HS2 HS3
      have HCS := Lib.hid hcs
      clear hcs
      go_wp2_with (first
        | ((with_reducible show wpList _ _ _ (⟨some 18, _, _, _, _, _⟩ :: _) _ _); refine wpList_load_row rfl 68 (.tmp 2) rfl b0 rfl _ cs _ _ HK3.out Try.underlying68 rfl HS1.out ?_)
        | ((with_reducible show wpList _ _ _ (⟨none, _, _, _, _, _⟩ :: _) _ _); refine wpList_store_row rfl 68 (.tmp 4) (.tmp 18) rfl (b0 + 1 + 1) cs rfl rfl _ _ H3.out HS1.out HS2.out HS3.out ?_))
      refine bodyPost_ret (v := .agg cs) (results_cell_row rfl _ _ (b0 + 1 + 1) _ cs _ _ rfl HR3.out Try.underlying68 rfl HS1.out) rfl ⟨by rw [HCS.out], HBF.out⟩
end Go.Proofs.Ytpfhfnhbholboaa
