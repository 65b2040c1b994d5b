/- Contracts of the cipher's squares: through. -/
import Derived.Test.YtpfhfnhbholboaaKd
namespace Go.Proofs.Ytpfhfnhbholboaa
open Go.ChangeShapes Go.WideShapes Go.ChangeAt Go.RowKit
set_option linter.unusedVariables false
set_option maxRecDepth 100000

/-- By how much a row is turned, as the program says it and as a number of columns. -/
def Turned (st : Int) (s : Nat) : Prop := st = 1 ∧ s = 1 ∨ st = -1 ∧ s = 3
theorem turned_at {st : Int} {s j i : Nat} (h : Turned st s) (hj : j < 4) (hi : i < 4) : bits .and .i64 ((j : Int) + st * (i : Int)) 3 = (((j + s * i) % 4 : Nat) : Int) ∧ -3 ≤ st * (i : Int) ∧ st * (i : Int) ≤ 3 := by
  rcases h with ⟨rfl, rfl⟩ | ⟨rfl, rfl⟩
  · refine ⟨?_, by omega, by omega⟩
    rcases lt4 hj with rfl | rfl | rfl | rfl <;> rcases lt4 hi with rfl | rfl | rfl | rfl <;> decide +kernel
  · refine ⟨?_, by omega, by omega⟩
    rcases lt4 hj with rfl | rfl | rfl | rfl <;> rcases lt4 hi with rfl | rfl | rfl | rfl <;> decide +kernel
/-- Behind j whole columns of T, and k rows of the next one. -/
def colP (T : Nat → Nat → Nat) (j k c : Nat) : Value := .int .u32 (((if c = j then wdp (T c) k else if c < j then wd (T c) else 0 : Nat)) : Int)
def colQ (T : Nat → Nat → Nat) (j c : Nat) : Value := .int .u32 (((if c < j then wd (T c) else 0 : Nat)) : Int)
theorem colP_zero (T : Nat → Nat → Nat) (j c : Nat) : colP T j 0 c = colQ T j c := by
  unfold colP colQ
  by_cases e : c = j
  · rw [if_pos e, if_neg (by omega), wdp_zero]
  · rw [if_neg e]
theorem colP_all (T : Nat → Nat → Nat) (j c : Nat) : colP T j 4 c = colQ T (j + 1) c := by
  unfold colP colQ
  by_cases e : c = j
  · rw [if_pos e, if_pos (by omega), wdp_all]
  · rw [if_neg e]
    by_cases e2 : c < j
    · rw [if_pos e2, if_pos (by omega)]
    · rw [if_neg e2, if_neg (by omega)]
theorem colP_set (T : Nat → Nat → Nat) (j k : Nat) (v : Int) (h : v = ((wdp (T j) (k + 1) : Nat) : Int)) (c : Nat) : (if c = j then Value.int .u32 v else colP T j k c) = colP T j (k + 1) c := by
  unfold colP
  by_cases e : c = j
  · rw [if_pos e, if_pos e, h, e]
  · rw [if_neg e, if_neg e, if_neg e]
theorem colQ_zero (T : Nat → Nat → Nat) (c : Nat) : colQ T 0 c = .int .u32 0 := by unfold colQ; rw [if_neg (by omega)]; rfl
theorem colQ_all (T : Nat → Nat → Nat) {c : Nat} (h : c < 4) : colQ T 4 c = sqc T c := by unfold colQ sqc; rw [if_pos h]
set_option maxHeartbeats 2000000 in
theorem sqThrough_any (S : Nat → Nat → Nat) (hS : SqB S) (b o : Nat) (B : Nat → Nat) (hB : ∀ x, B x < 256) (st : Int) (s : Nat) (hst : Turned st s) (w : World) (hT : Tb w b o B) :
    Calls Try.prog 31 #[.agg (sqV S), .pointer (some ⟨b, o, none⟩), .int .i64 st] w fun e w' => e = .returned (.agg (sqV (thr B s S))) ∧ Below w.heap.size w w' := by
  obtain ⟨hz, hi⟩ := zero_of_info infoSq
  rw [replicate_tabV] at hz
  obtain ⟨T, hTT⟩ : ∃ T, T = thr B s S := ⟨_, rfl⟩
  have hTe : ∀ c r, T c r = B (S ((c + s * r) % 4) r) := fun c r => by rw [hTT]; rfl
  rw [← hTT]
  have HTB := Lib.hid (show SqB T by rw [hTT]; exact SqB.thr hB _ _)
  have HTE := Lib.hid hTe
  clear hTT hTe
  obtain ⟨s0, hs0⟩ : ∃ c : Array Value, c = sqV S := ⟨_, rfl⟩
  obtain ⟨c0, hc0⟩ : ∃ c0 : Array Value, c0 = tabV 4 fun _ => .int .u32 0 := ⟨_, rfl⟩
  rw [← hc0] at hz
  rw [← hs0]
  have hsz : c0.size = 4 := by rw [hc0, size_tabV]
  have h1 : c0.all (·.oneCell') = true := by rw [hc0]; exact tabV_one fun _ => rfl
  obtain ⟨V1, hV1⟩ : ∃ W, W = w.alloc (.cells s0 68) := ⟨_, rfl⟩
  obtain ⟨V2, hV2⟩ : ∃ W, W = V1.alloc (.cells c0 68) := ⟨_, rfl⟩
  obtain ⟨W0, hW0⟩ : ∃ W, W = V2.alloc (.cells c0 68) := ⟨_, rfl⟩
  have e1 : V1.heap.size = w.heap.size + 1 := by rw [hV1]; simp
  have e2 : V2.heap.size = w.heap.size + 1 + 1 := by rw [hV2, hV1]; simp
  have e0 : W0.heap.size = w.heap.size + 1 + 1 + 1 := by rw [hW0, hV2, hV1]; simp
  have B1 : Below w.heap.size w V1 := by rw [hV1]; exact (Below.refl _ _).alloc (Nat.le_refl _) _
  have B2 : Below V1.heap.size V1 V2 := by rw [hV2]; exact (Below.refl _ _).alloc (Nat.le_refl _) _
  have B3 : Below V2.heap.size V2 W0 := by rw [hW0]; exact (Below.refl _ _).alloc (Nat.le_refl _) _
  have hsc : (storeCells ⟨w.heap.size + 1 + 1, 0, none⟩ c0.toList 0).run Try.prog W0 = .ok () W0 := by
    have h := run_storeCells_new (P := Try.prog) V2 68 c0 c0 (by rw [hi, hsz]) rfl h1
    rw [e2, ← hW0] at h
    exact h
  have HB0 := Lib.hid (show Below w.heap.size w W0 from bt (bt B1 B2) B3)
  have HS := Lib.hid (show Blk W0 w.heap.size 68 4 (sqc S) by
    have h : Blk V1 w.heap.size 68 4 (sqc S) := by rw [hV1, hs0]; exact Blk.made _ _ _ _
    exact (h.on B2 (by omega)).on B3 (by omega))
  have HR := Lib.hid (show Blk W0 (w.heap.size + 1) 68 4 (fun _ => .int .u32 0) by
    have h : Blk V2 (w.heap.size + 1) 68 4 (fun _ => .int .u32 0) := by rw [← e1, hV2, hc0]; exact Blk.made _ _ _ _
    exact h.on B3 (by omega))
  have HO := Lib.hid (show Blk W0 (w.heap.size + 1 + 1) 68 4 (colQ T 0) by
    rw [← e2, hW0, hc0]; exact (Blk.made _ _ _ _).congr fun j hj => (colQ_zero T j).symm)
  have hW0' : W0 = ((w.alloc (.cells s0 68)).alloc (.cells c0 68)).alloc (.cells c0 68) := by rw [hW0, hV2, hV1]
  rw [hW0'] at hsc
  have HW0 := Lib.hid hW0'
  have HSB := Lib.hid hS
  have HTT := Lib.hid hT
  have HST := Lib.hid hst
  clear hV1 hV2 hW0 hW0' e1 e2 e0 B1 B2 B3 hS hT hi hs0 hc0 h1 hst hB
  go_enter Try.func31, Try.ntmps31
  go_wp2_with fail
  clear hz hsc hsz
  rw [← HW0.out]
  have HLB := Lib.hid HTT.out.1
  obtain ⟨b0, hb0⟩ : ∃ b, b = w.heap.size := ⟨_, rfl⟩
  rw [← hb0] at HS HR HO HB0 HLB ⊢
  have HBS := Lib.hid hb0
  clear HW0 hb0
  go_loopw [12] (fun q wr => ∃ j : Nat, j ≤ 4 ∧ q = .int .i64 (j : Nat) ∧ Blk wr b0 68 4 (sqc S) ∧ Blk wr (b0 + 1) 68 4 (fun _ => .int .u32 0) ∧ Blk wr (b0 + 1 + 1) 68 4 (colQ T j) ∧ Below b0 w wr) (fun q _ => 4 - (intOf q).toNat)
  case atStart => exact ⟨0, by omega, rfl, HS.out, HR.out, HO.out, HB0.out⟩
  case round =>
    obtain ⟨j, hj, rfl, h1, h2, h3, hBB⟩ := hrel
    have H1 := Lib.hid h1
    have H2 := Lib.hid h2
    have H3 := Lib.hid h3
    have HB := Lib.hid hBB
    clear h1 h2 h3 hBB HS HR HO HB0
    rename World => wr
    by_cases hlt : j < 4
    · have qj : (j : Int) < 4 := by omega
      have qj0 : (0 : Int) ≤ (j : Int) := by omega
      go_upto_region 6 with (fail)
      go_loopw [15] (fun q W => ∃ k : Nat, k ≤ 4 ∧ q = .int .i64 (k : Nat) ∧ Blk W b0 68 4 (sqc S) ∧ Blk W (b0 + 1) 68 4 (fun _ => .int .u32 0) ∧ Blk W (b0 + 1 + 1) 68 4 (colP T j k) ∧ Below b0 w W) (fun q _ => 4 - (intOf q).toNat)
      case atStart => exact ⟨0, by omega, rfl, H1.out, H2.out, H3.out.congr fun c hc => (colP_zero T j c).symm, HB.out⟩
      case round =>
        obtain ⟨k, hk, rfl, h1, h2, h3, hBB⟩ := hrel
        have K1 := Lib.hid h1
        have K2 := Lib.hid h2
        have K3 := Lib.hid h3
        have KB := Lib.hid hBB
        clear h1 h2 h3 hBB
        rename World => W
        by_cases hlk : k < 4
        · obtain ⟨hand, hm1, hm2⟩ := turned_at HST.out hlt hlk
          have hml : (j + s * k) % 4 < 4 := Nat.mod_lt _ (by omega)
          have hcs := K1.out.cell hml
          unfold sqc at hcs
          have hco := K3.out.cell hlt
          unfold colP at hco
          rw [if_pos rfl] at hco
          have hfr := K3.out.free j
          have hTB : Tb W b o B := ⟨by have := KB.out.size; have := HTT.out.1; omega, fun z hz => (KB.out.cell (p := ⟨b, o + z, none⟩) HLB.out).trans (HTT.out.2 z hz)⟩
          have hOR := wdp_or (HTB.out j) hlk
          have hP := wdp_lt (HTB.out j) k
          have hyl := HTB.out j k
          have hzz := HSB.out ((j + s * k) % 4) k
          have HROW := Lib.hid (row_N (S ((j + s * k) % 4)) (HSB.out _) k hlk)
          have HSH := Lib.hid (shift_N k hlk)
          have hwl := wd_lt (HSB.out ((j + s * k) % 4))
          have hcb := hTB.2 (S ((j + s * k) % 4) k) hzz
          rw [← HTE.out j k] at hcb
          obtain ⟨sh, hsh⟩ : ∃ sh, sh = 8 * (3 - k) := ⟨_, rfl⟩
          rw [← hsh] at hOR HSH
          have hs2 : sh ≤ 24 := by omega
          obtain ⟨u, hu⟩ : ∃ u, u = wdp (T j) k := ⟨_, rfl⟩
          obtain ⟨v, hv⟩ : ∃ v, v = T j k := ⟨_, rfl⟩
          rw [← hu] at hco hP hOR
          rw [← hv] at hcb hyl hOR
          obtain ⟨m, hm⟩ : ∃ m, m = (j + s * k) % 4 := ⟨_, rfl⟩
          rw [← hm] at hand hml hcs hzz HROW hwl hcb
          obtain ⟨X, hX⟩ : ∃ X, X = wd (S m) := ⟨_, rfl⟩
          rw [← hX] at hcs HROW hwl
          obtain ⟨z, hz⟩ : ∃ z, z = S m k := ⟨_, rfl⟩
          rw [← hz] at hzz HROW hcb
          have hor := or_shl hP hyl hs2
          rw [hOR] at hor
          have HOR := Lib.hid hor
          have qk : (k : Int) < 4 := by omega
          have qk0 : (0 : Int) ≤ (k : Int) := by omega
          have qm : (m : Int) < 4 := by omega
          have qm0 : (0 : Int) ≤ (m : Int) := by omega
          have qz : (z : Int) < 256 := by omega
          have qz0 : (0 : Int) ≤ (z : Int) := by omega
          clear hTB hOR hu hv hsh hm hX hz hor
          go_wp2_with fail
          refine wp_region_still_tail 15 (by kernel_rfl) (by kernel_rfl) ?_
          simp only [List.take_succ_cons, List.take_zero, List.drop_succ_cons, List.drop_zero]
          repeat still_step
          still_call ((HROW.out _).mono fun _ _ ⟨he, hw⟩ => ⟨he, hw.symm⟩)
          repeat still_step
          still_call ((HSH.out _).mono fun _ _ ⟨he, hw⟩ => ⟨he, hw.symm⟩)
          repeat still_step
          refine wpStill_nil ?_
          go_wp2
          go_roundw
          case rel =>
            refine ⟨k + 1, by omega, by go_num, (K1.out.drewN 1).other ⟨b0 + 1 + 1, j, none⟩ _ (by show b0 ≠ b0 + 1 + 1; omega), (K2.out.drewN 1).other ⟨b0 + 1 + 1, j, none⟩ _ (by show b0 + 1 ≠ b0 + 1 + 1; omega), ((K3.out.drewN 1).set hlt _).congr fun c hc => colP_set T j k _ HOR.out c, (below_drewN KB.out 1).setCell (p := ⟨b0 + 1 + 1, j, none⟩) (by show b0 ≤ b0 + 1 + 1; omega) _⟩
          case measure => simp [intOf]; omega
        · obtain rfl : k = 4 := by omega
          have K4 := Lib.hid (K3.out.congr fun c hc => colP_all T j c)
          go_wp2
          go_roundw
          case rel => exact ⟨j + 1, by omega, by go_num, K1.out, K2.out, K4.out, KB.out⟩
          case measure => simp [intOf]; omega
    · obtain rfl : j = 4 := by omega
      have HK3 := Lib.hid (H3.out.congr (h := sqc T) fun c hc => colQ_all T hc)
      have HS3 := Lib.hid (show (sqV T).all (·.oneCell') = true from tabV_one fun _ => rfl)
      have HS1 := Lib.hid (show (Try.prog.info? 68).map (·.size) = some (sqV T).size by rw [size_sqV]; exact size_sq)
      have HS2 := Lib.hid (show (tabV 4 fun _ => (Value.int .u32 0)).size = (sqV T).size by rw [size_tabV, size_sqV])
      have HR3 := Lib.hid (H2.out.row (sqc T))
      have HBF := Lib.hid (show Below w.heap.size w (wr.setRow (b0 + 1) (sqV T)) from below_setRow (by rw [← HBS.out]; exact HB.out) (by rw [← HBS.out]; omega) _)
      obtain ⟨cs, hcs⟩ : ∃ cs, cs = sqV T := ⟨_, rfl⟩
      unfold Blk at HK3 HR3
      rw [show tabV 4 (sqc T) = cs from hcs.symm] at HK3 HR3
      rw [← hcs] at HBF HS1 HS2 HS3
      have HCS := Lib.hid hcs
      clear hcs
      go_wp2_with (first
        | ((with_reducible show wpList _ _ _ (⟨some 44, _, _, _, _, _⟩ :: _) _ _); refine wpList_load_row rfl 68 (.tmp 7) rfl (b0 + 1 + 1) rfl _ cs _ _ HK3.out Try.underlying68 rfl HS1.out ?_)
        | ((with_reducible show wpList _ _ _ (⟨none, _, _, _, _, _⟩ :: _) _ _); refine wpList_store_row rfl 68 (.tmp 6) (.tmp 44) rfl (b0 + 1) cs rfl rfl _ _ H2.out HS1.out HS2.out HS3.out ?_))
      refine bodyPost_ret (v := .agg cs) (results_cell_row rfl _ _ (b0 + 1) _ cs _ _ rfl HR3.out Try.underlying68 rfl HS1.out) rfl ⟨by rw [HCS.out], HBF.out⟩
end Go.Proofs.Ytpfhfnhbholboaa
