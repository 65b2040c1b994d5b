/- Contracts of the cipher's squares: times. -/
import Derived.Test.YtpfhfnhbholboaaKe
import Derived.IntWalk
namespace Go.Proofs.Ytpfhfnhbholboaa
open Go.ChangeShapes Go.WideShapes Go.ChangeAt Go.RowKit
set_option linter.unusedVariables false
set_option maxRecDepth 100000

/-- The first k of a column's four products, added. -/
def mixp (p : Nat → Nat) (S : Nat → Nat → Nat) (c : Nat) : Nat → Nat → Nat
  | 0 => fun _ => 0
  | k + 1 => fun r => mixp p S c k r ^^^ gm (S c k) (p ((r + 4 - k) % 4))
theorem mixp_lt (p : Nat → Nat) (S : Nat → Nat → Nat) (c : Nat) : ∀ k r, mixp p S c k r < 256
  | 0, _ => by show 0 < 256; omega
  | k + 1, r => xor_lt (mixp_lt p S c k r) (gm_lt _ _)
theorem mixp_all (p : Nat → Nat) (S : Nat → Nat → Nat) (c r : Nat) : mixp p S c 4 r = mix p S c r := by
  simp only [mixp, mix, Nat.zero_xor]
  rw [show (r + 4 - 0) % 4 = r % 4 by omega, show (r + 4 - 1) % 4 = (r + 3) % 4 by omega, show (r + 4 - 2) % 4 = (r + 2) % 4 by omega, show (r + 4 - 3) % 4 = (r + 1) % 4 by omega]
/-- A product's word, turned, and added to the first ones. -/
theorem mixp_next (p : Nat → Nat) (S : Nat → Nat → Nat) (c : Nat) {k : Nat} (hk : k < 4) : wd (mixp p S c k) ^^^ rot 32 (prt p (S c k)) (8 * ((4 - k) % 4)) = wd (mixp p S c (k + 1)) := by
  unfold prt
  rw [wd_rot (f := fun r => gm (S c k) (p r)) (fun _ => gm_lt _ _) hk, wd_xor (mixp_lt p S c k) (fun _ => gm_lt _ _)]
  rfl
theorem turn32_N (X k : Nat) (hX : X < 4294967296) (hk : k < 4) (w : World) : Calls Try.prog 49 #[.int .u32 (X : Nat), .int .i64 (-8 * (k : Int))] w fun e w' => e = .returned (.int .u32 ((rot 32 X (8 * ((4 - k) % 4)) : Nat) : Int)) ∧ ∃ j, w' = w.drewN j := by
  refine (turn32 (X : Nat) (-8 * (k : Int)) (mk32 (by omega) (by omega)) (mk64 (by omega) (by omega)) w).mono fun e w' ⟨h1, h2⟩ => ⟨?_, h2⟩
  rw [h1]
  refine ret_int ?_
  unfold rotI
  have e1 : ((-8 * (k : Int)) % ((32 : Nat) : Int)).toNat = 8 * ((4 - k) % 4) := by
    rcases lt4 hk with rfl | rfl | rfl | rfl <;> decide +kernel
  rw [e1, Int.toNat_natCast]
theorem index_sq (S : Nat → Nat → Nat) {k : Nat} (hk : k < 4) (w : World) : (Instr.index 68 (.agg (sqV S)) (.int .i64 (k : Nat))).run Try.prog w = .ok (.int .u32 ((wd (S k) : Nat) : Int)) w := by
  rcases lt4 hk with rfl | rfl | rfl | rfl <;> kernel_rfl
/-- Behind j whole columns of T, and k products of the next one. -/
def colM (p : Nat → Nat) (S T : Nat → Nat → Nat) (j k c : Nat) : Value := .int .u32 (((if c = j then wd (mixp p S c k) else if c < j then wd (T c) else 0 : Nat)) : Int)
theorem colM_zero (p : Nat → Nat) (S T : Nat → Nat → Nat) (j c : Nat) : colM p S T j 0 c = colQ T j c := by
  unfold colM colQ
  by_cases e : c = j
  · rw [if_pos e, if_neg (by omega), show mixp p S c 0 = (fun _ => 0) from rfl, wd_zero]
  · rw [if_neg e]
theorem colM_all {p : Nat → Nat} {S T : Nat → Nat → Nat} (hT : ∀ c r, T c r = mix p S c r) (j c : Nat) : colM p S T j 4 c = colQ T (j + 1) c := by
  unfold colM colQ
  by_cases e : c = j
  · rw [if_pos e, if_pos (by omega), wd_congr (g := T c) fun r _ => by rw [mixp_all, hT]]
  · rw [if_neg e]
    by_cases e2 : c < j
    · rw [if_pos e2, if_pos (by omega)]
    · rw [if_neg e2, if_neg (by omega)]
theorem colM_set (p : Nat → Nat) (S T : Nat → Nat → Nat) (j k : Nat) (v : Int) (h : v = ((wd (mixp p S j (k + 1)) : Nat) : Int)) (c : Nat) : (if c = j then Value.int .u32 v else colM p S T j k c) = colM p S T j (k + 1) c := by
  unfold colM
  by_cases e : c = j
  · rw [if_pos e, if_pos e, h, e]
  · rw [if_neg e, if_neg e, if_neg e]
set_option maxHeartbeats 2000000 in
theorem sqTimes_any (S : Nat → Nat → Nat) (hS : SqB S) (b o : Nat) (p : Nat → Nat) (w : World) (hT : Tp w b o (prt p)) :
    Calls Try.prog 32 #[.agg (sqV S), .pointer (some ⟨b, o, none⟩)] w fun e w' => e = .returned (.agg (sqV (mix p S))) ∧ Below w.heap.size w w' := by
  obtain ⟨hz, hi⟩ := zero_of_info infoSq
  rw [replicate_tabV] at hz
  obtain ⟨T, hTT⟩ : ∃ T, T = mix p S := ⟨_, rfl⟩
  have hTe : ∀ c r, T c r = mix p S c r := fun c r => by rw [hTT]
  rw [← hTT]
  have HTB := Lib.hid (show SqB T by rw [hTT]; exact SqB.mix _ _)
  have HTE := Lib.hid hTe
  clear hTT hTe
  obtain ⟨s0, hs0⟩ : ∃ c : Array Value, c = sqV S := ⟨_, rfl⟩
  obtain ⟨c0, hc0⟩ : ∃ c0 : Array Value, c0 = tabV 4 fun _ => .int .u32 0 := ⟨_, rfl⟩
  rw [← hc0] at hz
  rw [← hs0]
  have hsz : c0.size = 4 := by rw [hc0, size_tabV]
  have h1 : c0.all (·.oneCell') = true := by rw [hc0]; exact tabV_one fun _ => rfl
  obtain ⟨V1, hV1⟩ : ∃ W, W = w.alloc (.cells s0 68) := ⟨_, rfl⟩
  obtain ⟨V2, hV2⟩ : ∃ W, W = V1.alloc (.cells c0 68) := ⟨_, rfl⟩
  obtain ⟨W0, hW0⟩ : ∃ W, W = V2.alloc (.cells c0 68) := ⟨_, rfl⟩
  have e1 : V1.heap.size = w.heap.size + 1 := by rw [hV1]; simp
  have e2 : V2.heap.size = w.heap.size + 1 + 1 := by rw [hV2, hV1]; simp
  have e0 : W0.heap.size = w.heap.size + 1 + 1 + 1 := by rw [hW0, hV2, hV1]; simp
  have B1 : Below w.heap.size w V1 := by rw [hV1]; exact (Below.refl _ _).alloc (Nat.le_refl _) _
  have B2 : Below V1.heap.size V1 V2 := by rw [hV2]; exact (Below.refl _ _).alloc (Nat.le_refl _) _
  have B3 : Below V2.heap.size V2 W0 := by rw [hW0]; exact (Below.refl _ _).alloc (Nat.le_refl _) _
  have hsc : (storeCells ⟨w.heap.size + 1 + 1, 0, none⟩ c0.toList 0).run Try.prog W0 = .ok () W0 := by
    have h := run_storeCells_new (P := Try.prog) V2 68 c0 c0 (by rw [hi, hsz]) rfl h1
    rw [e2, ← hW0] at h
    exact h
  have HB0 := Lib.hid (show Below w.heap.size w W0 from bt (bt B1 B2) B3)
  have HS := Lib.hid (show Blk W0 w.heap.size 68 4 (sqc S) by
    have h : Blk V1 w.heap.size 68 4 (sqc S) := by rw [hV1, hs0]; exact Blk.made _ _ _ _
    exact (h.on B2 (by omega)).on B3 (by omega))
  have HR := Lib.hid (show Blk W0 (w.heap.size + 1) 68 4 (fun _ => .int .u32 0) by
    have h : Blk V2 (w.heap.size + 1) 68 4 (fun _ => .int .u32 0) := by rw [← e1, hV2, hc0]; exact Blk.made _ _ _ _
    exact h.on B3 (by omega))
  have HO := Lib.hid (show Blk W0 (w.heap.size + 1 + 1) 68 4 (colQ T 0) by
    rw [← e2, hW0, hc0]; exact (Blk.made _ _ _ _).congr fun j hj => (colQ_zero T j).symm)
  have hW0' : W0 = ((w.alloc (.cells s0 68)).alloc (.cells c0 68)).alloc (.cells c0 68) := by rw [hW0, hV2, hV1]
  rw [hW0'] at hsc
  have HW0 := Lib.hid hW0'
  have HSB := Lib.hid hS
  have HTT := Lib.hid hT
  have HS0 := Lib.hid hs0
  clear hV1 hV2 hW0 hW0' e1 e2 e0 B1 B2 B3 hS hT hi hs0 hc0 h1
  go_enter Try.func32, Try.ntmps32
  have HSS := Lib.hid (show (Try.prog.info? 68).map (·.size) = some s0.size by rw [HS0.out, size_sqV]; exact size_sq)
  have HSL := Lib.hid HS.out
  unfold Blk at HSL
  rw [show tabV 4 (sqc S) = s0 from HS0.out.symm, HW0.out] at HSL
  go_wp2_with ((with_reducible show wpList _ _ _ (⟨some 10, _, _, _, _, _⟩ :: _) _ _); refine wpList_load_row rfl 68 (.tmp 2) rfl w.heap.size rfl _ s0 _ _ HSL.out Try.underlying68 rfl HSS.out ?_)
  clear hz hsc hsz HSL
  rw [← HW0.out]
  have HLB := Lib.hid HTT.out.1
  obtain ⟨b0, hb0⟩ : ∃ b, b = w.heap.size := ⟨_, rfl⟩
  rw [← hb0] at HS HR HO HB0 HLB ⊢
  have HBS := Lib.hid hb0
  clear HW0 hb0
  go_loopw [11] (fun q wr => ∃ j : Nat, j ≤ 4 ∧ q = .int .i64 (j : Nat) ∧ Blk wr b0 68 4 (sqc S) ∧ Blk wr (b0 + 1) 68 4 (fun _ => .int .u32 0) ∧ Blk wr (b0 + 1 + 1) 68 4 (colQ T j) ∧ Below b0 w wr) (fun q _ => 4 - (intOf q).toNat)
  case atStart => exact ⟨0, by omega, rfl, HS.out, HR.out, HO.out, HB0.out⟩
  case round =>
    obtain ⟨j, hj, rfl, h1, h2, h3, hBB⟩ := hrel
    have H1 := Lib.hid h1
    have H2 := Lib.hid h2
    have H3 := Lib.hid h3
    have HB := Lib.hid hBB
    clear h1 h2 h3 hBB HS HR HO HB0
    rename World => wr
    by_cases hlt : j < 4
    · have qj : (j : Int) < 4 := by omega
      have qj0 : (0 : Int) ≤ (j : Int) := by omega
      have hix : ∀ w : World, (Instr.index 68 (.agg s0) (.int .i64 (j : Nat))).run Try.prog w = .ok (.int .u32 ((wd (S j) : Nat) : Int)) w := by rw [HS0.out]; exact index_sq S hlt
      go_upto_region 6 with (fail)
      clear hix
      go_loopw [15] (fun q W => ∃ k : Nat, k ≤ 4 ∧ q = .int .i64 (k : Nat) ∧ Blk W b0 68 4 (sqc S) ∧ Blk W (b0 + 1) 68 4 (fun _ => .int .u32 0) ∧ Blk W (b0 + 1 + 1) 68 4 (colM p S T j k) ∧ Below b0 w W) (fun q _ => 4 - (intOf q).toNat)
      case atStart => exact ⟨0, by omega, rfl, H1.out, H2.out, H3.out.congr fun c hc => (colM_zero p S T j c).symm, HB.out⟩
      case round =>
        obtain ⟨k, hk, rfl, h1, h2, h3, hBB⟩ := hrel
        have K1 := Lib.hid h1
        have K2 := Lib.hid h2
        have K3 := Lib.hid h3
        have KB := Lib.hid hBB
        clear h1 h2 h3 hBB
        rename World => W
        by_cases hlk : k < 4
        · have hco := K3.out.cell hlt
          unfold colM at hco
          rw [if_pos rfl] at hco
          have hfr := K3.out.free j
          have hTB : Tp W b o (prt p) := ⟨by have := KB.out.size; have := HTT.out.1; omega, fun z hz => (KB.out.cell (p := ⟨b, o + z, none⟩) HLB.out).trans (HTT.out.2 z hz)⟩
          have hNX := mixp_next p S j hlk
          have hP := wd_lt (mixp_lt p S j k)
          have hzz := HSB.out j k
          have hY : prt p (S j k) < 4294967296 := wd_lt fun _ => gm_lt _ _
          have HROW := Lib.hid (row_N (S j) (HSB.out _) k hlk)
          have HTU := Lib.hid (turn32_N (prt p (S j k)) k hY hlk)
          have hwr : IntKind.i64.wrap (-8 * (k : Int)) = -8 * (k : Int) := IntWalk.i64_in _ (by omega)
          rw [← hwr] at HTU
          clear hwr
          have hcb := hTB.2 (S j k) hzz
          have hR : rot 32 (prt p (S j k)) (8 * ((4 - k) % 4)) < 4294967296 := rot_lt (k := 32) hY
          have hwl := wd_lt (HSB.out j)
          obtain ⟨u, hu⟩ : ∃ u, u = wd (mixp p S j k) := ⟨_, rfl⟩
          obtain ⟨v, hv⟩ : ∃ v, v = rot 32 (prt p (S j k)) (8 * ((4 - k) % 4)) := ⟨_, rfl⟩
          rw [← hu] at hco hP hNX
          rw [← hv] at hR hNX HTU
          obtain ⟨y, hy⟩ : ∃ y, y = prt p (S j k) := ⟨_, rfl⟩
          rw [← hy] at hY HTU hcb
          obtain ⟨X, hX⟩ : ∃ X, X = wd (S j) := ⟨_, rfl⟩
          rw [← hX] at HROW hwl ⊢
          obtain ⟨z, hz⟩ : ∃ z, z = S j k := ⟨_, rfl⟩
          rw [← hz] at hzz HROW hcb
          have hxr := u32_xor_nat u v hP hR
          rw [hNX] at hxr
          have HXR := Lib.hid hxr
          have qk : (k : Int) < 4 := by omega
          have qk0 : (0 : Int) ≤ (k : Int) := by omega
          have qz : (z : Int) < 256 := by omega
          have qz0 : (0 : Int) ≤ (z : Int) := by omega
          clear hTB hNX hu hv hy hX hz hxr
          go_wp2_with fail
          go_region_with (first
            | (go_at_call 52; refine (HROW.out _).mono ?_; rintro e w' ⟨rfl, rfl⟩)
            | (go_at_call 49; refine (HTU.out _).mono ?_; rintro e w' ⟨rfl, q, rfl⟩))
          all_goals
            go_wp2
            go_roundw
            case rel =>
              refine ⟨k + 1, by omega, by go_num, (K1.out.drewN _).other ⟨b0 + 1 + 1, j, none⟩ _ (by show b0 ≠ b0 + 1 + 1; omega), (K2.out.drewN _).other ⟨b0 + 1 + 1, j, none⟩ _ (by show b0 + 1 ≠ b0 + 1 + 1; omega), ((K3.out.drewN _).set hlt _).congr fun c hc => colM_set p S T j k _ HXR.out c, (below_drewN KB.out _).setCell (p := ⟨b0 + 1 + 1, j, none⟩) (by show b0 ≤ b0 + 1 + 1; omega) _⟩
            case measure => simp [intOf]; omega
        · obtain rfl : k = 4 := by omega
          have K4 := Lib.hid (K3.out.congr fun c hc => colM_all HTE.out j c)
          go_wp2
          go_roundw
          case rel => exact ⟨j + 1, by omega, by go_num, K1.out, K2.out, K4.out, KB.out⟩
          case measure => simp [intOf]; omega
    · obtain rfl : j = 4 := by omega
      have HK3 := Lib.hid (H3.out.congr (h := sqc T) fun c hc => colQ_all T hc)
      have HS3 := Lib.hid (show (sqV T).all (·.oneCell') = true from tabV_one fun _ => rfl)
      have HS1 := Lib.hid (show (Try.prog.info? 68).map (·.size) = some (sqV T).size by rw [size_sqV]; exact size_sq)
      have HS2 := Lib.hid (show (tabV 4 fun _ => (Value.int .u32 0)).size = (sqV T).size by rw [size_tabV, size_sqV])
      have HR3 := Lib.hid (H2.out.row (sqc T))
      have HBF := Lib.hid (show Below w.heap.size w (wr.setRow (b0 + 1) (sqV T)) from below_setRow (by rw [← HBS.out]; exact HB.out) (by rw [← HBS.out]; omega) _)
      obtain ⟨cs, hcs⟩ : ∃ cs, cs = sqV T := ⟨_, rfl⟩
      unfold Blk at HK3 HR3
      rw [show tabV 4 (sqc T) = cs from hcs.symm] at HK3 HR3
      rw [← hcs] at HBF HS1 HS2 HS3
      have HCS := Lib.hid hcs
      clear hcs
      go_wp2_with (first
        | ((with_reducible show wpList _ _ _ (⟨some 35, _, _, _, _, _⟩ :: _) _ _); refine wpList_load_row rfl 68 (.tmp 5) rfl (b0 + 1 + 1) rfl _ cs _ _ HK3.out Try.underlying68 rfl HS1.out ?_)
        | ((with_reducible show wpList _ _ _ (⟨none, _, _, _, _, _⟩ :: _) _ _); refine wpList_store_row rfl 68 (.tmp 4) (.tmp 35) rfl (b0 + 1) cs rfl rfl _ _ H2.out HS1.out HS2.out HS3.out ?_))
      refine bodyPost_ret (v := .agg cs) (results_cell_row rfl _ _ (b0 + 1) _ cs _ _ rfl HR3.out Try.underlying68 rfl HS1.out) rfl ⟨by rw [HCS.out], HBF.out⟩
end Go.Proofs.Ytpfhfnhbholboaa
