/- The contract of hash.spread: a block's words, one for each round. -/
import Derived.Test.YtmcoakjbfgfgpaaDoorJt
import Derived.ChangeAlike
import Derived.BigRegion
import Derived.Deep.WholeRow
import Derived.StillTailTactics
namespace Go.Proofs.YtmcoakjbfgfgpaaDoor
open Go.ChangeShapes Go.WideShapes Go.ChangeAt Go.RowKit
set_option linter.unusedVariables false
set_option maxRecDepth 100000

set_option maxHeartbeats 1000000 in
theorem spread_any (g o : Nat) (B : List Int) (w : World) (hB : AllB B) (hl : B.length = 64) (hc : ∀ i, i < 64 → w.cell? ⟨g, o + i, none⟩ = some (.int .u8 (B.getD i 0))) (hg : g < w.heap.size) :
    Calls Tryd.prog 18 #[.pointer (some ⟨g, o, none⟩)] w fun e w' => e = .returned (.agg (tabV 64 (gV (ws (mF B 0))))) ∧ Below w.heap.size w w' := by
  have HBB := Lib.hid hB
  have HCC := Lib.hid hc
  have HG := Lib.hid hg
  have HBL := Lib.hid hl
  have HML := Lib.hid (show ∀ t, mF B 0 t < 4294967296 from fun t => gw_lt hB _)
  obtain ⟨m, hm⟩ : ∃ m, m = mF B 0 := ⟨_, rfl⟩
  rw [← hm] at HML ⊢
  have HM := Lib.hid hm
  clear hm hB hc hg hl
  obtain ⟨hz, hi⟩ := zero_of_info infoK
  rw [replicate_tabV] at hz
  obtain ⟨c0, hc0⟩ : ∃ c0 : Array Value, c0 = tabV 64 fun _ => .int .u32 0 := ⟨_, rfl⟩
  rw [← hc0] at hz
  have hsz : c0.size = 64 := by rw [hc0, size_tabV]
  have h1 : c0.all (·.oneCell') = true := by rw [hc0]; exact tabV_one fun _ => rfl
  obtain ⟨W0, hW0⟩ : ∃ W, W = w.alloc (.cells c0 38) := ⟨_, rfl⟩
  have hs0 : W0.heap.size = w.heap.size + 1 := by rw [hW0]; simp
  have HR0 := Lib.hid (show Blk W0 w.heap.size 38 64 (fun _ => .int .u32 0) by rw [hW0, hc0]; exact Blk.made _ _ _ _)
  have HB0 := Lib.hid (show Below w.heap.size w W0 by rw [hW0]; exact (Below.refl _ _).alloc (Nat.le_refl _) _)
  have hsc : (storeCells ⟨w.heap.size + 1, 0, none⟩ c0.toList 0).run Tryd.prog (W0.alloc (.cells c0 38)) = .ok () (W0.alloc (.cells c0 38)) := by
    have h := run_storeCells_new (P := Tryd.prog) W0 38 c0 c0 (by rw [hi, hsz]) rfl h1
    rw [hs0] at h
    exact h
  rw [hW0] at hsc
  have HC0 := Lib.hid hc0
  have HW0 := Lib.hid hW0
  have HS0 := Lib.hid hs0
  clear hc0 hi h1 hW0 hs0
  go_enter Tryd.func18, Tryd.ntmps18
  go_wp2_with fail
  clear hsc hz hsz
  rw [← HW0.out, ← HS0.out]
  obtain ⟨b2, hb2⟩ : ∃ b, b = w.heap.size := ⟨_, rfl⟩
  obtain ⟨b3, hb3⟩ : ∃ b, b = W0.heap.size := ⟨_, rfl⟩
  have HBK := Lib.hid (show Blk (W0.alloc (.cells c0 38)) b3 38 64 (fV (ws m) 0) by
    rw [HC0.out, hb3]
    exact (Blk.made _ _ _ _).congr fun j hj => (fV_zero (ws m) j).symm)
  rw [← hb2] at HR0
  have HBE := Lib.hid (show Below b3 W0 (W0.alloc (.cells c0 38)) by rw [hb3]; exact (Below.refl _ _).alloc (Nat.le_refl _) _)
  have HLT := Lib.hid (show b2 < b3 by rw [hb2, hb3, HS0.out]; omega)
  have HLE := Lib.hid (show W0.heap.size ≤ b3 by rw [hb3]; exact Nat.le_refl _)
  have HGB := Lib.hid (show g < b3 by rw [hb3, HS0.out]; have := HG.out; omega)
  have HC1 := Lib.hid (show ∀ i, i < 64 → W0.cell? ⟨g, o + i, none⟩ = some (.int .u8 (B.getD i 0)) from fun i hi => (World.cell?_of_block (w := w) (a := ⟨g, o + i, none⟩) (HB0.out.block g HG.out)).trans (HCC.out i hi))
  rw [← hb2, ← hb3]
  have HB2 := Lib.hid hb2
  clear hb2 hb3 HC0 HS0 HW0 HCC
  go_loopw [9] (fun s wr => ∃ i : Nat, i ≤ 16 ∧ s = .int .i64 (i : Nat) ∧ Blk wr b3 38 64 (fV (ws m) i) ∧ Below b3 W0 wr) (fun s _ => 16 - (intOf s).toNat)
  case atStart => exact ⟨0, by omega, rfl, HBK.out, HBE.out⟩
  case round =>
    obtain ⟨i, hi, rfl, hK, hB⟩ := hrel
    rename World => V
    have HK := Lib.hid hK
    have HB := Lib.hid hB
    clear hK hB HBK HBE
    by_cases hlt : i < 16
    · have qi : (i : Int) < 16 := by omega
      have qi0 : (0 : Int) ≤ (i : Int) := by omega
      have hlen : (B.drop (4 * i)).length = 64 - 4 * i := by rw [List.length_drop, HBL.out]
      have HGET := Lib.hid (get_word (some ⟨g, o + 4 * i, none⟩) (64 - 4 * i) (64 - 4 * i) (B.drop (4 * i)) V hlen (fun x hx => HBB.out x (List.mem_of_mem_drop hx)) (fun _ => ⟨g, o + 4 * i, rfl, (by have := HGB.out; have := HB.out.size; have := HK.out.lt; omega), fun j hj => by
        rw [Nat.add_assoc, show (B.drop (4 * i)).getD j 0 = B.getD (4 * i + j) 0 by simp [List.getD_eq_getElem?_getD]]
        exact (World.cell?_of_block (w := W0) (a := ⟨g, o + (4 * i + j), none⟩) (HB.out.block g HGB.out)).trans (HC1.out _ (by omega))⟩) (by omega) (by omega))
      have e1 : gw (B.drop (4 * i)) 0 = ws m i := by
        rw [ws_first m hlt, HM.out]
        unfold mF gw
        simp only [List.getD_eq_getElem?_getD, List.getElem?_drop, Nat.zero_add, Nat.add_zero, Nat.add_assoc]
      rw [e1] at HGET
      have hf1 := HK.out.free i
      have HLT2 := Lib.hid hlt
      obtain ⟨z, hz⟩ : ∃ z, z = ws m i := ⟨_, rfl⟩
      rw [← hz] at HGET
      have HZ := Lib.hid hz
      have hcell := HK.out.cell (j := i) (by omega)
      have hsl : ∀ U : World, (Instr.sliceAt 32 (.pointer (some ⟨g, o, none⟩)) (some (.int .i64 (4 * (i : Int)))) none none).run Tryd.prog U = .ok (.slice (some ⟨g, o + 4 * i, none⟩) (64 - 4 * i) (64 - 4 * i)) U := fun U => slice64 U g o (4 * i) .i64 _ (by omega) (by omega)
      clear hlen e1 hz hlt
      go_wp2_with (go_at_call 23; go_loud ((with_reducible refine HGET.out.mono ?_); rintro e w' ⟨rfl, rfl⟩))
      go_roundw
      case rel => exact ⟨i + 1, by have := HLT2.out; omega, by go_num, (HK.out.set (by have := HLT2.out; omega) _).congr fun j _ => by rw [HZ.out]; exact fV_set (ws m) i j, HB.out.setCell (p := ⟨b3, i, none⟩) (Nat.le_refl _) _⟩
      case measure => simp [intOf] <;> omega
    · obtain rfl : i = 16 := by omega
      have HK16 := Lib.hid (show Blk V b3 38 64 (fV (ws m) 16) from HK.out)
      have HB16 := Lib.hid HB.out
      clear HK HB hi hlt
      go_wp2_with fail
      go_loopw [5] (fun s R => ∃ i : Nat, 16 ≤ i ∧ i ≤ 64 ∧ s = .int .i64 (i : Nat) ∧ Blk R b3 38 64 (fV (ws m) i) ∧ Below b3 W0 R) (fun s _ => 64 - (intOf s).toNat)
      case atStart => exact ⟨16, by omega, by omega, rfl, HK16.out, HB16.out⟩
      case round =>
        obtain ⟨i, h16, hi, rfl, hK, hB⟩ := hrel
        rename World => R
        have HK := Lib.hid hK
        have HB := Lib.hid hB
        clear hK hB HK16 HB16
        by_cases hlt : i < 64
        · have hnx := ws_next m (t := i) (by omega)
          have hcell (j : Nat) (hj : j < i) : R.cell? ⟨b3, j, none⟩ = some (.int .u32 ((ws m j : Nat) : Int)) := by
            have h := HK.out.cell (j := j) (by omega)
            unfold fV at h
            rw [if_pos hj] at h
            exact h
          have hcx := hcell (i - 15) (by omega)
          have hcy := hcell (i - 2) (by omega)
          have hcu := hcell (i - 16) (by omega)
          have hcv := hcell (i - 7) (by omega)
          have lx := ws_lt HML.out (i - 15)
          have ly := ws_lt HML.out (i - 2)
          have hfr := HK.out.free i
          obtain ⟨x, ex⟩ : ∃ x, x = ws m (i - 15) := ⟨_, rfl⟩
          obtain ⟨y, ey⟩ : ∃ x, x = ws m (i - 2) := ⟨_, rfl⟩
          obtain ⟨u, eu⟩ : ∃ x, x = ws m (i - 16) := ⟨_, rfl⟩
          obtain ⟨v, ev⟩ : ∃ x, x = ws m (i - 7) := ⟨_, rfl⟩
          rw [← ex] at hcx lx hnx
          rw [← ey] at hcy ly hnx
          rw [← eu] at hcu hnx
          rw [← ev] at hcv hnx
          obtain ⟨k15, f15⟩ : ∃ k, k = i - 15 := ⟨_, rfl⟩
          obtain ⟨k2, f2⟩ : ∃ k, k = i - 2 := ⟨_, rfl⟩
          obtain ⟨k16, f16⟩ : ∃ k, k = i - 16 := ⟨_, rfl⟩
          obtain ⟨k7, f7⟩ : ∃ k, k = i - 7 := ⟨_, rfl⟩
          rw [← f15] at hcx
          rw [← f2] at hcy
          rw [← f16] at hcu
          rw [← f7] at hcv
          have q15 : (i : Int) - 15 = (k15 : Int) := by omega
          have q2 : (i : Int) - 2 = (k2 : Int) := by omega
          have q16 : (i : Int) - 16 = (k16 : Int) := by omega
          have q7 : (i : Int) - 7 = (k7 : Int) := by omega
          have b15 : (k15 : Int) < 64 := by omega
          have b2' : (k2 : Int) < 64 := by omega
          have b16 : (k16 : Int) < 64 := by omega
          have b7 : (k7 : Int) < 64 := by omega
          have n15 : (0 : Int) ≤ (k15 : Int) := by omega
          have n2 : (0 : Int) ≤ (k2 : Int) := by omega
          have n16 : (0 : Int) ≤ (k16 : Int) := by omega
          have n7 : (0 : Int) ≤ (k7 : Int) := by omega
          have qi : (i : Int) < 64 := by omega
          have qi0 : (16 : Int) ≤ (i : Int) := by omega
          have HNE := Lib.hid (show k16 ≠ i ∧ k7 ≠ i by omega)
          obtain ⟨p1, g1⟩ : ∃ p, p = rr 7 x := ⟨_, rfl⟩
          obtain ⟨p2, g2⟩ : ∃ p, p = rr 18 x := ⟨_, rfl⟩
          obtain ⟨p3, g3⟩ : ∃ p, p = x / 8 := ⟨_, rfl⟩
          obtain ⟨p4, g4⟩ : ∃ p, p = p1 ^^^ p2 := ⟨_, rfl⟩
          obtain ⟨p5, g5⟩ : ∃ p, p = p4 ^^^ p3 := ⟨_, rfl⟩
          obtain ⟨r1, j1⟩ : ∃ p, p = rr 17 y := ⟨_, rfl⟩
          obtain ⟨r2, j2⟩ : ∃ p, p = rr 19 y := ⟨_, rfl⟩
          obtain ⟨r3, j3⟩ : ∃ p, p = y / 1024 := ⟨_, rfl⟩
          obtain ⟨r4, j4⟩ : ∃ p, p = r1 ^^^ r2 := ⟨_, rfl⟩
          obtain ⟨r5, j5⟩ : ∃ p, p = r4 ^^^ r3 := ⟨_, rfl⟩
          have l1 : p1 < 4294967296 := by rw [g1]; exact rr_lt lx _
          have l2 : p2 < 4294967296 := by rw [g2]; exact rr_lt lx _
          have l3 : p3 < 4294967296 := by omega
          have l4 : p4 < 4294967296 := by rw [g4]; exact xor32 l1 l2
          have m1 : r1 < 4294967296 := by rw [j1]; exact rr_lt ly _
          have m2 : r2 < 4294967296 := by rw [j2]; exact rr_lt ly _
          have m3 : r3 < 4294967296 := by omega
          have m4 : r4 < 4294967296 := by rw [j4]; exact xor32 m1 m2
          have T7 := Lib.hid (show ∀ W : World, Calls Tryd.prog 24 #[.int .u32 (x : Nat), .int .i64 (-7)] W fun e w' => e = .returned (.int .u32 ((p1 : Nat) : Int)) ∧ ∃ j, w' = W.drewN j from fun W => by rw [g1]; exact turn_neg x 7 (-7) (by decide) (by omega) (by omega) lx W)
          have T18 := Lib.hid (show ∀ W : World, Calls Tryd.prog 24 #[.int .u32 (x : Nat), .int .i64 (-18)] W fun e w' => e = .returned (.int .u32 ((p2 : Nat) : Int)) ∧ ∃ j, w' = W.drewN j from fun W => by rw [g2]; exact turn_neg x 18 (-18) (by decide) (by omega) (by omega) lx W)
          have T17 := Lib.hid (show ∀ W : World, Calls Tryd.prog 24 #[.int .u32 (y : Nat), .int .i64 (-17)] W fun e w' => e = .returned (.int .u32 ((r1 : Nat) : Int)) ∧ ∃ j, w' = W.drewN j from fun W => by rw [j1]; exact turn_neg y 17 (-17) (by decide) (by omega) (by omega) ly W)
          have T19 := Lib.hid (show ∀ W : World, Calls Tryd.prog 24 #[.int .u32 (y : Nat), .int .i64 (-19)] W fun e w' => e = .returned (.int .u32 ((r2 : Nat) : Int)) ∧ ∃ j, w' = W.drewN j from fun W => by rw [j2]; exact turn_neg y 19 (-19) (by decide) (by omega) (by omega) ly W)
          obtain ⟨a1, k1⟩ : ∃ a, a = ad u p5 := ⟨_, rfl⟩
          obtain ⟨a2, k2'⟩ : ∃ a, a = ad a1 v := ⟨_, rfl⟩
          obtain ⟨a3, k3⟩ : ∃ a, a = ad a2 r5 := ⟨_, rfl⟩
          have HA3 := Lib.hid (show a3 = ws m i by
            rw [hnx, k3, k2', k1, g5, g4, g3, g2, g1, j5, j4, j3, j2, j1]
            exact ad_perm _ _ _ _)
          have HLT3 := Lib.hid hlt
          have Zex := Lib.hid ex
          have Zey := Lib.hid ey
          have Zeu := Lib.hid eu
          have Zev := Lib.hid ev
          have Zf15 := Lib.hid f15
          have Zf2 := Lib.hid f2
          have Zf16 := Lib.hid f16
          have Zf7 := Lib.hid f7
          have Zg1 := Lib.hid g1
          have Zg2 := Lib.hid g2
          have Zg3 := Lib.hid g3
          have Zg4 := Lib.hid g4
          have Zg5 := Lib.hid g5
          have Zj1 := Lib.hid j1
          have Zj2 := Lib.hid j2
          have Zj3 := Lib.hid j3
          have Zj4 := Lib.hid j4
          have Zj5 := Lib.hid j5
          have Zk1 := Lib.hid k1
          have Zk2p := Lib.hid k2'
          have Zk3 := Lib.hid k3
          have Zlx := Lib.hid lx
          have Zly := Lib.hid ly
          have Zl1 := Lib.hid l1
          have Zl2 := Lib.hid l2
          have Zl3 := Lib.hid l3
          have Zl4 := Lib.hid l4
          have Zm1 := Lib.hid m1
          have Zm2 := Lib.hid m2
          have Zm3 := Lib.hid m3
          have Zm4 := Lib.hid m4
          clear ex ey eu ev f15 f2 f16 f7 g1 g2 g3 g4 g5 j1 j2 j3 j4 j5 k1 k2' k3 lx ly l1 l2 l3 l4 m1 m2 m3 m4 hnx hcell hlt
          go_upto_region 10 with fail
          go_quiet (fail)
          clear hcx hcy q15 q2 b15 b2' n15 n2
          have g4 := Zg4.out
          have g5 := Zg5.out
          have g3 := Zg3.out
          have j4 := Zj4.out
          have j5 := Zj5.out
          have j3 := Zj3.out
          have l1 := Zl1.out
          have l2 := Zl2.out
          have l3 := Zl3.out
          have l4 := Zl4.out
          have m1 := Zm1.out
          have m2 := Zm2.out
          have m3 := Zm3.out
          have m4 := Zm4.out
          have s1 : bits .xor .u32 (p1 : Int) (p2 : Int) = (p4 : Int) := by rw [g4]; exact u32_xor_nat _ _ l1 l2
          have s2 : bits .xor .u32 (p4 : Int) (p3 : Int) = (p5 : Int) := by rw [g5]; exact u32_xor_nat _ _ l4 l3
          have s3 : (x : Int) / 8 = (p3 : Int) := by omega
          have t1 : bits .xor .u32 (r1 : Int) (r2 : Int) = (r4 : Int) := by rw [j4]; exact u32_xor_nat _ _ m1 m2
          have t2 : bits .xor .u32 (r4 : Int) (r3 : Int) = (r5 : Int) := by rw [j5]; exact u32_xor_nat _ _ m4 m3
          have t3 : (y : Int) / 1024 = (r3 : Int) := by omega
          clear g4 g5 g3 j4 j5 j3 l1 l2 l3 l4 m1 m2 m3 m4
          go_upto_region 13 with (first
            | (go_at_call 24; (with_reducible refine (T7.out _).mono ?_); rintro e w' ⟨rfl, n1, rfl⟩)
            | (go_at_call 24; (with_reducible refine (T18.out _).mono ?_); rintro e w' ⟨rfl, n2, rfl⟩)
            | (go_at_call 24; (with_reducible refine (T17.out _).mono ?_); rintro e w' ⟨rfl, n3, rfl⟩)
            | (go_at_call 24; (with_reducible refine (T19.out _).mono ?_); rintro e w' ⟨rfl, n4, rfl⟩))
          clear s1 s2 s3 t1 t2 t3
          have k1 := Zk1.out
          have k2' := Zk2p.out
          have k3 := Zk3.out
          have hcu : (R.drewN (nq + n1 + n2 + n3 + n4)).cell? ⟨b3, k16, none⟩ = some (.int .u32 ((u : Nat) : Int)) := hcu
          have hcv : (R.drewN (nq + n1 + n2 + n3 + n4)).cell? ⟨b3, k7, none⟩ = some (.int .u32 ((v : Nat) : Int)) := hcv
          have hfr : (R.drewN (nq + n1 + n2 + n3 + n4)).frozen? ⟨b3, i, none⟩ = false := hfr
          have HKR := Lib.hid (HK.out.drewN (nq + n1 + n2 + n3 + n4))
          have HBR := Lib.hid (below_drewN HB.out (nq + n1 + n2 + n3 + n4))
          generalize R.drewN (nq + n1 + n2 + n3 + n4) = W2 at hcu hcv hfr HKR HBR ⊢
          have hce := HKR.out.cell (j := i) HLT3.out
          have w16 : IntKind.i64.wrap (k16 : Int) = (k16 : Int) := by rw [IntKind.wrap_i64]; omega
          have w7 : IntKind.i64.wrap (k7 : Int) = (k7 : Int) := by rw [IntKind.wrap_i64]; omega
          have y1 : IntKind.u32.wrap ((u : Int) + (p5 : Int)) = (a1 : Int) := by rw [IntKind.wrap_u32', k1]; unfold ad; omega
          have y2 : IntKind.u32.wrap ((a1 : Int) + (v : Int)) = (a2 : Int) := by rw [IntKind.wrap_u32', k2']; unfold ad; omega
          have y3 : IntKind.u32.wrap ((a2 : Int) + (r5 : Int)) = (a3 : Int) := by rw [IntKind.wrap_u32', k3]; unfold ad; omega
          clear k1 k2' k3
          go_still_tail 15, (by kernel_rfl)
          go_wp2
          go_roundw
          case rel => first
            | exact ⟨i + 1, by have := HLT3.out; omega, by have := HLT3.out; omega, by go_num, (Blk.set (w := W2) HKR.out HLT3.out _).congr fun j _ => by rw [HA3.out]; exact fV_set (ws m) i j, by first | exact (HBR.out.setCell (p := ⟨b3, i, none⟩) (Nat.le_refl _) _).drew | exact HBR.out.drew.setCell (p := ⟨b3, i, none⟩) (Nat.le_refl _) _⟩
            | ((repeat apply Exists.intro); exact ⟨⟨i + 1, by have := HLT3.out; omega, by have := HLT3.out; omega, by go_num, (Blk.set (w := W2) HKR.out HLT3.out _).congr fun j _ => by rw [HA3.out]; exact fV_set (ws m) i j, by first | exact (HBR.out.setCell (p := ⟨b3, i, none⟩) (Nat.le_refl _) _).drew | exact HBR.out.drew.setCell (p := ⟨b3, i, none⟩) (Nat.le_refl _) _⟩, rfl⟩)
          case measure => simp [intOf] <;> omega
        · obtain rfl : i = 64 := by omega
          have HK3 := Lib.hid (HK.out.congr (h := gV (ws m)) fun j hj => fV_all (ws m) hj)
          have HR2 := Lib.hid (HR0.out.on HB.out HLT.out)
          have hone : (tabV 64 (gV (ws m))).all (·.oneCell') = true := tabV_one fun _ => rfl
          have hsi : (Tryd.prog.info? 38).map (·.size) = some (tabV 64 (gV (ws m))).size := by rw [size_tabV]; exact size_K
          have hso : (tabV 64 fun _ => (Value.int .u32 0)).size = (tabV 64 (gV (ws m))).size := by rw [size_tabV, size_tabV]
          have HR3 := Lib.hid (HR2.out.row (gV (ws m)))
          have HBF := Lib.hid (show Below w.heap.size w (R.setRow b2 (tabV 64 (gV (ws m)))) from by
            have h1 : Below w.heap.size w R := HB0.out.trans (HB.out.mono (by have := HLT.out; rw [HB2.out] at this; omega))
            exact below_setRow h1 (by rw [HB2.out]; exact Nat.le_refl _) _)
          obtain ⟨cs, hcs⟩ : ∃ cs, cs = tabV 64 (gV (ws m)) := ⟨_, rfl⟩
          unfold Blk at HK3 HR3
          rw [← hcs] at HK3 HR3 HBF hone hsi hso
          have HCS := Lib.hid hcs
          have HS1 := Lib.hid hsi
          have HS2 := Lib.hid hso
          have HS3 := Lib.hid hone
          clear hcs hsi hso hone
          go_wp2_with (first
            | ((with_reducible show wpList _ _ _ (⟨some 67, _, _, _, _, _⟩ :: _) _ _); refine wpList_load_row rfl 38 (.tmp 3) rfl b3 rfl _ cs _ _ HK3.out Tryd.underlying38 rfl HS1.out ?_)
            | ((with_reducible show wpList _ _ _ (⟨none, _, _, _, _, _⟩ :: _) _ _); refine wpList_store_row rfl 38 (.tmp 2) (.tmp 67) rfl b2 cs rfl rfl _ _ HR2.out HS1.out HS2.out HS3.out ?_))
          refine bodyPost_ret (v := .agg cs) (results_cell_row rfl _ _ b2 _ cs _ _ rfl HR3.out Tryd.underlying38 rfl HS1.out) rfl ⟨by rw [HCS.out], HBF.out⟩
end Go.Proofs.YtmcoakjbfgfgpaaDoor
