/- The contract of hash.state.mixed: one block more. -/
import Derived.Test.YtmcoakjbfgfgpaaDoorJs
import Derived.Test.YtmcoakjbfgfgpaaDoorJk
import Derived.Deep.DrawnRows
namespace Go.Proofs.YtmcoakjbfgfgpaaDoor
open Go.ChangeShapes Go.WideShapes Go.ChangeAt Go.RowKit
set_option linter.unusedVariables false
set_option maxRecDepth 100000

set_option maxHeartbeats 3000000 in
theorem mixed_any (h : Nat → Nat) (g o : Nat) (B : List Int) (w : World) (hh : ∀ i, h i < 4294967296) (hB : AllB B) (hl : B.length = 64) (hc : ∀ i, i < 64 → w.cell? ⟨g, o + i, none⟩ = some (.int .u8 (B.getD i 0))) (hg : g < w.heap.size) (hG : Gl w) :
    Calls Tryd.prog 14 #[.agg (tabV 8 (gV h)), .pointer (some ⟨g, o, none⟩)] w fun e w' => e = .returned (.agg (tabV 8 (gV (blkF h (mF B 0))))) ∧ Below w.heap.size w w' := by
  have HML := Lib.hid (show ∀ t, mF B 0 t < 4294967296 from fun t => gw_lt hB _)
  have HSP := Lib.hid (show ∀ W : World, Below w.heap.size w W → Calls Tryd.prog 18 #[.pointer (some ⟨g, o, none⟩)] W fun e w' => e = .returned (.agg (tabV 64 (gV (ws (mF B 0))))) ∧ Below W.heap.size W w' from fun W hb =>
    spread_any g o B W hB hl (fun i hi => (World.cell?_of_block (w := w) (a := ⟨g, o + i, none⟩) (hb.block g hg)).trans (hc i hi)) (Nat.lt_of_lt_of_le hg hb.size))
  obtain ⟨m, hm⟩ : ∃ m, m = mF B 0 := ⟨_, rfl⟩
  rw [← hm] at HML HSP ⊢
  have HWS := Lib.hid (fun t => ws_lt HML.out t)
  have HHB := Lib.hid hh
  have HGL := Lib.hid hG
  clear hm hB hl hc hg hh hG HML
  obtain ⟨cW, hcW⟩ : ∃ c, c = tabV 64 (gV (ws m)) := ⟨_, rfl⟩
  rw [← hcW] at HSP
  have HCW := Lib.hid hcW
  obtain ⟨hz, hi⟩ := zero_of_info infoS
  rw [replicate_tabV] at hz
  obtain ⟨c0, hc0⟩ : ∃ c0 : Array Value, c0 = tabV 8 fun _ => .int .u32 0 := ⟨_, rfl⟩
  rw [← hc0] at hz
  obtain ⟨s0, hs0⟩ : ∃ s0 : Array Value, s0 = tabV 8 (gV h) := ⟨_, rfl⟩
  rw [← hs0]
  obtain ⟨V1, hV1⟩ : ∃ W, W = w.alloc (.cells s0 31) := ⟨_, rfl⟩
  obtain ⟨W0, hW0⟩ : ∃ W, W = V1.alloc (.cells c0 31) := ⟨_, rfl⟩
  have e1 : V1.heap.size = w.heap.size + 1 := by rw [hV1]; simp
  have B1 : Below w.heap.size w V1 := by rw [hV1]; exact (Below.refl _ _).alloc (Nat.le_refl _) _
  have B2 : Below V1.heap.size V1 W0 := by rw [hW0]; exact (Below.refl _ _).alloc (Nat.le_refl _) _
  have HB0 := Lib.hid (show Below w.heap.size w W0 from bt B1 B2)
  have HS := Lib.hid (show Blk W0 w.heap.size 31 8 (gV h) by
    have k : Blk V1 w.heap.size 31 8 (gV h) := by rw [hV1, hs0]; exact Blk.made _ _ _ _
    exact k.on B2 (by omega))
  have HR := Lib.hid (show Blk W0 (w.heap.size + 1) 31 8 (fun _ => .int .u32 0) by rw [← e1, hW0, hc0]; exact Blk.made _ _ _ _)
  have HW0 := Lib.hid (show W0 = (w.alloc (.cells s0 31)).alloc (.cells c0 31) by rw [hW0, hV1])
  clear hV1 hW0 e1 B1 B2 hi hs0 hc0 hcW
  go_enter Tryd.func14, Tryd.ntmps14
  go_upto_region 1 with fail
  clear hz
  rw [← HW0.out]
  obtain ⟨b0, hb0⟩ : ∃ b, b = w.heap.size := ⟨_, rfl⟩
  rw [← hb0] at HS HR HB0 HSP ⊢
  have HBS := Lib.hid hb0
  clear HW0 hb0
  have hcv0 := HS.out.cell (j := 0) (by omega)
  have hcv1 := HS.out.cell (j := 1) (by omega)
  have hcv2 := HS.out.cell (j := 2) (by omega)
  have hcv3 := HS.out.cell (j := 3) (by omega)
  have hcv4 := HS.out.cell (j := 4) (by omega)
  have hcv5 := HS.out.cell (j := 5) (by omega)
  have hcv6 := HS.out.cell (j := 6) (by omega)
  have hcv7 := HS.out.cell (j := 7) (by omega)
  unfold gV at hcv0 hcv1 hcv2 hcv3 hcv4 hcv5 hcv6 hcv7
  obtain ⟨h0, n0⟩ : ∃ x, x = h 0 := ⟨_, rfl⟩
  rw [← n0] at hcv0
  have N0 := Lib.hid n0
  clear n0
  obtain ⟨h1, n1⟩ : ∃ x, x = h 1 := ⟨_, rfl⟩
  rw [← n1] at hcv1
  have N1 := Lib.hid n1
  clear n1
  obtain ⟨h2, n2⟩ : ∃ x, x = h 2 := ⟨_, rfl⟩
  rw [← n2] at hcv2
  have N2 := Lib.hid n2
  clear n2
  obtain ⟨h3, n3⟩ : ∃ x, x = h 3 := ⟨_, rfl⟩
  rw [← n3] at hcv3
  have N3 := Lib.hid n3
  clear n3
  obtain ⟨h4, n4⟩ : ∃ x, x = h 4 := ⟨_, rfl⟩
  rw [← n4] at hcv4
  have N4 := Lib.hid n4
  clear n4
  obtain ⟨h5, n5⟩ : ∃ x, x = h 5 := ⟨_, rfl⟩
  rw [← n5] at hcv5
  have N5 := Lib.hid n5
  clear n5
  obtain ⟨h6, n6⟩ : ∃ x, x = h 6 := ⟨_, rfl⟩
  rw [← n6] at hcv6
  have N6 := Lib.hid n6
  clear n6
  obtain ⟨h7, n7⟩ : ∃ x, x = h 7 := ⟨_, rfl⟩
  rw [← n7] at hcv7
  have N7 := Lib.hid n7
  clear n7
  go_quiet (fail)
  clear hcv0 hcv1 hcv2 hcv3 hcv4 hcv5 hcv6 hcv7
  go_upto_region 3 with (go_at_call 18; go_loud ((with_reducible refine (HSP.out _ (below_drewN HB0.out _)).mono ?_); rintro e W1 ⟨rfl, hb⟩; have HB1 := Lib.hid hb; clear hb))
  have HS1 := Lib.hid (show Blk W1 b0 31 8 (gV h) from Blk.on (w := W0.drewN nq) HS.out HB1.out HS.out.lt)
  have HR1 := Lib.hid (show Blk W1 (b0 + 1) 31 8 (fun _ => .int .u32 0) from Blk.on (w := W0.drewN nq) HR.out HB1.out HR.out.lt)
  have HBW := Lib.hid (show Below b0 w W1 from (below_drewN HB0.out nq).trans (HB1.out.mono (Nat.le_of_lt HS.out.lt)))
  have HG1 := Lib.hid (show Gl W1 from HGL.out.on HBW.out (by have := HGL.out.1; rw [HBS.out]; omega))
  clear HS HR HB0 HB1 HSP HGL
  go_loopw [5, 6, 7, 8, 9, 10, 11, 12, 39] (fun xa xb xc xd xe xf xg xh s wr => ∃ t q : Nat, t ≤ 64 ∧ s = .int .i64 (t : Nat) ∧ xa = .int .u32 ((comp h (ws m) t 0 : Nat) : Int) ∧ xb = .int .u32 ((comp h (ws m) t 1 : Nat) : Int) ∧ xc = .int .u32 ((comp h (ws m) t 2 : Nat) : Int) ∧ xd = .int .u32 ((comp h (ws m) t 3 : Nat) : Int) ∧ xe = .int .u32 ((comp h (ws m) t 4 : Nat) : Int) ∧ xf = .int .u32 ((comp h (ws m) t 5 : Nat) : Int) ∧ xg = .int .u32 ((comp h (ws m) t 6 : Nat) : Int) ∧ xh = .int .u32 ((comp h (ws m) t 7 : Nat) : Int) ∧ wr = W1.drewN q) (fun _ _ _ _ _ _ _ _ s _ => 64 - (intOf s).toNat)
  case atStart => exact ⟨0, 0, by omega, rfl, by rw [N0.out]; rfl, by rw [N1.out]; rfl, by rw [N2.out]; rfl, by rw [N3.out]; rfl, by rw [N4.out]; rfl, by rw [N5.out]; rfl, by rw [N6.out]; rfl, by rw [N7.out]; rfl, rfl⟩
  case round =>
    obtain ⟨t, q, hi, rfl, rfl, rfl, rfl, rfl, rfl, rfl, rfl, rfl, rfl⟩ := hrel
    clear N0 N1 N2 N3 N4 N5 N6 N7
    by_cases hlt : t < 64
    · as_aux_lemma =>
      have qi : (t : Int) < 64 := by omega
      have qi0 : (0 : Int) ≤ (t : Int) := by omega
      have HLS := Lib.hid hlt
      have hv := comp_lt HHB.out (ws m) t
      obtain ⟨v, hvv⟩ : ∃ v, v = comp h (ws m) t := ⟨_, rfl⟩
      have HVN := Lib.hid (show comp h (ws m) (t + 1) = rnd v (KF t) (ws m t) by rw [comp, hvv])
      rw [← hvv] at hv ⊢
      have hck : (W1.drewN q).cell? ⟨1, t, none⟩ = some (gV KF t) := HG1.out.2.2 t hlt
      generalize hV : W1.drewN q = V at hck ⊢
      have HV := Lib.hid hV
      clear hV
      unfold gV at hck
      have hix : ∀ W : World, (Instr.index 38 (.agg cW) (.int .i64 (t : Nat))).run Tryd.prog W = .ok (.int .u32 ((ws m t : Nat) : Int)) W := fun W => by rw [HCW.out]; exact index_K (ws m) W t hlt
      have lw := HWS.out t
      have lk := KF_lt t
      obtain ⟨wz, e1⟩ : ∃ x, x = ws m t := ⟨_, rfl⟩
      obtain ⟨kz, e2⟩ : ∃ x, x = KF t := ⟨_, rfl⟩
      rw [← e1] at hix lw HVN
      rw [← e2] at hck lk HVN
      have l0 := hv 0
      have l1 := hv 1
      have l2 := hv 2
      have l3 := hv 3
      have l4 := hv 4
      have l5 := hv 5
      have l6 := hv 6
      have l7 := hv 7
      obtain ⟨v0, n0⟩ : ∃ x, x = v 0 := ⟨_, rfl⟩
      obtain ⟨v1, n1⟩ : ∃ x, x = v 1 := ⟨_, rfl⟩
      obtain ⟨v2, n2⟩ : ∃ x, x = v 2 := ⟨_, rfl⟩
      obtain ⟨v3, n3⟩ : ∃ x, x = v 3 := ⟨_, rfl⟩
      obtain ⟨v4, n4⟩ : ∃ x, x = v 4 := ⟨_, rfl⟩
      obtain ⟨v5, n5⟩ : ∃ x, x = v 5 := ⟨_, rfl⟩
      obtain ⟨v6, n6⟩ : ∃ x, x = v 6 := ⟨_, rfl⟩
      obtain ⟨v7, n7⟩ : ∃ x, x = v 7 := ⟨_, rfl⟩
      rw [← n0] at l0 ⊢
      rw [← n1] at l1 ⊢
      rw [← n2] at l2 ⊢
      rw [← n3] at l3 ⊢
      rw [← n4] at l4 ⊢
      rw [← n5] at l5 ⊢
      rw [← n6] at l6 ⊢
      rw [← n7] at l7 ⊢
      have HN8 := Lib.hid (show v 0 = v0 ∧ v 1 = v1 ∧ v 2 = v2 ∧ v 3 = v3 ∧ v 4 = v4 ∧ v 5 = v5 ∧ v 6 = v6 ∧ v 7 = v7 from ⟨n0.symm, n1.symm, n2.symm, n3.symm, n4.symm, n5.symm, n6.symm, n7.symm⟩)
      clear n0 n1 n2 n3 n4 n5 n6 n7 hv hvv e1 e2 hlt
      obtain ⟨a2, g2⟩ : ∃ x, x = Sg1 v4 := ⟨_, rfl⟩
      obtain ⟨b2', i2⟩ : ∃ x, x = Sg0 v0 := ⟨_, rfl⟩
      have HT1 := Lib.hid (show ∀ (n : Nat), Calls Tryd.prog 19 #[.int .u32 (v4 : Nat), .int .i64 6, .int .i64 11, .int .i64 25] (V.drewN n) fun e w' => e = .returned (.int .u32 ((a2 : Nat) : Int)) ∧ ∃ j, w' = (V.drewN n).drewN j from fun n => by rw [g2]; exact turns_e v4 l4 _)
      have HT2 := Lib.hid (show ∀ W : World, Calls Tryd.prog 19 #[.int .u32 (v0 : Nat), .int .i64 2, .int .i64 13, .int .i64 22] W fun e w' => e = .returned (.int .u32 ((b2' : Nat) : Int)) ∧ ∃ j, w' = W.drewN j from fun W => by rw [i2]; exact turns_a v0 l0 _)
      have la2 : a2 < 4294967296 := by rw [g2]; exact Sg1_lt l4
      have lb2 : b2' < 4294967296 := by rw [i2]; exact Sg0_lt l0
      obtain ⟨a3, g3⟩ : ∃ x, x = ad v7 a2 := ⟨_, rfl⟩
      obtain ⟨a4, g4⟩ : ∃ x, x = v4 &&& v5 := ⟨_, rfl⟩
      obtain ⟨a0, g0⟩ : ∃ x, x = 4294967295 - v4 := ⟨_, rfl⟩
      obtain ⟨a5, g5⟩ : ∃ x, x = a0 &&& v6 := ⟨_, rfl⟩
      obtain ⟨a6, g6⟩ : ∃ x, x = a4 ^^^ a5 := ⟨_, rfl⟩
      obtain ⟨a7, g7⟩ : ∃ x, x = ad a3 a6 := ⟨_, rfl⟩
      obtain ⟨a8, g8⟩ : ∃ x, x = ad a7 kz := ⟨_, rfl⟩
      obtain ⟨a9, g9⟩ : ∃ x, x = ad a8 wz := ⟨_, rfl⟩
      have la4 : a4 < 4294967296 := by rw [g4]; exact and32 l5
      have la0 : a0 < 4294967296 := by omega
      have la5 : a5 < 4294967296 := by rw [g5]; exact and32 l6
      have HA9 := Lib.hid (show a9 = rt1 v kz wz by rw [g9, g8, g7, g6, g5, g4, g3, g2, g0]; unfold rt1; rw [HN8.out.2.2.2.2.1, HN8.out.2.2.2.2.2.1, HN8.out.2.2.2.2.2.2.1, HN8.out.2.2.2.2.2.2.2]; rfl)
      obtain ⟨b3, i3⟩ : ∃ x, x = v0 &&& v1 := ⟨_, rfl⟩
      obtain ⟨b4, i4⟩ : ∃ x, x = v0 &&& v2 := ⟨_, rfl⟩
      obtain ⟨b5, i5⟩ : ∃ x, x = b3 ^^^ b4 := ⟨_, rfl⟩
      obtain ⟨b6, i6⟩ : ∃ x, x = v1 &&& v2 := ⟨_, rfl⟩
      obtain ⟨b7, i7⟩ : ∃ x, x = b5 ^^^ b6 := ⟨_, rfl⟩
      obtain ⟨b8, i8⟩ : ∃ x, x = ad b2' b7 := ⟨_, rfl⟩
      have lb3 : b3 < 4294967296 := by rw [i3]; exact and32 l1
      have lb4 : b4 < 4294967296 := by rw [i4]; exact and32 l2
      have lb5 : b5 < 4294967296 := by rw [i5]; exact xor32 lb3 lb4
      have lb6 : b6 < 4294967296 := by rw [i6]; exact and32 l2
      have HB8 := Lib.hid (show b8 = rt2 v by rw [i8, i7, i6, i5, i4, i3, i2]; unfold rt2; rw [HN8.out.1, HN8.out.2.1, HN8.out.2.2.1]; rfl)
      obtain ⟨N0, j0⟩ : ∃ x, x = ad a9 b8 := ⟨_, rfl⟩
      obtain ⟨N4, j4⟩ : ∃ x, x = ad v3 a9 := ⟨_, rfl⟩
      have HE := Lib.hid (show comp h (ws m) (t + 1) 0 = N0 ∧ comp h (ws m) (t + 1) 1 = v0 ∧ comp h (ws m) (t + 1) 2 = v1 ∧ comp h (ws m) (t + 1) 3 = v2 ∧ comp h (ws m) (t + 1) 4 = N4 ∧ comp h (ws m) (t + 1) 5 = v4 ∧ comp h (ws m) (t + 1) 6 = v5 ∧ comp h (ws m) (t + 1) 7 = v6 by
        rw [HVN.out, j0, j4, HA9.out, HB8.out, ← HN8.out.1, ← HN8.out.2.1, ← HN8.out.2.2.1, ← HN8.out.2.2.2.1, ← HN8.out.2.2.2.2.1, ← HN8.out.2.2.2.2.2.1, ← HN8.out.2.2.2.2.2.2.1]
        exact ⟨rfl, rfl, rfl, rfl, rfl, rfl, rfl, rfl⟩)
      have Zg2 := Lib.hid g2
      have Zi2 := Lib.hid i2
      have Zg3 := Lib.hid g3
      have Zg4 := Lib.hid g4
      have Zg0 := Lib.hid g0
      have Zg5 := Lib.hid g5
      have Zg6 := Lib.hid g6
      have Zg7 := Lib.hid g7
      have Zg8 := Lib.hid g8
      have Zg9 := Lib.hid g9
      have Zi3 := Lib.hid i3
      have Zi4 := Lib.hid i4
      have Zi5 := Lib.hid i5
      have Zi6 := Lib.hid i6
      have Zi7 := Lib.hid i7
      have Zi8 := Lib.hid i8
      have Zj0 := Lib.hid j0
      have Zj4 := Lib.hid j4
      have Zla2 := Lib.hid la2
      have Zlb2 := Lib.hid lb2
      have Zla4 := Lib.hid la4
      have Zla0 := Lib.hid la0
      have Zla5 := Lib.hid la5
      have Zlb3 := Lib.hid lb3
      have Zlb4 := Lib.hid lb4
      have Zlb5 := Lib.hid lb5
      have Zlb6 := Lib.hid lb6
      have Zl0 := Lib.hid l0
      have Zl1 := Lib.hid l1
      have Zl2 := Lib.hid l2
      have Zl3 := Lib.hid l3
      have Zl4 := Lib.hid l4
      have Zl5 := Lib.hid l5
      have Zl6 := Lib.hid l6
      have Zl7 := Lib.hid l7
      have Zlw := Lib.hid lw
      have Zlk := Lib.hid lk
      clear g2 i2 g3 g4 g0 g5 g6 g7 g8 g9 i3 i4 i5 i6 i7 i8 j0 j4 la2 lb2 la4 la0 la5 lb3 lb4 lb5 lb6 l0 l1 l2 l3 l4 l5 l6 l7 lw lk
      go_upto_region 5 with fail
      have r4 : bits .and .u32 (v4 : Int) (v5 : Int) = (a4 : Int) := by rw [Zg4.out]; exact u32_and_nat _ _ Zl4.out Zl5.out
      have r5 : bits .and .u32 (a0 : Int) (v6 : Int) = (a5 : Int) := by rw [Zg5.out]; exact u32_and_nat _ _ Zla0.out Zl6.out
      have r6 : bits .xor .u32 (a4 : Int) (a5 : Int) = (a6 : Int) := by rw [Zg6.out]; exact u32_xor_nat _ _ Zla4.out Zla5.out
      have r0 : 4294967295 - (v4 : Int) = (a0 : Int) := by have := Zg0.out; have := Zl4.out; omega
      have r00 : bits .xor .u32 (if IntKind.u32.signed = true then -1 else IntKind.u32.max) (v4 : Int) = (a0 : Int) := by rw [Zg0.out, ← not32 Zl4.out]; exact u32_xor_nat _ _ (by decide) Zl4.out
      have u3 : bits .and .u32 (v0 : Int) (v1 : Int) = (b3 : Int) := by rw [Zi3.out]; exact u32_and_nat _ _ Zl0.out Zl1.out
      have u4 : bits .and .u32 (v0 : Int) (v2 : Int) = (b4 : Int) := by rw [Zi4.out]; exact u32_and_nat _ _ Zl0.out Zl2.out
      have u5 : bits .xor .u32 (b3 : Int) (b4 : Int) = (b5 : Int) := by rw [Zi5.out]; exact u32_xor_nat _ _ Zlb3.out Zlb4.out
      have u6 : bits .and .u32 (v1 : Int) (v2 : Int) = (b6 : Int) := by rw [Zi6.out]; exact u32_and_nat _ _ Zl1.out Zl2.out
      have u7 : bits .xor .u32 (b5 : Int) (b6 : Int) = (b7 : Int) := by rw [Zi7.out]; exact u32_xor_nat _ _ Zlb5.out Zlb6.out
      go_upto_region 7 with fail
      clear r4 r5 r6 r0 r00 u3 u4 u5 u6 u7
      have r3 : IntKind.u32.wrap ((v7 : Int) + (a2 : Int)) = (a3 : Int) := by rw [IntKind.wrap_u32', Zg3.out]; unfold ad; omega
      have r7 : IntKind.u32.wrap ((a3 : Int) + (a6 : Int)) = (a7 : Int) := by rw [IntKind.wrap_u32', Zg7.out]; unfold ad; omega
      have r8 : IntKind.u32.wrap ((a7 : Int) + (kz : Int)) = (a8 : Int) := by rw [IntKind.wrap_u32', Zg8.out]; unfold ad; omega
      have r9 : IntKind.u32.wrap ((a8 : Int) + (wz : Int)) = (a9 : Int) := by rw [IntKind.wrap_u32', Zg9.out]; unfold ad; omega
      go_quiet ((go_at_call 19; (with_reducible exact Calls.quiet_of (HT1.out _))))
      clear r3 r7 r8 r9 hck hix
      go_upto_region 8 with fail
      have u8 : IntKind.u32.wrap ((b2' : Int) + (b7 : Int)) = (b8 : Int) := by rw [IntKind.wrap_u32', Zi8.out]; unfold ad; omega
      have y0 : IntKind.u32.wrap ((a9 : Int) + (b8 : Int)) = (N0 : Int) := by rw [IntKind.wrap_u32', Zj0.out]; unfold ad; omega
      have y4 : IntKind.u32.wrap ((v3 : Int) + (a9 : Int)) = (N4 : Int) := by rw [IntKind.wrap_u32', Zj4.out]; unfold ad; omega
      go_wp2_with (go_at_call 19; go_loud ((with_reducible refine (HT2.out _).mono ?_); rintro e w' ⟨rfl, nt, rfl⟩))
      clear u8 y0 y4
      go_roundw
      case rel => first
        | exact ⟨t + 1, _, HLS.out, by go_num, by rw [HE.out.1], by rw [HE.out.2.1], by rw [HE.out.2.2.1], by rw [HE.out.2.2.2.1], by rw [HE.out.2.2.2.2.1], by rw [HE.out.2.2.2.2.2.1], by rw [HE.out.2.2.2.2.2.2.1], by rw [HE.out.2.2.2.2.2.2.2], by rw [← HV.out, World.drewN_drewN]⟩
        | ((repeat apply Exists.intro); exact ⟨⟨t + 1, _, HLS.out, by go_num, by rw [HE.out.1], by rw [HE.out.2.1], by rw [HE.out.2.2.1], by rw [HE.out.2.2.2.1], by rw [HE.out.2.2.2.2.1], by rw [HE.out.2.2.2.2.2.1], by rw [HE.out.2.2.2.2.2.2.1], by rw [HE.out.2.2.2.2.2.2.2], by rw [← HV.out, World.drewN_drewN]⟩, rfl⟩)
      case measure => simp [intOf] <;> (have := HLS.out; omega)
    · obtain rfl : t = 64 := by omega
      as_aux_lemma =>
        obtain ⟨cc, hcc⟩ : ∃ x, x = comp h (ws m) 64 := ⟨_, rfl⟩
        have HCL := Lib.hid (show ∀ i, cc i < 4294967296 by rw [hcc]; exact comp_lt HHB.out (ws m) 64)
        have HBK := Lib.hid (show ∀ j, ad (h j) (cc j) = blkF h m j from fun j => by rw [hcc]; rfl)
        rw [← hcc]
        clear hcc hi hlt HWS
        have HS2 := Lib.hid (show Blk (W1.drewN q) b0 31 8 (sV h cc 0) from (HS1.out.drewN q).congr fun j _ => (sV_zero h cc j).symm)
        have HR2 := Lib.hid (HR1.out.drewN q)
        have HB2 := Lib.hid (show Below b0 w (W1.drewN q) from below_drewN HBW.out q)
        obtain ⟨TC, hTC⟩ : ∃ c, c = tabV 8 (gV cc) := ⟨_, rfl⟩
        have HBD := Lib.hid (show Tryd.prog.built 30 [(0, .int .u32 ((cc 0 : Nat) : Int)), (1, .int .u32 ((cc 1 : Nat) : Int)), (2, .int .u32 ((cc 2 : Nat) : Int)), (3, .int .u32 ((cc 3 : Nat) : Int)), (4, .int .u32 ((cc 4 : Nat) : Int)), (5, .int .u32 ((cc 5 : Nat) : Int)), (6, .int .u32 ((cc 6 : Nat) : Int)), (7, .int .u32 ((cc 7 : Nat) : Int))] = some TC by rw [hTC, tab8]; exact builtH _ _ _ _ _ _ _ _)
        have HTC := Lib.hid hTC
        clear hTC HS1 HR1
        go_upto_region 12 with ((with_reducible show wpList _ _ _ (⟨some 99, _, _, _, _, _⟩ :: _) _ _); go_loud (refine wpList_buildTo rfl 30 #[(0, .tmp 91), (1, .tmp 92), (2, .tmp 93), (3, .tmp 94), (4, .tmp 95), (5, .tmp 96), (6, .tmp 97), (7, .tmp 98)] rfl (some 99) rfl TC (by rw [Array.toList_map]; exact HBD.out) ?_))
        generalize W1.drewN q = W2 at HS2 HR2 HB2 ⊢
        go_loopw [100] (fun s R => ∃ i : Nat, i ≤ 8 ∧ s = .int .i64 (i : Nat) ∧ Blk R b0 31 8 (sV h cc i) ∧ Blk R (b0 + 1) 31 8 (fun _ => .int .u32 0) ∧ Below b0 w R) (fun s _ => 8 - (intOf s).toNat)
        case atStart => exact ⟨0, by omega, rfl, HS2.out, HR2.out, HB2.out⟩
        case round =>
          obtain ⟨i, hi, rfl, h1, h2, h3⟩ := hrel
          rename World => R
          have RS := Lib.hid h1
          have RR := Lib.hid h2
          have RB := Lib.hid h3
          clear h1 h2 h3 HS2 HR2 HB2
          by_cases hlt : i < 8
          · have qi : (i : Int) < 8 := by omega
            have qi0 : (0 : Int) ≤ (i : Int) := by omega
            have hc1 := RS.out.cell hlt
            unfold sV at hc1
            rw [if_neg (by omega)] at hc1
            have hf1 := RS.out.free i
            have hix : ∀ W : World, (Instr.index 30 (.agg TC) (.int .i64 (i : Nat))).run Tryd.prog W = .ok (.int .u32 ((cc i : Nat) : Int)) W := fun W => by rw [HTC.out]; exact index_H cc hlt W
            have HLI := Lib.hid hlt
            have l1 := HHB.out i
            have l2 := HCL.out i
            obtain ⟨x, e1⟩ : ∃ x, x = h i := ⟨_, rfl⟩
            obtain ⟨y, e2⟩ : ∃ x, x = cc i := ⟨_, rfl⟩
            rw [← e1] at hc1 l1
            rw [← e2] at hix l2
            obtain ⟨z, e3⟩ : ∃ z, z = ad x y := ⟨_, rfl⟩
            have HZ := Lib.hid (show ((z : Nat) : Int) = ((ad (h i) (cc i) : Nat) : Int) by rw [e3, e1, e2])
            have E3 := Lib.hid e3
            clear e1 e2 e3 hlt
            go_upto_region 14 with fail
            have y0 : IntKind.u32.wrap ((x : Int) + (y : Int)) = (z : Int) := by rw [IntKind.wrap_u32', E3.out]; unfold ad; omega
            go_upto_region 15 with fail
            clear y0
            go_wp2
            go_roundw
            case rel => exact ⟨i + 1, HLI.out, by go_num, (RS.out.set HLI.out _).congr fun j _ => by rw [HZ.out]; exact sV_set h cc i j, RR.out.other ⟨b0, i, none⟩ _ (by show b0 + 1 ≠ b0; omega), RB.out.setCell (p := ⟨b0, i, none⟩) (Nat.le_refl _) _⟩
            case measure => simp [intOf] <;> omega
          · obtain rfl : i = 8 := by omega
            have HK3 := Lib.hid (RS.out.congr (h := gV (blkF h m)) fun j hj => by unfold sV gV; rw [if_pos hj, HBK.out])
            have hone : (tabV 8 (gV (blkF h m))).all (·.oneCell') = true := tabV_one fun _ => rfl
            have hsi : (Tryd.prog.info? 31).map (·.size) = some (tabV 8 (gV (blkF h m))).size := by rw [size_tabV]; exact size_S
            have hso : (tabV 8 fun _ => (Value.int .u32 0)).size = (tabV 8 (gV (blkF h m))).size := by rw [size_tabV, size_tabV]
            have HR3 := Lib.hid (RR.out.row (gV (blkF h m)))
            have HBF := Lib.hid (show Below w.heap.size w (R.setRow (b0 + 1) (tabV 8 (gV (blkF h m)))) from below_setRow (by rw [← HBS.out]; exact RB.out) (by rw [← HBS.out]; omega) _)
            obtain ⟨cs, hcs⟩ : ∃ cs, cs = tabV 8 (gV (blkF h m)) := ⟨_, rfl⟩
            unfold Blk at HK3 HR3
            rw [← hcs] at HK3 HR3 HBF hone hsi hso
            have HCS := Lib.hid hcs
            have HS1 := Lib.hid hsi
            have HS2 := Lib.hid hso
            have HS3 := Lib.hid hone
            clear hcs hsi hso hone
            go_wp2_with (first
              | ((with_reducible show wpList _ _ _ (⟨some 111, _, _, _, _, _⟩ :: _) _ _); refine wpList_load_row rfl 31 (.tmp 2) rfl b0 rfl _ cs _ _ HK3.out Tryd.underlying31 rfl HS1.out ?_)
              | ((with_reducible show wpList _ _ _ (⟨none, _, _, _, _, _⟩ :: _) _ _); refine wpList_store_row rfl 31 (.tmp 4) (.tmp 111) rfl (b0 + 1) cs rfl rfl _ _ RR.out HS1.out HS2.out HS3.out ?_))
            refine bodyPost_ret (v := .agg cs) (results_cell_row rfl _ _ (b0 + 1) _ cs _ _ rfl HR3.out Tryd.underlying31 rfl HS1.out) rfl ⟨by rw [HCS.out], HBF.out⟩
end Go.Proofs.YtmcoakjbfgfgpaaDoor
