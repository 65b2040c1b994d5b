/- Layer 8's laws' lives, under the contracts. -/
import Derived.Test.YtmhknggjpggagaaSc
import Derived.Deep.RegionHeld
namespace Go.Proofs.Ytmhknggjpggagaa
open Go.ChangeShapes Go.WideShapes Go.ChangeAt Go.RowKit Go.Shelf GF
set_option linter.unusedVariables false
set_option linter.unusedSimpArgs false
set_option maxRecDepth 100000

theorem own_twoG (w : World) (e : TypeId) (c d : GF) : (w.alloc (.cells #[.int .u8 (toI c), .int .u8 (toI d)] e)).ownsRow w.heap.size e 1 (.slice (some ⟨w.heap.size, 0, none⟩) 2 2) 2 ((iL [c, d]).map (Value.int .u8)) :=
  World.ownsRow_lit (base := w.heap.size) (e := e) (size := 1) w #[.int .u8 (toI c), .int .u8 (toI d)] 2 (Nat.le_refl _) (by unfold maxLen; omega) rfl
def g1 : GF := toG 1
def g2 : GF := toG 2
def g3 : GF := toG 3
def g5 : GF := toG 5
theorem lv_rows : shM 2 1 [g5] [g3] [g1, g2] = [[toG 6], [toG 3]] := by decide +kernel
theorem lv_at : atR [g1, g2] (rw_ [[toG 6], [toG 3]]) 0 1 = [g5] := by decide +kernel
theorem lv_apart : Apart [g1, g2] := fun i j hi hj => by
  have : i = 1 ∧ j = 0 := by simp at hi; omega
  obtain ⟨rfl, rfl⟩ := this
  decide +kernel
theorem str6 : strOfNums (iL [toG 6]) = { data := #[6] } := by decide +kernel
theorem str3 : strOfNums (iL [toG 3]) = { data := #[3] } := by decide +kernel
theorem str5 : strOfNums (iL [g5]) = { data := #[5] } := by decide +kernel
set_option maxHeartbeats 2000000 in
theorem lives8 (hSplit : SplitC) (hJoin : JoinC) (w : World) : Calls Try.prog 8 #[] w fun e w' => e = .returned (.bool true) ∧ Below w.heap.size w w' := by
  have HSP := Lib.hid hSplit
  have HJO := Lib.hid hJoin
  clear hSplit hJoin
  go_enter Try.func8, Try.ntmps8
  go_upto_region 2 with (go_at_call 11; go_loud (refine (new_any _).mono ?_; rintro e w1 ⟨b, rfl, hb0, hf, hbel⟩; have HF := Lib.hid hf; have HB1 := Lib.hid hbel; clear hf hbel hb0))
  obtain ⟨W2, hW2⟩ : ∃ W, W = w1.alloc (.cells #[.int .u8 5] 5) := ⟨_, rfl⟩
  obtain ⟨W3, hW3⟩ : ∃ W, W = W2.alloc (.cells #[.int .u8 3] 5) := ⟨_, rfl⟩
  obtain ⟨W4, hW4⟩ : ∃ W, W = W3.alloc (.cells #[.int .u8 1, .int .u8 2] 5) := ⟨_, rfl⟩
  have s2 : W2.heap.size = w1.heap.size + 1 := by rw [hW2]; simp
  have s3 : W3.heap.size = w1.heap.size + 1 + 1 := by rw [hW3]; simp [s2]
  have b2 : Below w1.heap.size w1 W2 := by rw [hW2]; exact (Below.refl _ _).alloc (Nat.le_refl _) _
  have b3 : Below W2.heap.size W2 W3 := by rw [hW3]; exact (Below.refl _ _).alloc (Nat.le_refl _) _
  have b4 : Below W3.heap.size W3 W4 := by rw [hW4]; exact (Below.refl _ _).alloc (Nat.le_refl _) _
  have p2 : Pa W2 (some ⟨w1.heap.size, 0, none⟩) 1 1 [g5] := by rw [hW2]; exact Pa.own2 (own_oneG w1 5 g5)
  have p3 : Pa W3 (some ⟨w1.heap.size + 1, 0, none⟩) 1 1 [g3] := by rw [hW3, ← s2]; exact Pa.own2 (own_oneG W2 5 g3)
  have p4 : Pa W4 (some ⟨w1.heap.size + 1 + 1, 0, none⟩) 2 2 [g1, g2] := by rw [hW4, ← s3]; exact Pa.own2 (own_twoG W3 5 g1 g2)
  have HB4 := Lib.hid (show Below w1.heap.size w1 W4 from bt (bt b2 b3) b4)
  have HC := Lib.hid (HSP.out b 2 1 1 2 _ 1 [g5] _ 1 [g3] _ 2 [g1, g2] W4 (HF.out.below HB4.out) ((p2.on b3).on b4) (p3.on b4) p4 (by omega) (by omega) (by omega) (fun k hk => by
    rcases (show k = 0 ∨ k = 1 by omega) with rfl | rfl <;> decide +kernel) (by omega) (by omega))
  rw [lv_rows] at HC
  have HW4 := Lib.hid (show W4 = ((w1.alloc (.cells #[.int .u8 5] 5)).alloc (.cells #[.int .u8 3] 5)).alloc (.cells #[.int .u8 1, .int .u8 2] 5) by rw [hW4, hW3, hW2])
  rw [HW4.out] at HC HB4
  clear hW2 hW3 hW4 s2 s3 b2 b3 b4 p2 p3 p4 HW4
  go_upto_region 3 with (go_at_call 12; go_loud (refine HC.out.mono ?_; rintro e w5 ⟨a5, c5, rfl, hm5, hb5⟩; have HM5 := Lib.hid hm5.mat; have HB5 := Lib.hid (bt HB4.out hb5); clear hm5 hb5))
  have HF5 := Lib.hid (HF.out.below HB5.out)
  have b6 : Below w5.heap.size w5 (w5.alloc (.cells #[.int .u8 1, .int .u8 2] 5)) := (Below.refl _ _).alloc (Nat.le_refl _) _
  have HJ := Lib.hid (HJO.out b 2 1 _ 2 [g1, g2] a5 c5 [[toG 6], [toG 3]] (w5.alloc (.cells #[.int .u8 1, .int .u8 2] 5)) (HF5.out.below b6) (Pa.own2 (own_twoG w5 5 g1 g2)) (HM5.out.on b6) lv_apart (by omega) (by omega) (fun k hk => by
    rcases (show k = 0 ∨ k = 1 by omega) with rfl | rfl <;> rfl) (by omega))
  rw [lv_at] at HJ
  have HB6 := Lib.hid b6
  clear b6
  go_upto_region 4 with (go_at_call 19; go_loud (refine HJ.out.mono ?_; rintro e w7 ⟨a7, c7, rfl, hp7, hb7⟩; have HP7 := Lib.hid hp7; have HB7 := Lib.hid (bt HB6.out hb7); clear hp7 hb7))
  have HM7 := Lib.hid (HM5.out.on HB7.out)
  obtain ⟨bx, ox, a0, c0, rfl, hbx, hr0, hp0⟩ := HM7.out.row (i := 0) (by omega)
  obtain ⟨bx2, ox2, a1, c1, hx2, hbx2, hr1, hp1⟩ := HM7.out.row (i := 1) (by omega)
  cases hx2
  rw [Nat.add_zero] at hr0
  have e0 : rw_ [[toG 6], [toG 3]] 0 = [toG 6] := rfl
  have e1 : rw_ [[toG 6], [toG 3]] 1 = [toG 3] := rfl
  rw [e0] at hr0 hp0
  rw [e1] at hr1 hp1
  have hr0 : w7.cell? ⟨bx, ox, none⟩ = some (.slice a0 1 c0) := hr0
  have hr1 : w7.cell? ⟨bx, ox + 1, none⟩ = some (.slice a1 1 c1) := hr1
  have k0 := hp0.str
  have k1 := hp1.str
  have k5 := HP7.out.str
  have k0 : (convert 22 9 (.slice a0 1 c0)).run Try.prog w7 = .ok (.string { data := #[6] }) w7 := by rw [← str6]; exact k0
  have k1 : (convert 22 9 (.slice a1 1 c1)).run Try.prog w7 = .ok (.string { data := #[3] }) w7 := by rw [← str3]; exact k1
  rw [str5] at k5
  clear e0 e1 hp0 hp1 hbx hbx2
  go_wp2
  go_ret
  exact ⟨rfl, bt HB1.out (bt HB5.out HB7.out)⟩
end Go.Proofs.Ytmhknggjpggagaa
