/- Layer 9's laws' lives, under Encode's contract. -/
import Derived.Test.YtmhjpdppippgkaaCf
import Derived.Test.YtmhjpdppippgkaaQ3
import Derived.Deep.RegionHeld
namespace Go.Proofs.Ytmhjpdppippgkaa
open Go.ChangeShapes Go.WideShapes Go.ChangeAt Go.RowKit Go.Shelf GF
set_option linter.unusedVariables false
set_option linter.unusedSimpArgs false
set_option maxRecDepth 100000

def e1 : GF := toG 1
def e2 : GF := toG 2
theorem en_rows : encM [[e1], [e2]] 1 3 = [[e1], [e2], [toG 3]] := by decide +kernel
theorem est2 : strOfNums (iL [e2]) = { data := #[2] } := by decide +kernel
theorem est3 : strOfNums (iL [toG 3]) = { data := #[3] } := by decide +kernel
theorem two_rows (w : World) : Mat (((w.alloc (.cells #[.int .u8 1] 5)).alloc (.cells #[.int .u8 2] 5)).alloc (.cells #[.slice (some ⟨w.heap.size, 0, none⟩) 1 1, .slice (some ⟨w.heap.size + 1, 0, none⟩) 1 1] 23)) (some ⟨w.heap.size + 1 + 1, 0, none⟩) 2 2 [[e1], [e2]] ∧
    Below w.heap.size w (((w.alloc (.cells #[.int .u8 1] 5)).alloc (.cells #[.int .u8 2] 5)).alloc (.cells #[.slice (some ⟨w.heap.size, 0, none⟩) 1 1, .slice (some ⟨w.heap.size + 1, 0, none⟩) 1 1] 23)) := by
  obtain ⟨W2, hW2⟩ : ∃ W, W = w.alloc (.cells #[.int .u8 1] 5) := ⟨_, rfl⟩
  obtain ⟨W3, hW3⟩ : ∃ W, W = W2.alloc (.cells #[.int .u8 2] 5) := ⟨_, rfl⟩
  obtain ⟨W4, hW4⟩ : ∃ W, W = W3.alloc (.cells #[.slice (some ⟨w.heap.size, 0, none⟩) 1 1, .slice (some ⟨w.heap.size + 1, 0, none⟩) 1 1] 23) := ⟨_, rfl⟩
  have s2 : W2.heap.size = w.heap.size + 1 := by rw [hW2]; simp
  have s3 : W3.heap.size = w.heap.size + 1 + 1 := by rw [hW3]; simp [s2]
  have b2 : Below w.heap.size w W2 := by rw [hW2]; exact (Below.refl _ _).alloc (Nat.le_refl _) _
  have b3 : Below W2.heap.size W2 W3 := by rw [hW3]; exact (Below.refl _ _).alloc (Nat.le_refl _) _
  have b4 : Below W3.heap.size W3 W4 := by rw [hW4]; exact (Below.refl _ _).alloc (Nat.le_refl _) _
  have p2 : Pa W2 (some ⟨w.heap.size, 0, none⟩) 1 1 [e1] := by rw [hW2]; exact Pa.own2 (own_oneG w 5 e1)
  have p3 : Pa W3 (some ⟨w.heap.size + 1, 0, none⟩) 1 1 [e2] := by rw [hW3, ← s2]; exact Pa.own2 (own_oneG W2 5 e2)
  have hv : RV W4 (fun _ => True) [.slice (some ⟨w.heap.size, 0, none⟩) 1 1, .slice (some ⟨w.heap.size + 1, 0, none⟩) 1 1] [[e1], [e2]] :=
    ((RV.nil W4 (fun _ => True)).more (P := [e1]) ((p2.on b3).on b4) (fun _ _ _ _ => trivial)).more (P := [e2]) (p3.on b4) (fun _ _ _ _ => trivial)
  have ho : W4.ownsRow W3.heap.size 23 1 (.slice (some ⟨W3.heap.size, 0, none⟩) 2 2) 2 [.slice (some ⟨w.heap.size, 0, none⟩) 1 1, .slice (some ⟨w.heap.size + 1, 0, none⟩) 1 1] := by
    rw [hW4]
    exact World.ownsRow_lit (base := W3.heap.size) (e := 23) (size := 1) W3 #[.slice (some ⟨w.heap.size, 0, none⟩) 1 1, .slice (some ⟨w.heap.size + 1, 0, none⟩) 1 1] 2 (Nat.le_refl _) (by unfold maxLen; omega) rfl
  obtain ⟨a, c, e, hm⟩ := Mat.own ho hv
  cases e
  rw [s3] at hm
  rw [← hW2, ← hW3, ← hW4]
  exact ⟨hm, bt (bt b2 b3) b4⟩
set_option maxHeartbeats 2000000 in
theorem lives9 (hEnc : EncodeC) (w : World) : Calls Try.prog 7 #[] w fun e w' => e = .returned (.bool true) ∧ Below w.heap.size w w' := by
  have HEN := Lib.hid hEnc
  clear hEnc
  go_enter Try.func7, Try.ntmps7
  go_upto_region 2 with (first
    | (go_at_call 10; go_loud (refine (new_any _).mono ?_; rintro e w1 ⟨b, rfl, hb0, hf, hbel⟩; have hmb := two_rows w1; have HB1 := Lib.hid (bt hbel hmb.2); have HC := Lib.hid (HEN.out b 2 3 1 _ 2 [[e1], [e2]] _ (hf.below hmb.2) hmb.1 (by omega) (by omega) (by omega) (fun k hk => by
        rcases (show k = 0 ∨ k = 1 by omega) with rfl | rfl <;> rfl) (by omega)); rw [en_rows] at HC; clear hf hbel hb0 hmb))
    | (go_at_call 11; go_loud (refine HC.out.mono ?_; rintro e w7 ⟨a7, c7, rfl, hm7, hb7⟩; have HM7 := Lib.hid hm7.mat; have HB7 := Lib.hid (bt HB1.out hb7); clear hm7 hb7)))
  obtain ⟨bx, ox, a0, c0, rfl, hbx, hr0, hp0⟩ := HM7.out.row (i := 1) (by omega)
  obtain ⟨bx2, ox2, a1, c1, hx2, hbx2, hr1, hp1⟩ := HM7.out.row (i := 2) (by omega)
  cases hx2
  have q0 : rw_ [[e1], [e2], [toG 3]] 1 = [e2] := rfl
  have q1 : rw_ [[e1], [e2], [toG 3]] 2 = [toG 3] := rfl
  rw [q0] at hr0 hp0
  rw [q1] at hr1 hp1
  have hr0 : w7.cell? ⟨bx, ox + 1, none⟩ = some (.slice a0 1 c0) := hr0
  have hr1 : w7.cell? ⟨bx, ox + 2, none⟩ = some (.slice a1 1 c1) := hr1
  have k0 := hp0.str
  have k1 := hp1.str
  have k0 : (convert 23 9 (.slice a0 1 c0)).run Try.prog w7 = .ok (.string { data := #[2] }) w7 := by rw [← est2]; exact k0
  have k1 : (convert 23 9 (.slice a1 1 c1)).run Try.prog w7 = .ok (.string { data := #[3] }) w7 := by rw [← est3]; exact k1
  clear q0 q1 hp0 hp1 hbx hbx2
  go_wp2
  go_ret
  exact ⟨rfl, HB7.out⟩
end Go.Proofs.Ytmhjpdppippgkaa
