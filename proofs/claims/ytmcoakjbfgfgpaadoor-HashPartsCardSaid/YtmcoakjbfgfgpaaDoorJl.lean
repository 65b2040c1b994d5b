/- Layer 7's laws: what they have in common: one part; the sum as a string; the chapter's example. -/
import Derived.Test.YtmcoakjbfgfgpaaDoorJr
import Derived.Test.YtmcoakjbfgfgpaaDoorHx
import Derived.Lib.SlBytesConst
import Derived.Lib.SmallJoins
namespace Go.Proofs.YtmcoakjbfgfgpaaDoor
open Go.ChangeShapes Go.WideShapes Go.ChangeAt Go.RowKit
set_option linter.unusedVariables false
set_option linter.unusedSimpArgs false
set_option maxRecDepth 100000

theorem Row8.str_on {w : World} {g n : Nat} {l : List Int} (h : Row8 w g n l) (c : Nat) : ∀ U, Below w.heap.size w U → (convert 22 9 (.slice (some ⟨g, 0, none⟩) n c)).run Tryd.prog U = .ok (.string (strOfNums l)) U := fun U hU =>
  (h.bs.below hU).str h.1 Tryd.underlying22 Tryd.underlying5 Tryd.underlying9
theorem Arg8.str_on {w : World} {a : Option Addr} {n c : Nat} {l : List Int} (h : Arg8 w a n c l) : ∀ U, Below w.heap.size w U → (convert 22 9 (.slice a n c)).run Tryd.prog U = .ok (.string (strOfNums l)) U := fun U hU =>
  (h.2.2.1.below hU).str h.1 Tryd.underlying22 Tryd.underlying5 Tryd.underlying9
/-- The sum of one part. -/
theorem sum_one (pb : Nat) (a : Option Addr) (L c : Nat) (l : List Int) (w : World) (hp : w.cell? ⟨pb, 0, none⟩ = some (.slice a L c)) (hpb : pb < w.heap.size) (hx : Arg8 w a L c l) (hL : L ≤ 800000) (hG : Gl w) :
    Calls Tryd.prog 6 #[.slice (some ⟨pb, 0, none⟩) 1 1] w fun e w' => ∃ g c', e = .returned (.slice (some ⟨g, 0, none⟩) 32 c') ∧ Row8 w' g 32 (sumL l) ∧ Below w.heap.size w w' := by
  have e : cat (fun _ => l) 1 = l := by simp [cat]
  have h := sum_any (some ⟨pb, 0, none⟩) 1 1 (fun _ => l) w (fun i hi => ⟨pb, 0, a, c, rfl, hpb, by rw [Nat.zero_add, show i = 0 by omega, hp, hx.1], hx.2.2.1, hx.2.1, by rw [hx.1]; exact hx.2.2.2.1⟩) (by omega) (by rw [e, hx.1]; exact hL) hG
  rw [e] at h
  exact h
set_option maxHeartbeats 1000000 in
theorem lives_any (w : World) (hG : Gl w) :
    Calls Tryd.prog 5 #[] w fun e w' => e = .returned (.bool true) ∧ Below w.heap.size w w' := by
  obtain ⟨W1, hW1⟩ : ∃ W1, W1 = w.alloc (.cells #[.int .u8 97, .int .u8 98, .int .u8 99] 5 (3, 4)) := ⟨_, rfl⟩
  obtain ⟨W2, hW2⟩ : ∃ W2, W2 = W1.alloc (.cells #[.slice (some ⟨w.heap.size, 0, none⟩) 3 3] 22) := ⟨_, rfl⟩
  have s1 : W1.heap.size = w.heap.size + 1 := by rw [hW1]; simp
  have b1 : Below w.heap.size w W1 := by rw [hW1]; exact (Below.refl _ _).alloc (Nat.le_refl _) _
  have b2 : Below W1.heap.size W1 W2 := by rw [hW2]; exact (Below.refl _ _).alloc (Nat.le_refl _) _
  have b3 : Below w.heap.size w W2 := bt b1 b2
  have hx1 : Row8 W1 w.heap.size 3 shaX := ⟨rfl, shaXB, by omega, fun i hi => by
    rw [hW1]
    rw [World.cell?_alloc_mark]
    rcases (show i = 0 ∨ i = 1 ∨ i = 2 by omega) with rfl | rfl | rfl <;> rfl⟩
  have hx : Row8 W2 w.heap.size 3 shaX := hx1.on b2 (by omega)
  have hc : W2.cell? ⟨w.heap.size + 1, 0, none⟩ = some (.slice (some ⟨w.heap.size, 0, none⟩) 3 3) := by rw [hW2, ← s1]; simp
  have HS := Lib.hid (sum_one (w.heap.size + 1) (some ⟨w.heap.size, 0, none⟩) 3 3 shaX W2 hc (by have := b2.size; rw [hW2]; simp; omega) ⟨rfl, shaXB, hx.bs, Nat.le_refl _, by unfold maxLen; omega⟩ (by omega) (hG.on b3 hG.1))
  have HB := Lib.hid b3
  have HW := Lib.hid (show W2 = (w.alloc (.cells #[.int .u8 97, .int .u8 98, .int .u8 99] 5 (3, 4))).alloc (.cells #[.slice (some ⟨w.heap.size, 0, none⟩) 3 3] 22) by rw [hW2, hW1])
  rw [HW.out] at HS
  clear hW1 hW2 s1 b1 b2 b3 hx1 hx hc hG
  have kc := fun (w : World) (C : Array Value) (n c : Nat) => Lib.run_convert_bytes_const (P := Tryd.prog) w 22 5 C n c Tryd.underlying22 Tryd.underlying5
  go_enter Tryd.func5, Tryd.ntmps5
  go_upto_region 2 with (go_at_call 6; go_loud ((with_reducible refine HS.out.mono ?_); rintro e W3 ⟨g, c', rfl, hr, hb⟩; have hc0 := hr.2.2.2 0 (by omega); have hc1 := hr.2.2.2 1 (by omega); have HB3 := Lib.hid hb; clear hr hb))
  rw [shaEx0] at hc0
  rw [shaEx1] at hc1
  go_wp2
  go_ret
  rw [← HW.out] at HB3
  exact ⟨rfl, bt HB.out HB3.out⟩
end Go.Proofs.YtmcoakjbfgfgpaaDoor
