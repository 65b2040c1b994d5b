/- Tapes: the chapter's example. -/
import Derived.Test.YtmiafhblllbimaaBa
namespace Go.Proofs.Ytmiafhblllbimaa
open Go.ChangeShapes Go.WideShapes Go.ChangeAt Go.RowKit Go.Shelf
set_option linter.unusedVariables false
set_option linter.unusedSimpArgs false
set_option maxRecDepth 100000

theorem str12 : strOfNums [1, 2] = ({ data := #[1, 2] } : ByteArray) := rfl
set_option maxHeartbeats 2000000 in
theorem lives12 {R : World → Nat → (Nat → Prop) → List Int → Nat → List TK → Prop} {It : World → Value → List TK → Prop} (hM : TapeM R It) (w : World) :
    Calls Try.prog 5 #[] w fun e w' => e = .returned (.bool true) ∧ Below w.heap.size w w' := by
  have HM := Lib.hid hM
  have HA := Lib.hid (show Arg8c (w.alloc (.cells #[.int .u8 1, .int .u8 2, .int .u8 3] 5)) (some ⟨w.heap.size, 0, none⟩) 3 3 [1, 2, 3] from
    own_any (base := w.heap.size) (e := 5) (World.ownsRow_lit (base := w.heap.size) (e := 5) (size := 1) w #[.int .u8 1, .int .u8 2, .int .u8 3] 3 (Nat.le_refl _) (by unfold maxLen; omega) rfl) (by intro x hx; simp at hx; omega))
  have HB0 := Lib.hid (show Below w.heap.size w (w.alloc (.cells #[.int .u8 1, .int .u8 2, .int .u8 3] 5)) from (Below.refl _ _).alloc (Nat.le_refl _) _)
  clear hM
  go_enter Try.func5, Try.ntmps5
  go_upto_region 4 with (first
    | (go_at_call 6; go_loud (refine (HM.out.new (some ⟨w.heap.size, 0, none⟩) 3 3 [1, 2, 3] _ HA.out (by omega)).mono ?_; rintro e w1 ⟨tb, F, rfl, hr, hf, hb⟩; have HR1 := Lib.hid hr; have HF1 := Lib.hid (show ∀ k, F k → w.heap.size ≤ k from fun k hk => by have h9 := hf k hk; simp at h9; omega); have HB1 := Lib.hid (bt HB0.out hb); clear hr hf hb))
    | (go_at_call_of 7 (Value.string { data := #[97] }); go_loud (refine (HM.out.takeOk tb F [1, 2, 3] 0 [] { data := #[97] } 2 w1 HR1.out (by intro x hx; simp at hx; omega) (by decide) (by decide) (by decide)).mono ?_; rintro e w2 ⟨a2, c2, F2, rfl, hr, hk, hf, ho⟩; have HR2 := Lib.hid hr; have HB2 := Lib.hid (show Below w.heap.size w w2 from HB1.out.trans (hk.below HF1.out HB1.out.size)); have HO2 := Lib.hid (ho (by decide)).1; clear hr hk hf ho))
    | (go_at_call_of 7 (Value.string { data := #[98] }); go_loud (refine (HM.out.takeSpent tb F2 [1, 2, 3] (0 + 2) ([] ++ [({ data := #[97] }, 0, 2)]) { data := #[98] } 2 w2 HR2.out (by decide) (by decide) (by decide) (by decide)).mono ?_; rintro e w3 ⟨a3, c3, rfl, hb⟩; have HR3 := Lib.hid (HM.out.keep HR2.out (fun k hk => hb.block k (HM.out.inside HR2.out k hk))); have HB3 := Lib.hid (bt HB2.out hb); have HBK := Lib.hid hb; clear hb)))
  have hs := HO2.out
  obtain ⟨a9, c9, e9, hb9, hl9, hn9, hm9, hc9⟩ := own_form (l := [1, 2]) hs
  cases e9
  have hcv := (show Arg8 w2 a2 2 c2 [1, 2] from ⟨hl9, by intro x hx; simp at hx; omega, hb9, hn9, hm9⟩).strL w3 HBK.out
  rw [str12] at hcv
  clear hs hb9 hl9 hn9 hm9 hc9
  go_wp2_with (go_at_call 9; go_loud (refine (HM.out.left tb F2 [1, 2, 3] (0 + 2) _ w3 HR3.out (by decide) (by decide)).mono ?_; rintro e w4 ⟨rfl, hb⟩; have HB4 := Lib.hid (bt HB3.out hb); clear hb))
  go_ret
  exact ⟨rfl, HB4.out⟩
end Go.Proofs.Ytmiafhblllbimaa
