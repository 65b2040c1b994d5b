/- MediumApart, every case. -/
import Derived.Test.YtoonaendakjecaaUn
namespace Go.Proofs.Ytoonaendakjecaa
open Go.ChangeShapes Go.WideShapes Go.ChangeAt Go.RowKit Go.Shelf
set_option linter.unusedVariables false
set_option linter.unusedSimpArgs false
set_option maxRecDepth 100000

theorem mediumApart_long {R : World → Nat → (Nat → Prop) → MS → Option Nat → Prop} {P : World → Nat → (Nat → Prop) → Int → Nat → Prop} (hM : MediumM R P) (sz : Int) (a0 : Option Addr) (L0 c0 : Nat) (a1 : Option Addr) (L1 c1 : Nat) (l l1 : List AC) (w : World)
    (hl : ActA w a0 L0 c0 l) (hl1 : ActA w a1 L1 c1 l1) (hL : ¬ (((∀ x, x ∈ l → x.kn ≤ 60) ∧ L0 ≤ 60) ∧ ((∀ x, x ∈ l1 → x.kn ≤ 60) ∧ L1 ≤ 60))) :
    Calls Try.prog 6 #[.int .i64 sz, .slice a0 L0 c0, .slice a1 L1 c1] w fun e w' => e = .returned (.bool true) ∧ Below w.heap.size w w' := by
  have HM := Lib.hid hM
  have HL := Lib.hid hl
  have HL1 := Lib.hid hl1
  have HLV := Lib.hid (fun W => lives13 HM.out W)
  obtain ⟨fb, hfb⟩ : ∃ fb, fb = decide ((∀ x, x ∈ l → x.kn ≤ 60) ∧ L0 ≤ 60) := ⟨_, rfl⟩
  obtain ⟨fc, hfc⟩ : ∃ fc, fc = decide ((∀ x, x ∈ l1 → x.kn ≤ 60) ∧ L1 ≤ 60) := ⟨_, rfl⟩
  have HFB := Lib.hid hfb
  have HFC := Lib.hid hfc
  have hno : ¬ (fb = true ∧ fc = true) := fun h => hL ⟨of_decide_eq_true (by rw [← hfb]; exact h.1), of_decide_eq_true (by rw [← hfc]; exact h.2)⟩
  clear hM hl hl1 hL hfb hfc
  cases fb
  · clear hno
    go_enter Try.func6, Try.ntmps6
    go_upto_region 2 with (first
      | (go_at_call 7; go_loud (refine (HLV.out w).mono ?_; rintro e w1 ⟨rfl, hb⟩; have HB1 := Lib.hid hb; clear hb))
      | (go_at_call 8; go_loud (refine (few_any a0 L0 c0 l w1 (HL.out.on HB1.out)).mono ?_; rintro e w2 ⟨rfl, hb⟩; rw [← HFB.out]; have HB2 := Lib.hid (bt HB1.out hb); clear hb)))
    go_wp2_with (go_at_call 7; go_loud (refine (HLV.out w2).mono ?_; rintro e w3 ⟨rfl, hb⟩; have HB3 := Lib.hid (bt HB2.out hb); clear hb))
    go_ret
    exact ⟨rfl, HB3.out⟩
  · cases fc
    · clear hno
      go_enter Try.func6, Try.ntmps6
      go_upto_region 2 with (first
        | (go_at_call 7; go_loud (refine (HLV.out w).mono ?_; rintro e w1 ⟨rfl, hb⟩; have HB1 := Lib.hid hb; clear hb))
        | (go_at_call_of 8 (Value.slice a0 L0 c0); go_loud (refine (few_any a0 L0 c0 l w1 (HL.out.on HB1.out)).mono ?_; rintro e w2 ⟨rfl, hb⟩; rw [← HFB.out]; have HB2 := Lib.hid (bt HB1.out hb); clear hb))
        | (go_at_call_of 8 (Value.slice a1 L1 c1); go_loud (refine (few_any a1 L1 c1 l1 w2 (HL1.out.on HB2.out)).mono ?_; rintro e w3 ⟨rfl, hb⟩; rw [← HFC.out]; have HB3 := Lib.hid (bt HB2.out hb); clear hb)))
      go_wp2_with (go_at_call 7; go_loud (refine (HLV.out w3).mono ?_; rintro e w4 ⟨rfl, hb⟩; have HB4 := Lib.hid (bt HB3.out hb); clear hb))
      go_ret
      exact ⟨rfl, HB4.out⟩
    · exact absurd ⟨rfl, rfl⟩ hno
theorem mediumApart_any {R : World → Nat → (Nat → Prop) → MS → Option Nat → Prop} {P : World → Nat → (Nat → Prop) → Int → Nat → Prop} (hM : MediumM R P) (sz : Int) (a0 : Option Addr) (L0 c0 : Nat) (a1 : Option Addr) (L1 c1 : Nat) (w : World) (hz : (Lit.int .i64 sz).wf = true) (w0 : ∃ l, ActA w a0 L0 c0 l) (w1 : ∃ l, ActA w a1 L1 c1 l) :
    Calls Try.prog 6 #[.int .i64 sz, .slice a0 L0 c0, .slice a1 L1 c1] w fun e w' => e = .returned (.bool true) ∧ Below w.heap.size w w' := by
  obtain ⟨l, hl⟩ := w0
  obtain ⟨l1, hl1⟩ := w1
  have hz' : i64R sz := by
    have : -9223372036854775808 ≤ sz ∧ sz ≤ 9223372036854775807 := by simpa [Lit.wf, IntKind.min, IntKind.max, IntKind.signed, IntKind.bits] using hz
    exact this
  by_cases h : ((∀ x, x ∈ l → x.kn ≤ 60) ∧ L0 ≤ 60) ∧ ((∀ x, x ∈ l1 → x.kn ≤ 60) ∧ L1 ≤ 60)
  · exact mediumApart_core hM sz a0 L0 c0 a1 L1 c1 l l1 w hz' hl hl1 h.1 h.2
  · exact mediumApart_long hM sz a0 L0 c0 a1 L1 c1 l l1 w hl hl1 h
end Go.Proofs.Ytoonaendakjecaa
