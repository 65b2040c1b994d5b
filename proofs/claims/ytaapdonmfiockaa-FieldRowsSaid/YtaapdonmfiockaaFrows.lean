/- The walk of FieldRows. -/
import Derived.Test.YtaapdonmfiockaaFrow
import Derived.Deep.Cut
namespace Go.Proofs.Ytaapdonmfiockaa
open Go.ChangeShapes Go.WideShapes Go.ChangeAt Go.RowKit
set_option linter.unusedVariables false

theorem own_block_le (g n c : Nat) : ∀ k, (Value.slice (some ⟨g, 0, none⟩) n c).ownBlock = some k → g ≤ k := fun k hk => by cases hk; exact Nat.le_refl _
theorem own_empty (w : World) (e : TypeId) : (w.alloc (.cells #[] e)).ownsRow w.heap.size e 1 (.slice (some ⟨w.heap.size, 0, none⟩) 0 0) 0 (([] : List Int).map (Value.int .u8)) :=
  World.ownsRow_lit (base := w.heap.size) (e := e) (size := 1) w #[] 0 (Nat.le_refl _) (Nat.zero_le _) rfl
theorem below_drewN {B : Nat} {a w : World} (h : Below B a w) (n : Nat) : Below B a (w.drewN n) := ⟨h.os, h.tape, h.output, h.size, h.block⟩
theorem scale_nil (c : Int) (v : Value) (w : World) : Calls Try.prog 20 #[.pointer none, .int .u8 c, v] w fun e w' => e = .returned (.slice none 0 0) ∧ w = w' := by
  go_enter Try.func20, Try.ntmps20
  go_wp2
  go_ret
  exact ⟨rfl, rfl⟩
theorem sum_nil (c : Int) (u v : Value) (w : World) : Calls Try.prog 21 #[.pointer none, u, .int .u8 c, v] w fun e w' => e = .returned (.slice none 0 0) ∧ w = w' := by
  go_enter Try.func21, Try.ntmps21
  go_wp2
  go_ret
  exact ⟨rfl, rfl⟩

set_option maxRecDepth 100000 in
set_option maxHeartbeats 2000000 in
theorem fieldRows_core (a0 : Option Addr) (len0 cap0 : Nat) (a1 : Option Addr) (len1 cap1 : Nat) (c : Int) (w : World) (l m : List Int) (HA : Hid (Arg8c w a0 len0 cap0 l)) (HB : Hid (Arg8c w a1 len1 cap1 m)) (hc : 0 ≤ c ∧ c < 256)
    (h0 : len0 ≤ 200) (h1 : len1 ≤ 200) (hc0 : len0 ≤ cap0) (hc1 : len1 ≤ cap1) :
    Calls Try.prog 7 #[.slice a0 len0 cap0, .slice a1 len1 cap1, .int .u8 c] w fun e w' => e = .returned (.bool true) ∧ Below w.heap.size w w' := by
  have HL0 := Lib.hid HA.out.1.1
  have HL1 := Lib.hid HB.out.1.1
  obtain ⟨i5, hi, hz0, hz1, hz2⟩ := info_parts info5
  have HI := Lib.hid (And.intro hi (And.intro hz0 (And.intro hz1 hz2)))
  clear hi hz0 hz1 hz2
  go_enter Try.func7, Try.ntmps7
  go_upto_region 8 with (first
    | (go_at_call 8; refine (lives_any _).mono ?_; rintro e wa ⟨rfl, hBa⟩)
    | (go_at_call 9; refine (new_any _).mono ?_; rintro e wb ⟨b, rfl, hb0, hf, hBb⟩; have HF := Lib.hid hf; clear hf hb0)
    | ((with_reducible show wpList _ _ _ (⟨some 37, _, _, _, _, _⟩ :: _) _ _); go_loud (refine wpList_append_bs _ rfl (.tmp 35) (.tmp 36) 37 rfl wb.heap.size 5 i5 Try.underlying37 HI.out.1 HI.out.2.1 HI.out.2.2.1 HI.out.2.2.2 _ 0 [] rfl (own_empty wb _) a0 len0 cap0 w.heap.size l rfl (HA.out.1.2.2.1.below (bt (bt hBa hBb) ((Below.refl _ _).alloc (Nat.le_refl _) _))) HL0.out HA.out.2 (by omega) (by simp) ?_); go_loud (intro v1 wc hown1 hg1; rw [Nat.zero_add, List.nil_append] at hown1; obtain ⟨ac, cc, rfl, hbs, hls, hcc1, hcc2, hcc3⟩ := own_form hown1; have hBc : Below wb.heap.size wb wc := ((Below.refl _ _).alloc (Nat.le_refl _) _).grown hg1 (by simp) (own_block_le _ _ _); have HC := Lib.hid (show Arg8 wc ac len0 cc l from ⟨HL0.out, HA.out.1.2.1, hbs, hcc1, hcc2⟩); clear hbs hls hcc3 hown1 hg1))
    | (go_at_call 20; go_loud (refine (scale_any b c a1 len1 cap1 m _ (HF.out.below hBc) hc (HB.out.1.on (bt (bt hBa hBb) hBc)) (by omega)).mono ?_); rintro e wd ⟨gs, rfl, hownS, hBd⟩; have HS := Lib.hid hownS; clear hownS)
    | (go_at_call 21; go_loud (refine (sum_any b c ac len0 cc l a1 len1 cap1 m _ ((HF.out.below hBc).below hBd) hc (HC.out.on hBd) (HB.out.1.on (bt (bt (bt hBa hBb) hBc) hBd)) (by omega)).mono ?_); rintro e we ⟨gt, rfl, hownT, hBe⟩; have HT := Lib.hid hownT; clear hownT; have hcvO : (convert 37 9 (.slice ac len0 cc)).run Try.prog we = .ok (.string (strOfNums l)) we := (HC.out.on (bt hBd hBe)).2.2.1.str HL0.out Try.underlying37 Try.underlying5 Try.underlying9; have hcvA : (convert 37 9 (.slice a0 len0 cap0)).run Try.prog we = .ok (.string (strOfNums l)) we := (HA.out.1.on (bt (bt (bt (bt hBa hBb) hBc) hBd) hBe)).2.2.1.str HL0.out Try.underlying37 Try.underlying5 Try.underlying9)
    | fail)
  have hBw := Lib.hid (bt (bt (bt (bt hBa hBb) hBc) hBd) hBe)
  have HFe := Lib.hid (((HF.out.below hBc).below hBd).below hBe)
  have HBe := Lib.hid (HB.out.1.on hBw.out)
  have HAe := Lib.hid (HA.out.1.on hBw.out)
  have HSe := Lib.hid ((Arg8.own HS.out (allB_scaL c m) ⟨Nat.le_refl _, by unfold maxLen; omega⟩).on hBe)
  have HTe := Lib.hid (Arg8.own HT.out (allB_sumL c m HA.out.1.2.1) ⟨Nat.le_refl _, by unfold maxLen; omega⟩)
  clear hBa hBb hBc hBd hBe hcvO hcvA
  go_wp2
  go_loopw [68] (fun i wr => ∃ k : Nat, k ≤ len1 ∧ i = .int .i64 (k : Nat) ∧ Below we.heap.size we wr) (fun i _ => len1 - (intOf i).toNat)
  case atStart => exact ⟨0, Nat.zero_le _, rfl, Below.refl _ _⟩
  case round =>
    obtain ⟨k, hk, rfl, hbr⟩ := hrel
    by_cases hlt : k < len1
    · obtain ⟨b1, o1, rfl, hb1, hcb⟩ := (HBe.out.on hbr).2.2.1.at_ (k := k) (by rw [HL1.out]; omega)
      obtain ⟨bs, os, hs, hbs, hcs⟩ := (HSe.out.on hbr).2.2.1.at_ (k := k) (by rw [length_scaL, HL1.out]; omega)
      injection hs with hs
      injection hs with hs1 hs2
      subst hs1 hs2
      rw [Nat.zero_add, scaL_getD c (by rw [HL1.out]; exact hlt)] at hcs
      have wY := allB_getD HB.out.1.2.1 k
      obtain ⟨Y, hY⟩ : ∃ Y, Y = m.getD k 0 := ⟨_, rfl⟩
      rw [← hY] at hcb hcs wY
      clear hY
      have hfw := HFe.out.below hbr
      have HR := Lib.hid hbr
      clear hbr
      have q1 : (k : Int) < (len1 : Int) := by omega
      have q3 : (0 : Int) ≤ (k : Int) := by omega
      go_wp2_with fail
      go_quiet ((go_at_call 10; exact Calls.quiet_of_same ((mul_I _ _ _ _ (hfw.drewN _) hc wY).mono fun _ _ ⟨he, hw⟩ => ⟨he, hw.symm⟩)))
      go_wp2
      go_roundw
      case rel => exact ⟨k + 1, by omega, by go_num, below_drewN HR.out _⟩
      case measure => simp [intOf]; omega
    · obtain rfl : len1 = k := by omega
      go_wp2
      go_loopw [86] (fun i wq => ∃ j : Nat, j ≤ len0 ∧ i = .int .i64 (j : Nat) ∧ Below we.heap.size we wq) (fun i _ => len0 - (intOf i).toNat)
      case atStart => exact ⟨0, Nat.zero_le _, rfl, hbr⟩
      case round =>
        obtain ⟨j, hj, rfl, hbq⟩ := hrel
        by_cases hlt0 : j < len0
        · obtain ⟨b0, o0, rfl, hb0, hca⟩ := (HAe.out.on hbq).2.2.1.at_ (k := j) (by rw [HL0.out]; omega)
          obtain ⟨bs, os, hs, hbs, hct⟩ := (HTe.out.on hbq).2.2.1.at_ (k := j) (by rw [length_sumL, HL0.out]; omega)
          injection hs with hs
          injection hs with hs1 hs2
          subst hs1 hs2
          rw [Nat.zero_add, sumL_getD c m (by rw [HL0.out]; exact hlt0)] at hct
          have wX := allB_getD HA.out.1.2.1 j
          obtain ⟨X, hX⟩ : ∃ X, X = l.getD j 0 := ⟨_, rfl⟩
          rw [← hX] at hca hct wX
          clear hX
          have hfw := HFe.out.below hbq
          have q1 : (j : Int) < (len0 : Int) := by omega
          have q3 : (0 : Int) ≤ (j : Int) := by omega
          by_cases hj1 : j < len1
          · obtain ⟨b1, o1, rfl, hb1, hcb⟩ := (HBe.out.on hbq).2.2.1.at_ (k := j) (by rw [HL1.out]; omega)
            rw [if_pos (by rw [HL1.out]; exact hj1)] at hct
            have wY := allB_getD HB.out.1.2.1 j
            obtain ⟨Y, hY⟩ : ∃ Y, Y = m.getD j 0 := ⟨_, rfl⟩
            rw [← hY] at hcb hct wY
            clear hY
            have wG := gmI_bd c Y
            have HR := Lib.hid hbq
            clear hbq
            have q2 : (j : Int) < (len1 : Int) := by omega
            go_wp2_with (first
              | (go_at_call 10; refine (mul_I _ _ _ _ hfw hc wY).mono ?_; rintro e w' ⟨rfl, rfl⟩)
              | (go_at_call 11; refine (add_I _ _ wX wG _).mono ?_; rintro e w' ⟨rfl, rfl⟩))
            go_roundw
            case rel => exact ⟨j + 1, by omega, by go_num, HR.out⟩
            case measure => simp [intOf]; omega
          · rw [if_neg (by rw [HL1.out]; exact hj1)] at hct
            have HR := Lib.hid hbq
            clear hbq
            have q2 : ¬ (j : Int) < (len1 : Int) := by omega
            go_wp2
            go_roundw
            case rel => exact ⟨j + 1, by omega, by go_num, HR.out⟩
            case measure => simp [intOf]; omega
        · obtain rfl : len0 = j := by omega
          have HR := Lib.hid hbq
          clear hbq
          go_wp2_with (first
            | (go_at_call 16; refine (inv_nil _ _).mono ?_; rintro e w' ⟨rfl, rfl⟩)
            | (go_at_call 17; refine (div_nil _ _ _).mono ?_; rintro e w' ⟨rfl, rfl⟩)
            | (go_at_call 13; refine (log_nil _ _).mono ?_; rintro e w' ⟨rfl, rfl⟩)
            | (go_at_call 10; refine (mul_nil _ _ _).mono ?_; rintro e w' ⟨rfl, rfl⟩)
            | (go_at_call 12; refine (pow_nil _ _ _).mono ?_; rintro e w' ⟨rfl, rfl⟩)
            | (go_at_call 20; refine (scale_nil _ _ _).mono ?_; rintro e w' ⟨rfl, rfl⟩)
            | (go_at_call 21; refine (sum_nil _ _ _ _).mono ?_; rintro e w' ⟨rfl, rfl⟩))
          go_ret
          exact ⟨rfl, bt hBw.out HR.out⟩

set_option maxRecDepth 100000 in
theorem fieldRows_walk (a0 : Option Addr) (len0 cap0 : Nat) (a1 : Option Addr) (len1 cap1 : Nat) (c : Int) (w : World) (w0 : ∃ l, Arg8c w a0 len0 cap0 l) (w1 : ∃ l, Arg8c w a1 len1 cap1 l) (w2 : (Lit.int .u8 c).wf = true) :
    Calls Try.prog 7 #[.slice a0 len0 cap0, .slice a1 len1 cap1, .int .u8 c] w fun e w' => e = .returned (.bool true) ∧ Below w.heap.size w w' := by
  obtain ⟨l, hA⟩ := w0
  obtain ⟨m, hB⟩ := w1
  have hc := wf_u8 w2
  have hc0 : len0 ≤ cap0 := hA.1.2.2.2.1
  have hc1 : len1 ≤ cap1 := hB.1.2.2.2.1
  have hl0 : len0 ≤ 9223372036854775807 := by have := hA.1.2.2.2.2; unfold maxLen at this; omega
  have hl1 : len1 ≤ 9223372036854775807 := by have := hB.1.2.2.2.2; unfold maxLen at this; omega
  by_cases h0 : len0 ≤ 200
  · by_cases h1 : len1 ≤ 200
    · exact fieldRows_core a0 len0 cap0 a1 len1 cap1 c w l m (Lib.hid hA) (Lib.hid hB) hc h0 h1 hc0 hc1
    · clear hA hB
      have h1' : 200 < len1 := by omega
      go_enter Try.func7, Try.ntmps7
      go_wp2_with (go_at_call 8; refine (lives_any _).mono ?_; rintro e w' ⟨rfl, hbel⟩)
      go_ret
      exact ⟨rfl, bt (by assumption) (by assumption)⟩
  · clear hA hB
    have h0' : 200 < len0 := by omega
    go_enter Try.func7, Try.ntmps7
    go_wp2_with (go_at_call 8; refine (lives_any _).mono ?_; rintro e w' ⟨rfl, hbel⟩)
    go_ret
    exact ⟨rfl, bt (by assumption) (by assumption)⟩
end Go.Proofs.Ytaapdonmfiockaa
