/- The walk of PolyThrough. -/
import Derived.Test.YtgbcdmognobieaaPrules
import Derived.Test.YtgbcdmognobieaaPrth2
import Derived.Deep.RegionHeld
import Derived.Deep.Cut
namespace Go.Proofs.Ytgbcdmognobieaa
open Go.ChangeShapes Go.WideShapes Go.ChangeAt Go.RowKit Go.Shelf GF
set_option linter.unusedVariables false

/-- A row that a call hands back, said from an earlier world on. -/
theorem row_on {f : FuncId} {args : Array Value} {w0 W : World} {R R' : List GF} (hW : Below w0.heap.size w0 W) (er : R = R')
    (h : Calls Try.prog f args W fun e w' => ∃ v, e = .returned v ∧ w'.ownsRow W.heap.size 5 1 v R.length ((iL R).map (Value.int .u8)) ∧ Below W.heap.size W w') :
    Calls Try.prog f args W fun e w' => ∃ a c, e = .returned (.slice a R'.length c) ∧ Pa w' a R'.length c R' ∧ Below w0.heap.size w0 w' ∧ Below W.heap.size W w' := by
  subst er
  refine h.mono ?_
  rintro e w' ⟨v, rfl, hown, hb⟩
  obtain ⟨a, c, rfl, hp⟩ := own_pa hown
  exact ⟨a, c, rfl, hp, bt hW hb, hb⟩

set_option maxRecDepth 100000 in
set_option maxHeartbeats 4000000 in
theorem polyThrough_bad (a0 : Option Addr) (len0 cap0 : Nat) (a1 : Option Addr) (len1 cap1 : Nat) (x : GF) (w : World) (X : List GF)
    (hX : Pa w a0 len0 cap0 X) (hb1 : len1 ≤ cap1 ∧ cap1 ≤ 9223372036854775807) (h0 : len0 ≤ 40) (h1 : len1 ≤ 40) (hE : plErr X ≠ 0) :
    Calls Try.prog 6 #[.slice a0 len0 cap0, .slice a1 len1 cap1, .int .u8 (toI x)] w fun e w' => e = .returned (.bool true) ∧ Below w.heap.size w w' := by
  have HX := Lib.hid hX
  have hb0 := hX.bd
  have HE := Lib.hid hE
  have qe : (plErr X != 0) = true := by rw [bne_iff_ne]; exact hE
  clear hX hE
  by_cases hl : len0 = len1
  · subst hl
    go_enter Try.func6, Try.ntmps6
    go_wp2_with (first
      | (go_at_call 9; refine (lives_any _).mono ?_; rintro e w1 ⟨rfl, hB1⟩)
      | (go_at_call 10; refine (new_any _).mono ?_; rintro e w2 ⟨b, rfl, _, hf, hB2⟩; have HB2 := Lib.hid (bt hB1 hB2); clear hB1 hB2)
      | (go_at_call 22; go_loud (refine (through_bad b a0 len0 cap0 X a1 cap1 _ (HX.out.on HB2.out) HE.out).mono ?_); rintro e w3 ⟨rfl, hb3⟩; have HB3 := Lib.hid (bt HB2.out hb3); clear hb3)
      | (go_at_call 23; go_loud (refine (weights_bad b a0 len0 cap0 X x _ (HX.out.on HB3.out) HE.out).mono ?_); rintro e w4 ⟨rfl, hb4⟩; have HB4 := Lib.hid (bt HB3.out hb4); clear hb4)
      | (go_at_call 24; go_loud (refine (rplaces_any a0 len0 cap0 X _ (HX.out.on HB4.out)).mono ?_); rintro e w5 ⟨rfl, hb5⟩; have HB5 := Lib.hid (bt HB4.out hb5); clear hb5))
    go_loopw [49] (fun j wr => j = .int .i64 0 ∧ wr = w5) (fun _ _ => 0)
    case atStart => exact ⟨rfl, rfl⟩
    case round =>
      obtain ⟨rfl, rfl⟩ := hrel
      go_wp2
      go_ret
      exact ⟨rfl, HB5.out⟩
  · have ql : ((len0 : Int) != (len1 : Int)) = true := by rw [bne_iff_ne]; omega
    have HN := Lib.hid hl
    clear hl
    go_enter Try.func6, Try.ntmps6
    go_wp2_with (first
      | (go_at_call 9; refine (lives_any _).mono ?_; rintro e w1 ⟨rfl, hB1⟩)
      | (go_at_call 10; refine (new_any _).mono ?_; rintro e w2 ⟨b, rfl, _, hf, hB2⟩; have HB2 := Lib.hid (bt hB1 hB2); clear hB1 hB2)
      | (go_at_call 22; go_loud (refine (through_uneq _ a0 len0 cap0 a1 len1 cap1 _ HN.out).mono ?_); rintro e w' ⟨rfl, rfl⟩)
      | (go_at_call 23; go_loud (refine (weights_bad b a0 len0 cap0 X x _ (HX.out.on HB2.out) HE.out).mono ?_); rintro e w4 ⟨rfl, hb4⟩; have HB4 := Lib.hid (bt HB2.out hb4); clear hb4)
      | (go_at_call 24; go_loud (refine (rplaces_any a0 len0 cap0 X _ (HX.out.on HB4.out)).mono ?_); rintro e w5 ⟨rfl, hb5⟩; have HB5 := Lib.hid (bt HB4.out hb5); clear hb5))
    go_loopw [49] (fun j wr => j = .int .i64 0 ∧ wr = w5) (fun _ _ => 0)
    case atStart => exact ⟨rfl, rfl⟩
    case round =>
      obtain ⟨rfl, rfl⟩ := hrel
      go_wp2
      go_ret
      exact ⟨rfl, HB5.out⟩

set_option maxRecDepth 100000 in
set_option maxHeartbeats 4000000 in
theorem polyThrough_eq (a0 : Option Addr) (len0 cap0 : Nat) (a1 : Option Addr) (len1 cap1 : Nat) (x : GF) (w : World) (X Y : List GF)
    (hX : Pa w a0 len0 cap0 X) (hY : Pa w a1 len1 cap1 Y) (h0 : len0 ≤ 40) (h1 : len1 ≤ 40) (hE : plErr X = 0) (hl : len0 = len1) :
    Calls Try.prog 6 #[.slice a0 len0 cap0, .slice a1 len1 cap1, .int .u8 (toI x)] w fun e w' => e = .returned (.bool true) ∧ Below w.heap.size w w' := by
  subst hl
  have HX := Lib.hid hX
  have HY := Lib.hid hY
  have hb0 := hX.bd
  have hb1 := hY.bd
  have hl0 := Lib.hid hX.len
  have HE := Lib.hid hE
  have hpl : ∀ w1 : World, Below w.heap.size w w1 → Calls Try.prog 24 #[.slice a0 len0 cap0] w1 fun e w' => e = .returned (.int .i64 0) ∧ Below w1.heap.size w1 w' := fun w1 hb => by
    have := rplaces_any a0 len0 cap0 X w1 (hX.on hb)
    rwa [hE] at this
  have HPl := Lib.hid hpl
  clear hX hY hE hpl
  go_enter Try.func6, Try.ntmps6
  go_wp2_with (first
    | (go_at_call 9; refine (lives_any _).mono ?_; rintro e w1 ⟨rfl, hB1⟩)
    | (go_at_call 10; refine (new_any _).mono ?_; rintro e w2 ⟨b, rfl, _, hf, hB2⟩; have HF := Lib.hid hf; have HB2 := Lib.hid (bt hB1 hB2); clear hB1 hB2 hf)
    | (go_at_call 22; go_loud (refine (through_any b a0 len0 cap0 X a1 cap1 Y _ HF.out (HX.out.on HB2.out) (HY.out.on HB2.out) HE.out).mono ?_); rintro e w3 ⟨v3, rfl, hown, hb3⟩; obtain ⟨a3, c3, rfl, hp3⟩ := own_pa hown; have HT := Lib.hid hp3; have HB3 := Lib.hid (bt HB2.out hb3); have HF3 := Lib.hid (HF.out.below hb3); clear hb3 hown hp3)
    | (go_at_call 23; go_loud (refine (weights_any b a0 len0 cap0 X x _ HF3.out (HX.out.on HB3.out) HE.out).mono ?_); rintro e w4 ⟨g4, rfl, hown, hb4⟩; have HW4 := Lib.hid hown; have HB4 := Lib.hid (bt HB3.out hb4); have HT4 := Lib.hid (HT.out.on hb4); clear hb4 hown)
    | (go_at_call 24; go_loud (refine (HPl.out _ HB4.out).mono ?_); rintro e w5 ⟨rfl, hb5⟩; have HB5 := Lib.hid (bt HB4.out hb5); have hWo := Lib.hid (own_on HW4.out hb5 (HW4.out.lt g4 rfl).2); have HT5 := Lib.hid (HT4.out.on hb5); clear hb5))
  have HX5 := Lib.hid (HX.out.on HB5.out)
  have HW := Lib.hid (Pa.own2 hWo.out)
  go_loopw [49] (fun j wr => ∃ k : Nat, k ≤ len0 ∧ j = .int .i64 (k : Nat) ∧ Hid (Below w5.heap.size w5 wr))
    (fun j _ => len0 - (intOf j).toNat)
  case atStart => exact ⟨0, Nat.zero_le _, rfl, Lib.hid (Below.refl _ _)⟩
  case round =>
    obtain ⟨k, hk, rfl, hB⟩ := hrel
    by_cases hlt : k < len0
    · obtain ⟨bw, ow, he, hbw, hcw⟩ := HW.out.at_ hlt
      cases he
      rw [co_wts x (by rw [hl0.out]; exact hlt), Nat.zero_add] at hcw
      have q8 : (k : Int) < (len0 : Int) := by omega
      have q9 : (0 : Int) ≤ (k : Int) := by omega
      have hcw2 : wr.drew.cell? ⟨g4, k, none⟩ = some (.int .u8 (toI (wt X k x))) := (hB.out.cell (p := ⟨g4, k, none⟩) hbw).trans hcw
      have hbd : Below w5.heap.size w5 wr.drew := hB.out.drew
      have HWt := Lib.hid (fun (W : World) (hW : Below w5.heap.size w5 W) => (rweight_any a0 len0 cap0 k X x W (HX5.out.on hW) hlt (by omega)).mono (R' := fun e w' => e = .returned (.int .u8 (toI (wt X k x))) ∧ Below w5.heap.size w5 w') (fun e w' ⟨h1, h2⟩ => ⟨h1, bt hW h2⟩))
      go_upto_region 12 with fail
      go_region_held (fun W => W.cell? ⟨g4, k, none⟩ = some (.int .u8 (toI (wt X k x))) ∧ Below w5.heap.size w5 W) (first | exact ⟨hcw2, hbd⟩ | assumption | exact ⟨(hb9.cell (p := ⟨g4, k, none⟩) hbw).trans hcw, hb9⟩)
        (first | (go_at_call 25; refine (HWt.out _ hbd).mono ?_; rintro e w9 ⟨rfl, hb9⟩))
      all_goals
        go_wp2
        go_roundw
        case rel => exact ⟨k + 1, by omega, by go_num, Lib.hid hb9⟩
        case measure => simp [intOf]; omega
    · obtain rfl : k = len0 := by omega
      have HXr := Lib.hid (HX5.out.on hB.out)
      have HYr := Lib.hid (HY.out.on (bt HB5.out hB.out))
      have HTr := Lib.hid (HT5.out.on hB.out)
      have hcvT := HTr.out.str_on rfl
      have HRT := Lib.hid (fun (W : World) (hW : Below wr.heap.size wr W) => row_on hW rfl (rthrough_any a0 k cap0 X a1 cap1 Y W (HXr.out.on hW) (HYr.out.on hW) (by omega)))
      go_upto_region 19 with fail
      go_region_held (fun W => Below wr.heap.size wr W) (first | exact (Below.refl _ _).drew | assumption)
        (first | (go_at_call 26; refine (HRT.out _ (by assumption)).mono ?_; rintro e w8 ⟨a8, c8, rfl, hp8, hb8, hl8⟩; have hcv8 := hp8.str_on rfl; have hrf8 := Below.refl w8.heap.size w8))
      all_goals
        go_wp2
        go_ret
        exact ⟨rfl, bt HB5.out (bt hB.out (by assumption))⟩

set_option maxRecDepth 100000 in
set_option maxHeartbeats 4000000 in
theorem polyThrough_ne (a0 : Option Addr) (len0 cap0 : Nat) (a1 : Option Addr) (len1 cap1 : Nat) (x : GF) (w : World) (X Y : List GF)
    (hX : Pa w a0 len0 cap0 X) (hY : Pa w a1 len1 cap1 Y) (h0 : len0 ≤ 40) (h1 : len1 ≤ 40) (hE : plErr X = 0) (hl : len0 ≠ len1) :
    Calls Try.prog 6 #[.slice a0 len0 cap0, .slice a1 len1 cap1, .int .u8 (toI x)] w fun e w' => e = .returned (.bool true) ∧ Below w.heap.size w w' := by
  have ql : ((len0 : Int) != (len1 : Int)) = true := by rw [bne_iff_ne]; omega
  have HN := Lib.hid hl
  clear hl
  have HX := Lib.hid hX
  have HY := Lib.hid hY
  have hb0 := hX.bd
  have hb1 := hY.bd
  have hl0 := Lib.hid hX.len
  have HE := Lib.hid hE
  have hpl : ∀ w1 : World, Below w.heap.size w w1 → Calls Try.prog 24 #[.slice a0 len0 cap0] w1 fun e w' => e = .returned (.int .i64 0) ∧ Below w1.heap.size w1 w' := fun w1 hb => by
    have := rplaces_any a0 len0 cap0 X w1 (hX.on hb)
    rwa [hE] at this
  have HPl := Lib.hid hpl
  clear hX hY hE hpl
  go_enter Try.func6, Try.ntmps6
  go_wp2_with (first
    | (go_at_call 9; refine (lives_any _).mono ?_; rintro e w1 ⟨rfl, hB1⟩)
    | (go_at_call 10; refine (new_any _).mono ?_; rintro e w2 ⟨b, rfl, _, hf, hB2⟩; have HF := Lib.hid hf; have HB2 := Lib.hid (bt hB1 hB2); clear hB1 hB2 hf)
    | (go_at_call 22; go_loud (refine (through_uneq _ a0 len0 cap0 a1 len1 cap1 _ HN.out).mono ?_); rintro e w' ⟨rfl, rfl⟩; have HB3 := HB2; have HF3 := HF)
    | (go_at_call 23; go_loud (refine (weights_any b a0 len0 cap0 X x _ HF3.out (HX.out.on HB3.out) HE.out).mono ?_); rintro e w4 ⟨g4, rfl, hown, hb4⟩; have HW4 := Lib.hid hown; have HB4 := Lib.hid (bt HB3.out hb4);  clear hb4 hown)
    | (go_at_call 24; go_loud (refine (HPl.out _ HB4.out).mono ?_); rintro e w5 ⟨rfl, hb5⟩; have HB5 := Lib.hid (bt HB4.out hb5); have hWo := Lib.hid (own_on HW4.out hb5 (HW4.out.lt g4 rfl).2);  clear hb5))
  have HX5 := Lib.hid (HX.out.on HB5.out)
  have HW := Lib.hid (Pa.own2 hWo.out)
  go_loopw [49] (fun j wr => ∃ k : Nat, k ≤ len0 ∧ j = .int .i64 (k : Nat) ∧ Hid (Below w5.heap.size w5 wr))
    (fun j _ => len0 - (intOf j).toNat)
  case atStart => exact ⟨0, Nat.zero_le _, rfl, Lib.hid (Below.refl _ _)⟩
  case round =>
    obtain ⟨k, hk, rfl, hB⟩ := hrel
    by_cases hlt : k < len0
    · obtain ⟨bw, ow, he, hbw, hcw⟩ := HW.out.at_ hlt
      cases he
      rw [co_wts x (by rw [hl0.out]; exact hlt), Nat.zero_add] at hcw
      have q8 : (k : Int) < (len0 : Int) := by omega
      have q9 : (0 : Int) ≤ (k : Int) := by omega
      have hcw2 : wr.drew.cell? ⟨g4, k, none⟩ = some (.int .u8 (toI (wt X k x))) := (hB.out.cell (p := ⟨g4, k, none⟩) hbw).trans hcw
      have hbd : Below w5.heap.size w5 wr.drew := hB.out.drew
      have HWt := Lib.hid (fun (W : World) (hW : Below w5.heap.size w5 W) => (rweight_any a0 len0 cap0 k X x W (HX5.out.on hW) hlt (by omega)).mono (R' := fun e w' => e = .returned (.int .u8 (toI (wt X k x))) ∧ Below w5.heap.size w5 w') (fun e w' ⟨h1, h2⟩ => ⟨h1, bt hW h2⟩))
      go_upto_region 12 with fail
      go_region_held (fun W => W.cell? ⟨g4, k, none⟩ = some (.int .u8 (toI (wt X k x))) ∧ Below w5.heap.size w5 W) (first | exact ⟨hcw2, hbd⟩ | assumption | exact ⟨(hb9.cell (p := ⟨g4, k, none⟩) hbw).trans hcw, hb9⟩)
        (first | (go_at_call 25; refine (HWt.out _ hbd).mono ?_; rintro e w9 ⟨rfl, hb9⟩))
      all_goals
        go_wp2
        go_roundw
        case rel => exact ⟨k + 1, by omega, by go_num, Lib.hid hb9⟩
        case measure => simp [intOf]; omega
    · obtain rfl : k = len0 := by omega
      go_wp2
      go_ret
      exact ⟨rfl, bt HB5.out hB.out⟩

theorem polyThrough_walk (a0 : Option Addr) (len0 cap0 : Nat) (a1 : Option Addr) (len1 cap1 : Nat) (x : Int) (w : World) (w0 : ∃ l, Arg8c w a0 len0 cap0 l) (w1 : ∃ l, Arg8c w a1 len1 cap1 l) (w2 : (Lit.int .u8 x).wf = true) :
    Calls Try.prog 6 #[.slice a0 len0 cap0, .slice a1 len1 cap1, .int .u8 x] w fun e w' => e = .returned (.bool true) ∧ Below w.heap.size w w' := by
  obtain ⟨l, hl⟩ := w0
  obtain ⟨m, hm⟩ := w1
  obtain ⟨x, rfl⟩ := toG_of w2
  have b0 := (Pa.of hl).bd
  have b1 := (Pa.of hm).bd
  by_cases h0 : len0 ≤ 40
  · by_cases h1 : len1 ≤ 40
    · by_cases hE : plErr (gL l) = 0
      · by_cases he : len0 = len1
        · exact polyThrough_eq a0 len0 cap0 a1 len1 cap1 x w _ _ (Pa.of hl) (Pa.of hm) h0 h1 hE he
        · exact polyThrough_ne a0 len0 cap0 a1 len1 cap1 x w _ _ (Pa.of hl) (Pa.of hm) h0 h1 hE he
      · exact polyThrough_bad a0 len0 cap0 a1 len1 cap1 x w _ (Pa.of hl) b1 h0 h1 hE
    · clear hl hm w2
      have q : (40 : Int) < (len1 : Int) := by omega
      go_enter Try.func6, Try.ntmps6
      go_wp2_with (go_at_call 9; refine (lives_any _).mono ?_; rintro e w' ⟨rfl, hbel⟩)
      go_ret
      exact ⟨rfl, bt (by assumption) (by assumption)⟩
  · clear hl hm w2
    have q : (40 : Int) < (len0 : Int) := by omega
    go_enter Try.func6, Try.ntmps6
    go_wp2_with (go_at_call 9; refine (lives_any _).mono ?_; rintro e w' ⟨rfl, hbel⟩)
    go_ret
    exact ⟨rfl, bt (by assumption) (by assumption)⟩
end Go.Proofs.Ytgbcdmognobieaa
