/- The walk of PolySums (written by gen10.py: once for each of the two orders of the lengths). -/
import Derived.Test.YtgbcdmognobieaaPrules
import Derived.Test.YtgbcdmognobieaaPref
import Derived.Deep.CutRange
namespace Go.Proofs.Ytgbcdmognobieaa
open Go.ChangeShapes Go.WideShapes Go.ChangeAt Go.RowKit Go.Shelf GF
set_option linter.unusedVariables false

/-- A row that a call hands back, said from an earlier world on. -/
theorem on_row {f : FuncId} {args : Array Value} {w0 W : World} {R R' : List GF} (hW : Below w0.heap.size w0 W) (er : R = R')
    (h : Calls Try.prog f args W fun e w' => ∃ v, e = .returned v ∧ w'.ownsRow W.heap.size 5 1 v R.length ((iL R).map (Value.int .u8)) ∧ Below W.heap.size W w') :
    Calls Try.prog f args W fun e w' => ∃ a c, e = .returned (.slice a R'.length c) ∧ Pa w' a R'.length c R' ∧ Below w0.heap.size w0 w' ∧ Below W.heap.size W w' := by
  subst er
  refine h.mono ?_
  rintro e w' ⟨v, rfl, hown, hb⟩
  obtain ⟨a, c, rfl, hp⟩ := own_pa hown
  exact ⟨a, c, rfl, hp, bt hW hb, hb⟩
theorem cp1 (w : World) (M : Nat) : (w.alloc (.cells (madeCells #[.int .u8 0] M) 5)).heap[w.heap.size]? = some (.cells (madeCells #[.int .u8 0] M).toList.toArray 5 (0, 0)) := by rw [Array.toArray_toList]; exact heap_alloc_new w _
theorem cp2 {P : List GF} {L M : Nat} (hl : P.length = L) (h : L ≤ M) : ((iL P).map (Value.int .u8)).length = Nat.min L M := by rw [List.length_map, length_iL, hl]; exact (Nat.min_eq_left h).symm
theorem cp5 (w : World) (M : Nat) : Below w.heap.size w (w.alloc (.cells (madeCells #[.int .u8 0] M) 5)) := (Below.refl _ _).alloc (Nat.le_refl _) _
theorem cp3 {w : World} {a : Option Addr} {L cap : Nat} {P : List GF} (hx : Pa w a L cap P) (M : Nat) : 0 < ((iL P).map (Value.int .u8)).length → ∃ ad, a = some ad ∧ ∀ j v, ((iL P).map (Value.int .u8))[j]? = some v → (w.alloc (.cells (madeCells #[.int .u8 0] M) 5)).cell? (ad.add j) = some v :=
  fun h0 => (hx.1.2.2.1.below (cp5 w M)).cells h0
theorem cp4 {P : List GF} {L M : Nat} (hl : P.length = L) (h : L ≤ M) : 0 + ((iL P).map (Value.int .u8)).length ≤ (madeCells #[Value.int .u8 0] M).toList.length := by simp [length_iL, hl, size_madeCells]; omega

set_option maxRecDepth 100000 in
set_option maxHeartbeats 4000000 in
theorem polySums_lt (a0 : Option Addr) (len0 cap0 : Nat) (a1 : Option Addr) (len1 cap1 : Nat) (x : GF) (w : World) (P Q : List GF)
    (hP : Pa w a0 len0 cap0 P) (hQ : Pa w a1 len1 cap1 Q) (h0 : len0 ≤ 60) (h1 : len1 ≤ 60) (hc : len0 < len1) :
    Calls Try.prog 4 #[.slice a0 len0 cap0, .slice a1 len1 cap1, .int .u8 (toI x)] w fun e w' => e = .returned (.bool true) ∧ Below w.heap.size w w' := by
  have hM1 : len0 ≤ len1 := by omega
  have hM2 : len1 ≤ len1 := by omega
  have hM3 : len1 ≤ 60 := by omega
  have qc : (len0 : Int) < (len1 : Int) := by omega
  have HP := Lib.hid hP
  have HQ := Lib.hid hQ
  have hl0 := Lib.hid hP.len
  have hl1 := Lib.hid hQ.len
  have hb0 := hP.bd
  have hb1 := hQ.bd
  have HSum := Lib.hid (tr_sum (P := P) (Q := Q) (M := len1) (by rw [hP.len]; exact hM1) (by rw [hQ.len]; exact hM2))
  have HPl := Lib.hid (length_padL (P := P) (M := len1) (by rw [hP.len]; exact hM1))
  have hmk := run_make_row' (P := Try.prog) 22 5 (.int .u8 0) 1 Try.underlying22 info5 rfl .i64 .i64 len1 (by omega) (by omega)
  obtain ⟨i5, hi, hz0, hz1, hz2⟩ := info_parts info5
  have HI := Lib.hid (And.intro hi (And.intro hz0 (And.intro hz1 hz2)))
  clear hi hz0 hz1 hz2 hP hQ hc
  go_enter Try.func4, Try.ntmps4
  go_upto_region 8 with (first
    | (go_at_call 9; refine (lives_any _).mono ?_; rintro e w1 ⟨rfl, hB1⟩)
    | (go_at_call 10; refine (new_any _).mono ?_; rintro e w2 ⟨b, rfl, _, hf, hB2⟩; have HF := Lib.hid hf; have HB2 := Lib.hid (bt hB1 hB2); clear hf hB1 hB2)
    | ((with_reducible show wpList _ _ _ (⟨some 29, _, _, _, _, _⟩ :: _) _ _); go_loud (refine wpList_append_bs _ rfl (.tmp 27) (.tmp 28) 22 rfl w2.heap.size 5 i5 Try.underlying22 HI.out.1 HI.out.2.1 HI.out.2.2.1 HI.out.2.2.2 _ 0 [] rfl (own_empty w2 _) a0 len0 cap0 w.heap.size (iL P) rfl (HP.out.1.2.2.1.below (HB2.out.alloc HB2.out.size _)) HP.out.1.1 HP.out.2 (by omega) (by simp) ?_); go_loud (intro v3 w3 hown hg3; rw [Nat.zero_add, List.nil_append] at hown; have hB3 : Below w2.heap.size w2 w3 := ((Below.refl _ _).alloc (Nat.le_refl _) _).grown hg3 (by simp) (own_block_le _ _ _); obtain ⟨a3, c3, rfl, hp3⟩ := own_pa hown; have HW := Lib.hid hp3; have HB3 := Lib.hid (bt HB2.out hB3); have HF3 := Lib.hid (HF.out.below hB3); clear hown hg3 hp3 hB3))
    | (go_at_call 11; go_loud (refine (mul_any b a3 len0 c3 P a1 len1 cap1 Q _ HF3.out HW.out (HQ.out.on HB3.out) (by omega)).mono ?_); rintro e w4 ⟨v4, rfl, hown, hb4⟩; obtain ⟨a4, c4, rfl, hp4⟩ := own_pa hown; have HM := Lib.hid hp4; have HB4 := Lib.hid (bt HB3.out hb4); have HF4 := Lib.hid (HF3.out.below hb4); have HW4 := Lib.hid (HW.out.on hb4); clear hown hp4 hb4)
    | ((with_reducible show wpList _ _ _ (⟨some 45, _, _, _, _, _⟩ :: _) _ _); go_loud (refine wpList_copy_splice (o := ⟨some 45, _, _, _, _, _⟩) rfl (.tmp 43) (.tmp 44) 22 22 rfl 5 Try.underlying22 size_u8 (some ⟨w4.heap.size, 0, none⟩) a0 len1 len1 len0 cap0 rfl rfl w4.heap.size 0 (madeCells #[.int .u8 0] len1).toList 5 (cp1 w4 len1) ((iL P).map (Value.int .u8)) (cp2 hl0.out hM1) (fun h0 => ⟨rfl, cp3 (HP.out.on HB4.out) len1 h0⟩) (cp4 hl0.out hM1) (ints_oneCell _ _) w4.heap.size w4 (cp5 w4 len1) (Nat.le_refl _) ?_); go_loud (intro w5 hg5 hb5; have HO5 := Lib.hid (pad_row hg5.out (by rw [hl0.out]; exact hM1) (by omega)); have HB5 := Lib.hid hb5; clear hb5 hg5))
    | fail)
  obtain ⟨g, hg⟩ : ∃ g, g = w4.heap.size := ⟨_, rfl⟩
  rw [← hg] at HO5
  rw [show (⟨w4.heap.size, 0, none⟩ : Addr) = ⟨g, 0, none⟩ by rw [hg]]
  have hgw : w4.heap.size ≤ g := by omega
  have HG := Lib.hid hg
  clear hg
  go_wp2
  go_loopw [48] (fun j wr => ∃ k : Nat, k ≤ len1 ∧ j = .int .i64 (k : Nat) ∧ Hid (wr.ownsRow g 5 1 (.slice (some ⟨g, 0, none⟩) len1 len1) len1 ((iL (addAt (padL P len1) 0 1 Q k)).map (Value.int .u8))) ∧ Hid (Below w4.heap.size w4 wr))
    (fun j _ => len1 - (intOf j).toNat)
  case atStart => exact ⟨0, Nat.zero_le _, rfl, Lib.hid (by rw [addAt_zero]; exact HO5.out), HB5⟩
  case round =>
    obtain ⟨k, hk, rfl, hR, hB⟩ := hrel
    by_cases hlt : k < len1
    · obtain ⟨bx, ox, rfl, hbx, hcx⟩ := (HQ.out.on (bt HB4.out hB.out)).at_ hlt
      have q5 : (k : Int) < (len1 : Int) := by omega
      have q6 : (0 : Int) ≤ (k : Int) := by omega
      have q7 : (k : Int) < (len1 : Int) := by omega
      have hcg := own_cells hR.out k (by omega)
      rw [Nat.zero_add, getD_iL, co_addAt (by rw [HPl.out]; omega), if_neg (by omega), co_padL] at hcg
      have hfz := hR.out.frozenAt k
      have hst := (hR.out.stored k (.int .u8 (toI (co P k + co Q k)))).1
      have hset : (iL (addAt (padL P len1) 0 1 Q k)).set k (toI (co P k + co Q k)) = iL (addAt (padL P len1) 0 1 Q (k + 1)) := by
        rw [← addAt_set (by rw [HPl.out]; omega), Nat.zero_add, co_padL, GF.one_mul]; simp [iL, List.map_set]
      rw [map_set_u8, hset] at hst
      have HS := Lib.hid hst
      have HB2' := Lib.hid (hB.out.setCell (p := ⟨g, k, none⟩) hgw (.int .u8 (toI (co P k + co Q k))))
      have hbt := bits_xor_G (co P k) (co Q k)
      rw [← hbt] at HS HB2'
      clear hst hset hbt
      go_wp2_with fail
      go_still_tail 10, (by kernel_rfl)
      go_wp2
      go_roundw
      case rel => exact ⟨k + 1, by omega, by go_num, Lib.hid HS.out, Lib.hid HB2'.out.drew⟩
      case measure => simp [intOf]; omega
    · obtain rfl : k = len1 := by omega
      have hR2 := Lib.hid (Pa.own2 (show wr.ownsRow g 5 1 (.slice (some ⟨g, 0, none⟩) k k) k ((iL (axp (padL P k) 0 1 Q)).map (Value.int .u8)) by unfold axp; rw [hl1.out]; exact hR.out))
      have hBr := Lib.hid (bt HB4.out hB.out)
      have HFr := Lib.hid (HF4.out.below hB.out)
      have HPr := Lib.hid (HP.out.on hBr.out)
      have HQr := Lib.hid (HQ.out.on hBr.out)
      have HWr := Lib.hid (HW4.out.on hB.out)
      have HMr := Lib.hid (HM.out.on hB.out)
      have hcvM := HMr.out.str_on rfl
      have hcvW := HWr.out.str_on rfl
      have hcvP := HPr.out.str_on rfl
      have HMul := Lib.hid (fun (W : World) (hW : Below wr.heap.size wr W) => on_row hW rfl (rmul_any a0 len0 cap0 P a1 k cap1 Q W (HPr.out.on hW) (HQr.out.on hW) (by omega) (by omega)))
      have HAdd := Lib.hid (fun (W : World) (hW : Below wr.heap.size wr W) => on_row hW rfl (padd_any a3 len0 c3 P a1 k cap1 Q W (HWr.out.on hW) (HQr.out.on hW) (by omega) (by omega)))
      have HTrS := Lib.hid (fun (W : World) (hW : Below wr.heap.size wr W) => on_row hW HSum.out (rtrim_any (some ⟨g, 0, none⟩) k k _ W (hR2.out.on hW) (by omega)))
      clear hR hB
      go_upto_region 13 with fail
      go_cut [89] from 62 to 89 (fun c wx => c = .bool false ∧ Below wr.heap.size wr wx)
      case first =>
       go_region_held (fun W => Below wr.heap.size wr W) (first | exact (Below.refl _ _).drew | assumption)
        (first
          | (go_at_call 16; refine (HMul.out _ (by assumption)).mono ?_; rintro e w6 ⟨a6, c6, rfl, hp6, hb6, hl6⟩; have hcv6 := hp6.str_on rfl; have hrf6 := Below.refl w6.heap.size w6)
          | (go_at_call 12; refine (HAdd.out _ (by assumption)).mono ?_; rintro e w7 ⟨a7, c7, rfl, hp7, hb7, hl7⟩; have hcv7 := hp7.str_on rfl; have hrf7 := Below.refl w7.heap.size w7)
          | (go_at_call 17; refine (HTrS.out _ (by assumption)).mono ?_; rintro e w8 ⟨a8, c8, rfl, hp8, hb8, hl8⟩; have hcv8 := hp8.str_on rfl; have hrf8 := Below.refl w8.heap.size w8))
       all_goals (go_wp2_with fail; go_meet; exact ⟨rfl, by assumption⟩)
      case rest =>
       obtain ⟨rfl, hwc⟩ := hcut
       have hBc := Lib.hid (bt hBr.out hwc)
       have HFc := Lib.hid (HFr.out.below hwc)
       have HPc := Lib.hid (HP.out.on hBc.out)
       have HE := Lib.hid (eval_on b a0 len0 cap0 P x _ _ HFc.out HPc.out (by omega) rfl)
       have HRE := Lib.hid (fun (W : World) (hW : Below wc.heap.size wc W) => reval_any a0 len0 cap0 P x W (HPc.out.on hW) (by omega))
       have HEn := Lib.hid (fun (W : World) (hW : Below wc.heap.size wc W) => (eval_nil (.slice a0 len0 cap0) (toI x) W).mono (R' := fun e w' => e = .returned (.int .u8 0) ∧ Below wc.heap.size wc w') (fun e w' ⟨h1, h2⟩ => ⟨h1, bt hW h2⟩))
       have HT := Lib.hid (fun (W : World) (hW : Below wc.heap.size wc W) => on_row hW rfl (trim_any a0 len0 cap0 P W (HPc.out.on hW) (by omega)))
       have HRT := Lib.hid (fun (W : World) (hW : Below wc.heap.size wc W) => on_row hW rfl (rtrim_any a0 len0 cap0 P W (HPc.out.on hW) (by omega)))
       have HD := Lib.hid (fun (W : World) (hW : Below wc.heap.size wc W) => (degree_any a0 len0 cap0 P W (HPc.out.on hW).1 (by omega)).mono (R' := fun e w' => e = .returned (.int .i64 (((tr P).length : Int) - 1)) ∧ Below wc.heap.size wc w') (fun e w' ⟨h1, h2⟩ => ⟨h1, bt hW h2⟩))
       have hwr : IntKind.i64.wrap (((tr P).length : Int) - 1) = ((tr P).length : Int) - 1 := by
         have h9 := tr_len_le P
         rw [hl0.out] at h9
         rw [IntKind.wrap_i64]; omega
       clear hwc hcvM hcvW hcvP HMul HAdd HTrS
       go_wp2_with fail
       go_region_held (fun W => Below wc.heap.size wc W) (first | exact (Below.refl _ _).drew | assumption)
         (first
           | (go_at_call_of 13 (Value.pointer none); refine (HEn.out _ (by assumption)).mono ?_; rintro e w6 ⟨rfl, hb6⟩)
           | (go_at_call 13; refine (HE.out _ (by assumption)).mono ?_; rintro e w6 ⟨rfl, hb6⟩)
           | (go_at_call 18; refine (HRE.out _ (by assumption)).mono ?_; rintro e w' ⟨rfl, rfl⟩)
           | (go_at_call 19; refine (HT.out _ (by assumption)).mono ?_; rintro e w7 ⟨a7, c7, rfl, hp7, hb7, hl7⟩; have hcv7 := hp7.str_on rfl; have hrf7 := Below.refl w7.heap.size w7)
           | (go_at_call 17; refine (HRT.out _ (by assumption)).mono ?_; rintro e w8 ⟨a8, c8, rfl, hp8, hb8, hl8⟩; have hcv8 := hp8.str_on rfl; have hrf8 := Below.refl w8.heap.size w8)
           | (go_at_call 20; refine (HD.out _ (by assumption)).mono ?_; rintro e w9 ⟨rfl, hb9⟩))
       all_goals
         go_wp2
         go_ret
         exact ⟨rfl, bt hBc.out (by assumption)⟩
end Go.Proofs.Ytgbcdmognobieaa
