/- Media: the chapter's example (the laws' lives). -/
import Derived.Test.YtoonaendakjecaaUd
namespace Go.Proofs.Ytoonaendakjecaa
open Go.ChangeShapes Go.WideShapes Go.ChangeAt Go.RowKit Go.Shelf
set_option linter.unusedVariables false
set_option linter.unusedSimpArgs false
set_option maxRecDepth 100000

theorem opW7 : opWrite false (MS.new 2) 0 (secX 7) (-1) 0 = ⟨[], 0, (MS.new 2).write 0 (secX 7), -1, 0⟩ := by
  have h : (secX 7).length = 512 := secX7.1
  unfold opWrite
  rw [if_neg (by simp [MS.new]), if_neg (by simp [inR, MS.new]), if_neg (by simp [h]), if_neg (by omega)]
  rfl
theorem crash7 : ((MS.new 2).write 0 (secX 7)).crash [] = MS.new 2 := rfl
theorem opR0 : opRead (MS.new 2) 0 (-1) 0 = ⟨zsec, 0, MS.new 2, -1, 0⟩ := by
  unfold opRead
  rw [if_neg (by simp [MS.new]), if_neg (by simp [inR, MS.new])]
  rfl
theorem opR7 : opRead (((MS.new 2).write 0 (secX 7)).crash [true]) 0 (-1) 0 = ⟨secX 7, 0, ((MS.new 2).write 0 (secX 7)).crash [true], -1, 0⟩ := by
  unfold opRead
  rw [if_neg (by simp [MS.new, MS.crash, MS.write]), if_neg (by simp [inR, MS.new, MS.crash, MS.write])]
  have : (((MS.new 2).write 0 (secX 7)).crash [true]).shows (0 : Int).toNat = some (secX 7) := by
    rw [MS.shows_crash]
    rfl
  rw [this]
theorem Arg8c.strU {w : World} {a : Option Addr} {n c : Nat} {l : List Int} (h : Arg8c w a n c l) : ∀ U, Below w.heap.size w U → (convert 39 9 (.slice a n c)).run Try.prog U = .ok (.string (strOfNums l)) U := h.1.strL
theorem Arg8c.onU {w w' : World} {a : Option Addr} {n c : Nat} {l : List Int} (h : Arg8c w a n c l) (hb : Below w.heap.size w w') : Arg8c w' a n c l := ⟨h.1.on hb, h.2⟩
theorem argB1 (w : World) : ArgB (w.alloc (.cells #[.bool true] 4)) (some ⟨w.heap.size, 0, none⟩) 1 1 [true] :=
  ⟨rfl, Nat.le_refl _, by unfold maxLen; omega, (fun e => by cases e), fun _ => ⟨w.heap.size, 0, rfl, by simp, fun i hi => by
    obtain rfl : i = 0 := by omega
    rw [cell_of_row _ _ _ _ _ _ (heap_alloc_new w _)]; rfl⟩⟩
section
variable {R : World → Nat → (Nat → Prop) → MS → Option Nat → Prop} {P : World → Nat → (Nat → Prop) → Int → Nat → Prop}
theorem leftOk1 : LeftOk (-1) := ⟨by omega, by omega⟩
theorem write7 (hM : MediumM R P) (w : World) (tb : Nat) (F : Nat → Prop) (g : Nat) (hr : R w tb F (MS.new 2) none) (h : Arg8c w (some ⟨g, 0, none⟩) 512 512 (secX 7)) (hg : ¬ F g) :
    Calls Try.prog 25 #[tbV tb, .int .i64 0, .slice (some ⟨g, 0, none⟩) 512 512] w fun e w' => ∃ F', e = .returned (.int .i64 0) ∧ R w' tb F' ((MS.new 2).write 0 (secX 7)) none ∧ KB F w w' ∧ (∀ k, F' k → F k ∨ w.heap.size ≤ k) := by
  refine (hM.write tb F (fun _ => False) (MS.new 2) none (-1) 0 0 (some ⟨g, 0, none⟩) 512 512 (secX 7) w hr ⟨fun _ h => h, rfl, rfl⟩ (fun _ _ h => h) (MS.new_ok (by omega) (by omega)) leftOk1 (by simp [MS.new]) (by omega) (by unfold i64R; omega) h (Off.new rfl hg) (Off.new rfl (fun h => h))).mono ?_
  rintro e w' ⟨F', rfl, h1, h2, h3, h4⟩
  rw [show (none : Option Nat).isSome = false from rfl, opW7] at h1 ⊢
  exact ⟨F', rfl, h1, h3.monoF (fun j h => h.elim (fun h => h) (fun h => h.elim)), h4⟩
theorem readN (hM : MediumM R P) (w : World) (tb : Nat) (F : Nat → Prop) (S : MS) (b : List Int) (hr : R w tb F S none) (hok : S.Ok) (hc : S.cache.length ≤ 1000) (i : Int) (hi : i64R i) (he : opRead S i (-1) 0 = ⟨b, 0, S, -1, 0⟩) (hb : b.length = 512) :
    Calls Try.prog 14 #[tbV tb, .int .i64 i] w fun e w' => ∃ a c, e = .returned (.tuple #[.slice a 512 c, .int .i64 0]) ∧ Arg8c w' a 512 c b ∧ NewA w a 512 ∧ R w' tb F S none ∧ Below w.heap.size w w' := by
  refine (hM.read tb F (fun _ => False) S none (-1) 0 i w hr ⟨fun _ h => h, rfl, rfl⟩ (fun _ _ h => h) hok leftOk1 hc (by omega) hi).mono ?_
  rintro e w' ⟨a, c, rfl, h1, h3, h2⟩
  rw [he] at h1 h3 ⊢
  dsimp only at h1 h3 ⊢
  rw [hb] at h1 h3 ⊢
  exact ⟨a, c, rfl, h1, h3, hM.keep hr (fun k hk => h2.block k (hM.inside hr k hk)), h2⟩
end
set_option maxHeartbeats 8000000 in
theorem lives13 {R : World → Nat → (Nat → Prop) → MS → Option Nat → Prop} {P : World → Nat → (Nat → Prop) → Int → Nat → Prop} (hM : MediumM R P) (w : World) :
    Calls Try.prog 7 #[] w fun e w' => e = .returned (.bool true) ∧ Below w.heap.size w w' := by
  have HM := Lib.hid hM
  clear hM
  have HOK0 := Lib.hid (MS.new_ok (n := 2) (by omega) (by omega))
  have HOK1 := Lib.hid (HOK0.out.write (i := 0) (b := secX 7) (by decide) secX7)
  have HOK2 := Lib.hid (HOK1.out.crash [true])
  go_enter Try.func7, Try.ntmps7
  go_upto_region 2 with (go_at_call 9; go_loud (refine (HM.out.new 2 none w (by omega) (by omega)).mono ?_; rintro e w1 ⟨tb, F1, rfl, hr, hf, hb⟩; have HR1 := Lib.hid hr; have HF1 := Lib.hid hf; have HB1 := Lib.hid hb; clear hr hf hb))
  go_upto_region 3 with (first
    | (go_at_call 26; go_loud (refine (sector_any 7 w1 (by unfold i64R; omega)).mono ?_; rintro e w2 ⟨rfl, ho, hb⟩; have HO2 := Lib.hid (own_any ho (secX_B 7)); have HR2 := Lib.hid (HM.out.keep HR1.out (fun k hk => hb.block k (HM.out.inside HR1.out k hk))); have HB2 := Lib.hid (bt HB1.out hb); clear ho hb; rw [secN7] at HO2 ⊢))
    | (go_at_call 25; go_loud (refine (write7 HM.out w2 tb F1 w1.heap.size HR2.out HO2.out (fun hk => by have := HM.out.inside HR1.out _ hk; omega)).mono ?_; rintro e w3 ⟨F3, rfl, hr, hk, hf⟩; have HR3 := Lib.hid hr; have HF3 := Lib.hid (show ∀ k, F3 k → w.heap.size ≤ k from fun k h => by rcases hf k h with h | h; exact HF1.out k h; have := HB2.out.size; omega); have HB3 := Lib.hid (HB2.out.trans (hk.below HF1.out HB2.out.size)); clear hr hk hf)))
  go_upto_region 4 with (go_at_call 12; go_loud (refine (HM.out.crash tb F3 _ none none 0 0 [] w3 HR3.out HOK1.out (by simp [MS.write, MS.new]) (ArgB.nil _) (fun h => absurd h (by omega))).mono ?_; rintro e w4 ⟨F4, rfl, hr, hk, hf⟩; rw [crash7] at hr; have HR4 := Lib.hid hr; have HF4 := Lib.hid (show ∀ k, F4 k → w.heap.size ≤ k from fun k h => by rcases hf k h with h | h; exact HF3.out k h; have := HB3.out.size; omega); have HB4 := Lib.hid (HB3.out.trans (hk.below HF3.out HB3.out.size)); clear hr hk hf))
  go_upto_region 5 with (go_at_call 14; go_loud (refine (readN HM.out w4 tb F4 (MS.new 2) zsec HR4.out HOK0.out (by simp [MS.new]) 0 (by unfold i64R; omega) opR0 zsec_len).mono ?_; rintro e w5 ⟨a5, c5, rfl, ha, hna, hr, hb⟩; have HA5 := Lib.hid ha; have HN5 := Lib.hid hna; have HR5 := Lib.hid hr; have HB5 := Lib.hid (bt HB4.out hb); clear ha hna hr hb))
  go_upto_region 6 with (first
    | (go_at_call 26; go_loud (refine (sector_any 7 w5 (by unfold i64R; omega)).mono ?_; rintro e w6 ⟨rfl, ho, hb⟩; have HO6 := Lib.hid (own_any ho (secX_B 7)); have HR6 := Lib.hid (HM.out.keep HR5.out (fun k hk => hb.block k (HM.out.inside HR5.out k hk))); have HB6 := Lib.hid (bt HB5.out hb); have HA6 := Lib.hid (HA5.out.onU hb); clear ho hb; rw [secN7] at HO6 ⊢))
    | (go_at_call 25; go_loud (refine (write7 HM.out w6 tb F4 w5.heap.size HR6.out HO6.out (fun hk => by have := HM.out.inside HR5.out _ hk; omega)).mono ?_; rintro e w7 ⟨F7, rfl, hr, hk, hf⟩; have HR7 := Lib.hid hr; have HF7 := Lib.hid (show ∀ k, F7 k → w.heap.size ≤ k from fun k h => by rcases hf k h with h | h; exact HF4.out k h; have := HB6.out.size; omega); have HB7 := Lib.hid (HB6.out.trans (hk.below HF4.out HB6.out.size)); have HA7 := Lib.hid (show Arg8c w7 a5 512 c5 zsec from ⟨hk.arg8 HA6.out.1 (fun b o e hf => by have h1 := HN5.out (by omega) b o e; have h2 := HM.out.inside HR4.out b hf; omega), HA6.out.2⟩); have HFF7 := Lib.hid hf; clear hr hk hf)))
  go_upto_region 7 with (go_at_call 12; go_loud (refine (HM.out.crash tb F7 _ none (some ⟨w7.heap.size, 0, none⟩) 1 1 [true] (w7.alloc (.cells #[.bool true] 4)) (HM.out.keep HR7.out (fun k hk => ((Below.refl _ w7).alloc (Nat.le_refl _) _).block k (HM.out.inside HR7.out k hk))) HOK1.out (by simp [MS.write, MS.new]) (argB1 w7) (Off.new rfl (fun hk => by have := HM.out.inside HR7.out _ hk; omega))).mono ?_; rintro e w8 ⟨F8, rfl, hr, hk, hf⟩; have HR8 := Lib.hid hr; have HA8 := Lib.hid (show Arg8c w8 a5 512 c5 zsec from ⟨hk.arg8 (HA7.out.onU ((Below.refl _ w7).alloc (Nat.le_refl _) _)).1 (fun b o e hf => by have h1 := HN5.out (by omega) b o e; have h2 := HM.out.inside HR7.out b hf; rcases HFF7.out b hf with h | h; have h3 := HM.out.inside HR4.out b h; omega; have h4 := (HA6.out.1.2.2.1 (by rw [zsec_len]; omega)); obtain ⟨b', o', e', hb', _⟩ := h4; rw [e] at e'; cases e'; omega), HA7.out.2⟩); have HB8 := Lib.hid ((HB7.out.alloc HB7.out.size (.cells #[.bool true] 4)).trans (hk.below HF7.out (by have := HB7.out.size; simp; omega))); clear hr hk hf))
  go_upto_region 8 with (go_at_call 14; go_loud (refine (readN HM.out w8 tb F8 _ (secX 7) HR8.out HOK2.out (by simp [MS.crash]) 0 (by unfold i64R; omega) opR7 secX7.1).mono ?_; rintro e w9 ⟨a9, c9, rfl, ha, hna, hr, hb⟩; have HA9 := Lib.hid ha; have HZ9 := Lib.hid (HA8.out.onU hb); have HB9 := Lib.hid (bt HB8.out hb); clear ha hna hr hb))
  clear HR1 HR2 HR3 HR4 HR5 HR6 HR7 HR8 HB1 HB2 HB3 HB4 HB5 HB6 HB7 HB8 HA5 HA6 HA7 HA8 HF1 HF3 HF4 HF7 HFF7 HO2 HO6 HN5 HOK0 HOK1 HOK2 HM
  have hcv5 := HZ9.out.strU
  have hcv9 := HA9.out.strU
  have hmk := run_make_row' (P := Try.prog) 39 5 (.int .u8 0) 1 Try.underlying39 info5 rfl .i64 .i64 512 (by omega) (by omega)
  rw [show ((512 : Nat) : Int) = 2 * 256 from rfl] at hmk
  simp only [Int.reduceMul] at hmk
  have hcm := ((own_any (own_made (w := w9.drew) (e := 5) (n := 512) (by unfold maxLen; omega)) zsec_B).strU _ (Below.refl _ _))
  rw [show w9.drew.heap.size = w9.heap.size from rfl] at hcm
  have hcm2 := ((own_any (own_made (w := w9) (e := 5) (n := 512) (by unfold maxLen; omega)) zsec_B).strU _ ((Below.refl _ _).drew))
  obtain ⟨ZS, hZS⟩ : ∃ ZS, ZS = strOfNums zsec := ⟨_, rfl⟩
  obtain ⟨XS, hXS⟩ : ∃ XS, XS = strOfNums (secX 7) := ⟨_, rfl⟩
  have hez : (ZS.toList == ZS.toList) = true := by simp
  have hex : (XS.toList == XS.toList) = true := by simp
  rw [show List.replicate 512 (0 : Int) = zsec from rfl] at hcm hcm2
  rw [← hZS] at hcv5 hcm hcm2
  rw [← hXS] at hcv9
  have HXS := Lib.hid hXS
  clear hZS hXS
  go_region_held (fun U => Below w9.heap.size w9 U) (first | exact (Below.refl _ _).drew | assumption | exact ((Below.refl w9.heap.size w9).drew).alloc (Nat.le_refl _) _ | exact ((Below.refl w9.heap.size w9).alloc (Nat.le_refl _) _).drew)
    ((go_at_call 26; refine (sector_any 7 _ (by unfold i64R; omega)).mono ?_; rintro e w10 ⟨rfl, ho, hb⟩; rw [secN7] at ho ⊢; have hcv10 : (convert 39 9 (.slice (some ⟨w9.heap.size + 1, 0, none⟩) 512 512)).run Try.prog w10 = .ok (.string XS) w10 := (by have h := (own_any ho (secX_B 7)).strU _ (Below.refl _ _); rw [← HXS.out] at h; simpa using h); have hb10 : Below w9.heap.size w9 w10 := (by first | exact (((Below.refl w9.heap.size w9).drew).alloc (Nat.le_refl _) _).trans (hb.mono (by simp)) | exact (((Below.refl w9.heap.size w9).alloc (Nat.le_refl _) _).drew).trans (hb.mono (by simp)))))
  all_goals
    go_wp2_with fail
    go_ret
    exact ⟨rfl, bt HB9.out (by assumption)⟩
end Go.Proofs.Ytoonaendakjecaa
