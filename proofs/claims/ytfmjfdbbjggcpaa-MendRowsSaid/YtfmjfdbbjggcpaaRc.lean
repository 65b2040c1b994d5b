/- Layer 10's laws' lives, under Column's contracts. -/
import Derived.Test.YtfmjfdbbjggcpaaRb
import Derived.Test.YtfmjfdbbjggcpaaQ3
import Derived.Deep.RegionHeld
namespace Go.Proofs.Ytfmjfdbbjggcpaa
open Go.ChangeShapes Go.WideShapes Go.ChangeAt Go.RowKit Go.Shelf GF
set_option linter.unusedVariables false
set_option linter.unusedSimpArgs false
set_option maxRecDepth 100000

theorem lv_p1 : RightP [toG 1, toG 2, toG 3] [toG 5, toG 5, toG 9] 1 1 [toG 5] := by
  refine ⟨by decide +kernel, by decide +kernel, by decide +kernel, by decide +kernel⟩
theorem lv_p2 : ∀ p, ¬ RightP [toG 1, toG 2] [toG 5, toG 9] 1 1 p := fun p h => by
  obtain ⟨h1, h2, h3, h4⟩ := h
  have hw : (wrL [toG 1, toG 2] [toG 5, toG 9] p).length = 0 := by
    have : ([toG 1, toG 2] : List GF).length = 2 := rfl
    omega
  have hn : ∀ k, k < 2 → ev p (co [toG 1, toG 2] k) = co [toG 5, toG 9] k := fun k hk => Classical.byContradiction fun hc => by
    have hm : k ∈ wrL [toG 1, toG 2] [toG 5, toG 9] p := wrL_mem.2 ⟨hk, hc⟩
    rw [List.eq_nil_of_length_eq_zero hw] at hm
    cases hm
  have hc : ∀ x, ev p x = co p 0 := fun x => by
    have := ev_drop p 0 x
    rw [List.drop_zero, show p.drop (0 + 1) = [] from List.drop_eq_nil_of_le h2] at this
    rw [this, show ev [] x = 0 from rfl, GF.mul_zero, GF.add_zero]
  have h5 := hn 0 (by omega)
  have h6 := hn 1 (by omega)
  rw [hc] at h5 h6
  exact absurd (h5.symm.trans h6) (by decide +kernel)
theorem lv_pl1 : plErr [toG 1, toG 2, toG 3] = 0 := plErr_zero.2 ⟨by decide, by decide, apart_of_nodup (by decide +kernel)⟩
theorem lv_pl2 : plErr [toG 1, toG 2] = 0 := plErr_zero.2 ⟨by decide, by decide, apart_of_nodup (by decide +kernel)⟩
theorem litP (w : World) (c : Array Value) (P : List GF) (n : Nat) (h : c.toList = (iL P).map (Value.int .u8)) (hc : c.size = n) (hm : n ≤ maxLen) : Pa (w.alloc (.cells c 5)) (some ⟨w.heap.size, 0, none⟩) n n P := by
  refine Pa.own2 (base := w.heap.size) (e := 5) ?_
  rw [← h]
  exact World.ownsRow_lit (base := w.heap.size) (e := 5) (size := 1) w c n (Nat.le_refl _) hm (by rw [hc, Nat.mul_one])
theorem est5 : strOfNums (iL [toG 5]) = { data := #[5] } := by decide +kernel
set_option maxHeartbeats 2000000 in
theorem lives10 (hAll : ColAll) (w : World) : Calls Try.prog 6 #[] w fun e w' => e = .returned (.bool true) ∧ Below w.heap.size w w' := by
  have HA := Lib.hid hAll
  clear hAll
  go_enter Try.func6, Try.ntmps6
  go_upto_region 3 with (first
    | (go_at_call 8; go_loud (refine (new_any _).mono ?_; rintro e w1 ⟨b, rfl, hb0, hf, hbel⟩; have h1 := litP w1 #[.int .u8 1, .int .u8 2, .int .u8 3] [toG 1, toG 2, toG 3] 3 (by rfl) rfl (by unfold maxLen; omega); have h2 := litP (w1.alloc (.cells #[.int .u8 1, .int .u8 2, .int .u8 3] 5)) #[.int .u8 5, .int .u8 5, .int .u8 9] [toG 5, toG 5, toG 9] 3 (by rfl) rfl (by unfold maxLen; omega); rw [World.size_alloc] at h2; have hbA : Below w1.heap.size w1 ((w1.alloc (.cells #[.int .u8 1, .int .u8 2, .int .u8 3] 5)).alloc (.cells #[.int .u8 5, .int .u8 5, .int .u8 9] 5)) := ((Below.refl _ _).alloc (Nat.le_refl _) _).alloc (by simp) _; have hbB := (Below.refl (w1.alloc (.cells #[.int .u8 1, .int .u8 2, .int .u8 3] 5)).heap.size _).alloc (Nat.le_refl _) (.cells #[.int .u8 5, .int .u8 5, .int .u8 9] 5); have HC := Lib.hid (HA.out.2.1 b 3 1 1 _ 3 _ _ 3 _ [toG 5] _ (hf.below hbA) (h1.on hbB) h2 (by decide) (by decide) (by decide) (by decide) (by decide) lv_pl1 lv_p1); have HF := Lib.hid hf; have HB1 := Lib.hid (bt hbel hbA); have HBF := Lib.hid hbA; clear hf hbel hb0 h1 h2 hbA hbB))
    | (go_at_call 7; go_loud (refine HC.out.mono ?_; rintro e w5 ⟨a5, c5, rfl, hp5, hb5⟩; have HP5 := Lib.hid hp5; have HB5 := Lib.hid (bt HB1.out hb5); have HF5 := Lib.hid (HF.out.below (bt HBF.out hb5)); have hd5 := hp5.bd; clear hp5 hb5)))
  have h1 := litP w5 #[.int .u8 1, .int .u8 2] [toG 1, toG 2] 2 (by rfl) rfl (by unfold maxLen; omega)
  have h2 := litP (w5.alloc (.cells #[.int .u8 1, .int .u8 2] 5)) #[.int .u8 5, .int .u8 9] [toG 5, toG 9] 2 (by rfl) rfl (by unfold maxLen; omega)
  rw [World.size_alloc] at h2
  have hbA : Below w5.heap.size w5 ((w5.alloc (.cells #[.int .u8 1, .int .u8 2] 5)).alloc (.cells #[.int .u8 5, .int .u8 9] 5)) := ((Below.refl _ _).alloc (Nat.le_refl _) _).alloc (by simp) _
  have hbB := (Below.refl (w5.alloc (.cells #[.int .u8 1, .int .u8 2] 5)).heap.size _).alloc (Nat.le_refl _) (.cells #[.int .u8 5, .int .u8 9] 5)
  have HC2 := Lib.hid (HA.out.2.2 b 2 1 1 _ 2 _ _ 2 _ _ (HF5.out.below hbA) (h1.on hbB) h2 (by decide) (by decide) (by decide) (by decide) (by decide) lv_pl2 lv_p2)
  have HBA := Lib.hid hbA
  clear h1 h2 hbA hbB
  go_upto_region 4 with (go_at_call 7; go_loud (refine HC2.out.mono ?_; rintro e w7 ⟨a7, c7, rfl, hb7⟩; have HB7 := Lib.hid (bt HBA.out hb7); clear hb7))
  have k0 := (HP5.out.on HB7.out).str
  have k0 : (convert 22 9 (.slice a5 1 c5)).run Try.prog w7 = .ok (.string { data := #[5] }) w7 := by rw [← est5]; exact k0
  have HBZ := Lib.hid (bt HB5.out HB7.out)
  go_wp2
  go_ret
  exact ⟨rfl, HBZ.out⟩
end Go.Proofs.Ytfmjfdbbjggcpaa
