/- Contract of the document's Through. -/
import Derived.Test.YtfmjfdbbjggcpaaQ3
namespace Go.Proofs.Ytfmjfdbbjggcpaa
open Go.ChangeShapes Go.WideShapes Go.ChangeAt Go.RowKit Go.Shelf GF
set_option linter.unusedVariables false
set_option maxRecDepth 100000

/-- The sum of the first i terms, as the row holds it. -/
def outA (X Y : List GF) : Nat → List GF
  | 0 => List.replicate X.length 0
  | i + 1 => axp (outA X Y i) 0 1 (tmA X i (co Y i) X.length)
theorem length_outA (X Y : List GF) (i : Nat) : (outA X Y i).length = X.length := by
  induction i with
  | zero => simp [outA]
  | succ i ih => simp only [outA]; rw [length_axp, ih]
theorem length_term {X : List GF} {i : Nat} (y : GF) (hi : i < X.length) : (tmA X i y X.length).length ≤ X.length := by
  have := length_tmA X i y X.length
  rwa [if_pos hi] at this
theorem co_outA (X Y : List GF) : ∀ i, i ≤ X.length → ∀ k, co (outA X Y i) k = co (lagA X Y i) k := by
  intro i
  induction i with
  | zero => intro _ k; simp only [outA, lagA]; rw [co_replicate, co_nil]
  | succ i ih =>
    intro hi k
    simp only [outA, lagA]
    rw [co_axp (by rw [length_outA]; have := length_term (X := X) (co Y i) (show i < X.length by omega); omega), ih (by omega) k, if_pos (Nat.zero_le _), Nat.sub_zero, GF.one_mul, co_addL]
theorem outA_lag (X Y : List GF) : tr (outA X Y X.length) = lag X Y := by
  unfold lag
  exact tr_ext (co_outA X Y _ (Nat.le_refl _))
theorem own_pair (w : World) (c d : GF) : (w.alloc (.cells #[.int .u8 (toI c), .int .u8 (toI d)] 5)).ownsRow w.heap.size 5 1 (.slice (some ⟨w.heap.size, 0, none⟩) 2 2) 2 ((iL [c, d]).map (Value.int .u8)) :=
  World.ownsRow_lit (base := w.heap.size) (e := 5) (size := 1) w #[.int .u8 (toI c), .int .u8 (toI d)] 2 (Nat.le_refl _) (by unfold maxLen; omega) rfl

theorem pn_pa {w : World} {g : Nat} {a : Option Addr} {n c : Nat} {P : List GF} (h : Pa w a n c P) (hne : ∀ b off, a = some ⟨b, off, none⟩ → b ≠ g) : Pn w g a P := fun h0 => by
  obtain ⟨b, off, e, hb, hc⟩ := h.1.2.2.1 (by rwa [length_iL])
  exact ⟨b, off, e, hne b off e, fun i hi => by rw [hc i (by rwa [length_iL]), getD_iL]⟩
theorem grownBy_at (w : World) (g m : Nat) (v : Value) : w.grownBy (w.setCell ⟨g, m, none⟩ v) (some g) :=
  ⟨rfl, rfl, rfl, by show w.heap.size ≤ (w.heap.modify _ _).size; rw [Array.size_modify]; exact Nat.le_refl _, fun i _ hne => Below.heap_setCell _ _ _ i (fun e => hne (by rw [e]))⟩

set_option maxHeartbeats 4000000 in
theorem rthrough_any (a : Option Addr) (L cap : Nat) (X : List GF) (a2 : Option Addr) (cap2 : Nat) (Y : List GF) (w : World) (hx : Pa w a L cap X) (hy : Pa w a2 L cap2 Y) (hL : L ≤ 255) :
    Calls Try.prog 27 #[.slice a L cap, .slice a2 L cap2] w fun e w' => ∃ v, e = .returned v ∧ w'.ownsRow w.heap.size 5 1 v (lag X Y).length ((iL (lag X Y)).map (Value.int .u8)) ∧ Below w.heap.size w w' := by
  have HX := Lib.hid hx
  have HY := Lib.hid hy
  have HL := Lib.hid hx.len
  have hb0 := hx.1.2.2.2
  have hb1 := hy.1.2.2.2
  have HLag := Lib.hid (show tr (outA X Y L) = lag X Y by rw [← hx.len]; exact outA_lag X Y)
  have hmk := run_make_row' (P := Try.prog) 22 5 (.int .u8 0) 1 Try.underlying22 info5 rfl .i64 .i64 L (by omega) (by omega)
  clear hx hy
  go_enter Try.func27, Try.ntmps27
  go_wp2
  obtain ⟨g, hg⟩ : ∃ g, g = w.heap.size := ⟨_, rfl⟩
  have hgw : w.heap.size ≤ g := by omega
  have HO0 := Lib.hid (own_made (w := w) (e := 5) (n := L) (by unfold maxLen; omega))
  have HW0 := Lib.hid ((Below.refl w.heap.size w).alloc (Nat.le_refl _) (.cells (madeCells #[.int .u8 0] L) 5))
  rw [← hg] at HO0
  rw [show (⟨w.heap.size, 0, none⟩ : Addr) = ⟨g, 0, none⟩ by rw [hg]]
  have HG := Lib.hid hg
  clear hg
  go_loopw [16] (fun j wr => ∃ i : Nat, i ≤ L ∧ j = .int .i64 (i : Nat) ∧ Hid (wr.ownsRow g 5 1 (.slice (some ⟨g, 0, none⟩) L L) L ((iL (outA X Y i)).map (Value.int .u8))) ∧ Hid (Below w.heap.size w wr))
    (fun j _ => L - (intOf j).toNat)
  case atStart =>
    refine ⟨0, Nat.zero_le _, rfl, Lib.hid ?_, HW0⟩
    have : iL (outA X Y 0) = List.replicate L 0 := by simp only [outA, iL, List.map_replicate, toI_zero]; rw [HL.out]
    rw [this]
    exact HO0.out
  case round =>
    obtain ⟨i, hi, rfl, hR, hB⟩ := hrel
    by_cases hlt : i < L
    · have q2 : (i : Int) < (L : Int) := by omega
      have q3 : (0 : Int) ≤ (i : Int) := by omega
      obtain ⟨by', oy, rfl, hby, hcy⟩ := (HY.out.on hB.out).at_ hlt
      go_wp2
      have hgs := (hR.out.lt g rfl).2
      have hone := own_one wr (co Y i)
      have hT0 := Lib.hid (Pa.own2 hone)
      have hN0 := Lib.hid (pn_own (g := g) hone (by omega))
      have hR0 := Lib.hid (own_on hR.out ((Below.refl wr.heap.size wr).alloc (Nat.le_refl _) (.cells #[.int .u8 (toI (co Y i))] 5)) hgs)
      have hB0 := Lib.hid (hB.out.alloc hB.out.size (.cells #[.int .u8 (toI (co Y i))] 5))
      clear hone
      go_loopw [26, 7] (fun j t wq => ∃ (k : Nat) (ta : Option Addr) (tc : Nat), k ≤ L ∧ j = .int .i64 (k : Nat) ∧ t = .slice ta (tmA X i (co Y i) k).length tc ∧ Hid (Pa wq ta (tmA X i (co Y i) k).length tc (tmA X i (co Y i) k)) ∧ Hid (Pn wq g ta (tmA X i (co Y i) k)) ∧
          Hid (wq.ownsRow g 5 1 (.slice (some ⟨g, 0, none⟩) L L) L ((iL (outA X Y i)).map (Value.int .u8))) ∧ Hid (Below w.heap.size w wq))
        (fun j _ _ => L - (intOf j).toNat)
      case atStart => exact ⟨0, _, _, Nat.zero_le _, rfl, rfl, hT0, hN0, hR0, hB0⟩
      case round =>
        obtain ⟨k, ta, tc, hk, rfl, rfl, hT, hN, hR1, hB1⟩ := hrel
        by_cases hlt2 : k < L
        · obtain ⟨bx, ox, rfl, hbx, hci⟩ := (HX.out.on hB1.out).at_ hlt
          obtain ⟨bk, ok, he, hbk, hck⟩ := (HX.out.on hB1.out).at_ hlt2
          cases he
          have q4 : (k : Int) < (L : Int) := by omega
          have q5 : (0 : Int) ≤ (k : Int) := by omega
          have hgs1 := (hR1.out.lt g rfl).2
          by_cases e : k = i
          · have q6 : ((k : Int) != (i : Int)) = false := by rw [e]; simp
            have HT := Lib.hid (show tmA X i (co Y i) (k + 1) = tmA X i (co Y i) k by simp only [tmA]; rw [if_pos e])
            clear e
            go_wp2
            go_roundw
            case rel => exact ⟨k + 1, ta, tc, by omega, by go_num, by rw [HT.out], by rw [HT.out]; exact hT, by rw [HT.out]; exact hN, hR1, hB1⟩
            case measure => simp [intOf]; omega
          · have q6 : ((k : Int) != (i : Int)) = true := by rw [bne_iff_ne]; omega
            have HT := Lib.hid (show tmA X i (co Y i) (k + 1) = tr (mulL (tmA X i (co Y i) k) [GF.inv (co X i + co X k) * co X k, GF.inv (co X i + co X k)]) by simp only [tmA]; rw [if_neg e]; rfl)
            have htl : (tmA X i (co Y i) k).length ≤ 1000 := by
              have := length_tmA X i (co Y i) k
              split at this <;> omega
            have hbt := bits_xor_G (co X i) (co X k)
            clear e
            go_wp2_with fail
            go_quiet ((go_at_call 43; exact Calls.quiet_of_same ((rinv_G _ _).mono fun _ _ ⟨he, hw⟩ => ⟨he, hw.symm⟩)))
            obtain ⟨wd, hwd⟩ : ∃ wd, wd = wr.drewN nq := ⟨_, rfl⟩
            rw [← hwd]
            have hckd : wd.cell? ⟨bx, ox + k, none⟩ = some (.int .u8 (toI (co X k))) := by rw [hwd]; exact hck
            have hTd := Lib.hid (show Pa wd ta (tmA X i (co Y i) k).length tc (tmA X i (co Y i) k) by rw [hwd]; exact hT.out)
            have hRd := Lib.hid (show wd.ownsRow g 5 1 (.slice (some ⟨g, 0, none⟩) L L) L ((iL (outA X Y i)).map (Value.int .u8)) by rw [hwd]; exact hR1.out)
            have hBd := Lib.hid (show Below w.heap.size w wd by rw [hwd]; exact below_drewN hB1.out _)
            have hgd : g < wd.heap.size := (hRd.out.lt g rfl).2
            clear hwd hck
            go_wp2_with (first
              | (go_at_call 34; refine (rmul_G _ _ _).mono ?_; rintro e w' ⟨rfl, rfl⟩)
              | (go_at_call 44; go_loud (refine (rmul_any ta _ tc (tmA X i (co Y i) k) (some ⟨wd.heap.size, 0, none⟩) 2 2 [GF.inv (co X i + co X k) * co X k, GF.inv (co X i + co X k)] _ (hTd.out.on ((Below.refl _ wd).alloc (Nat.le_refl _) _)) (Pa.own2 (own_pair wd _ _)) (by omega) (by omega)).mono ?_); rintro e w6 ⟨v6, rfl, hown, hb6⟩; obtain ⟨a6, c6, rfl, hp6, hlow⟩ := Pa.own hown; have hT6 := Lib.hid hp6; have hN6 := Lib.hid (pn_pa (g := g) hp6 (fun b off e => by have := (hlow b off e).1; simp at this; omega)); have hb6' := ((Below.refl wd.heap.size wd).alloc (Nat.le_refl _) (.cells #[.int .u8 (toI (GF.inv (co X i + co X k) * co X k)), .int .u8 (toI (GF.inv (co X i + co X k)))] 5)).trans (hb6.mono (by simp)); have hR6 := Lib.hid (own_on hRd.out hb6' hgd); have hB6 := Lib.hid (bt hBd.out hb6'); clear hown hp6 hb6 hb6' hlow))
            go_roundw
            case rel => exact ⟨k + 1, a6, c6, by omega, by go_num, by rw [HT.out], by rw [HT.out]; exact hT6, by rw [HT.out]; exact hN6, hR6, hB6⟩
            case measure => simp [intOf]; omega
        · obtain rfl : k = L := by omega
          have hl3 := Lib.hid (length_term (X := X) (co Y i) (by rw [HL.out]; exact hlt))
          rw [HL.out] at hl3
          have HOut := Lib.hid (show outA X Y (i + 1) = axp (outA X Y i) 0 1 (tmA X i (co Y i) k) by simp only [outA]; rw [HL.out])
          obtain ⟨T, hT'⟩ : ∃ T, T = tmA X i (co Y i) k := ⟨_, rfl⟩
          rw [← hT'] at hT hN hl3 HOut ⊢
          clear hT'
          have hlo := length_outA X Y i
          rw [HL.out] at hlo
          have Hlo := Lib.hid hlo
          have hTl := hl3.out
          clear hlo
          obtain ⟨tl, htl⟩ : ∃ tl, tl = T.length := ⟨_, rfl⟩
          have Htl := Lib.hid htl
          rw [← htl] at hT hTl ⊢
          clear htl
          go_wp2
          obtain ⟨W, hW⟩ : ∃ W, W = wr := ⟨_, rfl⟩
          go_loopw [55] (fun j wq => ∃ m : Nat, m ≤ tl ∧ j = .int .i64 (m : Nat) ∧ Hid (wq.ownsRow g 5 1 (.slice (some ⟨g, 0, none⟩) k k) k ((iL (addAt (outA X Y i) 0 1 T m)).map (Value.int .u8))) ∧ Hid (Pn wq g ta T) ∧ Hid (Below w.heap.size w wq))
            (fun j _ => tl - (intOf j).toNat)
          case atStart => exact ⟨0, Nat.zero_le _, rfl, Lib.hid (by rw [addAt_zero]; exact hR1.out), hN, hB1⟩
          case round =>
            obtain ⟨m, hm, rfl, hR2, hN2, hB2⟩ := hrel
            by_cases hlt3 : m < tl
            · obtain ⟨bt', ot, rfl, hbt', hct⟩ := hN2.out.at_ (k := m) (by rw [← Htl.out]; exact hlt3)
              have q7 : (m : Int) < (tl : Int) := by omega
              have q8 : (0 : Int) ≤ (m : Int) := by omega
              have q9 : (m : Int) < (k : Int) := by omega
              have hcg := own_cells hR2.out m (by omega)
              rw [Nat.zero_add, getD_iL, co_addAt (by rw [Hlo.out]; omega), if_neg (by omega)] at hcg
              have hfz := hR2.out.frozenAt m
              have hst := (hR2.out.stored m (.int .u8 (toI (co (outA X Y i) m + co T m)))).1
              have hset : (iL (addAt (outA X Y i) 0 1 T m)).set m (toI (co (outA X Y i) m + co T m)) = iL (addAt (outA X Y i) 0 1 T (m + 1)) := by
                rw [← addAt_set (by rw [Hlo.out]; omega), Nat.zero_add, GF.one_mul]; simp [iL, List.map_set]
              rw [map_set_u8, hset] at hst
              have HS := Lib.hid hst
              have HB3 := Lib.hid (hB2.out.setCell (p := ⟨g, m, none⟩) hgw (.int .u8 (toI (co (outA X Y i) m + co T m))))
              have HN3 := Lib.hid (hN2.out.grown (grownBy_at wr g m (.int .u8 (toI (co (outA X Y i) m + co T m)))))
              have hbt := bits_xor_G (co (outA X Y i) m) (co T m)
              rw [← hbt] at HS HB3 HN3
              clear hst hset hbt hR2 hN2 hB2
              go_wp2_with fail
              go_still_tail 12, (by kernel_rfl)
              go_wp2
              go_roundw
              case rel => exact ⟨m + 1, by omega, by go_num, Lib.hid HS.out, Lib.hid HN3.out, Lib.hid HB3.out.drew⟩
              case measure => simp [intOf]; omega
            · obtain rfl : m = tl := by omega
              have he : addAt (outA X Y i) 0 1 T m = outA X Y (i + 1) := by rw [HOut.out]; unfold axp; rw [← Htl.out]
              rw [he] at hR2
              clear he
              go_wp2
              go_roundw
              case rel => exact ⟨i + 1, by omega, by go_num, hR2, hB2⟩
              case measure => simp [intOf]; omega
    · obtain rfl : i = L := by omega
      go_wp2_with (go_at_call 45; refine (rtrim_any _ _ _ (outA X Y i) _ (Pa.own2 hR.out) (by omega)).mono ?_; rintro e w9 ⟨v, rfl, hown9, hb9⟩; obtain ⟨ac, cc, hv, _, _, _, _, _⟩ := own_form hown9; subst hv; have HO9 := Lib.hid hown9; clear hown9)
      go_ret
      rw [HLag.out] at HO9
      exact ⟨_, by rw [HLag.out]; rfl, own_base HO9.out hB.out.size, bt hB.out hb9⟩
end Go.Proofs.Ytfmjfdbbjggcpaa
