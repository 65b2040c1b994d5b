/- The document's Weight once more: it leaves the world but for draws. The document's At. -/
import Derived.Test.YtmhknggjpggagaaSr
namespace Go.Proofs.Ytmhknggjpggagaa
open Go.ChangeShapes Go.WideShapes Go.ChangeAt Go.RowKit Go.Shelf GF
set_option linter.unusedVariables false
set_option linter.unusedSimpArgs false
set_option maxRecDepth 100000

set_option maxHeartbeats 2000000 in
theorem rweight_quiet (a : Option Addr) (L cap i : Nat) (X : List GF) (x : GF) (w : World) (hx : Pa w a L cap X) (hi : i < L) (hL : L ≤ 255) :
    Calls Try.prog 36 #[.slice a L cap, .int .i64 (i : Nat), .int .u8 (toI x)] w fun e w' => e = .returned (.int .u8 (toI (wt X i x))) ∧ ∃ q, w' = w.drewN q := by
  have HX := Lib.hid hx
  have HL := Lib.hid hx.len
  have hqi : (i : Int) < (L : Int) := by omega
  have hqi0 : (0 : Int) ≤ (i : Int) := by omega
  clear hx
  go_enter Try.func36, Try.ntmps36
  go_wp2
  go_loopw [11, 7] (fun j o wr => ∃ k : Nat, k ≤ L ∧ j = .int .i64 (k : Nat) ∧ o = .int .u8 (toI (wtA X i x k)) ∧ Hid (∃ q, wr = w.drewN q))
    (fun j _ _ => L - (intOf j).toNat)
  case atStart => exact ⟨0, Nat.zero_le _, rfl, rfl, Lib.hid ⟨0, rfl⟩⟩
  case round =>
    obtain ⟨k, hk, rfl, rfl, hB⟩ := hrel
    obtain ⟨qz, hqz⟩ := hB.out
    subst hqz
    have hbq := below_drewN (Below.refl w.heap.size w) qz
    by_cases hlt : k < L
    · obtain ⟨bx, ox, rfl, hbx, hci⟩ := (HX.out.on hbq).at_ hi
      obtain ⟨bk, ok, he, hbk, hck⟩ := (HX.out.on hbq).at_ hlt
      cases he
      have q2 : (k : Int) < (L : Int) := by omega
      have q3 : (0 : Int) ≤ (k : Int) := by omega
      by_cases e : k = i
      · have q4 : ((k : Int) != (i : Int)) = false := by rw [e]; simp
        have HT := Lib.hid (show wtA X i x (k + 1) = wtA X i x k by simp only [wtA]; rw [if_pos e])
        clear e
        go_wp2
        go_roundw
        case rel => exact ⟨k + 1, by omega, by go_num, by rw [HT.out], Lib.hid ⟨qz, rfl⟩⟩
        case measure => simp [intOf]; omega
      · have q4 : ((k : Int) != (i : Int)) = true := by rw [bne_iff_ne]; omega
        have HT := Lib.hid (show wtA X i x (k + 1) = wtA X i x k * ((x + co X k) * GF.inv (co X i + co X k)) by simp only [wtA]; rw [if_neg e])
        clear e
        clear hbq hB
        generalize hVV : w.drewN qz = V at hci hck ⊢
        have HVV := Lib.hid hVV
        clear hVV
        have hb1 := bits_xor_G x (co X k)
        have hb2 := bits_xor_G (co X i) (co X k)
        go_wp2_with fail
        go_quiet ((first
          | (go_at_call 49; exact Calls.quiet_of_same ((rinv_G _ _).mono fun _ _ ⟨he, hw⟩ => ⟨he, hw.symm⟩))
          | (go_at_call 35; exact Calls.quiet_of_same ((rmul_G _ _ _).mono fun _ _ ⟨he, hw⟩ => ⟨he, hw.symm⟩))))
        go_wp2
        go_roundw
        case rel => exact ⟨k + 1, by omega, by go_num, by rw [HT.out], Lib.hid ⟨_, by rw [← HVV.out, World.drewN_drewN]⟩⟩
        case measure => simp [intOf]; omega
    · obtain rfl : L = k := by omega
      have HT := Lib.hid (show wtA X i x L = wt X i x by unfold wt; rw [HL.out])
      go_wp2
      go_ret
      exact ⟨by rw [← HT.out]; rfl, hB.out⟩

/-- The first numbers of what shares tell; the first terms of one. -/
def atP (X : List GF) (R : Nat → List GF) (x : GF) (i : Nat) : List GF := (List.range i).map fun j => sm X.length fun k => wt X k x * co (R k) j
theorem atP_next (X : List GF) (R : Nat → List GF) (x : GF) (i : Nat) : atP X R x (i + 1) = atP X R x i ++ [sm X.length fun k => wt X k x * co (R k) i] := by simp [atP, List.range_succ]
set_option maxHeartbeats 2000000 in
theorem refAt_any (aX : Option Addr) (L cX : Nat) (X : List GF) (aR : Option Addr) (cR n : Nat) (Rm : List (List GF)) (x : GF) (w : World) (hX : Pa w aX L cX X) (hR : Mat w aR L cR Rm) (hL1 : 1 ≤ L) (hL : L ≤ 255) (hn : n ≤ 1000) (hl : ∀ k, k < L → (rw_ Rm k).length = n) :
    Calls Try.prog 20 #[.slice aX L cX, .slice aR L cR, .int .u8 (toI x)] w fun e w' => ∃ g c', e = .returned (.slice (some ⟨g, 0, none⟩) n c') ∧ Pa w' (some ⟨g, 0, none⟩) n c' (atR X (rw_ Rm) x n) ∧ Below w.heap.size w w' := by
  obtain ⟨i5, hi, hz0, hz1, hz2⟩ := info_parts info5
  have HI := Lib.hid (show Try.prog.info? 5 = some i5 ∧ i5.zero = some (.int .u8 0) ∧ i5.size = 1 ∧ i5.bytes = 1 from ⟨hi, hz0, hz1, hz2⟩)
  have HX := Lib.hid hX
  have HXL := Lib.hid hX.len
  have HR := Lib.hid hR
  have HLB := Lib.hid (show 1 ≤ L ∧ L ≤ 255 from ⟨hL1, hL⟩)
  have HN := Lib.hid hn
  have HRL := Lib.hid hl
  have HO0 := Lib.hid (own_emptyG w 5)
  have HB0 := Lib.hid (show Below w.heap.size w (w.alloc (.cells #[] 5)) from (Below.refl _ _).alloc (Nat.le_refl _) _)
  obtain ⟨b0, o0, a0, c0, rfl, hb0, hcell0, hp0⟩ := (hR.on HB0.out).row (i := 0) hL1
  rw [hl 0 hL1] at hcell0 hp0
  rw [Nat.add_zero] at hcell0
  have qL : (0 : Int) < (L : Int) := by omega
  clear hi hz0 hz1 hz2 hX hR hL hn hl hb0 hp0 hL1
  go_enter Try.func20, Try.ntmps20
  go_wp2_with fail
  clear hcell0
  go_loopw [7, 16] (fun o s wr => ∃ (i g c' : Nat), i ≤ n ∧ s = .int .i64 (i : Nat) ∧ o = .slice (some ⟨g, 0, none⟩) i c' ∧ wr.ownsRow w.heap.size 5 1 (.slice (some ⟨g, 0, none⟩) i c') i ((iL (atP X (rw_ Rm) x i)).map (Value.int .u8)) ∧ Below w.heap.size w wr) (fun _ s _ => n - (intOf s).toNat)
  case atStart => exact ⟨0, _, _, by omega, rfl, rfl, HO0.out, HB0.out⟩
  case round =>
    obtain ⟨i, g, c', hi, rfl, rfl, h1, h2⟩ := hrel
    rename World => V
    have HO := Lib.hid h1
    have HB := Lib.hid h2
    have HI2 := Lib.hid hi
    clear h1 h2 hi HO0 HB0
    have qn : (n : Int) ≤ 1000 := by have := HN.out; omega
    by_cases hlt : i < n
    · have HLT := Lib.hid hlt
      have qi : (i : Int) < (n : Int) := by omega
      have qi0 : (0 : Int) ≤ (i : Int) := by omega
      clear hlt
      go_upto_region 7 with fail
      go_loopw [9, 21] (fun y s wr => ∃ (k q : Nat), k ≤ L ∧ s = .int .i64 (k : Nat) ∧ y = .int .u8 (toI (sm k fun k => wt X k x * co (rw_ Rm k) i)) ∧ wr = V.drewN q) (fun _ s _ => L - (intOf s).toNat)
      case atStart => exact ⟨0, 0, by omega, rfl, rfl, rfl⟩
      case round =>
        obtain ⟨k, q, hk, rfl, rfl, rfl⟩ := hrel
        have HK := Lib.hid hk
        clear hk
        have qLL : (L : Int) ≤ 255 := by have := HLB.out; omega
        by_cases hlt : k < L
        · have HKL := Lib.hid hlt
          have hbq := below_drewN (Below.refl V.heap.size V) q
          have HXV := Lib.hid ((HX.out.on HB.out).on hbq)
          obtain ⟨br, orr, ai, ci, hae, hbr, hcr, hpr⟩ := ((HR.out.on HB.out).on hbq).row hlt
          cases hae
          rw [HRL.out k hlt] at hcr hpr
          obtain ⟨bs, os, rfl, hbs, hcs⟩ := hpr.at_ HLT.out
          have qk : (k : Int) < (L : Int) := by omega
          have qk0 : (0 : Int) ≤ (k : Int) := by omega
          have hbx := bits_xor_G (sm k fun k => wt X k x * co (rw_ Rm k) i) (wt X k x * co (rw_ Rm k) i)
          have HST := Lib.hid (show sm (k + 1) (fun k => wt X k x * co (rw_ Rm k) i) = sm k (fun k => wt X k x * co (rw_ Rm k) i) + wt X k x * co (rw_ Rm k) i from rfl)
          obtain ⟨y, hy⟩ : ∃ y, y = sm k fun k => wt X k x * co (rw_ Rm k) i := ⟨_, rfl⟩
          obtain ⟨u, hu⟩ : ∃ u, u = co (rw_ Rm k) i := ⟨_, rfl⟩
          obtain ⟨v, hv⟩ : ∃ v, v = wt X k x := ⟨_, rfl⟩
          rw [← hy, ← hu, ← hv] at hbx HST
          rw [← hu] at hcs
          rw [← hy]
          have HWT := Lib.hid (show ∀ m : Nat, Calls Try.prog 36 #[.slice aX L cX, .int .i64 (k : Nat), .int .u8 (toI x)] ((V.drewN q).drewN m) fun e w' => e = .returned (.int .u8 (toI v)) ∧ ∃ j, w' = ((V.drewN q).drewN m).drewN j from fun m => by
            rw [hv]; exact rweight_quiet aX L cX k X x _ (HXV.out.on (below_drewN (Below.refl _ _) m)) HKL.out HLB.out.2)
          clear hy hu hv hlt hbr hpr hbs hbq
          generalize hU : V.drewN q = U at hcr hcs HWT ⊢
          have HU := Lib.hid hU
          clear hU
          go_upto_region 9 with fail
          go_quiet (first
            | (go_at_call 36; exact Calls.quiet_of (HWT.out _))
            | (go_at_call 35; exact Calls.quiet_of_same ((rmul_G v u _).mono fun _ _ ⟨he, hw⟩ => ⟨he, hw.symm⟩)))
          go_wp2
          go_roundw
          case rel => exact ⟨k + 1, _, HKL.out, by go_num, by rw [HST.out], by rw [← HU.out, World.drewN_drewN]⟩
          case measure => simp [intOf] <;> (have := HKL.out; omega)
        · obtain rfl : k = L := by have := HK.out; omega
          have HOU := Lib.hid (show (V.drewN q).ownsRow w.heap.size 5 1 (.slice (some ⟨g, 0, none⟩) i c') i ((iL (atP X (rw_ Rm) x i)).map (Value.int .u8)) from HO.out)
          have HBU := Lib.hid (below_drewN HB.out q)
          have HNI := Lib.hid (show i ≤ 1000000 by have := HLT.out; have := HN.out; omega)
          obtain ⟨v, hv⟩ : ∃ v, v = sm k fun k => wt X k x * co (rw_ Rm k) i := ⟨_, rfl⟩
          have HV := Lib.hid (show atP X (rw_ Rm) x (i + 1) = atP X (rw_ Rm) x i ++ [v] by rw [atP_next, hv, HXL.out])
          rw [← hv]
          clear hv hlt
          generalize V.drewN q = U at HOU HBU ⊢
          have HUS := Lib.hid HBU.out.size
          go_wp2_with ((with_reducible show wpList _ _ _ (⟨some 42, _, _, _, _, _⟩ :: _) _ _); go_loud (refine wpList_append_G1 rfl (.tmp 39) (.tmp 41) 22 rfl w.heap.size 5 i5 Try.underlying22 HI.out.1 HI.out.2.1 HI.out.2.2.1 HI.out.2.2.2 (.slice (some ⟨g, 0, none⟩) i c') i (atP X (rw_ Rm) x i) rfl HOU.out v 5 rfl HNI.out HUS.out ?_; intro g5 c5 w5 ho5 hb5))
          have HO5 := Lib.hid ho5
          have HB5 := Lib.hid (HBU.out.trans hb5)
          clear ho5 hb5
          go_roundw
          case rel => first
            | exact ⟨i + 1, g5, c5, HLT.out, by go_num, rfl, by rw [HV.out]; exact HO5.out, HB5.out⟩
            | ((repeat apply Exists.intro); exact ⟨⟨i + 1, g5, c5, HLT.out, by go_num, rfl, by rw [HV.out]; exact HO5.out, HB5.out⟩, rfl⟩)
          case measure => simp [intOf] <;> (have := HLT.out; omega)
    · obtain rfl : i = n := by have := HI2.out; omega
      go_wp2
      go_ret
      exact ⟨g, c', rfl, Pa.own2 HO.out, HB.out⟩
end Go.Proofs.Ytmhknggjpggagaa
