/- Contracts of the document's own Share and At. -/
import Derived.Test.YtmhknggjpggagaaSa
import Derived.Test.YtmhknggjpggagaaPrth
import Derived.Deep.QuietTactic
import Derived.BigQuiet
namespace Go.Proofs.Ytmhknggjpggagaa
open Go.ChangeShapes Go.WideShapes Go.ChangeAt Go.RowKit Go.Shelf GF
set_option linter.unusedVariables false
set_option linter.unusedSimpArgs false
set_option maxRecDepth 100000

theorem sh_idx (q n i : Nat) (hq : q ≤ 300) (hn : n ≤ 1000) (hi : i ≤ 1000) : ∃ A : Nat, A = q * n + i ∧ 0 ≤ (q : Int) * (n : Int) ∧ (q : Int) * (n : Int) ≤ 300000 ∧ (q : Int) * (n : Int) + (i : Int) = (A : Int) := by
  have h1 : q * n ≤ 300 * 1000 := Nat.mul_le_mul hq hn
  have h2 : (q : Int) * (n : Int) = ((q * n : Nat) : Int) := by rw [Int.natCast_mul]
  exact ⟨_, rfl, by omega, by omega, by omega⟩
set_option maxHeartbeats 1000000 in
theorem refShare_any (t n m : Nat) (aS : Option Addr) (cS : Nat) (S : List GF) (aM : Option Addr) (cM : Nat) (M : List GF) (x : GF) (w : World) (hS : Pa w aS n cS S) (hM : Pa w aM m cM M) (ht : 1 ≤ t) (ht2 : t ≤ 300) (hn : n ≤ 1000) (hm : m = (t - 1) * n) :
    Calls Try.prog 16 #[.int .i64 (t : Nat), .slice aS n cS, .slice aM m cM, .int .u8 (toI x)] w fun e w' => ∃ g c', e = .returned (.slice (some ⟨g, 0, none⟩) n c') ∧ Pa w' (some ⟨g, 0, none⟩) n c' (shR t n S M x) ∧ Below w.heap.size w w' := by
  obtain ⟨i5, hi, hz0, hz1, hz2⟩ := info_parts info5
  have HI := Lib.hid (show Try.prog.info? 5 = some i5 ∧ i5.zero = some (.int .u8 0) ∧ i5.size = 1 ∧ i5.bytes = 1 from ⟨hi, hz0, hz1, hz2⟩)
  have HS := Lib.hid hS
  have HM := Lib.hid hM
  have HT := Lib.hid (show 1 ≤ t ∧ t ≤ 300 from ⟨ht, ht2⟩)
  have HN := Lib.hid hn
  have HMM := Lib.hid hm
  have HO0 := Lib.hid (own_emptyG w 5)
  have HB0 := Lib.hid (show Below w.heap.size w (w.alloc (.cells #[] 5)) from (Below.refl _ _).alloc (Nat.le_refl _) _)
  clear hi hz0 hz1 hz2 hS hM ht ht2 hn hm
  go_enter Try.func16, Try.ntmps16
  go_wp2_with fail
  go_loopw [9, 16] (fun o s wr => ∃ (i g c' : Nat), i ≤ n ∧ s = .int .i64 (i : Nat) ∧ o = .slice (some ⟨g, 0, none⟩) i c' ∧ wr.ownsRow w.heap.size 5 1 (.slice (some ⟨g, 0, none⟩) i c') i ((iL (shP t n S M x i)).map (Value.int .u8)) ∧ Below w.heap.size w wr) (fun _ s _ => n - (intOf s).toNat)
  case atStart => exact ⟨0, _, _, by omega, rfl, rfl, HO0.out, HB0.out⟩
  case round =>
    obtain ⟨i, g, c', hi, rfl, rfl, h1, h2⟩ := hrel
    rename World => V
    have HO := Lib.hid h1
    have HB := Lib.hid h2
    have HI2 := Lib.hid hi
    clear h1 h2 hi HO0 HB0
    have qn : (n : Int) ≤ 1000 := by have := HN.out; omega
    by_cases hlt : i < n
    · have qi : (i : Int) < (n : Int) := by omega
      have qi0 : (0 : Int) ≤ (i : Int) := by omega
      obtain ⟨bs, os, rfl, hbs, hcs⟩ := (HS.out.on HB.out).at_ hlt
      have HO1 := Lib.hid (own_oneG V 5 (co S i))
      have HB1 := Lib.hid (show Below V.heap.size V (V.alloc (.cells #[.int .u8 (toI (co S i))] 5)) from (Below.refl _ _).alloc (Nat.le_refl _) _)
      have HLT := Lib.hid hlt
      have HVB := Lib.hid HB.out.size
      obtain ⟨s0, hs0⟩ : ∃ s0, s0 = co S i := ⟨_, rfl⟩
      rw [← hs0] at hcs HO1 HB1
      have HD0 := Lib.hid (show [s0] = dlP n S M i 0 by rw [hs0]; rfl)
      clear hs0 hlt hbs
      go_upto_region 7 with fail
      clear hcs
      go_loopw [11, 12] (fun p s wr => ∃ (q g2 c2 : Nat), q + 1 ≤ t ∧ s = .int .i64 ((q : Int) + 1) ∧ p = .slice (some ⟨g2, 0, none⟩) (q + 1) c2 ∧ wr.ownsRow V.heap.size 5 1 (.slice (some ⟨g2, 0, none⟩) (q + 1) c2) (q + 1) ((iL (dlP n S M i q)).map (Value.int .u8)) ∧ Below V.heap.size V wr) (fun _ s _ => t - (intOf s).toNat)
      case atStart => exact ⟨0, _, _, HT.out.1, rfl, rfl, by rw [← HD0.out]; exact HO1.out, HB1.out⟩
      case round =>
        obtain ⟨q, g2, c2, hq, rfl, rfl, h1, h2⟩ := hrel
        rename World => U
        have UO := Lib.hid h1
        have UB := Lib.hid h2
        have HQ := Lib.hid hq
        clear h1 h2 HO1 HB1 HD0
        have qt : (t : Int) ≤ 300 := by have := HT.out; omega
        have qq : (0 : Int) ≤ (q : Int) := by omega
        have qq2 : (q : Int) + 1 ≤ (t : Int) := by omega
        by_cases hlt : q + 1 < t
        · have HLQ := Lib.hid hlt
          obtain ⟨A, hA, hA0, hA1, hA2⟩ := sh_idx q n i (by omega) (by omega) (by have := HLT.out; omega)
          have hAm : A < m := by rw [HMM.out, hA]; exact idx_lt HLT.out hlt
          obtain ⟨bm, om, rfl, hbm, hcm⟩ := (HM.out.on (bt HB.out UB.out)).at_ hAm
          have HAE := Lib.hid hA
          have ql : (q : Int) + 1 < (t : Int) := by omega
          have qA : (A : Int) < (m : Int) := by omega
          have qA0 : (0 : Int) ≤ (A : Int) := by omega
          have qs : (q : Int) + 1 - 1 = (q : Int) := by omega
          have HQS := Lib.hid (show q + 1 ≤ 1000000 by have := HT.out; omega)
          have HUS := Lib.hid UB.out.size
          obtain ⟨v, hv⟩ : ∃ v, v = co M A := ⟨_, rfl⟩
          rw [← hv] at hcm
          have HV := Lib.hid (show dlP n S M i (q + 1) = dlP n S M i q ++ [v] by rw [dlP_next, hv, HAE.out])
          clear hA hv hlt hAm hbm hq
          go_wp2_with ((with_reducible show wpList _ _ _ (⟨some 41, _, _, _, _, _⟩ :: _) _ _); go_loud (refine wpList_append_G1 rfl (.tmp 29) (.tmp 40) 22 rfl V.heap.size 5 i5 Try.underlying22 HI.out.1 HI.out.2.1 HI.out.2.2.1 HI.out.2.2.2 (.slice (some ⟨g2, 0, none⟩) (q + 1) c2) (q + 1) (dlP n S M i q) rfl UO.out v 5 rfl HQS.out HUS.out ?_; intro g5 c5 w5 ho5 hb5))
          have HO5 := Lib.hid ho5
          have HB5 := Lib.hid (UB.out.trans hb5)
          clear ho5 hb5
          go_roundw
          case rel => exact ⟨q + 1, g5, c5, HLQ.out, by go_num, rfl, by rw [HV.out]; exact HO5.out, HB5.out⟩
          case measure => simp [intOf] <;> (have := HLQ.out; omega)
        · obtain rfl : t = q + 1 := by omega
          have HP := Lib.hid (Pa.own2 UO.out)
          have HE := Lib.hid (reval_any (some ⟨g2, 0, none⟩) (q + 1) c2 (dlP n S M i q) x U HP.out (by have := HT.out; omega))
          have HOU := Lib.hid (own_on HO.out UB.out (HO.out.lt g rfl).2)
          have HUS := Lib.hid (Nat.le_trans HVB.out UB.out.size)
          have HNI := Lib.hid (show i ≤ 1000000 by have := HLT.out; have := HN.out; omega)
          obtain ⟨v, hv⟩ : ∃ v, v = ev (dlP n S M i q) x := ⟨_, rfl⟩
          rw [← hv] at HE
          have HV := Lib.hid (show shP (q + 1) n S M x (i + 1) = shP (q + 1) n S M x i ++ [v] by rw [shP_next, hv]; rfl)
          clear hv hlt hq
          go_wp2_with (first
            | (go_at_call 32; go_loud ((with_reducible refine HE.out.mono ?_); rintro e w' ⟨rfl, rfl⟩))
            | ((with_reducible show wpList _ _ _ (⟨some 47, _, _, _, _, _⟩ :: _) _ _); go_loud (refine wpList_append_G1 rfl (.tmp 42) (.tmp 46) 22 rfl w.heap.size 5 i5 Try.underlying22 HI.out.1 HI.out.2.1 HI.out.2.2.1 HI.out.2.2.2 (.slice (some ⟨g, 0, none⟩) i c') i (shP (q + 1) n S M x i) rfl HOU.out v 5 rfl HNI.out HUS.out ?_; intro g5 c5 w5 ho5 hb5)))
          have HO5 := Lib.hid ho5
          have HB5 := Lib.hid ((HB.out.trans (UB.out.mono HVB.out)).trans hb5)
          clear ho5 hb5
          go_roundw
          case rel => first
            | exact ⟨i + 1, g5, c5, HLT.out, by go_num, rfl, by rw [HV.out]; exact HO5.out, HB5.out⟩
            | ((repeat apply Exists.intro); exact ⟨⟨i + 1, g5, c5, HLT.out, by go_num, rfl, by rw [HV.out]; exact HO5.out, HB5.out⟩, rfl⟩)
          case measure => simp [intOf] <;> (have := HLT.out; omega)
    · obtain rfl : i = n := by have := HI2.out; omega
      go_wp2
      go_ret
      exact ⟨g, c', rfl, Pa.own2 HO.out, HB.out⟩
end Go.Proofs.Ytmhknggjpggagaa
