/- Texts of mine, one behind the other: Hl Jg Hv. -/
import Derived.Test.YtappfdbmhgifcaaGreatDoorZS21
import Derived.Test.YtappfdbmhgifcaaGreatDoorZS13
import Derived.Test.YtappfdbmhgifcaaGreatDoorZS14
import Derived.Laws.AppendOwn
import Derived.Deep.AppendLies
import Derived.Test.YtappfdbmhgifcaaGreatDoorZS10
import Derived.Test.YtappfdbmhgifcaaGreatDoorRows
import Derived.ProofKit
import Derived.LaidMore
import Derived.OpenShut
import Derived.Stop.Joined
import Derived.Test.YtappfdbmhgifcaaGreatDoorZS18
/- The document's Share, At, Piece once more (their rows lie in blocks of bytes), and its Rows. -/
namespace Go.Proofs.YtappfdbmhgifcaaGreatDoor
open Go.ChangeShapes Go.WideShapes Go.ChangeAt Go.RowKit Go.Shelf GF
set_option linter.unusedVariables false
set_option linter.unusedSimpArgs false
set_option maxRecDepth 100000

theorem tyU_own {w : World} {base g n c : Nat} {vs : List Value} (h : w.ownsRow base 5 1 (.slice (some ⟨g, 0, none⟩) n c) n vs) : TyU w g := by
  rcases h.2 with ⟨e, _⟩ | ⟨g', c', cur, e, _, hh, _⟩
  · cases e
  · cases e
    exact ⟨cur, (0, 0), hh⟩
theorem lit_cells17 (w : World) (v : Value) (e : TypeId) : ∀ j u, [v][j]? = some u → (w.alloc (.cells #[v] e)).cell? ((⟨w.heap.size, 0, none⟩ : Addr).add j) = some u := fun j u hu => by
  rcases j with _ | j
  · have : v = u := by simpa using hu
    subst this
    simp [Addr.add]
  · simp at hu
theorem own_slice17 {w : World} {base size n : Nat} {e : TypeId} {v : Value} {vs : List Value} (h : w.ownsRow base e size v n vs) : ∃ a c, v = .slice a n c := by
  rcases h.2 with ⟨e1, e2⟩ | ⟨g, c, cur, e1, _⟩
  · exact ⟨none, 0, by rw [e1, e2]⟩
  · exact ⟨_, c, e1⟩
set_option maxHeartbeats 1000000 in
theorem refShare_new (t n m : Nat) (aS : Option Addr) (cS : Nat) (S : List GF) (aM : Option Addr) (cM : Nat) (M : List GF) (x : GF) (w : World) (hS : Pa w aS n cS S) (hM : Pa w aM m cM M) (ht : 1 ≤ t) (ht2 : t ≤ 300) (hn : n ≤ 1000) (hm : m = (t - 1) * n) :
    Calls Tryz.prog 33 #[.int .i64 (t : Nat), .slice aS n cS, .slice aM m cM, .int .u8 (toI x)] w fun e w' => ∃ g c', e = .returned (.slice (some ⟨g, 0, none⟩) n c') ∧ Pa w' (some ⟨g, 0, none⟩) n c' (shR t n S M x) ∧ Below w.heap.size w w' ∧ TyU w' g := by
  obtain ⟨i5, hi, hz0, hz1, hz2⟩ := info_parts info5
  have HI := Lib.hid (show Tryz.prog.info? 5 = some i5 ∧ i5.zero = some (.int .u8 0) ∧ i5.size = 1 ∧ i5.bytes = 1 from ⟨hi, hz0, hz1, hz2⟩)
  have HS := Lib.hid hS
  have HM := Lib.hid hM
  have HT := Lib.hid (show 1 ≤ t ∧ t ≤ 300 from ⟨ht, ht2⟩)
  have HN := Lib.hid hn
  have HMM := Lib.hid hm
  have HO0 := Lib.hid (own_emptyG w 5)
  have HB0 := Lib.hid (show Below w.heap.size w (w.alloc (.cells #[] 5)) from (Below.refl _ _).alloc (Nat.le_refl _) _)
  clear hi hz0 hz1 hz2 hS hM ht ht2 hn hm
  go_enter Tryz.func33, Tryz.ntmps33
  go_wp2_with fail
  go_loopw [9, 16] (fun o s wr => ∃ (i g c' : Nat), i ≤ n ∧ s = .int .i64 (i : Nat) ∧ o = .slice (some ⟨g, 0, none⟩) i c' ∧ wr.ownsRow w.heap.size 5 1 (.slice (some ⟨g, 0, none⟩) i c') i ((iL (shP t n S M x i)).map (Value.int .u8)) ∧ Below w.heap.size w wr) (fun _ s _ => n - (intOf s).toNat)
  case atStart => exact ⟨0, _, _, by omega, rfl, rfl, HO0.out, HB0.out⟩
  case round =>
    obtain ⟨i, g, c', hi, rfl, rfl, h1, h2⟩ := hrel
    rename World => V
    have HO := Lib.hid h1
    have HB := Lib.hid h2
    have HI2 := Lib.hid hi
    clear h1 h2 hi HO0 HB0
    have qn : (n : Int) ≤ 1000 := by have := HN.out; omega
    by_cases hlt : i < n
    · have qi : (i : Int) < (n : Int) := by omega
      have qi0 : (0 : Int) ≤ (i : Int) := by omega
      obtain ⟨bs, os, rfl, hbs, hcs⟩ := (HS.out.on HB.out).at_ hlt
      have HO1 := Lib.hid (own_oneG V 5 (co S i))
      have HB1 := Lib.hid (show Below V.heap.size V (V.alloc (.cells #[.int .u8 (toI (co S i))] 5)) from (Below.refl _ _).alloc (Nat.le_refl _) _)
      have HLT := Lib.hid hlt
      have HVB := Lib.hid HB.out.size
      obtain ⟨s0, hs0⟩ : ∃ s0, s0 = co S i := ⟨_, rfl⟩
      rw [← hs0] at hcs HO1 HB1
      have HD0 := Lib.hid (show [s0] = dlP n S M i 0 by rw [hs0]; rfl)
      clear hs0 hlt hbs
      go_upto_region 7 with fail
      clear hcs
      go_loopw [11, 12] (fun p s wr => ∃ (q g2 c2 : Nat), q + 1 ≤ t ∧ s = .int .i64 ((q : Int) + 1) ∧ p = .slice (some ⟨g2, 0, none⟩) (q + 1) c2 ∧ wr.ownsRow V.heap.size 5 1 (.slice (some ⟨g2, 0, none⟩) (q + 1) c2) (q + 1) ((iL (dlP n S M i q)).map (Value.int .u8)) ∧ Below V.heap.size V wr) (fun _ s _ => t - (intOf s).toNat)
      case atStart => exact ⟨0, _, _, HT.out.1, rfl, rfl, by rw [← HD0.out]; exact HO1.out, HB1.out⟩
      case round =>
        obtain ⟨q, g2, c2, hq, rfl, rfl, h1, h2⟩ := hrel
        rename World => U
        have UO := Lib.hid h1
        have UB := Lib.hid h2
        have HQ := Lib.hid hq
        clear h1 h2 HO1 HB1 HD0
        have qt : (t : Int) ≤ 300 := by have := HT.out; omega
        have qq : (0 : Int) ≤ (q : Int) := by omega
        have qq2 : (q : Int) + 1 ≤ (t : Int) := by omega
        by_cases hlt : q + 1 < t
        · have HLQ := Lib.hid hlt
          obtain ⟨A, hA, hA0, hA1, hA2⟩ := sh_idx q n i (by omega) (by omega) (by have := HLT.out; omega)
          have hAm : A < m := by rw [HMM.out, hA]; exact idx_lt HLT.out hlt
          obtain ⟨bm, om, rfl, hbm, hcm⟩ := (HM.out.on (bt HB.out UB.out)).at_ hAm
          have HAE := Lib.hid hA
          have ql : (q : Int) + 1 < (t : Int) := by omega
          have qA : (A : Int) < (m : Int) := by omega
          have qA0 : (0 : Int) ≤ (A : Int) := by omega
          have qs : (q : Int) + 1 - 1 = (q : Int) := by omega
          have HQS := Lib.hid (show q + 1 ≤ 1000000 by have := HT.out; omega)
          have HUS := Lib.hid UB.out.size
          obtain ⟨v, hv⟩ : ∃ v, v = co M A := ⟨_, rfl⟩
          rw [← hv] at hcm
          have HV := Lib.hid (show dlP n S M i (q + 1) = dlP n S M i q ++ [v] by rw [dlP_next, hv, HAE.out])
          clear hA hv hlt hAm hbm hq
          go_wp2_with ((with_reducible show wpList _ _ _ (⟨some 41, _, _, _, _, _⟩ :: _) _ _); go_loud (refine wpList_append_G1 rfl (.tmp 29) (.tmp 40) 22 rfl V.heap.size 5 i5 Tryz.underlying22 HI.out.1 HI.out.2.1 HI.out.2.2.1 HI.out.2.2.2 (.slice (some ⟨g2, 0, none⟩) (q + 1) c2) (q + 1) (dlP n S M i q) rfl UO.out v 5 rfl HQS.out HUS.out ?_; intro g5 c5 w5 ho5 hb5))
          have HO5 := Lib.hid ho5
          have HB5 := Lib.hid (UB.out.trans hb5)
          clear ho5 hb5
          go_roundw
          case rel => exact ⟨q + 1, g5, c5, HLQ.out, by go_num, rfl, by rw [HV.out]; exact HO5.out, HB5.out⟩
          case measure => simp [intOf] <;> (have := HLQ.out; omega)
        · obtain rfl : t = q + 1 := by omega
          have HP := Lib.hid (Pa.own2 UO.out)
          have HE := Lib.hid (reval_any (some ⟨g2, 0, none⟩) (q + 1) c2 (dlP n S M i q) x U HP.out (by have := HT.out; omega))
          have HOU := Lib.hid (own_on HO.out UB.out (HO.out.lt g rfl).2)
          have HUS := Lib.hid (Nat.le_trans HVB.out UB.out.size)
          have HNI := Lib.hid (show i ≤ 1000000 by have := HLT.out; have := HN.out; omega)
          obtain ⟨v, hv⟩ : ∃ v, v = ev (dlP n S M i q) x := ⟨_, rfl⟩
          rw [← hv] at HE
          have HV := Lib.hid (show shP (q + 1) n S M x (i + 1) = shP (q + 1) n S M x i ++ [v] by rw [shP_next, hv]; rfl)
          clear hv hlt hq
          go_wp2_with (first
            | (go_at_call 61; go_loud ((with_reducible refine HE.out.mono ?_); rintro e w' ⟨rfl, rfl⟩))
            | ((with_reducible show wpList _ _ _ (⟨some 47, _, _, _, _, _⟩ :: _) _ _); go_loud (refine wpList_append_G1 rfl (.tmp 42) (.tmp 46) 22 rfl w.heap.size 5 i5 Tryz.underlying22 HI.out.1 HI.out.2.1 HI.out.2.2.1 HI.out.2.2.2 (.slice (some ⟨g, 0, none⟩) i c') i (shP (q + 1) n S M x i) rfl HOU.out v 5 rfl HNI.out HUS.out ?_; intro g5 c5 w5 ho5 hb5)))
          have HO5 := Lib.hid ho5
          have HB5 := Lib.hid ((HB.out.trans (UB.out.mono HVB.out)).trans hb5)
          clear ho5 hb5
          go_roundw
          case rel => first
            | exact ⟨i + 1, g5, c5, HLT.out, by go_num, rfl, by rw [HV.out]; exact HO5.out, HB5.out⟩
            | ((repeat apply Exists.intro); exact ⟨⟨i + 1, g5, c5, HLT.out, by go_num, rfl, by rw [HV.out]; exact HO5.out, HB5.out⟩, rfl⟩)
          case measure => simp [intOf] <;> (have := HLT.out; omega)
    · obtain rfl : i = n := by have := HI2.out; omega
      go_wp2
      go_ret
      exact ⟨g, c', rfl, Pa.own2 HO.out, HB.out, tyU_own HO.out⟩
set_option maxHeartbeats 2000000 in
theorem refAt_new (aX : Option Addr) (L cX : Nat) (X : List GF) (aR : Option Addr) (cR n : Nat) (Rm : List (List GF)) (x : GF) (w : World) (hX : Pa w aX L cX X) (hR : Mat w aR L cR Rm) (hL1 : 1 ≤ L) (hL : L ≤ 255) (hn : n ≤ 1000) (hl : ∀ k, k < L → (rw_ Rm k).length = n) :
    Calls Tryz.prog 62 #[.slice aX L cX, .slice aR L cR, .int .u8 (toI x)] w fun e w' => ∃ g c', e = .returned (.slice (some ⟨g, 0, none⟩) n c') ∧ Pa w' (some ⟨g, 0, none⟩) n c' (atR X (rw_ Rm) x n) ∧ Below w.heap.size w w' ∧ TyU w' g := by
  obtain ⟨i5, hi, hz0, hz1, hz2⟩ := info_parts info5
  have HI := Lib.hid (show Tryz.prog.info? 5 = some i5 ∧ i5.zero = some (.int .u8 0) ∧ i5.size = 1 ∧ i5.bytes = 1 from ⟨hi, hz0, hz1, hz2⟩)
  have HX := Lib.hid hX
  have HXL := Lib.hid hX.len
  have HR := Lib.hid hR
  have HLB := Lib.hid (show 1 ≤ L ∧ L ≤ 255 from ⟨hL1, hL⟩)
  have HN := Lib.hid hn
  have HRL := Lib.hid hl
  have HO0 := Lib.hid (own_emptyG w 5)
  have HB0 := Lib.hid (show Below w.heap.size w (w.alloc (.cells #[] 5)) from (Below.refl _ _).alloc (Nat.le_refl _) _)
  obtain ⟨b0, o0, a0, c0, rfl, hb0, hcell0, hp0⟩ := (hR.on HB0.out).row (i := 0) hL1
  rw [hl 0 hL1] at hcell0 hp0
  rw [Nat.add_zero] at hcell0
  have qL : (0 : Int) < (L : Int) := by omega
  clear hi hz0 hz1 hz2 hX hR hL hn hl hb0 hp0 hL1
  go_enter Tryz.func62, Tryz.ntmps62
  go_wp2_with fail
  clear hcell0
  go_loopw [7, 16] (fun o s wr => ∃ (i g c' : Nat), i ≤ n ∧ s = .int .i64 (i : Nat) ∧ o = .slice (some ⟨g, 0, none⟩) i c' ∧ wr.ownsRow w.heap.size 5 1 (.slice (some ⟨g, 0, none⟩) i c') i ((iL (atP X (rw_ Rm) x i)).map (Value.int .u8)) ∧ Below w.heap.size w wr) (fun _ s _ => n - (intOf s).toNat)
  case atStart => exact ⟨0, _, _, by omega, rfl, rfl, HO0.out, HB0.out⟩
  case round =>
    obtain ⟨i, g, c', hi, rfl, rfl, h1, h2⟩ := hrel
    rename World => V
    have HO := Lib.hid h1
    have HB := Lib.hid h2
    have HI2 := Lib.hid hi
    clear h1 h2 hi HO0 HB0
    have qn : (n : Int) ≤ 1000 := by have := HN.out; omega
    by_cases hlt : i < n
    · have HLT := Lib.hid hlt
      have qi : (i : Int) < (n : Int) := by omega
      have qi0 : (0 : Int) ≤ (i : Int) := by omega
      clear hlt
      go_upto_region 7 with fail
      go_loopw [9, 21] (fun y s wr => ∃ (k q : Nat), k ≤ L ∧ s = .int .i64 (k : Nat) ∧ y = .int .u8 (toI (sm k fun k => wt X k x * co (rw_ Rm k) i)) ∧ wr = V.drewN q) (fun _ s _ => L - (intOf s).toNat)
      case atStart => exact ⟨0, 0, by omega, rfl, rfl, rfl⟩
      case round =>
        obtain ⟨k, q, hk, rfl, rfl, rfl⟩ := hrel
        have HK := Lib.hid hk
        clear hk
        have qLL : (L : Int) ≤ 255 := by have := HLB.out; omega
        by_cases hlt : k < L
        · have HKL := Lib.hid hlt
          have hbq := below_drewN (Below.refl V.heap.size V) q
          have HXV := Lib.hid ((HX.out.on HB.out).on hbq)
          obtain ⟨br, orr, ai, ci, hae, hbr, hcr, hpr⟩ := ((HR.out.on HB.out).on hbq).row hlt
          cases hae
          rw [HRL.out k hlt] at hcr hpr
          obtain ⟨bs, os, rfl, hbs, hcs⟩ := hpr.at_ HLT.out
          have qk : (k : Int) < (L : Int) := by omega
          have qk0 : (0 : Int) ≤ (k : Int) := by omega
          have hbx := bits_xor_G (sm k fun k => wt X k x * co (rw_ Rm k) i) (wt X k x * co (rw_ Rm k) i)
          have HST := Lib.hid (show sm (k + 1) (fun k => wt X k x * co (rw_ Rm k) i) = sm k (fun k => wt X k x * co (rw_ Rm k) i) + wt X k x * co (rw_ Rm k) i from rfl)
          obtain ⟨y, hy⟩ : ∃ y, y = sm k fun k => wt X k x * co (rw_ Rm k) i := ⟨_, rfl⟩
          obtain ⟨u, hu⟩ : ∃ u, u = co (rw_ Rm k) i := ⟨_, rfl⟩
          obtain ⟨v, hv⟩ : ∃ v, v = wt X k x := ⟨_, rfl⟩
          rw [← hy, ← hu, ← hv] at hbx HST
          rw [← hu] at hcs
          rw [← hy]
          have HWT := Lib.hid (show ∀ m : Nat, Calls Tryz.prog 92 #[.slice aX L cX, .int .i64 (k : Nat), .int .u8 (toI x)] ((V.drewN q).drewN m) fun e w' => e = .returned (.int .u8 (toI v)) ∧ ∃ j, w' = ((V.drewN q).drewN m).drewN j from fun m => by
            rw [hv]; exact rweight_quiet aX L cX k X x _ (HXV.out.on (below_drewN (Below.refl _ _) m)) HKL.out HLB.out.2)
          clear hy hu hv hlt hbr hpr hbs hbq
          generalize hU : V.drewN q = U at hcr hcs HWT ⊢
          have HU := Lib.hid hU
          clear hU
          go_upto_region 9 with fail
          go_quiet (first
            | (go_at_call 92; exact Calls.quiet_of (HWT.out _))
            | (go_at_call 88; exact Calls.quiet_of_same ((rmul_G v u _).mono fun _ _ ⟨he, hw⟩ => ⟨he, hw.symm⟩)))
          go_wp2
          go_roundw
          case rel => exact ⟨k + 1, _, HKL.out, by go_num, by rw [HST.out], by rw [← HU.out, World.drewN_drewN]⟩
          case measure => simp [intOf] <;> (have := HKL.out; omega)
        · obtain rfl : k = L := by have := HK.out; omega
          have HOU := Lib.hid (show (V.drewN q).ownsRow w.heap.size 5 1 (.slice (some ⟨g, 0, none⟩) i c') i ((iL (atP X (rw_ Rm) x i)).map (Value.int .u8)) from HO.out)
          have HBU := Lib.hid (below_drewN HB.out q)
          have HNI := Lib.hid (show i ≤ 1000000 by have := HLT.out; have := HN.out; omega)
          obtain ⟨v, hv⟩ : ∃ v, v = sm k fun k => wt X k x * co (rw_ Rm k) i := ⟨_, rfl⟩
          have HV := Lib.hid (show atP X (rw_ Rm) x (i + 1) = atP X (rw_ Rm) x i ++ [v] by rw [atP_next, hv, HXL.out])
          rw [← hv]
          clear hv hlt
          generalize V.drewN q = U at HOU HBU ⊢
          have HUS := Lib.hid HBU.out.size
          go_wp2_with ((with_reducible show wpList _ _ _ (⟨some 42, _, _, _, _, _⟩ :: _) _ _); go_loud (refine wpList_append_G1 rfl (.tmp 39) (.tmp 41) 22 rfl w.heap.size 5 i5 Tryz.underlying22 HI.out.1 HI.out.2.1 HI.out.2.2.1 HI.out.2.2.2 (.slice (some ⟨g, 0, none⟩) i c') i (atP X (rw_ Rm) x i) rfl HOU.out v 5 rfl HNI.out HUS.out ?_; intro g5 c5 w5 ho5 hb5))
          have HO5 := Lib.hid ho5
          have HB5 := Lib.hid (HBU.out.trans hb5)
          clear ho5 hb5
          go_roundw
          case rel => first
            | exact ⟨i + 1, g5, c5, HLT.out, by go_num, rfl, by rw [HV.out]; exact HO5.out, HB5.out⟩
            | ((repeat apply Exists.intro); exact ⟨⟨i + 1, g5, c5, HLT.out, by go_num, rfl, by rw [HV.out]; exact HO5.out, HB5.out⟩, rfl⟩)
          case measure => simp [intOf] <;> (have := HLT.out; omega)
    · obtain rfl : i = n := by have := HI2.out; omega
      go_wp2
      go_ret
      exact ⟨g, c', rfl, Pa.own2 HO.out, HB.out, tyU_own HO.out⟩
theorem refPiece_new (t x n : Nat) (aR : Option Addr) (cR : Nat) (R : List (List GF)) (w : World) (hR : Mat w aR t cR R) (ht : 1 ≤ t) (ht2 : t ≤ 255) (hx : x ≤ 255) (hl : ∀ k, k < t → (rw_ R k).length = n) (hn : n ≤ 1000) :
    Calls Tryz.prog 34 #[.slice aR t cR, .int .i64 (x : Nat)] w fun e w' => ∃ g c', e = .returned (.slice (some ⟨g, 0, none⟩) n c') ∧ Pa w' (some ⟨g, 0, none⟩) n c' (pcR R n (pl x)) ∧ Below w.heap.size w w' ∧ TyU w' g := by
  have HR := Lib.hid hR
  have HL := Lib.hid hl
  have HT := Lib.hid (And.intro ht (And.intro ht2 hn))
  have hbd := hR.bd
  have k1 : ∀ [Inhabited Unit], IntKind.u8.wrap (x : Int) = toI (pl x) := by
    intro _
    rw [pl_I (by omega), IntKind.wrap_u8]; omega
  have HPL := Lib.hid (refPlaces_any t w ht2)
  clear hR hl hx ht ht2 hn
  go_enter Tryz.func34, Tryz.ntmps34
  go_wp2_with (first
    | (go_at_call 63; go_loud ((with_reducible refine HPL.out.mono ?_); rintro e w1 ⟨g, c1, rfl, hp1, hb1⟩; have HB1 := Lib.hid hb1; have HAT := Lib.hid (refAt_new (some ⟨g, 0, none⟩) t c1 (plc t) aR cR n R (pl x) w1 hp1 (HR.out.on hb1) HT.out.1 HT.out.2.1 HT.out.2.2 HL.out); clear hp1 hb1))
    | (go_at_call 62; go_loud ((with_reducible refine HAT.out.mono ?_); rintro e w2 ⟨g2, c2, rfl, hp2, hb2, ht2⟩; have HT2 := Lib.hid ht2; have HP2 := Lib.hid hp2; have HB2 := Lib.hid (bt HB1.out hb2); clear hp2 hb2)))
  go_ret
  exact ⟨g2, c2, rfl, by unfold pcR; rw [HR.out.len]; exact HP2.out, HB2.out, HT2.out⟩

theorem keepB_grown {B G : Nat} {V W U : World} {row : Option Nat} (h : KeepB B G V W) (hg : W.grownBy U row) (hr : ∀ z, row = some z → z = G ∨ B ≤ z) (hB : B ≤ V.heap.size := by exact Nat.le_refl _) : KeepB B G V U :=
  ⟨Nat.le_trans h.1 hg.size, fun b hb hn => (hg.block b (by have := h.1; omega) (fun e => by rcases hr b e.symm with e1 | e1; exact hn e1; omega)).trans (h.2 b hb hn)⟩
theorem mat_keepB {w w' : World} {g G n c : Nat} {M : List (List GF)} (h : Mat w (some ⟨g, 0, none⟩) n c M) (hG : w.heap[G]? = some (.cells #[] 22 (0, 0))) (hk : KeepB w.heap.size G w w') : Mat w' (some ⟨g, 0, none⟩) n c M := by
  obtain ⟨h1, h2, h3, h4, vs, h5, h6⟩ := h
  have hno : ∀ (b off : Nat) (v : Value), w.cell? ⟨b, off, none⟩ = some v → b ≠ G := fun b off v hc e => by
    subst e
    simp [World.cell?, hG] at hc
  refine ⟨h1, h2, h3, h4, vs, ⟨h5.1, fun i hi => ?_⟩, fun h0 => ?_⟩
  · obtain ⟨a, ci, k1, k2, k3, k4, k5⟩ := h5.2 i hi
    refine ⟨a, ci, k1, k2, k3, k4, fun hl => ?_⟩
    obtain ⟨b, off, e, hb, ho, hc⟩ := k5 hl
    have hne := hno b (off + 0) _ (hc 0 hl)
    exact ⟨b, off, e, Nat.lt_of_lt_of_le hb hk.1, ho, fun j hj => by rw [World.cell?_of_block (w := w) (a := ⟨b, off + j, none⟩) (hk.2 b hb hne)]; exact hc j hj⟩
  · obtain ⟨b, off, e, hb, hc⟩ := h6 h0
    have hne : b ≠ G := by
      have h0' := hc 0 h0
      obtain ⟨a, ci, k1, _⟩ := h5.2 0 (by omega)
      rw [k1] at h0'
      exact hno b (off + 0) _ h0'
    exact ⟨b, off, e, Nat.lt_of_lt_of_le hb hk.1, fun i hi => by rw [World.cell?_of_block (w := w) (a := ⟨b, off + i, none⟩) (hk.2 b hb hne)]; exact hc i hi⟩
theorem stR_take17 {Q : List (List GF)} {t k : Nat} (h : k < t) : (stR Q t).take (k + 1) = (stR Q t).take k ++ [evP Q (pl (k + 1))] := by
  have e := stR_row (Q := Q) h
  have hl : k < (stR Q t).length := by rw [stR_len]; exact h
  rw [List.take_add_one, List.getElem?_eq_getElem hl]
  unfold rw_ at e
  rw [← e]
  simp [List.getD_eq_getElem?_getD, hl]

/-! ## Rows -/
set_option maxHeartbeats 2000000 in
theorem refRows_0 (t n : Nat) (aB : Option Addr) (cB : Nat) (B : List GF) (aR : Option Addr) (L cR : Nat) (R : List GF) (w : World) (hB : Pa w aB 440 cB B) (hR : Pa w aR L cR R) (ht : 1 ≤ t) (htn : t ≤ n) (hn : n ≤ 200) (hL : L = (t - 1) * 440) :
    Calls Tryz.prog 14 #[.int .i64 0, .int .i64 (t : Nat), .int .i64 (n : Nat), .slice aB 440 cB, .slice aR L cR] w fun e w' => ∃ a c, e = .returned (.slice a n c) ∧ Mat w' a n c (stR (qS t B R) n) ∧ Below w.heap.size w w' := by
  obtain ⟨i22, hy, hy0, hy1, hy2⟩ := info_parts infoR
  have HI := Lib.hid (And.intro hy (And.intro hy0 (And.intro hy1 hy2)))
  clear hy hy0 hy1 hy2
  have HP := Lib.hid hB
  have HR := Lib.hid hR
  have HT := Lib.hid (And.intro ht (And.intro htn hn))
  have HL := Lib.hid hL
  obtain ⟨VL, hVL⟩ : ∃ VL, VL = 440 := ⟨_, rfl⟩
  obtain ⟨Q, hQ⟩ : ∃ Q, Q = qS t B R := ⟨_, rfl⟩
  have HQL := Lib.hid (show Q.length = VL by rw [hQ, hVL]; exact qS_len t B R)
  have qn : (n : Int) ≤ 200 := by omega
  have qt : (t : Int) ≤ 200 := by omega
  have HS0 := Lib.hid (show ((w.alloc (.cells #[] 22)).alloc (.cells #[] 22)).ownsRow w.heap.size 22 1 (.slice (some ⟨w.heap.size, 0, none⟩) 0 0) 0 ([] : List Value) from (World.ownsRow_lit (base := w.heap.size) (e := 22) (size := 1) w #[] 0 (Nat.le_refl _) (Nat.zero_le _) rfl).alloc _)
  have HA0 := Lib.hid (show Below w.heap.size w ((w.alloc (.cells #[] 22)).alloc (.cells #[] 22)) from ((Below.refl _ _).alloc (Nat.le_refl _) _).alloc (by simp) _)
  have HROW := Lib.hid (show ∀ k, k < n → ∀ V : World, Below w.heap.size w V → Calls Tryz.prog 33 #[.int .i64 (t : Nat), .slice aB 440 cB, .slice aR L cR, .int .u8 (toI (pl (k + 1)))] V fun e w' => ∃ g c', e = .returned (.slice (some ⟨g, 0, none⟩) VL c') ∧ Pa w' (some ⟨g, 0, none⟩) VL c' (evP Q (pl (k + 1))) ∧ Below V.heap.size V w' ∧ TyU w' g from fun k hk V hV => by
    rw [hQ, hVL, qS_at]
    exact refShare_new t 440 L aB cB B aR cR R (pl (k + 1)) V (HP.out.on hV) (HR.out.on hV) HT.out.1 (by have := HT.out; omega) (by omega) HL.out)
  have HQE := Lib.hid hQ
  have HVL := Lib.hid hVL
  clear hB hR ht htn hn hQ hVL hL
  go_enter Tryz.func14, Tryz.ntmps14
  go_wp2_with fail
  go_loopw [11, 13] (fun v s wr => ∃ (k : Nat) (a : Option Addr) (c : Nat) (vs : List Value), k ≤ n ∧ s = .int .i64 ((k : Int) + 1) ∧ v = .slice a k c ∧ Hid (wr.ownsRow w.heap.size 22 1 (.slice a k c) k vs) ∧ Hid (RV wr (TyU wr) vs ((stR Q n).take k)) ∧ Hid (Below w.heap.size w wr))
    (fun _ s _ => n + 1 - (intOf s).toNat)
  case atStart => exact ⟨0, _, _, [], Nat.zero_le _, rfl, rfl, HS0, Lib.hid (RV.nil _ _), HA0⟩
  case round =>
    obtain ⟨k, a, c, vs, hk, rfl, rfl, HO, HRV, HBW⟩ := hrel
    rename World => V
    have HB := Lib.hid (HBW.out)
    by_cases hlt : k < n
    · have HLT := Lib.hid hlt
      have qk : (k : Int) + 1 ≤ (n : Int) := by omega
      have qk0 : (0 : Int) ≤ (k : Int) := by omega
      have q1 : (k : Int) ≤ 200 := by omega
      have k1 : ∀ [Inhabited Unit], IntKind.u8.wrap ((k : Int) + 1) = toI (pl (k + 1)) := by
        intro _
        rw [pl_I (by omega), IntKind.wrap_u8]; omega
      have k2 : ((k : Int) + 1) = ((k + 1 : Nat) : Int) := by omega
      have HRW := Lib.hid (HROW.out k hlt)
      have K2 := Lib.hid k2
      clear hlt hk k2
      go_wp2_with (first
        | (go_at_call 33; go_loud (refine (HRW.out V HB.out).mono ?_; rintro e w5 ⟨g5, c5, rfl, hp5, hb5, ht5⟩; have hrw := (RV.onU HRV.out hb5).more (P := evP Q (pl (k + 1))) (by rw [evP_len, HQL.out]; exact hp5) (fun b off e _ => by cases e; exact ht5); rw [evP_len, HQL.out, ← stR_take17 HLT.out] at hrw; have HRW5 := Lib.hid (hrw.onU ((Below.refl _ _).alloc (Nat.le_refl _) (.cells #[.slice (some ⟨g5, 0, none⟩) VL c5] 22))); have HO5 := Lib.hid ((own_belowV HO.out hb5).alloc (.cells #[.slice (some ⟨g5, 0, none⟩) VL c5] 22)); have HB5 := Lib.hid ((bt HB.out hb5).alloc (by have := (bt HB.out hb5).size; exact this) (.cells #[.slice (some ⟨g5, 0, none⟩) VL c5] 22)); have hsz5 := (bt HB.out hb5).size; clear hrw hp5 hb5 ht5))
        | ((with_reducible show wpList _ _ _ (⟨some 38, _, _, _, _, _⟩ :: _) _ _); go_loud (refine wpList_append_own _ rfl (.tmp 30) (.tmp 37) 28 rfl w.heap.size 22 i22 (.slice none 0 0) 1 24 Tryz.underlying28 HI.out.1 HI.out.2.1 HI.out.2.2.1 HI.out.2.2.2 rfl (by decide) _ k vs rfl HO5.out _ 1 1 [_] rfl rfl (lit_cells17 _ _ _) (by intro u hu; cases List.mem_singleton.1 hu; rfl) (by unfold maxLen; omega) (by omega) (by simp; omega) ?_); go_loud (intro v6 w6 hown6 hg6 _; have HRW6 := Lib.hid (HRW5.out.grownU HO5.out (by decide) hg6); have HB6 := Lib.hid (HB5.out.grown hg6 (by simp; omega) (fun z hz => (HO5.out.lt z hz).1)); obtain ⟨a6, c6, hv6⟩ := own_slice17 hown6; subst hv6; have HO6 := Lib.hid hown6; clear hown6 hg6)))
      go_roundw
      case rel => exact ⟨k + 1, a6, c6, _, HLT.out, by go_num, rfl, HO6, HRW6, HB6⟩
      case measure => simp [intOf]; have := HLT.out; omega
    · obtain rfl : k = n := by omega
      have ho := HO.out
      have hv := HRV.out
      rw [List.take_of_length_le (by rw [stR_len]; exact Nat.le_refl _)] at hv
      obtain ⟨a', c', e, hm⟩ := Mat.own ho hv
      cases e
      have HM := Lib.hid hm
      clear ho hv hm hlt
      go_wp2
      go_ret
      exact ⟨_, _, rfl, by rw [← HQE.out]; exact HM.out, HB.out⟩
set_option maxHeartbeats 2000000 in
theorem refRows_1 (t n : Nat) (aB : Option Addr) (cB : Nat) (B : List GF) (aR : Option Addr) (cR : Nat) (R : List GF) (w : World) (hB : Pa w aB 440 cB B) (hR : Pa w aR 32 cR R) (ht : 1 ≤ t) (htn : t ≤ n) (hn : n ≤ 200)  :
    Calls Tryz.prog 14 #[.int .i64 1, .int .i64 (t : Nat), .int .i64 (n : Nat), .slice aB 440 cB, .slice aR 32 cR] w fun e w' => ∃ a c, e = .returned (.slice a n c) ∧ Mat w' a n c (stR (cutQ (parG R B) t) n) ∧ Below w.heap.size w w' := by
  obtain ⟨i22, hy, hy0, hy1, hy2⟩ := info_parts infoR
  have HI := Lib.hid (And.intro hy (And.intro hy0 (And.intro hy1 hy2)))
  clear hy hy0 hy1 hy2
  have HP := Lib.hid hB
  have HR := Lib.hid hR
  have HT := Lib.hid (And.intro ht (And.intro htn hn))
  have hcd := ceil473 ht
  obtain ⟨VL, hVL⟩ : ∃ VL, VL = (ceil 473 t) := ⟨_, rfl⟩
  obtain ⟨Q, hQ⟩ : ∃ Q, Q = cutQ (parG R B) t := ⟨_, rfl⟩
  have HQL := Lib.hid (show Q.length = VL by rw [hQ, hVL]; exact (cutQ_ok _ t).1)
  have qn : (n : Int) ≤ 200 := by omega
  have qt : (t : Int) ≤ 200 := by omega
  have HS0 := Lib.hid (show ((w.alloc (.cells #[] 22)).alloc (.cells #[] 22)).ownsRow w.heap.size 22 1 (.slice (some ⟨w.heap.size, 0, none⟩) 0 0) 0 ([] : List Value) from (World.ownsRow_lit (base := w.heap.size) (e := 22) (size := 1) w #[] 0 (Nat.le_refl _) (Nat.zero_le _) rfl).alloc _)
  have HG0 := Lib.hid (show ((w.alloc (.cells #[] 22)).alloc (.cells #[] 22)).heap[w.heap.size]? = some (.cells #[] 22 (0, 0)) from ((((Below.refl _ (w.alloc (.cells #[] 22))).alloc (Nat.le_refl _) _).block w.heap.size (by simp)).trans (heap_alloc_new w _)))
  have HA0 := Lib.hid (show Below w.heap.size w ((w.alloc (.cells #[] 22)).alloc (.cells #[] 22)) from ((Below.refl _ _).alloc (Nat.le_refl _) _).alloc (by simp) _)
  have HCT := Lib.hid (fun (a : Option Addr) (c : Nat) (W : World) (h : Pa W a 473 c (parG R B)) => refCut_any 473 t a c (parG R B) W h HT.out.1 (by have := HT.out; omega) (by omega))
  have HROW0 := Lib.hid (show ∀ (g : Nat) (V : World), Mat V (some ⟨g, 0, none⟩) t t (cutM (parG R B) t (ceil 473 t)) → ∀ k, k < n → Calls Tryz.prog 34 #[.slice (some ⟨g, 0, none⟩) t t, .int .i64 ((k : Int) + 1)] V fun e w' => ∃ g c', e = .returned (.slice (some ⟨g, 0, none⟩) VL c') ∧ Pa w' (some ⟨g, 0, none⟩) VL c' (evP Q (pl (k + 1))) ∧ Below V.heap.size V w' ∧ TyU w' g from fun g V hV k hk => by
    rw [hQ, hVL, cutQ, qA_at]
    exact refPiece_new t (k + 1) (ceil 473 t) (some ⟨g, 0, none⟩) t (cutM (parG R B) t (ceil 473 t)) V hV HT.out.1 (by have := HT.out; omega) (by have := HT.out; omega) (fun j hj => qcut_row hj) (by omega))
  have HQE := Lib.hid hQ
  have HVL := Lib.hid hVL
  clear hB hR ht htn hn hQ hVL hcd
  go_enter Tryz.func14, Tryz.ntmps14
  go_upto_region 5 with (first
    | (go_at_call 32; go_loud (refine (refPkg_any aB cB B aR cR R _ (HP.out.on HA0.out) (HR.out.on HA0.out)).mono ?_; rintro e w1 ⟨a1, c1, rfl, hp1, hb1⟩; have HB1 := Lib.hid (bt HA0.out hb1); have HS1 := Lib.hid (own_belowV HS0.out hb1); have HG1 := Lib.hid (show w1.heap[w.heap.size]? = some (.cells #[] 22 (0, 0)) from (hb1.block _ (by simp; omega)).trans HG0.out); have HL1 := Lib.hid (show w.heap.size < w1.heap.size from by have := hb1.size; simp at this; omega); have HC1 := Lib.hid (HCT.out a1 c1 w1 hp1); clear hp1 hb1))
    | (go_at_call 31; go_loud (refine HC1.out.mono ?_; rintro e w2 ⟨g2, rfl, hm2, hb2⟩; have HM2 := Lib.hid hm2; have HB2 := Lib.hid (bt HB1.out hb2); have HS2 := Lib.hid (own_belowV HS1.out hb2); have HG2 := Lib.hid (show w2.heap[w.heap.size]? = some (.cells #[] 22 (0, 0)) from (hb2.block _ HL1.out).trans HG1.out); have hmd2 := hm2.bd; clear hm2 hb2)))
  go_wp2_with fail
  go_loopw [11, 13] (fun v s wr => ∃ (k : Nat) (a : Option Addr) (c : Nat) (vs : List Value), k ≤ n ∧ s = .int .i64 ((k : Int) + 1) ∧ v = .slice a k c ∧ Hid (wr.ownsRow w.heap.size 22 1 (.slice a k c) k vs) ∧ Hid (RV wr (TyU wr) vs ((stR Q n).take k)) ∧ Hid (Below w.heap.size w wr) ∧ Hid (KeepB w2.heap.size w.heap.size w2 wr) ∧ Hid (∀ z, (Value.slice a k c).ownBlock = some z → z = w.heap.size ∨ w2.heap.size ≤ z))
    (fun _ s _ => n + 1 - (intOf s).toNat)
  case atStart => exact ⟨0, _, _, [], Nat.zero_le _, rfl, rfl, HS2, Lib.hid (RV.nil _ _), HB2, Lib.hid (KeepB.refl _ _ _), Lib.hid (fun z hz => by cases hz; exact Or.inl rfl)⟩
  case round =>
    obtain ⟨k, a, c, vs, hk, rfl, rfl, HO, HRV, HBW, HKB, HZZ⟩ := hrel
    rename World => V
    have HB := HBW
    by_cases hlt : k < n
    · have HLT := Lib.hid hlt
      have qk : (k : Int) + 1 ≤ (n : Int) := by omega
      have qk0 : (0 : Int) ≤ (k : Int) := by omega
      have q1 : (k : Int) ≤ 200 := by omega
      have k1 : ∀ [Inhabited Unit], IntKind.u8.wrap ((k : Int) + 1) = toI (pl (k + 1)) := by
        intro _
        rw [pl_I (by omega), IntKind.wrap_u8]; omega
      have k2 : ((k : Int) + 1) = ((k + 1 : Nat) : Int) := by omega
      have HRW := Lib.hid (HROW0.out g2 V (mat_keepB HM2.out HG2.out HKB.out) k hlt)
      have K2 := Lib.hid k2
      clear hlt hk k2
      go_wp2_with (first
        | (go_at_call 34; go_loud (refine HRW.out.mono ?_; rintro e w5 ⟨g5, c5, rfl, hp5, hb5, ht5⟩; have hrw := (RV.onU HRV.out hb5).more (P := evP Q (pl (k + 1))) (by rw [evP_len, HQL.out]; exact hp5) (fun b off e _ => by cases e; exact ht5); rw [evP_len, HQL.out, ← stR_take17 HLT.out] at hrw; have HRW5 := Lib.hid (hrw.onU ((Below.refl _ _).alloc (Nat.le_refl _) (.cells #[.slice (some ⟨g5, 0, none⟩) VL c5] 22))); have HO5 := Lib.hid ((own_belowV HO.out hb5).alloc (.cells #[.slice (some ⟨g5, 0, none⟩) VL c5] 22)); have HB5 := Lib.hid ((bt HB.out hb5).alloc (by have := (bt HB.out hb5).size; exact this) (.cells #[.slice (some ⟨g5, 0, none⟩) VL c5] 22)); have HKB5 := Lib.hid (HKB.out.below ((hb5.mono HKB.out.1).alloc (Nat.le_trans HKB.out.1 hb5.size) (.cells #[.slice (some ⟨g5, 0, none⟩) VL c5] 22))); have hsz5 := (bt HB.out hb5).size; clear hrw hp5 hb5 ht5))
        | ((with_reducible show wpList _ _ _ (⟨some 44, _, _, _, _, _⟩ :: _) _ _); go_loud (refine wpList_append_lies _ rfl (.tmp 39) (.tmp 43) 28 rfl w.heap.size 22 i22 (.slice none 0 0) 1 24 Tryz.underlying28 HI.out.1 HI.out.2.1 HI.out.2.2.1 HI.out.2.2.2 rfl (by decide) _ k vs rfl HO5.out _ 1 1 [_] rfl rfl (lit_cells17 _ _ _) (by intro u hu; cases List.mem_singleton.1 hu; rfl) (by decide) (by unfold maxLen; omega) (by omega) (by simp; omega) _ rfl ?_); go_loud (intro g6 c6 w6 hown6 hg6 hat6 _; have HRW6 := Lib.hid (HRW5.out.grownU HO5.out (by decide) hg6); have HB6 := Lib.hid (HB5.out.grown hg6 (by simp; omega) (fun z hz => (HO5.out.lt z hz).1)); have HKB6 := Lib.hid (keepB_grown HKB5.out hg6 HZZ.out); have HZ6 := Lib.hid (show ∀ z, (Value.slice (some ⟨g6, 0, none⟩) (k + 1) c6).ownBlock = some z → z = w.heap.size ∨ w2.heap.size ≤ z from fun z hz => by cases hz; rcases hat6 with h | h; exact HZZ.out _ h; exact Or.inr (by rw [h]; exact HKB5.out.1)); have HO6 := Lib.hid hown6; clear hown6 hg6 hat6)))
      go_roundw
      case rel => exact ⟨k + 1, some ⟨g6, 0, none⟩, c6, _, HLT.out, by go_num, rfl, HO6, HRW6, HB6, HKB6, HZ6⟩
      case measure => simp [intOf]; have := HLT.out; omega
    · obtain rfl : k = n := by omega
      have ho := HO.out
      have hv := HRV.out
      rw [List.take_of_length_le (by rw [stR_len]; exact Nat.le_refl _)] at hv
      obtain ⟨a', c', e, hm⟩ := Mat.own ho hv
      cases e
      have HM := Lib.hid hm
      clear ho hv hm hlt
      go_wp2
      go_ret
      exact ⟨_, _, rfl, by rw [← HQE.out]; exact HM.out, HB.out⟩
end Go.Proofs.YtappfdbmhgifcaaGreatDoor
/- What the tied card's condition gives: the package's variables hold the roots. -/
namespace Go.Proofs.YtappfdbmhgifcaaGreatDoor
open Go.ChangeShapes Go.WideShapes Go.ChangeAt Go.RowKit
set_option linter.unusedVariables false
set_option maxRecDepth 100000

theorem gRoots : Tryz.prog.globalNamed "largesse/hash.squareRoots" = some 0 := by kernel_rfl
theorem gCubes : Tryz.prog.globalNamed "largesse/hash.cubeRoots" = some 1 := by kernel_rfl
theorem tRoots : (Tryz.prog.globals[0]?).map (·.type) = some 117 := by kernel_rfl
theorem tCubes : (Tryz.prog.globals[1]?).map (·.type) = some 116 := by kernel_rfl
def laid2 : List (String × DataW Unit) := [("largesse/hash.squareRoots", Rows.laid_largesse_hash_squareRoots), ("largesse/hash.cubeRoots", Rows.laid_largesse_hash_cubeRoots)]
theorem array_cells {H : Type} {enc : TypeId × Value → H} {W : World} {base : Nat} {sp : Nat → Bool} {held : Bool} {f n : Nat} {t e : TypeId} {cs : Array Value} {L : List Int} {p : List MemPlace}
    (ht : Tryz.prog.underlying t = some (.array n e)) (he : Tryz.prog.underlying e = some (.int .u32)) (hce : Tryz.prog.cellsOf e = 1)
    (hd : DataW.trod enc Tryz.prog W base sp held f t cs.toList = some (.agg (L.map fun x => .lit (.int .u32 x)), p)) (j : Nat) (hj : j < n) : cs[j]? = some (.int .u32 (L.getD j 0)) := by
  obtain ⟨xs, m1, rfl, hx, hlen, hn, hel⟩ := DataW.trod_array ht hd
  have h := hel j hj
  rw [hce, Nat.mul_one, List.getElem?_eq_getElem (by omega)] at h
  obtain ⟨k, e1, e2, _⟩ := DataW.trod_int he h
  simp only [Prod.mk.injEq, DataW.agg.injEq] at hx
  have h1 := congrArg (fun l => l[j]?) hx.1
  simp only [List.getElem?_map, List.getElem?_eq_getElem (show j < xs.length by omega), Option.map_some, e2] at h1
  have h2 : L[j]? = some k := by
    rcases hL : L[j]? with _ | v
    · rw [hL] at h1; simp at h1
    · rw [hL] at h1
      simp at h1
      rw [h1]
  have h3 : cs.toList[j]? = some (.int .u32 k) := by
    have := congrArg (fun l => l[0]?) e1
    simpa using this
  rw [← Array.getElem?_toList, h3, List.getD_eq_getElem?_getD, h2]
  rfl
theorem gl_of_laid {W : World} (h : laidMetH Tryz.prog laid2 W) : Gl W := by
  rw [MakeChecks.laidMetH_plain _ _ _ (by kernel_rfl)] at h
  obtain ⟨ps, ⟨g0, t0, cs0, f0, p0, q0, hg0, ht0, hv0, hd0, ⟨g1, t1, cs1, f1, p1, q1, hg1, ht1, hv1, hd1, _, _⟩, _⟩, _, _⟩ := h
  obtain rfl := Option.some.inj (gRoots.symm.trans hg0)
  obtain rfl := Option.some.inj (gCubes.symm.trans hg1)
  obtain rfl := Option.some.inj (tRoots.symm.trans ht0)
  obtain rfl := Option.some.inj (tCubes.symm.trans ht1)
  have c0 : ∀ j, j < 8 → W.cell? ⟨0, j, none⟩ = some (gV HF0 j) := fun j hj => by
    rw [World.var?_cell hg0 hv0 j, array_cells (L := [1779033703, 3144134277, 1013904242, 2773480762, 1359893119, 2600822924, 528734635, 1541459225]) Tryz.underlying117 Tryz.underlying115 (by kernel_rfl) hd0 j hj, HF0_0]
    unfold gV
    simp [List.getD_eq_getElem?_getD, hj]
  have c1 : ∀ j, j < 64 → W.cell? ⟨1, j, none⟩ = some (gV KF j) := fun j hj => by
    rw [World.var?_cell hg1 hv1 j, array_cells (L := (List.range 64).map (fun j => ((KF j : Nat) : Int))) Tryz.underlying116 Tryz.underlying115 (by kernel_rfl) (by rw [← KF_0]; exact hd1) j hj]
    unfold gV
    simp [List.getD_eq_getElem?_getD, hj]
  refine ⟨?_, c0, c1⟩
  exact (show 1 < W.heap.size from block_lt_of_cell (c1 0 (by omega)))
end Go.Proofs.YtappfdbmhgifcaaGreatDoor
/- The walk of StripeSpreads. -/
namespace Go.Proofs.YtappfdbmhgifcaaGreatDoor
open Go.ChangeShapes Go.WideShapes Go.ChangeAt Go.RowKit Go.Shelf GF
set_option linter.unusedVariables false
set_option linter.unusedSimpArgs false
set_option maxRecDepth 100000

theorem need_small {m : Int} {T N C : Nat} (h : Sh m T N C) (hN : N ≤ 7) : needV m T ≤ 4000 := by
  unfold Sh at h
  unfold needV
  split
  · have : (T - 1) * 440 ≤ 6 * 440 := Nat.mul_le_mul_right _ (by omega)
    omega
  · omega
theorem qM_len17 {m : Int} {T N C : Nat} (h : Sh m T N C) (B R : List GF) : (qM m T B R).length = rowV m T := by
  rcases h.1 with rfl | rfl
  · exact qS_len T B R
  · exact (cutQ_ok _ T).1
theorem refRows_any (m : Int) (t n c : Nat) (aB : Option Addr) (cB : Nat) (B : List GF) (aR : Option Addr) (L cR : Nat) (R : List GF) (w : World) (h : Sh m t n c) (hB : Pa w aB 440 cB B) (hR : Pa w aR L cR R) (hn : n ≤ 200) (hL : L = needV m t) :
    Calls Tryz.prog 14 #[.int .i64 m, .int .i64 (t : Nat), .int .i64 (n : Nat), .slice aB 440 cB, .slice aR L cR] w fun e w' => ∃ a c, e = .returned (.slice a n c) ∧ Mat w' a n c (stR (qM m t B R) n) ∧ Below w.heap.size w w' := by
  rcases h.1 with rfl | rfl
  · exact refRows_0 t n aB cB B aR L cR R w hB hR h.2.1 h.2.2.1 hn hL
  · obtain rfl : L = 32 := hL
    exact refRows_1 t n aB cB B aR cR R w hB hR h.2.1 h.2.2.1 hn
theorem spreads_long (mo t n : Int) (a3 : Option Addr) (L3 c3 : Nat) (a4 : Option Addr) (L4 c4 : Nat) (w : World) (h : 500 < L3 ∨ 500 < L4) :
    Calls Tryz.prog 3 #[.int .i64 mo, .int .i64 t, .int .i64 n, .slice a3 L3 c3, .slice a4 L4 c4] w fun e w' => e = .returned (.bool true) ∧ Below w.heap.size w w' := by
  by_cases h3 : 500 < L3
  · have q : (500 : Int) < (L3 : Int) := by omega
    clear h h3
    go_enter Tryz.func3, Tryz.ntmps3
    go_upto_region 2 with (go_at_call 7; go_loud (refine (lives17 w).mono ?_; rintro e w1 ⟨rfl, hb⟩; have HB1 := Lib.hid hb; clear hb))
    go_wp2_with (go_at_call 7; go_loud (refine (lives17 w1).mono ?_; rintro e w2 ⟨rfl, hb⟩; have HB2 := Lib.hid (bt HB1.out hb); clear hb))
    go_ret
    exact ⟨rfl, HB2.out⟩
  · have q : ¬ (500 : Int) < (L3 : Int) := by omega
    have q4 : (500 : Int) < (L4 : Int) := by omega
    clear h h3
    go_enter Tryz.func3, Tryz.ntmps3
    go_upto_region 2 with (go_at_call 7; go_loud (refine (lives17 w).mono ?_; rintro e w1 ⟨rfl, hb⟩; have HB1 := Lib.hid hb; clear hb))
    go_wp2_with (go_at_call 7; go_loud (refine (lives17 w1).mono ?_; rintro e w2 ⟨rfl, hb⟩; have HB2 := Lib.hid (bt HB1.out hb); clear hb))
    go_ret
    exact ⟨rfl, HB2.out⟩
set_option maxHeartbeats 4000000 in
theorem spreads_core (mo t n : Int) (a3 : Option Addr) (L3 c3 : Nat) (b : List GF) (a4 : Option Addr) (L4 c4 : Nat) (r : List GF) (w : World) (hG : Gl w) (hb : Pa w a3 L3 c3 b) (hr : Pa w a4 L4 c4 r) (h3 : L3 ≤ 500) (h4 : L4 ≤ 500) :
    Calls Tryz.prog 3 #[.int .i64 mo, .int .i64 t, .int .i64 n, .slice a3 L3 c3, .slice a4 L4 c4] w fun e w' => e = .returned (.bool true) ∧ Below w.heap.size w w' := by
  have HBB := Lib.hid hb
  have HRR := Lib.hid hr
  have HL := Lib.hid (And.intro h3 h4)
  have HG := Lib.hid hG
  have q3 : ¬ (500 : Int) < (L3 : Int) := by omega
  have q4 : ¬ (500 : Int) < (L4 : Int) := by omega
  have hbd := hb.bd
  have hrd := hr.bd
  clear hb hr h3 h4 hG
  go_enter Tryz.func3, Tryz.ntmps3
  go_upto_region 3 with (go_at_call 7; go_loud (refine (lives17 w).mono ?_; rintro e w1 ⟨rfl, hb⟩; have HB1 := Lib.hid hb; clear hb))
  go_upto_region 4 with (go_at_call 8; go_loud (refine (of_any _ _ _ _ w1).mono ?_; rintro e w2 ⟨m, T, N, C, rfl, hs, hn, hc, hb⟩; have HS := Lib.hid hs; have HN := Lib.hid hn; have HB2 := Lib.hid (bt HB1.out hb); clear hs hn hc hb))
  obtain ⟨w3, hw3⟩ : ∃ w3, w3 = w2.alloc (.cells #[.int .i64 m, .int .i64 (T : Nat), .int .i64 (N : Nat), .int .i64 (C : Nat)] 25) := ⟨_, rfl⟩
  have HX := Lib.hid (show Bx w3 w2.heap.size m T N C by rw [hw3]; exact Bx.new w2 m T N C)
  have HB3 := Lib.hid (show Below w.heap.size w w3 by rw [hw3]; exact HB2.out.alloc HB2.out.size _)
  try rw [← hw3]
  obtain ⟨G, hGG⟩ : ∃ G, G = w2.heap.size := ⟨_, rfl⟩
  rw [← hGG] at HX
  try rw [← hGG]
  clear hw3 hGG
  obtain ⟨L, hL⟩ : ∃ L, L = needV m T := ⟨_, rfl⟩
  have HLE := Lib.hid hL
  have x0 := HX.out.c0; have x1 := HX.out.c1; have x2 := HX.out.c2; have x3 := HX.out.c3
  have HRN := Lib.hid (rnd17 m T N C a4 L4 c4 r L w3 HS.out hL (by rw [hL]; exact need_small HS.out HN.out) (HRR.out.on HB3.out) HL.out.2)
  clear hL
  go_upto_region 5 with (go_at_call 9; go_loud (refine HRN.out.mono ?_; rintro e w4 ⟨g4, rfl, hp4, hb4⟩; have HP4 := Lib.hid hp4; have HX4 := Lib.hid (HX.out.on hb4); have HB4 := Lib.hid (bt HB3.out hb4); clear hp4 hb4))
  clear x0 x1 x2 x3
  have y0 : ∀ W, Below w4.heap.size w4 W → W.cell? ⟨G, 0, none⟩ = some (.int .i64 m) := fun W hW => (HX4.out.on hW).c0
  have y1 : ∀ W, Below w4.heap.size w4 W → W.cell? ⟨G, 1, none⟩ = some (.int .i64 (T : Nat)) := fun W hW => (HX4.out.on hW).c1
  have y2 : ∀ W, Below w4.heap.size w4 W → W.cell? ⟨G, 2, none⟩ = some (.int .i64 (N : Nat)) := fun W hW => (HX4.out.on hW).c2
  have y3 : ∀ W, Below w4.heap.size w4 W → W.cell? ⟨G, 3, none⟩ = some (.int .i64 (C : Nat)) := fun W hW => (HX4.out.on hW).c3
  have HBK := Lib.hid (fun (W : World) (hW : Below w.heap.size w W) => blk17 a3 L3 c3 b W (HBB.out.on hW) HL.out.1)
  go_region_held (fun W => Below w4.heap.size w4 W) (first | assumption | exact (Below.refl _ _).drew | (refine Below.drew ?_; assumption))
    (first
      | (go_at_call 11; go_loud (refine (new_any _).mono ?_; rintro e w5 ⟨bf, rfl, hbf, hfl, hb5⟩; have hbw5 : Below w4.heap.size w4 w5 := (by first | exact (Below.refl _ _).drew.trans hb5 | exact bt (Below.refl _ _) hb5); have HF5 := Lib.hid hfl; have HB5 := Lib.hid (bt HB4.out hbw5); clear hfl hb5))
      | (go_at_call 12; go_loud (refine (HBK.out _ HB5.out).mono ?_; rintro e w6 ⟨g6, rfl, hp6, hb6⟩; have hbw6 := bt hbw5 hb6; have HB6 := Lib.hid (bt HB4.out hbw6); have HSP := Lib.hid (spr_any bf m T N C (some ⟨g6, 0, none⟩) 440 (blkG b) (some ⟨g4, 0, none⟩) L L (rndG r L) w6 HS.out (HG.out.on HB6.out HG.out.1) (HF5.out.below hb6) hp6 (HP4.out.on hbw6) HLE.out); clear hp6 hb6))
      | (go_at_call 10; go_loud (refine HSP.out.mono ?_; rintro e w7 ⟨a7, c7, rfl, hm7, hb7⟩; have hbw7 := bt hbw6 hb7; have HM7 := Lib.hid hm7.mat; have HX7 := Lib.hid (HX4.out.on hbw7); have HP7 := Lib.hid (HP4.out.on hbw7); have HB7 := Lib.hid (bt HB4.out hbw7); clear hm7 hb7)))
  all_goals
    clear y0 y1 y2 y3
    obtain ⟨bl, off, ai, ci, rfl, hbl, hcell, hpa⟩ := HM7.out.row (i := 0) (by have := HS.out.2; omega)
    rw [stR_row (show 0 < N by have := HS.out.2; omega)] at hcell hpa
    rw [evP_len, qM_len17 HS.out] at hcell hpa
    obtain ⟨V, hV⟩ : ∃ V, V = rowV m T := ⟨_, rfl⟩
    rw [← hV] at hcell hpa
    have hvb := hpa.bd
    have hmd := HM7.out.bd
    have qN : (0 : Int) < (N : Int) := by have := HS.out.2; omega
    have HVV := Lib.hid hV
    have y0 : ∀ W, Below w7.heap.size w7 W → W.cell? ⟨G, 0, none⟩ = some (.int .i64 m) := fun W hW => (HX7.out.on hW).c0
    have y1 : ∀ W, Below w7.heap.size w7 W → W.cell? ⟨G, 1, none⟩ = some (.int .i64 (T : Nat)) := fun W hW => (HX7.out.on hW).c1
    have y2 : ∀ W, Below w7.heap.size w7 W → W.cell? ⟨G, 2, none⟩ = some (.int .i64 (N : Nat)) := fun W hW => (HX7.out.on hW).c2
    have y3 : ∀ W, Below w7.heap.size w7 W → W.cell? ⟨G, 3, none⟩ = some (.int .i64 (C : Nat)) := fun W hW => (HX7.out.on hW).c3
    have yl : ∀ W, Below w7.heap.size w7 W → W.cell? ⟨bl, off, none⟩ = some (.slice ai V ci) := fun W hW => (hW.cell (p := ⟨bl, off, none⟩) hbl).trans hcell
    have HRS := Lib.hid (fun (W : World) => rowsz_any m T N C W HS.out)
    rw [← hV] at HRS
    clear hcell hpa hV
    go_wp2_with fail
    go_region_held (fun W => Below w7.heap.size w7 W) (first | assumption | exact (Below.refl _ _).drew | (refine Below.drew ?_; assumption))
      (first
        | (go_at_call 12; go_loud (refine (HBK.out _ (by first | exact HB7.out | exact HB7.out.drew)).mono ?_; rintro e w8 ⟨g8, rfl, hp8, hb8⟩; have hbw8 : Below w7.heap.size w7 w8 := (by first | exact (Below.refl _ _).drew.trans hb8 | exact bt (Below.refl _ _) hb8); have HB8 := Lib.hid (bt HB7.out hbw8); have HRF := Lib.hid (refRows_any m T N C (some ⟨g8, 0, none⟩) 440 (blkG b) (some ⟨g4, 0, none⟩) L L (rndG r L) w8 HS.out hp8 (HP7.out.on hbw8) (by have := HN.out; omega) HLE.out); clear hp8 hb8))
        | (go_at_call 14; go_loud (refine HRF.out.mono ?_; rintro e w9 ⟨a9, c9, rfl, hm9, hb9⟩; have hbw9 := bt hbw8 hb9; have HB9 := Lib.hid (bt HB7.out hbw9); have HSM := Lib.hid (same17 _ N c7 _ a9 c9 w9 (HM7.out.on hbw9) hm9); clear hm9 hb9))
        | (go_at_call 13; go_loud (refine HSM.out.mono ?_; rintro e wA ⟨rfl, hbA⟩; have hbwA := bt hbw9 hbA; have HBA := Lib.hid (bt HB7.out hbwA); clear hbA))
        | (go_at_call 15; go_loud (refine (HRS.out _).mono ?_; rintro e wB ⟨rfl, hbB⟩; have hbwB := bt hbwA hbB; have HBB2 := Lib.hid (bt HB7.out hbwB); clear hbB)))
    all_goals
      clear y0 y1 y2 y3 yl
      go_wp2
      go_ret
      exact ⟨rfl, HBB2.out⟩
theorem stripeSpreads_walk (mo t n : Int) (a3 : Option Addr) (L3 c3 : Nat) (a4 : Option Addr) (L4 c4 : Nat) (w : World) (w0 : (Lit.int .i64 mo).wf = true) (w1 : (Lit.int .i64 t).wf = true) (w2 : (Lit.int .i64 n).wf = true) (w3 : ∃ l, Arg8c w a3 L3 c3 l) (w4 : ∃ l, Arg8c w a4 L4 c4 l) (hG : Gl w) :
    Calls Tryz.prog 3 #[.int .i64 mo, .int .i64 t, .int .i64 n, .slice a3 L3 c3, .slice a4 L4 c4] w fun e w' => e = .returned (.bool true) ∧ Below w.heap.size w w' := by
  obtain ⟨l3, h3⟩ := w3
  obtain ⟨l4, h4⟩ := w4
  by_cases h : 500 < L3 ∨ 500 < L4
  · exact spreads_long mo t n a3 L3 c3 a4 L4 c4 w h
  · exact spreads_core mo t n a3 L3 c3 _ a4 L4 c4 _ w hG (Pa.of h3) (Pa.of h4) (by omega) (by omega)
end Go.Proofs.YtappfdbmhgifcaaGreatDoor
