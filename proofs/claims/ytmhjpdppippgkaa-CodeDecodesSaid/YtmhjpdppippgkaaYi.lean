/- Contracts of code's numbers and Decode. -/
import Derived.Test.YtmhjpdppippgkaaYh
namespace Go.Proofs.Ytmhjpdppippgkaa
open Go.ChangeShapes Go.WideShapes Go.ChangeAt Go.RowKit Go.Shelf GF
set_option linter.unusedVariables false
set_option linter.unusedSimpArgs false
set_option maxRecDepth 100000

theorem numbers_any (aX : Option Addr) (N cX : Nat) (ps : List Int) (w : World) (hX : IA w aX N cX ps) (hN : N ≤ 255) (hok : ∀ k, k < N → okP (ps.getD k 0)) :
    Calls Try.prog 30 #[.slice aX N cX] w fun e w' => ∃ g, e = .returned (.slice (some ⟨g, 0, none⟩) N N) ∧ Pa w' (some ⟨g, 0, none⟩) N N (psG ps N) ∧ Below w.heap.size w w' := by
  have HX := Lib.hid hX
  have HOK := Lib.hid hok
  have HN := Lib.hid hN
  have hbd := hX.bd
  have qN : (N : Int) ≤ 255 := by omega
  have hmk := run_make_row' (P := Try.prog) 23 5 (.int .u8 0) 1 Try.underlying23 info5 rfl .i64 .i64 N (by omega) (by omega)
  have hO0 : Hid ((w.alloc (.cells (madeCells #[.int .u8 0] N) 5)).ownsRow w.heap.size 5 1 (.slice (some ⟨w.heap.size, 0, none⟩) N N) N (plV (psG ps N) N 0)) := by
    rw [plV_zero]
    exact Lib.hid (own_made (w := w) (e := 5) (n := N) (by unfold maxLen; omega))
  have hB0 : Hid (Below w.heap.size w (w.alloc (.cells (madeCells #[.int .u8 0] N) 5))) := Lib.hid ((Below.refl _ _).alloc (Nat.le_refl _) _)
  clear hX hok hN
  go_enter Try.func30, Try.ntmps30
  go_wp2
  go_loopw [11] (fun j wr => ∃ k : Nat, k ≤ N ∧ j = .int .i64 (k : Nat) ∧ Hid (wr.ownsRow w.heap.size 5 1 (.slice (some ⟨w.heap.size, 0, none⟩) N N) N (plV (psG ps N) N k)) ∧ Hid (Below w.heap.size w wr))
    (fun j _ => N - (intOf j).toNat)
  case atStart => exact ⟨0, Nat.zero_le _, rfl, hO0, hB0⟩
  case round =>
    obtain ⟨k, hk, rfl, hO, hB⟩ := hrel
    rename World => w2
    by_cases hlt : k < N
    · have qi : (k : Int) < (N : Int) := by omega
      have qi0 : (0 : Int) ≤ (k : Int) := by omega
      obtain ⟨b, off, rfl, hb, hcell⟩ := (HX.out.on hB.out).at_ hlt
      have hz := HOK.out k hlt
      obtain ⟨z, hzz⟩ : ∃ z, z = ps.getD k 0 := ⟨_, rfl⟩
      rw [← hzz] at hcell hz
      have k1 : ∀ [Inhabited Unit], IntKind.u8.wrap z = toI (toG z) := by
        intro _
        rw [toI_toG (by unfold okP at hz; omega), IntKind.wrap_u8]; unfold okP at hz; omega
      have hfz := hO.out.frozenAt k
      have hcl := hO.out.cellAt k (by omega)
      obtain ⟨vo, hvo⟩ : ∃ v, (plV (psG ps N) N k)[k]? = some v := ⟨_, List.getElem?_eq_getElem (by rw [plV_len (psG_len ps N) hk]; exact hlt)⟩
      rw [hvo] at hcl
      have hst := (hO.out.stored k (.int .u8 (toI (toG z)))).1
      rw [show toG z = co (psG ps N) k by rw [psG_co hlt, hzz], plV_set (psG_len ps N) hlt, psG_co hlt, ← hzz] at hst
      have HST := Lib.hid hst
      have HBS := Lib.hid (hB.out.setCell (p := ⟨w.heap.size, k, none⟩) (Nat.le_refl _) (.int .u8 (toI (toG z))))
      have HLT := Lib.hid hlt
      clear hst hlt hk hvo hz hzz hb
      go_wp2
      go_roundw
      case rel => exact ⟨k + 1, by have := HLT.out; omega, by go_num, HST, HBS⟩
      case measure => simp [intOf]; have := HLT.out; omega
    · obtain rfl : k = N := by omega
      have ho := hO.out
      rw [plV_all (psG_len ps k)] at ho
      have HP := Lib.hid (Pa.own2 ho)
      clear ho hlt
      go_wp2
      go_ret
      exact ⟨_, rfl, HP.out, hB.out⟩
theorem psG_take {ps : List Int} {t : Nat} : psG (ps.take t) t = psG ps t := by
  unfold psG
  exact List.map_congr_left fun i hi => by rw [getD_take (List.mem_range.1 hi)]
theorem decArgC : DecArgC := by
  intro b t N K aX cX ps aR cR R w hf hX hR hne ht hN hK hw
  have h1 := hX.bd
  have h2 := hR.bd
  have q : ((N : Int) != (K : Int)) = true := by rw [bne_iff_ne]; omega
  clear hf hX hR hw hne
  go_enter Try.func15, Try.ntmps15
  go_wp2
  go_ret2
  exact ⟨_, rfl, Below.refl _ _⟩
theorem decRangeC : DecRangeC := by
  intro b N t aX cX ps aR cR R w hf hX hR _ ht hN hw
  have h1 := hX.bd
  have h2 := hR.bd
  have q : ((N : Int) != (N : Int)) = false := by simp
  have HP := Lib.hid (can_no t w ht)
  clear hf hX hR hw ht
  go_enter Try.func15, Try.ntmps15
  go_wp2_with (go_at_call 24; refine HP.out.mono ?_; rintro e w' ⟨rfl, rfl⟩)
  go_ret2
  exact ⟨_, rfl, Below.refl _ _⟩
theorem decFewC : DecFewC := by
  intro b t N aX cX ps aR cR R w hf hX hR ht ht2 hN hw
  have h1 := hX.bd
  have h2 := hR.bd
  have q : ((N : Int) != (N : Int)) = false := by simp
  have q2 : (N : Int) < (t : Int) := by omega
  have HP := Lib.hid (can_yes (t : Int) w (by omega) (by omega))
  clear hf hX hR hw ht ht2 hN
  go_enter Try.func15, Try.ntmps15
  go_wp2_with (go_at_call 24; refine HP.out.mono ?_; rintro e w' ⟨rfl, rfl⟩)
  go_ret2
  exact ⟨_, rfl, Below.refl _ _⟩

theorem rw_take {M : List (List GF)} {k i : Nat} (h : i < k) : rw_ (M.take k) i = rw_ M i := by unfold rw_; simp [List.getD_eq_getElem?_getD, List.getElem?_take, h]
theorem decPlaceC : DecPlaceC := by
  intro b t N j aX cX ps aR cR R w hf hX hR ht htN hN hj hbad hw
  have h1 := hX.bd
  have h2 := hR.bd
  have q : ((N : Int) != (N : Int)) = false := by simp
  have q2 : ¬ (N : Int) < (t : Int) := by omega
  have q3 : (t : Int) ≤ (N : Int) := by omega
  have q4 : (0 : Int) ≤ (t : Int) := by omega
  have HP := Lib.hid (can_yes (t : Int) w (by omega) (by omega))
  have HC0 := Lib.hid (fun (w : World) (hx : IA w aX t cX (ps.take t)) => badCon aX t cX (ps.take t) true w hx (by omega) ⟨fun _ => ⟨j, hj, by rw [getD_take hj]; exact hbad⟩, fun _ => rfl⟩)
  have HX := Lib.hid (hX.take htN)
  have q5 : t ≤ cX := by omega
  have q6 : t ≤ cR := by omega
  clear hf hX hR hw ht hj hbad
  go_enter Try.func15, Try.ntmps15
  go_upto_region 7 with (go_at_call 24; refine HP.out.mono ?_; rintro e w' ⟨rfl, rfl⟩)
  go_quiet (fail)
  obtain ⟨W, hW⟩ : ∃ W, W = w.drewN nq := ⟨_, rfl⟩
  have HBW := Lib.hid (show Below w.heap.size w W by rw [hW]; exact below_drewN (Below.refl _ _) _)
  rw [← hW]
  clear hW
  have HC := Lib.hid (HC0.out W (HX.out.on HBW.out))
  go_wp2_with (go_at_call 25; go_loud (refine HC.out.mono ?_; rintro e w' ⟨rfl, rfl⟩))
  go_ret2
  exact ⟨_, rfl, HBW.out⟩
theorem decSameC : DecSameC := by
  intro b t N n aX cX ps aR cR R w hf hX hR ht htN hN hok hap hn1 hn hw
  have h1 := hX.bd
  have h2 := hR.bd
  have q : ((N : Int) != (N : Int)) = false := by simp
  have q2 : ¬ (N : Int) < (t : Int) := by omega
  have q3 : (t : Int) ≤ (N : Int) := by omega
  have q4 : (0 : Int) ≤ (t : Int) := by omega
  have HP := Lib.hid (can_yes (t : Int) w (by omega) (by omega))
  have HC0 := Lib.hid (fun (w : World) (hx : IA w aX t cX (ps.take t)) => badCon aX t cX (ps.take t) false w hx (by omega) ⟨(fun e => by cases e), fun ⟨i, hi, e⟩ => absurd (hok i hi) (by rwa [getD_take hi] at e)⟩)
  have HU0 := Lib.hid (fun (w : World) (hr : Mat w aR t cR (R.take t)) => unev_any aR t cR (R.take t) false w hr (fun k hk => by rw [rw_take hk]; exact hw k (by omega)) ⟨(fun e => by cases e), fun ⟨i, hi, e⟩ => absurd (by rw [rw_take hi, rw_take (by omega), hn1 i hi, hn1 0 (by omega)]) e⟩)
  have HX := Lib.hid (hX.take htN)
  have HR := Lib.hid (hR.take htN)
  have hlt : (ps.take t).length = t := (hX.take htN).1
  have HND := Lib.hid (show ¬ (ps.take t).Nodup from fun hnd => hap (by rw [← psG_take]; exact (apart_nodupI hlt (fun k hk => by rw [getD_take hk]; exact hok k hk)).2 hnd))
  have HT := Lib.hid (show t ≤ 255 by omega)
  have q5 : t ≤ cX := by omega
  have q6 : t ≤ cR := by omega
  clear hf hX hR hw ht hok hap hn1 hlt
  go_enter Try.func15, Try.ntmps15
  go_upto_region 7 with (go_at_call 24; refine HP.out.mono ?_; rintro e w' ⟨rfl, rfl⟩)
  go_quiet (fail)
  obtain ⟨W, hW⟩ : ∃ W, W = w.drewN nq := ⟨_, rfl⟩
  have HBW := Lib.hid (show Below w.heap.size w W by rw [hW]; exact below_drewN (Below.refl _ _) _)
  rw [← hW]
  clear hW
  have HC := Lib.hid (HC0.out W (HX.out.on HBW.out))
  have HU := Lib.hid (HU0.out W (HR.out.on HBW.out))
  go_wp2_with (first
    | (go_at_call 25; go_loud (refine HC.out.mono ?_; rintro e w' ⟨rfl, rfl⟩))
    | (go_at_call 27; go_loud (refine HU.out.mono ?_; rintro e w1 ⟨rfl, hb1⟩; have HB1 := Lib.hid (bt HBW.out hb1); have HR1 := Lib.hid (rep_any aX t cX (ps.take t) true w1 (HX.out.on HB1.out) HT.out ⟨fun _ => HND.out, fun _ => rfl⟩); clear hb1))
    | (go_at_call 28; go_loud (refine HR1.out.mono ?_; rintro e w2 ⟨rfl, hb2⟩; have HB2 := Lib.hid (bt HB1.out hb2); clear hb2)))
  go_ret2
  exact ⟨_, rfl, HB2.out⟩
theorem decM_val {R : List (List GF)} {X : List GF} {t : Nat} (hX : X.length = t) (n : Nat) : valM X (rw_ (R.take t)) n 1 t = decM X (rw_ R) t n := by
  unfold valM decM
  refine List.map_congr_left fun i _ => ?_
  rw [Nat.add_comm 1 i]
  unfold atR
  refine List.map_congr_left fun j _ => sm_congr fun k hk => by rw [rw_take (by omega)]
set_option maxHeartbeats 1000000 in
theorem decodeC : DecodeC := by
  intro b t N n aX cX ps aR cR R w hf hX hR ht htN hN hok hap hn1 hn hw
  have h1 := hX.bd
  have h2 := hR.bd
  have q : ((N : Int) != (N : Int)) = false := by simp
  have q2 : ¬ (N : Int) < (t : Int) := by omega
  have q3 : (t : Int) ≤ (N : Int) := by omega
  have q4 : (0 : Int) ≤ (t : Int) := by omega
  have HP := Lib.hid (can_yes (t : Int) w (by omega) (by omega))
  have HC0 := Lib.hid (fun (w : World) (hx : IA w aX t cX (ps.take t)) => badCon aX t cX (ps.take t) false w hx (by omega) ⟨(fun e => by cases e), fun ⟨i, hi, e⟩ => absurd (hok i hi) (by rwa [getD_take hi] at e)⟩)
  have HU0 := Lib.hid (fun (w : World) (hr : Mat w aR t cR (R.take t)) => unev_any aR t cR (R.take t) false w hr (fun k hk => by rw [rw_take hk]; exact hw k (by omega)) ⟨(fun e => by cases e), fun ⟨i, hi, e⟩ => absurd (by rw [rw_take hi, rw_take (by omega), hn1 i hi, hn1 0 (by omega)]) e⟩)
  have HX := Lib.hid (hX.take htN)
  have HR := Lib.hid (hR.take htN)
  have HF := Lib.hid hf
  have hlt : (ps.take t).length = t := (hX.take htN).1
  have HOK := Lib.hid (show ∀ k, k < t → okP ((ps.take t).getD k 0) from fun k hk => by rw [getD_take hk]; exact hok k hk)
  have HND := Lib.hid (show (ps.take t).Nodup from (apart_nodupI hlt HOK.out).1 (by rw [psG_take]; exact hap))
  have HT := Lib.hid (And.intro ht (show t ≤ 255 by omega))
  have HAP := Lib.hid hap
  have HW := Lib.hid (show ∀ k, k < t → (rw_ (R.take t) k).length = n from fun k hk => by rw [rw_take hk]; exact hn1 k hk)
  have HN := Lib.hid hn
  have q5 : t ≤ cX := by omega
  have q6 : t ≤ cR := by omega
  clear hf hX hR hw ht hok hap hn1 hlt hn
  go_enter Try.func15, Try.ntmps15
  go_upto_region 7 with (go_at_call 24; refine HP.out.mono ?_; rintro e w' ⟨rfl, rfl⟩)
  go_quiet (fail)
  obtain ⟨W, hW⟩ : ∃ W, W = w.drewN nq := ⟨_, rfl⟩
  have HBW := Lib.hid (show Below w.heap.size w W by rw [hW]; exact below_drewN (Below.refl _ _) _)
  rw [← hW]
  clear hW
  have HC := Lib.hid (HC0.out W (HX.out.on HBW.out))
  have HU := Lib.hid (HU0.out W (HR.out.on HBW.out))
  go_wp2_with (first
    | (go_at_call 25; go_loud (refine HC.out.mono ?_; rintro e w' ⟨rfl, rfl⟩))
    | (go_at_call 27; go_loud (refine HU.out.mono ?_; rintro e w1 ⟨rfl, hb1⟩; have HB1 := Lib.hid (bt HBW.out hb1); have HR1 := Lib.hid (rep_any aX t cX (ps.take t) false w1 (HX.out.on HB1.out) HT.out.2 ⟨(fun e => by cases e), fun h => absurd HND.out h⟩); clear hb1))
    | (go_at_call 28; go_loud (refine HR1.out.mono ?_; rintro e w2 ⟨rfl, hb2⟩; have HB2 := Lib.hid (bt HB1.out hb2); have HNU := Lib.hid (numbers_any aX t cX (ps.take t) w2 (HX.out.on HB2.out) HT.out.2 HOK.out); rw [psG_take] at HNU; clear hb2))
    | (go_at_call 30; go_loud (refine HNU.out.mono ?_; rintro e w3 ⟨g, rfl, hp3, hb3⟩; have HB3 := Lib.hid (bt HB2.out hb3); have HV := Lib.hid (valuesO b t n 1 t t (some ⟨g, 0, none⟩) t (psG ps t) aR cR (R.take t) w3 (HF.out.below HB3.out) hp3 (HR.out.on HB3.out) HAP.out HT.out.1 HT.out.2 HW.out HN.out (Nat.le_refl _) HT.out.2 (Nat.add_comm 1 t)); clear hp3 hb3))
    | (go_at_call 29; go_loud (refine HV.out.mono ?_; rintro e w4 ⟨a, c, rfl, vs, ho, hv, hb4⟩; have HM := Lib.hid (MatB.ofOk (own_base ho HB3.out.size) hv (fun z hz => Nat.le_trans HB3.out.size hz.1)); have HB4 := Lib.hid (bt HB3.out hb4); clear ho hv hb4)))
  go_ret2
  exact ⟨_, _, rfl, by rw [← decM_val (psG_len ps t)]; exact HM.out, HB4.out⟩
theorem decAll : DecAll := ⟨encodeC, pieceUC, decodeC, decArgC, decRangeC, decFewC, decPlaceC, decSameC⟩
end Go.Proofs.Ytmhjpdppippgkaa
