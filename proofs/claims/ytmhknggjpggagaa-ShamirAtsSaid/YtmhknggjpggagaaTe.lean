/- ShamirAts' walk, under the contracts. -/
import Derived.Test.YtmhknggjpggagaaSh
import Derived.Test.YtmhknggjpggagaaSw
import Derived.Deep.QuietTactic
import Derived.Deep.RegionHeld
namespace Go.Proofs.Ytmhknggjpggagaa
open Go.ChangeShapes Go.WideShapes Go.ChangeAt Go.RowKit Go.Shelf GF
set_option linter.unusedVariables false
set_option linter.unusedSimpArgs false
set_option maxRecDepth 100000

set_option maxHeartbeats 4000000 in
theorem shamirAts_core (hSplit : SplitC) (hJoin : JoinC) (hAt : AtC) (hAtBad : AtBadC) (hJoinBad : JoinBadC) (hArg : AtArgC) (aX : Option Addr) (L cX : Nat) (X : List GF) (aR : Option Addr) (N cR : Nat) (R : List (List GF)) (x : GF) (w : World)
    (hX : Pa w aX L cX X) (hR : Mat w aR N cR R) (hL : L ≤ 12) (hN : N ≤ 12) :
    Calls Try.prog 5 #[.slice aX L cX, .slice aR N cR, .int .u8 (toI x)] w fun e w' => e = .returned (.bool true) ∧ Below w.heap.size w w' := by
  have HL8 := Lib.hid (lives8 hSplit hJoin)
  have HAT := Lib.hid hAt
  have HJO := Lib.hid hJoin
  have HAB := Lib.hid hAtBad
  have HJB := Lib.hid hJoinBad
  have HNI := Lib.hid hArg
  have HX := Lib.hid hX
  have HR := Lib.hid hR
  have HXL := Lib.hid hX.len
  have HRL := Lib.hid hR.len
  have HLN := Lib.hid (show L ≤ 12 ∧ N ≤ 12 from ⟨hL, hN⟩)
  have qL : (L : Int) ≤ 12 := by omega
  have qN : (N : Int) ≤ 12 := by omega
  clear hSplit hJoin hAt hAtBad hJoinBad hArg hX hR hL hN
  go_enter Try.func5, Try.ntmps5
  go_upto_region 5 with (go_at_call 8; go_loud ((with_reducible refine (HL8.out w).mono ?_); rintro e w1 ⟨rfl, hb⟩; have HB1 := Lib.hid hb; clear hb))
  have HR1 := Lib.hid (HR.out.on HB1.out)
  have HX1 := Lib.hid (HX.out.on HB1.out)
  go_loop [7, 32] (fun o s => ∃ k : Nat, k ≤ N ∧ s = .int .i64 (k : Nat) ∧ o = .int .i64 (uI R k) ∧ Hid (∀ j, j < k → (rw_ R j).length ≤ 20)) (fun _ s => N - (intOf s).toNat)
  case atStart => exact ⟨0, by omega, rfl, by rw [uI_zero], Lib.hid (fun j hj => absurd hj (by omega))⟩
  case round =>
    obtain ⟨k, hk, rfl, rfl, hs⟩ := hrel
    by_cases hlt : k < N
    · obtain ⟨bx, ox, ak, ck, rfl, hbx, hck, hpk⟩ := HR1.out.row hlt
      obtain ⟨bx2, ox2, a0, c0, e0, hb0, hc0, hp0⟩ := HR1.out.row (i := 0) (by omega)
      cases e0
      rw [Nat.add_zero] at hc0
      have HU1 := Lib.hid (uI_like (M := R) (k := k) (by rw [HRL.out]; exact hlt))
      have HU2 := Lib.hid (uI_unlike (M := R) (k := k) (by rw [HRL.out]; exact hlt))
      obtain ⟨lk, hlk⟩ : ∃ lk, lk = (rw_ R k).length := ⟨_, rfl⟩
      obtain ⟨l0, hl0⟩ : ∃ l0, l0 = (rw_ R 0).length := ⟨_, rfl⟩
      have HLK := Lib.hid hlk
      have HL0 := Lib.hid hl0
      rw [← hlk] at hck
      rw [← hl0] at hc0
      clear hpk hp0 hlk hl0 hbx hb0
      have HSS := Lib.hid hs.out
      clear hs
      have qk : (k : Int) < (N : Int) := by omega
      have qk0 : (0 : Int) ≤ (k : Int) := by omega
      have q0N : (0 : Int) < (N : Int) := by omega
      have HK := Lib.hid hlt
      clear hk hlt
      by_cases h20 : 20 < lk
      · have q20 : (20 : Int) < (lk : Int) := by omega
        clear h20
        go_wp2
        go_ret
        exact ⟨rfl, HB1.out⟩
      · have q20 : ¬ (20 : Int) < (lk : Int) := by omega
        have H20 := Lib.hid (show ∀ j, j < k + 1 → (rw_ R j).length ≤ 20 from fun j hj => by
          by_cases e : j < k
          · exact HSS.out j e
          · obtain rfl : j = k := by omega
            rw [← HLK.out]; omega)
        clear h20
        by_cases he : lk = l0
        · have HU := Lib.hid (HU1.out (by rw [← HLK.out, ← HL0.out]; exact he))
          subst he
          go_wp2_with fail
          go_round
          case rel => exact ⟨k + 1, by have := HK.out; omega, by go_num, by rw [HU.out], H20⟩
          case measure => simp [intOf]; have := HK.out; omega
        · have qe : ¬ (lk : Int) = (l0 : Int) := by omega
          have HU := Lib.hid (HU2.out (by rw [← HLK.out, ← HL0.out]; exact he))
          clear he
          go_wp2_with fail
          go_round
          case rel => exact ⟨k + 1, by have := HK.out; omega, by go_num, by rw [HU.out], H20⟩
          case measure => simp [intOf]; have := HK.out; omega
    · obtain rfl : N = k := by omega
      have HSS := Lib.hid (show ∀ j, j < N → (rw_ R j).length ≤ 1000 from fun j hj => Nat.le_trans (hs.out j hj) (by omega))
      clear hs hk hlt
      by_cases hLN : L = N
      · subst hLN
        cases hu : unl R L with
        | true =>
          have qu : uI R L = 3 := by unfold uI; rw [hu]; rfl
          have HE := Lib.hid (show atErr X R = 3 by unfold atErr; rw [if_neg (by rw [HXL.out, HRL.out]; exact fun h => h rfl), HRL.out, if_pos hu])
          have HEN := Lib.hid (show atErr X R ≠ 0 by rw [HE.out]; decide)
          clear hu
          go_wp2_with (first
            | (go_at_call 11; go_loud (refine (new_any _).mono ?_; rintro e w3 ⟨b, rfl, hb0, hf, hb3⟩; have HF3 := Lib.hid hf; have HB3 := Lib.hid (bt HB1.out hb3); have h1 := HAB.out b L L aX cX X aR cR R x w3 hf (HX.out.on HB3.out) (HR.out.on HB3.out) HSS.out HEN.out (by have := HLN.out; omega) (by have := HLN.out; omega); rw [HE.out] at h1; have HA1 := Lib.hid h1; clear hf hb0 hb3 h1))
            | (go_at_call 18; (with_reducible refine HA1.out.mono ?_); rintro e w4 ⟨a4, c4, rfl, hb4⟩; have HB4 := Lib.hid (bt HB3.out hb4); have h1 := HJB.out b L L aX cX X aR cR R w4 (HF3.out.below hb4) (HX.out.on HB4.out) (HR.out.on HB4.out) HSS.out HEN.out (by have := HLN.out; omega) (by have := HLN.out; omega); rw [HE.out] at h1; have HA2 := Lib.hid h1; clear hb4 h1)
            | (go_at_call 19; go_loud ((with_reducible refine HA2.out.mono ?_); rintro e w5 ⟨a5, c5, rfl, hb5⟩; have HB5 := Lib.hid (bt HB4.out hb5); have HA3 := Lib.hid (HNI.out L L aX cX X aR cR R x w5 (HX.out.on HB5.out) (HR.out.on HB5.out) HSS.out (by have := HLN.out; omega) (by have := HLN.out; omega)); clear hb5))
            | (go_at_call 18; (with_reducible refine HA3.out.mono ?_); rintro e w6 ⟨v6, rfl, hb6⟩; have HB6 := Lib.hid (bt HB5.out hb6); clear hb6))
          all_goals (go_ret; exact ⟨rfl, HB6.out⟩)
        | false =>
          have qu : uI R L = 0 := by unfold uI; rw [hu]; rfl
          have HLK := Lib.hid (show ∀ k, k < L → (rw_ R k).length = (rw_ R 0).length from fun k hk => unl_mem (by rw [HRL.out]; exact hu) (by rw [HRL.out]; exact hk))
          have HE := Lib.hid (show atErr X R = plErr X by unfold atErr; rw [if_neg (by rw [HXL.out, HRL.out]; exact fun h => h rfl), HRL.out, if_neg (by rw [hu]; decide)])
          clear hu
          have HPz := Lib.hid (fun h : plErr X = 0 => plErr_zero.1 h)
          have HPL0 := rplaces_any aX L cX X w1 HX1.out
          obtain ⟨p, hp⟩ : ∃ p, p = plErr X := ⟨_, rfl⟩
          rw [← hp] at HE HPL0 HPz
          have HPL := Lib.hid HPL0
          clear hp HPL0
          by_cases hp0 : p = 0
          · have HPZ := Lib.hid (HPz.out hp0)
            subst hp0
            obtain ⟨n, hn⟩ : ∃ n, n = (rw_ R 0).length := ⟨_, rfl⟩
            rw [← hn] at HLK
            have HNN := Lib.hid (show n ≤ 1000 by rw [hn]; exact HSS.out 0 (by have := HPZ.out.1; rw [HXL.out] at this; exact this))
            have HAP := Lib.hid HPZ.out.2.2
            have HL1 := Lib.hid (show 1 ≤ L by have := HPZ.out.1; rw [HXL.out] at this; exact this)
            clear hn
            go_upto_region 24 with (first
              | (go_at_call 17; go_loud ((with_reducible refine HPL.out.mono ?_); rintro e w2 ⟨rfl, hb2⟩; have HB2 := Lib.hid (bt HB1.out hb2); clear hb2))
              | (go_at_call 11; go_loud (refine (new_any _).mono ?_; rintro e w3 ⟨b, rfl, hb0, hf, hb3⟩; have HF3 := Lib.hid hf; have HB3 := Lib.hid (bt HB2.out hb3); have HA1 := Lib.hid (HAT.out b L n aX cX X aR cR R x w3 hf (HX.out.on HB3.out) (HR.out.on HB3.out) HAP.out HL1.out (by have := HLN.out; omega) HLK.out HNN.out); clear hf hb0 hb3))
              | (go_at_call 18; (with_reducible refine HA1.out.mono ?_); rintro e w4 ⟨a4, c4, rfl, hp4, hb4⟩; have HP4 := Lib.hid hp4; have HB4 := Lib.hid (bt HB3.out hb4); have HA2 := Lib.hid (HJO.out b L n aX cX X aR cR R w4 (HF3.out.below hb4) (HX.out.on HB4.out) (HR.out.on HB4.out) HAP.out HL1.out (by have := HLN.out; omega) HLK.out HNN.out); clear hb4 hp4)
              | (go_at_call 19; go_loud ((with_reducible refine HA2.out.mono ?_); rintro e w5 ⟨a5, c5, rfl, hp5, hb5⟩; have HP5 := Lib.hid hp5; have HP45 := Lib.hid (HP4.out.on hb5); have HB5 := Lib.hid (bt HB4.out hb5); have HA3 := Lib.hid (HNI.out L L aX cX X aR cR R x w5 (HX.out.on HB5.out) (HR.out.on HB5.out) HSS.out (by have := HLN.out; omega) (by have := HLN.out; omega)); clear hb5 hp5))
              | (go_at_call 18; (with_reducible refine HA3.out.mono ?_); rintro e w6 ⟨v6, rfl, hb6⟩; have HB6 := Lib.hid (bt HB5.out hb6); have HP46 := Lib.hid (HP45.out.on hb6); have HP56 := Lib.hid (HP5.out.on hb6); clear hb6))
            have hv4 : ∀ V, Below w6.heap.size w6 V → (convert 22 9 (.slice a4 n c4)).run Try.prog V = .ok (.string (strOfNums (iL (atR X (rw_ R) x n)))) V := fun V hV => HP46.out.str_on rfl V hV
            have hv5 : ∀ V, Below w6.heap.size w6 V → (convert 22 9 (.slice a5 n c5)).run Try.prog V = .ok (.string (strOfNums (iL (atR X (rw_ R) 0 n)))) V := fun V hV => HP56.out.str_on rfl V hV
            have HRX := Lib.hid (fun (y : GF) (V : World) (hV : Below w6.heap.size w6 V) => (refAt_any aX L cX X aR cR n R y V ((HX.out.on HB6.out).on hV) ((HR.out.on HB6.out).on hV) HL1.out (by have := HLN.out; omega) HNN.out HLK.out).mono (R' := fun e w' => ∃ g c', e = .returned (.slice (some ⟨g, 0, none⟩) n c') ∧ Pa w' (some ⟨g, 0, none⟩) n c' (atR X (rw_ R) y n) ∧ Below w6.heap.size w6 w' ∧ Below V.heap.size V w') (fun e w' ⟨g, c', h1, h2, h3⟩ => ⟨g, c', h1, h2, bt hV h3, h3⟩))
            have HR0 := HRX.out 0
            rw [toI_zero] at HR0
            have HRZ := Lib.hid HR0
            clear HR0 HA1 HA2 HA3
            go_wp2_with fail
            go_region_held (fun V => Below w6.heap.size w6 V) (first | exact (Below.refl _ _).drew | assumption)
              (first
                | (go_at_call 20; (with_reducible refine (HRX.out x _ ?_).mono ?_); (first | assumption | exact (Below.refl _ _).drew); rintro e w7 ⟨g7, c7, rfl, hp7, hb7, hl7⟩; have hv7 := hp7.str_on rfl; have hrf7 := Below.refl w7.heap.size w7)
                | (go_at_call 20; (with_reducible refine (HRZ.out _ ?_).mono ?_); (first | assumption | exact (Below.refl _ _).drew); rintro e w8 ⟨g8, c8, rfl, hp8, hb8, hl8⟩; have hv8 := hp8.str_on rfl; have hrf8 := Below.refl w8.heap.size w8))
            all_goals (go_wp2; go_ret; exact ⟨rfl, bt HB6.out (by assumption)⟩)
          · have qp : ¬ p = 0 := hp0
            have HEN := Lib.hid (show atErr X R ≠ 0 by rw [HE.out]; exact hp0)
            clear hp0
            go_wp2_with (first
              | (go_at_call 17; go_loud ((with_reducible refine HPL.out.mono ?_); rintro e w2 ⟨rfl, hb2⟩; have HB2 := Lib.hid (bt HB1.out hb2); clear hb2))
              | (go_at_call 11; go_loud (refine (new_any _).mono ?_; rintro e w3 ⟨b, rfl, hb0, hf, hb3⟩; have HF3 := Lib.hid hf; have HB3 := Lib.hid (bt HB2.out hb3); have h1 := HAB.out b L L aX cX X aR cR R x w3 hf (HX.out.on HB3.out) (HR.out.on HB3.out) HSS.out HEN.out (by have := HLN.out; omega) (by have := HLN.out; omega); rw [HE.out] at h1; have HA1 := Lib.hid h1; clear hf hb0 hb3 h1))
              | (go_at_call 18; (with_reducible refine HA1.out.mono ?_); rintro e w4 ⟨a4, c4, rfl, hb4⟩; have HB4 := Lib.hid (bt HB3.out hb4); have h1 := HJB.out b L L aX cX X aR cR R w4 (HF3.out.below hb4) (HX.out.on HB4.out) (HR.out.on HB4.out) HSS.out HEN.out (by have := HLN.out; omega) (by have := HLN.out; omega); rw [HE.out] at h1; have HA2 := Lib.hid h1; clear hb4 h1)
              | (go_at_call 19; go_loud ((with_reducible refine HA2.out.mono ?_); rintro e w5 ⟨a5, c5, rfl, hb5⟩; have HB5 := Lib.hid (bt HB4.out hb5); have HA3 := Lib.hid (HNI.out L L aX cX X aR cR R x w5 (HX.out.on HB5.out) (HR.out.on HB5.out) HSS.out (by have := HLN.out; omega) (by have := HLN.out; omega)); clear hb5))
              | (go_at_call 18; (with_reducible refine HA3.out.mono ?_); rintro e w6 ⟨v6, rfl, hb6⟩; have HB6 := Lib.hid (bt HB5.out hb6); clear hb6))
            all_goals (go_ret; exact ⟨rfl, HB6.out⟩)
      · have qLN : ¬ (L : Int) = (N : Int) := by omega
        have HE := Lib.hid (show atErr X R = 1 by unfold atErr; rw [if_pos (by rw [HXL.out, HRL.out]; exact hLN)])
        have HEN := Lib.hid (show atErr X R ≠ 0 by rw [HE.out]; decide)
        clear hLN
        go_wp2_with (first
          | (go_at_call 11; go_loud (refine (new_any _).mono ?_; rintro e w3 ⟨b, rfl, hb0, hf, hb3⟩; have HF3 := Lib.hid hf; have HB3 := Lib.hid (bt HB1.out hb3); have h1 := HAB.out b L N aX cX X aR cR R x w3 hf (HX.out.on HB3.out) (HR.out.on HB3.out) HSS.out HEN.out (by have := HLN.out; omega) (by have := HLN.out; omega); rw [HE.out] at h1; have HA1 := Lib.hid h1; clear hf hb0 hb3 h1))
          | (go_at_call 18; (with_reducible refine HA1.out.mono ?_); rintro e w4 ⟨a4, c4, rfl, hb4⟩; have HB4 := Lib.hid (bt HB3.out hb4); have h1 := HJB.out b L N aX cX X aR cR R w4 (HF3.out.below hb4) (HX.out.on HB4.out) (HR.out.on HB4.out) HSS.out HEN.out (by have := HLN.out; omega) (by have := HLN.out; omega); rw [HE.out] at h1; have HA2 := Lib.hid h1; clear hb4 h1)
          | (go_at_call 19; go_loud ((with_reducible refine HA2.out.mono ?_); rintro e w5 ⟨a5, c5, rfl, hb5⟩; have HB5 := Lib.hid (bt HB4.out hb5); have HA3 := Lib.hid (HNI.out L N aX cX X aR cR R x w5 (HX.out.on HB5.out) (HR.out.on HB5.out) HSS.out (by have := HLN.out; omega) (by have := HLN.out; omega)); clear hb5))
          | (go_at_call 18; (with_reducible refine HA3.out.mono ?_); rintro e w6 ⟨v6, rfl, hb6⟩; have HB6 := Lib.hid (bt HB5.out hb6); clear hb6))
        all_goals (go_ret; exact ⟨rfl, HB6.out⟩)
end Go.Proofs.Ytmhknggjpggagaa
