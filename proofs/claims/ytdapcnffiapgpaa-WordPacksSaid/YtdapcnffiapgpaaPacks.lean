/- The walk of WordPacks. -/
import Derived.Test.YtdapcnffiapgpaaUnp
namespace Go.Proofs.Ytdapcnffiapgpaa
open Go.ChangeShapes Go.WideShapes Go.ChangeAt Go.RowKit
set_option linter.unusedVariables false
set_option maxRecDepth 100000

theorem loose_yes (a : Option Addr) (L c : Nat) (b : List Int) (N : Nat) (w : World) (hl : b.length = L) (hB : AllB b) (hb : Bs w w.heap.size a b) (hL : L ≤ 1099511627776)
    (hN : N ≤ 8 * L) (ht : ¬ tight b N) :
    Calls Try.prog 25 #[.slice a L c, .int .i64 (N : Nat)] w fun e w' => e = .returned (.bool true) ∧ Below w.heap.size w w' := by
  have HL := Lib.hid hl
  have HT := Lib.hid ht
  clear hl ht
  go_enter Try.func25, Try.ntmps25
  go_wp2
  go_loopw [5] (fun i wr => ∃ k : Nat, N ≤ k ∧ k ≤ 8 * L ∧ i = .int .i64 k ∧ Hid (∀ i, N ≤ i → i < k → bitOf b i = false) ∧ Below w.heap.size w wr) (fun i _ => 8 * L - (intOf i).toNat)
  case atStart => exact ⟨N, Nat.le_refl _, by omega, rfl, fun i h1 h2 => absurd h1 (by omega), Below.refl _ _⟩
  case round =>
    obtain ⟨k, hNk, hk, rfl, hz, hbel⟩ := hrel
    by_cases hlt : k < 8 * L
    · obtain ⟨bb, off, rfl, hBB, hcb⟩ := (hb.below hbel).at_ (k := k / 8) (by rw [HL.out]; omega)
      obtain ⟨X, hX⟩ : ∃ X, X = b.getD (k / 8) 0 := ⟨_, rfl⟩
      have hbt := bit_test hB hX
      rw [← hX] at hcb
      obtain ⟨q3, q4, q5, q2⟩ := div8 (k := k) (by omega)
      obtain ⟨r3, r4, r5, r2⟩ := mod8 (k := k) (by omega)
      have r6 := shift128 (r := k % 8) (by omega)
      have q1 : (k : Int) / 8 < (L : Int) := by omega
      obtain ⟨v, hv⟩ : ∃ v, bitOf b k = v := ⟨_, rfl⟩
      rw [hv] at hbt
      have HV := Lib.hid hv
      have HBL := Lib.hid hbel
      clear hX hv hbel
      cases v
      · go_wp2_with fail
        go_quiet (fail)
        go_wp2
        go_roundw
        case rel =>
          refine ⟨k + 1, by omega, by omega, by go_num, fun i h1 h2 => ?_, below_drewN HBL.out _⟩
          by_cases e : i = k
          · subst e; exact HV.out
          · exact hz.out i h1 (by omega)
        case measure => simp [intOf]; omega
      · go_wp2_with fail
        go_quiet (fail)
        go_wp2
        go_ret
        exact ⟨rfl, below_drewN HBL.out _⟩
    · exact absurd (fun i h1 h2 => hz.out i h1 (by rw [HL.out] at h2; omega)) HT.out

theorem allB_packL (l : List Bool) : AllB (packL l) := by
  intro v hv
  obtain ⟨j, hj, rfl⟩ := List.mem_map.1 hv
  have := byteK_lt l l.length j
  omega
set_option maxHeartbeats 2000000 in
theorem wordPacks_walk (a0 : Option Addr) (len0 cap0 : Nat) (a1 : Option Addr) (len1 cap1 : Nat) (n : Int) (w : World) (w0 : ∃ l, ArgL w a0 len0 cap0 l) (w1 : ∃ l, Arg8c w a1 len1 cap1 l) (wn : (Lit.int .i64 n).wf = true) :
    Calls Try.prog 7 #[.slice a0 len0 cap0, .slice a1 len1 cap1, .int .i64 n] w fun e w' => e = .returned (.bool true) ∧ Below w.heap.size w w' := by
  obtain ⟨l, hl⟩ := w0
  obtain ⟨b, hb⟩ := w1
  obtain ⟨n0, n1⟩ := wf_i64 wn
  have hl0 : len0 ≤ 9223372036854775807 := by have := hl.2.2.1; have := hl.2.2.2; unfold maxLen at this; omega
  have hl1 : len1 ≤ 9223372036854775807 := by have := hb.1.2.2.2.1; have := hb.1.2.2.2.2; unfold maxLen at this; omega
  have HX := Lib.hid hl
  have HY := Lib.hid hb.1
  have WN := Lib.hid wn
  clear hl hb wn
  have early : 200 < len0 ∨ 40 < len1 → Calls Try.prog 7 #[.slice a0 len0 cap0, .slice a1 len1 cap1, .int .i64 n] w fun e w' => e = .returned (.bool true) ∧ Below w.heap.size w w' := by
    intro h
    by_cases h0 : 200 < len0
    · go_enter Try.func7, Try.ntmps7
      go_wp2_with (go_at_call 8; refine (lives_any _).mono ?_; rintro e w' ⟨rfl, hbel⟩)
      go_ret
      exact ⟨rfl, bt (by assumption) (by assumption)⟩
    · have h1 : 40 < len1 := by omega
      clear h
      go_enter Try.func7, Try.ntmps7
      go_wp2_with (go_at_call 8; refine (lives_any _).mono ?_; rintro e w' ⟨rfl, hbel⟩)
      go_ret
      exact ⟨rfl, bt (by assumption) (by assumption)⟩
  by_cases h0 : 200 < len0 ∨ 40 < len1
  · exact early h0
  clear early
  have h1 : len0 ≤ 200 := by omega
  have h2 : len1 ≤ 40 := by omega
  clear h0
  have hup := Lib.hid (unpack_pack l)
  have htp := Lib.hid (tight_pack l)
  have hlp := Lib.hid (length_packL l)
  have hap := Lib.hid (allB_packL l)
  go_enter Try.func7, Try.ntmps7
  go_wp2_with (first
    | (go_at_call 8; refine (lives_any _).mono ?_; rintro e w' ⟨rfl, hbel⟩)
    | (go_at_call 23; refine (pack_any a0 len0 cap0 l _ (HX.out.on hbel) (by omega)).mono ?_; rintro e w2 ⟨g, rfl, hown, hbel2⟩)
    | (go_at_call 24; refine (unpack_yes (some ⟨g, 0, none⟩) _ _ (packL l) len0 _ (by rw [hlp.out, HX.out.1]) hap.out (Bs.of_own hown).1 (by omega) rfl (by rw [← HX.out.1]; exact htp.out)).mono ?_; rintro e w3 ⟨g3, rfl, hown3, hbel3⟩))
  have hA := Lib.hid (HX.out.on (bt (bt hbel hbel2) hbel3))
  have hY3 := Lib.hid (HY.out.on (bt (bt hbel hbel2) hbel3))
  have hP := Lib.hid ((Arg8.own hown hap.out ⟨Nat.le_refl _, by unfold maxLen; omega⟩).on hbel3)
  have hU : unpackL (packL l) len0 = l := by rw [← HX.out.1]; exact hup.out
  rw [hU] at hown3
  have hM := Lib.hid (ArgL.own hown3 ⟨Nat.le_refl _, by unfold maxLen; omega⟩)
  have hT := bt (bt hbel hbel2) hbel3
  clear hU hown hown3 hbel hbel2 hbel3 hup htp
  go_loopw [55] (fun i wr => ∃ k : Nat, k ≤ len0 ∧ i = .int .i64 k ∧ Below w3.heap.size w3 wr) (fun i _ => len0 - (intOf i).toNat)
  case atStart => exact ⟨0, Nat.zero_le _, rfl, Below.refl _ _⟩
  case round =>
    obtain ⟨k, hk, rfl, hbr⟩ := hrel
    by_cases hlt : k < len0
    · obtain ⟨bl, ol, rfl, hbl, hcl⟩ := ((hA.out.on hbr).2.1).at_ (k := k) (by rw [hA.out.1]; exact hlt)
      obtain ⟨bm, om, hm, hbm, hcm⟩ := ((hM.out.on hbr).2.1).at_ (k := k) (by rw [hM.out.1]; exact hlt)
      obtain ⟨bp, op, hp, hbp, hcp⟩ := ((hP.out.on hbr).2.2.1).at_ (k := k / 8) (by rw [hP.out.1]; omega)
      injection hm with hm; injection hm with hm1 hm2; subst hm1 hm2
      injection hp with hp; injection hp with hp1 hp2; subst hp1 hp2
      rw [Nat.zero_add] at hcm hcp
      obtain ⟨X, hX⟩ : ∃ X, X = (packL l).getD (k / 8) 0 := ⟨_, rfl⟩
      have hbt := bit_test hap.out hX
      rw [← hX] at hcp
      rw [bitOf_packL (by rw [HX.out.1]; omega)] at hbt
      obtain ⟨v, hv⟩ : ∃ v, v = l.getD k false := ⟨_, rfl⟩
      rw [← hv] at hbt hcl hcm
      obtain ⟨q3, q4, q5, q2⟩ := div8 (k := k) (by omega)
      obtain ⟨r3, r4, r5, r2⟩ := mod8 (k := k) (by omega)
      have r6 := shift128 (r := k % 8) (by omega)
      have q1 : (k : Int) / 8 < ((len0 : Int) + 7) / 8 := by omega
      have q6 : (k : Int) < (len0 : Int) := by omega
      have q7 : (0 : Int) ≤ (k : Int) := by omega
      have HB := Lib.hid hbr
      clear hX hv hbr
      cases v
      all_goals
        go_wp2_with fail
        go_quiet (fail)
        go_wp2
        go_roundw
        case rel => exact ⟨k + 1, by omega, by go_num, below_drewN HB.out _⟩
        case measure => simp [intOf]; omega
    · obtain rfl : len0 = k := by omega
      have hY4 := Lib.hid (hY3.out.on hbr)
      have hT4 := bt hT hbr
      clear hT hY3 hA hM hP hbr
      by_cases c1 : n < 0
      · go_wp2_with (go_at_call 24; refine (unpack_no a1 len1 cap1 b n _ hY4.out.1 hY4.out.2.1 hY4.out.2.2.1 (by omega) WN.out (.inl c1)).mono ?_; rintro e w5 ⟨rfl, hbel5⟩)
        go_ret
        exact ⟨rfl, bt hT4 hbel5⟩
      · by_cases c2 : 8 * (len1 : Int) < n
        · go_wp2_with (go_at_call 24; refine (unpack_no a1 len1 cap1 b n _ hY4.out.1 hY4.out.2.1 hY4.out.2.2.1 (by omega) WN.out (.inr (.inl (by omega)))).mono ?_; rintro e w5 ⟨rfl, hbel5⟩)
          go_ret
          exact ⟨rfl, bt hT4 hbel5⟩
        · by_cases c3 : (n + 7) / 8 = len1
          · obtain ⟨N, rfl⟩ := Int.eq_ofNat_of_zero_le (Int.not_lt.1 c1)
            have c3' : (((N : Int) + 7) / 8 != (len1 : Int)) = false := by simpa using c3
            have hN8 : (N + 7) / 8 = len1 := by omega
            by_cases c4 : tight b N
            · have HN8 := Lib.hid hN8
              have HC4 := Lib.hid c4
              clear c3 c3' c4 hN8
              go_wp2_with (go_at_call 24; refine (unpack_yes a1 len1 cap1 b N _ hY4.out.1 hY4.out.2.1 hY4.out.2.2.1 (by omega) HN8.out HC4.out).mono ?_; rintro e w5 ⟨g5, rfl, hown5, hbel5⟩)
              have hM5 := Lib.hid (ArgL.own hown5 ⟨Nat.le_refl _, by unfold maxLen; omega⟩)
              have hpu := pack_unpack hY4.out.2.1 (by rw [hY4.out.1]; exact HN8.out) HC4.out
              have hcvB : ∀ W, Below w5.heap.size w5 W → (convert 31 9 (.slice a1 len1 cap1)).run Try.prog W = .ok (.string (strOfNums b)) W := fun W hW =>
                (hY4.out.on (bt hbel5 hW)).2.2.1.str hY4.out.1 Try.underlying31 Try.underlying5 Try.underlying9
              clear hown5
              go_wp2_with fail
              go_region_held (fun W => Below w5.heap.size w5 W) (first | exact (Below.refl _ _).drew | assumption | exact (Below.refl _ _).drew.trans hbel6)
                (first | (go_at_call 23; refine (pack_any (some ⟨g5, 0, none⟩) N N (unpackL b N) _ (hM5.out.on (by assumption)) (by omega)).mono ?_; rintro e w6 ⟨g6, rfl, hown6, hbel6⟩; rw [hpu] at hown6; have hcv6 := own_string (P := Try.prog) hown6 Try.underlying31 Try.underlying5 Try.underlying9))
              go_wp2
              go_ret
              exact ⟨rfl, bt (bt hT4 hbel5) (by assumption)⟩
            · have HC4 := Lib.hid (show (N : Int) < 0 ∨ ((N : Int) + 7) / 8 ≠ len1 ∨ ¬ tight b (N : Int).toNat from .inr (.inr (by simpa using c4)))
              have HC5 := Lib.hid c4
              clear c3 c4 hN8
              go_wp2_with (first
                | (go_at_call 24; refine (unpack_no a1 len1 cap1 b N _ hY4.out.1 hY4.out.2.1 hY4.out.2.2.1 (by omega) WN.out HC4.out).mono ?_; rintro e w5 ⟨rfl, hbel5⟩)
                | (go_at_call 25; refine (loose_yes a1 len1 cap1 b N _ hY4.out.1 hY4.out.2.1 (hY4.out.on hbel5).2.2.1 (by omega) (by omega) HC5.out).mono ?_; rintro e w6 ⟨rfl, hbel6⟩))
              go_ret
              exact ⟨rfl, bt (bt hT4 hbel5) hbel6⟩
          · have c3' : ((n + 7) / 8 != (len1 : Int)) = true := by simpa using c3
            have HC3 := Lib.hid (show n < 0 ∨ (n + 7) / 8 ≠ len1 ∨ ¬ tight b n.toNat from .inr (.inl c3))
            clear c3
            go_wp2_with (go_at_call 24; refine (unpack_no a1 len1 cap1 b n _ hY4.out.1 hY4.out.2.1 hY4.out.2.2.1 (by omega) WN.out HC3.out).mono ?_; rintro e w5 ⟨rfl, hbel5⟩)
            go_ret
            exact ⟨rfl, bt hT4 hbel5⟩
end Go.Proofs.Ytdapcnffiapgpaa
