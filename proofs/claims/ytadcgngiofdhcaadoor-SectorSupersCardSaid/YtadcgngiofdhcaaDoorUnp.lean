/- Contracts of word.Unpack and of the law's loose. -/
import Derived.Test.YtadcgngiofdhcaaDoorPackC
namespace Go.Proofs.YtadcgngiofdhcaaDoor
open Go.ChangeShapes Go.WideShapes Go.ChangeAt Go.RowKit
set_option linter.unusedVariables false

theorem own_base {w : World} {base base' : Nat} {e : TypeId} {s : Nat} {v : Value} {n : Nat} {xs : List Value} (h : w.ownsRow base e s v n xs) (hb : base' ≤ base) : w.ownsRow base' e s v n xs := by
  refine ⟨h.1, ?_⟩
  rcases h.2 with h | ⟨g, cap, cur, h1, h2, h3⟩
  · exact .inl h
  · exact .inr ⟨g, cap, cur, h1, by omega, h3⟩
theorem div8 {k : Nat} (h : k ≤ 9223372036854775807) : (k : Int).tdiv 8 = (k : Int) / 8 ∧ IntKind.i64.wrap ((k : Int) / 8) = (k : Int) / 8 ∧ ((k : Int) / 8).toNat = k / 8 ∧ (0 : Int) ≤ (k : Int) / 8 :=
  ⟨Int.tdiv_eq_ediv_of_nonneg (by omega), IntWalk.i64_in _ (by omega), by omega, by omega⟩
theorem mod8 {k : Nat} (h : k ≤ 9223372036854775807) : (k : Int).tmod 8 = (k : Int) % 8 ∧ IntKind.i64.wrap ((k : Int) % 8) = (k : Int) % 8 ∧ ((k : Int) % 8).toNat = k % 8 ∧ (0 : Int) ≤ (k : Int) % 8 :=
  ⟨Int.tmod_eq_emod_of_nonneg (by omega), IntWalk.i64_in _ (by omega), by omega, by omega⟩
theorem bit_test {b : List Int} (hb : AllB b) {k : Nat} {X : Int} (hX : X = b.getD (k / 8) 0) : (bits .and .u8 X (2 ^ (7 - k % 8)) != 0) = bitOf b k := by
  have h := allB_getD' hb (k / 8)
  rw [← hX] at h
  rw [and_place_ne h (by omega), hX]; rfl
theorem ret_no : Ending.returned (.tuple #[.slice none 0 0, .bool false]) = .returned (.tuple #[.slice none 0 0, .bool false]) := rfl

theorem unpack_no (a : Option Addr) (L c : Nat) (b : List Int) (n : Int) (w : World) (hl : b.length = L) (hB : AllB b) (hb : Bs w w.heap.size a b) (hL : L ≤ 140737488355328) (wn : (Lit.int .i64 n).wf = true)
    (hno : n < 0 ∨ (n + 7) / 8 ≠ L ∨ ¬ tight b n.toNat) :
    Calls Tryd.prog 28 #[.slice a L c, .int .i64 n] w fun e w' => e = .returned (.tuple #[.slice none 0 0, .bool false]) ∧ Below w.heap.size w w' := by
  obtain ⟨n0, n1⟩ := wf_i64 wn
  clear wn
  by_cases h0 : n < 0
  · clear hno
    go_enter Tryd.func28, Tryd.ntmps28
    go_wp2
    go_ret2
    exact ⟨rfl, Below.refl _ _⟩
  · obtain ⟨N, rfl⟩ := Int.eq_ofNat_of_zero_le (Int.not_lt.1 h0)
    have HL := Lib.hid hl
    clear hl
    obtain ⟨m, hm⟩ : ∃ m : Int, ((N : Int) + 7) / 8 = m := ⟨_, rfl⟩
    rw [hm] at hno
    by_cases h1 : m = L
    · have ht : ¬ tight b N := by
        rcases hno with h | h | h
        · omega
        · exact absurd h1 h
        · simpa using h
      have HT := Lib.hid ht
      clear ht hno
      subst h1
      have HM := Lib.hid hm
      have hNL : (N : Int) ≤ 8 * (L : Int) := by omega
      go_enter Tryd.func28, Tryd.ntmps28
      go_wp2_with (go_at_call 35; refine (packed_any _ (by omega) (by omega) _).mono ?_; rw [HM.out]; rintro e w' ⟨rfl, rfl⟩)
      go_loopw [6] (fun i wr => ∃ k : Nat, N ≤ k ∧ k ≤ 8 * L ∧ i = .int .i64 k ∧ Hid (∀ i, N ≤ i → i < k → bitOf b i = false) ∧ Below w.heap.size w wr) (fun i _ => 8 * L - (intOf i).toNat)
      case atStart => exact ⟨N, Nat.le_refl _, by omega, rfl, fun i h1 h2 => absurd h1 (by omega), Below.refl _ _⟩
      case round =>
        obtain ⟨k, hNk, hk, rfl, hz, hbel⟩ := hrel
        by_cases hlt : k < 8 * L
        · obtain ⟨bb, off, rfl, hBB, hcb⟩ := (hb.below hbel).at_ (k := k / 8) (by rw [HL.out]; omega)
          obtain ⟨X, hX⟩ : ∃ X, X = b.getD (k / 8) 0 := ⟨_, rfl⟩
          have hbt := bit_test hB hX
          rw [← hX] at hcb
          obtain ⟨q3, q4, q5, q2⟩ := div8 (k := k) (by omega)
          have q1 : (k : Int) / 8 < (L : Int) := by omega
          obtain ⟨v, hv⟩ : ∃ v, bitOf b k = v := ⟨_, rfl⟩
          rw [hv] at hbt
          have HV := Lib.hid hv
          have HBL := Lib.hid hbel
          clear hX hv hbel
          cases v
          · go_wp2_with fail
            go_quiet ((go_at_call 36; exact Calls.quiet_of_same ((place_any k (by omega) _).mono fun _ _ ⟨he, hw⟩ => ⟨he, hw.symm⟩)))
            go_wp2
            go_roundw
            case rel =>
              refine ⟨k + 1, by omega, by omega, by go_num, fun i h1 h2 => ?_, below_drewN HBL.out _⟩
              by_cases e : i = k
              · subst e; exact HV.out
              · exact hz.out i h1 (by omega)
            case measure => simp [intOf]; omega
          · go_wp2_with fail
            go_quiet ((go_at_call 36; exact Calls.quiet_of_same ((place_any k (by omega) _).mono fun _ _ ⟨he, hw⟩ => ⟨he, hw.symm⟩)))
            go_wp2
            go_ret2
            exact ⟨rfl, below_drewN HBL.out _⟩
        · exact absurd (fun i h1 h2 => hz.out i h1 (by rw [HL.out] at h2; omega)) HT.out
    · have h1' : ((m == (L : Int)) = false) := by simpa using h1
      have h1'' : ((m != (L : Int)) = true) := by simpa using h1
      have HM := Lib.hid hm
      clear hno h1 hm
      go_enter Tryd.func28, Tryd.ntmps28
      go_wp2_with (go_at_call 35; refine (packed_any _ (by omega) (by omega) _).mono ?_; rw [HM.out]; rintro e w' ⟨rfl, rfl⟩)
      go_ret2
      exact ⟨rfl, Below.refl _ _⟩

set_option maxHeartbeats 1000000 in
theorem unpack_yes (a : Option Addr) (L c : Nat) (b : List Int) (N : Nat) (w : World) (hl : b.length = L) (hB : AllB b) (hb : Bs w w.heap.size a b) (hL : L ≤ 1099511627776)
    (hm : (N + 7) / 8 = L) (ht : tight b N) :
    Calls Tryd.prog 28 #[.slice a L c, .int .i64 (N : Nat)] w fun e w' => ∃ g, e = .returned (.tuple #[.slice (some ⟨g, 0, none⟩) N N, .bool true]) ∧
      w'.ownsRow w.heap.size 4 1 (.slice (some ⟨g, 0, none⟩) N N) N ((unpackL b N).map Value.bool) ∧ Below w.heap.size w w' := by
  have HL := Lib.hid hl
  have HT := Lib.hid ht
  have HM := Lib.hid (show ((N : Int) + 7) / 8 = (L : Int) by omega)
  have hNL : N ≤ 8 * L := by omega
  have hNM : N ≤ 9223372036854775807 := by omega
  have HM8 := Lib.hid hm
  clear hl ht hm
  go_enter Tryd.func28, Tryd.ntmps28
  go_wp2_with (go_at_call 35; refine (packed_any _ (by omega) (by omega) _).mono ?_; rw [HM.out]; rintro e w' ⟨rfl, rfl⟩)
  go_loopw [6] (fun i wr => ∃ k : Nat, N ≤ k ∧ k ≤ 8 * L ∧ i = .int .i64 k ∧ Hid (∀ i, N ≤ i → i < k → bitOf b i = false) ∧ Below w.heap.size w wr) (fun i _ => 8 * L - (intOf i).toNat)
  case atStart => exact ⟨N, Nat.le_refl _, by omega, rfl, fun i h1 h2 => absurd h1 (by omega), Below.refl _ _⟩
  case round =>
    obtain ⟨k, hNk, hk, rfl, hz, hbel⟩ := hrel
    by_cases hlt : k < 8 * L
    · obtain ⟨bb, off, rfl, hBB, hcb⟩ := (hb.below hbel).at_ (k := k / 8) (by rw [HL.out]; omega)
      obtain ⟨X, hX⟩ : ∃ X, X = b.getD (k / 8) 0 := ⟨_, rfl⟩
      have hbt := bit_test hB hX
      rw [← hX] at hcb
      obtain ⟨q3, q4, q5, q2⟩ := div8 (k := k) (by omega)
      have q1 : (k : Int) / 8 < (L : Int) := by omega
      obtain ⟨v, hv⟩ : ∃ v, bitOf b k = v := ⟨_, rfl⟩
      rw [hv] at hbt
      have HV := Lib.hid hv
      have HBL := Lib.hid hbel
      clear hX hv hbel
      cases v
      · go_wp2_with fail
        go_quiet ((go_at_call 36; exact Calls.quiet_of_same ((place_any k (by omega) _).mono fun _ _ ⟨he, hw⟩ => ⟨he, hw.symm⟩)))
        go_wp2
        go_roundw
        case rel =>
          refine ⟨k + 1, by omega, by omega, by go_num, fun i h1 h2 => ?_, below_drewN HBL.out _⟩
          by_cases e : i = k
          · subst e; exact HV.out
          · exact hz.out i h1 (by omega)
        case measure => simp [intOf]; omega
      · exact absurd (HT.out k hNk (by rw [HL.out]; exact hlt)) (by rw [HV.out]; simp)
    · clear hz
      have hNL8 : N ≤ 2 ^ 50 := by omega
      obtain ⟨V, hV⟩ : ∃ V, V = wr := ⟨wr, rfl⟩
      subst hV
      have hmk := run_make_row' (P := Tryd.prog) 52 4 (.bool false) 1 Tryd.underlying52 info4 rfl .i64 .i64 N (by omega) (by omega)
      have HO := Lib.hid (own_madeL (w := V) (e := 4) (n := N) (by unfold maxLen; omega))
      have HU := Lib.hid (length_unpackL b N)
      have hbel0 := hbel.size
      go_wp2
      go_loopw [39] (fun i wq => ∃ j : Nat, j ≤ N ∧ i = .int .i64 j ∧ wq.ownsRow V.heap.size 4 1 (.slice (some ⟨V.heap.size, 0, none⟩) N N) N ((partL (unpackL b N) j).map Value.bool) ∧ Below V.heap.size V wq) (fun i _ => N - (intOf i).toNat)
      case atStart => exact ⟨0, Nat.zero_le _, rfl, by rw [partL_zero, HU.out]; exact HO.out, (Below.refl _ _).alloc (Nat.le_refl _) _⟩
      case round =>
        obtain ⟨j, hj, rfl, hown, hbelq⟩ := hrel
        clear hmk
        by_cases hjn : j < N
        · obtain ⟨bb, off, rfl, hBB, hcb⟩ := ((hb.below hbel).below (hbelq.mono hbel0)).at_ (k := j / 8) (by rw [HL.out]; omega)
          obtain ⟨X, hX⟩ : ∃ X, X = b.getD (j / 8) 0 := ⟨_, rfl⟩
          have hbt := bit_test hB hX
          rw [← hX] at hcb
          obtain ⟨q3, q4, q5, q2⟩ := div8 (k := j) (by omega)
          have q1 : (j : Int) / 8 < (L : Int) := by omega
          have q6 : (j : Int) < (N : Int) := by omega
          have q7 : (0 : Int) ≤ (j : Int) := by omega
          have hv := unpackL_getD (b := b) hjn
          have hst := partL_set_own HU.out hjn hown
          have hb2 := hbelq.setCell (p := ⟨V.heap.size, j, none⟩) (Nat.le_refl _) (.bool ((unpackL b N).getD j false))
          rw [hv, ← hbt] at hst hb2
          have hcg := own_cellsL hown j hjn
          rw [Nat.zero_add] at hcg
          have hfz := hown.frozenAt j
          have HST := Lib.hid hst
          have HB2 := Lib.hid hb2
          clear hX hbt hv hst hb2 hown hbelq hbel
          go_wp2_with fail
          go_region_with (first | (go_at_call 36; refine (place_any j (by omega) _).mono ?_; rintro e w' ⟨rfl, rfl⟩))
          all_goals
            go_wp2
            go_roundw
            case rel => exact ⟨j + 1, by omega, by go_num, HST.out, HB2.out.drew⟩
            case measure => simp [intOf]; omega
        · obtain rfl : N = j := by omega
          go_wp2
          go_ret2
          refine ⟨_, rfl, ?_, hbel.trans (hbelq.mono hbel0)⟩
          have e := partL_all (unpackL b N)
          rw [HU.out] at e
          rw [e] at hown
          exact own_base hown hbel0
end Go.Proofs.YtadcgngiofdhcaaDoor
