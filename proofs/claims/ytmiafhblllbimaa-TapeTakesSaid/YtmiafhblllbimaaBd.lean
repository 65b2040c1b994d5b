/- The walk of TapeLong under the contracts. -/
import Derived.Test.YtmiafhblllbimaaBb
namespace Go.Proofs.Ytmiafhblllbimaa
open Go.ChangeShapes Go.WideShapes Go.ChangeAt Go.RowKit Go.Shelf
set_option linter.unusedVariables false
set_option linter.unusedSimpArgs false
set_option maxRecDepth 100000

theorem mod_natT (n d : Int) (h1 : 1 ≤ d) (h2 : d ≤ 2147483648) : ∃ N : Nat, (N : Int) < d ∧ wrap64 ((IntKind.u64.wrap n).tmod d) = (N : Int) := by
  have h0 : 0 ≤ IntKind.u64.wrap n ∧ IntKind.u64.wrap n < 18446744073709551616 := by rw [IntKind.wrap_u64]; omega
  have e : (IntKind.u64.wrap n).tmod d = (IntKind.u64.wrap n) % d := Int.tmod_eq_emod_of_nonneg h0.1
  rw [e]
  have l1 := Int.emod_nonneg (IntKind.u64.wrap n) (show d ≠ 0 by omega)
  have l2 := Int.emod_lt_of_pos (IntKind.u64.wrap n) (show 0 < d by omega)
  obtain ⟨x, hx⟩ : ∃ x, x = IntKind.u64.wrap n % d := ⟨_, rfl⟩
  rw [← hx] at l1 l2 ⊢
  clear hx e h0
  exact ⟨x.toNat, by omega, by unfold wrap64; omega⟩
set_option maxHeartbeats 2000000 in
theorem tapeLong_any {R : World → Nat → (Nat → Prop) → List Int → Nat → List TK → Prop} {It : World → Value → List TK → Prop} (hM : TapeM R It) (n : Int) (w : World) :
    Calls Try.prog 4 #[.int .i64 n] w fun e w' => e = .returned (.bool true) ∧ Below w.heap.size w w' := by
  have HM := Lib.hid hM
  clear hM
  obtain ⟨r, hr1, hr⟩ := mod_natT n 5 (by omega) (by omega)
  go_enter Try.func4, Try.ntmps4
  go_upto_region 3 with (go_at_call 5; go_loud (refine (lives12 HM.out w).mono ?_; rintro e w1 ⟨rfl, hb⟩; have HB1 := Lib.hid hb; clear hb))
  go_upto_region 4 with fail
  rw [hr]
  obtain ⟨N, hN⟩ : ∃ N : Nat, N = 1048574 + r := ⟨_, rfl⟩
  rw [show (1048574 : Int) + (r : Int) = (N : Int) by omega]
  have HN := Lib.hid (show N ≤ 1048578 by omega)
  have hmk := run_make_row' (P := Try.prog) 22 5 (.int .u8 0) 1 Try.underlying22 info5 rfl .i64 .i64 N (by omega) (by omega)
  have HZB := Lib.hid (show AllB (List.replicate N 0) from fun x hx => by obtain ⟨_, rfl⟩ := List.mem_replicate.1 hx; omega)
  have HZL := Lib.hid (show (List.replicate N (0 : Int)).length = N from List.length_replicate)
  have HA := Lib.hid (own_any (own_made (w := w1) (e := 5) (n := N) (by unfold maxLen; omega)) HZB.out)
  have HBA := Lib.hid (show Below w1.heap.size w1 (w1.alloc (.cells (madeCells #[.int .u8 0] N) 5)) from (Below.refl _ _).alloc (Nat.le_refl _) _)
  obtain ⟨Z, hZ⟩ : ∃ Z, Z = List.replicate N (0 : Int) := ⟨_, rfl⟩
  rw [← hZ] at HZB HZL HA
  by_cases hc : N ≤ 1048576
  · have HNW := Lib.hid (HM.out.new (some ⟨w1.heap.size, 0, none⟩) N N Z _ HA.out hc)
    have q1 : (N : Int) ≤ 1048576 := by omega
    clear hr hr1 hN hZ
    go_upto_region 5 with (go_at_call 6; go_loud ((with_reducible refine HNW.out.mono ?_); rintro e w2 ⟨tb, F, rfl, hrr, hf, hb⟩; have HR2 := Lib.hid hrr; have HB2 := Lib.hid (bt HB1.out (bt HBA.out hb)); clear hrr hf hb))
    have HLE := Lib.hid (HM.out.left tb F Z 0 [] w2 HR2.out (Nat.zero_le _) (by rw [HZL.out]; exact hc))
    rw [HZL.out, Nat.sub_zero] at HLE
    clear hmk hc
    go_wp2_with (go_at_call 9; go_loud ((with_reducible refine HLE.out.mono ?_); rintro e w3 ⟨rfl, hb⟩; have HB3 := Lib.hid (bt HB2.out hb); clear hb))
    go_ret
    exact ⟨rfl, HB3.out⟩
  · have HNW := Lib.hid (HM.out.newLong (some ⟨w1.heap.size, 0, none⟩) N N Z _ HA.out (by omega))
    have q1 : ¬ (N : Int) ≤ 1048576 := by omega
    have q2 : (1048576 : Int) < (N : Int) := by omega
    clear hr hr1 hN hZ
    go_upto_region 5 with (go_at_call 6; go_loud ((with_reducible refine HNW.out.mono ?_); rintro e w2 ⟨rfl, hb⟩; have HB2 := Lib.hid (bt HB1.out (bt HBA.out hb)); clear hb))
    clear hmk hc
    go_wp2_with fail
    go_ret
    exact ⟨rfl, HB2.out⟩
end Go.Proofs.Ytmiafhblllbimaa
