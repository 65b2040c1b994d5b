/- Contract of the document's own Box (layer 5). -/
import Derived.Test.YtpfhfnhbholboaaFref
import Derived.Test.YtpfhfnhbholboaaKw
import Derived.Test.YtpfhfnhbholboaaKmath
import Derived.Deep.QuietTactic
import Derived.BigQuiet
namespace Go.Proofs.Ytpfhfnhbholboaa
open Go.ChangeShapes Go.WideShapes Go.ChangeAt Go.RowKit
set_option linter.unusedVariables false
set_option linter.unusedSimpArgs false
set_option maxRecDepth 100000

/-- One bit of what the box makes of v, and the first ones. -/
def bxBit (v i : Nat) : Nat := (((((v / 2 ^ i % 2) ^^^ (v / 2 ^ ((i + 4) % 8) % 2)) ^^^ (v / 2 ^ ((i + 5) % 8) % 2)) ^^^ (v / 2 ^ ((i + 6) % 8) % 2)) ^^^ (v / 2 ^ ((i + 7) % 8) % 2)) ^^^ (99 / 2 ^ i % 2)
def bxOut (v : Nat) : Nat → Nat
  | 0 => 0
  | i + 1 => bxOut v i + bxBit v i * 2 ^ i
theorem k_bxOut : allLt 256 (fun v => bxOut v 8 == aff v) = true := by decide +kernel
set_option maxHeartbeats 4000000 in
theorem refBox_N (x : Nat) (hx : x < 256) (w : World) : Calls Try.prog 36 #[.int .u8 (x : Nat)] w fun e w' => e = .returned (.int .u8 ((box x : Nat) : Int)) ∧ ∃ n, w' = w.drewN n := by
  have HI := Lib.hid (refInv_N x hx)
  have hV := inv_lt x
  have HB := Lib.hid (show box x = aff (inv x) from rfl)
  obtain ⟨V, hVV⟩ : ∃ V, V = inv x := ⟨_, rfl⟩
  rw [← hVV] at HI hV HB
  clear hVV
  go_enter Try.func36, Try.ntmps36
  go_wp2_with (go_at_call 55; (with_reducible refine (HI.out w).mono ?_); rintro e w' ⟨rfl, rfl⟩)
  go_loopw [4, 5] (fun o q wr => ∃ i n : Nat, i ≤ 8 ∧ q = .int .i64 (i : Nat) ∧ o = .int .u8 ((bxOut V i : Nat) : Int) ∧ wr = w.drewN n) (fun _ q _ => 8 - (intOf q).toNat)
  case atStart => exact ⟨0, 0, by omega, rfl, rfl, rfl⟩
  case round =>
    obtain ⟨i, n, hi, rfl, rfl, rfl⟩ := hrel
    by_cases hlt : i < 8
    · have hc : i = 0 ∨ i = 1 ∨ i = 2 ∨ i = 3 ∨ i = 4 ∨ i = 5 ∨ i = 6 ∨ i = 7 := by omega
      clear hlt hi
      have hV2 : (V : Int) < 256 := by omega
      rcases hc with rfl | rfl | rfl | rfl | rfl | rfl | rfl | rfl
      · go_wp2_with fail
        go_quiet (fail)
        go_wp2
        refine ⟨⟨1, _, by omega, rfl, congrArg (Value.int .u8) ?_, rfl⟩, by simp [intOf]⟩
        clear HB HI hV2
        revert V
        decide +kernel
      · go_wp2_with fail
        go_quiet (fail)
        go_wp2
        refine ⟨⟨2, _, by omega, rfl, congrArg (Value.int .u8) ?_, rfl⟩, by simp [intOf]⟩
        clear HB HI hV2
        revert V
        decide +kernel
      · go_wp2_with fail
        go_quiet (fail)
        go_wp2
        refine ⟨⟨3, _, by omega, rfl, congrArg (Value.int .u8) ?_, rfl⟩, by simp [intOf]⟩
        clear HB HI hV2
        revert V
        decide +kernel
      · go_wp2_with fail
        go_quiet (fail)
        go_wp2
        refine ⟨⟨4, _, by omega, rfl, congrArg (Value.int .u8) ?_, rfl⟩, by simp [intOf]⟩
        clear HB HI hV2
        revert V
        decide +kernel
      · go_wp2_with fail
        go_quiet (fail)
        go_wp2
        refine ⟨⟨5, _, by omega, rfl, congrArg (Value.int .u8) ?_, rfl⟩, by simp [intOf]⟩
        clear HB HI hV2
        revert V
        decide +kernel
      · go_wp2_with fail
        go_quiet (fail)
        go_wp2
        refine ⟨⟨6, _, by omega, rfl, congrArg (Value.int .u8) ?_, rfl⟩, by simp [intOf]⟩
        clear HB HI hV2
        revert V
        decide +kernel
      · go_wp2_with fail
        go_quiet (fail)
        go_wp2
        refine ⟨⟨7, _, by omega, rfl, congrArg (Value.int .u8) ?_, rfl⟩, by simp [intOf]⟩
        clear HB HI hV2
        revert V
        decide +kernel
      · go_wp2_with fail
        go_quiet (fail)
        go_wp2
        refine ⟨⟨8, _, by omega, rfl, congrArg (Value.int .u8) ?_, rfl⟩, by simp [intOf]⟩
        clear HB HI hV2
        revert V
        decide +kernel
    · obtain rfl : i = 8 := by omega
      have hk := allLt_at k_bxOut V hV
      have hk2 : bxOut V 8 = aff V := eq_of_beq hk
      have HK := Lib.hid hk2
      clear hk hk2
      go_wp2
      go_ret
      exact ⟨ret_int (by rw [HK.out, HB.out]), n, rfl⟩
end Go.Proofs.Ytpfhfnhbholboaa
