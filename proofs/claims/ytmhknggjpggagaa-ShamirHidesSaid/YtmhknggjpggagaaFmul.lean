/- Contracts of the field's Mul, Log, Div, Inv, Pow; and on no field. -/
import Derived.Test.YtmhknggjpggagaaFnew
namespace Go.Proofs.Ytmhknggjpggagaa
open Go.ChangeShapes Go.WideShapes Go.ChangeAt Go.RowKit
set_option linter.unusedVariables false
set_option maxRecDepth 100000

theorem power_I (b : Nat) (n : Int) (w : World) (hf : Fld w b) (h0 : 0 ≤ n) (hn : n < 510) : Calls Try.prog 41 #[.pointer (some ⟨b, 0, none⟩), .int .i64 n] w fun e w' => e = .returned (.int .u8 (pwI n)) ∧ w = w' := by
  obtain ⟨k, rfl⟩ := Int.eq_ofNat_of_zero_le h0
  exact power_N b k w hf (by omega)
theorem mul_N (b x y : Nat) (w : World) (hf : Fld w b) (hx : x < 256) (hy : y < 256) : Calls Try.prog 25 #[.pointer (some ⟨b, 0, none⟩), .int .u8 (x : Nat), .int .u8 (y : Nat)] w fun e w' => e = .returned (.int .u8 ((gm x y : Nat) : Int)) ∧ w = w' := by
  by_cases h0 : x = 0
  · subst h0
    have H := Lib.hid (zero_gm y)
    go_enter Try.func25, Try.ntmps25
    go_wp2
    go_ret
    exact ⟨ret_int (by rw [H.out]; rfl), rfl⟩
  by_cases h1 : y = 0
  · subst h1
    have H := Lib.hid (gm_zero x)
    have q1 : ((x : Int) == 0) = false := by rw [beq_eq_false_iff_ne]; omega
    go_enter Try.func25, Try.ntmps25
    go_wp2
    go_ret
    exact ⟨ret_int (by rw [H.out]; rfl), rfl⟩
  have H := Lib.hid (gm_nz h0 h1)
  have hlx := (pw_lg hx h0).2
  have hly := (pw_lg hy h1).2
  have q1 : ((x : Int) == 0) = false := by rw [beq_eq_false_iff_ne]; omega
  have q2 : ((y : Int) == 0) = false := by rw [beq_eq_false_iff_ne]; omega
  clear h0 h1
  go_enter Try.func25, Try.ntmps25
  go_wp2_with (first | (go_at_call 42; refine (log_N _ _ _ hf (by assumption)).mono ?_; rintro e w' ⟨rfl, rfl⟩) | (go_at_call 41; refine (power_I _ _ _ hf (by omega) (by omega)).mono ?_; rintro e w' ⟨rfl, rfl⟩))
  go_ret
  refine ⟨ret_int ?_, rfl⟩
  rw [H.out]; unfold pwI
  rw [show ((lg x : Int) + (lg y : Int)).toNat = lg x + lg y by omega]
theorem mul_nil (x y : Int) (w : World) : Calls Try.prog 25 #[.pointer none, .int .u8 x, .int .u8 y] w fun e w' => e = .returned (.int .u8 0) ∧ w = w' := by
  go_enter Try.func25, Try.ntmps25
  go_wp2
  go_ret
  exact ⟨rfl, rfl⟩

theorem log_ok (b x : Nat) (w : World) (hf : Fld w b) (hx : x < 256) (h0 : x ≠ 0) : Calls Try.prog 51 #[.pointer (some ⟨b, 0, none⟩), .int .u8 (x : Nat)] w fun e w' => e = .returned (.tuple #[.int .i64 ((lg x : Nat) : Int), .int .i64 0]) ∧ w = w' := by
  have q1 : ((x : Int) == 0) = false := by rw [beq_eq_false_iff_ne]; omega
  clear h0
  go_enter Try.func51, Try.ntmps51
  go_wp2_with (go_at_call 42; refine (log_N _ _ _ hf (by assumption)).mono ?_; rintro e w' ⟨rfl, rfl⟩)
  go_ret2
  exact ⟨rfl, rfl⟩
theorem log_zero (b : Nat) (w : World) : Calls Try.prog 51 #[.pointer (some ⟨b, 0, none⟩), .int .u8 0] w fun e w' => e = .returned (.tuple #[.int .i64 0, .int .i64 7]) ∧ w = w' := by
  go_enter Try.func51, Try.ntmps51
  go_wp2
  go_ret2
  exact ⟨rfl, rfl⟩
theorem log_nil (x : Int) (w : World) : Calls Try.prog 51 #[.pointer none, .int .u8 x] w fun e w' => e = .returned (.tuple #[.int .i64 0, .int .i64 1]) ∧ w = w' := by
  go_enter Try.func51, Try.ntmps51
  go_wp2
  go_ret2
  exact ⟨rfl, rfl⟩

theorem div_ok (b x y : Nat) (w : World) (hf : Fld w b) (hx : x < 256) (hy : y < 256) (h1 : y ≠ 0) : Calls Try.prog 40 #[.pointer (some ⟨b, 0, none⟩), .int .u8 (x : Nat), .int .u8 (y : Nat)] w fun e w' => e = .returned (.tuple #[.int .u8 ((gm x (inv y) : Nat) : Int), .int .i64 0]) ∧ w = w' := by
  have hly := (pw_lg hy h1).2
  by_cases h0 : x = 0
  · subst h0
    have H := Lib.hid (zero_gm (inv y))
    go_enter Try.func40, Try.ntmps40
    go_wp2_with (go_at_call 51; refine (log_ok _ _ _ hf hy h1).mono ?_; rintro e w' ⟨rfl, rfl⟩)
    go_ret2
    rw [H.out]
    exact ⟨rfl, rfl⟩
  have H := Lib.hid (quo_eq (a := x) hy h0 h1)
  have hlx := (pw_lg hx h0).2
  have q1 : ((x : Int) == 0) = false := by rw [beq_eq_false_iff_ne]; omega
  clear h0
  go_enter Try.func40, Try.ntmps40
  go_wp2_with (first | (go_at_call 51; refine (log_ok _ _ _ hf hy h1).mono ?_; rintro e w' ⟨rfl, rfl⟩) | (go_at_call 42; refine (log_N _ _ _ hf (by assumption)).mono ?_; rintro e w' ⟨rfl, rfl⟩) | (go_at_call 41; refine (power_I _ _ _ hf (by omega) (by omega)).mono ?_; rintro e w' ⟨rfl, rfl⟩))
  go_ret2
  refine ⟨?_, rfl⟩
  rw [← H.out]; unfold pwI
  rw [show ((lg x : Int) + 255 - (lg y : Int)).toNat = lg x + 255 - lg y by omega]
  rfl
theorem div_zero (b : Nat) (x : Int) (w : World) : Calls Try.prog 40 #[.pointer (some ⟨b, 0, none⟩), .int .u8 x, .int .u8 0] w fun e w' => e = .returned (.tuple #[.int .u8 0, .int .i64 7]) ∧ w = w' := by
  go_enter Try.func40, Try.ntmps40
  go_wp2_with (go_at_call 51; refine (log_zero _ _).mono ?_; rintro e w' ⟨rfl, rfl⟩)
  go_ret2
  exact ⟨rfl, rfl⟩
theorem div_nil (x y : Int) (w : World) : Calls Try.prog 40 #[.pointer none, .int .u8 x, .int .u8 y] w fun e w' => e = .returned (.tuple #[.int .u8 0, .int .i64 1]) ∧ w = w' := by
  go_enter Try.func40, Try.ntmps40
  go_wp2_with (go_at_call 51; refine (log_nil _ _).mono ?_; rintro e w' ⟨rfl, rfl⟩)
  go_ret2
  exact ⟨rfl, rfl⟩

theorem inv_ok (b x : Nat) (w : World) (hf : Fld w b) (hx : x < 256) (h0 : x ≠ 0) : Calls Try.prog 24 #[.pointer (some ⟨b, 0, none⟩), .int .u8 (x : Nat)] w fun e w' => e = .returned (.tuple #[.int .u8 ((inv x : Nat) : Int), .int .i64 0]) ∧ w = w' := by
  have H := Lib.hid (show gm 1 (inv x) = inv x by rw [gm_comm]; exact gm_one (inv_lt x))
  go_enter Try.func24, Try.ntmps24
  go_wp2_with (go_at_call 40; refine (div_ok _ 1 _ _ hf (by decide) hx h0).mono ?_; rintro e w' ⟨rfl, rfl⟩)
  go_ret2
  rw [H.out]
  exact ⟨rfl, rfl⟩
theorem inv_zero (b : Nat) (w : World) : Calls Try.prog 24 #[.pointer (some ⟨b, 0, none⟩), .int .u8 0] w fun e w' => e = .returned (.tuple #[.int .u8 0, .int .i64 7]) ∧ w = w' := by
  go_enter Try.func24, Try.ntmps24
  go_wp2_with (go_at_call 40; refine (div_zero _ _ _).mono ?_; rintro e w' ⟨rfl, rfl⟩)
  go_ret2
  exact ⟨rfl, rfl⟩
theorem inv_nil (x : Int) (w : World) : Calls Try.prog 24 #[.pointer none, .int .u8 x] w fun e w' => e = .returned (.tuple #[.int .u8 0, .int .i64 1]) ∧ w = w' := by
  go_enter Try.func24, Try.ntmps24
  go_wp2_with (go_at_call 40; refine (div_nil _ _ _).mono ?_; rintro e w' ⟨rfl, rfl⟩)
  go_ret2
  exact ⟨rfl, rfl⟩

end Go.Proofs.Ytmhknggjpggagaa
