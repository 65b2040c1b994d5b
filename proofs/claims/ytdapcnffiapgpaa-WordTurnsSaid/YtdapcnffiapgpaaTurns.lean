/- The walk of WordTurns: turns at four widths, and the law. -/
import Derived.Test.YtdapcnffiapgpaaLives
import Derived.Test.YtdapcnffiapgpaaOnes
import Derived.Test.YtdapcnffiapgpaaRef
namespace Go.Proofs.Ytdapcnffiapgpaa
open Go.ChangeShapes Go.WideShapes Go.ChangeAt Go.RowKit
set_option linter.unusedVariables false

theorem rot_zero {k X : Nat} (hX : X < 2 ^ k) : rot k X 0 = X := by
  unfold rot
  simp [Nat.mod_eq_of_lt hX, Nat.div_eq_of_lt hX]
theorem rotI_back {k X : Nat} {n : Int} (hX : X < 2 ^ k) (hk : 0 < k) : rotI k (rotI k X n) (-(n.tmod k)) = X := by
  rw [rotI_rotI (by omega) (by exact_mod_cast hX) hk]
  unfold rotI
  have e : (n + -(n.tmod (k : Int))) % (k : Int) = 0 := by
    have := Int.tmod_add_mul_tdiv n k
    rw [show n + -(n.tmod (k : Int)) = (k : Int) * n.tdiv k by omega]
    exact Int.mul_emod_right _ _
  rw [e, Int.toNat_natCast, Int.toNat_zero, rot_zero hX]
theorem pop_rotI {k X : Nat} {n : Int} (hX : X < 2 ^ k) (hk : 0 < k) (hm : k ≤ 64) : pop 64 (rotI k X n).toNat = pop 64 X := by
  unfold rotI
  rw [Int.toNat_natCast, Int.toNat_natCast, pop_more (rot_lt hX) hm, pop_more hX hm, pop_rot hX hk]

theorem turns8 (x n : Int) (wx : (Lit.int .u8 x).wf = true) (wn : (Lit.int .i64 n).wf = true) (w : World) : Calls Try.prog 17 #[.int .u8 x, .int .i64 n] w fun e w' => e = .returned (.bool true) ∧ ∃ j, w' = w.drewN j := by
  obtain ⟨x0, x1⟩ := wf_u8 wx
  obtain ⟨X, rfl⟩ := Int.eq_ofNat_of_zero_le x0
  have hX : X < 2 ^ 8 := by exact_mod_cast x1
  have hX2 : X < 2 ^ 64 := Nat.lt_of_lt_of_le hX (by decide)
  obtain ⟨Y, hY⟩ : ∃ Y : Nat, rotI 8 X n = Y := ⟨_, rfl⟩
  have hYl : Y < 2 ^ 8 := by
    have := rotI_lt n x0 x1
    rw [hY] at this; exact_mod_cast this
  have hYl2 : Y < 256 := hYl
  have hXl2 : X < 256 := hX
  have y64 : (Lit.int .u64 (Y : Int)).wf = true := mk_u64 (by omega) (by omega)
  have x64 : (Lit.int .u64 (X : Int)).wf = true := mk_u64 (by omega) (by omega)
  have wy : (Lit.int .u8 (Y : Int)).wf = true := mk_u8 (by omega) (by omega)
  have t0 : -8 < n.tmod 8 := Int.lt_tmod_of_pos _ (by omega)
  have t1 : n.tmod 8 < 8 := Int.tmod_lt_of_pos _ (by omega)
  have wt : (Lit.int .i64 (-(n.tmod 8))).wf = true := mk_i64 (by omega) (by omega)
  have back : rotI 8 Y (-(n.tmod 8)) = X := by rw [← hY]; exact rotI_back hX (by omega)
  have hp : pop 64 Y = pop 64 X := by
    have := pop_rotI (n := n) hX (by omega) (by omega)
    rw [hY] at this; exact this
  have hp2 := pop_le 64 X
  go_enter Try.func17, Try.ntmps17
  go_wp2_with (first
    | (go_at_call 27; refine (bits8 _).mono ?_; rintro e w' ⟨rfl, rfl⟩)
    | (go_at_call 9; refine (turn8 _ _ (by assumption) (by assumption) _).mono ?_; rintro e w' ⟨rfl, j, rfl⟩)
    | (go_at_call 40; refine (refTurn8 X n hX wn _).mono ?_; rintro e w' ⟨rfl, rfl⟩)
    | (go_at_call 41; refine (count8 _ (by assumption) _).mono ?_; rintro e w' ⟨rfl, rfl⟩)
    | (go_at_call 42; refine (refCount X hX2 _).mono ?_; rintro e w' ⟨rfl, rfl⟩))
  go_ret
  exact ⟨rfl, _, rfl⟩

theorem turns16 (x n : Int) (wx : (Lit.int .u16 x).wf = true) (wn : (Lit.int .i64 n).wf = true) (w : World) : Calls Try.prog 18 #[.int .u16 x, .int .i64 n] w fun e w' => e = .returned (.bool true) ∧ ∃ j, w' = w.drewN j := by
  obtain ⟨x0, x1⟩ := wf_u16 wx
  obtain ⟨X, rfl⟩ := Int.eq_ofNat_of_zero_le x0
  have hX : X < 2 ^ 16 := by exact_mod_cast x1
  have hX2 : X < 2 ^ 64 := Nat.lt_of_lt_of_le hX (by decide)
  obtain ⟨Y, hY⟩ : ∃ Y : Nat, rotI 16 X n = Y := ⟨_, rfl⟩
  have hYl : Y < 2 ^ 16 := by
    have := rotI_lt n x0 x1
    rw [hY] at this; exact_mod_cast this
  have hYl2 : Y < 65536 := hYl
  have hXl2 : X < 65536 := hX
  have y64 : (Lit.int .u64 (Y : Int)).wf = true := mk_u64 (by omega) (by omega)
  have x64 : (Lit.int .u64 (X : Int)).wf = true := mk_u64 (by omega) (by omega)
  have wy : (Lit.int .u16 (Y : Int)).wf = true := mk_u16 (by omega) (by omega)
  have t0 : -16 < n.tmod 16 := Int.lt_tmod_of_pos _ (by omega)
  have t1 : n.tmod 16 < 16 := Int.tmod_lt_of_pos _ (by omega)
  have wt : (Lit.int .i64 (-(n.tmod 16))).wf = true := mk_i64 (by omega) (by omega)
  have back : rotI 16 Y (-(n.tmod 16)) = X := by rw [← hY]; exact rotI_back hX (by omega)
  have hp : pop 64 Y = pop 64 X := by
    have := pop_rotI (n := n) hX (by omega) (by omega)
    rw [hY] at this; exact this
  have hp2 := pop_le 64 X
  go_enter Try.func18, Try.ntmps18
  go_wp2_with (first
    | (go_at_call 28; refine (bits16 _).mono ?_; rintro e w' ⟨rfl, rfl⟩)
    | (go_at_call 10; refine (turn16 _ _ (by assumption) (by assumption) _).mono ?_; rintro e w' ⟨rfl, j, rfl⟩)
    | (go_at_call 40; refine (refTurn16 X n hX wn _).mono ?_; rintro e w' ⟨rfl, rfl⟩)
    | (go_at_call 43; refine (count16 _ (by assumption) _).mono ?_; rintro e w' ⟨rfl, rfl⟩)
    | (go_at_call 42; refine (refCount X hX2 _).mono ?_; rintro e w' ⟨rfl, rfl⟩))
  go_ret
  exact ⟨rfl, _, rfl⟩

theorem turns32 (x n : Int) (wx : (Lit.int .u32 x).wf = true) (wn : (Lit.int .i64 n).wf = true) (w : World) : Calls Try.prog 19 #[.int .u32 x, .int .i64 n] w fun e w' => e = .returned (.bool true) ∧ ∃ j, w' = w.drewN j := by
  obtain ⟨x0, x1⟩ := wf_u32 wx
  obtain ⟨X, rfl⟩ := Int.eq_ofNat_of_zero_le x0
  have hX : X < 2 ^ 32 := by exact_mod_cast x1
  have hX2 : X < 2 ^ 64 := Nat.lt_of_lt_of_le hX (by decide)
  obtain ⟨Y, hY⟩ : ∃ Y : Nat, rotI 32 X n = Y := ⟨_, rfl⟩
  have hYl : Y < 2 ^ 32 := by
    have := rotI_lt n x0 x1
    rw [hY] at this; exact_mod_cast this
  have hYl2 : Y < 4294967296 := hYl
  have hXl2 : X < 4294967296 := hX
  have y64 : (Lit.int .u64 (Y : Int)).wf = true := mk_u64 (by omega) (by omega)
  have x64 : (Lit.int .u64 (X : Int)).wf = true := mk_u64 (by omega) (by omega)
  have wy : (Lit.int .u32 (Y : Int)).wf = true := mk_u32 (by omega) (by omega)
  have t0 : -32 < n.tmod 32 := Int.lt_tmod_of_pos _ (by omega)
  have t1 : n.tmod 32 < 32 := Int.tmod_lt_of_pos _ (by omega)
  have wt : (Lit.int .i64 (-(n.tmod 32))).wf = true := mk_i64 (by omega) (by omega)
  have back : rotI 32 Y (-(n.tmod 32)) = X := by rw [← hY]; exact rotI_back hX (by omega)
  have hp : pop 64 Y = pop 64 X := by
    have := pop_rotI (n := n) hX (by omega) (by omega)
    rw [hY] at this; exact this
  have hp2 := pop_le 64 X
  go_enter Try.func19, Try.ntmps19
  go_wp2_with (first
    | (go_at_call 29; refine (bits32 _).mono ?_; rintro e w' ⟨rfl, rfl⟩)
    | (go_at_call 11; refine (turn32 _ _ (by assumption) (by assumption) _).mono ?_; rintro e w' ⟨rfl, j, rfl⟩)
    | (go_at_call 40; refine (refTurn32 X n hX wn _).mono ?_; rintro e w' ⟨rfl, rfl⟩)
    | (go_at_call 44; refine (count32 _ (by assumption) _).mono ?_; rintro e w' ⟨rfl, rfl⟩)
    | (go_at_call 42; refine (refCount X hX2 _).mono ?_; rintro e w' ⟨rfl, rfl⟩))
  go_ret
  exact ⟨rfl, _, rfl⟩

theorem turns64 (x n : Int) (wx : (Lit.int .u64 x).wf = true) (wn : (Lit.int .i64 n).wf = true) (w : World) : Calls Try.prog 20 #[.int .u64 x, .int .i64 n] w fun e w' => e = .returned (.bool true) ∧ ∃ j, w' = w.drewN j := by
  obtain ⟨x0, x1⟩ := wf_u64 wx
  obtain ⟨X, rfl⟩ := Int.eq_ofNat_of_zero_le x0
  have hX : X < 2 ^ 64 := by exact_mod_cast x1
  have hX2 : X < 2 ^ 64 := Nat.lt_of_lt_of_le hX (by decide)
  obtain ⟨Y, hY⟩ : ∃ Y : Nat, rotI 64 X n = Y := ⟨_, rfl⟩
  have hYl : Y < 2 ^ 64 := by
    have := rotI_lt n x0 x1
    rw [hY] at this; exact_mod_cast this
  have hYl2 : Y < 18446744073709551616 := hYl
  have hXl2 : X < 18446744073709551616 := hX
  have y64 : (Lit.int .u64 (Y : Int)).wf = true := mk_u64 (by omega) (by omega)
  have x64 : (Lit.int .u64 (X : Int)).wf = true := mk_u64 (by omega) (by omega)
  have wy : (Lit.int .u64 (Y : Int)).wf = true := mk_u64 (by omega) (by omega)
  have t0 : -64 < n.tmod 64 := Int.lt_tmod_of_pos _ (by omega)
  have t1 : n.tmod 64 < 64 := Int.tmod_lt_of_pos _ (by omega)
  have wt : (Lit.int .i64 (-(n.tmod 64))).wf = true := mk_i64 (by omega) (by omega)
  have back : rotI 64 Y (-(n.tmod 64)) = X := by rw [← hY]; exact rotI_back hX (by omega)
  have hp : pop 64 Y = pop 64 X := by
    have := pop_rotI (n := n) hX (by omega) (by omega)
    rw [hY] at this; exact this
  have hp2 := pop_le 64 X
  go_enter Try.func20, Try.ntmps20
  go_wp2_with (first
    | (go_at_call 30; refine (bits64 _).mono ?_; rintro e w' ⟨rfl, rfl⟩)
    | (go_at_call 12; refine (turn64 _ _ (by assumption) (by assumption) _).mono ?_; rintro e w' ⟨rfl, j, rfl⟩)
    | (go_at_call 40; refine (refTurn64 X n hX wn _).mono ?_; rintro e w' ⟨rfl, rfl⟩)
    | (go_at_call 45; refine (count64 _ (by assumption) _).mono ?_; rintro e w' ⟨rfl, rfl⟩)
    | (go_at_call 42; refine (refCount X hX2 _).mono ?_; rintro e w' ⟨rfl, rfl⟩))
  go_ret
  exact ⟨rfl, _, rfl⟩

theorem wordTurns_walk (a0 : Int) (a1 : Int) (w0 : (Lit.int .u64 a0).wf = true) (w1 : (Lit.int .i64 a1).wf = true) (w : World) :
    Calls Try.prog 5 #[.int .u64 a0, .int .i64 a1] w fun e w' => e = .returned (.bool true) ∧ Below w.heap.size w w' := by
  obtain ⟨x0, x1⟩ := wf_u64 w0
  have x2 : a0 < 18446744073709551616 := x1
  have g8 : (Lit.int .u8 (a0 % 256)).wf = true := mk_u8 (by omega) (by omega)
  have g16 : (Lit.int .u16 (a0 % 65536)).wf = true := mk_u16 (by omega) (by omega)
  have g32 : (Lit.int .u32 (a0 % 4294967296)).wf = true := mk_u32 (by omega) (by omega)
  go_enter Try.func5, Try.ntmps5
  go_wp2_with (first
    | (go_at_call 8; refine (lives_any _).mono ?_; rintro e w' ⟨rfl, hbel⟩)
    | (go_at_call 17; refine (turns8 _ _ (by assumption) w1 _).mono ?_; rintro e w' ⟨rfl, j, rfl⟩)
    | (go_at_call 18; refine (turns16 _ _ (by assumption) w1 _).mono ?_; rintro e w' ⟨rfl, j, rfl⟩)
    | (go_at_call 19; refine (turns32 _ _ (by assumption) w1 _).mono ?_; rintro e w' ⟨rfl, j, rfl⟩)
    | (go_at_call 20; refine (turns64 _ _ (by assumption) w1 _).mono ?_; rintro e w' ⟨rfl, j, rfl⟩))
  go_ret
  refine ⟨rfl, ?_⟩
  repeat (first | exact hbel | apply below_drewN)
end Go.Proofs.Ytdapcnffiapgpaa
