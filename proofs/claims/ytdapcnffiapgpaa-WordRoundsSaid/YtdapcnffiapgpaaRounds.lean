import Derived.Test.YtdapcnffiapgpaaLives
namespace Go.Proofs.Ytdapcnffiapgpaa
open Go.ChangeShapes Go.WideShapes Go.ChangeAt Go.RowKit
set_option linter.unusedVariables false

theorem wordRounds_walk (a0 : Int) (a1 : Int) (a2 : Int) (w0 : (Lit.int .u64 a0).wf = true) (w1 : (Lit.int .i64 a1).wf = true) (w2 : (Lit.int .i64 a2).wf = true) (w : World) :
    Calls Try.prog 3 #[.int .u64 a0, .int .i64 a1, .int .i64 a2] w fun e w' => e = .returned (.bool true) ∧ Below w.heap.size w w' := by
  obtain ⟨x0, x1⟩ := wf_u64 w0
  obtain ⟨n0, n1⟩ := wf_i64 w1
  obtain ⟨m0, m1⟩ := wf_i64 w2
  clear w0 w1 w2
  have x2 : a0 < 18446744073709551616 := x1
  have b1 : -1000 < a1.tmod 1000 := Int.lt_tmod_of_pos _ (by omega)
  have b2 : a1.tmod 1000 < 1000 := Int.tmod_lt_of_pos _ (by omega)
  have b3 : -1000 < a2.tmod 1000 := Int.lt_tmod_of_pos _ (by omega)
  have b4 : a2.tmod 1000 < 1000 := Int.tmod_lt_of_pos _ (by omega)
  have f1 : (Lit.int .i64 (a1.tmod 1000)).wf = true := mk_i64 (by omega) (by omega)
  have f2 : (Lit.int .i64 (a2.tmod 1000)).wf = true := mk_i64 (by omega) (by omega)
  have f3 : (Lit.int .i64 (a1.tmod 1000 + a2.tmod 1000)).wf = true := mk_i64 (by omega) (by omega)
  have g8 : (Lit.int .u8 (a0 % 256)).wf = true := mk_u8 (by omega) (by omega)
  have h8 : (Lit.int .u8 (rotI 8 (a0 % 256) (a1.tmod 1000))).wf = true := mk_u8 (rotI_nonneg _ _ _) (rotI_lt _ (by omega) (by omega))
  have e8 : rotI 8 (rotI 8 (a0 % 256) (a1.tmod 1000)) (a2.tmod 1000) = rotI 8 (a0 % 256) (a1.tmod 1000 + a2.tmod 1000) := rotI_rotI (by omega) (by omega) (by omega)
  have g16 : (Lit.int .u16 (a0 % 65536)).wf = true := mk_u16 (by omega) (by omega)
  have h16 : (Lit.int .u16 (rotI 16 (a0 % 65536) (a1.tmod 1000))).wf = true := mk_u16 (rotI_nonneg _ _ _) (rotI_lt _ (by omega) (by omega))
  have e16 : rotI 16 (rotI 16 (a0 % 65536) (a1.tmod 1000)) (a2.tmod 1000) = rotI 16 (a0 % 65536) (a1.tmod 1000 + a2.tmod 1000) := rotI_rotI (by omega) (by omega) (by omega)
  have g32 : (Lit.int .u32 (a0 % 4294967296)).wf = true := mk_u32 (by omega) (by omega)
  have h32 : (Lit.int .u32 (rotI 32 (a0 % 4294967296) (a1.tmod 1000))).wf = true := mk_u32 (rotI_nonneg _ _ _) (rotI_lt _ (by omega) (by omega))
  have e32 : rotI 32 (rotI 32 (a0 % 4294967296) (a1.tmod 1000)) (a2.tmod 1000) = rotI 32 (a0 % 4294967296) (a1.tmod 1000 + a2.tmod 1000) := rotI_rotI (by omega) (by omega) (by omega)
  have g64 : (Lit.int .u64 a0).wf = true := mk_u64 (by omega) (by omega)
  have h64 : (Lit.int .u64 (rotI 64 a0 (a1.tmod 1000))).wf = true := mk_u64 (rotI_nonneg _ _ _) (rotI_lt _ (by omega) (by omega))
  have e64 : rotI 64 (rotI 64 a0 (a1.tmod 1000)) (a2.tmod 1000) = rotI 64 a0 (a1.tmod 1000 + a2.tmod 1000) := rotI_rotI (by omega) (by omega) (by omega)
  go_enter Try.func3, Try.ntmps3
  go_wp2_with (first
    | (go_at_call 8; refine (lives_any _).mono ?_; rintro e w' ⟨rfl, hbel⟩)
    | (go_at_call 9; refine (turn8 _ _ (by assumption) (by assumption) _).mono ?_; rintro e w' ⟨rfl, j, rfl⟩)
    | (go_at_call 10; refine (turn16 _ _ (by assumption) (by assumption) _).mono ?_; rintro e w' ⟨rfl, j, rfl⟩)
    | (go_at_call 11; refine (turn32 _ _ (by assumption) (by assumption) _).mono ?_; rintro e w' ⟨rfl, j, rfl⟩)
    | (go_at_call 12; refine (turn64 _ _ (by assumption) (by assumption) _).mono ?_; rintro e w' ⟨rfl, j, rfl⟩))
  go_ret
  refine ⟨rfl, ?_⟩
  repeat (first | exact hbel | apply below_drewN)
end Go.Proofs.Ytdapcnffiapgpaa
