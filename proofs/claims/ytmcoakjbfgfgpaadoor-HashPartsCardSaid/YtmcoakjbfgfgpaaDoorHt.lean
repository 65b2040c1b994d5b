/- The document's turn (layer 7). -/
import Derived.Test.YtmcoakjbfgfgpaaDoorHn
import Derived.Test.YtmcoakjbfgfgpaaDoorHr
namespace Go.Proofs.YtmcoakjbfgfgpaaDoor
open Go.ChangeShapes Go.WideShapes Go.ChangeAt Go.RowKit
set_option linter.unusedVariables false
set_option maxRecDepth 100000

set_option maxHeartbeats 1000000 in
theorem refTurn_N (x n : Nat) (hx : x < 4294967296) (hn : n ≤ 31) (hn1 : 1 ≤ n) (w : World) :
    Calls Tryd.prog 13 #[.int .u32 (x : Nat), .int .i64 (n : Nat)] w fun e w' => e = .returned (.int .u32 ((rr n x : Nat) : Int)) ∧ ∃ j, w' = w.drewN j := by
  have HX := Lib.hid hx
  have hn2 : (n : Int) ≤ 31 := by omega
  have hn3 : 1 ≤ (n : Int) := by omega
  go_enter Tryd.func13, Tryd.ntmps13
  go_wp2_with fail
  go_quiet (fail)
  go_wp2
  go_ret
  have h := u32_or_nat (x / 2 ^ n) (x * 2 ^ (32 - n) % 4294967296) (div32 HX.out n) (Nat.mod_lt _ (by omega))
  have e1 : ((x / 2 ^ n : Nat) : Int) = (x : Int) / 2 ^ n := by rw [Int.natCast_ediv, Int.natCast_pow]; rfl
  have e2 : ((x * 2 ^ (32 - n) % 4294967296 : Nat) : Int) = (x : Int) * 2 ^ (32 - n) % 4294967296 := by rw [Int.natCast_emod, Int.natCast_mul, Int.natCast_pow]; rfl
  rw [e1, e2] at h
  exact ⟨ret_iH h, _, rfl⟩
end Go.Proofs.YtmcoakjbfgfgpaaDoor
