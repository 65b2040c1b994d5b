/- Layer 6's lives (written by gen29.py). -/
import Derived.Test.YtpfhfnhbholboaaNf
import Derived.Test.YtpfhfnhbholboaaNo
import Derived.Test.YtpfhfnhbholboaaKe3
import Derived.Deep.DrawnRows
namespace Go.Proofs.Ytpfhfnhbholboaa
open Go.ChangeShapes Go.WideShapes Go.ChangeAt Go.RowKit
set_option linter.unusedVariables false
set_option linter.unusedSimpArgs false
set_option maxRecDepth 100000
attribute [local go_sem ↓] Go.wp_at_zero Go.wp_at_succ

theorem refPut8 (X : Int) (h0 : 0 ≤ X) (h1 : X < 18446744073709551616) (w : World) :
    Calls Try.prog 21 #[.int .u64 X, .int .i64 8] w fun e w' => ∃ g, e = .returned (.slice (some ⟨g, 0, none⟩) 8 8) ∧ Arg8 w' (some ⟨g, 0, none⟩) 8 8 (be 8 X) ∧ Below w.heap.size w w' := by
  refine (show Calls Try.prog 21 #[.int .u64 X, .int .i64 8] w _ from refPut 8 (by omega) X h0 h1 w).mono ?_
  rintro e w' ⟨g, rfl, ho, hb⟩
  exact ⟨g, rfl, own_le32 (by omega) ho (allB_be _ _), hb⟩
/-- Eight noughts. -/
def N0 : List Int := List.replicate 8 0
theorem N0_B : AllB N0 := fun x hx => by obtain ⟨_, rfl⟩ := List.mem_replicate.1 hx; omega
theorem made8 (w : World) : Arg8 (w.alloc (.cells (madeCells #[.int .u8 0] 8) 5)) (some ⟨w.heap.size, 0, none⟩) 8 8 N0 :=
  Arg8.own (own_made (by unfold maxLen; omega)) N0_B ⟨by omega, by unfold maxLen; omega⟩
theorem made8_below (w : World) : Below w.heap.size w (w.alloc (.cells (madeCells #[.int .u8 0] 8) 5)) := (Below.refl _ _).alloc (Nat.le_refl _) _
theorem argNil (w : World) : Arg8 w none 0 0 [] := ⟨rfl, (fun x hx => by cases hx), Bs.nil _ _ _, Nat.le_refl _, Nat.zero_le _⟩
/-- The example's key. -/
def K0 : List Int := padL [] 16
theorem K0_len : K0.length = 16 := length_padL _ _
theorem K0_B : AllB K0 := allB_padL (fun x hx => by cases hx) 16
theorem bytes_16 (b : Nat) (K : List Int) (a : Option Addr) (cap : Nat) (N : List Int) (w : World) (h : CipK w b K) (hk : K.length = 16 ∨ K.length = 32) (hK : AllB K) (hN : Arg8 w a 8 cap N) :
    Calls Try.prog 19 #[.pointer (some ⟨b, 0, none⟩), .slice a 8 cap, .int .i64 16, .int .i64 16] w fun e w' => ∃ g o, e = .returned (.tuple #[.slice (some ⟨g, o, none⟩) 16 16, .int .i64 0]) ∧
      Arg8 w' (some ⟨g, o, none⟩) 16 16 (strf K N 1) ∧ Below w.heap.size w w' := by
  refine (show Calls Try.prog 19 #[.pointer (some ⟨b, 0, none⟩), .slice a 8 cap, .int .i64 16, .int .i64 16] w _ from bytes_ok b K a cap N 16 16 w h hk hK hN (by omega) (by omega)).mono ?_
  rintro e w' ⟨g, o, rfl, hx, hb⟩
  rw [show stL (strf K N) 16 16 = strf K N 1 from stL_block (strf_len K N) 1] at hx
  exact ⟨g, o, rfl, hx, hb⟩
set_option maxHeartbeats 4000000 in
theorem lives6_any (w : World) : Calls Try.prog 17 #[] w fun e w' => e = .returned (.bool true) ∧ Below w.heap.size w w' := by
  have hmk := run_make_row' (P := Try.prog) 22 5 (.int .u8 0) 1 Try.underlying22 info5 rfl .i64 .i64 8 (by omega) (by omega)
  rw [show ((8 : Nat) : Int) = 2 * 4 from rfl] at hmk
  simp only [Int.reduceMul] at hmk
  obtain ⟨i5, hi, hz0, hz1, hz2⟩ := info_parts info5
  have HI := Lib.hid hi
  have HZ0 := Lib.hid hz0
  have HZ1 := Lib.hid hz1
  have HZ2 := Lib.hid hz2
  clear hi hz0 hz1 hz2
  go_enter Try.func17, Try.ntmps17
  go_upto_region 2 with (go_at_call 18; (with_reducible refine (made_any none 0 0 [] _ (argNil _)).mono ?_); rintro e w1 ⟨b, gk, rfl, hc, hk, hb⟩; have HC1 := Lib.hid (show CipK w1 b K0 from hc); have HA1 := Lib.hid (show Arg8 w1 (some ⟨gk, 0, none⟩) 16 16 K0 from hk); have HB1 := Lib.hid hb; clear hc hk hb)
  have HN2 := Lib.hid (made8 w1)
  have HB2 := Lib.hid (made8_below w1)
  have HC2 := Lib.hid (HC1.out.on HB2.out)
  have HA2 := Lib.hid (HA1.out.on HB2.out)
  go_upto_region 4 with (go_at_call 19; (with_reducible refine (bytes_16 b K0 (some ⟨w1.heap.size, 0, none⟩) 8 N0 _ HC2.out (Or.inl K0_len) K0_B HN2.out).mono ?_); rintro e w3 ⟨g3, o3, rfl, hx, hb⟩; have HX3 := Lib.hid hx; have HA3 := Lib.hid (HA2.out.on hb); have HN3 := Lib.hid (HN2.out.on hb); have HB3 := Lib.hid (bt (bt HB1.out HB2.out) hb); clear hx hb)
  clear hmk HN2
  obtain ⟨gn, hgn⟩ : ∃ gn, gn = w1.heap.size := ⟨_, rfl⟩
  rw [← hgn] at HN3
  rw [← hgn]
  clear hgn
  go_wp2_with fail
  refine wp_region_held_drew (S := fun U => Below w3.heap.size w3 U) (by kernel_rfl) (Below.refl _ _).drew (fun hHeld => ?_)
  refine wpAnyH_take (i := 0) (oi := { dst := some 17, op := Go.Op.move (Go.Operand.tmp 5), type := 26, pos := "law.go:26", after := #[], guard := none }) (v := ?v0a1) rfl (by kernel_rfl) (by kernel_rfl) (by kernel_rfl) (fun _ _ _ h => h) (Or.inl ⟨by rfl, ?hy0a1⟩) hHeld ?rest0a1
  case hy0a1 =>
    intro W' hV
    try dsimp only at hV
    go_simp
    all_goals with_reducible rfl
  case' rest0a1 => try simp only [Act.put, List.setIfInBounds_toArray, List.set_cons_zero, List.set_cons_succ]
  refine wpAnyH_take (i := 1) (oi := { dst := some 18, op := Go.Op.binOp Go.BinOp.eql 26 (Go.Operand.tmp 17) (Go.Operand.const (Go.Value.int Go.IntKind.i64 0)) 26, type := 4, pos := "law.go:26", after := #[{ on := 0, ground := Go.Ground.data }], guard := none }) (v := ?v1a2) rfl (by kernel_rfl) (by kernel_rfl) (by kernel_rfl) (fun _ _ _ h => h) (Or.inl ⟨by rfl, ?hy1a2⟩) hHeld ?rest1a2
  case hy1a2 =>
    intro W' hV
    try dsimp only at hV
    go_simp
    all_goals with_reducible rfl
  case' rest1a2 => try simp only [Act.put, List.setIfInBounds_toArray, List.set_cons_zero, List.set_cons_succ]
  refine wpAnyH_take (i := 2) (oi := { dst := some 19, op := Go.Op.move (Go.Operand.tmp 18), type := 4, pos := "law.go:26", after := #[{ on := 1, ground := Go.Ground.data }], guard := none }) (v := ?v2a3) rfl (by kernel_rfl) (by kernel_rfl) (by kernel_rfl) (fun _ _ _ h => h) (Or.inl ⟨by rfl, ?hy2a3⟩) hHeld ?rest2a3
  case hy2a3 =>
    intro W' hV
    try dsimp only at hV
    go_simp
    all_goals with_reducible rfl
  case' rest2a3 => try simp only [Act.put, List.setIfInBounds_toArray, List.set_cons_zero, List.set_cons_succ]
  refine wpAnyH_take (i := 3) (oi := { dst := some 20, op := Go.Op.move (Go.Operand.tmp 4), type := 22, pos := "law.go:26", after := #[{ on := 2, ground := Go.Ground.guard }], guard := some (2, true) }) (v := ?v3a4) rfl (by kernel_rfl) (by kernel_rfl) (by kernel_rfl) (fun _ _ _ h => h) (Or.inl ⟨by rfl, ?hy3a4⟩) hHeld ?rest3a4
  case hy3a4 =>
    intro W' hV
    try dsimp only at hV
    go_simp
    all_goals with_reducible rfl
  case' rest3a4 => try simp only [Act.put, List.setIfInBounds_toArray, List.set_cons_zero, List.set_cons_succ]
  refine wpAnyH_take (i := 4) (oi := { dst := some 21, op := Go.Op.convert 22 9 (Go.Operand.tmp 20), type := 9, pos := "law.go:26", after := #[{ on := 3, ground := Go.Ground.data }, { on := 2, ground := Go.Ground.guard }], guard := some (2, true) }) (v := ?v4a5) rfl (by kernel_rfl) (by kernel_rfl) (by kernel_rfl) (fun _ _ _ h => h) (Or.inl ⟨by rfl, ?hy4a5⟩) hHeld ?rest4a5
  case hy4a5 =>
    intro W' hV
    try dsimp only at hV
    have hcv := (HX3.out.on hV).strK
    go_simp
    all_goals with_reducible rfl
  case' rest4a5 => try simp only [Act.put, List.setIfInBounds_toArray, List.set_cons_zero, List.set_cons_succ]
  refine wpAnyH_take (i := 5) (oi := { dst := some 22, op := Go.Op.move (Go.Operand.tmp 2), type := 22, pos := "law.go:26", after := #[{ on := 2, ground := Go.Ground.guard }], guard := some (2, true) }) (v := ?v5a6) rfl (by kernel_rfl) (by kernel_rfl) (by kernel_rfl) (fun _ _ _ h => h) (Or.inl ⟨by rfl, ?hy5a6⟩) hHeld ?rest5a6
  case hy5a6 =>
    intro W' hV
    try dsimp only at hV
    go_simp
    all_goals with_reducible rfl
  case' rest5a6 => try simp only [Act.put, List.setIfInBounds_toArray, List.set_cons_zero, List.set_cons_succ]
  refine wpAnyH_take (i := 6) (oi := { dst := some 23, op := Go.Op.move (Go.Operand.tmp 3), type := 22, pos := "law.go:26", after := #[{ on := 2, ground := Go.Ground.guard }], guard := some (2, true) }) (v := ?v6a7) rfl (by kernel_rfl) (by kernel_rfl) (by kernel_rfl) (fun _ _ _ h => h) (Or.inl ⟨by rfl, ?hy6a7⟩) hHeld ?rest6a7
  case hy6a7 =>
    intro W' hV
    try dsimp only at hV
    go_simp
    all_goals with_reducible rfl
  case' rest6a7 => try simp only [Act.put, List.setIfInBounds_toArray, List.set_cons_zero, List.set_cons_succ]
  refine wpAnyH_ready (rs := [7]) (by kernel_rfl) (by simp) ?_
  refine AllReadyH.cons (o := { dst := some 24, op := Go.Op.call { callee := Go.Callee.value (Go.Operand.func 21), args := #[Go.Operand.const (Go.Value.int Go.IntKind.u64 1), Go.Operand.const (Go.Value.int Go.IntKind.i64 8)], argTypes := #[44, 3] }, type := 22, pos := "law.go:26", after := #[{ on := 2, ground := Go.Ground.chain }, { on := 2, ground := Go.Ground.guard }], guard := some (2, true) }) rfl (fun K' hK => ?_) AllReadyH.nil
  rw [if_pos (by rfl)]
  go_simp
  go_wp2_with (go_at_call 21; (with_reducible refine (refPut8 1 (by omega) (by omega) _).mono ?_); rintro e w4 ⟨g4, rfl, ho, hb⟩)
  have HP4 := Lib.hid ho
  have HB4 := Lib.hid (show Below w3.heap.size w3 w4 from bt hHeld hb)
  have HN4 := Lib.hid (HN3.out.on HB4.out)
  have HA4 := Lib.hid (HA3.out.on HB4.out)
  clear ho hb
  refine hK.out _ _ HB4.out (fun hHeld1 => ?_)
  clear hK K' hHeld
  have hHeld := hHeld1
  clear hHeld1
  try simp only [Act.put, List.setIfInBounds_toArray, List.set_cons_zero, List.set_cons_succ]
  refine wpAnyH_ready (rs := [8]) (by kernel_rfl) (by simp) ?_
  refine AllReadyH.cons (o := { dst := some 25, op := Go.Op.call { callee := Go.Callee.builtin Go.Builtin.append, args := #[Go.Operand.tmp 23, Go.Operand.tmp 24], argTypes := #[22, 22] }, type := 22, pos := "law.go:26", after := #[{ on := 6, ground := Go.Ground.data }, { on := 7, ground := Go.Ground.data }, { on := 7, ground := Go.Ground.chain }, { on := 2, ground := Go.Ground.guard }], guard := some (2, true) }) rfl (fun K' hK => ?_) AllReadyH.nil
  rw [if_pos (by rfl)]
  refine wp_append_full (.tmp 23) (.tmp 24) 22 rfl 5 i5 Try.underlying22 HI.out HZ0.out HZ1.out HZ2.out (some ⟨gn, 0, none⟩) 8 8 N0 (by rfl) HN4.out (by omega) (some ⟨g4, 0, none⟩) 8 8 (be 8 1) (by rfl) HP4.out (by omega) (by omega) (by omega) ?_
  intro g5 cap5 w5 hx hb
  have HX5 := Lib.hid (show Arg8 w5 (some ⟨g5, 0, none⟩) 16 cap5 (N0 ++ be 8 1) from hx)
  have HB5 := Lib.hid (show Below w3.heap.size w3 w5 from bt HB4.out hb)
  have HA5 := Lib.hid (HA4.out.on hb)
  clear hx hb
  try simp only [Act.put, List.setIfInBounds_toArray, List.set_cons_zero, List.set_cons_succ]
  refine hK.out _ _ HB5.out (fun hHeld1 => ?_)
  clear hK K' hHeld
  have hHeld := hHeld1
  clear hHeld1
  try simp only [Act.put, List.setIfInBounds_toArray, List.set_cons_zero, List.set_cons_succ]
  refine wpAnyH_ready (rs := [9]) (by kernel_rfl) (by simp) ?_
  refine AllReadyH.cons (o := { dst := some 26, op := Go.Op.call { callee := Go.Callee.value (Go.Operand.func 15), args := #[Go.Operand.tmp 22, Go.Operand.tmp 25], argTypes := #[22, 22] }, type := 22, pos := "law.go:26", after := #[{ on := 5, ground := Go.Ground.data }, { on := 8, ground := Go.Ground.data }, { on := 8, ground := Go.Ground.chain }, { on := 2, ground := Go.Ground.guard }], guard := some (2, true) }) rfl (fun K' hK => ?_) AllReadyH.nil
  rw [if_pos (by rfl)]
  go_simp
  go_wp2_with (go_at_call 15; (with_reducible refine (refEnc_arg (some ⟨gk, 0, none⟩) 16 16 K0 (some ⟨g5, 0, none⟩) cap5 (N0 ++ be 8 1) _ HA5.out (Or.inl rfl) HX5.out).mono ?_); rintro e w6 ⟨g6, rfl, ho, hb⟩)
  have HR6 := Lib.hid (show Arg8 w6 (some ⟨g6, 0, none⟩) 16 16 (strf K0 N0 1) from ho)
  have HB6 := Lib.hid (show Below w3.heap.size w3 w6 from bt HB5.out hb)
  clear ho hb
  refine hK.out _ _ HB6.out (fun hHeld1 => ?_)
  clear hK K' hHeld
  have hHeld := hHeld1
  clear hHeld1
  try simp only [Act.put, List.setIfInBounds_toArray, List.set_cons_zero, List.set_cons_succ]
  refine wpAnyH_ready (rs := [10]) (by kernel_rfl) (by simp) ?_
  refine AllReadyH.cons (o := { dst := some 27, op := Go.Op.convert 22 9 (Go.Operand.tmp 26), type := 9, pos := "law.go:26", after := #[{ on := 9, ground := Go.Ground.data }, { on := 2, ground := Go.Ground.guard }], guard := some (2, true) }) rfl (fun K' hK => ?_) AllReadyH.nil
  rw [if_pos (by rfl)]
  have hcr := HR6.out.strK
  go_simp
  refine hK.out _ _ HB6.out (fun hHeld1 => ?_)
  clear hK K' hHeld
  have hHeld := hHeld1
  clear hHeld1
  try simp only [Act.put, List.setIfInBounds_toArray, List.set_cons_zero, List.set_cons_succ]
  refine wpAnyH_take (i := 11) (oi := { dst := some 28, op := Go.Op.binOp Go.BinOp.eql 9 (Go.Operand.tmp 21) (Go.Operand.tmp 27) 9, type := 4, pos := "law.go:26", after := #[{ on := 4, ground := Go.Ground.data }, { on := 10, ground := Go.Ground.data }, { on := 2, ground := Go.Ground.guard }], guard := some (2, true) }) (v := ?v11a8) rfl (by kernel_rfl) (by kernel_rfl) (by kernel_rfl) (fun _ _ _ h => h) (Or.inl ⟨by rfl, ?hy11a8⟩) hHeld ?rest11a8
  case hy11a8 =>
    intro W' hV
    try dsimp only at hV
    have hee := str_eq (rfl : strf K0 N0 1 = strf K0 N0 1)
    go_simp
    all_goals with_reducible rfl
  case' rest11a8 => try simp only [Act.put, List.setIfInBounds_toArray, List.set_cons_zero, List.set_cons_succ]
  refine wpAnyH_take (i := 12) (oi := { dst := some 29, op := Go.Op.pick (Go.Operand.tmp 19) (Go.Operand.tmp 28) (Go.Operand.const (Go.Value.bool false)), type := 4, pos := "law.go:26", after := #[{ on := 2, ground := Go.Ground.data }, { on := 11, ground := Go.Ground.data }], guard := none }) (v := ?v12a9) rfl (by kernel_rfl) (by kernel_rfl) (by kernel_rfl) (fun _ _ _ h => h) (Or.inl ⟨by rfl, ?hy12a9⟩) hHeld ?rest12a9
  case hy12a9 =>
    intro W' hV
    try dsimp only at hV
    go_simp
    all_goals with_reducible rfl
  case' rest12a9 => try simp only [Act.put, List.setIfInBounds_toArray, List.set_cons_zero, List.set_cons_succ]
  refine wpAnyH_take (i := 13) (oi := { dst := some 0, op := Go.Op.assign (Go.Operand.tmp 29), type := 4, pos := "law.go:26", after := #[{ on := 12, ground := Go.Ground.data }, { on := 9, ground := Go.Ground.chain }, { on := 0, ground := Go.Ground.phase }, { on := 1, ground := Go.Ground.phase }, { on := 2, ground := Go.Ground.phase }, { on := 3, ground := Go.Ground.phase }, { on := 4, ground := Go.Ground.phase }, { on := 5, ground := Go.Ground.phase }, { on := 6, ground := Go.Ground.phase }, { on := 7, ground := Go.Ground.phase }, { on := 8, ground := Go.Ground.phase }, { on := 9, ground := Go.Ground.phase }, { on := 10, ground := Go.Ground.phase }, { on := 11, ground := Go.Ground.phase }, { on := 12, ground := Go.Ground.phase }], guard := none }) (v := ?v13a10) rfl (by kernel_rfl) (by kernel_rfl) (by kernel_rfl) (fun _ _ _ h => h) (Or.inl ⟨by rfl, ?hy13a10⟩) hHeld ?rest13a10
  case hy13a10 =>
    intro W' hV
    try dsimp only at hV
    go_simp
    all_goals with_reducible rfl
  case' rest13a10 => try simp only [Act.put, List.setIfInBounds_toArray, List.set_cons_zero, List.set_cons_succ]
  refine wpAnyH_done (by kernel_rfl) ?_ _
  clear hHeld
  go_wp2
  go_ret
  exact ⟨rfl, bt HB3.out HB6.out⟩
end Go.Proofs.Ytpfhfnhbholboaa
