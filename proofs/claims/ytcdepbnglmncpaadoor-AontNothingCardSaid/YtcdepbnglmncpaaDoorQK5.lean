/- Texts of mine, one behind the other: Ky Ke1. -/
import Derived.Test.YtcdepbnglmncpaaDoorQ1
import Derived.Test.YtcdepbnglmncpaaDoorQK1
import Derived.Deep.QuietTactic
import Derived.BigQuiet
import Derived.Test.YtcdepbnglmncpaaDoorQK4
import Derived.IntWalk
/- Contract of the document's own Box (layer 5). -/
namespace Go.Proofs.YtcdepbnglmncpaaDoor
open Go.ChangeShapes Go.WideShapes Go.ChangeAt Go.RowKit
set_option linter.unusedVariables false
set_option linter.unusedSimpArgs false
set_option maxRecDepth 100000

/-- One bit of what the box makes of v, and the first ones. -/
def bxBit (v i : Nat) : Nat := (((((v / 2 ^ i % 2) ^^^ (v / 2 ^ ((i + 4) % 8) % 2)) ^^^ (v / 2 ^ ((i + 5) % 8) % 2)) ^^^ (v / 2 ^ ((i + 6) % 8) % 2)) ^^^ (v / 2 ^ ((i + 7) % 8) % 2)) ^^^ (99 / 2 ^ i % 2)
def bxOut (v : Nat) : Nat → Nat
  | 0 => 0
  | i + 1 => bxOut v i + bxBit v i * 2 ^ i
theorem k_bxOut : allLt 256 (fun v => bxOut v 8 == aff v) = true := by decide +kernel
set_option maxHeartbeats 4000000 in
theorem refBox_N (x : Nat) (hx : x < 256) (w : World) : Calls Tryd.prog 19 #[.int .u8 (x : Nat)] w fun e w' => e = .returned (.int .u8 ((box x : Nat) : Int)) ∧ ∃ n, w' = w.drewN n := by
  have HI := Lib.hid (refInv_N x hx)
  have hV := inv_lt x
  have HB := Lib.hid (show box x = aff (inv x) from rfl)
  obtain ⟨V, hVV⟩ : ∃ V, V = inv x := ⟨_, rfl⟩
  rw [← hVV] at HI hV HB
  clear hVV
  go_enter Tryd.func19, Tryd.ntmps19
  go_wp2_with (go_at_call 32; (with_reducible refine (HI.out w).mono ?_); rintro e w' ⟨rfl, rfl⟩)
  go_loopw [4, 5] (fun o q wr => ∃ i n : Nat, i ≤ 8 ∧ q = .int .i64 (i : Nat) ∧ o = .int .u8 ((bxOut V i : Nat) : Int) ∧ wr = w.drewN n) (fun _ q _ => 8 - (intOf q).toNat)
  case atStart => exact ⟨0, 0, by omega, rfl, rfl, rfl⟩
  case round =>
    obtain ⟨i, n, hi, rfl, rfl, rfl⟩ := hrel
    by_cases hlt : i < 8
    · have hc : i = 0 ∨ i = 1 ∨ i = 2 ∨ i = 3 ∨ i = 4 ∨ i = 5 ∨ i = 6 ∨ i = 7 := by omega
      clear hlt hi
      have hV2 : (V : Int) < 256 := by omega
      rcases hc with rfl | rfl | rfl | rfl | rfl | rfl | rfl | rfl
      · go_wp2_with fail
        go_quiet (fail)
        go_wp2
        refine ⟨⟨1, _, by omega, rfl, congrArg (Value.int .u8) ?_, rfl⟩, by simp [intOf]⟩
        clear HB HI hV2
        revert V
        decide +kernel
      · go_wp2_with fail
        go_quiet (fail)
        go_wp2
        refine ⟨⟨2, _, by omega, rfl, congrArg (Value.int .u8) ?_, rfl⟩, by simp [intOf]⟩
        clear HB HI hV2
        revert V
        decide +kernel
      · go_wp2_with fail
        go_quiet (fail)
        go_wp2
        refine ⟨⟨3, _, by omega, rfl, congrArg (Value.int .u8) ?_, rfl⟩, by simp [intOf]⟩
        clear HB HI hV2
        revert V
        decide +kernel
      · go_wp2_with fail
        go_quiet (fail)
        go_wp2
        refine ⟨⟨4, _, by omega, rfl, congrArg (Value.int .u8) ?_, rfl⟩, by simp [intOf]⟩
        clear HB HI hV2
        revert V
        decide +kernel
      · go_wp2_with fail
        go_quiet (fail)
        go_wp2
        refine ⟨⟨5, _, by omega, rfl, congrArg (Value.int .u8) ?_, rfl⟩, by simp [intOf]⟩
        clear HB HI hV2
        revert V
        decide +kernel
      · go_wp2_with fail
        go_quiet (fail)
        go_wp2
        refine ⟨⟨6, _, by omega, rfl, congrArg (Value.int .u8) ?_, rfl⟩, by simp [intOf]⟩
        clear HB HI hV2
        revert V
        decide +kernel
      · go_wp2_with fail
        go_quiet (fail)
        go_wp2
        refine ⟨⟨7, _, by omega, rfl, congrArg (Value.int .u8) ?_, rfl⟩, by simp [intOf]⟩
        clear HB HI hV2
        revert V
        decide +kernel
      · go_wp2_with fail
        go_quiet (fail)
        go_wp2
        refine ⟨⟨8, _, by omega, rfl, congrArg (Value.int .u8) ?_, rfl⟩, by simp [intOf]⟩
        clear HB HI hV2
        revert V
        decide +kernel
    · obtain rfl : i = 8 := by omega
      have hk := allLt_at k_bxOut V hV
      have hk2 : bxOut V 8 = aff V := eq_of_beq hk
      have HK := Lib.hid hk2
      clear hk hk2
      go_wp2
      go_ret
      exact ⟨ret_int (by rw [HK.out, HB.out]), n, rfl⟩
end Go.Proofs.YtcdepbnglmncpaaDoor
/- Contract of the document's own Encrypt (layer 5). -/
namespace Go.Proofs.YtcdepbnglmncpaaDoor
open Go.ChangeShapes Go.WideShapes Go.ChangeAt Go.RowKit
set_option linter.unusedVariables false
set_option linter.unusedSimpArgs false
set_option maxRecDepth 100000

/-- A square's bytes, one behind the other; a row that goes over from one to another. -/
def qd (S : Nat → Nat → Nat) (j : Nat) : Nat := S (j / 4) (j % 4)
def pm (A B : Nat → Nat → Nat) (i j : Nat) : Value := .int .u8 (((if j < i then qd B j else qd A j : Nat)) : Int)
theorem pm_next {A B : Nat → Nat → Nat} {i j : Nat} : (if j = i then Value.int .u8 ((qd B i : Nat) : Int) else pm A B i j) = pm A B (i + 1) j := by
  unfold pm
  by_cases e : j = i
  · subst e; rw [if_pos rfl, if_pos (by omega)]
  · rw [if_neg e]
    by_cases h : j < i
    · rw [if_pos h, if_pos (by omega)]
    · rw [if_neg h, if_neg (by omega)]
theorem pm_all {A B C : Nat → Nat → Nat} {j : Nat} (hj : j < 16) : pm A B 16 j = pm B C 0 j := by
  unfold pm; rw [if_pos hj, if_neg (by omega)]
theorem pm_zero (A B C : Nat → Nat → Nat) (j : Nat) : pm A B 0 j = pm A C 0 j := by unfold pm; rw [if_neg (by omega), if_neg (by omega)]
theorem qd_at (S : Nat → Nat → Nat) {c r : Nat} (hr : r < 4) : qd S (4 * c + r) = S c r := by
  unfold qd; rw [show (4 * c + r) / 4 = c by omega, show (4 * c + r) % 4 = r by omega]
theorem qd_lt {S : Nat → Nat → Nat} (h : SqB S) (j : Nat) : qd S j < 256 := h _ _
def z16 : Array Value := tabV 16 fun _ => .int .u8 0
theorem info16 : (Tryd.prog.info? 45).map (fun i => (i.zero, i.size)) = some (some (.agg (Array.replicate 16 (.int .u8 0))), 16) := by kernel_rfl
theorem size_16 : (Tryd.prog.info? 45).map (·.size) = some 16 := by kernel_rfl
theorem zero16 : ∀ w : World, (zeroValue 45).run Tryd.prog w = .ok (.agg z16) w := by
  obtain ⟨hz, _⟩ := zero_of_info info16
  rw [replicate_tabV] at hz
  exact hz
theorem store16 : ∀ V : World, (storeCells ⟨V.heap.size, 0, none⟩ z16.toList 0).run Tryd.prog (V.alloc (.cells z16 45)) = .ok () (V.alloc (.cells z16 45)) := fun V =>
  run_storeCells_new (P := Tryd.prog) V 45 z16 z16 (by rw [show z16.size = 16 from size_tabV _ _]; exact size_16) rfl (tabV_one fun _ => rfl)
theorem blk16 (V : World) (B : Nat → Nat → Nat) : Blk (V.alloc (.cells z16 45)) V.heap.size 45 16 (pm (fun _ _ => 0) B 0) :=
  (Blk.made V _ 16 _).congr fun j hj => by unfold pm; rw [if_neg (by omega)]; rfl
theorem gm_one' {x : Nat} (hx : x < 256) : gm x 1 = x := by
  by_cases h0 : x = 0
  · subst h0; rfl
  · rw [show (1 : Nat) = pw 0 from pw_zero.symm, gm_pw h0, Nat.add_zero, (pw_lg hx h0).1]
theorem xor_lc (a b c : Nat) : a ^^^ (b ^^^ c) = b ^^^ (a ^^^ c) := by rw [← Nat.xor_assoc, Nat.xor_comm a b, Nat.xor_assoc]
theorem mix_byte {T : Nat → Nat → Nat} (h : SqB T) (c : Nat) {r : Nat} (hr : r < 4) : mix m2 T c r = ((gm 2 (T c r) ^^^ gm 3 (T c ((r + 1) % 4))) ^^^ T c ((r + 2) % 4)) ^^^ T c ((r + 3) % 4) := by
  have h0 := gm_one' (h c 0); have h1 := gm_one' (h c 1); have h2 := gm_one' (h c 2); have h3 := gm_one' (h c 3)
  unfold mix
  rcases lt4 hr with rfl | rfl | rfl | rfl <;> simp [m2, h0, h1, h2, h3, gm_comm 2, gm_comm 3] <;> simp [Nat.xor_assoc, Nat.xor_comm, xor_lc]
/-- The square behind r rounds of n. -/
def stE (W : Nat → Nat → Nat) (n : Nat) (X : Nat → Nat → Nat) (r : Nat) : Nat → Nat → Nat := if r = n then enc W n X else encR W X r
theorem stE_bd {W X : Nat → Nat → Nat} (hW : SqB W) (hX : SqB X) (n r : Nat) : SqB (stE W n X r) := by
  unfold stE; split
  · exact enc_bd n X hW
  · exact encR_bd hW hX r
theorem qd_adds (S W : Nat → Nat → Nat) (r : Nat) {i : Nat} (hi : i < 16) : qd (adds S (rk W r)) i = qd S i ^^^ qd W (16 * r + i) := by
  unfold qd adds rk
  rw [show (16 * r + i) / 4 = 4 * r + i / 4 by omega, show (16 * r + i) % 4 = i % 4 by omega]
theorem qd_thr (P : Nat → Nat → Nat) {c i : Nat} (hi : i < 4) : qd (thr box 1 P) (4 * c + i) = box (qd P (4 * ((c + i) % 4) + i)) := by
  rw [qd_at _ hi, qd_at _ hi]
  unfold thr
  rw [Nat.one_mul]
theorem qd_mix {T : Nat → Nat → Nat} (h : SqB T) (c : Nat) {i : Nat} (hi : i < 4) : qd (mix m2 T) (4 * c + i) = ((gm 2 (qd T (4 * c + i)) ^^^ gm 3 (qd T (4 * c + (i + 1) % 4))) ^^^ qd T (4 * c + (i + 2) % 4)) ^^^ qd T (4 * c + (i + 3) % 4) := by
  rw [qd_at _ hi, qd_at _ hi, qd_at _ (Nat.mod_lt _ (by omega)), qd_at _ (Nat.mod_lt _ (by omega)), qd_at _ (Nat.mod_lt _ (by omega)), mix_byte h c hi]
theorem pm_at {A B : Nat → Nat → Nat} {i j : Nat} (h : ¬ j < i) : pm A B i j = .int .u8 ((qd A j : Nat) : Int) := by unfold pm; rw [if_neg h]
theorem outL_pm (S A : Nat → Nat → Nat) : tabV 16 (pm S A 0) = ((outL S 4).map (Value.int .u8)).toArray := by
  rfl
theorem w64 {k : Nat} (h : k < 1000) : IntKind.i64.wrap (k : Int) = (k : Int) := IntWalk.i64_in _ (by omega)
theorem idx4 {c i : Nat} (hc : c < 4) (hi : i < 4) : ∃ c4 d i1 i2 i3 j1 j2 j3 e1 e2 e3 : Nat,
    (d = 4 * c + i ∧ e1 = 4 * c + (i + 1) % 4 ∧ e2 = 4 * c + (i + 2) % 4 ∧ e3 = 4 * c + (i + 3) % 4) ∧ (d < 16 ∧ e1 < 16 ∧ e2 < 16 ∧ e3 < 16) ∧
    (4 * (c : Int) = (c4 : Int) ∧ (c4 : Int) + (i : Int) = (d : Int) ∧ (i : Int) + 1 = (i1 : Int) ∧ (i : Int) + 2 = (i2 : Int) ∧ (i : Int) + 3 = (i3 : Int)) ∧
    ((i1 : Int) % 4 = (j1 : Int) ∧ (i2 : Int) % 4 = (j2 : Int) ∧ (i3 : Int) % 4 = (j3 : Int)) ∧
    ((i1 : Int).tmod 4 = (j1 : Int) ∧ (i2 : Int).tmod 4 = (j2 : Int) ∧ (i3 : Int).tmod 4 = (j3 : Int)) ∧
    ((c4 : Int) + (j1 : Int) = (e1 : Int) ∧ (c4 : Int) + (j2 : Int) = (e2 : Int) ∧ (c4 : Int) + (j3 : Int) = (e3 : Int)) ∧
    ((d : Int) < 16 ∧ (e1 : Int) < 16 ∧ (e2 : Int) < 16 ∧ (e3 : Int) < 16) ∧
    (c4 < 1000 ∧ d < 1000 ∧ i1 < 1000 ∧ i2 < 1000 ∧ i3 < 1000 ∧ e1 < 1000 ∧ e2 < 1000 ∧ e3 < 1000) := by
  refine ⟨4 * c, 4 * c + i, i + 1, i + 2, i + 3, (i + 1) % 4, (i + 2) % 4, (i + 3) % 4, 4 * c + (i + 1) % 4, 4 * c + (i + 2) % 4, 4 * c + (i + 3) % 4, ⟨rfl, rfl, rfl, rfl⟩, by omega, by omega, by omega, ⟨?_, ?_, ?_⟩, by omega, by omega, by omega⟩
  all_goals
    rw [Int.tmod_eq_emod_of_nonneg (by omega)]
    omega
end Go.Proofs.YtcdepbnglmncpaaDoor
