/- Texts of mine, one behind the other: QK1. -/
import Derived.Test.YtappfdbmhgifcaaGreatDoorZS01
import Derived.BigQuiet
import Derived.Deep.QuietTactic
import Derived.Laws.BitsAllLaws
import Derived.Lib.Hide
import Derived.Below
import Derived.Deep.OwnRows
import Derived.OpenShut
import Derived.ProofKit
import Derived.ShutString
import Derived.StillTailTactics
import Derived.WalkKit
import Derived.Test.YtappfdbmhgifcaaGreatDoorZS02
import Derived.Deep.WholeRow
import Derived.ChangeAlike
import Derived.BigRegion
import Derived.Deep.CutRange
import Derived.Deep.RegionWith
import Derived.Deep.DrawnRows
import Derived.IntWalk
import Derived.Deep.MidRow
import Derived.Laws.ResultCell
/- Texts of mine, one behind the other: Kmath Kw Ka Kb Kc Kd Ke Kf Kg Kh Ki. -/
/- Plain facts on the cipher: bytes, columns, squares, round keys. No program is named here. -/
namespace Go.Proofs.YtappfdbmhgifcaaGreatDoor
set_option linter.unusedVariables false

/-- A byte added to itself turned up by 1 to 4, and 99. -/
def aff (v : Nat) : Nat := ((((99 ^^^ v) ^^^ rot 8 v 1) ^^^ rot 8 v 2) ^^^ rot 8 v 3) ^^^ rot 8 v 4
def affB (v : Nat) : Nat := ((rot 8 v 1 ^^^ rot 8 v 3) ^^^ rot 8 v 6) ^^^ 5
theorem k_aff : allLt 256 (fun v => affB (aff v) == v && (aff (affB v) == v && (decide (aff v < 256) && decide (affB v < 256)))) = true := by decide +kernel
theorem aff_at {v : Nat} (h : v < 256) : affB (aff v) = v ∧ aff (affB v) = v ∧ aff v < 256 ∧ affB v < 256 := by
  have := allLt_at k_aff v h
  simpa using this
/-- The box of a byte, and the way back. -/
def box (x : Nat) : Nat := aff (inv x)
def bxb (y : Nat) : Nat := inv (affB y)
theorem inv_inv {a : Nat} (ha : a < 256) : inv (inv a) = a := by
  by_cases h0 : a = 0
  · subst h0; rfl
  · exact (inv_uniq (inv_lt a) ha (by rw [gm_comm]; exact gm_inv ha h0)).symm
theorem box_lt (x : Nat) : box x < 256 := (aff_at (inv_lt x)).2.2.1
theorem bxb_lt (x : Nat) : bxb x < 256 := inv_lt _
theorem bxb_box {x : Nat} (h : x < 256) : bxb (box x) = x := by unfold bxb box; rw [(aff_at (inv_lt x)).1, inv_inv h]
theorem box_bxb {y : Nat} (h : y < 256) : box (bxb y) = y := by unfold bxb box; rw [inv_inv (aff_at h).2.2.2, (aff_at h).2.1]

/-- A column's word: its first row's byte is the highest. -/
def wd (f : Nat → Nat) : Nat := ((f 0 * 256 + f 1) * 256 + f 2) * 256 + f 3
theorem wd_congr {f g : Nat → Nat} (h : ∀ r, r < 4 → f r = g r) : wd f = wd g := by
  unfold wd; rw [h 0 (by omega), h 1 (by omega), h 2 (by omega), h 3 (by omega)]
theorem wd_lt {f : Nat → Nat} (h : ∀ r, f r < 256) : wd f < 4294967296 := by
  have := h 0; have := h 1; have := h 2; have := h 3
  unfold wd; omega
theorem wd_zero : wd (fun _ => 0) = 0 := rfl
theorem lt4 {i : Nat} (h : i < 4) : i = 0 ∨ i = 1 ∨ i = 2 ∨ i = 3 := by omega
theorem wd_row {f : Nat → Nat} (h : ∀ r, f r < 256) {i : Nat} (hi : i < 4) : wd f / 2 ^ (8 * (3 - i)) % 256 = f i := by
  have := h 0; have := h 1; have := h 2; have := h 3
  unfold wd
  rcases lt4 hi with rfl | rfl | rfl | rfl
  · show _ / 16777216 % 256 = _; omega
  · show _ / 65536 % 256 = _; omega
  · show _ / 256 % 256 = _; omega
  · show _ / 1 % 256 = _; omega
theorem xor_join {a b c d : Nat} (hb : b < 256) (hd : d < 256) : (a * 256 + b) ^^^ (c * 256 + d) = (a ^^^ c) * 256 + (b ^^^ d) := by
  have h1 : ((a * 256 + b) ^^^ (c * 256 + d)) / 2 ^ 8 = a ^^^ c := by
    rw [Nat.xor_div_two_pow]; congr 1 <;> (show _ / 256 = _; omega)
  have h2 : ((a * 256 + b) ^^^ (c * 256 + d)) % 2 ^ 8 = b ^^^ d := by
    rw [Nat.xor_mod_two_pow]; congr 1 <;> (show _ % 256 = _; omega)
  have h3 : ((a * 256 + b) ^^^ (c * 256 + d)) / 256 = a ^^^ c := h1
  have h4 : ((a * 256 + b) ^^^ (c * 256 + d)) % 256 = b ^^^ d := h2
  omega
theorem wd_xor {f g : Nat → Nat} (hf : ∀ r, f r < 256) (hg : ∀ r, g r < 256) : wd f ^^^ wd g = wd (fun r => f r ^^^ g r) := by
  unfold wd
  rw [xor_join (hf 3) (hg 3), xor_join (hf 2) (hg 2), xor_join (hf 1) (hg 1)]
theorem or_join {a b : Nat} (n : Nat) (hb : b < 2 ^ n) : a * 2 ^ n ||| b = a * 2 ^ n + b := by
  rw [Nat.mul_comm, ← Nat.two_pow_add_eq_or_of_lt hb]
/-- The first i bytes of a column, the others noughts. -/
def wdp (f : Nat → Nat) (i : Nat) : Nat := wd fun r => if r < i then f r else 0
theorem wdp_zero (f : Nat → Nat) : wdp f 0 = 0 := by unfold wdp wd; simp
theorem wdp_all (f : Nat → Nat) : wdp f 4 = wd f := by unfold wdp wd; simp
theorem wdp_lt {f : Nat → Nat} (h : ∀ r, f r < 256) (i : Nat) : wdp f i < 4294967296 := wd_lt fun r => by
  show (if r < i then f r else 0) < 256
  split
  · exact h r
  · omega
theorem wdp_or {f : Nat → Nat} (h : ∀ r, f r < 256) {i : Nat} (hi : i < 4) : wdp f i ||| (f i * 2 ^ (8 * (3 - i))) = wdp f (i + 1) := by
  have h0 := h 0; have h1 := h 1; have h2 := h 2; have h3 := h 3
  unfold wdp wd
  rcases lt4 hi with rfl | rfl | rfl | rfl
  · simp; omega
  · have e := or_join (a := f 0) (b := f 1 * 65536) 24 (by omega)
    simp only [show (2 : Nat) ^ 24 = 16777216 from rfl] at e
    show ((f 0 * 256 + 0) * 256 + 0) * 256 + 0 ||| f 1 * 65536 = _
    rw [show ((f 0 * 256 + 0) * 256 + 0) * 256 + 0 = f 0 * 16777216 by omega, e]
    show _ = ((f 0 * 256 + f 1) * 256 + 0) * 256 + 0
    omega
  · have e := or_join (a := f 0 * 256 + f 1) (b := f 2 * 256) 16 (by omega)
    simp only [show (2 : Nat) ^ 16 = 65536 from rfl] at e
    show ((f 0 * 256 + f 1) * 256 + 0) * 256 + 0 ||| f 2 * 256 = _
    rw [show ((f 0 * 256 + f 1) * 256 + 0) * 256 + 0 = (f 0 * 256 + f 1) * 65536 by omega, e]
    show _ = ((f 0 * 256 + f 1) * 256 + f 2) * 256 + 0
    omega
  · have e := or_join (a := (f 0 * 256 + f 1) * 256 + f 2) (b := f 3) 8 (by omega)
    simp only [show (2 : Nat) ^ 8 = 256 from rfl] at e
    show ((f 0 * 256 + f 1) * 256 + f 2) * 256 + 0 ||| f 3 * 1 = _
    rw [Nat.add_zero, Nat.mul_one, e]
    rfl
theorem wd_rot {f : Nat → Nat} (h : ∀ r, f r < 256) {i : Nat} (hi : i < 4) : rot 32 (wd f) (8 * ((4 - i) % 4)) = wd (fun r => f ((r + 4 - i) % 4)) := by
  have h0 := h 0; have h1 := h 1; have h2 := h 2; have h3 := h 3
  have hw := wd_lt h
  unfold rot
  rcases lt4 hi with rfl | rfl | rfl | rfl
  · show (wd f * 2 ^ 0 % 2 ^ 32 ||| wd f / 2 ^ 32) = _
    rw [show (2 : Nat) ^ 32 = 4294967296 from rfl, Nat.div_eq_of_lt hw, Nat.pow_zero, Nat.mul_one, Nat.mod_eq_of_lt hw, Nat.or_zero]
    rfl
  · show (wd f * 16777216 % 4294967296 ||| wd f / 256) = wd (fun r => f ((r + 4 - 1) % 4))
    have e := or_join (a := f 3) (b := wd f / 256) 24 (by unfold wd; omega)
    simp only [show (2 : Nat) ^ 24 = 16777216 from rfl] at e
    rw [show wd f * 16777216 % 4294967296 = f 3 * 16777216 by unfold wd; omega, e]
    show _ = ((f 3 * 256 + f 0) * 256 + f 1) * 256 + f 2
    unfold wd; omega
  · show (wd f * 65536 % 4294967296 ||| wd f / 65536) = wd (fun r => f ((r + 4 - 2) % 4))
    have e := or_join (a := f 2 * 256 + f 3) (b := wd f / 65536) 16 (by unfold wd; omega)
    simp only [show (2 : Nat) ^ 16 = 65536 from rfl] at e
    rw [show wd f * 65536 % 4294967296 = (f 2 * 256 + f 3) * 65536 by unfold wd; omega, e]
    show _ = ((f 2 * 256 + f 3) * 256 + f 0) * 256 + f 1
    unfold wd; omega
  · show (wd f * 256 % 4294967296 ||| wd f / 16777216) = wd (fun r => f ((r + 4 - 3) % 4))
    have e := or_join (a := (f 1 * 256 + f 2) * 256 + f 3) (b := wd f / 16777216) 8 (by unfold wd; omega)
    simp only [show (2 : Nat) ^ 8 = 256 from rfl] at e
    rw [show wd f * 256 % 4294967296 = ((f 1 * 256 + f 2) * 256 + f 3) * 256 by unfold wd; omega, e]
    show _ = ((f 1 * 256 + f 2) * 256 + f 3) * 256 + f 0
    unfold wd; omega

/-- Squares: column, row. -/
def SqB (S : Nat → Nat → Nat) : Prop := ∀ c r, S c r < 256
def Same (S T : Nat → Nat → Nat) : Prop := ∀ c r, c < 4 → r < 4 → S c r = T c r
theorem Same.refl (S : Nat → Nat → Nat) : Same S S := fun _ _ _ _ => rfl
theorem Same.trans {S T U : Nat → Nat → Nat} (h : Same S T) (g : Same T U) : Same S U := fun c r hc hr => (h c r hc hr).trans (g c r hc hr)
theorem Same.symm {S T : Nat → Nat → Nat} (h : Same S T) : Same T S := fun c r hc hr => (h c r hc hr).symm
def adds (S K : Nat → Nat → Nat) : Nat → Nat → Nat := fun c r => S c r ^^^ K c r
def thr (b : Nat → Nat) (s : Nat) (S : Nat → Nat → Nat) : Nat → Nat → Nat := fun c r => b (S ((c + s * r) % 4) r)
def mix (p : Nat → Nat) (S : Nat → Nat → Nat) : Nat → Nat → Nat := fun c r => ((gm (S c 0) (p (r % 4)) ^^^ gm (S c 1) (p ((r + 3) % 4))) ^^^ gm (S c 2) (p ((r + 2) % 4))) ^^^ gm (S c 3) (p ((r + 1) % 4))
theorem SqB.adds {S K : Nat → Nat → Nat} (h : SqB S) (k : SqB K) : SqB (adds S K) := fun c r => xor_lt (h c r) (k c r)
theorem SqB.thr {b : Nat → Nat} (hb : ∀ x, b x < 256) (s : Nat) (S : Nat → Nat → Nat) : SqB (thr b s S) := fun _ _ => hb _
theorem SqB.mix (p : Nat → Nat) (S : Nat → Nat → Nat) : SqB (mix p S) := fun _ _ => xor_lt (xor_lt (xor_lt (gm_lt _ _) (gm_lt _ _)) (gm_lt _ _)) (gm_lt _ _)
theorem Same.adds {S T : Nat → Nat → Nat} (h : Same S T) (K : Nat → Nat → Nat) : Same (adds S K) (adds T K) := fun c r hc hr => by unfold Go.Proofs.YtappfdbmhgifcaaGreatDoor.adds; rw [h c r hc hr]
theorem Same.thr {S T : Nat → Nat → Nat} (h : Same S T) (b : Nat → Nat) (s : Nat) : Same (thr b s S) (thr b s T) := fun c r hc hr => by unfold Go.Proofs.YtappfdbmhgifcaaGreatDoor.thr; rw [h _ r (Nat.mod_lt _ (by omega)) hr]
theorem Same.mix {S T : Nat → Nat → Nat} (h : Same S T) (p : Nat → Nat) : Same (mix p S) (mix p T) := fun c r hc _ => by unfold Go.Proofs.YtappfdbmhgifcaaGreatDoor.mix; rw [h c 0 hc (by omega), h c 1 hc (by omega), h c 2 hc (by omega), h c 3 hc (by omega)]
/-- What a column is multiplied by, its constant first; and the way back. -/
def m2 (k : Nat) : Nat := if k = 0 then 2 else if k = 3 then 3 else 1
def m14 (k : Nat) : Nat := if k = 0 then 14 else if k = 1 then 9 else if k = 2 then 13 else 11
theorem m2_lt (k : Nat) : m2 k < 256 := by unfold m2; split <;> (try split) <;> omega
theorem m14_lt (k : Nat) : m14 k < 256 := by unfold m14; split <;> (try split) <;> (try split) <;> omega
/-- The round key at j, of the words. -/
def rk (W : Nat → Nat → Nat) (j : Nat) : Nat → Nat → Nat := fun c r => W (4 * j + c) r
theorem SqB.rk {W : Nat → Nat → Nat} (h : SqB W) (j : Nat) : SqB (rk W j) := fun _ _ => h _ _
/-- A square behind the first key and k rounds; encrypted; and back. -/
def encR (W S : Nat → Nat → Nat) : Nat → Nat → Nat → Nat
  | 0 => adds S (rk W 0)
  | k + 1 => adds (mix m2 (thr box 1 (encR W S k))) (rk W (k + 1))
def enc (W : Nat → Nat → Nat) (n : Nat) (S : Nat → Nat → Nat) : Nat → Nat → Nat := adds (thr box 1 (encR W S (n - 1))) (rk W n)
theorem encR_bd {W S : Nat → Nat → Nat} (hW : SqB W) (hS : SqB S) : ∀ k, SqB (encR W S k)
  | 0 => hS.adds (hW.rk 0)
  | k + 1 => (SqB.mix _ _).adds (hW.rk (k + 1))
theorem enc_bd {W : Nat → Nat → Nat} (n : Nat) (S : Nat → Nat → Nat) (hW : SqB W) : SqB (enc W n S) := (SqB.thr box_lt _ _).adds (hW.rk n)
theorem Same.encR {S T : Nat → Nat → Nat} (h : Same S T) (W : Nat → Nat → Nat) : ∀ k, Same (encR W S k) (encR W T k)
  | 0 => h.adds _
  | k + 1 => (((Same.encR h W k).thr _ _).mix _).adds _
theorem Same.enc {S T : Nat → Nat → Nat} (h : Same S T) (W : Nat → Nat → Nat) (n : Nat) : Same (enc W n S) (enc W n T) := ((h.encR W (n - 1)).thr _ _).adds _
/-- What is added to the word n ahead, out of the one ahead. -/
def tmp (n i : Nat) (x : Nat → Nat) : Nat → Nat := fun r =>
  if i % n = 0 then box (x ((r + 1) % 4)) ^^^ (if r = 0 then pwr 2 (i / n - 1) else 0)
  else if n = 8 ∧ i % 8 = 4 then box (x r) else x r
/-- The words of the round keys, the first n + m of them. -/
def kx (n : Nat) (K : Nat → Nat → Nat) : Nat → Nat → Nat → Nat
  | 0 => K
  | m + 1 => fun j r => if j = n + m then kx n K m m r ^^^ tmp n (n + m) (kx n K m (n + m - 1)) r else kx n K m j r
theorem pwr_lt (a n : Nat) : pwr a n < 256 := pw_lt _
theorem tmp_lt (n i : Nat) {x : Nat → Nat} (h : ∀ r, x r < 256) (r : Nat) : tmp n i x r < 256 := by
  unfold tmp
  split
  · refine xor_lt (box_lt _) ?_
    split
    · exact pwr_lt _ _
    · omega
  · split
    · exact box_lt _
    · exact h r
theorem kx_bd (n : Nat) {K : Nat → Nat → Nat} (h : SqB K) : ∀ m, SqB (kx n K m)
  | 0 => h
  | m + 1 => fun j r => by
    show (if j = n + m then kx n K m m r ^^^ tmp n (n + m) (kx n K m (n + m - 1)) r else kx n K m j r) < 256
    split
    · exact xor_lt (kx_bd n h m _ _) (tmp_lt _ _ (kx_bd n h m _) _)
    · exact kx_bd n h m _ _
theorem kx_old {n : Nat} (K : Nat → Nat → Nat) {m j : Nat} (h : j ≠ n + m) : kx n K (m + 1) j = kx n K m j := by
  funext r
  show (if j = n + m then _ else _) = _
  rw [if_neg h]
theorem kx_new (n : Nat) (K : Nat → Nat → Nat) (m : Nat) : kx n K (m + 1) (n + m) = fun r => kx n K m m r ^^^ tmp n (n + m) (kx n K m (n + m - 1)) r := by
  funext r
  show (if n + m = n + m then _ else _) = _
  rw [if_pos rfl]
end Go.Proofs.YtappfdbmhgifcaaGreatDoor
/- Contracts of package word's Turn, Put and Get, for the cipher (taken from my texts Bits, Put, Get). -/
namespace Go.Proofs.YtappfdbmhgifcaaGreatDoor
open Go.ChangeShapes Go.WideShapes Go.ChangeAt Go.RowKit
set_option linter.unusedVariables false
set_option maxRecDepth 100000

theorem wf_u32 {x : Int} (h : (Lit.int .u32 x).wf = true) : 0 ≤ x ∧ x < 2 ^ 32 := by have : 0 ≤ x ∧ x ≤ 4294967295 := by simpa [Lit.wf, IntKind.min, IntKind.max, IntKind.signed, IntKind.bits] using h
                                                                                     omega
set_option maxRecDepth 100000 in
theorem len64_8 (w : World) : Calls Tryz.prog 175 #[.int .u64 255] w fun e w' => e = .returned (.int .i64 8) ∧ w = w' := by
  go_enter Tryz.func175, Tryz.ntmps175
  go_wp2
  go_ret
  exact ⟨by kernel_rfl, rfl⟩
theorem bits8 (w : World) : Calls Tryz.prog 163 #[] w fun e w' => e = .returned (.int .i64 8) ∧ w = w' := by
  go_enter Tryz.func163, Tryz.ntmps163
  go_wp2_with (go_at_call 175; refine (len64_8 _).mono ?_; rintro e w' ⟨rfl, rfl⟩)
  go_ret
  exact ⟨by kernel_rfl, rfl⟩
theorem rot8_eq (x n R : Int) (h0 : 0 ≤ x) (h1 : x < 2 ^ 8) (hR : R = n % 8) : bits .or .u8 (x * 2 ^ R.toNat % 256) (x / 2 ^ (8 - R).toNat) = rotI 8 x n := by
  have r0 := Int.emod_nonneg n (show (8 : Int) ≠ 0 by omega)
  have r1 := Int.emod_lt_of_pos n (show (0 : Int) < 8 by omega)
  rw [← hR] at r0 r1
  obtain ⟨y, rfl⟩ := Int.eq_ofNat_of_zero_le h0
  obtain ⟨q, rfl⟩ := Int.eq_ofNat_of_zero_le r0
  have e2 : ((8 : Int) - (q : Int)).toNat = 8 - q := by omega
  have f1 : ((y : Int) * 2 ^ q % 256) = ((y * 2 ^ q % 256 : Nat) : Int) := by simp
  have f2 : ((y : Int) / 2 ^ (8 - q)) = ((y / 2 ^ (8 - q) : Nat) : Int) := by simp
  have g1 : y * 2 ^ q % 256 < 256 := Nat.mod_lt _ (by omega)
  have g2 : y / 2 ^ (8 - q) < 256 := Nat.lt_of_le_of_lt (Nat.div_le_self _ _) (by omega)
  rw [Int.toNat_natCast, e2, f1, f2, u8_or_nat _ _ g1 g2]
  unfold rotI rot
  have e3 : (n % ((8 : Nat) : Int)).toNat = q := by
    show (n % 8).toNat = q
    rw [← hR]; exact Int.toNat_natCast _
  rw [e3, Nat.mod_eq_of_lt (show q < 8 by omega), Int.toNat_natCast]
theorem i64_mask8 (n : Int) : bits .and .i64 n 7 = n % 8 := by
  have hm : (BitVec.ofInt 64 7).toNat = 2 ^ 3 - 1 := by decide
  have key : (BitVec.ofInt 64 n &&& BitVec.ofInt 64 7).toNat = (n % ((2 ^ 64 : Nat) : Int)).toNat % 2 ^ 3 := by
    rw [BitVec.toNat_and, BitVec.toNat_ofInt, hm, Nat.and_two_pow_sub_one_eq_mod]
  show IntKind.i64.wrap ((BitVec.ofInt 64 n &&& BitVec.ofInt 64 7).toNat : Nat) = n % 8
  rw [key, IntKind.wrap_i64]
  omega
theorem turn8 (x n : Int) (wx : (Lit.int .u8 x).wf = true) (wn : (Lit.int .i64 n).wf = true) (w : World) : Calls Tryz.prog 142 #[.int .u8 x, .int .i64 n] w fun e w' => e = .returned (.int .u8 (rotI 8 x n)) ∧ ∃ j, w' = w.drewN j := by
  obtain ⟨hx0, hx1⟩ := wf_u8 wx
  have hx2 : x < 256 := hx1
  clear wx wn
  have r0 := Int.emod_nonneg n (show (8 : Int) ≠ 0 by omega)
  have r1 := Int.emod_lt_of_pos n (show (0 : Int) < 8 by omega)
  have hmask := i64_mask8 n
  have E : Hid (bits .or .u8 (x * 2 ^ (n % 8).toNat % 256) (x / 2 ^ (8 - n % 8).toNat) = rotI 8 x n) := Lib.hid (rot8_eq x n _ hx0 hx1 rfl)
  go_enter Tryz.func142, Tryz.ntmps142
  go_wp2_with (go_at_call 163; refine (bits8 _).mono ?_; rintro e w' ⟨rfl, rfl⟩)
  go_quiet (fail)
  go_wp2
  go_ret
  exact ⟨ret_int E.out, _, rfl⟩

set_option maxRecDepth 100000 in
theorem len64_32 (w : World) : Calls Tryz.prog 175 #[.int .u64 4294967295] w fun e w' => e = .returned (.int .i64 32) ∧ w = w' := by
  go_enter Tryz.func175, Tryz.ntmps175
  go_wp2
  go_ret
  exact ⟨by kernel_rfl, rfl⟩
theorem bits32 (w : World) : Calls Tryz.prog 166 #[] w fun e w' => e = .returned (.int .i64 32) ∧ w = w' := by
  go_enter Tryz.func166, Tryz.ntmps166
  go_wp2_with (go_at_call 175; refine (len64_32 _).mono ?_; rintro e w' ⟨rfl, rfl⟩)
  go_ret
  exact ⟨by kernel_rfl, rfl⟩
theorem rot32_eq (x n R : Int) (h0 : 0 ≤ x) (h1 : x < 2 ^ 32) (hR : R = n % 32) : bits .or .u32 (x * 2 ^ R.toNat % 4294967296) (x / 2 ^ (32 - R).toNat) = rotI 32 x n := by
  have r0 := Int.emod_nonneg n (show (32 : Int) ≠ 0 by omega)
  have r1 := Int.emod_lt_of_pos n (show (0 : Int) < 32 by omega)
  rw [← hR] at r0 r1
  obtain ⟨y, rfl⟩ := Int.eq_ofNat_of_zero_le h0
  obtain ⟨q, rfl⟩ := Int.eq_ofNat_of_zero_le r0
  have e2 : ((32 : Int) - (q : Int)).toNat = 32 - q := by omega
  have f1 : ((y : Int) * 2 ^ q % 4294967296) = ((y * 2 ^ q % 4294967296 : Nat) : Int) := by simp
  have f2 : ((y : Int) / 2 ^ (32 - q)) = ((y / 2 ^ (32 - q) : Nat) : Int) := by simp
  have g1 : y * 2 ^ q % 4294967296 < 4294967296 := Nat.mod_lt _ (by omega)
  have g2 : y / 2 ^ (32 - q) < 4294967296 := Nat.lt_of_le_of_lt (Nat.div_le_self _ _) (by omega)
  rw [Int.toNat_natCast, e2, f1, f2, u32_or_nat _ _ g1 g2]
  unfold rotI rot
  have e3 : (n % ((32 : Nat) : Int)).toNat = q := by
    show (n % 32).toNat = q
    rw [← hR]; exact Int.toNat_natCast _
  rw [e3, Nat.mod_eq_of_lt (show q < 32 by omega), Int.toNat_natCast]
theorem i64_mask32 (n : Int) : bits .and .i64 n 31 = n % 32 := by
  have hm : (BitVec.ofInt 64 31).toNat = 2 ^ 5 - 1 := by decide
  have key : (BitVec.ofInt 64 n &&& BitVec.ofInt 64 31).toNat = (n % ((2 ^ 64 : Nat) : Int)).toNat % 2 ^ 5 := by
    rw [BitVec.toNat_and, BitVec.toNat_ofInt, hm, Nat.and_two_pow_sub_one_eq_mod]
  show IntKind.i64.wrap ((BitVec.ofInt 64 n &&& BitVec.ofInt 64 31).toNat : Nat) = n % 32
  rw [key, IntKind.wrap_i64]
  omega
theorem turn32 (x n : Int) (wx : (Lit.int .u32 x).wf = true) (wn : (Lit.int .i64 n).wf = true) (w : World) : Calls Tryz.prog 147 #[.int .u32 x, .int .i64 n] w fun e w' => e = .returned (.int .u32 (rotI 32 x n)) ∧ ∃ j, w' = w.drewN j := by
  obtain ⟨hx0, hx1⟩ := wf_u32 wx
  have hx2 : x < 4294967296 := hx1
  clear wx wn
  have r0 := Int.emod_nonneg n (show (32 : Int) ≠ 0 by omega)
  have r1 := Int.emod_lt_of_pos n (show (0 : Int) < 32 by omega)
  have hmask := i64_mask32 n
  have E : Hid (bits .or .u32 (x * 2 ^ (n % 32).toNat % 4294967296) (x / 2 ^ (32 - n % 32).toNat) = rotI 32 x n) := Lib.hid (rot32_eq x n _ hx0 hx1 rfl)
  go_enter Tryz.func147, Tryz.ntmps147
  go_wp2_with (go_at_call 166; refine (bits32 _).mono ?_; rintro e w' ⟨rfl, rfl⟩)
  go_quiet (fail)
  go_wp2
  go_ret
  exact ⟨ret_int E.out, _, rfl⟩

/-- The last n bytes of x, the greatest first. -/
def be (n : Nat) (x : Int) : List Int := (List.range n).map fun i => x / 2 ^ (8 * (n - 1 - i)) % 256
theorem length_be (n : Nat) (x : Int) : (be n x).length = n := by simp [be]
theorem be_take_succ (n : Nat) (x : Int) (i : Nat) (h : i < n) : (be n x).take (i + 1) = (be n x).take i ++ [x / 2 ^ (8 * (n - 1 - i)) % 256] := by
  have hl : i < (be n x).length := by rw [length_be]; exact h
  rw [List.take_succ_eq_append_getElem hl]
  congr 2
  simp [be]
theorem size32 (w : World) : Calls Tryz.prog 172 #[] w fun e w' => e = .returned (.int .i64 4) ∧ w = w' := by
  go_enter Tryz.func172, Tryz.ntmps172
  go_wp2_with (go_at_call 166; refine (bits32 _).mono ?_; rintro e w' ⟨rfl, rfl⟩)
  go_ret
  exact ⟨by kernel_rfl, rfl⟩

theorem put32 (a : Option Addr) (L cap : Nat) (l : List Int) (w : World) (hl : l.length = L) (hb : Bs w w.heap.size a l) (hL : L ≤ 140737488355328) (x : Int) (wx : (Lit.int .u32 x).wf = true) :
    Calls Tryz.prog 153 #[.slice a L cap, .int .u32 x] w fun e w' => ∃ g, e = .returned (.slice (some ⟨g, 0, none⟩) (L + 4) (L + 4)) ∧
      w'.ownsRow w.heap.size 5 1 (.slice (some ⟨g, 0, none⟩) (L + 4) (L + 4)) (L + 4) ((l ++ be 4 x).map (Value.int .u8)) ∧ Below w.heap.size w w' := by
  obtain ⟨hx0, hx1⟩ := wf_u32 wx
  clear wx
  have hx2 : x < 18446744073709551616 := by omega
  have hmk : ∀ W : World, (Instr.makeSlice 22 (.int .i64 (L : Int)) (.int .i64 ((L : Int) + 4))).run Tryz.prog W = .ok (.slice (some ⟨W.heap.size, 0, none⟩) L (L + 4)) (W.alloc (.cells (madeCells #[.int .u8 0] (L + 4)) 5)) := by
    intro W
    obtain ⟨i, hi, hz0, hz1, hz2⟩ := info_parts info5
    have := run_make (P := Tryz.prog) W 22 5 i _ Tryz.underlying22 hi hz0 .i64 .i64 (L : Int) ((L : Int) + 4) (by omega) (by omega) (by rw [hz2]; omega) (by omega)
    rw [this, hz1]
    have e1 : ((L : Int) + 4).toNat = L + 4 := by omega
    rw [e1]; simp
    rfl
  go_enter Tryz.func153, Tryz.ntmps153
  have k1 : (w.alloc (.cells (madeCells #[.int .u8 0] (L + 4)) 5)).heap[w.heap.size]? = some (.cells (madeCells #[.int .u8 0] (L + 4)).toList.toArray 5 (0, 0)) := by rw [Array.toArray_toList]; exact heap_alloc_new w _
  have k2 : (l.map (Value.int .u8)).length = Nat.min L L := by simp [hl]
  have k3 : 0 < (l.map (Value.int .u8)).length → ∃ ad, a = some ad ∧ ∀ j v, (l.map (Value.int .u8))[j]? = some v → (w.alloc (.cells (madeCells #[.int .u8 0] (L + 4)) 5)).cell? (ad.add j) = some v :=
    fun h0 => (hb.below ((Below.refl _ _).alloc (Nat.le_refl _) _)).cells h0
  have k4 : 0 + (l.map (Value.int .u8)).length ≤ (madeCells #[.int .u8 0] (L + 4)).toList.length := by simp [hl, size_madeCells]
  have k5 : Below w.heap.size w (w.alloc (.cells (madeCells #[.int .u8 0] (L + 4)) 5)) := (Below.refl _ _).alloc (Nat.le_refl _) _
  have K1 := Lib.hid k1; have K2 := Lib.hid k2; have K3 := Lib.hid k3
  clear k1 k2 k3
  go_wp2_with (first
    | (go_at_call 172; refine (size32 _).mono ?_; rintro e w' ⟨rfl, rfl⟩)
    | ((with_reducible show wpList _ _ _ (⟨some 19, _, _, _, _, _⟩ :: _) _ _); refine wpList_copy_splice (o := ⟨some 19, _, _, _, _, _⟩) rfl (.tmp 17) (.tmp 18) 22 22 rfl 5 Tryz.underlying22 size_u8 (some ⟨w.heap.size, 0, none⟩) a L (L + 4) L cap rfl rfl w.heap.size 0 (madeCells #[.int .u8 0] (L + 4)).toList 5 K1.out (l.map (Value.int .u8)) K2.out (fun h0 => ⟨rfl, K3.out h0⟩) k4 (ints_oneCell _ _) w.heap.size w k5 (Nat.le_refl _) ?_; intro w1 hg1 hb1))
  have own1 : w1.ownsRow w.heap.size 5 1 (.slice (some ⟨w.heap.size, 0, none⟩) L (L + 4)) L (l.map (Value.int .u8)) := by
    refine ⟨by simp [hl], .inr ⟨w.heap.size, L + 4, _, rfl, Nat.le_refl _, hg1.out, by omega, by unfold maxLen; omega, ?_, ?_⟩⟩
    · simp [splice_all, hl, size_madeCells]
    · simp [splice_all, hl]
  have hsz1 : w.heap.size < w1.heap.size := (own1.lt w.heap.size rfl).2
  clear hg1 K1 K2 K3 k4 k5
  go_loopw [6, 23] (fun out i wr => ∃ k : Nat, k ≤ 4 ∧ i = .int .i64 k ∧ out = .slice (some ⟨w.heap.size, 0, none⟩) (L + k) (L + 4) ∧
      wr.ownsRow w.heap.size 5 1 (.slice (some ⟨w.heap.size, 0, none⟩) (L + k) (L + 4)) (L + k) ((l ++ (be 4 x).take k).map (Value.int .u8)) ∧ Below w.heap.size w wr ∧ w.heap.size < wr.heap.size)
    (fun _ i _ => 4 - (intOf i).toNat)
  case atStart => exact ⟨0, by omega, rfl, rfl, by simpa using own1, hb1, hsz1⟩
  case round =>
    obtain ⟨k, hk, rfl, rfl, hown, hbel, hsz⟩ := hrel
    by_cases hlt : k < 4
    · have hap := (hown.alloc (.cells #[.int .u8 (x / 2 ^ (8 * (3 - k)) % 256)] 5))
      have hn1 : ∀ j u, [Value.int .u8 (x / 2 ^ (8 * (3 - k)) % 256)][j]? = some u → (wr.alloc (.cells #[.int .u8 (x / 2 ^ (8 * (3 - k)) % 256)] 5)).cell? ((⟨wr.heap.size, 0, none⟩ : Addr).add j) = some u := by
        intro j u hj
        match j, hj with
        | 0, hj => simp at hj; subst hj; simp [Addr.add]
      have hn2 : ∀ u ∈ [Value.int .u8 (x / 2 ^ (8 * (3 - k)) % 256)], u.oneCell' = true := by intro u hu; simp at hu; subst hu; rfl
      have hbt := be_take_succ 4 x k hlt
      have HAP := Lib.hid hap; have HN1 := Lib.hid hn1; have HN2 := Lib.hid hn2; have HBT := Lib.hid hbt
      clear hap hn1 hn2 hbt
      obtain ⟨i5, hi, hz0, hz1, hz2⟩ := info_parts info5
      have HI := Lib.hid hi
      have HZ := Lib.hid hz1
      clear hi hz0 hz1 hz2
      go_wp2_with (((with_reducible show wpList _ _ _ (⟨some 36, _, _, _, _, _⟩ :: _) _ _); go_loud (refine wpList_append_fits _ rfl (.tmp 26) (.tmp 35) 22 rfl w.heap.size 5 i5 1 Tryz.underlying22 HI.out HZ.out w.heap.size (L + k) (L + 4) _ rfl HAP.out ⟨wr.heap.size, 0, none⟩ 1 1 [.int .u8 (x / 2 ^ (8 * (3 - k)) % 256)] rfl rfl HN1.out HN2.out (by omega) ?_); intro w2 hown2 hg2))
      go_roundw
      case rel =>
        refine ⟨k + 1, by omega, by go_num, rfl, ?_, ?_, ?_⟩
        · rw [HBT.out, ← List.append_assoc, List.map_append]
          exact hown2
        · exact (hbel.alloc (by omega) _).grown hg2 (by simp <;> omega) (fun g hg => by injection hg with hg; omega)
        · have := hg2.size; simp at this; omega
      case measure => simp [intOf] <;> omega
    · have : k = 4 := by omega
      subst this
      go_wp2
      go_ret
      refine ⟨_, rfl, ?_, hbel⟩
      have e : (be 4 x).take 4 = be 4 x := List.take_of_length_le (by rw [length_be]; exact Nat.le_refl _)
      rw [e] at hown
      exact hown
/-- The number that bytes write, the greatest first. -/
def numB (l : List Int) : Int := l.foldl (fun s x => s * 256 + x) 0
theorem numB_snoc (l : List Int) (x : Int) : numB (l ++ [x]) = numB l * 256 + x := by simp [numB]
theorem numB_bound {l : List Int} (h : AllB l) : 0 ≤ numB l ∧ numB l < 256 ^ l.length := by
  obtain ⟨n, hn⟩ : ∃ n, n = l.length := ⟨_, rfl⟩
  induction n generalizing l with
  | zero => obtain rfl : l = [] := List.eq_nil_of_length_eq_zero hn.symm; simp [numB]
  | succ n ih =>
    obtain ⟨m, x, rfl⟩ : ∃ m x, l = m ++ [x] := by
      rcases List.eq_nil_or_concat l with rfl | ⟨m, x, e⟩
      · simp at hn
      · exact ⟨m, x, by simpa using e⟩
    have hm : n = m.length := by simp at hn; omega
    have hi := ih (l := m) (fun y hy => h y (List.mem_append_left _ hy)) hm
    have hx := h x (by simp)
    rw [numB_snoc, List.length_append, List.length_singleton, Int.pow_succ]
    generalize (256 : Int) ^ m.length = P at *
    omega
theorem take_snoc_getD {l : List Int} {k : Nat} (h : k < l.length) : l.take (k + 1) = l.take k ++ [l.getD k 0] := by
  rw [List.take_succ_eq_append_getElem h]
  simp [List.getD_eq_getElem?_getD, List.getElem?_eq_getElem h]
theorem numB_take_succ {l : List Int} {k : Nat} (h : k < l.length) : numB (l.take (k + 1)) = numB (l.take k) * 256 + l.getD k 0 := by
  rw [take_snoc_getD h, numB_snoc]
/-- What Get tells. -/
def getV (n : Nat) (l : List Int) : Int := if l.length < n then 0 else numB (l.take n)
theorem getV_few {n : Nat} {l : List Int} (h : l.length < n) : getV n l = 0 := by simp [getV, h]
theorem getV_num {n : Nat} {l : List Int} (h : n ≤ l.length) : getV n l = numB (l.take n) := by simp [getV, Nat.not_lt.2 h]
theorem or_byte {S X : Int} (h0 : 0 ≤ S) (h1 : S < 72057594037927936) (hx : 0 ≤ X ∧ X < 256) : bits .or .u64 (S * 256) X = S * 256 + X := by
  obtain ⟨s, rfl⟩ := Int.eq_ofNat_of_zero_le h0
  obtain ⟨x, rfl⟩ := Int.eq_ofNat_of_zero_le hx.1
  rw [show ((s : Int) * 256) = ((s * 256 : Nat) : Int) by simp, u64_or_nat _ _ (by omega) (by omega), nat_join 8 _ _ (by omega) (by omega)]
  simp
theorem ret_tup {k : IntKind} {a b : Int} {c d : Bool} (h : a = b) (g : c = d) : Ending.returned (.tuple #[.int k a, .bool c]) = .returned (.tuple #[.int k b, .bool d]) := by rw [h, g]
theorem pow_le_56 {k n : Nat} (h : k < n) (hn : n ≤ 8) : (256 : Int) ^ k ≤ 72057594037927936 := by
  have h1 : (256 : Nat) ^ k ≤ 72057594037927936 := Nat.le_trans (Nat.pow_le_pow_right (by omega) (show k ≤ 7 by omega)) (by decide)
  have h2 : ((256 ^ k : Nat) : Int) ≤ ((72057594037927936 : Nat) : Int) := Int.ofNat_le.2 h1
  rw [Int.natCast_pow] at h2
  exact h2

theorem get32 (a : Option Addr) (L c : Nat) (l : List Int) (w : World) (hl : l.length = L) (hB : AllB l) (hb : Bs w w.heap.size a l) (hL : L ≤ 9223372036854775807) :
    Calls Tryz.prog 164 #[.slice a L c] w fun e w' => e = .returned (.tuple #[.int .u32 (getV 4 l), .bool (decide (4 ≤ L))]) ∧ w = w' := by
  by_cases hs : L < 4
  · have HV := Lib.hid (getV_few (n := 4) (l := l) (by omega))
    have HD := Lib.hid (decide_eq_false (show ¬ 4 ≤ L by omega))
    go_enter Tryz.func164, Tryz.ntmps164
    go_wp2_with (go_at_call 172; refine (size32 _).mono ?_; rintro e w' ⟨rfl, rfl⟩)
    go_ret2
    exact ⟨ret_tup HV.out.symm HD.out.symm, rfl⟩
  · have HV := Lib.hid (getV_num (n := 4) (l := l) (by omega))
    have HD := Lib.hid (decide_eq_true (show 4 ≤ L by omega))
    have hs' : (4 : Int) ≤ (L : Int) := by omega
    go_enter Tryz.func164, Tryz.ntmps164
    go_wp2_with (go_at_call 172; refine (size32 _).mono ?_; rintro e w' ⟨rfl, rfl⟩)
    go_loop [5, 13] (fun v i => ∃ j : Nat, j ≤ 4 ∧ i = .int .i64 j ∧ v = .int .u64 (numB (l.take j))) (fun _ i => 4 - (intOf i).toNat)
    case atStart => exact ⟨0, by omega, rfl, rfl⟩
    case round =>
      obtain ⟨j, hj, rfl, rfl⟩ := hrel
      obtain ⟨S, hS⟩ : ∃ S, S = numB (l.take j) := ⟨_, rfl⟩
      have hbd := numB_bound (hB.take j)
      rw [List.length_take, Nat.min_eq_left (by omega), ← hS] at hbd
      rw [← hS]
      by_cases hlt : j < 4
      · have hp := pow_le_56 hlt (by omega)
        obtain ⟨b, off, rfl, _, hc⟩ := hb.at_ (k := j) (by omega)
        have hxb := allB_getD hB j
        have HN := Lib.hid (numB_take_succ (l := l) (k := j) (by omega))
        obtain ⟨X, hX⟩ : ∃ X, X = l.getD j 0 := ⟨_, rfl⟩
        rw [← hX] at hc hxb
        have HX := Lib.hid hX
        have HS := Lib.hid hS
        have s0 : 0 ≤ S := hbd.1
        have s1 : S < 72057594037927936 := by omega
        have hor := or_byte s0 s1 hxb
        clear hX hS hbd hp
        go_wp2
        go_round
        case rel => exact ⟨j + 1, by omega, by go_num, by rw [HN.out, ← HS.out, ← HX.out]⟩
        case measure => simp [intOf] <;> omega
      · obtain rfl : 4 = j := by omega
        have s0 : 0 ≤ S := hbd.1
        have s1 : S < 4294967296 := hbd.2
        have HS := Lib.hid hS
        clear hS hbd
        go_wp2
        go_ret2
        exact ⟨ret_tup (HS.out.trans HV.out.symm) HD.out.symm, rfl⟩

end Go.Proofs.YtappfdbmhgifcaaGreatDoor
/- Contracts of the cipher's shift, row and word. -/
namespace Go.Proofs.YtappfdbmhgifcaaGreatDoor
open Go.ChangeShapes Go.WideShapes Go.ChangeAt Go.RowKit
set_option linter.unusedVariables false
set_option maxRecDepth 100000

theorem shift_N (i : Nat) (hi : i < 4) (w : World) : Calls Tryz.prog 143 #[.int .i64 (i : Nat)] w fun e w' => e = .returned (.int .i64 ((8 * (3 - i) : Nat) : Int)) ∧ w = w' := by
  go_enter Tryz.func143, Tryz.ntmps143
  go_wp2
  go_ret
  exact ⟨ret_int (by omega), rfl⟩
theorem row_N (f : Nat → Nat) (hf : ∀ r, f r < 256) (i : Nat) (hi : i < 4) (w : World) : Calls Tryz.prog 165 #[.int .u32 ((wd f : Nat) : Int), .int .i64 (i : Nat)] w fun e w' => e = .returned (.int .u8 ((f i : Nat) : Int)) ∧ w = w' := by
  have HR := Lib.hid (wd_row hf hi)
  have hw := wd_lt hf
  obtain ⟨k, hk⟩ : ∃ k, k = 8 * (3 - i) := ⟨_, rfl⟩
  have HS := Lib.hid (shift_N i hi w)
  rw [← hk] at HR HS
  have hk2 : k ≤ 24 := by omega
  obtain ⟨x, hx⟩ : ∃ x, x = wd f := ⟨_, rfl⟩
  rw [← hx] at HR hw ⊢
  clear hx hk
  go_enter Tryz.func165, Tryz.ntmps165
  go_wp2_with (go_at_call 143; refine HS.out.mono ?_; rintro e w' ⟨rfl, rfl⟩)
  go_ret
  exact ⟨ret_int (by rw [← HR.out]; simp), rfl⟩
theorem qleft {P : Program} {f : FuncId} {args : Array Value} {w : World} {n : Nat} {v : Value} (h : Calls P f args (w.drewN n) fun e w' => e = .returned v ∧ w.drewN n = w') : Calls P f args (w.drewN n) fun e w'' => e = .returned v ∧ ∃ m, w'' = w.drewN m :=
  h.mono fun _ _ ⟨he, hm⟩ => ⟨he, n, hm.symm⟩
/-- So many bytes lie in a block from o on, as a table. -/
def Tb (w : World) (b o : Nat) (B : Nat → Nat) : Prop := b < w.heap.size ∧ ∀ j, j < 256 → w.cell? ⟨b, o + j, none⟩ = some (.int .u8 ((B j : Nat) : Int))
def Tp (w : World) (b o : Nat) (B : Nat → Nat) : Prop := b < w.heap.size ∧ ∀ j, j < 256 → w.cell? ⟨b, o + j, none⟩ = some (.int .u32 ((B j : Nat) : Int))
theorem Tb.on {w w' : World} {b o : Nat} {B : Nat → Nat} (h : Tb w b o B) (hb : Below w.heap.size w w') : Tb w' b o B :=
  ⟨Nat.lt_of_lt_of_le h.1 hb.size, fun j hj => (hb.cell (p := ⟨b, o + j, none⟩) h.1).trans (h.2 j hj)⟩
theorem Tp.on {w w' : World} {b o : Nat} {B : Nat → Nat} (h : Tp w b o B) (hb : Below w.heap.size w w') : Tp w' b o B :=
  ⟨Nat.lt_of_lt_of_le h.1 hb.size, fun j hj => (hb.cell (p := ⟨b, o + j, none⟩) h.1).trans (h.2 j hj)⟩
theorem Tb.drewN {w : World} {b o : Nat} {B : Nat → Nat} (h : Tb w b o B) (n : Nat) : Tb (w.drewN n) b o B := h
theorem Tp.drewN {w : World} {b o : Nat} {B : Nat → Nat} (h : Tp w b o B) (n : Nat) : Tp (w.drewN n) b o B := h

theorem pow_le24 {k : Nat} (hk : k ≤ 24) : 2 ^ k ≤ 16777216 := by
  have := Nat.pow_le_pow_right (show 0 < 2 by omega) hk
  exact this
theorem or_shl {P y k : Nat} (hP : P < 4294967296) (hy : y < 256) (hk : k ≤ 24) : bits .or .u32 (P : Int) ((y : Int) * 2 ^ k % 4294967296) = ((P ||| (y * 2 ^ k) : Nat) : Int) := by
  have h1 := pow_le24 hk
  have h2 : y * 2 ^ k < 4294967296 := Nat.lt_of_le_of_lt (Nat.mul_le_mul (show y ≤ 255 by omega) h1) (by decide)
  have e : ((y : Int) * 2 ^ k % 4294967296) = ((y * 2 ^ k : Nat) : Int) := by
    have : ((y : Int) * 2 ^ k) = ((y * 2 ^ k : Nat) : Int) := by simp
    rw [this]; omega
  rw [e, u32_or_nat _ _ hP h2]
theorem bword_N (b o : Nat) (B : Nat → Nat) (hB : ∀ x, B x < 256) (f : Nat → Nat) (hf : ∀ r, f r < 256) (w : World) (ht : Tb w b o B) :
    Calls Tryz.prog 146 #[.pointer (some ⟨b, o, none⟩), .int .u32 ((wd f : Nat) : Int)] w fun e w' => e = .returned (.int .u32 ((wd (fun r => B (f r)) : Nat) : Int)) ∧ ∃ q, w' = w.drewN q := by
  have hF : ∀ r, B (f r) < 256 := fun r => hB _
  have HF := Lib.hid hF
  have HT := Lib.hid ht
  have HFF := Lib.hid hf
  clear hF ht hf hB
  obtain ⟨X, hX⟩ : ∃ X, X = wd f := ⟨_, rfl⟩
  rw [← hX]
  have HX := Lib.hid hX
  clear hX
  go_enter Tryz.func146, Tryz.ntmps146
  go_wp2
  go_loopw [5, 7] (fun out s wr => ∃ i : Nat, i ≤ 4 ∧ s = .int .i64 (i : Nat) ∧ out = .int .u32 ((wdp (fun r => B (f r)) i : Nat) : Int) ∧ ∃ q, wr = w.drewN q) (fun _ s _ => 4 - (intOf s).toNat)
  case atStart => exact ⟨0, by omega, rfl, by rw [wdp_zero]; rfl, 0, rfl⟩
  case round =>
    obtain ⟨i, hi, rfl, rfl, q, hq⟩ := hrel
    have HQ := Lib.hid hq
    clear hq
    rename World => W
    by_cases hlt : i < 4
    · have HTW : Tb W b o B := by rw [HQ.out]; exact HT.out
      have hcell := HTW.2 (f i) (HFF.out i)
      clear HTW
      have hbi := HF.out i
      have HOR := Lib.hid (wdp_or HF.out hlt)
      have hP := wdp_lt HF.out i
      have HROW := Lib.hid (row_N f HFF.out i hlt)
      have HSH := Lib.hid (shift_N i hlt)
      rw [← HX.out] at HROW
      obtain ⟨k, hk⟩ : ∃ k, k = 8 * (3 - i) := ⟨_, rfl⟩
      rw [← hk] at HOR HSH
      have hk2 : k ≤ 24 := by omega
      obtain ⟨P, hPP⟩ : ∃ P, P = wdp (fun r => B (f r)) i := ⟨_, rfl⟩
      rw [← hPP] at HOR hP ⊢
      obtain ⟨y, hy⟩ : ∃ y, y = B (f i) := ⟨_, rfl⟩
      rw [← hy] at HOR hbi hcell
      obtain ⟨z, hz⟩ : ∃ z, z = f i := ⟨_, rfl⟩
      rw [← hz] at hcell HROW
      have hz2 : z < 256 := by rw [hz]; exact HFF.out i
      have hz3 : (z : Int) < 256 := by omega
      have hz4 : (0 : Int) ≤ (z : Int) := by omega
      have hor := or_shl hP hbi hk2
      rw [HOR.out] at hor
      clear hk hPP hy hz
      go_wp2_with fail
      go_quiet (first
        | (go_at_call 165; exact qleft (HROW.out _))
        | (go_at_call 143; exact qleft (HSH.out _)))
      go_wp2
      go_roundw
      case rel => exact ⟨i + 1, by omega, by go_num, rfl, _, by rw [HQ.out]; exact World.drewN_drewN _ _ _⟩
      case measure => simp [intOf]; omega
    · obtain rfl : i = 4 := by omega
      rw [wdp_all]
      go_wp2
      go_ret
      exact ⟨rfl, _, HQ.out⟩
end Go.Proofs.YtappfdbmhgifcaaGreatDoor
/- Contracts of the cipher's tables: boxOf, undone, productBy. -/
namespace Go.Proofs.YtappfdbmhgifcaaGreatDoor
open Go.ChangeShapes Go.WideShapes Go.ChangeAt Go.RowKit
set_option linter.unusedVariables false
set_option maxRecDepth 100000

theorem infoB : (Tryz.prog.info? 147).map (fun i => (i.zero, i.size)) = some (some (.agg (Array.replicate 256 (.int .u8 0))), 256) := by kernel_rfl
theorem infoPr : (Tryz.prog.info? 150).map (fun i => (i.zero, i.size)) = some (some (.agg (Array.replicate 256 (.int .u32 0))), 256) := by kernel_rfl
theorem size_box : (Tryz.prog.info? 147).map (·.size) = some 256 := by kernel_rfl
/-- The box behind n of the sums. -/
def affp (v : Nat) : Nat → Nat
  | 0 => 99
  | n + 1 => affp v n ^^^ rot 8 v n
theorem affp_lt {v : Nat} (hv : v < 256) : ∀ n, affp v n < 256
  | 0 => by show 99 < 256; omega
  | n + 1 => xor_lt (affp_lt hv n) (rot_lt (k := 8) hv)
theorem k_affp : allLt 256 (fun v => affp v 5 == aff v) = true := by decide +kernel
theorem affp_all {v : Nat} (h : v < 256) : affp v 5 = aff v := by have := allLt_at k_affp v h; simpa using this
def boxI (i j : Nat) : Value := .int .u8 (((if j < i then box j else 0 : Nat)) : Int)
def boxJ (i x n j : Nat) : Value := .int .u8 (((if j = i then affp x n else if j < i then box j else 0 : Nat)) : Int)
theorem mk8 {x : Int} (h0 : 0 ≤ x) (h1 : x < 256) : (Lit.int .u8 x).wf = true := by simp [Lit.wf, IntKind.min, IntKind.max, IntKind.signed, IntKind.bits]; omega
theorem mk32 {x : Int} (h0 : 0 ≤ x) (h1 : x < 4294967296) : (Lit.int .u32 x).wf = true := by simp [Lit.wf, IntKind.min, IntKind.max, IntKind.signed, IntKind.bits]; omega
theorem mk64 {x : Int} (h0 : -9223372036854775808 ≤ x) (h1 : x ≤ 9223372036854775807) : (Lit.int .i64 x).wf = true := by simp [Lit.wf, IntKind.min, IntKind.max, IntKind.signed, IntKind.bits]; omega
theorem add_N (x y : Nat) (hx : x < 256) (hy : y < 256) (w : World) : Calls Tryz.prog 56 #[.int .u8 (x : Nat), .int .u8 (y : Nat)] w fun e w' => e = .returned (.int .u8 ((x ^^^ y : Nat) : Int)) ∧ w = w' :=
  add_I (x : Nat) (y : Nat) (by omega) (by omega) w
theorem turn8_N (x n : Nat) (hx : x < 256) (hn : n < 8) (w : World) : Calls Tryz.prog 142 #[.int .u8 (x : Nat), .int .i64 (n : Nat)] w fun e w' => e = .returned (.int .u8 ((rot 8 x n : Nat) : Int)) ∧ ∃ j, w' = w.drewN j := by
  refine (turn8 (x : Nat) (n : Nat) (mk8 (by omega) (by omega)) (mk64 (by omega) (by omega)) w).mono fun e w' ⟨h1, h2⟩ => ⟨?_, h2⟩
  rw [h1]
  refine ret_int ?_
  unfold rotI
  have e1 : ((n : Int) % ((8 : Nat) : Int)).toNat = n := by omega
  rw [e1, Int.toNat_natCast]
theorem inv_any (b x : Nat) (w : World) (hf : Fld w b) (hx : x < 256) : Calls Tryz.prog 141 #[.pointer (some ⟨b, 0, none⟩), .int .u8 (x : Nat)] w fun e w' => ∃ c : Int, e = .returned (.tuple #[.int .u8 ((inv x : Nat) : Int), .int .i64 c]) ∧ w = w' := by
  by_cases h0 : x = 0
  · subst h0
    exact (inv_zero b w).mono fun e w' ⟨h1, h2⟩ => ⟨7, h1, h2⟩
  · exact (inv_ok b x w hf hx h0).mono fun e w' ⟨h1, h2⟩ => ⟨0, h1, h2⟩
set_option maxHeartbeats 1000000 in
theorem boxOf_any (fb : Nat) (w : World) (hf : Fld w fb) :
    Calls Tryz.prog 122 #[.pointer (some ⟨fb, 0, none⟩)] w fun e w' => e = .returned (.agg (tabV 256 fun j => .int .u8 ((box j : Nat) : Int))) ∧ Below w.heap.size w w' := by
  obtain ⟨hz, hi⟩ := zero_of_info infoB
  rw [replicate_tabV] at hz
  obtain ⟨c0, hc0⟩ : ∃ c0 : Array Value, c0 = tabV 256 fun _ => .int .u8 0 := ⟨_, rfl⟩
  rw [← hc0] at hz
  have hsz : c0.size = 256 := by rw [hc0, size_tabV]
  have h1 : c0.all (·.oneCell') = true := by rw [hc0]; exact tabV_one fun _ => rfl
  obtain ⟨W0, hW0⟩ : ∃ W, W = w.alloc (.cells c0 147) := ⟨_, rfl⟩
  have hs0 : W0.heap.size = w.heap.size + 1 := by rw [hW0]; simp
  have HR0 := Lib.hid (show Blk W0 w.heap.size 147 256 (fun _ => .int .u8 0) by rw [hW0, hc0]; exact Blk.made _ _ _ _)
  have HB0 := Lib.hid (show Below w.heap.size w W0 by rw [hW0]; exact (Below.refl _ _).alloc (Nat.le_refl _) _)
  have hsc : (storeCells ⟨w.heap.size + 1, 0, none⟩ c0.toList 0).run Tryz.prog (W0.alloc (.cells c0 147)) = .ok () (W0.alloc (.cells c0 147)) := by
    have h := run_storeCells_new (P := Tryz.prog) W0 147 c0 c0 (by rw [hi, hsz]) rfl h1
    rw [hs0] at h
    exact h
  rw [hW0] at hsc
  have HF := Lib.hid (hf.below HB0.out)
  have HC0 := Lib.hid hc0
  have HW0 := Lib.hid hW0
  have HS0 := Lib.hid hs0
  clear hc0 hf hi h1 hW0 hs0
  go_enter Tryz.func122, Tryz.ntmps122
  go_wp2_with fail
  clear hsc hz hsz
  rw [← HW0.out, ← HS0.out]
  obtain ⟨b2, hb2⟩ : ∃ b, b = w.heap.size := ⟨_, rfl⟩
  obtain ⟨b3, hb3⟩ : ∃ b, b = W0.heap.size := ⟨_, rfl⟩
  have HBK := Lib.hid (show Blk (W0.alloc (.cells c0 147)) b3 147 256 (boxI 0) by
    rw [HC0.out, hb3]
    exact (Blk.made _ _ _ _).congr fun j hj => by unfold boxI; rw [if_neg (by omega)]; rfl)
  rw [← hb2] at HR0
  have HBE := Lib.hid (show Below b3 W0 (W0.alloc (.cells c0 147)) by rw [hb3]; exact (Below.refl _ _).alloc (Nat.le_refl _) _)
  have HLT := Lib.hid (show b2 < b3 by rw [hb2, hb3, HS0.out]; omega)
  have HLE := Lib.hid (show W0.heap.size ≤ b3 by rw [hb3]; exact Nat.le_refl _)
  rw [← hb2, ← hb3]
  have HB2 := Lib.hid hb2
  clear hb2 hb3 HC0 HS0 HW0
  go_loopw [9] (fun s wr => ∃ i : Nat, i ≤ 256 ∧ s = .int .i64 (i : Nat) ∧ Blk wr b3 147 256 (boxI i) ∧ Below b3 W0 wr) (fun s _ => 256 - (intOf s).toNat)
  case atStart => exact ⟨0, by omega, rfl, HBK.out, HBE.out⟩
  case round =>
    obtain ⟨i, hi, rfl, hK, hB⟩ := hrel
    have HK := Lib.hid hK
    have HB := Lib.hid hB
    clear hK hB HBK HBE
    by_cases hlt : i < 256
    · have qi : (i : Int) < 256 := by omega
      have qi0 : (0 : Int) ≤ (i : Int) := by omega
      have qw : IntKind.u8.wrap (i : Int) = (i : Int) := by rw [IntKind.wrap_u8]; omega
      have hfr := HK.out.free i
      have hcell0 := HK.out.cell hlt
      have HINV := Lib.hid (inv_any fb i _ ((HF.out.below (HB.out.mono (by have := HLE.out; omega)))) hlt)
      rename World => wr
      go_upto_region 8 with (go_at_call 141; refine HINV.out.mono ?_; rintro e w' ⟨c, rfl, rfl⟩)
      have hxl := inv_lt i
      obtain ⟨x, hx⟩ : ∃ x, x = inv i := ⟨_, rfl⟩
      rw [← hx] at hxl ⊢
      have HX := Lib.hid hx
      have HK8 := Lib.hid ((HK.out.set hlt (.int .u8 99)).congr (h := boxJ i x 0) fun j hj => by
        unfold boxJ boxI
        by_cases e : j = i
        · rw [if_pos e, if_pos e]; rfl
        · rw [if_neg e, if_neg e])
      have HB8 := Lib.hid (HB.out.setCell (p := ⟨b3, i, none⟩) (Nat.le_refl _) (.int .u8 99))
      clear hx hfr hcell0
      go_loopw [21] (fun s W => ∃ n : Nat, n ≤ 5 ∧ s = .int .i64 (n : Nat) ∧ Blk W b3 147 256 (boxJ i x n) ∧ Below b3 W0 W) (fun s _ => 5 - (intOf s).toNat)
      case atStart => exact ⟨0, by omega, rfl, HK8.out, HB8.out⟩
      case round =>
        obtain ⟨n, hn, rfl, hK, hB⟩ := hrel
        have HKn := Lib.hid hK
        have HBn := Lib.hid hB
        clear hK hB
        rename World => W
        by_cases hln : n < 5
        · have hcell := HKn.out.cell hlt
          have hcell2 : W.cell? ⟨b3, i, none⟩ = some (.int .u8 ((affp x n : Nat) : Int)) := by rw [hcell]; unfold boxJ; rw [if_pos rfl]
          have hfr := HKn.out.free i
          have hp := affp_lt hxl n
          have hr := rot_lt (k := 8) (s := n) hxl
          have hstep : affp x (n + 1) = affp x n ^^^ rot 8 x n := rfl
          have HST := Lib.hid hstep
          have HTU := Lib.hid (turn8_N x n hxl (by omega))
          obtain ⟨u, hu⟩ : ∃ u, u = affp x n := ⟨_, rfl⟩
          obtain ⟨v, hv⟩ : ∃ v, v = rot 8 x n := ⟨_, rfl⟩
          rw [← hu] at hcell2 hp HST
          rw [← hv] at hr HST HTU
          have qn : (n : Int) < 5 := by omega
          clear hcell hu hv hstep
          go_wp2_with fail
          go_region_with (first
            | (go_at_call 142; refine (HTU.out _).mono ?_; rintro e w' ⟨rfl, q, rfl⟩)
            | (go_at_call 56; refine (add_N u v hp hr _).mono ?_; rintro e w' ⟨rfl, rfl⟩))
          all_goals
            go_wp2
            go_roundw
            case rel =>
              refine ⟨n + 1, by omega, by go_num, ((HKn.out.drewN _).set hlt _).congr fun j hj => ?_, (below_drewN HBn.out _).setCell (p := ⟨b3, i, none⟩) (Nat.le_refl _) _⟩
              unfold boxJ
              by_cases e : j = i
              · rw [if_pos e, if_pos e, HST.out]
              · rw [if_neg e, if_neg e, if_neg e]
            case measure => simp [intOf]; omega
        · obtain rfl : n = 5 := by omega
          have HKN := Lib.hid (HKn.out.congr (h := boxI (i + 1)) fun j hj => by
            unfold boxJ boxI
            by_cases e : j = i
            · rw [if_pos e, if_pos (by omega), affp_all hxl, HX.out, e]; rfl
            · rw [if_neg e]
              by_cases e2 : j < i
              · rw [if_pos e2, if_pos (by omega)]
              · rw [if_neg e2, if_neg (by omega)])
          go_wp2
          go_roundw
          case rel => exact ⟨i + 1, by omega, by go_num, HKN.out, HBn.out⟩
          case measure => simp [intOf]; omega
    · obtain rfl : i = 256 := by omega
      rename World => wr
      have HK3 := Lib.hid (HK.out.congr (h := fun j => .int .u8 ((box j : Nat) : Int)) fun j hj => by unfold boxI; rw [if_pos hj])
      have HR2 := Lib.hid (HR0.out.on HB.out HLT.out)
      have hone : (tabV 256 fun j => (Value.int .u8 ((box j : Nat) : Int))).all (·.oneCell') = true := tabV_one fun _ => rfl
      have hsi : (Tryz.prog.info? 147).map (·.size) = some (tabV 256 fun j => (Value.int .u8 ((box j : Nat) : Int))).size := by rw [size_tabV]; exact size_box
      have hso : (tabV 256 fun _ => (Value.int .u8 0)).size = (tabV 256 fun j => (Value.int .u8 ((box j : Nat) : Int))).size := by rw [size_tabV, size_tabV]
      have HR3 := Lib.hid (HR2.out.row (fun j => .int .u8 ((box j : Nat) : Int)))
      have HBF := Lib.hid (show Below w.heap.size w (wr.setRow b2 (tabV 256 fun j => .int .u8 ((box j : Nat) : Int))) from by
        have h1 : Below w.heap.size w wr := HB0.out.trans (HB.out.mono (by have := HLT.out; rw [HB2.out] at this; omega))
        exact below_setRow h1 (by rw [HB2.out]; exact Nat.le_refl _) _)
      obtain ⟨cs, hcs⟩ : ∃ cs, cs = tabV 256 fun j => (Value.int .u8 ((box j : Nat) : Int)) := ⟨_, rfl⟩
      unfold Blk at HK3 HR3
      rw [← hcs] at HK3 HR3 HBF hone hsi hso
      have HCS := Lib.hid hcs
      have HS1 := Lib.hid hsi
      have HS2 := Lib.hid hso
      have HS3 := Lib.hid hone
      clear hcs hsi hso hone
      go_wp2_with (first
        | ((with_reducible show wpList _ _ _ (⟨some 35, _, _, _, _, _⟩ :: _) _ _); refine wpList_load_row rfl 147 (.tmp 3) rfl b3 rfl _ cs _ _ HK3.out Tryz.underlying147 rfl HS1.out ?_)
        | ((with_reducible show wpList _ _ _ (⟨none, _, _, _, _, _⟩ :: _) _ _); refine wpList_store_row rfl 147 (.tmp 2) (.tmp 35) rfl b2 cs rfl rfl _ _ HR2.out HS1.out HS2.out HS3.out ?_))
      refine bodyPost_ret (v := .agg cs) (results_cell_row rfl _ _ b2 _ cs _ _ rfl HR3.out Tryz.underlying147 rfl HS1.out) rfl ⟨by rw [HCS.out], HBF.out⟩
end Go.Proofs.YtappfdbmhgifcaaGreatDoor
/- Contracts of the cipher's tables: productBy, undone. -/
namespace Go.Proofs.YtappfdbmhgifcaaGreatDoor
open Go.ChangeShapes Go.WideShapes Go.ChangeAt Go.RowKit
set_option linter.unusedVariables false
set_option maxRecDepth 100000

theorem size_pr : (Tryz.prog.info? 150).map (·.size) = some 256 := by kernel_rfl
theorem size_by : (Tryz.prog.info? 152).map (·.size) = some 4 := by kernel_rfl
theorem index_by (p : Nat → Nat) {k : Nat} (hk : k < 4) (w : World) : (Instr.index 152 (.agg (tabV 4 fun j => .int .u8 ((p j : Nat) : Int))) (.int .i64 (k : Nat))).run Tryz.prog w = .ok (.int .u8 ((p k : Nat) : Int)) w := by
  rcases lt4 hk with rfl | rfl | rfl | rfl <;> kernel_rfl
/-- The product's table. -/
def prt (p : Nat → Nat) (j : Nat) : Nat := wd fun k => gm j (p k)
def prtI (p : Nat → Nat) (i j : Nat) : Value := .int .u32 (((if j < i then prt p j else 0 : Nat)) : Int)
def prtJ (p : Nat → Nat) (i k j : Nat) : Value := .int .u32 (((if j = i then wdp (fun r => gm i (p r)) k else if j < i then prt p j else 0 : Nat)) : Int)
set_option maxHeartbeats 1000000 in
theorem productBy_any (fb : Nat) (p : Nat → Nat) (hp : ∀ k, p k < 256) (w : World) (hf : Fld w fb) :
    Calls Tryz.prog 123 #[.pointer (some ⟨fb, 0, none⟩), .agg (tabV 4 fun j => .int .u8 ((p j : Nat) : Int))] w fun e w' => e = .returned (.agg (tabV 256 fun j => .int .u32 ((prt p j : Nat) : Int))) ∧ Below w.heap.size w w' := by
  obtain ⟨hz, hi⟩ := zero_of_info infoPr
  rw [replicate_tabV] at hz
  obtain ⟨by_, hby⟩ : ∃ c : Array Value, c = tabV 4 fun j => .int .u8 ((p j : Nat) : Int) := ⟨_, rfl⟩
  rw [← hby]
  obtain ⟨c0, hc0⟩ : ∃ c0 : Array Value, c0 = tabV 256 fun _ => .int .u32 0 := ⟨_, rfl⟩
  rw [← hc0] at hz
  have hsz : c0.size = 256 := by rw [hc0, size_tabV]
  have h1 : c0.all (·.oneCell') = true := by rw [hc0]; exact tabV_one fun _ => rfl
  obtain ⟨V0, hV0⟩ : ∃ W, W = w.alloc (.cells by_ 152) := ⟨_, rfl⟩
  obtain ⟨W0, hW0⟩ : ∃ W, W = V0.alloc (.cells c0 150) := ⟨_, rfl⟩
  have hs0 : W0.heap.size = w.heap.size + 1 + 1 := by rw [hW0, hV0]; simp
  have HR1 := Lib.hid (show Blk V0 w.heap.size 152 4 (fun j => .int .u8 ((p j : Nat) : Int)) by rw [hV0, hby]; exact Blk.made _ _ _ _)
  have HBV := Lib.hid (show Below w.heap.size w V0 by rw [hV0]; exact (Below.refl _ _).alloc (Nat.le_refl _) _)
  have HBVW := Lib.hid (show Below V0.heap.size V0 W0 by rw [hW0]; exact (Below.refl _ _).alloc (Nat.le_refl _) _)
  have hsV : V0.heap.size = w.heap.size + 1 := by rw [hV0]; simp
  have HR0 := Lib.hid (show Blk W0 (w.heap.size + 1) 150 256 (fun _ => .int .u32 0) by rw [← hsV, hW0, hc0]; exact Blk.made _ _ _ _)
  have HB0 := Lib.hid (show Below w.heap.size w W0 from bt HBV.out HBVW.out)
  have hsc : (storeCells ⟨w.heap.size + 1 + 1, 0, none⟩ c0.toList 0).run Tryz.prog (W0.alloc (.cells c0 150)) = .ok () (W0.alloc (.cells c0 150)) := by
    have h := run_storeCells_new (P := Tryz.prog) W0 150 c0 c0 (by rw [hi, hsz]) rfl h1
    rw [hs0] at h
    exact h
  rw [hW0, hV0] at hsc
  have HF := Lib.hid (hf.below HB0.out)
  have HC0 := Lib.hid hc0
  have HW0 := Lib.hid (show W0 = (w.alloc (.cells by_ 152)).alloc (.cells c0 150) by rw [hW0, hV0])
  have HS0 := Lib.hid hs0
  have HBY := Lib.hid hby
  have HSV := Lib.hid hsV
  clear hc0 hf hi h1 hW0 hs0 hby hV0 hsV
  go_enter Tryz.func123, Tryz.ntmps123
  go_wp2_with fail
  clear hsc hz hsz
  rw [← HW0.out, ← HS0.out]
  obtain ⟨b1, hb1⟩ : ∃ b, b = w.heap.size := ⟨_, rfl⟩
  obtain ⟨b2, hb2⟩ : ∃ b, b = w.heap.size + 1 := ⟨_, rfl⟩
  obtain ⟨b3, hb3⟩ : ∃ b, b = W0.heap.size := ⟨_, rfl⟩
  have HBK := Lib.hid (show Blk (W0.alloc (.cells c0 150)) b3 150 256 (prtI p 0) by
    rw [HC0.out, hb3]
    exact (Blk.made _ _ _ _).congr fun j hj => by unfold prtI; rw [if_neg (by omega)]; rfl)
  have HBE := Lib.hid (show Below b3 W0 (W0.alloc (.cells c0 150)) by rw [hb3]; exact (Below.refl _ _).alloc (Nat.le_refl _) _)
  have HB1 := Lib.hid (show Blk W0 b1 152 4 (fun j => .int .u8 ((p j : Nat) : Int)) by rw [hb1]; exact HR1.out.on HBVW.out (by rw [HSV.out]; omega))
  rw [← hb2] at HR0
  have HLT := Lib.hid (show b1 < b3 ∧ b2 < b3 ∧ w.heap.size ≤ b2 by rw [hb1, hb2, hb3, HS0.out]; omega)
  have HLE := Lib.hid (show W0.heap.size ≤ b3 ∧ w.heap.size ≤ b3 by rw [hb3, HS0.out]; omega)
  rw [← hb2, ← hb1, ← hb3]
  have HP := Lib.hid hp
  clear hb1 hb2 hb3 HC0 HS0 HW0 HR1 HBV HBVW HSV hp
  go_loopw [10] (fun s wr => ∃ i : Nat, i ≤ 256 ∧ s = .int .i64 (i : Nat) ∧ Blk wr b3 150 256 (prtI p i) ∧ Below b3 W0 wr) (fun s _ => 256 - (intOf s).toNat)
  case atStart => exact ⟨0, by omega, rfl, HBK.out, HBE.out⟩
  case round =>
    obtain ⟨i, hi, rfl, hK, hB⟩ := hrel
    have HK := Lib.hid hK
    have HB := Lib.hid hB
    clear hK hB HBK HBE
    by_cases hlt : i < 256
    · have qi : (i : Int) < 256 := by omega
      have qi0 : (0 : Int) ≤ (i : Int) := by omega
      have qw : IntKind.u8.wrap (i : Int) = (i : Int) := by rw [IntKind.wrap_u8]; omega
      have HL := Lib.hid (HB1.out.on HB.out HLT.out.1)
      have HSY := Lib.hid (show (Tryz.prog.info? 152).map (·.size) = some by_.size by rw [HBY.out, size_tabV]; exact size_by)
      rename World => wr
      unfold Blk at HL
      rw [← HBY.out] at HL
      go_upto_region 6 with ((with_reducible show wpList _ _ _ (⟨some 13, _, _, _, _, _⟩ :: _) _ _); refine wpList_load_row rfl 152 (.tmp 3) rfl b1 rfl _ by_ _ _ HL.out Tryz.underlying152 rfl HSY.out ?_)
      have HK8 := Lib.hid (HK.out.congr (h := prtJ p i 0) fun j hj => by
        unfold prtJ prtI
        by_cases e : j = i
        · rw [if_neg (by omega), if_pos e, wdp_zero]
        · rw [if_neg e])
      go_loopw [14] (fun s W => ∃ k : Nat, k ≤ 4 ∧ s = .int .i64 (k : Nat) ∧ Blk W b3 150 256 (prtJ p i k) ∧ Below b3 W0 W) (fun s _ => 4 - (intOf s).toNat)
      case atStart => exact ⟨0, by omega, rfl, HK8.out, HB.out⟩
      case round =>
        obtain ⟨k, hk, rfl, hK, hB⟩ := hrel
        have HKn := Lib.hid hK
        have HBn := Lib.hid hB
        clear hK hB
        rename World => W
        by_cases hlk : k < 4
        · have hcell := HKn.out.cell hlt
          unfold prtJ at hcell
          rw [if_pos rfl] at hcell
          have hfr := HKn.out.free i
          have hix : ∀ w : World, (Instr.index 152 (.agg by_) (.int .i64 (k : Nat))).run Tryz.prog w = .ok (.int .u8 ((p k : Nat) : Int)) w := by rw [HBY.out]; exact index_by p hlk
          have hF : ∀ r, (fun r => gm i (p r)) r < 256 := fun r => gm_lt _ _
          have hOR := wdp_or hF hlk
          have hP := wdp_lt hF k
          have hyl := gm_lt i (p k)
          have HMU := Lib.hid (fun W hW => mul_N fb i (p k) W hW hlt (HP.out k))
          have HFW := Lib.hid (HF.out.below (HBn.out.mono HLE.out.1))
          have HSH := Lib.hid (shift_N k hlk)
          obtain ⟨sh, hsh⟩ : ∃ sh, sh = 8 * (3 - k) := ⟨_, rfl⟩
          rw [← hsh] at hOR HSH
          have hs2 : sh ≤ 24 := by omega
          obtain ⟨u, hu⟩ : ∃ u, u = wdp (fun r => gm i (p r)) k := ⟨_, rfl⟩
          obtain ⟨v, hv⟩ : ∃ v, v = gm i (p k) := ⟨_, rfl⟩
          rw [← hu] at hcell hP hOR
          rw [← hv] at hyl HMU
          rw [← hv] at hOR
          have hor := or_shl hP hyl hs2
          rw [hOR] at hor
          have qk : (k : Int) < 4 := by omega
          have qk0 : (0 : Int) ≤ (k : Int) := by omega
          clear hF hOR hu hv hsh
          go_wp2_with fail
          go_region_with (first
            | (go_at_call 104; refine (HMU.out _ (by exact HFW.out)).mono ?_; rintro e w' ⟨rfl, rfl⟩)
            | (go_at_call 143; refine (HSH.out _).mono ?_; rintro e w' ⟨rfl, rfl⟩))
          all_goals
            go_wp2
            go_roundw
            case rel =>
              refine ⟨k + 1, by omega, by go_num, ((HKn.out.drewN 1).set hlt _).congr fun j hj => ?_, (below_drewN HBn.out 1).setCell (p := ⟨b3, i, none⟩) (Nat.le_refl _) _⟩
              unfold prtJ
              by_cases e : j = i
              · rw [if_pos e, if_pos e, hor]
              · rw [if_neg e, if_neg e, if_neg e]
            case measure => simp [intOf]; omega
        · obtain rfl : k = 4 := by omega
          have HKN := Lib.hid (HKn.out.congr (h := prtI p (i + 1)) fun j hj => by
            unfold prtJ prtI
            by_cases e : j = i
            · rw [if_pos e, if_pos (by omega), wdp_all, e]; rfl
            · rw [if_neg e]
              by_cases e2 : j < i
              · rw [if_pos e2, if_pos (by omega)]
              · rw [if_neg e2, if_neg (by omega)])
          go_wp2
          go_roundw
          case rel => exact ⟨i + 1, by omega, by go_num, HKN.out, HBn.out⟩
          case measure => simp [intOf]; omega
    · obtain rfl : i = 256 := by omega
      rename World => wr
      have HK3 := Lib.hid (HK.out.congr (h := fun j => .int .u32 ((prt p j : Nat) : Int)) fun j hj => by unfold prtI; rw [if_pos hj])
      have HR2 := Lib.hid (HR0.out.on HB.out HLT.out.2.1)
      have HS3 := Lib.hid (show (tabV 256 fun j => (Value.int .u32 ((prt p j : Nat) : Int))).all (·.oneCell') = true from tabV_one fun _ => rfl)
      have HS1 := Lib.hid (show (Tryz.prog.info? 150).map (·.size) = some (tabV 256 fun j => (Value.int .u32 ((prt p j : Nat) : Int))).size by rw [size_tabV]; exact size_pr)
      have HS2 := Lib.hid (show (tabV 256 fun _ => (Value.int .u32 0)).size = (tabV 256 fun j => (Value.int .u32 ((prt p j : Nat) : Int))).size by rw [size_tabV, size_tabV])
      have HR3 := Lib.hid (HR2.out.row (fun j => .int .u32 ((prt p j : Nat) : Int)))
      have HBF := Lib.hid (show Below w.heap.size w (wr.setRow b2 (tabV 256 fun j => .int .u32 ((prt p j : Nat) : Int))) from below_setRow (HB0.out.trans (HB.out.mono HLE.out.2)) HLT.out.2.2 _)
      obtain ⟨cs, hcs⟩ : ∃ cs, cs = tabV 256 fun j => (Value.int .u32 ((prt p j : Nat) : Int)) := ⟨_, rfl⟩
      unfold Blk at HK3 HR3
      rw [← hcs] at HK3 HR3 HBF HS1 HS2 HS3
      have HCS := Lib.hid hcs
      clear hcs
      go_wp2_with (first
        | ((with_reducible show wpList _ _ _ (⟨some 34, _, _, _, _, _⟩ :: _) _ _); refine wpList_load_row rfl 150 (.tmp 5) rfl b3 rfl _ cs _ _ HK3.out Tryz.underlying150 rfl HS1.out ?_)
        | ((with_reducible show wpList _ _ _ (⟨none, _, _, _, _, _⟩ :: _) _ _); refine wpList_store_row rfl 150 (.tmp 4) (.tmp 34) rfl b2 cs rfl rfl _ _ HR2.out HS1.out HS2.out HS3.out ?_))
      refine bodyPost_ret (v := .agg cs) (results_cell_row rfl _ _ b2 _ cs _ _ rfl HR3.out Tryz.underlying150 rfl HS1.out) rfl ⟨by rw [HCS.out], HBF.out⟩

def undI (i j : Nat) : Value := .int .u8 (((if bxb j < i then bxb j else 0 : Nat)) : Int)
set_option maxHeartbeats 1000000 in
theorem undone_any (b o : Nat) (w : World) (hT : Tb w b o box) :
    Calls Tryz.prog 124 #[.pointer (some ⟨b, o, none⟩)] w fun e w' => e = .returned (.agg (tabV 256 fun j => .int .u8 ((bxb j : Nat) : Int))) ∧ Below w.heap.size w w' := by
  obtain ⟨hz, hi⟩ := zero_of_info infoB
  rw [replicate_tabV] at hz
  obtain ⟨c0, hc0⟩ : ∃ c0 : Array Value, c0 = tabV 256 fun _ => .int .u8 0 := ⟨_, rfl⟩
  rw [← hc0] at hz
  have hsz : c0.size = 256 := by rw [hc0, size_tabV]
  have h1 : c0.all (·.oneCell') = true := by rw [hc0]; exact tabV_one fun _ => rfl
  obtain ⟨W0, hW0⟩ : ∃ W, W = w.alloc (.cells c0 147) := ⟨_, rfl⟩
  have hs0 : W0.heap.size = w.heap.size + 1 := by rw [hW0]; simp
  have HR0 := Lib.hid (show Blk W0 w.heap.size 147 256 (fun _ => .int .u8 0) by rw [hW0, hc0]; exact Blk.made _ _ _ _)
  have HB0 := Lib.hid (show Below w.heap.size w W0 by rw [hW0]; exact (Below.refl _ _).alloc (Nat.le_refl _) _)
  have hsc : (storeCells ⟨w.heap.size + 1, 0, none⟩ c0.toList 0).run Tryz.prog (W0.alloc (.cells c0 147)) = .ok () (W0.alloc (.cells c0 147)) := by
    have h := run_storeCells_new (P := Tryz.prog) W0 147 c0 c0 (by rw [hi, hsz]) rfl h1
    rw [hs0] at h
    exact h
  rw [hW0] at hsc
  have HT := Lib.hid (hT.on HB0.out)
  have HC0 := Lib.hid hc0
  have HW0 := Lib.hid hW0
  have HS0 := Lib.hid hs0
  clear hc0 hT hi h1 hW0 hs0
  go_enter Tryz.func124, Tryz.ntmps124
  go_wp2_with fail
  clear hsc hz hsz
  rw [← HW0.out, ← HS0.out]
  obtain ⟨b2, hb2⟩ : ∃ b, b = w.heap.size := ⟨_, rfl⟩
  obtain ⟨b3, hb3⟩ : ∃ b, b = W0.heap.size := ⟨_, rfl⟩
  have HBK := Lib.hid (show Blk (W0.alloc (.cells c0 147)) b3 147 256 (undI 0) by
    rw [HC0.out, hb3]
    exact (Blk.made _ _ _ _).congr fun j hj => by unfold undI; rw [if_neg (by omega)]; rfl)
  rw [← hb2] at HR0
  have HBE := Lib.hid (show Below b3 W0 (W0.alloc (.cells c0 147)) by rw [hb3]; exact (Below.refl _ _).alloc (Nat.le_refl _) _)
  have HLT := Lib.hid (show b2 < b3 ∧ w.heap.size ≤ b2 by rw [hb2, hb3, HS0.out]; omega)
  have HLE := Lib.hid (show W0.heap.size ≤ b3 ∧ w.heap.size ≤ b3 by rw [hb3, HS0.out]; omega)
  rw [← hb2, ← hb3]
  clear hb2 hb3 HC0 HS0 HW0
  go_loopw [8] (fun s wr => ∃ i : Nat, i ≤ 256 ∧ s = .int .i64 (i : Nat) ∧ Blk wr b3 147 256 (undI i) ∧ Below b3 W0 wr) (fun s _ => 256 - (intOf s).toNat)
  case atStart => exact ⟨0, by omega, rfl, HBK.out, HBE.out⟩
  case round =>
    obtain ⟨i, hi, rfl, hK, hB⟩ := hrel
    have HK := Lib.hid hK
    have HB := Lib.hid hB
    clear hK hB HBK HBE
    rename World => wr
    by_cases hlt : i < 256
    · have qi : (i : Int) < 256 := by omega
      have qi0 : (0 : Int) ≤ (i : Int) := by omega
      have qw : IntKind.u8.wrap (i : Int) = (i : Int) := by rw [IntKind.wrap_u8]; omega
      have hcb := (HT.out.on (HB.out.mono HLE.out.1)).2 i hlt
      have hbl := box_lt i
      have HBX := Lib.hid (bxb_box hlt)
      have hcell := HK.out.cell hbl
      have hfr := HK.out.free (box i)
      obtain ⟨z, hz⟩ : ∃ z, z = box i := ⟨_, rfl⟩
      rw [← hz] at hcb hbl HBX hcell hfr
      have HZ := Lib.hid hz
      have qz : (z : Int) < 256 := by omega
      have qz0 : (0 : Int) ≤ (z : Int) := by omega
      clear hz
      go_wp2_with fail
      go_quiet (fail)
      go_wp2
      go_roundw
      case rel =>
        refine ⟨i + 1, by omega, by go_num, ((HK.out.drewN _).set hbl _).congr fun j hj => ?_, (below_drewN HB.out _).setCell (p := ⟨b3, z, none⟩) (Nat.le_refl _) _⟩
        unfold undI
        by_cases e : j = z
        · rw [if_pos e, if_pos (by rw [e, HBX.out]; omega), e, HBX.out]
        · rw [if_neg e]
          have hne : bxb j ≠ i := fun h => e (by rw [HZ.out, ← h, box_bxb hj])
          by_cases e2 : bxb j < i
          · rw [if_pos e2, if_pos (by omega)]
          · rw [if_neg e2, if_neg (by omega)]
      case measure => simp [intOf]; omega
    · obtain rfl : i = 256 := by omega
      have HK3 := Lib.hid (HK.out.congr (h := fun j => .int .u8 ((bxb j : Nat) : Int)) fun j hj => by unfold undI; rw [if_pos (bxb_lt j)])
      have HR2 := Lib.hid (HR0.out.on HB.out HLT.out.1)
      have HS3 := Lib.hid (show (tabV 256 fun j => (Value.int .u8 ((bxb j : Nat) : Int))).all (·.oneCell') = true from tabV_one fun _ => rfl)
      have HS1 := Lib.hid (show (Tryz.prog.info? 147).map (·.size) = some (tabV 256 fun j => (Value.int .u8 ((bxb j : Nat) : Int))).size by rw [size_tabV]; exact size_box)
      have HS2 := Lib.hid (show (tabV 256 fun _ => (Value.int .u8 0)).size = (tabV 256 fun j => (Value.int .u8 ((bxb j : Nat) : Int))).size by rw [size_tabV, size_tabV])
      have HR3 := Lib.hid (HR2.out.row (fun j => .int .u8 ((bxb j : Nat) : Int)))
      have HBF := Lib.hid (show Below w.heap.size w (wr.setRow b2 (tabV 256 fun j => .int .u8 ((bxb j : Nat) : Int))) from below_setRow (HB0.out.trans (HB.out.mono HLE.out.2)) HLT.out.2 _)
      obtain ⟨cs, hcs⟩ : ∃ cs, cs = tabV 256 fun j => (Value.int .u8 ((bxb j : Nat) : Int)) := ⟨_, rfl⟩
      unfold Blk at HK3 HR3
      rw [← hcs] at HK3 HR3 HBF HS1 HS2 HS3
      have HCS := Lib.hid hcs
      clear hcs
      go_wp2_with (first
        | ((with_reducible show wpList _ _ _ (⟨some 19, _, _, _, _, _⟩ :: _) _ _); refine wpList_load_row rfl 147 (.tmp 3) rfl b3 rfl _ cs _ _ HK3.out Tryz.underlying147 rfl HS1.out ?_)
        | ((with_reducible show wpList _ _ _ (⟨none, _, _, _, _, _⟩ :: _) _ _); refine wpList_store_row rfl 147 (.tmp 2) (.tmp 19) rfl b2 cs rfl rfl _ _ HR2.out HS1.out HS2.out HS3.out ?_))
      refine bodyPost_ret (v := .agg cs) (results_cell_row rfl _ _ b2 _ cs _ _ rfl HR3.out Tryz.underlying147 rfl HS1.out) rfl ⟨by rw [HCS.out], HBF.out⟩
end Go.Proofs.YtappfdbmhgifcaaGreatDoor
/- Contracts of the cipher's squares: plus, through, times. -/
namespace Go.Proofs.YtappfdbmhgifcaaGreatDoor
open Go.ChangeShapes Go.WideShapes Go.ChangeAt Go.RowKit
set_option linter.unusedVariables false
set_option maxRecDepth 100000

theorem infoSq : (Tryz.prog.info? 164).map (fun i => (i.zero, i.size)) = some (some (.agg (Array.replicate 4 (.int .u32 0))), 4) := by kernel_rfl
theorem size_sq : (Tryz.prog.info? 164).map (·.size) = some 4 := by kernel_rfl
def sqc (S : Nat → Nat → Nat) (c : Nat) : Value := .int .u32 ((wd (S c) : Nat) : Int)
def sqV (S : Nat → Nat → Nat) : Array Value := tabV 4 (sqc S)
theorem size_sqV (S : Nat → Nat → Nat) : (sqV S).size = 4 := size_tabV _ _
/-- Behind i of the four columns the new ones, the others as they were. -/
def sqM (S T : Nat → Nat → Nat) (i c : Nat) : Value := if c < i then sqc T c else sqc S c
set_option maxHeartbeats 1000000 in
theorem sqPlus_any (S T : Nat → Nat → Nat) (hS : SqB S) (hT : SqB T) (w : World) :
    Calls Tryz.prog 177 #[.agg (sqV S), .agg (sqV T)] w fun e w' => e = .returned (.agg (sqV (adds S T))) ∧ Below w.heap.size w w' := by
  obtain ⟨hz, hi⟩ := zero_of_info infoSq
  rw [replicate_tabV] at hz
  obtain ⟨s0, hs0⟩ : ∃ c : Array Value, c = sqV S := ⟨_, rfl⟩
  obtain ⟨t0, ht0⟩ : ∃ c : Array Value, c = sqV T := ⟨_, rfl⟩
  obtain ⟨c0, hc0⟩ : ∃ c0 : Array Value, c0 = tabV 4 fun _ => .int .u32 0 := ⟨_, rfl⟩
  rw [← hc0] at hz
  rw [← hs0, ← ht0]
  obtain ⟨V1, hV1⟩ : ∃ W, W = w.alloc (.cells s0 164) := ⟨_, rfl⟩
  obtain ⟨V2, hV2⟩ : ∃ W, W = V1.alloc (.cells t0 164) := ⟨_, rfl⟩
  obtain ⟨W0, hW0⟩ : ∃ W, W = V2.alloc (.cells c0 164) := ⟨_, rfl⟩
  have e1 : V1.heap.size = w.heap.size + 1 := by rw [hV1]; simp
  have e2 : V2.heap.size = w.heap.size + 1 + 1 := by rw [hV2, hV1]; simp
  have e0 : W0.heap.size = w.heap.size + 1 + 1 + 1 := by rw [hW0, hV2, hV1]; simp
  have B1 : Below w.heap.size w V1 := by rw [hV1]; exact (Below.refl _ _).alloc (Nat.le_refl _) _
  have B2 : Below V1.heap.size V1 V2 := by rw [hV2]; exact (Below.refl _ _).alloc (Nat.le_refl _) _
  have B3 : Below V2.heap.size V2 W0 := by rw [hW0]; exact (Below.refl _ _).alloc (Nat.le_refl _) _
  have HB0 := Lib.hid (show Below w.heap.size w W0 from bt (bt B1 B2) B3)
  have HS := Lib.hid (show Blk W0 w.heap.size 164 4 (sqM S (adds S T) 0) by
    have h : Blk V1 w.heap.size 164 4 (sqc S) := by rw [hV1, hs0]; exact Blk.made _ _ _ _
    exact ((h.on B2 (by omega)).on B3 (by omega)).congr fun j hj => by unfold sqM; rw [if_neg (by omega)])
  have HT := Lib.hid (show Blk W0 (w.heap.size + 1) 164 4 (sqc T) by
    have h : Blk V2 (w.heap.size + 1) 164 4 (sqc T) := by rw [← e1, hV2, ht0]; exact Blk.made _ _ _ _
    exact h.on B3 (by omega))
  have HR := Lib.hid (show Blk W0 (w.heap.size + 1 + 1) 164 4 (fun _ => .int .u32 0) by rw [← e2, hW0, hc0]; exact Blk.made _ _ _ _)
  have HW0 := Lib.hid (show W0 = ((w.alloc (.cells s0 164)).alloc (.cells t0 164)).alloc (.cells c0 164) by rw [hW0, hV2, hV1])
  have HSB := Lib.hid hS
  have HTB := Lib.hid hT
  clear hV1 hV2 hW0 e1 e2 e0 B1 B2 B3 hS hT hi hs0 ht0 hc0
  go_enter Tryz.func177, Tryz.ntmps177
  go_wp2_with fail
  clear hz
  rw [← HW0.out]
  obtain ⟨b0, hb0⟩ : ∃ b, b = w.heap.size := ⟨_, rfl⟩
  rw [← hb0] at HS HT HR HB0 ⊢
  have HLE := Lib.hid (show w.heap.size ≤ b0 by rw [hb0]; exact Nat.le_refl _)
  have HBS := Lib.hid hb0
  clear HW0 hb0
  go_loopw [6] (fun s wr => ∃ i : Nat, i ≤ 4 ∧ s = .int .i64 (i : Nat) ∧ Blk wr b0 164 4 (sqM S (adds S T) i) ∧ Blk wr (b0 + 1) 164 4 (sqc T) ∧ Blk wr (b0 + 1 + 1) 164 4 (fun _ => .int .u32 0) ∧ Below b0 w wr) (fun s _ => 4 - (intOf s).toNat)
  case atStart => exact ⟨0, by omega, rfl, HS.out, HT.out, HR.out, HB0.out⟩
  case round =>
    obtain ⟨i, hi, rfl, h1, h2, h3, hB⟩ := hrel
    have H1 := Lib.hid h1
    have H2 := Lib.hid h2
    have H3 := Lib.hid h3
    have HB := Lib.hid hB
    clear h1 h2 h3 hB HS HT HR HB0
    rename World => wr
    by_cases hlt : i < 4
    · have qi : (i : Int) < 4 := by omega
      have qi0 : (0 : Int) ≤ (i : Int) := by omega
      have hc1 := H1.out.cell hlt
      unfold sqM at hc1
      rw [if_neg (by omega)] at hc1
      have hc2 := H2.out.cell hlt
      have hfr := H1.out.free i
      unfold sqc at hc1 hc2
      have hx := u32_xor_nat (wd (S i)) (wd (T i)) (wd_lt (HSB.out i)) (wd_lt (HTB.out i))
      rw [wd_xor (HSB.out i) (HTB.out i)] at hx
      have hp1 := wd_lt (HSB.out i)
      have hp2 := wd_lt (HTB.out i)
      obtain ⟨u, hu⟩ : ∃ u, u = wd (S i) := ⟨_, rfl⟩
      obtain ⟨v, hv⟩ : ∃ v, v = wd (T i) := ⟨_, rfl⟩
      rw [← hu] at hc1 hx hp1
      rw [← hv] at hc2 hx hp2
      have HX := Lib.hid hx
      clear hu hv hx
      go_wp2_with fail
      go_still_tail 7, (by kernel_rfl)
      go_wp2
      go_roundw
      case rel =>
        refine ⟨i + 1, by omega, by go_num, ((H1.out.drewN 1).set hlt _).congr fun j hj => ?_, (H2.out.drewN 1).other ⟨b0, i, none⟩ _ (by show b0 + 1 ≠ b0; omega), (H3.out.drewN 1).other ⟨b0, i, none⟩ _ (by show b0 + 1 + 1 ≠ b0; omega), (below_drewN HB.out 1).setCell (p := ⟨b0, i, none⟩) (Nat.le_refl _) _⟩
        unfold sqM
        by_cases e : j = i
        · rw [if_pos e, if_pos (by omega), HX.out, e]; rfl
        · rw [if_neg e]
          by_cases e2 : j < i
          · rw [if_pos e2, if_pos (by omega)]
          · rw [if_neg e2, if_neg (by omega)]
      case measure => simp [intOf]; omega
    · obtain rfl : i = 4 := by omega
      have HK3 := Lib.hid (H1.out.congr (h := sqc (adds S T)) fun j hj => by unfold sqM; rw [if_pos hj])
      have HS3 := Lib.hid (show (sqV (adds S T)).all (·.oneCell') = true from tabV_one fun _ => rfl)
      have HS1 := Lib.hid (show (Tryz.prog.info? 164).map (·.size) = some (sqV (adds S T)).size by rw [size_sqV]; exact size_sq)
      have HS2 := Lib.hid (show (tabV 4 fun _ => (Value.int .u32 0)).size = (sqV (adds S T)).size by rw [size_tabV, size_sqV])
      have HR3 := Lib.hid (H3.out.row (sqc (adds S T)))
      have HBF := Lib.hid (show Below w.heap.size w (wr.setRow (b0 + 1 + 1) (sqV (adds S T))) from below_setRow (by rw [← HBS.out]; exact HB.out) (by have := HLE.out; omega) _)
      obtain ⟨cs, hcs⟩ : ∃ cs, cs = sqV (adds S T) := ⟨_, rfl⟩
      unfold Blk at HK3 HR3
      rw [show tabV 4 (sqc (adds S T)) = cs from hcs.symm] at HK3 HR3
      rw [← hcs] at HBF HS1 HS2 HS3
      have HCS := Lib.hid hcs
      clear hcs
      go_wp2_with (first
        | ((with_reducible show wpList _ _ _ (⟨some 18, _, _, _, _, _⟩ :: _) _ _); refine wpList_load_row rfl 164 (.tmp 2) rfl b0 rfl _ cs _ _ HK3.out Tryz.underlying164 rfl HS1.out ?_)
        | ((with_reducible show wpList _ _ _ (⟨none, _, _, _, _, _⟩ :: _) _ _); refine wpList_store_row rfl 164 (.tmp 4) (.tmp 18) rfl (b0 + 1 + 1) cs rfl rfl _ _ H3.out HS1.out HS2.out HS3.out ?_))
      refine bodyPost_ret (v := .agg cs) (results_cell_row rfl _ _ (b0 + 1 + 1) _ cs _ _ rfl HR3.out Tryz.underlying164 rfl HS1.out) rfl ⟨by rw [HCS.out], HBF.out⟩
end Go.Proofs.YtappfdbmhgifcaaGreatDoor
/- Contracts of the cipher's squares: through. -/
namespace Go.Proofs.YtappfdbmhgifcaaGreatDoor
open Go.ChangeShapes Go.WideShapes Go.ChangeAt Go.RowKit
set_option linter.unusedVariables false
set_option maxRecDepth 100000

/-- By how much a row is turned, as the program says it and as a number of columns. -/
def Turned (st : Int) (s : Nat) : Prop := st = 1 ∧ s = 1 ∨ st = -1 ∧ s = 3
theorem turned_at {st : Int} {s j i : Nat} (h : Turned st s) (hj : j < 4) (hi : i < 4) : bits .and .i64 ((j : Int) + st * (i : Int)) 3 = (((j + s * i) % 4 : Nat) : Int) ∧ -3 ≤ st * (i : Int) ∧ st * (i : Int) ≤ 3 := by
  rcases h with ⟨rfl, rfl⟩ | ⟨rfl, rfl⟩
  · refine ⟨?_, by omega, by omega⟩
    rcases lt4 hj with rfl | rfl | rfl | rfl <;> rcases lt4 hi with rfl | rfl | rfl | rfl <;> decide +kernel
  · refine ⟨?_, by omega, by omega⟩
    rcases lt4 hj with rfl | rfl | rfl | rfl <;> rcases lt4 hi with rfl | rfl | rfl | rfl <;> decide +kernel
/-- Behind j whole columns of T, and k rows of the next one. -/
def colP (T : Nat → Nat → Nat) (j k c : Nat) : Value := .int .u32 (((if c = j then wdp (T c) k else if c < j then wd (T c) else 0 : Nat)) : Int)
def colQ (T : Nat → Nat → Nat) (j c : Nat) : Value := .int .u32 (((if c < j then wd (T c) else 0 : Nat)) : Int)
theorem colP_zero (T : Nat → Nat → Nat) (j c : Nat) : colP T j 0 c = colQ T j c := by
  unfold colP colQ
  by_cases e : c = j
  · rw [if_pos e, if_neg (by omega), wdp_zero]
  · rw [if_neg e]
theorem colP_all (T : Nat → Nat → Nat) (j c : Nat) : colP T j 4 c = colQ T (j + 1) c := by
  unfold colP colQ
  by_cases e : c = j
  · rw [if_pos e, if_pos (by omega), wdp_all]
  · rw [if_neg e]
    by_cases e2 : c < j
    · rw [if_pos e2, if_pos (by omega)]
    · rw [if_neg e2, if_neg (by omega)]
theorem colP_set (T : Nat → Nat → Nat) (j k : Nat) (v : Int) (h : v = ((wdp (T j) (k + 1) : Nat) : Int)) (c : Nat) : (if c = j then Value.int .u32 v else colP T j k c) = colP T j (k + 1) c := by
  unfold colP
  by_cases e : c = j
  · rw [if_pos e, if_pos e, h, e]
  · rw [if_neg e, if_neg e, if_neg e]
theorem colQ_zero (T : Nat → Nat → Nat) (c : Nat) : colQ T 0 c = .int .u32 0 := by unfold colQ; rw [if_neg (by omega)]; rfl
theorem colQ_all (T : Nat → Nat → Nat) {c : Nat} (h : c < 4) : colQ T 4 c = sqc T c := by unfold colQ sqc; rw [if_pos h]
set_option maxHeartbeats 2000000 in
theorem sqThrough_any (S : Nat → Nat → Nat) (hS : SqB S) (b o : Nat) (B : Nat → Nat) (hB : ∀ x, B x < 256) (st : Int) (s : Nat) (hst : Turned st s) (w : World) (hT : Tb w b o B) :
    Calls Tryz.prog 178 #[.agg (sqV S), .pointer (some ⟨b, o, none⟩), .int .i64 st] w fun e w' => e = .returned (.agg (sqV (thr B s S))) ∧ Below w.heap.size w w' := by
  obtain ⟨hz, hi⟩ := zero_of_info infoSq
  rw [replicate_tabV] at hz
  obtain ⟨T, hTT⟩ : ∃ T, T = thr B s S := ⟨_, rfl⟩
  have hTe : ∀ c r, T c r = B (S ((c + s * r) % 4) r) := fun c r => by rw [hTT]; rfl
  rw [← hTT]
  have HTB := Lib.hid (show SqB T by rw [hTT]; exact SqB.thr hB _ _)
  have HTE := Lib.hid hTe
  clear hTT hTe
  obtain ⟨s0, hs0⟩ : ∃ c : Array Value, c = sqV S := ⟨_, rfl⟩
  obtain ⟨c0, hc0⟩ : ∃ c0 : Array Value, c0 = tabV 4 fun _ => .int .u32 0 := ⟨_, rfl⟩
  rw [← hc0] at hz
  rw [← hs0]
  have hsz : c0.size = 4 := by rw [hc0, size_tabV]
  have h1 : c0.all (·.oneCell') = true := by rw [hc0]; exact tabV_one fun _ => rfl
  obtain ⟨V1, hV1⟩ : ∃ W, W = w.alloc (.cells s0 164) := ⟨_, rfl⟩
  obtain ⟨V2, hV2⟩ : ∃ W, W = V1.alloc (.cells c0 164) := ⟨_, rfl⟩
  obtain ⟨W0, hW0⟩ : ∃ W, W = V2.alloc (.cells c0 164) := ⟨_, rfl⟩
  have e1 : V1.heap.size = w.heap.size + 1 := by rw [hV1]; simp
  have e2 : V2.heap.size = w.heap.size + 1 + 1 := by rw [hV2, hV1]; simp
  have e0 : W0.heap.size = w.heap.size + 1 + 1 + 1 := by rw [hW0, hV2, hV1]; simp
  have B1 : Below w.heap.size w V1 := by rw [hV1]; exact (Below.refl _ _).alloc (Nat.le_refl _) _
  have B2 : Below V1.heap.size V1 V2 := by rw [hV2]; exact (Below.refl _ _).alloc (Nat.le_refl _) _
  have B3 : Below V2.heap.size V2 W0 := by rw [hW0]; exact (Below.refl _ _).alloc (Nat.le_refl _) _
  have hsc : (storeCells ⟨w.heap.size + 1 + 1, 0, none⟩ c0.toList 0).run Tryz.prog W0 = .ok () W0 := by
    have h := run_storeCells_new (P := Tryz.prog) V2 164 c0 c0 (by rw [hi, hsz]) rfl h1
    rw [e2, ← hW0] at h
    exact h
  have HB0 := Lib.hid (show Below w.heap.size w W0 from bt (bt B1 B2) B3)
  have HS := Lib.hid (show Blk W0 w.heap.size 164 4 (sqc S) by
    have h : Blk V1 w.heap.size 164 4 (sqc S) := by rw [hV1, hs0]; exact Blk.made _ _ _ _
    exact (h.on B2 (by omega)).on B3 (by omega))
  have HR := Lib.hid (show Blk W0 (w.heap.size + 1) 164 4 (fun _ => .int .u32 0) by
    have h : Blk V2 (w.heap.size + 1) 164 4 (fun _ => .int .u32 0) := by rw [← e1, hV2, hc0]; exact Blk.made _ _ _ _
    exact h.on B3 (by omega))
  have HO := Lib.hid (show Blk W0 (w.heap.size + 1 + 1) 164 4 (colQ T 0) by
    rw [← e2, hW0, hc0]; exact (Blk.made _ _ _ _).congr fun j hj => (colQ_zero T j).symm)
  have hW0' : W0 = ((w.alloc (.cells s0 164)).alloc (.cells c0 164)).alloc (.cells c0 164) := by rw [hW0, hV2, hV1]
  rw [hW0'] at hsc
  have HW0 := Lib.hid hW0'
  have HSB := Lib.hid hS
  have HTT := Lib.hid hT
  have HST := Lib.hid hst
  clear hV1 hV2 hW0 hW0' e1 e2 e0 B1 B2 B3 hS hT hi hs0 hc0 h1 hst hB
  go_enter Tryz.func178, Tryz.ntmps178
  go_wp2_with fail
  clear hz hsc hsz
  rw [← HW0.out]
  have HLB := Lib.hid HTT.out.1
  obtain ⟨b0, hb0⟩ : ∃ b, b = w.heap.size := ⟨_, rfl⟩
  rw [← hb0] at HS HR HO HB0 HLB ⊢
  have HBS := Lib.hid hb0
  clear HW0 hb0
  go_loopw [12] (fun q wr => ∃ j : Nat, j ≤ 4 ∧ q = .int .i64 (j : Nat) ∧ Blk wr b0 164 4 (sqc S) ∧ Blk wr (b0 + 1) 164 4 (fun _ => .int .u32 0) ∧ Blk wr (b0 + 1 + 1) 164 4 (colQ T j) ∧ Below b0 w wr) (fun q _ => 4 - (intOf q).toNat)
  case atStart => exact ⟨0, by omega, rfl, HS.out, HR.out, HO.out, HB0.out⟩
  case round =>
    obtain ⟨j, hj, rfl, h1, h2, h3, hBB⟩ := hrel
    have H1 := Lib.hid h1
    have H2 := Lib.hid h2
    have H3 := Lib.hid h3
    have HB := Lib.hid hBB
    clear h1 h2 h3 hBB HS HR HO HB0
    rename World => wr
    by_cases hlt : j < 4
    · have qj : (j : Int) < 4 := by omega
      have qj0 : (0 : Int) ≤ (j : Int) := by omega
      go_upto_region 6 with (fail)
      go_loopw [15] (fun q W => ∃ k : Nat, k ≤ 4 ∧ q = .int .i64 (k : Nat) ∧ Blk W b0 164 4 (sqc S) ∧ Blk W (b0 + 1) 164 4 (fun _ => .int .u32 0) ∧ Blk W (b0 + 1 + 1) 164 4 (colP T j k) ∧ Below b0 w W) (fun q _ => 4 - (intOf q).toNat)
      case atStart => exact ⟨0, by omega, rfl, H1.out, H2.out, H3.out.congr fun c hc => (colP_zero T j c).symm, HB.out⟩
      case round =>
        obtain ⟨k, hk, rfl, h1, h2, h3, hBB⟩ := hrel
        have K1 := Lib.hid h1
        have K2 := Lib.hid h2
        have K3 := Lib.hid h3
        have KB := Lib.hid hBB
        clear h1 h2 h3 hBB
        rename World => W
        by_cases hlk : k < 4
        · obtain ⟨hand, hm1, hm2⟩ := turned_at HST.out hlt hlk
          have hml : (j + s * k) % 4 < 4 := Nat.mod_lt _ (by omega)
          have hcs := K1.out.cell hml
          unfold sqc at hcs
          have hco := K3.out.cell hlt
          unfold colP at hco
          rw [if_pos rfl] at hco
          have hfr := K3.out.free j
          have hTB : Tb W b o B := ⟨by have := KB.out.size; have := HTT.out.1; omega, fun z hz => (KB.out.cell (p := ⟨b, o + z, none⟩) HLB.out).trans (HTT.out.2 z hz)⟩
          have hOR := wdp_or (HTB.out j) hlk
          have hP := wdp_lt (HTB.out j) k
          have hyl := HTB.out j k
          have hzz := HSB.out ((j + s * k) % 4) k
          have HROW := Lib.hid (row_N (S ((j + s * k) % 4)) (HSB.out _) k hlk)
          have HSH := Lib.hid (shift_N k hlk)
          have hwl := wd_lt (HSB.out ((j + s * k) % 4))
          have hcb := hTB.2 (S ((j + s * k) % 4) k) hzz
          rw [← HTE.out j k] at hcb
          obtain ⟨sh, hsh⟩ : ∃ sh, sh = 8 * (3 - k) := ⟨_, rfl⟩
          rw [← hsh] at hOR HSH
          have hs2 : sh ≤ 24 := by omega
          obtain ⟨u, hu⟩ : ∃ u, u = wdp (T j) k := ⟨_, rfl⟩
          obtain ⟨v, hv⟩ : ∃ v, v = T j k := ⟨_, rfl⟩
          rw [← hu] at hco hP hOR
          rw [← hv] at hcb hyl hOR
          obtain ⟨m, hm⟩ : ∃ m, m = (j + s * k) % 4 := ⟨_, rfl⟩
          rw [← hm] at hand hml hcs hzz HROW hwl hcb
          obtain ⟨X, hX⟩ : ∃ X, X = wd (S m) := ⟨_, rfl⟩
          rw [← hX] at hcs HROW hwl
          obtain ⟨z, hz⟩ : ∃ z, z = S m k := ⟨_, rfl⟩
          rw [← hz] at hzz HROW hcb
          have hor := or_shl hP hyl hs2
          rw [hOR] at hor
          have HOR := Lib.hid hor
          have qk : (k : Int) < 4 := by omega
          have qk0 : (0 : Int) ≤ (k : Int) := by omega
          have qm : (m : Int) < 4 := by omega
          have qm0 : (0 : Int) ≤ (m : Int) := by omega
          have qz : (z : Int) < 256 := by omega
          have qz0 : (0 : Int) ≤ (z : Int) := by omega
          clear hTB hOR hu hv hsh hm hX hz hor
          go_wp2_with fail
          refine wp_region_still_tail 15 (by kernel_rfl) (by kernel_rfl) ?_
          simp only [List.take_succ_cons, List.take_zero, List.drop_succ_cons, List.drop_zero]
          repeat still_step
          still_call ((HROW.out _).mono fun _ _ ⟨he, hw⟩ => ⟨he, hw.symm⟩)
          repeat still_step
          still_call ((HSH.out _).mono fun _ _ ⟨he, hw⟩ => ⟨he, hw.symm⟩)
          repeat still_step
          refine wpStill_nil ?_
          go_wp2
          go_roundw
          case rel =>
            refine ⟨k + 1, by omega, by go_num, (K1.out.drewN 1).other ⟨b0 + 1 + 1, j, none⟩ _ (by show b0 ≠ b0 + 1 + 1; omega), (K2.out.drewN 1).other ⟨b0 + 1 + 1, j, none⟩ _ (by show b0 + 1 ≠ b0 + 1 + 1; omega), ((K3.out.drewN 1).set hlt _).congr fun c hc => colP_set T j k _ HOR.out c, (below_drewN KB.out 1).setCell (p := ⟨b0 + 1 + 1, j, none⟩) (by show b0 ≤ b0 + 1 + 1; omega) _⟩
          case measure => simp [intOf]; omega
        · obtain rfl : k = 4 := by omega
          have K4 := Lib.hid (K3.out.congr fun c hc => colP_all T j c)
          go_wp2
          go_roundw
          case rel => exact ⟨j + 1, by omega, by go_num, K1.out, K2.out, K4.out, KB.out⟩
          case measure => simp [intOf]; omega
    · obtain rfl : j = 4 := by omega
      have HK3 := Lib.hid (H3.out.congr (h := sqc T) fun c hc => colQ_all T hc)
      have HS3 := Lib.hid (show (sqV T).all (·.oneCell') = true from tabV_one fun _ => rfl)
      have HS1 := Lib.hid (show (Tryz.prog.info? 164).map (·.size) = some (sqV T).size by rw [size_sqV]; exact size_sq)
      have HS2 := Lib.hid (show (tabV 4 fun _ => (Value.int .u32 0)).size = (sqV T).size by rw [size_tabV, size_sqV])
      have HR3 := Lib.hid (H2.out.row (sqc T))
      have HBF := Lib.hid (show Below w.heap.size w (wr.setRow (b0 + 1) (sqV T)) from below_setRow (by rw [← HBS.out]; exact HB.out) (by rw [← HBS.out]; omega) _)
      obtain ⟨cs, hcs⟩ : ∃ cs, cs = sqV T := ⟨_, rfl⟩
      unfold Blk at HK3 HR3
      rw [show tabV 4 (sqc T) = cs from hcs.symm] at HK3 HR3
      rw [← hcs] at HBF HS1 HS2 HS3
      have HCS := Lib.hid hcs
      clear hcs
      go_wp2_with (first
        | ((with_reducible show wpList _ _ _ (⟨some 44, _, _, _, _, _⟩ :: _) _ _); refine wpList_load_row rfl 164 (.tmp 7) rfl (b0 + 1 + 1) rfl _ cs _ _ HK3.out Tryz.underlying164 rfl HS1.out ?_)
        | ((with_reducible show wpList _ _ _ (⟨none, _, _, _, _, _⟩ :: _) _ _); refine wpList_store_row rfl 164 (.tmp 6) (.tmp 44) rfl (b0 + 1) cs rfl rfl _ _ H2.out HS1.out HS2.out HS3.out ?_))
      refine bodyPost_ret (v := .agg cs) (results_cell_row rfl _ _ (b0 + 1) _ cs _ _ rfl HR3.out Tryz.underlying164 rfl HS1.out) rfl ⟨by rw [HCS.out], HBF.out⟩
end Go.Proofs.YtappfdbmhgifcaaGreatDoor
/- Contracts of the cipher's squares: times. -/
namespace Go.Proofs.YtappfdbmhgifcaaGreatDoor
open Go.ChangeShapes Go.WideShapes Go.ChangeAt Go.RowKit
set_option linter.unusedVariables false
set_option maxRecDepth 100000

/-- The first k of a column's four products, added. -/
def mixp (p : Nat → Nat) (S : Nat → Nat → Nat) (c : Nat) : Nat → Nat → Nat
  | 0 => fun _ => 0
  | k + 1 => fun r => mixp p S c k r ^^^ gm (S c k) (p ((r + 4 - k) % 4))
theorem mixp_lt (p : Nat → Nat) (S : Nat → Nat → Nat) (c : Nat) : ∀ k r, mixp p S c k r < 256
  | 0, _ => by show 0 < 256; omega
  | k + 1, r => xor_lt (mixp_lt p S c k r) (gm_lt _ _)
theorem mixp_all (p : Nat → Nat) (S : Nat → Nat → Nat) (c r : Nat) : mixp p S c 4 r = mix p S c r := by
  simp only [mixp, mix, Nat.zero_xor]
  rw [show (r + 4 - 0) % 4 = r % 4 by omega, show (r + 4 - 1) % 4 = (r + 3) % 4 by omega, show (r + 4 - 2) % 4 = (r + 2) % 4 by omega, show (r + 4 - 3) % 4 = (r + 1) % 4 by omega]
/-- A product's word, turned, and added to the first ones. -/
theorem mixp_next (p : Nat → Nat) (S : Nat → Nat → Nat) (c : Nat) {k : Nat} (hk : k < 4) : wd (mixp p S c k) ^^^ rot 32 (prt p (S c k)) (8 * ((4 - k) % 4)) = wd (mixp p S c (k + 1)) := by
  unfold prt
  rw [wd_rot (f := fun r => gm (S c k) (p r)) (fun _ => gm_lt _ _) hk, wd_xor (mixp_lt p S c k) (fun _ => gm_lt _ _)]
  rfl
theorem turn32_N (X k : Nat) (hX : X < 4294967296) (hk : k < 4) (w : World) : Calls Tryz.prog 147 #[.int .u32 (X : Nat), .int .i64 (-8 * (k : Int))] w fun e w' => e = .returned (.int .u32 ((rot 32 X (8 * ((4 - k) % 4)) : Nat) : Int)) ∧ ∃ j, w' = w.drewN j := by
  refine (turn32 (X : Nat) (-8 * (k : Int)) (mk32 (by omega) (by omega)) (mk64 (by omega) (by omega)) w).mono fun e w' ⟨h1, h2⟩ => ⟨?_, h2⟩
  rw [h1]
  refine ret_int ?_
  unfold rotI
  have e1 : ((-8 * (k : Int)) % ((32 : Nat) : Int)).toNat = 8 * ((4 - k) % 4) := by
    rcases lt4 hk with rfl | rfl | rfl | rfl <;> decide +kernel
  rw [e1, Int.toNat_natCast]
theorem index_sq (S : Nat → Nat → Nat) {k : Nat} (hk : k < 4) (w : World) : (Instr.index 164 (.agg (sqV S)) (.int .i64 (k : Nat))).run Tryz.prog w = .ok (.int .u32 ((wd (S k) : Nat) : Int)) w := by
  rcases lt4 hk with rfl | rfl | rfl | rfl <;> kernel_rfl
/-- Behind j whole columns of T, and k products of the next one. -/
def colM (p : Nat → Nat) (S T : Nat → Nat → Nat) (j k c : Nat) : Value := .int .u32 (((if c = j then wd (mixp p S c k) else if c < j then wd (T c) else 0 : Nat)) : Int)
theorem colM_zero (p : Nat → Nat) (S T : Nat → Nat → Nat) (j c : Nat) : colM p S T j 0 c = colQ T j c := by
  unfold colM colQ
  by_cases e : c = j
  · rw [if_pos e, if_neg (by omega), show mixp p S c 0 = (fun _ => 0) from rfl, wd_zero]
  · rw [if_neg e]
theorem colM_all {p : Nat → Nat} {S T : Nat → Nat → Nat} (hT : ∀ c r, T c r = mix p S c r) (j c : Nat) : colM p S T j 4 c = colQ T (j + 1) c := by
  unfold colM colQ
  by_cases e : c = j
  · rw [if_pos e, if_pos (by omega), wd_congr (g := T c) fun r _ => by rw [mixp_all, hT]]
  · rw [if_neg e]
    by_cases e2 : c < j
    · rw [if_pos e2, if_pos (by omega)]
    · rw [if_neg e2, if_neg (by omega)]
theorem colM_set (p : Nat → Nat) (S T : Nat → Nat → Nat) (j k : Nat) (v : Int) (h : v = ((wd (mixp p S j (k + 1)) : Nat) : Int)) (c : Nat) : (if c = j then Value.int .u32 v else colM p S T j k c) = colM p S T j (k + 1) c := by
  unfold colM
  by_cases e : c = j
  · rw [if_pos e, if_pos e, h, e]
  · rw [if_neg e, if_neg e, if_neg e]
set_option maxHeartbeats 2000000 in
theorem sqTimes_any (S : Nat → Nat → Nat) (hS : SqB S) (b o : Nat) (p : Nat → Nat) (w : World) (hT : Tp w b o (prt p)) :
    Calls Tryz.prog 179 #[.agg (sqV S), .pointer (some ⟨b, o, none⟩)] w fun e w' => e = .returned (.agg (sqV (mix p S))) ∧ Below w.heap.size w w' := by
  obtain ⟨hz, hi⟩ := zero_of_info infoSq
  rw [replicate_tabV] at hz
  obtain ⟨T, hTT⟩ : ∃ T, T = mix p S := ⟨_, rfl⟩
  have hTe : ∀ c r, T c r = mix p S c r := fun c r => by rw [hTT]
  rw [← hTT]
  have HTB := Lib.hid (show SqB T by rw [hTT]; exact SqB.mix _ _)
  have HTE := Lib.hid hTe
  clear hTT hTe
  obtain ⟨s0, hs0⟩ : ∃ c : Array Value, c = sqV S := ⟨_, rfl⟩
  obtain ⟨c0, hc0⟩ : ∃ c0 : Array Value, c0 = tabV 4 fun _ => .int .u32 0 := ⟨_, rfl⟩
  rw [← hc0] at hz
  rw [← hs0]
  have hsz : c0.size = 4 := by rw [hc0, size_tabV]
  have h1 : c0.all (·.oneCell') = true := by rw [hc0]; exact tabV_one fun _ => rfl
  obtain ⟨V1, hV1⟩ : ∃ W, W = w.alloc (.cells s0 164) := ⟨_, rfl⟩
  obtain ⟨V2, hV2⟩ : ∃ W, W = V1.alloc (.cells c0 164) := ⟨_, rfl⟩
  obtain ⟨W0, hW0⟩ : ∃ W, W = V2.alloc (.cells c0 164) := ⟨_, rfl⟩
  have e1 : V1.heap.size = w.heap.size + 1 := by rw [hV1]; simp
  have e2 : V2.heap.size = w.heap.size + 1 + 1 := by rw [hV2, hV1]; simp
  have e0 : W0.heap.size = w.heap.size + 1 + 1 + 1 := by rw [hW0, hV2, hV1]; simp
  have B1 : Below w.heap.size w V1 := by rw [hV1]; exact (Below.refl _ _).alloc (Nat.le_refl _) _
  have B2 : Below V1.heap.size V1 V2 := by rw [hV2]; exact (Below.refl _ _).alloc (Nat.le_refl _) _
  have B3 : Below V2.heap.size V2 W0 := by rw [hW0]; exact (Below.refl _ _).alloc (Nat.le_refl _) _
  have hsc : (storeCells ⟨w.heap.size + 1 + 1, 0, none⟩ c0.toList 0).run Tryz.prog W0 = .ok () W0 := by
    have h := run_storeCells_new (P := Tryz.prog) V2 164 c0 c0 (by rw [hi, hsz]) rfl h1
    rw [e2, ← hW0] at h
    exact h
  have HB0 := Lib.hid (show Below w.heap.size w W0 from bt (bt B1 B2) B3)
  have HS := Lib.hid (show Blk W0 w.heap.size 164 4 (sqc S) by
    have h : Blk V1 w.heap.size 164 4 (sqc S) := by rw [hV1, hs0]; exact Blk.made _ _ _ _
    exact (h.on B2 (by omega)).on B3 (by omega))
  have HR := Lib.hid (show Blk W0 (w.heap.size + 1) 164 4 (fun _ => .int .u32 0) by
    have h : Blk V2 (w.heap.size + 1) 164 4 (fun _ => .int .u32 0) := by rw [← e1, hV2, hc0]; exact Blk.made _ _ _ _
    exact h.on B3 (by omega))
  have HO := Lib.hid (show Blk W0 (w.heap.size + 1 + 1) 164 4 (colQ T 0) by
    rw [← e2, hW0, hc0]; exact (Blk.made _ _ _ _).congr fun j hj => (colQ_zero T j).symm)
  have hW0' : W0 = ((w.alloc (.cells s0 164)).alloc (.cells c0 164)).alloc (.cells c0 164) := by rw [hW0, hV2, hV1]
  rw [hW0'] at hsc
  have HW0 := Lib.hid hW0'
  have HSB := Lib.hid hS
  have HTT := Lib.hid hT
  have HS0 := Lib.hid hs0
  clear hV1 hV2 hW0 hW0' e1 e2 e0 B1 B2 B3 hS hT hi hs0 hc0 h1
  go_enter Tryz.func179, Tryz.ntmps179
  have HSS := Lib.hid (show (Tryz.prog.info? 164).map (·.size) = some s0.size by rw [HS0.out, size_sqV]; exact size_sq)
  have HSL := Lib.hid HS.out
  unfold Blk at HSL
  rw [show tabV 4 (sqc S) = s0 from HS0.out.symm, HW0.out] at HSL
  go_wp2_with ((with_reducible show wpList _ _ _ (⟨some 10, _, _, _, _, _⟩ :: _) _ _); refine wpList_load_row rfl 164 (.tmp 2) rfl w.heap.size rfl _ s0 _ _ HSL.out Tryz.underlying164 rfl HSS.out ?_)
  clear hz hsc hsz HSL
  rw [← HW0.out]
  have HLB := Lib.hid HTT.out.1
  obtain ⟨b0, hb0⟩ : ∃ b, b = w.heap.size := ⟨_, rfl⟩
  rw [← hb0] at HS HR HO HB0 HLB ⊢
  have HBS := Lib.hid hb0
  clear HW0 hb0
  go_loopw [11] (fun q wr => ∃ j : Nat, j ≤ 4 ∧ q = .int .i64 (j : Nat) ∧ Blk wr b0 164 4 (sqc S) ∧ Blk wr (b0 + 1) 164 4 (fun _ => .int .u32 0) ∧ Blk wr (b0 + 1 + 1) 164 4 (colQ T j) ∧ Below b0 w wr) (fun q _ => 4 - (intOf q).toNat)
  case atStart => exact ⟨0, by omega, rfl, HS.out, HR.out, HO.out, HB0.out⟩
  case round =>
    obtain ⟨j, hj, rfl, h1, h2, h3, hBB⟩ := hrel
    have H1 := Lib.hid h1
    have H2 := Lib.hid h2
    have H3 := Lib.hid h3
    have HB := Lib.hid hBB
    clear h1 h2 h3 hBB HS HR HO HB0
    rename World => wr
    by_cases hlt : j < 4
    · have qj : (j : Int) < 4 := by omega
      have qj0 : (0 : Int) ≤ (j : Int) := by omega
      have hix : ∀ w : World, (Instr.index 164 (.agg s0) (.int .i64 (j : Nat))).run Tryz.prog w = .ok (.int .u32 ((wd (S j) : Nat) : Int)) w := by rw [HS0.out]; exact index_sq S hlt
      go_upto_region 6 with (fail)
      clear hix
      go_loopw [15] (fun q W => ∃ k : Nat, k ≤ 4 ∧ q = .int .i64 (k : Nat) ∧ Blk W b0 164 4 (sqc S) ∧ Blk W (b0 + 1) 164 4 (fun _ => .int .u32 0) ∧ Blk W (b0 + 1 + 1) 164 4 (colM p S T j k) ∧ Below b0 w W) (fun q _ => 4 - (intOf q).toNat)
      case atStart => exact ⟨0, by omega, rfl, H1.out, H2.out, H3.out.congr fun c hc => (colM_zero p S T j c).symm, HB.out⟩
      case round =>
        obtain ⟨k, hk, rfl, h1, h2, h3, hBB⟩ := hrel
        have K1 := Lib.hid h1
        have K2 := Lib.hid h2
        have K3 := Lib.hid h3
        have KB := Lib.hid hBB
        clear h1 h2 h3 hBB
        rename World => W
        by_cases hlk : k < 4
        · have hco := K3.out.cell hlt
          unfold colM at hco
          rw [if_pos rfl] at hco
          have hfr := K3.out.free j
          have hTB : Tp W b o (prt p) := ⟨by have := KB.out.size; have := HTT.out.1; omega, fun z hz => (KB.out.cell (p := ⟨b, o + z, none⟩) HLB.out).trans (HTT.out.2 z hz)⟩
          have hNX := mixp_next p S j hlk
          have hP := wd_lt (mixp_lt p S j k)
          have hzz := HSB.out j k
          have hY : prt p (S j k) < 4294967296 := wd_lt fun _ => gm_lt _ _
          have HROW := Lib.hid (row_N (S j) (HSB.out _) k hlk)
          have HTU := Lib.hid (turn32_N (prt p (S j k)) k hY hlk)
          have hwr : IntKind.i64.wrap (-8 * (k : Int)) = -8 * (k : Int) := IntWalk.i64_in _ (by omega)
          rw [← hwr] at HTU
          clear hwr
          have hcb := hTB.2 (S j k) hzz
          have hR : rot 32 (prt p (S j k)) (8 * ((4 - k) % 4)) < 4294967296 := rot_lt (k := 32) hY
          have hwl := wd_lt (HSB.out j)
          obtain ⟨u, hu⟩ : ∃ u, u = wd (mixp p S j k) := ⟨_, rfl⟩
          obtain ⟨v, hv⟩ : ∃ v, v = rot 32 (prt p (S j k)) (8 * ((4 - k) % 4)) := ⟨_, rfl⟩
          rw [← hu] at hco hP hNX
          rw [← hv] at hR hNX HTU
          obtain ⟨y, hy⟩ : ∃ y, y = prt p (S j k) := ⟨_, rfl⟩
          rw [← hy] at hY HTU hcb
          obtain ⟨X, hX⟩ : ∃ X, X = wd (S j) := ⟨_, rfl⟩
          rw [← hX] at HROW hwl ⊢
          obtain ⟨z, hz⟩ : ∃ z, z = S j k := ⟨_, rfl⟩
          rw [← hz] at hzz HROW hcb
          have hxr := u32_xor_nat u v hP hR
          rw [hNX] at hxr
          have HXR := Lib.hid hxr
          have qk : (k : Int) < 4 := by omega
          have qk0 : (0 : Int) ≤ (k : Int) := by omega
          have qz : (z : Int) < 256 := by omega
          have qz0 : (0 : Int) ≤ (z : Int) := by omega
          clear hTB hNX hu hv hy hX hz hxr
          go_wp2_with fail
          go_region_with (first
            | (go_at_call 165; refine (HROW.out _).mono ?_; rintro e w' ⟨rfl, rfl⟩)
            | (go_at_call 147; refine (HTU.out _).mono ?_; rintro e w' ⟨rfl, q, rfl⟩))
          all_goals
            go_wp2
            go_roundw
            case rel =>
              refine ⟨k + 1, by omega, by go_num, (K1.out.drewN _).other ⟨b0 + 1 + 1, j, none⟩ _ (by show b0 ≠ b0 + 1 + 1; omega), (K2.out.drewN _).other ⟨b0 + 1 + 1, j, none⟩ _ (by show b0 + 1 ≠ b0 + 1 + 1; omega), ((K3.out.drewN _).set hlt _).congr fun c hc => colM_set p S T j k _ HXR.out c, (below_drewN KB.out _).setCell (p := ⟨b0 + 1 + 1, j, none⟩) (by show b0 ≤ b0 + 1 + 1; omega) _⟩
            case measure => simp [intOf]; omega
        · obtain rfl : k = 4 := by omega
          have K4 := Lib.hid (K3.out.congr fun c hc => colM_all HTE.out j c)
          go_wp2
          go_roundw
          case rel => exact ⟨j + 1, by omega, by go_num, K1.out, K2.out, K4.out, KB.out⟩
          case measure => simp [intOf]; omega
    · obtain rfl : j = 4 := by omega
      have HK3 := Lib.hid (H3.out.congr (h := sqc T) fun c hc => colQ_all T hc)
      have HS3 := Lib.hid (show (sqV T).all (·.oneCell') = true from tabV_one fun _ => rfl)
      have HS1 := Lib.hid (show (Tryz.prog.info? 164).map (·.size) = some (sqV T).size by rw [size_sqV]; exact size_sq)
      have HS2 := Lib.hid (show (tabV 4 fun _ => (Value.int .u32 0)).size = (sqV T).size by rw [size_tabV, size_sqV])
      have HR3 := Lib.hid (H2.out.row (sqc T))
      have HBF := Lib.hid (show Below w.heap.size w (wr.setRow (b0 + 1) (sqV T)) from below_setRow (by rw [← HBS.out]; exact HB.out) (by rw [← HBS.out]; omega) _)
      obtain ⟨cs, hcs⟩ : ∃ cs, cs = sqV T := ⟨_, rfl⟩
      unfold Blk at HK3 HR3
      rw [show tabV 4 (sqc T) = cs from hcs.symm] at HK3 HR3
      rw [← hcs] at HBF HS1 HS2 HS3
      have HCS := Lib.hid hcs
      clear hcs
      go_wp2_with (first
        | ((with_reducible show wpList _ _ _ (⟨some 35, _, _, _, _, _⟩ :: _) _ _); refine wpList_load_row rfl 164 (.tmp 5) rfl (b0 + 1 + 1) rfl _ cs _ _ HK3.out Tryz.underlying164 rfl HS1.out ?_)
        | ((with_reducible show wpList _ _ _ (⟨none, _, _, _, _, _⟩ :: _) _ _); refine wpList_store_row rfl 164 (.tmp 4) (.tmp 35) rfl (b0 + 1) cs rfl rfl _ _ H2.out HS1.out HS2.out HS3.out ?_))
      refine bodyPost_ret (v := .agg cs) (results_cell_row rfl _ _ (b0 + 1) _ cs _ _ rfl HR3.out Tryz.underlying164 rfl HS1.out) rfl ⟨by rw [HCS.out], HBF.out⟩
end Go.Proofs.YtappfdbmhgifcaaGreatDoor
/- Contracts of the cipher's bytes and words. -/
namespace Go.Proofs.YtappfdbmhgifcaaGreatDoor
open Go.ChangeShapes Go.WideShapes Go.ChangeAt Go.RowKit
set_option linter.unusedVariables false
set_option maxRecDepth 100000

theorem own_baseS {w : World} {base B : Nat} {e : TypeId} {size : Nat} {v : Value} {n : Nat} {xs : List Value} (h : w.ownsRow base e size v n xs) (hB : B ≤ base) : w.ownsRow B e size v n xs := by
  refine ⟨h.1, ?_⟩
  rcases h.2 with h3 | ⟨g, cap, cur, e, hg, h3⟩
  · exact .inl h3
  · exact .inr ⟨g, cap, cur, e, by omega, h3⟩
/-- A column's bytes, a square's. -/
def colL (f : Nat → Nat) : List Int := [((f 0 : Nat) : Int), ((f 1 : Nat) : Int), ((f 2 : Nat) : Int), ((f 3 : Nat) : Int)]
def outL (S : Nat → Nat → Nat) : Nat → List Int
  | 0 => []
  | i + 1 => outL S i ++ colL (S i)
theorem length_outL (S : Nat → Nat → Nat) : ∀ i, (outL S i).length = 4 * i
  | 0 => rfl
  | i + 1 => by rw [outL, List.length_append, length_outL S i]; rfl
theorem be_wd {f : Nat → Nat} (h : ∀ r, f r < 256) : be 4 ((wd f : Nat) : Int) = colL f := by
  have h0 := wd_row h (i := 0) (by omega)
  have h1 := wd_row h (i := 1) (by omega)
  have h2 := wd_row h (i := 2) (by omega)
  have h3 := wd_row h (i := 3) (by omega)
  unfold be colL
  show [_, _, _, _] = _
  rw [← h0, ← h1, ← h2, ← h3]
  simp
set_option maxHeartbeats 1000000 in
theorem bytes_any (S : Nat → Nat → Nat) (hS : SqB S) (w : World) :
    Calls Tryz.prog 180 #[.agg (sqV S)] w fun e w' => ∃ a, e = .returned (.slice a 16 16) ∧ w'.ownsRow w.heap.size 5 1 (.slice a 16 16) 16 ((outL S 4).map (Value.int .u8)) ∧ Below w.heap.size w w' := by
  obtain ⟨s0, hs0⟩ : ∃ c : Array Value, c = sqV S := ⟨_, rfl⟩
  rw [← hs0]
  obtain ⟨V1, hV1⟩ : ∃ W, W = w.alloc (.cells s0 164) := ⟨_, rfl⟩
  obtain ⟨W0, hW0⟩ : ∃ W, W = V1.alloc (.cells #[] 5) := ⟨_, rfl⟩
  have e1 : V1.heap.size = w.heap.size + 1 := by rw [hV1]; simp
  have B1 : Below w.heap.size w V1 := by rw [hV1]; exact (Below.refl _ _).alloc (Nat.le_refl _) _
  have HB0 := Lib.hid (show Below w.heap.size w W0 by rw [hW0]; exact B1.alloc B1.size _)
  have HS := Lib.hid (show Blk V1 w.heap.size 164 4 (sqc S) by rw [hV1, hs0]; exact Blk.made _ _ _ _)
  have HO := Lib.hid (show W0.ownsRow w.heap.size 5 1 (.slice (some ⟨w.heap.size + 1, 0, none⟩) 0 0) 0 ((outL S 0).map (Value.int .u8)) by
    rw [← e1, hW0]; exact own_baseS (own_empty V1 _) (by rw [e1]; omega))
  have HSL := Lib.hid (show W0.heap[w.heap.size]? = some (.cells s0 164 (0, 0)) by
    have h : Blk W0 w.heap.size 164 4 (sqc S) := HS.out.on (show Below V1.heap.size V1 W0 by rw [hW0]; exact (Below.refl _ _).alloc (Nat.le_refl _) _) (by omega)
    unfold Blk at h
    rw [show tabV 4 (sqc S) = s0 from hs0.symm] at h
    exact h)
  have HSS := Lib.hid (show (Tryz.prog.info? 164).map (·.size) = some s0.size by rw [hs0, size_sqV]; exact size_sq)
  have hW0' : W0 = (w.alloc (.cells s0 164)).alloc (.cells #[] 5) := by rw [hW0, hV1]
  rw [hW0'] at HSL
  have HW0 := Lib.hid hW0'
  have HSB := Lib.hid hS
  have HS0 := Lib.hid hs0
  clear hV1 hW0 hW0' e1 B1 hS hs0
  go_enter Tryz.func180, Tryz.ntmps180
  go_wp2_with ((with_reducible show wpList _ _ _ (⟨some 7, _, _, _, _, _⟩ :: _) _ _); refine wpList_load_row rfl 164 (.tmp 1) rfl w.heap.size rfl _ s0 _ _ HSL.out Tryz.underlying164 rfl HSS.out ?_)
  rw [← HW0.out]
  go_loopw [3, 8] (fun v q wr => ∃ i : Nat, i ≤ 4 ∧ q = .int .i64 (i : Nat) ∧ (∃ a, v = .slice a (4 * i) (4 * i) ∧ wr.ownsRow w.heap.size 5 1 (.slice a (4 * i) (4 * i)) (4 * i) ((outL S i).map (Value.int .u8))) ∧ Below w.heap.size w wr) (fun _ q _ => 4 - (intOf q).toNat)
  case atStart => exact ⟨0, by omega, rfl, ⟨_, rfl, HO.out⟩, HB0.out⟩
  case round =>
    obtain ⟨i, hi, rfl, ⟨a, rfl, hO⟩, hB⟩ := hrel
    have HOi := Lib.hid hO
    have HBi := Lib.hid hB
    clear hO hB HO HB0
    rename World => wr
    by_cases hlt : i < 4
    · have hix : ∀ w : World, (Instr.index 164 (.agg s0) (.int .i64 (i : Nat))).run Tryz.prog w = .ok (.int .u32 ((wd (S i) : Nat) : Int)) w := by rw [HS0.out]; exact index_sq S hlt
      have hwl := wd_lt (HSB.out i)
      obtain ⟨hbs, hlen⟩ := Bs.of_own HOi.out
      have hput := put32 a (4 * i) (4 * i) (outL S i) wr hlen hbs (by omega) ((wd (S i) : Nat) : Int) (mk32 (by omega) (by omega))
      rw [be_wd (HSB.out i)] at hput
      have HPUT := Lib.hid hput
      have qi : (i : Int) < 4 := by omega
      obtain ⟨X, hX⟩ : ∃ X, X = wd (S i) := ⟨_, rfl⟩
      rw [← hX] at hix hwl HPUT
      clear hbs hlen hput hX
      go_wp2_with (go_at_call 153; refine HPUT.out.mono ?_; rintro e w' ⟨g, rfl, hown, hbel⟩; have HO2 := Lib.hid hown; have HB2 := Lib.hid hbel; clear hown hbel)
      go_roundw
      case rel => exact ⟨i + 1, by omega, by go_num, ⟨some ⟨g, 0, none⟩, rfl, own_baseS HO2.out HBi.out.size⟩, HBi.out.trans (HB2.out.mono HBi.out.size)⟩
      case measure => simp [intOf]; omega
    · obtain rfl : i = 4 := by omega
      go_wp2
      go_ret
      exact ⟨a, rfl, HOi.out, HBi.out⟩

/-- Bytes as words of four. -/
def kw (l : List Int) (i r : Nat) : Nat := (l.getD (4 * i + r) 0).toNat
theorem kw_lt {l : List Int} (h : AllB l) : SqB (kw l) := fun i r => by
  have := allB_getD h (4 * i + r)
  unfold kw; omega
theorem getV_drop {l : List Int} (h : AllB l) {i : Nat} (hi : 4 * i + 4 ≤ l.length) : getV 4 (l.drop (4 * i)) = ((wd (kw l i) : Nat) : Int) := by
  rw [getV_num (by rw [List.length_drop]; omega)]
  have h0 := allB_getD h (4 * i)
  have h1 := allB_getD h (4 * i + 1)
  have h2 := allB_getD h (4 * i + 2)
  have h3 := allB_getD h (4 * i + 3)
  have hd : ∀ r, (l.drop (4 * i)).getD r 0 = l.getD (4 * i + r) 0 := fun r => by simp [List.getD_eq_getElem?_getD, List.getElem?_drop]
  have hl : 4 ≤ (l.drop (4 * i)).length := by rw [List.length_drop]; omega
  rw [numB_take_succ (by omega), numB_take_succ (by omega), numB_take_succ (by omega), numB_take_succ (by omega), hd, hd, hd, hd]
  show (((((numB ([] : List Int)) * 256 + l.getD (4 * i + 0) 0) * 256 + l.getD (4 * i + 1) 0) * 256 + l.getD (4 * i + 2) 0) * 256 + l.getD (4 * i + 3) 0) = _
  unfold wd kw
  rw [Nat.add_zero]
  have hn : numB ([] : List Int) = 0 := rfl
  rw [hn]
  omega
theorem info32 : (Tryz.prog.info? 115).map (fun i => (i.zero, i.size, i.bytes)) = some (some (.int .u32 0), 1, 4) := by kernel_rfl
def kwP (l : List Int) (i j : Nat) : Value := .int .u32 (((if j < i then wd (kw l j) else 0 : Nat)) : Int)
theorem madeCells_tabV (v : Value) (n : Nat) : madeCells #[v] n = tabV n (fun _ => v) := by
  apply Array.ext_getElem?
  intro j
  by_cases hj : j < n
  · rw [get_tabV hj]; simp [madeCells, hj, Nat.mod_one]
  · rw [Array.getElem?_eq_none (by simp [size_madeCells]; omega), Array.getElem?_eq_none (by rw [size_tabV]; omega)]
theorem Bs.dropK {w : World} {B b o k : Nat} {l : List Int} (h : Bs w B (some ⟨b, o, none⟩) l) : Bs w B (some ⟨b, o + k, none⟩) (l.drop k) := fun h0 => by
  rw [List.length_drop] at h0
  obtain ⟨b', o', e, hb, hc⟩ := h (by omega)
  injection e with e
  injection e with e1 e2 _
  subst e1 e2
  refine ⟨b, o + k, rfl, hb, fun j hj => ?_⟩
  rw [List.length_drop] at hj
  have := hc (k + j) (by omega)
  rw [Nat.add_assoc, this]
  simp [List.getD_eq_getElem?_getD, List.getElem?_drop]
theorem AllB.drop {l : List Int} (h : AllB l) (k : Nat) : AllB (l.drop k) := fun x hx => h x (List.mem_of_mem_drop hx)
set_option maxHeartbeats 1000000 in
theorem words_any (ba oa : Nat) (n c : Nat) (l : List Int) (w : World) (hl : l.length = 4 * n) (hA : AllB l) (hb : Bs w w.heap.size (some ⟨ba, oa, none⟩) l) (hn : 1 ≤ n) (hn2 : n ≤ 8) (hc : 4 * n ≤ c) (hcm : c ≤ 9223372036854775807) :
    Calls Tryz.prog 145 #[.slice (some ⟨ba, oa, none⟩) ((4 * n : Nat) : Nat) c] w fun e w' => e = .returned (.slice (some ⟨w.heap.size, 0, none⟩) n n) ∧ Blk w' w.heap.size 115 n (fun j => .int .u32 ((wd (kw l j) : Nat) : Int)) ∧ Below w.heap.size w w' := by
  have hmk := run_make_row' (P := Tryz.prog) 160 115 (.int .u32 0) 4 Tryz.underlying160 info32 rfl .i64 .i64 n (by omega) (by omega)
  rw [madeCells_tabV] at hmk
  obtain ⟨c0, hc0⟩ : ∃ c0 : Array Value, c0 = tabV n fun _ => .int .u32 0 := ⟨_, rfl⟩
  rw [← hc0] at hmk
  obtain ⟨W0, hW0⟩ : ∃ W, W = w.alloc (.cells c0 115) := ⟨_, rfl⟩
  have HK0 := Lib.hid (show Blk W0 w.heap.size 115 n (kwP l 0) by rw [hW0, hc0]; exact (Blk.made _ _ _ _).congr fun j hj => by unfold kwP; rw [if_neg (by omega)]; rfl)
  have HB0 := Lib.hid (show Below w.heap.size w W0 by rw [hW0]; exact (Below.refl _ _).alloc (Nat.le_refl _) _)
  have HBS := Lib.hid hb
  have HL := Lib.hid hl
  have HA := Lib.hid hA
  have HW0 := Lib.hid hW0
  clear hc0 hW0 hl hA hb
  have q4 : ((4 * n : Nat) : Int) / 4 = (n : Int) := by omega
  go_enter Tryz.func145, Tryz.ntmps145
  go_wp2_with fail
  clear hmk q4
  rw [← HW0.out]
  obtain ⟨b3, hb3⟩ : ∃ b, b = w.heap.size := ⟨_, rfl⟩
  rw [← hb3] at HK0 HB0 HBS ⊢
  have HB3 := Lib.hid hb3
  clear hb3
  go_loopw [11] (fun q wr => ∃ i : Nat, i ≤ n ∧ q = .int .i64 (i : Nat) ∧ Blk wr b3 115 n (kwP l i) ∧ Below b3 w wr) (fun q _ => n - (intOf q).toNat)
  case atStart => exact ⟨0, by omega, rfl, HK0.out, HB0.out⟩
  case round =>
    obtain ⟨i, hi, rfl, hK, hB⟩ := hrel
    have HK := Lib.hid hK
    have HB := Lib.hid hB
    clear hK hB HK0 HB0
    rename World => wr
    by_cases hlt : i < n
    · have qi : (i : Int) < (n : Int) := by omega
      have qi0 : (0 : Int) ≤ (i : Int) := by omega
      have qm0 : (0 : Int) ≤ 4 * (i : Int) := by omega
      have qm1 : 4 * (i : Int) ≤ 4 * (n : Int) := by omega
      have qm2 : 4 * (i : Int) ≤ 32 := by omega
      have qm3 : 4 * i < c := by omega
      have hcell := HK.out.cell hlt
      have hfr := HK.out.free i
      have hget := get32 (some ⟨ba, oa + 4 * i, none⟩) (4 * n - 4 * i) (c - 4 * i) (l.drop (4 * i)) wr (by rw [List.length_drop, HL.out]) (HA.out.drop _) ((HBS.out.below HB.out).dropK.more (by have := HB.out.size; have := HK.out.lt; omega)) (by omega)
      rw [getV_drop HA.out (by rw [HL.out]; omega)] at hget
      have HG := Lib.hid hget
      have hwl := wd_lt (kw_lt HA.out i)
      have hst := Lib.hid ((HK.out.set hlt (.int .u32 ((wd (kw l i) : Nat) : Int))).congr (h := kwP l (i + 1)) fun j hj => by
        unfold kwP
        by_cases e : j = i
        · rw [if_pos e, if_pos (by omega), e]
        · rw [if_neg e]
          by_cases e2 : j < i
          · rw [if_pos e2, if_pos (by omega)]
          · rw [if_neg e2, if_neg (by omega)])
      clear hget
      go_wp2_with (go_at_call 164; refine HG.out.mono ?_; rintro e w' ⟨rfl, rfl⟩)
      go_roundw
      case rel => exact ⟨i + 1, by omega, by go_num, hst.out, HB.out.setCell (p := ⟨b3, i, none⟩) (Nat.le_refl _) _⟩
      case measure => simp [intOf]; omega
    · obtain rfl : n = i := by omega
      go_wp2
      go_ret
      exact ⟨by rw [HB3.out]; rfl, by rw [← HB3.out]; exact HK.out.congr fun j hj => by unfold kwP; rw [if_pos hj], by rw [← HB3.out]; exact HB.out⟩
end Go.Proofs.YtappfdbmhgifcaaGreatDoor
/- What a cipher is in memory; contracts of missing, Rounds, squareOf. -/
namespace Go.Proofs.YtappfdbmhgifcaaGreatDoor
open Go.ChangeShapes Go.WideShapes Go.ChangeAt Go.RowKit
set_option linter.unusedVariables false
set_option maxRecDepth 100000

def sqL4 (S : Nat → Nat → Nat) : List Value := (List.range 4).map (sqc S)
/-- A cipher: its round keys, and the tables. -/
def Cip (w : World) (b n : Nat) (W : Nat → Nat → Nat) : Prop :=
  ∃ g cap, g < w.heap.size ∧ n + 1 ≤ cap ∧ cap ≤ 9223372036854775807 ∧ w.cell? ⟨b, 0, none⟩ = some (.slice (some ⟨g, 0, none⟩) (n + 1) cap) ∧ (∀ j, j ≤ n → w.rangeAt g (4 * j) (sqL4 (rk W j))) ∧
    Tb w b 1 box ∧ Tb w b 257 bxb ∧ Tp w b 513 (prt m2) ∧ Tp w b 769 (prt m14)
theorem Cip.lt {w : World} {b n : Nat} {W : Nat → Nat → Nat} (h : Cip w b n W) : b < w.heap.size := by
  obtain ⟨_, _, _, _, _, _, _, h1, _⟩ := h
  exact h1.1
theorem Cip.on {w w' : World} {b n : Nat} {W : Nat → Nat → Nat} (h : Cip w b n W) (hb : Below w.heap.size w w') : Cip w' b n W := by
  have hlt := h.lt
  obtain ⟨g, cap, h1, h2, h3, h4, h5, h6, h7, h8, h9⟩ := h
  exact ⟨g, cap, Nat.lt_of_lt_of_le h1 hb.size, h2, h3, (hb.cell (p := ⟨b, 0, none⟩) hlt).trans h4, fun j hj k v hv => (hb.cell (p := ⟨g, 4 * j + k, none⟩) h1).trans (h5 j hj k v hv), h6.on hb, h7.on hb, h8.on hb, h9.on hb⟩
theorem Cip.drewN {w : World} {b n : Nat} {W : Nat → Nat → Nat} (h : Cip w b n W) (q : Nat) : Cip (w.drewN q) b n W := h
theorem missing_cip (b n : Nat) (W : Nat → Nat → Nat) (w : World) (h : Cip w b n W) : Calls Tryz.prog 167 #[.pointer (some ⟨b, 0, none⟩)] w fun e w' => e = .returned (.bool false) ∧ w = w' := by
  obtain ⟨g, cap, h1, h2, h3, h4, _⟩ := h
  have q : (((n + 1 : Nat) : Int) == 0) = false := by rw [beq_eq_false_iff_ne]; omega
  have q2 : ((n : Int) + 1 == 0) = false := by rw [beq_eq_false_iff_ne]; omega
  clear h1 h2 h3
  go_enter Tryz.func167, Tryz.ntmps167
  go_wp2
  go_ret
  exact ⟨rfl, rfl⟩
theorem rounds_cip (b n : Nat) (W : Nat → Nat → Nat) (w : World) (h : Cip w b n W) : Calls Tryz.prog 149 #[.pointer (some ⟨b, 0, none⟩)] w fun e w' => e = .returned (.int .i64 (n : Nat)) ∧ w = w' := by
  have HM := Lib.hid (missing_cip b n W w h)
  obtain ⟨g, cap, h1, h2, h3, h4, _⟩ := h
  have hn : (n : Int) < 9223372036854775807 := by omega
  go_enter Tryz.func149, Tryz.ntmps149
  go_wp2_with (go_at_call 167; refine HM.out.mono ?_; rintro e w' ⟨rfl, rfl⟩)
  go_ret
  exact ⟨ret_int (by omega), rfl⟩
end Go.Proofs.YtappfdbmhgifcaaGreatDoor
/- Contracts of the cipher's squareOf. -/
namespace Go.Proofs.YtappfdbmhgifcaaGreatDoor
open Go.ChangeShapes Go.WideShapes Go.ChangeAt Go.RowKit
set_option linter.unusedVariables false
set_option maxRecDepth 100000

/-- No square. -/
def noSq : Array Value := tabV 4 fun _ => .int .u32 0
theorem zeroSq : ∀ w : World, (zeroValue 164).run Tryz.prog w = .ok (.agg noSq) w := by
  have h := (zero_of_info infoSq).1
  rw [replicate_tabV] at h
  exact h
theorem array_at (g o c : Nat) (w : World) : (Instr.arrayAt 164 (.slice (some ⟨g, o, none⟩) 4 c)).run Tryz.prog w = .ok (.pointer (some ⟨g, o, none⟩)) w := by kernel_rfl
theorem sq_words (l : List Int) : (tabV 4 fun j => (Value.int .u32 ((wd (kw l j) : Nat) : Int))) = sqV (kw l) := rfl
set_option maxHeartbeats 1000000 in
theorem squareOf_ok (b n : Nat) (W : Nat → Nat → Nat) (ba oa c : Nat) (l : List Int) (w : World) (h : Cip w b n W) (hl : l.length = 16) (hA : AllB l) (hb : Bs w w.heap.size (some ⟨ba, oa, none⟩) l) (hc : 16 ≤ c) (hcm : c ≤ 9223372036854775807) :
    Calls Tryz.prog 176 #[.pointer (some ⟨b, 0, none⟩), .slice (some ⟨ba, oa, none⟩) 16 c] w fun e w' => e = .returned (.tuple #[.agg (sqV (kw l)), .int .i64 0]) ∧ Below w.heap.size w w' := by
  have hz := zeroSq
  obtain ⟨c0, hc0⟩ : ∃ c : Array Value, c = noSq := ⟨_, rfl⟩
  rw [← hc0] at hz
  obtain ⟨W0, hW0⟩ : ∃ W, W = w.alloc (.cells c0 164) := ⟨_, rfl⟩
  have HB0 := Lib.hid (show Below w.heap.size w W0 by rw [hW0]; exact (Below.refl _ _).alloc (Nat.le_refl _) _)
  have HBK := Lib.hid (show Blk W0 w.heap.size 164 4 (fun _ => .int .u32 0) by rw [hW0, hc0]; exact Blk.made _ _ _ _)
  have HM := Lib.hid (missing_cip b n W W0 (h.on HB0.out))
  have hwo := words_any ba oa 4 c l W0 hl hA ((hb.below HB0.out).more HB0.out.size) (by omega) (by omega) hc hcm
  have HWO := Lib.hid (show Calls Tryz.prog 145 #[.slice (some ⟨ba, oa, none⟩) 16 c] W0 _ from hwo)
  have HW0 := Lib.hid hW0
  have HS1 := Lib.hid (show (Tryz.prog.info? 164).map (·.size) = some (sqV (kw l)).size by rw [size_sqV]; exact size_sq)
  have HS2 := Lib.hid (show (tabV 4 fun _ => (Value.int .u32 0)).size = (sqV (kw l)).size by rw [size_tabV, size_sqV])
  have HS3 := Lib.hid (show (sqV (kw l)).all (·.oneCell') = true from tabV_one fun _ => rfl)
  rw [hW0] at HM HWO
  clear hc0 hW0 h hl hA hb hwo
  obtain ⟨cs, hcs⟩ : ∃ cs, cs = sqV (kw l) := ⟨_, rfl⟩
  rw [← hcs] at HS1 HS2 HS3
  have HCS := Lib.hid hcs
  clear hcs
  have hat := array_at
  go_enter Tryz.func176, Tryz.ntmps176
  go_wp2_with (first
    | (go_at_call 167; refine HM.out.mono ?_; rintro e w' ⟨rfl, rfl⟩)
    | (go_at_call 145; refine HWO.out.mono ?_; rintro e w2 ⟨rfl, hk2, hb2⟩; have HK2 := Lib.hid hk2; have HB2 := Lib.hid hb2; clear hk2 hb2; rw [← HW0.out] at HK2 HB2; unfold Blk at HK2; rw [sq_words, ← HCS.out, show W0.heap.size = w.heap.size + 1 from by rw [HW0.out]; simp] at HK2; have HBR := Lib.hid (HBK.out.on HB2.out (by rw [HW0.out]; simp)))
    | ((with_reducible show wpList _ _ _ (⟨some 16, _, _, _, _, _⟩ :: _) _ _); refine wpList_load_row rfl 164 (.tmp 15) rfl (w.heap.size + 1) rfl _ cs _ _ HK2.out Tryz.underlying164 rfl HS1.out ?_)
    | ((with_reducible show wpList _ _ _ (⟨none, _, _, _, _, _⟩ :: _) _ _); refine wpList_store_row rfl 164 (.tmp 4) (.tmp 16) rfl w.heap.size cs rfl rfl _ _ HBR.out HS1.out HS2.out HS3.out ?_))
  refine bodyPost_ret (v := .tuple #[.agg cs, .int .i64 0]) ?_ rfl ⟨by rw [HCS.out], below_setRow (bt HB0.out HB2.out) (Nat.le_refl _) _⟩
  rw [results_cell_tmp rfl]
  have HR3 := HBR.out.row (sqc (kw l))
  unfold Blk at HR3
  rw [show tabV 4 (sqc (kw l)) = cs from HCS.out.symm] at HR3
  have hld := run_loadVar_row (P := Tryz.prog) _ w.heap.size _ 164 cs _ _ HR3 Tryz.underlying164 rfl HS1.out
  simp [asAddr, Result.andThen, hld]
end Go.Proofs.YtappfdbmhgifcaaGreatDoor
