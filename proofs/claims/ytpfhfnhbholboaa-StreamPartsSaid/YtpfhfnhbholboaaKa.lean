/- Contracts of the cipher's shift, row and word. -/
import Derived.Test.YtpfhfnhbholboaaKw
namespace Go.Proofs.Ytpfhfnhbholboaa
open Go.ChangeShapes Go.WideShapes Go.ChangeAt Go.RowKit
set_option linter.unusedVariables false
set_option maxRecDepth 100000

theorem shift_N (i : Nat) (hi : i < 4) (w : World) : Calls Try.prog 45 #[.int .i64 (i : Nat)] w fun e w' => e = .returned (.int .i64 ((8 * (3 - i) : Nat) : Int)) ∧ w = w' := by
  go_enter Try.func45, Try.ntmps45
  go_wp2
  go_ret
  exact ⟨ret_int (by omega), rfl⟩
theorem row_N (f : Nat → Nat) (hf : ∀ r, f r < 256) (i : Nat) (hi : i < 4) (w : World) : Calls Try.prog 52 #[.int .u32 ((wd f : Nat) : Int), .int .i64 (i : Nat)] w fun e w' => e = .returned (.int .u8 ((f i : Nat) : Int)) ∧ w = w' := by
  have HR := Lib.hid (wd_row hf hi)
  have hw := wd_lt hf
  obtain ⟨k, hk⟩ : ∃ k, k = 8 * (3 - i) := ⟨_, rfl⟩
  have HS := Lib.hid (shift_N i hi w)
  rw [← hk] at HR HS
  have hk2 : k ≤ 24 := by omega
  obtain ⟨x, hx⟩ : ∃ x, x = wd f := ⟨_, rfl⟩
  rw [← hx] at HR hw ⊢
  clear hx hk
  go_enter Try.func52, Try.ntmps52
  go_wp2_with (go_at_call 45; refine HS.out.mono ?_; rintro e w' ⟨rfl, rfl⟩)
  go_ret
  exact ⟨ret_int (by rw [← HR.out]; simp), rfl⟩
theorem qleft {P : Program} {f : FuncId} {args : Array Value} {w : World} {n : Nat} {v : Value} (h : Calls P f args (w.drewN n) fun e w' => e = .returned v ∧ w.drewN n = w') : Calls P f args (w.drewN n) fun e w'' => e = .returned v ∧ ∃ m, w'' = w.drewN m :=
  h.mono fun _ _ ⟨he, hm⟩ => ⟨he, n, hm.symm⟩
/-- So many bytes lie in a block from o on, as a table. -/
def Tb (w : World) (b o : Nat) (B : Nat → Nat) : Prop := b < w.heap.size ∧ ∀ j, j < 256 → w.cell? ⟨b, o + j, none⟩ = some (.int .u8 ((B j : Nat) : Int))
def Tp (w : World) (b o : Nat) (B : Nat → Nat) : Prop := b < w.heap.size ∧ ∀ j, j < 256 → w.cell? ⟨b, o + j, none⟩ = some (.int .u32 ((B j : Nat) : Int))
theorem Tb.on {w w' : World} {b o : Nat} {B : Nat → Nat} (h : Tb w b o B) (hb : Below w.heap.size w w') : Tb w' b o B :=
  ⟨Nat.lt_of_lt_of_le h.1 hb.size, fun j hj => (hb.cell (p := ⟨b, o + j, none⟩) h.1).trans (h.2 j hj)⟩
theorem Tp.on {w w' : World} {b o : Nat} {B : Nat → Nat} (h : Tp w b o B) (hb : Below w.heap.size w w') : Tp w' b o B :=
  ⟨Nat.lt_of_lt_of_le h.1 hb.size, fun j hj => (hb.cell (p := ⟨b, o + j, none⟩) h.1).trans (h.2 j hj)⟩
theorem Tb.drewN {w : World} {b o : Nat} {B : Nat → Nat} (h : Tb w b o B) (n : Nat) : Tb (w.drewN n) b o B := h
theorem Tp.drewN {w : World} {b o : Nat} {B : Nat → Nat} (h : Tp w b o B) (n : Nat) : Tp (w.drewN n) b o B := h

theorem pow_le24 {k : Nat} (hk : k ≤ 24) : 2 ^ k ≤ 16777216 := by
  have := Nat.pow_le_pow_right (show 0 < 2 by omega) hk
  exact this
theorem or_shl {P y k : Nat} (hP : P < 4294967296) (hy : y < 256) (hk : k ≤ 24) : bits .or .u32 (P : Int) ((y : Int) * 2 ^ k % 4294967296) = ((P ||| (y * 2 ^ k) : Nat) : Int) := by
  have h1 := pow_le24 hk
  have h2 : y * 2 ^ k < 4294967296 := Nat.lt_of_le_of_lt (Nat.mul_le_mul (show y ≤ 255 by omega) h1) (by decide)
  have e : ((y : Int) * 2 ^ k % 4294967296) = ((y * 2 ^ k : Nat) : Int) := by
    have : ((y : Int) * 2 ^ k) = ((y * 2 ^ k : Nat) : Int) := by simp
    rw [this]; omega
  rw [e, u32_or_nat _ _ hP h2]
theorem bword_N (b o : Nat) (B : Nat → Nat) (hB : ∀ x, B x < 256) (f : Nat → Nat) (hf : ∀ r, f r < 256) (w : World) (ht : Tb w b o B) :
    Calls Try.prog 48 #[.pointer (some ⟨b, o, none⟩), .int .u32 ((wd f : Nat) : Int)] w fun e w' => e = .returned (.int .u32 ((wd (fun r => B (f r)) : Nat) : Int)) ∧ ∃ q, w' = w.drewN q := by
  have hF : ∀ r, B (f r) < 256 := fun r => hB _
  have HF := Lib.hid hF
  have HT := Lib.hid ht
  have HFF := Lib.hid hf
  clear hF ht hf hB
  obtain ⟨X, hX⟩ : ∃ X, X = wd f := ⟨_, rfl⟩
  rw [← hX]
  have HX := Lib.hid hX
  clear hX
  go_enter Try.func48, Try.ntmps48
  go_wp2
  go_loopw [5, 7] (fun out s wr => ∃ i : Nat, i ≤ 4 ∧ s = .int .i64 (i : Nat) ∧ out = .int .u32 ((wdp (fun r => B (f r)) i : Nat) : Int) ∧ ∃ q, wr = w.drewN q) (fun _ s _ => 4 - (intOf s).toNat)
  case atStart => exact ⟨0, by omega, rfl, by rw [wdp_zero]; rfl, 0, rfl⟩
  case round =>
    obtain ⟨i, hi, rfl, rfl, q, hq⟩ := hrel
    have HQ := Lib.hid hq
    clear hq
    rename World => W
    by_cases hlt : i < 4
    · have HTW : Tb W b o B := by rw [HQ.out]; exact HT.out
      have hcell := HTW.2 (f i) (HFF.out i)
      clear HTW
      have hbi := HF.out i
      have HOR := Lib.hid (wdp_or HF.out hlt)
      have hP := wdp_lt HF.out i
      have HROW := Lib.hid (row_N f HFF.out i hlt)
      have HSH := Lib.hid (shift_N i hlt)
      rw [← HX.out] at HROW
      obtain ⟨k, hk⟩ : ∃ k, k = 8 * (3 - i) := ⟨_, rfl⟩
      rw [← hk] at HOR HSH
      have hk2 : k ≤ 24 := by omega
      obtain ⟨P, hPP⟩ : ∃ P, P = wdp (fun r => B (f r)) i := ⟨_, rfl⟩
      rw [← hPP] at HOR hP ⊢
      obtain ⟨y, hy⟩ : ∃ y, y = B (f i) := ⟨_, rfl⟩
      rw [← hy] at HOR hbi hcell
      obtain ⟨z, hz⟩ : ∃ z, z = f i := ⟨_, rfl⟩
      rw [← hz] at hcell HROW
      have hz2 : z < 256 := by rw [hz]; exact HFF.out i
      have hz3 : (z : Int) < 256 := by omega
      have hz4 : (0 : Int) ≤ (z : Int) := by omega
      have hor := or_shl hP hbi hk2
      rw [HOR.out] at hor
      clear hk hPP hy hz
      go_wp2_with fail
      go_quiet (first
        | (go_at_call 52; exact qleft (HROW.out _))
        | (go_at_call 45; exact qleft (HSH.out _)))
      go_wp2
      go_roundw
      case rel => exact ⟨i + 1, by omega, by go_num, rfl, _, by rw [HQ.out]; exact World.drewN_drewN _ _ _⟩
      case measure => simp [intOf]; omega
    · obtain rfl : i = 4 := by omega
      rw [wdp_all]
      go_wp2
      go_ret
      exact ⟨rfl, _, HQ.out⟩
end Go.Proofs.Ytpfhfnhbholboaa
