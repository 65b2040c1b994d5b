/- The walk of StreamBytes. -/
import Derived.Test.YtpfhfnhbholboaaNg
import Derived.BigQuiet
import Derived.Deep.QuietTactic
namespace Go.Proofs.Ytpfhfnhbholboaa
open Go.ChangeShapes Go.WideShapes Go.ChangeAt Go.RowKit
set_option linter.unusedVariables false
set_option linter.unusedSimpArgs false
set_option maxRecDepth 100000

theorem mod_nat (n d : Int) (h1 : 1 ≤ d) (h2 : d ≤ 2147483648) : ∃ N : Nat, (N : Int) < d ∧ wrap64 ((IntKind.u64.wrap n).tmod d) = (N : Int) := by
  have h0 : 0 ≤ IntKind.u64.wrap n ∧ IntKind.u64.wrap n < 18446744073709551616 := by rw [IntKind.wrap_u64]; omega
  have e : (IntKind.u64.wrap n).tmod d = (IntKind.u64.wrap n) % d := Int.tmod_eq_emod_of_nonneg h0.1
  rw [e]
  have l1 := Int.emod_nonneg (IntKind.u64.wrap n) (show d ≠ 0 by omega)
  have l2 := Int.emod_lt_of_pos (IntKind.u64.wrap n) (show 0 < d by omega)
  obtain ⟨x, hx⟩ : ∃ x, x = IntKind.u64.wrap n % d := ⟨_, rfl⟩
  rw [← hx] at l1 l2 ⊢
  clear hx e h0
  exact ⟨x.toNat, by omega, by unfold wrap64; omega⟩
/-- What stands in x: the block of the byte that was looked at last. -/
def XR (f : Nat → List Int) (A i : Nat) (X : Value) (wr : World) : Prop := i = 0 ∨ ∃ gx : Nat, X = .slice (some ⟨gx, 0, none⟩) 16 16 ∧ Arg8 wr (some ⟨gx, 0, none⟩) 16 16 (f ((A + i - 1) / 16))
theorem arg8_cell {w : World} {g o n c : Nat} {l : List Int} (h : Arg8 w (some ⟨g, o, none⟩) n c l) {i : Nat} (hi : i < n) : w.cell? ⟨g, o + i, none⟩ = some (.int .u8 (l.getD i 0)) := by
  obtain ⟨hl, _, hb, _⟩ := h
  obtain ⟨b, off, e, _, hc⟩ := hb.at_ (k := i) (by omega)
  cases e
  exact hc
set_option maxHeartbeats 4000000 in
theorem streamBytes_core (a0 : Option Addr) (L0 c0 : Nat) (a1 : Option Addr) (L1 c1 : Nat) (x y : Int) (k nn : List Int) (w : World) (hk : Arg8 w a0 L0 c0 k) (hn : Arg8 w a1 L1 c1 nn) :
    Calls Try.prog 6 #[.slice a0 L0 c0, .slice a1 L1 c1, .int .i64 x, .int .i64 y] w fun e w' => e = .returned (.bool true) ∧ Below w.heap.size w w' := by
  have HK := Lib.hid hk
  have HN := Lib.hid hn
  have HKB := Lib.hid (allB_padL hk.2.1 16)
  have HKL := Lib.hid (length_padL k 16)
  have HNB := Lib.hid (allB_padL hn.2.1 8)
  obtain ⟨K, hK⟩ : ∃ K, K = padL k 16 := ⟨_, rfl⟩
  obtain ⟨N, hN⟩ : ∃ N, N = padL nn 8 := ⟨_, rfl⟩
  rw [← hK] at HKB HKL
  rw [← hN] at HNB
  have HMD := Lib.hid (fun W (h : Arg8 W a0 L0 c0 k) => made_any a0 L0 c0 k W h)
  rw [← hK] at HMD
  have HNC := Lib.hid (fun W (h : Arg8 W a1 L1 c1 nn) => nonce_any a1 L1 c1 nn W h)
  rw [← hN] at HNC
  have HS : Hid (K.length = 16 ∨ K.length = 32) := Lib.hid (Or.inl HKL.out)
  obtain ⟨i5, hi, hz0, hz1, hz2⟩ := info_parts info5
  have HI := Lib.hid hi
  have HZ0 := Lib.hid hz0
  have HZ1 := Lib.hid hz1
  have HZ2 := Lib.hid hz2
  clear hi hz0 hz1 hz2 hK hN hk hn
  obtain ⟨A, hA, hxA⟩ := mod_nat x 1073741825 (by omega) (by omega)
  obtain ⟨n, hn, hyn⟩ := mod_nat y 200 (by omega) (by omega)
  have HA := Lib.hid hA
  have HL := Lib.hid hn
  go_enter Try.func6, Try.ntmps6
  go_upto_region 3 with (go_at_call 17; (with_reducible refine (lives6_any _).mono ?_); rintro e w1 ⟨rfl, hb⟩; have HB1 := Lib.hid hb; have HK1 := Lib.hid (HK.out.on hb); clear hb)
  go_upto_region 4 with (go_at_call 18; go_loud ((with_reducible refine (HMD.out w1 HK1.out).mono ?_); rintro e w2 ⟨b, gk, rfl, hc, hk, hb⟩; have HC2 := Lib.hid hc; have HA2 := Lib.hid hk; have HB2 := Lib.hid (bt HB1.out hb); have HN2 := Lib.hid (HN.out.on HB2.out); clear hc hk hb))
  go_upto_region 5 with fail
  rw [hxA, hyn]
  clear hxA hyn
  go_upto_region 6 with (first
    | (go_at_call 20; go_loud ((with_reducible refine (HNC.out w2 HN2.out).mono ?_); rintro e w3 ⟨gn, rfl, ho, hb⟩; have HO3 := Lib.hid (own_le32 (by omega) ho HNB.out); have HB3 := Lib.hid (bt HB2.out hb); have HC3 := Lib.hid (HC2.out.on hb); have HA3 := Lib.hid (HA2.out.on hb); clear ho hb))
    | (go_at_call 19; go_loud ((with_reducible refine (bytes_ok b K (some ⟨gn, 0, none⟩) 8 N A n w3 HC3.out HS.out HKB.out HO3.out (by have := HA.out; omega) (by have := HL.out; omega)).mono ?_); rintro e w4 ⟨g4, o4, rfl, hx, hb⟩; have HX4 := Lib.hid hx; have HB4 := Lib.hid (bt HB3.out hb); have HA4 := Lib.hid (HA3.out.on hb); clear hx hb)))
  go_wp2_with fail
  go_loopw [13, 49] (fun X q wr => ∃ i : Nat, i ≤ n ∧ q = .int .i64 (i : Nat) ∧ XR (strf K N) A i X wr ∧ Below w4.heap.size w4 wr) (fun _ q _ => n - (intOf q).toNat)
  case atStart => exact ⟨0, by omega, rfl, Or.inl rfl, Below.refl _ _⟩
  case round =>
    obtain ⟨i, hi, rfl, hxr, hbel⟩ := hrel
    rename World => V
    have HXR := Lib.hid hxr
    have HBV := Lib.hid hbel
    clear hxr hbel
    by_cases hlt : i < n
    · have HLT := Lib.hid hlt
      have HX5 := Lib.hid (HX4.out.on HBV.out)
      have HA5 := Lib.hid (HA4.out.on HBV.out)
      have HN5 := Lib.hid (HN.out.on (bt HB4.out HBV.out))
      obtain ⟨C, hC⟩ : ∃ C, C = (A + i) / 16 := ⟨_, rfl⟩
      obtain ⟨R, hR⟩ : ∃ R, R = (A + i) % 16 := ⟨_, rfl⟩
      have qC : ((A : Int) + (i : Int)) / 16 = (C : Int) := by omega
      have qR : ((A : Int) + (i : Int)) % 16 = (R : Int) := by omega
      have HR16 := Lib.hid (show R < 16 by omega)
      have HCR := Lib.hid (show C = (A + i) / 16 from hC)
      have HRR := Lib.hid (show R = (A + i) % 16 from hR)
      have hcb := arg8_cell HX5.out hlt
      rw [getD_stL _ _ hlt] at hcb
      have hv : sb (strf K N) (A + i) = (strf K N C).getD R 0 := by unfold sb; rw [hC, hR]
      rw [hv] at hcb
      have HSB := Lib.hid hv
      clear hC hR hv hcb
      by_cases hT : i = 0 ∨ R = 0
      · rcases (show ((i : Int) == 0) = true ∨ (((i : Int) == 0) = false ∧ ((R : Int) == 0) = true) by simp; omega) with q1 | ⟨q1, q2⟩
        all_goals
          have hCb : (0 : Int) ≤ (C : Int) ∧ (C : Int) < 18446744073709551616 := by have := HA.out; have := HL.out; omega
          have HCb := Lib.hid hCb
          obtain ⟨hc1, hc2⟩ := hCb
          clear hT
          go_wp2_with (first
            | (go_at_call 20; go_loud ((with_reducible refine (HNC.out V HN5.out).mono ?_); rintro e w6 ⟨g6, rfl, ho, hb⟩; have HO6 := Lib.hid (own_le32 (by omega) ho HNB.out); have HB6 := Lib.hid hb; have HA6 := Lib.hid (HA5.out.on hb); clear ho hb))
            | (go_at_call 21; go_loud ((with_reducible refine (refPut8 (C : Int) HCb.out.1 HCb.out.2 w6).mono ?_); rintro e w7 ⟨g7, rfl, ho, hb⟩; have HP7 := Lib.hid ho; have HO7 := Lib.hid (HO6.out.on hb); have HB7 := Lib.hid (bt HB6.out hb); have HA7 := Lib.hid (HA6.out.on hb); clear ho hb))
            | ((with_reducible show wpList _ _ _ (⟨some 70, _, _, _, _, _⟩ :: _) _ _); go_loud (refine wpList_append_full (o := ⟨some 70, _, _, _, _, _⟩) rfl (.tmp 63) (.tmp 69) 22 rfl 5 i5 Try.underlying22 HI.out HZ0.out HZ1.out HZ2.out (some ⟨g6, 0, none⟩) 8 8 N rfl HO7.out (by omega) (some ⟨g7, 0, none⟩) 8 8 (be 8 (C : Int)) rfl HP7.out (by omega) (by omega) (by omega) ?_; intro g8 cap8 w8 hx hb; have HX8 := Lib.hid (show Arg8 w8 (some ⟨g8, 0, none⟩) 16 cap8 (N ++ be 8 (C : Int)) from hx); have HB8 := Lib.hid (bt HB7.out hb); have HA8 := Lib.hid (HA7.out.on hb); clear hx hb))
            | (go_at_call 15; go_loud ((with_reducible refine (refEnc_arg (some ⟨gk, 0, none⟩) 16 16 K (some ⟨g8, 0, none⟩) cap8 (N ++ be 8 (C : Int)) w8 HA8.out (Or.inl rfl) HX8.out).mono ?_); rintro e w9 ⟨g9, rfl, ho, hb⟩; have HE9 := Lib.hid (show Arg8 w9 (some ⟨g9, 0, none⟩) 16 16 (strf K N C) from ho); have HB9 := Lib.hid (bt HB8.out hb); clear ho hb)))
          have hcb := arg8_cell (HX5.out.on HB9.out) HLT.out
          rw [getD_stL _ _ HLT.out, HSB.out] at hcb
          have hcx := arg8_cell HE9.out HR16.out
          rw [Nat.zero_add] at hcx
          obtain ⟨v, hv⟩ : ∃ v, v = (strf K N C).getD R 0 := ⟨_, rfl⟩
          rw [← hv] at hcb hcx
          have qi : (i : Int) < (n : Int) := by have := HLT.out; omega
          have qr : (R : Int) < 16 := by have := HR16.out; omega
          clear hv
          go_wp2_with fail
          go_quiet (fail)
          go_wp2
          go_roundw
          case rel =>
            refine ⟨i + 1, by have := HLT.out; omega, by go_num, Or.inr ⟨g9, rfl, ?_⟩, ?_⟩
            · rw [show (A + (i + 1) - 1) / 16 = C by rw [HCR.out]; omega]
              exact HE9.out.on (below_drewN (Below.refl _ _) _)
            · exact below_drewN (bt HBV.out HB9.out) _
          case measure => simp [intOf]; have := HLT.out; omega
      · have h0 : i ≠ 0 := fun e => hT (Or.inl e)
        have h1 : R ≠ 0 := fun e => hT (Or.inr e)
        have q1 : ((i : Int) == 0) = false := by simp; omega
        have q2 : ((R : Int) == 0) = false := by simp; omega
        rcases HXR.out with h2 | ⟨gx, rfl, hx⟩
        · exact absurd h2 h0
        · rw [show (A + i - 1) / 16 = C by have := HCR.out; have := HRR.out; omega] at hx
          have HE9 := Lib.hid hx
          clear hx hT h0 h1 HXR
          have hcb := arg8_cell (HX5.out.on (Below.refl _ _)) HLT.out
          rw [getD_stL _ _ HLT.out, HSB.out] at hcb
          have hcx := arg8_cell HE9.out HR16.out
          rw [Nat.zero_add] at hcx
          obtain ⟨v, hv⟩ : ∃ v, v = (strf K N C).getD R 0 := ⟨_, rfl⟩
          rw [← hv] at hcb hcx
          have qi : (i : Int) < (n : Int) := by have := HLT.out; omega
          have qr : (R : Int) < 16 := by have := HR16.out; omega
          clear hv
          go_wp2_with fail
          go_quiet (fail)
          go_wp2
          go_roundw
          case rel =>
            refine ⟨i + 1, by have := HLT.out; omega, by go_num, Or.inr ⟨gx, rfl, ?_⟩, ?_⟩
            · rw [show (A + (i + 1) - 1) / 16 = C by rw [HCR.out]; omega]
              exact HE9.out.on (below_drewN (Below.refl _ _) _)
            · exact below_drewN HBV.out _
          case measure => simp [intOf]; have := HLT.out; omega
    · obtain rfl : i = n := by omega
      go_wp2
      go_ret
      exact ⟨rfl, bt HB4.out HBV.out⟩
theorem streamBytes_walk (a0 : Option Addr) (L0 c0 : Nat) (a1 : Option Addr) (L1 c1 : Nat) (x y : Int) (w : World) (w0 : ∃ l, Arg8c w a0 L0 c0 l) (w1 : ∃ l, Arg8c w a1 L1 c1 l) (w2 : (Lit.int .i64 x).wf = true) (w3 : (Lit.int .i64 y).wf = true) :
    Calls Try.prog 6 #[.slice a0 L0 c0, .slice a1 L1 c1, .int .i64 x, .int .i64 y] w fun e w' => e = .returned (.bool true) ∧ Below w.heap.size w w' := by
  obtain ⟨k, hk, _⟩ := w0
  obtain ⟨nn, hn, _⟩ := w1
  exact streamBytes_core a0 L0 c0 a1 L1 c1 x y k nn w hk hn
end Go.Proofs.Ytpfhfnhbholboaa
