/- The walk of StreamXors. -/
import Derived.Test.YtpfhfnhbholboaaNh
namespace Go.Proofs.Ytpfhfnhbholboaa
open Go.ChangeShapes Go.WideShapes Go.ChangeAt Go.RowKit
set_option linter.unusedVariables false
set_option linter.unusedSimpArgs false
set_option maxRecDepth 100000

theorem own_none (w : World) : (w.alloc (.cells #[] 5)).ownsRow w.heap.size 5 1 (.slice (some ⟨w.heap.size, 0, none⟩) 0 0) 0 (([] : List Int).map (Value.int .u8)) :=
  ⟨by simp, .inr ⟨w.heap.size, 0, #[], rfl, Nat.le_refl _, heap_alloc_new w _, Nat.le_refl _, Nat.zero_le _, by simp, by simp⟩⟩
set_option maxHeartbeats 1000000 in
theorem streamXors_long (a0 : Option Addr) (L0 c0 : Nat) (a1 : Option Addr) (L1 c1 : Nat) (a2 : Option Addr) (L2 c2 : Nat) (w : World) (h : 300 < L2) :
    Calls Try.prog 7 #[.slice a0 L0 c0, .slice a1 L1 c1, .slice a2 L2 c2] w fun e w' => e = .returned (.bool true) ∧ Below w.heap.size w w' := by
  have q : (300 : Int) < (L2 : Int) := by omega
  clear h
  go_enter Try.func7, Try.ntmps7
  go_upto_region 2 with (go_at_call 17; (with_reducible refine (lives6_any _).mono ?_); rintro e w1 ⟨rfl, hb1⟩; have HB1 := Lib.hid hb1; clear hb1)
  go_wp2_with (go_at_call 17; (with_reducible refine (lives6_any _).mono ?_); rintro e w2 ⟨rfl, hb2⟩; have HB2 := Lib.hid hb2; clear hb2)
  go_ret
  exact ⟨rfl, bt HB1.out HB2.out⟩
set_option maxHeartbeats 4000000 in
theorem streamXors_core (a0 : Option Addr) (L0 c0 : Nat) (a1 : Option Addr) (L1 c1 : Nat) (a2 : Option Addr) (L2 c2 : Nat) (k nn bl : List Int) (w : World) (hk : Arg8 w a0 L0 c0 k) (hn : Arg8 w a1 L1 c1 nn) (hb : Arg8c w a2 L2 c2 bl) (hL : L2 ≤ 300) :
    Calls Try.prog 7 #[.slice a0 L0 c0, .slice a1 L1 c1, .slice a2 L2 c2] w fun e w' => e = .returned (.bool true) ∧ Below w.heap.size w w' := by
  have HK := Lib.hid hk
  have HN := Lib.hid hn
  have HX := Lib.hid hb.1
  have HXN := Lib.hid hb.2
  have HBL := Lib.hid (show bl.length = L2 from hb.1.1)
  have HBB := Lib.hid (show AllB bl from hb.1.2.1)
  have HKB := Lib.hid (allB_padL hk.2.1 16)
  have HKL := Lib.hid (length_padL k 16)
  have HNB := Lib.hid (allB_padL hn.2.1 8)
  obtain ⟨K, hK⟩ : ∃ K, K = padL k 16 := ⟨_, rfl⟩
  obtain ⟨N, hN⟩ : ∃ N, N = padL nn 8 := ⟨_, rfl⟩
  rw [← hK] at HKB HKL
  rw [← hN] at HNB
  have HMD := Lib.hid (fun W (h : Arg8 W a0 L0 c0 k) => made_any a0 L0 c0 k W h)
  rw [← hK] at HMD
  have HNC := Lib.hid (fun W (h : Arg8 W a1 L1 c1 nn) => nonce_any a1 L1 c1 nn W h)
  rw [← hN] at HNC
  have HS : Hid (K.length = 16 ∨ K.length = 32) := Lib.hid (Or.inl HKL.out)
  have HSL := Lib.hid (length_stL (strf K N) 0 L2)
  have HSB := Lib.hid (allB_stL (strf_B HKB.out N) 0 L2)
  have HTW := Lib.hid (xorL_twice (a := bl) (b := stL (strf K N) 0 L2) (by rw [HSL.out, HBL.out]) HBB.out)
  obtain ⟨S, hS⟩ : ∃ S, S = stL (strf K N) 0 L2 := ⟨_, rfl⟩
  rw [← hS] at HSL HSB HTW
  have HXOR := Lib.hid (fun (b : Nat) (a : Option Addr) (a2 : Option Addr) (c2 : Nat) (l : List Int) (W : World) (h : CipK W b K) (hN : Arg8 W a 8 8 N) (hx : Arg8 W a2 L2 c2 l) => sxor_ok b K a 8 N a2 L2 c2 l W h HS.out HKB.out hN hx (by omega))
  have HBYT := Lib.hid (show ∀ (b : Nat) (a : Option Addr) (W : World), CipK W b K → Arg8 W a 8 8 N → Calls Try.prog 19 #[.pointer (some ⟨b, 0, none⟩), .slice a (8 : Nat) 8, .int .i64 0, .int .i64 (L2 : Nat)] W fun e w' => ∃ g o, e = .returned (.tuple #[.slice (some ⟨g, o, none⟩) L2 L2, .int .i64 0]) ∧
      Arg8 w' (some ⟨g, o, none⟩) L2 L2 (stL (strf K N) 0 L2) ∧ Below W.heap.size W w' from fun b a W h hN => bytes_ok b K a 8 N 0 L2 W h HS.out HKB.out hN (by omega) (by omega))
  rw [← hS] at HXOR HBYT
  obtain ⟨i5, hi, hz0, hz1, hz2⟩ := info_parts info5
  have HI := Lib.hid hi
  have HZ0 := Lib.hid hz0
  have HZ1 := Lib.hid hz1
  have HZ2 := Lib.hid hz2
  have HL := Lib.hid hL
  have q : ¬ (300 : Int) < (L2 : Int) := by omega
  clear hi hz0 hz1 hz2 hK hN hk hn hb hS
  go_enter Try.func7, Try.ntmps7
  go_upto_region 3 with (go_at_call 17; (with_reducible refine (lives6_any _).mono ?_); rintro e w1 ⟨rfl, hb⟩; have HB1 := Lib.hid hb; have HK1 := Lib.hid (HK.out.on hb); clear hb)
  go_upto_region 4 with (go_at_call 18; go_loud ((with_reducible refine (HMD.out w1 HK1.out).mono ?_); rintro e w2 ⟨b, gk, rfl, hc, hk, hb⟩; have HC2 := Lib.hid hc; have HB2 := Lib.hid (bt HB1.out hb); clear hc hk hb))
  have HO2 := Lib.hid (own_none w2)
  have HB2b := Lib.hid (show Below w2.heap.size w2 (w2.alloc (.cells #[] 5)) from (Below.refl _ _).alloc (Nat.le_refl _) _)
  have HX2 := Lib.hid (HX.out.on (bt HB2.out HB2b.out))
  have HX2S := Lib.hid (show Bs (w2.alloc (.cells #[] 5)) (w2.alloc (.cells #[] 5)).heap.size a2 bl from HX2.out.2.2.1)
  go_upto_region 5 with ((with_reducible show wpList _ _ _ (⟨some 32, _, _, _, _, _⟩ :: _) _ _); go_loud (refine wpList_append_bs _ (o := ⟨some 32, _, _, _, _, _⟩) rfl (.tmp 30) (.tmp 31) 22 rfl w2.heap.size 5 i5 Try.underlying22 HI.out HZ0.out HZ1.out HZ2.out _ 0 [] rfl HO2.out a2 L2 c2 _ bl rfl HX2S.out HBL.out HXN.out (by omega) (by simp) ?_; intro v3 w3 ho3 hg3))
  have hb3 : Below w2.heap.size w2 w3 := HB2b.out.grown hg3 (by simp) (fun k' hk' => by have := Option.some.inj (show some w2.heap.size = some k' from hk'); omega)
  obtain ⟨a3, c3, rfl, hs3, hl3, hc3, hm3, _⟩ := own_form (show w3.ownsRow w2.heap.size 5 1 v3 L2 (bl.map (Value.int .u8)) by simpa using ho3)
  have HO3 := Lib.hid (show Arg8 w3 a3 L2 c3 bl from ⟨hl3, HBB.out, hs3, hc3, hm3⟩)
  have HB3 := Lib.hid (bt HB2.out hb3)
  have HC3 := Lib.hid (HC2.out.on hb3)
  have HN3 := Lib.hid (HN.out.on HB3.out)
  clear hb3 hs3 hl3 hc3 hm3 ho3 hg3 HO2 HB2b HX2 HX2S
  go_upto_region 6 with (first
    | (go_at_call 20; go_loud ((with_reducible refine (HNC.out w3 HN3.out).mono ?_); rintro e w4 ⟨g4, rfl, ho, hb⟩; have HG4 := Lib.hid (own_le32 (by omega) ho HNB.out); have HB4 := Lib.hid (bt HB3.out hb); have HC4 := Lib.hid (HC3.out.on hb); have HO4 := Lib.hid (HO3.out.on hb); clear ho hb))
    | (go_at_call 22; go_loud ((with_reducible refine (HXOR.out b (some ⟨g4, 0, none⟩) a3 c3 bl w4 HC4.out HG4.out HO4.out).mono ?_); rintro e w5 ⟨g5, rfl, hx, hb⟩; have HX5 := Lib.hid hx; have HB5 := Lib.hid (bt HB4.out hb); have HC5 := Lib.hid (HC4.out.on hb); have HO5 := Lib.hid (HO4.out.on hb); have HN5 := Lib.hid (HN.out.on HB5.out); clear hx hb)))
  go_upto_region 7 with (first
    | (go_at_call 20; go_loud ((with_reducible refine (HNC.out w5 HN5.out).mono ?_); rintro e w6 ⟨g6, rfl, ho, hb⟩; have HG6 := Lib.hid (own_le32 (by omega) ho HNB.out); have HB6 := Lib.hid (bt HB5.out hb); have HC6 := Lib.hid (HC5.out.on hb); have HX6 := Lib.hid (HX5.out.on hb); have HO6 := Lib.hid (HO5.out.on hb); clear ho hb))
    | (go_at_call 22; go_loud ((with_reducible refine (HXOR.out b (some ⟨g6, 0, none⟩) (some ⟨g5, 0, none⟩) L2 _ w6 HC6.out HG6.out HX6.out).mono ?_); rintro e w7 ⟨g7, rfl, hx, hb⟩; rw [HTW.out] at hx; have HY7 := Lib.hid hx; have HB7 := Lib.hid (bt HB6.out hb); have HC7 := Lib.hid (HC6.out.on hb); have HX7 := Lib.hid (HX6.out.on hb); have HO7 := Lib.hid (HO6.out.on hb); have HN7 := Lib.hid (HN.out.on HB7.out); clear hx hb)))
  go_upto_region 8 with (first
    | (go_at_call 20; go_loud ((with_reducible refine (HNC.out w7 HN7.out).mono ?_); rintro e w8 ⟨g8, rfl, ho, hb⟩; have HG8 := Lib.hid (own_le32 (by omega) ho HNB.out); have HB8 := Lib.hid (bt HB7.out hb); have HC8 := Lib.hid (HC7.out.on hb); have HX8 := Lib.hid (HX7.out.on hb); have HY8 := Lib.hid (HY7.out.on hb); have HO8 := Lib.hid (HO7.out.on hb); clear ho hb))
    | (go_at_call 19; go_loud ((with_reducible refine (HBYT.out b (some ⟨g8, 0, none⟩) w8 HC8.out HG8.out).mono ?_); rintro e w9 ⟨g9, o9, rfl, hx, hb⟩; have HS9 := Lib.hid hx; have HB9 := Lib.hid (bt HB8.out hb); have HX9 := Lib.hid (HX8.out.on hb); have HY9 := Lib.hid (HY8.out.on hb); have HO9 := Lib.hid (HO8.out.on hb); have HA9 := Lib.hid (HX.out.on HB9.out); clear hx hb)))
  have hcy := HY9.out.strK
  have hco := HO9.out.strK
  have hca := HA9.out.strK
  have hee := str_eq (rfl : bl = bl)
  go_upto_region 10 with fail
  clear hcy hco hca hee
  go_wp2_with fail
  go_loopw [98] (fun q wr => ∃ i : Nat, i ≤ L2 ∧ q = .int .i64 (i : Nat) ∧ Below w9.heap.size w9 wr) (fun q _ => L2 - (intOf q).toNat)
  case atStart => exact ⟨0, by omega, rfl, Below.refl _ _⟩
  case round =>
    obtain ⟨i, hi, rfl, hbel⟩ := hrel
    rename World => V
    have HBV := Lib.hid hbel
    clear hbel
    by_cases hlt : i < L2
    · have HLT := Lib.hid hlt
      have hbV := HBV.out
      have hB := HA9.out.on hbV
      obtain ⟨ba, oa, rfl, _, hcb⟩ := hB.2.2.1.at_ (k := i) (by rw [hB.1]; exact hlt)
      have hcx := arg8_cell (HX9.out.on hbV) hlt
      rw [Nat.zero_add] at hcx
      have hcs := arg8_cell (HS9.out.on hbV) hlt
      have hxe := xorL_getD (a := bl) (b := S) (k := i) (by rw [HBL.out, HSL.out]; omega)
      have wb := allB_getD HBB.out i
      have ws := allB_getD HSB.out i
      obtain ⟨p, hp⟩ : ∃ p, p = bl.getD i 0 := ⟨_, rfl⟩
      obtain ⟨s, hs⟩ : ∃ s, s = S.getD i 0 := ⟨_, rfl⟩
      rw [← hp] at hcb hxe wb
      rw [← hs] at hcs hxe ws
      rw [hxe, ← u8_xor p s wb.1 wb.2 ws.1 ws.2] at hcx
      have qi : (i : Int) < (L2 : Int) := by omega
      clear hxe hp hs hbV hB
      go_wp2_with fail
      go_quiet (fail)
      go_wp2
      go_roundw
      case rel => exact ⟨i + 1, by have := HLT.out; omega, by go_num, below_drewN HBV.out _⟩
      case measure => simp [intOf]; have := HLT.out; omega
    · obtain rfl : i = L2 := by omega
      go_wp2
      go_ret
      exact ⟨rfl, bt HB9.out HBV.out⟩
theorem streamXors_walk (a0 : Option Addr) (L0 c0 : Nat) (a1 : Option Addr) (L1 c1 : Nat) (a2 : Option Addr) (L2 c2 : Nat) (w : World) (w0 : ∃ l, Arg8c w a0 L0 c0 l) (w1 : ∃ l, Arg8c w a1 L1 c1 l) (w2 : ∃ l, Arg8c w a2 L2 c2 l) :
    Calls Try.prog 7 #[.slice a0 L0 c0, .slice a1 L1 c1, .slice a2 L2 c2] w fun e w' => e = .returned (.bool true) ∧ Below w.heap.size w w' := by
  obtain ⟨k, hk, _⟩ := w0
  obtain ⟨nn, hn, _⟩ := w1
  obtain ⟨bl, hb⟩ := w2
  by_cases h : 300 < L2
  · exact streamXors_long a0 L0 c0 a1 L1 c1 a2 L2 c2 w h
  · exact streamXors_core a0 L0 c0 a1 L1 c1 a2 L2 c2 k nn bl w hk hn hb (by omega)
end Go.Proofs.Ytpfhfnhbholboaa
