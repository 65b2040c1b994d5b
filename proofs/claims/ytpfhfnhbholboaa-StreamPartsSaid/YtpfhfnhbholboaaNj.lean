/- The walk of StreamParts (written by gen31.py). -/
import Derived.Test.YtpfhfnhbholboaaNi
namespace Go.Proofs.Ytpfhfnhbholboaa
open Go.ChangeShapes Go.WideShapes Go.ChangeAt Go.RowKit
set_option linter.unusedVariables false
set_option linter.unusedSimpArgs false
set_option maxRecDepth 100000

theorem arg8_tail {w : World} {g o n c : Nat} {l : List Int} (h : Arg8 w (some ⟨g, o, none⟩) n c l) (k : Nat) (hk : k < n) : Arg8 w (some ⟨g, o + k, none⟩) (n - k) (c - k) (l.drop k) := by
  obtain ⟨hl, hB, hb, hc, hm⟩ := h
  obtain ⟨b, off, e, hlt, hcell⟩ := hb (by omega)
  cases e
  refine ⟨by rw [List.length_drop, hl], fun x hx => hB x (List.mem_of_mem_drop hx), fun _ => ⟨_, _, rfl, hlt, fun i hi => ?_⟩, by omega, by omega⟩
  rw [List.length_drop] at hi
  have h1 := hcell (k + i) (by omega)
  rw [← Nat.add_assoc] at h1
  rw [h1, List.getD_eq_getElem?_getD, List.getD_eq_getElem?_getD, List.getElem?_drop]
set_option maxHeartbeats 1000000 in
theorem streamParts_long (a0 : Option Addr) (L0 c0 : Nat) (a1 : Option Addr) (L1 c1 : Nat) (x y z : Int) (w : World) (h : 100 < L1) :
    Calls Try.prog 8 #[.slice a0 L0 c0, .slice a1 L1 c1, .int .i64 x, .int .i64 y, .int .i64 z] w fun e w' => e = .returned (.bool true) ∧ Below w.heap.size w w' := by
  have q : (100 : Int) < (L1 : Int) := by omega
  clear h
  go_enter Try.func8, Try.ntmps8
  go_upto_region 2 with (go_at_call 17; (with_reducible refine (lives6_any _).mono ?_); rintro e w1 ⟨rfl, hb1⟩; have HB1 := Lib.hid hb1; clear hb1)
  go_wp2_with (go_at_call 17; (with_reducible refine (lives6_any _).mono ?_); rintro e w2 ⟨rfl, hb2⟩; have HB2 := Lib.hid hb2; clear hb2)
  go_ret
  exact ⟨rfl, bt HB1.out HB2.out⟩
set_option maxHeartbeats 4000000 in
theorem streamParts_form_lo (a0 : Option Addr) (L0 c0 : Nat) (a1 : Option Addr) (L1 c1 : Nat) (x y z : Int) (k nn : List Int) (w : World) (hk : Arg8 w a0 L0 c0 k) (hn : Arg8 w a1 L1 c1 nn) (hL : L1 ≤ 100) (hy : ¬ 300 < y) (h8 : L1 ≠ 8) :
    Calls Try.prog 8 #[.slice a0 L0 c0, .slice a1 L1 c1, .int .i64 x, .int .i64 y, .int .i64 z] w fun e w' => e = .returned (.bool true) ∧ Below w.heap.size w w' := by
  have HK := Lib.hid hk
  have HN := Lib.hid hn
  have HKB := Lib.hid (allB_padL hk.2.1 16)
  have HKL := Lib.hid (length_padL k 16)
  have HNB := Lib.hid (allB_padL hn.2.1 8)
  obtain ⟨K, hK⟩ : ∃ K, K = padL k 16 := ⟨_, rfl⟩
  obtain ⟨N, hN⟩ : ∃ N, N = padL nn 8 := ⟨_, rfl⟩
  rw [← hK] at HKB HKL
  rw [← hN] at HNB
  have HMD := Lib.hid (fun W (h : Arg8 W a0 L0 c0 k) => made_any a0 L0 c0 k W h)
  rw [← hK] at HMD
  have HNC := Lib.hid (fun W (h : Arg8 W a1 L1 c1 nn) => nonce_any a1 L1 c1 nn W h)
  rw [← hN] at HNC
  have HS : Hid (K.length = 16 ∨ K.length = 32) := Lib.hid (Or.inl HKL.out)
  obtain ⟨F, hF, hzF⟩ := mod_nat z 300 (by omega) (by omega)
  obtain ⟨G, hG⟩ : ∃ G, G = 300 - F := ⟨_, rfl⟩
  have HF := Lib.hid (show F < 300 by omega)
  have HG := Lib.hid hG
  have qG : (300 : Int) - (F : Int) = (G : Int) := by omega
  have HDR := Lib.hid (show (stL (strf K N) 0 300).drop F = stL (strf K N) F G by rw [stL_drop, Nat.zero_add, hG])
  have HB300 := Lib.hid (show ∀ (b : Nat) (a : Option Addr) (W : World), CipK W b K → Arg8 W a 8 8 N → Calls Try.prog 19 #[.pointer (some ⟨b, 0, none⟩), .slice a (8 : Nat) 8, .int .i64 0, .int .i64 300] W fun e w' => ∃ g o, e = .returned (.tuple #[.slice (some ⟨g, o, none⟩) 300 300, .int .i64 0]) ∧
      Arg8 w' (some ⟨g, o, none⟩) 300 300 (stL (strf K N) 0 300) ∧ Below W.heap.size W w' from fun b a W h hN => bytes_ok b K a 8 N 0 300 W h HS.out HKB.out hN (by omega) (by omega))
  have q8 : ((L1 : Int) != 8) = true := by simp; omega
  have HH := Lib.hid h8
  have q : ¬ (100 : Int) < (L1 : Int) := by omega
  have qy : ¬ 300 < y := hy
  clear h8 hy
  clear hK hN hk hn hF hG hL
  go_enter Try.func8, Try.ntmps8
  go_upto_region 3 with (go_at_call 17; (with_reducible refine (lives6_any _).mono ?_); rintro e w1 ⟨rfl, hb⟩; have HB1 := Lib.hid hb; have HK1 := Lib.hid (HK.out.on hb); clear hb)
  go_upto_region 4 with (go_at_call 18; go_loud ((with_reducible refine (HMD.out w1 HK1.out).mono ?_); rintro e w2 ⟨b, gk, rfl, hc, hk, hb⟩; have HC2 := Lib.hid hc; have HB2 := Lib.hid (bt HB1.out hb); have HN2 := Lib.hid (HN.out.on HB2.out); clear hc hk hb))
  go_upto_region 5 with (go_at_call 19; go_loud ((with_reducible refine (bytes_form b K a1 L1 c1 x y w2 HC2.out HS.out HH.out).mono ?_); rintro e w3 ⟨rfl, rfl⟩))
  obtain ⟨w4, hw4⟩ : ∃ w4, w4 = w2 := ⟨_, rfl⟩
  have HC4 := HC2
  have HB4 := HB2
  have HN4 := HN2
  rw [← hw4] at HC4 HB4 HN4
  rw [← hw4]
  clear hw4
  go_upto_region 10 with fail
  go_upto_region 11 with (first
    | (go_at_call 20; go_loud ((with_reducible refine (HNC.out w4 HN4.out).mono ?_); rintro e w5 ⟨g5, rfl, ho, hb⟩; have HB5 := Lib.hid (bt HB4.out hb); have HC5 := Lib.hid (HC4.out.on hb); have HN5 := Lib.hid (HN4.out.on hb); clear ho hb))
    | (go_at_call 19; go_loud ((with_reducible refine (bytes_range b K (some ⟨g5, 0, none⟩) 8 0 1048577 w5 HC5.out HS.out (Or.inr (Or.inr (Or.inr (by decide))))).mono ?_); rintro e w6 ⟨rfl, rfl⟩)))
  go_upto_region 12 with (first
    | (go_at_call 20; go_loud ((with_reducible refine (HNC.out w5 HN5.out).mono ?_); rintro e w6 ⟨g6, rfl, ho, hb⟩; have HB6 := Lib.hid (bt HB5.out hb); have HC6 := Lib.hid (HC5.out.on hb); have HN6 := Lib.hid (HN5.out.on hb); clear ho hb))
    | (go_at_call 19; go_loud ((with_reducible refine (bytes_nil _ _ _ _).mono ?_); rintro e w7 ⟨rfl, rfl⟩)))
  go_upto_region 13 with (first
    | (go_at_call 20; go_loud ((with_reducible refine (HNC.out w6 HN6.out).mono ?_); rintro e w7 ⟨g7, rfl, ho, hb⟩; have HB7 := Lib.hid (bt HB6.out hb); have HC7 := Lib.hid (HC6.out.on hb); have HN7 := Lib.hid (HN6.out.on hb); clear ho hb))
    | (go_at_call 22; go_loud ((with_reducible refine (sxor_nil _ (.bool true) 0 0 none _).mono ?_); rintro e w8 ⟨rfl, rfl⟩)))
  go_upto_region 15 with fail
  go_upto_region 16 with (first
    | (go_at_call 20; go_loud ((with_reducible refine (HNC.out w7 HN7.out).mono ?_); rintro e w8 ⟨g8, rfl, ho, hb⟩; have HG8 := Lib.hid (own_le32 (by omega) ho HNB.out); have HB8 := Lib.hid (bt HB7.out hb); have HC8 := Lib.hid (HC7.out.on hb); clear ho hb))
    | (go_at_call 19; go_loud ((with_reducible refine (HB300.out b (some ⟨g8, 0, none⟩) w8 HC8.out HG8.out).mono ?_); rintro e w9 ⟨g9, o9, rfl, hx, hb⟩; have HA9 := Lib.hid hx; have HB9 := Lib.hid (bt HB8.out hb); have HC9 := Lib.hid (HC8.out.on hb); have HN9 := Lib.hid (HN.out.on HB9.out); clear hx hb)))
  go_upto_region 17 with fail
  rw [hzF]
  clear hzF
  go_upto_region 18 with (first
    | (go_at_call 20; go_loud ((with_reducible refine (HNC.out w9 HN9.out).mono ?_); rintro e w10 ⟨g10, rfl, ho, hb⟩; have HG10 := Lib.hid (own_le32 (by omega) ho HNB.out); have HB10 := Lib.hid (bt HB9.out hb); have HC10 := Lib.hid (HC9.out.on hb); have HA10 := Lib.hid (HA9.out.on hb); clear ho hb))
    | (go_at_call 19; go_loud ((with_reducible refine (bytes_ok b K (some ⟨g10, 0, none⟩) 8 N F G w10 HC10.out HS.out HKB.out HG10.out (by have := HF.out; omega) (by have := HG.out; omega)).mono ?_); rintro e w11 ⟨g11, o11, rfl, hx, hb⟩; have HP11 := Lib.hid hx; have HB11 := Lib.hid (bt HB10.out hb); have HA11 := Lib.hid (HA10.out.on hb); clear hx hb)))
  have hT := arg8_tail HA11.out F HF.out
  rw [HDR.out] at hT
  have HT := Lib.hid hT
  have hcp : ∀ j, _ := fun j => (HP11.out.on (below_drewN (Below.refl _ _) j)).strK
  have hct : ∀ j, _ := fun j => (HT.out.on (below_drewN (Below.refl _ _) j)).strK
  have hee := str_eq (rfl : stL (strf K N) F G = stL (strf K N) F G)
  have qF : (F : Int) < 300 := by have := HF.out; omega
  clear hT
  go_wp2_with fail
  go_quiet (fail)
  go_wp2
  go_ret
  exact ⟨rfl, below_drewN HB11.out _⟩
set_option maxHeartbeats 4000000 in
theorem streamParts_neg_lo (a0 : Option Addr) (L0 c0 : Nat) (a1 : Option Addr) (c1 : Nat) (x y z : Int) (k nn : List Int) (w : World) (hk : Arg8 w a0 L0 c0 k) (hn : Arg8 w a1 8 c1 nn) (hL : 8 ≤ 100) (hy : ¬ 300 < y) (hx : x < 0) :
    Calls Try.prog 8 #[.slice a0 L0 c0, .slice a1 8 c1, .int .i64 x, .int .i64 y, .int .i64 z] w fun e w' => e = .returned (.bool true) ∧ Below w.heap.size w w' := by
  have HK := Lib.hid hk
  have HN := Lib.hid hn
  have HKB := Lib.hid (allB_padL hk.2.1 16)
  have HKL := Lib.hid (length_padL k 16)
  have HNB := Lib.hid (allB_padL hn.2.1 8)
  obtain ⟨K, hK⟩ : ∃ K, K = padL k 16 := ⟨_, rfl⟩
  obtain ⟨N, hN⟩ : ∃ N, N = padL nn 8 := ⟨_, rfl⟩
  rw [← hK] at HKB HKL
  rw [← hN] at HNB
  have HMD := Lib.hid (fun W (h : Arg8 W a0 L0 c0 k) => made_any a0 L0 c0 k W h)
  rw [← hK] at HMD
  have HNC := Lib.hid (fun W (h : Arg8 W a1 8 c1 nn) => nonce_any a1 8 c1 nn W h)
  rw [← hN] at HNC
  have HS : Hid (K.length = 16 ∨ K.length = 32) := Lib.hid (Or.inl HKL.out)
  obtain ⟨F, hF, hzF⟩ := mod_nat z 300 (by omega) (by omega)
  obtain ⟨G, hG⟩ : ∃ G, G = 300 - F := ⟨_, rfl⟩
  have HF := Lib.hid (show F < 300 by omega)
  have HG := Lib.hid hG
  have qG : (300 : Int) - (F : Int) = (G : Int) := by omega
  have HDR := Lib.hid (show (stL (strf K N) 0 300).drop F = stL (strf K N) F G by rw [stL_drop, Nat.zero_add, hG])
  have HB300 := Lib.hid (show ∀ (b : Nat) (a : Option Addr) (W : World), CipK W b K → Arg8 W a 8 8 N → Calls Try.prog 19 #[.pointer (some ⟨b, 0, none⟩), .slice a (8 : Nat) 8, .int .i64 0, .int .i64 300] W fun e w' => ∃ g o, e = .returned (.tuple #[.slice (some ⟨g, o, none⟩) 300 300, .int .i64 0]) ∧
      Arg8 w' (some ⟨g, o, none⟩) 300 300 (stL (strf K N) 0 300) ∧ Below W.heap.size W w' from fun b a W h hN => bytes_ok b K a 8 N 0 300 W h HS.out HKB.out hN (by omega) (by omega))
  have qx : x < 0 := hx
  have qy : ¬ 300 < y := hy
  clear hx hy
  clear hK hN hk hn hF hG hL
  go_enter Try.func8, Try.ntmps8
  go_upto_region 3 with (go_at_call 17; (with_reducible refine (lives6_any _).mono ?_); rintro e w1 ⟨rfl, hb⟩; have HB1 := Lib.hid hb; have HK1 := Lib.hid (HK.out.on hb); clear hb)
  go_upto_region 4 with (go_at_call 18; go_loud ((with_reducible refine (HMD.out w1 HK1.out).mono ?_); rintro e w2 ⟨b, gk, rfl, hc, hk, hb⟩; have HC2 := Lib.hid hc; have HB2 := Lib.hid (bt HB1.out hb); have HN2 := Lib.hid (HN.out.on HB2.out); clear hc hk hb))
  go_upto_region 5 with (go_at_call 19; go_loud ((with_reducible refine (bytes_range b K a1 c1 x y w2 HC2.out HS.out (Or.inl qx)).mono ?_); rintro e w3 ⟨rfl, rfl⟩))
  obtain ⟨w4, hw4⟩ : ∃ w4, w4 = w2 := ⟨_, rfl⟩
  have HC4 := HC2
  have HB4 := HB2
  have HN4 := HN2
  rw [← hw4] at HC4 HB4 HN4
  rw [← hw4]
  clear hw4
  go_upto_region 10 with fail
  go_upto_region 11 with (first
    | (go_at_call 20; go_loud ((with_reducible refine (HNC.out w4 HN4.out).mono ?_); rintro e w5 ⟨g5, rfl, ho, hb⟩; have HB5 := Lib.hid (bt HB4.out hb); have HC5 := Lib.hid (HC4.out.on hb); have HN5 := Lib.hid (HN4.out.on hb); clear ho hb))
    | (go_at_call 19; go_loud ((with_reducible refine (bytes_range b K (some ⟨g5, 0, none⟩) 8 0 1048577 w5 HC5.out HS.out (Or.inr (Or.inr (Or.inr (by decide))))).mono ?_); rintro e w6 ⟨rfl, rfl⟩)))
  go_upto_region 12 with (first
    | (go_at_call 20; go_loud ((with_reducible refine (HNC.out w5 HN5.out).mono ?_); rintro e w6 ⟨g6, rfl, ho, hb⟩; have HB6 := Lib.hid (bt HB5.out hb); have HC6 := Lib.hid (HC5.out.on hb); have HN6 := Lib.hid (HN5.out.on hb); clear ho hb))
    | (go_at_call 19; go_loud ((with_reducible refine (bytes_nil _ _ _ _).mono ?_); rintro e w7 ⟨rfl, rfl⟩)))
  go_upto_region 13 with (first
    | (go_at_call 20; go_loud ((with_reducible refine (HNC.out w6 HN6.out).mono ?_); rintro e w7 ⟨g7, rfl, ho, hb⟩; have HB7 := Lib.hid (bt HB6.out hb); have HC7 := Lib.hid (HC6.out.on hb); have HN7 := Lib.hid (HN6.out.on hb); clear ho hb))
    | (go_at_call 22; go_loud ((with_reducible refine (sxor_nil _ (.bool true) 0 0 none _).mono ?_); rintro e w8 ⟨rfl, rfl⟩)))
  go_upto_region 15 with fail
  go_upto_region 16 with (first
    | (go_at_call 20; go_loud ((with_reducible refine (HNC.out w7 HN7.out).mono ?_); rintro e w8 ⟨g8, rfl, ho, hb⟩; have HG8 := Lib.hid (own_le32 (by omega) ho HNB.out); have HB8 := Lib.hid (bt HB7.out hb); have HC8 := Lib.hid (HC7.out.on hb); clear ho hb))
    | (go_at_call 19; go_loud ((with_reducible refine (HB300.out b (some ⟨g8, 0, none⟩) w8 HC8.out HG8.out).mono ?_); rintro e w9 ⟨g9, o9, rfl, hx, hb⟩; have HA9 := Lib.hid hx; have HB9 := Lib.hid (bt HB8.out hb); have HC9 := Lib.hid (HC8.out.on hb); have HN9 := Lib.hid (HN.out.on HB9.out); clear hx hb)))
  go_upto_region 17 with fail
  rw [hzF]
  clear hzF
  go_upto_region 18 with (first
    | (go_at_call 20; go_loud ((with_reducible refine (HNC.out w9 HN9.out).mono ?_); rintro e w10 ⟨g10, rfl, ho, hb⟩; have HG10 := Lib.hid (own_le32 (by omega) ho HNB.out); have HB10 := Lib.hid (bt HB9.out hb); have HC10 := Lib.hid (HC9.out.on hb); have HA10 := Lib.hid (HA9.out.on hb); clear ho hb))
    | (go_at_call 19; go_loud ((with_reducible refine (bytes_ok b K (some ⟨g10, 0, none⟩) 8 N F G w10 HC10.out HS.out HKB.out HG10.out (by have := HF.out; omega) (by have := HG.out; omega)).mono ?_); rintro e w11 ⟨g11, o11, rfl, hx, hb⟩; have HP11 := Lib.hid hx; have HB11 := Lib.hid (bt HB10.out hb); have HA11 := Lib.hid (HA10.out.on hb); clear hx hb)))
  have hT := arg8_tail HA11.out F HF.out
  rw [HDR.out] at hT
  have HT := Lib.hid hT
  have hcp : ∀ j, _ := fun j => (HP11.out.on (below_drewN (Below.refl _ _) j)).strK
  have hct : ∀ j, _ := fun j => (HT.out.on (below_drewN (Below.refl _ _) j)).strK
  have hee := str_eq (rfl : stL (strf K N) F G = stL (strf K N) F G)
  have qF : (F : Int) < 300 := by have := HF.out; omega
  clear hT
  go_wp2_with fail
  go_quiet (fail)
  go_wp2
  go_ret
  exact ⟨rfl, below_drewN HB11.out _⟩
set_option maxHeartbeats 4000000 in
theorem streamParts_far_lo (a0 : Option Addr) (L0 c0 : Nat) (a1 : Option Addr) (c1 : Nat) (x y z : Int) (k nn : List Int) (w : World) (hk : Arg8 w a0 L0 c0 k) (hn : Arg8 w a1 8 c1 nn) (hL : 8 ≤ 100) (hy : ¬ 300 < y) (hx : 1073741824 < x) (hy0 : ¬ y < 0) :
    Calls Try.prog 8 #[.slice a0 L0 c0, .slice a1 8 c1, .int .i64 x, .int .i64 y, .int .i64 z] w fun e w' => e = .returned (.bool true) ∧ Below w.heap.size w w' := by
  have HK := Lib.hid hk
  have HN := Lib.hid hn
  have HKB := Lib.hid (allB_padL hk.2.1 16)
  have HKL := Lib.hid (length_padL k 16)
  have HNB := Lib.hid (allB_padL hn.2.1 8)
  obtain ⟨K, hK⟩ : ∃ K, K = padL k 16 := ⟨_, rfl⟩
  obtain ⟨N, hN⟩ : ∃ N, N = padL nn 8 := ⟨_, rfl⟩
  rw [← hK] at HKB HKL
  rw [← hN] at HNB
  have HMD := Lib.hid (fun W (h : Arg8 W a0 L0 c0 k) => made_any a0 L0 c0 k W h)
  rw [← hK] at HMD
  have HNC := Lib.hid (fun W (h : Arg8 W a1 8 c1 nn) => nonce_any a1 8 c1 nn W h)
  rw [← hN] at HNC
  have HS : Hid (K.length = 16 ∨ K.length = 32) := Lib.hid (Or.inl HKL.out)
  obtain ⟨F, hF, hzF⟩ := mod_nat z 300 (by omega) (by omega)
  obtain ⟨G, hG⟩ : ∃ G, G = 300 - F := ⟨_, rfl⟩
  have HF := Lib.hid (show F < 300 by omega)
  have HG := Lib.hid hG
  have qG : (300 : Int) - (F : Int) = (G : Int) := by omega
  have HDR := Lib.hid (show (stL (strf K N) 0 300).drop F = stL (strf K N) F G by rw [stL_drop, Nat.zero_add, hG])
  have HB300 := Lib.hid (show ∀ (b : Nat) (a : Option Addr) (W : World), CipK W b K → Arg8 W a 8 8 N → Calls Try.prog 19 #[.pointer (some ⟨b, 0, none⟩), .slice a (8 : Nat) 8, .int .i64 0, .int .i64 300] W fun e w' => ∃ g o, e = .returned (.tuple #[.slice (some ⟨g, o, none⟩) 300 300, .int .i64 0]) ∧
      Arg8 w' (some ⟨g, o, none⟩) 300 300 (stL (strf K N) 0 300) ∧ Below W.heap.size W w' from fun b a W h hN => bytes_ok b K a 8 N 0 300 W h HS.out HKB.out hN (by omega) (by omega))
  have qx : 1073741824 < x := hx
  have qx0 : ¬ x < 0 := by omega
  have qy0 : ¬ y < 0 := hy0
  have qy : ¬ 300 < y := hy
  clear hx hy hy0
  clear hK hN hk hn hF hG hL
  go_enter Try.func8, Try.ntmps8
  go_upto_region 3 with (go_at_call 17; (with_reducible refine (lives6_any _).mono ?_); rintro e w1 ⟨rfl, hb⟩; have HB1 := Lib.hid hb; have HK1 := Lib.hid (HK.out.on hb); clear hb)
  go_upto_region 4 with (go_at_call 18; go_loud ((with_reducible refine (HMD.out w1 HK1.out).mono ?_); rintro e w2 ⟨b, gk, rfl, hc, hk, hb⟩; have HC2 := Lib.hid hc; have HB2 := Lib.hid (bt HB1.out hb); have HN2 := Lib.hid (HN.out.on HB2.out); clear hc hk hb))
  go_upto_region 5 with (go_at_call 19; go_loud ((with_reducible refine (bytes_range b K a1 c1 x y w2 HC2.out HS.out (Or.inr (Or.inl qx))).mono ?_); rintro e w3 ⟨rfl, rfl⟩))
  obtain ⟨w4, hw4⟩ : ∃ w4, w4 = w2 := ⟨_, rfl⟩
  have HC4 := HC2
  have HB4 := HB2
  have HN4 := HN2
  rw [← hw4] at HC4 HB4 HN4
  rw [← hw4]
  clear hw4
  go_upto_region 10 with fail
  go_upto_region 11 with (first
    | (go_at_call 20; go_loud ((with_reducible refine (HNC.out w4 HN4.out).mono ?_); rintro e w5 ⟨g5, rfl, ho, hb⟩; have HB5 := Lib.hid (bt HB4.out hb); have HC5 := Lib.hid (HC4.out.on hb); have HN5 := Lib.hid (HN4.out.on hb); clear ho hb))
    | (go_at_call 19; go_loud ((with_reducible refine (bytes_range b K (some ⟨g5, 0, none⟩) 8 0 1048577 w5 HC5.out HS.out (Or.inr (Or.inr (Or.inr (by decide))))).mono ?_); rintro e w6 ⟨rfl, rfl⟩)))
  go_upto_region 12 with (first
    | (go_at_call 20; go_loud ((with_reducible refine (HNC.out w5 HN5.out).mono ?_); rintro e w6 ⟨g6, rfl, ho, hb⟩; have HB6 := Lib.hid (bt HB5.out hb); have HC6 := Lib.hid (HC5.out.on hb); have HN6 := Lib.hid (HN5.out.on hb); clear ho hb))
    | (go_at_call 19; go_loud ((with_reducible refine (bytes_nil _ _ _ _).mono ?_); rintro e w7 ⟨rfl, rfl⟩)))
  go_upto_region 13 with (first
    | (go_at_call 20; go_loud ((with_reducible refine (HNC.out w6 HN6.out).mono ?_); rintro e w7 ⟨g7, rfl, ho, hb⟩; have HB7 := Lib.hid (bt HB6.out hb); have HC7 := Lib.hid (HC6.out.on hb); have HN7 := Lib.hid (HN6.out.on hb); clear ho hb))
    | (go_at_call 22; go_loud ((with_reducible refine (sxor_nil _ (.bool true) 0 0 none _).mono ?_); rintro e w8 ⟨rfl, rfl⟩)))
  go_upto_region 15 with fail
  go_upto_region 16 with (first
    | (go_at_call 20; go_loud ((with_reducible refine (HNC.out w7 HN7.out).mono ?_); rintro e w8 ⟨g8, rfl, ho, hb⟩; have HG8 := Lib.hid (own_le32 (by omega) ho HNB.out); have HB8 := Lib.hid (bt HB7.out hb); have HC8 := Lib.hid (HC7.out.on hb); clear ho hb))
    | (go_at_call 19; go_loud ((with_reducible refine (HB300.out b (some ⟨g8, 0, none⟩) w8 HC8.out HG8.out).mono ?_); rintro e w9 ⟨g9, o9, rfl, hx, hb⟩; have HA9 := Lib.hid hx; have HB9 := Lib.hid (bt HB8.out hb); have HC9 := Lib.hid (HC8.out.on hb); have HN9 := Lib.hid (HN.out.on HB9.out); clear hx hb)))
  go_upto_region 17 with fail
  rw [hzF]
  clear hzF
  go_upto_region 18 with (first
    | (go_at_call 20; go_loud ((with_reducible refine (HNC.out w9 HN9.out).mono ?_); rintro e w10 ⟨g10, rfl, ho, hb⟩; have HG10 := Lib.hid (own_le32 (by omega) ho HNB.out); have HB10 := Lib.hid (bt HB9.out hb); have HC10 := Lib.hid (HC9.out.on hb); have HA10 := Lib.hid (HA9.out.on hb); clear ho hb))
    | (go_at_call 19; go_loud ((with_reducible refine (bytes_ok b K (some ⟨g10, 0, none⟩) 8 N F G w10 HC10.out HS.out HKB.out HG10.out (by have := HF.out; omega) (by have := HG.out; omega)).mono ?_); rintro e w11 ⟨g11, o11, rfl, hx, hb⟩; have HP11 := Lib.hid hx; have HB11 := Lib.hid (bt HB10.out hb); have HA11 := Lib.hid (HA10.out.on hb); clear hx hb)))
  have hT := arg8_tail HA11.out F HF.out
  rw [HDR.out] at hT
  have HT := Lib.hid hT
  have hcp : ∀ j, _ := fun j => (HP11.out.on (below_drewN (Below.refl _ _) j)).strK
  have hct : ∀ j, _ := fun j => (HT.out.on (below_drewN (Below.refl _ _) j)).strK
  have hee := str_eq (rfl : stL (strf K N) F G = stL (strf K N) F G)
  have qF : (F : Int) < 300 := by have := HF.out; omega
  clear hT
  go_wp2_with fail
  go_quiet (fail)
  go_wp2
  go_ret
  exact ⟨rfl, below_drewN HB11.out _⟩
set_option maxHeartbeats 4000000 in
theorem streamParts_size (a0 : Option Addr) (L0 c0 : Nat) (a1 : Option Addr) (c1 : Nat) (x y z : Int) (k nn : List Int) (w : World) (hk : Arg8 w a0 L0 c0 k) (hn : Arg8 w a1 8 c1 nn) (hL : 8 ≤ 100) (hy : y < 0) (hx : ¬ x < 0) :
    Calls Try.prog 8 #[.slice a0 L0 c0, .slice a1 8 c1, .int .i64 x, .int .i64 y, .int .i64 z] w fun e w' => e = .returned (.bool true) ∧ Below w.heap.size w w' := by
  have HK := Lib.hid hk
  have HN := Lib.hid hn
  have HKB := Lib.hid (allB_padL hk.2.1 16)
  have HKL := Lib.hid (length_padL k 16)
  have HNB := Lib.hid (allB_padL hn.2.1 8)
  obtain ⟨K, hK⟩ : ∃ K, K = padL k 16 := ⟨_, rfl⟩
  obtain ⟨N, hN⟩ : ∃ N, N = padL nn 8 := ⟨_, rfl⟩
  rw [← hK] at HKB HKL
  rw [← hN] at HNB
  have HMD := Lib.hid (fun W (h : Arg8 W a0 L0 c0 k) => made_any a0 L0 c0 k W h)
  rw [← hK] at HMD
  have HNC := Lib.hid (fun W (h : Arg8 W a1 8 c1 nn) => nonce_any a1 8 c1 nn W h)
  rw [← hN] at HNC
  have HS : Hid (K.length = 16 ∨ K.length = 32) := Lib.hid (Or.inl HKL.out)
  obtain ⟨F, hF, hzF⟩ := mod_nat z 300 (by omega) (by omega)
  obtain ⟨G, hG⟩ : ∃ G, G = 300 - F := ⟨_, rfl⟩
  have HF := Lib.hid (show F < 300 by omega)
  have HG := Lib.hid hG
  have qG : (300 : Int) - (F : Int) = (G : Int) := by omega
  have HDR := Lib.hid (show (stL (strf K N) 0 300).drop F = stL (strf K N) F G by rw [stL_drop, Nat.zero_add, hG])
  have HB300 := Lib.hid (show ∀ (b : Nat) (a : Option Addr) (W : World), CipK W b K → Arg8 W a 8 8 N → Calls Try.prog 19 #[.pointer (some ⟨b, 0, none⟩), .slice a (8 : Nat) 8, .int .i64 0, .int .i64 300] W fun e w' => ∃ g o, e = .returned (.tuple #[.slice (some ⟨g, o, none⟩) 300 300, .int .i64 0]) ∧
      Arg8 w' (some ⟨g, o, none⟩) 300 300 (stL (strf K N) 0 300) ∧ Below W.heap.size W w' from fun b a W h hN => bytes_ok b K a 8 N 0 300 W h HS.out HKB.out hN (by omega) (by omega))
  have qx : ¬ x < 0 := hx
  clear hx
  have qy : y < 0 := hy
  have qy3 : ¬ 300 < y := by omega
  clear hy
  clear hK hN hk hn hF hG hL
  go_enter Try.func8, Try.ntmps8
  go_upto_region 3 with (go_at_call 17; (with_reducible refine (lives6_any _).mono ?_); rintro e w1 ⟨rfl, hb⟩; have HB1 := Lib.hid hb; have HK1 := Lib.hid (HK.out.on hb); clear hb)
  go_upto_region 4 with (go_at_call 18; go_loud ((with_reducible refine (HMD.out w1 HK1.out).mono ?_); rintro e w2 ⟨b, gk, rfl, hc, hk, hb⟩; have HC2 := Lib.hid hc; have HB2 := Lib.hid (bt HB1.out hb); have HN2 := Lib.hid (HN.out.on HB2.out); clear hc hk hb))
  go_upto_region 5 with (go_at_call 19; go_loud ((with_reducible refine (bytes_range b K a1 c1 x y w2 HC2.out HS.out (Or.inr (Or.inr (Or.inl qy)))).mono ?_); rintro e w3 ⟨rfl, rfl⟩))
  obtain ⟨w4, hw4⟩ : ∃ w4, w4 = w2 := ⟨_, rfl⟩
  have HC4 := HC2
  have HB4 := HB2
  have HN4 := HN2
  rw [← hw4] at HC4 HB4 HN4
  rw [← hw4]
  clear hw4
  go_upto_region 10 with fail
  go_upto_region 11 with (first
    | (go_at_call 20; go_loud ((with_reducible refine (HNC.out w4 HN4.out).mono ?_); rintro e w5 ⟨g5, rfl, ho, hb⟩; have HB5 := Lib.hid (bt HB4.out hb); have HC5 := Lib.hid (HC4.out.on hb); have HN5 := Lib.hid (HN4.out.on hb); clear ho hb))
    | (go_at_call 19; go_loud ((with_reducible refine (bytes_range b K (some ⟨g5, 0, none⟩) 8 0 1048577 w5 HC5.out HS.out (Or.inr (Or.inr (Or.inr (by decide))))).mono ?_); rintro e w6 ⟨rfl, rfl⟩)))
  go_upto_region 12 with (first
    | (go_at_call 20; go_loud ((with_reducible refine (HNC.out w5 HN5.out).mono ?_); rintro e w6 ⟨g6, rfl, ho, hb⟩; have HB6 := Lib.hid (bt HB5.out hb); have HC6 := Lib.hid (HC5.out.on hb); have HN6 := Lib.hid (HN5.out.on hb); clear ho hb))
    | (go_at_call 19; go_loud ((with_reducible refine (bytes_nil _ _ _ _).mono ?_); rintro e w7 ⟨rfl, rfl⟩)))
  go_upto_region 13 with (first
    | (go_at_call 20; go_loud ((with_reducible refine (HNC.out w6 HN6.out).mono ?_); rintro e w7 ⟨g7, rfl, ho, hb⟩; have HB7 := Lib.hid (bt HB6.out hb); have HC7 := Lib.hid (HC6.out.on hb); have HN7 := Lib.hid (HN6.out.on hb); clear ho hb))
    | (go_at_call 22; go_loud ((with_reducible refine (sxor_nil _ (.bool true) 0 0 none _).mono ?_); rintro e w8 ⟨rfl, rfl⟩)))
  go_upto_region 15 with fail
  go_upto_region 16 with (first
    | (go_at_call 20; go_loud ((with_reducible refine (HNC.out w7 HN7.out).mono ?_); rintro e w8 ⟨g8, rfl, ho, hb⟩; have HG8 := Lib.hid (own_le32 (by omega) ho HNB.out); have HB8 := Lib.hid (bt HB7.out hb); have HC8 := Lib.hid (HC7.out.on hb); clear ho hb))
    | (go_at_call 19; go_loud ((with_reducible refine (HB300.out b (some ⟨g8, 0, none⟩) w8 HC8.out HG8.out).mono ?_); rintro e w9 ⟨g9, o9, rfl, hx, hb⟩; have HA9 := Lib.hid hx; have HB9 := Lib.hid (bt HB8.out hb); have HC9 := Lib.hid (HC8.out.on hb); have HN9 := Lib.hid (HN.out.on HB9.out); clear hx hb)))
  go_upto_region 17 with fail
  rw [hzF]
  clear hzF
  go_upto_region 18 with (first
    | (go_at_call 20; go_loud ((with_reducible refine (HNC.out w9 HN9.out).mono ?_); rintro e w10 ⟨g10, rfl, ho, hb⟩; have HG10 := Lib.hid (own_le32 (by omega) ho HNB.out); have HB10 := Lib.hid (bt HB9.out hb); have HC10 := Lib.hid (HC9.out.on hb); have HA10 := Lib.hid (HA9.out.on hb); clear ho hb))
    | (go_at_call 19; go_loud ((with_reducible refine (bytes_ok b K (some ⟨g10, 0, none⟩) 8 N F G w10 HC10.out HS.out HKB.out HG10.out (by have := HF.out; omega) (by have := HG.out; omega)).mono ?_); rintro e w11 ⟨g11, o11, rfl, hx, hb⟩; have HP11 := Lib.hid hx; have HB11 := Lib.hid (bt HB10.out hb); have HA11 := Lib.hid (HA10.out.on hb); clear hx hb)))
  have hT := arg8_tail HA11.out F HF.out
  rw [HDR.out] at hT
  have HT := Lib.hid hT
  have hcp : ∀ j, _ := fun j => (HP11.out.on (below_drewN (Below.refl _ _) j)).strK
  have hct : ∀ j, _ := fun j => (HT.out.on (below_drewN (Below.refl _ _) j)).strK
  have hee := str_eq (rfl : stL (strf K N) F G = stL (strf K N) F G)
  have qF : (F : Int) < 300 := by have := HF.out; omega
  clear hT
  go_wp2_with fail
  go_quiet (fail)
  go_wp2
  go_ret
  exact ⟨rfl, below_drewN HB11.out _⟩
set_option maxHeartbeats 4000000 in
theorem streamParts_form_hi (a0 : Option Addr) (L0 c0 : Nat) (a1 : Option Addr) (L1 c1 : Nat) (x y z : Int) (k nn : List Int) (w : World) (hk : Arg8 w a0 L0 c0 k) (hn : Arg8 w a1 L1 c1 nn) (hL : L1 ≤ 100) (hy : 300 < y) (h8 : L1 ≠ 8) :
    Calls Try.prog 8 #[.slice a0 L0 c0, .slice a1 L1 c1, .int .i64 x, .int .i64 y, .int .i64 z] w fun e w' => e = .returned (.bool true) ∧ Below w.heap.size w w' := by
  have HK := Lib.hid hk
  have HN := Lib.hid hn
  have HKB := Lib.hid (allB_padL hk.2.1 16)
  have HKL := Lib.hid (length_padL k 16)
  have HNB := Lib.hid (allB_padL hn.2.1 8)
  obtain ⟨K, hK⟩ : ∃ K, K = padL k 16 := ⟨_, rfl⟩
  obtain ⟨N, hN⟩ : ∃ N, N = padL nn 8 := ⟨_, rfl⟩
  rw [← hK] at HKB HKL
  rw [← hN] at HNB
  have HMD := Lib.hid (fun W (h : Arg8 W a0 L0 c0 k) => made_any a0 L0 c0 k W h)
  rw [← hK] at HMD
  have HNC := Lib.hid (fun W (h : Arg8 W a1 L1 c1 nn) => nonce_any a1 L1 c1 nn W h)
  rw [← hN] at HNC
  have HS : Hid (K.length = 16 ∨ K.length = 32) := Lib.hid (Or.inl HKL.out)
  obtain ⟨F, hF, hzF⟩ := mod_nat z 300 (by omega) (by omega)
  obtain ⟨G, hG⟩ : ∃ G, G = 300 - F := ⟨_, rfl⟩
  have HF := Lib.hid (show F < 300 by omega)
  have HG := Lib.hid hG
  have qG : (300 : Int) - (F : Int) = (G : Int) := by omega
  have HDR := Lib.hid (show (stL (strf K N) 0 300).drop F = stL (strf K N) F G by rw [stL_drop, Nat.zero_add, hG])
  have HB300 := Lib.hid (show ∀ (b : Nat) (a : Option Addr) (W : World), CipK W b K → Arg8 W a 8 8 N → Calls Try.prog 19 #[.pointer (some ⟨b, 0, none⟩), .slice a (8 : Nat) 8, .int .i64 0, .int .i64 300] W fun e w' => ∃ g o, e = .returned (.tuple #[.slice (some ⟨g, o, none⟩) 300 300, .int .i64 0]) ∧
      Arg8 w' (some ⟨g, o, none⟩) 300 300 (stL (strf K N) 0 300) ∧ Below W.heap.size W w' from fun b a W h hN => bytes_ok b K a 8 N 0 300 W h HS.out HKB.out hN (by omega) (by omega))
  have q8 : ((L1 : Int) != 8) = true := by simp; omega
  have HH := Lib.hid h8
  have q : ¬ (100 : Int) < (L1 : Int) := by omega
  have qy : 300 < y := hy
  clear h8 hy
  clear hK hN hk hn hF hG hL
  go_enter Try.func8, Try.ntmps8
  go_upto_region 3 with (go_at_call 17; (with_reducible refine (lives6_any _).mono ?_); rintro e w1 ⟨rfl, hb⟩; have HB1 := Lib.hid hb; have HK1 := Lib.hid (HK.out.on hb); clear hb)
  go_upto_region 4 with (go_at_call 18; go_loud ((with_reducible refine (HMD.out w1 HK1.out).mono ?_); rintro e w2 ⟨b, gk, rfl, hc, hk, hb⟩; have HC2 := Lib.hid hc; have HB2 := Lib.hid (bt HB1.out hb); have HN2 := Lib.hid (HN.out.on HB2.out); clear hc hk hb))
  go_upto_region 5 with (go_at_call 19; go_loud ((with_reducible refine (bytes_form b K a1 L1 c1 x 300 w2 HC2.out HS.out HH.out).mono ?_); rintro e w3 ⟨rfl, rfl⟩))
  obtain ⟨w4, hw4⟩ : ∃ w4, w4 = w2 := ⟨_, rfl⟩
  have HC4 := HC2
  have HB4 := HB2
  have HN4 := HN2
  rw [← hw4] at HC4 HB4 HN4
  rw [← hw4]
  clear hw4
  go_upto_region 10 with fail
  go_upto_region 11 with (first
    | (go_at_call 20; go_loud ((with_reducible refine (HNC.out w4 HN4.out).mono ?_); rintro e w5 ⟨g5, rfl, ho, hb⟩; have HB5 := Lib.hid (bt HB4.out hb); have HC5 := Lib.hid (HC4.out.on hb); have HN5 := Lib.hid (HN4.out.on hb); clear ho hb))
    | (go_at_call 19; go_loud ((with_reducible refine (bytes_range b K (some ⟨g5, 0, none⟩) 8 0 1048577 w5 HC5.out HS.out (Or.inr (Or.inr (Or.inr (by decide))))).mono ?_); rintro e w6 ⟨rfl, rfl⟩)))
  go_upto_region 12 with (first
    | (go_at_call 20; go_loud ((with_reducible refine (HNC.out w5 HN5.out).mono ?_); rintro e w6 ⟨g6, rfl, ho, hb⟩; have HB6 := Lib.hid (bt HB5.out hb); have HC6 := Lib.hid (HC5.out.on hb); have HN6 := Lib.hid (HN5.out.on hb); clear ho hb))
    | (go_at_call 19; go_loud ((with_reducible refine (bytes_nil _ _ _ _).mono ?_); rintro e w7 ⟨rfl, rfl⟩)))
  go_upto_region 13 with (first
    | (go_at_call 20; go_loud ((with_reducible refine (HNC.out w6 HN6.out).mono ?_); rintro e w7 ⟨g7, rfl, ho, hb⟩; have HB7 := Lib.hid (bt HB6.out hb); have HC7 := Lib.hid (HC6.out.on hb); have HN7 := Lib.hid (HN6.out.on hb); clear ho hb))
    | (go_at_call 22; go_loud ((with_reducible refine (sxor_nil _ (.bool true) 0 0 none _).mono ?_); rintro e w8 ⟨rfl, rfl⟩)))
  go_upto_region 15 with fail
  go_upto_region 16 with (first
    | (go_at_call 20; go_loud ((with_reducible refine (HNC.out w7 HN7.out).mono ?_); rintro e w8 ⟨g8, rfl, ho, hb⟩; have HG8 := Lib.hid (own_le32 (by omega) ho HNB.out); have HB8 := Lib.hid (bt HB7.out hb); have HC8 := Lib.hid (HC7.out.on hb); clear ho hb))
    | (go_at_call 19; go_loud ((with_reducible refine (HB300.out b (some ⟨g8, 0, none⟩) w8 HC8.out HG8.out).mono ?_); rintro e w9 ⟨g9, o9, rfl, hx, hb⟩; have HA9 := Lib.hid hx; have HB9 := Lib.hid (bt HB8.out hb); have HC9 := Lib.hid (HC8.out.on hb); have HN9 := Lib.hid (HN.out.on HB9.out); clear hx hb)))
  go_upto_region 17 with fail
  rw [hzF]
  clear hzF
  go_upto_region 18 with (first
    | (go_at_call 20; go_loud ((with_reducible refine (HNC.out w9 HN9.out).mono ?_); rintro e w10 ⟨g10, rfl, ho, hb⟩; have HG10 := Lib.hid (own_le32 (by omega) ho HNB.out); have HB10 := Lib.hid (bt HB9.out hb); have HC10 := Lib.hid (HC9.out.on hb); have HA10 := Lib.hid (HA9.out.on hb); clear ho hb))
    | (go_at_call 19; go_loud ((with_reducible refine (bytes_ok b K (some ⟨g10, 0, none⟩) 8 N F G w10 HC10.out HS.out HKB.out HG10.out (by have := HF.out; omega) (by have := HG.out; omega)).mono ?_); rintro e w11 ⟨g11, o11, rfl, hx, hb⟩; have HP11 := Lib.hid hx; have HB11 := Lib.hid (bt HB10.out hb); have HA11 := Lib.hid (HA10.out.on hb); clear hx hb)))
  have hT := arg8_tail HA11.out F HF.out
  rw [HDR.out] at hT
  have HT := Lib.hid hT
  have hcp : ∀ j, _ := fun j => (HP11.out.on (below_drewN (Below.refl _ _) j)).strK
  have hct : ∀ j, _ := fun j => (HT.out.on (below_drewN (Below.refl _ _) j)).strK
  have hee := str_eq (rfl : stL (strf K N) F G = stL (strf K N) F G)
  have qF : (F : Int) < 300 := by have := HF.out; omega
  clear hT
  go_wp2_with fail
  go_quiet (fail)
  go_wp2
  go_ret
  exact ⟨rfl, below_drewN HB11.out _⟩
set_option maxHeartbeats 4000000 in
theorem streamParts_neg_hi (a0 : Option Addr) (L0 c0 : Nat) (a1 : Option Addr) (c1 : Nat) (x y z : Int) (k nn : List Int) (w : World) (hk : Arg8 w a0 L0 c0 k) (hn : Arg8 w a1 8 c1 nn) (hL : 8 ≤ 100) (hy : 300 < y) (hx : x < 0) :
    Calls Try.prog 8 #[.slice a0 L0 c0, .slice a1 8 c1, .int .i64 x, .int .i64 y, .int .i64 z] w fun e w' => e = .returned (.bool true) ∧ Below w.heap.size w w' := by
  have HK := Lib.hid hk
  have HN := Lib.hid hn
  have HKB := Lib.hid (allB_padL hk.2.1 16)
  have HKL := Lib.hid (length_padL k 16)
  have HNB := Lib.hid (allB_padL hn.2.1 8)
  obtain ⟨K, hK⟩ : ∃ K, K = padL k 16 := ⟨_, rfl⟩
  obtain ⟨N, hN⟩ : ∃ N, N = padL nn 8 := ⟨_, rfl⟩
  rw [← hK] at HKB HKL
  rw [← hN] at HNB
  have HMD := Lib.hid (fun W (h : Arg8 W a0 L0 c0 k) => made_any a0 L0 c0 k W h)
  rw [← hK] at HMD
  have HNC := Lib.hid (fun W (h : Arg8 W a1 8 c1 nn) => nonce_any a1 8 c1 nn W h)
  rw [← hN] at HNC
  have HS : Hid (K.length = 16 ∨ K.length = 32) := Lib.hid (Or.inl HKL.out)
  obtain ⟨F, hF, hzF⟩ := mod_nat z 300 (by omega) (by omega)
  obtain ⟨G, hG⟩ : ∃ G, G = 300 - F := ⟨_, rfl⟩
  have HF := Lib.hid (show F < 300 by omega)
  have HG := Lib.hid hG
  have qG : (300 : Int) - (F : Int) = (G : Int) := by omega
  have HDR := Lib.hid (show (stL (strf K N) 0 300).drop F = stL (strf K N) F G by rw [stL_drop, Nat.zero_add, hG])
  have HB300 := Lib.hid (show ∀ (b : Nat) (a : Option Addr) (W : World), CipK W b K → Arg8 W a 8 8 N → Calls Try.prog 19 #[.pointer (some ⟨b, 0, none⟩), .slice a (8 : Nat) 8, .int .i64 0, .int .i64 300] W fun e w' => ∃ g o, e = .returned (.tuple #[.slice (some ⟨g, o, none⟩) 300 300, .int .i64 0]) ∧
      Arg8 w' (some ⟨g, o, none⟩) 300 300 (stL (strf K N) 0 300) ∧ Below W.heap.size W w' from fun b a W h hN => bytes_ok b K a 8 N 0 300 W h HS.out HKB.out hN (by omega) (by omega))
  have qx : x < 0 := hx
  have qy : 300 < y := hy
  clear hx hy
  clear hK hN hk hn hF hG hL
  go_enter Try.func8, Try.ntmps8
  go_upto_region 3 with (go_at_call 17; (with_reducible refine (lives6_any _).mono ?_); rintro e w1 ⟨rfl, hb⟩; have HB1 := Lib.hid hb; have HK1 := Lib.hid (HK.out.on hb); clear hb)
  go_upto_region 4 with (go_at_call 18; go_loud ((with_reducible refine (HMD.out w1 HK1.out).mono ?_); rintro e w2 ⟨b, gk, rfl, hc, hk, hb⟩; have HC2 := Lib.hid hc; have HB2 := Lib.hid (bt HB1.out hb); have HN2 := Lib.hid (HN.out.on HB2.out); clear hc hk hb))
  go_upto_region 5 with (go_at_call 19; go_loud ((with_reducible refine (bytes_range b K a1 c1 x 300 w2 HC2.out HS.out (Or.inl qx)).mono ?_); rintro e w3 ⟨rfl, rfl⟩))
  obtain ⟨w4, hw4⟩ : ∃ w4, w4 = w2 := ⟨_, rfl⟩
  have HC4 := HC2
  have HB4 := HB2
  have HN4 := HN2
  rw [← hw4] at HC4 HB4 HN4
  rw [← hw4]
  clear hw4
  go_upto_region 10 with fail
  go_upto_region 11 with (first
    | (go_at_call 20; go_loud ((with_reducible refine (HNC.out w4 HN4.out).mono ?_); rintro e w5 ⟨g5, rfl, ho, hb⟩; have HB5 := Lib.hid (bt HB4.out hb); have HC5 := Lib.hid (HC4.out.on hb); have HN5 := Lib.hid (HN4.out.on hb); clear ho hb))
    | (go_at_call 19; go_loud ((with_reducible refine (bytes_range b K (some ⟨g5, 0, none⟩) 8 0 1048577 w5 HC5.out HS.out (Or.inr (Or.inr (Or.inr (by decide))))).mono ?_); rintro e w6 ⟨rfl, rfl⟩)))
  go_upto_region 12 with (first
    | (go_at_call 20; go_loud ((with_reducible refine (HNC.out w5 HN5.out).mono ?_); rintro e w6 ⟨g6, rfl, ho, hb⟩; have HB6 := Lib.hid (bt HB5.out hb); have HC6 := Lib.hid (HC5.out.on hb); have HN6 := Lib.hid (HN5.out.on hb); clear ho hb))
    | (go_at_call 19; go_loud ((with_reducible refine (bytes_nil _ _ _ _).mono ?_); rintro e w7 ⟨rfl, rfl⟩)))
  go_upto_region 13 with (first
    | (go_at_call 20; go_loud ((with_reducible refine (HNC.out w6 HN6.out).mono ?_); rintro e w7 ⟨g7, rfl, ho, hb⟩; have HB7 := Lib.hid (bt HB6.out hb); have HC7 := Lib.hid (HC6.out.on hb); have HN7 := Lib.hid (HN6.out.on hb); clear ho hb))
    | (go_at_call 22; go_loud ((with_reducible refine (sxor_nil _ (.bool true) 0 0 none _).mono ?_); rintro e w8 ⟨rfl, rfl⟩)))
  go_upto_region 15 with fail
  go_upto_region 16 with (first
    | (go_at_call 20; go_loud ((with_reducible refine (HNC.out w7 HN7.out).mono ?_); rintro e w8 ⟨g8, rfl, ho, hb⟩; have HG8 := Lib.hid (own_le32 (by omega) ho HNB.out); have HB8 := Lib.hid (bt HB7.out hb); have HC8 := Lib.hid (HC7.out.on hb); clear ho hb))
    | (go_at_call 19; go_loud ((with_reducible refine (HB300.out b (some ⟨g8, 0, none⟩) w8 HC8.out HG8.out).mono ?_); rintro e w9 ⟨g9, o9, rfl, hx, hb⟩; have HA9 := Lib.hid hx; have HB9 := Lib.hid (bt HB8.out hb); have HC9 := Lib.hid (HC8.out.on hb); have HN9 := Lib.hid (HN.out.on HB9.out); clear hx hb)))
  go_upto_region 17 with fail
  rw [hzF]
  clear hzF
  go_upto_region 18 with (first
    | (go_at_call 20; go_loud ((with_reducible refine (HNC.out w9 HN9.out).mono ?_); rintro e w10 ⟨g10, rfl, ho, hb⟩; have HG10 := Lib.hid (own_le32 (by omega) ho HNB.out); have HB10 := Lib.hid (bt HB9.out hb); have HC10 := Lib.hid (HC9.out.on hb); have HA10 := Lib.hid (HA9.out.on hb); clear ho hb))
    | (go_at_call 19; go_loud ((with_reducible refine (bytes_ok b K (some ⟨g10, 0, none⟩) 8 N F G w10 HC10.out HS.out HKB.out HG10.out (by have := HF.out; omega) (by have := HG.out; omega)).mono ?_); rintro e w11 ⟨g11, o11, rfl, hx, hb⟩; have HP11 := Lib.hid hx; have HB11 := Lib.hid (bt HB10.out hb); have HA11 := Lib.hid (HA10.out.on hb); clear hx hb)))
  have hT := arg8_tail HA11.out F HF.out
  rw [HDR.out] at hT
  have HT := Lib.hid hT
  have hcp : ∀ j, _ := fun j => (HP11.out.on (below_drewN (Below.refl _ _) j)).strK
  have hct : ∀ j, _ := fun j => (HT.out.on (below_drewN (Below.refl _ _) j)).strK
  have hee := str_eq (rfl : stL (strf K N) F G = stL (strf K N) F G)
  have qF : (F : Int) < 300 := by have := HF.out; omega
  clear hT
  go_wp2_with fail
  go_quiet (fail)
  go_wp2
  go_ret
  exact ⟨rfl, below_drewN HB11.out _⟩
set_option maxHeartbeats 4000000 in
theorem streamParts_far_hi (a0 : Option Addr) (L0 c0 : Nat) (a1 : Option Addr) (c1 : Nat) (x y z : Int) (k nn : List Int) (w : World) (hk : Arg8 w a0 L0 c0 k) (hn : Arg8 w a1 8 c1 nn) (hL : 8 ≤ 100) (hy : 300 < y) (hx : 1073741824 < x) (hy0 : ¬ y < 0) :
    Calls Try.prog 8 #[.slice a0 L0 c0, .slice a1 8 c1, .int .i64 x, .int .i64 y, .int .i64 z] w fun e w' => e = .returned (.bool true) ∧ Below w.heap.size w w' := by
  have HK := Lib.hid hk
  have HN := Lib.hid hn
  have HKB := Lib.hid (allB_padL hk.2.1 16)
  have HKL := Lib.hid (length_padL k 16)
  have HNB := Lib.hid (allB_padL hn.2.1 8)
  obtain ⟨K, hK⟩ : ∃ K, K = padL k 16 := ⟨_, rfl⟩
  obtain ⟨N, hN⟩ : ∃ N, N = padL nn 8 := ⟨_, rfl⟩
  rw [← hK] at HKB HKL
  rw [← hN] at HNB
  have HMD := Lib.hid (fun W (h : Arg8 W a0 L0 c0 k) => made_any a0 L0 c0 k W h)
  rw [← hK] at HMD
  have HNC := Lib.hid (fun W (h : Arg8 W a1 8 c1 nn) => nonce_any a1 8 c1 nn W h)
  rw [← hN] at HNC
  have HS : Hid (K.length = 16 ∨ K.length = 32) := Lib.hid (Or.inl HKL.out)
  obtain ⟨F, hF, hzF⟩ := mod_nat z 300 (by omega) (by omega)
  obtain ⟨G, hG⟩ : ∃ G, G = 300 - F := ⟨_, rfl⟩
  have HF := Lib.hid (show F < 300 by omega)
  have HG := Lib.hid hG
  have qG : (300 : Int) - (F : Int) = (G : Int) := by omega
  have HDR := Lib.hid (show (stL (strf K N) 0 300).drop F = stL (strf K N) F G by rw [stL_drop, Nat.zero_add, hG])
  have HB300 := Lib.hid (show ∀ (b : Nat) (a : Option Addr) (W : World), CipK W b K → Arg8 W a 8 8 N → Calls Try.prog 19 #[.pointer (some ⟨b, 0, none⟩), .slice a (8 : Nat) 8, .int .i64 0, .int .i64 300] W fun e w' => ∃ g o, e = .returned (.tuple #[.slice (some ⟨g, o, none⟩) 300 300, .int .i64 0]) ∧
      Arg8 w' (some ⟨g, o, none⟩) 300 300 (stL (strf K N) 0 300) ∧ Below W.heap.size W w' from fun b a W h hN => bytes_ok b K a 8 N 0 300 W h HS.out HKB.out hN (by omega) (by omega))
  have qx : 1073741824 < x := hx
  have qx0 : ¬ x < 0 := by omega
  have qy0 : ¬ y < 0 := hy0
  have qy : 300 < y := hy
  clear hx hy hy0
  clear hK hN hk hn hF hG hL
  go_enter Try.func8, Try.ntmps8
  go_upto_region 3 with (go_at_call 17; (with_reducible refine (lives6_any _).mono ?_); rintro e w1 ⟨rfl, hb⟩; have HB1 := Lib.hid hb; have HK1 := Lib.hid (HK.out.on hb); clear hb)
  go_upto_region 4 with (go_at_call 18; go_loud ((with_reducible refine (HMD.out w1 HK1.out).mono ?_); rintro e w2 ⟨b, gk, rfl, hc, hk, hb⟩; have HC2 := Lib.hid hc; have HB2 := Lib.hid (bt HB1.out hb); have HN2 := Lib.hid (HN.out.on HB2.out); clear hc hk hb))
  go_upto_region 5 with (go_at_call 19; go_loud ((with_reducible refine (bytes_range b K a1 c1 x 300 w2 HC2.out HS.out (Or.inr (Or.inl qx))).mono ?_); rintro e w3 ⟨rfl, rfl⟩))
  obtain ⟨w4, hw4⟩ : ∃ w4, w4 = w2 := ⟨_, rfl⟩
  have HC4 := HC2
  have HB4 := HB2
  have HN4 := HN2
  rw [← hw4] at HC4 HB4 HN4
  rw [← hw4]
  clear hw4
  go_upto_region 10 with fail
  go_upto_region 11 with (first
    | (go_at_call 20; go_loud ((with_reducible refine (HNC.out w4 HN4.out).mono ?_); rintro e w5 ⟨g5, rfl, ho, hb⟩; have HB5 := Lib.hid (bt HB4.out hb); have HC5 := Lib.hid (HC4.out.on hb); have HN5 := Lib.hid (HN4.out.on hb); clear ho hb))
    | (go_at_call 19; go_loud ((with_reducible refine (bytes_range b K (some ⟨g5, 0, none⟩) 8 0 1048577 w5 HC5.out HS.out (Or.inr (Or.inr (Or.inr (by decide))))).mono ?_); rintro e w6 ⟨rfl, rfl⟩)))
  go_upto_region 12 with (first
    | (go_at_call 20; go_loud ((with_reducible refine (HNC.out w5 HN5.out).mono ?_); rintro e w6 ⟨g6, rfl, ho, hb⟩; have HB6 := Lib.hid (bt HB5.out hb); have HC6 := Lib.hid (HC5.out.on hb); have HN6 := Lib.hid (HN5.out.on hb); clear ho hb))
    | (go_at_call 19; go_loud ((with_reducible refine (bytes_nil _ _ _ _).mono ?_); rintro e w7 ⟨rfl, rfl⟩)))
  go_upto_region 13 with (first
    | (go_at_call 20; go_loud ((with_reducible refine (HNC.out w6 HN6.out).mono ?_); rintro e w7 ⟨g7, rfl, ho, hb⟩; have HB7 := Lib.hid (bt HB6.out hb); have HC7 := Lib.hid (HC6.out.on hb); have HN7 := Lib.hid (HN6.out.on hb); clear ho hb))
    | (go_at_call 22; go_loud ((with_reducible refine (sxor_nil _ (.bool true) 0 0 none _).mono ?_); rintro e w8 ⟨rfl, rfl⟩)))
  go_upto_region 15 with fail
  go_upto_region 16 with (first
    | (go_at_call 20; go_loud ((with_reducible refine (HNC.out w7 HN7.out).mono ?_); rintro e w8 ⟨g8, rfl, ho, hb⟩; have HG8 := Lib.hid (own_le32 (by omega) ho HNB.out); have HB8 := Lib.hid (bt HB7.out hb); have HC8 := Lib.hid (HC7.out.on hb); clear ho hb))
    | (go_at_call 19; go_loud ((with_reducible refine (HB300.out b (some ⟨g8, 0, none⟩) w8 HC8.out HG8.out).mono ?_); rintro e w9 ⟨g9, o9, rfl, hx, hb⟩; have HA9 := Lib.hid hx; have HB9 := Lib.hid (bt HB8.out hb); have HC9 := Lib.hid (HC8.out.on hb); have HN9 := Lib.hid (HN.out.on HB9.out); clear hx hb)))
  go_upto_region 17 with fail
  rw [hzF]
  clear hzF
  go_upto_region 18 with (first
    | (go_at_call 20; go_loud ((with_reducible refine (HNC.out w9 HN9.out).mono ?_); rintro e w10 ⟨g10, rfl, ho, hb⟩; have HG10 := Lib.hid (own_le32 (by omega) ho HNB.out); have HB10 := Lib.hid (bt HB9.out hb); have HC10 := Lib.hid (HC9.out.on hb); have HA10 := Lib.hid (HA9.out.on hb); clear ho hb))
    | (go_at_call 19; go_loud ((with_reducible refine (bytes_ok b K (some ⟨g10, 0, none⟩) 8 N F G w10 HC10.out HS.out HKB.out HG10.out (by have := HF.out; omega) (by have := HG.out; omega)).mono ?_); rintro e w11 ⟨g11, o11, rfl, hx, hb⟩; have HP11 := Lib.hid hx; have HB11 := Lib.hid (bt HB10.out hb); have HA11 := Lib.hid (HA10.out.on hb); clear hx hb)))
  have hT := arg8_tail HA11.out F HF.out
  rw [HDR.out] at hT
  have HT := Lib.hid hT
  have hcp : ∀ j, _ := fun j => (HP11.out.on (below_drewN (Below.refl _ _) j)).strK
  have hct : ∀ j, _ := fun j => (HT.out.on (below_drewN (Below.refl _ _) j)).strK
  have hee := str_eq (rfl : stL (strf K N) F G = stL (strf K N) F G)
  have qF : (F : Int) < 300 := by have := HF.out; omega
  clear hT
  go_wp2_with fail
  go_quiet (fail)
  go_wp2
  go_ret
  exact ⟨rfl, below_drewN HB11.out _⟩
set_option maxHeartbeats 4000000 in
theorem streamParts_ok_lo (a0 : Option Addr) (L0 c0 : Nat) (a1 : Option Addr) (c1 : Nat) (x y z : Int) (k nn : List Int) (w : World) (hk : Arg8 w a0 L0 c0 k) (hn : Arg8 w a1 8 c1 nn) (hL : 8 ≤ 100) (Y : Nat) (hyY : y = (Y : Int)) (hy : Y ≤ 300) (X : Nat) (hxX : x = (X : Int)) (hx : X ≤ 1073741824) :
    Calls Try.prog 8 #[.slice a0 L0 c0, .slice a1 8 c1, .int .i64 x, .int .i64 y, .int .i64 z] w fun e w' => e = .returned (.bool true) ∧ Below w.heap.size w w' := by
  have HK := Lib.hid hk
  have HN := Lib.hid hn
  have HKB := Lib.hid (allB_padL hk.2.1 16)
  have HKL := Lib.hid (length_padL k 16)
  have HNB := Lib.hid (allB_padL hn.2.1 8)
  obtain ⟨K, hK⟩ : ∃ K, K = padL k 16 := ⟨_, rfl⟩
  obtain ⟨N, hN⟩ : ∃ N, N = padL nn 8 := ⟨_, rfl⟩
  rw [← hK] at HKB HKL
  rw [← hN] at HNB
  have HMD := Lib.hid (fun W (h : Arg8 W a0 L0 c0 k) => made_any a0 L0 c0 k W h)
  rw [← hK] at HMD
  have HNC := Lib.hid (fun W (h : Arg8 W a1 8 c1 nn) => nonce_any a1 8 c1 nn W h)
  rw [← hN] at HNC
  have HS : Hid (K.length = 16 ∨ K.length = 32) := Lib.hid (Or.inl HKL.out)
  obtain ⟨F, hF, hzF⟩ := mod_nat z 300 (by omega) (by omega)
  obtain ⟨G, hG⟩ : ∃ G, G = 300 - F := ⟨_, rfl⟩
  have HF := Lib.hid (show F < 300 by omega)
  have HG := Lib.hid hG
  have qG : (300 : Int) - (F : Int) = (G : Int) := by omega
  have HDR := Lib.hid (show (stL (strf K N) 0 300).drop F = stL (strf K N) F G by rw [stL_drop, Nat.zero_add, hG])
  have HB300 := Lib.hid (show ∀ (b : Nat) (a : Option Addr) (W : World), CipK W b K → Arg8 W a 8 8 N → Calls Try.prog 19 #[.pointer (some ⟨b, 0, none⟩), .slice a (8 : Nat) 8, .int .i64 0, .int .i64 300] W fun e w' => ∃ g o, e = .returned (.tuple #[.slice (some ⟨g, o, none⟩) 300 300, .int .i64 0]) ∧
      Arg8 w' (some ⟨g, o, none⟩) 300 300 (stL (strf K N) 0 300) ∧ Below W.heap.size W w' from fun b a W h hN => bytes_ok b K a 8 N 0 300 W h HS.out HKB.out hN (by omega) (by omega))
  subst hxX
  subst hyY
  have qy : ¬ 300 < (Y : Int) := by omega
  have qy0 : ¬ (Y : Int) < 0 := by omega
  have qx : ¬ (X : Int) < 0 := by omega
  have qx1 : ¬ (1073741824 : Int) < (X : Int) := by omega
  have HQ := Lib.hid (show ∀ (b : Nat) (W : World), CipK W b K → Arg8 W a1 8 c1 nn → Calls Try.prog 19 #[.pointer (some ⟨b, 0, none⟩), .slice a1 (8 : Nat) c1, .int .i64 (X : Nat), .int .i64 (Y : Int)] W fun e w' => ∃ g o, e = .returned (.tuple #[.slice (some ⟨g, o, none⟩) Y Y, .int .i64 0]) ∧
      Arg8 w' (some ⟨g, o, none⟩) Y Y (stL (strf K nn) X Y) ∧ Below W.heap.size W w' from fun b W h hN => bytes_ok b K a1 c1 nn X Y W h HS.out HKB.out hN (by omega) (by omega))
  clear hx hy
  clear hK hN hk hn hF hG hL
  go_enter Try.func8, Try.ntmps8
  go_upto_region 3 with (go_at_call 17; (with_reducible refine (lives6_any _).mono ?_); rintro e w1 ⟨rfl, hb⟩; have HB1 := Lib.hid hb; have HK1 := Lib.hid (HK.out.on hb); clear hb)
  go_upto_region 4 with (go_at_call 18; go_loud ((with_reducible refine (HMD.out w1 HK1.out).mono ?_); rintro e w2 ⟨b, gk, rfl, hc, hk, hb⟩; have HC2 := Lib.hid hc; have HB2 := Lib.hid (bt HB1.out hb); have HN2 := Lib.hid (HN.out.on HB2.out); clear hc hk hb))
  go_upto_region 5 with (go_at_call 19; go_loud ((with_reducible refine (HQ.out b w2 HC2.out HN2.out).mono ?_); rintro e w4 ⟨g4, o4, rfl, hx, hb⟩; have HB4 := Lib.hid (bt HB2.out hb); have HC4 := Lib.hid (HC2.out.on hb); have HN4 := Lib.hid (HN2.out.on hb); clear hx hb))
  go_upto_region 10 with fail
  go_upto_region 11 with (first
    | (go_at_call 20; go_loud ((with_reducible refine (HNC.out w4 HN4.out).mono ?_); rintro e w5 ⟨g5, rfl, ho, hb⟩; have HB5 := Lib.hid (bt HB4.out hb); have HC5 := Lib.hid (HC4.out.on hb); have HN5 := Lib.hid (HN4.out.on hb); clear ho hb))
    | (go_at_call 19; go_loud ((with_reducible refine (bytes_range b K (some ⟨g5, 0, none⟩) 8 0 1048577 w5 HC5.out HS.out (Or.inr (Or.inr (Or.inr (by decide))))).mono ?_); rintro e w6 ⟨rfl, rfl⟩)))
  go_upto_region 12 with (first
    | (go_at_call 20; go_loud ((with_reducible refine (HNC.out w5 HN5.out).mono ?_); rintro e w6 ⟨g6, rfl, ho, hb⟩; have HB6 := Lib.hid (bt HB5.out hb); have HC6 := Lib.hid (HC5.out.on hb); have HN6 := Lib.hid (HN5.out.on hb); clear ho hb))
    | (go_at_call 19; go_loud ((with_reducible refine (bytes_nil _ _ _ _).mono ?_); rintro e w7 ⟨rfl, rfl⟩)))
  go_upto_region 13 with (first
    | (go_at_call 20; go_loud ((with_reducible refine (HNC.out w6 HN6.out).mono ?_); rintro e w7 ⟨g7, rfl, ho, hb⟩; have HB7 := Lib.hid (bt HB6.out hb); have HC7 := Lib.hid (HC6.out.on hb); have HN7 := Lib.hid (HN6.out.on hb); clear ho hb))
    | (go_at_call 22; go_loud ((with_reducible refine (sxor_nil _ (.bool true) 0 0 none _).mono ?_); rintro e w8 ⟨rfl, rfl⟩)))
  go_upto_region 15 with fail
  go_upto_region 16 with (first
    | (go_at_call 20; go_loud ((with_reducible refine (HNC.out w7 HN7.out).mono ?_); rintro e w8 ⟨g8, rfl, ho, hb⟩; have HG8 := Lib.hid (own_le32 (by omega) ho HNB.out); have HB8 := Lib.hid (bt HB7.out hb); have HC8 := Lib.hid (HC7.out.on hb); clear ho hb))
    | (go_at_call 19; go_loud ((with_reducible refine (HB300.out b (some ⟨g8, 0, none⟩) w8 HC8.out HG8.out).mono ?_); rintro e w9 ⟨g9, o9, rfl, hx, hb⟩; have HA9 := Lib.hid hx; have HB9 := Lib.hid (bt HB8.out hb); have HC9 := Lib.hid (HC8.out.on hb); have HN9 := Lib.hid (HN.out.on HB9.out); clear hx hb)))
  go_upto_region 17 with fail
  rw [hzF]
  clear hzF
  go_upto_region 18 with (first
    | (go_at_call 20; go_loud ((with_reducible refine (HNC.out w9 HN9.out).mono ?_); rintro e w10 ⟨g10, rfl, ho, hb⟩; have HG10 := Lib.hid (own_le32 (by omega) ho HNB.out); have HB10 := Lib.hid (bt HB9.out hb); have HC10 := Lib.hid (HC9.out.on hb); have HA10 := Lib.hid (HA9.out.on hb); clear ho hb))
    | (go_at_call 19; go_loud ((with_reducible refine (bytes_ok b K (some ⟨g10, 0, none⟩) 8 N F G w10 HC10.out HS.out HKB.out HG10.out (by have := HF.out; omega) (by have := HG.out; omega)).mono ?_); rintro e w11 ⟨g11, o11, rfl, hx, hb⟩; have HP11 := Lib.hid hx; have HB11 := Lib.hid (bt HB10.out hb); have HA11 := Lib.hid (HA10.out.on hb); clear hx hb)))
  have hT := arg8_tail HA11.out F HF.out
  rw [HDR.out] at hT
  have HT := Lib.hid hT
  have hcp : ∀ j, _ := fun j => (HP11.out.on (below_drewN (Below.refl _ _) j)).strK
  have hct : ∀ j, _ := fun j => (HT.out.on (below_drewN (Below.refl _ _) j)).strK
  have hee := str_eq (rfl : stL (strf K N) F G = stL (strf K N) F G)
  have qF : (F : Int) < 300 := by have := HF.out; omega
  clear hT
  go_wp2_with fail
  go_quiet (fail)
  go_wp2
  go_ret
  exact ⟨rfl, below_drewN HB11.out _⟩
set_option maxHeartbeats 4000000 in
theorem streamParts_ok_hi (a0 : Option Addr) (L0 c0 : Nat) (a1 : Option Addr) (c1 : Nat) (x y z : Int) (k nn : List Int) (w : World) (hk : Arg8 w a0 L0 c0 k) (hn : Arg8 w a1 8 c1 nn) (hL : 8 ≤ 100) (hy : 300 < y) (X : Nat) (hxX : x = (X : Int)) (hx : X ≤ 1073741824) :
    Calls Try.prog 8 #[.slice a0 L0 c0, .slice a1 8 c1, .int .i64 x, .int .i64 y, .int .i64 z] w fun e w' => e = .returned (.bool true) ∧ Below w.heap.size w w' := by
  have HK := Lib.hid hk
  have HN := Lib.hid hn
  have HKB := Lib.hid (allB_padL hk.2.1 16)
  have HKL := Lib.hid (length_padL k 16)
  have HNB := Lib.hid (allB_padL hn.2.1 8)
  obtain ⟨K, hK⟩ : ∃ K, K = padL k 16 := ⟨_, rfl⟩
  obtain ⟨N, hN⟩ : ∃ N, N = padL nn 8 := ⟨_, rfl⟩
  rw [← hK] at HKB HKL
  rw [← hN] at HNB
  have HMD := Lib.hid (fun W (h : Arg8 W a0 L0 c0 k) => made_any a0 L0 c0 k W h)
  rw [← hK] at HMD
  have HNC := Lib.hid (fun W (h : Arg8 W a1 8 c1 nn) => nonce_any a1 8 c1 nn W h)
  rw [← hN] at HNC
  have HS : Hid (K.length = 16 ∨ K.length = 32) := Lib.hid (Or.inl HKL.out)
  obtain ⟨F, hF, hzF⟩ := mod_nat z 300 (by omega) (by omega)
  obtain ⟨G, hG⟩ : ∃ G, G = 300 - F := ⟨_, rfl⟩
  have HF := Lib.hid (show F < 300 by omega)
  have HG := Lib.hid hG
  have qG : (300 : Int) - (F : Int) = (G : Int) := by omega
  have HDR := Lib.hid (show (stL (strf K N) 0 300).drop F = stL (strf K N) F G by rw [stL_drop, Nat.zero_add, hG])
  have HB300 := Lib.hid (show ∀ (b : Nat) (a : Option Addr) (W : World), CipK W b K → Arg8 W a 8 8 N → Calls Try.prog 19 #[.pointer (some ⟨b, 0, none⟩), .slice a (8 : Nat) 8, .int .i64 0, .int .i64 300] W fun e w' => ∃ g o, e = .returned (.tuple #[.slice (some ⟨g, o, none⟩) 300 300, .int .i64 0]) ∧
      Arg8 w' (some ⟨g, o, none⟩) 300 300 (stL (strf K N) 0 300) ∧ Below W.heap.size W w' from fun b a W h hN => bytes_ok b K a 8 N 0 300 W h HS.out HKB.out hN (by omega) (by omega))
  subst hxX
  have qy : 300 < y := hy
  have qy0 : ¬ y < 0 := by omega
  have qx : ¬ (X : Int) < 0 := by omega
  have qx1 : ¬ (1073741824 : Int) < (X : Int) := by omega
  have HQ := Lib.hid (show ∀ (b : Nat) (W : World), CipK W b K → Arg8 W a1 8 c1 nn → Calls Try.prog 19 #[.pointer (some ⟨b, 0, none⟩), .slice a1 (8 : Nat) c1, .int .i64 (X : Nat), .int .i64 300] W fun e w' => ∃ g o, e = .returned (.tuple #[.slice (some ⟨g, o, none⟩) 300 300, .int .i64 0]) ∧
      Arg8 w' (some ⟨g, o, none⟩) 300 300 (stL (strf K nn) X 300) ∧ Below W.heap.size W w' from fun b W h hN => bytes_ok b K a1 c1 nn X 300 W h HS.out HKB.out hN (by omega) (by omega))
  clear hx hy
  clear hK hN hk hn hF hG hL
  go_enter Try.func8, Try.ntmps8
  go_upto_region 3 with (go_at_call 17; (with_reducible refine (lives6_any _).mono ?_); rintro e w1 ⟨rfl, hb⟩; have HB1 := Lib.hid hb; have HK1 := Lib.hid (HK.out.on hb); clear hb)
  go_upto_region 4 with (go_at_call 18; go_loud ((with_reducible refine (HMD.out w1 HK1.out).mono ?_); rintro e w2 ⟨b, gk, rfl, hc, hk, hb⟩; have HC2 := Lib.hid hc; have HB2 := Lib.hid (bt HB1.out hb); have HN2 := Lib.hid (HN.out.on HB2.out); clear hc hk hb))
  go_upto_region 5 with (go_at_call 19; go_loud ((with_reducible refine (HQ.out b w2 HC2.out HN2.out).mono ?_); rintro e w4 ⟨g4, o4, rfl, hx, hb⟩; have HB4 := Lib.hid (bt HB2.out hb); have HC4 := Lib.hid (HC2.out.on hb); have HN4 := Lib.hid (HN2.out.on hb); clear hx hb))
  go_upto_region 10 with fail
  go_upto_region 11 with (first
    | (go_at_call 20; go_loud ((with_reducible refine (HNC.out w4 HN4.out).mono ?_); rintro e w5 ⟨g5, rfl, ho, hb⟩; have HB5 := Lib.hid (bt HB4.out hb); have HC5 := Lib.hid (HC4.out.on hb); have HN5 := Lib.hid (HN4.out.on hb); clear ho hb))
    | (go_at_call 19; go_loud ((with_reducible refine (bytes_range b K (some ⟨g5, 0, none⟩) 8 0 1048577 w5 HC5.out HS.out (Or.inr (Or.inr (Or.inr (by decide))))).mono ?_); rintro e w6 ⟨rfl, rfl⟩)))
  go_upto_region 12 with (first
    | (go_at_call 20; go_loud ((with_reducible refine (HNC.out w5 HN5.out).mono ?_); rintro e w6 ⟨g6, rfl, ho, hb⟩; have HB6 := Lib.hid (bt HB5.out hb); have HC6 := Lib.hid (HC5.out.on hb); have HN6 := Lib.hid (HN5.out.on hb); clear ho hb))
    | (go_at_call 19; go_loud ((with_reducible refine (bytes_nil _ _ _ _).mono ?_); rintro e w7 ⟨rfl, rfl⟩)))
  go_upto_region 13 with (first
    | (go_at_call 20; go_loud ((with_reducible refine (HNC.out w6 HN6.out).mono ?_); rintro e w7 ⟨g7, rfl, ho, hb⟩; have HB7 := Lib.hid (bt HB6.out hb); have HC7 := Lib.hid (HC6.out.on hb); have HN7 := Lib.hid (HN6.out.on hb); clear ho hb))
    | (go_at_call 22; go_loud ((with_reducible refine (sxor_nil _ (.bool true) 0 0 none _).mono ?_); rintro e w8 ⟨rfl, rfl⟩)))
  go_upto_region 15 with fail
  go_upto_region 16 with (first
    | (go_at_call 20; go_loud ((with_reducible refine (HNC.out w7 HN7.out).mono ?_); rintro e w8 ⟨g8, rfl, ho, hb⟩; have HG8 := Lib.hid (own_le32 (by omega) ho HNB.out); have HB8 := Lib.hid (bt HB7.out hb); have HC8 := Lib.hid (HC7.out.on hb); clear ho hb))
    | (go_at_call 19; go_loud ((with_reducible refine (HB300.out b (some ⟨g8, 0, none⟩) w8 HC8.out HG8.out).mono ?_); rintro e w9 ⟨g9, o9, rfl, hx, hb⟩; have HA9 := Lib.hid hx; have HB9 := Lib.hid (bt HB8.out hb); have HC9 := Lib.hid (HC8.out.on hb); have HN9 := Lib.hid (HN.out.on HB9.out); clear hx hb)))
  go_upto_region 17 with fail
  rw [hzF]
  clear hzF
  go_upto_region 18 with (first
    | (go_at_call 20; go_loud ((with_reducible refine (HNC.out w9 HN9.out).mono ?_); rintro e w10 ⟨g10, rfl, ho, hb⟩; have HG10 := Lib.hid (own_le32 (by omega) ho HNB.out); have HB10 := Lib.hid (bt HB9.out hb); have HC10 := Lib.hid (HC9.out.on hb); have HA10 := Lib.hid (HA9.out.on hb); clear ho hb))
    | (go_at_call 19; go_loud ((with_reducible refine (bytes_ok b K (some ⟨g10, 0, none⟩) 8 N F G w10 HC10.out HS.out HKB.out HG10.out (by have := HF.out; omega) (by have := HG.out; omega)).mono ?_); rintro e w11 ⟨g11, o11, rfl, hx, hb⟩; have HP11 := Lib.hid hx; have HB11 := Lib.hid (bt HB10.out hb); have HA11 := Lib.hid (HA10.out.on hb); clear hx hb)))
  have hT := arg8_tail HA11.out F HF.out
  rw [HDR.out] at hT
  have HT := Lib.hid hT
  have hcp : ∀ j, _ := fun j => (HP11.out.on (below_drewN (Below.refl _ _) j)).strK
  have hct : ∀ j, _ := fun j => (HT.out.on (below_drewN (Below.refl _ _) j)).strK
  have hee := str_eq (rfl : stL (strf K N) F G = stL (strf K N) F G)
  have qF : (F : Int) < 300 := by have := HF.out; omega
  clear hT
  go_wp2_with fail
  go_quiet (fail)
  go_wp2
  go_ret
  exact ⟨rfl, below_drewN HB11.out _⟩
theorem streamParts_walk (a0 : Option Addr) (L0 c0 : Nat) (a1 : Option Addr) (L1 c1 : Nat) (x y z : Int) (w : World) (w0 : ∃ l, Arg8c w a0 L0 c0 l) (w1 : ∃ l, Arg8c w a1 L1 c1 l) (w2 : (Lit.int .i64 x).wf = true) (w3 : (Lit.int .i64 y).wf = true) (w4 : (Lit.int .i64 z).wf = true) :
    Calls Try.prog 8 #[.slice a0 L0 c0, .slice a1 L1 c1, .int .i64 x, .int .i64 y, .int .i64 z] w fun e w' => e = .returned (.bool true) ∧ Below w.heap.size w w' := by
  obtain ⟨k, hk, _⟩ := w0
  obtain ⟨nn, hn, _⟩ := w1
  by_cases h1 : 100 < L1
  · exact streamParts_long a0 L0 c0 a1 L1 c1 x y z w h1
  · by_cases h8 : L1 = 8
    · subst h8
      by_cases hx0 : x < 0
      · by_cases hy : ¬ 300 < y
        · exact streamParts_neg_lo a0 L0 c0 a1 c1 x y z k nn w hk hn (by omega) hy hx0
        · exact streamParts_neg_hi a0 L0 c0 a1 c1 x y z k nn w hk hn (by omega) (by omega) hx0
      · by_cases hy0 : y < 0
        · exact streamParts_size a0 L0 c0 a1 c1 x y z k nn w hk hn (by omega) hy0 hx0
        · by_cases hx1 : 1073741824 < x
          · by_cases hy : ¬ 300 < y
            · exact streamParts_far_lo a0 L0 c0 a1 c1 x y z k nn w hk hn (by omega) hy hx1 hy0
            · exact streamParts_far_hi a0 L0 c0 a1 c1 x y z k nn w hk hn (by omega) (by omega) hx1 hy0
          · by_cases hy : ¬ 300 < y
            · exact streamParts_ok_lo a0 L0 c0 a1 c1 x y z k nn w hk hn (by omega) y.toNat (by omega) (by omega) x.toNat (by omega) (by omega)
            · exact streamParts_ok_hi a0 L0 c0 a1 c1 x y z k nn w hk hn (by omega) (by omega) x.toNat (by omega) (by omega)
    · by_cases hy : ¬ 300 < y
      · exact streamParts_form_lo a0 L0 c0 a1 L1 c1 x y z k nn w hk hn (by omega) hy h8
      · exact streamParts_form_hi a0 L0 c0 a1 L1 c1 x y z k nn w hk hn (by omega) (by omega) h8
end Go.Proofs.Ytpfhfnhbholboaa
