/- Contracts of stream.Bytes and stream.Xor. -/
import Derived.Test.YtpfhfnhbholboaaNd
namespace Go.Proofs.Ytpfhfnhbholboaa
open Go.ChangeShapes Go.WideShapes Go.ChangeAt Go.RowKit
set_option linter.unusedVariables false
set_option maxRecDepth 100000

theorem bytes_nil (v x y : Value) (w : World) : Calls Try.prog 19 #[.pointer none, v, x, y] w fun e w' => e = .returned (.tuple #[.slice none 0 0, .int .i64 1]) ∧ w = w' := by
  go_enter Try.func19, Try.ntmps19
  go_wp2_with (go_at_call 16; (with_reducible refine (rounds_nil _).mono ?_); rintro e w1 ⟨rfl, rfl⟩)
  go_ret2
  exact ⟨rfl, rfl⟩
theorem cip_of_k {w : World} {b : Nat} {K : List Int} (h : CipK w b K) (hk : K.length = 16 ∨ K.length = 32) : ∃ n : Nat, (n : Int) ≠ 0 ∧ Cip w b n (keyW K) := ⟨K.length / 4 + 6, by omega, h⟩
theorem bytes_form (b : Nat) (K : List Int) (a : Option Addr) (L cap : Nat) (x y : Int) (w : World) (h : CipK w b K) (hk : K.length = 16 ∨ K.length = 32) (hL : L ≠ 8) :
    Calls Try.prog 19 #[.pointer (some ⟨b, 0, none⟩), .slice a L cap, .int .i64 x, .int .i64 y] w fun e w' => e = .returned (.tuple #[.slice none 0 0, .int .i64 3]) ∧ w = w' := by
  obtain ⟨n, hn, hc⟩ := cip_of_k h hk
  have HC := Lib.hid hc
  have q1 : ((n : Int) == 0) = false := by simpa using hn
  have q2 : ((L : Int) != 8) = true := by simp; omega
  clear h hk hL hn hc
  go_enter Try.func19, Try.ntmps19
  go_wp2_with (go_at_call 16; (with_reducible refine (rounds_cip b n (keyW K) _ HC.out).mono ?_); rintro e w1 ⟨rfl, rfl⟩)
  go_ret2
  exact ⟨rfl, rfl⟩
/-- What can't be asked for. -/
def farB (x y : Int) : Bool := decide (x < 0) || decide (1073741824 < x) || decide (y < 0) || decide (1048576 < y)
theorem bytes_range (b : Nat) (K : List Int) (a : Option Addr) (cap : Nat) (x y : Int) (w : World) (h : CipK w b K) (hk : K.length = 16 ∨ K.length = 32) (hx : x < 0 ∨ 1073741824 < x ∨ y < 0 ∨ 1048576 < y) :
    Calls Try.prog 19 #[.pointer (some ⟨b, 0, none⟩), .slice a (8 : Nat) cap, .int .i64 x, .int .i64 y] w fun e w' => e = .returned (.tuple #[.slice none 0 0, .int .i64 2]) ∧ w = w' := by
  obtain ⟨n, hn, hc⟩ := cip_of_k h hk
  have HC := Lib.hid hc
  have q1 : ((n : Int) == 0) = false := by simpa using hn
  clear h hk hn hc
  by_cases h1 : x < 0
  · clear hx
    go_enter Try.func19, Try.ntmps19
    go_wp2_with (go_at_call 16; (with_reducible refine (rounds_cip b n (keyW K) _ HC.out).mono ?_); rintro e w1 ⟨rfl, rfl⟩)
    go_ret2
    exact ⟨rfl, rfl⟩
  · by_cases h2 : 1073741824 < x
    · clear hx
      go_enter Try.func19, Try.ntmps19
      go_wp2_with (go_at_call 16; (with_reducible refine (rounds_cip b n (keyW K) _ HC.out).mono ?_); rintro e w1 ⟨rfl, rfl⟩)
      go_ret2
      exact ⟨rfl, rfl⟩
    · by_cases h3 : y < 0
      · clear hx
        go_enter Try.func19, Try.ntmps19
        go_wp2_with (go_at_call 16; (with_reducible refine (rounds_cip b n (keyW K) _ HC.out).mono ?_); rintro e w1 ⟨rfl, rfl⟩)
        go_ret2
        exact ⟨rfl, rfl⟩
      · have h4 : 1048576 < y := by omega
        clear hx
        go_enter Try.func19, Try.ntmps19
        go_wp2_with (go_at_call 16; (with_reducible refine (rounds_cip b n (keyW K) _ HC.out).mono ?_); rintro e w1 ⟨rfl, rfl⟩)
        go_ret2
        exact ⟨rfl, rfl⟩
set_option maxHeartbeats 1000000 in
theorem bytes_ok (b : Nat) (K : List Int) (a : Option Addr) (cap : Nat) (N : List Int) (at_ n : Nat) (w : World) (h : CipK w b K) (hk : K.length = 16 ∨ K.length = 32) (hK : AllB K) (hN : Arg8 w a 8 cap N)
    (ha : at_ ≤ 1073741824) (hn : n ≤ 1048576) :
    Calls Try.prog 19 #[.pointer (some ⟨b, 0, none⟩), .slice a (8 : Nat) cap, .int .i64 (at_ : Nat), .int .i64 (n : Nat)] w fun e w' => ∃ g o, e = .returned (.tuple #[.slice (some ⟨g, o, none⟩) n n, .int .i64 0]) ∧
      Arg8 w' (some ⟨g, o, none⟩) n n (stL (strf K N) at_ n) ∧ Below w.heap.size w w' := by
  obtain ⟨rn, hrn, hcp⟩ := cip_of_k h hk
  have HC := Lib.hid hcp
  have q1 : ((rn : Int) == 0) = false := by simpa using hrn
  obtain ⟨c, hc⟩ : ∃ c, c = at_ / 16 := ⟨_, rfl⟩
  obtain ⟨f, hf⟩ : ∃ f, f = at_ % 16 := ⟨_, rfl⟩
  obtain ⟨M, hM⟩ : ∃ M, M = (f + n + 15) / 16 := ⟨_, rfl⟩
  have q2 : (at_ : Int) / 16 = (c : Int) := by omega
  have q3 : (at_ : Int) % 16 = (f : Int) := by omega
  have q4 : ¬ (at_ : Int) < 0 := by omega
  have q5 : ¬ (1073741824 : Int) < (at_ : Int) := by omega
  have q6 : ¬ (1048576 : Int) < (n : Int) := by omega
  have hf16 : f < 16 := by omega
  have HBK := Lib.hid (show ∀ z : Int, z = ((f + n : Nat) : Int) → ∀ V, CipK V b K → Arg8 V a 8 cap N → Calls Try.prog 39 #[.pointer (some ⟨b, 0, none⟩), .slice a (8 : Nat) cap, .int .i64 (c : Nat), .int .i64 z] V fun e w' =>
      e = .returned (.tuple #[.slice (some ⟨V.heap.size, 0, none⟩) (16 * M) (f + n + 16), .int .i64 0]) ∧
      w'.ownsRow V.heap.size 5 1 (.slice (some ⟨V.heap.size, 0, none⟩) (16 * M) (f + n + 16)) (16 * M) ((blks (strf K N) c M).map (Value.int .u8)) ∧ Below V.heap.size V w' from
    fun z hz V hv hn => by rw [hz]; exact blocks_ok b K a cap N c (f + n) M V hv hk hK hn (by omega) (by omega) (by omega) (by omega))
  have HL := Lib.hid (show f + n ≤ 16 * M ∧ 16 * M < f + n + 16 by omega)
  have HPT := Lib.hid (show ((blks (strf K N) c M).drop f).take n = stL (strf K N) at_ n by rw [hc, hf]; exact blks_part (strf_len K N) at_ n M (by omega))
  have HSB := Lib.hid (allB_stL (strf_B hK N) at_ n)
  have HCK := Lib.hid h
  have HN := Lib.hid hN
  clear hc hf hM h hk hK hN hrn hcp
  by_cases hn0 : n = 0
  · subst hn0
    go_enter Try.func19, Try.ntmps19
    go_wp2_with (first
      | (go_at_call 16; (with_reducible refine (rounds_cip b rn (keyW K) _ HC.out).mono ?_); rintro e w1 ⟨rfl, rfl⟩)
      | (go_at_call 39; go_loud ((with_reducible refine (HBK.out (f : Int) (by omega) w HCK.out HN.out).mono ?_); rintro e w1 ⟨rfl, ho, hb⟩; have HO1 := Lib.hid ho; have HB1 := Lib.hid hb; clear ho hb)))
    go_ret2
    exact ⟨_, _, rfl, ⟨length_stL _ _ _, HSB.out, fun h0 => absurd h0 (by rw [length_stL]; omega), Nat.le_refl _, Nat.zero_le _⟩, HB1.out⟩
  · have hn1 : 0 < n := by omega
    go_enter Try.func19, Try.ntmps19
    go_wp2_with (first
      | (go_at_call 16; (with_reducible refine (rounds_cip b rn (keyW K) _ HC.out).mono ?_); rintro e w1 ⟨rfl, rfl⟩)
      | (go_at_call 39; go_loud ((with_reducible refine (HBK.out ((f : Int) + (n : Int)) (Int.natCast_add f n).symm w HCK.out HN.out).mono ?_); rintro e w1 ⟨rfl, ho, hb⟩; have HO1 := Lib.hid ho; have HB1 := Lib.hid hb; clear ho hb)))
    go_ret2
    refine ⟨w.heap.size, f, (show Ending.returned (.tuple #[.slice (some ⟨w.heap.size, f, none⟩) (f + n - f) (f + n - f), .int .i64 0]) = _ by rw [Nat.add_sub_cancel_left]), ⟨length_stL _ _ _, HSB.out, ?_, Nat.le_refl _, by unfold maxLen; omega⟩, HB1.out⟩
    intro h0
    refine ⟨_, _, rfl, (own_caps HO1.out).2.2.2.2, fun i hi => ?_⟩
    rw [length_stL] at hi
    have hci := own_cells HO1.out (f + i) (by have := HL.out; omega)
    rw [Nat.zero_add] at hci
    rw [hci, ← HPT.out, List.getD_eq_getElem?_getD, List.getD_eq_getElem?_getD, List.getElem?_take_of_lt hi, List.getElem?_drop]
/-- Bytes and as many of the stream. -/
theorem sxor_nil (v x : Value) (L c : Nat) (a : Option Addr) (w : World) : Calls Try.prog 22 #[.pointer none, v, .slice a L c] w fun e w' => e = .returned (.tuple #[.slice none 0 0, .int .i64 1]) ∧ w = w' := by
  go_enter Try.func22, Try.ntmps22
  go_wp2_with (go_at_call 19; (with_reducible refine (bytes_nil _ _ _ _).mono ?_); rintro e w1 ⟨rfl, rfl⟩)
  go_ret2
  exact ⟨rfl, rfl⟩
set_option maxHeartbeats 1000000 in
theorem sxor_ok (b : Nat) (K : List Int) (a : Option Addr) (cap : Nat) (N : List Int) (a2 : Option Addr) (n c2 : Nat) (l : List Int) (w : World) (h : CipK w b K) (hk : K.length = 16 ∨ K.length = 32) (hK : AllB K) (hN : Arg8 w a 8 cap N)
    (hx : Arg8 w a2 n c2 l) (hn : n ≤ 1048576) :
    Calls Try.prog 22 #[.pointer (some ⟨b, 0, none⟩), .slice a (8 : Nat) cap, .slice a2 n c2] w fun e w' => ∃ g, e = .returned (.tuple #[.slice (some ⟨g, 0, none⟩) n n, .int .i64 0]) ∧
      Arg8 w' (some ⟨g, 0, none⟩) n n (xorL l (stL (strf K N) 0 n)) ∧ Below w.heap.size w w' := by
  have HBY := Lib.hid (show Calls Try.prog 19 #[.pointer (some ⟨b, 0, none⟩), .slice a (8 : Nat) cap, .int .i64 0, .int .i64 (n : Nat)] w fun e w' => ∃ g o, e = .returned (.tuple #[.slice (some ⟨g, o, none⟩) n n, .int .i64 0]) ∧
      Arg8 w' (some ⟨g, o, none⟩) n n (stL (strf K N) 0 n) ∧ Below w.heap.size w w' from bytes_ok b K a cap N 0 n w h hk hK hN (by omega) hn)
  have HX := Lib.hid hx
  have HSB := Lib.hid (xorL_B l (stL (strf K N) 0 n) hx.2.1 (allB_stL (strf_B hK N) 0 n))
  clear h hk hK hN hx
  go_enter Try.func22, Try.ntmps22
  go_wp2_with (first
    | (go_at_call 19; go_loud ((with_reducible refine HBY.out.mono ?_); rintro e w1 ⟨g1, o1, rfl, hs, hb⟩; have HS1 := Lib.hid hs; have HB1 := Lib.hid hb; have HX1 := Lib.hid (HX.out.on hb); clear hs hb))
    | (go_at_call 40; go_loud ((with_reducible refine (xor_any a2 (some ⟨g1, o1, none⟩) n c2 n n l (stL (strf K N) 0 n) w1 HX1.out HS1.out (by omega) (by omega)).mono ?_); rintro e w2 ⟨g2, rfl, ho, hb⟩; have HO2 := Lib.hid ho; have HB2 := Lib.hid (bt HB1.out hb); clear ho hb)))
  have HO3 := HO2.out
  rw [Nat.min_self] at HO3
  have HA3 := Lib.hid (Arg8.own HO3 HSB.out ⟨Nat.le_refl _, by unfold maxLen; omega⟩)
  clear HO3
  go_ret2
  exact ⟨g2, rfl, HA3.out, HB2.out⟩
end Go.Proofs.Ytpfhfnhbholboaa
