/- The walk of WordXors. -/
import Derived.Test.YtdapcnffiapgpaaZero
import Derived.Test.YtdapcnffiapgpaaStrs
import Derived.Deep.RegionHeld3
namespace Go.Proofs.Ytdapcnffiapgpaa
open Go.ChangeShapes Go.WideShapes Go.ChangeAt Go.RowKit
set_option linter.unusedVariables false

theorem allB_xorL {x y : List Int} (hx : AllB x) (hy : AllB y) : AllB (xorL x y) := by
  intro v hv
  obtain ⟨i, hi, rfl⟩ := List.getElem_of_mem hv
  have h1 : i < min x.length y.length := by rw [← length_xorL]; exact hi
  have e := xorL_getD h1
  have e2 : (xorL x y).getD i 0 = (xorL x y)[i] := by simp [List.getD_eq_getElem?_getD, List.getElem?_eq_getElem hi]
  rw [← e2, e]
  have a := allB_getD hx i
  have b := allB_getD hy i
  have : (x.getD i 0).toNat ^^^ (y.getD i 0).toNat < 2 ^ 8 := Nat.xor_lt_two_pow (by omega) (by omega)
  omega
theorem list_ext_getD {l m : List Int} (h : l.length = m.length) (hi : ∀ i, i < l.length → l.getD i 0 = m.getD i 0) : l = m := by
  apply List.ext_getElem h
  intro i h1 h2
  have := hi i h1
  simpa [List.getD_eq_getElem?_getD, List.getElem?_eq_getElem h1, List.getElem?_eq_getElem h2] using this
theorem take_getD {l : List Int} {n i : Nat} (h : i < n) : (l.take n).getD i 0 = l.getD i 0 := by
  simp [List.getD_eq_getElem?_getD, h]
theorem xorL_twice {x y : List Int} (hx : AllB x) (hy : AllB y) : xorL (xorL x y) y = x.take (min x.length y.length) := by
  apply list_ext_getD
  · simp [length_xorL]
  · intro i hi
    have h1 : i < min x.length y.length := by simp [length_xorL] at hi; omega
    have h2 : i < min (xorL x y).length y.length := by rw [length_xorL]; omega
    rw [xorL_getD h2, xorL_getD h1, take_getD h1]
    have a := allB_getD hx i
    rw [Int.toNat_natCast, Nat.xor_assoc, Nat.xor_self, Nat.xor_zero]
    omega
theorem zero_xorL {x y : List Int} (hx : AllB x) (hy : AllB y) {n : Nat} (hn : min x.length y.length = n) : zeroL (xorL x y) = decide (x.take n = y.take n) := by
  by_cases h : x.take n = y.take n
  · rw [decide_eq_true h]
    apply zeroL_true
    intro i hi
    have h1 : i < min x.length y.length := by rw [← length_xorL]; exact hi
    rw [xorL_getD h1]
    have e : (x.take n).getD i 0 = (y.take n).getD i 0 := by rw [h]
    rw [take_getD (by omega), take_getD (by omega)] at e
    rw [e, Nat.xor_self]; rfl
  · rw [decide_eq_false h]
    rcases Bool.eq_false_or_eq_true (zeroL (xorL x y)) with hz | hz
    · exfalso; apply h
      apply list_ext_getD
      · simp; omega
      · intro i hi
        have h1 : i < min x.length y.length := by simp at hi; omega
        rw [take_getD (by omega), take_getD (by omega)]
        have h2 : i < (xorL x y).length := by rw [length_xorL]; exact h1
        have e : (xorL x y).getD i 0 = 0 := by
          unfold zeroL at hz
          rw [List.all_eq_true] at hz
          have := hz _ (List.getElem_mem h2)
          have e2 : (xorL x y).getD i 0 = (xorL x y)[i] := by simp [List.getD_eq_getElem?_getD, List.getElem?_eq_getElem h2]
          rw [e2]; simpa using this
        rw [xorL_getD h1] at e
        have a := allB_getD hx i
        have b := allB_getD hy i
        have e3 : (x.getD i 0).toNat ^^^ (y.getD i 0).toNat = 0 := by exact_mod_cast e
        have e4 : (x.getD i 0).toNat = (y.getD i 0).toNat := by
          have := congrArg (· ^^^ (y.getD i 0).toNat) e3
          simpa [Nat.xor_assoc] using this
        omega
    · exact hz
theorem xor_n (a b : Option Addr) (la ca lb cb n : Nat) (x y : List Int) (w : World) (hn : min la lb = n) (hx : Arg8 w a la ca x) (hy : Arg8 w b lb cb y) (hla : la ≤ 281474976710656) (hlb : lb ≤ 281474976710656) :
    Calls Try.prog 21 #[.slice a la ca, .slice b lb cb] w fun e w' => ∃ g, e = .returned (.slice (some ⟨g, 0, none⟩) n n) ∧
      w'.ownsRow w.heap.size 5 1 (.slice (some ⟨g, 0, none⟩) n n) n ((xorL x y).map (Value.int .u8)) ∧ Below w.heap.size w w' := by
  subst hn
  exact xor_any a b la ca lb cb x y w hx hy hla hlb

theorem and1_u8 {X : Int} (h : 0 ≤ X ∧ X < 256) (m : Nat) : bits .and .u8 (X / 2 ^ m) 1 = ((X.toNat.testBit m).toNat : Int) := by
  obtain ⟨n, rfl⟩ := Int.eq_ofNat_of_zero_le h.1
  have hn : n < 256 := by omega
  rw [show ((n : Int) / 2 ^ m) = ((n / 2 ^ m : Nat) : Int) by simp, show (1 : Int) = ((1 : Nat) : Int) from rfl, u8_and_nat _ _ (Nat.lt_of_le_of_lt (Nat.div_le_self _ _) hn) (by omega), Int.toNat_natCast]
  rw [Nat.and_one_is_mod, Nat.testBit_eq_decide_div_mod_eq]
  rcases (by omega : n / 2 ^ m % 2 = 0 ∨ n / 2 ^ m % 2 = 1) with e | e <;> simp [e]
theorem xor_bits {X Y : Int} (hx : 0 ≤ X ∧ X < 256) (hy : 0 ≤ Y ∧ Y < 256) (m : Nat) {O : Int} (hO : O = ((X.toNat ^^^ Y.toNat : Nat) : Int)) (ho : 0 ≤ O ∧ O < 256) :
    (bits .and .u8 (O / 2 ^ m) 1 = 0 ∧ bits .and .u8 (X / 2 ^ m) 1 = 0 ∧ bits .and .u8 (Y / 2 ^ m) 1 = 0) ∨ (bits .and .u8 (O / 2 ^ m) 1 = 1 ∧ bits .and .u8 (X / 2 ^ m) 1 = 1 ∧ bits .and .u8 (Y / 2 ^ m) 1 = 0) ∨
    (bits .and .u8 (O / 2 ^ m) 1 = 1 ∧ bits .and .u8 (X / 2 ^ m) 1 = 0 ∧ bits .and .u8 (Y / 2 ^ m) 1 = 1) ∨ (bits .and .u8 (O / 2 ^ m) 1 = 0 ∧ bits .and .u8 (X / 2 ^ m) 1 = 1 ∧ bits .and .u8 (Y / 2 ^ m) 1 = 1) := by
  rw [and1_u8 hx, and1_u8 hy, and1_u8 ho, hO, Int.toNat_natCast, Nat.testBit_xor]
  cases X.toNat.testBit m <;> cases Y.toNat.testBit m <;> simp

set_option maxHeartbeats 2000000 in
theorem wordXors_core1 (a0 : Option Addr) (len0 cap0 : Nat) (a1 : Option Addr) (len1 cap1 : Nat) (w : World) (x y : List Int) (HX : Hid (Arg8 w a0 len0 cap0 x)) (HY : Hid (Arg8 w a1 len1 cap1 y)) (h1 : len0 ≤ 200) (h2 : len1 ≤ 200) (hc0 : len0 ≤ cap0) (hc1 : len1 ≤ cap1) (hc : len1 < len0) :
    Calls Try.prog 6 #[.slice a0 len0 cap0, .slice a1 len1 cap1] w fun e w' => e = .returned (.bool true) ∧ Below w.heap.size w w' := by
  have hmn := Lib.hid (show min len0 len1 = len1 from Nat.min_eq_right (by omega))
  have hmn2 := Lib.hid (show min len1 len1 = len1 from Nat.min_eq_left (by omega))
  have hxx := Lib.hid (xorL_twice HX.out.2.1 HY.out.2.1)
  have hn0 := Lib.hid (show min x.length y.length = len1 by rw [HX.out.1, HY.out.1]; exact hmn.out)
  go_enter Try.func6, Try.ntmps6
  go_wp2_with (first
    | (go_at_call 8; refine (lives_any _).mono ?_; rintro e w' ⟨rfl, hbel⟩)
    | (go_at_call 21; refine (xor_n _ _ _ _ _ _ len1 x y _ hmn.out (HX.out.on hbel) (HY.out.on hbel) (by omega) (by omega)).mono ?_; rintro e w2 ⟨g, rfl, hown, hbel2⟩))
  have hX2 := Lib.hid (HX.out.on (bt hbel hbel2))
  have hY2 := Lib.hid (HY.out.on (bt hbel hbel2))
  have hO2 := Lib.hid (Arg8.own hown (allB_xorL HX.out.2.1 HY.out.2.1) ⟨Nat.le_refl _, by unfold maxLen; omega⟩)
  have hcv : ∀ W, Below w2.heap.size w2 W → (convert 31 9 (.slice a0 len1 cap0)).run Try.prog W = .ok (.string (strOfNums (x.take len1))) W := fun W hW =>
    ((hX2.out.on hW).2.2.1.take len1).str (by rw [List.length_take, HX.out.1]; omega) Try.underlying31 Try.underlying5 Try.underlying9
  have q1 : (0 : Int) ≤ (len1 : Int) := by omega
  have q2 : (len1 : Int) ≤ (cap0 : Int) := by omega
  have q3 : (len1 : Int) ≤ (cap1 : Int) := by omega
  have heq : xorL (xorL x y) y = x.take len1 := by rw [← hn0.out]; exact hxx.out
  go_region_held (fun W => Below w2.heap.size w2 W) (first | exact (Below.refl _ _).drew | assumption | exact (Below.refl _ _).drew.trans hbel3)
    (first | (go_at_call 21; refine (xor_n _ _ _ _ _ _ len1 (xorL x y) y _ hmn2.out (hO2.out.on (by assumption)) (hY2.out.on (by assumption)) (by omega) (by omega)).mono ?_; rintro e w3 ⟨g3, rfl, hown3, hbel3⟩; have hcv3 := own_string (P := Try.prog) hown3 Try.underlying31 Try.underlying5 Try.underlying9))
  have hT := (Below.refl w2.heap.size w2).drew.trans hbel3
  clear hcv hcv3 heq hown3 hbel3
  go_wp2
  go_loopw [47] (fun i wr => ∃ k : Nat, k ≤ len1 ∧ i = .int .i64 k ∧ Below w2.heap.size w2 wr) (fun i _ => len1 - (intOf i).toNat)
  case atStart => exact ⟨0, Nat.zero_le _, rfl, hT⟩
  case round =>
    obtain ⟨k, hk, rfl, hbr⟩ := hrel
    by_cases hlt : k < len1
    · go_wp2
      go_loopw [50] (fun j wr2 => ∃ m : Nat, m ≤ 8 ∧ j = .int .i64 m ∧ Below w2.heap.size w2 wr2) (fun j _ => 8 - (intOf j).toNat)
      case atStart => exact ⟨0, by omega, rfl, hbr⟩
      case round =>
        obtain ⟨m, hm, rfl, hbr2⟩ := hrel
        by_cases hm8 : m < 8
        · obtain ⟨bx, ox, rfl, hbx, hcx⟩ := ((hX2.out.on hbr2).2.2.1).at_ (k := k) (by rw [hX2.out.1]; omega)
          obtain ⟨by', oy, rfl, hby, hcy⟩ := ((hY2.out.on hbr2).2.2.1).at_ (k := k) (by rw [hY2.out.1]; omega)
          obtain ⟨bo, oo, ho, hbo, hco⟩ := ((hO2.out.on hbr2).2.2.1).at_ (k := k) (by rw [hO2.out.1]; omega)
          injection ho with ho
          injection ho with ho1 ho2
          subst ho1 ho2
          rw [Nat.zero_add] at hco
          obtain ⟨X, hX⟩ : ∃ X, X = x.getD k 0 := ⟨_, rfl⟩
          obtain ⟨Y, hY⟩ : ∃ Y, Y = y.getD k 0 := ⟨_, rfl⟩
          obtain ⟨O, hO⟩ : ∃ O, O = (xorL x y).getD k 0 := ⟨_, rfl⟩
          have wX := allB_getD HX.out.2.1 k
          have wY := allB_getD HY.out.2.1 k
          have wO := allB_getD hO2.out.2.1 k
          have eO := xorL_getD (a := x) (b := y) (k := k) (by rw [HX.out.1, HY.out.1]; omega)
          rw [← hX, ← hY, ← hO] at eO
          rw [← hX] at hcx wX
          rw [← hY] at hcy wY
          rw [← hO] at hco wO
          have hb := xor_bits wX wY m eO wO
          clear hX hY hO eO
          have r1 : (k : Int) < (len0 : Int) := by omega
          have r2 : (k : Int) < (len1 : Int) := by omega
          have r3 : (0 : Int) ≤ (k : Int) := by omega
          have HB := Lib.hid hbr2
          clear hbr2
          rcases hb with ⟨e1, e2, e3⟩ | ⟨e1, e2, e3⟩ | ⟨e1, e2, e3⟩ | ⟨e1, e2, e3⟩
          all_goals
            go_wp2_with fail
            go_quiet (fail)
            go_wp2
            go_roundw
            case rel => exact ⟨m + 1, by omega, by go_num, below_drewN HB.out _⟩
            case measure => simp [intOf]; omega
        · obtain rfl : m = 8 := by omega
          go_wp2
          go_roundw
          case rel => exact ⟨k + 1, by omega, by go_num, hbr2⟩
          case measure => simp [intOf]; omega
    · obtain rfl : len1 = k := by omega
      have hz := zero_xorL HX.out.2.1 HY.out.2.1 hn0.out
      have hzn : zeroL [] = true := rfl
      have hcv : ∀ W, Below w2.heap.size w2 W → (convert 31 9 (.slice a0 len1 cap0)).run Try.prog W = .ok (.string (strOfNums (x.take len1))) W := fun W hW =>
        ((hX2.out.on hW).2.2.1.take len1).str (by rw [List.length_take, HX.out.1]; omega) Try.underlying31 Try.underlying5 Try.underlying9
      have hcw : ∀ W, Below w2.heap.size w2 W → (convert 31 9 (.slice a1 len1 cap1)).run Try.prog W = .ok (.string (strOfNums (y.take len1))) W := fun W hW =>
        ((hY2.out.on hW).2.2.1.take len1).str (by rw [List.length_take, HY.out.1]; omega) Try.underlying31 Try.underlying5 Try.underlying9
      have hsq : ((strOfNums (x.take len1)).toList == (strOfNums (y.take len1)).toList) = decide (x.take len1 = y.take len1) := by
        by_cases h : x.take len1 = y.take len1
        · rw [str_eq h, decide_eq_true h]
        · rw [str_ne (HX.out.2.1.take _) (HY.out.2.1.take _) h, decide_eq_false h]
      obtain ⟨d, hd⟩ : ∃ d, decide (x.take len1 = y.take len1) = d := ⟨_, rfl⟩
      rw [hd] at hz hsq
      clear hd
      go_wp2_with fail
      go_region_held (fun W => Below w2.heap.size w2 W) (first | assumption | exact hbr.drew)
        (first
          | (go_at_call_of 22 (Value.slice none 0 0); refine (zero_any none 0 0 [] _ rfl (Bs.nil _ _ _) (by omega)).mono ?_; rintro e w' ⟨rfl, rfl⟩)
          | (go_at_call 22; refine (zero_any _ _ _ (xorL x y) _ hO2.out.1 (hO2.out.on (by assumption)).2.2.1 (by omega)).mono ?_; rintro e w' ⟨rfl, rfl⟩))
      go_wp2
      go_ret
      exact ⟨rfl, bt (bt hbel hbel2) (by assumption)⟩

set_option maxHeartbeats 2000000 in
theorem wordXors_core2 (a0 : Option Addr) (len0 cap0 : Nat) (a1 : Option Addr) (len1 cap1 : Nat) (w : World) (x y : List Int) (HX : Hid (Arg8 w a0 len0 cap0 x)) (HY : Hid (Arg8 w a1 len1 cap1 y)) (h1 : len0 ≤ 200) (h2 : len1 ≤ 200) (hc0 : len0 ≤ cap0) (hc1 : len1 ≤ cap1) (hc : ¬ len1 < len0) :
    Calls Try.prog 6 #[.slice a0 len0 cap0, .slice a1 len1 cap1] w fun e w' => e = .returned (.bool true) ∧ Below w.heap.size w w' := by
  have hmn := Lib.hid (show min len0 len1 = len0 from Nat.min_eq_left (by omega))
  have hmn2 := Lib.hid (show min len0 len1 = len0 from Nat.min_eq_left (by omega))
  have hxx := Lib.hid (xorL_twice HX.out.2.1 HY.out.2.1)
  have hn0 := Lib.hid (show min x.length y.length = len0 by rw [HX.out.1, HY.out.1]; exact hmn.out)
  go_enter Try.func6, Try.ntmps6
  go_wp2_with (first
    | (go_at_call 8; refine (lives_any _).mono ?_; rintro e w' ⟨rfl, hbel⟩)
    | (go_at_call 21; refine (xor_n _ _ _ _ _ _ len0 x y _ hmn.out (HX.out.on hbel) (HY.out.on hbel) (by omega) (by omega)).mono ?_; rintro e w2 ⟨g, rfl, hown, hbel2⟩))
  have hX2 := Lib.hid (HX.out.on (bt hbel hbel2))
  have hY2 := Lib.hid (HY.out.on (bt hbel hbel2))
  have hO2 := Lib.hid (Arg8.own hown (allB_xorL HX.out.2.1 HY.out.2.1) ⟨Nat.le_refl _, by unfold maxLen; omega⟩)
  have hcv : ∀ W, Below w2.heap.size w2 W → (convert 31 9 (.slice a0 len0 cap0)).run Try.prog W = .ok (.string (strOfNums (x.take len0))) W := fun W hW =>
    ((hX2.out.on hW).2.2.1.take len0).str (by rw [List.length_take, HX.out.1]; omega) Try.underlying31 Try.underlying5 Try.underlying9
  have q1 : (0 : Int) ≤ (len0 : Int) := by omega
  have q2 : (len0 : Int) ≤ (cap0 : Int) := by omega
  have q3 : (len0 : Int) ≤ (cap1 : Int) := by omega
  have heq : xorL (xorL x y) y = x.take len0 := by rw [← hn0.out]; exact hxx.out
  go_region_held (fun W => Below w2.heap.size w2 W) (first | exact (Below.refl _ _).drew | assumption | exact (Below.refl _ _).drew.trans hbel3)
    (first | (go_at_call 21; refine (xor_n _ _ _ _ _ _ len0 (xorL x y) y _ hmn2.out (hO2.out.on (by assumption)) (hY2.out.on (by assumption)) (by omega) (by omega)).mono ?_; rintro e w3 ⟨g3, rfl, hown3, hbel3⟩; have hcv3 := own_string (P := Try.prog) hown3 Try.underlying31 Try.underlying5 Try.underlying9))
  have hT := (Below.refl w2.heap.size w2).drew.trans hbel3
  clear hcv hcv3 heq hown3 hbel3
  go_wp2
  go_loopw [47] (fun i wr => ∃ k : Nat, k ≤ len0 ∧ i = .int .i64 k ∧ Below w2.heap.size w2 wr) (fun i _ => len0 - (intOf i).toNat)
  case atStart => exact ⟨0, Nat.zero_le _, rfl, hT⟩
  case round =>
    obtain ⟨k, hk, rfl, hbr⟩ := hrel
    by_cases hlt : k < len0
    · go_wp2
      go_loopw [50] (fun j wr2 => ∃ m : Nat, m ≤ 8 ∧ j = .int .i64 m ∧ Below w2.heap.size w2 wr2) (fun j _ => 8 - (intOf j).toNat)
      case atStart => exact ⟨0, by omega, rfl, hbr⟩
      case round =>
        obtain ⟨m, hm, rfl, hbr2⟩ := hrel
        by_cases hm8 : m < 8
        · obtain ⟨bx, ox, rfl, hbx, hcx⟩ := ((hX2.out.on hbr2).2.2.1).at_ (k := k) (by rw [hX2.out.1]; omega)
          obtain ⟨by', oy, rfl, hby, hcy⟩ := ((hY2.out.on hbr2).2.2.1).at_ (k := k) (by rw [hY2.out.1]; omega)
          obtain ⟨bo, oo, ho, hbo, hco⟩ := ((hO2.out.on hbr2).2.2.1).at_ (k := k) (by rw [hO2.out.1]; omega)
          injection ho with ho
          injection ho with ho1 ho2
          subst ho1 ho2
          rw [Nat.zero_add] at hco
          obtain ⟨X, hX⟩ : ∃ X, X = x.getD k 0 := ⟨_, rfl⟩
          obtain ⟨Y, hY⟩ : ∃ Y, Y = y.getD k 0 := ⟨_, rfl⟩
          obtain ⟨O, hO⟩ : ∃ O, O = (xorL x y).getD k 0 := ⟨_, rfl⟩
          have wX := allB_getD HX.out.2.1 k
          have wY := allB_getD HY.out.2.1 k
          have wO := allB_getD hO2.out.2.1 k
          have eO := xorL_getD (a := x) (b := y) (k := k) (by rw [HX.out.1, HY.out.1]; omega)
          rw [← hX, ← hY, ← hO] at eO
          rw [← hX] at hcx wX
          rw [← hY] at hcy wY
          rw [← hO] at hco wO
          have hb := xor_bits wX wY m eO wO
          clear hX hY hO eO
          have r1 : (k : Int) < (len0 : Int) := by omega
          have r2 : (k : Int) < (len1 : Int) := by omega
          have r3 : (0 : Int) ≤ (k : Int) := by omega
          have HB := Lib.hid hbr2
          clear hbr2
          rcases hb with ⟨e1, e2, e3⟩ | ⟨e1, e2, e3⟩ | ⟨e1, e2, e3⟩ | ⟨e1, e2, e3⟩
          all_goals
            go_wp2_with fail
            go_quiet (fail)
            go_wp2
            go_roundw
            case rel => exact ⟨m + 1, by omega, by go_num, below_drewN HB.out _⟩
            case measure => simp [intOf]; omega
        · obtain rfl : m = 8 := by omega
          go_wp2
          go_roundw
          case rel => exact ⟨k + 1, by omega, by go_num, hbr2⟩
          case measure => simp [intOf]; omega
    · obtain rfl : len0 = k := by omega
      have hz := zero_xorL HX.out.2.1 HY.out.2.1 hn0.out
      have hzn : zeroL [] = true := rfl
      have hcv : ∀ W, Below w2.heap.size w2 W → (convert 31 9 (.slice a0 len0 cap0)).run Try.prog W = .ok (.string (strOfNums (x.take len0))) W := fun W hW =>
        ((hX2.out.on hW).2.2.1.take len0).str (by rw [List.length_take, HX.out.1]; omega) Try.underlying31 Try.underlying5 Try.underlying9
      have hcw : ∀ W, Below w2.heap.size w2 W → (convert 31 9 (.slice a1 len0 cap1)).run Try.prog W = .ok (.string (strOfNums (y.take len0))) W := fun W hW =>
        ((hY2.out.on hW).2.2.1.take len0).str (by rw [List.length_take, HY.out.1]; omega) Try.underlying31 Try.underlying5 Try.underlying9
      have hsq : ((strOfNums (x.take len0)).toList == (strOfNums (y.take len0)).toList) = decide (x.take len0 = y.take len0) := by
        by_cases h : x.take len0 = y.take len0
        · rw [str_eq h, decide_eq_true h]
        · rw [str_ne (HX.out.2.1.take _) (HY.out.2.1.take _) h, decide_eq_false h]
      obtain ⟨d, hd⟩ : ∃ d, decide (x.take len0 = y.take len0) = d := ⟨_, rfl⟩
      rw [hd] at hz hsq
      clear hd
      go_wp2_with fail
      go_region_held (fun W => Below w2.heap.size w2 W) (first | assumption | exact hbr.drew)
        (first
          | (go_at_call_of 22 (Value.slice none 0 0); refine (zero_any none 0 0 [] _ rfl (Bs.nil _ _ _) (by omega)).mono ?_; rintro e w' ⟨rfl, rfl⟩)
          | (go_at_call 22; refine (zero_any _ _ _ (xorL x y) _ hO2.out.1 (hO2.out.on (by assumption)).2.2.1 (by omega)).mono ?_; rintro e w' ⟨rfl, rfl⟩))
      go_wp2
      go_ret
      exact ⟨rfl, bt (bt hbel hbel2) (by assumption)⟩

theorem wordXors_walk (a0 : Option Addr) (len0 cap0 : Nat) (a1 : Option Addr) (len1 cap1 : Nat) (w : World) (w0 : ∃ l, Arg8 w a0 len0 cap0 l) (w1 : ∃ l, Arg8 w a1 len1 cap1 l) :
    Calls Try.prog 6 #[.slice a0 len0 cap0, .slice a1 len1 cap1] w fun e w' => e = .returned (.bool true) ∧ Below w.heap.size w w' := by
  obtain ⟨x, hx⟩ := w0
  obtain ⟨y, hy⟩ := w1
  have hl0 : len0 ≤ 9223372036854775807 := by have := hx.2.2.2.1; have := hx.2.2.2.2; unfold maxLen at this; omega
  have hl1 : len1 ≤ 9223372036854775807 := by have := hy.2.2.2.1; have := hy.2.2.2.2; unfold maxLen at this; omega
  have hc0 : len0 ≤ cap0 := hx.2.2.2.1
  have hc1 : len1 ≤ cap1 := hy.2.2.2.1
  have HX := Lib.hid hx
  have HY := Lib.hid hy
  clear hx hy
  have early : 200 < len0 ∨ 200 < len1 → Calls Try.prog 6 #[.slice a0 len0 cap0, .slice a1 len1 cap1] w fun e w' => e = .returned (.bool true) ∧ Below w.heap.size w w' := by
    intro h
    by_cases h0 : 200 < len0
    · go_enter Try.func6, Try.ntmps6
      go_wp2_with (go_at_call 8; refine (lives_any _).mono ?_; rintro e w' ⟨rfl, hbel⟩)
      go_ret
      exact ⟨rfl, bt (by assumption) (by assumption)⟩
    · have h1 : 200 < len1 := by omega
      clear h
      go_enter Try.func6, Try.ntmps6
      go_wp2_with (go_at_call 8; refine (lives_any _).mono ?_; rintro e w' ⟨rfl, hbel⟩)
      go_ret
      exact ⟨rfl, bt (by assumption) (by assumption)⟩
  by_cases h0 : 200 < len0 ∨ 200 < len1
  · exact early h0
  clear early
  have h1 : len0 ≤ 200 := by omega
  have h2 : len1 ≤ 200 := by omega
  clear h0
  by_cases hc : len1 < len0
  · exact wordXors_core1 a0 len0 cap0 a1 len1 cap1 w x y HX HY h1 h2 hc0 hc1 hc
  · exact wordXors_core2 a0 len0 cap0 a1 len1 cap1 w x y HX HY h1 h2 hc0 hc1 hc
end Go.Proofs.Ytdapcnffiapgpaa
