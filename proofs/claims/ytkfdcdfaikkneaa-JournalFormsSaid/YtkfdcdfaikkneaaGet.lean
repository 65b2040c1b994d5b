/- Contracts: word.Get at four widths, the document's Get and Put. -/
import Derived.Test.YtkfdcdfaikkneaaPut
import Derived.Test.YtkfdcdfaikkneaaQ1
namespace Go.Proofs.Ytkfdcdfaikkneaa
open Go.ChangeShapes Go.WideShapes Go.ChangeAt Go.RowKit
set_option linter.unusedVariables false

/-- The number that bytes write, the greatest first. -/
def numB (l : List Int) : Int := l.foldl (fun s x => s * 256 + x) 0
theorem numB_snoc (l : List Int) (x : Int) : numB (l ++ [x]) = numB l * 256 + x := by simp [numB]
theorem numB_bound {l : List Int} (h : AllB l) : 0 ≤ numB l ∧ numB l < 256 ^ l.length := by
  obtain ⟨n, hn⟩ : ∃ n, n = l.length := ⟨_, rfl⟩
  induction n generalizing l with
  | zero => obtain rfl : l = [] := List.eq_nil_of_length_eq_zero hn.symm; simp [numB]
  | succ n ih =>
    obtain ⟨m, x, rfl⟩ : ∃ m x, l = m ++ [x] := by
      rcases List.eq_nil_or_concat l with rfl | ⟨m, x, e⟩
      · simp at hn
      · exact ⟨m, x, by simpa using e⟩
    have hm : n = m.length := by simp at hn; omega
    have hi := ih (l := m) (fun y hy => h y (List.mem_append_left _ hy)) hm
    have hx := h x (by simp)
    rw [numB_snoc, List.length_append, List.length_singleton, Int.pow_succ]
    generalize (256 : Int) ^ m.length = P at *
    omega
theorem take_snoc_getD {l : List Int} {k : Nat} (h : k < l.length) : l.take (k + 1) = l.take k ++ [l.getD k 0] := by
  rw [List.take_succ_eq_append_getElem h]
  simp [List.getD_eq_getElem?_getD, List.getElem?_eq_getElem h]
theorem numB_take_succ {l : List Int} {k : Nat} (h : k < l.length) : numB (l.take (k + 1)) = numB (l.take k) * 256 + l.getD k 0 := by
  rw [take_snoc_getD h, numB_snoc]
/-- What Get tells. -/
def getV (n : Nat) (l : List Int) : Int := if l.length < n then 0 else numB (l.take n)
theorem getV_few {n : Nat} {l : List Int} (h : l.length < n) : getV n l = 0 := by simp [getV, h]
theorem getV_num {n : Nat} {l : List Int} (h : n ≤ l.length) : getV n l = numB (l.take n) := by simp [getV, Nat.not_lt.2 h]
theorem getV_bound {n : Nat} {l : List Int} (h : AllB l) : 0 ≤ getV n l ∧ getV n l < 256 ^ n := by
  by_cases hl : l.length < n
  · rw [getV_few hl]
    exact ⟨Int.le_refl _, Int.pow_pos (by omega)⟩
  · rw [getV_num (by omega)]
    have := numB_bound (h.take n)
    rw [List.length_take, Nat.min_eq_left (by omega)] at this
    exact this
theorem or_byte {S X : Int} (h0 : 0 ≤ S) (h1 : S < 72057594037927936) (hx : 0 ≤ X ∧ X < 256) : bits .or .u64 (S * 256) X = S * 256 + X := by
  obtain ⟨s, rfl⟩ := Int.eq_ofNat_of_zero_le h0
  obtain ⟨x, rfl⟩ := Int.eq_ofNat_of_zero_le hx.1
  rw [show ((s : Int) * 256) = ((s * 256 : Nat) : Int) by simp, u64_or_nat _ _ (by omega) (by omega), nat_join 8 _ _ (by omega) (by omega)]
  simp
theorem ret_tup {k : IntKind} {a b : Int} {c d : Bool} (h : a = b) (g : c = d) : Ending.returned (.tuple #[.int k a, .bool c]) = .returned (.tuple #[.int k b, .bool d]) := by rw [h, g]
theorem pow_le_56 {k n : Nat} (h : k < n) (hn : n ≤ 8) : (256 : Int) ^ k ≤ 72057594037927936 := by
  have h1 : (256 : Nat) ^ k ≤ 72057594037927936 := Nat.le_trans (Nat.pow_le_pow_right (by omega) (show k ≤ 7 by omega)) (by decide)
  have h2 : ((256 ^ k : Nat) : Int) ≤ ((72057594037927936 : Nat) : Int) := Int.ofNat_le.2 h1
  rw [Int.natCast_pow] at h2
  exact h2

theorem get16 (a : Option Addr) (L c : Nat) (l : List Int) (w : World) (hl : l.length = L) (hB : AllB l) (hb : Bs w w.heap.size a l) (hL : L ≤ 9223372036854775807) :
    Calls Try.prog 80 #[.slice a L c] w fun e w' => e = .returned (.tuple #[.int .u16 (getV 2 l), .bool (decide (2 ≤ L))]) ∧ w = w' := by
  by_cases hs : L < 2
  · have HV := Lib.hid (getV_few (n := 2) (l := l) (by omega))
    have HD := Lib.hid (decide_eq_false (show ¬ 2 ≤ L by omega))
    go_enter Try.func80, Try.ntmps80
    go_wp2_with (go_at_call 65; refine (size16 _).mono ?_; rintro e w' ⟨rfl, rfl⟩)
    go_ret2
    exact ⟨ret_tup HV.out.symm HD.out.symm, rfl⟩
  · have HV := Lib.hid (getV_num (n := 2) (l := l) (by omega))
    have HD := Lib.hid (decide_eq_true (show 2 ≤ L by omega))
    have hs' : (2 : Int) ≤ (L : Int) := by omega
    go_enter Try.func80, Try.ntmps80
    go_wp2_with (go_at_call 65; refine (size16 _).mono ?_; rintro e w' ⟨rfl, rfl⟩)
    go_loop [5, 13] (fun v i => ∃ j : Nat, j ≤ 2 ∧ i = .int .i64 j ∧ v = .int .u64 (numB (l.take j))) (fun _ i => 2 - (intOf i).toNat)
    case atStart => exact ⟨0, by omega, rfl, rfl⟩
    case round =>
      obtain ⟨j, hj, rfl, rfl⟩ := hrel
      obtain ⟨S, hS⟩ : ∃ S, S = numB (l.take j) := ⟨_, rfl⟩
      have hbd := numB_bound (hB.take j)
      rw [List.length_take, Nat.min_eq_left (by omega), ← hS] at hbd
      rw [← hS]
      by_cases hlt : j < 2
      · have hp := pow_le_56 hlt (by omega)
        obtain ⟨b, off, rfl, _, hc⟩ := hb.at_ (k := j) (by omega)
        have hxb := allB_getD hB j
        have HN := Lib.hid (numB_take_succ (l := l) (k := j) (by omega))
        obtain ⟨X, hX⟩ : ∃ X, X = l.getD j 0 := ⟨_, rfl⟩
        rw [← hX] at hc hxb
        have HX := Lib.hid hX
        have HS := Lib.hid hS
        have s0 : 0 ≤ S := hbd.1
        have s1 : S < 72057594037927936 := by omega
        have hor := or_byte s0 s1 hxb
        clear hX hS hbd hp
        go_wp2
        go_round
        case rel => exact ⟨j + 1, by omega, by go_num, by rw [HN.out, ← HS.out, ← HX.out]⟩
        case measure => simp [intOf] <;> omega
      · obtain rfl : 2 = j := by omega
        have s0 : 0 ≤ S := hbd.1
        have s1 : S < 65536 := hbd.2
        have HS := Lib.hid hS
        clear hS hbd
        go_wp2
        go_ret2
        exact ⟨ret_tup (HS.out.trans HV.out.symm) HD.out.symm, rfl⟩

theorem get32 (a : Option Addr) (L c : Nat) (l : List Int) (w : World) (hl : l.length = L) (hB : AllB l) (hb : Bs w w.heap.size a l) (hL : L ≤ 9223372036854775807) :
    Calls Try.prog 76 #[.slice a L c] w fun e w' => e = .returned (.tuple #[.int .u32 (getV 4 l), .bool (decide (4 ≤ L))]) ∧ w = w' := by
  by_cases hs : L < 4
  · have HV := Lib.hid (getV_few (n := 4) (l := l) (by omega))
    have HD := Lib.hid (decide_eq_false (show ¬ 4 ≤ L by omega))
    go_enter Try.func76, Try.ntmps76
    go_wp2_with (go_at_call 63; refine (size32 _).mono ?_; rintro e w' ⟨rfl, rfl⟩)
    go_ret2
    exact ⟨ret_tup HV.out.symm HD.out.symm, rfl⟩
  · have HV := Lib.hid (getV_num (n := 4) (l := l) (by omega))
    have HD := Lib.hid (decide_eq_true (show 4 ≤ L by omega))
    have hs' : (4 : Int) ≤ (L : Int) := by omega
    go_enter Try.func76, Try.ntmps76
    go_wp2_with (go_at_call 63; refine (size32 _).mono ?_; rintro e w' ⟨rfl, rfl⟩)
    go_loop [5, 13] (fun v i => ∃ j : Nat, j ≤ 4 ∧ i = .int .i64 j ∧ v = .int .u64 (numB (l.take j))) (fun _ i => 4 - (intOf i).toNat)
    case atStart => exact ⟨0, by omega, rfl, rfl⟩
    case round =>
      obtain ⟨j, hj, rfl, rfl⟩ := hrel
      obtain ⟨S, hS⟩ : ∃ S, S = numB (l.take j) := ⟨_, rfl⟩
      have hbd := numB_bound (hB.take j)
      rw [List.length_take, Nat.min_eq_left (by omega), ← hS] at hbd
      rw [← hS]
      by_cases hlt : j < 4
      · have hp := pow_le_56 hlt (by omega)
        obtain ⟨b, off, rfl, _, hc⟩ := hb.at_ (k := j) (by omega)
        have hxb := allB_getD hB j
        have HN := Lib.hid (numB_take_succ (l := l) (k := j) (by omega))
        obtain ⟨X, hX⟩ : ∃ X, X = l.getD j 0 := ⟨_, rfl⟩
        rw [← hX] at hc hxb
        have HX := Lib.hid hX
        have HS := Lib.hid hS
        have s0 : 0 ≤ S := hbd.1
        have s1 : S < 72057594037927936 := by omega
        have hor := or_byte s0 s1 hxb
        clear hX hS hbd hp
        go_wp2
        go_round
        case rel => exact ⟨j + 1, by omega, by go_num, by rw [HN.out, ← HS.out, ← HX.out]⟩
        case measure => simp [intOf] <;> omega
      · obtain rfl : 4 = j := by omega
        have s0 : 0 ≤ S := hbd.1
        have s1 : S < 4294967296 := hbd.2
        have HS := Lib.hid hS
        clear hS hbd
        go_wp2
        go_ret2
        exact ⟨ret_tup (HS.out.trans HV.out.symm) HD.out.symm, rfl⟩

theorem get64 (a : Option Addr) (L c : Nat) (l : List Int) (w : World) (hl : l.length = L) (hB : AllB l) (hb : Bs w w.heap.size a l) (hL : L ≤ 9223372036854775807) :
    Calls Try.prog 78 #[.slice a L c] w fun e w' => e = .returned (.tuple #[.int .u64 (getV 8 l), .bool (decide (8 ≤ L))]) ∧ w = w' := by
  by_cases hs : L < 8
  · have HV := Lib.hid (getV_few (n := 8) (l := l) (by omega))
    have HD := Lib.hid (decide_eq_false (show ¬ 8 ≤ L by omega))
    go_enter Try.func78, Try.ntmps78
    go_wp2_with (go_at_call 64; refine (size64 _).mono ?_; rintro e w' ⟨rfl, rfl⟩)
    go_ret2
    exact ⟨ret_tup HV.out.symm HD.out.symm, rfl⟩
  · have HV := Lib.hid (getV_num (n := 8) (l := l) (by omega))
    have HD := Lib.hid (decide_eq_true (show 8 ≤ L by omega))
    have hs' : (8 : Int) ≤ (L : Int) := by omega
    go_enter Try.func78, Try.ntmps78
    go_wp2_with (go_at_call 64; refine (size64 _).mono ?_; rintro e w' ⟨rfl, rfl⟩)
    go_loop [5, 13] (fun v i => ∃ j : Nat, j ≤ 8 ∧ i = .int .i64 j ∧ v = .int .u64 (numB (l.take j))) (fun _ i => 8 - (intOf i).toNat)
    case atStart => exact ⟨0, by omega, rfl, rfl⟩
    case round =>
      obtain ⟨j, hj, rfl, rfl⟩ := hrel
      obtain ⟨S, hS⟩ : ∃ S, S = numB (l.take j) := ⟨_, rfl⟩
      have hbd := numB_bound (hB.take j)
      rw [List.length_take, Nat.min_eq_left (by omega), ← hS] at hbd
      rw [← hS]
      by_cases hlt : j < 8
      · have hp := pow_le_56 hlt (by omega)
        obtain ⟨b, off, rfl, _, hc⟩ := hb.at_ (k := j) (by omega)
        have hxb := allB_getD hB j
        have HN := Lib.hid (numB_take_succ (l := l) (k := j) (by omega))
        obtain ⟨X, hX⟩ : ∃ X, X = l.getD j 0 := ⟨_, rfl⟩
        rw [← hX] at hc hxb
        have HX := Lib.hid hX
        have HS := Lib.hid hS
        have s0 : 0 ≤ S := hbd.1
        have s1 : S < 72057594037927936 := by omega
        have hor := or_byte s0 s1 hxb
        clear hX hS hbd hp
        go_wp2
        go_round
        case rel => exact ⟨j + 1, by omega, by go_num, by rw [HN.out, ← HS.out, ← HX.out]⟩
        case measure => simp [intOf] <;> omega
      · obtain rfl : 8 = j := by omega
        have s0 : 0 ≤ S := hbd.1
        have s1 : S < 18446744073709551616 := hbd.2
        have HS := Lib.hid hS
        clear hS hbd
        go_wp2
        go_ret2
        exact ⟨ret_tup (HS.out.trans HV.out.symm) HD.out.symm, rfl⟩

end Go.Proofs.Ytkfdcdfaikkneaa
