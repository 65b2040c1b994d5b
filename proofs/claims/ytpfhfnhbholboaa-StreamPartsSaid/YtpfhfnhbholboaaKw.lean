/- Contracts of package word's Turn, Put and Get, for the cipher (taken from my texts Bits, Put, Get). -/
import Derived.Test.YtpfhfnhbholboaaFint
import Derived.Test.YtpfhfnhbholboaaRowk
import Derived.Test.YtpfhfnhbholboaaKmath
import Derived.BigQuiet
import Derived.Deep.QuietTactic
import Derived.Laws.BitsAllLaws
import Derived.Lib.Hide
import Derived.Below
import Derived.Deep.OwnRows
import Derived.OpenShut
import Derived.ProofKit
import Derived.ShutString
import Derived.StillTailTactics
import Derived.WalkKit
namespace Go.Proofs.Ytpfhfnhbholboaa
open Go.ChangeShapes Go.WideShapes Go.ChangeAt Go.RowKit
set_option linter.unusedVariables false
set_option maxRecDepth 100000

theorem wf_u32 {x : Int} (h : (Lit.int .u32 x).wf = true) : 0 ≤ x ∧ x < 2 ^ 32 := by have : 0 ≤ x ∧ x ≤ 4294967295 := by simpa [Lit.wf, IntKind.min, IntKind.max, IntKind.signed, IntKind.bits] using h
                                                                                     omega
theorem tmod_facts (n : Int) (k : Int) (hk : 0 < k) (hn : n < 0) : -k < n.tmod k ∧ n.tmod k ≤ 0 ∧ (n.tmod k < 0 → n.tmod k + k = n % k) ∧ (0 ≤ n.tmod k → n.tmod k = n % k) := by
  have h1 : n.tmod k = -((-n) % k) := by
    rw [show n = -(-n) by omega, Int.neg_tmod, Int.tmod_eq_emod_of_nonneg (by omega)]; simp
  have h2 := Int.emod_nonneg (-n) (show k ≠ 0 by omega)
  have h3 := Int.emod_lt_of_pos (-n) hk
  have h4 : k * (-n / k) + -n % k = -n := Int.mul_ediv_add_emod (-n) k
  have h5 : n % k = (-((-n) % k)) % k := by
    conv => lhs; rw [show n = -((-n) % k) + k * (-(-n / k)) by rw [Int.mul_neg]; omega]
    rw [Int.add_mul_emod_self_left]
  refine ⟨by omega, by omega, fun h => ?_, fun h => ?_⟩
  · rw [h5, h1]
    have e : -(-n % k) % k = (-(-n % k) + k) % k := by rw [Int.add_emod_right]
    rw [e, Int.emod_eq_of_lt (a := -(-n % k) + k) (by omega) (by omega)]
  · have : (-n) % k = 0 := by omega
    rw [h5, h1, this]; simp

set_option maxRecDepth 100000 in
theorem len64_8 (w : World) : Calls Try.prog 66 #[.int .u64 255] w fun e w' => e = .returned (.int .i64 8) ∧ w = w' := by
  go_enter Try.func66, Try.ntmps66
  go_wp2
  go_ret
  exact ⟨by kernel_rfl, rfl⟩
theorem bits8 (w : World) : Calls Try.prog 58 #[] w fun e w' => e = .returned (.int .i64 8) ∧ w = w' := by
  go_enter Try.func58, Try.ntmps58
  go_wp2_with (go_at_call 66; refine (len64_8 _).mono ?_; rintro e w' ⟨rfl, rfl⟩)
  go_ret
  exact ⟨by kernel_rfl, rfl⟩
theorem rot8_eq (x n R : Int) (h0 : 0 ≤ x) (h1 : x < 2 ^ 8) (hR : R = n % 8) : bits .or .u8 (x * 2 ^ R.toNat % 256) (x / 2 ^ (8 - R).toNat) = rotI 8 x n := by
  have r0 := Int.emod_nonneg n (show (8 : Int) ≠ 0 by omega)
  have r1 := Int.emod_lt_of_pos n (show (0 : Int) < 8 by omega)
  rw [← hR] at r0 r1
  obtain ⟨y, rfl⟩ := Int.eq_ofNat_of_zero_le h0
  obtain ⟨q, rfl⟩ := Int.eq_ofNat_of_zero_le r0
  have e2 : ((8 : Int) - (q : Int)).toNat = 8 - q := by omega
  have f1 : ((y : Int) * 2 ^ q % 256) = ((y * 2 ^ q % 256 : Nat) : Int) := by simp
  have f2 : ((y : Int) / 2 ^ (8 - q)) = ((y / 2 ^ (8 - q) : Nat) : Int) := by simp
  have g1 : y * 2 ^ q % 256 < 256 := Nat.mod_lt _ (by omega)
  have g2 : y / 2 ^ (8 - q) < 256 := Nat.lt_of_le_of_lt (Nat.div_le_self _ _) (by omega)
  rw [Int.toNat_natCast, e2, f1, f2, u8_or_nat _ _ g1 g2]
  unfold rotI rot
  have e3 : (n % ((8 : Nat) : Int)).toNat = q := by
    show (n % 8).toNat = q
    rw [← hR]; exact Int.toNat_natCast _
  rw [e3, Nat.mod_eq_of_lt (show q < 8 by omega), Int.toNat_natCast]
theorem i64_mask8 (n : Int) : bits .and .i64 n 7 = n % 8 := by
  have hm : (BitVec.ofInt 64 7).toNat = 2 ^ 3 - 1 := by decide
  have key : (BitVec.ofInt 64 n &&& BitVec.ofInt 64 7).toNat = (n % ((2 ^ 64 : Nat) : Int)).toNat % 2 ^ 3 := by
    rw [BitVec.toNat_and, BitVec.toNat_ofInt, hm, Nat.and_two_pow_sub_one_eq_mod]
  show IntKind.i64.wrap ((BitVec.ofInt 64 n &&& BitVec.ofInt 64 7).toNat : Nat) = n % 8
  rw [key, IntKind.wrap_i64]
  omega
theorem turn8 (x n : Int) (wx : (Lit.int .u8 x).wf = true) (wn : (Lit.int .i64 n).wf = true) (w : World) : Calls Try.prog 43 #[.int .u8 x, .int .i64 n] w fun e w' => e = .returned (.int .u8 (rotI 8 x n)) ∧ ∃ j, w' = w.drewN j := by
  obtain ⟨hx0, hx1⟩ := wf_u8 wx
  have hx2 : x < 256 := hx1
  clear wx wn
  have r0 := Int.emod_nonneg n (show (8 : Int) ≠ 0 by omega)
  have r1 := Int.emod_lt_of_pos n (show (0 : Int) < 8 by omega)
  have hmask := i64_mask8 n
  have E : Hid (bits .or .u8 (x * 2 ^ (n % 8).toNat % 256) (x / 2 ^ (8 - n % 8).toNat) = rotI 8 x n) := Lib.hid (rot8_eq x n _ hx0 hx1 rfl)
  go_enter Try.func43, Try.ntmps43
  go_wp2_with (go_at_call 58; refine (bits8 _).mono ?_; rintro e w' ⟨rfl, rfl⟩)
  go_quiet (fail)
  go_wp2
  go_ret
  exact ⟨ret_int E.out, _, rfl⟩

set_option maxRecDepth 100000 in
theorem len64_32 (w : World) : Calls Try.prog 66 #[.int .u64 4294967295] w fun e w' => e = .returned (.int .i64 32) ∧ w = w' := by
  go_enter Try.func66, Try.ntmps66
  go_wp2
  go_ret
  exact ⟨by kernel_rfl, rfl⟩
theorem bits32 (w : World) : Calls Try.prog 62 #[] w fun e w' => e = .returned (.int .i64 32) ∧ w = w' := by
  go_enter Try.func62, Try.ntmps62
  go_wp2_with (go_at_call 66; refine (len64_32 _).mono ?_; rintro e w' ⟨rfl, rfl⟩)
  go_ret
  exact ⟨by kernel_rfl, rfl⟩
theorem rot32_eq (x n R : Int) (h0 : 0 ≤ x) (h1 : x < 2 ^ 32) (hR : R = n % 32) : bits .or .u32 (x * 2 ^ R.toNat % 4294967296) (x / 2 ^ (32 - R).toNat) = rotI 32 x n := by
  have r0 := Int.emod_nonneg n (show (32 : Int) ≠ 0 by omega)
  have r1 := Int.emod_lt_of_pos n (show (0 : Int) < 32 by omega)
  rw [← hR] at r0 r1
  obtain ⟨y, rfl⟩ := Int.eq_ofNat_of_zero_le h0
  obtain ⟨q, rfl⟩ := Int.eq_ofNat_of_zero_le r0
  have e2 : ((32 : Int) - (q : Int)).toNat = 32 - q := by omega
  have f1 : ((y : Int) * 2 ^ q % 4294967296) = ((y * 2 ^ q % 4294967296 : Nat) : Int) := by simp
  have f2 : ((y : Int) / 2 ^ (32 - q)) = ((y / 2 ^ (32 - q) : Nat) : Int) := by simp
  have g1 : y * 2 ^ q % 4294967296 < 4294967296 := Nat.mod_lt _ (by omega)
  have g2 : y / 2 ^ (32 - q) < 4294967296 := Nat.lt_of_le_of_lt (Nat.div_le_self _ _) (by omega)
  rw [Int.toNat_natCast, e2, f1, f2, u32_or_nat _ _ g1 g2]
  unfold rotI rot
  have e3 : (n % ((32 : Nat) : Int)).toNat = q := by
    show (n % 32).toNat = q
    rw [← hR]; exact Int.toNat_natCast _
  rw [e3, Nat.mod_eq_of_lt (show q < 32 by omega), Int.toNat_natCast]
theorem i64_mask32 (n : Int) : bits .and .i64 n 31 = n % 32 := by
  have hm : (BitVec.ofInt 64 31).toNat = 2 ^ 5 - 1 := by decide
  have key : (BitVec.ofInt 64 n &&& BitVec.ofInt 64 31).toNat = (n % ((2 ^ 64 : Nat) : Int)).toNat % 2 ^ 5 := by
    rw [BitVec.toNat_and, BitVec.toNat_ofInt, hm, Nat.and_two_pow_sub_one_eq_mod]
  show IntKind.i64.wrap ((BitVec.ofInt 64 n &&& BitVec.ofInt 64 31).toNat : Nat) = n % 32
  rw [key, IntKind.wrap_i64]
  omega
theorem turn32 (x n : Int) (wx : (Lit.int .u32 x).wf = true) (wn : (Lit.int .i64 n).wf = true) (w : World) : Calls Try.prog 49 #[.int .u32 x, .int .i64 n] w fun e w' => e = .returned (.int .u32 (rotI 32 x n)) ∧ ∃ j, w' = w.drewN j := by
  obtain ⟨hx0, hx1⟩ := wf_u32 wx
  have hx2 : x < 4294967296 := hx1
  clear wx wn
  have r0 := Int.emod_nonneg n (show (32 : Int) ≠ 0 by omega)
  have r1 := Int.emod_lt_of_pos n (show (0 : Int) < 32 by omega)
  have hmask := i64_mask32 n
  have E : Hid (bits .or .u32 (x * 2 ^ (n % 32).toNat % 4294967296) (x / 2 ^ (32 - n % 32).toNat) = rotI 32 x n) := Lib.hid (rot32_eq x n _ hx0 hx1 rfl)
  go_enter Try.func49, Try.ntmps49
  go_wp2_with (go_at_call 62; refine (bits32 _).mono ?_; rintro e w' ⟨rfl, rfl⟩)
  go_quiet (fail)
  go_wp2
  go_ret
  exact ⟨ret_int E.out, _, rfl⟩

/-- The last n bytes of x, the greatest first. -/
def be (n : Nat) (x : Int) : List Int := (List.range n).map fun i => x / 2 ^ (8 * (n - 1 - i)) % 256
theorem length_be (n : Nat) (x : Int) : (be n x).length = n := by simp [be]
theorem be_take_succ (n : Nat) (x : Int) (i : Nat) (h : i < n) : (be n x).take (i + 1) = (be n x).take i ++ [x / 2 ^ (8 * (n - 1 - i)) % 256] := by
  have hl : i < (be n x).length := by rw [length_be]; exact h
  rw [List.take_succ_eq_append_getElem hl]
  congr 2
  simp [be]
theorem size32 (w : World) : Calls Try.prog 63 #[] w fun e w' => e = .returned (.int .i64 4) ∧ w = w' := by
  go_enter Try.func63, Try.ntmps63
  go_wp2_with (go_at_call 62; refine (bits32 _).mono ?_; rintro e w' ⟨rfl, rfl⟩)
  go_ret
  exact ⟨by kernel_rfl, rfl⟩

theorem put32 (a : Option Addr) (L cap : Nat) (l : List Int) (w : World) (hl : l.length = L) (hb : Bs w w.heap.size a l) (hL : L ≤ 140737488355328) (x : Int) (wx : (Lit.int .u32 x).wf = true) :
    Calls Try.prog 53 #[.slice a L cap, .int .u32 x] w fun e w' => ∃ g, e = .returned (.slice (some ⟨g, 0, none⟩) (L + 4) (L + 4)) ∧
      w'.ownsRow w.heap.size 5 1 (.slice (some ⟨g, 0, none⟩) (L + 4) (L + 4)) (L + 4) ((l ++ be 4 x).map (Value.int .u8)) ∧ Below w.heap.size w w' := by
  obtain ⟨hx0, hx1⟩ := wf_u32 wx
  clear wx
  have hx2 : x < 18446744073709551616 := by omega
  have hmk : ∀ W : World, (Instr.makeSlice 22 (.int .i64 (L : Int)) (.int .i64 ((L : Int) + 4))).run Try.prog W = .ok (.slice (some ⟨W.heap.size, 0, none⟩) L (L + 4)) (W.alloc (.cells (madeCells #[.int .u8 0] (L + 4)) 5)) := by
    intro W
    obtain ⟨i, hi, hz0, hz1, hz2⟩ := info_parts info5
    have := run_make (P := Try.prog) W 22 5 i _ Try.underlying22 hi hz0 .i64 .i64 (L : Int) ((L : Int) + 4) (by omega) (by omega) (by rw [hz2]; omega) (by omega)
    rw [this, hz1]
    have e1 : ((L : Int) + 4).toNat = L + 4 := by omega
    rw [e1]; simp
    rfl
  go_enter Try.func53, Try.ntmps53
  have k1 : (w.alloc (.cells (madeCells #[.int .u8 0] (L + 4)) 5)).heap[w.heap.size]? = some (.cells (madeCells #[.int .u8 0] (L + 4)).toList.toArray 5 (0, 0)) := by rw [Array.toArray_toList]; exact heap_alloc_new w _
  have k2 : (l.map (Value.int .u8)).length = Nat.min L L := by simp [hl]
  have k3 : 0 < (l.map (Value.int .u8)).length → ∃ ad, a = some ad ∧ ∀ j v, (l.map (Value.int .u8))[j]? = some v → (w.alloc (.cells (madeCells #[.int .u8 0] (L + 4)) 5)).cell? (ad.add j) = some v :=
    fun h0 => (hb.below ((Below.refl _ _).alloc (Nat.le_refl _) _)).cells h0
  have k4 : 0 + (l.map (Value.int .u8)).length ≤ (madeCells #[.int .u8 0] (L + 4)).toList.length := by simp [hl, size_madeCells]
  have k5 : Below w.heap.size w (w.alloc (.cells (madeCells #[.int .u8 0] (L + 4)) 5)) := (Below.refl _ _).alloc (Nat.le_refl _) _
  have K1 := Lib.hid k1; have K2 := Lib.hid k2; have K3 := Lib.hid k3
  clear k1 k2 k3
  go_wp2_with (first
    | (go_at_call 63; refine (size32 _).mono ?_; rintro e w' ⟨rfl, rfl⟩)
    | ((with_reducible show wpList _ _ _ (⟨some 19, _, _, _, _, _⟩ :: _) _ _); refine wpList_copy_splice (o := ⟨some 19, _, _, _, _, _⟩) rfl (.tmp 17) (.tmp 18) 22 22 rfl 5 Try.underlying22 size_u8 (some ⟨w.heap.size, 0, none⟩) a L (L + 4) L cap rfl rfl w.heap.size 0 (madeCells #[.int .u8 0] (L + 4)).toList 5 K1.out (l.map (Value.int .u8)) K2.out (fun h0 => ⟨rfl, K3.out h0⟩) k4 (ints_oneCell _ _) w.heap.size w k5 (Nat.le_refl _) ?_; intro w1 hg1 hb1))
  have own1 : w1.ownsRow w.heap.size 5 1 (.slice (some ⟨w.heap.size, 0, none⟩) L (L + 4)) L (l.map (Value.int .u8)) := by
    refine ⟨by simp [hl], .inr ⟨w.heap.size, L + 4, _, rfl, Nat.le_refl _, hg1.out, by omega, by unfold maxLen; omega, ?_, ?_⟩⟩
    · simp [splice_all, hl, size_madeCells]
    · simp [splice_all, hl]
  have hsz1 : w.heap.size < w1.heap.size := (own1.lt w.heap.size rfl).2
  clear hg1 K1 K2 K3 k4 k5
  go_loopw [6, 23] (fun out i wr => ∃ k : Nat, k ≤ 4 ∧ i = .int .i64 k ∧ out = .slice (some ⟨w.heap.size, 0, none⟩) (L + k) (L + 4) ∧
      wr.ownsRow w.heap.size 5 1 (.slice (some ⟨w.heap.size, 0, none⟩) (L + k) (L + 4)) (L + k) ((l ++ (be 4 x).take k).map (Value.int .u8)) ∧ Below w.heap.size w wr ∧ w.heap.size < wr.heap.size)
    (fun _ i _ => 4 - (intOf i).toNat)
  case atStart => exact ⟨0, by omega, rfl, rfl, by simpa using own1, hb1, hsz1⟩
  case round =>
    obtain ⟨k, hk, rfl, rfl, hown, hbel, hsz⟩ := hrel
    by_cases hlt : k < 4
    · have hap := (hown.alloc (.cells #[.int .u8 (x / 2 ^ (8 * (3 - k)) % 256)] 5))
      have hn1 : ∀ j u, [Value.int .u8 (x / 2 ^ (8 * (3 - k)) % 256)][j]? = some u → (wr.alloc (.cells #[.int .u8 (x / 2 ^ (8 * (3 - k)) % 256)] 5)).cell? ((⟨wr.heap.size, 0, none⟩ : Addr).add j) = some u := by
        intro j u hj
        match j, hj with
        | 0, hj => simp at hj; subst hj; simp [Addr.add]
      have hn2 : ∀ u ∈ [Value.int .u8 (x / 2 ^ (8 * (3 - k)) % 256)], u.oneCell' = true := by intro u hu; simp at hu; subst hu; rfl
      have hbt := be_take_succ 4 x k hlt
      have HAP := Lib.hid hap; have HN1 := Lib.hid hn1; have HN2 := Lib.hid hn2; have HBT := Lib.hid hbt
      clear hap hn1 hn2 hbt
      obtain ⟨i5, hi, hz0, hz1, hz2⟩ := info_parts info5
      have HI := Lib.hid hi
      have HZ := Lib.hid hz1
      clear hi hz0 hz1 hz2
      go_wp2_with (((with_reducible show wpList _ _ _ (⟨some 36, _, _, _, _, _⟩ :: _) _ _); go_loud (refine wpList_append_fits _ rfl (.tmp 26) (.tmp 35) 22 rfl w.heap.size 5 i5 1 Try.underlying22 HI.out HZ.out w.heap.size (L + k) (L + 4) _ rfl HAP.out ⟨wr.heap.size, 0, none⟩ 1 1 [.int .u8 (x / 2 ^ (8 * (3 - k)) % 256)] rfl rfl HN1.out HN2.out (by omega) ?_); intro w2 hown2 hg2))
      go_roundw
      case rel =>
        refine ⟨k + 1, by omega, by go_num, rfl, ?_, ?_, ?_⟩
        · rw [HBT.out, ← List.append_assoc, List.map_append]
          exact hown2
        · exact (hbel.alloc (by omega) _).grown hg2 (by simp <;> omega) (fun g hg => by injection hg with hg; omega)
        · have := hg2.size; simp at this; omega
      case measure => simp [intOf] <;> omega
    · have : k = 4 := by omega
      subst this
      go_wp2
      go_ret
      refine ⟨_, rfl, ?_, hbel⟩
      have e : (be 4 x).take 4 = be 4 x := List.take_of_length_le (by rw [length_be]; exact Nat.le_refl _)
      rw [e] at hown
      exact hown
/-- The number that bytes write, the greatest first. -/
def numB (l : List Int) : Int := l.foldl (fun s x => s * 256 + x) 0
theorem numB_snoc (l : List Int) (x : Int) : numB (l ++ [x]) = numB l * 256 + x := by simp [numB]
theorem numB_bound {l : List Int} (h : AllB l) : 0 ≤ numB l ∧ numB l < 256 ^ l.length := by
  obtain ⟨n, hn⟩ : ∃ n, n = l.length := ⟨_, rfl⟩
  induction n generalizing l with
  | zero => obtain rfl : l = [] := List.eq_nil_of_length_eq_zero hn.symm; simp [numB]
  | succ n ih =>
    obtain ⟨m, x, rfl⟩ : ∃ m x, l = m ++ [x] := by
      rcases List.eq_nil_or_concat l with rfl | ⟨m, x, e⟩
      · simp at hn
      · exact ⟨m, x, by simpa using e⟩
    have hm : n = m.length := by simp at hn; omega
    have hi := ih (l := m) (fun y hy => h y (List.mem_append_left _ hy)) hm
    have hx := h x (by simp)
    rw [numB_snoc, List.length_append, List.length_singleton, Int.pow_succ]
    generalize (256 : Int) ^ m.length = P at *
    omega
theorem take_snoc_getD {l : List Int} {k : Nat} (h : k < l.length) : l.take (k + 1) = l.take k ++ [l.getD k 0] := by
  rw [List.take_succ_eq_append_getElem h]
  simp [List.getD_eq_getElem?_getD, List.getElem?_eq_getElem h]
theorem numB_take_succ {l : List Int} {k : Nat} (h : k < l.length) : numB (l.take (k + 1)) = numB (l.take k) * 256 + l.getD k 0 := by
  rw [take_snoc_getD h, numB_snoc]
/-- What Get tells. -/
def getV (n : Nat) (l : List Int) : Int := if l.length < n then 0 else numB (l.take n)
theorem getV_few {n : Nat} {l : List Int} (h : l.length < n) : getV n l = 0 := by simp [getV, h]
theorem getV_num {n : Nat} {l : List Int} (h : n ≤ l.length) : getV n l = numB (l.take n) := by simp [getV, Nat.not_lt.2 h]
theorem or_byte {S X : Int} (h0 : 0 ≤ S) (h1 : S < 72057594037927936) (hx : 0 ≤ X ∧ X < 256) : bits .or .u64 (S * 256) X = S * 256 + X := by
  obtain ⟨s, rfl⟩ := Int.eq_ofNat_of_zero_le h0
  obtain ⟨x, rfl⟩ := Int.eq_ofNat_of_zero_le hx.1
  rw [show ((s : Int) * 256) = ((s * 256 : Nat) : Int) by simp, u64_or_nat _ _ (by omega) (by omega), nat_join 8 _ _ (by omega) (by omega)]
  simp
theorem ret_tup {k : IntKind} {a b : Int} {c d : Bool} (h : a = b) (g : c = d) : Ending.returned (.tuple #[.int k a, .bool c]) = .returned (.tuple #[.int k b, .bool d]) := by rw [h, g]
theorem pow_le_56 {k n : Nat} (h : k < n) (hn : n ≤ 8) : (256 : Int) ^ k ≤ 72057594037927936 := by
  have h1 : (256 : Nat) ^ k ≤ 72057594037927936 := Nat.le_trans (Nat.pow_le_pow_right (by omega) (show k ≤ 7 by omega)) (by decide)
  have h2 : ((256 ^ k : Nat) : Int) ≤ ((72057594037927936 : Nat) : Int) := Int.ofNat_le.2 h1
  rw [Int.natCast_pow] at h2
  exact h2

theorem get32 (a : Option Addr) (L c : Nat) (l : List Int) (w : World) (hl : l.length = L) (hB : AllB l) (hb : Bs w w.heap.size a l) (hL : L ≤ 9223372036854775807) :
    Calls Try.prog 61 #[.slice a L c] w fun e w' => e = .returned (.tuple #[.int .u32 (getV 4 l), .bool (decide (4 ≤ L))]) ∧ w = w' := by
  by_cases hs : L < 4
  · have HV := Lib.hid (getV_few (n := 4) (l := l) (by omega))
    have HD := Lib.hid (decide_eq_false (show ¬ 4 ≤ L by omega))
    go_enter Try.func61, Try.ntmps61
    go_wp2_with (go_at_call 63; refine (size32 _).mono ?_; rintro e w' ⟨rfl, rfl⟩)
    go_ret2
    exact ⟨ret_tup HV.out.symm HD.out.symm, rfl⟩
  · have HV := Lib.hid (getV_num (n := 4) (l := l) (by omega))
    have HD := Lib.hid (decide_eq_true (show 4 ≤ L by omega))
    have hs' : (4 : Int) ≤ (L : Int) := by omega
    go_enter Try.func61, Try.ntmps61
    go_wp2_with (go_at_call 63; refine (size32 _).mono ?_; rintro e w' ⟨rfl, rfl⟩)
    go_loop [5, 13] (fun v i => ∃ j : Nat, j ≤ 4 ∧ i = .int .i64 j ∧ v = .int .u64 (numB (l.take j))) (fun _ i => 4 - (intOf i).toNat)
    case atStart => exact ⟨0, by omega, rfl, rfl⟩
    case round =>
      obtain ⟨j, hj, rfl, rfl⟩ := hrel
      obtain ⟨S, hS⟩ : ∃ S, S = numB (l.take j) := ⟨_, rfl⟩
      have hbd := numB_bound (hB.take j)
      rw [List.length_take, Nat.min_eq_left (by omega), ← hS] at hbd
      rw [← hS]
      by_cases hlt : j < 4
      · have hp := pow_le_56 hlt (by omega)
        obtain ⟨b, off, rfl, _, hc⟩ := hb.at_ (k := j) (by omega)
        have hxb := allB_getD hB j
        have HN := Lib.hid (numB_take_succ (l := l) (k := j) (by omega))
        obtain ⟨X, hX⟩ : ∃ X, X = l.getD j 0 := ⟨_, rfl⟩
        rw [← hX] at hc hxb
        have HX := Lib.hid hX
        have HS := Lib.hid hS
        have s0 : 0 ≤ S := hbd.1
        have s1 : S < 72057594037927936 := by omega
        have hor := or_byte s0 s1 hxb
        clear hX hS hbd hp
        go_wp2
        go_round
        case rel => exact ⟨j + 1, by omega, by go_num, by rw [HN.out, ← HS.out, ← HX.out]⟩
        case measure => simp [intOf] <;> omega
      · obtain rfl : 4 = j := by omega
        have s0 : 0 ≤ S := hbd.1
        have s1 : S < 4294967296 := hbd.2
        have HS := Lib.hid hS
        clear hS hbd
        go_wp2
        go_ret2
        exact ⟨ret_tup (HS.out.trans HV.out.symm) HD.out.symm, rfl⟩

end Go.Proofs.Ytpfhfnhbholboaa
