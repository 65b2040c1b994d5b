/- Contracts for package hash: words turned down, turns; Get of four bytes. -/
import Derived.Test.YtmcoakjbfgfgpaaDoorJm
import Derived.Deep.QuietTactic
import Derived.BigQuiet
namespace Go.Proofs.YtmcoakjbfgfgpaaDoor
open Go.ChangeShapes Go.WideShapes Go.ChangeAt Go.RowKit
set_option linter.unusedVariables false
set_option maxRecDepth 100000

theorem allB_getD {l : List Int} (h : AllB l) (k : Nat) : 0 ≤ l.getD k 0 ∧ l.getD k 0 < 256 := allB_g h k
/-- The number that bytes write, the greatest first. -/
def numB (l : List Int) : Int := l.foldl (fun s x => s * 256 + x) 0
theorem numB_snoc (l : List Int) (x : Int) : numB (l ++ [x]) = numB l * 256 + x := by simp [numB]
theorem numB_bound {l : List Int} (h : AllB l) : 0 ≤ numB l ∧ numB l < 256 ^ l.length := by
  obtain ⟨n, hn⟩ : ∃ n, n = l.length := ⟨_, rfl⟩
  induction n generalizing l with
  | zero => obtain rfl : l = [] := List.eq_nil_of_length_eq_zero hn.symm; simp [numB]
  | succ n ih =>
    obtain ⟨m, x, rfl⟩ : ∃ m x, l = m ++ [x] := by
      rcases List.eq_nil_or_concat l with rfl | ⟨m, x, e⟩
      · simp at hn
      · exact ⟨m, x, by simpa using e⟩
    have hm : n = m.length := by simp at hn; omega
    have hi := ih (l := m) (fun y hy => h y (List.mem_append_left _ hy)) hm
    have hx := h x (by simp)
    rw [numB_snoc, List.length_append, List.length_singleton, Int.pow_succ]
    generalize (256 : Int) ^ m.length = P at *
    omega
theorem take_snoc_getD {l : List Int} {k : Nat} (h : k < l.length) : l.take (k + 1) = l.take k ++ [l.getD k 0] := by
  rw [List.take_succ_eq_append_getElem h]
  simp [List.getD_eq_getElem?_getD, List.getElem?_eq_getElem h]
theorem numB_take_succ {l : List Int} {k : Nat} (h : k < l.length) : numB (l.take (k + 1)) = numB (l.take k) * 256 + l.getD k 0 := by
  rw [take_snoc_getD h, numB_snoc]
/-- What Get tells. -/
def getV (n : Nat) (l : List Int) : Int := if l.length < n then 0 else numB (l.take n)
theorem getV_few {n : Nat} {l : List Int} (h : l.length < n) : getV n l = 0 := by simp [getV, h]
theorem getV_num {n : Nat} {l : List Int} (h : n ≤ l.length) : getV n l = numB (l.take n) := by simp [getV, Nat.not_lt.2 h]
theorem or_byte {S X : Int} (h0 : 0 ≤ S) (h1 : S < 72057594037927936) (hx : 0 ≤ X ∧ X < 256) : bits .or .u64 (S * 256) X = S * 256 + X := by
  obtain ⟨s, rfl⟩ := Int.eq_ofNat_of_zero_le h0
  obtain ⟨x, rfl⟩ := Int.eq_ofNat_of_zero_le hx.1
  rw [show ((s : Int) * 256) = ((s * 256 : Nat) : Int) by simp, u64_or_nat _ _ (by omega) (by omega), nat_join 8 _ _ (by omega) (by omega)]
  simp
theorem ret_tup {k : IntKind} {a b : Int} {c d : Bool} (h : a = b) (g : c = d) : Ending.returned (.tuple #[.int k a, .bool c]) = .returned (.tuple #[.int k b, .bool d]) := by rw [h, g]
theorem pow_le_56 {k n : Nat} (h : k < n) (hn : n ≤ 8) : (256 : Int) ^ k ≤ 72057594037927936 := by
  have h1 : (256 : Nat) ^ k ≤ 72057594037927936 := Nat.le_trans (Nat.pow_le_pow_right (by omega) (show k ≤ 7 by omega)) (by decide)
  have h2 : ((256 ^ k : Nat) : Int) ≤ ((72057594037927936 : Nat) : Int) := Int.ofNat_le.2 h1
  rw [Int.natCast_pow] at h2
  exact h2

theorem get32 (a : Option Addr) (L c : Nat) (l : List Int) (w : World) (hl : l.length = L) (hB : AllB l) (hb : Bs w w.heap.size a l) (hL : L ≤ 9223372036854775807) :
    Calls Tryd.prog 23 #[.slice a L c] w fun e w' => e = .returned (.tuple #[.int .u32 (getV 4 l), .bool (decide (4 ≤ L))]) ∧ w = w' := by
  by_cases hs : L < 4
  · have HV := Lib.hid (getV_few (n := 4) (l := l) (by omega))
    have HD := Lib.hid (decide_eq_false (show ¬ 4 ≤ L by omega))
    go_enter Tryd.func23, Tryd.ntmps23
    go_wp2_with (go_at_call 21; refine (size32 _).mono ?_; rintro e w' ⟨rfl, rfl⟩)
    go_ret2
    exact ⟨ret_tup HV.out.symm HD.out.symm, rfl⟩
  · have HV := Lib.hid (getV_num (n := 4) (l := l) (by omega))
    have HD := Lib.hid (decide_eq_true (show 4 ≤ L by omega))
    have hs' : (4 : Int) ≤ (L : Int) := by omega
    go_enter Tryd.func23, Tryd.ntmps23
    go_wp2_with (go_at_call 21; refine (size32 _).mono ?_; rintro e w' ⟨rfl, rfl⟩)
    go_loop [5, 13] (fun v i => ∃ j : Nat, j ≤ 4 ∧ i = .int .i64 j ∧ v = .int .u64 (numB (l.take j))) (fun _ i => 4 - (intOf i).toNat)
    case atStart => exact ⟨0, by omega, rfl, rfl⟩
    case round =>
      obtain ⟨j, hj, rfl, rfl⟩ := hrel
      obtain ⟨S, hS⟩ : ∃ S, S = numB (l.take j) := ⟨_, rfl⟩
      have hbd := numB_bound (hB.take j)
      rw [List.length_take, Nat.min_eq_left (by omega), ← hS] at hbd
      rw [← hS]
      by_cases hlt : j < 4
      · have hp := pow_le_56 hlt (by omega)
        obtain ⟨b, off, rfl, _, hc⟩ := hb.at_ (k := j) (by omega)
        have hxb := allB_getD hB j
        have HN := Lib.hid (numB_take_succ (l := l) (k := j) (by omega))
        obtain ⟨X, hX⟩ : ∃ X, X = l.getD j 0 := ⟨_, rfl⟩
        rw [← hX] at hc hxb
        have HX := Lib.hid hX
        have HS := Lib.hid hS
        have s0 : 0 ≤ S := hbd.1
        have s1 : S < 72057594037927936 := by omega
        have hor := or_byte s0 s1 hxb
        clear hX hS hbd hp
        go_wp2
        go_round
        case rel => exact ⟨j + 1, by omega, by go_num, by rw [HN.out, ← HS.out, ← HX.out]⟩
        case measure => simp [intOf] <;> omega
      · obtain rfl : 4 = j := by omega
        have s0 : 0 ≤ S := hbd.1
        have s1 : S < 4294967296 := hbd.2
        have HS := Lib.hid hS
        clear hS hbd
        go_wp2
        go_ret2
        exact ⟨ret_tup (HS.out.trans HV.out.symm) HD.out.symm, rfl⟩


theorem getV4 {l : List Int} (h : AllB l) (hl : 4 ≤ l.length) : getV 4 l = ((gw l 0 : Nat) : Int) := by
  rw [getV_num hl, ← numB4 h hl]
  match l, hl with
  | a :: b :: c :: d :: r, _ => rfl
theorem get_word (a : Option Addr) (L c : Nat) (l : List Int) (w : World) (hl : l.length = L) (hB : AllB l) (hb : Bs w w.heap.size a l) (h4 : 4 ≤ L) (hL : L ≤ 64) :
    Calls Tryd.prog 23 #[.slice a L c] w fun e w' => e = .returned (.tuple #[.int .u32 ((gw l 0 : Nat) : Int), .bool true]) ∧ w = w' := by
  refine (get32 a L c l w hl hB hb (by omega)).mono fun e w' ⟨h1, h2⟩ => ⟨?_, h2⟩
  rw [h1]
  exact ret_tup (getV4 hB (by omega)) (decide_eq_true h4)
theorem turn_neg (x n : Nat) (m : Int) (hm : m = -(n : Int)) (h1 : 1 ≤ n) (h31 : n ≤ 31) (hx : x < 4294967296) (w : World) :
    Calls Tryd.prog 24 #[.int .u32 (x : Nat), .int .i64 m] w fun e w' => e = .returned (.int .u32 ((rr n x : Nat) : Int)) ∧ ∃ j, w' = w.drewN j := by
  refine (turn32 (x : Nat) m (mk_u32 (by omega) (by omega)) (mk_i64 (by omega) (by omega)) w).mono fun e w' ⟨e1, e2⟩ => ⟨?_, e2⟩
  rw [e1]
  exact ret_int (rotI_neg h1 h31 hm)
set_option maxHeartbeats 1000000 in
theorem turns_e (x : Nat) (hx : x < 4294967296) (w : World) :
    Calls Tryd.prog 19 #[.int .u32 (x : Nat), .int .i64 6, .int .i64 11, .int .i64 25] w fun e w' => e = .returned (.int .u32 ((Sg1 x : Nat) : Int)) ∧ ∃ j, w' = w.drewN j := by
  obtain ⟨p1, f1⟩ : ∃ p, p = rr 6 x := ⟨_, rfl⟩
  obtain ⟨p2, f2⟩ : ∃ p, p = rr 11 x := ⟨_, rfl⟩
  obtain ⟨p3, f3⟩ : ∃ p, p = rr 25 x := ⟨_, rfl⟩
  have lp1 : p1 < 4294967296 := by rw [f1]; exact rr_lt hx _
  have lp2 : p2 < 4294967296 := by rw [f2]; exact rr_lt hx _
  have lp3 : p3 < 4294967296 := by rw [f3]; exact rr_lt hx _
  have H1 := Lib.hid (show ∀ W : World, Calls Tryd.prog 24 #[.int .u32 (x : Nat), .int .i64 (-6)] W fun e w' => e = .returned (.int .u32 ((p1 : Nat) : Int)) ∧ ∃ j, w' = W.drewN j from fun W => by rw [f1]; exact turn_neg x 6 (-6) (by decide) (by omega) (by omega) hx W)
  have H2 := Lib.hid (show ∀ W : World, Calls Tryd.prog 24 #[.int .u32 (x : Nat), .int .i64 (-11)] W fun e w' => e = .returned (.int .u32 ((p2 : Nat) : Int)) ∧ ∃ j, w' = W.drewN j from fun W => by rw [f2]; exact turn_neg x 11 (-11) (by decide) (by omega) (by omega) hx W)
  have H3 := Lib.hid (show ∀ W : World, Calls Tryd.prog 24 #[.int .u32 (x : Nat), .int .i64 (-25)] W fun e w' => e = .returned (.int .u32 ((p3 : Nat) : Int)) ∧ ∃ j, w' = W.drewN j from fun W => by rw [f3]; exact turn_neg x 25 (-25) (by decide) (by omega) (by omega) hx W)
  have r1 : bits .xor .u32 (p1 : Int) (p2 : Int) = ((p1 ^^^ p2 : Nat) : Int) := u32_xor_nat _ _ lp1 lp2
  have r2 : bits .xor .u32 ((p1 ^^^ p2 : Nat) : Int) (p3 : Int) = ((p1 ^^^ p2 ^^^ p3 : Nat) : Int) := u32_xor_nat _ _ (xor32 lp1 lp2) lp3
  obtain ⟨q, hq⟩ : ∃ q, q = p1 ^^^ p2 := ⟨_, rfl⟩
  rw [← hq] at r1 r2
  obtain ⟨z, hz⟩ : ∃ z, z = q ^^^ p3 := ⟨_, rfl⟩
  rw [← hz] at r2
  have HZ := Lib.hid (show (z : Int) = ((Sg1 x : Nat) : Int) by rw [hz, hq, f1, f2, f3]; rfl)
  clear f1 f2 f3 hq hz lp1 lp2 lp3
  go_enter Tryd.func19, Tryd.ntmps19
  go_wp2_with (first
    | (go_at_call 24; (with_reducible refine (H1.out _).mono ?_); rintro e w' ⟨rfl, n1, rfl⟩)
    | (go_at_call 24; (with_reducible refine (H2.out _).mono ?_); rintro e w' ⟨rfl, n2, rfl⟩)
    | (go_at_call 24; (with_reducible refine (H3.out _).mono ?_); rintro e w' ⟨rfl, n3, rfl⟩))
  go_ret
  exact ⟨ret_int HZ.out, _, rfl⟩
set_option maxHeartbeats 1000000 in
theorem turns_a (x : Nat) (hx : x < 4294967296) (w : World) :
    Calls Tryd.prog 19 #[.int .u32 (x : Nat), .int .i64 2, .int .i64 13, .int .i64 22] w fun e w' => e = .returned (.int .u32 ((Sg0 x : Nat) : Int)) ∧ ∃ j, w' = w.drewN j := by
  obtain ⟨p1, f1⟩ : ∃ p, p = rr 2 x := ⟨_, rfl⟩
  obtain ⟨p2, f2⟩ : ∃ p, p = rr 13 x := ⟨_, rfl⟩
  obtain ⟨p3, f3⟩ : ∃ p, p = rr 22 x := ⟨_, rfl⟩
  have lp1 : p1 < 4294967296 := by rw [f1]; exact rr_lt hx _
  have lp2 : p2 < 4294967296 := by rw [f2]; exact rr_lt hx _
  have lp3 : p3 < 4294967296 := by rw [f3]; exact rr_lt hx _
  have H1 := Lib.hid (show ∀ W : World, Calls Tryd.prog 24 #[.int .u32 (x : Nat), .int .i64 (-2)] W fun e w' => e = .returned (.int .u32 ((p1 : Nat) : Int)) ∧ ∃ j, w' = W.drewN j from fun W => by rw [f1]; exact turn_neg x 2 (-2) (by decide) (by omega) (by omega) hx W)
  have H2 := Lib.hid (show ∀ W : World, Calls Tryd.prog 24 #[.int .u32 (x : Nat), .int .i64 (-13)] W fun e w' => e = .returned (.int .u32 ((p2 : Nat) : Int)) ∧ ∃ j, w' = W.drewN j from fun W => by rw [f2]; exact turn_neg x 13 (-13) (by decide) (by omega) (by omega) hx W)
  have H3 := Lib.hid (show ∀ W : World, Calls Tryd.prog 24 #[.int .u32 (x : Nat), .int .i64 (-22)] W fun e w' => e = .returned (.int .u32 ((p3 : Nat) : Int)) ∧ ∃ j, w' = W.drewN j from fun W => by rw [f3]; exact turn_neg x 22 (-22) (by decide) (by omega) (by omega) hx W)
  have r1 : bits .xor .u32 (p1 : Int) (p2 : Int) = ((p1 ^^^ p2 : Nat) : Int) := u32_xor_nat _ _ lp1 lp2
  have r2 : bits .xor .u32 ((p1 ^^^ p2 : Nat) : Int) (p3 : Int) = ((p1 ^^^ p2 ^^^ p3 : Nat) : Int) := u32_xor_nat _ _ (xor32 lp1 lp2) lp3
  obtain ⟨q, hq⟩ : ∃ q, q = p1 ^^^ p2 := ⟨_, rfl⟩
  rw [← hq] at r1 r2
  obtain ⟨z, hz⟩ : ∃ z, z = q ^^^ p3 := ⟨_, rfl⟩
  rw [← hz] at r2
  have HZ := Lib.hid (show (z : Int) = ((Sg0 x : Nat) : Int) by rw [hz, hq, f1, f2, f3]; rfl)
  clear f1 f2 f3 hq hz lp1 lp2 lp3
  go_enter Tryd.func19, Tryd.ntmps19
  go_wp2_with (first
    | (go_at_call 24; (with_reducible refine (H1.out _).mono ?_); rintro e w' ⟨rfl, n1, rfl⟩)
    | (go_at_call 24; (with_reducible refine (H2.out _).mono ?_); rintro e w' ⟨rfl, n2, rfl⟩)
    | (go_at_call 24; (with_reducible refine (H3.out _).mono ?_); rintro e w' ⟨rfl, n3, rfl⟩))
  go_ret
  exact ⟨ret_int HZ.out, _, rfl⟩
theorem arr64 : Tryd.prog.underlying 32 = some (.array (Tryd.prog.arrayLen 32) (Tryd.prog.elem 32)) := by kernel_rfl
theorem len64 : Tryd.prog.arrayLen 32 = 64 := by kernel_rfl
theorem size64u (W : World) : (sizeOf (Tryd.prog.elem 32)).run Tryd.prog W = .ok 1 W := by kernel_rfl
theorem slice64 (W : World) (g o k : Nat) (kk : IntKind) (z : Int) (hz : z = (k : Int)) (hk : k < 64) :
    (Instr.sliceAt 32 (.pointer (some ⟨g, o, none⟩)) (some (.int kk z)) none none).run Tryd.prog W = .ok (.slice (some ⟨g, o + k, none⟩) (64 - k) (64 - k)) W := by
  rw [run_sliceAt_array_l W 32 ⟨g, o, none⟩ arr64 kk z (by omega) (by rw [len64]; omega), size64u, len64]
  have e : z.toNat = k := by omega
  show Result.ok (slicedAt _ _ _ _ _) W = _
  unfold slicedAt
  rw [e, if_neg (by omega), Nat.mul_one]
  simp [Addr.add]
end Go.Proofs.YtmcoakjbfgfgpaaDoor
