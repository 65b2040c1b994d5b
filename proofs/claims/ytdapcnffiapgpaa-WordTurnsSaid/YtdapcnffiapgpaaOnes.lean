/- Contracts: math/bits.OnesCount64 is the sum of the bits; Count at four widths. -/
import Derived.Test.YtdapcnffiapgpaaBits
import Derived.Test.YtdapcnffiapgpaaSwar
import Derived.Laws.Bits128
namespace Go.Proofs.Ytdapcnffiapgpaa
open Go.ChangeShapes Go.WideShapes Go.ChangeAt Go.RowKit
set_option linter.unusedVariables false

theorem cast_and64 (a m : Nat) (ha : a < 2 ^ 64) (hm : m < 2 ^ 64) : bits .and .u64 (a : Int) (m : Int) = ((a &&& m : Nat) : Int) := u64_and_nat a m ha hm
theorem wrap_u64_nat (a : Nat) (ha : a < 2 ^ 64) : IntKind.u64.wrap (a : Int) = (a : Int) := by rw [IntKind.wrap_u64]; omega
theorem and_m1 (a : Nat) (ha : a < 2 ^ 64) : bits .and .u64 (a : Int) 6148914691236517205 = ((a &&& 6148914691236517205 : Nat) : Int) := cast_and64 a 6148914691236517205 ha (by decide)
theorem and_m2 (a : Nat) (ha : a < 2 ^ 64) : bits .and .u64 (a : Int) 3689348814741910323 = ((a &&& 3689348814741910323 : Nat) : Int) := cast_and64 a 3689348814741910323 ha (by decide)
theorem and_m4 (a : Nat) (ha : a < 2 ^ 64) : bits .and .u64 (a : Int) 1085102592571150095 = ((a &&& 1085102592571150095 : Nat) : Int) := cast_and64 a 1085102592571150095 ha (by decide)
theorem step1 (X a : Nat) (y : Int) (hX : X < 2 ^ 64) (ea : a = (X / 2 &&& 6148914691236517205) + (X &&& 6148914691236517205)) (l1 : a < 2 ^ 64)
    (h1 : IntKind.u64.wrap (bits .and .u64 ((X : Int) / 2) 6148914691236517205 + bits .and .u64 (X : Int) 6148914691236517205) = y) : y = (a : Int) := by
  rw [← h1, show ((X : Int) / 2) = ((X / 2 : Nat) : Int) by simp, and_m1 _ (Nat.lt_of_le_of_lt (Nat.div_le_self X 2) hX), and_m1 _ hX, ← Int.natCast_add, ← ea]
  exact wrap_u64_nat a l1
theorem step2 (X a : Nat) (y : Int) (hX : X < 2 ^ 64) (ea : a = (X / 4 &&& 3689348814741910323) + (X &&& 3689348814741910323)) (l1 : a < 2 ^ 64)
    (h1 : IntKind.u64.wrap (bits .and .u64 ((X : Int) / 4) 3689348814741910323 + bits .and .u64 (X : Int) 3689348814741910323) = y) : y = (a : Int) := by
  rw [← h1, show ((X : Int) / 4) = ((X / 4 : Nat) : Int) by simp, and_m2 _ (Nat.lt_of_le_of_lt (Nat.div_le_self X 4) hX), and_m2 _ hX, ← Int.natCast_add, ← ea]
  exact wrap_u64_nat a l1
theorem step3 (X a : Nat) (y : Int) (hX : X / 16 + X < 2 ^ 64) (ea : a = (X / 16 + X) &&& 1085102592571150095)
    (h1 : bits .and .u64 (IntKind.u64.wrap ((X : Int) / 16 + X)) 1085102592571150095 = y) : y = (a : Int) := by
  rw [← h1, show ((X : Int) / 16 + X) = ((X / 16 + X : Nat) : Int) by simp, wrap_u64_nat _ hX, and_m4 _ hX, ← ea]
theorem step4 (X a k : Nat) (y : Int) (ea : a = X + X / k) (l : a < 2 ^ 64) (h1 : IntKind.u64.wrap ((X : Int) + (X : Int) / (k : Int)) = y) : y = (a : Int) := by
  rw [← h1, show ((X : Int) + (X : Int) / (k : Int)) = ((X + X / k : Nat) : Int) by simp, ← ea]
  exact wrap_u64_nat a l
theorem swarI {x y1 y2 y3 y4 y5 y6 : Int} (x0 : 0 ≤ x) (x1 : x < 2 ^ 64)
    (h1 : IntKind.u64.wrap (bits .and .u64 (x / 2) 6148914691236517205 + bits .and .u64 x 6148914691236517205) = y1)
    (h2 : IntKind.u64.wrap (bits .and .u64 (y1 / 4) 3689348814741910323 + bits .and .u64 y1 3689348814741910323) = y2)
    (h3 : bits .and .u64 (IntKind.u64.wrap (y2 / 16 + y2)) 1085102592571150095 = y3)
    (h4 : IntKind.u64.wrap (y3 + y3 / 256) = y4) (h5 : IntKind.u64.wrap (y4 + y4 / 65536) = y5) (h6 : IntKind.u64.wrap (y5 + y5 / 4294967296) = y6) :
    bits .and .i64 (wrap64 y6) 127 = ((pop 64 x.toNat : Nat) : Int) := by
  obtain ⟨X, rfl⟩ := Int.eq_ofNat_of_zero_le x0
  have hX : X < 2 ^ 64 := toNat_lt_pow x0 x1
  obtain ⟨a, ea⟩ : ∃ a, a = (X / 2 &&& 6148914691236517205) + (X &&& 6148914691236517205) := ⟨_, rfl⟩
  obtain ⟨b, eb⟩ : ∃ b, b = (a / 4 &&& 3689348814741910323) + (a &&& 3689348814741910323) := ⟨_, rfl⟩
  obtain ⟨c, ec⟩ : ∃ c, c = (b / 16 + b) &&& 1085102592571150095 := ⟨_, rfl⟩
  obtain ⟨d, ed⟩ : ∃ d, d = c + c / 256 := ⟨_, rfl⟩
  obtain ⟨e, ee⟩ : ∃ e, e = d + d / 65536 := ⟨_, rfl⟩
  obtain ⟨f, ef⟩ : ∃ f, f = e + e / 4294967296 := ⟨_, rfl⟩
  obtain ⟨l1, l2, l3, l4, l5, l6, l7, l8⟩ := swar ea eb ec ed ee ef
  have up : ∀ n : Nat, n < 2 ^ 63 → n < 2 ^ 64 := fun n h => Nat.lt_of_lt_of_le h (by decide)
  obtain rfl := step1 X a y1 hX ea l1 h1
  obtain rfl := step2 a b y2 l1 eb (up _ l2) h2
  obtain rfl := step3 b c y3 l3 ec h3
  obtain rfl := step4 c d 256 y4 ed (up _ l5) h4
  obtain rfl := step4 d e 65536 y5 ee (up _ l6) h5
  obtain rfl := step4 e f 4294967296 y6 ef (up _ l7) h6
  have hw : wrap64 (f : Int) = (f : Int) := by
    clear ea eb ec ed ee ef h1 h2 h3 h4 h5 h6 l8 x1
    unfold wrap64; omega
  rw [i64_and127, hw, Int.toNat_natCast, ← l8]
  simp

theorem ones64 (x : Int) (wx : (Lit.int .u64 x).wf = true) (w : World) : Calls Try.prog 54 #[.int .u64 x] w fun e w' => e = .returned (.int .i64 (pop 64 x.toNat : Nat)) ∧ w = w' := by
  obtain ⟨x0, x1⟩ := wf_u64 wx
  clear wx
  have x2 : x < 18446744073709551616 := x1
  obtain ⟨y1, h1⟩ : ∃ y, IntKind.u64.wrap (bits .and .u64 (x / 2) 6148914691236517205 + bits .and .u64 x 6148914691236517205) = y := ⟨_, rfl⟩
  obtain ⟨y2, h2⟩ : ∃ y, IntKind.u64.wrap (bits .and .u64 (y1 / 4) 3689348814741910323 + bits .and .u64 y1 3689348814741910323) = y := ⟨_, rfl⟩
  obtain ⟨y3, h3⟩ : ∃ y, bits .and .u64 (IntKind.u64.wrap (y2 / 16 + y2)) 1085102592571150095 = y := ⟨_, rfl⟩
  obtain ⟨y4, h4⟩ : ∃ y, IntKind.u64.wrap (y3 + y3 / 256) = y := ⟨_, rfl⟩
  obtain ⟨y5, h5⟩ : ∃ y, IntKind.u64.wrap (y4 + y4 / 65536) = y := ⟨_, rfl⟩
  obtain ⟨y6, h6⟩ : ∃ y, IntKind.u64.wrap (y5 + y5 / 4294967296) = y := ⟨_, rfl⟩
  have H := Lib.hid (swarI x0 x1 h1 h2 h3 h4 h5 h6)
  go_enter Try.func54, Try.ntmps54
  go_wp2
  go_ret
  exact ⟨ret_int H.out, rfl⟩
theorem count8 (x : Int) (wx : (Lit.int .u8 x).wf = true) (w : World) : Calls Try.prog 41 #[.int .u8 x] w fun e w' => e = .returned (.int .i64 (pop 64 x.toNat : Nat)) ∧ w = w' := by
  obtain ⟨x0, x1⟩ := wf_u8 wx
  have h := mk_u64 x0 (show x < 2 ^ 64 by omega)
  clear wx
  have x2 : x < 256 := x1
  go_enter Try.func41, Try.ntmps41
  go_wp2_with (go_at_call 54; refine (ones64 _ h _).mono ?_; rintro e w' ⟨rfl, rfl⟩)
  go_ret
  exact ⟨rfl, rfl⟩
theorem count16 (x : Int) (wx : (Lit.int .u16 x).wf = true) (w : World) : Calls Try.prog 43 #[.int .u16 x] w fun e w' => e = .returned (.int .i64 (pop 64 x.toNat : Nat)) ∧ w = w' := by
  obtain ⟨x0, x1⟩ := wf_u16 wx
  have h := mk_u64 x0 (show x < 2 ^ 64 by omega)
  clear wx
  have x2 : x < 65536 := x1
  go_enter Try.func43, Try.ntmps43
  go_wp2_with (go_at_call 54; refine (ones64 _ h _).mono ?_; rintro e w' ⟨rfl, rfl⟩)
  go_ret
  exact ⟨rfl, rfl⟩
theorem count32 (x : Int) (wx : (Lit.int .u32 x).wf = true) (w : World) : Calls Try.prog 44 #[.int .u32 x] w fun e w' => e = .returned (.int .i64 (pop 64 x.toNat : Nat)) ∧ w = w' := by
  obtain ⟨x0, x1⟩ := wf_u32 wx
  have h := mk_u64 x0 (show x < 2 ^ 64 by omega)
  clear wx
  have x2 : x < 4294967296 := x1
  go_enter Try.func44, Try.ntmps44
  go_wp2_with (go_at_call 54; refine (ones64 _ h _).mono ?_; rintro e w' ⟨rfl, rfl⟩)
  go_ret
  exact ⟨rfl, rfl⟩
theorem count64 (x : Int) (wx : (Lit.int .u64 x).wf = true) (w : World) : Calls Try.prog 45 #[.int .u64 x] w fun e w' => e = .returned (.int .i64 (pop 64 x.toNat : Nat)) ∧ w = w' := by
  obtain ⟨x0, x1⟩ := wf_u64 wx
  have h := mk_u64 x0 (show x < 2 ^ 64 by omega)
  clear wx
  have x2 : x < 18446744073709551616 := x1
  go_enter Try.func45, Try.ntmps45
  go_wp2_with (go_at_call 54; refine (ones64 _ h _).mono ?_; rintro e w' ⟨rfl, rfl⟩)
  go_ret
  exact ⟨rfl, rfl⟩
end Go.Proofs.Ytdapcnffiapgpaa
