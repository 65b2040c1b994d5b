/- Plain: a package of bytes (all or nothing). What package aont's functions answer: the contracts, as statements. -/
import Derived.Test.YtcdepbnglmncpaaDoorQN
import Derived.Test.YtcdepbnglmncpaaDoorQJ3
namespace Go.Proofs.YtcdepbnglmncpaaDoor
open Go.ChangeShapes Go.WideShapes Go.ChangeAt Go.RowKit Go.Shelf
set_option linter.unusedVariables false
set_option linter.unusedSimpArgs false

/-- A nonce of noughts. -/
def Z8 : List Int := List.replicate 8 0
theorem Z8_B : AllB Z8 := fun x hx => by obtain ⟨_, rfl⟩ := List.mem_replicate.1 hx; omega
theorem Z8_len : Z8.length = 8 := by simp [Z8]
/-- Bytes and the stream of a key, added. -/
def hidL (K B : List Int) : List Int := xorL B (stL (strf K Z8) 0 B.length)
/-- The package; its key; its bytes. -/
def pkgL (K B : List Int) : List Int := hidL K B ++ xorL K (shaL (hidL K B))
def keyL (P : List Int) : List Int := xorL (P.drop (P.length - 32)) (shaL (P.take (P.length - 32)))
def opnL (P : List Int) : List Int := hidL (keyL P) (P.take (P.length - 32))
theorem hidL_len (K B : List Int) : (hidL K B).length = B.length := by unfold hidL; rw [length_xorL, length_stL, Nat.min_self]
theorem hidL_B {K B : List Int} (hK : AllB K) (hB : AllB B) : AllB (hidL K B) := xorL_B _ _ hB (allB_stL (strf_B hK _) _ _)
theorem hidL_twice {K B : List Int} (hB : AllB B) : hidL K (hidL K B) = B := by
  unfold hidL
  rw [length_xorL, length_stL, Nat.min_self]
  exact xorL_twice (by rw [length_stL]) hB
theorem pkgL_len {K : List Int} (B : List Int) (hK : K.length = 32) : (pkgL K B).length = B.length + 32 := by unfold pkgL; rw [List.length_append, hidL_len, length_xorL, shaL_len, hK]; rfl
theorem pkgL_B {K B : List Int} (hK : AllB K) (hB : AllB B) : AllB (pkgL K B) := fun x hx => (List.mem_append.1 hx).elim (hidL_B hK hB x) (xorL_B _ _ hK (shaL_B _) x)
theorem pkgL_take {K : List Int} (B : List Int) (hK : K.length = 32) : (pkgL K B).take ((pkgL K B).length - 32) = hidL K B := by
  rw [pkgL_len B hK, Nat.add_sub_cancel, ← hidL_len K B]
  exact List.take_left
theorem pkgL_drop {K : List Int} (B : List Int) (hK : K.length = 32) : (pkgL K B).drop ((pkgL K B).length - 32) = xorL K (shaL (hidL K B)) := by
  rw [pkgL_len B hK, Nat.add_sub_cancel, ← hidL_len K B]
  exact List.drop_left
theorem keyL_pkg {K : List Int} (B : List Int) (hK : K.length = 32) (hA : AllB K) : keyL (pkgL K B) = K := by
  unfold keyL
  rw [pkgL_take B hK, pkgL_drop B hK]
  exact xorL_twice (by rw [shaL_len, hK]) hA
theorem opnL_pkg {K B : List Int} (hK : K.length = 32) (hA : AllB K) (hB : AllB B) : opnL (pkgL K B) = B := by
  unfold opnL
  rw [keyL_pkg B hK hA, pkgL_take B hK]
  exact hidL_twice hB
theorem keyL_len {P : List Int} (h : 32 ≤ P.length) : (keyL P).length = 32 := by unfold keyL; rw [length_xorL, shaL_len, List.length_drop]; omega
theorem keyL_B {P : List Int} (h : AllB P) : AllB (keyL P) := xorL_B _ _ (fun x hx => h x (List.mem_of_mem_drop hx)) (shaL_B _)
theorem opnL_len {P : List Int} (h : 32 ≤ P.length) : (opnL P).length = P.length - 32 := by unfold opnL; rw [hidL_len, List.length_take]; omega
theorem xor_noughts {n : Nat} {l : List Int} (hl : l.length = n) (hA : AllB l) : xorL (List.replicate n 0) l = l := by
  refine list_ext_getD (by rw [length_xorL, List.length_replicate, hl, Nat.min_self]) fun i hi => ?_
  rw [length_xorL, List.length_replicate, hl, Nat.min_self] at hi
  rw [xorL_getD (by rw [List.length_replicate, hl, Nat.min_self]; exact hi)]
  have e : (List.replicate n (0 : Int)).getD i 0 = 0 := by simp [List.getD_eq_getElem?_getD, hi]
  have hb := allB_getD hA i
  rw [e, Int.toNat_zero, Nat.zero_xor]
  exact Int.toNat_of_nonneg hb.1

/-! ## the contracts -/
def WrapOkC : Prop := ∀ (b : Nat) (aK : Option Addr) (cK : Nat) (K : List Int) (aB : Option Addr) (n cB : Nat) (B : List Int) (w : World),
  Gl w → Fld w b → Arg8c w aK 32 cK K → Arg8c w aB n cB B → n ≤ 900 →
  Calls Tryd.prog 8 #[.pointer (some ⟨b, 0, none⟩), .slice aK (32 : Nat) cK, .slice aB n cB] w fun e w' => ∃ g c, e = .returned (.tuple #[.slice (some ⟨g, 0, none⟩) (n + 32 : Nat) c, .int .i64 0]) ∧
    w'.ownsRow w.heap.size 5 1 (.slice (some ⟨g, 0, none⟩) (n + 32 : Nat) c) (n + 32) ((pkgL K B).map (Value.int .u8)) ∧ Below w.heap.size w w'
def WrapArgC : Prop := ∀ (aK : Option Addr) (L cK : Nat) (K : List Int) (aB : Option Addr) (n cB : Nat) (B : List Int) (w : World),
  Arg8c w aK L cK K → Arg8c w aB n cB B →
  Calls Tryd.prog 8 #[.pointer none, .slice aK L cK, .slice aB n cB] w fun e w' => ∃ a m c, e = .returned (.tuple #[.slice a m c, .int .i64 1]) ∧ Below w.heap.size w w'
def WrapFormC : Prop := ∀ (b : Nat) (aK : Option Addr) (L cK : Nat) (K : List Int) (aB : Option Addr) (n cB : Nat) (B : List Int) (w : World),
  Fld w b → Arg8c w aK L cK K → Arg8c w aB n cB B → L ≠ 32 → n ≤ 1000 →
  Calls Tryd.prog 8 #[.pointer (some ⟨b, 0, none⟩), .slice aK L cK, .slice aB n cB] w fun e w' => ∃ a m c, e = .returned (.tuple #[.slice a m c, .int .i64 3]) ∧ Below w.heap.size w w'
def KeyOkC : Prop := ∀ (a : Option Addr) (n c : Nat) (P : List Int) (w : World), Gl w → Arg8c w a n c P → 32 ≤ n → n ≤ 2000 →
  Calls Tryd.prog 13 #[.slice a n c] w fun e w' => ∃ a' c', e = .returned (.tuple #[.slice a' (32 : Nat) c', .int .i64 0]) ∧ Arg8 w' a' 32 c' (keyL P) ∧ Below w.heap.size w w'
def KeyFormC : Prop := ∀ (a : Option Addr) (n c : Nat) (P : List Int) (w : World), Arg8c w a n c P → n < 32 →
  Calls Tryd.prog 13 #[.slice a n c] w fun e w' => ∃ a' m c', e = .returned (.tuple #[.slice a' m c', .int .i64 3]) ∧ Below w.heap.size w w'
def OpenOkC : Prop := ∀ (b : Nat) (a : Option Addr) (n c : Nat) (P : List Int) (w : World), Gl w → Fld w b → Arg8c w a n c P → 32 ≤ n → n ≤ 2000 →
  Calls Tryd.prog 12 #[.pointer (some ⟨b, 0, none⟩), .slice a n c] w fun e w' => ∃ a' c', e = .returned (.tuple #[.slice a' (n - 32 : Nat) c', .int .i64 0]) ∧ Arg8 w' a' (n - 32) c' (opnL P) ∧ Below w.heap.size w w'
def OpenArgC : Prop := ∀ (a : Option Addr) (n c : Nat) (P : List Int) (w : World), Arg8c w a n c P →
  Calls Tryd.prog 12 #[.pointer none, .slice a n c] w fun e w' => ∃ a' m c', e = .returned (.tuple #[.slice a' m c', .int .i64 1]) ∧ Below w.heap.size w w'
def OpenFormC : Prop := ∀ (b : Nat) (a : Option Addr) (n c : Nat) (P : List Int) (w : World), Fld w b → Arg8c w a n c P → n < 32 →
  Calls Tryd.prog 12 #[.pointer (some ⟨b, 0, none⟩), .slice a n c] w fun e w' => ∃ a' m c', e = .returned (.tuple #[.slice a' m c', .int .i64 3]) ∧ Below w.heap.size w w'
structure AontAll : Prop where
  wrap : WrapOkC
  wrapArg : WrapArgC
  wrapForm : WrapFormC
  key : KeyOkC
  keyForm : KeyFormC
  open_ : OpenOkC
  openArg : OpenArgC
  openForm : OpenFormC
end Go.Proofs.YtcdepbnglmncpaaDoor
