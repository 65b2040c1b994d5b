/- The field's operations on numbers of GF; contracts of poly's Degree, trimmed, Trim, Eval. -/
import Derived.Test.YtmhknggjpggagaaPit
import Derived.Test.YtmhknggjpggagaaFref
namespace Go.Proofs.Ytmhknggjpggagaa
open Go.ChangeShapes Go.WideShapes Go.ChangeAt Go.RowKit Go.Shelf GF
set_option linter.unusedVariables false
attribute [local go_sem] Oper.semAt_some

theorem gmI_G (x y : GF) : gmI (toI x) (toI y) = toI (x * y) := rfl
theorem xoI_G (x y : GF) : xoI (toI x) (toI y) = toI (x + y) := rfl
theorem mul_G (b : Nat) (x y : GF) (w : World) (hf : Fld w b) : Calls Try.prog 25 #[.pointer (some ⟨b, 0, none⟩), .int .u8 (toI x), .int .u8 (toI y)] w fun e w' => e = .returned (.int .u8 (toI (x * y))) ∧ w = w' :=
  mul_I b _ _ w hf (toI_bd x) (toI_bd y)
theorem add_G (x y : GF) (w : World) : Calls Try.prog 43 #[.int .u8 (toI x), .int .u8 (toI y)] w fun e w' => e = .returned (.int .u8 (toI (x + y))) ∧ w = w' :=
  add_I _ _ (toI_bd x) (toI_bd y) w
theorem div_G (b : Nat) (x y : GF) (w : World) (hf : Fld w b) (hy : y ≠ 0) : Calls Try.prog 40 #[.pointer (some ⟨b, 0, none⟩), .int .u8 (toI x), .int .u8 (toI y)] w fun e w' => e = .returned (.tuple #[.int .u8 (toI (x * GF.inv y)), .int .i64 0]) ∧ w = w' :=
  div_ok b x.1 y.1 w hf x.2 y.2 (GF.val_ne hy)
theorem rmul_G (x y : GF) (w : World) : Calls Try.prog 35 #[.int .u8 (toI x), .int .u8 (toI y)] w fun e w' => e = .returned (.int .u8 (toI (x * y))) ∧ w = w' :=
  refMul_N x.1 y.1 x.2 y.2 w
theorem rinv_G (x : GF) (w : World) : Calls Try.prog 49 #[.int .u8 (toI x)] w fun e w' => e = .returned (.int .u8 (toI (GF.inv x))) ∧ w = w' :=
  refInv_N x.1 x.2 w

theorem cell_of_heap {W W' : World} {p : Addr} {v : Value} (h : W.cell? p = some v) (e : W'.heap[p.block]? = W.heap[p.block]?) : W'.cell? p = some v := by
  unfold World.cell? at h ⊢; rw [e]; exact h
theorem Rd.other {Bx len cap : Nat} {a : Option Addr} {V : Nat → GF → Prop} {W W' : World} (h : Rd Bx len a cap V W) (blk : Nat) (hh : ∀ k, k ≠ blk → k < W.heap.size → W'.heap[k]? = W.heap[k]?) (h1 : Bx ≠ blk) (h2 : ∀ b off, a = some ⟨b, off, none⟩ → b ≠ blk) : Rd Bx len a cap V W' := by
  have lt : ∀ {p : Addr} {v : Value}, W.cell? p = some v → p.block < W.heap.size := fun {p v} hc => by
    rcases Nat.lt_or_ge p.block W.heap.size with hlt | hge
    · exact hlt
    · unfold World.cell? at hc; rw [Array.getElem?_eq_none hge] at hc; cases hc
  refine ⟨cell_of_heap h.1 (hh _ h1 (lt h.1)), fun j hj => ?_⟩
  obtain ⟨b, off, c, e, hV, hc⟩ := h.2 j hj
  exact ⟨b, off, c, e, hV, cell_of_heap hc (hh _ (h2 b off e) (lt hc))⟩
theorem Rd.put {Bx len cap : Nat} {a : Option Addr} {V : Nat → GF → Prop} {W : World} {l : Nat} {o : Obj} (o' : Obj) (hl : W.heap[l]? = some o) (ho : o.isCells = false) (h : Rd Bx len a cap V W) : Rd Bx len a cap V (W.putObj l o') := by
  have key : ∀ {p : Addr} {v : Value}, W.cell? p = some v → (W.putObj l o').cell? p = some v := fun {p v} hc => cell_kept hc (grownBy_putObj' W l o') (fun r e => by cases e; exact ⟨_, hl, ho⟩)
  refine ⟨key h.1, fun j hj => ?_⟩
  obtain ⟨b, off, c, e, hV, hc⟩ := h.2 j hj
  exact ⟨b, off, c, e, hV, key hc⟩
/-- A slice of bytes in its box, ready to be gone through. -/
theorem rd_of {W : World} {Bx B a len cap} {P : List GF} (hb : W.cell? ⟨Bx, 0, none⟩ = some (.slice a len cap)) (h : Bs W B a (iL P)) (hl : P.length = len) : Rd Bx len a cap (fun j c => c = co P j) W := by
  refine ⟨hb, fun j hj => ?_⟩
  obtain ⟨b, off, e, hB, hc⟩ := h (by rw [length_iL]; omega)
  exact ⟨b, off, _, e, rfl, by rw [hc j (by rw [length_iL]; omega), getD_iL]⟩
theorem Bs.low {w : World} {B : Nat} {a : Option Addr} {l : List Int} (h : Bs w B a l) (hl : 0 < l.length) : ∀ b off, a = some ⟨b, off, none⟩ → b < B := fun b off e => by
  obtain ⟨b', off', e', hB, _⟩ := h hl
  rw [e] at e'; cases e'; exact hB

end Go.Proofs.Ytmhknggjpggagaa
