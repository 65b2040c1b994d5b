/- Package sector: the reader, told by what it reads; ParseCommit. -/
import Derived.Test.YtadcgngiofdhcaaDoorIm
namespace Go.Proofs.YtadcgngiofdhcaaDoor
open Go.ChangeShapes Go.WideShapes Go.ChangeAt Go.RowKit Go.Shelf
set_option linter.unusedVariables false
set_option linter.unusedSimpArgs false
set_option maxRecDepth 100000
attribute [local go_sem] Oper.semAt_some

/-- At p lies a reader that reads b from k on; b lies as it lay in w. -/
def RS (w W : World) (p : Nat) (b : List Int) (k : Nat) : Prop := w.heap.size ≤ p ∧ Below w.heap.size w W ∧ ∃ a m c, RdA W p a m c ∧ Arg8c w a m c (b.drop k)
theorem RS.below {w W : World} {p k : Nat} {b : List Int} (h : RS w W p b k) : Below w.heap.size w W := h.2.1
theorem RS.but {w W W' : World} {p k : Nat} {b : List Int} (h : RS w W p b k) (hb : But p W W') : Below w.heap.size w W' := h.2.1.trans (hb.1.below (fun k e => by rw [e]; exact h.1) h.2.1.size)
theorem But.block {p : Nat} {w w' : World} (h : But p w w') {k : Nat} (hk : k < w.heap.size) (hp : k ≠ p) : w'.heap[k]? = w.heap[k]? := h.1.2 k hk hp
/-- Behind a call that keeps all blocks. -/
theorem RS.on {w W W' : World} {p k : Nat} {b : List Int} (h : RS w W p b k) (hb : Below W.heap.size W W') : RS w W' p b k := by
  obtain ⟨h1, h2, a, m, c, h3, h4⟩ := h
  exact ⟨h1, bt h2 hb, a, m, c, (hb.block p h3.lt).trans h3, h4⟩
theorem rs_start (w A : World) (hA : Below w.heap.size w A) (hs : w.heap.size ≤ A.heap.size) (a : Option Addr) (c : Nat) (b : List Int) (hx : Arg8c w a 512 c b) :
    RS w (A.alloc (.cells #[.slice (cutT a c 2) 510 (c - 2)] 86)) A.heap.size b 2 :=
  ⟨hs, hA.alloc hs _, _, _, _, heap_alloc_new A _, hx.cut8 (k := 2) (by omega)⟩
theorem takeS (w W : World) (p k n : Nat) (b : List Int) (h : RS w W p b k) (hn : k + n ≤ b.length) :
    Calls Tryd.prog 25 #[.pointer (some ⟨p, 0, none⟩), .int .i64 (n : Nat)] W fun e w' => ∃ a c, e = .returned (.slice a n c) ∧ Arg8c w a n c ((b.drop k).take n) ∧ RS w w' p b (k + n) ∧ But p W w' := by
  have h' := h
  obtain ⟨h1, h2, a, m, c, h3, h4⟩ := h
  have hl := h4.1.1
  rw [List.length_drop] at hl
  have hc := h4.1.2.2.2
  unfold maxLen at hc
  refine (take_any p a m c n W h3 (by omega) (by omega) (by omega)).mono ?_
  rintro e w' ⟨rfl, hr, hb⟩
  refine ⟨a, c, rfl, h4.takeT (by omega), ⟨h1, h'.but hb, _, _, _, hr, ?_⟩, hb⟩
  have := h4.cut8 (k := n) (by omega)
  rw [List.drop_drop] at this
  exact this
theorem next8S (w W : World) (p k : Nat) (b : List Int) (h : RS w W p b k) (hn : k + 1 ≤ b.length) :
    Calls Tryd.prog 26 #[.pointer (some ⟨p, 0, none⟩)] W fun e w' => e = .returned (.int .u8 (nb b k 1)) ∧ RS w w' p b (k + 1) ∧ But p W w' := by
  have h' := h
  obtain ⟨h1, h2, a, m, c, h3, h4⟩ := h
  have hl := h4.1.1
  rw [List.length_drop] at hl
  have hc := h4.1.2.2.2
  unfold maxLen at hc
  refine (next8_any p a m c (b.drop k) W h3 (by rw [List.length_drop]; exact hl) h4.1.2.1 ((h4.1.2.2.1.below h2).more h1) (by omega) (by omega) (by omega)).mono ?_
  rintro e w' ⟨rfl, hr, hb⟩
  refine ⟨rfl, ⟨h1, h'.but hb, _, _, _, hr, ?_⟩, hb⟩
  have := h4.cut8 (k := 1) (by omega)
  rw [List.drop_drop] at this
  exact this
theorem next32S (w W : World) (p k : Nat) (b : List Int) (h : RS w W p b k) (hn : k + 4 ≤ b.length) :
    Calls Tryd.prog 27 #[.pointer (some ⟨p, 0, none⟩)] W fun e w' => e = .returned (.int .u32 (nb b k 4)) ∧ RS w w' p b (k + 4) ∧ But p W w' := by
  have h' := h
  obtain ⟨h1, h2, a, m, c, h3, h4⟩ := h
  have hl := h4.1.1
  rw [List.length_drop] at hl
  have hc := h4.1.2.2.2
  unfold maxLen at hc
  refine (next32_any p a m c (b.drop k) W h3 (by rw [List.length_drop]; exact hl) h4.1.2.1 ((h4.1.2.2.1.below h2).more h1) (by omega) (by omega) (by omega)).mono ?_
  rintro e w' ⟨rfl, hr, hb⟩
  refine ⟨rfl, ⟨h1, h'.but hb, _, _, _, hr, ?_⟩, hb⟩
  have := h4.cut8 (k := 4) (by omega)
  rw [List.drop_drop] at this
  exact this
theorem readS (w A : World) (hA : Below w.heap.size w A) (hs : w.heap.size ≤ A.heap.size) (a : Option Addr) (c : Nat) (b : List Int) (hx : Arg8c w a 512 c b) :
    Calls Tryd.prog 24 #[.slice a 512 c] A fun e w' => e = .returned (.tuple #[.pointer (some ⟨A.heap.size, 0, none⟩), .bool true]) ∧ RS w w' A.heap.size b 2 ∧ Below A.heap.size A w' := by
  have hcap := hx.1.2.2.2
  unfold maxLen at hcap
  refine (read_ok a c A hcap.1 (by omega)).mono ?_
  rintro e w' ⟨rfl, rfl⟩
  exact ⟨rfl, rs_start w A hA hs a c b hx, (Below.refl _ _).alloc (Nat.le_refl _) _⟩
theorem nb_one {b : List Int} {k : Nat} (hk : k < b.length) : nb b k 1 = b.getD k 0 := by
  unfold nb
  rw [getV_num (by rw [List.length_drop]; omega)]
  have := numB_take_succ (l := b.drop k) (k := 0) (by rw [List.length_drop]; omega)
  rw [this, List.take_zero]
  simp [numB, List.getD_eq_getElem?_getD, List.getElem?_drop]
theorem pcm_len {b : List Int} (h : b.length ≠ 512) : pcmZ b = ⟨0, 0, 0⟩ ∧ pcmE b = 3 := by
  have : pcm b = none := by unfold pcm; exact if_neg (fun k => h k.1)
  unfold pcmZ pcmE; rw [this]; exact ⟨rfl, rfl⟩
theorem chC_form (c : CM) (b : List Int) : ∃ x0 x1 x2 e : Int, chC c b = .tuple #[.agg #[.int .u8 x0, .int .u8 x1, .int .u64 x2], .int .i64 e] := by
  unfold chC; split <;> exact ⟨_, _, _, _, rfl⟩
end Go.Proofs.YtadcgngiofdhcaaDoor
