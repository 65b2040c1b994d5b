/- The walks of MendColumns, MendCorrects, MendRows in the frame's form, under the contracts: lay the contracts of the landed code ('colAll : ColAll', 'rowsAll : RowsAll Md') and name these '.._walk' (see NOTES). -/
import Derived.Test.YtfmjfdbbjggcpaaRe
import Derived.Test.YtfmjfdbbjggcpaaRo
import Derived.Test.YtfmjfdbbjggcpaaEf
namespace Go.Proofs.Ytfmjfdbbjggcpaa
open Go.ChangeShapes Go.WideShapes Go.ChangeAt Go.RowKit Go.Shelf GF
set_option linter.unusedVariables false
set_option linter.unusedSimpArgs false
theorem toI_byte {x : Int} (h : (Lit.int .u8 x).wf = true) : ∃ g : GF, x = toI g := by
  have h1 : 0 ≤ x ∧ x ≤ 255 := by simpa [Lit.wf, IntKind.min, IntKind.max, IntKind.signed, IntKind.bits] using h
  have := iL_gL (l := [x]) (fun n hn => by rw [List.mem_singleton.1 hn]; omega)
  unfold iL gL at this
  simp at this
  exact ⟨_, this.symm⟩
theorem mendColumns_walk0 (hAll : ColAll) (a0 : Int) (a1 : Option Addr) (len1 cap1 : Nat) (a2 : Option Addr) (len2 cap2 : Nat) (a3 : Int) (w : World) (w0 : (Lit.int .i64 a0).wf = true) (w1 : ∃ l, Arg8c w a1 len1 cap1 l) (w2 : ∃ l, Arg8c w a2 len2 cap2 l) (w3 : (Lit.int .i64 a3).wf = true) :
    Calls Try.prog 3 #[.int .i64 a0, .slice a1 len1 cap1, .slice a2 len2 cap2, .int .i64 a3] w fun e w' => e = .returned (.bool true) ∧ Below w.heap.size w w' := by
  obtain ⟨l1, h1⟩ := w1
  obtain ⟨l2, h2⟩ := w2
  exact mendColumns_any hAll a0 a3 len1 a1 cap1 _ len2 a2 cap2 _ w (Pa.of h1) (Pa.of h2) w0 w3
theorem mendCorrects_walk0 (hAll : ColAll) (a0 a1 : Int) (a2 : Option Addr) (len2 cap2 : Nat) (a3 : Option Addr) (len3 cap3 : Nat) (a4 : Option Addr) (len4 cap4 : Nat) (a5 : Option Addr) (len5 cap5 : Nat) (a6 : Int) (w : World) (w0 : (Lit.int .i64 a0).wf = true) (w1 : (Lit.int .i64 a1).wf = true) (w2 : ∃ l, Arg8c w a2 len2 cap2 l) (w3 : ∃ l, Arg8c w a3 len3 cap3 l) (w4 : ∃ l, Arg8c w a4 len4 cap4 l) (w5 : ∃ l, Arg8c w a5 len5 cap5 l) (w6 : (Lit.int .i64 a6).wf = true) :
    Calls Try.prog 4 #[.int .i64 a0, .int .i64 a1, .slice a2 len2 cap2, .slice a3 len3 cap3, .slice a4 len4 cap4, .slice a5 len5 cap5, .int .i64 a6] w fun e w' => e = .returned (.bool true) ∧ Below w.heap.size w w' := by
  obtain ⟨l2, h2⟩ := w2
  obtain ⟨l3, h3⟩ := w3
  obtain ⟨l4, h4⟩ := w4
  obtain ⟨l5, h5⟩ := w5
  exact mendCorrects_any hAll a0 a1 a6 len2 a2 cap2 _ len3 a3 cap3 _ len4 a4 cap4 _ len5 a5 cap5 _ w (Pa.of h2) (Pa.of h3) (Pa.of h4) (Pa.of h5)
theorem mendRows_walk0 {Md : World → Addr → List (List GF) → List Nat → Prop} (hAll : ColAll) (hRA : RowsAll Md) (a0 : Int) (a1 : Option Addr) (len1 cap1 : Nat) (a2 : Option Addr) (len2 cap2 : Nat) (a3 a4 : Int) (w : World) (w0 : (Lit.int .i64 a0).wf = true) (w1 : ∃ l, Arg8c w a1 len1 cap1 l) (w2 : ∃ M, Mat w a2 len2 cap2 M) (w3 : (Lit.int .i64 a3).wf = true) (w4 : (Lit.int .u8 a4).wf = true) :
    Calls Try.prog 5 #[.int .i64 a0, .slice a1 len1 cap1, .slice a2 len2 cap2, .int .i64 a3, .int .u8 a4] w fun e w' => e = .returned (.bool true) ∧ Below w.heap.size w w' := by
  obtain ⟨l1, h1⟩ := w1
  obtain ⟨M, hM⟩ := w2
  obtain ⟨x, rfl⟩ := toI_byte w4
  exact mendRows_any hAll hRA a0 a3 x len1 a1 cap1 _ len2 a2 cap2 M w (Pa.of h1) hM w0 w3
end Go.Proofs.Ytfmjfdbbjggcpaa
