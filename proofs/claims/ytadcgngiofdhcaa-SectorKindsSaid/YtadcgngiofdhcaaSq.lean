/- What the world's shape tells of package hash's tables: words; the walk of SectorKinds, in the frame's form. -/
import Derived.Test.YtadcgngiofdhcaaSk
import Derived.Test.YtadcgngiofdhcaaRows
import Derived.HandedShaped
namespace Go.Proofs.Ytadcgngiofdhcaa
open Go.ChangeShapes Go.WideShapes Go.ChangeAt Go.RowKit Go.Shelf
set_option linter.unusedVariables false
set_option maxRecDepth 100000

def wordOf (v : Option Value) : Nat := match v with | some (.int _ x) => x.toNat % 4294967296 | _ => 0
theorem wordOf_lt (v : Option Value) : wordOf v < 4294967296 := by unfold wordOf; split <;> omega
theorem words_of_shape {W : World} {g n : Nat} {t : TypeId} {zero : Array Value} (h : W.ShapedOpen Try.prog) (hg : g < Try.prog.globals.size)
    (h0 : ((begin Try.prog (fun _ _ => 0) default).world.heap[g]?).bind Obj.row? = some (zero, t)) (hz : zero.size = n) (hb : Try.prog.buildable t = true) (hc : Try.prog.cellTypes Try.prog.depth t = some (List.replicate n 25)) :
    ∃ f : Nat → Nat, (∀ i, f i < 4294967296) ∧ ∀ j, j < n → W.cell? ⟨g, j, none⟩ = some (.int .u32 ((f j : Nat) : Int)) := by
  obtain ⟨cs, hh, hs, hr⟩ := h.1 g zero t hg h0
  obtain ⟨ts, hts, _, hall⟩ := hr hb
  rw [hc] at hts
  cases hts
  refine ⟨fun j => wordOf cs[j]?, fun i => wordOf_lt _, fun j hj => ?_⟩
  have hjs : j < cs.size := by omega
  obtain ⟨u, hu, hok⟩ := hall j cs[j] (by simp [hjs])
  rw [List.length_replicate, Nat.mod_eq_of_lt hj, List.getElem?_replicate, if_pos hj] at hu
  cases hu
  unfold Cell.ok at hok
  rw [Try.underlying25] at hok
  have hcell : W.cell? ⟨g, j, none⟩ = some cs[j] := by simp [World.cell?, hh, hjs]
  have hget : cs[j]? = some cs[j] := by simp [hjs]
  show W.cell? ⟨g, j, none⟩ = some (.int .u32 ((wordOf cs[j]? : Nat) : Int))
  rw [hcell, hget]
  generalize cs[j] = v at hok
  cases v with
  | int k' x =>
    obtain ⟨rfl, hx⟩ := hok
    have hx2 : 0 ≤ x ∧ x ≤ 4294967295 := by
      simpa [IntKind.has, IntKind.min, IntKind.max, IntKind.signed, IntKind.bits] using hx
    unfold wordOf
    dsimp only
    rw [Nat.mod_eq_of_lt (by omega), Int.toNat_of_nonneg hx2.1]
  | _ => simp at hok
theorem tables_of_shape {W : World} (h : W.ShapedOpen Try.prog) : ∃ I : Inhabited Tbl, @Gl I W := by
  obtain ⟨f, hf, hc⟩ := words_of_shape (g := 0) (n := 8) (t := 112) (zero := Array.replicate 8 (.int .u32 0)) h (of_decide_eq_true (by kernel_rfl)) (by kernel_rfl) rfl (by kernel_rfl) (by kernel_rfl)
  obtain ⟨k, hk, hd⟩ := words_of_shape (g := 1) (n := 64) (t := 123) (zero := Array.replicate 64 (.int .u32 0)) h (of_decide_eq_true (by kernel_rfl)) (by kernel_rfl) rfl (by kernel_rfl) (by kernel_rfl)
  refine ⟨⟨⟨k, f, hk, hf⟩⟩, ?_, hc, hd⟩
  exact (show 1 < W.heap.size from by
    have := hd 0 (by omega)
    rcases Nat.lt_or_ge 1 W.heap.size with h' | h'
    · exact h'
    · simp [World.cell?, Array.getElem?_eq_none h'] at this)
theorem sectorKinds_walk (a0 : Option Addr) (len0 cap0 : Nat) (a1 : Bool) (w : World) (w0 : ∃ l, Arg8c w a0 len0 cap0 l) (hs : w.ShapedOpen Try.prog) :
    Calls Try.prog 3 #[.slice a0 len0 cap0, .bool a1] w fun e w' => e = .returned (.bool true) ∧ Below w.heap.size w w' := by
  obtain ⟨I, hG⟩ := tables_of_shape hs
  exact sectorKinds_any a0 len0 cap0 a1 w w0 hG
end Go.Proofs.Ytadcgngiofdhcaa
