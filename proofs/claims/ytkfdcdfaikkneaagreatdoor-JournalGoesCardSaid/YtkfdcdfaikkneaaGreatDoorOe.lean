/- Contracts of package medium as it landed: slices.Clone of sectors, copies, Copy, Cached. -/
import Derived.Test.YtkfdcdfaikkneaaGreatDoorOd
namespace Go.Proofs.YtkfdcdfaikkneaaGreatDoor
open Go.ChangeShapes Go.WideShapes Go.ChangeAt Go.RowKit Go.Shelf
set_option linter.unusedVariables false
set_option linter.unusedSimpArgs false
set_option maxRecDepth 100000
attribute [local go_sem] Oper.semAt_some

theorem eqlS_some (w : World) (ad : Addr) (n c : Nat) : (binOp .eql 98 (.slice (some ad) n c) (.slice none 0 0)).run Tryz.prog w = .ok (.bool false) w := rfl
theorem own_emptyS (w : World) : (w.alloc (.cells #[] 148)).ownsRow w.heap.size 148 513 (.slice (some ⟨w.heap.size, 0, none⟩) 0 0) 0 [] :=
  ⟨rfl, .inr ⟨w.heap.size, 0, #[], rfl, Nat.le_refl _, heap_alloc_new w _, Nat.le_refl _, Nat.zero_le _, rfl, rfl⟩⟩
/-! ## copies -/
/-- Rows of bytes, all in new memory. -/
def DRn (w : World) (B : Nat) (Z : List ZW) : Prop := ∀ z, z ∈ Z → z.1.2.length = 512 ∧ AllB z.1.2 ∧ w.ownsRow B 5 1 (.slice z.2.1 512 z.2.2) 512 (z.1.2.map (Value.int .u8))
theorem DRn.kb {w w' : World} {B : Nat} {Z : List ZW} {g : Nat} {T : TypeId} {C : Array Value} {f : Nat × Nat} (h : DRn w B Z) (hk : KB (fun k => k = g) w w') (hg : w.heap[g]? = some (.cells C T f)) (hT : 5 ≠ T) : DRn w' B Z := fun z hz => by
  obtain ⟨h1, h2, h3⟩ := h z hz
  exact ⟨h1, h2, own_blockT h3 (fun k e => hk.2 k (own_lt h3 e).2 (own_ne h3 e hg hT))⟩
theorem DRn.on {w w' : World} {B : Nat} {Z : List ZW} (h : DRn w B Z) (hb : Below w.heap.size w w') : DRn w' B Z := fun z hz => by
  obtain ⟨h1, h2, h3⟩ := h z hz
  exact ⟨h1, h2, own_belowU h3 hb⟩
theorem DRn.dr {w : World} {B : Nat} {Z : List ZW} (h : DRn w B Z) : DR w Z := fun z hz => by
  obtain ⟨h1, h2, h3⟩ := h z hz
  exact ⟨h1, h2, own_low h3 (Nat.zero_le _)⟩
/-- A row of writes, as it is gone through. -/
structure WrR (w : World) (a : Option Addr) (c : Nat) (Z : List ZW) : Prop where
  row : w.ownsRow 0 122 2 (.slice a Z.length c) Z.length (zC Z)
  dat : DR w Z
theorem WrR.on {w w' : World} {a : Option Addr} {c : Nat} {Z : List ZW} (h : WrR w a c Z) (hb : Below w.heap.size w w') : WrR w' a c Z :=
  ⟨own_belowU h.row hb, fun z hz => by obtain ⟨h1, h2, h3⟩ := h.dat z hz; exact ⟨h1, h2, own_belowU h3 hb⟩⟩
theorem WrR.at_ {w : World} {ca : Option Addr} {cc : Nat} {Z : List ZW} (h : WrR w ca cc Z) {k : Nat} {z : ZW} (hz : Z[k]? = some z) :
    ∃ g, ca = some ⟨g, 0, none⟩ ∧ g < w.heap.size ∧ w.cell? ⟨g, k * 2, none⟩ = some (.int .i64 (z.1.1 : Nat)) ∧ w.cell? ⟨g, k * 2 + 1, none⟩ = some (.slice z.2.1 512 z.2.2) := by
  have hk := (List.getElem?_eq_some_iff.1 hz).1
  rcases h.row.2 with ⟨_, h0⟩ | ⟨g, cap, cur, hv, _⟩
  · omega
  · injection hv with h1 h2 h3
    obtain rfl : ca = some ⟨g, 0, none⟩ := h1
    have hr := h.row
    obtain ⟨c0, c1⟩ := zC_get hz
    exact ⟨g, rfl, (own_lt hr rfl).2, by rw [hr.cellAt _ (by omega)]; exact c0, by rw [hr.cellAt _ (by omega)]; exact c1⟩
end Go.Proofs.YtkfdcdfaikkneaaGreatDoor
