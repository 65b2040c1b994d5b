/- Whole numbers as an argument; what the frame tells of them (out of Ia, Ef: for seats without polynomials). -/
import Derived.Test.YtbijakhdngbjmaaQ1
import Derived.BigQuiet
import Derived.Deep.QuietTactic
import Derived.Deep.AppendLies
import Derived.Deep.RegionWith
import Derived.Deep.RegionHeld
import Derived.Deep.Cut
import Derived.Deep.CutRange
import Derived.StillTailTactics
import Derived.Shelf.Abstract
namespace Go.Proofs.Ytbijakhdngbjmaa
open Go.ChangeShapes Go.WideShapes Go.ChangeAt Go.RowKit Go.Shelf
set_option linter.unusedVariables false
set_option linter.unusedSimpArgs false

/-- An argument that is whole numbers. -/
def IA (w : World) (a : Option Addr) (L c : Nat) (ps : List Int) : Prop :=
  ps.length = L ∧ L ≤ c ∧ c ≤ maxLen ∧ (a = none → c = 0) ∧ (∀ i, -9223372036854775808 ≤ ps.getD i 0 ∧ ps.getD i 0 ≤ 9223372036854775807) ∧ (0 < L → ∃ b off, a = some ⟨b, off, none⟩ ∧ b < w.heap.size ∧ ∀ i, i < L → w.cell? ⟨b, off + i, none⟩ = some (.int .i64 (ps.getD i 0)))
theorem IA.on {w w' : World} {a : Option Addr} {L c : Nat} {ps : List Int} (h : IA w a L c ps) (hb : Below w.heap.size w w') : IA w' a L c ps := by
  obtain ⟨h1, h2, h3, h4, h5, h6⟩ := h
  refine ⟨h1, h2, h3, h4, h5, fun h0 => ?_⟩
  obtain ⟨b, off, e, hlt, hc⟩ := h6 h0
  exact ⟨b, off, e, by have := hb.size; omega, fun i hi => (hb.cell (p := ⟨b, off + i, none⟩) hlt).trans (hc i hi)⟩
theorem IA.bd {w : World} {a : Option Addr} {L c : Nat} {ps : List Int} (h : IA w a L c ps) : L ≤ c ∧ c ≤ 9223372036854775807 := ⟨h.2.1, by have := h.2.2.1; unfold maxLen at this; omega⟩
theorem IA.at_ {w : World} {a : Option Addr} {L c : Nat} {ps : List Int} (h : IA w a L c ps) {i : Nat} (hi : i < L) : ∃ b off, a = some ⟨b, off, none⟩ ∧ b < w.heap.size ∧ w.cell? ⟨b, off + i, none⟩ = some (.int .i64 (ps.getD i 0)) := by
  obtain ⟨h1, h2, h3, h4, h5, h6⟩ := h
  obtain ⟨b, off, e, hlt, hc⟩ := h6 (by omega)
  exact ⟨b, off, e, hlt, hc i hi⟩
theorem addr_lit {w : World} {x : Addr} {v : Value} (h : w.cell? (x.add 0) = some v) : ∃ b off, x = ⟨b, off, none⟩ ∧ b < w.heap.size := by
  obtain ⟨b, off, spot⟩ := x
  have hs : spot = none := by simpa [Addr.add] using World.cell?_spot h
  subst hs
  refine ⟨b, off, rfl, ?_⟩
  rcases Nat.lt_or_ge b w.heap.size with hlt | hge
  · exact hlt
  · have : w.cell? ((⟨b, off, none⟩ : Addr).add 0) = none := by simp [World.cell?, Addr.add, Array.getElem?_eq_none hge]
    rw [this] at h; cases h
theorem argIA {w : World} {a : Option Addr} {len cap : Nat} {zs : List Int} (h : (a = none ∧ len = 0 ∧ cap = 0 ∧ zs = []) ∨
    ∃ x, a = some x ∧ len ≤ cap ∧ cap ≤ maxLen ∧ zs.length = cap ∧ (∀ i, i < zs.length → w.cell? (x.add i) = some (.int .i64 (zs.getD i 0))) ∧ ∀ n ∈ zs, (Lit.int .i64 n).wf = true) :
    ∃ l, IA w a len cap l := by
  rcases h with ⟨rfl, rfl, rfl, rfl⟩ | ⟨x, rfl, hl, hm, hz, hc, hw⟩
  · exact ⟨[], rfl, Nat.le_refl _, Nat.zero_le _, fun _ => rfl, fun i => by simp, fun h => absurd h (by omega)⟩
  · refine ⟨zs.take len, by simp [hz, hl], hl, hm, (fun e => by cases e), fun i => ?_, fun h0 => ?_⟩
    · by_cases hi : i < (zs.take len).length
      · have e : (zs.take len).getD i 0 = (zs.take len)[i] := by simp [List.getD_eq_getElem?_getD, List.getElem?_eq_getElem hi]
        rw [e]
        have := hw _ (List.mem_of_mem_take (List.getElem_mem hi))
        have : -9223372036854775808 ≤ (zs.take len)[i] ∧ (zs.take len)[i] ≤ 9223372036854775807 := by simpa [Lit.wf, IntKind.min, IntKind.max, IntKind.signed, IntKind.bits] using this
        exact this
      · have e : (zs.take len).getD i 0 = 0 := by rw [List.getD_eq_getElem?_getD, List.getElem?_eq_none (Nat.le_of_not_lt hi)]; rfl
        rw [e]; omega
    · obtain ⟨b, off, rfl, hb⟩ := addr_lit (hc 0 (by omega))
      refine ⟨b, off, rfl, hb, fun i hi => ?_⟩
      have := hc i (by omega)
      rw [Addr.add_lit] at this
      rw [this]
      simp [List.getD_eq_getElem?_getD, List.getElem?_take, hi]
end Go.Proofs.Ytbijakhdngbjmaa
