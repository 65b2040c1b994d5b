/- What the frame tells of arguments that are acts, or bools. -/
import Derived.Test.YtkfdcdfaikkneaaGreatDoorUb
import Derived.Deep.Grids
import Derived.Deep.Fields
import Derived.ChangeArms
namespace Go.Proofs.YtkfdcdfaikkneaaGreatDoor
open Go.ChangeShapes Go.WideShapes Go.ChangeAt Go.RowKit Go.Shelf Go.Deep
set_option linter.unusedVariables false
set_option linter.unusedSimpArgs false
set_option maxRecDepth 100000

theorem argB {w : World} {a : Option Addr} {len cap : Nat} (h : (a = none ∧ len = 0 ∧ cap = 0) ∨
    ∃ (x : Addr) (B : Nat → Bool), a = some x ∧ len ≤ cap ∧ cap ≤ maxLen ∧ ∀ i, i < cap → w.cell? (x.add i) = some (.bool (B i))) : ∃ l, ArgB w a len cap l := by
  rcases h with ⟨rfl, rfl, rfl⟩ | ⟨x, B, rfl, hl, hm, hc⟩
  · exact ⟨[], ArgB.nil w⟩
  · refine ⟨(List.range len).map B, by simp, hl, hm, (fun e => by cases e), fun h0 => ?_⟩
    obtain ⟨b, off, rfl, hb⟩ := addr_lit (hc 0 (by omega))
    refine ⟨b, off, rfl, hb, fun i hi => ?_⟩
    have := hc i (by omega)
    rw [Addr.add_lit] at this
    rw [this]
    simp [List.getD_eq_getElem?_getD, hi]
section
variable {H : Type} {enc : TypeId × Value → H} {w : World} {base : Nat} {held : Bool}
theorem argBools {fuel : Nat} {a : Option Addr} {len cap : Nat} {x : DataW H × List MemPlace} (h : DataW.trod enc Tryz.prog w base (fun _ => true) held fuel 108 [.slice a len cap] = some x) : ∃ l, ArgB w a len cap l := by
  rcases Go.Deep.open_bools Tryz.underlying108 Tryz.underlying4 (by kernel_rfl) h with ⟨hcs, _⟩ | ⟨y, l, c, B, hcs, _, hl, hm, _, hcell⟩
  · injection hcs with h1; injection h1 with h1 h2 h3
    exact argB (.inl ⟨h1, h2, h3⟩)
  · injection hcs with h1; injection h1 with h1 h2 h3
    subst h1; subst h2; subst h3
    exact argB (.inr ⟨_, B, rfl, hl, hm, hcell⟩)
theorem i64_of_wf {n : Int} (h : (Lit.int .i64 n).wf = true) : i64R n := by
  have : -9223372036854775808 ≤ n ∧ n ≤ 9223372036854775807 := by simpa [Lit.wf, IntKind.min, IntKind.max, IntKind.signed, IntKind.bits] using h
  exact this
instance : Inhabited AC := ⟨⟨0, 0, 0, none, 0, 0, []⟩⟩
end
end Go.Proofs.YtkfdcdfaikkneaaGreatDoor
