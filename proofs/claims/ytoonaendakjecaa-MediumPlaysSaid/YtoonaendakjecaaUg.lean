/- What the frame tells of arguments that are acts, or bools. -/
import Derived.Test.YtoonaendakjecaaUb
import Derived.Deep.Grids
import Derived.Deep.Fields
import Derived.ChangeArms
namespace Go.Proofs.Ytoonaendakjecaa
open Go.ChangeShapes Go.WideShapes Go.ChangeAt Go.RowKit Go.Shelf Go.Deep
set_option linter.unusedVariables false
set_option linter.unusedSimpArgs false
set_option maxRecDepth 100000

theorem argB {w : World} {a : Option Addr} {len cap : Nat} (h : (a = none ∧ len = 0 ∧ cap = 0) ∨
    ∃ (x : Addr) (B : Nat → Bool), a = some x ∧ len ≤ cap ∧ cap ≤ maxLen ∧ ∀ i, i < cap → w.cell? (x.add i) = some (.bool (B i))) : ∃ l, ArgB w a len cap l := by
  rcases h with ⟨rfl, rfl, rfl⟩ | ⟨x, B, rfl, hl, hm, hc⟩
  · exact ⟨[], ArgB.nil w⟩
  · refine ⟨(List.range len).map B, by simp, hl, hm, (fun e => by cases e), fun h0 => ?_⟩
    obtain ⟨b, off, rfl, hb⟩ := addr_lit (hc 0 (by omega))
    refine ⟨b, off, rfl, hb, fun i hi => ?_⟩
    have := hc i (by omega)
    rw [Addr.add_lit] at this
    rw [this]
    simp [List.getD_eq_getElem?_getD, hi]
section
variable {H : Type} {enc : TypeId × Value → H} {w : World} {base : Nat} {held : Bool}
theorem argBools {fuel : Nat} {a : Option Addr} {len cap : Nat} {x : DataW H × List MemPlace} (h : DataW.trod enc Try.prog w base (fun _ => true) held fuel 23 [.slice a len cap] = some x) : ∃ l, ArgB w a len cap l := by
  rcases Go.Deep.open_bools Try.underlying23 Try.underlying4 (by kernel_rfl) h with ⟨hcs, _⟩ | ⟨y, l, c, B, hcs, _, hl, hm, _, hcell⟩
  · injection hcs with h1; injection h1 with h1 h2 h3
    exact argB (.inl ⟨h1, h2, h3⟩)
  · injection hcs with h1; injection h1 with h1 h2 h3
    subst h1; subst h2; subst h3
    exact argB (.inr ⟨_, B, rfl, hl, hm, hcell⟩)
theorem i64_of_wf {n : Int} (h : (Lit.int .i64 n).wf = true) : i64R n := by
  have : -9223372036854775808 ≤ n ∧ n ≤ 9223372036854775807 := by simpa [Lit.wf, IntKind.min, IntKind.max, IntKind.signed, IntKind.bits] using h
  exact this
instance : Inhabited AC := ⟨⟨0, 0, 0, none, 0, 0, []⟩⟩
theorem act_one {fuel : Nat} {cs : List Value} {x : DataW H × List MemPlace} (h : DataW.trod enc Try.prog w base (fun _ => true) held fuel 31 cs = some x) : ∃ y : AC, cs = acC y ∧ ActV w y := by
  obtain ⟨xs, n, _, _, hlen, hxl, hf⟩ := DataW.trod_struct Try.underlying31 h
  have k4 : Try.prog.cellsOf 31 = 4 := by kernel_rfl
  have k1 : Try.prog.cellsOf 3 = 1 := by kernel_rfl
  have k2 : Try.prog.cellsOf 23 = 1 := by kernel_rfl
  rw [k4] at hlen
  match cs, hlen with
  | [v0, v1, v2, v3], _ =>
    match xs, hxl with
    | [y0, y1, y2, y3], _ =>
      have h0 := hf 0 _ rfl
      have h1 := hf 1 _ rfl
      have h2 := hf 2 _ rfl
      have h3 := hf 3 _ rfl
      simp only [k1, k2, List.drop_zero, List.drop_succ_cons, List.take_succ_cons, List.take_zero, List.getElem?_cons_zero, List.getElem?_cons_succ] at h0 h1 h2 h3
      obtain ⟨n0, e0, _, w0⟩ := DataW.trod_int Try.underlying3 h0
      obtain ⟨n1, e1, _, w1⟩ := DataW.trod_int Try.underlying3 h1
      obtain ⟨n2, e2, _, w2⟩ := DataW.trod_int Try.underlying3 h2
      injection e0 with e0; injection e1 with e1; injection e2 with e2
      subst e0; subst e1; subst e2
      have h4 : ∃ ka kn kc, v3 = .slice ka kn kc := by
        rcases Go.Deep.open_bools Try.underlying23 Try.underlying4 (by kernel_rfl) h3 with ⟨hcs, _⟩ | ⟨y, l, c, B, hcs, _⟩
        · injection hcs with h1; exact ⟨_, _, _, h1⟩
        · injection hcs with h1; exact ⟨_, _, _, h1⟩
      obtain ⟨ka, kn, kc, rfl⟩ := h4
      obtain ⟨ks, hk⟩ := argBools h3
      exact ⟨⟨n0, n1, n2, ka, kn, kc, ks⟩, rfl, i64_of_wf w0, i64_of_wf w1, i64_of_wf w2, hk⟩
theorem argActs {fuel : Nat} {a : Option Addr} {len cap : Nat} {x : DataW H × List MemPlace} (h : DataW.trod enc Try.prog w base (fun _ => true) held fuel 22 [.slice a len cap] = some x) : ∃ l, ActA w a len cap l := by
  rcases Go.Deep.open_slice Try.underlying22 h with ⟨hcs, _⟩ | ⟨y, l, c, m, n, D, Pl, hcs, _, hl, hm, hmm, _, hi⟩
  · injection hcs with h1; injection h1 with h1 h2 h3
    subst h1; subst h2; subst h3
    exact ⟨[], rfl, Nat.le_refl _, Nat.zero_le _, (fun x hx => by cases hx), fun h0 => absurd h0 (by omega)⟩
  · injection hcs with h1; injection h1 with h1 h2 h3
    subst h1; subst h2; subst h3
    simp only [if_true] at hmm
    subst hmm
    have k4 : Try.prog.cellsOf 31 = 4 := by kernel_rfl
    rw [k4] at hi
    obtain ⟨f, hf⟩ := Go.Deep.choose_lt (α := AC) (n := len) (p := fun i y' => (∀ j v, (acC y')[j]? = some v → w.cell? (y.add (i * 4 + j)) = some v) ∧ ActV w y') (fun i hil => by
      obtain ⟨cs', hc, ht⟩ := hi i (by omega)
      obtain ⟨y', rfl, hv⟩ := act_one ht
      obtain ⟨_, _, hat⟩ := World.cells?_some hc
      refine ⟨y', fun j v hj => ?_, hv⟩
      have hj4 : j < 4 := by
        rcases Nat.lt_or_ge j 4 with h | h
        · exact h
        · rw [List.getElem?_eq_none (by simpa [acC] using h)] at hj; cases hj
      have := hat j hj4
      rw [hj] at this
      rw [← Go.Deep.add_add]
      exact this)
    refine ⟨(List.range len).map f, by simp, hl, hm, fun x hx => ?_, fun h0 => ?_⟩
    · obtain ⟨i, hi', rfl⟩ := List.mem_map.1 hx
      exact (hf i (List.mem_range.1 hi')).2
    · obtain ⟨b, off, rfl, hb⟩ := addr_lit ((hf 0 h0).1 0 _ rfl)
      refine ⟨b, off, rfl, hb, fun i x hx j v hj => ?_⟩
      have hil : i < len := by
        rcases Nat.lt_or_ge i len with h | h
        · exact h
        · rw [List.getElem?_eq_none (by simpa using h)] at hx; cases hx
      have e : x = f i := by simp [hil] at hx; exact hx.symm
      subst e
      have := (hf i hil).1 j v hj
      rw [Addr.add_lit, ← Nat.add_assoc] at this
      exact this
end
end Go.Proofs.Ytoonaendakjecaa
