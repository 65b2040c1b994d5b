/- What the frame tells of layer 15's arguments: shares, plainly. -/
import Derived.Test.YtkfdcdfaikkneaaGreatDoorXl
import Derived.Test.YtkfdcdfaikkneaaGreatDoorUg
namespace Go.Proofs.YtkfdcdfaikkneaaGreatDoor
open Go.ChangeShapes Go.WideShapes Go.ChangeAt Go.RowKit Go.Shelf Go.Deep
set_option linter.unusedVariables false
set_option linter.unusedSimpArgs false
set_option maxRecDepth 100000

section
variable {H : Type} {enc : TypeId × Value → H} {w : World} {base : Nat} {held : Bool}
theorem share_one {fuel : Nat} {cs : List Value} {x : DataW H × List MemPlace} (h : DataW.trod enc Tryz.prog w base (fun _ => true) held fuel 66 cs = some x) : ∃ y : Int × Int, cs = [.int .u32 y.1, .int .u8 y.2] ∧ (0 ≤ y.1 ∧ y.1 < 4294967296) ∧ byteI y.2 := by
  obtain ⟨xs, n, _, _, hlen, hxl, hf⟩ := DataW.trod_struct Tryz.underlying66 h
  have k2 : Tryz.prog.cellsOf 66 = 2 := by kernel_rfl
  have k1 : Tryz.prog.cellsOf 24 = 1 := by kernel_rfl
  have k3 : Tryz.prog.cellsOf 5 = 1 := by kernel_rfl
  rw [k2] at hlen
  match cs, hlen with
  | [v0, v1], _ =>
    match xs, hxl with
    | [y0, y1], _ =>
      have h0 := hf 0 _ rfl
      have h1 := hf 1 _ rfl
      simp only [k1, k3, List.drop_zero, List.drop_succ_cons, List.take_succ_cons, List.take_zero, List.getElem?_cons_zero, List.getElem?_cons_succ] at h0 h1
      obtain ⟨n0, e0, _, w0⟩ := DataW.trod_int Tryz.underlying24 h0
      obtain ⟨n1, e1, _, w1⟩ := DataW.trod_int Tryz.underlying5 h1
      injection e0 with e0; injection e1 with e1
      subst e0; subst e1
      have a0 : 0 ≤ n0 ∧ n0 ≤ 4294967295 := by simpa [Lit.wf, IntKind.min, IntKind.max, IntKind.signed, IntKind.bits] using w0
      have a1 : 0 ≤ n1 ∧ n1 ≤ 255 := by simpa [Lit.wf, IntKind.min, IntKind.max, IntKind.signed, IntKind.bits] using w1
      exact ⟨(n0, n1), rfl, ⟨a0.1, by show n0 < _; omega⟩, ⟨a1.1, by show n1 < _; omega⟩⟩
theorem argShares {fuel : Nat} {a : Option Addr} {len cap : Nat} {x : DataW H × List MemPlace} (h : DataW.trod enc Tryz.prog w base (fun _ => true) held fuel 22 [.slice a len cap] = some x) : ∃ l, ArgS w a len cap l := by
  rcases Go.Deep.open_slice Tryz.underlying22 h with ⟨hcs, _⟩ | ⟨y, l, c, m, n, D, Pl, hcs, _, hl, hm, hmm, _, hi⟩
  · injection hcs with h1; injection h1 with h1 h2 h3
    subst h1; subst h2; subst h3
    exact ⟨[], rfl, Nat.le_refl _, Nat.zero_le _, (fun x hx => by cases hx), fun h0 => absurd h0 (by omega)⟩
  · injection hcs with h1; injection h1 with h1 h2 h3
    subst h1; subst h2; subst h3
    simp only [if_true] at hmm
    subst hmm
    have k2 : Tryz.prog.cellsOf 66 = 2 := by kernel_rfl
    rw [k2] at hi
    obtain ⟨f, hf⟩ := Go.Deep.choose_lt (α := Int × Int) (n := len) (p := fun i y' => (∀ j v, [Value.int .u32 y'.1, .int .u8 y'.2][j]? = some v → w.cell? (y.add (i * 2 + j)) = some v) ∧ (0 ≤ y'.1 ∧ y'.1 < 4294967296) ∧ byteI y'.2) (fun i hil => by
      obtain ⟨cs', hc, ht⟩ := hi i (by omega)
      obtain ⟨y', rfl, hv⟩ := share_one ht
      obtain ⟨_, _, hat⟩ := World.cells?_some hc
      refine ⟨y', fun j v hj => ?_, hv⟩
      have hj2 : j < 2 := by
        rcases Nat.lt_or_ge j 2 with h | h
        · exact h
        · rw [List.getElem?_eq_none (by simpa using h)] at hj; cases hj
      have := hat j hj2
      rw [hj] at this
      rw [← Go.Deep.add_add]
      exact this)
    refine ⟨(List.range len).map f, by simp, hl, hm, fun x hx => ?_, fun h0 => ?_⟩
    · obtain ⟨i, hi', rfl⟩ := List.mem_map.1 hx
      exact (hf i (List.mem_range.1 hi')).2
    · obtain ⟨b, off, rfl, hb⟩ := addr_lit ((hf 0 h0).1 0 _ rfl)
      refine ⟨b, off, rfl, hb, fun i x hx => ?_⟩
      have hil : i < len := by
        rcases Nat.lt_or_ge i len with h | h
        · exact h
        · rw [List.getElem?_eq_none (by simpa using h)] at hx; cases hx
      have e : x = f i := by simp [hil] at hx; exact hx.symm
      subst e
      have h1 := (hf i hil).1 0 _ rfl
      have h2 := (hf i hil).1 1 _ rfl
      rw [Addr.add_lit, ← Nat.add_assoc] at h1 h2
      exact ⟨h1, h2⟩
end
end Go.Proofs.YtkfdcdfaikkneaaGreatDoor
