/- A struct of 14 one-cell fields opened (Rh2; no hash). -/
import Derived.Test.YtbijakhdngbjmaaGf
import Derived.ChangeShapes
import Derived.WideShapes
import Derived.ChangeSame
import Derived.OpenShut
namespace Go.Proofs.Ytbijakhdngbjmaa
open Go.ChangeShapes Go.WideShapes Go.ChangeAt Go.RowKit Go.Shelf
set_option linter.unusedVariables false
set_option linter.unusedSimpArgs false
set_option maxRecDepth 100000
attribute [local go_sem] Oper.semAt_some

theorem list14 {α : Type} {l : List α} (h : l.length = 14) : ∃ x0 x1 x2 x3 x4 x5 x6 x7 x8 x9 xa xb xc xd, l = [x0, x1, x2, x3, x4, x5, x6, x7, x8, x9, xa, xb, xc, xd] := by
  match l, h with
  | [x0, x1, x2, x3, x4, x5, x6, x7, x8, x9, xa, xb, xc, xd], _ => exact ⟨x0, x1, x2, x3, x4, x5, x6, x7, x8, x9, xa, xb, xc, xd, rfl⟩
theorem cells25 : Try.prog.cellsOf 24 = 1 ∧ Try.prog.cellsOf 27 = 14 := by constructor <;> kernel_rfl
theorem open_u8 {H : Type} {enc : TypeId × Value → H} {W : World} {n : Nat} {c : Value} {y : Option (DataW H × List MemPlace)} (hs : y.isSome = true) (h : DataW.trod enc Try.prog W 0 (fun _ => true) true n 5 [c] = y) : ∃ x : Int, c = .int .u8 x ∧ byteI x := by
  obtain ⟨y, rfl⟩ := Option.isSome_iff_exists.1 hs
  obtain ⟨k, e1, _, h2⟩ := DataW.trod_int Try.underlying5 h
  refine ⟨k, by simpa using e1, ?_⟩
  exact wf_u8 h2
theorem open_u32 {H : Type} {enc : TypeId × Value → H} {W : World} {n : Nat} {c : Value} {y : Option (DataW H × List MemPlace)} (hs : y.isSome = true) (h : DataW.trod enc Try.prog W 0 (fun _ => true) true n 25 [c] = y) : ∃ x : Int, c = .int .u32 x ∧ u32I x := by
  obtain ⟨y, rfl⟩ := Option.isSome_iff_exists.1 hs
  obtain ⟨k, e1, _, h2⟩ := DataW.trod_int Try.underlying25 h
  refine ⟨k, by simpa using e1, ?_⟩
  exact wf_u32 h2
theorem open_b {H : Type} {enc : TypeId × Value → H} {W : World} {n : Nat} {c : Value} {y : Option (DataW H × List MemPlace)} (hs : y.isSome = true) (h : DataW.trod enc Try.prog W 0 (fun _ => true) true n 24 [c] = y) : ∃ (a : Option Addr) (l k : Nat), c = .slice a l k ∧ ∃ zs, Arg8c W a l k zs := by
  obtain ⟨y, rfl⟩ := Option.isSome_iff_exists.1 hs
  rcases open_ints Try.underlying24 Try.underlying5 (by kernel_rfl) h with ⟨hcs, _⟩ | ⟨x, l, c2, zs, hcs, _, hl, hm, hz, _, hcell, hwz⟩
  · exact ⟨none, 0, 0, by simpa using hcs, arg8c (zs := []) (.inl ⟨rfl, rfl, rfl, rfl⟩)⟩
  · exact ⟨some x, l, c2, by simpa using hcs, arg8c (zs := zs) (.inr ⟨_, rfl, hl, hm, by simpa using hz, hcell, hwz⟩)⟩
theorem open_p {H : Type} {enc : TypeId × Value → H} {W : World} {cs : Array Value} {d : DataW H} {p : List MemPlace} (hsz : cs.size = Try.prog.cellsOf 27)
    (h : DataW.Trod enc Try.prog W 0 (fun _ => true) true 27 (.agg cs) d p) :
    ∃ (P : SU) (aN : Option Addr) (lN cN : Nat) (aI : Option Addr) (lI cI : Nat), cs = #[.slice aN lN cN, .int .u8 P.p, .int .u8 P.n, .int .u8 P.t, .int .u8 P.m, .int .u8 P.c, .int .u32 P.bl, .int .u32 P.bo, .int .u32 P.ep, .slice aI lI cI, .int .u32 P.rf, .int .u32 P.sc, .int .u8 P.tg, .int .u32 P.rs] ∧
      ((P.nm = List.replicate 8 0 ∧ P.inn = List.replicate 256 false) ∧ P.Wf ∧ (∃ N, Arg8c W aN lN cN N) ∧ (∃ I, Arg8c W aI lI cI I)) := by
  obtain ⟨fuel, hf⟩ := h
  obtain ⟨l⟩ := cs
  rw [cells25.2] at hsz
  obtain ⟨c0, c1, c2, c3, c4, c5, c6, c7, c8, c9, ca, cb, cc, cd, rfl⟩ := list14 (l := l) hsz
  obtain ⟨xs, n, _, _, _, hlen, hfi⟩ := DataW.trod_struct Try.underlying27 hf
  have hx : ∀ i, i < 14 → (xs[i]?).isSome = true := fun i hi => by
    have : xs.length = 14 := hlen
    rw [List.getElem?_eq_getElem (by omega)]; rfl
  obtain ⟨aN, lN, cN, rfl, wN⟩ := open_b (hx 0 (by omega)) (by have := hfi 0 _ rfl; simpa [cells25.1, Value.cells] using this)
  obtain ⟨p1, rfl, w1⟩ := open_u8 (hx 1 (by omega)) (by have := hfi 1 _ rfl; simpa [cells_1.1, Value.cells] using this)
  obtain ⟨p2, rfl, w2⟩ := open_u8 (hx 2 (by omega)) (by have := hfi 2 _ rfl; simpa [cells_1.1, Value.cells] using this)
  obtain ⟨p3, rfl, w3⟩ := open_u8 (hx 3 (by omega)) (by have := hfi 3 _ rfl; simpa [cells_1.1, Value.cells] using this)
  obtain ⟨p4, rfl, w4⟩ := open_u8 (hx 4 (by omega)) (by have := hfi 4 _ rfl; simpa [cells_1.1, Value.cells] using this)
  obtain ⟨p5, rfl, w5⟩ := open_u8 (hx 5 (by omega)) (by have := hfi 5 _ rfl; simpa [cells_1.1, Value.cells] using this)
  obtain ⟨p6, rfl, w6⟩ := open_u32 (hx 6 (by omega)) (by have := hfi 6 _ rfl; simpa [cells_1.2.1, Value.cells] using this)
  obtain ⟨p7, rfl, w7⟩ := open_u32 (hx 7 (by omega)) (by have := hfi 7 _ rfl; simpa [cells_1.2.1, Value.cells] using this)
  obtain ⟨p8, rfl, w8⟩ := open_u32 (hx 8 (by omega)) (by have := hfi 8 _ rfl; simpa [cells_1.2.1, Value.cells] using this)
  obtain ⟨aI, lI, cI, rfl, wI⟩ := open_b (hx 9 (by omega)) (by have := hfi 9 _ rfl; simpa [cells25.1, Value.cells] using this)
  obtain ⟨pa, rfl, wa⟩ := open_u32 (hx 10 (by omega)) (by have := hfi 10 _ rfl; simpa [cells_1.2.1, Value.cells] using this)
  obtain ⟨pb, rfl, wb⟩ := open_u32 (hx 11 (by omega)) (by have := hfi 11 _ rfl; simpa [cells_1.2.1, Value.cells] using this)
  obtain ⟨pc, rfl, wc⟩ := open_u8 (hx 12 (by omega)) (by have := hfi 12 _ rfl; simpa [cells_1.1, Value.cells] using this)
  obtain ⟨pd, rfl, wd⟩ := open_u32 (hx 13 (by omega)) (by have := hfi 13 _ rfl; simpa [cells_1.2.1, Value.cells] using this)
  exact ⟨⟨List.replicate 8 0, p1, p2, p3, p4, p5, p6, p7, p8, List.replicate 256 false, pa, pb, pc, pd⟩, aN, lN, cN, aI, lI, cI, rfl, ⟨rfl, rfl⟩,
    ⟨⟨rfl, fun x hx => by rw [(List.mem_replicate.1 hx).2]; omega⟩, w1, w2, w3, w4, w5, w6, w7, w8, by simp, wa, wb, wc, wd⟩, wN, wI⟩
end Go.Proofs.Ytbijakhdngbjmaa
