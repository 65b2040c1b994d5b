/- What the frame tells of layer 16's arguments: plain supers; the law's supers made alike. -/
import Derived.Test.YtbijakhdngbjmaaGp
import Derived.Test.YtbijakhdngbjmaaGq
import Derived.Deep.Grids
import Derived.Deep.Fields
import Derived.ChangeArms
namespace Go.Proofs.Ytbijakhdngbjmaa
open Go.ChangeShapes Go.WideShapes Go.ChangeAt Go.RowKit Go.Shelf Go.Deep
set_option linter.unusedVariables false
set_option linter.unusedSimpArgs false
set_option maxRecDepth 100000

/-- A plain super, as it lies in memory. -/
structure PSu where
  P : SU
  aN : Option Addr
  lN : Nat
  cN : Nat
  N : List Int
  aI : Option Addr
  lI : Nat
  cI : Nat
  I : List Int
instance : Inhabited PSu := ⟨⟨suZ, none, 0, 0, [], none, 0, 0, []⟩⟩
def psA (y : PSu) : Array Value := #[.slice y.aN y.lN y.cN, .int .u8 y.P.p, .int .u8 y.P.n, .int .u8 y.P.t, .int .u8 y.P.m, .int .u8 y.P.c, .int .u32 y.P.bl, .int .u32 y.P.bo, .int .u32 y.P.ep, .slice y.aI y.lI y.cI, .int .u32 y.P.rf, .int .u32 y.P.sc, .int .u8 y.P.tg, .int .u32 y.P.rs]
def PsV (w : World) (y : PSu) : Prop := (y.P.nm = List.replicate 8 0 ∧ y.P.inn = List.replicate 256 false) ∧ y.P.Wf ∧ Arg8c w y.aN y.lN y.cN y.N ∧ Arg8c w y.aI y.lI y.cI y.I
theorem Arg8c.onV {w w' : World} {a : Option Addr} {n c : Nat} {l : List Int} (h : Arg8c w a n c l) (hb : Below w.heap.size w w') : Arg8c w' a n c l := ⟨h.1.on hb, h.2⟩
theorem PsV.on {w w' : World} {y : PSu} (h : PsV w y) (hb : Below w.heap.size w w') : PsV w' y := ⟨h.1, h.2.1, h.2.2.1.onV hb, h.2.2.2.onV hb⟩
/-- A row of plain supers as an argument. -/
def ArgP (w : World) (a : Option Addr) (n c : Nat) (l : List PSu) : Prop :=
  l.length = n ∧ n ≤ c ∧ c ≤ maxLen ∧ (∀ y ∈ l, PsV w y) ∧ (0 < n → ∃ b off, a = some ⟨b, off, none⟩ ∧ b < w.heap.size ∧ ∀ i y, l[i]? = some y → w.rangeAt b (off + i * 14) (psA y).toList)
theorem ArgP.on {w w' : World} {a : Option Addr} {n c : Nat} {l : List PSu} (h : ArgP w a n c l) (hb : Below w.heap.size w w') : ArgP w' a n c l := by
  obtain ⟨h1, h2, h3, h4, h5⟩ := h
  refine ⟨h1, h2, h3, fun y hy => (h4 y hy).on hb, fun hp => ?_⟩
  obtain ⟨b, off, e, hlt, hr⟩ := h5 hp
  exact ⟨b, off, e, Nat.lt_of_lt_of_le hlt hb.size, fun i P hP j v hv => (hb.cell (p := ⟨b, off + i * 14 + j, none⟩) hlt).trans (hr i P hP j v hv)⟩
theorem ArgP.bd {w : World} {a : Option Addr} {n c : Nat} {l : List PSu} (h : ArgP w a n c l) : n ≤ c ∧ c ≤ 9223372036854775807 := ⟨h.2.1, by have := h.2.2.1; unfold maxLen at this; omega⟩
theorem ArgP.at_ {w : World} {a : Option Addr} {n c : Nat} {l : List PSu} (h : ArgP w a n c l) {i : Nat} (hi : i < n) : ∃ b off y, a = some ⟨b, off, none⟩ ∧ b < w.heap.size ∧ l[i]? = some y ∧ PsV w y ∧ w.rangeAt b (off + i * 14) (psA y).toList := by
  obtain ⟨h1, h2, h3, h4, h5⟩ := h
  obtain ⟨b, off, e, hlt, hr⟩ := h5 (by omega)
  exact ⟨b, off, l[i], e, hlt, List.getElem?_eq_getElem (by omega), h4 _ (List.getElem_mem _), hr i _ (List.getElem?_eq_getElem (by omega))⟩
section
variable {H : Type} {enc : TypeId × Value → H} {w : World}
theorem argSupers {fuel : Nat} {a : Option Addr} {len cap : Nat} {x : DataW H × List MemPlace} (h : DataW.trod enc Try.prog w 0 (fun _ => true) true fuel 22 [.slice a len cap] = some x) : ∃ l, ArgP w a len cap l := by
  rcases Go.Deep.open_slice Try.underlying22 h with ⟨hcs, _⟩ | ⟨y, l, c, m, n, D, Pl, hcs, _, hl, hm, hmm, _, hi⟩
  · injection hcs with h1; injection h1 with h1 h2 h3
    subst h1; subst h2; subst h3
    exact ⟨[], rfl, Nat.le_refl _, Nat.zero_le _, (fun x hx => by cases hx), fun h0 => absurd h0 (by omega)⟩
  · injection hcs with h1; injection h1 with h1 h2 h3
    subst h1; subst h2; subst h3
    simp only [if_true] at hmm
    subst hmm
    rw [cells25.2] at hi
    obtain ⟨f, hf⟩ := Go.Deep.choose_lt (α := PSu) (n := len) (p := fun i y' => (∀ j v, (psA y').toList[j]? = some v → w.cell? (y.add (i * 14 + j)) = some v) ∧ PsV w y') (fun i hil => by
      obtain ⟨cs', hc, ht⟩ := hi i (by omega)
      obtain ⟨_, hlen, hat⟩ := World.cells?_some hc
      obtain ⟨P, aN, lN, cN, aI, lI, cI, he, hz, hP, ⟨N, hN⟩, ⟨I, hI⟩⟩ := open_p (enc := enc) (W := w) (cs := cs'.toArray) (d := D i) (p := Pl i) (by rw [cells25.2, List.size_toArray]; exact hlen) ⟨n, by simpa [Value.cells] using ht⟩
      have he2 : cs' = (psA ⟨P, aN, lN, cN, N, aI, lI, cI, I⟩).toList := by
        have := congrArg Array.toList he
        simpa [psA] using this
      refine ⟨⟨P, aN, lN, cN, N, aI, lI, cI, I⟩, fun j v hj => ?_, hz, hP, hN, hI⟩
      rw [← he2] at hj
      have hj14 : j < 14 := by
        rcases Nat.lt_or_ge j 14 with h | h
        · exact h
        · rw [List.getElem?_eq_none (by omega)] at hj; cases hj
      have := hat j hj14
      rw [hj] at this
      rw [← Go.Deep.add_add]
      exact this)
    refine ⟨(List.range len).map f, by simp, hl, hm, fun x hx => ?_, fun h0 => ?_⟩
    · obtain ⟨i, hi', rfl⟩ := List.mem_map.1 hx
      exact (hf i (List.mem_range.1 hi')).2
    · obtain ⟨b, off, rfl, hb⟩ := addr_lit ((hf 0 h0).1 0 _ rfl)
      refine ⟨b, off, rfl, hb, fun i x hx j v hj => ?_⟩
      have hil : i < len := by
        rcases Nat.lt_or_ge i len with h | h
        · exact h
        · rw [List.getElem?_eq_none (by simpa using h)] at hx; cases hx
      have e : x = f i := by simp [hil] at hx; exact hx.symm
      subst e
      have := (hf i hil).1 j v hj
      rw [Addr.add_lit, ← Nat.add_assoc] at this
      exact this
end
/-! ## plain: the law's supers, made alike -/
/-- What number i of them is handed to Of. -/
def aliB (y0 y : PSu) (i : Nat) : SU := { y.P with p := ((i + 1 : Nat) : Int), n := y0.P.n, t := y0.P.t, m := y0.P.m, c := y0.P.c, bl := y0.P.bl }
def aliP (y0 y : PSu) (i : Nat) : SU := (aliB y0 y i).mk2 y0.N y.I
def ofK (y0 : PSu) (l : List PSu) : Nat → List SU
  | 0 => []
  | k + 1 => ofK y0 l k ++ [aliP y0 (l.getD k default) k]
theorem ofK_len (y0 : PSu) (l : List PSu) : ∀ k, (ofK y0 l k).length = k
  | 0 => rfl
  | k + 1 => by rw [ofK, List.length_append, ofK_len y0 l k]; rfl
theorem ofK_mem {y0 : PSu} {l : List PSu} {P : SU} : ∀ {k : Nat}, P ∈ ofK y0 l k → ∃ i, i < k ∧ P = aliP y0 (l.getD i default) i
  | 0, h => by cases h
  | k + 1, h => by
    rw [ofK] at h
    rcases List.mem_append.1 h with h | h
    · obtain ⟨i, hi, e⟩ := ofK_mem h
      exact ⟨i, by omega, e⟩
    · rw [List.mem_singleton] at h
      exact ⟨k, by omega, h⟩
theorem aliB_wf {y0 y : PSu} (h0 : y0.P.Wf) (h : y.P.Wf) {i : Nat} (hi : i < 255) : (aliB y0 y i).Wf := by
  obtain ⟨h1, h2, h3, h4, h5, h6, h7, h8, h9, h10, h11, h12, h13, h14⟩ := h
  exact ⟨h1, ⟨by show (0 : Int) ≤ ((i + 1 : Nat) : Int); omega, by show ((i + 1 : Nat) : Int) < 256; omega⟩, h0.n, h0.t, h0.m, h0.c, h0.bl, h8, h9, h10, h11, h12, h13, h14⟩
theorem ofK_un (y0 : PSu) (l : List PSu) : ∀ k, Unlk (ofK y0 l k)
  | 0 => List.nodup_nil
  | k + 1 => by
    have h := ofK_un y0 l k
    rw [ofK]
    unfold Unlk at *
    rw [List.map_append, List.nodup_append]
    refine ⟨h, by simp, fun a ha b hb e => ?_⟩
    obtain ⟨P, hP, rfl⟩ := List.mem_map.1 ha
    obtain ⟨i, hi, rfl⟩ := ofK_mem hP
    rw [List.map_singleton, List.mem_singleton] at hb
    subst hb
    have e : ((i + 1 : Nat) : Int) = ((k + 1 : Nat) : Int) := e
    omega
theorem ofK_tog {y0 : PSu} {l : List PSu} {w : World} (h0 : PsV w y0) (hl : ∀ y ∈ l, PsV w y) (hn : l.length ≤ 100) : Tog (ofK y0 l l.length) where
  wf P h := by
    obtain ⟨i, hi, rfl⟩ := ofK_mem h
    have hm : l.getD i default ∈ l := by rw [List.getD_eq_getElem?_getD, List.getElem?_eq_getElem hi]; exact List.getElem_mem hi
    exact SU.mk2_wf (aliB_wf h0.2.1 (hl _ hm).2.1 (by omega)) h0.2.2.1.1.2.1
  co P h Q k := by
    obtain ⟨i, _, rfl⟩ := ofK_mem h
    obtain ⟨j, _, rfl⟩ := ofK_mem k
    rfl
  un := ofK_un y0 l _
  le := by rw [ofK_len]; exact hn
end Go.Proofs.Ytbijakhdngbjmaa
