/- Media: bools and acts as arguments; the contracts of package medium, as propositions (MediumM). -/
import Derived.Test.YtoonaendakjecaaUa
namespace Go.Proofs.Ytoonaendakjecaa
open Go.ChangeShapes Go.WideShapes Go.ChangeAt Go.RowKit Go.Shelf
set_option linter.unusedVariables false
set_option linter.unusedSimpArgs false
set_option maxRecDepth 100000

/-! ## arguments -/
/-- An argument that is bools. -/
def ArgB (w : World) (a : Option Addr) (n c : Nat) (l : List Bool) : Prop :=
  l.length = n ∧ n ≤ c ∧ c ≤ maxLen ∧ (a = none → c = 0) ∧ (0 < n → ∃ b off, a = some ⟨b, off, none⟩ ∧ b < w.heap.size ∧ ∀ i, i < n → w.cell? ⟨b, off + i, none⟩ = some (.bool (l.getD i false)))
theorem ArgB.nil (w : World) : ArgB w none 0 0 [] := ⟨rfl, Nat.le_refl _, Nat.zero_le _, fun _ => rfl, fun h => absurd h (by omega)⟩
theorem ArgB.kept {w w' : World} {a : Option Addr} {n c : Nat} {l : List Bool} (h : ArgB w a n c l) (hk : ∀ b o, 0 < n → a = some ⟨b, o, none⟩ → b < w.heap.size → w'.heap[b]? = w.heap[b]?) (hs : w.heap.size ≤ w'.heap.size) : ArgB w' a n c l := by
  obtain ⟨h1, h2, h3, h4, h5⟩ := h
  refine ⟨h1, h2, h3, h4, fun h0 => ?_⟩
  obtain ⟨b, off, e, hb, hc⟩ := h5 h0
  exact ⟨b, off, e, by omega, fun i hi => (World.cell?_of_block (w := w) (a := ⟨b, off + i, none⟩) (hk b off h0 e hb)).trans (hc i hi)⟩
theorem ArgB.on {w w' : World} {a : Option Addr} {n c : Nat} {l : List Bool} (h : ArgB w a n c l) (hb : Below w.heap.size w w') : ArgB w' a n c l := h.kept (fun b o _ _ hlt => hb.block b hlt) hb.size
theorem ArgB.bd {w : World} {a : Option Addr} {n c : Nat} {l : List Bool} (h : ArgB w a n c l) : n ≤ c ∧ c ≤ 9223372036854775807 := ⟨h.2.1, by have := h.2.2.1; unfold maxLen at this; omega⟩
theorem ArgB.low {w : World} {a : Option Addr} {n c b o : Nat} {l : List Bool} (h : ArgB w a n c l) (h0 : 0 < n) (e : a = some ⟨b, o, none⟩) : b < w.heap.size := by
  obtain ⟨b', off, e', hb, _⟩ := h.2.2.2.2 h0
  rw [e] at e'; cases e'; exact hb
def i64R (x : Int) : Prop := -9223372036854775808 ≤ x ∧ x ≤ 9223372036854775807
def acC (x : AC) : List Value := [.int .i64 x.kind, .int .i64 x.at_, .int .i64 x.x, .slice x.ka x.kn x.kc]
def acA (x : AC) : Value := .agg #[.int .i64 x.kind, .int .i64 x.at_, .int .i64 x.x, .slice x.ka x.kn x.kc]
/-- An act, as an argument by value. -/
def ActV (w : World) (x : AC) : Prop := i64R x.kind ∧ i64R x.at_ ∧ i64R x.x ∧ ArgB w x.ka x.kn x.kc x.keep
theorem ActV.on {w w' : World} {x : AC} (h : ActV w x) (hb : Below w.heap.size w w') : ActV w' x := ⟨h.1, h.2.1, h.2.2.1, h.2.2.2.on hb⟩
/-- Acts as an argument. -/
def ActA (w : World) (a : Option Addr) (n c : Nat) (l : List AC) : Prop :=
  l.length = n ∧ n ≤ c ∧ c ≤ maxLen ∧ (∀ x, x ∈ l → ActV w x) ∧ (0 < n → ∃ b off, a = some ⟨b, off, none⟩ ∧ b < w.heap.size ∧ ∀ i x, l[i]? = some x → w.rangeAt b (off + i * 4) (acC x))
theorem ActA.on {w w' : World} {a : Option Addr} {n c : Nat} {l : List AC} (h : ActA w a n c l) (hb : Below w.heap.size w w') : ActA w' a n c l := by
  obtain ⟨h1, h2, h3, h4, h5⟩ := h
  refine ⟨h1, h2, h3, fun x hx => (h4 x hx).on hb, fun h0 => ?_⟩
  obtain ⟨b, off, e, hlt, hc⟩ := h5 h0
  exact ⟨b, off, e, Nat.lt_of_lt_of_le hlt hb.size, fun i x hx j v hv => (hb.cell (p := ⟨b, off + i * 4 + j, none⟩) hlt).trans (hc i x hx j v hv)⟩

/-! ## package medium -/
def PO (P : World → Nat → (Nat → Prop) → Int → Nat → Prop) (w : World) (pp : Option Nat) (Fp : Nat → Prop) (l : Int) (u : Nat) : Prop :=
  match pp with
  | none => (∀ k, ¬ Fp k) ∧ l = -1 ∧ u = 0
  | some pb => P w pb Fp l u
abbrev ppV (pp : Option Nat) : Value := .pointer (pp.map fun b => ⟨b, 0, none⟩)
abbrev tbV (tb : Nat) : Value := .pointer (some ⟨tb, 0, none⟩)
/-- What is told lies in new memory; no byte of an argument lies in these blocks. -/
def NewA (w : World) (a : Option Addr) (n : Nat) : Prop := 0 < n → ∀ b o, a = some ⟨b, o, none⟩ → w.heap.size ≤ b
def Off (F : Nat → Prop) (a : Option Addr) (n : Nat) : Prop := 0 < n → ∀ b o, a = some ⟨b, o, none⟩ → ¬ F b
/-- The writes of a cache as they are told: a row of pairs. -/
def cwC : List CW → List (Option Addr × Nat) → List Value
  | x :: c, d :: ds => .int .i64 (x.1 : Nat) :: .slice d.1 512 d.2 :: cwC c ds
  | _, _ => []
/-- What package medium's functions do. R w tb F S pp: at tb lies a medium S on the power pp, in the blocks F; P w pb Fp l u: at pb lies a power that lasts for l more, of which u were used. -/
structure MediumM (R : World → Nat → (Nat → Prop) → MS → Option Nat → Prop) (P : World → Nat → (Nat → Prop) → Int → Nat → Prop) : Prop where
  inside : ∀ {w tb F S pp}, R w tb F S pp → ∀ k, F k → k < w.heap.size
  keep : ∀ {w w' tb F S pp}, R w tb F S pp → (∀ k, F k → w'.heap[k]? = w.heap[k]?) → R w' tb F S pp
  pinside : ∀ {w pb F l u}, P w pb F l u → ∀ k, F k → k < w.heap.size
  pkeep : ∀ {w w' pb F l u}, P w pb F l u → (∀ k, F k → w'.heap[k]? = w.heap[k]?) → P w' pb F l u
  newPower : ∀ (x : Int) (w : World), i64R x →
    Calls Try.prog 15 #[.int .i64 x] w fun e w' => ∃ pb F, e = .returned (tbV pb) ∧ P w' pb F (max x (-1)) 0 ∧ (∀ k, F k → w.heap.size ≤ k) ∧ Below w.heap.size w w'
  on : ∀ (pp : Option Nat) (F : Nat → Prop) (l : Int) (u : Nat) (w : World), PO P w pp F l u →
    Calls Try.prog 20 #[ppV pp] w fun e w' => e = .returned (.bool (l != 0)) ∧ Below w.heap.size w w'
  used : ∀ (pp : Option Nat) (F : Nat → Prop) (l : Int) (u : Nat) (w : World), PO P w pp F l u → u ≤ 1000 →
    Calls Try.prog 21 #[ppV pp] w fun e w' => e = .returned (.int .i64 (u : Nat)) ∧ Below w.heap.size w w'
  set : ∀ (pp : Option Nat) (F : Nat → Prop) (l : Int) (u : Nat) (x : Int) (w : World), PO P w pp F l u → i64R x →
    Calls Try.prog 29 #[ppV pp, .int .i64 x] w fun e w' => e = .returned (.tuple #[]) ∧ PO P w' pp F (if pp.isSome then max x (-1) else l) u ∧ KB F w w'
  new : ∀ (n : Nat) (pp : Option Nat) (w : World), 1 ≤ n → n ≤ 2048 →
    Calls Try.prog 9 #[.int .i64 (n : Nat), ppV pp] w fun e w' => ∃ tb F, e = .returned (.tuple #[tbV tb, .int .i64 0]) ∧ R w' tb F (MS.new n) pp ∧ (∀ k, F k → w.heap.size ≤ k) ∧ Below w.heap.size w w'
  newBad : ∀ (n : Int) (pp : Option Nat) (w : World), i64R n → ¬ (1 ≤ n ∧ n ≤ 2048) →
    Calls Try.prog 9 #[.int .i64 n, ppV pp] w fun e w' => ∃ a, e = .returned (.tuple #[.pointer a, .int .i64 2]) ∧ Below w.heap.size w w'
  write : ∀ (tb : Nat) (F Fp : Nat → Prop) (S : MS) (pp : Option Nat) (l : Int) (u : Nat) (i : Int) (a : Option Addr) (n c : Nat) (b : List Int) (w : World), R w tb F S pp → PO P w pp Fp l u → (∀ k, F k → ¬ Fp k) → S.Ok → LeftOk l → S.cache.length ≤ 1000 → u ≤ 1000 → i64R i → Arg8c w a n c b → Off F a n → Off Fp a n →
    Calls Try.prog 25 #[tbV tb, .int .i64 i, .slice a n c] w fun e w' => ∃ F', e = .returned (.int .i64 (opWrite pp.isSome S i b l u).err) ∧ R w' tb F' (opWrite pp.isSome S i b l u).S pp ∧ PO P w' pp Fp (opWrite pp.isSome S i b l u).l (opWrite pp.isSome S i b l u).u ∧ KB (fun k => F k ∨ Fp k) w w' ∧ (∀ k, F' k → F k ∨ w.heap.size ≤ k)
  read : ∀ (tb : Nat) (F Fp : Nat → Prop) (S : MS) (pp : Option Nat) (l : Int) (u : Nat) (i : Int) (w : World), R w tb F S pp → PO P w pp Fp l u → (∀ k, F k → ¬ Fp k) → S.Ok → LeftOk l → S.cache.length ≤ 1000 → u ≤ 1000 → i64R i →
    Calls Try.prog 14 #[tbV tb, .int .i64 i] w fun e w' => ∃ a c, e = .returned (.tuple #[.slice a (opRead S i l u).out.length c, .int .i64 (opRead S i l u).err]) ∧ Arg8c w' a (opRead S i l u).out.length c (opRead S i l u).out ∧ NewA w a (opRead S i l u).out.length ∧ Below w.heap.size w w'
  flush : ∀ (tb : Nat) (F Fp : Nat → Prop) (S : MS) (pp : Option Nat) (l : Int) (u : Nat) (w : World), R w tb F S pp → PO P w pp Fp l u → (∀ k, F k → ¬ Fp k) → S.Ok → LeftOk l → S.cache.length ≤ 1000 → u ≤ 1000 →
    Calls Try.prog 24 #[tbV tb] w fun e w' => ∃ F', e = .returned (.int .i64 (opFlush pp.isSome S l u).err) ∧ R w' tb F' (opFlush pp.isSome S l u).S pp ∧ PO P w' pp Fp (opFlush pp.isSome S l u).l (opFlush pp.isSome S l u).u ∧ KB (fun k => F k ∨ Fp k) w w' ∧ (∀ k, F' k → F k ∨ w.heap.size ≤ k)
  crash : ∀ (tb : Nat) (F : Nat → Prop) (S : MS) (pp : Option Nat) (a : Option Addr) (n c : Nat) (ks : List Bool) (w : World), R w tb F S pp → S.Ok → S.cache.length ≤ 1000 → ArgB w a n c ks → Off F a n →
    Calls Try.prog 12 #[tbV tb, .slice a n c] w fun e w' => ∃ F', e = .returned (.tuple #[]) ∧ R w' tb F' (S.crash ks) pp ∧ KB F w w' ∧ (∀ k, F' k → F k ∨ w.heap.size ≤ k)
  fail : ∀ (tb : Nat) (F : Nat → Prop) (S : MS) (pp : Option Nat) (w : World), R w tb F S pp → S.Ok → S.cache.length ≤ 1000 →
    Calls Try.prog 27 #[tbV tb] w fun e w' => ∃ F', e = .returned (.tuple #[]) ∧ R w' tb F' S.fail pp ∧ KB F w w' ∧ (∀ k, F' k → F k ∨ w.heap.size ≤ k)
  back : ∀ (tb : Nat) (F : Nat → Prop) (S : MS) (pp : Option Nat) (w : World), R w tb F S pp → S.Ok → S.cache.length ≤ 1000 →
    Calls Try.prog 28 #[tbV tb] w fun e w' => ∃ F', e = .returned (.tuple #[]) ∧ R w' tb F' S.back pp ∧ KB F w w' ∧ (∀ k, F' k → F k ∨ w.heap.size ≤ k)
  lose : ∀ (tb : Nat) (F : Nat → Prop) (S : MS) (pp : Option Nat) (i l : Int) (u : Nat) (w : World), R w tb F S pp → S.Ok → S.cache.length ≤ 1000 → i64R i →
    Calls Try.prog 30 #[tbV tb, .int .i64 i] w fun e w' => ∃ F', e = .returned (.int .i64 (opLose S i l u).err) ∧ R w' tb F' (opLose S i l u).S pp ∧ KB F w w' ∧ (∀ k, F' k → F k ∨ w.heap.size ≤ k)
  spoil : ∀ (tb : Nat) (F : Nat → Prop) (S : MS) (pp : Option Nat) (i l : Int) (u : Nat) (a : Option Addr) (n c : Nat) (b : List Int) (w : World), R w tb F S pp → S.Ok → S.cache.length ≤ 1000 → i64R i → Arg8c w a n c b → Off F a n →
    Calls Try.prog 31 #[tbV tb, .int .i64 i, .slice a n c] w fun e w' => ∃ F', e = .returned (.int .i64 (opSpoil S i b l u).err) ∧ R w' tb F' (opSpoil S i b l u).S pp ∧ KB F w w' ∧ (∀ k, F' k → F k ∨ w.heap.size ≤ k)
  snap : ∀ (tb : Nat) (F : Nat → Prop) (S : MS) (pp : Option Nat) (w : World), R w tb F S pp → S.Ok → S.cache.length ≤ 1000 →
    Calls Try.prog 17 #[tbV tb] w fun e w' => ∃ a c, e = .returned (.slice a (snapM S).length c) ∧ Arg8c w' a (snapM S).length c (snapM S) ∧ NewA w a (snapM S).length ∧ Below w.heap.size w w'
  cached : ∀ (tb : Nat) (F : Nat → Prop) (S : MS) (pp : Option Nat) (w : World), R w tb F S pp → S.Ok → S.cache.length ≤ 1000 →
    Calls Try.prog 13 #[tbV tb] w fun e w' => ∃ (a : Option Addr) (c : Nat) (ds : List (Option Addr × Nat)), e = .returned (.slice a S.cache.length c) ∧ w'.ownsRow w.heap.size 43 2 (.slice a S.cache.length c) S.cache.length (cwC S.cache ds) ∧ ds.length = S.cache.length ∧
      (∀ (k : Nat) (x : CW) (d : Option Addr × Nat), S.cache[k]? = some x → ds[k]? = some d → Arg8c w' d.1 512 d.2 x.2 ∧ NewA w d.1 512) ∧ Below w.heap.size w w'
  up : ∀ (tb : Nat) (F : Nat → Prop) (S : MS) (pp : Option Nat) (w : World), R w tb F S pp →
    Calls Try.prog 19 #[tbV tb] w fun e w' => e = .returned (.bool (!S.down)) ∧ Below w.heap.size w w'
  len : ∀ (tb : Nat) (F : Nat → Prop) (S : MS) (pp : Option Nat) (w : World), R w tb F S pp → S.Ok →
    Calls Try.prog 23 #[tbV tb] w fun e w' => e = .returned (.int .i64 (S.size : Nat)) ∧ Below w.heap.size w w'
  copy : ∀ (tb : Nat) (F : Nat → Prop) (S : MS) (pp pq : Option Nat) (w : World), R w tb F S pp → S.Ok → S.cache.length ≤ 1000 →
    Calls Try.prog 11 #[tbV tb, ppV pq] w fun e w' => ∃ tc F', e = .returned (tbV tc) ∧ R w' tc F' S pq ∧ (∀ k, F' k → w.heap.size ≤ k) ∧ Below w.heap.size w w'
  writeNil : ∀ (i : Int) (w : World), i64R i → Calls Try.prog 25 #[.pointer none, .int .i64 i, .slice none 0 0] w fun e w' => e = .returned (.int .i64 1) ∧ Below w.heap.size w w'
  readNil : ∀ (i : Int) (w : World), i64R i → Calls Try.prog 14 #[.pointer none, .int .i64 i] w fun e w' => ∃ a n c, e = .returned (.tuple #[.slice a n c, .int .i64 1]) ∧ Below w.heap.size w w'
  flushNil : ∀ (w : World), Calls Try.prog 24 #[.pointer none] w fun e w' => e = .returned (.int .i64 1) ∧ Below w.heap.size w w'
  crashNil : ∀ (w : World), Calls Try.prog 12 #[.pointer none, .slice none 0 0] w fun e w' => e = .returned (.tuple #[]) ∧ Below w.heap.size w w'
  failNil : ∀ (w : World), Calls Try.prog 27 #[.pointer none] w fun e w' => e = .returned (.tuple #[]) ∧ Below w.heap.size w w'
  backNil : ∀ (w : World), Calls Try.prog 28 #[.pointer none] w fun e w' => e = .returned (.tuple #[]) ∧ Below w.heap.size w w'
  loseNil : ∀ (i : Int) (w : World), i64R i → Calls Try.prog 30 #[.pointer none, .int .i64 i] w fun e w' => e = .returned (.int .i64 1) ∧ Below w.heap.size w w'
  spoilNil : ∀ (i : Int) (w : World), i64R i → Calls Try.prog 31 #[.pointer none, .int .i64 i, .slice none 0 0] w fun e w' => e = .returned (.int .i64 1) ∧ Below w.heap.size w w'
  snapNil : ∀ (w : World), Calls Try.prog 17 #[.pointer none] w fun e w' => ∃ a c, e = .returned (.slice a 0 c) ∧ Below w.heap.size w w'
  cachedNil : ∀ (w : World), Calls Try.prog 13 #[.pointer none] w fun e w' => ∃ a c, e = .returned (.slice a 0 c) ∧ Below w.heap.size w w'
  upNil : ∀ (w : World), Calls Try.prog 19 #[.pointer none] w fun e w' => e = .returned (.bool false) ∧ Below w.heap.size w w'
  lenNil : ∀ (w : World), Calls Try.prog 23 #[.pointer none] w fun e w' => e = .returned (.int .i64 0) ∧ Below w.heap.size w w'
  copyNil : ∀ (w : World), Calls Try.prog 11 #[.pointer none, .pointer none] w fun e w' => e = .returned (.pointer none) ∧ Below w.heap.size w w'
end Go.Proofs.Ytoonaendakjecaa
