/- Journal: a medium and its power in memory in one word (MJ); what an act leaves alone (Stp); shares as rows (ShRow). -/
import Derived.Test.YtkfdcdfaikkneaaGreatDoorXa
import Derived.Test.YtkfdcdfaikkneaaGreatDoorDH
import Derived.Test.YtkfdcdfaikkneaaGreatDoorOb
import Derived.Test.YtkfdcdfaikkneaaGreatDoorOc
import Derived.Test.YtkfdcdfaikkneaaGreatDoorOd
import Derived.Test.YtkfdcdfaikkneaaGreatDoorOg
namespace Go.Proofs.YtkfdcdfaikkneaaGreatDoor
open Go.ChangeShapes Go.WideShapes Go.ChangeAt Go.RowKit Go.Shelf
set_option linter.unusedVariables false
set_option linter.unusedSimpArgs false
set_option maxRecDepth 100000
attribute [local go_sem] Oper.semAt_some

/-! ## the medium -/
theorem poIn {w : World} {pp : Option Nat} {F : Nat → Prop} {l : Int} {u : Nat} (h : PO MedP w pp F l u) : ∀ k, F k → k < w.heap.size := by
  cases pp with
  | none => exact fun k hk => absurd hk (h.1 k)
  | some pb => exact medP_inside (show MedP w pb F l u from h)
theorem poKeep {w w' : World} {pp : Option Nat} {F : Nat → Prop} {l : Int} {u : Nat} (h : PO MedP w pp F l u) (hk : ∀ k, F k → w'.heap[k]? = w.heap[k]?) : PO MedP w' pp F l u := by
  cases pp with
  | none => exact h
  | some pb => exact medP_keep (show MedP w pb F l u from h) hk
/-- A medium S at tb in the blocks F, its power in the blocks Fp; j acts were done at most. -/
structure MJ (w : World) (tb : Nat) (F : Nat → Prop) (S : MS) (pp : Option Nat) (Fp : Nat → Prop) (l : Int) (u j : Nat) : Prop where
  r : MedR w tb F S pp
  p : PO MedP w pp Fp l u
  apart : ∀ k, F k → ¬ Fp k
  ok : S.Ok
  left : LeftOk l
  few : S.cache.length ≤ j ∧ u ≤ j
variable {w w' : World} {tb : Nat} {F F' Fp : Nat → Prop} {S : MS} {pp : Option Nat} {l : Int} {u j : Nat}
theorem MJ.inside (h : MJ w tb F S pp Fp l u j) {k : Nat} (hk : F k ∨ Fp k) : k < w.heap.size := by
  rcases hk with hk | hk
  · exact medR_inside h.r k hk
  · exact poIn h.p k hk
theorem MJ.kept (h : MJ w tb F S pp Fp l u j) (hk : ∀ k, F k ∨ Fp k → w'.heap[k]? = w.heap[k]?) : MJ w' tb F S pp Fp l u j :=
  ⟨medR_keep h.r (fun k hf => hk k (.inl hf)), poKeep h.p (fun k hf => hk k (.inr hf)), h.apart, h.ok, h.left, h.few⟩
theorem MJ.on (h : MJ w tb F S pp Fp l u j) (hb : Below w.heap.size w w') : MJ w' tb F S pp Fp l u j := h.kept fun k hk => hb.block k (h.inside hk)
theorem MJ.more (h : MJ w tb F S pp Fp l u j) {j' : Nat} (hj : j ≤ j') : MJ w tb F S pp Fp l u j' := ⟨h.r, h.p, h.apart, h.ok, h.left, ⟨Nat.le_trans h.few.1 hj, Nat.le_trans h.few.2 hj⟩⟩
theorem MJ.next (h : MJ w tb F S pp Fp l u j) (hF : ∀ k, F' k → F k ∨ w.heap.size ≤ k) : ∀ k, F' k → ¬ Fp k := fun k hk hp => by
  rcases hF k hk with h1 | h1
  · exact h.apart k h1 hp
  · have := poIn h.p k hp; omega
theorem MJ.step (h : MJ w tb F S pp Fp l u j) {D : DS} (hr : MedR w' tb F' D.S pp) (hp : PO MedP w' pp Fp D.l D.u) (hF : ∀ k, F' k → F k ∨ w.heap.size ≤ k) (hok : D.S.Ok) (hl : LeftOk D.l) (hg : Grow S u D) : MJ w' tb F' D.S pp Fp D.l D.u (j + 1) :=
  ⟨hr, hp, h.next hF, hok, hl, ⟨Nat.le_trans hg.1 (Nat.succ_le_succ h.few.1), Nat.le_trans hg.2 (Nat.succ_le_succ h.few.2)⟩⟩
/-- An act that changes the medium, or its power, changes no other block. -/
def Stp (F Fp : Nat → Prop) (w : World) (F' : Nat → Prop) (w' : World) : Prop := KB (fun k => F k ∨ Fp k) w w' ∧ ∀ k, F' k → F k ∨ w.heap.size ≤ k
/-- A block that is there and is none of these. -/
def Fr (F Fp : Nat → Prop) (w : World) (k : Nat) : Prop := k < w.heap.size ∧ ¬ F k ∧ ¬ Fp k
theorem Stp.size (h : Stp F Fp w F' w') : w.heap.size ≤ w'.heap.size := h.1.1.size
theorem Stp.refl (F Fp : Nat → Prop) (w : World) : Stp F Fp w F w := ⟨KB.refl _ _, fun k hk => .inl hk⟩
theorem Stp.of_below (hb : Below w.heap.size w w') : Stp F Fp w F w' := ⟨KB.of_below hb, fun k hk => .inl hk⟩
theorem Stp.fr (h : Stp F Fp w F' w') {k : Nat} (hk : Fr F Fp w k) : Fr F' Fp w' k :=
  ⟨Nat.lt_of_lt_of_le hk.1 h.size, fun hf => by rcases h.2 k hf with h1 | h1; exact hk.2.1 h1; have := hk.1; omega, hk.2.2⟩
theorem Stp.same (h : Stp F Fp w F' w') {k : Nat} (hk : Fr F Fp w k) : w'.heap[k]? = w.heap[k]? := h.1.2 k hk.1 (fun hf => hf.elim hk.2.1 hk.2.2)
theorem Stp.trans {F2 : Nat → Prop} {w2 : World} (h : Stp F Fp w F' w') (k : Stp F' Fp w' F2 w2) : Stp F Fp w F2 w2 := by
  refine ⟨⟨h.1.1.trans k.1.1, fun j hj hf => ?_⟩, fun j hj => ?_⟩
  · have hfr : Fr F Fp w j := ⟨hj, fun h => hf (.inl h), fun h => hf (.inr h)⟩
    exact (k.same (h.fr hfr)).trans (h.same hfr)
  · rcases k.2 j hj with h1 | h1
    · exact h.2 j h1
    · have := h.size; exact .inr (by omega)
theorem Stp.on {w2 : World} (h : Stp F Fp w F' w') (hb : Below w'.heap.size w' w2) : Stp F Fp w F' w2 := h.trans (Stp.of_below hb)
theorem Stp.pre {w0 : World} (hb : Below w0.heap.size w0 w) (hF : ∀ k, F k ∨ Fp k → k < w0.heap.size) (h : Stp F Fp w F' w') : Stp F Fp w0 F' w' := (Stp.of_below hb).trans h
/-- From below: what was ahead of a world where nothing of it was. -/
theorem Stp.below {B : Nat} (h : Stp F Fp w F' w') (hB : B ≤ w.heap.size) (hF : ∀ k, F k ∨ Fp k → B ≤ k) : Below B w w' := h.1.below hF hB
theorem Stp.high {B : Nat} (h : Stp F Fp w F' w') (hB : B ≤ w.heap.size) (hF : ∀ k, F k ∨ Fp k → B ≤ k) : ∀ k, F' k ∨ Fp k → B ≤ k := fun k hk => by
  rcases hk with hk | hk
  · rcases h.2 k hk with h1 | h1
    · exact hF k (.inl h1)
    · omega
  · exact hF k (.inr hk)
theorem MJ.fr_new (h : MJ w tb F S pp Fp l u j) {k : Nat} (h1 : w.heap.size ≤ k) (h2 : k < w'.heap.size) : Fr F Fp w' k := ⟨h2, fun hf => by have := h.inside (.inl hf); omega, fun hf => by have := h.inside (.inr hf); omega⟩
theorem Fr.up (h : Fr F Fp w j) (hs : w.heap.size ≤ w'.heap.size) : Fr F Fp w' j := ⟨Nat.lt_of_lt_of_le h.1 hs, h.2⟩

/-! ## acts -/
theorem jwrite (h : MJ w tb F S pp Fp l u j) (hj : j ≤ 999) {i : Int} (hi : i64R i) {a : Option Addr} {n c : Nat} {b : List Int} (hx : Arg8c w a n c b) (ho : Off F a n) (ho2 : Off Fp a n) :
    Calls Tryz.prog 36 #[tbV tb, .int .i64 i, .slice a n c] w fun e w' => ∃ F', e = .returned (.int .i64 (opWrite pp.isSome S i b l u).err) ∧ MJ w' tb F' (opWrite pp.isSome S i b l u).S pp Fp (opWrite pp.isSome S i b l u).l (opWrite pp.isSome S i b l u).u (j + 1) ∧ Stp F Fp w F' w' := by
  refine (write_any tb F Fp S pp l u i a n c b w h.r h.p h.apart h.ok h.left (by have := h.few.1; omega) (by have := h.few.2; omega) hi hx ho ho2).mono ?_
  rintro e w' ⟨F', rfl, hr, hp, hk, hf⟩
  exact ⟨F', rfl, h.step hr hp hf (opWrite_ok _ h.ok _ hx.1.2.1 _ _) (opWrite_ind (Q := fun D => LeftOk D.l) (fun _ => h.left) (fun _ _ => spendL_ok h.left)) (opWrite_grow _ _ _ _ _ _), ⟨hk, hf⟩⟩
theorem jflush (h : MJ w tb F S pp Fp l u j) (hj : j ≤ 999) :
    Calls Tryz.prog 74 #[tbV tb] w fun e w' => ∃ F', e = .returned (.int .i64 (opFlush pp.isSome S l u).err) ∧ MJ w' tb F' (opFlush pp.isSome S l u).S pp Fp (opFlush pp.isSome S l u).l (opFlush pp.isSome S l u).u (j + 1) ∧ Stp F Fp w F' w' := by
  refine (flush_any tb F Fp S pp l u w h.r h.p h.apart h.ok h.left (by have := h.few.1; omega) (by have := h.few.2; omega)).mono ?_
  rintro e w' ⟨F', rfl, hr, hp, hk, hf⟩
  exact ⟨F', rfl, h.step hr hp hf (opFlush_ok _ h.ok _ _) (opFlush_ind (Q := fun D => LeftOk D.l) (fun _ => h.left) (spendL_ok h.left)) (opFlush_ind (Q := Grow S u) (fun _ => ⟨Nat.le_succ _, Nat.le_succ _⟩) ⟨Nat.zero_le _, usedN_le _ _⟩), ⟨hk, hf⟩⟩
theorem jread (h : MJ w tb F S pp Fp l u j) (hj : j ≤ 999) {i : Int} (hi : i64R i) :
    Calls Tryz.prog 26 #[tbV tb, .int .i64 i] w fun e w' => ∃ a c, e = .returned (.tuple #[.slice a (opRead S i l u).out.length c, .int .i64 (opRead S i l u).err]) ∧ Arg8c w' a (opRead S i l u).out.length c (opRead S i l u).out ∧ Below w.heap.size w w' := by
  refine (read_any tb F Fp S pp l u i w h.r h.p h.apart h.ok h.left (by have := h.few.1; omega) (by have := h.few.2; omega) hi).mono ?_
  rintro e w' ⟨a, c, rfl, hx, -, hb⟩
  exact ⟨a, c, rfl, hx, hb⟩

/-! ## shares -/
abbrev SZ := SH × (Option Addr × Nat)
def szV (z : SZ) : List Value := [.int .u8 z.1.m, .int .u8 z.1.p, .int .u32 z.1.st, .int .u64 z.1.g, .slice z.2.1 z.1.row.length z.2.2]
def szC : List SZ → List Value
  | [] => []
  | z :: r => szV z ++ szC r
theorem szC_append (a b : List SZ) : szC (a ++ b) = szC a ++ szC b := by
  induction a with
  | nil => rfl
  | cons x r ih => rw [List.cons_append, szC, ih, szC, List.append_assoc]
theorem szC_one (z : SZ) : szC [z] = szV z := by simp [szC]
theorem szC_len (l : List SZ) : (szC l).length = l.length * 5 := by
  induction l with
  | nil => rfl
  | cons x r ih => rw [szC, List.length_append, ih, List.length_cons]; show 5 + r.length * 5 = _; omega
theorem szC_get : ∀ {l : List SZ} {k : Nat} {z : SZ}, l[k]? = some z → ∀ i v, (szV z)[i]? = some v → (szC l)[k * 5 + i]? = some v
  | x :: r, 0, z, h, i, v, hi => by
    cases h
    have h5 : i < 5 := by
      rcases Nat.lt_or_ge i 5 with h | h
      · exact h
      · rw [List.getElem?_eq_none (by simpa [szV] using h)] at hi; cases hi
    rw [szC, Nat.zero_mul, Nat.zero_add, List.getElem?_append_left (by simpa [szV] using h5)]
    exact hi
  | x :: r, k + 1, z, h, i, v, hi => by
    have ih := szC_get (l := r) (k := k) (z := z) (by simpa using h) i v hi
    rw [szC, List.getElem?_append_right (by simp [szV]; omega), show (k + 1) * 5 + i - (szV x).length = k * 5 + i by simp [szV]; omega]
    exact ih
structure ShRow (w : World) (a : Option Addr) (n c : Nat) (Z : List SZ) : Prop where
  len : Z.length = n
  own : w.ownsRow 0 54 5 (.slice a n c) n (szC Z)
  row : ∀ z, z ∈ Z → z.1.Wf ∧ z.1.row.length ≤ 500 ∧ Arg8c w z.2.1 z.1.row.length z.2.2 z.1.row
theorem ShRow.on {a : Option Addr} {n c : Nat} {Z : List SZ} (h : ShRow w a n c Z) (hb : Below w.heap.size w w') : ShRow w' a n c Z :=
  ⟨h.len, own_belowU h.own hb, fun z hz => ⟨(h.row z hz).1, (h.row z hz).2.1, (h.row z hz).2.2.onV hb⟩⟩
/-- The blocks of a row of shares, of which the medium has none. -/
def ShBlk (a : Option Addr) (n c : Nat) (Z : List SZ) (k : Nat) : Prop := (Value.slice a n c).ownBlock = some k ∨ ∃ z o, z ∈ Z ∧ 0 < z.1.row.length ∧ z.2.1 = some ⟨k, o, none⟩
def ShFr (F Fp : Nat → Prop) (w : World) (a : Option Addr) (n c : Nat) (Z : List SZ) : Prop := ∀ k, ShBlk a n c Z k → Fr F Fp w k
theorem ShRow.step {a : Option Addr} {n c : Nat} {Z : List SZ} (h : ShRow w a n c Z) (hf : ShFr F Fp w a n c Z) (hs : Stp F Fp w F' w') : ShRow w' a n c Z ∧ ShFr F' Fp w' a n c Z :=
  ⟨⟨h.len, own_blockT h.own (fun g e => hs.same (hf g (.inl e))), fun z hz => ⟨(h.row z hz).1, (h.row z hz).2.1, (h.row z hz).2.2.blockT (fun h0 b o e => hs.same (hf b (.inr ⟨z, o, hz, h0, e⟩)))⟩⟩, fun k hk => hs.fr (hf k hk)⟩
theorem ShFr.up {a : Option Addr} {n c : Nat} {Z : List SZ} (hf : ShFr F Fp w a n c Z) (hs : w.heap.size ≤ w'.heap.size) : ShFr F Fp w' a n c Z := fun k hk => (hf k hk).up hs
theorem ShRow.cells {a : Option Addr} {n c : Nat} {Z : List SZ} (h : ShRow w a n c Z) {k : Nat} {z : SZ} (hz : Z[k]? = some z) : ∃ g, a = some ⟨g, 0, none⟩ ∧ g < w.heap.size ∧ (w.cell? ⟨g, k * 5, none⟩ = some (.int .u8 z.1.m) ∧ w.cell? ⟨g, k * 5 + 1, none⟩ = some (.int .u8 z.1.p) ∧ w.cell? ⟨g, k * 5 + 2, none⟩ = some (.int .u32 z.1.st) ∧ w.cell? ⟨g, k * 5 + 3, none⟩ = some (.int .u64 z.1.g) ∧ w.cell? ⟨g, k * 5 + 4, none⟩ = some (.slice z.2.1 z.1.row.length z.2.2)) := by
  have hk : k < n := by
    rw [← h.len]
    rcases Nat.lt_or_ge k Z.length with h1 | h1
    · exact h1
    · rw [List.getElem?_eq_none h1] at hz; cases hz
  have ho := h.own
  rcases ho.2 with ⟨e, hn⟩ | ⟨g, cap, cur, e, hb, hg, _⟩
  · omega
  · cases e
    have hc : ∀ i v, i < 5 → (szV z)[i]? = some v → w.cell? ⟨g, k * 5 + i, none⟩ = some v := fun i v hi hv => by
      rw [ho.cellAt (k * 5 + i) (by omega)]; exact szC_get hz i v hv
    exact ⟨g, rfl, (Array.getElem?_eq_some_iff.1 hg).1, hc 0 _ (by omega) rfl, hc 1 _ (by omega) rfl, hc 2 _ (by omega) rfl, hc 3 _ (by omega) rfl, hc 4 _ (by omega) rfl⟩
theorem ShRow.bd {a : Option Addr} {n c : Nat} {Z : List SZ} (h : ShRow w a n c Z) : n ≤ c ∧ c ≤ 9223372036854775807 := by
  rcases h.own.2 with ⟨e, hn⟩ | ⟨g, cap, cur, e, hb, hg, h1, h2, _⟩
  · cases e; omega
  · cases e; unfold maxLen at h2; omega
abbrev L_ (Z : List SZ) : List SH := Z.map Prod.fst
end Go.Proofs.YtkfdcdfaikkneaaGreatDoor
