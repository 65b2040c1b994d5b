/- Media: a medium and its power in one word (MW); what goes on from call to call. -/
import Derived.Test.YtoonaendakjecaaUc
namespace Go.Proofs.Ytoonaendakjecaa
open Go.ChangeShapes Go.WideShapes Go.ChangeAt Go.RowKit Go.Shelf
set_option linter.unusedVariables false
set_option linter.unusedSimpArgs false
set_option maxRecDepth 100000

section
variable {R : World → Nat → (Nat → Prop) → MS → Option Nat → Prop} {P : World → Nat → (Nat → Prop) → Int → Nat → Prop}
theorem PO.inside (hM : MediumM R P) {w : World} {pp : Option Nat} {F : Nat → Prop} {l : Int} {u : Nat} (h : PO P w pp F l u) : ∀ k, F k → k < w.heap.size := by
  cases pp with
  | none => exact fun k hk => absurd hk (h.1 k)
  | some pb => exact hM.pinside h
theorem PO.keep (hM : MediumM R P) {w w' : World} {pp : Option Nat} {F : Nat → Prop} {l : Int} {u : Nat} (h : PO P w pp F l u) (hk : ∀ k, F k → w'.heap[k]? = w.heap[k]?) : PO P w' pp F l u := by
  cases pp with
  | none => exact h
  | some pb => exact hM.pkeep (show P w pb F l u from h) hk
/-- A medium S at tb in the blocks F, its power in the blocks Fp; j acts were done at most. -/
structure MW (R : World → Nat → (Nat → Prop) → MS → Option Nat → Prop) (P : World → Nat → (Nat → Prop) → Int → Nat → Prop) (w : World) (tb : Nat) (F : Nat → Prop) (S : MS) (pp : Option Nat) (Fp : Nat → Prop) (l : Int) (u j : Nat) : Prop where
  r : R w tb F S pp
  p : PO P w pp Fp l u
  apart : ∀ k, F k → ¬ Fp k
  ok : S.Ok
  left : LeftOk l
  few : S.cache.length ≤ j ∧ u ≤ j
variable {w w' : World} {tb : Nat} {F F' Fp : Nat → Prop} {S : MS} {pp : Option Nat} {l : Int} {u j : Nat}
theorem MW.kept (hM : MediumM R P) (h : MW R P w tb F S pp Fp l u j) (hk : ∀ k, F k ∨ Fp k → w'.heap[k]? = w.heap[k]?) : MW R P w' tb F S pp Fp l u j :=
  ⟨hM.keep h.r (fun k hf => hk k (.inl hf)), h.p.keep hM (fun k hf => hk k (.inr hf)), h.apart, h.ok, h.left, h.few⟩
theorem MW.inside (hM : MediumM R P) (h : MW R P w tb F S pp Fp l u j) {k : Nat} (hk : F k ∨ Fp k) : k < w.heap.size := by
  rcases hk with hk | hk
  · exact hM.inside h.r k hk
  · exact h.p.inside hM k hk
theorem MW.on (hM : MediumM R P) (h : MW R P w tb F S pp Fp l u j) (hb : Below w.heap.size w w') : MW R P w' tb F S pp Fp l u j := h.kept hM fun k hk => hb.block k (h.inside hM hk)
theorem MW.more (h : MW R P w tb F S pp Fp l u j) {j' : Nat} (hj : j ≤ j') : MW R P w tb F S pp Fp l u j' := ⟨h.r, h.p, h.apart, h.ok, h.left, ⟨Nat.le_trans h.few.1 hj, Nat.le_trans h.few.2 hj⟩⟩
theorem apart_next (hM : MediumM R P) (h : MW R P w tb F S pp Fp l u j) (hF : ∀ k, F' k → F k ∨ w.heap.size ≤ k) : ∀ k, F' k → ¬ Fp k := fun k hk hp => by
  rcases hF k hk with h1 | h1
  · exact h.apart k h1 hp
  · have := h.p.inside hM k hp; omega
/-- Behind an act that may use the power. -/
theorem MW.step (hM : MediumM R P) (h : MW R P w tb F S pp Fp l u j) {D : DS} (hr : R w' tb F' D.S pp) (hp : PO P w' pp Fp D.l D.u) (hF : ∀ k, F' k → F k ∨ w.heap.size ≤ k) (hok : D.S.Ok) (hl : LeftOk D.l) (hg : Grow S u D) : MW R P w' tb F' D.S pp Fp D.l D.u (j + 1) :=
  ⟨hr, hp, apart_next hM h hF, hok, hl, ⟨Nat.le_trans hg.1 (Nat.succ_le_succ h.few.1), Nat.le_trans hg.2 (Nat.succ_le_succ h.few.2)⟩⟩
/-- Behind an act that doesn't. -/
theorem MW.stepF (hM : MediumM R P) (h : MW R P w tb F S pp Fp l u j) {S' : MS} (hr : R w' tb F' S' pp) (hk : KB F w w') (hF : ∀ k, F' k → F k ∨ w.heap.size ≤ k) (hok : S'.Ok) (hc : S'.cache.length ≤ S.cache.length + 1) : MW R P w' tb F' S' pp Fp l u (j + 1) :=
  ⟨hr, h.p.keep hM (fun k hp => hk.2 k (h.p.inside hM k hp) (fun hf => h.apart k hf hp)), apart_next hM h hF, hok, h.left, ⟨Nat.le_trans hc (Nat.succ_le_succ h.few.1), Nat.le_trans h.few.2 (Nat.le_succ _)⟩⟩
/-- Where all of it lies. -/
def Hi (B : Nat) (F Fp : Nat → Prop) : Prop := ∀ k, F k ∨ Fp k → B ≤ k
theorem Hi.next {B : Nat} {n : Nat} (h : Hi B F Fp) (hF : ∀ k, F' k → F k ∨ n ≤ k) (hB : B ≤ n) : Hi B F' Fp := fun k hk => by
  rcases hk with hk | hk
  · rcases hF k hk with h1 | h1
    · exact h k (.inl h1)
    · omega
  · exact h k (.inr hk)
theorem Hi.below {B : Nat} (h : Hi B F Fp) (hk : KB (fun k => F k ∨ Fp k) w w') (hB : B ≤ w.heap.size) : Below B w w' := hk.below h hB
theorem Off.new {F : Nat → Prop} {g n : Nat} {a : Option Addr} (ha : a = some ⟨g, 0, none⟩) (h : ¬ F g) : Off F a n := fun _ b o e => by
  rw [ha] at e; cases e; exact h
end

/-! ## lives -/
theorem zsec_made : (madeCells #[Value.int .u8 0] 512).toList = zsec.map (Value.int .u8) := replicate_cells 512
theorem secX7 : secOk (secX 7) := secX_ok (by omega)
theorem secN7 : secN 7 = 512 := rfl
end Go.Proofs.Ytoonaendakjecaa
