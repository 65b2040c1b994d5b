/- Texts of mine, one behind the other: Q3. -/
import Derived.Test.YtappfdbmhgifcaaGreatDoorZS09
import Derived.Test.YtappfdbmhgifcaaGreatDoorZS10
import Derived.Deep.CutRange
import Derived.Deep.OwnRows
import Derived.Laws.AppendOwnNone
import Derived.Deep.RegionHeld
import Derived.Deep.QuietTactic
import Derived.BigQuiet
import Derived.Test.YtappfdbmhgifcaaGreatDoorZS02
import Derived.Laws.CopyOwn
import Derived.BigRegion
import Derived.ChangeAlike
/- Texts of mine, one behind the other: Prth Srow Sm Sa Sr Sw Sd Su Sv Sc Sl Se Sf Sg Sh. -/
/- Contracts of the document's Places, Weight, Through. -/
namespace Go.Proofs.YtappfdbmhgifcaaGreatDoor
open Go.ChangeShapes Go.WideShapes Go.ChangeAt Go.RowKit Go.Shelf GF
set_option linter.unusedVariables false
set_option maxRecDepth 100000

end Go.Proofs.YtappfdbmhgifcaaGreatDoor
/- Rows of rows of numbers of the field, as they lie in memory: as arguments, and as rows of one's own. -/
namespace Go.Proofs.YtappfdbmhgifcaaGreatDoor
open Go.ChangeShapes Go.WideShapes Go.ChangeAt Go.RowKit Go.Shelf GF
set_option linter.unusedVariables false

/-- The i-th row. -/
def rw_ (M : List (List GF)) (i : Nat) : List GF := M.getD i []
/-- These values are slices that read as these rows; each lies in an old block of which ok holds. -/
def RV (w : World) (ok : Nat → Prop) (vs : List Value) (M : List (List GF)) : Prop :=
  vs.length = M.length ∧ ∀ i, i < M.length → ∃ a c, vs[i]? = some (.slice a (rw_ M i).length c) ∧ (rw_ M i).length ≤ c ∧ c ≤ maxLen ∧ (a = none → c = 0) ∧
    (0 < (rw_ M i).length → ∃ b off, a = some ⟨b, off, none⟩ ∧ b < w.heap.size ∧ ok b ∧ ∀ j, j < (rw_ M i).length → w.cell? ⟨b, off + j, none⟩ = some (.int .u8 (toI (co (rw_ M i) j))))
theorem RV.keep {w w' : World} {ok ok' : Nat → Prop} {vs : List Value} {M : List (List GF)} (h : RV w ok vs M) (hs : w.heap.size ≤ w'.heap.size) (hk : ∀ b, b < w.heap.size → ok b → ok' b ∧ w'.heap[b]? = w.heap[b]?) : RV w' ok' vs M := by
  refine ⟨h.1, fun i hi => ?_⟩
  obtain ⟨a, c, h1, h2, h3, h4, h5⟩ := h.2 i hi
  refine ⟨a, c, h1, h2, h3, h4, fun h0 => ?_⟩
  obtain ⟨b, off, e, hb, ho, hc⟩ := h5 h0
  obtain ⟨k1, k2⟩ := hk b hb ho
  exact ⟨b, off, e, by omega, k1, fun j hj => by rw [World.cell?_of_block (w := w) (a := ⟨b, off + j, none⟩) k2]; exact hc j hj⟩
theorem RV.nil (w : World) (ok : Nat → Prop) : RV w ok [] [] := ⟨rfl, fun i hi => absurd hi (by simp)⟩
theorem RV.pa {w : World} {ok : Nat → Prop} {vs : List Value} {M : List (List GF)} (h : RV w ok vs M) {i : Nat} (hi : i < M.length) : ∃ a c, vs[i]? = some (.slice a (rw_ M i).length c) ∧ Pa w a (rw_ M i).length c (rw_ M i) := by
  obtain ⟨a, c, h1, h2, h3, h4, h5⟩ := h.2 i hi
  refine ⟨a, c, h1, ⟨⟨length_iL _, allB_iL _, fun h0 => ?_, h2, h3⟩, h4⟩⟩
  rw [length_iL] at h0
  obtain ⟨b, off, e, hb, _, hc⟩ := h5 h0
  exact ⟨b, off, e, hb, fun j hj => by rw [length_iL] at hj; rw [getD_iL]; exact hc j hj⟩
/-- One row more. -/
theorem RV.more {w : World} {ok : Nat → Prop} {vs : List Value} {M : List (List GF)} (h : RV w ok vs M) {a : Option Addr} {c : Nat} {P : List GF} (hp : Pa w a P.length c P) (ho : ∀ b off, a = some ⟨b, off, none⟩ → 0 < P.length → ok b) : RV w ok (vs ++ [.slice a P.length c]) (M ++ [P]) := by
  refine ⟨by simp [h.1], fun i hi => ?_⟩
  by_cases e : i < M.length
  · have e1 : rw_ (M ++ [P]) i = rw_ M i := by unfold rw_; simp only [List.getD_eq_getElem?_getD]; rw [List.getElem?_append_left e]
    rw [e1, List.getElem?_append_left (by rw [h.1]; exact e)]
    exact h.2 i e
  · have e0 : i = M.length := by simp at hi; omega
    have e1 : rw_ (M ++ [P]) i = P := by unfold rw_; simp only [List.getD_eq_getElem?_getD]; rw [e0, List.getElem?_append_right (Nat.le_refl _), Nat.sub_self]; rfl
    rw [e1, e0, ← h.1, List.getElem?_append_right (Nat.le_refl _), Nat.sub_self]
    refine ⟨a, c, rfl, hp.1.2.2.2.1, hp.1.2.2.2.2, hp.2, fun h0 => ?_⟩
    obtain ⟨b, off, e, hb, hc⟩ := hp.1.2.2.1 (by rw [length_iL]; exact h0)
    exact ⟨b, off, e, hb, ho b off e h0, fun j hj => by have := hc j (by rw [length_iL]; exact hj); rwa [getD_iL] at this⟩
/-- An argument that is rows of rows. -/
def Mat (w : World) (a : Option Addr) (n c : Nat) (M : List (List GF)) : Prop :=
  M.length = n ∧ n ≤ c ∧ c ≤ maxLen ∧ (a = none → c = 0) ∧ ∃ vs, RV w (fun _ => True) vs M ∧ (0 < n → ∃ b off, a = some ⟨b, off, none⟩ ∧ b < w.heap.size ∧ ∀ i, i < n → w.cell? ⟨b, off + i, none⟩ = vs[i]?)
theorem Mat.on {w w' : World} {a : Option Addr} {n c : Nat} {M : List (List GF)} (h : Mat w a n c M) (hb : Below w.heap.size w w') : Mat w' a n c M := by
  obtain ⟨h1, h2, h3, h4, vs, h5, h6⟩ := h
  refine ⟨h1, h2, h3, h4, vs, h5.keep hb.size (fun b hlt _ => ⟨trivial, hb.block b hlt⟩), fun h0 => ?_⟩
  obtain ⟨b, off, e, hlt, hc⟩ := h6 h0
  exact ⟨b, off, e, by have := hb.size; omega, fun i hi => (hb.cell (p := ⟨b, off + i, none⟩) hlt).trans (hc i hi)⟩
theorem Mat.len {w : World} {a : Option Addr} {n c : Nat} {M : List (List GF)} (h : Mat w a n c M) : M.length = n := h.1
theorem Mat.bd {w : World} {a : Option Addr} {n c : Nat} {M : List (List GF)} (h : Mat w a n c M) : n ≤ c ∧ c ≤ 9223372036854775807 := ⟨h.2.1, by have := h.2.2.1; unfold maxLen at this; omega⟩
/-- One of the rows, for the walk. -/
theorem Mat.row {w : World} {a : Option Addr} {n c : Nat} {M : List (List GF)} (h : Mat w a n c M) {i : Nat} (hi : i < n) : ∃ b off ai ci, a = some ⟨b, off, none⟩ ∧ b < w.heap.size ∧ w.cell? ⟨b, off + i, none⟩ = some (.slice ai (rw_ M i).length ci) ∧ Pa w ai (rw_ M i).length ci (rw_ M i) := by
  obtain ⟨h1, h2, h3, h4, vs, h5, h6⟩ := h
  obtain ⟨b, off, e, hlt, hc⟩ := h6 (by omega)
  obtain ⟨ai, ci, k1, k2⟩ := h5.pa (i := i) (by omega)
  exact ⟨b, off, ai, ci, e, hlt, by rw [hc i hi, k1], k2⟩
/-- A row of rows of one's own, as an argument. -/
theorem Mat.own {w : World} {base : Nat} {e : TypeId} {v : Value} {n : Nat} {vs : List Value} {ok : Nat → Prop} {M : List (List GF)} (h : w.ownsRow base e 1 v n vs) (hv : RV w ok vs M) : ∃ a c, v = .slice a n c ∧ Mat w a n c M := by
  have hl : M.length = n := by rw [← hv.1, h.1, Nat.mul_one]
  have hv2 : RV w (fun _ => True) vs M := hv.keep (Nat.le_refl _) (fun _ _ _ => ⟨trivial, rfl⟩)
  rcases h.2 with ⟨rfl, rfl⟩ | ⟨g, cap, cur, rfl, hg, hh, hn, hm, hs, ht⟩
  · exact ⟨none, 0, rfl, hl, Nat.le_refl _, Nat.zero_le _, fun _ => rfl, vs, hv2, fun h0 => absurd h0 (by omega)⟩
  · refine ⟨_, cap, rfl, hl, hn, hm, (fun h => by cases h), vs, hv2, fun h0 => ⟨g, 0, rfl, ?_, fun i hi => ?_⟩⟩
    · rcases Nat.lt_or_ge g w.heap.size with hlt | hge
      · exact hlt
      · rw [Array.getElem?_eq_none hge] at hh; cases hh
    · rw [Nat.zero_add]; exact h.cellAt i (by omega)
end Go.Proofs.YtappfdbmhgifcaaGreatDoor
/- Shamir's sharing, plainly: dealings as polynomials, shares, what shares tell. No program is named here. -/
namespace Go.Proofs.YtappfdbmhgifcaaGreatDoor
open GF
set_option linter.unusedVariables false

/-- The polynomial of a dealing at byte i: the secret's number, and then the mask's rows'. -/
def dl (t n : Nat) (S M : List GF) (i : Nat) : List GF := co S i :: (List.range (t - 1)).map fun k => co M (k * n + i)
theorem dl_zero (t n : Nat) (S M : List GF) (i : Nat) : co (dl t n S M i) 0 = co S i := co_cons_zero _ _
theorem dl_succ {t k : Nat} (n : Nat) (S M : List GF) (i : Nat) (h : k + 1 < t) : co (dl t n S M i) (k + 1) = co M (k * n + i) := by
  unfold dl
  rw [co_cons_succ]
  unfold co
  simp [List.getD_eq_getElem?_getD, show k < t - 1 by omega]
theorem dl_len {t : Nat} (n : Nat) (S M : List GF) (i : Nat) (h : 1 ≤ t) : (dl t n S M i).length = t := by unfold dl; simp; omega
theorem dl_ge {t k : Nat} (n : Nat) (S M : List GF) (i : Nat) (h : 1 ≤ t) (hk : t ≤ k) : co (dl t n S M i) k = 0 := co_ge (by rw [dl_len n S M i h]; exact hk)
/-- A share: byte by byte the value at x. -/
def shR (t n : Nat) (S M : List GF) (x : GF) : List GF := (List.range n).map fun i => ev (dl t n S M i) x
theorem shR_len (t n : Nat) (S M : List GF) (x : GF) : (shR t n S M x).length = n := by simp [shR]
theorem shR_co {t n i : Nat} (S M : List GF) (x : GF) (h : i < n) : co (shR t n S M x) i = ev (dl t n S M i) x := by
  unfold co shR; simp [List.getD_eq_getElem?_getD, h]
theorem ev_at_zero (p : List GF) : ev p 0 = co p 0 := by
  have h := ev_drop p 0 0
  rw [List.drop_zero] at h
  rw [h, zero_mul, GF.add_zero]
/-- What shares tell of the place x: the rows by number. -/
def atR (X : List GF) (R : Nat → List GF) (x : GF) (n : Nat) : List GF := (List.range n).map fun i => sm X.length fun k => wt X k x * co (R k) i
theorem atR_len (X : List GF) (R : Nat → List GF) (x : GF) (n : Nat) : (atR X R x n).length = n := by simp [atR]
theorem atR_co {X : List GF} {R : Nat → List GF} {x : GF} {n i : Nat} (h : i < n) : co (atR X R x n) i = sm X.length fun k => wt X k x * co (R k) i := by
  unfold atR; unfold co; simp [List.getD_eq_getElem?_getD, h]
/-- .. and the secret. -/
theorem sh_secret {t n : Nat} {S : List GF} (M : List GF) (hS : S.length = n) : shR t n S M 0 = S := by
  refine ext_co (by rw [shR_len, hS]) fun i hi => ?_
  rw [shR_len] at hi
  rw [shR_co S M 0 hi, ev_at_zero, dl_zero]
/-- Rows added. -/
def addR (a b : List GF) : List GF := (List.range a.length).map fun i => co a i + co b i
theorem addR_len (a b : List GF) : (addR a b).length = a.length := by simp [addR]
theorem addR_co {a b : List GF} (h : a.length = b.length) (i : Nat) : co (addR a b) i = co a i + co b i := by
  by_cases hi : i < a.length
  · unfold addR; unfold co; simp [List.getD_eq_getElem?_getD, hi]
  · rw [co_ge (by rw [addR_len]; omega), co_ge (l := a) (by omega), co_ge (l := b) (by omega), GF.add_zero]
/-- A delta's secret is noughts. -/
def noR (n : Nat) : List GF := List.replicate n 0
theorem noR_co (n i : Nat) : co (noR n) i = 0 := by
  unfold noR co
  by_cases h : i < n
  · simp [List.getD_eq_getElem?_getD, h]
  · simp [List.getD_eq_getElem?_getD, h]
/-- The mask that hides the change of a secret from t - 1 places: the vanishing polynomial's, scaled. -/
def hid (n : Nat) (S O V : List GF) (M : List GF) : List GF := (List.range M.length).map fun j => co M j + GF.inv (co V 0) * (co S (j % n) + co O (j % n)) * co V (j / n + 1)
end Go.Proofs.YtappfdbmhgifcaaGreatDoor
/- One number more behind a row of one's own. No program is named here. -/
namespace Go.Proofs.YtappfdbmhgifcaaGreatDoor
open Go.ChangeShapes Go.WideShapes Go.ChangeAt Go.RowKit Go.Shelf GF
set_option linter.unusedVariables false

theorem own_blkGe {w : World} {base : Nat} {e : TypeId} {v : Value} {n : Nat} {xs : List Value} (h : w.ownsRow base e 1 v n xs) : ∀ k, v.ownBlock = some k → base ≤ k := by
  intro k hk
  rcases h.2 with ⟨rfl, _⟩ | ⟨g, cap, cur, rfl, hg, _⟩
  · cases hk
  · have : some g = some k := hk
    injection this with this
    omega
theorem wpList_append_G1 {P : Program} {w : World} {ops : Array Oper} {rest : List Oper} {o : Oper} {a : Act} {Q : Exit → Act → World → Prop} (hgd : o.guard = none) (s x : Operand) (t : TypeId)
    (ho : o.op = .call { callee := .builtin .append, args := #[s, x], argTypes := #[t, t] })
    (base : Nat) (e : TypeId) (i : TypeInfo) (ht : P.underlying t = some (.slice e)) (hi : P.info? e = some i) (hz : i.zero = some (.int .u8 0)) (hsize : i.size = 1) (hby : i.bytes = 1)
    (v : Value) (n : Nat) (l : List GF) (hs : a.eval s = v) (hown : w.ownsRow base e 1 v n ((iL l).map (Value.int .u8)))
    (c : GF) (T : TypeId) (hx : a.eval x = .slice (some ⟨w.heap.size, 0, none⟩) 1 1) (hn : n ≤ 1000000) (hbase : base ≤ w.heap.size)
    (h : ∀ g' c' w', w'.ownsRow base e 1 (.slice (some ⟨g', 0, none⟩) (n + 1) c') (n + 1) ((iL (l ++ [c])).map (Value.int .u8)) → Below base w w' → wpList P ops Q rest (a.put o.dst (.slice (some ⟨g', 0, none⟩) (n + 1) c')) w') :
    wpList P ops Q (o :: rest) a (w.alloc (.cells #[.int .u8 (toI c)] T)) := by
  have hb : Below base w (w.alloc (.cells #[.int .u8 (toI c)] T)) := (Below.refl _ _).alloc hbase _
  refine wpList_append_own _ hgd s x t ho base e i (.int .u8 0) 1 1 ht hi hz hsize hby rfl (by decide) v n ((iL l).map (Value.int .u8)) hs (hown.alloc _) ⟨w.heap.size, 0, none⟩ 1 1 ([toI c].map (Value.int .u8)) hx rfl ?_ (ints_oneCell _ _) (by unfold maxLen; omega) (by omega) (by simp; omega) ?_
  · intro j u hj
    obtain ⟨hj1, rfl⟩ := getElem?_map_u8 hj
    have : j = 0 := by simp at hj1; omega
    subst this
    rw [Addr.add_lit, Nat.zero_add]
    simp
  · intro v' w' h1 h2 _
    obtain ⟨g', c', rfl⟩ : ∃ g' c', v' = .slice (some ⟨g', 0, none⟩) (n + 1) c' := by
      rcases h1.2 with ⟨_, h0⟩ | ⟨g', c', cur, hv, _⟩
      · omega
      · exact ⟨g', c', hv⟩
    rw [← List.map_append] at h1
    have e1 : iL l ++ [toI c] = iL (l ++ [c]) := by simp [iL]
    rw [e1] at h1
    exact h g' c' w' h1 (hb.grown h2 (by simp; omega) (own_blkGe hown))
theorem own_nilG (w : World) (base : Nat) (e : TypeId) : w.ownsRow base e 1 (.slice none 0 0) 0 ((iL ([] : List GF)).map (Value.int .u8)) := ⟨rfl, .inl ⟨rfl, rfl⟩⟩
theorem own_emptyG (w : World) (e : TypeId) : (w.alloc (.cells #[] e)).ownsRow w.heap.size e 1 (.slice (some ⟨w.heap.size, 0, none⟩) 0 0) 0 ((iL ([] : List GF)).map (Value.int .u8)) :=
  World.ownsRow_lit (base := w.heap.size) (e := e) (size := 1) w #[] 0 (Nat.le_refl _) (Nat.zero_le _) rfl
end Go.Proofs.YtappfdbmhgifcaaGreatDoor
/- Contracts of the document's own Share and At. -/
namespace Go.Proofs.YtappfdbmhgifcaaGreatDoor
open Go.ChangeShapes Go.WideShapes Go.ChangeAt Go.RowKit Go.Shelf GF
set_option linter.unusedVariables false
set_option linter.unusedSimpArgs false
set_option maxRecDepth 100000

end Go.Proofs.YtappfdbmhgifcaaGreatDoor
/- The document's Weight once more: it leaves the world but for draws. The document's At. -/
namespace Go.Proofs.YtappfdbmhgifcaaGreatDoor
open Go.ChangeShapes Go.WideShapes Go.ChangeAt Go.RowKit Go.Shelf GF
set_option linter.unusedVariables false
set_option linter.unusedSimpArgs false
set_option maxRecDepth 100000

end Go.Proofs.YtappfdbmhgifcaaGreatDoor
/- The laws' Made: just so many bytes of any. -/
namespace Go.Proofs.YtappfdbmhgifcaaGreatDoor
open Go.ChangeShapes Go.WideShapes Go.ChangeAt Go.RowKit Go.Shelf GF
set_option linter.unusedVariables false
set_option linter.unusedSimpArgs false
set_option maxRecDepth 100000

/-- A row's cells. -/
def gB (P : List GF) (j : Nat) : Value := .int .u8 (toI (co P j))
theorem Blk.pa {w : World} {g n : Nat} {T : TypeId} {P : List GF} (h : Blk w g T n (gB P)) (hl : P.length = n) (hn : n ≤ 1000000) : Pa w (some ⟨g, 0, none⟩) n n P :=
  ⟨⟨by rw [length_iL, hl], allB_iL _, fun h0 => ⟨g, 0, rfl, h.lt, fun i hi => by
    rw [length_iL, hl] at hi
    rw [Nat.zero_add, h.cell hi, getD_iL]; rfl⟩, Nat.le_refl _, by unfold maxLen; omega⟩, fun e => by cases e⟩
end Go.Proofs.YtappfdbmhgifcaaGreatDoor
/- The laws' Unlike: so many unlike places, none 0. -/
namespace Go.Proofs.YtappfdbmhgifcaaGreatDoor
open Go.ChangeShapes Go.WideShapes Go.ChangeAt Go.RowKit Go.Shelf GF
set_option linter.unusedVariables false
set_option linter.unusedSimpArgs false
set_option maxRecDepth 100000

open Go.Maps in
theorem plainElem_bool_inv {P : Program} {e : TypeId} (he : P.underlying e = some .bool) {v : Value} {c : Bool} {ps : List MemPlace} (h : plainElem (H := Unit) P e v = some (.lit (.bool c), ps)) : v = .bool c := by
  unfold plainElem at h
  rw [he] at h
  cases v <;> simp at h
  rw [h.1]
open Go.Maps in
theorem wpList_lookup_own_bool {P : Program} (w : World) {ops : Array Oper} {rest : List Oper} {o : Oper} {a : Act} {Q : Exit → Act → World → Prop}
    (hg : o.guard = none) (m x : Operand) (t : TypeId) (hop : o.op = Op.lookup t m x false)
    (k e : TypeId) (K : Keyed P k) (ht : P.underlying t = some (.map k e)) (he : P.underlying e = some .bool) (hz : (zeroValue e).run P w = .ok (.bool false) w) (b n : Nat) (D : DataW Unit)
    (hm : a.eval m = .map (some b)) (hown : w.ownsMap P k (plainElem P e) b n D) (key : Value) (kl : Lit) (hx : a.eval x = key) (hkey : keyOf P k key = some kl) (c : Bool) (hat : D.atKey kl (.lit (.bool false)) = .lit (.bool c))
    (hK : wpList P ops Q rest (a.put o.dst (.bool c)) w) :
    wpList P ops Q (o :: rest) a w := by
  refine wpList_plain hg fun K' hK' => ?_
  obtain ⟨v, ps, hrun, hv⟩ := hown.lookup K ht hz (plainElem_bool he false) hkey
  rw [hat] at hv
  obtain rfl := plainElem_bool_inv he hv
  unfold Oper.wp
  simp [execOp, hop, hm, hx, hrun, Result.andThen]
  exact hK' _ _ hK
open Go.Maps in
/-- A map literal's entry. -/
theorem wpList_insert_own {H : Type} {P : Program} (w : World) {ops : Array Oper} {rest : List Oper} {o : Oper} {a : Act} {Q : Exit → Act → World → Prop}
    (hg : o.guard = none) (m x v : Operand) (t : TypeId) (hop : o.op = Op.insert t m x v)
    (k e : TypeId) (K : Keyed P k) (ht : P.underlying t = some (.map k e)) (R : Value → Option (DataW H × List MemPlace)) (b n : Nat) (D : DataW H)
    (hm : a.eval m = .map (some b)) (hown : w.ownsMap P k R b n D) (hn : n < maxLen) (key val : Value) (kl : Lit) (hx : a.eval x = key) (hv : a.eval v = val) (hkey : keyOf P k key = some kl)
    (d : DataW H) (ps : List MemPlace) (hval : R val = some (d, ps))
    (hK : ∀ w', w'.ownsMap P k R b (n + 1) (D.put kl d) → w.grownBy w' (some b) → wpList P ops Q rest (a.put o.dst undef) w') :
    wpList P ops Q (o :: rest) a w := by
  refine wpList_plain hg fun K' hK' => ?_
  obtain ⟨w', hrun, r1, r2⟩ := hown.update K ht hn hkey hval
  unfold Oper.wp
  simp [execOp, hop, hm, hx, hv, hrun, Result.andThen]
  exact hK' _ _ (hK w' r1 r2)
open Go.Maps in
/-- Which numbers a map holds. -/
def SeenF (D : DataW Unit) (f : GF → Bool) : Prop := ∀ y : GF, D.atKey (keyG y) (.lit (.bool false)) = .lit (.bool (f y))
def putF (f : GF → Bool) (x y : GF) : Bool := if y.1 = x.1 then true else f y
open Go.Maps in
theorem SeenF.put {D : DataW Unit} {f : GF → Bool} (h : SeenF D f) (hT : Tidy D) (x : GF) : SeenF (D.put (keyG x) (.lit (.bool true))) (putF f x) := by
  intro y
  unfold putF
  by_cases e : y.1 = x.1
  · obtain rfl : y = x := GF.ext e
    rw [atKey_put_same hT.isMap (by trivial), if_pos rfl]
  · rw [atKey_put_other (keyG_ne (fun h => e (by rw [h]))), h y, if_neg e]
open Go.Maps in
theorem ownsMap_on {H : Type} {P : Program} {k : TypeId} {R : Value → Option (DataW H × List MemPlace)} {b n : Nat} {D : DataW H} {w w' : World} {B : Nat} (h : w.ownsMap P k R b n D) (hb : Below B w w') (hB : b < B) : w'.ownsMap P k R b n D := by
  obtain ⟨es, clock, h1, h2⟩ := h
  exact ⟨es, clock, by rw [hb.block b hB]; exact h1, h2⟩
theorem filter_more {x : Nat} {p : Nat → Bool} : ∀ {l : List Nat}, l.Nodup → x ∈ l → p x = false → (l.filter fun j => j == x || p j).length = (l.filter p).length + 1
  | [], _, h, _ => by cases h
  | y :: l, hn, hx, hp => by
    have hn2 := List.nodup_cons.1 hn
    by_cases e : y = x
    · subst e
      have hl : (l.filter fun j => j == y || p j) = l.filter p := List.filter_congr fun j hj => by
        have : j ≠ y := fun h => hn2.1 (by rw [← h]; exact hj)
        simp [this]
      simp [List.filter_cons, hp, hl]
    · have hx2 : x ∈ l := (List.mem_cons.1 hx).resolve_left (fun h => e h.symm)
      have ih := filter_more hn2.2 hx2 hp
      have e2 : (y == x) = false := by simpa using e
      simp only [List.filter_cons, e2, Bool.false_or]
      split
      · simp [ih]
      · exact ih
def fN (f : GF → Bool) (j : Nat) : Bool := if h : j < 256 then f ⟨j, h⟩ else false
def cntF (f : GF → Bool) : Nat := ((List.range 256).filter (fN f)).length
theorem cntF_le (f : GF → Bool) : cntF f ≤ 256 := Nat.le_trans (List.length_filter_le _ _) (by simp)
theorem cntF_put {f : GF → Bool} {x : GF} (h : f x = false) : cntF (putF f x) = cntF f + 1 := by
  have e : fN (putF f x) = fun j => j == x.1 || fN f j := by
    funext j
    unfold fN putF
    by_cases hj : j < 256
    · rw [dif_pos hj, dif_pos hj]
      by_cases e : j = x.1
      · simp [e]
      · rw [if_neg e]
        have : (j == x.1) = false := by simpa using e
        rw [this, Bool.false_or]
    · rw [dif_neg hj, dif_neg hj]
      have : (j == x.1) = false := by have := x.2; simp; omega
      rw [this]; rfl
  unfold cntF
  rw [e]
  exact filter_more List.nodup_range (List.mem_range.2 x.2) (by unfold fN; rw [dif_pos x.2]; exact h)
theorem putF_same {f : GF → Bool} {x : GF} (h : f x = true) : putF f x = f := by
  funext y
  unfold putF
  by_cases e : y.1 = x.1
  · rw [if_pos e, GF.ext e, h]
  · rw [if_neg e]
open Go.Maps in
/-- .. and how many it holds. -/
def HasF (D : DataW Unit) (f : GF → Bool) : Prop := (∀ y : GF, has D (keyG y) = f y) ∧ size D ≤ cntF f
open Go.Maps in
theorem HasF.put {D : DataW Unit} {f : GF → Bool} (h : HasF D f) (hT : Tidy D) (x : GF) (d : DataW Unit) : HasF (D.put (keyG x) d) (putF f x) := by
  refine ⟨fun y => ?_, ?_⟩
  · unfold putF
    by_cases e : y.1 = x.1
    · obtain rfl : y = x := GF.ext e
      rw [has_put_same hT.isMap (by trivial) d, if_pos rfl]
    · rw [has_put_other (keyG_ne (fun h => e (by rw [h]))) d, h.1 y, if_neg e]
  · rw [size_put hT d, h.1 x]
    cases hf : f x with
    | true => rw [if_pos rfl, putF_same hf]; exact h.2
    | false => rw [if_neg (by simp), cntF_put hf]; have := h.2; omega
open Go.Maps in
theorem HasF.none : HasF (.map []) (fun _ => false) := ⟨fun y => by simp [has_eq], Nat.zero_le _⟩
open Go.Maps in
theorem ownsMap_size {P : Program} {k : TypeId} {R : Value → Option (DataW Unit × List MemPlace)} {b n : Nat} {D : DataW Unit} {w : World} (h : w.ownsMap P k R b n D) : w.ownsMap P k R b (size D) D := by
  obtain ⟨es, clock, h1, h2, h3, rfl⟩ := h
  refine ⟨es, clock, h1, h2, ?_, rfl⟩
  show es.size ≤ List.length _
  rw [length_sorted]
  simp
theorem zeroB (w : World) : (zeroValue 4).run Tryz.prog w = .ok (.bool false) w := by kernel_rfl
/-- Whether the first k hold the number j. -/
def snN (X : List GF) (k j : Nat) : Bool := (X.take k).any fun x => x.1 == j
theorem snN_zero (X : List GF) (j : Nat) : snN X 0 j = false := by simp [snN]
theorem snN_next {X : List GF} {k : Nat} (hk : k < X.length) (j : Nat) : snN X (k + 1) j = if j = (co X k).1 then true else snN X k j := by
  have hc : co X k = X[k] := by unfold co; simp [List.getD_eq_getElem?_getD, List.getElem?_eq_getElem hk]
  unfold snN
  rw [← List.take_append_getElem hk, List.any_append, hc]
  by_cases e : j = (X[k]).1
  · simp [e]
  · rw [if_neg e]
    have : ((X[k]).1 == j) = false := by rw [beq_eq_false_iff_ne]; exact fun h => e h.symm
    simp [this]
theorem snN_mem {X : List GF} {y : GF} : snN X X.length y.1 = true ↔ y ∈ X := by
  unfold snN
  rw [List.take_length, List.any_eq_true]
  exact ⟨fun ⟨x, hx, e⟩ => by rw [← GF.ext (beq_iff_eq.1 e)]; exact hx, fun h => ⟨y, h, beq_self_eq_true _⟩⟩
/-- What Unlike gathers: unlike, none 0, at most n, each marked. -/
def Gath (O : List GF) (n : Nat) : Prop := O.Nodup ∧ (0 : GF) ∉ O ∧ O.length ≤ n
theorem Gath.more {O : List GF} {n : Nat} {x : GF} (h : Gath O n) (hx : x ∉ O) (h0 : x ≠ 0) (hl : O.length < n) : Gath (O ++ [x]) n := by
  refine ⟨?_, ?_, by rw [List.length_append]; simp; omega⟩
  · rw [List.nodup_append]
    refine ⟨h.1, by simp, fun a ha b hb e => ?_⟩
    rw [List.mem_singleton] at hb
    subst hb; subst e
    exact hx ha
  · intro h1
    rcases List.mem_append.1 h1 with h1 | h1
    · exact h.2.1 h1
    · exact h0 (List.mem_singleton.1 h1).symm
theorem holes : ∀ (k : Nat) (O : List GF), k < 256 → (∀ y : GF, 1 ≤ y.1 → y.1 ≤ k → y ∈ O) → k ≤ O.length
  | 0, _, _, _ => Nat.zero_le _
  | k + 1, O, hk, h => by
    have hm := h ⟨k + 1, hk⟩ (by simp) (by simp)
    have hl := List.length_eraseP_of_mem (p := fun z : GF => z.1 == k + 1) hm (by simp)
    have hr := holes k (O.eraseP fun z : GF => z.1 == k + 1) (by omega) (fun y h1 h2 => (List.mem_eraseP_of_neg (by simp; omega)).2 (h y h1 (by omega)))
    have hp : 0 < O.length := List.length_pos_of_mem hm
    omega
theorem gath_co {O : List GF} {n : Nat} (h : Gath O n) {k : Nat} (hk : k < O.length) : co O k ≠ 0 := fun e => h.2.1 (by rw [← e, co_lt hk]; exact List.getElem_mem hk)
end Go.Proofs.YtappfdbmhgifcaaGreatDoor
/- The walk of the laws' Unlike. -/
namespace Go.Proofs.YtappfdbmhgifcaaGreatDoor
open Go.ChangeShapes Go.WideShapes Go.ChangeAt Go.RowKit Go.Shelf GF
set_option linter.unusedVariables false
set_option linter.unusedSimpArgs false
set_option maxRecDepth 100000

theorem own_apart {w : World} {base : Nat} {e : TypeId} {v : Value} {n : Nat} {xs : List Value} (h : w.ownsRow base e 1 v n xs) {b : Nat} (hb : b < base) : v.ownBlock = none ∨ v.ownBlock ≠ some b := by
  cases hv : v.ownBlock with
  | none => exact .inl rfl
  | some k => exact .inr fun e => by have := own_blkGe h k hv; injection e with e; omega
end Go.Proofs.YtappfdbmhgifcaaGreatDoor
/- What package shamir's functions answer: the contracts, as statements (each is to be proved of the program). -/
namespace Go.Proofs.YtappfdbmhgifcaaGreatDoor
open Go.ChangeShapes Go.WideShapes Go.ChangeAt Go.RowKit Go.Shelf GF
set_option linter.unusedVariables false

/-- The shares at all places. -/
def shM (t n : Nat) (S M X : List GF) : List (List GF) := X.map fun x => shR t n S M x
theorem shM_len (t n : Nat) (S M X : List GF) : (shM t n S M X).length = X.length := by simp [shM]
theorem shM_row {t n k : Nat} {S M X : List GF} (h : k < X.length) : rw_ (shM t n S M X) k = shR t n S M (co X k) := by
  unfold rw_ shM co
  simp [List.getD_eq_getElem?_getD, h]
/-- Rows of new memory: each lies from block B on. -/
def MatB (w : World) (B : Nat) (a : Option Addr) (n c : Nat) (M : List (List GF)) : Prop :=
  M.length = n ∧ n ≤ c ∧ c ≤ maxLen ∧ (a = none → c = 0) ∧ ∃ vs, RV w (fun b => B ≤ b) vs M ∧ (0 < n → ∃ b off, a = some ⟨b, off, none⟩ ∧ b < w.heap.size ∧ B ≤ b ∧ ∀ i, i < n → w.cell? ⟨b, off + i, none⟩ = vs[i]?)
theorem MatB.mat {w : World} {B : Nat} {a : Option Addr} {n c : Nat} {M : List (List GF)} (h : MatB w B a n c M) : Mat w a n c M := by
  obtain ⟨h1, h2, h3, h4, vs, h5, h6⟩ := h
  refine ⟨h1, h2, h3, h4, vs, h5.keep (Nat.le_refl _) (fun _ _ _ => ⟨trivial, rfl⟩), fun h0 => ?_⟩
  obtain ⟨b, off, e, hb, _, hc⟩ := h6 h0
  exact ⟨b, off, e, hb, hc⟩
theorem MatB.keep {w w' : World} {B : Nat} {a : Option Addr} {n c : Nat} {M : List (List GF)} (h : MatB w B a n c M) (hs : w.heap.size ≤ w'.heap.size) (hk : ∀ b, b < w.heap.size → B ≤ b → w'.heap[b]? = w.heap[b]?) : MatB w' B a n c M := by
  obtain ⟨h1, h2, h3, h4, vs, h5, h6⟩ := h
  refine ⟨h1, h2, h3, h4, vs, h5.keep hs (fun b hlt hb => ⟨hb, hk b hlt hb⟩), fun h0 => ?_⟩
  obtain ⟨b, off, e, hlt, hB, hc⟩ := h6 h0
  exact ⟨b, off, e, by omega, hB, fun i hi => (World.cell?_of_block (w := w) (a := ⟨b, off + i, none⟩) (hk b hlt hB)).trans (hc i hi)⟩
theorem MatB.on {w w' : World} {B : Nat} {a : Option Addr} {n c : Nat} {M : List (List GF)} (h : MatB w B a n c M) (hb : Below w.heap.size w w') : MatB w' B a n c M := h.keep hb.size (fun b hlt _ => hb.block b hlt)
theorem MatB.but {w w' : World} {B g : Nat} {a : Option Addr} {n c : Nat} {M : List (List GF)} (h : MatB w B a n c M) (hg : w.grownBy w' (some g)) (hlt : g < B) : MatB w' B a n c M := h.keep hg.size (fun b h1 h2 => hg.block b h1 (fun e => by injection e with e; omega))
end Go.Proofs.YtappfdbmhgifcaaGreatDoor
/- Layer 8's laws' lives, under the contracts. -/
namespace Go.Proofs.YtappfdbmhgifcaaGreatDoor
open Go.ChangeShapes Go.WideShapes Go.ChangeAt Go.RowKit Go.Shelf GF
set_option linter.unusedVariables false
set_option linter.unusedSimpArgs false
set_option maxRecDepth 100000

def g1 : GF := toG 1
def g2 : GF := toG 2
def g3 : GF := toG 3
def g5 : GF := toG 5
end Go.Proofs.YtappfdbmhgifcaaGreatDoor
/- What stays where memory changed in one block alone; a row that another is added to, place by place. -/
namespace Go.Proofs.YtappfdbmhgifcaaGreatDoor
open Go.ChangeShapes Go.WideShapes Go.ChangeAt Go.RowKit Go.Shelf GF
set_option linter.unusedVariables false

theorem gb_set (w : World) (B i : Nat) (v : Value) : w.grownBy (w.setCell ⟨B, i, none⟩ v) (some B) :=
  ⟨rfl, rfl, rfl, by simp, fun b hb hn => Below.heap_setCell _ _ _ _ (fun e => hn (by rw [e]))⟩
theorem gb_block {w w' : World} {g b : Nat} (h : w.grownBy w' (some g)) (hb : b < w.heap.size) (hn : b ≠ g) : w'.heap[b]? = w.heap[b]? := h.block b hb (fun e => hn (by injection e))
theorem Pa.but {w w' : World} {a : Option Addr} {L c g : Nat} {P : List GF} (h : Pa w a L c P) (hg : w.grownBy w' (some g)) (hne : ∀ b off, a = some ⟨b, off, none⟩ → b ≠ g) : Pa w' a L c P :=
  ⟨⟨h.1.1, h.1.2.1, fun h0 => by
    obtain ⟨b, off, e, hb, hc⟩ := h.1.2.2.1 h0
    exact ⟨b, off, e, Nat.lt_of_lt_of_le hb hg.size, fun j hj => (World.cell?_of_block (w := w) (a := ⟨b, off + j, none⟩) (gb_block hg hb (hne b off e))).trans (hc j hj)⟩, h.1.2.2.2⟩, h.2⟩
theorem Fld.but {w w' : World} {b g : Nat} (h : Fld w b) (hg : w.grownBy w' (some g)) (hne : b ≠ g) : Fld w' b := by
  have e := gb_block hg h.1 hne
  exact ⟨Nat.lt_of_lt_of_le h.1 hg.size, fun j hj => (World.cell?_of_block (w := w) (a := ⟨b, j, none⟩) e).trans (h.2.1 j hj), fun j hj => (World.cell?_of_block (w := w) (a := ⟨b, 510 + j, none⟩) e).trans (h.2.2 j hj)⟩
end Go.Proofs.YtappfdbmhgifcaaGreatDoor
/- The rest of package shamir's contracts that the laws want, as statements; ends of rows, and of rows of rows. -/
namespace Go.Proofs.YtappfdbmhgifcaaGreatDoor
open Go.ChangeShapes Go.WideShapes Go.ChangeAt Go.RowKit Go.Shelf GF
set_option linter.unusedVariables false

/-- The end of a row, from its k-th place on. -/
theorem Pa.drop {w : World} {b o L c : Nat} {P : List GF} (h : Pa w (some ⟨b, o, none⟩) L c P) (k : Nat) : Pa w (some ⟨b, o + k, none⟩) (L - k) (c - k) (P.drop k) := by
  have hl := h.len
  refine ⟨⟨by rw [length_iL, List.length_drop, hl], allB_iL _, fun h0 => ?_, by have := h.1.2.2.2.1; omega, by have := h.1.2.2.2.2; omega⟩, fun h => by cases h⟩
  rw [length_iL, List.length_drop] at h0
  obtain ⟨b', off, e, hb, hc⟩ := h.1.2.2.1 (by rw [length_iL]; omega)
  cases e
  refine ⟨b, o + k, rfl, hb, fun i hi => ?_⟩
  rw [length_iL, List.length_drop] at hi
  have := hc (k + i) (by rw [length_iL]; omega)
  rw [getD_iL] at this
  rw [getD_iL, co_drop, ← this]
  congr 2
  omega
theorem rw_drop (M : List (List GF)) (k i : Nat) : rw_ (M.drop k) i = rw_ M (k + i) := by simp [rw_, List.getD_eq_getElem?_getD]
theorem RV.drop {w : World} {ok : Nat → Prop} {vs : List Value} {M : List (List GF)} (h : RV w ok vs M) (k : Nat) : RV w ok (vs.drop k) (M.drop k) := by
  refine ⟨by rw [List.length_drop, List.length_drop, h.1], fun i hi => ?_⟩
  rw [List.length_drop] at hi
  rw [rw_drop, List.getElem?_drop]
  exact h.2 (k + i) (by omega)
theorem Mat.drop {w : World} {b o n c : Nat} {M : List (List GF)} (h : Mat w (some ⟨b, o, none⟩) n c M) (k : Nat) : Mat w (some ⟨b, o + k, none⟩) (n - k) (c - k) (M.drop k) := by
  obtain ⟨h1, h2, h3, h4, vs, h5, h6⟩ := h
  refine ⟨by rw [List.length_drop, h1], by omega, by omega, (fun e => by cases e), vs.drop k, h5.drop k, fun h0 => ?_⟩
  obtain ⟨b', off, e, hb, hc⟩ := h6 (by omega)
  cases e
  refine ⟨b, o + k, rfl, hb, fun i hi => ?_⟩
  rw [List.getElem?_drop, ← hc (k + i) (by omega)]
  congr 2
  omega
theorem Mat.some_ {w : World} {a : Option Addr} {n c : Nat} {M : List (List GF)} (h : Mat w a n c M) (h0 : 0 < n) : ∃ b o, a = some ⟨b, o, none⟩ := by
  obtain ⟨h1, h2, h3, h4, vs, h5, h6⟩ := h
  obtain ⟨b, o, e, _⟩ := h6 h0
  exact ⟨b, o, e⟩
theorem Pa.some_ {w : World} {a : Option Addr} {L c : Nat} {P : List GF} (h : Pa w a L c P) (h0 : 0 < L) : ∃ b o, a = some ⟨b, o, none⟩ := by
  obtain ⟨b, o, e, _⟩ := h.at_ h0
  exact ⟨b, o, e⟩
end Go.Proofs.YtappfdbmhgifcaaGreatDoor
/- Package shamir's refusals, and MaskSize, as statements; which places are 0. -/
namespace Go.Proofs.YtappfdbmhgifcaaGreatDoor
open Go.ChangeShapes Go.WideShapes Go.ChangeAt Go.RowKit Go.Shelf GF
set_option linter.unusedVariables false

def MaskC : Prop := ∀ (t n : Nat) (w : World), 1 ≤ t → t ≤ 255 → n ≤ 1000 →
  Calls Tryz.prog 48 #[.int .i64 (t : Nat), .int .i64 (n : Nat)] w fun e w' => e = .returned (.int .i64 (((t - 1) * n : Nat) : Int)) ∧ Below w.heap.size w w'
end Go.Proofs.YtappfdbmhgifcaaGreatDoor
/- At's and Join's refusals, as statements; which rows are of unlike lengths. -/
namespace Go.Proofs.YtappfdbmhgifcaaGreatDoor
open Go.ChangeShapes Go.WideShapes Go.ChangeAt Go.RowKit Go.Shelf GF
set_option linter.unusedVariables false

end Go.Proofs.YtappfdbmhgifcaaGreatDoor
