/- One number more behind a row of one's own. No program is named here. -/
import Derived.Test.YtmhknggjpggagaaSrow
import Derived.Test.YtmhknggjpggagaaSm
import Derived.Laws.AppendOwnNone
import Derived.Deep.RegionHeld
namespace Go.Proofs.Ytmhknggjpggagaa
open Go.ChangeShapes Go.WideShapes Go.ChangeAt Go.RowKit Go.Shelf GF
set_option linter.unusedVariables false

theorem own_blkGe {w : World} {base : Nat} {e : TypeId} {v : Value} {n : Nat} {xs : List Value} (h : w.ownsRow base e 1 v n xs) : ∀ k, v.ownBlock = some k → base ≤ k := by
  intro k hk
  rcases h.2 with ⟨rfl, _⟩ | ⟨g, cap, cur, rfl, hg, _⟩
  · cases hk
  · have : some g = some k := hk
    injection this with this
    omega
theorem wpList_append_G1 {P : Program} {w : World} {ops : Array Oper} {rest : List Oper} {o : Oper} {a : Act} {Q : Exit → Act → World → Prop} (hgd : o.guard = none) (s x : Operand) (t : TypeId)
    (ho : o.op = .call { callee := .builtin .append, args := #[s, x], argTypes := #[t, t] })
    (base : Nat) (e : TypeId) (i : TypeInfo) (ht : P.underlying t = some (.slice e)) (hi : P.info? e = some i) (hz : i.zero = some (.int .u8 0)) (hsize : i.size = 1) (hby : i.bytes = 1)
    (v : Value) (n : Nat) (l : List GF) (hs : a.eval s = v) (hown : w.ownsRow base e 1 v n ((iL l).map (Value.int .u8)))
    (c : GF) (T : TypeId) (hx : a.eval x = .slice (some ⟨w.heap.size, 0, none⟩) 1 1) (hn : n ≤ 1000000) (hbase : base ≤ w.heap.size)
    (h : ∀ g' c' w', w'.ownsRow base e 1 (.slice (some ⟨g', 0, none⟩) (n + 1) c') (n + 1) ((iL (l ++ [c])).map (Value.int .u8)) → Below base w w' → wpList P ops Q rest (a.put o.dst (.slice (some ⟨g', 0, none⟩) (n + 1) c')) w') :
    wpList P ops Q (o :: rest) a (w.alloc (.cells #[.int .u8 (toI c)] T)) := by
  have hb : Below base w (w.alloc (.cells #[.int .u8 (toI c)] T)) := (Below.refl _ _).alloc hbase _
  refine wpList_append_own _ hgd s x t ho base e i (.int .u8 0) 1 1 ht hi hz hsize hby rfl (by decide) v n ((iL l).map (Value.int .u8)) hs (hown.alloc _) ⟨w.heap.size, 0, none⟩ 1 1 ([toI c].map (Value.int .u8)) hx rfl ?_ (ints_oneCell _ _) (by unfold maxLen; omega) (by omega) (by simp; omega) ?_
  · intro j u hj
    obtain ⟨hj1, rfl⟩ := getElem?_map_u8 hj
    have : j = 0 := by simp at hj1; omega
    subst this
    rw [Addr.add_lit, Nat.zero_add]
    simp
  · intro v' w' h1 h2 _
    obtain ⟨g', c', rfl⟩ : ∃ g' c', v' = .slice (some ⟨g', 0, none⟩) (n + 1) c' := by
      rcases h1.2 with ⟨_, h0⟩ | ⟨g', c', cur, hv, _⟩
      · omega
      · exact ⟨g', c', hv⟩
    rw [← List.map_append] at h1
    have e1 : iL l ++ [toI c] = iL (l ++ [c]) := by simp [iL]
    rw [e1] at h1
    exact h g' c' w' h1 (hb.grown h2 (by simp; omega) (own_blkGe hown))
theorem own_nilG (w : World) (base : Nat) (e : TypeId) : w.ownsRow base e 1 (.slice none 0 0) 0 ((iL ([] : List GF)).map (Value.int .u8)) := ⟨rfl, .inl ⟨rfl, rfl⟩⟩
theorem own_emptyG (w : World) (e : TypeId) : (w.alloc (.cells #[] e)).ownsRow w.heap.size e 1 (.slice (some ⟨w.heap.size, 0, none⟩) 0 0) 0 ((iL ([] : List GF)).map (Value.int .u8)) :=
  World.ownsRow_lit (base := w.heap.size) (e := e) (size := 1) w #[] 0 (Nat.le_refl _) (Nat.zero_le _) rfl
theorem own_oneG (w : World) (e : TypeId) (c : GF) : (w.alloc (.cells #[.int .u8 (toI c)] e)).ownsRow w.heap.size e 1 (.slice (some ⟨w.heap.size, 0, none⟩) 1 1) 1 ((iL [c]).map (Value.int .u8)) :=
  World.ownsRow_lit (base := w.heap.size) (e := e) (size := 1) w #[.int .u8 (toI c)] 1 (Nat.le_refl _) (by unfold maxLen; omega) rfl
theorem own_leG {w : World} {base base' : Nat} {e : TypeId} {v : Value} {n : Nat} {xs : List Value} (h : w.ownsRow base e 1 v n xs) (hb : base' ≤ base) : w.ownsRow base' e 1 v n xs :=
  ⟨h.1, h.2.elim Or.inl (fun ⟨g, cap, cur, hv, hg, r⟩ => Or.inr ⟨g, cap, cur, hv, Nat.le_trans hb hg, r⟩)⟩
/-- The first numbers of a share, of a dealing's polynomial. -/
def shP (t n : Nat) (S M : List GF) (x : GF) (i : Nat) : List GF := (List.range i).map fun j => ev (dl t n S M j) x
theorem shP_zero (t n : Nat) (S M : List GF) (x : GF) : shP t n S M x 0 = [] := rfl
theorem shP_next (t n : Nat) (S M : List GF) (x : GF) (i : Nat) : shP t n S M x (i + 1) = shP t n S M x i ++ [ev (dl t n S M i) x] := by simp [shP, List.range_succ]
def dlP (n : Nat) (S M : List GF) (i q : Nat) : List GF := co S i :: (List.range q).map fun k => co M (k * n + i)
theorem dlP_zero (n : Nat) (S M : List GF) (i : Nat) : dlP n S M i 0 = [co S i] := rfl
theorem dlP_next (n : Nat) (S M : List GF) (i q : Nat) : dlP n S M i (q + 1) = dlP n S M i q ++ [co M (q * n + i)] := by simp [dlP, List.range_succ]
theorem dlP_all (t n : Nat) (S M : List GF) (i : Nat) : dlP n S M i (t - 1) = dl t n S M i := rfl
theorem dlP_len (n : Nat) (S M : List GF) (i q : Nat) : (dlP n S M i q).length = q + 1 := by simp [dlP]
end Go.Proofs.Ytmhknggjpggagaa
