/- append of bytes onto a row of one's own, whatever the source is; arguments with their capacity. No program is named here. -/
import Derived.Test.YtmhknggjpggagaaStrs
import Derived.OwnWalk
import Derived.Laws.AppendOwnNone
namespace Go.Proofs.Ytmhknggjpggagaa
open Go.RowKit

theorem own_form {w : World} {base : Nat} {e : TypeId} {v : Value} {n : Nat} {l : List Int} (h : w.ownsRow base e 1 v n (l.map (Value.int .u8))) :
    ∃ a c, v = .slice a n c ∧ Bs w w.heap.size a l ∧ l.length = n ∧ n ≤ c ∧ c ≤ maxLen ∧ (a = none → c = 0) := by
  rcases h.2 with ⟨rfl, rfl⟩ | ⟨g, cap, cur, rfl, _, _, hn, hm, _, _⟩
  · exact ⟨none, 0, rfl, (Bs.of_own h).1, (Bs.of_own h).2, Nat.le_refl _, Nat.zero_le _, fun _ => rfl⟩
  · exact ⟨_, cap, rfl, (Bs.of_own h).1, (Bs.of_own h).2, hn, hm, fun h => by cases h⟩

theorem wpList_append_bs {P : Program} (w : World) {ops : Array Oper} {rest : List Oper} {o : Oper} {a : Act} {Q : Exit → Act → World → Prop} (hgd : o.guard = none) (s x : Operand) (t : TypeId)
    (ho : o.op = .call { callee := .builtin .append, args := #[s, x], argTypes := #[t, t] })
    (base : Nat) (e : TypeId) (i : TypeInfo) (ht : P.underlying t = some (.slice e)) (hi : P.info? e = some i) (hz : i.zero = some (.int .u8 0)) (hsize : i.size = 1) (hby : i.bytes = 1)
    (v : Value) (n : Nat) (l : List Int) (hs : a.eval s = v) (hown : w.ownsRow base e 1 v n (l.map (Value.int .u8)))
    (ad : Option Addr) (m c B : Nat) (k : List Int) (hx : a.eval x = .slice ad m c) (hB : Bs w B ad k) (hk : k.length = m) (hc : ad = none → c = 0)
    (hbytes : n + m ≤ 140737488355328) (hbase : base ≤ w.heap.size)
    (h : ∀ v' w', w'.ownsRow base e 1 v' (n + m) ((l ++ k).map (Value.int .u8)) → w.grownBy w' v.ownBlock → wpList P ops Q rest (a.put o.dst v') w') :
    wpList P ops Q (o :: rest) a w := by
  rcases ad with _ | ad
  · obtain rfl : c = 0 := hc rfl
    have hm : k = [] := by
      rcases Nat.eq_zero_or_pos k.length with h0 | h0
      · exact List.eq_nil_of_length_eq_zero h0
      · obtain ⟨_, _, e, _⟩ := hB h0; cases e
    subst hm
    obtain rfl : m = 0 := hk.symm
    refine wpList_append_own_none hgd s x t ho base e i 1 ht hi v n (l.map (Value.int .u8)) hs hown hx ?_
    exact h v w (by simpa using hown) (World.grownBy.refl _ _)
  · refine wpList_append_own w hgd s x t ho base e i (.int .u8 0) 1 1 ht hi hz hsize hby rfl (by decide) v n (l.map (Value.int .u8)) hs hown ad m c (k.map (Value.int .u8)) hx (by simp [hk]) ?_ (ints_oneCell _ _) (by unfold maxLen; omega) (by omega) hbase ?_
    · intro j u hj
      have hj' := getElem?_map_u8 hj
      obtain ⟨ad', e1, hc'⟩ := hB.cells (by simpa using (show 0 < k.length by omega))
      injection e1 with e1
      subst e1
      exact hc' j u hj
    · intro v' w' h1 h2 _
      rw [← List.map_append] at h1
      exact h v' w' h1 h2
/-- An argument, with what a nil slice's capacity is. -/
def Arg8c (w : World) (a : Option Addr) (len cap : Nat) (l : List Int) : Prop := Arg8 w a len cap l ∧ (a = none → cap = 0)
theorem arg8c {w : World} {a : Option Addr} {len cap : Nat} {zs : List Int} (h : (a = none ∧ len = 0 ∧ cap = 0 ∧ zs = []) ∨
    ∃ x, a = some x ∧ len ≤ cap ∧ cap ≤ maxLen ∧ zs.length = cap ∧ (∀ i, i < zs.length → w.cell? (x.add i) = some (.int .u8 (zs.getD i 0))) ∧ ∀ n ∈ zs, (Lit.int .u8 n).wf = true) :
    ∃ l, Arg8c w a len cap l := by
  obtain ⟨l, hl⟩ := arg8 h
  refine ⟨l, hl, fun e => ?_⟩
  rcases h with ⟨_, _, h, _⟩ | ⟨x, h, _⟩
  · exact h
  · rw [h] at e; cases e
end Go.Proofs.Ytmhknggjpggagaa
