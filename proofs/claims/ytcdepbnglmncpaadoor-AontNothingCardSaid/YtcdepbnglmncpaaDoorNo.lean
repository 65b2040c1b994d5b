/- append of bytes onto a full slice: new memory, nothing else changed. No program is named here. -/
import Derived.Test.YtcdepbnglmncpaaDoorQ1
import Derived.ArgAppend
import Derived.Deep.OwnRows
namespace Go.Proofs.YtcdepbnglmncpaaDoor
open Go.RowKit
set_option linter.unusedVariables false

theorem wp_append_full {P : Program} {w : World} {o : Oper} {a : Act} {K : Act → World → Prop} {Q : Exit → Act → World → Prop} (s x : Operand) (t : TypeId)
    (ho : o.op = .call { callee := .builtin .append, args := #[s, x], argTypes := #[t, t] })
    (e : TypeId) (i : TypeInfo) (ht : P.underlying t = some (.slice e)) (hi : P.info? e = some i) (hz : i.zero = some (.int .u8 0)) (hsize : i.size = 1) (hby : i.bytes = 1)
    (ad : Option Addr) (n c : Nat) (l : List Int) (hs : a.eval s = .slice ad n c) (hA : Arg8 w ad n c l) (hn : 0 < n)
    (bd : Option Addr) (m d : Nat) (k : List Int) (hx : a.eval x = .slice bd m d) (hB : Arg8 w bd m d k) (hm : 0 < m) (hfull : c < n + m) (hbytes : n + m ≤ 140737488355328)
    (h : ∀ g cap w', Arg8 w' (some ⟨g, 0, none⟩) (n + m) cap (l ++ k) → Below w.heap.size w w' → K (a.put o.dst (.slice (some ⟨g, 0, none⟩) (n + m) cap)) w') : o.wp P a w K Q := by
  obtain ⟨hl, hlB, hlb, _, _⟩ := hA
  obtain ⟨hk, hkB, hkb, _, _⟩ := hB
  obtain ⟨a1, rfl, hc1⟩ := hlb.cells (by simpa [hl] using hn)
  obtain ⟨a2, rfl, hc2⟩ := hkb.cells (by simpa [hk] using hm)
  obtain ⟨v', w', hrun, r1, r2⟩ := run_append_arg_grows (P := P) w t o.type e i (.int .u8 0) 1 1 ht hi hz hsize hby rfl (by decide) a1 n c (l.map (Value.int .u8)) (by simp [hl]) hc1 a2 m d (k.map (Value.int .u8)) (by simp [hk]) hc2 hfull (by unfold maxLen; omega) (by omega)
  obtain ⟨g, cap, rfl⟩ : ∃ g cap, v' = .slice (some ⟨g, 0, none⟩) (n + m) cap := by
    rcases r1.2 with ⟨_, h0⟩ | ⟨g, cap, cur, hv, _⟩
    · omega
    · exact ⟨g, cap, hv⟩
  rw [← List.map_append] at r1
  obtain ⟨a', c', hv, hbs, hlen, hc3, hc4, _⟩ := own_form r1
  cases hv
  unfold Oper.wp
  simp [execOp, ho, resolve, invoke, builtin, hs, hx, hrun, Result.andThen]
  exact h g cap w' ⟨hlen, (fun y hy => (List.mem_append.1 hy).elim (hlB y) (hkB y)), hbs, hc3, hc4⟩ ((Below.refl _ _).grown r2 (Nat.le_refl _) (fun k hk => by cases hk))
theorem wpList_append_full {P : Program} {w : World} {ops : Array Oper} {rest : List Oper} {o : Oper} {a : Act} {Q : Exit → Act → World → Prop} (hgd : o.guard = none) (s x : Operand) (t : TypeId)
    (ho : o.op = .call { callee := .builtin .append, args := #[s, x], argTypes := #[t, t] })
    (e : TypeId) (i : TypeInfo) (ht : P.underlying t = some (.slice e)) (hi : P.info? e = some i) (hz : i.zero = some (.int .u8 0)) (hsize : i.size = 1) (hby : i.bytes = 1)
    (ad : Option Addr) (n c : Nat) (l : List Int) (hs : a.eval s = .slice ad n c) (hA : Arg8 w ad n c l) (hn : 0 < n)
    (bd : Option Addr) (m d : Nat) (k : List Int) (hx : a.eval x = .slice bd m d) (hB : Arg8 w bd m d k) (hm : 0 < m) (hfull : c < n + m) (hbytes : n + m ≤ 140737488355328)
    (h : ∀ g cap w', Arg8 w' (some ⟨g, 0, none⟩) (n + m) cap (l ++ k) → Below w.heap.size w w' → wpList P ops Q rest (a.put o.dst (.slice (some ⟨g, 0, none⟩) (n + m) cap)) w') : wpList P ops Q (o :: rest) a w :=
  wpList_plain hgd fun K hK => wp_append_full s x t ho e i ht hi hz hsize hby ad n c l hs hA hn bd m d k hx hB hm hfull hbytes fun g cap w' h1 h2 => hK _ _ (h g cap w' h1 h2)
end Go.Proofs.YtcdepbnglmncpaaDoor
