/- Plain: all ways to pick so many of the first n numbers; rows of whole numbers in memory. -/
import Derived.Test.YtfmjfdbbjggcpaaRd
import Derived.Test.YtfmjfdbbjggcpaaIa
import Derived.Laws.AppendOwnNone
import Derived.Deep.AppendLies
namespace Go.Proofs.Ytfmjfdbbjggcpaa
open Go.ChangeShapes Go.WideShapes Go.ChangeAt Go.RowKit Go.Shelf GF
set_option linter.unusedVariables false
set_option linter.unusedSimpArgs false
set_option maxRecDepth 100000

/-- All ways to pick t of the first n numbers, as the document's own function finds them. -/
def pickL : Nat → Nat → List (List Nat)
  | 0, _ => [[]]
  | t + 1, n => (List.range (n - t)).flatMap fun i => (pickL t (t + i)).map (· ++ [t + i])
theorem pickL_mem : ∀ (t n : Nat) (l : List Nat), l ∈ pickL t n → l.length = t ∧ l.Pairwise (· < ·) ∧ ∀ x, x ∈ l → x < n
  | 0, n, l, h => by
    rw [pickL, List.mem_singleton] at h
    subst h
    exact ⟨rfl, List.Pairwise.nil, fun x hx => by cases hx⟩
  | t + 1, n, l, h => by
    rw [pickL, List.mem_flatMap] at h
    obtain ⟨i, hi, h⟩ := h
    obtain ⟨l', hl', rfl⟩ := List.mem_map.1 h
    obtain ⟨h1, h2, h3⟩ := pickL_mem t (t + i) l' hl'
    have hi := List.mem_range.1 hi
    refine ⟨by simp [h1], List.pairwise_append.2 ⟨h2, List.pairwise_singleton _ _, fun a ha b hb => by rw [List.mem_singleton.1 hb]; exact h3 a ha⟩, fun x hx => ?_⟩
    rcases List.mem_append.1 hx with hx | hx
    · have := h3 x hx; omega
    · rw [List.mem_singleton.1 hx]; omega
theorem rising_len : ∀ (n : Nat) (l : List Nat), l.length = n → l.Pairwise (· < ·) → ∀ b, (∀ x, x ∈ l → x < b) → n ≤ b
  | 0, l, _, _, b, _ => Nat.zero_le _
  | n + 1, l, hl, hp, b, hb => by
    obtain ⟨pre, a, rfl⟩ : ∃ pre a, l = pre ++ [a] := ⟨l.dropLast, l.getLast (List.ne_nil_of_length_pos (by omega)), (List.dropLast_concat_getLast (List.ne_nil_of_length_pos (by omega))).symm⟩
    obtain ⟨h1, _, h2⟩ := List.pairwise_append.1 hp
    have h3 := rising_len n pre (by simpa using hl) h1 a (fun x hx => h2 x hx a (List.mem_singleton.2 rfl))
    have h4 := hb a (by simp)
    omega
theorem pickL_all : ∀ (t n : Nat) (l : List Nat), l.length = t → l.Pairwise (· < ·) → (∀ x, x ∈ l → x < n) → l ∈ pickL t n
  | 0, n, l, h, _, _ => by rw [List.eq_nil_of_length_eq_zero h, pickL]; exact List.mem_singleton.2 rfl
  | t + 1, n, l, hl, hp, hb => by
    obtain ⟨pre, a, rfl⟩ : ∃ pre a, l = pre ++ [a] := ⟨l.dropLast, l.getLast (List.ne_nil_of_length_pos (by omega)), (List.dropLast_concat_getLast (List.ne_nil_of_length_pos (by omega))).symm⟩
    obtain ⟨h1, _, h2⟩ := List.pairwise_append.1 hp
    have hpl : pre.length = t := by simpa using hl
    have h3 : ∀ x, x ∈ pre → x < a := fun x hx => h2 x hx a (List.mem_singleton.2 rfl)
    have h4 := rising_len t pre hpl h1 a h3
    have h5 := hb a (by simp)
    rw [pickL, List.mem_flatMap]
    refine ⟨a - t, List.mem_range.2 (by omega), List.mem_map.2 ⟨pre, ?_, ?_⟩⟩
    · rw [show t + (a - t) = a by omega]; exact pickL_all t a pre hpl h1 h3
    · rw [show t + (a - t) = a by omega]
theorem pickL_len : ∀ (t n : Nat), n ≤ 8 → (pickL t n).length ≤ 8 ^ t
  | 0, n, _ => by rw [pickL]; simp
  | t + 1, n, hn => by
    have key : ∀ k, k ≤ n - t → ((List.range k).flatMap fun i => (pickL t (t + i)).map (· ++ [t + i])).length ≤ k * 8 ^ t := by
      intro k
      induction k with
      | zero => intro _; simp
      | succ k ih =>
        intro hk
        rw [List.range_succ, List.flatMap_append, List.length_append]
        have h1 := ih (by omega)
        have h2 := pickL_len t (t + k) (by omega)
        have e : (List.flatMap (fun i => (pickL t (t + i)).map (· ++ [t + i])) [k]).length = (pickL t (t + k)).length := by simp
        rw [e, Nat.add_mul, Nat.one_mul]
        omega
    rw [pickL]
    have h1 := key (n - t) (Nat.le_refl _)
    have h2 : (n - t) * 8 ^ t ≤ 8 * 8 ^ t := Nat.mul_le_mul_right _ (by omega)
    rw [Nat.pow_succ, Nat.mul_comm (8 ^ t)]
    omega
/-- The rows found so far. -/
def pickD (t i : Nat) : List (List Nat) := (List.range i).flatMap fun i => (pickL t (t + i)).map (· ++ [t + i])
theorem pickD_zero (t : Nat) : pickD t 0 = [] := rfl
theorem pickD_next (t i : Nat) : pickD t (i + 1) = pickD t i ++ (pickL t (t + i)).map (· ++ [t + i]) := by unfold pickD; rw [List.range_succ, List.flatMap_append]; simp
theorem pickD_all (t n : Nat) : pickD t (n - t) = pickL (t + 1) n := by rw [pickL]; rfl

/-! ## rows of whole numbers -/
def zl (l : List Nat) : List Int := l.map fun (x : Nat) => (x : Int)
theorem zl_len (l : List Nat) : (zl l).length = l.length := by simp [zl]
theorem zl_get (l : List Nat) (i : Nat) : (zl l).getD i 0 = ((l.getD i 0 : Nat) : Int) := by
  unfold zl
  by_cases h : i < l.length
  · simp [List.getD_eq_getElem?_getD, h]
  · simp [List.getD_eq_getElem?_getD, List.getElem?_eq_none (Nat.le_of_not_lt h)]
theorem zl_app (l m : List Nat) : zl (l ++ m) = zl l ++ zl m := by simp [zl]
/-- A block of whole numbers. -/
def TyI (w : World) (b : Nat) : Prop := ∃ cur fz, w.heap[b]? = some (.cells cur 3 fz)
/-- These values are slices that read as these rows. -/
def rwI (M : List (List Nat)) (i : Nat) : List Nat := M.getD i []
def IVr (w : World) (B : Nat) (vs : List Value) (M : List (List Nat)) : Prop :=
  vs.length = M.length ∧ ∀ i, i < M.length → ∃ a c, vs[i]? = some (.slice a (rwI M i).length c) ∧ (rwI M i).length ≤ c ∧ c ≤ maxLen ∧ (a = none → c = 0) ∧
    (0 < (rwI M i).length → ∃ b off, a = some ⟨b, off, none⟩ ∧ b < w.heap.size ∧ B ≤ b ∧ TyI w b ∧ ∀ j, j < (rwI M i).length → w.cell? ⟨b, off + j, none⟩ = some (.int .i64 ((zl (rwI M i)).getD j 0)))
theorem IVr.keep {w w' : World} {B : Nat} {vs : List Value} {M : List (List Nat)} (h : IVr w B vs M) (hs : w.heap.size ≤ w'.heap.size) (hk : ∀ b, b < w.heap.size → B ≤ b → TyI w b → w'.heap[b]? = w.heap[b]?) : IVr w' B vs M := by
  refine ⟨h.1, fun i hi => ?_⟩
  obtain ⟨a, c, h1, h2, h3, h4, h5⟩ := h.2 i hi
  refine ⟨a, c, h1, h2, h3, h4, fun h0 => ?_⟩
  obtain ⟨b, off, e, hb, hB, ht, hc⟩ := h5 h0
  have k := hk b hb hB ht
  obtain ⟨cur, fz, e2⟩ := ht
  exact ⟨b, off, e, by omega, hB, ⟨cur, fz, k.trans e2⟩, fun j hj => by rw [World.cell?_of_block (w := w) (a := ⟨b, off + j, none⟩) k]; exact hc j hj⟩
theorem IVr.on {w w' : World} {B : Nat} {vs : List Value} {M : List (List Nat)} (h : IVr w B vs M) (hb : Below w.heap.size w w') : IVr w' B vs M := h.keep hb.size fun b hlt _ _ => hb.block b hlt
theorem IVr.nil (w : World) (B : Nat) : IVr w B [] [] := ⟨rfl, fun i hi => absurd hi (by simp)⟩
theorem IVr.grown {w w' : World} {B : Nat} {vs : List Value} {M : List (List Nat)} (h : IVr w B vs M) {base s n : Nat} {e : TypeId} {v : Value} {ys : List Value} (h2 : w.ownsRow base e s v n ys) (hne : 3 ≠ e) (hg : w.grownBy w' v.ownBlock) : IVr w' B vs M :=
  h.keep hg.size fun b hlt _ ⟨cur, fz, hh⟩ => hg.block b hlt (fun e' => by
    rcases h2.2 with ⟨rfl, _⟩ | ⟨g2, c2, cur2, rfl, _, hh2, _⟩
    · cases e'
    · have e3 : b = g2 := by
        have : some b = some g2 := e'
        injection this
      subst e3
      rw [hh] at hh2
      injection hh2 with h3
      injection h3 with _ h4 _
      exact hne h4)
theorem IVr.more {w : World} {B B' : Nat} {vs : List Value} {M : List (List Nat)} (h : IVr w B vs M) {v : Value} {n : Nat} {l : List Nat} (ho : w.ownsRow B' 3 1 v n ((zl l).map (Value.int .i64))) (hB : B ≤ B') : IVr w B (vs ++ [v]) (M ++ [l]) := by
  have hl : l.length = n := by have := ho.1; rw [List.length_map, zl_len, Nat.mul_one] at this; exact this
  refine ⟨by simp [h.1], fun i hi => ?_⟩
  by_cases e : i < M.length
  · have e1 : rwI (M ++ [l]) i = rwI M i := by unfold rwI; simp only [List.getD_eq_getElem?_getD]; rw [List.getElem?_append_left e]
    rw [e1, List.getElem?_append_left (by rw [h.1]; exact e)]
    exact h.2 i e
  · have e0 : i = M.length := by simp at hi; omega
    have e1 : rwI (M ++ [l]) i = l := by unfold rwI; simp only [List.getD_eq_getElem?_getD]; rw [e0, List.getElem?_append_right (Nat.le_refl _), Nat.sub_self]; rfl
    rw [e1, e0, ← h.1, List.getElem?_append_right (Nat.le_refl _), Nat.sub_self]
    rcases ho.2 with ⟨rfl, h0⟩ | ⟨g, cap, cur, rfl, hg, hh, h4, h5, _⟩
    · exact ⟨none, 0, by rw [hl, h0]; rfl, by omega, Nat.zero_le _, fun _ => rfl, fun h1 => absurd h1 (by omega)⟩
    · refine ⟨_, cap, by rw [hl]; rfl, by omega, h5, (fun e => by cases e), fun h1 => ⟨g, 0, rfl, (Array.getElem?_eq_some_iff.1 hh).1, Nat.le_trans hB hg, ⟨cur, _, hh⟩, fun j hj => ?_⟩⟩
      rw [Nat.zero_add, ho.cellAt j (by omega), List.getElem?_map, List.getElem?_eq_getElem (by rw [zl_len]; exact hj)]
      simp [List.getD_eq_getElem?_getD, List.getElem?_eq_getElem (show j < (zl l).length by rw [zl_len]; exact hj)]
/-- Rows of whole numbers behind a block. -/
def IMat (w : World) (B : Nat) (a : Option Addr) (n c : Nat) (M : List (List Nat)) : Prop :=
  M.length = n ∧ n ≤ c ∧ c ≤ maxLen ∧ ∃ vs, IVr w B vs M ∧ (0 < n → ∃ b off, a = some ⟨b, off, none⟩ ∧ b < w.heap.size ∧ B ≤ b ∧ ∀ i, i < n → w.cell? ⟨b, off + i, none⟩ = vs[i]?)
/-- Blocks from lo up to hi stay. -/
def Kp (lo hi : Nat) (V U : World) : Prop := V.heap.size ≤ U.heap.size ∧ ∀ b, lo ≤ b → b < hi → U.heap[b]? = V.heap[b]?
theorem Kp.refl (lo hi : Nat) (V : World) : Kp lo hi V V := ⟨Nat.le_refl _, fun _ _ _ => rfl⟩
theorem Kp.below {lo hi : Nat} {V U W : World} (h : Kp lo hi V U) (hb : Below U.heap.size U W) (hh : hi ≤ V.heap.size) : Kp lo hi V W := ⟨Nat.le_trans h.1 hb.size, fun b h1 h2 => (hb.block b (by have := h.1; omega)).trans (h.2 b h1 h2)⟩
theorem Kp.grown {lo hi : Nat} {V U W : World} {r : Option Nat} (h : Kp lo hi V U) (hg : U.grownBy W r) (hr : ∀ k, r = some k → k < lo ∨ hi ≤ k) (hh : hi ≤ V.heap.size) : Kp lo hi V W :=
  ⟨Nat.le_trans h.1 hg.size, fun b h1 h2 => (hg.block b (by have := h.1; omega) (fun e => by have := hr b e.symm; omega)).trans (h.2 b h1 h2)⟩
theorem IMat.keepR {w w' : World} {B : Nat} {a : Option Addr} {n c : Nat} {M : List (List Nat)} (h : IMat w B a n c M) (hk : Kp B w.heap.size w w') : IMat w' B a n c M := by
  obtain ⟨h1, h2, h3, vs, h5, h6⟩ := h
  refine ⟨h1, h2, h3, vs, h5.keep hk.1 (fun b hlt hB _ => hk.2 b hB hlt), fun h0 => ?_⟩
  obtain ⟨b, off, e, hlt, hB, hc⟩ := h6 h0
  exact ⟨b, off, e, by have := hk.1; omega, hB, fun i hi => by rw [World.cell?_of_block (w := w) (a := ⟨b, off + i, none⟩) (hk.2 b hB hlt)]; exact hc i hi⟩
theorem IMat.on {w w' : World} {B : Nat} {a : Option Addr} {n c : Nat} {M : List (List Nat)} (h : IMat w B a n c M) (hb : Below w.heap.size w w') : IMat w' B a n c M := h.keepR ((Kp.refl _ _ _).below hb (Nat.le_refl _))
theorem IMat.bd {w : World} {B : Nat} {a : Option Addr} {n c : Nat} {M : List (List Nat)} (h : IMat w B a n c M) : n ≤ c ∧ c ≤ 9223372036854775807 := ⟨h.2.1, by have := h.2.2.1; unfold maxLen at this; omega⟩
theorem IMat.own {w : World} {B n c : Nat} {e : TypeId} {a : Option Addr} {vs : List Value} {M : List (List Nat)} (h : w.ownsRow B e 1 (.slice a n c) n vs) (hv : IVr w B vs M) : IMat w B a n c M := by
  have hl : M.length = n := by rw [← hv.1, h.1, Nat.mul_one]
  rcases h.2 with ⟨e, h0⟩ | ⟨g, cap, cur, e, hg, hh, h4, h5, _⟩
  · cases e
    exact ⟨hl, Nat.le_refl _, Nat.zero_le _, vs, hv, fun h => absurd h (by omega)⟩
  · cases e
    exact ⟨hl, h4, h5, vs, hv, fun h0 => ⟨g, 0, rfl, (Array.getElem?_eq_some_iff.1 hh).1, hg, fun i hi => by rw [Nat.zero_add]; exact h.cellAt i (by omega)⟩⟩
theorem IMat.row {w : World} {B : Nat} {a : Option Addr} {n c : Nat} {M : List (List Nat)} (h : IMat w B a n c M) {i : Nat} (hi : i < n) (hb : ∀ x, x ∈ rwI M i → x ≤ 1000) : ∃ b off ai ci, a = some ⟨b, off, none⟩ ∧ b < w.heap.size ∧ w.cell? ⟨b, off + i, none⟩ = some (.slice ai (rwI M i).length ci) ∧ IA w ai (rwI M i).length ci (zl (rwI M i)) := by
  obtain ⟨h1, h2, h3, vs, h5, h6⟩ := h
  obtain ⟨b, off, e, hlt, _, hc⟩ := h6 (by omega)
  obtain ⟨ai, ci, k1, k2, k3, k4, k5⟩ := h5.2 i (by omega)
  refine ⟨b, off, ai, ci, e, hlt, by rw [hc i hi, k1], zl_len _, k2, k3, k4, fun j => ?_, fun h0 => ?_⟩
  · rw [zl_get]
    have : (rwI M i).getD j 0 ≤ 1000 := by
      by_cases hj : j < (rwI M i).length
      · have e : (rwI M i).getD j 0 = (rwI M i)[j] := by simp [List.getD_eq_getElem?_getD, hj]
        rw [e]; exact hb _ (List.getElem_mem hj)
      · rw [List.getD_eq_getElem?_getD, List.getElem?_eq_none (Nat.le_of_not_lt hj)]; exact Nat.zero_le _
    omega
  · obtain ⟨b, off, e, hb, _, _, hc⟩ := k5 h0
    exact ⟨b, off, e, hb, hc⟩
theorem infoI1 : (Try.prog.info? 3).map (fun i => (i.zero, i.size, i.bytes)) = some (some (.int .i64 0), 1, 8) := by kernel_rfl
theorem infoI2 : (Try.prog.info? 47).map (fun i => (i.zero, i.size, i.bytes)) = some (some (.slice none 0 0), 1, 24) := by kernel_rfl
/-- append(row, src...) of whole numbers, nil sources too. -/
theorem wpList_append_ia {P : Program} (w : World) {ops : Array Oper} {rest : List Oper} {o : Oper} {a : Act} {Q : Exit → Act → World → Prop} (hgd : o.guard = none) (s x : Operand) (t : TypeId)
    (ho : o.op = .call { callee := .builtin .append, args := #[s, x], argTypes := #[t, t] })
    (base : Nat) (e : TypeId) (i : TypeInfo) (ht : P.underlying t = some (.slice e)) (hi : P.info? e = some i) (hz : i.zero = some (.int .i64 0)) (hsize : i.size = 1) (hby : i.bytes = 8)
    (v : Value) (n : Nat) (l : List Int) (hs : a.eval s = v) (hown : w.ownsRow base e 1 v n (l.map (Value.int .i64)))
    (ad : Option Addr) (m c : Nat) (k : List Int) (hx : a.eval x = .slice ad m c) (hB : IA w ad m c k) (hn : n + m ≤ 1000) (hbase : base ≤ w.heap.size)
    (h : ∀ v' w', w'.ownsRow base e 1 v' (n + m) ((l ++ k).map (Value.int .i64)) → w.grownBy w' v.ownBlock → wpList P ops Q rest (a.put o.dst v') w') :
    wpList P ops Q (o :: rest) a w := by
  have hk : k.length = m := hB.1
  rcases ad with _ | ad
  · obtain rfl : c = 0 := hB.2.2.2.1 rfl
    obtain rfl : m = 0 := by have := hB.2.1; omega
    have hm : k = [] := List.eq_nil_of_length_eq_zero hk
    subst hm
    refine wpList_append_own_none hgd s x t ho base e i 1 ht hi v n (l.map (Value.int .i64)) hs hown hx ?_
    exact h v w (by simpa using hown) (World.grownBy.refl _ _)
  · refine wpList_append_own w hgd s x t ho base e i (.int .i64 0) 1 8 ht hi hz hsize hby rfl (by decide) v n (l.map (Value.int .i64)) hs hown ad m c (k.map (Value.int .i64)) hx (by simp [hk]) ?_ (fun u hu => by obtain ⟨z, _, rfl⟩ := List.mem_map.1 hu; rfl) (by unfold maxLen; omega) (by omega) hbase ?_
    · intro j u hj
      have hjk : j < k.length := by rcases Nat.lt_or_ge j k.length with h1 | h1; exact h1; rw [List.getElem?_map, List.getElem?_eq_none h1] at hj; cases hj
      obtain ⟨b, off, e2, _, hc⟩ := hB.at_ (i := j) (by omega)
      cases e2
      rw [Addr.add_lit, hc]
      rw [List.getElem?_map, List.getElem?_eq_getElem hjk] at hj
      simp [List.getD_eq_getElem?_getD, hjk] at hj ⊢
      exact hj
    · intro v' w' h1 h2 _
      rw [← List.map_append] at h1
      exact h v' w' h1 h2
end Go.Proofs.Ytfmjfdbbjggcpaa
