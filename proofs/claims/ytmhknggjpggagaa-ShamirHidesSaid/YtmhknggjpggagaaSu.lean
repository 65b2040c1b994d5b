/- The laws' Unlike: so many unlike places, none 0. -/
import Derived.Test.YtmhknggjpggagaaSd
import Derived.Test.YtmhknggjpggagaaPchk
import Derived.BigRegion
import Derived.ChangeAlike
namespace Go.Proofs.Ytmhknggjpggagaa
open Go.ChangeShapes Go.WideShapes Go.ChangeAt Go.RowKit Go.Shelf GF
set_option linter.unusedVariables false
set_option linter.unusedSimpArgs false
set_option maxRecDepth 100000

open Go.Maps in
theorem plainElem_bool_inv {P : Program} {e : TypeId} (he : P.underlying e = some .bool) {v : Value} {c : Bool} {ps : List MemPlace} (h : plainElem (H := Unit) P e v = some (.lit (.bool c), ps)) : v = .bool c := by
  unfold plainElem at h
  rw [he] at h
  cases v <;> simp at h
  rw [h.1]
open Go.Maps in
theorem wpList_lookup_own_bool {P : Program} (w : World) {ops : Array Oper} {rest : List Oper} {o : Oper} {a : Act} {Q : Exit → Act → World → Prop}
    (hg : o.guard = none) (m x : Operand) (t : TypeId) (hop : o.op = Op.lookup t m x false)
    (k e : TypeId) (K : Keyed P k) (ht : P.underlying t = some (.map k e)) (he : P.underlying e = some .bool) (hz : (zeroValue e).run P w = .ok (.bool false) w) (b n : Nat) (D : DataW Unit)
    (hm : a.eval m = .map (some b)) (hown : w.ownsMap P k (plainElem P e) b n D) (key : Value) (kl : Lit) (hx : a.eval x = key) (hkey : keyOf P k key = some kl) (c : Bool) (hat : D.atKey kl (.lit (.bool false)) = .lit (.bool c))
    (hK : wpList P ops Q rest (a.put o.dst (.bool c)) w) :
    wpList P ops Q (o :: rest) a w := by
  refine wpList_plain hg fun K' hK' => ?_
  obtain ⟨v, ps, hrun, hv⟩ := hown.lookup K ht hz (plainElem_bool he false) hkey
  rw [hat] at hv
  obtain rfl := plainElem_bool_inv he hv
  unfold Oper.wp
  simp [execOp, hop, hm, hx, hrun, Result.andThen]
  exact hK' _ _ hK
open Go.Maps in
/-- A map literal's entry. -/
theorem wpList_insert_own {H : Type} {P : Program} (w : World) {ops : Array Oper} {rest : List Oper} {o : Oper} {a : Act} {Q : Exit → Act → World → Prop}
    (hg : o.guard = none) (m x v : Operand) (t : TypeId) (hop : o.op = Op.insert t m x v)
    (k e : TypeId) (K : Keyed P k) (ht : P.underlying t = some (.map k e)) (R : Value → Option (DataW H × List MemPlace)) (b n : Nat) (D : DataW H)
    (hm : a.eval m = .map (some b)) (hown : w.ownsMap P k R b n D) (hn : n < maxLen) (key val : Value) (kl : Lit) (hx : a.eval x = key) (hv : a.eval v = val) (hkey : keyOf P k key = some kl)
    (d : DataW H) (ps : List MemPlace) (hval : R val = some (d, ps))
    (hK : ∀ w', w'.ownsMap P k R b (n + 1) (D.put kl d) → w.grownBy w' (some b) → wpList P ops Q rest (a.put o.dst undef) w') :
    wpList P ops Q (o :: rest) a w := by
  refine wpList_plain hg fun K' hK' => ?_
  obtain ⟨w', hrun, r1, r2⟩ := hown.update K ht hn hkey hval
  unfold Oper.wp
  simp [execOp, hop, hm, hx, hv, hrun, Result.andThen]
  exact hK' _ _ (hK w' r1 r2)
open Go.Maps in
/-- Which numbers a map holds. -/
def SeenF (D : DataW Unit) (f : GF → Bool) : Prop := ∀ y : GF, D.atKey (keyG y) (.lit (.bool false)) = .lit (.bool (f y))
def putF (f : GF → Bool) (x y : GF) : Bool := if y.1 = x.1 then true else f y
open Go.Maps in
theorem SeenF.put {D : DataW Unit} {f : GF → Bool} (h : SeenF D f) (hT : Tidy D) (x : GF) : SeenF (D.put (keyG x) (.lit (.bool true))) (putF f x) := by
  intro y
  unfold putF
  by_cases e : y.1 = x.1
  · obtain rfl : y = x := GF.ext e
    rw [atKey_put_same hT.isMap (by trivial), if_pos rfl]
  · rw [atKey_put_other (keyG_ne (fun h => e (by rw [h]))), h y, if_neg e]
open Go.Maps in
theorem ownsMap_on {H : Type} {P : Program} {k : TypeId} {R : Value → Option (DataW H × List MemPlace)} {b n : Nat} {D : DataW H} {w w' : World} {B : Nat} (h : w.ownsMap P k R b n D) (hb : Below B w w') (hB : b < B) : w'.ownsMap P k R b n D := by
  obtain ⟨es, clock, h1, h2⟩ := h
  exact ⟨es, clock, by rw [hb.block b hB]; exact h1, h2⟩
theorem filter_more {x : Nat} {p : Nat → Bool} : ∀ {l : List Nat}, l.Nodup → x ∈ l → p x = false → (l.filter fun j => j == x || p j).length = (l.filter p).length + 1
  | [], _, h, _ => by cases h
  | y :: l, hn, hx, hp => by
    have hn2 := List.nodup_cons.1 hn
    by_cases e : y = x
    · subst e
      have hl : (l.filter fun j => j == y || p j) = l.filter p := List.filter_congr fun j hj => by
        have : j ≠ y := fun h => hn2.1 (by rw [← h]; exact hj)
        simp [this]
      simp [List.filter_cons, hp, hl]
    · have hx2 : x ∈ l := (List.mem_cons.1 hx).resolve_left (fun h => e h.symm)
      have ih := filter_more hn2.2 hx2 hp
      have e2 : (y == x) = false := by simpa using e
      simp only [List.filter_cons, e2, Bool.false_or]
      split
      · simp [ih]
      · exact ih
def fN (f : GF → Bool) (j : Nat) : Bool := if h : j < 256 then f ⟨j, h⟩ else false
def cntF (f : GF → Bool) : Nat := ((List.range 256).filter (fN f)).length
theorem cntF_le (f : GF → Bool) : cntF f ≤ 256 := Nat.le_trans (List.length_filter_le _ _) (by simp)
theorem cntF_put {f : GF → Bool} {x : GF} (h : f x = false) : cntF (putF f x) = cntF f + 1 := by
  have e : fN (putF f x) = fun j => j == x.1 || fN f j := by
    funext j
    unfold fN putF
    by_cases hj : j < 256
    · rw [dif_pos hj, dif_pos hj]
      by_cases e : j = x.1
      · simp [e]
      · rw [if_neg e]
        have : (j == x.1) = false := by simpa using e
        rw [this, Bool.false_or]
    · rw [dif_neg hj, dif_neg hj]
      have : (j == x.1) = false := by have := x.2; simp; omega
      rw [this]; rfl
  unfold cntF
  rw [e]
  exact filter_more List.nodup_range (List.mem_range.2 x.2) (by unfold fN; rw [dif_pos x.2]; exact h)
theorem putF_same {f : GF → Bool} {x : GF} (h : f x = true) : putF f x = f := by
  funext y
  unfold putF
  by_cases e : y.1 = x.1
  · rw [if_pos e, GF.ext e, h]
  · rw [if_neg e]
open Go.Maps in
/-- .. and how many it holds. -/
def HasF (D : DataW Unit) (f : GF → Bool) : Prop := (∀ y : GF, has D (keyG y) = f y) ∧ size D ≤ cntF f
open Go.Maps in
theorem HasF.put {D : DataW Unit} {f : GF → Bool} (h : HasF D f) (hT : Tidy D) (x : GF) (d : DataW Unit) : HasF (D.put (keyG x) d) (putF f x) := by
  refine ⟨fun y => ?_, ?_⟩
  · unfold putF
    by_cases e : y.1 = x.1
    · obtain rfl : y = x := GF.ext e
      rw [has_put_same hT.isMap (by trivial) d, if_pos rfl]
    · rw [has_put_other (keyG_ne (fun h => e (by rw [h]))) d, h.1 y, if_neg e]
  · rw [size_put hT d, h.1 x]
    cases hf : f x with
    | true => rw [if_pos rfl, putF_same hf]; exact h.2
    | false => rw [if_neg (by simp), cntF_put hf]; have := h.2; omega
open Go.Maps in
theorem HasF.none : HasF (.map []) (fun _ => false) := ⟨fun y => by simp [has_eq], Nat.zero_le _⟩
open Go.Maps in
theorem ownsMap_size {P : Program} {k : TypeId} {R : Value → Option (DataW Unit × List MemPlace)} {b n : Nat} {D : DataW Unit} {w : World} (h : w.ownsMap P k R b n D) : w.ownsMap P k R b (size D) D := by
  obtain ⟨es, clock, h1, h2, h3, rfl⟩ := h
  refine ⟨es, clock, h1, h2, ?_, rfl⟩
  show es.size ≤ List.length _
  rw [length_sorted]
  simp
theorem zeroB (w : World) : (zeroValue 4).run Try.prog w = .ok (.bool false) w := by kernel_rfl
/-- Whether the first k hold the number j. -/
def snN (X : List GF) (k j : Nat) : Bool := (X.take k).any fun x => x.1 == j
theorem snN_zero (X : List GF) (j : Nat) : snN X 0 j = false := by simp [snN]
theorem snN_next {X : List GF} {k : Nat} (hk : k < X.length) (j : Nat) : snN X (k + 1) j = if j = (co X k).1 then true else snN X k j := by
  have hc : co X k = X[k] := by unfold co; simp [List.getD_eq_getElem?_getD, List.getElem?_eq_getElem hk]
  unfold snN
  rw [← List.take_append_getElem hk, List.any_append, hc]
  by_cases e : j = (X[k]).1
  · simp [e]
  · rw [if_neg e]
    have : ((X[k]).1 == j) = false := by rw [beq_eq_false_iff_ne]; exact fun h => e h.symm
    simp [this]
theorem snN_mem {X : List GF} {y : GF} : snN X X.length y.1 = true ↔ y ∈ X := by
  unfold snN
  rw [List.take_length, List.any_eq_true]
  exact ⟨fun ⟨x, hx, e⟩ => by rw [← GF.ext (beq_iff_eq.1 e)]; exact hx, fun h => ⟨y, h, beq_self_eq_true _⟩⟩
/-- What Unlike gathers: unlike, none 0, at most n, each marked. -/
def Gath (O : List GF) (n : Nat) : Prop := O.Nodup ∧ (0 : GF) ∉ O ∧ O.length ≤ n
theorem Gath.more {O : List GF} {n : Nat} {x : GF} (h : Gath O n) (hx : x ∉ O) (h0 : x ≠ 0) (hl : O.length < n) : Gath (O ++ [x]) n := by
  refine ⟨?_, ?_, by rw [List.length_append]; simp; omega⟩
  · rw [List.nodup_append]
    refine ⟨h.1, by simp, fun a ha b hb e => ?_⟩
    rw [List.mem_singleton] at hb
    subst hb; subst e
    exact hx ha
  · intro h1
    rcases List.mem_append.1 h1 with h1 | h1
    · exact h.2.1 h1
    · exact h0 (List.mem_singleton.1 h1).symm
theorem holes : ∀ (k : Nat) (O : List GF), k < 256 → (∀ y : GF, 1 ≤ y.1 → y.1 ≤ k → y ∈ O) → k ≤ O.length
  | 0, _, _, _ => Nat.zero_le _
  | k + 1, O, hk, h => by
    have hm := h ⟨k + 1, hk⟩ (by simp) (by simp)
    have hl := List.length_eraseP_of_mem (p := fun z : GF => z.1 == k + 1) hm (by simp)
    have hr := holes k (O.eraseP fun z : GF => z.1 == k + 1) (by omega) (fun y h1 h2 => (List.mem_eraseP_of_neg (by simp; omega)).2 (h y h1 (by omega)))
    have hp : 0 < O.length := List.length_pos_of_mem hm
    omega
theorem apart_of_nodup {O : List GF} (h : O.Nodup) : Apart O := fun i j hi hj e => by
  rw [co_lt hi, co_lt (by omega)] at e
  have := (List.getElem_inj h).1 e
  omega
theorem gath_co {O : List GF} {n : Nat} (h : Gath O n) {k : Nat} (hk : k < O.length) : co O k ≠ 0 := fun e => h.2.1 (by rw [← e, co_lt hk]; exact List.getElem_mem hk)
end Go.Proofs.Ytmhknggjpggagaa
