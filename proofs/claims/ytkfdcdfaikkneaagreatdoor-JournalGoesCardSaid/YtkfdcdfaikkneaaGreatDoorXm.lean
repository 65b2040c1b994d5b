/- Maps of 32-bit words to bools: looks and updates. -/
import Derived.Test.YtkfdcdfaikkneaaGreatDoorDG
import Derived.Maps.OwnOps
import Derived.Maps.OwnSet
namespace Go.Proofs.YtkfdcdfaikkneaaGreatDoor
open Go.ChangeShapes Go.WideShapes Go.ChangeAt Go.RowKit Go.Shelf
set_option linter.unusedVariables false
set_option linter.unusedSimpArgs false
set_option maxRecDepth 100000

open Go.Maps in
theorem plainElem_bool_inv {P : Program} {e : TypeId} (he : P.underlying e = some .bool) {v : Value} {c : Bool} {ps : List MemPlace} (h : plainElem (H := Unit) P e v = some (.lit (.bool c), ps)) : v = .bool c := by
  unfold plainElem at h
  rw [he] at h
  cases v <;> simp at h
  rw [h.1]
open Go.Maps in
theorem ownsMap_on {H : Type} {P : Program} {k : TypeId} {R : Value → Option (DataW H × List MemPlace)} {b n : Nat} {D : DataW H} {w w' : World} {B : Nat} (h : w.ownsMap P k R b n D) (hb : Below B w w') (hB : b < B) : w'.ownsMap P k R b n D := by
  obtain ⟨es, clock, h1, h2⟩ := h
  exact ⟨es, clock, by rw [hb.block b hB]; exact h1, h2⟩
theorem zeroB (w : World) : (zeroValue 4).run Tryz.prog w = .ok (.bool false) w := by kernel_rfl
open Go.Maps in
abbrev keyU (z : Int) : Lit := .int .u32 z
open Go.Maps in
def SeenU (D : DataW Unit) (f : Int → Bool) : Prop := ∀ z : Int, D.atKey (keyU z) (.lit (.bool false)) = .lit (.bool (f z))
theorem lawU : Go.Maps.Keyed Tryz.prog 24 := Go.Maps.int_keyed Tryz.underlying24
open Go.Maps in
theorem keyU_of {z : Int} (h : 0 ≤ z ∧ z < 4294967296) : keyOf Tryz.prog 24 (.int .u32 z) = some (keyU z) :=
  keyOf_int_mk Tryz.underlying24 (by simp [Lit.wf, IntKind.min, IntKind.max, IntKind.signed, IntKind.bits]; omega)
open Go.Maps in
/-- A look into a map, in an operation that has a guard. -/
theorem wpList_lookup_own_boolG {P : Program} (w : World) {ops : Array Oper} {rest : List Oper} {o : Oper} {a : Act} {Q : Exit → Act → World → Prop}
    (hg : Region.wanted o (yielded ops a.tmps) = true) (m x : Operand) (t : TypeId) (hop : o.op = Op.lookup t m x false)
    (k e : TypeId) (K : Keyed P k) (ht : P.underlying t = some (.map k e)) (he : P.underlying e = some .bool) (hz : (zeroValue e).run P w = .ok (.bool false) w) (b n : Nat) (D : DataW Unit)
    (hm : a.eval m = .map (some b)) (hown : w.ownsMap P k (plainElem P e) b n D) (key : Value) (kl : Lit) (hx : a.eval x = key) (hkey : keyOf P k key = some kl) (c : Bool) (hat : D.atKey kl (.lit (.bool false)) = .lit (.bool c))
    (hK : wpList P ops Q rest (a.put o.dst (.bool c)) w) :
    wpList P ops Q (o :: rest) a w := by
  refine wpList_step fun K' hK' => ?_
  rw [if_pos hg]
  obtain ⟨v, ps, hrun, hv⟩ := hown.lookup K ht hz (plainElem_bool he false) hkey
  rw [hat] at hv
  obtain rfl := plainElem_bool_inv he hv
  unfold Oper.wp
  simp [execOp, hop, hm, hx, hrun, Result.andThen]
  exact hK' _ _ hK
open Go.Maps in
/-- A map at a block, that holds what f says. -/
def MapU (w : World) (b n : Nat) (f : Int → Bool) : Prop := ∃ D : DataW Unit, w.ownsMap Tryz.prog 24 (plainElem (H := Unit) Tryz.prog 4) b n D ∧ SeenU D f
open Go.Maps in
theorem MapU.look {w : World} {b n : Nat} {f : Int → Bool} (h : MapU w b n f) {z : Int} (hz : 0 ≤ z ∧ z < 4294967296) : (Instr.lookup 78 (.map (some b)) (.int .u32 z) false).run Tryz.prog w = .ok (.bool (f z)) w := by
  obtain ⟨D, hown, hs⟩ := h
  obtain ⟨v, ps, hrun, hv⟩ := hown.lookup lawU Tryz.underlying78 (zeroB w) (plainElem_bool Tryz.underlying4 false) (keyU_of hz)
  rw [hs z] at hv
  obtain rfl := plainElem_bool_inv Tryz.underlying4 hv
  exact hrun
open Go.Maps in
theorem MapU.lt {w : World} {b n : Nat} {f : Int → Bool} (h : MapU w b n f) : b < w.heap.size := by
  obtain ⟨D, ⟨es, clock, h1, _⟩, _⟩ := h
  rcases Nat.lt_or_ge b w.heap.size with hlt | hge
  · exact hlt
  · rw [Array.getElem?_eq_none hge] at h1; cases h1
open Go.Maps in
theorem MapU.same {w w' : World} {b n : Nat} {f : Int → Bool} (h : MapU w b n f) (hk : w'.heap[b]? = w.heap[b]?) : MapU w' b n f := by
  obtain ⟨D, ⟨es, clock, h1, h2⟩, h3⟩ := h
  exact ⟨D, ⟨es, clock, hk.trans h1, h2⟩, h3⟩
open Go.Maps in
theorem MapU.more {w : World} {b n m : Nat} {f : Int → Bool} (h : MapU w b n f) (hm : n ≤ m) : MapU w b m f := by
  obtain ⟨D, h1, h2⟩ := h
  exact ⟨D, h1.mono hm, h2⟩
open Go.Maps in
theorem MapU.made (w : World) : MapU (w.alloc (.map #[] 0)) w.heap.size 0 (fun _ => false) := ⟨.map [], World.ownsMap_made _ _ _ _, fun z => rfl⟩
def putU (f : Int → Bool) (z : Int) (c : Bool) : Int → Bool := fun y => if y = z then c else f y
open Go.Maps in
/-- An update. -/
theorem wpList_mapUpdateU (w : World) {ops : Array Oper} {rest : List Oper} {o : Oper} {a : Act} {Q : Exit → Act → World → Prop}
    (hg : o.guard = none) (m x v : Operand) (hop : o.op = Op.mapUpdate 78 m x v) (b n : Nat) (f : Int → Bool) (z : Int) (c : Bool)
    (hm : a.eval m = .map (some b)) (hown : MapU w b n f) (hn : n < maxLen) (hx : a.eval x = .int .u32 z) (hv : a.eval v = .bool c) (hz : 0 ≤ z ∧ z < 4294967296)
    (hK : ∀ w', MapU w' b (n + 1) (putU f z c) → w.grownBy w' (some b) → wpList Tryz.prog ops Q rest (a.put o.dst undef) w') :
    wpList Tryz.prog ops Q (o :: rest) a w := by
  obtain ⟨D, ho, hs⟩ := hown
  refine wpList_mapUpdate_own w hg m x v 78 hop 24 4 lawU Tryz.underlying78 _ b n D hm ho hn _ _ _ hx hv (keyU_of hz) _ [] (plainElem_bool Tryz.underlying4 c) (fun w' h1 h2 => hK w' ⟨_, h1, fun y => ?_⟩ h2)
  unfold putU
  by_cases e : y = z
  · subst e
    rw [atKey_put_same (ho.tidy lawU).isMap (by trivial), if_pos rfl]
  · rw [atKey_put_other (fun h => e (by injection h with _ h)), hs y, if_neg e]
end Go.Proofs.YtkfdcdfaikkneaaGreatDoor
