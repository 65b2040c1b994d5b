/- Contract of matrix's unlike; Vandermonde's refusals. -/
import Derived.Test.YtpoaimcioeopdaaMnam
import Derived.Test.YtpoaimcioeopdaaMbes
import Derived.Test.YtpoaimcioeopdaaPchk
import Derived.BigRegion
import Derived.ChangeAlike
namespace Go.Proofs.Ytpoaimcioeopdaa
open Go.ChangeShapes Go.WideShapes Go.ChangeAt Go.RowKit Go.Shelf GF
set_option linter.unusedVariables false
set_option maxRecDepth 100000
set_option linter.unusedSimpArgs false

theorem info256 : (Try.prog.info? 114).map (fun i => (i.zero, i.size)) = some (some (.agg (Array.replicate 256 (.bool false))), 256) := by kernel_rfl
theorem zero256 (w : World) : (zeroValue 114).run Try.prog w = .ok (.agg (Array.replicate 256 (.bool false))) w := by
  have h := info256
  cases hq : Try.prog.info? 114 with
  | none => simp [hq] at h
  | some i =>
    simp only [hq, Option.map_some, Option.some.injEq, Prod.mk.injEq] at h
    simp [zeroValue, typeInfo, hq, h.1]
/-- Whether the first k hold the number j. -/
def snN (X : List GF) (k j : Nat) : Bool := (X.take k).any fun x => x.1 == j
theorem snN_zero (X : List GF) (j : Nat) : snN X 0 j = false := by simp [snN]
theorem snN_next {X : List GF} {k : Nat} (hk : k < X.length) (j : Nat) : snN X (k + 1) j = if j = (co X k).1 then true else snN X k j := by
  have hc : co X k = X[k] := by unfold co; simp [List.getD_eq_getElem?_getD, List.getElem?_eq_getElem hk]
  unfold snN
  rw [← List.take_append_getElem hk, List.any_append, hc]
  by_cases e : j = (X[k]).1
  · simp [e]
  · rw [if_neg e]
    have : ((X[k]).1 == j) = false := by rw [beq_eq_false_iff_ne]; exact fun h => e h.symm
    simp [this]
theorem snN_iff {X : List GF} {k : Nat} (hk : k ≤ X.length) (j : Nat) : snN X k j = true ↔ ∃ i, i < k ∧ (co X i).1 = j := by
  induction k with
  | zero => rw [snN_zero]; exact ⟨fun h => (by cases h), fun ⟨i, hi, _⟩ => absurd hi (by omega)⟩
  | succ k ih =>
    rw [snN_next (by omega)]
    by_cases e : j = (co X k).1
    · rw [if_pos e]; exact ⟨fun _ => ⟨k, by omega, e.symm⟩, fun _ => rfl⟩
    · rw [if_neg e, ih (by omega)]
      refine ⟨fun ⟨i, h1, h2⟩ => ⟨i, by omega, h2⟩, fun ⟨i, h1, h2⟩ => ?_⟩
      have : i ≠ k := fun h => e (by rw [← h2, h])
      exact ⟨i, by omega, h2⟩
def ApU (X : List GF) (k : Nat) : Prop := ∀ i j, i < k → j < i → co X i ≠ co X j
theorem ApU.next {X : List GF} {k : Nat} (h : ApU X k) (hk : k < X.length) (hs : snN X k (co X k).1 = false) : ApU X (k + 1) := by
  intro i j hi hj e
  by_cases h1 : i < k
  · exact h i j h1 hj e
  · obtain rfl : i = k := by omega
    have : snN X i (co X i).1 = true := (snN_iff (by omega) _).2 ⟨j, hj, by rw [e]⟩
    rw [hs] at this; cases this
theorem ApU.not {X : List GF} {k : Nat} (hk : k < X.length) (hs : snN X k (co X k).1 = true) : ¬ Apart X := by
  intro h
  obtain ⟨i, hi, e⟩ := (snN_iff (by omega) _).1 hs
  exact h k i hk hi (GF.ext e.symm)
def Un (w : World) (b : Nat) (X : List GF) (k : Nat) : Prop :=
  b < w.heap.size ∧ (∀ j, j < 256 → w.cell? ⟨b, j, none⟩ = some (.bool (snN X k j))) ∧ ∀ j, w.frozen? ⟨b, j, none⟩ = false
theorem Un.made (w : World) (t : TypeId) (X : List GF) : Un (w.alloc (.cells (Array.replicate 256 (.bool false)) t)) w.heap.size X 0 :=
  ⟨by simp, fun j hj => by rw [World.cell?_alloc_new, snN_zero]; simp [hj], fun j => by unfold World.frozen?; simp only; rw [heap_alloc_new]; simp⟩
theorem Un.next {w : World} {b : Nat} {X : List GF} {k : Nat} (h : Un w b X k) (hk : k < X.length) : Un (w.setCell ⟨b, (co X k).1, none⟩ (.bool true)) b X (k + 1) := by
  refine ⟨by simpa using h.1, fun j hj => ?_, fun j => by simpa using h.2.2 j⟩
  rw [snN_next hk]
  by_cases e : j = (co X k).1
  · rw [if_pos e, e]; exact World.cell?_setCell_same _ _ _ (h.2.1 _ (co X k).2)
  · rw [if_neg e, World.cell?_setCell_other _ _ _ _ (by intro h; injection h with _ h2; exact e h2.symm)]; exact h.2.1 j hj
set_option maxHeartbeats 1000000 in
open Classical in
theorem unlike_any (a : Option Addr) (L c : Nat) (X : List GF) (w : World) (hp : Pa w a L c X) :
    Calls Try.prog 45 #[.slice a L c] w fun e w' => e = .returned (.bool (decide (Apart X))) ∧ Below w.heap.size w w' := by
  have hz := zero256 w
  have hbd := hp.bd
  have HP := Lib.hid hp
  have HL := Lib.hid hp.len
  have H0 := Lib.hid (Un.made w 114 X)
  clear hp
  obtain ⟨c0, hc0⟩ : ∃ c0 : Array Value, c0 = Array.replicate 256 (.bool false) := ⟨_, rfl⟩
  rw [← hc0] at hz H0
  clear hc0
  go_enter Try.func45, Try.ntmps45
  go_wp2
  go_loopw [8] (fun i wr => ∃ k : Nat, k ≤ L ∧ i = .int .i64 (k : Nat) ∧ Un wr w.heap.size X k ∧ Hid (ApU X k) ∧ Below w.heap.size w wr) (fun i _ => L - (intOf i).toNat)
  case atStart => exact ⟨0, by omega, rfl, H0.out, Lib.hid (fun i j hi => absurd hi (by omega)), (Below.refl _ _).alloc (Nat.le_refl _) _⟩
  case round =>
    obtain ⟨k, hk, rfl, hU, hA, hB⟩ := hrel
    clear hz H0
    by_cases hlt : k < L
    · obtain ⟨bx, ox, rfl, hbx, hcx0⟩ := (HP.out.on hB).at_ hlt
      have hcx : wr.cell? ⟨bx, ox + k, none⟩ = some (.int .u8 (((co X k).1 : Nat) : Int)) := hcx0
      clear hcx0
      have hkX : k < X.length := by rw [HL.out]; exact hlt
      have HN := Lib.hid (hU.next hkX)
      have hc := hU.2.1 _ (co X k).2
      have hf := hU.2.2 (co X k).1
      have hul := hU.1
      have HB := Lib.hid hB
      have q0 : (((co X k).1 : Nat) : Int) < 256 := by have := (co X k).2; omega
      have q1 : (k : Int) < (L : Int) := by omega
      have q2 : (0 : Int) ≤ (k : Int) := by omega
      clear hU hB
      cases hs : snN X k (co X k).1 with
      | true =>
        have HNA := Lib.hid (ApU.not hkX hs)
        rw [hs] at hc
        clear hs hkX
        go_wp2
        go_ret
        exact ⟨by rw [decide_eq_false HNA.out]; rfl, HB.out⟩
      | false =>
        have HA2 := Lib.hid (hA.out.next hkX hs)
        rw [hs] at hc
        clear hs hkX
        go_wp2
        go_roundw
        case rel => exact ⟨k + 1, by omega, by go_num, HN.out, HA2, HB.out.setCell (p := ⟨w.heap.size, (co X k).1, none⟩) (Nat.le_refl _) _⟩
        case measure => simp [intOf]; omega
    · obtain rfl : k = L := by omega
      have HAA := Lib.hid (show Apart X from fun i j hi hj => hA.out i j (by rw [← HL.out]; exact hi) hj)
      have HB := Lib.hid hB
      clear hU hB
      go_wp2
      go_ret
      exact ⟨by rw [decide_eq_true HAA.out]; rfl, HB.out⟩

theorem vandermonde_nofit (fb : Nat) (a : Option Addr) (L c : Nat) (m : Int) (w : World) (hL : L ≤ 64) (hm : L = 0 ∨ m < 1 ∨ 64 < m) (hr : -9223372036854775808 ≤ m ∧ m ≤ 9223372036854775807) :
    Calls Try.prog 15 #[.pointer (some ⟨fb, 0, none⟩), .slice a L c, .int .i64 m] w fun e w' => e = .returned (.tuple #[.pointer none, .int .i64 2]) ∧ Below w.heap.size w w' := by
  have hb2 : Below w.heap.size w ((w.alloc (.cells #[.pointer (some ⟨fb, 0, none⟩)] 25)).alloc (.cells #[.slice a L c] 22)) := ((Below.refl w.heap.size w).alloc (Nat.le_refl _) _).alloc (by simp) _
  have HB2 := Lib.hid hb2
  clear hb2
  by_cases h0 : L = 0
  · have h1 : ¬ 1 ≤ L := by omega
    clear hm h0
    go_enter Try.func15, Try.ntmps15
    go_wp2_with (first
      | (go_at_call 31; with_reducible refine (fits_no (L : Nat) _ (by omega) (by omega)).mono ?_; rintro e w' ⟨rfl, rfl⟩))
    go_ret2
    exact ⟨rfl, HB2.out⟩
  · have h1 : 1 ≤ L ∧ L ≤ 64 := by omega
    have h2 : m < 1 ∨ 64 < m := by omega
    clear hm h0
    go_enter Try.func15, Try.ntmps15
    go_wp2_with (first
      | (go_at_call 31; with_reducible refine (fits_yes L _ h1).mono ?_; rintro e w' ⟨rfl, rfl⟩)
      | (go_at_call 31; with_reducible refine (fits_no m _ hr (by omega)).mono ?_; rintro e w' ⟨rfl, rfl⟩))
    go_ret2
    exact ⟨rfl, HB2.out⟩

open Go.Maps in
theorem plainElem_bool_inv {P : Program} {e : TypeId} (he : P.underlying e = some .bool) {v : Value} {c : Bool} {ps : List MemPlace} (h : plainElem (H := Unit) P e v = some (.lit (.bool c), ps)) : v = .bool c := by
  unfold plainElem at h
  rw [he] at h
  cases v <;> simp at h
  rw [h.1]
open Go.Maps in
theorem wpList_lookup_own_bool {P : Program} (w : World) {ops : Array Oper} {rest : List Oper} {o : Oper} {a : Act} {Q : Exit → Act → World → Prop}
    (hg : o.guard = none) (m x : Operand) (t : TypeId) (hop : o.op = Op.lookup t m x false)
    (k e : TypeId) (K : Keyed P k) (ht : P.underlying t = some (.map k e)) (he : P.underlying e = some .bool) (hz : (zeroValue e).run P w = .ok (.bool false) w) (b n : Nat) (D : DataW Unit)
    (hm : a.eval m = .map (some b)) (hown : w.ownsMap P k (plainElem P e) b n D) (key : Value) (kl : Lit) (hx : a.eval x = key) (hkey : keyOf P k key = some kl) (c : Bool) (hat : D.atKey kl (.lit (.bool false)) = .lit (.bool c))
    (hK : wpList P ops Q rest (a.put o.dst (.bool c)) w) :
    wpList P ops Q (o :: rest) a w := by
  refine wpList_plain hg fun K' hK' => ?_
  obtain ⟨v, ps, hrun, hv⟩ := hown.lookup K ht hz (plainElem_bool he false) hkey
  rw [hat] at hv
  obtain rfl := plainElem_bool_inv he hv
  unfold Oper.wp
  simp [execOp, hop, hm, hx, hrun, Result.andThen]
  exact hK' _ _ hK
open Go.Maps in
def SeenB (X : List GF) (k : Nat) (D : DataW Unit) : Prop := ∀ y : GF, D.atKey (keyG y) (.lit (.bool false)) = .lit (.bool (snN X k y.1))
open Go.Maps in
theorem SeenB.next {X : List GF} {k : Nat} {D : DataW Unit} (h : SeenB X k D) (hk : k < X.length) (hT : Tidy D) : SeenB X (k + 1) (D.put (keyG (co X k)) (.lit (.bool true))) := by
  intro y
  rw [snN_next hk]
  by_cases e : y = co X k
  · subst e
    rw [atKey_put_same hT.isMap (by trivial), if_pos rfl]
  · rw [atKey_put_other (keyG_ne e), h y, if_neg (fun h => e (GF.ext h))]
theorem zeroB (w : World) : (zeroValue 4).run Try.prog w = .ok (.bool false) w := by kernel_rfl
set_option maxRecDepth 100000 in
set_option maxHeartbeats 1000000 in
open Classical Go.Maps in
theorem unl1_any (a : Option Addr) (L cap : Nat) (X : List GF) (w : World) (hx : Pa w a L cap X) :
    Calls Try.prog 18 #[.slice a L cap] w fun e w' => e = .returned (.bool (decide (Apart X))) ∧ Below w.heap.size w w' := by
  have hbd := hx.bd
  have hml : L < maxLen ∨ L = maxLen := by have := hx.1.2.2.2; omega
  have HX := Lib.hid hx
  have HL := Lib.hid hx.len
  have HM := Lib.hid (show L ≤ maxLen from Nat.le_trans hx.1.2.2.2.1 hx.1.2.2.2.2)
  clear hx hml
  have hmm := @run_makeMap Try.prog
  go_enter Try.func18, Try.ntmps18
  go_wp2
  go_loopw [9] (fun i wr => ∃ (k : Nat) (D : DataW Unit), k ≤ L ∧ i = .int .i64 (k : Nat) ∧ wr.ownsMap Try.prog 5 (plainElem Try.prog 4) w.heap.size k D ∧ Hid (SeenB X k D) ∧ Hid (ApU X k) ∧ Below w.heap.size w wr)
    (fun i _ => L - (intOf i).toNat)
  case atStart => exact ⟨0, .map [], Nat.zero_le _, rfl, World.ownsMap_made _ _ _ _, Lib.hid (fun y => by rw [snN_zero]; rfl), Lib.hid (fun i j hi => absurd hi (by omega)), (Below.refl _ _).alloc (Nat.le_refl _) _⟩
  case round =>
    obtain ⟨k, D, hk, rfl, hown, hS, hA, hnx⟩ := hrel
    by_cases hlt : k < L
    · obtain ⟨bx, ox, rfl, hbx, hcx⟩ := (HX.out.on hnx).at_ hlt
      have q2 : (k : Int) < (L : Int) := by omega
      have q3 : (0 : Int) ≤ (k : Int) := by omega
      have hkX : k < X.length := by rw [HL.out]; exact hlt
      have hkey : keyOf Try.prog 5 (.int .u8 (toI (co X k))) = some (keyG (co X k)) := keyOf_int_mk Try.underlying5 (keyG_wf _)
      have HT := Lib.hid (hown.tidy lawU)
      have HN := Lib.hid (hS.out.next hkX (hown.tidy lawU))
      have HKM := Lib.hid (show k < maxLen from Nat.lt_of_lt_of_le hlt HM.out)
      cases hs : snN X k (co X k).1 with
      | true =>
        have HNA := Lib.hid (ApU.not hkX hs)
        have HAT := Lib.hid (show D.atKey (keyG (co X k)) (.lit (.bool false)) = .lit (.bool true) by rw [hS.out, hs])
        clear hs hkX
        go_wp2_with (first
          | (at_lookup; refine wpList_lookup_own_bool _ rfl _ _ 41 rfl 5 4 lawU Try.underlying41 Try.underlying4 (zeroB _) w.heap.size k _ rfl hown _ _ rfl hkey _ HAT.out ?_))
        go_ret
        exact ⟨by rw [decide_eq_false HNA.out]; rfl, hnx⟩
      | false =>
        have HA2 := Lib.hid (hA.out.next hkX hs)
        have HAT := Lib.hid (show D.atKey (keyG (co X k)) (.lit (.bool false)) = .lit (.bool false) by rw [hS.out, hs])
        clear hs hkX
        go_wp2_with (first
          | (at_lookup; refine wpList_lookup_own_bool _ rfl _ _ 41 rfl 5 4 lawU Try.underlying41 Try.underlying4 (zeroB _) w.heap.size k _ rfl hown _ _ rfl hkey _ HAT.out ?_)
          | (at_mapUpdate; refine wpList_mapUpdate_own _ rfl _ _ _ 41 rfl 5 4 lawU Try.underlying41 _ w.heap.size k _ rfl hown HKM.out _ _ _ rfl rfl hkey _ [] (plainElem_bool Try.underlying4 true) ?_; intro w1 hown1 hgrow1))
        go_roundw
        case rel => exact ⟨k + 1, _, by omega, by go_num, hown1, HN, HA2, hnx.grown hgrow1 hnx.size (fun j hj => by cases hj; exact Nat.le_refl _)⟩
        case measure => simp [intOf]; omega
    · obtain rfl : k = L := by omega
      have HAA := Lib.hid (show Apart X from fun i j hi hj => hA.out i j (by rw [← HL.out]; exact hi) hj)
      go_wp2
      go_ret
      exact ⟨by rw [decide_eq_true HAA.out]; rfl, hnx⟩

theorem cau1_any (bf bx by_ fb : Nat) (a : Option Addr) (L c : Nat) (X : List GF) (a2 : Option Addr) (L2 c2 : Nat) (Y : List GF) (W : World) (i j : Nat) (hf : W.cell? ⟨bf, 0, none⟩ = some (.pointer (some ⟨fb, 0, none⟩))) (hs : W.cell? ⟨bx, 0, none⟩ = some (.slice a L c)) (hs2 : W.cell? ⟨by_, 0, none⟩ = some (.slice a2 L2 c2)) (hF : Fld W fb) (hp : Pa W a L c X) (hp2 : Pa W a2 L2 c2 Y) (hi : i < L) (hj : j < L2) (hne : co X i + co Y j ≠ 0) :
    Giv Try.prog 47 #[.pointer (some ⟨bf, 0, none⟩), .pointer (some ⟨bx, 0, none⟩), .pointer (some ⟨by_, 0, none⟩)] #[.int .i64 (i : Nat), .int .i64 (j : Nat)] (.int .u8 (toI (cau X Y i j))) W := by
  obtain ⟨b, off, rfl, hb, hcell⟩ := hp.at_ hi
  obtain ⟨b2, off2, rfl, hb2, hcell2⟩ := hp2.at_ hj
  have hbd := hp.bd
  have hbd2 := hp2.bd
  have q : (i : Int) < (L : Int) := by omega
  have q0 : (0 : Int) ≤ (i : Int) := by omega
  have q1 : (j : Int) < (L2 : Int) := by omega
  have q2 : (0 : Int) ≤ (j : Int) := by omega
  have HADD := Lib.hid (fun k => add_G (co X i) (co Y j) (W.drewN k))
  have HINV := Lib.hid (fun k => inv_G fb (co X i + co Y j) (W.drewN k) (hF.drewN k) hne)
  clear hp hp2 hF hne
  unfold Giv
  go_enter Try.func47, Try.ntmps47
  go_wp2_with fail
  go_quiet (first
    | (go_at_call 49; exact Calls.quiet_of_same ((HADD.out _).mono fun _ _ ⟨he, hw⟩ => ⟨he, hw.symm⟩))
    | (go_at_call 48; exact Calls.quiet_of_same ((HINV.out _).mono fun _ _ ⟨he, hw⟩ => ⟨he, hw.symm⟩)))
  go_wp2
  go_ret
  exact ⟨rfl, _, rfl⟩

theorem co_left {X Y : List GF} {i : Nat} (h : i < X.length) : co (X ++ Y) i = co X i := by
  unfold co; simp [List.getD_eq_getElem?_getD, List.getElem?_append_left h]
theorem co_right {X Y : List GF} {j : Nat} (h : j < Y.length) : co (X ++ Y) (X.length + j) = co Y j := by
  unfold co; simp [List.getD_eq_getElem?_getD, List.getElem?_append_right]
theorem apart_parts {X Y : List GF} (h : Apart (X ++ Y)) : Apart X ∧ Apart Y ∧ ∀ i j, i < X.length → j < Y.length → co X i ≠ co Y j := by
  refine ⟨fun i j hi hj e => h i j (by rw [List.length_append]; omega) hj (by rw [co_left hi, co_left (by omega)]; exact e),
    fun i j hi hj e => h (X.length + i) (X.length + j) (by rw [List.length_append]; omega) (by omega) (by rw [co_right hi, co_right (by omega)]; exact e),
    fun i j hi hj e => h (X.length + j) i (by rw [List.length_append]; omega) (by omega) (by rw [co_right hj, co_left hi]; exact e.symm)⟩
open Classical in
theorem unlike_is (b : Bool) (L : Nat) (X : List GF) (h : decide (Apart X) = b) (W : World) (a : Option Addr) (c : Nat) (hp : Pa W a L c X) :
    Calls Try.prog 45 #[.slice a L c] W fun e w' => e = .returned (.bool b) ∧ Below W.heap.size W w' :=
  (unlike_any a L c X W hp).mono fun e w' ⟨h1, h2⟩ => ⟨by rw [h1, h], h2⟩
theorem cauchy_nofit (fb : Nat) (a : Option Addr) (L c : Nat) (a2 : Option Addr) (L2 c2 : Nat) (w : World) (hL : L ≤ 64) (hL2 : L2 ≤ 64) (hm : L = 0 ∨ L2 = 0) :
    Calls Try.prog 20 #[.pointer (some ⟨fb, 0, none⟩), .slice a L c, .slice a2 L2 c2] w fun e w' => e = .returned (.tuple #[.pointer none, .int .i64 2]) ∧ Below w.heap.size w w' := by
  have hb3 : Below w.heap.size w (((w.alloc (.cells #[.pointer (some ⟨fb, 0, none⟩)] 25)).alloc (.cells #[.slice a L c] 22)).alloc (.cells #[.slice a2 L2 c2] 22)) := (((Below.refl w.heap.size w).alloc (Nat.le_refl _) _).alloc (by simp) _).alloc (by simp; omega) _
  have HB3 := Lib.hid hb3
  clear hb3
  by_cases h0 : L = 0
  · have h1 : ¬ 1 ≤ L := by omega
    clear hm h0
    go_enter Try.func20, Try.ntmps20
    go_wp2_with (first
      | (go_at_call 31; with_reducible refine (fits_no (L : Nat) _ (by omega) (by omega)).mono ?_; rintro e w' ⟨rfl, rfl⟩))
    go_ret2
    exact ⟨rfl, HB3.out⟩
  · have h1 : 1 ≤ L ∧ L ≤ 64 := by omega
    have h2 : ¬ 1 ≤ L2 := by omega
    clear hm h0
    go_enter Try.func20, Try.ntmps20
    go_wp2_with (first
      | (go_at_call 31; with_reducible refine (fits_yes L _ h1).mono ?_; rintro e w' ⟨rfl, rfl⟩)
      | (go_at_call 31; with_reducible refine (fits_no (L2 : Nat) _ (by omega) (by omega)).mono ?_; rintro e w' ⟨rfl, rfl⟩))
    go_ret2
    exact ⟨rfl, HB3.out⟩
set_option maxHeartbeats 1000000 in
open Classical in
theorem cauchy_same (fb : Nat) (a : Option Addr) (L c : Nat) (X : List GF) (a2 : Option Addr) (L2 c2 : Nat) (Y : List GF) (w : World) (hf : Fld w fb) (hp : Pa w a L c X) (hp2 : Pa w a2 L2 c2 Y) (hL : 1 ≤ L ∧ L ≤ 64) (hm : 1 ≤ L2 ∧ L2 ≤ 64) (hap : ¬ Apart (X ++ Y)) :
    Calls Try.prog 20 #[.pointer (some ⟨fb, 0, none⟩), .slice a L c, .slice a2 L2 c2] w fun e w' => e = .returned (.tuple #[.pointer none, .int .i64 6]) ∧ Below w.heap.size w w' := by
  have hbd := hp.bd
  have hbd2 := hp2.bd
  have hlx := hp.len
  have hly := hp2.len
  have hb3 : Below w.heap.size w (((w.alloc (.cells #[.pointer (some ⟨fb, 0, none⟩)] 25)).alloc (.cells #[.slice a L c] 22)).alloc (.cells #[.slice a2 L2 c2] 22)) := (((Below.refl w.heap.size w).alloc (Nat.le_refl _) _).alloc (by simp) _).alloc (by simp; omega) _
  have hA : (((w.alloc (.cells #[.pointer (some ⟨fb, 0, none⟩)] 25)).alloc (.cells #[.slice a L c] 22)).alloc (.cells #[.slice a2 L2 c2] 22)).cell? ⟨w.heap.size, 0, none⟩ = some (.pointer (some ⟨fb, 0, none⟩)) := ((((Below.refl _ _).alloc (Nat.le_refl _) _).alloc (by simp) _).cell (p := ⟨w.heap.size, 0, none⟩) (by simp)).trans (lit_one w _ _)
  have hB : (((w.alloc (.cells #[.pointer (some ⟨fb, 0, none⟩)] 25)).alloc (.cells #[.slice a L c] 22)).alloc (.cells #[.slice a2 L2 c2] 22)).cell? ⟨w.heap.size + 1, 0, none⟩ = some (.slice a L c) := by
    have h := lit_one (w.alloc (.cells #[.pointer (some ⟨fb, 0, none⟩)] 25)) (.slice a L c) 22
    rw [show (w.alloc (.cells #[.pointer (some ⟨fb, 0, none⟩)] 25)).heap.size = w.heap.size + 1 by simp] at h
    exact (((Below.refl _ _).alloc (Nat.le_refl _) _).cell (p := ⟨w.heap.size + 1, 0, none⟩) (by simp)).trans h
  have hC : (((w.alloc (.cells #[.pointer (some ⟨fb, 0, none⟩)] 25)).alloc (.cells #[.slice a L c] 22)).alloc (.cells #[.slice a2 L2 c2] 22)).cell? ⟨w.heap.size + 1 + 1, 0, none⟩ = some (.slice a2 L2 c2) := by
    have h := lit_one ((w.alloc (.cells #[.pointer (some ⟨fb, 0, none⟩)] 25)).alloc (.cells #[.slice a L c] 22)) (.slice a2 L2 c2) 22
    rw [show ((w.alloc (.cells #[.pointer (some ⟨fb, 0, none⟩)] 25)).alloc (.cells #[.slice a L c] 22)).heap.size = w.heap.size + 1 + 1 by simp] at h
    exact h
  have hsz : (((w.alloc (.cells #[.pointer (some ⟨fb, 0, none⟩)] 25)).alloc (.cells #[.slice a L c] 22)).alloc (.cells #[.slice a2 L2 c2] 22)).heap.size = w.heap.size + 1 + 1 + 1 := by simp
  obtain ⟨w3, hw3⟩ : ∃ w3, w3 = (((w.alloc (.cells #[.pointer (some ⟨fb, 0, none⟩)] 25)).alloc (.cells #[.slice a L c] 22)).alloc (.cells #[.slice a2 L2 c2] 22)) := ⟨_, rfl⟩
  rw [← hw3] at hb3 hA hB hC hsz
  have hcat := concat_any w3.heap.size a L c X a2 L2 c2 Y (w3.alloc (.cells #[.slice a L c, .slice a2 L2 c2] 22)) (lit_two _ _ _ _).1 (lit_two _ _ _ _).2 (by simp) ((hp.on hb3).on ((Below.refl _ _).alloc (Nat.le_refl _) _)) ((hp2.on hb3).on ((Below.refl _ _).alloc (Nat.le_refl _) _)) (by omega) (by omega)
  have hb4 : Below w3.heap.size w3 (w3.alloc (.cells #[.slice a L c, .slice a2 L2 c2] 22)) := (Below.refl _ _).alloc (Nat.le_refl _) _
  skip
  rw [hsz, hw3] at hcat
  rw [hw3] at hb4
  have HCAT := Lib.hid hcat
  have HU := Lib.hid (unlike_is false (L + L2) (X ++ Y) (decide_eq_false hap))
  have HB3 := Lib.hid (hw3 ▸ hb3)
  have HB4 := Lib.hid hb4
  have HSZ := Lib.hid (hw3 ▸ hsz)
  clear hf hp hp2 hb3 hA hB hC hsz hcat hb4 hlx hly hap hw3
  go_enter Try.func20, Try.ntmps20
  go_wp2_with (first
    | (go_at_call 31; with_reducible refine (fits_yes L _ hL).mono ?_; rintro e w' ⟨rfl, rfl⟩)
    | (go_at_call 31; with_reducible refine (fits_yes L2 _ hm).mono ?_; rintro e w' ⟨rfl, rfl⟩)
    | (go_at_call 46; go_loud (refine HCAT.out.mono ?_); rintro e w5 ⟨v5, rfl, ho5, hb5⟩; obtain ⟨a5, c5, hv5, hp5, _⟩ := Pa.own ho5; subst hv5; have HP5 := Lib.hid hp5; have HB5 := Lib.hid (bt HB4.out hb5); clear ho5 hb5 hp5)
    | (go_at_call 45; go_loud (refine (HU.out w5 a5 c5 HP5.out).mono ?_); rintro e w6 ⟨rfl, hb6⟩; have HB6 := Lib.hid (bt HB5.out hb6); clear hb6))
  go_ret2
  exact ⟨rfl, bt HB3.out HB6.out⟩
set_option maxHeartbeats 1000000 in
open Classical in
theorem cauchy_ok (fb : Nat) (a : Option Addr) (L c : Nat) (X : List GF) (a2 : Option Addr) (L2 c2 : Nat) (Y : List GF) (w : World) (hf : Fld w fb) (hp : Pa w a L c X) (hp2 : Pa w a2 L2 c2 Y) (hL : 1 ≤ L ∧ L ≤ 64) (hm : 1 ≤ L2 ∧ L2 ≤ 64) (hap : Apart (X ++ Y)) :
    Calls Try.prog 20 #[.pointer (some ⟨fb, 0, none⟩), .slice a L c, .slice a2 L2 c2] w fun e w' => ∃ a', e = .returned (.tuple #[.pointer a', .int .i64 0]) ∧ Mx w' a' L L2 (mat (cau X Y) L L2) ∧ Below w.heap.size w w' := by
  have hbd := hp.bd
  have hbd2 := hp2.bd
  have hlx := hp.len
  have hly := hp2.len
  have hb3 : Below w.heap.size w (((w.alloc (.cells #[.pointer (some ⟨fb, 0, none⟩)] 25)).alloc (.cells #[.slice a L c] 22)).alloc (.cells #[.slice a2 L2 c2] 22)) := (((Below.refl w.heap.size w).alloc (Nat.le_refl _) _).alloc (by simp) _).alloc (by simp; omega) _
  have hA : (((w.alloc (.cells #[.pointer (some ⟨fb, 0, none⟩)] 25)).alloc (.cells #[.slice a L c] 22)).alloc (.cells #[.slice a2 L2 c2] 22)).cell? ⟨w.heap.size, 0, none⟩ = some (.pointer (some ⟨fb, 0, none⟩)) := ((((Below.refl _ _).alloc (Nat.le_refl _) _).alloc (by simp) _).cell (p := ⟨w.heap.size, 0, none⟩) (by simp)).trans (lit_one w _ _)
  have hB : (((w.alloc (.cells #[.pointer (some ⟨fb, 0, none⟩)] 25)).alloc (.cells #[.slice a L c] 22)).alloc (.cells #[.slice a2 L2 c2] 22)).cell? ⟨w.heap.size + 1, 0, none⟩ = some (.slice a L c) := by
    have h := lit_one (w.alloc (.cells #[.pointer (some ⟨fb, 0, none⟩)] 25)) (.slice a L c) 22
    rw [show (w.alloc (.cells #[.pointer (some ⟨fb, 0, none⟩)] 25)).heap.size = w.heap.size + 1 by simp] at h
    exact (((Below.refl _ _).alloc (Nat.le_refl _) _).cell (p := ⟨w.heap.size + 1, 0, none⟩) (by simp)).trans h
  have hC : (((w.alloc (.cells #[.pointer (some ⟨fb, 0, none⟩)] 25)).alloc (.cells #[.slice a L c] 22)).alloc (.cells #[.slice a2 L2 c2] 22)).cell? ⟨w.heap.size + 1 + 1, 0, none⟩ = some (.slice a2 L2 c2) := by
    have h := lit_one ((w.alloc (.cells #[.pointer (some ⟨fb, 0, none⟩)] 25)).alloc (.cells #[.slice a L c] 22)) (.slice a2 L2 c2) 22
    rw [show ((w.alloc (.cells #[.pointer (some ⟨fb, 0, none⟩)] 25)).alloc (.cells #[.slice a L c] 22)).heap.size = w.heap.size + 1 + 1 by simp] at h
    exact h
  have hsz : (((w.alloc (.cells #[.pointer (some ⟨fb, 0, none⟩)] 25)).alloc (.cells #[.slice a L c] 22)).alloc (.cells #[.slice a2 L2 c2] 22)).heap.size = w.heap.size + 1 + 1 + 1 := by simp
  obtain ⟨w3, hw3⟩ : ∃ w3, w3 = (((w.alloc (.cells #[.pointer (some ⟨fb, 0, none⟩)] 25)).alloc (.cells #[.slice a L c] 22)).alloc (.cells #[.slice a2 L2 c2] 22)) := ⟨_, rfl⟩
  rw [← hw3] at hb3 hA hB hC hsz
  have hcat := concat_any w3.heap.size a L c X a2 L2 c2 Y (w3.alloc (.cells #[.slice a L c, .slice a2 L2 c2] 22)) (lit_two _ _ _ _).1 (lit_two _ _ _ _).2 (by simp) ((hp.on hb3).on ((Below.refl _ _).alloc (Nat.le_refl _) _)) ((hp2.on hb3).on ((Below.refl _ _).alloc (Nat.le_refl _) _)) (by omega) (by omega)
  have hb4 : Below w3.heap.size w3 (w3.alloc (.cells #[.slice a L c, .slice a2 L2 c2] 22)) := (Below.refl _ _).alloc (Nat.le_refl _) _
  have hfl : ∀ W, Below w3.heap.size w3 W → _ := fun W (hW : Below w3.heap.size w3 W) => filled_any L L2 47 #[.pointer (some ⟨w.heap.size, 0, none⟩), .pointer (some ⟨w.heap.size + 1, 0, none⟩), .pointer (some ⟨w.heap.size + 1 + 1, 0, none⟩)] (cau X Y) W hL hm (enters_of Try.func47 (by kernel_rfl) rfl) (fun W' i j hW' hi hj =>
    cau1_any w.heap.size (w.heap.size + 1) (w.heap.size + 1 + 1) fb a L c X a2 L2 c2 Y W' i j (((bt hW hW').cell (p := ⟨w.heap.size, 0, none⟩) (by simp [hsz]; omega)).trans hA) (((bt hW hW').cell (p := ⟨w.heap.size + 1, 0, none⟩) (by simp [hsz])).trans hB) (((bt hW hW').cell (p := ⟨w.heap.size + 1 + 1, 0, none⟩) (by simp [hsz])).trans hC) ((hf.below hb3).below (bt hW hW')) ((hp.on hb3).on (bt hW hW')) ((hp2.on hb3).on (bt hW hW')) hi hj (fun e => (apart_parts hap).2.2 i j (by omega) (by omega) (GF.add_eq_zero.1 e)))
  have hcl : ∀ W, Below w3.heap.size w3 W → W.cell? ⟨w.heap.size + 1, 0, none⟩ = some (.slice a L c) ∧ W.cell? ⟨w.heap.size + 1 + 1, 0, none⟩ = some (.slice a2 L2 c2) := fun W hW => ⟨(hW.cell (p := ⟨w.heap.size + 1, 0, none⟩) (by simp [hsz])).trans hB, (hW.cell (p := ⟨w.heap.size + 1 + 1, 0, none⟩) (by simp [hsz])).trans hC⟩
  rw [hw3] at hcl
  have HCL := Lib.hid hcl
  clear hcl
  rw [hw3] at hfl
  have HFL := Lib.hid hfl
  clear hfl
  rw [hsz, hw3] at hcat
  rw [hw3] at hb4
  have HCAT := Lib.hid hcat
  have HU := Lib.hid (unlike_is true (L + L2) (X ++ Y) (decide_eq_true hap))
  have HB3 := Lib.hid (hw3 ▸ hb3)
  have HB4 := Lib.hid hb4
  have HSZ := Lib.hid (hw3 ▸ hsz)
  clear hf hp hp2 hb3 hA hB hC hsz hcat hb4 hlx hly hap hw3
  go_enter Try.func20, Try.ntmps20
  go_wp2_with (first
    | (go_at_call 31; with_reducible refine (fits_yes L _ hL).mono ?_; rintro e w' ⟨rfl, rfl⟩)
    | (go_at_call 31; with_reducible refine (fits_yes L2 _ hm).mono ?_; rintro e w' ⟨rfl, rfl⟩)
    | (go_at_call 46; go_loud (refine HCAT.out.mono ?_); rintro e w5 ⟨v5, rfl, ho5, hb5⟩; obtain ⟨a5, c5, hv5, hp5, _⟩ := Pa.own ho5; subst hv5; have HP5 := Lib.hid hp5; have HB5 := Lib.hid (bt HB4.out hb5); clear ho5 hb5 hp5)
    | (go_at_call 45; go_loud (refine (HU.out w5 a5 c5 HP5.out).mono ?_); rintro e w6 ⟨rfl, hb6⟩; have HB6 := Lib.hid (bt HB5.out hb6); have hc1 := (HCL.out w6 HB6.out).1; have hc2 := (HCL.out w6 HB6.out).2; clear hb6)
    | (go_at_call 32; go_loud (refine (HFL.out w6 HB6.out).mono ?_); rintro e w7 ⟨a7, rfl, hm7, hb7⟩; have HM7 := Lib.hid hm7; have HB7 := Lib.hid (bt HB6.out hb7); clear hm7 hb7))
  go_ret2
  exact ⟨a7, rfl, HM7.out, bt HB3.out HB7.out⟩
end Go.Proofs.Ytpoaimcioeopdaa
