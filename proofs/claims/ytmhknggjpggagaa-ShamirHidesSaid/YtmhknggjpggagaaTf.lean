/- Plain: the mask that hides, as it grows; and one place of it changed. -/
import Derived.Test.YtmhknggjpggagaaVi
import Derived.Test.YtmhknggjpggagaaTb
namespace Go.Proofs.Ytmhknggjpggagaa
open Go.ChangeShapes Go.WideShapes Go.ChangeAt Go.RowKit Go.Shelf GF
set_option linter.unusedVariables false
set_option linter.unusedSimpArgs false

theorem inv_GV (b : Nat) (x : GF) (w : World) (hf : Fld w b) (hx : x ≠ 0) : Calls Try.prog 24 #[.pointer (some ⟨b, 0, none⟩), .int .u8 (toI x)] w fun e w' => e = .returned (.tuple #[.int .u8 (toI (GF.inv x)), .int .i64 0]) ∧ w = w' :=
  inv_ok b x.1 w hf x.2 (GF.val_ne hx)
theorem weights_at0 (b : Nat) (a : Option Addr) (L cap : Nat) (X : List GF) (w : World) (hf : Fld w b) (hx : Pa w a L cap X) (hE : plErr X = 0) :
    Calls Try.prog 23 #[.pointer (some ⟨b, 0, none⟩), .slice a L cap, .int .u8 0] w fun e w' => ∃ g, e = .returned (.tuple #[.slice (some ⟨g, 0, none⟩) L L, .int .i64 0]) ∧
      w'.ownsRow w.heap.size 5 1 (.slice (some ⟨g, 0, none⟩) L L) L ((iL (wts X 0)).map (Value.int .u8)) ∧ Below w.heap.size w w' :=
  weights_any b a L cap X 0 w hf hx hE
/-- All bytes ahead of the i-th are changed, and of the i-th those ahead of the k-th number. -/
def hdP (n : Nat) (S O V M : List GF) (i k : Nat) : List GF := (List.range M.length).map fun j => if j % n < i ∨ j % n = i ∧ j / n + 1 < k then co M j + GF.inv (co V 0) * (co S (j % n) + co O (j % n)) * co V (j / n + 1) else co M j
theorem hdP_len (n : Nat) (S O V M : List GF) (i k : Nat) : (hdP n S O V M i k).length = M.length := by simp [hdP]
theorem hdP_co {n : Nat} {S O V M : List GF} {i k j : Nat} (h : j < M.length) : co (hdP n S O V M i k) j = if j % n < i ∨ j % n = i ∧ j / n + 1 < k then co M j + GF.inv (co V 0) * (co S (j % n) + co O (j % n)) * co V (j / n + 1) else co M j := by
  show List.getD _ _ _ = _
  unfold hdP
  simp [List.getD_eq_getElem?_getD, h]
theorem hdP_start (n : Nat) (S O V M : List GF) : hdP n S O V M 0 1 = M := by
  refine ext_co (by rw [hdP_len]) fun j hj => ?_
  rw [hdP_len] at hj
  rw [hdP_co hj, if_neg]
  have h0 := Nat.zero_le (j / n)
  rintro (h | ⟨_, h⟩) <;> omega
theorem div_of {q n j : Nat} (h : j < q * n) : 0 < n ∧ j / n < q ∧ j % n < n := by
  have h0 : 0 < n := Nat.pos_of_ne_zero fun e => by rw [e, Nat.mul_zero] at h; omega
  exact ⟨h0, Nat.div_lt_of_lt_mul (by rw [Nat.mul_comm]; exact h), Nat.mod_lt _ h0⟩
theorem hdP_next {n q : Nat} {S O V M : List GF} (hM : M.length = q * n) (i : Nat) : hdP n S O V M i (q + 1) = hdP n S O V M (i + 1) 1 := by
  refine ext_co (by rw [hdP_len, hdP_len]) fun j hj => ?_
  rw [hdP_len] at hj
  rw [hdP_co hj, hdP_co hj]
  obtain ⟨_, h2, _⟩ := div_of (by rw [← hM]; exact hj)
  have h0 := Nat.zero_le (j / n)
  have e : (j % n < i ∨ j % n = i ∧ j / n + 1 < q + 1) ↔ (j % n < i + 1 ∨ j % n = i + 1 ∧ j / n + 1 < 1) := by omega
  by_cases h : j % n < i ∨ j % n = i ∧ j / n + 1 < q + 1
  · rw [if_pos h, if_pos (e.1 h)]
  · rw [if_neg h, if_neg (fun h2 => h (e.2 h2))]
theorem hdP_end {n q : Nat} {S O V M : List GF} (hM : M.length = q * n) : hdP n S O V M n 1 = hid n S O V M := by
  refine ext_co (by rw [hdP_len, hid_len]) fun j hj => ?_
  rw [hdP_len] at hj
  obtain ⟨_, _, h3⟩ := div_of (by rw [← hM]; exact hj)
  rw [hdP_co hj, if_pos (.inl h3)]
  unfold hid
  show _ = List.getD _ _ _
  simp [List.getD_eq_getElem?_getD, hj]
theorem pos_of {n i p : Nat} (hi : i < n) : (p * n + i) % n = i ∧ (p * n + i) / n = p := by
  constructor
  · rw [Nat.mul_comm, Nat.mul_add_mod, Nat.mod_eq_of_lt hi]
  · rw [Nat.mul_comm, Nat.mul_add_div (by omega), Nat.div_eq_of_lt hi, Nat.add_zero]
theorem hdP_at {n i p : Nat} {S O V M : List GF} (hi : i < n) (hp : p * n + i < M.length) : co (hdP n S O V M i (p + 1)) (p * n + i) = co M (p * n + i) := by
  rw [hdP_co hp, (pos_of hi).1, (pos_of hi).2, if_neg]
  omega
theorem hdP_set {n i p : Nat} {S O V M : List GF} (hi : i < n) (hp : p * n + i < M.length) : (hdP n S O V M i (p + 1)).set (p * n + i) (co M (p * n + i) + GF.inv (co V 0) * (co S i + co O i) * co V (p + 1)) = hdP n S O V M i (p + 2) := by
  refine ext_co (by rw [List.length_set, hdP_len, hdP_len]) fun j hj => ?_
  rw [List.length_set, hdP_len] at hj
  rw [hdP_co hj]
  by_cases e : j = p * n + i
  · subst e
    rw [(pos_of hi).1, (pos_of hi).2, if_pos (by omega)]
    show List.getD _ _ _ = _
    simp [List.getD_eq_getElem?_getD, hdP_len, hp]
  · have e2 : co ((hdP n S O V M i (p + 1)).set (p * n + i) (co M (p * n + i) + GF.inv (co V 0) * (co S i + co O i) * co V (p + 1))) j = co (hdP n S O V M i (p + 1)) j := by
      show List.getD _ _ _ = List.getD _ _ _
      simp [List.getD_eq_getElem?_getD, Ne.symm e]
    rw [e2, hdP_co hj]
    have e3 : ¬ (j % n = i ∧ j / n = p) := fun h => e (by have := Nat.div_add_mod j n; rw [h.1, h.2, Nat.mul_comm] at this; omega)
    have e4 : (j % n < i ∨ j % n = i ∧ j / n + 1 < p + 1) ↔ (j % n < i ∨ j % n = i ∧ j / n + 1 < p + 2) := by omega
    by_cases h : j % n < i ∨ j % n = i ∧ j / n + 1 < p + 1
    · rw [if_pos h, if_pos (e4.1 h)]
    · rw [if_neg h, if_neg (fun h2 => h (e4.2 h2))]
theorem van_zero {U : List GF} {q : Nat} (hq : U.length = q) (h0 : ∀ k, k < q → co U k ≠ 0) : co (vanA U q) 0 ≠ 0 := fun e => by
  rw [← ev_at_zero] at e
  obtain ⟨k, hk, e2⟩ := (ev_vanA q (by omega)).1 e
  exact h0 k hk e2
theorem van_at {U : List GF} {q k : Nat} (hq : U.length = q) (hk : k < q) : ev (vanA U q) (co U k) = 0 := (ev_vanA q (by omega)).2 ⟨k, hk, rfl⟩
theorem van_ge {U : List GF} {q k : Nat} (hk : q + 1 ≤ k) : co (vanA U q) k = 0 := co_ge (by rw [length_vanA]; exact hk)
theorem apart_cons {U : List GF} (h : U.Nodup) (h0 : (0 : GF) ∉ U) : plErr (0 :: U) = 0 ∨ 255 ≤ U.length := by
  by_cases hl : U.length < 255
  · left
    exact plErr_zero.2 ⟨by simp, by simp; omega, apart_of_nodup (List.nodup_cons.2 ⟨h0, h⟩)⟩
  · right; omega
/-- uint(u) modulo d, as the walk may spell it. -/
theorem mod_both (u d : Int) (hd : 0 < d) : ∃ q : Nat, (IntKind.u64.wrap u).tmod d = (q : Int) ∧ (IntKind.u64.wrap u) % d = (q : Int) ∧ (q : Int) < d := by
  obtain ⟨q, h1, h2⟩ := mod_of u d hd
  refine ⟨q, h1, ?_, h2⟩
  rw [← h1, Int.tmod_eq_emod_of_nonneg]
  rw [IntKind.wrap_u64]; omega
theorem one_more {r : Nat} (h : r < 255) : ∃ y : GF, 1 + (r : Int) = toI y ∧ y ≠ 0 := by
  have e := toI_toG (x := 1 + (r : Int)) (by omega)
  exact ⟨toG (1 + (r : Int)), e.symm, fun h0 => by rw [h0] at e; have : toI (0 : GF) = 0 := rfl; omega⟩
/-- One place of a row changed. -/
theorem set_co {H : List GF} {p : Nat} (x : GF) (hp : p < H.length) : co (H.set p x) p = x := by
  show List.getD _ _ _ = _
  simp [List.getD_eq_getElem?_getD, hp]
theorem changed_not {t n p : Nat} {S H U : List GF} {d : GF} (ht : 1 ≤ t) (hH : H.length = (t - 1) * n) (hU : U.length = t - 1) (hA : U.Nodup) (h0 : (0 : GF) ∉ U) (hp : p < H.length) (hd : d ≠ 0) : ∃ k, k < U.length ∧ shR t n S H (co U k) ≠ shR t n S (H.set p (co H p + d)) (co U k) := by
  refine Classical.byContradiction fun hc => ?_
  have hall : ∀ k, k < U.length → shR t n S H (co U k) = shR t n S (H.set p (co H p + d)) (co U k) := fun k hk => Classical.byContradiction fun h => hc ⟨k, hk, h⟩
  have e := sh_only ht hH (by rw [List.length_set]; exact hH) hU (apart_of_nodup hA) (fun k hk e => h0 (by rw [← e, co_lt hk]; exact List.getElem_mem hk)) hall
  have e2 := congrArg (fun l => co l p) e
  simp only [set_co _ hp] at e2
  apply hd
  have e3 : co H p + co H p = co H p + (co H p + d) := by rw [← e2]
  rw [← add_assoc, add_self, zero_add] at e3
  exact e3.symm
end Go.Proofs.Ytmhknggjpggagaa
