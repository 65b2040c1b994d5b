/- Shamir's sharing, plainly: dealings as polynomials, shares, what shares tell. No program is named here. -/
import Derived.Test.YtmhknggjpggagaaGlag
namespace Go.Proofs.Ytmhknggjpggagaa
open GF
set_option linter.unusedVariables false

/-- The polynomial of a dealing at byte i: the secret's number, and then the mask's rows'. -/
def dl (t n : Nat) (S M : List GF) (i : Nat) : List GF := co S i :: (List.range (t - 1)).map fun k => co M (k * n + i)
theorem dl_zero (t n : Nat) (S M : List GF) (i : Nat) : co (dl t n S M i) 0 = co S i := co_cons_zero _ _
theorem dl_succ {t k : Nat} (n : Nat) (S M : List GF) (i : Nat) (h : k + 1 < t) : co (dl t n S M i) (k + 1) = co M (k * n + i) := by
  unfold dl
  rw [co_cons_succ]
  unfold co
  simp [List.getD_eq_getElem?_getD, show k < t - 1 by omega]
theorem dl_len {t : Nat} (n : Nat) (S M : List GF) (i : Nat) (h : 1 ≤ t) : (dl t n S M i).length = t := by unfold dl; simp; omega
theorem dl_ge {t k : Nat} (n : Nat) (S M : List GF) (i : Nat) (h : 1 ≤ t) (hk : t ≤ k) : co (dl t n S M i) k = 0 := co_ge (by rw [dl_len n S M i h]; exact hk)
/-- A share: byte by byte the value at x. -/
def shR (t n : Nat) (S M : List GF) (x : GF) : List GF := (List.range n).map fun i => ev (dl t n S M i) x
theorem shR_len (t n : Nat) (S M : List GF) (x : GF) : (shR t n S M x).length = n := by simp [shR]
theorem shR_co {t n i : Nat} (S M : List GF) (x : GF) (h : i < n) : co (shR t n S M x) i = ev (dl t n S M i) x := by
  unfold co shR; simp [List.getD_eq_getElem?_getD, h]
theorem ev_at_zero (p : List GF) : ev p 0 = co p 0 := by
  have h := ev_drop p 0 0
  rw [List.drop_zero] at h
  rw [h, zero_mul, GF.add_zero]
/-- What shares tell of the place x: the rows by number. -/
def atR (X : List GF) (R : Nat → List GF) (x : GF) (n : Nat) : List GF := (List.range n).map fun i => sm X.length fun k => wt X k x * co (R k) i
theorem atR_len (X : List GF) (R : Nat → List GF) (x : GF) (n : Nat) : (atR X R x n).length = n := by simp [atR]
theorem atR_co {X : List GF} {R : Nat → List GF} {x : GF} {n i : Nat} (h : i < n) : co (atR X R x n) i = sm X.length fun k => wt X k x * co (R k) i := by
  unfold atR; unfold co; simp [List.getD_eq_getElem?_getD, h]
/-- ANY OF THEM, of unlike places, as many as the threshold or more, tell each share. -/
theorem at_shares {t n : Nat} {X S M : List GF} {R : Nat → List GF} (h : Apart X) (ht : 1 ≤ t) (hX : t ≤ X.length) (hR : ∀ k, k < X.length → R k = shR t n S M (co X k)) (x : GF) : atR X R x n = shR t n S M x := by
  refine ext_co (by rw [atR_len, shR_len]) fun i hi => ?_
  rw [atR_len] at hi
  rw [atR_co hi, shR_co S M x hi, ← wt_sum h (p := dl t n S M i) (fun k hk => dl_ge n S M i ht (by omega)) x]
  exact sm_congr fun k hk => by rw [hR k hk, shR_co S M _ hi, mul_comm]
/-- .. and the secret. -/
theorem sh_secret {t n : Nat} {S : List GF} (M : List GF) (hS : S.length = n) : shR t n S M 0 = S := by
  refine ext_co (by rw [shR_len, hS]) fun i hi => ?_
  rw [shR_len] at hi
  rw [shR_co S M 0 hi, ev_at_zero, dl_zero]
/-- Rows added. -/
def addR (a b : List GF) : List GF := (List.range a.length).map fun i => co a i + co b i
theorem addR_len (a b : List GF) : (addR a b).length = a.length := by simp [addR]
theorem addR_co {a b : List GF} (h : a.length = b.length) (i : Nat) : co (addR a b) i = co a i + co b i := by
  by_cases hi : i < a.length
  · unfold addR; unfold co; simp [List.getD_eq_getElem?_getD, hi]
  · rw [co_ge (by rw [addR_len]; omega), co_ge (l := a) (by omega), co_ge (l := b) (by omega), GF.add_zero]
theorem ev_dl_add {t n : Nat} {S S' M M' : List GF} (h : S.length = S'.length) (hM : M.length = M'.length) (i : Nat) (x : GF) : ev (dl t n (addR S S') (addR M M') i) x = ev (dl t n S M i) x + ev (dl t n S' M' i) x := by
  rw [← ev_addL]
  refine ev_congr (fun k => ?_) x
  rw [co_addL]
  match k with
  | 0 => rw [dl_zero, dl_zero, dl_zero, addR_co h]
  | k + 1 =>
    by_cases hk : k + 1 < t
    · rw [dl_succ n _ _ i hk, dl_succ n _ _ i hk, dl_succ n _ _ i hk, addR_co hM]
    · unfold dl
      rw [co_cons_succ, co_cons_succ, co_cons_succ, co_ge (by simp; omega), co_ge (by simp; omega), co_ge (by simp; omega), GF.add_zero]
/-- Shares of sums are sums of shares. -/
theorem sh_add {t n : Nat} {S S' M M' : List GF} (h : S.length = S'.length) (hM : M.length = M'.length) (x : GF) : shR t n (addR S S') (addR M M') x = addR (shR t n S M x) (shR t n S' M' x) := by
  refine ext_co (by rw [addR_len, shR_len, shR_len]) fun i hi => ?_
  rw [shR_len] at hi
  rw [addR_co (by rw [shR_len, shR_len]), shR_co _ _ x hi, shR_co _ _ x hi, shR_co _ _ x hi, ev_dl_add h hM]
/-- A delta's secret is noughts. -/
def noR (n : Nat) : List GF := List.replicate n 0
theorem noR_co (n i : Nat) : co (noR n) i = 0 := by
  unfold noR co
  by_cases h : i < n
  · simp [List.getD_eq_getElem?_getD, h]
  · simp [List.getD_eq_getElem?_getD, h]
theorem addR_no {a : List GF} {n : Nat} (h : a.length = n) : addR a (noR n) = a := by
  refine ext_co (by rw [addR_len]) fun i hi => ?_
  rw [addR_co (by rw [h]; simp [noR]), noR_co, GF.add_zero]
/-- The mask that hides the change of a secret from t - 1 places: the vanishing polynomial's, scaled. -/
def hid (n : Nat) (S O V : List GF) (M : List GF) : List GF := (List.range M.length).map fun j => co M j + GF.inv (co V 0) * (co S (j % n) + co O (j % n)) * co V (j / n + 1)
theorem hid_len (n : Nat) (S O V M : List GF) : (hid n S O V M).length = M.length := by simp [hid]
theorem hid_co {n : Nat} {S O V M : List GF} {k i : Nat} (hi : i < n) (hk : k * n + i < M.length) : co (hid n S O V M) (k * n + i) = co M (k * n + i) + GF.inv (co V 0) * (co S i + co O i) * co V (k + 1) := by
  have e1 : (k * n + i) % n = i := by rw [Nat.mul_comm, Nat.mul_add_mod, Nat.mod_eq_of_lt hi]
  have e2 : (k * n + i) / n = k := by rw [Nat.mul_comm, Nat.mul_add_div (by omega), Nat.div_eq_of_lt hi, Nat.add_zero]
  have : co (hid n S O V M) (k * n + i) = co M (k * n + i) + GF.inv (co V 0) * (co S ((k * n + i) % n) + co O ((k * n + i) % n)) * co V ((k * n + i) / n + 1) := by
    show List.getD _ _ _ = _
    unfold hid
    simp [List.getD_eq_getElem?_getD, hk]
  rw [this, e1, e2]
theorem idx_lt {t n k i : Nat} (hi : i < n) (hk : k + 1 < t) : k * n + i < (t - 1) * n := by
  have h1 : k + 1 ≤ t - 1 := by omega
  have h2 := Nat.mul_le_mul_right n h1
  rw [Nat.add_mul, Nat.one_mul] at h2
  omega
/-- FEWER TELL NOTHING: at places at which V vanishes the other secret, with the other mask, has the same shares. -/
theorem ev_hid {t n : Nat} {S O V M : List GF} (ht : 1 ≤ t) (hM : M.length = (t - 1) * n) (hV : ∀ k, t ≤ k → co V k = 0) (h0 : co V 0 ≠ 0) {i : Nat} (hi : i < n) {x : GF} (hx : ev V x = 0) :
    ev (dl t n O (hid n S O V M) i) x = ev (dl t n S M i) x := by
  have e : ev (dl t n O (hid n S O V M) i) x = ev (addL (dl t n S M i) (smulL (GF.inv (co V 0) * (co S i + co O i)) V)) x := by
    refine ev_congr (fun k => ?_) x
    rw [co_addL, co_smulL]
    match k with
    | 0 =>
      rw [dl_zero, dl_zero, mul_comm (GF.inv (co V 0)), mul_assoc, inv_mul h0, mul_one, ← add_assoc, add_self, zero_add]
    | k + 1 =>
      by_cases hk : k + 1 < t
      · rw [dl_succ n _ _ i hk, dl_succ n _ _ i hk, hid_co hi (by rw [hM]; exact idx_lt hi hk)]
      · rw [dl_ge n _ _ i ht (by omega), dl_ge n _ _ i ht (by omega), hV (k + 1) (by omega), mul_zero, GF.add_zero]
  rw [e, ev_addL, ev_smulL, hx, mul_zero, GF.add_zero]
theorem sh_hid {t n : Nat} {S O V M : List GF} (ht : 1 ≤ t) (hM : M.length = (t - 1) * n) (hV : ∀ k, t ≤ k → co V k = 0) (h0 : co V 0 ≠ 0) {x : GF} (hx : ev V x = 0) :
    shR t n O (hid n S O V M) x = shR t n S M x := by
  refine ext_co (by rw [shR_len, shR_len]) fun i hi => ?_
  rw [shR_len] at hi
  rw [shR_co _ _ x hi, shR_co _ _ x hi, ev_hid ht hM hV h0 hi hx]
/-- .. AND NO OTHER MASK DOES: two masks with which one secret has the same shares at t - 1 unlike places, none 0, are one. -/
theorem sh_only {t n : Nat} {S M M' X : List GF} (ht : 1 ≤ t) (hM : M.length = (t - 1) * n) (hM' : M'.length = (t - 1) * n) (hX : X.length = t - 1) (hA : Apart X) (hz : ∀ k, k < X.length → co X k ≠ 0)
    (h : ∀ k, k < X.length → shR t n S M (co X k) = shR t n S M' (co X k)) : M = M' := by
  have hn : (0 :: X).Nodup := by
    refine List.nodup_cons.2 ⟨fun h0 => ?_, hA.nodup⟩
    obtain ⟨k, hk, e⟩ := mem_co.1 h0
    exact hz k hk e
  have hp : ∀ i, i < n → ∀ k, co (dl t n S M i) k = co (dl t n S M' i) k := fun i hi => by
    refine same_poly (n := t) (xs := 0 :: X) (fun k hk => dl_ge n S M i ht hk) (fun k hk => dl_ge n S M' i ht hk) hn (by simp; omega) (fun x hx => ?_)
    rcases List.mem_cons.1 hx with rfl | hx
    · rw [ev_at_zero, ev_at_zero, dl_zero, dl_zero]
    · obtain ⟨k, hk, rfl⟩ := mem_co.1 hx
      have e := congrArg (fun l => co l i) (h k hk)
      simp only [shR_co _ _ _ hi] at e
      exact e
  refine ext_co (by rw [hM, hM']) fun j hj => ?_
  rw [hM] at hj
  have hn0 : 0 < n := Nat.pos_of_ne_zero fun e => by rw [e, Nat.mul_zero] at hj; omega
  have e := Nat.div_add_mod j n
  have hk : j / n < t - 1 := by rw [Nat.mul_comm] at hj; exact Nat.div_lt_of_lt_mul hj
  have hq := hp (j % n) (Nat.mod_lt _ hn0) (j / n + 1)
  rw [dl_succ n _ _ _ (by omega), dl_succ n _ _ _ (by omega), Nat.mul_comm, e] at hq
  exact hq
end Go.Proofs.Ytmhknggjpggagaa
