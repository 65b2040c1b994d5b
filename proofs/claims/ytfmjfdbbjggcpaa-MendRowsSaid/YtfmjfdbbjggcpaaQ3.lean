/- Texts of mine, one behind the other: Prth Srow Sm Sa Sr Sw Sd Su Sv Sc Sl Se Sf Sg Sh. -/
import Derived.Test.YtfmjfdbbjggcpaaQ2
import Derived.Deep.CutRange
import Derived.Deep.OwnRows
import Derived.Laws.AppendOwnNone
import Derived.Deep.RegionHeld
import Derived.Deep.QuietTactic
import Derived.BigQuiet
import Derived.Test.YtfmjfdbbjggcpaaBlk
import Derived.Laws.CopyOwn
import Derived.BigRegion
import Derived.ChangeAlike
/- Contracts of the document's Places, Weight, Through. -/
namespace Go.Proofs.Ytfmjfdbbjggcpaa
open Go.ChangeShapes Go.WideShapes Go.ChangeAt Go.RowKit Go.Shelf GF
set_option linter.unusedVariables false
set_option maxRecDepth 100000

set_option maxHeartbeats 2000000 in
theorem rplaces_any (a : Option Addr) (L cap : Nat) (X : List GF) (w : World) (hx : Pa w a L cap X) :
    Calls Try.prog 9 #[.slice a L cap] w fun e w' => e = .returned (.int .i64 (plErr X)) ∧ Below w.heap.size w w' := by
  have hl := hx.len
  have hm : L ≤ 9223372036854775807 := by have := hx.1.2.2.2; unfold maxLen at this; omega
  rcases Nat.eq_zero_or_pos L with h0 | h0
  · have HP := Lib.hid (show plErr X = 5 by unfold plErr; rw [if_pos (by omega)])
    clear hx hl
    subst h0
    go_enter Try.func9, Try.ntmps9
    go_wp2
    go_ret
    exact ⟨ret_int HP.out.symm, Below.refl _ _⟩
  have q0 : ((L : Int) == 0) = false := by rw [beq_eq_false_iff_ne]; omega
  by_cases h255 : 255 < L
  · have HP := Lib.hid (show plErr X = 4 by unfold plErr; rw [if_neg (by omega), if_pos (by omega)])
    clear hx hl
    have q1 : (255 : Int) < (L : Int) := by omega
    go_enter Try.func9, Try.ntmps9
    go_wp2
    go_ret
    exact ⟨ret_int HP.out.symm, Below.refl _ _⟩
  have q1 : ¬ (255 : Int) < (L : Int) := by omega
  have HX := Lib.hid hx
  have HL := Lib.hid hl
  clear hx hl
  go_enter Try.func9, Try.ntmps9
  go_wp2
  go_loopw [13] (fun j wr => ∃ i : Nat, i ≤ L ∧ j = .int .i64 (i : Nat) ∧ Hid (ApTo X i) ∧ Hid (Below w.heap.size w wr))
    (fun j _ => L - (intOf j).toNat)
  case atStart => exact ⟨0, Nat.zero_le _, rfl, Lib.hid (fun i j hi _ => by omega), Lib.hid (Below.refl _ _)⟩
  case round =>
    obtain ⟨i, hi, rfl, hA, hB⟩ := hrel
    by_cases hlt : i < L
    · have q2 : (i : Int) < (L : Int) := by omega
      have q3 : (0 : Int) ≤ (i : Int) := by omega
      go_wp2
      go_loopw [4] (fun j wq => ∃ k : Nat, k ≤ i ∧ j = .int .i64 (k : Nat) ∧ Hid (∀ j, j < k → co X i ≠ co X j) ∧ Hid (Below w.heap.size w wq))
        (fun j _ => i - (intOf j).toNat)
      case atStart => exact ⟨0, Nat.zero_le _, rfl, Lib.hid (fun j hj => by omega), hB⟩
      case round =>
        obtain ⟨k, hk, rfl, hN, hB2⟩ := hrel
        by_cases hlt2 : k < i
        · obtain ⟨bx, ox, rfl, hbx, hci⟩ := (HX.out.on hB2.out).at_ hlt
          obtain ⟨bk, ok, he, hbk, hck⟩ := (HX.out.on hB2.out).at_ (show k < L by omega)
          cases he
          have q4 : (k : Int) < (i : Int) := by omega
          have q5 : (0 : Int) ≤ (k : Int) := by omega
          have q6 : (k : Int) < (L : Int) := by omega
          by_cases e : co X i = co X k
          · have q7 : (toI (co X i) == toI (co X k)) = true := by rw [e]; simp
            have HP := Lib.hid (show plErr X = 6 by unfold plErr; rw [if_neg (by rw [HL.out]; omega), if_neg (by rw [HL.out]; omega), if_neg (fun ha => ha i k (by rw [HL.out]; exact hlt) hlt2 e)])
            clear e
            go_wp2_with fail
            go_quiet (fail)
            go_wp2
            go_ret
            exact ⟨ret_int HP.out.symm, below_drewN hB2.out _⟩
          · have q7 : (toI (co X i) == toI (co X k)) = false := by rw [beq_eq_false_iff_ne]; exact fun h => e (toI_inj h)
            have HE := Lib.hid e
            clear e
            go_wp2_with fail
            go_quiet (fail)
            go_wp2
            go_roundw
            case rel => exact ⟨k + 1, by omega, by go_num, Lib.hid (fun j hj => by rcases Nat.lt_succ_iff_lt_or_eq.1 hj with h | h; exact hN.out j h; subst h; exact HE.out), Lib.hid (below_drewN hB2.out _)⟩
            case measure => simp [intOf]; omega
        · obtain rfl : i = k := by omega
          have hA2 : ApTo X (i + 1) := fun p q hp hq => by
            rcases Nat.lt_succ_iff_lt_or_eq.1 hp with h | h
            · exact hA.out p q h hq
            · subst h; exact hN.out q hq
          have HA2 := Lib.hid hA2
          clear hA2
          go_wp2
          go_roundw
          case rel => exact ⟨i + 1, by omega, by go_num, HA2, hB2⟩
          case measure => simp [intOf]; omega
    · obtain rfl : L = i := by omega
      have HP := Lib.hid (show plErr X = 0 from plErr_zero.2 ⟨by rw [HL.out]; omega, by rw [HL.out]; omega, by rw [← apTo_all, HL.out]; exact hA.out⟩)
      go_wp2
      go_ret
      exact ⟨ret_int HP.out.symm, hB.out⟩

end Go.Proofs.Ytfmjfdbbjggcpaa
/- Rows of rows of numbers of the field, as they lie in memory: as arguments, and as rows of one's own. -/
namespace Go.Proofs.Ytfmjfdbbjggcpaa
open Go.ChangeShapes Go.WideShapes Go.ChangeAt Go.RowKit Go.Shelf GF
set_option linter.unusedVariables false

/-- The i-th row. -/
def rw_ (M : List (List GF)) (i : Nat) : List GF := M.getD i []
/-- These values are slices that read as these rows; each lies in an old block of which ok holds. -/
def RV (w : World) (ok : Nat → Prop) (vs : List Value) (M : List (List GF)) : Prop :=
  vs.length = M.length ∧ ∀ i, i < M.length → ∃ a c, vs[i]? = some (.slice a (rw_ M i).length c) ∧ (rw_ M i).length ≤ c ∧ c ≤ maxLen ∧ (a = none → c = 0) ∧
    (0 < (rw_ M i).length → ∃ b off, a = some ⟨b, off, none⟩ ∧ b < w.heap.size ∧ ok b ∧ ∀ j, j < (rw_ M i).length → w.cell? ⟨b, off + j, none⟩ = some (.int .u8 (toI (co (rw_ M i) j))))
theorem RV.keep {w w' : World} {ok ok' : Nat → Prop} {vs : List Value} {M : List (List GF)} (h : RV w ok vs M) (hs : w.heap.size ≤ w'.heap.size) (hk : ∀ b, b < w.heap.size → ok b → ok' b ∧ w'.heap[b]? = w.heap[b]?) : RV w' ok' vs M := by
  refine ⟨h.1, fun i hi => ?_⟩
  obtain ⟨a, c, h1, h2, h3, h4, h5⟩ := h.2 i hi
  refine ⟨a, c, h1, h2, h3, h4, fun h0 => ?_⟩
  obtain ⟨b, off, e, hb, ho, hc⟩ := h5 h0
  obtain ⟨k1, k2⟩ := hk b hb ho
  exact ⟨b, off, e, by omega, k1, fun j hj => by rw [World.cell?_of_block (w := w) (a := ⟨b, off + j, none⟩) k2]; exact hc j hj⟩
theorem RV.nil (w : World) (ok : Nat → Prop) : RV w ok [] [] := ⟨rfl, fun i hi => absurd hi (by simp)⟩
theorem RV.pa {w : World} {ok : Nat → Prop} {vs : List Value} {M : List (List GF)} (h : RV w ok vs M) {i : Nat} (hi : i < M.length) : ∃ a c, vs[i]? = some (.slice a (rw_ M i).length c) ∧ Pa w a (rw_ M i).length c (rw_ M i) := by
  obtain ⟨a, c, h1, h2, h3, h4, h5⟩ := h.2 i hi
  refine ⟨a, c, h1, ⟨⟨length_iL _, allB_iL _, fun h0 => ?_, h2, h3⟩, h4⟩⟩
  rw [length_iL] at h0
  obtain ⟨b, off, e, hb, _, hc⟩ := h5 h0
  exact ⟨b, off, e, hb, fun j hj => by rw [length_iL] at hj; rw [getD_iL]; exact hc j hj⟩
/-- One row more. -/
theorem RV.more {w : World} {ok : Nat → Prop} {vs : List Value} {M : List (List GF)} (h : RV w ok vs M) {a : Option Addr} {c : Nat} {P : List GF} (hp : Pa w a P.length c P) (ho : ∀ b off, a = some ⟨b, off, none⟩ → 0 < P.length → ok b) : RV w ok (vs ++ [.slice a P.length c]) (M ++ [P]) := by
  refine ⟨by simp [h.1], fun i hi => ?_⟩
  by_cases e : i < M.length
  · have e1 : rw_ (M ++ [P]) i = rw_ M i := by unfold rw_; simp only [List.getD_eq_getElem?_getD]; rw [List.getElem?_append_left e]
    rw [e1, List.getElem?_append_left (by rw [h.1]; exact e)]
    exact h.2 i e
  · have e0 : i = M.length := by simp at hi; omega
    have e1 : rw_ (M ++ [P]) i = P := by unfold rw_; simp only [List.getD_eq_getElem?_getD]; rw [e0, List.getElem?_append_right (Nat.le_refl _), Nat.sub_self]; rfl
    rw [e1, e0, ← h.1, List.getElem?_append_right (Nat.le_refl _), Nat.sub_self]
    refine ⟨a, c, rfl, hp.1.2.2.2.1, hp.1.2.2.2.2, hp.2, fun h0 => ?_⟩
    obtain ⟨b, off, e, hb, hc⟩ := hp.1.2.2.1 (by rw [length_iL]; exact h0)
    exact ⟨b, off, e, hb, ho b off e h0, fun j hj => by have := hc j (by rw [length_iL]; exact hj); rwa [getD_iL] at this⟩
/-- An argument that is rows of rows. -/
def Mat (w : World) (a : Option Addr) (n c : Nat) (M : List (List GF)) : Prop :=
  M.length = n ∧ n ≤ c ∧ c ≤ maxLen ∧ (a = none → c = 0) ∧ ∃ vs, RV w (fun _ => True) vs M ∧ (0 < n → ∃ b off, a = some ⟨b, off, none⟩ ∧ b < w.heap.size ∧ ∀ i, i < n → w.cell? ⟨b, off + i, none⟩ = vs[i]?)
theorem Mat.on {w w' : World} {a : Option Addr} {n c : Nat} {M : List (List GF)} (h : Mat w a n c M) (hb : Below w.heap.size w w') : Mat w' a n c M := by
  obtain ⟨h1, h2, h3, h4, vs, h5, h6⟩ := h
  refine ⟨h1, h2, h3, h4, vs, h5.keep hb.size (fun b hlt _ => ⟨trivial, hb.block b hlt⟩), fun h0 => ?_⟩
  obtain ⟨b, off, e, hlt, hc⟩ := h6 h0
  exact ⟨b, off, e, by have := hb.size; omega, fun i hi => (hb.cell (p := ⟨b, off + i, none⟩) hlt).trans (hc i hi)⟩
theorem Mat.len {w : World} {a : Option Addr} {n c : Nat} {M : List (List GF)} (h : Mat w a n c M) : M.length = n := h.1
theorem Mat.bd {w : World} {a : Option Addr} {n c : Nat} {M : List (List GF)} (h : Mat w a n c M) : n ≤ c ∧ c ≤ 9223372036854775807 := ⟨h.2.1, by have := h.2.2.1; unfold maxLen at this; omega⟩
/-- One of the rows, for the walk. -/
theorem Mat.row {w : World} {a : Option Addr} {n c : Nat} {M : List (List GF)} (h : Mat w a n c M) {i : Nat} (hi : i < n) : ∃ b off ai ci, a = some ⟨b, off, none⟩ ∧ b < w.heap.size ∧ w.cell? ⟨b, off + i, none⟩ = some (.slice ai (rw_ M i).length ci) ∧ Pa w ai (rw_ M i).length ci (rw_ M i) := by
  obtain ⟨h1, h2, h3, h4, vs, h5, h6⟩ := h
  obtain ⟨b, off, e, hlt, hc⟩ := h6 (by omega)
  obtain ⟨ai, ci, k1, k2⟩ := h5.pa (i := i) (by omega)
  exact ⟨b, off, ai, ci, e, hlt, by rw [hc i hi, k1], k2⟩
/-- A row of rows of one's own, as an argument. -/
theorem Mat.own {w : World} {base : Nat} {e : TypeId} {v : Value} {n : Nat} {vs : List Value} {ok : Nat → Prop} {M : List (List GF)} (h : w.ownsRow base e 1 v n vs) (hv : RV w ok vs M) : ∃ a c, v = .slice a n c ∧ Mat w a n c M := by
  have hl : M.length = n := by rw [← hv.1, h.1, Nat.mul_one]
  have hv2 : RV w (fun _ => True) vs M := hv.keep (Nat.le_refl _) (fun _ _ _ => ⟨trivial, rfl⟩)
  rcases h.2 with ⟨rfl, rfl⟩ | ⟨g, cap, cur, rfl, hg, hh, hn, hm, hs, ht⟩
  · exact ⟨none, 0, rfl, hl, Nat.le_refl _, Nat.zero_le _, fun _ => rfl, vs, hv2, fun h0 => absurd h0 (by omega)⟩
  · refine ⟨_, cap, rfl, hl, hn, hm, (fun h => by cases h), vs, hv2, fun h0 => ⟨g, 0, rfl, ?_, fun i hi => ?_⟩⟩
    · rcases Nat.lt_or_ge g w.heap.size with hlt | hge
      · exact hlt
      · rw [Array.getElem?_eq_none hge] at hh; cases hh
    · rw [Nat.zero_add]; exact h.cellAt i (by omega)
theorem RV.oneCell {w : World} {ok : Nat → Prop} {vs : List Value} {M : List (List GF)} (h : RV w ok vs M) : ∀ u ∈ vs, u.oneCell' = true := by
  intro u hu
  obtain ⟨i, hi, rfl⟩ := List.getElem_of_mem hu
  obtain ⟨a, c, h1, _⟩ := h.2 i (by rw [← h.1]; exact hi)
  rw [List.getElem?_eq_getElem hi] at h1
  injection h1 with h1
  rw [h1]; rfl
/-- Rows' length. -/
def Wide (M : List (List GF)) (m : Nat) : Prop := ∀ i, i < M.length → (rw_ M i).length = m
end Go.Proofs.Ytfmjfdbbjggcpaa
/- Shamir's sharing, plainly: dealings as polynomials, shares, what shares tell. No program is named here. -/
namespace Go.Proofs.Ytfmjfdbbjggcpaa
open GF
set_option linter.unusedVariables false

/-- The polynomial of a dealing at byte i: the secret's number, and then the mask's rows'. -/
def dl (t n : Nat) (S M : List GF) (i : Nat) : List GF := co S i :: (List.range (t - 1)).map fun k => co M (k * n + i)
theorem dl_zero (t n : Nat) (S M : List GF) (i : Nat) : co (dl t n S M i) 0 = co S i := co_cons_zero _ _
theorem dl_succ {t k : Nat} (n : Nat) (S M : List GF) (i : Nat) (h : k + 1 < t) : co (dl t n S M i) (k + 1) = co M (k * n + i) := by
  unfold dl
  rw [co_cons_succ]
  unfold co
  simp [List.getD_eq_getElem?_getD, show k < t - 1 by omega]
theorem dl_len {t : Nat} (n : Nat) (S M : List GF) (i : Nat) (h : 1 ≤ t) : (dl t n S M i).length = t := by unfold dl; simp; omega
theorem dl_ge {t k : Nat} (n : Nat) (S M : List GF) (i : Nat) (h : 1 ≤ t) (hk : t ≤ k) : co (dl t n S M i) k = 0 := co_ge (by rw [dl_len n S M i h]; exact hk)
/-- A share: byte by byte the value at x. -/
def shR (t n : Nat) (S M : List GF) (x : GF) : List GF := (List.range n).map fun i => ev (dl t n S M i) x
theorem shR_len (t n : Nat) (S M : List GF) (x : GF) : (shR t n S M x).length = n := by simp [shR]
theorem shR_co {t n i : Nat} (S M : List GF) (x : GF) (h : i < n) : co (shR t n S M x) i = ev (dl t n S M i) x := by
  unfold co shR; simp [List.getD_eq_getElem?_getD, h]
theorem ev_at_zero (p : List GF) : ev p 0 = co p 0 := by
  have h := ev_drop p 0 0
  rw [List.drop_zero] at h
  rw [h, zero_mul, GF.add_zero]
/-- What shares tell of the place x: the rows by number. -/
def atR (X : List GF) (R : Nat → List GF) (x : GF) (n : Nat) : List GF := (List.range n).map fun i => sm X.length fun k => wt X k x * co (R k) i
theorem atR_len (X : List GF) (R : Nat → List GF) (x : GF) (n : Nat) : (atR X R x n).length = n := by simp [atR]
theorem atR_co {X : List GF} {R : Nat → List GF} {x : GF} {n i : Nat} (h : i < n) : co (atR X R x n) i = sm X.length fun k => wt X k x * co (R k) i := by
  unfold atR; unfold co; simp [List.getD_eq_getElem?_getD, h]
/-- ANY OF THEM, of unlike places, as many as the threshold or more, tell each share. -/
theorem at_shares {t n : Nat} {X S M : List GF} {R : Nat → List GF} (h : Apart X) (ht : 1 ≤ t) (hX : t ≤ X.length) (hR : ∀ k, k < X.length → R k = shR t n S M (co X k)) (x : GF) : atR X R x n = shR t n S M x := by
  refine ext_co (by rw [atR_len, shR_len]) fun i hi => ?_
  rw [atR_len] at hi
  rw [atR_co hi, shR_co S M x hi, ← wt_sum h (p := dl t n S M i) (fun k hk => dl_ge n S M i ht (by omega)) x]
  exact sm_congr fun k hk => by rw [hR k hk, shR_co S M _ hi, mul_comm]
/-- .. and the secret. -/
theorem sh_secret {t n : Nat} {S : List GF} (M : List GF) (hS : S.length = n) : shR t n S M 0 = S := by
  refine ext_co (by rw [shR_len, hS]) fun i hi => ?_
  rw [shR_len] at hi
  rw [shR_co S M 0 hi, ev_at_zero, dl_zero]
/-- Rows added. -/
def addR (a b : List GF) : List GF := (List.range a.length).map fun i => co a i + co b i
theorem addR_len (a b : List GF) : (addR a b).length = a.length := by simp [addR]
theorem addR_co {a b : List GF} (h : a.length = b.length) (i : Nat) : co (addR a b) i = co a i + co b i := by
  by_cases hi : i < a.length
  · unfold addR; unfold co; simp [List.getD_eq_getElem?_getD, hi]
  · rw [co_ge (by rw [addR_len]; omega), co_ge (l := a) (by omega), co_ge (l := b) (by omega), GF.add_zero]
theorem ev_dl_add {t n : Nat} {S S' M M' : List GF} (h : S.length = S'.length) (hM : M.length = M'.length) (i : Nat) (x : GF) : ev (dl t n (addR S S') (addR M M') i) x = ev (dl t n S M i) x + ev (dl t n S' M' i) x := by
  rw [← ev_addL]
  refine ev_congr (fun k => ?_) x
  rw [co_addL]
  match k with
  | 0 => rw [dl_zero, dl_zero, dl_zero, addR_co h]
  | k + 1 =>
    by_cases hk : k + 1 < t
    · rw [dl_succ n _ _ i hk, dl_succ n _ _ i hk, dl_succ n _ _ i hk, addR_co hM]
    · unfold dl
      rw [co_cons_succ, co_cons_succ, co_cons_succ, co_ge (by simp; omega), co_ge (by simp; omega), co_ge (by simp; omega), GF.add_zero]
/-- Shares of sums are sums of shares. -/
theorem sh_add {t n : Nat} {S S' M M' : List GF} (h : S.length = S'.length) (hM : M.length = M'.length) (x : GF) : shR t n (addR S S') (addR M M') x = addR (shR t n S M x) (shR t n S' M' x) := by
  refine ext_co (by rw [addR_len, shR_len, shR_len]) fun i hi => ?_
  rw [shR_len] at hi
  rw [addR_co (by rw [shR_len, shR_len]), shR_co _ _ x hi, shR_co _ _ x hi, shR_co _ _ x hi, ev_dl_add h hM]
/-- A delta's secret is noughts. -/
def noR (n : Nat) : List GF := List.replicate n 0
theorem noR_co (n i : Nat) : co (noR n) i = 0 := by
  unfold noR co
  by_cases h : i < n
  · simp [List.getD_eq_getElem?_getD, h]
  · simp [List.getD_eq_getElem?_getD, h]
theorem addR_no {a : List GF} {n : Nat} (h : a.length = n) : addR a (noR n) = a := by
  refine ext_co (by rw [addR_len]) fun i hi => ?_
  rw [addR_co (by rw [h]; simp [noR]), noR_co, GF.add_zero]
/-- The mask that hides the change of a secret from t - 1 places: the vanishing polynomial's, scaled. -/
def hid (n : Nat) (S O V : List GF) (M : List GF) : List GF := (List.range M.length).map fun j => co M j + GF.inv (co V 0) * (co S (j % n) + co O (j % n)) * co V (j / n + 1)
theorem hid_len (n : Nat) (S O V M : List GF) : (hid n S O V M).length = M.length := by simp [hid]
theorem hid_co {n : Nat} {S O V M : List GF} {k i : Nat} (hi : i < n) (hk : k * n + i < M.length) : co (hid n S O V M) (k * n + i) = co M (k * n + i) + GF.inv (co V 0) * (co S i + co O i) * co V (k + 1) := by
  have e1 : (k * n + i) % n = i := by rw [Nat.mul_comm, Nat.mul_add_mod, Nat.mod_eq_of_lt hi]
  have e2 : (k * n + i) / n = k := by rw [Nat.mul_comm, Nat.mul_add_div (by omega), Nat.div_eq_of_lt hi, Nat.add_zero]
  have : co (hid n S O V M) (k * n + i) = co M (k * n + i) + GF.inv (co V 0) * (co S ((k * n + i) % n) + co O ((k * n + i) % n)) * co V ((k * n + i) / n + 1) := by
    show List.getD _ _ _ = _
    unfold hid
    simp [List.getD_eq_getElem?_getD, hk]
  rw [this, e1, e2]
theorem idx_lt {t n k i : Nat} (hi : i < n) (hk : k + 1 < t) : k * n + i < (t - 1) * n := by
  have h1 : k + 1 ≤ t - 1 := by omega
  have h2 := Nat.mul_le_mul_right n h1
  rw [Nat.add_mul, Nat.one_mul] at h2
  omega
/-- FEWER TELL NOTHING: at places at which V vanishes the other secret, with the other mask, has the same shares. -/
theorem ev_hid {t n : Nat} {S O V M : List GF} (ht : 1 ≤ t) (hM : M.length = (t - 1) * n) (hV : ∀ k, t ≤ k → co V k = 0) (h0 : co V 0 ≠ 0) {i : Nat} (hi : i < n) {x : GF} (hx : ev V x = 0) :
    ev (dl t n O (hid n S O V M) i) x = ev (dl t n S M i) x := by
  have e : ev (dl t n O (hid n S O V M) i) x = ev (addL (dl t n S M i) (smulL (GF.inv (co V 0) * (co S i + co O i)) V)) x := by
    refine ev_congr (fun k => ?_) x
    rw [co_addL, co_smulL]
    match k with
    | 0 =>
      rw [dl_zero, dl_zero, mul_comm (GF.inv (co V 0)), mul_assoc, inv_mul h0, mul_one, ← add_assoc, add_self, zero_add]
    | k + 1 =>
      by_cases hk : k + 1 < t
      · rw [dl_succ n _ _ i hk, dl_succ n _ _ i hk, hid_co hi (by rw [hM]; exact idx_lt hi hk)]
      · rw [dl_ge n _ _ i ht (by omega), dl_ge n _ _ i ht (by omega), hV (k + 1) (by omega), mul_zero, GF.add_zero]
  rw [e, ev_addL, ev_smulL, hx, mul_zero, GF.add_zero]
theorem sh_hid {t n : Nat} {S O V M : List GF} (ht : 1 ≤ t) (hM : M.length = (t - 1) * n) (hV : ∀ k, t ≤ k → co V k = 0) (h0 : co V 0 ≠ 0) {x : GF} (hx : ev V x = 0) :
    shR t n O (hid n S O V M) x = shR t n S M x := by
  refine ext_co (by rw [shR_len, shR_len]) fun i hi => ?_
  rw [shR_len] at hi
  rw [shR_co _ _ x hi, shR_co _ _ x hi, ev_hid ht hM hV h0 hi hx]
/-- .. AND NO OTHER MASK DOES: two masks with which one secret has the same shares at t - 1 unlike places, none 0, are one. -/
theorem sh_only {t n : Nat} {S M M' X : List GF} (ht : 1 ≤ t) (hM : M.length = (t - 1) * n) (hM' : M'.length = (t - 1) * n) (hX : X.length = t - 1) (hA : Apart X) (hz : ∀ k, k < X.length → co X k ≠ 0)
    (h : ∀ k, k < X.length → shR t n S M (co X k) = shR t n S M' (co X k)) : M = M' := by
  have hn : (0 :: X).Nodup := by
    refine List.nodup_cons.2 ⟨fun h0 => ?_, hA.nodup⟩
    obtain ⟨k, hk, e⟩ := mem_co.1 h0
    exact hz k hk e
  have hp : ∀ i, i < n → ∀ k, co (dl t n S M i) k = co (dl t n S M' i) k := fun i hi => by
    refine same_poly (n := t) (xs := 0 :: X) (fun k hk => dl_ge n S M i ht hk) (fun k hk => dl_ge n S M' i ht hk) hn (by simp; omega) (fun x hx => ?_)
    rcases List.mem_cons.1 hx with rfl | hx
    · rw [ev_at_zero, ev_at_zero, dl_zero, dl_zero]
    · obtain ⟨k, hk, rfl⟩ := mem_co.1 hx
      have e := congrArg (fun l => co l i) (h k hk)
      simp only [shR_co _ _ _ hi] at e
      exact e
  refine ext_co (by rw [hM, hM']) fun j hj => ?_
  rw [hM] at hj
  have hn0 : 0 < n := Nat.pos_of_ne_zero fun e => by rw [e, Nat.mul_zero] at hj; omega
  have e := Nat.div_add_mod j n
  have hk : j / n < t - 1 := by rw [Nat.mul_comm] at hj; exact Nat.div_lt_of_lt_mul hj
  have hq := hp (j % n) (Nat.mod_lt _ hn0) (j / n + 1)
  rw [dl_succ n _ _ _ (by omega), dl_succ n _ _ _ (by omega), Nat.mul_comm, e] at hq
  exact hq
end Go.Proofs.Ytfmjfdbbjggcpaa
/- One number more behind a row of one's own. No program is named here. -/
namespace Go.Proofs.Ytfmjfdbbjggcpaa
open Go.ChangeShapes Go.WideShapes Go.ChangeAt Go.RowKit Go.Shelf GF
set_option linter.unusedVariables false

theorem own_blkGe {w : World} {base : Nat} {e : TypeId} {v : Value} {n : Nat} {xs : List Value} (h : w.ownsRow base e 1 v n xs) : ∀ k, v.ownBlock = some k → base ≤ k := by
  intro k hk
  rcases h.2 with ⟨rfl, _⟩ | ⟨g, cap, cur, rfl, hg, _⟩
  · cases hk
  · have : some g = some k := hk
    injection this with this
    omega
theorem wpList_append_G1 {P : Program} {w : World} {ops : Array Oper} {rest : List Oper} {o : Oper} {a : Act} {Q : Exit → Act → World → Prop} (hgd : o.guard = none) (s x : Operand) (t : TypeId)
    (ho : o.op = .call { callee := .builtin .append, args := #[s, x], argTypes := #[t, t] })
    (base : Nat) (e : TypeId) (i : TypeInfo) (ht : P.underlying t = some (.slice e)) (hi : P.info? e = some i) (hz : i.zero = some (.int .u8 0)) (hsize : i.size = 1) (hby : i.bytes = 1)
    (v : Value) (n : Nat) (l : List GF) (hs : a.eval s = v) (hown : w.ownsRow base e 1 v n ((iL l).map (Value.int .u8)))
    (c : GF) (T : TypeId) (hx : a.eval x = .slice (some ⟨w.heap.size, 0, none⟩) 1 1) (hn : n ≤ 1000000) (hbase : base ≤ w.heap.size)
    (h : ∀ g' c' w', w'.ownsRow base e 1 (.slice (some ⟨g', 0, none⟩) (n + 1) c') (n + 1) ((iL (l ++ [c])).map (Value.int .u8)) → Below base w w' → wpList P ops Q rest (a.put o.dst (.slice (some ⟨g', 0, none⟩) (n + 1) c')) w') :
    wpList P ops Q (o :: rest) a (w.alloc (.cells #[.int .u8 (toI c)] T)) := by
  have hb : Below base w (w.alloc (.cells #[.int .u8 (toI c)] T)) := (Below.refl _ _).alloc hbase _
  refine wpList_append_own _ hgd s x t ho base e i (.int .u8 0) 1 1 ht hi hz hsize hby rfl (by decide) v n ((iL l).map (Value.int .u8)) hs (hown.alloc _) ⟨w.heap.size, 0, none⟩ 1 1 ([toI c].map (Value.int .u8)) hx rfl ?_ (ints_oneCell _ _) (by unfold maxLen; omega) (by omega) (by simp; omega) ?_
  · intro j u hj
    obtain ⟨hj1, rfl⟩ := getElem?_map_u8 hj
    have : j = 0 := by simp at hj1; omega
    subst this
    rw [Addr.add_lit, Nat.zero_add]
    simp
  · intro v' w' h1 h2 _
    obtain ⟨g', c', rfl⟩ : ∃ g' c', v' = .slice (some ⟨g', 0, none⟩) (n + 1) c' := by
      rcases h1.2 with ⟨_, h0⟩ | ⟨g', c', cur, hv, _⟩
      · omega
      · exact ⟨g', c', hv⟩
    rw [← List.map_append] at h1
    have e1 : iL l ++ [toI c] = iL (l ++ [c]) := by simp [iL]
    rw [e1] at h1
    exact h g' c' w' h1 (hb.grown h2 (by simp; omega) (own_blkGe hown))
theorem own_nilG (w : World) (base : Nat) (e : TypeId) : w.ownsRow base e 1 (.slice none 0 0) 0 ((iL ([] : List GF)).map (Value.int .u8)) := ⟨rfl, .inl ⟨rfl, rfl⟩⟩
theorem own_emptyG (w : World) (e : TypeId) : (w.alloc (.cells #[] e)).ownsRow w.heap.size e 1 (.slice (some ⟨w.heap.size, 0, none⟩) 0 0) 0 ((iL ([] : List GF)).map (Value.int .u8)) :=
  World.ownsRow_lit (base := w.heap.size) (e := e) (size := 1) w #[] 0 (Nat.le_refl _) (Nat.zero_le _) rfl
theorem own_oneG (w : World) (e : TypeId) (c : GF) : (w.alloc (.cells #[.int .u8 (toI c)] e)).ownsRow w.heap.size e 1 (.slice (some ⟨w.heap.size, 0, none⟩) 1 1) 1 ((iL [c]).map (Value.int .u8)) :=
  World.ownsRow_lit (base := w.heap.size) (e := e) (size := 1) w #[.int .u8 (toI c)] 1 (Nat.le_refl _) (by unfold maxLen; omega) rfl
theorem own_leG {w : World} {base base' : Nat} {e : TypeId} {v : Value} {n : Nat} {xs : List Value} (h : w.ownsRow base e 1 v n xs) (hb : base' ≤ base) : w.ownsRow base' e 1 v n xs :=
  ⟨h.1, h.2.elim Or.inl (fun ⟨g, cap, cur, hv, hg, r⟩ => Or.inr ⟨g, cap, cur, hv, Nat.le_trans hb hg, r⟩)⟩
/-- The first numbers of a share, of a dealing's polynomial. -/
def shP (t n : Nat) (S M : List GF) (x : GF) (i : Nat) : List GF := (List.range i).map fun j => ev (dl t n S M j) x
theorem shP_zero (t n : Nat) (S M : List GF) (x : GF) : shP t n S M x 0 = [] := rfl
theorem shP_next (t n : Nat) (S M : List GF) (x : GF) (i : Nat) : shP t n S M x (i + 1) = shP t n S M x i ++ [ev (dl t n S M i) x] := by simp [shP, List.range_succ]
def dlP (n : Nat) (S M : List GF) (i q : Nat) : List GF := co S i :: (List.range q).map fun k => co M (k * n + i)
theorem dlP_zero (n : Nat) (S M : List GF) (i : Nat) : dlP n S M i 0 = [co S i] := rfl
theorem dlP_next (n : Nat) (S M : List GF) (i q : Nat) : dlP n S M i (q + 1) = dlP n S M i q ++ [co M (q * n + i)] := by simp [dlP, List.range_succ]
theorem dlP_all (t n : Nat) (S M : List GF) (i : Nat) : dlP n S M i (t - 1) = dl t n S M i := rfl
theorem dlP_len (n : Nat) (S M : List GF) (i q : Nat) : (dlP n S M i q).length = q + 1 := by simp [dlP]
end Go.Proofs.Ytfmjfdbbjggcpaa
/- Contracts of the document's own Share and At. -/
namespace Go.Proofs.Ytfmjfdbbjggcpaa
open Go.ChangeShapes Go.WideShapes Go.ChangeAt Go.RowKit Go.Shelf GF
set_option linter.unusedVariables false
set_option linter.unusedSimpArgs false
set_option maxRecDepth 100000

theorem sh_idx (q n i : Nat) (hq : q ≤ 300) (hn : n ≤ 1000) (hi : i ≤ 1000) : ∃ A : Nat, A = q * n + i ∧ 0 ≤ (q : Int) * (n : Int) ∧ (q : Int) * (n : Int) ≤ 300000 ∧ (q : Int) * (n : Int) + (i : Int) = (A : Int) := by
  have h1 : q * n ≤ 300 * 1000 := Nat.mul_le_mul hq hn
  have h2 : (q : Int) * (n : Int) = ((q * n : Nat) : Int) := by rw [Int.natCast_mul]
  exact ⟨_, rfl, by omega, by omega, by omega⟩
end Go.Proofs.Ytfmjfdbbjggcpaa
/- The document's Weight once more: it leaves the world but for draws. The document's At. -/
namespace Go.Proofs.Ytfmjfdbbjggcpaa
open Go.ChangeShapes Go.WideShapes Go.ChangeAt Go.RowKit Go.Shelf GF
set_option linter.unusedVariables false
set_option linter.unusedSimpArgs false
set_option maxRecDepth 100000

/-- The first numbers of what shares tell; the first terms of one. -/
def atP (X : List GF) (R : Nat → List GF) (x : GF) (i : Nat) : List GF := (List.range i).map fun j => sm X.length fun k => wt X k x * co (R k) j
theorem atP_next (X : List GF) (R : Nat → List GF) (x : GF) (i : Nat) : atP X R x (i + 1) = atP X R x i ++ [sm X.length fun k => wt X k x * co (R k) i] := by simp [atP, List.range_succ]
end Go.Proofs.Ytfmjfdbbjggcpaa
/- The laws' Made: just so many bytes of any. -/
namespace Go.Proofs.Ytfmjfdbbjggcpaa
open Go.ChangeShapes Go.WideShapes Go.ChangeAt Go.RowKit Go.Shelf GF
set_option linter.unusedVariables false
set_option linter.unusedSimpArgs false
set_option maxRecDepth 100000

def padM (P : List GF) (n : Nat) : List GF := (List.range n).map (co P)
theorem padM_len (P : List GF) (n : Nat) : (padM P n).length = n := by simp [padM]
theorem padM_co {P : List GF} {n i : Nat} (h : i < n) : co (padM P n) i = co P i := by
  show List.getD _ _ _ = _
  unfold padM
  simp [List.getD_eq_getElem?_getD, h]
theorem padM_splice (P : List GF) (n : Nat) : splice (madeCells #[Value.int .u8 0] n).toList 0 (((iL P).take n).map (Value.int .u8)) = (iL (padM P n)).map (Value.int .u8) := by
  rw [splice_all, replicate_cells, ← List.map_drop, ← List.map_append]
  congr 1
  apply List.ext_getElem?
  intro j
  have e : (iL (padM P n))[j]? = if j < n then some (toI (co P j)) else none := by
    unfold iL padM
    by_cases h : j < n <;> simp [h]
  rw [e, List.length_map, List.length_take, length_iL]
  by_cases h1 : j < P.length
  · by_cases h2 : j < n
    · rw [List.getElem?_append_left (by simp [length_iL]; omega), List.getElem?_take, if_pos h2, if_pos h2, List.getElem?_eq_getElem (by rw [length_iL]; exact h1)]
      have := getD_iL P j
      rw [List.getD_eq_getElem?_getD, List.getElem?_eq_getElem (by rw [length_iL]; exact h1)] at this
      rw [← this]; rfl
    · rw [if_neg h2, List.getElem?_append_right (by simp [length_iL]; omega)]
      simp [length_iL]; omega
  · by_cases h2 : j < n
    · rw [if_pos h2, List.getElem?_append_right (by simp [length_iL]; omega), co_ge (by omega)]
      simp [length_iL, List.getElem?_drop, List.getElem?_replicate, show toI 0 = 0 from rfl]
      omega
    · rw [if_neg h2, List.getElem?_append_right (by simp [length_iL]; omega)]
      simp [length_iL]; omega
/-- A row's cells. -/
def gB (P : List GF) (j : Nat) : Value := .int .u8 (toI (co P j))
theorem Blk.pa {w : World} {g n : Nat} {T : TypeId} {P : List GF} (h : Blk w g T n (gB P)) (hl : P.length = n) (hn : n ≤ 1000000) : Pa w (some ⟨g, 0, none⟩) n n P :=
  ⟨⟨by rw [length_iL, hl], allB_iL _, fun h0 => ⟨g, 0, rfl, h.lt, fun i hi => by
    rw [length_iL, hl] at hi
    rw [Nat.zero_add, h.cell hi, getD_iL]; rfl⟩, Nat.le_refl _, by unfold maxLen; omega⟩, fun e => by cases e⟩
end Go.Proofs.Ytfmjfdbbjggcpaa
/- The laws' Unlike: so many unlike places, none 0. -/
namespace Go.Proofs.Ytfmjfdbbjggcpaa
open Go.ChangeShapes Go.WideShapes Go.ChangeAt Go.RowKit Go.Shelf GF
set_option linter.unusedVariables false
set_option linter.unusedSimpArgs false
set_option maxRecDepth 100000

open Go.Maps in
theorem plainElem_bool_inv {P : Program} {e : TypeId} (he : P.underlying e = some .bool) {v : Value} {c : Bool} {ps : List MemPlace} (h : plainElem (H := Unit) P e v = some (.lit (.bool c), ps)) : v = .bool c := by
  unfold plainElem at h
  rw [he] at h
  cases v <;> simp at h
  rw [h.1]
open Go.Maps in
theorem wpList_lookup_own_bool {P : Program} (w : World) {ops : Array Oper} {rest : List Oper} {o : Oper} {a : Act} {Q : Exit → Act → World → Prop}
    (hg : o.guard = none) (m x : Operand) (t : TypeId) (hop : o.op = Op.lookup t m x false)
    (k e : TypeId) (K : Keyed P k) (ht : P.underlying t = some (.map k e)) (he : P.underlying e = some .bool) (hz : (zeroValue e).run P w = .ok (.bool false) w) (b n : Nat) (D : DataW Unit)
    (hm : a.eval m = .map (some b)) (hown : w.ownsMap P k (plainElem P e) b n D) (key : Value) (kl : Lit) (hx : a.eval x = key) (hkey : keyOf P k key = some kl) (c : Bool) (hat : D.atKey kl (.lit (.bool false)) = .lit (.bool c))
    (hK : wpList P ops Q rest (a.put o.dst (.bool c)) w) :
    wpList P ops Q (o :: rest) a w := by
  refine wpList_plain hg fun K' hK' => ?_
  obtain ⟨v, ps, hrun, hv⟩ := hown.lookup K ht hz (plainElem_bool he false) hkey
  rw [hat] at hv
  obtain rfl := plainElem_bool_inv he hv
  unfold Oper.wp
  simp [execOp, hop, hm, hx, hrun, Result.andThen]
  exact hK' _ _ hK
open Go.Maps in
/-- A map literal's entry. -/
theorem wpList_insert_own {H : Type} {P : Program} (w : World) {ops : Array Oper} {rest : List Oper} {o : Oper} {a : Act} {Q : Exit → Act → World → Prop}
    (hg : o.guard = none) (m x v : Operand) (t : TypeId) (hop : o.op = Op.insert t m x v)
    (k e : TypeId) (K : Keyed P k) (ht : P.underlying t = some (.map k e)) (R : Value → Option (DataW H × List MemPlace)) (b n : Nat) (D : DataW H)
    (hm : a.eval m = .map (some b)) (hown : w.ownsMap P k R b n D) (hn : n < maxLen) (key val : Value) (kl : Lit) (hx : a.eval x = key) (hv : a.eval v = val) (hkey : keyOf P k key = some kl)
    (d : DataW H) (ps : List MemPlace) (hval : R val = some (d, ps))
    (hK : ∀ w', w'.ownsMap P k R b (n + 1) (D.put kl d) → w.grownBy w' (some b) → wpList P ops Q rest (a.put o.dst undef) w') :
    wpList P ops Q (o :: rest) a w := by
  refine wpList_plain hg fun K' hK' => ?_
  obtain ⟨w', hrun, r1, r2⟩ := hown.update K ht hn hkey hval
  unfold Oper.wp
  simp [execOp, hop, hm, hx, hv, hrun, Result.andThen]
  exact hK' _ _ (hK w' r1 r2)
open Go.Maps in
/-- Which numbers a map holds. -/
def SeenF (D : DataW Unit) (f : GF → Bool) : Prop := ∀ y : GF, D.atKey (keyG y) (.lit (.bool false)) = .lit (.bool (f y))
def putF (f : GF → Bool) (x y : GF) : Bool := if y.1 = x.1 then true else f y
open Go.Maps in
theorem SeenF.put {D : DataW Unit} {f : GF → Bool} (h : SeenF D f) (hT : Tidy D) (x : GF) : SeenF (D.put (keyG x) (.lit (.bool true))) (putF f x) := by
  intro y
  unfold putF
  by_cases e : y.1 = x.1
  · obtain rfl : y = x := GF.ext e
    rw [atKey_put_same hT.isMap (by trivial), if_pos rfl]
  · rw [atKey_put_other (keyG_ne (fun h => e (by rw [h]))), h y, if_neg e]
open Go.Maps in
theorem ownsMap_on {H : Type} {P : Program} {k : TypeId} {R : Value → Option (DataW H × List MemPlace)} {b n : Nat} {D : DataW H} {w w' : World} {B : Nat} (h : w.ownsMap P k R b n D) (hb : Below B w w') (hB : b < B) : w'.ownsMap P k R b n D := by
  obtain ⟨es, clock, h1, h2⟩ := h
  exact ⟨es, clock, by rw [hb.block b hB]; exact h1, h2⟩
theorem filter_more {x : Nat} {p : Nat → Bool} : ∀ {l : List Nat}, l.Nodup → x ∈ l → p x = false → (l.filter fun j => j == x || p j).length = (l.filter p).length + 1
  | [], _, h, _ => by cases h
  | y :: l, hn, hx, hp => by
    have hn2 := List.nodup_cons.1 hn
    by_cases e : y = x
    · subst e
      have hl : (l.filter fun j => j == y || p j) = l.filter p := List.filter_congr fun j hj => by
        have : j ≠ y := fun h => hn2.1 (by rw [← h]; exact hj)
        simp [this]
      simp [List.filter_cons, hp, hl]
    · have hx2 : x ∈ l := (List.mem_cons.1 hx).resolve_left (fun h => e h.symm)
      have ih := filter_more hn2.2 hx2 hp
      have e2 : (y == x) = false := by simpa using e
      simp only [List.filter_cons, e2, Bool.false_or]
      split
      · simp [ih]
      · exact ih
def fN (f : GF → Bool) (j : Nat) : Bool := if h : j < 256 then f ⟨j, h⟩ else false
def cntF (f : GF → Bool) : Nat := ((List.range 256).filter (fN f)).length
theorem cntF_le (f : GF → Bool) : cntF f ≤ 256 := Nat.le_trans (List.length_filter_le _ _) (by simp)
theorem cntF_put {f : GF → Bool} {x : GF} (h : f x = false) : cntF (putF f x) = cntF f + 1 := by
  have e : fN (putF f x) = fun j => j == x.1 || fN f j := by
    funext j
    unfold fN putF
    by_cases hj : j < 256
    · rw [dif_pos hj, dif_pos hj]
      by_cases e : j = x.1
      · simp [e]
      · rw [if_neg e]
        have : (j == x.1) = false := by simpa using e
        rw [this, Bool.false_or]
    · rw [dif_neg hj, dif_neg hj]
      have : (j == x.1) = false := by have := x.2; simp; omega
      rw [this]; rfl
  unfold cntF
  rw [e]
  exact filter_more List.nodup_range (List.mem_range.2 x.2) (by unfold fN; rw [dif_pos x.2]; exact h)
theorem putF_same {f : GF → Bool} {x : GF} (h : f x = true) : putF f x = f := by
  funext y
  unfold putF
  by_cases e : y.1 = x.1
  · rw [if_pos e, GF.ext e, h]
  · rw [if_neg e]
open Go.Maps in
/-- .. and how many it holds. -/
def HasF (D : DataW Unit) (f : GF → Bool) : Prop := (∀ y : GF, has D (keyG y) = f y) ∧ size D ≤ cntF f
open Go.Maps in
theorem HasF.put {D : DataW Unit} {f : GF → Bool} (h : HasF D f) (hT : Tidy D) (x : GF) (d : DataW Unit) : HasF (D.put (keyG x) d) (putF f x) := by
  refine ⟨fun y => ?_, ?_⟩
  · unfold putF
    by_cases e : y.1 = x.1
    · obtain rfl : y = x := GF.ext e
      rw [has_put_same hT.isMap (by trivial) d, if_pos rfl]
    · rw [has_put_other (keyG_ne (fun h => e (by rw [h]))) d, h.1 y, if_neg e]
  · rw [size_put hT d, h.1 x]
    cases hf : f x with
    | true => rw [if_pos rfl, putF_same hf]; exact h.2
    | false => rw [if_neg (by simp), cntF_put hf]; have := h.2; omega
open Go.Maps in
theorem HasF.none : HasF (.map []) (fun _ => false) := ⟨fun y => by simp [has_eq], Nat.zero_le _⟩
open Go.Maps in
theorem ownsMap_size {P : Program} {k : TypeId} {R : Value → Option (DataW Unit × List MemPlace)} {b n : Nat} {D : DataW Unit} {w : World} (h : w.ownsMap P k R b n D) : w.ownsMap P k R b (size D) D := by
  obtain ⟨es, clock, h1, h2, h3, rfl⟩ := h
  refine ⟨es, clock, h1, h2, ?_, rfl⟩
  show es.size ≤ List.length _
  rw [length_sorted]
  simp
theorem zeroB (w : World) : (zeroValue 4).run Try.prog w = .ok (.bool false) w := by kernel_rfl
/-- Whether the first k hold the number j. -/
def snN (X : List GF) (k j : Nat) : Bool := (X.take k).any fun x => x.1 == j
theorem snN_zero (X : List GF) (j : Nat) : snN X 0 j = false := by simp [snN]
theorem snN_next {X : List GF} {k : Nat} (hk : k < X.length) (j : Nat) : snN X (k + 1) j = if j = (co X k).1 then true else snN X k j := by
  have hc : co X k = X[k] := by unfold co; simp [List.getD_eq_getElem?_getD, List.getElem?_eq_getElem hk]
  unfold snN
  rw [← List.take_append_getElem hk, List.any_append, hc]
  by_cases e : j = (X[k]).1
  · simp [e]
  · rw [if_neg e]
    have : ((X[k]).1 == j) = false := by rw [beq_eq_false_iff_ne]; exact fun h => e h.symm
    simp [this]
theorem snN_mem {X : List GF} {y : GF} : snN X X.length y.1 = true ↔ y ∈ X := by
  unfold snN
  rw [List.take_length, List.any_eq_true]
  exact ⟨fun ⟨x, hx, e⟩ => by rw [← GF.ext (beq_iff_eq.1 e)]; exact hx, fun h => ⟨y, h, beq_self_eq_true _⟩⟩
/-- What Unlike gathers: unlike, none 0, at most n, each marked. -/
def Gath (O : List GF) (n : Nat) : Prop := O.Nodup ∧ (0 : GF) ∉ O ∧ O.length ≤ n
theorem Gath.more {O : List GF} {n : Nat} {x : GF} (h : Gath O n) (hx : x ∉ O) (h0 : x ≠ 0) (hl : O.length < n) : Gath (O ++ [x]) n := by
  refine ⟨?_, ?_, by rw [List.length_append]; simp; omega⟩
  · rw [List.nodup_append]
    refine ⟨h.1, by simp, fun a ha b hb e => ?_⟩
    rw [List.mem_singleton] at hb
    subst hb; subst e
    exact hx ha
  · intro h1
    rcases List.mem_append.1 h1 with h1 | h1
    · exact h.2.1 h1
    · exact h0 (List.mem_singleton.1 h1).symm
theorem holes : ∀ (k : Nat) (O : List GF), k < 256 → (∀ y : GF, 1 ≤ y.1 → y.1 ≤ k → y ∈ O) → k ≤ O.length
  | 0, _, _, _ => Nat.zero_le _
  | k + 1, O, hk, h => by
    have hm := h ⟨k + 1, hk⟩ (by simp) (by simp)
    have hl := List.length_eraseP_of_mem (p := fun z : GF => z.1 == k + 1) hm (by simp)
    have hr := holes k (O.eraseP fun z : GF => z.1 == k + 1) (by omega) (fun y h1 h2 => (List.mem_eraseP_of_neg (by simp; omega)).2 (h y h1 (by omega)))
    have hp : 0 < O.length := List.length_pos_of_mem hm
    omega
theorem apart_of_nodup {O : List GF} (h : O.Nodup) : Apart O := fun i j hi hj e => by
  rw [co_lt hi, co_lt (by omega)] at e
  have := (List.getElem_inj h).1 e
  omega
theorem gath_co {O : List GF} {n : Nat} (h : Gath O n) {k : Nat} (hk : k < O.length) : co O k ≠ 0 := fun e => h.2.1 (by rw [← e, co_lt hk]; exact List.getElem_mem hk)
end Go.Proofs.Ytfmjfdbbjggcpaa
/- The walk of the laws' Unlike. -/
namespace Go.Proofs.Ytfmjfdbbjggcpaa
open Go.ChangeShapes Go.WideShapes Go.ChangeAt Go.RowKit Go.Shelf GF
set_option linter.unusedVariables false
set_option linter.unusedSimpArgs false
set_option maxRecDepth 100000

theorem own_apart {w : World} {base : Nat} {e : TypeId} {v : Value} {n : Nat} {xs : List Value} (h : w.ownsRow base e 1 v n xs) {b : Nat} (hb : b < base) : v.ownBlock = none ∨ v.ownBlock ≠ some b := by
  cases hv : v.ownBlock with
  | none => exact .inl rfl
  | some k => exact .inr fun e => by have := own_blkGe h k hv; injection e with e; omega
set_option maxHeartbeats 3000000 in
open Go.Maps in
theorem unlike8_any (a : Option Addr) (L c : Nat) (X : List GF) (n : Nat) (w : World) (hx : Pa w a L c X) (hn : n ≤ 200) :
    Calls Try.prog 11 #[.slice a L c, .int .i64 (n : Nat)] w fun e w' => ∃ (a' : Option Addr) (c' : Nat) (O : List GF), e = .returned (.slice a' n c') ∧ Pa w' a' n c' O ∧ Gath O n ∧ O.length = n ∧ (∀ b off, a' = some ⟨b, off, none⟩ → w.heap.size ≤ b) ∧ Below w.heap.size w w' := by
  obtain ⟨i5, hi, hz0, hz1, hz2⟩ := info_parts info5
  have HI := Lib.hid (show Try.prog.info? 5 = some i5 ∧ i5.zero = some (.int .u8 0) ∧ i5.size = 1 ∧ i5.bytes = 1 from ⟨hi, hz0, hz1, hz2⟩)
  have HX := Lib.hid hx
  have HXL := Lib.hid hx.len
  have HN := Lib.hid hn
  have qn : (n : Int) ≤ 200 := by omega
  have hmm := @run_makeMap Try.prog
  have HK0 := Lib.hid (show keyOf Try.prog 5 (.int .u8 0) = some (keyG 0) from keyOf_int_mk Try.underlying5 (keyG_wf 0))
  have HOM := Lib.hid (show (w.alloc (.map #[] 0)).ownsMap Try.prog 5 (plainElem (H := Unit) Try.prog 4) w.heap.size 0 (.map []) from World.ownsMap_made _ _ _ _)
  have HB0 := Lib.hid (show Below w.heap.size w (w.alloc (.map #[] 0)) from (Below.refl _ _).alloc (Nat.le_refl _) _)
  clear hx hn hi hz0 hz1 hz2
  go_enter Try.func11, Try.ntmps11
  go_upto_region 2 with ((with_reducible show wpList _ _ _ (⟨none, _, _, _, _, _⟩ :: _) _ _); go_loud (refine wpList_insert_own _ rfl (.tmp 13) (.const (.int .u8 0)) (.const (.bool true)) 67 rfl 5 4 lawU Try.underlying67 (plainElem (H := Unit) Try.prog 4) w.heap.size 0 (.map []) rfl HOM.out (by unfold maxLen; omega) (.int .u8 0) (.bool true) (keyG 0) rfl rfl HK0.out (.lit (.bool true)) [] (plainElem_bool Try.underlying4 true) ?_; intro w1 ho1 hg1))
  have HO1 := Lib.hid (ownsMap_size ho1)
  have HB1 := Lib.hid (HB0.out.grown hg1 HB0.out.size (fun j hj => by cases hj; exact Nat.le_refl _))
  have HS1 := Lib.hid (show SeenF ((DataW.map []).put (keyG 0) (.lit (.bool true))) (putF (fun _ => false) 0) from SeenF.put (fun y => rfl) (HOM.out.tidy lawU) 0)
  have HH1 := Lib.hid (show HasF ((DataW.map []).put (keyG 0) (.lit (.bool true))) (putF (fun _ => false) 0) from HasF.none.put (HOM.out.tidy lawU) 0 _)
  have HSZ := Lib.hid (show w.heap.size < w1.heap.size by have := hg1.size; simp at this; omega)
  clear ho1 hg1 hmm HOM
  go_upto_region 4 with fail
  go_loopw [6, 17] (fun o s wr => ∃ (k m : Nat) (O : List GF) (D : DataW Unit) (f : GF → Bool), k ≤ L ∧ s = .int .i64 (k : Nat) ∧ Hid (O.length = m) ∧ wr.ownsRow (w.heap.size + 1) 5 1 o m ((iL O).map (Value.int .u8)) ∧ wr.ownsMap Try.prog 5 (plainElem (H := Unit) Try.prog 4) w.heap.size (size D) D ∧ Hid (SeenF D f) ∧ Hid (HasF D f) ∧ Hid (f 0 = true ∧ ∀ y, y ∈ O → f y = true) ∧ Hid (Gath O n) ∧ Hid (Below w.heap.size w wr) ∧ Hid (w.heap.size < wr.heap.size)) (fun _ s _ => L - (intOf s).toNat)
  case atStart => exact ⟨0, 0, [], _, _, by omega, rfl, Lib.hid rfl, own_nilG _ _ _, HO1.out, HS1, HH1, Lib.hid ⟨by unfold putF; rw [if_pos rfl], fun y hy => by cases hy⟩, Lib.hid ⟨List.nodup_nil, by simp, Nat.zero_le _⟩, HB1, HSZ⟩
  case round =>
    obtain ⟨k, m, O, D, f, hk, rfl, hm, hrow, hmap, HS, HH, HF, HG, HB, HLT⟩ := hrel
    rename World => V
    have HK := Lib.hid hk
    have HML := Lib.hid hm.out
    have HRW := Lib.hid hrow
    have HMP := Lib.hid hmap
    clear hk hm hrow hmap HO1 HB1 HS1 HH1 HSZ
    obtain ⟨ao, cap, ho, _⟩ := own_form HRW.out
    subst ho
    have HMN := Lib.hid (show m ≤ n by rw [← HML.out]; exact HG.out.2.2)
    by_cases hlt : k < L
    · as_aux_lemma =>
        obtain ⟨bx, ox, rfl, hbx, hcx⟩ := (HX.out.on HB.out).at_ hlt
        have q2 : (k : Int) < (L : Int) := by omega
        have q3 : (0 : Int) ≤ (k : Int) := by omega
        have HLK := Lib.hid hlt
        have qL : (L : Int) ≤ 9223372036854775807 := by have := HX.out.bd; omega
        have hkey : keyOf Try.prog 5 (.int .u8 (toI (co X k))) = some (keyG (co X k)) := keyOf_int_mk Try.underlying5 (keyG_wf _)
        have HT := Lib.hid (HMP.out.tidy lawU)
        have HKM := Lib.hid (show size D < maxLen from Nat.lt_of_le_of_lt (Nat.le_trans HH.out.2 (cntF_le f)) (by unfold maxLen; omega))
        have HSN := Lib.hid (HS.out.put HT.out (co X k))
        have HHN := Lib.hid (HH.out.put HT.out (co X k) (.lit (.bool true)))
        clear hlt hbx
        cases hs : f (co X k) with
        | true =>
          have HAT := Lib.hid (show D.atKey (keyG (co X k)) (.lit (.bool false)) = .lit (.bool true) by rw [HS.out, hs])
          clear hs
          go_wp2_with (first
            | (at_lookup; refine wpList_lookup_own_bool _ rfl _ _ 67 rfl 5 4 lawU Try.underlying67 Try.underlying4 (zeroB _) w.heap.size (size D) D rfl HMP.out _ _ rfl hkey _ HAT.out ?_)
            | (at_mapUpdate; refine wpList_mapUpdate_own _ rfl _ _ _ 67 rfl 5 4 lawU Try.underlying67 _ w.heap.size (size D) D rfl HMP.out HKM.out _ _ _ rfl rfl hkey _ [] (plainElem_bool Try.underlying4 true) ?_; intro W9 hownW9 hgrowW9))
          go_roundw
          case rel =>
            have hrel := show ∃ (k' m' : Nat) (O' : List GF) (D' : DataW Unit) (f' : GF → Bool), k' ≤ L ∧ Value.int .i64 ((k : Int) + 1) = .int .i64 (k' : Nat) ∧ Hid (O'.length = m') ∧ W9.ownsRow (w.heap.size + 1) 5 1 (.slice ao m cap) m' ((iL O').map (Value.int .u8)) ∧ W9.ownsMap Try.prog 5 (plainElem (H := Unit) Try.prog 4) w.heap.size (size D') D' ∧ Hid (SeenF D' f') ∧ Hid (HasF D' f') ∧ Hid (f' 0 = true ∧ ∀ y, y ∈ O' → f' y = true) ∧ Hid (Gath O' n) ∧ Hid (Below w.heap.size w W9) ∧ Hid (w.heap.size < W9.heap.size) from
              ⟨k + 1, m, O, _, putF f (co X k), HLK.out, by go_num, HML, HRW.out.kept hgrowW9 (own_apart HRW.out (Nat.lt_succ_self _)), ownsMap_size hownW9, HSN, HHN, Lib.hid ⟨by unfold putF; split; rfl; exact HF.out.1, fun y hy => by unfold putF; split; rfl; exact HF.out.2 y hy⟩, HG, Lib.hid (HB.out.grown hgrowW9 HB.out.size (fun j hj => by cases hj; exact Nat.le_refl _)), Lib.hid (Nat.lt_of_lt_of_le HLT.out hgrowW9.size)⟩
            first
              | exact hrel
              | ((repeat apply Exists.intro); exact ⟨hrel, rfl⟩)
          case measure => simp [intOf] <;> (have := HLK.out; omega)
        | false =>
          have HAT := Lib.hid (show D.atKey (keyG (co X k)) (.lit (.bool false)) = .lit (.bool false) by rw [HS.out, hs])
          have HNO := Lib.hid (show co X k ∉ O from fun h => by rw [HF.out.2 _ h] at hs; cases hs)
          have HNZ := Lib.hid (show co X k ≠ 0 from fun h => by rw [h, HF.out.1] at hs; cases hs)
          clear hs
          by_cases hmn : m < n
          · have qm : (m : Int) < (n : Int) := by omega
            have HMO := Lib.hid (show m ≤ 1000000 by have := HN.out; omega)
            have HGN := Lib.hid (HG.out.more HNO.out HNZ.out (by rw [HML.out]; exact hmn))
            have HLE := Lib.hid (show w.heap.size + 1 ≤ V.heap.size from HLT.out)
            obtain ⟨x, hxx⟩ : ∃ x, x = co X k := ⟨_, rfl⟩
            rw [← hxx] at hcx hkey HAT HSN HHN HGN
            have HXX := Lib.hid hxx
            clear hmn hxx
            go_wp2_with (first
              | (at_lookup; refine wpList_lookup_own_bool _ rfl _ _ 67 rfl 5 4 lawU Try.underlying67 Try.underlying4 (zeroB _) w.heap.size (size D) D rfl HMP.out _ _ rfl hkey _ HAT.out ?_)
              | ((with_reducible show wpList _ _ _ (⟨some 34, _, _, _, _, _⟩ :: _) _ _); go_loud (refine wpList_append_G1 rfl (.tmp 31) (.tmp 33) 22 rfl (w.heap.size + 1) 5 i5 Try.underlying22 HI.out.1 HI.out.2.1 HI.out.2.2.1 HI.out.2.2.2 (.slice ao m cap) m O rfl HRW.out x 5 rfl HMO.out HLE.out ?_; intro g5 c5 w5 ho5 hb5; have HO5 := Lib.hid ho5; have HB5 := Lib.hid hb5; have HM5 := Lib.hid (ownsMap_on HMP.out hb5 (Nat.lt_succ_self _)); clear ho5 hb5))
              | (at_mapUpdate; refine wpList_mapUpdate_own _ rfl _ _ _ 67 rfl 5 4 lawU Try.underlying67 _ w.heap.size (size D) D rfl HM5.out HKM.out _ _ _ rfl rfl hkey _ [] (plainElem_bool Try.underlying4 true) ?_; intro W9 hownW9 hgrowW9))
            go_roundw
            case rel =>
              have hrel := show ∃ (k' m' : Nat) (O' : List GF) (D' : DataW Unit) (f' : GF → Bool), k' ≤ L ∧ Value.int .i64 ((k : Int) + 1) = .int .i64 (k' : Nat) ∧ Hid (O'.length = m') ∧ W9.ownsRow (w.heap.size + 1) 5 1 ((.slice (some ⟨g5, 0, none⟩) (m + 1) c5)) m' ((iL O').map (Value.int .u8)) ∧ W9.ownsMap Try.prog 5 (plainElem (H := Unit) Try.prog 4) w.heap.size (size D') D' ∧ Hid (SeenF D' f') ∧ Hid (HasF D' f') ∧ Hid (f' 0 = true ∧ ∀ y, y ∈ O' → f' y = true) ∧ Hid (Gath O' n) ∧ Hid (Below w.heap.size w W9) ∧ Hid (w.heap.size < W9.heap.size) from
                ⟨k + 1, m + 1, O ++ [x], _, putF f x, HLK.out, by go_num, Lib.hid (by rw [List.length_append, HML.out]; rfl), HO5.out.kept hgrowW9 (own_apart HO5.out (Nat.lt_succ_self _)), ownsMap_size hownW9, HSN, HHN, Lib.hid ⟨by unfold putF; split; rfl; exact HF.out.1, fun y hy => by unfold putF; split; rfl; rename_i hne; exact HF.out.2 y ((List.mem_append.1 hy).resolve_right (fun h => hne (by rw [List.mem_singleton.1 h])))⟩, HGN, Lib.hid ((HB.out.trans (HB5.out.mono (Nat.le_succ _))).grown hgrowW9 (Nat.le_trans HB.out.size HB5.out.size) (fun j hj => by cases hj; exact Nat.le_refl _)), Lib.hid (Nat.lt_of_lt_of_le HLT.out (Nat.le_trans HB5.out.size hgrowW9.size))⟩
              first
                | exact hrel
                | ((repeat apply Exists.intro); exact ⟨hrel, rfl⟩)
            case measure => simp [intOf] <;> (have := HLK.out; omega)
          · have qm : (n : Int) ≤ (m : Int) := by omega
            clear hmn
            go_wp2_with (first
              | (at_lookup; refine wpList_lookup_own_bool _ rfl _ _ 67 rfl 5 4 lawU Try.underlying67 Try.underlying4 (zeroB _) w.heap.size (size D) D rfl HMP.out _ _ rfl hkey _ HAT.out ?_)
              | (at_mapUpdate; refine wpList_mapUpdate_own _ rfl _ _ _ 67 rfl 5 4 lawU Try.underlying67 _ w.heap.size (size D) D rfl HMP.out HKM.out _ _ _ rfl rfl hkey _ [] (plainElem_bool Try.underlying4 true) ?_; intro W9 hownW9 hgrowW9))
            go_roundw
            case rel =>
              have hrel := show ∃ (k' m' : Nat) (O' : List GF) (D' : DataW Unit) (f' : GF → Bool), k' ≤ L ∧ Value.int .i64 ((k : Int) + 1) = .int .i64 (k' : Nat) ∧ Hid (O'.length = m') ∧ W9.ownsRow (w.heap.size + 1) 5 1 (.slice ao m cap) m' ((iL O').map (Value.int .u8)) ∧ W9.ownsMap Try.prog 5 (plainElem (H := Unit) Try.prog 4) w.heap.size (size D') D' ∧ Hid (SeenF D' f') ∧ Hid (HasF D' f') ∧ Hid (f' 0 = true ∧ ∀ y, y ∈ O' → f' y = true) ∧ Hid (Gath O' n) ∧ Hid (Below w.heap.size w W9) ∧ Hid (w.heap.size < W9.heap.size) from
                ⟨k + 1, m, O, _, putF f (co X k), HLK.out, by go_num, HML, HRW.out.kept hgrowW9 (own_apart HRW.out (Nat.lt_succ_self _)), ownsMap_size hownW9, HSN, HHN, Lib.hid ⟨by unfold putF; split; rfl; exact HF.out.1, fun y hy => by unfold putF; split; rfl; exact HF.out.2 y hy⟩, HG, Lib.hid (HB.out.grown hgrowW9 HB.out.size (fun j hj => by cases hj; exact Nat.le_refl _)), Lib.hid (Nat.lt_of_lt_of_le HLT.out hgrowW9.size)⟩
              first
                | exact hrel
                | ((repeat apply Exists.intro); exact ⟨hrel, rfl⟩)
            case measure => simp [intOf] <;> (have := HLK.out; omega)
    · as_aux_lemma =>
        obtain rfl : k = L := by have := HK.out; omega
        clear HS HH HF HMP HK0 HX HXL HK
        go_upto_region 11 with fail
        go_loopw [6, 9] (fun o s wr => ∃ (j m : Nat) (O : List GF), 1 ≤ j ∧ j ≤ 201 ∧ s = .int .u8 (j : Nat) ∧ Hid (O.length = m) ∧ wr.ownsRow (w.heap.size + 1) 5 1 o m ((iL O).map (Value.int .u8)) ∧ Hid (Gath O n) ∧ Hid (∀ y : GF, 1 ≤ y.1 → y.1 < j → y ∈ O) ∧ Hid (Below w.heap.size w wr) ∧ Hid (w.heap.size < wr.heap.size)) (fun _ s _ => 256 - (intOf s).toNat)
        case atStart => exact ⟨1, m, O, by omega, by omega, rfl, HML, HRW.out, HG, Lib.hid (fun y h1 h2 => by omega), HB, HLT⟩
        case round =>
          clear HML HG HB HLT HMN HRW
          obtain ⟨j, m, O, hj, hj2, rfl, HML, hrow, HG, HA, HB, HLT⟩ := hrel
          rename World => U
          have HRW := Lib.hid hrow
          clear hrow
          obtain ⟨ao, cap, ho, hpa, hao⟩ := Pa.own HRW.out
          subst ho
          have HPA := Lib.hid hpa
          have HAO := Lib.hid hao
          have HMB := Lib.hid (show m ≤ n by rw [← HML.out]; exact HG.out.2.2)
          clear hpa hao
          by_cases hmn : m < n
          · have qm : (m : Int) < (n : Int) := by omega
            have hjm : j ≤ m + 1 := by
              have h := holes (j - 1) O (by omega) (fun y h1 h2 => HA.out y h1 (by omega))
              rw [HML.out] at h
              omega
            have qj : (0 : Int) < (j : Int) := by omega
            have qj2 : (j : Int) ≤ 200 := by have := HN.out; omega
            have HJ := Lib.hid (show 1 ≤ j ∧ j ≤ 200 by have := HN.out; omega)
            have HMN := Lib.hid hmn
            clear hj hj2 hjm hmn
            go_upto_region 15 with fail
            go_loop [10, 50] (fun b s => ∃ i : Nat, i ≤ m ∧ s = .int .i64 (i : Nat) ∧ b = .bool (snN O i j)) (fun _ s => m - (intOf s).toNat)
            case atStart => exact ⟨0, by omega, rfl, by rw [snN_zero]⟩
            case round =>
              obtain ⟨i, hi, rfl, rfl⟩ := hrel
              have HIM := Lib.hid hi
              clear hi
              by_cases hlt : i < m
              · obtain ⟨bx, ox, rfl, hbx, hcx0⟩ := HPA.out.at_ hlt
                have hcx : U.cell? ⟨bx, ox + i, none⟩ = some (.int .u8 (((co O i).1 : Nat) : Int)) := hcx0
                have q2 : (i : Int) < (m : Int) := by omega
                have q3 : (0 : Int) ≤ (i : Int) := by omega
                have qm9 : (m : Int) ≤ 200 := by have := HN.out; have := HMB.out; omega
                have HLI := Lib.hid hlt
                have HNX := Lib.hid (snN_next (X := O) (k := i) (by rw [HML.out]; exact hlt) j)
                obtain ⟨z, hz⟩ : ∃ z, z = (co O i).1 := ⟨_, rfl⟩
                rw [← hz] at hcx HNX
                clear hcx0 hlt hbx hz
                cases hs : snN O i j with
                | true =>
                  have HE := Lib.hid (show snN O (i + 1) j = true by rw [HNX.out, hs]; split <;> rfl)
                  clear hs
                  go_wp2
                  go_round
                  case rel => exact ⟨i + 1, HLI.out, by go_num, by rw [HE.out]⟩
                  case measure => simp [intOf] <;> (have := HLI.out; omega)
                | false =>
                  by_cases e : j = z
                  · have HE := Lib.hid (show snN O (i + 1) j = true by rw [HNX.out, if_pos e])
                    have qe : ((j : Int) == (z : Int)) = true := by rw [beq_iff_eq]; omega
                    clear hs e
                    go_wp2
                    go_round
                    case rel => exact ⟨i + 1, HLI.out, by go_num, by rw [HE.out]⟩
                    case measure => simp [intOf] <;> (have := HLI.out; omega)
                  · have HE := Lib.hid (show snN O (i + 1) j = false by rw [HNX.out, if_neg e, hs])
                    have qe : ((j : Int) == (z : Int)) = false := by rw [beq_eq_false_iff_ne]; omega
                    clear hs e
                    go_wp2
                    go_round
                    case rel => exact ⟨i + 1, HLI.out, by go_num, by rw [HE.out]⟩
                    case measure => simp [intOf] <;> (have := HLI.out; omega)
              · obtain rfl : i = m := by have := HIM.out; omega
                have hj256 : j < 256 := by have := HJ.out; omega
                have HME := Lib.hid (show snN O i j = true ↔ (⟨j, hj256⟩ : GF) ∈ O by rw [← HML.out]; exact snN_mem (y := ⟨j, hj256⟩))
                clear hlt
                cases hs : snN O i j with
                | true =>
                  have HIN := Lib.hid (HME.out.1 hs)
                  clear hs
                  go_wp2
                  go_roundw
                  case rel =>
                    have hrel := show ∃ (j' m' : Nat) (O' : List GF), 1 ≤ j' ∧ j' ≤ 201 ∧ Value.int .u8 ((j : Int) + 1) = .int .u8 (j' : Nat) ∧ Hid (O'.length = m') ∧ U.ownsRow (w.heap.size + 1) 5 1 (.slice ao i cap) m' ((iL O').map (Value.int .u8)) ∧ Hid (Gath O' n) ∧ Hid (∀ y : GF, 1 ≤ y.1 → y.1 < j' → y ∈ O') ∧ Hid (Below w.heap.size w U) ∧ Hid (w.heap.size < U.heap.size) from
                      ⟨j + 1, i, O, by omega, by have := HJ.out; omega, by go_num, HML, HRW.out, HG, Lib.hid (fun y h1 h2 => by
                        by_cases e : y.1 = j
                        · have : y = (⟨j, hj256⟩ : GF) := GF.ext e
                          rw [this]; exact HIN.out
                        · exact HA.out y h1 (by omega)), HB, HLT⟩
                    first
                      | exact hrel
                      | ((repeat apply Exists.intro); exact ⟨hrel, rfl⟩)
                  case measure => simp [intOf] <;> (have := HJ.out; omega)
                | false =>
                  have HNI := Lib.hid (show (⟨j, hj256⟩ : GF) ∉ O from fun h => by rw [HME.out.2 h] at hs; cases hs)
                  have HGN := Lib.hid (HG.out.more HNI.out (fun h => by have := congrArg (fun g : GF => g.1) h; have h2 : j = 0 := this; have := HJ.out; omega) (by rw [HML.out]; exact HMN.out))
                  have HMO := Lib.hid (show i ≤ 1000000 by have := HN.out; have := HMB.out; omega)
                  have HLE := Lib.hid (show w.heap.size + 1 ≤ U.heap.size from HLT.out)
                  clear hs
                  go_wp2_with ((with_reducible show wpList _ _ _ (⟨some 66, _, _, _, _, _⟩ :: _) _ _); go_loud (refine wpList_append_G1 rfl (.tmp 63) (.tmp 65) 22 rfl (w.heap.size + 1) 5 i5 Try.underlying22 HI.out.1 HI.out.2.1 HI.out.2.2.1 HI.out.2.2.2 (.slice ao i cap) i O rfl HRW.out (⟨j, hj256⟩ : GF) 5 rfl HMO.out HLE.out ?_; intro g5 c5 w5 ho5 hb5; have HO5 := Lib.hid ho5; have HB5 := Lib.hid hb5; clear ho5 hb5))
                  go_roundw
                  case rel =>
                    have hrel := show ∃ (j' m' : Nat) (O' : List GF), 1 ≤ j' ∧ j' ≤ 201 ∧ Value.int .u8 ((j : Int) + 1) = .int .u8 (j' : Nat) ∧ Hid (O'.length = m') ∧ w5.ownsRow (w.heap.size + 1) 5 1 (.slice (some ⟨g5, 0, none⟩) (i + 1) c5) m' ((iL O').map (Value.int .u8)) ∧ Hid (Gath O' n) ∧ Hid (∀ y : GF, 1 ≤ y.1 → y.1 < j' → y ∈ O') ∧ Hid (Below w.heap.size w w5) ∧ Hid (w.heap.size < w5.heap.size) from
                      ⟨j + 1, i + 1, O ++ [⟨j, hj256⟩], by omega, by have := HJ.out; omega, by go_num, Lib.hid (by rw [List.length_append, HML.out]; rfl), HO5.out, HGN, Lib.hid (fun y h1 h2 => by
                        by_cases e : y.1 = j
                        · have : y = (⟨j, hj256⟩ : GF) := GF.ext e
                          rw [this]; exact List.mem_append_right _ (List.mem_singleton.2 rfl)
                        · exact List.mem_append_left _ (HA.out y h1 (by omega))), Lib.hid (HB.out.trans (HB5.out.mono (Nat.le_succ _))), Lib.hid (Nat.lt_of_lt_of_le HLT.out HB5.out.size)⟩
                    first
                      | exact hrel
                      | ((repeat apply Exists.intro); exact ⟨hrel, rfl⟩)
                  case measure => simp [intOf] <;> (have := HJ.out; omega)
          · obtain rfl : m = n := by have := HMB.out; omega
            clear hmn hj hj2
            go_wp2
            go_ret
            exact ⟨ao, cap, O, rfl, HPA.out, HG.out, HML.out, fun b off e => by have := (HAO.out b off e).1; omega, HB.out⟩
end Go.Proofs.Ytfmjfdbbjggcpaa
/- What package shamir's functions answer: the contracts, as statements (each is to be proved of the program). -/
namespace Go.Proofs.Ytfmjfdbbjggcpaa
open Go.ChangeShapes Go.WideShapes Go.ChangeAt Go.RowKit Go.Shelf GF
set_option linter.unusedVariables false

/-- The shares at all places. -/
def shM (t n : Nat) (S M X : List GF) : List (List GF) := X.map fun x => shR t n S M x
theorem shM_len (t n : Nat) (S M X : List GF) : (shM t n S M X).length = X.length := by simp [shM]
theorem shM_row {t n k : Nat} {S M X : List GF} (h : k < X.length) : rw_ (shM t n S M X) k = shR t n S M (co X k) := by
  unfold rw_ shM co
  simp [List.getD_eq_getElem?_getD, h]
theorem rw_shM_len {t n k : Nat} {S M X : List GF} (h : k < X.length) : (rw_ (shM t n S M X) k).length = n := by rw [shM_row h, shR_len]
/-- Rows of two lists of rows, added. -/
def addM (A B : List (List GF)) : List (List GF) := (List.range A.length).map fun k => addR (rw_ A k) (rw_ B k)
theorem addM_len (A B : List (List GF)) : (addM A B).length = A.length := by simp [addM]
theorem addM_row {A B : List (List GF)} {k : Nat} (h : k < A.length) : rw_ (addM A B) k = addR (rw_ A k) (rw_ B k) := by
  show List.getD _ _ _ = _
  unfold addM
  simp [List.getD_eq_getElem?_getD, h]
/-- Rows of new memory: each lies from block B on. -/
def MatB (w : World) (B : Nat) (a : Option Addr) (n c : Nat) (M : List (List GF)) : Prop :=
  M.length = n ∧ n ≤ c ∧ c ≤ maxLen ∧ (a = none → c = 0) ∧ ∃ vs, RV w (fun b => B ≤ b) vs M ∧ (0 < n → ∃ b off, a = some ⟨b, off, none⟩ ∧ b < w.heap.size ∧ B ≤ b ∧ ∀ i, i < n → w.cell? ⟨b, off + i, none⟩ = vs[i]?)
theorem MatB.mat {w : World} {B : Nat} {a : Option Addr} {n c : Nat} {M : List (List GF)} (h : MatB w B a n c M) : Mat w a n c M := by
  obtain ⟨h1, h2, h3, h4, vs, h5, h6⟩ := h
  refine ⟨h1, h2, h3, h4, vs, h5.keep (Nat.le_refl _) (fun _ _ _ => ⟨trivial, rfl⟩), fun h0 => ?_⟩
  obtain ⟨b, off, e, hb, _, hc⟩ := h6 h0
  exact ⟨b, off, e, hb, hc⟩
theorem MatB.keep {w w' : World} {B : Nat} {a : Option Addr} {n c : Nat} {M : List (List GF)} (h : MatB w B a n c M) (hs : w.heap.size ≤ w'.heap.size) (hk : ∀ b, b < w.heap.size → B ≤ b → w'.heap[b]? = w.heap[b]?) : MatB w' B a n c M := by
  obtain ⟨h1, h2, h3, h4, vs, h5, h6⟩ := h
  refine ⟨h1, h2, h3, h4, vs, h5.keep hs (fun b hlt hb => ⟨hb, hk b hlt hb⟩), fun h0 => ?_⟩
  obtain ⟨b, off, e, hlt, hB, hc⟩ := h6 h0
  exact ⟨b, off, e, by omega, hB, fun i hi => (World.cell?_of_block (w := w) (a := ⟨b, off + i, none⟩) (hk b hlt hB)).trans (hc i hi)⟩
theorem MatB.on {w w' : World} {B : Nat} {a : Option Addr} {n c : Nat} {M : List (List GF)} (h : MatB w B a n c M) (hb : Below w.heap.size w w') : MatB w' B a n c M := h.keep hb.size (fun b hlt _ => hb.block b hlt)
theorem MatB.but {w w' : World} {B g : Nat} {a : Option Addr} {n c : Nat} {M : List (List GF)} (h : MatB w B a n c M) (hg : w.grownBy w' (some g)) (hlt : g < B) : MatB w' B a n c M := h.keep hg.size (fun b h1 h2 => hg.block b h1 (fun e => by injection e with e; omega))
end Go.Proofs.Ytfmjfdbbjggcpaa
/- Layer 8's laws' lives, under the contracts. -/
namespace Go.Proofs.Ytfmjfdbbjggcpaa
open Go.ChangeShapes Go.WideShapes Go.ChangeAt Go.RowKit Go.Shelf GF
set_option linter.unusedVariables false
set_option linter.unusedSimpArgs false
set_option maxRecDepth 100000

theorem own_twoG (w : World) (e : TypeId) (c d : GF) : (w.alloc (.cells #[.int .u8 (toI c), .int .u8 (toI d)] e)).ownsRow w.heap.size e 1 (.slice (some ⟨w.heap.size, 0, none⟩) 2 2) 2 ((iL [c, d]).map (Value.int .u8)) :=
  World.ownsRow_lit (base := w.heap.size) (e := e) (size := 1) w #[.int .u8 (toI c), .int .u8 (toI d)] 2 (Nat.le_refl _) (by unfold maxLen; omega) rfl
def g1 : GF := toG 1
def g2 : GF := toG 2
def g3 : GF := toG 3
def g5 : GF := toG 5
theorem lv_rows : shM 2 1 [g5] [g3] [g1, g2] = [[toG 6], [toG 3]] := by decide +kernel
theorem lv_at : atR [g1, g2] (rw_ [[toG 6], [toG 3]]) 0 1 = [g5] := by decide +kernel
theorem lv_apart : Apart [g1, g2] := fun i j hi hj => by
  have : i = 1 ∧ j = 0 := by simp at hi; omega
  obtain ⟨rfl, rfl⟩ := this
  decide +kernel
theorem str6 : strOfNums (iL [toG 6]) = { data := #[6] } := by decide +kernel
theorem str3 : strOfNums (iL [toG 3]) = { data := #[3] } := by decide +kernel
theorem str5 : strOfNums (iL [g5]) = { data := #[5] } := by decide +kernel
end Go.Proofs.Ytfmjfdbbjggcpaa
/- What stays where memory changed in one block alone; a row that another is added to, place by place. -/
namespace Go.Proofs.Ytfmjfdbbjggcpaa
open Go.ChangeShapes Go.WideShapes Go.ChangeAt Go.RowKit Go.Shelf GF
set_option linter.unusedVariables false

theorem gb_trans {w w1 w2 : World} {r : Option Nat} (h : w.grownBy w1 r) (k : w1.grownBy w2 r) : w.grownBy w2 r :=
  ⟨k.os.trans h.os, k.tape.trans h.tape, k.output.trans h.output, Nat.le_trans h.size k.size, fun b hb hn => (k.block b (Nat.lt_of_lt_of_le hb h.size) hn).trans (h.block b hb hn)⟩
theorem gb_refl (w : World) (r : Option Nat) : w.grownBy w r := ⟨rfl, rfl, rfl, Nat.le_refl _, fun _ _ _ => rfl⟩
theorem gb_set (w : World) (B i : Nat) (v : Value) : w.grownBy (w.setCell ⟨B, i, none⟩ v) (some B) :=
  ⟨rfl, rfl, rfl, by simp, fun b hb hn => Below.heap_setCell _ _ _ _ (fun e => hn (by rw [e]))⟩
theorem gb_drew {w w1 : World} {r : Option Nat} (h : w.grownBy w1 r) : w.grownBy w1.drew r := ⟨h.os, h.tape, h.output, h.size, h.block⟩
theorem gb_block {w w' : World} {g b : Nat} (h : w.grownBy w' (some g)) (hb : b < w.heap.size) (hn : b ≠ g) : w'.heap[b]? = w.heap[b]? := h.block b hb (fun e => hn (by injection e))
theorem Pa.but {w w' : World} {a : Option Addr} {L c g : Nat} {P : List GF} (h : Pa w a L c P) (hg : w.grownBy w' (some g)) (hne : ∀ b off, a = some ⟨b, off, none⟩ → b ≠ g) : Pa w' a L c P :=
  ⟨⟨h.1.1, h.1.2.1, fun h0 => by
    obtain ⟨b, off, e, hb, hc⟩ := h.1.2.2.1 h0
    exact ⟨b, off, e, Nat.lt_of_lt_of_le hb hg.size, fun j hj => (World.cell?_of_block (w := w) (a := ⟨b, off + j, none⟩) (gb_block hg hb (hne b off e))).trans (hc j hj)⟩, h.1.2.2.2⟩, h.2⟩
theorem Fld.but {w w' : World} {b g : Nat} (h : Fld w b) (hg : w.grownBy w' (some g)) (hne : b ≠ g) : Fld w' b := by
  have e := gb_block hg h.1 hne
  exact ⟨Nat.lt_of_lt_of_le h.1 hg.size, fun j hj => (World.cell?_of_block (w := w) (a := ⟨b, j, none⟩) e).trans (h.2.1 j hj), fun j hj => (World.cell?_of_block (w := w) (a := ⟨b, 510 + j, none⟩) e).trans (h.2.2 j hj)⟩
theorem Blk.but {w w' : World} {b g : Nat} {T : TypeId} {n : Nat} {f : Nat → Value} (h : Blk w b T n f) (hg : w.grownBy w' (some g)) (hne : b ≠ g) : Blk w' b T n f := (gb_block hg h.lt hne).trans h
/-- The row O, the first k places of S added to it. -/
def mixV (O S : List GF) (k j : Nat) : Value := if j < k then .int .u8 (toI (co O j + co S j)) else gB O j
theorem mixV_zero (O S : List GF) : mixV O S 0 = gB O := by funext j; simp [mixV]
theorem mixV_set (O S : List GF) (k j : Nat) : (if j = k then Value.int .u8 (toI (co O k + co S k)) else mixV O S k j) = mixV O S (k + 1) j := by
  unfold mixV
  by_cases h : j = k
  · subst h; simp
  · rw [if_neg h]
    by_cases h2 : j < k
    · rw [if_pos h2, if_pos (by omega)]
    · rw [if_neg h2, if_neg (by omega)]
theorem mixV_all {O S : List GF} {n : Nat} (hO : O.length = n) (hS : S.length = n) {j : Nat} (h : j < n) : mixV O S n j = gB (addR S O) j := by
  unfold mixV gB
  rw [if_pos h, addR_co (by rw [hO, hS]), GF.add_comm]
theorem mixV_at (O S : List GF) (k : Nat) : mixV O S k k = .int .u8 (toI (co O k)) := by simp [mixV, gB]
end Go.Proofs.Ytfmjfdbbjggcpaa
/- The rest of package shamir's contracts that the laws want, as statements; ends of rows, and of rows of rows. -/
namespace Go.Proofs.Ytfmjfdbbjggcpaa
open Go.ChangeShapes Go.WideShapes Go.ChangeAt Go.RowKit Go.Shelf GF
set_option linter.unusedVariables false

/-- The end of a row, from its k-th place on. -/
theorem Pa.drop {w : World} {b o L c : Nat} {P : List GF} (h : Pa w (some ⟨b, o, none⟩) L c P) (k : Nat) : Pa w (some ⟨b, o + k, none⟩) (L - k) (c - k) (P.drop k) := by
  have hl := h.len
  refine ⟨⟨by rw [length_iL, List.length_drop, hl], allB_iL _, fun h0 => ?_, by have := h.1.2.2.2.1; omega, by have := h.1.2.2.2.2; omega⟩, fun h => by cases h⟩
  rw [length_iL, List.length_drop] at h0
  obtain ⟨b', off, e, hb, hc⟩ := h.1.2.2.1 (by rw [length_iL]; omega)
  cases e
  refine ⟨b, o + k, rfl, hb, fun i hi => ?_⟩
  rw [length_iL, List.length_drop] at hi
  have := hc (k + i) (by rw [length_iL]; omega)
  rw [getD_iL] at this
  rw [getD_iL, co_drop, ← this]
  congr 2
  omega
theorem rw_drop (M : List (List GF)) (k i : Nat) : rw_ (M.drop k) i = rw_ M (k + i) := by simp [rw_, List.getD_eq_getElem?_getD]
theorem RV.drop {w : World} {ok : Nat → Prop} {vs : List Value} {M : List (List GF)} (h : RV w ok vs M) (k : Nat) : RV w ok (vs.drop k) (M.drop k) := by
  refine ⟨by rw [List.length_drop, List.length_drop, h.1], fun i hi => ?_⟩
  rw [List.length_drop] at hi
  rw [rw_drop, List.getElem?_drop]
  exact h.2 (k + i) (by omega)
theorem Mat.drop {w : World} {b o n c : Nat} {M : List (List GF)} (h : Mat w (some ⟨b, o, none⟩) n c M) (k : Nat) : Mat w (some ⟨b, o + k, none⟩) (n - k) (c - k) (M.drop k) := by
  obtain ⟨h1, h2, h3, h4, vs, h5, h6⟩ := h
  refine ⟨by rw [List.length_drop, h1], by omega, by omega, (fun e => by cases e), vs.drop k, h5.drop k, fun h0 => ?_⟩
  obtain ⟨b', off, e, hb, hc⟩ := h6 (by omega)
  cases e
  refine ⟨b, o + k, rfl, hb, fun i hi => ?_⟩
  rw [List.getElem?_drop, ← hc (k + i) (by omega)]
  congr 2
  omega
theorem Mat.tail1 {w : World} {b o n c : Nat} {M : List (List GF)} (h : Mat w (some ⟨b, o, none⟩) n c M) : Mat w (if c = 1 then some ⟨b, o, none⟩ else some ⟨b, o + 1, none⟩) (n - 1) (c - 1) (M.drop 1) := by
  by_cases hc : c = 1
  · rw [if_pos hc]
    have hk := h.drop 1
    obtain ⟨h1, h2, h3, h4, vs, h5, h6⟩ := hk
    exact ⟨h1, h2, h3, (fun e => by cases e), vs, h5, fun h0 => absurd h0 (by omega)⟩
  · rw [if_neg hc]; exact h.drop 1
theorem Mat.some_ {w : World} {a : Option Addr} {n c : Nat} {M : List (List GF)} (h : Mat w a n c M) (h0 : 0 < n) : ∃ b o, a = some ⟨b, o, none⟩ := by
  obtain ⟨h1, h2, h3, h4, vs, h5, h6⟩ := h
  obtain ⟨b, o, e, _⟩ := h6 h0
  exact ⟨b, o, e⟩
theorem Pa.some_ {w : World} {a : Option Addr} {L c : Nat} {P : List GF} (h : Pa w a L c P) (h0 : 0 < L) : ∃ b o, a = some ⟨b, o, none⟩ := by
  obtain ⟨b, o, e, _⟩ := h.at_ h0
  exact ⟨b, o, e⟩
/-- What the last shares tell. -/
theorem join_end {t n d : Nat} {S M U : List GF} {A : List (List GF)} (hU : U.Nodup) (ht : 1 ≤ t) (hd : d + t ≤ U.length) (hA : ∀ k, k < U.length → rw_ A k = shR t n S M (co U k)) (x : GF) : atR (U.drop d) (rw_ (A.drop d)) x n = shR t n S M x := by
  refine at_shares (apart_of_nodup (hU.sublist (List.drop_sublist _ _))) ht (by rw [List.length_drop]; omega) (fun k hk => ?_) x
  rw [List.length_drop] at hk
  rw [rw_drop, co_drop]
  exact hA (d + k) (by omega)
theorem rows_M {t n : Nat} {S M U : List GF} {k : Nat} (hk : k < U.length) : rw_ (shM t n S M U) k = shR t n S M (co U k) := shM_row hk
theorem rows_sum {t n : Nat} {S M D U : List GF} (hS : S.length = n) (hMD : M.length = D.length) {k : Nat} (hk : k < U.length) : rw_ (addM (shM t n S M U) (shM t n (noR n) D U)) k = shR t n S (addR M D) (co U k) := by
  rw [addM_row (by rw [shM_len]; exact hk), shM_row hk, shM_row hk, ← sh_add (by simp [noR, hS]) hMD, addR_no hS]
end Go.Proofs.Ytfmjfdbbjggcpaa
/- Package shamir's refusals, and MaskSize, as statements; which places are 0. -/
namespace Go.Proofs.Ytfmjfdbbjggcpaa
open Go.ChangeShapes Go.WideShapes Go.ChangeAt Go.RowKit Go.Shelf GF
set_option linter.unusedVariables false

theorem snN_false {X : List GF} {L : Nat} (hL : X.length = L) (h : snN X L 0 = false) : ∀ k, k < L → co X k ≠ 0 := fun k hk e => by
  have h1 : (0 : GF) ∈ X := by rw [← e, co_lt (by rw [hL]; exact hk)]; exact List.getElem_mem _
  have h2 := (snN_mem (X := X) (y := (0 : GF))).2 h1
  rw [hL] at h2
  rw [show ((0 : GF).1) = 0 from rfl] at h2
  rw [h] at h2; cases h2
theorem snN_true {X : List GF} {L : Nat} (hL : X.length = L) (h : snN X L 0 = true) : ∃ k, k < L ∧ co X k = 0 := by
  have h1 : snN X X.length (0 : GF).1 = true := by rw [hL]; exact h
  obtain ⟨k, hk, e⟩ := List.getElem_of_mem (snN_mem.1 h1)
  exact ⟨k, by omega, by rw [co_lt hk, e]⟩
theorem snN_step {X : List GF} {k : Nat} (hk : k < X.length) : (co X k = 0 → snN X (k + 1) 0 = true) ∧ (co X k ≠ 0 → snN X (k + 1) 0 = snN X k 0) := by
  have h := snN_next hk 0
  constructor
  · intro e; rw [h, if_pos (by rw [e]; rfl)]
  · intro e; rw [h, if_neg (fun e2 => e (GF.ext e2.symm))]
end Go.Proofs.Ytfmjfdbbjggcpaa
/- At's and Join's refusals, as statements; which rows are of unlike lengths. -/
namespace Go.Proofs.Ytfmjfdbbjggcpaa
open Go.ChangeShapes Go.WideShapes Go.ChangeAt Go.RowKit Go.Shelf GF
set_option linter.unusedVariables false

/-- Has one of the first k rows another length than the first? -/
def unl (M : List (List GF)) (k : Nat) : Bool := (M.take k).any fun r => r.length != (rw_ M 0).length
def uI (M : List (List GF)) (k : Nat) : Int := if unl M k then 3 else 0
theorem uI_zero (M : List (List GF)) : uI M 0 = 0 := by simp [uI, unl]
theorem unl_next {M : List (List GF)} {k : Nat} (h : k < M.length) : unl M (k + 1) = (unl M k || ((rw_ M k).length != (rw_ M 0).length)) := by
  unfold unl
  rw [List.take_add_one, List.any_append, List.getElem?_eq_getElem h]
  simp [rw_, List.getD_eq_getElem?_getD, h]
theorem uI_like {M : List (List GF)} {k : Nat} (h : k < M.length) (e : (rw_ M k).length = (rw_ M 0).length) : uI M (k + 1) = uI M k := by
  unfold uI; rw [unl_next h, e]; simp
theorem uI_unlike {M : List (List GF)} {k : Nat} (h : k < M.length) (e : (rw_ M k).length ≠ (rw_ M 0).length) : uI M (k + 1) = 3 := by
  unfold uI; rw [unl_next h]; simp [e]
theorem unl_mem {M : List (List GF)} (h : unl M M.length = false) {k : Nat} (hk : k < M.length) : (rw_ M k).length = (rw_ M 0).length := by
  unfold unl at h
  rw [List.take_length, List.any_eq_false] at h
  have := h (M[k]) (List.getElem_mem hk)
  have e : rw_ M k = M[k] := by simp [rw_, List.getD_eq_getElem?_getD, hk]
  rw [e]; simpa using this
/-- What At and Join answer of these shares. -/
noncomputable def atErr (X : List GF) (M : List (List GF)) : Int := if X.length ≠ M.length then 1 else if unl M M.length then 3 else plErr X
end Go.Proofs.Ytfmjfdbbjggcpaa
