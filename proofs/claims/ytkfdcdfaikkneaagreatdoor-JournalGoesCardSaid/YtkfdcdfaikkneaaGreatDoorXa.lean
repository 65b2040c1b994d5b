/- Journal, plain: writes one behind the other and a flush; the steps of a change as functions; what a crash leaves. No program is named here. -/
import Derived.Test.YtkfdcdfaikkneaaGreatDoorUa
import Derived.Test.YtkfdcdfaikkneaaGreatDoorDF
import Derived.Test.YtkfdcdfaikkneaaGreatDoorDC
namespace Go.Proofs.YtkfdcdfaikkneaaGreatDoor
open Go.ChangeShapes Go.WideShapes Go.ChangeAt Go.RowKit Go.Shelf
set_option linter.unusedVariables false
set_option linter.unusedSimpArgs false

/-! ## writes, and a flush -/
def wrF (pp : Bool) : List CW → MS → Int → Nat → DS
  | [], S, l, u => opFlush pp S l u
  | x :: r, S, l, u => if (opWrite pp S (x.1 : Nat) x.2 l u).err = 0 then wrF pp r (opWrite pp S (x.1 : Nat) x.2 l u).S (opWrite pp S (x.1 : Nat) x.2 l u).l (opWrite pp S (x.1 : Nat) x.2 l u).u else opWrite pp S (x.1 : Nat) x.2 l u
theorem wrF_go {pp : Bool} {x : CW} {r : List CW} {S : MS} {l : Int} {u : Nat} {D : DS} (hD : D = opWrite pp S (x.1 : Nat) x.2 l u) (h : D.err = 0) : wrF pp (x :: r) S l u = wrF pp r D.S D.l D.u := by
  rw [wrF, ← hD, if_pos h]
theorem wrF_stop {pp : Bool} {x : CW} {r : List CW} {S : MS} {l : Int} {u : Nat} {D : DS} (hD : D = opWrite pp S (x.1 : Nat) x.2 l u) (h : D.err ≠ 0) : wrF pp (x :: r) S l u = D := by
  rw [wrF, ← hD, if_neg h]
/-- A member of 6 blocks whose cache is empty. -/
def memS (M : Nat → Option (List Int)) : MS := ⟨24, M, [], false⟩
/-- How a change's step ends: all was written and flushed, or some of it lies in the cache. -/
def OutJ (ws : List CW) (M : Nat → Option (List Int)) (c : List CW) (D : DS) : Prop :=
  (D.err = 0 ∧ D.S = memS (applyW M (c ++ ws))) ∨ (D.err = 9 ∧ ∃ k, D.S = ⟨24, M, c ++ ws.take k, false⟩)
theorem opWrite_in {pp : Bool} {S : MS} {i : Nat} {b : List Int} {l : Int} {u : Nat} (hd : S.down = false) (hi : i < S.size) (hb : b.length = 512) : opWrite pp S (i : Nat) b l u = if l = 0 then ⟨[], 9, S, l, u⟩ else ⟨[], 0, S.write i b, spendL l, usedN pp u⟩ := by
  unfold opWrite
  rw [if_neg (by rw [hd]; decide), if_neg (by unfold inR; intro h; apply h; omega), if_neg (by intro h; exact h hb), Int.toNat_natCast]
theorem wrF_out (pp : Bool) : ∀ (ws : List CW) (M : Nat → Option (List Int)) (c : List CW) (l : Int) (u : Nat), (∀ x, x ∈ ws → x.1 < 24 ∧ x.2.length = 512) → OutJ ws M c (wrF pp ws ⟨24, M, c, false⟩ l u)
  | [], M, c, l, u, _ => by
    rw [wrF]
    unfold opFlush
    by_cases h : l = 0
    · rw [if_pos (.inr h)]; exact .inr ⟨rfl, 0, by simp⟩
    · rw [if_neg (by simp [h])]; exact .inl ⟨rfl, by simp [MS.flush, memS]⟩
  | x :: r, M, c, l, u, h => by
    obtain ⟨h1, h2⟩ := h x (List.mem_cons_self ..)
    have e := opWrite_in (pp := pp) (S := ⟨24, M, c, false⟩) (l := l) (u := u) rfl h1 h2
    by_cases hl : l = 0
    · rw [if_pos hl] at e
      rw [wrF_stop e.symm (show (9 : Int) ≠ 0 by decide)]
      exact .inr ⟨rfl, 0, by simp⟩
    · rw [if_neg hl] at e
      rw [wrF_go e.symm rfl]
      show OutJ _ _ _ (wrF pp r ⟨24, M, c ++ [(x.1, x.2)], false⟩ (spendL l) (usedN pp u))
      rcases wrF_out pp r M (c ++ [(x.1, x.2)]) (spendL l) (usedN pp u) (fun y hy => h y (List.mem_cons_of_mem _ hy)) with ⟨k1, k2⟩ | ⟨k1, n, k2⟩
      · exact .inl ⟨k1, by rw [k2]; simp⟩
      · exact .inr ⟨k1, n + 1, by rw [k2]; simp⟩
theorem wrF_sure (pp : Bool) : ∀ (ws : List CW) (M : Nat → Option (List Int)) (c : List CW) (u : Nat), (∀ x, x ∈ ws → x.1 < 24 ∧ x.2.length = 512) → (wrF pp ws ⟨24, M, c, false⟩ (-1) u).err = 0 ∧ (wrF pp ws ⟨24, M, c, false⟩ (-1) u).l = -1
  | [], M, c, u, _ => by
    rw [wrF]
    unfold opFlush
    rw [if_neg (by simp)]; exact ⟨rfl, rfl⟩
  | x :: r, M, c, u, h => by
    obtain ⟨h1, h2⟩ := h x (List.mem_cons_self ..)
    have e := opWrite_in (pp := pp) (S := ⟨24, M, c, false⟩) (l := -1) (u := u) rfl h1 h2
    rw [if_neg (by decide)] at e
    rw [wrF_go e.symm rfl]
    exact wrF_sure pp r M (c ++ [(x.1, x.2)]) (usedN pp u) (fun y hy => h y (List.mem_cons_of_mem _ hy))

/-! ## the steps of a change -/
/-- What a medium answers at all. -/
def ansE (S : MS) (l : Int) : Int := if S.down = true ∨ l = 0 then 9 else 0
theorem ansE_read {S : MS} (h : S.Ok) (l : Int) (u : Nat) : ((opRead S 0 l u).err = 10 ∧ ansE S l = 0) ∨ ((opRead S 0 l u).err ≠ 10 ∧ (opRead S 0 l u).err = ansE S l) := by
  unfold opRead ansE
  by_cases hd : S.down = true ∨ l = 0
  · rw [if_pos hd, if_pos hd]; exact .inr ⟨(show (9 : Int) ≠ 10 by decide), rfl⟩
  · rw [if_neg hd, if_neg hd, if_neg (by unfold inR; have := h.size1; intro h; apply h; omega)]
    cases S.shows (0 : Int).toNat with
    | none => exact .inl ⟨rfl, rfl⟩
    | some b => exact .inr ⟨(show (0 : Int) ≠ 10 by decide), rfl⟩
/-- Has a share a home, and can it be? -/
def layOk (S : MS) (s : SH) : Prop := s.st < (S.size : Int) - 18 ∧ s.Ok
instance (S : MS) (s : SH) : Decidable (layOk S s) := by unfold layOk; infer_instance
def whS (i : Nat) (_ : SH) : Nat := 2 + i
def whH (_ : Nat) (s : SH) : Nat := 18 + s.st.toNat
def wsOf (wh : Nat → SH → Nat) : Nat → List SH → List CW
  | _, [] => []
  | i, s :: r => (wh i s, s.B) :: wsOf wh (i + 1) r
theorem wsOf_len (wh : Nat → SH → Nat) : ∀ (L : List SH) (i : Nat), (wsOf wh i L).length = L.length
  | [], _ => rfl
  | s :: r, i => by rw [wsOf, List.length_cons, wsOf_len wh r, List.length_cons]
theorem wsOf_drop (wh : Nat → SH → Nat) : ∀ (L : List SH) (i k : Nat) (s : SH), L[k]? = some s → (wsOf wh i L).drop k = (wh (i + k) s, s.B) :: (wsOf wh i L).drop (k + 1)
  | x :: r, i, 0, s, h => by cases h; rfl
  | x :: r, i, k + 1, s, h => by
    have := wsOf_drop wh r (i + 1) k s (by simpa using h)
    rw [show i + 1 + k = i + (k + 1) by omega] at this
    rw [wsOf, List.drop_succ_cons, List.drop_succ_cons]; exact this
theorem wsOf_mem {wh : Nat → SH → Nat} : ∀ {L : List SH} {i : Nat} {x : CW}, x ∈ wsOf wh i L → ∃ k s, L[k]? = some s ∧ x = (wh (i + k) s, s.B)
  | [], _, _, h => by cases h
  | y :: r, i, x, h => by
    rw [wsOf] at h
    rcases List.mem_cons.1 h with rfl | h
    · exact ⟨0, y, rfl, rfl⟩
    · obtain ⟨k, s, h1, h2⟩ := wsOf_mem h
      exact ⟨k + 1, s, by simpa using h1, by rw [h2, show i + 1 + k = i + (k + 1) by omega]⟩
theorem wsOf_in {wh : Nat → SH → Nat} : ∀ {L : List SH} {i k : Nat} {s : SH}, L[k]? = some s → (wh (i + k) s, s.B) ∈ wsOf wh i L
  | y :: r, i, 0, s, h => by cases h; exact List.mem_cons_self ..
  | y :: r, i, k + 1, s, h => by
    have := wsOf_in (wh := wh) (L := r) (i := i + 1) (k := k) (s := s) (by simpa using h)
    rw [show i + 1 + k = i + (k + 1) by omega] at this
    exact List.mem_cons_of_mem _ this
def spD (pp : Bool) (wh : Nat → SH → Nat) (L : List SH) (S : MS) (l : Int) (u : Nat) : DS :=
  if ansE S l ≠ 0 then ⟨[], 9, S, l, u⟩ else if 16 < L.length then ⟨[], 4, S, l, u⟩ else if ∀ s, s ∈ L → layOk S s then wrF pp (wsOf wh 0 L) S l u else ⟨[], 2, S, l, u⟩
def cmW (c : CM) : List CW := [(1, c.B)]
def markD (pp : Bool) (g n : Int) (S : MS) (l : Int) (u : Nat) : DS :=
  if ansE S l ≠ 0 then ⟨[], 9, S, l, u⟩ else if 16 < n then ⟨[], 4, S, l, u⟩ else if n < 0 then ⟨[], 2, S, l, u⟩ else wrF pp (cmW ⟨1, n, g⟩) S l u
def clrW (g : Int) : List CW := (List.range 16).map (fun i => (2 + i, zsec)) ++ cmW ⟨2, 0, g⟩
def clrD (pp : Bool) (g : Int) (S : MS) (l : Int) (u : Nat) : DS := wrF pp (clrW g) S l u

/-! ## what stands -/
/-- The share that a sector's bytes say. -/
def shAt (S : MS) (i : Nat) : Option SH := match S.shows i with
  | none => none
  | some b => if zeroL b = true then none else psh b
/-- The slots from the i-th one on, n more at most; these were there ahead of it. -/
def slotF (S : MS) : Nat → Nat → List SH → List SH
  | 0, _, acc => acc
  | n + 1, i, acc => match shAt S (2 + i) with
    | none => acc
    | some s => match acc with
      | [] => slotF S n (i + 1) [s]
      | x :: r => if s.g = x.g then slotF S n (i + 1) (x :: r ++ [s]) else x :: r
def slotL (S : MS) : List SH := slotF S 16 0 []
theorem slotF_all (S : MS) (L : List SH) (g : Int) (hg : ∀ s, s ∈ L → s.g = g) (hs : ∀ k s, L[k]? = some s → shAt S (2 + k) = some s) (h0 : L.length < 16 → shAt S (2 + L.length) = none) (h16 : L.length ≤ 16) :
    ∀ (n i : Nat), i + n = 16 → i ≤ L.length → slotF S n i (L.take i) = L
  | 0, i, h, hi => by rw [slotF, List.take_of_length_le (by omega)]
  | n + 1, i, h, hi => by
    rw [slotF]
    by_cases hlt : i < L.length
    · have e : L[i]? = some L[i] := List.getElem?_eq_getElem hlt
      rw [hs i _ e]
      dsimp only
      have ht : L.take (i + 1) = L.take i ++ [L[i]] := by rw [List.take_succ_eq_append_getElem hlt]
      cases hc : L.take i with
      | nil =>
        dsimp only
        have := slotF_all S L g hg hs h0 h16 n (i + 1) (by omega) hlt
        rw [ht, hc] at this
        exact this
      | cons x r =>
        dsimp only
        have hx : x ∈ L := List.mem_of_mem_take (by rw [hc]; exact List.mem_cons_self ..)
        rw [if_pos (by rw [hg _ hx, hg _ (List.getElem_mem hlt)])]
        have := slotF_all S L g hg hs h0 h16 n (i + 1) (by omega) hlt
        rw [ht, hc] at this
        exact this
    · have e : i = L.length := by omega
      rw [e, h0 (by omega)]
      dsimp only
      rw [List.take_of_length_le (Nat.le_refl _)]
theorem slotL_all {S : MS} {L : List SH} {g : Int} (hg : ∀ s, s ∈ L → s.g = g) (hs : ∀ k s, L[k]? = some s → shAt S (2 + k) = some s) (h0 : L.length < 16 → shAt S (2 + L.length) = none) (h16 : L.length ≤ 16) : slotL S = L := by
  have := slotF_all S L g hg hs h0 h16 16 0 rfl (Nat.zero_le _)
  rw [List.take_zero] at this
  exact this
theorem slotF_len (S : MS) : ∀ (n i : Nat) (acc : List SH), (slotF S n i acc).length ≤ acc.length + n
  | 0, _, acc => by rw [slotF]; omega
  | n + 1, i, acc => by
    rw [slotF]
    cases shAt S (2 + i) with
    | none => dsimp only; omega
    | some s =>
      cases acc with
      | nil => have := slotF_len S n (i + 1) [s]; dsimp only; simp at this ⊢; omega
      | cons x r =>
        dsimp only
        split
        · have := slotF_len S n (i + 1) (x :: r ++ [s]); simp at this ⊢; omega
        · omega
/-- The commit sector that bytes say, and the error. -/
def cmZ (b : List Int) : CM := if zeroL b = true then ⟨0, 0, 0⟩ else pcmZ b
def cmE (b : List Int) : Int := if zeroL b = true then 0 else pcmE b
theorem zeroL_zsec : zeroL zsec = true := zeroL_true fun i hi => by
  unfold zsec
  rw [List.getD_eq_getElem?_getD, List.getElem?_replicate]
  split <;> rfl
theorem SH.B_nz (s : SH) : zeroL s.B = false := by
  obtain ⟨r, hr⟩ := s.tail
  refine zeroL_false (k := 0) ?_ ?_
  · rw [hr]; simp
  · rw [hr]; simp
theorem CM.B_nz (c : CM) : zeroL c.B = false := by
  refine zeroL_false (k := 0) ?_ ?_
  · rw [CM.B_len]; decide
  · unfold CM.B szL; simp
theorem shAt_B {S : MS} {i : Nat} {s : SH} (h : S.shows i = some s.B) (hw : s.Wf) (ho : s.Ok) : shAt S i = some s := by
  unfold shAt; rw [h]; dsimp only; rw [if_neg (by rw [SH.B_nz]; decide), psh_B hw ho]
theorem shAt_zero {S : MS} {i : Nat} (h : S.shows i = some zsec) : shAt S i = none := by
  unfold shAt; rw [h]; dsimp only; rw [if_pos zeroL_zsec]
theorem cm_B {c : CM} (hw : c.Wf) (ho : c.Ok) : cmZ c.B = c ∧ cmE c.B = 0 := by
  unfold cmZ cmE
  rw [if_neg (by rw [CM.B_nz]; decide), if_neg (by rw [CM.B_nz]; decide)]
  unfold pcmZ pcmE
  rw [pcm_B hw ho]
  exact ⟨rfl, rfl⟩
theorem cm_zero : cmZ zsec = ⟨0, 0, 0⟩ ∧ cmE zsec = 0 := by
  unfold cmZ cmE
  rw [if_pos zeroL_zsec, if_pos zeroL_zsec]
  exact ⟨rfl, rfl⟩

/-! ## behind a crash -/
def OneW (ws : List CW) : Prop := ∀ x y, x ∈ ws → y ∈ ws → x.1 = y.1 → x.2 = y.2
theorem applyW_in {ws : List CW} {M : Nat → Option (List Int)} (h1 : OneW ws) {x : CW} (hx : x ∈ ws) : applyW M ws x.1 = some x.2 := by
  rw [applyW_some]
  cases hl : lastW ws x.1 with
  | none => exact absurd rfl (lastW_none ws hl x hx)
  | some b => exact congrArg some (h1 _ _ (lastW_mem ws hl) hx rfl)
theorem applyW_out {ws : List CW} {M : Nat → Option (List Int)} {i : Nat} (h : ∀ x, x ∈ ws → x.1 ≠ i) : applyW M ws i = M i := by
  rw [applyW_some]
  cases hl : lastW ws i with
  | none => rfl
  | some b => exact absurd rfl (h _ (lastW_mem ws hl))
theorem applyW_or {ws c : List CW} {M : Nat → Option (List Int)} (h1 : OneW ws) (hc : ∀ x, x ∈ c → x ∈ ws) (i : Nat) : applyW M c i = M i ∨ applyW M c i = applyW M ws i := by
  rw [applyW_some c]
  cases hl : lastW c i with
  | none => exact .inl rfl
  | some b => exact .inr (applyW_in (M := M) h1 (hc _ (lastW_mem c hl))).symm
end Go.Proofs.YtkfdcdfaikkneaaGreatDoor
