/- Journal, plain: what a change's steps leave on a member, sector by sector; what stands behind a crash. No program is named here. -/
import Derived.Test.YtkfdcdfaikkneaaGreatDoorXj
namespace Go.Proofs.YtkfdcdfaikkneaaGreatDoor
open Go.ChangeShapes Go.WideShapes Go.ChangeAt Go.RowKit Go.Shelf
set_option linter.unusedVariables false
set_option linter.unusedSimpArgs false

def stepW (i : Nat) (g : Int) (L : List SH) : List CW :=
  if i = 0 then wsOf whS 0 L else if i = 1 then cmW ⟨1, (L.length : Nat), g⟩ else if i = 2 then wsOf whH 0 L else clrW g
/-- Shares that may be a change of a member of 6 blocks. -/
structure ChP (g : Int) (L : List SH) : Prop where
  few : L.length ≤ 5
  wf : ∀ s, s ∈ L → s.Wf ∧ s.Ok ∧ s.st < 6 ∧ s.g = g
  one : ∀ (i k : Nat) (s t : SH), L[i]? = some s → L[k]? = some t → s.st = t.st → i = k
  gen : genI g
theorem OfP.ch {n : Nat} {g p : Int} {L : List SH} (h : OfP n g p L) (hp : byteI p) (hp0 : p ≠ 0) (hg : genI g) : ChP g L :=
  ⟨h.few.1, fun s hs => ⟨h.wf hp hg s hs, h.ok hp0 s hs, (h.each s hs).2.2.2.1, (h.each s hs).2.2.2.2.1⟩, h.one, hg⟩
theorem stepW_in {i : Nat} {g : Int} {L : List SH} (h : ChP g L) : ∀ x, x ∈ stepW i g L → x.1 < 24 ∧ x.2.length = 512 := fun x hx => by
  unfold stepW at hx
  split at hx
  · obtain ⟨k, s, h1, rfl⟩ := wsOf_mem hx
    have hk : k < L.length := by
      rcases Nat.lt_or_ge k L.length with h2 | h2
      · exact h2
      · rw [List.getElem?_eq_none h2] at h1; cases h1
    exact ⟨by show 2 + (0 + k) < 24; have := h.few; omega, SH.B_len (h.wf s (List.mem_of_getElem? h1)).2.1⟩
  · split at hx
    · rw [List.mem_singleton.1 hx]; exact ⟨(show 1 < 24 by omega), CM.B_len _⟩
    · split at hx
      · obtain ⟨k, s, h1, rfl⟩ := wsOf_mem hx
        obtain ⟨hw, ho, h6, _⟩ := h.wf s (List.mem_of_getElem? h1)
        exact ⟨by show 18 + s.st.toNat < 24; have := hw.st; omega, SH.B_len ho⟩
      · rcases List.mem_append.1 hx with h1 | h1
        · obtain ⟨k, hk, rfl⟩ := List.mem_map.1 h1
          exact ⟨by show 2 + k < 24; have := List.mem_range.1 hk; omega, zsec_len⟩
        · rw [List.mem_singleton.1 h1]; exact ⟨(show 1 < 24 by omega), CM.B_len _⟩
theorem stepW_one {i : Nat} {g : Int} {L : List SH} (h : ChP g L) : OneW (stepW i g L) := fun x y hx hy e => by
  unfold stepW at hx hy
  by_cases c0 : i = 0
  · rw [if_pos c0] at hx hy
    obtain ⟨k, s, h1, rfl⟩ := wsOf_mem hx
    obtain ⟨k2, t, h2, rfl⟩ := wsOf_mem hy
    have : k = k2 := by change 2 + (0 + k) = 2 + (0 + k2) at e; omega
    subst this
    rw [h1] at h2; cases h2; rfl
  · rw [if_neg c0] at hx hy
    by_cases c1 : i = 1
    · rw [if_pos c1] at hx hy
      rw [List.mem_singleton.1 hx, List.mem_singleton.1 hy]
    · rw [if_neg c1] at hx hy
      by_cases c2 : i = 2
      · rw [if_pos c2] at hx hy
        obtain ⟨k, s, h1, rfl⟩ := wsOf_mem hx
        obtain ⟨k2, t, h2, rfl⟩ := wsOf_mem hy
        have hs := (h.wf s (List.mem_of_getElem? h1)).1.st
        have ht := (h.wf t (List.mem_of_getElem? h2)).1.st
        have e2 : s.st = t.st := by change 18 + s.st.toNat = 18 + t.st.toNat at e; omega
        have := h.one k k2 s t h1 h2 e2
        subst this
        rw [h1] at h2; cases h2; rfl
      · rw [if_neg c2] at hx hy
        rcases List.mem_append.1 hx with h1 | h1 <;> rcases List.mem_append.1 hy with h2 | h2
        · obtain ⟨k, hk, rfl⟩ := List.mem_map.1 h1
          obtain ⟨k2, hk2, rfl⟩ := List.mem_map.1 h2
          rfl
        · obtain ⟨k, hk, rfl⟩ := List.mem_map.1 h1
          rw [List.mem_singleton.1 h2] at e
          change 2 + k = 1 at e; omega
        · obtain ⟨k, hk, rfl⟩ := List.mem_map.1 h2
          rw [List.mem_singleton.1 h1] at e
          change 1 = 2 + k at e; omega
        · rw [List.mem_singleton.1 h1, List.mem_singleton.1 h2]
theorem memS_lay {M : Nat → Option (List Int)} {g : Int} {L : List SH} (h : ChP g L) : ∀ s, s ∈ L → layOk (memS M) s := fun s hs => ⟨by show s.st < ((24 : Nat) : Int) - 18; have := (h.wf s hs).2.2.1; omega, (h.wf s hs).2.1⟩
theorem stepD_eq (pp : Bool) {i : Nat} (hi : i < 4) {g : Int} {L : List SH} (h : ChP g L) (M : Nat → Option (List Int)) (l : Int) (u : Nat) : stepD pp i g L (memS M) l u = ⟨[], 9, memS M, l, u⟩ ∨ stepD pp i g L (memS M) l u = wrF pp (stepW i g L) (memS M) l u := by
  have hf := h.few
  unfold stepD stepW spD markD clrD
  rcases ansE_or (memS M) l with ha | ha
  · right
    rw [ha]
    have h16 : ¬ (16 < L.length) := by omega
    have h16' : ¬ ((16 : Int) < (L.length : Nat)) := by omega
    have h0 : ¬ ((L.length : Int) < 0) := by omega
    simp only [ne_eq, not_true_eq_false, if_false, h16, h16', h0, if_pos (memS_lay (M := M) h)]
    split
    · rfl
    · split
      · rfl
      · split <;> rfl
  · rw [ha]
    have hc : i = 0 ∨ i = 1 ∨ i = 2 ∨ i = 3 := by omega
    rcases hc with rfl | rfl | rfl | rfl
    · left; simp
    · left; simp
    · left; simp
    · right; simp
theorem stepD_out (pp : Bool) {i : Nat} (hi : i < 4) {g : Int} {L : List SH} (h : ChP g L) (M : Nat → Option (List Int)) (l : Int) (u : Nat) : OutJ (stepW i g L) M [] (stepD pp i g L (memS M) l u) := by
  rcases stepD_eq pp hi h M l u with e | e
  · rw [e]; exact .inr ⟨rfl, 0, by simp [memS]⟩
  · rw [e]; exact wrF_out pp _ M [] l u (stepW_in h)
theorem stepD_sure (pp : Bool) {i : Nat} (hi : i < 4) {g : Int} {L : List SH} (h : ChP g L) (M : Nat → Option (List Int)) (u : Nat) : (stepD pp i g L (memS M) (-1) u).err = 0 ∧ (stepD pp i g L (memS M) (-1) u).l = -1 ∧ (stepD pp i g L (memS M) (-1) u).S = memS (applyW M (stepW i g L)) := by
  have hs := wrF_sure pp (stepW i g L) M [] u (stepW_in h)
  have ho := wrF_out pp (stepW i g L) M [] (-1) u (stepW_in h)
  have e : stepD pp i g L (memS M) (-1) u = wrF pp (stepW i g L) (memS M) (-1) u := by
    have hf := h.few
    unfold stepD stepW spD markD clrD
    have ha : ansE (memS M) (-1) = 0 := by unfold ansE memS; simp
    rw [ha]
    have h16 : ¬ (16 < L.length) := by omega
    have h16' : ¬ ((16 : Int) < (L.length : Nat)) := by omega
    have h0 : ¬ ((L.length : Int) < 0) := by omega
    simp only [ne_eq, not_true_eq_false, if_false, h16, h16', h0, if_pos (memS_lay (M := M) h)]
    split
    · rfl
    · split
      · rfl
      · split <;> rfl
  rw [e]
  refine ⟨hs.1, hs.2, ?_⟩
  rcases ho with h1 | h1
  · exact h1.2
  · have h2 := hs.1
    have h3 := h1.1
    unfold memS at h2 ⊢
    rw [h3] at h2; cases h2
/-- What stands on a member, sector by sector. -/
structure Std (M : Nat → Option (List Int)) (c : List Int) (L : List SH) (H : Nat → List Int) : Prop where
  com : M 1 = some c
  slot : ∀ (k : Nat) (s : SH), L[k]? = some s → M (2 + k) = some s.B
  free : ∀ k, L.length ≤ k → k < 16 → M (2 + k) = some zsec
  home : ∀ k, k < 6 → M (18 + k) = some (H k)
def putH (H : Nat → List Int) (L : List SH) : Nat → List Int := L.foldl (fun H s k => if k = s.st.toNat then s.B else H k) H
theorem std0 : Std (MS.new 24).med zsec [] (fun _ => zsec) := ⟨rfl, fun k s h => (by simp at h), fun _ _ _ => rfl, fun _ _ => rfl⟩
theorem Std.stage {M : Nat → Option (List Int)} {c : List Int} {H : Nat → List Int} {g : Int} {L : List SH} (h : Std M c [] H) (hc : ChP g L) : Std (applyW M (stepW 0 g L)) c L H := by
  have ho : ∀ i, (∀ k s, L[k]? = some s → 2 + k ≠ i) → applyW M (stepW 0 g L) i = M i := fun i hi => applyW_out fun x hx => by
    obtain ⟨k, s, h1, rfl⟩ := wsOf_mem (show x ∈ wsOf whS 0 L from hx)
    have := hi k s h1
    show 2 + (0 + k) ≠ i
    omega
  have hk : ∀ k s, L[k]? = some s → k < 5 := fun k s hs => by
    have := hc.few
    rcases Nat.lt_or_ge k L.length with h2 | h2
    · omega
    · rw [List.getElem?_eq_none h2] at hs; cases hs
  refine ⟨(ho 1 (fun k s hs => by omega)).trans h.com, fun k s hs => ?_, fun k h1 h2 => (ho (2 + k) (fun k2 s hs e => ?_)).trans (h.free k (Nat.zero_le _) h2), fun k h1 => (ho (18 + k) (fun k2 s hs e => ?_)).trans (h.home k h1)⟩
  · have hin : (2 + (0 + k), s.B) ∈ stepW 0 g L := wsOf_in (wh := whS) hs
    have := applyW_in (M := M) (stepW_one (i := 0) hc) hin
    rw [Nat.zero_add] at this
    exact this
  · have : k2 = k := by omega
    subst this
    rw [List.getElem?_eq_none h1] at hs; cases hs
  · have := hk k2 s hs; omega
theorem Std.mark {M : Nat → Option (List Int)} {c : List Int} {H : Nat → List Int} {g : Int} {L : List SH} (h : Std M c L H) (hc : ChP g L) : Std (applyW M (stepW 1 g L)) (CM.B ⟨1, (L.length : Nat), g⟩) L H := by
  have e : stepW 1 g L = [(1, CM.B ⟨1, (L.length : Nat), g⟩)] := rfl
  have ho : ∀ i, i ≠ 1 → applyW M (stepW 1 g L) i = M i := fun i hi => applyW_out fun x hx => by
    rw [e] at hx; rw [List.mem_singleton.1 hx]; exact fun h => hi h.symm
  refine ⟨?_, fun k s hs => (ho _ (by omega)).trans (h.slot k s hs), fun k h1 h2 => (ho _ (by omega)).trans (h.free k h1 h2), fun k h1 => (ho _ (by omega)).trans (h.home k h1)⟩
  rw [e]; rfl
theorem applyH : ∀ (L : List SH) (i : Nat) (M : Nat → Option (List Int)) (H : Nat → List Int), (∀ s, s ∈ L → s.Wf) → (∀ k, k < 6 → M (18 + k) = some (H k)) → ∀ k, k < 6 → applyW M (wsOf whH i L) (18 + k) = some (putH H L k)
  | [], _, M, H, _, h => h
  | s :: r, i, M, H, hw, h => by
    rw [wsOf, applyW]
    show ∀ k, k < 6 → applyW _ (wsOf whH (i + 1) r) (18 + k) = some (putH (fun k => if k = s.st.toNat then s.B else H k) r k)
    refine applyH r (i + 1) _ _ (fun t ht => hw t (List.mem_cons_of_mem _ ht)) (fun k hk => ?_)
    show (if 18 + k = 18 + s.st.toNat then some s.B else M (18 + k)) = _
    by_cases e : k = s.st.toNat
    · rw [if_pos (by omega), if_pos e]
    · rw [if_neg (by omega), if_neg e, h k hk]
theorem Std.apply {M : Nat → Option (List Int)} {c : List Int} {H : Nat → List Int} {g : Int} {L : List SH} (h : Std M c L H) (hc : ChP g L) : Std (applyW M (stepW 2 g L)) c L (putH H L) := by
  have ho : ∀ i, i < 18 → applyW M (stepW 2 g L) i = M i := fun i hi => applyW_out fun x hx => by
    obtain ⟨k, s, h1, rfl⟩ := wsOf_mem (show x ∈ wsOf whH 0 L from hx)
    show 18 + s.st.toNat ≠ i
    omega
  have hk : ∀ k s, L[k]? = some s → k < 5 := fun k s hs => by
    have := hc.few
    rcases Nat.lt_or_ge k L.length with h2 | h2
    · omega
    · rw [List.getElem?_eq_none h2] at hs; cases hs
  exact ⟨(ho 1 (by omega)).trans h.com, fun k s hs => (ho _ (by have := hk k s hs; omega)).trans (h.slot k s hs), fun k h1 h2 => (ho _ (by omega)).trans (h.free k h1 h2), applyH L 0 M H (fun s hs => (hc.wf s hs).1) h.home⟩
theorem Std.clear {M : Nat → Option (List Int)} {c : List Int} {H : Nat → List Int} {g : Int} {L : List SH} (h : Std M c L H) (hc : ChP g L) : Std (applyW M (stepW 3 g L)) (CM.B ⟨2, 0, g⟩) [] H := by
  have h1 := stepW_one (i := 3) hc
  refine ⟨?_, fun k s hs => (by simp at hs), fun k _ h2 => ?_, fun k hk => (applyW_out fun x hx => ?_).trans (h.home k hk)⟩
  · exact applyW_in (M := M) h1 (x := (1, CM.B ⟨2, 0, g⟩)) (List.mem_append_right _ (List.mem_singleton.2 rfl))
  · exact applyW_in (M := M) h1 (x := (2 + k, zsec)) (List.mem_append_left _ (List.mem_map.2 ⟨k, List.mem_range.2 h2, rfl⟩))
  · rcases List.mem_append.1 hx with h2 | h2
    · obtain ⟨i, hi, rfl⟩ := List.mem_map.1 h2
      have := List.mem_range.1 hi
      show 2 + i ≠ 18 + k
      omega
    · rw [List.mem_singleton.1 h2]; show 1 ≠ 18 + k; omega
/-! ## what is looked at -/
theorem memS_shows (M : Nat → Option (List Int)) (i : Nat) : (memS M).shows i = M i := rfl
theorem look_com {S : MS} {c : CM} (h : S.shows 1 = some c.B) (hw : c.Wf) (ho : c.Ok) : lookE S = 0 ∧ lookC S = c := by
  have hc := cm_B hw ho
  exact ⟨by unfold lookE; rw [h]; exact hc.2, by unfold lookC; rw [h]; dsimp only; rw [if_pos hc.2, hc.1]⟩
theorem look_idle {S : MS} (h : S.shows 1 = some zsec) : lookE S = 0 ∧ lookC S = ⟨0, 0, 0⟩ := by
  have hc := cm_zero
  exact ⟨by unfold lookE; rw [h]; exact hc.2, by unfold lookC; rw [h]; dsimp only; rw [if_pos hc.2, hc.1]⟩
theorem look_slots {S : MS} {g : Int} {L : List SH} (hE : lookE S = 0) (hc : ChP g L) (hs : ∀ (k : Nat) (s : SH), L[k]? = some s → S.shows (2 + k) = some s.B) (hf : ∀ k, L.length ≤ k → k < 16 → S.shows (2 + k) = some zsec) : lookL S = L := by
  unfold lookL
  rw [if_pos hE]
  exact slotL_all (g := g) (fun s h => (hc.wf s h).2.2.2) (fun k s h => shAt_B (hs k s h) (hc.wf s (List.mem_of_getElem? h)).1 (hc.wf s (List.mem_of_getElem? h)).2.1) (fun h => shAt_zero (hf _ (Nat.le_refl _) h)) (by have := hc.few; omega)
theorem chP_nil {g : Int} (hg : genI g) : ChP g [] := ⟨by simp, fun s h => (by cases h), fun i k s t h => (by simp at h), hg⟩
end Go.Proofs.YtkfdcdfaikkneaaGreatDoor
