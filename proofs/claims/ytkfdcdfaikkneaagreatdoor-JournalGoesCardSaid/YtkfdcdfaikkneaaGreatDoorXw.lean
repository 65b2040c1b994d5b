/- Journal, plain: what JournalGoes asks besides: sector 0, a share's home. No program is named here but by what it tells. -/
import Derived.Test.YtkfdcdfaikkneaaGreatDoorXl
import Derived.Test.YtkfdcdfaikkneaaGreatDoorXu
import Derived.Test.YtkfdcdfaikkneaaGreatDoorXv
namespace Go.Proofs.YtkfdcdfaikkneaaGreatDoor
open Go.ChangeShapes Go.WideShapes Go.ChangeAt Go.RowKit Go.Shelf
set_option linter.unusedVariables false
set_option linter.unusedSimpArgs false

/-- Behind k steps. -/
def seqG (g : Int) (L : List SH) (M : Nat → Option (List Int)) : Nat → Nat → Option (List Int)
  | 0 => M
  | k + 1 => applyW (seqG g L M k) (stepW k g L)
theorem seqG4 {M : Nat → Option (List Int)} {c : List Int} {H : Nat → List Int} {g : Int} {L : List SH} (h : Std M c [] H) (hc : ChP g L) :
    Std (seqG g L M 1) c L H ∧ Std (seqG g L M 2) (CM.B ⟨1, (L.length : Nat), g⟩) L H ∧ Std (seqG g L M 3) (CM.B ⟨1, (L.length : Nat), g⟩) L (putH H L) ∧ Std (seqG g L M 4) (CM.B ⟨2, 0, g⟩) [] (putH H L) := by
  have h1 := h.stage hc
  have h2 := h1.mark hc
  have h3 := h2.apply hc
  exact ⟨h1, h2, h3, h3.clear hc⟩
theorem stepW_0 {i : Nat} {g : Int} {L : List SH} : ∀ x, x ∈ stepW i g L → x.1 ≠ 0 := fun x hx => by
  unfold stepW at hx
  split at hx
  · obtain ⟨k, s, h1, rfl⟩ := wsOf_mem hx
    show 2 + (0 + k) ≠ 0
    omega
  · split at hx
    · rw [List.mem_singleton.1 hx]; show 1 ≠ 0; omega
    · split at hx
      · obtain ⟨k, s, h1, rfl⟩ := wsOf_mem hx
        show 18 + s.st.toNat ≠ 0
        omega
      · rcases List.mem_append.1 hx with h1 | h1
        · obtain ⟨k, hk, rfl⟩ := List.mem_map.1 h1
          show 2 + k ≠ 0
          omega
        · rw [List.mem_singleton.1 h1]; show 1 ≠ 0; omega
theorem seqG_0 (g : Int) (L : List SH) (M : Nat → Option (List Int)) : ∀ k, seqG g L M k 0 = M 0
  | 0 => rfl
  | k + 1 => (applyW_out stepW_0).trans (seqG_0 g L M k)
theorem putH_off : ∀ (L : List SH) (f : Nat → List Int) (k : Nat), (∀ s, s ∈ L → s.st.toNat ≠ k) → putH f L k = f k
  | [], _, _, _ => rfl
  | s :: r, f, k, h => by
    show putH (fun k => if k = s.st.toNat then s.B else f k) r k = f k
    rw [putH_off r _ k (fun t ht => h t (List.mem_cons_of_mem _ ht))]
    exact if_neg (fun e => h s (List.mem_cons_self ..) e.symm)
theorem putH_at : ∀ (L : List SH) (f : Nat → List Int) (k : Nat) (b : List Int), (∀ t, t ∈ L → t.st.toNat = k → t.B = b) → (∃ t, t ∈ L ∧ t.st.toNat = k) → putH f L k = b
  | [], _, _, _, _, h => by obtain ⟨t, ht, _⟩ := h; cases ht
  | s :: r, f, k, b, h1, h2 => by
    show putH (fun k => if k = s.st.toNat then s.B else f k) r k = b
    by_cases hr : ∃ t, t ∈ r ∧ t.st.toNat = k
    · exact putH_at r _ k b (fun t ht => h1 t (List.mem_cons_of_mem _ ht)) hr
    · rw [putH_off r _ k (fun t ht e => hr ⟨t, ht, e⟩)]
      obtain ⟨t, ht, e⟩ := h2
      rcases List.mem_cons.1 ht with rfl | ht
      · rw [if_pos e.symm]; exact h1 t (List.mem_cons_self ..) e
      · exact absurd ⟨t, ht, e⟩ hr
theorem putH_mem {g : Int} {L : List SH} (hc : ChP g L) {s : SH} (hs : s ∈ L) (f : Nat → List Int) : putH f L s.st.toNat = s.B := by
  refine putH_at L f _ _ (fun t ht e => ?_) ⟨s, hs, rfl⟩
  obtain ⟨i, hi⟩ := List.mem_iff_getElem?.1 hs
  obtain ⟨k, hk⟩ := List.mem_iff_getElem?.1 ht
  have h1 := (hc.wf s hs).1.st
  have h2 := (hc.wf t ht).1.st
  have := hc.one i k s t hi hk (by omega)
  subst this
  rw [hi] at hk; cases hk; rfl
theorem home_of {M : Nat → Option (List Int)} {cb : List Int} {H : Nat → List Int} {g : Int} {L : List SH} (h : Std M cb [] (putH H L)) (hc : ChP g L) {s : SH} (hs : s ∈ L) : hoZ (memS M) s.st = s ∧ hoE (memS M) s.st = 0 := by
  obtain ⟨hw, ho, h6, _⟩ := hc.wf s hs
  have h0 := hw.st
  have hn : ¬ noHome (memS M) s.st = true := by
    unfold noHome memS
    simp
    omega
  have hh : (memS M).shows (18 + s.st.toNat) = some s.B := by
    rw [memS_shows, h.home _ (by omega), putH_mem hc hs]
  have hA := shAt_B hh hw ho
  unfold hoZ hoE
  rw [if_neg hn, if_neg hn]
  rcases shAt_E (memS M) (18 + s.st.toNat) with ⟨e1, e2⟩ | ⟨_, e2⟩
  · rw [hA] at e2
    exact ⟨(Option.some.inj e2).symm, e1⟩
  · rw [hA] at e2; cases e2
theorem js_none {M : Nat → Option (List Int)} (h : M 0 = some zsec) : jsE (memS M) = 16 ∧ jsZ (memS M) = suZ := by
  have f : flE (memS M) 0 = 16 := by
    unfold flE
    rw [memS_shows, h]
    exact if_pos zeroL_zsec
  unfold jsE jsZ
  rw [f, if_neg (by decide), if_neg (by decide)]
  exact ⟨rfl, rfl⟩
theorem su_okJ {P : SU} (hP : P.Wf) (h : P.Ok) : P.B.length = 512 ∧ psuZ P.B = P ∧ psuE P.B = 0 := by
  have hl : P.B.length = 512 := szL_len (by rw [List.length_append, SU.H_len hP, List.length_take, shaL_len]; decide)
  have hr : psuR P.B = P := psu_R hP
  have := psu_yes (b := P.B) hl (by rw [hr]; exact ⟨if_pos h, if_pos h⟩)
  rw [hr] at this
  exact ⟨hl, this⟩
theorem SU.B_nz {P : SU} (hP : P.Wf) (h : P.Ok) : zeroL P.B = false := by
  refine zeroL_false (k := 0) ?_ ?_
  · rw [(su_okJ hP h).1]; decide
  · unfold SU.B szL SU.H; simp
theorem js_put {M : Nat → Option (List Int)} {P : SU} (hP : P.Wf) (h : P.Ok) : jsE (putSU M P) = 0 ∧ jsZ (putSU M P) = P := by
  have hz := SU.B_nz hP h
  have hsh : (putSU M P).shows 0 = some P.B := by unfold putSU; rw [if_pos h]; rfl
  have f1 : flE (putSU M P) 0 = 0 := by
    unfold flE
    rw [hsh]
    exact if_neg (by rw [hz]; decide)
  have f2 : flB (putSU M P) 0 = P.B := by
    unfold flB
    rw [hsh]
    exact if_neg (by rw [hz]; decide)
  unfold jsE jsZ
  rw [f1, if_pos rfl, if_pos rfl, f2]
  exact ⟨(su_okJ hP h).2.2, (su_okJ hP h).2.1⟩
theorem putSU_down (M : Nat → Option (List Int)) (P : SU) : (putSU M P).down = false := by unfold putSU; split <;> rfl
theorem putSU_no {M : Nat → Option (List Int)} {P : SU} (h : ¬ P.Ok) : putSU M P = memS M := if_neg h
end Go.Proofs.YtkfdcdfaikkneaaGreatDoor
