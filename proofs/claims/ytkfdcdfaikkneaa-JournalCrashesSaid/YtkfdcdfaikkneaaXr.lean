/- Journal, plain: a change step by step, and what a crash leaves of it. No program is named here. -/
import Derived.Test.YtkfdcdfaikkneaaXl
namespace Go.Proofs.Ytkfdcdfaikkneaa
open Go.ChangeShapes Go.WideShapes Go.ChangeAt Go.RowKit Go.Shelf
set_option linter.unusedVariables false
set_option linter.unusedSimpArgs false

/-- Behind k steps. -/
def seqM (g : Int) (L : List SH) (M : Nat → Option (List Int)) : Nat → Nat → Option (List Int)
  | 0 => M
  | k + 1 => applyW (seqM g L M k) (stepW k g L)
def EqH (f g : Nat → List Int) : Prop := ∀ k, k < 6 → f k = g k
theorem EqH.hom {f g : Nat → List Int} (h : EqH f g) : homL f 6 = homL g 6 := by
  unfold homL
  exact List.map_congr_left fun k hk => by rw [h k (List.mem_range.1 hk)]
theorem putH_out : ∀ (L : List SH) (f : Nat → List Int) (k : Nat), (∀ s, s ∈ L → s.st.toNat ≠ k) → putH f L k = f k
  | [], _, _, _ => rfl
  | s :: r, f, k, h => by
    show putH (fun k => if k = s.st.toNat then s.B else f k) r k = f k
    rw [putH_out r _ k (fun t ht => h t (List.mem_cons_of_mem _ ht))]
    exact if_neg (fun e => h s (List.mem_cons_self ..) e.symm)
theorem putH_same : ∀ (L : List SH) (f g : Nat → List Int) (k : Nat), (f k = g k ∨ ∃ s, s ∈ L ∧ s.st.toNat = k) → putH f L k = putH g L k
  | [], _, _, _, h => h.elim (fun h => h) (fun ⟨s, h, _⟩ => by cases h)
  | s :: r, f, g, k, h => by
    show putH (fun k => if k = s.st.toNat then s.B else f k) r k = putH (fun k => if k = s.st.toNat then s.B else g k) r k
    by_cases e : k = s.st.toNat
    · exact putH_same r _ _ k (.inl (by simp [e]))
    · refine putH_same r _ _ k ?_
      rcases h with h | ⟨t, ht, e2⟩
      · exact .inl (by simp [e, h])
      · rcases List.mem_cons.1 ht with rfl | ht
        · exact absurd e2.symm e
        · exact .inr ⟨t, ht, e2⟩
theorem seq4 {M : Nat → Option (List Int)} {c : List Int} {H : Nat → List Int} {g : Int} {L : List SH} (h : Std M c [] H) (hc : ChP g L) :
    Std (seqM g L M 1) c L H ∧ Std (seqM g L M 2) (CM.B ⟨1, (L.length : Nat), g⟩) L H ∧ Std (seqM g L M 3) (CM.B ⟨1, (L.length : Nat), g⟩) L (putH H L) ∧ Std (seqM g L M 4) (CM.B ⟨2, 0, g⟩) [] (putH H L) := by
  have h1 := h.stage hc
  have h2 := h1.mark hc
  have h3 := h2.apply hc
  exact ⟨h1, h2, h3, h3.clear hc⟩
/-- What stands behind a crash. -/
def CrashP (k : Nat) (c0 : CM) (g : Int) (L : List SH) (H : Nat → List Int) (M' : Nat → Option (List Int)) : Prop :=
  ∃ (c : CM) (H' : Nat → List Int), M' 1 = some c.B ∧ (∀ i, i < 6 → M' (18 + i) = some (H' i)) ∧
    ((k = 4 ∧ c = ⟨2, 0, g⟩ ∧ Std M' c.B [] H' ∧ EqH H' (putH H L)) ∨
     ((k = 0 ∨ k = 1) ∧ c = c0 ∧ EqH H' H) ∨
     (k = 3 ∧ (c = ⟨1, (L.length : Nat), g⟩ ∨ c = ⟨2, 0, g⟩) ∧ EqH H' (putH H L)) ∨
     ((k = 1 ∨ k = 2) ∧ c = ⟨1, (L.length : Nat), g⟩ ∧ Std M' c.B L H' ∧ EqH (putH H' L) (putH H L)))
theorem crash4 {M : Nat → Option (List Int)} {c0 : CM} {H : Nat → List Int} {g : Int} {L : List SH} (h : Std M c0.B [] H) (hc : ChP g L) : CrashP 4 c0 g L H (seqM g L M 4) := by
  obtain ⟨-, -, -, h4⟩ := seq4 h hc
  exact ⟨⟨2, 0, g⟩, putH H L, h4.com, h4.home, .inl ⟨rfl, rfl, h4, fun _ _ => rfl⟩⟩
theorem crash3 {M M' : Nat → Option (List Int)} {c0 : CM} {H : Nat → List Int} {g : Int} {L : List SH} (h : Std M c0.B [] H) (hc : ChP g L) {k : Nat} (hk : k < 4) (hM : ∀ i, M' i = seqM g L M k i ∨ M' i = seqM g L M (k + 1) i) : CrashP k c0 g L H M' := by
  obtain ⟨h1, h2, h3, h4⟩ := seq4 h hc
  have h0 : Std (seqM g L M 0) c0.B [] H := h
  have hcase : k = 0 ∨ k = 1 ∨ k = 2 ∨ k = 3 := by omega
  rcases hcase with rfl | rfl | rfl | rfl
  · refine ⟨c0, H, ?_, fun i hi => ?_, .inr (.inl ⟨.inl rfl, rfl, fun _ _ => rfl⟩)⟩
    · rcases hM 1 with e | e
      · rw [e]; exact h0.com
      · rw [e]; exact h1.com
    · rcases hM (18 + i) with e | e
      · rw [e]; exact h0.home i hi
      · rw [e]; exact h1.home i hi
  · have hh : ∀ i, i < 6 → M' (18 + i) = some (H i) := fun i hi => by
      rcases hM (18 + i) with e | e
      · rw [e]; exact h1.home i hi
      · rw [e]; exact h2.home i hi
    rcases hM 1 with e | e
    · exact ⟨c0, H, by rw [e]; exact h1.com, hh, .inr (.inl ⟨.inr rfl, rfl, fun _ _ => rfl⟩)⟩
    · have e1 : M' 1 = some (CM.B ⟨1, (L.length : Nat), g⟩) := by rw [e]; exact h2.com
      refine ⟨⟨1, (L.length : Nat), g⟩, H, e1, hh, .inr (.inr (.inr ⟨.inl rfl, rfl, ⟨e1, fun k s hs => ?_, fun k ha hb => ?_, hh⟩, fun _ _ => rfl⟩))⟩
      · rcases hM (2 + k) with e | e
        · rw [e]; exact h1.slot k s hs
        · rw [e]; exact h2.slot k s hs
      · rcases hM (2 + k) with e | e
        · rw [e]; exact h1.free k ha hb
        · rw [e]; exact h2.free k ha hb
  · have e1 : M' 1 = some (CM.B ⟨1, (L.length : Nat), g⟩) := by
      rcases hM 1 with e | e
      · rw [e]; exact h2.com
      · rw [e]; exact h3.com
    have hor : ∀ i, i < 6 → M' (18 + i) = some (H i) ∨ M' (18 + i) = some (putH H L i) := fun i hi => by
      rcases hM (18 + i) with e | e
      · left; rw [e]; exact h2.home i hi
      · right; rw [e]; exact h3.home i hi
    have hh : ∀ i, i < 6 → M' (18 + i) = some ((fun i => (M' (18 + i)).getD []) i) := fun i hi => by
      rcases hor i hi with e | e <;> simp [e]
    refine ⟨⟨1, (L.length : Nat), g⟩, fun i => (M' (18 + i)).getD [], e1, hh, .inr (.inr (.inr ⟨.inr rfl, rfl, ⟨e1, fun k s hs => ?_, fun k ha hb => ?_, hh⟩, fun i hi => ?_⟩))⟩
    · rcases hM (2 + k) with e | e
      · rw [e]; exact h2.slot k s hs
      · rw [e]; exact h3.slot k s hs
    · rcases hM (2 + k) with e | e
      · rw [e]; exact h2.free k ha hb
      · rw [e]; exact h3.free k ha hb
    · refine putH_same L _ _ i ?_
      by_cases hx : ∃ s, s ∈ L ∧ s.st.toNat = i
      · exact .inr hx
      · have ho : putH H L i = H i := putH_out L H i (fun s hs e => hx ⟨s, hs, e⟩)
        left
        rcases hor i hi with e | e
        · simp [e]
        · simp [e, ho]
  · have hh : ∀ i, i < 6 → M' (18 + i) = some (putH H L i) := fun i hi => by
      rcases hM (18 + i) with e | e
      · rw [e]; exact h3.home i hi
      · rw [e]; exact h4.home i hi
    rcases hM 1 with e | e
    · exact ⟨⟨1, (L.length : Nat), g⟩, putH H L, by rw [e]; exact h3.com, hh, .inr (.inr (.inl ⟨rfl, .inl rfl, fun _ _ => rfl⟩))⟩
    · exact ⟨⟨2, 0, g⟩, putH H L, by rw [e]; exact h4.com, hh, .inr (.inr (.inl ⟨rfl, .inr rfl, fun _ _ => rfl⟩))⟩
/-- How the steps ended ahead of the crash: k of them were done. -/
def EndP (g : Int) (L : List SH) (M : Nat → Option (List Int)) (k : Nat) (S : MS) : Prop :=
  (k = 4 ∧ S = memS (seqM g L M 4)) ∨ (k < 4 ∧ ∃ n, S = ⟨24, seqM g L M k, (stepW k g L).take n, false⟩)
theorem EndP.crash {M : Nat → Option (List Int)} {c0 : CM} {H : Nat → List Int} {g : Int} {L : List SH} (h : Std M c0.B [] H) (hc : ChP g L) {k : Nat} {S : MS} (hE : EndP g L M k S) (ks : List Bool) : ∃ M', S.crash ks = memS M' ∧ CrashP k c0 g L H M' := by
  rcases hE with ⟨rfl, rfl⟩ | ⟨hk, n, rfl⟩
  · exact ⟨seqM g L M 4, rfl, crash4 h hc⟩
  · refine ⟨applyW (seqM g L M k) (keptW ((stepW k g L).take n) ks), rfl, crash3 h hc hk (fun i => ?_)⟩
    exact applyW_or (stepW_one hc) (fun x hx => List.mem_of_mem_take (keptW_sub _ _ hx)) i
end Go.Proofs.Ytkfdcdfaikkneaa
