/- Contracts of code's Glue. -/
import Derived.Test.YtmhjpdppippgkaaYe
namespace Go.Proofs.Ytmhjpdppippgkaa
open Go.ChangeShapes Go.WideShapes Go.ChangeAt Go.RowKit Go.Shelf GF
set_option linter.unusedVariables false
set_option linter.unusedSimpArgs false
set_option maxRecDepth 100000

theorem Pa.takeN {w : World} {a : Option Addr} {L c : Nat} {P : List GF} (h : Pa w a L c P) {k : Nat} (hk : k ≤ L) : Pa w a k c (P.take k) := by
  have hl := h.len
  have hc := h.1.2.2.2
  refine ⟨⟨by rw [length_iL, List.length_take]; omega, allB_iL _, fun h0 => ?_, by omega, hc.2⟩, h.2⟩
  rw [length_iL, List.length_take] at h0
  obtain ⟨b, off, e, hb, hcl⟩ := h.1.2.2.1 (by rw [length_iL]; omega)
  refine ⟨b, off, e, hb, fun i hi => ?_⟩
  rw [length_iL, List.length_take] at hi
  have := hcl i (by rw [length_iL]; omega)
  rw [getD_iL] at this
  rw [getD_iL, co_take (by omega), ← this]
theorem flat_next {R : List (List GF)} {k : Nat} (h : k < R.length) : flat (R.take (k + 1)) = flat (R.take k) ++ rw_ R k := by
  unfold flat rw_
  rw [List.take_add_one, List.getElem?_eq_getElem h, List.flatten_append]
  simp [List.getD_eq_getElem?_getD, h]
/-- What is glued of the first k parts. -/
def gluC (R : List (List GF)) (s k : Nat) : List GF := (flat (R.take k)).take s
theorem gluC_next {R : List (List GF)} {k : Nat} (h : k < R.length) (s : Nat) : gluC R s (k + 1) = gluC R s k ++ (rw_ R k).take (s - (gluC R s k).length) := by
  unfold gluC
  rw [flat_next h, List.take_append, List.length_take]
  congr 2
  omega
theorem gluC_le (R : List (List GF)) (s k : Nat) : (gluC R s k).length ≤ s := by unfold gluC; rw [List.length_take]; exact Nat.min_le_left _ _
theorem gluC_zero (R : List (List GF)) (s : Nat) : gluC R s 0 = [] := by simp [gluC, flat]
theorem gluC_bd {R : List (List GF)} {t : Nat} (hR : R.length = t) (hw : ∀ k, k < t → (rw_ R k).length ≤ 1000) (s : Nat) : ∀ k, k ≤ t → (gluC R s k).length ≤ k * 1000 := by
  intro k
  induction k with
  | zero => intro _; rw [gluC_zero]; simp
  | succ k ih =>
    intro hk
    rw [gluC_next (by omega), List.length_append, List.length_take]
    have h1 := ih (by omega)
    have h2 := hw k (by omega)
    have := Nat.min_le_right (s - (gluC R s k).length) (rw_ R k).length
    omega
set_option maxHeartbeats 2000000 in
theorem glue_any (t s : Nat) (aR : Option Addr) (cR : Nat) (R : List (List GF)) (w : World) (hR : Mat w aR t cR R) (hs : s ≤ 9223372036854775807) (ht : t ≤ 255) (hw : ∀ k, k < t → (rw_ R k).length ≤ 1000) :
    Calls Try.prog 19 #[.slice aR t cR, .int .i64 (s : Nat)] w fun e w' => ∃ a' n' c' er, e = .returned (.tuple #[.slice a' n' c', .int .i64 er]) ∧ ((s ≤ (flat R).length → er = 0 ∧ n' = s ∧ Pa w' a' s c' ((flat R).take s)) ∧ ((flat R).length < s → er = 2 ∧ n' = 0)) ∧ Below w.heap.size w w' := by
  obtain ⟨i5, hi, hz0, hz1, hz2⟩ := info_parts info5
  have HI := Lib.hid (And.intro hi (And.intro hz0 (And.intro hz1 hz2)))
  have HR := Lib.hid hR
  have HL := Lib.hid hR.len
  have HW := Lib.hid hw
  have HT := Lib.hid ht
  have hbd := hR.bd
  have qs : (0 : Int) ≤ (s : Int) := by omega
  have qs2 : (s : Int) ≤ 9223372036854775807 := by omega
  have HG := Lib.hid (gluC_bd hR.len hw s)
  have HO0 := Lib.hid (own_emptyG w 5)
  have HB0 := Lib.hid (show Below w.heap.size w (w.alloc (.cells #[] 5)) from (Below.refl _ _).alloc (Nat.le_refl _) _)
  clear hi hz0 hz1 hz2 hR hw ht hs
  go_enter Try.func19, Try.ntmps19
  go_wp2
  go_loopw [6, 14] (fun o j wr => ∃ (k m : Nat) (a : Option Addr) (c : Nat), k ≤ t ∧ j = .int .i64 (k : Nat) ∧ o = .slice a m c ∧ Hid (m = (gluC R s k).length) ∧ Hid (wr.ownsRow w.heap.size 5 1 (.slice a m c) m ((iL (gluC R s k)).map (Value.int .u8))) ∧ Hid (Below w.heap.size w wr))
    (fun _ j _ => t - (intOf j).toNat)
  case atStart => exact ⟨0, 0, _, 0, Nat.zero_le _, rfl, rfl, Lib.hid (by rw [gluC_zero]; rfl), by rw [gluC_zero]; exact HO0, HB0⟩
  case round =>
    obtain ⟨k, m, a, c, hk, rfl, rfl, HM, HO, HB⟩ := hrel
    rename World => V
    have hms : m ≤ s := by rw [HM.out]; exact gluC_le _ _ _
    have hmb : m ≤ 255000 := by have := HG.out k hk; rw [← HM.out] at this; have := HT.out; omega
    have hmc : m ≤ c ∧ c ≤ 9223372036854775807 := by
      rcases HO.out.2 with ⟨e, h0⟩ | ⟨g, c', cur, e, _, _, h4, h5, _⟩
      · cases e; omega
      · cases e; exact ⟨h4, by unfold maxLen at h5; omega⟩
    by_cases hlt : k < t
    · have q2 : (k : Int) < (t : Int) := by omega
      have q3 : (0 : Int) ≤ (k : Int) := by omega
      obtain ⟨b, off, ai, ci, rfl, hb, hcell, hpa⟩ := (HR.out.on HB.out).row hlt
      have hd1 := hpa.bd
      have HN := Lib.hid (gluC_next (R := R) (k := k) (by rw [HL.out]; exact hlt) s)
      have hl1 := HW.out k hlt
      obtain ⟨L, hL⟩ : ∃ L, L = (rw_ R k).length := ⟨_, rfl⟩
      have HLL := Lib.hid hL
      rw [← hL] at hcell hd1 hpa hl1
      rw [← HM.out] at HN
      obtain ⟨d, hd⟩ : ∃ d, d = s - m := ⟨_, rfl⟩
      have qd : (s : Int) - (m : Int) = (d : Int) := by omega
      rw [← hd] at HN
      have HKL := Lib.hid hlt
      have HMB := Lib.hid hmb
      by_cases hx : d < L
      · have qx : (d : Int) < (L : Int) := by omega
        have qx0 : (0 : Int) ≤ (d : Int) := by omega
        have HPX := Lib.hid (hpa.takeN (k := d) (by omega))
        have HDB := Lib.hid (show d ≤ 1000 by omega)
        have HDC := Lib.hid (show d ≤ ci by omega)
        clear hpa hx hlt hk hd hL hms hmb hl1
        go_wp2_with ((with_reducible show wpList _ _ _ (⟨some 28, _, _, _, _, _⟩ :: _) _ _); go_loud (refine wpList_append_bs _ rfl (.tmp 18) (.tmp 27) 23 rfl w.heap.size 5 i5 Try.underlying23 HI.out.1 HI.out.2.1 HI.out.2.2.1 HI.out.2.2.2 _ m (iL (gluC R s k)) rfl HO.out ai d ci _ (iL ((rw_ R k).take d)) rfl HPX.out.1.2.2.1 HPX.out.1.1 HPX.out.2 (by have := HMB.out; have := HDB.out; omega) (by have := HB.out.size; omega) ?_; intro v2 V2 hown2 hg2; have hb2 := HB.out.grown hg2 HB.out.size (fun z hz => (HO.out.lt z hz).1); obtain ⟨a2, c2, hv2, _, _, _, _, _⟩ := own_form hown2; subst hv2; rw [show iL (gluC R s k) ++ iL ((rw_ R k).take d) = iL (gluC R s k ++ (rw_ R k).take d) by simp [iL], ← HN.out] at hown2; have HO2 := Lib.hid hown2; have HB2 := Lib.hid hb2; clear hown2 hg2 hb2))
        go_roundw
        case rel => exact ⟨k + 1, m + d, a2, c2, HKL.out, by go_num, rfl, Lib.hid (by have := HO2.out.1; rw [List.length_map, length_iL] at this; omega), HO2, HB2⟩
        case measure => simp [intOf]; have := HKL.out; omega
      · have qx : ¬ (d : Int) < (L : Int) := by omega
        have qx0 : (0 : Int) ≤ (L : Int) := by omega
        have HPX := Lib.hid hpa
        have HDB := Lib.hid hl1
        rw [show (rw_ R k).take d = rw_ R k from List.take_of_length_le (by rw [← hL]; omega)] at HN
        clear hpa hx hlt hk hd hL hms hmb hl1
        go_wp2_with ((with_reducible show wpList _ _ _ (⟨some 28, _, _, _, _, _⟩ :: _) _ _); go_loud (refine wpList_append_bs _ rfl (.tmp 18) (.tmp 27) 23 rfl w.heap.size 5 i5 Try.underlying23 HI.out.1 HI.out.2.1 HI.out.2.2.1 HI.out.2.2.2 _ m (iL (gluC R s k)) rfl HO.out ai L ci _ (iL (rw_ R k)) rfl HPX.out.1.2.2.1 HPX.out.1.1 HPX.out.2 (by have := HMB.out; have := HDB.out; omega) (by have := HB.out.size; omega) ?_; intro v2 V2 hown2 hg2; have hb2 := HB.out.grown hg2 HB.out.size (fun z hz => (HO.out.lt z hz).1); obtain ⟨a2, c2, hv2, _, _, _, _, _⟩ := own_form hown2; subst hv2; rw [show iL (gluC R s k) ++ iL (rw_ R k) = iL (gluC R s k ++ rw_ R k) by simp [iL], ← HN.out] at hown2; have HO2 := Lib.hid hown2; have HB2 := Lib.hid hb2; clear hown2 hg2 hb2))
        go_roundw
        case rel => exact ⟨k + 1, m + L, a2, c2, HKL.out, by go_num, rfl, Lib.hid (by have := HO2.out.1; rw [List.length_map, length_iL] at this; omega), HO2, HB2⟩
        case measure => simp [intOf]; have := HKL.out; omega
    · obtain rfl : k = t := by omega
      have HE := Lib.hid (show gluC R s k = (flat R).take s by unfold gluC; rw [List.take_of_length_le (l := R) (by rw [HL.out]; exact Nat.le_refl _)])
      have HEL := Lib.hid (show m = min s (flat R).length by rw [HM.out, HE.out, List.length_take])
      by_cases hf : s ≤ (flat R).length
      · have hm : m = s := by rw [HEL.out]; exact Nat.min_eq_left hf
        subst hm
        have HF := Lib.hid hf
        have HO2 := HO.out
        rw [HE.out] at HO2
        obtain ⟨a9, c9, e9, hp9, _⟩ := Pa.own HO2
        cases e9
        have HP := Lib.hid hp9
        have q9 : ¬ (m : Int) < (m : Int) := by omega
        clear hlt hf HO2 hp9
        go_wp2
        go_ret2
        exact ⟨_, _, _, _, rfl, ⟨fun _ => ⟨rfl, rfl, HP.out⟩, fun h => absurd HF.out (by omega)⟩, HB.out⟩
      · have hm : m < s := by rw [HEL.out]; omega
        have q9 : (m : Int) < (s : Int) := by omega
        have HF := Lib.hid hf
        clear hlt hf
        go_wp2
        go_ret2
        exact ⟨_, _, _, _, rfl, ⟨fun h => absurd h HF.out, fun _ => ⟨rfl, rfl⟩⟩, HB.out⟩
theorem glueC : GlueC := fun t s aR cR R w hR hs ht hw => by
  have hb : (flat R).length ≤ 255000 := by
    have := gluC_bd hR.len hw (flat R).length t (Nat.le_refl _)
    rw [show gluC R (flat R).length t = flat R by unfold gluC; rw [List.take_of_length_le (l := R) (by rw [hR.len]; exact Nat.le_refl _), List.take_of_length_le (Nat.le_refl _)]] at this
    omega
  refine (glue_any t s aR cR R w hR (by omega) ht hw).mono ?_
  rintro e w' ⟨a', n', c', er, rfl, ⟨h1, _⟩, hb⟩
  obtain ⟨rfl, rfl, hp⟩ := h1 hs
  exact ⟨a', c', rfl, hp, hb⟩
theorem glueBadC : GlueBadC := by
  intro t s aR cR R w hR hwf hs ht hw
  by_cases h0 : s < 0
  · have hbd := hR.bd
    clear hR hs hw
    go_enter Try.func19, Try.ntmps19
    go_wp2
    go_ret2
    exact ⟨_, _, rfl, Below.refl _ _⟩
  · obtain ⟨S, rfl⟩ : ∃ S : Nat, s = (S : Int) := ⟨s.toNat, by omega⟩
    have := i64_any hwf
    refine (glue_any t S aR cR R w hR (by omega) ht hw).mono ?_
    rintro e w' ⟨a', n', c', er, rfl, ⟨_, h1⟩, hb⟩
    obtain ⟨rfl, rfl⟩ := h1 (by omega)
    exact ⟨a', c', rfl, hb⟩
end Go.Proofs.Ytmhjpdppippgkaa
