/- Contracts of mend's Radius, checked, uneven; of slices.Equal at bytes, slices.Clone at whole numbers. -/
import Derived.Test.YtfmjfdbbjggcpaaRj
namespace Go.Proofs.Ytfmjfdbbjggcpaa
open Go.ChangeShapes Go.WideShapes Go.ChangeAt Go.RowKit Go.Shelf GF
set_option linter.unusedVariables false
set_option linter.unusedSimpArgs false
set_option maxRecDepth 100000

/-! ## Radius -/
theorem radius_any (m t : Nat) (w : World) (hm : m ≤ 1000) (ht : t ≤ 1000) : Calls Try.prog 19 #[.int .i64 (m : Nat), .int .i64 (t : Nat)] w fun r w' => r = .returned (.int .i64 (((m - t) / 2 : Nat) : Int)) ∧ w = w' := by
  by_cases h : m < t
  · have q : (m : Int) < (t : Int) := by omega
    have e : (m - t) / 2 = 0 := by omega
    have E := Lib.hid e
    clear e h
    go_enter Try.func19, Try.ntmps19
    go_wp2
    go_ret
    exact ⟨by rw [E.out]; rfl, rfl⟩
  · have q : ¬ (m : Int) < (t : Int) := by omega
    obtain ⟨d, hd⟩ : ∃ d, d = m - t := ⟨_, rfl⟩
    have qd : (m : Int) - (t : Int) = (d : Int) := by omega
    have qq : Int.tdiv (d : Int) 2 = ((d / 2 : Nat) : Int) := by rw [Int.tdiv_eq_ediv_of_nonneg (by omega)]; omega
    obtain ⟨r, hr⟩ : ∃ r, r = d / 2 := ⟨_, rfl⟩
    rw [← hr] at qq
    have qr : (r : Int) ≤ 1000 := by omega
    have qd2 : (d : Int) ≤ 1000 := by omega
    have E := Lib.hid (show ((m - t : Nat) : Int) / 2 = (r : Int) by rw [hr, hd]; rfl)
    clear h hd hr
    go_enter Try.func19, Try.ntmps19
    go_wp2
    go_ret
    exact ⟨by rw [E.out]; rfl, rfl⟩

/-! ## checked -/
set_option maxHeartbeats 2000000 in
theorem mchk_any (b L K : Nat) (t e : Int) (aX : Option Addr) (cX : Nat) (X : List GF) (w : World) (hf : Fld w b) (hX : Pa w aX L cX X) :
    Calls Try.prog 20 #[.pointer (some ⟨b, 0, none⟩), .int .i64 t, .slice aX L cX, .int .i64 (K : Nat), .int .i64 e] w fun r w' => r = .returned (.int .i64 (colErr X K t e)) ∧ Below w.heap.size w w' := by
  have hl := hX.len
  have hcap := hX.bd
  by_cases h1 : L = K
  · subst h1
    by_cases h2 : t < 1 ∨ 255 < t ∨ e < 0
    · have E := Lib.hid (show colErr X L t e = 2 by unfold colErr; rw [if_neg (by omega), if_pos h2])
      clear hf hX hl
      by_cases h3 : t < 1
      · clear h2
        go_enter Try.func20, Try.ntmps20
        go_wp2
        go_ret
        exact ⟨by rw [E.out]; rfl, Below.refl _ _⟩
      · by_cases h4 : 255 < t
        · clear h2
          go_enter Try.func20, Try.ntmps20
          go_wp2
          go_ret
          exact ⟨by rw [E.out]; rfl, Below.refl _ _⟩
        · have h5 : e < 0 := by omega
          clear h2
          go_enter Try.func20, Try.ntmps20
          go_wp2
          go_ret
          exact ⟨by rw [E.out]; rfl, Below.refl _ _⟩
    · have h3 : ¬ t < 1 := by omega
      have h4 : ¬ 255 < t := by omega
      have h5 : ¬ e < 0 := by omega
      by_cases h6 : (L : Int) < t
      · have E := Lib.hid (show colErr X L t e = 5 by unfold colErr; rw [if_neg (by omega), if_neg h2, if_pos (by rw [hl]; exact h6)])
        clear hf hX hl h2
        go_enter Try.func20, Try.ntmps20
        go_wp2
        go_ret
        exact ⟨by rw [E.out]; rfl, Below.refl _ _⟩
      · have E := Lib.hid (show colErr X L t e = plErr X by unfold colErr; rw [if_neg (by omega), if_neg h2, if_neg (by rw [hl]; exact h6)])
        have HW : Hid (Calls Try.prog 37 #[.pointer (some ⟨b, 0, none⟩), .slice aX L cX, .int .u8 0] w fun e w' => ∃ (a : Option Addr) (n c : Nat), e = .returned (.tuple #[.slice a n c, .int .i64 (plErr X)]) ∧ Below w.heap.size w w') := by
          refine Lib.hid ?_
          have z : toI (0 : GF) = 0 := rfl
          by_cases h0 : plErr X = 0
          · have h := weights_any b aX L cX X 0 w hf hX h0
            rw [z] at h
            exact h.mono fun e w' ⟨g, h1, _, h3⟩ => ⟨some ⟨g, 0, none⟩, L, L, by rw [h0]; exact h1, h3⟩
          · have h := weights_bad b aX L cX X 0 w hX h0
            rw [z] at h
            exact h.mono fun e w' ⟨h1, h3⟩ => ⟨none, 0, 0, h1, h3⟩
        generalize plErr X = er at E HW
        clear hf hX hl h2
        go_enter Try.func20, Try.ntmps20
        go_wp2_with (go_at_call 37; go_loud (refine HW.out.mono ?_; rintro e w1 ⟨a, n, c, rfl, hb1⟩; have HB1 := Lib.hid hb1; clear hb1))
        go_ret
        exact ⟨by rw [E.out]; rfl, HB1.out⟩
  · have q1 : ((L : Int) != (K : Int)) = true := by rw [bne_iff_ne]; omega
    have E := Lib.hid (show colErr X K t e = 1 by unfold colErr; rw [if_pos (by rw [hl]; exact h1)])
    clear hf hX hl h1
    go_enter Try.func20, Try.ntmps20
    go_wp2
    go_ret
    exact ⟨by rw [E.out]; rfl, Below.refl _ _⟩

theorem mlitOne (w : World) (v : Value) (e : TypeId) : (w.alloc (.cells #[v] e)).cell? ⟨w.heap.size, 0, none⟩ = some v := by simp
/-- uneven's function value: has the row another length than the first one? -/
theorem munev1_any (Bx : Nat) (ai : Option Addr) (m ci N cR m0 : Nat) (a0 : Option Addr) (c0 : Nat) (b off : Nat) (W : World) (r : Bool) (hx : W.cell? ⟨Bx, 0, none⟩ = some (.slice (some ⟨b, off, none⟩) N cR)) (h0 : W.cell? ⟨b, off, none⟩ = some (.slice a0 m0 c0)) (hN : 0 < N) (hb1 : N ≤ cR ∧ cR ≤ 9223372036854775807) (hb2 : m ≤ ci ∧ ci ≤ 9223372036854775807) (hb3 : m0 ≤ c0 ∧ c0 ≤ 9223372036854775807) (hr : ((m : Int) != (m0 : Int)) = r) :
    Calls Try.prog 51 #[.slice ai m ci, .pointer (some ⟨Bx, 0, none⟩)] W fun e w' => e = .returned (.bool r) ∧ W = w' := by
  have q0 : (0 : Int) < (N : Int) := by omega
  subst hr
  go_enter Try.func51, Try.ntmps51
  go_wp2
  go_ret
  exact ⟨rfl, rfl⟩
/-- The first j rows are as long as the first one; the next, if there is one, is not. -/
theorem munevIdx (Bx : Nat) (aR : Option Addr) (N cR : Nat) (R : List (List GF)) (j : Nat) (w : World) (hx : w.cell? ⟨Bx, 0, none⟩ = some (.slice aR N cR)) (hR : Mat w aR N cR R) (hw : ∀ k, k < N → (rw_ R k).length ≤ 1000) (hj : j ≤ N) (hz : ∀ i, i < j → (rw_ R i).length = (rw_ R 0).length) (hn : j < N → (rw_ R j).length ≠ (rw_ R 0).length) :
    Calls Try.prog 61 #[.slice aR N cR, .func (.func 51) #[] #[.pointer (some ⟨Bx, 0, none⟩)]] w fun e w' => e = .returned (.int .i64 (if j < N then (j : Int) else -1)) ∧ w = w' := by
  have HR := Lib.hid hR
  have HX := Lib.hid hx
  have HW := Lib.hid hw
  have HZ := Lib.hid hz
  have HN := Lib.hid hn
  have hbd := hR.bd
  clear hR hw hz hn hx
  go_enter Try.func61, Try.ntmps61
  go_wp2
  go_loop [8] (fun k => ∃ i : Nat, i ≤ j ∧ i ≤ N ∧ k = .int .i64 (i : Nat)) (fun k => N - (intOf k).toNat)
  case atStart => exact ⟨0, Nat.zero_le _, Nat.zero_le _, rfl⟩
  case round =>
    obtain ⟨i, hi, hiL, rfl⟩ := hrel
    by_cases hlt : i < N
    · have qi : (i : Int) < (N : Int) := by omega
      have qi0 : (0 : Int) ≤ (i : Int) := by omega
      obtain ⟨b, off, ai, ci, rfl, hb, hcell, hpa⟩ := HR.out.row hlt
      obtain ⟨b2, o2, a0, c0, e0, hb0, hc0, hp0⟩ := HR.out.row (i := 0) (by omega)
      cases e0
      rw [Nat.add_zero] at hc0
      have hd1 := hpa.bd
      have hd0 := hp0.bd
      obtain ⟨m, hm⟩ : ∃ m, m = (rw_ R i).length := ⟨_, rfl⟩
      obtain ⟨m0, hm0⟩ : ∃ m, m = (rw_ R 0).length := ⟨_, rfl⟩
      have HM := Lib.hid hm
      have HM0 := Lib.hid hm0
      rw [← hm] at hcell hd1
      rw [← hm0] at hc0 hd0
      clear hpa hp0 hm hm0
      by_cases hij : i < j
      · have HC := Lib.hid (munev1_any Bx ai m ci N cR m0 a0 c0 b off w false HX.out hc0 (by omega) hbd hd1 hd0 (by have := HZ.out i hij; rw [← HM.out, ← HM0.out] at this; subst this; simp))
        clear hc0
        go_wp2_with (go_at_call 51; refine HC.out.mono ?_; rintro e w' ⟨rfl, rfl⟩)
        go_round
        case rel => exact ⟨i + 1, by omega, by omega, by go_num⟩
        case measure => simp [intOf]; omega
      · obtain rfl : j = i := by omega
        have HC := Lib.hid (munev1_any Bx ai m ci N cR m0 a0 c0 b off w true HX.out hc0 (by omega) hbd hd1 hd0 (by have := HN.out hlt; rw [← HM.out, ← HM0.out] at this; rw [bne_iff_ne]; omega))
        clear hc0
        go_wp2_with (go_at_call 51; refine HC.out.mono ?_; rintro e w' ⟨rfl, rfl⟩)
        go_ret
        exact ⟨rfl, rfl⟩
    · obtain rfl : N = i := by omega
      have hjL : j = N := by omega
      have hn0 : ¬ j < N := by omega
      clear hjL
      go_wp2
      go_ret
      exact ⟨rfl, rfl⟩
theorem munevCon (Bx : Nat) (aR : Option Addr) (N cR : Nat) (R : List (List GF)) (j : Nat) (r : Bool) (w : World) (hx : w.cell? ⟨Bx, 0, none⟩ = some (.slice aR N cR)) (hR : Mat w aR N cR R) (hw : ∀ k, k < N → (rw_ R k).length ≤ 1000) (hj : j ≤ N) (hz : ∀ i, i < j → (rw_ R i).length = (rw_ R 0).length) (hn : j < N → (rw_ R j).length ≠ (rw_ R 0).length) (hr : r = decide (j < N)) :
    Calls Try.prog 50 #[.slice aR N cR, .func (.func 51) #[] #[.pointer (some ⟨Bx, 0, none⟩)]] w fun e w' => e = .returned (.bool r) ∧ w = w' := by
  have HI := munevIdx Bx aR N cR R j w hx hR hw hj hz hn
  have hbd := hR.bd
  by_cases h : j < N
  · rw [if_pos h] at HI
    have HH := Lib.hid HI
    have q : (0 : Int) ≤ (j : Int) := by omega
    have Hr := Lib.hid (hr.trans (decide_eq_true h))
    clear hx hR hw hz hn hr HI
    go_enter Try.func50, Try.ntmps50
    go_wp2_with (go_at_call 61; refine HH.out.mono ?_; rintro e w' ⟨rfl, rfl⟩)
    go_ret
    exact ⟨by rw [Hr.out]; rfl, rfl⟩
  · rw [if_neg h] at HI
    have HH := Lib.hid HI
    have Hr := Lib.hid (hr.trans (decide_eq_false h))
    clear hx hR hw hz hn hr HI
    go_enter Try.func50, Try.ntmps50
    go_wp2_with (go_at_call 61; refine HH.out.mono ?_; rintro e w' ⟨rfl, rfl⟩)
    go_ret
    exact ⟨by rw [Hr.out]; rfl, rfl⟩
theorem munev_first (R : List (List GF)) (N : Nat) : ∃ j, j ≤ N ∧ (∀ i, i < j → (rw_ R i).length = (rw_ R 0).length) ∧ (j < N → (rw_ R j).length ≠ (rw_ R 0).length) := by
  induction N with
  | zero => exact ⟨0, Nat.le_refl _, fun i hi => absurd hi (by omega), fun h => absurd h (by omega)⟩
  | succ N ih =>
    obtain ⟨j, h1, h2, h3⟩ := ih
    by_cases h : j < N
    · exact ⟨j, by omega, h2, fun _ => h3 h⟩
    · obtain rfl : j = N := by omega
      by_cases h0 : (rw_ R j).length = (rw_ R 0).length
      · exact ⟨j + 1, Nat.le_refl _, fun k hk => by
          rcases Nat.lt_succ_iff_lt_or_eq.1 hk with h4 | h4
          · exact h2 k h4
          · rw [h4]; exact h0, fun h => absurd h (by omega)⟩
      · exact ⟨j, by omega, h2, fun _ => h0⟩
theorem munev_any (aR : Option Addr) (N cR : Nat) (R : List (List GF)) (r : Bool) (w : World) (hR : Mat w aR N cR R) (hw : ∀ k, k < N → (rw_ R k).length ≤ 1000) (hr : r = true ↔ ∃ i, i < N ∧ (rw_ R i).length ≠ (rw_ R 0).length) :
    Calls Try.prog 33 #[.slice aR N cR] w fun e w' => e = .returned (.bool r) ∧ Below w.heap.size w w' := by
  obtain ⟨j, h1, h2, h3⟩ := munev_first R N
  have hA := (Below.refl w.heap.size w).alloc (Nat.le_refl _) (.cells #[.slice aR N cR] 40)
  have hrr : r = decide (j < N) := by
    rw [Bool.eq_iff_iff, decide_eq_true_eq, hr]
    constructor
    · rintro ⟨i, hi, he⟩
      rcases Nat.lt_or_ge j N with h | h
      · exact h
      · exact absurd (h2 i (by omega)) he
    · exact fun h => ⟨j, h, h3 h⟩
  have HC := Lib.hid (munevCon w.heap.size aR N cR R j r _ (mlitOne w (.slice aR N cR) 40) (hR.on hA) hw h1 h2 h3 hrr)
  have HA := Lib.hid hA
  have hbd := hR.bd
  clear hR hw hr hrr h2 h3 h1 hA
  go_enter Try.func33, Try.ntmps33
  go_wp2_with (go_at_call 50; refine HC.out.mono ?_; rintro e w' ⟨rfl, rfl⟩)
  go_ret
  exact ⟨rfl, HA.out⟩


/-! ## slices.Equal at bytes -/
theorem eqB_any (a1 : Option Addr) (L1 c1 : Nat) (P : List GF) (a2 : Option Addr) (L2 c2 : Nat) (Q : List GF) (r : Bool) (w : World) (h1 : Pa w a1 L1 c1 P) (h2 : Pa w a2 L2 c2 Q) (hr : r = true ↔ L1 = L2 ∧ ∀ k, k < L1 → co P k = co Q k) :
    Calls Try.prog 60 #[.slice a1 L1 c1, .slice a2 L2 c2] w fun e w' => e = .returned (.bool r) ∧ Below w.heap.size w w' := by
  have hb1 := h1.bd
  have hb2 := h2.bd
  by_cases hL : L1 = L2
  · subst hL
    obtain ⟨j, hj, hz, hn⟩ : ∃ j, j ≤ L1 ∧ (∀ k, k < j → co P k = co Q k) ∧ (j < L1 → co P j ≠ co Q j) := by
      clear hr h1 h2 hb1 hb2
      induction L1 with
      | zero => exact ⟨0, Nat.le_refl _, fun k hk => absurd hk (by omega), fun h => absurd h (by omega)⟩
      | succ L ih =>
        obtain ⟨j, h1, h2, h3⟩ := ih
        by_cases h : j < L
        · exact ⟨j, by omega, h2, fun _ => h3 h⟩
        · obtain rfl : j = L := by omega
          by_cases h0 : co P j = co Q j
          · exact ⟨j + 1, Nat.le_refl _, fun k hk => by
              rcases Nat.lt_succ_iff_lt_or_eq.1 hk with h4 | h4
              · exact h2 k h4
              · rw [h4]; exact h0, fun h => absurd h (by omega)⟩
          · exact ⟨j, by omega, h2, fun _ => h0⟩
    have Hr : Hid (r = decide (j = L1)) := Lib.hid (by
      rw [Bool.eq_iff_iff, decide_eq_true_eq, hr]
      exact ⟨fun ⟨_, h⟩ => by
        rcases Nat.lt_or_ge j L1 with h3 | h3
        · exact absurd (h j h3) (hn h3)
        · omega, fun e => ⟨rfl, fun k hk => hz k (by omega)⟩⟩)
    have H1 := Lib.hid h1
    have H2 := Lib.hid h2
    have HZ := Lib.hid hz
    have HN := Lib.hid hn
    clear h1 h2 hr hz hn
    go_enter Try.func60, Try.ntmps60
    go_wp2
    go_loopw [13] (fun i wr => ∃ k : Nat, k ≤ j ∧ i = .int .i64 (k : Nat) ∧ Hid (Below w.heap.size w wr))
      (fun i _ => L1 - (intOf i).toNat)
    case atStart => exact ⟨0, Nat.zero_le _, rfl, Lib.hid (Below.refl _ _)⟩
    case round =>
      obtain ⟨k, hk, rfl, hB⟩ := hrel
      by_cases hlt : k < L1
      · obtain ⟨bx, ox, rfl, hbx, hcx⟩ := (H1.out.on hB.out).at_ hlt
        obtain ⟨by_, oy, rfl, hby, hcy⟩ := (H2.out.on hB.out).at_ hlt
        have q2 : (k : Int) < (L1 : Int) := by omega
        have q3 : (0 : Int) ≤ (k : Int) := by omega
        obtain ⟨u, hu⟩ : ∃ u, u = toI (co P k) := ⟨_, rfl⟩
        obtain ⟨v, hv⟩ : ∃ v, v = toI (co Q k) := ⟨_, rfl⟩
        rw [← hu] at hcx
        rw [← hv] at hcy
        by_cases e : k = j
        · have h0 := HN.out (by omega)
          have q5 : (u != v) = true := by rw [bne_iff_ne, hu, hv]; exact fun h => h0 (by rw [← e]; exact toI_inj h)
          have Q4 := Lib.hid (Hr.out.trans (decide_eq_false (by omega)))
          clear hu hv e h0
          go_wp2
          go_quiet (fail)
          go_wp2
          go_ret
          exact ⟨by rw [Q4.out]; rfl, below_drewN hB.out _⟩
        · have h0 := HZ.out k (by omega)
          have q5 : (u != v) = false := by rw [hu, hv, h0]; simp
          have hk1 : k + 1 ≤ j := by omega
          clear hu hv e h0
          go_wp2
          go_quiet (fail)
          go_wp2
          go_roundw
          case rel => exact ⟨k + 1, hk1, by go_num, Lib.hid (below_drewN hB.out _)⟩
          case measure => simp [intOf]; omega
      · have Q4 := Lib.hid (Hr.out.trans (decide_eq_true (show j = L1 by omega)))
        obtain rfl : L1 = k := by omega
        go_wp2
        go_ret
        exact ⟨by rw [Q4.out]; rfl, hB.out⟩
  · have q1 : ((L1 : Int) != (L2 : Int)) = true := by rw [bne_iff_ne]; omega
    have Hr := Lib.hid (show r = false from Bool.eq_false_iff.2 fun e => hL (hr.1 e).1)
    clear h1 h2 hr hL
    go_enter Try.func60, Try.ntmps60
    go_wp2
    go_ret
    exact ⟨by rw [Hr.out]; rfl, Below.refl _ _⟩

/-! ## slices.Clone at whole numbers -/
theorem eqlI_nil (w : World) : (binOp .eql 47 (.slice none 0 0) (.slice none 0 0)).run Try.prog w = .ok (.bool true) w := rfl
theorem eqlI_some (w : World) (ad : Addr) (n c : Nat) : (binOp .eql 47 (.slice (some ad) n c) (.slice none 0 0)).run Try.prog w = .ok (.bool false) w := rfl
theorem cloneI_any (a : Option Addr) (L cap : Nat) (ps : List Int) (w : World) (hx : IA w a L cap ps) (hL : L ≤ 1000) (hz : ∀ z, z ∈ ps → 0 ≤ z ∧ z < 256) :
    Calls Try.prog 36 #[.slice a L cap] w fun e w' => ∃ a' c', e = .returned (.slice a' L c') ∧ IA w' a' L c' ps ∧ Below w.heap.size w w' := by
  have HX := Lib.hid hx
  have HZ := Lib.hid hz
  have hcap := hx.bd
  clear hx hz
  rcases a with _ | ad
  · obtain rfl : cap = 0 := HX.out.2.2.2.1 rfl
    obtain rfl : L = 0 := by omega
    have he := eqlI_nil
    go_enter Try.func36, Try.ntmps36
    go_wp2
    go_ret
    exact ⟨_, _, rfl, HX.out, Below.refl _ _⟩
  · obtain ⟨i5, hi, hz0, hz1, hz2⟩ := info_parts infoI1
    have HI := Lib.hid (And.intro hi (And.intro hz0 (And.intro hz1 hz2)))
    clear hi hz0 hz1 hz2
    have he := fun w => eqlI_some w ad L cap
    have HE0 : Hid ((w.alloc (.cells #[] 3)).ownsRow w.heap.size 3 1 (.slice (some ⟨w.heap.size, 0, none⟩) 0 0) 0 (([] : List Int).map (Value.int .i64))) := Lib.hid (own_emptyZ w 3)
    go_enter Try.func36, Try.ntmps36
    go_wp2_with ((with_reducible show wpList _ _ _ (⟨some 7, _, _, _, _, _⟩ :: _) _ _); go_loud (refine wpList_append_ia _ rfl (.tmp 5) (.tmp 6) 47 rfl w.heap.size 3 i5 Try.underlying47 HI.out.1 HI.out.2.1 HI.out.2.2.1 HI.out.2.2.2 _ 0 ([] : List Int) rfl HE0.out (some ad) L cap ps rfl (HX.out.on ((Below.refl _ _).alloc (Nat.le_refl _) _)) (by omega) (by simp) ?_; intro v1 wc hown1 hg1; rw [Nat.zero_add, List.nil_append] at hown1; have hBc := ((Below.refl _ w).alloc (Nat.le_refl _) _).grown hg1 (by simp) (own_block_le _ _ _); obtain ⟨a9, c9, hv, hia⟩ := IA.own hown1 HZ.out; subst hv; have HO := Lib.hid hia; have HB := Lib.hid hBc; clear hown1 hBc hg1 hia))
    go_ret
    exact ⟨_, _, rfl, HO.out, HB.out⟩
end Go.Proofs.Ytfmjfdbbjggcpaa
