/- Shamir's At, Join: the contracts proved. -/
import Derived.Test.YtmhknggjpggagaaVe
namespace Go.Proofs.Ytmhknggjpggagaa
open Go.ChangeShapes Go.WideShapes Go.ChangeAt Go.RowKit Go.Shelf GF
set_option linter.unusedVariables false
set_option linter.unusedSimpArgs false
set_option maxRecDepth 100000

theorem even_any (a : Option Addr) (N c : Nat) (M : List (List GF)) (j : Nat) (r : Bool) (w : World) (hx : Mat w a N c M) (hw : ∀ k, k < N → (rw_ M k).length ≤ 1000) (hj : j ≤ N) (hn : ∀ k, k < j → (rw_ M k).length = (rw_ M 0).length) (hz : j < N → (rw_ M j).length ≠ (rw_ M 0).length) (hr : (j < N → r = false) ∧ (j = N → r = true)) :
    Calls Try.prog 33 #[.slice a N c] w fun e w' => e = .returned (.bool r) ∧ w = w' := by
  have HX := Lib.hid hx
  have HN := Lib.hid hn
  have HZ := Lib.hid hz
  have HR := Lib.hid hr
  have HW := Lib.hid hw
  have hcap := hx.bd
  clear hx hn hz hr hw
  go_enter Try.func33, Try.ntmps33
  go_wp2
  go_loopw [7] (fun i wr => ∃ k : Nat, k ≤ j ∧ i = .int .i64 (k : Nat) ∧ wr = w)
    (fun i _ => N - (intOf i).toNat)
  case atStart => exact ⟨0, Nat.zero_le _, rfl, rfl⟩
  case round =>
    obtain ⟨k, hk, rfl, rfl⟩ := hrel
    rename World => w1
    by_cases hlt : k < N
    · obtain ⟨bx, ox, a1, c1, rfl, hbx, hc1, hp1⟩ := HX.out.row hlt
      obtain ⟨b2, o2, a2, c2, e2, hb2, hc2, hp2⟩ := HX.out.row (i := 0) (by omega)
      cases e2
      rw [Nat.add_zero] at hc2
      have hl1 := HW.out k hlt
      have hl2 := HW.out 0 (by omega)
      have hbd1 := hp1.bd
      have hbd2 := hp2.bd
      have HE := Lib.hid (show k < j → (rw_ M k).length = (rw_ M 0).length from HN.out k)
      have HE2 := Lib.hid (show k = j → (rw_ M k).length ≠ (rw_ M 0).length from fun e => by rw [e]; exact HZ.out (by omega))
      obtain ⟨l1, hv1⟩ : ∃ l, l = (rw_ M k).length := ⟨_, rfl⟩
      obtain ⟨l2, hv2⟩ : ∃ l, l = (rw_ M 0).length := ⟨_, rfl⟩
      rw [← hv1] at hc1 hl1 hbd1 HE HE2
      rw [← hv2] at hc2 hl2 hbd2 HE HE2
      have q2 : (k : Int) < (N : Int) := by omega
      have q3 : (0 : Int) ≤ (k : Int) := by omega
      have q0 : (0 : Int) < (N : Int) := by omega
      clear hp1 hp2 hv1 hv2
      by_cases e : k = j
      · have q4 : ((l1 : Int) != (l2 : Int)) = true := by rw [bne_iff_ne]; have := HE2.out e; omega
        have Q4 := Lib.hid (show r = false from HR.out.1 (by omega))
        clear e
        go_wp2
        go_ret
        exact ⟨by rw [Q4.out]; rfl, rfl⟩
      · have q4 : ((l1 : Int) != (l2 : Int)) = false := by have := HE.out (by omega); subst this; simp
        have hk1 : k + 1 ≤ j := by omega
        clear e
        go_wp2
        go_roundw
        case rel => exact ⟨k + 1, by omega, by go_num, by trivial⟩
        case measure => simp [intOf]; omega
    · have Q4 := Lib.hid (show r = true from HR.out.2 (by omega))
      obtain rfl : N = k := by omega
      go_wp2
      go_ret
      exact ⟨by rw [Q4.out]; rfl, rfl⟩
theorem unl_take {M : List (List GF)} {k : Nat} (hk : k ≤ M.length) : (unl M k = true ↔ ∃ i, i < k ∧ (rw_ M i).length ≠ (rw_ M 0).length) := by
  induction k with
  | zero => simp [unl]
  | succ k ih =>
    rw [unl_next (by omega), Bool.or_eq_true, ih (by omega), bne_iff_ne]
    constructor
    · rintro (⟨i, h1, h2⟩ | h)
      · exact ⟨i, by omega, h2⟩
      · exact ⟨k, by omega, h⟩
    · rintro ⟨i, h1, h2⟩
      by_cases e : i = k
      · right; rw [← e]; exact h2
      · left; exact ⟨i, by omega, h2⟩
theorem even_yes (a : Option Addr) (N c : Nat) (M : List (List GF)) (w : World) (hx : Mat w a N c M) (hw : ∀ k, k < N → (rw_ M k).length ≤ 1000) (h : ∀ k, k < N → (rw_ M k).length = (rw_ M 0).length) :
    Calls Try.prog 33 #[.slice a N c] w fun e w' => e = .returned (.bool true) ∧ w = w' :=
  even_any a N c M N true w hx hw (Nat.le_refl _) h (fun h => absurd h (by omega)) ⟨fun h => absurd h (by omega), fun _ => rfl⟩
theorem even_no (a : Option Addr) (N c : Nat) (M : List (List GF)) (w : World) (hx : Mat w a N c M) (hw : ∀ k, k < N → (rw_ M k).length ≤ 1000) (h : ∃ k, k < N ∧ (rw_ M k).length ≠ (rw_ M 0).length) :
    Calls Try.prog 33 #[.slice a N c] w fun e w' => e = .returned (.bool false) ∧ w = w' := by
  have key : ∀ K, K ≤ N → (∃ j, j < K ∧ (∀ k, k < j → (rw_ M k).length = (rw_ M 0).length) ∧ (rw_ M j).length ≠ (rw_ M 0).length) ∨ ∀ k, k < K → (rw_ M k).length = (rw_ M 0).length := by
    intro K
    induction K with
    | zero => intro _; right; intro k hk; omega
    | succ K ih =>
      intro hK
      rcases ih (by omega) with ⟨j, h1, h2, h3⟩ | h1
      · left; exact ⟨j, by omega, h2, h3⟩
      · by_cases e : (rw_ M K).length = (rw_ M 0).length
        · right; intro k hk
          by_cases e2 : k = K
          · rw [e2]; exact e
          · exact h1 k (by omega)
        · left; exact ⟨K, by omega, h1, e⟩
  rcases key N (Nat.le_refl _) with ⟨j, h1, h2, h3⟩ | h1
  · exact even_any a N c M j false w hx hw (by omega) h2 (fun _ => h3) ⟨fun _ => rfl, fun e => absurd e (by omega)⟩
  · obtain ⟨k, hk, e⟩ := h
    exact absurd (h1 k hk) e

theorem atArgC : AtArgC := by
  intro L N aX cX X aR cR Rm x w hX hR hw hL hN
  have hb1 := hX.bd
  have hb2 := hR.bd
  clear hX hR hw
  go_enter Try.func18, Try.ntmps18
  go_wp2
  go_ret2
  exact ⟨_, rfl, Below.refl _ _⟩
theorem atBadC : AtBadC := by
  intro b L N aX cX X aR cR Rm x w hf hX hR hw he hL hN
  have hb1 := hX.bd
  have hb2 := hR.bd
  have hxl := hX.len
  have hrl := hR.len
  unfold atErr at he ⊢
  rw [hxl, hrl] at he ⊢
  by_cases h1 : L ≠ N
  · rw [if_pos h1]
    have q : ((L : Int) != (N : Int)) = true := by rw [bne_iff_ne]; omega
    clear hX hR hw he hf h1
    go_enter Try.func18, Try.ntmps18
    go_wp2
    go_ret2
    exact ⟨_, _, rfl, Below.refl _ _⟩
  · have e : L = N := by omega
    rw [if_neg h1] at he ⊢
    subst e
    have q : ((L : Int) != (L : Int)) = false := by simp
    by_cases h2 : unl Rm L = true
    · rw [if_pos h2]
      have HE := Lib.hid (even_no aR L cR Rm w hR hw ((unl_take (by omega)).1 h2))
      clear hX hR hw he hf h1 h2
      go_enter Try.func18, Try.ntmps18
      go_wp2_with (go_at_call 33; refine HE.out.mono ?_; rintro e w' ⟨rfl, rfl⟩)
      go_ret2
      exact ⟨_, _, rfl, Below.refl _ _⟩
    · rw [if_neg h2] at he ⊢
      have HE := Lib.hid (even_yes aR L cR Rm w hR hw (fun k hk => Classical.byContradiction fun h => h2 ((unl_take (by omega)).2 ⟨k, hk, h⟩)))
      have HWT := Lib.hid (weights_bad b aX L cX X x w hX he)
      have q9 : (plErr X != 0) = true := by rw [bne_iff_ne]; exact he
      clear hX hR hw he hf h1 h2
      go_enter Try.func18, Try.ntmps18
      go_wp2_with (first
        | (go_at_call 33; refine HE.out.mono ?_; rintro e w' ⟨rfl, rfl⟩)
        | (go_at_call 23; refine HWT.out.mono ?_; rintro e w2 ⟨rfl, hb⟩))
      go_ret2
      exact ⟨_, _, rfl, hb⟩
/-- What the first k shares tell. -/
def atQ (X : List GF) (R : Nat → List GF) (x : GF) (n k : Nat) : List GF := (List.range n).map fun i => sm k fun q => wt X q x * co (R q) i
theorem atQ_len (X : List GF) (R : Nat → List GF) (x : GF) (n k : Nat) : (atQ X R x n k).length = n := by simp [atQ]
theorem atQ_co {X : List GF} {R : Nat → List GF} {x : GF} {n k i : Nat} (h : i < n) : co (atQ X R x n k) i = sm k fun q => wt X q x * co (R q) i := by
  unfold atQ; unfold co; simp [List.getD_eq_getElem?_getD, h]
theorem atQ_next (X : List GF) (R : Nat → List GF) (x : GF) (n k : Nat) : sumG (atQ X R x n k) (wt X k x) (R k) = atQ X R x n (k + 1) := by
  refine ext_co (by rw [sumG_len, atQ_len, atQ_len]) fun i hi => ?_
  rw [sumG_len, atQ_len] at hi
  rw [sumG_co _ _ (by rw [atQ_len]; exact hi), atQ_co hi, atQ_co hi]
  rfl
theorem atQ_zero (X : List GF) (R : Nat → List GF) (x : GF) (n : Nat) : iL (atQ X R x n 0) = List.replicate n 0 := by
  refine list_ext_getD (by rw [length_iL, atQ_len]; simp) fun i hi => ?_
  rw [length_iL, atQ_len] at hi
  rw [getD_iL, atQ_co hi]
  simp [List.getD_eq_getElem?_getD, hi]
  rfl
theorem atQ_all (X : List GF) (R : Nat → List GF) (x : GF) (n : Nat) : atQ X R x n X.length = atR X R x n := rfl
set_option maxHeartbeats 2000000 in
theorem atC : AtC := by
  intro b L n aX cX X aR cR Rm x w hf hX hR hA hL1 hL hw hn
  have HWT := Lib.hid (weights_any b aX L cX X x w hf hX (plErr_zero.2 ⟨by rw [hX.len]; omega, by rw [hX.len]; omega, hA⟩))
  have HE := Lib.hid (even_yes aR L cR Rm w hR (fun k hk => by rw [hw k hk]; exact hn) (fun k hk => by rw [hw k hk, hw 0 (by omega)]))
  have HF := Lib.hid hf
  have HR := Lib.hid hR
  have HW := Lib.hid hw
  have HN := Lib.hid (And.intro hn hL1)
  have HXL := Lib.hid hX.len
  have hb1 := hX.bd
  have hb2 := hR.bd
  have q : ((L : Int) != (L : Int)) = false := by simp
  have q0 : (0 : Int) < (L : Int) := by omega
  have hmk := run_make_row' (P := Try.prog) 22 5 (.int .u8 0) 1 Try.underlying22 info5 rfl .i64 .i64 n (by omega) (by omega)
  clear hf hX hR hA hL1 hw hn
  go_enter Try.func18, Try.ntmps18
  go_wp2_with (first
    | (go_at_call 33; refine HE.out.mono ?_; rintro e w' ⟨rfl, rfl⟩)
    | (go_at_call 23; refine HWT.out.mono ?_; rintro e w2 ⟨gW, rfl, hoW, hb⟩; have HOW := Lib.hid hoW; have HB := Lib.hid hb; obtain ⟨bx, ox, a1, c1, rfl, hbx, hc1, hp1⟩ := (HR.out.on hb).row (i := 0) (by have := HN.out.2; omega); rw [HW.out 0 (by have := HN.out.2; omega), Nat.add_zero] at hc1; have hbd1 := hp1.bd; rw [HW.out 0 (by have := HN.out.2; omega)] at hbd1; clear hoW hb hp1))
  have hO0 : Hid ((w2.alloc (.cells (madeCells #[.int .u8 0] n) 5)).ownsRow w.heap.size 5 1 (.slice (some ⟨w2.heap.size, 0, none⟩) n n) n ((iL (atQ X (rw_ Rm) x n 0)).map (Value.int .u8))) := by
    rw [atQ_zero]
    exact Lib.hid (own_base (own_made (w := w2) (e := 5) (n := n) (by unfold maxLen; have := HN.out; omega)) HB.out.size)
  have hB0 : Hid (Below w.heap.size w (w2.alloc (.cells (madeCells #[.int .u8 0] n) 5))) := Lib.hid (HB.out.alloc HB.out.size _)
  have hB1 : Hid (Below w2.heap.size w2 (w2.alloc (.cells (madeCells #[.int .u8 0] n) 5))) := Lib.hid ((Below.refl _ _).alloc (Nat.le_refl _) _)
  clear hc1 hbx hbd1
  go_loopw [44, 12] (fun j o wr => ∃ (k g : Nat), k ≤ L ∧ j = .int .i64 (k : Nat) ∧ o = .slice (some ⟨g, 0, none⟩) n n ∧ Hid (wr.ownsRow w.heap.size 5 1 (.slice (some ⟨g, 0, none⟩) n n) n ((iL (atQ X (rw_ Rm) x n k)).map (Value.int .u8))) ∧ Hid (Below w.heap.size w wr) ∧ Hid (Below w2.heap.size w2 wr))
    (fun j _ _ => L - (intOf j).toNat)
  case atStart => exact ⟨0, _, Nat.zero_le _, rfl, rfl, hO0, hB0, hB1⟩
  case round =>
    obtain ⟨k, g, hk, rfl, rfl, hO, hBw, hB2⟩ := hrel
    rename World => w3
    by_cases hlt : k < L
    · obtain ⟨b9, o9, a1, c1, hbe, hb9, hc1, hp1⟩ := (HR.out.on hBw.out).row hlt
      cases hbe
      have hlk := HW.out k hlt
      rw [hlk] at hc1 hp1
      obtain ⟨b8, o8, e8, hb8, hcw⟩ := (Pa.on (Pa.own2 HOW.out) hB2.out).at_ (k := k) hlt
      cases e8
      rw [Nat.zero_add, co_wts x (by rw [HXL.out]; exact hlt)] at hcw
      have HSU := Lib.hid (fsum_any b (toI (wt X k x)) _ _ _ (iL (atQ X (rw_ Rm) x n k)) _ _ _ (iL (rw_ Rm k)) w3 (HF.out.below hBw.out) (toI_bd _) (Pa.own2 hO.out).1 hp1.1 (by have := HN.out; omega))
      rw [sumL_G, atQ_next] at HSU
      have q2 : (k : Int) < (L : Int) := by omega
      have q3 : (0 : Int) ≤ (k : Int) := by omega
      clear hp1 hlk
      go_wp2_with (go_at_call 34; go_loud (refine HSU.out.mono ?_; rintro e w4 ⟨g4, rfl, ho4, hb4⟩; have HO4 := Lib.hid (own_base ho4 hBw.out.size); have HBW4 := Lib.hid (bt hBw.out hb4); have HB24 := Lib.hid (bt hB2.out hb4); clear ho4 hb4))
      go_roundw
      case rel => exact ⟨k + 1, g4, by omega, by go_num, rfl, HO4, HBW4, HB24⟩
      case measure => simp [intOf]; omega
    · obtain rfl : L = k := by omega
      have ho := hO.out
      rw [← HXL.out, atQ_all] at ho
      have HPA := Lib.hid (Pa.own2 ho)
      clear ho
      go_wp2
      go_ret2
      exact ⟨_, _, rfl, HPA.out, hBw.out⟩
theorem joinC : JoinC := by
  intro b L n aX cX X aR cR Rm w hf hX hR hA hL1 hL hw hn
  have H := Lib.hid (atC b L n aX cX X aR cR Rm 0 w hf hX hR hA hL1 hL hw hn)
  clear hf hX hR hA hw
  go_enter Try.func19, Try.ntmps19
  go_wp2_with (go_at_call 18; go_loud (refine H.out.mono ?_; rintro e w2 ⟨a2, c2, rfl, hp2, hb2⟩; have HP2 := Lib.hid hp2; have HB2 := Lib.hid hb2; clear hp2 hb2))
  go_ret2
  exact ⟨_, _, rfl, HP2.out, HB2.out⟩
theorem joinBadC : JoinBadC := by
  intro b L N aX cX X aR cR Rm w hf hX hR hw he hL hN
  have H := Lib.hid (atBadC b L N aX cX X aR cR Rm 0 w hf hX hR hw he hL hN)
  clear hf hX hR hw he
  go_enter Try.func19, Try.ntmps19
  go_wp2_with (go_at_call 18; go_loud (refine H.out.mono ?_; rintro e w2 ⟨a2, c2, rfl, hb2⟩; have HB2 := Lib.hid hb2; clear hb2))
  go_ret2
  exact ⟨_, _, rfl, HB2.out⟩
end Go.Proofs.Ytmhknggjpggagaa
