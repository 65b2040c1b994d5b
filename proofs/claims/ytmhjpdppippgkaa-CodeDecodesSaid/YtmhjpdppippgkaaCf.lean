/- Layer 9's laws: few, unlike, lives; the document's Places and Piece. -/
import Derived.Test.YtmhjpdppippgkaaCc
import Derived.Test.YtmhjpdppippgkaaQ3
import Derived.Test.YtmhjpdppippgkaaQ4
namespace Go.Proofs.Ytmhjpdppippgkaa
open Go.ChangeShapes Go.WideShapes Go.ChangeAt Go.RowKit Go.Shelf GF
set_option linter.unusedVariables false
set_option linter.unusedSimpArgs false
set_option maxRecDepth 100000

/-- The first place at which a test of rows fails, if there is one. -/
theorem firstP (p : Nat → Prop) (N : Nat) : ∃ j, j ≤ N ∧ (∀ k, k < j → p k) ∧ (j < N → ¬ p j) := by
  induction N with
  | zero => exact ⟨0, Nat.le_refl _, fun k hk => absurd hk (by omega), fun h => absurd h (by omega)⟩
  | succ N ih =>
    obtain ⟨j, h1, h2, h3⟩ := ih
    by_cases h : j < N
    · exact ⟨j, by omega, h2, fun _ => h3 h⟩
    · obtain rfl : j = N := by omega
      by_cases h0 : p j
      · exact ⟨j + 1, Nat.le_refl _, fun k hk => by
          rcases Nat.lt_succ_iff_lt_or_eq.1 hk with h4 | h4
          · exact h2 k h4
          · rw [h4]; exact h0, fun h => absurd h (by omega)⟩
      · exact ⟨j, by omega, h2, fun _ => h0⟩
theorem few_many (a : Option Addr) (N c : Nat) (M : List (List GF)) (w : World) (hx : Mat w a N c M) (h : 12 < N) :
    Calls Try.prog 8 #[.slice a N c] w fun e w' => e = .returned (.bool false) ∧ w = w' := by
  have hb := hx.bd
  have q : (12 : Int) < (N : Int) := by omega
  clear hx h
  go_enter Try.func8, Try.ntmps8
  go_wp2
  go_ret
  exact ⟨rfl, rfl⟩
theorem few_any (a : Option Addr) (N c : Nat) (M : List (List GF)) (j : Nat) (r : Bool) (w : World) (hx : Mat w a N c M) (hN : N ≤ 12) (hj : j ≤ N) (hn : ∀ k, k < j → (rw_ M k).length ≤ 20) (hz : j < N → ¬ (rw_ M j).length ≤ 20) (hr : (j < N → r = false) ∧ (j = N → r = true)) :
    Calls Try.prog 8 #[.slice a N c] w fun e w' => e = .returned (.bool r) ∧ w = w' := by
  have HX := Lib.hid hx
  have HN := Lib.hid hn
  have HZ := Lib.hid hz
  have HR := Lib.hid hr
  have hcap := hx.bd
  have q12 : ¬ (12 : Int) < (N : Int) := by omega
  clear hx hn hz hr
  go_enter Try.func8, Try.ntmps8
  go_wp2
  go_loopw [10] (fun i wr => ∃ k : Nat, k ≤ j ∧ i = .int .i64 (k : Nat) ∧ wr = w)
    (fun i _ => N - (intOf i).toNat)
  case atStart => exact ⟨0, Nat.zero_le _, rfl, rfl⟩
  case round =>
    obtain ⟨k, hk, rfl, rfl⟩ := hrel
    rename World => w1
    by_cases hlt : k < N
    · obtain ⟨bx, ox, a1, c1, rfl, hbx, hc1, hp1⟩ := HX.out.row hlt
      have hbd1 := hp1.bd
      have HE := Lib.hid (show k < j → (rw_ M k).length ≤ 20 from HN.out k)
      have HE2 := Lib.hid (show k = j → ¬ (rw_ M k).length ≤ 20 from fun e => by rw [e]; exact HZ.out (by omega))
      obtain ⟨l1, hv1⟩ : ∃ l, l = (rw_ M k).length := ⟨_, rfl⟩
      rw [← hv1] at hc1 hbd1 HE HE2
      have q2 : (k : Int) < (N : Int) := by omega
      have q3 : (0 : Int) ≤ (k : Int) := by omega
      clear hp1 hv1
      by_cases e : k = j
      · have q4 : (20 : Int) < (l1 : Int) := by have := HE2.out e; omega
        have Q4 := Lib.hid (show r = false from HR.out.1 (by omega))
        clear e
        go_wp2
        go_ret
        exact ⟨by rw [Q4.out]; rfl, rfl⟩
      · have q4 : ¬ (20 : Int) < (l1 : Int) := by have := HE.out (by omega); omega
        have hk1 : k + 1 ≤ j := by omega
        clear e
        go_wp2
        go_roundw
        case rel => exact ⟨k + 1, by omega, by go_num, by trivial⟩
        case measure => simp [intOf]; omega
    · have Q4 := Lib.hid (show r = true from HR.out.2 (by omega))
      obtain rfl : N = k := by omega
      go_wp2
      go_ret
      exact ⟨by rw [Q4.out]; rfl, rfl⟩
/-- Are rows few, and short? -/
def FewR (N : Nat) (M : List (List GF)) : Prop := N ≤ 12 ∧ ∀ k, k < N → (rw_ M k).length ≤ 20
theorem few_yes (a : Option Addr) (N c : Nat) (M : List (List GF)) (w : World) (hx : Mat w a N c M) (h : FewR N M) :
    Calls Try.prog 8 #[.slice a N c] w fun e w' => e = .returned (.bool true) ∧ w = w' :=
  few_any a N c M N true w hx h.1 (Nat.le_refl _) h.2 (fun h => absurd h (by omega)) ⟨fun h => absurd h (by omega), fun _ => rfl⟩
theorem few_no (a : Option Addr) (N c : Nat) (M : List (List GF)) (w : World) (hx : Mat w a N c M) (h : ¬ FewR N M) :
    Calls Try.prog 8 #[.slice a N c] w fun e w' => e = .returned (.bool false) ∧ w = w' := by
  by_cases h12 : N ≤ 12
  · obtain ⟨j, h1, h2, h3⟩ := firstP (fun k => (rw_ M k).length ≤ 20) N
    have hj : j < N := by
      rcases Nat.lt_or_ge j N with h4 | h4
      · exact h4
      · exact absurd ⟨h12, fun k hk => h2 k (by omega)⟩ h
    exact few_any a N c M j false w hx h12 h1 h2 h3 ⟨fun _ => rfl, fun e => absurd e (by omega)⟩
  · exact few_many a N c M w hx (by omega)
theorem unl_any (a : Option Addr) (N c : Nat) (M : List (List GF)) (j : Nat) (r : Bool) (w : World) (hx : Mat w a N c M) (hj : j ≤ N) (hn : ∀ k, k < j → (rw_ M k).length = (rw_ M 0).length) (hz : j < N → (rw_ M j).length ≠ (rw_ M 0).length) (hr : (j < N → r = true) ∧ (j = N → r = false)) :
    Calls Try.prog 9 #[.slice a N c] w fun e w' => e = .returned (.bool r) ∧ w = w' := by
  have HX := Lib.hid hx
  have HN := Lib.hid hn
  have HZ := Lib.hid hz
  have HR := Lib.hid hr
  have hcap := hx.bd
  clear hx hn hz hr
  go_enter Try.func9, Try.ntmps9
  go_wp2
  go_loopw [7] (fun i wr => ∃ k : Nat, k ≤ j ∧ i = .int .i64 (k : Nat) ∧ wr = w)
    (fun i _ => N - (intOf i).toNat)
  case atStart => exact ⟨0, Nat.zero_le _, rfl, rfl⟩
  case round =>
    obtain ⟨k, hk, rfl, rfl⟩ := hrel
    rename World => w1
    by_cases hlt : k < N
    · obtain ⟨bx, ox, a1, c1, rfl, hbx, hc1, hp1⟩ := HX.out.row hlt
      obtain ⟨b2, o2, a2, c2, e2, hb2, hc2, hp2⟩ := HX.out.row (i := 0) (by omega)
      cases e2
      rw [Nat.add_zero] at hc2
      have hbd1 := hp1.bd
      have hbd2 := hp2.bd
      have HE := Lib.hid (show k < j → (rw_ M k).length = (rw_ M 0).length from HN.out k)
      have HE2 := Lib.hid (show k = j → (rw_ M k).length ≠ (rw_ M 0).length from fun e => by rw [e]; exact HZ.out (by omega))
      obtain ⟨l1, hv1⟩ : ∃ l, l = (rw_ M k).length := ⟨_, rfl⟩
      obtain ⟨l2, hv2⟩ : ∃ l, l = (rw_ M 0).length := ⟨_, rfl⟩
      rw [← hv1] at hc1 hbd1 HE HE2
      rw [← hv2] at hc2 hbd2 HE HE2
      have q2 : (k : Int) < (N : Int) := by omega
      have q3 : (0 : Int) ≤ (k : Int) := by omega
      have q0 : (0 : Int) < (N : Int) := by omega
      clear hp1 hp2 hv1 hv2
      by_cases e : k = j
      · have q4 : ((l1 : Int) != (l2 : Int)) = true := by rw [bne_iff_ne]; have := HE2.out e; omega
        have Q4 := Lib.hid (show r = true from HR.out.1 (by omega))
        clear e
        go_wp2
        go_ret
        exact ⟨by rw [Q4.out]; rfl, rfl⟩
      · have q4 : ((l1 : Int) != (l2 : Int)) = false := by have := HE.out (by omega); subst this; simp
        have hk1 : k + 1 ≤ j := by omega
        clear e
        go_wp2
        go_roundw
        case rel => exact ⟨k + 1, by omega, by go_num, by trivial⟩
        case measure => simp [intOf]; omega
    · have Q4 := Lib.hid (show r = false from HR.out.2 (by omega))
      obtain rfl : N = k := by omega
      go_wp2
      go_ret
      exact ⟨by rw [Q4.out]; rfl, rfl⟩
/-- Have rows one length? -/
def OneR (N : Nat) (M : List (List GF)) : Prop := ∀ k, k < N → (rw_ M k).length = (rw_ M 0).length
theorem unl_no (a : Option Addr) (N c : Nat) (M : List (List GF)) (w : World) (hx : Mat w a N c M) (h : OneR N M) :
    Calls Try.prog 9 #[.slice a N c] w fun e w' => e = .returned (.bool false) ∧ w = w' :=
  unl_any a N c M N false w hx (Nat.le_refl _) h (fun h => absurd h (by omega)) ⟨fun h => absurd h (by omega), fun _ => rfl⟩
theorem unl_yes (a : Option Addr) (N c : Nat) (M : List (List GF)) (w : World) (hx : Mat w a N c M) (h : ¬ OneR N M) :
    Calls Try.prog 9 #[.slice a N c] w fun e w' => e = .returned (.bool true) ∧ w = w' := by
  obtain ⟨j, h1, h2, h3⟩ := firstP (fun k => (rw_ M k).length = (rw_ M 0).length) N
  have hj : j < N := by
    rcases Nat.lt_or_ge j N with h4 | h4
    · exact h4
    · exact absurd (fun k hk => h2 k (by omega)) h
  exact unl_any a N c M j true w hx h1 h2 h3 ⟨fun _ => rfl, fun e => absurd e (by omega)⟩
theorem unl_one {M : List (List GF)} {N : Nat} (hM : M.length = N) (h : ¬ OneR N M) : unl M N = true := by
  obtain ⟨j, h1, h2, h3⟩ := firstP (fun k => (rw_ M k).length = (rw_ M 0).length) N
  have hj : j < N := by
    rcases Nat.lt_or_ge j N with h4 | h4
    · exact h4
    · exact absurd (fun k hk => h2 k (by omega)) h
  have key : ∀ k, k ≤ N → j < k → unl M k = true := by
    intro k
    induction k with
    | zero => intro _ h; omega
    | succ k ih =>
      intro hk hlt
      rw [unl_next (by omega)]
      by_cases e : j = k
      · rw [← e, show ((rw_ M j).length != (rw_ M 0).length) = true by rw [bne_iff_ne]; exact h3 hj]; simp
      · rw [ih (by omega) (by omega)]; rfl
  exact key N (Nat.le_refl _) hj
set_option maxHeartbeats 1000000 in
theorem refPlaces_any (n : Nat) (w : World) (hn : n ≤ 255) :
    Calls Try.prog 23 #[.int .i64 (n : Nat)] w fun e w' => ∃ g c', e = .returned (.slice (some ⟨g, 0, none⟩) n c') ∧ Pa w' (some ⟨g, 0, none⟩) n c' (plc n) ∧ Below w.heap.size w w' := by
  obtain ⟨i5, hi, hz0, hz1, hz2⟩ := info_parts info5
  have HI := Lib.hid (And.intro hi (And.intro hz0 (And.intro hz1 hz2)))
  have HN := Lib.hid hn
  have qn : (n : Int) ≤ 1000 := by omega
  have HO0 := Lib.hid (own_emptyG w 5)
  have HB0 := Lib.hid (show Below w.heap.size w (w.alloc (.cells #[] 5)) from (Below.refl _ _).alloc (Nat.le_refl _) _)
  clear hi hz0 hz1 hz2 hn
  go_enter Try.func23, Try.ntmps23
  go_wp2
  go_loopw [3, 4] (fun o s wr => ∃ (i g c' : Nat), i ≤ n ∧ s = .int .i64 ((i + 1 : Nat) : Int) ∧ o = .slice (some ⟨g, 0, none⟩) i c' ∧ Hid (wr.ownsRow w.heap.size 5 1 (.slice (some ⟨g, 0, none⟩) i c') i ((iL (plc i)).map (Value.int .u8))) ∧ Hid (Below w.heap.size w wr)) (fun _ s _ => n + 1 - (intOf s).toNat)
  case atStart => exact ⟨0, _, _, by omega, rfl, rfl, HO0, HB0⟩
  case round =>
    obtain ⟨i, g, c', hi, rfl, rfl, HO, HB⟩ := hrel
    rename World => V
    by_cases hlt : i < n
    · obtain ⟨I, hI⟩ : ∃ I, I = i + 1 := ⟨_, rfl⟩
      have HIE := Lib.hid hI
      rw [← hI]
      have q1 : (I : Int) ≤ (n : Int) := by omega
      have k1 : ∀ [Inhabited Unit], IntKind.u8.wrap (I : Int) = toI (pl I) := by
        intro _
        rw [pl_I (by have := HN.out; omega), IntKind.wrap_u8]; have := HN.out; omega
      have HV := Lib.hid (show plc (i + 1) = plc i ++ [pl I] by rw [plc_next, hI])
      have HLT := Lib.hid hlt
      have HVS := Lib.hid HB.out.size
      clear hI hlt hi
      go_wp2_with ((with_reducible show wpList _ _ _ (⟨some 15, _, _, _, _, _⟩ :: _) _ _); go_loud (refine wpList_append_G1 rfl (.tmp 11) (.tmp 14) 23 rfl w.heap.size 5 i5 Try.underlying23 HI.out.1 HI.out.2.1 HI.out.2.2.1 HI.out.2.2.2 (.slice (some ⟨g, 0, none⟩) i c') i (plc i) rfl HO.out (pl I) 5 rfl (by have := HLT.out; have := HN.out; omega) HVS.out ?_; intro g5 c5 w5 ho5 hb5))
      have HO5 := Lib.hid ho5
      have HB5 := Lib.hid (HB.out.trans hb5)
      rw [← HV.out] at HO5
      clear ho5 hb5
      go_roundw
      case rel => exact ⟨i + 1, g5, c5, HLT.out, by rw [HIE.out]; go_num, rfl, HO5, HB5⟩
      case measure => simp [intOf]; have := HLT.out; have := HIE.out; omega
    · obtain rfl : i = n := by omega
      have HP := Lib.hid (Pa.own2 HO.out)
      have q1 : ¬ ((i + 1 : Nat) : Int) ≤ (i : Int) := by omega
      go_wp2
      go_ret
      exact ⟨g, c', rfl, HP.out, HB.out⟩
theorem refPiece_any (t x n : Nat) (aR : Option Addr) (cR : Nat) (R : List (List GF)) (w : World) (hR : Mat w aR t cR R) (ht : 1 ≤ t) (ht2 : t ≤ 255) (hx : x ≤ 255) (hl : ∀ k, k < t → (rw_ R k).length = n) (hn : n ≤ 1000) :
    Calls Try.prog 13 #[.slice aR t cR, .int .i64 (x : Nat)] w fun e w' => ∃ g c', e = .returned (.slice (some ⟨g, 0, none⟩) n c') ∧ Pa w' (some ⟨g, 0, none⟩) n c' (pcR R n (pl x)) ∧ Below w.heap.size w w' := by
  have HR := Lib.hid hR
  have HL := Lib.hid hl
  have HT := Lib.hid (And.intro ht (And.intro ht2 hn))
  have hbd := hR.bd
  have k1 : ∀ [Inhabited Unit], IntKind.u8.wrap (x : Int) = toI (pl x) := by
    intro _
    rw [pl_I (by omega), IntKind.wrap_u8]; omega
  have HPL := Lib.hid (refPlaces_any t w ht2)
  clear hR hl hx ht ht2 hn
  go_enter Try.func13, Try.ntmps13
  go_wp2_with (first
    | (go_at_call 23; go_loud ((with_reducible refine HPL.out.mono ?_); rintro e w1 ⟨g, c1, rfl, hp1, hb1⟩; have HB1 := Lib.hid hb1; have HAT := Lib.hid (refAt_any (some ⟨g, 0, none⟩) t c1 (plc t) aR cR n R (pl x) w1 hp1 (HR.out.on hb1) HT.out.1 HT.out.2.1 HT.out.2.2 HL.out); clear hp1 hb1))
    | (go_at_call 22; go_loud ((with_reducible refine HAT.out.mono ?_); rintro e w2 ⟨g2, c2, rfl, hp2, hb2⟩; have HP2 := Lib.hid hp2; have HB2 := Lib.hid (bt HB1.out hb2); clear hp2 hb2)))
  go_ret
  exact ⟨g2, c2, rfl, by unfold pcR; rw [HR.out.len]; exact HP2.out, HB2.out⟩
end Go.Proofs.Ytmhjpdppippgkaa
