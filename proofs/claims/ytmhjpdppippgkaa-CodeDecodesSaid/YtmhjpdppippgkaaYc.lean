/- Contract of code's values: what rows tell of places one behind the other. -/
import Derived.Test.YtmhjpdppippgkaaYb
namespace Go.Proofs.Ytmhjpdppippgkaa
open Go.ChangeShapes Go.WideShapes Go.ChangeAt Go.RowKit Go.Shelf GF
set_option linter.unusedVariables false
set_option linter.unusedSimpArgs false
set_option maxRecDepth 100000

/-- What rows tell of K places from fst on. -/
def valM (X : List GF) (R : Nat → List GF) (n fst K : Nat) : List (List GF) := (List.range K).map fun i => atR X R (pl (fst + i)) n
theorem valM_len (X : List GF) (R : Nat → List GF) (n fst K : Nat) : (valM X R n fst K).length = K := by simp [valM]
theorem valM_next (X : List GF) (R : Nat → List GF) (n fst K : Nat) : valM X R n fst (K + 1) = valM X R n fst K ++ [atR X R (pl (fst + K)) n] := by simp [valM, List.range_succ]
/-- A new block of bytes. -/
def NewU (w : World) (B : Nat) : Nat → Prop := fun b => B ≤ b ∧ TyU w b
theorem RV.onN {w w' : World} {B : Nat} {vs : List Value} {M : List (List GF)} (h : RV w (NewU w B) vs M) (hb : Below w.heap.size w w') : RV w' (NewU w' B) vs M :=
  h.keep hb.size (fun b hlt ht => ⟨⟨ht.1, ht.2.below hb hlt⟩, hb.block b hlt⟩)
theorem RV.grownN {w w' : World} {B : Nat} {vs : List Value} {M : List (List GF)} (h : RV w (NewU w B) vs M) {base s n : Nat} {e : TypeId} {v : Value} {ys : List Value} (h2 : w.ownsRow base e s v n ys) (hne : 5 ≠ e) (hg : w.grownBy w' v.ownBlock) : RV w' (NewU w' B) vs M :=
  h.keep hg.size (fun b _ ht => ⟨⟨ht.1, (ht.2.grown h2 hne hg).2⟩, (ht.2.grown h2 hne hg).1⟩)
theorem RV.moreN {w : World} {B B' : Nat} {vs : List Value} {M : List (List GF)} (h : RV w (NewU w B) vs M) {v : Value} {n : Nat} {P : List GF} (ho : w.ownsRow B' 5 1 v n ((iL P).map (Value.int .u8))) (hB : B ≤ B') : RV w (NewU w B) (vs ++ [v]) (M ++ [P]) := by
  obtain ⟨a, c, rfl, hp, hnew⟩ := Pa.own ho
  have hl := hp.len
  have := h.more (P := P) (a := a) (c := c) (by rw [hl]; exact hp) (fun b off e _ => by
    refine ⟨Nat.le_trans hB (hnew b off e).1, ?_⟩
    rcases ho.2 with ⟨h1, _⟩ | ⟨g, cap, cur, h1, _, hh, _⟩
    · cases h1; cases e
    · cases h1; cases e; exact ⟨cur, _, hh⟩)
  rw [hl] at this
  exact this
theorem own_emptyV (w : World) (e : TypeId) : (w.alloc (.cells #[] e)).ownsRow w.heap.size e 1 (.slice (some ⟨w.heap.size, 0, none⟩) 0 0) 0 [] :=
  World.ownsRow_lit (base := w.heap.size) (e := e) (size := 1) w #[] 0 (Nat.le_refl _) (Nat.zero_le _) rfl
set_option maxHeartbeats 2000000 in
theorem valuesO (b L n fst lst K : Nat) (aX : Option Addr) (cX : Nat) (X : List GF) (aR : Option Addr) (cR : Nat) (R : List (List GF)) (w : World) (hf : Fld w b) (hX : Pa w aX L cX X) (hR : Mat w aR L cR R) (hA : Apart X) (hL1 : 1 ≤ L) (hL : L ≤ 255) (hw : ∀ k, k < L → (rw_ R k).length = n) (hn : n ≤ 1000) (h1 : 1 ≤ fst) (h2 : lst ≤ 255) (hK : fst + K = lst + 1) :
    Calls Try.prog 29 #[.pointer (some ⟨b, 0, none⟩), .slice aX L cX, .slice aR L cR, .int .i64 (fst : Nat), .int .i64 (lst : Nat)] w fun e w' =>
      ∃ a c, e = .returned (.slice a K c) ∧ ∃ vs, w'.ownsRow w.heap.size 23 1 (.slice a K c) K vs ∧ RV w' (NewU w' w.heap.size) vs (valM X (rw_ R) n fst K) ∧ Below w.heap.size w w' := by
  obtain ⟨i22, hi, hz0, hz1, hz2⟩ := info_parts infoR
  have HI := Lib.hid (And.intro hi (And.intro hz0 (And.intro hz1 hz2)))
  have HF := Lib.hid hf; have HX := Lib.hid hX; have HR := Lib.hid hR; have HA := Lib.hid hA; have HW := Lib.hid hw
  have HC := Lib.hid (And.intro hL1 (And.intro hL (And.intro hn (And.intro h1 (And.intro h2 hK)))))
  have hb1 := hX.bd
  have hb2 := hR.bd
  have hO0 := Lib.hid (own_emptyV w 23)
  have hB0 : Hid (Below w.heap.size w (w.alloc (.cells #[] 23))) := Lib.hid ((Below.refl _ _).alloc (Nat.le_refl _) _)
  clear hf hX hR hA hL1 hL hw hn h1 h2 hK hi hz0 hz1 hz2
  go_enter Try.func29, Try.ntmps29
  go_wp2
  go_loopw [11, 12] (fun o s wr => ∃ (k x : Nat) (a : Option Addr) (c : Nat) (vs : List Value), k ≤ K ∧ x = fst + k ∧ s = .int .i64 (x : Nat) ∧ o = .slice a k c ∧ Hid (wr.ownsRow w.heap.size 23 1 (.slice a k c) k vs) ∧ Hid (RV wr (NewU wr w.heap.size) vs (valM X (rw_ R) n fst k)) ∧ Hid (Below w.heap.size w wr))
    (fun _ s _ => lst + 1 - (intOf s).toNat)
  case atStart => exact ⟨0, fst, _, 0, [], Nat.zero_le _, rfl, rfl, rfl, hO0, Lib.hid (RV.nil _ _), hB0⟩
  case round =>
    obtain ⟨k, x, a, c, vs, hk, hx, rfl, rfl, hO, hV, hB⟩ := hrel
    rename World => w1
    have HXE := Lib.hid hx
    by_cases hlt : k < K
    · have q1 : (x : Int) ≤ (lst : Int) := by have := HC.out; omega
      have qb : 1 ≤ x ∧ x ≤ 255 := by have := HC.out; omega
      have QB := Lib.hid qb
      have q2 : (x : Int) ≤ 255 := by omega
      have q3 : (0 : Int) ≤ (x : Int) := by omega
      have k1 : ∀ [Inhabited Unit], IntKind.u8.wrap (x : Int) = toI (pl x) := by
        intro _
        rw [pl_I (by omega), IntKind.wrap_u8]; omega
      have HVA := Lib.hid (valueO b L n aX cX X aR cR R (pl x) w1 (HF.out.below hB.out) (HX.out.on hB.out) (HR.out.on hB.out) HA.out HC.out.1 HC.out.2.1 HW.out HC.out.2.2.1)
      have HKL := Lib.hid hlt
      have HM := Lib.hid (show valM X (rw_ R) n fst (k + 1) = valM X (rw_ R) n fst k ++ [atR X (rw_ R) (pl x) n] by rw [valM_next, ← hx])
      clear hlt hk hx qb
      go_wp2_with (first
        | (go_at_call 41; go_loud (refine HVA.out.mono ?_; rintro e w3 ⟨v3, rfl, ho3, hb3⟩; obtain ⟨a3, c3, hv3, _, _, _, _, _⟩ := own_form ho3; subst hv3; have HRV := Lib.hid (((hV.out.onN hb3).moreN ho3 hB.out.size).onN ((Below.refl _ _).alloc (Nat.le_refl _) (.cells #[.slice a3 n c3] 23))); have HB3 := Lib.hid (bt hB.out hb3); have HO3 := Lib.hid ((own_belowV hO.out hb3).alloc (.cells #[.slice a3 n c3] 23)); clear ho3 hb3))
        | ((with_reducible show wpList _ _ _ (⟨some 28, _, _, _, _, _⟩ :: _) _ _); go_loud (refine wpList_append_own _ rfl (.tmp 20) (.tmp 27) 22 rfl w.heap.size 23 i22 (.slice none 0 0) 1 24 Try.underlying22 HI.out.1 HI.out.2.1 HI.out.2.2.1 HI.out.2.2.2 rfl (by decide) _ k vs rfl HO3.out _ 1 1 [_] rfl rfl (lit_cellsV _ _ _) (by intro u hu; cases List.mem_singleton.1 hu; rfl) (by unfold maxLen; have := HKL.out; have := HC.out; omega) (by have := HKL.out; have := HC.out; omega) (by have := HB3.out.size; simp; omega) ?_); go_loud (intro v1 wc hown1 hg1 _; have hbel := (HB3.out.alloc HB3.out.size (.cells #[.slice a3 n c3] 23)).grown hg1 (by have := HB3.out.size; simp; omega) (fun z hz => (HO3.out.lt z hz).1); have HRG := Lib.hid (HRV.out.grownN HO3.out (by decide) hg1); obtain ⟨a1, c1, hv1⟩ := own_sliceV hown1; subst hv1; have HO1 := Lib.hid hown1; have HN1 := Lib.hid hbel; clear hown1 hg1 hbel)))
      rw [← HM.out] at HRG
      go_roundw
      case rel => exact ⟨k + 1, x + 1, a1, c1, _, HKL.out, by have := HXE.out; omega, by go_num, rfl, HO1, HRG, HN1⟩
      case measure => simp [intOf]; have := HKL.out; have := HXE.out; have := HC.out; omega
    · obtain rfl : k = K := by omega
      have q1 : ¬ (x : Int) ≤ (lst : Int) := by have := HC.out; omega
      clear hlt
      go_wp2
      go_ret
      exact ⟨_, _, rfl, vs, hO.out, hV.out, hB.out⟩
end Go.Proofs.Ytmhjpdppippgkaa
