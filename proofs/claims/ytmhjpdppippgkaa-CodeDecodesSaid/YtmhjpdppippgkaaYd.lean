/- Contracts of code's encoded, Encode, Piece. -/
import Derived.Test.YtmhjpdppippgkaaYc
namespace Go.Proofs.Ytmhjpdppippgkaa
open Go.ChangeShapes Go.WideShapes Go.ChangeAt Go.RowKit Go.Shelf GF
set_option linter.unusedVariables false
set_option linter.unusedSimpArgs false
set_option maxRecDepth 100000

theorem set_nextY {vs : List Value} {n : Nat} (z v : Value) (h : vs.length < n) : (vs ++ List.replicate (n - vs.length) z).set vs.length v = (vs ++ [v]) ++ List.replicate (n - (vs.length + 1)) z := by
  rw [List.set_append_right _ _ (Nat.le_refl _), Nat.sub_self, show n - vs.length = (n - (vs.length + 1)) + 1 by omega, List.replicate_succ, List.set_cons_zero, List.append_assoc]
  rfl
/-- The first k of t places, and noughts. -/
def plV (P : List GF) (t k : Nat) : List Value := (iL (P.take k)).map (Value.int .u8) ++ List.replicate (t - k) (.int .u8 0)
theorem plV_zero (P : List GF) (t : Nat) : plV P t 0 = (List.replicate t (0 : Int)).map (Value.int .u8) := by simp [plV, iL]
theorem plV_all {P : List GF} {t : Nat} (h : P.length = t) : plV P t t = (iL P).map (Value.int .u8) := by unfold plV; rw [List.take_of_length_le (by omega), Nat.sub_self]; simp
theorem plV_len {P : List GF} {t k : Nat} (h : P.length = t) (hk : k ≤ t) : (plV P t k).length = t := by simp [plV, iL, h]; omega
theorem plV_set {P : List GF} {t k : Nat} (h : P.length = t) (hk : k < t) : (plV P t k).set k (.int .u8 (toI (co P k))) = plV P t (k + 1) := by
  have hl : ((iL (P.take k)).map (Value.int .u8)).length = k := by simp [iL]; omega
  have := set_nextY (vs := (iL (P.take k)).map (Value.int .u8)) (n := t) (.int .u8 0) (.int .u8 (toI (co P k))) (by omega)
  rw [hl] at this
  unfold plV
  rw [this]
  have e : P[k]? = some (co P k) := by rw [List.getElem?_eq_getElem (by omega), co_lt (by omega)]
  rw [List.take_add_one, e]
  simp [iL]
set_option maxHeartbeats 2000000 in
theorem encO (b t n fst lst K : Nat) (N : Int) (aR : Option Addr) (cR : Nat) (R : List (List GF)) (w : World) (hf : Fld w b) (hR : Mat w aR t cR R) (ht : 1 ≤ t) (htN : (t : Int) ≤ N) (ht2 : t ≤ 255) (hw : ∀ k, k < t → (rw_ R k).length = n) (hn : n ≤ 1000) (h1 : 1 ≤ fst) (hl1 : 1 ≤ lst) (h2 : lst ≤ 255) (hK : fst + K = lst + 1) :
    Calls Try.prog 21 #[.pointer (some ⟨b, 0, none⟩), .int .i64 N, .slice aR t cR, .int .i64 (fst : Nat), .int .i64 (lst : Nat)] w fun e w' =>
      ∃ a c, e = .returned (.tuple #[.slice a K c, .int .i64 0]) ∧ ∃ vs, w'.ownsRow w.heap.size 23 1 (.slice a K c) K vs ∧ RV w' (NewU w' w.heap.size) vs (valM (plc t) (rw_ R) n fst K) ∧ Below w.heap.size w w' := by
  have HU := Lib.hid (unev_any aR t cR R false w hR (fun k hk => by rw [hw k hk]; exact hn) ⟨(fun e => by cases e), fun ⟨i, hi, e⟩ => absurd (by rw [hw i hi, hw 0 (by omega)]) e⟩)
  have HP := Lib.hid (can_yes (lst : Int) w (by omega) (by omega))
  have HF := Lib.hid hf; have HR := Lib.hid hR; have HW := Lib.hid hw
  have HC := Lib.hid (And.intro ht (And.intro ht2 (And.intro hn (And.intro h1 (And.intro h2 hK)))))
  have hb2 := hR.bd
  have q1 : ((t : Int) == 0) = false := by rw [beq_eq_false_iff_ne]; omega
  have q2 : ¬ N < (t : Int) := by omega
  have q3 : (t : Int) ≤ 255 := by omega
  have hmk := run_make_row' (P := Try.prog) 23 5 (.int .u8 0) 1 Try.underlying23 info5 rfl .i64 .i64 t (by omega) (by omega)
  clear hf hR hw ht htN ht2 hn h1 hl1 h2 hK
  go_enter Try.func21, Try.ntmps21
  go_wp2_with (first
    | (go_at_call 24; refine HP.out.mono ?_; rintro e w' ⟨rfl, rfl⟩)
    | (go_at_call 27; refine HU.out.mono ?_; rintro e w1 ⟨rfl, hb1⟩; have HB1 := Lib.hid hb1; clear hb1))
  have hO0 : Hid ((w1.alloc (.cells (madeCells #[.int .u8 0] t) 5)).ownsRow w1.heap.size 5 1 (.slice (some ⟨w1.heap.size, 0, none⟩) t t) t (plV (plc t) t 0)) := by
    rw [plV_zero]
    exact Lib.hid (own_made (w := w1) (e := 5) (n := t) (by unfold maxLen; have := HC.out; omega))
  have hB0 : Hid (Below w1.heap.size w1 (w1.alloc (.cells (madeCells #[.int .u8 0] t) 5))) := Lib.hid ((Below.refl _ _).alloc (Nat.le_refl _) _)
  go_loopw [37] (fun j wr => ∃ k : Nat, k ≤ t ∧ j = .int .i64 (k : Nat) ∧ Hid (wr.ownsRow w1.heap.size 5 1 (.slice (some ⟨w1.heap.size, 0, none⟩) t t) t (plV (plc t) t k)) ∧ Hid (Below w1.heap.size w1 wr))
    (fun j _ => t - (intOf j).toNat)
  case atStart => exact ⟨0, Nat.zero_le _, rfl, hO0, hB0⟩
  case round =>
    obtain ⟨k, hk, rfl, hO, hB⟩ := hrel
    rename World => w2
    by_cases hlt : k < t
    · have qi : (k : Int) < (t : Int) := by omega
      have qi0 : (0 : Int) ≤ (k : Int) := by omega
      obtain ⟨I, hI⟩ : ∃ I, I = k + 1 := ⟨_, rfl⟩
      have HIE := Lib.hid hI
      have qI : (k : Int) + 1 = (I : Int) := by omega
      have k1 : ∀ [Inhabited Unit], IntKind.u8.wrap (I : Int) = toI (pl I) := by
        intro _
        rw [pl_I (by have := HC.out; omega), IntKind.wrap_u8]; have := HC.out; omega
      have hfz := hO.out.frozenAt k
      have hcl := hO.out.cellAt k (by omega)
      obtain ⟨vo, hvo⟩ : ∃ v, (plV (plc t) t k)[k]? = some v := ⟨_, List.getElem?_eq_getElem (by rw [plV_len (plc_len t) hk]; exact hlt)⟩
      rw [hvo] at hcl
      have hst := (hO.out.stored k (.int .u8 (toI (pl I)))).1
      rw [show pl I = co (plc t) k by rw [plc_co hlt, hI], plV_set (plc_len t) hlt, plc_co hlt, ← hI] at hst
      have HST := Lib.hid hst
      have HBS := Lib.hid (hB.out.setCell (p := ⟨w1.heap.size, k, none⟩) (Nat.le_refl _) (.int .u8 (toI (pl I))))
      have HLT := Lib.hid hlt
      clear hst hI hlt hk hvo
      go_wp2
      go_roundw
      case rel => exact ⟨I, by have := HLT.out; have := HIE.out; omega, by go_num, by rw [HIE.out]; rw [← HIE.out]; exact HST, HBS⟩
      case measure => simp [intOf]; have := HLT.out; have := HIE.out; omega
    · obtain rfl : k = t := by omega
      have ho := hO.out
      rw [plV_all (plc_len k)] at ho
      have HB2 := Lib.hid (bt HB1.out hB.out)
      have HV := Lib.hid (valuesO b k n fst lst K (some ⟨w1.heap.size, 0, none⟩) k (plc k) aR cR R w2 (HF.out.below HB2.out) (Pa.own2 ho) (HR.out.on HB2.out) (plc_apart HC.out.2.1) HC.out.1 HC.out.2.1 HW.out HC.out.2.2.1 HC.out.2.2.2.1 HC.out.2.2.2.2.1 HC.out.2.2.2.2.2)
      have HKC := Lib.hid hk
      clear ho hlt
      go_wp2_with (go_at_call 29; go_loud (refine HV.out.mono ?_; rintro e w3 ⟨a, c, rfl, vs, ho, hv, hb⟩; have HO3 := Lib.hid (own_base ho HB2.out.size); have HRV := Lib.hid (hv.keep (ok' := NewU w3 w.heap.size) (Nat.le_refl _) (fun b _ h => ⟨⟨Nat.le_trans HB2.out.size h.1, h.2⟩, rfl⟩)); have HB3 := Lib.hid (bt HB2.out hb); clear ho hv hb))
      go_ret2
      exact ⟨_, _, rfl, vs, HO3.out, HRV.out, HB3.out⟩

theorem i64_any {N : Int} (h : (Lit.int .i64 N).wf = true) : -9223372036854775808 ≤ N ∧ N ≤ 9223372036854775807 := by
  simpa [Lit.wf, IntKind.min, IntKind.max, IntKind.signed, IntKind.bits] using h
theorem encArg (t : Nat) (N fst lst : Int) (aR : Option Addr) (cR : Nat) (w : World) :
    Calls Try.prog 21 #[.pointer none, .int .i64 N, .slice aR t cR, .int .i64 fst, .int .i64 lst] w fun e w' => e = .returned (.tuple #[.slice none 0 0, .int .i64 1]) ∧ w = w' := by
  go_enter Try.func21, Try.ntmps21
  go_wp2
  go_ret2
  exact ⟨rfl, rfl⟩
theorem encRange (b t : Nat) (N fst lst : Int) (aR : Option Addr) (cR : Nat) (w : World) (hb2 : t ≤ cR ∧ cR ≤ 9223372036854775807) (h : lst < 1 ∨ 255 < lst ∨ t = 0 ∨ N < t) :
    Calls Try.prog 21 #[.pointer (some ⟨b, 0, none⟩), .int .i64 N, .slice aR t cR, .int .i64 fst, .int .i64 lst] w fun e w' => e = .returned (.tuple #[.slice none 0 0, .int .i64 2]) ∧ w = w' := by
  by_cases h1 : lst < 1 ∨ 255 < lst
  · have HP := Lib.hid (can_no lst w h1)
    clear h h1
    go_enter Try.func21, Try.ntmps21
    go_wp2_with (go_at_call 24; refine HP.out.mono ?_; rintro e w' ⟨rfl, rfl⟩)
    go_ret2
    exact ⟨rfl, rfl⟩
  · have HP := Lib.hid (can_yes lst w (by omega) (by omega))
    by_cases h2 : t = 0
    · subst h2
      clear h h1
      go_enter Try.func21, Try.ntmps21
      go_wp2_with (go_at_call 24; refine HP.out.mono ?_; rintro e w' ⟨rfl, rfl⟩)
      go_ret2
      exact ⟨rfl, rfl⟩
    · have q1 : ((t : Int) == 0) = false := by rw [beq_eq_false_iff_ne]; omega
      have q2 : N < (t : Int) := by omega
      clear h h1 h2
      go_enter Try.func21, Try.ntmps21
      go_wp2_with (go_at_call 24; refine HP.out.mono ?_; rintro e w' ⟨rfl, rfl⟩)
      go_ret2
      exact ⟨rfl, rfl⟩
theorem encForm (b t : Nat) (N fst : Int) (lst : Int) (aR : Option Addr) (cR : Nat) (R : List (List GF)) (w : World) (hR : Mat w aR t cR R) (ht : 1 ≤ t) (htN : (t : Int) ≤ N) (h1 : 1 ≤ lst) (h2 : lst ≤ 255) (hu : unl R t = true) (hw : ∀ k, k < t → (rw_ R k).length ≤ 1000) :
    Calls Try.prog 21 #[.pointer (some ⟨b, 0, none⟩), .int .i64 N, .slice aR t cR, .int .i64 fst, .int .i64 lst] w fun e w' => e = .returned (.tuple #[.slice none 0 0, .int .i64 3]) ∧ Below w.heap.size w w' := by
  have HP := Lib.hid (can_yes lst w h1 h2)
  have HU := Lib.hid (unev_any aR t cR R true w hR hw ⟨fun _ => (unl_take (by rw [hR.len]; exact Nat.le_refl _)).1 hu, fun _ => rfl⟩)
  have hb2 := hR.bd
  have q1 : ((t : Int) == 0) = false := by rw [beq_eq_false_iff_ne]; omega
  have q2 : ¬ N < (t : Int) := by omega
  clear hR ht htN h1 h2 hu hw
  go_enter Try.func21, Try.ntmps21
  go_wp2_with (first
    | (go_at_call 24; refine HP.out.mono ?_; rintro e w' ⟨rfl, rfl⟩)
    | (go_at_call 27; refine HU.out.mono ?_; rintro e w1 ⟨rfl, hb1⟩; have HB1 := Lib.hid hb1; clear hb1))
  go_ret2
  exact ⟨rfl, HB1.out⟩
/-- Rows of one's own, as rows of new memory. -/
theorem MatB.ofOk {w : World} {B n c : Nat} {a : Option Addr} {vs : List Value} {M : List (List GF)} {ok : Nat → Prop} (h : w.ownsRow B 23 1 (.slice a n c) n vs) (hv : RV w ok vs M) (hok : ∀ b, ok b → B ≤ b) : MatB w B a n c M := by
  have hl : M.length = n := by rw [← hv.1, h.1, Nat.mul_one]
  have hv2 := hv.keep (w' := w) (ok' := fun b => B ≤ b) (Nat.le_refl _) (fun b _ hb => ⟨hok b hb, rfl⟩)
  rcases h.2 with ⟨e, h0⟩ | ⟨g, cap, cur, e, hg, hh, h4, h5, _⟩
  · cases e
    exact ⟨hl, Nat.le_refl _, Nat.zero_le _, fun _ => rfl, vs, hv2, fun h => absurd h (by omega)⟩
  · cases e
    exact ⟨hl, h4, h5, (fun e => by cases e), vs, hv2, fun h0 => ⟨g, 0, rfl, (Array.getElem?_eq_some_iff.1 hh).1, hg, fun i hi => by rw [Nat.zero_add]; exact h.cellAt i (by omega)⟩⟩
theorem MatB.ofNew {w : World} {B n c : Nat} {a : Option Addr} {vs : List Value} {M : List (List GF)} (h : w.ownsRow B 23 1 (.slice a n c) n vs) (hv : RV w (NewU w B) vs M) : MatB w B a n c M := MatB.ofOk h hv fun _ hb => hb.1
theorem valM_enc {R : List (List GF)} {t : Nat} (h : R.length = t) (n N : Nat) : valM (plc t) (rw_ R) n 1 N = encM R n N := by
  unfold valM encM pcR
  rw [h]
  exact List.map_congr_left fun i _ => by rw [Nat.add_comm 1 i]
theorem encodeC : EncodeC := by
  intro b t N n aR cR R w hf hR ht htN hN hw hn
  have H := Lib.hid (encO b t n 1 N N (N : Int) aR cR R w hf hR ht (by omega) (by omega) hw hn (Nat.le_refl _) (by omega) hN (Nat.add_comm 1 N))
  have HL := Lib.hid hR.len
  have hb2 := hR.bd
  clear hf hR ht htN hN hw hn
  go_enter Try.func11, Try.ntmps11
  go_wp2_with (go_at_call 21; go_loud (refine H.out.mono ?_; rintro e w3 ⟨a, c, rfl, vs, ho, hv, hb⟩; have HM := Lib.hid (MatB.ofNew ho hv); have HB := Lib.hid hb; clear ho hv hb))
  go_ret2
  exact ⟨_, _, rfl, by rw [← valM_enc HL.out]; exact HM.out, HB.out⟩
theorem encodeRangeC : EncodeRangeC := by
  intro b t N aR cR R w hf hR _ h ht hw
  have H := Lib.hid (encRange b t N 1 N aR cR w hR.bd (by omega))
  have hb2 := hR.bd
  clear hf hR h hw
  go_enter Try.func11, Try.ntmps11
  go_wp2_with (go_at_call 21; go_loud (refine H.out.mono ?_; rintro e w3 ⟨rfl, rfl⟩))
  go_ret2
  exact ⟨_, _, rfl, Below.refl _ _⟩
theorem encodeFormC : EncodeFormC := by
  intro b t N aR cR R w hf hR ht htN hN hu hw
  have H := Lib.hid (encForm b t (N : Int) 1 (N : Int) aR cR R w hR ht (by omega) (by omega) (by omega) hu hw)
  have hb2 := hR.bd
  clear hf hR ht htN hN hu hw
  go_enter Try.func11, Try.ntmps11
  go_wp2_with (go_at_call 21; go_loud (refine H.out.mono ?_; rintro e w3 ⟨rfl, hb⟩))
  go_ret2
  exact ⟨_, _, rfl, hb⟩
theorem encodeArgC : EncodeArgC := by
  intro t N aR cR R w hR _ _ _
  have H := Lib.hid (encArg t N 1 N aR cR w)
  have hb2 := hR.bd
  clear hR
  go_enter Try.func11, Try.ntmps11
  go_wp2_with (go_at_call 21; go_loud (refine H.out.mono ?_; rintro e w3 ⟨rfl, rfl⟩))
  go_ret2
  exact ⟨_, rfl, Below.refl _ _⟩
/-! ## Piece -/
theorem own_firstV {w : World} {base c : Nat} {e : TypeId} {a : Option Addr} {vs : List Value} (h : w.ownsRow base e 1 (.slice a 1 c) 1 vs) : ∃ g, a = some ⟨g, 0, none⟩ ∧ 1 ≤ c ∧ c ≤ 9223372036854775807 ∧ w.cell? ⟨g, 0, none⟩ = vs[0]? := by
  rcases h.2 with ⟨e, h0⟩ | ⟨g, cap, cur, e, hg, hh, h4, h5, _⟩
  · omega
  · cases e
    exact ⟨g, rfl, h4, by unfold maxLen at h5; omega, h.cellAt 0 (by omega)⟩
theorem pieceUC : PieceUC := by
  intro b t x n aR cR R w hf hR ht ht2 hx hx2 hw hn
  have H := Lib.hid (encO b t n x x 1 255 aR cR R w hf hR ht (by omega) ht2 hw hn hx hx hx2 rfl)
  have HL := Lib.hid hR.len
  have hb2 := hR.bd
  have qx : (x : Int) ≤ 255 := by omega
  have qx1 : (1 : Int) ≤ (x : Int) := by omega
  clear hf hR ht ht2 hx hx2 hw hn
  go_enter Try.func12, Try.ntmps12
  go_wp2_with (go_at_call 21; go_loud (refine H.out.mono ?_; rintro e w3 ⟨a, c, rfl, vs, ho, hv, hb⟩; obtain ⟨g, rfl, hc1, hc2, hc⟩ := own_firstV ho; obtain ⟨a1, c1, h1, h2, h3, h4, h5⟩ := hv.2 0 (by rw [valM_len]; omega); have hrow : rw_ (valM (plc t) (rw_ R) n x 1) 0 = pcR R n (pl x) := (by unfold pcR; rw [HL.out]; rfl); rw [hrow, pcR_len] at h1 h2 h5; rw [h1] at hc; have HP := Lib.hid (show Pa w3 a1 n c1 (pcR R n (pl x)) from ⟨⟨by rw [length_iL, pcR_len], allB_iL _, fun h0 => (by rw [length_iL, pcR_len] at h0; obtain ⟨b, off, e, hb, _, hcc⟩ := h5 h0; exact ⟨b, off, e, hb, fun j hj => by rw [length_iL, pcR_len] at hj; rw [getD_iL]; exact hcc j hj⟩), h2, h3⟩, h4⟩); have HT := Lib.hid (show ∀ g o, a1 = some ⟨g, o, none⟩ → 0 < n → TyU w3 g from fun g o e h0 => (by obtain ⟨b, off, e2, _, hnew, _⟩ := h5 h0; rw [e] at e2; cases e2; exact hnew.2)); have HB := Lib.hid hb; have hd3 : n ≤ c1 ∧ c1 ≤ 9223372036854775807 := ⟨h2, (by unfold maxLen at h3; omega)⟩; clear ho hv hb h1 h2 h3 h4 h5 hrow))
  go_ret2
  exact ⟨_, _, rfl, HP.out, HT.out, HB.out⟩
theorem pieceC : PieceC := fun b t x n aR cR R w hf hR ht ht2 hx hx2 hw hn =>
  (pieceUC b t x n aR cR R w hf hR ht ht2 hx hx2 hw hn).mono fun e w' ⟨a, c, h1, h2, _, h4⟩ => ⟨a, c, h1, h2, h4⟩
theorem pieceRangeC : PieceRangeC := by
  intro b t x aR cR R w hf hR _ h ht hw
  have H := Lib.hid (encRange b t 255 x x aR cR w hR.bd (by omega))
  have hb2 := hR.bd
  clear hf hR h hw
  go_enter Try.func12, Try.ntmps12
  go_wp2_with (go_at_call 21; go_loud (refine H.out.mono ?_; rintro e w3 ⟨rfl, rfl⟩))
  go_ret2
  exact ⟨_, _, rfl, Below.refl _ _⟩
theorem pieceFormC : PieceFormC := by
  intro b t x aR cR R w hf hR ht ht2 hx hx2 hu hw
  have H := Lib.hid (encForm b t 255 (x : Int) (x : Int) aR cR R w hR ht (by omega) (by omega) (by omega) hu hw)
  have hb2 := hR.bd
  clear hf hR ht ht2 hx hx2 hu hw
  go_enter Try.func12, Try.ntmps12
  go_wp2_with (go_at_call 21; go_loud (refine H.out.mono ?_; rintro e w3 ⟨rfl, hb⟩))
  go_ret2
  exact ⟨_, _, rfl, hb⟩
theorem pieceArgC : PieceArgC := by
  intro t x aR cR R w hR _ _ _
  have H := Lib.hid (encArg t 255 x x aR cR w)
  have hb2 := hR.bd
  clear hR
  go_enter Try.func12, Try.ntmps12
  go_wp2_with (go_at_call 21; go_loud (refine H.out.mono ?_; rintro e w3 ⟨rfl, rfl⟩))
  go_ret2
  exact ⟨_, rfl, Below.refl _ _⟩
end Go.Proofs.Ytmhjpdppippgkaa
