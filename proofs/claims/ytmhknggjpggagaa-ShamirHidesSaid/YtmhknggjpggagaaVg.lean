/- Shamir's Split, Share, Delta: the contracts proved. -/
import Derived.Test.YtmhknggjpggagaaVa
import Derived.Test.YtmhknggjpggagaaVf
namespace Go.Proofs.Ytmhknggjpggagaa
open Go.ChangeShapes Go.WideShapes Go.ChangeAt Go.RowKit Go.Shelf GF
set_option linter.unusedVariables false
set_option linter.unusedSimpArgs false
set_option maxRecDepth 100000

theorem i64_wfV {n : Int} (h0 : -1000 ≤ n) (h1 : n ≤ 1000) : (Lit.int .i64 n).wf = true := by
  simp only [Lit.wf, IntKind.min, IntKind.max, IntKind.signed, IntKind.bits, Bool.and_eq_true]
  simp
  omega
theorem own_madeR {w : World} {n : Nat} (hm : n ≤ maxLen) :
    (w.alloc (.cells (madeCells #[Value.slice none 0 0] n) 22)).ownsRow w.heap.size 22 1 (.slice (some ⟨w.heap.size, 0, none⟩) n n) n (List.replicate n (.slice none 0 0)) := by
  have := World.ownsRow_lit (base := w.heap.size) (e := 22) (size := 1) w (madeCells #[Value.slice none 0 0] n) n (Nat.le_refl _) hm (by simp [size_madeCells])
  rw [toList_madeCells_one] at this
  exact this
theorem set_next {vs : List Value} {n : Nat} (z v : Value) (h : vs.length < n) : (vs ++ List.replicate (n - vs.length) z).set vs.length v = (vs ++ [v]) ++ List.replicate (n - (vs.length + 1)) z := by
  rw [List.set_append_right _ _ (Nat.le_refl _), Nat.sub_self, show n - vs.length = (n - (vs.length + 1)) + 1 by omega, List.replicate_succ, List.set_cons_zero, List.append_assoc]
  rfl
theorem shM_take {t n k : Nat} {S M X : List GF} (h : k < X.length) : (shM t n S M X).take (k + 1) = (shM t n S M X).take k ++ [shR t n S M (co X k)] := by
  refine take_stepV ?_
  have e := shM_row (t := t) (n := n) (S := S) (M := M) h
  unfold rw_ at e
  rw [← e]
  simp [List.getD_eq_getElem?_getD, shM_len, h]
/-- Rows of one's own behind a block, as rows of new memory. -/
theorem MatB.ofOwn {w : World} {B g n : Nat} {vs : List Value} {M : List (List GF)} {ok : Nat → Prop} (h : w.ownsRow B 22 1 (.slice (some ⟨g, 0, none⟩) n n) n vs) (hv : RV w ok vs M) (hok : ∀ b, ok b → B ≤ b) : MatB w B (some ⟨g, 0, none⟩) n n M := by
  have hl : M.length = n := by rw [← hv.1, h.1, Nat.mul_one]
  have hg := h.lt g rfl
  refine ⟨hl, Nat.le_refl _, ?_, (fun e => by cases e), vs, hv.keep (Nat.le_refl _) (fun b _ hb => ⟨hok b hb, rfl⟩), fun h0 => ⟨g, 0, rfl, hg.2, hg.1, fun i hi => ?_⟩⟩
  · rcases h.2 with ⟨e, _⟩ | ⟨g', c, cur, e, _, _, h4, h5, _⟩
    · cases e
    · cases e; exact h5
  · rw [Nat.zero_add]; exact h.cellAt i (by omega)

set_option maxHeartbeats 2000000 in
theorem splitC : SplitC := by
  intro b t n m L aS cS S aM cM M aX cX X w hf hS hM hX ht1 ht2 hm hz hn hL
  have HCH := Lib.hid (chk_ok ⟨b, 0, none⟩ t n m aM cM aX L cX X w hX ht1 ht2 hn hz hm hM.bd)
  have HDE := Lib.hid (dealing_any t n m aS cS S aM cM M w hS hM ht1 ht2 hm hn)
  have HWD := Lib.hid (fun k (hk : k < t) => dR_wide hS.len hM.len ht1 hm hk)
  have HF := Lib.hid hf
  have HX := Lib.hid hX
  have HXL := Lib.hid hX.len
  have HT := Lib.hid (And.intro ht1 ht2)
  have HN := Lib.hid hn
  have HL := Lib.hid hL
  have hsb := hS.bd
  have hmb := hM.bd
  have hxb := hX.bd
  have hmk := run_make_row' (P := Try.prog) 28 22 (.slice none 0 0) 24 Try.underlying28 infoR rfl .i64 .i64 L (by omega) (by omega)
  clear hf hS hM hX ht1 ht2 hm hz hn hL
  go_enter Try.func12, Try.ntmps12
  go_wp2_with (first
    | (go_at_call 27; refine HCH.out.mono ?_; rintro e w' ⟨rfl, rfl⟩)
    | (go_at_call 28; refine HDE.out.mono ?_; rintro e w1 ⟨aR, cR, rfl, hmat, hb1⟩; have HMAT := Lib.hid hmat; have HB1 := Lib.hid hb1; clear hmat hb1))
  have hO0 : Hid ((w1.alloc (.cells (madeCells #[Value.slice none 0 0] L) 22)).ownsRow w1.heap.size 22 1 (.slice (some ⟨w1.heap.size, 0, none⟩) L L) L ([] ++ List.replicate (L - ([] : List Value).length) (.slice none 0 0))) :=
    Lib.hid (own_madeR (w := w1) (n := L) (by unfold maxLen; have := HL.out; omega))
  have hB0 : Hid (Below w1.heap.size w1 (w1.alloc (.cells (madeCells #[Value.slice none 0 0] L) 22))) := Lib.hid ((Below.refl _ _).alloc (Nat.le_refl _) _)
  go_loopw [36] (fun j wr => ∃ (i : Nat) (vs : List Value), i ≤ L ∧ vs.length = i ∧ j = .int .i64 (i : Nat) ∧ Hid (wr.ownsRow w1.heap.size 22 1 (.slice (some ⟨w1.heap.size, 0, none⟩) L L) L (vs ++ List.replicate (L - vs.length) (.slice none 0 0))) ∧ Hid (RV wr (fun b => w1.heap.size < b) vs ((shM t n S M X).take i)) ∧ Hid (Below w1.heap.size w1 wr))
    (fun j _ => L - (intOf j).toNat)
  case atStart => exact ⟨0, [], Nat.zero_le _, rfl, rfl, hO0, Lib.hid (RV.nil _ _), hB0⟩
  case round =>
    obtain ⟨i, vs, hi, hvl, rfl, hO, hV, hB⟩ := hrel
    rename World => w2
    by_cases hlt : i < L
    · obtain ⟨bx, ox, rfl, hbx, hcx⟩ := (HX.out.on (bt HB1.out hB.out)).at_ hlt
      have qi : (i : Int) < (L : Int) := by omega
      have qi0 : (0 : Int) ≤ (i : Int) := by omega
      have HVA := Lib.hid (value_any b t n aR cR (dR t n S M) (co X i) w2 (HF.out.below (bt HB1.out hB.out)) (HMAT.out.on hB.out) HWD.out HT.out.1 HT.out.2 HN.out)
      rw [valR_dR _ HT.out.1] at HVA
      have HVL := Lib.hid hvl
      clear hvl
      have hgs := (hO.out.lt w1.heap.size rfl).2
      go_wp2_with (go_at_call 29; refine HVA.out.mono ?_; rintro e w3 ⟨aV, cV, rfl, hpv, hnew, hb3⟩; have HPV := Lib.hid hpv; have HNEW := Lib.hid hnew; have HB3 := Lib.hid hb3; have HO3 := Lib.hid (own_belowV hO.out hb3); have hfz := HO3.out.frozenAt i; have hcl := HO3.out.cellAt i (by have := HVL.out; simp; omega); rw [List.getElem?_eq_getElem (by have := HVL.out; simp; omega)] at hcl; clear hpv hnew hb3)
      have hst := (HO3.out.stored i (.slice aV n cV)).1
      have hsn := set_next (vs := vs) (n := L) (.slice none 0 0) (.slice aV n cV) (by rw [HVL.out]; exact hlt)
      rw [HVL.out] at hsn hst
      rw [hsn] at hst
      have hpv : Pa (w3.setCell ⟨w1.heap.size, i, none⟩ (.slice aV n cV)) aV n cV (shR t n S M (co X i)) := HPV.out.but (gb_set _ _ _ _) (fun bb off e => by have := HNEW.out bb off e; omega)
      have hrv : RV (w3.setCell ⟨w1.heap.size, i, none⟩ (.slice aV n cV)) (fun b => w1.heap.size < b) vs ((shM t n S M X).take i) := hV.out.keep (by have := HB3.out.size; simp; omega) (fun b h1 h2 => ⟨h2, by rw [Below.heap_setCell _ _ _ _ (by show b ≠ w1.heap.size; omega)]; exact HB3.out.block b h1⟩)
      have hl := shR_len t n S M (co X i)
      have hmo := hrv.more (P := shR t n S M (co X i)) (a := aV) (c := cV) (by rw [hl]; exact hpv) (fun bb off e _ => by have := HNEW.out bb off e; omega)
      rw [hl, ← shM_take (by rw [HXL.out]; exact hlt)] at hmo
      have HST := Lib.hid hst; have HMO := Lib.hid hmo
      have HBN := Lib.hid ((hB.out.trans (HB3.out.mono (by omega))).setCell (p := ⟨w1.heap.size, i, none⟩) (Nat.le_refl _) (.slice aV n cV))
      have hl2 : (vs ++ [Value.slice aV n cV]).length = i + 1 := by rw [List.length_append, HVL.out]; rfl
      clear hst hsn hpv hrv hl hmo
      exact ⟨⟨i + 1, vs ++ [.slice aV n cV], by omega, hl2, by go_num, by rw [hl2]; exact HST, HMO, HBN⟩, by simp [intOf]; omega⟩
    · obtain rfl : L = i := by omega
      have ho := hO.out
      have hv := hV.out
      rw [hvl, Nat.sub_self, List.replicate_zero, List.append_nil] at ho
      rw [List.take_of_length_le (by rw [shM_len, HXL.out]; exact Nat.le_refl _)] at hv
      have HMB := Lib.hid (MatB.ofOwn (own_base ho HB1.out.size) hv (fun b hb => by have := HB1.out.size; omega))
      have HBF := Lib.hid (bt HB1.out hB.out)
      clear ho hv hvl
      go_wp2
      go_ret2
      exact ⟨_, _, rfl, HMB.out, HBF.out⟩
theorem splitRangeC : SplitRangeC := by
  intro b n m L t aS cS S aM cM M aX cX X w hf hS hM hX _ h hn hL
  have HCH := Lib.hid (chk_range ⟨b, 0, none⟩ t n (.slice aM m cM) aX L cX X w hX (by rcases h with h | h | h <;> simp [h]))
  have hsb := hS.bd
  clear hf hS hM hX h
  go_enter Try.func12, Try.ntmps12
  go_wp2_with (go_at_call 27; refine HCH.out.mono ?_; rintro e w' ⟨rfl, rfl⟩)
  go_ret2
  exact ⟨_, _, rfl, Below.refl _ _⟩
theorem splitFormC : SplitFormC := by
  intro b t n m L aS cS S aM cM M aX cX X w hf hS hM hX ht1 ht2 hz hm hn hL
  have HCH := Lib.hid (chk_form ⟨b, 0, none⟩ t n m aM cM aX L cX X w hX ht1 ht2 hn hz hm hM.bd)
  have hsb := hS.bd
  clear hf hS hM hX hz hm
  go_enter Try.func12, Try.ntmps12
  go_wp2_with (go_at_call 27; refine HCH.out.mono ?_; rintro e w' ⟨rfl, rfl⟩)
  go_ret2
  exact ⟨_, _, rfl, Below.refl _ _⟩
theorem splitArgC : SplitArgC := by
  intro t n m L aS cS S aM cM M aX cX X w hS hM hX ht1 ht2 hn hL
  have HCH := Lib.hid (fun a b c d => chk_nil a b c d w)
  have hsb := hS.bd
  clear hS hM hX
  go_enter Try.func12, Try.ntmps12
  go_wp2_with (go_at_call 27; refine (HCH.out _ _ _ _).mono ?_; rintro e w' ⟨rfl, rfl⟩)
  go_ret2
  exact ⟨_, rfl, Below.refl _ _⟩
theorem shareC : ShareC := by
  intro b t n m aS cS S aM cM M x w hf hS hM ht1 ht2 hm hx hn
  have hb1 : Below w.heap.size w (w.alloc (.cells #[.int .u8 (toI x)] 5)) := (Below.refl _ _).alloc (Nat.le_refl _) _
  have hx1 : Pa (w.alloc (.cells #[.int .u8 (toI x)] 5)) (some ⟨w.heap.size, 0, none⟩) 1 1 [x] := Pa.own2 (own_oneG w 5 x)
  have HSP := Lib.hid (splitC b t n m 1 aS cS S aM cM M (some ⟨w.heap.size, 0, none⟩) 1 [x] _ (hf.below hb1) (hS.on hb1) (hM.on hb1) hx1 ht1 ht2 hm (fun k hk => by
    obtain rfl : k = 0 := by omega
    exact hx) hn (by omega))
  have HB1 := Lib.hid hb1
  have hsb := hS.bd
  clear hf hS hM ht1 ht2 hm hx hn hb1 hx1
  go_enter Try.func15, Try.ntmps15
  go_wp2_with (go_at_call 12; refine HSP.out.mono ?_; rintro e w2 ⟨a2, c2, rfl, hm2, hb2⟩; obtain ⟨bb, oo, a0, c0, rfl, hbb, hr0, hp0⟩ := hm2.mat.row (i := 0) (by omega); have HB2 := Lib.hid (bt HB1.out hb2); rw [rw_shM_len (by simp), Nat.add_zero] at hr0; rw [rw_shM_len (by simp), shM_row (by simp)] at hp0; have HP0 := Lib.hid hp0; have hbd := hm2.mat.bd; clear hm2 hb2 hp0)
  go_ret2
  exact ⟨_, _, rfl, HP0.out, HB2.out⟩
theorem shareZeroC : ShareZeroC := by
  intro b t n m aS cS S aM cM M w hf hS hM ht1 ht2 hn
  have hb1 : Below w.heap.size w (w.alloc (.cells #[.int .u8 0] 5)) := (Below.refl _ _).alloc (Nat.le_refl _) _
  have hx1 : Pa (w.alloc (.cells #[.int .u8 0] 5)) (some ⟨w.heap.size, 0, none⟩) 1 1 [0] := Pa.own2 (own_oneG w 5 0)
  have HSP := Lib.hid (splitRangeC b n m 1 (t : Int) aS cS S aM cM M (some ⟨w.heap.size, 0, none⟩) 1 [0] _ (hf.below hb1) (hS.on hb1) (hM.on hb1) hx1 (i64_wfV (by omega) (by omega)) (.inr (.inr ⟨0, by omega, rfl⟩)) hn (by omega))
  have HB1 := Lib.hid hb1
  have hsb := hS.bd
  clear hf hS hM ht1 ht2 hn hb1 hx1
  go_enter Try.func15, Try.ntmps15
  go_wp2_with (go_at_call 12; refine HSP.out.mono ?_; rintro e w2 ⟨a2, c2, rfl, hb2⟩; have HB2 := Lib.hid (bt HB1.out hb2); clear hb2)
  go_ret2
  exact ⟨_, rfl, HB2.out⟩
theorem quo_del {L n : Nat} (h0 : 1 ≤ L) (h1 : L ≤ 255) (hn : n ≤ 1000) : ∃ Q : Int, Int.tdiv 2147483647 (L : Int) = Q ∧ ¬ Q < (n : Int) ∧ 0 ≤ Q ∧ Q ≤ 2147483647 := by
  refine ⟨_, rfl, ?_⟩
  rw [Int.tdiv_eq_ediv_of_nonneg (by omega)]
  have h : (8421504 : Int) ≤ 2147483647 / (L : Int) := by
    rw [Int.le_ediv_iff_mul_le (by omega)]
    omega
  have h3 : (2147483647 : Int) / (L : Int) ≤ 2147483647 := Int.ediv_le_self _ (by omega)
  omega
theorem MatB.low {w : World} {B B' : Nat} {a : Option Addr} {n c : Nat} {M : List (List GF)} (h : MatB w B a n c M) (hB : B' ≤ B) : MatB w B' a n c M := by
  obtain ⟨k1, k2, k3, k4, vs, k5, k6⟩ := h
  refine ⟨k1, k2, k3, k4, vs, k5.keep (Nat.le_refl _) (fun b _ hb => ⟨Nat.le_trans hB hb, rfl⟩), fun h => ?_⟩
  obtain ⟨b, off, e, h1, h2, h3⟩ := k6 h
  exact ⟨b, off, e, h1, Nat.le_trans hB h2, h3⟩
theorem deltaC : DeltaC := by
  intro b t n m L aM cM M aX cX X w hf hM hX ht1 ht2 hm hz hn hL
  have HCH := Lib.hid (chk_ok ⟨b, 0, none⟩ t n m aM cM aX L cX X w hX ht1 ht2 hn hz hm hM.bd)
  have hmb := hM.bd
  have hxb := hX.bd
  rcases Nat.eq_zero_or_pos L with h0 | h0
  · have HXL := Lib.hid hX.len
    clear hf hM hX hm hz
    subst h0
    go_enter Try.func21, Try.ntmps21
    go_wp2_with (go_at_call 27; refine HCH.out.mono ?_; rintro e w' ⟨rfl, rfl⟩)
    go_ret2
    exact ⟨_, _, rfl, ⟨by rw [shM_len, HXL.out], Nat.le_refl _, Nat.zero_le _, fun _ => rfl, [], by rw [show shM t n (noR n) M X = [] from List.eq_nil_of_length_eq_zero (by rw [shM_len, HXL.out])]; exact RV.nil _ _, fun h => absurd h (by omega)⟩, Below.refl _ _⟩
  · obtain ⟨Q, hQ, q1, q2, q3⟩ := quo_del h0 hL hn
    have q4 : ((L : Int) == 0) = false := by rw [beq_eq_false_iff_ne]; omega
    have q5 : (1 : Int) ≤ (L : Int) := by omega
    have hmk := run_make_row' (P := Try.prog) 22 5 (.int .u8 0) 1 Try.underlying22 info5 rfl .i64 .i64 n (by omega) (by omega)
    have hb1 : Below w.heap.size w (w.alloc (.cells (madeCells #[.int .u8 0] n) 5)) := (Below.refl _ _).alloc (Nat.le_refl _) _
    have hno : (List.replicate n (0 : Int)) = iL (noR n) := by
      refine list_ext_getD (by rw [length_iL]; simp [noR]) fun i hi => ?_
      rw [getD_iL, noR_co]
      simp at hi
      simp [List.getD_eq_getElem?_getD, hi]
      rfl
    have ho := own_made (w := w) (e := 5) (n := n) (by unfold maxLen; omega)
    rw [hno] at ho
    have HSP := Lib.hid (splitC b t n m L (some ⟨w.heap.size, 0, none⟩) n (noR n) aM cM M aX cX X _ (hf.below hb1) (Pa.own2 ho) (hM.on hb1) (hX.on hb1) ht1 ht2 hm hz hn hL)
    have HB1 := Lib.hid hb1
    have HN := Lib.hid hn
    clear hf hM hX ht1 ht2 hm hz hb1 hno ho
    go_enter Try.func21, Try.ntmps21
    go_wp2_with (first
      | (go_at_call 27; refine HCH.out.mono ?_; rintro e w' ⟨rfl, rfl⟩)
      | (go_at_call 12; go_loud (refine HSP.out.mono ?_; rintro e w2 ⟨a2, c2, rfl, hm2, hb2⟩; have HM2 := Lib.hid hm2; have HB2 := Lib.hid (bt HB1.out hb2); clear hm2 hb2)))
    go_ret2
    exact ⟨_, _, rfl, HM2.out.low (by simp), HB2.out⟩
end Go.Proofs.Ytmhknggjpggagaa
