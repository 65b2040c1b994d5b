/- CodeDecodes' walk, under the contracts. -/
import Derived.Test.YtmhjpdppippgkaaEc
import Derived.Deep.QuietTactic
import Derived.Deep.RegionHeld
import Derived.StillTailTactics
namespace Go.Proofs.Ytmhjpdppippgkaa
open Go.ChangeShapes Go.WideShapes Go.ChangeAt Go.RowKit Go.Shelf GF
set_option linter.unusedVariables false
set_option linter.unusedSimpArgs false
set_option maxRecDepth 100000

/-- The first places and pieces. -/
def zsO (O : List GF) (i : Nat) : List Int := (O.take i).map toI
def pcO (P : List (List GF)) (n : Nat) (O : List GF) (i : Nat) : List (List GF) := (O.take i).map (pcR P n)
theorem take_coO {O : List GF} {i : Nat} (h : i < O.length) : O.take (i + 1) = O.take i ++ [co O i] := take_stepV (by rw [co_lt h]; exact List.getElem?_eq_getElem h)
theorem zsO_next {O : List GF} {i : Nat} (h : i < O.length) : intsV (zsO O (i + 1)) = intsV (zsO O i) ++ [.int .i64 (toI (co O i))] := by
  unfold zsO intsV; rw [take_coO h]; simp
theorem pcO_next {P : List (List GF)} {n : Nat} {O : List GF} {i : Nat} (h : i < O.length) : pcO P n O (i + 1) = pcO P n O i ++ [pcR P n (co O i)] := by
  unfold pcO; rw [take_coO h]; simp
theorem infoI : (Try.prog.info? 3).map (fun i => (i.zero, i.size, i.bytes)) = some (some (.int .i64 0), 1, 8) := by kernel_rfl
theorem own_capV {w : World} {base s n k c : Nat} {e : TypeId} {a : Option Addr} {xs : List Value} (h : w.ownsRow base e s (.slice a k c) n xs) : k ≤ c ∧ c ≤ 9223372036854775807 := by
  rcases h.2 with ⟨e, h0⟩ | ⟨g, c', cur, e, _, _, h4, h5, _⟩
  · cases e; omega
  · cases e; exact ⟨h4, by unfold maxLen at h5; omega⟩
theorem IA.ownS {w : World} {base n c : Nat} {a : Option Addr} {zs : List Int} (h : w.ownsRow base 3 1 (.slice a n c) n (intsV zs)) (hz : ∀ z, z ∈ zs → 0 ≤ z ∧ z < 256) : IA w a n c zs := by
  obtain ⟨a', c', e, hi⟩ := IA.own h hz
  cases e; exact hi
theorem Mat.ownS {w : World} {base n c : Nat} {e : TypeId} {a : Option Addr} {vs : List Value} {ok : Nat → Prop} {M : List (List GF)} (h : w.ownsRow base e 1 (.slice a n c) n vs) (hv : RV w ok vs M) : Mat w a n c M := by
  obtain ⟨a', c', e, hi⟩ := Mat.own h hv
  cases e; exact hi
theorem own_someS {w : World} {base n c : Nat} {e : TypeId} {a : Option Addr} {xs : List Value} (h : w.ownsRow base e 1 (.slice a n c) n xs) (h0 : 0 < n) : ∃ g, a = some ⟨g, 0, none⟩ := by
  rcases h.2 with ⟨_, h1⟩ | ⟨g, c, cur, e, _⟩
  · omega
  · cases e; exact ⟨g, rfl⟩
theorem zsO_bd {O : List GF} {i : Nat} : ∀ z, z ∈ zsO O i → 0 ≤ z ∧ z < 256 := fun z hz => by
  obtain ⟨x, _, rfl⟩ := List.mem_map.1 hz
  exact toI_bd x
theorem zsO_get {O : List GF} {T i : Nat} (h : i < T) (hO : O.length = T) : (zsO O T).getD i 0 = toI (co O i) := by
  have h2 : i < O.length := by omega
  unfold zsO
  rw [co_lt h2]
  simp [List.getD_eq_getElem?_getD, List.getElem?_take, h, List.getElem?_eq_getElem h2]
theorem pcO_get {P : List (List GF)} {n : Nat} {O : List GF} {T i : Nat} (h : i < T) (hO : O.length = T) : rw_ (pcO P n O T) i = pcR P n (co O i) := by
  have h2 : i < O.length := by omega
  unfold pcO rw_
  rw [co_lt h2]
  simp [List.getD_eq_getElem?_getD, List.getElem?_take, h, List.getElem?_eq_getElem h2]
/-- What the pieces from the k-th on tell. -/
theorem from_dec {P : List (List GF)} {n : Nat} {O : List GF} {T t k : Nat} (hP : P.length = t) (ht : t ≤ 255) (h1 : ∀ i, i < t → (rw_ P i).length = n) (hO : O.length = T) (hG : Gath O T) (hk : k + t ≤ T) :
    (∀ i, i < t → okP (((zsO O T).drop k).getD i 0)) ∧ Apart (psG ((zsO O T).drop k) t) ∧ (∀ i, i < T - k → (rw_ ((pcO P n O T).drop k) i).length = n) ∧ ∀ i, i < t → rw_ (decM (psG ((zsO O T).drop k) t) (rw_ ((pcO P n O T).drop k)) t n) i = rw_ P i := by
  have hz : ∀ i, i < t → ((zsO O T).drop k).getD i 0 = toI (co O (k + i)) := fun i hi => by rw [getD_drop, zsO_get (by omega) hO]
  have hX : ∀ i, i < t → co (psG ((zsO O T).drop k) t) i = co O (k + i) := fun i hi => by rw [psG_co hi, hz i hi, toG_toI]
  have hA : Apart (psG ((zsO O T).drop k) t) := fun i j hi hj e => by
    rw [psG_len] at hi
    rw [hX i hi, hX j (by omega)] at e
    exact apart_of_nodup hG.1 (k + i) (k + j) (by omega) (by omega) e
  have hp : ∀ i, i < T - k → rw_ ((pcO P n O T).drop k) i = pcR P n (co O (k + i)) := fun i hi => by rw [rw_drop, pcO_get (by omega) hO]
  refine ⟨fun i hi => ?_, hA, fun i hi => by rw [hp i hi, pcR_len], fun i hi => ?_⟩
  · rw [hz i hi]
    have h2 := gath_co hG (k := k + i) (by omega)
    have h3 := toI_bd (co O (k + i))
    unfold okP
    rcases Int.lt_or_le (toI (co O (k + i))) 1 with h | h
    · exact absurd (toI_inj (show toI (co O (k + i)) = toI 0 from by have : toI (0 : GF) = 0 := rfl; omega)) h2
    · omega
  · rw [decM_row hi]
    exact dec_part (by omega) hA (by rw [psG_len, hP]) (fun j hj => by rw [psG_len] at hj; rw [hp j (by omega), hX j hj]) (by omega) (h1 i hi)
theorem lit3 (w : World) (e : TypeId) : ∀ k, k < 3 → (w.alloc (.cells #[.int .i64 0, .int .i64 1, .int .i64 2] e)).cell? ⟨w.heap.size, k, none⟩ = some (.int .i64 (k : Nat)) := fun k hk => by
  have h := (World.ownsRow_lit (base := w.heap.size) (e := e) (size := 1) w #[.int .i64 0, .int .i64 1, .int .i64 2] 3 (Nat.le_refl _) (by unfold maxLen; omega) rfl).cells (g := w.heap.size) rfl k (.int .i64 (k : Nat)) (by
    rcases k with _ | _ | _ | k
    · rfl
    · rfl
    · rfl
    · omega)
  have e2 : (⟨w.heap.size, 0, none⟩ : Addr).add k = ⟨w.heap.size, k, none⟩ := by simp [Addr.add_lit]
  rw [e2] at h
  exact h
/-- The rows that the law makes of any places. -/
def rowL (P : List (List GF)) (t i : Nat) : List (List GF) := (List.range i).map fun j => rw_ P (j % t)
theorem rowL_next (P : List (List GF)) (t i : Nat) : rowL P t (i + 1) = rowL P t i ++ [rw_ P (i % t)] := by simp [rowL, List.range_succ]
theorem rowL_get {P : List (List GF)} {t i L : Nat} (h : i < L) : rw_ (rowL P t L) i = rw_ P (i % t) := by
  unfold rowL
  show List.getD _ _ _ = _
  simp [List.getD_eq_getElem?_getD, h]
theorem wA_same {ps : List Int} {t i : Nat} (h : ¬ i < t ∨ okP (ps.getD i 0)) : wA ps t (i + 1) = wA ps t i := by
  unfold wA
  rw [badB_next]
  rcases h with h | h
  · simp [h]
  · rw [decide_eq_false (fun h' : ¬ okP (ps.getD i 0) => h' h), Bool.and_false, Bool.or_false]
theorem wB_zero (ps : List Int) (t L : Nat) : wB ps t L 0 = wA ps t L := by unfold wB wA; rw [dupB_zero]; simp
theorem wB_same {ps : List Int} {t L i : Nat} (h : ¬ i < t ∨ wB ps t L i ≠ 0 ∨ sawB ps i (ps.getD i 0) = false) : wB ps t L (i + 1) = wB ps t L i := by
  rcases h with h | h | h
  · unfold wB; rw [dupB_next, decide_eq_false h, Bool.false_and, Bool.or_false]
  · unfold wB at h ⊢
    rw [dupB_next]
    cases h2 : badB ps t L with
    | true => simp
    | false =>
      rw [h2] at h
      cases h3 : dupB ps t i with
      | true => simp
      | false => rw [h3] at h; simp at h
  · unfold wB; rw [dupB_next, h, Bool.and_false, Bool.or_false]
theorem wB_six {ps : List Int} {t L i : Nat} (h : i < t) (h0 : wB ps t L i = 0) (hs : sawB ps i (ps.getD i 0) = true) : wB ps t L (i + 1) = 6 := by
  unfold wB at h0 ⊢
  rw [dupB_next, decide_eq_true h, hs]
  cases h2 : badB ps t L with
  | true => rw [h2] at h0; simp at h0
  | false => simp
theorem wA_bad {ps : List Int} {t i : Nat} (h : i < t) (hx : ¬ okP (ps.getD i 0)) : wA ps t (i + 1) = 2 := by
  unfold wA
  rw [badB_next, decide_eq_true h, decide_eq_true hx]
  simp
/-- What the law wants at the end is what Decode says. -/
def wF (ps : List Int) (t L : Nat) : Int := if L < t then 5 else wB ps t L L
theorem dec_want (hAll : DecAll) {b t n L : Nat} {aX : Option Addr} {cX : Nat} {ps : List Int} {aR : Option Addr} {cR : Nat} {R : List (List GF)} {w : World}
    (hf : Fld w b) (hI : IA w aX L cX ps) (hR : Mat w aR L cR R) (ht1 : 1 ≤ t) (ht2 : t ≤ 255) (hL : L ≤ 255) (hl : ∀ k, k < L → (rw_ R k).length = n) (hn : n ≤ 1000) :
    Calls Try.prog 15 #[.pointer (some ⟨b, 0, none⟩), .int .i64 (t : Nat), .slice aX L cX, .slice aR L cR] w fun e w' => ∃ v, e = .returned (.tuple #[v, .int .i64 (wF ps t L)]) ∧ Below w.heap.size w w' := by
  obtain ⟨_, _, hD, _, _, hDF, hDP, hDS⟩ := hAll
  have hle : ∀ k, k < L → (rw_ R k).length ≤ 1000 := fun k hk => by rw [hl k hk]; exact hn
  unfold wF wB
  by_cases h1 : L < t
  · rw [if_pos h1]
    exact hDF b t L aX cX ps aR cR R w hf hI hR ht1 ht2 h1 hle
  · rw [if_neg h1]
    cases h2 : badB ps t L with
    | true =>
      obtain ⟨j, _, hj, hb⟩ := badB_true h2
      rw [if_pos rfl]
      exact hDP b t L j aX cX ps aR cR R w hf hI hR ht1 (by omega) hL hj hb hle
    | false =>
      have hok : ∀ k, k < t → okP (ps.getD k 0) := fun k hk => badB_false h2 (by omega) hk
      rw [if_neg (by simp)]
      cases h3 : dupB ps t L with
      | true =>
        rw [if_pos rfl]
        exact hDS b t L n aX cX ps aR cR R w hf hI hR ht1 (by omega) hL hok (dup_same h3) (fun k hk => hl k (by omega)) hn hle
      | false =>
        rw [if_neg (by simp)]
        exact (hD b t L n aX cX ps aR cR R w hf hI hR ht1 (by omega) hL hok (dup_apart (by omega) hok h3) (fun k hk => hl k (by omega)) hn hle).mono fun e w' ⟨a', c', h1, _, h3⟩ => ⟨_, h1, h3⟩

set_option maxHeartbeats 4000000 in
open Go.Maps in
theorem codeDecodes_core (hAll : DecAll) (t : Nat) (aP : Option Addr) (cP : Nat) (P : List (List GF)) (aX : Option Addr) (lX cX : Nat) (X : List GF) (aW : Option Addr) (lW cW : Nat) (ps : List Int) (w : World)
    (hP : Mat w aP t cP P) (hX : Pa w aX lX cX X) (hW : IA w aW lW cW ps) (hF : FewR t P) (ht1 : 1 ≤ t) (ht2 : t ≤ 8) (hO : OneR t P) (hlW : lW ≤ 12) :
    Calls Try.prog 5 #[.slice aP t cP, .slice aX lX cX, .slice aW lW cW] w fun e w' => e = .returned (.bool true) ∧ Below w.heap.size w w' := by
  obtain ⟨i22, hy, hy0, hy1, hy2⟩ := info_parts infoR
  have HY := Lib.hid (And.intro hy (And.intro hy0 (And.intro hy1 hy2)))
  obtain ⟨i3, hz, hz0, hz1, hz2⟩ := info_parts infoI
  have HZ := Lib.hid (And.intro hz (And.intro hz0 (And.intro hz1 hz2)))
  obtain ⟨n, hn⟩ : ∃ n, n = (rw_ P 0).length := ⟨_, rfl⟩
  have HALL := Lib.hid hAll
  obtain ⟨hE, hPC, hD, hDA, hDR, hDF, hDP, hDS⟩ := hAll
  have HONE := Lib.hid (fun k (hk : k < t) => show (rw_ P k).length = n from by rw [hn]; exact hO k hk)
  have HN := Lib.hid (show n ≤ 20 from by rw [hn]; exact hF.2 0 ht1)
  have HL9 := Lib.hid (lives9 hE)
  have HPC := Lib.hid hPC
  have HD := Lib.hid hD; have HDA := Lib.hid hDA; have HDR := Lib.hid hDR; have HDF := Lib.hid hDF; have HDP := Lib.hid hDP; have HDS := Lib.hid hDS
  obtain ⟨bP, oP, rfl⟩ := hP.some_ ht1
  have HP := Lib.hid hP
  have HPL := Lib.hid hP.len
  have HX := Lib.hid hX
  have HW := Lib.hid hW
  have HF := Lib.hid hF
  have HO := Lib.hid hO
  have HT := Lib.hid (And.intro ht1 ht2)
  have hbp := hP.bd
  have hbx := hX.bd
  have hbw := hW.bd
  have q0 : ((t : Int) == 0) = false := by rw [beq_eq_false_iff_ne]; omega
  have q8 : ¬ (8 : Int) < (t : Int) := by omega
  have q12 : ¬ (12 : Int) < (lW : Int) := by omega
  have qt0 : (0 : Int) < (t : Int) := by omega
  have qt8 : (t : Int) ≤ 8 := by omega
  have HLW := Lib.hid hlW
  obtain ⟨T, hT⟩ : ∃ T, T = t + 2 := ⟨_, rfl⟩
  have HTT := Lib.hid hT
  have qT : (t : Int) + 2 = (T : Int) := by rw [hT]; rfl
  have qT10 : (T : Int) ≤ 10 := by omega
  clear hy hy0 hy1 hy2 hz hz0 hz1 hz2 hn hE hPC hD hDA hDR hDF hDP hDS hP hX hW hF ht1 ht2 hO hlW hT
  go_enter Try.func5, Try.ntmps5
  go_upto_region 3 with (first
    | (go_at_call 7; go_loud ((with_reducible refine (HL9.out w).mono ?_); rintro e w1 ⟨rfl, hb⟩; have HB1 := Lib.hid hb; have HFW := Lib.hid (few_yes _ t cP P w1 (HP.out.on hb) HF.out); have HUW := Lib.hid (unl_no _ t cP P w1 (HP.out.on hb) HO.out); clear hb))
    | (go_at_call 8; go_loud ((with_reducible refine HFW.out.mono ?_); rintro e w' ⟨rfl, rfl⟩))
    | (go_at_call 9; go_loud ((with_reducible refine HUW.out.mono ?_); rintro e w' ⟨rfl, rfl⟩)))
  clear HFW HUW HL9
  go_upto_region 8 with (first
    | (go_at_call 10; go_loud (refine (new_any _).mono ?_; rintro e w2 ⟨b, rfl, hb0, hf, hb2⟩; have HF2 := Lib.hid hf; have HB2 := Lib.hid (bt HB1.out hb2); have HUK := Lib.hid (unlike8_any aX lX cX X T w2 (HX.out.on HB2.out) (by omega)); clear hf hb0 hb2))
    | (go_at_call 14; go_loud ((with_reducible refine HUK.out.mono ?_); rintro e w3 ⟨aU, cU, O, rfl, hpu, hga, hol, hnw, hb3⟩; have HB3 := Lib.hid (bt HB2.out hb3); have HF3 := Lib.hid (HF2.out.below hb3); have HPU := Lib.hid hpu; have HG := Lib.hid hga; have HOL := Lib.hid hol; clear hpu hga hol hnw hb3)))
  clear HUK HF2 HB2 HB1
  obtain ⟨S0, hS0⟩ : ∃ S, S = w3.heap.size := ⟨_, rfl⟩
  have HS0 := Lib.hid hS0
  have hbu := HPU.out.bd
  clear hS0
  go_loopw [70, 9, 10] (fun s o p V => ∃ (i ca cp : Nat) (aa ap : Option Addr) (vs : List Value), i ≤ T ∧ s = .int .i64 (i : Nat) ∧ o = .slice aa (i : Nat) ca ∧ p = .slice ap (i : Nat) cp ∧ Hid (V.ownsRow S0 3 1 (.slice aa (i : Nat) ca) i (intsV (zsO O i))) ∧ Hid (V.ownsRow S0 23 1 (.slice ap (i : Nat) cp) i vs) ∧ Hid (RV V (TyU V) vs (pcO P n O i)) ∧ Hid (Below S0 w3 V)) (fun s _ _ _ => T - (intOf s).toNat)
  case atStart => exact ⟨0, 0, 0, none, none, [], by omega, rfl, rfl, rfl, Lib.hid (World.ownsRow_nil _ _ _ _), Lib.hid (World.ownsRow_nil _ _ _ _), Lib.hid (RV.nil _ _), Lib.hid (Below.refl _ _)⟩
  case round =>
    obtain ⟨i, ca, cp, aa, ap, vs, hi, rfl, rfl, rfl, HAA, HAP, HRR, HBV⟩ := hrel
    rename World => V
    have hbV : Below w3.heap.size w3 V := by
      have h := HBV.out; rw [HS0.out] at h; exact h
    have HB3V := Lib.hid hbV
    have HVS := Lib.hid (show S0 ≤ V.heap.size from by rw [HS0.out]; exact HBV.out.size)
    have hca := own_capV HAA.out
    have hcp := own_capV HAP.out
    by_cases hlt : i < T
    · obtain ⟨bx, ox, rfl, hbx, hcx⟩ := (HPU.out.on hbV).at_ hlt
      have HIO := Lib.hid (show i < O.length from by rw [HOL.out]; exact hlt)
      obtain ⟨x, hx⟩ : ∃ x : Nat, toI (co O i) = (x : Int) := ⟨(toI (co O i)).toNat, by have := toI_bd (co O i); omega⟩
      have hxb : x < 256 := by have := toI_bd (co O i); omega
      have hx1 : 1 ≤ x := by
        rcases Nat.eq_zero_or_pos x with h0 | h0
        · exact absurd (toI_inj (hx.trans (by rw [h0]; rfl))) (gath_co HG.out HIO.out)
        · exact h0
      have HXP := Lib.hid (show pl x = co O i from by show toG (x : Int) = _; rw [← hx, toG_toI])
      have HXI := Lib.hid hx
      rw [hx] at hcx
      have qi : (i : Int) < (T : Int) := by omega
      have qi0 : (0 : Int) ≤ (i : Int) := by omega
      have qx : (x : Int) < 256 := by omega
      have kw : ∀ [Inhabited Unit], IntKind.i64.wrap (x : Int) = (x : Int) := by intro _; rw [IntKind.wrap_i64]; omega
      have HLT := Lib.hid hlt
      have HCC := Lib.hid (HPC.out b t x n _ cP P V (HF3.out.below hbV) (HP.out.on (bt HB3.out hbV)) HT.out.1 (by omega) hx1 (by omega) HONE.out (by have := HN.out; omega))
      clear hx hlt hbx hbV
      go_wp2_with (first
        | (go_at_call 12; go_loud ((with_reducible refine HCC.out.mono ?_); rintro e W1 ⟨a1, c1, rfl, hp1, ht1, hb1⟩; have hr1 := RV.more (HRR.out.onU hb1) (a := a1) (c := c1) (P := pcR P n (pl x)) (by rw [pcR_len]; exact hp1) (fun g o e h0 => ht1 g o e (by rw [pcR_len] at h0; exact h0)); rw [pcR_len, HXP.out, ← pcO_next HIO.out] at hr1; have HR1 := Lib.hid (hr1.onU ((Below.refl _ _).alloc (Nat.le_refl _) (.cells #[.int .i64 (x : Nat)] 3))); have HBU := Lib.hid ((HBV.out.trans (hb1.mono HVS.out)).alloc (by have := hb1.size; have := HVS.out; omega) (.cells #[.int .i64 (x : Nat)] 3)); have HAA1 := Lib.hid ((own_belowV HAA.out hb1).alloc (.cells #[.int .i64 (x : Nat)] 3)); have HAP1 := Lib.hid ((own_belowV HAP.out hb1).alloc (.cells #[.int .i64 (x : Nat)] 3)); have HZL := Lib.hid (Nat.le_trans HVS.out hb1.size); clear hr1 hp1 ht1 hb1))
        | ((with_reducible show wpList _ _ _ (⟨some 88, _, _, _, _, _⟩ :: _) _ _); go_loud (refine wpList_append_own _ rfl (.tmp 84) (.tmp 87) 37 rfl S0 3 i3 (.int .i64 0) 1 8 Try.underlying37 HZ.out.1 HZ.out.2.1 HZ.out.2.2.1 HZ.out.2.2.2 rfl (by decide) _ i _ rfl HAA1.out _ 1 1 [_] rfl rfl (lit_cellsV _ _ _) (by intro u hu; cases List.mem_singleton.1 hu; rfl) (by unfold maxLen; omega) (by omega) (by have := HZL.out; simp; omega) ?_); go_loud (intro v3 W3 hown3 hg3 _; have HR3 := Lib.hid ((HR1.out.grownU HAA1.out (by decide) hg3).onU ((Below.refl _ _).alloc (Nat.le_refl _) (.cells #[.slice a1 n c1] 23))); have HB3W := Lib.hid ((HBU.out.grown hg3 (by have := HZL.out; simp; omega) (fun z hz => (HAA1.out.lt z hz).1)).alloc (by have := HZL.out; have := hg3.size; simp at this; omega) (.cells #[.slice a1 n c1] 23)); have HAP3 := Lib.hid ((HAP1.out.kept hg3 (own_ne HAP1.out HAA1.out (by decide))).alloc (.cells #[.slice a1 n c1] 23)); rw [← HXI.out, ← zsO_next HIO.out] at hown3; obtain ⟨a3, c3, hv3⟩ := own_sliceV hown3; subst hv3; have HAA3 := Lib.hid (hown3.alloc (.cells #[.slice a1 n c1] 23)); have HZL3 := Lib.hid (show S0 ≤ W3.heap.size from by have := HZL.out; have := hg3.size; simp at this; omega); clear hown3 hg3))
        | ((with_reducible show wpList _ _ _ (⟨some 92, _, _, _, _, _⟩ :: _) _ _); go_loud (refine wpList_append_own _ rfl (.tmp 89) (.tmp 91) 22 rfl S0 23 i22 (.slice none 0 0) 1 24 Try.underlying22 HY.out.1 HY.out.2.1 HY.out.2.2.1 HY.out.2.2.2 rfl (by decide) _ i vs rfl HAP3.out _ 1 1 [_] rfl rfl (lit_cellsV _ _ _) (by intro u hu; cases List.mem_singleton.1 hu; rfl) (by unfold maxLen; omega) (by omega) (by have := HZL3.out; simp; omega) ?_); go_loud (intro v5 W5 hown5 hg5 _; have HR5 := Lib.hid (HR3.out.grownU HAP3.out (by decide) hg5); have HB5 := Lib.hid (HB3W.out.grown hg5 (by have := HZL3.out; simp; omega) (fun z hz => (HAP3.out.lt z hz).1)); have HAA5 := Lib.hid (HAA3.out.kept hg5 (own_ne HAA3.out HAP3.out (by decide))); obtain ⟨a5, c5, hv5⟩ := own_sliceV hown5; subst hv5; have HAP5 := Lib.hid hown5; clear hown5 hg5)))
      go_roundw
      case rel => exact ⟨i + 1, c3, c5, a3, a5, _, by have := HLT.out; omega, by go_num, rfl, rfl, HAA5, HAP5, HR5, HB5⟩
      case measure => simp [intOf]; have := HLT.out; omega
    · obtain rfl : T = i := by omega
      obtain ⟨GA, rfl⟩ := own_someS HAA.out (by omega)
      obtain ⟨GP, rfl⟩ := own_someS HAP.out (by omega)
      have HIA := Lib.hid (IA.ownS HAA.out zsO_bd)
      have HMP := Lib.hid (Mat.ownS HAP.out HRR.out)
      have HBw := Lib.hid (bt HB3.out hbV)
      clear HAA HAP HRR hlt hi hbV HBV
      go_upto_region 16 with fail
      obtain ⟨w4, h4⟩ : ∃ U, U = V.alloc (.cells #[.int .i64 0, .int .i64 1, .int .i64 2] 3) := ⟨_, rfl⟩
      obtain ⟨BL, hBL⟩ : ∃ B, B = V.heap.size := ⟨_, rfl⟩
      have HB4V := Lib.hid (show Below V.heap.size V w4 from by rw [h4]; exact (Below.refl _ _).alloc (Nat.le_refl _) _)
      have HCL := Lib.hid (show ∀ k, k < 3 → w4.cell? ⟨BL, k, none⟩ = some (.int .i64 (k : Nat)) from by rw [h4, hBL]; exact lit3 V _)
      have HSL := Lib.hid (show BL < w4.heap.size from by rw [h4, hBL]; simp)
      have HB4 := Lib.hid (bt HBw.out HB4V.out)
      have HF4 := Lib.hid (HF3.out.below (bt HB3V.out HB4V.out))
      have HIA4 := Lib.hid (HIA.out.on HB4V.out)
      have HMP4 := Lib.hid (HMP.out.on HB4V.out)
      rw [← h4, ← hBL]
      clear h4 hBL HIA HMP HF3 HB3V HB4V HBw HVS HS0
      go_loopw [96] (fun s wr => ∃ k : Nat, k ≤ 3 ∧ s = .int .i64 (k : Nat) ∧ Hid (Below w4.heap.size w4 wr)) (fun s _ => 3 - (intOf s).toNat)
      case atStart => exact ⟨0, by omega, rfl, Lib.hid (Below.refl _ _)⟩
      case round =>
        obtain ⟨k, hk, rfl, hB⟩ := hrel
        rename World => w5
        by_cases hlt : k < 3
        · have HK := Lib.hid hlt
          have hck : w5.cell? ⟨BL, k, none⟩ = some (.int .i64 (k : Nat)) := (hB.out.cell (p := ⟨BL, k, none⟩) HSL.out).trans (HCL.out k hlt)
          obtain ⟨j, hj⟩ : ∃ j, j = T - k := ⟨_, rfl⟩
          have HJ := Lib.hid (show j + k = T ∧ t ≤ j ∧ j ≤ 10 from by have := HTT.out; have := HT.out; omega)
          have qNd : T - k = j := hj.symm
          have qk : (k : Int) < 3 := by omega
          have qk0 : (0 : Int) ≤ (k : Int) := by omega
          have qkT : (k : Int) ≤ (T : Int) := by omega
          have qcA : ¬ ca = k := by omega
          have qcP : ¬ cp = k := by omega
          have HB5 := Lib.hid (bt HB4.out hB.out)
          have HB45 := Lib.hid hB.out
          have HFD := Lib.hid (from_dec (k := k) HPL.out (by have := HT.out; omega) HONE.out HOL.out HG.out (by have := HTT.out; omega))
          have HId := Lib.hid (show IA w5 (some ⟨GA, k, none⟩) j (ca - k) ((zsO O T).drop k) from by have h := (HIA4.out.on hB.out).drop k; rwa [Nat.zero_add, qNd] at h)
          have HMd := Lib.hid (show Mat w5 (some ⟨GP, k, none⟩) j (cp - k) ((pcO P n O T).drop k) from by have h := (HMP4.out.on hB.out).drop k; rwa [Nat.zero_add, qNd] at h)
          have HDC := Lib.hid (fun q => HD.out b t j n _ _ _ _ _ _ (w5.drewN q) ((HF4.out.below hB.out).below (below_drewN (Below.refl _ _) q)) (HId.out.on (below_drewN (Below.refl _ _) q)) (HMd.out.on (below_drewN (Below.refl _ _) q)) HT.out.1 HJ.out.2.1 (by have := HJ.out; omega) HFD.out.1 HFD.out.2.1 (fun i hi => HFD.out.2.2.1 i (by have := HJ.out; omega)) (by have := HN.out; omega) (fun i hi => by rw [HFD.out.2.2.1 i (by have := HJ.out; omega)]; have := HN.out; omega))
          clear hj hlt hk hB
          go_upto_region 18 with fail
          clear hck
          go_wp2_with fail
          go_region_with (go_at_call 15; refine (HDC.out _).mono ?_; rintro e w6 ⟨a6, c6, rfl, hm6, hb6⟩)
          have HB56 := Lib.hid (show Below w5.heap.size w5 w6 from bt (below_drewN (Below.refl w5.heap.size w5) 1) hb6)
          have HM6 := Lib.hid hm6.mat
          have HB46 := Lib.hid (bt HB45.out HB56.out)
          have HBw6 := Lib.hid (bt HB5.out HB56.out)
          have HD4 := Lib.hid HFD.out.2.2.2
          have hbd6 := hm6.mat.bd
          have qtt : ((t : Int) != (t : Int)) = false := by simp
          clear hm6 hb6 HFD HId HMd HDC qNd qcA qcP HB45 HB56 HB5
          go_upto_region 22 with fail
          go_loopw [122] (fun s wr => ∃ i : Nat, i ≤ t ∧ s = .int .i64 (i : Nat) ∧ Hid (Below w6.heap.size w6 wr)) (fun s _ => t - (intOf s).toNat)
          case atStart => exact ⟨0, by omega, rfl, Lib.hid (Below.refl _ _)⟩
          case round =>
            obtain ⟨i, hi, rfl, hB⟩ := hrel
            rename World => w7
            by_cases hlt : i < t
            · obtain ⟨b7, off7, a7, c7, rfl, hb7, hcell7, hpa7⟩ := HM6.out.row hlt
              obtain ⟨b8, off8, a8, c8, e8, hb8, hcell8, hpa8⟩ := (HP.out.on HBw6.out).row hlt
              cases e8
              rw [HD4.out i hlt, HONE.out i hlt] at hcell7 hpa7
              rw [HONE.out i hlt] at hcell8 hpa8
              obtain ⟨R, hR⟩ : ∃ R, R = rw_ P i := ⟨_, rfl⟩
              rw [← hR] at hpa7 hpa8
              have hcr7 : ∀ j, (World.drewN w7 j).cell? ⟨b7, off7 + i, none⟩ = some (.slice a7 n c7) := fun j => (hB.out.cell (p := ⟨b7, off7 + i, none⟩) hb7).trans hcell7
              have hcr8 : ∀ j, (World.drewN w7 j).cell? ⟨bP, oP + i, none⟩ = some (.slice a8 n c8) := fun j => (hB.out.cell (p := ⟨bP, oP + i, none⟩) hb8).trans hcell8
              have hcr7' := hcr7 0
              have hcr8' := hcr8 0
              have hcv7 : ∀ j, (convert 23 9 (.slice a7 n c7)).run Try.prog (World.drewN w7 j) = .ok (.string (strOfNums (iL R))) (World.drewN w7 j) := fun j => hpa7.str_on rfl _ (below_drewN hB.out _)
              have hcv8 : ∀ j, (convert 23 9 (.slice a8 n c8)).run Try.prog (World.drewN w7 j) = .ok (.string (strOfNums (iL R))) (World.drewN w7 j) := fun j => hpa8.str_on rfl _ (below_drewN hB.out _)
              have qi : (i : Int) < (t : Int) := by omega
              have qi0 : (0 : Int) ≤ (i : Int) := by omega
              have HIT := Lib.hid hlt
              have HB67 := Lib.hid hB.out
              clear hcell7 hcell8 hpa7 hpa8 hR hlt hi hB
              go_wp2_with fail
              go_quiet (fail)
              go_wp2
              go_roundw
              case rel => exact ⟨i + 1, by have := HIT.out; omega, by go_num, Lib.hid (below_drewN HB67.out _)⟩
              case measure => simp [intOf]; have := HIT.out; omega
            · obtain rfl : t = i := by omega
              have HB47 := Lib.hid (bt HB46.out hB.out)
              clear hlt hi hB
              go_wp2
              go_roundw
              case rel => exact ⟨k + 1, by have := HK.out; omega, by go_num, HB47⟩
              case measure => simp [intOf]; have := HK.out; omega
        · obtain rfl : k = 3 := by omega
          have HB5 := Lib.hid (bt HB4.out hB.out)
          have HF5 := Lib.hid (HF4.out.below hB.out)
          have HIA5 := Lib.hid (HIA4.out.on hB.out)
          have HMP5 := Lib.hid (HMP4.out.on hB.out)
          clear hlt hk hB HB4 HF4 HIA4 HMP4 HCL HSL
          obtain ⟨u, hu⟩ : ∃ u, t = u + 1 := ⟨t - 1, by have := HT.out; omega⟩
          obtain ⟨T1, hT1⟩ : ∃ T1, T1 = T - 1 := ⟨_, rfl⟩
          have HU := Lib.hid (show u < t ∧ u ≤ T ∧ T1 + 1 = T from by have := HTT.out; omega)
          have qu : (t : Int) - 1 = (u : Int) := by omega
          have qu0 : (0 : Int) ≤ (u : Int) := by omega
          have quA : (u : Int) ≤ (ca : Int) := by have := HTT.out; omega
          have quP : (u : Int) ≤ (cp : Int) := by have := HTT.out; omega
          have qT1 : T - 1 = T1 := hT1.symm
          have qcA0 : ¬ ca = 0 := by have := HTT.out; omega
          have qcP0 : ¬ cp = 0 := by have := HTT.out; omega
          have qcP1 : ¬ cp = 1 := by have := HTT.out; omega
          have qTi : (1 : Int) ≤ (T : Int) := by have := HTT.out; omega
          have HPN := Lib.hid (fun i (hi : i < T) => show (rw_ (pcO P n O T) i).length ≤ 1000 from by rw [pcO_get hi HOL.out, pcR_len]; have := HN.out; omega)
          have HDC := Lib.hid (fun q => HDF.out b t u _ _ ((zsO O T).take u) _ _ ((pcO P n O T).take u) (w5.drewN q) (HF5.out.below (below_drewN (Below.refl _ _) q)) ((HIA5.out.on (below_drewN (Below.refl _ _) q)).take HU.out.2.1) ((HMP5.out.on (below_drewN (Below.refl _ _) q)).take HU.out.2.1) HT.out.1 (by have := HT.out; omega) HU.out.1 (fun i hi => by
            have e : rw_ ((pcO P n O T).take u) i = rw_ (pcO P n O T) i := by unfold rw_; simp [List.getD_eq_getElem?_getD, List.getElem?_take, hi]
            rw [e]; exact HPN.out i (by have := HU.out; omega)))
          clear hu hT1
          have kwu : ∀ [Inhabited Unit], IntKind.i64.wrap (u : Int) = (u : Int) := by intro _; rw [IntKind.wrap_i64]; omega
          go_wp2_with fail
          go_region_with (go_at_call 15; refine (HDC.out _).mono ?_; rintro e w6 ⟨v6, rfl, hb6⟩)
          have HB56 := Lib.hid (show Below w5.heap.size w5 w6 from bt (below_drewN (Below.refl w5.heap.size w5) 1) hb6)
          have HB6 := Lib.hid (bt HB5.out HB56.out)
          have HDC2 := Lib.hid (HDA.out b t T T1 _ _ (zsO O T) _ _ ((pcO P n O T).drop 1) w6 (HF5.out.below HB56.out) (HIA5.out.on HB56.out) (show Mat w6 (some ⟨GP, 1, none⟩) T1 (cp - 1) _ from by have h := (HMP5.out.on HB56.out).drop 1; rwa [Nat.zero_add, qT1] at h) (by have := HU.out; omega) (by have := HT.out; omega) (by omega) (by have := HU.out; omega) (fun i hi => by rw [rw_drop]; exact HPN.out (1 + i) (by have := HU.out; omega)))
          clear hb6 HDC
          go_upto_region 31 with (first
            | (go_at_call 15; go_loud ((with_reducible refine HDC2.out.mono ?_); rintro e w7 ⟨v7, rfl, hb7⟩; have HB57 := Lib.hid (bt HB56.out hb7); have HB7 := Lib.hid (bt HB6.out hb7); have HDC3 := Lib.hid (HDR.out b T 0 _ _ (zsO O T) _ _ (pcO P n O T) w7 (HF5.out.below HB57.out) (HIA5.out.on HB57.out) (HMP5.out.on HB57.out) rfl (.inl (by omega)) (by omega) HPN.out); clear hb7))
            | (go_at_call 15; go_loud ((with_reducible refine HDC3.out.mono ?_); rintro e w8 ⟨v8, rfl, hb8⟩; have HB58 := Lib.hid (bt HB57.out hb8); have HB8 := Lib.hid (bt HB7.out hb8); clear hb8)))
          have HMO := Lib.hid (show w.heap.size ≤ w8.heap.size from HB8.out.size)
          have hmm := @run_makeMap Try.prog
          clear HDC2 HDC3 HB56 HB57 HB6 HB7 HIA5 HMP5 HPN kwu qu qu0 quA quP qT1 qcP1 qcP0 qcA0 qTi HU
          go_upto_region 37 with fail
          clear hmm
          obtain ⟨w9, h9⟩ : ∃ U, U = w8.alloc (.map #[] 0) := ⟨_, rfl⟩
          obtain ⟨BM, hBM⟩ : ∃ B, B = w8.heap.size := ⟨_, rfl⟩
          have HOM := Lib.hid (show w9.ownsMap Try.prog 3 (plainElem (H := Unit) Try.prog 4) BM 0 (.map []) from by rw [h9, hBM]; exact World.ownsMap_made _ _ _ _)
          have HB89 := Lib.hid (show Below w8.heap.size w8 w9 from by rw [h9]; exact (Below.refl _ _).alloc (Nat.le_refl _) _)
          have HB9 := Lib.hid (bt HB8.out HB89.out)
          have HF8 := Lib.hid (HF5.out.below HB58.out)
          have HBM := Lib.hid hBM
          have HMS := Lib.hid (show w.heap.size ≤ BM ∧ BM < w9.heap.size from by rw [h9, hBM]; exact ⟨HMO.out, by simp⟩)
          rw [← h9, ← hBM]
          clear hBM
          clear h9 HB5 HF5 HB58 HMO
          obtain ⟨SL, hSL⟩ : ∃ S, S = w9.heap.size := ⟨_, rfl⟩
          have HSL := Lib.hid hSL
          clear hSL
          have qt_0 : ¬ (t : Int) = 0 := by omega
          have qt_n : ¬ t = 0 := by omega
          go_loopw [181, 26, 27] (fun s l v V => ∃ (i cl : Nat) (al : Option Addr) (vs : List Value), i ≤ lW ∧ s = .int .i64 (i : Nat) ∧ l = .slice al (i : Nat) cl ∧ v = .int .i64 (wA ps t i) ∧ Hid (V.ownsRow SL 23 1 (.slice al (i : Nat) cl) i vs) ∧ Hid (RV w (fun b => b < w.heap.size) vs (rowL P t i)) ∧ Hid (Below SL w9 V)) (fun s _ _ _ => lW - (intOf s).toNat)
          case atStart => exact ⟨0, 0, none, [], by omega, rfl, rfl, rfl, Lib.hid (World.ownsRow_nil _ _ _ _), Lib.hid (RV.nil _ _), Lib.hid (Below.refl _ _)⟩
          case round =>
            obtain ⟨i, cl, al, vs, hi, rfl, rfl, rfl, HLL, HVV, HBV2⟩ := hrel
            rename World => U
            have HB9U := Lib.hid (show Below w9.heap.size w9 U from by have h := HBV2.out; rw [HSL.out] at h; exact h)
            have HBU := Lib.hid (bt HB9.out HB9U.out)
            have hcl := own_capV HLL.out
            by_cases hlt : i < lW
            · obtain ⟨b1, o1, rfl, hb1, hc1⟩ := (HW.out.on HBU.out).at_ hlt
              have hxb := HW.out.2.2.2.2.1 i
              obtain ⟨x, hx⟩ : ∃ x, x = ps.getD i 0 := ⟨_, rfl⟩
              rw [← hx] at hc1 hxb
              have HXX := Lib.hid hx
              obtain ⟨m, hm⟩ : ∃ m, m = i % t := ⟨_, rfl⟩
              have hmt : m < t := by rw [hm]; exact Nat.mod_lt _ (by omega)
              obtain ⟨b8, off8, a8, c8, e8, hb8, hcell8, hpa8⟩ := HP.out.row hmt
              cases e8
              rw [HONE.out m hmt] at hcell8 hpa8
              have hc8 : U.cell? ⟨bP, oP + m, none⟩ = some (.slice a8 n c8) := (HBU.out.cell (p := ⟨bP, oP + m, none⟩) hb8).trans hcell8
              have hv8 := RV.more HVV.out (a := a8) (c := c8) (P := rw_ P m) (by rw [HONE.out m hmt]; exact hpa8) (fun b off e h0 => pa_lt hpa8 b off e (by rw [HONE.out m hmt] at h0; exact h0))
              rw [HONE.out m hmt, hm, ← rowL_next] at hv8
              have HV8 := Lib.hid hv8
              have HLL1 := Lib.hid (HLL.out.alloc (.cells #[.slice a8 n c8] 23))
              have HB1 := Lib.hid (HBV2.out.alloc (by rw [HSL.out]; exact HB9U.out.size) (.cells #[.slice a8 n c8] 23))
              have HUS := Lib.hid (show SL ≤ U.heap.size from by rw [HSL.out]; exact HB9U.out.size)
              have k0 : ∀ [Inhabited Unit], (i : Int).tmod (t : Int) = (m : Int) := by intro _; rw [hm]; exact (Int.ofNat_tmod i t).symm
              have k1 : ∀ [Inhabited Unit], (i : Int) % (t : Int) = (m : Int) := by intro _; rw [hm]; exact (Int.natCast_emod i t).symm
              have k2 : ∀ [Inhabited Unit], i % t = m := by intro _; exact hm.symm
              have qi : (i : Int) < (lW : Int) := by omega
              have qi0 : (0 : Int) ≤ (i : Int) := by omega
              have qm : (m : Int) < (t : Int) := by omega
              have qm0 : (0 : Int) ≤ (m : Int) := by omega
              have HLT := Lib.hid hlt
              clear hx hm hb8 hcell8 hpa8 hv8 hb1 hlt hi hmt
              go_upto_region 40 with ((with_reducible show wpList _ _ _ (⟨some 194, _, _, _, _, _⟩ :: _) _ _); go_loud (refine wpList_append_own _ rfl (.tmp 186) (.tmp 193) 22 rfl SL 23 i22 (.slice none 0 0) 1 24 Try.underlying22 HY.out.1 HY.out.2.1 HY.out.2.2.1 HY.out.2.2.2 rfl (by decide) _ i vs rfl HLL1.out _ 1 1 [_] rfl rfl (lit_cellsV _ _ _) (by intro u hu; cases List.mem_singleton.1 hu; rfl) (by unfold maxLen; omega) (by omega) (by have := HUS.out; simp; omega) ?_); go_loud (intro v5 W5 hown5 hg5 _; have HB5 := Lib.hid (HB1.out.grown hg5 (by have := HUS.out; simp; omega) (fun z hz => (HLL1.out.lt z hz).1)); obtain ⟨a5, c5, hv5⟩ := own_sliceV hown5; subst hv5; have HLL5 := Lib.hid hown5; clear hown5 hg5))
              clear k0 k1 k2
              by_cases hit : i < t
              · have qit : (i : Int) < (t : Int) := by omega
                by_cases hx1 : x < 1
                · have HQ := Lib.hid (show wA ps t (i + 1) = 2 from wA_bad hit (by rw [← HXX.out]; unfold okP; omega))
                  clear hit
                  go_wp2
                  go_roundw
                  case rel => exact ⟨i + 1, c5, a5, _, by have := HLT.out; omega, by go_num, rfl, by rw [HQ.out], HLL5, HV8, HB5⟩
                  case measure => simp [intOf]; have := HLT.out; omega
                · by_cases hx2 : 255 < x
                  · have HQ := Lib.hid (show wA ps t (i + 1) = 2 from wA_bad hit (by rw [← HXX.out]; unfold okP; omega))
                    clear hit
                    go_wp2
                    go_roundw
                    case rel => exact ⟨i + 1, c5, a5, _, by have := HLT.out; omega, by go_num, rfl, by rw [HQ.out], HLL5, HV8, HB5⟩
                    case measure => simp [intOf]; have := HLT.out; omega
                  · have HQ := Lib.hid (show wA ps t (i + 1) = wA ps t i from wA_same (.inr (by rw [← HXX.out]; unfold okP; omega)))
                    clear hit
                    go_wp2
                    go_roundw
                    case rel => exact ⟨i + 1, c5, a5, _, by have := HLT.out; omega, by go_num, rfl, by rw [HQ.out], HLL5, HV8, HB5⟩
                    case measure => simp [intOf]; have := HLT.out; omega
              · have qit : ¬ (i : Int) < (t : Int) := by omega
                have HQ := Lib.hid (show wA ps t (i + 1) = wA ps t i from wA_same (.inl hit))
                clear hit
                go_wp2
                go_roundw
                case rel => exact ⟨i + 1, c5, a5, _, by have := HLT.out; omega, by go_num, rfl, by rw [HQ.out], HLL5, HV8, HB5⟩
                case measure => simp [intOf]; have := HLT.out; omega
            · obtain rfl : lW = i := by omega
              have HMU := Lib.hid (ownsMap_on HOM.out HBV2.out (by rw [HSL.out]; exact HMS.out.2))
              have HMS2 := Lib.hid (show BM < SL from by rw [HSL.out]; exact HMS.out.2)
              have HMS3 := Lib.hid (show BM ≤ U.heap.size from by have := HMS.out.2; have := HB9U.out.size; omega)
              clear hlt hi
              go_upto_region 44 with fail
              go_loopw [209, 27] (fun s v V => ∃ (i : Nat) (D : DataW Unit), i ≤ lW ∧ s = .int .i64 (i : Nat) ∧ v = .int .i64 (wB ps t lW i) ∧ Hid (V.ownsMap Try.prog 3 (plainElem (H := Unit) Try.prog 4) BM (size D) D) ∧ Hid (SeenZ D (sawB ps i)) ∧ Hid (size D ≤ i) ∧ Hid (V.ownsRow SL 23 1 (.slice al (lW : Nat) cl) lW vs) ∧ Hid (Below BM U V)) (fun s _ _ => lW - (intOf s).toNat)
              case atStart => exact ⟨0, .map [], by omega, rfl, by rw [wB_zero], HMU, Lib.hid (fun y => rfl), Lib.hid (Nat.le_refl _), HLL, Lib.hid (Below.refl _ _)⟩
              case round =>
                clear HLL HMU HOM
                obtain ⟨i, D, hi, rfl, rfl, HMP2, HSE, HSZ, HLL, HBB⟩ := hrel
                rename World => X2
                obtain ⟨Q, hQ⟩ : ∃ Q, Q = wB ps t lW i := ⟨_, rfl⟩
                have HQQ := Lib.hid hQ
                rw [← hQ]
                clear hQ
                by_cases hlt : i < lW
                · obtain ⟨b1, o1, rfl, hb1, hc1⟩ := (HW.out.on (HBU.out.trans (HBB.out.mono HMS.out.1))).at_ hlt
                  have hxb := HW.out.2.2.2.2.1 i
                  have HT9 := Lib.hid (HMP2.out.tidy lawZ)
                  have HSN := Lib.hid (HSE.out.put HT9.out)
                  have HSZ2 := Lib.hid (size_more HT9.out HSZ.out (keyZ (ps.getD i 0)) (.lit (.bool true)))
                  have HKM := Lib.hid (show size D < maxLen from Nat.lt_of_le_of_lt HSZ.out (by unfold maxLen; have := HLW.out; omega))
                  obtain ⟨x, hx⟩ : ∃ x, x = ps.getD i 0 := ⟨_, rfl⟩
                  rw [← hx] at hc1 hxb HSN HSZ2
                  have hkey : keyOf Try.prog 3 (.int .i64 x) = some (keyZ x) := keyZ_of hxb
                  have HXX := Lib.hid hx
                  have qi : (i : Int) < (lW : Int) := by omega
                  have qi0 : (0 : Int) ≤ (i : Int) := by omega
                  have HLT := Lib.hid hlt
                  clear hx hb1 hlt hi
                  by_cases hit : i < t
                  · have qit : (i : Int) < (t : Int) := by omega
                    by_cases hq : Q = 0
                    · obtain rfl : Q = 0 := hq
                      cases hs : sawB ps i x with
                      | true =>
                        have HAT := Lib.hid (show D.atKey (keyZ x) (.lit (.bool false)) = .lit (.bool true) from by rw [HSE.out, hs])
                        have HQ := Lib.hid (show wB ps t lW (i + 1) = 6 from wB_six hit HQQ.out.symm (by rw [← HXX.out]; exact hs))
                        clear hs hit
                        go_wp2_with (first
                          | (at_lookup; go_loud (refine wpList_lookup_own_boolG _ (by rfl) _ _ 40 rfl 3 4 lawZ Try.underlying40 Try.underlying4 (zeroB _) BM (size D) D rfl HMP2.out _ _ rfl hkey _ HAT.out ?_))
                          | (at_mapUpdate; go_loud (refine wpList_mapUpdate_own _ rfl _ _ _ 40 rfl 3 4 lawZ Try.underlying40 _ BM (size D) D rfl HMP2.out HKM.out _ _ _ rfl rfl hkey _ [] (plainElem_bool Try.underlying4 true) ?_; intro W9 hownW9 hgrowW9)))
                        have HOW := Lib.hid (ownsMap_size hownW9)
                        have HLR := Lib.hid (HLL.out.kept hgrowW9 (own_apart HLL.out HMS2.out))
                        have HBR := Lib.hid (HBB.out.grown hgrowW9 (by have := HBB.out.size; have := HMS3.out; omega) (fun j hj => by cases hj; exact Nat.le_refl _))
                        clear hownW9 hgrowW9
                        go_roundw
                        case rel => exact ⟨i + 1, _, HLT.out, by go_num, by rw [HQ.out], HOW, HSN, HSZ2, HLR, HBR⟩
                        case measure => simp [intOf]; have := HLT.out; omega
                      | false =>
                        have HAT := Lib.hid (show D.atKey (keyZ x) (.lit (.bool false)) = .lit (.bool false) from by rw [HSE.out, hs])
                        have HQ := Lib.hid (show wB ps t lW (i + 1) = 0 from (wB_same (.inr (.inr (by rw [← HXX.out]; exact hs)))).trans HQQ.out.symm)
                        clear hs hit
                        go_wp2_with (first
                          | (at_lookup; go_loud (refine wpList_lookup_own_boolG _ (by rfl) _ _ 40 rfl 3 4 lawZ Try.underlying40 Try.underlying4 (zeroB _) BM (size D) D rfl HMP2.out _ _ rfl hkey _ HAT.out ?_))
                          | (at_mapUpdate; go_loud (refine wpList_mapUpdate_own _ rfl _ _ _ 40 rfl 3 4 lawZ Try.underlying40 _ BM (size D) D rfl HMP2.out HKM.out _ _ _ rfl rfl hkey _ [] (plainElem_bool Try.underlying4 true) ?_; intro W9 hownW9 hgrowW9)))
                        have HOW := Lib.hid (ownsMap_size hownW9)
                        have HLR := Lib.hid (HLL.out.kept hgrowW9 (own_apart HLL.out HMS2.out))
                        have HBR := Lib.hid (HBB.out.grown hgrowW9 (by have := HBB.out.size; have := HMS3.out; omega) (fun j hj => by cases hj; exact Nat.le_refl _))
                        clear hownW9 hgrowW9
                        go_roundw
                        case rel => exact ⟨i + 1, _, HLT.out, by go_num, by rw [HQ.out], HOW, HSN, HSZ2, HLR, HBR⟩
                        case measure => simp [intOf]; have := HLT.out; omega
                    · have qq : (Q == 0) = false := by rw [beq_eq_false_iff_ne]; exact hq
                      have HQ := Lib.hid (show wB ps t lW (i + 1) = Q from (wB_same (.inr (.inl (by rw [← HQQ.out]; exact hq)))).trans HQQ.out.symm)
                      clear hit hq
                      go_wp2_with (at_mapUpdate; go_loud (refine wpList_mapUpdate_own _ rfl _ _ _ 40 rfl 3 4 lawZ Try.underlying40 _ BM (size D) D rfl HMP2.out HKM.out _ _ _ rfl rfl hkey _ [] (plainElem_bool Try.underlying4 true) ?_; intro W9 hownW9 hgrowW9))
                      have HOW := Lib.hid (ownsMap_size hownW9)
                      have HLR := Lib.hid (HLL.out.kept hgrowW9 (own_apart HLL.out HMS2.out))
                      have HBR := Lib.hid (HBB.out.grown hgrowW9 (by have := HBB.out.size; have := HMS3.out; omega) (fun j hj => by cases hj; exact Nat.le_refl _))
                      clear hownW9 hgrowW9
                      go_roundw
                      case rel => exact ⟨i + 1, _, HLT.out, by go_num, by rw [HQ.out], HOW, HSN, HSZ2, HLR, HBR⟩
                      case measure => simp [intOf]; have := HLT.out; omega
                  · have qit : ¬ (i : Int) < (t : Int) := by omega
                    have HQ := Lib.hid (show wB ps t lW (i + 1) = Q from (wB_same (.inl hit)).trans HQQ.out.symm)
                    clear hit
                    go_wp2_with (at_mapUpdate; go_loud (refine wpList_mapUpdate_own _ rfl _ _ _ 40 rfl 3 4 lawZ Try.underlying40 _ BM (size D) D rfl HMP2.out HKM.out _ _ _ rfl rfl hkey _ [] (plainElem_bool Try.underlying4 true) ?_; intro W9 hownW9 hgrowW9))
                    have HOW := Lib.hid (ownsMap_size hownW9)
                    have HLR := Lib.hid (HLL.out.kept hgrowW9 (own_apart HLL.out HMS2.out))
                    have HBR := Lib.hid (HBB.out.grown hgrowW9 (by have := HBB.out.size; have := HMS3.out; omega) (fun j hj => by cases hj; exact Nat.le_refl _))
                    clear hownW9 hgrowW9
                    go_roundw
                    case rel => exact ⟨i + 1, _, HLT.out, by go_num, by rw [HQ.out], HOW, HSN, HSZ2, HLR, HBR⟩
                    case measure => simp [intOf]; have := HLT.out; omega
                · obtain rfl : lW = i := by omega
                  have HBX := Lib.hid (HBU.out.trans (HBB.out.mono HMS.out.1))
                  have HFX := HF8.out.below (show Below w8.heap.size w8 X2 from by rw [← HBM.out]; exact ((show Below BM w8 w9 from by rw [HBM.out]; exact HB89.out).trans (HBV2.out.mono (by rw [HSL.out]; exact Nat.le_of_lt HMS.out.2))).trans HBB.out)
                  have HML := Mat.ownS HLL.out (HVV.out.keep HBX.out.size (fun b hlt _ => ⟨hlt, HBX.out.block b hlt⟩))
                  have hfin := dec_want HALL.out HFX (HW.out.on HBX.out) HML HT.out.1 (by have := HT.out; omega) (by have := HLW.out; omega) (fun k hk => by rw [rowL_get hk]; exact HONE.out _ (Nat.mod_lt _ (by have := HT.out; omega))) (by have := HN.out; omega)
                  clear hlt hi HFX HML
                  by_cases hL : lW < t
                  · have qL : (lW : Int) < (t : Int) := by omega
                    rw [show wF ps t lW = 5 from by unfold wF; rw [if_pos hL]] at hfin
                    have HFIN := Lib.hid hfin
                    clear hfin hL
                    go_wp2_with (go_at_call 15; go_loud ((with_reducible refine HFIN.out.mono ?_); rintro e w12 ⟨v12, rfl, hb12⟩; have HB12 := Lib.hid (bt HBX.out hb12); clear hb12))
                    go_ret
                    exact ⟨rfl, HB12.out⟩
                  · have qL : ¬ (lW : Int) < (t : Int) := by omega
                    rw [show wF ps t lW = Q from by unfold wF; rw [if_neg hL]; exact HQQ.out.symm] at hfin
                    have HFIN := Lib.hid hfin
                    clear hfin hL
                    go_wp2_with (go_at_call 15; go_loud ((with_reducible refine HFIN.out.mono ?_); rintro e w12 ⟨v12, rfl, hb12⟩; have HB12 := Lib.hid (bt HBX.out hb12); clear hb12))
                    go_ret
                    exact ⟨rfl, HB12.out⟩
end Go.Proofs.Ytmhjpdppippgkaa
