/- Contracts of mend's unit and through: by whole rows, the polynomials through all places and rows. -/
import Derived.Test.YtfmjfdbbjggcpaaZb
import Derived.Test.YtfmjfdbbjggcpaaPdiv
import Derived.Test.YtfmjfdbbjggcpaaPrth2
namespace Go.Proofs.Ytfmjfdbbjggcpaa
open Go.ChangeShapes Go.WideShapes Go.ChangeAt Go.RowKit Go.Shelf GF
set_option linter.unusedVariables false
set_option linter.unusedSimpArgs false
set_option maxRecDepth 100000

/-! ## the maths -/
theorem ev_xone (x y : GF) : ev [x, 1] y = x + y := by
  have h := ev_drop [x, (1 : GF)] 0 y
  rw [List.drop_zero, co_cons_zero, show ([x, (1 : GF)]).drop (0 + 1) = [1] from rfl, ev_one, GF.mul_one] at h
  exact h
theorem dg_xone (x : GF) : dg [x, 1] = 2 := by
  have h : tr [x, (1 : GF)] = [x, 1] := tr_self (.inr (by show (1 : GF) ≠ 0; exact GF.one_ne))
  unfold dg; rw [h]; rfl
theorem ev_low {R : List GF} (h : ∀ k, 1 ≤ k → co R k = 0) (y : GF) : ev R y = co R 0 := by
  have e := ev_drop R 0 y
  rw [List.drop_zero] at e
  have e2 : ev (R.drop (0 + 1)) y = ev [] y := ev_congr (fun k => by
    have : co (R.drop (0 + 1)) k = co R (0 + 1 + k) := by unfold co; simp [List.getD_eq_getElem?_getD, Nat.add_comm]
    rw [this, h _ (by omega)]; rfl) y
  rw [e2, show ev [] y = 0 from rfl, GF.mul_zero, GF.add_zero] at e
  exact e
/-- What is left of the vanishing polynomial without one of its places. -/
theorem unit_math {X A R : List GF} {q : Nat} (hX : Apart X) (hq : q < X.length) (h : ∀ k, co (mulL A [co X q, 1]) k + co R k = co (vanA X X.length) k) (hR : (tr R).length < (tr [co X q, 1]).length) (hA : tr A = A) :
    A.length = X.length ∧ ev A (co X q) ≠ 0 ∧ ∀ p, p < X.length → p ≠ q → ev A (co X p) = 0 := by
  have hR2 : dg R < 2 := by have := dg_xone (co X q); unfold dg at this ⊢; omega
  have hd := div_dg (P := vanA X X.length) (Q := [co X q, 1]) h (by rw [dg_xone]; exact hR2) (by rw [dg_xone, dg_van]; omega)
  rw [dg_xone, dg_van] at hd
  have hl : A.length = X.length := by have : dg A = A.length := by unfold dg; rw [hA]
                                      omega
  have hev : ∀ y, ev A y * (co X q + y) + ev R y = ev (vanA X X.length) y := fun y => by
    have e := ev_congr (l := addL (mulL A [co X q, 1]) R) (m := vanA X X.length) (fun k => by rw [co_addL]; exact h k) y
    rw [ev_addL, ev_mulL, ev_xone] at e
    exact e
  have hR0 : ∀ y, ev R y = co R 0 := fun y => ev_low (fun k hk => dg_ge (by omega)) y
  have hv : ∀ p, p < X.length → ev (vanA X X.length) (co X p) = 0 := fun p hp => (ev_vanA X.length (Nat.le_refl _)).2 ⟨p, hp, rfl⟩
  have hz : co R 0 = 0 := by
    have e := hev (co X q)
    rw [GF.add_self, GF.mul_zero, GF.zero_add, hR0, hv q hq] at e
    exact e
  have hp0 : ∀ p, p < X.length → p ≠ q → ev A (co X p) = 0 := fun p hp hne => by
    have e := hev (co X p)
    rw [hR0, hz, GF.add_zero, hv p hp] at e
    exact (GF.mul_eq_zero e).resolve_right fun h0 => Apart.ne hX hq hp (Ne.symm hne) (GF.add_eq_zero.1 h0)
  refine ⟨hl, fun h0 => ?_, hp0⟩
  have hall := roots X.length A X (fun k hk => co_ge (by omega)) (Apart.nodup hX) (Nat.le_refl _) fun x hx => by
    obtain ⟨p, hp, rfl⟩ := mem_co.1 hx
    by_cases e : p = q
    · rw [e]; exact h0
    · exact hp0 p hp e
  have : dg A ≤ 0 := dg_le.2 fun k _ => hall k
  omega
/-- The polynomial that is 1 at one of the places and 0 at the others. -/
def UnitP (X : List GF) (q : Nat) (U : List GF) : Prop := U.length = X.length ∧ ∀ p, p < X.length → ev U (co X p) = if p = q then 1 else 0
theorem unit_ok {X A : List GF} {q : Nat} (hq : q < X.length) (h : A.length = X.length ∧ ev A (co X q) ≠ 0 ∧ ∀ p, p < X.length → p ≠ q → ev A (co X p) = 0) : UnitP X q (smulL (GF.inv (ev A (co X q))) A) := by
  refine ⟨by unfold smulL; rw [List.length_map]; exact h.1, fun p hp => ?_⟩
  rw [ev_smulL]
  by_cases e : p = q
  · rw [if_pos e, e, GF.inv_mul h.2.1]
  · rw [if_neg e, h.2.2 p hp e, GF.mul_zero]

/-! ## Scale -/
theorem fscale_any (b : Nat) (c : Int) (a : Option Addr) (L cap : Nat) (l : List Int) (w : World) (hf : Fld w b) (hc : 0 ≤ c ∧ c < 256) (hx : Arg8 w a L cap l) (hL : L ≤ 140737488355328) :
    Calls Try.prog 73 #[.pointer (some ⟨b, 0, none⟩), .int .u8 c, .slice a L cap] w fun e w' => ∃ g, e = .returned (.slice (some ⟨g, 0, none⟩) L L) ∧
      w'.ownsRow w.heap.size 5 1 (.slice (some ⟨g, 0, none⟩) L L) L ((scaL c l).map (Value.int .u8)) ∧ Below w.heap.size w w' := by
  have HF := Lib.hid hf
  have HX := Lib.hid hx
  have HL := Lib.hid hx.1
  have hcap := hx.2.2.2
  clear hf hx
  go_enter Try.func73, Try.ntmps73
  go_wp2_with (go_at_call 63; refine (fcopied_any _ _ _ l _ HX.out hL).mono ?_; rintro e w1 ⟨g, rfl, hown, hbel⟩)
  have hg0 : w.heap.size ≤ g := (hown.lt g rfl).1
  go_loopw [16] (fun i wr => ∃ (k : Nat) (cur : List Int), k ≤ L ∧ i = .int .i64 (k : Nat) ∧ wr.ownsRow w.heap.size 5 1 (.slice (some ⟨g, 0, none⟩) L L) L (cur.map (Value.int .u8)) ∧ Hid (Mix (scaL c l) l cur k) ∧ Below w.heap.size w wr)
    (fun i _ => L - (intOf i).toNat)
  case atStart => exact ⟨0, l, Nat.zero_le _, rfl, hown, Lib.hid (Mix.zero _ _), hbel⟩
  case round =>
    obtain ⟨k, cur, hk, rfl, hown, hM, hbel⟩ := hrel
    by_cases hlt : k < L
    · have hcl : cur.length = L := by rw [hM.out.1, HL.out]
      have hcg := own_cells hown k hlt
      rw [Nat.zero_add] at hcg
      have hfz := hown.frozenAt k
      have hfw := HF.out.below hbel
      have hst := Lib.hid ((hown.stored k (.int .u8 ((scaL c l).getD k 0))).1)
      have hb2 := Lib.hid (hbel.setCell (p := ⟨g, k, none⟩) hg0 (.int .u8 ((scaL c l).getD k 0)))
      have hN := Lib.hid (hM.out.next (by rw [HL.out]; exact hlt))
      have hcur := hM.out.2 k (by rw [HL.out]; exact hlt)
      rw [if_neg (by omega)] at hcur
      have wX := allB_getD HX.out.2.1 k
      have hsc := scaL_getD c (l := l) (i := k) (by rw [HL.out]; exact hlt)
      rw [hcur] at hcg
      rw [hsc] at hst hb2
      have HC := Lib.hid hcl
      have HS := Lib.hid hsc
      obtain ⟨X, hX⟩ : ∃ X, X = l.getD k 0 := ⟨_, rfl⟩
      rw [← hX] at hcg wX hst hb2
      have HXX := Lib.hid hX
      clear hX hcl hcur hsc hown hbel
      have q1 : (k : Int) < (L : Int) := by omega
      have q3 : (0 : Int) ≤ (k : Int) := by omega
      go_wp2_with (go_at_call 32; refine (mul_I _ _ _ _ hfw hc wX).mono ?_; rintro e w' ⟨rfl, rfl⟩)
      go_roundw
      case rel => exact ⟨k + 1, cur.set k ((scaL c l).getD k 0), by omega, by go_num, by rw [← map_set_u8, HS.out, ← HXX.out]; exact hst.out, hN, hb2.out⟩
      case measure => simp [intOf]; omega
    · obtain rfl : k = L := by omega
      have he := hM.out.all (by rw [length_scaL]) (fun i h1 h2 => absurd h2 (by rw [HL.out]; omega))
      have HO := Lib.hid hown
      have HB := Lib.hid hbel
      have HE := Lib.hid he
      clear hown hbel he
      go_wp2
      go_ret
      exact ⟨g, rfl, by rw [← HE.out]; exact HO.out, HB.out⟩
theorem scaL_G (x : GF) (P : List GF) : scaL (toI x) (iL P) = iL (smulL x P) := by
  have hs : (smulL x P).length = P.length := by unfold smulL; rw [List.length_map]
  apply list_ext_getD (by rw [length_scaL, length_iL, length_iL, hs])
  intro i hi
  rw [length_scaL, length_iL] at hi
  rw [scaL_getD _ (by rw [length_iL]; exact hi), getD_iL, getD_iL, co_smulL, gmI_G]
theorem minv_G (b : Nat) (x : GF) (w : World) (hf : Fld w b) (hx : x ≠ 0) : Calls Try.prog 72 #[.pointer (some ⟨b, 0, none⟩), .int .u8 (toI x)] w fun e w' => e = .returned (.tuple #[.int .u8 (toI (GF.inv x)), .int .i64 0]) ∧ w = w' :=
  inv_ok b x.1 w hf x.2 (GF.val_ne hx)

theorem own_paV {w : World} {base n c : Nat} {e : TypeId} {a : Option Addr} {P : List GF} (h : w.ownsRow base e 1 (.slice a n c) n ((iL P).map (Value.int .u8))) : Pa w a n c P := by
  obtain ⟨a', c', e, hp, _⟩ := Pa.own h
  cases e
  exact hp

/-! ## unit -/
set_option maxHeartbeats 1000000 in
theorem unit_any (b L q : Nat) (aV : Option Addr) (cV : Nat) (X : List GF) (w : World) (hf : Fld w b) (hV : Pa w aV (L + 1) cV (vanA X L)) (hA : Apart X) (hl : X.length = L) (hq : q < L) (hL : L ≤ 255) :
    Calls Try.prog 66 #[.pointer (some ⟨b, 0, none⟩), .slice aV (L + 1 : Nat) cV, .int .u8 (toI (co X q))] w fun e w' => ∃ g U, e = .returned (.slice (some ⟨g, 0, none⟩) L L) ∧
      w'.ownsRow w.heap.size 5 1 (.slice (some ⟨g, 0, none⟩) L L) L ((iL U).map (Value.int .u8)) ∧ Hid (UnitP X q U) ∧ Below w.heap.size w w' := by
  have hbd := hV.bd
  obtain ⟨x, hx⟩ : ∃ x, x = co X q := ⟨_, rfl⟩
  have HXQ := Lib.hid hx
  have z1 : toI (1 : GF) = 1 := rfl
  obtain ⟨W, hW⟩ : ∃ W, W = w.alloc (.cells #[.int .u8 (toI x), .int .u8 1] 5) := ⟨_, rfl⟩
  have hbw : Below w.heap.size w W := by rw [hW]; exact (Below.refl _ _).alloc (Nat.le_refl _) _
  have hQ : Pa W (some ⟨w.heap.size, 0, none⟩) 2 2 [x, 1] := by
    have h := Pa.own2 (own_pair w x 1)
    rw [z1, ← hW] at h
    exact h
  have hne : tr [x, (1 : GF)] ≠ [] := dg_pos.1 (by rw [dg_xone]; decide)
  have HD := Lib.hid (divmod_any b aV (L + 1) cV (vanA X L) (some ⟨w.heap.size, 0, none⟩) 2 2 [x, 1] W (hf.below hbw) (hV.on hbw) hQ (by omega) (by omega) hne)
  have HF := Lib.hid hf
  have HBW := Lib.hid hbw
  have HC := Lib.hid (And.intro hA (And.intro hl (And.intro hq hL)))
  rw [← hx]
  rw [hW] at HD HBW
  clear hf hV hA hl hq hL hx hbw hQ hne hW
  go_enter Try.func66, Try.ntmps66
  go_wp2_with (first
    | (go_at_call 67; go_loud (refine HD.out.mono ?_; rintro e w1 ⟨v1, v2, A, R, rfl, ho1, ho2, hm, hb⟩; have HU := Lib.hid (unit_math (X := X) (q := q) HC.out.1 (by rw [HC.out.2.1]; exact HC.out.2.2.1) (by rw [HC.out.2.1, ← HXQ.out]; exact hm.out.2.2.2) (by rw [← HXQ.out]; exact hm.out.2.2.1) hm.out.2.1); have hAl := HU.out.1.trans HC.out.2.1; rw [hAl] at ho1; obtain ⟨a1, c1, hv1, _⟩ := own_form ho1; subst hv1; obtain ⟨a2, c2, hv2, _⟩ := own_form ho2; subst hv2; have HP1 := Lib.hid (own_paV ho1); have HB1 := Lib.hid (bt HBW.out hb); have HE1 := Lib.hid (eval_8 b a1 L c1 A x w1 (HF.out.below HB1.out) HP1.out.1 (by have := HC.out.2.2.2; omega)); have hd1 := HP1.out.bd; clear ho1 ho2 hb hm hAl))
    | (go_at_call 13; go_loud (refine HE1.out.mono ?_; rintro e w2 ⟨rfl, hb⟩; have HB2 := Lib.hid (bt HB1.out hb); have HP2 := Lib.hid (HP1.out.on hb); have HI := Lib.hid (minv_G b (ev A x) w2 (HF.out.below HB2.out) (by rw [HXQ.out]; exact HU.out.2.1)); have HS := Lib.hid (fscale_any b (toI (GF.inv (ev A x))) a1 L c1 (iL A) w2 (HF.out.below HB2.out) (toI_bd _) HP2.out.1 (by have := HC.out.2.2.2; omega)); rw [scaL_G] at HS; clear hb))
    | (go_at_call 72; go_loud (refine HI.out.mono ?_; rintro e w' ⟨rfl, rfl⟩))
    | (go_at_call 73; go_loud (refine HS.out.mono ?_; rintro e w3 ⟨g, rfl, ho, hb⟩; have HO := Lib.hid (own_base ho HB2.out.size); have HB3 := Lib.hid (bt HB2.out hb); clear ho hb)))
  go_ret
  refine ⟨g, _, rfl, HO.out, Lib.hid ?_, HB3.out⟩
  rw [HXQ.out]
  exact unit_ok (by rw [HC.out.2.1]; exact HC.out.2.2.1) HU.out
end Go.Proofs.Ytfmjfdbbjggcpaa
