/- Texts of mine, one behind the other: Zc Hd Zd. -/
import Derived.Test.YtappfdbmhgifcaaGreatDoorZS17
import Derived.Test.YtappfdbmhgifcaaGreatDoorZS18
import Derived.Test.YtappfdbmhgifcaaGreatDoorZS15
import Derived.Test.YtappfdbmhgifcaaGreatDoorZS16
import Derived.Deep.RegionHeld
/- Contracts of mend's unit and through: by whole rows, the polynomials through all places and rows. -/
namespace Go.Proofs.YtappfdbmhgifcaaGreatDoor
open Go.ChangeShapes Go.WideShapes Go.ChangeAt Go.RowKit Go.Shelf GF
set_option linter.unusedVariables false
set_option linter.unusedSimpArgs false
set_option maxRecDepth 100000

/-! ## the maths -/
theorem ev_xone (x y : GF) : ev [x, 1] y = x + y := by
  have h := ev_drop [x, (1 : GF)] 0 y
  rw [List.drop_zero, co_cons_zero, show ([x, (1 : GF)]).drop (0 + 1) = [1] from rfl, ev_one, GF.mul_one] at h
  exact h
theorem dg_xone (x : GF) : dg [x, 1] = 2 := by
  have h : tr [x, (1 : GF)] = [x, 1] := tr_self (.inr (by show (1 : GF) ≠ 0; exact GF.one_ne))
  unfold dg; rw [h]; rfl
theorem ev_low {R : List GF} (h : ∀ k, 1 ≤ k → co R k = 0) (y : GF) : ev R y = co R 0 := by
  have e := ev_drop R 0 y
  rw [List.drop_zero] at e
  have e2 : ev (R.drop (0 + 1)) y = ev [] y := ev_congr (fun k => by
    have : co (R.drop (0 + 1)) k = co R (0 + 1 + k) := by unfold co; simp [List.getD_eq_getElem?_getD, Nat.add_comm]
    rw [this, h _ (by omega)]; rfl) y
  rw [e2, show ev [] y = 0 from rfl, GF.mul_zero, GF.add_zero] at e
  exact e
/-- What is left of the vanishing polynomial without one of its places. -/
theorem unit_math {X A R : List GF} {q : Nat} (hX : Apart X) (hq : q < X.length) (h : ∀ k, co (mulL A [co X q, 1]) k + co R k = co (vanA X X.length) k) (hR : (tr R).length < (tr [co X q, 1]).length) (hA : tr A = A) :
    A.length = X.length ∧ ev A (co X q) ≠ 0 ∧ ∀ p, p < X.length → p ≠ q → ev A (co X p) = 0 := by
  have hR2 : dg R < 2 := by have := dg_xone (co X q); unfold dg at this ⊢; omega
  have hd := div_dg (P := vanA X X.length) (Q := [co X q, 1]) h (by rw [dg_xone]; exact hR2) (by rw [dg_xone, dg_van]; omega)
  rw [dg_xone, dg_van] at hd
  have hl : A.length = X.length := by have : dg A = A.length := by unfold dg; rw [hA]
                                      omega
  have hev : ∀ y, ev A y * (co X q + y) + ev R y = ev (vanA X X.length) y := fun y => by
    have e := ev_congr (l := addL (mulL A [co X q, 1]) R) (m := vanA X X.length) (fun k => by rw [co_addL]; exact h k) y
    rw [ev_addL, ev_mulL, ev_xone] at e
    exact e
  have hR0 : ∀ y, ev R y = co R 0 := fun y => ev_low (fun k hk => dg_ge (by omega)) y
  have hv : ∀ p, p < X.length → ev (vanA X X.length) (co X p) = 0 := fun p hp => (ev_vanA X.length (Nat.le_refl _)).2 ⟨p, hp, rfl⟩
  have hz : co R 0 = 0 := by
    have e := hev (co X q)
    rw [GF.add_self, GF.mul_zero, GF.zero_add, hR0, hv q hq] at e
    exact e
  have hp0 : ∀ p, p < X.length → p ≠ q → ev A (co X p) = 0 := fun p hp hne => by
    have e := hev (co X p)
    rw [hR0, hz, GF.add_zero, hv p hp] at e
    exact (GF.mul_eq_zero e).resolve_right fun h0 => Apart.ne hX hq hp (Ne.symm hne) (GF.add_eq_zero.1 h0)
  refine ⟨hl, fun h0 => ?_, hp0⟩
  have hall := roots X.length A X (fun k hk => co_ge (by omega)) (Apart.nodup hX) (Nat.le_refl _) fun x hx => by
    obtain ⟨p, hp, rfl⟩ := mem_co.1 hx
    by_cases e : p = q
    · rw [e]; exact h0
    · exact hp0 p hp e
  have : dg A ≤ 0 := dg_le.2 fun k _ => hall k
  omega
/-- The polynomial that is 1 at one of the places and 0 at the others. -/
def UnitP (X : List GF) (q : Nat) (U : List GF) : Prop := U.length = X.length ∧ ∀ p, p < X.length → ev U (co X p) = if p = q then 1 else 0
theorem unit_ok {X A : List GF} {q : Nat} (hq : q < X.length) (h : A.length = X.length ∧ ev A (co X q) ≠ 0 ∧ ∀ p, p < X.length → p ≠ q → ev A (co X p) = 0) : UnitP X q (smulL (GF.inv (ev A (co X q))) A) := by
  refine ⟨by unfold smulL; rw [List.length_map]; exact h.1, fun p hp => ?_⟩
  rw [ev_smulL]
  by_cases e : p = q
  · rw [if_pos e, e, GF.inv_mul h.2.1]
  · rw [if_neg e, h.2.2 p hp e, GF.mul_zero]

/-! ## Scale -/
theorem fscale_any (b : Nat) (c : Int) (a : Option Addr) (L cap : Nat) (l : List Int) (w : World) (hf : Fld w b) (hc : 0 ≤ c ∧ c < 256) (hx : Arg8 w a L cap l) (hL : L ≤ 140737488355328) :
    Calls Tryz.prog 159 #[.pointer (some ⟨b, 0, none⟩), .int .u8 c, .slice a L cap] w fun e w' => ∃ g, e = .returned (.slice (some ⟨g, 0, none⟩) L L) ∧
      w'.ownsRow w.heap.size 5 1 (.slice (some ⟨g, 0, none⟩) L L) L ((scaL c l).map (Value.int .u8)) ∧ Below w.heap.size w w' := by
  have HF := Lib.hid hf
  have HX := Lib.hid hx
  have HL := Lib.hid hx.1
  have hcap := hx.2.2.2
  clear hf hx
  go_enter Tryz.func159, Tryz.ntmps159
  go_wp2_with (go_at_call 103; refine (fcopied_any _ _ _ l _ HX.out hL).mono ?_; rintro e w1 ⟨g, rfl, hown, hbel⟩)
  have hg0 : w.heap.size ≤ g := (hown.lt g rfl).1
  go_loopw [16] (fun i wr => ∃ (k : Nat) (cur : List Int), k ≤ L ∧ i = .int .i64 (k : Nat) ∧ wr.ownsRow w.heap.size 5 1 (.slice (some ⟨g, 0, none⟩) L L) L (cur.map (Value.int .u8)) ∧ Hid (Mix (scaL c l) l cur k) ∧ Below w.heap.size w wr)
    (fun i _ => L - (intOf i).toNat)
  case atStart => exact ⟨0, l, Nat.zero_le _, rfl, hown, Lib.hid (Mix.zero _ _), hbel⟩
  case round =>
    obtain ⟨k, cur, hk, rfl, hown, hM, hbel⟩ := hrel
    by_cases hlt : k < L
    · have hcl : cur.length = L := by rw [hM.out.1, HL.out]
      have hcg := own_cells hown k hlt
      rw [Nat.zero_add] at hcg
      have hfz := hown.frozenAt k
      have hfw := HF.out.below hbel
      have hst := Lib.hid ((hown.stored k (.int .u8 ((scaL c l).getD k 0))).1)
      have hb2 := Lib.hid (hbel.setCell (p := ⟨g, k, none⟩) hg0 (.int .u8 ((scaL c l).getD k 0)))
      have hN := Lib.hid (hM.out.next (by rw [HL.out]; exact hlt))
      have hcur := hM.out.2 k (by rw [HL.out]; exact hlt)
      rw [if_neg (by omega)] at hcur
      have wX := allB_getD HX.out.2.1 k
      have hsc := scaL_getD c (l := l) (i := k) (by rw [HL.out]; exact hlt)
      rw [hcur] at hcg
      rw [hsc] at hst hb2
      have HC := Lib.hid hcl
      have HS := Lib.hid hsc
      obtain ⟨X, hX⟩ : ∃ X, X = l.getD k 0 := ⟨_, rfl⟩
      rw [← hX] at hcg wX hst hb2
      have HXX := Lib.hid hX
      clear hX hcl hcur hsc hown hbel
      have q1 : (k : Int) < (L : Int) := by omega
      have q3 : (0 : Int) ≤ (k : Int) := by omega
      go_wp2_with (go_at_call 104; refine (mul_I _ _ _ _ hfw hc wX).mono ?_; rintro e w' ⟨rfl, rfl⟩)
      go_roundw
      case rel => exact ⟨k + 1, cur.set k ((scaL c l).getD k 0), by omega, by go_num, by rw [← map_set_u8, HS.out, ← HXX.out]; exact hst.out, hN, hb2.out⟩
      case measure => simp [intOf]; omega
    · obtain rfl : k = L := by omega
      have he := hM.out.all (by rw [length_scaL]) (fun i h1 h2 => absurd h2 (by rw [HL.out]; omega))
      have HO := Lib.hid hown
      have HB := Lib.hid hbel
      have HE := Lib.hid he
      clear hown hbel he
      go_wp2
      go_ret
      exact ⟨g, rfl, by rw [← HE.out]; exact HO.out, HB.out⟩
theorem scaL_G (x : GF) (P : List GF) : scaL (toI x) (iL P) = iL (smulL x P) := by
  have hs : (smulL x P).length = P.length := by unfold smulL; rw [List.length_map]
  apply list_ext_getD (by rw [length_scaL, length_iL, length_iL, hs])
  intro i hi
  rw [length_scaL, length_iL] at hi
  rw [scaL_getD _ (by rw [length_iL]; exact hi), getD_iL, getD_iL, co_smulL, gmI_G]
theorem minv_G (b : Nat) (x : GF) (w : World) (hf : Fld w b) (hx : x ≠ 0) : Calls Tryz.prog 141 #[.pointer (some ⟨b, 0, none⟩), .int .u8 (toI x)] w fun e w' => e = .returned (.tuple #[.int .u8 (toI (GF.inv x)), .int .i64 0]) ∧ w = w' :=
  inv_ok b x.1 w hf x.2 (GF.val_ne hx)

theorem own_paV {w : World} {base n c : Nat} {e : TypeId} {a : Option Addr} {P : List GF} (h : w.ownsRow base e 1 (.slice a n c) n ((iL P).map (Value.int .u8))) : Pa w a n c P := by
  obtain ⟨a', c', e, hp, _⟩ := Pa.own h
  cases e
  exact hp

/-! ## unit -/
set_option maxHeartbeats 1000000 in
theorem unit_any (b L q : Nat) (aV : Option Addr) (cV : Nat) (X : List GF) (w : World) (hf : Fld w b) (hV : Pa w aV (L + 1) cV (vanA X L)) (hA : Apart X) (hl : X.length = L) (hq : q < L) (hL : L ≤ 255) :
    Calls Tryz.prog 136 #[.pointer (some ⟨b, 0, none⟩), .slice aV (L + 1 : Nat) cV, .int .u8 (toI (co X q))] w fun e w' => ∃ g U, e = .returned (.slice (some ⟨g, 0, none⟩) L L) ∧
      w'.ownsRow w.heap.size 5 1 (.slice (some ⟨g, 0, none⟩) L L) L ((iL U).map (Value.int .u8)) ∧ Hid (UnitP X q U) ∧ Below w.heap.size w w' := by
  have hbd := hV.bd
  obtain ⟨x, hx⟩ : ∃ x, x = co X q := ⟨_, rfl⟩
  have HXQ := Lib.hid hx
  have z1 : toI (1 : GF) = 1 := rfl
  obtain ⟨W, hW⟩ : ∃ W, W = w.alloc (.cells #[.int .u8 (toI x), .int .u8 1] 5) := ⟨_, rfl⟩
  have hbw : Below w.heap.size w W := by rw [hW]; exact (Below.refl _ _).alloc (Nat.le_refl _) _
  have hQ : Pa W (some ⟨w.heap.size, 0, none⟩) 2 2 [x, 1] := by
    have h := Pa.own2 (own_pair w x 1)
    rw [z1, ← hW] at h
    exact h
  have hne : tr [x, (1 : GF)] ≠ [] := dg_pos.1 (by rw [dg_xone]; decide)
  have HD := Lib.hid (divmod_any b aV (L + 1) cV (vanA X L) (some ⟨w.heap.size, 0, none⟩) 2 2 [x, 1] W (hf.below hbw) (hV.on hbw) hQ (by omega) (by omega) hne)
  have HF := Lib.hid hf
  have HBW := Lib.hid hbw
  have HC := Lib.hid (And.intro hA (And.intro hl (And.intro hq hL)))
  rw [← hx]
  rw [hW] at HD HBW
  clear hf hV hA hl hq hL hx hbw hQ hne hW
  go_enter Tryz.func136, Tryz.ntmps136
  go_wp2_with (first
    | (go_at_call 138; go_loud (refine HD.out.mono ?_; rintro e w1 ⟨v1, v2, A, R, rfl, ho1, ho2, hm, hb⟩; have HU := Lib.hid (unit_math (X := X) (q := q) HC.out.1 (by rw [HC.out.2.1]; exact HC.out.2.2.1) (by rw [HC.out.2.1, ← HXQ.out]; exact hm.out.2.2.2) (by rw [← HXQ.out]; exact hm.out.2.2.1) hm.out.2.1); have hAl := HU.out.1.trans HC.out.2.1; rw [hAl] at ho1; obtain ⟨a1, c1, hv1, _⟩ := own_form ho1; subst hv1; obtain ⟨a2, c2, hv2, _⟩ := own_form ho2; subst hv2; have HP1 := Lib.hid (own_paV ho1); have HB1 := Lib.hid (bt HBW.out hb); have HE1 := Lib.hid (eval_8 b a1 L c1 A x w1 (HF.out.below HB1.out) HP1.out.1 (by have := HC.out.2.2.2; omega)); have hd1 := HP1.out.bd; clear ho1 ho2 hb hm hAl))
    | (go_at_call 158; go_loud (refine HE1.out.mono ?_; rintro e w2 ⟨rfl, hb⟩; have HB2 := Lib.hid (bt HB1.out hb); have HP2 := Lib.hid (HP1.out.on hb); have HI := Lib.hid (minv_G b (ev A x) w2 (HF.out.below HB2.out) (by rw [HXQ.out]; exact HU.out.2.1)); have HS := Lib.hid (fscale_any b (toI (GF.inv (ev A x))) a1 L c1 (iL A) w2 (HF.out.below HB2.out) (toI_bd _) HP2.out.1 (by have := HC.out.2.2.2; omega)); rw [scaL_G] at HS; clear hb))
    | (go_at_call 141; go_loud (refine HI.out.mono ?_; rintro e w' ⟨rfl, rfl⟩))
    | (go_at_call 159; go_loud (refine HS.out.mono ?_; rintro e w3 ⟨g, rfl, ho, hb⟩; have HO := Lib.hid (own_base ho HB2.out.size); have HB3 := Lib.hid (bt HB2.out hb); clear ho hb)))
  go_ret
  refine ⟨g, _, rfl, HO.out, Lib.hid ?_, HB3.out⟩
  rw [HXQ.out]
  exact unit_ok (by rw [HC.out.2.1]; exact HC.out.2.2.1) HU.out
end Go.Proofs.YtappfdbmhgifcaaGreatDoor
/- Contracts of word.Zero and of stripe's sealed, opened, pieces, Spread. -/
namespace Go.Proofs.YtappfdbmhgifcaaGreatDoor
open Go.ChangeShapes Go.WideShapes Go.ChangeAt Go.RowKit Go.Shelf GF
set_option linter.unusedVariables false
set_option linter.unusedSimpArgs false
set_option maxRecDepth 100000

def zeroG (l : List GF) : Bool := l.all (fun x => x.1 == 0)
theorem zeroG_false {l : List GF} {k : Nat} (hk : k < l.length) (h : co l k ≠ 0) : zeroG l = false := by
  unfold zeroG
  rw [List.all_eq_false]
  refine ⟨l[k], List.getElem_mem hk, ?_⟩
  rw [co_lt hk] at h
  rw [beq_iff_eq]
  exact fun e => h (GF.ext e)
theorem zeroG_true {l : List GF} (h : ∀ i, i < l.length → co l i = 0) : zeroG l = true := by
  unfold zeroG
  rw [List.all_eq_true]
  intro x hx
  obtain ⟨i, hi, rfl⟩ := List.getElem_of_mem hx
  have := h i hi
  rw [co_lt hi] at this
  rw [this]; rfl
theorem zero_anyG (a : Option Addr) (n c : Nat) (l : List GF) (w : World) (hl : Pa w a n c l) :
    Calls Tryz.prog 72 #[.slice a n c] w fun e w' => e = .returned (.bool (zeroG l)) ∧ w = w' := by
  have HP := Lib.hid hl
  have hbd := hl.bd
  have HL := Lib.hid hl.len
  clear hl
  go_enter Tryz.func72, Tryz.ntmps72
  go_wp2
  go_loop [7] (fun i => ∃ k : Nat, k ≤ n ∧ i = .int .i64 k ∧ Hid (∀ i, i < k → co l i = 0)) (fun i => n - (intOf i).toNat)
  case atStart => exact ⟨0, Nat.zero_le _, rfl, fun i hi => absurd hi (by omega)⟩
  case round =>
    obtain ⟨k, hk, rfl, hz⟩ := hrel
    by_cases hlt : k < n
    · obtain ⟨b, off, rfl, hB, hc⟩ := HP.out.at_ (k := k) (by omega)
      obtain ⟨X, hX⟩ : ∃ X, X = toI (co l k) := ⟨_, rfl⟩
      rw [← hX] at hc
      have HX := Lib.hid hX
      clear hX
      by_cases h0 : X = 0
      · subst h0
        go_wp2
        go_round
        case rel =>
          refine ⟨k + 1, by omega, by go_num, fun i hi => ?_⟩
          by_cases e : i = k
          · subst e; exact toI_eq_zero.1 HX.out.symm
          · exact hz.out i (by omega)
        case measure => simp [intOf]; omega
      · have HF := Lib.hid (zeroG_false (l := l) (k := k) (by rw [HL.out]; exact hlt) (fun e => h0 (by rw [HX.out, e]; rfl)))
        have h1 : (X != 0) = true := by simpa using h0
        go_wp2
        go_ret
        exact ⟨by rw [HF.out] <;> rfl, rfl⟩
    · obtain rfl : k = n := by omega
      have HT := Lib.hid (zeroG_true (l := l) (fun i hi => hz.out i (by rw [← HL.out]; exact hi)))
      go_wp2
      go_ret
      exact ⟨by rw [HT.out] <;> rfl, rfl⟩

/-- Rows of rows of one's own: rows that lie in new memory. -/
def OwnM (w : World) (B : Nat) (a : Option Addr) (n c : Nat) (M : List (List GF)) : Prop := ∃ vs, w.ownsRow B 22 1 (.slice a n c) n vs ∧ RV w (fun b => B ≤ b) vs M
theorem OwnM.matB {w : World} {B : Nat} {a : Option Addr} {n c : Nat} {M : List (List GF)} (h : OwnM w B a n c M) : MatB w B a n c M := by
  obtain ⟨vs, h1, h2⟩ := h
  exact MatB.ofOk h1 h2 fun b hb => hb
theorem OwnM.mat {w : World} {B : Nat} {a : Option Addr} {n c : Nat} {M : List (List GF)} (h : OwnM w B a n c M) : Mat w a n c M := h.matB.mat
theorem OwnM.low {w : World} {B B' : Nat} {a : Option Addr} {n c : Nat} {M : List (List GF)} (h : OwnM w B a n c M) (hB : B' ≤ B) : OwnM w B' a n c M := by
  obtain ⟨vs, h1, h2⟩ := h
  exact ⟨vs, own_base h1 hB, h2.keep (Nat.le_refl _) fun b _ hb => ⟨Nat.le_trans hB hb, rfl⟩⟩
theorem OwnM.on {w w' : World} {B : Nat} {a : Option Addr} {n c : Nat} {M : List (List GF)} (h : OwnM w B a n c M) (hb : Below w.heap.size w w') : OwnM w' B a n c M := by
  obtain ⟨vs, h1, h2⟩ := h
  exact ⟨vs, own_belowV h1 hb, h2.keep hb.size fun b hlt hB => ⟨hB, hb.block b hlt⟩⟩
set_option maxHeartbeats 2000000 in
theorem splitO (b t n m L : Nat) (aS : Option Addr) (cS : Nat) (S : List GF) (aM : Option Addr) (cM : Nat) (M : List GF) (aX : Option Addr) (cX : Nat) (X : List GF) (w : World) (hf : Fld w b) (hS : Pa w aS n cS S) (hM : Pa w aM m cM M) (hX : Pa w aX L cX X) (ht1 : 1 ≤ t) (ht2 : t ≤ 255) (hm : m = (t - 1) * n) (hz : ∀ k, k < L → co X k ≠ 0) (hn : n ≤ 1000) (hL : L ≤ 255) :
    Calls Tryz.prog 25 #[.pointer (some ⟨b, 0, none⟩), .int .i64 (t : Nat), .slice aS n cS, .slice aM m cM, .slice aX L cX] w fun e w' =>
      ∃ a' c', e = .returned (.tuple #[.slice a' L c', .int .i64 0]) ∧ OwnM w' w.heap.size a' L c' (shM t n S M X) ∧ Below w.heap.size w w' := by
  have HCH := Lib.hid (chk_ok ⟨b, 0, none⟩ t n m aM cM aX L cX X w hX ht1 ht2 hn hz hm hM.bd)
  have HDE := Lib.hid (dealing_any t n m aS cS S aM cM M w hS hM ht1 ht2 hm hn)
  have HWD := Lib.hid (fun k (hk : k < t) => dR_wide hS.len hM.len ht1 hm hk)
  have HF := Lib.hid hf
  have HX := Lib.hid hX
  have HXL := Lib.hid hX.len
  have HT := Lib.hid (And.intro ht1 ht2)
  have HN := Lib.hid hn
  have HL := Lib.hid hL
  have hsb := hS.bd
  have hmb := hM.bd
  have hxb := hX.bd
  have hmk := run_make_row' (P := Tryz.prog) 28 22 (.slice none 0 0) 24 Tryz.underlying28 infoR rfl .i64 .i64 L (by omega) (by omega)
  clear hf hS hM hX ht1 ht2 hm hz hn hL
  go_enter Tryz.func25, Tryz.ntmps25
  go_wp2_with (first
    | (go_at_call 49; refine HCH.out.mono ?_; rintro e w' ⟨rfl, rfl⟩)
    | (go_at_call 50; refine HDE.out.mono ?_; rintro e w1 ⟨aR, cR, rfl, hmat, hb1⟩; have HMAT := Lib.hid hmat; have HB1 := Lib.hid hb1; clear hmat hb1))
  have hO0 : Hid ((w1.alloc (.cells (madeCells #[Value.slice none 0 0] L) 22)).ownsRow w1.heap.size 22 1 (.slice (some ⟨w1.heap.size, 0, none⟩) L L) L ([] ++ List.replicate (L - ([] : List Value).length) (.slice none 0 0))) :=
    Lib.hid (own_madeR (w := w1) (n := L) (by unfold maxLen; have := HL.out; omega))
  have hB0 : Hid (Below w1.heap.size w1 (w1.alloc (.cells (madeCells #[Value.slice none 0 0] L) 22))) := Lib.hid ((Below.refl _ _).alloc (Nat.le_refl _) _)
  go_loopw [36] (fun j wr => ∃ (i : Nat) (vs : List Value), i ≤ L ∧ vs.length = i ∧ j = .int .i64 (i : Nat) ∧ Hid (wr.ownsRow w1.heap.size 22 1 (.slice (some ⟨w1.heap.size, 0, none⟩) L L) L (vs ++ List.replicate (L - vs.length) (.slice none 0 0))) ∧ Hid (RV wr (fun b => w1.heap.size < b) vs ((shM t n S M X).take i)) ∧ Hid (Below w1.heap.size w1 wr))
    (fun j _ => L - (intOf j).toNat)
  case atStart => exact ⟨0, [], Nat.zero_le _, rfl, rfl, hO0, Lib.hid (RV.nil _ _), hB0⟩
  case round =>
    obtain ⟨i, vs, hi, hvl, rfl, hO, hV, hB⟩ := hrel
    rename World => w2
    by_cases hlt : i < L
    · obtain ⟨bx, ox, rfl, hbx, hcx⟩ := (HX.out.on (bt HB1.out hB.out)).at_ hlt
      have qi : (i : Int) < (L : Int) := by omega
      have qi0 : (0 : Int) ≤ (i : Int) := by omega
      have HVA := Lib.hid (value_any b t n aR cR (dR t n S M) (co X i) w2 (HF.out.below (bt HB1.out hB.out)) (HMAT.out.on hB.out) HWD.out HT.out.1 HT.out.2 HN.out)
      rw [valR_dR _ HT.out.1] at HVA
      have HVL := Lib.hid hvl
      clear hvl
      have hgs := (hO.out.lt w1.heap.size rfl).2
      go_wp2_with (go_at_call 51; refine HVA.out.mono ?_; rintro e w3 ⟨aV, cV, rfl, hpv, hnew, hb3⟩; have HPV := Lib.hid hpv; have HNEW := Lib.hid hnew; have HB3 := Lib.hid hb3; have HO3 := Lib.hid (own_belowV hO.out hb3); have hfz := HO3.out.frozenAt i; have hcl := HO3.out.cellAt i (by have := HVL.out; simp; omega); rw [List.getElem?_eq_getElem (by have := HVL.out; simp; omega)] at hcl; clear hpv hnew hb3)
      have hst := (HO3.out.stored i (.slice aV n cV)).1
      have hsn := set_next (vs := vs) (n := L) (.slice none 0 0) (.slice aV n cV) (by rw [HVL.out]; exact hlt)
      rw [HVL.out] at hsn hst
      rw [hsn] at hst
      have hpv : Pa (w3.setCell ⟨w1.heap.size, i, none⟩ (.slice aV n cV)) aV n cV (shR t n S M (co X i)) := HPV.out.but (gb_set _ _ _ _) (fun bb off e => by have := HNEW.out bb off e; omega)
      have hrv : RV (w3.setCell ⟨w1.heap.size, i, none⟩ (.slice aV n cV)) (fun b => w1.heap.size < b) vs ((shM t n S M X).take i) := hV.out.keep (by have := HB3.out.size; simp; omega) (fun b h1 h2 => ⟨h2, by rw [Below.heap_setCell _ _ _ _ (by show b ≠ w1.heap.size; omega)]; exact HB3.out.block b h1⟩)
      have hl := shR_len t n S M (co X i)
      have hmo := hrv.more (P := shR t n S M (co X i)) (a := aV) (c := cV) (by rw [hl]; exact hpv) (fun bb off e _ => by have := HNEW.out bb off e; omega)
      rw [hl, ← shM_take (by rw [HXL.out]; exact hlt)] at hmo
      have HST := Lib.hid hst; have HMO := Lib.hid hmo
      have HBN := Lib.hid ((hB.out.trans (HB3.out.mono (by omega))).setCell (p := ⟨w1.heap.size, i, none⟩) (Nat.le_refl _) (.slice aV n cV))
      have hl2 : (vs ++ [Value.slice aV n cV]).length = i + 1 := by rw [List.length_append, HVL.out]; rfl
      clear hst hsn hpv hrv hl hmo
      exact ⟨⟨i + 1, vs ++ [.slice aV n cV], by omega, hl2, by go_num, by rw [hl2]; exact HST, HMO, HBN⟩, by simp [intOf]; omega⟩
    · obtain rfl : L = i := by omega
      have ho := hO.out
      have hv := hV.out
      rw [hvl, Nat.sub_self, List.replicate_zero, List.append_nil] at ho
      rw [List.take_of_length_le (by rw [shM_len, HXL.out]; exact Nat.le_refl _)] at hv
      have HMB := Lib.hid (show OwnM w2 w.heap.size (some ⟨w1.heap.size, 0, none⟩) L L (shM t n S M X) from ⟨vs, own_base ho HB1.out.size, hv.keep (Nat.le_refl _) (fun b _ hb => ⟨by have := HB1.out.size; omega, rfl⟩)⟩)
      have HBF := Lib.hid (bt HB1.out hB.out)
      clear ho hv hvl
      go_wp2
      go_ret2
      exact ⟨_, _, rfl, HMB.out, HBF.out⟩
theorem encodeO (b t N n : Nat) (aR : Option Addr) (cR : Nat) (R : List (List GF)) (w : World) (hf : Fld w b) (hR : Mat w aR t cR R) (ht : 1 ≤ t) (htN : t ≤ N) (hN : N ≤ 255) (hw : ∀ k, k < t → (rw_ R k).length = n) (hn : n ≤ 1000) :
    Calls Tryz.prog 55 #[.pointer (some ⟨b, 0, none⟩), .int .i64 (N : Nat), .slice aR t cR] w fun e w' =>
      ∃ a' c', e = .returned (.tuple #[.slice a' N c', .int .i64 0]) ∧ OwnM w' w.heap.size a' N c' (encM R n N) ∧ Below w.heap.size w w' := by
  have H := Lib.hid (encO b t n 1 N N (N : Int) aR cR R w hf hR ht (by omega) (by omega) hw hn (Nat.le_refl _) (by omega) hN (Nat.add_comm 1 N))
  have HL := Lib.hid hR.len
  have hb2 := hR.bd
  clear hf hR ht htN hN hw hn
  go_enter Tryz.func55, Tryz.ntmps55
  go_wp2_with (go_at_call 85; go_loud (refine H.out.mono ?_; rintro e w3 ⟨a, c, rfl, vs, ho, hv, hb⟩; have HM := Lib.hid (show OwnM w3 w.heap.size a N c (valM (plc t) (rw_ R) n 1 N) from ⟨vs, ho, hv.keep (Nat.le_refl _) fun b _ hb => ⟨hb.1, rfl⟩⟩); have HB := Lib.hid hb; clear ho hv hb))
  go_ret2
  exact ⟨_, _, rfl, by rw [← valM_enc HL.out]; exact HM.out, HB.out⟩

/-! ## the marked package -/
theorem pa_one (w : World) : Pa (w.alloc (.cells #[.int .u8 1] 5)) (some ⟨w.heap.size, 0, none⟩) 1 1 [1] := by
  refine ⟨⟨rfl, allB_iL _, fun h0 => ⟨w.heap.size, 0, rfl, by simp, fun j hj => ?_⟩, Nat.le_refl _, by unfold maxLen; omega⟩, fun e => by cases e⟩
  have : j < 1 := hj
  obtain rfl : j = 0 := by omega
  simp [iL, toI_one]
theorem pkg_pa {w : World} {base g c : Nat} {e : TypeId} {K B : List GF} (h : w.ownsRow base e 1 (.slice (some ⟨g, 0, none⟩) 472 c) 472 ((pkgL (iL K) (iL B)).map (Value.int .u8))) : Pa w (some ⟨g, 0, none⟩) 472 c (gL (pkgL (iL K) (iL B))) :=
  Pa.of (own_any h (pkgL_B (allB_iL _) (allB_iL _)))
set_option maxHeartbeats 1000000 in
theorem sealed_any (b : Nat) (aK : Option Addr) (cK : Nat) (K : List GF) (aB : Option Addr) (cB : Nat) (B : List GF) (w : World) (hG : Gl w) (hf : Fld w b) (hK : Pa w aK 32 cK K) (hB : Pa w aB 440 cB B) :
    Calls Tryz.prog 28 #[.pointer (some ⟨b, 0, none⟩), .slice aK 32 cK, .slice aB 440 cB] w fun e w' => ∃ a c, e = .returned (.tuple #[.slice a 473 c, .int .i64 0]) ∧ Pa w' a 473 c (parG K B) ∧ Below w.heap.size w w' := by
  have HW : Hid (Calls Tryz.prog 52 #[.pointer (some ⟨b, 0, none⟩), .slice aK 32 cK, .slice aB 440 cB] w fun e w' => ∃ g c, e = .returned (.tuple #[.slice (some ⟨g, 0, none⟩) 472 c, .int .i64 0]) ∧
      w'.ownsRow w.heap.size 5 1 (.slice (some ⟨g, 0, none⟩) 472 c) 472 ((pkgL (iL K) (iL B)).map (Value.int .u8)) ∧ Below w.heap.size w w') := Lib.hid (wrapOk b aK cK (iL K) aB 440 cB (iL B) w hG hf hK hB (by omega))
  clear hG hf hK hB
  go_enter Tryz.func28, Tryz.ntmps28
  go_wp2_with (first
    | (go_at_call 52; go_loud ((with_reducible refine HW.out.mono ?_); rintro e w1 ⟨g1, c1, rfl, ho, hb⟩; have hb0 := (own_any ho (pkgL_B (allB_iL _) (allB_iL _))).1; have hcb := hb0.2.2.2; have HP1 := Lib.hid (pkg_pa ho); have HB1 := Lib.hid hb; have HA1 := Lib.hid ((Below.refl w1.heap.size w1).alloc (Nat.le_refl _) (.cells #[.int .u8 1] 5)); have HA2 := Lib.hid (HA1.out.alloc (by simp) (.cells #[.slice (some ⟨w1.heap.size, 0, none⟩) 1 1, .slice (some ⟨g1, 0, none⟩) 472 c1] 22)); have HO := Lib.hid ((pa_one w1).on ((Below.refl _ _).alloc (Nat.le_refl _) (.cells #[.slice (some ⟨w1.heap.size, 0, none⟩) 1 1, .slice (some ⟨g1, 0, none⟩) 472 c1] 22))); have HCC := Lib.hid (concat8_any (w1.heap.size + 1) (some ⟨w1.heap.size, 0, none⟩) 1 1 (iL [1]) (some ⟨g1, 0, none⟩) 472 c1 (iL (gL (pkgL (iL K) (iL B)))) ((w1.alloc (.cells #[.int .u8 1] 5)).alloc (.cells #[.slice (some ⟨w1.heap.size, 0, none⟩) 1 1, .slice (some ⟨g1, 0, none⟩) 472 c1] 22)) (by simp) (by simp) (by simp) HO.out (HP1.out.on HA2.out) (by omega) (by omega)); clear ho hb hb0))
    | (go_at_call 53; go_loud ((with_reducible refine HCC.out.mono ?_); rintro e w3 ⟨v3, rfl, ho, hb⟩; obtain ⟨a3, c3, rfl, _⟩ := own_form ho; have HO3 := Lib.hid ho; have HB3 := Lib.hid (bt (bt HB1.out HA2.out) hb); clear ho hb)))
  go_ret2
  have ho := HO3.out
  rw [show iL [1] ++ iL (gL (pkgL (iL K) (iL B))) = iL (parG K B) from rfl] at ho
  exact ⟨a3, c3, rfl, own_paV ho, HB3.out⟩
theorem open_no (bf : Nat) (a : Option Addr) (c : Nat) (P : List GF) (w : World) (hP : Pa w a 473 c P) (hz : zeroG P = true) :
    Calls Tryz.prog 43 #[.pointer (some ⟨bf, 0, none⟩), .slice a 473 c] w fun e w' => ∃ a' c', e = .returned (.tuple #[.slice a' 440 c', .int .i64 0]) ∧ Pa w' a' 440 c' (noR 440) ∧ Below w.heap.size w w' := by
  have HZ := Lib.hid (zero_anyG a 473 c P w hP)
  rw [hz] at HZ
  have hbd := hP.bd
  have hmk := run_make_row' (P := Tryz.prog) 22 5 (.int .u8 0) 1 Tryz.underlying22 info5 rfl .i64 .i64 440 (by omega) (by omega)
  rw [show ((440 : Nat) : Int) = 2 * 220 from rfl] at hmk
  simp only [Int.reduceMul] at hmk
  have HO := Lib.hid (own_made (w := w) (e := 5) (n := 440) (by unfold maxLen; omega))
  have HB := Lib.hid (bxS w (madeCells #[.int .u8 0] 440) 5)
  clear hP hz
  go_enter Tryz.func43, Tryz.ntmps43
  go_wp2_with (go_at_call 72; go_loud ((with_reducible refine HZ.out.mono ?_); rintro e w1 ⟨rfl, rfl⟩))
  go_ret2
  have ho := HO.out
  rw [show List.replicate 440 (0 : Int) = iL (noR 440) by unfold noR iL; rw [List.map_replicate]; rfl] at ho
  exact ⟨_, _, rfl, own_paV ho, HB.out⟩
theorem open_yes (bf : Nat) (a : Option Addr) (c : Nat) (K B : List GF) (w : World) (hG : Gl w) (hf : Fld w bf) (hK : K.length = 32) (hB : B.length = 440) (hP : Pa w a 473 c (parG K B)) :
    Calls Tryz.prog 43 #[.pointer (some ⟨bf, 0, none⟩), .slice a 473 c] w fun e w' => ∃ a' c', e = .returned (.tuple #[.slice a' 440 c', .int .i64 0]) ∧ Pa w' a' 440 c' B ∧ Below w.heap.size w w' := by
  have HZ := Lib.hid (zero_anyG a 473 c (parG K B) w hP)
  rw [zeroG_false (k := 0) (by rw [parG_len hK hB]; omega) (by show co (1 :: _) 0 ≠ 0; rw [co_cons_zero]; exact GF.one_ne)] at HZ
  have hbd := hP.bd
  obtain ⟨b, off, rfl, hb, hc⟩ := hP.at_ (k := 0) (by omega)
  rw [Nat.add_zero, show toI (co (parG K B) 0) = 1 by unfold parG; rw [co_cons_zero]; rfl] at hc
  have hD := hP.drop 1
  rw [show (parG K B).drop 1 = gL (pkgL (iL K) (iL B)) from rfl] at hD
  have hD2 : Arg8c w (some ⟨b, off + 1, none⟩) 472 (c - 1) (pkgL (iL K) (iL B)) := by
    have h := hD
    unfold Pa at h
    rw [iL_gL (pkgL_B (allB_iL _) (allB_iL _))] at h
    exact h
  have HN : Hid (Calls Tryz.prog 73 #[.pointer (some ⟨bf, 0, none⟩), .slice (some ⟨b, off + 1, none⟩) 472 (c - 1)] w fun e w' => ∃ a' c', e = .returned (.tuple #[.slice a' 440 c', .int .i64 0]) ∧ Arg8 w' a' 440 c' (opnL (pkgL (iL K) (iL B))) ∧ Below w.heap.size w w') :=
    Lib.hid (openOk bf (some ⟨b, off + 1, none⟩) 472 (c - 1) (pkgL (iL K) (iL B)) w hG hf hD2 (by omega) (by omega))
  rw [opnL_pkg (by rw [length_iL, hK]) (allB_iL _) (allB_iL _)] at HN
  have q : ¬ c = 1 := by omega
  clear hG hf hK hB hP hD hD2
  go_enter Tryz.func43, Tryz.ntmps43
  go_wp2_with (first
    | (go_at_call 72; go_loud ((with_reducible refine HZ.out.mono ?_); rintro e w1 ⟨rfl, rfl⟩))
    | (go_at_call 73; go_loud ((with_reducible refine HN.out.mono ?_); rintro e w2 ⟨a2, c2, rfl, ha, hb2⟩; have HA2 := Lib.hid ha; have HB2 := Lib.hid hb2; clear ha hb2)))
  go_ret2
  obtain ⟨b2, o2, rfl⟩ := arg_some HA2.out (by omega)
  exact ⟨_, _, rfl, ⟨HA2.out, fun e => by cases e⟩, HB2.out⟩
theorem pieces_any (b : Nat) (m : Int) (t n c : Nat) (a : Option Addr) (cP : Nat) (P : List GF) (w : World) (h : Sh m t n c) (hf : Fld w b) (hP : Pa w a 473 cP P) :
    Calls Tryz.prog 29 #[.agg #[.int .i64 m, .int .i64 t, .int .i64 n, .int .i64 c], .pointer (some ⟨b, 0, none⟩), .slice a 473 cP] w fun e w' => ∃ a' c', e = .returned (.tuple #[.slice a' n c', .int .i64 0]) ∧ OwnM w' w.heap.size a' n c' (stR (cutQ P t) n) ∧ Below w.heap.size w w' := by
  have HA := Lib.hid (bxS w #[.int .i64 m, .int .i64 t, .int .i64 n, .int .i64 c] 25)
  have HX := Lib.hid (Bx.new w m t n c)
  have HT := Lib.hid h.2
  have HF := Lib.hid hf
  have hbd := hP.bd
  have HC := Lib.hid (cutC 473 t a cP P (w.alloc (.cells #[.int .i64 m, .int .i64 t, .int .i64 n, .int .i64 c] 25)) (hP.on HA.out) h.2.1 (by have := h.2; omega) (by omega))
  clear h hf hP
  go_enter Tryz.func29, Tryz.ntmps29
  go_wp2_with (first
    | (go_at_call 54; go_loud (refine HC.out.mono ?_; rintro e w1 ⟨a1, c1, rfl, hm, hb⟩; have HB1 := Lib.hid (bt HA.out hb); have HX1 := Lib.hid (HX.out.on hb); have x2 := HX1.out.c2; have HE := Lib.hid (encodeO b t n (ceil 473 t) a1 c1 (cutM P t (ceil 473 t)) w1 (HF.out.below HB1.out) hm.mat HT.out.1 HT.out.2.1 HT.out.2.2.1 (fun k hk => qcut_row hk) (by have := (ceil473 HT.out.1).2.1; omega)); clear hm hb))
    | (go_at_call 55; go_loud (refine HE.out.mono ?_; rintro e w2 ⟨a2, c2, rfl, hm, hb⟩; rw [encM_st] at hm; have HM2 := Lib.hid (hm.low (B' := w.heap.size) HB1.out.size); have HB2 := Lib.hid (bt HB1.out hb); clear hm hb)))
  go_ret2
  exact ⟨a2, c2, rfl, HM2.out, HB2.out⟩

/-! ## Spread -/
theorem spr_1 (b t n c : Nat) (aB : Option Addr) (cB : Nat) (B : List GF) (aR : Option Addr) (cR : Nat) (R : List GF) (w : World) (h : Sh 1 t n c) (hG : Gl w) (hf : Fld w b) (hB : Pa w aB 440 cB B) (hR : Pa w aR 32 cR R) :
    Calls Tryz.prog 10 #[.agg #[.int .i64 1, .int .i64 t, .int .i64 n, .int .i64 c], .pointer (some ⟨b, 0, none⟩), .slice aB 440 cB, .slice aR 32 cR] w fun e w' => ∃ a' c', e = .returned (.tuple #[.slice a' n c', .int .i64 0]) ∧ OwnM w' w.heap.size a' n c' (stR (qM 1 t B R) n) ∧ Below w.heap.size w w' := by
  have HA := Lib.hid (bxS w #[.int .i64 1, .int .i64 t, .int .i64 n, .int .i64 c] 25)
  have HX := Lib.hid (Bx.new w 1 t n c)
  have hrd := hR.bd
  have hbd := hB.bd
  have HC := Lib.hid (schk_yes b 1 t n c aR 32 cR (w.alloc (.cells #[.int .i64 1, .int .i64 t, .int .i64 n, .int .i64 c] 25)) h hrd)
  rw [if_pos (show 32 = needV 1 t from rfl)] at HC
  have HF := Lib.hid hf
  have HG := Lib.hid hG
  have HP := Lib.hid hB
  have HR := Lib.hid hR
  have HS := Lib.hid h
  clear h hG hf hB hR
  go_enter Tryz.func10, Tryz.ntmps10
  go_wp2_with (first
    | (go_at_call 24; go_loud (refine HC.out.mono ?_; rintro e w1 ⟨rfl, hb⟩; have HB1 := Lib.hid (bt HA.out hb); have HX1 := Lib.hid (HX.out.on hb); have x0 := HX1.out.c0; have HSE := Lib.hid (sealed_any b aR cR R aB cB B w1 (HG.out.on HB1.out HG.out.1) (HF.out.below HB1.out) (HR.out.on HB1.out) (HP.out.on HB1.out)); clear hb))
    | (go_at_call 28; go_loud (refine HSE.out.mono ?_; rintro e w2 ⟨a2, c2, rfl, hp, hb⟩; have HB2 := Lib.hid (bt HB1.out hb); have HX2 := Lib.hid (HX1.out.on hb); have y0 := HX2.out.c0; have y1 := HX2.out.c1; have y2 := HX2.out.c2; have y3 := HX2.out.c3; have HPI := Lib.hid (pieces_any b 1 t n c a2 c2 (parG R B) w2 HS.out (HF.out.below HB2.out) hp); clear hp hb))
    | (go_at_call 29; go_loud (refine HPI.out.mono ?_; rintro e w3 ⟨a3, c3, rfl, hm, hb⟩; have HM3 := Lib.hid (hm.low (B' := w.heap.size) HB2.out.size); have HB3 := Lib.hid (bt HB2.out hb); clear hm hb)))
  go_ret2
  exact ⟨a3, c3, rfl, HM3.out, HB3.out⟩
theorem spr_0 (b t n c : Nat) (aB : Option Addr) (cB : Nat) (B : List GF) (aR : Option Addr) (L cR : Nat) (R : List GF) (w : World) (h : Sh 0 t n c) (hf : Fld w b) (hB : Pa w aB 440 cB B) (hR : Pa w aR L cR R) (hL : L = (t - 1) * 440) :
    Calls Tryz.prog 10 #[.agg #[.int .i64 0, .int .i64 t, .int .i64 n, .int .i64 c], .pointer (some ⟨b, 0, none⟩), .slice aB 440 cB, .slice aR L cR] w fun e w' => ∃ a' c', e = .returned (.tuple #[.slice a' n c', .int .i64 0]) ∧ OwnM w' w.heap.size a' n c' (stR (qM 0 t B R) n) ∧ Below w.heap.size w w' := by
  have HA := Lib.hid (bxS w #[.int .i64 0, .int .i64 t, .int .i64 n, .int .i64 c] 25)
  have HX := Lib.hid (Bx.new w 0 t n c)
  have hrd := hR.bd
  have hbd := hB.bd
  have HC := Lib.hid (schk_yes b 0 t n c aR L cR (w.alloc (.cells #[.int .i64 0, .int .i64 t, .int .i64 n, .int .i64 c] 25)) h hrd)
  rw [if_pos (show L = needV 0 t from hL)] at HC
  have HF := Lib.hid hf
  have HP := Lib.hid hB
  have HR := Lib.hid hR
  have HS := Lib.hid h
  have HL := Lib.hid hL
  clear h hf hB hR hL
  go_enter Tryz.func10, Tryz.ntmps10
  go_upto_region 7 with (go_at_call 24; go_loud (refine HC.out.mono ?_; rintro e w1 ⟨rfl, hb⟩; have HB1 := Lib.hid (bt HA.out hb); have HX1 := Lib.hid (HX.out.on hb); have x0 := HX1.out.c0; clear hb))
  have y0 : ∀ W, Below w1.heap.size w1 W → W.cell? ⟨w.heap.size, 0, none⟩ = some (.int .i64 0) := fun W hW => (HX1.out.on hW).c0
  have y1 : ∀ W, Below w1.heap.size w1 W → W.cell? ⟨w.heap.size, 1, none⟩ = some (.int .i64 (t : Nat)) := fun W hW => (HX1.out.on hW).c1
  have y2 : ∀ W, Below w1.heap.size w1 W → W.cell? ⟨w.heap.size, 2, none⟩ = some (.int .i64 (n : Nat)) := fun W hW => (HX1.out.on hW).c2
  have y3 : ∀ W, Below w1.heap.size w1 W → W.cell? ⟨w.heap.size, 3, none⟩ = some (.int .i64 (c : Nat)) := fun W hW => (HX1.out.on hW).c3
  have HPL := Lib.hid (show ∀ W : World, Below w1.heap.size w1 W → Calls Tryz.prog 27 #[.agg #[.int .i64 0, .int .i64 t, .int .i64 n, .int .i64 c]] W fun e w' => ∃ g, e = .returned (.slice (some ⟨g, 0, none⟩) n n) ∧ IA w' (some ⟨g, 0, none⟩) n n (zl (upN n)) ∧ Below w1.heap.size w1 w' from fun W hW => (places_any 0 t c n W (by have := HS.out.2; omega)).mono fun e w' ⟨g, h1, h2, h3, h4⟩ => ⟨g, h1, h3, bt hW h4⟩)
  go_region_held (fun W => Below w1.heap.size w1 W) (first | assumption | exact (Below.refl _ _).drew | (refine Below.drew ?_; assumption))
    (first
      | (go_at_call 27; go_loud (refine (HPL.out _ (by first | assumption | exact (Below.refl _ _).drew)).mono ?_; rintro e w2 ⟨g2, rfl, hia, hbw2⟩; have HNU := Lib.hid (snumbers_any (some ⟨g2, 0, none⟩) n n (zl (upN n)) w2 hia (by have := HS.out.2; omega) (fun k hk => (by have := HS.out.2; have hz := up_getD (n := n) hk; omega))); rw [gZ_up] at HNU; clear hia))
      | (go_at_call 26; go_loud (refine HNU.out.mono ?_; rintro e w3 ⟨g3, rfl, hp3, hb3⟩; have hbw3 := bt hbw2 hb3; have HB3 := Lib.hid (bt HB1.out hbw3); have HSP := Lib.hid (splitO b t 440 L n aB cB B aR cR R (some ⟨g3, 0, none⟩) n (plc n) w3 (HF.out.below HB3.out) (HP.out.on HB3.out) (HR.out.on HB3.out) hp3 HS.out.2.1 (by have := HS.out.2; omega) HL.out (fun k hk => plc_ne (by have := HS.out.2; omega) hk) (by omega) (by have := HS.out.2; omega)); clear hp3 hb3))
      | (go_at_call 25; go_loud (refine HSP.out.mono ?_; rintro e w4 ⟨a4, c4, rfl, hm, hb4⟩; rw [shM_st] at hm; have HM4 := Lib.hid (hm.low (B' := w.heap.size) HB3.out.size); have hbw4 := bt hbw3 hb4; have HB4 := Lib.hid (bt HB1.out hbw4); clear hm hb4)))
  all_goals
    go_wp2
    go_ret2
    exact ⟨a4, c4, rfl, HM4.out, HB4.out⟩
theorem spr_any (b : Nat) (m : Int) (t n c : Nat) (aB : Option Addr) (cB : Nat) (B : List GF) (aR : Option Addr) (L cR : Nat) (R : List GF) (w : World) (h : Sh m t n c) (hG : Gl w) (hf : Fld w b) (hB : Pa w aB 440 cB B) (hR : Pa w aR L cR R) (hL : L = needV m t) :
    Calls Tryz.prog 10 #[.agg #[.int .i64 m, .int .i64 t, .int .i64 n, .int .i64 c], .pointer (some ⟨b, 0, none⟩), .slice aB 440 cB, .slice aR L cR] w fun e w' => ∃ a' c', e = .returned (.tuple #[.slice a' n c', .int .i64 0]) ∧ OwnM w' w.heap.size a' n c' (stR (qM m t B R) n) ∧ Below w.heap.size w w' := by
  rcases h.1 with rfl | rfl
  · exact spr_0 b t n c aB cB B aR L cR R w h hf hB hR hL
  · obtain rfl : L = 32 := hL
    exact spr_1 b t n c aB cB B aR cR R w h hG hf hB hR
end Go.Proofs.YtappfdbmhgifcaaGreatDoor
/- Contract of mend's through: the polynomials through all places and rows, by whole rows. -/
namespace Go.Proofs.YtappfdbmhgifcaaGreatDoor
open Go.ChangeShapes Go.WideShapes Go.ChangeAt Go.RowKit Go.Shelf GF
set_option linter.unusedVariables false
set_option linter.unusedSimpArgs false
set_option maxRecDepth 100000

/-! ## rows behind a block of their own -/
/-- A block of numbers. -/
def TyB (w : World) (b : Nat) : Prop := ∃ cur fz, w.heap[b]? = some (.cells cur 5 fz)
/-- Rows of one width: their slices in a block from B on, the rows in blocks of numbers from B on. -/
def RB (w : World) (B g n s : Nat) (M : List (List GF)) : Prop :=
  B ≤ g ∧ M.length = n ∧ ∃ (A : Nat → Option Addr) (C : Nat → Nat), Blk w g 22 n (fun k => .slice (A k) s (C k)) ∧
    ∀ k, k < n → (rw_ M k).length = s ∧ Pa w (A k) s (C k) (rw_ M k) ∧ ∀ b off, A k = some ⟨b, off, none⟩ → B ≤ b ∧ b < w.heap.size ∧ TyB w b
theorem RB.on {w w' : World} {B g n s : Nat} {M : List (List GF)} (h : RB w B g n s M) (hb : Below w.heap.size w w') : RB w' B g n s M := by
  obtain ⟨h1, h2, A, C, h3, h4⟩ := h
  refine ⟨h1, h2, A, C, h3.on hb h3.lt, fun k hk => ?_⟩
  obtain ⟨k1, k2, k3⟩ := h4 k hk
  refine ⟨k1, k2.on hb, fun b off e => ?_⟩
  obtain ⟨m1, m2, cur, fz, m3⟩ := k3 b off e
  exact ⟨m1, by have := hb.size; omega, cur, fz, by rw [hb.block b m2]; exact m3⟩
theorem RB.low {w : World} {B B' g n s : Nat} {M : List (List GF)} (h : RB w B g n s M) (hB : B' ≤ B) : RB w B' g n s M := by
  obtain ⟨h1, h2, A, C, h3, h4⟩ := h
  refine ⟨by omega, h2, A, C, h3, fun k hk => ?_⟩
  obtain ⟨k1, k2, k3⟩ := h4 k hk
  exact ⟨k1, k2, fun b off e => ⟨by have := (k3 b off e).1; omega, (k3 b off e).2⟩⟩
theorem rw_set {M : List (List GF)} {k i : Nat} {P : List GF} (h : k < M.length) : rw_ (M.set k P) i = if i = k then P else rw_ M i := by
  unfold rw_
  simp only [List.getD_eq_getElem?_getD, List.getElem?_set]
  by_cases e : k = i
  · subst e; simp [h]
  · simp [e, Ne.symm e]
theorem ty_of_own {w : World} {base n c : Nat} {e : TypeId} {g : Nat} {xs : List Value} (h : w.ownsRow base e 1 (.slice (some ⟨g, 0, none⟩) n c) n xs) : base ≤ g ∧ g < w.heap.size ∧ ∃ cur fz, w.heap[g]? = some (.cells cur e fz) := by
  rcases h.2 with ⟨e, _⟩ | ⟨g', c', cur, e, hg, hh, _⟩
  · cases e
  · cases e; exact ⟨hg, (Array.getElem?_eq_some_iff.1 hh).1, _, _, hh⟩
/-- One of the rows is put anew: a row of one's own. -/
theorem RB.set {w w' : World} {B g n s k g' : Nat} {M : List (List GF)} {P : List GF} (h : RB w B g n s M) (hB : B ≤ w.heap.size) (hb : Below w.heap.size w w') (hk : k < n) (hl : P.length = s) (ho : w'.ownsRow w.heap.size 5 1 (.slice (some ⟨g', 0, none⟩) s s) s ((iL P).map (Value.int .u8))) :
    RB (w'.setCell ⟨g, k, none⟩ (.slice (some ⟨g', 0, none⟩) s s)) B g n s (M.set k P) := by
  have h' := h.on hb
  obtain ⟨h1, h2, A, C, h3, h4⟩ := h'
  obtain ⟨t1, t2, t3⟩ := ty_of_own ho
  have hne : ∀ b, TyB w' b → b ≠ g := fun b ⟨cur, fz, e⟩ e2 => by
    rw [e2, h3] at e
    injection e with e
    injection e with _ e
    exact absurd e (by decide)
  have hty : ∀ b, TyB w' b → TyB (w'.setCell ⟨g, k, none⟩ (.slice (some ⟨g', 0, none⟩) s s)) b := fun b ⟨cur, fz, e⟩ => ⟨cur, fz, by rw [Below.heap_setCell _ _ _ _ (hne b ⟨cur, fz, e⟩)]; exact e⟩
  refine ⟨h1, by rw [List.length_set]; exact h2, fun i => if i = k then some ⟨g', 0, none⟩ else A i, fun i => if i = k then s else C i, (h3.set hk _).congr fun j hj => ?_, fun i hi => ?_⟩
  · by_cases e : j = k
    · simp only [if_pos e]
    · simp only [if_neg e]
  · rw [rw_set (M := M) (by omega)]
    by_cases e : i = k
    · simp only [if_pos e]
      refine ⟨hl, (own_paV ho).but (gb_set _ _ _ _) (fun b off e2 => by cases e2; exact hne g' t3), fun b off e2 => ?_⟩
      cases e2
      exact ⟨by omega, by simp; exact t2, hty g' t3⟩
    · simp only [if_neg e]
      obtain ⟨k1, k2, k3⟩ := h4 i hi
      refine ⟨k1, k2.but (gb_set _ _ _ _) (fun b off e2 => hne b (k3 b off e2).2.2), fun b off e2 => ?_⟩
      obtain ⟨m1, m2, m3⟩ := k3 b off e2
      exact ⟨m1, by simp; exact m2, hty b m3⟩
theorem RB.mat {w : World} {B g n s : Nat} {M : List (List GF)} (h : RB w B g n s M) (hn : n ≤ 1000000) : Mat w (some ⟨g, 0, none⟩) n n M := by
  obtain ⟨h1, h2, A, C, h3, h4⟩ := h
  refine ⟨h2, Nat.le_refl _, by unfold maxLen; omega, (fun e => by cases e), (List.range n).map (fun k => .slice (A k) s (C k)), ⟨by simp [h2], fun i hi => ?_⟩, fun h0 => ⟨g, 0, rfl, h3.lt, fun i hi => ?_⟩⟩
  · rw [h2] at hi
    obtain ⟨k1, k2, _⟩ := h4 i hi
    refine ⟨A i, C i, by rw [k1]; simp [hi], by rw [k1]; exact k2.1.2.2.2.1, k2.1.2.2.2.2, k2.2, fun h0 => ?_⟩
    obtain ⟨b, off, e, hb, hc⟩ := k2.1.2.2.1 (by rw [length_iL]; exact h0)
    exact ⟨b, off, e, hb, trivial, fun j hj => by have := hc j (by rw [length_iL]; exact hj); rwa [getD_iL] at this⟩
  · rw [Nat.zero_add, h3.cell hi]; simp [hi]
/-- The rows that a function tells. -/
def rowsF (n s : Nat) (F : Nat → Nat → GF) : List (List GF) := (List.range n).map fun k => (List.range s).map (F k)
theorem rowsF_row {n s k : Nat} (F : Nat → Nat → GF) (h : k < n) : rw_ (rowsF n s F) k = (List.range s).map (F k) := by
  unfold rw_ rowsF; simp [List.getD_eq_getElem?_getD, h]
theorem rowsF_co {n s k j : Nat} (F : Nat → Nat → GF) (h : k < n) (hj : j < s) : co (rw_ (rowsF n s F) k) j = F k j := by
  rw [rowsF_row F h]; unfold co; simp [List.getD_eq_getElem?_getD, hj]
theorem BlkM.rb {w : World} {g n s : Nat} {F : Nat → Nat → GF} (h : BlkM w g n s F) (hs : s ≤ 1000000) : RB w g g n s (rowsF n s F) := by
  refine ⟨Nat.le_refl _, by simp [rowsF], fun k => some ⟨g + 1 + k, 0, none⟩, fun _ => s, h.1, fun k hk => ?_⟩
  have hb := h.2 k hk
  rw [rowsF_row F hk]
  refine ⟨by simp, Blk.pa (hb.congr fun j hj => ?_) (by simp) hs, fun b off e => ?_⟩
  · unfold gB co; simp [List.getD_eq_getElem?_getD, hj]
  · cases e; exact ⟨by omega, hb.lt, _, _, hb⟩

/-! ## the maths -/
/-- The first k rows, and U's numbers times the row r. -/
def thS (M : List (List GF)) (U r : List GF) : Nat → List (List GF)
  | 0 => M
  | k + 1 => (thS M U r k).set k (sumG (rw_ (thS M U r k) k) (co U k) r)
theorem thS_len (M : List (List GF)) (U r : List GF) : ∀ k, (thS M U r k).length = M.length
  | 0 => rfl
  | k + 1 => by rw [thS, List.length_set, thS_len M U r k]
theorem thS_row {M : List (List GF)} (U r : List GF) : ∀ k, k ≤ M.length → ∀ i, rw_ (thS M U r k) i = if i < k then sumG (rw_ M i) (co U i) r else rw_ M i
  | 0, _, i => by rw [if_neg (by omega)]; rfl
  | k + 1, hk, i => by
    have ih := thS_row (M := M) U r k (by omega)
    have e0 := ih k
    rw [if_neg (Nat.lt_irrefl k)] at e0
    rw [thS, rw_set (M := thS M U r k) (by rw [thS_len]; omega), e0]
    by_cases e : i = k
    · rw [if_pos e, if_pos (by omega), e]
    · rw [if_neg e, ih i]
      by_cases e2 : i < k
      · rw [if_pos e2, if_pos (by omega)]
      · rw [if_neg e2, if_neg (by omega)]
theorem thS_ev {M : List (List GF)} {U r : List GF} {L n j : Nat} (hM : M.length = L) (hw : ∀ k, k < L → (rw_ M k).length = n) (hU : U.length = L) (hj : j < n) (x : GF) :
    ev (colG (thS M U r L) L j) x = ev (colG M L j) x + co r j * ev U x := by
  rw [← ev_smulL, ← ev_addL]
  refine ev_congr (fun k => ?_) x
  rw [co_addL, co_smulL]
  by_cases hk : k < L
  · rw [colG_co _ hk, colG_co _ hk, thS_row U r L (by omega), if_pos hk, sumG_co _ _ (by rw [hw k hk]; exact hj), GF.mul_comm (co U k)]
  · rw [co_ge (by rw [colG_len]; omega), co_ge (by rw [colG_len]; omega), co_ge (l := U) (by omega), GF.mul_zero, GF.add_zero]
/-- What the rows are behind the first i places. -/
def ThrI (X : List GF) (R M : List (List GF)) (L n i : Nat) : Prop := M.length = L ∧ (∀ k, k < L → (rw_ M k).length = n) ∧ ∀ j, j < n → ∀ p, p < L → ev (colG M L j) (co X p) = if p < i then co (rw_ R p) j else 0
theorem thr_zero (X : List GF) (R : List (List GF)) (L n : Nat) : ThrI X R (rowsF L n fun _ _ => 0) L n 0 := by
  refine ⟨by simp [rowsF], fun k hk => by rw [rowsF_row _ hk]; simp, fun j hj p hp => ?_⟩
  rw [if_neg (by omega)]
  have e : ev (colG (rowsF L n fun _ _ => 0) L j) (co X p) = ev [] (co X p) := ev_congr (fun k => by
    by_cases hk : k < L
    · rw [colG_co _ hk, rowsF_co _ hk hj]; rfl
    · rw [co_ge (by rw [colG_len]; omega)]; rfl) _
  rw [e]; rfl
theorem thr_next {X : List GF} {R M : List (List GF)} {L n i : Nat} {U : List GF} (h : ThrI X R M L n i) (hX : X.length = L) (hU : UnitP X i U) : ThrI X R (thS M U (rw_ R i) L) L n (i + 1) := by
  obtain ⟨h1, h2, h3⟩ := h
  refine ⟨by rw [thS_len]; exact h1, fun k hk => by rw [thS_row _ _ L (by omega), if_pos hk, sumG_len]; exact h2 k hk, fun j hj p hp => ?_⟩
  rw [thS_ev h1 h2 (hU.1.trans hX) hj, h3 j hj p hp, hU.2 p (by omega)]
  by_cases e : p = i
  · rw [if_neg (by omega), if_pos e, if_pos (by omega), GF.mul_one, GF.zero_add, e]
  · rw [if_neg e, GF.mul_zero, GF.add_zero]
    by_cases e2 : p < i
    · rw [if_pos e2, if_pos (by omega)]
    · rw [if_neg e2, if_neg (by omega)]

/-! ## through -/
set_option maxHeartbeats 4000000 in
theorem thr_any (b L n : Nat) (aV : Option Addr) (cV : Nat) (X : List GF) (aX : Option Addr) (cX : Nat) (aR : Option Addr) (cR : Nat) (R : List (List GF)) (w : World) (hf : Fld w b) (hV : Pa w aV (L + 1) cV (vanA X L)) (hX : Pa w aX L cX X) (hR : Mat w aR L cR R) (hA : Apart X) (hL1 : 1 ≤ L) (hL : L ≤ 255) (hw : ∀ k, k < L → (rw_ R k).length = n) (hn : n ≤ 1000) :
    Calls Tryz.prog 115 #[.pointer (some ⟨b, 0, none⟩), .slice aV (L + 1 : Nat) cV, .slice aX L cX, .slice aR L cR] w fun e w' => ∃ g M, e = .returned (.slice (some ⟨g, 0, none⟩) L L) ∧ RB w' w.heap.size g L n M ∧ Hid (ThrI X R M L n L) ∧ Below w.heap.size w w' := by
  have HBL := Lib.hid (blank_any L n w (by omega) hn)
  obtain ⟨bR, oR, a0, c0, hbe, hbR, hc0, hp0⟩ := hR.row (i := 0) (by omega)
  rw [hw 0 (by omega)] at hc0 hp0
  subst hbe
  have HV := Lib.hid hV; have HX := Lib.hid hX; have HR := Lib.hid hR; have HF := Lib.hid hf
  have HC := Lib.hid (And.intro hA (And.intro hX.len (And.intro hL hn)))
  have HW := Lib.hid hw
  have hbx := hX.bd; have hbr := hR.bd; have hbv := hV.bd; have hb0 := hp0.bd
  have qL : (0 : Int) < (L : Int) := by omega
  rw [Nat.add_zero] at hc0
  clear hf hV hX hR hA hL1 hL hw hn hp0
  go_enter Tryz.func115, Tryz.ntmps115
  go_wp2_with (go_at_call 116; go_loud (refine HBL.out.mono ?_; rintro e w1 ⟨rfl, hm, hb⟩; have HM1 := Lib.hid (hm.rb (by have := HC.out.2.2.2; omega)); have HB1 := Lib.hid hb; clear hm hb))
  obtain ⟨g, hg⟩ : ∃ g, g = w.heap.size := ⟨_, rfl⟩
  rw [← hg] at HM1
  have HG := Lib.hid hg
  rw [← hg]
  clear hg
  go_loopw [23] (fun j wr => ∃ (i : Nat) (M : List (List GF)), i ≤ L ∧ j = .int .i64 (i : Nat) ∧ Hid (RB wr g g L n M) ∧ Hid (ThrI X R M L n i) ∧ Hid (Below w.heap.size w wr))
    (fun j _ => L - (intOf j).toNat)
  case atStart => exact ⟨0, _, Nat.zero_le _, rfl, HM1, Lib.hid (thr_zero _ _ _ _), HB1⟩
  case round =>
    obtain ⟨i, M, hi, rfl, hM, hT, hB⟩ := hrel
    rename World => w2
    by_cases hlt : i < L
    · obtain ⟨bx, ox, rfl, hbx', hcx⟩ := (HX.out.on hB.out).at_ hlt
      have qi : (i : Int) < (L : Int) := by omega
      have qi0 : (0 : Int) ≤ (i : Int) := by omega
      have HU := Lib.hid (unit_any b L i aV cV X w2 (HF.out.below hB.out) (HV.out.on hB.out) HC.out.1 HC.out.2.1 hlt HC.out.2.2.1)
      have HLT := Lib.hid hlt
      clear hlt
      go_wp2_with (go_at_call 136; go_loud (refine HU.out.mono ?_; rintro e w3 ⟨gU, U, rfl, ho, hup, hb⟩; have HM3 := Lib.hid (hM.out.on hb); have HB3 := Lib.hid (bt hB.out hb); have HPU := Lib.hid (own_paV ho); have HNE := Lib.hid (show gU ≠ g from (by obtain ⟨_, _, _, _, hbk9, _⟩ := hM.out; have h1 := hbk9.lt; have h2 := (ho.lt gU rfl).1; omega)); clear ho hb))
      go_loopw [33] (fun j wr => ∃ (k : Nat), k ≤ L ∧ j = .int .i64 (k : Nat) ∧ Hid (RB wr g g L n (thS M U (rw_ R i) k)) ∧ Hid (Below w.heap.size w wr) ∧ Hid (Pa wr (some ⟨gU, 0, none⟩) L L U))
        (fun j _ => L - (intOf j).toNat)
      case atStart => exact ⟨0, Nat.zero_le _, rfl, HM3, HB3, HPU⟩
      case round =>
        obtain ⟨k, hk, rfl, hM4, hB4, hPU4⟩ := hrel
        rename World => w4
        by_cases hlk : k < L
        · obtain ⟨bU, oU, eU, hbU, hcU⟩ := hPU4.out.at_ hlk
          cases eU
          rw [Nat.zero_add] at hcU
          obtain ⟨_, _, A, C, hbk, hrows⟩ := hM4.out
          obtain ⟨k1, k2, k3⟩ := hrows k hlk
          have hcg := hbk.cell hlk
          have hfz := hbk.free k
          obtain ⟨b9, o9, a9, c9, e9, hb9, hc9, hp9⟩ := (HR.out.on hB4.out).row (i := i) HLT.out
          cases e9
          rw [HW.out i HLT.out] at hc9 hp9
          have HSU := Lib.hid (fsum_any b (toI (co U k)) _ _ _ (iL (rw_ (thS M U (rw_ R i) k) k)) _ _ _ (iL (rw_ R i)) w4.drew (HF.out.below (show Below w.heap.size w w4.drew from hB4.out.drew)) (toI_bd _) k2.1 hp9.1 (by have := HC.out.2.2.2; omega))
          rw [sumL_G] at HSU
          have hd2 := k2.bd; have hd9 := hp9.bd
          have qk : (k : Int) < (L : Int) := by omega
          have qk0 : (0 : Int) ≤ (k : Int) := by omega
          have HLK := Lib.hid hlk
          have HK1 := Lib.hid k1
          have hgw := hbk.lt
          clear k2 k3 hrows hp9 hlk k1
          go_wp2_with fail
          go_region_with (go_at_call 81; refine HSU.out.mono ?_; rintro e w5 ⟨g5, rfl, ho5, hb5⟩; have HO5 := Lib.hid ho5; have HB5 := Lib.hid hb5; have hc5 := cell_of_heap hcg (hb5.block g hgw); have hf5 := (hb5.frozen (p := ⟨g, k, none⟩) hgw).trans hfz; clear ho5 hb5)
          all_goals
            have HM6 := Lib.hid ((show RB w4.drew g g L n (thS M U (rw_ R i) k) from hM4.out).set (w' := w5) (by have := hgw; show g ≤ w4.heap.size; omega) HB5.out HLK.out (by rw [sumG_len]; exact HK1.out) HO5.out)
            have HB6 := Lib.hid ((hB4.out.trans ((show Below w4.heap.size w4 w5 from (below_drewN (Below.refl _ _) 1).trans HB5.out).mono hB4.out.size)).setCell (p := ⟨g, k, none⟩) (by rw [HG.out]; exact Nat.le_refl _) (.slice (some ⟨g5, 0, none⟩) n n))
            have HPU6 := Lib.hid (((show Pa w4.drew (some ⟨gU, 0, none⟩) L L U from hPU4.out).on HB5.out).but (gb_set w5 g k (.slice (some ⟨g5, 0, none⟩) n n)) (fun b off e => by cases e; exact HNE.out))
            go_wp2
            go_roundw
            case rel => exact ⟨k + 1, by have := HLK.out; omega, by go_num, HM6, HB6, HPU6⟩
            case measure => simp [intOf]; have := HLK.out; omega
        · obtain rfl : k = L := by omega
          have HT2 := Lib.hid (thr_next hT.out HC.out.2.1 hup.out)
          have HM9 := Lib.hid hM4.out
          have HLT2 := Lib.hid (show i + 1 ≤ k from HLT.out)
          clear hlk
          go_wp2
          go_roundw
          case rel => exact ⟨i + 1, _, HLT2.out, by go_num, HM9, HT2, hB4⟩
          case measure => simp [intOf]; have := HLT2.out; omega
    · obtain rfl : i = L := by omega
      go_wp2
      go_ret
      exact ⟨g, M, rfl, by rw [← HG.out]; exact hM.out, hT, hB.out⟩
end Go.Proofs.YtappfdbmhgifcaaGreatDoor
