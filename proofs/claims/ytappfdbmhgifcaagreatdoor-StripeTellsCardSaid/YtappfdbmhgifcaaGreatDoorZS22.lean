/- Texts of mine, one behind the other: He Yg Hf Hw1. -/
import Derived.Test.YtappfdbmhgifcaaGreatDoorZS15
import Derived.Test.YtappfdbmhgifcaaGreatDoorZS16
import Derived.Test.YtappfdbmhgifcaaGreatDoorZS21
import Derived.Test.YtappfdbmhgifcaaGreatDoorZS19
import Derived.Deep.RegionHeld
import Derived.Test.YtappfdbmhgifcaaGreatDoorZS13
import Derived.Test.YtappfdbmhgifcaaGreatDoorZS08
import Derived.Test.YtappfdbmhgifcaaGreatDoorZS12
/- Contracts of stripe's Gather. -/
namespace Go.Proofs.YtappfdbmhgifcaaGreatDoor
open Go.ChangeShapes Go.WideShapes Go.ChangeAt Go.RowKit Go.Shelf GF
set_option linter.unusedVariables false
set_option linter.unusedSimpArgs false
set_option maxRecDepth 100000

theorem cloneI_own (a : Option Addr) (L cap : Nat) (ps : List Int) (w : World) (hx : IA w a L cap ps) (hL : L ≤ 1000) (hz : ∀ z, z ∈ ps → 0 ≤ z ∧ z < 256) :
    Calls Tryz.prog 45 #[.slice a L cap] w fun e w' => ∃ a' c', e = .returned (.slice a' L c') ∧ w'.ownsRow w.heap.size 3 1 (.slice a' L c') L (ps.map (Value.int .i64)) ∧ Below w.heap.size w w' := by
  have HX := Lib.hid hx
  have HZ := Lib.hid hz
  have hcap := hx.bd
  have HPL := Lib.hid hx.1
  clear hx hz
  rcases a with _ | ad
  · obtain rfl : cap = 0 := HX.out.2.2.2.1 rfl
    obtain rfl : L = 0 := by omega
    obtain rfl : ps = [] := List.eq_nil_of_length_eq_zero HPL.out
    have he := eqlI_nil
    go_enter Tryz.func45, Tryz.ntmps45
    go_wp2
    go_ret
    exact ⟨_, _, rfl, World.ownsRow_nil _ _ _ _, Below.refl _ _⟩
  · obtain ⟨i5, hi, hz0, hz1, hz2⟩ := info_parts infoI1
    have HI := Lib.hid (And.intro hi (And.intro hz0 (And.intro hz1 hz2)))
    clear hi hz0 hz1 hz2
    have he := fun w => eqlI_some w ad L cap
    have HE0 : Hid ((w.alloc (.cells #[] 3)).ownsRow w.heap.size 3 1 (.slice (some ⟨w.heap.size, 0, none⟩) 0 0) 0 (([] : List Int).map (Value.int .i64))) := Lib.hid (own_emptyZ w 3)
    go_enter Tryz.func45, Tryz.ntmps45
    go_wp2_with ((with_reducible show wpList _ _ _ (⟨some 7, _, _, _, _, _⟩ :: _) _ _); go_loud (refine wpList_append_ia _ rfl (.tmp 5) (.tmp 6) 39 rfl w.heap.size 3 i5 Tryz.underlying39 HI.out.1 HI.out.2.1 HI.out.2.2.1 HI.out.2.2.2 _ 0 ([] : List Int) rfl HE0.out (some ad) L cap ps rfl (HX.out.on ((Below.refl _ _).alloc (Nat.le_refl _) _)) (by omega) (by simp) ?_; intro v1 wc hown1 hg1; rw [Nat.zero_add, List.nil_append] at hown1; have hBc := ((Below.refl _ w).alloc (Nat.le_refl _) _).grown hg1 (by simp) (own_block_le _ _ _); obtain ⟨a9, c9, hv, hia⟩ := IA.own hown1 HZ.out; subst hv; have HO := Lib.hid hown1; have HB := Lib.hid hBc; clear hown1 hBc hg1 hia))
    go_ret
    exact ⟨_, _, rfl, HO.out, HB.out⟩
theorem wrong_own (p : Addr) (P : List (List GF)) (W : List Nat) (w : World) (h : MdM w p P W) (hW : W.length ≤ 255) (hx : ∀ x, x ∈ W → x < 256) :
    Calls Tryz.prog 41 #[.pointer (some p)] w fun e w' => ∃ a c, e = .returned (.slice a W.length c) ∧ w'.ownsRow w.heap.size 3 1 (.slice a W.length c) W.length ((zl W).map (Value.int .i64)) ∧ Below w.heap.size w w' := by
  obtain ⟨g, fb, aN, T, cN, N, aW, cW, rfl, hg, h1, h2, h3, hf, hN, hn, hi, hT1, hT2⟩ := h
  have HC := Lib.hid (cloneI_own aW W.length cW (zl W) w hi (by omega) (fun z hz => by
    obtain ⟨x, hx', rfl⟩ := List.mem_map.1 hz
    have := hx x hx'
    omega))
  have hbd := hi.bd
  clear hf hN hn hi hT1 hT2 hx hW
  go_enter Tryz.func41, Tryz.ntmps41
  go_wp2_with (go_at_call 45; go_loud (refine HC.out.mono ?_; rintro e w1 ⟨a1, c1, rfl, hia, hb⟩; have HI := Lib.hid hia; have HB := Lib.hid hb; clear hia hb))
  go_ret
  exact ⟨_, _, rfl, HI.out, HB.out⟩
theorem at_big (p : Addr) (P : List (List GF)) (W : List Nat) (x : GF) (w : World) (h : MdM w p P W) (hP : P.length ≤ 1000) :
    Calls Tryz.prog 42 #[.pointer (some p), .int .u8 (toI x)] w fun e w' => ∃ a c, e = .returned (.slice a P.length c) ∧ Pa w' a P.length c (evP P x) ∧ (∀ bb off, a = some ⟨bb, off, none⟩ → w.heap.size ≤ bb) ∧ Below w.heap.size w w' := by
  obtain ⟨g, fb, aN, T, cN, N, aW, cW, rfl, hg, h1, h2, h3, hf, hN, hn, hi, hT1, hT2⟩ := h
  have HV := Lib.hid (mvalue_any fb T P.length aN cN N x w.drew (show Fld w.drew fb from hf) (show Mat w.drew aN T cN N from hN) hn.1 hT1 hT2 (by omega))
  rw [num_evP hn x] at HV
  have hbd := hN.bd
  clear hf hN hn hi hT1 hT2
  go_enter Tryz.func42, Tryz.ntmps42
  go_wp2_with fail
  go_region_with (go_at_call 71; refine HV.out.mono ?_; rintro e w1 ⟨a1, c1, rfl, hp, hnew, hb⟩; have HP := Lib.hid hp; have HNW := Lib.hid hnew; have HB := Lib.hid hb; clear hp hb hnew)
  all_goals
    go_wp2
    go_ret
    exact ⟨_, _, rfl, HP.out, fun bb off e => HNW.out bb off e, (below_drewN (Below.refl _ _) 1).trans HB.out⟩

/-! ## a stripe in memory -/
def StM (w : World) (p : Addr) (m : Int) (t : Nat) (Q : List (List GF)) (ws : List Int) : Prop :=
  ∃ (g : Nat) (pm : Addr) (W : List Nat) (aW : Option Addr) (cW : Nat), p = ⟨g, 0, none⟩ ∧ g < w.heap.size ∧ w.cell? ⟨g, 0, none⟩ = some (.int .i64 m) ∧ w.cell? ⟨g, 1, none⟩ = some (.int .i64 (t : Nat)) ∧ w.cell? ⟨g, 2, none⟩ = some (.pointer (some pm)) ∧ w.cell? ⟨g, 3, none⟩ = some (.slice aW ws.length cW) ∧ MdM w pm Q W ∧ IA w aW ws.length cW ws
theorem StM.on {w w' : World} {p : Addr} {m : Int} {t : Nat} {Q : List (List GF)} {ws : List Int} (h : StM w p m t Q ws) (hb : Below w.heap.size w w') : StM w' p m t Q ws := by
  obtain ⟨g, pm, W, aW, cW, h1, h2, h3, h4, h5, h6, h7, h8⟩ := h
  exact ⟨g, pm, W, aW, cW, h1, by have := hb.size; omega, (hb.cell (p := ⟨g, 0, none⟩) h2).trans h3, (hb.cell (p := ⟨g, 1, none⟩) h2).trans h4, (hb.cell (p := ⟨g, 2, none⟩) h2).trans h5, (hb.cell (p := ⟨g, 3, none⟩) h2).trans h6, h7.on hb, h8.on hb⟩
theorem rowV_le {m : Int} {t : Nat} (ht : 1 ≤ t) : rowV m t ≤ 473 := by
  unfold rowV
  split
  · omega
  · exact (ceil473 ht).2.1
/-- The places that were there, ahead of place k; the rows' numbers from it on. -/
def wrV17 (ps : List Int) (W : List Nat) (k : Nat) : List Value := ((W.take k).map fun i => Value.int .i64 (ps.getD i 0)) ++ (W.drop k).map fun (i : Nat) => Value.int .i64 (i : Int)
theorem wrV17_zero (ps : List Int) (W : List Nat) : wrV17 ps W 0 = (zl W).map (Value.int .i64) := by
  unfold wrV17 zl; rw [List.take_zero, List.drop_zero, List.map_map]; rfl
theorem wrV17_all (ps : List Int) (W : List Nat) : wrV17 ps W W.length = (W.map fun i => ps.getD i 0).map (Value.int .i64) := by
  unfold wrV17; rw [List.take_length, List.drop_length, List.map_nil, List.append_nil, List.map_map]; rfl
theorem wrV17_at {ps : List Int} {W : List Nat} {k : Nat} (h : k < W.length) : (wrV17 ps W k)[k]? = some (.int .i64 ((W.getD k 0 : Nat) : Int)) := by
  unfold wrV17
  have hl : ((W.take k).map fun i => Value.int .i64 (ps.getD i 0)).length = k := by rw [List.length_map, List.length_take]; omega
  rw [List.getElem?_append_right (by omega), hl, Nat.sub_self]
  simp [List.getD_eq_getElem?_getD, h]
theorem wrV17_set {ps : List Int} {W : List Nat} {k : Nat} (h : k < W.length) : (wrV17 ps W k).set k (.int .i64 (ps.getD (W.getD k 0) 0)) = wrV17 ps W (k + 1) := by
  unfold wrV17
  have hl : ((W.take k).map fun i => Value.int .i64 (ps.getD i 0)).length = k := by rw [List.length_map, List.length_take]; omega
  have e : W.getD k 0 = W[k] := by simp [List.getD_eq_getElem?_getD, h]
  rw [e, List.set_append_right _ _ (by omega), hl, Nat.sub_self, List.drop_eq_getElem_cons h, List.map_cons, List.set_cons_zero, List.take_add_one, List.getElem?_eq_getElem h]
  simp only [Option.toList_some, List.map_append, List.map_cons, List.map_nil, List.append_assoc, List.cons_append, List.nil_append]
theorem own_some17 {w : World} {B n c : Nat} {e : TypeId} {a : Option Addr} {vs : List Value} (h : w.ownsRow B e 1 (.slice a n c) n vs) (h0 : 0 < n) : ∃ g, a = some ⟨g, 0, none⟩ := by
  rcases h.2 with ⟨h1, h2⟩ | ⟨g, c', cs, h1, _⟩
  · cases h1
    have hl := h.1
    rw [h2] at hl
    simp at hl
    omega
  · cases h1
    exact ⟨g, rfl⟩
theorem own_bd17 {w : World} {B n c : Nat} {e : TypeId} {a : Option Addr} {vs : List Value} (h : w.ownsRow B e 1 (.slice a n c) n vs) : n ≤ c ∧ c ≤ 9223372036854775807 := by
  rcases h.2 with ⟨h1, h2⟩ | ⟨g, c', cs, h1, h2, h3, h4, h5, _⟩
  · cases h1; exact ⟨Nat.le_refl _, by omega⟩
  · cases h1; unfold maxLen at h5; exact ⟨h4, by omega⟩
theorem wrI_mem17 {X : List GF} {R P : List (List GF)} {n N x : Nat} (h : x ∈ wrI X R P n N) : x < N := by
  unfold wrI at h
  exact List.mem_range.1 (List.mem_filter.1 h).1

/-! ## Gather: what is refused -/
theorem wf_nat {k : Nat} (h : k ≤ 1000) : (Lit.int .i64 (k : Int)).wf = true := i64_wfV (by omega) (by omega)
theorem gat_no (b : Nat) (m : Int) (t n c : Nat) (aX : Option Addr) (N cX : Nat) (ps : List Int) (aR : Option Addr) (cR : Nat) (R : List (List GF)) (w : World) (hf : Fld w b) (h : Sh m t n c) (hX : IA w aX N cX ps) (hR : Mat w aR N cR R) (hN : N ≤ 255) (hwd : ∀ k, k < N → (rw_ R k).length ≤ 1000) (hin : ∀ i, i < N → 1 ≤ ps.getD i 0 ∧ ps.getD i 0 ≤ (n : Int)) (hw : ∀ i, i < N → (rw_ R i).length = rowV m t) (hNt : t ≤ N) (hNn : N ≤ n) (hN2 : N ≤ 200) (hA : Apart (gZ ps)) (j : Nat) (hj : j < rowV m t) (hno : ∀ p, ¬ RightP (gZ ps) (colG R N j) t c p) :
    Calls Tryz.prog 17 #[.agg #[.int .i64 m, .int .i64 t, .int .i64 n, .int .i64 c], .pointer (some ⟨b, 0, none⟩), .slice aX N cX, .slice aR N cR] w fun e w' => e = .returned (.tuple #[.pointer none, .int .i64 11]) ∧ Below w.heap.size w w' := by
  have HA := Lib.hid (bxS w #[.int .i64 m, .int .i64 t, .int .i64 n, .int .i64 c] 25)
  have HX := Lib.hid (Bx.new w m t n c)
  have HR := Lib.hid (right_any m t n c (w.alloc (.cells #[.int .i64 m, .int .i64 t, .int .i64 n, .int .i64 c] 25)))
  rw [h.right] at HR
  have q : ((N : Int) != (N : Int)) = false := by simp
  have hb1 := hX.bd
  have hb2 := hR.bd
  have HOUT := Lib.hid (show ∀ W : World, Below w.heap.size w W → Calls Tryz.prog 37 #[.slice aX N cX, .func (.func 38) #[.agg #[.int .i64 m, .int .i64 t, .int .i64 n, .int .i64 c]] #[]] W fun e w' => e = .returned (.bool false) ∧ Below W.heap.size W w' from fun W hW => outCon m t n c aX N cX ps false W (hX.on hW) hN ⟨(fun e => by cases e), fun ⟨i, hi, e⟩ => by have := hin i hi; unfold outB at e; simp only [Bool.or_eq_true, decide_eq_true_eq] at e; omega⟩)
  have HUN := Lib.hid (show ∀ W : World, Below w.heap.size w W → Calls Tryz.prog 39 #[.agg #[.int .i64 m, .int .i64 t, .int .i64 n, .int .i64 c], .slice aR N cR] W fun e w' => e = .returned (.bool false) ∧ Below W.heap.size W w' from fun W hW => suneven_any m t n c aR N cR R false W h (hR.on hW) hwd ⟨(fun e => by cases e), fun ⟨i, hi, e⟩ => absurd (hw i hi) e⟩)
  have hpl : plErr (gZ ps) = 0 := plErr_zero.2 ⟨by rw [gZ_len, hX.1]; have := h.2; omega, by rw [gZ_len, hX.1]; exact hN, hA⟩
  have q2 : ¬ (N : Int) < (t : Int) := by omega
  have q3 : ¬ (n : Int) < (N : Int) := by omega
  have HXX := Lib.hid hX
  have HRR := Lib.hid hR
  have HF := Lib.hid hf
  have HS := Lib.hid h
  have HC := Lib.hid (And.intro hN (And.intro hNt (And.intro hNn (And.intro hwd (And.intro hw hin)))))
  have HE := Lib.hid (And.intro hN2 (And.intro hpl (And.intro hj (show ∀ p, ¬ RightP (gZ ps) (colG R N j) t (c : Int).toNat p from hno))))
  clear h hX hR hw hwd hin hNt hNn hf hA hpl hj hno hN2
  go_enter Tryz.func17, Tryz.ntmps17
  go_upto_region 11 with (first
    | (go_at_call 22; go_loud (refine HR.out.mono ?_; rintro e w1 ⟨rfl, hb⟩; have HB1 := Lib.hid (bt HA.out hb); have HX1 := Lib.hid (HX.out.on hb); have x0 := HX1.out.c0; have x1 := HX1.out.c1; have x2 := HX1.out.c2; have x3 := HX1.out.c3; have HCO := Lib.hid (HOUT.out w1 HB1.out); clear hb))
    | (go_at_call 37; go_loud (refine HCO.out.mono ?_; rintro e w2 ⟨rfl, hb⟩; have HB2 := Lib.hid (bt HB1.out hb); have HX2 := Lib.hid (HX1.out.on hb); have y0 := HX2.out.c0; have y1 := HX2.out.c1; have y2 := HX2.out.c2; have y3 := HX2.out.c3; have HU := Lib.hid (HUN.out w2 HB2.out); clear hb))
    | (go_at_call 39; go_loud (refine HU.out.mono ?_; rintro e w3 ⟨rfl, hb⟩; have HB3 := Lib.hid (bt HB2.out hb); have HX3 := Lib.hid (HX2.out.on hb); have z0 := HX3.out.c0; have z1 := HX3.out.c1; have z2 := HX3.out.c2; have z3 := HX3.out.c3; clear hb)))
  have u0 : ∀ W, Below w3.heap.size w3 W → W.cell? ⟨w.heap.size, 0, none⟩ = some (.int .i64 m) := fun W hW => (HX3.out.on hW).c0
  have u1 : ∀ W, Below w3.heap.size w3 W → W.cell? ⟨w.heap.size, 1, none⟩ = some (.int .i64 (t : Nat)) := fun W hW => (HX3.out.on hW).c1
  have u2 : ∀ W, Below w3.heap.size w3 W → W.cell? ⟨w.heap.size, 2, none⟩ = some (.int .i64 (n : Nat)) := fun W hW => (HX3.out.on hW).c2
  have u3 : ∀ W, Below w3.heap.size w3 W → W.cell? ⟨w.heap.size, 3, none⟩ = some (.int .i64 (c : Nat)) := fun W hW => (HX3.out.on hW).c3
  have HNU := Lib.hid (show ∀ W : World, Below w3.heap.size w3 W → Calls Tryz.prog 26 #[.slice aX N cX] W fun e w' => ∃ g, e = .returned (.slice (some ⟨g, 0, none⟩) N N) ∧ Pa w' (some ⟨g, 0, none⟩) N N (gZ ps) ∧ Below w3.heap.size w3 w' from fun W hW => (snumbers_any aX N cX ps W (HXX.out.on (bt HB3.out hW)) HC.out.1 (fun k hk => by have := HC.out.2.2.2.2.2 k hk; have := HS.out.2; omega)).mono fun e w' ⟨g, h1, h2, h3⟩ => ⟨g, h1, h2, bt hW h3⟩)
  go_region_held (fun W => Below w3.heap.size w3 W) (first | assumption | exact (Below.refl _ _).drew | (refine Below.drew ?_; assumption))
    (first
      | (go_at_call 26; go_loud (refine (HNU.out _ (by first | assumption | exact (Below.refl _ _).drew)).mono ?_; rintro e w4 ⟨g4, rfl, hp4, hbw4⟩; have HB4 := Lib.hid (bt HB3.out hbw4); have HRO := Lib.hid (rows_no b N t (rowV m t) j c (some ⟨g4, 0, none⟩) N (gZ ps) aR cR R w4 (HF.out.below HB4.out) hp4 (HRR.out.on HB4.out) (wf_nat (by have := HS.out.2; omega)) (by omega) HS.out.2.1 HC.out.2.1 (by have := HE.out.1; omega) HE.out.2.1 HC.out.2.2.2.2.1 (by have := rowV_le (m := m) HS.out.2.1; omega) HE.out.2.2.1 HE.out.2.2.2); clear hp4))
      | (go_at_call 40; go_loud (refine HRO.out.mono ?_; rintro e w5 ⟨rfl, hb5⟩; have hbw5 := bt hbw4 hb5; have HB5 := Lib.hid (bt HB3.out hbw5); clear hb5)))
  all_goals
    go_wp2
    go_ret2
    exact ⟨rfl, HB5.out⟩
set_option maxHeartbeats 2000000 in
theorem gat_ok (b : Nat) (m : Int) (t n c : Nat) (aX : Option Addr) (N cX : Nat) (ps : List Int) (aR : Option Addr) (cR : Nat) (R : List (List GF)) (w : World) (hf : Fld w b) (h : Sh m t n c) (hX : IA w aX N cX ps) (hR : Mat w aR N cR R) (hN : N ≤ 255) (hwd : ∀ k, k < N → (rw_ R k).length ≤ 1000) (hin : ∀ i, i < N → 1 ≤ ps.getD i 0 ∧ ps.getD i 0 ≤ (n : Int)) (hw : ∀ i, i < N → (rw_ R i).length = rowV m t) (hNt : t ≤ N) (hNn : N ≤ n) (Q : List (List GF)) (hN2 : N ≤ 200) (hA : Apart (gZ ps)) (hQl : Q.length = rowV m t) (hQ : ∀ k, k < rowV m t → RightP (gZ ps) (colG R N k) t c (rw_ Q k)) :
    Calls Tryz.prog 17 #[.agg #[.int .i64 m, .int .i64 t, .int .i64 n, .int .i64 c], .pointer (some ⟨b, 0, none⟩), .slice aX N cX, .slice aR N cR] w fun e w' => ∃ p, e = .returned (.tuple #[.pointer (some p), .int .i64 0]) ∧ StM w' p m t Q ((wrI (gZ ps) R Q (rowV m t) N).map fun i => ps.getD i 0) ∧ Below w.heap.size w w' := by
  have HA := Lib.hid (bxS w #[.int .i64 m, .int .i64 t, .int .i64 n, .int .i64 c] 25)
  have HX := Lib.hid (Bx.new w m t n c)
  have HR := Lib.hid (right_any m t n c (w.alloc (.cells #[.int .i64 m, .int .i64 t, .int .i64 n, .int .i64 c] 25)))
  rw [h.right] at HR
  have q : ((N : Int) != (N : Int)) = false := by simp
  have hb1 := hX.bd
  have hb2 := hR.bd
  have HOUT := Lib.hid (show ∀ W : World, Below w.heap.size w W → Calls Tryz.prog 37 #[.slice aX N cX, .func (.func 38) #[.agg #[.int .i64 m, .int .i64 t, .int .i64 n, .int .i64 c]] #[]] W fun e w' => e = .returned (.bool false) ∧ Below W.heap.size W w' from fun W hW => outCon m t n c aX N cX ps false W (hX.on hW) hN ⟨(fun e => by cases e), fun ⟨i, hi, e⟩ => by have := hin i hi; unfold outB at e; simp only [Bool.or_eq_true, decide_eq_true_eq] at e; omega⟩)
  have HUN := Lib.hid (show ∀ W : World, Below w.heap.size w W → Calls Tryz.prog 39 #[.agg #[.int .i64 m, .int .i64 t, .int .i64 n, .int .i64 c], .slice aR N cR] W fun e w' => e = .returned (.bool false) ∧ Below W.heap.size W w' from fun W hW => suneven_any m t n c aR N cR R false W h (hR.on hW) hwd ⟨(fun e => by cases e), fun ⟨i, hi, e⟩ => absurd (hw i hi) e⟩)
  have hpl : plErr (gZ ps) = 0 := plErr_zero.2 ⟨by rw [gZ_len, hX.1]; have := h.2; omega, by rw [gZ_len, hX.1]; exact hN, hA⟩
  have q2 : ¬ (N : Int) < (t : Int) := by omega
  have q3 : ¬ (n : Int) < (N : Int) := by omega
  have HXX := Lib.hid hX
  have HRR := Lib.hid hR
  have HF := Lib.hid hf
  have HS := Lib.hid h
  have HC := Lib.hid (And.intro hN (And.intro hNt (And.intro hNn (And.intro hwd (And.intro hw hin)))))
  have HE := Lib.hid (And.intro hN2 (And.intro hpl (And.intro hQl (show ∀ k, k < rowV m t → RightP (gZ ps) (colG R N k) t (c : Int).toNat (rw_ Q k) from hQ))))
  clear h hX hR hw hwd hin hNt hNn hf hA hpl hQ hQl hN2
  go_enter Tryz.func17, Tryz.ntmps17
  go_upto_region 11 with (first
    | (go_at_call 22; go_loud (refine HR.out.mono ?_; rintro e w1 ⟨rfl, hb⟩; have HB1 := Lib.hid (bt HA.out hb); have HX1 := Lib.hid (HX.out.on hb); have x0 := HX1.out.c0; have x1 := HX1.out.c1; have x2 := HX1.out.c2; have x3 := HX1.out.c3; have HCO := Lib.hid (HOUT.out w1 HB1.out); clear hb))
    | (go_at_call 37; go_loud (refine HCO.out.mono ?_; rintro e w2 ⟨rfl, hb⟩; have HB2 := Lib.hid (bt HB1.out hb); have HX2 := Lib.hid (HX1.out.on hb); have y0 := HX2.out.c0; have y1 := HX2.out.c1; have y2 := HX2.out.c2; have y3 := HX2.out.c3; have HU := Lib.hid (HUN.out w2 HB2.out); clear hb))
    | (go_at_call 39; go_loud (refine HU.out.mono ?_; rintro e w3 ⟨rfl, hb⟩; have HB3 := Lib.hid (bt HB2.out hb); have HX3 := Lib.hid (HX2.out.on hb); have z0 := HX3.out.c0; have z1 := HX3.out.c1; have z2 := HX3.out.c2; have z3 := HX3.out.c3; clear hb)))
  have u0 : ∀ W, Below w3.heap.size w3 W → W.cell? ⟨w.heap.size, 0, none⟩ = some (.int .i64 m) := fun W hW => (HX3.out.on hW).c0
  have u1 : ∀ W, Below w3.heap.size w3 W → W.cell? ⟨w.heap.size, 1, none⟩ = some (.int .i64 (t : Nat)) := fun W hW => (HX3.out.on hW).c1
  have u2 : ∀ W, Below w3.heap.size w3 W → W.cell? ⟨w.heap.size, 2, none⟩ = some (.int .i64 (n : Nat)) := fun W hW => (HX3.out.on hW).c2
  have u3 : ∀ W, Below w3.heap.size w3 W → W.cell? ⟨w.heap.size, 3, none⟩ = some (.int .i64 (c : Nat)) := fun W hW => (HX3.out.on hW).c3
  have HNU := Lib.hid (show ∀ W : World, Below w3.heap.size w3 W → Calls Tryz.prog 26 #[.slice aX N cX] W fun e w' => ∃ g, e = .returned (.slice (some ⟨g, 0, none⟩) N N) ∧ Pa w' (some ⟨g, 0, none⟩) N N (gZ ps) ∧ Below w3.heap.size w3 w' from fun W hW => (snumbers_any aX N cX ps W (HXX.out.on (bt HB3.out hW)) HC.out.1 (fun k hk => by have := HC.out.2.2.2.2.2 k hk; have := HS.out.2; omega)).mono fun e w' ⟨g, h1, h2, h3⟩ => ⟨g, h1, h2, bt hW h3⟩)
  go_region_held (fun W => Below w3.heap.size w3 W) (first | assumption | exact (Below.refl _ _).drew | (refine Below.drew ?_; assumption))
    (first
      | (go_at_call 26; go_loud (refine (HNU.out _ (by first | assumption | exact (Below.refl _ _).drew)).mono ?_; rintro e w4 ⟨g4, rfl, hp4, hbw4⟩; have HB4 := Lib.hid (bt HB3.out hbw4); have HRO := Lib.hid (rows_ok b N t (rowV m t) c (some ⟨g4, 0, none⟩) N (gZ ps) aR cR R Q w4 (HF.out.below HB4.out) hp4 (HRR.out.on HB4.out) (wf_nat (by have := HS.out.2; omega)) (by omega) HS.out.2.1 HC.out.2.1 (by have := HE.out.1; omega) HE.out.2.1 HC.out.2.2.2.2.1 (by have := rowV_le (m := m) HS.out.2.1; omega) HE.out.2.2.1 HE.out.2.2.2); clear hp4))
      | (go_at_call 40; go_loud (refine HRO.out.mono ?_; rintro e w5 ⟨p5, rfl, hmd, hb5⟩; have hbw5 := bt hbw4 hb5; have HB5 := Lib.hid (bt HB3.out hbw5); have HMD := Lib.hid hmd; have HX5 := Lib.hid (HX3.out.on hbw5); clear hb5 hmd)))
  all_goals
    obtain ⟨W, hWW⟩ : ∃ W, W = wrI (gZ ps) R Q (rowV m t) N := ⟨_, rfl⟩
    rw [← hWW] at HMD
    have HW := Lib.hid (show ∀ x, x ∈ W → x < N from fun x hx => wrI_mem17 (by rw [← hWW]; exact hx))
    have HWL := Lib.hid (show W.length ≤ N by rw [hWW]; exact wrI_le _ _ _ _ _)
    have HWW := Lib.hid hWW
    clear hWW u0 u1 u2 u3
    have hWO := wrong_own p5 Q W w5 HMD.out (by have := HWL.out; have := HC.out.1; omega) (fun x hx => by have := HW.out x hx; have := HC.out.1; omega)
    have HWO := Lib.hid hWO
    clear hWO
    obtain ⟨L, hL⟩ : ∃ L, L = W.length := ⟨_, rfl⟩
    have HL := Lib.hid hL
    rw [← hL] at HWO
    clear hL
    go_upto_region 15 with (go_at_call 41; go_loud (refine HWO.out.mono ?_; rintro e w6 ⟨a6, c6, rfl, ho, hb⟩; have hb6 := own_bd17 ho; have HO6 := Lib.hid ho; have HB6 := Lib.hid hb; clear ho hb))
    have hO0 : Hid (w6.ownsRow w5.heap.size 3 1 (.slice a6 L c6) L (wrV17 ps W 0)) := Lib.hid (by rw [wrV17_zero]; exact HO6.out)
    go_wp2_with fail
    go_loopw [65] (fun j wr => ∃ k : Nat, k ≤ L ∧ j = .int .i64 (k : Nat) ∧ Hid (wr.ownsRow w5.heap.size 3 1 (.slice a6 L c6) L (wrV17 ps W k)) ∧ Hid (Below w5.heap.size w5 wr)) (fun j _ => L - (intOf j).toNat)
    case atStart => exact ⟨0, Nat.zero_le _, rfl, hO0, HB6⟩
    case round =>
      obtain ⟨k, hk, rfl, hO, hB⟩ := hrel
      rename World => w7
      by_cases hlt : k < L
      · have qi : (k : Int) < (L : Int) := by omega
        have qi0 : (0 : Int) ≤ (k : Int) := by omega
        have hkW : k < W.length := by rw [← HL.out]; exact hlt
        obtain ⟨g6, rfl⟩ := own_some17 hO.out (by omega)
        have hcl := hO.out.cellAt k (by omega)
        rw [wrV17_at hkW] at hcl
        obtain ⟨x, hx⟩ : ∃ x, x = W.getD k 0 := ⟨_, rfl⟩
        have hxN : x < N := by
          rw [hx, List.getD_eq_getElem?_getD, List.getElem?_eq_getElem hkW]
          exact HW.out _ (List.getElem_mem hkW)
        rw [← hx] at hcl
        obtain ⟨bp, op, rfl, hbp, hpc⟩ := ((HXX.out.on HB5.out).on hB.out).at_ hxN
        have qx : (x : Int) < (N : Int) := by omega
        have qx0 : (0 : Int) ≤ (x : Int) := by omega
        have hst := (hO.out.stored k (.int .i64 (ps.getD x 0))).1
        have hfz := hO.out.frozenAt k
        have hge := (hO.out.lt g6 rfl).1
        have hset := wrV17_set (ps := ps) hkW
        rw [← hx] at hset
        rw [hset] at hst
        have HST := Lib.hid hst
        have HBS := Lib.hid (hB.out.setCell (p := ⟨g6, k, none⟩) hge (.int .i64 (ps.getD x 0)))
        obtain ⟨z, hz⟩ : ∃ z, z = ps.getD x 0 := ⟨_, rfl⟩
        rw [← hz] at hpc HST HBS
        have HLT := Lib.hid hlt
        have hk1000 : k ≤ 1000 := by have := HWL.out; have := HC.out.1; have := HL.out; omega
        clear hst hlt hk hset hx hz hge hxN hkW hbp
        go_wp2
        go_roundw
        case rel => exact ⟨k + 1, by have := HLT.out; omega, by go_num, HST, HBS⟩
        case measure => simp [intOf]; have := HLT.out; omega
      · obtain rfl : k = L := by omega
        have ho := hO.out
        rw [show wrV17 ps W k = (W.map fun i => ps.getD i 0).map (Value.int .i64) by rw [HL.out]; exact wrV17_all ps W] at ho
        have hwl : (W.map fun i => ps.getD i 0).length = k := by rw [List.length_map]; exact HL.out.symm
        have hia := ia_own17 ho (fun z hz => by
          obtain ⟨i, hi, rfl⟩ := List.mem_map.1 hz
          have := HC.out.2.2.2.2.2 i (HW.out i hi)
          have := HS.out.2
          omega)
        have HIA := Lib.hid hia
        have HX7 := Lib.hid (HX5.out.on hB.out)
        have v0 := HX7.out.c0; have v1 := HX7.out.c1
        have HWLN := Lib.hid hwl
        clear ho hlt hia hwl
        go_wp2
        go_ret2
        rw [← HWW.out]
        have hal := (Below.refl w7.heap.size w7).alloc (Nat.le_refl _) (.cells #[.int .i64 m, .int .i64 t, .pointer (some p5), .slice a6 k c6] 77)
        refine ⟨_, rfl, ⟨w7.heap.size, p5, W, a6, c6, rfl, by simp, by simp, by simp, by simp, by rw [HWLN.out]; simp, (HMD.out.on hB.out).on hal, ?_⟩, bt HB5.out (bt hB.out hal)⟩
        rw [HWLN.out]
        exact HIA.out.on hal
end Go.Proofs.YtappfdbmhgifcaaGreatDoor
/- Contracts of code's Glue. -/
namespace Go.Proofs.YtappfdbmhgifcaaGreatDoor
open Go.ChangeShapes Go.WideShapes Go.ChangeAt Go.RowKit Go.Shelf GF
set_option linter.unusedVariables false
set_option linter.unusedSimpArgs false
set_option maxRecDepth 100000

theorem Pa.takeN {w : World} {a : Option Addr} {L c : Nat} {P : List GF} (h : Pa w a L c P) {k : Nat} (hk : k ≤ L) : Pa w a k c (P.take k) := by
  have hl := h.len
  have hc := h.1.2.2.2
  refine ⟨⟨by rw [length_iL, List.length_take]; omega, allB_iL _, fun h0 => ?_, by omega, hc.2⟩, h.2⟩
  rw [length_iL, List.length_take] at h0
  obtain ⟨b, off, e, hb, hcl⟩ := h.1.2.2.1 (by rw [length_iL]; omega)
  refine ⟨b, off, e, hb, fun i hi => ?_⟩
  rw [length_iL, List.length_take] at hi
  have := hcl i (by rw [length_iL]; omega)
  rw [getD_iL] at this
  rw [getD_iL, co_take (by omega), ← this]
theorem flat_next {R : List (List GF)} {k : Nat} (h : k < R.length) : flat (R.take (k + 1)) = flat (R.take k) ++ rw_ R k := by
  unfold flat rw_
  rw [List.take_add_one, List.getElem?_eq_getElem h, List.flatten_append]
  simp [List.getD_eq_getElem?_getD, h]
/-- What is glued of the first k parts. -/
def gluC (R : List (List GF)) (s k : Nat) : List GF := (flat (R.take k)).take s
theorem gluC_next {R : List (List GF)} {k : Nat} (h : k < R.length) (s : Nat) : gluC R s (k + 1) = gluC R s k ++ (rw_ R k).take (s - (gluC R s k).length) := by
  unfold gluC
  rw [flat_next h, List.take_append, List.length_take]
  congr 2
  omega
theorem gluC_le (R : List (List GF)) (s k : Nat) : (gluC R s k).length ≤ s := by unfold gluC; rw [List.length_take]; exact Nat.min_le_left _ _
theorem gluC_zero (R : List (List GF)) (s : Nat) : gluC R s 0 = [] := by simp [gluC, flat]
theorem gluC_bd {R : List (List GF)} {t : Nat} (hR : R.length = t) (hw : ∀ k, k < t → (rw_ R k).length ≤ 1000) (s : Nat) : ∀ k, k ≤ t → (gluC R s k).length ≤ k * 1000 := by
  intro k
  induction k with
  | zero => intro _; rw [gluC_zero]; simp
  | succ k ih =>
    intro hk
    rw [gluC_next (by omega), List.length_append, List.length_take]
    have h1 := ih (by omega)
    have h2 := hw k (by omega)
    have := Nat.min_le_right (s - (gluC R s k).length) (rw_ R k).length
    omega
set_option maxHeartbeats 2000000 in
theorem glue_any (t s : Nat) (aR : Option Addr) (cR : Nat) (R : List (List GF)) (w : World) (hR : Mat w aR t cR R) (hs : s ≤ 9223372036854775807) (ht : t ≤ 255) (hw : ∀ k, k < t → (rw_ R k).length ≤ 1000) :
    Calls Tryz.prog 74 #[.slice aR t cR, .int .i64 (s : Nat)] w fun e w' => ∃ a' n' c' er, e = .returned (.tuple #[.slice a' n' c', .int .i64 er]) ∧ ((s ≤ (flat R).length → er = 0 ∧ n' = s ∧ Pa w' a' s c' ((flat R).take s)) ∧ ((flat R).length < s → er = 2 ∧ n' = 0)) ∧ Below w.heap.size w w' := by
  obtain ⟨i5, hi, hz0, hz1, hz2⟩ := info_parts info5
  have HI := Lib.hid (And.intro hi (And.intro hz0 (And.intro hz1 hz2)))
  have HR := Lib.hid hR
  have HL := Lib.hid hR.len
  have HW := Lib.hid hw
  have HT := Lib.hid ht
  have hbd := hR.bd
  have qs : (0 : Int) ≤ (s : Int) := by omega
  have qs2 : (s : Int) ≤ 9223372036854775807 := by omega
  have HG := Lib.hid (gluC_bd hR.len hw s)
  have HO0 := Lib.hid (own_emptyG w 5)
  have HB0 := Lib.hid (show Below w.heap.size w (w.alloc (.cells #[] 5)) from (Below.refl _ _).alloc (Nat.le_refl _) _)
  clear hi hz0 hz1 hz2 hR hw ht hs
  go_enter Tryz.func74, Tryz.ntmps74
  go_wp2
  go_loopw [6, 14] (fun o j wr => ∃ (k m : Nat) (a : Option Addr) (c : Nat), k ≤ t ∧ j = .int .i64 (k : Nat) ∧ o = .slice a m c ∧ Hid (m = (gluC R s k).length) ∧ Hid (wr.ownsRow w.heap.size 5 1 (.slice a m c) m ((iL (gluC R s k)).map (Value.int .u8))) ∧ Hid (Below w.heap.size w wr))
    (fun _ j _ => t - (intOf j).toNat)
  case atStart => exact ⟨0, 0, _, 0, Nat.zero_le _, rfl, rfl, Lib.hid (by rw [gluC_zero]; rfl), by rw [gluC_zero]; exact HO0, HB0⟩
  case round =>
    obtain ⟨k, m, a, c, hk, rfl, rfl, HM, HO, HB⟩ := hrel
    rename World => V
    have hms : m ≤ s := by rw [HM.out]; exact gluC_le _ _ _
    have hmb : m ≤ 255000 := by have := HG.out k hk; rw [← HM.out] at this; have := HT.out; omega
    have hmc : m ≤ c ∧ c ≤ 9223372036854775807 := by
      rcases HO.out.2 with ⟨e, h0⟩ | ⟨g, c', cur, e, _, _, h4, h5, _⟩
      · cases e; omega
      · cases e; exact ⟨h4, by unfold maxLen at h5; omega⟩
    by_cases hlt : k < t
    · have q2 : (k : Int) < (t : Int) := by omega
      have q3 : (0 : Int) ≤ (k : Int) := by omega
      obtain ⟨b, off, ai, ci, rfl, hb, hcell, hpa⟩ := (HR.out.on HB.out).row hlt
      have hd1 := hpa.bd
      have HN := Lib.hid (gluC_next (R := R) (k := k) (by rw [HL.out]; exact hlt) s)
      have hl1 := HW.out k hlt
      obtain ⟨L, hL⟩ : ∃ L, L = (rw_ R k).length := ⟨_, rfl⟩
      have HLL := Lib.hid hL
      rw [← hL] at hcell hd1 hpa hl1
      rw [← HM.out] at HN
      obtain ⟨d, hd⟩ : ∃ d, d = s - m := ⟨_, rfl⟩
      have qd : (s : Int) - (m : Int) = (d : Int) := by omega
      rw [← hd] at HN
      have HKL := Lib.hid hlt
      have HMB := Lib.hid hmb
      by_cases hx : d < L
      · have qx : (d : Int) < (L : Int) := by omega
        have qx0 : (0 : Int) ≤ (d : Int) := by omega
        have HPX := Lib.hid (hpa.takeN (k := d) (by omega))
        have HDB := Lib.hid (show d ≤ 1000 by omega)
        have HDC := Lib.hid (show d ≤ ci by omega)
        clear hpa hx hlt hk hd hL hms hmb hl1
        go_wp2_with ((with_reducible show wpList _ _ _ (⟨some 28, _, _, _, _, _⟩ :: _) _ _); go_loud (refine wpList_append_bs _ rfl (.tmp 18) (.tmp 27) 22 rfl w.heap.size 5 i5 Tryz.underlying22 HI.out.1 HI.out.2.1 HI.out.2.2.1 HI.out.2.2.2 _ m (iL (gluC R s k)) rfl HO.out ai d ci _ (iL ((rw_ R k).take d)) rfl HPX.out.1.2.2.1 HPX.out.1.1 HPX.out.2 (by have := HMB.out; have := HDB.out; omega) (by have := HB.out.size; omega) ?_; intro v2 V2 hown2 hg2; have hb2 := HB.out.grown hg2 HB.out.size (fun z hz => (HO.out.lt z hz).1); obtain ⟨a2, c2, hv2, _, _, _, _, _⟩ := own_form hown2; subst hv2; rw [show iL (gluC R s k) ++ iL ((rw_ R k).take d) = iL (gluC R s k ++ (rw_ R k).take d) by simp [iL], ← HN.out] at hown2; have HO2 := Lib.hid hown2; have HB2 := Lib.hid hb2; clear hown2 hg2 hb2))
        go_roundw
        case rel => exact ⟨k + 1, m + d, a2, c2, HKL.out, by go_num, rfl, Lib.hid (by have := HO2.out.1; rw [List.length_map, length_iL] at this; omega), HO2, HB2⟩
        case measure => simp [intOf]; have := HKL.out; omega
      · have qx : ¬ (d : Int) < (L : Int) := by omega
        have qx0 : (0 : Int) ≤ (L : Int) := by omega
        have HPX := Lib.hid hpa
        have HDB := Lib.hid hl1
        rw [show (rw_ R k).take d = rw_ R k from List.take_of_length_le (by rw [← hL]; omega)] at HN
        clear hpa hx hlt hk hd hL hms hmb hl1
        go_wp2_with ((with_reducible show wpList _ _ _ (⟨some 28, _, _, _, _, _⟩ :: _) _ _); go_loud (refine wpList_append_bs _ rfl (.tmp 18) (.tmp 27) 22 rfl w.heap.size 5 i5 Tryz.underlying22 HI.out.1 HI.out.2.1 HI.out.2.2.1 HI.out.2.2.2 _ m (iL (gluC R s k)) rfl HO.out ai L ci _ (iL (rw_ R k)) rfl HPX.out.1.2.2.1 HPX.out.1.1 HPX.out.2 (by have := HMB.out; have := HDB.out; omega) (by have := HB.out.size; omega) ?_; intro v2 V2 hown2 hg2; have hb2 := HB.out.grown hg2 HB.out.size (fun z hz => (HO.out.lt z hz).1); obtain ⟨a2, c2, hv2, _, _, _, _, _⟩ := own_form hown2; subst hv2; rw [show iL (gluC R s k) ++ iL (rw_ R k) = iL (gluC R s k ++ rw_ R k) by simp [iL], ← HN.out] at hown2; have HO2 := Lib.hid hown2; have HB2 := Lib.hid hb2; clear hown2 hg2 hb2))
        go_roundw
        case rel => exact ⟨k + 1, m + L, a2, c2, HKL.out, by go_num, rfl, Lib.hid (by have := HO2.out.1; rw [List.length_map, length_iL] at this; omega), HO2, HB2⟩
        case measure => simp [intOf]; have := HKL.out; omega
    · obtain rfl : k = t := by omega
      have HE := Lib.hid (show gluC R s k = (flat R).take s by unfold gluC; rw [List.take_of_length_le (l := R) (by rw [HL.out]; exact Nat.le_refl _)])
      have HEL := Lib.hid (show m = min s (flat R).length by rw [HM.out, HE.out, List.length_take])
      by_cases hf : s ≤ (flat R).length
      · have hm : m = s := by rw [HEL.out]; exact Nat.min_eq_left hf
        subst hm
        have HF := Lib.hid hf
        have HO2 := HO.out
        rw [HE.out] at HO2
        obtain ⟨a9, c9, e9, hp9, _⟩ := Pa.own HO2
        cases e9
        have HP := Lib.hid hp9
        have q9 : ¬ (m : Int) < (m : Int) := by omega
        clear hlt hf HO2 hp9
        go_wp2
        go_ret2
        exact ⟨_, _, _, _, rfl, ⟨fun _ => ⟨rfl, rfl, HP.out⟩, fun h => absurd HF.out (by omega)⟩, HB.out⟩
      · have hm : m < s := by rw [HEL.out]; omega
        have q9 : (m : Int) < (s : Int) := by omega
        have HF := Lib.hid hf
        clear hlt hf
        go_wp2
        go_ret2
        exact ⟨_, _, _, _, rfl, ⟨fun h => absurd h HF.out, fun _ => ⟨rfl, rfl⟩⟩, HB.out⟩
theorem glueC : GlueC := fun t s aR cR R w hR hs ht hw => by
  have hb : (flat R).length ≤ 255000 := by
    have := gluC_bd hR.len hw (flat R).length t (Nat.le_refl _)
    rw [show gluC R (flat R).length t = flat R by unfold gluC; rw [List.take_of_length_le (l := R) (by rw [hR.len]; exact Nat.le_refl _), List.take_of_length_le (Nat.le_refl _)]] at this
    omega
  refine (glue_any t s aR cR R w hR (by omega) ht hw).mono ?_
  rintro e w' ⟨a', n', c', er, rfl, ⟨h1, _⟩, hb⟩
  obtain ⟨rfl, rfl, hp⟩ := h1 hs
  exact ⟨a', c', rfl, hp, hb⟩
end Go.Proofs.YtappfdbmhgifcaaGreatDoor
/- Contracts of stripe's Row, Wrong, parcel, Block. -/
namespace Go.Proofs.YtappfdbmhgifcaaGreatDoor
open Go.ChangeShapes Go.WideShapes Go.ChangeAt Go.RowKit Go.Shelf GF
set_option linter.unusedVariables false
set_option linter.unusedSimpArgs false
set_option maxRecDepth 100000

theorem row_low (p : Addr) (x : Int) (w : World) (h : x < 1) : Calls Tryz.prog 20 #[.pointer (some p), .int .i64 x] w fun e w' => e = .returned (.slice none 0 0) ∧ w = w' := by
  go_enter Tryz.func20, Tryz.ntmps20
  go_wp2
  go_ret
  exact ⟨rfl, rfl⟩
theorem row_high (p : Addr) (x : Int) (w : World) (h0 : ¬ x < 1) (h : 255 < x) : Calls Tryz.prog 20 #[.pointer (some p), .int .i64 x] w fun e w' => e = .returned (.slice none 0 0) ∧ w = w' := by
  go_enter Tryz.func20, Tryz.ntmps20
  go_wp2
  go_ret
  exact ⟨rfl, rfl⟩
theorem row_any (p : Addr) (m : Int) (t : Nat) (Q : List (List GF)) (ws : List Int) (x : Nat) (w : World) (h : StM w p m t Q ws) (hQ : Q.length ≤ 1000) (h1 : 1 ≤ x) (h2 : x ≤ 255) :
    Calls Tryz.prog 20 #[.pointer (some p), .int .i64 (x : Nat)] w fun e w' => ∃ a c, e = .returned (.slice a Q.length c) ∧ Pa w' a Q.length c (evP Q (pl x)) ∧ (∀ bb off, a = some ⟨bb, off, none⟩ → w.heap.size ≤ bb) ∧ Below w.heap.size w w' := by
  obtain ⟨g, pm, W, aW, cW, rfl, hg, c0, c1, c2, c3, hmd, hia⟩ := h
  have HM := Lib.hid (at_big pm Q W (pl x) w hmd hQ)
  rw [pl_I (by omega)] at HM
  have k1 : ∀ [Inhabited Unit], IntKind.u8.wrap (x : Int) = (x : Int) := by intro _; rw [IntKind.wrap_u8]; omega
  have q1 : ¬ (x : Int) < 1 := by omega
  have q2 : ¬ (255 : Int) < (x : Int) := by omega
  clear hmd hia c0 c1 c3
  go_enter Tryz.func20, Tryz.ntmps20
  go_wp2_with (go_at_call 42; go_loud (refine HM.out.mono ?_; rintro e w1 ⟨a1, c1, rfl, hp, hn, hb⟩; have HP := Lib.hid hp; have HN := Lib.hid hn; have HB := Lib.hid hb; clear hp hn hb))
  go_ret
  exact ⟨a1, c1, rfl, HP.out, HN.out, HB.out⟩
theorem swr_any (p : Addr) (m : Int) (t : Nat) (Q : List (List GF)) (ws : List Int) (w : World) (h : StM w p m t Q ws) (hl : ws.length ≤ 1000) (hz : ∀ z, z ∈ ws → 0 ≤ z ∧ z < 256) :
    Calls Tryz.prog 19 #[.pointer (some p)] w fun e w' => ∃ a c, e = .returned (.slice a ws.length c) ∧ IA w' a ws.length c ws ∧ Below w.heap.size w w' := by
  obtain ⟨g, pm, W, aW, cW, rfl, hg, c0, c1, c2, c3, hmd, hia⟩ := h
  have HC := Lib.hid (cloneI_any aW ws.length cW ws w hia hl hz)
  have hbd := hia.bd
  clear hmd hia c0 c1 c2 hz hl
  go_enter Tryz.func19, Tryz.ntmps19
  go_wp2_with (go_at_call 45; go_loud (refine HC.out.mono ?_; rintro e w1 ⟨a1, c1, rfl, hia, hb⟩; have HI := Lib.hid hia; have HB := Lib.hid hb; clear hia hb))
  go_ret
  exact ⟨_, _, rfl, HI.out, HB.out⟩

/-! ## the parcel -/
theorem stR_take {Q : List (List GF)} {t k : Nat} (h : k < t) : (stR Q t).take (k + 1) = (stR Q t).take k ++ [evP Q (pl (k + 1))] := by
  refine take_stepV ?_
  have e := stR_row (Q := Q) h
  unfold rw_ at e
  rw [← e]
  simp [List.getD_eq_getElem?_getD, stR_len, h]
theorem stR_flat {Q : List (List GF)} : ∀ t : Nat, (flat (stR Q t)).length = t * Q.length
  | 0 => by simp [stR, flat]
  | t + 1 => by
    have e : stR Q (t + 1) = stR Q t ++ [evP Q (pl (t + 1))] := by simp [stR, List.range_succ]
    have ih := stR_flat (Q := Q) t
    rw [e]
    unfold flat at ih ⊢
    rw [List.flatten_append, List.length_append, ih, List.flatten_singleton, evP_len, Nat.succ_mul]
set_option maxHeartbeats 2000000 in
theorem parcel_any (p : Addr) (m : Int) (t : Nat) (Q : List (List GF)) (ws : List Int) (w : World) (h : StM w p m t Q ws) (hQ : Q.length ≤ 1000) (h1 : 1 ≤ t) (h2 : t ≤ 255) (h3 : 473 ≤ t * Q.length) :
    Calls Tryz.prog 44 #[.pointer (some p)] w fun e w' => ∃ a c, e = .returned (.slice a 473 c) ∧ Pa w' a 473 c ((flat (stR Q t)).take 473) ∧ Below w.heap.size w w' := by
  have HS := Lib.hid h
  have HT := Lib.hid (And.intro h1 (And.intro h2 (And.intro h3 hQ)))
  obtain ⟨g, pm, W, aW, cW, rfl, hg, c0, c1, c2, c3, hmd, hia⟩ := h
  obtain ⟨n, hn⟩ : ∃ n, n = Q.length := ⟨_, rfl⟩
  have HQN := Lib.hid hn
  have hmk := run_make_row' (P := Tryz.prog) 28 22 (.slice none 0 0) 24 Tryz.underlying28 infoR rfl .i64 .i64 t (by omega) (by omega)
  have hO0 : Hid ((w.alloc (.cells (madeCells #[Value.slice none 0 0] t) 22)).ownsRow w.heap.size 22 1 (.slice (some ⟨w.heap.size, 0, none⟩) t t) t ([] ++ List.replicate (t - ([] : List Value).length) (.slice none 0 0))) :=
    Lib.hid (own_madeR (w := w) (n := t) (by unfold maxLen; omega))
  have hB0 : Hid (Below w.heap.size w (w.alloc (.cells (madeCells #[Value.slice none 0 0] t) 22))) := Lib.hid ((Below.refl _ _).alloc (Nat.le_refl _) _)
  clear hmd hia c0 c2 c3 h1 h2 h3 hQ hn
  go_enter Tryz.func44, Tryz.ntmps44
  go_wp2
  go_loopw [14] (fun j wr => ∃ (i : Nat) (vs : List Value), i ≤ t ∧ vs.length = i ∧ j = .int .i64 (i : Nat) ∧ Hid (wr.ownsRow w.heap.size 22 1 (.slice (some ⟨w.heap.size, 0, none⟩) t t) t (vs ++ List.replicate (t - vs.length) (.slice none 0 0))) ∧ Hid (RV wr (fun b => w.heap.size < b) vs ((stR Q t).take i)) ∧ Hid (Below w.heap.size w wr))
    (fun j _ => t - (intOf j).toNat)
  case atStart => exact ⟨0, [], Nat.zero_le _, rfl, rfl, hO0, Lib.hid (RV.nil _ _), hB0⟩
  case round =>
    obtain ⟨i, vs, hi, hvl, rfl, hO, hV, hB⟩ := hrel
    rename World => w2
    by_cases hlt : i < t
    · have qi : (i : Int) < (t : Int) := by omega
      have qi0 : (0 : Int) ≤ (i : Int) := by omega
      have k1 : wrap64 ((i : Int) + 1) = ((i + 1 : Nat) : Int) := by have := HT.out; unfold wrap64; omega
      have HVA := Lib.hid (row_any ⟨g, 0, none⟩ m t Q ws (i + 1) w2 (HS.out.on hB.out) HT.out.2.2.2 (by omega) (by have := HT.out; omega))
      rw [← k1, ← HQN.out] at HVA
      have HVL := Lib.hid hvl
      have HLT := Lib.hid hlt
      have HII := Lib.hid hi
      have K1 := Lib.hid k1
      clear hvl k1 hlt hi
      have hgs := (hO.out.lt w.heap.size rfl).2
      go_wp2_with (go_at_call 20; go_loud (refine HVA.out.mono ?_; rintro e w3 ⟨aV, cV, rfl, hpv, hnew, hb3⟩; have HPV := Lib.hid hpv; have HNEW := Lib.hid hnew; have HB3 := Lib.hid hb3; have HO3 := Lib.hid (own_belowV hO.out hb3); have hfz := HO3.out.frozenAt i; have hcl := HO3.out.cellAt i (by have := HVL.out; have := HLT.out; simp; omega); rw [List.getElem?_eq_getElem (by have := HVL.out; have := HLT.out; simp; omega)] at hcl; clear hpv hnew hb3))
      have hlt := HLT.out
      have hst := (HO3.out.stored i (.slice aV n cV)).1
      have hsn := set_next (vs := vs) (n := t) (.slice none 0 0) (.slice aV n cV) (by rw [HVL.out]; exact hlt)
      rw [HVL.out] at hsn hst
      rw [hsn] at hst
      have hpv : Pa (w3.setCell ⟨w.heap.size, i, none⟩ (.slice aV n cV)) aV n cV (evP Q (pl (i + 1))) := HPV.out.but (gb_set _ _ _ _) (fun bb off e => by have := HNEW.out bb off e; omega)
      have hrv : RV (w3.setCell ⟨w.heap.size, i, none⟩ (.slice aV n cV)) (fun b => w.heap.size < b) vs ((stR Q t).take i) := hV.out.keep (by have := HB3.out.size; simp; omega) (fun b h1 h2 => ⟨h2, by rw [Below.heap_setCell _ _ _ _ (by show b ≠ w.heap.size; omega)]; exact HB3.out.block b h1⟩)
      have hl : (evP Q (pl (i + 1))).length = n := by rw [evP_len, HQN.out]
      have hmo := hrv.more (P := evP Q (pl (i + 1))) (a := aV) (c := cV) (by rw [hl]; exact hpv) (fun bb off e _ => by have := HNEW.out bb off e; omega)
      rw [hl, ← stR_take hlt] at hmo
      have HST := Lib.hid hst; have HMO := Lib.hid hmo
      have HBN := Lib.hid ((hB.out.trans (HB3.out.mono (by omega))).setCell (p := ⟨w.heap.size, i, none⟩) (Nat.le_refl _) (.slice aV n cV))
      have hl2 : (vs ++ [Value.slice aV n cV]).length = i + 1 := by rw [List.length_append, HVL.out]; rfl
      have hT255 := HT.out.2.1
      clear hst hsn hpv hrv hl hmo
      go_roundw
      case rel => exact ⟨i + 1, vs ++ [.slice aV n cV], by omega, hl2, by rw [K1.out], by rw [hl2]; exact HST, HMO, HBN⟩
      case measure => rw [K1.out]; simp [intOf]; omega
    · obtain rfl : t = i := by omega
      have ho := hO.out
      have hv := hV.out
      rw [hvl, Nat.sub_self, List.replicate_zero, List.append_nil] at ho
      rw [List.take_of_length_le (by rw [stR_len]; exact Nat.le_refl _)] at hv
      have hmb := MatB.ofOwn ho hv (fun b hb => Nat.le_of_lt hb)
      have HGL := Lib.hid (glueC t 473 (some ⟨w.heap.size, 0, none⟩) t (stR Q t) w2 hmb.mat (by rw [stR_flat]; exact HT.out.2.2.1) HT.out.2.1 (fun k hk => by rw [stR_row hk, evP_len]; exact HT.out.2.2.2))
      clear ho hv hvl hmb hlt
      go_wp2_with (go_at_call 74; go_loud (refine HGL.out.mono ?_; rintro e w3 ⟨a3, c3, rfl, hp, hb⟩; have HP3 := Lib.hid hp; have HB3 := Lib.hid (bt hB.out hb); clear hp hb))
      go_ret
      exact ⟨a3, c3, rfl, HP3.out, HB3.out⟩

/-! ## Block -/
theorem tel_len {m : Int} {t : Nat} {Q : List (List GF)} {B : List GF} (h : Tel m t Q B) : Q.length = rowV m t := by
  obtain ⟨_, ⟨rfl, h2, _⟩ | ⟨rfl, ⟨K, hK, rfl⟩ | ⟨rfl, _⟩⟩⟩ := h
  · exact h2
  · exact (cutQ_ok _ t).1
  · exact noQ_len _
theorem zeroG_no (n : Nat) : zeroG (noR n) = true := zeroG_true fun i _ => noR_co n i
theorem blk_any (p : Addr) (m : Int) (t : Nat) (Q : List (List GF)) (B : List GF) (ws : List Int) (w : World) (h : StM w p m t Q ws) (hG : Gl w) (h1 : 1 ≤ t) (h2 : t ≤ 255) (hT : Tel m t Q B) :
    Calls Tryz.prog 18 #[.pointer (some p)] w fun e w' => ∃ a c, e = .returned (.tuple #[.slice a 440 c, .int .i64 0]) ∧ Pa w' a 440 c B ∧ Below w.heap.size w w' := by
  have HS := Lib.hid h
  have HL := Lib.hid (tel_len hT)
  have HT := Lib.hid (And.intro h1 h2)
  have HG := Lib.hid hG
  obtain ⟨g, pm, W, aW, cW, rfl, hg, c0, c1, c2, c3, hmd, hia⟩ := h
  obtain ⟨hBl, ⟨rfl, hQ, hB⟩ | ⟨rfl, hQ⟩⟩ := hT
  · have hM := at_big pm Q W 0 w hmd (by omega)
    rw [hB, hQ, toI_zero] at hM
    have HM := Lib.hid hM
    clear hmd hia c1 c3 h1 h2 hG hM hB hQ
    go_enter Tryz.func18, Tryz.ntmps18
    go_wp2_with (go_at_call 42; go_loud (refine HM.out.mono ?_; rintro e w1 ⟨a1, c1, rfl, hp, hn, hb⟩; have HP := Lib.hid hp; have HB := Lib.hid hb; clear hp hn hb))
    go_ret2
    exact ⟨a1, c1, rfl, HP.out, HB.out⟩
  · have hbd := ceil473 h1
    have hrl : rowV 1 t = ceil 473 t := rfl
    have HPC := Lib.hid (fun (W' : World) (hb : Below w.heap.size w W') => parcel_any ⟨g, 0, none⟩ 1 t Q ws W' (HS.out.on hb) (by rw [HL.out, hrl]; omega) h1 h2 (by rw [HL.out, hrl]; exact hbd.1))
    have HOP : Hid (∀ (bf : Nat) (a : Option Addr) (c : Nat) (W' : World), Gl W' → Fld W' bf → Pa W' a 473 c ((flat (stR Q t)).take 473) → Calls Tryz.prog 43 #[.pointer (some ⟨bf, 0, none⟩), .slice a 473 c] W' fun e w' => ∃ a' c', e = .returned (.tuple #[.slice a' 440 c', .int .i64 0]) ∧ Pa w' a' 440 c' B ∧ Below W'.heap.size W' w') := by
      refine Lib.hid (fun bf a c W' hG' hf' hP' => ?_)
      rcases hQ with ⟨K, hK, rfl⟩ | ⟨rfl, rfl⟩
      · rw [cutQ_flat h1 h2 (parG_len hK hBl)] at hP'
        exact open_yes bf a c K B W' hG' hf' hK hBl hP'
      · rw [noQ_flat hbd.1] at hP'
        exact open_no bf a c _ W' hP' (zeroG_no 473)
    clear hmd hia c1 c3 h1 h2 hG hQ hbd hrl
    go_enter Tryz.func18, Tryz.ntmps18
    go_wp2_with (first
      | (go_at_call 11; go_loud (refine (new_any _).mono ?_; rintro e w1 ⟨bf, rfl, hbf, hfl, hb⟩; have HF1 := Lib.hid hfl; have HB1 := Lib.hid hb; have HP1 := Lib.hid (HPC.out w1 hb); clear hfl hb))
      | (go_at_call 44; go_loud (refine HP1.out.mono ?_; rintro e w2 ⟨a2, c2, rfl, hp, hb⟩; have HB2 := Lib.hid (bt HB1.out hb); have HO2 := Lib.hid (HOP.out bf a2 c2 w2 (HG.out.on HB2.out HG.out.1) (HF1.out.below hb) hp); clear hp hb))
      | (go_at_call 43; go_loud (refine HO2.out.mono ?_; rintro e w3 ⟨a3, c3, rfl, hp, hb⟩; have HP3 := Lib.hid hp; have HB3 := Lib.hid (bt HB2.out hb); clear hp hb)))
    go_ret2
    exact ⟨a3, c3, rfl, HP3.out, HB3.out⟩
end Go.Proofs.YtappfdbmhgifcaaGreatDoor
/- StripeTells, plain: rows of which the first few are wrong. -/
namespace Go.Proofs.YtappfdbmhgifcaaGreatDoor
open Go.ChangeShapes Go.WideShapes Go.ChangeAt Go.RowKit Go.Shelf GF
set_option linter.unusedVariables false
set_option linter.unusedSimpArgs false
set_option maxRecDepth 100000

theorem fil_head17 {m k : Nat} (hk : k ≤ m) (p : Nat → Bool) (h : ∀ i, i < m → p i = true → i < k) : (List.range m).filter p = (List.range k).filter p := by
  obtain ⟨d, rfl⟩ : ∃ d, m = k + d := ⟨m - k, by omega⟩
  rw [List.range_add, List.filter_append]
  have : ((List.range d).map (k + ·)).filter p = [] := by
    rw [List.filter_eq_nil_iff]
    intro x hx hp
    obtain ⟨y, hy, rfl⟩ := List.mem_map.1 hx
    have := List.mem_range.1 hy
    have := h (k + y) (by omega) hp
    omega
  rw [this, List.append_nil]
theorem fil_all17 {k : Nat} (p : Nat → Bool) (h : ∀ i, i < k → p i = true) : (List.range k).filter p = List.range k :=
  List.filter_eq_self.2 fun i hi => h i (List.mem_range.1 hi)
theorem gX_co (ps : List Nat) (i : Nat) : co (gZ (zl ps)) i = pl (ps.getD i 0) := by rw [gZ_co, zl_get]; rfl
theorem gX_len (ps : List Nat) : (gZ (zl ps)).length = ps.length := by rw [gZ_len, zl_len]
theorem gX_apart {ps : List Nat} (hn : ps.Nodup) (hb : ∀ p, p ∈ ps → p < 256) : Apart (gZ (zl ps)) := by
  intro i j hi hj e
  rw [gX_len] at hi
  rw [gX_co, gX_co] at e
  have hm : ∀ k, k < ps.length → ps.getD k 0 ∈ ps := fun k hk => by
    rw [List.getD_eq_getElem?_getD, List.getElem?_eq_getElem hk]; exact List.getElem_mem hk
  have e2 := pl_inj (hb _ (hm i hi)) (hb _ (hm j (by omega))) e
  unfold List.Nodup at hn
  rw [List.pairwise_iff_getElem] at hn
  refine hn j i (by omega) hi hj ?_
  rw [List.getD_eq_getElem?_getD, List.getD_eq_getElem?_getD, List.getElem?_eq_getElem hi, List.getElem?_eq_getElem (show j < ps.length by omega)] at e2
  exact e2.symm
/-- The rows at places, the first k wrong by the same bytes. -/
def wrR17 (Q : List (List GF)) (ps : List Nat) (D : List GF) (k : Nat) : List (List GF) :=
  (List.range ps.length).map fun i => if i < k then addR (evP Q (pl (ps.getD i 0))) D else evP Q (pl (ps.getD i 0))
theorem wrR17_len (Q : List (List GF)) (ps : List Nat) (D : List GF) (k : Nat) : (wrR17 Q ps D k).length = ps.length := by simp [wrR17]
theorem wrR17_row {Q : List (List GF)} {ps : List Nat} {D : List GF} {k i : Nat} (h : i < ps.length) : rw_ (wrR17 Q ps D k) i = if i < k then addR (evP Q (pl (ps.getD i 0))) D else evP Q (pl (ps.getD i 0)) := rw_map (α := Nat) _ h
theorem wrR17_rlen {Q : List (List GF)} {ps : List Nat} {D : List GF} {k i : Nat} (h : i < ps.length) : (rw_ (wrR17 Q ps D k) i).length = Q.length := by
  rw [wrR17_row h]; split <;> simp [addR_len, evP_len]
theorem wrR17_set {Q : List (List GF)} {ps : List Nat} {D : List GF} {k : Nat} (h : k < ps.length) : (wrR17 Q ps D k).set k (addR (evP Q (pl (ps.getD k 0))) D) = wrR17 Q ps D (k + 1) := by
  refine List.ext_getElem (by rw [List.length_set, wrR17_len, wrR17_len]) fun i h1 h2 => ?_
  rw [List.length_set, wrR17_len] at h1
  rw [List.getElem_set]
  have e : ∀ j (hj : j < ps.length) (k' : Nat) (hj' : j < (wrR17 Q ps D k').length), (wrR17 Q ps D k')[j] = if j < k' then addR (evP Q (pl (ps.getD j 0))) D else evP Q (pl (ps.getD j 0)) := fun j hj k' hj' => by
    have := wrR17_row (Q := Q) (D := D) (k := k') hj
    unfold rw_ at this
    rw [List.getD_eq_getElem?_getD, List.getElem?_eq_getElem hj'] at this
    exact this
  rw [e i h1 (k + 1) h2]
  by_cases hk : k = i
  · subst hk
    rw [if_pos rfl, if_pos (by omega)]
  · rw [if_neg hk, e i h1 k (by rw [wrR17_len]; exact h1)]
    by_cases hl : i < k
    · rw [if_pos hl, if_pos (by omega)]
    · rw [if_neg hl, if_neg (by omega)]
theorem wrR17_co {Q : List (List GF)} {ps : List Nat} {D : List GF} {k i j : Nat} (hD : D.length = Q.length) (hi : i < ps.length) (hj : j < Q.length) :
    co (rw_ (wrR17 Q ps D k) i) j = ev (rw_ Q j) (co (gZ (zl ps)) i) + if i < k then co D j else 0 := by
  rw [wrR17_row hi, gX_co]
  by_cases h : i < k
  · rw [if_pos h, if_pos h, addR_co (by rw [evP_len, hD]), evP_co _ hj]
  · rw [if_neg h, if_neg h, evP_co _ hj, GF.add_zero]
theorem ne_add17 {a b : GF} (h : b ≠ 0) : a ≠ a + b := fun e => h (by
  have e2 : a + a = a + (a + b) := by rw [← e]
  rw [GF.add_self, ← GF.add_assoc, GF.add_self, GF.zero_add] at e2
  exact e2.symm)
theorem wrL17 {Q : List (List GF)} {ps : List Nat} {D : List GF} {k j : Nat} (hD : D.length = Q.length) (hk : k ≤ ps.length) (hj : j < Q.length) :
    wrL (gZ (zl ps)) (colG (wrR17 Q ps D k) ps.length j) (rw_ Q j) = (List.range k).filter fun i => decide (co D j ≠ 0) := by
  unfold wrL
  rw [gX_len, fil_head17 hk]
  · refine List.filter_congr fun i hi => ?_
    have hi' := List.mem_range.1 hi
    rw [colG_co _ (by omega), wrR17_co hD (by omega) hj, if_pos hi']
    by_cases h : co D j = 0
    · rw [h, GF.add_zero]; simp
    · rw [decide_eq_true (ne_add17 h), decide_eq_true h]
  · intro i hi hp
    rw [decide_eq_true_eq, colG_co _ hi, wrR17_co hD hi hj] at hp
    by_cases h : i < k
    · exact h
    · rw [if_neg h, GF.add_zero] at hp
      exact absurd rfl hp
theorem wrL17_le {Q : List (List GF)} {ps : List Nat} {D : List GF} {k j : Nat} (hD : D.length = Q.length) (hk : k ≤ ps.length) (hj : j < Q.length) :
    (wrL (gZ (zl ps)) (colG (wrR17 Q ps D k) ps.length j) (rw_ Q j)).length ≤ k := by
  rw [wrL17 hD hk hj]
  have := List.length_filter_le (fun _ => decide (co D j ≠ 0)) (List.range k)
  simpa using this
theorem right17 {Q : List (List GF)} {ps : List Nat} {D : List GF} {k t c : Nat} (hQ : PolyQ Q Q.length t) (hD : D.length = Q.length) (hc : k ≤ c) (h2 : 2 * k + t ≤ ps.length) :
    ∀ j, j < Q.length → RightP (gZ (zl ps)) (colG (wrR17 Q ps D k) ps.length j) t c (rw_ Q j) := fun j hj => by
  have h := wrL17_le (D := D) hD (show k ≤ ps.length by omega) hj
  exact ⟨(hQ.2 j hj).1, (hQ.2 j hj).2, by omega, by rw [gX_len]; omega⟩
theorem wrI17 {Q : List (List GF)} {ps : List Nat} {D : List GF} {k : Nat} (hD : D.length = Q.length) (hk : k ≤ ps.length) (h0 : 0 < Q.length) (hD0 : co D 0 ≠ 0) :
    wrI (gZ (zl ps)) (wrR17 Q ps D k) Q Q.length ps.length = List.range k := by
  unfold wrI
  rw [fil_head17 hk, fil_all17]
  · intro i hi
    unfold wrF
    rw [List.any_eq_true]
    refine ⟨0, List.mem_range.2 h0, ?_⟩
    rw [decide_eq_true_eq, wrR17_co hD (by omega) h0, if_pos hi]
    exact ne_add17 hD0
  · intro i hi hp
    unfold wrF at hp
    rw [List.any_eq_true] at hp
    obtain ⟨j, hj, hp⟩ := hp
    rw [decide_eq_true_eq, wrR17_co hD hi (List.mem_range.1 hj)] at hp
    by_cases h : i < k
    · exact h
    · rw [if_neg h, GF.add_zero] at hp
      exact absurd rfl hp
theorem not17 {Q : List (List GF)} {ps : List Nat} {D : List GF} {k t c : Nat} (hQ : PolyQ Q Q.length t) (hD : D.length = Q.length) (hk : k ≤ ps.length) (h0 : 0 < Q.length) (hD0 : co D 0 ≠ 0) (hn : ps.Nodup) (hb : ∀ p, p ∈ ps → p < 256) (h2 : 2 * k + t = ps.length + 1) (p : List GF) :
    ¬ RightP (gZ (zl ps)) (colG (wrR17 Q ps D k) ps.length 0) t c p := by
  intro hp
  have hX := gX_apart hn hb
  have hw : (wrL (gZ (zl ps)) (colG (wrR17 Q ps D k) ps.length 0) (rw_ Q 0)).length = k := by
    rw [wrL17 hD hk h0, fil_all17 _ (fun _ _ => decide_eq_true hD0), List.length_range]
  have hp2 := hp.2.2.2
  rw [gX_len] at hp2
  have e := right_uniq (Y := colG (wrR17 Q ps D k) ps.length 0) (q := rw_ Q 0) (t := t) hX (fun j hj => hp.co hj) (fun j hj => co_ge (by have := (hQ.2 0 h0).2; omega)) (by rw [hw, gX_len]; omega)
  have e2 := wrL_congr (X := gZ (zl ps)) (Y := colG (wrR17 Q ps D k) ps.length 0) e
  rw [e2, hw] at hp2
  omega
/-- What a wrong row is changed by: the given bytes, but for the first: one. -/
def patG (W : List GF) (V : Nat) : List GF := (List.range V).map fun j => if j = 0 then toG 1 else co W j
theorem patG_len (W : List GF) (V : Nat) : (patG W V).length = V := by simp [patG]
theorem patG_co {W : List GF} {V j : Nat} (h : j < V) : co (patG W V) j = if j = 0 then toG 1 else co W j := by
  show List.getD _ _ _ = _
  unfold patG; simp [List.getD_eq_getElem?_getD, h]
theorem one_ne17 : toG 1 ≠ 0 := by
  intro e
  have := congrArg toI e
  rw [toI_toG (by omega)] at this
  revert this; decide
/-- A row on its way to a wrong one: the first n bytes changed. -/
def mixR (E W : List GF) (n : Nat) : List GF := (List.range E.length).map fun j => if j < n then co E j + co W j else co E j
theorem mixR_len (E W : List GF) (n : Nat) : (mixR E W n).length = E.length := by simp [mixR]
theorem mixR_co {E W : List GF} {n j : Nat} (h : j < E.length) : co (mixR E W n) j = if j < n then co E j + co W j else co E j := by
  show List.getD _ _ _ = _
  unfold mixR; simp [List.getD_eq_getElem?_getD, h]
theorem mixR_zero (E W : List GF) : mixR E W 0 = E := ext_co (mixR_len _ _ _) fun j hj => by
  rw [mixR_len] at hj
  rw [mixR_co hj, if_neg (by omega)]
theorem mixR_next {E W : List GF} {n : Nat} (h : n < E.length) : (mixR E W n).set n (co (mixR E W n) n + co W n) = mixR E W (n + 1) := by
  refine ext_co (by rw [List.length_set, mixR_len, mixR_len]) fun j hj => ?_
  rw [List.length_set, mixR_len] at hj
  rw [co_set (by rw [mixR_len]; exact h), mixR_co hj, mixR_co hj, mixR_co h, if_neg (show ¬ n < n by omega)]
  by_cases e : j = n
  · subst e
    rw [if_pos rfl, if_pos (by omega)]
  · rw [if_neg e]
    by_cases hl : j < n
    · rw [if_pos hl, if_pos (by omega)]
    · rw [if_neg hl, if_neg (by omega)]
theorem mixR_skip {E W : List GF} {n : Nat} (h : E.length ≤ n) : mixR E W (n + 1) = mixR E W n := ext_co (by rw [mixR_len, mixR_len]) fun j hj => by
  rw [mixR_len] at hj
  rw [mixR_co hj, mixR_co hj, if_pos (by omega), if_pos (by omega)]
/-- Behind all of them: the first byte by one more, and by its own again. -/
theorem mixR_end {E W : List GF} {L : Nat} (hW : W.length = L) (hE : 0 < E.length) :
    (mixR E W L).set 0 (co (mixR E W L) 0 + toG 1 + co W 0) = addR E (patG W E.length) := by
  refine ext_co (by rw [List.length_set, mixR_len, addR_len]) fun j hj => ?_
  rw [List.length_set, mixR_len] at hj
  rw [co_set (by rw [mixR_len]; exact hE), addR_co (by rw [patG_len]), patG_co hj]
  have hz : ∀ i, L ≤ i → co W i = 0 := fun i hi => co_ge (by omega)
  by_cases e : j = 0
  · subst e
    rw [if_pos rfl, if_pos rfl, mixR_co hE]
    split
    · rw [GF.add_assoc, GF.add_comm (toG 1) (co W 0), ← GF.add_assoc, GF.add_assoc (co E 0), GF.add_self, GF.add_zero]
    · rw [hz 0 (by omega), GF.add_zero]
  · rw [if_neg e, if_neg e, mixR_co hj]
    split
    · rfl
    · rw [hz j (by omega), GF.add_zero]
end Go.Proofs.YtappfdbmhgifcaaGreatDoor
