/- The walk of MatrixSolves (written by gen17.py). -/
import Derived.Test.YtpoaimcioeopdaaMsol
import Derived.Test.YtpoaimcioeopdaaMlaw
import Derived.Deep.AppendLies
import Derived.Deep.RegionHeld
import Derived.Deep.DrawnRows
namespace Go.Proofs.Ytpoaimcioeopdaa
open Go.ChangeShapes Go.WideShapes Go.ChangeAt Go.RowKit Go.Shelf GF
set_option linter.unusedVariables false
set_option maxRecDepth 100000
set_option linter.unusedSimpArgs false
attribute [local go_sem ↓] Go.wp_at_zero Go.wp_at_succ

theorem info_parts22 {t : TypeId} (h : (Try.prog.info? t).map (fun i => (i.zero, i.size, i.bytes)) = some (some (.slice none 0 0), 1, 24)) : ∃ i, Try.prog.info? t = some i ∧ i.zero = some (.slice none 0 0) ∧ i.size = 1 ∧ i.bytes = 24 := by
  cases hq : Try.prog.info? t with
  | none => simp [hq] at h
  | some i =>
    simp only [hq, Option.map_some, Option.some.injEq, Prod.mk.injEq] at h
    exact ⟨i, rfl, h.1, h.2.1, h.2.2⟩
theorem greatest {p : Nat → Prop} : ∀ b, (∃ k, p k) → (∀ k, p k → k ≤ b) → ∃ r, p r ∧ ∀ k, p k → k ≤ r
  | 0, ⟨k, hk⟩, hb => ⟨k, hk, fun j hj => by have := hb k hk; have := hb j hj; omega⟩
  | b + 1, he, hb => by
    by_cases h : p (b + 1)
    · exact ⟨b + 1, h, hb⟩
    · exact greatest b he fun k hk => by
        have := hb k hk
        by_cases e : k = b + 1
        · subst e; exact absurd hk h
        · omega
theorem rk_exists (n m : Nat) (M : Nat → Nat → GF) : ∃ r, Rk n m M r := by
  obtain ⟨r, ⟨C, c1, c2⟩, h⟩ := greatest (p := fun k => ∃ C, cnt C m = k ∧ Ind all n C m M) m
    ⟨_, fun _ => false, rfl, fun x hs _ c hc => hs c hc rfl⟩ (fun k ⟨C, c1, _⟩ => by rw [← c1]; exact cnt_le C m)
  exact ⟨r, ⟨C, c1, c2⟩, fun D hD => h _ ⟨D, rfl, hD⟩⟩
theorem rk_left {n m : Nat} {A N : Nat → Nat → GF} {v w : Nat → GF} {r : Nat} {piv : Nat → Nat} (h : KerEq n (m + 1) (beside m A (fun i _ => v i)) (beside m N (fun i _ => w i))) (hN : Red n m N r piv) : Rk n m A r := by
  have e : ∀ D E : Nat → Nat → GF, KerEq n m (beside m D E) D := fun D E => KerEq.of_congr fun i _ c hc => by simp only [beside, if_pos hc]
  exact (((e A _).symm.trans (h.short (Nat.le_succ m))).trans (e N _)).rk hN.rk
theorem mat_snoc (F : Nat → Nat → GF) (i m : Nat) : mat F (i + 1) m = mat F i m ++ [fl m (F i)] := by
  unfold mat; rw [List.range_succ, List.map_append]; rfl
theorem fl_beside (m : Nat) (A : Nat → Nat → GF) (v : Nat → GF) (i : Nat) : fl (m + 1) (beside m A (fun j _ => v j) i) = fl m (A i) ++ [v i] := by
  unfold fl
  rw [List.range_succ, List.map_append]
  congr 1
  · exact List.map_congr_left fun c hc => by simp only [beside, if_pos (List.mem_range.1 hc)]
  · simp [beside]
theorem fl_row {M : List (List GF)} {m i : Nat} (h : (rw_ M i).length = m) : fl m (ent M i) = rw_ M i := by
  apply List.ext_getElem (by rw [length_fl, h])
  intro k h1 h2
  have e : ent M i k = co (rw_ M i) k := rfl
  simp only [fl, List.getElem_map, List.getElem_range, e]
  exact co_lt h2
theorem beside_row {M : List (List GF)} {m i : Nat} (h : (rw_ M i).length = m) (V : List GF) : fl (m + 1) (beside m (ent M) (fun j _ => co V j) i) = rw_ M i ++ [co V i] := by
  rw [fl_beside, fl_row h]
theorem ent_mat_beside {n m : Nat} (F : Nat → Nat → GF) : KerEq n m (ent (mat F n m)) F := KerEq.of_congr fun i hi c hc => ent_mat hi hc
theorem wide_mat' (F : Nat → Nat → GF) (n m : Nat) : Wide (mat F n m) m := wide_mat F n m
/-- How many aren't 0. -/
def nzL (l : List Int) : Nat := l.countP fun x => x != 0
theorem nzL_next {l : List Int} {k : Nat} (h : k < l.length) : nzL (l.take (k + 1)) = nzL (l.take k) + if l.getD k 0 != 0 then 1 else 0 := by
  unfold nzL
  rw [List.take_succ_eq_append_getElem h, List.countP_append, List.countP_singleton]
  congr 2
  simp [List.getD_eq_getElem?_getD, List.getElem?_eq_getElem h]
theorem nzL_set (l : List Int) (i : Nat) (x : Int) : nzL (l.set i x) ≤ nzL l + 1 := by
  unfold nzL
  by_cases h : i < l.length
  · rw [List.countP_set h]; split <;> split <;> omega
  · rw [List.set_eq_of_length_le (by omega)]; omega
theorem nzL_sol {n m : Nat} {N : Nat → Nat → GF} {piv : Nat → Nat} (u : Nat → GF) : ∀ r, (∀ t, t < r → piv t < m) → nzL (iL (fl m (solA piv u r))) ≤ r
  | 0, _ => by rw [solA_zero]; simp [nzL, iL, toI_zero, List.countP_replicate]
  | r + 1, h => by
    rw [← solA_step piv u m r (h r (by omega))]
    have := nzL_set (iL (fl m (solA piv u r))) (piv r) (toI (u r))
    have := nzL_sol (n := n) (N := N) u r (fun t ht => h t (by omega))
    omega
theorem times_solved {M : List (List GF)} {V : List GF} {n m : Nat} {N : Nat → Nat → GF} {r : Nat} {piv : Nat → Nat} (hl : M.length = n) (hw : Wide M m) (hV : V.length = n) (h : KerEq n (m + 1) (beside m (ent M) (fun i _ => co V i)) (beside m N (fun i _ => N i m))) (hN : Red n m N r piv) (hn : ∀ i, r ≤ i → i < n → N i m = 0) : timesL M (fl m (solA piv (fun i => N i m) r)) = V := by
  apply List.ext_getElem (by rw [length_timesL, hl, hV])
  intro i h1 h2
  have hi : i < n := by omega
  have e1 : (timesL M (fl m (solA piv (fun i => N i m) r)))[i] = co (timesL M (fl m (solA piv (fun i => N i m) r))) i := (co_lt h1).symm
  rw [e1, co_timesL (by omega), hw i (by omega), ← co_lt h2]
  rw [dt_congr fun c hc => by rw [co_fl, if_pos hc]]
  exact solved h hN hn hi
/-- A row of bytes more, behind rows of one's own. -/
theorem rows_more {w w1 w2 : World} {base : Nat} {v : Value} {n : Nat} {vs : List Value} {M : List (List GF)} (hv : w.ownsRow base 22 1 v n vs) (hr : RV w1 (T8 w1) vs M) (hg : w1.grownBy w2 v.ownBlock) (hb : w1.heap[v.ownBlock.getD 0]? = w.heap[v.ownBlock.getD 0]?) {P : List GF} {a : Option Addr} {c : Nat} (hp : Pa w1 a P.length c P) (hT : ∀ b off, a = some ⟨b, off, none⟩ → 0 < P.length → T8 w1 b) : RV w2 (T8 w2) (vs ++ [.slice a P.length c]) (M ++ [P]) := by
  have h1 := hr.more hp hT
  have hne : ∀ b, b < w1.heap.size → T8 w1 b → w2.heap[b]? = w1.heap[b]? := fun b hlt hT => by
    refine hg.block b hlt fun e => ?_
    rcases hv.2 with ⟨rfl, _⟩ | ⟨g, cap, cur, rfl, _, hh, _⟩
    · cases e
    · have e2 : b = g := by injection e
      subst e2
      obtain ⟨cur', fz, h2⟩ := hT
      rw [show ((Value.slice (some ⟨b, 0, none⟩) n cap).ownBlock).getD 0 = b from rfl] at hb
      rw [hb, hh] at h2
      injection h2 with h2
      injection h2 with _ h2 _
      exact absurd h2 (by decide)
  exact h1.keep hg.size fun b hlt ho => ⟨ho.keep (hne b hlt ho), hne b hlt ho⟩
theorem iL_snoc (X : List GF) (y : GF) : iL (X ++ [y]) = iL X ++ [toI y] := by simp [iL]
theorem news_one {w : World} {b : Nat} {v : Value} (h : w.cell? ⟨b, 0, none⟩ = some v) : ∀ j u, [v][j]? = some u → w.cell? ((⟨b, 0, none⟩ : Addr).add j) = some u := fun j u hj => by
  obtain rfl : j = 0 := (by have := (List.getElem?_eq_some_iff.1 hj).1; simp at this; omega)
  rw [Addr.add_lit, Nat.add_zero, ← hj]; exact h
theorem news_row {w : World} {b off n c : Nat} {P : List GF} (h : Pa w (some ⟨b, off, none⟩) n c P) : ∀ j u, ((iL P).map (Value.int .u8))[j]? = some u → w.cell? ((⟨b, off, none⟩ : Addr).add j) = some u := fun j u hj => by
  have hj' := getElem?_map_u8 hj
  obtain ⟨a, e, hc⟩ := h.1.2.2.1.cells (by rw [List.length_map]; omega)
  injection e with e
  subst e
  rw [hc j u hj]
set_option maxHeartbeats 8000000 in
theorem matrixSolves_walk (n k : Int) (a2 : Option Addr) (len2 cap2 : Nat) (a3 : Option Addr) (len3 cap3 : Nat) (w : World) (w0 : (Lit.int .i64 n).wf = true) (w1 : (Lit.int .i64 k).wf = true) (w2 : ∃ l, Arg8c w a2 len2 cap2 l) (w3 : ∃ l, Arg8c w a3 len3 cap3 l) :
    Calls Try.prog 3 #[.int .i64 n, .int .i64 k, .slice a2 len2 cap2, .slice a3 len3 cap3] w fun e w' => e = .returned (.bool true) ∧ Below w.heap.size w w' := by
  obtain ⟨l2, hl2⟩ := w2
  obtain ⟨l3, hl3⟩ := w3
  have HX := Lib.hid (Pa.of hl2)
  have HV := Lib.hid (Pa.of hl3)
  obtain ⟨X, hX⟩ : ∃ X, X = gL l2 := ⟨_, rfl⟩
  rw [← hX] at HX
  obtain ⟨V, hV⟩ : ∃ V, V = gL l3 := ⟨_, rfl⟩
  rw [← hV] at HV
  clear hX hl2 hV hl3 w0 w1
  have hvb := HV.out.bd
  obtain ⟨N, hN, hn⟩ := small_one n 4 (by omega) (by omega)
  obtain ⟨K, hK, hk⟩ := small_one k 4 (by omega) (by omega)
  have HN := Lib.hid hn
  have HK := Lib.hid hk
  clear hn hk
  obtain ⟨i5, hi5, hz0, hz1, hz2⟩ := info_parts info5
  have HI := Lib.hid (And.intro hi5 (And.intro hz0 (And.intro hz1 hz2)))
  clear hi5 hz0 hz1 hz2
  obtain ⟨i27, hi27, hy0, hy1, hy2⟩ := info_parts22 info22
  have HI27 := Lib.hid (And.intro hi27 (And.intro hy0 (And.intro hy1 hy2)))
  clear hi27 hy0 hy1 hy2
  go_enter Try.func3, Try.ntmps3
  go_upto_region 3 with (go_at_call 8; refine (livesM_any _).mono ?_; rintro e w1 ⟨rfl, hb1⟩; have HB1 := Lib.hid hb1; clear hb1)
  go_upto_region 4 with (fail)
  rw [HN.out, HK.out]
  go_upto_region 5 with (go_at_call 9; refine (new_any _).mono ?_; rintro e w2 ⟨fb, rfl, hb0, hf, hbel⟩; have HF := Lib.hid hf; have HB2 := Lib.hid (bt HB1.out hbel); clear hf hbel hb0)
  go_upto_region 6 with (go_at_call 10; go_loud (refine (square_any a2 len2 cap2 X N K _ (HX.out.on HB2.out) (by omega) (by omega)).mono ?_); rintro e w3 ⟨B3, rfl, hg3, hb3⟩; have HG3 := Lib.hid hg3; have HB3 := Lib.hid (bt HB2.out hb3); have HF3 := Lib.hid (HF.out.below hb3); clear hg3 hb3)
  have hwX := wide_sqM X K N
  obtain ⟨XM, hXM⟩ : ∃ XM, XM = sqM X K N := ⟨_, rfl⟩
  rw [← hXM] at HG3 hwX
  have HWX := Lib.hid hwX
  clear hXM hwX
  go_upto_region 7 with (go_at_call 11; go_loud (refine (new_ok _ N N K XM _ HG3.out.mat HWX.out (by omega) (by omega)).mono ?_); rintro e w4 ⟨m4, rfl, hm4, hb4⟩; have HM4 := Lib.hid hm4; have HB4 := Lib.hid (bt HB3.out hb4); have HF4 := Lib.hid (HF3.out.below hb4); have HG4 := Lib.hid (HG3.out.on hb4); clear hm4 hb4)
  by_cases hlen : len3 = N
  · subst hlen
    have qn : ((len3 : Int) != (len3 : Int)) = false := by simp
    have hsol := solve_any m4 len3 K XM fb a3 cap3 V w4 HM4.out HF4.out (HV.out.on HB4.out) (by omega)
    have HS := Lib.hid hsol
    clear hsol
    go_upto_region 8 with (go_at_call 12; go_loud (refine HS.out.mono ?_); rintro e w5 ⟨hp5, hb5⟩; unfold SolP at hp5; obtain ⟨r, Nm, piv, hred, hker, hways⟩ := hp5; rcases hways with ⟨hx, rfl⟩ | ⟨hx, g, rfl, ho⟩; all_goals ( have HRK := Lib.hid (And.intro hred hker); have HB5 := Lib.hid (bt HB4.out hb5); have HF5 := Lib.hid (HF4.out.below hb5); have HG5 := Lib.hid (HG4.out.on hb5); have HM5 := Lib.hid (HM4.out.on hb5); have HBV := Lib.hid hb5; have HXX := Lib.hid hx; clear hred hker hb5 hx))
    all_goals obtain ⟨F, hF⟩ : ∃ F, beside K (ent XM) (fun j _ => co V j) = F := ⟨_, rfl⟩
    · have HF0 := Lib.hid hF
      clear hF
      go_upto_region 12 with (fail)
      go_loopw [15, 71] (fun more s wr => ∃ i : Nat, i ≤ len3 ∧ s = .int .i64 (i : Nat) ∧ (∃ vs, wr.ownsRow w5.heap.size 22 1 more i vs ∧ RV wr (T8 wr) vs (mat F i (K + 1))) ∧ Below w5.heap.size w5 wr) (fun _ s _ => len3 - (intOf s).toNat)
      case atStart => exact ⟨0, Nat.zero_le _, rfl, ⟨[], World.ownsRow_nil _ _ _ _, RV.nil _ _⟩, Below.refl _ _⟩
      case round =>
        obtain ⟨i, hi, rfl, ⟨vs, hvs1, hvs2⟩, hBi⟩ := hrel
        have HBI := Lib.hid hBi
        have HVS := Lib.hid (And.intro hvs1 hvs2)
        clear hBi hvs1 hvs2
        rename World => wr
        by_cases hlt : i < len3
        · obtain ⟨ai, ci, hcell0, hpa0, _⟩ := HG5.out.row hlt
          have HLR := Lib.hid (HWX.out i (by rw [HG5.out.len]; exact hlt))
          rw [HLR.out] at hcell0 hpa0
          obtain ⟨br, offr, rfl, hbr, _⟩ := hpa0.at_ (k := 0) (by omega)
          have hpb := hpa0.bd
          have HCR := Lib.hid (fun (W : World) (hW : Below w5.heap.size w5 W) => news_row (hpa0.on hW))
          have hcell := (HBI.out.cell (p := ⟨B3, i, none⟩) HG5.out.lt.2).trans hcell0
          obtain ⟨bv, ov, rfl, hbv, hcv⟩ := (HV.out.on HB5.out).at_ hlt
          have HCV := Lib.hid (fun (W : World) (hW : Below w5.heap.size w5 W) => (hW.cell (p := ⟨bv, ov + i, none⟩) hbv).trans hcv)
          have qi : (i : Int) < (len3 : Int) := by omega
          have qi0 : (0 : Int) ≤ (i : Int) := by omega
          clear hcell0 hpa0 hcv
          go_upto_region 14 with (fail)
          refine wp_region_held_drew (S := fun W => Below w5.heap.size w5 W) (by kernel_rfl) HBI.out.drew (fun hHeld => ?_)
          obtain ⟨W0, hW0⟩ : ∃ W, W = wr.drew := ⟨_, rfl⟩
          rw [← hW0] at hHeld ⊢
          have HEW0 := Lib.hid (show Below w5.heap.size w5 W0 by rw [hW0]; exact HBI.out.drew)
          have HAW0 := Lib.hid (show Below wr.heap.size wr W0 by rw [hW0]; exact (Below.refl _ _).drew)
          clear hW0
          refine wpAnyH_take (i := 0) (v := ?v0_2) rfl (by kernel_rfl) (by kernel_rfl) (by kernel_rfl) (fun _ _ _ h => h) (Or.inl ⟨by rfl, ?hy0_2⟩) hHeld ?rest0_2
          case hy0_2 =>
            intro W' hV
            try dsimp only at hV
            go_simp
            all_goals with_reducible rfl
          case' rest0_2 => try simp only [Act.put, List.setIfInBounds_toArray, List.set_cons_zero, List.set_cons_succ]
          refine wpAnyH_take (i := 2) (v := ?v2_2) rfl (by kernel_rfl) (by kernel_rfl) (by kernel_rfl) (fun _ _ _ h => h) (Or.inl ⟨by rfl, ?hy2_2⟩) hHeld ?rest2_2
          case hy2_2 =>
            intro W' hV
            try dsimp only at hV
            go_simp
            all_goals with_reducible rfl
          case' rest2_2 => try simp only [Act.put, List.setIfInBounds_toArray, List.set_cons_zero, List.set_cons_succ]
          refine wpAnyH_take (i := 4) (v := ?v4_2) rfl (by kernel_rfl) (by kernel_rfl) (by kernel_rfl) (fun _ _ _ h => h) (Or.inl ⟨by rfl, ?hy4_2⟩) hHeld ?rest4_2
          case hy4_2 =>
            intro W' hV
            try dsimp only at hV
            go_simp
            all_goals with_reducible rfl
          case' rest4_2 => try simp only [Act.put, List.setIfInBounds_toArray, List.set_cons_zero, List.set_cons_succ]
          refine wpAnyH_take (i := 5) (v := ?v5_2) rfl (by kernel_rfl) (by kernel_rfl) (by kernel_rfl) (fun _ _ _ h => h) (Or.inl ⟨by rfl, ?hy5_2⟩) hHeld ?rest5_2
          case hy5_2 =>
            intro W' hV
            try dsimp only at hV
            go_simp
            all_goals with_reducible rfl
          case' rest5_2 => try simp only [Act.put, List.setIfInBounds_toArray, List.set_cons_zero, List.set_cons_succ]
          refine wpAnyH_take (i := 6) (v := ?v6_2) rfl (by kernel_rfl) (by kernel_rfl) (by kernel_rfl) (fun _ _ _ h => h) (Or.inl ⟨by rfl, ?hy6_2⟩) hHeld ?rest6_2
          case hy6_2 =>
            intro W' hV
            try dsimp only at hV
            go_simp
            all_goals with_reducible rfl
          case' rest6_2 => try simp only [Act.put, List.setIfInBounds_toArray, List.set_cons_zero, List.set_cons_succ]
          refine wpAnyH_take (i := 7) (v := ?v7_2) rfl (by kernel_rfl) (by kernel_rfl) (by kernel_rfl) (fun _ _ _ h => h) (Or.inl ⟨by rfl, ?hy7_2⟩) hHeld ?rest7_2
          case hy7_2 =>
            intro W' hV
            try dsimp only at hV
            have hcv2 := HCV.out W' hV
            go_simp
            all_goals with_reducible rfl
          case' rest7_2 => try simp only [Act.put, List.setIfInBounds_toArray, List.set_cons_zero, List.set_cons_succ]
          refine wpAnyH_ready (rs := [1, 8]) (by kernel_rfl) (by simp) ?_
          refine AllReadyH.cons rfl (fun K' hK => ?_) (AllReadyH.cons rfl (fun K' hK => ?_) AllReadyH.nil)
          · go_simp
            obtain ⟨b77, hb77⟩ : ∃ b, b = W0.heap.size := ⟨_, rfl⟩
            obtain ⟨W1, hW1⟩ : ∃ W, W = W0.alloc (.cells #[] 5) := ⟨_, rfl⟩
            rw [← hW1, ← hb77]
            have HAW1 := Lib.hid (show Below wr.heap.size wr W1 by rw [hW1]; exact HAW0.out.alloc HAW0.out.size _)
            have HEW1 := Lib.hid (show Below w5.heap.size w5 W1 by rw [hW1]; exact HEW0.out.alloc HEW0.out.size _)
            have HL77 := Lib.hid (show wr.heap.size ≤ b77 by rw [hb77]; exact HAW0.out.size)
            have HO77W1 := Lib.hid (show W1.ownsRow b77 5 1 (.slice (some ⟨b77, 0, none⟩) 0 0) 0 (([] : List Int).map (Value.int .u8)) by rw [hW1, hb77]; exact own_empty _ _)
            clear hW1 hb77
            refine hK.out _ _ HEW1.out (fun hHeld1 => ?_)
            clear hK K' hHeld
            have hHeld := hHeld1
            clear hHeld1
            refine wpAnyH_ready (rs := [3, 8]) (by kernel_rfl) (by simp) ?_
            refine AllReadyH.cons rfl (fun K' hK => ?_) (AllReadyH.cons rfl (fun K' hK => ?_) AllReadyH.nil)
            · rw [if_pos (by rfl)]
              refine wp_append_lies (w := W1) (.tmp 77) (.tmp 78) 22 rfl b77 5 i5 (.int .u8 0) 1 1 Try.underlying22 HI.out.1 HI.out.2.1 HI.out.2.2.1 HI.out.2.2.2 rfl (by decide) (.slice (some ⟨b77, 0, none⟩) 0 0) 0 (([] : List Int).map (Value.int .u8)) (by rfl) HO77W1.out ⟨br, offr, none⟩ K ci ((iL (rw_ XM i)).map (Value.int .u8)) (by rfl) (by rw [List.length_map, length_iL, HLR.out, Nat.mul_one]) (HCR.out W1 HEW1.out) (ints_oneCell _ _) (by omega) (by unfold maxLen; omega) (by omega) (Nat.le_of_lt (HO77W1.out.lt b77 rfl).2) _ rfl ?_
              intro g79 c79 W2 hown1 hg1 _ hlt1
              rw [Nat.zero_add, ← List.map_append, List.nil_append] at hown1
              have HO79W2 := Lib.hid hown1
              have HAW2 := Lib.hid (HAW1.out.grown hg1 HAW1.out.size (fun z hz => by injection hz with hz; rw [← hz]; exact HL77.out))
              have HEW2 := Lib.hid (HEW1.out.grown hg1 HEW1.out.size (fun z hz => by injection hz with hz; rw [← hz]; exact Nat.le_trans HBI.out.size HL77.out))
              clear hown1 hg1 hlt1
              try simp only [Nat.zero_add]
              refine hK.out _ _ HEW2.out (fun hHeld1 => ?_)
              clear hK K' hHeld
              have hHeld := hHeld1
              clear hHeld1
              refine wpAnyH_ready (rs := [8]) (by kernel_rfl) (by simp) ?_
              refine AllReadyH.cons rfl (fun K' hK => ?_) AllReadyH.nil
              go_simp
              obtain ⟨b84, hb84⟩ : ∃ b, b = W2.heap.size := ⟨_, rfl⟩
              obtain ⟨W3, hW3⟩ : ∃ W, W = W2.alloc (.cells #[.int .u8 (toI (co V i))] 5) := ⟨_, rfl⟩
              rw [← hW3, ← hb84]
              have HAW3 := Lib.hid (show Below wr.heap.size wr W3 by rw [hW3]; exact HAW2.out.alloc HAW2.out.size _)
              have HEW3 := Lib.hid (show Below w5.heap.size w5 W3 by rw [hW3]; exact HEW2.out.alloc HEW2.out.size _)
              have HC84W3 := Lib.hid (show W3.cell? ⟨b84, 0, none⟩ = some (.int .u8 (toI (co V i))) by rw [hW3, hb84, World.cell?_alloc_new]; rfl)
              have HO79W3 := Lib.hid (show W3.ownsRow b77 5 1 (.slice (some ⟨g79, 0, none⟩) K c79) K ((iL (rw_ XM i)).map (Value.int .u8)) by rw [hW3]; exact own_below HO79W2.out ((Below.refl _ _).alloc (Nat.le_refl _) _))
              clear hW3 hb84
              refine hK.out _ _ HEW3.out (fun hHeld1 => ?_)
              clear hK K' hHeld
              have hHeld := hHeld1
              clear hHeld1
              refine wpAnyH_ready (rs := [9]) (by kernel_rfl) (by simp) ?_
              refine AllReadyH.cons rfl (fun K' hK => ?_) AllReadyH.nil
              rw [if_pos (by rfl)]
              refine wp_append_lies (w := W3) (.tmp 79) (.tmp 84) 22 rfl b77 5 i5 (.int .u8 0) 1 1 Try.underlying22 HI.out.1 HI.out.2.1 HI.out.2.2.1 HI.out.2.2.2 rfl (by decide) (.slice (some ⟨g79, 0, none⟩) K c79) K ((iL (rw_ XM i)).map (Value.int .u8)) (by rfl) HO79W3.out ⟨b84, 0, none⟩ 1 1 ([toI (co V i)].map (Value.int .u8)) (by rfl) (by rfl) (news_one HC84W3.out) (ints_oneCell _ _) (by omega) (by unfold maxLen; omega) (by omega) (Nat.le_of_lt (Nat.lt_of_le_of_lt (HO79W3.out.lt g79 rfl).1 (HO79W3.out.lt g79 rfl).2)) _ rfl ?_
              intro g85 c85 W9 hown1 hg1 _ hlt1
              rw [← List.map_append] at hown1
              have HO85W9 := Lib.hid hown1
              have HAW9 := Lib.hid (HAW3.out.grown hg1 HAW3.out.size (fun z hz => by injection hz with hz; rw [← hz]; exact Nat.le_trans HL77.out (HO79W3.out.lt g79 rfl).1))
              have HEW9 := Lib.hid (HEW3.out.grown hg1 HEW3.out.size (fun z hz => by injection hz with hz; rw [← hz]; exact Nat.le_trans (Nat.le_trans HBI.out.size HL77.out) (HO79W3.out.lt g79 rfl).1))
              clear hown1 hg1 hlt1
              refine hK.out _ _ HEW9.out (fun hHeld1 => ?_)
              clear hK K' hHeld
              have hHeld := hHeld1
              clear hHeld1
              refine wpAnyH_ready (rs := [10]) (by kernel_rfl) (by simp) ?_
              refine AllReadyH.cons rfl (fun K' hK => ?_) AllReadyH.nil
              go_simp
              obtain ⟨b86, hb86⟩ : ∃ b, b = W9.heap.size := ⟨_, rfl⟩
              obtain ⟨W10, hW10⟩ : ∃ W, W = W9.alloc (.cells #[.slice (some ⟨g85, 0, none⟩) (K + 1) c85] 22) := ⟨_, rfl⟩
              rw [← hW10, ← hb86]
              have HAW10 := Lib.hid (show Below wr.heap.size wr W10 by rw [hW10]; exact HAW9.out.alloc HAW9.out.size _)
              have HEW10 := Lib.hid (show Below w5.heap.size w5 W10 by rw [hW10]; exact HEW9.out.alloc HEW9.out.size _)
              have HC86 := Lib.hid (show W10.cell? ⟨b86, 0, none⟩ = some (.slice (some ⟨g85, 0, none⟩) (K + 1) c85) by rw [hW10, hb86, World.cell?_alloc_new]; rfl)
              have HO85W10 := Lib.hid (show W10.ownsRow b77 5 1 (.slice (some ⟨g85, 0, none⟩) (K + 1) c85) (K + 1) ((iL (rw_ XM i) ++ [toI (co V i)]).map (Value.int .u8)) by rw [hW10]; exact own_below HO85W9.out ((Below.refl _ _).alloc (Nat.le_refl _) _))
              clear hW10 hb86
              refine hK.out _ _ HEW10.out (fun hHeld1 => ?_)
              clear hK K' hHeld
              have hHeld := hHeld1
              clear hHeld1
              refine wpAnyH_ready (rs := [11]) (by kernel_rfl) (by simp) ?_
              refine AllReadyH.cons rfl (fun K' hK => ?_) AllReadyH.nil
              rw [if_pos (by rfl)]
              have HOV := Lib.hid (own_below HVS.out.1 HAW10.out)
              have HRV := Lib.hid (HVS.out.2.keep HAW10.out.size fun b hlt ho => ⟨ho.keep (HAW10.out.block b hlt), HAW10.out.block b hlt⟩)
              refine wp_append_lies (w := W10) (.tmp 76) (.tmp 86) 27 rfl w5.heap.size 22 i27 (.slice none 0 0) 1 24 Try.underlying27 HI27.out.1 HI27.out.2.1 HI27.out.2.2.1 HI27.out.2.2.2 rfl (by decide) u15 i vs (by rfl) HOV.out ⟨b86, 0, none⟩ 1 1 [.slice (some ⟨g85, 0, none⟩) (K + 1) c85] (by rfl) (by rfl) (news_one HC86.out) (fun u hu => by simp at hu; rw [hu]; rfl) (by omega) (by unfold maxLen; omega) (by omega) HEW10.out.size _ rfl ?_
              intro g87 c87 W11 hown1 hg1 _ hlt1
              have HOW := Lib.hid hown1
              have HRW := Lib.hid (rows_more HOV.out HRV.out hg1 rfl (P := rw_ XM i ++ [co V i]) (a := some ⟨g85, 0, none⟩) (c := c85) (by rw [List.length_append, HLR.out]; exact Pa.own2 (by rw [iL_snoc]; exact HO85W10.out)) (fun b off e _ => by injection e with e; injection e with e; rw [← e]; exact own_t8 HO85W10.out))
              have HEW11 := Lib.hid (HEW10.out.grown hg1 HEW10.out.size (fun z hz => (HOV.out.lt z hz).1))
              clear hown1 hg1 hlt1
              refine hK.out _ _ HEW11.out (fun hHeld1 => ?_)
              clear hK K' hHeld
              have hHeld := hHeld1
              clear hHeld1
              refine wpAnyH_take (i := 12) (v := ?v12_0) rfl (by kernel_rfl) (by kernel_rfl) (by kernel_rfl) (fun _ _ _ h => h) (Or.inl ⟨by rfl, ?hy12_0⟩) hHeld ?rest12_0
              case hy12_0 =>
                intro W' hV
                try dsimp only at hV
                go_simp
                all_goals with_reducible rfl
              case' rest12_0 => try simp only [Act.put, List.setIfInBounds_toArray, List.set_cons_zero, List.set_cons_succ]
              refine wpAnyH_done (by kernel_rfl) ?_ _
              clear hHeld
              go_wp2
              go_roundw
              case rel => exact ⟨i + 1, by omega, by go_num, ⟨_, HOW.out, by have h := HRW.out; rw [List.length_append, HLR.out, List.length_singleton] at h; rw [mat_snoc, show fl (K + 1) (F i) = rw_ XM i ++ [co V i] by rw [← HF0.out, beside_row HLR.out]]; exact h⟩, HEW11.out⟩
              case measure => simp [intOf]; omega
            · go_simp
              obtain ⟨b84, hb84⟩ : ∃ b, b = W1.heap.size := ⟨_, rfl⟩
              obtain ⟨W2, hW2⟩ : ∃ W, W = W1.alloc (.cells #[.int .u8 (toI (co V i))] 5) := ⟨_, rfl⟩
              rw [← hW2, ← hb84]
              have HAW2 := Lib.hid (show Below wr.heap.size wr W2 by rw [hW2]; exact HAW1.out.alloc HAW1.out.size _)
              have HEW2 := Lib.hid (show Below w5.heap.size w5 W2 by rw [hW2]; exact HEW1.out.alloc HEW1.out.size _)
              have HC84W2 := Lib.hid (show W2.cell? ⟨b84, 0, none⟩ = some (.int .u8 (toI (co V i))) by rw [hW2, hb84, World.cell?_alloc_new]; rfl)
              have HNE := Lib.hid (show b84 ≠ b77 by have := (HO77W1.out.lt b77 rfl).2; omega)
              have HO77W2 := Lib.hid (show W2.ownsRow b77 5 1 (.slice (some ⟨b77, 0, none⟩) 0 0) 0 (([] : List Int).map (Value.int .u8)) by rw [hW2]; exact own_below HO77W1.out ((Below.refl _ _).alloc (Nat.le_refl _) _))
              clear hW2 hb84
              refine hK.out _ _ HEW2.out (fun hHeld1 => ?_)
              clear hK K' hHeld
              have hHeld := hHeld1
              clear hHeld1
              refine wpAnyH_ready (rs := [3]) (by kernel_rfl) (by simp) ?_
              refine AllReadyH.cons rfl (fun K' hK => ?_) AllReadyH.nil
              rw [if_pos (by rfl)]
              refine wp_append_lies (w := W2) (.tmp 77) (.tmp 78) 22 rfl b77 5 i5 (.int .u8 0) 1 1 Try.underlying22 HI.out.1 HI.out.2.1 HI.out.2.2.1 HI.out.2.2.2 rfl (by decide) (.slice (some ⟨b77, 0, none⟩) 0 0) 0 (([] : List Int).map (Value.int .u8)) (by rfl) HO77W2.out ⟨br, offr, none⟩ K ci ((iL (rw_ XM i)).map (Value.int .u8)) (by rfl) (by rw [List.length_map, length_iL, HLR.out, Nat.mul_one]) (HCR.out W2 HEW2.out) (ints_oneCell _ _) (by omega) (by unfold maxLen; omega) (by omega) (Nat.le_of_lt (HO77W2.out.lt b77 rfl).2) _ rfl ?_
              intro g79 c79 W3 hown1 hg1 _ hlt1
              rw [Nat.zero_add, ← List.map_append, List.nil_append] at hown1
              have HO79W3 := Lib.hid hown1
              have HAW3 := Lib.hid (HAW2.out.grown hg1 HAW2.out.size (fun z hz => by injection hz with hz; rw [← hz]; exact HL77.out))
              have HEW3 := Lib.hid (HEW2.out.grown hg1 HEW2.out.size (fun z hz => by injection hz with hz; rw [← hz]; exact Nat.le_trans HBI.out.size HL77.out))
              have HC84W3 := Lib.hid (show W3.cell? ⟨b84, 0, none⟩ = some (.int .u8 (toI (co V i))) from hg1.cell HC84W2.out (fun e => HNE.out (by injection e)))
              clear hown1 hg1 hlt1
              try simp only [Nat.zero_add]
              refine hK.out _ _ HEW3.out (fun hHeld1 => ?_)
              clear hK K' hHeld
              have hHeld := hHeld1
              clear hHeld1
              refine wpAnyH_ready (rs := [9]) (by kernel_rfl) (by simp) ?_
              refine AllReadyH.cons rfl (fun K' hK => ?_) AllReadyH.nil
              rw [if_pos (by rfl)]
              refine wp_append_lies (w := W3) (.tmp 79) (.tmp 84) 22 rfl b77 5 i5 (.int .u8 0) 1 1 Try.underlying22 HI.out.1 HI.out.2.1 HI.out.2.2.1 HI.out.2.2.2 rfl (by decide) (.slice (some ⟨g79, 0, none⟩) K c79) K ((iL (rw_ XM i)).map (Value.int .u8)) (by rfl) HO79W3.out ⟨b84, 0, none⟩ 1 1 ([toI (co V i)].map (Value.int .u8)) (by rfl) (by rfl) (news_one HC84W3.out) (ints_oneCell _ _) (by omega) (by unfold maxLen; omega) (by omega) (Nat.le_of_lt (Nat.lt_of_le_of_lt (HO79W3.out.lt g79 rfl).1 (HO79W3.out.lt g79 rfl).2)) _ rfl ?_
              intro g85 c85 W9 hown1 hg1 _ hlt1
              rw [← List.map_append] at hown1
              have HO85W9 := Lib.hid hown1
              have HAW9 := Lib.hid (HAW3.out.grown hg1 HAW3.out.size (fun z hz => by injection hz with hz; rw [← hz]; exact Nat.le_trans HL77.out (HO79W3.out.lt g79 rfl).1))
              have HEW9 := Lib.hid (HEW3.out.grown hg1 HEW3.out.size (fun z hz => by injection hz with hz; rw [← hz]; exact Nat.le_trans (Nat.le_trans HBI.out.size HL77.out) (HO79W3.out.lt g79 rfl).1))
              clear hown1 hg1 hlt1
              refine hK.out _ _ HEW9.out (fun hHeld1 => ?_)
              clear hK K' hHeld
              have hHeld := hHeld1
              clear hHeld1
              refine wpAnyH_ready (rs := [10]) (by kernel_rfl) (by simp) ?_
              refine AllReadyH.cons rfl (fun K' hK => ?_) AllReadyH.nil
              go_simp
              obtain ⟨b86, hb86⟩ : ∃ b, b = W9.heap.size := ⟨_, rfl⟩
              obtain ⟨W10, hW10⟩ : ∃ W, W = W9.alloc (.cells #[.slice (some ⟨g85, 0, none⟩) (K + 1) c85] 22) := ⟨_, rfl⟩
              rw [← hW10, ← hb86]
              have HAW10 := Lib.hid (show Below wr.heap.size wr W10 by rw [hW10]; exact HAW9.out.alloc HAW9.out.size _)
              have HEW10 := Lib.hid (show Below w5.heap.size w5 W10 by rw [hW10]; exact HEW9.out.alloc HEW9.out.size _)
              have HC86 := Lib.hid (show W10.cell? ⟨b86, 0, none⟩ = some (.slice (some ⟨g85, 0, none⟩) (K + 1) c85) by rw [hW10, hb86, World.cell?_alloc_new]; rfl)
              have HO85W10 := Lib.hid (show W10.ownsRow b77 5 1 (.slice (some ⟨g85, 0, none⟩) (K + 1) c85) (K + 1) ((iL (rw_ XM i) ++ [toI (co V i)]).map (Value.int .u8)) by rw [hW10]; exact own_below HO85W9.out ((Below.refl _ _).alloc (Nat.le_refl _) _))
              clear hW10 hb86
              refine hK.out _ _ HEW10.out (fun hHeld1 => ?_)
              clear hK K' hHeld
              have hHeld := hHeld1
              clear hHeld1
              refine wpAnyH_ready (rs := [11]) (by kernel_rfl) (by simp) ?_
              refine AllReadyH.cons rfl (fun K' hK => ?_) AllReadyH.nil
              rw [if_pos (by rfl)]
              have HOV := Lib.hid (own_below HVS.out.1 HAW10.out)
              have HRV := Lib.hid (HVS.out.2.keep HAW10.out.size fun b hlt ho => ⟨ho.keep (HAW10.out.block b hlt), HAW10.out.block b hlt⟩)
              refine wp_append_lies (w := W10) (.tmp 76) (.tmp 86) 27 rfl w5.heap.size 22 i27 (.slice none 0 0) 1 24 Try.underlying27 HI27.out.1 HI27.out.2.1 HI27.out.2.2.1 HI27.out.2.2.2 rfl (by decide) u15 i vs (by rfl) HOV.out ⟨b86, 0, none⟩ 1 1 [.slice (some ⟨g85, 0, none⟩) (K + 1) c85] (by rfl) (by rfl) (news_one HC86.out) (fun u hu => by simp at hu; rw [hu]; rfl) (by omega) (by unfold maxLen; omega) (by omega) HEW10.out.size _ rfl ?_
              intro g87 c87 W11 hown1 hg1 _ hlt1
              have HOW := Lib.hid hown1
              have HRW := Lib.hid (rows_more HOV.out HRV.out hg1 rfl (P := rw_ XM i ++ [co V i]) (a := some ⟨g85, 0, none⟩) (c := c85) (by rw [List.length_append, HLR.out]; exact Pa.own2 (by rw [iL_snoc]; exact HO85W10.out)) (fun b off e _ => by injection e with e; injection e with e; rw [← e]; exact own_t8 HO85W10.out))
              have HEW11 := Lib.hid (HEW10.out.grown hg1 HEW10.out.size (fun z hz => (HOV.out.lt z hz).1))
              clear hown1 hg1 hlt1
              refine hK.out _ _ HEW11.out (fun hHeld1 => ?_)
              clear hK K' hHeld
              have hHeld := hHeld1
              clear hHeld1
              refine wpAnyH_take (i := 12) (v := ?v12_1) rfl (by kernel_rfl) (by kernel_rfl) (by kernel_rfl) (fun _ _ _ h => h) (Or.inl ⟨by rfl, ?hy12_1⟩) hHeld ?rest12_1
              case hy12_1 =>
                intro W' hV
                try dsimp only at hV
                go_simp
                all_goals with_reducible rfl
              case' rest12_1 => try simp only [Act.put, List.setIfInBounds_toArray, List.set_cons_zero, List.set_cons_succ]
              refine wpAnyH_done (by kernel_rfl) ?_ _
              clear hHeld
              go_wp2
              go_roundw
              case rel => exact ⟨i + 1, by omega, by go_num, ⟨_, HOW.out, by have h := HRW.out; rw [List.length_append, HLR.out, List.length_singleton] at h; rw [mat_snoc, show fl (K + 1) (F i) = rw_ XM i ++ [co V i] by rw [← HF0.out, beside_row HLR.out]]; exact h⟩, HEW11.out⟩
              case measure => simp [intOf]; omega
          · go_simp
            obtain ⟨b84, hb84⟩ : ∃ b, b = W0.heap.size := ⟨_, rfl⟩
            obtain ⟨W1, hW1⟩ : ∃ W, W = W0.alloc (.cells #[.int .u8 (toI (co V i))] 5) := ⟨_, rfl⟩
            rw [← hW1, ← hb84]
            have HAW1 := Lib.hid (show Below wr.heap.size wr W1 by rw [hW1]; exact HAW0.out.alloc HAW0.out.size _)
            have HEW1 := Lib.hid (show Below w5.heap.size w5 W1 by rw [hW1]; exact HEW0.out.alloc HEW0.out.size _)
            have HC84W1 := Lib.hid (show W1.cell? ⟨b84, 0, none⟩ = some (.int .u8 (toI (co V i))) by rw [hW1, hb84, World.cell?_alloc_new]; rfl)
            clear hW1 hb84
            refine hK.out _ _ HEW1.out (fun hHeld1 => ?_)
            clear hK K' hHeld
            have hHeld := hHeld1
            clear hHeld1
            refine wpAnyH_ready (rs := [1]) (by kernel_rfl) (by simp) ?_
            refine AllReadyH.cons rfl (fun K' hK => ?_) AllReadyH.nil
            go_simp
            obtain ⟨b77, hb77⟩ : ∃ b, b = W1.heap.size := ⟨_, rfl⟩
            obtain ⟨W2, hW2⟩ : ∃ W, W = W1.alloc (.cells #[] 5) := ⟨_, rfl⟩
            rw [← hW2, ← hb77]
            have HAW2 := Lib.hid (show Below wr.heap.size wr W2 by rw [hW2]; exact HAW1.out.alloc HAW1.out.size _)
            have HEW2 := Lib.hid (show Below w5.heap.size w5 W2 by rw [hW2]; exact HEW1.out.alloc HEW1.out.size _)
            have HL77 := Lib.hid (show wr.heap.size ≤ b77 by rw [hb77]; exact HAW1.out.size)
            have HO77W2 := Lib.hid (show W2.ownsRow b77 5 1 (.slice (some ⟨b77, 0, none⟩) 0 0) 0 (([] : List Int).map (Value.int .u8)) by rw [hW2, hb77]; exact own_empty _ _)
            have HC84W2 := Lib.hid (show W2.cell? ⟨b84, 0, none⟩ = some (.int .u8 (toI (co V i))) by rw [hW2]; exact (((Below.refl W1.heap.size W1).alloc (Nat.le_refl _) _).cell (p := ⟨b84, 0, none⟩) (World.block_lt_of_cell? _ _ HC84W1.out)).trans HC84W1.out)
            have HNE := Lib.hid (show b84 ≠ b77 by have := World.block_lt_of_cell? _ _ HC84W1.out; simp at this; omega)
            clear hW2 hb77
            refine hK.out _ _ HEW2.out (fun hHeld1 => ?_)
            clear hK K' hHeld
            have hHeld := hHeld1
            clear hHeld1
            refine wpAnyH_ready (rs := [3]) (by kernel_rfl) (by simp) ?_
            refine AllReadyH.cons rfl (fun K' hK => ?_) AllReadyH.nil
            rw [if_pos (by rfl)]
            refine wp_append_lies (w := W2) (.tmp 77) (.tmp 78) 22 rfl b77 5 i5 (.int .u8 0) 1 1 Try.underlying22 HI.out.1 HI.out.2.1 HI.out.2.2.1 HI.out.2.2.2 rfl (by decide) (.slice (some ⟨b77, 0, none⟩) 0 0) 0 (([] : List Int).map (Value.int .u8)) (by rfl) HO77W2.out ⟨br, offr, none⟩ K ci ((iL (rw_ XM i)).map (Value.int .u8)) (by rfl) (by rw [List.length_map, length_iL, HLR.out, Nat.mul_one]) (HCR.out W2 HEW2.out) (ints_oneCell _ _) (by omega) (by unfold maxLen; omega) (by omega) (Nat.le_of_lt (HO77W2.out.lt b77 rfl).2) _ rfl ?_
            intro g79 c79 W3 hown1 hg1 _ hlt1
            rw [Nat.zero_add, ← List.map_append, List.nil_append] at hown1
            have HO79W3 := Lib.hid hown1
            have HAW3 := Lib.hid (HAW2.out.grown hg1 HAW2.out.size (fun z hz => by injection hz with hz; rw [← hz]; exact HL77.out))
            have HEW3 := Lib.hid (HEW2.out.grown hg1 HEW2.out.size (fun z hz => by injection hz with hz; rw [← hz]; exact Nat.le_trans HBI.out.size HL77.out))
            have HC84W3 := Lib.hid (show W3.cell? ⟨b84, 0, none⟩ = some (.int .u8 (toI (co V i))) from hg1.cell HC84W2.out (fun e => HNE.out (by injection e)))
            clear hown1 hg1 hlt1
            try simp only [Nat.zero_add]
            refine hK.out _ _ HEW3.out (fun hHeld1 => ?_)
            clear hK K' hHeld
            have hHeld := hHeld1
            clear hHeld1
            refine wpAnyH_ready (rs := [9]) (by kernel_rfl) (by simp) ?_
            refine AllReadyH.cons rfl (fun K' hK => ?_) AllReadyH.nil
            rw [if_pos (by rfl)]
            refine wp_append_lies (w := W3) (.tmp 79) (.tmp 84) 22 rfl b77 5 i5 (.int .u8 0) 1 1 Try.underlying22 HI.out.1 HI.out.2.1 HI.out.2.2.1 HI.out.2.2.2 rfl (by decide) (.slice (some ⟨g79, 0, none⟩) K c79) K ((iL (rw_ XM i)).map (Value.int .u8)) (by rfl) HO79W3.out ⟨b84, 0, none⟩ 1 1 ([toI (co V i)].map (Value.int .u8)) (by rfl) (by rfl) (news_one HC84W3.out) (ints_oneCell _ _) (by omega) (by unfold maxLen; omega) (by omega) (Nat.le_of_lt (Nat.lt_of_le_of_lt (HO79W3.out.lt g79 rfl).1 (HO79W3.out.lt g79 rfl).2)) _ rfl ?_
            intro g85 c85 W9 hown1 hg1 _ hlt1
            rw [← List.map_append] at hown1
            have HO85W9 := Lib.hid hown1
            have HAW9 := Lib.hid (HAW3.out.grown hg1 HAW3.out.size (fun z hz => by injection hz with hz; rw [← hz]; exact Nat.le_trans HL77.out (HO79W3.out.lt g79 rfl).1))
            have HEW9 := Lib.hid (HEW3.out.grown hg1 HEW3.out.size (fun z hz => by injection hz with hz; rw [← hz]; exact Nat.le_trans (Nat.le_trans HBI.out.size HL77.out) (HO79W3.out.lt g79 rfl).1))
            clear hown1 hg1 hlt1
            refine hK.out _ _ HEW9.out (fun hHeld1 => ?_)
            clear hK K' hHeld
            have hHeld := hHeld1
            clear hHeld1
            refine wpAnyH_ready (rs := [10]) (by kernel_rfl) (by simp) ?_
            refine AllReadyH.cons rfl (fun K' hK => ?_) AllReadyH.nil
            go_simp
            obtain ⟨b86, hb86⟩ : ∃ b, b = W9.heap.size := ⟨_, rfl⟩
            obtain ⟨W10, hW10⟩ : ∃ W, W = W9.alloc (.cells #[.slice (some ⟨g85, 0, none⟩) (K + 1) c85] 22) := ⟨_, rfl⟩
            rw [← hW10, ← hb86]
            have HAW10 := Lib.hid (show Below wr.heap.size wr W10 by rw [hW10]; exact HAW9.out.alloc HAW9.out.size _)
            have HEW10 := Lib.hid (show Below w5.heap.size w5 W10 by rw [hW10]; exact HEW9.out.alloc HEW9.out.size _)
            have HC86 := Lib.hid (show W10.cell? ⟨b86, 0, none⟩ = some (.slice (some ⟨g85, 0, none⟩) (K + 1) c85) by rw [hW10, hb86, World.cell?_alloc_new]; rfl)
            have HO85W10 := Lib.hid (show W10.ownsRow b77 5 1 (.slice (some ⟨g85, 0, none⟩) (K + 1) c85) (K + 1) ((iL (rw_ XM i) ++ [toI (co V i)]).map (Value.int .u8)) by rw [hW10]; exact own_below HO85W9.out ((Below.refl _ _).alloc (Nat.le_refl _) _))
            clear hW10 hb86
            refine hK.out _ _ HEW10.out (fun hHeld1 => ?_)
            clear hK K' hHeld
            have hHeld := hHeld1
            clear hHeld1
            refine wpAnyH_ready (rs := [11]) (by kernel_rfl) (by simp) ?_
            refine AllReadyH.cons rfl (fun K' hK => ?_) AllReadyH.nil
            rw [if_pos (by rfl)]
            have HOV := Lib.hid (own_below HVS.out.1 HAW10.out)
            have HRV := Lib.hid (HVS.out.2.keep HAW10.out.size fun b hlt ho => ⟨ho.keep (HAW10.out.block b hlt), HAW10.out.block b hlt⟩)
            refine wp_append_lies (w := W10) (.tmp 76) (.tmp 86) 27 rfl w5.heap.size 22 i27 (.slice none 0 0) 1 24 Try.underlying27 HI27.out.1 HI27.out.2.1 HI27.out.2.2.1 HI27.out.2.2.2 rfl (by decide) u15 i vs (by rfl) HOV.out ⟨b86, 0, none⟩ 1 1 [.slice (some ⟨g85, 0, none⟩) (K + 1) c85] (by rfl) (by rfl) (news_one HC86.out) (fun u hu => by simp at hu; rw [hu]; rfl) (by omega) (by unfold maxLen; omega) (by omega) HEW10.out.size _ rfl ?_
            intro g87 c87 W11 hown1 hg1 _ hlt1
            have HOW := Lib.hid hown1
            have HRW := Lib.hid (rows_more HOV.out HRV.out hg1 rfl (P := rw_ XM i ++ [co V i]) (a := some ⟨g85, 0, none⟩) (c := c85) (by rw [List.length_append, HLR.out]; exact Pa.own2 (by rw [iL_snoc]; exact HO85W10.out)) (fun b off e _ => by injection e with e; injection e with e; rw [← e]; exact own_t8 HO85W10.out))
            have HEW11 := Lib.hid (HEW10.out.grown hg1 HEW10.out.size (fun z hz => (HOV.out.lt z hz).1))
            clear hown1 hg1 hlt1
            refine hK.out _ _ HEW11.out (fun hHeld1 => ?_)
            clear hK K' hHeld
            have hHeld := hHeld1
            clear hHeld1
            refine wpAnyH_take (i := 12) (v := ?v12_3) rfl (by kernel_rfl) (by kernel_rfl) (by kernel_rfl) (fun _ _ _ h => h) (Or.inl ⟨by rfl, ?hy12_3⟩) hHeld ?rest12_3
            case hy12_3 =>
              intro W' hV
              try dsimp only at hV
              go_simp
              all_goals with_reducible rfl
            case' rest12_3 => try simp only [Act.put, List.setIfInBounds_toArray, List.set_cons_zero, List.set_cons_succ]
            refine wpAnyH_done (by kernel_rfl) ?_ _
            clear hHeld
            go_wp2
            go_roundw
            case rel => exact ⟨i + 1, by omega, by go_num, ⟨_, HOW.out, by have h := HRW.out; rw [List.length_append, HLR.out, List.length_singleton] at h; rw [mat_snoc, show fl (K + 1) (F i) = rw_ XM i ++ [co V i] by rw [← HF0.out, beside_row HLR.out]]; exact h⟩, HEW11.out⟩
            case measure => simp [intOf]; omega
        · obtain rfl : len3 = i := by omega
          have HXR := Lib.hid (Mat.own HVS.out.1 HVS.out.2)
          obtain ⟨am, cm, rfl, hmm⟩ := HXR.out
          have HMR := Lib.hid hmm
          have HBR := Lib.hid (bt HB5.out HBI.out)
          have HGR := Lib.hid (HG5.out.on HBI.out)
          have HHR := Lib.hid (HRK.out.1.rn)
          clear hmm
          obtain ⟨s, hs⟩ := rk_exists len3 (K + 1) (beside K (ent XM) fun j _ => co V j)
          have hrs := rk_not_more HRK.out.2 HRK.out.1 HXX.out hs
          rw [HF0.out] at hs
          have HS1 := Lib.hid hs
          have HS2 := Lib.hid (rk_left HRK.out.2 HRK.out.1)
          have qs : ((s : Int) != (r : Int)) = true := by rw [bne_iff_ne]; omega
          clear hs hrs
          have C1 := Lib.hid (rrank_any am len3 cm (mat F len3 (K + 1)) (K + 1) s wr HMR.out (wide_mat F len3 (K + 1)) (by omega) (by omega) (by omega) (by omega) ((ent_mat_beside F).rk HS1.out))
          have C2 := Lib.hid (fun (W : World) (hW : Below wr.heap.size wr W) => rrank_any (some ⟨B3, 0, none⟩) len3 len3 XM K r W ((HGR.out.on hW).mat) HWX.out (by omega) (by omega) (by omega) (by omega) HS2.out)
          go_upto_region 17 with (first
            | (go_at_call 13; (with_reducible refine C1.out.mono ?_); rintro e w6 ⟨rfl, hb6⟩; have HB6 := Lib.hid hb6; clear hb6)
            | (go_at_call 13; (with_reducible refine (C2.out _ HB6.out).mono ?_); rintro e w7 ⟨rfl, hb7⟩; have HB7 := Lib.hid (bt HB6.out hb7); clear hb7))
          go_wp2
          go_ret
          exact ⟨rfl, bt HBR.out HB7.out⟩
    · have HF0 := Lib.hid hF
      have HOS := Lib.hid ho
      clear hF ho
      go_upto_region 12 with (fail)
      go_loopw [15, 71] (fun more s wr => ∃ i : Nat, i ≤ len3 ∧ s = .int .i64 (i : Nat) ∧ (∃ vs, wr.ownsRow w5.heap.size 22 1 more i vs ∧ RV wr (T8 wr) vs (mat F i (K + 1))) ∧ Below w5.heap.size w5 wr) (fun _ s _ => len3 - (intOf s).toNat)
      case atStart => exact ⟨0, Nat.zero_le _, rfl, ⟨[], World.ownsRow_nil _ _ _ _, RV.nil _ _⟩, Below.refl _ _⟩
      case round =>
        obtain ⟨i, hi, rfl, ⟨vs, hvs1, hvs2⟩, hBi⟩ := hrel
        have HBI := Lib.hid hBi
        have HVS := Lib.hid (And.intro hvs1 hvs2)
        clear hBi hvs1 hvs2
        rename World => wr
        by_cases hlt : i < len3
        · obtain ⟨ai, ci, hcell0, hpa0, _⟩ := HG5.out.row hlt
          have HLR := Lib.hid (HWX.out i (by rw [HG5.out.len]; exact hlt))
          rw [HLR.out] at hcell0 hpa0
          obtain ⟨br, offr, rfl, hbr, _⟩ := hpa0.at_ (k := 0) (by omega)
          have hpb := hpa0.bd
          have HCR := Lib.hid (fun (W : World) (hW : Below w5.heap.size w5 W) => news_row (hpa0.on hW))
          have hcell := (HBI.out.cell (p := ⟨B3, i, none⟩) HG5.out.lt.2).trans hcell0
          obtain ⟨bv, ov, rfl, hbv, hcv⟩ := (HV.out.on HB5.out).at_ hlt
          have HCV := Lib.hid (fun (W : World) (hW : Below w5.heap.size w5 W) => (hW.cell (p := ⟨bv, ov + i, none⟩) hbv).trans hcv)
          have qi : (i : Int) < (len3 : Int) := by omega
          have qi0 : (0 : Int) ≤ (i : Int) := by omega
          clear hcell0 hpa0 hcv
          go_upto_region 14 with (fail)
          refine wp_region_held_drew (S := fun W => Below w5.heap.size w5 W) (by kernel_rfl) HBI.out.drew (fun hHeld => ?_)
          obtain ⟨W0, hW0⟩ : ∃ W, W = wr.drew := ⟨_, rfl⟩
          rw [← hW0] at hHeld ⊢
          have HEW0 := Lib.hid (show Below w5.heap.size w5 W0 by rw [hW0]; exact HBI.out.drew)
          have HAW0 := Lib.hid (show Below wr.heap.size wr W0 by rw [hW0]; exact (Below.refl _ _).drew)
          clear hW0
          refine wpAnyH_take (i := 0) (v := ?v0_2b) rfl (by kernel_rfl) (by kernel_rfl) (by kernel_rfl) (fun _ _ _ h => h) (Or.inl ⟨by rfl, ?hy0_2b⟩) hHeld ?rest0_2b
          case hy0_2b =>
            intro W' hV
            try dsimp only at hV
            go_simp
            all_goals with_reducible rfl
          case' rest0_2b => try simp only [Act.put, List.setIfInBounds_toArray, List.set_cons_zero, List.set_cons_succ]
          refine wpAnyH_take (i := 2) (v := ?v2_2b) rfl (by kernel_rfl) (by kernel_rfl) (by kernel_rfl) (fun _ _ _ h => h) (Or.inl ⟨by rfl, ?hy2_2b⟩) hHeld ?rest2_2b
          case hy2_2b =>
            intro W' hV
            try dsimp only at hV
            go_simp
            all_goals with_reducible rfl
          case' rest2_2b => try simp only [Act.put, List.setIfInBounds_toArray, List.set_cons_zero, List.set_cons_succ]
          refine wpAnyH_take (i := 4) (v := ?v4_2b) rfl (by kernel_rfl) (by kernel_rfl) (by kernel_rfl) (fun _ _ _ h => h) (Or.inl ⟨by rfl, ?hy4_2b⟩) hHeld ?rest4_2b
          case hy4_2b =>
            intro W' hV
            try dsimp only at hV
            go_simp
            all_goals with_reducible rfl
          case' rest4_2b => try simp only [Act.put, List.setIfInBounds_toArray, List.set_cons_zero, List.set_cons_succ]
          refine wpAnyH_take (i := 5) (v := ?v5_2b) rfl (by kernel_rfl) (by kernel_rfl) (by kernel_rfl) (fun _ _ _ h => h) (Or.inl ⟨by rfl, ?hy5_2b⟩) hHeld ?rest5_2b
          case hy5_2b =>
            intro W' hV
            try dsimp only at hV
            go_simp
            all_goals with_reducible rfl
          case' rest5_2b => try simp only [Act.put, List.setIfInBounds_toArray, List.set_cons_zero, List.set_cons_succ]
          refine wpAnyH_take (i := 6) (v := ?v6_2b) rfl (by kernel_rfl) (by kernel_rfl) (by kernel_rfl) (fun _ _ _ h => h) (Or.inl ⟨by rfl, ?hy6_2b⟩) hHeld ?rest6_2b
          case hy6_2b =>
            intro W' hV
            try dsimp only at hV
            go_simp
            all_goals with_reducible rfl
          case' rest6_2b => try simp only [Act.put, List.setIfInBounds_toArray, List.set_cons_zero, List.set_cons_succ]
          refine wpAnyH_take (i := 7) (v := ?v7_2b) rfl (by kernel_rfl) (by kernel_rfl) (by kernel_rfl) (fun _ _ _ h => h) (Or.inl ⟨by rfl, ?hy7_2b⟩) hHeld ?rest7_2b
          case hy7_2b =>
            intro W' hV
            try dsimp only at hV
            have hcv2 := HCV.out W' hV
            go_simp
            all_goals with_reducible rfl
          case' rest7_2b => try simp only [Act.put, List.setIfInBounds_toArray, List.set_cons_zero, List.set_cons_succ]
          refine wpAnyH_ready (rs := [1, 8]) (by kernel_rfl) (by simp) ?_
          refine AllReadyH.cons rfl (fun K' hK => ?_) (AllReadyH.cons rfl (fun K' hK => ?_) AllReadyH.nil)
          · go_simp
            obtain ⟨b77, hb77⟩ : ∃ b, b = W0.heap.size := ⟨_, rfl⟩
            obtain ⟨W1, hW1⟩ : ∃ W, W = W0.alloc (.cells #[] 5) := ⟨_, rfl⟩
            rw [← hW1, ← hb77]
            have HAW1 := Lib.hid (show Below wr.heap.size wr W1 by rw [hW1]; exact HAW0.out.alloc HAW0.out.size _)
            have HEW1 := Lib.hid (show Below w5.heap.size w5 W1 by rw [hW1]; exact HEW0.out.alloc HEW0.out.size _)
            have HL77 := Lib.hid (show wr.heap.size ≤ b77 by rw [hb77]; exact HAW0.out.size)
            have HO77W1 := Lib.hid (show W1.ownsRow b77 5 1 (.slice (some ⟨b77, 0, none⟩) 0 0) 0 (([] : List Int).map (Value.int .u8)) by rw [hW1, hb77]; exact own_empty _ _)
            clear hW1 hb77
            refine hK.out _ _ HEW1.out (fun hHeld1 => ?_)
            clear hK K' hHeld
            have hHeld := hHeld1
            clear hHeld1
            refine wpAnyH_ready (rs := [3, 8]) (by kernel_rfl) (by simp) ?_
            refine AllReadyH.cons rfl (fun K' hK => ?_) (AllReadyH.cons rfl (fun K' hK => ?_) AllReadyH.nil)
            · rw [if_pos (by rfl)]
              refine wp_append_lies (w := W1) (.tmp 77) (.tmp 78) 22 rfl b77 5 i5 (.int .u8 0) 1 1 Try.underlying22 HI.out.1 HI.out.2.1 HI.out.2.2.1 HI.out.2.2.2 rfl (by decide) (.slice (some ⟨b77, 0, none⟩) 0 0) 0 (([] : List Int).map (Value.int .u8)) (by rfl) HO77W1.out ⟨br, offr, none⟩ K ci ((iL (rw_ XM i)).map (Value.int .u8)) (by rfl) (by rw [List.length_map, length_iL, HLR.out, Nat.mul_one]) (HCR.out W1 HEW1.out) (ints_oneCell _ _) (by omega) (by unfold maxLen; omega) (by omega) (Nat.le_of_lt (HO77W1.out.lt b77 rfl).2) _ rfl ?_
              intro g79 c79 W2 hown1 hg1 _ hlt1
              rw [Nat.zero_add, ← List.map_append, List.nil_append] at hown1
              have HO79W2 := Lib.hid hown1
              have HAW2 := Lib.hid (HAW1.out.grown hg1 HAW1.out.size (fun z hz => by injection hz with hz; rw [← hz]; exact HL77.out))
              have HEW2 := Lib.hid (HEW1.out.grown hg1 HEW1.out.size (fun z hz => by injection hz with hz; rw [← hz]; exact Nat.le_trans HBI.out.size HL77.out))
              clear hown1 hg1 hlt1
              try simp only [Nat.zero_add]
              refine hK.out _ _ HEW2.out (fun hHeld1 => ?_)
              clear hK K' hHeld
              have hHeld := hHeld1
              clear hHeld1
              refine wpAnyH_ready (rs := [8]) (by kernel_rfl) (by simp) ?_
              refine AllReadyH.cons rfl (fun K' hK => ?_) AllReadyH.nil
              go_simp
              obtain ⟨b84, hb84⟩ : ∃ b, b = W2.heap.size := ⟨_, rfl⟩
              obtain ⟨W3, hW3⟩ : ∃ W, W = W2.alloc (.cells #[.int .u8 (toI (co V i))] 5) := ⟨_, rfl⟩
              rw [← hW3, ← hb84]
              have HAW3 := Lib.hid (show Below wr.heap.size wr W3 by rw [hW3]; exact HAW2.out.alloc HAW2.out.size _)
              have HEW3 := Lib.hid (show Below w5.heap.size w5 W3 by rw [hW3]; exact HEW2.out.alloc HEW2.out.size _)
              have HC84W3 := Lib.hid (show W3.cell? ⟨b84, 0, none⟩ = some (.int .u8 (toI (co V i))) by rw [hW3, hb84, World.cell?_alloc_new]; rfl)
              have HO79W3 := Lib.hid (show W3.ownsRow b77 5 1 (.slice (some ⟨g79, 0, none⟩) K c79) K ((iL (rw_ XM i)).map (Value.int .u8)) by rw [hW3]; exact own_below HO79W2.out ((Below.refl _ _).alloc (Nat.le_refl _) _))
              clear hW3 hb84
              refine hK.out _ _ HEW3.out (fun hHeld1 => ?_)
              clear hK K' hHeld
              have hHeld := hHeld1
              clear hHeld1
              refine wpAnyH_ready (rs := [9]) (by kernel_rfl) (by simp) ?_
              refine AllReadyH.cons rfl (fun K' hK => ?_) AllReadyH.nil
              rw [if_pos (by rfl)]
              refine wp_append_lies (w := W3) (.tmp 79) (.tmp 84) 22 rfl b77 5 i5 (.int .u8 0) 1 1 Try.underlying22 HI.out.1 HI.out.2.1 HI.out.2.2.1 HI.out.2.2.2 rfl (by decide) (.slice (some ⟨g79, 0, none⟩) K c79) K ((iL (rw_ XM i)).map (Value.int .u8)) (by rfl) HO79W3.out ⟨b84, 0, none⟩ 1 1 ([toI (co V i)].map (Value.int .u8)) (by rfl) (by rfl) (news_one HC84W3.out) (ints_oneCell _ _) (by omega) (by unfold maxLen; omega) (by omega) (Nat.le_of_lt (Nat.lt_of_le_of_lt (HO79W3.out.lt g79 rfl).1 (HO79W3.out.lt g79 rfl).2)) _ rfl ?_
              intro g85 c85 W9 hown1 hg1 _ hlt1
              rw [← List.map_append] at hown1
              have HO85W9 := Lib.hid hown1
              have HAW9 := Lib.hid (HAW3.out.grown hg1 HAW3.out.size (fun z hz => by injection hz with hz; rw [← hz]; exact Nat.le_trans HL77.out (HO79W3.out.lt g79 rfl).1))
              have HEW9 := Lib.hid (HEW3.out.grown hg1 HEW3.out.size (fun z hz => by injection hz with hz; rw [← hz]; exact Nat.le_trans (Nat.le_trans HBI.out.size HL77.out) (HO79W3.out.lt g79 rfl).1))
              clear hown1 hg1 hlt1
              refine hK.out _ _ HEW9.out (fun hHeld1 => ?_)
              clear hK K' hHeld
              have hHeld := hHeld1
              clear hHeld1
              refine wpAnyH_ready (rs := [10]) (by kernel_rfl) (by simp) ?_
              refine AllReadyH.cons rfl (fun K' hK => ?_) AllReadyH.nil
              go_simp
              obtain ⟨b86, hb86⟩ : ∃ b, b = W9.heap.size := ⟨_, rfl⟩
              obtain ⟨W10, hW10⟩ : ∃ W, W = W9.alloc (.cells #[.slice (some ⟨g85, 0, none⟩) (K + 1) c85] 22) := ⟨_, rfl⟩
              rw [← hW10, ← hb86]
              have HAW10 := Lib.hid (show Below wr.heap.size wr W10 by rw [hW10]; exact HAW9.out.alloc HAW9.out.size _)
              have HEW10 := Lib.hid (show Below w5.heap.size w5 W10 by rw [hW10]; exact HEW9.out.alloc HEW9.out.size _)
              have HC86 := Lib.hid (show W10.cell? ⟨b86, 0, none⟩ = some (.slice (some ⟨g85, 0, none⟩) (K + 1) c85) by rw [hW10, hb86, World.cell?_alloc_new]; rfl)
              have HO85W10 := Lib.hid (show W10.ownsRow b77 5 1 (.slice (some ⟨g85, 0, none⟩) (K + 1) c85) (K + 1) ((iL (rw_ XM i) ++ [toI (co V i)]).map (Value.int .u8)) by rw [hW10]; exact own_below HO85W9.out ((Below.refl _ _).alloc (Nat.le_refl _) _))
              clear hW10 hb86
              refine hK.out _ _ HEW10.out (fun hHeld1 => ?_)
              clear hK K' hHeld
              have hHeld := hHeld1
              clear hHeld1
              refine wpAnyH_ready (rs := [11]) (by kernel_rfl) (by simp) ?_
              refine AllReadyH.cons rfl (fun K' hK => ?_) AllReadyH.nil
              rw [if_pos (by rfl)]
              have HOV := Lib.hid (own_below HVS.out.1 HAW10.out)
              have HRV := Lib.hid (HVS.out.2.keep HAW10.out.size fun b hlt ho => ⟨ho.keep (HAW10.out.block b hlt), HAW10.out.block b hlt⟩)
              refine wp_append_lies (w := W10) (.tmp 76) (.tmp 86) 27 rfl w5.heap.size 22 i27 (.slice none 0 0) 1 24 Try.underlying27 HI27.out.1 HI27.out.2.1 HI27.out.2.2.1 HI27.out.2.2.2 rfl (by decide) u15 i vs (by rfl) HOV.out ⟨b86, 0, none⟩ 1 1 [.slice (some ⟨g85, 0, none⟩) (K + 1) c85] (by rfl) (by rfl) (news_one HC86.out) (fun u hu => by simp at hu; rw [hu]; rfl) (by omega) (by unfold maxLen; omega) (by omega) HEW10.out.size _ rfl ?_
              intro g87 c87 W11 hown1 hg1 _ hlt1
              have HOW := Lib.hid hown1
              have HRW := Lib.hid (rows_more HOV.out HRV.out hg1 rfl (P := rw_ XM i ++ [co V i]) (a := some ⟨g85, 0, none⟩) (c := c85) (by rw [List.length_append, HLR.out]; exact Pa.own2 (by rw [iL_snoc]; exact HO85W10.out)) (fun b off e _ => by injection e with e; injection e with e; rw [← e]; exact own_t8 HO85W10.out))
              have HEW11 := Lib.hid (HEW10.out.grown hg1 HEW10.out.size (fun z hz => (HOV.out.lt z hz).1))
              clear hown1 hg1 hlt1
              refine hK.out _ _ HEW11.out (fun hHeld1 => ?_)
              clear hK K' hHeld
              have hHeld := hHeld1
              clear hHeld1
              refine wpAnyH_take (i := 12) (v := ?v12_0b) rfl (by kernel_rfl) (by kernel_rfl) (by kernel_rfl) (fun _ _ _ h => h) (Or.inl ⟨by rfl, ?hy12_0b⟩) hHeld ?rest12_0b
              case hy12_0b =>
                intro W' hV
                try dsimp only at hV
                go_simp
                all_goals with_reducible rfl
              case' rest12_0b => try simp only [Act.put, List.setIfInBounds_toArray, List.set_cons_zero, List.set_cons_succ]
              refine wpAnyH_done (by kernel_rfl) ?_ _
              clear hHeld
              go_wp2
              go_roundw
              case rel => exact ⟨i + 1, by omega, by go_num, ⟨_, HOW.out, by have h := HRW.out; rw [List.length_append, HLR.out, List.length_singleton] at h; rw [mat_snoc, show fl (K + 1) (F i) = rw_ XM i ++ [co V i] by rw [← HF0.out, beside_row HLR.out]]; exact h⟩, HEW11.out⟩
              case measure => simp [intOf]; omega
            · go_simp
              obtain ⟨b84, hb84⟩ : ∃ b, b = W1.heap.size := ⟨_, rfl⟩
              obtain ⟨W2, hW2⟩ : ∃ W, W = W1.alloc (.cells #[.int .u8 (toI (co V i))] 5) := ⟨_, rfl⟩
              rw [← hW2, ← hb84]
              have HAW2 := Lib.hid (show Below wr.heap.size wr W2 by rw [hW2]; exact HAW1.out.alloc HAW1.out.size _)
              have HEW2 := Lib.hid (show Below w5.heap.size w5 W2 by rw [hW2]; exact HEW1.out.alloc HEW1.out.size _)
              have HC84W2 := Lib.hid (show W2.cell? ⟨b84, 0, none⟩ = some (.int .u8 (toI (co V i))) by rw [hW2, hb84, World.cell?_alloc_new]; rfl)
              have HNE := Lib.hid (show b84 ≠ b77 by have := (HO77W1.out.lt b77 rfl).2; omega)
              have HO77W2 := Lib.hid (show W2.ownsRow b77 5 1 (.slice (some ⟨b77, 0, none⟩) 0 0) 0 (([] : List Int).map (Value.int .u8)) by rw [hW2]; exact own_below HO77W1.out ((Below.refl _ _).alloc (Nat.le_refl _) _))
              clear hW2 hb84
              refine hK.out _ _ HEW2.out (fun hHeld1 => ?_)
              clear hK K' hHeld
              have hHeld := hHeld1
              clear hHeld1
              refine wpAnyH_ready (rs := [3]) (by kernel_rfl) (by simp) ?_
              refine AllReadyH.cons rfl (fun K' hK => ?_) AllReadyH.nil
              rw [if_pos (by rfl)]
              refine wp_append_lies (w := W2) (.tmp 77) (.tmp 78) 22 rfl b77 5 i5 (.int .u8 0) 1 1 Try.underlying22 HI.out.1 HI.out.2.1 HI.out.2.2.1 HI.out.2.2.2 rfl (by decide) (.slice (some ⟨b77, 0, none⟩) 0 0) 0 (([] : List Int).map (Value.int .u8)) (by rfl) HO77W2.out ⟨br, offr, none⟩ K ci ((iL (rw_ XM i)).map (Value.int .u8)) (by rfl) (by rw [List.length_map, length_iL, HLR.out, Nat.mul_one]) (HCR.out W2 HEW2.out) (ints_oneCell _ _) (by omega) (by unfold maxLen; omega) (by omega) (Nat.le_of_lt (HO77W2.out.lt b77 rfl).2) _ rfl ?_
              intro g79 c79 W3 hown1 hg1 _ hlt1
              rw [Nat.zero_add, ← List.map_append, List.nil_append] at hown1
              have HO79W3 := Lib.hid hown1
              have HAW3 := Lib.hid (HAW2.out.grown hg1 HAW2.out.size (fun z hz => by injection hz with hz; rw [← hz]; exact HL77.out))
              have HEW3 := Lib.hid (HEW2.out.grown hg1 HEW2.out.size (fun z hz => by injection hz with hz; rw [← hz]; exact Nat.le_trans HBI.out.size HL77.out))
              have HC84W3 := Lib.hid (show W3.cell? ⟨b84, 0, none⟩ = some (.int .u8 (toI (co V i))) from hg1.cell HC84W2.out (fun e => HNE.out (by injection e)))
              clear hown1 hg1 hlt1
              try simp only [Nat.zero_add]
              refine hK.out _ _ HEW3.out (fun hHeld1 => ?_)
              clear hK K' hHeld
              have hHeld := hHeld1
              clear hHeld1
              refine wpAnyH_ready (rs := [9]) (by kernel_rfl) (by simp) ?_
              refine AllReadyH.cons rfl (fun K' hK => ?_) AllReadyH.nil
              rw [if_pos (by rfl)]
              refine wp_append_lies (w := W3) (.tmp 79) (.tmp 84) 22 rfl b77 5 i5 (.int .u8 0) 1 1 Try.underlying22 HI.out.1 HI.out.2.1 HI.out.2.2.1 HI.out.2.2.2 rfl (by decide) (.slice (some ⟨g79, 0, none⟩) K c79) K ((iL (rw_ XM i)).map (Value.int .u8)) (by rfl) HO79W3.out ⟨b84, 0, none⟩ 1 1 ([toI (co V i)].map (Value.int .u8)) (by rfl) (by rfl) (news_one HC84W3.out) (ints_oneCell _ _) (by omega) (by unfold maxLen; omega) (by omega) (Nat.le_of_lt (Nat.lt_of_le_of_lt (HO79W3.out.lt g79 rfl).1 (HO79W3.out.lt g79 rfl).2)) _ rfl ?_
              intro g85 c85 W9 hown1 hg1 _ hlt1
              rw [← List.map_append] at hown1
              have HO85W9 := Lib.hid hown1
              have HAW9 := Lib.hid (HAW3.out.grown hg1 HAW3.out.size (fun z hz => by injection hz with hz; rw [← hz]; exact Nat.le_trans HL77.out (HO79W3.out.lt g79 rfl).1))
              have HEW9 := Lib.hid (HEW3.out.grown hg1 HEW3.out.size (fun z hz => by injection hz with hz; rw [← hz]; exact Nat.le_trans (Nat.le_trans HBI.out.size HL77.out) (HO79W3.out.lt g79 rfl).1))
              clear hown1 hg1 hlt1
              refine hK.out _ _ HEW9.out (fun hHeld1 => ?_)
              clear hK K' hHeld
              have hHeld := hHeld1
              clear hHeld1
              refine wpAnyH_ready (rs := [10]) (by kernel_rfl) (by simp) ?_
              refine AllReadyH.cons rfl (fun K' hK => ?_) AllReadyH.nil
              go_simp
              obtain ⟨b86, hb86⟩ : ∃ b, b = W9.heap.size := ⟨_, rfl⟩
              obtain ⟨W10, hW10⟩ : ∃ W, W = W9.alloc (.cells #[.slice (some ⟨g85, 0, none⟩) (K + 1) c85] 22) := ⟨_, rfl⟩
              rw [← hW10, ← hb86]
              have HAW10 := Lib.hid (show Below wr.heap.size wr W10 by rw [hW10]; exact HAW9.out.alloc HAW9.out.size _)
              have HEW10 := Lib.hid (show Below w5.heap.size w5 W10 by rw [hW10]; exact HEW9.out.alloc HEW9.out.size _)
              have HC86 := Lib.hid (show W10.cell? ⟨b86, 0, none⟩ = some (.slice (some ⟨g85, 0, none⟩) (K + 1) c85) by rw [hW10, hb86, World.cell?_alloc_new]; rfl)
              have HO85W10 := Lib.hid (show W10.ownsRow b77 5 1 (.slice (some ⟨g85, 0, none⟩) (K + 1) c85) (K + 1) ((iL (rw_ XM i) ++ [toI (co V i)]).map (Value.int .u8)) by rw [hW10]; exact own_below HO85W9.out ((Below.refl _ _).alloc (Nat.le_refl _) _))
              clear hW10 hb86
              refine hK.out _ _ HEW10.out (fun hHeld1 => ?_)
              clear hK K' hHeld
              have hHeld := hHeld1
              clear hHeld1
              refine wpAnyH_ready (rs := [11]) (by kernel_rfl) (by simp) ?_
              refine AllReadyH.cons rfl (fun K' hK => ?_) AllReadyH.nil
              rw [if_pos (by rfl)]
              have HOV := Lib.hid (own_below HVS.out.1 HAW10.out)
              have HRV := Lib.hid (HVS.out.2.keep HAW10.out.size fun b hlt ho => ⟨ho.keep (HAW10.out.block b hlt), HAW10.out.block b hlt⟩)
              refine wp_append_lies (w := W10) (.tmp 76) (.tmp 86) 27 rfl w5.heap.size 22 i27 (.slice none 0 0) 1 24 Try.underlying27 HI27.out.1 HI27.out.2.1 HI27.out.2.2.1 HI27.out.2.2.2 rfl (by decide) u15 i vs (by rfl) HOV.out ⟨b86, 0, none⟩ 1 1 [.slice (some ⟨g85, 0, none⟩) (K + 1) c85] (by rfl) (by rfl) (news_one HC86.out) (fun u hu => by simp at hu; rw [hu]; rfl) (by omega) (by unfold maxLen; omega) (by omega) HEW10.out.size _ rfl ?_
              intro g87 c87 W11 hown1 hg1 _ hlt1
              have HOW := Lib.hid hown1
              have HRW := Lib.hid (rows_more HOV.out HRV.out hg1 rfl (P := rw_ XM i ++ [co V i]) (a := some ⟨g85, 0, none⟩) (c := c85) (by rw [List.length_append, HLR.out]; exact Pa.own2 (by rw [iL_snoc]; exact HO85W10.out)) (fun b off e _ => by injection e with e; injection e with e; rw [← e]; exact own_t8 HO85W10.out))
              have HEW11 := Lib.hid (HEW10.out.grown hg1 HEW10.out.size (fun z hz => (HOV.out.lt z hz).1))
              clear hown1 hg1 hlt1
              refine hK.out _ _ HEW11.out (fun hHeld1 => ?_)
              clear hK K' hHeld
              have hHeld := hHeld1
              clear hHeld1
              refine wpAnyH_take (i := 12) (v := ?v12_1b) rfl (by kernel_rfl) (by kernel_rfl) (by kernel_rfl) (fun _ _ _ h => h) (Or.inl ⟨by rfl, ?hy12_1b⟩) hHeld ?rest12_1b
              case hy12_1b =>
                intro W' hV
                try dsimp only at hV
                go_simp
                all_goals with_reducible rfl
              case' rest12_1b => try simp only [Act.put, List.setIfInBounds_toArray, List.set_cons_zero, List.set_cons_succ]
              refine wpAnyH_done (by kernel_rfl) ?_ _
              clear hHeld
              go_wp2
              go_roundw
              case rel => exact ⟨i + 1, by omega, by go_num, ⟨_, HOW.out, by have h := HRW.out; rw [List.length_append, HLR.out, List.length_singleton] at h; rw [mat_snoc, show fl (K + 1) (F i) = rw_ XM i ++ [co V i] by rw [← HF0.out, beside_row HLR.out]]; exact h⟩, HEW11.out⟩
              case measure => simp [intOf]; omega
          · go_simp
            obtain ⟨b84, hb84⟩ : ∃ b, b = W0.heap.size := ⟨_, rfl⟩
            obtain ⟨W1, hW1⟩ : ∃ W, W = W0.alloc (.cells #[.int .u8 (toI (co V i))] 5) := ⟨_, rfl⟩
            rw [← hW1, ← hb84]
            have HAW1 := Lib.hid (show Below wr.heap.size wr W1 by rw [hW1]; exact HAW0.out.alloc HAW0.out.size _)
            have HEW1 := Lib.hid (show Below w5.heap.size w5 W1 by rw [hW1]; exact HEW0.out.alloc HEW0.out.size _)
            have HC84W1 := Lib.hid (show W1.cell? ⟨b84, 0, none⟩ = some (.int .u8 (toI (co V i))) by rw [hW1, hb84, World.cell?_alloc_new]; rfl)
            clear hW1 hb84
            refine hK.out _ _ HEW1.out (fun hHeld1 => ?_)
            clear hK K' hHeld
            have hHeld := hHeld1
            clear hHeld1
            refine wpAnyH_ready (rs := [1]) (by kernel_rfl) (by simp) ?_
            refine AllReadyH.cons rfl (fun K' hK => ?_) AllReadyH.nil
            go_simp
            obtain ⟨b77, hb77⟩ : ∃ b, b = W1.heap.size := ⟨_, rfl⟩
            obtain ⟨W2, hW2⟩ : ∃ W, W = W1.alloc (.cells #[] 5) := ⟨_, rfl⟩
            rw [← hW2, ← hb77]
            have HAW2 := Lib.hid (show Below wr.heap.size wr W2 by rw [hW2]; exact HAW1.out.alloc HAW1.out.size _)
            have HEW2 := Lib.hid (show Below w5.heap.size w5 W2 by rw [hW2]; exact HEW1.out.alloc HEW1.out.size _)
            have HL77 := Lib.hid (show wr.heap.size ≤ b77 by rw [hb77]; exact HAW1.out.size)
            have HO77W2 := Lib.hid (show W2.ownsRow b77 5 1 (.slice (some ⟨b77, 0, none⟩) 0 0) 0 (([] : List Int).map (Value.int .u8)) by rw [hW2, hb77]; exact own_empty _ _)
            have HC84W2 := Lib.hid (show W2.cell? ⟨b84, 0, none⟩ = some (.int .u8 (toI (co V i))) by rw [hW2]; exact (((Below.refl W1.heap.size W1).alloc (Nat.le_refl _) _).cell (p := ⟨b84, 0, none⟩) (World.block_lt_of_cell? _ _ HC84W1.out)).trans HC84W1.out)
            have HNE := Lib.hid (show b84 ≠ b77 by have := World.block_lt_of_cell? _ _ HC84W1.out; simp at this; omega)
            clear hW2 hb77
            refine hK.out _ _ HEW2.out (fun hHeld1 => ?_)
            clear hK K' hHeld
            have hHeld := hHeld1
            clear hHeld1
            refine wpAnyH_ready (rs := [3]) (by kernel_rfl) (by simp) ?_
            refine AllReadyH.cons rfl (fun K' hK => ?_) AllReadyH.nil
            rw [if_pos (by rfl)]
            refine wp_append_lies (w := W2) (.tmp 77) (.tmp 78) 22 rfl b77 5 i5 (.int .u8 0) 1 1 Try.underlying22 HI.out.1 HI.out.2.1 HI.out.2.2.1 HI.out.2.2.2 rfl (by decide) (.slice (some ⟨b77, 0, none⟩) 0 0) 0 (([] : List Int).map (Value.int .u8)) (by rfl) HO77W2.out ⟨br, offr, none⟩ K ci ((iL (rw_ XM i)).map (Value.int .u8)) (by rfl) (by rw [List.length_map, length_iL, HLR.out, Nat.mul_one]) (HCR.out W2 HEW2.out) (ints_oneCell _ _) (by omega) (by unfold maxLen; omega) (by omega) (Nat.le_of_lt (HO77W2.out.lt b77 rfl).2) _ rfl ?_
            intro g79 c79 W3 hown1 hg1 _ hlt1
            rw [Nat.zero_add, ← List.map_append, List.nil_append] at hown1
            have HO79W3 := Lib.hid hown1
            have HAW3 := Lib.hid (HAW2.out.grown hg1 HAW2.out.size (fun z hz => by injection hz with hz; rw [← hz]; exact HL77.out))
            have HEW3 := Lib.hid (HEW2.out.grown hg1 HEW2.out.size (fun z hz => by injection hz with hz; rw [← hz]; exact Nat.le_trans HBI.out.size HL77.out))
            have HC84W3 := Lib.hid (show W3.cell? ⟨b84, 0, none⟩ = some (.int .u8 (toI (co V i))) from hg1.cell HC84W2.out (fun e => HNE.out (by injection e)))
            clear hown1 hg1 hlt1
            try simp only [Nat.zero_add]
            refine hK.out _ _ HEW3.out (fun hHeld1 => ?_)
            clear hK K' hHeld
            have hHeld := hHeld1
            clear hHeld1
            refine wpAnyH_ready (rs := [9]) (by kernel_rfl) (by simp) ?_
            refine AllReadyH.cons rfl (fun K' hK => ?_) AllReadyH.nil
            rw [if_pos (by rfl)]
            refine wp_append_lies (w := W3) (.tmp 79) (.tmp 84) 22 rfl b77 5 i5 (.int .u8 0) 1 1 Try.underlying22 HI.out.1 HI.out.2.1 HI.out.2.2.1 HI.out.2.2.2 rfl (by decide) (.slice (some ⟨g79, 0, none⟩) K c79) K ((iL (rw_ XM i)).map (Value.int .u8)) (by rfl) HO79W3.out ⟨b84, 0, none⟩ 1 1 ([toI (co V i)].map (Value.int .u8)) (by rfl) (by rfl) (news_one HC84W3.out) (ints_oneCell _ _) (by omega) (by unfold maxLen; omega) (by omega) (Nat.le_of_lt (Nat.lt_of_le_of_lt (HO79W3.out.lt g79 rfl).1 (HO79W3.out.lt g79 rfl).2)) _ rfl ?_
            intro g85 c85 W9 hown1 hg1 _ hlt1
            rw [← List.map_append] at hown1
            have HO85W9 := Lib.hid hown1
            have HAW9 := Lib.hid (HAW3.out.grown hg1 HAW3.out.size (fun z hz => by injection hz with hz; rw [← hz]; exact Nat.le_trans HL77.out (HO79W3.out.lt g79 rfl).1))
            have HEW9 := Lib.hid (HEW3.out.grown hg1 HEW3.out.size (fun z hz => by injection hz with hz; rw [← hz]; exact Nat.le_trans (Nat.le_trans HBI.out.size HL77.out) (HO79W3.out.lt g79 rfl).1))
            clear hown1 hg1 hlt1
            refine hK.out _ _ HEW9.out (fun hHeld1 => ?_)
            clear hK K' hHeld
            have hHeld := hHeld1
            clear hHeld1
            refine wpAnyH_ready (rs := [10]) (by kernel_rfl) (by simp) ?_
            refine AllReadyH.cons rfl (fun K' hK => ?_) AllReadyH.nil
            go_simp
            obtain ⟨b86, hb86⟩ : ∃ b, b = W9.heap.size := ⟨_, rfl⟩
            obtain ⟨W10, hW10⟩ : ∃ W, W = W9.alloc (.cells #[.slice (some ⟨g85, 0, none⟩) (K + 1) c85] 22) := ⟨_, rfl⟩
            rw [← hW10, ← hb86]
            have HAW10 := Lib.hid (show Below wr.heap.size wr W10 by rw [hW10]; exact HAW9.out.alloc HAW9.out.size _)
            have HEW10 := Lib.hid (show Below w5.heap.size w5 W10 by rw [hW10]; exact HEW9.out.alloc HEW9.out.size _)
            have HC86 := Lib.hid (show W10.cell? ⟨b86, 0, none⟩ = some (.slice (some ⟨g85, 0, none⟩) (K + 1) c85) by rw [hW10, hb86, World.cell?_alloc_new]; rfl)
            have HO85W10 := Lib.hid (show W10.ownsRow b77 5 1 (.slice (some ⟨g85, 0, none⟩) (K + 1) c85) (K + 1) ((iL (rw_ XM i) ++ [toI (co V i)]).map (Value.int .u8)) by rw [hW10]; exact own_below HO85W9.out ((Below.refl _ _).alloc (Nat.le_refl _) _))
            clear hW10 hb86
            refine hK.out _ _ HEW10.out (fun hHeld1 => ?_)
            clear hK K' hHeld
            have hHeld := hHeld1
            clear hHeld1
            refine wpAnyH_ready (rs := [11]) (by kernel_rfl) (by simp) ?_
            refine AllReadyH.cons rfl (fun K' hK => ?_) AllReadyH.nil
            rw [if_pos (by rfl)]
            have HOV := Lib.hid (own_below HVS.out.1 HAW10.out)
            have HRV := Lib.hid (HVS.out.2.keep HAW10.out.size fun b hlt ho => ⟨ho.keep (HAW10.out.block b hlt), HAW10.out.block b hlt⟩)
            refine wp_append_lies (w := W10) (.tmp 76) (.tmp 86) 27 rfl w5.heap.size 22 i27 (.slice none 0 0) 1 24 Try.underlying27 HI27.out.1 HI27.out.2.1 HI27.out.2.2.1 HI27.out.2.2.2 rfl (by decide) u15 i vs (by rfl) HOV.out ⟨b86, 0, none⟩ 1 1 [.slice (some ⟨g85, 0, none⟩) (K + 1) c85] (by rfl) (by rfl) (news_one HC86.out) (fun u hu => by simp at hu; rw [hu]; rfl) (by omega) (by unfold maxLen; omega) (by omega) HEW10.out.size _ rfl ?_
            intro g87 c87 W11 hown1 hg1 _ hlt1
            have HOW := Lib.hid hown1
            have HRW := Lib.hid (rows_more HOV.out HRV.out hg1 rfl (P := rw_ XM i ++ [co V i]) (a := some ⟨g85, 0, none⟩) (c := c85) (by rw [List.length_append, HLR.out]; exact Pa.own2 (by rw [iL_snoc]; exact HO85W10.out)) (fun b off e _ => by injection e with e; injection e with e; rw [← e]; exact own_t8 HO85W10.out))
            have HEW11 := Lib.hid (HEW10.out.grown hg1 HEW10.out.size (fun z hz => (HOV.out.lt z hz).1))
            clear hown1 hg1 hlt1
            refine hK.out _ _ HEW11.out (fun hHeld1 => ?_)
            clear hK K' hHeld
            have hHeld := hHeld1
            clear hHeld1
            refine wpAnyH_take (i := 12) (v := ?v12_3b) rfl (by kernel_rfl) (by kernel_rfl) (by kernel_rfl) (fun _ _ _ h => h) (Or.inl ⟨by rfl, ?hy12_3b⟩) hHeld ?rest12_3b
            case hy12_3b =>
              intro W' hV
              try dsimp only at hV
              go_simp
              all_goals with_reducible rfl
            case' rest12_3b => try simp only [Act.put, List.setIfInBounds_toArray, List.set_cons_zero, List.set_cons_succ]
            refine wpAnyH_done (by kernel_rfl) ?_ _
            clear hHeld
            go_wp2
            go_roundw
            case rel => exact ⟨i + 1, by omega, by go_num, ⟨_, HOW.out, by have h := HRW.out; rw [List.length_append, HLR.out, List.length_singleton] at h; rw [mat_snoc, show fl (K + 1) (F i) = rw_ XM i ++ [co V i] by rw [← HF0.out, beside_row HLR.out]]; exact h⟩, HEW11.out⟩
            case measure => simp [intOf]; omega
        · obtain rfl : len3 = i := by omega
          have HXR := Lib.hid (Mat.own HVS.out.1 HVS.out.2)
          obtain ⟨am, cm, rfl, hmm⟩ := HXR.out
          have HMR := Lib.hid hmm
          have HBR := Lib.hid (bt HB5.out HBI.out)
          have HGR := Lib.hid (HG5.out.on HBI.out)
          have HHR := Lib.hid (HRK.out.1.rn)
          clear hmm
          have hs := rk_more HRK.out.2 HRK.out.1 HXX.out
          rw [HF0.out] at hs
          have HS1 := Lib.hid hs
          have HS2 := Lib.hid (rk_left HRK.out.2 HRK.out.1)
          have qs : ((r : Int) != (r : Int)) = false := by simp
          clear hs
          obtain ⟨SOL, hSOL⟩ : ∃ S, fl K (solA piv (fun i => Nm i K) r) = S := ⟨_, rfl⟩
          have HTS := Lib.hid (show timesL XM SOL = V by rw [← hSOL]; exact times_solved HG5.out.len HWX.out (HV.out.len) HRK.out.2 HRK.out.1 HXX.out)
          have HNZ := Lib.hid (show nzL (iL SOL) ≤ r by rw [← hSOL]; exact nzL_sol (n := len3) (N := Nm) _ r HRK.out.1.lt)
          have HSR := Lib.hid (show Pa wr (some ⟨g, 0, none⟩) K K SOL by rw [← hSOL]; exact (pa_own HOS.out).on HBI.out)
          have HSL := Lib.hid (show SOL.length = K by rw [← hSOL, length_fl])
          clear hSOL
          have C1 := Lib.hid (rrank_any am len3 cm (mat F len3 (K + 1)) (K + 1) r wr HMR.out (wide_mat F len3 (K + 1)) (by omega) (by omega) (by omega) (by omega) ((ent_mat_beside F).rk HS1.out))
          have C2 := Lib.hid (fun (W : World) (hW : Below wr.heap.size wr W) => rrank_any (some ⟨B3, 0, none⟩) len3 len3 XM K r W ((HGR.out.on hW).mat) HWX.out (by omega) (by omega) (by omega) (by omega) HS2.out)
          go_upto_region 20 with (first
            | (go_at_call 13; (with_reducible refine C1.out.mono ?_); rintro e w6 ⟨rfl, hb6⟩; have HB6 := Lib.hid hb6; clear hb6)
            | (go_at_call 13; (with_reducible refine (C2.out _ HB6.out).mono ?_); rintro e w7 ⟨rfl, hb7⟩; have HB7 := Lib.hid (bt HB6.out hb7); clear hb7))
          have HS7 := Lib.hid (HSR.out.on HB7.out)
          go_loop [18, 103] (fun u s => ∃ j : Nat, j ≤ K ∧ s = .int .i64 (j : Nat) ∧ u = .int .i64 (nzL ((iL SOL).take j) : Nat)) (fun _ s => K - (intOf s).toNat)
          case atStart => exact ⟨0, Nat.zero_le _, rfl, by simp [nzL]⟩
          case round =>
            obtain ⟨j, hj, rfl, rfl⟩ := hrel
            by_cases hlk : j < K
            · obtain ⟨bs, os, hbe, hbs, hcs⟩ := HS7.out.at_ hlk
              have hbe2 : bs = g ∧ os = 0 := by injection hbe with e; injection e with e1 e2 _; exact ⟨e1.symm, e2.symm⟩
              obtain ⟨rfl, rfl⟩ := hbe2
              clear hbe
              rw [Nat.zero_add] at hcs
              have hnx := nzL_next (l := iL SOL) (k := j) (by rw [length_iL, HSL.out]; exact hlk)
              rw [getD_iL] at hnx
              have hle : nzL ((iL SOL).take j) ≤ 4 := by
                have h1 : nzL ((iL SOL).take j) ≤ ((iL SOL).take j).length := List.countP_le_length
                rw [List.length_take] at h1; omega
              obtain ⟨z, hz⟩ : ∃ z, z = nzL ((iL SOL).take j) := ⟨_, rfl⟩
              rw [← hz] at hle hnx ⊢
              have qj : (j : Int) < (K : Int) := by omega
              have qj0 : (0 : Int) ≤ (j : Int) := by omega
              have HZ := Lib.hid hz
              clear hz
              by_cases hc0 : toI (co SOL j) = 0
              · have qc : (toI (co SOL j) != 0) = false := by rw [hc0]; rfl
                rw [qc] at hnx
                have HNX := Lib.hid hnx
                clear hnx hc0
                go_wp2
                go_round
                case rel => exact ⟨j + 1, by omega, by go_num, by rw [HNX.out]; simp⟩
                case measure => simp [intOf]; omega
              · have qc : (toI (co SOL j) != 0) = true := by rw [bne_iff_ne]; exact hc0
                rw [qc] at hnx
                have HNX := Lib.hid hnx
                clear hnx hc0
                go_wp2
                go_round
                case rel => exact ⟨j + 1, by omega, by go_num, by rw [HNX.out]; simp⟩
                case measure => simp [intOf]; omega
            · obtain rfl : K = j := by omega
              have hle : nzL ((iL SOL).take K) ≤ r := by
                have h := HNZ.out
                rw [List.take_of_length_le (by rw [length_iL, HSL.out]; exact Nat.le_refl _)]; exact h
              obtain ⟨z, hz⟩ : ∃ z, z = nzL ((iL SOL).take K) := ⟨_, rfl⟩
              rw [← hz] at hle ⊢
              have qle : decide ((z : Int) ≤ (r : Int)) = true := by rw [decide_eq_true_iff]; omega
              clear hz
              go_upto_region 25 with (fail)
              have qkk : ((K : Int) == (K : Int)) = true := by simp
              have hcv : ∀ W, Below wr.heap.size wr W → (convert 22 9 (.slice a3 len3 cap3)).run Try.prog W = .ok (.string (strOfNums (iL V))) W := fun W hW => (HV.out.on (bt HBR.out hW)).strM
              have hse : ((strOfNums (iL V)).toList == (strOfNums (iL V)).toList) = true := by simp
              have HRT := Lib.hid (fun (W : World) (hW : Below wr.heap.size wr W) => rtimes_any (some ⟨B3, 0, none⟩) len3 len3 XM (some ⟨g, 0, none⟩) K K SOL W ((HGR.out.on hW).mat) (HSR.out.on hW) (fun i hi => by rw [HWX.out i (by rw [HGR.out.len]; exact hi)]; exact Nat.le_refl _) (by omega))
              refine wp_region_held_drew (S := fun W => Below wr.heap.size wr W) (by kernel_rfl) (HB7.out.drew) (fun hHeld => ?_)
              refine wpAnyH_take (i := 0) (oi := { dst := some 112, op := Op.move (Operand.tmp 14), type := 30, pos := "law.go:184", after := #[], guard := none }) (v := ?v0_4) rfl (by kernel_rfl) (by kernel_rfl) (by kernel_rfl) (fun _ _ _ h => h) (Or.inl ⟨by rfl, ?hy0_4⟩) hHeld ?rest0_4
              case hy0_4 =>
                intro W' hV
                try dsimp only at hV
                go_simp
                all_goals with_reducible rfl
              case' rest0_4 => try simp only [Act.put, List.setIfInBounds_toArray, List.set_cons_zero, List.set_cons_succ]
              refine wpAnyH_take (i := 1) (oi := { dst := some 113, op := Op.binOp BinOp.eql 30 (Operand.tmp 112) (Operand.const (Value.int IntKind.i64 0)) 30, type := 4, pos := "law.go:184", after := #[{ on := 0, ground := Ground.data }], guard := none }) (v := ?v1_4) rfl (by kernel_rfl) (by kernel_rfl) (by kernel_rfl) (fun _ _ _ h => h) (Or.inl ⟨by rfl, ?hy1_4⟩) hHeld ?rest1_4
              case hy1_4 =>
                intro W' hV
                try dsimp only at hV
                go_simp
                all_goals with_reducible rfl
              case' rest1_4 => try simp only [Act.put, List.setIfInBounds_toArray, List.set_cons_zero, List.set_cons_succ]
              refine wpAnyH_take (i := 2) (oi := { dst := some 114, op := Op.move (Operand.tmp 113), type := 4, pos := "law.go:184", after := #[{ on := 1, ground := Ground.data }], guard := none }) (v := ?v2_4) rfl (by kernel_rfl) (by kernel_rfl) (by kernel_rfl) (fun _ _ _ h => h) (Or.inl ⟨by rfl, ?hy2_4⟩) hHeld ?rest2_4
              case hy2_4 =>
                intro W' hV
                try dsimp only at hV
                go_simp
                all_goals with_reducible rfl
              case' rest2_4 => try simp only [Act.put, List.setIfInBounds_toArray, List.set_cons_zero, List.set_cons_succ]
              refine wpAnyH_take (i := 3) (oi := { dst := some 115, op := Op.move (Operand.tmp 13), type := 22, pos := "law.go:184", after := #[{ on := 2, ground := Ground.guard }], guard := some (2, true) }) (v := ?v3_4) rfl (by kernel_rfl) (by kernel_rfl) (by kernel_rfl) (fun _ _ _ h => h) (Or.inl ⟨by rfl, ?hy3_4⟩) hHeld ?rest3_4
              case hy3_4 =>
                intro W' hV
                try dsimp only at hV
                go_simp
                all_goals with_reducible rfl
              case' rest3_4 => try simp only [Act.put, List.setIfInBounds_toArray, List.set_cons_zero, List.set_cons_succ]
              refine wpAnyH_take (i := 4) (oi := { dst := some 116, op := Op.call { callee := Callee.builtin Builtin.len, args := #[Operand.tmp 115], argTypes := #[22] }, type := 3, pos := "law.go:184", after := #[{ on := 3, ground := Ground.data }, { on := 2, ground := Ground.guard }], guard := some (2, true) }) (v := ?v4_4) rfl (by kernel_rfl) (by kernel_rfl) (by kernel_rfl) (fun _ _ _ h => h) (Or.inl ⟨by rfl, ?hy4_4⟩) hHeld ?rest4_4
              case hy4_4 =>
                intro W' hV
                try dsimp only at hV
                go_simp
                all_goals with_reducible rfl
              case' rest4_4 => try simp only [Act.put, List.setIfInBounds_toArray, List.set_cons_zero, List.set_cons_succ]
              refine wpAnyH_take (i := 5) (oi := { dst := some 117, op := Op.move (Operand.tmp 1), type := 3, pos := "law.go:184", after := #[{ on := 2, ground := Ground.guard }], guard := some (2, true) }) (v := ?v5_4) rfl (by kernel_rfl) (by kernel_rfl) (by kernel_rfl) (fun _ _ _ h => h) (Or.inl ⟨by rfl, ?hy5_4⟩) hHeld ?rest5_4
              case hy5_4 =>
                intro W' hV
                try dsimp only at hV
                go_simp
                all_goals with_reducible rfl
              case' rest5_4 => try simp only [Act.put, List.setIfInBounds_toArray, List.set_cons_zero, List.set_cons_succ]
              refine wpAnyH_take (i := 6) (oi := { dst := some 118, op := Op.binOp BinOp.eql 3 (Operand.tmp 116) (Operand.tmp 117) 3, type := 4, pos := "law.go:184", after := #[{ on := 4, ground := Ground.data }, { on := 5, ground := Ground.data }, { on := 2, ground := Ground.guard }], guard := some (2, true) }) (v := ?v6_4) rfl (by kernel_rfl) (by kernel_rfl) (by kernel_rfl) (fun _ _ _ h => h) (Or.inl ⟨by rfl, ?hy6_4⟩) hHeld ?rest6_4
              case hy6_4 =>
                intro W' hV
                try dsimp only at hV
                go_simp
                all_goals with_reducible rfl
              case' rest6_4 => try simp only [Act.put, List.setIfInBounds_toArray, List.set_cons_zero, List.set_cons_succ]
              refine wpAnyH_take (i := 7) (oi := { dst := some 119, op := Op.pick (Operand.tmp 114) (Operand.tmp 118) (Operand.const (Value.bool false)), type := 4, pos := "law.go:184", after := #[{ on := 2, ground := Ground.data }, { on := 6, ground := Ground.data }], guard := none }) (v := ?v7_4) rfl (by kernel_rfl) (by kernel_rfl) (by kernel_rfl) (fun _ _ _ h => h) (Or.inl ⟨by rfl, ?hy7_4⟩) hHeld ?rest7_4
              case hy7_4 =>
                intro W' hV
                try dsimp only at hV
                go_simp
                all_goals with_reducible rfl
              case' rest7_4 => try simp only [Act.put, List.setIfInBounds_toArray, List.set_cons_zero, List.set_cons_succ]
              refine wpAnyH_take (i := 8) (oi := { dst := some 120, op := Op.move (Operand.tmp 119), type := 4, pos := "law.go:184", after := #[{ on := 7, ground := Ground.data }, { on := 2, ground := Ground.chain }], guard := none }) (v := ?v8_4) rfl (by kernel_rfl) (by kernel_rfl) (by kernel_rfl) (fun _ _ _ h => h) (Or.inl ⟨by rfl, ?hy8_4⟩) hHeld ?rest8_4
              case hy8_4 =>
                intro W' hV
                try dsimp only at hV
                go_simp
                all_goals with_reducible rfl
              case' rest8_4 => try simp only [Act.put, List.setIfInBounds_toArray, List.set_cons_zero, List.set_cons_succ]
              refine wpAnyH_take (i := 9) (oi := { dst := some 121, op := Op.move (Operand.tmp 10), type := 27, pos := "law.go:184", after := #[{ on := 8, ground := Ground.guard }], guard := some (8, true) }) (v := ?v9_4) rfl (by kernel_rfl) (by kernel_rfl) (by kernel_rfl) (fun _ _ _ h => h) (Or.inl ⟨by rfl, ?hy9_4⟩) hHeld ?rest9_4
              case hy9_4 =>
                intro W' hV
                try dsimp only at hV
                go_simp
                all_goals with_reducible rfl
              case' rest9_4 => try simp only [Act.put, List.setIfInBounds_toArray, List.set_cons_zero, List.set_cons_succ]
              refine wpAnyH_take (i := 10) (oi := { dst := some 122, op := Op.move (Operand.tmp 13), type := 22, pos := "law.go:184", after := #[{ on := 8, ground := Ground.guard }], guard := some (8, true) }) (v := ?v10_4) rfl (by kernel_rfl) (by kernel_rfl) (by kernel_rfl) (fun _ _ _ h => h) (Or.inl ⟨by rfl, ?hy10_4⟩) hHeld ?rest10_4
              case hy10_4 =>
                intro W' hV
                try dsimp only at hV
                go_simp
                all_goals with_reducible rfl
              case' rest10_4 => try simp only [Act.put, List.setIfInBounds_toArray, List.set_cons_zero, List.set_cons_succ]
              refine wpAnyH_take (i := 13) (oi := { dst := some 125, op := Op.move (Operand.tmp 3), type := 22, pos := "law.go:184", after := #[{ on := 8, ground := Ground.guard }], guard := some (8, true) }) (v := ?v13_4) rfl (by kernel_rfl) (by kernel_rfl) (by kernel_rfl) (fun _ _ _ h => h) (Or.inl ⟨by rfl, ?hy13_4⟩) hHeld ?rest13_4
              case hy13_4 =>
                intro W' hV
                try dsimp only at hV
                go_simp
                all_goals with_reducible rfl
              case' rest13_4 => try simp only [Act.put, List.setIfInBounds_toArray, List.set_cons_zero, List.set_cons_succ]
              refine wpAnyH_take (i := 14) (oi := { dst := some 126, op := Op.convert 22 9 (Operand.tmp 125), type := 9, pos := "law.go:184", after := #[{ on := 13, ground := Ground.data }, { on := 8, ground := Ground.guard }], guard := some (8, true) }) (v := ?v14_4) rfl (by kernel_rfl) (by kernel_rfl) (by kernel_rfl) (fun _ _ _ h => h) (Or.inl ⟨by rfl, ?hy14_4⟩) hHeld ?rest14_4
              case hy14_4 =>
                intro W' hV
                try dsimp only at hV
                go_simp
                all_goals with_reducible rfl
              case' rest14_4 => try simp only [Act.put, List.setIfInBounds_toArray, List.set_cons_zero, List.set_cons_succ]
              refine wpAnyH_ready (rs := [11]) (by kernel_rfl) (by simp) ?_
              refine AllReadyH.cons (o := { dst := some 123, op := Op.call { callee := Callee.value (Operand.func 14), args := #[Operand.tmp 121, Operand.tmp 122], argTypes := #[27, 22] }, type := 22, pos := "law.go:184", after := #[{ on := 9, ground := Ground.data }, { on := 10, ground := Ground.data }, { on := 8, ground := Ground.chain }, { on := 8, ground := Ground.guard }], guard := some (8, true) }) rfl (fun K' hK => ?_) AllReadyH.nil
              rw [if_pos (by rfl)]
              go_simp
              go_wp2_with (go_at_call 14; go_loud (refine (HRT.out _ hHeld).mono ?_); rintro e w13 ⟨v13, rfl, ho13, hb13⟩)
              have hq13 : Below wr.heap.size wr w13 := bt hHeld hb13
              obtain ⟨a13, c13, hv13, hp13, _⟩ := Pa.own ho13
              subst hv13
              have hcv13 := hp13.strM
              rw [HTS.out] at hcv13
              have HQ13 := Lib.hid hq13
              clear ho13 hp13 hq13 hcv
              refine hK.out _ _ HQ13.out (fun hHeld1 => ?_)
              clear hK K' hHeld
              have hHeld := hHeld1
              clear hHeld1
              refine wpAnyH_ready (rs := [12]) (by kernel_rfl) (by simp) ?_
              refine AllReadyH.cons (o := { dst := some 124, op := Op.convert 22 9 (Operand.tmp 123), type := 9, pos := "law.go:184", after := #[{ on := 11, ground := Ground.data }, { on := 8, ground := Ground.guard }], guard := some (8, true) }) rfl (fun K' hK => ?_) AllReadyH.nil
              rw [if_pos (by rfl)]
              go_simp
              refine hK.out _ _ HQ13.out (fun hHeld1 => ?_)
              clear hK K' hHeld
              have hHeld := hHeld1
              clear hHeld1
              refine wpAnyH_take (i := 15) (oi := { dst := some 127, op := Op.binOp BinOp.eql 9 (Operand.tmp 124) (Operand.tmp 126) 9, type := 4, pos := "law.go:184", after := #[{ on := 12, ground := Ground.data }, { on := 14, ground := Ground.data }, { on := 8, ground := Ground.guard }], guard := some (8, true) }) (v := ?v15_5) rfl (by kernel_rfl) (by kernel_rfl) (by kernel_rfl) (fun _ _ _ h => h) (Or.inl ⟨by rfl, ?hy15_5⟩) hHeld ?rest15_5
              case hy15_5 =>
                intro W' hV
                try dsimp only at hV
                go_simp
                all_goals with_reducible rfl
              case' rest15_5 => try simp only [Act.put, List.setIfInBounds_toArray, List.set_cons_zero, List.set_cons_succ]
              refine wpAnyH_take (i := 16) (oi := { dst := some 128, op := Op.pick (Operand.tmp 120) (Operand.tmp 127) (Operand.const (Value.bool false)), type := 4, pos := "law.go:184", after := #[{ on := 8, ground := Ground.data }, { on := 15, ground := Ground.data }], guard := none }) (v := ?v16_5) rfl (by kernel_rfl) (by kernel_rfl) (by kernel_rfl) (fun _ _ _ h => h) (Or.inl ⟨by rfl, ?hy16_5⟩) hHeld ?rest16_5
              case hy16_5 =>
                intro W' hV
                try dsimp only at hV
                go_simp
                all_goals with_reducible rfl
              case' rest16_5 => try simp only [Act.put, List.setIfInBounds_toArray, List.set_cons_zero, List.set_cons_succ]
              refine wpAnyH_take (i := 17) (oi := { dst := some 129, op := Op.move (Operand.tmp 128), type := 4, pos := "law.go:184", after := #[{ on := 16, ground := Ground.data }, { on := 11, ground := Ground.chain }], guard := none }) (v := ?v17_5) rfl (by kernel_rfl) (by kernel_rfl) (by kernel_rfl) (fun _ _ _ h => h) (Or.inl ⟨by rfl, ?hy17_5⟩) hHeld ?rest17_5
              case hy17_5 =>
                intro W' hV
                try dsimp only at hV
                go_simp
                all_goals with_reducible rfl
              case' rest17_5 => try simp only [Act.put, List.setIfInBounds_toArray, List.set_cons_zero, List.set_cons_succ]
              refine wpAnyH_take (i := 18) (oi := { dst := some 130, op := Op.move (Operand.tmp 18), type := 3, pos := "law.go:184", after := #[{ on := 17, ground := Ground.guard }], guard := some (17, true) }) (v := ?v18_5) rfl (by kernel_rfl) (by kernel_rfl) (by kernel_rfl) (fun _ _ _ h => h) (Or.inl ⟨by rfl, ?hy18_5⟩) hHeld ?rest18_5
              case hy18_5 =>
                intro W' hV
                try dsimp only at hV
                go_simp
                all_goals with_reducible rfl
              case' rest18_5 => try simp only [Act.put, List.setIfInBounds_toArray, List.set_cons_zero, List.set_cons_succ]
              refine wpAnyH_take (i := 19) (oi := { dst := some 131, op := Op.move (Operand.tmp 10), type := 27, pos := "law.go:184", after := #[{ on := 17, ground := Ground.guard }], guard := some (17, true) }) (v := ?v19_5) rfl (by kernel_rfl) (by kernel_rfl) (by kernel_rfl) (fun _ _ _ h => h) (Or.inl ⟨by rfl, ?hy19_5⟩) hHeld ?rest19_5
              case hy19_5 =>
                intro W' hV
                try dsimp only at hV
                go_simp
                all_goals with_reducible rfl
              case' rest19_5 => try simp only [Act.put, List.setIfInBounds_toArray, List.set_cons_zero, List.set_cons_succ]
              refine wpAnyH_ready (rs := [20]) (by kernel_rfl) (by simp) ?_
              refine AllReadyH.cons (o := { dst := some 132, op := Op.call { callee := Callee.value (Operand.func 13), args := #[Operand.tmp 131], argTypes := #[27] }, type := 3, pos := "law.go:184", after := #[{ on := 19, ground := Ground.data }, { on := 17, ground := Ground.chain }, { on := 17, ground := Ground.guard }], guard := some (17, true) }) rfl (fun K' hK => ?_) AllReadyH.nil
              rw [if_pos (by rfl)]
              go_simp
              go_wp2_with (go_at_call 13; go_loud (refine (C2.out _ hHeld).mono ?_); rintro e w14 ⟨rfl, hb14⟩)
              have hq14 : Below wr.heap.size wr w14 := bt hHeld hb14
              have HQ14 := Lib.hid hq14
              clear hq14 hb14
              refine hK.out _ _ HQ14.out (fun hHeld1 => ?_)
              clear hK K' hHeld
              have hHeld := hHeld1
              clear hHeld1
              refine wpAnyH_take (i := 21) (oi := { dst := some 133, op := Op.binOp BinOp.leq 3 (Operand.tmp 130) (Operand.tmp 132) 3, type := 4, pos := "law.go:184", after := #[{ on := 18, ground := Ground.data }, { on := 20, ground := Ground.data }, { on := 17, ground := Ground.guard }], guard := some (17, true) }) (v := ?v21_6) rfl (by kernel_rfl) (by kernel_rfl) (by kernel_rfl) (fun _ _ _ h => h) (Or.inl ⟨by rfl, ?hy21_6⟩) hHeld ?rest21_6
              case hy21_6 =>
                intro W' hV
                try dsimp only at hV
                go_simp
                all_goals with_reducible rfl
              case' rest21_6 => try simp only [Act.put, List.setIfInBounds_toArray, List.set_cons_zero, List.set_cons_succ]
              refine wpAnyH_take (i := 22) (oi := { dst := some 134, op := Op.pick (Operand.tmp 129) (Operand.tmp 133) (Operand.const (Value.bool false)), type := 4, pos := "law.go:184", after := #[{ on := 17, ground := Ground.data }, { on := 21, ground := Ground.data }], guard := none }) (v := ?v22_6) rfl (by kernel_rfl) (by kernel_rfl) (by kernel_rfl) (fun _ _ _ h => h) (Or.inl ⟨by rfl, ?hy22_6⟩) hHeld ?rest22_6
              case hy22_6 =>
                intro W' hV
                try dsimp only at hV
                go_simp
                all_goals with_reducible rfl
              case' rest22_6 => try simp only [Act.put, List.setIfInBounds_toArray, List.set_cons_zero, List.set_cons_succ]
              refine wpAnyH_take (i := 23) (oi := { dst := some 8, op := Op.assign (Operand.tmp 134), type := 4, pos := "law.go:184", after := #[{ on := 22, ground := Ground.data }, { on := 20, ground := Ground.chain }, { on := 0, ground := Ground.phase }, { on := 1, ground := Ground.phase }, { on := 2, ground := Ground.phase }, { on := 3, ground := Ground.phase }, { on := 4, ground := Ground.phase }, { on := 5, ground := Ground.phase }, { on := 6, ground := Ground.phase }, { on := 7, ground := Ground.phase }, { on := 8, ground := Ground.phase }, { on := 9, ground := Ground.phase }, { on := 10, ground := Ground.phase }, { on := 11, ground := Ground.phase }, { on := 12, ground := Ground.phase }, { on := 13, ground := Ground.phase }, { on := 14, ground := Ground.phase }, { on := 15, ground := Ground.phase }, { on := 16, ground := Ground.phase }, { on := 17, ground := Ground.phase }, { on := 18, ground := Ground.phase }, { on := 19, ground := Ground.phase }, { on := 20, ground := Ground.phase }, { on := 21, ground := Ground.phase }, { on := 22, ground := Ground.phase }], guard := none }) (v := ?v23_6) rfl (by kernel_rfl) (by kernel_rfl) (by kernel_rfl) (fun _ _ _ h => h) (Or.inl ⟨by rfl, ?hy23_6⟩) hHeld ?rest23_6
              case hy23_6 =>
                intro W' hV
                try dsimp only at hV
                go_simp
                all_goals with_reducible rfl
              case' rest23_6 => try simp only [Act.put, List.setIfInBounds_toArray, List.set_cons_zero, List.set_cons_succ]
              refine wpAnyH_done (by kernel_rfl) ?_ _
              clear hHeld
              go_wp2
              go_ret
              exact ⟨rfl, bt HBR.out HQ14.out⟩
  · have qn : ((len3 : Int) != (N : Int)) = true := by rw [bne_iff_ne]; omega
    have hsu := Lib.hid (solve_uneq m4 N K XM fb a3 len3 cap3 w4 HM4.out hlen (by omega))
    clear hlen
    go_wp2_with (go_at_call 12; go_loud (refine hsu.out.mono ?_); rintro e w5 ⟨rfl, hb5⟩; have HB5 := Lib.hid (bt HB4.out hb5); clear hb5)
    go_ret
    exact ⟨rfl, HB5.out⟩
end Go.Proofs.Ytpoaimcioeopdaa
