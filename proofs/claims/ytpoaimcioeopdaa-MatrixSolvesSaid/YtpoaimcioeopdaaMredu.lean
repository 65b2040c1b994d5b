/- Contracts of Clone of rows, and of reduced. -/
import Derived.Test.YtpoaimcioeopdaaMlead
namespace Go.Proofs.Ytpoaimcioeopdaa
open Go.ChangeShapes Go.WideShapes Go.ChangeAt Go.RowKit Go.Shelf GF
set_option linter.unusedVariables false
set_option maxRecDepth 100000
set_option linter.unusedSimpArgs false

theorem info3 : (Try.prog.info? 3).map (fun i => (i.zero, i.size, i.bytes)) = some (some (.int .i64 0), 1, 8) := by kernel_rfl
theorem eql_some2 (w : World) (ad : Addr) (n c : Nat) : (binOp .eql 27 (.slice (some ad) n c) (.slice none 0 0)).run Try.prog w = .ok (.bool false) w := rfl
theorem own_none (w : World) (e : TypeId) : (w.alloc (.cells #[] e)).ownsRow w.heap.size e 1 (.slice (some ⟨w.heap.size, 0, none⟩) 0 0) 0 [] :=
  World.ownsRow_lit (base := w.heap.size) (e := e) (size := 1) w #[] 0 (Nat.le_refl _) (Nat.zero_le _) rfl
theorem own_one_form {w : World} {base : Nat} {e : TypeId} {v : Value} {n : Nat} {xs : List Value} (h : w.ownsRow base e 1 v n xs) (hn : 1 ≤ n) : ∃ g c, v = .slice (some ⟨g, 0, none⟩) n c ∧ base ≤ g := by
  rcases h.2 with ⟨_, rfl⟩ | ⟨g, cap, cur, rfl, hg, _⟩
  · omega
  · exact ⟨g, cap, rfl, hg⟩
theorem clone2_any (b off n c : Nat) (M : List (List GF)) (w : World) (hm : M8 w (some ⟨b, off, none⟩) n c M) (hn : 1 ≤ n) (hn2 : n ≤ 1000) :
    Calls Try.prog 67 #[.slice (some ⟨b, off, none⟩) n c] w fun e w' => ∃ B c', e = .returned (.slice (some ⟨B, 0, none⟩) n c') ∧ GC w' w.heap.size B n c' M ∧ Below w.heap.size w w' := by
  obtain ⟨h1, h2, h3, h4, vs, h5, h6⟩ := hm
  obtain ⟨b', off', e, hlt, hc⟩ := h6 (by omega)
  cases e
  obtain ⟨i22, hi, hz0, hz1, hz2⟩ := info_parts info22
  have HI := Lib.hid (And.intro hi (And.intro hz0 (And.intro hz1 hz2)))
  have H5 := Lib.hid h5
  have HC := Lib.hid hc
  have HV := Lib.hid (show vs.length = n * 1 by rw [h5.1, h1, Nat.mul_one])
  have HOC := Lib.hid h5.oneCell
  have he := fun w => eql_some2 w ⟨b, off, none⟩ n c
  have HA := Lib.hid ((Below.refl w.heap.size w).alloc (Nat.le_refl _) (.cells #[] 22))
  have HNW := Lib.hid (show ∀ j u, vs[j]? = some u → (w.alloc (.cells #[] 22)).cell? ((⟨b, off, none⟩ : Addr).add j) = some u from fun j u hj => by
    have hjn : j < n := by
      obtain ⟨h, _⟩ := List.getElem?_eq_some_iff.1 hj
      have := HV.out; omega
    rw [Addr.add_lit, HA.out.cell (p := ⟨b, off + j, none⟩) hlt, HC.out j hjn]
    exact hj)
  clear hi hz0 hz1 hz2 h5 hc h6 h1
  go_enter Try.func67, Try.ntmps67
  go_wp2_with ((with_reducible show wpList _ _ _ (⟨some 7, _, _, _, _, _⟩ :: _) _ _); go_loud (refine wpList_append_own _ rfl (.tmp 5) (.tmp 6) 27 rfl w.heap.size 22 i22 (.slice none 0 0) 1 24 Try.underlying27 HI.out.1 HI.out.2.1 HI.out.2.2.1 HI.out.2.2.2 rfl (by decide) _ 0 [] rfl (own_none w _) _ n c vs rfl HV.out HNW.out HOC.out (by unfold maxLen; omega) (by omega) (by simp) ?_); go_loud (intro v1 wc hown1 hg1 _; rw [Nat.zero_add, List.nil_append] at hown1; have hbel := HA.out.grown hg1 (by simp) (own_block_le _ _ _); obtain ⟨g1, c1, hv1, _⟩ := own_one_form hown1 hn; subst hv1; have HO1 := Lib.hid hown1; have HN1 := Lib.hid hbel; clear hown1 hg1 hbel))
  go_ret
  exact ⟨g1, c1, rfl, ⟨vs, HO1.out, H5.out.keep HN1.out.size (fun b hlt ho => ⟨ho.keep (HN1.out.block b hlt), HN1.out.block b hlt⟩)⟩, HN1.out⟩

theorem led_red {n c : Nat} {N : Nat → Nat → GF} {r p : Nat} {piv : Nat → Nat} (h : Red n c N r piv) (hr : r ≤ p) (hp : p < n) (hne : N p c ≠ 0) : Red n (c + 1) (led N r p c n) (r + 1) (fun t => if t < r then piv t else c) := by
  have hat : swapF N r p r = N p := by
    unfold swapF
    by_cases e : r = p
    · subst e; exact pu_self _ _ _
    · rw [pu_ne _ _ e, pu_self]
  exact ((h.swap hr hp).lead (by omega)).next (by omega) (lead_one (by rw [hat]; exact hne))
theorem led_ker {n m c : Nat} {N : Nat → Nat → GF} {r p : Nat} (hr : r ≤ p) (hp : p < n) (hne : N p c ≠ 0) : KerEq n m N (led N r p c n) := by
  have hat : swapF N r p r = N p := by
    unfold swapF
    by_cases e : r = p
    · subst e; exact pu_self _ _ _
    · rw [pu_ne _ _ e, pu_self]
  exact (KerEq.swap (by omega) hp N).trans ((KerEq.lead (N := swapF N r p) (r := r) (c := c) (by rw [hat]; exact hne)).trans (KerEq.swp (by omega) _ _ _))
theorem GC.kept {w w' : World} {base B n c : Nat} {M : List (List GF)} (h : GC w base B n c M) {r : Option Nat} (hg : w.grownBy w' r) (ht : ∀ k, r = some k → ∃ cur fz, w.heap[k]? = some (.cells cur 3 fz)) : GC w' base B n c M := by
  obtain ⟨vs, h1, h2⟩ := h
  refine ⟨vs, h1.kept hg (.inr fun e => ?_), h2.keep hg.size fun b hlt ho => ?_⟩
  · obtain ⟨cur, fz, h3⟩ := ht B e.symm
    obtain ⟨cur', h4⟩ := GC.typ ⟨vs, h1, h2⟩
    rw [h3] at h4
    injection h4 with h4
    injection h4 with _ h4 _
    exact absurd h4 (by decide)
  · have hne : some b ≠ r := fun e => by
      obtain ⟨cur, fz, h3⟩ := ht b e.symm
      obtain ⟨cur', fz', h4⟩ := ho
      rw [h3] at h4
      injection h4 with h4
      injection h4 with _ h4 _
      exact absurd h4 (by decide)
    exact ⟨ho.keep (hg.block b hlt hne), hg.block b hlt hne⟩
theorem own_typ {w : World} {base : Nat} {e : TypeId} {v : Value} {n : Nat} {xs : List Value} (h : w.ownsRow base e 1 v n xs) : ∀ k, v.ownBlock = some k → ∃ cur fz, w.heap[k]? = some (.cells cur e fz) := fun k hk => by
  rcases h.2 with ⟨rfl, _⟩ | ⟨g, cap, cur, rfl, hg, hh, _⟩
  · cases hk
  · cases hk; exact ⟨cur, _, hh⟩
/-- The leading columns, as numbers in memory. -/
def pivs (piv : Nat → Nat) (r : Nat) : List Value := (List.range r).map fun t => .int .i64 (piv t : Nat)
theorem pivs_step (piv : Nat → Nat) (r c : Nat) : pivs (fun t => if t < r then piv t else c) (r + 1) = pivs piv r ++ [.int .i64 (c : Nat)] := by
  unfold pivs
  rw [List.range_succ, List.map_append]
  congr 1
  · apply List.map_congr_left
    intro t ht
    have h : t < r := by simpa using ht
    show Value.int .i64 ((if t < r then piv t else c : Nat) : Int) = _
    rw [if_pos h]
  · simp
theorem first_col {F : Nat → Nat → GF} {t n col : Nat} (h : ¬ ∀ i, t ≤ i → i < n → F i col = 0) : ∃ j, t + j < n ∧ F (t + j) col ≠ 0 ∧ ∀ i, t ≤ i → i < t + j → F i col = 0 := by
  have hex : ∃ j, t + j < n ∧ F (t + j) col ≠ 0 := by
    refine Classical.byContradiction fun hno => h fun i h1 h2 => Classical.byContradiction fun h3 => hno ⟨i - t, by omega, ?_⟩
    rw [show t + (i - t) = i by omega]; exact h3
  obtain ⟨j, hj1, hj2⟩ := hex
  induction j using Nat.strongRecOn with
  | ind j ih =>
    by_cases hlow : ∀ i, t ≤ i → i < t + j → F i col = 0
    · exact ⟨j, hj1, hj2, hlow⟩
    · have : ∃ i, t ≤ i ∧ i < t + j ∧ F i col ≠ 0 := by
        refine Classical.byContradiction fun hno => hlow fun i h1 h2 => Classical.byContradiction fun h3 => hno ⟨i, h1, h2, h3⟩
      obtain ⟨i, h1, h2, h3⟩ := this
      exact ih (i - t) (by omega) (by omega) (by rw [show t + (i - t) = i by omega]; exact h3)

set_option maxHeartbeats 4000000 in
theorem reduced_any (fb b off n cp m cols : Nat) (F : Nat → Nat → GF) (w : World) (hm : M8 w (some ⟨b, off, none⟩) n cp (mat F n m)) (hf : Fld w fb) (hn : 1 ≤ n) (hn2 : n ≤ 64) (hm2 : m ≤ 1000) (hc : cols ≤ m) :
    Calls Try.prog 36 #[.pointer (some ⟨fb, 0, none⟩), .slice (some ⟨b, off, none⟩) n cp, .int .i64 (cols : Nat)] w fun e w' => ∃ B c' al cl r N piv, e = .returned (.tuple #[.slice (some ⟨B, 0, none⟩) n c', .slice al r cl]) ∧
      GC w' w.heap.size B n c' (mat N n m) ∧ w'.ownsRow w.heap.size 3 1 (.slice al r cl) r (pivs piv r) ∧ Red n cols N r piv ∧ KerEq n m F N ∧ (∀ s t, s < t → t < r → piv s < piv t) ∧ Below w.heap.size w w' := by
  have HM := Lib.hid hm
  have HF := Lib.hid hf
  obtain ⟨i3, hi, hz0, hz1, hz2⟩ := info_parts info3
  have HI := Lib.hid (And.intro hi (And.intro hz0 (And.intro hz1 hz2)))
  clear hm hf hi hz0 hz1 hz2
  go_enter Try.func36, Try.ntmps36
  go_wp2_with (go_at_call 67; go_loud (refine (clone2_any _ _ _ _ _ _ HM.out hn (by omega)).mono ?_); rintro e w1 ⟨B, c', rfl, hg1, hb1⟩; have HG1 := Lib.hid hg1; have HB1 := Lib.hid hb1; clear hg1 hb1)
  have HO0 := Lib.hid (show (w1.alloc (.cells #[] 3)).ownsRow w.heap.size 3 1 (.slice (some ⟨w1.heap.size, 0, none⟩) (0 : Nat) 0) 0 (pivs (fun _ => 0) 0) from World.ownsRow_lit (base := w.heap.size) (e := 3) (size := 1) w1 #[] 0 HB1.out.size (Nat.zero_le _) rfl)
  have HG0 := Lib.hid (HG1.out.on ((Below.refl w1.heap.size w1).alloc (Nat.le_refl _) (.cells #[] 3)))
  have HB0 := Lib.hid (HB1.out.alloc HB1.out.size (.cells #[] 3))
  go_loopw [15, 9] (fun s l wr => ∃ (j r : Nat) (N : Nat → Nat → GF) (piv : Nat → Nat) (al : Option Addr) (cl : Nat), j ≤ cols ∧ r ≤ n ∧ s = .int .i64 (j : Nat) ∧ l = .slice al (r : Nat) cl ∧ Hid (GC wr w.heap.size B n c' (mat N n m)) ∧ Hid (wr.ownsRow w.heap.size 3 1 (.slice al (r : Nat) cl) r (pivs piv r)) ∧ Hid (Red n j N r piv) ∧ Hid (KerEq n m F N) ∧ Hid (∀ s t, s < t → t < r → piv s < piv t) ∧ Hid (Below w.heap.size w wr))
    (fun s _ _ => cols - (intOf s).toNat)
  case atStart => exact ⟨0, 0, F, fun _ => 0, _, 0, Nat.zero_le _, Nat.zero_le _, rfl, rfl, HG0, HO0, Lib.hid (Red.none F _), Lib.hid (KerEq.refl _ _ _), Lib.hid (fun s t _ h => absurd h (by omega)), HB0⟩
  case round =>
    obtain ⟨j, r, N, piv, al, cl, hj, hrn, rfl, rfl, hG, hO, hR, hK, hP, hB⟩ := hrel
    by_cases hlt : j < cols
    · have qj : (j : Int) < (cols : Int) := by omega
      have qj0 : (0 : Int) ≤ (j : Int) := by omega
      by_cases hz : ∀ i, r ≤ i → i < n → N i j = 0
      · have hln := lead_none fb B w.heap.size n c' m r j N wr hG.out hrn (by omega) (by omega) hm2 hz
        have HLN := Lib.hid hln
        have HR2 := Lib.hid (hR.out.skip hz)
        clear hln hz
        go_wp2_with (go_at_call 68; go_loud (refine HLN.out.mono ?_); rintro e w2 ⟨rfl, hb2⟩; have HB2 := Lib.hid hb2; clear hb2)
        go_roundw
        case rel => exact ⟨j + 1, r, N, piv, al, cl, by omega, hrn, by go_num, rfl, Lib.hid (hG.out.on HB2.out), Lib.hid (own_below hO.out HB2.out), HR2, hK, hP, Lib.hid (bt hB.out HB2.out)⟩
        case measure => simp [intOf]; omega
      · obtain ⟨p, hp1, hp2, hp3⟩ := first_col hz
        have hfb := HF.out.1
        have hBl := hG.out.lt
        have hls := lead_some fb B w.heap.size n c' m r j p N wr hG.out (HF.out.below hB.out) (by omega) hp1 (by omega) (by omega) hm2 hp3 hp2
        have HLS := Lib.hid hls
        have HR2 := Lib.hid (led_red hR.out (by omega) hp1 hp2)
        have HK2 := Lib.hid (hK.out.trans (led_ker (m := m) (r := r) (p := r + p) (by omega) hp1 hp2))
        have HP2 := Lib.hid (show ∀ s t, s < t → t < r + 1 → (if s < r then piv s else j) < (if t < r then piv t else j) from fun s t h1 h2 => by
          by_cases e : t < r
          · rw [if_pos (by omega), if_pos e]; exact hP.out s t h1 e
          · rw [if_pos (by omega), if_neg e]; exact hR.out.lt s (by omega))
        have HPS := Lib.hid (pivs_step piv r j)
        clear hls hz hp2 hp3
        go_upto_region 7 with (go_at_call 68; go_loud (refine HLS.out.mono ?_); rintro e w2 ⟨rfl, hg2, hgr2⟩; have HG2 := Lib.hid hg2; have HGR2 := Lib.hid hgr2; clear hg2 hgr2)
        have ho2 : w2.ownsRow w.heap.size 3 1 (.slice al (r : Nat) cl) r (pivs piv r) := hO.out.kept HGR2.out (.inr fun e => by
          obtain ⟨cur, fz, h3⟩ := own_typ hO.out B e
          obtain ⟨cur', h4⟩ := hG.out.typ
          rw [h3] at h4
          injection h4 with h4
          injection h4 with _ h4 _
          exact absurd h4 (by decide))
        have hb2 : Below w.heap.size w w2 := hB.out.grown HGR2.out hB.out.size (fun k e => by cases e; exact hBl.1)
        have HO2 := Lib.hid ho2
        have HB2 := Lib.hid hb2
        clear ho2 hb2
        have qr : r + 1 ≤ 1000 := by omega
        go_wp2_with ((with_reducible show wpList _ _ _ (⟨some 27, _, _, _, _, _⟩ :: _) _ _); go_loud (refine wpList_append_own _ rfl (.tmp 24) (.tmp 26) 68 rfl w.heap.size 3 i3 (.int .i64 0) 1 8 Try.underlying68 HI.out.1 HI.out.2.1 HI.out.2.2.1 HI.out.2.2.2 rfl (by decide) _ r (pivs piv r) rfl (HO2.out.alloc _) _ 1 1 [_] rfl rfl (lit_cells _ _ _) (by intro u hu; cases List.mem_singleton.1 hu; rfl) (by unfold maxLen; omega) (by omega) (by have := HB2.out.size; simp; omega) ?_); go_loud (intro v1 wc hown1 hg1 _; have hbel := (HB2.out.alloc HB2.out.size (.cells #[.int .i64 (j : Nat)] 3)).grown hg1 (by have := HB2.out.size; simp; omega) (fun z hz => (HO2.out.lt z hz).1); have hgc := (HG2.out.on ((Below.refl w2.heap.size w2).alloc (Nat.le_refl _) (.cells #[.int .i64 (j : Nat)] 3))).kept hg1 (own_typ (HO2.out.alloc _)); obtain ⟨a1, c1, hv1⟩ := own_slice hown1; subst hv1; have HO1 := Lib.hid hown1; have HN1 := Lib.hid hbel; have HGC := Lib.hid hgc; clear hown1 hg1 hbel hgc))
        go_roundw
        case rel => exact ⟨j + 1, r + 1, _, _, a1, c1, by omega, by omega, by go_num, rfl, HGC, Lib.hid (by rw [HPS.out]; exact HO1.out), HR2, HK2, HP2, HN1⟩
        case measure => simp [intOf]; omega
    · obtain rfl : cols = j := by omega
      go_wp2
      go_ret2
      exact ⟨_, _, _, _, _, N, piv, rfl, hG.out, hO.out, hR.out, hK.out, hP.out, hB.out⟩
end Go.Proofs.Ytpoaimcioeopdaa
