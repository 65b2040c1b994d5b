/- Contracts of Solve. -/
import Derived.Test.YtpoaimcioeopdaaMinv
namespace Go.Proofs.Ytpoaimcioeopdaa
open Go.ChangeShapes Go.WideShapes Go.ChangeAt Go.RowKit Go.Shelf GF
set_option linter.unusedVariables false
set_option maxRecDepth 100000
set_option linter.unusedSimpArgs false

theorem solve1_any (bx : Nat) (a : Option Addr) (n c : Nat) (V : List GF) (W : World) (i : Nat) (hx : W.cell? ⟨bx, 0, none⟩ = some (.slice a n c)) (hp : Pa W a n c V) (hi : i < n) :
    Calls Try.prog 38 #[.int .i64 (i : Nat), .pointer (some ⟨bx, 0, none⟩)] W fun e w' => ∃ ai ci, e = .returned (.slice ai 1 ci) ∧ Pa w' ai 1 ci [co V i] ∧ Below W.heap.size W w' := by
  obtain ⟨b, off, rfl, hb, hcell⟩ := hp.at_ hi
  have hbd := hp.bd
  have q1 : (i : Int) < (n : Int) := by omega
  have q2 : (0 : Int) ≤ (i : Int) := by omega
  have q3 : (i : Int) + 1 ≤ (c : Int) := by omega
  have q4 : (i : Int) ≤ (i : Int) + 1 := by omega
  have q5 : ¬ c = i := by omega
  have q6 : (i : Int) ≤ (c : Int) := by omega
  have HC := Lib.hid hcell
  clear hp hcell
  go_enter Try.func38, Try.ntmps38
  go_wp2
  go_ret
  refine ⟨some ⟨b, off + i, none⟩, c - i, rfl, ⟨⟨rfl, allB_iL _, fun _ => ⟨b, off + i, rfl, hb, fun j hj => ?_⟩, by omega, by unfold maxLen; omega⟩, fun e => by cases e⟩, Below.refl _ _⟩
  rw [length_iL] at hj
  obtain rfl : j = 0 := by simp at hj; omega
  rw [Nat.add_zero, HC.out]
  rfl
theorem solve_uneq (a : Option Addr) (n m : Nat) (M : List (List GF)) (fb : Nat) (a2 : Option Addr) (L2 c2 : Nat) (w : World) (h : Mx w a n m M) (hne : L2 ≠ n) (hc : L2 ≤ 9223372036854775807) :
    Calls Try.prog 12 #[.pointer a, .pointer (some ⟨fb, 0, none⟩), .slice a2 L2 c2] w fun e w' => e = .returned (.tuple #[.slice none 0 0, .int .i64 1]) ∧ Below w.heap.size w w' := by
  have hA := (Below.refl w.heap.size w).alloc (Nat.le_refl _) (.cells #[.slice a2 L2 c2] 22)
  have H := Lib.hid (h.on hA)
  have hbd := h.bd
  have q : ((L2 : Int) != (n : Int)) = true := by rw [bne_iff_ne]; omega
  have HB := Lib.hid hA
  clear h hA
  go_enter Try.func12, Try.ntmps12
  go_wp2_with (first
    | (go_at_call 34; refine (size_any _ _ _ _ _ H.out).mono ?_; rintro e w' ⟨rfl, q0, rfl⟩)
    | (go_at_call 35; refine (missing_any _ _ _ _ _ (H.out.drewN _)).mono ?_; rintro e w' ⟨rfl, rfl⟩))
  go_ret2
  exact ⟨rfl, below_drewN HB.out _⟩
/-- What is solved, the first i leading columns laid. -/
theorem solA_step (piv : Nat → Nat) (u : Nat → GF) (m i : Nat) (h : piv i < m) : (iL (fl m (solA piv u i))).set (piv i) (toI (u i)) = iL (fl m (solA piv u (i + 1))) := by
  have e : fl m (solA piv u (i + 1)) = (fl m (solA piv u i)).set (piv i) (u i) := by
    apply List.ext_getElem (by simp [length_fl])
    intro k h1 h2
    rw [List.getElem_set]
    simp only [fl, List.getElem_map, List.getElem_range, solA]
    by_cases e : piv i = k
    · rw [if_pos e, if_pos e.symm]
    · rw [if_neg e, if_neg (fun h => e h.symm)]
  rw [e]
  simp [iL, List.map_set]
theorem solA_zero (piv : Nat → Nat) (u : Nat → GF) (m : Nat) : fl m (solA piv u 0) = List.replicate m 0 := by
  apply List.ext_getElem (by simp [length_fl])
  intro k h1 h2
  simp [fl, solA]
/-- What Solve tells: reduced rows, and either one that can't be, or what is solved. -/
def SolP (w w' : World) (n m : Nat) (A : Nat → Nat → GF) (v : Nat → GF) (e : Ending) : Prop :=
  ∃ (r : Nat) (N : Nat → Nat → GF) (piv : Nat → Nat), Red n m N r piv ∧ KerEq n (m + 1) (beside m A (fun i _ => v i)) (beside m N (fun i _ => N i m)) ∧
    (((∃ i, r ≤ i ∧ i < n ∧ N i m ≠ 0) ∧ e = .returned (.tuple #[.slice none 0 0, .int .i64 7])) ∨
     ((∀ i, r ≤ i → i < n → N i m = 0) ∧ ∃ g, e = .returned (.tuple #[.slice (some ⟨g, 0, none⟩) m m, .int .i64 0]) ∧ w'.ownsRow w.heap.size 5 1 (.slice (some ⟨g, 0, none⟩) m m) m ((iL (fl m (solA piv (fun i => N i m) r))).map (Value.int .u8))))

set_option maxHeartbeats 4000000 in
theorem solve_any (a : Option Addr) (n m : Nat) (M : List (List GF)) (fb : Nat) (a2 : Option Addr) (c2 : Nat) (V : List GF) (w : World) (h : Mx w a n m M) (hf : Fld w fb) (hv : Pa w a2 n c2 V) (hm : m ≤ 63) :
    Calls Try.prog 12 #[.pointer a, .pointer (some ⟨fb, 0, none⟩), .slice a2 n c2] w fun e w' => SolP w w' n m (ent M) (co V) e ∧ Below w.heap.size w w' := by
  have hA := (Below.refl w.heap.size w).alloc (Nat.le_refl _) (.cells #[.slice a2 n c2] 22)
  have H := Lib.hid (h.on hA)
  have HF := Lib.hid (hf.below hA)
  have HV := Lib.hid (hv.on hA)
  have HX := Lib.hid (lit_one w (.slice a2 n c2) 22)
  have hbd := h.bd
  have hvb := hv.bd
  have q : ((n : Int) != (n : Int)) = false := by simp
  have HB := Lib.hid hA
  have hmk := run_make_row' (P := Try.prog) 22 5 (.int .u8 0) 1 Try.underlying22 info5 rfl .i64 .i64 m (by omega) (by omega)
  clear h hA hf hv
  go_enter Try.func12, Try.ntmps12
  go_upto_region 4 with (first
    | (go_at_call 34; refine (size_any _ _ _ _ _ H.out).mono ?_; rintro e w' ⟨rfl, q0, rfl⟩)
    | (go_at_call 35; refine (missing_any _ _ _ _ _ (H.out.drewN _)).mono ?_; rintro e w' ⟨rfl, rfl⟩))
  obtain ⟨bs, hbs⟩ : ∃ bs, bs = w.heap.size := ⟨_, rfl⟩
  obtain ⟨W1, hW1⟩ : ∃ W1, W1 = (w.alloc (.cells #[.slice a2 n c2] 22)).drewN q0 := ⟨_, rfl⟩
  have HB1 := Lib.hid (show Below w.heap.size w W1 by rw [hW1]; exact below_drewN HB.out _)
  have HM1 := Lib.hid (show Mx W1 a n m M by rw [hW1]; exact H.out.drewN _)
  have HF1 := Lib.hid (show Fld W1 fb by rw [hW1]; exact HF.out.drewN _)
  have HV1 := Lib.hid (show Pa W1 a2 n c2 V by rw [hW1]; exact HV.out.on (below_drewN (Below.refl _ _) _))
  have HX1 := Lib.hid (show W1.cell? ⟨bs, 0, none⟩ = some (.slice a2 n c2) by rw [hW1, hbs]; exact HX.out)
  rw [← hW1, ← hbs]
  clear hW1 hbs
  have hbes := beside_any a n m M 38 #[] #[.pointer (some ⟨bs, 0, none⟩)] 1 (fun i => [co V i]) W1 HM1.out (enters_of Try.func38 (by kernel_rfl) rfl) (by omega) (fun W i hW hi => by
    show Calls Try.prog _ #[.int .i64 (i : Nat), .pointer (some ⟨bs, 0, none⟩)] W _
    exact solve1_any bs a2 n c2 V W i ((hW.cell (p := ⟨bs, 0, none⟩) (World.block_lt_of_cell? _ _ HX1.out)).trans HX1.out) (HV1.out.on hW) hi)
  have hbe : besx M (fun i => [co V i]) n n = mat (beside m (ent M) (fun i _ => co V i)) n (m + 1) := by
    rw [besx_all HM1.out.len HM1.out.wide (k := 1) (fun i hi => rfl)]
    refine mat_congr fun i hi j hj => ?_
    unfold beside
    by_cases e : j < m
    · rw [if_pos e, if_pos e]
    · rw [if_neg e, if_neg e, show j - m = 0 by omega]
      rfl
  rw [hbe] at hbes
  have HBES := Lib.hid hbes
  clear hbes hbe
  go_upto_region 5 with (first
    | (go_at_call 37; go_loud (refine HBES.out.mono ?_); rintro e w3 ⟨B, rfl, hg3, hb3⟩; have HG3 := Lib.hid hg3; have HB3 := Lib.hid (bt HB1.out hb3); have HF3 := Lib.hid (HF1.out.below hb3); clear hg3 hb3)
    | (go_at_call 36; go_loud (refine (reduced_any fb B 0 n n (m + 1) m _ w3 HG3.out.m8 HF3.out (by omega) (by omega) (by omega) (by omega)).mono ?_); rintro e w5 ⟨B5, c5, al, cl, r, N, piv, rfl, hg5, ho5, hr5, hk5, hp5, hb5⟩; have HG5 := Lib.hid hg5; have HO5 := Lib.hid ho5; have HR5 := Lib.hid (And.intro hr5 (And.intro hk5 hp5)); have HB5 := Lib.hid (bt HB3.out hb5); clear hg5 ho5 hr5 hk5 hp5 hb5))
  have hcap := HG5.out.cap
  have hrn := HR5.out.1.rn
  have q1 : (r : Int) ≤ (n : Int) := by omega
  have q2 : (0 : Int) ≤ (r : Int) := by omega
  have q3 : (n : Int) ≤ (c5 : Int) := by omega
  have q4 : (r : Int) ≤ (c5 : Int) := by omega
  have HKER := Lib.hid (show KerEq n (m + 1) (beside m (ent M) (fun i _ => co V i)) (beside m N (fun i _ => N i m)) from HR5.out.2.1.trans (KerEq.of_congr fun i hi c hc => by
    unfold beside
    by_cases e : c < m
    · rw [if_pos e]
    · rw [if_neg e, show c = m by omega]))
  by_cases hcr : c5 = r
  · go_upto_region 6 with (fail)
    obtain ⟨L, hL⟩ : ∃ L, L = n - r := ⟨_, rfl⟩
    rw [← hL]
    have hl1 : r + L ≤ n := by omega
    have hl2 : n ≤ r + L := by omega
    clear hL
    go_loop [48] (fun s => ∃ k : Nat, k ≤ L ∧ s = .int .i64 (k : Nat) ∧ Hid (∀ i, r ≤ i → i < r + k → N i m = 0)) (fun s => L - (intOf s).toNat)
    case atStart => exact ⟨0, Nat.zero_le _, rfl, Lib.hid (fun i h1 h2 => absurd h2 (by omega))⟩
    case round =>
      obtain ⟨k, hk, rfl, hZ⟩ := hrel
      obtain rfl : L = k := by omega
      have hz := hZ.out
      have HZ2 := Lib.hid (show ∀ i, r ≤ i → i < n → N i m = 0 from fun i h1 h2 => hz i h1 (by omega))
      have hO0 := own_made (w := w5) (e := 5) (n := m) (by unfold maxLen; omega)
      have e0 : (List.replicate m (0 : Int)).map (Value.int .u8) = (iL (fl m (solA piv (fun i => N i m) 0))).map (Value.int .u8) := by rw [solA_zero]; simp [iL, toI_zero]
      rw [e0] at hO0
      have HO0 := Lib.hid hO0
      have HW0 := Lib.hid ((Below.refl w5.heap.size w5).alloc (Nat.le_refl _) (.cells (madeCells #[.int .u8 0] m) 5))
      clear hz hO0 e0 hZ
      go_wp2
      obtain ⟨g, hg⟩ : ∃ g, g = w5.heap.size := ⟨_, rfl⟩
      rw [← hg] at HO0 HW0 ⊢
      have HG := Lib.hid hg
      clear hg
      go_loopw [62] (fun s wr => ∃ i : Nat, i ≤ r ∧ s = .int .i64 (i : Nat) ∧ Hid (wr.ownsRow g 5 1 (.slice (some ⟨g, 0, none⟩) m m) m ((iL (fl m (solA piv (fun i => N i m) i))).map (Value.int .u8))) ∧ Hid (Below g w5 wr))
        (fun s _ => r - (intOf s).toNat)
      case atStart => exact ⟨0, Nat.zero_le _, rfl, HO0, HW0⟩
      case round =>
        obtain ⟨i, hi, rfl, hO, hB⟩ := hrel
        by_cases hlt : i < r
        · have hBw : Below w5.heap.size w5 wr := by have h := hB.out; rw [HG.out] at h; exact h
          obtain ⟨gl, cl', hal, _⟩ := own_one_form HO5.out (by omega)
          cases hal
          have hgl := (HO5.out.lt gl rfl).2
          have hcl := HO5.out.cellAt i (by omega)
          have hpv : (pivs piv r)[i]? = some (.int .i64 (piv i : Nat)) := by unfold pivs; simp [hlt]
          rw [hpv] at hcl
          have hcl2 := (hBw.cell (p := ⟨gl, i, none⟩) hgl).trans hcl
          obtain ⟨ai, ci, hrc, hrp, _⟩ := HG5.out.row (i := i) (by omega)
          rw [rw_mat (by omega), length_fl] at hrc hrp
          have hrc2 := (hBw.cell (p := ⟨B5, i, none⟩) HG5.out.lt.2).trans hrc
          obtain ⟨b9, o9, rfl, hb9, hc9⟩ := (hrp.on hBw).at_ (show m < m + 1 by omega)
          rw [co_fl, if_pos (by omega)] at hc9
          have hpl := HR5.out.1.lt i hlt
          have hrb := hrp.bd
          have HST := Lib.hid (show (wr.setCell ⟨g, piv i, none⟩ (.int .u8 (toI (N i m)))).ownsRow g 5 1 (.slice (some ⟨g, 0, none⟩) m m) m ((iL (fl m (solA piv (fun i => N i m) (i + 1)))).map (Value.int .u8)) from by
            have h := (hO.out.stored (piv i) (.int .u8 (toI (N i m)))).1
            rw [map_set_u8, solA_step piv (fun i => N i m) m i hpl] at h
            exact h)
          have hcg := own_cells hO.out (piv i) hpl
          rw [Nat.zero_add] at hcg
          have hfz := hO.out.frozenAt (piv i)
          have HBS := Lib.hid (hB.out.setCell (p := ⟨g, piv i, none⟩) (Nat.le_refl _) (.int .u8 (toI (N i m))))
          obtain ⟨P, hP⟩ : ∃ P, P = piv i := ⟨_, rfl⟩
          rw [← hP] at hcl2 hcg hfz hpl HBS HST
          have HPP := Lib.hid hP
          have qi : (i : Int) < (r : Int) := by omega
          have qi0 : (0 : Int) ≤ (i : Int) := by omega
          have qin : (i : Int) < (n : Int) := by omega
          have qp : (P : Int) < (m : Int) := by omega
          have qp0 : (0 : Int) ≤ (P : Int) := by omega
          have qm : (m : Int) < ((m + 1 : Nat) : Int) := by omega
          have qm0 : (0 : Int) ≤ (m : Int) := by omega
          clear hcl hpv hrc hrp hP hBw
          go_wp2
          go_roundw
          case rel => exact ⟨i + 1, by omega, by go_num, Lib.hid HST.out, Lib.hid HBS.out⟩
          case measure => simp [intOf]; omega
        · obtain rfl : r = i := by omega
          go_wp2
          go_ret2
          have hB2 := hB.out
          rw [HG.out] at hB2
          have hgw : w.heap.size ≤ g := by have := HB5.out.size; have := HG.out; omega
          refine ⟨⟨r, N, piv, HR5.out.1, HKER.out, .inr ⟨HZ2.out, g, rfl, ?_⟩⟩, bt HB5.out hB2⟩
          have h := hO.out
          refine ⟨h.1, ?_⟩
          rcases h.2 with h3 | ⟨g', cap, cur, e, hg', h3⟩
          · exact .inl h3
          · cases e; exact .inr ⟨g, _, cur, rfl, hgw, h3⟩
  · go_upto_region 6 with (fail)
    obtain ⟨L, hL⟩ : ∃ L, L = n - r := ⟨_, rfl⟩
    rw [← hL]
    have hl1 : r + L ≤ n := by omega
    have hl2 : n ≤ r + L := by omega
    clear hL
    go_loop [48] (fun s => ∃ k : Nat, k ≤ L ∧ s = .int .i64 (k : Nat) ∧ Hid (∀ i, r ≤ i → i < r + k → N i m = 0)) (fun s => L - (intOf s).toNat)
    case atStart => exact ⟨0, Nat.zero_le _, rfl, Lib.hid (fun i h1 h2 => absurd h2 (by omega))⟩
    case round =>
      obtain ⟨k, hk, rfl, hZ⟩ := hrel
      by_cases hlk : k < L
      · obtain ⟨ai, ci, hrc, hrp, _⟩ := HG5.out.row (i := r + k) (by omega)
        rw [rw_mat (by omega), length_fl] at hrc hrp
        obtain ⟨b9, o9, rfl, hb9, hc9⟩ := hrp.at_ (show m < m + 1 by omega)
        rw [co_fl, if_pos (by omega)] at hc9
        have hrb := hrp.bd
        have qk : (k : Int) < (L : Int) := by omega
        have qk0 : (0 : Int) ≤ (k : Int) := by omega
        have qm : (m : Int) < ((m + 1 : Nat) : Int) := by omega
        have qm0 : (0 : Int) ≤ (m : Int) := by omega
        have hrk : r + k < n := by omega
        by_cases h0 : N (r + k) m = 0
        · have q0 : (toI (N (r + k) m) != 0) = false := by rw [h0]; rfl
          have HZ3 := Lib.hid (show ∀ i, r ≤ i → i < r + (k + 1) → N i m = 0 from fun i h1 h2 => by
            by_cases e : i = r + k
            · rw [e]; exact h0
            · exact hZ.out i h1 (by omega))
          clear h0 hrp hZ
          go_wp2
          go_round
          case rel => exact ⟨k + 1, by omega, by go_num, HZ3⟩
          case measure => simp [intOf]; omega
        · have q0 : (toI (N (r + k) m) != 0) = true := by rw [bne_iff_ne]; exact fun e => h0 (toI_eq_zero.1 e)
          have HN0 := Lib.hid h0
          clear h0 hrp hZ
          go_wp2
          go_ret2
          exact ⟨⟨r, N, piv, HR5.out.1, HKER.out, .inl ⟨⟨r + k, by omega, hrk, HN0.out⟩, rfl⟩⟩, HB5.out⟩
      · obtain rfl : L = k := by omega
        have hz := hZ.out
        have HZ2 := Lib.hid (show ∀ i, r ≤ i → i < n → N i m = 0 from fun i h1 h2 => hz i h1 (by omega))
        have hO0 := own_made (w := w5) (e := 5) (n := m) (by unfold maxLen; omega)
        have e0 : (List.replicate m (0 : Int)).map (Value.int .u8) = (iL (fl m (solA piv (fun i => N i m) 0))).map (Value.int .u8) := by rw [solA_zero]; simp [iL, toI_zero]
        rw [e0] at hO0
        have HO0 := Lib.hid hO0
        have HW0 := Lib.hid ((Below.refl w5.heap.size w5).alloc (Nat.le_refl _) (.cells (madeCells #[.int .u8 0] m) 5))
        clear hz hO0 e0 hZ
        go_wp2
        obtain ⟨g, hg⟩ : ∃ g, g = w5.heap.size := ⟨_, rfl⟩
        rw [← hg] at HO0 HW0 ⊢
        have HG := Lib.hid hg
        clear hg
        go_loopw [62] (fun s wr => ∃ i : Nat, i ≤ r ∧ s = .int .i64 (i : Nat) ∧ Hid (wr.ownsRow g 5 1 (.slice (some ⟨g, 0, none⟩) m m) m ((iL (fl m (solA piv (fun i => N i m) i))).map (Value.int .u8))) ∧ Hid (Below g w5 wr))
          (fun s _ => r - (intOf s).toNat)
        case atStart => exact ⟨0, Nat.zero_le _, rfl, HO0, HW0⟩
        case round =>
          obtain ⟨i, hi, rfl, hO, hB⟩ := hrel
          by_cases hlt : i < r
          · have hBw : Below w5.heap.size w5 wr := by have h := hB.out; rw [HG.out] at h; exact h
            obtain ⟨gl, cl', hal, _⟩ := own_one_form HO5.out (by omega)
            cases hal
            have hgl := (HO5.out.lt gl rfl).2
            have hcl := HO5.out.cellAt i (by omega)
            have hpv : (pivs piv r)[i]? = some (.int .i64 (piv i : Nat)) := by unfold pivs; simp [hlt]
            rw [hpv] at hcl
            have hcl2 := (hBw.cell (p := ⟨gl, i, none⟩) hgl).trans hcl
            obtain ⟨ai, ci, hrc, hrp, _⟩ := HG5.out.row (i := i) (by omega)
            rw [rw_mat (by omega), length_fl] at hrc hrp
            have hrc2 := (hBw.cell (p := ⟨B5, i, none⟩) HG5.out.lt.2).trans hrc
            obtain ⟨b9, o9, rfl, hb9, hc9⟩ := (hrp.on hBw).at_ (show m < m + 1 by omega)
            rw [co_fl, if_pos (by omega)] at hc9
            have hpl := HR5.out.1.lt i hlt
            have hrb := hrp.bd
            have HST := Lib.hid (show (wr.setCell ⟨g, piv i, none⟩ (.int .u8 (toI (N i m)))).ownsRow g 5 1 (.slice (some ⟨g, 0, none⟩) m m) m ((iL (fl m (solA piv (fun i => N i m) (i + 1)))).map (Value.int .u8)) from by
              have h := (hO.out.stored (piv i) (.int .u8 (toI (N i m)))).1
              rw [map_set_u8, solA_step piv (fun i => N i m) m i hpl] at h
              exact h)
            have hcg := own_cells hO.out (piv i) hpl
            rw [Nat.zero_add] at hcg
            have hfz := hO.out.frozenAt (piv i)
            have HBS := Lib.hid (hB.out.setCell (p := ⟨g, piv i, none⟩) (Nat.le_refl _) (.int .u8 (toI (N i m))))
            obtain ⟨P, hP⟩ : ∃ P, P = piv i := ⟨_, rfl⟩
            rw [← hP] at hcl2 hcg hfz hpl HBS HST
            have HPP := Lib.hid hP
            have qi : (i : Int) < (r : Int) := by omega
            have qi0 : (0 : Int) ≤ (i : Int) := by omega
            have qin : (i : Int) < (n : Int) := by omega
            have qp : (P : Int) < (m : Int) := by omega
            have qp0 : (0 : Int) ≤ (P : Int) := by omega
            have qm : (m : Int) < ((m + 1 : Nat) : Int) := by omega
            have qm0 : (0 : Int) ≤ (m : Int) := by omega
            clear hcl hpv hrc hrp hP hBw
            go_wp2
            go_roundw
            case rel => exact ⟨i + 1, by omega, by go_num, Lib.hid HST.out, Lib.hid HBS.out⟩
            case measure => simp [intOf]; omega
          · obtain rfl : r = i := by omega
            go_wp2
            go_ret2
            have hB2 := hB.out
            rw [HG.out] at hB2
            have hgw : w.heap.size ≤ g := by have := HB5.out.size; have := HG.out; omega
            refine ⟨⟨r, N, piv, HR5.out.1, HKER.out, .inr ⟨HZ2.out, g, rfl, ?_⟩⟩, bt HB5.out hB2⟩
            have h := hO.out
            refine ⟨h.1, ?_⟩
            rcases h.2 with h3 | ⟨g', cap, cur, e, hg', h3⟩
            · exact .inl h3
            · cases e; exact .inr ⟨g, _, cur, rfl, hgw, h3⟩
end Go.Proofs.Ytpoaimcioeopdaa
