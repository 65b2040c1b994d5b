/- Contracts of IndexFunc at lead's function value, and of lead: one column of the elimination. -/
import Derived.Test.YtpoaimcioeopdaaMmulc
import Derived.Test.YtpoaimcioeopdaaLred
namespace Go.Proofs.Ytpoaimcioeopdaa
open Go.ChangeShapes Go.WideShapes Go.ChangeAt Go.RowKit Go.Shelf GF
set_option linter.unusedVariables false
set_option maxRecDepth 100000
set_option linter.unusedSimpArgs false

theorem mat_congr {F G : Nat → Nat → GF} {n m : Nat} (h : ∀ i, i < n → ∀ j, j < m → F i j = G i j) : mat F n m = mat G n m := by
  unfold mat fl
  apply List.map_congr_left
  intro i hi
  apply List.map_congr_left
  intro j hj
  exact h i (by simpa using hi) j (by simpa using hj)
theorem mat_set {F : Nat → Nat → GF} {n m i : Nat} (f : Nat → GF) (h : i < n) : (mat F n m).set i (fl m f) = mat (pu F i f) n m := by
  apply List.ext_getElem (by simp [mat])
  intro k h1 h2
  rw [List.getElem_set]
  simp only [mat, List.getElem_map, List.getElem_range, pu]
  by_cases e : i = k
  · subst e; simp
  · rw [if_neg e, if_neg (Ne.symm e)]
theorem fl_congr {n : Nat} {f g : Nat → GF} (h : ∀ i, i < n → f i = g i) : fl n f = fl n g := by
  unfold fl
  apply List.map_congr_left
  intro i hi
  exact h i (by simpa using hi)
theorem rw_drop (M : List (List GF)) (k i : Nat) : rw_ (M.drop k) i = rw_ M (k + i) := by
  unfold rw_; simp [List.getD_eq_getElem?_getD]
theorem Mat.drop {w : World} {b off n c : Nat} {M : List (List GF)} (h : Mat w (some ⟨b, off, none⟩) n c M) {k : Nat} (hk : k ≤ n) : Mat w (some ⟨b, off + k, none⟩) (n - k) (c - k) (M.drop k) := by
  obtain ⟨h1, h2, h3, h4, vs, h5, h6⟩ := h
  refine ⟨by simp [h1], by omega, by omega, (fun e => by cases e), vs.drop k, ⟨by simp [h5.1], fun i hi => ?_⟩, fun h0 => ?_⟩
  · have hi' : k + i < M.length := by simp at hi; omega
    have := h5.2 (k + i) hi'
    rw [rw_drop, List.getElem?_drop]
    exact this
  · obtain ⟨b', off', e, hlt, hc⟩ := h6 (by omega)
    cases e
    exact ⟨b, off + k, rfl, hlt, fun i hi => by rw [List.getElem?_drop, Nat.add_assoc]; exact hc (k + i) (by omega)⟩
theorem Mat.none {w : World} {a : Option Addr} (h : a ≠ none) : Mat w a 0 0 [] := ⟨rfl, Nat.le_refl _, Nat.zero_le _, fun e => absurd e h, [], RV.nil _ _, fun h0 => absurd h0 (by omega)⟩
theorem inv_G (b : Nat) (x : GF) (w : World) (hf : Fld w b) (hx : x ≠ 0) : Calls Try.prog 48 #[.pointer (some ⟨b, 0, none⟩), .int .u8 (toI x)] w fun e w' => e = .returned (.tuple #[.int .u8 (toI (GF.inv x)), .int .i64 0]) ∧ w = w' :=
  inv_ok b x.1 w hf x.2 (GF.val_ne hx)
theorem scale_G (b : Nat) (x : GF) (m : Nat) (a1 : Option Addr) (cap1 : Nat) (P : List GF) (w : World) (hf : Fld w b) (hp : Pa w a1 m cap1 P) (hm : m ≤ 1000) :
    Calls Try.prog 86 #[.pointer (some ⟨b, 0, none⟩), .int .u8 (toI x), .slice a1 m cap1] w fun e w' => ∃ g, e = .returned (.slice (some ⟨g, 0, none⟩) m m) ∧ (w.heap.size ≤ g ∧ T8 w' g) ∧ Pa w' (some ⟨g, 0, none⟩) m m (fl m fun c => x * co P c) ∧ Below w.heap.size w w' :=
  (scale_any b (toI x) a1 m cap1 (iL P) w hf (toI_bd x) hp.1 (by omega)).mono fun e w' ⟨g, h1, h2, h3⟩ => ⟨g, h1, ⟨(h2.lt g rfl).1, own_t8 h2⟩, by
    have e : scaL (toI x) (iL P) = iL (fl m fun c => x * co P c) := by
      apply list_ext_getD (by rw [length_scaL, length_iL, length_iL, length_fl, hp.len])
      intro i hi
      rw [length_scaL, length_iL, hp.len] at hi
      rw [scaL_getD _ (by rw [length_iL, hp.len]; exact hi), getD_iL, getD_iL, co_fl, if_pos hi, gmI_G]
    rw [e] at h2; exact pa_own h2, h3⟩

/-- lead's function value: is the row's number in that column another one than 0? -/
theorem lead1_any (Bx : Nat) (a : Option Addr) (m c : Nat) (P : List GF) (col : Nat) (W : World) (r : Bool) (hx : W.cell? ⟨Bx, 0, none⟩ = some (.int .i64 (col : Nat))) (hp : Pa W a m c P) (hc : col < m) (hr : (toI (co P col) != 0) = r) :
    Calls Try.prog 85 #[.slice a m c, .pointer (some ⟨Bx, 0, none⟩)] W fun e w' => e = .returned (.bool r) ∧ W = w' := by
  obtain ⟨b, off, rfl, hb, hcell⟩ := hp.at_ hc
  have hbd := hp.bd
  have q1 : (col : Int) < (m : Int) := by omega
  have q2 : (0 : Int) ≤ (col : Int) := by omega
  subst hr
  clear hp
  go_enter Try.func85, Try.ntmps85
  go_wp2
  go_ret
  exact ⟨rfl, rfl⟩
theorem idx_any (Bx : Nat) (a : Option Addr) (L cp m : Nat) (M : List (List GF)) (col j : Nat) (w : World) (hx : w.cell? ⟨Bx, 0, none⟩ = some (.int .i64 (col : Nat))) (hm : Mat w a L cp M) (hw : Wide M m) (hc : col < m) (hj : j ≤ L) (hz : ∀ i, i < j → ent M i col = 0) (hn : j < L → ent M j col ≠ 0) (hL : L ≤ 1000) :
    Calls Try.prog 84 #[.slice a L cp, .func (.func 85) #[] #[.pointer (some ⟨Bx, 0, none⟩)]] w fun e w' => e = .returned (.int .i64 (if j < L then (j : Int) else -1)) ∧ w = w' := by
  have HM := Lib.hid hm
  have HX := Lib.hid hx
  have HW := Lib.hid hw
  have HZ := Lib.hid hz
  have HN := Lib.hid hn
  have hbd := hm.bd
  have HL := Lib.hid hm.len
  clear hm hw hz hn hx
  go_enter Try.func84, Try.ntmps84
  go_wp2
  go_loop [8] (fun k => ∃ i : Nat, i ≤ j ∧ i ≤ L ∧ k = .int .i64 (i : Nat)) (fun k => L - (intOf k).toNat)
  case atStart => exact ⟨0, Nat.zero_le _, Nat.zero_le _, rfl⟩
  case round =>
    obtain ⟨i, hi, hiL, rfl⟩ := hrel
    by_cases hlt : i < L
    · have qi : (i : Int) < (L : Int) := by omega
      have qi0 : (0 : Int) ≤ (i : Int) := by omega
      obtain ⟨b, off, ai, ci, rfl, hb, hcell, hpa⟩ := HM.out.row hlt
      rw [HW.out i (by rw [HL.out]; exact hlt)] at hcell hpa
      by_cases hij : i < j
      · have h0 : (toI (co (rw_ M i) col) != 0) = false := by have := HZ.out i hij; rw [show co (rw_ M i) col = ent M i col from rfl, this]; rfl
        have hcall := lead1_any Bx ai m ci (rw_ M i) col w false HX.out hpa hc h0
        have HC := Lib.hid hcall
        clear hcall hpa h0
        go_wp2_with (go_at_call 85; refine HC.out.mono ?_; rintro e w' ⟨rfl, rfl⟩)
        go_round
        case rel => exact ⟨i + 1, by omega, by omega, by go_num⟩
        case measure => simp [intOf]; omega
      · obtain rfl : j = i := by omega
        have h0 : (toI (co (rw_ M j) col) != 0) = true := by rw [bne_iff_ne]; exact fun e => HN.out hlt (toI_eq_zero.1 e)
        have hcall := lead1_any Bx ai m ci (rw_ M j) col w true HX.out hpa hc h0
        have HC := Lib.hid hcall
        clear hcall hpa h0
        go_wp2_with (go_at_call 85; refine HC.out.mono ?_; rintro e w' ⟨rfl, rfl⟩)
        go_ret
        exact ⟨rfl, rfl⟩
    · obtain rfl : L = i := by omega
      have hjL : j = L := by omega
      have hn0 : ¬ j < L := by omega
      clear hjL
      go_wp2
      go_ret
      exact ⟨rfl, rfl⟩
theorem ent_drop (M : List (List GF)) (k i c : Nat) : ent (M.drop k) i c = ent M (k + i) c := by
  show co (rw_ (M.drop k) i) c = co (rw_ M (k + i)) c
  rw [rw_drop]
theorem Wide.drop {M : List (List GF)} {m : Nat} (h : Wide M m) (k : Nat) : Wide (M.drop k) m := fun i hi => by
  rw [rw_drop]; exact h (k + i) (by simp at hi; omega)

/-- No row from there on has a number in that column: nothing leads. -/
theorem lead_none (fb B base n c m t col : Nat) (F : Nat → Nat → GF) (w : World) (hg : GC w base B n c (mat F n m)) (ht : t ≤ n) (hn : n ≤ 1000) (hc : col < m) (hm : m ≤ 1000) (hz : ∀ i, t ≤ i → i < n → F i col = 0) :
    Calls Try.prog 68 #[.pointer (some ⟨fb, 0, none⟩), .slice (some ⟨B, 0, none⟩) n c, .int .i64 (t : Nat), .int .i64 (col : Nat)] w fun e w' => e = .returned (.bool false) ∧ Below w.heap.size w w' := by
  have hA := (Below.refl w.heap.size w).alloc (Nat.le_refl _) (.cells #[.int .i64 (col : Nat)] 3)
  have hx := lit_one w (.int .i64 (col : Nat)) 3
  have hm1 := (hg.on hA).mat
  have hcap := hg.cap
  have hlen : (mat F n m).length = n := length_mat _ _ _
  have q1 : (t : Int) ≤ (n : Int) := by omega
  have q2 : (0 : Int) ≤ (t : Int) := by omega
  have q3 : (n : Int) ≤ (c : Int) := by omega
  have hz' : ∀ i, i < n - t → ent ((mat F n m).drop t) i col = 0 := fun i hi => by rw [ent_drop, ent_mat (by omega) hc]; exact hz _ (by omega) (by omega)
  by_cases htc : c = t
  · have htn : n = t := by omega
    have hI := idx_any w.heap.size (some ⟨B, 0, none⟩) 0 0 m [] col 0 _ hx (Mat.none (by intro e; cases e)) (fun i hi => absurd hi (by simp)) hc (Nat.le_refl _) (fun i hi => absurd hi (by omega)) (fun h => absurd h (by omega)) (by omega)
    have HI := Lib.hid hI
    subst htc
    subst htn
    clear hI hg hA hx hm1 hlen hz hz'
    go_enter Try.func68, Try.ntmps68
    go_wp2_with (go_at_call 84; go_loud (refine HI.out.mono ?_); rintro e w' ⟨rfl, rfl⟩)
    go_ret
    exact ⟨rfl, (Below.refl _ _).alloc (Nat.le_refl _) _⟩
  · have hI := idx_any w.heap.size (some ⟨B, 0 + t, none⟩) (n - t) (c - t) m ((mat F n m).drop t) col (n - t) _ hx (hm1.drop ht) ((wide_mat F n m).drop t) hc (Nat.le_refl _) hz' (fun h => absurd h (by omega)) (by omega)
    rw [if_neg (by omega), Nat.zero_add] at hI
    have HI := Lib.hid hI
    have htc2 : ¬ c = t := htc
    have htc3 : t < c := by omega
    have q4 : (t : Int) < (c : Int) := by omega
    clear hI hg hA hx hm1 hlen hz hz' htc
    go_enter Try.func68, Try.ntmps68
    go_wp2_with (go_at_call 84; go_loud (refine HI.out.mono ?_); rintro e w' ⟨rfl, rfl⟩)
    go_ret
    exact ⟨rfl, (Below.refl _ _).alloc (Nat.le_refl _) _⟩

theorem Fld.at_ {w w' : World} {b : Nat} (h : Fld w b) (hs : w.heap.size ≤ w'.heap.size) (e : w'.heap[b]? = w.heap[b]?) : Fld w' b :=
  ⟨Nat.lt_of_lt_of_le h.1 hs, fun j hj => (World.cell?_of_block (w := w) (a := ⟨b, j, none⟩) e).trans (h.2.1 j hj), fun j hj => (World.cell?_of_block (w := w) (a := ⟨b, 510 + j, none⟩) e).trans (h.2.2 j hj)⟩
theorem gB_trans {w w1 w2 : World} {r : Option Nat} (h : w.grownBy w1 r) (k : w1.grownBy w2 r) : w.grownBy w2 r :=
  ⟨k.os.trans h.os, k.tape.trans h.tape, k.output.trans h.output, Nat.le_trans h.size k.size, fun b hb hn => (k.block b (Nat.lt_of_lt_of_le hb h.size) hn).trans (h.block b hb hn)⟩
theorem gB_below {w w1 : World} (r : Option Nat) (h : Below w.heap.size w w1) : w.grownBy w1 r :=
  ⟨h.os, h.tape, h.output, h.size, fun b hb _ => h.block b hb⟩
theorem gB_set (w : World) (B i : Nat) (v : Value) : w.grownBy (w.setCell ⟨B, i, none⟩ v) (some B) :=
  ⟨rfl, rfl, rfl, by simp, fun b hb hn => Below.heap_setCell _ _ _ _ (fun e => hn (by rw [e]))⟩
theorem gB_drew {w w1 : World} {r : Option Nat} (h : w.grownBy w1 r) : w.grownBy w1.drew r := ⟨h.os, h.tape, h.output, h.size, h.block⟩
/-- What becomes of the rows when the row p leads in that column, as the t-th. -/
def led (F : Nat → Nat → GF) (t p col n : Nat) : Nat → Nat → GF := swp (lead (swapF F t p) t col) t (fun k => lead (swapF F t p) t col k col) n
theorem swp_self (N : Nat → Nat → GF) (t : Nat) (a : Nat → GF) : swp N t a (t + 1) = swp N t a t := by
  funext k c
  unfold swp
  by_cases h : k < t
  · rw [if_pos ⟨by omega, by omega⟩, if_pos ⟨h, by omega⟩]
  · rw [if_neg (fun e => by omega), if_neg (fun e => by omega)]
theorem swp_zero' (N : Nat → Nat → GF) (t : Nat) (a : Nat → GF) : swp N t a 0 = N := by
  funext k c
  unfold swp
  rw [if_neg (fun e => by omega)]
theorem swp_step (N : Nat → Nat → GF) {t i : Nat} (a : Nat → GF) (h : i ≠ t) : swp N t a (i + 1) = pu (swp N t a i) i (fun c => N i c + a i * N t c) := by
  funext k c
  unfold swp pu
  by_cases e : k = i
  · subst e
    rw [if_pos ⟨by omega, h⟩, if_pos rfl]
  · rw [if_neg e]
    show (if k < i + 1 ∧ k ≠ t then N k c + a k * N t c else N k c) = if k < i ∧ k ≠ t then N k c + a k * N t c else N k c
    by_cases h2 : k < i ∧ k ≠ t
    · rw [if_pos h2, if_pos ⟨by omega, h2.2⟩]
    · rw [if_neg h2, if_neg (fun h3 => h2 ⟨by omega, h3.2⟩)]
theorem swp_row (N : Nat → Nat → GF) (t : Nat) (a : Nat → GF) (i : Nat) : swp N t a i i = N i := by
  funext c; unfold swp; rw [if_neg (fun e => by omega)]
theorem swp_lead (N : Nat → Nat → GF) (t : Nat) (a : Nat → GF) (i : Nat) : swp N t a i t = N t := by
  funext c; unfold swp; rw [if_neg (fun e => e.2 rfl)]

set_option maxHeartbeats 8000000 in
theorem lead_some (fb B base n c m t col j : Nat) (F : Nat → Nat → GF) (w : World) (hg : GC w base B n c (mat F n m)) (hf : Fld w fb) (hfb : fb ≠ B) (ht : t + j < n) (hn : n ≤ 1000) (hc : col < m) (hm : m ≤ 1000) (hz : ∀ i, t ≤ i → i < t + j → F i col = 0) (hp : F (t + j) col ≠ 0) :
    Calls Try.prog 68 #[.pointer (some ⟨fb, 0, none⟩), .slice (some ⟨B, 0, none⟩) n c, .int .i64 (t : Nat), .int .i64 (col : Nat)] w fun e w' => e = .returned (.bool true) ∧ GC w' base B n c (mat (led F t (t + j) col n) n m) ∧ w.grownBy w' (some B) := by
  have hA := (Below.refl w.heap.size w).alloc (Nat.le_refl _) (.cells #[.int .i64 (col : Nat)] 3)
  have hx := lit_one w (.int .i64 (col : Nat)) 3
  have hg1 := hg.on hA
  have hf1 := hf.below hA
  have HF0 := Lib.hid hf
  have hm1 := hg1.mat
  have hcap := hg.cap
  obtain ⟨Bx, hBx⟩ : ∃ Bx, Bx = w.heap.size := ⟨_, rfl⟩
  obtain ⟨w1, hw1⟩ : ∃ w1, w1 = w.alloc (.cells #[.int .i64 (col : Nat)] 3) := ⟨_, rfl⟩
  rw [← hw1] at hA hx hg1 hf1 hm1
  rw [← hBx] at hx
  have hBxB : Bx ≠ B := by have := hg.lt.2; omega
  have hBx1 : Bx < w1.heap.size := by rw [hw1, hBx]; simp
  have hI := idx_any Bx (some ⟨B, 0 + t, none⟩) (n - t) (c - t) m ((mat F n m).drop t) col j w1 hx (hm1.drop (by omega)) ((wide_mat F n m).drop t) hc (by omega) (fun i hi => by rw [ent_drop, ent_mat (by omega) hc]; exact hz _ (by omega) (by omega)) (fun h => by rw [ent_drop, ent_mat (by omega) hc]; exact hp) (by omega)
  rw [if_pos (by omega), Nat.zero_add, hw1, hBx] at hI
  have HI := Lib.hid hI
  have hwd := wide_mat F n m
  -- the exchange
  obtain ⟨a1, c1, hr1, hp1, ht1⟩ := hg1.row (i := t) (by omega)
  obtain ⟨a2, c2, hr2, hp2, ht2⟩ := hg1.row (i := t + j) (by omega)
  rw [rw_mat (by omega)] at hr1 hp1 ht1 hr2 hp2 ht2
  rw [length_fl] at hr1 hp1 ht1 hr2 hp2 ht2
  have hs1 := hg1.set (i := t) (by omega) (P := fl m (F (t + j))) (a := a2) (c := c2) (by rw [length_fl]; exact hp2) (by rw [length_fl]; exact ht2)
  rw [length_fl, mat_set _ (by omega)] at hs1
  have hbk : ∀ b, b ≠ B → (w1.setCell ⟨B, t, none⟩ (.slice a2 m c2)).heap[b]? = w1.heap[b]? := fun b h => Below.heap_setCell _ _ _ _ h
  have hp1' : Pa (w1.setCell ⟨B, t, none⟩ (.slice a2 m c2)) a1 m c1 (fl m (F t)) := by
    refine ⟨⟨hp1.1.1, hp1.1.2.1, fun h0 => ?_, hp1.1.2.2.2.1, hp1.1.2.2.2.2⟩, hp1.2⟩
    obtain ⟨b, off, e, hlt, hcc⟩ := hp1.1.2.2.1 h0
    rw [length_iL, length_fl] at h0
    refine ⟨b, off, e, by simpa using hlt, fun i hi => ?_⟩
    rw [World.cell?_of_block (w := w1) (a := ⟨b, off + i, none⟩) (hbk b (hg1.ne (ht1 b off e h0)))]
    exact hcc i hi
  have hs2 := hs1.set (i := t + j) (by omega) (P := fl m (F t)) (a := a1) (c := c1) (by rw [length_fl]; exact hp1') (fun b off e h0 => by
    rw [length_fl] at h0
    exact (ht1 b off e h0).keep (hbk b (hg1.ne (ht1 b off e h0))))
  rw [length_fl, mat_set _ (by omega)] at hs2
  change GC _ base B n c (mat (swapF F t (t + j)) n m) at hs2
  obtain ⟨a3, c3, hr3, _, _⟩ := hs1.row (i := t + j) (by omega)
  have hfz3 := hs1.free (t + j)
  have hfz1 := hg1.free t
  obtain ⟨W2, hW2⟩ : ∃ W2, W2 = ((w1.setCell ⟨B, t, none⟩ (.slice a2 m c2)).setCell ⟨B, t + j, none⟩ (.slice a1 m c1)).drew := ⟨_, rfl⟩
  have hg2 : GC W2 base B n c (mat (swapF F t (t + j)) n m) := by rw [hW2]; exact hs2
  have hgr2 : w1.grownBy W2 (some B) := by rw [hW2]; exact gB_drew (gB_trans (gB_set _ _ _ _) (gB_set _ _ _ _))
  have hx2 : W2.cell? ⟨Bx, 0, none⟩ = some (.int .i64 (col : Nat)) := (World.cell?_of_block (w := w1) (a := ⟨Bx, 0, none⟩) (hgr2.block Bx hBx1 (fun e => hBxB (by injection e)))).trans hx
  have hf2 : Fld W2 fb := hf1.at_ hgr2.size (hgr2.block fb hf1.1 (fun e => hfb (by injection e)))
  have HW2 := Lib.hid hW2
  clear hW2
  have HG2 := Lib.hid hg2
  have HGR2 := Lib.hid (gB_trans (gB_below (some B) hA) hgr2)
  have HX2 := Lib.hid hx2
  have HF2 := Lib.hid hf2
  have q1 : (t : Int) ≤ (n : Int) := by omega
  have q2 : (0 : Int) ≤ (t : Int) := by omega
  have q3 : (n : Int) ≤ (c : Int) := by omega
  have q4 : (t : Int) < (n : Int) := by omega
  have q5 : (t : Int) + (j : Int) < (n : Int) := by omega
  have q6 : (0 : Int) ≤ (j : Int) := by omega
  have htc2 : ¬ c = t := by omega
  have HBX := Lib.hid hBx
  have HW1 := Lib.hid hw1
  clear hBx hw1
  clear hI hwd hs1 hs2 hbk hp1 hp1' hp2 ht1 ht2 hg2 hgr2 hx2 hf2 hg1 hf1 hm1 hg hf hz hx
  go_enter Try.func68, Try.ntmps68
  go_upto_region 4 with (go_at_call 84; go_loud (refine HI.out.mono ?_); rintro e w' ⟨rfl, rfl⟩)
  rw [← HW1.out, ← HBX.out]
  go_region
  rw [← HW2.out]
  clear hr1 hr2 hr3 hfz3 hfz1
  have hx2 := HX2.out
  obtain ⟨a4, c4, hr4, hp4, ht4⟩ := HG2.out.row (i := t) (by omega)
  rw [rw_mat (by omega), length_fl] at hr4 hp4
  have hat : swapF F t (t + j) t = F (t + j) := by
    unfold swapF
    by_cases e : j = 0
    · subst e; exact pu_self _ _ _
    · rw [pu_ne _ _ (by omega), pu_self]
  rw [hat] at hp4
  obtain ⟨b4, o4, rfl, hb4, hcb4⟩ := hp4.at_ hc
  rw [co_fl, if_pos hc] at hcb4
  have hr4d : W2.drew.cell? ⟨B, t, none⟩ = some (.slice (some ⟨b4, o4, none⟩) m c4) := hr4
  have hcb4d : W2.drew.cell? ⟨b4, o4 + col, none⟩ = some (.int .u8 (toI (F (t + j) col))) := hcb4
  have hx2d : W2.drew.cell? ⟨Bx, 0, none⟩ = some (.int .i64 (col : Nat)) := hx2
  have hcb := hp4.bd
  have HP4 := Lib.hid hp4
  have q7 : (col : Int) < (m : Int) := by omega
  have q8 : (0 : Int) ≤ (col : Int) := by omega
  obtain ⟨N, hN⟩ : ∃ N, N = lead (swapF F t (t + j)) t col := ⟨_, rfl⟩
  have hNt : (fl m fun c => GF.inv (F (t + j) col) * co (fl m (F (t + j))) c) = fl m (fun d => GF.inv (swapF F t (t + j) t col) * swapF F t (t + j) t d) := fl_congr fun i hi => by rw [co_fl, if_pos hi, hat]
  have hsc := fun k => scale_G fb (GF.inv (F (t + j) col)) m (some ⟨b4, o4, none⟩) c4 (fl m (F (t + j))) (W2.drewN k) (HF2.out.drewN k) (HP4.out.on (below_drewN (Below.refl _ _) k)) hm
  rw [hNt] at hsc
  have HSC := Lib.hid hsc
  have HNN := Lib.hid hN
  have hBW2 := HG2.out.lt.2
  clear hp4 hat hNt hsc hN
  go_wp2_with fail
  go_quiet ((go_at_call 48; exact Calls.quiet_of ((inv_G _ _ _ (HF2.out.drewN _) hp).mono fun _ _ ⟨he, hw⟩ => ⟨he, 0, hw.symm⟩)))
  go_wp2_with (go_at_call 86; go_loud (refine (HSC.out _).mono ?_); rintro e w9 ⟨g9, rfl, hg9, hp9, hb9⟩; have hc9 := (hb9.cell (p := ⟨B, t, none⟩) hBW2).trans hr4; have hf9 := (hb9.frozen (p := ⟨B, t, none⟩) hBW2).trans (HG2.out.free t))
  rename_i nq
  have hb10 : Below W2.heap.size W2 w9 := ⟨hb9.os, hb9.tape, hb9.output, hb9.size, hb9.block⟩
  have hg3 := (HG2.out.on hb10).set (i := t) (by omega) (P := fl m (fun d => GF.inv (swapF F t (t + j) t col) * swapF F t (t + j) t d)) (a := some ⟨g9, 0, none⟩) (c := m) (by rw [length_fl]; exact hp9) (fun b off e _ => by cases e; exact hg9.2)
  rw [length_fl, mat_set _ (by omega)] at hg3
  change GC _ base B n c (mat (lead (swapF F t (t + j)) t col) n m) at hg3
  rw [← HNN.out, ← swp_zero' N t (fun k => N k col)] at hg3
  have HG3 := Lib.hid hg3
  have HGR3 := Lib.hid (gB_trans HGR2.out (gB_trans (gB_below (some B) hb10) (gB_set w9 B t (.slice (some ⟨g9, 0, none⟩) m m))))
  have HX3 : Hid ((w9.setCell ⟨B, t, none⟩ (.slice (some ⟨g9, 0, none⟩) m m)).cell? ⟨Bx, 0, none⟩ = some (.int .i64 (col : Nat))) := Lib.hid (by
    rw [World.cell?_setCell_far _ _ _ _ (fun e => hBxB e.symm)]
    exact (hb10.cell (p := ⟨Bx, 0, none⟩) (by have := World.block_lt_of_cell? _ _ HX2.out; exact this)).trans HX2.out)
  clear hb9 hb10 hg3 hp9 hc9 hf9 hg9 hr4 hr4d hcb4 hcb4d hx2 hx2d HSC HP4 HI
  go_loopw [63] (fun s wr => ∃ i : Nat, i ≤ n ∧ s = .int .i64 (i : Nat) ∧ Hid (GC wr base B n c (mat (swp N t (fun k => N k col) i) n m)) ∧ Hid (wr.cell? ⟨Bx, 0, none⟩ = some (.int .i64 (col : Nat))) ∧ Hid (w.grownBy wr (some B)))
    (fun s _ => n - (intOf s).toNat)
  case atStart => exact ⟨0, Nat.zero_le _, rfl, HG3, HX3, HGR3⟩
  case round =>
    obtain ⟨i, hi, rfl, hR, hX, hGR⟩ := hrel
    by_cases hlt : i < n
    · have qi : (i : Int) < (n : Int) := by omega
      have qi0 : (0 : Int) ≤ (i : Int) := by omega
      obtain ⟨ai, ci, hri, hpi, hti⟩ := hR.out.row hlt
      rw [rw_mat hlt, length_fl] at hri hpi hti
      rw [swp_row] at hpi
      by_cases hit : i = t
      · have qt : ((i : Int) != (t : Int)) = false := by rw [hit]; simp
        have hs := swp_self N t (fun k => N k col)
        rw [← hit] at hs
        have HS := Lib.hid hs
        clear hs hpi hti
        have HIT := Lib.hid hit
        clear hit
        go_wp2
        go_roundw
        case rel => exact ⟨i + 1, by omega, by go_num, by have h := HS.out; rw [HIT.out] at h ⊢; rw [h]; have h2 := hR; rw [HIT.out] at h2; exact h2, hX, hGR⟩
        case measure => simp [intOf]; omega
      · have qt : ((i : Int) != (t : Int)) = true := by rw [bne_iff_ne]; omega
        obtain ⟨bi, oi, rfl, hbi, hci⟩ := hpi.at_ hc
        rw [co_fl, if_pos hc] at hci
        have hxr := hX.out
        have hpb := hpi.bd
        by_cases h0 : N i col = 0
        · have q0 : (toI (N i col) != 0) = false := by rw [h0]; rfl
          have hs : mat (swp N t (fun k => N k col) (i + 1)) n m = mat (swp N t (fun k => N k col) i) n m := by
            rw [swp_step N _ hit]
            refine mat_congr fun k hk d hd => ?_
            unfold pu
            by_cases e : k = i
            · subst e
              rw [if_pos rfl, swp_row, h0, GF.zero_mul, GF.add_zero]
            · rw [if_neg e]
          have HS := Lib.hid hs
          clear hs hpi hti h0
          go_wp2
          go_roundw
          case rel => exact ⟨i + 1, by omega, by go_num, by rw [HS.out]; exact hR, hX, hGR⟩
          case measure => simp [intOf]; omega
        · have q0 : (toI (N i col) != 0) = true := by rw [bne_iff_ne]; exact fun e => h0 (toI_eq_zero.1 e)
          obtain ⟨at_, ct, hrt, hpt, htt⟩ := hR.out.row (i := t) (by omega)
          rw [rw_mat (by omega), length_fl] at hrt hpt htt
          rw [swp_lead] at hpt
          rename World => w1
          have hfw : Fld w1 fb := HF0.out.at_ hGR.out.size (hGR.out.block fb HF0.out.1 (fun e => hfb (by injection e)))
          have hfd : Fld w1.drew fb := hfw
          have hsum := sum_G fb (N i col) m (some ⟨bi, oi, none⟩) ci (fl m (N i)) at_ ct (fl m (N t)) w1.drew hfd (hpi.on (Below.refl _ _).drew) (hpt.on (Below.refl _ _).drew) hm
          have hss : (fl m fun c => co (fl m (N i)) c + N i col * co (fl m (N t)) c) = fl m (fun c => N i c + N i col * N t c) := fl_congr fun d hd => by rw [co_fl, co_fl, if_pos hd, if_pos hd]
          rw [hss] at hsum
          have HSUM := Lib.hid hsum
          have hBl := hR.out.lt.2
          have hBi := hR.out.ne (hti bi oi rfl (by omega))
          have HN := Lib.hid (show B ≠ Bx ∧ B ≠ bi ∧ (⟨B, i, none⟩ : Addr) ≠ ⟨B, t, none⟩ from ⟨fun e => hBxB e.symm, fun e => hBi e.symm, fun e => hit (by injection e)⟩)
          have HL := Lib.hid (show B < w1.heap.size ∧ Bx < w1.heap.size ∧ bi < w1.heap.size from ⟨hBl, World.block_lt_of_cell? _ _ hxr, hbi⟩)
          have hptb := hpt.bd
          have HPI := Lib.hid hpi
          clear hsum hss hfd hfw hBl hBi hpi hpt hti htt h0
          go_upto_region 11 with (fail)
          have KH := Lib.hid (show w1.drew.cell? ⟨Bx, 0, none⟩ = some (.int .i64 (col : Nat)) ∧ w1.drew.cell? ⟨bi, oi + col, none⟩ = some (.int .u8 (toI (N i col))) ∧ w1.drew.cell? ⟨B, t, none⟩ = some (.slice at_ m ct) from ⟨hxr, hci, hrt⟩)
          clear hxr hci hrt
          refine wp_region_held_drew (S := fun W => W.cell? ⟨Bx, 0, none⟩ = some (.int .i64 (col : Nat)) ∧ W.cell? ⟨bi, oi + col, none⟩ = some (.int .u8 (toI (N i col))) ∧ W.cell? ⟨B, t, none⟩ = some (.slice at_ m ct)) (by kernel_rfl) KH.out (fun hHeld => ?_)
          refine wpAnyH_take (i := 0) (v := ?v0) rfl (by kernel_rfl) (by kernel_rfl) (by kernel_rfl) (fun _ _ _ h => h) (Or.inl ⟨by rfl, ?hy0⟩) hHeld ?rest0
          case hy0 =>
            intro V hV
            try dsimp only at hV
            go_simp
            all_goals with_reducible rfl
          case' rest0 => try simp only [Act.put, List.setIfInBounds_toArray, List.set_cons_zero, List.set_cons_succ]
          refine wpAnyH_take (i := 1) (v := ?v1) rfl (by kernel_rfl) (by kernel_rfl) (by kernel_rfl) (fun _ _ _ h => h) (Or.inl ⟨by rfl, ?hy1⟩) hHeld ?rest1
          case hy1 =>
            intro V hV
            try dsimp only at hV
            go_simp
            all_goals with_reducible rfl
          case' rest1 => try simp only [Act.put, List.setIfInBounds_toArray, List.set_cons_zero, List.set_cons_succ]
          refine wpAnyH_take (i := 2) (v := ?v2) rfl (by kernel_rfl) (by kernel_rfl) (by kernel_rfl) (fun _ _ _ h => h) (Or.inl ⟨by rfl, ?hy2⟩) hHeld ?rest2
          case hy2 =>
            intro V hV
            try dsimp only at hV
            go_simp
            all_goals with_reducible rfl
          case' rest2 => try simp only [Act.put, List.setIfInBounds_toArray, List.set_cons_zero, List.set_cons_succ]
          refine wpAnyH_take (i := 3) (v := ?v3) rfl (by kernel_rfl) (by kernel_rfl) (by kernel_rfl) (fun _ _ _ h => h) (Or.inl ⟨by rfl, ?hy3⟩) hHeld ?rest3
          case hy3 =>
            intro V hV
            try dsimp only at hV
            go_simp
            all_goals with_reducible rfl
          case' rest3 => try simp only [Act.put, List.setIfInBounds_toArray, List.set_cons_zero, List.set_cons_succ]
          refine wpAnyH_take (i := 4) (v := ?v4) rfl (by kernel_rfl) (by kernel_rfl) (by kernel_rfl) (fun _ _ _ h => h) (Or.inl ⟨by rfl, ?hy4⟩) hHeld ?rest4
          case hy4 =>
            intro V hV
            try dsimp only at hV
            go_simp
            all_goals with_reducible rfl
          case' rest4 => try simp only [Act.put, List.setIfInBounds_toArray, List.set_cons_zero, List.set_cons_succ]
          refine wpAnyH_take (i := 5) (v := ?v5) rfl (by kernel_rfl) (by kernel_rfl) (by kernel_rfl) (fun _ _ _ h => h) (Or.inl ⟨by rfl, ?hy5⟩) hHeld ?rest5
          case hy5 =>
            intro V hV
            try dsimp only at hV
            go_simp
            all_goals with_reducible rfl
          case' rest5 => try simp only [Act.put, List.setIfInBounds_toArray, List.set_cons_zero, List.set_cons_succ]
          refine wpAnyH_take (i := 6) (v := ?v6) rfl (by kernel_rfl) (by kernel_rfl) (by kernel_rfl) (fun _ _ _ h => h) (Or.inl ⟨by rfl, ?hy6⟩) hHeld ?rest6
          case hy6 =>
            intro V hV
            try dsimp only at hV
            go_simp
            all_goals with_reducible rfl
          case' rest6 => try simp only [Act.put, List.setIfInBounds_toArray, List.set_cons_zero, List.set_cons_succ]
          refine wpAnyH_take (i := 7) (v := ?v7) rfl (by kernel_rfl) (by kernel_rfl) (by kernel_rfl) (fun _ _ _ h => h) (Or.inl ⟨by rfl, ?hy7⟩) hHeld ?rest7
          case hy7 =>
            intro V hV
            try dsimp only at hV
            go_simp
            all_goals with_reducible rfl
          case' rest7 => try simp only [Act.put, List.setIfInBounds_toArray, List.set_cons_zero, List.set_cons_succ]
          refine wpAnyH_take (i := 8) (v := ?v8) rfl (by kernel_rfl) (by kernel_rfl) (by kernel_rfl) (fun _ _ _ h => h) (Or.inl ⟨by rfl, ?hy8⟩) hHeld ?rest8
          case hy8 =>
            intro V hV
            try dsimp only at hV
            go_simp
            all_goals with_reducible rfl
          case' rest8 => try simp only [Act.put, List.setIfInBounds_toArray, List.set_cons_zero, List.set_cons_succ]
          refine wpAnyH_take (i := 9) (v := ?v9) rfl (by kernel_rfl) (by kernel_rfl) (by kernel_rfl) (fun _ _ _ h => h) (Or.inl ⟨by rfl, ?hy9⟩) hHeld ?rest9
          case hy9 =>
            intro V hV
            try dsimp only at hV
            go_simp
            all_goals with_reducible rfl
          case' rest9 => try simp only [Act.put, List.setIfInBounds_toArray, List.set_cons_zero, List.set_cons_succ]
          refine wpAnyH_take (i := 10) (v := ?v10) rfl (by kernel_rfl) (by kernel_rfl) (by kernel_rfl) (fun _ _ _ h => h) (Or.inl ⟨by rfl, ?hy10⟩) hHeld ?rest10
          case hy10 =>
            intro V hV
            try dsimp only at hV
            go_simp
            all_goals with_reducible rfl
          case' rest10 => try simp only [Act.put, List.setIfInBounds_toArray, List.set_cons_zero, List.set_cons_succ]
          refine wpAnyH_take (i := 11) (v := ?v11) rfl (by kernel_rfl) (by kernel_rfl) (by kernel_rfl) (fun _ _ _ h => h) (Or.inl ⟨by rfl, ?hy11⟩) hHeld ?rest11
          case hy11 =>
            intro V hV
            try dsimp only at hV
            go_simp
            all_goals with_reducible rfl
          case' rest11 => try simp only [Act.put, List.setIfInBounds_toArray, List.set_cons_zero, List.set_cons_succ]
          refine wpAnyH_ready (rs := [12]) (by kernel_rfl) (by simp) ?_
          refine AllReadyH.cons rfl (fun K hK => ?_) AllReadyH.nil
          go_simp
          go_wp2_with (go_at_call 87; go_loud (refine HSUM.out.mono ?_); rintro e w8 ⟨g8, rfl, hg8, hp8, hb8⟩)
          have hc8 := (hb8.cell (p := ⟨B, i, none⟩) HL.out.1).trans hri
          have hf8 := (hb8.frozen (p := ⟨B, i, none⟩) HL.out.1).trans (hR.out.free i)
          have K8 := Lib.hid (show w8.cell? ⟨Bx, 0, none⟩ = some (.int .i64 (col : Nat)) ∧ w8.cell? ⟨bi, oi + col, none⟩ = some (.int .u8 (toI (N i col))) ∧ w8.cell? ⟨B, t, none⟩ = some (.slice at_ m ct) from ⟨(hb8.cell (p := ⟨Bx, 0, none⟩) HL.out.2.1).trans KH.out.1, (hb8.cell (p := ⟨bi, oi + col, none⟩) HL.out.2.2).trans KH.out.2.1, (hb8.cell (p := ⟨B, t, none⟩) HL.out.1).trans KH.out.2.2⟩)
          refine hK.out _ _ K8.out (fun hHeld1 => ?_)
          clear hK K hHeld
          have hHeld := hHeld1
          clear hHeld1
          refine wpAnyH_take (i := 13) (v := ?v13) rfl (by kernel_rfl) (by kernel_rfl) (by kernel_rfl) (fun _ _ _ h => h) (Or.inl ⟨by rfl, ?hy13⟩) hHeld ?rest13
          case hy13 =>
            intro V hV
            try dsimp only at hV
            go_simp
            all_goals with_reducible rfl
          case' rest13 => try simp only [Act.put, List.setIfInBounds_toArray, List.set_cons_zero, List.set_cons_succ]
          refine wpAnyH_ready (rs := [14]) (by kernel_rfl) (by simp) ?_
          refine AllReadyH.cons rfl (fun K hK => ?_) AllReadyH.nil
          go_simp
          refine hK.out _ _ ⟨by rw [World.cell?_setCell_far _ _ _ _ HN.out.1]; exact K8.out.1, by rw [World.cell?_setCell_far _ _ _ _ HN.out.2.1]; exact K8.out.2.1, by rw [World.cell?_setCell_other _ _ _ _ HN.out.2.2]; exact K8.out.2.2⟩ (fun hHeld1 => ?_)
          clear hK K hHeld
          have hHeld := hHeld1
          clear hHeld1
          refine wpAnyH_done (by kernel_rfl) ?_ _
          clear hHeld
          have hb10 : Below w1.heap.size w1 w8 := bt ((Below.refl _ _).drew) hb8
          have h1 := (hR.out.on hb10).set hlt (a := some ⟨g8, 0, none⟩) (c := m) (P := fl m (fun c => N i c + N i col * N t c)) (by rw [length_fl]; exact hp8) (fun b off e _ => by cases e; exact hg8.2)
          rw [length_fl, mat_set _ hlt, ← swp_step N (fun k => N k col) hit] at h1
          have HG8 := Lib.hid h1
          have HX8 : Hid ((w8.setCell ⟨B, i, none⟩ (.slice (some ⟨g8, 0, none⟩) m m)).cell? ⟨Bx, 0, none⟩ = some (.int .i64 (col : Nat))) := Lib.hid (by rw [World.cell?_setCell_far _ _ _ _ HN.out.1]; exact K8.out.1)
          have HGR8 := Lib.hid (gB_trans hGR.out (gB_trans (gB_below (some B) hb10) (gB_set w8 B i (.slice (some ⟨g8, 0, none⟩) m m))))
          clear hb8 hb10 h1 hp8 hc8 hf8 hg8
          go_wp2
          go_roundw
          case rel => exact ⟨i + 1, by omega, by go_num, HG8, HX8, HGR8⟩
          case measure => simp [intOf]; omega
    · obtain rfl : n = i := by omega
      have h := hR.out
      rw [HNN.out] at h
      have HFin := Lib.hid (show GC wr base B n c (mat (led F t (t + j) col n) n m) from h)
      clear h
      go_wp2
      go_ret
      exact ⟨rfl, HFin.out, hGR.out⟩
end Go.Proofs.Ytpoaimcioeopdaa
