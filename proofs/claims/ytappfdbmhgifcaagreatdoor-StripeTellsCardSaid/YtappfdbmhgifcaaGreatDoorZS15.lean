/- Texts of mine, one behind the other: Hb Rj QJ2. -/
import Derived.Test.YtappfdbmhgifcaaGreatDoorZS14
import Derived.Test.YtappfdbmhgifcaaGreatDoorZS13
import Derived.Test.YtappfdbmhgifcaaGreatDoorZS03
import Derived.Test.YtappfdbmhgifcaaGreatDoorZS09
import Derived.Deep.OwnRows
import Derived.Deep.DrawnRows
import Derived.Deep.WholeRow
/- Shapes: contracts of stripe's checked, outside, places, numbers, uneven, and of slices.ContainsFunc at these. -/
namespace Go.Proofs.YtappfdbmhgifcaaGreatDoor
open Go.ChangeShapes Go.WideShapes Go.ChangeAt Go.RowKit Go.Shelf GF
set_option linter.unusedVariables false
set_option linter.unusedSimpArgs false
set_option maxRecDepth 100000

/-- A shape in a block of its own. -/
def Bx (w : World) (b : Nat) (m t n c : Int) : Prop := w.heap[b]? = some (.cells #[.int .i64 m, .int .i64 t, .int .i64 n, .int .i64 c] 25 (0, 0))
theorem Bx.lt {w : World} {b : Nat} {m t n c : Int} (h : Bx w b m t n c) : b < w.heap.size := by
  rcases Nat.lt_or_ge b w.heap.size with hlt | hge
  · exact hlt
  · unfold Bx at h; rw [Array.getElem?_eq_none hge] at h; cases h
theorem Bx.on {w w' : World} {b : Nat} {m t n c : Int} (h : Bx w b m t n c) (hb : Below w.heap.size w w') : Bx w' b m t n c := (hb.block b h.lt).trans h
theorem Bx.new (w : World) (m t n c : Int) : Bx (w.alloc (.cells #[.int .i64 m, .int .i64 t, .int .i64 n, .int .i64 c] 25)) w.heap.size m t n c := heap_alloc_new w _
theorem Bx.c0 {w : World} {b : Nat} {m t n c : Int} (h : Bx w b m t n c) : w.cell? ⟨b, 0, none⟩ = some (.int .i64 m) := by unfold Bx at h; simp [World.cell?, h]
theorem Bx.c1 {w : World} {b : Nat} {m t n c : Int} (h : Bx w b m t n c) : w.cell? ⟨b, 1, none⟩ = some (.int .i64 t) := by unfold Bx at h; simp [World.cell?, h]
theorem Bx.c2 {w : World} {b : Nat} {m t n c : Int} (h : Bx w b m t n c) : w.cell? ⟨b, 2, none⟩ = some (.int .i64 n) := by unfold Bx at h; simp [World.cell?, h]
theorem Bx.c3 {w : World} {b : Nat} {m t n c : Int} (h : Bx w b m t n c) : w.cell? ⟨b, 3, none⟩ = some (.int .i64 c) := by unfold Bx at h; simp [World.cell?, h]

/-! ## checked -/
theorem schk_yes (b : Nat) (m : Int) (t n c : Nat) (aR : Option Addr) (L cR : Nat) (w : World) (h : Sh m t n c) (hL : L ≤ cR ∧ cR ≤ 9223372036854775807) :
    Calls Tryz.prog 24 #[.agg #[.int .i64 m, .int .i64 t, .int .i64 n, .int .i64 c], .pointer (some ⟨b, 0, none⟩), .slice aR L cR] w fun e w' => e = .returned (.int .i64 (if L = needV m t then 0 else 3)) ∧ Below w.heap.size w w' := by
  have HA := Lib.hid (bxS w #[.int .i64 m, .int .i64 t, .int .i64 n, .int .i64 c] 25)
  have HX := Lib.hid (Bx.new w m t n c)
  have HR := Lib.hid (right_any m t n c (w.alloc (.cells #[.int .i64 m, .int .i64 t, .int .i64 n, .int .i64 c] 25)))
  rw [h.right] at HR
  have HN := Lib.hid (fun w => need_any m t n c w h)
  obtain ⟨V, hV⟩ : ∃ V, V = needV m t := ⟨_, rfl⟩
  rw [← hV] at HN ⊢
  clear h hV
  by_cases hE : L = V
  · subst hE
    rw [if_pos rfl]
    have q : ((L : Int) != (L : Int)) = false := by simp
    go_enter Tryz.func24, Tryz.ntmps24
    go_wp2_with (first
      | (go_at_call 22; go_loud (refine HR.out.mono ?_; rintro e w1 ⟨rfl, hb⟩; have HX1 := Lib.hid (HX.out.on hb); have HB1 := Lib.hid (bt HA.out hb); have x0 := HX1.out.c0; have x1 := HX1.out.c1; have x2 := HX1.out.c2; have x3 := HX1.out.c3; clear hb))
      | (go_at_call 23; go_loud (refine (HN.out _).mono ?_; rintro e w2 ⟨rfl, hb⟩; have HB2 := Lib.hid (bt HB1.out hb); clear hb)))
    go_ret
    exact ⟨rfl, HB2.out⟩
  · have q : ((L : Int) != (V : Int)) = true := by rw [bne_iff_ne]; omega
    rw [if_neg hE]
    clear hE
    go_enter Tryz.func24, Tryz.ntmps24
    go_wp2_with (first
      | (go_at_call 22; go_loud (refine HR.out.mono ?_; rintro e w1 ⟨rfl, hb⟩; have HX1 := Lib.hid (HX.out.on hb); have HB1 := Lib.hid (bt HA.out hb); have x0 := HX1.out.c0; have x1 := HX1.out.c1; have x2 := HX1.out.c2; have x3 := HX1.out.c3; clear hb))
      | (go_at_call 23; go_loud (refine (HN.out _).mono ?_; rintro e w2 ⟨rfl, hb⟩; have HB2 := Lib.hid (bt HB1.out hb); clear hb)))
    go_ret
    exact ⟨rfl, HB2.out⟩

/-! ## outside -/
def outB (n p : Int) : Bool := decide (p < 1) || decide (n < p)
theorem out_any (m t n c p : Int) (w : World) :
    Calls Tryz.prog 38 #[.agg #[.int .i64 m, .int .i64 t, .int .i64 n, .int .i64 c], .int .i64 p] w fun e w' => e = .returned (.bool (outB n p)) ∧ Below w.heap.size w w' := by
  have HA := Lib.hid (bxS w #[.int .i64 m, .int .i64 t, .int .i64 n, .int .i64 c] 25)
  by_cases h1 : p < 1
  · have HR := Lib.hid (show outB n p = true by unfold outB; simp [h1])
    go_enter Tryz.func38, Tryz.ntmps38
    go_wp2
    go_ret
    exact ⟨by rw [HR.out] <;> rfl, HA.out⟩
  · by_cases h2 : n < p
    · have HR := Lib.hid (show outB n p = true by unfold outB; simp [h2])
      go_enter Tryz.func38, Tryz.ntmps38
      go_wp2
      go_ret
      exact ⟨by rw [HR.out] <;> rfl, HA.out⟩
    · have HR := Lib.hid (show outB n p = false by unfold outB; simp [h1, h2])
      go_enter Tryz.func38, Tryz.ntmps38
      go_wp2
      go_ret
      exact ⟨by rw [HR.out] <;> rfl, HA.out⟩
theorem outIdx (m t n c : Int) (aX : Option Addr) (N cX : Nat) (ps : List Int) (j : Nat) (w : World) (hX : IA w aX N cX ps) (hN : N ≤ 255) (hj : j ≤ N) (hz : ∀ i, i < j → outB n (ps.getD i 0) = false) (hn : j < N → outB n (ps.getD j 0) = true) :
    Calls Tryz.prog 65 #[.slice aX N cX, .func (.func 38) #[.agg #[.int .i64 m, .int .i64 t, .int .i64 n, .int .i64 c]] #[]] w fun e w' => e = .returned (.int .i64 (if j < N then (j : Int) else -1)) ∧ Below w.heap.size w w' := by
  have HX := Lib.hid hX
  have HZ := Lib.hid hz
  have HN := Lib.hid hn
  have hbd := hX.bd
  clear hX hz hn
  have HB0 := Lib.hid (Below.refl w.heap.size w)
  go_enter Tryz.func65, Tryz.ntmps65
  go_wp2
  go_loopw [8] (fun k wr => ∃ i : Nat, i ≤ j ∧ i ≤ N ∧ k = .int .i64 (i : Nat) ∧ Hid (Below w.heap.size w wr)) (fun k _ => N - (intOf k).toNat)
  case atStart => exact ⟨0, Nat.zero_le _, Nat.zero_le _, rfl, HB0⟩
  case round =>
    obtain ⟨i, hi, hiL, rfl, hB⟩ := hrel
    rename World => w2
    by_cases hlt : i < N
    · have qi : (i : Int) < (N : Int) := by omega
      have qi0 : (0 : Int) ≤ (i : Int) := by omega
      obtain ⟨b, off, rfl, hb, hcell⟩ := (HX.out.on hB.out).at_ hlt
      by_cases hij : i < j
      · have HC := Lib.hid (out_any m t n c (ps.getD i 0) w2)
        rw [HZ.out i hij] at HC
        generalize ps.getD i 0 = z at hcell HC
        go_wp2_with (go_at_call 38; go_loud (refine HC.out.mono ?_; rintro e w3 ⟨rfl, hb3⟩; have HB3 := Lib.hid (bt hB.out hb3); clear hb3))
        go_roundw
        case rel => exact ⟨i + 1, by omega, by omega, by go_num, HB3⟩
        case measure => simp [intOf]; omega
      · obtain rfl : j = i := by omega
        have HC := Lib.hid (out_any m t n c (ps.getD j 0) w2)
        rw [HN.out hlt] at HC
        generalize ps.getD j 0 = z at hcell HC
        go_wp2_with (go_at_call 38; go_loud (refine HC.out.mono ?_; rintro e w3 ⟨rfl, hb3⟩; have HB3 := Lib.hid (bt hB.out hb3); clear hb3))
        go_ret
        exact ⟨rfl, HB3.out⟩
    · obtain rfl : N = i := by omega
      have hjL : j = N := by omega
      have hn0 : ¬ j < N := by omega
      clear hjL
      go_wp2
      go_ret
      exact ⟨rfl, hB.out⟩
theorem out_first (n : Int) (ps : List Int) (N : Nat) : ∃ j, j ≤ N ∧ (∀ i, i < j → outB n (ps.getD i 0) = false) ∧ (j < N → outB n (ps.getD j 0) = true) := by
  induction N with
  | zero => exact ⟨0, Nat.le_refl _, fun i hi => absurd hi (by omega), fun h => absurd h (by omega)⟩
  | succ N ih =>
    obtain ⟨j, h1, h2, h3⟩ := ih
    by_cases h : j < N
    · exact ⟨j, by omega, h2, fun _ => h3 h⟩
    · obtain rfl : j = N := by omega
      rcases h0 : outB n (ps.getD j 0) with _ | _
      · exact ⟨j + 1, Nat.le_refl _, fun k hk => by
          rcases Nat.lt_succ_iff_lt_or_eq.1 hk with h4 | h4
          · exact h2 k h4
          · rw [h4]; exact h0, fun h => absurd h (by omega)⟩
      · exact ⟨j, by omega, h2, fun _ => h0⟩
theorem outCon (m t n c : Int) (aX : Option Addr) (N cX : Nat) (ps : List Int) (r : Bool) (w : World) (hX : IA w aX N cX ps) (hN : N ≤ 255) (hr : r = true ↔ ∃ i, i < N ∧ outB n (ps.getD i 0) = true) :
    Calls Tryz.prog 37 #[.slice aX N cX, .func (.func 38) #[.agg #[.int .i64 m, .int .i64 t, .int .i64 n, .int .i64 c]] #[]] w fun e w' => e = .returned (.bool r) ∧ Below w.heap.size w w' := by
  obtain ⟨j, h1, h2, h3⟩ := out_first n ps N
  have HI := outIdx m t n c aX N cX ps j w hX hN h1 h2 h3
  have hbd := hX.bd
  by_cases h : j < N
  · rw [if_pos h] at HI
    have HH := Lib.hid HI
    have q : (0 : Int) ≤ (j : Int) := by omega
    have Hr := Lib.hid (show r = true from hr.2 ⟨j, h, h3 h⟩)
    clear hX h2 h3 hr HI
    go_enter Tryz.func37, Tryz.ntmps37
    go_wp2_with (go_at_call 65; go_loud (refine HH.out.mono ?_; rintro e w1 ⟨rfl, hb⟩; have HB := Lib.hid hb; clear hb))
    go_ret
    exact ⟨by rw [Hr.out] <;> rfl, HB.out⟩
  · rw [if_neg h] at HI
    have HH := Lib.hid HI
    have Hr := Lib.hid (show r = false from Bool.eq_false_iff.2 fun e => by obtain ⟨i, hi, h0⟩ := hr.1 e; rw [h2 i (by omega)] at h0; cases h0)
    clear hX h2 h3 hr HI
    go_enter Tryz.func37, Tryz.ntmps37
    go_wp2_with (go_at_call 65; go_loud (refine HH.out.mono ?_; rintro e w1 ⟨rfl, hb⟩; have HB := Lib.hid hb; clear hb))
    go_ret
    exact ⟨by rw [Hr.out] <;> rfl, HB.out⟩

/-! ## uneven -/
theorem suneven1 (Bq : Nat) (m : Int) (t n c : Nat) (ai : Option Addr) (L ci : Nat) (w : World) (h : Sh m t n c) (hx : Bx w Bq m t n c) (hb : L ≤ ci ∧ ci ≤ 9223372036854775807) :
    Calls Tryz.prog 67 #[.slice ai L ci, .pointer (some ⟨Bq, 0, none⟩)] w fun e w' => e = .returned (.bool (decide (L ≠ rowV m t))) ∧ Below w.heap.size w w' := by
  have HN := Lib.hid (rowsz_any m t n c w h)
  obtain ⟨V, hV⟩ : ∃ V, V = rowV m t := ⟨_, rfl⟩
  rw [← hV] at HN ⊢
  have x0 := hx.c0; have x1 := hx.c1; have x2 := hx.c2; have x3 := hx.c3
  have HE := Lib.hid (show ((L : Int) != (V : Int)) = decide (L ≠ V) by rw [Bool.eq_iff_iff, bne_iff_ne, decide_eq_true_eq]; omega)
  clear h hV hx
  go_enter Tryz.func67, Tryz.ntmps67
  go_wp2_with (go_at_call 15; go_loud (refine HN.out.mono ?_; rintro e w1 ⟨rfl, hb⟩; have HB1 := Lib.hid hb; clear hb))
  go_ret
  exact ⟨by rw [← HE.out] <;> rfl, HB1.out⟩
theorem suIdx (Bq : Nat) (m : Int) (t n c : Nat) (aR : Option Addr) (N cR : Nat) (R : List (List GF)) (j : Nat) (w : World) (h : Sh m t n c) (hx : Bx w Bq m t n c) (hR : Mat w aR N cR R) (hw : ∀ k, k < N → (rw_ R k).length ≤ 1000) (hj : j ≤ N) (hz : ∀ i, i < j → (rw_ R i).length = rowV m t) (hn : j < N → (rw_ R j).length ≠ rowV m t) :
    Calls Tryz.prog 93 #[.slice aR N cR, .func (.func 67) #[] #[.pointer (some ⟨Bq, 0, none⟩)]] w fun e w' => e = .returned (.int .i64 (if j < N then (j : Int) else -1)) ∧ Below w.heap.size w w' := by
  have HR := Lib.hid hR
  have HX := Lib.hid hx
  have HW := Lib.hid hw
  have HZ := Lib.hid hz
  have HN := Lib.hid hn
  have HS := Lib.hid h
  have hbd := hR.bd
  clear hR hw hz hn hx h
  have HB0 := Lib.hid (Below.refl w.heap.size w)
  go_enter Tryz.func93, Tryz.ntmps93
  go_wp2
  go_loopw [8] (fun k wr => ∃ i : Nat, i ≤ j ∧ i ≤ N ∧ k = .int .i64 (i : Nat) ∧ Hid (Below w.heap.size w wr)) (fun k _ => N - (intOf k).toNat)
  case atStart => exact ⟨0, Nat.zero_le _, Nat.zero_le _, rfl, HB0⟩
  case round =>
    obtain ⟨i, hi, hiL, rfl, hB⟩ := hrel
    rename World => w2
    by_cases hlt : i < N
    · have qi : (i : Int) < (N : Int) := by omega
      have qi0 : (0 : Int) ≤ (i : Int) := by omega
      obtain ⟨b, off, ai, ci, rfl, hb, hcell, hpa⟩ := (HR.out.on hB.out).row hlt
      have hd1 := hpa.bd
      obtain ⟨L, hL⟩ : ∃ L, L = (rw_ R i).length := ⟨_, rfl⟩
      have HL := Lib.hid hL
      rw [← hL] at hcell hd1
      clear hpa hL
      have HC := Lib.hid (suneven1 Bq m t n c ai L ci w2 HS.out (HX.out.on hB.out) hd1)
      by_cases hij : i < j
      · rw [show decide (L ≠ rowV m t) = false by rw [HL.out, HZ.out i hij]; simp] at HC
        go_wp2_with (go_at_call 67; go_loud (refine HC.out.mono ?_; rintro e w3 ⟨rfl, hb3⟩; have HB3 := Lib.hid (bt hB.out hb3); clear hb3))
        go_roundw
        case rel => exact ⟨i + 1, by omega, by omega, by go_num, HB3⟩
        case measure => simp [intOf]; omega
      · obtain rfl : j = i := by omega
        rw [show decide (L ≠ rowV m t) = true by rw [HL.out]; exact decide_eq_true (HN.out hlt)] at HC
        go_wp2_with (go_at_call 67; go_loud (refine HC.out.mono ?_; rintro e w3 ⟨rfl, hb3⟩; have HB3 := Lib.hid (bt hB.out hb3); clear hb3))
        go_ret
        exact ⟨rfl, HB3.out⟩
    · obtain rfl : N = i := by omega
      have hjL : j = N := by omega
      have hn0 : ¬ j < N := by omega
      clear hjL
      go_wp2
      go_ret
      exact ⟨rfl, hB.out⟩
theorem su_first (V : Nat) (R : List (List GF)) (N : Nat) : ∃ j, j ≤ N ∧ (∀ i, i < j → (rw_ R i).length = V) ∧ (j < N → (rw_ R j).length ≠ V) := by
  induction N with
  | zero => exact ⟨0, Nat.le_refl _, fun i hi => absurd hi (by omega), fun h => absurd h (by omega)⟩
  | succ N ih =>
    obtain ⟨j, h1, h2, h3⟩ := ih
    by_cases h : j < N
    · exact ⟨j, by omega, h2, fun _ => h3 h⟩
    · obtain rfl : j = N := by omega
      by_cases h0 : (rw_ R j).length = V
      · exact ⟨j + 1, Nat.le_refl _, fun k hk => by
          rcases Nat.lt_succ_iff_lt_or_eq.1 hk with h4 | h4
          · exact h2 k h4
          · rw [h4]; exact h0, fun h => absurd h (by omega)⟩
      · exact ⟨j, by omega, h2, fun _ => h0⟩
theorem suCon (Bq : Nat) (m : Int) (t n c : Nat) (aR : Option Addr) (N cR : Nat) (R : List (List GF)) (r : Bool) (w : World) (h : Sh m t n c) (hx : Bx w Bq m t n c) (hR : Mat w aR N cR R) (hw : ∀ k, k < N → (rw_ R k).length ≤ 1000) (hr : r = true ↔ ∃ i, i < N ∧ (rw_ R i).length ≠ rowV m t) :
    Calls Tryz.prog 66 #[.slice aR N cR, .func (.func 67) #[] #[.pointer (some ⟨Bq, 0, none⟩)]] w fun e w' => e = .returned (.bool r) ∧ Below w.heap.size w w' := by
  obtain ⟨j, h1, h2, h3⟩ := su_first (rowV m t) R N
  have HI := suIdx Bq m t n c aR N cR R j w h hx hR hw h1 h2 h3
  have hbd := hR.bd
  by_cases hj : j < N
  · rw [if_pos hj] at HI
    have HH := Lib.hid HI
    have q : (0 : Int) ≤ (j : Int) := by omega
    have Hr := Lib.hid (show r = true from hr.2 ⟨j, hj, h3 hj⟩)
    clear hx hR hw h2 h3 hr HI h
    go_enter Tryz.func66, Tryz.ntmps66
    go_wp2_with (go_at_call 93; go_loud (refine HH.out.mono ?_; rintro e w1 ⟨rfl, hb⟩; have HB := Lib.hid hb; clear hb))
    go_ret
    exact ⟨by rw [Hr.out] <;> rfl, HB.out⟩
  · rw [if_neg hj] at HI
    have HH := Lib.hid HI
    have Hr := Lib.hid (show r = false from Bool.eq_false_iff.2 fun e => by obtain ⟨i, hi, h0⟩ := hr.1 e; exact h0 (h2 i (by omega)))
    clear hx hR hw h2 h3 hr HI h
    go_enter Tryz.func66, Tryz.ntmps66
    go_wp2_with (go_at_call 93; go_loud (refine HH.out.mono ?_; rintro e w1 ⟨rfl, hb⟩; have HB := Lib.hid hb; clear hb))
    go_ret
    exact ⟨by rw [Hr.out] <;> rfl, HB.out⟩
theorem suneven_any (m : Int) (t n c : Nat) (aR : Option Addr) (N cR : Nat) (R : List (List GF)) (r : Bool) (w : World) (h : Sh m t n c) (hR : Mat w aR N cR R) (hw : ∀ k, k < N → (rw_ R k).length ≤ 1000) (hr : r = true ↔ ∃ i, i < N ∧ (rw_ R i).length ≠ rowV m t) :
    Calls Tryz.prog 39 #[.agg #[.int .i64 m, .int .i64 t, .int .i64 n, .int .i64 c], .slice aR N cR] w fun e w' => e = .returned (.bool r) ∧ Below w.heap.size w w' := by
  have HA := Lib.hid (bxS w #[.int .i64 m, .int .i64 t, .int .i64 n, .int .i64 c] 25)
  have HC := Lib.hid (suCon w.heap.size m t n c aR N cR R r _ h (Bx.new w m t n c) (hR.on HA.out) hw hr)
  have hbd := hR.bd
  clear hR hw hr h
  go_enter Tryz.func39, Tryz.ntmps39
  go_wp2_with (go_at_call 66; go_loud (refine HC.out.mono ?_; rintro e w1 ⟨rfl, hb⟩; have HB := Lib.hid (bt HA.out hb); clear hb))
  go_ret
  exact ⟨rfl, HB.out⟩

/-! ## places, numbers -/
/-- The places 1 to n. -/
def upN (n : Nat) : List Nat := (List.range n).map (· + 1)
def upV (n k : Nat) : List Value := (zl (upN k)).map (Value.int .i64) ++ List.replicate (n - k) (.int .i64 0)
theorem upV_len {n k : Nat} (h : k ≤ n) : (upV n k).length = n := by simp [upV, zl, upN]; omega
theorem upV_set {n k : Nat} (h : k < n) : (upV n k).set k (.int .i64 ((k + 1 : Nat) : Int)) = upV n (k + 1) := by
  unfold upV
  have hl : ((zl (upN k)).map (Value.int .i64)).length = k := by simp [zl, upN]
  have := set_nextY (vs := (zl (upN k)).map (Value.int .i64)) (n := n) (.int .i64 0) (.int .i64 ((k + 1 : Nat) : Int)) (by omega)
  rw [hl] at this
  rw [this]
  congr 1
  simp [zl, upN, List.range_succ]
theorem infoI17 : (Tryz.prog.info? 3).map (fun i => (i.zero, i.size, i.bytes)) = some (some (.int .i64 0), 1, 8) := by kernel_rfl
theorem own_madeI17 {w : World} {n : Nat} (hm : n ≤ maxLen) :
    (w.alloc (.cells (madeCells #[Value.int .i64 0] n) 3)).ownsRow w.heap.size 3 1 (.slice (some ⟨w.heap.size, 0, none⟩) n n) n (upV n 0) := by
  have := World.ownsRow_lit (base := w.heap.size) (e := 3) (size := 1) w (madeCells #[Value.int .i64 0] n) n (Nat.le_refl _) hm (by simp [size_madeCells])
  rw [toList_madeCells_one] at this
  exact this
theorem ia_own17 {w : World} {B n c : Nat} {a : Option Addr} {l : List Int} (h : w.ownsRow B 3 1 (.slice a n c) n (l.map (Value.int .i64))) (hz : ∀ z, z ∈ l → 0 ≤ z ∧ z < 256) : IA w a n c l := by
  obtain ⟨a', c', e, hi⟩ := IA.own h hz
  cases e
  exact hi
theorem upN_lt {n z : Nat} (h : z ∈ upN n) : 1 ≤ z ∧ z ≤ n := by
  obtain ⟨i, hi, rfl⟩ := List.mem_map.1 h
  have := List.mem_range.1 hi
  omega
theorem up_getD {n k : Nat} (hk : k < n) : (zl (upN n)).getD k 0 = ((k + 1 : Nat) : Int) := by simp [zl, upN, List.getD_eq_getElem?_getD, hk]
theorem places_any (m t c : Int) (n : Nat) (w : World) (hn : n ≤ 255) :
    Calls Tryz.prog 27 #[.agg #[.int .i64 m, .int .i64 t, .int .i64 (n : Nat), .int .i64 c]] w fun e w' => ∃ g, e = .returned (.slice (some ⟨g, 0, none⟩) n n) ∧ w.heap.size ≤ g ∧ IA w' (some ⟨g, 0, none⟩) n n (zl (upN n)) ∧ Below w.heap.size w w' := by
  have HA := Lib.hid (bxS w #[.int .i64 m, .int .i64 t, .int .i64 n, .int .i64 c] 25)
  have hmk := run_make_row' (P := Tryz.prog) 39 3 (.int .i64 0) 8 Tryz.underlying39 infoI17 rfl .i64 .i64 n (by omega) (by omega)
  have hO0 : Hid (((w.alloc (.cells #[.int .i64 m, .int .i64 t, .int .i64 n, .int .i64 c] 25)).alloc (.cells (madeCells #[.int .i64 0] n) 3)).ownsRow (w.heap.size + 1) 3 1 (.slice (some ⟨w.heap.size + 1, 0, none⟩) n n) n (upV n 0)) := by
    have h := own_madeI17 (w := w.alloc (.cells #[.int .i64 m, .int .i64 t, .int .i64 n, .int .i64 c] 25)) (n := n) (by unfold maxLen; omega)
    rw [show (w.alloc (.cells #[.int .i64 m, .int .i64 t, .int .i64 n, .int .i64 c] 25)).heap.size = w.heap.size + 1 by simp] at h
    exact Lib.hid h
  have hB0 : Hid (Below w.heap.size w ((w.alloc (.cells #[.int .i64 m, .int .i64 t, .int .i64 n, .int .i64 c] 25)).alloc (.cells (madeCells #[.int .i64 0] n) 3))) := Lib.hid (HA.out.alloc (by simp) _)
  have HN := Lib.hid hn
  clear hn
  go_enter Tryz.func27, Tryz.ntmps27
  go_wp2
  go_loopw [10] (fun j wr => ∃ k : Nat, k ≤ n ∧ j = .int .i64 (k : Nat) ∧ Hid (wr.ownsRow (w.heap.size + 1) 3 1 (.slice (some ⟨w.heap.size + 1, 0, none⟩) n n) n (upV n k)) ∧ Hid (Below w.heap.size w wr))
    (fun j _ => n - (intOf j).toNat)
  case atStart => exact ⟨0, Nat.zero_le _, rfl, hO0, hB0⟩
  case round =>
    obtain ⟨k, hk, rfl, hO, hB⟩ := hrel
    rename World => w2
    by_cases hlt : k < n
    · have qi : (k : Int) < (n : Int) := by omega
      have qi0 : (0 : Int) ≤ (k : Int) := by omega
      have k1 : wrap64 ((k : Int) + 1) = ((k + 1 : Nat) : Int) := by have := HN.out; unfold wrap64; omega
      have hfz := hO.out.frozenAt k
      have hcl := hO.out.cellAt k (by omega)
      obtain ⟨vo, hvo⟩ : ∃ v, (upV n k)[k]? = some v := ⟨_, List.getElem?_eq_getElem (by rw [upV_len hk]; exact hlt)⟩
      rw [hvo] at hcl
      have hst := (hO.out.stored k (.int .i64 ((k + 1 : Nat) : Int))).1
      rw [upV_set hlt, ← k1] at hst
      have HST := Lib.hid hst
      have HBS := Lib.hid (hB.out.setCell (p := ⟨w.heap.size + 1, k, none⟩) (Nat.le_succ _) (.int .i64 (wrap64 ((k : Int) + 1))))
      have HLT := Lib.hid hlt
      have K1 := Lib.hid k1
      clear hst hlt hk hvo k1
      go_wp2
      go_roundw
      case rel => exact ⟨k + 1, by have := HLT.out; omega, by rw [K1.out], HST, HBS⟩
      case measure => rw [K1.out]; simp [intOf]; have := HLT.out; omega
    · obtain rfl : k = n := by omega
      have ho := hO.out
      unfold upV at ho
      rw [Nat.sub_self, List.replicate_zero, List.append_nil] at ho
      have HP := Lib.hid (ia_own17 ho (fun z hz => by obtain ⟨x, hx, rfl⟩ := List.mem_map.1 hz; have := upN_lt hx; have := HN.out; omega))
      clear ho hlt
      go_wp2
      go_ret
      exact ⟨_, rfl, by omega, HP.out, hB.out⟩
/-- Places as numbers of the field. -/
def gZ (ps : List Int) : List GF := ps.map toG
theorem gZ_len (ps : List Int) : (gZ ps).length = ps.length := by simp [gZ]
theorem gZ_co (ps : List Int) (k : Nat) : co (gZ ps) k = toG (ps.getD k 0) := co_gL ps k
theorem gZ_up (n : Nat) : gZ (zl (upN n)) = plc n := by
  unfold gZ zl upN plc pl
  rw [List.map_map, List.map_map]
  exact List.map_congr_left fun i _ => rfl
theorem plc_ne {n k : Nat} (hn : n ≤ 255) (hk : k < n) : co (plc n) k ≠ 0 := by
  rw [plc_co hk]
  intro e
  have := congrArg toI e
  rw [pl_I (by omega)] at this
  have h0 : toI 0 = 0 := toI_zero
  omega
theorem snumbers_any (aX : Option Addr) (N cX : Nat) (ps : List Int) (w : World) (hX : IA w aX N cX ps) (hN : N ≤ 255) (hok : ∀ k, k < N → 0 ≤ ps.getD k 0 ∧ ps.getD k 0 < 256) :
    Calls Tryz.prog 26 #[.slice aX N cX] w fun e w' => ∃ g, e = .returned (.slice (some ⟨g, 0, none⟩) N N) ∧ Pa w' (some ⟨g, 0, none⟩) N N (gZ ps) ∧ Below w.heap.size w w' := by
  have HX := Lib.hid hX
  have HOK := Lib.hid hok
  have HN := Lib.hid hN
  have hbd := hX.bd
  have HL := Lib.hid (show (gZ ps).length = N by rw [gZ_len]; exact hX.1)
  have qN : (N : Int) ≤ 255 := by omega
  have hmk := run_make_row' (P := Tryz.prog) 22 5 (.int .u8 0) 1 Tryz.underlying22 info5 rfl .i64 .i64 N (by omega) (by omega)
  have hO0 : Hid ((w.alloc (.cells (madeCells #[.int .u8 0] N) 5)).ownsRow w.heap.size 5 1 (.slice (some ⟨w.heap.size, 0, none⟩) N N) N (plV (gZ ps) N 0)) := by
    rw [plV_zero]
    exact Lib.hid (own_made (w := w) (e := 5) (n := N) (by unfold maxLen; omega))
  have hB0 : Hid (Below w.heap.size w (w.alloc (.cells (madeCells #[.int .u8 0] N) 5))) := Lib.hid ((Below.refl _ _).alloc (Nat.le_refl _) _)
  clear hX hok hN
  go_enter Tryz.func26, Tryz.ntmps26
  go_wp2
  go_loopw [11] (fun j wr => ∃ k : Nat, k ≤ N ∧ j = .int .i64 (k : Nat) ∧ Hid (wr.ownsRow w.heap.size 5 1 (.slice (some ⟨w.heap.size, 0, none⟩) N N) N (plV (gZ ps) N k)) ∧ Hid (Below w.heap.size w wr))
    (fun j _ => N - (intOf j).toNat)
  case atStart => exact ⟨0, Nat.zero_le _, rfl, hO0, hB0⟩
  case round =>
    obtain ⟨k, hk, rfl, hO, hB⟩ := hrel
    rename World => w2
    by_cases hlt : k < N
    · have qi : (k : Int) < (N : Int) := by omega
      have qi0 : (0 : Int) ≤ (k : Int) := by omega
      obtain ⟨b, off, rfl, hb, hcell⟩ := (HX.out.on hB.out).at_ hlt
      have hz := HOK.out k hlt
      obtain ⟨z, hzz⟩ : ∃ z, z = ps.getD k 0 := ⟨_, rfl⟩
      rw [← hzz] at hcell hz
      have k1 : ∀ [Inhabited Unit], IntKind.u8.wrap z = toI (toG z) := by
        intro _
        rw [toI_toG hz, IntKind.wrap_u8]; omega
      have hfz := hO.out.frozenAt k
      have hcl := hO.out.cellAt k (by omega)
      obtain ⟨vo, hvo⟩ : ∃ v, (plV (gZ ps) N k)[k]? = some v := ⟨_, List.getElem?_eq_getElem (by rw [plV_len HL.out hk]; exact hlt)⟩
      rw [hvo] at hcl
      have hst := (hO.out.stored k (.int .u8 (toI (toG z)))).1
      rw [show toG z = co (gZ ps) k by rw [gZ_co, hzz], plV_set HL.out hlt, gZ_co, ← hzz] at hst
      have HST := Lib.hid hst
      have HBS := Lib.hid (hB.out.setCell (p := ⟨w.heap.size, k, none⟩) (Nat.le_refl _) (.int .u8 (toI (toG z))))
      have HLT := Lib.hid hlt
      clear hst hlt hk hvo hz hzz hb
      go_wp2
      go_roundw
      case rel => exact ⟨k + 1, by have := HLT.out; omega, by go_num, HST, HBS⟩
      case measure => simp [intOf]; have := HLT.out; omega
    · obtain rfl : k = N := by omega
      have ho := hO.out
      rw [plV_all HL.out] at ho
      have HP := Lib.hid (Pa.own2 ho)
      clear ho hlt
      go_wp2
      go_ret
      exact ⟨_, rfl, HP.out, hB.out⟩
end Go.Proofs.YtappfdbmhgifcaaGreatDoor
/- What package mend's Rows, At, Wrong and Radius answer: the contracts, as statements over whatever a Mended is in memory. -/
namespace Go.Proofs.YtappfdbmhgifcaaGreatDoor
open Go.ChangeShapes Go.WideShapes Go.ChangeAt Go.RowKit Go.Shelf GF
set_option linter.unusedVariables false
set_option linter.unusedSimpArgs false

theorem own_emptyZ (w : World) (e : TypeId) : (w.alloc (.cells #[] e)).ownsRow w.heap.size e 1 (.slice (some ⟨w.heap.size, 0, none⟩) 0 0) 0 [] :=
  World.ownsRow_lit (base := w.heap.size) (e := e) (size := 1) w #[] 0 (Nat.le_refl _) (Nat.zero_le _) rfl
/-- A column of rows. -/
def colG (R : List (List GF)) (T i : Nat) : List GF := (List.range T).map fun k => co (rw_ R k) i
theorem colG_len (R : List (List GF)) (T i : Nat) : (colG R T i).length = T := by simp [colG]
theorem colG_co (R : List (List GF)) {T i k : Nat} (h : k < T) : co (colG R T i) k = co (rw_ R k) i := by
  show List.getD _ _ _ = _
  unfold colG; simp [List.getD_eq_getElem?_getD, h]
/-- Is the i-th row wrong in one of the first k columns? -/
def wrF (X : List GF) (R P : List (List GF)) (k i : Nat) : Bool := (List.range k).any fun q => decide (ev (rw_ P q) (co X i) ≠ co (rw_ R i) q)
/-- The numbers of the rows that are wrong. -/
def wrI (X : List GF) (R P : List (List GF)) (n N : Nat) : List Nat := (List.range N).filter fun i => wrF X R P n i
theorem wrI_next (X : List GF) (R P : List (List GF)) (n i : Nat) : wrI X R P n (i + 1) = wrI X R P n i ++ if wrF X R P n i then [i] else [] := by
  unfold wrI
  rw [List.range_succ, List.filter_append]
  by_cases h : wrF X R P n i <;> simp [h]
theorem wrI_le (X : List GF) (R P : List (List GF)) (n i : Nat) : (wrI X R P n i).length ≤ i := by unfold wrI; have := List.length_filter_le (fun i => wrF X R P n i) (List.range i); simpa using this
/-- What rows should be at a place. -/
def evP (P : List (List GF)) (x : GF) : List GF := P.map fun p => ev p x
theorem evP_len (P : List (List GF)) (x : GF) : (evP P x).length = P.length := by simp [evP]
theorem evP_co {P : List (List GF)} (x : GF) {k : Nat} (h : k < P.length) : co (evP P x) k = ev (rw_ P k) x := by
  show List.getD _ _ _ = _
  unfold evP rw_; simp [List.getD_eq_getElem?_getD, h]
end Go.Proofs.YtappfdbmhgifcaaGreatDoor
/- Texts of mine, one behind the other: Jb Je. -/
/- Contracts of hash: the state's bytes; what stands behind all bytes. -/
namespace Go.Proofs.YtappfdbmhgifcaaGreatDoor
open Go.ChangeShapes Go.WideShapes Go.ChangeAt Go.RowKit
set_option linter.unusedVariables false
set_option maxRecDepth 100000

theorem index_S (f : Nat → Nat) {k : Nat} (hk : k < 8) (w : World) : (Instr.index 166 (.agg (tabV 8 (gV f))) (.int .i64 (k : Nat))).run Tryz.prog w = .ok (.int .u32 ((f k : Nat) : Int)) w := by
  rcases lt8H hk with rfl | rfl | rfl | rfl | rfl | rfl | rfl | rfl <;> kernel_rfl
theorem Row8.bs {w : World} {g n : Nat} {l : List Int} (h : Row8 w g n l) : Bs w w.heap.size (some ⟨g, 0, none⟩) l := fun h0 => ⟨g, 0, rfl, h.2.2.1, fun i hi => by rw [Nat.zero_add]; exact h.2.2.2 i (by rw [← h.1]; exact hi)⟩
set_option maxHeartbeats 1000000 in
theorem hbytes_cap (h : Nat → Nat) (w : World) (hh : ∀ i, h i < 4294967296) :
    Calls Tryz.prog 130 #[.agg (tabV 8 (gV h))] w fun e w' => ∃ g c', e = .returned (.slice (some ⟨g, 0, none⟩) 32 c') ∧ Row8 w' g 32 (outW h 8) ∧ Below w.heap.size w w' ∧ 32 ≤ c' := by
  have HHB := Lib.hid hh
  obtain ⟨s0, hs0⟩ : ∃ s0 : Array Value, s0 = tabV 8 (gV h) := ⟨_, rfl⟩
  rw [← hs0]
  have HSS := Lib.hid (show (Tryz.prog.info? 166).map (·.size) = some s0.size by rw [hs0, size_tabV]; exact size_S)
  have HS0 := Lib.hid hs0
  have S1 := Lib.hid (show ((w.alloc (.cells s0 166)).alloc (.cells #[] 5)).heap[w.heap.size]? = some (.cells s0 166 (0, 0)) by
    rw [((Below.refl (w.heap.size + 1) (w.alloc (.cells s0 166))).alloc (by simp) _).block w.heap.size (by omega)]
    exact heap_alloc_new w _)
  have HB0 := Lib.hid (show Below w.heap.size w ((w.alloc (.cells s0 166)).alloc (.cells #[] 5)) from ((Below.refl _ _).alloc (Nat.le_refl _) _).alloc (by simp) _)
  have HR0 := Lib.hid (show Row8 ((w.alloc (.cells s0 166)).alloc (.cells #[] 5)) (w.heap.size + 1) 0 (outW h 0) from ⟨rfl, (fun y hy => by cases hy), by simp, fun i hi => by omega⟩)
  clear hs0 hh
  go_enter Tryz.func130, Tryz.ntmps130
  go_upto_region 3 with ((with_reducible show wpList _ _ _ (⟨some 7, _, _, _, _, _⟩ :: _) _ _); go_loud (refine wpList_load_row rfl 166 (.tmp 1) rfl w.heap.size rfl _ s0 _ _ S1.out Tryz.underlying166 rfl HSS.out ?_))
  go_loopw [3, 8] (fun o s wr => ∃ (i g c' : Nat), i ≤ 8 ∧ s = .int .i64 (i : Nat) ∧ o = .slice (some ⟨g, 0, none⟩) (4 * i) c' ∧ Row8 wr g (4 * i) (outW h i) ∧ Below w.heap.size w wr ∧ 4 * i ≤ c') (fun _ s _ => 8 - (intOf s).toNat)
  case atStart => exact ⟨0, _, _, by omega, rfl, rfl, HR0.out, HB0.out, by omega⟩
  case round =>
    obtain ⟨i, g, c', hi, rfl, rfl, h1, h2, h3⟩ := hrel
    rename World => R
    have RR := Lib.hid h1
    have RB := Lib.hid h2
    have RC := Lib.hid h3
    clear h1 h2 h3 HR0 HB0 S1
    by_cases hlt : i < 8
    · have HLI := Lib.hid hlt
      have qi : (i : Int) < 8 := by omega
      have hix : ∀ w : World, (Instr.index 166 (.agg s0) (.int .i64 (i : Nat))).run Tryz.prog w = .ok (.int .u32 ((h i : Nat) : Int)) w := fun w => by rw [HS0.out]; exact index_S h hlt w
      have HP := Lib.hid (put32 (some ⟨g, 0, none⟩) (4 * i) c' (outW h i) R RR.out.1 RR.out.bs (by omega) ((h i : Nat) : Int) (mk_u32 (by omega) (by have := HHB.out i; omega)))
      have HW := Lib.hid (show outW h i ++ be 4 ((h i : Nat) : Int) = outW h (i + 1) by rw [be4_w4, outW])
      obtain ⟨x, hx⟩ : ∃ x, x = h i := ⟨_, rfl⟩
      rw [← hx] at hix HP HW
      clear hlt hx
      go_wp2_with (go_at_call 153; go_loud ((with_reducible refine HP.out.mono ?_); rintro e R2 ⟨g2, rfl, ho, hb⟩; have HO := Lib.hid ho; have HB := Lib.hid hb; clear ho hb))
      go_roundw
      case rel => exact ⟨i + 1, g2, _, HLI.out, by go_num, by rw [Nat.mul_succ], by rw [← HW.out, Nat.mul_succ]; exact Row8.own HO.out (by rw [HW.out]; exact outW_B h _), bt RB.out HB.out, by omega⟩
      case measure => simp [intOf] <;> omega
    · obtain rfl : i = 8 := by omega
      go_wp2
      go_ret
      exact ⟨g, c', rfl, RR.out, RB.out, by have := RC.out; omega⟩
/-- What stands behind n bytes. -/
def endL (n : Nat) : List Int := [128] ++ List.replicate (zc n) 0 ++ w8L (8 * n) 8
theorem shaM_end (b : List Int) : shaM b = b ++ endL b.length := by unfold shaM endL; simp [List.append_assoc]
theorem endL_len (n : Nat) : (endL n).length = zc n + 9 := by unfold endL; simp [length_w8L] <;> omega
theorem endL_B (n : Nat) : AllB (endL n) := fun y hy => by
  rcases List.mem_append.1 hy with h | h
  · rcases List.mem_append.1 h with h | h
    · rw [List.mem_singleton.1 h]; omega
    · rw [(List.mem_replicate.1 h).2]; omega
  · exact w8L_B _ _ y h
end Go.Proofs.YtappfdbmhgifcaaGreatDoor
/- The contract of hash's end: the padding and the length. -/
namespace Go.Proofs.YtappfdbmhgifcaaGreatDoor
open Go.ChangeShapes Go.WideShapes Go.ChangeAt Go.RowKit
set_option linter.unusedVariables false
set_option maxRecDepth 100000

theorem end_head (Z : Nat) : ∀ j, j < Z + 1 → (if j = 0 then Value.int .u8 128 else Value.int .u8 0) = Value.int .u8 (([128] ++ List.replicate Z 0 : List Int).getD j 0) := fun j hj => by
  match j, hj with
  | 0, _ => rfl
  | j + 1, hj =>
    rw [if_neg (by omega)]
    simp [List.getD_eq_getElem?_getD, List.getElem?_replicate]
    split <;> rfl
set_option maxHeartbeats 1000000 in
theorem end_any (g : Nat) (h : Nat → Nat) (W : List Int) (n : Nat) (w : World) (hR : Blk w g 169 73 (runV h W n)) (hn : n ≤ 1000000) :
    Calls Tryz.prog 129 #[.pointer (some ⟨g, 0, none⟩)] w fun e w' => ∃ g' c', e = .returned (.slice (some ⟨g', 0, none⟩) (zc n + 9) c') ∧ zc n + 9 ≤ c' ∧ w.heap.size ≤ g' ∧ Row8 w' g' (zc n + 9) (endL n) ∧ Below w.heap.size w w' := by
  obtain ⟨i8, hi8, hz8, hz81, hz82⟩ := info_parts info5
  obtain ⟨Z, hZ⟩ : ∃ Z, Z = zc n := ⟨_, rfl⟩
  obtain ⟨R, hRR⟩ : ∃ R, R = n % 64 := ⟨_, rfl⟩
  have hcell := hR.cell (j := 72) (by omega)
  rw [runV_total] at hcell
  have qR : (n : Int) % 64 = (R : Int) := by omega
  have qZ : (119 - (R : Int)) % 64 = (Z : Int) := by unfold zc at hZ; omega
  have bR : (R : Int) < 64 := by omega
  have bZ : (Z : Int) < 64 := by have := zc_lt n; omega
  have bn : (n : Int) ≤ 1000000 := by omega
  have hmk : ∀ U : World, (Instr.makeSlice 22 (.int .u64 (1 + (Z : Int))) (.int .u64 (1 + (Z : Int)))).run Tryz.prog U = .ok (.slice (some ⟨U.heap.size, 0, none⟩) (Z + 1) (Z + 1)) (U.alloc (.cells (madeCells #[.int .u8 0] (Z + 1)) 5)) := by
    intro U
    have := run_make (P := Tryz.prog) U 22 5 i8 _ Tryz.underlying22 hi8 hz8 .u64 .u64 (1 + (Z : Int)) (1 + (Z : Int)) (by omega) (by omega) (by rw [hz82]; omega) (by omega)
    rw [this, hz81]
    have e1 : (1 + (Z : Int)).toNat = Z + 1 := by omega
    rw [e1]; simp
    rfl
  have hB1 : Blk (w.alloc (.cells (madeCells #[.int .u8 0] (Z + 1)) 5)) w.heap.size 5 (Z + 1) (fun _ => .int .u8 0) := by rw [madeCells_tabV]; exact Blk.made _ _ _ _
  have hc0 := hB1.cell (j := 0) (by omega)
  have hf0 := hB1.free 0
  clear hB1
  obtain ⟨W2, hW2⟩ : ∃ W2, W2 = w.alloc (.cells ((madeCells #[.int .u8 0] (Z + 1)).setIfInBounds 0 (.int .u8 128)) 5) := ⟨_, rfl⟩
  have H2 := Lib.hid (show Blk W2 w.heap.size 5 (Z + 1) (fun j => .int .u8 (([128] ++ List.replicate Z 0 : List Int).getD j 0)) by
    rw [hW2, madeCells_tabV, tabV_set _ (by omega)]
    exact (Blk.made _ _ _ _).congr (end_head Z))
  have HB2 := Lib.hid (show Below w.heap.size w W2 by rw [hW2]; exact (Below.refl _ _).alloc (Nat.le_refl _) _)
  have hc2 : W2.cell? ⟨g, 72, none⟩ = some (.int .u64 ((n : Nat) : Int)) := by
    have := (hR.on HB2.out hR.lt).cell (j := 72) (by omega)
    rw [runV_total] at this; exact this
  have HPUT := Lib.hid (show Calls Tryz.prog 152 #[.slice (some ⟨w.heap.size, 0, none⟩) (Z + 1) (Z + 1), .int .u64 (8 * (n : Int))] W2 _ from
    put64 (some ⟨w.heap.size, 0, none⟩) (Z + 1) (Z + 1) ([128] ++ List.replicate Z 0) W2 (by simp) (fun h0 => ⟨w.heap.size, 0, rfl, H2.out.lt, fun i hi => by rw [Nat.zero_add]; exact H2.out.cell (by simp at hi; omega)⟩) (by omega) (8 * (n : Int)) (mk_u64 (by omega) (by omega)))
  have HE := Lib.hid (show [128] ++ List.replicate Z 0 ++ be 8 (8 * (n : Int)) = endL n by unfold endL; rw [← be8_w8, ← hZ]; try rfl)
  have HZ := Lib.hid hZ
  rw [← hZ]
  have HW2 := Lib.hid hW2
  clear hW2
  have bw : 8 * (n : Int) < 18446744073709551616 := by omega
  clear hRR hi8 hz8 hz81 hz82 hZ hn hR
  go_enter Tryz.func129, Tryz.ntmps129
  go_upto_region 2 with fail
  go_upto_region 3 with fail
  go_upto_region 4 with fail
  clear qR qZ hmk hf0 hc0 hcell
  rw [← HW2.out]
  go_wp2_with (go_at_call 152; go_loud ((with_reducible refine HPUT.out.mono ?_); rintro e W3 ⟨g3, rfl, ho, hb⟩; have HO := Lib.hid ho; have HB := Lib.hid hb; clear ho hb))
  go_ret
  have HB3 := Lib.hid (HB2.out.trans (HB.out.mono HB2.out.size))
  refine ⟨g3, _, rfl, by omega, ?_, ?_, HB3.out⟩
  · have h := HO.out.2
    rcases h with ⟨h, _⟩ | ⟨g', cap, cur, e, hge, _⟩
    · cases h
    · cases e
      have := HB2.out.size
      omega
  · have h := Row8.own HO.out (by rw [HE.out]; exact endL_B n)
    rw [HE.out] at h
    exact h
end Go.Proofs.YtappfdbmhgifcaaGreatDoor
