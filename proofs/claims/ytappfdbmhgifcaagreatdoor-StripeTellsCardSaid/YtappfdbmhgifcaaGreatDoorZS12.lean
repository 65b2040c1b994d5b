/- Texts of mine, one behind the other: Q4 Cm Cc Cl. -/
import Derived.Test.YtappfdbmhgifcaaGreatDoorZS11
import Derived.Test.YtappfdbmhgifcaaGreatDoorZS01
import Derived.StillTailTactics
import Derived.Deep.RegionWith
import Derived.Deep.OwnRows
import Derived.Test.YtappfdbmhgifcaaGreatDoorZS10
import Derived.Deep.RegionHeld
/- Texts of mine, one behind the other: Va Vb Vd Ve Vh. -/
/- Contracts of shamir's possible, maskSize, MaskSize; of slices.Contains for 0; of checked. -/
namespace Go.Proofs.YtappfdbmhgifcaaGreatDoor
open Go.ChangeShapes Go.WideShapes Go.ChangeAt Go.RowKit Go.Shelf GF
set_option linter.unusedVariables false
set_option linter.unusedSimpArgs false
set_option maxRecDepth 100000

theorem possible_yes (t s : Int) (w : World) (h1 : 1 ≤ t) (h2 : t ≤ 255) (h3 : 0 ≤ s) :
    Calls Tryz.prog 78 #[.int .i64 t, .int .i64 s] w fun e w' => e = .returned (.bool true) ∧ w = w' := by
  go_enter Tryz.func78, Tryz.ntmps78
  go_wp2
  go_ret
  exact ⟨rfl, rfl⟩
theorem quo_big {T n : Nat} (h0 : 1 ≤ T) (h1 : T ≤ 254) (hn : n ≤ 1000) : ∃ Q : Int, Int.tdiv 9223372036854775807 (T : Int) = Q ∧ ¬ Q < (n : Int) ∧ 0 ≤ Q ∧ Q ≤ 9223372036854775807 := by
  refine ⟨_, rfl, ?_⟩
  rw [Int.tdiv_eq_ediv_of_nonneg (by omega)]
  have h : (9223372036854775807 : Int) / 254 ≤ 9223372036854775807 / (T : Int) := by
    rw [Int.le_ediv_iff_mul_le (by omega)]
    have e : (9223372036854775807 : Int) / 254 = 36312488334073920 := by decide
    rw [e]; omega
  have h3 : (9223372036854775807 : Int) / (T : Int) ≤ 9223372036854775807 := Int.ediv_le_self _ (by omega)
  have e : (9223372036854775807 : Int) / 254 = 36312488334073920 := by decide
  omega
theorem msize_yes (t n : Nat) (w : World) (h1 : 1 ≤ t) (h2 : t ≤ 255) (hn : n ≤ 1000) :
    Calls Tryz.prog 77 #[.int .i64 (t : Nat), .int .i64 (n : Nat)] w fun e w' => e = .returned (.tuple #[.int .i64 (((t - 1) * n : Nat) : Int), .bool true]) ∧ w = w' := by
  obtain ⟨T, hT⟩ : ∃ T, T = t - 1 := ⟨_, rfl⟩
  rw [← hT]
  obtain ⟨m, hm⟩ : ∃ m, m = T * n := ⟨_, rfl⟩
  rw [← hm]
  have qm : (T : Int) * (n : Int) = (m : Int) := by rw [hm]; rfl
  have qm2 : m ≤ 254 * 1000 := by rw [hm]; exact Nat.mul_le_mul (by omega) hn
  have qT : (t : Int) - 1 = (T : Int) := by omega
  have HM := Lib.hid hm
  have HT := Lib.hid hT
  have q1 : (1 : Int) ≤ (t : Int) := by omega
  have q2 : (t : Int) ≤ 255 := by omega
  have q3 : (0 : Int) ≤ (n : Int) := by omega
  have HP := Lib.hid (possible_yes (t : Int) (n : Int) w q1 q2 q3)
  have qm3 : (m : Int) ≤ 254000 := by omega
  clear hm hT
  by_cases h0 : T = 0
  · have q4 : ¬ (9223372036854775807 : Int) < (n : Int) := by omega
    have q5 : (T : Int) < 1 := by omega
    clear h0
    go_enter Tryz.func77, Tryz.ntmps77
    go_wp2_with (go_at_call 78; refine HP.out.mono ?_; rintro e w' ⟨rfl, rfl⟩)
    go_ret2
    exact ⟨rfl, rfl⟩
  · obtain ⟨Q, hQ, q4, q5, q6⟩ := quo_big (T := T) (n := n) (by omega) (by omega) hn
    have q7 : ¬ (T : Int) < 1 := by omega
    have q8 : ((T : Int) == 0) = false := by rw [beq_eq_false_iff_ne]; omega
    have q9 : (1 : Int) ≤ (T : Int) := by omega
    clear h0
    go_enter Tryz.func77, Tryz.ntmps77
    go_wp2_with (go_at_call 78; refine HP.out.mono ?_; rintro e w' ⟨rfl, rfl⟩)
    go_ret2
    exact ⟨rfl, rfl⟩
theorem maskC : MaskC := by
  intro t n w h1 h2 hn
  go_enter Tryz.func48, Tryz.ntmps48
  go_wp2_with (go_at_call 77; refine (msize_yes t n _ h1 h2 hn).mono ?_; rintro e w' ⟨rfl, rfl⟩)
  go_ret
  exact ⟨rfl, Below.refl _ _⟩
/-- Where 0 stands first, if it does. -/
theorem index_any (a : Option Addr) (L cap : Nat) (X : List GF) (j : Nat) (r : Int) (w : World) (hx : Pa w a L cap X) (hj : j ≤ L) (hn : ∀ k, k < j → co X k ≠ 0) (hz : j < L → co X j = 0) (hr : (j < L → r = (j : Int)) ∧ (j = L → r = -1)) :
    Calls Tryz.prog 101 #[.slice a L cap, .int .u8 0] w fun e w' => e = .returned (.int .i64 r) ∧ w = w' := by
  have HX := Lib.hid hx
  have HN := Lib.hid hn
  have HZ := Lib.hid hz
  have HR := Lib.hid hr
  have hcap := hx.bd
  clear hx hn hz hr
  go_enter Tryz.func101, Tryz.ntmps101
  go_wp2
  go_loopw [8] (fun i wr => ∃ k : Nat, k ≤ j ∧ i = .int .i64 (k : Nat) ∧ wr = w)
    (fun i _ => L - (intOf i).toNat)
  case atStart => exact ⟨0, Nat.zero_le _, rfl, rfl⟩
  case round =>
    obtain ⟨k, hk, rfl, rfl⟩ := hrel
    by_cases hlt : k < L
    · obtain ⟨bx, ox, rfl, hbx, hcx⟩ := HX.out.at_ hlt
      have q2 : (k : Int) < (L : Int) := by omega
      have q3 : (0 : Int) ≤ (k : Int) := by omega
      by_cases e : k = j
      · have hc0 : co X k = 0 := by rw [e]; exact HZ.out (by omega)
        rw [hc0] at hcx
        have q4 : r = (k : Int) := by rw [HR.out.1 (by omega), e]
        have Q4 := Lib.hid q4
        clear hc0 e q4
        have z : toI (0 : GF) = 0 := rfl
        go_wp2
        go_ret
        exact ⟨by rw [Q4.out]; rfl, rfl⟩
      · have hc0 := HN.out k (by omega)
        have q5 : toI (co X k) ≠ 0 := fun h => hc0 (toI_eq_zero.1 h)
        have q6 : (toI (co X k) == 0) = false := by rw [beq_eq_false_iff_ne]; exact q5
        have q7 : ((0 : Int) == toI (co X k)) = false := by rw [beq_eq_false_iff_ne]; exact Ne.symm q5
        have hk1 : k + 1 ≤ j := by omega
        clear hc0 q5 e
        go_wp2
        go_roundw
        case rel => exact ⟨k + 1, by omega, by go_num, by trivial⟩
        case measure => simp [intOf]; omega
    · have q4 : r = -1 := HR.out.2 (by omega)
      have Q4 := Lib.hid q4
      obtain rfl : L = k := by omega
      clear q4
      go_wp2
      go_ret
      exact ⟨by rw [Q4.out]; rfl, rfl⟩
theorem contains_no (a : Option Addr) (L cap : Nat) (X : List GF) (w : World) (hx : Pa w a L cap X) (h : ∀ k, k < L → co X k ≠ 0) :
    Calls Tryz.prog 79 #[.slice a L cap, .int .u8 0] w fun e w' => e = .returned (.bool false) ∧ w = w' := by
  have H := Lib.hid (index_any a L cap X L (-1) w hx (Nat.le_refl _) h (fun h => absurd h (by omega)) ⟨fun h => absurd h (by omega), fun _ => rfl⟩)
  clear hx h
  go_enter Tryz.func79, Tryz.ntmps79
  go_wp2_with (go_at_call 101; refine H.out.mono ?_; rintro e w' ⟨rfl, rfl⟩)
  go_ret
  exact ⟨rfl, rfl⟩
/-! ## checked -/
theorem chk_ok (p : Addr) (t n m : Nat) (aM : Option Addr) (cM : Nat) (a : Option Addr) (L cap : Nat) (X : List GF) (w : World) (hx : Pa w a L cap X) (h1 : 1 ≤ t) (h2 : t ≤ 255) (hn : n ≤ 1000) (hz : ∀ k, k < L → co X k ≠ 0) (hm : m = (t - 1) * n) (hc : m ≤ cM ∧ cM ≤ 9223372036854775807) :
    Calls Tryz.prog 49 #[.pointer (some p), .int .i64 (t : Nat), .int .i64 (n : Nat), .slice aM m cM, .slice a L cap] w fun e w' => e = .returned (.int .i64 0) ∧ w = w' := by
  have H := Lib.hid (possible_yes (t : Int) (n : Int) w (by omega) (by omega) (by omega))
  have H2 := Lib.hid (contains_no a L cap X w hx hz)
  have H3 := Lib.hid (msize_yes t n w h1 h2 hn)
  rw [← hm] at H3
  have q : ((m : Int) != (m : Int)) = false := by simp
  clear hx hz hm
  go_enter Tryz.func49, Tryz.ntmps49
  go_wp2_with (first
    | (go_at_call 78; refine H.out.mono ?_; rintro e w' ⟨rfl, rfl⟩)
    | (go_at_call 79; refine H2.out.mono ?_; rintro e w' ⟨rfl, rfl⟩)
    | (go_at_call 77; refine H3.out.mono ?_; rintro e w' ⟨rfl, rfl⟩))
  go_ret
  exact ⟨rfl, rfl⟩
end Go.Proofs.YtappfdbmhgifcaaGreatDoor
/- Contracts of copied, Sum; a row and x times another, as numbers of the field. -/
namespace Go.Proofs.YtappfdbmhgifcaaGreatDoor
open Go.ChangeShapes Go.WideShapes Go.ChangeAt Go.RowKit
set_option linter.unusedVariables false
set_option maxRecDepth 100000

theorem fcopied_any (a : Option Addr) (L cap : Nat) (l : List Int) (w : World) (hx : Arg8 w a L cap l) (hL : L ≤ 140737488355328) :
    Calls Tryz.prog 103 #[.slice a L cap] w fun e w' => ∃ g, e = .returned (.slice (some ⟨g, 0, none⟩) L L) ∧
      w'.ownsRow w.heap.size 5 1 (.slice (some ⟨g, 0, none⟩) L L) L (l.map (Value.int .u8)) ∧ Below w.heap.size w w' := by
  obtain ⟨hl, hb8, hb, hc1, hc2⟩ := hx
  have hmk := run_make_row' (P := Tryz.prog) 22 5 (.int .u8 0) 1 Tryz.underlying22 info5 rfl .i64 .i64 L (by omega) (by omega)
  have k1 : (w.alloc (.cells (madeCells #[.int .u8 0] L) 5)).heap[w.heap.size]? = some (.cells (madeCells #[.int .u8 0] L).toList.toArray 5 (0, 0)) := by rw [Array.toArray_toList]; exact heap_alloc_new w _
  have k2 : (l.map (Value.int .u8)).length = Nat.min L L := by simp [hl]
  have k3 : 0 < (l.map (Value.int .u8)).length → ∃ ad, a = some ad ∧ ∀ j v, (l.map (Value.int .u8))[j]? = some v → (w.alloc (.cells (madeCells #[.int .u8 0] L) 5)).cell? (ad.add j) = some v :=
    fun h0 => (hb.below ((Below.refl _ _).alloc (Nat.le_refl _) _)).cells h0
  have k4 : 0 + (l.map (Value.int .u8)).length ≤ (madeCells #[.int .u8 0] L).toList.length := by simp [hl, size_madeCells]
  have k5 : Below w.heap.size w (w.alloc (.cells (madeCells #[.int .u8 0] L) 5)) := (Below.refl _ _).alloc (Nat.le_refl _) _
  have K1 := Lib.hid k1; have K2 := Lib.hid k2; have K3 := Lib.hid k3; have HL := Lib.hid hl
  clear k1 k2 k3 hl
  go_enter Tryz.func103, Tryz.ntmps103
  go_wp2_with ((with_reducible show wpList _ _ _ (⟨some 9, _, _, _, _, _⟩ :: _) _ _); refine wpList_copy_splice (o := ⟨some 9, _, _, _, _, _⟩) rfl (.tmp 7) (.tmp 8) 22 22 rfl 5 Tryz.underlying22 size_u8 (some ⟨w.heap.size, 0, none⟩) a L L L cap rfl rfl w.heap.size 0 (madeCells #[.int .u8 0] L).toList 5 K1.out (l.map (Value.int .u8)) K2.out (fun h0 => ⟨rfl, K3.out h0⟩) k4 (ints_oneCell _ _) w.heap.size w k5 (Nat.le_refl _) ?_; intro w1 hg1 hb1)
  go_ret
  refine ⟨w.heap.size, rfl, ⟨by simp [HL.out], .inr ⟨w.heap.size, L, _, rfl, Nat.le_refl _, hg1.out, Nat.le_refl _, by unfold maxLen; omega, ?_, ?_⟩⟩, hb1⟩
  · simp [splice_all, HL.out, size_madeCells]
  · simp [splice_all, HL.out]

/-- Each byte, and c times the other row's at its place added. -/
def sumL (l : List Int) (c : Int) (m : List Int) : List Int := (List.range l.length).map fun i => if i < m.length then xoI (l.getD i 0) (gmI c (m.getD i 0)) else l.getD i 0
theorem length_sumL (l : List Int) (c : Int) (m : List Int) : (sumL l c m).length = l.length := by simp [sumL]
theorem sumL_getD {l : List Int} (c : Int) (m : List Int) {i : Nat} (h : i < l.length) : (sumL l c m).getD i 0 = if i < m.length then xoI (l.getD i 0) (gmI c (m.getD i 0)) else l.getD i 0 := by
  simp only [sumL, List.getD_eq_getElem?_getD, List.getElem?_map, List.getElem?_range h, Option.map_some, Option.getD_some]
set_option maxHeartbeats 1000000 in
theorem fsum_any (b : Nat) (c : Int) (a1 : Option Addr) (L1 cap1 : Nat) (l : List Int) (a2 : Option Addr) (L2 cap2 : Nat) (m : List Int) (w : World) (hf : Fld w b) (hc : 0 ≤ c ∧ c < 256) (hx : Arg8 w a1 L1 cap1 l) (hy : Arg8 w a2 L2 cap2 m) (hL : L1 ≤ 140737488355328) :
    Calls Tryz.prog 81 #[.pointer (some ⟨b, 0, none⟩), .slice a1 L1 cap1, .int .u8 c, .slice a2 L2 cap2] w fun e w' => ∃ g, e = .returned (.slice (some ⟨g, 0, none⟩) L1 L1) ∧
      w'.ownsRow w.heap.size 5 1 (.slice (some ⟨g, 0, none⟩) L1 L1) L1 ((sumL l c m).map (Value.int .u8)) ∧ Below w.heap.size w w' := by
  have HF := Lib.hid hf
  have HX := Lib.hid hx
  have HY := Lib.hid hy
  have HL := Lib.hid hx.1
  have HL2 := Lib.hid hy.1
  have hcap := hx.2.2.2
  have hcap2 := hy.2.2.2
  clear hf hx hy
  go_enter Tryz.func81, Tryz.ntmps81
  go_wp2_with (go_at_call 103; refine (fcopied_any _ _ _ l _ HX.out hL).mono ?_; rintro e w1 ⟨g, rfl, hown, hbel⟩)
  case inl =>
    have hM1 : L2 ≤ L1 := by omega
    have hM2 : L2 ≤ L2 := by omega
    have hM3 : ∀ i, L2 ≤ i → i < L1 → ¬ i < L2 := fun i h1 h2 => by omega
    have HM3 := Lib.hid hM3
    clear hM3
    have hg0 : w.heap.size ≤ g := (hown.lt g rfl).1
    go_loopw [20] (fun i wr => ∃ (k : Nat) (cur : List Int), k ≤ L2 ∧ i = .int .i64 (k : Nat) ∧ wr.ownsRow w.heap.size 5 1 (.slice (some ⟨g, 0, none⟩) L1 L1) L1 (cur.map (Value.int .u8)) ∧ Hid (Mix (sumL l c m) l cur k) ∧ Below w.heap.size w wr)
      (fun i _ => L2 - (intOf i).toNat)
    case atStart => exact ⟨0, l, Nat.zero_le _, rfl, hown, Lib.hid (Mix.zero _ _), hbel⟩
    case round =>
      obtain ⟨k, cur, hk, rfl, hown, hM, hbel⟩ := hrel
      by_cases hlt : k < L2
      · obtain ⟨bb, ob, rfl, hbb, hcb⟩ := (HY.out.2.2.1.below hbel).at_ (k := k) (by rw [HL2.out]; omega)
        have hcl : cur.length = L1 := by rw [hM.out.1, HL.out]
        have hcg := own_cells hown k (by omega)
        rw [Nat.zero_add] at hcg
        have hfz := hown.frozenAt k
        have hfw := HF.out.below hbel
        have hst := Lib.hid ((hown.stored k (.int .u8 ((sumL l c m).getD k 0))).1)
        have hb2 := Lib.hid (hbel.setCell (p := ⟨g, k, none⟩) hg0 (.int .u8 ((sumL l c m).getD k 0)))
        have hN := Lib.hid (hM.out.next (by rw [HL.out]; omega))
        have hcur := hM.out.2 k (by rw [HL.out]; omega)
        rw [if_neg (by omega)] at hcur
        have wX := allB_getD HX.out.2.1 k
        have wY := allB_getD HY.out.2.1 k
        have hsc := sumL_getD c m (l := l) (i := k) (by rw [HL.out]; omega)
        rw [if_pos (by rw [HL2.out]; omega)] at hsc
        rw [hcur] at hcg
        rw [hsc] at hst hb2
        have HS := Lib.hid hsc
        obtain ⟨X, hX⟩ : ∃ X, X = l.getD k 0 := ⟨_, rfl⟩
        obtain ⟨Y, hY⟩ : ∃ Y, Y = m.getD k 0 := ⟨_, rfl⟩
        rw [← hX] at hcg wX hst hb2
        rw [← hY] at hcb wY hst hb2
        have HXX := Lib.hid hX
        have HYY := Lib.hid hY
        have wG := gmI_bd c Y
        clear hX hY hcl hcur hsc hown hbel
        have q1 : (k : Int) < (L1 : Int) := by omega
        have q2 : (k : Int) < (L2 : Int) := by omega
        have q3 : (0 : Int) ≤ (k : Int) := by omega
        have hfd : Fld wr.drew b := hfw
        go_wp2_with fail
        go_region_with (first
          | (go_at_call 104; refine (mul_I _ _ _ _ hfd hc wY).mono ?_; rintro e w' ⟨rfl, rfl⟩)
          | (go_at_call 56; refine (add_I _ _ wX wG _).mono ?_; rintro e w' ⟨rfl, rfl⟩))
        all_goals
          go_wp2
          go_roundw
          case rel => exact ⟨k + 1, cur.set k ((sumL l c m).getD k 0), by omega, by go_num, by rw [← map_set_u8, HS.out, ← HXX.out, ← HYY.out]; exact hst.out, hN, hb2.out.drew⟩
          case measure => simp [intOf]; omega
      · obtain rfl : k = L2 := by omega
        have he := hM.out.all (by rw [length_sumL]) (fun i h1 h2 => by rw [sumL_getD c m h2, if_neg (by rw [HL2.out]; exact HM3.out i h1 (by rw [← HL.out]; exact h2))])
        have HO := Lib.hid hown
        have HB := Lib.hid hbel
        have HE := Lib.hid he
        clear hown hbel he
        go_wp2
        go_ret
        exact ⟨g, rfl, by rw [← HE.out]; exact HO.out, HB.out⟩
  case inr =>
    have hM1 : L1 ≤ L1 := by omega
    have hM2 : L1 ≤ L2 := by omega
    have hM3 : ∀ i, L1 ≤ i → i < L1 → ¬ i < L2 := fun i h1 h2 => by omega
    have HM3 := Lib.hid hM3
    clear hM3
    have hg0 : w.heap.size ≤ g := (hown.lt g rfl).1
    go_loopw [20] (fun i wr => ∃ (k : Nat) (cur : List Int), k ≤ L1 ∧ i = .int .i64 (k : Nat) ∧ wr.ownsRow w.heap.size 5 1 (.slice (some ⟨g, 0, none⟩) L1 L1) L1 (cur.map (Value.int .u8)) ∧ Hid (Mix (sumL l c m) l cur k) ∧ Below w.heap.size w wr)
      (fun i _ => L1 - (intOf i).toNat)
    case atStart => exact ⟨0, l, Nat.zero_le _, rfl, hown, Lib.hid (Mix.zero _ _), hbel⟩
    case round =>
      obtain ⟨k, cur, hk, rfl, hown, hM, hbel⟩ := hrel
      by_cases hlt : k < L1
      · obtain ⟨bb, ob, rfl, hbb, hcb⟩ := (HY.out.2.2.1.below hbel).at_ (k := k) (by rw [HL2.out]; omega)
        have hcl : cur.length = L1 := by rw [hM.out.1, HL.out]
        have hcg := own_cells hown k (by omega)
        rw [Nat.zero_add] at hcg
        have hfz := hown.frozenAt k
        have hfw := HF.out.below hbel
        have hst := Lib.hid ((hown.stored k (.int .u8 ((sumL l c m).getD k 0))).1)
        have hb2 := Lib.hid (hbel.setCell (p := ⟨g, k, none⟩) hg0 (.int .u8 ((sumL l c m).getD k 0)))
        have hN := Lib.hid (hM.out.next (by rw [HL.out]; omega))
        have hcur := hM.out.2 k (by rw [HL.out]; omega)
        rw [if_neg (by omega)] at hcur
        have wX := allB_getD HX.out.2.1 k
        have wY := allB_getD HY.out.2.1 k
        have hsc := sumL_getD c m (l := l) (i := k) (by rw [HL.out]; omega)
        rw [if_pos (by rw [HL2.out]; omega)] at hsc
        rw [hcur] at hcg
        rw [hsc] at hst hb2
        have HS := Lib.hid hsc
        obtain ⟨X, hX⟩ : ∃ X, X = l.getD k 0 := ⟨_, rfl⟩
        obtain ⟨Y, hY⟩ : ∃ Y, Y = m.getD k 0 := ⟨_, rfl⟩
        rw [← hX] at hcg wX hst hb2
        rw [← hY] at hcb wY hst hb2
        have HXX := Lib.hid hX
        have HYY := Lib.hid hY
        have wG := gmI_bd c Y
        clear hX hY hcl hcur hsc hown hbel
        have q1 : (k : Int) < (L1 : Int) := by omega
        have q2 : (k : Int) < (L2 : Int) := by omega
        have q3 : (0 : Int) ≤ (k : Int) := by omega
        have hfd : Fld wr.drew b := hfw
        go_wp2_with fail
        go_region_with (first
          | (go_at_call 104; refine (mul_I _ _ _ _ hfd hc wY).mono ?_; rintro e w' ⟨rfl, rfl⟩)
          | (go_at_call 56; refine (add_I _ _ wX wG _).mono ?_; rintro e w' ⟨rfl, rfl⟩))
        all_goals
          go_wp2
          go_roundw
          case rel => exact ⟨k + 1, cur.set k ((sumL l c m).getD k 0), by omega, by go_num, by rw [← map_set_u8, HS.out, ← HXX.out, ← HYY.out]; exact hst.out, hN, hb2.out.drew⟩
          case measure => simp [intOf]; omega
      · obtain rfl : k = L1 := by omega
        have he := hM.out.all (by rw [length_sumL]) (fun i h1 h2 => by rw [sumL_getD c m h2, if_neg (by rw [HL2.out]; exact HM3.out i h1 (by rw [← HL.out]; exact h2))])
        have HO := Lib.hid hown
        have HB := Lib.hid hbel
        have HE := Lib.hid he
        clear hown hbel he
        go_wp2
        go_ret
        exact ⟨g, rfl, by rw [← HE.out]; exact HO.out, HB.out⟩
end Go.Proofs.YtappfdbmhgifcaaGreatDoor
/- Contract of shamir's dealing: the rows of a dealing, still in their memory. -/
namespace Go.Proofs.YtappfdbmhgifcaaGreatDoor
open Go.ChangeShapes Go.WideShapes Go.ChangeAt Go.RowKit Go.Shelf GF
set_option linter.unusedVariables false
set_option linter.unusedSimpArgs false
set_option maxRecDepth 100000

theorem infoR : (Tryz.prog.info? 22).map (fun i => (i.zero, i.size, i.bytes)) = some (some (.slice none 0 0), 1, 24) := by kernel_rfl
theorem lit_cellsV (w : World) (v : Value) (e : TypeId) : ∀ j u, [v][j]? = some u → (w.alloc (.cells #[v] e)).cell? ((⟨w.heap.size, 0, none⟩ : Addr).add j) = some u := fun j u h => by
  have := (World.ownsRow_lit (base := w.heap.size) (e := e) (size := 1) w #[v] 1 (Nat.le_refl _) (by unfold maxLen; omega) rfl).cells (g := w.heap.size) rfl j u
  exact this h
theorem own_sliceV {w : World} {base : Nat} {e : TypeId} {size : Nat} {v : Value} {n : Nat} {xs : List Value} (h : w.ownsRow base e size v n xs) : ∃ a c, v = .slice a n c := by
  rcases h.2 with ⟨rfl, rfl⟩ | ⟨g, cap, cur, rfl, _⟩
  · exact ⟨_, _, rfl⟩
  · exact ⟨_, _, rfl⟩
theorem own_belowV {w w' : World} {base : Nat} {e : TypeId} {size : Nat} {v : Value} {n : Nat} {xs : List Value} (h : w.ownsRow base e size v n xs) (hb : Below w.heap.size w w') : w'.ownsRow base e size v n xs := by
  refine ⟨h.1, ?_⟩
  rcases h.2 with h2 | ⟨g, cap, cur, h1, h2, h3, h4⟩
  · exact .inl h2
  · refine .inr ⟨g, cap, cur, h1, h2, ?_, h4⟩
    rw [hb.block g ?_]
    · exact h3
    · rcases Nat.lt_or_ge g w.heap.size with hlt | hge
      · exact hlt
      · rw [Array.getElem?_eq_none hge] at h3; cases h3
theorem take_stepV {α : Type} [Inhabited α] {M : List α} {k : Nat} {x : α} (h : M[k]? = some x) : M.take (k + 1) = M.take k ++ [x] := by
  rw [List.take_add_one, h]; rfl
/-- A part of a row. -/
def seg (M : List GF) (lo n : Nat) : List GF := (M.drop lo).take n
theorem seg_co {M : List GF} {lo n k : Nat} (h : k < n) : co (seg M lo n) k = co M (lo + k) := by
  unfold seg co; simp [List.getD_eq_getElem?_getD, h]
theorem seg_len {M : List GF} {lo n : Nat} (h : lo + n ≤ M.length) : (seg M lo n).length = n := by simp [seg]; omega
def cutA (a : Option Addr) (c lo : Nat) : Option Addr := if c = lo then a else a.map (·.add lo)
theorem Pa.seg {w : World} {a : Option Addr} {m c : Nat} {M : List GF} (h : Pa w a m c M) {lo n : Nat} (h1 : lo + n ≤ m) : Pa w (cutA a c lo) n (c - lo) (seg M lo n) := by
  have hl := h.len
  have hc := h.1.2.2.2
  refine ⟨⟨by rw [length_iL, seg_len (by omega)], allB_iL _, fun h0 => ?_, by omega, by omega⟩, fun e => ?_⟩
  · rw [length_iL, seg_len (by omega)] at h0
    obtain ⟨b, off, e, hb, hcl⟩ := h.1.2.2.1 (by rw [length_iL]; omega)
    refine ⟨b, off + lo, ?_, hb, fun i hi => ?_⟩
    · unfold cutA; rw [if_neg (by omega), e]; exact congrArg some (Addr.add_lit _ _ _)
    · rw [length_iL, seg_len (by omega)] at hi
      have := hcl (lo + i) (by rw [length_iL]; omega)
      rw [getD_iL] at this
      rw [getD_iL, seg_co hi, ← this]
      congr 2
      omega
  · unfold cutA at e
    by_cases q : c = lo
    · omega
    · rw [if_neg q] at e
      have : a = none := by cases a with
        | none => rfl
        | some x => cases e
      have := h.2 this
      omega
/-- The rows of a dealing, and the slices that they are. -/
def dR (t n : Nat) (S M : List GF) : List (List GF) := S :: (List.range (t - 1)).map fun i => seg M (i * n) n
def dV (t n : Nat) (aS : Option Addr) (cS : Nat) (aM : Option Addr) (cM : Nat) : List Value := .slice aS n cS :: (List.range (t - 1)).map fun i => .slice (cutA aM cM (i * n)) n (cM - i * n)
theorem dR_len {t : Nat} (n : Nat) (S M : List GF) (h : 1 ≤ t) : (dR t n S M).length = t := by unfold dR; simp; omega
theorem dV_len {t : Nat} (n : Nat) (aS : Option Addr) (cS : Nat) (aM : Option Addr) (cM : Nat) (h : 1 ≤ t) : (dV t n aS cS aM cM).length = t := by unfold dV; simp; omega
theorem dR_zero (t n : Nat) (S M : List GF) : rw_ (dR t n S M) 0 = S := rfl
theorem dR_succ {t i : Nat} (n : Nat) (S M : List GF) (h : i + 1 < t) : rw_ (dR t n S M) (i + 1) = seg M (i * n) n := by
  unfold rw_ dR; simp [List.getD_eq_getElem?_getD, show i < t - 1 by omega]
theorem dV_succ {t i : Nat} (n : Nat) (aS : Option Addr) (cS : Nat) (aM : Option Addr) (cM : Nat) (h : i + 1 < t) : (dV t n aS cS aM cM)[i + 1]? = some (.slice (cutA aM cM (i * n)) n (cM - i * n)) := by
  unfold dV; simp [show i < t - 1 by omega]
theorem mul_step {t n i m : Nat} (hm : m = (t - 1) * n) (h : i + 1 < t) : i * n + n ≤ m := by
  have h1 : i + 1 ≤ t - 1 := by omega
  have h2 := Nat.mul_le_mul_right n h1
  rw [Nat.add_mul, Nat.one_mul] at h2
  omega
theorem dR_wide {t n m : Nat} {S M : List GF} (hS : S.length = n) (hM : M.length = m) (ht : 1 ≤ t) (hm : m = (t - 1) * n) {k : Nat} (hk : k < t) : (rw_ (dR t n S M) k).length = n := by
  match k with
  | 0 => exact hS
  | i + 1 => rw [dR_succ n S M hk, seg_len (by rw [hM]; exact mul_step hm hk)]
/-- Byte by byte they are the dealing's polynomial. -/
theorem dR_co {t n : Nat} {S M : List GF} {i k : Nat} (hi : i < n) (hk : k < t) : co (rw_ (dR t n S M) k) i = co (dl t n S M i) k := by
  match k with
  | 0 => rw [dR_zero, dl_zero]
  | k + 1 => rw [dR_succ n S M hk, seg_co hi, dl_succ n S M i hk]
theorem dRV {w : World} {t n m : Nat} {aS : Option Addr} {cS : Nat} {S : List GF} {aM : Option Addr} {cM : Nat} {M : List GF} (hS : Pa w aS n cS S) (hM : Pa w aM m cM M) (ht : 1 ≤ t) (hm : m = (t - 1) * n) : RV w (fun b => b < w.heap.size) (dV t n aS cS aM cM) (dR t n S M) := by
  refine ⟨by rw [dV_len _ _ _ _ _ ht, dR_len _ _ _ ht], fun i hi => ?_⟩
  rw [dR_len _ _ _ ht] at hi
  have key : ∀ {a : Option Addr} {c : Nat} {P : List GF}, Pa w a n c P → ∀ v, v = Value.slice a n c → ∃ a c, some v = some (.slice a P.length c) ∧ P.length ≤ c ∧ c ≤ maxLen ∧ (a = none → c = 0) ∧
      (0 < P.length → ∃ b off, a = some ⟨b, off, none⟩ ∧ b < w.heap.size ∧ b < w.heap.size ∧ ∀ j, j < P.length → w.cell? ⟨b, off + j, none⟩ = some (.int .u8 (toI (co P j)))) := fun {a c P} h v e => by
    have hl := h.len
    refine ⟨a, c, by rw [e, hl], by rw [hl]; exact h.1.2.2.2.1, h.1.2.2.2.2, h.2, fun h0 => ?_⟩
    obtain ⟨b, off, e, hb, hc⟩ := h.1.2.2.1 (by rw [length_iL]; exact h0)
    exact ⟨b, off, e, hb, hb, fun j hj => by have := hc j (by rw [length_iL]; exact hj); rwa [getD_iL] at this⟩
  match i with
  | 0 => exact key hS _ rfl
  | i + 1 =>
    rw [dR_succ n S M hi, dV_succ n aS cS aM cM hi]
    exact key (hM.seg (mul_step hm hi)) _ rfl

set_option maxHeartbeats 1000000 in
theorem dealing_any (t n m : Nat) (aS : Option Addr) (cS : Nat) (S : List GF) (aM : Option Addr) (cM : Nat) (M : List GF) (w : World) (hS : Pa w aS n cS S) (hM : Pa w aM m cM M) (h1 : 1 ≤ t) (h2 : t ≤ 255) (hm : m = (t - 1) * n) (hn : n ≤ 1000) :
    Calls Tryz.prog 50 #[.int .i64 (t : Nat), .slice aS n cS, .slice aM m cM] w fun e w' => ∃ a' c', e = .returned (.slice a' t c') ∧ Mat w' a' t c' (dR t n S M) ∧ Below w.heap.size w w' := by
  obtain ⟨T, hT⟩ : ∃ T, t = T + 1 := ⟨t - 1, by omega⟩
  obtain ⟨i22, hi, hz0, hz1, hz2⟩ := info_parts infoR
  have HI := Lib.hid (And.intro hi (And.intro hz0 (And.intro hz1 hz2)))
  have HM := Lib.hid hM
  have HS := Lib.hid hS
  have HR := Lib.hid (dRV hS hM h1 hm)
  have HDL := Lib.hid (dV_len n aS cS aM cM h1)
  have hsb := hS.bd
  have hmb := hM.bd
  have Hm := Lib.hid hm
  have HN := Lib.hid hn
  have HT := Lib.hid (And.intro h2 hT)
  have qT : (t : Int) - 1 = (T : Int) := by omega
  have qT2 : (T : Int) ≤ 254 := by omega
  have ho0 : Hid ((w.alloc (.cells #[.slice aS n cS] 22)).ownsRow w.heap.size 22 1 (.slice (some ⟨w.heap.size, 0, none⟩) (0 + 1 : Nat) 1) (0 + 1) ((dV t n aS cS aM cM).take (0 + 1))) :=
    Lib.hid (World.ownsRow_lit (base := w.heap.size) (e := 22) (size := 1) w #[.slice aS n cS] 1 (Nat.le_refl _) (by unfold maxLen; omega) rfl)
  have hb0 : Hid (Below w.heap.size w (w.alloc (.cells #[.slice aS n cS] 22))) := Lib.hid ((Below.refl _ _).alloc (Nat.le_refl _) _)
  clear hi hz0 hz1 hz2 hS hM h1 h2 hm hn hT
  go_enter Tryz.func50, Tryz.ntmps50
  go_wp2
  go_loopw [16, 8] (fun j o wr => ∃ (i : Nat) (ao : Option Addr) (cc : Nat), i ≤ T ∧ j = .int .i64 (i : Nat) ∧ o = .slice ao (i + 1 : Nat) cc ∧ Hid (wr.ownsRow w.heap.size 22 1 (.slice ao (i + 1 : Nat) cc) (i + 1) ((dV t n aS cS aM cM).take (i + 1))) ∧ Hid (Below w.heap.size w wr))
    (fun j _ _ => T - (intOf j).toNat)
  case atStart => exact ⟨0, _, 1, Nat.zero_le _, rfl, rfl, ho0, hb0⟩
  case round =>
    obtain ⟨i, ao, cc, hi, rfl, rfl, hO, hB⟩ := hrel
    by_cases hlt : i < T
    · have qi : (i : Int) < (T : Int) := by omega
      have qi0 : (0 : Int) ≤ (i : Int) := by omega
      have hst := mul_step (i := i) Hm.out (by have := HT.out.2; omega)
      have hm2 : m ≤ 254 * 1000 := by rw [Hm.out]; exact Nat.mul_le_mul (by have := HT.out.1; omega) HN.out
      have hdv := dV_succ n aS cS aM cM (t := t) (i := i) (by have := HT.out.2; omega)
      obtain ⟨lo, hlo⟩ : ∃ lo, lo = i * n := ⟨_, rfl⟩
      obtain ⟨hi', hhi⟩ : ∃ hi', hi' = lo + n := ⟨_, rfl⟩
      rw [← hlo] at hst hdv
      have q1 : (i : Int) * (n : Int) = (lo : Int) := by rw [hlo]; rfl
      have q2 : ((i : Int) + 1) * (n : Int) = (hi' : Int) := by rw [Int.add_mul, q1, hhi]; omega
      have q3 : (lo : Int) ≤ (hi' : Int) := by omega
      have q4 : (hi' : Int) ≤ (m : Int) := by omega
      have q5 : hi' - lo = n := by omega
      have q6 : (m : Int) ≤ 254000 := by omega
      have q7 : (hi' : Int) ≤ (cM : Int) := by omega
      have q8 : (0 : Int) ≤ (lo : Int) := by omega
      have HDV := Lib.hid (take_stepV hdv)
      have Hlo := Lib.hid hlo
      have Hhi := Lib.hid hhi
      have Hst := Lib.hid hst
      clear hdv hlo hhi hst hm2
      rename World => w1
      rcases aM with _ | ad
      · have hcu : cutA none cM lo = none := by unfold cutA; simp
        have qs : lo = 0 ∧ cM = 0 := by have := HM.out.2 rfl; have := Hst.out; omega
        obtain ⟨HC, HQ⟩ : Hid (cutA none cM lo = none) ∧ Hid (lo = 0 ∧ cM = 0) := ⟨Lib.hid hcu, Lib.hid qs⟩
        clear hcu qs
        go_wp2_with ((with_reducible show wpList _ _ _ (⟨some 30, _, _, _, _, _⟩ :: _) _ _); go_loud (refine wpList_append_own _ rfl (.tmp 19) (.tmp 29) 28 rfl w.heap.size 22 i22 (.slice none 0 0) 1 24 Tryz.underlying28 HI.out.1 HI.out.2.1 HI.out.2.2.1 HI.out.2.2.2 rfl (by decide) _ (i + 1) ((dV t n aS cS none cM).take (i + 1)) rfl (hO.out.alloc _) _ 1 1 [_] rfl rfl (lit_cellsV _ _ _) (by intro u hu; cases List.mem_singleton.1 hu; rfl) (by unfold maxLen; omega) (by omega) (by have := hB.out.size; simp; omega) ?_); go_loud (intro v1 wc hown1 hg1 _; have hbel := (hB.out.alloc hB.out.size (.cells #[.slice (none) n (cM - lo)] 22)).grown hg1 (by have := hB.out.size; simp; omega) (fun z hz => (hO.out.lt z hz).1); obtain ⟨a1, c1, hv1⟩ := own_sliceV hown1; subst hv1; have hdd := HDV.out; rw [HC.out] at hdd; rw [← hdd] at hown1; have HO1 := Lib.hid hown1; have HN1 := Lib.hid hbel; clear hown1 hg1 hbel hdd))
        go_roundw
        case rel => exact ⟨i + 1, a1, c1, by omega, by go_num, rfl, HO1, HN1⟩
        case measure => simp [intOf]; omega
      · by_cases qc : cM = lo
        · obtain rfl : cM = lo := qc
          have HC := Lib.hid (show cutA (some ad) cM cM = some ad by unfold cutA; rw [if_pos rfl])
          have HZ := Lib.hid (Nat.sub_self cM)
          go_wp2_with ((with_reducible show wpList _ _ _ (⟨some 30, _, _, _, _, _⟩ :: _) _ _); go_loud (refine wpList_append_own _ rfl (.tmp 19) (.tmp 29) 28 rfl w.heap.size 22 i22 (.slice none 0 0) 1 24 Tryz.underlying28 HI.out.1 HI.out.2.1 HI.out.2.2.1 HI.out.2.2.2 rfl (by decide) _ (i + 1) ((dV t n aS cS (some ad) cM).take (i + 1)) rfl (hO.out.alloc _) _ 1 1 [_] rfl rfl (lit_cellsV _ _ _) (by intro u hu; cases List.mem_singleton.1 hu; rfl) (by unfold maxLen; omega) (by omega) (by have := hB.out.size; simp; omega) ?_); go_loud (intro v1 wc hown1 hg1 _; have hbel := (hB.out.alloc hB.out.size (.cells #[.slice (some ad) n 0] 22)).grown hg1 (by have := hB.out.size; simp; omega) (fun z hz => (hO.out.lt z hz).1); obtain ⟨a1, c1, hv1⟩ := own_sliceV hown1; subst hv1; have hdd := HDV.out; rw [HC.out, HZ.out] at hdd; rw [← hdd] at hown1; have HO1 := Lib.hid hown1; have HN1 := Lib.hid hbel; clear hown1 hg1 hbel hdd))
          go_roundw
          case rel => exact ⟨i + 1, a1, c1, by omega, by go_num, rfl, HO1, HN1⟩
          case measure => simp [intOf]; omega
        · have HC := Lib.hid (show cutA (some ad) cM lo = some (ad.add lo) by unfold cutA; rw [if_neg qc]; rfl)
          go_wp2_with ((with_reducible show wpList _ _ _ (⟨some 30, _, _, _, _, _⟩ :: _) _ _); go_loud (refine wpList_append_own _ rfl (.tmp 19) (.tmp 29) 28 rfl w.heap.size 22 i22 (.slice none 0 0) 1 24 Tryz.underlying28 HI.out.1 HI.out.2.1 HI.out.2.2.1 HI.out.2.2.2 rfl (by decide) _ (i + 1) ((dV t n aS cS (some ad) cM).take (i + 1)) rfl (hO.out.alloc _) _ 1 1 [_] rfl rfl (lit_cellsV _ _ _) (by intro u hu; cases List.mem_singleton.1 hu; rfl) (by unfold maxLen; omega) (by omega) (by have := hB.out.size; simp; omega) ?_); go_loud (intro v1 wc hown1 hg1 _; have hbel := (hB.out.alloc hB.out.size (.cells #[.slice (some (ad.add lo)) n (cM - lo)] 22)).grown hg1 (by have := hB.out.size; simp; omega) (fun z hz => (hO.out.lt z hz).1); obtain ⟨a1, c1, hv1⟩ := own_sliceV hown1; subst hv1; have hdd := HDV.out; rw [HC.out] at hdd; rw [← hdd] at hown1; have HO1 := Lib.hid hown1; have HN1 := Lib.hid hbel; clear hown1 hg1 hbel hdd))
          go_roundw
          case rel => exact ⟨i + 1, a1, c1, by omega, by go_num, rfl, HO1, HN1⟩
          case measure => simp [intOf]; omega
    · obtain rfl : i = T := by omega
      rw [← HT.out.2] at hO
      have h1 := hO.out
      rw [List.take_of_length_le (by rw [HDL.out]; exact Nat.le_refl _)] at h1
      have hR := HR.out.keep (w' := ‹World›) (ok' := fun _ => True) hB.out.size (fun b hb _ => ⟨trivial, hB.out.block b hb⟩)
      obtain ⟨a9, c9, e9, hmat⟩ := Mat.own h1 hR
      cases e9
      have HMAT := Lib.hid hmat
      clear h1 hR hmat
      go_wp2
      go_ret
      exact ⟨_, _, by rw [HT.out.2]; rfl, HMAT.out, hB.out⟩
end Go.Proofs.YtappfdbmhgifcaaGreatDoor
/- slices.Backward over rows of rows: the contract of its iterator; contract of shamir's value. -/
namespace Go.Proofs.YtappfdbmhgifcaaGreatDoor
open Go.ChangeShapes Go.WideShapes Go.ChangeAt Go.RowKit Go.Shelf GF
set_option linter.unusedVariables false
set_option linter.unusedSimpArgs false
set_option maxRecDepth 100000
attribute [local go_sem] Oper.semAt_some

/-- What a round is handed: a place, and the row there. -/
def itvR {len : Nat} (A : Nat → Option Addr) (m c : Nat → Nat) (x : Fin len) : Array Value := #[.int .i64 ((x.1 : Nat) : Int), .slice (A x.1) (m x.1) (c x.1)]
def RdR (Bx len : Nat) (a : Option Addr) (cap : Nat) (A : Nat → Option Addr) (m c : Nat → Nat) (W : World) : Prop :=
  W.cell? ⟨Bx, 0, none⟩ = some (.slice a len cap) ∧ ∀ j, j < len → ∃ b off, a = some ⟨b, off, none⟩ ∧ W.cell? ⟨b, off + j, none⟩ = some (.slice (A j) (m j) (c j))
def BkR (len : Nat) (pre : List (Fin len)) : Prop := pre.length ≤ len ∧ ∀ k (h : k < pre.length), (pre[k]).1 = len - 1 - k
theorem BkR.nil (len : Nat) : BkR len [] := ⟨Nat.zero_le _, fun k h => by simp at h⟩
theorem BkR.snoc {len : Nat} {pre : List (Fin len)} (h : BkR len pre) (x : Fin len) (hl : pre.length < len) (hx : x.1 = len - 1 - pre.length) : BkR len (pre ++ [x]) := by
  refine ⟨by simp; omega, fun k hk => ?_⟩
  by_cases e : k < pre.length
  · rw [List.getElem_append_left e]; exact h.2 k e
  · have e2 : k = pre.length := by simp at hk; omega
    subst e2
    rw [List.getElem_append_right (Nat.le_refl _)]
    simp only [Nat.sub_self, List.getElem_cons_zero]
    exact hx
theorem RdR.put {Bx len cap : Nat} {a : Option Addr} {A : Nat → Option Addr} {m c : Nat → Nat} {W : World} {l : Nat} {o : Obj} (o' : Obj) (hl : W.heap[l]? = some o) (ho : o.isCells = false) (h : RdR Bx len a cap A m c W) : RdR Bx len a cap A m c (W.putObj l o') := by
  have key : ∀ {p : Addr} {v : Value}, W.cell? p = some v → (W.putObj l o').cell? p = some v := fun {p v} hc => cell_kept hc (grownBy_putObj' W l o') (fun r e => by cases e; exact ⟨_, hl, ho⟩)
  refine ⟨key h.1, fun j hj => ?_⟩
  obtain ⟨b, off, e, hc⟩ := h.2 j hj
  exact ⟨b, off, e, key hc⟩

set_option maxHeartbeats 2000000 in
theorem backR_in (F : Fence) (n : Nat) (hF : F.fn 102) (hro : F.round = none) (hn : 1 ≤ n) (l Bx len cap : Nat) (a : Option Addr) (A : Nat → Option Addr) (m c : Nat → Nat) (hlen : len ≤ 140737488355328) (J Jx : List (Fin len) → World → Prop)
    (hY : ∀ pre x W, J pre W → pre.length < len → YieldAt F (n - 1) Tryz.prog l (itvR A m c x) W fun e W' =>
      (e = .returned (.bool true) ∧ J (pre ++ [x]) W' ∧ (RdR Bx len a cap A m c W → RdR Bx len a cap A m c W')) ∨ (e = .returned (.bool false) ∧ Jx (pre ++ [x]) W'))
    (W : World) (hR0 : RdR Bx len a cap A m c W) (h0 : J [] W) :
    CallsIn F n Tryz.prog 102 #[.func (.yield l) #[] #[], .pointer (some ⟨Bx, 0, none⟩)] W fun e W' => (∃ v, e = .returned v) ∧
      ((∃ ys, (ys.length = len ∧ BkR len ys) ∧ J ys W') ∨ (∃ pre, BkR len pre ∧ Jx pre W')) := by
  refine callsIn_of_wp Tryz.func102 rfl hF ?_ hro
  simp only [Tryz.ntmps102, List.size_toArray, List.length_cons, List.length_nil, Nat.reduceAdd, Nat.reduceSub, Array.replicate_succ, Array.replicate_zero, List.push_toArray, List.append_toArray, List.nil_append, List.cons_append]
  have hb := hR0.1
  gi_wp2
  gi_loopw [3] (fun i wr => ∃ (r : Nat) (pre : List (Fin len)), pre.length + r = len ∧ BkR len pre ∧ ((r = 0 ∧ i = .int .i64 (-1)) ∨ ∃ j : Nat, r = j + 1 ∧ i = .int .i64 (j : Int)) ∧ J pre wr ∧ RdR Bx len a cap A m c wr)
    (fun i _ => (intOf i + 1).toNat)
  case atStart =>
    refine ⟨len, [], by simp, BkR.nil _, ?_, h0, hR0⟩
    rcases Nat.eq_zero_or_pos len with e | e
    · subst e; exact .inl ⟨rfl, by go_num⟩
    · obtain ⟨j, rfl⟩ : ∃ j, len = j + 1 := ⟨len - 1, by omega⟩
      exact .inr ⟨j, rfl, by go_num⟩
  case round =>
    obtain ⟨r, pre, hpl, hbk, hi, hJs, hRd⟩ := hrel
    rcases hi with ⟨rfl, rfl⟩ | ⟨j, rfl, rfl⟩
    · gi_wp2
      go_end0
      exact ⟨⟨_, rfl⟩, .inl ⟨pre, ⟨by omega, hbk⟩, hJs⟩⟩
    · obtain ⟨b, off, rfl, hc⟩ := hRd.2 j (by omega)
      have hbx := hRd.1
      obtain ⟨fn, tmps, assign, body, hy, hR⟩ := hY pre ⟨j, by omega⟩ wr hJs (by omega)
      dsimp only [itvR] at hy
      have q1 : (j : Int) < (len : Int) := by omega
      have q2 : (0 : Int) ≤ (j : Int) := by omega
      have hk := hbk.snoc ⟨j, by omega⟩ (by omega) (by show j = _; omega)
      gi_wp2
      refine hR.mono ?_
      rintro e W3 (⟨rfl, hJ3, hk3⟩ | ⟨rfl, hJx3⟩)
      · gi_wp2
        go_roundw
        case rel =>
          refine ⟨j, _, by simp; omega, hk, ?_, hJ3, hk3 hRd⟩
          rcases Nat.eq_zero_or_pos j with e | e
          · subst e; exact .inl ⟨rfl, by go_num⟩
          · obtain ⟨m, rfl⟩ : ∃ m, j = m + 1 := ⟨j - 1, by omega⟩
            exact .inr ⟨m, rfl, by go_num⟩
        case measure => simp [intOf]
      · gi_wp2
        refine bodyPost_ret (results_none rfl _ _ _) rfl ?_
        exact ⟨⟨_, rfl⟩, .inr ⟨_, hk, hJx3⟩⟩
set_option maxHeartbeats 1000000 in
theorem backR_any (a : Option Addr) (len cap : Nat) (w : World) :
    Calls Tryz.prog 80 #[.slice a len cap] w fun e w' => e = .returned (.func (.func 102) #[] #[.pointer (some ⟨w.heap.size, 0, none⟩)]) ∧ w' = w.alloc (.cells #[.slice a len cap] 28) := by
  go_enter Tryz.func80, Tryz.ntmps80
  go_wp2
  go_ret
  exact ⟨rfl, rfl⟩
theorem backR_stops (F : Fence) (n : Nat) (hF : F.fn 102) (hro : F.round = none) (hn : 1 ≤ n) (Bx len cap : Nat) (a : Option Addr) (A : Nat → Option Addr) (m c : Nat → Nat) (hlen : len ≤ 140737488355328) (w : World)
    (hBx : Bx < w.heap.size) (hR : RdR Bx len a cap A m c w) (hlow : 0 < len → ∀ b off, a = some ⟨b, off, none⟩ → b < w.heap.size) :
    SeqStopsK F n Tryz.prog 102 #[.pointer (some ⟨Bx, 0, none⟩)] (itvR (len := len) A m c) (fun W W' => RdR Bx len a cap A m c W → RdR Bx len a cap A m c W') (fun ys => ys.length = len ∧ BkR len ys) (BkR len) len w := fun l J Jx W hW _ _ hY h0 => by
  refine backR_in F n hF hro hn l Bx len cap a A m c hlen J Jx hY W ⟨(hW.cell (p := ⟨Bx, 0, none⟩) hBx).trans hR.1, fun j hj => ?_⟩ h0
  obtain ⟨b, off, e, hc⟩ := hR.2 j hj
  exact ⟨b, off, e, (hW.cell (p := ⟨b, off + j, none⟩) (hlow (by omega) b off e)).trans hc⟩

/-! ## value -/
/-- A row, and x times another. -/
def sumG (row : List GF) (x : GF) (o : List GF) : List GF := (List.range row.length).map fun i => co row i + x * co o i
theorem sumG_len (row : List GF) (x : GF) (o : List GF) : (sumG row x o).length = row.length := by simp [sumG]
theorem sumG_co {row : List GF} (x : GF) (o : List GF) {i : Nat} (h : i < row.length) : co (sumG row x o) i = co row i + x * co o i := by
  unfold sumG; unfold co; simp [List.getD_eq_getElem?_getD, h]
theorem sumL_G (row : List GF) (x : GF) (o : List GF) : sumL (iL row) (toI x) (iL o) = iL (sumG row x o) := by
  refine list_ext_getD (by rw [length_sumL, length_iL, length_iL, sumG_len]) fun i hi => ?_
  rw [length_sumL, length_iL] at hi
  rw [sumL_getD _ _ (by rw [length_iL]; exact hi), getD_iL, getD_iL, getD_iL, sumG_co x o hi, length_iL]
  by_cases h : i < o.length
  · rw [if_pos h]; rfl
  · rw [if_neg h, co_ge (l := o) (by omega), mul_zero, GF.add_zero]
/-- What the rounds have reckoned. -/
def hrR (R : List (List GF)) (x : GF) {len : Nat} (pre : List (Fin len)) : List GF := pre.foldl (fun o j => sumG (rw_ R j.1) x o) []
theorem hrR_snoc (R : List (List GF)) (x : GF) {len : Nat} (pre : List (Fin len)) (y : Fin len) : hrR R x (pre ++ [y]) = sumG (rw_ R y.1) x (hrR R x pre) := by simp [hrR]
def colR (R : List (List GF)) (T i : Nat) : List GF := (List.range T).map fun k => co (rw_ R k) i
theorem colR_len (R : List (List GF)) (T i : Nat) : (colR R T i).length = T := by simp [colR]
theorem colR_co (R : List (List GF)) {T i k : Nat} (h : k < T) : co (colR R T i) k = co (rw_ R k) i := by
  show List.getD _ _ _ = _
  unfold colR; simp [List.getD_eq_getElem?_getD, h]
theorem hrR_ev (R : List (List GF)) (x : GF) (T n : Nat) (hw : ∀ k, k < T → (rw_ R k).length = n) (ys : List (Fin T)) (h : BkR T ys) {i : Nat} (hi : i < n) : co (hrR R x ys) i = ev ((colR R T i).drop (T - ys.length)) x := by
  have key : ∀ k, k ≤ ys.length → co (hrR R x (ys.take k)) i = ev ((colR R T i).drop (T - k)) x := by
    intro k
    induction k with
    | zero =>
      intro _
      rw [List.take_zero, Nat.sub_zero]
      have e : (colR R T i).drop T = [] := List.drop_eq_nil_of_le (by rw [colR_len]; exact Nat.le_refl _)
      rw [e]; rfl
    | succ k ih =>
      intro hk
      have h1 := h.1
      have h2 := h.2 k (by omega)
      rw [List.take_succ_eq_append_getElem (by omega), hrR_snoc, sumG_co x _ (by rw [hw _ (ys[k]).2]; exact hi), ih (by omega), h2, ev_drop (colR R T i) (T - (k + 1)), colR_co R (by omega)]
      rw [show T - 1 - k = T - (k + 1) by omega, show T - (k + 1) + 1 = T - k by omega]
  have := key ys.length (Nat.le_refl _)
  rwa [List.take_length] at this
theorem hrR_len (R : List (List GF)) (x : GF) (T n : Nat) (hw : ∀ k, k < T → (rw_ R k).length = n) (ys : List (Fin T)) (h : 0 < ys.length) : (hrR R x ys).length = n := by
  obtain ⟨pre, y, rfl⟩ : ∃ pre y, ys = pre ++ [y] := ⟨ys.dropLast, ys.getLast (List.ne_nil_of_length_pos h), (List.dropLast_concat_getLast (List.ne_nil_of_length_pos h)).symm⟩
  rw [hrR_snoc, sumG_len, hw _ y.2]
def valR (R : List (List GF)) (T n : Nat) (x : GF) : List GF := (List.range n).map fun i => ev (colR R T i) x
theorem valR_dR {t n : Nat} {S M : List GF} (x : GF) (h0 : 1 ≤ t) : valR (dR t n S M) t n x = shR t n S M x := by
  unfold valR shR
  refine List.map_congr_left fun i hi => ev_congr (fun k => ?_) x
  have hi := List.mem_range.1 hi
  by_cases hk : k < t
  · rw [colR_co _ hk, dR_co hi hk]
  · rw [co_ge (by rw [colR_len]; omega), dl_ge n S M i h0 (by omega)]
theorem hrR_all {R : List (List GF)} {x : GF} {T n : Nat} (hw : ∀ k, k < T → (rw_ R k).length = n) {ys : List (Fin T)} (hy : ys.length = T) (h : BkR T ys) (hT : 0 < T) : hrR R x ys = valR R T n x := by
  have hl := hrR_len R x T n hw ys (by omega)
  refine ext_co (by rw [hl]; simp [valR]) fun i hi => ?_
  rw [hl] at hi
  rw [hrR_ev R x T n hw ys h hi, hy, Nat.sub_self, List.drop_zero]
  unfold valR; unfold co; simp [List.getD_eq_getElem?_getD, hi]
end Go.Proofs.YtappfdbmhgifcaaGreatDoor
/- Shamir's At, Join: the contracts proved. -/
namespace Go.Proofs.YtappfdbmhgifcaaGreatDoor
open Go.ChangeShapes Go.WideShapes Go.ChangeAt Go.RowKit Go.Shelf GF
set_option linter.unusedVariables false
set_option linter.unusedSimpArgs false
set_option maxRecDepth 100000

theorem even_any (a : Option Addr) (N c : Nat) (M : List (List GF)) (j : Nat) (r : Bool) (w : World) (hx : Mat w a N c M) (hw : ∀ k, k < N → (rw_ M k).length ≤ 1000) (hj : j ≤ N) (hn : ∀ k, k < j → (rw_ M k).length = (rw_ M 0).length) (hz : j < N → (rw_ M j).length ≠ (rw_ M 0).length) (hr : (j < N → r = false) ∧ (j = N → r = true)) :
    Calls Tryz.prog 173 #[.slice a N c] w fun e w' => e = .returned (.bool r) ∧ w = w' := by
  have HX := Lib.hid hx
  have HN := Lib.hid hn
  have HZ := Lib.hid hz
  have HR := Lib.hid hr
  have HW := Lib.hid hw
  have hcap := hx.bd
  clear hx hn hz hr hw
  go_enter Tryz.func173, Tryz.ntmps173
  go_wp2
  go_loopw [7] (fun i wr => ∃ k : Nat, k ≤ j ∧ i = .int .i64 (k : Nat) ∧ wr = w)
    (fun i _ => N - (intOf i).toNat)
  case atStart => exact ⟨0, Nat.zero_le _, rfl, rfl⟩
  case round =>
    obtain ⟨k, hk, rfl, rfl⟩ := hrel
    rename World => w1
    by_cases hlt : k < N
    · obtain ⟨bx, ox, a1, c1, rfl, hbx, hc1, hp1⟩ := HX.out.row hlt
      obtain ⟨b2, o2, a2, c2, e2, hb2, hc2, hp2⟩ := HX.out.row (i := 0) (by omega)
      cases e2
      rw [Nat.add_zero] at hc2
      have hl1 := HW.out k hlt
      have hl2 := HW.out 0 (by omega)
      have hbd1 := hp1.bd
      have hbd2 := hp2.bd
      have HE := Lib.hid (show k < j → (rw_ M k).length = (rw_ M 0).length from HN.out k)
      have HE2 := Lib.hid (show k = j → (rw_ M k).length ≠ (rw_ M 0).length from fun e => by rw [e]; exact HZ.out (by omega))
      obtain ⟨l1, hv1⟩ : ∃ l, l = (rw_ M k).length := ⟨_, rfl⟩
      obtain ⟨l2, hv2⟩ : ∃ l, l = (rw_ M 0).length := ⟨_, rfl⟩
      rw [← hv1] at hc1 hl1 hbd1 HE HE2
      rw [← hv2] at hc2 hl2 hbd2 HE HE2
      have q2 : (k : Int) < (N : Int) := by omega
      have q3 : (0 : Int) ≤ (k : Int) := by omega
      have q0 : (0 : Int) < (N : Int) := by omega
      clear hp1 hp2 hv1 hv2
      by_cases e : k = j
      · have q4 : ((l1 : Int) != (l2 : Int)) = true := by rw [bne_iff_ne]; have := HE2.out e; omega
        have Q4 := Lib.hid (show r = false from HR.out.1 (by omega))
        clear e
        go_wp2
        go_ret
        exact ⟨by rw [Q4.out]; rfl, rfl⟩
      · have q4 : ((l1 : Int) != (l2 : Int)) = false := by have := HE.out (by omega); subst this; simp
        have hk1 : k + 1 ≤ j := by omega
        clear e
        go_wp2
        go_roundw
        case rel => exact ⟨k + 1, by omega, by go_num, by trivial⟩
        case measure => simp [intOf]; omega
    · have Q4 := Lib.hid (show r = true from HR.out.2 (by omega))
      obtain rfl : N = k := by omega
      go_wp2
      go_ret
      exact ⟨by rw [Q4.out]; rfl, rfl⟩
theorem even_yes (a : Option Addr) (N c : Nat) (M : List (List GF)) (w : World) (hx : Mat w a N c M) (hw : ∀ k, k < N → (rw_ M k).length ≤ 1000) (h : ∀ k, k < N → (rw_ M k).length = (rw_ M 0).length) :
    Calls Tryz.prog 173 #[.slice a N c] w fun e w' => e = .returned (.bool true) ∧ w = w' :=
  even_any a N c M N true w hx hw (Nat.le_refl _) h (fun h => absurd h (by omega)) ⟨fun h => absurd h (by omega), fun _ => rfl⟩
/-- What the first k shares tell. -/
def atQ (X : List GF) (R : Nat → List GF) (x : GF) (n k : Nat) : List GF := (List.range n).map fun i => sm k fun q => wt X q x * co (R q) i
theorem atQ_len (X : List GF) (R : Nat → List GF) (x : GF) (n k : Nat) : (atQ X R x n k).length = n := by simp [atQ]
theorem atQ_co {X : List GF} {R : Nat → List GF} {x : GF} {n k i : Nat} (h : i < n) : co (atQ X R x n k) i = sm k fun q => wt X q x * co (R q) i := by
  unfold atQ; unfold co; simp [List.getD_eq_getElem?_getD, h]
theorem atQ_next (X : List GF) (R : Nat → List GF) (x : GF) (n k : Nat) : sumG (atQ X R x n k) (wt X k x) (R k) = atQ X R x n (k + 1) := by
  refine ext_co (by rw [sumG_len, atQ_len, atQ_len]) fun i hi => ?_
  rw [sumG_len, atQ_len] at hi
  rw [sumG_co _ _ (by rw [atQ_len]; exact hi), atQ_co hi, atQ_co hi]
  rfl
theorem atQ_zero (X : List GF) (R : Nat → List GF) (x : GF) (n : Nat) : iL (atQ X R x n 0) = List.replicate n 0 := by
  refine list_ext_getD (by rw [length_iL, atQ_len]; simp) fun i hi => ?_
  rw [length_iL, atQ_len] at hi
  rw [getD_iL, atQ_co hi]
  simp [List.getD_eq_getElem?_getD, hi]
  rfl
theorem atQ_all (X : List GF) (R : Nat → List GF) (x : GF) (n : Nat) : atQ X R x n X.length = atR X R x n := rfl
set_option maxHeartbeats 2000000 in
theorem atO (b L n : Nat) (aX : Option Addr) (cX : Nat) (X : List GF) (aR : Option Addr) (cR : Nat) (Rm : List (List GF)) (x : GF) (w : World) (hf : Fld w b) (hX : Pa w aX L cX X) (hR : Mat w aR L cR Rm) (hA : Apart X) (hL1 : 1 ≤ L) (hL : L ≤ 255) (hw : ∀ k, k < L → (rw_ Rm k).length = n) (hn : n ≤ 1000) :
    Calls Tryz.prog 155 #[.pointer (some ⟨b, 0, none⟩), .slice aX L cX, .slice aR L cR, .int .u8 (toI x)] w fun e w' =>
      ∃ g, e = .returned (.tuple #[.slice (some ⟨g, 0, none⟩) n n, .int .i64 0]) ∧ w'.ownsRow w.heap.size 5 1 (.slice (some ⟨g, 0, none⟩) n n) n ((iL (atR X (rw_ Rm) x n)).map (Value.int .u8)) ∧ Below w.heap.size w w' := by
  have HWT := Lib.hid (weights_any b aX L cX X x w hf hX (plErr_zero.2 ⟨by rw [hX.len]; omega, by rw [hX.len]; omega, hA⟩))
  have HE := Lib.hid (even_yes aR L cR Rm w hR (fun k hk => by rw [hw k hk]; exact hn) (fun k hk => by rw [hw k hk, hw 0 (by omega)]))
  have HF := Lib.hid hf
  have HR := Lib.hid hR
  have HW := Lib.hid hw
  have HN := Lib.hid (And.intro hn hL1)
  have HXL := Lib.hid hX.len
  have hb1 := hX.bd
  have hb2 := hR.bd
  have q : ((L : Int) != (L : Int)) = false := by simp
  have q0 : (0 : Int) < (L : Int) := by omega
  have hmk := run_make_row' (P := Tryz.prog) 22 5 (.int .u8 0) 1 Tryz.underlying22 info5 rfl .i64 .i64 n (by omega) (by omega)
  clear hf hX hR hA hL1 hw hn
  go_enter Tryz.func155, Tryz.ntmps155
  go_wp2_with (first
    | (go_at_call 173; refine HE.out.mono ?_; rintro e w' ⟨rfl, rfl⟩)
    | (go_at_call 94; refine HWT.out.mono ?_; rintro e w2 ⟨gW, rfl, hoW, hb⟩; have HOW := Lib.hid hoW; have HB := Lib.hid hb; obtain ⟨bx, ox, a1, c1, rfl, hbx, hc1, hp1⟩ := (HR.out.on hb).row (i := 0) (by have := HN.out.2; omega); rw [HW.out 0 (by have := HN.out.2; omega), Nat.add_zero] at hc1; have hbd1 := hp1.bd; rw [HW.out 0 (by have := HN.out.2; omega)] at hbd1; clear hoW hb hp1))
  have hO0 : Hid ((w2.alloc (.cells (madeCells #[.int .u8 0] n) 5)).ownsRow w.heap.size 5 1 (.slice (some ⟨w2.heap.size, 0, none⟩) n n) n ((iL (atQ X (rw_ Rm) x n 0)).map (Value.int .u8))) := by
    rw [atQ_zero]
    exact Lib.hid (own_base (own_made (w := w2) (e := 5) (n := n) (by unfold maxLen; have := HN.out; omega)) HB.out.size)
  have hB0 : Hid (Below w.heap.size w (w2.alloc (.cells (madeCells #[.int .u8 0] n) 5))) := Lib.hid (HB.out.alloc HB.out.size _)
  have hB1 : Hid (Below w2.heap.size w2 (w2.alloc (.cells (madeCells #[.int .u8 0] n) 5))) := Lib.hid ((Below.refl _ _).alloc (Nat.le_refl _) _)
  clear hc1 hbx hbd1
  go_loopw [44, 12] (fun j o wr => ∃ (k g : Nat), k ≤ L ∧ j = .int .i64 (k : Nat) ∧ o = .slice (some ⟨g, 0, none⟩) n n ∧ Hid (wr.ownsRow w.heap.size 5 1 (.slice (some ⟨g, 0, none⟩) n n) n ((iL (atQ X (rw_ Rm) x n k)).map (Value.int .u8))) ∧ Hid (Below w.heap.size w wr) ∧ Hid (Below w2.heap.size w2 wr))
    (fun j _ _ => L - (intOf j).toNat)
  case atStart => exact ⟨0, _, Nat.zero_le _, rfl, rfl, hO0, hB0, hB1⟩
  case round =>
    obtain ⟨k, g, hk, rfl, rfl, hO, hBw, hB2⟩ := hrel
    rename World => w3
    by_cases hlt : k < L
    · obtain ⟨b9, o9, a1, c1, hbe, hb9, hc1, hp1⟩ := (HR.out.on hBw.out).row hlt
      cases hbe
      have hlk := HW.out k hlt
      rw [hlk] at hc1 hp1
      obtain ⟨b8, o8, e8, hb8, hcw⟩ := (Pa.on (Pa.own2 HOW.out) hB2.out).at_ (k := k) hlt
      cases e8
      rw [Nat.zero_add, co_wts x (by rw [HXL.out]; exact hlt)] at hcw
      have HSU := Lib.hid (fsum_any b (toI (wt X k x)) _ _ _ (iL (atQ X (rw_ Rm) x n k)) _ _ _ (iL (rw_ Rm k)) w3 (HF.out.below hBw.out) (toI_bd _) (Pa.own2 hO.out).1 hp1.1 (by have := HN.out; omega))
      rw [sumL_G, atQ_next] at HSU
      have q2 : (k : Int) < (L : Int) := by omega
      have q3 : (0 : Int) ≤ (k : Int) := by omega
      clear hp1 hlk
      go_wp2_with (go_at_call 81; go_loud (refine HSU.out.mono ?_; rintro e w4 ⟨g4, rfl, ho4, hb4⟩; have HO4 := Lib.hid (own_base ho4 hBw.out.size); have HBW4 := Lib.hid (bt hBw.out hb4); have HB24 := Lib.hid (bt hB2.out hb4); clear ho4 hb4))
      go_roundw
      case rel => exact ⟨k + 1, g4, by omega, by go_num, rfl, HO4, HBW4, HB24⟩
      case measure => simp [intOf]; omega
    · obtain rfl : L = k := by omega
      have ho := hO.out
      rw [← HXL.out, atQ_all] at ho
      have HPA := Lib.hid ho
      clear ho
      go_wp2
      go_ret2
      exact ⟨_, rfl, HPA.out, hBw.out⟩
end Go.Proofs.YtappfdbmhgifcaaGreatDoor
/- Plain: pieces of parts, byte by byte the values of the polynomial through them; what pieces tell; how far apart unlike parts are. No program is named here. -/
namespace Go.Proofs.YtappfdbmhgifcaaGreatDoor
open GF
set_option linter.unusedVariables false

/-- The places 1 to n. -/
def pl (x : Nat) : GF := toG (x : Int)
def plc (n : Nat) : List GF := (List.range n).map fun i => pl (i + 1)
theorem pl_I {x : Nat} (h : x < 256) : toI (pl x) = (x : Int) := toI_toG (by omega)
theorem pl_inj {x y : Nat} (hx : x < 256) (hy : y < 256) (h : pl x = pl y) : x = y := by
  have := congrArg toI h
  rw [pl_I hx, pl_I hy] at this
  omega
theorem plc_len (n : Nat) : (plc n).length = n := by simp [plc]
theorem plc_co {n i : Nat} (h : i < n) : co (plc n) i = pl (i + 1) := by
  show List.getD _ _ _ = _
  unfold plc; simp [List.getD_eq_getElem?_getD, h]
theorem plc_apart {n : Nat} (hn : n ≤ 255) : Apart (plc n) := fun i j hi hj e => by
  rw [plc_len] at hi
  rw [plc_co hi, plc_co (by omega)] at e
  have := pl_inj (by omega) (by omega) e
  omega
/-- The piece at x. -/
def pcR (P : List (List GF)) (n : Nat) (x : GF) : List GF := atR (plc P.length) (rw_ P) x n
theorem pcR_len (P : List (List GF)) (n : Nat) (x : GF) : (pcR P n x).length = n := atR_len _ _ _ _
/-- All pieces. -/
def encM (P : List (List GF)) (n N : Nat) : List (List GF) := (List.range N).map fun i => pcR P n (pl (i + 1))
/-- The numbers at a byte, and their polynomial. -/
def cl (P : List (List GF)) (i : Nat) : List GF := (List.range P.length).map fun k => co (rw_ P k) i
theorem cl_co {P : List (List GF)} {i k : Nat} (h : k < P.length) : co (cl P i) k = co (rw_ P k) i := by
  show List.getD _ _ _ = _
  unfold cl; simp [List.getD_eq_getElem?_getD, h]
def pp (P : List (List GF)) (i : Nat) : List GF := lag (plc P.length) (cl P i)
theorem pp_ge (P : List (List GF)) (i : Nat) {k : Nat} (h : P.length ≤ k) : co (pp P i) k = 0 := co_lag _ _ (by rw [plc_len]; exact h)
theorem pcR_co {P : List (List GF)} {n i : Nat} (x : GF) (h : i < n) : co (pcR P n x) i = ev (pp P i) x := by
  unfold pcR pp
  rw [atR_co h, ev_lag]
  refine sm_congr fun k hk => ?_
  rw [plc_len] at hk
  rw [cl_co hk, mul_comm]
theorem pp_at {P : List (List GF)} (hP : P.length ≤ 255) (i : Nat) {j : Nat} (hj : j < P.length) : ev (pp P i) (pl (j + 1)) = co (rw_ P j) i := by
  unfold pp
  rw [← plc_co hj, ev_lag_at (plc_apart hP) (by rw [plc_len]; exact hj), cl_co hj]
/-- The first pieces are the parts. -/
theorem pcR_part {P : List (List GF)} {n : Nat} (hP : P.length ≤ 255) {j : Nat} (hj : j < P.length) (hn : (rw_ P j).length = n) : pcR P n (pl (j + 1)) = rw_ P j := by
  refine ext_co (by rw [pcR_len, hn]) fun i hi => ?_
  rw [pcR_len] at hi
  rw [pcR_co _ hi, pp_at hP i hj]
end Go.Proofs.YtappfdbmhgifcaaGreatDoor
/- What package code's functions answer: the contracts, as statements (each is to be proved of the program). -/
namespace Go.Proofs.YtappfdbmhgifcaaGreatDoor
open Go.ChangeShapes Go.WideShapes Go.ChangeAt Go.RowKit Go.Shelf GF
set_option linter.unusedVariables false

/-- The parts that bytes are cut into, and how long they are. -/
def ceil (L t : Nat) : Nat := (L + t - 1) / t
def cutM (B : List GF) (t n : Nat) : List (List GF) := (List.range t).map fun i => (List.range n).map fun k => co B (i * n + k)
def CutC : Prop := ∀ (L t : Nat) (aB : Option Addr) (cB : Nat) (B : List GF) (w : World),
  Pa w aB L cB B → 1 ≤ t → t ≤ 255 → L ≤ 1000 →
  Calls Tryz.prog 54 #[.slice aB L cB, .int .i64 (t : Nat)] w fun e w' =>
    ∃ a' c', e = .returned (.tuple #[.slice a' t c', .int .i64 0]) ∧ MatB w' w.heap.size a' t c' (cutM B t (ceil L t)) ∧ Below w.heap.size w w'
def PartC : Prop := ∀ (L t : Nat) (w : World), 1 ≤ t → t ≤ 255 → L ≤ 1000 →
  Calls Tryz.prog 35 #[.int .i64 (L : Nat), .int .i64 (t : Nat)] w fun e w' => e = .returned (.int .i64 (ceil L t : Nat)) ∧ ∃ q, w' = w.drewN q
/-- All rows, one behind the other. -/
def flat (M : List (List GF)) : List GF := M.flatten
def GlueC : Prop := ∀ (t s : Nat) (aR : Option Addr) (cR : Nat) (R : List (List GF)) (w : World),
  Mat w aR t cR R → s ≤ (flat R).length → t ≤ 255 → (∀ k, k < t → (rw_ R k).length ≤ 1000) →
  Calls Tryz.prog 74 #[.slice aR t cR, .int .i64 (s : Nat)] w fun e w' =>
    ∃ a' c', e = .returned (.tuple #[.slice a' s c', .int .i64 0]) ∧ Pa w' a' s c' ((flat R).take s) ∧ Below w.heap.size w w'
end Go.Proofs.YtappfdbmhgifcaaGreatDoor
/- Layer 9's laws' lives, under Encode's contract. -/
namespace Go.Proofs.YtappfdbmhgifcaaGreatDoor
open Go.ChangeShapes Go.WideShapes Go.ChangeAt Go.RowKit Go.Shelf GF
set_option linter.unusedVariables false
set_option linter.unusedSimpArgs false
set_option maxRecDepth 100000

def e1 : GF := toG 1
def e2 : GF := toG 2
end Go.Proofs.YtappfdbmhgifcaaGreatDoor
