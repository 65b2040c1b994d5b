/- Texts of mine, one behind the other: Va Vb Vd Ve Vh. -/
import Derived.Test.YtfmjfdbbjggcpaaQ3
import Derived.Test.YtfmjfdbbjggcpaaQ1
import Derived.StillTailTactics
import Derived.Deep.RegionWith
import Derived.Deep.OwnRows
/- Contracts of shamir's possible, maskSize, MaskSize; of slices.Contains for 0; of checked. -/
namespace Go.Proofs.Ytfmjfdbbjggcpaa
open Go.ChangeShapes Go.WideShapes Go.ChangeAt Go.RowKit Go.Shelf GF
set_option linter.unusedVariables false
set_option linter.unusedSimpArgs false
set_option maxRecDepth 100000

theorem quo_big {T n : Nat} (h0 : 1 ≤ T) (h1 : T ≤ 254) (hn : n ≤ 1000) : ∃ Q : Int, Int.tdiv 9223372036854775807 (T : Int) = Q ∧ ¬ Q < (n : Int) ∧ 0 ≤ Q ∧ Q ≤ 9223372036854775807 := by
  refine ⟨_, rfl, ?_⟩
  rw [Int.tdiv_eq_ediv_of_nonneg (by omega)]
  have h : (9223372036854775807 : Int) / 254 ≤ 9223372036854775807 / (T : Int) := by
    rw [Int.le_ediv_iff_mul_le (by omega)]
    have e : (9223372036854775807 : Int) / 254 = 36312488334073920 := by decide
    rw [e]; omega
  have h3 : (9223372036854775807 : Int) / (T : Int) ≤ 9223372036854775807 := Int.ediv_le_self _ (by omega)
  have e : (9223372036854775807 : Int) / 254 = 36312488334073920 := by decide
  omega
theorem first0 (X : List GF) (L : Nat) : ∃ j, j ≤ L ∧ (∀ k, k < j → co X k ≠ 0) ∧ (j < L → co X j = 0) := by
  induction L with
  | zero => exact ⟨0, Nat.le_refl _, fun k hk => absurd hk (by omega), fun h => absurd h (by omega)⟩
  | succ L ih =>
    obtain ⟨j, h1, h2, h3⟩ := ih
    by_cases h : j < L
    · exact ⟨j, by omega, h2, fun _ => h3 h⟩
    · obtain rfl : j = L := by omega
      by_cases h0 : co X j = 0
      · exact ⟨j, by omega, h2, fun _ => h0⟩
      · exact ⟨j + 1, Nat.le_refl _, fun k hk => by
          rcases Nat.lt_succ_iff_lt_or_eq.1 hk with h4 | h4
          · exact h2 k h4
          · rw [h4]; exact h0, fun h => absurd h (by omega)⟩
end Go.Proofs.Ytfmjfdbbjggcpaa
/- Contracts of copied, Sum; a row and x times another, as numbers of the field. -/
namespace Go.Proofs.Ytfmjfdbbjggcpaa
open Go.ChangeShapes Go.WideShapes Go.ChangeAt Go.RowKit
set_option linter.unusedVariables false
set_option maxRecDepth 100000

theorem fcopied_any (a : Option Addr) (L cap : Nat) (l : List Int) (w : World) (hx : Arg8 w a L cap l) (hL : L ≤ 140737488355328) :
    Calls Try.prog 63 #[.slice a L cap] w fun e w' => ∃ g, e = .returned (.slice (some ⟨g, 0, none⟩) L L) ∧
      w'.ownsRow w.heap.size 5 1 (.slice (some ⟨g, 0, none⟩) L L) L (l.map (Value.int .u8)) ∧ Below w.heap.size w w' := by
  obtain ⟨hl, hb8, hb, hc1, hc2⟩ := hx
  have hmk := run_make_row' (P := Try.prog) 22 5 (.int .u8 0) 1 Try.underlying22 info5 rfl .i64 .i64 L (by omega) (by omega)
  have k1 : (w.alloc (.cells (madeCells #[.int .u8 0] L) 5)).heap[w.heap.size]? = some (.cells (madeCells #[.int .u8 0] L).toList.toArray 5 (0, 0)) := by rw [Array.toArray_toList]; exact heap_alloc_new w _
  have k2 : (l.map (Value.int .u8)).length = Nat.min L L := by simp [hl]
  have k3 : 0 < (l.map (Value.int .u8)).length → ∃ ad, a = some ad ∧ ∀ j v, (l.map (Value.int .u8))[j]? = some v → (w.alloc (.cells (madeCells #[.int .u8 0] L) 5)).cell? (ad.add j) = some v :=
    fun h0 => (hb.below ((Below.refl _ _).alloc (Nat.le_refl _) _)).cells h0
  have k4 : 0 + (l.map (Value.int .u8)).length ≤ (madeCells #[.int .u8 0] L).toList.length := by simp [hl, size_madeCells]
  have k5 : Below w.heap.size w (w.alloc (.cells (madeCells #[.int .u8 0] L) 5)) := (Below.refl _ _).alloc (Nat.le_refl _) _
  have K1 := Lib.hid k1; have K2 := Lib.hid k2; have K3 := Lib.hid k3; have HL := Lib.hid hl
  clear k1 k2 k3 hl
  go_enter Try.func63, Try.ntmps63
  go_wp2_with ((with_reducible show wpList _ _ _ (⟨some 9, _, _, _, _, _⟩ :: _) _ _); refine wpList_copy_splice (o := ⟨some 9, _, _, _, _, _⟩) rfl (.tmp 7) (.tmp 8) 22 22 rfl 5 Try.underlying22 size_u8 (some ⟨w.heap.size, 0, none⟩) a L L L cap rfl rfl w.heap.size 0 (madeCells #[.int .u8 0] L).toList 5 K1.out (l.map (Value.int .u8)) K2.out (fun h0 => ⟨rfl, K3.out h0⟩) k4 (ints_oneCell _ _) w.heap.size w k5 (Nat.le_refl _) ?_; intro w1 hg1 hb1)
  go_ret
  refine ⟨w.heap.size, rfl, ⟨by simp [HL.out], .inr ⟨w.heap.size, L, _, rfl, Nat.le_refl _, hg1.out, Nat.le_refl _, by unfold maxLen; omega, ?_, ?_⟩⟩, hb1⟩
  · simp [splice_all, HL.out, size_madeCells]
  · simp [splice_all, HL.out]

/-- Each byte, and c times the other row's at its place added. -/
def sumL (l : List Int) (c : Int) (m : List Int) : List Int := (List.range l.length).map fun i => if i < m.length then xoI (l.getD i 0) (gmI c (m.getD i 0)) else l.getD i 0
theorem length_sumL (l : List Int) (c : Int) (m : List Int) : (sumL l c m).length = l.length := by simp [sumL]
theorem sumL_getD {l : List Int} (c : Int) (m : List Int) {i : Nat} (h : i < l.length) : (sumL l c m).getD i 0 = if i < m.length then xoI (l.getD i 0) (gmI c (m.getD i 0)) else l.getD i 0 := by
  simp only [sumL, List.getD_eq_getElem?_getD, List.getElem?_map, List.getElem?_range h, Option.map_some, Option.getD_some]
theorem allB_sumL {l : List Int} (c : Int) (m : List Int) (hl : AllB l) : AllB (sumL l c m) := by
  intro x hx
  obtain ⟨i, _, rfl⟩ := List.mem_map.1 hx
  split
  · exact xoI_bd (allB_getD hl i) (gmI_bd _ _)
  · exact allB_getD hl i

set_option maxHeartbeats 1000000 in
theorem fsum_any (b : Nat) (c : Int) (a1 : Option Addr) (L1 cap1 : Nat) (l : List Int) (a2 : Option Addr) (L2 cap2 : Nat) (m : List Int) (w : World) (hf : Fld w b) (hc : 0 ≤ c ∧ c < 256) (hx : Arg8 w a1 L1 cap1 l) (hy : Arg8 w a2 L2 cap2 m) (hL : L1 ≤ 140737488355328) :
    Calls Try.prog 53 #[.pointer (some ⟨b, 0, none⟩), .slice a1 L1 cap1, .int .u8 c, .slice a2 L2 cap2] w fun e w' => ∃ g, e = .returned (.slice (some ⟨g, 0, none⟩) L1 L1) ∧
      w'.ownsRow w.heap.size 5 1 (.slice (some ⟨g, 0, none⟩) L1 L1) L1 ((sumL l c m).map (Value.int .u8)) ∧ Below w.heap.size w w' := by
  have HF := Lib.hid hf
  have HX := Lib.hid hx
  have HY := Lib.hid hy
  have HL := Lib.hid hx.1
  have HL2 := Lib.hid hy.1
  have hcap := hx.2.2.2
  have hcap2 := hy.2.2.2
  clear hf hx hy
  go_enter Try.func53, Try.ntmps53
  go_wp2_with (go_at_call 63; refine (fcopied_any _ _ _ l _ HX.out hL).mono ?_; rintro e w1 ⟨g, rfl, hown, hbel⟩)
  case inl =>
    have hM1 : L2 ≤ L1 := by omega
    have hM2 : L2 ≤ L2 := by omega
    have hM3 : ∀ i, L2 ≤ i → i < L1 → ¬ i < L2 := fun i h1 h2 => by omega
    have HM3 := Lib.hid hM3
    clear hM3
    have hg0 : w.heap.size ≤ g := (hown.lt g rfl).1
    go_loopw [20] (fun i wr => ∃ (k : Nat) (cur : List Int), k ≤ L2 ∧ i = .int .i64 (k : Nat) ∧ wr.ownsRow w.heap.size 5 1 (.slice (some ⟨g, 0, none⟩) L1 L1) L1 (cur.map (Value.int .u8)) ∧ Hid (Mix (sumL l c m) l cur k) ∧ Below w.heap.size w wr)
      (fun i _ => L2 - (intOf i).toNat)
    case atStart => exact ⟨0, l, Nat.zero_le _, rfl, hown, Lib.hid (Mix.zero _ _), hbel⟩
    case round =>
      obtain ⟨k, cur, hk, rfl, hown, hM, hbel⟩ := hrel
      by_cases hlt : k < L2
      · obtain ⟨bb, ob, rfl, hbb, hcb⟩ := (HY.out.2.2.1.below hbel).at_ (k := k) (by rw [HL2.out]; omega)
        have hcl : cur.length = L1 := by rw [hM.out.1, HL.out]
        have hcg := own_cells hown k (by omega)
        rw [Nat.zero_add] at hcg
        have hfz := hown.frozenAt k
        have hfw := HF.out.below hbel
        have hst := Lib.hid ((hown.stored k (.int .u8 ((sumL l c m).getD k 0))).1)
        have hb2 := Lib.hid (hbel.setCell (p := ⟨g, k, none⟩) hg0 (.int .u8 ((sumL l c m).getD k 0)))
        have hN := Lib.hid (hM.out.next (by rw [HL.out]; omega))
        have hcur := hM.out.2 k (by rw [HL.out]; omega)
        rw [if_neg (by omega)] at hcur
        have wX := allB_getD HX.out.2.1 k
        have wY := allB_getD HY.out.2.1 k
        have hsc := sumL_getD c m (l := l) (i := k) (by rw [HL.out]; omega)
        rw [if_pos (by rw [HL2.out]; omega)] at hsc
        rw [hcur] at hcg
        rw [hsc] at hst hb2
        have HS := Lib.hid hsc
        obtain ⟨X, hX⟩ : ∃ X, X = l.getD k 0 := ⟨_, rfl⟩
        obtain ⟨Y, hY⟩ : ∃ Y, Y = m.getD k 0 := ⟨_, rfl⟩
        rw [← hX] at hcg wX hst hb2
        rw [← hY] at hcb wY hst hb2
        have HXX := Lib.hid hX
        have HYY := Lib.hid hY
        have wG := gmI_bd c Y
        clear hX hY hcl hcur hsc hown hbel
        have q1 : (k : Int) < (L1 : Int) := by omega
        have q2 : (k : Int) < (L2 : Int) := by omega
        have q3 : (0 : Int) ≤ (k : Int) := by omega
        have hfd : Fld wr.drew b := hfw
        go_wp2_with fail
        go_region_with (first
          | (go_at_call 32; refine (mul_I _ _ _ _ hfd hc wY).mono ?_; rintro e w' ⟨rfl, rfl⟩)
          | (go_at_call 31; refine (add_I _ _ wX wG _).mono ?_; rintro e w' ⟨rfl, rfl⟩))
        all_goals
          go_wp2
          go_roundw
          case rel => exact ⟨k + 1, cur.set k ((sumL l c m).getD k 0), by omega, by go_num, by rw [← map_set_u8, HS.out, ← HXX.out, ← HYY.out]; exact hst.out, hN, hb2.out.drew⟩
          case measure => simp [intOf]; omega
      · obtain rfl : k = L2 := by omega
        have he := hM.out.all (by rw [length_sumL]) (fun i h1 h2 => by rw [sumL_getD c m h2, if_neg (by rw [HL2.out]; exact HM3.out i h1 (by rw [← HL.out]; exact h2))])
        have HO := Lib.hid hown
        have HB := Lib.hid hbel
        have HE := Lib.hid he
        clear hown hbel he
        go_wp2
        go_ret
        exact ⟨g, rfl, by rw [← HE.out]; exact HO.out, HB.out⟩
  case inr =>
    have hM1 : L1 ≤ L1 := by omega
    have hM2 : L1 ≤ L2 := by omega
    have hM3 : ∀ i, L1 ≤ i → i < L1 → ¬ i < L2 := fun i h1 h2 => by omega
    have HM3 := Lib.hid hM3
    clear hM3
    have hg0 : w.heap.size ≤ g := (hown.lt g rfl).1
    go_loopw [20] (fun i wr => ∃ (k : Nat) (cur : List Int), k ≤ L1 ∧ i = .int .i64 (k : Nat) ∧ wr.ownsRow w.heap.size 5 1 (.slice (some ⟨g, 0, none⟩) L1 L1) L1 (cur.map (Value.int .u8)) ∧ Hid (Mix (sumL l c m) l cur k) ∧ Below w.heap.size w wr)
      (fun i _ => L1 - (intOf i).toNat)
    case atStart => exact ⟨0, l, Nat.zero_le _, rfl, hown, Lib.hid (Mix.zero _ _), hbel⟩
    case round =>
      obtain ⟨k, cur, hk, rfl, hown, hM, hbel⟩ := hrel
      by_cases hlt : k < L1
      · obtain ⟨bb, ob, rfl, hbb, hcb⟩ := (HY.out.2.2.1.below hbel).at_ (k := k) (by rw [HL2.out]; omega)
        have hcl : cur.length = L1 := by rw [hM.out.1, HL.out]
        have hcg := own_cells hown k (by omega)
        rw [Nat.zero_add] at hcg
        have hfz := hown.frozenAt k
        have hfw := HF.out.below hbel
        have hst := Lib.hid ((hown.stored k (.int .u8 ((sumL l c m).getD k 0))).1)
        have hb2 := Lib.hid (hbel.setCell (p := ⟨g, k, none⟩) hg0 (.int .u8 ((sumL l c m).getD k 0)))
        have hN := Lib.hid (hM.out.next (by rw [HL.out]; omega))
        have hcur := hM.out.2 k (by rw [HL.out]; omega)
        rw [if_neg (by omega)] at hcur
        have wX := allB_getD HX.out.2.1 k
        have wY := allB_getD HY.out.2.1 k
        have hsc := sumL_getD c m (l := l) (i := k) (by rw [HL.out]; omega)
        rw [if_pos (by rw [HL2.out]; omega)] at hsc
        rw [hcur] at hcg
        rw [hsc] at hst hb2
        have HS := Lib.hid hsc
        obtain ⟨X, hX⟩ : ∃ X, X = l.getD k 0 := ⟨_, rfl⟩
        obtain ⟨Y, hY⟩ : ∃ Y, Y = m.getD k 0 := ⟨_, rfl⟩
        rw [← hX] at hcg wX hst hb2
        rw [← hY] at hcb wY hst hb2
        have HXX := Lib.hid hX
        have HYY := Lib.hid hY
        have wG := gmI_bd c Y
        clear hX hY hcl hcur hsc hown hbel
        have q1 : (k : Int) < (L1 : Int) := by omega
        have q2 : (k : Int) < (L2 : Int) := by omega
        have q3 : (0 : Int) ≤ (k : Int) := by omega
        have hfd : Fld wr.drew b := hfw
        go_wp2_with fail
        go_region_with (first
          | (go_at_call 32; refine (mul_I _ _ _ _ hfd hc wY).mono ?_; rintro e w' ⟨rfl, rfl⟩)
          | (go_at_call 31; refine (add_I _ _ wX wG _).mono ?_; rintro e w' ⟨rfl, rfl⟩))
        all_goals
          go_wp2
          go_roundw
          case rel => exact ⟨k + 1, cur.set k ((sumL l c m).getD k 0), by omega, by go_num, by rw [← map_set_u8, HS.out, ← HXX.out, ← HYY.out]; exact hst.out, hN, hb2.out.drew⟩
          case measure => simp [intOf]; omega
      · obtain rfl : k = L1 := by omega
        have he := hM.out.all (by rw [length_sumL]) (fun i h1 h2 => by rw [sumL_getD c m h2, if_neg (by rw [HL2.out]; exact HM3.out i h1 (by rw [← HL.out]; exact h2))])
        have HO := Lib.hid hown
        have HB := Lib.hid hbel
        have HE := Lib.hid he
        clear hown hbel he
        go_wp2
        go_ret
        exact ⟨g, rfl, by rw [← HE.out]; exact HO.out, HB.out⟩
end Go.Proofs.Ytfmjfdbbjggcpaa
/- Contract of shamir's dealing: the rows of a dealing, still in their memory. -/
namespace Go.Proofs.Ytfmjfdbbjggcpaa
open Go.ChangeShapes Go.WideShapes Go.ChangeAt Go.RowKit Go.Shelf GF
set_option linter.unusedVariables false
set_option linter.unusedSimpArgs false
set_option maxRecDepth 100000

theorem infoR : (Try.prog.info? 22).map (fun i => (i.zero, i.size, i.bytes)) = some (some (.slice none 0 0), 1, 24) := by kernel_rfl
theorem lit_cellsV (w : World) (v : Value) (e : TypeId) : ∀ j u, [v][j]? = some u → (w.alloc (.cells #[v] e)).cell? ((⟨w.heap.size, 0, none⟩ : Addr).add j) = some u := fun j u h => by
  have := (World.ownsRow_lit (base := w.heap.size) (e := e) (size := 1) w #[v] 1 (Nat.le_refl _) (by unfold maxLen; omega) rfl).cells (g := w.heap.size) rfl j u
  exact this h
theorem own_sliceV {w : World} {base : Nat} {e : TypeId} {size : Nat} {v : Value} {n : Nat} {xs : List Value} (h : w.ownsRow base e size v n xs) : ∃ a c, v = .slice a n c := by
  rcases h.2 with ⟨rfl, rfl⟩ | ⟨g, cap, cur, rfl, _⟩
  · exact ⟨_, _, rfl⟩
  · exact ⟨_, _, rfl⟩
theorem own_belowV {w w' : World} {base : Nat} {e : TypeId} {size : Nat} {v : Value} {n : Nat} {xs : List Value} (h : w.ownsRow base e size v n xs) (hb : Below w.heap.size w w') : w'.ownsRow base e size v n xs := by
  refine ⟨h.1, ?_⟩
  rcases h.2 with h2 | ⟨g, cap, cur, h1, h2, h3, h4⟩
  · exact .inl h2
  · refine .inr ⟨g, cap, cur, h1, h2, ?_, h4⟩
    rw [hb.block g ?_]
    · exact h3
    · rcases Nat.lt_or_ge g w.heap.size with hlt | hge
      · exact hlt
      · rw [Array.getElem?_eq_none hge] at h3; cases h3
theorem take_stepV {α : Type} [Inhabited α] {M : List α} {k : Nat} {x : α} (h : M[k]? = some x) : M.take (k + 1) = M.take k ++ [x] := by
  rw [List.take_add_one, h]; rfl
/-- A part of a row. -/
def seg (M : List GF) (lo n : Nat) : List GF := (M.drop lo).take n
theorem seg_co {M : List GF} {lo n k : Nat} (h : k < n) : co (seg M lo n) k = co M (lo + k) := by
  unfold seg co; simp [List.getD_eq_getElem?_getD, h]
theorem seg_len {M : List GF} {lo n : Nat} (h : lo + n ≤ M.length) : (seg M lo n).length = n := by simp [seg]; omega
def cutA (a : Option Addr) (c lo : Nat) : Option Addr := if c = lo then a else a.map (·.add lo)
theorem Pa.seg {w : World} {a : Option Addr} {m c : Nat} {M : List GF} (h : Pa w a m c M) {lo n : Nat} (h1 : lo + n ≤ m) : Pa w (cutA a c lo) n (c - lo) (seg M lo n) := by
  have hl := h.len
  have hc := h.1.2.2.2
  refine ⟨⟨by rw [length_iL, seg_len (by omega)], allB_iL _, fun h0 => ?_, by omega, by omega⟩, fun e => ?_⟩
  · rw [length_iL, seg_len (by omega)] at h0
    obtain ⟨b, off, e, hb, hcl⟩ := h.1.2.2.1 (by rw [length_iL]; omega)
    refine ⟨b, off + lo, ?_, hb, fun i hi => ?_⟩
    · unfold cutA; rw [if_neg (by omega), e]; exact congrArg some (Addr.add_lit _ _ _)
    · rw [length_iL, seg_len (by omega)] at hi
      have := hcl (lo + i) (by rw [length_iL]; omega)
      rw [getD_iL] at this
      rw [getD_iL, seg_co hi, ← this]
      congr 2
      omega
  · unfold cutA at e
    by_cases q : c = lo
    · omega
    · rw [if_neg q] at e
      have : a = none := by cases a with
        | none => rfl
        | some x => cases e
      have := h.2 this
      omega
/-- The rows of a dealing, and the slices that they are. -/
def dR (t n : Nat) (S M : List GF) : List (List GF) := S :: (List.range (t - 1)).map fun i => seg M (i * n) n
def dV (t n : Nat) (aS : Option Addr) (cS : Nat) (aM : Option Addr) (cM : Nat) : List Value := .slice aS n cS :: (List.range (t - 1)).map fun i => .slice (cutA aM cM (i * n)) n (cM - i * n)
theorem dR_len {t : Nat} (n : Nat) (S M : List GF) (h : 1 ≤ t) : (dR t n S M).length = t := by unfold dR; simp; omega
theorem dV_len {t : Nat} (n : Nat) (aS : Option Addr) (cS : Nat) (aM : Option Addr) (cM : Nat) (h : 1 ≤ t) : (dV t n aS cS aM cM).length = t := by unfold dV; simp; omega
theorem dR_zero (t n : Nat) (S M : List GF) : rw_ (dR t n S M) 0 = S := rfl
theorem dR_succ {t i : Nat} (n : Nat) (S M : List GF) (h : i + 1 < t) : rw_ (dR t n S M) (i + 1) = seg M (i * n) n := by
  unfold rw_ dR; simp [List.getD_eq_getElem?_getD, show i < t - 1 by omega]
theorem dV_succ {t i : Nat} (n : Nat) (aS : Option Addr) (cS : Nat) (aM : Option Addr) (cM : Nat) (h : i + 1 < t) : (dV t n aS cS aM cM)[i + 1]? = some (.slice (cutA aM cM (i * n)) n (cM - i * n)) := by
  unfold dV; simp [show i < t - 1 by omega]
theorem mul_step {t n i m : Nat} (hm : m = (t - 1) * n) (h : i + 1 < t) : i * n + n ≤ m := by
  have h1 : i + 1 ≤ t - 1 := by omega
  have h2 := Nat.mul_le_mul_right n h1
  rw [Nat.add_mul, Nat.one_mul] at h2
  omega
theorem dR_wide {t n m : Nat} {S M : List GF} (hS : S.length = n) (hM : M.length = m) (ht : 1 ≤ t) (hm : m = (t - 1) * n) {k : Nat} (hk : k < t) : (rw_ (dR t n S M) k).length = n := by
  match k with
  | 0 => exact hS
  | i + 1 => rw [dR_succ n S M hk, seg_len (by rw [hM]; exact mul_step hm hk)]
/-- Byte by byte they are the dealing's polynomial. -/
theorem dR_co {t n : Nat} {S M : List GF} {i k : Nat} (hi : i < n) (hk : k < t) : co (rw_ (dR t n S M) k) i = co (dl t n S M i) k := by
  match k with
  | 0 => rw [dR_zero, dl_zero]
  | k + 1 => rw [dR_succ n S M hk, seg_co hi, dl_succ n S M i hk]
theorem pa_lt {w : World} {a : Option Addr} {L c : Nat} {P : List GF} (h : Pa w a L c P) : ∀ b off, a = some ⟨b, off, none⟩ → 0 < L → b < w.heap.size := fun b off e h0 => by
  obtain ⟨b', o', e', hb, _⟩ := h.at_ h0
  rw [e] at e'; cases e'; exact hb
theorem dRV {w : World} {t n m : Nat} {aS : Option Addr} {cS : Nat} {S : List GF} {aM : Option Addr} {cM : Nat} {M : List GF} (hS : Pa w aS n cS S) (hM : Pa w aM m cM M) (ht : 1 ≤ t) (hm : m = (t - 1) * n) : RV w (fun b => b < w.heap.size) (dV t n aS cS aM cM) (dR t n S M) := by
  refine ⟨by rw [dV_len _ _ _ _ _ ht, dR_len _ _ _ ht], fun i hi => ?_⟩
  rw [dR_len _ _ _ ht] at hi
  have key : ∀ {a : Option Addr} {c : Nat} {P : List GF}, Pa w a n c P → ∀ v, v = Value.slice a n c → ∃ a c, some v = some (.slice a P.length c) ∧ P.length ≤ c ∧ c ≤ maxLen ∧ (a = none → c = 0) ∧
      (0 < P.length → ∃ b off, a = some ⟨b, off, none⟩ ∧ b < w.heap.size ∧ b < w.heap.size ∧ ∀ j, j < P.length → w.cell? ⟨b, off + j, none⟩ = some (.int .u8 (toI (co P j)))) := fun {a c P} h v e => by
    have hl := h.len
    refine ⟨a, c, by rw [e, hl], by rw [hl]; exact h.1.2.2.2.1, h.1.2.2.2.2, h.2, fun h0 => ?_⟩
    obtain ⟨b, off, e, hb, hc⟩ := h.1.2.2.1 (by rw [length_iL]; exact h0)
    exact ⟨b, off, e, hb, hb, fun j hj => by have := hc j (by rw [length_iL]; exact hj); rwa [getD_iL] at this⟩
  match i with
  | 0 => exact key hS _ rfl
  | i + 1 =>
    rw [dR_succ n S M hi, dV_succ n aS cS aM cM hi]
    exact key (hM.seg (mul_step hm hi)) _ rfl

end Go.Proofs.Ytfmjfdbbjggcpaa
/- slices.Backward over rows of rows: the contract of its iterator; contract of shamir's value. -/
namespace Go.Proofs.Ytfmjfdbbjggcpaa
open Go.ChangeShapes Go.WideShapes Go.ChangeAt Go.RowKit Go.Shelf GF
set_option linter.unusedVariables false
set_option linter.unusedSimpArgs false
set_option maxRecDepth 100000
attribute [local go_sem] Oper.semAt_some

/-- What a round is handed: a place, and the row there. -/
def itvR {len : Nat} (A : Nat → Option Addr) (m c : Nat → Nat) (x : Fin len) : Array Value := #[.int .i64 ((x.1 : Nat) : Int), .slice (A x.1) (m x.1) (c x.1)]
def RdR (Bx len : Nat) (a : Option Addr) (cap : Nat) (A : Nat → Option Addr) (m c : Nat → Nat) (W : World) : Prop :=
  W.cell? ⟨Bx, 0, none⟩ = some (.slice a len cap) ∧ ∀ j, j < len → ∃ b off, a = some ⟨b, off, none⟩ ∧ W.cell? ⟨b, off + j, none⟩ = some (.slice (A j) (m j) (c j))
def BkR (len : Nat) (pre : List (Fin len)) : Prop := pre.length ≤ len ∧ ∀ k (h : k < pre.length), (pre[k]).1 = len - 1 - k
theorem BkR.nil (len : Nat) : BkR len [] := ⟨Nat.zero_le _, fun k h => by simp at h⟩
theorem BkR.snoc {len : Nat} {pre : List (Fin len)} (h : BkR len pre) (x : Fin len) (hl : pre.length < len) (hx : x.1 = len - 1 - pre.length) : BkR len (pre ++ [x]) := by
  refine ⟨by simp; omega, fun k hk => ?_⟩
  by_cases e : k < pre.length
  · rw [List.getElem_append_left e]; exact h.2 k e
  · have e2 : k = pre.length := by simp at hk; omega
    subst e2
    rw [List.getElem_append_right (Nat.le_refl _)]
    simp only [Nat.sub_self, List.getElem_cons_zero]
    exact hx
theorem RdR.put {Bx len cap : Nat} {a : Option Addr} {A : Nat → Option Addr} {m c : Nat → Nat} {W : World} {l : Nat} {o : Obj} (o' : Obj) (hl : W.heap[l]? = some o) (ho : o.isCells = false) (h : RdR Bx len a cap A m c W) : RdR Bx len a cap A m c (W.putObj l o') := by
  have key : ∀ {p : Addr} {v : Value}, W.cell? p = some v → (W.putObj l o').cell? p = some v := fun {p v} hc => cell_kept hc (grownBy_putObj' W l o') (fun r e => by cases e; exact ⟨_, hl, ho⟩)
  refine ⟨key h.1, fun j hj => ?_⟩
  obtain ⟨b, off, e, hc⟩ := h.2 j hj
  exact ⟨b, off, e, key hc⟩

set_option maxHeartbeats 2000000 in
theorem backR_in (F : Fence) (n : Nat) (hF : F.fn 62) (hro : F.round = none) (hn : 1 ≤ n) (l Bx len cap : Nat) (a : Option Addr) (A : Nat → Option Addr) (m c : Nat → Nat) (hlen : len ≤ 140737488355328) (J Jx : List (Fin len) → World → Prop)
    (hY : ∀ pre x W, J pre W → pre.length < len → YieldAt F (n - 1) Try.prog l (itvR A m c x) W fun e W' =>
      (e = .returned (.bool true) ∧ J (pre ++ [x]) W' ∧ (RdR Bx len a cap A m c W → RdR Bx len a cap A m c W')) ∨ (e = .returned (.bool false) ∧ Jx (pre ++ [x]) W'))
    (W : World) (hR0 : RdR Bx len a cap A m c W) (h0 : J [] W) :
    CallsIn F n Try.prog 62 #[.func (.yield l) #[] #[], .pointer (some ⟨Bx, 0, none⟩)] W fun e W' => (∃ v, e = .returned v) ∧
      ((∃ ys, (ys.length = len ∧ BkR len ys) ∧ J ys W') ∨ (∃ pre, BkR len pre ∧ Jx pre W')) := by
  refine callsIn_of_wp Try.func62 rfl hF ?_ hro
  simp only [Try.ntmps62, List.size_toArray, List.length_cons, List.length_nil, Nat.reduceAdd, Nat.reduceSub, Array.replicate_succ, Array.replicate_zero, List.push_toArray, List.append_toArray, List.nil_append, List.cons_append]
  have hb := hR0.1
  gi_wp2
  gi_loopw [3] (fun i wr => ∃ (r : Nat) (pre : List (Fin len)), pre.length + r = len ∧ BkR len pre ∧ ((r = 0 ∧ i = .int .i64 (-1)) ∨ ∃ j : Nat, r = j + 1 ∧ i = .int .i64 (j : Int)) ∧ J pre wr ∧ RdR Bx len a cap A m c wr)
    (fun i _ => (intOf i + 1).toNat)
  case atStart =>
    refine ⟨len, [], by simp, BkR.nil _, ?_, h0, hR0⟩
    rcases Nat.eq_zero_or_pos len with e | e
    · subst e; exact .inl ⟨rfl, by go_num⟩
    · obtain ⟨j, rfl⟩ : ∃ j, len = j + 1 := ⟨len - 1, by omega⟩
      exact .inr ⟨j, rfl, by go_num⟩
  case round =>
    obtain ⟨r, pre, hpl, hbk, hi, hJs, hRd⟩ := hrel
    rcases hi with ⟨rfl, rfl⟩ | ⟨j, rfl, rfl⟩
    · gi_wp2
      go_end0
      exact ⟨⟨_, rfl⟩, .inl ⟨pre, ⟨by omega, hbk⟩, hJs⟩⟩
    · obtain ⟨b, off, rfl, hc⟩ := hRd.2 j (by omega)
      have hbx := hRd.1
      obtain ⟨fn, tmps, assign, body, hy, hR⟩ := hY pre ⟨j, by omega⟩ wr hJs (by omega)
      dsimp only [itvR] at hy
      have q1 : (j : Int) < (len : Int) := by omega
      have q2 : (0 : Int) ≤ (j : Int) := by omega
      have hk := hbk.snoc ⟨j, by omega⟩ (by omega) (by show j = _; omega)
      gi_wp2
      refine hR.mono ?_
      rintro e W3 (⟨rfl, hJ3, hk3⟩ | ⟨rfl, hJx3⟩)
      · gi_wp2
        go_roundw
        case rel =>
          refine ⟨j, _, by simp; omega, hk, ?_, hJ3, hk3 hRd⟩
          rcases Nat.eq_zero_or_pos j with e | e
          · subst e; exact .inl ⟨rfl, by go_num⟩
          · obtain ⟨m, rfl⟩ : ∃ m, j = m + 1 := ⟨j - 1, by omega⟩
            exact .inr ⟨m, rfl, by go_num⟩
        case measure => simp [intOf]
      · gi_wp2
        refine bodyPost_ret (results_none rfl _ _ _) rfl ?_
        exact ⟨⟨_, rfl⟩, .inr ⟨_, hk, hJx3⟩⟩
set_option maxHeartbeats 1000000 in
theorem backR_any (a : Option Addr) (len cap : Nat) (w : World) :
    Calls Try.prog 52 #[.slice a len cap] w fun e w' => e = .returned (.func (.func 62) #[] #[.pointer (some ⟨w.heap.size, 0, none⟩)]) ∧ w' = w.alloc (.cells #[.slice a len cap] 40) := by
  go_enter Try.func52, Try.ntmps52
  go_wp2
  go_ret
  exact ⟨rfl, rfl⟩
theorem backR_stops (F : Fence) (n : Nat) (hF : F.fn 62) (hro : F.round = none) (hn : 1 ≤ n) (Bx len cap : Nat) (a : Option Addr) (A : Nat → Option Addr) (m c : Nat → Nat) (hlen : len ≤ 140737488355328) (w : World)
    (hBx : Bx < w.heap.size) (hR : RdR Bx len a cap A m c w) (hlow : 0 < len → ∀ b off, a = some ⟨b, off, none⟩ → b < w.heap.size) :
    SeqStopsK F n Try.prog 62 #[.pointer (some ⟨Bx, 0, none⟩)] (itvR (len := len) A m c) (fun W W' => RdR Bx len a cap A m c W → RdR Bx len a cap A m c W') (fun ys => ys.length = len ∧ BkR len ys) (BkR len) len w := fun l J Jx W hW _ _ hY h0 => by
  refine backR_in F n hF hro hn l Bx len cap a A m c hlen J Jx hY W ⟨(hW.cell (p := ⟨Bx, 0, none⟩) hBx).trans hR.1, fun j hj => ?_⟩ h0
  obtain ⟨b, off, e, hc⟩ := hR.2 j hj
  exact ⟨b, off, e, (hW.cell (p := ⟨b, off + j, none⟩) (hlow (by omega) b off e)).trans hc⟩

/-! ## value -/
/-- A row, and x times another. -/
def sumG (row : List GF) (x : GF) (o : List GF) : List GF := (List.range row.length).map fun i => co row i + x * co o i
theorem sumG_len (row : List GF) (x : GF) (o : List GF) : (sumG row x o).length = row.length := by simp [sumG]
theorem sumG_co {row : List GF} (x : GF) (o : List GF) {i : Nat} (h : i < row.length) : co (sumG row x o) i = co row i + x * co o i := by
  unfold sumG; unfold co; simp [List.getD_eq_getElem?_getD, h]
theorem sumL_G (row : List GF) (x : GF) (o : List GF) : sumL (iL row) (toI x) (iL o) = iL (sumG row x o) := by
  refine list_ext_getD (by rw [length_sumL, length_iL, length_iL, sumG_len]) fun i hi => ?_
  rw [length_sumL, length_iL] at hi
  rw [sumL_getD _ _ (by rw [length_iL]; exact hi), getD_iL, getD_iL, getD_iL, sumG_co x o hi, length_iL]
  by_cases h : i < o.length
  · rw [if_pos h]; rfl
  · rw [if_neg h, co_ge (l := o) (by omega), mul_zero, GF.add_zero]
/-- What the rounds have reckoned. -/
def hrR (R : List (List GF)) (x : GF) {len : Nat} (pre : List (Fin len)) : List GF := pre.foldl (fun o j => sumG (rw_ R j.1) x o) []
theorem hrR_snoc (R : List (List GF)) (x : GF) {len : Nat} (pre : List (Fin len)) (y : Fin len) : hrR R x (pre ++ [y]) = sumG (rw_ R y.1) x (hrR R x pre) := by simp [hrR]
def colR (R : List (List GF)) (T i : Nat) : List GF := (List.range T).map fun k => co (rw_ R k) i
theorem colR_len (R : List (List GF)) (T i : Nat) : (colR R T i).length = T := by simp [colR]
theorem colR_co (R : List (List GF)) {T i k : Nat} (h : k < T) : co (colR R T i) k = co (rw_ R k) i := by
  show List.getD _ _ _ = _
  unfold colR; simp [List.getD_eq_getElem?_getD, h]
theorem hrR_ev (R : List (List GF)) (x : GF) (T n : Nat) (hw : ∀ k, k < T → (rw_ R k).length = n) (ys : List (Fin T)) (h : BkR T ys) {i : Nat} (hi : i < n) : co (hrR R x ys) i = ev ((colR R T i).drop (T - ys.length)) x := by
  have key : ∀ k, k ≤ ys.length → co (hrR R x (ys.take k)) i = ev ((colR R T i).drop (T - k)) x := by
    intro k
    induction k with
    | zero =>
      intro _
      rw [List.take_zero, Nat.sub_zero]
      have e : (colR R T i).drop T = [] := List.drop_eq_nil_of_le (by rw [colR_len]; exact Nat.le_refl _)
      rw [e]; rfl
    | succ k ih =>
      intro hk
      have h1 := h.1
      have h2 := h.2 k (by omega)
      rw [List.take_succ_eq_append_getElem (by omega), hrR_snoc, sumG_co x _ (by rw [hw _ (ys[k]).2]; exact hi), ih (by omega), h2, ev_drop (colR R T i) (T - (k + 1)), colR_co R (by omega)]
      rw [show T - 1 - k = T - (k + 1) by omega, show T - (k + 1) + 1 = T - k by omega]
  have := key ys.length (Nat.le_refl _)
  rwa [List.take_length] at this
theorem hrR_len (R : List (List GF)) (x : GF) (T n : Nat) (hw : ∀ k, k < T → (rw_ R k).length = n) (ys : List (Fin T)) (h : 0 < ys.length) : (hrR R x ys).length = n := by
  obtain ⟨pre, y, rfl⟩ : ∃ pre y, ys = pre ++ [y] := ⟨ys.dropLast, ys.getLast (List.ne_nil_of_length_pos h), (List.dropLast_concat_getLast (List.ne_nil_of_length_pos h)).symm⟩
  rw [hrR_snoc, sumG_len, hw _ y.2]
def valR (R : List (List GF)) (T n : Nat) (x : GF) : List GF := (List.range n).map fun i => ev (colR R T i) x
theorem valR_dR {t n : Nat} {S M : List GF} (x : GF) (h0 : 1 ≤ t) : valR (dR t n S M) t n x = shR t n S M x := by
  unfold valR shR
  refine List.map_congr_left fun i hi => ev_congr (fun k => ?_) x
  have hi := List.mem_range.1 hi
  by_cases hk : k < t
  · rw [colR_co _ hk, dR_co hi hk]
  · rw [co_ge (by rw [colR_len]; omega), dl_ge n S M i h0 (by omega)]
theorem hrR_all {R : List (List GF)} {x : GF} {T n : Nat} (hw : ∀ k, k < T → (rw_ R k).length = n) {ys : List (Fin T)} (hy : ys.length = T) (h : BkR T ys) (hT : 0 < T) : hrR R x ys = valR R T n x := by
  have hl := hrR_len R x T n hw ys (by omega)
  refine ext_co (by rw [hl]; simp [valR]) fun i hi => ?_
  rw [hl] at hi
  rw [hrR_ev R x T n hw ys h hi, hy, Nat.sub_self, List.drop_zero]
  unfold valR; unfold co; simp [List.getD_eq_getElem?_getD, hi]
end Go.Proofs.Ytfmjfdbbjggcpaa
/- Shamir's At, Join: the contracts proved. -/
namespace Go.Proofs.Ytfmjfdbbjggcpaa
open Go.ChangeShapes Go.WideShapes Go.ChangeAt Go.RowKit Go.Shelf GF
set_option linter.unusedVariables false
set_option linter.unusedSimpArgs false
set_option maxRecDepth 100000

theorem unl_take {M : List (List GF)} {k : Nat} (hk : k ≤ M.length) : (unl M k = true ↔ ∃ i, i < k ∧ (rw_ M i).length ≠ (rw_ M 0).length) := by
  induction k with
  | zero => simp [unl]
  | succ k ih =>
    rw [unl_next (by omega), Bool.or_eq_true, ih (by omega), bne_iff_ne]
    constructor
    · rintro (⟨i, h1, h2⟩ | h)
      · exact ⟨i, by omega, h2⟩
      · exact ⟨k, by omega, h⟩
    · rintro ⟨i, h1, h2⟩
      by_cases e : i = k
      · right; rw [← e]; exact h2
      · left; exact ⟨i, by omega, h2⟩
/-- What the first k shares tell. -/
def atQ (X : List GF) (R : Nat → List GF) (x : GF) (n k : Nat) : List GF := (List.range n).map fun i => sm k fun q => wt X q x * co (R q) i
theorem atQ_len (X : List GF) (R : Nat → List GF) (x : GF) (n k : Nat) : (atQ X R x n k).length = n := by simp [atQ]
theorem atQ_co {X : List GF} {R : Nat → List GF} {x : GF} {n k i : Nat} (h : i < n) : co (atQ X R x n k) i = sm k fun q => wt X q x * co (R q) i := by
  unfold atQ; unfold co; simp [List.getD_eq_getElem?_getD, h]
theorem atQ_next (X : List GF) (R : Nat → List GF) (x : GF) (n k : Nat) : sumG (atQ X R x n k) (wt X k x) (R k) = atQ X R x n (k + 1) := by
  refine ext_co (by rw [sumG_len, atQ_len, atQ_len]) fun i hi => ?_
  rw [sumG_len, atQ_len] at hi
  rw [sumG_co _ _ (by rw [atQ_len]; exact hi), atQ_co hi, atQ_co hi]
  rfl
theorem atQ_zero (X : List GF) (R : Nat → List GF) (x : GF) (n : Nat) : iL (atQ X R x n 0) = List.replicate n 0 := by
  refine list_ext_getD (by rw [length_iL, atQ_len]; simp) fun i hi => ?_
  rw [length_iL, atQ_len] at hi
  rw [getD_iL, atQ_co hi]
  simp [List.getD_eq_getElem?_getD, hi]
  rfl
theorem atQ_all (X : List GF) (R : Nat → List GF) (x : GF) (n : Nat) : atQ X R x n X.length = atR X R x n := rfl
end Go.Proofs.Ytfmjfdbbjggcpaa
