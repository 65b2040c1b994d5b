/- Media: the law's sector and few. -/
import Derived.Test.YtoonaendakjecaaUb
namespace Go.Proofs.Ytoonaendakjecaa
open Go.ChangeShapes Go.WideShapes Go.ChangeAt Go.RowKit Go.Shelf
set_option linter.unusedVariables false
set_option linter.unusedSimpArgs false
set_option maxRecDepth 100000

set_option maxHeartbeats 2000000 in
theorem sector_any (x : Int) (w : World) (hx : i64R x) :
    Calls Try.prog 26 #[.int .i64 x] w fun e w' => e = .returned (.slice (some ⟨w.heap.size, 0, none⟩) (secN x) (secN x)) ∧
      w'.ownsRow w.heap.size 5 1 (.slice (some ⟨w.heap.size, 0, none⟩) (secN x) (secN x)) (secN x) ((secX x).map (Value.int .u8)) ∧ Below w.heap.size w w' := by
  obtain ⟨N, hN⟩ : ∃ N, N = secN x := ⟨_, rfl⟩
  obtain ⟨L, hL⟩ : ∃ L, L = secX x := ⟨_, rfl⟩
  have HLL := Lib.hid (show L.length = N by rw [hL, hN]; exact secX_len x)
  have HLG := Lib.hid (show ∀ i, i < N → L.getD i 0 = (x + (i % 3 : Nat)) % 256 from fun i hi => by rw [hL]; exact secL_getD (by rw [← hN]; exact hi))
  have HN5 := Lib.hid (show N ≤ 512 by rw [hN]; unfold secN; split <;> omega)
  have hN5 := HN5.out
  have hmk := run_make_row' (P := Try.prog) 39 5 (.int .u8 0) 1 Try.underlying39 info5 rfl .i64 .i64 N (by omega) (by omega)
  have HO0 := Lib.hid (own_made (w := w) (e := 5) (n := N) (by unfold maxLen; omega))
  have HB0 := Lib.hid (show Below w.heap.size w (w.alloc (.cells (madeCells #[.int .u8 0] N) 5)) from (Below.refl _ _).alloc (Nat.le_refl _) _)
  rw [← hL]
  clear hL
  have fin : ∀ (q : Int), q = (N : Int) → ((q = 511 ∧ x < 0) ∨ (q = 512 ∧ ¬ x < 0)) → True := fun _ _ _ => trivial
  clear fin
  by_cases h0 : x < 0
  all_goals
    have hNe : (N : Int) = if x < 0 then 511 else 512 := by rw [hN]; unfold secN; split <;> rfl
    simp only [h0, if_true, if_false] at hNe
    rw [← hN]
    rw [hNe] at hmk
    clear hN
    go_enter Try.func26, Try.ntmps26
    go_wp2_with fail
    clear hmk
    go_loopw [12] (fun q wr => ∃ k : Nat, k ≤ N ∧ q = .int .i64 (k : Nat) ∧ wr.ownsRow w.heap.size 5 1 (.slice (some ⟨w.heap.size, 0, none⟩) N N) N ((part L k).map (Value.int .u8)) ∧ Below w.heap.size w wr) (fun q _ => N - (intOf q).toNat)
    case atStart => exact ⟨0, Nat.zero_le _, rfl, by rw [part_zero, HLL.out]; exact HO0.out, HB0.out⟩
    case round =>
      obtain ⟨k, hk, rfl, hown, hbel⟩ := hrel
      rename World => V
      have HOV := Lib.hid hown
      have HBV := Lib.hid hbel
      clear hown hbel HO0 HB0
      by_cases hlt : k < N
      · have HLT := Lib.hid hlt
        have hc := own_cells HOV.out k hlt
        rw [Nat.zero_add] at hc
        have hfz := HOV.out.frozenAt k
        obtain ⟨X, hX⟩ : ∃ X, X = (part L k).getD k 0 := ⟨_, rfl⟩
        rw [← hX] at hc
        clear hX
        have qk : (k : Int) < (N : Int) := by omega
        obtain ⟨r, hr⟩ : ∃ r : Nat, r = k % 3 := ⟨_, rfl⟩
        have HV := Lib.hid (show (x + (r : Int)) % 256 = L.getD k 0 by rw [HLG.out k hlt, hr])
        have hr1 : (k : Int).tmod 3 = (r : Int) := by rw [Int.tmod_eq_emod_of_nonneg (by omega)]; omega
        have hr2 : (k : Int) % 3 = (r : Int) := by omega
        clear hr hlt
        go_wp2_with fail
        go_roundw
        case rel =>
          refine ⟨k + 1, HLT.out, by go_num, ?_, HBV.out.setCell (Nat.le_refl _) _⟩
          rw [HV.out]
          exact part_set_own HLL.out HLT.out HOV.out
        case measure => simp [intOf]; have := HLT.out; omega
      · obtain rfl : k = N := by omega
        go_wp2_with fail
        go_ret
        refine ⟨rfl, ?_, HBV.out⟩
        have h := HOV.out
        rw [← HLL.out, part_all] at h
        rw [HLL.out] at h
        exact h
set_option maxHeartbeats 2000000 in
theorem few_any (a : Option Addr) (n c : Nat) (l : List AC) (w : World) (hl : ActA w a n c l) :
    Calls Try.prog 8 #[.slice a n c] w fun e w' => e = .returned (.bool (decide ((∀ x, x ∈ l → x.kn ≤ 60) ∧ n ≤ 60))) ∧ Below w.heap.size w w' := by
  have HL := Lib.hid hl
  have HLL := Lib.hid hl.1
  have hnc : n ≤ 9223372036854775807 := by have := hl.2.1; have := hl.2.2.1; unfold maxLen at this; omega
  clear hl
  go_enter Try.func8, Try.ntmps8
  go_wp2_with fail
  go_loopw [7] (fun q wr => ∃ k : Nat, k ≤ n ∧ q = .int .i64 (k : Nat) ∧ (∀ i x, i < k → l[i]? = some x → x.kn ≤ 60) ∧ Below w.heap.size w wr) (fun q _ => n - (intOf q).toNat)
  case atStart => exact ⟨0, Nat.zero_le _, rfl, fun i x h => absurd h (Nat.not_lt_zero _), Below.refl _ _⟩
  case round =>
    obtain ⟨k, hk, rfl, hall, hbel⟩ := hrel
    rename World => V
    have HAL := Lib.hid hall
    have HBV := Lib.hid hbel
    clear hall hbel
    by_cases hlt : k < n
    · have HLT := Lib.hid hlt
      have HLV := Lib.hid (HL.out.on HBV.out)
      obtain ⟨x, hx⟩ : ∃ x, l[k]? = some x := ⟨_, List.getElem?_eq_getElem (by rw [HLL.out]; exact hlt)⟩
      have HX := Lib.hid hx
      obtain ⟨b, off, rfl, hb, hc⟩ := HLV.out.2.2.2.2 (by omega)
      have hr := hc k x hx
      have hc0 : V.cell? ⟨b, off + k * 4, none⟩ = some (.int .i64 x.kind) := hr 0 _ rfl
      have hc1 : V.cell? ⟨b, off + k * 4 + 1, none⟩ = some (.int .i64 x.at_) := hr 1 _ rfl
      have hc2 : V.cell? ⟨b, off + k * 4 + 2, none⟩ = some (.int .i64 x.x) := hr 2 _ rfl
      have hc3 : V.cell? ⟨b, off + k * 4 + 3, none⟩ = some (.slice x.ka x.kn x.kc) := hr 3 _ rfl
      have qk : (k : Int) < (n : Int) := by omega
      have HB2 := Lib.hid (show Below w.heap.size w (V.alloc (.cells #[.int .i64 x.kind, .int .i64 x.at_, .int .i64 x.x, .slice x.ka x.kn x.kc] 31)) from HBV.out.alloc HBV.out.size _)
      clear hlt hx hr hc hb
      by_cases h60 : x.kn ≤ 60
      · have q1 : ¬ (60 : Int) < (x.kn : Int) := by omega
        have H60 := Lib.hid h60
        clear h60
        go_wp2_with fail
        go_roundw
        case rel =>
          refine ⟨k + 1, HLT.out, by go_num, fun i y hi hy => ?_, HB2.out⟩
          rcases Nat.lt_or_ge i k with h | h
          · exact HAL.out i y h hy
          · obtain rfl : i = k := by omega
            rw [HX.out] at hy; cases hy; exact H60.out
        case measure => simp [intOf]; have := HLT.out; omega
      · have q1 : (60 : Int) < (x.kn : Int) := by omega
        have H60 := Lib.hid h60
        clear h60
        go_wp2_with fail
        go_ret
        exact ⟨congrArg (fun b => Ending.returned (Value.bool b)) (decide_eq_false (fun h : (∀ x, x ∈ l → x.kn ≤ 60) ∧ n ≤ 60 => H60.out (h.1 x (List.mem_of_getElem? HX.out)))).symm, HB2.out⟩
    · obtain rfl : k = n := by omega
      clear hlt hk
      go_wp2_with fail
      go_ret
      refine ⟨congrArg (fun b => Ending.returned (Value.bool b)) (decide_eq_decide.2 (show (k : Int) ≤ 60 ↔ ((∀ x, x ∈ l → x.kn ≤ 60) ∧ k ≤ 60) from ?_)), HBV.out⟩
      refine ⟨fun h => ⟨fun x hx => ?_, by omega⟩, fun h => by have := h.2; omega⟩
      obtain ⟨i, hi, rfl⟩ := List.getElem_of_mem hx
      exact HAL.out i _ (by have := HLL.out; omega) (List.getElem?_eq_getElem hi)
end Go.Proofs.Ytoonaendakjecaa
