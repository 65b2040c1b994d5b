/- Contracts of word.packed, word.place, word.Pack. -/
import Derived.Test.YtadcgngiofdhcaaDoorBool
import Derived.Test.YtadcgngiofdhcaaDoorPackM
import Derived.Test.YtadcgngiofdhcaaDoorLives
import Derived.Deep.RegionHeld
namespace Go.Proofs.YtadcgngiofdhcaaDoor
open Go.ChangeShapes Go.WideShapes Go.ChangeAt Go.RowKit
set_option linter.unusedVariables false
set_option maxRecDepth 100000

theorem info4 : (Tryd.prog.info? 4).map (fun i => (i.zero, i.size, i.bytes)) = some (some (.bool false), 1, 1) := by kernel_rfl
theorem packed_any (n : Int) (h0 : 0 ≤ n) (h1 : n ≤ 9223372036854775807) (w : World) : Calls Tryd.prog 35 #[.int .i64 n] w fun e w' => e = .returned (.int .i64 ((n + 7) / 8)) ∧ w = w' := by
  have r0 := Int.emod_nonneg n (show (8 : Int) ≠ 0 by omega)
  have r1 := Int.emod_lt_of_pos n (show (0 : Int) < 8 by omega)
  by_cases h : 0 < n % 8
  · have E := Lib.hid (show n / 8 + 1 = (n + 7) / 8 by omega)
    go_enter Tryd.func35, Tryd.ntmps35
    go_wp2
    go_ret
    exact ⟨ret_int E.out, rfl⟩
  · have E := Lib.hid (show n / 8 = (n + 7) / 8 by omega)
    go_enter Tryd.func35, Tryd.ntmps35
    go_wp2
    go_ret
    exact ⟨ret_int E.out, rfl⟩
theorem shift128 {r : Nat} (h : r < 8) : (128 : Int) / 2 ^ r = 2 ^ (7 - r) := by
  match r, h with
  | 0, _ => rfl
  | 1, _ => rfl
  | 2, _ => rfl
  | 3, _ => rfl
  | 4, _ => rfl
  | 5, _ => rfl
  | 6, _ => rfl
  | 7, _ => rfl
theorem place_any (k : Nat) (h1 : k ≤ 9223372036854775807) (w : World) : Calls Tryd.prog 36 #[.int .i64 (k : Nat)] w fun e w' => e = .returned (.int .u8 (2 ^ (7 - k % 8))) ∧ w = w' := by
  have E := Lib.hid (shift128 (r := k % 8) (by omega))
  go_enter Tryd.func36, Tryd.ntmps36
  go_wp2
  go_ret
  exact ⟨ret_int E.out, rfl⟩
theorem own_rowK {w : World} {base : Nat} {e : TypeId} {g m : Nat} {l : List Bool} {k : Nat} (hl : (l.length + 7) / 8 = m) (hy : l.getD k false = true) (hk : k < l.length)
    (h : w.ownsRow base e 1 (.slice (some ⟨g, 0, none⟩) m m) m ((rowK l k).map (Value.int .u8))) :
    w.cell? ⟨g, k / 8, none⟩ = some (.int .u8 (byteK l k (k / 8) : Nat)) ∧
    (w.setCell ⟨g, k / 8, none⟩ (.int .u8 (bits .or .u8 (byteK l k (k / 8) : Nat) (2 ^ (7 - k % 8))))).ownsRow base e 1 (.slice (some ⟨g, 0, none⟩) m m) m ((rowK l (k + 1)).map (Value.int .u8)) := by
  have hj : k / 8 < (l.length + 7) / 8 := by omega
  constructor
  · have := own_cells h (k / 8) (by omega)
    rw [Nat.zero_add, rowK_getD hj] at this
    exact this
  · have := (h.stored (k / 8) (.int .u8 (bits .or .u8 (byteK l k (k / 8) : Nat) (2 ^ (7 - k % 8))))).1
    rw [map_set_u8, or_place (byteK_lt _ _ _) (by omega), rowK_yes hy] at this
    rw [or_place (byteK_lt _ _ _) (by omega)]
    exact this
theorem pack_any (a : Option Addr) (L cap : Nat) (l : List Bool) (w : World) (hA : ArgL w a L cap l) (hL : L ≤ 140737488355328) :
    Calls Tryd.prog 18 #[.slice a L cap] w fun e w' => ∃ g, e = .returned (.slice (some ⟨g, 0, none⟩) ((L + 7) / 8) ((L + 7) / 8)) ∧
      w'.ownsRow w.heap.size 5 1 (.slice (some ⟨g, 0, none⟩) ((L + 7) / 8) ((L + 7) / 8)) ((L + 7) / 8) ((packL l).map (Value.int .u8)) ∧ Below w.heap.size w w' := by
  obtain ⟨hl, hc, _, _⟩ := hA
  obtain ⟨m, hm⟩ : ∃ m, m = (L + 7) / 8 := ⟨_, rfl⟩
  have hmI : ((L : Int) + 7) / 8 = (m : Int) := by omega
  have hm8 : m ≤ L + 7 := by omega
  rw [← hm]
  have HM := Lib.hid (show (l.length + 7) / 8 = m by omega)
  have HO := Lib.hid (own_made (w := w) (e := 5) (n := m) (by unfold maxLen; omega))
  have hmk := run_make_row' (P := Tryd.prog) 22 5 (.int .u8 0) 1 Tryd.underlying22 info5 rfl .i64 .i64 m (by omega) (by omega)
  have HL := Lib.hid hl
  have HMM := Lib.hid hm
  clear hm
  go_enter Tryd.func18, Tryd.ntmps18
  go_wp2_with (go_at_call 35; refine (packed_any _ (by omega) (by omega) _).mono ?_; rw [hmI]; rintro e w' ⟨rfl, rfl⟩)
  clear hmk
  go_loopw [12] (fun i wr => ∃ k : Nat, k ≤ L ∧ i = .int .i64 k ∧ wr.ownsRow w.heap.size 5 1 (.slice (some ⟨w.heap.size, 0, none⟩) m m) m ((rowK l k).map (Value.int .u8)) ∧ Below w.heap.size w wr)
    (fun i _ => L - (intOf i).toNat)
  case atStart => exact ⟨0, Nat.zero_le _, rfl, by rw [rowK_zero, HM.out]; exact HO.out, (Below.refl _ _).alloc (Nat.le_refl _) _⟩
  case round =>
    obtain ⟨k, hk, rfl, hown, hbel⟩ := hrel
    by_cases hlt : k < L
    · obtain ⟨b, off, rfl, hB, hcb⟩ := (hc.below hbel).at_ (k := k) (by rw [HL.out]; omega)
      obtain ⟨v, hv⟩ : ∃ v, v = l.getD k false := ⟨_, rfl⟩
      rw [← hv] at hcb
      cases v
      · have HN := Lib.hid (rowK_no hv.symm)
        clear hv
        go_wp2
        go_roundw
        case rel => exact ⟨k + 1, by omega, by go_num, by rw [HN.out]; exact hown, hbel⟩
        case measure => simp [intOf]; omega
      · obtain ⟨hcell, hst⟩ := own_rowK HM.out hv.symm (by rw [HL.out]; exact hlt) hown
        have HST := Lib.hid hst
        have hfz := hown.frozenAt (k / 8)
        have HB := Lib.hid (hbel.setCell (p := ⟨w.heap.size, k / 8, none⟩) (Nat.le_refl _) (.int .u8 (bits .or .u8 (byteK l k (k / 8) : Nat) (2 ^ (7 - k % 8)))))
        have q1 : (k : Int) / 8 < (m : Int) := by omega
        have q2 : (0 : Int) ≤ (k : Int) / 8 := by omega
        have q3 : (k : Int).tdiv 8 = (k : Int) / 8 := Int.tdiv_eq_ediv_of_nonneg (by omega)
        have q4 : IntKind.i64.wrap ((k : Int) / 8) = (k : Int) / 8 := IntWalk.i64_in _ (by omega)
        have q5 : ((k : Int) / 8).toNat = k / 8 := by omega
        obtain ⟨X, hX⟩ : ∃ X, X = byteK l k (k / 8) := ⟨_, rfl⟩
        rw [← hX] at hcell HST HB
        have hbel' := Lib.hid hbel
        clear hv hst hX hown hbel
        go_wp2_with fail
        go_region_with (first | (go_at_call 36; refine (place_any k (by omega) _).mono ?_; rintro e w' ⟨rfl, rfl⟩))
        all_goals
          go_wp2
          go_roundw
          case rel => exact ⟨k + 1, by omega, by go_num, HST.out, HB.out.drew⟩
          case measure => simp [intOf]; omega
    · obtain rfl : L = k := by omega
      go_wp2
      go_ret
      refine ⟨_, rfl, ?_, hbel⟩
      unfold packL
      rw [HL.out]
      exact hown
end Go.Proofs.YtadcgngiofdhcaaDoor
