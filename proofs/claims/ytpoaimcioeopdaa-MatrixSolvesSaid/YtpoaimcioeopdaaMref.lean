/- Contracts of the document's own Times, Det. -/
import Derived.Test.YtpoaimcioeopdaaMrow
namespace Go.Proofs.Ytpoaimcioeopdaa
open Go.ChangeShapes Go.WideShapes Go.ChangeAt Go.RowKit Go.Shelf GF
set_option linter.unusedVariables false
set_option maxRecDepth 100000

theorem bits_xor_G' (x y : GF) : bits .xor .u8 (toI x) (toI y) = toI (x + y) :=
  u8_xor _ _ (toI_bd x).1 (toI_bd x).2 (toI_bd y).1 (toI_bd y).2
/-- Rows times a column. -/
def timesL (M : List (List GF)) (V : List GF) : List GF := M.map fun r => dt r.length (co r) (co V)
theorem length_timesL (M : List (List GF)) (V : List GF) : (timesL M V).length = M.length := by simp [timesL]
theorem timesL_take {M : List (List GF)} {k : Nat} (V : List GF) (hk : k < M.length) : (timesL M V).take (k + 1) = (timesL M V).take k ++ [dt (rw_ M k).length (co (rw_ M k)) (co V)] := by
  have h : k < (timesL M V).length := by rw [length_timesL]; exact hk
  rw [← List.take_append_getElem h]
  congr 2
  simp only [timesL, List.getElem_map]
  have : rw_ M k = M[k] := by unfold rw_; simp [List.getD_eq_getElem?_getD, List.getElem?_eq_getElem hk]
  rw [this]
theorem one_bs (w : World) (x : GF) : Bs (w.alloc (.cells #[.int .u8 (toI x)] 5)) (w.heap.size + 1) (some ⟨w.heap.size, 0, none⟩) (iL [x]) := by
  have := (Bs.of_own (own_one w x)).1
  refine this.more ?_
  simp

set_option maxHeartbeats 1000000 in
theorem rtimes_any (a : Option Addr) (n c : Nat) (M : List (List GF)) (a2 : Option Addr) (L2 cap2 : Nat) (V : List GF) (w : World) (hm : Mat w a n c M) (hv : Pa w a2 L2 cap2 V) (hw : ∀ i, i < n → (rw_ M i).length ≤ L2) (hn : n ≤ 1000000) :
    Calls Try.prog 14 #[.slice a n c, .slice a2 L2 cap2] w fun e w' => ∃ v, e = .returned v ∧ w'.ownsRow w.heap.size 5 1 v n ((iL (timesL M V)).map (Value.int .u8)) ∧ Below w.heap.size w w' := by
  have HM := Lib.hid hm
  have HV := Lib.hid hv
  have HW := Lib.hid hw
  have hb1 := hm.bd
  have hb2 := hv.bd
  have hl := Lib.hid hm.len
  obtain ⟨i5, hi, hz0, hz1, hz2⟩ := info_parts info5
  have HI := Lib.hid (And.intro hi (And.intro hz0 (And.intro hz1 hz2)))
  clear hi hz0 hz1 hz2 hm hv hw
  go_enter Try.func14, Try.ntmps14
  go_wp2
  go_loopw [13, 5] (fun j o wr => ∃ (k : Nat) (ao : Option Addr) (co' : Nat), k ≤ n ∧ j = .int .i64 (k : Nat) ∧ o = .slice ao (k : Nat) co' ∧ Hid (wr.ownsRow w.heap.size 5 1 (.slice ao (k : Nat) co') k ((iL ((timesL M V).take k)).map (Value.int .u8))) ∧ Hid (Below w.heap.size w wr))
    (fun j _ _ => n - (intOf j).toNat)
  case atStart => exact ⟨0, _, _, Nat.zero_le _, rfl, rfl, Lib.hid (own_empty w _), Lib.hid ((Below.refl _ _).alloc (Nat.le_refl _) _)⟩
  case round =>
    obtain ⟨k, ao, cc, hk, rfl, rfl, hR, hB⟩ := hrel
    by_cases hlt : k < n
    · obtain ⟨b, off, ai, ci, rfl, hb, hcell, hpa⟩ := HM.out.row hlt
      have hcr := (hB.out.cell (p := ⟨b, off + k, none⟩) hb).trans hcell
      obtain ⟨r, hr⟩ : ∃ r, r = rw_ M k := ⟨_, rfl⟩
      obtain ⟨m, hm⟩ : ∃ m, m = r.length := ⟨_, rfl⟩
      rw [← hr, ← hm] at hcr hpa
      have hmL : m ≤ L2 := by rw [hm, hr]; exact HW.out k hlt
      have Hr := Lib.hid hr
      have Hm := Lib.hid hm
      have HP := Lib.hid hpa
      have hbp := hpa.bd
      have q5 : (k : Int) < (n : Int) := by omega
      have q6 : (0 : Int) ≤ (k : Int) := by omega
      clear hcell hpa hr hm
      go_wp2
      go_loopw [19, 8] (fun j x wq => ∃ i : Nat, i ≤ m ∧ j = .int .i64 (i : Nat) ∧ x = .int .u8 (toI (dt i (co r) (co V))) ∧ Hid (wq.ownsRow w.heap.size 5 1 (.slice ao (k : Nat) cc) k ((iL ((timesL M V).take k)).map (Value.int .u8))) ∧ Hid (Below w.heap.size w wq))
        (fun j _ _ => m - (intOf j).toNat)
      case atStart => exact ⟨0, Nat.zero_le _, rfl, rfl, hR, hB⟩
      case round =>
        obtain ⟨i, hi, rfl, rfl, hR2, hB2⟩ := hrel
        by_cases hlt2 : i < m
        · obtain ⟨bx, ox, rfl, hbx, hcx⟩ := (HP.out.on hB2.out).at_ hlt2
          obtain ⟨by', oy, rfl, hby, hcy⟩ := (HV.out.on hB2.out).at_ (show i < L2 by omega)
          have q7 : (i : Int) < (m : Int) := by omega
          have q8 : (0 : Int) ≤ (i : Int) := by omega
          have q9 : (i : Int) < (L2 : Int) := by omega
          have hd : dt (i + 1) (co r) (co V) = dt i (co r) (co V) + co r i * co V i := rfl
          have HD := Lib.hid hd
          have hbt := fun (p q : GF) => bits_xor_G' p q
          clear hd
          go_wp2_with fail
          go_quiet ((go_at_call 40; exact Calls.quiet_of_same ((rmul_G _ _ _).mono fun _ _ ⟨he, hw⟩ => ⟨he, hw.symm⟩)))
          go_wp2
          go_roundw
          case rel => exact ⟨i + 1, by omega, by go_num, by rw [HD.out], Lib.hid hR2.out, Lib.hid (below_drewN hB2.out _)⟩
          case measure => simp [intOf]; omega
        · obtain rfl : m = i := by omega
          have ht := timesL_take (M := M) V (k := k) (by have := hl.out; omega)
          rw [← Hr.out, ← Hm.out] at ht
          have HT := Lib.hid ht
          clear ht
          go_wp2_with ((with_reducible show wpList _ _ _ (⟨some 37, _, _, _, _, _⟩ :: _) _ _); go_loud (refine wpList_append_bs _ rfl (.tmp 34) (.tmp 36) 22 rfl w.heap.size 5 i5 Try.underlying22 HI.out.1 HI.out.2.1 HI.out.2.2.1 HI.out.2.2.2 _ k (iL ((timesL M V).take k)) rfl (hR2.out.alloc _) _ 1 1 _ _ rfl (one_bs _ _) rfl (fun h => by cases h) (by omega) (by have := hB2.out.size; simp; omega) ?_); go_loud (intro v1 wc hown1 hg1; have hbel := (hB2.out.alloc hB2.out.size (.cells #[.int .u8 (toI (dt m (co r) (co V)))] 5)).grown hg1 (by have := hB2.out.size; simp; omega) (fun q hq => (hR2.out.lt q hq).1); obtain ⟨a1, c1, hv1, _, _, _, _, _⟩ := own_form hown1; subst hv1; have HO := Lib.hid hown1; have HN := Lib.hid hbel; clear hown1 hg1 hbel))
          go_roundw
          case rel => exact ⟨k + 1, a1, c1, by omega, by go_num, rfl, Lib.hid (by rw [HT.out]; simpa [iL] using HO.out), HN⟩
          case measure => simp [intOf]; omega
    · obtain rfl : n = k := by omega
      have ht : (timesL M V).take n = timesL M V := List.take_of_length_le (by rw [length_timesL, hl.out]; exact Nat.le_refl _)
      have HT := Lib.hid ht
      clear ht
      go_wp2
      go_ret
      exact ⟨_, rfl, by rw [← HT.out]; exact hR.out, hB.out⟩
end Go.Proofs.Ytpoaimcioeopdaa
