/- Contracts of package medium as it landed: the power; New, Up, Len, has, Fail, Back; what a medium that isn't there tells. -/
import Derived.Test.YtkfdcdfaikkneaaGreatDoorOa
namespace Go.Proofs.YtkfdcdfaikkneaaGreatDoor
open Go.ChangeShapes Go.WideShapes Go.ChangeAt Go.RowKit Go.Shelf
set_option linter.unusedVariables false
set_option linter.unusedSimpArgs false
set_option maxRecDepth 100000
attribute [local go_sem] Oper.semAt_some

theorem retB {a b : Bool} (h : a = b) : Ending.returned (.bool a) = .returned (.bool b) := by rw [h]
set_option maxHeartbeats 1000000 in
theorem powOn_any (pp : Option Nat) (F : Nat → Prop) (l : Int) (u : Nat) (w : World) (hp : PO MedP w pp F l u) :
    Calls Tryz.prog 52 #[ppV pp] w fun e w' => e = .returned (.bool (l != 0)) ∧ w = w' := by
  rcases pp with _ | pb
  · have HL := Lib.hid hp.2.1
    clear hp
    show Calls Tryz.prog 52 #[.pointer none] w _
    go_enter Tryz.func52, Tryz.ntmps52
    go_wp2
    go_ret
    exact ⟨by rw [HL.out]; rfl, rfl⟩
  · obtain ⟨⟨x, hP, hl, hx⟩, _⟩ : MedP w pb F l u := hp
    have HE := Lib.hid (show (x != 0) = (l != 0) by rw [Bool.eq_iff_iff, bne_iff_ne, bne_iff_ne]; omega)
    have hc0 := hP.c0
    clear hl hx hP
    show Calls Tryz.prog 52 #[.pointer (some ⟨pb, 0, none⟩)] w _
    go_enter Tryz.func52, Tryz.ntmps52
    go_wp2
    go_ret
    exact ⟨retB HE.out, rfl⟩
set_option maxHeartbeats 2000000 in
theorem powLet_any (pp : Option Nat) (F : Nat → Prop) (l : Int) (u : Nat) (w : World) (hp : PO MedP w pp F l u) (hu : u ≤ 1000) :
    Calls Tryz.prog 68 #[ppV pp] w fun e w' => e = .returned (.bool (l != 0)) ∧ (l = 0 → w' = w) ∧ (l ≠ 0 → PO MedP w' pp F (spendL l) (usedN pp.isSome u)) ∧ KB F w w' := by
  rcases pp with _ | pb
  · have HO := Lib.hid (show Calls Tryz.prog 52 #[.pointer none] w (fun e w' => e = .returned (.bool (l != 0)) ∧ w = w') from powOn_any none F l u w hp)
    have HP := Lib.hid hp
    have HL := Lib.hid hp.2.1
    have HN := Lib.hid (show (l != 0) = true by rw [hp.2.1]; rfl)
    have HO := Lib.hid (HO.out.mono fun e w' h => (show e = .returned (.bool true) ∧ w = w' from ⟨h.1.trans (retB HN.out), h.2⟩))
    clear hp
    show Calls Tryz.prog 68 #[.pointer none] w _
    go_enter Tryz.func68, Tryz.ntmps68
    go_wp2_with (go_at_call 52; go_loud (refine HO.out.mono ?_; rintro e w1 ⟨rfl, rfl⟩))
    go_ret
    refine ⟨retB HN.out.symm, fun h => rfl, fun _ => ?_, KB.refl _ _⟩
    have e1 : spendL l = l := by rw [HL.out]; rfl
    rw [e1]; exact HP.out
  · have HO := Lib.hid (show Calls Tryz.prog 52 #[.pointer (some ⟨pb, 0, none⟩)] w (fun e w' => e = .returned (.bool (l != 0)) ∧ w = w') from powOn_any (some pb) F l u w hp)
    obtain ⟨⟨x, hP, hl, hx⟩, hF⟩ : MedP w pb F l u := hp
    have HF := Lib.hid hF
    have hc0 := hP.c0
    have hc1 := hP.c1
    have hf0 := hP.free 0
    have hf1 := hP.free 1
    have HP := Lib.hid hP
    have HX := Lib.hid hx
    clear hF hP
    by_cases h0 : x = 0
    · have hl0 : l = 0 := by omega
      have HN := Lib.hid (show (l != 0) = false by rw [hl0]; rfl)
      have HO := Lib.hid (HO.out.mono fun e w' h => (show e = .returned (.bool false) ∧ w = w' from ⟨h.1.trans (retB HN.out), h.2⟩))
      have HL0 := Lib.hid hl0
      clear hl0
      clear hl hx
      show Calls Tryz.prog 68 #[.pointer (some ⟨pb, 0, none⟩)] w _
      go_enter Tryz.func68, Tryz.ntmps68
      go_wp2_with (go_at_call 52; go_loud (refine HO.out.mono ?_; rintro e w1 ⟨rfl, rfl⟩))
      go_ret
      exact ⟨retB HN.out.symm, fun _ => rfl, fun h => absurd HL0.out h, KB.refl _ _⟩
    · have HN2 := Lib.hid (show (l != 0) = true by rw [bne_iff_ne]; omega)
      have HO := Lib.hid (HO.out.mono fun e w' h => (show e = .returned (.bool true) ∧ w = w' from ⟨h.1.trans (retB HN2.out), h.2⟩))
      have HL0 := Lib.hid (show l ≠ 0 by omega)
      by_cases h1 : 0 < x
      · have HE := Lib.hid (show spendL l = max (x - 1) (-1) by unfold spendL; split <;> omega)
        have q1 : -9223372036854775808 ≤ x - 1 := by omega
        have q2 : x - 1 ≤ 9223372036854775807 := by unfold i64R at hx; omega
        clear hl hx
        show Calls Tryz.prog 68 #[.pointer (some ⟨pb, 0, none⟩)] w _
        go_enter Tryz.func68, Tryz.ntmps68
        go_wp2_with (go_at_call 52; go_loud (refine HO.out.mono ?_; rintro e w1 ⟨rfl, rfl⟩))
        go_ret
        refine ⟨retB HN2.out.symm, fun h => absurd h HL0.out, fun _ => ?_, ?_⟩
        · refine ⟨⟨x - 1, ?_, HE.out, ⟨q1, q2⟩⟩, HF.out⟩
          exact (HP.out.set0 (x - 1)).set1 (u + 1)
        · exact ((KB.of_set w pb 0 _).trans (KB.of_set _ pb 1 _)).monoF (fun j e => (HF.out j).2 e)
      · have HE := Lib.hid (show spendL l = max x (-1) by unfold spendL; split <;> omega)
        have h1' : ¬ (0 : Int) < x := h1
        clear hl hx
        show Calls Tryz.prog 68 #[.pointer (some ⟨pb, 0, none⟩)] w _
        go_enter Tryz.func68, Tryz.ntmps68
        go_wp2_with (go_at_call 52; go_loud (refine HO.out.mono ?_; rintro e w1 ⟨rfl, rfl⟩))
        go_ret
        refine ⟨retB HN2.out.symm, fun h => absurd h HL0.out, fun _ => ?_, ?_⟩
        · exact ⟨⟨x, HP.out.set1 (u + 1), HE.out, HX.out⟩, HF.out⟩
        · exact (KB.of_set w pb 1 _).monoF (fun j e => (HF.out j).2 e)

/-! ## New, Up, Len, has, Fail, Back -/
theorem medR_empty {w : World} {tb : Nat} {S : MS} {pp : Option Nat} {sb sc : Nat} (hc : S.cache = []) (md : Md w tb (.slice (some ⟨sb, 0, none⟩) S.size sc) (.slice none 0 0) S.down (ppV pp)) (sec : SecR w sb S.size sc S.med) : MedR w tb (MedF tb sb (.slice none 0 0) []) S pp :=
  ⟨sb, sc, none, 0, [], ⟨by rw [hc]; rfl, md, sec, World.ownsRow_nil _ _ _ _, fun z hz => by cases hz⟩, fun k => Iff.rfl⟩
theorem medF_empty {tb sb k : Nat} (h : MedF tb sb (.slice none 0 0) [] k) : k = tb ∨ k = sb := by
  rcases h with h | h | h | ⟨z, hz, _⟩
  · exact .inl h
  · exact .inr h
  · cases h
  · cases hz
set_option maxHeartbeats 2000000 in
theorem newMed_any (n : Nat) (pp : Option Nat) (w : World) (h1 : 1 ≤ n) (h2 : n ≤ 2048) :
    Calls Tryz.prog 22 #[.int .i64 (n : Nat), ppV pp] w fun e w' => ∃ tb F, e = .returned (.tuple #[tbV tb, .int .i64 0]) ∧ MedR w' tb F (MS.new n) pp ∧ (∀ k, F k → w.heap.size ≤ k) ∧ Below w.heap.size w w' := by
  obtain ⟨M, hM⟩ : ∃ M, M = madeCells secZ (n * 513) := ⟨_, rfl⟩
  obtain ⟨iS, hi, hz⟩ := Option.map_eq_some_iff.1 infoSec
  simp only [Prod.mk.injEq] at hz
  have hmk : ∀ W : World, (Instr.makeSlice 98 (.int .i64 (n : Nat)) (.int .i64 (n : Nat))).run Tryz.prog W = .ok (.slice (some ⟨W.heap.size, 0, none⟩) n n) (W.alloc (.cells M 148)) := fun W => by
    have h := run_make (P := Tryz.prog) W 98 148 iS (.agg secZ) Tryz.underlying98 hi hz.1 .i64 .i64 (n : Nat) (n : Nat) (by omega) (Int.le_refl _) (by rw [hz.2.2]; omega) (by omega)
    rw [h, hM, hz.2.1]
    rfl
  have HM := Lib.hid hM
  obtain ⟨pv, hpv⟩ : ∃ pv, pv = pp.map fun b => (⟨b, 0, none⟩ : Addr) := ⟨_, rfl⟩
  have HPV := Lib.hid hpv
  unfold ppV
  rw [← hpv]
  have q1 : ¬ (n : Int) < 1 := by omega
  have q2 : ¬ (2048 : Int) < (n : Int) := by omega
  clear hi hz hM hpv
  go_enter Tryz.func22, Tryz.ntmps22
  go_wp2
  go_ret2
  have hb1 : Below w.heap.size w (w.alloc (.cells M 148)) := (Below.refl _ _).alloc (Nat.le_refl _) _
  have hb2 := hb1.alloc (o := .cells #[.slice (some ⟨w.heap.size, 0, none⟩) n n, .slice none 0 0, .bool false, .pointer pv] 101) (by simp)
  refine ⟨w.heap.size + 1, rfl, MedF (w.heap.size + 1) w.heap.size (.slice none 0 0) [], medR_empty (S := MS.new n) (sc := n) rfl ?_ ?_, fun k hk => ?_, hb2⟩
  · have h := heap_alloc_new (w.alloc (.cells M 148)) (.cells #[.slice (some ⟨w.heap.size, 0, none⟩) n n, .slice none 0 0, .bool false, .pointer pv] 101)
    rw [size_alloc1] at h
    unfold Md ppV
    rw [← HPV.out]
    exact h
  · have h := heap_alloc_new w (.cells M 148)
    refine ⟨Nat.le_refl _, by show n ≤ maxLen; unfold maxLen; omega, M, ?_, by rw [HM.out, size_madeCells], fun j hj => by rw [HM.out]; exact made_sec hj⟩
    rw [← h]
    exact heap_alloc_old _ _ (by simp)
  · rcases medF_empty hk with h | h <;> omega
set_option maxHeartbeats 1000000 in
theorem newMed_bad (n : Int) (pp : Option Nat) (w : World) (hn : i64R n) (h : ¬ (1 ≤ n ∧ n ≤ 2048)) :
    Calls Tryz.prog 22 #[.int .i64 n, ppV pp] w fun e w' => ∃ a, e = .returned (.tuple #[.pointer a, .int .i64 2]) ∧ Below w.heap.size w w' := by
  clear hn
  obtain ⟨pv, hpv⟩ : ∃ pv, pv = pp.map fun b => (⟨b, 0, none⟩ : Addr) := ⟨_, rfl⟩
  unfold ppV
  rw [← hpv]
  clear hpv
  by_cases h1 : n < 1
  · clear h
    go_enter Tryz.func22, Tryz.ntmps22
    go_wp2
    go_ret2
    exact ⟨_, rfl, Below.refl _ _⟩
  · have h2 : 2048 < n := by omega
    clear h
    go_enter Tryz.func22, Tryz.ntmps22
    go_wp2
    go_ret2
    exact ⟨⟨_, rfl⟩, Below.refl _ _⟩
set_option maxHeartbeats 1000000 in
theorem medLen_any (tb : Nat) (F : Nat → Prop) (S : MS) (pp : Option Nat) (w : World) (hR : MedR w tb F S pp) (hS : S.Ok) :
    Calls Tryz.prog 59 #[tbV tb] w fun e w' => e = .returned (.int .i64 (S.size : Nat)) ∧ Below w.heap.size w w' := by
  obtain ⟨sb, sc, ca, cc, Z, h, hF⟩ := hR
  have hc0 := h.md.c0
  have hl := hS.size2
  obtain ⟨D, hD⟩ : ∃ D, D = S.size := ⟨_, rfl⟩
  rw [← hD] at hc0 hl ⊢
  clear h hF hD hS
  go_enter Tryz.func59, Tryz.ntmps59
  go_wp2
  go_ret
  exact ⟨rfl, Below.refl _ _⟩
set_option maxHeartbeats 1000000 in
theorem medHas_yes (tb sb n sc : Nat) (i : Int) (w : World) (hc : w.cell? ⟨tb, 0, none⟩ = some (.slice (some ⟨sb, 0, none⟩) n sc)) (h0 : 0 ≤ i) (h1 : i < (n : Int)) :
    Calls Tryz.prog 53 #[tbV tb, .int .i64 i] w fun e w' => e = .returned (.bool true) ∧ w = w' := by
  go_enter Tryz.func53, Tryz.ntmps53
  go_wp2
  go_ret
  exact ⟨rfl, rfl⟩
set_option maxHeartbeats 1000000 in
theorem medHas_no (tb sb n sc : Nat) (i : Int) (w : World) (hc : w.cell? ⟨tb, 0, none⟩ = some (.slice (some ⟨sb, 0, none⟩) n sc)) (h : ¬ (0 ≤ i ∧ i < (n : Int))) :
    Calls Tryz.prog 53 #[tbV tb, .int .i64 i] w fun e w' => e = .returned (.bool false) ∧ w = w' := by
  by_cases h0 : 0 ≤ i
  · have h1 : ¬ i < (n : Int) := fun h1 => h ⟨h0, h1⟩
    clear h
    go_enter Tryz.func53, Tryz.ntmps53
    go_wp2
    go_ret
    exact ⟨rfl, rfl⟩
  · clear h
    go_enter Tryz.func53, Tryz.ntmps53
    go_wp2
    go_ret
    exact ⟨rfl, rfl⟩
/-! ## nil -/
theorem writeNil_any (i : Int) (w : World) : Calls Tryz.prog 36 #[.pointer none, .int .i64 i, .slice none 0 0] w fun e w' => e = .returned (.int .i64 1) ∧ Below w.heap.size w w' := by
  go_enter Tryz.func36, Tryz.ntmps36
  go_wp2
  go_ret
  exact ⟨rfl, Below.refl _ _⟩
theorem readNil_any (i : Int) (w : World) : Calls Tryz.prog 26 #[.pointer none, .int .i64 i] w fun e w' => ∃ a n c, e = .returned (.tuple #[.slice a n c, .int .i64 1]) ∧ Below w.heap.size w w' := by
  go_enter Tryz.func26, Tryz.ntmps26
  go_wp2
  go_ret2
  exact ⟨_, _, _, rfl, Below.refl _ _⟩
theorem flushNil_any (w : World) : Calls Tryz.prog 74 #[.pointer none] w fun e w' => e = .returned (.int .i64 1) ∧ Below w.heap.size w w' := by
  go_enter Tryz.func74, Tryz.ntmps74
  go_wp2
  go_ret
  exact ⟨rfl, Below.refl _ _⟩
theorem lenNil_any (w : World) : Calls Tryz.prog 59 #[.pointer none] w fun e w' => e = .returned (.int .i64 0) ∧ Below w.heap.size w w' := by
  go_enter Tryz.func59, Tryz.ntmps59
  go_wp2
  go_ret
  exact ⟨rfl, Below.refl _ _⟩
end Go.Proofs.YtkfdcdfaikkneaaGreatDoor
