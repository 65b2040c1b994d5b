/- Contract of field.New. -/
import Derived.Test.YtmhknggjpggagaaFtab
import Derived.BigRegion
import Derived.ChangeAlike
namespace Go.Proofs.Ytmhknggjpggagaa
open Go.ChangeShapes Go.WideShapes Go.ChangeAt Go.RowKit
set_option linter.unusedVariables false
set_option maxRecDepth 100000

theorem info44 : (Try.prog.info? 56).map (fun i => (i.zero, i.size)) = some (some (.agg (Array.replicate 766 (.int .u8 0))), 766) := by kernel_rfl
theorem zero44 (w : World) : (zeroValue 56).run Try.prog w = .ok (.agg (Array.replicate 766 (.int .u8 0))) w := by
  have h := info44
  cases hq : Try.prog.info? 56 with
  | none => simp [hq] at h
  | some i =>
    simp only [hq, Option.map_some, Option.some.injEq, Prod.mk.injEq] at h
    simp [zeroValue, typeInfo, hq, h.1]

/-- What stands in the tables' cells behind k rounds. -/
def cv (k j : Nat) : Nat :=
  if j < 255 then (if j < k then pw j else 0) else if j < 510 then (if j - 255 < k then pw j else 0) else if j - 510 ≠ 0 ∧ lg (j - 510) < k then lg (j - 510) else 0
theorem cv_zero (j : Nat) : cv 0 j = 0 := by
  unfold cv
  by_cases h1 : j < 255
  · simp [h1]
  · by_cases h2 : j < 510 <;> simp [h1, h2]
theorem cv_all {j : Nat} : (j < 510 → cv 255 j = pw j) ∧ (j < 256 → cv 255 (510 + j) = lg j) := by
  constructor
  · intro h
    unfold cv
    by_cases h1 : j < 255
    · simp [h1]
    · simp [h1, h, show j - 255 < 255 by omega]
  · intro h
    unfold cv
    rw [if_neg (by omega), if_neg (by omega), show 510 + j - 510 = j by omega]
    by_cases h0 : j = 0
    · subst h0; rw [if_neg (by simp)]; exact lg_zero.symm
    · rw [if_pos ⟨h0, (pw_lg h h0).2⟩]
theorem cv_next {k j : Nat} (hk : k < 255) (hj : j < 766) : cv (k + 1) j = if j = 510 + pw k then k else if j = k + 255 then pw k else if j = k then pw k else cv k j := by
  have hp := pw_lt k
  by_cases h1 : j < 255
  · rw [if_neg (show ¬ j = 510 + pw k by omega), if_neg (by omega)]
    unfold cv
    rw [if_pos h1, if_pos h1]
    by_cases e : j = k
    · rw [if_pos (by omega), if_pos e, e]
    · rw [if_neg e]
      by_cases h : j < k
      · rw [if_pos (by omega), if_pos h]
      · rw [if_neg (by omega), if_neg h]
  · by_cases h2 : j < 510
    · rw [if_neg (show ¬ j = 510 + pw k by omega)]
      unfold cv
      rw [if_neg h1, if_pos h2, if_neg h1, if_pos h2]
      by_cases e : j = k + 255
      · rw [if_pos (by omega), if_pos e, e, pw_add255]
      · rw [if_neg e, if_neg (show ¬ j = k by omega)]
        by_cases h : j - 255 < k
        · rw [if_pos (by omega), if_pos h]
        · rw [if_neg (by omega), if_neg h]
    · rw [if_neg (show ¬ j = k + 255 by omega), if_neg (show ¬ j = k by omega)]
      obtain ⟨a, rfl⟩ : ∃ a, j = 510 + a := ⟨j - 510, by omega⟩
      unfold cv
      rw [if_neg h1, if_neg h2, if_neg h1, if_neg h2, show 510 + a - 510 = a by omega]
      by_cases e : 510 + a = 510 + pw k
      · have e' : a = pw k := by omega
        rw [if_pos e, e', if_pos ⟨pw_ne k, by rw [lg_pw]; omega⟩, lg_pw, Nat.mod_eq_of_lt hk]
      · rw [if_neg e]
        by_cases h0 : a = 0
        · rw [if_neg (fun h => h.1 h0), if_neg (fun h => h.1 h0)]
        · have hl : lg a ≠ k := fun h => e (by rw [← h, (pw_lg (by omega) h0).1])
          by_cases h : lg a < k
          · rw [if_pos ⟨h0, by omega⟩, if_pos ⟨h0, h⟩]
          · rw [if_neg (fun h' => h (by omega)), if_neg (fun h' => h h'.2)]
/-- Block b holds what k rounds laid. -/
def Fil (w : World) (b k : Nat) : Prop :=
  b < w.heap.size ∧ (∀ j, j < 766 → w.cell? ⟨b, j, none⟩ = some (.int .u8 ((cv k j : Nat) : Int))) ∧ ∀ j, w.frozen? ⟨b, j, none⟩ = false
theorem Fil.fld {w : World} {b : Nat} (h : Fil w b 255) : Fld w b :=
  ⟨h.1, fun j hj => by rw [h.2.1 j (by omega), cv_all.1 hj], fun j hj => by rw [h.2.1 (510 + j) (by omega), cv_all.2 hj]⟩
theorem Fil.made (w : World) (t : TypeId) : Fil (w.alloc (.cells (Array.replicate 766 (.int .u8 0)) t)) w.heap.size 0 :=
  ⟨by simp, fun j hj => by rw [World.cell?_alloc_new, cv_zero]; simp [hj], fun j => by unfold World.frozen?; simp only; rw [heap_alloc_new]; simp⟩

theorem cells_set {w : World} {b : Nat} {f : Nat → Nat} (h : ∀ j, j < 766 → w.cell? ⟨b, j, none⟩ = some (.int .u8 ((f j : Nat) : Int))) {i : Nat} (v : Nat) (hi : i < 766) :
    ∀ j, j < 766 → (w.setCell ⟨b, i, none⟩ (.int .u8 ((v : Nat) : Int))).cell? ⟨b, j, none⟩ = some (.int .u8 ((if j = i then v else f j : Nat) : Int)) := by
  intro j hj
  by_cases e : j = i
  · rw [if_pos e, e]; exact World.cell?_setCell_same _ _ _ (h i hi)
  · rw [if_neg e, World.cell?_setCell_other _ _ _ _ (by intro h; injection h with _ h2; exact e h2.symm)]; exact h j hj
/-- .. and in the midst of one. -/
def Mid (w : World) (b k : Nat) : Prop :=
  b < w.heap.size ∧ (∀ j, j < 766 → w.cell? ⟨b, j, none⟩ = some (.int .u8 ((if j = k + 255 then pw k else if j = k then pw k else cv k j : Nat) : Int))) ∧ ∀ j, w.frozen? ⟨b, j, none⟩ = false
theorem Fil.mid {w : World} {b k : Nat} (h : Fil w b k) (hk : k < 255) :
    Mid (((w.setCell ⟨b, k, none⟩ (.int .u8 ((pw k : Nat) : Int))).setCell ⟨b, k + 255, none⟩ (.int .u8 ((pw k : Nat) : Int))).drew) b k := by
  refine ⟨by simpa using h.1, fun j hj => ?_, fun j => by simpa using h.2.2 j⟩
  exact cells_set (cells_set h.2.1 (pw k) (by omega)) (pw k) (by omega) j hj
theorem Mid.fil {w : World} {b k : Nat} (h : Mid w b k) (hk : k < 255) : Fil (w.setCell ⟨b, 510 + pw k, none⟩ (.int .u8 ((k : Nat) : Int))) b (k + 1) := by
  have hp := pw_lt k
  refine ⟨by simpa using h.1, fun j hj => ?_, fun j => by simpa using h.2.2 j⟩
  rw [cv_next hk hj]
  exact cells_set h.2.1 k (by omega) j hj

theorem new_any (w : World) : Calls Try.prog 11 #[] w fun e w' => ∃ b, e = .returned (.pointer (some ⟨b, 0, none⟩)) ∧ w.heap.size ≤ b ∧ Fld w' b ∧ Below w.heap.size w w' := by
  have hz := zero44 w
  have H0 := Lib.hid (Fil.made w 56)
  obtain ⟨c0, hc0⟩ : ∃ c0 : Array Value, c0 = Array.replicate 766 (.int .u8 0) := ⟨_, rfl⟩
  rw [← hc0] at hz H0
  clear hc0
  go_enter Try.func11, Try.ntmps11
  go_wp2
  go_loopw [2, 6] (fun x i wr => ∃ k : Nat, k ≤ 255 ∧ i = .int .i64 (k : Nat) ∧ x = .int .u8 ((pw k : Nat) : Int) ∧ Fil wr w.heap.size k ∧ Below w.heap.size w wr) (fun _ i _ => 255 - (intOf i).toNat)
  case atStart => exact ⟨0, by omega, rfl, by rw [pw_zero]; rfl, H0.out, (Below.refl _ _).alloc (Nat.le_refl _) _⟩
  case round =>
    obtain ⟨k, hk, rfl, rfl, hF, hB⟩ := hrel
    clear hz
    by_cases hlt : k < 255
    · have hc1 := hF.2.1 k (by omega)
      have hc2 := hF.2.1 (k + 255) (by omega)
      have hf1 := hF.2.2 k
      have hf2 := hF.2.2 (k + 255)
      have HF := Lib.hid hF
      have HB := Lib.hid hB
      clear hF hB
      have hP := pw_lt k
      have q1 : (k : Int) < 510 := by omega
      have q2 : (k : Int) + 255 < 510 := by omega
      have q3 : (k : Int) < 255 := by omega
      have q4 : ((k : Int) + 255).toNat = k + 255 := by omega
      have q5 : IntKind.i64.wrap ((k : Int) + 255) = (k : Int) + 255 := by rw [IntKind.wrap_i64]; omega
      have q6 : 0 ≤ (k : Int) + 255 := by omega
      go_wp2_with fail
      go_region
      obtain ⟨W, hW⟩ : ∃ W, W = (((wr.setCell ⟨w.heap.size, k, none⟩ (.int .u8 ((pw k : Nat) : Int))).setCell ⟨w.heap.size, k + 255, none⟩ (.int .u8 ((pw k : Nat) : Int))).drew) := ⟨_, rfl⟩
      have hM := HF.out.mid hlt
      have hB := ((HB.out.setCell (p := ⟨w.heap.size, k, none⟩) (Nat.le_refl _) (.int .u8 ((pw k : Nat) : Int))).setCell (p := ⟨w.heap.size, k + 255, none⟩) (Nat.le_refl _) (.int .u8 ((pw k : Nat) : Int))).drew
      rw [← hW] at hM hB ⊢
      clear hW hc1 hc2 hf1 hf2 HF HB q1 q2 q4 q5 q6
      have hc1 := hM.2.1 (510 + pw k) (by omega)
      have hf1 := hM.2.2 (510 + pw k)
      have HS := Lib.hid (hM.fil hlt)
      have HB := Lib.hid (hB.setCell (p := ⟨w.heap.size, 510 + pw k, none⟩) (Nat.le_refl _) (.int .u8 ((k : Nat) : Int)))
      clear hM hB
      have q1 : ((pw k : Nat) : Int) < 256 := by omega
      have q2 : (k : Int) % 256 = (k : Int) := by omega
      have HP := Lib.hid (show gm (pw k) 3 = pw (k + 1) by rw [← slow_gm hP (by decide)]; exact slow_pw3 k)
      go_wp2_with (go_at_call 26; refine (slow_N _ 3 hP (by decide) _).mono ?_; rintro e w' ⟨rfl, rfl⟩)
      go_roundw
      case rel => exact ⟨k + 1, by omega, by go_num, by rw [HP.out], HS.out, HB.out⟩
      case measure => simp [intOf]; omega
    · obtain rfl : k = 255 := by omega
      have HF := Lib.hid hF.fld
      have HB := Lib.hid hB
      clear hF hB
      go_wp2
      go_ret
      exact ⟨w.heap.size, rfl, Nat.le_refl _, HF.out, HB.out⟩
end Go.Proofs.Ytmhknggjpggagaa
