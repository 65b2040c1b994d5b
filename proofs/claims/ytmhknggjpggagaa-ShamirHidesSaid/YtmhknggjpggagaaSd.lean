/- The laws' Made: just so many bytes of any. -/
import Derived.Test.YtmhknggjpggagaaSw
import Derived.Test.YtmhknggjpggagaaBlk
import Derived.Laws.CopyOwn
namespace Go.Proofs.Ytmhknggjpggagaa
open Go.ChangeShapes Go.WideShapes Go.ChangeAt Go.RowKit Go.Shelf GF
set_option linter.unusedVariables false
set_option linter.unusedSimpArgs false
set_option maxRecDepth 100000

def padM (P : List GF) (n : Nat) : List GF := (List.range n).map (co P)
theorem padM_len (P : List GF) (n : Nat) : (padM P n).length = n := by simp [padM]
theorem padM_co {P : List GF} {n i : Nat} (h : i < n) : co (padM P n) i = co P i := by
  show List.getD _ _ _ = _
  unfold padM
  simp [List.getD_eq_getElem?_getD, h]
theorem padM_splice (P : List GF) (n : Nat) : splice (madeCells #[Value.int .u8 0] n).toList 0 (((iL P).take n).map (Value.int .u8)) = (iL (padM P n)).map (Value.int .u8) := by
  rw [splice_all, replicate_cells, ← List.map_drop, ← List.map_append]
  congr 1
  apply List.ext_getElem?
  intro j
  have e : (iL (padM P n))[j]? = if j < n then some (toI (co P j)) else none := by
    unfold iL padM
    by_cases h : j < n <;> simp [h]
  rw [e, List.length_map, List.length_take, length_iL]
  by_cases h1 : j < P.length
  · by_cases h2 : j < n
    · rw [List.getElem?_append_left (by simp [length_iL]; omega), List.getElem?_take, if_pos h2, if_pos h2, List.getElem?_eq_getElem (by rw [length_iL]; exact h1)]
      have := getD_iL P j
      rw [List.getD_eq_getElem?_getD, List.getElem?_eq_getElem (by rw [length_iL]; exact h1)] at this
      rw [← this]; rfl
    · rw [if_neg h2, List.getElem?_append_right (by simp [length_iL]; omega)]
      simp [length_iL]; omega
  · by_cases h2 : j < n
    · rw [if_pos h2, List.getElem?_append_right (by simp [length_iL]; omega), co_ge (by omega)]
      simp [length_iL, List.getElem?_drop, List.getElem?_replicate, show toI 0 = 0 from rfl]
      omega
    · rw [if_neg h2, List.getElem?_append_right (by simp [length_iL]; omega)]
      simp [length_iL]; omega
/-- A row's cells. -/
def gB (P : List GF) (j : Nat) : Value := .int .u8 (toI (co P j))
theorem Blk.pa {w : World} {g n : Nat} {T : TypeId} {P : List GF} (h : Blk w g T n (gB P)) (hl : P.length = n) (hn : n ≤ 1000000) : Pa w (some ⟨g, 0, none⟩) n n P :=
  ⟨⟨by rw [length_iL, hl], allB_iL _, fun h0 => ⟨g, 0, rfl, h.lt, fun i hi => by
    rw [length_iL, hl] at hi
    rw [Nat.zero_add, h.cell hi, getD_iL]; rfl⟩, Nat.le_refl _, by unfold maxLen; omega⟩, fun e => by cases e⟩
set_option maxHeartbeats 1000000 in
theorem made_blk (a : Option Addr) (L c : Nat) (P : List GF) (n : Nat) (w : World) (hp : Pa w a L c P) (hn : n ≤ 1000000) :
    Calls Try.prog 9 #[.slice a L c, .int .i64 (n : Nat)] w fun e w' => ∃ g, e = .returned (.slice (some ⟨g, 0, none⟩) n n) ∧ w.heap.size ≤ g ∧ Blk w' g 5 n (gB (padM P n)) ∧ Below w.heap.size w w' := by
  obtain ⟨i5, hi, hz0, hz1, hz2⟩ := info_parts info5
  have hmk : ∀ U : World, (Instr.makeSlice 22 (.int .i64 (n : Nat)) (.int .i64 (n : Nat))).run Try.prog U = .ok (.slice (some ⟨U.heap.size, 0, none⟩) n n) (U.alloc (.cells (madeCells #[.int .u8 0] n) 5)) := by
    intro U
    have := run_make (P := Try.prog) U 22 5 i5 _ Try.underlying22 hi hz0 .i64 .i64 (n : Int) (n : Int) (by omega) (by omega) (by rw [hz2]; omega) (by omega)
    rw [this, hz1]
    simp
    rfl
  have HL := Lib.hid hp.len
  have hsz : (madeCells #[Value.int .u8 0] n).toList.length = n := by rw [toList_madeCells_one]; simp
  have K1 := Lib.hid (show (w.alloc (.cells (madeCells #[.int .u8 0] n) 5)).heap[w.heap.size]? = some (.cells (madeCells #[.int .u8 0] n).toList.toArray 5 (0, 0)) by rw [Array.toArray_toList]; exact heap_alloc_new w _)
  have K2 := Lib.hid (show (((iL P).take n).map (Value.int .u8)).length = Nat.min L n by rw [List.length_map, List.length_take, length_iL, hp.len]; exact Nat.min_comm _ _)
  have K5 := Lib.hid (show Below w.heap.size w (w.alloc (.cells (madeCells #[.int .u8 0] n) 5)) from (Below.refl _ _).alloc (Nat.le_refl _) _)
  have K3 := Lib.hid (show 0 < (((iL P).take n).map (Value.int .u8)).length → some (⟨w.heap.size, 0, none⟩ : Addr) = some ⟨w.heap.size, 0, none⟩ ∧ ∃ ad, a = some ad ∧ ∀ j v, (((iL P).take n).map (Value.int .u8))[j]? = some v → (w.alloc (.cells (madeCells #[.int .u8 0] n) 5)).cell? (ad.add j) = some v from fun h0 => by
    refine ⟨rfl, ?_⟩
    have h1 : 0 < (iL P).length := by rw [List.length_map, List.length_take] at h0; omega
    obtain ⟨b, off, e, hb, hc⟩ := ((hp.on K5.out).1.2.2.1) h1
    refine ⟨_, e, fun j v hj => ?_⟩
    obtain ⟨hj1, rfl⟩ := getElem?_map_u8 hj
    have hj2 : j < (iL P).length := by rw [List.length_take] at hj1; omega
    have hjn : j < n := by rw [List.length_take] at hj1; omega
    rw [Addr.add_lit, hc j hj2]
    simp [List.getD_eq_getElem?_getD, List.getElem?_take, hjn])
  have K4 := Lib.hid (show 0 + (((iL P).take n).map (Value.int .u8)).length ≤ (madeCells #[Value.int .u8 0] n).toList.length by rw [hsz, List.length_map, List.length_take]; omega)
  have HP := Lib.hid hp
  have HSZ := Lib.hid hsz
  have HN := Lib.hid hn
  have qn : (n : Int) ≤ 1000000 := by omega
  obtain ⟨cs, hcs⟩ : ∃ cs, cs = ((iL P).take n).map (Value.int .u8) := ⟨_, rfl⟩
  have HSP := Lib.hid (padM_splice P n)
  have H1 := Lib.hid (show ∀ v ∈ cs, v.oneCell' = true by rw [hcs]; exact ints_oneCell _ _)
  rw [← hcs] at K2 K3 K4 HSP
  clear hp hi hz0 hz1 hz2 hcs hsz hn
  go_enter Try.func9, Try.ntmps9
  go_wp2_with ((with_reducible show wpList _ _ _ (⟨some 10, _, _, _, _, _⟩ :: _) _ _); go_loud (refine wpList_copy_splice (o := ⟨some 10, _, _, _, _, _⟩) rfl (.tmp 8) (.tmp 9) 22 22 rfl 5 Try.underlying22 size_u8 (some ⟨w.heap.size, 0, none⟩) a n n L c rfl rfl w.heap.size 0 (madeCells #[.int .u8 0] n).toList 5 K1.out cs K2.out K3.out K4.out H1.out w.heap.size w K5.out (Nat.le_refl _) ?_; intro w1 hg1 hb1))
  go_ret
  refine ⟨w.heap.size, rfl, Nat.le_refl _, ?_, hb1⟩
  have hg2 : w1.heap[w.heap.size]? = some (.cells ((iL (padM P n)).map (Value.int .u8)).toArray 5 (0, 0)) := by rw [← HSP.out]; exact hg1.out
  unfold Blk
  rw [hg2]
  congr 2
  apply Array.ext_getElem?
  intro j
  rw [List.getElem?_toArray, List.getElem?_map]
  by_cases hj : j < n
  · rw [get_tabV hj]
    have := getD_iL (padM P n) j
    rw [List.getD_eq_getElem?_getD, List.getElem?_eq_getElem (by rw [length_iL, padM_len]; exact hj)] at this
    rw [List.getElem?_eq_getElem (by rw [length_iL, padM_len]; exact hj)]
    simp only [Option.map_some, gB]
    rw [← this]; rfl
  · rw [Array.getElem?_eq_none (by rw [size_tabV]; omega), List.getElem?_eq_none (by rw [length_iL, padM_len]; omega)]
    rfl
theorem made_any (a : Option Addr) (L c : Nat) (P : List GF) (n : Nat) (w : World) (hp : Pa w a L c P) (hn : n ≤ 1000000) :
    Calls Try.prog 9 #[.slice a L c, .int .i64 (n : Nat)] w fun e w' => ∃ g, e = .returned (.slice (some ⟨g, 0, none⟩) n n) ∧ Pa w' (some ⟨g, 0, none⟩) n n (padM P n) ∧ Below w.heap.size w w' := by
  refine (made_blk a L c P n w hp hn).mono ?_
  rintro e w' ⟨g, h1, _, h2, h3⟩
  exact ⟨g, h1, h2.pa (padM_len P n) hn, h3⟩
end Go.Proofs.Ytmhknggjpggagaa
