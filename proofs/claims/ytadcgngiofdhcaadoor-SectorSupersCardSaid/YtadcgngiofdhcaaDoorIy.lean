/- Package sector: ParseSuper. -/
import Derived.Test.YtadcgngiofdhcaaDoorIx
import Derived.Test.YtadcgngiofdhcaaDoorIn
import Derived.Laws.Cover3
import Derived.Great.BuildSlice
import Derived.Deep.MidRow
namespace Go.Proofs.YtadcgngiofdhcaaDoor
open Go.ChangeShapes Go.WideShapes Go.ChangeAt Go.RowKit Go.Shelf
set_option linter.unusedVariables false
set_option linter.unusedSimpArgs false
set_option maxRecDepth 100000
attribute [local go_sem] Oper.semAt_some

/-! ## the super's cells, one set anew -/
theorem suV_p (P : SU) (x : Int) {i : Nat} (hi : i < 276) : (if i = 8 then Value.int .u8 x else suV P i) = suV { P with p := x } i := by
  by_cases h : i = 8
  · subst h; rfl
  · rw [if_neg h]; unfold suV; simp only [h, if_false]
theorem suV_n (P : SU) (x : Int) {i : Nat} (hi : i < 276) : (if i = 9 then Value.int .u8 x else suV P i) = suV { P with n := x } i := by
  by_cases h : i = 9
  · subst h; rfl
  · rw [if_neg h]; unfold suV; simp only [h, if_false]
theorem suV_t (P : SU) (x : Int) {i : Nat} (hi : i < 276) : (if i = 10 then Value.int .u8 x else suV P i) = suV { P with t := x } i := by
  by_cases h : i = 10
  · subst h; rfl
  · rw [if_neg h]; unfold suV; simp only [h, if_false]
theorem suV_m (P : SU) (x : Int) {i : Nat} (hi : i < 276) : (if i = 11 then Value.int .u8 x else suV P i) = suV { P with m := x } i := by
  by_cases h : i = 11
  · subst h; rfl
  · rw [if_neg h]; unfold suV; simp only [h, if_false]
theorem suV_c (P : SU) (x : Int) {i : Nat} (hi : i < 276) : (if i = 12 then Value.int .u8 x else suV P i) = suV { P with c := x } i := by
  by_cases h : i = 12
  · subst h; rfl
  · rw [if_neg h]; unfold suV; simp only [h, if_false]
theorem suV_bl (P : SU) (x : Int) {i : Nat} (hi : i < 276) : (if i = 13 then Value.int .u32 x else suV P i) = suV { P with bl := x } i := by
  by_cases h : i = 13
  · subst h; rfl
  · rw [if_neg h]; unfold suV; simp only [h, if_false]
theorem suV_bo (P : SU) (x : Int) {i : Nat} (hi : i < 276) : (if i = 14 then Value.int .u32 x else suV P i) = suV { P with bo := x } i := by
  by_cases h : i = 14
  · subst h; rfl
  · rw [if_neg h]; unfold suV; simp only [h, if_false]
theorem suV_ep (P : SU) (x : Int) {i : Nat} (hi : i < 276) : (if i = 15 then Value.int .u32 x else suV P i) = suV { P with ep := x } i := by
  by_cases h : i = 15
  · subst h; rfl
  · rw [if_neg h]; unfold suV; simp only [h, if_false]
theorem suV_rf (P : SU) (x : Int) {i : Nat} (hi : i < 276) : (if i = 272 then Value.int .u32 x else suV P i) = suV { P with rf := x } i := by
  by_cases h : i = 272
  · subst h; rfl
  · rw [if_neg h]; unfold suV; simp only [h, if_false]
theorem suV_sc (P : SU) (x : Int) {i : Nat} (hi : i < 276) : (if i = 273 then Value.int .u32 x else suV P i) = suV { P with sc := x } i := by
  by_cases h : i = 273
  · subst h; rfl
  · rw [if_neg h]; unfold suV; simp only [h, if_false]
theorem suV_tg (P : SU) (x : Int) {i : Nat} (hi : i < 276) : (if i = 274 then Value.int .u8 x else suV P i) = suV { P with tg := x } i := by
  by_cases h : i = 274
  · subst h; rfl
  · rw [if_neg h]; unfold suV; simp only [h, if_false]
theorem suV_rs (P : SU) (x : Int) {i : Nat} (hi : i < 276) : (if i = 275 then Value.int .u32 x else suV P i) = suV { P with rs := x } i := by
  by_cases h : i = 275
  · subst h; rfl
  · rw [if_neg h]; unfold suV; simp only [show i < 272 ∨ i = 272 ∨ i = 273 ∨ i = 274 from by omega]; rcases (show i < 272 ∨ i = 272 ∨ i = 273 ∨ i = 274 from by omega) with h1 | h1 | h1 | h1 <;> simp [h1]
theorem suV_inn (P : SU) (l : List Bool) (hl : l.length = 256) {i : Nat} (hi : i < 276) : (if 16 ≤ i ∧ i < 16 + (l.map Value.bool).length then (l.map Value.bool).getD (i - 16) (.bool false) else suV P i) = suV { P with inn := l } i := by
  rw [List.length_map, hl]
  by_cases h : 16 ≤ i ∧ i < 16 + 256
  · rw [if_pos h]
    have := suV_in { P with inn := l } (j := i - 16) (by omega)
    rw [show 16 + (i - 16) = i by omega] at this
    rw [this]
    show (l.map Value.bool).getD (i - 16) (.bool false) = .bool (l.getD (i - 16) false)
    rw [List.getD_eq_getElem?_getD, List.getElem?_map, List.getElem?_eq_getElem (by omega), List.getD_eq_getElem?_getD, List.getElem?_eq_getElem (by omega)]
    rfl
  · rw [if_neg h]
    have e : ∀ x y : Value, (if i < 272 then x else y) = if i < 16 then x else y := fun x y => by
      by_cases h1 : i < 16
      · rw [if_pos (by omega), if_pos h1]
      · rw [if_neg (by omega), if_neg h1]
    unfold suV
    by_cases h1 : i < 16
    · rcases (show i < 8 ∨ i = 8 ∨ i = 9 ∨ i = 10 ∨ i = 11 ∨ i = 12 ∨ i = 13 ∨ i = 14 ∨ i = 15 by omega) with h2 | h2 | h2 | h2 | h2 | h2 | h2 | h2 | h2
      · rw [if_pos h2, if_pos h2]
      all_goals (subst h2; rfl)
    · rw [if_neg (by omega), if_neg (by omega), if_neg (by omega), if_neg (by omega), if_neg (by omega), if_neg (by omega), if_neg (by omega), if_neg (by omega), if_neg (by omega), if_neg (by omega)]
      rw [if_neg (show ¬ i < 8 by omega), if_neg (show ¬ i = 8 by omega), if_neg (show ¬ i = 9 by omega), if_neg (show ¬ i = 10 by omega), if_neg (show ¬ i = 11 by omega), if_neg (show ¬ i = 12 by omega), if_neg (show ¬ i = 13 by omega), if_neg (show ¬ i = 14 by omega), if_neg (show ¬ i = 15 by omega), if_neg (show ¬ i < 272 by omega)]
theorem suV_name (l : List Int) {i : Nat} (hi : i < 276) : (if i < 8 then Value.int .u8 (l.getD i 0) else suV suZ i) = suV { suZ with nm := l } i := by
  unfold suV
  by_cases h : i < 8
  · rw [if_pos h, if_pos h]
  · rw [if_neg h, if_neg h, if_neg h]
theorem built_nm (g : Nat → Value) : Tryd.prog.built 30 [(0, .agg (tabV 8 g))] = some (tabV 276 (fun i => if i < 8 then g i else suV suZ i)) := by kernel_rfl

/-! ## what stands where while a super is read -/
/-- At p a reader that reads b from k on, at q a super; the result's block is as it was made. -/
def PS (w W : World) (p q : Nat) (b : List Int) (k : Nat) (P : SU) : Prop := RS w W p b k ∧ SuB W q P ∧ SuB W w.heap.size suZ ∧ w.heap.size < p ∧ p < q
theorem PS.nextB {w W W' : World} {p q k k' : Nat} {b : List Int} {P : SU} (h : PS w W p q b k P) (hr : RS w W' p b k') (hb : But p W W') : PS w W' p q b k' P := by
  obtain ⟨h1, h2, h3, h4, h5⟩ := h
  exact ⟨hr, by unfold SuB Blk; rw [hb.block h2.lt (by omega)]; exact h2, by unfold SuB Blk; rw [hb.block h3.lt (by omega)]; exact h3, h4, h5⟩
theorem PS.on {w W W' : World} {p q k : Nat} {b : List Int} {P : SU} (h : PS w W p q b k P) (hb : Below W.heap.size W W') : PS w W' p q b k P :=
  ⟨h.1.on hb, h.2.1.on hb, h.2.2.1.on hb, h.2.2.2.1, h.2.2.2.2⟩
theorem RS.keep {w W W' : World} {p k : Nat} {b : List Int} (h : RS w W p b k) (hb : Below w.heap.size w W') (hp : W'.heap[p]? = W.heap[p]?) : RS w W' p b k := by
  obtain ⟨h1, h2, a, m, c, h3, h4⟩ := h
  exact ⟨h1, hb, a, m, c, hp.trans h3, h4⟩
theorem PS.st {w W : World} {p q k : Nat} {b : List Int} {P : SU} (h : PS w W p q b k P) (j : Nat) (hj : j < 276) (v : Value) (P' : SU) (he : ∀ i, i < 276 → (if i = j then v else suV P i) = suV P' i) : PS w (W.setCell ⟨q, j, none⟩ v) p q b k P' := by
  obtain ⟨h1, h2, h3, h4, h5⟩ := h
  refine ⟨h1.keep (h1.below.setCell (p := ⟨q, j, none⟩) (by show w.heap.size ≤ q; omega) v) (heap_setCell_other W ⟨q, j, none⟩ p v (by show p ≠ q; omega)), (Blk.set h2 hj v).congr he, Blk.other h3 ⟨q, j, none⟩ v (by show w.heap.size ≠ q; omega), h4, h5⟩
theorem PS.row {w W W' : World} {p q k : Nat} {b : List Int} {P P' : SU} (h : PS w W p q b k P) (hk : KB (fun j => j = q) W W') (hs : SuB W' q P') : PS w W' p q b k P' := by
  obtain ⟨h1, h2, h3, h4, h5⟩ := h
  refine ⟨h1.keep (h1.below.trans (hk.below (fun j e => by rw [e]; omega) (by have := h1.below.size; exact this))) (hk.2 p (Nat.lt_trans h5 h2.lt) (by omega)), hs, by unfold SuB Blk; rw [hk.2 _ h3.lt (by omega)]; exact h3, h4, h5⟩
theorem ps_next8 {w W : World} {p q k : Nat} {b : List Int} {P : SU} (h : PS w W p q b k P) (hn : k + 1 ≤ b.length) :
    Calls Tryd.prog 26 #[.pointer (some ⟨p, 0, none⟩)] W fun e w' => e = .returned (.int .u8 (nb b k 1)) ∧ PS w w' p q b (k + 1) P :=
  (next8S w W p k b h.1 hn).mono fun _ _ ⟨h1, h2, h3⟩ => ⟨h1, h.nextB h2 h3⟩
theorem ps_next32 {w W : World} {p q k : Nat} {b : List Int} {P : SU} (h : PS w W p q b k P) (hn : k + 4 ≤ b.length) :
    Calls Tryd.prog 27 #[.pointer (some ⟨p, 0, none⟩)] W fun e w' => e = .returned (.int .u32 (nb b k 4)) ∧ PS w w' p q b (k + 4) P :=
  (next32S w W p k b h.1 hn).mono fun _ _ ⟨h1, h2, h3⟩ => ⟨h1, h.nextB h2 h3⟩
theorem ps_take {w W : World} {p q k : Nat} {b : List Int} {P : SU} (h : PS w W p q b k P) (n : Nat) (hn : k + n ≤ b.length) :
    Calls Tryd.prog 25 #[.pointer (some ⟨p, 0, none⟩), .int .i64 (n : Nat)] W fun e w' => ∃ a c, e = .returned (.slice a n c) ∧ Arg8c w a n c ((b.drop k).take n) ∧ PS w w' p q b (k + n) P :=
  (takeS w W p k n b h.1 hn).mono fun _ _ ⟨a, c, h1, h2, h3, h4⟩ => ⟨a, c, h1, h2, h.nextB h3 h4⟩
theorem PS.free {w W : World} {p q k : Nat} {b : List Int} {P : SU} (h : PS w W p q b k P) : ∀ j, W.frozen? ⟨q, j, none⟩ = false := fun j => Blk.free h.2.1 j
theorem PS.rowq {w W W' : World} {p q k : Nat} {b : List Int} {P P' : SU} (h : PS w W p q b k P) (hk : Below q W W') (hs : SuB W' q P') : PS w W' p q b k P' := by
  obtain ⟨h1, h2, h3, h4, h5⟩ := h
  refine ⟨h1.keep (h1.below.trans (hk.mono (by omega))) (hk.block p h5), hs, by unfold SuB Blk; rw [hk.block _ (by omega)]; exact h3, h4, h5⟩
theorem copy_inn {W : World} {q : Nat} {P : SU} {l : List Bool} (hl : l.length = 256) (h : W.heap[q]? = some (.cells (splice (tabV 276 (suV P)).toList 16 (l.map Value.bool)).toArray 30 (0, 0))) : SuB W q { P with inn := l } := by
  unfold SuB Blk
  rw [h]
  unfold splice
  rw [splice_tabV (by rw [List.length_map, hl]; omega)]
  congr 2
  exact tabV_congr fun i hi => suV_inn P l hl hi
theorem ps_start {w w2 : World} {p k : Nat} {b : List Int} {P : SU} (c0 cN : Array Value) (h : RS w w2 p b k) (hr : SuB w2 w.heap.size suZ) (hp : w.heap.size < p) (hN : cN = tabV 276 (suV P)) : PS w ((w2.alloc (.cells c0 30)).setRow w2.heap.size cN) p w2.heap.size b k P := by
  have hpl : p < w2.heap.size := by obtain ⟨_, _, _, _, _, h3, _⟩ := h; exact h3.lt
  refine ⟨h.keep (below_setRow (h.below.alloc h.below.size _) h.below.size _) (by rw [setRow_other _ _ _ _ (by omega), heap_alloc_old _ _ hpl]), ?_, ?_, hp, hpl⟩
  · unfold SuB Blk; rw [hN]; exact setRow_heap _ _ _ _ _ _ (heap_alloc_new w2 _)
  · unfold SuB Blk; rw [setRow_other _ _ _ _ (by omega), heap_alloc_old _ _ hr.lt]; exact hr
theorem range_nm {w W : World} {bb oo : Nat} {nm : List Int} {c8 : Array Value} (h : c8 = tabV 8 (fun j => Value.int .u8 (nm.getD j 0))) (hl : nm.length = 8) (hb : bb < w.heap.size) (hW : Below w.heap.size w W) (hc : ∀ i, i < nm.length → w.cell? ⟨bb, oo + i, none⟩ = some (.int .u8 (nm.getD i 0))) : W.rangeAt bb oo c8.toList := fun j v hj => by
  rw [h, Array.getElem?_toList] at hj
  by_cases h8 : j < 8
  · rw [get_tabV h8] at hj
    rw [← hj]
    exact (hW.cell (p := ⟨bb, oo + j, none⟩) hb).trans (hc j (by omega))
  · rw [Array.getElem?_eq_none (by rw [size_tabV]; omega)] at hj; cases hj
theorem built_su0 : Tryd.prog.built 30 [] = some (tabV 276 (suV suZ)) := by kernel_rfl
theorem size8a : (Tryd.prog.info? 27).map (·.size) = some 8 := by kernel_rfl
theorem size_b4 : (Tryd.prog.info? 4).map (·.size) = some 1 := by kernel_rfl
set_option maxHeartbeats 16000000 in
theorem parseSuper_any (a : Option Addr) (n k : Nat) (b : List Int) (w : World) (hx : Arg8c w a n k b) (hn : n ≤ 600) (hG : Gl w) :
    Calls Tryd.prog 9 #[.slice a n k] w fun e w' => e = .returned (.tuple #[suA (psuZ b), .int .i64 (psuE b)]) ∧ Below w.heap.size w w' := by
  have hl := hx.1.1
  have hcap := hx.1.2.2.2
  unfold maxLen at hcap
  obtain ⟨hz, hi⟩ := zero_of_info infoSu
  obtain ⟨c0, hc0⟩ : ∃ s, s = tabV 276 (suV suZ) := ⟨_, rfl⟩
  rw [← hc0] at hz
  have HSZ := Lib.hid (show (Tryd.prog.info? 30).map (·.size) = some c0.size by rw [hc0, size_tabV]; exact sizeSu)
  have HON := Lib.hid (show c0.all (·.oneCell') = true by rw [hc0]; exact tabV_one (suV_one suZ))
  have HC0 := Lib.hid hc0
  obtain ⟨A, hA⟩ : ∃ A, A = w.alloc (.cells c0 30) := ⟨_, rfl⟩
  have hwA : Below w.heap.size w A := by rw [hA]; exact (Below.refl _ _).alloc (Nat.le_refl _) _
  have hAs : A.heap.size = w.heap.size + 1 := by rw [hA]; simp
  have r1 : A.heap[w.heap.size]? = some (.cells c0 30 (0, 0)) := by rw [hA]; exact heap_alloc_new w _
  have HA := Lib.hid (And.intro hA (And.intro hwA (And.intro hAs r1)))
  by_cases h5 : n = 512
  case neg =>
    have HV := Lib.hid (psu_len (b := b) (by omega))
    have HRD := Lib.hid (read_no a n k A h5 (by omega))
    have HBD := Lib.hid (show Tryd.prog.built 30 [] = some c0 by rw [hc0]; exact built_su0)
    clear hx hl hcap hA hwA hAs r1 h5 hc0 hi
    go_enter Tryd.func9, Tryd.ntmps9
    go_wp2_with (first
      | (go_at_call 24; go_loud (rw [← HA.out.1]; refine HRD.out.mono ?_; rintro e w1 ⟨rfl, rfl⟩))
      | ((with_reducible show wpList _ _ _ (⟨some 16, _, _, _, _, _⟩ :: _) _ _); go_loud (refine wpList_buildTo rfl 30 #[] rfl (some 16) rfl c0 HBD.out ?_))
      | ((with_reducible show wpList _ _ _ (⟨none, _, _, _, _, _⟩ :: _) _ _); go_loud (refine wpList_store_row rfl 30 (.tmp 2) (.tmp 16) rfl w.heap.size c0 rfl rfl 30 c0 HA.out.2.2.2 HSZ.out rfl HON.out ?_)))
    refine bodyPost_ret (v := .tuple #[.agg c0, .int .i64 3]) (results_paSu _ _ w.heap.size c0 _ rfl rfl (setRow_heap _ _ _ _ _ _ HA.out.2.2.2) HSZ.out) rfl ⟨?_, below_setRow HA.out.2.1 (Nat.le_refl _) _⟩
    rw [HV.out.1, HV.out.2, HC0.out]; rfl
  case pos =>
    subst h5
    have HRD := Lib.hid (readS w A hwA (by omega) a k b hx)
    rw [hAs] at HRD
    have HX := Lib.hid hx
    have HL := Lib.hid hl
    have HG := Lib.hid hG
    obtain ⟨nm, hnm⟩ : ∃ l, l = (b.drop 2).take 8 := ⟨_, rfl⟩
    have hnl : nm.length = 8 := by rw [hnm, List.length_take, List.length_drop, hl]; rfl
    obtain ⟨c8, hc8⟩ : ∃ s, s = tabV 8 (fun j => Value.int .u8 (nm.getD j 0)) := ⟨_, rfl⟩
    obtain ⟨cN, hcN⟩ : ∃ s, s = tabV 276 (suV { suZ with nm := nm }) := ⟨_, rfl⟩
    have HBN := Lib.hid (show Tryd.prog.built 30 [(0, .agg c8)] = some cN by
      rw [hc8, built_nm, hcN]
      exact congrArg some (tabV_congr fun i hi => suV_name nm hi))
    have H8 := Lib.hid (show (Tryd.prog.info? 27).map (·.size) = some c8.toList.length by rw [hc8, Array.length_toList, size_tabV]; exact size8a)
    have HSN := Lib.hid (show (Tryd.prog.info? 30).map (·.size) = some cN.size ∧ c0.size = cN.size ∧ cN.all (·.oneCell') = true by
      rw [hcN, hc0, size_tabV, size_tabV]; exact ⟨sizeSu, rfl, tabV_one (suV_one _)⟩)
    have HN := Lib.hid (And.intro hnm (And.intro hnl (And.intro hc8 hcN)))
    clear hx hl hcap hA hwA hAs r1 hc0 hi hG hnm hnl hc8 hcN
    go_enter Tryd.func9, Tryd.ntmps9
    go_upto_region 4 with (go_at_call 24; go_loud (rw [← HA.out.1]; refine HRD.out.mono ?_; rintro e w1 ⟨rfl, hs1, hb1⟩; have HS1 := Lib.hid hs1; have R1 := Lib.hid (show SuB w1 w.heap.size suZ from ((hb1.block _ (by have := HA.out.2.2.1; omega)).trans HA.out.2.2.2).trans (by rw [HC0.out])); clear hs1 hb1))
    go_upto_region 5 with (first
      | (go_at_call 25; go_loud (refine (takeS w w1 (w.heap.size + 1) 2 8 b HS1.out (by have := HL.out; omega)).mono ?_; rintro e w2 ⟨a8, k8, rfl, ha8, hs2, hb2⟩; rw [← HN.out.1] at ha8; obtain ⟨bb, oo, rfl, hbl, hcc⟩ := ha8.1.2.2.1 (by rw [HN.out.2.1]; omega); have hap := (fun W => run_arrayAt (P := Tryd.prog) (w := W) 27 5 8 (some ⟨bb, oo, none⟩) 8 k8 und8 (Nat.le_refl _)); have HS2 := Lib.hid hs2; have R2 := Lib.hid (show SuB w2 w.heap.size suZ from (hb2.block R1.out.lt (by omega)).trans R1.out); have HRG := Lib.hid (show w2.rangeAt bb oo c8.toList from range_nm HN.out.2.2.1 HN.out.2.1 hbl hs2.below hcc); clear ha8 hs2 hb2 hbl hcc))
      | ((with_reducible show wpList _ _ _ (⟨some 20, _, _, _, _, _⟩ :: _) _ _); go_loud (refine wpList_load_mid (by rfl) 27 (.tmp 19) (by rfl) bb oo (by rfl) c8.toList _ HRG.out und8 (by rfl) H8.out ?_; rw [Array.toArray_toList]))
      | ((with_reducible show wpList _ _ _ (⟨some 21, _, _, _, _, _⟩ :: _) _ _); go_loud (refine wpList_buildTo rfl 30 #[(0, .tmp 20)] rfl (some 21) rfl cN (by rw [Array.toList_map]; exact HBN.out) ?_))
      | ((with_reducible show wpList _ _ _ (⟨none, _, _, _, _, _⟩ :: _) _ _); go_loud (refine wpList_store_row rfl 30 (.tmp 6) (.tmp 21) rfl w2.heap.size cN rfl rfl 30 c0 (heap_alloc_new w2 _) HSN.out.1 HSN.out.2.1 HSN.out.2.2 ?_)))
    have HP1 := Lib.hid (ps_start c0 cN HS2.out R2.out (Nat.lt_succ_self _) HN.out.2.2.2)
    clear hz hap
    obtain ⟨q, hq⟩ : ∃ q, q = w2.heap.size := ⟨_, rfl⟩
    rw [← hq] at HP1 ⊢
    generalize (w2.alloc (.cells c0 30)).setRow q cN = W1 at HP1 ⊢
    clear hq
    obtain ⟨y_p, h_p⟩ : ∃ y, y = nb b 10 1 := ⟨_, rfl⟩
    obtain ⟨y_n, h_n⟩ : ∃ y, y = nb b 11 1 := ⟨_, rfl⟩
    obtain ⟨y_t, h_t⟩ : ∃ y, y = nb b 12 1 := ⟨_, rfl⟩
    obtain ⟨y_m, h_m⟩ : ∃ y, y = nb b 13 1 := ⟨_, rfl⟩
    obtain ⟨y_c, h_c⟩ : ∃ y, y = nb b 14 1 := ⟨_, rfl⟩
    obtain ⟨y_bl, h_bl⟩ : ∃ y, y = nb b 15 4 := ⟨_, rfl⟩
    obtain ⟨y_bo, h_bo⟩ : ∃ y, y = nb b 19 4 := ⟨_, rfl⟩
    obtain ⟨y_ep, h_ep⟩ : ∃ y, y = nb b 23 4 := ⟨_, rfl⟩
    obtain ⟨y_rf, h_rf⟩ : ∃ y, y = nb b 59 4 := ⟨_, rfl⟩
    obtain ⟨y_sc, h_sc⟩ : ∃ y, y = nb b 63 4 := ⟨_, rfl⟩
    obtain ⟨y_tg, h_tg⟩ : ∃ y, y = nb b 67 1 := ⟨_, rfl⟩
    obtain ⟨y_rs, h_rs⟩ : ∃ y, y = nb b 68 4 := ⟨_, rfl⟩
    have HNB := Lib.hid (show nb b 10 1 = y_p ∧ nb b 11 1 = y_n ∧ nb b 12 1 = y_t ∧ nb b 13 1 = y_m ∧ nb b 14 1 = y_c ∧ nb b 15 4 = y_bl ∧ nb b 19 4 = y_bo ∧ nb b 23 4 = y_ep ∧ nb b 59 4 = y_rf ∧ nb b 63 4 = y_sc ∧ nb b 67 1 = y_tg ∧ nb b 68 4 = y_rs from ⟨h_p.symm, h_n.symm, h_t.symm, h_m.symm, h_c.symm, h_bl.symm, h_bo.symm, h_ep.symm, h_rf.symm, h_sc.symm, h_tg.symm, h_rs.symm⟩)
    obtain ⟨l27, h27⟩ : ∃ l, l = unpackL ((b.drop 27).take 32) 256 := ⟨_, rfl⟩
    have H27 := Lib.hid h27
    have HPR := Lib.hid (show psuR b = ⟨nm, y_p, y_n, y_t, y_m, y_c, y_bl, y_bo, y_ep, l27, y_rf, y_sc, y_tg, y_rs⟩ by
      have h := HL.out
      unfold psuR
      rw [h27, h_p, h_n, h_t, h_m, h_c, h_bl, h_bo, h_ep, h_rf, h_sc, h_tg, h_rs, HN.out.1, nb_one (by omega), nb_one (by omega), nb_one (by omega), nb_one (by omega), nb_one (by omega), nb_one (by omega)])
    clear h27 h_p h_n h_t h_m h_c h_bl h_bo h_ep h_rf h_sc h_tg h_rs
    go_upto_region 6 with (first
      | (go_at_call 26; go_loud (refine (ps_next8 (k := 14) HP5.out (by have := HL.out; omega)).mono ?_; rintro e W6 ⟨rfl, hp⟩; rw [HNB.out.2.2.2.2.1]; have HP6 := Lib.hid hp; obtain ⟨c8, c9, c10, c11, c12, -, -, -, -, -, -, -⟩ := hp.2.1.num; have hf := hp.free; clear hp))
      | (go_at_call 26; go_loud (refine (ps_next8 (k := 13) HP4.out (by have := HL.out; omega)).mono ?_; rintro e W5 ⟨rfl, hp⟩; rw [HNB.out.2.2.2.1]; have HP5 := Lib.hid hp; clear hp))
      | (go_at_call 26; go_loud (refine (ps_next8 (k := 12) HP3.out (by have := HL.out; omega)).mono ?_; rintro e W4 ⟨rfl, hp⟩; rw [HNB.out.2.2.1]; have HP4 := Lib.hid hp; clear hp))
      | (go_at_call 26; go_loud (refine (ps_next8 (k := 11) HP2.out (by have := HL.out; omega)).mono ?_; rintro e W3 ⟨rfl, hp⟩; rw [HNB.out.2.1]; have HP3 := Lib.hid hp; clear hp))
      | (go_at_call 26; go_loud (refine (ps_next8 (k := 10) HP1.out (by have := HL.out; omega)).mono ?_; rintro e W2 ⟨rfl, hp⟩; rw [HNB.out.1]; have HP2 := Lib.hid hp; clear hp)))
    have HP7 := Lib.hid (PS.st (PS.st (PS.st (PS.st (PS.st HP6.out 8 (by omega) (.int .u8 y_p) ⟨nm, y_p, 0, 0, 0, 0, 0, 0, 0, (List.replicate 256 false), 0, 0, 0, 0⟩ (fun i hi => suV_p _ y_p hi)) 9 (by omega) (.int .u8 y_n) ⟨nm, y_p, y_n, 0, 0, 0, 0, 0, 0, (List.replicate 256 false), 0, 0, 0, 0⟩ (fun i hi => suV_n _ y_n hi)) 10 (by omega) (.int .u8 y_t) ⟨nm, y_p, y_n, y_t, 0, 0, 0, 0, 0, (List.replicate 256 false), 0, 0, 0, 0⟩ (fun i hi => suV_t _ y_t hi)) 11 (by omega) (.int .u8 y_m) ⟨nm, y_p, y_n, y_t, y_m, 0, 0, 0, 0, (List.replicate 256 false), 0, 0, 0, 0⟩ (fun i hi => suV_m _ y_m hi)) 12 (by omega) (.int .u8 y_c) ⟨nm, y_p, y_n, y_t, y_m, y_c, 0, 0, 0, (List.replicate 256 false), 0, 0, 0, 0⟩ (fun i hi => suV_c _ y_c hi))
    clear c8 c9 c10 c11 c12 hf
    generalize (((((W6.setCell ⟨q, 8, none⟩ (.int .u8 y_p)).setCell ⟨q, 9, none⟩ (.int .u8 y_n)).setCell ⟨q, 10, none⟩ (.int .u8 y_t)).setCell ⟨q, 11, none⟩ (.int .u8 y_m)).setCell ⟨q, 12, none⟩ (.int .u8 y_c)) = W7 at HP7 ⊢
    go_upto_region 7 with (first
      | (go_at_call 27; go_loud (refine (ps_next32 (k := 23) HP9.out (by have := HL.out; omega)).mono ?_; rintro e W10 ⟨rfl, hp⟩; rw [HNB.out.2.2.2.2.2.2.2.1]; have HP10 := Lib.hid hp; obtain ⟨-, -, -, -, -, c13, c14, c15, -, -, -, -⟩ := hp.2.1.num; have hf := hp.free; clear hp))
      | (go_at_call 27; go_loud (refine (ps_next32 (k := 19) HP8.out (by have := HL.out; omega)).mono ?_; rintro e W9 ⟨rfl, hp⟩; rw [HNB.out.2.2.2.2.2.2.1]; have HP9 := Lib.hid hp; clear hp))
      | (go_at_call 27; go_loud (refine (ps_next32 (k := 15) HP7.out (by have := HL.out; omega)).mono ?_; rintro e W8 ⟨rfl, hp⟩; rw [HNB.out.2.2.2.2.2.1]; have HP8 := Lib.hid hp; clear hp)))
    have HP11 := Lib.hid (PS.st (PS.st (PS.st HP10.out 13 (by omega) (.int .u32 y_bl) ⟨nm, y_p, y_n, y_t, y_m, y_c, y_bl, 0, 0, (List.replicate 256 false), 0, 0, 0, 0⟩ (fun i hi => suV_bl _ y_bl hi)) 14 (by omega) (.int .u32 y_bo) ⟨nm, y_p, y_n, y_t, y_m, y_c, y_bl, y_bo, 0, (List.replicate 256 false), 0, 0, 0, 0⟩ (fun i hi => suV_bo _ y_bo hi)) 15 (by omega) (.int .u32 y_ep) ⟨nm, y_p, y_n, y_t, y_m, y_c, y_bl, y_bo, y_ep, (List.replicate 256 false), 0, 0, 0, 0⟩ (fun i hi => suV_ep _ y_ep hi))
    clear c13 c14 c15 hf
    generalize (((W10.setCell ⟨q, 13, none⟩ (.int .u32 y_bl)).setCell ⟨q, 14, none⟩ (.int .u32 y_bo)).setCell ⟨q, 15, none⟩ (.int .u32 y_ep)) = W11 at HP11 ⊢
    have hul : ((b.drop 27).take 32).length = 32 := by rw [List.length_take, List.length_drop, HL.out]; rfl
    have HUL := Lib.hid (And.intro hul (show l27.length = 256 by rw [H27.out]; exact length_unpackL _ _))
    clear hul
    go_upto_region 8 with (first
      | (go_at_call 25; go_loud (refine (ps_take (k := 27) HP11.out 32 (by have := HL.out; omega)).mono ?_; rintro e W12 ⟨a27, k27, rfl, ha, hp⟩; have HP12 := Lib.hid hp; have HU := Lib.hid (unpack_yes a27 32 k27 ((b.drop 27).take 32) 256 W12 HUL.out.1 ha.1.2.1 ((ha.1.2.2.1.below hp.1.below).more hp.1.below.size) (by omega) rfl (fun i h1 h2 => by rw [HUL.out.1] at h2; omega)); rw [← H27.out] at HU; clear ha hp))
      | (go_at_call 28; go_loud (refine HU.out.mono ?_; rintro e W13 ⟨gU, rfl, ho, hb⟩; have HP13 := Lib.hid (HP12.out.on hb); have HOU := Lib.hid ho; clear ho hb)))
    have hsla := fun W => slice256a W q 16
    obtain ⟨cur, hcur⟩ : ∃ c, c = (tabV 276 (suV ⟨nm, y_p, y_n, y_t, y_m, y_c, y_bl, y_bo, y_ep, (List.replicate 256 false), 0, 0, 0, 0⟩)).toList := ⟨_, rfl⟩
    obtain ⟨cs, hcs⟩ : ∃ c, c = l27.map Value.bool := ⟨_, rfl⟩
    have hcl : cs.length = 256 ∧ cur.length = 276 := ⟨by rw [hcs, List.length_map]; exact HUL.out.2, by rw [hcur, Array.length_toList, size_tabV]⟩
    have HCS := Lib.hid (And.intro hcs (And.intro hcur hcl))
    have HGQ := Lib.hid (show W13.heap[q]? = some (.cells cur.toArray 30 (0, 0)) by rw [hcur, Array.toArray_toList]; exact HP13.out.2.1)
    have HSRC := Lib.hid (show ∀ j v, cs[j]? = some v → W13.cell? ((⟨gU, 0, none⟩ : Addr).add j) = some v from fun j v hj => by
      rw [hcs] at hj
      have hjl : j < 256 := by have := (List.getElem?_eq_some_iff.1 hj).1; rw [List.length_map, HUL.out.2] at this; exact this
      rw [map_bool_getElem? (by rw [HUL.out.2]; exact hjl)] at hj
      rw [Addr.add_lit, ← hj]
      exact own_cellsL HOU.out j hjl)
    have HOC := Lib.hid (show ∀ v ∈ cs, v.oneCell' = true from fun v hv => by rw [hcs] at hv; obtain ⟨x, _, rfl⟩ := List.mem_map.1 hv; rfl)
    clear hcur hcs hcl
    go_upto_region 9 with ((with_reducible show wpList _ _ _ (⟨some 55, _, _, _, _, _⟩ :: _) _ _); go_loud (refine wpList_copy_splice (o := ⟨some 55, _, _, _, _, _⟩) rfl (.tmp 53) (.tmp 54) 52 52 rfl 4 Tryd.underlying52 size_b4 (some ⟨q, 16, none⟩) (some ⟨gU, 0, none⟩) 256 256 256 256 rfl rfl q 16 cur 30 HGQ.out cs (by rw [HCS.out.2.2.1]; rfl) (fun _ => ⟨rfl, ⟨gU, 0, none⟩, rfl, HSRC.out⟩) (by rw [HCS.out.2.2.1, HCS.out.2.2.2]; omega) HOC.out q W13 (Below.refl _ _) (Nat.le_refl _) ?_; intro W14 hg hb; have HP14 := Lib.hid (HP13.out.rowq hb (copy_inn (P := ⟨nm, y_p, y_n, y_t, y_m, y_c, y_bl, y_bo, y_ep, (List.replicate 256 false), 0, 0, 0, 0⟩) HUL.out.2 (by have h := hg.out; rw [HCS.out.1, HCS.out.2.1] at h; exact h))); clear hg hb))
    clear hsla HU HSRC HOC HGQ
    go_upto_region 10 with (first
      | (go_at_call 27; go_loud (refine (ps_next32 (k := 63) HP15.out (by have := HL.out; omega)).mono ?_; rintro e W16 ⟨rfl, hp⟩; rw [HNB.out.2.2.2.2.2.2.2.2.2.1]; have HP16 := Lib.hid hp; obtain ⟨-, -, -, -, -, -, -, -, c272, c273, -, -⟩ := hp.2.1.num; have hf := hp.free; clear hp))
      | (go_at_call 27; go_loud (refine (ps_next32 (k := 59) HP14.out (by have := HL.out; omega)).mono ?_; rintro e W15 ⟨rfl, hp⟩; rw [HNB.out.2.2.2.2.2.2.2.2.1]; have HP15 := Lib.hid hp; clear hp)))
    have HP17 := Lib.hid (PS.st (PS.st HP16.out 272 (by omega) (.int .u32 y_rf) ⟨nm, y_p, y_n, y_t, y_m, y_c, y_bl, y_bo, y_ep, l27, y_rf, 0, 0, 0⟩ (fun i hi => suV_rf _ y_rf hi)) 273 (by omega) (.int .u32 y_sc) ⟨nm, y_p, y_n, y_t, y_m, y_c, y_bl, y_bo, y_ep, l27, y_rf, y_sc, 0, 0⟩ (fun i hi => suV_sc _ y_sc hi))
    clear c272 c273 hf
    generalize ((W16.setCell ⟨q, 272, none⟩ (.int .u32 y_rf)).setCell ⟨q, 273, none⟩ (.int .u32 y_sc)) = W17 at HP17 ⊢
    go_upto_region 11 with (first
      | (go_at_call 26; go_loud (refine (ps_next8 (k := 67) HP17.out (by have := HL.out; omega)).mono ?_; rintro e W18 ⟨rfl, hp⟩; rw [HNB.out.2.2.2.2.2.2.2.2.2.2.1]; have HP18 := Lib.hid hp; obtain ⟨-, -, -, -, -, -, -, -, -, -, c274, -⟩ := hp.2.1.num; have hf := hp.free; clear hp)))
    have HP19 := Lib.hid (PS.st HP18.out 274 (by omega) (.int .u8 y_tg) ⟨nm, y_p, y_n, y_t, y_m, y_c, y_bl, y_bo, y_ep, l27, y_rf, y_sc, y_tg, 0⟩ (fun i hi => suV_tg _ y_tg hi))
    clear c274 hf
    generalize (W18.setCell ⟨q, 274, none⟩ (.int .u8 y_tg)) = W19 at HP19 ⊢
    go_upto_region 12 with (first
      | (go_at_call 27; go_loud (refine (ps_next32 (k := 68) HP19.out (by have := HL.out; omega)).mono ?_; rintro e W20 ⟨rfl, hp⟩; rw [HNB.out.2.2.2.2.2.2.2.2.2.2.2]; have HP20 := Lib.hid hp; obtain ⟨-, -, -, -, -, -, -, -, -, -, -, c275⟩ := hp.2.1.num; have hf := hp.free; clear hp)))
    have HP21 := Lib.hid (PS.st HP20.out 275 (by omega) (.int .u32 y_rs) ⟨nm, y_p, y_n, y_t, y_m, y_c, y_bl, y_bo, y_ep, l27, y_rf, y_sc, y_tg, y_rs⟩ (fun i hi => suV_rs _ y_rs hi))
    clear c275 hf
    generalize (W20.setCell ⟨q, 275, none⟩ (.int .u32 y_rs)) = W21 at HP21 ⊢
    obtain ⟨sF, hsF⟩ : ∃ s, s = tabV 276 (suV ⟨nm, y_p, y_n, y_t, y_m, y_c, y_bl, y_bo, y_ep, l27, y_rf, y_sc, y_tg, y_rs⟩) := ⟨_, rfl⟩
    have HFR := Lib.hid (show W21.heap[q]? = some (.cells sF 30 (0, 0)) by rw [hsF]; exact HP21.out.2.1)
    have HFS := Lib.hid (show (Tryd.prog.info? 30).map (·.size) = some sF.size ∧ c0.size = sF.size ∧ sF.all (·.oneCell') = true by rw [hsF, HC0.out, size_tabV, size_tabV]; exact ⟨sizeSu, rfl, tabV_one (suV_one _)⟩)
    have HCK := Lib.hid (checkedSu_any ⟨nm, y_p, y_n, y_t, y_m, y_c, y_bl, y_bo, y_ep, l27, y_rf, y_sc, y_tg, y_rs⟩ (HPR.out ▸ psuR_wf HX.out.1.2.1 HL.out) a 512 k b W21 (HG.out.on HP21.out.1.below HG.out.1) (HX.out.onV HP21.out.1.below))
    rw [← HPR.out] at HCK
    unfold suA at HCK
    have HRA := Lib.hid (show suA (psuR b) = .agg sF by unfold suA; rw [HPR.out, hsF])
    rw [HPR.out, ← hsF, ← HC0.out, ← HPR.out] at HCK
    clear hsF
    by_cases hch : chSU (psuR b) b
    · have HV := Lib.hid (psu_yes HL.out hch)
      have HCH := Lib.hid hch
      clear hch
      go_wp2_with (first
        | ((with_reducible show wpList _ _ _ (⟨some 68, _, _, _, _, _⟩ :: _) _ _); go_loud (refine wpList_load_row rfl 30 (.tmp 6) rfl q rfl 30 sF (0, 0) _ HFR.out Tryd.underlying30 rfl HFS.out.1 ?_))
        | (go_at_call 29; go_loud (refine HCK.out.mono ?_; rintro e WF ⟨hy, hno, hb⟩; obtain rfl := hy HCH.out; have RF := Lib.hid (show WF.heap[w.heap.size]? = some (.cells c0 30 (0, 0)) by rw [hb.block _ HP21.out.2.2.1.lt, HC0.out]; exact HP21.out.2.2.1); have BF := Lib.hid (bt HP21.out.1.below hb); clear hy hno hb))
        | ((with_reducible show wpList _ _ _ (⟨none, _, _, _, _, _⟩ :: _) _ _); go_loud (refine wpList_store_row rfl 30 (.tmp 2) (.tmp 71) rfl w.heap.size sF rfl rfl 30 c0 RF.out HFS.out.1 HFS.out.2.1 HFS.out.2.2 ?_)))
      refine bodyPost_ret (v := .tuple #[.agg sF, .int .i64 0]) (results_paSu _ _ w.heap.size sF _ rfl rfl (setRow_heap _ _ _ _ _ _ RF.out) HFS.out.1) rfl ⟨?_, below_setRow BF.out (Nat.le_refl _) _⟩
      rw [HV.out.1, HV.out.2, HRA.out]
    · have HV := Lib.hid (psu_not hch)
      have HCH := Lib.hid hch
      clear hch
      go_wp2_with (first
        | ((with_reducible show wpList _ _ _ (⟨some 68, _, _, _, _, _⟩ :: _) _ _); go_loud (refine wpList_load_row rfl 30 (.tmp 6) rfl q rfl 30 sF (0, 0) _ HFR.out Tryd.underlying30 rfl HFS.out.1 ?_))
        | (go_at_call 29; go_loud (refine HCK.out.mono ?_; rintro e WF ⟨hy, hno, hb⟩; obtain rfl := hno HCH.out; have RF := Lib.hid (show WF.heap[w.heap.size]? = some (.cells c0 30 (0, 0)) by rw [hb.block _ HP21.out.2.2.1.lt, HC0.out]; exact HP21.out.2.2.1); have BF := Lib.hid (bt HP21.out.1.below hb); clear hy hno hb))
        | ((with_reducible show wpList _ _ _ (⟨none, _, _, _, _, _⟩ :: _) _ _); go_loud (refine wpList_store_row rfl 30 (.tmp 2) (.tmp 71) rfl w.heap.size c0 rfl rfl 30 c0 RF.out HSZ.out rfl HON.out ?_)))
      refine bodyPost_ret (v := .tuple #[.agg c0, .int .i64 3]) (results_paSu _ _ w.heap.size c0 _ rfl rfl (setRow_heap _ _ _ _ _ _ RF.out) HSZ.out) rfl ⟨?_, below_setRow BF.out (Nat.le_refl _) _⟩
      rw [HV.out.1, HV.out.2, HC0.out]; rfl
end Go.Proofs.YtadcgngiofdhcaaDoor
