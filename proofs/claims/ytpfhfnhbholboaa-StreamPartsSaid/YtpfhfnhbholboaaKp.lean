/- Contract of the cipher's New (written by gen21.py). -/
import Derived.Test.YtpfhfnhbholboaaKn
import Derived.Test.YtpfhfnhbholboaaKl
import Derived.Laws.Tables
import Derived.Great.FillDense
namespace Go.Proofs.Ytpfhfnhbholboaa
open Go.ChangeShapes Go.WideShapes Go.ChangeAt Go.RowKit Go.Shelf
set_option linter.unusedVariables false
set_option linter.unusedSimpArgs false
set_option maxRecDepth 100000
attribute [local go_sem] Oper.semAt_some
attribute [local go_sem ↓] Go.wp_at_zero Go.wp_at_succ

/-- A cipher's cells, ahead of its keys and of the way back. -/
def cipC (B P Q : Nat → Value) (j : Nat) : Value := if j = 0 then .slice none 0 0 else if j < 257 then B (j - 1) else if j < 513 then .int .u8 0 else if j < 769 then P (j - 513) else Q (j - 769)
def cipZ (j : Nat) : Value := if j = 0 then .slice none 0 0 else if j < 513 then .int .u8 0 else .int .u32 0
theorem infoCip : (Try.prog.info? 59).map (fun i => i.zero) = some (some (.agg (tabV 1025 cipZ))) := by kernel_rfl
theorem placesCip : (Try.prog.underlying 59).bind (fun d => match d with | .struct fs => fs.toList.mapM (fun f => (Try.prog.info? f.type).map fun i => (f.offset, i.size)) | _ => none) = some [(0, 1), (1, 256), (257, 256), (513, 256), (769, 256)] := by kernel_rfl
theorem get_tabV_if (n : Nat) (g : Nat → Value) (k : Nat) : (tabV n g)[k]? = if k < n then some (g k) else none := by
  by_cases h : k < n
  · rw [if_pos h, get_tabV h]
  · rw [if_neg h, Array.getElem?_eq_none (by rw [size_tabV]; omega)]
/-- 256 cells go in from 'off' on. -/
theorem fill_step (off : Nat) (B : Nat → Value) (g : Nat → Value) (h : off + 256 ≤ 1025) : (tabV 256 B).toList.zipIdx.foldl (fun cs (x : Value × Nat) => cs.setIfInBounds (off + x.2) x.1) (tabV 1025 g) = tabV 1025 (fun j => if off ≤ j ∧ j < off + 256 then B (j - off) else g j) := by
  obtain ⟨_, h2⟩ := Great.foldl_set off (tabV 256 B).toList 0 (tabV 1025 g)
  apply Array.ext_getElem?
  intro k
  rw [h2 k, get_tabV_if, get_tabV_if, Array.length_toList, size_tabV, size_tabV]
  by_cases e : off ≤ k ∧ k < off + 256
  · rw [if_pos (by omega), if_pos (by omega), if_pos e, Array.getElem?_toList, get_tabV_if, if_pos (by omega), Nat.add_zero]
  · rw [if_neg (by omega), if_neg e]
theorem fill_stepA (off : Nat) (B : Nat → Value) (T : Array Value) (hT : T = tabV 256 B) (g : Nat → Value) (h : off + 256 ≤ 1025) : Array.foldl (fun cs (x : Value × Nat) => cs.setIfInBounds (off + x.snd) x.fst) (tabV 1025 g) T.zipIdx = tabV 1025 (fun j => if off ≤ j ∧ j < off + 256 then B (j - off) else g j) := by
  subst hT
  rw [← Array.foldl_toList, Array.toList_zipIdx]
  exact fill_step off B g h
theorem cip_built (B P Q : Nat → Value) : Try.prog.built 59 [(1, .agg (tabV 256 B)), (3, .agg (tabV 256 P)), (4, .agg (tabV 256 Q))] = some (tabV 1025 (cipC B P Q)) := by
  have h1 := infoCip
  have h2 := placesCip
  unfold Program.built
  cases hi : Try.prog.info? 59 with
  | none => rw [hi] at h1; cases h1
  | some it =>
    cases hu : Try.prog.underlying 59 with
    | none => rw [hu] at h2; cases h2
    | some d =>
      rw [hi] at h1
      rw [hu] at h2
      simp only [Option.map_some, Option.some.injEq, Option.bind_some] at h1 h2
      cases d <;> first | (cases h2; done) | skip
      simp only at h2
      simp only [h1, h2]
      simp only [Instr.fill]
      have e1 : (#[(0, 1), (1, 256), (257, 256), (513, 256), (769, 256)] : Array (Nat × Nat))[1]? = some (1, 256) := rfl
      have e3 : (#[(0, 1), (1, 256), (257, 256), (513, 256), (769, 256)] : Array (Nat × Nat))[3]? = some (513, 256) := rfl
      have e4 : (#[(0, 1), (1, 256), (257, 256), (513, 256), (769, 256)] : Array (Nat × Nat))[4]? = some (769, 256) := rfl
      rw [e1, e3, e4]
      have sB := size_tabV 256 B
      have sP := size_tabV 256 P
      have sQ := size_tabV 256 Q
      obtain ⟨TB, hB⟩ : ∃ T, T = tabV 256 B := ⟨_, rfl⟩
      obtain ⟨TP, hP⟩ : ∃ T, T = tabV 256 P := ⟨_, rfl⟩
      obtain ⟨TQ, hQ⟩ : ∃ T, T = tabV 256 Q := ⟨_, rfl⟩
      rw [← hB] at sB ⊢
      rw [← hP] at sP ⊢
      rw [← hQ] at sQ ⊢
      simp only [Value.cells, fill_stepA 1 B TB hB cipZ (by omega), sB, sP, sQ, size_tabV]
      simp only [Nat.reduceAdd, ne_eq, not_true_eq_false, decide_false, gt_iff_lt, Nat.reduceLT, Nat.lt_irrefl, Bool.or_self, Bool.false_eq_true, if_false]
      rw [fill_stepA 513 P TP hP _ (by omega), fill_stepA 769 Q TQ hQ _ (by omega)]
      simp only [size_tabV, Nat.reduceAdd, ne_eq, not_true_eq_false, decide_false, gt_iff_lt, Nat.reduceLT, Nat.lt_irrefl, Bool.or_self, Bool.false_eq_true, if_false]
      refine congrArg some (tabV_congr fun j hj => ?_)
      unfold cipC cipZ
      by_cases j0 : j = 0
      · rw [if_neg (by omega), if_neg (by omega), if_neg (by omega), if_pos j0, if_pos j0]
      · rw [if_neg j0, if_neg j0]
        by_cases j1 : j < 257
        · rw [if_neg (by omega), if_neg (by omega), if_pos (by omega), if_pos j1]
        · rw [if_neg j1]
          by_cases j2 : j < 513
          · rw [if_neg (by omega), if_neg (by omega), if_neg (by omega), if_pos j2, if_pos j2]
          · rw [if_neg j2, if_neg j2]
            by_cases j3 : j < 769
            · rw [if_neg (by omega), if_pos (by omega), if_pos j3]
            · rw [if_pos (by omega), if_neg j3]
theorem cip_build (B P Q : Nat → Value) (w : World) : (Instr.build 59 #[(1, .agg (tabV 256 B)), (3, .agg (tabV 256 P)), (4, .agg (tabV 256 Q))]).run Try.prog w = .ok (.agg (tabV 1025 (cipC B P Q))) w := run_build w _ _ _ (cip_built B P Q)
theorem by2 : (tabV 4 fun j => Value.int .u8 ((m2 j : Nat) : Int)) = #[.int .u8 2, .int .u8 1, .int .u8 1, .int .u8 3] := by kernel_rfl
theorem by14 : (tabV 4 fun j => Value.int .u8 ((m14 j : Nat) : Int)) = #[.int .u8 14, .int .u8 9, .int .u8 13, .int .u8 11] := by kernel_rfl
theorem new_nil (a : Option Addr) (L c : Nat) (w : World) :
    Calls Try.prog 11 #[.pointer none, .slice a L c] w fun e w' => e = .returned (.tuple #[.pointer none, .int .i64 1]) ∧ w = w' := by
  go_enter Try.func11, Try.ntmps11
  go_wp2
  go_ret2
  exact ⟨rfl, rfl⟩
theorem new_form (fb : Nat) (a : Option Addr) (L c : Nat) (w : World) (h1 : L ≠ 16) (h2 : L ≠ 32) (hL : L ≤ 9223372036854775807) :
    Calls Try.prog 11 #[.pointer (some ⟨fb, 0, none⟩), .slice a L c] w fun e w' => e = .returned (.tuple #[.pointer none, .int .i64 3]) ∧ w = w' := by
  have q1 : ((L : Int) != 16) = true := by rw [bne_iff_ne]; omega
  have q2 : ((L : Int) != 32) = true := by rw [bne_iff_ne]; omega
  go_enter Try.func11, Try.ntmps11
  go_wp2
  go_ret2
  exact ⟨rfl, rfl⟩

/-- The cipher's cells when it has the way back; its keys are a value. -/
def cipK (v : Value) (j : Nat) : Value := if j = 0 then v else if j < 257 then .int .u8 ((box (j - 1) : Nat) : Int) else if j < 513 then .int .u8 ((bxb (j - 257) : Nat) : Int) else if j < 769 then .int .u32 ((prt m2 (j - 513) : Nat) : Int) else .int .u32 ((prt m14 (j - 769) : Nat) : Int)
theorem cell_set_but (w : World) (b o : Nat) (v : Value) : w.grownBy (w.setCell ⟨b, o, none⟩ v) (some b) := ⟨rfl, rfl, rfl, by simp, fun k _ hk => heap_setCell_other w ⟨b, o, none⟩ k v (fun e => hk (by rw [e]))⟩
theorem sets_but (b : Nat) : ∀ (vs : List Value) (o : Nat) (w : World), w.grownBy (w.setCells b o vs) (some b)
  | [], _, w => ⟨rfl, rfl, rfl, Nat.le_refl _, fun _ _ _ => rfl⟩
  | v :: r, o, w => by rw [World.setCells]; exact (cell_set_but w b o v).trans (sets_but b r (o + 1) _)
theorem Blk.sets {b n : Nat} {T : TypeId} : ∀ (vs : List Value) (o : Nat) {w : World} {g : Nat → Value} (h : Nat → Value), Blk w b T n g → o + vs.length ≤ n → (∀ j, j < n → h j = if o ≤ j ∧ j < o + vs.length then vs.getD (j - o) undef else g j) → Blk (w.setCells b o vs) b T n h
  | [], o, w, g, h, hk, hn, hh => hk.congr fun j hj => by rw [hh j hj, if_neg (by simp)]
  | v :: r, o, w, g, h, hk, hn, hh => by
    rw [World.setCells]
    simp only [List.length_cons] at hn hh
    refine Blk.sets r (o + 1) h (hk.set (show o < n by omega) v) (by omega) (fun j hj => ?_)
    rw [hh j hj]
    by_cases e : j = o
    · subst e; simp; intro h1; omega
    · by_cases e2 : o + 1 ≤ j ∧ j < o + 1 + r.length
      · rw [if_pos (by omega), if_pos e2, show j - o = (j - (o + 1)) + 1 by omega]; rfl
      · rw [if_neg (by omega), if_neg e2, if_neg e]
theorem Blk.there {w : World} {b n : Nat} {T : TypeId} {g : Nat → Value} (h : Blk w b T n g) {o m : Nat} (hm : o + m ≤ n) : w.there b o m := fun j hj => ⟨by rw [h.cell (show o + j < n by omega)]; rfl, h.free _⟩
theorem cipC_tb {w : World} {b : Nat} {T : TypeId} {P Q : Nat → Value} (h : Blk w b T 1025 (cipC (fun j => .int .u8 ((box j : Nat) : Int)) P Q)) : Tb w b 1 box := ⟨h.lt, fun j hj => by
  rw [h.cell (show 1 + j < 1025 by omega)]
  unfold cipC
  rw [if_neg (by omega), if_pos (by omega), show 1 + j - 1 = j by omega]⟩
/-- The way back laid into the cipher. -/
theorem cipC_back {w : World} {b : Nat} {T : TypeId} (h : Blk w b T 1025 (cipC (fun j => .int .u8 ((box j : Nat) : Int)) (fun j => .int .u32 ((prt m2 j : Nat) : Int)) (fun j => .int .u32 ((prt m14 j : Nat) : Int)))) {TU : Array Value} (hU : TU = tabV 256 fun j => .int .u8 ((bxb j : Nat) : Int)) : Blk (w.setCells b 257 TU.toList) b T 1025 (cipK (.slice none 0 0)) := by
  have hl : TU.toList.length = 256 := by rw [Array.length_toList, hU, size_tabV]
  refine Blk.sets TU.toList 257 _ h (by omega) (fun j hj => ?_)
  rw [hl]
  unfold cipK cipC
  by_cases j0 : j = 0
  · rw [if_pos j0, if_neg (by omega), if_pos j0]
  · rw [if_neg j0]
    by_cases j1 : j < 257
    · rw [if_pos j1, if_neg (by omega), if_neg j0, if_pos j1]
    · rw [if_neg j1]
      by_cases j2 : j < 513
      · rw [if_pos j2, if_pos (by omega), List.getD_eq_getElem?_getD, Array.getElem?_toList, hU, get_tabV (by omega)]; rfl
      · rw [if_neg j2]
        by_cases j3 : j < 769
        · rw [if_pos j3, if_neg (by omega), if_neg j0, if_neg j1, if_neg j2]
        · rw [if_neg j3, if_neg (by omega), if_neg j0, if_neg j1, if_neg j2]
theorem cipK_set {w : World} {b : Nat} {T : TypeId} {v : Value} (h : Blk w b T 1025 (cipK v)) (v' : Value) : Blk (w.setCell ⟨b, 0, none⟩ v') b T 1025 (cipK v') := (h.set (by omega) v').congr fun j hj => by
  unfold cipK
  by_cases e : j = 0
  · rw [if_pos e, if_pos e]
  · rw [if_neg e, if_neg e, if_neg e]
theorem cipK_cell {w : World} {b : Nat} {T : TypeId} {v : Value} (h : Blk w b T 1025 (cipK v)) : w.cell? ⟨b, 0, none⟩ = some v := by
  rw [h.cell (by omega)]; rfl
theorem cipK_tabs {w : World} {b : Nat} {T : TypeId} {v : Value} (h : Blk w b T 1025 (cipK v)) : Tb w b 1 box ∧ Tb w b 257 bxb ∧ Tp w b 513 (prt m2) ∧ Tp w b 769 (prt m14) := by
  refine ⟨⟨h.lt, fun j hj => ?_⟩, ⟨h.lt, fun j hj => ?_⟩, ⟨h.lt, fun j hj => ?_⟩, ⟨h.lt, fun j hj => ?_⟩⟩
  · rw [h.cell (show 1 + j < 1025 by omega)]; unfold cipK
    rw [if_neg (by omega), if_pos (by omega), show 1 + j - 1 = j by omega]
  · rw [h.cell (show 257 + j < 1025 by omega)]; unfold cipK
    rw [if_neg (by omega), if_neg (by omega), if_pos (by omega), show 257 + j - 257 = j by omega]
  · rw [h.cell (show 513 + j < 1025 by omega)]; unfold cipK
    rw [if_neg (by omega), if_neg (by omega), if_neg (by omega), if_pos (by omega), show 513 + j - 513 = j by omega]
  · rw [h.cell (show 769 + j < 1025 by omega)]; unfold cipK
    rw [if_neg (by omega), if_neg (by omega), if_neg (by omega), if_neg (by omega), show 769 + j - 769 = j by omega]
/-- The cells of the first k round keys. -/
def sqs (W : Nat → Nat → Nat) (k : Nat) : List Value := (List.range (4 * k)).map fun q => sqc (rk W (q / 4)) (q % 4)
theorem length_sqs (W : Nat → Nat → Nat) (k : Nat) : (sqs W k).length = k * 4 := by simp [sqs]; omega
theorem length_sqL4 (S : Nat → Nat → Nat) : (sqL4 S).length = 4 := by simp [sqL4]
theorem sqs_succ (W : Nat → Nat → Nat) (k : Nat) : sqs W (k + 1) = sqs W k ++ sqL4 (rk W k) := by
  unfold sqs sqL4
  rw [show 4 * (k + 1) = 4 * k + 4 by omega, List.range_add, List.map_append, List.map_map]
  congr 1
  refine List.map_congr_left fun i hi => ?_
  have hi4 : i < 4 := List.mem_range.1 hi
  show sqc (rk W ((4 * k + i) / 4)) ((4 * k + i) % 4) = _
  rw [show (4 * k + i) / 4 = k by omega, show (4 * k + i) % 4 = i by omega]
theorem get_sqs (W : Nat → Nat → Nat) {k j i : Nat} (hj : j < k) (hi : i < 4) : (sqs W k)[4 * j + i]? = some (sqc (rk W j) i) := by
  unfold sqs
  rw [List.getElem?_map, List.getElem?_range (by omega)]
  show some (sqc (rk W ((4 * j + i) / 4)) ((4 * j + i) % 4)) = _
  rw [show (4 * j + i) / 4 = j by omega, show (4 * j + i) % 4 = i by omega]
theorem get_sqL4 {S : Nat → Nat → Nat} {i : Nat} {u : Value} (h : (sqL4 S)[i]? = some u) : i < 4 ∧ u = sqc S i := by
  have hi : i < 4 := by have := (List.getElem?_eq_some_iff.1 h).1; rwa [length_sqL4] at this
  refine ⟨hi, ?_⟩
  simp [sqL4, hi] at h
  exact h.symm
/-- All parts make a cipher. -/
theorem cip_of {w : World} {b n base : Nat} {T : TypeId} {v : Value} {W : Nat → Nat → Nat} (h : Blk w b T 1025 (cipK v)) (ho : w.ownsRow base 68 4 v (n + 1) (sqs W (n + 1))) : Cip w b n W := by
  obtain ⟨t1, t2, t3, t4⟩ := cipK_tabs h
  have hc := cipK_cell h
  obtain ⟨g, cap, rfl, _, hg⟩ := ho.form (by omega)
  have hcap : n + 1 ≤ cap ∧ cap ≤ maxLen := by
    rcases ho.2 with ⟨h1, _⟩ | ⟨g', cap', cur, h1, _, _, h4, h5, _⟩
    · cases h1
    · cases h1; exact ⟨h4, h5⟩
  refine ⟨g, cap, hg, hcap.1, by have := hcap.2; unfold maxLen at this; omega, hc, fun j hj i u hu => ?_, t1, t2, t3, t4⟩
  obtain ⟨hi, rfl⟩ := get_sqL4 hu
  have := ho.cells (g := g) rfl (4 * j + i) _ (get_sqs W (show j < n + 1 by omega) hi)
  rwa [show (⟨g, 0, none⟩ : Addr).add (4 * j + i) = ⟨g, 4 * j + i, none⟩ by unfold Addr.add; split <;> simp_all] at this
theorem own_noncell {w w' : World} {base size : Nat} {e : TypeId} {v : Value} {n : Nat} {xs : List Value} {row : Option Nat} (h : w.ownsRow base e size v n xs) (hg : w.grownBy w' row) (hr : ∀ r, row = some r → ∃ o : Obj, w.heap[r]? = some o ∧ o.isCells = false) : w'.ownsRow base e size v n xs := by
  refine h.kept hg ?_
  rcases h.2 with ⟨h2, _⟩ | ⟨g, cap, cur, h1, h2, h3, h4⟩
  · left; rw [h2]; rfl
  · right
    intro e1
    subst h1
    obtain ⟨o, ho, hc⟩ := hr g e1.symm
    rw [h3] at ho
    cases ho
    cases hc
theorem keeps_own {w w' : World} {B base size : Nat} {e : TypeId} {v : Value} {n : Nat} {xs : List Value} (h : w.ownsRow base e size v n xs) (hg : w.grownBy w' v.ownBlock) : KeepsFrom B w w' :=
  ⟨hg.size, fun k o _ hk ho => (hg.block k (Array.getElem?_eq_some_iff.1 hk).1 (fun e1 => by
    rcases h.2 with ⟨h2, _⟩ | ⟨g, cap, cur, h1, h2, h3, h4⟩
    · rw [h2] at e1; cases e1
    · rw [h1] at e1
      cases e1
      rw [h3] at hk
      cases hk
      cases ho)).trans hk⟩
theorem sq_fill (a b c d p q r s : Value) : Instr.fill (fun i => some (i * 4, 4)) #[p, q, r, s] [(0, .agg #[a, b, c, d])] = some #[a, b, c, d] := by
  simp [Instr.fill, Value.cells]
theorem sqInfo : ∃ i : TypeInfo, Try.prog.info? 68 = some i ∧ i.zero = some (.agg noSq) ∧ i.size = 4 ∧ i.bytes = 16 := ⟨_, rfl, by kernel_rfl, rfl, rfl⟩
theorem cRd.put {W : World} {Bx By g len cap l : Nat} {x : Obj} (h : cRd Bx By g len cap W) (x' : Obj) (hl : W.heap[l]? = some x) (hx : x.isCells = false) : cRd Bx By g len cap (W.putObj l x') :=
  ⟨cell_kept h.1 (grownBy_putObj' W l x') (fun r e => by cases e; exact ⟨x, hl, hx⟩), cell_kept h.2 (grownBy_putObj' W l x') (fun r e => by cases e; exact ⟨x, hl, hx⟩)⟩
/-- The words of the round keys, in their row. -/
theorem wd_range {w : World} {base g k c : Nat} {W : Nat → Nat → Nat} (h : w.ownsRow base 52 1 (.slice (some ⟨g, 0, none⟩) (4 * k) c) (4 * k) (wdL W (4 * k))) {j : Nat} (hj : j < k) : w.rangeAt g (4 * j) (sqL4 (rk W j)) := fun i u hu => by
  obtain ⟨hi, rfl⟩ := get_sqL4 hu
  exact own_wd h (show 4 * j + i < 4 * k by omega)
/-- The cells of the round keys that have come. -/
def sqF (W : Nat → Nat → Nat) {len : Nat} (pre : List (Fin len)) : List Value := pre.flatMap fun y => sqL4 (rk W y.1)
theorem sqF_snoc (W : Nat → Nat → Nat) {len : Nat} (pre : List (Fin len)) (y : Fin len) : sqF W (pre ++ [y]) = sqF W pre ++ sqL4 (rk W y.1) := by simp [sqF]
theorem sqF_all (W : Nat → Nat → Nat) {len : Nat} (ys : List (Fin len)) (hl : ys.length = len) (h : cBk len ys) : sqF W ys = sqs W len := by
  have key : ∀ k, k ≤ ys.length → sqF W (ys.take k) = sqs W k := by
    intro k
    induction k with
    | zero => intro _; rfl
    | succ k ih =>
      intro hk
      rw [List.take_succ_eq_append_getElem (by omega), sqF_snoc, ih (by omega), h.2 k (by omega), sqs_succ]
  have := key ys.length (Nat.le_refl _)
  rw [List.take_length, hl] at this
  exact this
theorem sq_fillA (S : Nat → Nat → Nat) : Instr.fill (fun i => some (i * 4, 4)) ((Array.range (1 * 4)).map ((Value.agg noSq).cells[· % (Value.agg noSq).cells.size]!)) [(0, .agg (sqL4 S).toArray)] = some (sqL4 S).toArray := by
  have e : ((Array.range (1 * 4)).map ((Value.agg noSq).cells[· % (Value.agg noSq).cells.size]!)) = #[.int .u32 0, .int .u32 0, .int .u32 0, .int .u32 0] := by kernel_rfl
  rw [e]
  exact sq_fill _ _ _ _ _ _ _ _
theorem own_ne {w : World} {base size : Nat} {e : TypeId} {v : Value} {n : Nat} {xs : List Value} (h : w.ownsRow base e size v n xs) {b : Nat} (hb : b < base) : some b ≠ v.ownBlock := fun e1 => by have := (h.lt b e1.symm).1; omega
theorem own_slice {w : World} {base size : Nat} {e : TypeId} {v : Value} {n : Nat} {xs : List Value} (h : w.ownsRow base e size v n xs) : ∃ a L c, v = .slice a L c := by
  rcases h.2 with ⟨h2, _⟩ | ⟨g, cap, cur, h1, _⟩
  · exact ⟨_, _, _, h2⟩
  · exact ⟨_, _, _, h1⟩
theorem own_caps {w : World} {base size g n L c : Nat} {e : TypeId} {xs : List Value} (h : w.ownsRow base e size (.slice (some ⟨g, 0, none⟩) L c) n xs) : L = n ∧ n ≤ c ∧ c ≤ 9223372036854775807 ∧ base ≤ g ∧ g < w.heap.size := by
  rcases h.2 with ⟨h1, _⟩ | ⟨g', cap', cur, h1, hb, hg, h4, h5, _⟩
  · cases h1
  · cases h1
    exact ⟨rfl, h4, by unfold maxLen at h5; omega, hb, (Array.getElem?_eq_some_iff.1 hg).1⟩
theorem Blk.same {w w' : World} {b n : Nat} {T : TypeId} {g : Nat → Value} (h : Blk w b T n g) (e : w'.heap[b]? = w.heap[b]?) : Blk w' b T n g := by unfold Blk at h ⊢; rw [e]; exact h
theorem cell_same {w w' : World} {b o : Nat} {v : Value} (h : w.cell? ⟨b, o, none⟩ = some v) (e : w'.heap[b]? = w.heap[b]?) : w'.cell? ⟨b, o, none⟩ = some v := (World.cell?_of_block (w := w) (a := ⟨b, o, none⟩) e).trans h
theorem range_same {w w' : World} {b o : Nat} {cs : List Value} (h : w.rangeAt b o cs) (e : w'.heap[b]? = w.heap[b]?) : w'.rangeAt b o cs := fun j v hv => cell_same (h j v hv) e
/-- What lies before the loop, behind a round of it. -/
theorem round_same {V V8 V9 : World} {base size : Nat} {e : TypeId} {v : Value} {n : Nat} {xs : List Value} (h8 : Below V.heap.size V V8) (ho : V8.ownsRow base e size v n xs) (h9 : V8.grownBy V9 v.ownBlock) (hB : base ≤ V.heap.size) {b : Nat} (hb : b < base) : V9.heap[b]? = V.heap[b]? :=
  (h9.block b (Nat.lt_of_lt_of_le (Nat.lt_of_lt_of_le hb hB) h8.size) (own_ne ho hb)).trans (h8.block b (by omega))
end Go.Proofs.Ytpfhfnhbholboaa
