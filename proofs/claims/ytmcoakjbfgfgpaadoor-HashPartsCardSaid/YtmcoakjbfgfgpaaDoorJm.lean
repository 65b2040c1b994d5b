/- Plain facts for package hash: words turned down, the words of a block, bytes that come in parts; the running sum's cells. -/
import Derived.Test.YtmcoakjbfgfgpaaDoorHs
import Derived.Test.YtmcoakjbfgfgpaaDoorPut
import Derived.Test.YtmcoakjbfgfgpaaDoorApp
import Derived.Deep.MidRow
import Derived.Maps.AppendAt
namespace Go.Proofs.YtmcoakjbfgfgpaaDoor
open Go.RowKit
set_option linter.unusedVariables false

theorem rotI_neg {n x : Nat} {m : Int} (hn1 : 1 ≤ n) (hn : n ≤ 31) (hm : m = -(n : Int)) : rotI 32 (x : Int) m = ((rr n x : Nat) : Int) := by
  subst hm
  unfold rotI rot rr
  have e : ((-(n : Int)) % ((32 : Nat) : Int)).toNat = 32 - n := by omega
  rw [e, Int.toNat_natCast, Nat.mod_eq_of_lt (show 32 - n < 32 by omega), show 32 - (32 - n) = n by omega, Nat.or_comm, show (2 : Nat) ^ 32 = 4294967296 by rfl]
theorem ad_perm (a b c d : Nat) : ad (ad (ad a b) c) d = ad (ad (ad d c) b) a := by unfold ad; omega
theorem getD_left {M N : List Int} {j : Nat} (h : j < M.length) : (M ++ N).getD j 0 = M.getD j 0 := by
  rw [List.getD_eq_getElem?_getD, List.getElem?_append_left h, ← List.getD_eq_getElem?_getD]
theorem getD_right {M N : List Int} {j : Nat} (h : M.length ≤ j) : (M ++ N).getD j 0 = N.getD (j - M.length) 0 := by
  rw [List.getD_eq_getElem?_getD, List.getElem?_append_right h, ← List.getD_eq_getElem?_getD]
theorem gw_append {M N : List Int} {j : Nat} (h : j + 4 ≤ M.length) : gw (M ++ N) j = gw M j := by
  unfold gw
  rw [getD_left (by omega), getD_left (by omega), getD_left (by omega), getD_left (by omega)]
theorem wsL_congr {m m' : Nat → Nat} (h : ∀ t, t < 16 → m t = m' t) : ∀ t, wsL m t = wsL m' t
  | 0 => rfl
  | t + 1 => by
    rw [wsL, wsL, wsL_congr h t]
    by_cases ht : t < 16
    · rw [if_pos ht, if_pos ht, h t ht]
    · rw [if_neg ht, if_neg ht]
theorem ws_congr {m m' : Nat → Nat} (h : ∀ t, t < 16 → m t = m' t) : ws m = ws m' := by
  funext j
  unfold ws
  rw [wsL_congr h]
theorem blkF_congr {h m m' : Nat → Nat} (e : ∀ t, t < 16 → m t = m' t) : blkF h m = blkF h m' := by
  funext i
  unfold blkF
  rw [ws_congr e]
theorem hF_append {M : List Int} (N : List Int) : ∀ j, 64 * j ≤ M.length → hF (M ++ N) j = hF M j
  | 0, _ => rfl
  | j + 1, h => by
    rw [hF, hF, hF_append N j (by omega)]
    exact blkF_congr fun t ht => by unfold mF; exact gw_append (by omega)
/-- A block that was gathered elsewhere. -/
theorem mF_block {M B : List Int} {q : Nat} (h : ∀ j, j < 64 → B.getD j 0 = M.getD (64 * q + j) 0) {t : Nat} (ht : t < 16) : mF B 0 t = mF M (64 * q) t := by
  unfold mF gw
  rw [h _ (by omega), h _ (by omega), h _ (by omega), h _ (by omega)]
  simp only [Nat.zero_add, Nat.add_assoc]
theorem getD_splice {W cs : List Int} {R : Nat} (h : R + cs.length ≤ W.length) (j : Nat) : (splice W R cs).getD j 0 = if R ≤ j ∧ j < R + cs.length then cs.getD (j - R) 0 else W.getD j 0 := by
  unfold splice
  have hl : (W.take R).length = R := by simp; omega
  by_cases h1 : j < R
  · rw [getD_left (by omega), if_neg (by omega)]
    simp [List.getD_eq_getElem?_getD, h1]
  · rw [getD_right (by omega), hl]
    by_cases h2 : j < R + cs.length
    · rw [getD_left (by omega), if_pos (by omega)]
    · rw [getD_right (by omega), if_neg (by omega)]
      simp only [List.getD_eq_getElem?_getD, List.getElem?_drop]
      congr 2
      omega
theorem length_splice {W cs : List Int} {R : Nat} (h : R + cs.length ≤ W.length) : (splice W R cs).length = W.length := by unfold splice; simp; omega
theorem splice_B {W cs : List Int} {R : Nat} (hW : AllB W) (hc : AllB cs) : AllB (splice W R cs) := fun y hy => by
  unfold splice at hy
  rcases List.mem_append.1 hy with h | h
  · exact hW y (List.mem_of_mem_take h)
  · rcases List.mem_append.1 h with h | h
    · exact hc y h
    · exact hW y (List.mem_of_mem_drop h)
/-- What of the bytes M so far waits in W. -/
def Wait (M W : List Int) : Prop := W.length = 64 ∧ AllB W ∧ ∀ j, j < M.length % 64 → W.getD j 0 = M.getD (64 * (M.length / 64) + j) 0
theorem wait_more {M W cs : List Int} (h : Wait M W) (hc : AllB cs) (hf : M.length % 64 + cs.length ≤ 64) :
    ∀ j, j < M.length % 64 + cs.length → (splice W (M.length % 64) cs).getD j 0 = (M ++ cs).getD (64 * (M.length / 64) + j) 0 := fun j hj => by
  rw [getD_splice (by rw [h.1]; omega)]
  by_cases h1 : j < M.length % 64
  · rw [if_neg (by omega), h.2.2 j h1, getD_left (by omega)]
  · rw [if_pos (by omega), getD_right (by omega)]
    congr 1
    omega
/-- Part of a block came. -/
theorem wait_part {M W cs : List Int} (h : Wait M W) (hc : AllB cs) (hf : M.length % 64 + cs.length < 64) :
    Wait (M ++ cs) (splice W (M.length % 64) cs) ∧ hF (M ++ cs) ((M ++ cs).length / 64) = hF M (M.length / 64) := by
  have e1 : (M ++ cs).length / 64 = M.length / 64 := by rw [List.length_append]; omega
  have e2 : (M ++ cs).length % 64 = M.length % 64 + cs.length := by rw [List.length_append]; omega
  refine ⟨⟨by rw [length_splice (by rw [h.1]; omega)]; exact h.1, splice_B h.2.1 hc, fun j hj => ?_⟩, ?_⟩
  · rw [e1]; exact wait_more h hc (by omega) j (by omega)
  · rw [e1]; exact hF_append cs _ (by omega)
/-- The rest of a block came. -/
theorem wait_full {M W cs : List Int} (h : Wait M W) (hc : AllB cs) (hf : M.length % 64 + cs.length = 64) :
    Wait (M ++ cs) (splice W (M.length % 64) cs) ∧ hF (M ++ cs) ((M ++ cs).length / 64) = blkF (hF M (M.length / 64)) (mF (splice W (M.length % 64) cs) 0) := by
  have e1 : (M ++ cs).length / 64 = M.length / 64 + 1 := by rw [List.length_append]; omega
  have e2 : (M ++ cs).length % 64 = 0 := by rw [List.length_append]; omega
  refine ⟨⟨by rw [length_splice (by rw [h.1]; omega)]; exact h.1, splice_B h.2.1 hc, fun j hj => by omega⟩, ?_⟩
  rw [e1, hF, hF_append cs _ (by omega)]
  refine (blkF_congr fun t ht => ?_).symm
  exact mF_block (fun j hj => wait_more h hc (by omega) j (by omega)) ht
theorem wait_nil : Wait [] (List.replicate 64 0) := ⟨by simp, fun y hy => by rw [(List.mem_replicate.1 hy).2]; omega, fun j hj => by simp at hj⟩
/-- The word of the first four bytes. -/
theorem numB4 {l : List Int} (h : AllB l) (hl : 4 ≤ l.length) : ((((0 * 256 + l.getD 0 0) * 256 + l.getD 1 0) * 256 + l.getD 2 0) * 256 + l.getD 3 0 : Int) = ((gw l 0 : Nat) : Int) := by
  unfold gw
  have h0 := allB_g h 0
  have h1 := allB_g h 1
  have h2 := allB_g h 2
  have h3 := allB_g h 3
  simp only [Nat.zero_add]
  omega
theorem be4_w4 (x : Nat) : be 4 (x : Int) = w4 x := by
  simp only [be, w4, List.range, List.range.loop, List.map]
  have e1 : ((x / 2 ^ 24 % 256 : Nat) : Int) = (x : Int) / 2 ^ (8 * (4 - 1 - 0)) % 256 := by simp
  have e2 : ((x / 2 ^ 16 % 256 : Nat) : Int) = (x : Int) / 2 ^ (8 * (4 - 1 - 1)) % 256 := by simp
  have e3 : ((x / 2 ^ 8 % 256 : Nat) : Int) = (x : Int) / 2 ^ (8 * (4 - 1 - 2)) % 256 := by simp
  have e4 : ((x % 256 : Nat) : Int) = (x : Int) / 2 ^ (8 * (4 - 1 - 3)) % 256 := by simp
  rw [e1, e2, e3, e4]
theorem w8L_take (x : Nat) : ∀ j, j ≤ 8 → w8L x j = (be 8 (x : Int)).take j
  | 0, _ => by simp [w8L]
  | j + 1, h => by
    rw [w8L, w8L_take x j (by omega), be_take_succ 8 _ j (by omega)]
    congr 2
theorem be8_w8 (x : Nat) : be 8 (x : Int) = w8L x 8 := by
  rw [w8L_take x 8 (Nat.le_refl _), List.take_of_length_le (by rw [length_be]; exact Nat.le_refl _)]
/-- The running sum's cells. -/
def runV (h : Nat → Nat) (W : List Int) (n j : Nat) : Value := if j < 8 then gV h j else if j < 72 then .int .u8 (W.getD (j - 8) 0) else .int .u64 ((n : Nat) : Int)
theorem runV_one (h : Nat → Nat) (W : List Int) (n j : Nat) : (runV h W n j).oneCell' = true := by
  unfold runV gV
  split
  · rfl
  · split <;> rfl
theorem runV_state {h : Nat → Nat} {W : List Int} {n j : Nat} (hj : j < 8) : runV h W n j = gV h j := by unfold runV; rw [if_pos hj]
theorem runV_wait {h : Nat → Nat} {W : List Int} {n j : Nat} (hj : j < 64) : runV h W n (8 + j) = .int .u8 (W.getD j 0) := by
  unfold runV; rw [if_neg (by omega), if_pos (by omega), show 8 + j - 8 = j by omega]
theorem runV_total (h : Nat → Nat) (W : List Int) (n : Nat) : runV h W n 72 = .int .u64 ((n : Nat) : Int) := by unfold runV; rw [if_neg (by omega), if_neg (by omega)]
/-- Cells laid into a row. -/
theorem splice_tabV {n o : Nat} {f : Nat → Value} {cs : List Value} (h : o + cs.length ≤ n) :
    ((tabV n f).toList.take o ++ (cs ++ (tabV n f).toList.drop (o + cs.length))).toArray = tabV n (fun j => if o ≤ j ∧ j < o + cs.length then cs.getD (j - o) (.bool false) else f j) := by
  apply Array.ext_getElem?
  intro j
  have hl : ((tabV n f).toList.take o).length = o := by simp [size_tabV]; omega
  rw [List.getElem?_toArray]
  by_cases h1 : j < o
  · rw [List.getElem?_append_left (by omega), get_tabV (by omega), if_neg (by omega), List.getElem?_take, if_pos h1, Array.getElem?_toList, get_tabV (by omega)]
  · rw [List.getElem?_append_right (by omega), hl]
    by_cases h2 : j < o + cs.length
    · rw [List.getElem?_append_left (by omega), get_tabV (by omega), if_pos (by omega), List.getD_eq_getElem?_getD, List.getElem?_eq_getElem (by omega)]
      rfl
    · rw [List.getElem?_append_right (by omega), List.getElem?_drop, Array.getElem?_toList, show o + cs.length + (j - o - cs.length) = j by omega]
      by_cases h3 : j < n
      · rw [get_tabV h3, get_tabV h3, if_neg (by omega)]
      · rw [Array.getElem?_eq_none (by rw [size_tabV]; omega), Array.getElem?_eq_none (by rw [size_tabV]; omega)]
theorem runV_copy {h : Nat → Nat} {W : List Int} {n R j : Nat} {cs : List Int} (hf : R + cs.length ≤ 64) (hW : W.length = 64) :
    (if 8 + R ≤ j ∧ j < 8 + R + (cs.map (Value.int .u8)).length then (cs.map (Value.int .u8)).getD (j - (8 + R)) (.bool false) else runV h W n j) = runV h (splice W R cs) n j := by
  unfold runV
  rw [List.length_map]
  by_cases h8 : j < 8
  · rw [if_neg (by omega), if_pos h8, if_pos h8]
  · by_cases h72 : j < 72
    · rw [if_neg h8, if_pos h72, if_neg h8, if_pos h72, getD_splice (by omega)]
      by_cases hr : R ≤ j - 8 ∧ j - 8 < R + cs.length
      · rw [if_pos (by omega), if_pos hr, List.getD_eq_getElem?_getD, List.getElem?_map, List.getElem?_eq_getElem (show j - (8 + R) < cs.length by omega), List.getD_eq_getElem?_getD, List.getElem?_eq_getElem (show j - 8 - R < cs.length by omega)]
        simp only [Option.map_some, Option.getD_some]
        congr 2
        omega
      · rw [if_neg (by omega), if_neg hr]
    · rw [if_neg (by omega), if_neg h8, if_neg h72, if_neg h8, if_neg h72]
theorem runV_add {h : Nat → Nat} {W : List Int} {n m j : Nat} (hj : j < 73) : (if j = 72 then .int .u64 (((n + m : Nat)) : Int) else runV h W n j) = runV h W (n + m) j := by
  unfold runV
  by_cases e : j = 72
  · subst e; rfl
  · rw [if_neg e]
    by_cases h8 : j < 8
    · rw [if_pos h8, if_pos h8]
    · rw [if_neg h8, if_neg h8, if_pos (show j < 72 by omega), if_pos (show j < 72 by omega)]
theorem getD_tabV {n : Nat} {g : Nat → Value} {j : Nat} (h : j < n) (u : Value) : (tabV n g).toList.getD j u = g j := by
  rw [List.getD_eq_getElem?_getD, Array.getElem?_toList, get_tabV h]; rfl
theorem below_but {w w' : World} (h : Below w.heap.size w w') (row : Option Nat) : w.grownBy w' row := ⟨h.os, h.tape, h.output, h.size, fun k hk _ => h.block k hk⟩
theorem setRow_but (w : World) (b : Nat) (cs : Array Value) : w.grownBy (w.setRow b cs) (some b) := ⟨rfl, rfl, rfl, by rw [setRow_size]; exact Nat.le_refl _, fun k hk hne => setRow_other w b k cs (fun e => hne (by rw [e]))⟩
theorem drewN_but (w : World) (q : Nat) (row : Option Nat) : w.grownBy (w.drewN q) row := ⟨rfl, rfl, rfl, Nat.le_refl _, fun _ _ _ => rfl⟩
theorem drew_but (w : World) (row : Option Nat) : w.grownBy w.drew row := ⟨rfl, rfl, rfl, Nat.le_refl _, fun _ _ _ => rfl⟩
theorem refl_but (w : World) (row : Option Nat) : w.grownBy w row := ⟨rfl, rfl, rfl, Nat.le_refl _, fun _ _ _ => rfl⟩
theorem but_below {w w' : World} {b B : Nat} (h : w.grownBy w' (some b)) (hB : B ≤ b) (hBs : B ≤ w.heap.size) : Below B w w' := ⟨h.os, h.tape, h.output, h.size, fun k hk => h.block k (by omega) (fun e => by injection e with e; omega)⟩
theorem cell_set_but (w : World) (b o : Nat) (v : Value) : w.grownBy (w.setCell ⟨b, o, none⟩ v) (some b) := ⟨rfl, rfl, rfl, by simp, fun k _ hk => heap_setCell_other w ⟨b, o, none⟩ k v (fun e => hk (by rw [e]))⟩
theorem sets_but (b : Nat) : ∀ (vs : List Value) (o : Nat) (w : World), w.grownBy (w.setCells b o vs) (some b)
  | [], _, w => ⟨rfl, rfl, rfl, Nat.le_refl _, fun _ _ _ => rfl⟩
  | v :: r, o, w => by rw [World.setCells]; exact (cell_set_but w b o v).trans (sets_but b r (o + 1) _)
theorem Blk.sets {b n : Nat} {T : TypeId} : ∀ (vs : List Value) (o : Nat) {w : World} {g : Nat → Value} (h : Nat → Value), Blk w b T n g → o + vs.length ≤ n → (∀ j, j < n → h j = if o ≤ j ∧ j < o + vs.length then vs.getD (j - o) undef else g j) → Blk (w.setCells b o vs) b T n h
  | [], o, w, g, h, hk, hn, hh => hk.congr fun j hj => by rw [hh j hj, if_neg (by simp)]
  | v :: r, o, w, g, h, hk, hn, hh => by
    rw [World.setCells]
    simp only [List.length_cons] at hn hh
    refine Blk.sets r (o + 1) h (hk.set (show o < n by omega) v) (by omega) (fun j hj => ?_)
    rw [hh j hj]
    by_cases e : j = o
    · subst e; simp; intro h1; omega
    · by_cases e2 : o + 1 ≤ j ∧ j < o + 1 + r.length
      · rw [if_pos (by omega), if_pos e2, show j - o = (j - (o + 1)) + 1 by omega]; rfl
      · rw [if_neg (by omega), if_neg e2, if_neg e]
theorem Blk.there {w : World} {b n : Nat} {T : TypeId} {g : Nat → Value} (h : Blk w b T n g) {o m : Nat} (hm : o + m ≤ n) : w.there b o m := fun j hj => ⟨by rw [h.cell (show o + j < n by omega)]; rfl, h.free _⟩
theorem Bs.but {w w' : World} {B g : Nat} {a : Option Addr} {l : List Int} (h : Bs w B a l) (hB : B ≤ w.heap.size) (hg : w.grownBy w' (some g)) (hne : ∀ b off, a = some ⟨b, off, none⟩ → b ≠ g) : Bs w' B a l := fun h0 => by
  obtain ⟨b, off, e, hb, hc⟩ := h h0
  refine ⟨b, off, e, hb, fun i hi => ?_⟩
  exact (World.cell?_of_block (w := w) (a := ⟨b, off + i, none⟩) (hg.block b (by omega) (fun e2 => hne b off e (by injection e2)))).trans (hc i hi)
theorem Blk.but {w w' : World} {b g : Nat} {T : TypeId} {n : Nat} {f : Nat → Value} (h : Blk w b T n f) (hg : w.grownBy w' (some g)) (hne : b ≠ g) : Blk w' b T n f := by
  unfold Blk; rw [hg.block b h.lt (fun e => hne (by injection e))]; exact h
end Go.Proofs.YtmcoakjbfgfgpaaDoor
