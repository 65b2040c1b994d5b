/- Texts of mine, one behind the other: QJ1. -/
import Derived.Test.YtappfdbmhgifcaaGreatDoorZS03
import Derived.Test.YtappfdbmhgifcaaGreatDoorZS05
import Derived.Test.YtappfdbmhgifcaaGreatDoorZS04
import Derived.Test.YtappfdbmhgifcaaGreatDoorZS06
import Derived.Test.YtappfdbmhgifcaaGreatDoorZS08
import Derived.Test.YtappfdbmhgifcaaGreatDoorZS01
import Derived.Deep.MidRow
import Derived.Maps.AppendAt
import Derived.Deep.QuietTactic
import Derived.BigQuiet
import Derived.ChangeAlike
import Derived.BigRegion
import Derived.Deep.WholeRow
import Derived.StillTailTactics
import Derived.Deep.DrawnRows
/- Texts of mine, one behind the other: Jm Jt Js Jk Jx. -/
/- Plain facts for package hash: words turned down, the words of a block, bytes that come in parts; the running sum's cells. -/
namespace Go.Proofs.YtappfdbmhgifcaaGreatDoor
open Go.RowKit
set_option linter.unusedVariables false

theorem rotI_neg {n x : Nat} {m : Int} (hn1 : 1 ≤ n) (hn : n ≤ 31) (hm : m = -(n : Int)) : rotI 32 (x : Int) m = ((rr n x : Nat) : Int) := by
  subst hm
  unfold rotI rot rr
  have e : ((-(n : Int)) % ((32 : Nat) : Int)).toNat = 32 - n := by omega
  rw [e, Int.toNat_natCast, Nat.mod_eq_of_lt (show 32 - n < 32 by omega), show 32 - (32 - n) = n by omega, Nat.or_comm, show (2 : Nat) ^ 32 = 4294967296 by rfl]
theorem ad_perm (a b c d : Nat) : ad (ad (ad a b) c) d = ad (ad (ad d c) b) a := by unfold ad; omega
theorem getD_left {M N : List Int} {j : Nat} (h : j < M.length) : (M ++ N).getD j 0 = M.getD j 0 := by
  rw [List.getD_eq_getElem?_getD, List.getElem?_append_left h, ← List.getD_eq_getElem?_getD]
theorem getD_right {M N : List Int} {j : Nat} (h : M.length ≤ j) : (M ++ N).getD j 0 = N.getD (j - M.length) 0 := by
  rw [List.getD_eq_getElem?_getD, List.getElem?_append_right h, ← List.getD_eq_getElem?_getD]
theorem gw_append {M N : List Int} {j : Nat} (h : j + 4 ≤ M.length) : gw (M ++ N) j = gw M j := by
  unfold gw
  rw [getD_left (by omega), getD_left (by omega), getD_left (by omega), getD_left (by omega)]
theorem wsL_congr {m m' : Nat → Nat} (h : ∀ t, t < 16 → m t = m' t) : ∀ t, wsL m t = wsL m' t
  | 0 => rfl
  | t + 1 => by
    rw [wsL, wsL, wsL_congr h t]
    by_cases ht : t < 16
    · rw [if_pos ht, if_pos ht, h t ht]
    · rw [if_neg ht, if_neg ht]
theorem ws_congr {m m' : Nat → Nat} (h : ∀ t, t < 16 → m t = m' t) : ws m = ws m' := by
  funext j
  unfold ws
  rw [wsL_congr h]
theorem blkF_congr {h m m' : Nat → Nat} (e : ∀ t, t < 16 → m t = m' t) : blkF h m = blkF h m' := by
  funext i
  unfold blkF
  rw [ws_congr e]
theorem hF_append {M : List Int} (N : List Int) : ∀ j, 64 * j ≤ M.length → hF (M ++ N) j = hF M j
  | 0, _ => rfl
  | j + 1, h => by
    rw [hF, hF, hF_append N j (by omega)]
    exact blkF_congr fun t ht => by unfold mF; exact gw_append (by omega)
/-- A block that was gathered elsewhere. -/
theorem mF_block {M B : List Int} {q : Nat} (h : ∀ j, j < 64 → B.getD j 0 = M.getD (64 * q + j) 0) {t : Nat} (ht : t < 16) : mF B 0 t = mF M (64 * q) t := by
  unfold mF gw
  rw [h _ (by omega), h _ (by omega), h _ (by omega), h _ (by omega)]
  simp only [Nat.zero_add, Nat.add_assoc]
theorem getD_splice {W cs : List Int} {R : Nat} (h : R + cs.length ≤ W.length) (j : Nat) : (splice W R cs).getD j 0 = if R ≤ j ∧ j < R + cs.length then cs.getD (j - R) 0 else W.getD j 0 := by
  unfold splice
  have hl : (W.take R).length = R := by simp; omega
  by_cases h1 : j < R
  · rw [getD_left (by omega), if_neg (by omega)]
    simp [List.getD_eq_getElem?_getD, h1]
  · rw [getD_right (by omega), hl]
    by_cases h2 : j < R + cs.length
    · rw [getD_left (by omega), if_pos (by omega)]
    · rw [getD_right (by omega), if_neg (by omega)]
      simp only [List.getD_eq_getElem?_getD, List.getElem?_drop]
      congr 2
      omega
theorem length_splice {W cs : List Int} {R : Nat} (h : R + cs.length ≤ W.length) : (splice W R cs).length = W.length := by unfold splice; simp; omega
theorem splice_B {W cs : List Int} {R : Nat} (hW : AllB W) (hc : AllB cs) : AllB (splice W R cs) := fun y hy => by
  unfold splice at hy
  rcases List.mem_append.1 hy with h | h
  · exact hW y (List.mem_of_mem_take h)
  · rcases List.mem_append.1 h with h | h
    · exact hc y h
    · exact hW y (List.mem_of_mem_drop h)
/-- What of the bytes M so far waits in W. -/
def Wait (M W : List Int) : Prop := W.length = 64 ∧ AllB W ∧ ∀ j, j < M.length % 64 → W.getD j 0 = M.getD (64 * (M.length / 64) + j) 0
theorem wait_more {M W cs : List Int} (h : Wait M W) (hc : AllB cs) (hf : M.length % 64 + cs.length ≤ 64) :
    ∀ j, j < M.length % 64 + cs.length → (splice W (M.length % 64) cs).getD j 0 = (M ++ cs).getD (64 * (M.length / 64) + j) 0 := fun j hj => by
  rw [getD_splice (by rw [h.1]; omega)]
  by_cases h1 : j < M.length % 64
  · rw [if_neg (by omega), h.2.2 j h1, getD_left (by omega)]
  · rw [if_pos (by omega), getD_right (by omega)]
    congr 1
    omega
/-- Part of a block came. -/
theorem wait_part {M W cs : List Int} (h : Wait M W) (hc : AllB cs) (hf : M.length % 64 + cs.length < 64) :
    Wait (M ++ cs) (splice W (M.length % 64) cs) ∧ hF (M ++ cs) ((M ++ cs).length / 64) = hF M (M.length / 64) := by
  have e1 : (M ++ cs).length / 64 = M.length / 64 := by rw [List.length_append]; omega
  have e2 : (M ++ cs).length % 64 = M.length % 64 + cs.length := by rw [List.length_append]; omega
  refine ⟨⟨by rw [length_splice (by rw [h.1]; omega)]; exact h.1, splice_B h.2.1 hc, fun j hj => ?_⟩, ?_⟩
  · rw [e1]; exact wait_more h hc (by omega) j (by omega)
  · rw [e1]; exact hF_append cs _ (by omega)
/-- The rest of a block came. -/
theorem wait_full {M W cs : List Int} (h : Wait M W) (hc : AllB cs) (hf : M.length % 64 + cs.length = 64) :
    Wait (M ++ cs) (splice W (M.length % 64) cs) ∧ hF (M ++ cs) ((M ++ cs).length / 64) = blkF (hF M (M.length / 64)) (mF (splice W (M.length % 64) cs) 0) := by
  have e1 : (M ++ cs).length / 64 = M.length / 64 + 1 := by rw [List.length_append]; omega
  have e2 : (M ++ cs).length % 64 = 0 := by rw [List.length_append]; omega
  refine ⟨⟨by rw [length_splice (by rw [h.1]; omega)]; exact h.1, splice_B h.2.1 hc, fun j hj => by omega⟩, ?_⟩
  rw [e1, hF, hF_append cs _ (by omega)]
  refine (blkF_congr fun t ht => ?_).symm
  exact mF_block (fun j hj => wait_more h hc (by omega) j (by omega)) ht
theorem wait_nil : Wait [] (List.replicate 64 0) := ⟨by simp, fun y hy => by rw [(List.mem_replicate.1 hy).2]; omega, fun j hj => by simp at hj⟩
/-- The word of the first four bytes. -/
theorem numB4 {l : List Int} (h : AllB l) (hl : 4 ≤ l.length) : ((((0 * 256 + l.getD 0 0) * 256 + l.getD 1 0) * 256 + l.getD 2 0) * 256 + l.getD 3 0 : Int) = ((gw l 0 : Nat) : Int) := by
  unfold gw
  have h0 := allB_g h 0
  have h1 := allB_g h 1
  have h2 := allB_g h 2
  have h3 := allB_g h 3
  simp only [Nat.zero_add]
  omega
theorem be4_w4 (x : Nat) : be 4 (x : Int) = w4 x := by
  simp only [be, w4, List.range, List.range.loop, List.map]
  have e1 : ((x / 2 ^ 24 % 256 : Nat) : Int) = (x : Int) / 2 ^ (8 * (4 - 1 - 0)) % 256 := by simp
  have e2 : ((x / 2 ^ 16 % 256 : Nat) : Int) = (x : Int) / 2 ^ (8 * (4 - 1 - 1)) % 256 := by simp
  have e3 : ((x / 2 ^ 8 % 256 : Nat) : Int) = (x : Int) / 2 ^ (8 * (4 - 1 - 2)) % 256 := by simp
  have e4 : ((x % 256 : Nat) : Int) = (x : Int) / 2 ^ (8 * (4 - 1 - 3)) % 256 := by simp
  rw [e1, e2, e3, e4]
theorem w8L_take (x : Nat) : ∀ j, j ≤ 8 → w8L x j = (be 8 (x : Int)).take j
  | 0, _ => by simp [w8L]
  | j + 1, h => by
    rw [w8L, w8L_take x j (by omega), be_take_succ 8 _ j (by omega)]
    congr 2
theorem be8_w8 (x : Nat) : be 8 (x : Int) = w8L x 8 := by
  rw [w8L_take x 8 (Nat.le_refl _), List.take_of_length_le (by rw [length_be]; exact Nat.le_refl _)]
/-- The running sum's cells. -/
def runV (h : Nat → Nat) (W : List Int) (n j : Nat) : Value := if j < 8 then gV h j else if j < 72 then .int .u8 (W.getD (j - 8) 0) else .int .u64 ((n : Nat) : Int)
theorem runV_one (h : Nat → Nat) (W : List Int) (n j : Nat) : (runV h W n j).oneCell' = true := by
  unfold runV gV
  split
  · rfl
  · split <;> rfl
theorem runV_state {h : Nat → Nat} {W : List Int} {n j : Nat} (hj : j < 8) : runV h W n j = gV h j := by unfold runV; rw [if_pos hj]
theorem runV_wait {h : Nat → Nat} {W : List Int} {n j : Nat} (hj : j < 64) : runV h W n (8 + j) = .int .u8 (W.getD j 0) := by
  unfold runV; rw [if_neg (by omega), if_pos (by omega), show 8 + j - 8 = j by omega]
theorem runV_total (h : Nat → Nat) (W : List Int) (n : Nat) : runV h W n 72 = .int .u64 ((n : Nat) : Int) := by unfold runV; rw [if_neg (by omega), if_neg (by omega)]
/-- Cells laid into a row. -/
theorem splice_tabV {n o : Nat} {f : Nat → Value} {cs : List Value} (h : o + cs.length ≤ n) :
    ((tabV n f).toList.take o ++ (cs ++ (tabV n f).toList.drop (o + cs.length))).toArray = tabV n (fun j => if o ≤ j ∧ j < o + cs.length then cs.getD (j - o) (.bool false) else f j) := by
  apply Array.ext_getElem?
  intro j
  have hl : ((tabV n f).toList.take o).length = o := by simp [size_tabV]; omega
  rw [List.getElem?_toArray]
  by_cases h1 : j < o
  · rw [List.getElem?_append_left (by omega), get_tabV (by omega), if_neg (by omega), List.getElem?_take, if_pos h1, Array.getElem?_toList, get_tabV (by omega)]
  · rw [List.getElem?_append_right (by omega), hl]
    by_cases h2 : j < o + cs.length
    · rw [List.getElem?_append_left (by omega), get_tabV (by omega), if_pos (by omega), List.getD_eq_getElem?_getD, List.getElem?_eq_getElem (by omega)]
      rfl
    · rw [List.getElem?_append_right (by omega), List.getElem?_drop, Array.getElem?_toList, show o + cs.length + (j - o - cs.length) = j by omega]
      by_cases h3 : j < n
      · rw [get_tabV h3, get_tabV h3, if_neg (by omega)]
      · rw [Array.getElem?_eq_none (by rw [size_tabV]; omega), Array.getElem?_eq_none (by rw [size_tabV]; omega)]
theorem runV_copy {h : Nat → Nat} {W : List Int} {n R j : Nat} {cs : List Int} (hf : R + cs.length ≤ 64) (hW : W.length = 64) :
    (if 8 + R ≤ j ∧ j < 8 + R + (cs.map (Value.int .u8)).length then (cs.map (Value.int .u8)).getD (j - (8 + R)) (.bool false) else runV h W n j) = runV h (splice W R cs) n j := by
  unfold runV
  rw [List.length_map]
  by_cases h8 : j < 8
  · rw [if_neg (by omega), if_pos h8, if_pos h8]
  · by_cases h72 : j < 72
    · rw [if_neg h8, if_pos h72, if_neg h8, if_pos h72, getD_splice (by omega)]
      by_cases hr : R ≤ j - 8 ∧ j - 8 < R + cs.length
      · rw [if_pos (by omega), if_pos hr, List.getD_eq_getElem?_getD, List.getElem?_map, List.getElem?_eq_getElem (show j - (8 + R) < cs.length by omega), List.getD_eq_getElem?_getD, List.getElem?_eq_getElem (show j - 8 - R < cs.length by omega)]
        simp only [Option.map_some, Option.getD_some]
        congr 2
        omega
      · rw [if_neg (by omega), if_neg hr]
    · rw [if_neg (by omega), if_neg h8, if_neg h72, if_neg h8, if_neg h72]
theorem runV_add {h : Nat → Nat} {W : List Int} {n m j : Nat} (hj : j < 73) : (if j = 72 then .int .u64 (((n + m : Nat)) : Int) else runV h W n j) = runV h W (n + m) j := by
  unfold runV
  by_cases e : j = 72
  · subst e; rfl
  · rw [if_neg e]
    by_cases h8 : j < 8
    · rw [if_pos h8, if_pos h8]
    · rw [if_neg h8, if_neg h8, if_pos (show j < 72 by omega), if_pos (show j < 72 by omega)]
theorem getD_tabV {n : Nat} {g : Nat → Value} {j : Nat} (h : j < n) (u : Value) : (tabV n g).toList.getD j u = g j := by
  rw [List.getD_eq_getElem?_getD, Array.getElem?_toList, get_tabV h]; rfl
theorem refl_but (w : World) (row : Option Nat) : w.grownBy w row := ⟨rfl, rfl, rfl, Nat.le_refl _, fun _ _ _ => rfl⟩
theorem Bs.but {w w' : World} {B g : Nat} {a : Option Addr} {l : List Int} (h : Bs w B a l) (hB : B ≤ w.heap.size) (hg : w.grownBy w' (some g)) (hne : ∀ b off, a = some ⟨b, off, none⟩ → b ≠ g) : Bs w' B a l := fun h0 => by
  obtain ⟨b, off, e, hb, hc⟩ := h h0
  refine ⟨b, off, e, hb, fun i hi => ?_⟩
  exact (World.cell?_of_block (w := w) (a := ⟨b, off + i, none⟩) (hg.block b (by omega) (fun e2 => hne b off e (by injection e2)))).trans (hc i hi)
theorem Blk.but {w w' : World} {b g : Nat} {T : TypeId} {n : Nat} {f : Nat → Value} (h : Blk w b T n f) (hg : w.grownBy w' (some g)) (hne : b ≠ g) : Blk w' b T n f := by
  unfold Blk; rw [hg.block b h.lt (fun e => hne (by injection e))]; exact h
end Go.Proofs.YtappfdbmhgifcaaGreatDoor
/- Contracts for package hash: words turned down, turns; Get of four bytes. -/
namespace Go.Proofs.YtappfdbmhgifcaaGreatDoor
open Go.ChangeShapes Go.WideShapes Go.ChangeAt Go.RowKit
set_option linter.unusedVariables false
set_option maxRecDepth 100000

theorem getV4 {l : List Int} (h : AllB l) (hl : 4 ≤ l.length) : getV 4 l = ((gw l 0 : Nat) : Int) := by
  rw [getV_num hl, ← numB4 h hl]
  match l, hl with
  | a :: b :: c :: d :: r, _ => rfl
theorem get_word (a : Option Addr) (L c : Nat) (l : List Int) (w : World) (hl : l.length = L) (hB : AllB l) (hb : Bs w w.heap.size a l) (h4 : 4 ≤ L) (hL : L ≤ 64) :
    Calls Tryz.prog 164 #[.slice a L c] w fun e w' => e = .returned (.tuple #[.int .u32 ((gw l 0 : Nat) : Int), .bool true]) ∧ w = w' := by
  refine (get32 a L c l w hl hB hb (by omega)).mono fun e w' ⟨h1, h2⟩ => ⟨?_, h2⟩
  rw [h1]
  exact ret_tup (getV4 hB (by omega)) (decide_eq_true h4)
theorem turn_neg (x n : Nat) (m : Int) (hm : m = -(n : Int)) (h1 : 1 ≤ n) (h31 : n ≤ 31) (hx : x < 4294967296) (w : World) :
    Calls Tryz.prog 147 #[.int .u32 (x : Nat), .int .i64 m] w fun e w' => e = .returned (.int .u32 ((rr n x : Nat) : Int)) ∧ ∃ j, w' = w.drewN j := by
  refine (turn32 (x : Nat) m (mk_u32 (by omega) (by omega)) (mk_i64 (by omega) (by omega)) w).mono fun e w' ⟨e1, e2⟩ => ⟨?_, e2⟩
  rw [e1]
  exact ret_int (rotI_neg h1 h31 hm)
set_option maxHeartbeats 1000000 in
theorem turns_e (x : Nat) (hx : x < 4294967296) (w : World) :
    Calls Tryz.prog 170 #[.int .u32 (x : Nat), .int .i64 6, .int .i64 11, .int .i64 25] w fun e w' => e = .returned (.int .u32 ((Sg1 x : Nat) : Int)) ∧ ∃ j, w' = w.drewN j := by
  obtain ⟨p1, f1⟩ : ∃ p, p = rr 6 x := ⟨_, rfl⟩
  obtain ⟨p2, f2⟩ : ∃ p, p = rr 11 x := ⟨_, rfl⟩
  obtain ⟨p3, f3⟩ : ∃ p, p = rr 25 x := ⟨_, rfl⟩
  have lp1 : p1 < 4294967296 := by rw [f1]; exact rr_lt hx _
  have lp2 : p2 < 4294967296 := by rw [f2]; exact rr_lt hx _
  have lp3 : p3 < 4294967296 := by rw [f3]; exact rr_lt hx _
  have H1 := Lib.hid (show ∀ W : World, Calls Tryz.prog 147 #[.int .u32 (x : Nat), .int .i64 (-6)] W fun e w' => e = .returned (.int .u32 ((p1 : Nat) : Int)) ∧ ∃ j, w' = W.drewN j from fun W => by rw [f1]; exact turn_neg x 6 (-6) (by decide) (by omega) (by omega) hx W)
  have H2 := Lib.hid (show ∀ W : World, Calls Tryz.prog 147 #[.int .u32 (x : Nat), .int .i64 (-11)] W fun e w' => e = .returned (.int .u32 ((p2 : Nat) : Int)) ∧ ∃ j, w' = W.drewN j from fun W => by rw [f2]; exact turn_neg x 11 (-11) (by decide) (by omega) (by omega) hx W)
  have H3 := Lib.hid (show ∀ W : World, Calls Tryz.prog 147 #[.int .u32 (x : Nat), .int .i64 (-25)] W fun e w' => e = .returned (.int .u32 ((p3 : Nat) : Int)) ∧ ∃ j, w' = W.drewN j from fun W => by rw [f3]; exact turn_neg x 25 (-25) (by decide) (by omega) (by omega) hx W)
  have r1 : bits .xor .u32 (p1 : Int) (p2 : Int) = ((p1 ^^^ p2 : Nat) : Int) := u32_xor_nat _ _ lp1 lp2
  have r2 : bits .xor .u32 ((p1 ^^^ p2 : Nat) : Int) (p3 : Int) = ((p1 ^^^ p2 ^^^ p3 : Nat) : Int) := u32_xor_nat _ _ (xor32 lp1 lp2) lp3
  obtain ⟨q, hq⟩ : ∃ q, q = p1 ^^^ p2 := ⟨_, rfl⟩
  rw [← hq] at r1 r2
  obtain ⟨z, hz⟩ : ∃ z, z = q ^^^ p3 := ⟨_, rfl⟩
  rw [← hz] at r2
  have HZ := Lib.hid (show (z : Int) = ((Sg1 x : Nat) : Int) by rw [hz, hq, f1, f2, f3]; rfl)
  clear f1 f2 f3 hq hz lp1 lp2 lp3
  go_enter Tryz.func170, Tryz.ntmps170
  go_wp2_with (first
    | (go_at_call 147; (with_reducible refine (H1.out _).mono ?_); rintro e w' ⟨rfl, n1, rfl⟩)
    | (go_at_call 147; (with_reducible refine (H2.out _).mono ?_); rintro e w' ⟨rfl, n2, rfl⟩)
    | (go_at_call 147; (with_reducible refine (H3.out _).mono ?_); rintro e w' ⟨rfl, n3, rfl⟩))
  go_ret
  exact ⟨ret_int HZ.out, _, rfl⟩
set_option maxHeartbeats 1000000 in
theorem turns_a (x : Nat) (hx : x < 4294967296) (w : World) :
    Calls Tryz.prog 170 #[.int .u32 (x : Nat), .int .i64 2, .int .i64 13, .int .i64 22] w fun e w' => e = .returned (.int .u32 ((Sg0 x : Nat) : Int)) ∧ ∃ j, w' = w.drewN j := by
  obtain ⟨p1, f1⟩ : ∃ p, p = rr 2 x := ⟨_, rfl⟩
  obtain ⟨p2, f2⟩ : ∃ p, p = rr 13 x := ⟨_, rfl⟩
  obtain ⟨p3, f3⟩ : ∃ p, p = rr 22 x := ⟨_, rfl⟩
  have lp1 : p1 < 4294967296 := by rw [f1]; exact rr_lt hx _
  have lp2 : p2 < 4294967296 := by rw [f2]; exact rr_lt hx _
  have lp3 : p3 < 4294967296 := by rw [f3]; exact rr_lt hx _
  have H1 := Lib.hid (show ∀ W : World, Calls Tryz.prog 147 #[.int .u32 (x : Nat), .int .i64 (-2)] W fun e w' => e = .returned (.int .u32 ((p1 : Nat) : Int)) ∧ ∃ j, w' = W.drewN j from fun W => by rw [f1]; exact turn_neg x 2 (-2) (by decide) (by omega) (by omega) hx W)
  have H2 := Lib.hid (show ∀ W : World, Calls Tryz.prog 147 #[.int .u32 (x : Nat), .int .i64 (-13)] W fun e w' => e = .returned (.int .u32 ((p2 : Nat) : Int)) ∧ ∃ j, w' = W.drewN j from fun W => by rw [f2]; exact turn_neg x 13 (-13) (by decide) (by omega) (by omega) hx W)
  have H3 := Lib.hid (show ∀ W : World, Calls Tryz.prog 147 #[.int .u32 (x : Nat), .int .i64 (-22)] W fun e w' => e = .returned (.int .u32 ((p3 : Nat) : Int)) ∧ ∃ j, w' = W.drewN j from fun W => by rw [f3]; exact turn_neg x 22 (-22) (by decide) (by omega) (by omega) hx W)
  have r1 : bits .xor .u32 (p1 : Int) (p2 : Int) = ((p1 ^^^ p2 : Nat) : Int) := u32_xor_nat _ _ lp1 lp2
  have r2 : bits .xor .u32 ((p1 ^^^ p2 : Nat) : Int) (p3 : Int) = ((p1 ^^^ p2 ^^^ p3 : Nat) : Int) := u32_xor_nat _ _ (xor32 lp1 lp2) lp3
  obtain ⟨q, hq⟩ : ∃ q, q = p1 ^^^ p2 := ⟨_, rfl⟩
  rw [← hq] at r1 r2
  obtain ⟨z, hz⟩ : ∃ z, z = q ^^^ p3 := ⟨_, rfl⟩
  rw [← hz] at r2
  have HZ := Lib.hid (show (z : Int) = ((Sg0 x : Nat) : Int) by rw [hz, hq, f1, f2, f3]; rfl)
  clear f1 f2 f3 hq hz lp1 lp2 lp3
  go_enter Tryz.func170, Tryz.ntmps170
  go_wp2_with (first
    | (go_at_call 147; (with_reducible refine (H1.out _).mono ?_); rintro e w' ⟨rfl, n1, rfl⟩)
    | (go_at_call 147; (with_reducible refine (H2.out _).mono ?_); rintro e w' ⟨rfl, n2, rfl⟩)
    | (go_at_call 147; (with_reducible refine (H3.out _).mono ?_); rintro e w' ⟨rfl, n3, rfl⟩))
  go_ret
  exact ⟨ret_int HZ.out, _, rfl⟩
theorem arr64 : Tryz.prog.underlying 167 = some (.array (Tryz.prog.arrayLen 167) (Tryz.prog.elem 167)) := by kernel_rfl
theorem len64 : Tryz.prog.arrayLen 167 = 64 := by kernel_rfl
theorem size64u (W : World) : (sizeOf (Tryz.prog.elem 167)).run Tryz.prog W = .ok 1 W := by kernel_rfl
theorem slice64 (W : World) (g o k : Nat) (kk : IntKind) (z : Int) (hz : z = (k : Int)) (hk : k < 64) :
    (Instr.sliceAt 167 (.pointer (some ⟨g, o, none⟩)) (some (.int kk z)) none none).run Tryz.prog W = .ok (.slice (some ⟨g, o + k, none⟩) (64 - k) (64 - k)) W := by
  rw [run_sliceAt_array_l W 167 ⟨g, o, none⟩ arr64 kk z (by omega) (by rw [len64]; omega), size64u, len64]
  have e : z.toNat = k := by omega
  show Result.ok (slicedAt _ _ _ _ _) W = _
  unfold slicedAt
  rw [e, if_neg (by omega), Nat.mul_one]
  simp [Addr.add]
end Go.Proofs.YtappfdbmhgifcaaGreatDoor
/- The contract of hash.spread: a block's words, one for each round. -/
namespace Go.Proofs.YtappfdbmhgifcaaGreatDoor
open Go.ChangeShapes Go.WideShapes Go.ChangeAt Go.RowKit
set_option linter.unusedVariables false
set_option maxRecDepth 100000

set_option maxHeartbeats 1000000 in
theorem hspread_any (g o : Nat) (B : List Int) (w : World) (hB : AllB B) (hl : B.length = 64) (hc : ∀ i, i < 64 → w.cell? ⟨g, o + i, none⟩ = some (.int .u8 (B.getD i 0))) (hg : g < w.heap.size) :
    Calls Tryz.prog 169 #[.pointer (some ⟨g, o, none⟩)] w fun e w' => e = .returned (.agg (tabV 64 (gV (ws (mF B 0))))) ∧ Below w.heap.size w w' := by
  have HBB := Lib.hid hB
  have HCC := Lib.hid hc
  have HG := Lib.hid hg
  have HBL := Lib.hid hl
  have HML := Lib.hid (show ∀ t, mF B 0 t < 4294967296 from fun t => gw_lt hB _)
  obtain ⟨m, hm⟩ : ∃ m, m = mF B 0 := ⟨_, rfl⟩
  rw [← hm] at HML ⊢
  have HM := Lib.hid hm
  clear hm hB hc hg hl
  obtain ⟨hz, hi⟩ := zero_of_info infoK
  rw [replicate_tabV] at hz
  obtain ⟨c0, hc0⟩ : ∃ c0 : Array Value, c0 = tabV 64 fun _ => .int .u32 0 := ⟨_, rfl⟩
  rw [← hc0] at hz
  have hsz : c0.size = 64 := by rw [hc0, size_tabV]
  have h1 : c0.all (·.oneCell') = true := by rw [hc0]; exact tabV_one fun _ => rfl
  obtain ⟨W0, hW0⟩ : ∃ W, W = w.alloc (.cells c0 116) := ⟨_, rfl⟩
  have hs0 : W0.heap.size = w.heap.size + 1 := by rw [hW0]; simp
  have HR0 := Lib.hid (show Blk W0 w.heap.size 116 64 (fun _ => .int .u32 0) by rw [hW0, hc0]; exact Blk.made _ _ _ _)
  have HB0 := Lib.hid (show Below w.heap.size w W0 by rw [hW0]; exact (Below.refl _ _).alloc (Nat.le_refl _) _)
  have hsc : (storeCells ⟨w.heap.size + 1, 0, none⟩ c0.toList 0).run Tryz.prog (W0.alloc (.cells c0 116)) = .ok () (W0.alloc (.cells c0 116)) := by
    have h := run_storeCells_new (P := Tryz.prog) W0 116 c0 c0 (by rw [hi, hsz]) rfl h1
    rw [hs0] at h
    exact h
  rw [hW0] at hsc
  have HC0 := Lib.hid hc0
  have HW0 := Lib.hid hW0
  have HS0 := Lib.hid hs0
  clear hc0 hi h1 hW0 hs0
  go_enter Tryz.func169, Tryz.ntmps169
  go_wp2_with fail
  clear hsc hz hsz
  rw [← HW0.out, ← HS0.out]
  obtain ⟨b2, hb2⟩ : ∃ b, b = w.heap.size := ⟨_, rfl⟩
  obtain ⟨b3, hb3⟩ : ∃ b, b = W0.heap.size := ⟨_, rfl⟩
  have HBK := Lib.hid (show Blk (W0.alloc (.cells c0 116)) b3 116 64 (fV (ws m) 0) by
    rw [HC0.out, hb3]
    exact (Blk.made _ _ _ _).congr fun j hj => (fV_zero (ws m) j).symm)
  rw [← hb2] at HR0
  have HBE := Lib.hid (show Below b3 W0 (W0.alloc (.cells c0 116)) by rw [hb3]; exact (Below.refl _ _).alloc (Nat.le_refl _) _)
  have HLT := Lib.hid (show b2 < b3 by rw [hb2, hb3, HS0.out]; omega)
  have HLE := Lib.hid (show W0.heap.size ≤ b3 by rw [hb3]; exact Nat.le_refl _)
  have HGB := Lib.hid (show g < b3 by rw [hb3, HS0.out]; have := HG.out; omega)
  have HC1 := Lib.hid (show ∀ i, i < 64 → W0.cell? ⟨g, o + i, none⟩ = some (.int .u8 (B.getD i 0)) from fun i hi => (World.cell?_of_block (w := w) (a := ⟨g, o + i, none⟩) (HB0.out.block g HG.out)).trans (HCC.out i hi))
  rw [← hb2, ← hb3]
  have HB2 := Lib.hid hb2
  clear hb2 hb3 HC0 HS0 HW0 HCC
  go_loopw [9] (fun s wr => ∃ i : Nat, i ≤ 16 ∧ s = .int .i64 (i : Nat) ∧ Blk wr b3 116 64 (fV (ws m) i) ∧ Below b3 W0 wr) (fun s _ => 16 - (intOf s).toNat)
  case atStart => exact ⟨0, by omega, rfl, HBK.out, HBE.out⟩
  case round =>
    obtain ⟨i, hi, rfl, hK, hB⟩ := hrel
    rename World => V
    have HK := Lib.hid hK
    have HB := Lib.hid hB
    clear hK hB HBK HBE
    by_cases hlt : i < 16
    · have qi : (i : Int) < 16 := by omega
      have qi0 : (0 : Int) ≤ (i : Int) := by omega
      have hlen : (B.drop (4 * i)).length = 64 - 4 * i := by rw [List.length_drop, HBL.out]
      have HGET := Lib.hid (get_word (some ⟨g, o + 4 * i, none⟩) (64 - 4 * i) (64 - 4 * i) (B.drop (4 * i)) V hlen (fun x hx => HBB.out x (List.mem_of_mem_drop hx)) (fun _ => ⟨g, o + 4 * i, rfl, (by have := HGB.out; have := HB.out.size; have := HK.out.lt; omega), fun j hj => by
        rw [Nat.add_assoc, show (B.drop (4 * i)).getD j 0 = B.getD (4 * i + j) 0 by simp [List.getD_eq_getElem?_getD]]
        exact (World.cell?_of_block (w := W0) (a := ⟨g, o + (4 * i + j), none⟩) (HB.out.block g HGB.out)).trans (HC1.out _ (by omega))⟩) (by omega) (by omega))
      have e1 : gw (B.drop (4 * i)) 0 = ws m i := by
        rw [ws_first m hlt, HM.out]
        unfold mF gw
        simp only [List.getD_eq_getElem?_getD, List.getElem?_drop, Nat.zero_add, Nat.add_zero, Nat.add_assoc]
      rw [e1] at HGET
      have hf1 := HK.out.free i
      have HLT2 := Lib.hid hlt
      obtain ⟨z, hz⟩ : ∃ z, z = ws m i := ⟨_, rfl⟩
      rw [← hz] at HGET
      have HZ := Lib.hid hz
      have hcell := HK.out.cell (j := i) (by omega)
      have hsl : ∀ U : World, (Instr.sliceAt 167 (.pointer (some ⟨g, o, none⟩)) (some (.int .i64 (4 * (i : Int)))) none none).run Tryz.prog U = .ok (.slice (some ⟨g, o + 4 * i, none⟩) (64 - 4 * i) (64 - 4 * i)) U := fun U => slice64 U g o (4 * i) .i64 _ (by omega) (by omega)
      clear hlen e1 hz hlt
      go_wp2_with (go_at_call 164; go_loud ((with_reducible refine HGET.out.mono ?_); rintro e w' ⟨rfl, rfl⟩))
      go_roundw
      case rel => exact ⟨i + 1, by have := HLT2.out; omega, by go_num, (HK.out.set (by have := HLT2.out; omega) _).congr fun j _ => by rw [HZ.out]; exact fV_set (ws m) i j, HB.out.setCell (p := ⟨b3, i, none⟩) (Nat.le_refl _) _⟩
      case measure => simp [intOf] <;> omega
    · obtain rfl : i = 16 := by omega
      have HK16 := Lib.hid (show Blk V b3 116 64 (fV (ws m) 16) from HK.out)
      have HB16 := Lib.hid HB.out
      clear HK HB hi hlt
      go_wp2_with fail
      go_loopw [5] (fun s R => ∃ i : Nat, 16 ≤ i ∧ i ≤ 64 ∧ s = .int .i64 (i : Nat) ∧ Blk R b3 116 64 (fV (ws m) i) ∧ Below b3 W0 R) (fun s _ => 64 - (intOf s).toNat)
      case atStart => exact ⟨16, by omega, by omega, rfl, HK16.out, HB16.out⟩
      case round =>
        obtain ⟨i, h16, hi, rfl, hK, hB⟩ := hrel
        rename World => R
        have HK := Lib.hid hK
        have HB := Lib.hid hB
        clear hK hB HK16 HB16
        by_cases hlt : i < 64
        · have hnx := ws_next m (t := i) (by omega)
          have hcell (j : Nat) (hj : j < i) : R.cell? ⟨b3, j, none⟩ = some (.int .u32 ((ws m j : Nat) : Int)) := by
            have h := HK.out.cell (j := j) (by omega)
            unfold fV at h
            rw [if_pos hj] at h
            exact h
          have hcx := hcell (i - 15) (by omega)
          have hcy := hcell (i - 2) (by omega)
          have hcu := hcell (i - 16) (by omega)
          have hcv := hcell (i - 7) (by omega)
          have lx := ws_lt HML.out (i - 15)
          have ly := ws_lt HML.out (i - 2)
          have hfr := HK.out.free i
          obtain ⟨x, ex⟩ : ∃ x, x = ws m (i - 15) := ⟨_, rfl⟩
          obtain ⟨y, ey⟩ : ∃ x, x = ws m (i - 2) := ⟨_, rfl⟩
          obtain ⟨u, eu⟩ : ∃ x, x = ws m (i - 16) := ⟨_, rfl⟩
          obtain ⟨v, ev⟩ : ∃ x, x = ws m (i - 7) := ⟨_, rfl⟩
          rw [← ex] at hcx lx hnx
          rw [← ey] at hcy ly hnx
          rw [← eu] at hcu hnx
          rw [← ev] at hcv hnx
          obtain ⟨k15, f15⟩ : ∃ k, k = i - 15 := ⟨_, rfl⟩
          obtain ⟨k2, f2⟩ : ∃ k, k = i - 2 := ⟨_, rfl⟩
          obtain ⟨k16, f16⟩ : ∃ k, k = i - 16 := ⟨_, rfl⟩
          obtain ⟨k7, f7⟩ : ∃ k, k = i - 7 := ⟨_, rfl⟩
          rw [← f15] at hcx
          rw [← f2] at hcy
          rw [← f16] at hcu
          rw [← f7] at hcv
          have q15 : (i : Int) - 15 = (k15 : Int) := by omega
          have q2 : (i : Int) - 2 = (k2 : Int) := by omega
          have q16 : (i : Int) - 16 = (k16 : Int) := by omega
          have q7 : (i : Int) - 7 = (k7 : Int) := by omega
          have b15 : (k15 : Int) < 64 := by omega
          have b2' : (k2 : Int) < 64 := by omega
          have b16 : (k16 : Int) < 64 := by omega
          have b7 : (k7 : Int) < 64 := by omega
          have n15 : (0 : Int) ≤ (k15 : Int) := by omega
          have n2 : (0 : Int) ≤ (k2 : Int) := by omega
          have n16 : (0 : Int) ≤ (k16 : Int) := by omega
          have n7 : (0 : Int) ≤ (k7 : Int) := by omega
          have qi : (i : Int) < 64 := by omega
          have qi0 : (16 : Int) ≤ (i : Int) := by omega
          have HNE := Lib.hid (show k16 ≠ i ∧ k7 ≠ i by omega)
          obtain ⟨p1, g1⟩ : ∃ p, p = rr 7 x := ⟨_, rfl⟩
          obtain ⟨p2, g2⟩ : ∃ p, p = rr 18 x := ⟨_, rfl⟩
          obtain ⟨p3, g3⟩ : ∃ p, p = x / 8 := ⟨_, rfl⟩
          obtain ⟨p4, g4⟩ : ∃ p, p = p1 ^^^ p2 := ⟨_, rfl⟩
          obtain ⟨p5, g5⟩ : ∃ p, p = p4 ^^^ p3 := ⟨_, rfl⟩
          obtain ⟨r1, j1⟩ : ∃ p, p = rr 17 y := ⟨_, rfl⟩
          obtain ⟨r2, j2⟩ : ∃ p, p = rr 19 y := ⟨_, rfl⟩
          obtain ⟨r3, j3⟩ : ∃ p, p = y / 1024 := ⟨_, rfl⟩
          obtain ⟨r4, j4⟩ : ∃ p, p = r1 ^^^ r2 := ⟨_, rfl⟩
          obtain ⟨r5, j5⟩ : ∃ p, p = r4 ^^^ r3 := ⟨_, rfl⟩
          have l1 : p1 < 4294967296 := by rw [g1]; exact rr_lt lx _
          have l2 : p2 < 4294967296 := by rw [g2]; exact rr_lt lx _
          have l3 : p3 < 4294967296 := by omega
          have l4 : p4 < 4294967296 := by rw [g4]; exact xor32 l1 l2
          have m1 : r1 < 4294967296 := by rw [j1]; exact rr_lt ly _
          have m2 : r2 < 4294967296 := by rw [j2]; exact rr_lt ly _
          have m3 : r3 < 4294967296 := by omega
          have m4 : r4 < 4294967296 := by rw [j4]; exact xor32 m1 m2
          have T7 := Lib.hid (show ∀ W : World, Calls Tryz.prog 147 #[.int .u32 (x : Nat), .int .i64 (-7)] W fun e w' => e = .returned (.int .u32 ((p1 : Nat) : Int)) ∧ ∃ j, w' = W.drewN j from fun W => by rw [g1]; exact turn_neg x 7 (-7) (by decide) (by omega) (by omega) lx W)
          have T18 := Lib.hid (show ∀ W : World, Calls Tryz.prog 147 #[.int .u32 (x : Nat), .int .i64 (-18)] W fun e w' => e = .returned (.int .u32 ((p2 : Nat) : Int)) ∧ ∃ j, w' = W.drewN j from fun W => by rw [g2]; exact turn_neg x 18 (-18) (by decide) (by omega) (by omega) lx W)
          have T17 := Lib.hid (show ∀ W : World, Calls Tryz.prog 147 #[.int .u32 (y : Nat), .int .i64 (-17)] W fun e w' => e = .returned (.int .u32 ((r1 : Nat) : Int)) ∧ ∃ j, w' = W.drewN j from fun W => by rw [j1]; exact turn_neg y 17 (-17) (by decide) (by omega) (by omega) ly W)
          have T19 := Lib.hid (show ∀ W : World, Calls Tryz.prog 147 #[.int .u32 (y : Nat), .int .i64 (-19)] W fun e w' => e = .returned (.int .u32 ((r2 : Nat) : Int)) ∧ ∃ j, w' = W.drewN j from fun W => by rw [j2]; exact turn_neg y 19 (-19) (by decide) (by omega) (by omega) ly W)
          obtain ⟨a1, k1⟩ : ∃ a, a = ad u p5 := ⟨_, rfl⟩
          obtain ⟨a2, k2'⟩ : ∃ a, a = ad a1 v := ⟨_, rfl⟩
          obtain ⟨a3, k3⟩ : ∃ a, a = ad a2 r5 := ⟨_, rfl⟩
          have HA3 := Lib.hid (show a3 = ws m i by
            rw [hnx, k3, k2', k1, g5, g4, g3, g2, g1, j5, j4, j3, j2, j1]
            exact ad_perm _ _ _ _)
          have HLT3 := Lib.hid hlt
          have Zex := Lib.hid ex
          have Zey := Lib.hid ey
          have Zeu := Lib.hid eu
          have Zev := Lib.hid ev
          have Zf15 := Lib.hid f15
          have Zf2 := Lib.hid f2
          have Zf16 := Lib.hid f16
          have Zf7 := Lib.hid f7
          have Zg1 := Lib.hid g1
          have Zg2 := Lib.hid g2
          have Zg3 := Lib.hid g3
          have Zg4 := Lib.hid g4
          have Zg5 := Lib.hid g5
          have Zj1 := Lib.hid j1
          have Zj2 := Lib.hid j2
          have Zj3 := Lib.hid j3
          have Zj4 := Lib.hid j4
          have Zj5 := Lib.hid j5
          have Zk1 := Lib.hid k1
          have Zk2p := Lib.hid k2'
          have Zk3 := Lib.hid k3
          have Zlx := Lib.hid lx
          have Zly := Lib.hid ly
          have Zl1 := Lib.hid l1
          have Zl2 := Lib.hid l2
          have Zl3 := Lib.hid l3
          have Zl4 := Lib.hid l4
          have Zm1 := Lib.hid m1
          have Zm2 := Lib.hid m2
          have Zm3 := Lib.hid m3
          have Zm4 := Lib.hid m4
          clear ex ey eu ev f15 f2 f16 f7 g1 g2 g3 g4 g5 j1 j2 j3 j4 j5 k1 k2' k3 lx ly l1 l2 l3 l4 m1 m2 m3 m4 hnx hcell hlt
          go_upto_region 10 with fail
          go_quiet (fail)
          clear hcx hcy q15 q2 b15 b2' n15 n2
          have g4 := Zg4.out
          have g5 := Zg5.out
          have g3 := Zg3.out
          have j4 := Zj4.out
          have j5 := Zj5.out
          have j3 := Zj3.out
          have l1 := Zl1.out
          have l2 := Zl2.out
          have l3 := Zl3.out
          have l4 := Zl4.out
          have m1 := Zm1.out
          have m2 := Zm2.out
          have m3 := Zm3.out
          have m4 := Zm4.out
          have s1 : bits .xor .u32 (p1 : Int) (p2 : Int) = (p4 : Int) := by rw [g4]; exact u32_xor_nat _ _ l1 l2
          have s2 : bits .xor .u32 (p4 : Int) (p3 : Int) = (p5 : Int) := by rw [g5]; exact u32_xor_nat _ _ l4 l3
          have s3 : (x : Int) / 8 = (p3 : Int) := by omega
          have t1 : bits .xor .u32 (r1 : Int) (r2 : Int) = (r4 : Int) := by rw [j4]; exact u32_xor_nat _ _ m1 m2
          have t2 : bits .xor .u32 (r4 : Int) (r3 : Int) = (r5 : Int) := by rw [j5]; exact u32_xor_nat _ _ m4 m3
          have t3 : (y : Int) / 1024 = (r3 : Int) := by omega
          clear g4 g5 g3 j4 j5 j3 l1 l2 l3 l4 m1 m2 m3 m4
          go_upto_region 13 with (first
            | (go_at_call 147; (with_reducible refine (T7.out _).mono ?_); rintro e w' ⟨rfl, n1, rfl⟩)
            | (go_at_call 147; (with_reducible refine (T18.out _).mono ?_); rintro e w' ⟨rfl, n2, rfl⟩)
            | (go_at_call 147; (with_reducible refine (T17.out _).mono ?_); rintro e w' ⟨rfl, n3, rfl⟩)
            | (go_at_call 147; (with_reducible refine (T19.out _).mono ?_); rintro e w' ⟨rfl, n4, rfl⟩))
          clear s1 s2 s3 t1 t2 t3
          have k1 := Zk1.out
          have k2' := Zk2p.out
          have k3 := Zk3.out
          have hcu : (R.drewN (nq + n1 + n2 + n3 + n4)).cell? ⟨b3, k16, none⟩ = some (.int .u32 ((u : Nat) : Int)) := hcu
          have hcv : (R.drewN (nq + n1 + n2 + n3 + n4)).cell? ⟨b3, k7, none⟩ = some (.int .u32 ((v : Nat) : Int)) := hcv
          have hfr : (R.drewN (nq + n1 + n2 + n3 + n4)).frozen? ⟨b3, i, none⟩ = false := hfr
          have HKR := Lib.hid (HK.out.drewN (nq + n1 + n2 + n3 + n4))
          have HBR := Lib.hid (below_drewN HB.out (nq + n1 + n2 + n3 + n4))
          generalize R.drewN (nq + n1 + n2 + n3 + n4) = W2 at hcu hcv hfr HKR HBR ⊢
          have hce := HKR.out.cell (j := i) HLT3.out
          have w16 : IntKind.i64.wrap (k16 : Int) = (k16 : Int) := by rw [IntKind.wrap_i64]; omega
          have w7 : IntKind.i64.wrap (k7 : Int) = (k7 : Int) := by rw [IntKind.wrap_i64]; omega
          have y1 : IntKind.u32.wrap ((u : Int) + (p5 : Int)) = (a1 : Int) := by rw [IntKind.wrap_u32', k1]; unfold ad; omega
          have y2 : IntKind.u32.wrap ((a1 : Int) + (v : Int)) = (a2 : Int) := by rw [IntKind.wrap_u32', k2']; unfold ad; omega
          have y3 : IntKind.u32.wrap ((a2 : Int) + (r5 : Int)) = (a3 : Int) := by rw [IntKind.wrap_u32', k3]; unfold ad; omega
          clear k1 k2' k3
          go_still_tail 15, (by kernel_rfl)
          go_wp2
          go_roundw
          case rel => first
            | exact ⟨i + 1, by have := HLT3.out; omega, by have := HLT3.out; omega, by go_num, (Blk.set (w := W2) HKR.out HLT3.out _).congr fun j _ => by rw [HA3.out]; exact fV_set (ws m) i j, by first | exact (HBR.out.setCell (p := ⟨b3, i, none⟩) (Nat.le_refl _) _).drew | exact HBR.out.drew.setCell (p := ⟨b3, i, none⟩) (Nat.le_refl _) _⟩
            | ((repeat apply Exists.intro); exact ⟨⟨i + 1, by have := HLT3.out; omega, by have := HLT3.out; omega, by go_num, (Blk.set (w := W2) HKR.out HLT3.out _).congr fun j _ => by rw [HA3.out]; exact fV_set (ws m) i j, by first | exact (HBR.out.setCell (p := ⟨b3, i, none⟩) (Nat.le_refl _) _).drew | exact HBR.out.drew.setCell (p := ⟨b3, i, none⟩) (Nat.le_refl _) _⟩, rfl⟩)
          case measure => simp [intOf] <;> omega
        · obtain rfl : i = 64 := by omega
          have HK3 := Lib.hid (HK.out.congr (h := gV (ws m)) fun j hj => fV_all (ws m) hj)
          have HR2 := Lib.hid (HR0.out.on HB.out HLT.out)
          have hone : (tabV 64 (gV (ws m))).all (·.oneCell') = true := tabV_one fun _ => rfl
          have hsi : (Tryz.prog.info? 116).map (·.size) = some (tabV 64 (gV (ws m))).size := by rw [size_tabV]; exact size_K
          have hso : (tabV 64 fun _ => (Value.int .u32 0)).size = (tabV 64 (gV (ws m))).size := by rw [size_tabV, size_tabV]
          have HR3 := Lib.hid (HR2.out.row (gV (ws m)))
          have HBF := Lib.hid (show Below w.heap.size w (R.setRow b2 (tabV 64 (gV (ws m)))) from by
            have h1 : Below w.heap.size w R := HB0.out.trans (HB.out.mono (by have := HLT.out; rw [HB2.out] at this; omega))
            exact below_setRow h1 (by rw [HB2.out]; exact Nat.le_refl _) _)
          obtain ⟨cs, hcs⟩ : ∃ cs, cs = tabV 64 (gV (ws m)) := ⟨_, rfl⟩
          unfold Blk at HK3 HR3
          rw [← hcs] at HK3 HR3 HBF hone hsi hso
          have HCS := Lib.hid hcs
          have HS1 := Lib.hid hsi
          have HS2 := Lib.hid hso
          have HS3 := Lib.hid hone
          clear hcs hsi hso hone
          go_wp2_with (first
            | ((with_reducible show wpList _ _ _ (⟨some 67, _, _, _, _, _⟩ :: _) _ _); refine wpList_load_row rfl 116 (.tmp 3) rfl b3 rfl _ cs _ _ HK3.out Tryz.underlying116 rfl HS1.out ?_)
            | ((with_reducible show wpList _ _ _ (⟨none, _, _, _, _, _⟩ :: _) _ _); refine wpList_store_row rfl 116 (.tmp 2) (.tmp 67) rfl b2 cs rfl rfl _ _ HR2.out HS1.out HS2.out HS3.out ?_))
          refine bodyPost_ret (v := .agg cs) (results_cell_row rfl _ _ b2 _ cs _ _ rfl HR3.out Tryz.underlying116 rfl HS1.out) rfl ⟨by rw [HCS.out], HBF.out⟩
end Go.Proofs.YtappfdbmhgifcaaGreatDoor
/- The words of a block by number; what the package's variables hold. -/
namespace Go.Proofs.YtappfdbmhgifcaaGreatDoor
open Go.ChangeShapes Go.WideShapes Go.ChangeAt Go.RowKit
set_option linter.unusedVariables false
set_option maxRecDepth 100000
theorem index_K (f : Nat → Nat) (w : World) : ∀ k, k < 64 → (Instr.index 116 (.agg (tabV 64 (gV f))) (.int .i64 (k : Nat))).run Tryz.prog w = .ok (.int .u32 ((f k : Nat) : Int)) w
  | 0, _ => by kernel_rfl
  | 1, _ => by kernel_rfl
  | 2, _ => by kernel_rfl
  | 3, _ => by kernel_rfl
  | 4, _ => by kernel_rfl
  | 5, _ => by kernel_rfl
  | 6, _ => by kernel_rfl
  | 7, _ => by kernel_rfl
  | 8, _ => by kernel_rfl
  | 9, _ => by kernel_rfl
  | 10, _ => by kernel_rfl
  | 11, _ => by kernel_rfl
  | 12, _ => by kernel_rfl
  | 13, _ => by kernel_rfl
  | 14, _ => by kernel_rfl
  | 15, _ => by kernel_rfl
  | 16, _ => by kernel_rfl
  | 17, _ => by kernel_rfl
  | 18, _ => by kernel_rfl
  | 19, _ => by kernel_rfl
  | 20, _ => by kernel_rfl
  | 21, _ => by kernel_rfl
  | 22, _ => by kernel_rfl
  | 23, _ => by kernel_rfl
  | 24, _ => by kernel_rfl
  | 25, _ => by kernel_rfl
  | 26, _ => by kernel_rfl
  | 27, _ => by kernel_rfl
  | 28, _ => by kernel_rfl
  | 29, _ => by kernel_rfl
  | 30, _ => by kernel_rfl
  | 31, _ => by kernel_rfl
  | 32, _ => by kernel_rfl
  | 33, _ => by kernel_rfl
  | 34, _ => by kernel_rfl
  | 35, _ => by kernel_rfl
  | 36, _ => by kernel_rfl
  | 37, _ => by kernel_rfl
  | 38, _ => by kernel_rfl
  | 39, _ => by kernel_rfl
  | 40, _ => by kernel_rfl
  | 41, _ => by kernel_rfl
  | 42, _ => by kernel_rfl
  | 43, _ => by kernel_rfl
  | 44, _ => by kernel_rfl
  | 45, _ => by kernel_rfl
  | 46, _ => by kernel_rfl
  | 47, _ => by kernel_rfl
  | 48, _ => by kernel_rfl
  | 49, _ => by kernel_rfl
  | 50, _ => by kernel_rfl
  | 51, _ => by kernel_rfl
  | 52, _ => by kernel_rfl
  | 53, _ => by kernel_rfl
  | 54, _ => by kernel_rfl
  | 55, _ => by kernel_rfl
  | 56, _ => by kernel_rfl
  | 57, _ => by kernel_rfl
  | 58, _ => by kernel_rfl
  | 59, _ => by kernel_rfl
  | 60, _ => by kernel_rfl
  | 61, _ => by kernel_rfl
  | 62, _ => by kernel_rfl
  | 63, _ => by kernel_rfl
  | k + 64, h => by omega
theorem infoS : (Tryz.prog.info? 166).map (fun i => (i.zero, i.size)) = some (some (.agg (Array.replicate 8 (.int .u32 0))), 8) := by kernel_rfl
theorem size_S : (Tryz.prog.info? 166).map (·.size) = some 8 := by kernel_rfl
theorem KF_0 : ([1116352408, 1899447441, 3049323471, 3921009573, 961987163, 1508970993, 2453635748, 2870763221, 3624381080, 310598401, 607225278, 1426881987, 1925078388, 2162078206, 2614888103, 3248222580, 3835390401, 4022224774, 264347078, 604807628, 770255983, 1249150122, 1555081692, 1996064986, 2554220882, 2821834349, 2952996808, 3210313671, 3336571891, 3584528711, 113926993, 338241895, 666307205, 773529912, 1294757372, 1396182291, 1695183700, 1986661051, 2177026350, 2456956037, 2730485921, 2820302411, 3259730800, 3345764771, 3516065817, 3600352804, 4094571909, 275423344, 430227734, 506948616, 659060556, 883997877, 958139571, 1322822218, 1537002063, 1747873779, 1955562222, 2024104815, 2227730452, 2361852424, 2428436474, 2756734187, 3204031479, 3329325298] : List Int) = (List.range 64).map (fun j => ((KF j : Nat) : Int)) := by decide +kernel
theorem HF0_0 : ([1779033703, 3144134277, 1013904242, 2773480762, 1359893119, 2600822924, 528734635, 1541459225] : List Int) = (List.range 8).map (fun j => ((HF0 j : Nat) : Int)) := by decide +kernel
/-- What the package's variables hold. -/
def Gl (w : World) : Prop := 2 ≤ w.heap.size ∧ (∀ j, j < 8 → w.cell? ⟨0, j, none⟩ = some (gV HF0 j)) ∧ (∀ j, j < 64 → w.cell? ⟨1, j, none⟩ = some (gV KF j))
theorem Gl.on {w w' : World} {B : Nat} (h : Gl w) (hb : Below B w w') (hB : 2 ≤ B) : Gl w' :=
  ⟨Nat.le_trans h.1 hb.size, fun j hj => (World.cell?_of_block (w := w) (a := ⟨0, j, none⟩) (hb.block 0 (by omega))).trans (h.2.1 j hj), fun j hj => (World.cell?_of_block (w := w) (a := ⟨1, j, none⟩) (hb.block 1 (by omega))).trans (h.2.2 j hj)⟩
theorem Gl.but {w w' : World} {g : Nat} (h : Gl w) (hb : w.grownBy w' (some g)) (hB : 2 ≤ g) : Gl w' :=
  ⟨Nat.le_trans h.1 hb.size, fun j hj => (World.cell?_of_block (w := w) (a := ⟨0, j, none⟩) (hb.block 0 (by have := h.1; omega) (fun e => by injection e with e; omega))).trans (h.2.1 j hj), fun j hj => (World.cell?_of_block (w := w) (a := ⟨1, j, none⟩) (hb.block 1 (by have := h.1; omega) (fun e => by injection e with e; omega))).trans (h.2.2 j hj)⟩
theorem Gl.drewN {w : World} (h : Gl w) (q : Nat) : Gl (w.drewN q) := h
end Go.Proofs.YtappfdbmhgifcaaGreatDoor
/- The contract of hash.state.mixed: one block more. -/
namespace Go.Proofs.YtappfdbmhgifcaaGreatDoor
open Go.ChangeShapes Go.WideShapes Go.ChangeAt Go.RowKit
set_option linter.unusedVariables false
set_option maxRecDepth 100000

set_option maxHeartbeats 3000000 in
theorem mixed_any (h : Nat → Nat) (g o : Nat) (B : List Int) (w : World) (hh : ∀ i, h i < 4294967296) (hB : AllB B) (hl : B.length = 64) (hc : ∀ i, i < 64 → w.cell? ⟨g, o + i, none⟩ = some (.int .u8 (B.getD i 0))) (hg : g < w.heap.size) (hG : Gl w) :
    Calls Tryz.prog 151 #[.agg (tabV 8 (gV h)), .pointer (some ⟨g, o, none⟩)] w fun e w' => e = .returned (.agg (tabV 8 (gV (blkF h (mF B 0))))) ∧ Below w.heap.size w w' := by
  have HML := Lib.hid (show ∀ t, mF B 0 t < 4294967296 from fun t => gw_lt hB _)
  have HSP := Lib.hid (show ∀ W : World, Below w.heap.size w W → Calls Tryz.prog 169 #[.pointer (some ⟨g, o, none⟩)] W fun e w' => e = .returned (.agg (tabV 64 (gV (ws (mF B 0))))) ∧ Below W.heap.size W w' from fun W hb =>
    hspread_any g o B W hB hl (fun i hi => (World.cell?_of_block (w := w) (a := ⟨g, o + i, none⟩) (hb.block g hg)).trans (hc i hi)) (Nat.lt_of_lt_of_le hg hb.size))
  obtain ⟨m, hm⟩ : ∃ m, m = mF B 0 := ⟨_, rfl⟩
  rw [← hm] at HML HSP ⊢
  have HWS := Lib.hid (fun t => ws_lt HML.out t)
  have HHB := Lib.hid hh
  have HGL := Lib.hid hG
  clear hm hB hl hc hg hh hG HML
  obtain ⟨cW, hcW⟩ : ∃ c, c = tabV 64 (gV (ws m)) := ⟨_, rfl⟩
  rw [← hcW] at HSP
  have HCW := Lib.hid hcW
  obtain ⟨hz, hi⟩ := zero_of_info infoS
  rw [replicate_tabV] at hz
  obtain ⟨c0, hc0⟩ : ∃ c0 : Array Value, c0 = tabV 8 fun _ => .int .u32 0 := ⟨_, rfl⟩
  rw [← hc0] at hz
  obtain ⟨s0, hs0⟩ : ∃ s0 : Array Value, s0 = tabV 8 (gV h) := ⟨_, rfl⟩
  rw [← hs0]
  obtain ⟨V1, hV1⟩ : ∃ W, W = w.alloc (.cells s0 166) := ⟨_, rfl⟩
  obtain ⟨W0, hW0⟩ : ∃ W, W = V1.alloc (.cells c0 166) := ⟨_, rfl⟩
  have e1 : V1.heap.size = w.heap.size + 1 := by rw [hV1]; simp
  have B1 : Below w.heap.size w V1 := by rw [hV1]; exact (Below.refl _ _).alloc (Nat.le_refl _) _
  have B2 : Below V1.heap.size V1 W0 := by rw [hW0]; exact (Below.refl _ _).alloc (Nat.le_refl _) _
  have HB0 := Lib.hid (show Below w.heap.size w W0 from bt B1 B2)
  have HS := Lib.hid (show Blk W0 w.heap.size 166 8 (gV h) by
    have k : Blk V1 w.heap.size 166 8 (gV h) := by rw [hV1, hs0]; exact Blk.made _ _ _ _
    exact k.on B2 (by omega))
  have HR := Lib.hid (show Blk W0 (w.heap.size + 1) 166 8 (fun _ => .int .u32 0) by rw [← e1, hW0, hc0]; exact Blk.made _ _ _ _)
  have HW0 := Lib.hid (show W0 = (w.alloc (.cells s0 166)).alloc (.cells c0 166) by rw [hW0, hV1])
  clear hV1 hW0 e1 B1 B2 hi hs0 hc0 hcW
  go_enter Tryz.func151, Tryz.ntmps151
  go_upto_region 1 with fail
  clear hz
  rw [← HW0.out]
  obtain ⟨b0, hb0⟩ : ∃ b, b = w.heap.size := ⟨_, rfl⟩
  rw [← hb0] at HS HR HB0 HSP ⊢
  have HBS := Lib.hid hb0
  clear HW0 hb0
  have hcv0 := HS.out.cell (j := 0) (by omega)
  have hcv1 := HS.out.cell (j := 1) (by omega)
  have hcv2 := HS.out.cell (j := 2) (by omega)
  have hcv3 := HS.out.cell (j := 3) (by omega)
  have hcv4 := HS.out.cell (j := 4) (by omega)
  have hcv5 := HS.out.cell (j := 5) (by omega)
  have hcv6 := HS.out.cell (j := 6) (by omega)
  have hcv7 := HS.out.cell (j := 7) (by omega)
  unfold gV at hcv0 hcv1 hcv2 hcv3 hcv4 hcv5 hcv6 hcv7
  obtain ⟨h0, n0⟩ : ∃ x, x = h 0 := ⟨_, rfl⟩
  rw [← n0] at hcv0
  have N0 := Lib.hid n0
  clear n0
  obtain ⟨h1, n1⟩ : ∃ x, x = h 1 := ⟨_, rfl⟩
  rw [← n1] at hcv1
  have N1 := Lib.hid n1
  clear n1
  obtain ⟨h2, n2⟩ : ∃ x, x = h 2 := ⟨_, rfl⟩
  rw [← n2] at hcv2
  have N2 := Lib.hid n2
  clear n2
  obtain ⟨h3, n3⟩ : ∃ x, x = h 3 := ⟨_, rfl⟩
  rw [← n3] at hcv3
  have N3 := Lib.hid n3
  clear n3
  obtain ⟨h4, n4⟩ : ∃ x, x = h 4 := ⟨_, rfl⟩
  rw [← n4] at hcv4
  have N4 := Lib.hid n4
  clear n4
  obtain ⟨h5, n5⟩ : ∃ x, x = h 5 := ⟨_, rfl⟩
  rw [← n5] at hcv5
  have N5 := Lib.hid n5
  clear n5
  obtain ⟨h6, n6⟩ : ∃ x, x = h 6 := ⟨_, rfl⟩
  rw [← n6] at hcv6
  have N6 := Lib.hid n6
  clear n6
  obtain ⟨h7, n7⟩ : ∃ x, x = h 7 := ⟨_, rfl⟩
  rw [← n7] at hcv7
  have N7 := Lib.hid n7
  clear n7
  go_quiet (fail)
  clear hcv0 hcv1 hcv2 hcv3 hcv4 hcv5 hcv6 hcv7
  go_upto_region 3 with (go_at_call 169; go_loud ((with_reducible refine (HSP.out _ (below_drewN HB0.out _)).mono ?_); rintro e W1 ⟨rfl, hb⟩; have HB1 := Lib.hid hb; clear hb))
  have HS1 := Lib.hid (show Blk W1 b0 166 8 (gV h) from Blk.on (w := W0.drewN nq) HS.out HB1.out HS.out.lt)
  have HR1 := Lib.hid (show Blk W1 (b0 + 1) 166 8 (fun _ => .int .u32 0) from Blk.on (w := W0.drewN nq) HR.out HB1.out HR.out.lt)
  have HBW := Lib.hid (show Below b0 w W1 from (below_drewN HB0.out nq).trans (HB1.out.mono (Nat.le_of_lt HS.out.lt)))
  have HG1 := Lib.hid (show Gl W1 from HGL.out.on HBW.out (by have := HGL.out.1; rw [HBS.out]; omega))
  clear HS HR HB0 HB1 HSP HGL
  go_loopw [5, 6, 7, 8, 9, 10, 11, 12, 39] (fun xa xb xc xd xe xf xg xh s wr => ∃ t q : Nat, t ≤ 64 ∧ s = .int .i64 (t : Nat) ∧ xa = .int .u32 ((comp h (ws m) t 0 : Nat) : Int) ∧ xb = .int .u32 ((comp h (ws m) t 1 : Nat) : Int) ∧ xc = .int .u32 ((comp h (ws m) t 2 : Nat) : Int) ∧ xd = .int .u32 ((comp h (ws m) t 3 : Nat) : Int) ∧ xe = .int .u32 ((comp h (ws m) t 4 : Nat) : Int) ∧ xf = .int .u32 ((comp h (ws m) t 5 : Nat) : Int) ∧ xg = .int .u32 ((comp h (ws m) t 6 : Nat) : Int) ∧ xh = .int .u32 ((comp h (ws m) t 7 : Nat) : Int) ∧ wr = W1.drewN q) (fun _ _ _ _ _ _ _ _ s _ => 64 - (intOf s).toNat)
  case atStart => exact ⟨0, 0, by omega, rfl, by rw [N0.out]; rfl, by rw [N1.out]; rfl, by rw [N2.out]; rfl, by rw [N3.out]; rfl, by rw [N4.out]; rfl, by rw [N5.out]; rfl, by rw [N6.out]; rfl, by rw [N7.out]; rfl, rfl⟩
  case round =>
    obtain ⟨t, q, hi, rfl, rfl, rfl, rfl, rfl, rfl, rfl, rfl, rfl, rfl⟩ := hrel
    clear N0 N1 N2 N3 N4 N5 N6 N7
    by_cases hlt : t < 64
    · as_aux_lemma =>
      have qi : (t : Int) < 64 := by omega
      have qi0 : (0 : Int) ≤ (t : Int) := by omega
      have HLS := Lib.hid hlt
      have hv := comp_lt HHB.out (ws m) t
      obtain ⟨v, hvv⟩ : ∃ v, v = comp h (ws m) t := ⟨_, rfl⟩
      have HVN := Lib.hid (show comp h (ws m) (t + 1) = rnd v (KF t) (ws m t) by rw [comp, hvv])
      rw [← hvv] at hv ⊢
      have hck : (W1.drewN q).cell? ⟨1, t, none⟩ = some (gV KF t) := HG1.out.2.2 t hlt
      generalize hV : W1.drewN q = V at hck ⊢
      have HV := Lib.hid hV
      clear hV
      unfold gV at hck
      have hix : ∀ W : World, (Instr.index 116 (.agg cW) (.int .i64 (t : Nat))).run Tryz.prog W = .ok (.int .u32 ((ws m t : Nat) : Int)) W := fun W => by rw [HCW.out]; exact index_K (ws m) W t hlt
      have lw := HWS.out t
      have lk := KF_lt t
      obtain ⟨wz, e1⟩ : ∃ x, x = ws m t := ⟨_, rfl⟩
      obtain ⟨kz, e2⟩ : ∃ x, x = KF t := ⟨_, rfl⟩
      rw [← e1] at hix lw HVN
      rw [← e2] at hck lk HVN
      have l0 := hv 0
      have l1 := hv 1
      have l2 := hv 2
      have l3 := hv 3
      have l4 := hv 4
      have l5 := hv 5
      have l6 := hv 6
      have l7 := hv 7
      obtain ⟨v0, n0⟩ : ∃ x, x = v 0 := ⟨_, rfl⟩
      obtain ⟨v1, n1⟩ : ∃ x, x = v 1 := ⟨_, rfl⟩
      obtain ⟨v2, n2⟩ : ∃ x, x = v 2 := ⟨_, rfl⟩
      obtain ⟨v3, n3⟩ : ∃ x, x = v 3 := ⟨_, rfl⟩
      obtain ⟨v4, n4⟩ : ∃ x, x = v 4 := ⟨_, rfl⟩
      obtain ⟨v5, n5⟩ : ∃ x, x = v 5 := ⟨_, rfl⟩
      obtain ⟨v6, n6⟩ : ∃ x, x = v 6 := ⟨_, rfl⟩
      obtain ⟨v7, n7⟩ : ∃ x, x = v 7 := ⟨_, rfl⟩
      rw [← n0] at l0 ⊢
      rw [← n1] at l1 ⊢
      rw [← n2] at l2 ⊢
      rw [← n3] at l3 ⊢
      rw [← n4] at l4 ⊢
      rw [← n5] at l5 ⊢
      rw [← n6] at l6 ⊢
      rw [← n7] at l7 ⊢
      have HN8 := Lib.hid (show v 0 = v0 ∧ v 1 = v1 ∧ v 2 = v2 ∧ v 3 = v3 ∧ v 4 = v4 ∧ v 5 = v5 ∧ v 6 = v6 ∧ v 7 = v7 from ⟨n0.symm, n1.symm, n2.symm, n3.symm, n4.symm, n5.symm, n6.symm, n7.symm⟩)
      clear n0 n1 n2 n3 n4 n5 n6 n7 hv hvv e1 e2 hlt
      obtain ⟨a2, g2⟩ : ∃ x, x = Sg1 v4 := ⟨_, rfl⟩
      obtain ⟨b2', i2⟩ : ∃ x, x = Sg0 v0 := ⟨_, rfl⟩
      have HT1 := Lib.hid (show ∀ (n : Nat), Calls Tryz.prog 170 #[.int .u32 (v4 : Nat), .int .i64 6, .int .i64 11, .int .i64 25] (V.drewN n) fun e w' => e = .returned (.int .u32 ((a2 : Nat) : Int)) ∧ ∃ j, w' = (V.drewN n).drewN j from fun n => by rw [g2]; exact turns_e v4 l4 _)
      have HT2 := Lib.hid (show ∀ W : World, Calls Tryz.prog 170 #[.int .u32 (v0 : Nat), .int .i64 2, .int .i64 13, .int .i64 22] W fun e w' => e = .returned (.int .u32 ((b2' : Nat) : Int)) ∧ ∃ j, w' = W.drewN j from fun W => by rw [i2]; exact turns_a v0 l0 _)
      have la2 : a2 < 4294967296 := by rw [g2]; exact Sg1_lt l4
      have lb2 : b2' < 4294967296 := by rw [i2]; exact Sg0_lt l0
      obtain ⟨a3, g3⟩ : ∃ x, x = ad v7 a2 := ⟨_, rfl⟩
      obtain ⟨a4, g4⟩ : ∃ x, x = v4 &&& v5 := ⟨_, rfl⟩
      obtain ⟨a0, g0⟩ : ∃ x, x = 4294967295 - v4 := ⟨_, rfl⟩
      obtain ⟨a5, g5⟩ : ∃ x, x = a0 &&& v6 := ⟨_, rfl⟩
      obtain ⟨a6, g6⟩ : ∃ x, x = a4 ^^^ a5 := ⟨_, rfl⟩
      obtain ⟨a7, g7⟩ : ∃ x, x = ad a3 a6 := ⟨_, rfl⟩
      obtain ⟨a8, g8⟩ : ∃ x, x = ad a7 kz := ⟨_, rfl⟩
      obtain ⟨a9, g9⟩ : ∃ x, x = ad a8 wz := ⟨_, rfl⟩
      have la4 : a4 < 4294967296 := by rw [g4]; exact and32 l5
      have la0 : a0 < 4294967296 := by omega
      have la5 : a5 < 4294967296 := by rw [g5]; exact and32 l6
      have HA9 := Lib.hid (show a9 = rt1 v kz wz by rw [g9, g8, g7, g6, g5, g4, g3, g2, g0]; unfold rt1; rw [HN8.out.2.2.2.2.1, HN8.out.2.2.2.2.2.1, HN8.out.2.2.2.2.2.2.1, HN8.out.2.2.2.2.2.2.2]; rfl)
      obtain ⟨b3, i3⟩ : ∃ x, x = v0 &&& v1 := ⟨_, rfl⟩
      obtain ⟨b4, i4⟩ : ∃ x, x = v0 &&& v2 := ⟨_, rfl⟩
      obtain ⟨b5, i5⟩ : ∃ x, x = b3 ^^^ b4 := ⟨_, rfl⟩
      obtain ⟨b6, i6⟩ : ∃ x, x = v1 &&& v2 := ⟨_, rfl⟩
      obtain ⟨b7, i7⟩ : ∃ x, x = b5 ^^^ b6 := ⟨_, rfl⟩
      obtain ⟨b8, i8⟩ : ∃ x, x = ad b2' b7 := ⟨_, rfl⟩
      have lb3 : b3 < 4294967296 := by rw [i3]; exact and32 l1
      have lb4 : b4 < 4294967296 := by rw [i4]; exact and32 l2
      have lb5 : b5 < 4294967296 := by rw [i5]; exact xor32 lb3 lb4
      have lb6 : b6 < 4294967296 := by rw [i6]; exact and32 l2
      have HB8 := Lib.hid (show b8 = rt2 v by rw [i8, i7, i6, i5, i4, i3, i2]; unfold rt2; rw [HN8.out.1, HN8.out.2.1, HN8.out.2.2.1]; rfl)
      obtain ⟨N0, j0⟩ : ∃ x, x = ad a9 b8 := ⟨_, rfl⟩
      obtain ⟨N4, j4⟩ : ∃ x, x = ad v3 a9 := ⟨_, rfl⟩
      have HE := Lib.hid (show comp h (ws m) (t + 1) 0 = N0 ∧ comp h (ws m) (t + 1) 1 = v0 ∧ comp h (ws m) (t + 1) 2 = v1 ∧ comp h (ws m) (t + 1) 3 = v2 ∧ comp h (ws m) (t + 1) 4 = N4 ∧ comp h (ws m) (t + 1) 5 = v4 ∧ comp h (ws m) (t + 1) 6 = v5 ∧ comp h (ws m) (t + 1) 7 = v6 by
        rw [HVN.out, j0, j4, HA9.out, HB8.out, ← HN8.out.1, ← HN8.out.2.1, ← HN8.out.2.2.1, ← HN8.out.2.2.2.1, ← HN8.out.2.2.2.2.1, ← HN8.out.2.2.2.2.2.1, ← HN8.out.2.2.2.2.2.2.1]
        exact ⟨rfl, rfl, rfl, rfl, rfl, rfl, rfl, rfl⟩)
      have Zg2 := Lib.hid g2
      have Zi2 := Lib.hid i2
      have Zg3 := Lib.hid g3
      have Zg4 := Lib.hid g4
      have Zg0 := Lib.hid g0
      have Zg5 := Lib.hid g5
      have Zg6 := Lib.hid g6
      have Zg7 := Lib.hid g7
      have Zg8 := Lib.hid g8
      have Zg9 := Lib.hid g9
      have Zi3 := Lib.hid i3
      have Zi4 := Lib.hid i4
      have Zi5 := Lib.hid i5
      have Zi6 := Lib.hid i6
      have Zi7 := Lib.hid i7
      have Zi8 := Lib.hid i8
      have Zj0 := Lib.hid j0
      have Zj4 := Lib.hid j4
      have Zla2 := Lib.hid la2
      have Zlb2 := Lib.hid lb2
      have Zla4 := Lib.hid la4
      have Zla0 := Lib.hid la0
      have Zla5 := Lib.hid la5
      have Zlb3 := Lib.hid lb3
      have Zlb4 := Lib.hid lb4
      have Zlb5 := Lib.hid lb5
      have Zlb6 := Lib.hid lb6
      have Zl0 := Lib.hid l0
      have Zl1 := Lib.hid l1
      have Zl2 := Lib.hid l2
      have Zl3 := Lib.hid l3
      have Zl4 := Lib.hid l4
      have Zl5 := Lib.hid l5
      have Zl6 := Lib.hid l6
      have Zl7 := Lib.hid l7
      have Zlw := Lib.hid lw
      have Zlk := Lib.hid lk
      clear g2 i2 g3 g4 g0 g5 g6 g7 g8 g9 i3 i4 i5 i6 i7 i8 j0 j4 la2 lb2 la4 la0 la5 lb3 lb4 lb5 lb6 l0 l1 l2 l3 l4 l5 l6 l7 lw lk
      go_upto_region 5 with fail
      have r4 : bits .and .u32 (v4 : Int) (v5 : Int) = (a4 : Int) := by rw [Zg4.out]; exact u32_and_nat _ _ Zl4.out Zl5.out
      have r5 : bits .and .u32 (a0 : Int) (v6 : Int) = (a5 : Int) := by rw [Zg5.out]; exact u32_and_nat _ _ Zla0.out Zl6.out
      have r6 : bits .xor .u32 (a4 : Int) (a5 : Int) = (a6 : Int) := by rw [Zg6.out]; exact u32_xor_nat _ _ Zla4.out Zla5.out
      have r0 : 4294967295 - (v4 : Int) = (a0 : Int) := by have := Zg0.out; have := Zl4.out; omega
      have r00 : bits .xor .u32 (if IntKind.u32.signed = true then -1 else IntKind.u32.max) (v4 : Int) = (a0 : Int) := by rw [Zg0.out, ← not32 Zl4.out]; exact u32_xor_nat _ _ (by decide) Zl4.out
      have u3 : bits .and .u32 (v0 : Int) (v1 : Int) = (b3 : Int) := by rw [Zi3.out]; exact u32_and_nat _ _ Zl0.out Zl1.out
      have u4 : bits .and .u32 (v0 : Int) (v2 : Int) = (b4 : Int) := by rw [Zi4.out]; exact u32_and_nat _ _ Zl0.out Zl2.out
      have u5 : bits .xor .u32 (b3 : Int) (b4 : Int) = (b5 : Int) := by rw [Zi5.out]; exact u32_xor_nat _ _ Zlb3.out Zlb4.out
      have u6 : bits .and .u32 (v1 : Int) (v2 : Int) = (b6 : Int) := by rw [Zi6.out]; exact u32_and_nat _ _ Zl1.out Zl2.out
      have u7 : bits .xor .u32 (b5 : Int) (b6 : Int) = (b7 : Int) := by rw [Zi7.out]; exact u32_xor_nat _ _ Zlb5.out Zlb6.out
      go_upto_region 7 with fail
      clear r4 r5 r6 r0 r00 u3 u4 u5 u6 u7
      have r3 : IntKind.u32.wrap ((v7 : Int) + (a2 : Int)) = (a3 : Int) := by rw [IntKind.wrap_u32', Zg3.out]; unfold ad; omega
      have r7 : IntKind.u32.wrap ((a3 : Int) + (a6 : Int)) = (a7 : Int) := by rw [IntKind.wrap_u32', Zg7.out]; unfold ad; omega
      have r8 : IntKind.u32.wrap ((a7 : Int) + (kz : Int)) = (a8 : Int) := by rw [IntKind.wrap_u32', Zg8.out]; unfold ad; omega
      have r9 : IntKind.u32.wrap ((a8 : Int) + (wz : Int)) = (a9 : Int) := by rw [IntKind.wrap_u32', Zg9.out]; unfold ad; omega
      go_quiet ((go_at_call 170; (with_reducible exact Calls.quiet_of (HT1.out _))))
      clear r3 r7 r8 r9 hck hix
      go_upto_region 8 with fail
      have u8 : IntKind.u32.wrap ((b2' : Int) + (b7 : Int)) = (b8 : Int) := by rw [IntKind.wrap_u32', Zi8.out]; unfold ad; omega
      have y0 : IntKind.u32.wrap ((a9 : Int) + (b8 : Int)) = (N0 : Int) := by rw [IntKind.wrap_u32', Zj0.out]; unfold ad; omega
      have y4 : IntKind.u32.wrap ((v3 : Int) + (a9 : Int)) = (N4 : Int) := by rw [IntKind.wrap_u32', Zj4.out]; unfold ad; omega
      go_wp2_with (go_at_call 170; go_loud ((with_reducible refine (HT2.out _).mono ?_); rintro e w' ⟨rfl, nt, rfl⟩))
      clear u8 y0 y4
      go_roundw
      case rel => first
        | exact ⟨t + 1, _, HLS.out, by go_num, by rw [HE.out.1], by rw [HE.out.2.1], by rw [HE.out.2.2.1], by rw [HE.out.2.2.2.1], by rw [HE.out.2.2.2.2.1], by rw [HE.out.2.2.2.2.2.1], by rw [HE.out.2.2.2.2.2.2.1], by rw [HE.out.2.2.2.2.2.2.2], by rw [← HV.out, World.drewN_drewN]⟩
        | ((repeat apply Exists.intro); exact ⟨⟨t + 1, _, HLS.out, by go_num, by rw [HE.out.1], by rw [HE.out.2.1], by rw [HE.out.2.2.1], by rw [HE.out.2.2.2.1], by rw [HE.out.2.2.2.2.1], by rw [HE.out.2.2.2.2.2.1], by rw [HE.out.2.2.2.2.2.2.1], by rw [HE.out.2.2.2.2.2.2.2], by rw [← HV.out, World.drewN_drewN]⟩, rfl⟩)
      case measure => simp [intOf] <;> (have := HLS.out; omega)
    · obtain rfl : t = 64 := by omega
      as_aux_lemma =>
        obtain ⟨cc, hcc⟩ : ∃ x, x = comp h (ws m) 64 := ⟨_, rfl⟩
        have HCL := Lib.hid (show ∀ i, cc i < 4294967296 by rw [hcc]; exact comp_lt HHB.out (ws m) 64)
        have HBK := Lib.hid (show ∀ j, ad (h j) (cc j) = blkF h m j from fun j => by rw [hcc]; rfl)
        rw [← hcc]
        clear hcc hi hlt HWS
        have HS2 := Lib.hid (show Blk (W1.drewN q) b0 166 8 (sV h cc 0) from (HS1.out.drewN q).congr fun j _ => (sV_zero h cc j).symm)
        have HR2 := Lib.hid (HR1.out.drewN q)
        have HB2 := Lib.hid (show Below b0 w (W1.drewN q) from below_drewN HBW.out q)
        obtain ⟨TC, hTC⟩ : ∃ c, c = tabV 8 (gV cc) := ⟨_, rfl⟩
        have HBD := Lib.hid (show Tryz.prog.built 117 [(0, .int .u32 ((cc 0 : Nat) : Int)), (1, .int .u32 ((cc 1 : Nat) : Int)), (2, .int .u32 ((cc 2 : Nat) : Int)), (3, .int .u32 ((cc 3 : Nat) : Int)), (4, .int .u32 ((cc 4 : Nat) : Int)), (5, .int .u32 ((cc 5 : Nat) : Int)), (6, .int .u32 ((cc 6 : Nat) : Int)), (7, .int .u32 ((cc 7 : Nat) : Int))] = some TC by rw [hTC, tab8]; exact builtH _ _ _ _ _ _ _ _)
        have HTC := Lib.hid hTC
        clear hTC HS1 HR1
        go_upto_region 12 with ((with_reducible show wpList _ _ _ (⟨some 99, _, _, _, _, _⟩ :: _) _ _); go_loud (refine wpList_buildTo rfl 117 #[(0, .tmp 91), (1, .tmp 92), (2, .tmp 93), (3, .tmp 94), (4, .tmp 95), (5, .tmp 96), (6, .tmp 97), (7, .tmp 98)] rfl (some 99) rfl TC (by rw [Array.toList_map]; exact HBD.out) ?_))
        generalize W1.drewN q = W2 at HS2 HR2 HB2 ⊢
        go_loopw [100] (fun s R => ∃ i : Nat, i ≤ 8 ∧ s = .int .i64 (i : Nat) ∧ Blk R b0 166 8 (sV h cc i) ∧ Blk R (b0 + 1) 166 8 (fun _ => .int .u32 0) ∧ Below b0 w R) (fun s _ => 8 - (intOf s).toNat)
        case atStart => exact ⟨0, by omega, rfl, HS2.out, HR2.out, HB2.out⟩
        case round =>
          obtain ⟨i, hi, rfl, h1, h2, h3⟩ := hrel
          rename World => R
          have RS := Lib.hid h1
          have RR := Lib.hid h2
          have RB := Lib.hid h3
          clear h1 h2 h3 HS2 HR2 HB2
          by_cases hlt : i < 8
          · have qi : (i : Int) < 8 := by omega
            have qi0 : (0 : Int) ≤ (i : Int) := by omega
            have hc1 := RS.out.cell hlt
            unfold sV at hc1
            rw [if_neg (by omega)] at hc1
            have hf1 := RS.out.free i
            have hix : ∀ W : World, (Instr.index 117 (.agg TC) (.int .i64 (i : Nat))).run Tryz.prog W = .ok (.int .u32 ((cc i : Nat) : Int)) W := fun W => by rw [HTC.out]; exact index_H cc hlt W
            have HLI := Lib.hid hlt
            have l1 := HHB.out i
            have l2 := HCL.out i
            obtain ⟨x, e1⟩ : ∃ x, x = h i := ⟨_, rfl⟩
            obtain ⟨y, e2⟩ : ∃ x, x = cc i := ⟨_, rfl⟩
            rw [← e1] at hc1 l1
            rw [← e2] at hix l2
            obtain ⟨z, e3⟩ : ∃ z, z = ad x y := ⟨_, rfl⟩
            have HZ := Lib.hid (show ((z : Nat) : Int) = ((ad (h i) (cc i) : Nat) : Int) by rw [e3, e1, e2])
            have E3 := Lib.hid e3
            clear e1 e2 e3 hlt
            go_upto_region 14 with fail
            have y0 : IntKind.u32.wrap ((x : Int) + (y : Int)) = (z : Int) := by rw [IntKind.wrap_u32', E3.out]; unfold ad; omega
            go_upto_region 15 with fail
            clear y0
            go_wp2
            go_roundw
            case rel => exact ⟨i + 1, HLI.out, by go_num, (RS.out.set HLI.out _).congr fun j _ => by rw [HZ.out]; exact sV_set h cc i j, RR.out.other ⟨b0, i, none⟩ _ (by show b0 + 1 ≠ b0; omega), RB.out.setCell (p := ⟨b0, i, none⟩) (Nat.le_refl _) _⟩
            case measure => simp [intOf] <;> omega
          · obtain rfl : i = 8 := by omega
            have HK3 := Lib.hid (RS.out.congr (h := gV (blkF h m)) fun j hj => by unfold sV gV; rw [if_pos hj, HBK.out])
            have hone : (tabV 8 (gV (blkF h m))).all (·.oneCell') = true := tabV_one fun _ => rfl
            have hsi : (Tryz.prog.info? 166).map (·.size) = some (tabV 8 (gV (blkF h m))).size := by rw [size_tabV]; exact size_S
            have hso : (tabV 8 fun _ => (Value.int .u32 0)).size = (tabV 8 (gV (blkF h m))).size := by rw [size_tabV, size_tabV]
            have HR3 := Lib.hid (RR.out.row (gV (blkF h m)))
            have HBF := Lib.hid (show Below w.heap.size w (R.setRow (b0 + 1) (tabV 8 (gV (blkF h m)))) from below_setRow (by rw [← HBS.out]; exact RB.out) (by rw [← HBS.out]; omega) _)
            obtain ⟨cs, hcs⟩ : ∃ cs, cs = tabV 8 (gV (blkF h m)) := ⟨_, rfl⟩
            unfold Blk at HK3 HR3
            rw [← hcs] at HK3 HR3 HBF hone hsi hso
            have HCS := Lib.hid hcs
            have HS1 := Lib.hid hsi
            have HS2 := Lib.hid hso
            have HS3 := Lib.hid hone
            clear hcs hsi hso hone
            go_wp2_with (first
              | ((with_reducible show wpList _ _ _ (⟨some 111, _, _, _, _, _⟩ :: _) _ _); refine wpList_load_row rfl 166 (.tmp 2) rfl b0 rfl _ cs _ _ HK3.out Tryz.underlying166 rfl HS1.out ?_)
              | ((with_reducible show wpList _ _ _ (⟨none, _, _, _, _, _⟩ :: _) _ _); refine wpList_store_row rfl 166 (.tmp 4) (.tmp 111) rfl (b0 + 1) cs rfl rfl _ _ RR.out HS1.out HS2.out HS3.out ?_))
            refine bodyPost_ret (v := .agg cs) (results_cell_row rfl _ _ (b0 + 1) _ cs _ _ rfl HR3.out Tryz.underlying166 rfl HS1.out) rfl ⟨by rw [HCS.out], HBF.out⟩
end Go.Proofs.YtappfdbmhgifcaaGreatDoor
