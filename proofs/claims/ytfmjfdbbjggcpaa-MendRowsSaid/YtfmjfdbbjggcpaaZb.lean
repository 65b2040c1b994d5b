/- Contracts of mend's blank and column. -/
import Derived.Test.YtfmjfdbbjggcpaaZa
import Derived.Test.YtfmjfdbbjggcpaaBlk
import Derived.Test.YtfmjfdbbjggcpaaQ4
namespace Go.Proofs.Ytfmjfdbbjggcpaa
open Go.ChangeShapes Go.WideShapes Go.ChangeAt Go.RowKit Go.Shelf GF
set_option linter.unusedVariables false
set_option linter.unusedSimpArgs false
set_option maxRecDepth 100000

theorem made_tabV (v : Value) (n : Nat) : madeCells #[v] n = tabV n (fun _ => v) := by
  have h := toList_madeCells_one v n
  apply Array.ext'
  rw [h]
  unfold tabV
  rw [List.toList_toArray]
  clear h
  induction n with
  | zero => rfl
  | succ n ih =>
    rw [List.range_succ, List.map_append, ← List.replicate_append_replicate (n := n) (m := 1)]
    simp
    exact ih
/-- Rows of one's own, each in a block of its own: the slices' block, then the rows'. -/
def BlkM (w : World) (g n s : Nat) (F : Nat → Nat → GF) : Prop :=
  Blk w g 22 n (fun k => .slice (some ⟨g + 1 + k, 0, none⟩) s s) ∧ ∀ k, k < n → Blk w (g + 1 + k) 5 s (fun j => .int .u8 (toI (F k j)))
theorem BlkM.on {w w' : World} {g n s : Nat} {F : Nat → Nat → GF} (h : BlkM w g n s F) (hb : Below w.heap.size w w') : BlkM w' g n s F :=
  ⟨h.1.on hb h.1.lt, fun k hk => (h.2 k hk).on hb (h.2 k hk).lt⟩
set_option maxHeartbeats 1000000 in
theorem blank_any (n s : Nat) (w : World) (hn : n ≤ 1000) (hs : s ≤ 1000) :
    Calls Try.prog 58 #[.int .i64 (n : Nat), .int .i64 (s : Nat)] w fun e w' => e = .returned (.slice (some ⟨w.heap.size, 0, none⟩) n n) ∧ BlkM w' w.heap.size n s (fun _ _ => 0) ∧ Below w.heap.size w w' := by
  have hmk := run_make_row' (P := Try.prog) 40 22 (.slice none 0 0) 24 Try.underlying40 infoR rfl .i64 .i64 n (by omega) (by omega)
  have hmk2 := run_make_row' (P := Try.prog) 22 5 (.int .u8 0) 1 Try.underlying22 info5 rfl .i64 .i64 s (by omega) (by omega)
  rw [made_tabV] at hmk hmk2
  have HN := Lib.hid hn
  have qn : (n : Int) ≤ 1000 := by omega
  have HB0 := Lib.hid (show Below w.heap.size w (w.alloc (.cells (tabV n fun _ => .slice none 0 0) 22)) from (Below.refl _ _).alloc (Nat.le_refl _) _)
  have HO0 := Lib.hid (show Blk (w.alloc (.cells (tabV n fun _ => .slice none 0 0) 22)) w.heap.size 22 n (fun k => if k < 0 then .slice (some ⟨w.heap.size + 1 + k, 0, none⟩) s s else .slice none 0 0) from (Blk.made w 22 n (fun _ => .slice none 0 0)).congr fun j _ => by rw [if_neg (by omega)])
  have HS0 := Lib.hid (size_alloc1 w (.cells (tabV n fun _ => .slice none 0 0) 22))
  clear hn
  go_enter Try.func58, Try.ntmps58
  go_wp2
  go_loopw [11] (fun j wr => ∃ i : Nat, i ≤ n ∧ j = .int .i64 (i : Nat) ∧ Hid (Blk wr w.heap.size 22 n (fun k => if k < i then .slice (some ⟨w.heap.size + 1 + k, 0, none⟩) s s else .slice none 0 0)) ∧ Hid (∀ k, k < i → Blk wr (w.heap.size + 1 + k) 5 s (fun _ => .int .u8 0)) ∧ Hid (wr.heap.size = w.heap.size + 1 + i) ∧ Hid (Below w.heap.size w wr))
    (fun j _ => n - (intOf j).toNat)
  case atStart => exact ⟨0, Nat.zero_le _, rfl, HO0, Lib.hid (fun k hk => absurd hk (by omega)), HS0, HB0⟩
  case round =>
    obtain ⟨i, hi, rfl, hO, hI, hS, hB⟩ := hrel
    rename World => w1
    by_cases hlt : i < n
    · have qi : (i : Int) < (n : Int) := by omega
      have qi0 : (0 : Int) ≤ (i : Int) := by omega
      obtain ⟨V, hV⟩ : ∃ V, V = w1.alloc (.cells (tabV s fun _ => .int .u8 0) 5) := ⟨_, rfl⟩
      have hsV : V.heap.size = w.heap.size + 1 + i + 1 := by rw [hV, size_alloc1, hS.out]
      have hbw : Below w1.heap.size w1 V := by rw [hV]; exact (Below.refl _ _).alloc (Nat.le_refl _) _
      have hO1 : Blk V w.heap.size 22 n (fun k => if k < i then .slice (some ⟨w.heap.size + 1 + k, 0, none⟩) s s else .slice none 0 0) := hO.out.on hbw hO.out.lt
      have hN1 : Blk V (w.heap.size + 1 + i) 5 s (fun _ => .int .u8 0) := by rw [hV, ← hS.out]; exact Blk.made _ _ _ _
      have hc := hO1.cell hlt
      have hfz := hO1.free i
      have hst := hO1.set hlt (.slice (some ⟨w.heap.size + 1 + i, 0, none⟩) s s)
      have hBV : Below w.heap.size w (V.setCell ⟨w.heap.size, i, none⟩ (.slice (some ⟨w.heap.size + 1 + i, 0, none⟩) s s)) := ((hB.out.alloc (by have := hB.out.size; omega) (.cells (tabV s fun _ => .int .u8 0) 5)).setCell (p := ⟨w.heap.size, i, none⟩) (Nat.le_refl _) _) |> (by rw [hV]; exact ·)
      have HST := Lib.hid (hst.congr (h := fun k => if k < i + 1 then .slice (some ⟨w.heap.size + 1 + k, 0, none⟩) s s else .slice none 0 0) fun k hk => by
        by_cases e : k = i
        · rw [if_pos e, if_pos (by omega), e]
        · rw [if_neg e]
          by_cases e2 : k < i
          · rw [if_pos e2, if_pos (by omega)]
          · rw [if_neg e2, if_neg (by omega)])
      have HI2 := Lib.hid (show ∀ k, k < i + 1 → Blk (V.setCell ⟨w.heap.size, i, none⟩ (.slice (some ⟨w.heap.size + 1 + i, 0, none⟩) s s)) (w.heap.size + 1 + k) 5 s (fun _ => .int .u8 0) from fun k hk => by
        refine Blk.other ?_ _ _ (by show w.heap.size + 1 + k ≠ w.heap.size; omega)
        by_cases e : k = i
        · rw [e]; exact hN1
        · exact (hI.out k (by omega)).on hbw (hI.out k (by omega)).lt)
      have HSZ := Lib.hid (show (V.setCell ⟨w.heap.size, i, none⟩ (.slice (some ⟨w.heap.size + 1 + i, 0, none⟩) s s)).heap.size = w.heap.size + 1 + (i + 1) by simp [hsV]; omega)
      have HBV := Lib.hid hBV
      have HSE := Lib.hid hS.out
      rw [hV, ← hS.out] at HST HI2 HSZ HBV
      rw [hV] at hc hfz
      clear hV hsV hbw hO1 hN1 hst hBV
      go_wp2
      go_roundw
      case rel => exact ⟨i + 1, by omega, by go_num, HST, HI2, HSZ, HBV⟩
      case measure => simp [intOf]; omega
    · obtain rfl : i = n := by omega
      go_wp2
      go_ret
      exact ⟨rfl, ⟨hO.out.congr fun j hj => by rw [if_pos hj], fun k hk => hI.out k hk⟩, hB.out⟩
set_option maxHeartbeats 1000000 in
theorem column_any (aR : Option Addr) (N cR i n : Nat) (R : List (List GF)) (w : World) (hR : Mat w aR N cR R) (hw : ∀ k, k < N → (rw_ R k).length = n) (hi : i < n) (hN : N ≤ 1000) :
    Calls Try.prog 24 #[.slice aR N cR, .int .i64 (i : Nat)] w fun e w' => ∃ g, e = .returned (.slice (some ⟨g, 0, none⟩) N N) ∧ w'.ownsRow w.heap.size 5 1 (.slice (some ⟨g, 0, none⟩) N N) N ((iL (colM R N i)).map (Value.int .u8)) ∧ Below w.heap.size w w' := by
  have hmk := run_make_row' (P := Try.prog) 22 5 (.int .u8 0) 1 Try.underlying22 info5 rfl .i64 .i64 N (by omega) (by omega)
  have HR := Lib.hid hR
  have HW := Lib.hid hw
  have HI := Lib.hid hi
  have hbd := hR.bd
  have q0 : (0 : Int) ≤ (i : Int) := by omega
  have HN := Lib.hid hN
  have hO0 : Hid ((w.alloc (.cells (madeCells #[.int .u8 0] N) 5)).ownsRow w.heap.size 5 1 (.slice (some ⟨w.heap.size, 0, none⟩) N N) N (plV (colM R N i) N 0)) := by
    rw [plV_zero]
    exact Lib.hid (own_made (w := w) (e := 5) (n := N) (by unfold maxLen; omega))
  have hB0 : Hid (Below w.heap.size w (w.alloc (.cells (madeCells #[.int .u8 0] N) 5))) := Lib.hid ((Below.refl _ _).alloc (Nat.le_refl _) _)
  clear hR hw hi hN
  go_enter Try.func24, Try.ntmps24
  go_wp2
  go_loopw [13] (fun j wr => ∃ k : Nat, k ≤ N ∧ j = .int .i64 (k : Nat) ∧ Hid (wr.ownsRow w.heap.size 5 1 (.slice (some ⟨w.heap.size, 0, none⟩) N N) N (plV (colM R N i) N k)) ∧ Hid (Below w.heap.size w wr))
    (fun j _ => N - (intOf j).toNat)
  case atStart => exact ⟨0, Nat.zero_le _, rfl, hO0, hB0⟩
  case round =>
    obtain ⟨k, hk, rfl, hO, hB⟩ := hrel
    rename World => w2
    by_cases hlt : k < N
    · have qi : (k : Int) < (N : Int) := by omega
      have qi0 : (0 : Int) ≤ (k : Int) := by omega
      obtain ⟨b, off, ai, ci, rfl, hb, hcell, hpa⟩ := (HR.out.on hB.out).row hlt
      rw [HW.out k hlt] at hcell hpa
      obtain ⟨b2, o2, rfl, hb2, hc2⟩ := hpa.at_ HI.out
      have hd := hpa.bd
      have qn : (i : Int) < (n : Int) := by have := HI.out; omega
      have hfz := hO.out.frozenAt k
      have hcl := hO.out.cellAt k (by omega)
      obtain ⟨vo, hvo⟩ : ∃ v, (plV (colM R N i) N k)[k]? = some v := ⟨_, List.getElem?_eq_getElem (by rw [plV_len (colM_len _ _ _) hk]; exact hlt)⟩
      rw [hvo] at hcl
      have hst := (hO.out.stored k (.int .u8 (toI (co (rw_ R k) i)))).1
      rw [show co (rw_ R k) i = co (colM R N i) k from (colM_co R hlt).symm, plV_set (colM_len _ _ _) hlt] at hst
      have HBS := Lib.hid (hB.out.setCell (p := ⟨w.heap.size, k, none⟩) (Nat.le_refl _) (.int .u8 (toI (co (colM R N i) k))))
      rw [colM_co R hlt] at hst HBS
      have HST := Lib.hid hst
      clear hst hvo hpa
      go_wp2
      go_roundw
      case rel => exact ⟨k + 1, by omega, by go_num, HST, HBS⟩
      case measure => simp [intOf]; omega
    · obtain rfl : k = N := by omega
      have ho := hO.out
      rw [plV_all (colM_len _ _ _)] at ho
      have HO := Lib.hid ho
      clear ho
      go_wp2
      go_ret
      exact ⟨_, rfl, HO.out, hB.out⟩
end Go.Proofs.Ytfmjfdbbjggcpaa
