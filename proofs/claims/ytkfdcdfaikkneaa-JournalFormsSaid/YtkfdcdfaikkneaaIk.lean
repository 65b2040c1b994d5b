/- Package word's Get, size, Bits at byte; package sector's reader (take, next). -/
import Derived.Test.YtkfdcdfaikkneaaBj
import Derived.Test.YtkfdcdfaikkneaaIe
namespace Go.Proofs.Ytkfdcdfaikkneaa
open Go.ChangeShapes Go.WideShapes Go.ChangeAt Go.RowKit Go.Shelf
set_option linter.unusedVariables false
set_option linter.unusedSimpArgs false
set_option maxRecDepth 100000
attribute [local go_sem] Oper.semAt_some

theorem len64_8y (w : World) : Calls Try.prog 86 #[.int .u64 255] w fun e w' => e = .returned (.int .i64 8) ∧ w = w' := by
  go_enter Try.func86, Try.ntmps86
  go_wp2
  go_ret
  exact ⟨by kernel_rfl, rfl⟩
theorem bits8y (w : World) : Calls Try.prog 75 #[] w fun e w' => e = .returned (.int .i64 8) ∧ w = w' := by
  go_enter Try.func75, Try.ntmps75
  go_wp2_with (go_at_call 86; refine (len64_8y _).mono ?_; rintro e w' ⟨rfl, rfl⟩)
  go_ret
  exact ⟨by kernel_rfl, rfl⟩
theorem size8y (w : World) : Calls Try.prog 85 #[] w fun e w' => e = .returned (.int .i64 1) ∧ w = w' := by
  go_enter Try.func85, Try.ntmps85
  go_wp2_with (go_at_call 75; refine (bits8y _).mono ?_; rintro e w' ⟨rfl, rfl⟩)
  go_ret
  exact ⟨by kernel_rfl, rfl⟩
theorem get8y (a : Option Addr) (L c : Nat) (l : List Int) (w : World) (hl : l.length = L) (hB : AllB l) (hb : Bs w w.heap.size a l) (hL : L ≤ 9223372036854775807) :
    Calls Try.prog 73 #[.slice a L c] w fun e w' => e = .returned (.tuple #[.int .u8 (getV 1 l), .bool (decide (1 ≤ L))]) ∧ w = w' := by
  by_cases hs : L < 1
  · have HV := Lib.hid (getV_few (n := 1) (l := l) (by omega))
    have HD := Lib.hid (decide_eq_false (show ¬ 1 ≤ L by omega))
    go_enter Try.func73, Try.ntmps73
    go_wp2_with (go_at_call 85; refine (size8y _).mono ?_; rintro e w' ⟨rfl, rfl⟩)
    go_ret2
    exact ⟨ret_tup HV.out.symm HD.out.symm, rfl⟩
  · have HV := Lib.hid (getV_num (n := 1) (l := l) (by omega))
    have HD := Lib.hid (decide_eq_true (show 1 ≤ L by omega))
    have hs' : (1 : Int) ≤ (L : Int) := by omega
    go_enter Try.func73, Try.ntmps73
    go_wp2_with (go_at_call 85; refine (size8y _).mono ?_; rintro e w' ⟨rfl, rfl⟩)
    go_loop [5, 13] (fun v i => ∃ j : Nat, j ≤ 1 ∧ i = .int .i64 j ∧ v = .int .u64 (numB (l.take j))) (fun _ i => 1 - (intOf i).toNat)
    case atStart => exact ⟨0, by omega, rfl, rfl⟩
    case round =>
      obtain ⟨j, hj, rfl, rfl⟩ := hrel
      obtain ⟨S, hS⟩ : ∃ S, S = numB (l.take j) := ⟨_, rfl⟩
      have hbd := numB_bound (hB.take j)
      rw [List.length_take, Nat.min_eq_left (by omega), ← hS] at hbd
      rw [← hS]
      by_cases hlt : j < 1
      · have hp := pow_le_56 hlt (by omega)
        obtain ⟨b, off, rfl, _, hc⟩ := hb.at_ (k := j) (by omega)
        have hxb := allB_getD hB j
        have HN := Lib.hid (numB_take_succ (l := l) (k := j) (by omega))
        obtain ⟨X, hX⟩ : ∃ X, X = l.getD j 0 := ⟨_, rfl⟩
        rw [← hX] at hc hxb
        have HX := Lib.hid hX
        have HS := Lib.hid hS
        have s0 : 0 ≤ S := hbd.1
        have s1 : S < 72057594037927936 := by omega
        have hor := or_byte s0 s1 hxb
        clear hX hS hbd hp
        go_wp2
        go_round
        case rel => exact ⟨j + 1, by omega, by go_num, by rw [HN.out, ← HS.out, ← HX.out]⟩
        case measure => simp [intOf] <;> omega
      · obtain rfl : 1 = j := by omega
        have s0 : 0 ≤ S := hbd.1
        have s1 : S < 256 := hbd.2
        have HS := Lib.hid hS
        clear hS hbd
        go_wp2
        go_ret2
        exact ⟨ret_tup (HS.out.trans HV.out.symm) HD.out.symm, rfl⟩

/-! ## the reader -/
/-- At p lies a reader; what it reads next. -/
def RdA (w : World) (p : Nat) (a : Option Addr) (n k : Nat) : Prop := w.heap[p]? = some (.cells #[.slice a n k] 120 (0, 0))
/-- All but block p. -/
def But (p : Nat) (w w' : World) : Prop := KB (fun j => j = p) w w' ∧ w'.heap.size = w.heap.size
theorem But.of_set (w : World) (g k : Nat) (v : Value) : But g w (w.setCell ⟨g, k, none⟩ v) := ⟨KB.of_set w g k v, by simp⟩
theorem But.trans {p : Nat} {w w1 w2 : World} (h : But p w w1) (k : But p w1 w2) : But p w w2 := ⟨h.1.trans k.1, k.2.trans h.2⟩
theorem RdA.lt {w : World} {p : Nat} {a : Option Addr} {n k : Nat} (h : RdA w p a n k) : p < w.heap.size := (Array.getElem?_eq_some_iff.1 h).1
theorem RdA.c0 {w : World} {p : Nat} {a : Option Addr} {n k : Nat} (h : RdA w p a n k) : w.cell? ⟨p, 0, none⟩ = some (.slice a n k) := by
  unfold RdA at h; simp [World.cell?, h]
theorem RdA.free {w : World} {p : Nat} {a : Option Addr} {n k : Nat} (h : RdA w p a n k) (j : Nat) : w.frozen? ⟨p, j, none⟩ = false := frozen_of_row w p j _ _ h
theorem But.argB {p : Nat} {w w' : World} (h : But p w w') {B : Nat} {a : Option Addr} {l : List Int} (hb : Bs w B a l) (hp : B ≤ p) (hB : B ≤ w.heap.size) : Bs w' B a l := hb.below (h.1.below (fun k e => by rw [e]; exact hp) hB)
set_option maxHeartbeats 1000000 in
theorem take_any (p : Nat) (a : Option Addr) (m c n : Nat) (w : World) (h : RdA w p a m c) (hn : n ≤ m) (hc : m ≤ c) (hc2 : c ≤ 9223372036854775807) :
    Calls Try.prog 74 #[.pointer (some ⟨p, 0, none⟩), .int .i64 (n : Nat)] w fun e w' => e = .returned (.slice a n c) ∧ RdA w' p (cutT a c n) (m - n) (c - n) ∧ But p w w' := by
  have hc0 := h.c0
  have hfz := h.free 0
  have q2 : (n : Int) ≤ (c : Int) := by omega
  have q3 : (0 : Int) ≤ (n : Int) := by omega
  have q4 : (n : Int) ≤ (m : Int) := by omega
  have q5 : (m : Int) ≤ (c : Int) := by omega
  have H := Lib.hid h
  have HQ := Lib.hid (And.intro hn (And.intro hc hc2))
  clear h
  go_enter Try.func74, Try.ntmps74
  go_wp2
  all_goals
    go_ret
    refine ⟨rfl, ?_, But.of_set _ _ _ _⟩
    have e : RdA w p a _ _ := H.out
    unfold RdA at e ⊢
    rw [heap_setCell_same w p 0 _ _ _ e]
    unfold cutT
    first
      | (rw [if_pos (by assumption)]; rfl)
      | (rw [if_pos rfl]; rfl)
      | (rw [if_pos rfl, Nat.sub_self]; rfl)
      | (rw [if_neg (by assumption)]; rfl)

set_option maxHeartbeats 1000000 in
theorem next8_any (p : Nat) (a : Option Addr) (m c : Nat) (l : List Int) (w : World) (h : RdA w p a m c) (hl : l.length = m) (hB : AllB l) (hb : Bs w p a l) (hn : 1 ≤ m) (hc : m ≤ c) (hc2 : c ≤ 9223372036854775807) :
    Calls Try.prog 53 #[.pointer (some ⟨p, 0, none⟩)] w fun e w' => e = .returned (.int .u8 (getV 1 l)) ∧ RdA w' p (cutT a c 1) (m - 1) (c - 1) ∧ But p w w' := by
  have HT := Lib.hid (take_any p a m c 1 w h hn hc hc2)
  have HG := Lib.hid (fun (W : World) (hW : But p w W) => get8y a 1 c (l.take 1) W (by rw [List.length_take]; omega) (hB.take 1) ((hW.argB hb (Nat.le_refl _) (by have := h.lt; omega)).take 1 |>.more (by have := h.lt; have := hW.2; omega)) (by omega))
  have HV := Lib.hid (show getV 1 (l.take 1) = getV 1 l by rw [getV_num (by rw [List.length_take]; omega), getV_num (by omega), List.take_take, Nat.min_self])
  have hd : decide (1 ≤ 1) = true := rfl
  clear h hl hB hb
  go_enter Try.func53, Try.ntmps53
  go_wp2_with (first
    | (go_at_call 75; refine (bits8y _).mono ?_; rintro e w' ⟨rfl, rfl⟩)
    | (go_at_call 74; go_loud (refine HT.out.mono ?_; rintro e w1 ⟨rfl, hr1, hk1⟩; have HR1 := Lib.hid hr1; have HK1 := Lib.hid hk1; clear hr1 hk1))
    | (go_at_call 73; go_loud (refine (HG.out _ HK1.out).mono ?_; rintro e w2 ⟨rfl, rfl⟩)))
  go_ret
  exact ⟨by rw [HV.out]; rfl, HR1.out, HK1.out⟩

set_option maxHeartbeats 1000000 in
theorem next16_any (p : Nat) (a : Option Addr) (m c : Nat) (l : List Int) (w : World) (h : RdA w p a m c) (hl : l.length = m) (hB : AllB l) (hb : Bs w p a l) (hn : 2 ≤ m) (hc : m ≤ c) (hc2 : c ≤ 9223372036854775807) :
    Calls Try.prog 56 #[.pointer (some ⟨p, 0, none⟩)] w fun e w' => e = .returned (.int .u16 (getV 2 l)) ∧ RdA w' p (cutT a c 2) (m - 2) (c - 2) ∧ But p w w' := by
  have HT := Lib.hid (take_any p a m c 2 w h hn hc hc2)
  have HG := Lib.hid (fun (W : World) (hW : But p w W) => get16 a 2 c (l.take 2) W (by rw [List.length_take]; omega) (hB.take 2) ((hW.argB hb (Nat.le_refl _) (by have := h.lt; omega)).take 2 |>.more (by have := h.lt; have := hW.2; omega)) (by omega))
  have HV := Lib.hid (show getV 2 (l.take 2) = getV 2 l by rw [getV_num (by rw [List.length_take]; omega), getV_num (by omega), List.take_take, Nat.min_self])
  have hd : decide (2 ≤ 2) = true := rfl
  clear h hl hB hb
  go_enter Try.func56, Try.ntmps56
  go_wp2_with (first
    | (go_at_call 81; refine (bits16 _).mono ?_; rintro e w' ⟨rfl, rfl⟩)
    | (go_at_call 74; go_loud (refine HT.out.mono ?_; rintro e w1 ⟨rfl, hr1, hk1⟩; have HR1 := Lib.hid hr1; have HK1 := Lib.hid hk1; clear hr1 hk1))
    | (go_at_call 80; go_loud (refine (HG.out _ HK1.out).mono ?_; rintro e w2 ⟨rfl, rfl⟩)))
  go_ret
  exact ⟨by rw [HV.out]; rfl, HR1.out, HK1.out⟩

set_option maxHeartbeats 1000000 in
theorem next32_any (p : Nat) (a : Option Addr) (m c : Nat) (l : List Int) (w : World) (h : RdA w p a m c) (hl : l.length = m) (hB : AllB l) (hb : Bs w p a l) (hn : 4 ≤ m) (hc : m ≤ c) (hc2 : c ≤ 9223372036854775807) :
    Calls Try.prog 54 #[.pointer (some ⟨p, 0, none⟩)] w fun e w' => e = .returned (.int .u32 (getV 4 l)) ∧ RdA w' p (cutT a c 4) (m - 4) (c - 4) ∧ But p w w' := by
  have HT := Lib.hid (take_any p a m c 4 w h hn hc hc2)
  have HG := Lib.hid (fun (W : World) (hW : But p w W) => get32 a 4 c (l.take 4) W (by rw [List.length_take]; omega) (hB.take 4) ((hW.argB hb (Nat.le_refl _) (by have := h.lt; omega)).take 4 |>.more (by have := h.lt; have := hW.2; omega)) (by omega))
  have HV := Lib.hid (show getV 4 (l.take 4) = getV 4 l by rw [getV_num (by rw [List.length_take]; omega), getV_num (by omega), List.take_take, Nat.min_self])
  have hd : decide (4 ≤ 4) = true := rfl
  clear h hl hB hb
  go_enter Try.func54, Try.ntmps54
  go_wp2_with (first
    | (go_at_call 77; refine (bits32 _).mono ?_; rintro e w' ⟨rfl, rfl⟩)
    | (go_at_call 74; go_loud (refine HT.out.mono ?_; rintro e w1 ⟨rfl, hr1, hk1⟩; have HR1 := Lib.hid hr1; have HK1 := Lib.hid hk1; clear hr1 hk1))
    | (go_at_call 76; go_loud (refine (HG.out _ HK1.out).mono ?_; rintro e w2 ⟨rfl, rfl⟩)))
  go_ret
  exact ⟨by rw [HV.out]; rfl, HR1.out, HK1.out⟩

set_option maxHeartbeats 1000000 in
theorem next64_any (p : Nat) (a : Option Addr) (m c : Nat) (l : List Int) (w : World) (h : RdA w p a m c) (hl : l.length = m) (hB : AllB l) (hb : Bs w p a l) (hn : 8 ≤ m) (hc : m ≤ c) (hc2 : c ≤ 9223372036854775807) :
    Calls Try.prog 55 #[.pointer (some ⟨p, 0, none⟩)] w fun e w' => e = .returned (.int .u64 (getV 8 l)) ∧ RdA w' p (cutT a c 8) (m - 8) (c - 8) ∧ But p w w' := by
  have HT := Lib.hid (take_any p a m c 8 w h hn hc hc2)
  have HG := Lib.hid (fun (W : World) (hW : But p w W) => get64 a 8 c (l.take 8) W (by rw [List.length_take]; omega) (hB.take 8) ((hW.argB hb (Nat.le_refl _) (by have := h.lt; omega)).take 8 |>.more (by have := h.lt; have := hW.2; omega)) (by omega))
  have HV := Lib.hid (show getV 8 (l.take 8) = getV 8 l by rw [getV_num (by rw [List.length_take]; omega), getV_num (by omega), List.take_take, Nat.min_self])
  have hd : decide (8 ≤ 8) = true := rfl
  clear h hl hB hb
  go_enter Try.func55, Try.ntmps55
  go_wp2_with (first
    | (go_at_call 79; refine (bits64 _).mono ?_; rintro e w' ⟨rfl, rfl⟩)
    | (go_at_call 74; go_loud (refine HT.out.mono ?_; rintro e w1 ⟨rfl, hr1, hk1⟩; have HR1 := Lib.hid hr1; have HK1 := Lib.hid hk1; clear hr1 hk1))
    | (go_at_call 78; go_loud (refine (HG.out _ HK1.out).mono ?_; rintro e w2 ⟨rfl, rfl⟩)))
  go_ret
  exact ⟨by rw [HV.out]; rfl, HR1.out, HK1.out⟩
end Go.Proofs.Ytkfdcdfaikkneaa
