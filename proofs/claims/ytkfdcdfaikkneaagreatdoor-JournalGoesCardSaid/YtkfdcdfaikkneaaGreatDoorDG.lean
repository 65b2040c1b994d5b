/- Texts of mine, one behind the other: Bj Ik Il Im In. -/
import Derived.Test.YtkfdcdfaikkneaaGreatDoorBa
import Derived.Test.YtkfdcdfaikkneaaGreatDoorDA
import Derived.Test.YtkfdcdfaikkneaaGreatDoorDE
import Derived.ArgAppend
import Derived.Lib.SlBytesConst
/- Plain words on rows and arguments of bytes: cut, kept where their blocks are; slices.Clone at bytes. -/
namespace Go.Proofs.YtkfdcdfaikkneaaGreatDoor
open Go.ChangeShapes Go.WideShapes Go.ChangeAt Go.RowKit Go.Shelf
set_option linter.unusedVariables false
set_option linter.unusedSimpArgs false
set_option maxRecDepth 100000
attribute [local go_sem] Oper.semAt_some

/-! ## plain -/
theorem KB.monoF {F G : Nat → Prop} {w w' : World} (h : KB F w w') (k : ∀ j, F j → G j) : KB G w w' := ⟨h.1, fun j hj hf => h.2 j hj (fun e => hf (k j e))⟩
def cutT (a : Option Addr) (c k : Nat) : Option Addr := if c = k then a else a.map (·.add k)
theorem Arg8c.cut8 {w : World} {a : Option Addr} {m c : Nat} {l : List Int} (h : Arg8c w a m c l) {k : Nat} (hk : k ≤ m) : Arg8c w (cutT a c k) (m - k) (c - k) (l.drop k) := by
  obtain ⟨⟨h1, h2, h3, h4, h5⟩, h6⟩ := h
  refine ⟨⟨by rw [List.length_drop, h1], fun x hx => h2 x (List.mem_of_mem_drop hx), ?_, by omega, by omega⟩, fun e => ?_⟩
  · intro h0
    rw [List.length_drop] at h0
    obtain ⟨b, off, e, hb, hc⟩ := h3 (by omega)
    refine ⟨b, off + k, ?_, hb, fun i hi => ?_⟩
    · unfold cutT; rw [if_neg (by omega), e]; exact congrArg some (Addr.add_lit _ _ _)
    · rw [List.length_drop] at hi
      have := hc (k + i) (by omega)
      rw [show off + k + i = off + (k + i) by omega, this]
      simp [List.getD_eq_getElem?_getD, List.getElem?_drop]
  · unfold cutT at e
    by_cases hc : c = k
    · omega
    · rw [if_neg hc] at e
      rcases a with _ | ad
      · have := h6 rfl; omega
      · cases e
theorem cutT_block {c k b o b0 o0 : Nat} (h : cutT (some ⟨b0, o0, none⟩) c k = some ⟨b, o, none⟩) : b = b0 := by
  unfold cutT at h
  by_cases hc : c = k
  · rw [if_pos hc] at h; cases h; rfl
  · rw [if_neg hc, Option.map_some, Addr.add_lit] at h; cases h; rfl
theorem Arg8c.takeT {w : World} {a : Option Addr} {m c : Nat} {l : List Int} (h : Arg8c w a m c l) {k : Nat} (hk : k ≤ m) : Arg8c w a k c (l.take k) := by
  obtain ⟨⟨h1, h2, h3, h4, h5⟩, h6⟩ := h
  exact ⟨⟨by rw [List.length_take, h1]; omega, fun x hx => h2 x (List.mem_of_mem_take hx), h3.take k, by omega, h5⟩, h6⟩
theorem own_lt {w : World} {base s n g : Nat} {e : TypeId} {v : Value} {xs : List Value} (h : w.ownsRow base e s v n xs) (hv : v.ownBlock = some g) : base ≤ g ∧ g < w.heap.size := by
  rcases h.2 with ⟨rfl, _⟩ | ⟨g', cap, cur, rfl, hb, hg, _⟩
  · cases hv
  · cases hv
    refine ⟨hb, ?_⟩
    rcases Nat.lt_or_ge g' w.heap.size with hlt | hge
    · exact hlt
    · rw [Array.getElem?_eq_none hge] at hg; cases hg
theorem own_blockT {w w' : World} {base s n : Nat} {e : TypeId} {v : Value} {xs : List Value} (h : w.ownsRow base e s v n xs) (hk : ∀ g, v.ownBlock = some g → w'.heap[g]? = w.heap[g]?) : w'.ownsRow base e s v n xs := by
  obtain ⟨h1, h2⟩ := h
  refine ⟨h1, ?_⟩
  rcases h2 with h2 | ⟨g, cap, cur, rfl, h3, h4, h5⟩
  · exact .inl h2
  · exact .inr ⟨g, cap, cur, rfl, h3, (hk g rfl).trans h4, h5⟩
theorem own_belowU {w w' : World} {base s n : Nat} {e : TypeId} {v : Value} {xs : List Value} (h : w.ownsRow base e s v n xs) (hb : Below w.heap.size w w') : w'.ownsRow base e s v n xs := own_blockT h fun g e => hb.block g (own_lt h e).2
theorem own_low {w : World} {base base' s n : Nat} {e : TypeId} {v : Value} {xs : List Value} (h : w.ownsRow base e s v n xs) (hb : base' ≤ base) : w.ownsRow base' e s v n xs := by
  refine ⟨h.1, ?_⟩
  rcases h.2 with h2 | ⟨g, cap, cur, h1, h2, h3⟩
  · exact .inl h2
  · exact .inr ⟨g, cap, cur, h1, Nat.le_trans hb h2, h3⟩
theorem Arg8c.blockT {w w' : World} {a : Option Addr} {m c : Nat} {l : List Int} (h : Arg8c w a m c l) (hk : 0 < m → ∀ b o, a = some ⟨b, o, none⟩ → w'.heap[b]? = w.heap[b]?) : Arg8c w' a m c l := by
  obtain ⟨⟨h1, h2, h3, h4, h5⟩, h6⟩ := h
  refine ⟨⟨h1, h2, fun h0 => ?_, h4, h5⟩, h6⟩
  obtain ⟨b, off, e, hb, hc⟩ := h3 h0
  have hkb := hk (by omega) b off e
  refine ⟨b, off, e, ?_, fun i hi => (World.cell?_of_block (w := w) (a := ⟨b, off + i, none⟩) hkb).trans (hc i hi)⟩
  rcases Nat.lt_or_ge b w'.heap.size with h7 | h7
  · exact h7
  · rw [Array.getElem?_eq_none h7, Array.getElem?_eq_getElem hb] at hkb; cases hkb
/-! ## slices.Clone -/
theorem eqlT_nil (w : World) : (binOp .eql 23 (.slice none 0 0) (.slice none 0 0)).run Tryz.prog w = .ok (.bool true) w := rfl
theorem eqlT_some (w : World) (ad : Addr) (n c : Nat) : (binOp .eql 23 (.slice (some ad) n c) (.slice none 0 0)).run Tryz.prog w = .ok (.bool false) w := rfl
theorem cloneB_any (a : Option Addr) (L cap : Nat) (l : List Int) (w : World) (hx : Arg8c w a L cap l) (hL : L ≤ 140737488355328) :
    Calls Tryz.prog 69 #[.slice a L cap] w fun e w' => ∃ a' c', e = .returned (.slice a' L c') ∧ w'.ownsRow w.heap.size 5 1 (.slice a' L c') L (l.map (Value.int .u8)) ∧ Arg8c w' a' L c' l ∧ Below w.heap.size w w' := by
  have HX := Lib.hid hx
  have hcap := hx.1.2.2.2
  clear hx
  rcases a with _ | ad
  · obtain rfl : cap = 0 := HX.out.2 rfl
    obtain rfl : L = 0 := by omega
    have H0 := Lib.hid (show l = [] from List.eq_nil_of_length_eq_zero HX.out.1.1)
    have he := eqlT_nil
    go_enter Tryz.func69, Tryz.ntmps69
    go_wp2
    go_ret
    exact ⟨_, _, rfl, by rw [H0.out]; exact World.ownsRow_nil _ _ _ _, HX.out, Below.refl _ _⟩
  · obtain ⟨i5, hi, hz0, hz1, hz2⟩ := info_parts info5
    have HI := Lib.hid (And.intro hi (And.intro hz0 (And.intro hz1 hz2)))
    clear hi hz0 hz1 hz2
    have he := fun w => eqlT_some w ad L cap
    go_enter Tryz.func69, Tryz.ntmps69
    go_wp2_with ((with_reducible show wpList _ _ _ (⟨some 7, _, _, _, _, _⟩ :: _) _ _); refine wpList_append_bs _ rfl (.tmp 5) (.tmp 6) 23 rfl w.heap.size 5 i5 Tryz.underlying23 HI.out.1 HI.out.2.1 HI.out.2.2.1 HI.out.2.2.2 _ 0 [] rfl (own_empty w _) (some ad) L cap w.heap.size l rfl (HX.out.1.2.2.1.below ((Below.refl _ _).alloc (Nat.le_refl _) _)) HX.out.1.1 (by simp) (by omega) (by simp) ?_; intro v1 wc hown1 hg1; rw [Nat.zero_add, List.nil_append] at hown1; have hBc := ((Below.refl _ w).alloc (Nat.le_refl _) _).grown hg1 (by simp) (own_block_le _ _ _); have HO := Lib.hid hown1; have HB := Lib.hid hBc; obtain ⟨ac, cc, hv, hbs, hll, hn1, hm1, hz1⟩ := own_form hown1; subst hv; have HA := Lib.hid (show Arg8c wc ac L cc l from ⟨⟨hll, HX.out.1.2.1, hbs, hn1, hm1⟩, hz1⟩); clear hown1 hg1 hBc hbs hll hn1 hm1 hz1)
    go_ret
    exact ⟨_, _, rfl, HO.out, HA.out, HB.out⟩
end Go.Proofs.YtkfdcdfaikkneaaGreatDoor
/- Package word's Get, size, Bits at byte; package sector's reader (take, next). -/
namespace Go.Proofs.YtkfdcdfaikkneaaGreatDoor
open Go.ChangeShapes Go.WideShapes Go.ChangeAt Go.RowKit Go.Shelf
set_option linter.unusedVariables false
set_option linter.unusedSimpArgs false
set_option maxRecDepth 100000
attribute [local go_sem] Oper.semAt_some

theorem len64_8y (w : World) : Calls Tryz.prog 98 #[.int .u64 255] w fun e w' => e = .returned (.int .i64 8) ∧ w = w' := by
  go_enter Tryz.func98, Tryz.ntmps98
  go_wp2
  go_ret
  exact ⟨by kernel_rfl, rfl⟩
theorem bits8y (w : World) : Calls Tryz.prog 77 #[] w fun e w' => e = .returned (.int .i64 8) ∧ w = w' := by
  go_enter Tryz.func77, Tryz.ntmps77
  go_wp2_with (go_at_call 98; refine (len64_8y _).mono ?_; rintro e w' ⟨rfl, rfl⟩)
  go_ret
  exact ⟨by kernel_rfl, rfl⟩
theorem size8y (w : World) : Calls Tryz.prog 97 #[] w fun e w' => e = .returned (.int .i64 1) ∧ w = w' := by
  go_enter Tryz.func97, Tryz.ntmps97
  go_wp2_with (go_at_call 77; refine (bits8y _).mono ?_; rintro e w' ⟨rfl, rfl⟩)
  go_ret
  exact ⟨by kernel_rfl, rfl⟩
theorem get8y (a : Option Addr) (L c : Nat) (l : List Int) (w : World) (hl : l.length = L) (hB : AllB l) (hb : Bs w w.heap.size a l) (hL : L ≤ 9223372036854775807) :
    Calls Tryz.prog 76 #[.slice a L c] w fun e w' => e = .returned (.tuple #[.int .u8 (getV 1 l), .bool (decide (1 ≤ L))]) ∧ w = w' := by
  by_cases hs : L < 1
  · have HV := Lib.hid (getV_few (n := 1) (l := l) (by omega))
    have HD := Lib.hid (decide_eq_false (show ¬ 1 ≤ L by omega))
    go_enter Tryz.func76, Tryz.ntmps76
    go_wp2_with (go_at_call 97; refine (size8y _).mono ?_; rintro e w' ⟨rfl, rfl⟩)
    go_ret2
    exact ⟨ret_tup HV.out.symm HD.out.symm, rfl⟩
  · have HV := Lib.hid (getV_num (n := 1) (l := l) (by omega))
    have HD := Lib.hid (decide_eq_true (show 1 ≤ L by omega))
    have hs' : (1 : Int) ≤ (L : Int) := by omega
    go_enter Tryz.func76, Tryz.ntmps76
    go_wp2_with (go_at_call 97; refine (size8y _).mono ?_; rintro e w' ⟨rfl, rfl⟩)
    go_loop [5, 13] (fun v i => ∃ j : Nat, j ≤ 1 ∧ i = .int .i64 j ∧ v = .int .u64 (numB (l.take j))) (fun _ i => 1 - (intOf i).toNat)
    case atStart => exact ⟨0, by omega, rfl, rfl⟩
    case round =>
      obtain ⟨j, hj, rfl, rfl⟩ := hrel
      obtain ⟨S, hS⟩ : ∃ S, S = numB (l.take j) := ⟨_, rfl⟩
      have hbd := numB_bound (hB.take j)
      rw [List.length_take, Nat.min_eq_left (by omega), ← hS] at hbd
      rw [← hS]
      by_cases hlt : j < 1
      · have hp := pow_le_56 hlt (by omega)
        obtain ⟨b, off, rfl, _, hc⟩ := hb.at_ (k := j) (by omega)
        have hxb := allB_getD hB j
        have HN := Lib.hid (numB_take_succ (l := l) (k := j) (by omega))
        obtain ⟨X, hX⟩ : ∃ X, X = l.getD j 0 := ⟨_, rfl⟩
        rw [← hX] at hc hxb
        have HX := Lib.hid hX
        have HS := Lib.hid hS
        have s0 : 0 ≤ S := hbd.1
        have s1 : S < 72057594037927936 := by omega
        have hor := or_byte s0 s1 hxb
        clear hX hS hbd hp
        go_wp2
        go_round
        case rel => exact ⟨j + 1, by omega, by go_num, by rw [HN.out, ← HS.out, ← HX.out]⟩
        case measure => simp [intOf] <;> omega
      · obtain rfl : 1 = j := by omega
        have s0 : 0 ≤ S := hbd.1
        have s1 : S < 256 := hbd.2
        have HS := Lib.hid hS
        clear hS hbd
        go_wp2
        go_ret2
        exact ⟨ret_tup (HS.out.trans HV.out.symm) HD.out.symm, rfl⟩

/-! ## the reader -/
/-- At p lies a reader; what it reads next. -/
def RdA (w : World) (p : Nat) (a : Option Addr) (n k : Nat) : Prop := w.heap[p]? = some (.cells #[.slice a n k] 134 (0, 0))
/-- All but block p. -/
def But (p : Nat) (w w' : World) : Prop := KB (fun j => j = p) w w' ∧ w'.heap.size = w.heap.size
theorem But.of_set (w : World) (g k : Nat) (v : Value) : But g w (w.setCell ⟨g, k, none⟩ v) := ⟨KB.of_set w g k v, by simp⟩
theorem But.trans {p : Nat} {w w1 w2 : World} (h : But p w w1) (k : But p w1 w2) : But p w w2 := ⟨h.1.trans k.1, k.2.trans h.2⟩
theorem RdA.lt {w : World} {p : Nat} {a : Option Addr} {n k : Nat} (h : RdA w p a n k) : p < w.heap.size := (Array.getElem?_eq_some_iff.1 h).1
theorem RdA.c0 {w : World} {p : Nat} {a : Option Addr} {n k : Nat} (h : RdA w p a n k) : w.cell? ⟨p, 0, none⟩ = some (.slice a n k) := by
  unfold RdA at h; simp [World.cell?, h]
theorem RdA.free {w : World} {p : Nat} {a : Option Addr} {n k : Nat} (h : RdA w p a n k) (j : Nat) : w.frozen? ⟨p, j, none⟩ = false := frozen_of_row w p j _ _ h
theorem But.argB {p : Nat} {w w' : World} (h : But p w w') {B : Nat} {a : Option Addr} {l : List Int} (hb : Bs w B a l) (hp : B ≤ p) (hB : B ≤ w.heap.size) : Bs w' B a l := hb.below (h.1.below (fun k e => by rw [e]; exact hp) hB)
set_option maxHeartbeats 1000000 in
theorem take_any (p : Nat) (a : Option Addr) (m c n : Nat) (w : World) (h : RdA w p a m c) (hn : n ≤ m) (hc : m ≤ c) (hc2 : c ≤ 9223372036854775807) :
    Calls Tryz.prog 47 #[.pointer (some ⟨p, 0, none⟩), .int .i64 (n : Nat)] w fun e w' => e = .returned (.slice a n c) ∧ RdA w' p (cutT a c n) (m - n) (c - n) ∧ But p w w' := by
  have hc0 := h.c0
  have hfz := h.free 0
  have q2 : (n : Int) ≤ (c : Int) := by omega
  have q3 : (0 : Int) ≤ (n : Int) := by omega
  have q4 : (n : Int) ≤ (m : Int) := by omega
  have q5 : (m : Int) ≤ (c : Int) := by omega
  have H := Lib.hid h
  have HQ := Lib.hid (And.intro hn (And.intro hc hc2))
  clear h
  go_enter Tryz.func47, Tryz.ntmps47
  go_wp2
  all_goals
    go_ret
    refine ⟨rfl, ?_, But.of_set _ _ _ _⟩
    have e : RdA w p a _ _ := H.out
    unfold RdA at e ⊢
    rw [heap_setCell_same w p 0 _ _ _ e]
    unfold cutT
    first
      | (rw [if_pos (by assumption)]; rfl)
      | (rw [if_pos rfl]; rfl)
      | (rw [if_pos rfl, Nat.sub_self]; rfl)
      | (rw [if_neg (by assumption)]; rfl)

set_option maxHeartbeats 1000000 in
theorem next8_any (p : Nat) (a : Option Addr) (m c : Nat) (l : List Int) (w : World) (h : RdA w p a m c) (hl : l.length = m) (hB : AllB l) (hb : Bs w p a l) (hn : 1 ≤ m) (hc : m ≤ c) (hc2 : c ≤ 9223372036854775807) :
    Calls Tryz.prog 48 #[.pointer (some ⟨p, 0, none⟩)] w fun e w' => e = .returned (.int .u8 (getV 1 l)) ∧ RdA w' p (cutT a c 1) (m - 1) (c - 1) ∧ But p w w' := by
  have HT := Lib.hid (take_any p a m c 1 w h hn hc hc2)
  have HG := Lib.hid (fun (W : World) (hW : But p w W) => get8y a 1 c (l.take 1) W (by rw [List.length_take]; omega) (hB.take 1) ((hW.argB hb (Nat.le_refl _) (by have := h.lt; omega)).take 1 |>.more (by have := h.lt; have := hW.2; omega)) (by omega))
  have HV := Lib.hid (show getV 1 (l.take 1) = getV 1 l by rw [getV_num (by rw [List.length_take]; omega), getV_num (by omega), List.take_take, Nat.min_self])
  have hd : decide (1 ≤ 1) = true := rfl
  clear h hl hB hb
  go_enter Tryz.func48, Tryz.ntmps48
  go_wp2_with (first
    | (go_at_call 77; refine (bits8y _).mono ?_; rintro e w' ⟨rfl, rfl⟩)
    | (go_at_call 47; go_loud (refine HT.out.mono ?_; rintro e w1 ⟨rfl, hr1, hk1⟩; have HR1 := Lib.hid hr1; have HK1 := Lib.hid hk1; clear hr1 hk1))
    | (go_at_call 76; go_loud (refine (HG.out _ HK1.out).mono ?_; rintro e w2 ⟨rfl, rfl⟩)))
  go_ret
  exact ⟨by rw [HV.out]; rfl, HR1.out, HK1.out⟩

set_option maxHeartbeats 1000000 in
theorem next16_any (p : Nat) (a : Option Addr) (m c : Nat) (l : List Int) (w : World) (h : RdA w p a m c) (hl : l.length = m) (hB : AllB l) (hb : Bs w p a l) (hn : 2 ≤ m) (hc : m ≤ c) (hc2 : c ≤ 9223372036854775807) :
    Calls Tryz.prog 86 #[.pointer (some ⟨p, 0, none⟩)] w fun e w' => e = .returned (.int .u16 (getV 2 l)) ∧ RdA w' p (cutT a c 2) (m - 2) (c - 2) ∧ But p w w' := by
  have HT := Lib.hid (take_any p a m c 2 w h hn hc hc2)
  have HG := Lib.hid (fun (W : World) (hW : But p w W) => get16 a 2 c (l.take 2) W (by rw [List.length_take]; omega) (hB.take 2) ((hW.argB hb (Nat.le_refl _) (by have := h.lt; omega)).take 2 |>.more (by have := h.lt; have := hW.2; omega)) (by omega))
  have HV := Lib.hid (show getV 2 (l.take 2) = getV 2 l by rw [getV_num (by rw [List.length_take]; omega), getV_num (by omega), List.take_take, Nat.min_self])
  have hd : decide (2 ≤ 2) = true := rfl
  clear h hl hB hb
  go_enter Tryz.func86, Tryz.ntmps86
  go_wp2_with (first
    | (go_at_call 102; refine (bits16 _).mono ?_; rintro e w' ⟨rfl, rfl⟩)
    | (go_at_call 47; go_loud (refine HT.out.mono ?_; rintro e w1 ⟨rfl, hr1, hk1⟩; have HR1 := Lib.hid hr1; have HK1 := Lib.hid hk1; clear hr1 hk1))
    | (go_at_call 101; go_loud (refine (HG.out _ HK1.out).mono ?_; rintro e w2 ⟨rfl, rfl⟩)))
  go_ret
  exact ⟨by rw [HV.out]; rfl, HR1.out, HK1.out⟩

set_option maxHeartbeats 1000000 in
theorem next32_any (p : Nat) (a : Option Addr) (m c : Nat) (l : List Int) (w : World) (h : RdA w p a m c) (hl : l.length = m) (hB : AllB l) (hb : Bs w p a l) (hn : 4 ≤ m) (hc : m ≤ c) (hc2 : c ≤ 9223372036854775807) :
    Calls Tryz.prog 49 #[.pointer (some ⟨p, 0, none⟩)] w fun e w' => e = .returned (.int .u32 (getV 4 l)) ∧ RdA w' p (cutT a c 4) (m - 4) (c - 4) ∧ But p w w' := by
  have HT := Lib.hid (take_any p a m c 4 w h hn hc hc2)
  have HG := Lib.hid (fun (W : World) (hW : But p w W) => get32 a 4 c (l.take 4) W (by rw [List.length_take]; omega) (hB.take 4) ((hW.argB hb (Nat.le_refl _) (by have := h.lt; omega)).take 4 |>.more (by have := h.lt; have := hW.2; omega)) (by omega))
  have HV := Lib.hid (show getV 4 (l.take 4) = getV 4 l by rw [getV_num (by rw [List.length_take]; omega), getV_num (by omega), List.take_take, Nat.min_self])
  have hd : decide (4 ≤ 4) = true := rfl
  clear h hl hB hb
  go_enter Tryz.func49, Tryz.ntmps49
  go_wp2_with (first
    | (go_at_call 79; refine (bits32 _).mono ?_; rintro e w' ⟨rfl, rfl⟩)
    | (go_at_call 47; go_loud (refine HT.out.mono ?_; rintro e w1 ⟨rfl, hr1, hk1⟩; have HR1 := Lib.hid hr1; have HK1 := Lib.hid hk1; clear hr1 hk1))
    | (go_at_call 78; go_loud (refine (HG.out _ HK1.out).mono ?_; rintro e w2 ⟨rfl, rfl⟩)))
  go_ret
  exact ⟨by rw [HV.out]; rfl, HR1.out, HK1.out⟩

set_option maxHeartbeats 1000000 in
theorem next64_any (p : Nat) (a : Option Addr) (m c : Nat) (l : List Int) (w : World) (h : RdA w p a m c) (hl : l.length = m) (hB : AllB l) (hb : Bs w p a l) (hn : 8 ≤ m) (hc : m ≤ c) (hc2 : c ≤ 9223372036854775807) :
    Calls Tryz.prog 57 #[.pointer (some ⟨p, 0, none⟩)] w fun e w' => e = .returned (.int .u64 (getV 8 l)) ∧ RdA w' p (cutT a c 8) (m - 8) (c - 8) ∧ But p w w' := by
  have HT := Lib.hid (take_any p a m c 8 w h hn hc hc2)
  have HG := Lib.hid (fun (W : World) (hW : But p w W) => get64 a 8 c (l.take 8) W (by rw [List.length_take]; omega) (hB.take 8) ((hW.argB hb (Nat.le_refl _) (by have := h.lt; omega)).take 8 |>.more (by have := h.lt; have := hW.2; omega)) (by omega))
  have HV := Lib.hid (show getV 8 (l.take 8) = getV 8 l by rw [getV_num (by rw [List.length_take]; omega), getV_num (by omega), List.take_take, Nat.min_self])
  have hd : decide (8 ≤ 8) = true := rfl
  clear h hl hB hb
  go_enter Tryz.func57, Tryz.ntmps57
  go_wp2_with (first
    | (go_at_call 85; refine (bits64 _).mono ?_; rintro e w' ⟨rfl, rfl⟩)
    | (go_at_call 47; go_loud (refine HT.out.mono ?_; rintro e w1 ⟨rfl, hr1, hk1⟩; have HR1 := Lib.hid hr1; have HK1 := Lib.hid hk1; clear hr1 hk1))
    | (go_at_call 84; go_loud (refine (HG.out _ HK1.out).mono ?_; rintro e w2 ⟨rfl, rfl⟩)))
  go_ret
  exact ⟨by rw [HV.out]; rfl, HR1.out, HK1.out⟩
end Go.Proofs.YtkfdcdfaikkneaaGreatDoor
/- Package sector: read, whole; bytes.Equal; a commit's bytes. -/
namespace Go.Proofs.YtkfdcdfaikkneaaGreatDoor
open Go.ChangeShapes Go.WideShapes Go.ChangeAt Go.RowKit Go.Shelf
set_option linter.unusedVariables false
set_option linter.unusedSimpArgs false
set_option maxRecDepth 100000
attribute [local go_sem] Oper.semAt_some

set_option maxHeartbeats 2000000 in
theorem whole_any (a : Option Addr) (n c : Nat) (b : List Int) (w : World) (hx : Arg8c w a n c b) :
    Calls Tryz.prog 67 #[.slice a n c] w fun e w' => ∃ g, e = .returned (.slice (some ⟨g, 0, none⟩) 512 512) ∧ w'.ownsRow w.heap.size 5 1 (.slice (some ⟨g, 0, none⟩) 512 512) 512 ((madeL b).map (Value.int .u8)) ∧ Arg8c w' (some ⟨g, 0, none⟩) 512 512 (madeL b) ∧ w.heap.size ≤ g ∧ Below w.heap.size w w' := by
  have hmk := run_make_row' (P := Tryz.prog) 23 5 (.int .u8 0) 1 Tryz.underlying23 info5 rfl .i64 .i64 512 (by omega) (by omega)
  have hmk : ∀ w : World, (Instr.makeSlice 23 (.int .i64 512) (.int .i64 512)).run Tryz.prog w = .ok (.slice (some ⟨w.heap.size, 0, none⟩) 512 512) (w.alloc (.cells (madeCells #[.int .u8 0] 512) 5)) := hmk
  have k1 : (w.alloc (.cells (madeCells #[.int .u8 0] 512) 5)).heap[w.heap.size]? = some (.cells (madeCells #[.int .u8 0] 512).toList.toArray 5 (0, 0)) := by rw [Array.toArray_toList]; exact heap_alloc_new w _
  have hbl := hx.1.1
  have k2 : ((b.take 512).map (Value.int .u8)).length = Nat.min n 512 := by rw [List.length_map, List.length_take, hbl]; exact Nat.min_comm _ _
  have k5 : Below w.heap.size w (w.alloc (.cells (madeCells #[.int .u8 0] 512) 5)) := (Below.refl _ _).alloc (Nat.le_refl _) _
  have k3 : 0 < ((b.take 512).map (Value.int .u8)).length → ∃ ad, a = some ad ∧ ∀ j v, ((b.take 512).map (Value.int .u8))[j]? = some v → (w.alloc (.cells (madeCells #[.int .u8 0] 512) 5)).cell? (ad.add j) = some v :=
    fun h0 => ((hx.1.2.2.1.take 512).below k5).cells h0
  have k4 : 0 + ((b.take 512).map (Value.int .u8)).length ≤ (madeCells #[.int .u8 0] 512).toList.length := by
    have e : (madeCells #[Value.int .u8 0] 512).toList.length = 512 := by rw [Array.length_toList, size_madeCells]
    rw [List.length_map, List.length_take, e]; omega
  have K1 := Lib.hid k1; have K2 := Lib.hid k2; have K3 := Lib.hid k3; have HL := Lib.hid hbl
  have HBB := Lib.hid hx.1.2.1
  clear k1 k2 k3 hbl hx
  go_enter Tryz.func67, Tryz.ntmps67
  go_wp2_with ((with_reducible show wpList _ _ _ (⟨some 7, _, _, _, _, _⟩ :: _) _ _); refine wpList_copy_splice (o := ⟨some 7, _, _, _, _, _⟩) rfl (.tmp 5) (.tmp 6) 23 23 rfl 5 Tryz.underlying23 size_u8 (some ⟨w.heap.size, 0, none⟩) a 512 512 n c rfl rfl w.heap.size 0 (madeCells #[.int .u8 0] 512).toList 5 K1.out ((b.take 512).map (Value.int .u8)) K2.out (fun h0 => ⟨rfl, K3.out h0⟩) k4 (ints_oneCell _ _) w.heap.size w k5 (Nat.le_refl _) ?_; intro w1 hg1 hb1)
  go_ret
  have hsp : splice (madeCells #[.int .u8 0] 512).toList 0 ((b.take 512).map (Value.int .u8)) = (madeL b).map (Value.int .u8) := by
    rw [splice_all, replicate_cells, List.length_map, List.length_take]
    unfold madeL
    rw [List.map_append, ← List.map_drop, List.drop_replicate]
    rw [show 512 - min 512 b.length = 512 - b.length by omega]
  have ho : w1.ownsRow w.heap.size 5 1 (.slice (some ⟨w.heap.size, 0, none⟩) 512 512) 512 ((madeL b).map (Value.int .u8)) := by
    refine ⟨by rw [List.length_map, madeL_len], .inr ⟨w.heap.size, 512, _, rfl, Nat.le_refl _, hg1.out, Nat.le_refl _, by unfold maxLen; omega, ?_, ?_⟩⟩
    · rw [hsp]; simp [madeL_len]
    · rw [hsp]; exact List.take_of_length_le (by rw [List.length_map, madeL_len]; omega)
  exact ⟨w.heap.size, rfl, ho, arg_own ho (madeL_B HBB.out), Nat.le_refl _, hb1⟩

theorem arg8c_nil (w : World) : Arg8c w none 0 0 [] := ⟨⟨rfl, fun x hx => (by cases hx), Bs.nil _ _ _, Nat.le_refl _, Nat.zero_le _⟩, fun _ => rfl⟩
/-- append onto bytes that leave no room: new memory. -/
theorem wpList_append_full {P : Program} (w : World) {ops : Array Oper} {rest : List Oper} {o : Oper} {a : Act} {Q : Exit → Act → World → Prop} (hgd : o.guard = none) (s x : Operand) (t : TypeId)
    (ho : o.op = .call { callee := .builtin .append, args := #[s, x], argTypes := #[t, t] })
    (e : TypeId) (i : TypeInfo) (ht : P.underlying t = some (.slice e)) (hi : P.info? e = some i) (hz : i.zero = some (.int .u8 0)) (hsize : i.size = 1) (hby : i.bytes = 1)
    (a1 : Addr) (n : Nat) (l : List Int) (hs : a.eval s = .slice (some a1) n n) (hl : l.length = n) (B1 : Nat) (h1 : Bs w B1 (some a1) l)
    (a2 : Addr) (m c : Nat) (k : List Int) (hx : a.eval x = .slice (some a2) m c) (hk : k.length = m) (B2 : Nat) (h2 : Bs w B2 (some a2) k) (hm : 0 < m) (hn : n + m ≤ 140737488355328)
    (h : ∀ v' w', w'.ownsRow w.heap.size e 1 v' (n + m) ((l ++ k).map (Value.int .u8)) → Below w.heap.size w w' → wpList P ops Q rest (a.put o.dst v') w') : wpList P ops Q (o :: rest) a w := by
  refine wpList_plain hgd fun K hK => ?_
  obtain ⟨v', w', hrun, r1, r2⟩ := run_append_arg_grows (P := P) w t o.type e i (.int .u8 0) 1 1 ht hi hz hsize hby rfl (by decide) a1 n n (l.map (Value.int .u8)) (by rw [List.length_map, hl, Nat.mul_one])
    (fun j u hj => by
      have hj' := getElem?_map_u8 hj
      obtain ⟨ad', e1, hc'⟩ := h1.cells (by simpa using (show 0 < l.length by omega))
      injection e1 with e1; subst e1; exact hc' j u hj)
    a2 m c (k.map (Value.int .u8)) (by rw [List.length_map, hk, Nat.mul_one])
    (fun j u hj => by
      have hj' := getElem?_map_u8 hj
      obtain ⟨ad', e1, hc'⟩ := h2.cells (by simpa using (show 0 < k.length by omega))
      injection e1 with e1; subst e1; exact hc' j u hj)
    (by omega) (by unfold maxLen; omega) (by omega)
  unfold Oper.wp
  simp [execOp, ho, resolve, invoke, builtin, hs, hx, hrun, Result.andThen]
  exact hK _ _ (h v' w' (by rw [List.map_append]; exact r1) ((Below.refl _ _).grown r2 (Nat.le_refl _) (fun k hk => by cases hk)))
/-- Two bytes laid as they are written. -/
theorem bs_two (W : World) (x y : Int) (f : Nat × Nat) : Bs (W.alloc (.cells #[.int .u8 x, .int .u8 y] 5 f)) (W.heap.size + 1) (some ⟨W.heap.size, 0, none⟩) [x, y] := fun h0 => ⟨W.heap.size, 0, rfl, by omega, fun j hj => by
  have hc := World.cell?_alloc_mark W #[.int .u8 x, .int .u8 y] 5 f (0 + j)
  rw [hc]
  match j, hj with
  | 0, _ => rfl
  | 1, _ => rfl
  | j + 2, hj => simp at hj; omega⟩
theorem Arg8c.onV {w w' : World} {a : Option Addr} {n c : Nat} {l : List Int} (h : Arg8c w a n c l) (hb : Below w.heap.size w w') : Arg8c w' a n c l := ⟨h.1.on hb, h.2⟩
theorem madeL_sz {l : List Int} (h : l.length ≤ 512) : madeL l = szL l := by unfold madeL szL; rw [List.take_of_length_le h]
theorem read_no (a : Option Addr) (n c : Nat) (w : World) (hn : n ≠ 512) (hm : n ≤ 9223372036854775807) :
    Calls Tryz.prog 46 #[.slice a n c] w fun e w' => e = .returned (.tuple #[.pointer none, .bool false]) ∧ w' = w := by
  have q1 : ¬ (n : Int) = 512 := by omega
  go_enter Tryz.func46, Tryz.ntmps46
  go_wp2
  go_ret2
  exact ⟨rfl, rfl⟩
theorem read_ok (a : Option Addr) (c : Nat) (w : World) (hc : 512 ≤ c) (hm : c ≤ 9223372036854775807) :
    Calls Tryz.prog 46 #[.slice a 512 c] w fun e w' => e = .returned (.tuple #[.pointer (some ⟨w.heap.size, 0, none⟩), .bool true]) ∧ w' = w.alloc (.cells #[.slice (cutT a c 2) 510 (c - 2)] 134) := by
  have q2 : (512 : Int) ≤ (c : Int) := by omega
  have q3 : ¬ c = 2 := by omega
  go_enter Tryz.func46, Tryz.ntmps46
  go_wp2
  go_ret2
  refine ⟨rfl, ?_⟩
  unfold cutT
  rw [if_neg q3]
  rfl
theorem eqB_any (a1 : Option Addr) (n1 c1 : Nat) (l1 : List Int) (a2 : Option Addr) (n2 c2 : Nat) (l2 : List Int) (r : Bool) (w : World) (h1 : Arg8c w a1 n1 c1 l1) (h2 : Arg8c w a2 n2 c2 l2) (hr : r = true ↔ l1 = l2) :
    Calls Tryz.prog 82 #[.slice a1 n1 c1, .slice a2 n2 c2] w fun e w' => e = .returned (.bool r) ∧ w' = w := by
  have hv1 := arg_str h1 (Below.refl _ w)
  have hv2 := arg_str h2 (Below.refl _ w)
  obtain ⟨S1, hS1⟩ : ∃ S, S = strOfNums l1 := ⟨_, rfl⟩
  obtain ⟨S2, hS2⟩ : ∃ S, S = strOfNums l2 := ⟨_, rfl⟩
  rw [← hS1] at hv1
  rw [← hS2] at hv2
  have hq : (S1.toList == S2.toList) = r := by
    cases r with
    | true => rw [hS1, hS2, hr.1 rfl]; simp
    | false => rw [hS1, hS2]; exact str_ne h1.1.2.1 h2.1.2.1 (fun e => by have := hr.2 e; cases this)
  clear hS1 hS2 h1 h2 hr
  go_enter Tryz.func82, Tryz.ntmps82
  go_wp2
  go_ret
  exact ⟨rfl, rfl⟩
theorem cell3 {W : World} {b : Nat} {x0 x1 x2 : Value} {T : TypeId} (h : W.heap[b]? = some (.cells #[x0, x1, x2] T (0, 0))) : W.cell? ⟨b, 0, none⟩ = some x0 ∧ W.cell? ⟨b, 1, none⟩ = some x1 ∧ W.cell? ⟨b, 2, none⟩ = some x2 :=
  ⟨(cell_of_row _ b 0 _ _ _ h).trans rfl, (cell_of_row _ b 1 _ _ _ h).trans rfl, (cell_of_row _ b 2 _ _ _ h).trans rfl⟩
set_option maxHeartbeats 4000000 in
theorem commitBytes_any : CommitBytesC := by
  intro c w hw
  obtain ⟨⟨s0, s1⟩, ⟨n0, n1⟩, g0, g1⟩ := hw
  obtain ⟨S, hS⟩ : ∃ S, S = c.S := ⟨_, rfl⟩
  obtain ⟨E, hE⟩ : ∃ E, E = c.E := ⟨_, rfl⟩
  rw [← hS, ← hE]
  obtain ⟨st, n, g⟩ := c
  unfold cmA
  dsimp only at s0 s1 n0 n1 g0 g1 ⊢
  have HA := Lib.hid (show Below w.heap.size w (w.alloc (.cells #[.int .u8 st, .int .u8 n, .int .u64 g] 46)) from (Below.refl _ _).alloc (Nat.le_refl _) _)
  have hbk := heap_alloc_new w (.cells #[.int .u8 st, .int .u8 n, .int .u64 g] 46)
  obtain ⟨hc0, hc1, hc2⟩ := cell3 hbk
  by_cases h1 : 2 < st
  · have hno : ¬ CM.Ok ⟨st, n, g⟩ := fun h => by have h3 := h.1; dsimp only at h3; omega
    have HE := Lib.hid (show S = [] ∧ E = 2 from ⟨by rw [hS]; unfold CM.S; exact if_neg hno, by rw [hE]; unfold CM.E; exact if_neg hno⟩)
    clear hS hE hbk
    go_enter Tryz.func75, Tryz.ntmps75
    go_wp2
    go_ret2
    exact ⟨none, 0, by rw [HE.out.1, HE.out.2]; rfl, by rw [HE.out.1]; exact arg8c_nil _, fun h => by rw [HE.out.1] at h; simp at h, HA.out⟩
  by_cases h2 : 16 < n
  · have hno : ¬ CM.Ok ⟨st, n, g⟩ := fun h => by have h3 := h.2; dsimp only at h3; omega
    have HE := Lib.hid (show S = [] ∧ E = 2 from ⟨by rw [hS]; unfold CM.S; exact if_neg hno, by rw [hE]; unfold CM.E; exact if_neg hno⟩)
    clear hS hE hbk
    go_enter Tryz.func75, Tryz.ntmps75
    go_wp2
    go_ret2
    exact ⟨none, 0, by rw [HE.out.1, HE.out.2]; rfl, by rw [HE.out.1]; exact arg8c_nil _, fun h => by rw [HE.out.1] at h; simp at h, HA.out⟩
  · have hok : CM.Ok ⟨st, n, g⟩ := ⟨by dsimp only; omega, by dsimp only; omega⟩
    have HE := Lib.hid (show S = szL ([76, 67, st, n] ++ be 8 g) ∧ E = 0 from ⟨by rw [hS]; unfold CM.S; exact if_pos hok, by rw [hE]; unfold CM.E; exact if_pos hok⟩)
    obtain ⟨i5, hi5, hz5⟩ := Option.map_eq_some_iff.1 info5
    simp only [Prod.mk.injEq] at hz5
    have HI := Lib.hid (And.intro hi5 hz5)
    obtain ⟨A, hA⟩ : ∃ A, A = w.alloc (.cells #[.int .u8 st, .int .u8 n, .int .u64 g] 46) := ⟨_, rfl⟩
    have hAs : A.heap.size = w.heap.size + 1 := by rw [hA]; simp
    rw [← hA] at HA hbk
    obtain ⟨C, hC⟩ : ∃ C, C = A.alloc (.cells #[.int .u8 76, .int .u8 67] 5 (2, 3)) := ⟨_, rfl⟩
    have hCs : C.heap.size = w.heap.size + 2 := by rw [hC]; simp; omega
    have hbC : Below A.heap.size A C := by rw [hC]; exact (Below.refl _ _).alloc (Nat.le_refl _) _
    have hbt := bs_two A 76 67 (2, 3)
    rw [← hC] at hbt
    have hkc := Lib.run_convert_bytes_const (P := Tryz.prog) A 23 5 #[.int .u8 76, .int .u8 67] 2 2 Tryz.underlying23 Tryz.underlying5
    have hkc : (convert 23 23 (.slice (some ⟨A.heap.size, 0, none⟩) 2 2)).run Tryz.prog (A.alloc (.cells #[.int .u8 76, .int .u8 67] 5)) = .ok (.slice (some ⟨A.heap.size, 0, none⟩) 2 2) C := by rw [hC]; exact hkc
    obtain ⟨D, hD⟩ : ∃ D, D = C.alloc (.cells #[.int .u8 st, .int .u8 n] 5) := ⟨_, rfl⟩
    have hbD : Below C.heap.size C D := by rw [hD]; exact (Below.refl _ _).alloc (Nat.le_refl _) _
    have hDs : D.heap.size = w.heap.size + 3 := by rw [hD]; simp; omega
    have hsrc := bs_two C st n (0, 0)
    rw [← hD, hCs] at hsrc
    have HS1 := Lib.hid (show Bs D (w.heap.size + 2) (some ⟨w.heap.size + 1, 0, none⟩) [76, 67] by rw [← hAs]; exact ((hbt.more (by omega)).below (hbD)).more (by omega))
    have HS2 := Lib.hid hsrc
    have HBD := Lib.hid (show Below w.heap.size w D from bt (bt HA.out hbC) hbD)
    have hr0 : C.heap[w.heap.size]? = some (.cells #[.int .u8 st, .int .u8 n, .int .u64 g] 46) := (hbC.block _ (by omega)).trans hbk
    have hrD : D.heap[w.heap.size]? = some (.cells #[.int .u8 st, .int .u8 n, .int .u64 g] 46) := (hbD.block _ (by omega)).trans hr0
    obtain ⟨hd0, hd1, -⟩ := cell3 hr0
    have HRD := Lib.hid hrD
    have HDS := Lib.hid hDs
    have HDE := Lib.hid (show D = ((w.alloc (.cells #[.int .u8 st, .int .u8 n, .int .u64 g] 46)).alloc (.cells #[.int .u8 76, .int .u8 67] 5 (2, 3))).alloc (.cells #[.int .u8 st, .int .u8 n] 5) by rw [hD, hC, hA])
    rw [hAs] at hkc
    rw [hA] at hkc
    clear hbt hbC hbD hsrc hr0 hrD hD
    clear hS hE hbk
    go_enter Tryz.func75, Tryz.ntmps75
    go_upto_region 4 with ((with_reducible show wpList _ _ _ (⟨some 20, _, _, _, _, _⟩ :: _) _ _); go_loud (refine wpList_append_full _ rfl (.tmp 14) (.tmp 19) 23 rfl 5 i5 Tryz.underlying23 HI.out.1 HI.out.2.1 HI.out.2.2.1 HI.out.2.2.2 ⟨w.heap.size + 1, 0, none⟩ 2 [76, 67] rfl rfl (w.heap.size + 2) (by rw [← HDE.out]; exact HS1.out) ⟨w.heap.size + 2, 0, none⟩ 2 2 [st, n] rfl rfl (w.heap.size + 2 + 1) (by rw [← HDE.out]; exact HS2.out) (by omega) (by omega) ?_; rw [← HDE.out]; intro v2 w2 ho2 hb2; have HO2 := Lib.hid ho2; have HB2 := Lib.hid hb2; obtain ⟨a2, c2, hv2, -⟩ := own_form ho2; subst hv2; clear ho2 hb2))
    have hB2 := bt HBD.out HB2.out
    have hs2 := hB2.size
    have hq : w2.cell? ⟨w.heap.size, 2, none⟩ = some (.int .u64 g) := (cell3 ((HB2.out.block _ (by have := HDS.out; omega)).trans HRD.out)).2.2
    have HP := Lib.hid (put64 a2 4 c2 [76, 67, st, n] w2 rfl (Bs.of_own HO2.out).1 (by omega) g (by simp [Lit.wf, IntKind.min, IntKind.max, IntKind.signed, IntKind.bits]; omega))
    have HB2' := Lib.hid hB2
    clear hB2
    go_wp2_with (first
      | (go_at_call 96; go_loud (refine HP.out.mono ?_; rintro e w3 ⟨g3, rfl, ho3, hb3⟩; have HB3 := Lib.hid hb3; have HW := Lib.hid (whole_any (some ⟨g3, 0, none⟩) 12 12 ([76, 67, st, n] ++ be 8 g) w3 (arg_own ho3 (allB_app2 (allB_four (by unfold byteI; omega) (by unfold byteI; omega) ⟨s0, s1⟩ ⟨n0, n1⟩) (allB_be _ _)))); clear ho3 hb3))
      | (go_at_call 67; go_loud (refine HW.out.mono ?_; rintro e w4 ⟨g4, rfl, ho4, ha4, hn4, hb4⟩; have HA4 := Lib.hid ha4; have HN4 := Lib.hid hn4; have HB4 := Lib.hid hb4; clear ho4 ha4 hn4 hb4)))
    go_ret2
    have hl : S.length = 512 := by rw [HE.out.1]; exact CM.B_len ⟨st, n, g⟩
    refine ⟨some ⟨g4, 0, none⟩, 512, by rw [hl, HE.out.2]; rfl, ?_, fun _ b o e => by cases e; have := HN4.out; have := HB3.out.size; have := HB2'.out.size; omega, bt (bt HB2'.out HB3.out) HB4.out⟩
    rw [hl, HE.out.1, ← madeL_sz (by simp [length_be])]
    exact HA4.out
end Go.Proofs.YtkfdcdfaikkneaaGreatDoor
/- Package sector: checked at a commit; ParseCommit. -/
namespace Go.Proofs.YtkfdcdfaikkneaaGreatDoor
open Go.ChangeShapes Go.WideShapes Go.ChangeAt Go.RowKit Go.Shelf
set_option linter.unusedVariables false
set_option linter.unusedSimpArgs false
set_option maxRecDepth 100000
attribute [local go_sem] Oper.semAt_some

theorem meth_C (x y z : Value) (m : Nat) (w : World) : (method (m + 1) 46 (.agg #[x, y, z]) "Bytes").run Tryz.prog w = .ok (75, .agg #[x, y, z]) w := by kernel_rfl
def set3 (W : World) (g : Nat) (x0 x1 x2 : Value) : World := ((W.setCell ⟨g, 0, none⟩ x0).setCell ⟨g, 1, none⟩ x1).setCell ⟨g, 2, none⟩ x2
theorem set3_row {W : World} {g : Nat} {T : TypeId} {a0 a1 a2 : Value} (x0 x1 x2 : Value) (h : W.heap[g]? = some (.cells #[a0, a1, a2] T (0, 0))) : (set3 W g x0 x1 x2).heap[g]? = some (.cells #[x0, x1, x2] T (0, 0)) :=
  heap_setCell_same _ g 2 _ T x2 (heap_setCell_same _ g 1 _ T x1 (heap_setCell_same _ g 0 _ T x0 h))
theorem set3_below {B : Nat} {V W : World} (h : Below B V W) {g : Nat} (hg : B ≤ g) (x0 x1 x2 : Value) : Below B V (set3 W g x0 x1 x2) :=
  ((h.setCell (p := ⟨g, 0, none⟩) hg x0).setCell (p := ⟨g, 1, none⟩) hg x1).setCell (p := ⟨g, 2, none⟩) hg x2
/-- A row of three cells that may be written: what the walk asks of it, now and behind a new block. -/
theorem free3 {W : World} {b : Nat} {x0 x1 x2 : Value} {T : TypeId} (h : W.heap[b]? = some (.cells #[x0, x1, x2] T (0, 0))) : (W.cell? ⟨b, 0, none⟩ = some x0 ∧ W.cell? ⟨b, 1, none⟩ = some x1 ∧ W.cell? ⟨b, 2, none⟩ = some x2) ∧ (∀ j, W.frozen? ⟨b, j, none⟩ = false) :=
  ⟨cell3 h, fun j => frozen_of_row W b j _ _ h⟩
theorem free3n {W : World} {b : Nat} {x0 x1 x2 : Value} {T : TypeId} (h : W.heap[b]? = some (.cells #[x0, x1, x2] T (0, 0))) (o : Obj) : ((W.alloc o).cell? ⟨b, 0, none⟩ = some x0 ∧ (W.alloc o).cell? ⟨b, 1, none⟩ = some x1 ∧ (W.alloc o).cell? ⟨b, 2, none⟩ = some x2) ∧ (∀ j, (W.alloc o).frozen? ⟨b, j, none⟩ = false) :=
  free3 ((heap_alloc_old W o (Array.getElem?_eq_some_iff.1 h).1).trans h)
theorem sizeCm : (Tryz.prog.info? 46).map (·.size) = some 3 := by kernel_rfl
theorem results_chC (tmps : Array Value) (w : World) (g : Nat) (x0 x1 x2 v : Value) (h2 : tmps.getD 4 undef = .pointer (some ⟨g, 0, none⟩)) (h3 : tmps.getD 5 undef = v) (hg : w.heap[g]? = some (.cells #[x0, x1, x2] 46 (0, 0))) :
    (results Tryz.f56 tmps).run Tryz.prog w = .ok (.tuple #[.agg #[x0, x1, x2], v]) w := by
  have h2' : tmps[4]?.getD undef = .pointer (some ⟨g, 0, none⟩) := by simpa using h2
  have h3' : tmps[5]?.getD undef = v := by simpa using h3
  have hr := run_loadVar_row (P := Tryz.prog) w g 46 46 #[x0, x1, x2] (0, 0) _ hg Tryz.underlying46 rfl sizeCm
  simp [results, Tryz.f56, h2', h3', asAddr, hr]
theorem results_paC (tmps : Array Value) (w : World) (g : Nat) (x0 x1 x2 v : Value) (h2 : tmps.getD 2 undef = .pointer (some ⟨g, 0, none⟩)) (h3 : tmps.getD 3 undef = v) (hg : w.heap[g]? = some (.cells #[x0, x1, x2] 46 (0, 0))) :
    (results Tryz.f28 tmps).run Tryz.prog w = .ok (.tuple #[.agg #[x0, x1, x2], v]) w := by
  have h2' : tmps[2]?.getD undef = .pointer (some ⟨g, 0, none⟩) := by simpa using h2
  have h3' : tmps[3]?.getD undef = v := by simpa using h3
  have hr := run_loadVar_row (P := Tryz.prog) w g 46 46 #[x0, x1, x2] (0, 0) _ hg Tryz.underlying46 rfl sizeCm
  simp [results, Tryz.f28, h2', h3', asAddr, hr]
def chC (c : CM) (b : List Int) : Value := if c.E = 0 ∧ c.S = b then .tuple #[cmA c, .int .i64 0] else .tuple #[cmA ⟨0, 0, 0⟩, .int .i64 3]
set_option maxHeartbeats 4000000 in
theorem checkedC_any (c : CM) (hw : c.Wf) (a : Option Addr) (n k : Nat) (b : List Int) (w : World) (hx : Arg8c w a n k b) :
    Calls Tryz.prog 56 #[cmA c, .slice a n k] w fun e w' => e = .returned (chC c b) ∧ Below w.heap.size w w' := by
  have HC := Lib.hid (fun W => commitBytes_any c W hw)
  have hm := meth_C (.int .u8 c.st) (.int .u8 c.n) (.int .u64 c.g)
  obtain ⟨S, hS⟩ : ∃ S, S = c.S := ⟨_, rfl⟩
  obtain ⟨E, hE⟩ : ∃ E, E = c.E := ⟨_, rfl⟩
  have HR := Lib.hid (show chC c b = if E = 0 ∧ S = b then .tuple #[cmA c, .int .i64 0] else .tuple #[cmA ⟨0, 0, 0⟩, .int .i64 3] by rw [hS, hE]; rfl)
  rw [← hS, ← hE] at HC
  have HEE := Lib.hid (show E = 0 ∨ E = 2 by rw [hE]; unfold CM.E; split <;> simp)
  unfold cmA at HC HR ⊢
  obtain ⟨A, hA⟩ : ∃ A, A = (w.alloc (.cells #[.int .u8 c.st, .int .u8 c.n, .int .u64 c.g] 46)).alloc (.cells #[.int .u8 0, .int .u8 0, .int .u64 0] 46) := ⟨_, rfl⟩
  have hwA : Below w.heap.size w A := by rw [hA]; exact ((Below.refl _ _).alloc (Nat.le_refl _) _).alloc (by simp) _
  have hAs : A.heap.size = w.heap.size + 2 := by rw [hA]; simp
  have r1 : A.heap[w.heap.size]? = some (.cells #[.int .u8 c.st, .int .u8 c.n, .int .u64 c.g] 46 (0, 0)) := by rw [hA, heap_alloc_old _ _ (by simp)]; exact heap_alloc_new w _
  have r2 : A.heap[w.heap.size + 1]? = some (.cells #[.int .u8 0, .int .u8 0, .int .u64 0] 46 (0, 0)) := by
    have := heap_alloc_new (w.alloc (.cells #[.int .u8 c.st, .int .u8 c.n, .int .u64 c.g] 46)) (.cells #[.int .u8 0, .int .u8 0, .int .u64 0] 46)
    rw [size_alloc1] at this
    rw [hA]; exact this
  have HX := Lib.hid hx
  have HA := Lib.hid (And.intro hA (And.intro hwA (And.intro hAs (And.intro r1 r2))))
  generalize c.st = x0 at *
  generalize c.n = x1 at *
  generalize c.g = x2 at *
  clear hx hS hE hA hwA hAs r1 r2
  by_cases hE0 : E = 0
  · subst hE0
    by_cases hSb : S = b
    · have HV := Lib.hid (show chC c b = .tuple #[.agg #[.int .u8 x0, .int .u8 x1, .int .u64 x2], .int .i64 0] by rw [HR.out, if_pos ⟨rfl, hSb⟩])
      have HSB := Lib.hid hSb
      clear hSb
      go_enter Tryz.func56, Tryz.ntmps56
      go_wp2_with (first
        | (go_at_call 75; go_loud (refine (HC.out _).mono ?_; rintro e w1 ⟨a1, k1, rfl, hs1, -, hb1⟩; rw [← HA.out.1] at hb1; have HB1 := Lib.hid hb1; have HEQ := Lib.hid (eqB_any a1 S.length k1 S a n k b true w1 hs1 (HX.out.onV (bt HA.out.2.1 hb1)) ⟨fun _ => HSB.out, fun _ => rfl⟩); clear hs1 hb1))
        | (go_at_call 82; go_loud (refine HEQ.out.mono ?_; rintro e w2 ⟨rfl, rfl⟩; have r1 := (HB1.out.block _ (by rw [HA.out.2.2.1]; omega)).trans HA.out.2.2.2.1; have r2 := (HB1.out.block _ (by rw [HA.out.2.2.1]; omega)).trans HA.out.2.2.2.2; have R2 := Lib.hid r2; obtain ⟨m0, m1, m2⟩ := cell3 r1; obtain ⟨⟨z0, z1, z2⟩, zf⟩ := free3 r2; clear r1 r2)))
      refine bodyPost_ret (v := .tuple #[.agg #[.int .u8 x0, .int .u8 x1, .int .u64 x2], .int .i64 0]) (results_chC _ _ (w.heap.size + 1) _ _ _ _ rfl rfl (set3_row _ _ _ R2.out)) rfl ⟨HV.out.symm ▸ rfl, set3_below (bt HA.out.2.1 HB1.out) (by omega) _ _ _⟩
    · have HV := Lib.hid (show chC c b = .tuple #[.agg #[.int .u8 0, .int .u8 0, .int .u64 0], .int .i64 3] by rw [HR.out, if_neg (fun h => hSb h.2)])
      have HSB := Lib.hid hSb
      clear hSb
      go_enter Tryz.func56, Tryz.ntmps56
      go_wp2_with (first
        | (go_at_call 75; go_loud (refine (HC.out _).mono ?_; rintro e w1 ⟨a1, k1, rfl, hs1, -, hb1⟩; rw [← HA.out.1] at hb1; have HB1 := Lib.hid hb1; have HEQ := Lib.hid (eqB_any a1 S.length k1 S a n k b false w1 hs1 (HX.out.onV (bt HA.out.2.1 hb1)) ⟨fun h => (by cases h), fun h => absurd h HSB.out⟩); clear hs1 hb1))
        | (go_at_call 82; go_loud (refine HEQ.out.mono ?_; rintro e w2 ⟨rfl, rfl⟩; have r1 := (HB1.out.block _ (by rw [HA.out.2.2.1]; omega)).trans HA.out.2.2.2.1; have r2 := (HB1.out.block _ (by rw [HA.out.2.2.1]; omega)).trans HA.out.2.2.2.2; have R2 := Lib.hid r2; obtain ⟨⟨z0, z1, z2⟩, zf⟩ := free3n r2 (.cells #[.int .u8 0, .int .u8 0, .int .u64 0] 46); clear r1 r2)))
      refine bodyPost_ret (v := .tuple #[.agg #[.int .u8 0, .int .u8 0, .int .u64 0], .int .i64 3]) (results_chC _ _ (w.heap.size + 1) _ _ _ _ rfl rfl (set3_row _ _ _ ((heap_alloc_old _ _ (by have := HB1.out.size; have := HA.out.2.2.1; omega)).trans R2.out))) rfl ⟨HV.out.symm ▸ rfl, set3_below ((bt HA.out.2.1 HB1.out).alloc (by have := HB1.out.size; have := HA.out.2.2.1; omega) _) (by omega) _ _ _⟩
  · obtain rfl : E = 2 := by rcases HEE.out with h | h <;> omega
    have HV := Lib.hid (show chC c b = .tuple #[.agg #[.int .u8 0, .int .u8 0, .int .u64 0], .int .i64 3] by rw [HR.out, if_neg (fun h => by omega)])
    go_enter Tryz.func56, Tryz.ntmps56
    go_wp2_with (first
      | (go_at_call 75; go_loud (refine (HC.out _).mono ?_; rintro e w1 ⟨a1, k1, rfl, hs1, -, hb1⟩; rw [← HA.out.1] at hb1; have HB1 := Lib.hid hb1; skip; have r1 := (HB1.out.block _ (by rw [HA.out.2.2.1]; omega)).trans HA.out.2.2.2.1; have r2 := (HB1.out.block _ (by rw [HA.out.2.2.1]; omega)).trans HA.out.2.2.2.2; have R2 := Lib.hid r2; obtain ⟨⟨z0, z1, z2⟩, zf⟩ := free3n r2 (.cells #[.int .u8 0, .int .u8 0, .int .u64 0] 46); clear r1 r2; clear hs1 hb1))
      | (go_at_call 82; go_loud (refine HEQ.out.mono ?_; rintro e w2 ⟨rfl, rfl⟩; fail)))
    refine bodyPost_ret (v := .tuple #[.agg #[.int .u8 0, .int .u8 0, .int .u64 0], .int .i64 3]) (results_chC _ _ (w.heap.size + 1) _ _ _ _ rfl rfl (set3_row _ _ _ ((heap_alloc_old _ _ (by have := HB1.out.size; have := HA.out.2.2.1; omega)).trans R2.out))) rfl ⟨HV.out.symm ▸ rfl, set3_below ((bt HA.out.2.1 HB1.out).alloc (by have := HB1.out.size; have := HA.out.2.2.1; omega) _) (by omega) _ _ _⟩
theorem cm_ok {c : CM} {b : List Int} (hE : c.E = 0) : c.Ok := by
  unfold CM.E at hE
  by_cases h : c.Ok
  · exact h
  · rw [if_neg h] at hE; omega
theorem chC_par {b : List Int} (hl : b.length = 512) : chC (pcmR b) b = .tuple #[cmA (pcmZ b), .int .i64 (pcmE b)] := by
  unfold chC pcmZ pcmE pcm
  by_cases h : (pcmR b).E = 0 ∧ (pcmR b).S = b
  · have ho := cm_ok (b := b) h.1
    rw [if_pos h, if_pos ⟨hl, ho, (CM.S_ok ho).1.symm.trans h.2⟩]; rfl
  · rw [if_neg h, if_neg (fun k => h ⟨(CM.S_ok k.2.1).2, (CM.S_ok k.2.1).1.trans k.2.2⟩)]; rfl
end Go.Proofs.YtkfdcdfaikkneaaGreatDoor
/- Package sector: the reader, told by what it reads; ParseCommit. -/
namespace Go.Proofs.YtkfdcdfaikkneaaGreatDoor
open Go.ChangeShapes Go.WideShapes Go.ChangeAt Go.RowKit Go.Shelf
set_option linter.unusedVariables false
set_option linter.unusedSimpArgs false
set_option maxRecDepth 100000
attribute [local go_sem] Oper.semAt_some

/-- At p lies a reader that reads b from k on; b lies as it lay in w. -/
def RS (w W : World) (p : Nat) (b : List Int) (k : Nat) : Prop := w.heap.size ≤ p ∧ Below w.heap.size w W ∧ ∃ a m c, RdA W p a m c ∧ Arg8c w a m c (b.drop k)
theorem RS.below {w W : World} {p k : Nat} {b : List Int} (h : RS w W p b k) : Below w.heap.size w W := h.2.1
theorem RS.but {w W W' : World} {p k : Nat} {b : List Int} (h : RS w W p b k) (hb : But p W W') : Below w.heap.size w W' := h.2.1.trans (hb.1.below (fun k e => by rw [e]; exact h.1) h.2.1.size)
theorem But.block {p : Nat} {w w' : World} (h : But p w w') {k : Nat} (hk : k < w.heap.size) (hp : k ≠ p) : w'.heap[k]? = w.heap[k]? := h.1.2 k hk hp
/-- Behind a call that keeps all blocks. -/
theorem RS.on {w W W' : World} {p k : Nat} {b : List Int} (h : RS w W p b k) (hb : Below W.heap.size W W') : RS w W' p b k := by
  obtain ⟨h1, h2, a, m, c, h3, h4⟩ := h
  exact ⟨h1, bt h2 hb, a, m, c, (hb.block p h3.lt).trans h3, h4⟩
theorem rs_start (w A : World) (hA : Below w.heap.size w A) (hs : w.heap.size ≤ A.heap.size) (a : Option Addr) (c : Nat) (b : List Int) (hx : Arg8c w a 512 c b) :
    RS w (A.alloc (.cells #[.slice (cutT a c 2) 510 (c - 2)] 134)) A.heap.size b 2 :=
  ⟨hs, hA.alloc hs _, _, _, _, heap_alloc_new A _, hx.cut8 (k := 2) (by omega)⟩
theorem takeS (w W : World) (p k n : Nat) (b : List Int) (h : RS w W p b k) (hn : k + n ≤ b.length) :
    Calls Tryz.prog 47 #[.pointer (some ⟨p, 0, none⟩), .int .i64 (n : Nat)] W fun e w' => ∃ a c, e = .returned (.slice a n c) ∧ Arg8c w a n c ((b.drop k).take n) ∧ RS w w' p b (k + n) ∧ But p W w' := by
  have h' := h
  obtain ⟨h1, h2, a, m, c, h3, h4⟩ := h
  have hl := h4.1.1
  rw [List.length_drop] at hl
  have hc := h4.1.2.2.2
  unfold maxLen at hc
  refine (take_any p a m c n W h3 (by omega) (by omega) (by omega)).mono ?_
  rintro e w' ⟨rfl, hr, hb⟩
  refine ⟨a, c, rfl, h4.takeT (by omega), ⟨h1, h'.but hb, _, _, _, hr, ?_⟩, hb⟩
  have := h4.cut8 (k := n) (by omega)
  rw [List.drop_drop] at this
  exact this
theorem next8S (w W : World) (p k : Nat) (b : List Int) (h : RS w W p b k) (hn : k + 1 ≤ b.length) :
    Calls Tryz.prog 48 #[.pointer (some ⟨p, 0, none⟩)] W fun e w' => e = .returned (.int .u8 (nb b k 1)) ∧ RS w w' p b (k + 1) ∧ But p W w' := by
  have h' := h
  obtain ⟨h1, h2, a, m, c, h3, h4⟩ := h
  have hl := h4.1.1
  rw [List.length_drop] at hl
  have hc := h4.1.2.2.2
  unfold maxLen at hc
  refine (next8_any p a m c (b.drop k) W h3 (by rw [List.length_drop]; exact hl) h4.1.2.1 ((h4.1.2.2.1.below h2).more h1) (by omega) (by omega) (by omega)).mono ?_
  rintro e w' ⟨rfl, hr, hb⟩
  refine ⟨rfl, ⟨h1, h'.but hb, _, _, _, hr, ?_⟩, hb⟩
  have := h4.cut8 (k := 1) (by omega)
  rw [List.drop_drop] at this
  exact this
theorem next16S (w W : World) (p k : Nat) (b : List Int) (h : RS w W p b k) (hn : k + 2 ≤ b.length) :
    Calls Tryz.prog 86 #[.pointer (some ⟨p, 0, none⟩)] W fun e w' => e = .returned (.int .u16 (nb b k 2)) ∧ RS w w' p b (k + 2) ∧ But p W w' := by
  have h' := h
  obtain ⟨h1, h2, a, m, c, h3, h4⟩ := h
  have hl := h4.1.1
  rw [List.length_drop] at hl
  have hc := h4.1.2.2.2
  unfold maxLen at hc
  refine (next16_any p a m c (b.drop k) W h3 (by rw [List.length_drop]; exact hl) h4.1.2.1 ((h4.1.2.2.1.below h2).more h1) (by omega) (by omega) (by omega)).mono ?_
  rintro e w' ⟨rfl, hr, hb⟩
  refine ⟨rfl, ⟨h1, h'.but hb, _, _, _, hr, ?_⟩, hb⟩
  have := h4.cut8 (k := 2) (by omega)
  rw [List.drop_drop] at this
  exact this
theorem next32S (w W : World) (p k : Nat) (b : List Int) (h : RS w W p b k) (hn : k + 4 ≤ b.length) :
    Calls Tryz.prog 49 #[.pointer (some ⟨p, 0, none⟩)] W fun e w' => e = .returned (.int .u32 (nb b k 4)) ∧ RS w w' p b (k + 4) ∧ But p W w' := by
  have h' := h
  obtain ⟨h1, h2, a, m, c, h3, h4⟩ := h
  have hl := h4.1.1
  rw [List.length_drop] at hl
  have hc := h4.1.2.2.2
  unfold maxLen at hc
  refine (next32_any p a m c (b.drop k) W h3 (by rw [List.length_drop]; exact hl) h4.1.2.1 ((h4.1.2.2.1.below h2).more h1) (by omega) (by omega) (by omega)).mono ?_
  rintro e w' ⟨rfl, hr, hb⟩
  refine ⟨rfl, ⟨h1, h'.but hb, _, _, _, hr, ?_⟩, hb⟩
  have := h4.cut8 (k := 4) (by omega)
  rw [List.drop_drop] at this
  exact this
theorem next64S (w W : World) (p k : Nat) (b : List Int) (h : RS w W p b k) (hn : k + 8 ≤ b.length) :
    Calls Tryz.prog 57 #[.pointer (some ⟨p, 0, none⟩)] W fun e w' => e = .returned (.int .u64 (nb b k 8)) ∧ RS w w' p b (k + 8) ∧ But p W w' := by
  have h' := h
  obtain ⟨h1, h2, a, m, c, h3, h4⟩ := h
  have hl := h4.1.1
  rw [List.length_drop] at hl
  have hc := h4.1.2.2.2
  unfold maxLen at hc
  refine (next64_any p a m c (b.drop k) W h3 (by rw [List.length_drop]; exact hl) h4.1.2.1 ((h4.1.2.2.1.below h2).more h1) (by omega) (by omega) (by omega)).mono ?_
  rintro e w' ⟨rfl, hr, hb⟩
  refine ⟨rfl, ⟨h1, h'.but hb, _, _, _, hr, ?_⟩, hb⟩
  have := h4.cut8 (k := 8) (by omega)
  rw [List.drop_drop] at this
  exact this
theorem readS (w A : World) (hA : Below w.heap.size w A) (hs : w.heap.size ≤ A.heap.size) (a : Option Addr) (c : Nat) (b : List Int) (hx : Arg8c w a 512 c b) :
    Calls Tryz.prog 46 #[.slice a 512 c] A fun e w' => e = .returned (.tuple #[.pointer (some ⟨A.heap.size, 0, none⟩), .bool true]) ∧ RS w w' A.heap.size b 2 ∧ Below A.heap.size A w' := by
  have hcap := hx.1.2.2.2
  unfold maxLen at hcap
  refine (read_ok a c A hcap.1 (by omega)).mono ?_
  rintro e w' ⟨rfl, rfl⟩
  exact ⟨rfl, rs_start w A hA hs a c b hx, (Below.refl _ _).alloc (Nat.le_refl _) _⟩
theorem nb_one {b : List Int} {k : Nat} (hk : k < b.length) : nb b k 1 = b.getD k 0 := by
  unfold nb
  rw [getV_num (by rw [List.length_drop]; omega)]
  have := numB_take_succ (l := b.drop k) (k := 0) (by rw [List.length_drop]; omega)
  rw [this, List.take_zero]
  simp [numB, List.getD_eq_getElem?_getD, List.getElem?_drop]
theorem pcm_len {b : List Int} (h : b.length ≠ 512) : pcmZ b = ⟨0, 0, 0⟩ ∧ pcmE b = 3 := by
  have : pcm b = none := by unfold pcm; exact if_neg (fun k => h k.1)
  unfold pcmZ pcmE; rw [this]; exact ⟨rfl, rfl⟩
theorem chC_form (c : CM) (b : List Int) : ∃ x0 x1 x2 e : Int, chC c b = .tuple #[.agg #[.int .u8 x0, .int .u8 x1, .int .u64 x2], .int .i64 e] := by
  unfold chC; split <;> exact ⟨_, _, _, _, rfl⟩
set_option maxHeartbeats 4000000 in
theorem parseCommit_any : ParseCommitC := by
  intro a n k b w hx hn
  have hl := hx.1.1
  have hcap := hx.1.2.2.2
  unfold maxLen at hcap
  obtain ⟨A, hA⟩ : ∃ A, A = w.alloc (.cells #[.int .u8 0, .int .u8 0, .int .u64 0] 46) := ⟨_, rfl⟩
  have hwA : Below w.heap.size w A := by rw [hA]; exact (Below.refl _ _).alloc (Nat.le_refl _) _
  have hAs : A.heap.size = w.heap.size + 1 := by rw [hA]; simp
  have r1 : A.heap[w.heap.size]? = some (.cells #[.int .u8 0, .int .u8 0, .int .u64 0] 46 (0, 0)) := by rw [hA]; exact heap_alloc_new w _
  have HA := Lib.hid (And.intro hA (And.intro hwA (And.intro hAs r1)))
  by_cases h5 : n = 512
  · subst h5
    obtain ⟨x0, x1, x2, ee, hch⟩ := chC_form (pcmR b) b
    have HV := Lib.hid (show (.tuple #[cmA (pcmZ b), .int .i64 (pcmE b)] : Value) = .tuple #[.agg #[.int .u8 x0, .int .u8 x1, .int .u64 x2], .int .i64 ee] by rw [← chC_par hl, hch])
    have HRD := Lib.hid (readS w A hwA (by omega) a k b hx)
    rw [hAs] at HRD
    have HCH := Lib.hid (fun (W : World) (hW : Below w.heap.size w W) => checkedC_any (pcmR b) (pcmR_wf hx.1.2.1) a 512 k b W (hx.onV hW))
    rw [hch] at HCH
    have HX := Lib.hid hx
    have HL := Lib.hid hl
    unfold cmA pcmR at HCH
    dsimp only at HCH
    have e2 := nb_one (b := b) (k := 2) (by omega)
    have e3 := nb_one (b := b) (k := 3) (by omega)
    rw [← e2, ← e3] at HCH
    obtain ⟨y2, h2⟩ : ∃ y, y = nb b 2 1 := ⟨_, rfl⟩
    obtain ⟨y3, h3⟩ : ∃ y, y = nb b 3 1 := ⟨_, rfl⟩
    obtain ⟨y4, h4⟩ : ∃ y, y = nb b 4 8 := ⟨_, rfl⟩
    have HNB := Lib.hid (And.intro h2.symm (And.intro h3.symm h4.symm))
    rw [← h2, ← h3, ← h4] at HCH
    clear h2 h3 h4
    clear hx hl hcap hA hwA hAs r1 hch e2 e3
    go_enter Tryz.func28, Tryz.ntmps28
    go_wp2_with (first
      | (go_at_call 46; go_loud (rw [← HA.out.1]; refine HRD.out.mono ?_; rintro e w1 ⟨rfl, hs1, hb1⟩; have HS1 := Lib.hid hs1; have R1 := Lib.hid ((hb1.block _ (by have := HA.out.2.2.1; omega)).trans HA.out.2.2.2); clear hs1 hb1))
      | (go_at_call 57; go_loud (refine (next64S w _ _ 4 b HS3.out (by have := HL.out; omega)).mono ?_; rintro e w4 ⟨rfl, hs4, hb4⟩; have HB4 := Lib.hid hs4.below; have R4 := Lib.hid ((hb4.block (by have := HS3.out.below.size; have := (Array.getElem?_eq_some_iff.1 R3.out).1; omega) (by omega)).trans R3.out); rw [HNB.out.2.2]; clear hs4 hb4))
      | (go_at_call 48; go_loud (refine (next8S w _ _ 3 b HS2.out (by have := HL.out; omega)).mono ?_; rintro e w3 ⟨rfl, hs3, hb3⟩; have HS3 := Lib.hid hs3; have R3 := Lib.hid ((hb3.block (by have := (Array.getElem?_eq_some_iff.1 R2.out).1; omega) (by omega)).trans R2.out); rw [HNB.out.2.1]; clear hs3 hb3))
      | (go_at_call 48; go_loud (refine (next8S w _ _ 2 b HS1.out (by have := HL.out; omega)).mono ?_; rintro e w2 ⟨rfl, hs2, hb2⟩; have HS2 := Lib.hid hs2; have R2 := Lib.hid ((hb2.block (by have := (Array.getElem?_eq_some_iff.1 R1.out).1; omega) (by omega)).trans R1.out); rw [HNB.out.1]; clear hs2 hb2))
      | (go_at_call 56; go_loud (refine (HCH.out _ HB4.out).mono ?_; rintro e w5 ⟨rfl, hb5⟩; have r5 := (hb5.block _ (by have := (Array.getElem?_eq_some_iff.1 R4.out).1; omega)).trans R4.out; have R5 := Lib.hid r5; obtain ⟨⟨z0, z1, z2⟩, zf⟩ := free3 r5; have HB5 := Lib.hid (bt HB4.out hb5); clear r5 hb5)))
    refine bodyPost_ret (v := .tuple #[.agg #[.int .u8 x0, .int .u8 x1, .int .u64 x2], .int .i64 ee]) (results_paC _ _ w.heap.size _ _ _ _ rfl rfl (set3_row _ _ _ R5.out)) rfl ⟨HV.out.symm ▸ rfl, set3_below HB5.out (Nat.le_refl _) _ _ _⟩
  · have HV := Lib.hid (show (.tuple #[cmA (pcmZ b), .int .i64 (pcmE b)] : Value) = .tuple #[.agg #[.int .u8 0, .int .u8 0, .int .u64 0], .int .i64 3] by rw [(pcm_len (b := b) (by omega)).1, (pcm_len (b := b) (by omega)).2]; rfl)
    have HRD := Lib.hid (read_no a n k A h5 (by omega))
    obtain ⟨⟨z0, z1, z2⟩, zf⟩ := free3 r1
    rw [hA] at z0 z1 z2 zf
    have HN := Lib.hid h5
    clear hx hl hcap hA hwA hAs r1 h5
    go_enter Tryz.func28, Tryz.ntmps28
    go_wp2_with (go_at_call 46; go_loud (rw [← HA.out.1]; refine HRD.out.mono ?_; rintro e w1 ⟨rfl, rfl⟩; rw [HA.out.1]))
    refine bodyPost_ret (v := .tuple #[.agg #[.int .u8 0, .int .u8 0, .int .u64 0], .int .i64 3]) (results_paC _ _ w.heap.size _ _ _ _ rfl rfl (HA.out.1 ▸ HA.out.2.2.2)) rfl ⟨HV.out.symm ▸ rfl, HA.out.1 ▸ HA.out.2.1⟩
end Go.Proofs.YtkfdcdfaikkneaaGreatDoor
