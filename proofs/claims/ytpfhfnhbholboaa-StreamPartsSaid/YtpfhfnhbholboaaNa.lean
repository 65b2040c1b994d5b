/- Contracts of package word's Put of 64 bits, of the document's Put, and of word.Xor (taken from my texts Bits, Put, Rput, Xor). -/
import Derived.Test.YtpfhfnhbholboaaKw
import Derived.StillTailTactics
import Derived.Deep.OwnRows
namespace Go.Proofs.Ytpfhfnhbholboaa
open Go.ChangeShapes Go.WideShapes Go.ChangeAt Go.RowKit
set_option linter.unusedVariables false
set_option maxRecDepth 100000

theorem wf_u64 {x : Int} (h : (Lit.int .u64 x).wf = true) : 0 ≤ x ∧ x < 2 ^ 64 := by have : 0 ≤ x ∧ x ≤ 18446744073709551615 := by simpa [Lit.wf, IntKind.min, IntKind.max, IntKind.signed, IntKind.bits] using h
                                                                                     omega
set_option maxRecDepth 100000 in
theorem len64_64 (w : World) : Calls Try.prog 66 #[.int .u64 18446744073709551615] w fun e w' => e = .returned (.int .i64 64) ∧ w = w' := by
  go_enter Try.func66, Try.ntmps66
  go_wp2
  go_ret
  exact ⟨by kernel_rfl, rfl⟩
theorem bits64 (w : World) : Calls Try.prog 67 #[] w fun e w' => e = .returned (.int .i64 64) ∧ w = w' := by
  go_enter Try.func67, Try.ntmps67
  go_wp2_with (go_at_call 66; refine (len64_64 _).mono ?_; rintro e w' ⟨rfl, rfl⟩)
  go_ret
  exact ⟨by kernel_rfl, rfl⟩
theorem size64 (w : World) : Calls Try.prog 64 #[] w fun e w' => e = .returned (.int .i64 8) ∧ w = w' := by
  go_enter Try.func64, Try.ntmps64
  go_wp2_with (go_at_call 67; refine (bits64 _).mono ?_; rintro e w' ⟨rfl, rfl⟩)
  go_ret
  exact ⟨by kernel_rfl, rfl⟩
theorem put64 (a : Option Addr) (L cap : Nat) (l : List Int) (w : World) (hl : l.length = L) (hb : Bs w w.heap.size a l) (hL : L ≤ 140737488355328) (x : Int) (wx : (Lit.int .u64 x).wf = true) :
    Calls Try.prog 56 #[.slice a L cap, .int .u64 x] w fun e w' => ∃ g, e = .returned (.slice (some ⟨g, 0, none⟩) (L + 8) (L + 8)) ∧
      w'.ownsRow w.heap.size 5 1 (.slice (some ⟨g, 0, none⟩) (L + 8) (L + 8)) (L + 8) ((l ++ be 8 x).map (Value.int .u8)) ∧ Below w.heap.size w w' := by
  obtain ⟨hx0, hx1⟩ := wf_u64 wx
  clear wx
  have hx2 : x < 18446744073709551616 := by omega
  have hmk : ∀ W : World, (Instr.makeSlice 22 (.int .i64 (L : Int)) (.int .i64 ((L : Int) + 8))).run Try.prog W = .ok (.slice (some ⟨W.heap.size, 0, none⟩) L (L + 8)) (W.alloc (.cells (madeCells #[.int .u8 0] (L + 8)) 5)) := by
    intro W
    obtain ⟨i, hi, hz0, hz1, hz2⟩ := info_parts info5
    have := run_make (P := Try.prog) W 22 5 i _ Try.underlying22 hi hz0 .i64 .i64 (L : Int) ((L : Int) + 8) (by omega) (by omega) (by rw [hz2]; omega) (by omega)
    rw [this, hz1]
    have e1 : ((L : Int) + 8).toNat = L + 8 := by omega
    rw [e1]; simp
    rfl
  go_enter Try.func56, Try.ntmps56
  have k1 : (w.alloc (.cells (madeCells #[.int .u8 0] (L + 8)) 5)).heap[w.heap.size]? = some (.cells (madeCells #[.int .u8 0] (L + 8)).toList.toArray 5 (0, 0)) := by rw [Array.toArray_toList]; exact heap_alloc_new w _
  have k2 : (l.map (Value.int .u8)).length = Nat.min L L := by simp [hl]
  have k3 : 0 < (l.map (Value.int .u8)).length → ∃ ad, a = some ad ∧ ∀ j v, (l.map (Value.int .u8))[j]? = some v → (w.alloc (.cells (madeCells #[.int .u8 0] (L + 8)) 5)).cell? (ad.add j) = some v :=
    fun h0 => (hb.below ((Below.refl _ _).alloc (Nat.le_refl _) _)).cells h0
  have k4 : 0 + (l.map (Value.int .u8)).length ≤ (madeCells #[.int .u8 0] (L + 8)).toList.length := by simp [hl, size_madeCells]
  have k5 : Below w.heap.size w (w.alloc (.cells (madeCells #[.int .u8 0] (L + 8)) 5)) := (Below.refl _ _).alloc (Nat.le_refl _) _
  have K1 := Lib.hid k1; have K2 := Lib.hid k2; have K3 := Lib.hid k3
  clear k1 k2 k3
  go_wp2_with (first
    | (go_at_call 64; refine (size64 _).mono ?_; rintro e w' ⟨rfl, rfl⟩)
    | ((with_reducible show wpList _ _ _ (⟨some 19, _, _, _, _, _⟩ :: _) _ _); refine wpList_copy_splice (o := ⟨some 19, _, _, _, _, _⟩) rfl (.tmp 17) (.tmp 18) 22 22 rfl 5 Try.underlying22 size_u8 (some ⟨w.heap.size, 0, none⟩) a L (L + 8) L cap rfl rfl w.heap.size 0 (madeCells #[.int .u8 0] (L + 8)).toList 5 K1.out (l.map (Value.int .u8)) K2.out (fun h0 => ⟨rfl, K3.out h0⟩) k4 (ints_oneCell _ _) w.heap.size w k5 (Nat.le_refl _) ?_; intro w1 hg1 hb1))
  have own1 : w1.ownsRow w.heap.size 5 1 (.slice (some ⟨w.heap.size, 0, none⟩) L (L + 8)) L (l.map (Value.int .u8)) := by
    refine ⟨by simp [hl], .inr ⟨w.heap.size, L + 8, _, rfl, Nat.le_refl _, hg1.out, by omega, by unfold maxLen; omega, ?_, ?_⟩⟩
    · simp [splice_all, hl, size_madeCells]
    · simp [splice_all, hl]
  have hsz1 : w.heap.size < w1.heap.size := (own1.lt w.heap.size rfl).2
  clear hg1 K1 K2 K3 k4 k5
  go_loopw [6, 22] (fun out i wr => ∃ k : Nat, k ≤ 8 ∧ i = .int .i64 k ∧ out = .slice (some ⟨w.heap.size, 0, none⟩) (L + k) (L + 8) ∧
      wr.ownsRow w.heap.size 5 1 (.slice (some ⟨w.heap.size, 0, none⟩) (L + k) (L + 8)) (L + k) ((l ++ (be 8 x).take k).map (Value.int .u8)) ∧ Below w.heap.size w wr ∧ w.heap.size < wr.heap.size)
    (fun _ i _ => 8 - (intOf i).toNat)
  case atStart => exact ⟨0, by omega, rfl, rfl, by simpa using own1, hb1, hsz1⟩
  case round =>
    obtain ⟨k, hk, rfl, rfl, hown, hbel, hsz⟩ := hrel
    by_cases hlt : k < 8
    · have hap := (hown.alloc (.cells #[.int .u8 (x / 2 ^ (8 * (7 - k)) % 256)] 5))
      have hn1 : ∀ j u, [Value.int .u8 (x / 2 ^ (8 * (7 - k)) % 256)][j]? = some u → (wr.alloc (.cells #[.int .u8 (x / 2 ^ (8 * (7 - k)) % 256)] 5)).cell? ((⟨wr.heap.size, 0, none⟩ : Addr).add j) = some u := by
        intro j u hj
        match j, hj with
        | 0, hj => simp at hj; subst hj; simp [Addr.add]
      have hn2 : ∀ u ∈ [Value.int .u8 (x / 2 ^ (8 * (7 - k)) % 256)], u.oneCell' = true := by intro u hu; simp at hu; subst hu; rfl
      have hbt := be_take_succ 8 x k hlt
      have HAP := Lib.hid hap; have HN1 := Lib.hid hn1; have HN2 := Lib.hid hn2; have HBT := Lib.hid hbt
      clear hap hn1 hn2 hbt
      obtain ⟨i5, hi, hz0, hz1, hz2⟩ := info_parts info5
      have HI := Lib.hid hi
      have HZ := Lib.hid hz1
      clear hi hz0 hz1 hz2
      go_wp2_with (((with_reducible show wpList _ _ _ (⟨some 35, _, _, _, _, _⟩ :: _) _ _); go_loud (refine wpList_append_fits _ rfl (.tmp 25) (.tmp 34) 22 rfl w.heap.size 5 i5 1 Try.underlying22 HI.out HZ.out w.heap.size (L + k) (L + 8) _ rfl HAP.out ⟨wr.heap.size, 0, none⟩ 1 1 [.int .u8 (x / 2 ^ (8 * (7 - k)) % 256)] rfl rfl HN1.out HN2.out (by omega) ?_); intro w2 hown2 hg2))
      go_roundw
      case rel =>
        refine ⟨k + 1, by omega, by go_num, rfl, ?_, ?_, ?_⟩
        · rw [HBT.out, ← List.append_assoc, List.map_append]
          exact hown2
        · exact (hbel.alloc (by omega) _).grown hg2 (by simp <;> omega) (fun g hg => by injection hg with hg; omega)
        · have := hg2.size; simp at this; omega
      case measure => simp [intOf] <;> omega
    · have : k = 8 := by omega
      subst this
      go_wp2
      go_ret
      refine ⟨_, rfl, ?_, hbel⟩
      have e : (be 8 x).take 8 = be 8 x := List.take_of_length_le (by rw [length_be]; exact Nat.le_refl _)
      rw [e] at hown
      exact hown
theorem be_getD (n : Nat) (x : Int) (i : Nat) (h : i < n) : (be n x).getD i 0 = x / 2 ^ (8 * (n - 1 - i)) % 256 := by
  simp [be, List.getD_eq_getElem?_getD, List.getElem?_map, List.getElem?_range h]
theorem allB_be (n : Nat) (x : Int) : AllB (be n x) := by
  intro v hv
  simp only [be, List.mem_map] at hv
  obtain ⟨i, _, rfl⟩ := hv
  exact ⟨Int.emod_nonneg _ (by omega), Int.emod_lt_of_pos _ (by omega)⟩
/-- A row that is filled from its end on. -/
def tailed (L : List Int) (j : Nat) : List Int := List.replicate j 0 ++ L.drop j
theorem length_tailed {L : List Int} {j : Nat} (h : j ≤ L.length) : (tailed L j).length = L.length := by simp [tailed]; omega
theorem tailed_set {L : List Int} {m : Nat} (h : m < L.length) : (tailed L (m + 1)).set m (L.getD m 0) = tailed L m := by
  have e : L.getD m 0 = L[m] := by simp [List.getD_eq_getElem?_getD, List.getElem?_eq_getElem h]
  unfold tailed
  rw [List.replicate_succ', List.append_assoc, List.set_append_right _ _ (by simp), e, List.drop_eq_getElem_cons h]
  simp
theorem div_step (X : Int) (n m : Nat) (h : m < n) : X / 2 ^ (8 * (n - (m + 1))) / 256 = X / 2 ^ (8 * (n - m)) := by
  rw [show (256 : Int) = 2 ^ 8 by rfl, Int.ediv_ediv_of_nonneg (Int.pow_nonneg (by omega)), ← Int.pow_add, show 8 * (n - (m + 1)) + 8 = 8 * (n - m) by omega]
theorem refPut (n : Nat) (hn : n ≤ 8) (X : Int) (h0 : 0 ≤ X) (h1 : X < 18446744073709551616) (w : World) :
    Calls Try.prog 21 #[.int .u64 X, .int .i64 (n : Nat)] w fun e w' => ∃ g, e = .returned (.slice (some ⟨g, 0, none⟩) n n) ∧
      w'.ownsRow w.heap.size 5 1 (.slice (some ⟨g, 0, none⟩) n n) n ((be n X).map (Value.int .u8)) ∧ Below w.heap.size w w' := by
  have hmk := run_make_row' (P := Try.prog) 22 5 (.int .u8 0) 1 Try.underlying22 info5 rfl .i64 .i64 n (by omega) (by omega)
  have HO := Lib.hid (own_made (w := w) (e := 5) (n := n) (by unfold maxLen; omega))
  go_enter Try.func21, Try.ntmps21
  go_wp2
  go_loopw [0, 6] (fun x i wr => ∃ j : Nat, j ≤ n ∧ i = .int .i64 ((j : Int) - 1) ∧ x = .int .u64 (X / 2 ^ (8 * (n - j))) ∧
      wr.ownsRow w.heap.size 5 1 (.slice (some ⟨w.heap.size, 0, none⟩) n n) n ((tailed (be n X) j).map (Value.int .u8)) ∧ Below w.heap.size w wr)
    (fun _ i _ => (intOf i + 1).toNat)
  case atStart =>
    refine ⟨n, Nat.le_refl _, rfl, by simp, ?_, (Below.refl _ _).alloc (Nat.le_refl _) _⟩
    have e : tailed (be n X) n = List.replicate n 0 := by unfold tailed; rw [List.drop_of_length_le (by rw [length_be]; exact Nat.le_refl _), List.append_nil]
    rw [e]; exact HO.out
  case round =>
    obtain ⟨j, hj, rfl, rfl, hown, hbel⟩ := hrel
    clear hmk
    rcases Nat.eq_zero_or_pos j with hz | hz
    · subst hz
      go_wp2
      go_ret
      refine ⟨_, rfl, ?_, hbel⟩
      have e : tailed (be n X) 0 = be n X := by simp [tailed]
      rw [e] at hown
      exact hown
    · obtain ⟨m, rfl⟩ : ∃ m, j = m + 1 := ⟨j - 1, by omega⟩
      have ej : ((m + 1 : Nat) : Int) - 1 = m := by omega
      rw [ej]
      have hd := Lib.hid (div_step X n m (by omega))
      have hv := Lib.hid (be_getD n X m (by omega))
      obtain ⟨Y, hY⟩ : ∃ Y, Y = X / 2 ^ (8 * (n - (m + 1))) := ⟨_, rfl⟩
      have hY0 : 0 ≤ Y := by rw [hY]; exact Int.ediv_nonneg h0 (Int.pow_nonneg (by omega))
      have hY1 : Y < 18446744073709551616 := by rw [hY]; exact Int.lt_of_le_of_lt (Int.ediv_le_self _ h0) h1
      rw [← hY]
      have HY := Lib.hid hY
      have hcg := own_cells hown m (by omega)
      rw [Nat.zero_add] at hcg
      have hfz := hown.frozenAt m
      have hval : (be n X).getD m 0 = Y % 256 := by rw [hv.out, hY, show n - 1 - m = n - (m + 1) by omega]
      have hst := (hown.stored m (.int .u8 (Y % 256))).1
      rw [map_set_u8, ← hval, tailed_set (by rw [length_be]; omega), hval] at hst
      have HST := Lib.hid hst
      have HB := Lib.hid (hbel.setCell (p := ⟨w.heap.size, m, none⟩) (Nat.le_refl _) (.int .u8 (Y % 256)))
      clear hown hbel hst hval hY
      have q1 : (m : Int) < (n : Int) := by omega
      go_wp2
      go_roundw
      case rel => exact ⟨m, by omega, by go_num, by rw [← hd.out, ← HY.out], HST.out, HB.out⟩
      case measure => simp [intOf] <;> omega
/-- Byte by byte, as long as the shorter one. -/
def xorL (a b : List Int) : List Int := List.zipWith (fun x y => ((x.toNat ^^^ y.toNat : Nat) : Int)) a b
theorem length_xorL (a b : List Int) : (xorL a b).length = min a.length b.length := by simp [xorL]
theorem xorL_getD {a b : List Int} {k : Nat} (h : k < min a.length b.length) : (xorL a b).getD k 0 = (((a.getD k 0).toNat ^^^ (b.getD k 0).toNat : Nat) : Int) := by
  have h1 : k < a.length := by omega
  have h2 : k < b.length := by omega
  simp [xorL, List.getD_eq_getElem?_getD, List.getElem?_zipWith, List.getElem?_eq_getElem h1, List.getElem?_eq_getElem h2]
theorem xor_any (a b : Option Addr) (la ca lb cb : Nat) (x y : List Int) (w : World) (hx : Arg8 w a la ca x) (hy : Arg8 w b lb cb y) (hla : la ≤ 281474976710656) (hlb : lb ≤ 281474976710656) :
    Calls Try.prog 40 #[.slice a la ca, .slice b lb cb] w fun e w' => ∃ g, e = .returned (.slice (some ⟨g, 0, none⟩) (min la lb) (min la lb)) ∧
      w'.ownsRow w.heap.size 5 1 (.slice (some ⟨g, 0, none⟩) (min la lb) (min la lb)) (min la lb) ((xorL x y).map (Value.int .u8)) ∧ Below w.heap.size w w' := by
  obtain ⟨hxl, hxb, hxc, hx1, hx2⟩ := hx
  obtain ⟨hyl, hyb, hyc, hy1, hy2⟩ := hy
  unfold maxLen at hx2 hy2
  have hl := length_xorL x y
  have wbx := allB_getD hxb
  have wby := allB_getD hyb
  have HWX := Lib.hid wbx
  have HWY := Lib.hid wby
  clear wbx wby
  by_cases hc : lb < la
  · have hmn : min la lb = lb := Nat.min_eq_right (by omega)
    rw [hmn]
    have HL := Lib.hid (show (xorL x y).length = lb by rw [hl, hxl, hyl, hmn])
    have HM := Lib.hid hmn
    clear hl hmn
    have hmk := run_make_row' (P := Try.prog) 22 5 (.int .u8 0) 1 Try.underlying22 info5 rfl .i64 .i64 lb (by omega) (by omega)
    have hO := own_made (w := w) (e := 5) (n := lb) (by unfold maxLen; omega)
    have HO := Lib.hid hO
    clear hO
    go_enter Try.func40, Try.ntmps40
    go_wp2
    go_loopw [15] (fun i wr => ∃ k : Nat, k ≤ lb ∧ i = .int .i64 k ∧ wr.ownsRow w.heap.size 5 1 (.slice (some ⟨w.heap.size, 0, none⟩) lb lb) lb ((part (xorL x y) k).map (Value.int .u8)) ∧ Below w.heap.size w wr)
      (fun i _ => lb - (intOf i).toNat)
    case atStart => exact ⟨0, Nat.zero_le _, rfl, by rw [part_zero, HL.out]; exact HO.out, (Below.refl _ _).alloc (Nat.le_refl _) _⟩
    case round =>
      obtain ⟨k, hk, rfl, hown, hbel⟩ := hrel
      clear hmk
      by_cases hlt : k < lb
      · obtain ⟨ba, oa, rfl, hba, hca⟩ := (hxc.below hbel).at_ (k := k) (by omega)
        obtain ⟨bb, ob, rfl, hbb, hcb⟩ := (hyc.below hbel).at_ (k := k) (by omega)
        have wx := HWX.out k
        have wy := HWY.out k
        have hcg := own_cells hown k hlt
        rw [Nat.zero_add] at hcg
        have hfz := hown.frozenAt k
        have hne1 : ba ≠ w.heap.size := by omega
        have hne2 : bb ≠ w.heap.size := by omega
        have hst := Lib.hid (part_set_own HL.out hlt hown)
        have hb2 := Lib.hid (hbel.setCell (p := ⟨w.heap.size, k, none⟩) (Nat.le_refl _) (.int .u8 ((xorL x y).getD k 0)))
        have hxe := Lib.hid (xorL_getD (a := x) (b := y) (k := k) (by omega))
        clear hown hbel hxc hyc
        have q1 : (k : Int) < (la : Int) := by omega
        have q2 : (k : Int) < (lb : Int) := by omega
        have q3 : (0 : Int) ≤ (k : Int) := by omega
        obtain ⟨X, hX⟩ : ∃ X, X = x.getD k 0 := ⟨_, rfl⟩
        obtain ⟨Y, hY⟩ : ∃ Y, Y = y.getD k 0 := ⟨_, rfl⟩
        rw [← hX] at hca wx hxe
        rw [← hY] at hcb wy hxe
        clear hX hY
        have hv : (xorL x y).getD k 0 = bits .xor .u8 X Y := by rw [hxe.out, u8_xor X Y wx.1 wx.2 wy.1 wy.2]
        rw [hv] at hst hb2
        clear hxe hv
        go_wp2_with fail
        go_still_tail 12, (by kernel_rfl)
        go_wp2
        go_roundw
        case rel => exact ⟨k + 1, by omega, by go_num, hst.out, hb2.out.drew⟩
        case measure => simp [intOf]; omega
      · obtain rfl : k = lb := by omega
        go_wp2
        go_ret
        refine ⟨_, rfl, ?_, hbel⟩
        have e := part_all (xorL x y)
        rw [HL.out] at e
        rw [e] at hown
        exact hown
  · have hmn : min la lb = la := Nat.min_eq_left (by omega)
    rw [hmn]
    have HL := Lib.hid (show (xorL x y).length = la by rw [hl, hxl, hyl, hmn])
    have HM := Lib.hid hmn
    clear hl hmn
    have hmk := run_make_row' (P := Try.prog) 22 5 (.int .u8 0) 1 Try.underlying22 info5 rfl .i64 .i64 la (by omega) (by omega)
    have hO := own_made (w := w) (e := 5) (n := la) (by unfold maxLen; omega)
    have HO := Lib.hid hO
    clear hO
    go_enter Try.func40, Try.ntmps40
    go_wp2
    go_loopw [15] (fun i wr => ∃ k : Nat, k ≤ la ∧ i = .int .i64 k ∧ wr.ownsRow w.heap.size 5 1 (.slice (some ⟨w.heap.size, 0, none⟩) la la) la ((part (xorL x y) k).map (Value.int .u8)) ∧ Below w.heap.size w wr)
      (fun i _ => la - (intOf i).toNat)
    case atStart => exact ⟨0, Nat.zero_le _, rfl, by rw [part_zero, HL.out]; exact HO.out, (Below.refl _ _).alloc (Nat.le_refl _) _⟩
    case round =>
      obtain ⟨k, hk, rfl, hown, hbel⟩ := hrel
      clear hmk
      by_cases hlt : k < la
      · obtain ⟨ba, oa, rfl, hba, hca⟩ := (hxc.below hbel).at_ (k := k) (by omega)
        obtain ⟨bb, ob, rfl, hbb, hcb⟩ := (hyc.below hbel).at_ (k := k) (by omega)
        have wx := HWX.out k
        have wy := HWY.out k
        have hcg := own_cells hown k hlt
        rw [Nat.zero_add] at hcg
        have hfz := hown.frozenAt k
        have hne1 : ba ≠ w.heap.size := by omega
        have hne2 : bb ≠ w.heap.size := by omega
        have hst := Lib.hid (part_set_own HL.out hlt hown)
        have hb2 := Lib.hid (hbel.setCell (p := ⟨w.heap.size, k, none⟩) (Nat.le_refl _) (.int .u8 ((xorL x y).getD k 0)))
        have hxe := Lib.hid (xorL_getD (a := x) (b := y) (k := k) (by omega))
        clear hown hbel hxc hyc
        have q1 : (k : Int) < (la : Int) := by omega
        have q2 : (k : Int) < (lb : Int) := by omega
        have q3 : (0 : Int) ≤ (k : Int) := by omega
        obtain ⟨X, hX⟩ : ∃ X, X = x.getD k 0 := ⟨_, rfl⟩
        obtain ⟨Y, hY⟩ : ∃ Y, Y = y.getD k 0 := ⟨_, rfl⟩
        rw [← hX] at hca wx hxe
        rw [← hY] at hcb wy hxe
        clear hX hY
        have hv : (xorL x y).getD k 0 = bits .xor .u8 X Y := by rw [hxe.out, u8_xor X Y wx.1 wx.2 wy.1 wy.2]
        rw [hv] at hst hb2
        clear hxe hv
        go_wp2_with fail
        go_still_tail 12, (by kernel_rfl)
        go_wp2
        go_roundw
        case rel => exact ⟨k + 1, by omega, by go_num, hst.out, hb2.out.drew⟩
        case measure => simp [intOf]; omega
      · obtain rfl : k = la := by omega
        go_wp2
        go_ret
        refine ⟨_, rfl, ?_, hbel⟩
        have e := part_all (xorL x y)
        rw [HL.out] at e
        rw [e] at hown
        exact hown
end Go.Proofs.Ytpfhfnhbholboaa
