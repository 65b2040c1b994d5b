/- Contracts of word.Xor and word.Zero. -/
import Derived.Test.YtdapcnffiapgpaaLives
import Derived.StillTailTactics
import Derived.Deep.OwnRows
import Derived.Deep.OwnRows
namespace Go.Proofs.Ytdapcnffiapgpaa
open Go.ChangeShapes Go.WideShapes Go.ChangeAt Go.RowKit
set_option linter.unusedVariables false

/-- Byte by byte, as long as the shorter one. -/
def xorL (a b : List Int) : List Int := List.zipWith (fun x y => ((x.toNat ^^^ y.toNat : Nat) : Int)) a b
theorem length_xorL (a b : List Int) : (xorL a b).length = min a.length b.length := by simp [xorL]
theorem xorL_getD {a b : List Int} {k : Nat} (h : k < min a.length b.length) : (xorL a b).getD k 0 = (((a.getD k 0).toNat ^^^ (b.getD k 0).toNat : Nat) : Int) := by
  have h1 : k < a.length := by omega
  have h2 : k < b.length := by omega
  simp [xorL, List.getD_eq_getElem?_getD, List.getElem?_zipWith, List.getElem?_eq_getElem h1, List.getElem?_eq_getElem h2]
theorem allB_getD {l : List Int} (h : AllB l) (k : Nat) : 0 ≤ l.getD k 0 ∧ l.getD k 0 < 256 := by
  by_cases hk : k < l.length
  · have : l.getD k 0 = l[k] := by simp [List.getD_eq_getElem?_getD, List.getElem?_eq_getElem hk]
    rw [this]; exact h _ (List.getElem_mem hk)
  · have : l.getD k 0 = 0 := by simp [List.getD_eq_getElem?_getD, List.getElem?_eq_none (Nat.le_of_not_lt hk)]
    omega

theorem xor_any (a b : Option Addr) (la ca lb cb : Nat) (x y : List Int) (w : World) (hx : Arg8 w a la ca x) (hy : Arg8 w b lb cb y) (hla : la ≤ 281474976710656) (hlb : lb ≤ 281474976710656) :
    Calls Try.prog 21 #[.slice a la ca, .slice b lb cb] w fun e w' => ∃ g, e = .returned (.slice (some ⟨g, 0, none⟩) (min la lb) (min la lb)) ∧
      w'.ownsRow w.heap.size 5 1 (.slice (some ⟨g, 0, none⟩) (min la lb) (min la lb)) (min la lb) ((xorL x y).map (Value.int .u8)) ∧ Below w.heap.size w w' := by
  obtain ⟨hxl, hxb, hxc, hx1, hx2⟩ := hx
  obtain ⟨hyl, hyb, hyc, hy1, hy2⟩ := hy
  unfold maxLen at hx2 hy2
  have hl := length_xorL x y
  have wbx := allB_getD hxb
  have wby := allB_getD hyb
  have HWX := Lib.hid wbx
  have HWY := Lib.hid wby
  clear wbx wby
  by_cases hc : lb < la
  · have hmn : min la lb = lb := Nat.min_eq_right (by omega)
    rw [hmn]
    have HL := Lib.hid (show (xorL x y).length = lb by rw [hl, hxl, hyl, hmn])
    have HM := Lib.hid hmn
    clear hl hmn
    have hmk := run_make_row' (P := Try.prog) 31 5 (.int .u8 0) 1 Try.underlying31 info5 rfl .i64 .i64 lb (by omega) (by omega)
    have hO := own_made (w := w) (e := 5) (n := lb) (by unfold maxLen; omega)
    have HO := Lib.hid hO
    clear hO
    go_enter Try.func21, Try.ntmps21
    go_wp2
    go_loopw [15] (fun i wr => ∃ k : Nat, k ≤ lb ∧ i = .int .i64 k ∧ wr.ownsRow w.heap.size 5 1 (.slice (some ⟨w.heap.size, 0, none⟩) lb lb) lb ((part (xorL x y) k).map (Value.int .u8)) ∧ Below w.heap.size w wr)
      (fun i _ => lb - (intOf i).toNat)
    case atStart => exact ⟨0, Nat.zero_le _, rfl, by rw [part_zero, HL.out]; exact HO.out, (Below.refl _ _).alloc (Nat.le_refl _) _⟩
    case round =>
      obtain ⟨k, hk, rfl, hown, hbel⟩ := hrel
      clear hmk
      by_cases hlt : k < lb
      · obtain ⟨ba, oa, rfl, hba, hca⟩ := (hxc.below hbel).at_ (k := k) (by omega)
        obtain ⟨bb, ob, rfl, hbb, hcb⟩ := (hyc.below hbel).at_ (k := k) (by omega)
        have wx := HWX.out k
        have wy := HWY.out k
        have hcg := own_cells hown k hlt
        rw [Nat.zero_add] at hcg
        have hfz := hown.frozenAt k
        have hne1 : ba ≠ w.heap.size := by omega
        have hne2 : bb ≠ w.heap.size := by omega
        have hst := Lib.hid (part_set_own HL.out hlt hown)
        have hb2 := Lib.hid (hbel.setCell (p := ⟨w.heap.size, k, none⟩) (Nat.le_refl _) (.int .u8 ((xorL x y).getD k 0)))
        have hxe := Lib.hid (xorL_getD (a := x) (b := y) (k := k) (by omega))
        clear hown hbel hxc hyc
        have q1 : (k : Int) < (la : Int) := by omega
        have q2 : (k : Int) < (lb : Int) := by omega
        have q3 : (0 : Int) ≤ (k : Int) := by omega
        obtain ⟨X, hX⟩ : ∃ X, X = x.getD k 0 := ⟨_, rfl⟩
        obtain ⟨Y, hY⟩ : ∃ Y, Y = y.getD k 0 := ⟨_, rfl⟩
        rw [← hX] at hca wx hxe
        rw [← hY] at hcb wy hxe
        clear hX hY
        have hv : (xorL x y).getD k 0 = bits .xor .u8 X Y := by rw [hxe.out, u8_xor X Y wx.1 wx.2 wy.1 wy.2]
        rw [hv] at hst hb2
        clear hxe hv
        go_wp2_with fail
        go_still_tail 12, (by kernel_rfl)
        go_wp2
        go_roundw
        case rel => exact ⟨k + 1, by omega, by go_num, hst.out, hb2.out.drew⟩
        case measure => simp [intOf]; omega
      · obtain rfl : k = lb := by omega
        go_wp2
        go_ret
        refine ⟨_, rfl, ?_, hbel⟩
        have e := part_all (xorL x y)
        rw [HL.out] at e
        rw [e] at hown
        exact hown
  · have hmn : min la lb = la := Nat.min_eq_left (by omega)
    rw [hmn]
    have HL := Lib.hid (show (xorL x y).length = la by rw [hl, hxl, hyl, hmn])
    have HM := Lib.hid hmn
    clear hl hmn
    have hmk := run_make_row' (P := Try.prog) 31 5 (.int .u8 0) 1 Try.underlying31 info5 rfl .i64 .i64 la (by omega) (by omega)
    have hO := own_made (w := w) (e := 5) (n := la) (by unfold maxLen; omega)
    have HO := Lib.hid hO
    clear hO
    go_enter Try.func21, Try.ntmps21
    go_wp2
    go_loopw [15] (fun i wr => ∃ k : Nat, k ≤ la ∧ i = .int .i64 k ∧ wr.ownsRow w.heap.size 5 1 (.slice (some ⟨w.heap.size, 0, none⟩) la la) la ((part (xorL x y) k).map (Value.int .u8)) ∧ Below w.heap.size w wr)
      (fun i _ => la - (intOf i).toNat)
    case atStart => exact ⟨0, Nat.zero_le _, rfl, by rw [part_zero, HL.out]; exact HO.out, (Below.refl _ _).alloc (Nat.le_refl _) _⟩
    case round =>
      obtain ⟨k, hk, rfl, hown, hbel⟩ := hrel
      clear hmk
      by_cases hlt : k < la
      · obtain ⟨ba, oa, rfl, hba, hca⟩ := (hxc.below hbel).at_ (k := k) (by omega)
        obtain ⟨bb, ob, rfl, hbb, hcb⟩ := (hyc.below hbel).at_ (k := k) (by omega)
        have wx := HWX.out k
        have wy := HWY.out k
        have hcg := own_cells hown k hlt
        rw [Nat.zero_add] at hcg
        have hfz := hown.frozenAt k
        have hne1 : ba ≠ w.heap.size := by omega
        have hne2 : bb ≠ w.heap.size := by omega
        have hst := Lib.hid (part_set_own HL.out hlt hown)
        have hb2 := Lib.hid (hbel.setCell (p := ⟨w.heap.size, k, none⟩) (Nat.le_refl _) (.int .u8 ((xorL x y).getD k 0)))
        have hxe := Lib.hid (xorL_getD (a := x) (b := y) (k := k) (by omega))
        clear hown hbel hxc hyc
        have q1 : (k : Int) < (la : Int) := by omega
        have q2 : (k : Int) < (lb : Int) := by omega
        have q3 : (0 : Int) ≤ (k : Int) := by omega
        obtain ⟨X, hX⟩ : ∃ X, X = x.getD k 0 := ⟨_, rfl⟩
        obtain ⟨Y, hY⟩ : ∃ Y, Y = y.getD k 0 := ⟨_, rfl⟩
        rw [← hX] at hca wx hxe
        rw [← hY] at hcb wy hxe
        clear hX hY
        have hv : (xorL x y).getD k 0 = bits .xor .u8 X Y := by rw [hxe.out, u8_xor X Y wx.1 wx.2 wy.1 wy.2]
        rw [hv] at hst hb2
        clear hxe hv
        go_wp2_with fail
        go_still_tail 12, (by kernel_rfl)
        go_wp2
        go_roundw
        case rel => exact ⟨k + 1, by omega, by go_num, hst.out, hb2.out.drew⟩
        case measure => simp [intOf]; omega
      · obtain rfl : k = la := by omega
        go_wp2
        go_ret
        refine ⟨_, rfl, ?_, hbel⟩
        have e := part_all (xorL x y)
        rw [HL.out] at e
        rw [e] at hown
        exact hown
end Go.Proofs.Ytdapcnffiapgpaa
