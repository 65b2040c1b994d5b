/- Texts of mine, one behind the other: QK4 QN Bits. -/
import Derived.Test.YtappfdbmhgifcaaGreatDoorZS03
import Derived.Test.YtappfdbmhgifcaaGreatDoorZS07
import Derived.Test.YtappfdbmhgifcaaGreatDoorZS04
import Derived.BigRegion
import Derived.StillTailTactics
import Derived.Deep.OwnRows
import Derived.Test.YtappfdbmhgifcaaGreatDoorZS01
import Derived.Test.YtappfdbmhgifcaaGreatDoorRows
import Derived.WalkKit
import Derived.ProofKit
import Derived.OpenShut
import Derived.ShutString
import Derived.Below
import Derived.BigQuiet
import Derived.Deep.QuietTactic
import Derived.Laws.BitsAllLaws
import Derived.Lib.Hide
/- Texts of mine, one behind the other: Kx Ks Kt Ku Kv. -/
/- The chapter's example, reckoned (written by gen22.py). -/
namespace Go.Proofs.YtappfdbmhgifcaaGreatDoor
set_option linter.unusedVariables false
set_option maxRecDepth 100000
end Go.Proofs.YtappfdbmhgifcaaGreatDoor
/- The cipher's contracts in the laws' words; blocks and squares; the laws' key. -/
namespace Go.Proofs.YtappfdbmhgifcaaGreatDoor
open Go.ChangeShapes Go.WideShapes Go.ChangeAt Go.RowKit
set_option linter.unusedVariables false
set_option maxRecDepth 100000

theorem allB_outL {S : Nat → Nat → Nat} (hS : SqB S) : ∀ i, AllB (outL S i)
  | 0 => fun x hx => by cases hx
  | i + 1 => fun x hx => by
    rcases List.mem_append.1 hx with h | h
    · exact allB_outL hS i x h
    · have h0 := hS i 0; have h1 := hS i 1; have h2 := hS i 2; have h3 := hS i 3
      simp only [colL, List.mem_cons, List.not_mem_nil, or_false] at h
      rcases h with rfl | rfl | rfl | rfl <;> omega
/-- A block, encrypted and decrypted. -/
def encL (n : Nat) (W : Nat → Nat → Nat) (l : List Int) : List Int := outL (enc W n (kw l)) 4
theorem length_encL (n : Nat) (W : Nat → Nat → Nat) (l : List Int) : (encL n W l).length = 16 := length_outL _ 4
theorem allB_encL {W : Nat → Nat → Nat} (hW : SqB W) (n : Nat) (l : List Int) : AllB (encL n W l) := allB_outL (enc_bd n _ hW) 4
/-- The words of a key's round keys. -/
def keyW (l : List Int) : Nat → Nat → Nat := kx (l.length / 4) (kw l) (3 * (l.length / 4) + 28)
theorem keyW_bd {l : List Int} (hA : AllB l) : SqB (keyW l) := kx_bd _ (kw_lt hA) _
/-- Cip, with the number of its rounds. -/
def CipK (w : World) (b : Nat) (l : List Int) : Prop := Cip w b (l.length / 4 + 6) (keyW l)
theorem CipK.on {w w' : World} {b : Nat} {l : List Int} (h : CipK w b l) (hb : Below w.heap.size w w') : CipK w' b l := Cip.on h hb
theorem new_arg (fb : Nat) (a : Option Addr) (L c : Nat) (l : List Int) (w : World) (hf : Fld w fb) (hx : Arg8 w a L c l) (hL : L = 16 ∨ L = 32) :
    Calls Tryz.prog 105 #[.pointer (some ⟨fb, 0, none⟩), .slice a L c] w fun e w' => ∃ b, e = .returned (.tuple #[.pointer (some ⟨b, 0, none⟩), .int .i64 0]) ∧ CipK w' b l ∧ Below w.heap.size w w' := by
  obtain ⟨hl, hA, hb, hc, hm⟩ := hx
  obtain ⟨ba, oa, rfl, _⟩ := hb (by omega)
  unfold maxLen at hm
  unfold CipK keyW
  rw [hl]
  rcases hL with rfl | rfl
  · exact new_4 fb 4 ba oa c l w hf rfl hl hA hb hc hm
  · exact new_8 fb 8 ba oa c l w hf rfl hl hA hb hc hm
theorem enc_arg (b : Nat) (k : List Int) (a : Option Addr) (c : Nat) (l : List Int) (w : World) (h : CipK w b k) (hk : k.length = 16 ∨ k.length = 32) (hK : AllB k) (hx : Arg8 w a 16 c l) :
    Calls Tryz.prog 168 #[.pointer (some ⟨b, 0, none⟩), .slice a (16 : Nat) c] w fun e w' => ∃ g, e = .returned (.tuple #[.slice (some ⟨g, 0, none⟩) 16 16, .int .i64 0]) ∧ w'.ownsRow w.heap.size 5 1 (.slice (some ⟨g, 0, none⟩) 16 16) 16 ((encL (k.length / 4 + 6) (keyW k) l).map (Value.int .u8)) ∧ Below w.heap.size w w' := by
  obtain ⟨hl, hA, hb, hc, hm⟩ := hx
  obtain ⟨ba, oa, rfl, _⟩ := hb (by omega)
  unfold maxLen at hm
  refine (encrypt_ok b (k.length / 4 + 6) (keyW k) (keyW_bd hK) (by omega) (by omega) ba oa c l w h hl hA hb hc hm).mono ?_
  rintro e w' ⟨a, rfl, ho, hbe⟩
  obtain ⟨g, cap, hv, _⟩ := ho.form (by omega)
  cases hv
  exact ⟨g, rfl, ho, hbe⟩
end Go.Proofs.YtappfdbmhgifcaaGreatDoor
/- Contract of the laws' lives (layer 5). -/
namespace Go.Proofs.YtappfdbmhgifcaaGreatDoor
open Go.ChangeShapes Go.WideShapes Go.ChangeAt Go.RowKit
set_option linter.unusedVariables false
set_option linter.unusedSimpArgs false
set_option maxRecDepth 100000

end Go.Proofs.YtappfdbmhgifcaaGreatDoor
/- The walk of CipherForms (written by gen24.py). -/
namespace Go.Proofs.YtappfdbmhgifcaaGreatDoor
open Go.ChangeShapes Go.WideShapes Go.ChangeAt Go.RowKit
set_option linter.unusedVariables false
set_option linter.unusedSimpArgs false
set_option maxRecDepth 100000

end Go.Proofs.YtappfdbmhgifcaaGreatDoor
/- The walk of CipherBack (written by gen25.py). -/
namespace Go.Proofs.YtappfdbmhgifcaaGreatDoor
open Go.ChangeShapes Go.WideShapes Go.ChangeAt Go.RowKit
set_option linter.unusedVariables false
set_option linter.unusedSimpArgs false
set_option maxRecDepth 100000

end Go.Proofs.YtappfdbmhgifcaaGreatDoor
/- Texts of mine, one behind the other: Na Nc Nd Ne. -/
/- Contracts of package word's Put of 64 bits, of the document's Put, and of word.Xor (taken from my texts Bits, Put, Rput, Xor). -/
namespace Go.Proofs.YtappfdbmhgifcaaGreatDoor
open Go.ChangeShapes Go.WideShapes Go.ChangeAt Go.RowKit
set_option linter.unusedVariables false
set_option maxRecDepth 100000

theorem wf_u64 {x : Int} (h : (Lit.int .u64 x).wf = true) : 0 ≤ x ∧ x < 2 ^ 64 := by have : 0 ≤ x ∧ x ≤ 18446744073709551615 := by simpa [Lit.wf, IntKind.min, IntKind.max, IntKind.signed, IntKind.bits] using h
                                                                                     omega
set_option maxRecDepth 100000 in
theorem len64_64 (w : World) : Calls Tryz.prog 175 #[.int .u64 18446744073709551615] w fun e w' => e = .returned (.int .i64 64) ∧ w = w' := by
  go_enter Tryz.func175, Tryz.ntmps175
  go_wp2
  go_ret
  exact ⟨by kernel_rfl, rfl⟩
theorem bits64 (w : World) : Calls Tryz.prog 181 #[] w fun e w' => e = .returned (.int .i64 64) ∧ w = w' := by
  go_enter Tryz.func181, Tryz.ntmps181
  go_wp2_with (go_at_call 175; refine (len64_64 _).mono ?_; rintro e w' ⟨rfl, rfl⟩)
  go_ret
  exact ⟨by kernel_rfl, rfl⟩
theorem size64 (w : World) : Calls Tryz.prog 171 #[] w fun e w' => e = .returned (.int .i64 8) ∧ w = w' := by
  go_enter Tryz.func171, Tryz.ntmps171
  go_wp2_with (go_at_call 181; refine (bits64 _).mono ?_; rintro e w' ⟨rfl, rfl⟩)
  go_ret
  exact ⟨by kernel_rfl, rfl⟩
theorem put64 (a : Option Addr) (L cap : Nat) (l : List Int) (w : World) (hl : l.length = L) (hb : Bs w w.heap.size a l) (hL : L ≤ 140737488355328) (x : Int) (wx : (Lit.int .u64 x).wf = true) :
    Calls Tryz.prog 152 #[.slice a L cap, .int .u64 x] w fun e w' => ∃ g, e = .returned (.slice (some ⟨g, 0, none⟩) (L + 8) (L + 8)) ∧
      w'.ownsRow w.heap.size 5 1 (.slice (some ⟨g, 0, none⟩) (L + 8) (L + 8)) (L + 8) ((l ++ be 8 x).map (Value.int .u8)) ∧ Below w.heap.size w w' := by
  obtain ⟨hx0, hx1⟩ := wf_u64 wx
  clear wx
  have hx2 : x < 18446744073709551616 := by omega
  have hmk : ∀ W : World, (Instr.makeSlice 22 (.int .i64 (L : Int)) (.int .i64 ((L : Int) + 8))).run Tryz.prog W = .ok (.slice (some ⟨W.heap.size, 0, none⟩) L (L + 8)) (W.alloc (.cells (madeCells #[.int .u8 0] (L + 8)) 5)) := by
    intro W
    obtain ⟨i, hi, hz0, hz1, hz2⟩ := info_parts info5
    have := run_make (P := Tryz.prog) W 22 5 i _ Tryz.underlying22 hi hz0 .i64 .i64 (L : Int) ((L : Int) + 8) (by omega) (by omega) (by rw [hz2]; omega) (by omega)
    rw [this, hz1]
    have e1 : ((L : Int) + 8).toNat = L + 8 := by omega
    rw [e1]; simp
    rfl
  go_enter Tryz.func152, Tryz.ntmps152
  have k1 : (w.alloc (.cells (madeCells #[.int .u8 0] (L + 8)) 5)).heap[w.heap.size]? = some (.cells (madeCells #[.int .u8 0] (L + 8)).toList.toArray 5 (0, 0)) := by rw [Array.toArray_toList]; exact heap_alloc_new w _
  have k2 : (l.map (Value.int .u8)).length = Nat.min L L := by simp [hl]
  have k3 : 0 < (l.map (Value.int .u8)).length → ∃ ad, a = some ad ∧ ∀ j v, (l.map (Value.int .u8))[j]? = some v → (w.alloc (.cells (madeCells #[.int .u8 0] (L + 8)) 5)).cell? (ad.add j) = some v :=
    fun h0 => (hb.below ((Below.refl _ _).alloc (Nat.le_refl _) _)).cells h0
  have k4 : 0 + (l.map (Value.int .u8)).length ≤ (madeCells #[.int .u8 0] (L + 8)).toList.length := by simp [hl, size_madeCells]
  have k5 : Below w.heap.size w (w.alloc (.cells (madeCells #[.int .u8 0] (L + 8)) 5)) := (Below.refl _ _).alloc (Nat.le_refl _) _
  have K1 := Lib.hid k1; have K2 := Lib.hid k2; have K3 := Lib.hid k3
  clear k1 k2 k3
  go_wp2_with (first
    | (go_at_call 171; refine (size64 _).mono ?_; rintro e w' ⟨rfl, rfl⟩)
    | ((with_reducible show wpList _ _ _ (⟨some 19, _, _, _, _, _⟩ :: _) _ _); refine wpList_copy_splice (o := ⟨some 19, _, _, _, _, _⟩) rfl (.tmp 17) (.tmp 18) 22 22 rfl 5 Tryz.underlying22 size_u8 (some ⟨w.heap.size, 0, none⟩) a L (L + 8) L cap rfl rfl w.heap.size 0 (madeCells #[.int .u8 0] (L + 8)).toList 5 K1.out (l.map (Value.int .u8)) K2.out (fun h0 => ⟨rfl, K3.out h0⟩) k4 (ints_oneCell _ _) w.heap.size w k5 (Nat.le_refl _) ?_; intro w1 hg1 hb1))
  have own1 : w1.ownsRow w.heap.size 5 1 (.slice (some ⟨w.heap.size, 0, none⟩) L (L + 8)) L (l.map (Value.int .u8)) := by
    refine ⟨by simp [hl], .inr ⟨w.heap.size, L + 8, _, rfl, Nat.le_refl _, hg1.out, by omega, by unfold maxLen; omega, ?_, ?_⟩⟩
    · simp [splice_all, hl, size_madeCells]
    · simp [splice_all, hl]
  have hsz1 : w.heap.size < w1.heap.size := (own1.lt w.heap.size rfl).2
  clear hg1 K1 K2 K3 k4 k5
  go_loopw [6, 22] (fun out i wr => ∃ k : Nat, k ≤ 8 ∧ i = .int .i64 k ∧ out = .slice (some ⟨w.heap.size, 0, none⟩) (L + k) (L + 8) ∧
      wr.ownsRow w.heap.size 5 1 (.slice (some ⟨w.heap.size, 0, none⟩) (L + k) (L + 8)) (L + k) ((l ++ (be 8 x).take k).map (Value.int .u8)) ∧ Below w.heap.size w wr ∧ w.heap.size < wr.heap.size)
    (fun _ i _ => 8 - (intOf i).toNat)
  case atStart => exact ⟨0, by omega, rfl, rfl, by simpa using own1, hb1, hsz1⟩
  case round =>
    obtain ⟨k, hk, rfl, rfl, hown, hbel, hsz⟩ := hrel
    by_cases hlt : k < 8
    · have hap := (hown.alloc (.cells #[.int .u8 (x / 2 ^ (8 * (7 - k)) % 256)] 5))
      have hn1 : ∀ j u, [Value.int .u8 (x / 2 ^ (8 * (7 - k)) % 256)][j]? = some u → (wr.alloc (.cells #[.int .u8 (x / 2 ^ (8 * (7 - k)) % 256)] 5)).cell? ((⟨wr.heap.size, 0, none⟩ : Addr).add j) = some u := by
        intro j u hj
        match j, hj with
        | 0, hj => simp at hj; subst hj; simp [Addr.add]
      have hn2 : ∀ u ∈ [Value.int .u8 (x / 2 ^ (8 * (7 - k)) % 256)], u.oneCell' = true := by intro u hu; simp at hu; subst hu; rfl
      have hbt := be_take_succ 8 x k hlt
      have HAP := Lib.hid hap; have HN1 := Lib.hid hn1; have HN2 := Lib.hid hn2; have HBT := Lib.hid hbt
      clear hap hn1 hn2 hbt
      obtain ⟨i5, hi, hz0, hz1, hz2⟩ := info_parts info5
      have HI := Lib.hid hi
      have HZ := Lib.hid hz1
      clear hi hz0 hz1 hz2
      go_wp2_with (((with_reducible show wpList _ _ _ (⟨some 35, _, _, _, _, _⟩ :: _) _ _); go_loud (refine wpList_append_fits _ rfl (.tmp 25) (.tmp 34) 22 rfl w.heap.size 5 i5 1 Tryz.underlying22 HI.out HZ.out w.heap.size (L + k) (L + 8) _ rfl HAP.out ⟨wr.heap.size, 0, none⟩ 1 1 [.int .u8 (x / 2 ^ (8 * (7 - k)) % 256)] rfl rfl HN1.out HN2.out (by omega) ?_); intro w2 hown2 hg2))
      go_roundw
      case rel =>
        refine ⟨k + 1, by omega, by go_num, rfl, ?_, ?_, ?_⟩
        · rw [HBT.out, ← List.append_assoc, List.map_append]
          exact hown2
        · exact (hbel.alloc (by omega) _).grown hg2 (by simp <;> omega) (fun g hg => by injection hg with hg; omega)
        · have := hg2.size; simp at this; omega
      case measure => simp [intOf] <;> omega
    · have : k = 8 := by omega
      subst this
      go_wp2
      go_ret
      refine ⟨_, rfl, ?_, hbel⟩
      have e : (be 8 x).take 8 = be 8 x := List.take_of_length_le (by rw [length_be]; exact Nat.le_refl _)
      rw [e] at hown
      exact hown
theorem allB_be (n : Nat) (x : Int) : AllB (be n x) := by
  intro v hv
  simp only [be, List.mem_map] at hv
  obtain ⟨i, _, rfl⟩ := hv
  exact ⟨Int.emod_nonneg _ (by omega), Int.emod_lt_of_pos _ (by omega)⟩
/-- Byte by byte, as long as the shorter one. -/
def xorL (a b : List Int) : List Int := List.zipWith (fun x y => ((x.toNat ^^^ y.toNat : Nat) : Int)) a b
theorem length_xorL (a b : List Int) : (xorL a b).length = min a.length b.length := by simp [xorL]
theorem xorL_getD {a b : List Int} {k : Nat} (h : k < min a.length b.length) : (xorL a b).getD k 0 = (((a.getD k 0).toNat ^^^ (b.getD k 0).toNat : Nat) : Int) := by
  have h1 : k < a.length := by omega
  have h2 : k < b.length := by omega
  simp [xorL, List.getD_eq_getElem?_getD, List.getElem?_zipWith, List.getElem?_eq_getElem h1, List.getElem?_eq_getElem h2]
theorem xor_bare (a b : Option Addr) (la ca lb cb : Nat) (x y : List Int) (w : World) (hx : x.length = la ∧ AllB x ∧ Bs w w.heap.size a x) (hy : y.length = lb ∧ AllB y ∧ Bs w w.heap.size b y) (hla : la ≤ 281474976710656) (hlb : lb ≤ 281474976710656) :
    Calls Tryz.prog 100 #[.slice a la ca, .slice b lb cb] w fun e w' => ∃ g, e = .returned (.slice (some ⟨g, 0, none⟩) (min la lb) (min la lb)) ∧
      w'.ownsRow w.heap.size 5 1 (.slice (some ⟨g, 0, none⟩) (min la lb) (min la lb)) (min la lb) ((xorL x y).map (Value.int .u8)) ∧ Below w.heap.size w w' := by
  obtain ⟨hxl, hxb, hxc⟩ := hx
  obtain ⟨hyl, hyb, hyc⟩ := hy
  have hl := length_xorL x y
  have wbx := allB_getD hxb
  have wby := allB_getD hyb
  have HWX := Lib.hid wbx
  have HWY := Lib.hid wby
  clear wbx wby
  by_cases hc : lb < la
  · have hmn : min la lb = lb := Nat.min_eq_right (by omega)
    rw [hmn]
    have HL := Lib.hid (show (xorL x y).length = lb by rw [hl, hxl, hyl, hmn])
    have HM := Lib.hid hmn
    clear hl hmn
    have hmk := run_make_row' (P := Tryz.prog) 22 5 (.int .u8 0) 1 Tryz.underlying22 info5 rfl .i64 .i64 lb (by omega) (by omega)
    have hO := own_made (w := w) (e := 5) (n := lb) (by unfold maxLen; omega)
    have HO := Lib.hid hO
    clear hO
    go_enter Tryz.func100, Tryz.ntmps100
    go_wp2
    go_loopw [15] (fun i wr => ∃ k : Nat, k ≤ lb ∧ i = .int .i64 k ∧ wr.ownsRow w.heap.size 5 1 (.slice (some ⟨w.heap.size, 0, none⟩) lb lb) lb ((part (xorL x y) k).map (Value.int .u8)) ∧ Below w.heap.size w wr)
      (fun i _ => lb - (intOf i).toNat)
    case atStart => exact ⟨0, Nat.zero_le _, rfl, by rw [part_zero, HL.out]; exact HO.out, (Below.refl _ _).alloc (Nat.le_refl _) _⟩
    case round =>
      obtain ⟨k, hk, rfl, hown, hbel⟩ := hrel
      clear hmk
      by_cases hlt : k < lb
      · obtain ⟨ba, oa, rfl, hba, hca⟩ := (hxc.below hbel).at_ (k := k) (by omega)
        obtain ⟨bb, ob, rfl, hbb, hcb⟩ := (hyc.below hbel).at_ (k := k) (by omega)
        have wx := HWX.out k
        have wy := HWY.out k
        have hcg := own_cells hown k hlt
        rw [Nat.zero_add] at hcg
        have hfz := hown.frozenAt k
        have hne1 : ba ≠ w.heap.size := by omega
        have hne2 : bb ≠ w.heap.size := by omega
        have hst := Lib.hid (part_set_own HL.out hlt hown)
        have hb2 := Lib.hid (hbel.setCell (p := ⟨w.heap.size, k, none⟩) (Nat.le_refl _) (.int .u8 ((xorL x y).getD k 0)))
        have hxe := Lib.hid (xorL_getD (a := x) (b := y) (k := k) (by omega))
        clear hown hbel hxc hyc
        have q1 : (k : Int) < (la : Int) := by omega
        have q2 : (k : Int) < (lb : Int) := by omega
        have q3 : (0 : Int) ≤ (k : Int) := by omega
        obtain ⟨X, hX⟩ : ∃ X, X = x.getD k 0 := ⟨_, rfl⟩
        obtain ⟨Y, hY⟩ : ∃ Y, Y = y.getD k 0 := ⟨_, rfl⟩
        rw [← hX] at hca wx hxe
        rw [← hY] at hcb wy hxe
        clear hX hY
        have hv : (xorL x y).getD k 0 = bits .xor .u8 X Y := by rw [hxe.out, u8_xor X Y wx.1 wx.2 wy.1 wy.2]
        rw [hv] at hst hb2
        clear hxe hv
        go_wp2_with fail
        go_still_tail 12, (by kernel_rfl)
        go_wp2
        go_roundw
        case rel => exact ⟨k + 1, by omega, by go_num, hst.out, hb2.out.drew⟩
        case measure => simp [intOf]; omega
      · obtain rfl : k = lb := by omega
        go_wp2
        go_ret
        refine ⟨_, rfl, ?_, hbel⟩
        have e := part_all (xorL x y)
        rw [HL.out] at e
        rw [e] at hown
        exact hown
  · have hmn : min la lb = la := Nat.min_eq_left (by omega)
    rw [hmn]
    have HL := Lib.hid (show (xorL x y).length = la by rw [hl, hxl, hyl, hmn])
    have HM := Lib.hid hmn
    clear hl hmn
    have hmk := run_make_row' (P := Tryz.prog) 22 5 (.int .u8 0) 1 Tryz.underlying22 info5 rfl .i64 .i64 la (by omega) (by omega)
    have hO := own_made (w := w) (e := 5) (n := la) (by unfold maxLen; omega)
    have HO := Lib.hid hO
    clear hO
    go_enter Tryz.func100, Tryz.ntmps100
    go_wp2
    go_loopw [15] (fun i wr => ∃ k : Nat, k ≤ la ∧ i = .int .i64 k ∧ wr.ownsRow w.heap.size 5 1 (.slice (some ⟨w.heap.size, 0, none⟩) la la) la ((part (xorL x y) k).map (Value.int .u8)) ∧ Below w.heap.size w wr)
      (fun i _ => la - (intOf i).toNat)
    case atStart => exact ⟨0, Nat.zero_le _, rfl, by rw [part_zero, HL.out]; exact HO.out, (Below.refl _ _).alloc (Nat.le_refl _) _⟩
    case round =>
      obtain ⟨k, hk, rfl, hown, hbel⟩ := hrel
      clear hmk
      by_cases hlt : k < la
      · obtain ⟨ba, oa, rfl, hba, hca⟩ := (hxc.below hbel).at_ (k := k) (by omega)
        obtain ⟨bb, ob, rfl, hbb, hcb⟩ := (hyc.below hbel).at_ (k := k) (by omega)
        have wx := HWX.out k
        have wy := HWY.out k
        have hcg := own_cells hown k hlt
        rw [Nat.zero_add] at hcg
        have hfz := hown.frozenAt k
        have hne1 : ba ≠ w.heap.size := by omega
        have hne2 : bb ≠ w.heap.size := by omega
        have hst := Lib.hid (part_set_own HL.out hlt hown)
        have hb2 := Lib.hid (hbel.setCell (p := ⟨w.heap.size, k, none⟩) (Nat.le_refl _) (.int .u8 ((xorL x y).getD k 0)))
        have hxe := Lib.hid (xorL_getD (a := x) (b := y) (k := k) (by omega))
        clear hown hbel hxc hyc
        have q1 : (k : Int) < (la : Int) := by omega
        have q2 : (k : Int) < (lb : Int) := by omega
        have q3 : (0 : Int) ≤ (k : Int) := by omega
        obtain ⟨X, hX⟩ : ∃ X, X = x.getD k 0 := ⟨_, rfl⟩
        obtain ⟨Y, hY⟩ : ∃ Y, Y = y.getD k 0 := ⟨_, rfl⟩
        rw [← hX] at hca wx hxe
        rw [← hY] at hcb wy hxe
        clear hX hY
        have hv : (xorL x y).getD k 0 = bits .xor .u8 X Y := by rw [hxe.out, u8_xor X Y wx.1 wx.2 wy.1 wy.2]
        rw [hv] at hst hb2
        clear hxe hv
        go_wp2_with fail
        go_still_tail 12, (by kernel_rfl)
        go_wp2
        go_roundw
        case rel => exact ⟨k + 1, by omega, by go_num, hst.out, hb2.out.drew⟩
        case measure => simp [intOf]; omega
      · obtain rfl : k = la := by omega
        go_wp2
        go_ret
        refine ⟨_, rfl, ?_, hbel⟩
        have e := part_all (xorL x y)
        rw [HL.out] at e
        rw [e] at hown
        exact hown
theorem xor_any (a b : Option Addr) (la ca lb cb : Nat) (x y : List Int) (w : World) (hx : Arg8 w a la ca x) (hy : Arg8 w b lb cb y) (hla : la ≤ 281474976710656) (hlb : lb ≤ 281474976710656) :
    Calls Tryz.prog 100 #[.slice a la ca, .slice b lb cb] w fun e w' => ∃ g, e = .returned (.slice (some ⟨g, 0, none⟩) (min la lb) (min la lb)) ∧
      w'.ownsRow w.heap.size 5 1 (.slice (some ⟨g, 0, none⟩) (min la lb) (min la lb)) (min la lb) ((xorL x y).map (Value.int .u8)) ∧ Below w.heap.size w w' :=
  xor_bare a b la ca lb cb x y w ⟨hx.1, hx.2.1, hx.2.2.1⟩ ⟨hy.1, hy.2.1, hy.2.2.1⟩ hla hlb
end Go.Proofs.YtappfdbmhgifcaaGreatDoor
/- A cipher's stream as lists: plain maths. -/
namespace Go.Proofs.YtappfdbmhgifcaaGreatDoor
open Go.ChangeShapes Go.WideShapes Go.ChangeAt Go.RowKit
set_option linter.unusedVariables false
set_option maxRecDepth 100000

/-- Blocks, so many, from a counter on. -/
def blks (f : Nat → List Int) (c : Nat) : Nat → List Int
  | 0 => []
  | m + 1 => blks f c m ++ f (c + m)
theorem length_blks {f : Nat → List Int} (hf : ∀ c, (f c).length = 16) (c : Nat) : ∀ m, (blks f c m).length = 16 * m
  | 0 => rfl
  | m + 1 => by rw [blks, List.length_append, length_blks hf c m, hf]; omega
/-- The stream's byte at a place. -/
def sb (f : Nat → List Int) (p : Nat) : Int := (f (p / 16)).getD (p % 16) 0
/-- Bytes of the stream, so many, from a place on. -/
def stL (f : Nat → List Int) (at_ n : Nat) : List Int := (List.range n).map fun i => sb f (at_ + i)
theorem length_stL (f : Nat → List Int) (at_ n : Nat) : (stL f at_ n).length = n := by simp [stL]
theorem getD_stL (f : Nat → List Int) (at_ : Nat) {n i : Nat} (h : i < n) : (stL f at_ n).getD i 0 = sb f (at_ + i) := by
  simp [stL, List.getD_eq_getElem?_getD, List.getElem?_map, List.getElem?_range h]
theorem sb_bd {f : Nat → List Int} (hB : ∀ c, AllB (f c)) (p : Nat) : 0 ≤ sb f p ∧ sb f p < 256 := allB_getD (hB _) _
theorem allB_stL {f : Nat → List Int} (hB : ∀ c, AllB (f c)) (at_ n : Nat) : AllB (stL f at_ n) := fun x hx => by
  simp only [stL, List.mem_map] at hx
  obtain ⟨i, _, rfl⟩ := hx
  exact sb_bd hB _
theorem blks_getD {f : Nat → List Int} (hf : ∀ c, (f c).length = 16) (c : Nat) : ∀ m i, i < 16 * m → (blks f c m).getD i 0 = sb f (16 * c + i)
  | 0, i, h => by omega
  | m + 1, i, h => by
    rw [blks, List.getD_eq_getElem?_getD]
    by_cases e : i < 16 * m
    · rw [List.getElem?_append_left (by rw [length_blks hf]; exact e), ← List.getD_eq_getElem?_getD]
      exact blks_getD hf c m i e
    · rw [List.getElem?_append_right (by rw [length_blks hf]; omega), length_blks hf, ← List.getD_eq_getElem?_getD]
      unfold sb
      rw [show (16 * c + i) / 16 = c + m by omega, show (16 * c + i) % 16 = i - 16 * m by omega]
theorem blks_part {f : Nat → List Int} (hf : ∀ c, (f c).length = 16) (at_ n m : Nat) (h : at_ % 16 + n ≤ 16 * m) : ((blks f (at_ / 16) m).drop (at_ % 16)).take n = stL f at_ n := by
  refine list_ext_getD (by rw [List.length_take, List.length_drop, length_blks hf, length_stL]; omega) (fun i hi => ?_)
  have hi' : i < n := by rw [List.length_take] at hi; omega
  rw [getD_stL f at_ hi', List.getD_eq_getElem?_getD, List.getElem?_take_of_lt hi', List.getElem?_drop, ← List.getD_eq_getElem?_getD, blks_getD hf _ _ _ (by omega), show 16 * (at_ / 16) + (at_ % 16 + i) = at_ + i by omega]
/-- The block of a counter under a key and a nonce. -/
def strf (K N : List Int) (c : Nat) : List Int := encL (K.length / 4 + 6) (keyW K) (N ++ be 8 (c : Int))
theorem strf_len (K N : List Int) : ∀ c, (strf K N c).length = 16 := fun c => length_encL _ _ _
theorem strf_B {K : List Int} (hK : AllB K) (N : List Int) : ∀ c, AllB (strf K N c) := fun c => allB_encL (keyW_bd hK) _ _
theorem xorL_B (a b : List Int) (ha : AllB a) (hb : AllB b) : AllB (xorL a b) := by
  intro x hx
  obtain ⟨i, hi, rfl⟩ := List.getElem_of_mem hx
  have h1 := xorL_getD (a := a) (b := b) (k := i) (by rw [length_xorL] at hi; exact hi)
  rw [List.getD_eq_getElem?_getD, List.getElem?_eq_getElem hi] at h1
  simp only [Option.getD_some] at h1
  rw [h1]
  have h2 := allB_getD ha i
  have h3 := allB_getD hb i
  have := Nat.xor_lt_two_pow (n := 8) (show (a.getD i 0).toNat < 2 ^ 8 by omega) (show (b.getD i 0).toNat < 2 ^ 8 by omega)
  omega
theorem xorL_twice {a b : List Int} (h : a.length = b.length) (ha : AllB a) : xorL (xorL a b) b = a := by
  refine list_ext_getD (by rw [length_xorL, length_xorL]; omega) (fun i hi => ?_)
  rw [length_xorL, length_xorL] at hi
  rw [xorL_getD (by rw [length_xorL]; omega), xorL_getD (by omega), Int.toNat_natCast, Nat.xor_assoc, Nat.xor_self, Nat.xor_zero]
  have := allB_getD ha i
  omega
end Go.Proofs.YtappfdbmhgifcaaGreatDoor
/- The contract of stream.blocks. -/
namespace Go.Proofs.YtappfdbmhgifcaaGreatDoor
open Go.ChangeShapes Go.WideShapes Go.ChangeAt Go.RowKit
set_option linter.unusedVariables false
set_option maxRecDepth 100000

theorem own_room (w : World) (n : Nat) (h : n ≤ maxLen) : (w.alloc (.cells (madeCells #[.int .u8 0] n) 5)).ownsRow w.heap.size 5 1 (.slice (some ⟨w.heap.size, 0, none⟩) 0 n) 0 (([] : List Int).map (Value.int .u8)) := by
  refine ⟨by simp, .inr ⟨w.heap.size, n, madeCells #[.int .u8 0] n, rfl, Nat.le_refl _, heap_alloc_new w _, by omega, h, ?_, by simp⟩⟩
  · simp [size_madeCells]
set_option maxHeartbeats 2000000 in
theorem blocks_ok (b : Nat) (K : List Int) (a : Option Addr) (cap : Nat) (N : List Int) (c n M : Nat) (w : World) (h : CipK w b K) (hk : K.length = 16 ∨ K.length = 32) (hK : AllB K) (hN : Arg8 w a 8 cap N)
    (hc : c ≤ 67108864) (hn : n ≤ 1048592) (hM1 : n ≤ 16 * M) (hM2 : 16 * M < n + 16) :
    Calls Tryz.prog 150 #[.pointer (some ⟨b, 0, none⟩), .slice a (8 : Nat) cap, .int .i64 (c : Nat), .int .i64 (n : Nat)] w fun e w' =>
      e = .returned (.tuple #[.slice (some ⟨w.heap.size, 0, none⟩) (16 * M) (n + 16), .int .i64 0]) ∧
      w'.ownsRow w.heap.size 5 1 (.slice (some ⟨w.heap.size, 0, none⟩) (16 * M) (n + 16)) (16 * M) ((blks (strf K N) c M).map (Value.int .u8)) ∧ Below w.heap.size w w' := by
  have hmk : ∀ W : World, (Instr.makeSlice 22 (.int .i64 0) (.int .i64 ((n : Int) + 16))).run Tryz.prog W = .ok (.slice (some ⟨W.heap.size, 0, none⟩) 0 (n + 16)) (W.alloc (.cells (madeCells #[.int .u8 0] (n + 16)) 5)) := by
    intro W
    obtain ⟨i, hi, hz0, hz1, hz2⟩ := info_parts info5
    have := run_make (P := Tryz.prog) W 22 5 i _ Tryz.underlying22 hi hz0 .i64 .i64 0 ((n : Int) + 16) (by omega) (by omega) (by rw [hz2]; omega) (by omega)
    rw [this, hz1]
    have e1 : ((n : Int) + 16).toNat = n + 16 := by omega
    rw [e1]; simp
    rfl
  have HO := Lib.hid (own_room w (n + 16) (by unfold maxLen; omega))
  have HB0 := Lib.hid (show Below w.heap.size w (w.alloc (.cells (madeCells #[.int .u8 0] (n + 16)) 5)) from (Below.refl _ _).alloc (Nat.le_refl _) _)
  have HC := Lib.hid h
  have HN := Lib.hid hN
  have HK := Lib.hid hk
  have HKB := Lib.hid hK
  have HNL := Lib.hid (show N.length = 8 from hN.1)
  have HNB := Lib.hid (show AllB N from hN.2.1)
  clear h hk hK hN
  go_enter Tryz.func150, Tryz.ntmps150
  go_wp2_with fail
  go_loopw [2, 10] (fun ct out wr => ∃ m : Nat, m ≤ M ∧ ct = .int .i64 ((c + m : Nat) : Int) ∧ out = .slice (some ⟨w.heap.size, 0, none⟩) (16 * m) (n + 16) ∧
      wr.ownsRow w.heap.size 5 1 (.slice (some ⟨w.heap.size, 0, none⟩) (16 * m) (n + 16)) (16 * m) ((blks (strf K N) c m).map (Value.int .u8)) ∧ Below w.heap.size w wr)
    (fun ct _ _ => c + M - (intOf ct).toNat)
  case atStart => exact ⟨0, Nat.zero_le _, rfl, rfl, HO.out, HB0.out⟩
  case round =>
    obtain ⟨m, hm, rfl, rfl, hown, hbel⟩ := hrel
    rename World => wr
    clear hmk
    have HOW := Lib.hid hown
    have HBW := Lib.hid hbel
    clear hown hbel HO HB0
    by_cases hlt : m < M
    · have HNR := Lib.hid (HN.out.on HBW.out)
      have HNS := Lib.hid (show Bs wr wr.heap.size a N from HNR.out.2.2.1)
      have HCR := Lib.hid (HC.out.on HBW.out)
      have q1 : (16 * (m : Int)) < (n : Int) := by omega
      have q2 : 0 ≤ (c : Int) + (m : Int) := by omega
      have q3 : (c : Int) + (m : Int) ≤ 134217728 := by omega
      have HWF := Lib.hid (show (Lit.int .u64 ((c : Int) + (m : Int))).wf = true by simp [Lit.wf, IntKind.min, IntKind.max, IntKind.signed, IntKind.bits]; omega)
      have HBE := Lib.hid (show be 8 ((c : Int) + (m : Int)) = be 8 ((c + m : Nat) : Int) by rw [Int.natCast_add])
      go_wp2_with (first
        | (go_at_call 152; go_loud ((with_reducible refine (put64 a 8 cap N wr HNL.out HNS.out (by omega) _ HWF.out).mono ?_); rintro e w1 ⟨g1, rfl, ho, hb⟩; rw [HBE.out] at ho; have HA1 := Lib.hid (show Arg8 w1 (some ⟨g1, 0, none⟩) 16 16 (N ++ be 8 ((c + m : Nat) : Int)) from Arg8.own ho (fun x hx => (List.mem_append.1 hx).elim (HNB.out x) (allB_be _ _ x)) ⟨Nat.le_refl _, by unfold maxLen; omega⟩); have HO1 := Lib.hid (own_belowK HOW.out hb); have HC1 := Lib.hid (HCR.out.on hb); have HB1 := Lib.hid (bt HBW.out hb); clear ho hb))
        | (go_at_call 168; (with_reducible refine (enc_arg b K (some ⟨g1, 0, none⟩) 16 _ w1 HC1.out HK.out HKB.out HA1.out).mono ?_); rintro e w2 ⟨g2, rfl, ho, hb⟩; have HE2 := Lib.hid (show w2.ownsRow w1.heap.size 5 1 (.slice (some ⟨g2, 0, none⟩) 16 16) 16 ((strf K N (c + m)).map (Value.int .u8)) from ho); have HO2 := Lib.hid (own_belowK HO1.out hb); have HB2 := Lib.hid (bt HB1.out hb); clear ho hb; have HN1 := Lib.hid (show ∀ j u, ((strf K N (c + m)).map (Value.int .u8))[j]? = some u → w2.cell? ((⟨g2, 0, none⟩ : Addr).add j) = some u from fun j u hj => by (obtain ⟨hj1, rfl⟩ := getElem?_map_u8 hj; rw [Addr.add_lit]; exact own_cells HE2.out j (by rw [strf_len] at hj1; exact hj1))); obtain ⟨i5, hi, hz0, hz1, hz2⟩ := info_parts info5; have HI := Lib.hid hi; have HZ := Lib.hid hz1; clear hi hz0 hz1 hz2)
        | ((with_reducible show wpList _ _ _ (⟨some 34, _, _, _, _, _⟩ :: _) _ _); go_loud (refine wpList_append_fits (o := ⟨some 34, _, _, _, _, _⟩) _ rfl (.tmp 32) (.tmp 33) 22 rfl w.heap.size 5 i5 1 Tryz.underlying22 HI.out HZ.out w.heap.size (16 * m) (n + 16) _ rfl HO2.out ⟨g2, 0, none⟩ 16 16 ((strf K N (c + m)).map (Value.int .u8)) rfl (by rw [List.length_map, strf_len]) HN1.out (ints_oneCell _ _) (by omega) ?_); intro w3 ho3 hg3; have HO3 := Lib.hid ho3; have HG3 := Lib.hid hg3; clear ho3 hg3))
      go_roundw
      case rel =>
        refine ⟨m + 1, by omega, by go_num, by rw [show 16 * (m + 1) = 16 * m + 16 by omega], ?_, ?_⟩
        · rw [show 16 * (m + 1) = 16 * m + 16 by omega, blks, List.map_append]
          exact HO3.out
        · exact HB2.out.grown HG3.out (by have := HB2.out.size; omega) (fun g hg => by injection hg with hg; omega)
      case measure => simp [intOf]; omega
    · obtain rfl : m = M := by omega
      have q1 : ¬ (16 * (m : Int)) < (n : Int) := by omega
      go_wp2
      go_ret2
      exact ⟨rfl, HOW.out, HBW.out⟩
end Go.Proofs.YtappfdbmhgifcaaGreatDoor
/- Contracts of stream.Bytes and stream.Xor. -/
namespace Go.Proofs.YtappfdbmhgifcaaGreatDoor
open Go.ChangeShapes Go.WideShapes Go.ChangeAt Go.RowKit
set_option linter.unusedVariables false
set_option maxRecDepth 100000

theorem cip_of_k {w : World} {b : Nat} {K : List Int} (h : CipK w b K) (hk : K.length = 16 ∨ K.length = 32) : ∃ n : Nat, (n : Int) ≠ 0 ∧ Cip w b n (keyW K) := ⟨K.length / 4 + 6, by omega, h⟩
set_option maxHeartbeats 1000000 in
theorem bytes_ok (b : Nat) (K : List Int) (a : Option Addr) (cap : Nat) (N : List Int) (at_ n : Nat) (w : World) (h : CipK w b K) (hk : K.length = 16 ∨ K.length = 32) (hK : AllB K) (hN : Arg8 w a 8 cap N)
    (ha : at_ ≤ 1073741824) (hn : n ≤ 1048576) :
    Calls Tryz.prog 127 #[.pointer (some ⟨b, 0, none⟩), .slice a (8 : Nat) cap, .int .i64 (at_ : Nat), .int .i64 (n : Nat)] w fun e w' => ∃ g o, e = .returned (.tuple #[.slice (some ⟨g, o, none⟩) n n, .int .i64 0]) ∧
      Arg8 w' (some ⟨g, o, none⟩) n n (stL (strf K N) at_ n) ∧ Below w.heap.size w w' := by
  obtain ⟨rn, hrn, hcp⟩ := cip_of_k h hk
  have HC := Lib.hid hcp
  have q1 : ((rn : Int) == 0) = false := by simpa using hrn
  obtain ⟨c, hc⟩ : ∃ c, c = at_ / 16 := ⟨_, rfl⟩
  obtain ⟨f, hf⟩ : ∃ f, f = at_ % 16 := ⟨_, rfl⟩
  obtain ⟨M, hM⟩ : ∃ M, M = (f + n + 15) / 16 := ⟨_, rfl⟩
  have q2 : (at_ : Int) / 16 = (c : Int) := by omega
  have q3 : (at_ : Int) % 16 = (f : Int) := by omega
  have q4 : ¬ (at_ : Int) < 0 := by omega
  have q5 : ¬ (1073741824 : Int) < (at_ : Int) := by omega
  have q6 : ¬ (1048576 : Int) < (n : Int) := by omega
  have hf16 : f < 16 := by omega
  have HBK := Lib.hid (show ∀ z : Int, z = ((f + n : Nat) : Int) → ∀ V, CipK V b K → Arg8 V a 8 cap N → Calls Tryz.prog 150 #[.pointer (some ⟨b, 0, none⟩), .slice a (8 : Nat) cap, .int .i64 (c : Nat), .int .i64 z] V fun e w' =>
      e = .returned (.tuple #[.slice (some ⟨V.heap.size, 0, none⟩) (16 * M) (f + n + 16), .int .i64 0]) ∧
      w'.ownsRow V.heap.size 5 1 (.slice (some ⟨V.heap.size, 0, none⟩) (16 * M) (f + n + 16)) (16 * M) ((blks (strf K N) c M).map (Value.int .u8)) ∧ Below V.heap.size V w' from
    fun z hz V hv hn => by rw [hz]; exact blocks_ok b K a cap N c (f + n) M V hv hk hK hn (by omega) (by omega) (by omega) (by omega))
  have HL := Lib.hid (show f + n ≤ 16 * M ∧ 16 * M < f + n + 16 by omega)
  have HPT := Lib.hid (show ((blks (strf K N) c M).drop f).take n = stL (strf K N) at_ n by rw [hc, hf]; exact blks_part (strf_len K N) at_ n M (by omega))
  have HSB := Lib.hid (allB_stL (strf_B hK N) at_ n)
  have HCK := Lib.hid h
  have HN := Lib.hid hN
  clear hc hf hM h hk hK hN hrn hcp
  by_cases hn0 : n = 0
  · subst hn0
    go_enter Tryz.func127, Tryz.ntmps127
    go_wp2_with (first
      | (go_at_call 149; (with_reducible refine (rounds_cip b rn (keyW K) _ HC.out).mono ?_); rintro e w1 ⟨rfl, rfl⟩)
      | (go_at_call 150; go_loud ((with_reducible refine (HBK.out (f : Int) (by omega) w HCK.out HN.out).mono ?_); rintro e w1 ⟨rfl, ho, hb⟩; have HO1 := Lib.hid ho; have HB1 := Lib.hid hb; clear ho hb)))
    go_ret2
    exact ⟨_, _, rfl, ⟨length_stL _ _ _, HSB.out, fun h0 => absurd h0 (by rw [length_stL]; omega), Nat.le_refl _, Nat.zero_le _⟩, HB1.out⟩
  · have hn1 : 0 < n := by omega
    go_enter Tryz.func127, Tryz.ntmps127
    go_wp2_with (first
      | (go_at_call 149; (with_reducible refine (rounds_cip b rn (keyW K) _ HC.out).mono ?_); rintro e w1 ⟨rfl, rfl⟩)
      | (go_at_call 150; go_loud ((with_reducible refine (HBK.out ((f : Int) + (n : Int)) (Int.natCast_add f n).symm w HCK.out HN.out).mono ?_); rintro e w1 ⟨rfl, ho, hb⟩; have HO1 := Lib.hid ho; have HB1 := Lib.hid hb; clear ho hb)))
    go_ret2
    refine ⟨w.heap.size, f, (show Ending.returned (.tuple #[.slice (some ⟨w.heap.size, f, none⟩) (f + n - f) (f + n - f), .int .i64 0]) = _ by rw [Nat.add_sub_cancel_left]), ⟨length_stL _ _ _, HSB.out, ?_, Nat.le_refl _, by unfold maxLen; omega⟩, HB1.out⟩
    intro h0
    refine ⟨_, _, rfl, (own_caps HO1.out).2.2.2.2, fun i hi => ?_⟩
    rw [length_stL] at hi
    have hci := own_cells HO1.out (f + i) (by have := HL.out; omega)
    rw [Nat.zero_add] at hci
    rw [hci, ← HPT.out, List.getD_eq_getElem?_getD, List.getD_eq_getElem?_getD, List.getElem?_take_of_lt hi, List.getElem?_drop]
set_option maxHeartbeats 1000000 in
theorem sxor_ok (b : Nat) (K : List Int) (a : Option Addr) (cap : Nat) (N : List Int) (a2 : Option Addr) (n c2 : Nat) (l : List Int) (w : World) (h : CipK w b K) (hk : K.length = 16 ∨ K.length = 32) (hK : AllB K) (hN : Arg8 w a 8 cap N)
    (hx : Arg8 w a2 n c2 l) (hn : n ≤ 1048576) :
    Calls Tryz.prog 106 #[.pointer (some ⟨b, 0, none⟩), .slice a (8 : Nat) cap, .slice a2 n c2] w fun e w' => ∃ g, e = .returned (.tuple #[.slice (some ⟨g, 0, none⟩) n n, .int .i64 0]) ∧
      Arg8 w' (some ⟨g, 0, none⟩) n n (xorL l (stL (strf K N) 0 n)) ∧ Below w.heap.size w w' := by
  have HBY := Lib.hid (show Calls Tryz.prog 127 #[.pointer (some ⟨b, 0, none⟩), .slice a (8 : Nat) cap, .int .i64 0, .int .i64 (n : Nat)] w fun e w' => ∃ g o, e = .returned (.tuple #[.slice (some ⟨g, o, none⟩) n n, .int .i64 0]) ∧
      Arg8 w' (some ⟨g, o, none⟩) n n (stL (strf K N) 0 n) ∧ Below w.heap.size w w' from bytes_ok b K a cap N 0 n w h hk hK hN (by omega) hn)
  have HX := Lib.hid hx
  have HSB := Lib.hid (xorL_B l (stL (strf K N) 0 n) hx.2.1 (allB_stL (strf_B hK N) 0 n))
  clear h hk hK hN hx
  go_enter Tryz.func106, Tryz.ntmps106
  go_wp2_with (first
    | (go_at_call 127; go_loud ((with_reducible refine HBY.out.mono ?_); rintro e w1 ⟨g1, o1, rfl, hs, hb⟩; have HS1 := Lib.hid hs; have HB1 := Lib.hid hb; have HX1 := Lib.hid (HX.out.on hb); clear hs hb))
    | (go_at_call 100; go_loud ((with_reducible refine (xor_any a2 (some ⟨g1, o1, none⟩) n c2 n n l (stL (strf K N) 0 n) w1 HX1.out HS1.out (by omega) (by omega)).mono ?_); rintro e w2 ⟨g2, rfl, ho, hb⟩; have HO2 := Lib.hid ho; have HB2 := Lib.hid (bt HB1.out hb); clear ho hb)))
  have HO3 := HO2.out
  rw [Nat.min_self] at HO3
  have HA3 := Lib.hid (Arg8.own HO3 HSB.out ⟨Nat.le_refl _, by unfold maxLen; omega⟩)
  clear HO3
  go_ret2
  exact ⟨g2, rfl, HA3.out, HB2.out⟩
end Go.Proofs.YtappfdbmhgifcaaGreatDoor
/- Contracts of package word's Bits and Turn, at all four widths. -/
namespace Go.Proofs.YtappfdbmhgifcaaGreatDoor
open Go.ChangeShapes Go.WideShapes Go.ChangeAt Go.RowKit
set_option linter.unusedVariables false

theorem mk_u32 {x : Int} (h0 : 0 ≤ x) (h1 : x < 2 ^ 32) : (Lit.int .u32 x).wf = true := by simp [Lit.wf, IntKind.min, IntKind.max, IntKind.signed, IntKind.bits]; omega
theorem mk_u64 {x : Int} (h0 : 0 ≤ x) (h1 : x < 2 ^ 64) : (Lit.int .u64 x).wf = true := by simp [Lit.wf, IntKind.min, IntKind.max, IntKind.signed, IntKind.bits]; omega
theorem mk_i64 {x : Int} (h0 : -9223372036854775808 ≤ x) (h1 : x ≤ 9223372036854775807) : (Lit.int .i64 x).wf = true := by simp [Lit.wf, IntKind.min, IntKind.max, IntKind.signed, IntKind.bits]; omega
end Go.Proofs.YtappfdbmhgifcaaGreatDoor
