/- The document's power and above (layer 7). -/
import Derived.Test.YtmcoakjbfgfgpaaDoorRows
import Derived.Test.YtmcoakjbfgfgpaaDoorHm
import Derived.Test.YtmcoakjbfgfgpaaDoorHw
import Derived.BigQuiet
import Derived.BigRegion
import Derived.Deep.CutRange
import Derived.Deep.RegionWith
import Derived.Deep.DrawnRows
import Derived.StillTailTactics
import Derived.Deep.QuietTactic
import Derived.Lib.Hide
import Derived.OpenShut
import Derived.ProofKit
import Derived.WalkKit
namespace Go.Proofs.YtmcoakjbfgfgpaaDoor
open Go.ChangeShapes Go.WideShapes Go.ChangeAt Go.RowKit
set_option linter.unusedVariables false
set_option maxRecDepth 100000

theorem info64 : (Tryd.prog.info? 33).map (fun i => (i.zero, i.size, i.bytes)) = some (some (.int .u64 0), 1, 8) := by kernel_rfl
set_option maxHeartbeats 2000000 in
theorem power_any (x N : Nat) (hx : x < 281474976710656) (hN : N ≤ 3) (w : World) :
    Calls Tryd.prog 22 #[.int .u64 (x : Nat), .int .i64 (N : Nat)] w fun e w' => ∃ a c O, e = .returned (.slice a (List.length O) c) ∧ A64 w' a O.length c O ∧ Dig O ∧ dv O = x ^ N ∧ O.length ≤ 10 ∧ Below w.heap.size w w' := by
  obtain ⟨i6, hi, hz0, hz1, hz2⟩ := info_parts info64
  have HI := Lib.hid hi
  have HZ0 := Lib.hid hz0
  have HZ1 := Lib.hid hz1
  have HZ2 := Lib.hid hz2
  have HXX := Lib.hid hx
  have hxq : (x : Int) < 281474976710656 := by omega
  clear hi hz0 hz1 hz2 hx
  have H1 := Lib.hid (own64 (own_one64 w 33 1))
  have HB1 := Lib.hid (show Below w.heap.size w (w.alloc (.cells #[.int .u64 ((1 : Nat) : Int)] 33)) from (Below.refl _ _).alloc (Nat.le_refl _) _)
  go_enter Tryd.func22, Tryd.ntmps22
  go_wp2_with fail
  go_loopw [1, 5] (fun q out V => ∃ (j : Nat) (a : Option Addr) (c : Nat) (O : List Nat), j ≤ N ∧ q = .int .i64 ((N - j : Nat) : Int) ∧ out = .slice a O.length c ∧ A64 V a O.length c O ∧ Dig O ∧ dv O = x ^ j ∧ O.length ≤ 3 * j + 1 ∧ Below w.heap.size w V) (fun q _ _ => (intOf q).toNat)
  case atStart => exact ⟨0, _, _, [1], by omega, rfl, rfl, H1.out, (fun y hy => by rw [List.mem_singleton.1 hy]; omega), rfl, by decide, HB1.out⟩
  case round =>
    obtain ⟨j, a, c, O, hj, rfl, rfl, h1, h2, h3, h4, h5⟩ := hrel
    rename World => V
    have HA := Lib.hid h1
    have HD := Lib.hid h2
    have HV := Lib.hid h3
    have HL := Lib.hid h4
    have HBV := Lib.hid h5
    clear h1 h2 h3 h4 h5 H1 HB1
    by_cases hlt : j < N
    · obtain ⟨M, hM⟩ : ∃ M, M = O.length := ⟨_, rfl⟩
      obtain ⟨K, hK⟩ : ∃ K, K = N - j := ⟨_, rfl⟩
      have hK0 : 0 < K := by omega
      have hK3 : (K : Int) ≤ 3 := by omega
      have hK1 : 1 ≤ (K : Int) := by omega
      have hM10 : M ≤ 10 := by have := HL.out; omega
      have HM := Lib.hid hM
      have HK := Lib.hid hK
      rw [← hM] at HA ⊢
      rw [← hK]
      clear hM hK
      have HE := Lib.hid (own_empty64 V 33)
      have HBE := Lib.hid (show Below V.heap.size V (V.alloc (.cells #[] 33)) from (Below.refl _ _).alloc (Nat.le_refl _) _)
      go_wp2_with fail
      go_loopw [6, 7, 8] (fun nx cy q U => ∃ (i : Nat) (cc : Nat) (a2 : Option Addr) (c2 : Nat) (X : List Nat), q = .int .i64 (i : Nat) ∧ cy = .int .u64 (cc : Nat) ∧ nx = .slice a2 i c2 ∧ U.ownsRow V.heap.size 33 1 (.slice a2 i c2) i (v64 X) ∧ Dig X ∧ i ≤ M + 3 ∧ cc ≤ x ∧ (M ≤ i → cc * 65536 ^ (i - M) ≤ x) ∧ dv X + cc * 65536 ^ i = x * dv (O.take i) ∧ Below V.heap.size V U) (fun _ _ q _ => 14 - (intOf q).toNat)
      case atStart => exact ⟨0, 0, _, _, [], rfl, rfl, rfl, HE.out, (fun y hy => by cases hy), by omega, by omega, by omega, by simp [dv], HBE.out⟩
      case round =>
        obtain ⟨i, cc, a2, c2, X, rfl, rfl, rfl, h1, h2, h3, h4, h5, h6, h7⟩ := hrel
        have HO := Lib.hid h1
        have HDX := Lib.hid h2
        have HIM := Lib.hid h3
        have HCX := Lib.hid h4
        have HCP := Lib.hid h5
        have HEQ := Lib.hid h6
        have HBU := Lib.hid h7
        clear h1 h2 h3 h4 h5 h6 h7 HE HBE
        rename World => U
        have HAU := Lib.hid (HA.out.on HBU.out)
        by_cases hcont : i < M ∨ 0 < cc
        · have hi13 : i ≤ 12 := by
            rcases hcont with h | h
            · omega
            · by_cases hMi : M ≤ i
              · have h1 := HCP.out hMi
                have h2 : 65536 ^ (i - M) ≤ cc * 65536 ^ (i - M) := Nat.le_mul_of_pos_left _ h
                have h3 : 65536 ^ (i - M) < 65536 ^ 3 := Nat.lt_of_le_of_lt (Nat.le_trans h2 h1) (Nat.lt_of_lt_of_le HXX.out (by decide))
                have h4 := (Nat.pow_lt_pow_iff_right (show 1 < 65536 by omega)).1 h3
                omega
              · omega
          have hIM2 : i + 1 ≤ M + 3 := by
            rcases hcont with h | h
            · omega
            · by_cases hMi : M ≤ i
              · have h1 := HCP.out hMi
                have h2 : 65536 ^ (i - M) ≤ cc * 65536 ^ (i - M) := Nat.le_mul_of_pos_left _ h
                have h3 : 65536 ^ (i - M) < 65536 ^ 3 := Nat.lt_of_le_of_lt (Nat.le_trans h2 h1) (Nat.lt_of_lt_of_le HXX.out (by decide))
                have h4 := (Nat.pow_lt_pow_iff_right (show 1 < 65536 by omega)).1 h3
                omega
              · omega
          have HIM2 := Lib.hid hIM2
          have hd := HD.out.getD i
          by_cases hiM : i < M
          · obtain ⟨b, off, rfl, hbl, hcell⟩ := HAU.out.at_ hiM
            obtain ⟨d, hdd⟩ : ∃ d, d = O.getD i 0 := ⟨_, rfl⟩
            rw [← hdd] at hcell hd
            have hmul : d * x ≤ 65535 * 281474976710655 := Nat.mul_le_mul (by omega) (by have := HXX.out; omega)
            have hcq := HCX.out
            have HST := Lib.hid (dv_step (by have := HO.out.1; rw [v64_len] at this; omega) HEQ.out (c1 := cc + d * x) (by rw [hdd]))
            have HCL := Lib.hid (carry_le (d := d) HCX.out hd)
            obtain ⟨D, hD⟩ : ∃ D, D = d * x := ⟨_, rfl⟩
            have qD : (d : Int) * (x : Int) = (D : Int) := by rw [hD]; simp
            rw [← hD] at HST HCL hmul
            have HCT := Lib.hid (show M ≤ i + 1 → (cc + D) / 65536 * 65536 ^ (i + 1 - M) ≤ x by intro h; rw [show i + 1 - M = 0 by omega, Nat.pow_zero, Nat.mul_one]; exact HCL.out)
            clear hdd hD hcont
            have HOA := Lib.hid (HO.out.alloc (.cells #[.int .u64 (((cc : Int) + (D : Int)) % 65536)] 33))
            have HCE := Lib.hid (show (U.alloc (.cells #[.int .u64 (((cc : Int) + (D : Int)) % 65536)] 33)).cell? ⟨U.heap.size, 0, none⟩ = some (.int .u64 (((cc : Int) + (D : Int)) % 65536)) by simp)
            have HSZ := Lib.hid (show V.heap.size ≤ (U.alloc (.cells #[.int .u64 (((cc : Int) + (D : Int)) % 65536)] 33)).heap.size by have := HBU.out.size; simp; omega)
            have HBA := Lib.hid (show Below V.heap.size V (U.alloc (.cells #[.int .u64 (((cc : Int) + (D : Int)) % 65536)] 33)) from HBU.out.alloc HBU.out.size _)
            go_wp2_with ((with_reducible show wpList _ _ _ (⟨some 41, _, _, _, _, _⟩ :: _) _ _); go_loud (refine wpList_append_one64 (o := ⟨some 41, _, _, _, _, _⟩) rfl (.tmp 37) (.tmp 40) 39 rfl V.heap.size 33 i6 Tryd.underlying39 HI.out HZ0.out HZ1.out HZ2.out a2 i c2 X rfl HOA.out U.heap.size _ ((cc + D) % 65536) (by omega) rfl HCE.out (by omega) HSZ.out ?_; intro g3 c3 W3 ho3 hb3))
            have HO3 := Lib.hid ho3
            have HB3 := Lib.hid (HBA.out.trans hb3)
            clear ho3 hb3
            go_roundw
            case rel => exact ⟨i + 1, (cc + D) / 65536, _, _, X ++ [((cc + D) % 65536)], by go_num, by go_num, rfl, HO3.out, HDX.out.snoc (by omega), HIM2.out, HCL.out, HCT.out, HST.out, HB3.out⟩
            case measure => simp [intOf]; omega
          · have hcc : 0 < cc := by rcases hcont with h | h <;> omega
            have hd0 : O.getD i 0 = 0 := by simp [List.getD_eq_getElem?_getD, List.getElem?_eq_none (show O.length ≤ i by rw [← HM.out]; omega)]
            have HST := Lib.hid (dv_step (by have := HO.out.1; rw [v64_len] at this; omega) HEQ.out (c1 := cc) (by rw [hd0]; omega))
            have HCL := Lib.hid (show cc / 65536 ≤ x by have := HCX.out; omega)
            have hcq := HCX.out
            have HCT := Lib.hid (show M ≤ i + 1 → cc / 65536 * 65536 ^ (i + 1 - M) ≤ x by
              intro _
              rw [show i + 1 - M = (i - M) + 1 by omega, Nat.pow_succ, Nat.mul_comm (65536 ^ (i - M)) 65536, ← Nat.mul_assoc]
              exact Nat.le_trans (Nat.mul_le_mul_right _ (show cc / 65536 * 65536 ≤ cc by omega)) (HCP.out (by omega)))
            clear hd0 hcont
            have HOA := Lib.hid (HO.out.alloc (.cells #[.int .u64 ((cc : Int) % 65536)] 33))
            have HCE := Lib.hid (show (U.alloc (.cells #[.int .u64 ((cc : Int) % 65536)] 33)).cell? ⟨U.heap.size, 0, none⟩ = some (.int .u64 ((cc : Int) % 65536)) by simp)
            have HSZ := Lib.hid (show V.heap.size ≤ (U.alloc (.cells #[.int .u64 ((cc : Int) % 65536)] 33)).heap.size by have := HBU.out.size; simp; omega)
            have HBA := Lib.hid (show Below V.heap.size V (U.alloc (.cells #[.int .u64 ((cc : Int) % 65536)] 33)) from HBU.out.alloc HBU.out.size _)
            go_wp2_with ((with_reducible show wpList _ _ _ (⟨some 41, _, _, _, _, _⟩ :: _) _ _); go_loud (refine wpList_append_one64 (o := ⟨some 41, _, _, _, _, _⟩) rfl (.tmp 37) (.tmp 40) 39 rfl V.heap.size 33 i6 Tryd.underlying39 HI.out HZ0.out HZ1.out HZ2.out a2 i c2 X rfl HOA.out U.heap.size _ (cc % 65536) (by omega) rfl HCE.out (by omega) HSZ.out ?_; intro g3 c3 W3 ho3 hb3))
            have HO3 := Lib.hid ho3
            have HB3 := Lib.hid (HBA.out.trans hb3)
            clear ho3 hb3
            go_roundw
            case rel => exact ⟨i + 1, cc / 65536, _, _, X ++ [(cc % 65536)], by go_num, by go_num, rfl, HO3.out, HDX.out.snoc (by omega), HIM2.out, HCL.out, HCT.out, HST.out, HB3.out⟩
            case measure => simp [intOf]; omega
        · have hiM : ¬ i < M := fun h => hcont (Or.inl h)
          have hc0 : cc = 0 := by omega
          subst hc0
          have HXL := Lib.hid (show X.length = i by have := HO.out.1; rw [v64_len] at this; omega)
          have HXV := Lib.hid (show dv X = x ^ (j + 1) by
            have h := HEQ.out
            rw [List.take_of_length_le (show O.length ≤ i by rw [← HM.out]; omega), HV.out] at h
            rw [Nat.pow_succ, Nat.mul_comm (x ^ j) x]
            omega)
          have hA2 := own64 HO.out
          have hl2 : X.length ≤ 3 * (j + 1) + 1 := by rw [HXL.out]; have := HIM.out; have := HL.out; have := HM.out; omega
          have HA2 := Lib.hid hA2
          have HL2 := Lib.hid hl2
          clear hA2 hl2 hcont
          go_wp2
          go_roundw
          case rel => exact ⟨j + 1, a2, c2, X, by omega, by have := HK.out; go_num, by rw [HXL.out], by rw [HXL.out]; exact HA2.out, HDX.out, HXV.out, HL2.out, bt HBV.out HBU.out⟩
          case measure => simp [intOf]; omega
    · obtain rfl : j = N := by omega
      go_wp2
      go_ret
      exact ⟨a, c, O, rfl, HA.out, HD.out, HV.out, by have := HL.out; omega, HBV.out⟩
end Go.Proofs.YtmcoakjbfgfgpaaDoor
