/- The document's above and Fraction (layer 7). -/
import Derived.Test.YtmcoakjbfgfgpaaDoorHp
namespace Go.Proofs.YtmcoakjbfgfgpaaDoor
open Go.ChangeShapes Go.WideShapes Go.ChangeAt Go.RowKit
set_option linter.unusedVariables false
set_option maxRecDepth 100000

theorem ret_b {a b : Bool} (h : a = b) : Ending.returned (.bool a) = .returned (.bool b) := by rw [h]
set_option maxHeartbeats 4000000 in
theorem above_any (x p N : Nat) (hx : x < 281474976710656) (hp : p < 65536) (hN : N ≤ 3) (w : World) :
    Calls Tryd.prog 17 #[.int .u64 (x : Nat), .int .u64 (p : Nat), .int .i64 (N : Nat)] w fun e w' => e = .returned (.bool (decide (p * 65536 ^ (2 * N) < x ^ N))) ∧ Below w.heap.size w w' := by
  obtain ⟨i6, hi, hz0, hz1, hz2⟩ := info_parts info64
  have HI := Lib.hid hi
  have HZ0 := Lib.hid hz0
  have HZ1 := Lib.hid hz1
  have HZ2 := Lib.hid hz2
  have HX := Lib.hid hx
  obtain ⟨Z, hZ⟩ : ∃ Z, Z = 2 * N := ⟨_, rfl⟩
  have HZN := Lib.hid hZ
  have qZ : (2 : Int) * (N : Int) = (Z : Int) := by omega
  have hZ6 : Z ≤ 6 := by omega
  have hmk := run_make_row' (P := Tryd.prog) 39 33 (.int .u64 0) 8 Tryd.underlying39 info64 rfl .i64 .i64 Z (by omega) (by omega)
  rw [← hZ]
  have HN3 := Lib.hid hN
  clear hi hz0 hz1 hz2 hx hZ
  go_enter Tryd.func17, Tryd.ntmps17
  go_upto_region 2 with (go_at_call 22; go_loud ((with_reducible refine (power_any x N HX.out HN3.out w).mono ?_); rintro e w1 ⟨a, c, O, rfl, h1, h2, h3, h4, hb⟩; have HA1 := Lib.hid h1; have HD := Lib.hid h2; have HV := Lib.hid h3; have HL := Lib.hid h4; have HB1 := Lib.hid hb; clear h1 h2 h3 h4 hb))
  have HW2 := Lib.hid (own_zeros64 (w := w1) (e := 33) (n := Z) (by unfold maxLen; omega))
  have HB2 := Lib.hid (show Below w1.heap.size w1 (w1.alloc (.cells (madeCells #[Value.int .u64 0] Z) 33)) from (Below.refl _ _).alloc (Nat.le_refl _) _)
  go_upto_region 3 with fail
  clear hmk
  obtain ⟨w2, hw2⟩ : ∃ w2, w2 = w1.alloc (.cells (madeCells #[Value.int .u64 0] Z) 33) := ⟨_, rfl⟩
  rw [← hw2] at HW2 HB2
  rw [← hw2]
  clear hw2
  have HOA := Lib.hid (HW2.out.alloc (.cells #[.int .u64 (p : Int)] 33))
  have HCE := Lib.hid (show (w2.alloc (.cells #[.int .u64 (p : Int)] 33)).cell? ⟨w2.heap.size, 0, none⟩ = some (.int .u64 (p : Int)) by simp)
  have HSZ := Lib.hid (show w1.heap.size ≤ (w2.alloc (.cells #[.int .u64 (p : Int)] 33)).heap.size by have := HB2.out.size; simp; omega)
  have HBA := Lib.hid (show Below w1.heap.size w1 (w2.alloc (.cells #[.int .u64 (p : Int)] 33)) from HB2.out.alloc HB2.out.size _)
  go_wp2_with ((with_reducible show wpList _ _ _ (⟨some 21, _, _, _, _, _⟩ :: _) _ _); go_loud (refine wpList_append_one64 (o := ⟨some 21, _, _, _, _, _⟩) rfl (.tmp 18) (.tmp 20) 39 rfl w1.heap.size 33 i6 Tryd.underlying39 HI.out HZ0.out HZ1.out HZ2.out (some ⟨w1.heap.size, 0, none⟩) Z Z (List.replicate Z 0) rfl HOA.out w2.heap.size _ p rfl rfl HCE.out (by omega) HSZ.out ?_; intro g3 c3 w3 ho3 hb3))
  have HW3 := Lib.hid (own64 ho3)
  have HB3 := Lib.hid (HBA.out.trans hb3)
  have HA3 := Lib.hid (HA1.out.on HB3.out)
  clear ho3 hb3
  obtain ⟨W, hW⟩ : ∃ W, W = List.replicate Z 0 ++ [p] := ⟨_, rfl⟩
  obtain ⟨M, hM⟩ : ∃ M, M = O.length := ⟨_, rfl⟩
  have HDW := Lib.hid (show Dig W by rw [hW]; exact Dig.snoc (fun y hy => by rw [(List.mem_replicate.1 hy).2]; omega) hp)
  have HVW := Lib.hid (show dv W = p * 65536 ^ Z by rw [hW]; exact dv_zeros Z p)
  have HLW := Lib.hid (show W.length = Z + 1 by rw [hW]; simp)
  have HM := Lib.hid hM
  have hM10 : M ≤ 10 := by rw [hM]; exact HL.out
  rw [← hW] at HW3
  rw [← hM] at HA3 ⊢
  clear hW hM
  go_loop [9] (fun q => ∃ i : Nat, i ≤ 16 ∧ q = .int .i64 ((i : Int) - 1) ∧ Hid (∀ t, i ≤ t → t < 16 → O.getD t 0 = W.getD t 0)) (fun q => (intOf q + 1).toNat)
  case atStart => exact ⟨16, by omega, rfl, Lib.hid (fun t h1 h2 => by omega)⟩
  case round =>
    obtain ⟨j, hj, rfl, heq⟩ := hrel
    rcases Nat.eq_zero_or_pos j with h0 | h0
    · subst h0
      have HF := Lib.hid (show decide (p * 65536 ^ Z < x ^ N) = false by
        rw [← HV.out, ← HVW.out, ← dvF_more (l := O) 16 (by rw [← HM.out]; omega), ← dvF_more (l := W) 16 (by rw [HLW.out]; omega), dvF_congr (fun t ht => heq.out t (by omega) ht)]
        simp)
      go_wp2
      go_ret
      exact ⟨ret_b (by rw [HF.out]), bt HB1.out HB3.out⟩
    · obtain ⟨i, rfl⟩ : ∃ i, j = i + 1 := ⟨j - 1, by omega⟩
      have ej : ((i + 1 : Nat) : Int) - 1 = (i : Int) := by omega
      rw [ej]
      clear ej
      have hi15 : i ≤ 15 := by omega
      have HEQ := Lib.hid heq.out
      have hOd := HD.out.getD i
      have hWd := HDW.out.getD i
      clear heq
      obtain ⟨d, hd⟩ : ∃ d, d = O.getD i 0 := ⟨_, rfl⟩
      obtain ⟨v, hv⟩ : ∃ v, v = W.getD i 0 := ⟨_, rfl⟩
      rw [← hd] at hOd
      rw [← hv] at hWd
      have HDD := Lib.hid hd
      have HVV := Lib.hid hv
      have HNX := Lib.hid (show d = v → ∀ t, i ≤ t → t < 16 → O.getD t 0 = W.getD t 0 from fun e t h1 h2 => by
        by_cases e1 : t = i
        · rw [e1, ← HDD.out, ← HVV.out, e]
        · exact HEQ.out t (by omega) h2)
      have HGT := Lib.hid (show v < d → decide (p * 65536 ^ Z < x ^ N) = true from fun h => by
        rw [← HV.out, ← HVW.out, ← dvF_more (l := O) 16 (by rw [← HM.out]; omega), ← dvF_more (l := W) 16 (by rw [HLW.out]; omega)]
        exact decide_eq_true (dvF_cmp (fun t => HD.out.getD t) (fun t => HDW.out.getD t) (i := i) (by rw [← HDD.out, ← HVV.out]; exact h) 16 (by omega) (fun t h1 h2 => HEQ.out t (by omega) h2)))
      have HLT := Lib.hid (show d < v → decide (p * 65536 ^ Z < x ^ N) = false from fun h => by
        rw [← HV.out, ← HVW.out, ← dvF_more (l := O) 16 (by rw [← HM.out]; omega), ← dvF_more (l := W) 16 (by rw [HLW.out]; omega)]
        have := dvF_cmp (fun t => HDW.out.getD t) (fun t => HD.out.getD t) (i := i) (by rw [← HDD.out, ← HVV.out]; exact h) 16 (by omega) (fun t h1 h2 => (HEQ.out t (by omega) h2).symm)
        exact decide_eq_false (by omega))
      have HD0 := Lib.hid (show ¬ i < M → d = 0 from fun h => by rw [HDD.out]; simp [List.getD_eq_getElem?_getD, List.getElem?_eq_none (show O.length ≤ i by rw [← HM.out]; omega)])
      have HV0 := Lib.hid (show ¬ i < Z + 1 → v = 0 from fun h => by rw [HVV.out]; simp [List.getD_eq_getElem?_getD, List.getElem?_eq_none (show W.length ≤ i by rw [HLW.out]; omega)])
      have hOc : i < M → ∃ b off, a = some ⟨b, off, none⟩ ∧ b < w3.heap.size ∧ w3.cell? ⟨b, off + i, none⟩ = some (.int .u64 ((d : Nat) : Int)) := fun h => by rw [HDD.out]; exact HA3.out.at_ h
      have hWc : i < Z + 1 → w3.cell? ⟨g3, 0 + i, none⟩ = some (.int .u64 ((v : Nat) : Int)) := fun h => by
        obtain ⟨b, off, e, _, hc⟩ := HW3.out.at_ h
        cases e
        rw [HVV.out]; exact hc
      have HOC := Lib.hid hOc
      have HWC := Lib.hid hWc
      clear hd hv hOc hWc
      have step : ∀ (dd vv : Nat), True := fun _ _ => trivial
      clear step
      by_cases h1 : i < M
      · obtain ⟨b, off, rfl, hbl, hc1⟩ := HOC.out h1
        by_cases h2 : i < Z + 1
        · have hc2 := HWC.out h2
          rw [Nat.zero_add] at hc2
          rcases Nat.lt_trichotomy d v with hlt | heq | hgt
          · have q1 : ((d : Int) != (v : Int)) = true := by simp <;> omega
            have q2 : ¬ (v : Int) < (d : Int) := by omega
            have q3 : decide ((v : Int) < (d : Int)) = false := decide_eq_false q2
            go_wp2
            go_ret
            exact ⟨ret_b (by rw [HLT.out hlt] <;> first | exact decide_eq_true q2 | simp), bt HB1.out HB3.out⟩
          · have q1 : ((d : Int) != (v : Int)) = false := by simp <;> omega
            have HNY := Lib.hid (HNX.out heq)
            clear heq
            go_wp2
            go_round
            case rel => exact ⟨i, by omega, rfl, HNY⟩
            case measure => simp [intOf] <;> omega
          · have q1 : ((d : Int) != (v : Int)) = true := by simp <;> omega
            have q2 : (v : Int) < (d : Int) := by omega
            go_wp2
            go_ret
            exact ⟨ret_b (by rw [HGT.out hgt] <;> first | exact decide_eq_true q2 | simp), bt HB1.out HB3.out⟩
        · obtain rfl : v = 0 := HV0.out h2
          rcases Nat.lt_trichotomy d (0 : Nat) with hlt | heq | hgt
          · exact absurd hlt (by omega)
          · have q1 : ((d : Int) != (0 : Int)) = false := by simp <;> omega
            have HNY := Lib.hid (HNX.out heq)
            clear heq
            go_wp2
            go_round
            case rel => exact ⟨i, by omega, rfl, HNY⟩
            case measure => simp [intOf] <;> omega
          · have q1 : ((d : Int) != (0 : Int)) = true := by simp <;> omega
            have q2 : (0 : Int) < (d : Int) := by omega
            go_wp2
            go_ret
            exact ⟨ret_b (by rw [HGT.out hgt] <;> first | exact decide_eq_true q2 | simp), bt HB1.out HB3.out⟩
      · obtain rfl : d = 0 := HD0.out h1
        by_cases h2 : i < Z + 1
        · have hc2 := HWC.out h2
          rw [Nat.zero_add] at hc2
          rcases Nat.lt_trichotomy (0 : Nat) v with hlt | heq | hgt
          · have q1 : ((0 : Int) != (v : Int)) = true := by simp <;> omega
            have q2 : ¬ (v : Int) < (0 : Int) := by omega
            have q3 : decide ((v : Int) < (0 : Int)) = false := decide_eq_false q2
            go_wp2
            go_ret
            exact ⟨ret_b (by rw [HLT.out hlt] <;> first | exact decide_eq_true q2 | simp), bt HB1.out HB3.out⟩
          · have q1 : ((0 : Int) != (v : Int)) = false := by simp <;> omega
            have HNY := Lib.hid (HNX.out heq)
            clear heq
            go_wp2
            go_round
            case rel => exact ⟨i, by omega, rfl, HNY⟩
            case measure => simp [intOf] <;> omega
          · exact absurd hgt (by omega)
        · obtain rfl : v = 0 := HV0.out h2
          go_wp2
          go_round
          case rel => exact ⟨i, by omega, rfl, Lib.hid (HNX.out rfl)⟩
          case measure => simp [intOf] <;> omega
end Go.Proofs.YtmcoakjbfgfgpaaDoor
