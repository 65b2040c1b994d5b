/- The document's Fraction and Primes (layer 7). -/
import Derived.Test.YtmcoakjbfgfgpaaDoorHq
namespace Go.Proofs.YtmcoakjbfgfgpaaDoor
open Go.ChangeShapes Go.WideShapes Go.ChangeAt Go.RowKit
set_option linter.unusedVariables false
set_option maxRecDepth 100000

theorem ret_iH {k : IntKind} {a b : Int} (h : a = b) : Ending.returned (.int k a) = .returned (.int k b) := by rw [h]
set_option maxHeartbeats 2000000 in
theorem fraction_any (p N r : Nat) (hp : p < 65536) (hN : N ≤ 3) (hN1 : 0 < N) (h1 : r ^ N ≤ p * 65536 ^ (2 * N)) (h2 : p * 65536 ^ (2 * N) < (r + 1) ^ N) (h3 : p * 65536 ^ (2 * N) < 68719476736 ^ N) (w : World) :
    Calls Tryd.prog 12 #[.int .u64 (p : Nat), .int .i64 (N : Nat)] w fun e w' => e = .returned (.int .u32 ((r % 4294967296 : Nat) : Int)) ∧ Below w.heap.size w w' := by
  have HP := Lib.hid hp
  have HN := Lib.hid hN
  obtain ⟨P, hP⟩ : ∃ P, P = p * 65536 ^ (2 * N) := ⟨_, rfl⟩
  have HAB := Lib.hid (fun (x : Nat) (hx : x < 281474976710656) (W : World) => above_any x p N hx hp hN W)
  rw [← hP] at h1 h2 h3
  simp only [← hP] at HAB
  have H1 := Lib.hid h1
  have H2 := Lib.hid h2
  have H3 := Lib.hid h3
  clear h1 h2 h3 hP hp hN
  go_enter Tryd.func12, Tryd.ntmps12
  go_wp2_with fail
  go_loopw [5, 6] (fun X q V => ∃ (j y : Nat), j ≤ 36 ∧ q = .int .i64 ((j : Int) - 1) ∧ X = .int .u64 (y : Nat) ∧ y ^ N ≤ P ∧ P < (y + 2 ^ j) ^ N ∧ y + 2 ^ j ≤ 68719476736 ∧ Below w.heap.size w V) (fun _ q _ => (intOf q + 1).toNat)
  case atStart => exact ⟨36, 0, by omega, rfl, rfl, by rw [Nat.zero_pow hN1]; omega, by rw [Nat.zero_add]; exact H3.out, by decide, Below.refl _ _⟩
  case round =>
    obtain ⟨j, y, hj, rfl, rfl, h1, h2, h3, hb⟩ := hrel
    rename World => V
    have K1 := Lib.hid h1
    have K2 := Lib.hid h2
    have K3 := Lib.hid h3
    have KB := Lib.hid hb
    clear h1 h2 h3 hb
    rcases Nat.eq_zero_or_pos j with h0 | h0
    · subst h0
      have HU := Lib.hid (root_uniq hN1 K1.out (by simpa using K2.out) H1.out H2.out)
      obtain rfl : y = r := HU.out
      have q : y < 68719476736 := by have := K3.out; simp at this; omega
      go_wp2
      go_ret
      exact ⟨ret_iH (by first | rfl | omega), KB.out⟩
    · obtain ⟨i, rfl⟩ : ∃ i, j = i + 1 := ⟨j - 1, by omega⟩
      have ej : ((i + 1 : Nat) : Int) - 1 = (i : Int) := by omega
      rw [ej]
      clear ej
      have hi35 : i ≤ 35 := by omega
      obtain ⟨B, hB⟩ : ∃ B, B = 2 ^ i := ⟨_, rfl⟩
      have hB1 : B ≤ 34359738368 := by rw [hB]; exact Nat.le_trans (Nat.pow_le_pow_right (by omega) hi35) (by decide)
      have hBw : IntKind.u64.wrap (2 ^ i) = (B : Int) := by rw [show (2 : Int) ^ i = (B : Int) by rw [hB]; simp, IntKind.wrap_u64]; omega
      have hB2 : 2 ^ (i + 1) = B + B := by rw [Nat.pow_succ, ← hB]; omega
      have K4 := Lib.hid (show y + (B + B) ≤ 68719476736 by rw [← hB2]; exact K3.out)
      have K5 := Lib.hid (show P < (y + (B + B)) ^ N by rw [← hB2]; exact K2.out)
      have HBB := Lib.hid hB
      have hyB : y + B ≤ 68719476736 := by have := K4.out; omega
      have HAC := Lib.hid (show ∀ W : World, Calls Tryd.prog 17 #[.int .u64 ((y : Int) + (B : Int)), .int .u64 (p : Nat), .int .i64 (N : Nat)] W fun e w' => e = .returned (.bool (decide (P < (y + B) ^ N))) ∧ Below W.heap.size W w' from
        fun W => by rw [← Int.natCast_add]; exact HAB.out (y + B) (by omega) W)
      clear hB hB2
      by_cases hgt : P < (y + B) ^ N
      · rw [decide_eq_true hgt] at HAC
        have HG := Lib.hid hgt
        clear hgt
        go_wp2_with (go_at_call 17; go_loud ((with_reducible refine (HAC.out V).mono ?_); rintro e V2 ⟨rfl, hb⟩; have HB2 := Lib.hid hb; clear hb))
        clear hBw
        go_roundw
        case rel => exact ⟨i, y, by omega, rfl, rfl, K1.out, by rw [← HBB.out]; exact HG.out, by rw [← HBB.out]; exact hyB, bt KB.out HB2.out⟩
        case measure => simp [intOf] <;> omega
      · rw [decide_eq_false hgt] at HAC
        have HG := Lib.hid (show (y + B) ^ N ≤ P by omega)
        clear hgt
        go_wp2_with (go_at_call 17; go_loud ((with_reducible refine (HAC.out V).mono ?_); rintro e V2 ⟨rfl, hb⟩; have HB2 := Lib.hid hb; clear hb))
        clear hBw
        go_roundw
        case rel => exact ⟨i, y + B, by omega, rfl, by go_num, HG.out, by rw [← HBB.out, Nat.add_assoc]; exact K5.out, by rw [← HBB.out, Nat.add_assoc]; exact K4.out, bt KB.out HB2.out⟩
        case measure => simp [intOf] <;> omega
set_option maxHeartbeats 2000000 in
theorem primes_64 (w : World) : Calls Tryd.prog 11 #[.int .i64 64] w fun e w' => ∃ g c, e = .returned (.slice (some ⟨g, 0, none⟩) 64 c) ∧ A64 w' (some ⟨g, 0, none⟩) 64 c p64 ∧ w.heap.size ≤ g ∧ Below w.heap.size w w' := by
  obtain ⟨i6, hi, hz0, hz1, hz2⟩ := info_parts info64
  have HI := Lib.hid hi
  have HZ0 := Lib.hid hz0
  have HZ1 := Lib.hid hz1
  have HZ2 := Lib.hid hz2
  have HE := Lib.hid (own_empty64 w 33)
  have HBE := Lib.hid (show Below w.heap.size w (w.alloc (.cells #[] 33)) from (Below.refl _ _).alloc (Nat.le_refl _) _)
  clear hi hz0 hz1 hz2
  go_enter Tryd.func11, Tryd.ntmps11
  go_wp2_with fail
  go_loopw [3, 4] (fun out q V => ∃ (k : Nat) (g c : Nat), k ≤ 310 ∧ q = .int .u64 ((k + 2 : Nat) : Int) ∧ out = .slice (some ⟨g, 0, none⟩) (ps k).length c ∧ V.ownsRow w.heap.size 33 1 (.slice (some ⟨g, 0, none⟩) (ps k).length c) (ps k).length (v64 (ps k)) ∧ Below w.heap.size w V) (fun _ q _ => 400 - (intOf q).toNat)
  case atStart => exact ⟨0, _, _, by omega, rfl, rfl, HE.out, HBE.out⟩
  case round =>
    obtain ⟨k, g, c, hk, rfl, rfl, h1, h2⟩ := hrel
    rename World => V
    have HO := Lib.hid h1
    have HB := Lib.hid h2
    clear h1 h2 HE HBE
    by_cases hlt : k ≤ 309
    · have HLN := Lib.hid (ps_few hlt)
      have HNX := Lib.hid (show ps (k + 1) = pq (ps k) (k + 2) from rfl)
      have HMM := Lib.hid (ps_mem k)
      obtain ⟨S, hS⟩ : ∃ S, S = ps k := ⟨_, rfl⟩
      rw [← hS] at HO HLN HNX HMM ⊢
      obtain ⟨L, hL⟩ : ∃ L, L = S.length := ⟨_, rfl⟩
      rw [← hL] at HO HLN ⊢
      have hL64 : L < 64 := HLN.out
      have HL := Lib.hid hL
      have HA := Lib.hid (own64 HO.out)
      clear hS hL
      go_wp2_with fail
      go_loop [5, 17] (fun is q => ∃ (i : Nat), i ≤ L ∧ q = .int .i64 (i : Nat) ∧ is = .bool ((S.take i).all (fun q => (k + 2) % q != 0))) (fun _ q => L - (intOf q).toNat)
      case atStart => exact ⟨0, by omega, rfl, by simp⟩
      case round =>
        obtain ⟨i, hi, rfl, rfl⟩ := hrel
        by_cases hil : i < L
        · obtain ⟨b, off, e, hbl, hcell⟩ := HA.out.at_ hil
          cases e
          rw [Nat.zero_add] at hcell
          have hSi : i < S.length := by rw [← HL.out]; exact hil
          have hqm := HMM.out S[i] (List.getElem_mem hSi)
          have hgd : S.getD i 0 = S[i] := by simp [List.getD_eq_getElem?_getD, List.getElem?_eq_getElem hSi]
          have HTK := Lib.hid (show (S.take (i + 1)).all (fun q => (k + 2) % q != 0) = ((S.take i).all (fun q => (k + 2) % q != 0) && ((k + 2) % S[i] != 0)) by
            rw [List.take_succ_eq_append_getElem hSi, List.all_append]; simp)
          rw [hgd] at hcell
          obtain ⟨q, hq⟩ : ∃ q, q = S[i] := ⟨_, rfl⟩
          rw [← hq] at hcell hqm HTK
          obtain ⟨T, hT⟩ : ∃ T, T = k + 2 := ⟨_, rfl⟩
          obtain ⟨D, hD⟩ : ∃ D, D = T % q := ⟨_, rfl⟩
          have hT1 : (T : Int).tmod (q : Int) = (D : Int) := by rw [hD]; exact (Int.ofNat_tmod T q).symm
          have hT2 : (T : Int) % (q : Int) = (D : Int) := by rw [hD]; simp
          have hq0 : ((q : Int) == 0) = false := by simp; omega
          have hq1 : 2 ≤ (q : Int) := by omega
          have hTb : (T : Int) ≤ 400 := by omega
          have hDb : (D : Int) ≤ 400 := by have := Nat.mod_le T q; omega
          rw [← hT] at HTK ⊢
          rw [← hD] at HTK
          have HT := Lib.hid hT
          obtain ⟨bb, hbb⟩ : ∃ bb, bb = (S.take i).all (fun q => T % q != 0) := ⟨_, rfl⟩
          rw [← hbb] at HTK ⊢
          clear hgd hq hD hbb hqm hT
          cases bb
          · go_wp2
            go_round
            case rel => exact ⟨i + 1, by omega, by go_num, by rw [HTK.out]; rfl⟩
            case measure => simp [intOf] <;> omega
          · by_cases hD0 : D = 0
            · subst hD0
              go_wp2
              go_round
              case rel => exact ⟨i + 1, by omega, by go_num, by rw [HTK.out]; rfl⟩
              case measure => simp [intOf] <;> omega
            · have hDq : ((D : Int) != 0) = true := by simp <;> omega
              have hDr : (D != 0) = true := by simp <;> omega
              rw [hDr] at HTK
              clear hDr
              go_wp2
              go_round
              case rel => exact ⟨i + 1, by omega, by go_num, by rw [HTK.out]; rfl⟩
              case measure => simp [intOf] <;> omega
        · obtain rfl : i = L := by omega
          rw [List.take_of_length_le (by rw [HL.out]; exact Nat.le_refl _)]
          unfold pq at HNX
          obtain ⟨bb, hbb⟩ : ∃ bb, bb = S.all (fun q => (k + 2) % q != 0) := ⟨_, rfl⟩
          rw [← hbb] at HNX ⊢
          clear hbb
          cases bb
          · rw [if_neg (by simp)] at HNX
            have hkk : (k : Int) ≤ 309 := by omega
            go_wp2
            go_roundw
            case rel => exact ⟨k + 1, g, c, by omega, by go_num, by rw [HNX.out, HL.out], by rw [HNX.out, ← HL.out]; exact HO.out, HB.out⟩
            case measure => simp [intOf] <;> omega
          · rw [if_pos rfl] at HNX
            have hkk : (k : Int) ≤ 309 := by omega
            have HOA := Lib.hid (HO.out.alloc (.cells #[.int .u64 ((k + 2 : Nat) : Int)] 33))
            have HCE := Lib.hid (show (V.alloc (.cells #[.int .u64 ((k + 2 : Nat) : Int)] 33)).cell? ⟨V.heap.size, 0, none⟩ = some (.int .u64 ((k + 2 : Nat) : Int)) by simp)
            have HSZ := Lib.hid (show w.heap.size ≤ (V.alloc (.cells #[.int .u64 ((k + 2 : Nat) : Int)] 33)).heap.size by have := HB.out.size; simp; omega)
            have HBA := Lib.hid (show Below w.heap.size w (V.alloc (.cells #[.int .u64 ((k + 2 : Nat) : Int)] 33)) from HB.out.alloc HB.out.size _)
            have HLS := Lib.hid (show (S ++ [k + 2]).length = i + 1 by rw [List.length_append, ← HL.out]; rfl)
            go_wp2_with ((with_reducible show wpList _ _ _ (⟨some 33, _, _, _, _, _⟩ :: _) _ _); go_loud (refine wpList_append_one64 (o := ⟨some 33, _, _, _, _, _⟩) rfl (.tmp 30) (.tmp 32) 39 rfl w.heap.size 33 i6 Tryd.underlying39 HI.out HZ0.out HZ1.out HZ2.out (some ⟨g, 0, none⟩) i c S rfl HOA.out V.heap.size _ (k + 2) rfl rfl HCE.out (by omega) HSZ.out ?_; intro g3 c3 W3 ho3 hb3))
            have HO3 := Lib.hid ho3
            have HB3 := Lib.hid (HBA.out.trans hb3)
            clear ho3 hb3
            go_roundw
            case rel => exact ⟨k + 1, g3, c3, by omega, by go_num, by rw [HNX.out, HLS.out], by rw [HNX.out, HLS.out]; exact HO3.out, HB3.out⟩
            case measure => simp [intOf] <;> omega
    · obtain rfl : k = 310 := by omega
      have HO2 := HO.out
      have h64 : (ps 310).length = 64 := by rw [ps_310]; rfl
      rw [h64] at HO2 ⊢
      rw [ps_310] at HO2
      have HA := Lib.hid (own64 HO2)
      have HG := Lib.hid (own_blockGe HO2 g rfl)
      clear HO HO2 h64
      go_wp2
      go_ret
      exact ⟨g, c, rfl, HA.out, HG.out, HB.out⟩
end Go.Proofs.YtmcoakjbfgfgpaaDoor
