/- Texts of mine, one behind the other: Hi Hw2 Hw3 Hwt. -/
import Derived.Test.YtappfdbmhgifcaaGreatDoorZS11
import Derived.Test.YtappfdbmhgifcaaGreatDoorZS15
import Derived.Test.YtappfdbmhgifcaaGreatDoorZS13
import Derived.Deep.AppendLies
import Derived.Deep.RegionHeldLaw
import Derived.Test.YtappfdbmhgifcaaGreatDoorZS22
import Derived.Laws.AppendOwn
/- The walk of the laws' Unlike, up to 255 places. -/
namespace Go.Proofs.YtappfdbmhgifcaaGreatDoor
open Go.ChangeShapes Go.WideShapes Go.ChangeAt Go.RowKit Go.Shelf GF
set_option linter.unusedVariables false
set_option linter.unusedSimpArgs false
set_option maxRecDepth 100000

set_option maxHeartbeats 3000000 in
open Go.Maps in
theorem unlike255_any (a : Option Addr) (L c : Nat) (X : List GF) (n : Nat) (w : World) (hx : Pa w a L c X) (hn : n ≤ 255) :
    Calls Tryz.prog 36 #[.slice a L c, .int .i64 (n : Nat)] w fun e w' => ∃ (a' : Option Addr) (c' : Nat) (O : List GF), e = .returned (.slice a' n c') ∧ Pa w' a' n c' O ∧ Gath O n ∧ O.length = n ∧ (∀ b off, a' = some ⟨b, off, none⟩ → w.heap.size ≤ b) ∧ Below w.heap.size w w' := by
  obtain ⟨i5, hi, hz0, hz1, hz2⟩ := info_parts info5
  have HI := Lib.hid (show Tryz.prog.info? 5 = some i5 ∧ i5.zero = some (.int .u8 0) ∧ i5.size = 1 ∧ i5.bytes = 1 from ⟨hi, hz0, hz1, hz2⟩)
  have HX := Lib.hid hx
  have HXL := Lib.hid hx.len
  have HN := Lib.hid hn
  have qn : (n : Int) ≤ 255 := by omega
  have hmm := @run_makeMap Tryz.prog
  have HK0 := Lib.hid (show keyOf Tryz.prog 5 (.int .u8 0) = some (keyG 0) from keyOf_int_mk Tryz.underlying5 (keyG_wf 0))
  have HOM := Lib.hid (show (w.alloc (.map #[] 0)).ownsMap Tryz.prog 5 (plainElem (H := Unit) Tryz.prog 4) w.heap.size 0 (.map []) from World.ownsMap_made _ _ _ _)
  have HB0 := Lib.hid (show Below w.heap.size w (w.alloc (.map #[] 0)) from (Below.refl _ _).alloc (Nat.le_refl _) _)
  clear hx hn hi hz0 hz1 hz2
  go_enter Tryz.func36, Tryz.ntmps36
  go_upto_region 2 with ((with_reducible show wpList _ _ _ (⟨none, _, _, _, _, _⟩ :: _) _ _); go_loud (refine wpList_insert_own _ rfl (.tmp 13) (.const (.int .u8 0)) (.const (.bool true)) 93 rfl 5 4 lawU Tryz.underlying93 (plainElem (H := Unit) Tryz.prog 4) w.heap.size 0 (.map []) rfl HOM.out (by unfold maxLen; omega) (.int .u8 0) (.bool true) (keyG 0) rfl rfl HK0.out (.lit (.bool true)) [] (plainElem_bool Tryz.underlying4 true) ?_; intro w1 ho1 hg1))
  have HO1 := Lib.hid (ownsMap_size ho1)
  have HB1 := Lib.hid (HB0.out.grown hg1 HB0.out.size (fun j hj => by cases hj; exact Nat.le_refl _))
  have HS1 := Lib.hid (show SeenF ((DataW.map []).put (keyG 0) (.lit (.bool true))) (putF (fun _ => false) 0) from SeenF.put (fun y => rfl) (HOM.out.tidy lawU) 0)
  have HH1 := Lib.hid (show HasF ((DataW.map []).put (keyG 0) (.lit (.bool true))) (putF (fun _ => false) 0) from HasF.none.put (HOM.out.tidy lawU) 0 _)
  have HSZ := Lib.hid (show w.heap.size < w1.heap.size by have := hg1.size; simp at this; omega)
  clear ho1 hg1 hmm HOM
  go_upto_region 4 with fail
  go_loopw [6, 17] (fun o s wr => ∃ (k m : Nat) (O : List GF) (D : DataW Unit) (f : GF → Bool), k ≤ L ∧ s = .int .i64 (k : Nat) ∧ Hid (O.length = m) ∧ wr.ownsRow (w.heap.size + 1) 5 1 o m ((iL O).map (Value.int .u8)) ∧ wr.ownsMap Tryz.prog 5 (plainElem (H := Unit) Tryz.prog 4) w.heap.size (size D) D ∧ Hid (SeenF D f) ∧ Hid (HasF D f) ∧ Hid (f 0 = true ∧ ∀ y, y ∈ O → f y = true) ∧ Hid (Gath O n) ∧ Hid (Below w.heap.size w wr) ∧ Hid (w.heap.size < wr.heap.size)) (fun _ s _ => L - (intOf s).toNat)
  case atStart => exact ⟨0, 0, [], _, _, by omega, rfl, Lib.hid rfl, own_nilG _ _ _, HO1.out, HS1, HH1, Lib.hid ⟨by unfold putF; rw [if_pos rfl], fun y hy => by cases hy⟩, Lib.hid ⟨List.nodup_nil, by simp, Nat.zero_le _⟩, HB1, HSZ⟩
  case round =>
    obtain ⟨k, m, O, D, f, hk, rfl, hm, hrow, hmap, HS, HH, HF, HG, HB, HLT⟩ := hrel
    rename World => V
    have HK := Lib.hid hk
    have HML := Lib.hid hm.out
    have HRW := Lib.hid hrow
    have HMP := Lib.hid hmap
    clear hk hm hrow hmap HO1 HB1 HS1 HH1 HSZ
    obtain ⟨ao, cap, ho, _⟩ := own_form HRW.out
    subst ho
    have HMN := Lib.hid (show m ≤ n by rw [← HML.out]; exact HG.out.2.2)
    by_cases hlt : k < L
    · as_aux_lemma =>
        obtain ⟨bx, ox, rfl, hbx, hcx⟩ := (HX.out.on HB.out).at_ hlt
        have q2 : (k : Int) < (L : Int) := by omega
        have q3 : (0 : Int) ≤ (k : Int) := by omega
        have HLK := Lib.hid hlt
        have qL : (L : Int) ≤ 9223372036854775807 := by have := HX.out.bd; omega
        have hkey : keyOf Tryz.prog 5 (.int .u8 (toI (co X k))) = some (keyG (co X k)) := keyOf_int_mk Tryz.underlying5 (keyG_wf _)
        have HT := Lib.hid (HMP.out.tidy lawU)
        have HKM := Lib.hid (show size D < maxLen from Nat.lt_of_le_of_lt (Nat.le_trans HH.out.2 (cntF_le f)) (by unfold maxLen; omega))
        have HSN := Lib.hid (HS.out.put HT.out (co X k))
        have HHN := Lib.hid (HH.out.put HT.out (co X k) (.lit (.bool true)))
        clear hlt hbx
        cases hs : f (co X k) with
        | true =>
          have HAT := Lib.hid (show D.atKey (keyG (co X k)) (.lit (.bool false)) = .lit (.bool true) by rw [HS.out, hs])
          clear hs
          go_wp2_with (first
            | (at_lookup; refine wpList_lookup_own_bool _ rfl _ _ 93 rfl 5 4 lawU Tryz.underlying93 Tryz.underlying4 (zeroB _) w.heap.size (size D) D rfl HMP.out _ _ rfl hkey _ HAT.out ?_)
            | (at_mapUpdate; refine wpList_mapUpdate_own _ rfl _ _ _ 93 rfl 5 4 lawU Tryz.underlying93 _ w.heap.size (size D) D rfl HMP.out HKM.out _ _ _ rfl rfl hkey _ [] (plainElem_bool Tryz.underlying4 true) ?_; intro W9 hownW9 hgrowW9))
          go_roundw
          case rel =>
            have hrel := show ∃ (k' m' : Nat) (O' : List GF) (D' : DataW Unit) (f' : GF → Bool), k' ≤ L ∧ Value.int .i64 ((k : Int) + 1) = .int .i64 (k' : Nat) ∧ Hid (O'.length = m') ∧ W9.ownsRow (w.heap.size + 1) 5 1 (.slice ao m cap) m' ((iL O').map (Value.int .u8)) ∧ W9.ownsMap Tryz.prog 5 (plainElem (H := Unit) Tryz.prog 4) w.heap.size (size D') D' ∧ Hid (SeenF D' f') ∧ Hid (HasF D' f') ∧ Hid (f' 0 = true ∧ ∀ y, y ∈ O' → f' y = true) ∧ Hid (Gath O' n) ∧ Hid (Below w.heap.size w W9) ∧ Hid (w.heap.size < W9.heap.size) from
              ⟨k + 1, m, O, _, putF f (co X k), HLK.out, by go_num, HML, HRW.out.kept hgrowW9 (own_apart HRW.out (Nat.lt_succ_self _)), ownsMap_size hownW9, HSN, HHN, Lib.hid ⟨by unfold putF; split; rfl; exact HF.out.1, fun y hy => by unfold putF; split; rfl; exact HF.out.2 y hy⟩, HG, Lib.hid (HB.out.grown hgrowW9 HB.out.size (fun j hj => by cases hj; exact Nat.le_refl _)), Lib.hid (Nat.lt_of_lt_of_le HLT.out hgrowW9.size)⟩
            first
              | exact hrel
              | ((repeat apply Exists.intro); exact ⟨hrel, rfl⟩)
          case measure => simp [intOf] <;> (have := HLK.out; omega)
        | false =>
          have HAT := Lib.hid (show D.atKey (keyG (co X k)) (.lit (.bool false)) = .lit (.bool false) by rw [HS.out, hs])
          have HNO := Lib.hid (show co X k ∉ O from fun h => by rw [HF.out.2 _ h] at hs; cases hs)
          have HNZ := Lib.hid (show co X k ≠ 0 from fun h => by rw [h, HF.out.1] at hs; cases hs)
          clear hs
          by_cases hmn : m < n
          · have qm : (m : Int) < (n : Int) := by omega
            have HMO := Lib.hid (show m ≤ 1000000 by have := HN.out; omega)
            have HGN := Lib.hid (HG.out.more HNO.out HNZ.out (by rw [HML.out]; exact hmn))
            have HLE := Lib.hid (show w.heap.size + 1 ≤ V.heap.size from HLT.out)
            obtain ⟨x, hxx⟩ : ∃ x, x = co X k := ⟨_, rfl⟩
            rw [← hxx] at hcx hkey HAT HSN HHN HGN
            have HXX := Lib.hid hxx
            clear hmn hxx
            go_wp2_with (first
              | (at_lookup; refine wpList_lookup_own_bool _ rfl _ _ 93 rfl 5 4 lawU Tryz.underlying93 Tryz.underlying4 (zeroB _) w.heap.size (size D) D rfl HMP.out _ _ rfl hkey _ HAT.out ?_)
              | ((with_reducible show wpList _ _ _ (⟨some 34, _, _, _, _, _⟩ :: _) _ _); go_loud (refine wpList_append_G1 rfl (.tmp 31) (.tmp 33) 22 rfl (w.heap.size + 1) 5 i5 Tryz.underlying22 HI.out.1 HI.out.2.1 HI.out.2.2.1 HI.out.2.2.2 (.slice ao m cap) m O rfl HRW.out x 5 rfl HMO.out HLE.out ?_; intro g5 c5 w5 ho5 hb5; have HO5 := Lib.hid ho5; have HB5 := Lib.hid hb5; have HM5 := Lib.hid (ownsMap_on HMP.out hb5 (Nat.lt_succ_self _)); clear ho5 hb5))
              | (at_mapUpdate; refine wpList_mapUpdate_own _ rfl _ _ _ 93 rfl 5 4 lawU Tryz.underlying93 _ w.heap.size (size D) D rfl HM5.out HKM.out _ _ _ rfl rfl hkey _ [] (plainElem_bool Tryz.underlying4 true) ?_; intro W9 hownW9 hgrowW9))
            go_roundw
            case rel =>
              have hrel := show ∃ (k' m' : Nat) (O' : List GF) (D' : DataW Unit) (f' : GF → Bool), k' ≤ L ∧ Value.int .i64 ((k : Int) + 1) = .int .i64 (k' : Nat) ∧ Hid (O'.length = m') ∧ W9.ownsRow (w.heap.size + 1) 5 1 ((.slice (some ⟨g5, 0, none⟩) (m + 1) c5)) m' ((iL O').map (Value.int .u8)) ∧ W9.ownsMap Tryz.prog 5 (plainElem (H := Unit) Tryz.prog 4) w.heap.size (size D') D' ∧ Hid (SeenF D' f') ∧ Hid (HasF D' f') ∧ Hid (f' 0 = true ∧ ∀ y, y ∈ O' → f' y = true) ∧ Hid (Gath O' n) ∧ Hid (Below w.heap.size w W9) ∧ Hid (w.heap.size < W9.heap.size) from
                ⟨k + 1, m + 1, O ++ [x], _, putF f x, HLK.out, by go_num, Lib.hid (by rw [List.length_append, HML.out]; rfl), HO5.out.kept hgrowW9 (own_apart HO5.out (Nat.lt_succ_self _)), ownsMap_size hownW9, HSN, HHN, Lib.hid ⟨by unfold putF; split; rfl; exact HF.out.1, fun y hy => by unfold putF; split; rfl; rename_i hne; exact HF.out.2 y ((List.mem_append.1 hy).resolve_right (fun h => hne (by rw [List.mem_singleton.1 h])))⟩, HGN, Lib.hid ((HB.out.trans (HB5.out.mono (Nat.le_succ _))).grown hgrowW9 (Nat.le_trans HB.out.size HB5.out.size) (fun j hj => by cases hj; exact Nat.le_refl _)), Lib.hid (Nat.lt_of_lt_of_le HLT.out (Nat.le_trans HB5.out.size hgrowW9.size))⟩
              first
                | exact hrel
                | ((repeat apply Exists.intro); exact ⟨hrel, rfl⟩)
            case measure => simp [intOf] <;> (have := HLK.out; omega)
          · have qm : (n : Int) ≤ (m : Int) := by omega
            clear hmn
            go_wp2_with (first
              | (at_lookup; refine wpList_lookup_own_bool _ rfl _ _ 93 rfl 5 4 lawU Tryz.underlying93 Tryz.underlying4 (zeroB _) w.heap.size (size D) D rfl HMP.out _ _ rfl hkey _ HAT.out ?_)
              | (at_mapUpdate; refine wpList_mapUpdate_own _ rfl _ _ _ 93 rfl 5 4 lawU Tryz.underlying93 _ w.heap.size (size D) D rfl HMP.out HKM.out _ _ _ rfl rfl hkey _ [] (plainElem_bool Tryz.underlying4 true) ?_; intro W9 hownW9 hgrowW9))
            go_roundw
            case rel =>
              have hrel := show ∃ (k' m' : Nat) (O' : List GF) (D' : DataW Unit) (f' : GF → Bool), k' ≤ L ∧ Value.int .i64 ((k : Int) + 1) = .int .i64 (k' : Nat) ∧ Hid (O'.length = m') ∧ W9.ownsRow (w.heap.size + 1) 5 1 (.slice ao m cap) m' ((iL O').map (Value.int .u8)) ∧ W9.ownsMap Tryz.prog 5 (plainElem (H := Unit) Tryz.prog 4) w.heap.size (size D') D' ∧ Hid (SeenF D' f') ∧ Hid (HasF D' f') ∧ Hid (f' 0 = true ∧ ∀ y, y ∈ O' → f' y = true) ∧ Hid (Gath O' n) ∧ Hid (Below w.heap.size w W9) ∧ Hid (w.heap.size < W9.heap.size) from
                ⟨k + 1, m, O, _, putF f (co X k), HLK.out, by go_num, HML, HRW.out.kept hgrowW9 (own_apart HRW.out (Nat.lt_succ_self _)), ownsMap_size hownW9, HSN, HHN, Lib.hid ⟨by unfold putF; split; rfl; exact HF.out.1, fun y hy => by unfold putF; split; rfl; exact HF.out.2 y hy⟩, HG, Lib.hid (HB.out.grown hgrowW9 HB.out.size (fun j hj => by cases hj; exact Nat.le_refl _)), Lib.hid (Nat.lt_of_lt_of_le HLT.out hgrowW9.size)⟩
              first
                | exact hrel
                | ((repeat apply Exists.intro); exact ⟨hrel, rfl⟩)
            case measure => simp [intOf] <;> (have := HLK.out; omega)
    · as_aux_lemma =>
        obtain rfl : k = L := by have := HK.out; omega
        clear HS HH HF HMP HK0 HX HXL HK
        go_upto_region 11 with fail
        go_loopw [6, 9] (fun o s wr => ∃ (j m : Nat) (O : List GF) (z : Int), 1 ≤ j ∧ j ≤ 256 ∧ s = .int .u8 z ∧ Hid (j ≤ 255 → z = (j : Int)) ∧ Hid (O.length = m) ∧ wr.ownsRow (w.heap.size + 1) 5 1 o m ((iL O).map (Value.int .u8)) ∧ Hid (Gath O n) ∧ Hid (∀ y : GF, 1 ≤ y.1 → y.1 < j → y ∈ O) ∧ Hid (Below w.heap.size w wr) ∧ Hid (w.heap.size < wr.heap.size)) (fun _ s _ => if intOf s = 0 then 0 else 256 - (intOf s).toNat)
        case atStart => exact ⟨1, m, O, 1, by omega, by omega, rfl, Lib.hid (fun _ => rfl), HML, HRW.out, HG, Lib.hid (fun y h1 h2 => by omega), HB, HLT⟩
        case round =>
          clear HML HG HB HLT HMN HRW
          obtain ⟨j, m, O, z0, hj, hj2, rfl, hz0, HML, hrow, HG, HA, HB, HLT⟩ := hrel
          rename World => U
          have HRW := Lib.hid hrow
          clear hrow
          obtain ⟨ao, cap, ho, hpa, hao⟩ := Pa.own HRW.out
          subst ho
          have HPA := Lib.hid hpa
          have HAO := Lib.hid hao
          have HMB := Lib.hid (show m ≤ n by rw [← HML.out]; exact HG.out.2.2)
          clear hpa hao
          by_cases hmn : m < n
          · have qm : (m : Int) < (n : Int) := by omega
            have hjm : j ≤ m + 1 := by
              have h := holes (j - 1) O (by omega) (fun y h1 h2 => HA.out y h1 (by omega))
              rw [HML.out] at h
              omega
            obtain rfl : z0 = (j : Int) := hz0.out (by have := HN.out; omega)
            have qj : (0 : Int) < (j : Int) := by omega
            obtain ⟨z1, hz1⟩ : ∃ z1 : Int, z1 = IntKind.u8.wrap ((j : Int) + 1) := ⟨_, rfl⟩
            have HZ1 := Lib.hid (show (j + 1 ≤ 255 → z1 = ((j + 1 : Nat) : Int)) ∧ (j = 255 → z1 = 0) ∧ 0 ≤ z1 by rw [hz1, IntKind.wrap_u8]; omega)
            have kz : ∀ [Inhabited Unit], IntKind.u8.wrap ((j : Int) + 1) = z1 := fun [_] => hz1.symm
            clear hz1 hz0
            have qj2 : (j : Int) ≤ 255 := by have := HN.out; omega
            have HJ := Lib.hid (show 1 ≤ j ∧ j ≤ 255 by have := HN.out; omega)
            have HMN := Lib.hid hmn
            clear hj hj2 hjm hmn
            go_upto_region 15 with fail
            go_loop [10, 50] (fun b s => ∃ i : Nat, i ≤ m ∧ s = .int .i64 (i : Nat) ∧ b = .bool (snN O i j)) (fun _ s => m - (intOf s).toNat)
            case atStart => exact ⟨0, by omega, rfl, by rw [snN_zero]⟩
            case round =>
              obtain ⟨i, hi, rfl, rfl⟩ := hrel
              have HIM := Lib.hid hi
              clear hi
              by_cases hlt : i < m
              · obtain ⟨bx, ox, rfl, hbx, hcx0⟩ := HPA.out.at_ hlt
                have hcx : U.cell? ⟨bx, ox + i, none⟩ = some (.int .u8 (((co O i).1 : Nat) : Int)) := hcx0
                have q2 : (i : Int) < (m : Int) := by omega
                have q3 : (0 : Int) ≤ (i : Int) := by omega
                have qm9 : (m : Int) ≤ 255 := by have := HN.out; have := HMB.out; omega
                have HLI := Lib.hid hlt
                have HNX := Lib.hid (snN_next (X := O) (k := i) (by rw [HML.out]; exact hlt) j)
                obtain ⟨z, hz⟩ : ∃ z, z = (co O i).1 := ⟨_, rfl⟩
                rw [← hz] at hcx HNX
                clear hcx0 hlt hbx hz
                cases hs : snN O i j with
                | true =>
                  have HE := Lib.hid (show snN O (i + 1) j = true by rw [HNX.out, hs]; split <;> rfl)
                  clear hs
                  go_wp2
                  go_round
                  case rel => exact ⟨i + 1, HLI.out, by go_num, by rw [HE.out]⟩
                  case measure => simp [intOf] <;> (have := HLI.out; omega)
                | false =>
                  by_cases e : j = z
                  · have HE := Lib.hid (show snN O (i + 1) j = true by rw [HNX.out, if_pos e])
                    have qe : ((j : Int) == (z : Int)) = true := by rw [beq_iff_eq]; omega
                    clear hs e
                    go_wp2
                    go_round
                    case rel => exact ⟨i + 1, HLI.out, by go_num, by rw [HE.out]⟩
                    case measure => simp [intOf] <;> (have := HLI.out; omega)
                  · have HE := Lib.hid (show snN O (i + 1) j = false by rw [HNX.out, if_neg e, hs])
                    have qe : ((j : Int) == (z : Int)) = false := by rw [beq_eq_false_iff_ne]; omega
                    clear hs e
                    go_wp2
                    go_round
                    case rel => exact ⟨i + 1, HLI.out, by go_num, by rw [HE.out]⟩
                    case measure => simp [intOf] <;> (have := HLI.out; omega)
              · obtain rfl : i = m := by have := HIM.out; omega
                have hj256 : j < 256 := by have := HJ.out; omega
                have HME := Lib.hid (show snN O i j = true ↔ (⟨j, hj256⟩ : GF) ∈ O by rw [← HML.out]; exact snN_mem (y := ⟨j, hj256⟩))
                clear hlt
                cases hs : snN O i j with
                | true =>
                  have HIN := Lib.hid (HME.out.1 hs)
                  clear hs
                  go_wp2
                  go_roundw
                  case rel =>
                    have hrel := show ∃ (j' m' : Nat) (O' : List GF) (z' : Int), 1 ≤ j' ∧ j' ≤ 256 ∧ Value.int .u8 z1 = .int .u8 z' ∧ Hid (j' ≤ 255 → z' = (j' : Int)) ∧ Hid (O'.length = m') ∧ U.ownsRow (w.heap.size + 1) 5 1 (.slice ao i cap) m' ((iL O').map (Value.int .u8)) ∧ Hid (Gath O' n) ∧ Hid (∀ y : GF, 1 ≤ y.1 → y.1 < j' → y ∈ O') ∧ Hid (Below w.heap.size w U) ∧ Hid (w.heap.size < U.heap.size) from
                      ⟨j + 1, i, O, z1, by omega, by have := HJ.out; omega, rfl, Lib.hid (fun h => HZ1.out.1 h), HML, HRW.out, HG, Lib.hid (fun y h1 h2 => by
                        by_cases e : y.1 = j
                        · have : y = (⟨j, hj256⟩ : GF) := GF.ext e
                          rw [this]; exact HIN.out
                        · exact HA.out y h1 (by omega)), HB, HLT⟩
                    first
                      | exact hrel
                      | ((repeat apply Exists.intro); exact ⟨hrel, rfl⟩)
                  case measure =>
                    have h1 := HJ.out
                    have h2 := HZ1.out
                    show (if z1 = 0 then 0 else 256 - z1.toNat) < (if (j : Int) = 0 then 0 else 256 - (j : Int).toNat)
                    rw [if_neg (by omega : ¬ (j : Int) = 0)]
                    split <;> omega
                | false =>
                  have HNI := Lib.hid (show (⟨j, hj256⟩ : GF) ∉ O from fun h => by rw [HME.out.2 h] at hs; cases hs)
                  have HGN := Lib.hid (HG.out.more HNI.out (fun h => by have := congrArg (fun g : GF => g.1) h; have h2 : j = 0 := this; have := HJ.out; omega) (by rw [HML.out]; exact HMN.out))
                  have HMO := Lib.hid (show i ≤ 1000000 by have := HN.out; have := HMB.out; omega)
                  have HLE := Lib.hid (show w.heap.size + 1 ≤ U.heap.size from HLT.out)
                  clear hs
                  go_wp2_with ((with_reducible show wpList _ _ _ (⟨some 66, _, _, _, _, _⟩ :: _) _ _); go_loud (refine wpList_append_G1 rfl (.tmp 63) (.tmp 65) 22 rfl (w.heap.size + 1) 5 i5 Tryz.underlying22 HI.out.1 HI.out.2.1 HI.out.2.2.1 HI.out.2.2.2 (.slice ao i cap) i O rfl HRW.out (⟨j, hj256⟩ : GF) 5 rfl HMO.out HLE.out ?_; intro g5 c5 w5 ho5 hb5; have HO5 := Lib.hid ho5; have HB5 := Lib.hid hb5; clear ho5 hb5))
                  go_roundw
                  case rel =>
                    have hrel := show ∃ (j' m' : Nat) (O' : List GF) (z' : Int), 1 ≤ j' ∧ j' ≤ 256 ∧ Value.int .u8 z1 = .int .u8 z' ∧ Hid (j' ≤ 255 → z' = (j' : Int)) ∧ Hid (O'.length = m') ∧ w5.ownsRow (w.heap.size + 1) 5 1 (.slice (some ⟨g5, 0, none⟩) (i + 1) c5) m' ((iL O').map (Value.int .u8)) ∧ Hid (Gath O' n) ∧ Hid (∀ y : GF, 1 ≤ y.1 → y.1 < j' → y ∈ O') ∧ Hid (Below w.heap.size w w5) ∧ Hid (w.heap.size < w5.heap.size) from
                      ⟨j + 1, i + 1, O ++ [⟨j, hj256⟩], z1, by omega, by have := HJ.out; omega, rfl, Lib.hid (fun h => HZ1.out.1 h), Lib.hid (by rw [List.length_append, HML.out]; rfl), HO5.out, HGN, Lib.hid (fun y h1 h2 => by
                        by_cases e : y.1 = j
                        · have : y = (⟨j, hj256⟩ : GF) := GF.ext e
                          rw [this]; exact List.mem_append_right _ (List.mem_singleton.2 rfl)
                        · exact List.mem_append_left _ (HA.out y h1 (by omega))), Lib.hid (HB.out.trans (HB5.out.mono (Nat.le_succ _))), Lib.hid (Nat.lt_of_lt_of_le HLT.out HB5.out.size)⟩
                    first
                      | exact hrel
                      | ((repeat apply Exists.intro); exact ⟨hrel, rfl⟩)
                  case measure =>
                    have h1 := HJ.out
                    have h2 := HZ1.out
                    show (if z1 = 0 then 0 else 256 - z1.toNat) < (if (j : Int) = 0 then 0 else 256 - (j : Int).toNat)
                    rw [if_neg (by omega : ¬ (j : Int) = 0)]
                    split <;> omega
          · obtain rfl : m = n := by have := HMB.out; omega
            clear hmn hj hj2 hz0
            go_wp2
            go_ret
            exact ⟨ao, cap, O, rfl, HPA.out, HG.out, HML.out, fun b off e => by have := (HAO.out b off e).1; omega, HB.out⟩
end Go.Proofs.YtappfdbmhgifcaaGreatDoor
/- StripeTells: the law's own picked. -/
namespace Go.Proofs.YtappfdbmhgifcaaGreatDoor
open Go.ChangeShapes Go.WideShapes Go.ChangeAt Go.RowKit Go.Shelf GF
set_option linter.unusedVariables false
set_option linter.unusedSimpArgs false
set_option maxRecDepth 100000

/-! ## Plain: which places are picked -/
theorem nod_le17 : ∀ (n : Nat) (l : List Nat), l.Nodup → (∀ x, x ∈ l → x < n) → l.length ≤ n
  | 0, l, _, h => by
    cases l with
    | nil => simp
    | cons a l => exact absurd (h a (by simp)) (by omega)
  | n + 1, l, hn, h => by
    by_cases hm : n ∈ l
    · have := nod_le17 n (l.erase n) (hn.erase n) (fun x hx => by
        have h1 := h x (List.mem_of_mem_erase hx)
        have h2 : x ≠ n := (hn.mem_erase_iff.1 hx).1
        omega)
      rw [List.length_erase_of_mem hm] at this
      have := List.length_pos_of_mem hm
      omega
    · have := nod_le17 n l hn (fun x hx => by
        have h1 := h x hx
        have h2 : x ≠ n := fun e => hm (e ▸ hx)
        omega)
      omega
theorem fil_split17 {α : Type} (p : α → Bool) : ∀ l : List α, (l.filter p).length + (l.filter fun x => !p x).length = l.length
  | [] => rfl
  | a :: l => by
    have ih := fil_split17 p l
    cases h : p a <;> simp [List.filter_cons, h] <;> omega
def nO (O : List GF) : List Nat := O.map fun x => (toI x).toNat
theorem nO_len (O : List GF) : (nO O).length = O.length := by simp [nO]
theorem nO_nodup {O : List GF} (h : O.Nodup) : (nO O).Nodup := by
  unfold nO
  unfold List.Nodup
  rw [List.pairwise_map]
  refine h.imp fun {a b} hab e => hab ?_
  have h1 := toI_bd a
  have h2 := toI_bd b
  exact toI_inj (by omega)
theorem nO_bd {O : List GF} {n x : Nat} (h : Gath O n) (hx : x ∈ nO O) : 1 ≤ x ∧ x < 256 := by
  obtain ⟨y, hy, rfl⟩ := List.mem_map.1 hx
  have h1 := toI_bd y
  have h2 : toI y ≠ 0 := fun e => h.2.1 (by rw [toI_eq_zero.1 e] at hy; exact hy)
  omega
/-- Those of the first i that are places. -/
def flO (O : List GF) (N i : Nat) : List Nat := ((nO O).take i).filter fun p => decide (p ≤ N)
theorem flO_next {O : List GF} {N i : Nat} (h : i < O.length) : flO O N (i + 1) = flO O N i ++ if (toI (co O i)).toNat ≤ N then [(toI (co O i)).toNat] else [] := by
  have e : (nO O).take (i + 1) = (nO O).take i ++ [(toI (co O i)).toNat] := by
    rw [List.take_add_one, List.getElem?_eq_getElem (by rw [nO_len]; exact h)]
    simp [nO, co_lt h]
  unfold flO
  rw [e, List.filter_append]
  by_cases hp : (toI (co O i)).toNat ≤ N <;> simp [hp]
theorem flO_nodup {O : List GF} {n N i : Nat} (h : Gath O n) : (flO O N i).Nodup :=
  ((nO_nodup h.1).sublist (List.take_sublist _ _)).sublist List.filter_sublist
theorem flO_bd {O : List GF} {n N i p : Nat} (h : Gath O n) (hp : p ∈ flO O N i) : 1 ≤ p ∧ p ≤ N := by
  have h1 := List.mem_filter.1 hp
  have h2 := nO_bd h (List.mem_of_mem_take h1.1)
  have h3 := of_decide_eq_true h1.2
  omega
theorem flO_all {O : List GF} {n N : Nat} (h : Gath O n) (hl : O.length = 255) (hN : N ≤ 255) : N ≤ (flO O N 255).length := by
  obtain ⟨big, hbig⟩ : ∃ b, b = (nO O).filter fun p => !decide (p ≤ N) := ⟨_, rfl⟩
  have e : (flO O N 255) = (nO O).filter fun p => decide (p ≤ N) := by
    unfold flO
    rw [List.take_of_length_le (by rw [nO_len]; omega)]
  have hs : ((nO O).filter fun p => decide (p ≤ N)).length + big.length = (nO O).length := by
    rw [hbig]
    exact fil_split17 _ _
  have hb : big.length + (N + 1) ≤ 256 := by
    have hn : (List.range (N + 1) ++ big).Nodup := by
      rw [List.nodup_append]
      refine ⟨List.nodup_range, by rw [hbig]; exact (nO_nodup h.1).sublist List.filter_sublist, fun a ha b hb' e' => ?_⟩
      subst e'
      have h1 := List.mem_range.1 ha
      rw [hbig] at hb'
      have h2 := (List.mem_filter.1 hb').2
      simp at h2
      omega
    have := nod_le17 256 _ hn (fun x hx => by
      rcases List.mem_append.1 hx with h1 | h1
      · have := List.mem_range.1 h1; omega
      · rw [hbig] at h1
        exact (nO_bd h (List.mem_filter.1 h1).1).2)
    rw [List.length_append, List.length_range] at this
    omega
  rw [e]
  rw [nO_len] at hs
  omega
/-- What is picked, behind the first i. -/
def Pck (O : List GF) (N T i : Nat) (ps : List Nat) : Prop := List.Sublist ps (flO O N i) ∧ (ps.length < T → ps = flO O N i)
theorem Pck.nil (O : List GF) (N T : Nat) : Pck O N T 0 [] := ⟨List.nil_sublist _, fun _ => by simp [flO]⟩
theorem Pck.out {O : List GF} {N T i : Nat} {ps : List Nat} (h : Pck O N T i ps) (hi : i < O.length) (hp : ¬ (toI (co O i)).toNat ≤ N) : Pck O N T (i + 1) ps := by
  unfold Pck
  rw [flO_next hi, if_neg hp, List.append_nil]
  exact h
theorem Pck.no {O : List GF} {N T i : Nat} {ps : List Nat} (h : Pck O N T i ps) (hi : i < O.length) (hT : ¬ ps.length < T) : Pck O N T (i + 1) ps := by
  unfold Pck
  rw [flO_next hi]
  exact ⟨h.1.trans (List.sublist_append_left _ _), fun e => absurd e hT⟩
theorem Pck.yes {O : List GF} {N T i : Nat} {ps : List Nat} (h : Pck O N T i ps) (hi : i < O.length) (hp : (toI (co O i)).toNat ≤ N) : Pck O N T (i + 1) (ps ++ [(toI (co O i)).toNat]) := by
  unfold Pck
  rw [flO_next hi, if_pos hp]
  refine ⟨h.1.append (List.Sublist.refl _), fun e => ?_⟩
  rw [List.length_append] at e
  rw [h.2 (by simp at e; omega)]
theorem Pck.nodup {O : List GF} {n N T i : Nat} {ps : List Nat} (h : Pck O N T i ps) (hg : Gath O n) : ps.Nodup := (flO_nodup hg).sublist h.1
theorem Pck.bd {O : List GF} {n N T i : Nat} {ps : List Nat} (h : Pck O N T i ps) (hg : Gath O n) : ∀ p, p ∈ ps → 1 ≤ p ∧ p ≤ N := fun p hp => flO_bd hg (h.1.subset hp)
theorem Pck.le {O : List GF} {n N T i : Nat} {ps : List Nat} (h : Pck O N T i ps) (hg : Gath O n) : ps.length ≤ N := by
  have hn : (0 :: ps).Nodup := List.nodup_cons.2 ⟨fun h0 => by have := h.bd hg 0 h0; omega, h.nodup hg⟩
  have := nod_le17 (N + 1) _ hn (fun x hx => by
    rcases List.mem_cons.1 hx with rfl | h1
    · omega
    · have := h.bd hg x h1; omega)
  simpa using this
theorem Pck.ge {O : List GF} {n N T : Nat} {ps : List Nat} (h : Pck O N T 255 ps) (hg : Gath O n) (hl : O.length = 255) (hN : N ≤ 255) (hT : T ≤ N) : T ≤ ps.length := by
  rcases Nat.lt_or_ge ps.length T with h1 | h1
  · have := flO_all hg hl hN
    rw [← h.2 h1] at this
    omega
  · exact h1
end Go.Proofs.YtappfdbmhgifcaaGreatDoor
/- StripeTells: the law's own picked, walked. -/
namespace Go.Proofs.YtappfdbmhgifcaaGreatDoor
open Go.ChangeShapes Go.WideShapes Go.ChangeAt Go.RowKit Go.Shelf GF
set_option linter.unusedVariables false
set_option linter.unusedSimpArgs false
set_option maxRecDepth 100000

theorem bt3 {w w1 : World} (h : Below w.heap.size w w1) (o : Obj) : Below w.heap.size w (w1.alloc o) := h.alloc h.size _
/-- Rows of one's own, where nothing but a block ahead or a row of another kind changed. -/
theorem RV.far {w w' : World} {B : Nat} {vs : List Value} {M : List (List GF)} (h : RV w (NewU w B) vs M) (hs : w.heap.size ≤ w'.heap.size) (hk : ∀ b, b < w.heap.size → TyU w b → w'.heap[b]? = w.heap[b]?) : RV w' (NewU w' B) vs M :=
  h.keep hs fun b hb ho => ⟨⟨ho.1, by obtain ⟨cur, fz, e⟩ := ho.2; exact ⟨cur, fz, by rw [hk b hb ho.2]; exact e⟩⟩, hk b hb ho.2⟩
theorem news17 {w : World} {B : Nat} {v : Value} {t : TypeId} {fr : Nat × Nat} (hb : w.heap[B]? = some (.cells #[v] t fr)) : ∀ j u, [v][j]? = some u → w.cell? ((⟨B, 0, none⟩ : Addr).add j) = some u := World.news_of_block (cs := #[v]) hb
theorem pa_news17 {w : World} {b o L c : Nat} {P : List GF} (h : Pa w (some ⟨b, o, none⟩) L c P) : ∀ j u, ((iL P).map (Value.int .u8))[j]? = some u → w.cell? ((⟨b, o, none⟩ : Addr).add j) = some u := fun j u hu => by
  have hj : j < P.length := by
    have := (List.getElem?_eq_some_iff.1 hu).1
    rwa [List.length_map, length_iL] at this
  have hL := h.len
  obtain ⟨b', o', e, hb, hc⟩ := h.1.2.2.1 (by rw [length_iL]; omega)
  cases e
  have h2 := hc j (by rw [length_iL]; exact hj)
  rw [getD_iL] at h2
  have e2 : ((iL P).map (Value.int .u8))[j]? = some (.int .u8 (toI (co P j))) := by
    rw [List.getElem?_map, List.getElem?_eq_getElem (by rw [length_iL]; exact hj)]
    have : (iL P)[j]'(by rw [length_iL]; exact hj) = toI (co P j) := by
      rw [← getD_iL, List.getD_eq_getElem?_getD, List.getElem?_eq_getElem (by rw [length_iL]; exact hj)]
      rfl
    rw [this]
    rfl
  rw [e2] at hu
  cases hu
  have hadd : (⟨b, o, none⟩ : Addr).add j = ⟨b, o + j, none⟩ := by unfold Addr.add; split <;> simp_all
  rw [hadd]
  exact h2
theorem own_emptyH (w : World) (e : TypeId) (H : Nat) (hH : w.heap.size = H) : (w.alloc (.cells #[] e)).ownsRow H e 1 (.slice (some ⟨H, 0, none⟩) 0 0) 0 [] := by
  subst hH
  exact own_emptyG w e
theorem heap_newH (w : World) (o : Obj) (H : Nat) (hH : w.heap.size = H) : (w.alloc o).heap[H]? = some o := by
  subst hH
  exact heap_alloc_new w o
theorem heap_newH2 (w : World) (o o' : Obj) (H : Nat) (hH : w.heap.size = H) : ((w.alloc o).alloc o').heap[H]? = some o := by
  subst hH
  exact (((Below.refl _ (w.alloc o)).alloc (Nat.le_refl _) o').block w.heap.size (by simp)).trans (heap_alloc_new w o)
theorem bS17 {S : Nat} {w w' : World} (h : S = w.heap.size) (hb : Below S w w') : Below w.heap.size w w' := h ▸ hb
/-- An append onto a row that is new and empty, at a step of a region that draws. -/
theorem step_append_e8 {P : Program} {w : World} {ops : Array Oper} {o : Oper} {a : Act} {K : Act → World → Prop} {Q : Exit → Act → World → Prop} {E : Prop} (hgd : o.guard = none) (s x : Operand) (t : TypeId)
    (ho : o.op = .call { callee := .builtin .append, args := #[s, x], argTypes := #[t, t] })
    (i : TypeInfo) (ht : P.underlying t = some (.slice 5)) (hi : P.info? 5 = some i) (hz : i.zero = some (.int .u8 0)) (hsize : i.size = 1) (hby : i.bytes = 1)
    (base HE : Nat) (hs : a.eval s = .slice (some ⟨HE, 0, none⟩) 0 0) (hown : w.ownsRow base 5 1 (.slice (some ⟨HE, 0, none⟩) 0 0) 0 [])
    (b off R c : Nat) (L : List GF) (hx : a.eval x = .slice (some ⟨b, off, none⟩) R c) (hp : Pa w (some ⟨b, off, none⟩) R c L) (hR : 1 ≤ R) (hR2 : R ≤ 1000) (hbase : base ≤ w.heap.size)
    (h : ∀ g cap w', w'.ownsRow base 5 1 (.slice (some ⟨g, 0, none⟩) R cap) R ((iL L).map (Value.int .u8)) → w.grownBy w' (some HE) → K (a.put o.dst (.slice (some ⟨g, 0, none⟩) R cap)) w') :
    if Region.wanted o (yielded ops a.tmps) = true then Oper.wp P o a w K Q else E := by
  refine step_append_lies w hgd s x t ho base 5 i (.int .u8 0) 1 1 ht hi hz hsize hby rfl (by decide) (.slice (some ⟨HE, 0, none⟩) 0 0) 0 [] hs hown ⟨b, off, none⟩ R c ((iL L).map (Value.int .u8)) hx ?_ (pa_news17 hp) (ints_oneCell _ _) (by omega) (by unfold maxLen; omega) (by omega) hbase _ rfl ?_
  · rw [List.length_map, length_iL, hp.len, Nat.mul_one]
  · intro g cap w' h1 h2 _ _
    rw [Nat.zero_add] at h1
    rw [Nat.zero_add]
    exact h g cap w' h1 h2
/-- Behind the first append of picked (the places). -/
theorem pk1 {S0 k k' c : Nat} {a : Option Addr} {V W w1 w3 : World} {vR : Value} {xs vs : List Value} (hVW : Below V.heap.size V W) (hA : V.ownsRow S0 3 1 (.slice a k c) k xs) (hR : V.ownsRow S0 22 1 vR k' vs) (h3 : Below w3.heap.size w3 V) (hS : S0 = w3.heap.size) (hg : W.grownBy w1 (Value.slice a k c).ownBlock) :
    w1.ownsRow S0 22 1 vR k' vs ∧ (∀ b, b < V.heap.size → TyU V b → w1.heap[b]? = V.heap[b]?) ∧ Below w3.heap.size w3 w1 ∧ V.heap.size ≤ w1.heap.size ∧ (∀ (B : Nat) (v : Value), W.ownsRow B 5 1 v 0 [] → w1.ownsRow B 5 1 v 0 []) ∧ W.heap.size ≤ w1.heap.size := by
  have hA' := own_belowV hA hVW
  have hR' := own_belowV hR hVW
  have hs := hg.size
  have h3s := h3.size
  have hvs := hVW.size
  refine ⟨hR'.kept hg (own_neC hR' hA' (by decide)), fun b hb ht => ((ht.below hVW hb).grown hA' (by decide) hg).1.trans (hVW.block b hb), ?_, by omega, fun B v h => h.kept hg (own_neC h hA' (by decide)), hs⟩
  exact (bt h3 hVW).grown hg (by omega) (fun z hz => by rw [← hS]; exact (hA'.lt z hz).1)
/-- Behind the second (the bytes of a row). -/
theorem pk2 {S0 k k' HE : Nat} {V W w2 w3 : World} {vA vR : Value} {xs vs : List Value} (hA : W.ownsRow S0 3 1 vA k xs) (hR : W.ownsRow S0 22 1 vR k' vs) (hE : W.ownsRow HE 5 1 (.slice (some ⟨HE, 0, none⟩) 0 0) 0 []) (h3 : Below w3.heap.size w3 W) (hV3 : w3.heap.size ≤ V.heap.size) (hVE : V.heap.size ≤ HE) (hVs : V.heap.size ≤ W.heap.size)
    (hF : ∀ b, b < V.heap.size → TyU V b → W.heap[b]? = V.heap[b]?) (hg : W.grownBy w2 (some HE)) :
    w2.ownsRow S0 3 1 vA k xs ∧ w2.ownsRow S0 22 1 vR k' vs ∧ (∀ b, b < V.heap.size → TyU V b → w2.heap[b]? = V.heap[b]?) ∧ Below w3.heap.size w3 w2 ∧ V.heap.size ≤ w2.heap.size := by
  have hs := hg.size
  have he : HE < W.heap.size := (hE.lt HE rfl).2
  have hg' : W.grownBy w2 (Value.slice (some ⟨HE, 0, none⟩) 0 0).ownBlock := hg
  refine ⟨hA.kept hg' (own_neC hA hE (by decide)), hR.kept hg' (own_neC hR hE (by decide)), fun b hb ht => (hg.block b (by omega) (fun e => by cases e; omega)).trans (hF b hb ht), h3.grown hg h3.size (fun z hz => by cases hz; omega), by omega⟩
/-- Behind the third (the rows). -/
theorem pk3 {S0 HE k R g2 c2 : Nat} {V w2 w5 w3 : World} {vA : Value} {xs vs : List Value} {aR : Option Addr} {cR : Nat} {M : List (List GF)} {P : List GF} {o : Obj} (hA : w2.ownsRow S0 3 1 vA (k + 1) xs) (hR : w2.ownsRow S0 22 1 (.slice aR k cR) k vs) (hRV : RV V (NewU V S0) vs M) (hN : w2.ownsRow HE 5 1 (.slice (some ⟨g2, 0, none⟩) R c2) R ((iL P).map (Value.int .u8))) (h3 : Below w3.heap.size w3 w2) (hS : S0 = w3.heap.size) (hVE : V.heap.size ≤ HE) (hV3 : w3.heap.size ≤ V.heap.size) (hVs : V.heap.size ≤ w2.heap.size)
    (hF : ∀ b, b < V.heap.size → TyU V b → w2.heap[b]? = V.heap[b]?) (hg : (w2.alloc o).grownBy w5 (Value.slice aR k cR).ownBlock) :
    w5.ownsRow S0 3 1 vA (k + 1) xs ∧ RV w5 (NewU w5 S0) (vs ++ [.slice (some ⟨g2, 0, none⟩) R c2]) (M ++ [P]) ∧ Below S0 w3 w5 := by
  have hA' := hA.alloc o
  have hR' := hR.alloc o
  have h3' := bt3 h3 o
  have hs := hg.size
  have r1 := ((hRV.far hVs hF).moreN hN (by omega)).onN ((Below.refl _ _).alloc (Nat.le_refl _) o)
  refine ⟨hA'.kept hg (own_neC hA' hR' (by decide)), r1.grownN hR' (by decide) hg, ?_⟩
  rw [hS]
  exact h3'.grown hg h3'.size (fun z hz => by rw [← hS]; exact (hR'.lt z hz).1)
set_option maxHeartbeats 1000000 in
theorem picked_any (aL : Option Addr) (N cL : Nat) (M : List (List GF)) (aO : Option Addr) (LO cO : Nat) (X : List GF) (T R : Nat) (w : World) (hM : Mat w aL N cL M) (hX : Pa w aO LO cO X) (hN : N ≤ 200) (hT : T ≤ N) (hLO : LO ≤ 1000) (hR : 1 ≤ R) (hR2 : R ≤ 1000) (hw : ∀ k, k < N → (rw_ M k).length = R) :
    Calls Tryz.prog 16 #[.slice aL N cL, .slice aO LO cO, .int .i64 (T : Nat)] w fun e w' => ∃ (S0 : Nat) (ps : List Nat) (aA aR : Option Addr) (cA cR : Nat) (vs : List Value), e = .returned (.tuple #[.slice aA ps.length cA, .slice aR ps.length cR]) ∧ w.heap.size ≤ S0 ∧ w'.ownsRow S0 3 1 (.slice aA ps.length cA) ps.length ((zl ps).map (Value.int .i64)) ∧ w'.ownsRow S0 22 1 (.slice aR ps.length cR) ps.length vs ∧ RV w' (NewU w' S0) vs (ps.map fun p => rw_ M (p - 1)) ∧ ps.Nodup ∧ (∀ p, p ∈ ps → 1 ≤ p ∧ p ≤ N) ∧ T ≤ ps.length ∧ ps.length ≤ N ∧ Below w.heap.size w w' := by
  obtain ⟨i5, hy, hy0, hy1, hy2⟩ := info_parts info5
  have HI5 := Lib.hid (And.intro hy (And.intro hy0 (And.intro hy1 hy2)))
  obtain ⟨i3, hi3, hi30, hi31, hi32⟩ := info_parts infoI17
  have HI3 := Lib.hid (And.intro hi3 (And.intro hi30 (And.intro hi31 hi32)))
  obtain ⟨i22, h22, h220, h221, h222⟩ := info_parts infoR
  have HI22 := Lib.hid (And.intro h22 (And.intro h220 (And.intro h221 h222)))
  have HM := Lib.hid hM
  have HX := Lib.hid hX
  have HB := Lib.hid (show N ≤ 200 ∧ T ≤ N ∧ LO ≤ 1000 ∧ 1 ≤ R ∧ R ≤ 1000 from ⟨hN, hT, hLO, hR, hR2⟩)
  have HW := Lib.hid hw
  have hmd := hM.bd
  have hxd := hX.bd
  have HUL := Lib.hid (unlike255_any aO LO cO X 255 w hX (Nat.le_refl _))
  have qN : (N : Int) ≤ 200 := by omega
  have qLO : (LO : Int) ≤ 1000 := by omega
  clear hy hy0 hy1 hy2 hi3 hi30 hi31 hi32 h22 h220 h221 h222 hM hX hN hT hLO hR hR2 hw
  go_enter Tryz.func16, Tryz.ntmps16
  go_wp2_with (go_at_call 36; go_loud (refine HUL.out.mono ?_; rintro e w3 ⟨aU, cU, O, rfl, hpu, hga, hol, hnw, hb3⟩; have HPU := Lib.hid hpu; have HG := Lib.hid hga; have HOL := Lib.hid hol; have HB3 := Lib.hid hb3; clear hpu hga hol hnw hb3))
  obtain ⟨S0, hS0⟩ : ∃ S, S = w3.heap.size := ⟨_, rfl⟩
  have HS0 := Lib.hid hS0
  have hbu := HPU.out.bd
  clear hS0 HUL
  go_loopw [16, 8, 9] (fun s o p V => ∃ (i k : Nat) (ps : List Nat) (aA aR : Option Addr) (cA cR : Nat) (vs : List Value), i ≤ 255 ∧ ps.length = k ∧ s = .int .i64 (i : Nat) ∧ o = .slice aA k cA ∧ p = .slice aR k cR ∧ Hid (Pck O N T i ps) ∧ Hid (V.ownsRow S0 3 1 (.slice aA k cA) k ((zl ps).map (Value.int .i64))) ∧ Hid (V.ownsRow S0 22 1 (.slice aR k cR) k vs) ∧ Hid (RV V (NewU V S0) vs (ps.map fun p => rw_ M (p - 1))) ∧ Hid (Below S0 w3 V)) (fun s _ _ _ => 255 - (intOf s).toNat)
  case atStart => exact ⟨0, 0, [], none, none, 0, 0, [], by omega, rfl, rfl, rfl, rfl, Lib.hid (Pck.nil _ _ _), Lib.hid (World.ownsRow_nil _ _ _ _), Lib.hid (World.ownsRow_nil _ _ _ _), Lib.hid (RV.nil _ _), Lib.hid (Below.refl _ _)⟩
  case round =>
    obtain ⟨i, k, ps, aA, aR, cA, cR, vs, hi, hk, rfl, rfl, rfl, HP, HOA, HOR, HRV, HBV⟩ := hrel
    rename World => V
    have hbV : Below w3.heap.size w3 V := by have h := HBV.out; rw [HS0.out] at h; exact h
    have HBVw := Lib.hid (bt HB3.out hbV)
    have HVS := Lib.hid (show S0 ≤ V.heap.size from by rw [HS0.out]; exact hbV.size)
    have hca := own_bd17 HOA.out
    have hcr := own_bd17 HOR.out
    have hkN : k ≤ N := by rw [← hk]; exact HP.out.le HG.out
    by_cases hlt : i < 255
    · obtain ⟨bx, ox, rfl, hbx, hcx⟩ := (HPU.out.on hbV).at_ hlt
      have HIO := Lib.hid (show i < O.length from by rw [HOL.out]; exact hlt)
      obtain ⟨x, hx⟩ : ∃ x : Nat, (toI (co O i)).toNat = x := ⟨_, rfl⟩
      have hx2 : toI (co O i) = (x : Int) := by have := toI_bd (co O i); omega
      have hx1 : 1 ≤ x := by
        rcases Nat.eq_zero_or_pos x with h0 | h0
        · exact absurd (toI_inj (hx2.trans (by rw [h0]; rfl))) (gath_co HG.out HIO.out)
        · exact h0
      have hxb : x < 256 := by have := toI_bd (co O i); omega
      rw [hx2] at hcx
      have HXX := Lib.hid hx
      have HX1 := Lib.hid (And.intro hx1 hxb)
      have qi : (i : Int) < 255 := by omega
      have qi0 : (0 : Int) ≤ (i : Int) := by omega
      have qx : (x : Int) < 256 := by omega
      have kw : ∀ [Inhabited Unit], IntKind.i64.wrap (x : Int) = (x : Int) := by intro _; rw [IntKind.wrap_i64]; omega
      have HLT := Lib.hid hlt
      have HK := Lib.hid hk
      have HKN := Lib.hid hkN
      have qk : (k : Int) ≤ 200 := by omega
      clear hx hx2 hx1 hxb hbx hlt hi hk hbV
      by_cases c1 : x ≤ N
      · have q1 : (x : Int) ≤ (N : Int) := by omega
        have C1 := Lib.hid c1
        clear c1
        by_cases c2 : k < T ∨ k < LO
        · have C2 := Lib.hid c2
          obtain ⟨q, hq⟩ : ∃ q, q = x - 1 := ⟨_, rfl⟩
          have HQ := Lib.hid hq
          have kq : (x : Int) - 1 = (q : Int) := by have := HX1.out; omega
          have kp : ∀ [Inhabited Unit], wrap64 ((x : Int) - 1) = (q : Int) := by intro _; have := HX1.out; unfold wrap64; omega
          have kr : ∀ [Inhabited Unit], wrap64 (q : Int) = (q : Int) := by intro _; have := HX1.out; unfold wrap64; omega
          have ks : ∀ [Inhabited Unit], IntKind.i64.wrap (q : Int) = (q : Int) := by intro _; have := HX1.out; rw [IntKind.wrap_i64]; omega
          have qq : (q : Int) < (N : Int) := by have := HX1.out; have := C1.out; omega
          have qq0 : (0 : Int) ≤ (q : Int) := by omega
          have qqn : q < N := by omega
          obtain ⟨bl, ol, ai, ci, rfl, hbl, hcl, hpa⟩ := HM.out.row (i := q) qqn
          rw [HW.out q qqn] at hcl hpa
          obtain ⟨br, or_, rfl⟩ := hpa.some_ (by have := HB.out; omega)
          have HPA := Lib.hid hpa
          have hbd := hpa.bd
          have z1 : ∀ W, Below w3.heap.size w3 W → W.cell? ⟨bl, ol + q, none⟩ = some (.slice (some ⟨br, or_, none⟩) R ci) := fun W hW => ((bt HB3.out hW).cell (p := ⟨bl, ol + q, none⟩) hbl).trans hcl
          have hbV : Below w3.heap.size w3 V := by have h := HBV.out; rw [HS0.out] at h; exact h
          have HBV3 := Lib.hid hbV
          clear hpa hq hcl hbl c2
          go_upto_region 7 with fail
          go_cut [38] from 22 to 38 (fun b wx => b = .bool true ∧ wx = V)
          case first =>
            rcases Decidable.em (k < T) with c3 | c3
            · have q3 : (k : Int) < (T : Int) := by omega
              clear c3
              go_wp2_with fail
              go_meet
              exact ⟨rfl, rfl⟩
            · have q3 : ¬ (k : Int) < (T : Int) := by omega
              have q4 : decide (k < LO) = true := by rw [decide_eq_true_iff]; have := C2.out; omega
              clear c3
              go_wp2_with fail
              go_meet
              exact ⟨rfl, rfl⟩
          case rest =>
          obtain ⟨rfl, rfl⟩ := hcut
          go_wp2_with fail
          go_region_held_law (fun W => Below w3.heap.size w3 W) (first | assumption | exact hbV.drew | exact bt3 hbV.drew _ | exact bt3 (bt3 hbV.drew _) _ | (refine bt3 ?_ _; assumption) | (refine Below.drew ?_; assumption))
            (first
              | (refine step_append_lies _ rfl (.tmp 39) (.tmp 41) 39 rfl S0 3 i3 (.int .i64 0) 1 8 Tryz.underlying39 HI3.out.1 HI3.out.2.1 HI3.out.2.2.1 HI3.out.2.2.2 rfl (by decide) (.slice aA k cA) k ((zl ps).map (Value.int .i64)) rfl (own_belowV HOA.out (by (first | exact bt3 (Below.refl _ _).drew _ | exact bt3 (bt3 (Below.refl _ _).drew _) _ | exact bt3 (Below.refl _ _) _ | exact bt3 (bt3 (Below.refl _ _) _) _))) _ 1 1 [.int .i64 (x : Nat)] rfl rfl (news17 (by (first | exact heap_newH _ _ _ (by simp) | exact heap_newH2 _ _ _ _ (by simp)))) (by intro u hu; cases List.mem_singleton.1 hu; rfl) (by decide) (by have := HKN.out; have := HB.out; unfold maxLen; omega) (by have := HKN.out; have := HB.out; omega) (by (have h1 := HVS.out; simp; omega)) _ rfl ?_; intro g1 cap1 w1 hown1 hgrow1 _ _; have HP1 := Lib.hid (pk1 (by (first | exact bt3 (Below.refl _ _).drew _ | exact bt3 (bt3 (Below.refl _ _).drew _) _ | exact bt3 (Below.refl _ _) _ | exact bt3 (bt3 (Below.refl _ _) _) _)) HOA.out HOR.out HBV3.out HS0.out hgrow1); have HO1 := Lib.hid hown1; have hb1 := HP1.out.2.2.1; clear hown1 hgrow1)
              | (refine step_append_e8 rfl (.tmp 44) (.tmp 49) 22 rfl i5 Tryz.underlying22 HI5.out.1 HI5.out.2.1 HI5.out.2.2.1 HI5.out.2.2.2 _ _ rfl (by (first | exact own_emptyH _ _ _ (by simp) | exact HP1.out.2.2.2.2.1 _ _ (own_emptyH _ _ _ (by simp)) | exact HP1.out.2.2.2.2.1 _ _ ((own_emptyH _ _ _ (by simp)).alloc _))) _ _ _ _ _ rfl (HPA.out.on (bt HB3.out (by (first | assumption | exact hbV.drew | exact bt3 hbV.drew _ | exact bt3 (bt3 hbV.drew _) _ | (refine bt3 ?_ _; assumption) | (refine Below.drew ?_; assumption))))) (by have := HB.out; omega) (by have := HB.out; omega) (by have h1 := HP1.out.2.2.2.1; have h2 := HVS.out; have h3 := HP1.out.2.2.2.2.2; simp at h3 ⊢; try omega) ?_; intro g2 cap2 w2 hown2 hgrow2; have HP2 := Lib.hid (pk2 (V := wc) (by first | exact HO1.out | exact HO1.out.alloc _) (by first | exact HP1.out.1 | exact HP1.out.1.alloc _) (by (first | exact own_emptyH _ _ _ (by simp) | exact HP1.out.2.2.2.2.1 _ _ (own_emptyH _ _ _ (by simp)) | exact HP1.out.2.2.2.2.1 _ _ ((own_emptyH _ _ _ (by simp)).alloc _))) (by first | exact HP1.out.2.2.1 | exact bt3 HP1.out.2.2.1 _) HBV3.out.size (by have h1 := HP1.out.2.2.2.1; simp; try omega) (by have h1 := HP1.out.2.2.2.1; simp; try omega) (by first | exact HP1.out.2.1 | exact fun b hb ht => (((Below.refl _ _).alloc (Nat.le_refl _) _).block b (by have := HP1.out.2.2.2.1; omega)).trans (HP1.out.2.1 b hb ht)) hgrow2); have hb2 := HP2.out.2.2.2.1; have HO2 := Lib.hid hown2; clear hown2 hgrow2)
              | (refine step_append_lies _ rfl (.tmp 43) (.tmp 51) 28 rfl S0 22 i22 (.slice none 0 0) 1 24 Tryz.underlying28 HI22.out.1 HI22.out.2.1 HI22.out.2.2.1 HI22.out.2.2.2 rfl (by decide) (.slice aR k cR) k vs rfl (HP2.out.2.1.alloc _) _ 1 1 [.slice (some ⟨g2, 0, none⟩) R cap2] rfl rfl (news17 (heap_alloc_new _ _)) (by intro u hu; cases List.mem_singleton.1 hu; rfl) (by decide) (by have := HKN.out; have := HB.out; unfold maxLen; omega) (by have := HKN.out; have := HB.out; omega) (by have h1 := HP2.out.2.2.2.2; have h2 := HVS.out; simp; try omega) _ rfl ?_; intro g3 cap3 w5 hown3 hgrow3 _ _; have HP3 := Lib.hid (pk3 HP2.out.1 HP2.out.2.1 HRV.out HO2.out HP2.out.2.2.2.1 HS0.out (by have h1 := HP1.out.2.2.2.1; simp; try omega) HBV3.out.size HP2.out.2.2.2.2 HP2.out.2.2.1 hgrow3); have HO3 := Lib.hid hown3; have hb5 : Below w3.heap.size w3 w5 := bS17 HS0.out HP3.out.2.2; clear hown3 hgrow3))
          all_goals
            go_wp2_with fail
            go_roundw
            case rel => exact ⟨i + 1, k + 1, ps ++ [x], _, _, _, _, _, by have := HLT.out; omega, by rw [List.length_append, HK.out]; rfl, by go_num, rfl, rfl, Lib.hid (by have h := HP.out.yes HIO.out (by rw [HXX.out]; exact C1.out); rw [HXX.out] at h; exact h), Lib.hid (by rw [zl_app, List.map_append]; exact HP3.out.1), HO3, Lib.hid (by rw [List.map_append]; have h := HP3.out.2.1; rw [HQ.out] at h; exact h), Lib.hid HP3.out.2.2⟩
            case measure => simp [intOf]; have := HLT.out; omega
        · have HNO := Lib.hid c2
          have q3 : ¬ (k : Int) < (T : Int) := by omega
          have q4 : decide (k < LO) = false := by rw [decide_eq_false_iff_not]; omega
          clear c2 hkN
          go_wp2
          go_roundw
          case rel => exact ⟨i + 1, k, ps, aA, aR, cA, cR, vs, by have := HLT.out; omega, HK.out, by go_num, rfl, rfl, Lib.hid (HP.out.no HIO.out (by rw [HK.out]; have := HNO.out; omega)), HOA, HOR, HRV, HBV⟩
          case measure => simp [intOf]; have := HLT.out; omega
      · have q1 : ¬ (x : Int) ≤ (N : Int) := by omega
        have C1 := Lib.hid c1
        clear c1 hkN
        go_wp2
        go_roundw
        case rel => exact ⟨i + 1, k, ps, aA, aR, cA, cR, vs, by have := HLT.out; omega, HK.out, by go_num, rfl, rfl, Lib.hid (HP.out.out HIO.out (by rw [HXX.out]; exact C1.out)), HOA, HOR, HRV, HBV⟩
        case measure => simp [intOf]; have := HLT.out; omega
    · obtain rfl : 255 = i := by omega
      have HEND := Lib.hid (show ps.Nodup ∧ (∀ p, p ∈ ps → 1 ≤ p ∧ p ≤ N) ∧ T ≤ ps.length ∧ ps.length ≤ N from ⟨HP.out.nodup HG.out, HP.out.bd HG.out, HP.out.ge HG.out HOL.out (by have := HB.out; omega) HB.out.2.1, HP.out.le HG.out⟩)
      subst hk
      clear hlt hi hkN
      go_wp2
      go_ret2
      exact ⟨S0, ps, aA, aR, cA, cR, vs, rfl, by rw [HS0.out]; exact HB3.out.size, HOA.out, HOR.out, HRV.out, HEND.out.1, HEND.out.2.1, HEND.out.2.2.1, HEND.out.2.2.2, HBVw.out⟩
end Go.Proofs.YtappfdbmhgifcaaGreatDoor
/- StripeTells: a row that is being made wrong, in memory. -/
namespace Go.Proofs.YtappfdbmhgifcaaGreatDoor
open Go.ChangeShapes Go.WideShapes Go.ChangeAt Go.RowKit Go.Shelf GF
set_option linter.unusedVariables false
set_option linter.unusedSimpArgs false
set_option maxRecDepth 100000

theorem RV.setT {w : World} {ok : Nat → Prop} {vs : List Value} {M : List (List GF)} (h : RV w ok vs M) {i : Nat} (hi : i < M.length) {a : Option Addr} {c : Nat} {P : List GF} (hp : Pa w a P.length c P) (ho : ∀ b off, a = some ⟨b, off, none⟩ → 0 < P.length → ok b) : RV w ok (vs.set i (.slice a P.length c)) (M.set i P) := by
  have hrw : ∀ k, rw_ (M.set i P) k = if k = i ∧ i < M.length then P else rw_ M k := fun k => by
    unfold rw_
    simp only [List.getD_eq_getElem?_getD, List.getElem?_set]
    by_cases e : i = k
    · subst e
      simp [hi]
    · rw [if_neg e, if_neg (fun h => e h.1.symm)]
  refine ⟨by simp [h.1], fun k hk => ?_⟩
  rw [hrw]
  by_cases e : k = i
  · subst e
    rw [if_pos ⟨rfl, hi⟩, List.getElem?_set_self (by rw [h.1]; exact hi)]
    refine ⟨a, c, rfl, hp.1.2.2.2.1, hp.1.2.2.2.2, hp.2, fun h0 => ?_⟩
    obtain ⟨b, off, e, hb, hc⟩ := hp.1.2.2.1 (by rw [length_iL]; exact h0)
    exact ⟨b, off, e, hb, ho b off e h0, fun j hj => by have := hc j (by rw [length_iL]; exact hj); rwa [getD_iL] at this⟩
  · rw [if_neg (fun h => e h.1), List.getElem?_set_ne (fun h => e h.symm)]
    exact h.2 k (by simpa using hk)
/-- An append onto a row that is new and empty, in a plain region. -/
theorem wpList_append_e8 {P : Program} {w : World} {ops : Array Oper} {rest : List Oper} {o : Oper} {a : Act} {Q : Exit → Act → World → Prop} (hgd : o.guard = none) (s x : Operand) (t : TypeId)
    (ho : o.op = .call { callee := .builtin .append, args := #[s, x], argTypes := #[t, t] })
    (i : TypeInfo) (ht : P.underlying t = some (.slice 5)) (hi : P.info? 5 = some i) (hz : i.zero = some (.int .u8 0)) (hsize : i.size = 1) (hby : i.bytes = 1)
    (base HE : Nat) (hs : a.eval s = .slice (some ⟨HE, 0, none⟩) 0 0) (hown : w.ownsRow base 5 1 (.slice (some ⟨HE, 0, none⟩) 0 0) 0 [])
    (b off R c : Nat) (L : List GF) (hx : a.eval x = .slice (some ⟨b, off, none⟩) R c) (hp : Pa w (some ⟨b, off, none⟩) R c L) (hR : 1 ≤ R) (hR2 : R ≤ 1000) (hbase : base ≤ w.heap.size)
    (h : ∀ g cap w', w'.ownsRow base 5 1 (.slice (some ⟨g, 0, none⟩) R cap) R ((iL L).map (Value.int .u8)) → w.grownBy w' (some HE) → wpList P ops Q rest (a.put o.dst (.slice (some ⟨g, 0, none⟩) R cap)) w') :
    wpList P ops Q (o :: rest) a w := by
  refine wpList_append_lies w hgd s x t ho base 5 i (.int .u8 0) 1 1 ht hi hz hsize hby rfl (by decide) (.slice (some ⟨HE, 0, none⟩) 0 0) 0 [] hs hown ⟨b, off, none⟩ R c ((iL L).map (Value.int .u8)) hx ?_ (pa_news17 hp) (ints_oneCell _ _) (by omega) (by unfold maxLen; omega) (by omega) hbase _ rfl ?_
  · rw [List.length_map, length_iL, hp.len, Nat.mul_one]
  · intro g cap w' h1 h2 _ _
    rw [Nat.zero_add] at h1
    rw [Nat.zero_add]
    exact h g cap w' h1 h2
/-- The row that is being made wrong (of block g9, told by P), all rows, the places, and what stays. -/
def TS (w7 V U : World) (S0 gR gA g9 M R cR cA c9 i : Nat) (vs xs : List Value) (P : List GF) : Prop :=
  U.ownsRow V.heap.size 5 1 (.slice (some ⟨g9, 0, none⟩) R c9) R ((iL P).map (Value.int .u8)) ∧
  U.ownsRow S0 22 1 (.slice (some ⟨gR, 0, none⟩) M cR) M (vs.set i (.slice (some ⟨g9, 0, none⟩) R c9)) ∧
  U.ownsRow S0 3 1 (.slice (some ⟨gA, 0, none⟩) M cA) M xs ∧ V.heap.size ≤ U.heap.size ∧ (∀ b, b < V.heap.size → TyU V b → U.heap[b]? = V.heap[b]?) ∧ Below w7.heap.size w7 U
theorem TS.on {w7 V U U' : World} {S0 gR gA g9 M R cR cA c9 i : Nat} {vs xs : List Value} {P : List GF} (h : TS w7 V U S0 gR gA g9 M R cR cA c9 i vs xs P) (hb : Below U.heap.size U U') : TS w7 V U' S0 gR gA g9 M R cR cA c9 i vs xs P := by
  obtain ⟨h1, h2, h3, h4, h5, h6⟩ := h
  have := hb.size
  exact ⟨own_belowV h1 hb, own_belowV h2 hb, own_belowV h3 hb, by omega, fun b hl ht => (hb.block b (by omega)).trans (h5 b hl ht), bt h6 hb⟩
theorem TS.put {w7 V U : World} {S0 gR gA g9 M R cR cA c9 i : Nat} {vs xs : List Value} {P : List GF} (h : TS w7 V U S0 gR gA g9 M R cR cA c9 i vs xs P) (hV : w7.heap.size ≤ V.heap.size) (k : Nat) (x : GF) : TS w7 V (U.setCell ⟨g9, k, none⟩ (.int .u8 (toI x))) S0 gR gA g9 M R cR cA c9 i vs xs (P.set k x) := by
  obtain ⟨h1, h2, h3, h4, h5, h6⟩ := h
  have hs := h1.stored k (.int .u8 (toI x))
  have hge : V.heap.size ≤ g9 := (h1.lt g9 rfl).1
  have hsz := hs.2.size
  refine ⟨?_, h2.kept hs.2 (own_neC h2 h1 (by decide)), h3.kept hs.2 (own_neC h3 h1 (by decide)), by omega, fun b hl ht => (hs.2.block b (by omega) (fun e => by cases e; omega)).trans (h5 b hl ht), h6.setCell (p := ⟨g9, k, none⟩) (by show w7.heap.size ≤ g9; omega) _⟩
  have e := hs.1
  rwa [map_set_u8, show (iL P).set k (toI x) = iL (P.set k x) by simp [iL, List.map_set]] at e
theorem TS.byte {w7 V U : World} {S0 gR gA g9 M R cR cA c9 i : Nat} {vs xs : List Value} {P : List GF} (h : TS w7 V U S0 gR gA g9 M R cR cA c9 i vs xs P) {k : Nat} (hk : k < R) : U.cell? ⟨g9, k, none⟩ = some (.int .u8 (toI (co P k))) := by
  have := own_cells h.1 k hk
  rwa [Nat.zero_add, getD_iL] at this
theorem TS.fz {w7 V U : World} {S0 gR gA g9 M R cR cA c9 i : Nat} {vs xs : List Value} {P : List GF} (h : TS w7 V U S0 gR gA g9 M R cR cA c9 i vs xs P) (k : Nat) : U.frozen? ⟨g9, k, none⟩ = false := h.1.frozenAt k
theorem TS.row {w7 V U : World} {S0 gR gA g9 M R cR cA c9 i : Nat} {vs xs : List Value} {P : List GF} (h : TS w7 V U S0 gR gA g9 M R cR cA c9 i vs xs P) (hi : i < M) : U.cell? ⟨gR, i, none⟩ = some (.slice (some ⟨g9, 0, none⟩) R c9) := by
  have hl : (vs.set i (.slice (some ⟨g9, 0, none⟩) R c9)).length = M := by have := h.2.1.1; simpa using this
  rw [h.2.1.cellAt i (by omega), List.getElem?_set_self (by simpa using (show i < (vs.set i (.slice (some ⟨g9, 0, none⟩) R c9)).length by omega))]
/-- The copy is made, and stands among the rows. -/
theorem TS.new {w7 V W : World} {S0 gR gA g9 M R cR cA c9 i : Nat} {vs xs : List Value} {P : List GF} (hV : w7.heap.size ≤ V.heap.size) (h7 : Below w7.heap.size w7 V) (hS : w7.heap.size ≤ S0)
    (hR : V.ownsRow S0 22 1 (.slice (some ⟨gR, 0, none⟩) M cR) M vs) (hA : V.ownsRow S0 3 1 (.slice (some ⟨gA, 0, none⟩) M cA) M xs)
    (hg : (V.alloc (.cells #[] 5)).grownBy W (some V.heap.size)) (ho : W.ownsRow V.heap.size 5 1 (.slice (some ⟨g9, 0, none⟩) R c9) R ((iL P).map (Value.int .u8))) :
    TS w7 V (W.setCell ⟨gR, i, none⟩ (.slice (some ⟨g9, 0, none⟩) R c9)) S0 gR gA g9 M R cR cA c9 i vs xs P := by
  have hE : (V.alloc (.cells #[] 5)).ownsRow V.heap.size 5 1 (.slice (some ⟨V.heap.size, 0, none⟩) 0 0) 0 [] := own_emptyH V _ _ rfl
  have hg' : (V.alloc (.cells #[] 5)).grownBy W (Value.slice (some ⟨V.heap.size, 0, none⟩) 0 0).ownBlock := hg
  have hbA : Below V.heap.size V (V.alloc (.cells #[] 5)) := (Below.refl _ _).alloc (Nat.le_refl _) _
  have hRW := (hR.alloc (.cells #[] 5)).kept hg' (own_neC (hR.alloc _) hE (by decide))
  have hAW := (hA.alloc (.cells #[] 5)).kept hg' (own_neC (hA.alloc _) hE (by decide))
  have hst := hRW.stored i (.slice (some ⟨g9, 0, none⟩) R c9)
  have hs1 := hg.size
  have hs2 := hst.2.size
  have hs0 := hbA.size
  have h7W : Below w7.heap.size w7 W := (bt h7 hbA).grown hg (by omega) (fun z hz => by cases hz; omega)
  have hgR : S0 ≤ gR := (hR.lt gR rfl).1
  refine ⟨ho.kept hst.2 (own_neC ho hRW (by decide)), hst.1, hAW.kept hst.2 (own_neC hAW hRW (by decide)), by omega, fun b hl ht => ?_, h7W.setCell (p := ⟨gR, i, none⟩) (by show w7.heap.size ≤ gR; omega) _⟩
  have k1 : W.heap[b]? = V.heap[b]? := (hg.block b (by omega) (fun e => by cases e; omega)).trans (hbA.block b hl)
  have tW : TyU W b := by obtain ⟨cur, fz, e⟩ := ht; exact ⟨cur, fz, by rw [k1]; exact e⟩
  exact ((tW.grown hRW (by decide) hst.2).1).trans k1
theorem TS.fin {w7 V U : World} {S0 gR gA g9 M R cR cA c9 i : Nat} {vs xs : List Value} {P : List GF} {Mx : List (List GF)} (h : TS w7 V U S0 gR gA g9 M R cR cA c9 i vs xs P) (hr : RV V (NewU V S0) vs Mx) (hi : i < Mx.length) (hS : S0 ≤ V.heap.size) :
    RV U (NewU U S0) (vs.set i (.slice (some ⟨g9, 0, none⟩) R c9)) (Mx.set i P) := by
  obtain ⟨a', c', e, hp, _⟩ := Pa.own h.1
  cases e
  have hl := hp.len
  have hge : V.heap.size ≤ g9 := (h.1.lt g9 rfl).1
  have h2 := RV.setT (hr.far h.2.2.2.1 h.2.2.2.2.1) hi (a := some ⟨g9, 0, none⟩) (c := c9) (P := P) (by rw [hl]; exact hp) (fun b off e _ => by
    cases e
    refine ⟨by omega, ?_⟩
    rcases h.1.2 with ⟨e1, _⟩ | ⟨g, cap, cur, e1, _, hh, _⟩
    · cases e1
    · cases e1
      exact ⟨_, _, hh⟩)
  rw [hl] at h2
  exact h2
end Go.Proofs.YtappfdbmhgifcaaGreatDoor
