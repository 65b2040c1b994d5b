/- The walk of the laws' Unlike. -/
import Derived.Test.YtmhknggjpggagaaSu
namespace Go.Proofs.Ytmhknggjpggagaa
open Go.ChangeShapes Go.WideShapes Go.ChangeAt Go.RowKit Go.Shelf GF
set_option linter.unusedVariables false
set_option linter.unusedSimpArgs false
set_option maxRecDepth 100000

theorem own_apart {w : World} {base : Nat} {e : TypeId} {v : Value} {n : Nat} {xs : List Value} (h : w.ownsRow base e 1 v n xs) {b : Nat} (hb : b < base) : v.ownBlock = none ∨ v.ownBlock ≠ some b := by
  cases hv : v.ownBlock with
  | none => exact .inl rfl
  | some k => exact .inr fun e => by have := own_blkGe h k hv; injection e with e; omega
set_option maxHeartbeats 3000000 in
open Go.Maps in
theorem unlike8_any (a : Option Addr) (L c : Nat) (X : List GF) (n : Nat) (w : World) (hx : Pa w a L c X) (hn : n ≤ 200) :
    Calls Try.prog 10 #[.slice a L c, .int .i64 (n : Nat)] w fun e w' => ∃ (a' : Option Addr) (c' : Nat) (O : List GF), e = .returned (.slice a' n c') ∧ Pa w' a' n c' O ∧ Gath O n ∧ O.length = n ∧ (∀ b off, a' = some ⟨b, off, none⟩ → w.heap.size ≤ b) ∧ Below w.heap.size w w' := by
  obtain ⟨i5, hi, hz0, hz1, hz2⟩ := info_parts info5
  have HI := Lib.hid (show Try.prog.info? 5 = some i5 ∧ i5.zero = some (.int .u8 0) ∧ i5.size = 1 ∧ i5.bytes = 1 from ⟨hi, hz0, hz1, hz2⟩)
  have HX := Lib.hid hx
  have HXL := Lib.hid hx.len
  have HN := Lib.hid hn
  have qn : (n : Int) ≤ 200 := by omega
  have hmm := @run_makeMap Try.prog
  have HK0 := Lib.hid (show keyOf Try.prog 5 (.int .u8 0) = some (keyG 0) from keyOf_int_mk Try.underlying5 (keyG_wf 0))
  have HOM := Lib.hid (show (w.alloc (.map #[] 0)).ownsMap Try.prog 5 (plainElem (H := Unit) Try.prog 4) w.heap.size 0 (.map []) from World.ownsMap_made _ _ _ _)
  have HB0 := Lib.hid (show Below w.heap.size w (w.alloc (.map #[] 0)) from (Below.refl _ _).alloc (Nat.le_refl _) _)
  clear hx hn hi hz0 hz1 hz2
  go_enter Try.func10, Try.ntmps10
  go_upto_region 2 with ((with_reducible show wpList _ _ _ (⟨none, _, _, _, _, _⟩ :: _) _ _); go_loud (refine wpList_insert_own _ rfl (.tmp 13) (.const (.int .u8 0)) (.const (.bool true)) 52 rfl 5 4 lawU Try.underlying52 (plainElem (H := Unit) Try.prog 4) w.heap.size 0 (.map []) rfl HOM.out (by unfold maxLen; omega) (.int .u8 0) (.bool true) (keyG 0) rfl rfl HK0.out (.lit (.bool true)) [] (plainElem_bool Try.underlying4 true) ?_; intro w1 ho1 hg1))
  have HO1 := Lib.hid (ownsMap_size ho1)
  have HB1 := Lib.hid (HB0.out.grown hg1 HB0.out.size (fun j hj => by cases hj; exact Nat.le_refl _))
  have HS1 := Lib.hid (show SeenF ((DataW.map []).put (keyG 0) (.lit (.bool true))) (putF (fun _ => false) 0) from SeenF.put (fun y => rfl) (HOM.out.tidy lawU) 0)
  have HH1 := Lib.hid (show HasF ((DataW.map []).put (keyG 0) (.lit (.bool true))) (putF (fun _ => false) 0) from HasF.none.put (HOM.out.tidy lawU) 0 _)
  have HSZ := Lib.hid (show w.heap.size < w1.heap.size by have := hg1.size; simp at this; omega)
  clear ho1 hg1 hmm HOM
  go_upto_region 4 with fail
  go_loopw [6, 17] (fun o s wr => ∃ (k m : Nat) (O : List GF) (D : DataW Unit) (f : GF → Bool), k ≤ L ∧ s = .int .i64 (k : Nat) ∧ Hid (O.length = m) ∧ wr.ownsRow (w.heap.size + 1) 5 1 o m ((iL O).map (Value.int .u8)) ∧ wr.ownsMap Try.prog 5 (plainElem (H := Unit) Try.prog 4) w.heap.size (size D) D ∧ Hid (SeenF D f) ∧ Hid (HasF D f) ∧ Hid (f 0 = true ∧ ∀ y, y ∈ O → f y = true) ∧ Hid (Gath O n) ∧ Hid (Below w.heap.size w wr) ∧ Hid (w.heap.size < wr.heap.size)) (fun _ s _ => L - (intOf s).toNat)
  case atStart => exact ⟨0, 0, [], _, _, by omega, rfl, Lib.hid rfl, own_nilG _ _ _, HO1.out, HS1, HH1, Lib.hid ⟨by unfold putF; rw [if_pos rfl], fun y hy => by cases hy⟩, Lib.hid ⟨List.nodup_nil, by simp, Nat.zero_le _⟩, HB1, HSZ⟩
  case round =>
    obtain ⟨k, m, O, D, f, hk, rfl, hm, hrow, hmap, HS, HH, HF, HG, HB, HLT⟩ := hrel
    rename World => V
    have HK := Lib.hid hk
    have HML := Lib.hid hm.out
    have HRW := Lib.hid hrow
    have HMP := Lib.hid hmap
    clear hk hm hrow hmap HO1 HB1 HS1 HH1 HSZ
    obtain ⟨ao, cap, ho, _⟩ := own_form HRW.out
    subst ho
    have HMN := Lib.hid (show m ≤ n by rw [← HML.out]; exact HG.out.2.2)
    by_cases hlt : k < L
    · as_aux_lemma =>
        obtain ⟨bx, ox, rfl, hbx, hcx⟩ := (HX.out.on HB.out).at_ hlt
        have q2 : (k : Int) < (L : Int) := by omega
        have q3 : (0 : Int) ≤ (k : Int) := by omega
        have HLK := Lib.hid hlt
        have qL : (L : Int) ≤ 9223372036854775807 := by have := HX.out.bd; omega
        have hkey : keyOf Try.prog 5 (.int .u8 (toI (co X k))) = some (keyG (co X k)) := keyOf_int_mk Try.underlying5 (keyG_wf _)
        have HT := Lib.hid (HMP.out.tidy lawU)
        have HKM := Lib.hid (show size D < maxLen from Nat.lt_of_le_of_lt (Nat.le_trans HH.out.2 (cntF_le f)) (by unfold maxLen; omega))
        have HSN := Lib.hid (HS.out.put HT.out (co X k))
        have HHN := Lib.hid (HH.out.put HT.out (co X k) (.lit (.bool true)))
        clear hlt hbx
        cases hs : f (co X k) with
        | true =>
          have HAT := Lib.hid (show D.atKey (keyG (co X k)) (.lit (.bool false)) = .lit (.bool true) by rw [HS.out, hs])
          clear hs
          go_wp2_with (first
            | (at_lookup; refine wpList_lookup_own_bool _ rfl _ _ 52 rfl 5 4 lawU Try.underlying52 Try.underlying4 (zeroB _) w.heap.size (size D) D rfl HMP.out _ _ rfl hkey _ HAT.out ?_)
            | (at_mapUpdate; refine wpList_mapUpdate_own _ rfl _ _ _ 52 rfl 5 4 lawU Try.underlying52 _ w.heap.size (size D) D rfl HMP.out HKM.out _ _ _ rfl rfl hkey _ [] (plainElem_bool Try.underlying4 true) ?_; intro W9 hownW9 hgrowW9))
          go_roundw
          case rel =>
            have hrel := show ∃ (k' m' : Nat) (O' : List GF) (D' : DataW Unit) (f' : GF → Bool), k' ≤ L ∧ Value.int .i64 ((k : Int) + 1) = .int .i64 (k' : Nat) ∧ Hid (O'.length = m') ∧ W9.ownsRow (w.heap.size + 1) 5 1 (.slice ao m cap) m' ((iL O').map (Value.int .u8)) ∧ W9.ownsMap Try.prog 5 (plainElem (H := Unit) Try.prog 4) w.heap.size (size D') D' ∧ Hid (SeenF D' f') ∧ Hid (HasF D' f') ∧ Hid (f' 0 = true ∧ ∀ y, y ∈ O' → f' y = true) ∧ Hid (Gath O' n) ∧ Hid (Below w.heap.size w W9) ∧ Hid (w.heap.size < W9.heap.size) from
              ⟨k + 1, m, O, _, putF f (co X k), HLK.out, by go_num, HML, HRW.out.kept hgrowW9 (own_apart HRW.out (Nat.lt_succ_self _)), ownsMap_size hownW9, HSN, HHN, Lib.hid ⟨by unfold putF; split; rfl; exact HF.out.1, fun y hy => by unfold putF; split; rfl; exact HF.out.2 y hy⟩, HG, Lib.hid (HB.out.grown hgrowW9 HB.out.size (fun j hj => by cases hj; exact Nat.le_refl _)), Lib.hid (Nat.lt_of_lt_of_le HLT.out hgrowW9.size)⟩
            first
              | exact hrel
              | ((repeat apply Exists.intro); exact ⟨hrel, rfl⟩)
          case measure => simp [intOf] <;> (have := HLK.out; omega)
        | false =>
          have HAT := Lib.hid (show D.atKey (keyG (co X k)) (.lit (.bool false)) = .lit (.bool false) by rw [HS.out, hs])
          have HNO := Lib.hid (show co X k ∉ O from fun h => by rw [HF.out.2 _ h] at hs; cases hs)
          have HNZ := Lib.hid (show co X k ≠ 0 from fun h => by rw [h, HF.out.1] at hs; cases hs)
          clear hs
          by_cases hmn : m < n
          · have qm : (m : Int) < (n : Int) := by omega
            have HMO := Lib.hid (show m ≤ 1000000 by have := HN.out; omega)
            have HGN := Lib.hid (HG.out.more HNO.out HNZ.out (by rw [HML.out]; exact hmn))
            have HLE := Lib.hid (show w.heap.size + 1 ≤ V.heap.size from HLT.out)
            obtain ⟨x, hxx⟩ : ∃ x, x = co X k := ⟨_, rfl⟩
            rw [← hxx] at hcx hkey HAT HSN HHN HGN
            have HXX := Lib.hid hxx
            clear hmn hxx
            go_wp2_with (first
              | (at_lookup; refine wpList_lookup_own_bool _ rfl _ _ 52 rfl 5 4 lawU Try.underlying52 Try.underlying4 (zeroB _) w.heap.size (size D) D rfl HMP.out _ _ rfl hkey _ HAT.out ?_)
              | ((with_reducible show wpList _ _ _ (⟨some 34, _, _, _, _, _⟩ :: _) _ _); go_loud (refine wpList_append_G1 rfl (.tmp 31) (.tmp 33) 22 rfl (w.heap.size + 1) 5 i5 Try.underlying22 HI.out.1 HI.out.2.1 HI.out.2.2.1 HI.out.2.2.2 (.slice ao m cap) m O rfl HRW.out x 5 rfl HMO.out HLE.out ?_; intro g5 c5 w5 ho5 hb5; have HO5 := Lib.hid ho5; have HB5 := Lib.hid hb5; have HM5 := Lib.hid (ownsMap_on HMP.out hb5 (Nat.lt_succ_self _)); clear ho5 hb5))
              | (at_mapUpdate; refine wpList_mapUpdate_own _ rfl _ _ _ 52 rfl 5 4 lawU Try.underlying52 _ w.heap.size (size D) D rfl HM5.out HKM.out _ _ _ rfl rfl hkey _ [] (plainElem_bool Try.underlying4 true) ?_; intro W9 hownW9 hgrowW9))
            go_roundw
            case rel =>
              have hrel := show ∃ (k' m' : Nat) (O' : List GF) (D' : DataW Unit) (f' : GF → Bool), k' ≤ L ∧ Value.int .i64 ((k : Int) + 1) = .int .i64 (k' : Nat) ∧ Hid (O'.length = m') ∧ W9.ownsRow (w.heap.size + 1) 5 1 ((.slice (some ⟨g5, 0, none⟩) (m + 1) c5)) m' ((iL O').map (Value.int .u8)) ∧ W9.ownsMap Try.prog 5 (plainElem (H := Unit) Try.prog 4) w.heap.size (size D') D' ∧ Hid (SeenF D' f') ∧ Hid (HasF D' f') ∧ Hid (f' 0 = true ∧ ∀ y, y ∈ O' → f' y = true) ∧ Hid (Gath O' n) ∧ Hid (Below w.heap.size w W9) ∧ Hid (w.heap.size < W9.heap.size) from
                ⟨k + 1, m + 1, O ++ [x], _, putF f x, HLK.out, by go_num, Lib.hid (by rw [List.length_append, HML.out]; rfl), HO5.out.kept hgrowW9 (own_apart HO5.out (Nat.lt_succ_self _)), ownsMap_size hownW9, HSN, HHN, Lib.hid ⟨by unfold putF; split; rfl; exact HF.out.1, fun y hy => by unfold putF; split; rfl; rename_i hne; exact HF.out.2 y ((List.mem_append.1 hy).resolve_right (fun h => hne (by rw [List.mem_singleton.1 h])))⟩, HGN, Lib.hid ((HB.out.trans (HB5.out.mono (Nat.le_succ _))).grown hgrowW9 (Nat.le_trans HB.out.size HB5.out.size) (fun j hj => by cases hj; exact Nat.le_refl _)), Lib.hid (Nat.lt_of_lt_of_le HLT.out (Nat.le_trans HB5.out.size hgrowW9.size))⟩
              first
                | exact hrel
                | ((repeat apply Exists.intro); exact ⟨hrel, rfl⟩)
            case measure => simp [intOf] <;> (have := HLK.out; omega)
          · have qm : (n : Int) ≤ (m : Int) := by omega
            clear hmn
            go_wp2_with (first
              | (at_lookup; refine wpList_lookup_own_bool _ rfl _ _ 52 rfl 5 4 lawU Try.underlying52 Try.underlying4 (zeroB _) w.heap.size (size D) D rfl HMP.out _ _ rfl hkey _ HAT.out ?_)
              | (at_mapUpdate; refine wpList_mapUpdate_own _ rfl _ _ _ 52 rfl 5 4 lawU Try.underlying52 _ w.heap.size (size D) D rfl HMP.out HKM.out _ _ _ rfl rfl hkey _ [] (plainElem_bool Try.underlying4 true) ?_; intro W9 hownW9 hgrowW9))
            go_roundw
            case rel =>
              have hrel := show ∃ (k' m' : Nat) (O' : List GF) (D' : DataW Unit) (f' : GF → Bool), k' ≤ L ∧ Value.int .i64 ((k : Int) + 1) = .int .i64 (k' : Nat) ∧ Hid (O'.length = m') ∧ W9.ownsRow (w.heap.size + 1) 5 1 (.slice ao m cap) m' ((iL O').map (Value.int .u8)) ∧ W9.ownsMap Try.prog 5 (plainElem (H := Unit) Try.prog 4) w.heap.size (size D') D' ∧ Hid (SeenF D' f') ∧ Hid (HasF D' f') ∧ Hid (f' 0 = true ∧ ∀ y, y ∈ O' → f' y = true) ∧ Hid (Gath O' n) ∧ Hid (Below w.heap.size w W9) ∧ Hid (w.heap.size < W9.heap.size) from
                ⟨k + 1, m, O, _, putF f (co X k), HLK.out, by go_num, HML, HRW.out.kept hgrowW9 (own_apart HRW.out (Nat.lt_succ_self _)), ownsMap_size hownW9, HSN, HHN, Lib.hid ⟨by unfold putF; split; rfl; exact HF.out.1, fun y hy => by unfold putF; split; rfl; exact HF.out.2 y hy⟩, HG, Lib.hid (HB.out.grown hgrowW9 HB.out.size (fun j hj => by cases hj; exact Nat.le_refl _)), Lib.hid (Nat.lt_of_lt_of_le HLT.out hgrowW9.size)⟩
              first
                | exact hrel
                | ((repeat apply Exists.intro); exact ⟨hrel, rfl⟩)
            case measure => simp [intOf] <;> (have := HLK.out; omega)
    · as_aux_lemma =>
        obtain rfl : k = L := by have := HK.out; omega
        clear HS HH HF HMP HK0 HX HXL HK
        go_upto_region 11 with fail
        go_loopw [6, 9] (fun o s wr => ∃ (j m : Nat) (O : List GF), 1 ≤ j ∧ j ≤ 201 ∧ s = .int .u8 (j : Nat) ∧ Hid (O.length = m) ∧ wr.ownsRow (w.heap.size + 1) 5 1 o m ((iL O).map (Value.int .u8)) ∧ Hid (Gath O n) ∧ Hid (∀ y : GF, 1 ≤ y.1 → y.1 < j → y ∈ O) ∧ Hid (Below w.heap.size w wr) ∧ Hid (w.heap.size < wr.heap.size)) (fun _ s _ => 256 - (intOf s).toNat)
        case atStart => exact ⟨1, m, O, by omega, by omega, rfl, HML, HRW.out, HG, Lib.hid (fun y h1 h2 => by omega), HB, HLT⟩
        case round =>
          clear HML HG HB HLT HMN HRW
          obtain ⟨j, m, O, hj, hj2, rfl, HML, hrow, HG, HA, HB, HLT⟩ := hrel
          rename World => U
          have HRW := Lib.hid hrow
          clear hrow
          obtain ⟨ao, cap, ho, hpa, hao⟩ := Pa.own HRW.out
          subst ho
          have HPA := Lib.hid hpa
          have HAO := Lib.hid hao
          have HMB := Lib.hid (show m ≤ n by rw [← HML.out]; exact HG.out.2.2)
          clear hpa hao
          by_cases hmn : m < n
          · have qm : (m : Int) < (n : Int) := by omega
            have hjm : j ≤ m + 1 := by
              have h := holes (j - 1) O (by omega) (fun y h1 h2 => HA.out y h1 (by omega))
              rw [HML.out] at h
              omega
            have qj : (0 : Int) < (j : Int) := by omega
            have qj2 : (j : Int) ≤ 200 := by have := HN.out; omega
            have HJ := Lib.hid (show 1 ≤ j ∧ j ≤ 200 by have := HN.out; omega)
            have HMN := Lib.hid hmn
            clear hj hj2 hjm hmn
            go_upto_region 15 with fail
            go_loop [10, 50] (fun b s => ∃ i : Nat, i ≤ m ∧ s = .int .i64 (i : Nat) ∧ b = .bool (snN O i j)) (fun _ s => m - (intOf s).toNat)
            case atStart => exact ⟨0, by omega, rfl, by rw [snN_zero]⟩
            case round =>
              obtain ⟨i, hi, rfl, rfl⟩ := hrel
              have HIM := Lib.hid hi
              clear hi
              by_cases hlt : i < m
              · obtain ⟨bx, ox, rfl, hbx, hcx0⟩ := HPA.out.at_ hlt
                have hcx : U.cell? ⟨bx, ox + i, none⟩ = some (.int .u8 (((co O i).1 : Nat) : Int)) := hcx0
                have q2 : (i : Int) < (m : Int) := by omega
                have q3 : (0 : Int) ≤ (i : Int) := by omega
                have qm9 : (m : Int) ≤ 200 := by have := HN.out; have := HMB.out; omega
                have HLI := Lib.hid hlt
                have HNX := Lib.hid (snN_next (X := O) (k := i) (by rw [HML.out]; exact hlt) j)
                obtain ⟨z, hz⟩ : ∃ z, z = (co O i).1 := ⟨_, rfl⟩
                rw [← hz] at hcx HNX
                clear hcx0 hlt hbx hz
                cases hs : snN O i j with
                | true =>
                  have HE := Lib.hid (show snN O (i + 1) j = true by rw [HNX.out, hs]; split <;> rfl)
                  clear hs
                  go_wp2
                  go_round
                  case rel => exact ⟨i + 1, HLI.out, by go_num, by rw [HE.out]⟩
                  case measure => simp [intOf] <;> (have := HLI.out; omega)
                | false =>
                  by_cases e : j = z
                  · have HE := Lib.hid (show snN O (i + 1) j = true by rw [HNX.out, if_pos e])
                    have qe : ((j : Int) == (z : Int)) = true := by rw [beq_iff_eq]; omega
                    clear hs e
                    go_wp2
                    go_round
                    case rel => exact ⟨i + 1, HLI.out, by go_num, by rw [HE.out]⟩
                    case measure => simp [intOf] <;> (have := HLI.out; omega)
                  · have HE := Lib.hid (show snN O (i + 1) j = false by rw [HNX.out, if_neg e, hs])
                    have qe : ((j : Int) == (z : Int)) = false := by rw [beq_eq_false_iff_ne]; omega
                    clear hs e
                    go_wp2
                    go_round
                    case rel => exact ⟨i + 1, HLI.out, by go_num, by rw [HE.out]⟩
                    case measure => simp [intOf] <;> (have := HLI.out; omega)
              · obtain rfl : i = m := by have := HIM.out; omega
                have hj256 : j < 256 := by have := HJ.out; omega
                have HME := Lib.hid (show snN O i j = true ↔ (⟨j, hj256⟩ : GF) ∈ O by rw [← HML.out]; exact snN_mem (y := ⟨j, hj256⟩))
                clear hlt
                cases hs : snN O i j with
                | true =>
                  have HIN := Lib.hid (HME.out.1 hs)
                  clear hs
                  go_wp2
                  go_roundw
                  case rel =>
                    have hrel := show ∃ (j' m' : Nat) (O' : List GF), 1 ≤ j' ∧ j' ≤ 201 ∧ Value.int .u8 ((j : Int) + 1) = .int .u8 (j' : Nat) ∧ Hid (O'.length = m') ∧ U.ownsRow (w.heap.size + 1) 5 1 (.slice ao i cap) m' ((iL O').map (Value.int .u8)) ∧ Hid (Gath O' n) ∧ Hid (∀ y : GF, 1 ≤ y.1 → y.1 < j' → y ∈ O') ∧ Hid (Below w.heap.size w U) ∧ Hid (w.heap.size < U.heap.size) from
                      ⟨j + 1, i, O, by omega, by have := HJ.out; omega, by go_num, HML, HRW.out, HG, Lib.hid (fun y h1 h2 => by
                        by_cases e : y.1 = j
                        · have : y = (⟨j, hj256⟩ : GF) := GF.ext e
                          rw [this]; exact HIN.out
                        · exact HA.out y h1 (by omega)), HB, HLT⟩
                    first
                      | exact hrel
                      | ((repeat apply Exists.intro); exact ⟨hrel, rfl⟩)
                  case measure => simp [intOf] <;> (have := HJ.out; omega)
                | false =>
                  have HNI := Lib.hid (show (⟨j, hj256⟩ : GF) ∉ O from fun h => by rw [HME.out.2 h] at hs; cases hs)
                  have HGN := Lib.hid (HG.out.more HNI.out (fun h => by have := congrArg (fun g : GF => g.1) h; have h2 : j = 0 := this; have := HJ.out; omega) (by rw [HML.out]; exact HMN.out))
                  have HMO := Lib.hid (show i ≤ 1000000 by have := HN.out; have := HMB.out; omega)
                  have HLE := Lib.hid (show w.heap.size + 1 ≤ U.heap.size from HLT.out)
                  clear hs
                  go_wp2_with ((with_reducible show wpList _ _ _ (⟨some 66, _, _, _, _, _⟩ :: _) _ _); go_loud (refine wpList_append_G1 rfl (.tmp 63) (.tmp 65) 22 rfl (w.heap.size + 1) 5 i5 Try.underlying22 HI.out.1 HI.out.2.1 HI.out.2.2.1 HI.out.2.2.2 (.slice ao i cap) i O rfl HRW.out (⟨j, hj256⟩ : GF) 5 rfl HMO.out HLE.out ?_; intro g5 c5 w5 ho5 hb5; have HO5 := Lib.hid ho5; have HB5 := Lib.hid hb5; clear ho5 hb5))
                  go_roundw
                  case rel =>
                    have hrel := show ∃ (j' m' : Nat) (O' : List GF), 1 ≤ j' ∧ j' ≤ 201 ∧ Value.int .u8 ((j : Int) + 1) = .int .u8 (j' : Nat) ∧ Hid (O'.length = m') ∧ w5.ownsRow (w.heap.size + 1) 5 1 (.slice (some ⟨g5, 0, none⟩) (i + 1) c5) m' ((iL O').map (Value.int .u8)) ∧ Hid (Gath O' n) ∧ Hid (∀ y : GF, 1 ≤ y.1 → y.1 < j' → y ∈ O') ∧ Hid (Below w.heap.size w w5) ∧ Hid (w.heap.size < w5.heap.size) from
                      ⟨j + 1, i + 1, O ++ [⟨j, hj256⟩], by omega, by have := HJ.out; omega, by go_num, Lib.hid (by rw [List.length_append, HML.out]; rfl), HO5.out, HGN, Lib.hid (fun y h1 h2 => by
                        by_cases e : y.1 = j
                        · have : y = (⟨j, hj256⟩ : GF) := GF.ext e
                          rw [this]; exact List.mem_append_right _ (List.mem_singleton.2 rfl)
                        · exact List.mem_append_left _ (HA.out y h1 (by omega))), Lib.hid (HB.out.trans (HB5.out.mono (Nat.le_succ _))), Lib.hid (Nat.lt_of_lt_of_le HLT.out HB5.out.size)⟩
                    first
                      | exact hrel
                      | ((repeat apply Exists.intro); exact ⟨hrel, rfl⟩)
                  case measure => simp [intOf] <;> (have := HJ.out; omega)
          · obtain rfl : m = n := by have := HMB.out; omega
            clear hmn hj hj2
            go_wp2
            go_ret
            exact ⟨ao, cap, O, rfl, HPA.out, HG.out, HML.out, fun b off e => by have := (HAO.out b off e).1; omega, HB.out⟩
end Go.Proofs.Ytmhknggjpggagaa
