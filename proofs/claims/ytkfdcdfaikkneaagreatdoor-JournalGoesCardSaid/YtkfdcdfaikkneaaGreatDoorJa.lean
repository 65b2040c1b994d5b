/- The contract of hash's add: bytes behind those so far. -/
import Derived.Test.YtkfdcdfaikkneaaGreatDoorQJ1
import Derived.Test.YtkfdcdfaikkneaaGreatDoorQJ2
import Derived.StillTailTactics
import Derived.Shelf.RegionOpen
import Derived.Deep.DrawnRows
import Derived.Deep.CutRange
namespace Go.Proofs.YtkfdcdfaikkneaaGreatDoor
open Go.ChangeShapes Go.WideShapes Go.ChangeAt Go.RowKit
set_option linter.unusedVariables false
set_option linter.unusedSimpArgs false
set_option maxRecDepth 100000

theorem Blk.rangeT {w : World} {b : Nat} {T : TypeId} {n : Nat} {f : Nat → Value} (h : Blk w b T n f) {m : Nat} {k : Nat → Value} (hm : m ≤ n) (e : ∀ j, j < m → f j = k j) : w.rangeAt b 0 (tabV m k).toList := fun j v hj => by
  rw [Array.getElem?_toList] at hj
  by_cases hjm : j < m
  · rw [get_tabV hjm] at hj
    rw [Nat.zero_add, h.cell (by omega), e j hjm]
    exact hj
  · rw [Array.getElem?_eq_none (by rw [size_tabV]; omega)] at hj; cases hj
/-- The running sum at block g: the bytes M so far, of which W waits. -/
def Rn (w : World) (g : Nat) (M W : List Int) : Prop := Blk w g 158 73 (runV (hF M (M.length / 64)) W M.length) ∧ Wait M W
theorem drop_add (l : List Int) (k m : Nat) : (l.drop k).drop m = l.drop (k + m) := by rw [List.drop_drop]
theorem take_more (l : List Int) (k m : Nat) : l.take k ++ (l.drop k).take m = l.take (k + m) := by rw [List.take_add]
set_option maxHeartbeats 3000000 in
theorem add_any (g : Nat) (M W : List Int) (a : Option Addr) (L c : Nat) (l : List Int) (w : World) (hR : Rn w g M W) (hl : l.length = L) (hB : AllB l) (hb : Bs w w.heap.size a l) (hc : L ≤ c) (hne : 0 < L → ∀ b off, a = some ⟨b, off, none⟩ → b ≠ g) (hG : Gl w) (hg : 2 ≤ g) (hn : M.length + L ≤ 900000) :
    Calls Tryz.prog 90 #[.pointer (some ⟨g, 0, none⟩), .slice a L c] w fun e w' => e = .returned (.tuple #[]) ∧ w.grownBy w' (some g) ∧ ∃ W', Rn w' g (M ++ l) W' := by
  have HR0 := Lib.hid hR
  have HL := Lib.hid hl
  have HAB := Lib.hid hB
  have HS0 := Lib.hid hb
  have HC0 := Lib.hid hc
  have HNE0 := Lib.hid hne
  have HGL := Lib.hid hG
  have HG2 := Lib.hid hg
  have HN := Lib.hid hn
  have HGW := Lib.hid (show g < w.heap.size from hR.1.lt)
  clear hR hl hB hb hc hne hG hg hn
  go_enter Tryz.func90, Tryz.ntmps90
  go_wp2_with fail
  go_loopw [1] (fun bv wr => ∃ (k d : Nat) (a' : Option Addr) (c' : Nat) (W' : List Int), k + d = L ∧ bv = .slice a' d c' ∧ d ≤ c' ∧ Bs wr wr.heap.size a' (l.drop k) ∧ (0 < d → ∀ b off, a' = some ⟨b, off, none⟩ → b ≠ g) ∧ Rn wr g (M ++ l.take k) W' ∧ w.grownBy wr (some g)) (fun bv _ => match bv with | .slice _ n _ => n | _ => 0)
  case atStart => exact ⟨0, L, a, c, W, by omega, rfl, HC0.out, by simpa using HS0.out, HNE0.out, by simpa using HR0.out, refl_but _ _⟩
  case round =>
    obtain ⟨k, d, a', c', W', hkd, rfl, hdc, hbs, hne, hrn, hgr⟩ := hrel
    rename World => V
    have HKD := Lib.hid hkd
    have HDC := Lib.hid hdc
    have HBS := Lib.hid hbs
    have HNE := Lib.hid hne
    have HRN := Lib.hid hrn
    have HGR := Lib.hid hgr
    clear hkd hdc hbs hne hrn hgr HR0 HS0 HC0 HNE0
    by_cases hd : 0 < d
    · as_aux_lemma =>
        obtain ⟨P, hP⟩ : ∃ P, P = M ++ l.take k := ⟨_, rfl⟩
        rw [← hP] at HRN
        have HPL := Lib.hid (show P.length = M.length + k by rw [hP, List.length_append, List.length_take, HL.out, Nat.min_eq_left (by have := HKD.out; omega)])
        have hlen : (l.drop k).length = d := by rw [List.length_drop, HL.out]; have := HKD.out; omega
        obtain ⟨b, off, rfl, hbl, hcells⟩ := HBS.out (by rw [hlen]; exact hd)
        have HBG := Lib.hid (HNE.out hd b off rfl)
        obtain ⟨N, hN⟩ : ∃ N, N = P.length := ⟨_, rfl⟩
        obtain ⟨R, hRR⟩ : ∃ R, R = N % 64 := ⟨_, rfl⟩
        have hN9 : N + d ≤ 900000 := by have := HN.out; have := HPL.out; have := HKD.out; omega
        obtain ⟨m, hm⟩ : ∃ m, m = Nat.min d (64 - R) := ⟨_, rfl⟩
        have hR64 : R < 64 := by omega
        have hm1 : 0 < m ∧ m ≤ d ∧ R + m ≤ 64 := by rw [hm]; simp only [Nat.min_def]; split <;> omega
        obtain ⟨cs, hcs⟩ : ∃ cs, cs = (l.drop k).take m := ⟨_, rfl⟩
        have hcl : cs.length = m := by rw [hcs, List.length_take, hlen, Nat.min_eq_left hm1.2.1]
        have hcB : AllB cs := fun x hx => HAB.out x (by rw [hcs] at hx; exact List.mem_of_mem_drop (List.mem_of_mem_take hx))
        have HWT := Lib.hid HRN.out.2
        have HBK := Lib.hid HRN.out.1
        obtain ⟨h, hh⟩ : ∃ h, h = hF P (P.length / 64) := ⟨_, rfl⟩
        rw [← hh, ← hN] at HBK
        have HCS := Lib.hid hcs
        have HCL := Lib.hid hcl
        have HCB := Lib.hid hcB
        have HHB := Lib.hid (show ∀ i, h i < 4294967296 from fun i => by rw [hh]; exact hF_lt _ _ i)
        have HHH := Lib.hid hh
        have HPP := Lib.hid hP
        have HNN := Lib.hid hN
        have HRE := Lib.hid hRR
        have HDL := Lib.hid hlen
        have HCE := Lib.hid hcells
        have HBL := Lib.hid hbl
        have HM1 := Lib.hid hm1
        have HMM := Lib.hid hm
        have HN9 := Lib.hid hN9
        have htot := HBK.out.cell (j := 72) (by omega)
        rw [runV_total] at htot
        have qR : (N : Int) % 64 = (R : Int) := by omega
        have qR2 : (N : Int).tmod 64 = (R : Int) := by rw [Int.tmod_eq_emod_of_nonneg (by omega)]; exact qR
        have qd : (0 : Int) < (d : Int) := by omega
        have hsl : ∀ U : World, (Instr.sliceAt 156 (.pointer (some ⟨g, 8, none⟩)) (some (.int .u64 (R : Int))) none none).run Tryz.prog U = .ok (.slice (some ⟨g, 8 + R, none⟩) (64 - R) (64 - R)) U := fun U => slice64 U g 8 R .u64 _ rfl hR64
        obtain ⟨csv, hcsv⟩ : ∃ csv, csv = cs.map (Value.int .u8) := ⟨_, rfl⟩
        have hcvl : csv.length = m := by rw [hcsv, List.length_map, hcl]
        have HCV := Lib.hid hcsv
        have HCVL := Lib.hid hcvl
        clear hcs hcl hcB hh hP hN hRR hlen hcells hbl hm1 hm hN9 hcsv hcvl hd hR64 HRN
        go_upto_region 1 with fail
        go_still_tail 10, (by kernel_rfl)
        clear qR qR2 hsl htot
        change wpList _ _ _ _ _ V.drew
        have HBK1 := Lib.hid (show Blk V.drew g 158 73 (runV h W' N) from HBK.out)
        have HCE1 := Lib.hid (show ∀ j v, csv[j]? = some v → V.drew.cell? ((⟨b, off, none⟩ : Addr).add j) = some v from fun j v hj => by
          have hjm : j < m := by rw [← HCVL.out]; exact (List.getElem?_eq_some_iff.1 hj).1
          rw [HCV.out, List.getElem?_map, HCS.out, List.getElem?_take, if_pos hjm] at hj
          have hlt : j < (l.drop k).length := by have := HM1.out; rw [HDL.out]; omega
          have h2 := HCE.out j hlt
          rw [List.getElem?_eq_getElem hlt] at hj
          rw [List.getD_eq_getElem?_getD, List.getElem?_eq_getElem hlt] at h2
          cases hj
          rw [Addr.add_mid]
          exact h2)
        have HG1 := Lib.hid (show w.grownBy V.drew (some g) from HGR.out.trans (drew_but V _))
        obtain ⟨V1, hV1⟩ : ∃ V1, V1 = V.drew := ⟨_, rfl⟩
        rw [← hV1] at HBK1 HCE1 HG1 ⊢
        have HVS := Lib.hid (show V1.heap.size = V.heap.size by rw [hV1]; rfl)
        have HV1 := Lib.hid hV1
        clear hV1
        refine wpList_copy_own (by rfl) (.tmp 16) (.tmp 17) 23 23 (by rfl) 5 Tryz.underlying23 size_u8 g (8 + R) (64 - R) (64 - R) ⟨b, off, none⟩ d c' (by rfl) (by rfl) (tabV 73 (runV h W' N)) 158 HBK1.out csv (by rw [HCVL.out]; exact HMM.out) HCE1.out (by rw [HCVL.out, size_tabV]; have := HM1.out; omega) (by rw [HCV.out]; intro v hv; obtain ⟨x, _, rfl⟩ := List.mem_map.1 hv; rfl) ?_
        rw [HCVL.out]
        obtain ⟨V2, hV2⟩ : ∃ V2, V2 = V1.setRow g ((tabV 73 (runV h W' N)).toList.take (8 + R) ++ (csv ++ (tabV 73 (runV h W' N)).toList.drop (8 + R + m))).toArray := ⟨_, rfl⟩
        rw [← hV2]
        have HBK2 := Lib.hid (show Blk V2 g 158 73 (runV h (splice W' R cs) N) by
          have e : 8 + R + csv.length ≤ 73 := by rw [HCVL.out]; have := HM1.out; omega
          rw [hV2, ← HCVL.out, splice_tabV e]
          exact (HBK1.out.row _).congr fun j hj => by
            rw [HCV.out]
            exact runV_copy (by rw [HCL.out]; exact HM1.out.2.2) HWT.out.1)
        have HG2' := Lib.hid (show w.grownBy V2 (some g) by rw [hV2]; exact HG1.out.trans (setRow_but V1 g _))
        have HVS2 := Lib.hid (show V2.heap.size = V.heap.size by rw [hV2, setRow_size]; exact HVS.out)
        have HVV0 : V.grownBy V2 (some g) := by rw [hV2, HV1.out]; exact (drew_but V _).trans (setRow_but _ g _)
        clear hV2 HBK1 HG1 HCE1
        have HVV := Lib.hid (show V.grownBy V2 (some g) from HVV0)
        have HBS2 := Lib.hid (show Bs V2 V.heap.size (some ⟨b, off, none⟩) (l.drop k) from (HBS.out).but (Nat.le_refl _) HVV.out (fun b' off' e => by cases e; exact HBG.out))
        have htot := HBK2.out.cell (j := 72) (by omega)
        rw [runV_total] at htot
        have hfr := HBK2.out.free 72
        have qm : (m : Int) ≤ (d : Int) := by have := HM1.out; omega
        have qm0 : (0 : Int) ≤ (m : Int) := by omega
        have qN : (N : Int) + (m : Int) ≤ 900000 := by have := HN9.out; have := HM1.out; omega
        have qN0 : (0 : Int) ≤ (N : Int) := by omega
        go_upto_region 3 with fail
        obtain ⟨A2, hA2⟩ : ∃ A2, A2 = (if c' = m then some (⟨b, off, none⟩ : Addr) else some ⟨b, off + m, none⟩) := ⟨_, rfl⟩
        rw [← hA2]
        have HA2N := Lib.hid (show ∀ b' off', A2 = some ⟨b', off', none⟩ → b' ≠ g from fun b' off' e => by
          rw [hA2] at e
          split at e <;> (cases e; exact HBG.out))
        have HA2B := Lib.hid (show Bs V2 V.heap.size A2 (l.drop (k + m)) from fun h0 => by
          rw [List.length_drop, HL.out] at h0
          have h1 : c' ≠ m := by have := HDC.out; have := HKD.out; omega
          rw [hA2, if_neg h1]
          obtain ⟨b', off', e, hb', hc'⟩ := HBS2.out (by rw [HDL.out]; have := HM1.out; omega)
          cases e
          refine ⟨b, off + m, rfl, hb', fun i hi => ?_⟩
          rw [List.length_drop, HL.out] at hi
          rw [Nat.add_assoc, hc' (m + i) (by rw [HDL.out]; have := HKD.out; omega)]
          congr 2
          simp only [List.getD_eq_getElem?_getD, List.getElem?_drop]
          congr 2
          omega)
        clear hA2
        go_upto_region 4 with fail
        clear htot hfr
        obtain ⟨V3, hV3⟩ : ∃ V3, V3 = V2.setCell ⟨g, 72, none⟩ (.int .u64 ((N : Int) + (m : Int))) := ⟨_, rfl⟩
        rw [← hV3]
        have HBK3 := Lib.hid (show Blk V3 g 158 73 (runV h (splice W' R cs) (N + m)) by
          rw [hV3]
          exact (HBK2.out.set (i := 72) (by omega) (.int .u64 (((N + m : Nat)) : Int))).congr fun j hj => runV_add hj)
        have HVV3 := Lib.hid (show V.grownBy V3 (some g) by rw [hV3]; exact HVV.out.trans (cell_set_but V2 g 72 _))
        have HGW3 := Lib.hid (show w.grownBy V3 (some g) from HGR.out.trans HVV3.out)
        have HA3B := Lib.hid (show Bs V3 V.heap.size A2 (l.drop (k + m)) by
          rw [hV3]
          exact HA2B.out.but (by rw [HVS2.out]; exact Nat.le_refl _) (cell_set_but V2 g 72 _) HA2N.out)
        have htot := HBK3.out.cell (j := 72) (by omega)
        rw [runV_total] at htot
        obtain ⟨NM, hNM⟩ : ∃ NM, NM = N + m := ⟨_, rfl⟩
        rw [← hNM] at htot HBK3
        have HNM := Lib.hid hNM
        have HPC := Lib.hid (show M ++ l.take (k + m) = P ++ cs by rw [HPP.out, HCS.out, List.append_assoc, take_more])
        have HPCL := Lib.hid (show (P ++ cs).length = NM by rw [List.length_append, HCL.out, ← HNN.out]; exact hNM.symm)
        clear hV3 HBK2 HA2B HBS2 HVV HG2'
        by_cases hf : R + m = 64
        · as_aux_lemma =>
            have q5 : (NM : Int) % 64 = 0 := by have := HRE.out; omega
            have q5' : (NM : Int).tmod 64 = 0 := by rw [Int.tmod_eq_emod_of_nonneg (by omega)]; exact q5
            have HWF := Lib.hid (wait_full (M := P) (W := W') (cs := cs) HWT.out HCB.out (by rw [HCL.out, ← HNN.out, ← HRE.out]; exact hf))
            rw [← HHH.out, ← HNN.out, ← HRE.out] at HWF
            clear hNM hf
            go_upto_region 5 with fail
            clear q5 q5' htot
            obtain ⟨cS, hcS⟩ : ∃ cS, cS = tabV 8 (gV h) := ⟨_, rfl⟩
            have HBKD := Lib.hid (show Blk V3.drew g 158 73 (runV h (splice W' R cs) NM) from HBK3.out)
            have HGLD := Lib.hid (show Gl V3.drew from (HGL.out.but HGW3.out HG2.out).drewN 1)
            have HRG := Lib.hid (show V3.drew.rangeAt g 0 cS.toList by rw [hcS]; exact HBKD.out.rangeT (by omega) fun j hj => runV_state hj)
            have HSZ := Lib.hid (show (Tryz.prog.info? 155).map (·.size) = some cS.toList.length by rw [hcS, Array.length_toList, size_tabV]; exact size_S)
            have HMX := Lib.hid (mixed_any h g 8 (splice W' R cs) V3.drew HHB.out HWF.out.1.2.1 HWF.out.1.1 (fun i hi => by rw [HBKD.out.cell (by omega), runV_wait hi]) HBKD.out.lt HGLD.out)
            rw [← hcS] at HMX
            rw [← HWF.out.2] at HMX
            obtain ⟨cN, hcN⟩ : ∃ cN, cN = tabV 8 (gV (hF (P ++ cs) ((P ++ cs).length / 64))) := ⟨_, rfl⟩
            rw [← hcN] at HMX
            have HCNS := Lib.hid (show cN.size = 8 by rw [hcN, size_tabV])
            have HCNZ := Lib.hid (show (Tryz.prog.info? 155).map (·.size) = some cN.size by rw [hcN, size_tabV]; exact size_S)
            have HCN1 := Lib.hid (show cN.all (·.oneCell') = true by rw [hcN]; exact tabV_one fun _ => rfl)
            have HCN := Lib.hid hcN
            clear hcS hcN
            refine wp_region_held_drew (S := fun _ => True) (by kernel_rfl) trivial (fun hHeld => ?_)
            refine wpAnyH_take (i := 0) (oi := { dst := some 37, op := Op.move (Operand.tmp 0), type := 169, pos := "hash.go:87", after := #[], guard := none }) (v := ?v0a1) rfl (by kernel_rfl) (by kernel_rfl) (by kernel_rfl) (fun _ _ _ h => h) (Or.inl ⟨by rfl, ?hy0a1⟩) hHeld ?rest0a1
            case hy0a1 =>
              intro W' hV
              try dsimp only at hV
              go_simp
              all_goals with_reducible rfl
            case' rest0a1 => try simp only [Act.put, List.setIfInBounds_toArray, List.set_cons_zero, List.set_cons_succ]
            refine wpAnyH_take (i := 1) (oi := { dst := some 38, op := Op.move (Operand.tmp 0), type := 169, pos := "hash.go:87", after := #[], guard := none }) (v := ?v1a2) rfl (by kernel_rfl) (by kernel_rfl) (by kernel_rfl) (fun _ _ _ h => h) (Or.inl ⟨by rfl, ?hy1a2⟩) hHeld ?rest1a2
            case hy1a2 =>
              intro W' hV
              try dsimp only at hV
              go_simp
              all_goals with_reducible rfl
            case' rest1a2 => try simp only [Act.put, List.setIfInBounds_toArray, List.set_cons_zero, List.set_cons_succ]
            refine wpAnyH_take (i := 2) (oi := { dst := some 39, op := Op.nilCheck (Operand.tmp 38), type := 0, pos := "hash.go:87", after := #[{ on := 1, ground := Ground.data }], guard := none }) (v := ?v2a3) rfl (by kernel_rfl) (by kernel_rfl) (by kernel_rfl) (fun _ _ _ h => h) (Or.inl ⟨by rfl, ?hy2a3⟩) hHeld ?rest2a3
            case hy2a3 =>
              intro W' hV
              try dsimp only at hV
              go_simp
              all_goals with_reducible rfl
            case' rest2a3 => try simp only [Act.put, List.setIfInBounds_toArray, List.set_cons_zero, List.set_cons_succ]
            refine wpAnyH_take (i := 3) (oi := { dst := some 40, op := Op.fieldAddr 158 (Operand.tmp 39) 0, type := 0, pos := "hash.go:87", after := #[{ on := 2, ground := Ground.data }], guard := none }) (v := ?v3a4) rfl (by kernel_rfl) (by kernel_rfl) (by kernel_rfl) (fun _ _ _ h => h) (Or.inl ⟨by rfl, ?hy3a4⟩) hHeld ?rest3a4
            case hy3a4 =>
              intro W' hV
              try dsimp only at hV
              go_simp
              all_goals with_reducible rfl
            case' rest3a4 => try simp only [Act.put, List.setIfInBounds_toArray, List.set_cons_zero, List.set_cons_succ]
            refine wpAnyH_take (i := 5) (oi := { dst := some 42, op := Op.move (Operand.tmp 0), type := 169, pos := "hash.go:87", after := #[], guard := none }) (v := ?v5a5) rfl (by kernel_rfl) (by kernel_rfl) (by kernel_rfl) (fun _ _ _ h => h) (Or.inl ⟨by rfl, ?hy5a5⟩) hHeld ?rest5a5
            case hy5a5 =>
              intro W' hV
              try dsimp only at hV
              go_simp
              all_goals with_reducible rfl
            case' rest5a5 => try simp only [Act.put, List.setIfInBounds_toArray, List.set_cons_zero, List.set_cons_succ]
            refine wpAnyH_take (i := 6) (oi := { dst := some 43, op := Op.nilCheck (Operand.tmp 42), type := 0, pos := "hash.go:87", after := #[{ on := 5, ground := Ground.data }], guard := none }) (v := ?v6a6) rfl (by kernel_rfl) (by kernel_rfl) (by kernel_rfl) (fun _ _ _ h => h) (Or.inl ⟨by rfl, ?hy6a6⟩) hHeld ?rest6a6
            case hy6a6 =>
              intro W' hV
              try dsimp only at hV
              go_simp
              all_goals with_reducible rfl
            case' rest6a6 => try simp only [Act.put, List.setIfInBounds_toArray, List.set_cons_zero, List.set_cons_succ]
            refine wpAnyH_take (i := 7) (oi := { dst := some 44, op := Op.fieldAddr 158 (Operand.tmp 43) 1, type := 0, pos := "hash.go:87", after := #[{ on := 6, ground := Ground.data }], guard := none }) (v := ?v7a7) rfl (by kernel_rfl) (by kernel_rfl) (by kernel_rfl) (fun _ _ _ h => h) (Or.inl ⟨by rfl, ?hy7a7⟩) hHeld ?rest7a7
            case hy7a7 =>
              intro W' hV
              try dsimp only at hV
              go_simp
              all_goals with_reducible rfl
            case' rest7a7 => try simp only [Act.put, List.setIfInBounds_toArray, List.set_cons_zero, List.set_cons_succ]
            refine wpAnyH_ready (rs := [4]) (by kernel_rfl) (by simp) ?_
            refine AllReadyH.cons (o := { dst := some 41, op := Op.load 155 (Operand.tmp 40), type := 155, pos := "hash.go:87", after := #[{ on := 3, ground := Ground.data }], guard := none }) rfl (fun K' hK => ?_) AllReadyH.nil
            rw [if_pos (by rfl)]
            refine wp_load_mid 155 (.tmp 40) (by rfl) g 0 (by rfl) cS.toList _ HRG.out Tryz.underlying155 (by rfl) HSZ.out ?_
            rw [Array.toArray_toList]
            refine hK.out _ _ trivial (fun hHeld1 => ?_)
            clear hK K' hHeld
            have hHeld := hHeld1
            clear hHeld1
            try simp only [Act.put, List.setIfInBounds_toArray, List.set_cons_zero, List.set_cons_succ]
            refine wpAnyH_ready (rs := [8]) (by kernel_rfl) (by simp) ?_
            refine AllReadyH.cons (o := { dst := some 45, op := Op.call { callee := Callee.value (Operand.func 104), args := #[Operand.tmp 41, Operand.tmp 44], argTypes := #[155, 171] }, type := 155, pos := "hash.go:87", after := #[{ on := 4, ground := Ground.data }, { on := 7, ground := Ground.data }], guard := none }) rfl (fun K' hK => ?_) AllReadyH.nil
            rw [if_pos (by rfl)]
            go_simp
            go_wp2_with (go_at_call 104; (with_reducible refine HMX.out.mono ?_); rintro e w4 ⟨rfl, hb4⟩)
            have HB4 := Lib.hid hb4
            clear hb4
            have HBK4 := Lib.hid (HBKD.out.on HB4.out HBKD.out.lt)
            refine hK.out _ _ trivial (fun hHeld1 => ?_)
            clear hK K' hHeld
            have hHeld := hHeld1
            clear hHeld1
            try simp only [Act.put, List.setIfInBounds_toArray, List.set_cons_zero, List.set_cons_succ]
            refine wpAnyH_take (i := 9) (oi := { dst := some 46, op := Op.nilCheck (Operand.tmp 37), type := 0, pos := "hash.go:87", after := #[{ on := 0, ground := Ground.data }, { on := 0, ground := Ground.phase }, { on := 1, ground := Ground.phase }, { on := 2, ground := Ground.phase }, { on := 3, ground := Ground.phase }, { on := 4, ground := Ground.phase }, { on := 5, ground := Ground.phase }, { on := 6, ground := Ground.phase }, { on := 7, ground := Ground.phase }, { on := 8, ground := Ground.phase }], guard := none }) (v := ?v9a8) rfl (by kernel_rfl) (by kernel_rfl) (by kernel_rfl) (fun _ _ _ h => h) (Or.inl ⟨by rfl, ?hy9a8⟩) hHeld ?rest9a8
            case hy9a8 =>
              intro W' hV
              try dsimp only at hV
              go_simp
              all_goals with_reducible rfl
            case' rest9a8 => try simp only [Act.put, List.setIfInBounds_toArray, List.set_cons_zero, List.set_cons_succ]
            refine wpAnyH_take (i := 10) (oi := { dst := some 47, op := Op.fieldAddr 158 (Operand.tmp 46) 0, type := 0, pos := "hash.go:87", after := #[{ on := 9, ground := Ground.data }, { on := 0, ground := Ground.phase }, { on := 1, ground := Ground.phase }, { on := 2, ground := Ground.phase }, { on := 3, ground := Ground.phase }, { on := 4, ground := Ground.phase }, { on := 5, ground := Ground.phase }, { on := 6, ground := Ground.phase }, { on := 7, ground := Ground.phase }, { on := 8, ground := Ground.phase }], guard := none }) (v := ?v10a9) rfl (by kernel_rfl) (by kernel_rfl) (by kernel_rfl) (fun _ _ _ h => h) (Or.inl ⟨by rfl, ?hy10a9⟩) hHeld ?rest10a9
            case hy10a9 =>
              intro W' hV
              try dsimp only at hV
              go_simp
              all_goals with_reducible rfl
            case' rest10a9 => try simp only [Act.put, List.setIfInBounds_toArray, List.set_cons_zero, List.set_cons_succ]
            refine wpAnyH_ready (rs := [11]) (by kernel_rfl) (by simp) ?_
            refine AllReadyH.cons (o := { dst := none, op := Op.store 155 (Operand.tmp 47) (Operand.tmp 45), type := 0, pos := "hash.go:87", after := #[{ on := 10, ground := Ground.data }, { on := 8, ground := Ground.data }, { on := 8, ground := Ground.chain }, { on := 0, ground := Ground.phase }, { on := 1, ground := Ground.phase }, { on := 2, ground := Ground.phase }, { on := 3, ground := Ground.phase }, { on := 4, ground := Ground.phase }, { on := 5, ground := Ground.phase }, { on := 6, ground := Ground.phase }, { on := 7, ground := Ground.phase }, { on := 8, ground := Ground.phase }], guard := none }) rfl (fun K' hK => ?_) AllReadyH.nil
            rw [if_pos (by rfl)]
            refine wp_store_mid 155 (.tmp 47) (.tmp 45) (by rfl) g 0 cN (by rfl) (by rfl) (HBK4.out.there (by rw [HCNS.out]; omega)) HCNZ.out HCN1.out ?_
            refine hK.out _ _ trivial (fun hHeld1 => ?_)
            clear hK K' hHeld
            have hHeld := hHeld1
            clear hHeld1
            try simp only [Act.put, List.setIfInBounds_toArray, List.set_cons_zero, List.set_cons_succ]
            refine wpAnyH_done (by kernel_rfl) ?_ _
            clear hHeld
            obtain ⟨V5, hV5⟩ : ∃ V5, V5 = w4.setCells g 0 cN.toList := ⟨_, rfl⟩
            rw [← hV5]
            have HBK5 := Lib.hid (show Blk V5 g 158 73 (runV (hF (P ++ cs) ((P ++ cs).length / 64)) (splice W' R cs) NM) by
              rw [hV5]
              refine Blk.sets cN.toList 0 _ HBK4.out (by rw [Array.length_toList, HCNS.out]; omega) (fun j hj => ?_)
              have hlc : cN.toList.length = 8 := by rw [Array.length_toList, HCNS.out]
              rw [hlc, HCN.out]
              by_cases h8 : j < 8
              · rw [if_pos (by omega), runV_state h8, Nat.sub_zero, getD_tabV h8]
              · rw [if_neg (by omega)]
                unfold runV
                rw [if_neg h8, if_neg h8])
            have HVV5 := Lib.hid (show V3.grownBy V5 (some g) by
              rw [hV5]
              exact ((drew_but V3 _).trans (below_but HB4.out _)).trans (sets_but g _ 0 w4))
            have HGW5 := Lib.hid (show w.grownBy V5 (some g) from HGW3.out.trans HVV5.out)
            have HA5B := Lib.hid (show Bs V5 V.heap.size A2 (l.drop (k + m)) from HA3B.out.but HVV3.out.size HVV5.out HA2N.out)
            clear hV5 HBK4 HB4
            go_wp2
            go_roundw
            case rel =>
              have hrel := show ∃ (k' d' : Nat) (a'' : Option Addr) (c'' : Nat) (W'' : List Int), k' + d' = L ∧ Value.slice A2 (d - m) (c' - m) = .slice a'' d' c'' ∧ d' ≤ c'' ∧ Bs V5 V5.heap.size a'' (l.drop k') ∧ (0 < d' → ∀ b off, a'' = some ⟨b, off, none⟩ → b ≠ g) ∧ Rn V5 g (M ++ l.take k') W'' ∧ w.grownBy V5 (some g) from
                ⟨k + m, d - m, A2, c' - m, splice W' R cs, by have := HKD.out; have := HM1.out; omega, rfl, by have := HDC.out; omega, HA5B.out.more (Nat.le_trans HVV3.out.size HVV5.out.size), (fun _ => HA2N.out), ⟨by rw [HPC.out, HPCL.out, ← HPCL.out]; rw [HPCL.out]; exact (by have h := HBK5.out; rw [HPCL.out] at h; exact h), by rw [HPC.out]; exact HWF.out.1⟩, HGW5.out⟩
              first
                | exact hrel
                | ((repeat apply Exists.intro); exact ⟨hrel, rfl⟩)
            case measure => simp <;> (have := HM1.out; omega)
        · as_aux_lemma =>
            obtain ⟨S, hS⟩ : ∃ S, S = R + m := ⟨_, rfl⟩
            have hlt : S < 64 := by have := HM1.out; omega
            have q5 : (NM : Int) % 64 = (S : Int) := by have := HRE.out; omega
            have q5' : (NM : Int).tmod 64 = (S : Int) := by rw [Int.tmod_eq_emod_of_nonneg (by omega)]; exact q5
            have q6 : ((S : Int) == 0) = false := by have := HM1.out; simp <;> omega
            have HWP := Lib.hid (wait_part (M := P) (W := W') (cs := cs) HWT.out HCB.out (by rw [HCL.out, ← HNN.out, ← HRE.out, ← hS]; exact hlt))
            rw [← HHH.out, ← HNN.out, ← HRE.out] at HWP
            clear hNM hf hS hlt
            go_wp2
            clear q5 q5' q6 htot
            go_roundw
            case rel =>
              have hrel := show ∃ (k' d' : Nat) (a'' : Option Addr) (c'' : Nat) (W'' : List Int), k' + d' = L ∧ Value.slice A2 (d - m) (c' - m) = .slice a'' d' c'' ∧ d' ≤ c'' ∧ Bs V3 V3.heap.size a'' (l.drop k') ∧ (0 < d' → ∀ b off, a'' = some ⟨b, off, none⟩ → b ≠ g) ∧ Rn V3 g (M ++ l.take k') W'' ∧ w.grownBy V3 (some g) from
                ⟨k + m, d - m, A2, c' - m, splice W' R cs, by have := HKD.out; have := HM1.out; omega, rfl, by have := HDC.out; omega, HA3B.out.more HVV3.out.size, (fun _ => HA2N.out), ⟨by rw [HPC.out, HWP.out.2, HPCL.out]; exact HBK3.out, by rw [HPC.out]; exact HWP.out.1⟩, HGW3.out⟩
              first
                | exact hrel
                | ((repeat apply Exists.intro); exact ⟨hrel, rfl⟩)
            case measure => simp <;> (have := HM1.out; omega)
    · as_aux_lemma =>
        obtain rfl : d = 0 := by omega
        go_wp2
        go_end0
        refine ⟨rfl, HGR.out, W', ?_⟩
        have e : l.take k = l := List.take_of_length_le (by rw [HL.out, ← HKD.out]; omega)
        have h := HRN.out
        rw [e] at h
        exact h
end Go.Proofs.YtkfdcdfaikkneaaGreatDoor
