/- Texts of mine, one behind the other: Ja QJ3 Aa Hc Ac. -/
import Derived.Test.YtappfdbmhgifcaaGreatDoorZS09
import Derived.Test.YtappfdbmhgifcaaGreatDoorZS15
import Derived.StillTailTactics
import Derived.Shelf.RegionOpen
import Derived.Deep.DrawnRows
import Derived.Deep.CutRange
import Derived.Test.YtappfdbmhgifcaaGreatDoorZS05
import Derived.Lib.SlBytesConst
import Derived.Lib.SmallJoins
import Derived.Test.YtappfdbmhgifcaaGreatDoorZS08
import Derived.Test.YtappfdbmhgifcaaGreatDoorZS13
import Derived.Lib.AppendZerosOnto
import Derived.Lib.SliceRun
import Derived.LoopN
import Derived.Shelf.Abstract
/- The contract of hash's add: bytes behind those so far. -/
namespace Go.Proofs.YtappfdbmhgifcaaGreatDoor
open Go.ChangeShapes Go.WideShapes Go.ChangeAt Go.RowKit
set_option linter.unusedVariables false
set_option linter.unusedSimpArgs false
set_option maxRecDepth 100000

theorem Blk.rangeT {w : World} {b : Nat} {T : TypeId} {n : Nat} {f : Nat → Value} (h : Blk w b T n f) {m : Nat} {k : Nat → Value} (hm : m ≤ n) (e : ∀ j, j < m → f j = k j) : w.rangeAt b 0 (tabV m k).toList := fun j v hj => by
  rw [Array.getElem?_toList] at hj
  by_cases hjm : j < m
  · rw [get_tabV hjm] at hj
    rw [Nat.zero_add, h.cell (by omega), e j hjm]
    exact hj
  · rw [Array.getElem?_eq_none (by rw [size_tabV]; omega)] at hj; cases hj
/-- The running sum at block g: the bytes M so far, of which W waits. -/
def Rn (w : World) (g : Nat) (M W : List Int) : Prop := Blk w g 169 73 (runV (hF M (M.length / 64)) W M.length) ∧ Wait M W
theorem take_more (l : List Int) (k m : Nat) : l.take k ++ (l.drop k).take m = l.take (k + m) := by rw [List.take_add]
set_option maxHeartbeats 3000000 in
theorem add_any (g : Nat) (M W : List Int) (a : Option Addr) (L c : Nat) (l : List Int) (w : World) (hR : Rn w g M W) (hl : l.length = L) (hB : AllB l) (hb : Bs w w.heap.size a l) (hc : L ≤ c) (hne : 0 < L → ∀ b off, a = some ⟨b, off, none⟩ → b ≠ g) (hG : Gl w) (hg : 2 ≤ g) (hn : M.length + L ≤ 900000) :
    Calls Tryz.prog 128 #[.pointer (some ⟨g, 0, none⟩), .slice a L c] w fun e w' => e = .returned (.tuple #[]) ∧ w.grownBy w' (some g) ∧ ∃ W', Rn w' g (M ++ l) W' := by
  have HR0 := Lib.hid hR
  have HL := Lib.hid hl
  have HAB := Lib.hid hB
  have HS0 := Lib.hid hb
  have HC0 := Lib.hid hc
  have HNE0 := Lib.hid hne
  have HGL := Lib.hid hG
  have HG2 := Lib.hid hg
  have HN := Lib.hid hn
  have HGW := Lib.hid (show g < w.heap.size from hR.1.lt)
  clear hR hl hB hb hc hne hG hg hn
  go_enter Tryz.func128, Tryz.ntmps128
  go_wp2_with fail
  go_loopw [1] (fun bv wr => ∃ (k d : Nat) (a' : Option Addr) (c' : Nat) (W' : List Int), k + d = L ∧ bv = .slice a' d c' ∧ d ≤ c' ∧ Bs wr wr.heap.size a' (l.drop k) ∧ (0 < d → ∀ b off, a' = some ⟨b, off, none⟩ → b ≠ g) ∧ Rn wr g (M ++ l.take k) W' ∧ w.grownBy wr (some g)) (fun bv _ => match bv with | .slice _ n _ => n | _ => 0)
  case atStart => exact ⟨0, L, a, c, W, by omega, rfl, HC0.out, by simpa using HS0.out, HNE0.out, by simpa using HR0.out, refl_but _ _⟩
  case round =>
    obtain ⟨k, d, a', c', W', hkd, rfl, hdc, hbs, hne, hrn, hgr⟩ := hrel
    rename World => V
    have HKD := Lib.hid hkd
    have HDC := Lib.hid hdc
    have HBS := Lib.hid hbs
    have HNE := Lib.hid hne
    have HRN := Lib.hid hrn
    have HGR := Lib.hid hgr
    clear hkd hdc hbs hne hrn hgr HR0 HS0 HC0 HNE0
    by_cases hd : 0 < d
    · as_aux_lemma =>
        obtain ⟨P, hP⟩ : ∃ P, P = M ++ l.take k := ⟨_, rfl⟩
        rw [← hP] at HRN
        have HPL := Lib.hid (show P.length = M.length + k by rw [hP, List.length_append, List.length_take, HL.out, Nat.min_eq_left (by have := HKD.out; omega)])
        have hlen : (l.drop k).length = d := by rw [List.length_drop, HL.out]; have := HKD.out; omega
        obtain ⟨b, off, rfl, hbl, hcells⟩ := HBS.out (by rw [hlen]; exact hd)
        have HBG := Lib.hid (HNE.out hd b off rfl)
        obtain ⟨N, hN⟩ : ∃ N, N = P.length := ⟨_, rfl⟩
        obtain ⟨R, hRR⟩ : ∃ R, R = N % 64 := ⟨_, rfl⟩
        have hN9 : N + d ≤ 900000 := by have := HN.out; have := HPL.out; have := HKD.out; omega
        obtain ⟨m, hm⟩ : ∃ m, m = Nat.min d (64 - R) := ⟨_, rfl⟩
        have hR64 : R < 64 := by omega
        have hm1 : 0 < m ∧ m ≤ d ∧ R + m ≤ 64 := by rw [hm]; simp only [Nat.min_def]; split <;> omega
        obtain ⟨cs, hcs⟩ : ∃ cs, cs = (l.drop k).take m := ⟨_, rfl⟩
        have hcl : cs.length = m := by rw [hcs, List.length_take, hlen, Nat.min_eq_left hm1.2.1]
        have hcB : AllB cs := fun x hx => HAB.out x (by rw [hcs] at hx; exact List.mem_of_mem_drop (List.mem_of_mem_take hx))
        have HWT := Lib.hid HRN.out.2
        have HBK := Lib.hid HRN.out.1
        obtain ⟨h, hh⟩ : ∃ h, h = hF P (P.length / 64) := ⟨_, rfl⟩
        rw [← hh, ← hN] at HBK
        have HCS := Lib.hid hcs
        have HCL := Lib.hid hcl
        have HCB := Lib.hid hcB
        have HHB := Lib.hid (show ∀ i, h i < 4294967296 from fun i => by rw [hh]; exact hF_lt _ _ i)
        have HHH := Lib.hid hh
        have HPP := Lib.hid hP
        have HNN := Lib.hid hN
        have HRE := Lib.hid hRR
        have HDL := Lib.hid hlen
        have HCE := Lib.hid hcells
        have HBL := Lib.hid hbl
        have HM1 := Lib.hid hm1
        have HMM := Lib.hid hm
        have HN9 := Lib.hid hN9
        have htot := HBK.out.cell (j := 72) (by omega)
        rw [runV_total] at htot
        have qR : (N : Int) % 64 = (R : Int) := by omega
        have qR2 : (N : Int).tmod 64 = (R : Int) := by rw [Int.tmod_eq_emod_of_nonneg (by omega)]; exact qR
        have qd : (0 : Int) < (d : Int) := by omega
        have hsl : ∀ U : World, (Instr.sliceAt 167 (.pointer (some ⟨g, 8, none⟩)) (some (.int .u64 (R : Int))) none none).run Tryz.prog U = .ok (.slice (some ⟨g, 8 + R, none⟩) (64 - R) (64 - R)) U := fun U => slice64 U g 8 R .u64 _ rfl hR64
        obtain ⟨csv, hcsv⟩ : ∃ csv, csv = cs.map (Value.int .u8) := ⟨_, rfl⟩
        have hcvl : csv.length = m := by rw [hcsv, List.length_map, hcl]
        have HCV := Lib.hid hcsv
        have HCVL := Lib.hid hcvl
        clear hcs hcl hcB hh hP hN hRR hlen hcells hbl hm1 hm hN9 hcsv hcvl hd hR64 HRN
        go_upto_region 1 with fail
        go_still_tail 10, (by kernel_rfl)
        clear qR qR2 hsl htot
        change wpList _ _ _ _ _ V.drew
        have HBK1 := Lib.hid (show Blk V.drew g 169 73 (runV h W' N) from HBK.out)
        have HCE1 := Lib.hid (show ∀ j v, csv[j]? = some v → V.drew.cell? ((⟨b, off, none⟩ : Addr).add j) = some v from fun j v hj => by
          have hjm : j < m := by rw [← HCVL.out]; exact (List.getElem?_eq_some_iff.1 hj).1
          rw [HCV.out, List.getElem?_map, HCS.out, List.getElem?_take, if_pos hjm] at hj
          have hlt : j < (l.drop k).length := by have := HM1.out; rw [HDL.out]; omega
          have h2 := HCE.out j hlt
          rw [List.getElem?_eq_getElem hlt] at hj
          rw [List.getD_eq_getElem?_getD, List.getElem?_eq_getElem hlt] at h2
          cases hj
          rw [Addr.add_mid]
          exact h2)
        have HG1 := Lib.hid (show w.grownBy V.drew (some g) from HGR.out.trans (drew_but V _))
        obtain ⟨V1, hV1⟩ : ∃ V1, V1 = V.drew := ⟨_, rfl⟩
        rw [← hV1] at HBK1 HCE1 HG1 ⊢
        have HVS := Lib.hid (show V1.heap.size = V.heap.size by rw [hV1]; rfl)
        have HV1 := Lib.hid hV1
        clear hV1
        refine wpList_copy_own (by rfl) (.tmp 16) (.tmp 17) 22 22 (by rfl) 5 Tryz.underlying22 size_u8 g (8 + R) (64 - R) (64 - R) ⟨b, off, none⟩ d c' (by rfl) (by rfl) (tabV 73 (runV h W' N)) 169 HBK1.out csv (by rw [HCVL.out]; exact HMM.out) HCE1.out (by rw [HCVL.out, size_tabV]; have := HM1.out; omega) (by rw [HCV.out]; intro v hv; obtain ⟨x, _, rfl⟩ := List.mem_map.1 hv; rfl) ?_
        rw [HCVL.out]
        obtain ⟨V2, hV2⟩ : ∃ V2, V2 = V1.setRow g ((tabV 73 (runV h W' N)).toList.take (8 + R) ++ (csv ++ (tabV 73 (runV h W' N)).toList.drop (8 + R + m))).toArray := ⟨_, rfl⟩
        rw [← hV2]
        have HBK2 := Lib.hid (show Blk V2 g 169 73 (runV h (splice W' R cs) N) by
          have e : 8 + R + csv.length ≤ 73 := by rw [HCVL.out]; have := HM1.out; omega
          rw [hV2, ← HCVL.out, splice_tabV e]
          exact (HBK1.out.row _).congr fun j hj => by
            rw [HCV.out]
            exact runV_copy (by rw [HCL.out]; exact HM1.out.2.2) HWT.out.1)
        have HG2' := Lib.hid (show w.grownBy V2 (some g) by rw [hV2]; exact HG1.out.trans (setRow_but V1 g _))
        have HVS2 := Lib.hid (show V2.heap.size = V.heap.size by rw [hV2, setRow_size]; exact HVS.out)
        have HVV0 : V.grownBy V2 (some g) := by rw [hV2, HV1.out]; exact (drew_but V _).trans (setRow_but _ g _)
        clear hV2 HBK1 HG1 HCE1
        have HVV := Lib.hid (show V.grownBy V2 (some g) from HVV0)
        have HBS2 := Lib.hid (show Bs V2 V.heap.size (some ⟨b, off, none⟩) (l.drop k) from (HBS.out).but (Nat.le_refl _) HVV.out (fun b' off' e => by cases e; exact HBG.out))
        have htot := HBK2.out.cell (j := 72) (by omega)
        rw [runV_total] at htot
        have hfr := HBK2.out.free 72
        have qm : (m : Int) ≤ (d : Int) := by have := HM1.out; omega
        have qm0 : (0 : Int) ≤ (m : Int) := by omega
        have qN : (N : Int) + (m : Int) ≤ 900000 := by have := HN9.out; have := HM1.out; omega
        have qN0 : (0 : Int) ≤ (N : Int) := by omega
        go_upto_region 3 with fail
        obtain ⟨A2, hA2⟩ : ∃ A2, A2 = (if c' = m then some (⟨b, off, none⟩ : Addr) else some ⟨b, off + m, none⟩) := ⟨_, rfl⟩
        rw [← hA2]
        have HA2N := Lib.hid (show ∀ b' off', A2 = some ⟨b', off', none⟩ → b' ≠ g from fun b' off' e => by
          rw [hA2] at e
          split at e <;> (cases e; exact HBG.out))
        have HA2B := Lib.hid (show Bs V2 V.heap.size A2 (l.drop (k + m)) from fun h0 => by
          rw [List.length_drop, HL.out] at h0
          have h1 : c' ≠ m := by have := HDC.out; have := HKD.out; omega
          rw [hA2, if_neg h1]
          obtain ⟨b', off', e, hb', hc'⟩ := HBS2.out (by rw [HDL.out]; have := HM1.out; omega)
          cases e
          refine ⟨b, off + m, rfl, hb', fun i hi => ?_⟩
          rw [List.length_drop, HL.out] at hi
          rw [Nat.add_assoc, hc' (m + i) (by rw [HDL.out]; have := HKD.out; omega)]
          congr 2
          simp only [List.getD_eq_getElem?_getD, List.getElem?_drop]
          congr 2
          omega)
        clear hA2
        go_upto_region 4 with fail
        clear htot hfr
        obtain ⟨V3, hV3⟩ : ∃ V3, V3 = V2.setCell ⟨g, 72, none⟩ (.int .u64 ((N : Int) + (m : Int))) := ⟨_, rfl⟩
        rw [← hV3]
        have HBK3 := Lib.hid (show Blk V3 g 169 73 (runV h (splice W' R cs) (N + m)) by
          rw [hV3]
          exact (HBK2.out.set (i := 72) (by omega) (.int .u64 (((N + m : Nat)) : Int))).congr fun j hj => runV_add hj)
        have HVV3 := Lib.hid (show V.grownBy V3 (some g) by rw [hV3]; exact HVV.out.trans (cell_set_but V2 g 72 _))
        have HGW3 := Lib.hid (show w.grownBy V3 (some g) from HGR.out.trans HVV3.out)
        have HA3B := Lib.hid (show Bs V3 V.heap.size A2 (l.drop (k + m)) by
          rw [hV3]
          exact HA2B.out.but (by rw [HVS2.out]; exact Nat.le_refl _) (cell_set_but V2 g 72 _) HA2N.out)
        have htot := HBK3.out.cell (j := 72) (by omega)
        rw [runV_total] at htot
        obtain ⟨NM, hNM⟩ : ∃ NM, NM = N + m := ⟨_, rfl⟩
        rw [← hNM] at htot HBK3
        have HNM := Lib.hid hNM
        have HPC := Lib.hid (show M ++ l.take (k + m) = P ++ cs by rw [HPP.out, HCS.out, List.append_assoc, take_more])
        have HPCL := Lib.hid (show (P ++ cs).length = NM by rw [List.length_append, HCL.out, ← HNN.out]; exact hNM.symm)
        clear hV3 HBK2 HA2B HBS2 HVV HG2'
        by_cases hf : R + m = 64
        · as_aux_lemma =>
            have q5 : (NM : Int) % 64 = 0 := by have := HRE.out; omega
            have q5' : (NM : Int).tmod 64 = 0 := by rw [Int.tmod_eq_emod_of_nonneg (by omega)]; exact q5
            have HWF := Lib.hid (wait_full (M := P) (W := W') (cs := cs) HWT.out HCB.out (by rw [HCL.out, ← HNN.out, ← HRE.out]; exact hf))
            rw [← HHH.out, ← HNN.out, ← HRE.out] at HWF
            clear hNM hf
            go_upto_region 5 with fail
            clear q5 q5' htot
            obtain ⟨cS, hcS⟩ : ∃ cS, cS = tabV 8 (gV h) := ⟨_, rfl⟩
            have HBKD := Lib.hid (show Blk V3.drew g 169 73 (runV h (splice W' R cs) NM) from HBK3.out)
            have HGLD := Lib.hid (show Gl V3.drew from (HGL.out.but HGW3.out HG2.out).drewN 1)
            have HRG := Lib.hid (show V3.drew.rangeAt g 0 cS.toList by rw [hcS]; exact HBKD.out.rangeT (by omega) fun j hj => runV_state hj)
            have HSZ := Lib.hid (show (Tryz.prog.info? 166).map (·.size) = some cS.toList.length by rw [hcS, Array.length_toList, size_tabV]; exact size_S)
            have HMX := Lib.hid (mixed_any h g 8 (splice W' R cs) V3.drew HHB.out HWF.out.1.2.1 HWF.out.1.1 (fun i hi => by rw [HBKD.out.cell (by omega), runV_wait hi]) HBKD.out.lt HGLD.out)
            rw [← hcS] at HMX
            rw [← HWF.out.2] at HMX
            obtain ⟨cN, hcN⟩ : ∃ cN, cN = tabV 8 (gV (hF (P ++ cs) ((P ++ cs).length / 64))) := ⟨_, rfl⟩
            rw [← hcN] at HMX
            have HCNS := Lib.hid (show cN.size = 8 by rw [hcN, size_tabV])
            have HCNZ := Lib.hid (show (Tryz.prog.info? 166).map (·.size) = some cN.size by rw [hcN, size_tabV]; exact size_S)
            have HCN1 := Lib.hid (show cN.all (·.oneCell') = true by rw [hcN]; exact tabV_one fun _ => rfl)
            have HCN := Lib.hid hcN
            clear hcS hcN
            refine wp_region_held_drew (S := fun _ => True) (by kernel_rfl) trivial (fun hHeld => ?_)
            refine wpAnyH_take (i := 0) (oi := { dst := some 37, op := Op.move (Operand.tmp 0), type := 185, pos := "hash.go:87", after := #[], guard := none }) (v := ?v0a1) rfl (by kernel_rfl) (by kernel_rfl) (by kernel_rfl) (fun _ _ _ h => h) (Or.inl ⟨by rfl, ?hy0a1⟩) hHeld ?rest0a1
            case hy0a1 =>
              intro W' hV
              try dsimp only at hV
              go_simp
              all_goals with_reducible rfl
            case' rest0a1 => try simp only [Act.put, List.setIfInBounds_toArray, List.set_cons_zero, List.set_cons_succ]
            refine wpAnyH_take (i := 1) (oi := { dst := some 38, op := Op.move (Operand.tmp 0), type := 185, pos := "hash.go:87", after := #[], guard := none }) (v := ?v1a2) rfl (by kernel_rfl) (by kernel_rfl) (by kernel_rfl) (fun _ _ _ h => h) (Or.inl ⟨by rfl, ?hy1a2⟩) hHeld ?rest1a2
            case hy1a2 =>
              intro W' hV
              try dsimp only at hV
              go_simp
              all_goals with_reducible rfl
            case' rest1a2 => try simp only [Act.put, List.setIfInBounds_toArray, List.set_cons_zero, List.set_cons_succ]
            refine wpAnyH_take (i := 2) (oi := { dst := some 39, op := Op.nilCheck (Operand.tmp 38), type := 0, pos := "hash.go:87", after := #[{ on := 1, ground := Ground.data }], guard := none }) (v := ?v2a3) rfl (by kernel_rfl) (by kernel_rfl) (by kernel_rfl) (fun _ _ _ h => h) (Or.inl ⟨by rfl, ?hy2a3⟩) hHeld ?rest2a3
            case hy2a3 =>
              intro W' hV
              try dsimp only at hV
              go_simp
              all_goals with_reducible rfl
            case' rest2a3 => try simp only [Act.put, List.setIfInBounds_toArray, List.set_cons_zero, List.set_cons_succ]
            refine wpAnyH_take (i := 3) (oi := { dst := some 40, op := Op.fieldAddr 169 (Operand.tmp 39) 0, type := 0, pos := "hash.go:87", after := #[{ on := 2, ground := Ground.data }], guard := none }) (v := ?v3a4) rfl (by kernel_rfl) (by kernel_rfl) (by kernel_rfl) (fun _ _ _ h => h) (Or.inl ⟨by rfl, ?hy3a4⟩) hHeld ?rest3a4
            case hy3a4 =>
              intro W' hV
              try dsimp only at hV
              go_simp
              all_goals with_reducible rfl
            case' rest3a4 => try simp only [Act.put, List.setIfInBounds_toArray, List.set_cons_zero, List.set_cons_succ]
            refine wpAnyH_take (i := 5) (oi := { dst := some 42, op := Op.move (Operand.tmp 0), type := 185, pos := "hash.go:87", after := #[], guard := none }) (v := ?v5a5) rfl (by kernel_rfl) (by kernel_rfl) (by kernel_rfl) (fun _ _ _ h => h) (Or.inl ⟨by rfl, ?hy5a5⟩) hHeld ?rest5a5
            case hy5a5 =>
              intro W' hV
              try dsimp only at hV
              go_simp
              all_goals with_reducible rfl
            case' rest5a5 => try simp only [Act.put, List.setIfInBounds_toArray, List.set_cons_zero, List.set_cons_succ]
            refine wpAnyH_take (i := 6) (oi := { dst := some 43, op := Op.nilCheck (Operand.tmp 42), type := 0, pos := "hash.go:87", after := #[{ on := 5, ground := Ground.data }], guard := none }) (v := ?v6a6) rfl (by kernel_rfl) (by kernel_rfl) (by kernel_rfl) (fun _ _ _ h => h) (Or.inl ⟨by rfl, ?hy6a6⟩) hHeld ?rest6a6
            case hy6a6 =>
              intro W' hV
              try dsimp only at hV
              go_simp
              all_goals with_reducible rfl
            case' rest6a6 => try simp only [Act.put, List.setIfInBounds_toArray, List.set_cons_zero, List.set_cons_succ]
            refine wpAnyH_take (i := 7) (oi := { dst := some 44, op := Op.fieldAddr 169 (Operand.tmp 43) 1, type := 0, pos := "hash.go:87", after := #[{ on := 6, ground := Ground.data }], guard := none }) (v := ?v7a7) rfl (by kernel_rfl) (by kernel_rfl) (by kernel_rfl) (fun _ _ _ h => h) (Or.inl ⟨by rfl, ?hy7a7⟩) hHeld ?rest7a7
            case hy7a7 =>
              intro W' hV
              try dsimp only at hV
              go_simp
              all_goals with_reducible rfl
            case' rest7a7 => try simp only [Act.put, List.setIfInBounds_toArray, List.set_cons_zero, List.set_cons_succ]
            refine wpAnyH_ready (rs := [4]) (by kernel_rfl) (by simp) ?_
            refine AllReadyH.cons (o := { dst := some 41, op := Op.load 166 (Operand.tmp 40), type := 166, pos := "hash.go:87", after := #[{ on := 3, ground := Ground.data }], guard := none }) rfl (fun K' hK => ?_) AllReadyH.nil
            rw [if_pos (by rfl)]
            refine wp_load_mid 166 (.tmp 40) (by rfl) g 0 (by rfl) cS.toList _ HRG.out Tryz.underlying166 (by rfl) HSZ.out ?_
            rw [Array.toArray_toList]
            refine hK.out _ _ trivial (fun hHeld1 => ?_)
            clear hK K' hHeld
            have hHeld := hHeld1
            clear hHeld1
            try simp only [Act.put, List.setIfInBounds_toArray, List.set_cons_zero, List.set_cons_succ]
            refine wpAnyH_ready (rs := [8]) (by kernel_rfl) (by simp) ?_
            refine AllReadyH.cons (o := { dst := some 45, op := Op.call { callee := Callee.value (Operand.func 151), args := #[Operand.tmp 41, Operand.tmp 44], argTypes := #[166, 187] }, type := 166, pos := "hash.go:87", after := #[{ on := 4, ground := Ground.data }, { on := 7, ground := Ground.data }], guard := none }) rfl (fun K' hK => ?_) AllReadyH.nil
            rw [if_pos (by rfl)]
            go_simp
            go_wp2_with (go_at_call 151; (with_reducible refine HMX.out.mono ?_); rintro e w4 ⟨rfl, hb4⟩)
            have HB4 := Lib.hid hb4
            clear hb4
            have HBK4 := Lib.hid (HBKD.out.on HB4.out HBKD.out.lt)
            refine hK.out _ _ trivial (fun hHeld1 => ?_)
            clear hK K' hHeld
            have hHeld := hHeld1
            clear hHeld1
            try simp only [Act.put, List.setIfInBounds_toArray, List.set_cons_zero, List.set_cons_succ]
            refine wpAnyH_take (i := 9) (oi := { dst := some 46, op := Op.nilCheck (Operand.tmp 37), type := 0, pos := "hash.go:87", after := #[{ on := 0, ground := Ground.data }, { on := 0, ground := Ground.phase }, { on := 1, ground := Ground.phase }, { on := 2, ground := Ground.phase }, { on := 3, ground := Ground.phase }, { on := 4, ground := Ground.phase }, { on := 5, ground := Ground.phase }, { on := 6, ground := Ground.phase }, { on := 7, ground := Ground.phase }, { on := 8, ground := Ground.phase }], guard := none }) (v := ?v9a8) rfl (by kernel_rfl) (by kernel_rfl) (by kernel_rfl) (fun _ _ _ h => h) (Or.inl ⟨by rfl, ?hy9a8⟩) hHeld ?rest9a8
            case hy9a8 =>
              intro W' hV
              try dsimp only at hV
              go_simp
              all_goals with_reducible rfl
            case' rest9a8 => try simp only [Act.put, List.setIfInBounds_toArray, List.set_cons_zero, List.set_cons_succ]
            refine wpAnyH_take (i := 10) (oi := { dst := some 47, op := Op.fieldAddr 169 (Operand.tmp 46) 0, type := 0, pos := "hash.go:87", after := #[{ on := 9, ground := Ground.data }, { on := 0, ground := Ground.phase }, { on := 1, ground := Ground.phase }, { on := 2, ground := Ground.phase }, { on := 3, ground := Ground.phase }, { on := 4, ground := Ground.phase }, { on := 5, ground := Ground.phase }, { on := 6, ground := Ground.phase }, { on := 7, ground := Ground.phase }, { on := 8, ground := Ground.phase }], guard := none }) (v := ?v10a9) rfl (by kernel_rfl) (by kernel_rfl) (by kernel_rfl) (fun _ _ _ h => h) (Or.inl ⟨by rfl, ?hy10a9⟩) hHeld ?rest10a9
            case hy10a9 =>
              intro W' hV
              try dsimp only at hV
              go_simp
              all_goals with_reducible rfl
            case' rest10a9 => try simp only [Act.put, List.setIfInBounds_toArray, List.set_cons_zero, List.set_cons_succ]
            refine wpAnyH_ready (rs := [11]) (by kernel_rfl) (by simp) ?_
            refine AllReadyH.cons (o := { dst := none, op := Op.store 166 (Operand.tmp 47) (Operand.tmp 45), type := 0, pos := "hash.go:87", after := #[{ on := 10, ground := Ground.data }, { on := 8, ground := Ground.data }, { on := 8, ground := Ground.chain }, { on := 0, ground := Ground.phase }, { on := 1, ground := Ground.phase }, { on := 2, ground := Ground.phase }, { on := 3, ground := Ground.phase }, { on := 4, ground := Ground.phase }, { on := 5, ground := Ground.phase }, { on := 6, ground := Ground.phase }, { on := 7, ground := Ground.phase }, { on := 8, ground := Ground.phase }], guard := none }) rfl (fun K' hK => ?_) AllReadyH.nil
            rw [if_pos (by rfl)]
            refine wp_store_mid 166 (.tmp 47) (.tmp 45) (by rfl) g 0 cN (by rfl) (by rfl) (HBK4.out.there (by rw [HCNS.out]; omega)) HCNZ.out HCN1.out ?_
            refine hK.out _ _ trivial (fun hHeld1 => ?_)
            clear hK K' hHeld
            have hHeld := hHeld1
            clear hHeld1
            try simp only [Act.put, List.setIfInBounds_toArray, List.set_cons_zero, List.set_cons_succ]
            refine wpAnyH_done (by kernel_rfl) ?_ _
            clear hHeld
            obtain ⟨V5, hV5⟩ : ∃ V5, V5 = w4.setCells g 0 cN.toList := ⟨_, rfl⟩
            rw [← hV5]
            have HBK5 := Lib.hid (show Blk V5 g 169 73 (runV (hF (P ++ cs) ((P ++ cs).length / 64)) (splice W' R cs) NM) by
              rw [hV5]
              refine Blk.sets cN.toList 0 _ HBK4.out (by rw [Array.length_toList, HCNS.out]; omega) (fun j hj => ?_)
              have hlc : cN.toList.length = 8 := by rw [Array.length_toList, HCNS.out]
              rw [hlc, HCN.out]
              by_cases h8 : j < 8
              · rw [if_pos (by omega), runV_state h8, Nat.sub_zero, getD_tabV h8]
              · rw [if_neg (by omega)]
                unfold runV
                rw [if_neg h8, if_neg h8])
            have HVV5 := Lib.hid (show V3.grownBy V5 (some g) by
              rw [hV5]
              exact ((drew_but V3 _).trans (below_but HB4.out _)).trans (sets_but g _ 0 w4))
            have HGW5 := Lib.hid (show w.grownBy V5 (some g) from HGW3.out.trans HVV5.out)
            have HA5B := Lib.hid (show Bs V5 V.heap.size A2 (l.drop (k + m)) from HA3B.out.but HVV3.out.size HVV5.out HA2N.out)
            clear hV5 HBK4 HB4
            go_wp2
            go_roundw
            case rel =>
              have hrel := show ∃ (k' d' : Nat) (a'' : Option Addr) (c'' : Nat) (W'' : List Int), k' + d' = L ∧ Value.slice A2 (d - m) (c' - m) = .slice a'' d' c'' ∧ d' ≤ c'' ∧ Bs V5 V5.heap.size a'' (l.drop k') ∧ (0 < d' → ∀ b off, a'' = some ⟨b, off, none⟩ → b ≠ g) ∧ Rn V5 g (M ++ l.take k') W'' ∧ w.grownBy V5 (some g) from
                ⟨k + m, d - m, A2, c' - m, splice W' R cs, by have := HKD.out; have := HM1.out; omega, rfl, by have := HDC.out; omega, HA5B.out.more (Nat.le_trans HVV3.out.size HVV5.out.size), (fun _ => HA2N.out), ⟨by rw [HPC.out, HPCL.out, ← HPCL.out]; rw [HPCL.out]; exact (by have h := HBK5.out; rw [HPCL.out] at h; exact h), by rw [HPC.out]; exact HWF.out.1⟩, HGW5.out⟩
              first
                | exact hrel
                | ((repeat apply Exists.intro); exact ⟨hrel, rfl⟩)
            case measure => simp <;> (have := HM1.out; omega)
        · as_aux_lemma =>
            obtain ⟨S, hS⟩ : ∃ S, S = R + m := ⟨_, rfl⟩
            have hlt : S < 64 := by have := HM1.out; omega
            have q5 : (NM : Int) % 64 = (S : Int) := by have := HRE.out; omega
            have q5' : (NM : Int).tmod 64 = (S : Int) := by rw [Int.tmod_eq_emod_of_nonneg (by omega)]; exact q5
            have q6 : ((S : Int) == 0) = false := by have := HM1.out; simp <;> omega
            have HWP := Lib.hid (wait_part (M := P) (W := W') (cs := cs) HWT.out HCB.out (by rw [HCL.out, ← HNN.out, ← HRE.out, ← hS]; exact hlt))
            rw [← HHH.out, ← HNN.out, ← HRE.out] at HWP
            clear hNM hf hS hlt
            go_wp2
            clear q5 q5' q6 htot
            go_roundw
            case rel =>
              have hrel := show ∃ (k' d' : Nat) (a'' : Option Addr) (c'' : Nat) (W'' : List Int), k' + d' = L ∧ Value.slice A2 (d - m) (c' - m) = .slice a'' d' c'' ∧ d' ≤ c'' ∧ Bs V3 V3.heap.size a'' (l.drop k') ∧ (0 < d' → ∀ b off, a'' = some ⟨b, off, none⟩ → b ≠ g) ∧ Rn V3 g (M ++ l.take k') W'' ∧ w.grownBy V3 (some g) from
                ⟨k + m, d - m, A2, c' - m, splice W' R cs, by have := HKD.out; have := HM1.out; omega, rfl, by have := HDC.out; omega, HA3B.out.more HVV3.out.size, (fun _ => HA2N.out), ⟨by rw [HPC.out, HWP.out.2, HPCL.out]; exact HBK3.out, by rw [HPC.out]; exact HWP.out.1⟩, HGW3.out⟩
              first
                | exact hrel
                | ((repeat apply Exists.intro); exact ⟨hrel, rfl⟩)
            case measure => simp <;> (have := HM1.out; omega)
    · as_aux_lemma =>
        obtain rfl : d = 0 := by omega
        go_wp2
        go_end0
        refine ⟨rfl, HGR.out, W', ?_⟩
        have e : l.take k = l := List.take_of_length_le (by rw [HL.out, ← HKD.out]; omega)
        have h := HRN.out
        rw [e] at h
        exact h
end Go.Proofs.YtappfdbmhgifcaaGreatDoor
/- Texts of mine, one behind the other: Jr Jl. -/
/- The contract of hash.Sum: of any parts, however they are cut, the sum of all their bytes. -/
namespace Go.Proofs.YtappfdbmhgifcaaGreatDoor
open Go.ChangeShapes Go.WideShapes Go.ChangeAt Go.RowKit
set_option linter.unusedVariables false
set_option linter.unusedSimpArgs false
set_option maxRecDepth 100000

theorem infoRun : (Tryz.prog.info? 169).map (fun i => (i.zero, i.size)) = some (some (.agg (tabV 73 (runV (fun _ => 0) (List.replicate 64 0) 0))), 73) := by kernel_rfl
theorem size_R : (Tryz.prog.info? 169).map (·.size) = some 73 := by kernel_rfl
theorem built_R : Tryz.prog.built 169 [(0, .agg (tabV 8 (gV HF0)))] = some (tabV 73 (runV HF0 (List.replicate 64 0) 0)) := by kernel_rfl
/-- All bytes of the first rows. -/
def cat (rows : Nat → List Int) : Nat → List Int
  | 0 => []
  | i + 1 => cat rows i ++ rows i
theorem hF_none (rows : Nat → List Int) : hF (cat rows 0) ((cat rows 0).length / 64) = HF0 := by
  have e : (cat rows 0).length / 64 = 0 := by simp [cat]
  rw [e]; rfl
theorem cat_le (rows : Nat → List Int) : ∀ {i n : Nat}, i ≤ n → (cat rows i).length ≤ (cat rows n).length
  | i, 0, h => by obtain rfl : i = 0 := by omega
                  exact Nat.le_refl _
  | i, n + 1, h => by
    rw [cat, List.length_append]
    by_cases e : i = n + 1
    · subst e; rw [cat, List.length_append]; omega
    · have := cat_le rows (i := i) (n := n) (by omega)
      omega
/-- A slice of slices of bytes reads as rows. -/
def Rws (w : World) (ap : Option Addr) (np : Nat) (rows : Nat → List Int) : Prop :=
  ∀ i, i < np → ∃ pb po a c, ap = some ⟨pb, po, none⟩ ∧ pb < w.heap.size ∧ w.cell? ⟨pb, po + i, none⟩ = some (.slice a (rows i).length c) ∧ Bs w w.heap.size a (rows i) ∧ AllB (rows i) ∧ (rows i).length ≤ c
theorem Rws.on {w w' : World} {ap : Option Addr} {np : Nat} {rows : Nat → List Int} (h : Rws w ap np rows) (hb : Below w.heap.size w w') : Rws w' ap np rows := fun i hi => by
  obtain ⟨pb, po, a, c, e1, e2, e3, e4, e5, e6⟩ := h i hi
  exact ⟨pb, po, a, c, e1, Nat.lt_of_lt_of_le e2 hb.size, (World.cell?_of_block (w := w) (a := ⟨pb, po + i, none⟩) (hb.block pb e2)).trans e3, (e4.below hb).more hb.size, e5, e6⟩
theorem Gl.range {w : World} (h : Gl w) : w.rangeAt 0 0 (tabV 8 (gV HF0)).toList := fun j v hj => by
  rw [Array.getElem?_toList] at hj
  by_cases hjm : j < 8
  · rw [get_tabV hjm] at hj
    rw [Nat.zero_add, h.2.1 j hjm]
    exact hj
  · rw [Array.getElem?_eq_none (by rw [size_tabV]; omega)] at hj; cases hj
set_option maxHeartbeats 3000000 in
theorem sum_cap (ap : Option Addr) (np cp : Nat) (rows : Nat → List Int) (w : World) (hR : Rws w ap np rows) (hn : np ≤ 1000) (hL : (cat rows np).length ≤ 800000) (hG : Gl w) :
    Calls Tryz.prog 107 #[.slice ap np cp] w fun e w' => ∃ g c', e = .returned (.slice (some ⟨g, 0, none⟩) 32 c') ∧ Row8 w' g 32 (shaL (cat rows np)) ∧ Below w.heap.size w w' ∧ 32 ≤ c' := by
  have HRW := Lib.hid hR
  have HNP := Lib.hid hn
  have HLL := Lib.hid hL
  have HGL := Lib.hid hG
  clear hR hn hL hG
  obtain ⟨cH, hcH⟩ : ∃ c, c = tabV 8 (gV HF0) := ⟨_, rfl⟩
  have HRG := Lib.hid (show w.rangeAt 0 0 cH.toList by rw [hcH]; exact HGL.out.range)
  have HHZ := Lib.hid (show (Tryz.prog.info? 117).map (·.size) = some cH.toList.length by rw [hcH, Array.length_toList, size_tabV]; exact size_H)
  obtain ⟨TR, hTR⟩ : ∃ c, c = tabV 73 (runV HF0 (List.replicate 64 0) 0) := ⟨_, rfl⟩
  have HBD := Lib.hid (show Tryz.prog.built 169 [(0, .agg cH)] = some TR by rw [hcH, hTR]; exact built_R)
  have HTS := Lib.hid (show (Tryz.prog.info? 169).map (·.size) = some TR.size by rw [hTR, size_tabV]; exact size_R)
  have HT1 := Lib.hid (show TR.all (·.oneCell') = true by rw [hTR]; exact tabV_one fun j => runV_one _ _ _ j)
  obtain ⟨hz, hi⟩ := zero_of_info infoRun
  obtain ⟨z0, hz0⟩ : ∃ c, c = tabV 73 (runV (fun _ => 0) (List.replicate 64 0) 0) := ⟨_, rfl⟩
  rw [← hz0] at hz
  have HZS := Lib.hid (show z0.size = TR.size by rw [hz0, hTR, size_tabV, size_tabV])
  obtain ⟨W1, hW1⟩ : ∃ W1, W1 = w.alloc (.cells z0 169) := ⟨_, rfl⟩
  have HZ0 := Lib.hid (show (w.alloc (.cells z0 169)).heap[w.heap.size]? = some (.cells z0 169 (0, 0)) from heap_alloc_new w _)
  have HB1 := Lib.hid (show Below w.heap.size w ((w.alloc (.cells z0 169)).setRow w.heap.size TR) from below_setRow ((Below.refl _ _).alloc (Nat.le_refl _) _) (Nat.le_refl _) _)
  have HR1 := Lib.hid (show Rn ((w.alloc (.cells z0 169)).setRow w.heap.size TR) w.heap.size (cat rows 0) (List.replicate 64 0) from ⟨by
    rw [hTR]
    rw [hF_none rows]
    exact Blk.row (g := runV (fun _ => 0) (List.replicate 64 0) 0) (by unfold Blk; rw [← hz0]; exact HZ0.out) _, wait_nil⟩)
  clear hcH hTR hi hz0 hW1 W1
  go_enter Tryz.func107, Tryz.ntmps107
  go_upto_region 2 with (first
    | ((with_reducible show wpList _ _ _ (⟨some 6, _, _, _, _, _⟩ :: _) _ _); go_loud (refine wpList_load_mid (by rfl) 117 (.global 0) (by rfl) 0 0 (by rfl) cH.toList _ HRG.out Tryz.underlying117 (by rfl) HHZ.out ?_; rw [Array.toArray_toList]))
    | ((with_reducible show wpList _ _ _ (⟨some 7, _, _, _, _, _⟩ :: _) _ _); go_loud (refine wpList_buildTo rfl 169 #[(0, .tmp 6)] rfl (some 7) rfl TR (by rw [Array.toList_map]; exact HBD.out) ?_))
    | ((with_reducible show wpList _ _ _ (⟨none, _, _, _, _, _⟩ :: _) _ _); go_loud (refine wpList_store_row rfl 169 (.tmp 3) (.tmp 7) rfl w.heap.size TR rfl rfl _ _ HZ0.out HTS.out HZS.out HT1.out ?_)))
  clear hz
  generalize hW1 : (w.alloc (.cells z0 169)).setRow w.heap.size TR = W1 at HB1 HR1 ⊢
  clear hW1 HZ0
  obtain ⟨g, hg⟩ : ∃ g, g = w.heap.size := ⟨_, rfl⟩
  rw [← hg] at HB1 HR1 ⊢
  have HGW := Lib.hid hg
  have HG2 := Lib.hid (show 2 ≤ g by rw [hg]; exact HGL.out.1)
  clear hg
  go_upto_region 3 with fail
  go_loopw [10] (fun s wr => ∃ (i : Nat) (W' : List Int), i ≤ np ∧ s = .int .i64 (i : Nat) ∧ Rn wr g (cat rows i) W' ∧ Below g w wr) (fun s _ => np - (intOf s).toNat)
  case atStart => exact ⟨0, _, by omega, rfl, HR1.out, HB1.out⟩
  case round =>
    obtain ⟨i, W', hi, rfl, h1, h2⟩ := hrel
    rename World => V
    have HRN := Lib.hid h1
    have HBV := Lib.hid h2
    have HI := Lib.hid hi
    clear h1 h2 hi HR1 HB1
    have HRV := Lib.hid (HRW.out.on (by rw [← HGW.out]; exact HBV.out))
    have HGV := Lib.hid (HGL.out.on HBV.out HG2.out)
    have qn : (np : Int) ≤ 1000 := by have := HNP.out; omega
    by_cases hlt : i < np
    · as_aux_lemma =>
        obtain ⟨pb, po, a, c, rfl, hpb, hcell, hbs, hB, hc⟩ := HRV.out i hlt
        have qi : (i : Int) < (np : Int) := by omega
        have HLE := Lib.hid (show (cat rows i).length + (rows i).length ≤ 900000 by
          have h := cat_le rows (i := i + 1) (n := np) hlt
          rw [cat, List.length_append] at h
          have := HLL.out
          omega)
        have HLT := Lib.hid hlt
        have HADD := Lib.hid (add_any g (cat rows i) W' a (rows i).length c (rows i) V HRN.out rfl hB hbs hc (fun h0 b off e => by
          obtain ⟨pb', po', a', c', e1, e2, e3, e4, _⟩ := HRW.out i hlt
          cases e1
          have hcc := (World.cell?_of_block (w := w) (a := ⟨pb, po + i, none⟩) (HBV.out.block pb (by rw [HGW.out]; exact e2))).trans e3
          rw [hcell] at hcc
          cases hcc
          obtain ⟨b', off', e5, hlt', _⟩ := e4 h0
          rw [e] at e5
          cases e5
          rw [HGW.out]
          omega) HGV.out HG2.out HLE.out)
        obtain ⟨rl, hrl⟩ : ∃ r, r = (rows i).length := ⟨_, rfl⟩
        rw [← hrl] at hcell HADD
        clear hrl hlt hpb hbs hB hc
        go_wp2_with (go_at_call 128; go_loud ((with_reducible refine HADD.out.mono ?_); rintro e V2 ⟨rfl, hgr, W2, hr2⟩; have HGR := Lib.hid hgr; have HR2 := Lib.hid hr2; clear hgr hr2))
        go_roundw
        case rel => exact ⟨i + 1, W2, HLT.out, by go_num, HR2.out, HBV.out.trans (but_below HGR.out (Nat.le_refl _) (Nat.le_of_lt HRN.out.1.lt))⟩
        case measure => simp [intOf] <;> (have := HLT.out; omega)
    · as_aux_lemma =>
        obtain rfl : i = np := by have := HI.out; omega
        obtain ⟨M, hM⟩ : ∃ M, M = cat rows i := ⟨_, rfl⟩
        rw [← hM] at HRN HLL
        have HM := Lib.hid hM
        have HEND := Lib.hid (end_any g (hF M (M.length / 64)) W' M.length V HRN.out.1 (by have := HLL.out; omega))
        clear hM hlt
        go_upto_region 8 with (first
          | (go_at_call 129; go_loud ((with_reducible refine HEND.out.mono ?_); rintro e V2 ⟨g2, c2, rfl, hc2, hg2, hr2, hb2⟩; have HB2 := Lib.hid hb2; have HR2 := Lib.hid hr2; have HADD := Lib.hid (add_any g M W' (some ⟨g2, 0, none⟩) (zc M.length + 9) c2 (endL M.length) V2 ⟨HRN.out.1.on hb2 HRN.out.1.lt, HRN.out.2⟩ (endL_len _) (endL_B _) hr2.bs hc2 (fun _ b off e => by cases e; have := HRN.out.1.lt; omega) (HGV.out.on hb2 HGV.out.1) HG2.out (by have := HLL.out; have := zc_lt M.length; omega)); clear hb2 hr2 hc2 hg2))
          | (go_at_call 128; go_loud ((with_reducible refine HADD.out.mono ?_); rintro e V3 ⟨rfl, hgr, W3, hr3⟩; have HGR := Lib.hid hgr; have HR3 := Lib.hid hr3; clear hgr hr3)))
        rw [← shaM_end] at HR3
        have HBW := Lib.hid (show Below g w V3 from (HBV.out.trans (HB2.out.mono (Nat.le_of_lt HRN.out.1.lt))).trans (but_below HGR.out (Nat.le_refl _) (Nat.le_of_lt (HRN.out.1.on HB2.out HRN.out.1.lt).lt)))
        obtain ⟨h, hh⟩ : ∃ h, h = hF (shaM M) ((shaM M).length / 64) := ⟨_, rfl⟩
        have hhb : ∀ j, h j < 4294967296 := fun j => by rw [hh]; exact hF_lt _ _ j
        have HBK := Lib.hid HR3.out.1
        rw [← hh] at HBK
        have HSM := Lib.hid (show shaL M = outW h 8 by rw [shaL, hh])
        obtain ⟨cS, hcS⟩ : ∃ c, c = tabV 8 (gV h) := ⟨_, rfl⟩
        have HRS := Lib.hid (show V3.rangeAt g 0 cS.toList by rw [hcS]; exact HBK.out.rangeT (by omega) fun j hj => runV_state hj)
        have HSZ := Lib.hid (show (Tryz.prog.info? 166).map (·.size) = some cS.toList.length by rw [hcS, Array.length_toList, size_tabV]; exact size_S)
        have HBY := Lib.hid (hbytes_cap h V3 hhb)
        rw [← hcS] at HBY
        clear hh hhb hcS HADD
        go_wp2_with (first
          | ((with_reducible show wpList _ _ _ (⟨some 20, _, _, _, _, _⟩ :: _) _ _); go_loud (refine wpList_load_mid (by rfl) 166 (.tmp 19) (by rfl) g 0 (by rfl) cS.toList _ HRS.out Tryz.underlying166 (by rfl) HSZ.out ?_; rw [Array.toArray_toList]))
          | (go_at_call 130; go_loud ((with_reducible refine HBY.out.mono ?_); rintro e V4 ⟨g4, c4, rfl, hr4, hb4, hc4⟩; have HR4 := Lib.hid hr4; have HB4 := Lib.hid hb4; have HC4 := Lib.hid hc4; clear hr4 hb4 hc4)))
        go_ret
        refine ⟨g4, c4, rfl, by rw [← HM.out, HSM.out]; exact HR4.out, ?_, HC4.out⟩
        rw [← HGW.out]
        exact HBW.out.trans (HB4.out.mono (Nat.le_of_lt HBK.out.lt))
theorem sum_any (ap : Option Addr) (np cp : Nat) (rows : Nat → List Int) (w : World) (hR : Rws w ap np rows) (hn : np ≤ 1000) (hL : (cat rows np).length ≤ 800000) (hG : Gl w) :
    Calls Tryz.prog 107 #[.slice ap np cp] w fun e w' => ∃ g c', e = .returned (.slice (some ⟨g, 0, none⟩) 32 c') ∧ Row8 w' g 32 (shaL (cat rows np)) ∧ Below w.heap.size w w' :=
  (sum_cap ap np cp rows w hR hn hL hG).mono fun _ _ ⟨g, c', h1, h2, h3, _⟩ => ⟨g, c', h1, h2, h3⟩
end Go.Proofs.YtappfdbmhgifcaaGreatDoor
/- Layer 7's laws: what they have in common: one part; the sum as a string; the chapter's example. -/
namespace Go.Proofs.YtappfdbmhgifcaaGreatDoor
open Go.ChangeShapes Go.WideShapes Go.ChangeAt Go.RowKit
set_option linter.unusedVariables false
set_option linter.unusedSimpArgs false
set_option maxRecDepth 100000

theorem Row8.str_on {w : World} {g n : Nat} {l : List Int} (h : Row8 w g n l) (c : Nat) : ∀ U, Below w.heap.size w U → (convert 22 9 (.slice (some ⟨g, 0, none⟩) n c)).run Tryz.prog U = .ok (.string (strOfNums l)) U := fun U hU =>
  (h.bs.below hU).str h.1 Tryz.underlying22 Tryz.underlying5 Tryz.underlying9
theorem Arg8.str_on {w : World} {a : Option Addr} {n c : Nat} {l : List Int} (h : Arg8 w a n c l) : ∀ U, Below w.heap.size w U → (convert 22 9 (.slice a n c)).run Tryz.prog U = .ok (.string (strOfNums l)) U := fun U hU =>
  (h.2.2.1.below hU).str h.1 Tryz.underlying22 Tryz.underlying5 Tryz.underlying9
/-- The sum of one part. -/
theorem sum_one (pb : Nat) (a : Option Addr) (L c : Nat) (l : List Int) (w : World) (hp : w.cell? ⟨pb, 0, none⟩ = some (.slice a L c)) (hpb : pb < w.heap.size) (hx : Arg8 w a L c l) (hL : L ≤ 800000) (hG : Gl w) :
    Calls Tryz.prog 107 #[.slice (some ⟨pb, 0, none⟩) 1 1] w fun e w' => ∃ g c', e = .returned (.slice (some ⟨g, 0, none⟩) 32 c') ∧ Row8 w' g 32 (shaL l) ∧ Below w.heap.size w w' := by
  have e : cat (fun _ => l) 1 = l := by simp [cat]
  have h := sum_any (some ⟨pb, 0, none⟩) 1 1 (fun _ => l) w (fun i hi => ⟨pb, 0, a, c, rfl, hpb, by rw [Nat.zero_add, show i = 0 by omega, hp, hx.1], hx.2.2.1, hx.2.1, by rw [hx.1]; exact hx.2.2.2.1⟩) (by omega) (by rw [e, hx.1]; exact hL) hG
  rw [e] at h
  exact h
end Go.Proofs.YtappfdbmhgifcaaGreatDoor
/- Plain: a package of bytes (all or nothing). What package aont's functions answer: the contracts, as statements. -/
namespace Go.Proofs.YtappfdbmhgifcaaGreatDoor
open Go.ChangeShapes Go.WideShapes Go.ChangeAt Go.RowKit Go.Shelf
set_option linter.unusedVariables false
set_option linter.unusedSimpArgs false

/-- A nonce of noughts. -/
def Z8 : List Int := List.replicate 8 0
theorem Z8_B : AllB Z8 := fun x hx => by obtain ⟨_, rfl⟩ := List.mem_replicate.1 hx; omega
/-- Bytes and the stream of a key, added. -/
def hidL (K B : List Int) : List Int := xorL B (stL (strf K Z8) 0 B.length)
/-- The package; its key; its bytes. -/
def pkgL (K B : List Int) : List Int := hidL K B ++ xorL K (shaL (hidL K B))
def keyL (P : List Int) : List Int := xorL (P.drop (P.length - 32)) (shaL (P.take (P.length - 32)))
def opnL (P : List Int) : List Int := hidL (keyL P) (P.take (P.length - 32))
theorem hidL_len (K B : List Int) : (hidL K B).length = B.length := by unfold hidL; rw [length_xorL, length_stL, Nat.min_self]
theorem hidL_B {K B : List Int} (hK : AllB K) (hB : AllB B) : AllB (hidL K B) := xorL_B _ _ hB (allB_stL (strf_B hK _) _ _)
theorem hidL_twice {K B : List Int} (hB : AllB B) : hidL K (hidL K B) = B := by
  unfold hidL
  rw [length_xorL, length_stL, Nat.min_self]
  exact xorL_twice (by rw [length_stL]) hB
theorem pkgL_len {K : List Int} (B : List Int) (hK : K.length = 32) : (pkgL K B).length = B.length + 32 := by unfold pkgL; rw [List.length_append, hidL_len, length_xorL, shaL_len, hK]; rfl
theorem pkgL_B {K B : List Int} (hK : AllB K) (hB : AllB B) : AllB (pkgL K B) := fun x hx => (List.mem_append.1 hx).elim (hidL_B hK hB x) (xorL_B _ _ hK (shaL_B _) x)
theorem pkgL_take {K : List Int} (B : List Int) (hK : K.length = 32) : (pkgL K B).take ((pkgL K B).length - 32) = hidL K B := by
  rw [pkgL_len B hK, Nat.add_sub_cancel, ← hidL_len K B]
  exact List.take_left
theorem pkgL_drop {K : List Int} (B : List Int) (hK : K.length = 32) : (pkgL K B).drop ((pkgL K B).length - 32) = xorL K (shaL (hidL K B)) := by
  rw [pkgL_len B hK, Nat.add_sub_cancel, ← hidL_len K B]
  exact List.drop_left
theorem keyL_pkg {K : List Int} (B : List Int) (hK : K.length = 32) (hA : AllB K) : keyL (pkgL K B) = K := by
  unfold keyL
  rw [pkgL_take B hK, pkgL_drop B hK]
  exact xorL_twice (by rw [shaL_len, hK]) hA
theorem opnL_pkg {K B : List Int} (hK : K.length = 32) (hA : AllB K) (hB : AllB B) : opnL (pkgL K B) = B := by
  unfold opnL
  rw [keyL_pkg B hK hA, pkgL_take B hK]
  exact hidL_twice hB
theorem keyL_B {P : List Int} (h : AllB P) : AllB (keyL P) := xorL_B _ _ (fun x hx => h x (List.mem_of_mem_drop hx)) (shaL_B _)
/-! ## the contracts -/
def WrapOkC : Prop := ∀ (b : Nat) (aK : Option Addr) (cK : Nat) (K : List Int) (aB : Option Addr) (n cB : Nat) (B : List Int) (w : World),
  Gl w → Fld w b → Arg8c w aK 32 cK K → Arg8c w aB n cB B → n ≤ 900 →
  Calls Tryz.prog 52 #[.pointer (some ⟨b, 0, none⟩), .slice aK (32 : Nat) cK, .slice aB n cB] w fun e w' => ∃ g c, e = .returned (.tuple #[.slice (some ⟨g, 0, none⟩) (n + 32 : Nat) c, .int .i64 0]) ∧
    w'.ownsRow w.heap.size 5 1 (.slice (some ⟨g, 0, none⟩) (n + 32 : Nat) c) (n + 32) ((pkgL K B).map (Value.int .u8)) ∧ Below w.heap.size w w'
def OpenOkC : Prop := ∀ (b : Nat) (a : Option Addr) (n c : Nat) (P : List Int) (w : World), Gl w → Fld w b → Arg8c w a n c P → 32 ≤ n → n ≤ 2000 →
  Calls Tryz.prog 73 #[.pointer (some ⟨b, 0, none⟩), .slice a n c] w fun e w' => ∃ a' c', e = .returned (.tuple #[.slice a' (n - 32 : Nat) c', .int .i64 0]) ∧ Arg8 w' a' (n - 32) c' (opnL P) ∧ Below w.heap.size w w'
end Go.Proofs.YtappfdbmhgifcaaGreatDoor
/- Plain: a stripe's polynomials, one for each byte; the rows of a block; the marked package. No program is named here. -/
namespace Go.Proofs.YtappfdbmhgifcaaGreatDoor
open GF
set_option linter.unusedVariables false

/-- The polynomials of a block and a mask; those of parts. -/
def qS (t : Nat) (S M : List GF) : List (List GF) := (List.range 440).map fun i => tr (dl t 440 S M i)
def qA (P : List (List GF)) (n : Nat) : List (List GF) := (List.range n).map fun i => tr (pp P i)
/-- Polynomials of n bytes, each of at most t numbers. -/
def PolyQ (Q : List (List GF)) (n t : Nat) : Prop := Q.length = n ∧ ∀ k, k < n → tr (rw_ Q k) = rw_ Q k ∧ (rw_ Q k).length ≤ t
theorem rw_map {α : Type} (f : Nat → List GF) {n k : Nat} (h : k < n) : rw_ ((List.range n).map f) k = f k := by
  unfold rw_; simp [List.getD_eq_getElem?_getD, h]
theorem qS_len (t : Nat) (S M : List GF) : (qS t S M).length = 440 := by simp [qS]
theorem qA_len (P : List (List GF)) (n : Nat) : (qA P n).length = n := by simp [qA]
theorem qS_row {t k : Nat} {S M : List GF} (h : k < 440) : rw_ (qS t S M) k = tr (dl t 440 S M k) := rw_map (α := Nat) _ h
theorem qA_row {P : List (List GF)} {n k : Nat} (h : k < n) : rw_ (qA P n) k = tr (pp P k) := rw_map (α := Nat) _ h
theorem qS_ok {t : Nat} (S M : List GF) (ht : 1 ≤ t) : PolyQ (qS t S M) 440 t := ⟨qS_len t S M, fun k hk => by
  rw [qS_row hk]
  exact ⟨tr_tr _, tr_len.2 fun j hj => dl_ge 440 S M k ht hj⟩⟩
theorem qA_ok (P : List (List GF)) (n : Nat) : PolyQ (qA P n) n P.length := ⟨qA_len P n, fun k hk => by
  rw [qA_row hk]
  exact ⟨tr_tr _, tr_len.2 fun j hj => pp_ge P k hj⟩⟩
theorem qS_at (t : Nat) (S M : List GF) (x : GF) : evP (qS t S M) x = shR t 440 S M x := by
  refine ext_co (by rw [evP_len, qS_len, shR_len]) fun k hk => ?_
  rw [evP_len, qS_len] at hk
  rw [evP_co x (by rw [qS_len]; exact hk), qS_row hk, ev_tr, shR_co S M x hk]
theorem qA_at (P : List (List GF)) (n : Nat) (x : GF) : evP (qA P n) x = pcR P n x := by
  refine ext_co (by rw [evP_len, qA_len, pcR_len]) fun k hk => ?_
  rw [evP_len, qA_len] at hk
  rw [evP_co x (by rw [qA_len]; exact hk), qA_row hk, ev_tr, pcR_co x hk]
/-- The rows at the places 1 to N. -/
def stR (Q : List (List GF)) (N : Nat) : List (List GF) := (List.range N).map fun i => evP Q (pl (i + 1))
theorem stR_len (Q : List (List GF)) (N : Nat) : (stR Q N).length = N := by simp [stR]
theorem stR_row {Q : List (List GF)} {N i : Nat} (h : i < N) : rw_ (stR Q N) i = evP Q (pl (i + 1)) := rw_map (α := Nat) _ h
theorem shM_st (t N : Nat) (S M : List GF) : shM t 440 S M (plc N) = stR (qS t S M) N := by
  unfold shM stR plc
  rw [List.map_map]
  exact List.map_congr_left fun i _ => (qS_at t S M _).symm
theorem encM_st (P : List (List GF)) (n N : Nat) : encM P n N = stR (qA P n) N := by
  unfold encM stR
  exact List.map_congr_left fun i _ => (qA_at P n _).symm
/-- Polynomials that are nothing. -/
def noQ (n : Nat) : List (List GF) := List.replicate n []
theorem noQ_len (n : Nat) : (noQ n).length = n := by simp [noQ]
theorem noQ_at (n : Nat) (x : GF) : evP (noQ n) x = noR n := by
  unfold evP noQ noR
  rw [List.map_replicate]
  rfl
theorem PolyQ.same {Q Q' : List (List GF)} {n t : Nat} (h : PolyQ Q n t) (h' : PolyQ Q' n t) (he : ∀ k, k < n → ∀ j, co (rw_ Q k) j = co (rw_ Q' k) j) : Q = Q' := by
  apply List.ext_getElem (by rw [h.1, h'.1])
  intro k k1 k2
  have hk : k < n := by rw [← h.1]; exact k1
  have e := tr_ext (he k hk)
  rw [(h.2 k hk).1, (h'.2 k hk).1] at e
  unfold rw_ at e
  simpa [List.getD_eq_getElem?_getD, k1, k2] using e
/-- A byte 1 and the block's package under a key. -/
def parG (K B : List GF) : List GF := 1 :: gL (pkgL (iL K) (iL B))
theorem parG_len {K B : List GF} (hK : K.length = 32) (hB : B.length = 440) : (parG K B).length = 473 := by
  unfold parG
  rw [List.length_cons, length_gL, pkgL_len _ (by rw [length_iL, hK]), length_iL, hB]
/-- The parts of marked bytes, and their polynomials. -/
def cutQ (P : List GF) (t : Nat) : List (List GF) := qA (cutM P t (ceil 473 t)) (ceil 473 t)
theorem qcut_len (P : List GF) (t n : Nat) : (cutM P t n).length = t := by simp [cutM]
theorem cutQ_ok (P : List GF) (t : Nat) : PolyQ (cutQ P t) (ceil 473 t) t := by
  have h := qA_ok (cutM P t (ceil 473 t)) (ceil 473 t)
  rw [qcut_len] at h
  exact h
theorem qcut_row {P : List GF} {t n i : Nat} (h : i < t) : (rw_ (cutM P t n) i).length = n := by
  unfold cutM
  rw [rw_map (α := Nat) _ h]; simp
theorem cutQ_part {P : List GF} {t i : Nat} (ht : t ≤ 255) (h : i < t) : evP (cutQ P t) (pl (i + 1)) = rw_ (cutM P t (ceil 473 t)) i := by
  unfold cutQ
  rw [qA_at]
  exact pcR_part (by rw [qcut_len]; exact ht) (by rw [qcut_len]; exact h) (qcut_row h)
theorem ceil473 {t : Nat} (h1 : 1 ≤ t) : 473 ≤ t * ceil 473 t ∧ ceil 473 t ≤ 473 ∧ 1 ≤ ceil 473 t := by
  unfold ceil
  have h2 := Nat.div_add_mod (473 + t - 1) t
  have h3 := Nat.mod_lt (473 + t - 1) (show 0 < t by omega)
  refine ⟨by omega, ?_, ?_⟩
  · rw [Nat.div_le_iff_le_mul_add_pred (by omega)]
    have : t * 473 ≥ 1 * 473 := Nat.mul_le_mul_right _ h1
    have h5 : 473 * (t - 1) + 473 = 473 * t := by rw [← Nat.mul_succ]; congr 1; omega
    have h6 : t * 473 = 473 * t := Nat.mul_comm _ _
    omega
  · rw [Nat.le_div_iff_mul_le (by omega)]; omega
/-- The rows of the first t places, one behind the other, are the marked bytes. -/
theorem cutQ_flat {P : List GF} {t : Nat} (h1 : 1 ≤ t) (ht : t ≤ 255) (hP : P.length = 473) : (flat (stR (cutQ P t) t)).take 473 = P := by
  have e : stR (cutQ P t) t = cutM P t (ceil 473 t) := by
    apply List.ext_getElem (by rw [stR_len, qcut_len])
    intro i k1 k2
    have hi : i < t := by rw [stR_len] at k1; exact k1
    have e1 : rw_ (stR (cutQ P t) t) i = rw_ (cutM P t (ceil 473 t)) i := by rw [stR_row hi, cutQ_part ht hi]
    unfold rw_ at e1
    simpa [List.getD_eq_getElem?_getD, k1, k2] using e1
  rw [e]
  exact flat_take hP (ceil473 h1).1
theorem noQ_flat {t n : Nat} (h : 473 ≤ t * n) : (flat (stR (noQ n) t)).take 473 = noR 473 := by
  have e : stR (noQ n) t = List.replicate t (noR n) := by
    unfold stR
    refine List.eq_replicate_iff.2 ⟨by simp, fun x hx => ?_⟩
    obtain ⟨i, _, rfl⟩ := List.mem_map.1 hx
    exact noQ_at _ _
  rw [e]
  unfold flat noR
  rw [List.flatten_replicate_replicate, List.take_replicate, Nat.min_eq_left h]
/-- A block's polynomials, by either mode. -/
def qM (m : Int) (t : Nat) (B R : List GF) : List (List GF) := if m = 0 then qS t B R else cutQ (parG R B) t
theorem qM_0 (t : Nat) (B R : List GF) : qM 0 t B R = qS t B R := rfl
/-- What polynomials tell: a block. -/
def Tel (m : Int) (t : Nat) (Q : List (List GF)) (B : List GF) : Prop :=
  B.length = 440 ∧ ((m = 0 ∧ Q.length = 440 ∧ evP Q 0 = B) ∨ (m = 1 ∧ ((∃ K : List GF, K.length = 32 ∧ Q = cutQ (parG K B) t) ∨ (Q = noQ (ceil 473 t) ∧ B = noR 440))))
theorem tel_0 {t : Nat} {B R : List GF} (hB : B.length = 440) : Tel 0 t (qS t B R) B := ⟨hB, .inl ⟨rfl, qS_len t B R, by rw [qS_at]; exact sh_secret R hB⟩⟩
theorem tel_1 {t : Nat} {B K : List GF} (hB : B.length = 440) (hK : K.length = 32) : Tel 1 t (cutQ (parG K B) t) B := ⟨hB, .inr ⟨rfl, .inl ⟨K, hK, rfl⟩⟩⟩
end Go.Proofs.YtappfdbmhgifcaaGreatDoor
/- Contracts of slices.Grow from nothing and of slices.Concat of two rows of bytes. -/
namespace Go.Proofs.YtappfdbmhgifcaaGreatDoor
open Go.ChangeShapes Go.WideShapes Go.ChangeAt Go.RowKit Go.Shelf
set_option linter.unusedVariables false
set_option maxRecDepth 100000
set_option linter.unusedSimpArgs false

set_option maxHeartbeats 1000000 in
theorem grow_nil (n : Nat) (w : World) (h1 : 1 ≤ n) (h2 : n ≤ 1000) :
    Calls Tryz.prog 84 #[.slice none 0 0, .int .i64 (n : Nat)] w fun e w' => ∃ c, e = .returned (.slice (some ⟨w.heap.size, 0, none⟩) 0 c) ∧ w'.ownsRow w.heap.size 5 1 (.slice (some ⟨w.heap.size, 0, none⟩) 0 c) 0 (([] : List Int).map (Value.int .u8)) ∧ Below w.heap.size w w' := by
  obtain ⟨i5, hi, hz0, hz1, hz2⟩ := info_parts info5
  have hold : (Builtin.firstCells i5.size 0 (.slice none 0 0)).run Tryz.prog w.drew = .ok ([] : List Value).toArray w.drew := run_firstCells_none w.drew i5.size 0 0 0
  have hrz := fun ty => Lib.run_append_grow_zeros w 22 3 ty 5 i5 (.int .u8 0) .i64 .i64 Tryz.underlying22 Tryz.underlying3 hi hz0 none 0 0 [] hold n (by omega) (by rw [hz1]; decide) (by omega) (by omega) (by rw [hz2]; omega)
    (by rw [hz2]; have h : Builtin.nextslicecap (0 + n) 0 ≤ 0 + n ∨ Builtin.nextslicecap (0 + n) 0 = 0 + n := by
          unfold Builtin.nextslicecap; simp; omega
        omega)
  rw [Nat.zero_add] at hrz
  have hGn : n ≤ grownCap w n 0 5 := grownCap_ge w _ _ _
  have hGm : grownCap w n 0 5 ≤ maxLen := grownCap_le_maxLen w n 0 5 (by unfold maxLen; omega)
  obtain ⟨G, hG⟩ : ∃ G, G = grownCap w n 0 5 := ⟨_, rfl⟩
  rw [← hG] at hrz hGn hGm
  have hGm2 : G ≤ 9223372036854775807 := by unfold maxLen at hGm; omega
  obtain ⟨cs, hcs⟩ : ∃ cs, cs = Builtin.zeroCells #[Value.int .u8 0] n ++ Builtin.zeroCells #[Value.int .u8 0] (G - n) := ⟨_, rfl⟩
  have hsz : cs.size = G * 1 := by rw [hcs, Array.size_append, size_zeroCells, size_zeroCells]; simp; omega
  have HO : Hid ((w.alloc (.cells cs 5)).drew.ownsRow w.heap.size 5 1 (.slice (some ⟨w.heap.size, 0, none⟩) 0 G) 0 []) := Lib.hid ⟨rfl, .inr ⟨w.heap.size, G, cs, rfl, Nat.le_refl _, heap_alloc_new w _, Nat.zero_le _, hGm, hsz, rfl⟩⟩
  have HB : Hid (Below w.heap.size w (w.alloc (.cells cs 5)).drew) := Lib.hid (((Below.refl w.heap.size w).alloc (Nat.le_refl _) _).drew)
  rw [hcs] at HO HB
  clear hsz hcs cs
  have HR := Lib.hid hrz
  have q1 : ¬ ((n : Int) < 0) := by omega
  have q2 : (0 : Int) < (n : Int) := by omega
  clear hG hGm hold hi hz0 hz1 hz2 hrz
  go_enter Tryz.func84, Tryz.ntmps84
  go_wp2_with (at_builtin; go_loud (refine Lib.wpList_append_run _ rfl _ _ _ _ rfl _ _ rfl rfl _ _ (HR.out _) ?_))
  all_goals (go_ret; exact ⟨G, rfl, HO.out, HB.out⟩)
set_option maxHeartbeats 1000000 in
theorem concat8_any (g : Nat) (a1 : Option Addr) (n1 c1 : Nat) (P : List Int) (a2 : Option Addr) (n2 c2 : Nat) (Q : List Int) (w : World) (h1 : w.cell? ⟨g, 0, none⟩ = some (.slice a1 n1 c1)) (h2 : w.cell? ⟨g, 0 + 1, none⟩ = some (.slice a2 n2 c2)) (hg : g < w.heap.size) (hp : Arg8c w a1 n1 c1 P) (hq : Arg8c w a2 n2 c2 Q) (hn1 : 1 ≤ n1 + n2) (hn : n1 + n2 ≤ 1000) :
    Calls Tryz.prog 53 #[.slice (some ⟨g, 0, none⟩) 2 2] w fun e w' => ∃ v, e = .returned v ∧ w'.ownsRow w.heap.size 5 1 v (n1 + n2) ((P ++ Q).map (Value.int .u8)) ∧ Below w.heap.size w w' := by
  obtain ⟨i5, hi, hz0, hz1, hz2⟩ := info_parts info5
  have HI := Lib.hid (And.intro hi (And.intro hz0 (And.intro hz1 hz2)))
  have HP := Lib.hid hp
  have HQ := Lib.hid hq
  have hgr := fun W => grow_nil (n1 + n2) W (by omega) (by omega)
  simp only [Int.natCast_add] at hgr
  have HGR := Lib.hid hgr
  clear hgr
  have hb1 : n1 ≤ c1 ∧ c1 ≤ 9223372036854775807 := ⟨hp.1.2.2.2.1, hp.1.2.2.2.2⟩
  have hb2 : n2 ≤ c2 ∧ c2 ≤ 9223372036854775807 := ⟨hq.1.2.2.2.1, hq.1.2.2.2.2⟩
  have h2' : w.cell? ⟨g, 1, none⟩ = some (.slice a2 n2 c2) := h2
  have q1 : ¬ ((n1 : Int) < 0) := by omega
  have q2 : ¬ ((n1 : Int) + (n2 : Int) < 0) := by omega
  have q3 : ((n1 + n2 : Nat) : Int) = (n1 : Int) + (n2 : Int) := by omega
  clear hi hz0 hz1 hz2 hp hq h2
  go_enter Tryz.func53, Tryz.ntmps53
  go_wp2
  refine wp_loop_rounds 3 ?_
  rw [rounds_succ]
  go_wp2
  rw [rounds_succ]
  go_wp2
  rw [rounds_succ]
  go_wp2_with (go_at_call 84; go_loud (refine (HGR.out _).mono ?_); rintro e w1 ⟨c3, rfl, ho1, hb1'⟩; have HO1 := Lib.hid ho1; have HB1 := Lib.hid hb1'; clear ho1 hb1'; have hd1 := (HB1.out.cell (p := ⟨g, 0, none⟩) hg).trans h1; have hd2 := (HB1.out.cell (p := ⟨g, 1, none⟩) hg).trans h2')
  refine wp_loop_rounds 3 ?_
  rw [rounds_succ]
  go_wp2_with ((with_reducible show wpList _ _ _ (⟨some 33, _, _, _, _, _⟩ :: _) _ _); go_loud (refine wpList_append_bs _ rfl (.tmp 31) (.tmp 32) 22 rfl w.heap.size 5 i5 Tryz.underlying22 HI.out.1 HI.out.2.1 HI.out.2.2.1 HI.out.2.2.2 _ 0 [] rfl HO1.out _ n1 c1 _ P rfl (HP.out.1.on HB1.out).2.2.1 HP.out.1.1 HP.out.2 (by omega) HB1.out.size ?_); go_loud (intro v1 wc hown1 hg1; rw [Nat.zero_add, List.nil_append] at hown1; have hbel := HB1.out.grown hg1 HB1.out.size (fun z hz => (HO1.out.lt z hz).1); obtain ⟨a4, c4, hv1, _, _, _, _, _⟩ := own_form hown1; subst hv1; have HO2 := Lib.hid hown1; have HB2 := Lib.hid hbel; clear hown1 hg1 hbel; have he2 := (HB2.out.cell (p := ⟨g, 1, none⟩) hg).trans h2'))
  rw [rounds_succ]
  go_wp2_with ((with_reducible show wpList _ _ _ (⟨some 33, _, _, _, _, _⟩ :: _) _ _); go_loud (refine wpList_append_bs _ rfl (.tmp 31) (.tmp 32) 22 rfl w.heap.size 5 i5 Tryz.underlying22 HI.out.1 HI.out.2.1 HI.out.2.2.1 HI.out.2.2.2 _ n1 P rfl HO2.out _ n2 c2 _ Q rfl (HQ.out.1.on HB2.out).2.2.1 HQ.out.1.1 HQ.out.2 (by omega) HB2.out.size ?_); go_loud (intro v1 wc hown1 hg1; have hbel := HB2.out.grown hg1 HB2.out.size (fun z hz => (HO2.out.lt z hz).1); obtain ⟨a5, c5, hv1, _, _, _, _, _⟩ := own_form hown1; subst hv1; have HO3 := Lib.hid hown1; have HB3 := Lib.hid hbel; clear hown1 hg1 hbel))
  rw [rounds_succ]
  go_wp2
  go_ret
  exact ⟨_, rfl, HO3.out, HB3.out⟩
end Go.Proofs.YtappfdbmhgifcaaGreatDoor
