/- Package crew: who is current. -/
import Derived.Test.YtbijakhdngbjmaaGd
import Derived.Test.YtbijakhdngbjmaaShelf
import Derived.Sort.OwnSortedInts
namespace Go.Proofs.Ytbijakhdngbjmaa
open Go.ChangeShapes Go.WideShapes Go.ChangeAt Go.RowKit Go.Shelf Go.Maps
set_option linter.unusedVariables false
set_option linter.unusedSimpArgs false
set_option maxRecDepth 100000
attribute [local go_sem] Oper.semAt_some

set_option maxHeartbeats 8000000 in
theorem current_any (T : SU) (hTW : T.Wf) (a : Option Addr) (L c : Nat) (SL : List SU) (w : World) (hI : SuR w a L c SL) (hT : Tog SL) :
    Calls Try.prog 25 #[suA T, .slice a L c] w fun e w' => ∃ (ao : Option Addr) (co : Nat), e = .returned (.slice ao (curL T SL).length co) ∧ w'.ownsRow w.heap.size 3 1 (.slice ao (curL T SL).length co) (curL T SL).length ((curL T SL).map (Value.int .i64)) ∧ Below w.heap.size w w' := by
  obtain ⟨hb1, hb2⟩ := hI.bd
  have hl : SL.length = L := hI.1
  have hL9 : L ≤ 100 := by rw [← hl]; exact hT.le
  have HL := Lib.hid hl
  have HI := Lib.hid hI
  have HT := Lib.hid hT
  have HTW := Lib.hid hTW
  obtain ⟨hz0, hi0⟩ := zero_of_info infoSu
  clear hi0
  obtain ⟨c0, hc0⟩ : ∃ s, s = tabV 276 (suV suZ) := ⟨_, rfl⟩
  rw [← hc0] at hz0
  have HC0 := Lib.hid (show c0.size = 276 by rw [hc0, size_tabV])
  obtain ⟨hBT, hST⟩ := su_box T w
  obtain ⟨sT, hsT⟩ : ∃ s, s = tabV 276 (suV T) := ⟨_, rfl⟩
  unfold suA
  rw [← hsT] at hBT hST ⊢
  obtain ⟨iI, hi5, hz5⟩ := Option.map_eq_some_iff.1 infoI
  simp only [Prod.mk.injEq] at hz5
  have HII := Lib.hid (And.intro hi5 hz5)
  have HBT := Lib.hid hBT
  have HST := Lib.hid hST
  obtain ⟨A, hA⟩ : ∃ A, A = w.alloc (.cells sT 35) := ⟨_, rfl⟩
  have HA := Lib.hid hA
  have HAL := Lib.hid (show A.heap.size = w.heap.size + 1 by rw [hA]; simp)
  rw [← hA] at HBT HST
  clear hi5 hz5 hl hI hT hTW hc0 hBT hST hsT hA
  go_enter Try.func25, Try.ntmps25
  go_upto_region 1 with fail
  rw [← HA.out]
  go_wp2
  go_loopw [5, 10] (fun ov iv wr => ∃ (k : Nat) (ao : Option Addr) (co : Nat), k ≤ L ∧ iv = .int .i64 (k : Nat) ∧ ov = .slice ao (hereK T SL k).length co ∧ Hid (wr.ownsRow (w.heap.size + 1) 3 1 (.slice ao (hereK T SL k).length co) (hereK T SL k).length ((hereK T SL k).map (Value.int .i64))) ∧ Hid (Below (w.heap.size + 1) A wr))
    (fun _ iv _ => L - (intOf iv).toNat)
  case atStart => exact ⟨0, none, 0, Nat.zero_le _, rfl, rfl, Lib.hid (own_emptyI _ _), Lib.hid (Below.refl _ _)⟩
  case round =>
    obtain ⟨k, ao, co, hk, rfl, rfl, ho, hnx⟩ := hrel
    have HNX := Lib.hid hnx.out
    have HWR := Lib.hid (show A.heap.size ≤ wr.heap.size from hnx.out.size)
    have HO := Lib.hid ho.out
    clear hnx ho
    by_cases hlt : k < L
    · obtain ⟨b, off, P, ha, hbl, hPk, hrg⟩ := (HI.out.on (HBT.out.trans (HNX.out.mono (by omega)))).at_ hlt
      subst ha
      have hPw := HT.out.wf P (List.mem_of_getElem? hPk)
      have hpb := hPw.p
      unfold byteI at hpb
      obtain ⟨x, hx⟩ := Int.eq_ofNat_of_zero_le hpb.1
      have hx2 : x < 256 := by omega
      obtain ⟨s1, hs1⟩ : ∃ s, s = tabV 276 (suV P) := ⟨_, rfl⟩
      have HS1 := Lib.hid (show s1.size = 276 ∧ s1.all (·.oneCell') = true by rw [hs1]; exact ⟨size_tabV _ _, tabV_one (suV_one P)⟩)
      have HSS1 := Lib.hid hs1
      have HRG := Lib.hid hrg
      obtain ⟨hBV, hSV⟩ := su_box P wr
      rw [← hs1] at hBV hSV
      have hcp := hSV.num.1
      rw [hx] at hcp
      have HAT := Lib.hid (Blk.on HST.out HNX.out (by omega))
      have HB5 := Lib.hid (show Below (w.heap.size + 1) A (wr.alloc (.cells s1 35)) from HNX.out.trans (hBV.mono (by have := HAL.out; have := HWR.out; omega)))
      have HAT5 := Lib.hid (Blk.on HST.out HB5.out (by omega))
      obtain ⟨v, hv⟩ : ∃ v, v = T.inn.getD x false := ⟨_, rfl⟩
      have hci : (wr.alloc (.cells s1 35)).cell? ⟨w.heap.size, 16 + x, none⟩ = some (.bool v) := by rw [hv]; exact SuB.inn HAT5.out hx2
      obtain ⟨n, hn⟩ : ∃ n, n = (hereK T SL k).length := ⟨_, rfl⟩
      have hn9 : n ≤ 100 := by rw [hn]; exact Nat.le_trans (here_len _ _ _) HT.out.le
      rw [← hn] at HO ⊢
      have HN := Lib.hid hn
      have HV2 := Lib.hid (show T.inn.getD P.p.toNat false = v by rw [hx, Int.toNat_natCast, hv])
      have HNT := Lib.hid (here_next (T := T) hPk)
      have HX := Lib.hid hx
      have q1 : (k : Int) < (L : Int) := by omega
      have q2 : (x : Int) < 256 := by omega
      have q3 : k < L := hlt
      have hw1 := IntWalk.i64_in (x : Int) (by omega)
      have HWZ := Lib.hid (show (wr.alloc (.cells s1 35)).heap.size = wr.heap.size + 1 by simp)
      have HWV := Lib.hid (show ((wr.alloc (.cells c0 35)).setRow wr.heap.size s1) = wr.alloc (.cells s1 35) from alloc_setRow _ _ _ _)
      clear hs1 hrg hBV hSV hx hv hn hlt hPw hPk hpb hx2
      go_upto_region 5 with (first
        | ((with_reducible show wpList _ _ _ (⟨some 13, _, _, _, _, _⟩ :: _) _ _); go_loud (refine wpList_load_mid rfl 35 (.tmp 12) rfl b (off + k * 276) rfl (suL P) _ HRG.out Try.underlying35 rfl (by rw [suL_len]; exact sizeSu) ?_; rw [suL_arr, ← HSS1.out]))
        | ((with_reducible show wpList _ _ _ (⟨none, Op.store 35 _ _, _, _, _, _⟩ :: _) _ _); go_loud (refine wpList_store_row rfl 35 (.tmp 7) (.tmp 13) rfl wr.heap.size s1 rfl rfl 35 c0 (heap_alloc_new _ _) (by rw [HS1.out.1]; exact sizeSu) (by rw [HS1.out.1, HC0.out]) HS1.out.2 ?_)))
      change Code.wp _ _ _ _ ((wr.alloc (.cells c0 35)).setRow wr.heap.size s1)
      rw [HWV.out]
      have HOV := Lib.hid (HO.out.alloc (.cells s1 35))
      generalize wr.alloc (.cells s1 35) = V at HB5 hcp hci HWZ HOV ⊢
      cases v with
      | false =>
        have HK := Lib.hid (show hereK T SL (k + 1) = hereK T SL k by rw [HNT.out, HV2.out]; rfl)
        go_wp2
        go_roundw
        case rel => exact ⟨k + 1, ao, co, q3, by go_num, by rw [HK.out, ← HN.out], Lib.hid (by rw [HK.out, ← HN.out]; exact HOV.out), Lib.hid HB5.out⟩
        case measure => simp [intOf]; omega
      | true =>
        have HK := Lib.hid (show hereK T SL (k + 1) = hereK T SL k ++ [(x : Int)] by rw [HNT.out, HV2.out, HX.out]; rfl)
        go_wp2_with ((with_reducible show wpList _ _ _ (⟨some 24, _, _, _, _, _⟩ :: _) _ _); go_loud (refine wpList_append_i1 _ rfl (.tmp 19) (.tmp 23) 36 rfl (w.heap.size + 1) 3 iI Try.underlying36 HII.out.1 HII.out.2.1 HII.out.2.2.1 HII.out.2.2.2 (.slice ao n co) n (hereK T SL k) rfl (HOV.out.alloc _) ⟨V.heap.size, 0, none⟩ (x : Int) rfl (by simp) (by omega) (by have := HWR.out; have := HAL.out; have := HWZ.out; simp; omega) (V.heap.size + 1) (by simp) ?_; intro g4 c4 w4 ho4 hg4 hat4; have HO4 := Lib.hid ho4; have HB4 := Lib.hid ((HB5.out.alloc (by have := HWR.out; have := HAL.out; have := HWZ.out; omega) _).grown hg4 (by have := HWR.out; have := HAL.out; have := HWZ.out; simp; omega) (fun j e => (HOV.out.lt j e).1)); clear ho4 hg4))
        go_roundw
        case rel => exact ⟨k + 1, some ⟨g4, 0, none⟩, c4, q3, by go_num, by rw [HK.out, List.length_append, ← HN.out]; rfl, Lib.hid (by rw [HK.out, List.length_append, ← HN.out]; exact HO4.out), Lib.hid HB4.out⟩
        case measure => simp [intOf]; omega
    · obtain rfl : k = L := by omega
      have hsort := here_sorted (T := T) HT.out.un HT.out.wf
      rw [HL.out] at hsort
      obtain ⟨hs, hhs⟩ : ∃ l, l = hereK T SL k := ⟨_, rfl⟩
      obtain ⟨n, hn⟩ : ∃ n, n = hs.length := ⟨_, rfl⟩
      have HCL := Lib.hid (show (curL T SL).length = n by rw [← hsort, ← hhs, List.length_mergeSort, hn])
      rw [← hhs] at HO hsort ⊢
      rw [← hn] at HO ⊢
      have HBW := Lib.hid (show Below w.heap.size w wr from HBT.out.trans (HNX.out.mono (by omega)))
      have HSO := Lib.hid hsort
      have HN := Lib.hid hn
      have q1 : ¬ (k : Int) < (k : Int) := by omega
      clear hsort hhs hn hlt
      by_cases h0 : n = 0
      · subst h0
        have E0 := Lib.hid (show curL T SL = [] from List.eq_nil_of_length_eq_zero HCL.out)
        go_wp2_with (go_at_call 31; go_loud (refine (Try.slices_Sort_int_none _ _ _).mono ?_; rintro e w3 ⟨rfl, rfl⟩))
        go_ret
        refine ⟨ao, co, by rw [E0.out]; rfl, ?_, HBW.out⟩
        rw [E0.out]
        have := own_low HO.out (Nat.le_succ w.heap.size)
        rw [List.eq_nil_of_length_eq_zero HN.out.symm] at this
        exact this
      · obtain ⟨g, cap, cur, hv, hbase, hgb, r1, r2, r3, r4⟩ := HO.out.2.resolve_left (fun h => h0 h.2)
        cases hv
        have HS := Lib.hid (Try.slices_Sort_int g 0 co hs wr (holds_of_blockI hgb (by rw [← HN.out]; simpa using r4)) (Array.getElem?_eq_some_iff.1 hgb).1 (by rw [← HN.out]; have := HCL.out; have := cur_len_le (T := T) HT.out.un HT.out.wf; have := HT.out.le; omega))
        rw [← HN.out] at HS
        have HH := Lib.hid (And.intro hbase (And.intro hgb (And.intro r1 (And.intro r2 (And.intro r3 r4)))))
        clear hbase hgb r1 r2 r3 r4
        go_wp2_with (go_at_call 31; go_loud (refine HS.out.mono ?_; rintro e w3 ⟨rfl, nn, os, rfl⟩))
        go_ret
        have h1 := ownsRow_sortedI (n := nn) (os := os) (ss := hs) (ts := hs.mergeSort fun x y => decide (x ≤ y)) (by simp) HH.out.1 HH.out.2.1 (by rw [← HN.out]; exact HH.out.2.2.1) HH.out.2.2.2.1 HH.out.2.2.2.2.1
        rw [← HN.out] at h1
        refine ⟨some ⟨g, 0, none⟩, co, by rw [HCL.out]; rfl, ?_, HBW.out.grown (grownBy_sortedI _) HBW.out.size (fun j hj => by cases hj; have := HH.out.1; omega)⟩
        rw [HCL.out, ← HSO.out]
        exact own_low h1 (Nat.le_succ w.heap.size)
end Go.Proofs.Ytbijakhdngbjmaa
