/- The document's super: its bytes. -/
import Derived.Test.YtkfdcdfaikkneaaGreatDoorDK
import Derived.Test.YtkfdcdfaikkneaaGreatDoorDJ
import Derived.Test.YtkfdcdfaikkneaaGreatDoorDB
import Derived.Test.YtkfdcdfaikkneaaGreatDoorDA
import Derived.Test.YtkfdcdfaikkneaaGreatDoorHs
import Derived.Lib.AppendStr
import Derived.StillTailTactics
import Derived.Deep.RegionHeld
namespace Go.Proofs.YtkfdcdfaikkneaaGreatDoor
open Go.ChangeShapes Go.WideShapes Go.ChangeAt Go.RowKit Go.Shelf
set_option linter.unusedVariables false
set_option linter.unusedSimpArgs false
set_option maxRecDepth 100000
attribute [local go_sem] Oper.semAt_some

set_option maxHeartbeats 32000000 in
theorem refSuper_any (P : SU) (hP : P.Wf) (a : Option Addr) (L c : Nat) (w : World) (hI : IA w a L c P.L) :
    Calls Tryz.prog 17 #[ruA P (.slice a L c)] w fun e w' => e = .returned (.string (strOfNums P.S)) ∧ Below w.heap.size w w' := by
  obtain ⟨S, hS⟩ : ∃ S, S = P.S := ⟨_, rfl⟩
  rw [← hS]
  obtain ⟨SS, hSS⟩ : ∃ s, s = strOfNums P.nm := ⟨_, rfl⟩
  have hsz : SS.size = 8 := by rw [hSS, strOfNums_size, hP.nm.1]
  have HRC := Lib.hid (show Lib.strCells SS = P.nm.map (Value.int .u8) by rw [hSS]; exact strCellsB hP.nm.2)
  unfold ruA
  rw [← hSS]
  obtain ⟨p0, p1⟩ := hP.p
  obtain ⟨n0, n1⟩ := hP.n
  obtain ⟨t0, t1⟩ := hP.t
  obtain ⟨m0, m1⟩ := hP.m
  obtain ⟨c0, c1⟩ := hP.c
  obtain ⟨bl0, bl1⟩ := hP.bl
  obtain ⟨bo0, bo1⟩ := hP.bo
  obtain ⟨ep0, ep1⟩ := hP.ep
  obtain ⟨rf0, rf1⟩ := hP.rf
  obtain ⟨sc0, sc1⟩ := hP.sc
  obtain ⟨tg0, tg1⟩ := hP.tg
  obtain ⟨rs0, rs1⟩ := hP.rs
  have n255 : P.n ≤ 255 := by omega
  obtain ⟨A, hA⟩ : ∃ A, A = w.alloc (.cells #[.string SS, .int .i64 P.p, .int .i64 P.n, .int .i64 P.t, .int .i64 P.m, .int .i64 P.c, .int .u64 P.bl, .int .u64 P.bo, .int .u64 P.ep, .slice a L c, .int .u64 P.rf, .int .u64 P.sc, .int .i64 P.tg, .int .u64 P.rs] 59) := ⟨_, rfl⟩
  have hwA : Below w.heap.size w A := by rw [hA]; exact (Below.refl _ _).alloc (Nat.le_refl _) _
  have hAs : A.heap.size = w.heap.size + 1 := by rw [hA]; simp
  have r1 : A.heap[w.heap.size]? = some (.cells #[.string SS, .int .i64 P.p, .int .i64 P.n, .int .i64 P.t, .int .i64 P.m, .int .i64 P.c, .int .u64 P.bl, .int .u64 P.bo, .int .u64 P.ep, .slice a L c, .int .u64 P.rf, .int .u64 P.sc, .int .i64 P.tg, .int .u64 P.rs] 59 (0, 0)) := by rw [hA]; exact heap_alloc_new w _
  have HCE := Lib.hid (fun (W : World) (hW : Below A.heap.size A W) => cell14 ((hW.block w.heap.size (by omega)).trans r1))
  obtain ⟨x0, x1, x2, x3, x4, x5, x6, x7, x8, x9, xa, xb, xc, xd⟩ := cell14 r1
  rw [hA] at x0 x1 x2 x3 x4 x5 x6 x7 x8 x9 xa xb xc xd
  have HA := Lib.hid (And.intro hA (And.intro hwA hAs))
  have HI := Lib.hid hI
  have hLb : L ≤ 256 := by rw [← hI.1]; exact inK_len _ _
  clear r1 hA hwA hAs hSS hI
  by_cases k0 : 1 ≤ P.p
  case neg =>
    have HE := Lib.hid (show S = [] from hS.trans (SU.S_no (fun h => by have h1 := h.1; have h3 := h.2.2; unfold SU.Ok1 at h1; unfold SU.Ok3 at h3; omega)).1)
    clear hS
    have z0 : P.p < 1 := by omega
    clear k0
    go_enter Tryz.func17, Tryz.ntmps17
    go_wp2
    go_ret
    exact ⟨by rw [HE.out]; rfl, HA.out.1 ▸ HA.out.2.1⟩
  case pos =>
    by_cases k1 : P.p ≤ P.n
    case neg =>
      have HE := Lib.hid (show S = [] from hS.trans (SU.S_no (fun h => by have h1 := h.1; have h3 := h.2.2; unfold SU.Ok1 at h1; unfold SU.Ok3 at h3; omega)).1)
      clear hS
      have z1 : P.n < P.p := by omega
      clear k1
      go_enter Tryz.func17, Tryz.ntmps17
      go_wp2
      go_ret
      exact ⟨by rw [HE.out]; rfl, HA.out.1 ▸ HA.out.2.1⟩
    case pos =>
      by_cases k2 : 1 ≤ P.t
      case neg =>
        have HE := Lib.hid (show S = [] from hS.trans (SU.S_no (fun h => by have h1 := h.1; have h3 := h.2.2; unfold SU.Ok1 at h1; unfold SU.Ok3 at h3; omega)).1)
        clear hS
        have z2 : P.t < 1 := by omega
        clear k2
        go_enter Tryz.func17, Tryz.ntmps17
        go_wp2
        go_ret
        exact ⟨by rw [HE.out]; rfl, HA.out.1 ▸ HA.out.2.1⟩
      case pos =>
        by_cases k3 : P.t ≤ P.n
        case neg =>
          have HE := Lib.hid (show S = [] from hS.trans (SU.S_no (fun h => by have h1 := h.1; have h3 := h.2.2; unfold SU.Ok1 at h1; unfold SU.Ok3 at h3; omega)).1)
          clear hS
          have z3 : P.n < P.t := by omega
          clear k3
          go_enter Tryz.func17, Tryz.ntmps17
          go_wp2
          go_ret
          exact ⟨by rw [HE.out]; rfl, HA.out.1 ▸ HA.out.2.1⟩
        case pos =>
          by_cases k4 : P.m ≤ 1
          case neg =>
            have HE := Lib.hid (show S = [] from hS.trans (SU.S_no (fun h => by have h1 := h.1; have h3 := h.2.2; unfold SU.Ok1 at h1; unfold SU.Ok3 at h3; omega)).1)
            clear hS
            have z4 : 1 < P.m := by omega
            clear k4
            go_enter Tryz.func17, Tryz.ntmps17
            go_wp2
            go_ret
            exact ⟨by rw [HE.out]; rfl, HA.out.1 ▸ HA.out.2.1⟩
          case pos =>
            by_cases k5 : P.c ≤ 127
            case neg =>
              have HE := Lib.hid (show S = [] from hS.trans (SU.S_no (fun h => by have h1 := h.1; have h3 := h.2.2; unfold SU.Ok1 at h1; unfold SU.Ok3 at h3; omega)).1)
              clear hS
              have z5 : 127 < P.c := by omega
              clear k5
              go_enter Tryz.func17, Tryz.ntmps17
              go_wp2
              go_ret
              exact ⟨by rw [HE.out]; rfl, HA.out.1 ▸ HA.out.2.1⟩
            case pos =>
              by_cases k6 : 1 ≤ P.bl
              case neg =>
                have HE := Lib.hid (show S = [] from hS.trans (SU.S_no (fun h => by have h1 := h.1; have h3 := h.2.2; unfold SU.Ok1 at h1; unfold SU.Ok3 at h3; omega)).1)
                clear hS
                have z6 : P.bl < 1 := by omega
                clear k6
                go_enter Tryz.func17, Tryz.ntmps17
                go_wp2
                go_ret
                exact ⟨by rw [HE.out]; rfl, HA.out.1 ▸ HA.out.2.1⟩
              case pos =>
                by_cases k7 : P.bl ≤ 1024
                case neg =>
                  have HE := Lib.hid (show S = [] from hS.trans (SU.S_no (fun h => by have h1 := h.1; have h3 := h.2.2; unfold SU.Ok1 at h1; unfold SU.Ok3 at h3; omega)).1)
                  clear hS
                  have z7 : 1024 < P.bl := by omega
                  clear k7
                  go_enter Tryz.func17, Tryz.ntmps17
                  go_wp2
                  go_ret
                  exact ⟨by rw [HE.out]; rfl, HA.out.1 ▸ HA.out.2.1⟩
                case pos =>
                  by_cases k8 : P.tg ≤ P.n
                  case neg =>
                    have HE := Lib.hid (show S = [] from hS.trans (SU.S_no (fun h => by have h1 := h.1; have h3 := h.2.2; unfold SU.Ok1 at h1; unfold SU.Ok3 at h3; omega)).1)
                    clear hS
                    have z8 : P.n < P.tg := by omega
                    clear k8
                    go_enter Tryz.func17, Tryz.ntmps17
                    go_wp2
                    go_ret
                    exact ⟨by rw [HE.out]; rfl, HA.out.1 ▸ HA.out.2.1⟩
                  case pos =>
                    by_cases k9 : P.rf ≤ P.bl + 1
                    case neg =>
                      have HE := Lib.hid (show S = [] from hS.trans (SU.S_no (fun h => by have h1 := h.1; have h3 := h.2.2; unfold SU.Ok1 at h1; unfold SU.Ok3 at h3; omega)).1)
                      clear hS
                      have z9 : P.bl + 1 < P.rf := by omega
                      clear k9
                      go_enter Tryz.func17, Tryz.ntmps17
                      go_wp2
                      go_ret
                      exact ⟨by rw [HE.out]; rfl, HA.out.1 ▸ HA.out.2.1⟩
                    case pos =>
                      by_cases k10 : P.sc ≤ P.bl + 1
                      case neg =>
                        have HE := Lib.hid (show S = [] from hS.trans (SU.S_no (fun h => by have h1 := h.1; have h3 := h.2.2; unfold SU.Ok1 at h1; unfold SU.Ok3 at h3; omega)).1)
                        clear hS
                        have z10 : P.bl + 1 < P.sc := by omega
                        clear k10
                        go_enter Tryz.func17, Tryz.ntmps17
                        go_wp2
                        go_ret
                        exact ⟨by rw [HE.out]; rfl, HA.out.1 ▸ HA.out.2.1⟩
                      case pos =>
                        by_cases k11 : P.rs ≤ P.bl + 1
                        case neg =>
                          have HE := Lib.hid (show S = [] from hS.trans (SU.S_no (fun h => by have h1 := h.1; have h3 := h.2.2; unfold SU.Ok1 at h1; unfold SU.Ok3 at h3; omega)).1)
                          clear hS
                          have z11 : P.bl + 1 < P.rs := by omega
                          clear k11
                          go_enter Tryz.func17, Tryz.ntmps17
                          go_wp2
                          go_ret
                          exact ⟨by rw [HE.out]; rfl, HA.out.1 ▸ HA.out.2.1⟩
                        case pos =>
                          have HOK := Lib.hid (show P.Ok2 → P.Ok from fun h2 => ⟨⟨k0, k1, k2, k3, by omega, k5⟩, h2, k6, k7, k9, k10, k11, k8⟩)
                          have HS := Lib.hid hS
                          clear hS
                          obtain ⟨i5, hi5, hz5⟩ := Option.map_eq_some_iff.1 info5
                          simp only [Prod.mk.injEq] at hz5
                          have HI5 := Lib.hid (And.intro hi5 hz5)
                          clear hi5 hz5
                          have HO0 := Lib.hid (show (A.alloc (.cells #[.int .u8 76, .int .u8 85] 5)).ownsRow A.heap.size 5 1 (.slice (some ⟨A.heap.size, 0, none⟩) 2 2) 2 (([76, 85] : List Int).map (Value.int .u8)) from World.ownsRow_lit (base := A.heap.size) (e := 5) (size := 1) A #[.int .u8 76, .int .u8 85] 2 (Nat.le_refl _) (by unfold maxLen; omega) rfl)
                          have HB0 := Lib.hid (show Below A.heap.size A (A.alloc (.cells #[.int .u8 76, .int .u8 85] 5)) from (Below.refl _ _).alloc (Nat.le_refl _) _)
                          go_enter Tryz.func17, Tryz.ntmps17
                          go_upto_region 4 with fail
                          rw [← HA.out.1]
                          clear x0 x1 x2 x3 x4 x5 x6 x7 x8 x9 xa xb xc xd
                          obtain ⟨y0, -, -, -, -, -, -, -, -, -, -, -, -, -⟩ := HCE.out (A.alloc (.cells #[.int .u8 76, .int .u8 85] 5)) HB0.out
                          go_upto_region 5 with ((with_reducible show wpList _ _ _ (⟨some 86, _, _, _, _, _⟩ :: _) _ _); go_loud (refine Lib.wpList_append_own_string _ rfl (.tmp 83) (.tmp 85) 23 9 rfl A.heap.size 5 i5 Tryz.underlying23 Tryz.underlying9 HI5.out.1 HI5.out.2.1 HI5.out.2.2.1 HI5.out.2.2.2 (.slice (some ⟨A.heap.size, 0, none⟩) 2 2) 2 (([76, 85] : List Int).map (Value.int .u8)) rfl HO0.out SS rfl (by rw [hsz]; unfold maxLen; omega) (by rw [hsz]; omega) HB0.out.size ?_; intro v4 w4 hown4 hg4 _; rw [hsz, HRC.out, ← List.map_append] at hown4; have B4 := Lib.hid (HB0.out.grown hg4 HB0.out.size (fun j e => (HO0.out.lt j e).1)); have HO4 := Lib.hid hown4; obtain ⟨a4, c4, hv4, -⟩ := own_form hown4; subst hv4; clear hown4 hg4))
                          clear y0
                          obtain ⟨-, y1, y2, y3, y4, y5, -, -, -, -, -, -, -, -⟩ := HCE.out w4 B4.out
                          have u1 := IntWalk.u8_in P.p (by omega)
                          have u2 := IntWalk.u8_in P.n (by omega)
                          have u3 := IntWalk.u8_in P.t (by omega)
                          have u4 := IntWalk.u8_in P.m (by omega)
                          have u5 := IntWalk.u8_in P.c (by omega)
                          have HW5 := Lib.hid (show Below A.heap.size A (w4.alloc (.cells #[.int .u8 P.p, .int .u8 P.n, .int .u8 P.t, .int .u8 P.m, .int .u8 P.c] 5)) from B4.out.alloc B4.out.size _)
                          go_upto_region 6 with ((with_reducible show wpList _ _ _ (⟨some 104, _, _, _, _, _⟩ :: _) _ _); go_loud (refine wpList_append_bs _ rfl (.tmp 87) (.tmp 103) 23 rfl A.heap.size 5 i5 Tryz.underlying23 HI5.out.1 HI5.out.2.1 HI5.out.2.2.1 HI5.out.2.2.2 _ 10 ([76, 85] ++ P.nm) rfl (HO4.out.alloc _) (some ⟨w4.heap.size, 0, none⟩) 5 5 (w4.heap.size + 1) [P.p, P.n, P.t, P.m, P.c] rfl (bs_five w4 _ _ _ _ _) rfl (by simp) (by omega) HW5.out.size ?_; intro v2 w5 ho2 hg2; have HO5 := Lib.hid ho2; have B5 := Lib.hid (HW5.out.grown hg2 HW5.out.size (fun j e => (HO4.out.lt j e).1)); obtain ⟨a5, c5, hv2, -⟩ := own_form ho2; subst hv2; clear ho2 hg2))
                          clear y1 y2 y3 y4 y5 u1 u2 u3 u4 u5
                          obtain ⟨-, -, -, -, -, -, y0, -, -, -, -, -, -, -⟩ := HCE.out w5 B5.out
                          have HP5 := Lib.hid (refPut 4 (by omega) P.bl bl0 (by omega) w5)
                          go_upto_region 7 with (first
                            | (go_at_call 37; go_loud (refine HP5.out.mono ?_; rintro e v5 ⟨gp, rfl, ho, hb⟩; have HOP5 := Lib.hid ho; have HK5 := Lib.hid hb; have BP5 := Lib.hid (bt B5.out hb); clear ho hb))
                            | ((with_reducible show wpList _ _ _ (⟨some 109, _, _, _, _, _⟩ :: _) _ _); go_loud (refine wpList_append_bs _ rfl (.tmp 105) (.tmp 108) 23 rfl A.heap.size 5 i5 Tryz.underlying23 HI5.out.1 HI5.out.2.1 HI5.out.2.2.1 HI5.out.2.2.2 _ 15 (([76, 85] ++ P.nm) ++ [P.p, P.n, P.t, P.m, P.c]) rfl (own_blockT2 HO5.out HK5.out) (some ⟨gp, 0, none⟩) 4 4 v5.heap.size (be 4 P.bl) rfl (Bs.of_own HOP5.out).1 (length_be _ _) (by simp) (by omega) BP5.out.size ?_; intro v2 w6 ho2 hg2; have HO6 := Lib.hid ho2; have B6 := Lib.hid (BP5.out.grown hg2 BP5.out.size (fun j e => (HO5.out.lt j e).1)); obtain ⟨a6, c6, hv2, -⟩ := own_form ho2; subst hv2; clear ho2 hg2)))
                          clear y0
                          obtain ⟨-, -, -, -, -, -, -, y0, -, -, -, -, -, -⟩ := HCE.out w6 B6.out
                          have HP6 := Lib.hid (refPut 4 (by omega) P.bo bo0 (by omega) w6)
                          go_upto_region 8 with (first
                            | (go_at_call 37; go_loud (refine HP6.out.mono ?_; rintro e v6 ⟨gp, rfl, ho, hb⟩; have HOP6 := Lib.hid ho; have HK6 := Lib.hid hb; have BP6 := Lib.hid (bt B6.out hb); clear ho hb))
                            | ((with_reducible show wpList _ _ _ (⟨some 114, _, _, _, _, _⟩ :: _) _ _); go_loud (refine wpList_append_bs _ rfl (.tmp 110) (.tmp 113) 23 rfl A.heap.size 5 i5 Tryz.underlying23 HI5.out.1 HI5.out.2.1 HI5.out.2.2.1 HI5.out.2.2.2 _ 19 ((([76, 85] ++ P.nm) ++ [P.p, P.n, P.t, P.m, P.c]) ++ be 4 P.bl) rfl (own_blockT2 HO6.out HK6.out) (some ⟨gp, 0, none⟩) 4 4 v6.heap.size (be 4 P.bo) rfl (Bs.of_own HOP6.out).1 (length_be _ _) (by simp) (by omega) BP6.out.size ?_; intro v2 w7 ho2 hg2; have HO7 := Lib.hid ho2; have B7 := Lib.hid (BP6.out.grown hg2 BP6.out.size (fun j e => (HO6.out.lt j e).1)); obtain ⟨a7, c7, hv2, -⟩ := own_form ho2; subst hv2; clear ho2 hg2)))
                          clear y0
                          obtain ⟨-, -, -, -, -, -, -, -, y0, -, -, -, -, -⟩ := HCE.out w7 B7.out
                          have HP7 := Lib.hid (refPut 4 (by omega) P.ep ep0 (by omega) w7)
                          go_upto_region 9 with (first
                            | (go_at_call 37; go_loud (refine HP7.out.mono ?_; rintro e v7 ⟨gp, rfl, ho, hb⟩; have HOP7 := Lib.hid ho; have HK7 := Lib.hid hb; have BP7 := Lib.hid (bt B7.out hb); clear ho hb))
                            | ((with_reducible show wpList _ _ _ (⟨some 119, _, _, _, _, _⟩ :: _) _ _); go_loud (refine wpList_append_bs _ rfl (.tmp 115) (.tmp 118) 23 rfl A.heap.size 5 i5 Tryz.underlying23 HI5.out.1 HI5.out.2.1 HI5.out.2.2.1 HI5.out.2.2.2 _ 23 (((([76, 85] ++ P.nm) ++ [P.p, P.n, P.t, P.m, P.c]) ++ be 4 P.bl) ++ be 4 P.bo) rfl (own_blockT2 HO7.out HK7.out) (some ⟨gp, 0, none⟩) 4 4 v7.heap.size (be 4 P.ep) rfl (Bs.of_own HOP7.out).1 (length_be _ _) (by simp) (by omega) BP7.out.size ?_; intro v2 w8 ho2 hg2; have HO8 := Lib.hid ho2; have B8 := Lib.hid (BP7.out.grown hg2 BP7.out.size (fun j e => (HO7.out.lt j e).1)); obtain ⟨a8, c8, hv2, -⟩ := own_form ho2; subst hv2; clear ho2 hg2)))
                          clear y0
                          have hmk := run_make_row' (P := Tryz.prog) 23 5 (.int .u8 0) 1 Tryz.underlying23 info5 rfl .i64 .i64 32 (by omega) (by omega)
                          have hmk : ∀ w : World, (Instr.makeSlice 23 (.int .i64 32) (.int .i64 32)).run Tryz.prog w = .ok (.slice (some ⟨w.heap.size, 0, none⟩) 32 32) (w.alloc (.cells (madeCells #[.int .u8 0] 32) 5)) := hmk
                          have HOM := Lib.hid (own_made (w := w8) (e := 5) (n := 32) (by unfold maxLen; omega))
                          have HBM := Lib.hid (show Below w8.heap.size w8 (w8.alloc (.cells (madeCells #[.int .u8 0] 32) 5)) from (Below.refl _ _).alloc (Nat.le_refl _) _)
                          go_upto_region 10 with fail
                          clear hmk
                          obtain ⟨w9, hw9⟩ : ∃ W, W = w8.alloc (.cells (madeCells #[.int .u8 0] 32) 5) := ⟨_, rfl⟩
                          rw [← hw9] at HOM HBM ⊢
                          clear hw9
                          obtain ⟨-, -, -, -, -, -, -, -, -, y0, -, -, -, -⟩ := HCE.out w9 (bt B8.out HBM.out)
                          go_upto_region 11 with fail
                          clear y0
                          obtain ⟨gI, hgI⟩ : ∃ g, g = w8.heap.size := ⟨_, rfl⟩
                          rw [← hgI] at HOM HBM ⊢
                          have HGI := Lib.hid hgI
                          clear hgI
                          go_loopw [124] (fun iv wr => ∃ j : Nat, j ≤ L ∧ iv = .int .i64 (j : Nat) ∧ Hid (wr.ownsRow gI 5 1 (.slice (some ⟨gI, 0, none⟩) 32 32) 32 ((rowS (P.L.take j)).map (Value.int .u8))) ∧ Hid (Below gI w8 wr) ∧ Hid (∀ p ∈ P.L.take j, 1 ≤ p ∧ p ≤ P.n)) (fun iv _ => L - (intOf iv).toNat)
                          case atStart => exact ⟨0, Nat.zero_le _, rfl, Lib.hid HOM.out, Lib.hid HBM.out, Lib.hid (fun p hp => by simp at hp)⟩
                          case round =>
                            obtain ⟨j, hj, rfl, ho, hb, hin⟩ := hrel
                            rename World => wr
                            have hBr : Below A.heap.size A wr := bt B8.out (HGI.out ▸ hb.out)
                            have HBr := Lib.hid hBr
                            by_cases hlt : j < L
                            · obtain ⟨bI, oI, haI, hbI, hcX⟩ := (HI.out.on (bt HA.out.2.1 hBr)).at_ (i := j) hlt
                              obtain ⟨X, hX⟩ : ∃ X, X = P.L.getD j 0 := ⟨_, rfl⟩
                              rw [← hX] at hcX
                              have hjl : j < P.L.length := by rw [HI.out.1]; exact hlt
                              have hmem : X ∈ P.L := by rw [hX, List.getD_eq_getElem?_getD, List.getElem?_eq_getElem hjl]; exact List.getElem_mem _
                              have HMEM := Lib.hid hmem
                              have hXb := SU.L_in hmem
                              have HTK := Lib.hid (show P.L.take (j + 1) = P.L.take j ++ [X] by rw [take_snoc_getD hjl, ← hX])
                              obtain ⟨-, -, y2, -, -, -, -, -, -, -, -, -, -, -⟩ := HCE.out wr hBr
                              have HSW := Lib.hid (show P.Ok → 1 ≤ X ∧ X ≤ P.n from fun h => (ok2_iff hP).1 h.2.1 X hmem)
                              obtain ⟨x, rfl⟩ := Int.eq_ofNat_of_zero_le hXb.1
                              have hx256 : x < 256 := by omega
                              subst haI
                              have HLT := Lib.hid hlt
                              have qj : (j : Int) < (L : Int) := by omega
                              clear hX hjl hmem hlt hXb hBr
                              by_cases h1 : 1 ≤ (x : Int)
                              case neg =>
                                have HE := Lib.hid (show S = [] from HS.out.trans (SU.S_no (fun h => h1 (HSW.out h).1)).1)
                                go_wp2
                                go_ret
                                exact ⟨by rw [HE.out]; rfl, bt HA.out.2.1 HBr.out⟩
                              case pos =>
                              by_cases h2 : (x : Int) ≤ P.n
                              case neg =>
                                have HE := Lib.hid (show S = [] from HS.out.trans (SU.S_no (fun h => h2 (HSW.out h).2)).1)
                                go_wp2
                                go_ret
                                exact ⟨by rw [HE.out]; rfl, bt HA.out.2.1 HBr.out⟩
                              case pos =>
                                have hrl := rowS_len (P.L.take j)
                                have hcl := own_cells ho.out (x / 8) (by omega)
                                rw [Nat.zero_add] at hcl
                                have hfz := ho.out.frozenAt (x / 8)
                                have hyb := allB_getD (rowS_B (P.L.take j)) (x / 8)
                                obtain ⟨Y, hY⟩ : ∃ Y, Y = (rowS (P.L.take j)).getD (x / 8) 0 := ⟨_, rfl⟩
                                rw [← hY] at hcl hyb
                                obtain ⟨d1, d2, d3, d4⟩ := div8 (k := x) (by omega)
                                obtain ⟨r1, r2, r3, r4⟩ := mod8 (k := x) (by omega)
                                have d5 : (x : Int) / 8 < 32 := by omega
                                have hsh := shift128 (r := x % 8) (by omega)
                                obtain ⟨Z, hZ⟩ : ∃ Z : Int, Z = 2 ^ (7 - x % 8) := ⟨_, rfl⟩
                                have hZb : 0 < Z := by rw [hZ]; exact Int.pow_pos (by omega)
                                rw [← hZ] at hsh
                                have HST := Lib.hid (show (wr.setCell ⟨gI, x / 8, none⟩ (.int .u8 ((Y + Z) % 256))).ownsRow gI 5 1 (.slice (some ⟨gI, 0, none⟩) 32 32) 32 ((rowS (P.L.take (j + 1))).map (Value.int .u8)) by
                                  have h := (ho.out.stored (x / 8) (.int .u8 ((Y + Z) % 256))).1
                                  rw [HTK.out, rowS_snoc]
                                  unfold addB
                                  rw [Int.toNat_natCast, ← hY, ← hZ, ← map_set_u8]
                                  exact h)
                                have HBS := Lib.hid (hb.out.setCell (p := ⟨gI, x / 8, none⟩) (Nat.le_refl _) (.int .u8 ((Y + Z) % 256)))
                                have HIN := Lib.hid (show ∀ p ∈ P.L.take (j + 1), 1 ≤ p ∧ p ≤ P.n from fun p hp => by
                                  rw [HTK.out] at hp
                                  rcases List.mem_append.1 hp with h | h
                                  · exact hin.out p h
                                  · rw [List.mem_singleton.1 h]; exact ⟨h1, h2⟩)
                                clear hY hZ hrl
                                go_upto_region 15 with fail
                                go_still_tail 13, (by kernel_rfl)
                                go_wp2
                                go_roundw
                                case rel => exact ⟨j + 1, HLT.out, by go_num, Lib.hid HST.out, Lib.hid ((below_drewN hb.out 1).setCell (p := ⟨gI, x / 8, none⟩) (Nat.le_refl _) _), HIN⟩
                                case measure => simp [intOf]; have := HLT.out; omega
                            · obtain rfl : j = L := by omega
                              have htk : P.L.take j = P.L := List.take_of_length_le (by rw [HI.out.1]; exact Nat.le_refl _)
                              rw [htk, rowS_L hP] at ho
                              rw [htk] at hin
                              have HE := Lib.hid (show S = P.B from HS.out.trans (SU.S_ok (HOK.out ((ok2_iff hP).2 hin.out))).1)
                              have HKr := Lib.hid (show Below w8.heap.size w8 wr from HGI.out ▸ hb.out)
                              have HZ8 := Lib.hid B8.out.size
                              clear hlt htk hin hb hBr HOK HS HOM HBM
                              go_upto_region 18 with ((with_reducible show wpList _ _ _ (⟨some 152, _, _, _, _, _⟩ :: _) _ _); go_loud (refine wpList_append_bs _ rfl (.tmp 150) (.tmp 151) 23 rfl A.heap.size 5 i5 Tryz.underlying23 HI5.out.1 HI5.out.2.1 HI5.out.2.2.1 HI5.out.2.2.2 _ 27 ((((([76, 85] ++ P.nm) ++ [P.p, P.n, P.t, P.m, P.c]) ++ be 4 P.bl) ++ be 4 P.bo) ++ be 4 P.ep) rfl (own_blockT2 HO8.out HKr.out) (some ⟨gI, 0, none⟩) 32 32 wr.heap.size (packL P.inn) rfl (Bs.of_own ho.out).1 (by rw [length_packL, hP.inn]) (by simp) (by omega) HBr.out.size ?_; intro v2 wa ho2 hg2; have HOa := Lib.hid ho2; have Ba := Lib.hid (HBr.out.grown hg2 HBr.out.size (fun j e => (HO8.out.lt j e).1)); obtain ⟨aa, ca, hv2, -⟩ := own_form ho2; subst hv2; clear ho2 hg2))
                              obtain ⟨-, -, -, -, -, -, -, -, -, -, y0, -, -, -⟩ := HCE.out wa Ba.out
                              have HPa := Lib.hid (refPut 4 (by omega) P.rf rf0 (by omega) wa)
                              go_upto_region 19 with (first
                                | (go_at_call 37; go_loud (refine HPa.out.mono ?_; rintro e va ⟨gp, rfl, ho, hb⟩; have HOPa := Lib.hid ho; have HKa := Lib.hid hb; have BPa := Lib.hid (bt Ba.out hb); clear ho hb))
                                | ((with_reducible show wpList _ _ _ (⟨some 157, _, _, _, _, _⟩ :: _) _ _); go_loud (refine wpList_append_bs _ rfl (.tmp 153) (.tmp 156) 23 rfl A.heap.size 5 i5 Tryz.underlying23 HI5.out.1 HI5.out.2.1 HI5.out.2.2.1 HI5.out.2.2.2 _ 59 (((((([76, 85] ++ P.nm) ++ [P.p, P.n, P.t, P.m, P.c]) ++ be 4 P.bl) ++ be 4 P.bo) ++ be 4 P.ep) ++ packL P.inn) rfl (own_blockT2 HOa.out HKa.out) (some ⟨gp, 0, none⟩) 4 4 va.heap.size (be 4 P.rf) rfl (Bs.of_own HOPa.out).1 (length_be _ _) (by simp) (by omega) BPa.out.size ?_; intro v2 wb ho2 hg2; have HOb := Lib.hid ho2; have Bb := Lib.hid (BPa.out.grown hg2 BPa.out.size (fun j e => (HOa.out.lt j e).1)); obtain ⟨ab, cb, hv2, -⟩ := own_form ho2; subst hv2; clear ho2 hg2)))
                              clear y0
                              obtain ⟨-, -, -, -, -, -, -, -, -, -, -, y0, -, -⟩ := HCE.out wb Bb.out
                              have HPb := Lib.hid (refPut 4 (by omega) P.sc sc0 (by omega) wb)
                              go_upto_region 20 with (first
                                | (go_at_call 37; go_loud (refine HPb.out.mono ?_; rintro e vb ⟨gp, rfl, ho, hb⟩; have HOPb := Lib.hid ho; have HKb := Lib.hid hb; have BPb := Lib.hid (bt Bb.out hb); clear ho hb))
                                | ((with_reducible show wpList _ _ _ (⟨some 162, _, _, _, _, _⟩ :: _) _ _); go_loud (refine wpList_append_bs _ rfl (.tmp 158) (.tmp 161) 23 rfl A.heap.size 5 i5 Tryz.underlying23 HI5.out.1 HI5.out.2.1 HI5.out.2.2.1 HI5.out.2.2.2 _ 63 ((((((([76, 85] ++ P.nm) ++ [P.p, P.n, P.t, P.m, P.c]) ++ be 4 P.bl) ++ be 4 P.bo) ++ be 4 P.ep) ++ packL P.inn) ++ be 4 P.rf) rfl (own_blockT2 HOb.out HKb.out) (some ⟨gp, 0, none⟩) 4 4 vb.heap.size (be 4 P.sc) rfl (Bs.of_own HOPb.out).1 (length_be _ _) (by simp) (by omega) BPb.out.size ?_; intro v2 wc ho2 hg2; have HOc := Lib.hid ho2; have Bc := Lib.hid (BPb.out.grown hg2 BPb.out.size (fun j e => (HOb.out.lt j e).1)); obtain ⟨ac, cc, hv2, -⟩ := own_form ho2; subst hv2; clear ho2 hg2)))
                              clear y0
                              obtain ⟨-, -, -, -, -, -, -, -, -, -, -, -, y0, -⟩ := HCE.out wc Bc.out
                              have u1 := IntWalk.u8_in P.tg (by omega)
                              have HWD := Lib.hid (show Below A.heap.size A (wc.alloc (.cells #[.int .u8 P.tg] 5)) from Bc.out.alloc Bc.out.size _)
                              go_upto_region 21 with ((with_reducible show wpList _ _ _ (⟨some 168, _, _, _, _, _⟩ :: _) _ _); go_loud (refine wpList_append_bs _ rfl (.tmp 163) (.tmp 167) 23 rfl A.heap.size 5 i5 Tryz.underlying23 HI5.out.1 HI5.out.2.1 HI5.out.2.2.1 HI5.out.2.2.2 _ 67 (((((((([76, 85] ++ P.nm) ++ [P.p, P.n, P.t, P.m, P.c]) ++ be 4 P.bl) ++ be 4 P.bo) ++ be 4 P.ep) ++ packL P.inn) ++ be 4 P.rf) ++ be 4 P.sc) rfl (HOc.out.alloc _) (some ⟨wc.heap.size, 0, none⟩) 1 1 (wc.heap.size + 1) [P.tg] rfl (bs_one wc _) rfl (by simp) (by omega) HWD.out.size ?_; intro v2 wd ho2 hg2; have HOd := Lib.hid ho2; have Bd := Lib.hid (HWD.out.grown hg2 HWD.out.size (fun j e => (HOc.out.lt j e).1)); obtain ⟨ad, cd, hv2, -⟩ := own_form ho2; subst hv2; clear ho2 hg2))
                              clear y0 u1
                              obtain ⟨-, -, -, -, -, -, -, -, -, -, -, -, -, y0⟩ := HCE.out wd Bd.out
                              have HPd := Lib.hid (refPut 4 (by omega) P.rs rs0 (by omega) wd)
                              go_upto_region 22 with (first
                                | (go_at_call 37; go_loud (refine HPd.out.mono ?_; rintro e vd ⟨gp, rfl, ho, hb⟩; have HOPd := Lib.hid ho; have HKd := Lib.hid hb; have BPd := Lib.hid (bt Bd.out hb); clear ho hb))
                                | ((with_reducible show wpList _ _ _ (⟨some 173, _, _, _, _, _⟩ :: _) _ _); go_loud (refine wpList_append_bs _ rfl (.tmp 169) (.tmp 172) 23 rfl A.heap.size 5 i5 Tryz.underlying23 HI5.out.1 HI5.out.2.1 HI5.out.2.2.1 HI5.out.2.2.2 _ 68 ((((((((([76, 85] ++ P.nm) ++ [P.p, P.n, P.t, P.m, P.c]) ++ be 4 P.bl) ++ be 4 P.bo) ++ be 4 P.ep) ++ packL P.inn) ++ be 4 P.rf) ++ be 4 P.sc) ++ [P.tg]) rfl (own_blockT2 HOd.out HKd.out) (some ⟨gp, 0, none⟩) 4 4 vd.heap.size (be 4 P.rs) rfl (Bs.of_own HOPd.out).1 (length_be _ _) (by simp) (by omega) BPd.out.size ?_; intro v2 we ho2 hg2; have HOe := Lib.hid ho2; have Be := Lib.hid (BPd.out.grown hg2 BPd.out.size (fun j e => (HOd.out.lt j e).1)); obtain ⟨ae, ce, hv2, -⟩ := own_form ho2; subst hv2; clear ho2 hg2)))
                              clear y0
                              have HH := Lib.hid (show (((((((((([76, 85] ++ P.nm) ++ [P.p, P.n, P.t, P.m, P.c]) ++ be 4 P.bl) ++ be 4 P.bo) ++ be 4 P.ep) ++ packL P.inn) ++ be 4 P.rf) ++ be 4 P.sc) ++ [P.tg]) ++ be 4 P.rs) = P.H by unfold SU.H; simp only [List.append_assoc])
                              rw [HH.out] at HOe
                              have HSU := Lib.hid (refSum_cap ae 72 ce P.H we (arg_own HOe.out (SU.H_B hP)) (by omega))
                              go_wp2_with (first
                                | (go_at_call 39; go_loud (refine HSU.out.mono ?_; rintro e wf ⟨gf, cf, rfl, hr, hb, -, hc⟩; have hqc : (8 : Int) ≤ (cf : Int) := (by omega); have HRF := Lib.hid hr; have HKF := Lib.hid hb; have Bf := Lib.hid (bt Be.out hb); clear hr hb hc))
                                | ((with_reducible show wpList _ _ _ (⟨some 178, _, _, _, _, _⟩ :: _) _ _); go_loud (refine wpList_append_bs _ rfl (.tmp 174) (.tmp 177) 23 rfl A.heap.size 5 i5 Tryz.underlying23 HI5.out.1 HI5.out.2.1 HI5.out.2.2.1 HI5.out.2.2.2 _ 72 P.H rfl (own_blockT2 HOe.out HKF.out) (some ⟨gf, 0, none⟩) 8 cf wf.heap.size ((shaL P.H).take 8) rfl ((Row8.bs HRF.out).take 8) (by rw [List.length_take, shaL_len]; rfl) (by simp) (by omega) Bf.out.size ?_; intro v2 wg ho2 hg2; have HOg := Lib.hid ho2; have Bg := Lib.hid (Bf.out.grown hg2 Bf.out.size (fun j e => (HOe.out.lt j e).1)); obtain ⟨ag, cg, hv2, -⟩ := own_form ho2; subst hv2; clear ho2 hg2))
                                | (go_at_call 38; go_loud (refine (sized_any ag 80 cg A.heap.size (P.H ++ (shaL P.H).take 8) wg HOg.out (by omega) Bg.out.size).mono ?_; rintro e wh ⟨rfl, hb⟩; have Bh := Lib.hid (Bg.out.trans hb); clear hb)))
                              go_ret
                              exact ⟨by rw [HE.out]; rfl, bt HA.out.2.1 Bh.out⟩
end Go.Proofs.YtkfdcdfaikkneaaGreatDoor
