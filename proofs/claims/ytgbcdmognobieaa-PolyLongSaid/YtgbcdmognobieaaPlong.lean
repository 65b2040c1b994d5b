/- The walk of PolyLong. -/
import Derived.Test.YtgbcdmognobieaaPrules
import Derived.Deep.CutRange
namespace Go.Proofs.Ytgbcdmognobieaa
open Go.ChangeShapes Go.WideShapes Go.ChangeAt Go.RowKit Go.Shelf GF
set_option linter.unusedVariables false

theorem divmod_nofield (u : Value) (a : Option Addr) (L cap : Nat) (w : World) : Calls Try.prog 21 #[.pointer none, u, .slice a L cap] w fun e w' => e = .returned (.tuple #[.slice none 0 0, .slice none 0 0, .int .i64 1]) ∧ Below w.heap.size w w' := by
  go_enter Try.func21, Try.ntmps21
  go_wp2
  go_ret3
  exact ⟨rfl, ((Below.refl _ w).alloc (Nat.le_refl _) _).alloc (by simp) _⟩

/-- Noughts, and a one at the end. -/
def endG (N : Nat) : List GF := (List.replicate N 0).set (N - 1) 1
theorem length_endG (N : Nat) : (endG N).length = N := by simp [endG]
theorem co_endG {N k : Nat} (h : 0 < N) : co (endG N) k = if k = N - 1 then 1 else 0 := by
  unfold endG
  rw [co_set (by simp; omega), co_replicate]
theorem tr_endG {N : Nat} (h : 0 < N) : tr (endG N) = endG N := tr_self (.inr (by rw [length_endG, co_endG h, if_pos rfl]; exact GF.one_ne))
theorem endG_ne {N : Nat} (h : 0 < N) : tr (endG N) ≠ [] := fun e => by
  have := congrArg List.length e
  rw [tr_endG h, length_endG] at this
  simp at this; omega

theorem cnt (x : Int) : ∃ N : Nat, wrap64 (1 + wrap64 ((IntKind.u64.wrap x).tmod 256)) = (N : Int) ∧ 1 ≤ N ∧ N ≤ 256 := by
  have h1 : IntKind.u64.wrap x = x % 18446744073709551616 := IntKind.wrap_u64 x
  have h2 : (IntKind.u64.wrap x).tmod 256 = (x % 18446744073709551616) % 256 := by rw [h1]; exact Int.tmod_eq_emod_of_nonneg (by omega)
  refine ⟨(1 + (x % 18446744073709551616) % 256).toNat, ?_, by omega, by omega⟩
  rw [h2]
  unfold wrap64
  omega
theorem own_zero {w : World} {N : Nat} (hm : N ≤ maxLen) : (w.alloc (.cells (madeCells #[Value.int .u8 0] N) 5)).ownsRow w.heap.size 5 1 (.slice (some ⟨w.heap.size, 0, none⟩) N N) N ((iL (List.replicate N 0)).map (Value.int .u8)) := by
  have := own_made (w := w) (e := 5) (n := N) hm
  rwa [show List.replicate N (0 : Int) = iL (List.replicate N 0) by simp only [iL, List.map_replicate, toI_zero]] at this

theorem mk2 {w w1 : World} (hB : Below w.heap.size w w1) (N M : Nat) (hN : N ≤ 256) (hM : M ≤ 256) :
    (((w1.alloc (.cells (madeCells #[Value.int .u8 0] N) 5)).alloc (.cells (madeCells #[Value.int .u8 0] M) 5)).drew).ownsRow w.heap.size 5 1 (.slice (some ⟨w1.heap.size, 0, none⟩) N N) N ((iL (List.replicate N 0)).map (Value.int .u8)) ∧
    (((w1.alloc (.cells (madeCells #[Value.int .u8 0] N) 5)).alloc (.cells (madeCells #[Value.int .u8 0] M) 5)).drew).ownsRow w.heap.size 5 1 (.slice (some ⟨w1.heap.size + 1, 0, none⟩) M M) M ((iL (List.replicate M 0)).map (Value.int .u8)) ∧
    Below w.heap.size w (((w1.alloc (.cells (madeCells #[Value.int .u8 0] N) 5)).alloc (.cells (madeCells #[Value.int .u8 0] M) 5)).drew) := by
  have h1 := own_zero (w := w1) (N := N) (by unfold maxLen; omega)
  have h2 := own_zero (w := w1.alloc (.cells (madeCells #[Value.int .u8 0] N) 5)) (N := M) (by unfold maxLen; omega)
  have hb1 := hB.alloc hB.size (.cells (madeCells #[Value.int .u8 0] N) 5)
  have hb2 := hb1.alloc hb1.size (.cells (madeCells #[Value.int .u8 0] M) 5)
  rw [World.size_alloc] at h2
  refine ⟨own_drew (own_base (own_on h1 ((Below.refl _ _).alloc (Nat.le_refl _) _) (by simp)) hB.size), own_drew (own_base h2 (by have := hB.size; omega)), hb2.drew⟩
theorem own_end {w : World} {base : Nat} {g N n : Nat} (h : w.ownsRow base 5 1 (.slice (some ⟨g, 0, none⟩) N N) N ((iL (List.replicate N 0)).map (Value.int .u8))) (hn : n = N - 1) :
    (w.setCell ⟨g, n, none⟩ (.int .u8 1)).ownsRow base 5 1 (.slice (some ⟨g, 0, none⟩) N N) N ((iL (endG N)).map (Value.int .u8)) := by
  have := (h.stored n (.int .u8 1)).1
  rw [map_set_u8] at this
  rwa [show (iL (List.replicate N 0)).set n 1 = iL (endG N) by subst hn; simp [endG, iL, List.map_set, toI_one]] at this
theorem own_255 (w : World) : (w.alloc (.cells #[.int .u8 255] 5)).ownsRow w.heap.size 5 1 (.slice (some ⟨w.heap.size, 0, none⟩) 1 1) 1 (([255] : List Int).map (Value.int .u8)) :=
  World.ownsRow_lit (base := w.heap.size) (e := 5) (size := 1) w #[.int .u8 255] 1 (Nat.le_refl _) (by unfold maxLen; omega) rfl
/-- 0, 1, 2, .. -/
def ioG (n : Nat) : List GF := (List.range n).map fun (i : Nat) => toG ((i : Nat) : Int)
theorem length_ioG (n : Nat) : (ioG n).length = n := by simp [ioG]
theorem co_ioG {n i : Nat} (h : i < n) : co (ioG n) i = toG (i : Int) := by
  simp only [ioG, co, List.getD_eq_getElem?_getD, List.getElem?_map, List.getElem?_range h, Option.map_some, Option.getD_some]

set_option maxRecDepth 100000 in
set_option maxHeartbeats 4000000 in
theorem polyLong_core (x y : Int) (w : World) (hx : -9223372036854775808 ≤ x ∧ x ≤ 9223372036854775807) (hy : -9223372036854775808 ≤ y ∧ y ≤ 9223372036854775807) :
    Calls Try.prog 8 #[.int .i64 x, .int .i64 y] w fun e w' => e = .returned (.bool true) ∧ Below w.heap.size w w' := by
  go_enter Try.func8, Try.ntmps8
  go_upto_region 4 with (first
    | (go_at_call 9; refine (lives_any _).mono ?_; rintro e w1 ⟨rfl, hB1⟩)
    | fail)
  obtain ⟨N, hN, hN1, hN2⟩ := cnt x
  obtain ⟨M, hM, hM1, hM2⟩ := cnt y
  rw [hN, hM]
  have HB1 := Lib.hid hB1
  have hmkN := run_make_row' (P := Try.prog) 22 5 (.int .u8 0) 1 Try.underlying22 info5 rfl .i64 .i64 N (by omega) (by omega)
  have hmkM := run_make_row' (P := Try.prog) 22 5 (.int .u8 0) 1 Try.underlying22 info5 rfl .i64 .i64 M (by omega) (by omega)
  clear hN hM hB1
  go_cut [5, 6] from 37 to 40 (fun p q wx => ∃ gp gq : Nat, p = .slice (some ⟨gp, 0, none⟩) N N ∧ q = .slice (some ⟨gq, 0, none⟩) M M ∧ gp ≠ gq ∧ Hid (wx.ownsRow w.heap.size 5 1 (.slice (some ⟨gp, 0, none⟩) N N) N ((iL (List.replicate N 0)).map (Value.int .u8))) ∧ Hid (wx.ownsRow w.heap.size 5 1 (.slice (some ⟨gq, 0, none⟩) M M) M ((iL (List.replicate M 0)).map (Value.int .u8))) ∧ Hid (Below w.heap.size w wx))
  case first =>
    go_region
    · go_wp2_with fail
      go_meet
      obtain ⟨h1, h2, h3⟩ := mk2 HB1.out N M hN2 hM2
      exact ⟨_, _, rfl, rfl, by omega, Lib.hid h1, Lib.hid h2, Lib.hid h3⟩
    · go_wp2_with fail
      go_meet
      obtain ⟨h1, h2, h3⟩ := mk2 HB1.out M N hM2 hN2
      exact ⟨_, _, rfl, rfl, by omega, Lib.hid h2, Lib.hid h1, Lib.hid h3⟩
  case rest =>
    obtain ⟨gp, gq, rfl, rfl, hne, hp, hq, hB⟩ := hcut
    obtain ⟨n, hn⟩ : ∃ n, n = N - 1 := ⟨_, rfl⟩
    obtain ⟨m, hm⟩ : ∃ m, m = M - 1 := ⟨_, rfl⟩
    have qN : (N : Int) - 1 = (n : Int) := by omega
    have qM : (M : Int) - 1 = (m : Int) := by omega
    have qn : (n : Int) < (N : Int) := by omega
    have qm : (m : Int) < (M : Int) := by omega
    have hcp := own_cells hp.out n (by omega)
    have hcq := own_cells hq.out m (by omega)
    rw [Nat.zero_add, getD_iL, co_replicate] at hcp hcq
    have hfp := hp.out.frozenAt n
    have hp2 := own_end hp.out hn
    have hgpw := hp.out.lt gp rfl
    have hgqw := hq.out.lt gq rfl
    have hg1 : wc.grownBy (wc.setCell ⟨gp, n, none⟩ (.int .u8 1)) (some gp) := ⟨rfl, rfl, rfl, by show wc.heap.size ≤ (wc.heap.modify _ _).size; rw [Array.size_modify]; exact Nat.le_refl _, fun i _ hne => Below.heap_setCell _ _ _ i (fun e => hne (by rw [e]))⟩
    have hq1 := hq.out.kept hg1 (.inr (by simp [Value.ownBlock]; omega))
    have hcq1 := own_cells hq1 m (by omega)
    rw [Nat.zero_add, getD_iL, co_replicate] at hcq1
    have hfq1 := hq1.frozenAt m
    have hq2 := own_end hq1 hm
    have hg2 : (wc.setCell ⟨gp, n, none⟩ (.int .u8 1)).grownBy ((wc.setCell ⟨gp, n, none⟩ (.int .u8 1)).setCell ⟨gq, m, none⟩ (.int .u8 1)) (some gq) := ⟨rfl, rfl, rfl, by show (wc.setCell ⟨gp, n, none⟩ (.int .u8 1)).heap.size ≤ ((wc.setCell ⟨gp, n, none⟩ (.int .u8 1)).heap.modify _ _).size; rw [Array.size_modify]; exact Nat.le_refl _, fun i _ hne => Below.heap_setCell _ _ _ i (fun e => hne (by rw [e]))⟩
    have hp3 := Lib.hid (hp2.kept hg2 (.inr (by simp [Value.ownBlock]; omega)))
    have hq3 := Lib.hid hq2
    have hB3 := Lib.hid ((hB.out.trans (grown_below hg1 hgpw.1 hB.out.size)).trans (grown_below hg2 hgqw.1 (Nat.le_trans hB.out.size hg1.size)))
    have Hn := Lib.hid hn
    have Hm := Lib.hid hm
    clear hp2 hq2 hq1 hg1 hg2 hcq hn hm
    go_upto_region 6 with fail
    generalize ((wc.setCell ⟨gp, n, none⟩ (.int .u8 1)).setCell ⟨gq, m, none⟩ (.int .u8 1)) = w5 at hp3 hq3 hB3 ⊢
    clear hcp hcq1 hfp hfq1 hp hq hB hgpw hgqw
    go_upto_region 7 with (go_at_call 10; refine (new_any _).mono ?_; rintro e w6 ⟨b, rfl, _, hf, hb6⟩; have HF := Lib.hid hf; have HB6 := Lib.hid (bt hB3.out hb6); have HP := Lib.hid ((Pa.own2 hp3.out).on hb6); have HQ := Lib.hid ((Pa.own2 hq3.out).on hb6); clear hf hb6)
    have hNM : N + M ≤ 512 := by omega
    go_cut [8, 9] from 50 to 56 (fun r e wx => Hid (Below w6.heap.size w6 wx) ∧ ((257 < N + M ∧ r = .slice none 0 0 ∧ e = .int .i64 4) ∨ (N + M ≤ 257 ∧ e = .int .i64 0 ∧ ∃ (a : Option Addr) (c : Nat), r = .slice a (tr (mulL (endG N) (endG M))).length c ∧ Hid (Pa wx a (tr (mulL (endG N) (endG M))).length c (tr (mulL (endG N) (endG M)))))))
    case first =>
      have hne1 := endG_ne (N := N) (by omega)
      have hne2 := endG_ne (N := M) (by omega)
      have hl1 : (tr (endG N)).length = N := by rw [tr_endG (by omega), length_endG]
      have hl2 : (tr (endG M)).length = M := by rw [tr_endG (by omega), length_endG]
      by_cases hl : 257 < N + M
      · have HC := Lib.hid (mul_long b (some ⟨gp, 0, none⟩) N N (endG N) (some ⟨gq, 0, none⟩) M M (endG M) w6 HP.out HQ.out (by omega) (by omega) hne1 hne2 (by rw [hl1, hl2]; exact hl))
        clear hne1 hne2 hl1 hl2
        go_wp2_with (go_at_call 11; refine HC.out.mono ?_; rintro e w7 ⟨rfl, hb7⟩)
        go_meet
        exact ⟨Lib.hid hb7, .inl ⟨hl, rfl, rfl⟩⟩
      · have HC := Lib.hid (mul_short b (some ⟨gp, 0, none⟩) N N (endG N) (some ⟨gq, 0, none⟩) M M (endG M) w6 HF.out HP.out HQ.out (by omega) (by omega) hne1 hne2 (by rw [hl1, hl2]; omega))
        clear hne1 hne2 hl1 hl2
        go_wp2_with (go_at_call 11; refine HC.out.mono ?_; rintro e w7 ⟨v, rfl, hown, hb7⟩; obtain ⟨a, c, rfl, hp7⟩ := own_pa hown; have HR := Lib.hid hp7; clear hown hp7)
        go_meet
        exact ⟨Lib.hid hb7, .inr ⟨by omega, rfl, _, _, rfl, HR⟩⟩
    case rest =>
      obtain ⟨hb7, hcase⟩ := hcut
      go_upto_region 8 with fail
      go_cut [90] from 57 to 90 (fun c wx => c = .bool false ∧ Hid (Below w6.heap.size w6 wx))
      case first =>
        rcases hcase with ⟨hl, rfl, rfl⟩ | ⟨hl, rfl, a, c, rfl, hR⟩
        · have q1 : (256 : Int) < (N : Int) + (M : Int) - 1 := by omega
          go_wp2_with fail
          go_meet
          exact ⟨rfl, hb7⟩
        · have q1 : ¬ (256 : Int) < (N : Int) + (M : Int) - 1 := by omega
          have hlen : (tr (mulL (endG N) (endG M))).length = N + M - 1 := by
            rw [tr_mul_tr (endG_ne (by omega)) (endG_ne (by omega)), tr_endG (by omega), tr_endG (by omega), length_mulL _ _ (by rw [length_endG]; omega) (by rw [length_endG]; omega), length_endG, length_endG]
          have HD := Lib.hid ((degree_any a _ c _ _ hR.out.1 (by omega)).mono (R' := fun e w' => e = .returned (.int .i64 ((N : Int) + (M : Int) - 2)) ∧ Hid (Below w6.heap.size w6 w')) (fun e w' ⟨h1, h2⟩ => ⟨by rw [h1, tr_tr, hlen]; exact ret_int (by omega), Lib.hid (bt hb7.out h2)⟩))
          have HLn := Lib.hid hlen
          clear hlen hR
          go_wp2_with (go_at_call 20; refine HD.out.mono ?_; rintro e w8 ⟨rfl, hb8⟩)
          all_goals
            go_meet
            exact ⟨rfl, hb8⟩
      case rest =>
        obtain ⟨rfl, hb8⟩ := hcut
        clear hcase
        have hmk : ∀ w : World, (Instr.makeSlice 22 (.int .i64 255) (.int .i64 255)).run Try.prog w = .ok (.slice (some ⟨w.heap.size, 0, none⟩) 255 255) (w.alloc (.cells (madeCells #[.int .u8 0] 255) 5)) := fun w => run_make_row' (P := Try.prog) 22 5 (.int .u8 0) 1 Try.underlying22 info5 rfl .i64 .i64 255 (by omega) (by omega) w
        have HBw := Lib.hid (bt HB6.out hb8.out)
        have HFw := Lib.hid (HF.out.below hb8.out)
        have hio : (iL (ioG 255)).length = 255 := by rw [length_iL, length_ioG]
        have HIo := Lib.hid hio
        have ho1 := own_made (w := wc) (e := 5) (n := 255) (by unfold maxLen; omega)
        rw [show List.replicate 255 (0 : Int) = part (iL (ioG 255)) 0 by rw [part_zero, hio]] at ho1
        have HO1 := Lib.hid ho1
        have HW1 := Lib.hid ((Below.refl wc.heap.size wc).alloc (Nat.le_refl _) (.cells (madeCells #[Value.int .u8 0] 255) 5))
        obtain ⟨gx, hgx⟩ : ∃ gx, gx = wc.heap.size := ⟨_, rfl⟩
        rw [← hgx] at HO1
        have hgw : wc.heap.size ≤ gx := by omega
        have HGx := Lib.hid hgx
        obtain ⟨i5, hi, hz0, hz1, hz2⟩ := info_parts info5
        have HI := Lib.hid (And.intro hi (And.intro hz0 (And.intro hz1 hz2)))
        clear hi hz0 hz1 hz2 ho1 hio
        go_wp2
        rw [show (⟨wc.heap.size, 0, none⟩ : Addr) = ⟨gx, 0, none⟩ by rw [hgx]]
        clear hgx
        go_loopw [94] (fun j wr => ∃ k : Nat, k ≤ 255 ∧ j = .int .i64 (k : Nat) ∧ Hid (wr.ownsRow gx 5 1 (.slice (some ⟨gx, 0, none⟩) 255 255) 255 ((part (iL (ioG 255)) k).map (Value.int .u8))) ∧ Hid (Below wc.heap.size wc wr))
          (fun j _ => 255 - (intOf j).toNat)
        case atStart => exact ⟨0, Nat.zero_le _, rfl, HO1, HW1⟩
        case round =>
          obtain ⟨k, hk, rfl, hR, hBr⟩ := hrel
          by_cases hlt : k < 255
          · have q2 : (k : Int) < 255 := by omega
            have q3 : (0 : Int) ≤ (k : Int) := by omega
            have hst := part_set_own HIo.out hlt hR.out
            have hcg := own_cells hR.out k hlt
            rw [Nat.zero_add] at hcg
            have hfz := hR.out.frozenAt k
            have hv : (iL (ioG 255)).getD k 0 = (k : Int) := by rw [getD_iL, co_ioG hlt]; exact toI_toG (by omega)
            rw [hv] at hst
            have HS := Lib.hid hst
            have HB2 := Lib.hid (hBr.out.setCell (p := ⟨gx, k, none⟩) hgw (.int .u8 (k : Int)))
            have hwk : IntKind.u8.wrap (k : Int) = (k : Int) := by rw [IntKind.wrap_u8]; omega
            obtain ⟨Z, hZ⟩ : ∃ Z, Z = (part (iL (ioG 255)) k).getD k 0 := ⟨_, rfl⟩
            rw [← hZ] at hcg
            clear hst hv hZ
            go_wp2
            go_roundw
            case rel => exact ⟨k + 1, by omega, by go_num, Lib.hid HS.out, Lib.hid HB2.out⟩
            case measure => simp [intOf]; omega
          · obtain rfl : k = 255 := by omega
            have he : part (iL (ioG 255)) 255 = iL (ioG 255) := by have := part_all (iL (ioG 255)); rwa [HIo.out] at this
            rw [he] at hR
            have HFr := Lib.hid (HFw.out.below hBr.out)
            have HBr := Lib.hid (bt HBw.out hBr.out)
            have hRp := Lib.hid (Pa.own2 hR.out)
            clear he
            go_wp2_with (first
              | (go_at_call_of 27 (Value.slice (some ⟨gx, 0, none⟩) 255 255); go_loud (refine (vanish_any b (some ⟨gx, 0, none⟩) 255 255 (ioG 255) _ HFr.out hRp.out (by omega)).mono ?_); rintro e wa ⟨ga, rfl, hown, hba⟩; have hRa := Lib.hid (own_on hR.out hba (hR.out.lt gx rfl).2); have HBa := Lib.hid (bt HBr.out hba); have HCa := Lib.hid (bt hBr.out hba); clear hown hba)
              | ((with_reducible show wpList _ _ _ (⟨some 113, _, _, _, _, _⟩ :: _) _ _); go_loud (refine wpList_append_bs _ rfl (.tmp 111) (.tmp 112) 22 rfl gx 5 i5 Try.underlying22 HI.out.1 HI.out.2.1 HI.out.2.2.1 HI.out.2.2.2 _ 255 (iL (ioG 255)) rfl (own_on hRa.out ((Below.refl _ wa).alloc (Nat.le_refl _) _) (hRa.out.lt gx rfl).2) (some ⟨wa.heap.size, 0, none⟩) 1 1 _ [255] rfl (Bs.of_own (own_255 wa)).1 rfl (fun h => by cases h) (by omega) (by have := (hRa.out.lt gx rfl).2; simp; omega) ?_); go_loud (intro v1 wb hown1 hg1; obtain ⟨a1, c1, rfl, _, _, _, _, _⟩ := own_form hown1; have HBb := Lib.hid ((HBa.out.alloc HBa.out.size _).grown hg1 (Nat.le_trans HBa.out.size (by rw [World.size_alloc]; omega)) (fun k e => by cases e; exact Nat.le_trans HBw.out.size hgw)); clear hown1 hg1))
              | (go_at_call 27; go_loud (refine (vanish_long b a1 (255 + 1) c1 _ (by omega) (by omega)).mono ?_); rintro e w' ⟨rfl, rfl⟩)
              | (go_at_call 22; go_loud (refine (through_nil _ 1 1 _ 1 _).mono ?_); rintro e w' ⟨rfl, rfl⟩)
              | (go_at_call 23; go_loud (refine (weights_nil _ _ _).mono ?_); rintro e w' ⟨rfl, rfl⟩)
              | (go_at_call 11; go_loud (refine (mul_nofield _ _ _).mono ?_); rintro e w' ⟨rfl, rfl⟩)
              | (go_at_call 21; go_loud (refine (divmod_nofield _ _ _ _ _).mono ?_); rintro e wd ⟨rfl, hbd⟩))
            go_ret
            exact ⟨rfl, bt ((HBb.out.alloc HBb.out.size _).alloc (by simp; have := HBb.out.size; omega) _) hbd⟩

theorem polyLong_walk (x y : Int) (w : World) (w0 : (Lit.int .i64 x).wf = true) (w1 : (Lit.int .i64 y).wf = true) :
    Calls Try.prog 8 #[.int .i64 x, .int .i64 y] w fun e w' => e = .returned (.bool true) ∧ Below w.heap.size w w' :=
  polyLong_core x y w (by simpa [Lit.wf, IntKind.min, IntKind.max, IntKind.signed, IntKind.bits] using w0) (by simpa [Lit.wf, IntKind.min, IntKind.max, IntKind.signed, IntKind.bits] using w1)
end Go.Proofs.Ytgbcdmognobieaa
