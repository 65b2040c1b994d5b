/- The walk of PolyDivides. -/
import Derived.Test.YtgbcdmognobieaaPdiv
import Derived.Test.YtgbcdmognobieaaPref
namespace Go.Proofs.Ytgbcdmognobieaa
open Go.ChangeShapes Go.WideShapes Go.ChangeAt Go.RowKit Go.Shelf GF
set_option linter.unusedVariables false

/-- A row that a call hands back, said from an earlier world on. -/
theorem row_since {f : FuncId} {args : Array Value} {w0 W : World} {R R' : List GF} (hW : Below w0.heap.size w0 W) (er : R = R')
    (h : Calls Try.prog f args W fun e w' => ∃ v, e = .returned v ∧ w'.ownsRow W.heap.size 5 1 v R.length ((iL R).map (Value.int .u8)) ∧ Below W.heap.size W w') :
    Calls Try.prog f args W fun e w' => ∃ a c, e = .returned (.slice a R'.length c) ∧ Pa w' a R'.length c R' ∧ Below w0.heap.size w0 w' ∧ Below W.heap.size W w' := by
  subst er
  refine h.mono ?_
  rintro e w' ⟨v, rfl, hown, hb⟩
  obtain ⟨a, c, rfl, hp⟩ := own_pa hown
  exact ⟨a, c, rfl, hp, bt hW hb, hb⟩
theorem back_eq {A R P Q : List GF} {M : Nat} (hM : (tr (mulL A Q)).length ≤ M) (hR : (tr R).length ≤ M) (h : ∀ k, co (mulL A Q) k + co R k = co P k) : tr (axp (padL (tr (mulL A Q)) M) 0 1 (tr R)) = tr P := by
  rw [tr_sum hM hR]
  apply tr_ext
  intro k
  rw [co_addL, co_tr, co_tr, h k]

theorem cp1' (w : World) (M : Nat) : (w.alloc (.cells (madeCells #[.int .u8 0] M) 5)).heap[w.heap.size]? = some (.cells (madeCells #[.int .u8 0] M).toList.toArray 5 (0, 0)) := by rw [Array.toArray_toList]; exact heap_alloc_new w _
theorem cp2' {P : List GF} {L M : Nat} (hl : P.length = L) (h : L ≤ M) : ((iL P).map (Value.int .u8)).length = Nat.min L M := by rw [List.length_map, length_iL, hl]; exact (Nat.min_eq_left h).symm
theorem cp5' (w : World) (M : Nat) : Below w.heap.size w (w.alloc (.cells (madeCells #[.int .u8 0] M) 5)) := (Below.refl _ _).alloc (Nat.le_refl _) _
theorem cp4' {P : List GF} {L M : Nat} (hl : P.length = L) (h : L ≤ M) : 0 + ((iL P).map (Value.int .u8)).length ≤ (madeCells #[Value.int .u8 0] M).toList.length := by simp [length_iL, hl, size_madeCells]; omega
theorem alloc_lt (w : World) (o : Obj) : w.heap.size < (w.alloc o).heap.size := (Array.getElem?_eq_some_iff.1 (heap_alloc_new w o)).1

set_option maxHeartbeats 1000000 in
theorem polyDivides_zero (a0 : Option Addr) (len0 cap0 : Nat) (a1 : Option Addr) (len1 cap1 : Nat) (w : World) (P Q : List GF)
    (hP : Pa w a0 len0 cap0 P) (hQ : Pa w a1 len1 cap1 Q) (h0 : len0 ≤ 60) (h1 : len1 ≤ 60) (hq : tr Q = []) :
    Calls Try.prog 5 #[.slice a0 len0 cap0, .slice a1 len1 cap1] w fun e w' => e = .returned (.bool true) ∧ Below w.heap.size w w' := by
  have HP := Lib.hid hP
  have HQ := Lib.hid hQ
  have hb0 := hP.bd
  have hb1 := hQ.bd
  have hT : ∀ W, Below w.heap.size w W → Calls Try.prog 17 #[.slice a1 len1 cap1] W fun e w' => ∃ a c, e = .returned (.slice a 0 c) ∧ Below W.heap.size W w' := fun W hW => by
    have := rtrim_any a1 len1 cap1 Q W (hQ.on hW) (by omega)
    rw [hq] at this
    refine this.mono ?_
    rintro e w' ⟨v, rfl, hown, hb⟩
    obtain ⟨a, c, rfl, _⟩ := own_form hown
    exact ⟨a, c, rfl, hb⟩
  have HT := Lib.hid hT
  have Hq := Lib.hid hq
  clear hP hQ hT hq
  go_enter Try.func5, Try.ntmps5
  go_wp2_with (first
    | (go_at_call 9; refine (lives_any _).mono ?_; rintro e w1 ⟨rfl, hB1⟩)
    | (go_at_call 10; refine (new_any _).mono ?_; rintro e w2 ⟨b, rfl, _, hf, hB2⟩; have HB2 := Lib.hid (bt hB1 hB2); clear hB1 hB2 hf)
    | (go_at_call 21; go_loud (refine (divmod_zero b a0 len0 cap0 a1 len1 cap1 Q _ (HQ.out.on HB2.out) (by omega) Hq.out).mono ?_); rintro e w3 ⟨rfl, hb3⟩; have HB3 := Lib.hid (bt HB2.out hb3); clear hb3)
    | (go_at_call 17; go_loud (refine (HT.out _ HB3.out).mono ?_); rintro e w4 ⟨a4, c4, rfl, hb4⟩; have HB4 := Lib.hid (bt HB3.out hb4); clear hb4))
  go_ret
  exact ⟨rfl, HB4.out⟩

set_option maxRecDepth 100000 in
set_option maxHeartbeats 4000000 in
theorem polyDivides_ok (a0 : Option Addr) (len0 cap0 : Nat) (a1 : Option Addr) (len1 cap1 : Nat) (w : World) (P Q : List GF)
    (hP : Pa w a0 len0 cap0 P) (hQ : Pa w a1 len1 cap1 Q) (h0 : len0 ≤ 60) (h1 : len1 ≤ 60) (hq : tr Q ≠ []) :
    Calls Try.prog 5 #[.slice a0 len0 cap0, .slice a1 len1 cap1] w fun e w' => e = .returned (.bool true) ∧ Below w.heap.size w w' := by
  have HP := Lib.hid hP
  have HQ := Lib.hid hQ
  have hb0 := hP.bd
  have hb1 := hQ.bd
  have Hql := Lib.hid hQ.len
  have hT : ∀ W, Below w.heap.size w W → Calls Try.prog 17 #[.slice a1 len1 cap1] W fun e w' => ∃ a c, e = .returned (.slice a (tr Q).length c) ∧ Pa w' a (tr Q).length c (tr Q) ∧ Below w.heap.size w w' ∧ Below W.heap.size W w' := fun W hW => row_since hW rfl (rtrim_any a1 len1 cap1 Q W (hQ.on hW) (by omega))
  have HT := Lib.hid hT
  have Hq := Lib.hid hq
  have hqpos : 0 < (tr Q).length := tr_pos hq
  have hq0 : (((tr Q).length : Int) == 0) = false := by rw [beq_eq_false_iff_ne]; omega
  have hmk : ∀ w : World, (Instr.makeSlice 22 (.int .i64 130) (.int .i64 130)).run Try.prog w = .ok (.slice (some ⟨w.heap.size, 0, none⟩) 130 130) (w.alloc (.cells (madeCells #[.int .u8 0] 130) 5)) := fun w => run_make_row' (P := Try.prog) 22 5 (.int .u8 0) 1 Try.underlying22 info5 rfl .i64 .i64 130 (by omega) (by omega) w
  clear hP hQ hT hq hqpos
  go_enter Try.func5, Try.ntmps5
  go_upto_region 7 with (first
    | (go_at_call 9; refine (lives_any _).mono ?_; rintro e w1 ⟨rfl, hB1⟩)
    | (go_at_call 10; refine (new_any _).mono ?_; rintro e w2 ⟨b, rfl, _, hf, hB2⟩; have HF := Lib.hid hf; have HB2 := Lib.hid (bt hB1 hB2); clear hB1 hB2 hf)
    | (go_at_call 21; go_loud (refine (divmod_any b a0 len0 cap0 P a1 len1 cap1 Q _ HF.out (HP.out.on HB2.out) (HQ.out.on HB2.out) (by omega) (by omega) Hq.out).mono ?_); rintro e w3 ⟨v1, v2, A, R, rfl, hown1, hown2, hok, hb3⟩; obtain ⟨aA, cA, rfl, hpA⟩ := own_pa hown1; obtain ⟨aR, cR, rfl, hpR⟩ := own_pa hown2; have HA := Lib.hid hpA; have HR := Lib.hid hpR; have HB3 := Lib.hid (bt HB2.out hb3); clear hb3 hown1 hown2 hpA hpR)
    | (go_at_call 17; go_loud (refine (HT.out _ HB3.out).mono ?_); rintro e w4 ⟨a4, c4, rfl, _, hB4, hb4⟩; have HB4 := Lib.hid hB4; have HA4 := Lib.hid (HA.out.on hb4); have HR4 := Lib.hid (HR.out.on hb4); clear hb4 hB4)
    | fail)
  obtain ⟨T, hTd⟩ : ∃ T, T = tr (mulL A Q) := ⟨_, rfl⟩
  obtain ⟨U, hU⟩ : ∃ U, U = tr R := ⟨_, rfl⟩
  obtain ⟨n, hn⟩ : ∃ n, n = U.length := ⟨_, rfl⟩
  have htq := tr_len_le Q
  have hql := Hql.out
  have hTl : T.length ≤ 130 := by
    have h1 := tr_len_le (mulL A Q)
    have h2 := mulL_len A Q
    have h3 := hok.out.1
    rw [hTd]; omega
  have hRlt := hok.out.2.2.1
  have htrA := Lib.hid hok.out.2.1
  have hUU : tr U = U := by rw [hU]; exact tr_tr _
  have HUU := Lib.hid hUU
  have hBack : tr (axp (padL T 130) 0 1 U) = tr P := by
    rw [hTd, hU]
    exact back_eq (by rw [← hTd]; exact hTl) (by omega) hok.out.2.2.2
  have HBack := Lib.hid hBack
  rw [← hU, ← hn] at hRlt
  rw [← hU, ← hn] at HR4
  rw [← hU, ← hn]
  have hn60 : n < 60 := by omega
  have hlt0 : (n : Int) < ((tr Q).length : Int) := by omega
  have HPl := Lib.hid (length_padL (P := T) (M := 130) hTl)
  have HTd := Lib.hid hTd
  have Hn := Lib.hid hn
  have HTl := Lib.hid hTl
  obtain ⟨N, hN⟩ : ∃ N, N = T.length := ⟨_, rfl⟩
  have HN := Lib.hid hN
  have hN130 : N ≤ 130 := by omega
  have hA60 := hok.out.1
  have HRm : Hid (∀ W, Below w4.heap.size w4 W → Calls Try.prog 16 #[.slice aA A.length cA, .slice a1 len1 cap1] W fun e w' => ∃ a c, e = .returned (.slice a N c) ∧ Pa w' a N c T ∧ Below w4.heap.size w4 w' ∧ Below W.heap.size W w') := Lib.hid fun W hW => by rw [hN]; exact row_since hW hTd.symm (rmul_any aA A.length cA A a1 len1 cap1 Q W (HA4.out.on hW) (HQ.out.on (bt HB4.out hW)) (by omega) (by omega))
  clear hTd hU hn htq hql hTl hRlt hUU hBack hN hok
  go_wp2_with (first
    | (go_at_call 16; go_loud (refine (HRm.out _ (cp5' w4 130)).mono ?_); rintro e w5 ⟨a5, c5, rfl, hp5, hB5, hb5⟩; have HM5 := Lib.hid hp5; have HB5 := Lib.hid hB5; have Hc5 := Lib.hid ((hb5.block w4.heap.size (alloc_lt w4 _)).trans (cp1' w4 130)); clear hp5 hB5 hb5)
    | ((with_reducible show wpList _ _ _ (⟨some 50, _, _, _, _, _⟩ :: _) _ _); go_loud (refine wpList_copy_splice (o := ⟨some 50, _, _, _, _, _⟩) rfl (.tmp 46) (.tmp 49) 22 22 rfl 5 Try.underlying22 size_u8 (some ⟨w4.heap.size, 0, none⟩) a5 130 130 N c5 rfl rfl w4.heap.size 0 (madeCells #[.int .u8 0] 130).toList 5 Hc5.out ((iL T).map (Value.int .u8)) (cp2' HN.out.symm hN130) (fun h0 => ⟨rfl, HM5.out.1.2.2.1.cells h0⟩) (cp4' HN.out.symm hN130) (ints_oneCell _ _) w4.heap.size w4 HB5.out (Nat.le_refl _) ?_); go_loud (intro w6 hg6 hb6; have HO6 := Lib.hid (pad_row hg6.out HTl.out (by omega)); have HB6 := Lib.hid hb6; clear hb6 hg6)))
  obtain ⟨g, hg⟩ : ∃ g, g = w4.heap.size := ⟨_, rfl⟩
  rw [← hg] at HO6
  rw [show (⟨w4.heap.size, 0, none⟩ : Addr) = ⟨g, 0, none⟩ by rw [hg]]
  have hgw : w4.heap.size ≤ g := by omega
  have HG := Lib.hid hg
  clear hg
  go_loopw [53] (fun j wr => ∃ k : Nat, k ≤ n ∧ j = .int .i64 (k : Nat) ∧ Hid (wr.ownsRow g 5 1 (.slice (some ⟨g, 0, none⟩) 130 130) 130 ((iL (addAt (padL T 130) 0 1 U k)).map (Value.int .u8))) ∧ Hid (Below w4.heap.size w4 wr))
    (fun j _ => n - (intOf j).toNat)
  case atStart => exact ⟨0, Nat.zero_le _, rfl, Lib.hid (by rw [addAt_zero]; exact HO6.out), HB6⟩
  case round =>
    obtain ⟨k, hk, rfl, hR, hB⟩ := hrel
    by_cases hlt : k < n
    · obtain ⟨bx, ox, rfl, hbx, hcx⟩ := (HR4.out.on hB.out).at_ hlt
      have q5 : (k : Int) < (n : Int) := by omega
      have q6 : (0 : Int) ≤ (k : Int) := by omega
      have q7 : (k : Int) < 130 := by omega
      have hcg := own_cells hR.out k (by omega)
      rw [Nat.zero_add, getD_iL, co_addAt (by rw [HPl.out]; omega), if_neg (by omega), co_padL] at hcg
      have hfz := hR.out.frozenAt k
      have hst := (hR.out.stored k (.int .u8 (toI (co T k + co U k)))).1
      have hset : (iL (addAt (padL T 130) 0 1 U k)).set k (toI (co T k + co U k)) = iL (addAt (padL T 130) 0 1 U (k + 1)) := by
        rw [← addAt_set (by rw [HPl.out]; omega), Nat.zero_add, co_padL, GF.one_mul]; simp [iL, List.map_set]
      rw [map_set_u8, hset] at hst
      have HS := Lib.hid hst
      have HB2' := Lib.hid (hB.out.setCell (p := ⟨g, k, none⟩) hgw (.int .u8 (toI (co T k + co U k))))
      have hbt := bits_xor_G (co T k) (co U k)
      rw [← hbt] at HS HB2'
      clear hst hset hbt
      go_wp2_with fail
      go_still_tail 10, (by kernel_rfl)
      go_wp2
      go_roundw
      case rel => exact ⟨k + 1, by omega, by go_num, Lib.hid HS.out, Lib.hid HB2'.out.drew⟩
      case measure => simp [intOf]; omega
    · obtain rfl : k = n := by omega
      have hR2 := Lib.hid (Pa.own2 (show wr.ownsRow g 5 1 (.slice (some ⟨g, 0, none⟩) 130 130) 130 ((iL (axp (padL T 130) 0 1 U)).map (Value.int .u8)) by unfold axp; rw [← Hn.out]; exact hR.out))
      have hBr := Lib.hid (bt HB4.out hB.out)
      have HPr := Lib.hid (HP.out.on hBr.out)
      have HQr := Lib.hid (HQ.out.on hBr.out)
      have HAr := Lib.hid (HA4.out.on hB.out)
      have HRr := Lib.hid (HR4.out.on hB.out)
      have hcvA := HAr.out.str_on rfl
      have hcvR := HRr.out.str_on rfl
      have HTq := Lib.hid (fun (W : World) (hW : Below wr.heap.size wr W) => row_since hW rfl (rtrim_any a1 len1 cap1 Q W (HQr.out.on hW) (by omega)))
      have HTp := Lib.hid (fun (W : World) (hW : Below wr.heap.size wr W) => row_since hW rfl (rtrim_any a0 len0 cap0 P W (HPr.out.on hW) (by omega)))
      have HTb := Lib.hid (fun (W : World) (hW : Below wr.heap.size wr W) => row_since hW HBack.out (rtrim_any (some ⟨g, 0, none⟩) 130 130 _ W (hR2.out.on hW) (by omega)))
      have HTa := Lib.hid (fun (W : World) (hW : Below wr.heap.size wr W) => row_since hW htrA.out (rtrim_any aA A.length cA A W (HAr.out.on hW) (by omega)))
      have HTr := Lib.hid (fun (W : World) (hW : Below wr.heap.size wr W) => row_since hW HUU.out (rtrim_any aR k cR U W (HRr.out.on hW) (by omega)))
      clear hR hB
      go_wp2_with fail
      go_region_held (fun W => Below wr.heap.size wr W) (first | exact (Below.refl _ _).drew | assumption)
        (first
          | (go_at_call_of 17 (Value.slice a1 len1 cap1); refine (HTq.out _ (by assumption)).mono ?_; rintro e w7 ⟨a7, c7, rfl, hp7, hb7, hl7⟩)
          | (go_at_call_of 17 (Value.slice (some ⟨g, 0, none⟩) 130 130); refine (HTb.out _ (by assumption)).mono ?_; rintro e w8 ⟨a8, c8, rfl, hp8, hb8, hl8⟩; have hcv8 := hp8.str_on rfl; have hrf8 := Below.refl w8.heap.size w8)
          | (go_at_call_of 17 (Value.slice a0 len0 cap0); refine (HTp.out _ (by assumption)).mono ?_; rintro e w9 ⟨a9, c9, rfl, hp9, hb9, hl9⟩; have hcv9 := hp9.str_on rfl; have hrf9 := Below.refl w9.heap.size w9)
          | (go_at_call_of 17 (Value.slice aA A.length cA); refine (HTa.out _ (by assumption)).mono ?_; rintro e w10 ⟨a10, c10, rfl, hp10, hb10, hl10⟩; have hcv10 := hp10.str_on rfl; have hrf10 := Below.refl w10.heap.size w10)
          | (go_at_call_of 17 (Value.slice aR k cR); refine (HTr.out _ (by assumption)).mono ?_; rintro e w11 ⟨a11, c11, rfl, hp11, hb11, hl11⟩; have hcv11 := hp11.str_on rfl; have hrf11 := Below.refl w11.heap.size w11))
      all_goals
        go_wp2
        go_ret
        exact ⟨rfl, bt hBr.out (by assumption)⟩
end Go.Proofs.Ytgbcdmognobieaa
