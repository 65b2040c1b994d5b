/- CodeApart's walk, under Encode's contract. -/
import Derived.Test.YtmhjpdppippgkaaCg
import Derived.Deep.QuietTactic
import Derived.Deep.RegionHeld
import Derived.StillTailTactics
namespace Go.Proofs.Ytmhjpdppippgkaa
open Go.ChangeShapes Go.WideShapes Go.ChangeAt Go.RowKit Go.Shelf GF
set_option linter.unusedVariables false
set_option linter.unusedSimpArgs false
set_option maxRecDepth 100000

set_option maxHeartbeats 4000000 in
theorem codeApart_core (hE : EncodeC) (u : Int) (t : Nat) (aP : Option Addr) (cP : Nat) (P : List (List GF)) (aW : Option Addr) (lW cW : Nat) (Wh : List GF) (aB : Option Addr) (lB cB : Nat) (By : List GF) (w : World)
    (hP : Mat w aP t cP P) (hW : Pa w aW lW cW Wh) (hBy : Pa w aB lB cB By) (hF : FewR t P) (ht1 : 1 ≤ t) (ht2 : t ≤ 8) (hO : OneR t P) (hlW : lW ≤ 40) :
    Calls Try.prog 3 #[.slice aP t cP, .slice aW lW cW, .slice aB lB cB, .int .i64 u] w fun e w' => e = .returned (.bool true) ∧ Below w.heap.size w w' := by
  obtain ⟨i5, hi, hz0, hz1, hz2⟩ := info_parts info5
  have HI := Lib.hid (And.intro hi (And.intro hz0 (And.intro hz1 hz2)))
  obtain ⟨i22, hy, hy0, hy1, hy2⟩ := info_parts infoR
  have HY := Lib.hid (And.intro hy (And.intro hy0 (And.intro hy1 hy2)))
  obtain ⟨n, hn⟩ : ∃ n, n = (rw_ P 0).length := ⟨_, rfl⟩
  have HONE := Lib.hid (fun k (hk : k < t) => show (rw_ P k).length = n from by rw [hn]; exact hO k hk)
  have HN := Lib.hid (show n ≤ 20 from by rw [hn]; exact hF.2 0 ht1)
  have HL9 := Lib.hid (lives9 hE)
  have HE := Lib.hid hE
  have HP := Lib.hid hP
  have HPL := Lib.hid hP.len
  have HW := Lib.hid hW
  have HBY := Lib.hid hBy
  have HF := Lib.hid hF
  have HO := Lib.hid hO
  have HT := Lib.hid (And.intro ht1 ht2)
  have hbp := hP.bd
  have hbw := hW.bd
  have hbb := hBy.bd
  have q0 : ((t : Int) == 0) = false := by rw [beq_eq_false_iff_ne]; omega
  have q8 : ¬ (8 : Int) < (t : Int) := by omega
  have q40 : ¬ (40 : Int) < (lW : Int) := by omega
  have qt0 : (0 : Int) < (t : Int) := by omega
  have qt8 : (t : Int) ≤ 8 := by omega
  have qn : (n : Int) ≤ 20 := by have := HN.out; omega
  have HLW := Lib.hid hlW
  clear hi hz0 hz1 hz2 hy hy0 hy1 hy2 hn hE hP hW hBy hF ht1 ht2 hO hlW
  go_enter Try.func3, Try.ntmps3
  go_upto_region 3 with (first
    | (go_at_call 7; go_loud ((with_reducible refine (HL9.out w).mono ?_); rintro e w1 ⟨rfl, hb⟩; have HB1 := Lib.hid hb; have HFW := Lib.hid (few_yes aP t cP P w1 (HP.out.on hb) HF.out); have HUW := Lib.hid (unl_no aP t cP P w1 (HP.out.on hb) HO.out); clear hb))
    | (go_at_call 8; go_loud ((with_reducible refine HFW.out.mono ?_); rintro e w' ⟨rfl, rfl⟩))
    | (go_at_call 9; go_loud ((with_reducible refine HUW.out.mono ?_); rintro e w' ⟨rfl, rfl⟩)))
  obtain ⟨b0, o0, ai0, ci0, rfl, hb0, hc0, hp0⟩ := (HP.out.on HB1.out).row (i := 0) HT.out.1
  rw [HONE.out 0 HT.out.1, Nat.add_zero] at hc0
  have hcd : ∀ k, (w1.drewN k).cell? ⟨b0, o0, none⟩ = some (.slice ai0 n ci0) := fun k => hc0
  have hbd0 := hp0.bd
  rw [HONE.out 0 HT.out.1] at hbd0
  clear hp0 hb0 hc0 HFW HUW HL9
  go_wp2_with fail
  go_quiet (fail)
  obtain ⟨w2, h2⟩ : ∃ V, V = w1.drewN nq := ⟨_, rfl⟩
  have HB2 := Lib.hid (show Below w.heap.size w w2 from by rw [h2]; exact below_drewN HB1.out nq)
  rw [← h2]
  clear h2 hcd HB1
  obtain ⟨p, hp1, hp2, hp5⟩ := mod_bothC u 5 (by omega)
  obtain ⟨N, hN⟩ : ∃ N, N = t + p := ⟨_, rfl⟩
  have HNT := Lib.hid (show t ≤ N ∧ N ≤ 12 from ⟨by omega, by have := HT.out; omega⟩)
  have qN : (t : Int) + (p : Int) = (N : Int) := by rw [hN]; rfl
  have qN2 : (N : Int) ≤ 12 := by have := HNT.out; omega
  have k1 : ∀ [Inhabited Unit], (IntKind.u64.wrap u).tmod 5 = (p : Int) := hp1
  have k2 : ∀ [Inhabited Unit], (IntKind.u64.wrap u) % 5 = (p : Int) := hp2
  clear hp1 hp2 hN
  go_upto_region 7 with fail
  clear k1 k2
  obtain ⟨S0, hS0⟩ : ∃ S, S = w2.heap.size := ⟨_, rfl⟩
  have HS0 := Lib.hid hS0
  clear hS0
  go_loopw [68, 12] (fun s o V => ∃ (i co' : Nat) (ao : Option Addr) (v : Nat → Value), i ≤ t ∧ s = .int .i64 (i : Nat) ∧ o = .slice ao (i : Nat) co' ∧ Hid (V.ownsRow S0 23 1 (.slice ao (i : Nat) co') i (listV v i)) ∧ Hid (RowsV V S0 n i v (rw_ P)) ∧ Hid (Below S0 w2 V)) (fun s _ _ => t - (intOf s).toNat)
  case atStart => exact ⟨0, 0, none, fun _ => undef, by omega, rfl, rfl, Lib.hid (World.ownsRow_nil _ _ _ _), Lib.hid (RowsV.zero _ _ _ _ _), Lib.hid (Below.refl _ _)⟩
  case round =>
    obtain ⟨i, co', ao, v, hi, rfl, rfl, HOO, HRR, HBV⟩ := hrel
    rename World => V
    have hbV : Below w.heap.size w V := by
      have h := HBV.out; rw [HS0.out] at h; exact bt HB2.out h
    have HBV2 := Lib.hid hbV
    clear hbV
    by_cases hlt : i < t
    · obtain ⟨bx, ox, a1, c1, ex, hbx, hc1, hp1⟩ := (HP.out.on HBV2.out).row hlt
      cases ex
      rw [HONE.out i hlt] at hc1 hp1
      have hbd1 := hp1.bd
      have qi : (i : Int) < (t : Int) := by omega
      have qi0 : (0 : Int) ≤ (i : Int) := by omega
      have HI1 := Lib.hid hlt
      have HPR := Lib.hid hp1
      have HE1 := Lib.hid (own_emptyG V 5)
      have HBE := Lib.hid (show Below V.heap.size V (V.alloc (.cells #[] 5)) from (Below.refl _ _).alloc (Nat.le_refl _) _)
      have HVS := Lib.hid (show S0 ≤ V.heap.size from by rw [HS0.out]; exact HBV.out.size)
      have hob : (i : Nat) ≤ co' ∧ co' ≤ 9223372036854775807 := by
        rcases HOO.out.2 with ⟨e, h0⟩ | ⟨g, c', cur, e, _, _, h4, h5, _⟩
        · cases e; omega
        · cases e; exact ⟨h4, by unfold maxLen at h5; omega⟩
      clear hlt hp1 hbx
      go_wp2_with (first
        | ((with_reducible show wpList _ _ _ (⟨some 75, _, _, _, _, _⟩ :: _) _ _); go_loud (refine wpList_append_bs _ rfl (.tmp 73) (.tmp 74) 23 rfl V.heap.size 5 i5 Try.underlying23 HI.out.1 HI.out.2.1 HI.out.2.2.1 HI.out.2.2.2 _ 0 (iL ([] : List GF)) rfl HE1.out a1 n c1 _ (iL (rw_ P i)) rfl (HPR.out.on HBE.out).1.2.2.1 HPR.out.1.1 HPR.out.2 (by have := HN.out; omega) (by simp) ?_; intro v2 V2 hown2 hg2; have hb2 := HBE.out.grown hg2 (by simp) (own_block_le _ _ _); rw [Nat.zero_add, show iL ([] : List GF) ++ iL (rw_ P i) = iL (rw_ P i) from rfl] at hown2; obtain ⟨a2, c2, hv2, _, _, _, _, _⟩ := own_form hown2; subst hv2; have HO2 := Lib.hid hown2; have HB2V := Lib.hid hb2; have HOV2 := Lib.hid ((own_belowV HOO.out hb2).alloc (.cells #[.slice a2 n c2] 23)); have HR2 := Lib.hid (HRR.out.more hb2 hown2 HVS.out); clear hown2 hg2 hb2))
        | ((with_reducible show wpList _ _ _ (⟨some 77, _, _, _, _, _⟩ :: _) _ _); go_loud (refine wpList_append_own _ rfl (.tmp 72) (.tmp 76) 22 rfl S0 23 i22 (.slice none 0 0) 1 24 Try.underlying22 HY.out.1 HY.out.2.1 HY.out.2.2.1 HY.out.2.2.2 rfl (by decide) _ i (listV v i) rfl HOV2.out _ 1 1 [_] rfl rfl (lit_cellsV _ _ _) (by intro u hu; cases List.mem_singleton.1 hu; rfl) (by unfold maxLen; omega) (by have := HT.out; omega) (by have := HVS.out; have := HB2V.out.size; simp; omega) ?_); go_loud (intro v3 V3 hown3 hg3 _; have hR3 := (HR2.out.on ((Below.refl _ _).alloc (Nat.le_refl _) (.cells #[.slice a2 n c2] 23))).kept HOV2.out (by decide) hg3; have hb3 := (((HBV.out.trans (HB2V.out.mono HVS.out)).alloc (by have := HVS.out; have := HB2V.out.size; omega) (.cells #[.slice a2 n c2] 23))).grown hg3 (by have := HVS.out; have := HB2V.out.size; simp; omega) (fun z hz => (HOV2.out.lt z hz).1); rw [← listV_next] at hown3; obtain ⟨a3, c3, hv3⟩ := own_sliceV hown3; subst hv3; have HO3 := Lib.hid hown3; have HR3 := Lib.hid hR3; have HB3 := Lib.hid hb3; clear hown3 hg3 hR3 hb3)))
      go_roundw
      case rel => exact ⟨i + 1, c3, a3, _, by have := HI1.out; omega, by go_num, rfl, HO3, HR3, HB3⟩
      case measure => simp [intOf]; have := HI1.out; omega
    · obtain rfl : t = i := by omega
      clear hlt hi
      obtain ⟨GO, rfl⟩ : ∃ GO, ao = some ⟨GO, 0, none⟩ := by
        rcases HOO.out.2 with ⟨_, h0⟩ | ⟨g, c, cur, e, _⟩
        · have := HT.out; omega
        · cases e; exact ⟨g, rfl⟩
      have hgo : t ≤ co' ∧ co' ≤ 9223372036854775807 := by
        rcases HOO.out.2 with ⟨e, h0⟩ | ⟨g, c', cur, e, _, _, h4, h5, _⟩
        · cases e
        · cases e; exact ⟨h4, by unfold maxLen at h5; omega⟩
      go_upto_region 12 with fail
      have HQ0 := Lib.hid HRR.out
      go_loopw [81] (fun s U => ∃ (j : Nat) (Q : Nat → List GF), j ≤ lW ∧ s = .int .i64 (j : Nat) ∧ Hid (U.ownsRow S0 23 1 (.slice (some ⟨GO, 0, none⟩) t co') t (listV v t)) ∧ Hid (RowsV U S0 n t v Q) ∧ Hid (Below S0 w2 U)) (fun s _ => lW - (intOf s).toNat)
      case atStart => exact ⟨0, rw_ P, by omega, rfl, HOO, HQ0, HBV⟩
      case round =>
        obtain ⟨j, Q, hj, rfl, UO, UR, UB⟩ := hrel
        rename World => U
        have hbU : Below w.heap.size w U := by
          have h := UB.out; rw [HS0.out] at h; exact bt HB2.out h
        have HBU := Lib.hid hbU
        clear hbU
        by_cases hlt : j < lW
        · obtain ⟨bw, ow, rfl, hbw', hcw⟩ := (HW.out.on HBU.out).at_ hlt
          obtain ⟨xv, hxv⟩ : ∃ xv : Nat, toI (co Wh j) = (xv : Int) := ⟨(toI (co Wh j)).toNat, by have := toI_bd (co Wh j); omega⟩
          have hxb : xv < 256 := by have := toI_bd (co Wh j); omega
          rw [hxv] at hcw
          have qj : (j : Int) < (lW : Int) := by omega
          have qj0 : (0 : Int) ≤ (j : Int) := by omega
          have qj2 : (lW : Int) ≤ 40 := by have := HLW.out; omega
          have HJ := Lib.hid hlt
          clear hxv hbw' hlt hj
          by_cases hB : j < lB
          · have qb : (j : Int) < (lB : Int) := by omega
            by_cases hn0 : n = 0
            · have qn0 : ¬ (0 : Int) < (n : Int) := by omega
              clear hn0 hB
              go_wp2
              go_roundw
              case rel => exact ⟨j + 1, Q, by have := HJ.out; omega, by go_num, UO, UR, UB⟩
              case measure => simp [intOf]; have := HJ.out; omega
            · have qn0 : (0 : Int) < (n : Int) := by omega
              obtain ⟨bb, ob, rfl, hbb', hcb⟩ := (HBY.out.on HBU.out).at_ hB
              obtain ⟨a, ha⟩ : ∃ a, a = xv % t := ⟨_, rfl⟩
              obtain ⟨b, hb⟩ : ∃ b, b = xv / t := ⟨_, rfl⟩
              obtain ⟨c, hc⟩ : ∃ c, c = b % n := ⟨_, rfl⟩
              have hat : a < t := by rw [ha]; exact Nat.mod_lt _ HT.out.1
              have hcn : c < n := by rw [hc]; exact Nat.mod_lt _ (by omega)
              have hbx : b ≤ xv := by rw [hb]; exact Nat.div_le_self _ _
              have k1 : ∀ [Inhabited Unit], (xv : Int).tmod (t : Int) = (a : Int) := by intro _; rw [Int.tmod_eq_emod_of_nonneg (by omega), ha]; rfl
              have k2 : ∀ [Inhabited Unit], (xv : Int) % (t : Int) = (a : Int) := by intro _; rw [ha]; rfl
              have k3 : ∀ [Inhabited Unit], (xv : Int).tdiv (t : Int) = (b : Int) := by intro _; rw [Int.tdiv_eq_ediv_of_nonneg (by omega), hb]; rfl
              have k4 : ∀ [Inhabited Unit], (xv : Int) / (t : Int) = (b : Int) := by intro _; rw [hb]; rfl
              have k5 : ∀ [Inhabited Unit], (b : Int).tmod (n : Int) = (c : Int) := by intro _; rw [Int.tmod_eq_emod_of_nonneg (by omega), hc]; rfl
              have k6 : ∀ [Inhabited Unit], (b : Int) % (n : Int) = (c : Int) := by intro _; rw [hc]; rfl
              have e1 : ∀ [Inhabited Unit], IntKind.i64.wrap (xv : Int) = (xv : Int) := by intro _; rw [IntKind.wrap_i64]; omega
              have e2 : ∀ [Inhabited Unit], IntKind.i64.wrap (a : Int) = (a : Int) := by intro _; rw [IntKind.wrap_i64]; omega
              have e3 : ∀ [Inhabited Unit], IntKind.i64.wrap (b : Int) = (b : Int) := by intro _; rw [IntKind.wrap_i64]; omega
              have e4 : ∀ [Inhabited Unit], IntKind.i64.wrap (c : Int) = (c : Int) := by intro _; rw [IntKind.wrap_i64]; omega
              have qnn : ((n : Int) == 0) = false := by rw [beq_eq_false_iff_ne]; omega
              have z5 : ¬ t = 0 := by omega
              have z6 : ¬ n = 0 := hn0
              have z1 : ¬ (t : Int) = 0 := by omega
              have z2 : ¬ (n : Int) = 0 := by omega
              have z3 : ¬ (t : Int) = -1 := by omega
              have z4 : ¬ (n : Int) = -1 := by omega
              have qa : (a : Int) < (t : Int) := by omega
              have qa0 : (0 : Int) ≤ (a : Int) := by omega
              have qc : (c : Int) < (n : Int) := by omega
              have qc0 : (0 : Int) ≤ (c : Int) := by omega
              obtain ⟨ga, ca, hva⟩ : ∃ ga ca, v a = .slice (some ⟨ga, 0, none⟩) n ca := by
                rcases (UR.out.1 a hat).2 with ⟨_, h0⟩ | ⟨g, c', cur, e, _⟩
                · omega
                · exact ⟨g, c', e⟩
              have hoa := UR.out.1 a hat
              rw [hva] at hoa
              have hcl := UO.out.cellAt a (by omega)
              rw [listV_get hat, hva] at hcl
              have hcg := own_cells hoa c hcn
              rw [Nat.zero_add, getD_iL] at hcg
              have hfz := hoa.frozenAt c
              have hca : n ≤ ca ∧ ca ≤ 9223372036854775807 := by
                rcases hoa.2 with ⟨e, h0⟩ | ⟨g, c', cur, e, _, _, h4, h5, _⟩
                · cases e
                · cases e; exact ⟨h4, by unfold maxLen at h5; omega⟩
              have hga := (hoa.lt ga rfl).1
              have hbt := bits_xor_G (co (Q a) c) (co By j)
              have HR9 := Lib.hid (UR.out.store hat hva c (co (Q a) c + co By j))
              have HO9 := Lib.hid (UO.out.kept (gb_set U ga c (.int .u8 (toI (co (Q a) c + co By j)))) (by have h := own_ne UO.out hoa (by decide); exact h))
              have HB9 := Lib.hid (UB.out.setCell (p := ⟨ga, c, none⟩) hga (.int .u8 (toI (co (Q a) c + co By j))))
              have HCL := Lib.hid hcl
              have HCB := Lib.hid hcb
              have HNE := Lib.hid (show GO < U.heap.size ∧ GO ≠ ga ∧ bb < U.heap.size ∧ bb ≠ ga from ⟨(UO.out.lt GO rfl).2, fun e => by have h := own_ne UO.out hoa (by decide); rcases h with h | h; cases h; exact h (by rw [e]; rfl), hbb', fun e => by
                obtain ⟨b9, o9, e9, h9, _⟩ := HBY.out.at_ hB
                cases e9
                have h1 := HB2.out.size
                rw [HS0.out] at hga
                omega⟩)
              have K1 := Lib.hid k1; have K2 := Lib.hid k2; have K3 := Lib.hid k3; have K4 := Lib.hid k4; have K5 := Lib.hid k5; have K6 := Lib.hid k6
              clear hcl hcb ha hb hc hoa hga hbb' hn0 hB hva k1 k2 k3 k4 k5 k6
              go_wp2_with fail
              refine wp_region_held_drew (S := fun W => U.grownBy W (some ga)) (by kernel_rfl) (gb_drew (gb_refl _ _)) (fun hHeld => ?_)
              refine wpAnyH_take (i := 0) (oi := { dst := some 94, op := Go.Op.move (Go.Operand.tmp 12), type := 22, pos := "law.go:176", after := #[], guard := none }) (v := ?v0a1) rfl (by kernel_rfl) (by kernel_rfl) (by kernel_rfl) (fun _ _ _ h => h) (Or.inl ⟨by rfl, ?hy0a1⟩) hHeld ?rest0a1
              case hy0a1 =>
                intro W' hV
                try dsimp only at hV
                go_simp
                all_goals with_reducible rfl
              case' rest0a1 => try simp only [Act.put, List.setIfInBounds_toArray, List.set_cons_zero, List.set_cons_succ]
              refine wpAnyH_take (i := 1) (oi := { dst := some 95, op := Go.Op.move (Go.Operand.tmp 16), type := 5, pos := "law.go:176", after := #[], guard := none }) (v := ?v1a2) rfl (by kernel_rfl) (by kernel_rfl) (by kernel_rfl) (fun _ _ _ h => h) (Or.inl ⟨by rfl, ?hy1a2⟩) hHeld ?rest1a2
              case hy1a2 =>
                intro W' hV
                try dsimp only at hV
                go_simp
                all_goals with_reducible rfl
              case' rest1a2 => try simp only [Act.put, List.setIfInBounds_toArray, List.set_cons_zero, List.set_cons_succ]
              refine wpAnyH_take (i := 2) (oi := { dst := some 96, op := Go.Op.convert 5 3 (Go.Operand.tmp 95), type := 3, pos := "law.go:176", after := #[{ on := 1, ground := Go.Ground.data }], guard := none }) (v := ?v2a3) rfl (by kernel_rfl) (by kernel_rfl) (by kernel_rfl) (fun _ _ _ h => h) (Or.inl ⟨by rfl, ?hy2a3⟩) hHeld ?rest2a3
              case hy2a3 =>
                intro W' hV
                try dsimp only at hV
                go_simp
                all_goals with_reducible rfl
              case' rest2a3 => try simp only [Act.put, List.setIfInBounds_toArray, List.set_cons_zero, List.set_cons_succ]
              refine wpAnyH_take (i := 3) (oi := { dst := some 97, op := Go.Op.move (Go.Operand.tmp 9), type := 3, pos := "law.go:176", after := #[], guard := none }) (v := ?v3a4) rfl (by kernel_rfl) (by kernel_rfl) (by kernel_rfl) (fun _ _ _ h => h) (Or.inl ⟨by rfl, ?hy3a4⟩) hHeld ?rest3a4
              case hy3a4 =>
                intro W' hV
                try dsimp only at hV
                go_simp
                all_goals with_reducible rfl
              case' rest3a4 => try simp only [Act.put, List.setIfInBounds_toArray, List.set_cons_zero, List.set_cons_succ]
              refine wpAnyH_take (i := 4) (oi := { dst := some 98, op := Go.Op.binOp Go.BinOp.rem 3 (Go.Operand.tmp 96) (Go.Operand.tmp 97) 3, type := 3, pos := "law.go:176", after := #[{ on := 2, ground := Go.Ground.data }, { on := 3, ground := Go.Ground.data }], guard := none }) (v := ?v4a5) rfl (by kernel_rfl) (by kernel_rfl) (by kernel_rfl) (fun _ _ _ h => h) (Or.inl ⟨by rfl, ?hy4a5⟩) hHeld ?rest4a5
              case hy4a5 =>
                intro W' hV
                try dsimp only at hV
                have k1 := K1.out
                have k2 := K2.out
                go_simp
                all_goals with_reducible rfl
              case' rest4a5 => try simp only [Act.put, List.setIfInBounds_toArray, List.set_cons_zero, List.set_cons_succ]
              refine wpAnyH_take (i := 5) (oi := { dst := some 99, op := Go.Op.indexAddr 22 (Go.Operand.tmp 94) (Go.Operand.tmp 98), type := 0, pos := "law.go:176", after := #[{ on := 0, ground := Go.Ground.data }, { on := 4, ground := Go.Ground.data }], guard := none }) (v := ?v5a6) rfl (by kernel_rfl) (by kernel_rfl) (by kernel_rfl) (fun _ _ _ h => h) (Or.inl ⟨by rfl, ?hy5a6⟩) hHeld ?rest5a6
              case hy5a6 =>
                intro W' hV
                try dsimp only at hV
                go_simp
                all_goals with_reducible rfl
              case' rest5a6 => try simp only [Act.put, List.setIfInBounds_toArray, List.set_cons_zero, List.set_cons_succ]
              refine wpAnyH_take (i := 6) (oi := { dst := some 100, op := Go.Op.load 23 (Go.Operand.tmp 99), type := 23, pos := "law.go:176", after := #[{ on := 5, ground := Go.Ground.data }], guard := none }) (v := ?v6a7) rfl (by kernel_rfl) (by kernel_rfl) (by kernel_rfl) (fun _ _ _ h => h) (Or.inl ⟨by rfl, ?hy6a7⟩) hHeld ?rest6a7
              case hy6a7 =>
                intro W' hV
                try dsimp only at hV
                have hcc := (World.cell?_of_block (w := U) (a := ⟨GO, a, none⟩) (gb_block hV HNE.out.1 HNE.out.2.1)).trans HCL.out
                go_simp
                all_goals with_reducible rfl
              case' rest6a7 => try simp only [Act.put, List.setIfInBounds_toArray, List.set_cons_zero, List.set_cons_succ]
              refine wpAnyH_take (i := 7) (oi := { dst := some 101, op := Go.Op.move (Go.Operand.tmp 16), type := 5, pos := "law.go:176", after := #[], guard := none }) (v := ?v7a8) rfl (by kernel_rfl) (by kernel_rfl) (by kernel_rfl) (fun _ _ _ h => h) (Or.inl ⟨by rfl, ?hy7a8⟩) hHeld ?rest7a8
              case hy7a8 =>
                intro W' hV
                try dsimp only at hV
                go_simp
                all_goals with_reducible rfl
              case' rest7a8 => try simp only [Act.put, List.setIfInBounds_toArray, List.set_cons_zero, List.set_cons_succ]
              refine wpAnyH_take (i := 8) (oi := { dst := some 102, op := Go.Op.convert 5 3 (Go.Operand.tmp 101), type := 3, pos := "law.go:176", after := #[{ on := 7, ground := Go.Ground.data }], guard := none }) (v := ?v8a9) rfl (by kernel_rfl) (by kernel_rfl) (by kernel_rfl) (fun _ _ _ h => h) (Or.inl ⟨by rfl, ?hy8a9⟩) hHeld ?rest8a9
              case hy8a9 =>
                intro W' hV
                try dsimp only at hV
                go_simp
                all_goals with_reducible rfl
              case' rest8a9 => try simp only [Act.put, List.setIfInBounds_toArray, List.set_cons_zero, List.set_cons_succ]
              refine wpAnyH_take (i := 9) (oi := { dst := some 103, op := Go.Op.move (Go.Operand.tmp 9), type := 3, pos := "law.go:176", after := #[], guard := none }) (v := ?v9a10) rfl (by kernel_rfl) (by kernel_rfl) (by kernel_rfl) (fun _ _ _ h => h) (Or.inl ⟨by rfl, ?hy9a10⟩) hHeld ?rest9a10
              case hy9a10 =>
                intro W' hV
                try dsimp only at hV
                go_simp
                all_goals with_reducible rfl
              case' rest9a10 => try simp only [Act.put, List.setIfInBounds_toArray, List.set_cons_zero, List.set_cons_succ]
              refine wpAnyH_take (i := 10) (oi := { dst := some 104, op := Go.Op.binOp Go.BinOp.quo 3 (Go.Operand.tmp 102) (Go.Operand.tmp 103) 3, type := 3, pos := "law.go:176", after := #[{ on := 8, ground := Go.Ground.data }, { on := 9, ground := Go.Ground.data }], guard := none }) (v := ?v10a11) rfl (by kernel_rfl) (by kernel_rfl) (by kernel_rfl) (fun _ _ _ h => h) (Or.inl ⟨by rfl, ?hy10a11⟩) hHeld ?rest10a11
              case hy10a11 =>
                intro W' hV
                try dsimp only at hV
                have k1 := K3.out
                have k2 := K4.out
                go_simp
                all_goals with_reducible rfl
              case' rest10a11 => try simp only [Act.put, List.setIfInBounds_toArray, List.set_cons_zero, List.set_cons_succ]
              refine wpAnyH_take (i := 11) (oi := { dst := some 105, op := Go.Op.move (Go.Operand.tmp 10), type := 3, pos := "law.go:176", after := #[], guard := none }) (v := ?v11a12) rfl (by kernel_rfl) (by kernel_rfl) (by kernel_rfl) (fun _ _ _ h => h) (Or.inl ⟨by rfl, ?hy11a12⟩) hHeld ?rest11a12
              case hy11a12 =>
                intro W' hV
                try dsimp only at hV
                go_simp
                all_goals with_reducible rfl
              case' rest11a12 => try simp only [Act.put, List.setIfInBounds_toArray, List.set_cons_zero, List.set_cons_succ]
              refine wpAnyH_take (i := 12) (oi := { dst := some 106, op := Go.Op.binOp Go.BinOp.rem 3 (Go.Operand.tmp 104) (Go.Operand.tmp 105) 3, type := 3, pos := "law.go:176", after := #[{ on := 10, ground := Go.Ground.data }, { on := 11, ground := Go.Ground.data }], guard := none }) (v := ?v12a13) rfl (by kernel_rfl) (by kernel_rfl) (by kernel_rfl) (fun _ _ _ h => h) (Or.inl ⟨by rfl, ?hy12a13⟩) hHeld ?rest12a13
              case hy12a13 =>
                intro W' hV
                try dsimp only at hV
                have k1 := K5.out
                have k2 := K6.out
                go_simp
                all_goals with_reducible rfl
              case' rest12a13 => try simp only [Act.put, List.setIfInBounds_toArray, List.set_cons_zero, List.set_cons_succ]
              refine wpAnyH_take (i := 13) (oi := { dst := some 107, op := Go.Op.indexAddr 23 (Go.Operand.tmp 100) (Go.Operand.tmp 106), type := 0, pos := "law.go:176", after := #[{ on := 6, ground := Go.Ground.data }, { on := 12, ground := Go.Ground.data }], guard := none }) (v := ?v13a14) rfl (by kernel_rfl) (by kernel_rfl) (by kernel_rfl) (fun _ _ _ h => h) (Or.inl ⟨by rfl, ?hy13a14⟩) hHeld ?rest13a14
              case hy13a14 =>
                intro W' hV
                try dsimp only at hV
                go_simp
                all_goals with_reducible rfl
              case' rest13a14 => try simp only [Act.put, List.setIfInBounds_toArray, List.set_cons_zero, List.set_cons_succ]
              refine wpAnyH_take (i := 15) (oi := { dst := some 109, op := Go.Op.move (Go.Operand.tmp 2), type := 23, pos := "law.go:176", after := #[], guard := none }) (v := ?v15a15) rfl (by kernel_rfl) (by kernel_rfl) (by kernel_rfl) (fun _ _ _ h => h) (Or.inl ⟨by rfl, ?hy15a15⟩) hHeld ?rest15a15
              case hy15a15 =>
                intro W' hV
                try dsimp only at hV
                go_simp
                all_goals with_reducible rfl
              case' rest15a15 => try simp only [Act.put, List.setIfInBounds_toArray, List.set_cons_zero, List.set_cons_succ]
              refine wpAnyH_take (i := 16) (oi := { dst := some 110, op := Go.Op.move (Go.Operand.tmp 15), type := 3, pos := "law.go:176", after := #[], guard := none }) (v := ?v16a16) rfl (by kernel_rfl) (by kernel_rfl) (by kernel_rfl) (fun _ _ _ h => h) (Or.inl ⟨by rfl, ?hy16a16⟩) hHeld ?rest16a16
              case hy16a16 =>
                intro W' hV
                try dsimp only at hV
                go_simp
                all_goals with_reducible rfl
              case' rest16a16 => try simp only [Act.put, List.setIfInBounds_toArray, List.set_cons_zero, List.set_cons_succ]
              refine wpAnyH_take (i := 17) (oi := { dst := some 111, op := Go.Op.indexAddr 23 (Go.Operand.tmp 109) (Go.Operand.tmp 110), type := 0, pos := "law.go:176", after := #[{ on := 15, ground := Go.Ground.data }, { on := 16, ground := Go.Ground.data }], guard := none }) (v := ?v17a17) rfl (by kernel_rfl) (by kernel_rfl) (by kernel_rfl) (fun _ _ _ h => h) (Or.inl ⟨by rfl, ?hy17a17⟩) hHeld ?rest17a17
              case hy17a17 =>
                intro W' hV
                try dsimp only at hV
                go_simp
                all_goals with_reducible rfl
              case' rest17a17 => try simp only [Act.put, List.setIfInBounds_toArray, List.set_cons_zero, List.set_cons_succ]
              refine wpAnyH_take (i := 18) (oi := { dst := some 112, op := Go.Op.load 5 (Go.Operand.tmp 111), type := 5, pos := "law.go:176", after := #[{ on := 17, ground := Go.Ground.data }], guard := none }) (v := ?v18a18) rfl (by kernel_rfl) (by kernel_rfl) (by kernel_rfl) (fun _ _ _ h => h) (Or.inl ⟨by rfl, ?hy18a18⟩) hHeld ?rest18a18
              case hy18a18 =>
                intro W' hV
                try dsimp only at hV
                have hcc := (World.cell?_of_block (w := U) (a := ⟨bb, ob + j, none⟩) (gb_block hV HNE.out.2.2.1 HNE.out.2.2.2)).trans HCB.out
                go_simp
                all_goals with_reducible rfl
              case' rest18a18 => try simp only [Act.put, List.setIfInBounds_toArray, List.set_cons_zero, List.set_cons_succ]
              refine wpAnyH_ready (rs := [14]) (by kernel_rfl) (by simp) ?_
              refine AllReadyH.cons (o := { dst := some 108, op := Go.Op.load 5 (Go.Operand.tmp 107), type := 5, pos := "law.go:176", after := #[{ on := 13, ground := Go.Ground.data }], guard := none }) rfl (fun K' hK => ?_) AllReadyH.nil
              rw [if_pos (by rfl)]
              have hcd : U.drew.cell? ⟨ga, c, none⟩ = some (.int .u8 (toI (co (Q a) c))) := hcg
              go_simp
              clear hcd
              refine hK.out _ _ hHeld (fun hHeld1 => ?_)
              clear hK K' hHeld
              have hHeld := hHeld1
              clear hHeld1
              try simp only [Act.put, List.setIfInBounds_toArray, List.set_cons_zero, List.set_cons_succ]
              refine wpAnyH_take (i := 19) (oi := { dst := some 113, op := Go.Op.binOp Go.BinOp.xor 5 (Go.Operand.tmp 108) (Go.Operand.tmp 112) 5, type := 5, pos := "law.go:176", after := #[{ on := 14, ground := Go.Ground.data }, { on := 18, ground := Go.Ground.data }], guard := none }) (v := ?v19a19) rfl (by kernel_rfl) (by kernel_rfl) (by kernel_rfl) (fun _ _ _ h => h) (Or.inl ⟨by rfl, ?hy19a19⟩) hHeld ?rest19a19
              case hy19a19 =>
                intro W' hV
                try dsimp only at hV
                go_simp
                all_goals with_reducible rfl
              case' rest19a19 => try simp only [Act.put, List.setIfInBounds_toArray, List.set_cons_zero, List.set_cons_succ]
              refine wpAnyH_take (i := 20) (oi := { dst := some 114, op := Go.Op.indexAddr 23 (Go.Operand.tmp 100) (Go.Operand.tmp 106), type := 0, pos := "law.go:176", after := #[{ on := 6, ground := Go.Ground.data }, { on := 12, ground := Go.Ground.data }, { on := 0, ground := Go.Ground.phase }, { on := 1, ground := Go.Ground.phase }, { on := 2, ground := Go.Ground.phase }, { on := 3, ground := Go.Ground.phase }, { on := 4, ground := Go.Ground.phase }, { on := 5, ground := Go.Ground.phase }, { on := 6, ground := Go.Ground.phase }, { on := 7, ground := Go.Ground.phase }, { on := 8, ground := Go.Ground.phase }, { on := 9, ground := Go.Ground.phase }, { on := 10, ground := Go.Ground.phase }, { on := 11, ground := Go.Ground.phase }, { on := 12, ground := Go.Ground.phase }, { on := 13, ground := Go.Ground.phase }, { on := 14, ground := Go.Ground.phase }, { on := 15, ground := Go.Ground.phase }, { on := 16, ground := Go.Ground.phase }, { on := 17, ground := Go.Ground.phase }, { on := 18, ground := Go.Ground.phase }, { on := 19, ground := Go.Ground.phase }], guard := none }) (v := ?v20a20) rfl (by kernel_rfl) (by kernel_rfl) (by kernel_rfl) (fun _ _ _ h => h) (Or.inl ⟨by rfl, ?hy20a20⟩) hHeld ?rest20a20
              case hy20a20 =>
                intro W' hV
                try dsimp only at hV
                go_simp
                all_goals with_reducible rfl
              case' rest20a20 => try simp only [Act.put, List.setIfInBounds_toArray, List.set_cons_zero, List.set_cons_succ]
              refine wpAnyH_ready (rs := [21]) (by kernel_rfl) (by simp) ?_
              refine AllReadyH.cons (o := { dst := none, op := Go.Op.store 5 (Go.Operand.tmp 114) (Go.Operand.tmp 113), type := 0, pos := "law.go:176", after := #[{ on := 20, ground := Go.Ground.data }, { on := 19, ground := Go.Ground.data }, { on := 0, ground := Go.Ground.phase }, { on := 1, ground := Go.Ground.phase }, { on := 2, ground := Go.Ground.phase }, { on := 3, ground := Go.Ground.phase }, { on := 4, ground := Go.Ground.phase }, { on := 5, ground := Go.Ground.phase }, { on := 6, ground := Go.Ground.phase }, { on := 7, ground := Go.Ground.phase }, { on := 8, ground := Go.Ground.phase }, { on := 9, ground := Go.Ground.phase }, { on := 10, ground := Go.Ground.phase }, { on := 11, ground := Go.Ground.phase }, { on := 12, ground := Go.Ground.phase }, { on := 13, ground := Go.Ground.phase }, { on := 14, ground := Go.Ground.phase }, { on := 15, ground := Go.Ground.phase }, { on := 16, ground := Go.Ground.phase }, { on := 17, ground := Go.Ground.phase }, { on := 18, ground := Go.Ground.phase }, { on := 19, ground := Go.Ground.phase }], guard := none }) rfl (fun K' hK => ?_) AllReadyH.nil
              rw [if_pos (by rfl)]
              have hfd : U.drew.frozen? ⟨ga, c, none⟩ = false := hfz
              have hcd : U.drew.cell? ⟨ga, c, none⟩ = some (.int .u8 (toI (co (Q a) c))) := hcg
              go_simp
              clear hfd hcd
              refine hK.out _ _ (gb_trans hHeld (gb_set _ _ _ _)) (fun hHeld1 => ?_)
              clear hK K' hHeld
              have hHeld := hHeld1
              clear hHeld1
              try simp only [Act.put, List.setIfInBounds_toArray, List.set_cons_zero, List.set_cons_succ]
              refine wpAnyH_done (by kernel_rfl) ?_ _
              clear hHeld
              go_wp2
              go_roundw
              case rel => exact ⟨j + 1, _, by have := HJ.out; omega, by go_num, Lib.hid (own_belowV HO9.out ((Below.refl _ _).drew)), Lib.hid (HR9.out.on ((Below.refl _ _).drew)), Lib.hid HB9.out.drew⟩
              case measure => simp [intOf]; have := HJ.out; omega
          · have qb : ¬ (j : Int) < (lB : Int) := by omega
            clear hB
            go_wp2
            go_roundw
            case rel => exact ⟨j + 1, Q, by have := HJ.out; omega, by go_num, UO, UR, UB⟩
            case measure => simp [intOf]; have := HJ.out; omega
        · obtain rfl : lW = j := by omega
          clear hlt hj
          obtain ⟨a9, c9, e9, hmq⟩ := Mat.own UO.out UR.out.rv
          cases e9
          obtain ⟨R, hR⟩ : ∃ R, R = listQ Q t := ⟨_, rfl⟩
          rw [← hR] at hmq
          have HRL := Lib.hid (show R.length = t from by rw [hR]; exact listQ_len _ _)
          have HRW := Lib.hid (fun k (hk : k < t) => show (rw_ R k).length = n from by rw [hR, listQ_row hk]; exact UR.out.width hk)
          have HMQ := Lib.hid hmq
          have HMP := Lib.hid (HP.out.on HBU.out)
          clear hmq hR UO UR UB HRR HOO HBV HQ0
          go_upto_region 23 with (first
            | (go_at_call 10; go_loud (refine (new_any _).mono ?_; rintro e w4 ⟨b, rfl, hb0, hf, hb4⟩; have HF4 := Lib.hid hf; have HB4 := Lib.hid (bt HBU.out hb4); have HMP4 := Lib.hid (HMP.out.on hb4); have HMQ4 := Lib.hid (HMQ.out.on hb4); have HE1 := Lib.hid (HE.out b t N n _ _ P w4 hf HMP4.out HT.out.1 HNT.out.1 (by have := HNT.out; omega) HONE.out (by have := HN.out; omega)); clear hf hb0 hb4))
            | (go_at_call 11; go_loud ((with_reducible refine HE1.out.mono ?_); rintro e w5 ⟨a5, c5, rfl, hm5, hb5⟩; have HMA5 := Lib.hid hm5.mat; have HB5 := Lib.hid (bt HB4.out hb5); have HMP5 := Lib.hid (HMP4.out.on hb5); have HMQ5 := Lib.hid (HMQ4.out.on hb5); have HE2 := Lib.hid (HE.out b t N n _ _ R w5 (HF4.out.below hb5) HMQ5.out HT.out.1 HNT.out.1 (by have := HNT.out; omega) HRW.out (by have := HN.out; omega)); clear hm5 hb5))
            | (go_at_call 11; go_loud ((with_reducible refine HE2.out.mono ?_); rintro e w6 ⟨a6, c6, rfl, hm6, hb6⟩; have HMB := Lib.hid hm6.mat; have HMA := Lib.hid (HMA5.out.on hb6); have HB6 := Lib.hid (bt HB5.out hb6); have HMP6 := Lib.hid (HMP5.out.on hb6); have HMQ6 := Lib.hid (HMQ5.out.on hb6); clear hm6 hb6)))
          clear HE1 HE2 HMP HMP4 HMP5 HMQ HMQ4 HMQ5 HMA5 HB4 HB5 HF4 HBU
          have hba := HMA.out.bd
          have hbb2 := HMB.out.bd
          have hbq := HMQ6.out.bd
          go_loopw [138] (fun s wr => ∃ k : Nat, k ≤ n ∧ s = .int .i64 (k : Nat) ∧ Hid (Below w6.heap.size w6 wr)) (fun s _ => n - (intOf s).toNat)
          case atStart => exact ⟨0, by omega, rfl, Lib.hid (Below.refl _ _)⟩
          case round =>
            obtain ⟨k, hk, rfl, HB67⟩ := hrel
            rename World => w7
            by_cases hlt : k < n
            · have qk : (k : Int) < (n : Int) := by omega
              have qk0 : (0 : Int) ≤ (k : Int) := by omega
              have HKN := Lib.hid hlt
              clear hlt hk
              go_upto_region 27 with fail
              go_loopw [143, 23] (fun s z wr => ∃ i : Nat, i ≤ t ∧ s = .int .i64 (i : Nat) ∧ z = .bool (uqA P R k i) ∧ Hid (Below w6.heap.size w6 wr)) (fun s _ _ => t - (intOf s).toNat)
              case atStart => exact ⟨0, by omega, rfl, by rw [uqA_zero], HB67⟩
              case round =>
                obtain ⟨i, hi, rfl, rfl, HB68⟩ := hrel
                rename World => w8
                by_cases hlt : i < t
                · have qi : (i : Int) < (t : Int) := by omega
                  have qi0 : (0 : Int) ≤ (i : Int) := by omega
                  have HIT := Lib.hid hlt
                  have HNX := Lib.hid (uqA_next P R k i)
                  cases hv : uqA P R k i with
                  | true =>
                    have HV := Lib.hid (show uqA P R k (i + 1) = true from by rw [HNX.out, hv]; rfl)
                    clear hv hlt hi
                    go_wp2_with fail
                    go_quiet (fail)
                    go_wp2
                    go_roundw
                    case rel => exact ⟨i + 1, by have := HIT.out; omega, by go_num, by rw [HV.out], Lib.hid (below_drewN HB68.out _)⟩
                    case measure => simp [intOf]; have := HIT.out; omega
                  | false =>
                    obtain ⟨b1, o1, a1, c1, e1, hb1, hc1, hp1⟩ := (HMP6.out.on HB68.out).row hlt
                    cases e1
                    rw [HONE.out i hlt] at hc1 hp1
                    obtain ⟨bp, op, rfl, hbp, hcp⟩ := hp1.at_ HKN.out
                    obtain ⟨b2, o2, a2, c2, e2, hb2, hc2, hp2⟩ := (HMQ6.out.on HB68.out).row hlt
                    cases e2
                    rw [HRW.out i hlt] at hc2 hp2
                    obtain ⟨bq, oq, rfl, hbq2, hcq⟩ := hp2.at_ HKN.out
                    rw [Nat.zero_add] at hc2
                    have hn1 := hp1.bd
                    have hn2 := hp2.bd
                    have d1 : ∀ m, (w8.drewN m).cell? ⟨b0, o0 + i, none⟩ = some (.slice (some ⟨bp, op, none⟩) n c1) := fun m => hc1
                    have d2 : ∀ m, (w8.drewN m).cell? ⟨GO, i, none⟩ = some (.slice (some ⟨bq, oq, none⟩) n c2) := fun m => hc2
                    have d3 : ∀ m, (w8.drewN m).cell? ⟨bp, op + k, none⟩ = some (.int .u8 (toI (co (rw_ P i) k))) := fun m => hcp
                    have d4 : ∀ m, (w8.drewN m).cell? ⟨bq, oq + k, none⟩ = some (.int .u8 (toI (co (rw_ R i) k))) := fun m => hcq
                    clear hp1 hp2 hb1 hb2 hbp hbq2 hc1 hc2 hcp hcq
                    by_cases hee : co (rw_ P i) k = co (rw_ R i) k
                    · have HV := Lib.hid (show uqA P R k (i + 1) = false from by rw [HNX.out, hv, hee]; simp)
                      rw [← hee] at d4
                      obtain ⟨z, hz⟩ : ∃ z, z = toI (co (rw_ P i) k) := ⟨_, rfl⟩
                      rw [← hz] at d3 d4
                      have qz : (z != z) = false := by simp
                      clear hv hlt hi hee hz
                      go_wp2_with fail
                      go_quiet (fail)
                      go_wp2
                      go_roundw
                      case rel => exact ⟨i + 1, by have := HIT.out; omega, by go_num, by rw [HV.out], Lib.hid (below_drewN HB68.out _)⟩
                      case measure => simp [intOf]; have := HIT.out; omega
                    · have HV := Lib.hid (show uqA P R k (i + 1) = true from by rw [HNX.out]; simp [hee])
                      have qz : (toI (co (rw_ P i) k) != toI (co (rw_ R i) k)) = true := by rw [bne_iff_ne]; exact fun e => hee (toI_inj e)
                      clear hv hlt hi hee
                      go_wp2_with fail
                      go_quiet (fail)
                      go_wp2
                      go_roundw
                      case rel => exact ⟨i + 1, by have := HIT.out; omega, by go_num, by rw [HV.out], Lib.hid (below_drewN HB68.out _)⟩
                      case measure => simp [intOf]; have := HIT.out; omega
                · obtain rfl : t = i := by omega
                  clear hlt hi
                  go_upto_region 32 with fail
                  go_loopw [167, 24] (fun s z wr => ∃ i : Nat, i ≤ N ∧ s = .int .i64 (i : Nat) ∧ z = .int .i64 (cnS (eqS P R n k) i : Nat) ∧ Hid (Below w6.heap.size w6 wr)) (fun s _ _ => N - (intOf s).toNat)
                  case atStart => exact ⟨0, by omega, rfl, rfl, HB68⟩
                  case round =>
                    obtain ⟨i, hi, rfl, rfl, HB69⟩ := hrel
                    rename World => w9
                    have hcn := cnS_le (eqS P R n k) i
                    have HNX := Lib.hid (cnS_next (eqS P R n k) i)
                    by_cases hlt : i < N
                    · have qi : (i : Int) < (N : Int) := by omega
                      have qi0 : (0 : Int) ≤ (i : Int) := by omega
                      have HIT := Lib.hid hlt
                      obtain ⟨b1, o1, a1, c1, rfl, hb1, hc1, hp1⟩ := (HMA.out.on HB69.out).row hlt
                      rw [encM_row hlt, pcR_len] at hc1 hp1
                      obtain ⟨bp, op, rfl, hbp, hcp⟩ := hp1.at_ HKN.out
                      obtain ⟨b2, o2, a2, c2, rfl, hb2, hc2, hp2⟩ := (HMB.out.on HB69.out).row hlt
                      rw [encM_row hlt, pcR_len] at hc2 hp2
                      obtain ⟨bq, oq, rfl, hbq2, hcq⟩ := hp2.at_ HKN.out
                      have hn1 := hp1.bd
                      have hn2 := hp2.bd
                      have d1 : ∀ m, (w9.drewN m).cell? ⟨b1, o1 + i, none⟩ = some (.slice (some ⟨bp, op, none⟩) n c1) := fun m => hc1
                      have d2 : ∀ m, (w9.drewN m).cell? ⟨b2, o2 + i, none⟩ = some (.slice (some ⟨bq, oq, none⟩) n c2) := fun m => hc2
                      obtain ⟨x, hx⟩ : ∃ x, x = co (pcR P n (pl (i + 1))) k := ⟨_, rfl⟩
                      obtain ⟨y, hy⟩ : ∃ y, y = co (pcR R n (pl (i + 1))) k := ⟨_, rfl⟩
                      rw [← hx] at hcp
                      rw [← hy] at hcq
                      have d3 : ∀ m, (w9.drewN m).cell? ⟨bp, op + k, none⟩ = some (.int .u8 (toI x)) := fun m => hcp
                      have d4 : ∀ m, (w9.drewN m).cell? ⟨bq, oq + k, none⟩ = some (.int .u8 (toI y)) := fun m => hcq
                      clear hp1 hp2 hb1 hb2 hbp hbq2 hc1 hc2 hcp hcq
                      obtain ⟨z, hz⟩ : ∃ z, z = cnS (eqS P R n k) i := ⟨_, rfl⟩
                      rw [← hz] at hcn HNX ⊢
                      have HZ := Lib.hid hz
                      by_cases hee : x = y
                      · have HV := Lib.hid (show cnS (eqS P R n k) (i + 1) = z + 1 from by rw [HNX.out, show eqS P R n k i = true from decide_eq_true (by rw [← hx, ← hy]; exact hee)]; rfl)
                        rw [← hee] at d4
                        have qz : (toI x == toI x) = true := by simp
                        clear hlt hi hee hx hy hz
                        go_wp2_with fail
                        go_quiet (fail)
                        go_wp2
                        go_roundw
                        case rel => exact ⟨i + 1, by have := HIT.out; omega, by go_num, by rw [HV.out]; go_num, Lib.hid (below_drewN HB69.out _)⟩
                        case measure => simp [intOf]; have := HIT.out; omega
                      · have HV := Lib.hid (show cnS (eqS P R n k) (i + 1) = z from by rw [HNX.out, show eqS P R n k i = false from decide_eq_false (by rw [← hx, ← hy]; exact hee)]; rfl)
                        have qz : (toI x == toI y) = false := by rw [beq_eq_false_iff_ne]; exact fun e => hee (toI_inj e)
                        clear hlt hi hee hx hy hz
                        go_wp2_with fail
                        go_quiet (fail)
                        go_wp2
                        go_roundw
                        case rel => exact ⟨i + 1, by have := HIT.out; omega, by go_num, by rw [HV.out], Lib.hid (below_drewN HB69.out _)⟩
                        case measure => simp [intOf]; have := HIT.out; omega
                    · obtain rfl : N = i := by omega
                      cases hv : uqA P R k t with
                      | true =>
                        have hno := apart_no (P := P) (Q := R) (n := n) (N := N) (k := k) (by rw [HPL.out]; have := HT.out; omega) (by rw [HRL.out, HPL.out]) (by have := HNT.out; omega) HKN.out (by rw [HPL.out]; exact hv)
                        rw [HPL.out] at hno
                        obtain ⟨z, hz⟩ : ∃ z, z = cnS (eqS P R n k) N := ⟨_, rfl⟩
                        rw [← hz] at hno hcn ⊢
                        have q9 : ¬ (t : Int) ≤ (z : Int) := by omega
                        clear hv hlt hi hz HNX
                        go_wp2
                        go_roundw
                        case rel => exact ⟨k + 1, by have := HKN.out; omega, by go_num, HB69⟩
                        case measure => simp [intOf]; have := HKN.out; omega
                      | false =>
                        have hal := apart_all (P := P) (Q := R) (n := n) (N := N) (k := k) (by rw [HRL.out, HPL.out]) HKN.out (by rw [HPL.out]; exact hv)
                        rw [hal]
                        have q9 : ((N : Int) != (N : Int)) = false := by simp
                        clear hv hlt hi hal hcn HNX
                        go_wp2
                        go_roundw
                        case rel => exact ⟨k + 1, by have := HKN.out; omega, by go_num, HB69⟩
                        case measure => simp [intOf]; have := HKN.out; omega
            · obtain rfl : n = k := by omega
              have HBF := Lib.hid (bt HB6.out HB67.out)
              clear hlt hk
              go_wp2
              go_ret
              exact ⟨rfl, HBF.out⟩
end Go.Proofs.Ytmhjpdppippgkaa
