/- ShamirHides' walk. -/
import Derived.Test.YtmhknggjpggagaaTf
import Derived.StillTailTactics
import Derived.Deep.QuietTactic
import Derived.Deep.RegionWith
namespace Go.Proofs.Ytmhknggjpggagaa
open Go.ChangeShapes Go.WideShapes Go.ChangeAt Go.RowKit Go.Shelf GF
set_option linter.unusedVariables false
set_option linter.unusedSimpArgs false
set_option maxRecDepth 100000

set_option maxHeartbeats 4000000 in
theorem shamirHides_core (t u : Int) (hu : (Lit.int .i64 u).wf = true) (aS : Option Addr) (n cS : Nat) (S : List GF) (aO : Option Addr) (lO cO : Nat) (O : List GF) (aM : Option Addr) (lM cM : Nat) (M : List GF) (aX : Option Addr) (lX cX : Nat) (X : List GF) (w : World)
    (hS : Pa w aS n cS S) (hO : Pa w aO lO cO O) (hM : Pa w aM lM cM M) (hX : Pa w aX lX cX X) (hn : n ≤ 8) :
    Calls Try.prog 7 #[.int .i64 t, .slice aS n cS, .slice aO lO cO, .slice aM lM cM, .slice aX lX cX, .int .i64 u] w fun e w' => e = .returned (.bool true) ∧ Below w.heap.size w w' := by
  obtain ⟨i5, hi, hz0, hz1, hz2⟩ := info_parts info5
  have HI := Lib.hid (And.intro hi (And.intro hz0 (And.intro hz1 hz2)))
  have HL8 := Lib.hid lives_true
  have HS := Lib.hid hS
  have HO := Lib.hid hO
  have HM := Lib.hid hM
  have HX := Lib.hid hX
  have HN := Lib.hid hn
  have HU := Lib.hid hu
  have qn : (n : Int) ≤ 8 := by omega
  clear hS hO hM hX hn hu hi hz0 hz1 hz2
  go_enter Try.func7, Try.ntmps7
  go_upto_region 3 with (go_at_call 8; go_loud ((with_reducible refine (HL8.out w).mono ?_); rintro e w1 ⟨rfl, hb⟩; have HB1 := Lib.hid hb; clear hb))
  go_upto_region 4 with fail
  obtain ⟨q, hq, hq8⟩ := mod_of t 8 (by omega)
  obtain ⟨m, hm⟩ : ∃ m, m = q * n := ⟨_, rfl⟩
  have hm56 : m ≤ 56 := by rw [hm]; exact Nat.le_trans (Nat.mul_le_mul (show q ≤ 7 by omega) HN.out) (by omega)
  have HQM := Lib.hid hm
  have HM56 := Lib.hid hm56
  have qm : (q : Int) * (n : Int) = (m : Int) := by rw [hm]; rfl
  obtain ⟨T, hT⟩ : ∃ T, T = q + 1 := ⟨_, rfl⟩
  have HQ := Lib.hid (show q < 8 ∧ T = q + 1 from ⟨by omega, hT⟩)
  have w1q : wrap64 (q : Int) = (q : Int) := by unfold wrap64; omega
  have w2q : wrap64 (1 + (q : Int)) = (T : Int) := by unfold wrap64; omega
  rw [hq, w1q, w2q]
  clear hq w1q w2q
  have qT1 : (T : Int) - 1 = (q : Int) := by omega
  have qT3 : (T : Int) ≤ 8 := by omega
  have qm3 : (m : Int) ≤ 56 := by omega
  clear hm hm56 hT hq8
  have HMd1 := Lib.hid (made_any aO lO cO O n w1 (HO.out.on HB1.out) (by have := HN.out; omega))
  go_upto_region 8 with (first
    | (go_at_call 9; (with_reducible refine HMd1.out.mono ?_); rintro e w2 ⟨g2, rfl, hk2, hb2⟩; have HK2 := Lib.hid hk2; have HB2 := Lib.hid (bt HB1.out hb2); have HMd2 := Lib.hid (made_any aM lM cM M m w2 (HM.out.on HB2.out) (by have := HM56.out; omega)); clear hk2 hb2)
    | (go_at_call 9; (with_reducible refine HMd2.out.mono ?_); rintro e w3 ⟨g3, rfl, hk3, hb3⟩; have HK3 := Lib.hid hk3; have HB3 := Lib.hid (bt HB2.out hb3); have HK23 := Lib.hid (HK2.out.on hb3); have HUN := Lib.hid (unlike8_any aX lX cX X q w3 (HX.out.on HB3.out) (by have := HQ.out; omega)); clear hk3 hb3)
    | (go_at_call 10; go_loud ((with_reducible refine HUN.out.mono ?_); rintro e w5 ⟨aU, cU, U, rfl, hpU, hgU, hlU, hnU, hb5⟩; have HPU := Lib.hid hpU; have HGU := Lib.hid hgU; have HLU := Lib.hid hlU; have HB5 := Lib.hid (bt HB3.out hb5); have HK25 := Lib.hid (HK23.out.on hb5); have HK35 := Lib.hid (HK3.out.on hb5); clear hpU hgU hlU hnU hb5))
    | (go_at_call 11; go_loud (refine (new_any _).mono ?_; rintro e w6 ⟨b, rfl, hb0, hf, hb6⟩; have HF6 := Lib.hid hf; have HB6 := Lib.hid (bt HB5.out hb6); have HK26 := Lib.hid (HK25.out.on hb6); have HK36 := Lib.hid (HK35.out.on hb6); have HPU6 := Lib.hid (HPU.out.on hb6); clear hf hb0 hb6)))
  have HVA := Lib.hid (vanish_any b aU q cU U w6 HF6.out HPU6.out (by have := HQ.out; omega))
  rw [← HQ.out.2] at HVA
  clear HMd1 HMd2 HUN HK2 HK3 HK23 HK25 HK35 HPU HB2 HB3 HB5 HB1
  go_upto_region 9 with (go_at_call 22; go_loud ((with_reducible refine HVA.out.mono ?_); rintro e w7 ⟨gV, rfl, hoV, hb7⟩; have HPV := Lib.hid (Pa.own2 hoV); have HB7 := Lib.hid (bt HB6.out hb7); have HF7 := Lib.hid (HF6.out.below hb7); have HK27 := Lib.hid (HK26.out.on hb7); have HK37 := Lib.hid (HK36.out.on hb7); have HPU7 := Lib.hid (HPU6.out.on hb7); clear hoV hb7))
  clear HVA HF6 HK26 HK36 HPU6 HB6
  have HPLE := Lib.hid (show plErr (0 :: U) = 0 from (apart_cons HGU.out.1 HGU.out.2.1).resolve_right (by rw [HLU.out]; have := HQ.out; omega))
  have HOZ := Lib.hid (own_oneG w7 5 (0 : GF))
  have HBZ := Lib.hid (show Below w7.heap.size w7 (w7.alloc (.cells #[.int .u8 0] 5)) from (Below.refl _ _).alloc (Nat.le_refl _) _)
  have HUB := Lib.hid HPU7.out.bd
  go_upto_region 10 with (first
    | ((with_reducible show wpList _ _ _ (⟨some 73, _, _, _, _, _⟩ :: _) _ _); go_loud (refine wpList_append_bs _ rfl (.tmp 71) (.tmp 72) 22 rfl w7.heap.size 5 i5 Try.underlying22 HI.out.1 HI.out.2.1 HI.out.2.2.1 HI.out.2.2.2 _ 1 (iL [(0 : GF)]) rfl HOZ.out aU q cU _ (iL U) rfl (HPU7.out.on HBZ.out).1.2.2.1 HPU7.out.1.1 HPU7.out.2 (by have := HQ.out; omega) (by simp) ?_; intro v8 w8 hown8 hg8; have hb8 := HBZ.out.grown hg8 (by simp) (own_block_le _ _ _); obtain ⟨aP, cP, hv8, hp8, -⟩ := Pa.own (P := (0 : GF) :: U) (by rw [show (1 + q) = T by rw [HQ.out.2, Nat.add_comm], ← show iL ((0 : GF) :: U) = iL [(0 : GF)] ++ iL U from rfl] at hown8; exact hown8); subst hv8; have HP8 := Lib.hid hp8; have HB78 := Lib.hid hb8; have HWT := Lib.hid (weights_at0 b aP T cP ((0 : GF) :: U) w8 (HF7.out.below hb8) hp8 HPLE.out); clear hown8 hg8 hb8 hp8); simp only [Act.put, List.setIfInBounds_toArray, List.set_cons_zero, List.set_cons_succ])
    | (go_at_call 23; go_loud ((with_reducible refine HWT.out.mono ?_); rintro e w9 ⟨gT, rfl, hoT, hb9⟩; have HB79 := Lib.hid (bt HB78.out hb9); clear hoT hb9)))
  have HPV9 := Lib.hid (HPV.out.on HB79.out)
  have HF9 := Lib.hid (HF7.out.below HB79.out)
  have HK29 := Lib.hid (HK27.out.on HB79.out)
  have HK39 := Lib.hid (HK37.out.on HB79.out)
  have HPU9 := Lib.hid (HPU7.out.on HB79.out)
  have HB9 := Lib.hid (bt HB7.out HB79.out)
  clear HPV HF7 HK27 HK37 HPU7 HB7 HB78 HB79 HBZ HOZ HP8 HWT HPLE
  have HV0 := Lib.hid (van_zero HLU.out (fun k hk => gath_co HGU.out (by rw [HLU.out]; exact hk)))
  have HIN := Lib.hid (inv_GV b (co (vanA U q) 0) w9 HF9.out HV0.out)
  obtain ⟨bV, oV, eV, hbV, hcV⟩ := HPV9.out.at_ (k := 0) (by have := HQ.out; omega)
  cases eV
  rw [Nat.add_zero] at hcV
  have qT0 : (0 : Int) < (T : Int) := by have := HQ.out; omega
  have qTT : ((T : Int) != (T : Int)) = false := by simp
  have qcV : T ≤ T := Nat.le_refl _
  go_upto_region 11 with (go_at_call 24; go_loud ((with_reducible refine HIN.out.mono ?_); rintro e w' ⟨rfl, rfl⟩))
  clear hcV
  have HOE := Lib.hid (own_empty w9 5)
  have HBE := Lib.hid (show Below w9.heap.size w9 (w9.alloc (.cells #[] 5)) from (Below.refl _ _).alloc (Nat.le_refl _) _)
  go_upto_region 15 with ((with_reducible show wpList _ _ _ (⟨some 95, _, _, _, _, _⟩ :: _) _ _); go_loud (refine wpList_append_bs _ rfl (.tmp 93) (.tmp 94) 22 rfl w9.heap.size 5 i5 Try.underlying22 HI.out.1 HI.out.2.1 HI.out.2.2.1 HI.out.2.2.2 _ 0 (iL ([] : List GF)) rfl HOE.out (some ⟨g3, 0, none⟩) m m _ (iL (padM M m)) rfl (HK39.out.on HBE.out).1.2.2.1 HK39.out.1.1 HK39.out.2 (by have := HM56.out; omega) (by simp) ?_; intro v10 w10 hown10 hg10; have hb10 := HBE.out.grown hg10 (by simp) (own_block_le _ _ _); rw [Nat.zero_add, show iL ([] : List GF) ++ iL (padM M m) = iL (padM M m) from rfl] at hown10; obtain ⟨aW, cW, hv10, hp10, hlo10⟩ := Pa.own hown10; subst hv10; have HOW := Lib.hid hown10; have HB10 := Lib.hid hb10; have HLO := Lib.hid hlo10; clear hown10 hg10 hb10 hp10 hlo10); simp only [Act.put, List.setIfInBounds_toArray, List.set_cons_zero, List.set_cons_succ])
  have HS9 := Lib.hid (HS.out.on HB9.out)
  have HPL := Lib.hid (show (padM M m).length = q * n by rw [padM_len]; exact HQM.out)
  have HBW := Lib.hid (bt HB9.out HB10.out)
  obtain ⟨V, hV⟩ : ∃ V, V = vanA U q := ⟨_, rfl⟩
  obtain ⟨O', hO'⟩ : ∃ O', O' = padM O n := ⟨_, rfl⟩
  obtain ⟨M', hM'⟩ : ∃ M', M' = padM M m := ⟨_, rfl⟩
  rw [← hV] at HPV9 HV0 ⊢
  rw [← hO'] at HK29
  rw [← hM'] at HK39 HOW HPL
  have HVE := Lib.hid hV; have HOE' := Lib.hid hO'; have HME := Lib.hid hM'
  obtain ⟨z, hz⟩ : ∃ z, z = GF.inv (co V 0) := ⟨_, rfl⟩
  rw [← hz]
  have HZ := Lib.hid hz
  have HST : Hid (w10.ownsRow w9.heap.size 5 1 (.slice aW m cW) m ((iL (hdP n S O' V M' 0 1)).map (Value.int .u8))) := by rw [hdP_start]; exact HOW
  have HOC := Lib.hid (show m ≤ cW ∧ cW ≤ 9223372036854775807 from (by
    rcases HOW.out.2 with ⟨e, h0⟩ | ⟨g, c, cur, e, _, _, h4, h5, _⟩
    · cases e; omega
    · cases e; exact ⟨h4, by unfold maxLen at h5; omega⟩))
  clear hV hO' hM' hz HOW HOE HBE HIN HU
  go_loopw [97] (fun j wr => ∃ i : Nat, i ≤ n ∧ j = .int .i64 (i : Nat) ∧ Hid (wr.ownsRow w9.heap.size 5 1 (.slice aW m cW) m ((iL (hdP n S O' V M' i 1)).map (Value.int .u8))) ∧ Hid (Below w9.heap.size w9 wr)) (fun j _ => n - (intOf j).toNat)
  case atStart => exact ⟨0, Nat.zero_le _, rfl, HST, HB10⟩
  case round =>
    obtain ⟨i, hi, rfl, hO, hB⟩ := hrel
    rename World => w11
    by_cases hlt : i < n
    · obtain ⟨bx, ox, rfl, hbx, hcx⟩ := (HS9.out.on hB.out).at_ hlt
      obtain ⟨b2, o2, e2, hb2, hc2⟩ := (HK29.out.on hB.out).at_ hlt
      cases e2
      rw [Nat.zero_add] at hc2
      have hd1 : ∀ k, (w11.drewN k).cell? ⟨bx, ox + i, none⟩ = some (.int .u8 (toI (co S i))) := fun k => hcx
      have hd2 : ∀ k, (w11.drewN k).cell? ⟨g2, i, none⟩ = some (.int .u8 (toI (co O' i))) := fun k => hc2
      have hbt := bits_xor_G (co S i) (co O' i)
      have hfw := HF9.out.below hB.out
      have qi : (i : Int) < (n : Int) := by omega
      have qi0 : (0 : Int) ≤ (i : Int) := by omega
      have HI1 := Lib.hid hlt
      have hcs := HS9.out.bd
      clear hcx hc2 hbx hb2 hlt
      go_wp2_with fail
      go_quiet ((go_at_call 25; exact Calls.quiet_of_same ((mul_G b z (co S i + co O' i) _ (hfw.drewN _)).mono fun _ _ ⟨he, hw⟩ => ⟨he, hw.symm⟩)))
      obtain ⟨w12, h12⟩ : ∃ V, V = w11.drewN nq := ⟨_, rfl⟩
      have HO12 : Hid (w12.ownsRow w9.heap.size 5 1 (.slice aW m cW) m ((iL (hdP n S O' V M' i 1)).map (Value.int .u8))) := by rw [h12]; exact Lib.hid (own_belowV hO.out (below_drewN (Below.refl _ _) nq))
      have HB12 : Hid (Below w9.heap.size w9 w12) := by rw [h12]; exact Lib.hid (below_drewN hB.out nq)
      obtain ⟨d, hd⟩ : ∃ d, d = z * (co S i + co O' i) := ⟨_, rfl⟩
      rw [← h12, ← hd]
      have HD := Lib.hid hd
      clear h12 hd hd1 hd2 hfw hO hB hbt
      go_wp2
      go_loopw [25] (fun j wr => ∃ k : Nat, 1 ≤ k ∧ k ≤ T ∧ j = .int .i64 (k : Nat) ∧ Hid (wr.ownsRow w9.heap.size 5 1 (.slice aW m cW) m ((iL (hdP n S O' V M' i k)).map (Value.int .u8))) ∧ Hid (Below w9.heap.size w9 wr)) (fun j _ => T - (intOf j).toNat)
      case atStart => exact ⟨1, Nat.le_refl _, by have := HQ.out; omega, rfl, HO12, HB12⟩
      case round =>
        obtain ⟨k, hk1, hk2, rfl, hO, hB⟩ := hrel
        rename World => w13
        by_cases hlt : k < T
        · obtain ⟨p, hp⟩ : ∃ p, k = p + 1 := ⟨k - 1, by omega⟩
          obtain ⟨idx, hidx⟩ : ∃ idx, idx = p * n + i := ⟨_, rfl⟩
          obtain ⟨lo, hlo⟩ : ∃ lo, lo = p * n := ⟨_, rfl⟩
          have hil : idx < m := by
            have h1 := HI1.out
            have h2 := idx_lt (t := T) (n := n) (k := p) (i := i) h1 (by omega)
            rw [show T - 1 = q by have := HQ.out; omega, ← HQM.out] at h2
            omega
          obtain ⟨gW, rfl⟩ : ∃ gW, aW = some ⟨gW, 0, none⟩ := by
            rcases hO.out.2 with ⟨_, h0⟩ | ⟨g, c, cur, e, _⟩
            · omega
            · cases e; exact ⟨g, rfl⟩
          have hgl := (hO.out.lt gW rfl).1
          have hcg := own_cells hO.out idx hil
          rw [Nat.zero_add, getD_iL, hp, hidx, hdP_at HI1.out (by rw [HPL.out, ← HQM.out, ← hidx]; exact hil), ← hidx] at hcg
          have hfz := hO.out.frozenAt idx
          obtain ⟨bV, oV, eV, hbV, hcV⟩ := (HPV9.out.on hB.out).at_ (k := k) hlt
          cases eV
          rw [Nat.zero_add] at hcV
          have hst := (hO.out.stored idx (.int .u8 (toI (co M' idx + d * co V k)))).1
          rw [map_set_u8, show (iL (hdP n S O' V M' i k)).set idx (toI (co M' idx + d * co V k)) = iL ((hdP n S O' V M' i k).set idx (co M' idx + d * co V k)) by simp [iL, List.map_set]] at hst
          have hse := hdP_set (n := n) (i := i) (p := p) (S := S) (O := O') (V := V) (M := M') HI1.out (by rw [HPL.out, ← HQM.out, ← hidx]; exact hil)
          rw [← HZ.out, ← HD.out, ← hidx, ← hp, show p + 2 = k + 1 by omega] at hse
          rw [hse] at hst
          have HST2 := Lib.hid hst
          have HBS := Lib.hid (hB.out.setCell (p := ⟨gW, idx, none⟩) hgl (.int .u8 (toI (co M' idx + d * co V k))))
          have hfw : Fld w13.drew b := (HF9.out.below hB.out).drewN 1
          have hbt := bits_xor_G (co M' idx) (d * co V k)
          have q1 : (k : Int) < (T : Int) := by omega
          have q2 : (k : Int) - 1 = (p : Int) := by omega
          have q3 : (p : Int) * (n : Int) = (lo : Int) := by rw [hlo]; rfl
          have q4 : (lo : Int) + (i : Int) = (idx : Int) := by rw [hidx, hlo]; rfl
          have q5 : (idx : Int) < (m : Int) := by omega
          have q6 : (0 : Int) ≤ (idx : Int) := by omega
          have q7 : (0 : Int) ≤ (k : Int) := by omega
          have q8 : (lo : Int) ≤ 56 := by omega
          have q9 : (0 : Int) ≤ (lo : Int) := by omega
          have hoc := HOC.out
          have HK := Lib.hid (And.intro hk1 hlt)
          have hvl : gV < w13.heap.size ∧ gV ≠ gW := ⟨hbV, by obtain ⟨_, _, e9, h9, _⟩ := HPV9.out.at_ (k := k) hlt; cases e9; omega⟩
          clear hst hse hp hidx hlo hbV hgl hk1 hk2
          have E1 := Lib.hid (show IntKind.i64.wrap (p : Int) = (p : Int) by rw [IntKind.wrap_i64]; omega)
          have E2 := Lib.hid (show IntKind.i64.wrap (lo : Int) = (lo : Int) by rw [IntKind.wrap_i64]; omega)
          have E3 := Lib.hid (show IntKind.i64.wrap (idx : Int) = (idx : Int) by rw [IntKind.wrap_i64]; omega)
          have HVL := Lib.hid (show gV < w13.heap.size ∧ gV ≠ gW from hvl)
          have HCV := Lib.hid hcV
          clear hcV hvl
          go_wp2_with fail
          refine wp_region_held_drew (S := fun U => w13.grownBy U (some gW)) (by kernel_rfl) (gb_drew (gb_refl _ _)) (fun hHeld => ?_)
          refine wpAnyH_take (i := 0) (oi := { dst := some 117, op := Go.Op.move (Go.Operand.tmp 22), type := 22, pos := "law.go:175", after := #[], guard := none }) (v := ?v0a1) rfl (by kernel_rfl) (by kernel_rfl) (by kernel_rfl) (fun _ _ _ h => h) (Or.inl ⟨by rfl, ?hy0a1⟩) hHeld ?rest0a1
          case hy0a1 =>
            intro W' hV
            try dsimp only at hV
            go_simp
            all_goals with_reducible rfl
          case' rest0a1 => try simp only [Act.put, List.setIfInBounds_toArray, List.set_cons_zero, List.set_cons_succ]
          refine wpAnyH_take (i := 1) (oi := { dst := some 118, op := Go.Op.move (Go.Operand.tmp 25), type := 3, pos := "law.go:175", after := #[], guard := none }) (v := ?v1a2) rfl (by kernel_rfl) (by kernel_rfl) (by kernel_rfl) (fun _ _ _ h => h) (Or.inl ⟨by rfl, ?hy1a2⟩) hHeld ?rest1a2
          case hy1a2 =>
            intro W' hV
            try dsimp only at hV
            go_simp
            all_goals with_reducible rfl
          case' rest1a2 => try simp only [Act.put, List.setIfInBounds_toArray, List.set_cons_zero, List.set_cons_succ]
          refine wpAnyH_take (i := 2) (oi := { dst := some 119, op := Go.Op.binOp Go.BinOp.sub 3 (Go.Operand.tmp 118) (Go.Operand.const (Go.Value.int Go.IntKind.i64 1)) 3, type := 3, pos := "law.go:175", after := #[{ on := 1, ground := Go.Ground.data }], guard := none }) (v := ?v2a3) rfl (by kernel_rfl) (by kernel_rfl) (by kernel_rfl) (fun _ _ _ h => h) (Or.inl ⟨by rfl, ?hy2a3⟩) hHeld ?rest2a3
          case hy2a3 =>
            intro W' hV
            try dsimp only at hV
            have e1 := E1.out
            go_simp
            all_goals with_reducible rfl
          case' rest2a3 => try simp only [Act.put, List.setIfInBounds_toArray, List.set_cons_zero, List.set_cons_succ]
          refine wpAnyH_take (i := 3) (oi := { dst := some 120, op := Go.Op.move (Go.Operand.tmp 13), type := 3, pos := "law.go:175", after := #[], guard := none }) (v := ?v3a4) rfl (by kernel_rfl) (by kernel_rfl) (by kernel_rfl) (fun _ _ _ h => h) (Or.inl ⟨by rfl, ?hy3a4⟩) hHeld ?rest3a4
          case hy3a4 =>
            intro W' hV
            try dsimp only at hV
            go_simp
            all_goals with_reducible rfl
          case' rest3a4 => try simp only [Act.put, List.setIfInBounds_toArray, List.set_cons_zero, List.set_cons_succ]
          refine wpAnyH_take (i := 4) (oi := { dst := some 121, op := Go.Op.binOp Go.BinOp.mul 3 (Go.Operand.tmp 119) (Go.Operand.tmp 120) 3, type := 3, pos := "law.go:175", after := #[{ on := 2, ground := Go.Ground.data }, { on := 3, ground := Go.Ground.data }], guard := none }) (v := ?v4a5) rfl (by kernel_rfl) (by kernel_rfl) (by kernel_rfl) (fun _ _ _ h => h) (Or.inl ⟨by rfl, ?hy4a5⟩) hHeld ?rest4a5
          case hy4a5 =>
            intro W' hV
            try dsimp only at hV
            have e1 := E2.out
            go_simp
            all_goals with_reducible rfl
          case' rest4a5 => try simp only [Act.put, List.setIfInBounds_toArray, List.set_cons_zero, List.set_cons_succ]
          refine wpAnyH_take (i := 5) (oi := { dst := some 122, op := Go.Op.move (Go.Operand.tmp 23), type := 3, pos := "law.go:175", after := #[], guard := none }) (v := ?v5a6) rfl (by kernel_rfl) (by kernel_rfl) (by kernel_rfl) (fun _ _ _ h => h) (Or.inl ⟨by rfl, ?hy5a6⟩) hHeld ?rest5a6
          case hy5a6 =>
            intro W' hV
            try dsimp only at hV
            go_simp
            all_goals with_reducible rfl
          case' rest5a6 => try simp only [Act.put, List.setIfInBounds_toArray, List.set_cons_zero, List.set_cons_succ]
          refine wpAnyH_take (i := 6) (oi := { dst := some 123, op := Go.Op.binOp Go.BinOp.add 3 (Go.Operand.tmp 121) (Go.Operand.tmp 122) 3, type := 3, pos := "law.go:175", after := #[{ on := 4, ground := Go.Ground.data }, { on := 5, ground := Go.Ground.data }], guard := none }) (v := ?v6a7) rfl (by kernel_rfl) (by kernel_rfl) (by kernel_rfl) (fun _ _ _ h => h) (Or.inl ⟨by rfl, ?hy6a7⟩) hHeld ?rest6a7
          case hy6a7 =>
            intro W' hV
            try dsimp only at hV
            have e1 := E3.out
            go_simp
            all_goals with_reducible rfl
          case' rest6a7 => try simp only [Act.put, List.setIfInBounds_toArray, List.set_cons_zero, List.set_cons_succ]
          refine wpAnyH_take (i := 7) (oi := { dst := some 124, op := Go.Op.indexAddr 22 (Go.Operand.tmp 117) (Go.Operand.tmp 123), type := 0, pos := "law.go:175", after := #[{ on := 0, ground := Go.Ground.data }, { on := 6, ground := Go.Ground.data }], guard := none }) (v := ?v7a8) rfl (by kernel_rfl) (by kernel_rfl) (by kernel_rfl) (fun _ _ _ h => h) (Or.inl ⟨by rfl, ?hy7a8⟩) hHeld ?rest7a8
          case hy7a8 =>
            intro W' hV
            try dsimp only at hV
            go_simp
            all_goals with_reducible rfl
          case' rest7a8 => try simp only [Act.put, List.setIfInBounds_toArray, List.set_cons_zero, List.set_cons_succ]
          refine wpAnyH_take (i := 9) (oi := { dst := some 126, op := Go.Op.move (Go.Operand.tmp 15), type := 26, pos := "law.go:175", after := #[], guard := none }) (v := ?v9a9) rfl (by kernel_rfl) (by kernel_rfl) (by kernel_rfl) (fun _ _ _ h => h) (Or.inl ⟨by rfl, ?hy9a9⟩) hHeld ?rest9a9
          case hy9a9 =>
            intro W' hV
            try dsimp only at hV
            go_simp
            all_goals with_reducible rfl
          case' rest9a9 => try simp only [Act.put, List.setIfInBounds_toArray, List.set_cons_zero, List.set_cons_succ]
          refine wpAnyH_take (i := 10) (oi := { dst := some 127, op := Go.Op.move (Go.Operand.tmp 24), type := 5, pos := "law.go:175", after := #[], guard := none }) (v := ?v10a10) rfl (by kernel_rfl) (by kernel_rfl) (by kernel_rfl) (fun _ _ _ h => h) (Or.inl ⟨by rfl, ?hy10a10⟩) hHeld ?rest10a10
          case hy10a10 =>
            intro W' hV
            try dsimp only at hV
            go_simp
            all_goals with_reducible rfl
          case' rest10a10 => try simp only [Act.put, List.setIfInBounds_toArray, List.set_cons_zero, List.set_cons_succ]
          refine wpAnyH_take (i := 11) (oi := { dst := some 128, op := Go.Op.move (Go.Operand.tmp 16), type := 22, pos := "law.go:175", after := #[], guard := none }) (v := ?v11a11) rfl (by kernel_rfl) (by kernel_rfl) (by kernel_rfl) (fun _ _ _ h => h) (Or.inl ⟨by rfl, ?hy11a11⟩) hHeld ?rest11a11
          case hy11a11 =>
            intro W' hV
            try dsimp only at hV
            go_simp
            all_goals with_reducible rfl
          case' rest11a11 => try simp only [Act.put, List.setIfInBounds_toArray, List.set_cons_zero, List.set_cons_succ]
          refine wpAnyH_take (i := 12) (oi := { dst := some 129, op := Go.Op.move (Go.Operand.tmp 25), type := 3, pos := "law.go:175", after := #[], guard := none }) (v := ?v12a12) rfl (by kernel_rfl) (by kernel_rfl) (by kernel_rfl) (fun _ _ _ h => h) (Or.inl ⟨by rfl, ?hy12a12⟩) hHeld ?rest12a12
          case hy12a12 =>
            intro W' hV
            try dsimp only at hV
            go_simp
            all_goals with_reducible rfl
          case' rest12a12 => try simp only [Act.put, List.setIfInBounds_toArray, List.set_cons_zero, List.set_cons_succ]
          refine wpAnyH_take (i := 13) (oi := { dst := some 130, op := Go.Op.indexAddr 22 (Go.Operand.tmp 128) (Go.Operand.tmp 129), type := 0, pos := "law.go:175", after := #[{ on := 11, ground := Go.Ground.data }, { on := 12, ground := Go.Ground.data }], guard := none }) (v := ?v13a13) rfl (by kernel_rfl) (by kernel_rfl) (by kernel_rfl) (fun _ _ _ h => h) (Or.inl ⟨by rfl, ?hy13a13⟩) hHeld ?rest13a13
          case hy13a13 =>
            intro W' hV
            try dsimp only at hV
            go_simp
            all_goals with_reducible rfl
          case' rest13a13 => try simp only [Act.put, List.setIfInBounds_toArray, List.set_cons_zero, List.set_cons_succ]
          refine wpAnyH_take (i := 14) (oi := { dst := some 131, op := Go.Op.load 5 (Go.Operand.tmp 130), type := 5, pos := "law.go:175", after := #[{ on := 13, ground := Go.Ground.data }], guard := none }) (v := ?v14a14) rfl (by kernel_rfl) (by kernel_rfl) (by kernel_rfl) (fun _ _ _ h => h) (Or.inl ⟨by rfl, ?hy14a14⟩) hHeld ?rest14a14
          case hy14a14 =>
            intro W' hV
            try dsimp only at hV
            have hcc := (World.cell?_of_block (w := w13) (a := ⟨gV, k, none⟩) (gb_block hV HVL.out.1 HVL.out.2)).trans HCV.out
            go_simp
            all_goals with_reducible rfl
          case' rest14a14 => try simp only [Act.put, List.setIfInBounds_toArray, List.set_cons_zero, List.set_cons_succ]
          refine wpAnyH_ready (rs := [8, 15]) (by kernel_rfl) (by simp) ?_
          refine AllReadyH.cons (o := { dst := some 125, op := Go.Op.load 5 (Go.Operand.tmp 124), type := 5, pos := "law.go:175", after := #[{ on := 7, ground := Go.Ground.data }], guard := none }) rfl (fun K' hK => ?_) (AllReadyH.cons (o := { dst := some 132, op := Go.Op.call { callee := Go.Callee.value (Go.Operand.func 25), args := #[Go.Operand.tmp 126, Go.Operand.tmp 127, Go.Operand.tmp 131], argTypes := #[26, 5, 5] }, type := 5, pos := "law.go:175", after := #[{ on := 9, ground := Go.Ground.data }, { on := 10, ground := Go.Ground.data }, { on := 14, ground := Go.Ground.data }], guard := none }) rfl (fun K' hK => ?_) AllReadyH.nil)
          · rw [if_pos (by rfl)]
            have hcd : w13.drew.cell? ⟨gW, idx, none⟩ = some (.int .u8 (toI (co M' idx))) := hcg
            go_simp
            clear hcd
            refine hK.out _ _ hHeld (fun hHeld1 => ?_)
            clear hK K' hHeld
            have hHeld := hHeld1
            clear hHeld1
            try simp only [Act.put, List.setIfInBounds_toArray, List.set_cons_zero, List.set_cons_succ]
            refine wpAnyH_ready (rs := [15]) (by kernel_rfl) (by simp) ?_
            refine AllReadyH.cons (o := { dst := some 132, op := Go.Op.call { callee := Go.Callee.value (Go.Operand.func 25), args := #[Go.Operand.tmp 126, Go.Operand.tmp 127, Go.Operand.tmp 131], argTypes := #[26, 5, 5] }, type := 5, pos := "law.go:175", after := #[{ on := 9, ground := Go.Ground.data }, { on := 10, ground := Go.Ground.data }, { on := 14, ground := Go.Ground.data }], guard := none }) rfl (fun K' hK => ?_) AllReadyH.nil
            rw [if_pos (by rfl)]
            go_simp
            go_wp2_with (go_at_call 25; refine (mul_G _ _ _ _ hfw).mono ?_; rintro e w' ⟨rfl, rfl⟩)
            refine hK.out _ _ hHeld (fun hHeld1 => ?_)
            clear hK K' hHeld
            have hHeld := hHeld1
            clear hHeld1
            try simp only [Act.put, List.setIfInBounds_toArray, List.set_cons_zero, List.set_cons_succ]
            refine wpAnyH_take (i := 16) (oi := { dst := some 133, op := Go.Op.binOp Go.BinOp.xor 5 (Go.Operand.tmp 125) (Go.Operand.tmp 132) 5, type := 5, pos := "law.go:175", after := #[{ on := 8, ground := Go.Ground.data }, { on := 15, ground := Go.Ground.data }], guard := none }) (v := ?v16b1) rfl (by kernel_rfl) (by kernel_rfl) (by kernel_rfl) (fun _ _ _ h => h) (Or.inl ⟨by rfl, ?hy16b1⟩) hHeld ?rest16b1
            case hy16b1 =>
              intro W' hV
              try dsimp only at hV
              go_simp
              all_goals with_reducible rfl
            case' rest16b1 => try simp only [Act.put, List.setIfInBounds_toArray, List.set_cons_zero, List.set_cons_succ]
            refine wpAnyH_take (i := 17) (oi := { dst := some 134, op := Go.Op.indexAddr 22 (Go.Operand.tmp 117) (Go.Operand.tmp 123), type := 0, pos := "law.go:175", after := #[{ on := 0, ground := Go.Ground.data }, { on := 6, ground := Go.Ground.data }, { on := 0, ground := Go.Ground.phase }, { on := 1, ground := Go.Ground.phase }, { on := 2, ground := Go.Ground.phase }, { on := 3, ground := Go.Ground.phase }, { on := 4, ground := Go.Ground.phase }, { on := 5, ground := Go.Ground.phase }, { on := 6, ground := Go.Ground.phase }, { on := 7, ground := Go.Ground.phase }, { on := 8, ground := Go.Ground.phase }, { on := 9, ground := Go.Ground.phase }, { on := 10, ground := Go.Ground.phase }, { on := 11, ground := Go.Ground.phase }, { on := 12, ground := Go.Ground.phase }, { on := 13, ground := Go.Ground.phase }, { on := 14, ground := Go.Ground.phase }, { on := 15, ground := Go.Ground.phase }, { on := 16, ground := Go.Ground.phase }], guard := none }) (v := ?v17b2) rfl (by kernel_rfl) (by kernel_rfl) (by kernel_rfl) (fun _ _ _ h => h) (Or.inl ⟨by rfl, ?hy17b2⟩) hHeld ?rest17b2
            case hy17b2 =>
              intro W' hV
              try dsimp only at hV
              go_simp
              all_goals with_reducible rfl
            case' rest17b2 => try simp only [Act.put, List.setIfInBounds_toArray, List.set_cons_zero, List.set_cons_succ]
            refine wpAnyH_ready (rs := [18]) (by kernel_rfl) (by simp) ?_
            refine AllReadyH.cons (o := { dst := none, op := Go.Op.store 5 (Go.Operand.tmp 134) (Go.Operand.tmp 133), type := 0, pos := "law.go:175", after := #[{ on := 17, ground := Go.Ground.data }, { on := 16, ground := Go.Ground.data }, { on := 15, ground := Go.Ground.chain }, { on := 0, ground := Go.Ground.phase }, { on := 1, ground := Go.Ground.phase }, { on := 2, ground := Go.Ground.phase }, { on := 3, ground := Go.Ground.phase }, { on := 4, ground := Go.Ground.phase }, { on := 5, ground := Go.Ground.phase }, { on := 6, ground := Go.Ground.phase }, { on := 7, ground := Go.Ground.phase }, { on := 8, ground := Go.Ground.phase }, { on := 9, ground := Go.Ground.phase }, { on := 10, ground := Go.Ground.phase }, { on := 11, ground := Go.Ground.phase }, { on := 12, ground := Go.Ground.phase }, { on := 13, ground := Go.Ground.phase }, { on := 14, ground := Go.Ground.phase }, { on := 15, ground := Go.Ground.phase }, { on := 16, ground := Go.Ground.phase }], guard := none }) rfl (fun K' hK => ?_) AllReadyH.nil
            rw [if_pos (by rfl)]
            have hfd : w13.drew.frozen? ⟨gW, idx, none⟩ = false := hfz
            have hcd : w13.drew.cell? ⟨gW, idx, none⟩ = some (.int .u8 (toI (co M' idx))) := hcg
            go_simp
            clear hfd hcd
            refine hK.out _ _ (gb_trans hHeld (gb_set _ _ _ _)) (fun hHeld1 => ?_)
            clear hK K' hHeld
            have hHeld := hHeld1
            clear hHeld1
            try simp only [Act.put, List.setIfInBounds_toArray, List.set_cons_zero, List.set_cons_succ]
            refine wpAnyH_done (by kernel_rfl) ?_ _
            clear hHeld
            go_wp2
            go_roundw
            case rel => exact ⟨k + 1, by omega, by have := HK.out; omega, by go_num, Lib.hid (own_belowV HST2.out ((Below.refl _ _).drew)), Lib.hid HBS.out.drew⟩
            case measure => simp [intOf]; have := HK.out; omega
          · rw [if_pos (by rfl)]
            go_simp
            go_wp2_with (go_at_call 25; refine (mul_G _ _ _ _ hfw).mono ?_; rintro e w' ⟨rfl, rfl⟩)
            refine hK.out _ _ hHeld (fun hHeld1 => ?_)
            clear hK K' hHeld
            have hHeld := hHeld1
            clear hHeld1
            try simp only [Act.put, List.setIfInBounds_toArray, List.set_cons_zero, List.set_cons_succ]
            refine wpAnyH_ready (rs := [8]) (by kernel_rfl) (by simp) ?_
            refine AllReadyH.cons (o := { dst := some 125, op := Go.Op.load 5 (Go.Operand.tmp 124), type := 5, pos := "law.go:175", after := #[{ on := 7, ground := Go.Ground.data }], guard := none }) rfl (fun K' hK => ?_) AllReadyH.nil
            rw [if_pos (by rfl)]
            have hcd : w13.drew.cell? ⟨gW, idx, none⟩ = some (.int .u8 (toI (co M' idx))) := hcg
            go_simp
            clear hcd
            refine hK.out _ _ hHeld (fun hHeld1 => ?_)
            clear hK K' hHeld
            have hHeld := hHeld1
            clear hHeld1
            try simp only [Act.put, List.setIfInBounds_toArray, List.set_cons_zero, List.set_cons_succ]
            refine wpAnyH_take (i := 16) (oi := { dst := some 133, op := Go.Op.binOp Go.BinOp.xor 5 (Go.Operand.tmp 125) (Go.Operand.tmp 132) 5, type := 5, pos := "law.go:175", after := #[{ on := 8, ground := Go.Ground.data }, { on := 15, ground := Go.Ground.data }], guard := none }) (v := ?v16c1) rfl (by kernel_rfl) (by kernel_rfl) (by kernel_rfl) (fun _ _ _ h => h) (Or.inl ⟨by rfl, ?hy16c1⟩) hHeld ?rest16c1
            case hy16c1 =>
              intro W' hV
              try dsimp only at hV
              go_simp
              all_goals with_reducible rfl
            case' rest16c1 => try simp only [Act.put, List.setIfInBounds_toArray, List.set_cons_zero, List.set_cons_succ]
            refine wpAnyH_take (i := 17) (oi := { dst := some 134, op := Go.Op.indexAddr 22 (Go.Operand.tmp 117) (Go.Operand.tmp 123), type := 0, pos := "law.go:175", after := #[{ on := 0, ground := Go.Ground.data }, { on := 6, ground := Go.Ground.data }, { on := 0, ground := Go.Ground.phase }, { on := 1, ground := Go.Ground.phase }, { on := 2, ground := Go.Ground.phase }, { on := 3, ground := Go.Ground.phase }, { on := 4, ground := Go.Ground.phase }, { on := 5, ground := Go.Ground.phase }, { on := 6, ground := Go.Ground.phase }, { on := 7, ground := Go.Ground.phase }, { on := 8, ground := Go.Ground.phase }, { on := 9, ground := Go.Ground.phase }, { on := 10, ground := Go.Ground.phase }, { on := 11, ground := Go.Ground.phase }, { on := 12, ground := Go.Ground.phase }, { on := 13, ground := Go.Ground.phase }, { on := 14, ground := Go.Ground.phase }, { on := 15, ground := Go.Ground.phase }, { on := 16, ground := Go.Ground.phase }], guard := none }) (v := ?v17c2) rfl (by kernel_rfl) (by kernel_rfl) (by kernel_rfl) (fun _ _ _ h => h) (Or.inl ⟨by rfl, ?hy17c2⟩) hHeld ?rest17c2
            case hy17c2 =>
              intro W' hV
              try dsimp only at hV
              go_simp
              all_goals with_reducible rfl
            case' rest17c2 => try simp only [Act.put, List.setIfInBounds_toArray, List.set_cons_zero, List.set_cons_succ]
            refine wpAnyH_ready (rs := [18]) (by kernel_rfl) (by simp) ?_
            refine AllReadyH.cons (o := { dst := none, op := Go.Op.store 5 (Go.Operand.tmp 134) (Go.Operand.tmp 133), type := 0, pos := "law.go:175", after := #[{ on := 17, ground := Go.Ground.data }, { on := 16, ground := Go.Ground.data }, { on := 15, ground := Go.Ground.chain }, { on := 0, ground := Go.Ground.phase }, { on := 1, ground := Go.Ground.phase }, { on := 2, ground := Go.Ground.phase }, { on := 3, ground := Go.Ground.phase }, { on := 4, ground := Go.Ground.phase }, { on := 5, ground := Go.Ground.phase }, { on := 6, ground := Go.Ground.phase }, { on := 7, ground := Go.Ground.phase }, { on := 8, ground := Go.Ground.phase }, { on := 9, ground := Go.Ground.phase }, { on := 10, ground := Go.Ground.phase }, { on := 11, ground := Go.Ground.phase }, { on := 12, ground := Go.Ground.phase }, { on := 13, ground := Go.Ground.phase }, { on := 14, ground := Go.Ground.phase }, { on := 15, ground := Go.Ground.phase }, { on := 16, ground := Go.Ground.phase }], guard := none }) rfl (fun K' hK => ?_) AllReadyH.nil
            rw [if_pos (by rfl)]
            have hfd : w13.drew.frozen? ⟨gW, idx, none⟩ = false := hfz
            have hcd : w13.drew.cell? ⟨gW, idx, none⟩ = some (.int .u8 (toI (co M' idx))) := hcg
            go_simp
            clear hfd hcd
            refine hK.out _ _ (gb_trans hHeld (gb_set _ _ _ _)) (fun hHeld1 => ?_)
            clear hK K' hHeld
            have hHeld := hHeld1
            clear hHeld1
            try simp only [Act.put, List.setIfInBounds_toArray, List.set_cons_zero, List.set_cons_succ]
            refine wpAnyH_done (by kernel_rfl) ?_ _
            clear hHeld
            go_wp2
            go_roundw
            case rel => exact ⟨k + 1, by omega, by have := HK.out; omega, by go_num, Lib.hid (own_belowV HST2.out ((Below.refl _ _).drew)), Lib.hid HBS.out.drew⟩
            case measure => simp [intOf]; have := HK.out; omega
        · obtain rfl : T = k := by omega
          have ho := hO.out
          rw [show T = q + 1 from HQ.out.2, hdP_next HPL.out i] at ho
          have HO2 := Lib.hid ho
          clear ho hO hlt hk1 hk2
          go_wp2
          go_roundw
          case rel => exact ⟨i + 1, by have := HI1.out; omega, by go_num, HO2, hB⟩
          case measure => simp [intOf]; have := HI1.out; omega
    · obtain rfl : n = i := by omega
      have ho := hO.out
      rw [hdP_end HPL.out] at ho
      obtain ⟨H, hH⟩ : ∃ H, H = hid n S O' V M' := ⟨_, rfl⟩
      rw [← hH] at ho
      have HHE := Lib.hid hH
      obtain ⟨a0, c0, e0, hp0, -⟩ := Pa.own ho
      cases e0
      have HPH := Lib.hid hp0
      have HOH := Lib.hid ho
      have HS14 := Lib.hid (HS9.out.on hB.out)
      have HO14 := Lib.hid (HK29.out.on hB.out)
      have HM14 := Lib.hid (HK39.out.on hB.out)
      have HU14 := Lib.hid (HPU9.out.on hB.out)
      have HF14 := Lib.hid (HF9.out.below hB.out)
      have HB14 := Lib.hid (bt HB9.out hB.out)
      have HUZ := Lib.hid (fun k (hk : k < q) => gath_co HGU.out (k := k) (by rw [HLU.out]; exact hk))
      have HTQ := Lib.hid (show 1 ≤ T ∧ T ≤ 255 ∧ m = (T - 1) * n ∧ n ≤ 1000 ∧ q ≤ 255 from ⟨by have := HQ.out; omega, by have := HQ.out; omega, by rw [show T - 1 = q by have := HQ.out; omega]; exact HQM.out, by have := HN.out; omega, by have := HQ.out; omega⟩)
      have HS1 := Lib.hid (splitC b T n m q aS cS S (some ⟨g3, 0, none⟩) m M' aU cU U w11 HF14.out HS14.out HM14.out HU14.out HTQ.out.1 HTQ.out.2.1 HTQ.out.2.2.1 HUZ.out HTQ.out.2.2.2.1 HTQ.out.2.2.2.2)
      have HB911 := Lib.hid hB.out
      have HW9 := Lib.hid HB9.out.size
      clear hi hlt hH ho hp0 hO hB HS9 HK39 HPV9 HB9 HB10 HBW
      go_upto_region 28 with (first
        | (go_at_call 12; go_loud ((with_reducible refine HS1.out.mono ?_); rintro e w15 ⟨a15, c15, rfl, hm15, hb15⟩; have HM15 := Lib.hid hm15; have HB15 := Lib.hid hb15; have HS2 := Lib.hid (splitC b T n m q (some ⟨g2, 0, none⟩) n O' aW cW H aU cU U w15 (HF14.out.below hb15) (HO14.out.on hb15) (HPH.out.on hb15) (HU14.out.on hb15) HTQ.out.1 HTQ.out.2.1 HTQ.out.2.2.1 HUZ.out HTQ.out.2.2.2.1 HTQ.out.2.2.2.2); clear hm15 hb15))
        | (go_at_call 12; go_loud ((with_reducible refine HS2.out.mono ?_); rintro e w16 ⟨a16, c16, rfl, hm16, hb16⟩; have HM16 := Lib.hid hm16.mat; have HMB := Lib.hid (HM15.out.on hb16); have HMA := Lib.hid (HM15.out.on hb16).mat; have HB16 := Lib.hid (bt HB15.out hb16); clear hm16 hb16)))
      clear HS1 HS2 HM15 HB15
      have HSL := Lib.hid HS14.out.len
      go_loopw [169] (fun s wr => ∃ i : Nat, i ≤ q ∧ s = .int .i64 (i : Nat) ∧ Hid (Below w16.heap.size w16 wr)) (fun s _ => q - (intOf s).toNat)
      case atStart => exact ⟨0, Nat.zero_le _, rfl, Lib.hid (Below.refl _ _)⟩
      case round =>
        obtain ⟨k, hk, rfl, hB⟩ := hrel
        rename World => w17
        by_cases hlt : k < q
        · have hkU : k < U.length := by rw [HLU.out]; exact hlt
          have e1 : rw_ (shM T n O' H U) k = rw_ (shM T n S M' U) k := by
            rw [shM_row hkU, shM_row hkU, HHE.out]
            exact sh_hid HTQ.out.1 (by rw [HPL.out, show T - 1 = q by have := HQ.out; omega]) (fun j hj => by rw [HVE.out]; exact van_ge (by have := HQ.out; omega)) HV0.out (by rw [HVE.out]; exact van_at HLU.out hlt)
          obtain ⟨R, hR⟩ : ∃ R, R = rw_ (shM T n S M' U) k := ⟨_, rfl⟩
          have hRl : R.length = n := by rw [hR]; exact rw_shM_len hkU
          obtain ⟨b7, off7, a7, c7, rfl, hb7, hcell7, hpa7⟩ := HMA.out.row hlt
          obtain ⟨b8, off8, a8, c8, rfl, hb8, hcell8, hpa8⟩ := HM16.out.row hlt
          rw [e1] at hcell8 hpa8
          rw [← hR, hRl] at hcell7 hpa7 hcell8 hpa8
          have hcr7 : ∀ j, (World.drewN w17 j).cell? ⟨b7, off7 + k, none⟩ = some (.slice a7 n c7) := fun j => (hB.out.cell (p := ⟨b7, off7 + k, none⟩) hb7).trans hcell7
          have hcr8 : ∀ j, (World.drewN w17 j).cell? ⟨b8, off8 + k, none⟩ = some (.slice a8 n c8) := fun j => (hB.out.cell (p := ⟨b8, off8 + k, none⟩) hb8).trans hcell8
          have hcr7' := hcr7 0
          have hcr8' := hcr8 0
          have hcv7 : ∀ j, (convert 22 9 (.slice a7 n c7)).run Try.prog (World.drewN w17 j) = .ok (.string (strOfNums (iL R))) (World.drewN w17 j) := fun j => hpa7.str_on rfl _ (below_drewN hB.out _)
          have hcv8 : ∀ j, (convert 22 9 (.slice a8 n c8)).run Try.prog (World.drewN w17 j) = .ok (.string (strOfNums (iL R))) (World.drewN w17 j) := fun j => hpa8.str_on rfl _ (below_drewN hB.out _)
          have qk : (k : Int) < (q : Int) := by omega
          have qk0 : (0 : Int) ≤ (k : Int) := by omega
          clear hcell7 hcell8 hpa7 hpa8 hR e1 hRl hkU
          go_wp2_with fail
          go_quiet (fail)
          go_wp2
          go_roundw
          case rel => exact ⟨k + 1, by omega, by go_num, Lib.hid (below_drewN hB.out _)⟩
          case measure => simp [intOf]; omega
        · obtain rfl : q = k := by omega
          have HB17 := Lib.hid (bt HB16.out hB.out)
          have HBQ := Lib.hid hB.out
          clear hlt hk hB
          by_cases hm0 : m = 0
          · have qm0 : ((m : Int) == 0) = true := by rw [hm0]; rfl
            have HBF := Lib.hid (bt HB14.out HB17.out)
            clear hm0
            go_wp2
            go_ret
            exact ⟨rfl, HBF.out⟩
          · have qm0 : ((m : Int) == 0) = false := by rw [beq_eq_false_iff_ne]; omega
            have HM0 := Lib.hid (show 0 < m by omega)
            clear hm0
            go_upto_region 35 with fail
            obtain ⟨gW, rfl⟩ : ∃ gW, aW = some ⟨gW, 0, none⟩ := by
              rcases HOH.out.2 with ⟨_, h0⟩ | ⟨g, c, cur, e, _⟩
              · have := HM0.out; omega
              · cases e; exact ⟨g, rfl⟩
            obtain ⟨p, hp1, hp2, hpm⟩ := mod_both u (m : Int) (by have := HM0.out; omega)
            obtain ⟨r, hr1, hr2, hr3⟩ := mod_both u 255 (by omega)
            obtain ⟨y, hy, hy0⟩ := one_more (r := r) (by omega)
            have hOW := own_belowV HOH.out HB17.out
            have hcg := own_cells hOW p (by omega)
            rw [Nat.zero_add, getD_iL] at hcg
            have hfz := hOW.frozenAt p
            have hst := (hOW.stored p (.int .u8 (toI (co H p + y)))).1
            rw [map_set_u8, show (iL H).set p (toI (co H p + y)) = iL (H.set p (co H p + y)) by simp [iL, List.map_set]] at hst
            have HST := Lib.hid hst
            have hgl := (HOH.out.lt gW rfl).1
            have hgh := (HOH.out.lt gW rfl).2
            have HBS := Lib.hid ((bt HB14.out HB17.out).setCell (p := ⟨gW, p, none⟩) (by have := HW9.out; show w.heap.size ≤ gW; omega) (.int .u8 (toI (co H p + y))))
            have HB918 := Lib.hid ((HB911.out.trans (HB17.out.mono HB911.out.size)).setCell (p := ⟨gW, p, none⟩) hgl (.int .u8 (toI (co H p + y))))
            have HM18 := Lib.hid (((HMB.out.on HBQ.out).but (gb_set _ gW p (.int .u8 (toI (co H p + y)))) hgh).mat)
            have HY0 := Lib.hid hy0
            have HPM := Lib.hid (show p < m by omega)
            have hbt := bits_xor_G (co H p) y
            have k1 : ∀ [Inhabited Unit], (IntKind.u64.wrap u).tmod (m : Int) = (p : Int) := hp1
            have k2 : ∀ [Inhabited Unit], (IntKind.u64.wrap u) % (m : Int) = (p : Int) := hp2
            have k3 : ∀ [Inhabited Unit], (IntKind.u64.wrap u).tmod 255 = (r : Int) := hr1
            have k4 : ∀ [Inhabited Unit], (IntKind.u64.wrap u) % 255 = (r : Int) := hr2
            have hoc := HOC.out
            clear hp1 hp2 hr1 hr2 hst hOW hy0 hgl hgh
            go_upto_region 36 with fail
            clear k1 k2 k3 k4 hy hbt hcg hfz hr3
            obtain ⟨w18, h18⟩ : ∃ V, V = World.setCell w17 ⟨gW, p, none⟩ (.int .u8 (toI (co H p + y))) := ⟨_, rfl⟩
            rw [← h18] at HST HBS HB918 HM18
            try rw [← h18]
            clear h18
            obtain ⟨H2, hH2⟩ : ∃ H2, H2 = H.set p (co H p + y) := ⟨_, rfl⟩
            rw [← hH2] at HST
            have HH2 := Lib.hid hH2
            clear hH2
            have HPH2 := Lib.hid (Pa.own HST.out)
            have HS3 := Lib.hid (splitC b T n m q (some ⟨g2, 0, none⟩) n O' (some ⟨gW, 0, none⟩) cW H2 aU cU U w18 (HF9.out.below HB918.out) (HK29.out.on HB918.out) (by obtain ⟨a', c', e, hp, _⟩ := HPH2.out; cases e; exact hp) (HPU9.out.on HB918.out) HTQ.out.1 HTQ.out.2.1 HTQ.out.2.2.1 HUZ.out HTQ.out.2.2.2.1 HTQ.out.2.2.2.2)
            go_upto_region 38 with (go_at_call 12; go_loud ((with_reducible refine HS3.out.mono ?_); rintro e w19 ⟨a19, c19, rfl, hm19, hb19⟩; have HM19 := Lib.hid hm19.mat; have HB19 := Lib.hid hb19; clear hm19 hb19))
            clear HS3
            have HMC := Lib.hid (HM18.out.on HB19.out)
            have HBF := Lib.hid (bt HBS.out HB19.out)
            have HSH := Lib.hid (fun k (hk : k < q) => show rw_ (shM T n S M' U) k = shR T n O' H (co U k) from (by
              rw [shM_row (by rw [HLU.out]; exact hk), HHE.out]
              exact (sh_hid HTQ.out.1 (by rw [HPL.out, show T - 1 = q by have := HQ.out; omega]) (fun j hj => by rw [HVE.out]; exact van_ge (by have := HQ.out; omega)) HV0.out (by rw [HVE.out]; exact van_at HLU.out hk)).symm))
            have HHL := Lib.hid (show H.length = (T - 1) * n by rw [HHE.out, hid_len, HPL.out, show T - 1 = q by have := HQ.out; omega])
            have HCN := Lib.hid (changed_not (S := O') HTQ.out.1 HHL.out (show U.length = T - 1 by rw [HLU.out]; have := HQ.out; omega) HGU.out.1 HGU.out.2.1 (show p < H.length by rw [HHL.out, ← HTQ.out.2.2.1]; exact HPM.out) HY0.out)
            rw [← HH2.out] at HCN
            go_loopw [215] (fun s wr => ∃ i : Nat, i ≤ q ∧ s = .int .i64 (i : Nat) ∧ Hid (∀ j, j < i → rw_ (shM T n S M' U) j = rw_ (shM T n O' H2 U) j) ∧ Hid (Below w19.heap.size w19 wr)) (fun s _ => q - (intOf s).toNat)
            case atStart => exact ⟨0, Nat.zero_le _, rfl, Lib.hid (fun j hj => absurd hj (Nat.not_lt_zero _)), Lib.hid (Below.refl _ _)⟩
            case round =>
              obtain ⟨k, hk, rfl, hS, hB⟩ := hrel
              rename World => w20
              by_cases hlt : k < q
              · have hkU : k < U.length := by rw [HLU.out]; exact hlt
                obtain ⟨R, hR⟩ : ∃ R, R = rw_ (shM T n S M' U) k := ⟨_, rfl⟩
                obtain ⟨R2, hR2⟩ : ∃ R2, R2 = rw_ (shM T n O' H2 U) k := ⟨_, rfl⟩
                have hRl : R.length = n := by rw [hR]; exact rw_shM_len hkU
                have hRl2 : R2.length = n := by rw [hR2]; exact rw_shM_len hkU
                obtain ⟨b7, off7, a7, c7, rfl, hb7, hcell7, hpa7⟩ := HMC.out.row hlt
                obtain ⟨b8, off8, a8, c8, rfl, hb8, hcell8, hpa8⟩ := HM19.out.row hlt
                rw [← hR, hRl] at hcell7 hpa7
                rw [← hR2, hRl2] at hcell8 hpa8
                have hcr7 : ∀ j, (World.drewN w20 j).cell? ⟨b7, off7 + k, none⟩ = some (.slice a7 n c7) := fun j => (hB.out.cell (p := ⟨b7, off7 + k, none⟩) hb7).trans hcell7
                have hcr8 : ∀ j, (World.drewN w20 j).cell? ⟨b8, off8 + k, none⟩ = some (.slice a8 n c8) := fun j => (hB.out.cell (p := ⟨b8, off8 + k, none⟩) hb8).trans hcell8
                have hcr7' := hcr7 0
                have hcr8' := hcr8 0
                have hcv7 : ∀ j, (convert 22 9 (.slice a7 n c7)).run Try.prog (World.drewN w20 j) = .ok (.string (strOfNums (iL R))) (World.drewN w20 j) := fun j => hpa7.str_on rfl _ (below_drewN hB.out _)
                have hcv8 : ∀ j, (convert 22 9 (.slice a8 n c8)).run Try.prog (World.drewN w20 j) = .ok (.string (strOfNums (iL R2))) (World.drewN w20 j) := fun j => hpa8.str_on rfl _ (below_drewN hB.out _)
                have qk : (k : Int) < (q : Int) := by omega
                have qk0 : (0 : Int) ≤ (k : Int) := by omega
                by_cases hee : R = R2
                · have HEE := Lib.hid (show ∀ j, j < k + 1 → rw_ (shM T n S M' U) j = rw_ (shM T n O' H2 U) j from fun j hj => by
                    by_cases e : j = k
                    · rw [e, ← hR, ← hR2]; exact hee
                    · exact hS.out j (by omega))
                  rw [← hee] at hcv8
                  clear hcell7 hcell8 hpa7 hpa8 hR hR2 hRl hRl2 hkU hee
                  go_wp2_with fail
                  go_quiet (fail)
                  go_wp2
                  go_roundw
                  case rel => exact ⟨k + 1, by omega, by go_num, HEE, Lib.hid (below_drewN hB.out _)⟩
                  case measure => simp [intOf]; omega
                · have hsn := str_ne (allB_iL R) (allB_iL R2) (fun e => hee (iL_inj e))
                  obtain ⟨s1, hs1⟩ : ∃ s, s = strOfNums (iL R) := ⟨_, rfl⟩
                  obtain ⟨s2, hs2⟩ : ∃ s, s = strOfNums (iL R2) := ⟨_, rfl⟩
                  rw [← hs1] at hcv7 hsn
                  rw [← hs2] at hcv8 hsn
                  have HBE := Lib.hid (bt HBF.out hB.out)
                  clear hcell7 hcell8 hpa7 hpa8 hR hR2 hRl hRl2 hkU hee hs1 hs2
                  go_wp2_with fail
                  go_quiet (fail)
                  go_wp2
                  go_ret
                  exact ⟨rfl, below_drewN HBE.out _⟩
              · obtain rfl : q = k := by omega
                exfalso
                obtain ⟨j, hj, hne⟩ := HCN.out
                rw [HLU.out] at hj
                refine hne ?_
                have e1 := HSH.out j hj
                have e2 := hS.out j hj
                rw [e1, shM_row (by rw [HLU.out]; exact hj)] at e2
                exact e2
end Go.Proofs.Ytmhknggjpggagaa
