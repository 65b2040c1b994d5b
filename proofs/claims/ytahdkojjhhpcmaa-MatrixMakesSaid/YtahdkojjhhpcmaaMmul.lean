/- Contracts of the document's own Mul of rows by rows, and of the laws' same. -/
import Derived.Test.YtahdkojjhhpcmaaMrk
namespace Go.Proofs.Ytahdkojjhhpcmaa
open Go.ChangeShapes Go.WideShapes Go.ChangeAt Go.RowKit Go.Shelf GF
set_option linter.unusedVariables false

/-- A row times rows, the first q columns. -/
def mrow (r : List GF) (O : List (List GF)) (q : Nat) : List GF := (List.range q).map fun c => dt r.length (co r) (fun j => ent O j c)
def mulM (M O : List (List GF)) (m : Nat) (k : Nat) : List (List GF) := (List.range k).map fun i => mrow (rw_ M i) O m
theorem length_mrow (r : List GF) (O : List (List GF)) (q : Nat) : (mrow r O q).length = q := by simp [mrow]
theorem length_mulM (M O : List (List GF)) (m k : Nat) : (mulM M O m k).length = k := by simp [mulM]
theorem mrow_step (r : List GF) (O : List (List GF)) (q : Nat) : mrow r O (q + 1) = mrow r O q ++ [dt r.length (co r) (fun j => ent O j q)] := by simp [mrow, List.range_succ]
theorem mulM_step (M O : List (List GF)) (m k : Nat) : mulM M O m (k + 1) = mulM M O m k ++ [mrow (rw_ M k) O m] := by simp [mulM, List.range_succ]
theorem rw_mulM {M O : List (List GF)} {m k i : Nat} (h : i < k) : rw_ (mulM M O m k) i = mrow (rw_ M i) O m := by
  unfold rw_ mulM
  simp [List.getD_eq_getElem?_getD, h]
  rfl
theorem co_mrow {r : List GF} {O : List (List GF)} {q c : Nat} (h : c < q) : co (mrow r O q) c = dt r.length (co r) (fun j => ent O j c) := by
  unfold mrow
  simp [co, List.getD_eq_getElem?_getD, h]

set_option maxRecDepth 10000 in
set_option maxHeartbeats 4000000 in
theorem rmmul_any (a : Option Addr) (n c : Nat) (M : List (List GF)) (a2 : Option Addr) (n2 c2 : Nat) (O : List (List GF)) (m : Nat) (w : World) (hm : Mat w a n c M) (hw : Wide M n2) (hm2 : Mat w a2 n2 c2 O) (hw2 : Wide O m) (hn0 : 1 ≤ n2) (hn : n ≤ 1000) (hn2 : n2 ≤ 1000) (hm1 : m ≤ 1000) :
    Calls Try.prog 22 #[.slice a n c, .slice a2 n2 c2] w fun e w' => ∃ v vs, e = .returned v ∧ w'.ownsRow w.heap.size 22 1 v n vs ∧ RV8 w' vs (mulM M O m n) ∧ Below w.heap.size w w' := by
  have HM := Lib.hid hm
  have HO := Lib.hid hm2
  have hb1 := hm.bd
  have hb2 := hm2.bd
  have Hl := Lib.hid hm.len
  have Hl2 := Lib.hid hm2.len
  have HW := Lib.hid hw
  have HW2 := Lib.hid hw2
  obtain ⟨i22, hi, hz0, hz1, hz2⟩ := info_parts info22
  have HI := Lib.hid (And.intro hi (And.intro hz0 (And.intro hz1 hz2)))
  obtain ⟨i5, hi5, hy0, hy1, hy2⟩ := info_parts info5
  have HJ := Lib.hid (And.intro hi5 (And.intro hy0 (And.intro hy1 hy2)))
  obtain ⟨b2, off2, a0, c0, rfl, hbo, hcell0, hpa0⟩ := hm2.row (i := 0) (by omega)
  rw [hw2 0 (by rw [hm2.len]; omega), Nat.add_zero] at hcell0
  rw [hw2 0 (by rw [hm2.len]; omega)] at hpa0
  have HC0 := Lib.hid hcell0
  have hbp0 := hpa0.bd
  have q0 : (0 : Int) < (n2 : Int) := by omega
  clear hi hz0 hz1 hz2 hm hw hi5 hy0 hy1 hy2 hcell0 hpa0 hm2 hw2
  go_enter Try.func22, Try.ntmps22
  go_wp2
  go_loopw [15, 5] (fun j o wr => ∃ (i : Nat) (ao : Option Addr) (cc : Nat) (vs : List Value), i ≤ n ∧ j = .int .i64 (i : Nat) ∧ o = .slice ao (i : Nat) cc ∧ Hid (wr.ownsRow w.heap.size 22 1 (.slice ao (i : Nat) cc) i vs) ∧ Hid (RV8 wr vs (mulM M O m i)) ∧ Hid (Below w.heap.size w wr))
    (fun j _ _ => n - (intOf j).toNat)
  case atStart =>
    refine ⟨0, some ⟨w.heap.size, 0, none⟩, 0, [], Nat.zero_le _, rfl, rfl, Lib.hid ?_, Lib.hid (RV.nil _ _), Lib.hid ((Below.refl _ _).alloc (Nat.le_refl _) _)⟩
    exact World.ownsRow_lit (base := w.heap.size) (e := 22) (size := 1) w #[] 0 (Nat.le_refl _) (Nat.zero_le _) rfl
  case round =>
    obtain ⟨i, ao, cc, vs, hi, rfl, rfl, hO, hV, hB3⟩ := hrel
    by_cases hlt : i < n
    · have qi : (i : Int) < (n : Int) := by omega
      have qi0 : (0 : Int) ≤ (i : Int) := by omega
      obtain ⟨b3, off3, ai3, ci3, rfl, hb3, hcell3, hpa3⟩ := HM.out.row hlt
      have hlen3 : (rw_ M i).length = n2 := HW.out i (by have := Hl.out; omega)
      rw [hlen3] at hcell3 hpa3
      have hcr := (hB3.out.cell (p := ⟨b3, off3 + i, none⟩) hb3).trans hcell3
      have hc1 := (hB3.out.cell (p := ⟨b2, off2, none⟩) hbo).trans HC0.out
      have hbw : b2 < wr.heap.size := by have := hB3.out.size; omega
      have hca := (Below.cell (cp6 wr 5) (p := ⟨b2, off2, none⟩) hbw).trans hc1
      have HP3 := Lib.hid hpa3
      have Hlen3 := Lib.hid hlen3
      have hbp3 := hpa3.bd
      obtain ⟨r, hr⟩ : ∃ r, r = rw_ M i := ⟨_, rfl⟩
      rw [← hr] at HP3 Hlen3
      have Hr := Lib.hid hr
      clear hcell3 hpa3 hlen3 hr
      rename World => w1
      go_wp2
      go_loopw [24, 8] (fun j o wr => ∃ (q : Nat) (a4 : Option Addr) (c4 : Nat), q ≤ m ∧ j = .int .i64 (q : Nat) ∧ o = .slice a4 (q : Nat) c4 ∧ Hid (wr.ownsRow w1.heap.size 5 1 (.slice a4 (q : Nat) c4) q ((iL (mrow r O q)).map (Value.int .u8))) ∧ Hid (Below w1.heap.size w1 wr))
        (fun j _ _ => m - (intOf j).toNat)
      case atStart => exact ⟨0, some ⟨w1.heap.size, 0, none⟩, 0, Nat.zero_le _, rfl, rfl, Lib.hid (own_empty w1 _), Lib.hid ((Below.refl _ _).alloc (Nat.le_refl _) _)⟩
      case round =>
        obtain ⟨q, a4, c4, hq, rfl, rfl, hR4, hB4⟩ := hrel
        by_cases hlt4 : q < m
        · have qq : (q : Int) < (m : Int) := by omega
          have qq0 : (0 : Int) ≤ (q : Int) := by omega
          go_wp2
          go_loopw [29, 10] (fun j x wr => ∃ k : Nat, k ≤ n2 ∧ j = .int .i64 (k : Nat) ∧ x = .int .u8 (toI (dt k (co r) (fun j => ent O j q))) ∧ Hid (wr.ownsRow w1.heap.size 5 1 (.slice a4 (q : Nat) c4) q ((iL (mrow r O q)).map (Value.int .u8))) ∧ Hid (Below w1.heap.size w1 wr))
            (fun j _ _ => n2 - (intOf j).toNat)
          case atStart => exact ⟨0, Nat.zero_le _, rfl, rfl, hR4, hB4⟩
          case round =>
            obtain ⟨k, hk, rfl, rfl, hR5, hB5⟩ := hrel
            by_cases hlt5 : k < n2
            · obtain ⟨bx, ox, rfl, hbx, hcx⟩ := (HP3.out.on (bt hB3.out hB5.out)).at_ hlt5
              obtain ⟨b6, off6, a6, c6, hbe, hb6, hcell6, hpa6⟩ := HO.out.row hlt5
              cases hbe
              have hlen6 : (rw_ O k).length = m := HW2.out k (by have := Hl2.out; omega)
              rw [hlen6] at hcell6 hpa6
              have hcy := ((bt hB3.out hB5.out).cell (p := ⟨b2, off2 + k, none⟩) hb6).trans hcell6
              obtain ⟨by', oy, rfl, hby, hcz⟩ := (hpa6.on (bt hB3.out hB5.out)).at_ hlt4
              have hbp6 := hpa6.bd
              have qk : (k : Int) < (n2 : Int) := by omega
              have qk0 : (0 : Int) ≤ (k : Int) := by omega
              have hd : dt (k + 1) (co r) (fun j => ent O j q) = dt k (co r) (fun j => ent O j q) + co r k * co (rw_ O k) q := rfl
              have HD := Lib.hid hd
              have hbt := fun (p q : GF) => bits_xor_G' p q
              clear hd hcell6 hpa6 hlen6
              go_wp2_with fail
              go_quiet ((go_at_call 46; exact Calls.quiet_of_same ((rmul_G _ _ _).mono fun _ _ ⟨he, hw⟩ => ⟨he, hw.symm⟩)))
              go_wp2
              go_roundw
              case rel => exact ⟨k + 1, by omega, by go_num, by rw [HD.out], Lib.hid hR5.out, Lib.hid (below_drewN hB5.out _)⟩
              case measure => simp [intOf]; omega
            · obtain rfl : n2 = k := by omega
              have hms := mrow_step r O q
              rw [Hlen3.out] at hms
              have HMS := Lib.hid hms
              clear hms
              go_wp2_with ((with_reducible show wpList _ _ _ (⟨some 50, _, _, _, _, _⟩ :: _) _ _); go_loud (refine wpList_append_bs _ rfl (.tmp 47) (.tmp 49) 22 rfl w1.heap.size 5 i5 Try.underlying22 HJ.out.1 HJ.out.2.1 HJ.out.2.2.1 HJ.out.2.2.2 _ q (iL (mrow r O q)) rfl (hR5.out.alloc _) _ 1 1 _ _ rfl (one_bs _ _) rfl (fun h => by cases h) (by omega) (by have := hB5.out.size; simp; omega) ?_); go_loud (intro v1 wc hown1 hg1; have hbel := (hB5.out.alloc hB5.out.size (.cells #[.int .u8 (toI (dt n2 (co r) (fun j => ent O j q)))] 5)).grown hg1 (by have := hB5.out.size; simp; omega) (fun z hz => (hR5.out.lt z hz).1); obtain ⟨a1, c1, hv1, _, _, _, _, _⟩ := own_form hown1; subst hv1; have HO1 := Lib.hid hown1; have HN1 := Lib.hid hbel; clear hown1 hg1 hbel))
              go_roundw
              case rel => exact ⟨q + 1, a1, c1, by omega, by go_num, rfl, Lib.hid (by rw [HMS.out]; simpa [iL] using HO1.out), HN1⟩
              case measure => simp [intOf]; omega
        · obtain rfl : m = q := by omega
          have hms := mulM_step M O m i
          rw [← Hr.out] at hms
          have hor := hR4.out
          have hlr := length_mrow r O m
          rw [← hlr] at hor
          have h2 := (hV.out.below hB4.out).more (P := mrow r O m) (by rw [hlr] at hor ⊢; exact hor)
          rw [hlr, ← hms] at h2
          have HV2 := Lib.hid h2
          have HO2 := Lib.hid (own_below hO.out hB4.out)
          have HB5 := Lib.hid (bt hB3.out hB4.out)
          clear hms hlr hor h2
          go_wp2_with ((with_reducible show wpList _ _ _ (⟨some 55, _, _, _, _, _⟩ :: _) _ _); go_loud (refine wpList_append_own _ rfl (.tmp 52) (.tmp 54) 31 rfl w.heap.size 22 i22 (.slice none 0 0) 1 24 Try.underlying31 HI.out.1 HI.out.2.1 HI.out.2.2.1 HI.out.2.2.2 rfl (by decide) _ i vs rfl (HO2.out.alloc _) _ 1 1 [_] rfl rfl (lit_cells _ _ _) (by intro u hu; cases List.mem_singleton.1 hu; rfl) (by unfold maxLen; omega) (by omega) (by have := HB5.out.size; simp; omega) ?_); go_loud (intro v1 wc hown1 hg1 _; have hbel := (HB5.out.alloc HB5.out.size (.cells #[.slice a4 m c4] 22)).grown hg1 (by have := HB5.out.size; simp; omega) (fun z hz => (HO2.out.lt z hz).1); have hrv := (HV2.out.below ((Below.refl _ _).alloc (Nat.le_refl _) (.cells #[.slice a4 m c4] 22))).grown (HO2.out.alloc _) hg1; obtain ⟨a1, c1, hv1⟩ := own_slice hown1; subst hv1; have HO1 := Lib.hid hown1; have HN1 := Lib.hid hbel; have HRV := Lib.hid hrv; clear hown1 hg1 hbel hrv))
          go_roundw
          case rel => exact ⟨i + 1, a1, c1, _, by omega, by go_num, rfl, HO1, HRV, HN1⟩
          case measure => simp [intOf]; omega
    · obtain rfl : n = i := by omega
      go_wp2
      go_ret
      exact ⟨_, vs, rfl, hO.out, hV.out, hB3.out⟩

set_option maxHeartbeats 1000000 in
theorem same_any (a : Option Addr) (n c : Nat) (M : List (List GF)) (a2 : Option Addr) (c2 : Nat) (w : World) (hm : Mat w a n c M) (hm2 : Mat w a2 n c2 M) :
    Calls Try.prog 19 #[.slice a n c, .slice a2 n c2] w fun e w' => e = .returned (.bool true) ∧ Below w.heap.size w w' := by
  have HM := Lib.hid hm
  have HO := Lib.hid hm2
  have hb1 := hm.bd
  have hb2 := hm2.bd
  have qn : ((n : Int) != (n : Int)) = false := by simp
  clear hm hm2
  go_enter Try.func19, Try.ntmps19
  go_wp2
  go_loopw [13] (fun j wr => ∃ i : Nat, i ≤ n ∧ j = .int .i64 (i : Nat) ∧ Hid (Below w.heap.size w wr))
    (fun j _ => n - (intOf j).toNat)
  case atStart => exact ⟨0, Nat.zero_le _, rfl, Lib.hid (Below.refl _ _)⟩
  case round =>
    obtain ⟨i, hi, rfl, hB⟩ := hrel
    by_cases hlt : i < n
    · obtain ⟨b, off, ai, ci, rfl, hb, hcell, hpa⟩ := HM.out.row hlt
      obtain ⟨b2, off2, a3, c3, rfl, hb2', hcell2, hpa2⟩ := HO.out.row hlt
      have hcr : ∀ k, (wr.drewN k).cell? ⟨b, off + i, none⟩ = some (.slice ai (rw_ M i).length ci) := fun k => (hB.out.cell (p := ⟨b, off + i, none⟩) hb).trans hcell
      have hcr2 : ∀ k, (wr.drewN k).cell? ⟨b2, off2 + i, none⟩ = some (.slice a3 (rw_ M i).length c3) := fun k => (hB.out.cell (p := ⟨b2, off2 + i, none⟩) hb2').trans hcell2
      have hcv : ∀ k, (convert 22 9 (.slice ai (rw_ M i).length ci)).run Try.prog (wr.drewN k) = .ok (.string (strOfNums (iL (rw_ M i)))) (wr.drewN k) := fun k => hpa.str_on rfl _ (below_drewN hB.out _)
      have hcv2 : ∀ k, (convert 22 9 (.slice a3 (rw_ M i).length c3)).run Try.prog (wr.drewN k) = .ok (.string (strOfNums (iL (rw_ M i)))) (wr.drewN k) := fun k => hpa2.str_on rfl _ (below_drewN hB.out _)
      have qi : (i : Int) < (n : Int) := by omega
      have qi0 : (0 : Int) ≤ (i : Int) := by omega
      clear hcell hcell2 hpa hpa2
      go_wp2_with fail
      go_quiet (fail)
      go_wp2
      go_roundw
      case rel => exact ⟨i + 1, by omega, by go_num, Lib.hid (below_drewN hB.out _)⟩
      case measure => simp [intOf]; omega
    · obtain rfl : n = i := by omega
      go_wp2
      go_ret
      exact ⟨rfl, hB.out⟩
end Go.Proofs.Ytahdkojjhhpcmaa
