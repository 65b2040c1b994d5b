/- The walk of MatrixMakes: rows that make a matrix; all cases together. -/
import Derived.Test.YtahdkojjhhpcmaaMwm2
namespace Go.Proofs.Ytahdkojjhhpcmaa
open Go.ChangeShapes Go.WideShapes Go.ChangeAt Go.RowKit Go.Shelf GF
set_option linter.unusedVariables false
set_option linter.unusedSimpArgs false

set_option maxRecDepth 100000 in
set_option maxHeartbeats 8000000 in
theorem makes_ok (a : Option Addr) (n c m : Nat) (M : List (List GF)) (ap : Option Addr) (L cp : Nat) (ps : List Int) (w : World) (h : Mat w a n c M) (hp : IA w ap L cp ps) (hL : L ≤ 70) (hn : 1 ≤ n ∧ n ≤ 64) (hm : 1 ≤ m ∧ m ≤ 64) (hwd : Wide M m) :
    Calls Try.prog 4 #[.slice a n c, .slice ap L cp] w fun e w' => e = .returned (.bool true) ∧ Below w.heap.size w w' := by
  have H := Lib.hid h
  have HI := Lib.hid hp
  have HW := Lib.hid (fun i (hi : i < n) => hwd i (by rw [h.len]; exact hi))
  have HWD := Lib.hid hwd
  have hbd := h.bd
  have hib := hp.bd
  have HFE := Lib.hid (fun W (hW : Below w.heap.size w W) => few_yes a n c M W (H.out.on hW) (by omega) (fun i hi => by rw [HW.out i hi]; omega))
  have HNE := Lib.hid (fun W (hW : Below w.heap.size w W) => new_ok a n c m M W (H.out.on hW) hwd hn hm)
  obtain ⟨b, off, ai, ci, rfl, hb, hcell, hpa⟩ := h.row (i := 0) (by omega)
  rw [Nat.add_zero, HW.out 0 (by omega)] at hcell
  have q0 : ((n : Int) == 0) = false := by rw [beq_eq_false_iff_ne]; omega
  have q1 : ¬ (64 : Int) < (n : Int) := by omega
  have q2 : (0 : Int) < (n : Int) := by omega
  have q3 : ((m : Int) == 0) = false := by rw [beq_eq_false_iff_ne]; omega
  have q4 : ¬ (64 : Int) < (m : Int) := by omega
  have qmm : ((m : Int) != (m : Int)) = false := by simp
  clear h hpa hp hwd
  go_enter Try.func4, Try.ntmps4
  go_wp2_with (first
    | (go_at_call 9; refine (livesM_any _).mono ?_; rintro e w1 ⟨rfl, hb1⟩; have HB1 := Lib.hid hb1; clear hb1)
    | (go_at_call 16; refine (HFE.out _ HB1.out).mono ?_; rintro e w' ⟨rfl, rfl⟩)
    | (go_at_call 11; refine (HNE.out _ HB1.out).mono ?_; rintro e w2 ⟨m4, rfl, hm4, hb2⟩; have hc2 := ((bt HB1.out hb2).cell (p := ⟨b, off, none⟩) hb).trans hcell; have HM2 := Lib.hid hm4; have HB2 := Lib.hid (bt HB1.out hb2); clear hb2 hm4))
  go_loop [39, 7] (fun s x => ∃ i : Nat, i ≤ n ∧ s = .int .i64 (i : Nat) ∧ x = .int .i64 0) (fun s _ => n - (intOf s).toNat)
  case atStart => exact ⟨0, Nat.zero_le _, rfl, rfl⟩
  case round =>
    obtain ⟨i, hi, rfl, rfl⟩ := hrel
    by_cases hlt : i < n
    · obtain ⟨b', off', ai', ci', e, hb', hcell', hpa'⟩ := H.out.row hlt
      cases e
      rw [HW.out i hlt] at hcell'
      have hcr := (HB2.out.cell (p := ⟨b, off + i, none⟩) hb').trans hcell'
      have qi : (i : Int) < (n : Int) := by omega
      have qi0 : (0 : Int) ≤ (i : Int) := by omega
      clear hcell' hpa'
      go_wp2
      go_round
      case rel => exact ⟨i + 1, by omega, by go_num, rfl⟩
      case measure => simp [intOf]; omega
    · obtain rfl : n = i := by omega
      clear hc2 hcell
      by_cases hf : 1 ≤ L ∧ L ≤ 64
      · obtain ⟨jp, hj1, hj2, hj3⟩ := first_bad (fun i => 0 ≤ ps.getD i 0 ∧ ps.getD i 0 < (n : Int)) L
        have HOK := Lib.hid hj2
        have HBAD := Lib.hid hj3
        have qf1 : (1 : Int) ≤ (L : Int) := by omega
        have qf2 : (L : Int) ≤ 64 := by omega
        clear hj2 hj3
        by_cases hjp : jp < L
        · have HPK := Lib.hid ((pick_any m4 n m M ap L cp jp ps w2 HM2.out (HI.out.on HB2.out) hf hj1 HOK.out HBAD.out).mono (fun e w' (h : _) => show e = .returned (.tuple #[.pointer none, .int .i64 2]) ∧ Below w2.heap.size w2 w' from ⟨by rcases h.1 with ⟨_, h⟩ | ⟨h, _⟩; exact h; omega, h.2⟩))
          go_upto_region 18 with (go_at_call 18; go_loud (refine HPK.out.mono ?_); rintro e w3 ⟨rfl, hb3⟩; have HM3 := Lib.hid (HM2.out.on hb3); have HB3 := Lib.hid (bt HB2.out hb3); clear hb3)
          go_upto_region 19 with (fail)
          go_loop [115, 14] (fun s x => ∃ i : Nat, i ≤ L ∧ s = .int .i64 (i : Nat) ∧ ((i ≤ jp ∧ x = .bool true) ∨ (jp < i ∧ x = .bool false))) (fun s _ => L - (intOf s).toNat)
          case atStart => exact ⟨0, Nat.zero_le _, rfl, .inl ⟨Nat.zero_le _, rfl⟩⟩
          case round =>
            obtain ⟨k, hk, rfl, hx⟩ := hrel
            by_cases hlt2 : k < L
            · obtain ⟨b3, off3, rfl, hb3, hc3⟩ := (HI.out.on HB3.out).at_ hlt2
              have qk : (k : Int) < (L : Int) := by omega
              have qk0 : (0 : Int) ≤ (k : Int) := by omega
              obtain ⟨p, hp⟩ : ∃ p, p = ps.getD k 0 := ⟨_, rfl⟩
              rw [← hp] at hc3
              rcases hx with ⟨hij, rfl⟩ | ⟨hij, rfl⟩
              · by_cases hij2 : k < jp
                · have hpo := HOK.out k hij2
                  rw [← hp] at hpo
                  obtain ⟨qp0, qp1⟩ := hpo
                  clear hp
                  go_wp2
                  go_round
                  case rel => exact ⟨k + 1, by omega, by go_num, .inl ⟨by omega, rfl⟩⟩
                  case measure => simp [intOf]; omega
                · obtain rfl : jp = k := by omega
                  have hpo := HBAD.out hlt2
                  rw [← hp] at hpo
                  by_cases qp0 : 0 ≤ p
                  · have qp1 : ¬ p < (n : Int) := fun e => hpo ⟨qp0, e⟩
                    clear hp hpo
                    go_wp2
                    go_round
                    case rel => exact ⟨jp + 1, by omega, by go_num, .inr ⟨by omega, rfl⟩⟩
                    case measure => simp [intOf]; omega
                  · clear hp hpo
                    go_wp2
                    go_round
                    case rel => exact ⟨jp + 1, by omega, by go_num, .inr ⟨by omega, rfl⟩⟩
                    case measure => simp [intOf]; omega
              · clear hp
                go_wp2
                go_round
                case rel => exact ⟨k + 1, by omega, by go_num, .inr ⟨by omega, rfl⟩⟩
                case measure => simp [intOf]; omega
            · rcases hx with ⟨hij, rfl⟩ | ⟨hij, rfl⟩
              · exact absurd hij (by omega)
              · obtain rfl : L = k := by omega
                have qneg : ¬ (0 : Int) ≤ -1 := by omega
                go_upto_region 25 with (first
                  | (go_at_call 20; (with_reducible refine (rows_any m4 n m M w3 HM3.out).mono ?_); rintro e w4 ⟨v4, vs4, rfl, ho4, hv4, hb4⟩; obtain ⟨a4, c4, hav, hr4⟩ := Mat.own ho4 hv4; subst hav; have HR4 := Lib.hid hr4; have HB4 := Lib.hid (bt HB3.out hb4); have HM4 := Lib.hid (HM3.out.on hb4);  clear hb4 ho4 hv4 hr4)
                  | (go_at_call 19; (refine (same_any a4 n c4 M _ c w4 HR4.out (H.out.on HB4.out)).mono ?_); rintro e w5 ⟨rfl, hb5⟩; have HB5 := Lib.hid (bt HB4.out hb5); have HM5 := Lib.hid (HM4.out.on hb5);  clear hb5))
                go_upto_region 26 with (go_at_call 20; refine (rows_nil _).mono ?_; rintro e w' ⟨rfl, rfl⟩)
                go_loop [153] (fun s => s = .int .i64 0) (fun s => 0)
                case atStart => rfl
                case round =>
                  obtain rfl := hrel
                  go_wp2_with (first
                    | (go_at_call 21; (with_reducible refine (row_out m4 n m M (-1) w5 HM5.out (by omega)).mono ?_); rintro e w6 ⟨rfl, hb6⟩; have HB6 := Lib.hid (bt HB5.out hb6); have HM6 := Lib.hid (HM5.out.on hb6); clear hb6)
                    | (go_at_call 21; (with_reducible refine (row_out m4 n m M (n : Int) w6 HM6.out (by omega)).mono ?_); rintro e w7 ⟨rfl, hb7⟩; have HB7 := Lib.hid (bt HB6.out hb7); clear hb7))
                  go_ret
                  exact ⟨rfl, HB7.out⟩
        · obtain rfl : jp = L := by omega
          have HPK := Lib.hid ((pick_any m4 n m M ap jp cp jp ps w2 HM2.out (HI.out.on HB2.out) hf hj1 HOK.out HBAD.out).mono (fun e w' (h : _) => show (∃ a', e = .returned (.tuple #[.pointer a', .int .i64 0]) ∧ Mx w' a' jp m (mat (fun i k => ent M (ps.getD i 0).toNat k) jp m)) ∧ Below w2.heap.size w2 w' from ⟨by rcases h.1 with ⟨h, _⟩ | ⟨_, h⟩; omega; exact h, h.2⟩))
          go_upto_region 18 with (go_at_call 18; go_loud (refine HPK.out.mono ?_); rintro e w3 ⟨⟨m3, rfl, hp3⟩, hb3⟩; have HP3 := Lib.hid hp3; have HM3 := Lib.hid (HM2.out.on hb3); have HB3 := Lib.hid (bt HB2.out hb3); clear hb3 hp3)
          go_upto_region 19 with (fail)
          go_loop [115, 14] (fun s x => ∃ i : Nat, i ≤ jp ∧ s = .int .i64 (i : Nat) ∧ x = .bool true) (fun s _ => jp - (intOf s).toNat)
          case atStart => exact ⟨0, Nat.zero_le _, rfl, rfl⟩
          case round =>
            obtain ⟨k, hk, rfl, rfl⟩ := hrel
            by_cases hlt2 : k < jp
            · obtain ⟨b3, off3, rfl, hb3, hc3⟩ := (HI.out.on HB3.out).at_ hlt2
              have qk : (k : Int) < (jp : Int) := by omega
              have qk0 : (0 : Int) ≤ (k : Int) := by omega
              obtain ⟨p, hp⟩ : ∃ p, p = ps.getD k 0 := ⟨_, rfl⟩
              rw [← hp] at hc3
              have hpo := HOK.out k (by omega)
              rw [← hp] at hpo
              obtain ⟨qp0, qp1⟩ := hpo
              clear hp
              go_wp2
              go_round
              case rel => exact ⟨k + 1, by omega, by go_num, rfl⟩
              case measure => simp [intOf]; omega
            · obtain rfl : jp = k := by omega
              go_upto_region 25 with (first
                | (go_at_call 20; (with_reducible refine (rows_any m4 n m M w3 HM3.out).mono ?_); rintro e w4 ⟨v4, vs4, rfl, ho4, hv4, hb4⟩; obtain ⟨a4, c4, hav, hr4⟩ := Mat.own ho4 hv4; subst hav; have HR4 := Lib.hid hr4; have HB4 := Lib.hid (bt HB3.out hb4); have HM4 := Lib.hid (HM3.out.on hb4); have HP4 := Lib.hid (HP3.out.on hb4); clear hb4 ho4 hv4 hr4)
                | (go_at_call 19; (refine (same_any a4 n c4 M _ c w4 HR4.out (H.out.on HB4.out)).mono ?_); rintro e w5 ⟨rfl, hb5⟩; have HB5 := Lib.hid (bt HB4.out hb5); have HM5 := Lib.hid (HM4.out.on hb5); have HP5 := Lib.hid (HP4.out.on hb5); clear hb5))
              go_upto_region 26 with (go_at_call 20; go_loud (refine (rows_any m3 jp m _ _ HP5.out).mono ?_); rintro e w6 ⟨v6, vs6, rfl, ho6, hv6, hb6⟩; obtain ⟨a6, c6, hav, hr6⟩ := Mat.own ho6 hv6; subst hav; have HR6 := Lib.hid hr6; have HB6 := Lib.hid (bt HB5.out hb6); have HM6 := Lib.hid (HM5.out.on hb6); clear hb6 ho6 hv6 hr6)
              go_loopw [153] (fun s wr => ∃ i : Nat, i ≤ jp ∧ s = .int .i64 (i : Nat) ∧ Hid (Below w6.heap.size w6 wr)) (fun s _ => jp - (intOf s).toNat)
              case atStart => exact ⟨0, Nat.zero_le _, rfl, Lib.hid (Below.refl _ _)⟩
              case round =>
                obtain ⟨k, hk, rfl, hB⟩ := hrel
                by_cases hlt3 : k < jp
                · obtain ⟨b7, off7, a7, c7, rfl, hb7, hcell7, hpa7⟩ := HR6.out.row hlt3
                  rw [rw_mat hlt3, length_fl] at hcell7 hpa7
                  obtain ⟨b3, off3, rfl, hb3, hc3⟩ := ((HI.out.on HB6.out).on hB.out).at_ hlt3
                  have hpo := HOK.out k (by omega)
                  obtain ⟨p, hp⟩ : ∃ p : Nat, p = (ps.getD k 0).toNat := ⟨_, rfl⟩
                  have hpe : ps.getD k 0 = (p : Int) := by omega
                  rw [hpe] at hc3 hpo
                  rw [← hp] at hpa7
                  have hpn : p < n := by omega
                  have hfl : fl m (fun k => ent M p k) = rw_ M p := by
                    have e := mat_ent HM6.out.len HWD.out
                    have h1 := rw_mat (F := ent M) (m := m) hpn
                    rw [e] at h1
                    exact h1.symm
                  obtain ⟨b8, off8, a8, c8, e8, hb8, hcell8, hpa8⟩ := H.out.row hpn
                  cases e8
                  rw [HW.out p hpn] at hcell8 hpa8
                  have hBw := bt HB6.out hB.out
                  have hcr7 : ∀ j, (wr.drewN j).cell? ⟨b7, off7 + k, none⟩ = some (.slice a7 m c7) := fun j => (hB.out.cell (p := ⟨b7, off7 + k, none⟩) hb7).trans hcell7
                  have hcr7' : wr.cell? ⟨b7, off7 + k, none⟩ = some (.slice a7 m c7) := hcr7 0
                  have hcr8 : ∀ j, (wr.drewN j).cell? ⟨b, off + p, none⟩ = some (.slice a8 m c8) := fun j => (hBw.cell (p := ⟨b, off + p, none⟩) hb8).trans hcell8
                  have hcv7 : ∀ j, (convert 22 9 (.slice a7 m c7)).run Try.prog (wr.drewN j) = .ok (.string (strOfNums (iL (rw_ M p)))) (wr.drewN j) := fun j => hpa7.str_on hfl _ (below_drewN hB.out _)
                  have hcv8 : ∀ j, (convert 22 9 (.slice a8 m c8)).run Try.prog (wr.drewN j) = .ok (.string (strOfNums (iL (rw_ M p)))) (wr.drewN j) := fun j => hpa8.str_on rfl _ (below_drewN hBw _)
                  have hc3' : ∀ j, (wr.drewN j).cell? ⟨b3, off3 + k, none⟩ = some (.int .i64 (p : Nat)) := fun j => hc3
                  have qk : (k : Int) < (jp : Int) := by omega
                  have qk0 : (0 : Int) ≤ (k : Int) := by omega
                  have qp : (p : Int) < (n : Int) := by omega
                  have qp0 : (0 : Int) ≤ (p : Int) := by omega
                  clear hcell7 hcell8 hpa7 hpa8 hp hpe hpo hfl hBw
                  go_wp2_with fail
                  go_quiet (fail)
                  go_wp2
                  go_roundw
                  case rel => exact ⟨k + 1, by omega, by go_num, Lib.hid (below_drewN hB.out _)⟩
                  case measure => simp [intOf]; omega
                · obtain rfl : jp = k := by omega
                  have HMw := Lib.hid (HM6.out.on hB.out)
                  go_wp2_with (first
                    | (go_at_call 21; (with_reducible refine (row_out m4 n m M (-1) wr HMw.out (by omega)).mono ?_); rintro e w7 ⟨rfl, hb7⟩; have HB7 := Lib.hid (bt (bt HB6.out hB.out) hb7); have HM7 := Lib.hid (HMw.out.on hb7); clear hb7)
                    | (go_at_call 21; (with_reducible refine (row_out m4 n m M (n : Int) w7 HM7.out (by omega)).mono ?_); rintro e w8 ⟨rfl, hb8⟩; have HB8 := Lib.hid (bt HB7.out hb8); clear hb8))
                  go_ret
                  exact ⟨rfl, HB8.out⟩
      · have HPK := Lib.hid (pick_len m4 n m M ap L cp w2 HM2.out hf (by omega))
        by_cases hf1 : 1 ≤ L
        · have qf1 : (1 : Int) ≤ (L : Int) := by omega
          have qf2 : ¬ (L : Int) ≤ 64 := by omega
          have qfd : decide ((L : Int) ≤ 64) = false := by simp; omega
          clear hf hf1
          go_upto_region 18 with (go_at_call 18; go_loud (refine HPK.out.mono ?_); rintro e w3 ⟨rfl, hb3⟩; have HM3 := Lib.hid (HM2.out.on hb3); have HB3 := Lib.hid (bt HB2.out hb3); clear hb3)
          go_upto_region 19 with (fail)
          go_loop [115, 14] (fun s x => ∃ i : Nat, i ≤ L ∧ s = .int .i64 (i : Nat) ∧ x = .bool false) (fun s _ => L - (intOf s).toNat)
          case atStart => exact ⟨0, Nat.zero_le _, rfl, rfl⟩
          case round =>
            obtain ⟨k, hk, rfl, rfl⟩ := hrel
            by_cases hlt2 : k < L
            · obtain ⟨b3, off3, rfl, hb3, hc3⟩ := (HI.out.on HB3.out).at_ hlt2
              have qk : (k : Int) < (L : Int) := by omega
              have qk0 : (0 : Int) ≤ (k : Int) := by omega
              go_wp2
              go_round
              case rel => exact ⟨k + 1, by omega, by go_num, rfl⟩
              case measure => simp [intOf]; omega
            · obtain rfl : L = k := by omega
              have qneg : ¬ (0 : Int) ≤ -1 := by omega
              go_upto_region 25 with (first
                | (go_at_call 20; (with_reducible refine (rows_any m4 n m M w3 HM3.out).mono ?_); rintro e w4 ⟨v4, vs4, rfl, ho4, hv4, hb4⟩; obtain ⟨a4, c4, hav, hr4⟩ := Mat.own ho4 hv4; subst hav; have HR4 := Lib.hid hr4; have HB4 := Lib.hid (bt HB3.out hb4); have HM4 := Lib.hid (HM3.out.on hb4);  clear hb4 ho4 hv4 hr4)
                | (go_at_call 19; (refine (same_any a4 n c4 M _ c w4 HR4.out (H.out.on HB4.out)).mono ?_); rintro e w5 ⟨rfl, hb5⟩; have HB5 := Lib.hid (bt HB4.out hb5); have HM5 := Lib.hid (HM4.out.on hb5);  clear hb5))
              go_upto_region 26 with (go_at_call 20; refine (rows_nil _).mono ?_; rintro e w' ⟨rfl, rfl⟩)
              go_loop [153] (fun s => s = .int .i64 0) (fun s => 0)
              case atStart => rfl
              case round =>
                obtain rfl := hrel
                go_wp2_with (first
                  | (go_at_call 21; (with_reducible refine (row_out m4 n m M (-1) w5 HM5.out (by omega)).mono ?_); rintro e w6 ⟨rfl, hb6⟩; have HB6 := Lib.hid (bt HB5.out hb6); have HM6 := Lib.hid (HM5.out.on hb6); clear hb6)
                  | (go_at_call 21; (with_reducible refine (row_out m4 n m M (n : Int) w6 HM6.out (by omega)).mono ?_); rintro e w7 ⟨rfl, hb7⟩; have HB7 := Lib.hid (bt HB6.out hb7); clear hb7))
                go_ret
                exact ⟨rfl, HB7.out⟩
        · have qf1 : ¬ (1 : Int) ≤ (L : Int) := by omega
          clear hf hf1
          go_upto_region 18 with (go_at_call 18; go_loud (refine HPK.out.mono ?_); rintro e w3 ⟨rfl, hb3⟩; have HM3 := Lib.hid (HM2.out.on hb3); have HB3 := Lib.hid (bt HB2.out hb3); clear hb3)
          go_upto_region 19 with (fail)
          go_loop [115, 14] (fun s x => ∃ i : Nat, i ≤ L ∧ s = .int .i64 (i : Nat) ∧ x = .bool false) (fun s _ => L - (intOf s).toNat)
          case atStart => exact ⟨0, Nat.zero_le _, rfl, rfl⟩
          case round =>
            obtain ⟨k, hk, rfl, rfl⟩ := hrel
            by_cases hlt2 : k < L
            · obtain ⟨b3, off3, rfl, hb3, hc3⟩ := (HI.out.on HB3.out).at_ hlt2
              have qk : (k : Int) < (L : Int) := by omega
              have qk0 : (0 : Int) ≤ (k : Int) := by omega
              go_wp2
              go_round
              case rel => exact ⟨k + 1, by omega, by go_num, rfl⟩
              case measure => simp [intOf]; omega
            · obtain rfl : L = k := by omega
              have qneg : ¬ (0 : Int) ≤ -1 := by omega
              go_upto_region 25 with (first
                | (go_at_call 20; (with_reducible refine (rows_any m4 n m M w3 HM3.out).mono ?_); rintro e w4 ⟨v4, vs4, rfl, ho4, hv4, hb4⟩; obtain ⟨a4, c4, hav, hr4⟩ := Mat.own ho4 hv4; subst hav; have HR4 := Lib.hid hr4; have HB4 := Lib.hid (bt HB3.out hb4); have HM4 := Lib.hid (HM3.out.on hb4);  clear hb4 ho4 hv4 hr4)
                | (go_at_call 19; (refine (same_any a4 n c4 M _ c w4 HR4.out (H.out.on HB4.out)).mono ?_); rintro e w5 ⟨rfl, hb5⟩; have HB5 := Lib.hid (bt HB4.out hb5); have HM5 := Lib.hid (HM4.out.on hb5);  clear hb5))
              go_upto_region 26 with (go_at_call 20; refine (rows_nil _).mono ?_; rintro e w' ⟨rfl, rfl⟩)
              go_loop [153] (fun s => s = .int .i64 0) (fun s => 0)
              case atStart => rfl
              case round =>
                obtain rfl := hrel
                go_wp2_with (first
                  | (go_at_call 21; (with_reducible refine (row_out m4 n m M (-1) w5 HM5.out (by omega)).mono ?_); rintro e w6 ⟨rfl, hb6⟩; have HB6 := Lib.hid (bt HB5.out hb6); have HM6 := Lib.hid (HM5.out.on hb6); clear hb6)
                  | (go_at_call 21; (with_reducible refine (row_out m4 n m M (n : Int) w6 HM6.out (by omega)).mono ?_); rintro e w7 ⟨rfl, hb7⟩; have HB7 := Lib.hid (bt HB6.out hb7); clear hb7))
                go_ret
                exact ⟨rfl, HB7.out⟩

theorem makes_core (a : Option Addr) (n c : Nat) (M : List (List GF)) (ap : Option Addr) (L cp : Nat) (ps : List Int) (w : World) (h : Mat w a n c M) (hp : IA w ap L cp ps) :
    Calls Try.prog 4 #[.slice a n c, .slice ap L cp] w fun e w' => e = .returned (.bool true) ∧ Below w.heap.size w w' := by
  by_cases hno : n ≤ 66 ∧ (∀ i, i < n → (rw_ M i).length ≤ 66) ∧ L ≤ 70
  · obtain ⟨h1, h2, h3⟩ := hno
    by_cases hn : 1 ≤ n ∧ n ≤ 64
    · by_cases hm : 1 ≤ (rw_ M 0).length ∧ (rw_ M 0).length ≤ 64
      · obtain ⟨jb, j1, j2, j3⟩ := first_bad (fun i => (rw_ M i).length = (rw_ M 0).length) n
        by_cases hjb : jb < n
        · exact makes_arg a n c (rw_ M 0).length jb M ap L cp w h h2 h3 hn hm rfl hjb j2 (j3 hjb)
        · exact makes_ok a n c (rw_ M 0).length M ap L cp ps w h hp h3 hn hm (fun i hi => j2 i (by rw [h.len] at hi; omega))
      · exact makes_wide a n c M ap L cp w h h2 h3 hn hm
    · exact makes_many a n c M ap L cp w h h1 h2 h3 hn
  · exact makes_out a n c M ap L cp w h hp.bd hno
end Go.Proofs.Ytahdkojjhhpcmaa
