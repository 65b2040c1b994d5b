/- The law's spoil: bytes of which some are changed, each once. -/
import Derived.Test.YtfmjfdbbjggcpaaRc
import Derived.Test.YtfmjfdbbjggcpaaQ4
import Derived.BigQuiet
import Derived.Deep.QuietTactic
import Derived.StillTailTactics
namespace Go.Proofs.Ytfmjfdbbjggcpaa
open Go.ChangeShapes Go.WideShapes Go.ChangeAt Go.RowKit Go.Shelf GF
set_option linter.unusedVariables false
set_option linter.unusedSimpArgs false
set_option maxRecDepth 100000

/-- At how many of the first L numbers two rows differ. -/
def dfL (Y O : List GF) (L : Nat) : List Nat := (List.range L).filter fun k => decide (co O k ≠ co Y k)
theorem dfL_self (Y : List GF) (L : Nat) : (dfL Y Y L).length = 0 := by unfold dfL; simp
theorem filter_one {α : Type} [DecidableEq α] {f g : α → Bool} {a : α} : ∀ {l : List α}, l.Nodup → a ∈ l → f a = false → g a = true → (∀ x, x ≠ a → g x = f x) → (l.filter g).length = (l.filter f).length + 1
  | [], _, h, _, _, _ => by cases h
  | x :: l, hn, hm, hf, hg, he => by
    obtain ⟨h1, h2⟩ := List.nodup_cons.1 hn
    by_cases e : x = a
    · subst e
      have : l.filter g = l.filter f := List.filter_congr fun y hy => he y (fun e => h1 (e ▸ hy))
      simp [hf, hg, this]
    · have ih := filter_one (f := f) (g := g) h2 ((List.mem_cons.1 hm).resolve_left (fun h => e h.symm)) hf hg he
      have hx := he x e
      cases hfx : f x <;> simp [hx, hfx, ih]
theorem dfL_set {Y O : List GF} {L k : Nat} {c : GF} (hO : O.length = L) (hk : k < L) (he : co O k = co Y k) (hc : c ≠ 0) : (dfL Y (O.set k (co O k + c)) L).length = (dfL Y O L).length + 1 := by
  unfold dfL
  refine filter_one (a := k) List.nodup_range (List.mem_range.2 hk) (by simp [he]) ?_ fun x hx => ?_
  · rw [co_set (by rw [hO]; exact hk), if_pos rfl, he]
    rw [decide_eq_true_eq]
    intro h
    exact hc (by have := congrArg (fun z => co Y k + z) h; simp only [GF.add_self_left, GF.add_self] at this; exact this)
  · rw [co_set (by rw [hO]; exact hk), if_neg hx]
set_option maxHeartbeats 4000000 in
theorem spoil_any (L lW lB most : Nat) (aY : Option Addr) (cY : Nat) (Y : List GF) (aW : Option Addr) (cW : Nat) (Wr : List GF) (aB : Option Addr) (cB : Nat) (B : List GF) (w : World) (hY : Pa w aY L cY Y) (hW : Pa w aW lW cW Wr) (hB : Pa w aB lB cB B) (hL : 1 ≤ L) (hL2 : L ≤ 100) (hlW : lW ≤ 40) (hmo : most ≤ 100) :
    Calls Try.prog 14 #[.slice aY L cY, .slice aW lW cW, .slice aB lB cB, .int .i64 (most : Nat)] w fun e w' => ∃ (a' : Option Addr) (c' n : Nat) (O : List GF), e = .returned (.tuple #[.slice a' L c', .int .i64 (n : Nat)]) ∧ Pa w' a' L c' O ∧ (dfL Y O L).length = n ∧ n ≤ most ∧ Below w.heap.size w w' := by
  obtain ⟨i5, hi, hz0, hz1, hz2⟩ := info_parts info5
  have HI := Lib.hid (And.intro hi (And.intro hz0 (And.intro hz1 hz2)))
  have HY := Lib.hid hY; have HW := Lib.hid hW; have HB := Lib.hid hB
  have HL := Lib.hid (And.intro hL hL2)
  have hby := hY.bd; have hbw := hW.bd; have hbb := hB.bd
  have qL : (L : Int) ≤ 100 := by omega
  have qL0 : ((L : Int) == 0) = false := by rw [beq_eq_false_iff_ne]; omega
  have qL1 : ¬ (L : Int) = 0 := by omega
  have qL2 : ¬ L = 0 := by omega
  have HLW := Lib.hid hlW
  have HMO := Lib.hid hmo
  have HE0 := Lib.hid (own_emptyG w 5)
  have HBE := Lib.hid (show Below w.heap.size w (w.alloc (.cells #[] 5)) from (Below.refl _ _).alloc (Nat.le_refl _) _)
  clear hi hz0 hz1 hz2 hY hW hB hL hL2 hlW hmo
  go_enter Try.func14, Try.ntmps14
  go_upto_region 4 with ((with_reducible show wpList _ _ _ (⟨some 17, _, _, _, _, _⟩ :: _) _ _); go_loud (refine wpList_append_bs _ rfl (.tmp 15) (.tmp 16) 22 rfl w.heap.size 5 i5 Try.underlying22 HI.out.1 HI.out.2.1 HI.out.2.2.1 HI.out.2.2.2 _ 0 (iL ([] : List GF)) rfl HE0.out aY L cY _ (iL Y) rfl (HY.out.on HBE.out).1.2.2.1 HY.out.1.1 HY.out.2 (by have := HL.out; omega) (by simp) ?_; intro v2 V2 hown2 hg2; have hb2 := HBE.out.grown hg2 (by simp) (own_block_le _ _ _); rw [Nat.zero_add, show iL ([] : List GF) ++ iL Y = iL Y from rfl] at hown2; obtain ⟨g, c2, hv2, hgb⟩ : ∃ g c2, v2 = .slice (some ⟨g, 0, none⟩) L c2 ∧ w.heap.size ≤ g := (by rcases hown2.2 with ⟨_, h0⟩ | ⟨g, cap, cur, e, hg, _⟩; exact absurd h0 (by have := HL.out; omega); exact ⟨g, cap, e, hg⟩); subst hv2; have HO2 := Lib.hid hown2; have HB2 := Lib.hid hb2; have HGB := Lib.hid hgb; clear hown2 hg2 hb2 hgb))
  have hcb : L ≤ c2 ∧ c2 ≤ 9223372036854775807 := by
    rcases HO2.out.2 with ⟨e, h0⟩ | ⟨g', c', cur, e, _, _, h4, h5, _⟩
    · cases e
    · cases e; exact ⟨h4, by unfold maxLen at h5; omega⟩
  go_loopw [11, 20] (fun s j V => ∃ (i n : Nat) (O : List GF), i ≤ lW ∧ j = .int .i64 (i : Nat) ∧ s = .int .i64 (n : Nat) ∧ Hid (V.ownsRow w.heap.size 5 1 (.slice (some ⟨g, 0, none⟩) L c2) L ((iL O).map (Value.int .u8))) ∧ Hid ((dfL Y O L).length = n ∧ n ≤ most) ∧ Hid (Below w.heap.size w V)) (fun _ j _ => lW - (intOf j).toNat)
  case atStart => exact ⟨0, 0, Y, Nat.zero_le _, rfl, rfl, HO2, Lib.hid ⟨dfL_self _ _, Nat.zero_le _⟩, HB2⟩
  case round =>
    obtain ⟨i, n, O, hi, rfl, rfl, HO, HD, HBV⟩ := hrel
    rename World => V
    by_cases hlt : i < lW
    · obtain ⟨bw, ow, rfl, hbw', hcw⟩ := (HW.out.on HBV.out).at_ hlt
      have HOL := Lib.hid (show O.length = L by have := HO.out.1; rwa [List.length_map, length_iL, Nat.mul_one] at this)
      have qi : (i : Int) < (lW : Int) := by omega
      have qi0 : (0 : Int) ≤ (i : Int) := by omega
      obtain ⟨wv, hwv, hwv2⟩ : ∃ wv : Nat, toI (co Wr i) = (wv : Int) ∧ wv ≤ 255 := ⟨(co Wr i).1, rfl, by have := (co Wr i).2; omega⟩
      rw [hwv] at hcw
      obtain ⟨k, hk⟩ : ∃ k, k = wv % L := ⟨_, rfl⟩
      have hkL : k < L := by rw [hk]; exact Nat.mod_lt _ (by have := HL.out; omega)
      have e1 : ∀ [Inhabited Unit], (wv : Int).tmod (L : Int) = (k : Int) := by intro _; rw [Int.tmod_eq_emod_of_nonneg (by omega), hk]; rfl
      have e2 : ∀ [Inhabited Unit], (wv : Int) % (L : Int) = (k : Int) := by intro _; rw [hk]; rfl
      have e3 : ∀ [Inhabited Unit], IntKind.i64.wrap (wv : Int) = (wv : Int) := by intro _; rw [IntKind.wrap_i64]; omega
      have qw : (wv : Int) ≤ 255 := by omega
      have qk : (k : Int) < (L : Int) := by omega
      have qk0 : (0 : Int) ≤ (k : Int) := by omega
      have hnb : n ≤ 100 := by have := HD.out.2; have := HMO.out; omega
      have qn : (n : Int) ≤ 100 := by omega
      have hcO := own_cells HO.out k hkL
      rw [Nat.zero_add, getD_iL] at hcO
      have HKL := Lib.hid hkL
      have HLT := Lib.hid hlt
      clear hk hlt hi hbw' hwv hkL hnb
      by_cases c1 : n < most
      · have C1 := Lib.hid c1
        have q1 : (n : Int) < (most : Int) := by omega
        clear c1
        by_cases c2' : i < lB
        · have q2 : (i : Int) < (lB : Int) := by omega
          obtain ⟨bb, ob, rfl, hbb', hcb'⟩ := (HB.out.on HBV.out).at_ c2'
          by_cases c3 : co B i = 0
          · have q3 : (toI (co B i) != 0) = false := by rw [c3]; rfl
            clear c3 c2' hbb'
            go_upto_region 7 with fail
            go_quiet (fail)
            go_wp2
            go_roundw
            case rel => exact ⟨i + 1, n, O, by have := HLT.out; omega, by go_num, rfl, Lib.hid (own_belowV HO.out (below_drewN (Below.refl _ _) _)), HD, Lib.hid (below_drewN HBV.out _)⟩
            case measure => simp [intOf]; have := HLT.out; omega
          · have q3 : (toI (co B i) != 0) = true := by rw [bne_iff_ne]; exact fun e => c3 (toI_eq_zero.1 e)
            have C3 := Lib.hid c3
            obtain ⟨by_, oy, rfl, hby', hcy⟩ := (HY.out.on HBV.out).at_ (k := k) (by have := HKL.out; exact this)
            clear c3 c2' hbb' hby'
            by_cases c4 : co O k = co Y k
            · have q4 : (toI (co O k) == toI (co Y k)) = true := by rw [c4]; simp
              have C4 := Lib.hid c4
              have HN2 := Lib.hid ((dfL_set (c := co B i) HOL.out HKL.out c4 C3.out).trans (by rw [HD.out.1] : (dfL Y O L).length + 1 = n + 1))
              clear c4
              go_upto_region 7 with fail
              go_quiet (fail)
              obtain ⟨V2, hV2⟩ : ∃ V2, V2 = V.drewN nq := ⟨_, rfl⟩
              have hc1 : V2.cell? ⟨g, k, none⟩ = some (.int .u8 (toI (co O k))) := by rw [hV2]; exact hcO
              have hc2 : V2.cell? ⟨bb, ob + i, none⟩ = some (.int .u8 (toI (co B i))) := by rw [hV2]; exact hcb'
              have HO3 := Lib.hid (show V2.ownsRow w.heap.size 5 1 (.slice (some ⟨g, 0, none⟩) L c2) L ((iL O).map (Value.int .u8)) by rw [hV2]; exact own_belowV HO.out (below_drewN (Below.refl _ _) _))
              have HB3 := Lib.hid (show Below w.heap.size w V2 by rw [hV2]; exact below_drewN HBV.out _)
              have hst := (HO3.out.stored k (.int .u8 (toI (co O k + co B i)))).1
              rw [map_set_u8, show (iL O).set k (toI (co O k + co B i)) = iL (O.set k (co O k + co B i)) by simp [iL, List.map_set]] at hst
              have hbs := HB3.out.setCell (p := ⟨g, k, none⟩) HGB.out (.int .u8 (toI (co O k + co B i)))
              rw [← bits_xor_G (co O k) (co B i)] at hst hbs
              have hfz := HO3.out.frozenAt k
              have HST := Lib.hid hst
              have HBS := Lib.hid hbs
              rw [← hV2]
              clear hst hbs hV2 hcO hcb'
              go_wp2_with fail
              go_still_tail 10, (by kernel_rfl)
              go_wp2
              go_roundw
              case rel => exact ⟨i + 1, n + 1, O.set k (co O k + co B i), by have := HLT.out; omega, by go_num, by go_num, HST, Lib.hid ⟨HN2.out, by have := C1.out; omega⟩, Lib.hid HBS.out.drew⟩
              case measure => simp [intOf]; have := HLT.out; omega
            · have q4 : (toI (co O k) == toI (co Y k)) = false := by rw [beq_eq_false_iff_ne]; exact fun e => c4 (toI_inj e)
              clear c4
              go_upto_region 7 with fail
              go_quiet (fail)
              go_wp2
              go_roundw
              case rel => exact ⟨i + 1, n, O, by have := HLT.out; omega, by go_num, rfl, Lib.hid (own_belowV HO.out (below_drewN (Below.refl _ _) _)), HD, Lib.hid (below_drewN HBV.out _)⟩
              case measure => simp [intOf]; have := HLT.out; omega
        · have q2 : ¬ (i : Int) < (lB : Int) := by omega
          have q2' : decide ((i : Int) < (lB : Int)) = false := by simp; omega
          clear c2'
          go_upto_region 7 with fail
          go_quiet (fail)
          go_wp2
          go_roundw
          case rel => exact ⟨i + 1, n, O, by have := HLT.out; omega, by go_num, rfl, Lib.hid (own_belowV HO.out (below_drewN (Below.refl _ _) _)), HD, Lib.hid (below_drewN HBV.out _)⟩
          case measure => simp [intOf]; have := HLT.out; omega
      · have q1 : ¬ (n : Int) < (most : Int) := by omega
        have q1' : decide ((n : Int) < (most : Int)) = false := by simp; omega
        clear c1
        go_upto_region 7 with fail
        go_quiet (fail)
        go_wp2
        go_roundw
        case rel => exact ⟨i + 1, n, O, by have := HLT.out; omega, by go_num, rfl, Lib.hid (own_belowV HO.out (below_drewN (Below.refl _ _) _)), HD, Lib.hid (below_drewN HBV.out _)⟩
        case measure => simp [intOf]; have := HLT.out; omega
    · obtain rfl : i = lW := by omega
      have HP := Lib.hid (Pa.own2 HO.out)
      go_wp2
      go_ret2
      exact ⟨_, _, n, O, rfl, HP.out, HD.out.1, HD.out.2, HBV.out⟩
end Go.Proofs.Ytfmjfdbbjggcpaa
