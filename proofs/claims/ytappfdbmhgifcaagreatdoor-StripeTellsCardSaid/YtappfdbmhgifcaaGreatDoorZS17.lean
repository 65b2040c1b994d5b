/- Texts of mine, one behind the other: Ad Yf Za Zb. -/
import Derived.Test.YtappfdbmhgifcaaGreatDoorZS16
import Derived.BigQuiet
import Derived.Deep.QuietTactic
import Derived.Test.YtappfdbmhgifcaaGreatDoorZS13
import Derived.Test.YtappfdbmhgifcaaGreatDoorZS15
import Derived.Test.YtappfdbmhgifcaaGreatDoorZS02
import Derived.Test.YtappfdbmhgifcaaGreatDoorZS12
/- The contracts of package aont's functions. -/
namespace Go.Proofs.YtappfdbmhgifcaaGreatDoor
open Go.ChangeShapes Go.WideShapes Go.ChangeAt Go.RowKit Go.Shelf
set_option linter.unusedVariables false
set_option linter.unusedSimpArgs false
set_option maxRecDepth 100000

theorem own_any {w : World} {base g n c : Nat} {e : TypeId} {l : List Int} (h : w.ownsRow base e 1 (.slice (some ⟨g, 0, none⟩) n c) n (l.map (Value.int .u8))) (hA : AllB l) : Arg8c w (some ⟨g, 0, none⟩) n c l := by
  obtain ⟨a', c', e1, hb, hl, h1, h2, h3⟩ := own_form h
  cases e1
  exact ⟨⟨hl, hA, hb, h1, h2⟩, fun e => by cases e⟩
/-- The key's stream, added. -/
theorem added_any (b : Nat) (aK : Option Addr) (cK : Nat) (K : List Int) (aB : Option Addr) (n cB : Nat) (B : List Int) (w : World) (hf : Fld w b) (hK : Arg8 w aK 32 cK K) (hB : Arg8 w aB n cB B) (hn : n ≤ 1048576) :
    Calls Tryz.prog 82 #[.pointer (some ⟨b, 0, none⟩), .slice aK (32 : Nat) cK, .slice aB n cB] w fun e w' => ∃ g, e = .returned (.tuple #[.slice (some ⟨g, 0, none⟩) n n, .int .i64 0]) ∧
      Arg8 w' (some ⟨g, 0, none⟩) n n (hidL K B) ∧ Below w.heap.size w w' := by
  have hmk := run_make_row' (P := Tryz.prog) 22 5 (.int .u8 0) 1 Tryz.underlying22 info5 rfl .i64 .i64 8 (by omega) (by omega)
  rw [show ((8 : Nat) : Int) = 2 * 4 from rfl] at hmk
  simp only [Int.reduceMul] at hmk
  have HN := Lib.hid (new_arg b aK 32 cK K w hf hK (.inr rfl))
  have HKL := Lib.hid (show K.length = 16 ∨ K.length = 32 from .inr hK.1)
  have HKB := Lib.hid hK.2.1
  have HB := Lib.hid hB
  have HL := Lib.hid hn
  clear hf hK hB hn
  go_enter Tryz.func82, Tryz.ntmps82
  go_wp2_with (first
    | (go_at_call 105; go_loud ((with_reducible refine HN.out.mono ?_); rintro e w1 ⟨cb, rfl, hc, hb⟩; have HC1 := Lib.hid hc; have HB1 := Lib.hid hb; have HA1 := Lib.hid (show Below w1.heap.size w1 (w1.alloc (.cells (madeCells #[.int .u8 0] 8) 5)) from (Below.refl _ _).alloc (Nat.le_refl _) _); have HX := Lib.hid (sxor_ok cb K (some ⟨w1.heap.size, 0, none⟩) 8 Z8 aB n cB B (w1.alloc (.cells (madeCells #[.int .u8 0] 8) 5)) (HC1.out.on HA1.out) HKL.out HKB.out (own_any (own_made (w := w1) (e := 5) (n := 8) (by unfold maxLen; omega)) Z8_B).1 ((HB.out.on HB1.out).on HA1.out) HL.out); clear hc hb))
    | (go_at_call 106; go_loud ((with_reducible refine HX.out.mono ?_); rintro e w2 ⟨g2, rfl, ha, hb⟩; have HA2 := Lib.hid ha; have HB2 := Lib.hid (bt HB1.out (bt HA1.out hb)); clear ha hb)))
  go_ret2
  have HL2 := HB.out.1
  refine ⟨g2, rfl, ?_, HB2.out⟩
  have h := HA2.out
  unfold hidL
  rw [HL2]
  exact h
/-- The key, covered. -/
theorem covered_any (aK : Option Addr) (cK : Nat) (K : List Int) (aB : Option Addr) (n cB : Nat) (B : List Int) (w : World) (hG : Gl w) (hK : Arg8 w aK 32 cK K) (hB : Arg8 w aB n cB B) (hn : n ≤ 800000) :
    Calls Tryz.prog 83 #[.slice aK (32 : Nat) cK, .slice aB n cB] w fun e w' => ∃ g, e = .returned (.slice (some ⟨g, 0, none⟩) 32 32) ∧
      w'.ownsRow w.heap.size 5 1 (.slice (some ⟨g, 0, none⟩) 32 32) 32 ((xorL K (shaL B)).map (Value.int .u8)) ∧ Below w.heap.size w w' := by
  have hb1 : Below w.heap.size w (w.alloc (.cells #[.slice aB n cB] 22)) := (Below.refl _ _).alloc (Nat.le_refl _) _
  have HB1 := Lib.hid hb1
  have HS := Lib.hid (sum_one w.heap.size aB n cB B (w.alloc (.cells #[.slice aB n cB] 22)) (by simp) (by simp) (hB.on hb1) hn (hG.on hb1 hG.1))
  have HK := Lib.hid hK
  clear hK hB hn hG hb1
  go_enter Tryz.func83, Tryz.ntmps83
  go_wp2_with (first
    | (go_at_call 107; go_loud ((with_reducible refine HS.out.mono ?_); rintro e w2 ⟨g2, c2, rfl, hr, hb⟩; have HR2 := Lib.hid hr; have HB2 := Lib.hid (bt HB1.out hb); have HX := Lib.hid (xor_bare aK (some ⟨g2, 0, none⟩) 32 cK 32 c2 K (shaL B) w2 ⟨HK.out.1, HK.out.2.1, (HK.out.on HB2.out).2.2.1⟩ ⟨HR2.out.1, HR2.out.2.1, HR2.out.bs⟩ (by omega) (by omega)); clear hr hb))
    | (go_at_call 100; go_loud ((with_reducible refine HX.out.mono ?_); rintro e w3 ⟨g3, rfl, ho, hb⟩; rw [Nat.min_self] at ho; have HO3 := Lib.hid (own_baseS ho HB2.out.size); have HB3 := Lib.hid (bt HB2.out hb); clear ho hb)))
  go_ret
  exact ⟨g3, rfl, HO3.out, HB3.out⟩
theorem parted_ok (b off m c : Nat) (w : World) (hc : m + 32 ≤ c) (hm : c ≤ maxLen) : Calls Tryz.prog 99 #[.slice (some ⟨b, off, none⟩) (m + 32 : Nat) c] w fun e w' =>
    e = .returned (.tuple #[.slice (some ⟨b, off, none⟩) m c, .slice (some ⟨b, off + m, none⟩) 32 (c - m), .int .i64 0]) ∧ ∃ j, w' = w.drewN j := by
  unfold maxLen at hm
  have q2 : ¬ ((m : Int) < 0) := by omega
  go_enter Tryz.func99, Tryz.ntmps99
  go_wp2
  go_quiet (fail)
  go_wp2
  go_ret3
  exact ⟨rfl, _, rfl⟩
/-! ## the contracts -/
theorem wrapOk : WrapOkC := by
  intro b aK cK K aB n cB B w hG hf hK hB hn
  have HA := Lib.hid (added_any b aK cK K aB n cB B w hf hK.1 hB.1 (by omega))
  have HG := Lib.hid hG
  have HK := Lib.hid hK
  have HKB := Lib.hid (hidL_B hK.1.2.1 hB.1.2.1)
  have HKL := Lib.hid hK.1.1
  have q1 : ¬ (1048576 : Int) < (n : Int) := by omega
  have HN := Lib.hid hn
  clear hG hf hK hB hn
  go_enter Tryz.func52, Tryz.ntmps52
  go_wp2_with (first
    | (go_at_call 82; go_loud ((with_reducible refine HA.out.mono ?_); rintro e w1 ⟨g1, rfl, ha, hb⟩; have HA1 := Lib.hid ha; have HB1 := Lib.hid hb; have HC := Lib.hid (covered_any aK cK K (some ⟨g1, 0, none⟩) n n (hidL K B) w1 (HG.out.on hb HG.out.1) (HK.out.1.on hb) ha (by have := HN.out; omega)); clear ha hb))
    | (go_at_call 83; go_loud ((with_reducible refine HC.out.mono ?_); rintro e w2 ⟨g2, rfl, ho, hb⟩; have HO2 := Lib.hid ho; have HB2 := Lib.hid hb; have hal : Below w2.heap.size w2 (w2.alloc (.cells #[.slice (some ⟨g1, 0, none⟩) n n, .slice (some ⟨g2, 0, none⟩) 32 32] 22)) := (Below.refl _ _).alloc (Nat.le_refl _) _; have HAL := Lib.hid hal; have HCC := Lib.hid (concat8_any w2.heap.size (some ⟨g1, 0, none⟩) n n (hidL K B) (some ⟨g2, 0, none⟩) 32 32 (xorL K (shaL (hidL K B))) (w2.alloc (.cells #[.slice (some ⟨g1, 0, none⟩) n n, .slice (some ⟨g2, 0, none⟩) 32 32] 22)) (by simp) (by simp) (by simp) ⟨(HA1.out.on hb).on hal, fun e => by cases e⟩ ⟨(own_any ho (xorL_B _ _ HK.out.1.2.1 (shaL_B _))).1.on hal, fun e => by cases e⟩ (by omega) (by have := HN.out; omega)); clear ho hb hal))
    | (go_at_call 53; go_loud ((with_reducible refine HCC.out.mono ?_); rintro e w3 ⟨v3, rfl, ho, hb⟩; obtain ⟨a3, c3, rfl, _⟩ := own_form ho; have HO3 := Lib.hid ho; have HB3 := Lib.hid (bt (bt HB1.out HB2.out) (bt HAL.out hb)); clear ho hb)))
  go_ret2
  have ho := HO3.out
  rw [show hidL K B ++ xorL K (shaL (hidL K B)) = pkgL K B from rfl] at ho
  obtain ⟨g, hg⟩ : ∃ g, a3 = some ⟨g, 0, none⟩ := by
    rcases ho with ⟨_, h | ⟨g, c, cs, h, _⟩⟩
    · cases h.1
    · cases h
      exact ⟨g, rfl⟩
  subst hg
  exact ⟨g, c3, rfl, own_baseS ho (by have := (bt (bt HB1.out HB2.out) HAL.out).size; omega), HB3.out⟩
theorem arg_some {w : World} {a : Option Addr} {n c : Nat} {l : List Int} (h : Arg8 w a n c l) (hn : 0 < n) : ∃ b off, a = some ⟨b, off, none⟩ := by
  obtain ⟨b, off, e, _⟩ := h.2.2.1 (by rw [h.1]; exact hn)
  exact ⟨b, off, e⟩
theorem arg_head {w : World} {b off m c : Nat} {P : List Int} (h : Arg8 w (some ⟨b, off, none⟩) (m + 32) c P) : Arg8 w (some ⟨b, off, none⟩) m c (P.take (P.length - 32)) := by
  obtain ⟨h1, h2, h3, h4, h5⟩ := h
  exact ⟨by rw [List.length_take, h1]; omega, fun x hx => h2 x (List.mem_of_mem_take hx), h3.take _, by omega, h5⟩
theorem arg_tail {w : World} {b off m c : Nat} {P : List Int} (h : Arg8 w (some ⟨b, off, none⟩) (m + 32) c P) : Arg8 w (some ⟨b, off + m, none⟩) 32 (c - m) (P.drop (P.length - 32)) := by
  obtain ⟨h1, h2, h3, h4, h5⟩ := h
  have e : P.length - 32 = m := by omega
  exact ⟨by rw [List.length_drop, h1]; omega, fun x hx => h2 x (List.mem_of_mem_drop hx), by rw [e]; exact h3.dropK, by omega, by omega⟩
theorem openOk : OpenOkC := by
  intro b a n c P w hG hf hP h1 h2
  obtain ⟨b1, off, rfl⟩ := arg_some hP.1 (by omega)
  obtain ⟨m, rfl⟩ : ∃ m, n = m + 32 := ⟨n - 32, by omega⟩
  have HP := Lib.hid (parted_ok b1 off m c w hP.1.2.2.2.1 hP.1.2.2.2.2)
  have HC := Lib.hid (fun j => covered_any (some ⟨b1, off + m, none⟩) (c - m) (P.drop (P.length - 32)) (some ⟨b1, off, none⟩) m c (P.take (P.length - 32)) (w.drewN j) (hG.drewN j) (arg_tail hP.1) (arg_head hP.1) (by omega))
  have HB := Lib.hid (keyL_B hP.1.2.1)
  have HH := Lib.hid (arg_head hP.1)
  have HF := Lib.hid hf
  have q1 : ¬ (1048576 : Int) < (m : Int) := by omega
  have HM := Lib.hid (show m ≤ 1048576 by omega)
  clear hG hf hP h1 h2
  go_enter Tryz.func73, Tryz.ntmps73
  go_wp2_with (first
    | (go_at_call 99; go_loud ((with_reducible refine HP.out.mono ?_); rintro e w1 ⟨rfl, j1, rfl⟩))
    | (go_at_call 83; go_loud ((with_reducible refine (HC.out j1).mono ?_); rintro e w2 ⟨g2, rfl, ho, hb⟩; have HB2 := Lib.hid (bt (below_drewN (Below.refl _ _) j1) hb); have HA := Lib.hid (added_any b (some ⟨g2, 0, none⟩) 32 (keyL P) (some ⟨b1, off, none⟩) m c (P.take (P.length - 32)) w2 (HF.out.below HB2.out) (own_any ho HB.out).1 (HH.out.on HB2.out) HM.out); clear ho hb))
    | (go_at_call 82; go_loud ((with_reducible refine HA.out.mono ?_); rintro e w3 ⟨g3, rfl, ha, hb⟩; have HA3 := Lib.hid ha; have HB3 := Lib.hid (bt HB2.out hb); clear ha hb)))
  go_ret2
  rw [Nat.add_sub_cancel]
  exact ⟨_, _, rfl, HA3.out, HB3.out⟩
end Go.Proofs.YtappfdbmhgifcaaGreatDoor
/- Contract of code's Cut, where it goes well. -/
namespace Go.Proofs.YtappfdbmhgifcaaGreatDoor
open Go.ChangeShapes Go.WideShapes Go.ChangeAt Go.RowKit Go.Shelf GF
set_option linter.unusedVariables false
set_option linter.unusedSimpArgs false
set_option maxRecDepth 100000

/-- Bytes of a slice, as what is copied. -/
theorem cut_src {w : World} {a : Option Addr} {L c : Nat} {B : List GF} (h : Pa w a L c B) {st n i m : Nat} (hm : st + m ≤ L) (e : m = 0 ∨ st = i * n) : 0 < ((iL (cutP B n i m)).map (Value.int .u8)).length → ∃ ad, cutA a c st = some ad ∧ ∀ j v, ((iL (cutP B n i m)).map (Value.int .u8))[j]? = some v → w.cell? (ad.add j) = some v := by
  have hs := h.seg (lo := st) (n := m) hm
  have hh : seg B st m = cutP B n i m := by
    refine ext_co (by rw [seg_len (by rw [h.len]; exact hm), cutP_len]) fun k hk => ?_
    rw [seg_len (by rw [h.len]; exact hm)] at hk
    rw [seg_co hk]
    rcases e with rfl | rfl
    · omega
    · show _ = List.getD _ _ _
      unfold cutP; simp [List.getD_eq_getElem?_getD, hk]
  rw [hh] at hs
  exact fun h0 => hs.1.2.2.1.cells h0
theorem cut_pad {B : List GF} {L n i m : Nat} (hB : B.length = L) (hm : m ≤ n) (he : m = n ∨ L ≤ i * n + m) : padL (cutP B n i m) n = cutP B n i n := by
  refine ext_co (by rw [length_padL (by rw [cutP_len]; exact hm), cutP_len]) fun k hk => ?_
  rw [length_padL (by rw [cutP_len]; exact hm)] at hk
  rw [co_padL]
  have key : ∀ M, co (cutP B n i M) k = if k < M then co B (i * n + k) else 0 := fun M => by
    by_cases h : k < M
    · rw [if_pos h]; show List.getD _ _ _ = _
      unfold cutP; simp [List.getD_eq_getElem?_getD, h]
    · rw [if_neg h, co_ge (by rw [cutP_len]; omega)]
  rw [key, key, if_pos hk]
  by_cases h : k < m
  · rw [if_pos h]
  · rw [if_neg h, co_ge (by rw [hB]; omega)]
theorem own_madeN {w : World} {n : Nat} : (w.alloc (.cells (madeCells #[Value.int .u8 0] n) 5)).heap[w.heap.size]? = some (.cells (madeCells #[.int .u8 0] n).toList.toArray 5 (0, 0)) := by rw [Array.toArray_toList]; exact heap_alloc_new w _
set_option maxHeartbeats 4000000 in
theorem cutC : CutC := by
  intro L t aB cB B w hB ht ht2 hL
  have HP := Lib.hid (can_yes (t : Int) w (by omega) (by omega))
  have HS := Lib.hid (partC L t w ht ht2 hL)
  have HB := Lib.hid hB
  have HBL := Lib.hid hB.len
  have HT := Lib.hid (And.intro ht ht2)
  have HL := Lib.hid hL
  have hbd := hB.bd
  obtain ⟨n, hn⟩ : ∃ n, n = ceil L t := ⟨_, rfl⟩
  rw [← hn] at HS ⊢
  have HN := Lib.hid hn
  have HN2 := Lib.hid (show n ≤ 1000 by rw [hn]; exact Nat.le_trans (ceil_bd ht) hL)
  have qt : (t : Int) ≤ 255 := by omega
  have qL : (L : Int) ≤ 1000 := by omega
  have qn : (n : Int) ≤ 1000 := by have := HN2.out; omega
  have hmk := run_make_row' (P := Tryz.prog) 28 22 (.slice none 0 0) 24 Tryz.underlying28 infoR rfl .i64 .i64 t (by omega) (by omega)
  have hmk2 := run_make_row' (P := Tryz.prog) 22 5 (.int .u8 0) 1 Tryz.underlying22 info5 rfl .i64 .i64 n (by omega) (by omega)
  clear hB ht ht2 hL hn
  go_enter Tryz.func54, Tryz.ntmps54
  go_upto_region 6 with (first
    | (go_at_call 64; refine HP.out.mono ?_; rintro e w' ⟨rfl, rfl⟩)
    | (go_at_call 35; refine HS.out.mono ?_; rintro e w1 ⟨rfl, q, rfl⟩))
  obtain ⟨wr, hwr⟩ : ∃ wr, wr = w.drewN q := ⟨_, rfl⟩
  have HW := Lib.hid hwr
  have HBR := Lib.hid (show Below w.heap.size w wr by rw [hwr]; exact below_drewN (Below.refl _ _) _)
  have HSZ := Lib.hid (show wr.heap.size = w.heap.size by rw [hwr]; rfl)
  obtain ⟨G, hG⟩ : ∃ G, G = w.heap.size := ⟨_, rfl⟩
  have HG := Lib.hid hG
  have hO0 : Hid ((wr.alloc (.cells (madeCells #[Value.slice none 0 0] t) 22)).ownsRow G 22 1 (.slice (some ⟨G, 0, none⟩) t t) t (([] : List Value) ++ List.replicate (t - 0) (.slice none 0 0))) := by
    rw [hG, ← HSZ.out]; exact Lib.hid (own_madeC (w := wr) (n := t) (by unfold maxLen; have := HT.out; omega))
  have hB0 : Hid (Below G wr (wr.alloc (.cells (madeCells #[Value.slice none 0 0] t) 22))) := by rw [hG, ← HSZ.out]; exact Lib.hid ((Below.refl _ _).alloc (Nat.le_refl _) _)
  have hw0 : Hid (RV (wr.alloc (.cells (madeCells #[Value.slice none 0 0] t) 22)) (fun b => G < b) [] ((cutM B t n).take 0)) := Lib.hid (RV.nil _ _)
  rw [← hwr, ← hG]
  clear hG hmk hwr
  go_loopw [20] (fun s V => ∃ (i : Nat) (vs : List Value), i ≤ t ∧ s = .int .i64 (i : Nat) ∧ Hid (vs.length = i) ∧ Hid (V.ownsRow G 22 1 (.slice (some ⟨G, 0, none⟩) t t) t (vs ++ List.replicate (t - i) (.slice none 0 0))) ∧ Hid (RV V (fun b => G < b) vs ((cutM B t n).take i)) ∧ Hid (Below G wr V)) (fun s _ => t - (intOf s).toNat)
  case atStart => exact ⟨0, [], by omega, rfl, Lib.hid rfl, hO0, hw0, hB0⟩
  case round =>
    obtain ⟨i, vs, hi, rfl, HVL, HO, HV, HBV⟩ := hrel
    rename World => V
    by_cases hlt : i < t
    · have qi : (i : Int) < (t : Int) := by omega
      have qi0 : (0 : Int) ≤ (i : Int) := by omega
      obtain ⟨lo, hlo⟩ : ∃ lo, lo = i * n := ⟨_, rfl⟩
      have qlo : (i : Int) * (n : Int) = (lo : Int) := by rw [hlo]; rfl
      have qlo2 : (lo : Int) ≤ 255000 := by
        have : lo ≤ 255 * 1000 := by rw [hlo]; exact Nat.mul_le_mul (by have := HT.out.2; omega) HN2.out
        omega
      have HLO := Lib.hid hlo
      have kw : ∀ [Inhabited Unit], IntKind.i64.wrap (lo : Int) = (lo : Int) := by intro _; rw [IntKind.wrap_i64]; omega
      have HI1 := Lib.hid hlt
      have HGV := Lib.hid (HO.out.lt G rfl).2
      have HO1 : Hid (V.ownsRow G 22 1 (.slice (some ⟨G, 0, none⟩) t t) t (vs ++ .slice none 0 0 :: List.replicate (t - (i + 1)) (.slice none 0 0))) := by
        have h := HO.out; rw [rep_mid _ hlt] at h; exact Lib.hid h
      obtain ⟨g, hg⟩ : ∃ g, g = V.heap.size := ⟨_, rfl⟩
      obtain ⟨V1, hV1⟩ : ∃ V1, V1 = V.setCell ⟨G, i, none⟩ (.slice (some ⟨g, 0, none⟩) n n) := ⟨_, rfl⟩
      obtain ⟨U, hU⟩ : ∃ U, U = V1.alloc (.cells (madeCells #[Value.int .u8 0] n) 5) := ⟨_, rfl⟩
      have hs1 : V1.heap.size = g := by rw [hV1, hg]; simp
      have hst := (HO1.out.stored i (.slice (some ⟨g, 0, none⟩) n n)).1
      rw [set_mid _ _ _ HVL.out, ← hV1] at hst
      have HOU := Lib.hid (show U.ownsRow G 22 1 (.slice (some ⟨G, 0, none⟩) t t) t (vs ++ .slice (some ⟨g, 0, none⟩) n n :: List.replicate (t - (i + 1)) (.slice none 0 0)) by rw [hU]; exact hst.alloc _)
      have HBU := Lib.hid (show Below G wr U by rw [hU, hV1]; exact (HBV.out.setCell (p := ⟨G, i, none⟩) (Nat.le_refl _) _).alloc (by have := HGV.out; simp; omega) _)
      have HGC := Lib.hid (show U.heap[g]? = some (.cells (madeCells #[.int .u8 0] n).toList.toArray 5 (0, 0)) by rw [hU, ← hs1]; exact own_madeN)
      have HRV : Hid (RV U (fun b => G < b ∧ b < g) vs ((cutM B t n).take i)) := Lib.hid (HV.out.keep (by rw [hU, hV1]; simp) (fun b h1 h2 => ⟨⟨h2, by omega⟩, by rw [hU, hV1]; exact (Below.heap_alloc _ _ b (by simpa using h1)).trans (Below.heap_setCell _ _ _ _ (by show b ≠ G; omega))⟩))
      have hcl0 := HO1.out.cellAt i (by omega)
      rw [List.getElem?_append_right (by rw [HVL.out]; exact Nat.le_refl _), HVL.out, Nat.sub_self, List.getElem?_cons_zero] at hcl0
      have hfz0 := HO1.out.frozenAt i
      have hGV : G < V.heap.size := HGV.out
      have HGG := Lib.hid (show G < g by omega)
      clear hlo hlt hi HO hst hO0 hB0 hw0
      go_upto_region 9 with fail
      rw [← hg, ← hV1, ← hU]
      have hcl := HOU.out.cellAt i (by have := HI1.out; omega)
      rw [List.getElem?_append_right (by rw [HVL.out]; exact Nat.le_refl _), HVL.out, Nat.sub_self, List.getElem?_cons_zero] at hcl
      have HGD := Lib.hid (show U.drew.heap[g]? = some (.cells (madeCells #[.int .u8 0] n).toList.toArray 5 (0, 0)) from HGC.out)
      have HBW := Lib.hid (show Pa U.drew aB L cB B from HB.out.on (bt HBR.out (by have := HBU.out.drew; rw [HG.out, ← HSZ.out] at this; exact this)))
      have HBD := Lib.hid (show Below g U U.drew from (Below.refl _ _).drew)
      clear hg hV1 hU hs1 hcl0 hfz0 hGV
      by_cases hc : lo ≤ L
      · as_aux_lemma =>
        have qm : ¬ (L : Int) < (lo : Int) := by omega
        have qs : (lo : Int) ≤ (L : Int) := by omega
        have qs0 : (0 : Int) ≤ (lo : Int) := by omega
        have qs2 : (lo : Int) ≤ (cB : Int) := by omega
        obtain ⟨m, hm⟩ : ∃ m, m = Nat.min (L - lo) n := ⟨_, rfl⟩
        have hm2 : m ≤ n ∧ lo + m ≤ L := by rw [hm]; refine ⟨Nat.min_le_right _ _, ?_⟩; have h1 : Nat.min (L - lo) n ≤ L - lo := Nat.min_le_left _ _; omega
        have HC := Lib.hid (cut_src (n := n) (i := i) (m := m) HBW.out hm2.2 (by exact .inr HLO.out))
        have HPD := Lib.hid (cut_pad (i := i) HBL.out hm2.1 (by have := HLO.out; rw [← this, hm]; rcases Nat.le_total n (L - lo) with h | h; left; exact Nat.min_eq_right h; right; rw [show Nat.min (L - lo) n = L - lo from Nat.min_eq_left h]; omega))
        have HLEN := Lib.hid (show ((iL (cutP B n i m)).map (Value.int .u8)).length = Nat.min (L - lo) n by rw [List.length_map, length_iL, cutP_len, hm])
        have HFIT := Lib.hid (show 0 + ((iL (cutP B n i m)).map (Value.int .u8)).length ≤ (madeCells #[Value.int .u8 0] n).toList.length by simp [length_iL, cutP_len, size_madeCells]; exact hm2.1)
        have HMN := Lib.hid hm2.1
        clear hm hm2
        rcases aB with _ | ad
        · have hz : cB = 0 := HBW.out.2 rfl
          subst hz
          rw [show cutA none 0 lo = none by unfold cutA; simp] at HC
          go_still_tail 12, (by kernel_rfl)
          go_wp2_with ((with_reducible show wpList _ _ _ (⟨some 40, _, _, _, _, _⟩ :: _) _ _); go_loud (refine wpList_copy_splice (o := ⟨some 40, _, _, _, _, _⟩) rfl (.tmp 31) (.tmp 39) 22 22 rfl 5 Tryz.underlying22 size_u8 (some ⟨g, 0, none⟩) _ n n _ _ rfl rfl g 0 (madeCells #[.int .u8 0] n).toList 5 HGD.out ((iL (cutP B n i m)).map (Value.int .u8)) HLEN.out (fun h0 => ⟨rfl, HC.out h0⟩) HFIT.out (ints_oneCell _ _) g U HBD.out (Nat.le_refl _) ?_); go_loud (intro w6 hg6 hb6; have HO6 := Lib.hid (pad_row hg6.out (by rw [cutP_len]; exact HMN.out) (by have := HN2.out; omega)); have HB6 := Lib.hid hb6; clear hg6 hb6))
          rw [HPD.out] at HO6
          have HOO := Lib.hid (own_on HOU.out HB6.out HGG.out)
          rw [show vs ++ Value.slice (some ⟨g, 0, none⟩) n n :: List.replicate (t - (i + 1)) (.slice none 0 0) = (vs ++ [.slice (some ⟨g, 0, none⟩) n n]) ++ List.replicate (t - (i + 1)) (.slice none 0 0) by simp] at HOO
          have hmo := (HRV.out.keep (w' := w6) (ok' := fun b => G < b) HB6.out.size (fun b h1 h2 => ⟨h2.1, HB6.out.block b h2.2⟩)).more (P := cutP B n i n) (a := some ⟨g, 0, none⟩) (c := n) (by rw [cutP_len]; exact Pa.own2 HO6.out) (fun bb off e _ => by cases e; exact HGG.out)
          rw [cutP_len, ← cutM_take HI1.out] at hmo
          have HMO := Lib.hid hmo
          have HVV := Lib.hid (show (vs ++ [Value.slice (some ⟨g, 0, none⟩) n n]).length = i + 1 by rw [List.length_append, HVL.out]; rfl)
          have HBB := Lib.hid (HBU.out.trans (HB6.out.mono (Nat.le_of_lt HGG.out)))
          clear hmo
          go_roundw
          case rel => exact ⟨i + 1, vs ++ [.slice (some ⟨g, 0, none⟩) n n], by have := HI1.out; omega, by go_num, HVV, HOO, HMO, HBB⟩
          case measure => simp [intOf]; have := HI1.out; omega
        · by_cases qc : cB = lo
          · obtain rfl : cB = lo := qc
            rw [show cutA (some ad) cB cB = some ad by unfold cutA; rw [if_pos rfl]] at HC
            rw [show L - cB = 0 by omega] at HLEN
            go_still_tail 12, (by kernel_rfl)
            go_wp2_with ((with_reducible show wpList _ _ _ (⟨some 40, _, _, _, _, _⟩ :: _) _ _); go_loud (refine wpList_copy_splice (o := ⟨some 40, _, _, _, _, _⟩) rfl (.tmp 31) (.tmp 39) 22 22 rfl 5 Tryz.underlying22 size_u8 (some ⟨g, 0, none⟩) _ n n _ _ rfl rfl g 0 (madeCells #[.int .u8 0] n).toList 5 HGD.out ((iL (cutP B n i m)).map (Value.int .u8)) HLEN.out (fun h0 => ⟨rfl, HC.out h0⟩) HFIT.out (ints_oneCell _ _) g U HBD.out (Nat.le_refl _) ?_); go_loud (intro w6 hg6 hb6; have HO6 := Lib.hid (pad_row hg6.out (by rw [cutP_len]; exact HMN.out) (by have := HN2.out; omega)); have HB6 := Lib.hid hb6; clear hg6 hb6))
            rw [HPD.out] at HO6
            have HOO := Lib.hid (own_on HOU.out HB6.out HGG.out)
            rw [show vs ++ Value.slice (some ⟨g, 0, none⟩) n n :: List.replicate (t - (i + 1)) (.slice none 0 0) = (vs ++ [.slice (some ⟨g, 0, none⟩) n n]) ++ List.replicate (t - (i + 1)) (.slice none 0 0) by simp] at HOO
            have hmo := (HRV.out.keep (w' := w6) (ok' := fun b => G < b) HB6.out.size (fun b h1 h2 => ⟨h2.1, HB6.out.block b h2.2⟩)).more (P := cutP B n i n) (a := some ⟨g, 0, none⟩) (c := n) (by rw [cutP_len]; exact Pa.own2 HO6.out) (fun bb off e _ => by cases e; exact HGG.out)
            rw [cutP_len, ← cutM_take HI1.out] at hmo
            have HMO := Lib.hid hmo
            have HVV := Lib.hid (show (vs ++ [Value.slice (some ⟨g, 0, none⟩) n n]).length = i + 1 by rw [List.length_append, HVL.out]; rfl)
            have HBB := Lib.hid (HBU.out.trans (HB6.out.mono (Nat.le_of_lt HGG.out)))
            clear hmo
            go_roundw
            case rel => exact ⟨i + 1, vs ++ [.slice (some ⟨g, 0, none⟩) n n], by have := HI1.out; omega, by go_num, HVV, HOO, HMO, HBB⟩
            case measure => simp [intOf]; have := HI1.out; omega
          · rw [show cutA (some ad) cB lo = some (ad.add lo) by unfold cutA; rw [if_neg qc]; rfl] at HC
            go_still_tail 12, (by kernel_rfl)
            go_wp2_with ((with_reducible show wpList _ _ _ (⟨some 40, _, _, _, _, _⟩ :: _) _ _); go_loud (refine wpList_copy_splice (o := ⟨some 40, _, _, _, _, _⟩) rfl (.tmp 31) (.tmp 39) 22 22 rfl 5 Tryz.underlying22 size_u8 (some ⟨g, 0, none⟩) _ n n _ _ rfl rfl g 0 (madeCells #[.int .u8 0] n).toList 5 HGD.out ((iL (cutP B n i m)).map (Value.int .u8)) HLEN.out (fun h0 => ⟨rfl, HC.out h0⟩) HFIT.out (ints_oneCell _ _) g U HBD.out (Nat.le_refl _) ?_); go_loud (intro w6 hg6 hb6; have HO6 := Lib.hid (pad_row hg6.out (by rw [cutP_len]; exact HMN.out) (by have := HN2.out; omega)); have HB6 := Lib.hid hb6; clear hg6 hb6))
            rw [HPD.out] at HO6
            have HOO := Lib.hid (own_on HOU.out HB6.out HGG.out)
            rw [show vs ++ Value.slice (some ⟨g, 0, none⟩) n n :: List.replicate (t - (i + 1)) (.slice none 0 0) = (vs ++ [.slice (some ⟨g, 0, none⟩) n n]) ++ List.replicate (t - (i + 1)) (.slice none 0 0) by simp] at HOO
            have hmo := (HRV.out.keep (w' := w6) (ok' := fun b => G < b) HB6.out.size (fun b h1 h2 => ⟨h2.1, HB6.out.block b h2.2⟩)).more (P := cutP B n i n) (a := some ⟨g, 0, none⟩) (c := n) (by rw [cutP_len]; exact Pa.own2 HO6.out) (fun bb off e _ => by cases e; exact HGG.out)
            rw [cutP_len, ← cutM_take HI1.out] at hmo
            have HMO := Lib.hid hmo
            have HVV := Lib.hid (show (vs ++ [Value.slice (some ⟨g, 0, none⟩) n n]).length = i + 1 by rw [List.length_append, HVL.out]; rfl)
            have HBB := Lib.hid (HBU.out.trans (HB6.out.mono (Nat.le_of_lt HGG.out)))
            clear hmo
            go_roundw
            case rel => exact ⟨i + 1, vs ++ [.slice (some ⟨g, 0, none⟩) n n], by have := HI1.out; omega, by go_num, HVV, HOO, HMO, HBB⟩
            case measure => simp [intOf]; have := HI1.out; omega
      · as_aux_lemma =>
        have qm : (L : Int) < (lo : Int) := by omega
        have qs0 : (0 : Int) ≤ (L : Int) := by omega
        have qs2 : (L : Int) ≤ (cB : Int) := by omega
        obtain ⟨m, hm⟩ : ∃ m, m = Nat.min (L - L) n := ⟨_, rfl⟩
        have hm2 : m ≤ n ∧ L + m ≤ L := by rw [hm]; refine ⟨Nat.min_le_right _ _, ?_⟩; have h1 : Nat.min (L - L) n ≤ L - L := Nat.min_le_left _ _; omega
        have HC := Lib.hid (cut_src (n := n) (i := i) (m := m) HBW.out hm2.2 (by left; rw [hm, Nat.sub_self]; exact Nat.zero_min _))
        have HPD := Lib.hid (cut_pad (i := i) HBL.out hm2.1 (by right; have := HLO.out; omega))
        have HLEN := Lib.hid (show ((iL (cutP B n i m)).map (Value.int .u8)).length = Nat.min 0 n by rw [List.length_map, length_iL, cutP_len, hm, Nat.sub_self])
        have HFIT := Lib.hid (show 0 + ((iL (cutP B n i m)).map (Value.int .u8)).length ≤ (madeCells #[Value.int .u8 0] n).toList.length by simp [length_iL, cutP_len, size_madeCells]; exact hm2.1)
        have HMN := Lib.hid hm2.1
        clear hm hm2
        rcases aB with _ | ad
        · have hz : cB = 0 := HBW.out.2 rfl
          subst hz
          rw [show cutA none 0 L = none by unfold cutA; simp] at HC
          go_still_tail 12, (by kernel_rfl)
          go_wp2_with ((with_reducible show wpList _ _ _ (⟨some 40, _, _, _, _, _⟩ :: _) _ _); go_loud (refine wpList_copy_splice (o := ⟨some 40, _, _, _, _, _⟩) rfl (.tmp 31) (.tmp 39) 22 22 rfl 5 Tryz.underlying22 size_u8 (some ⟨g, 0, none⟩) _ n n _ _ rfl rfl g 0 (madeCells #[.int .u8 0] n).toList 5 HGD.out ((iL (cutP B n i m)).map (Value.int .u8)) HLEN.out (fun h0 => ⟨rfl, HC.out h0⟩) HFIT.out (ints_oneCell _ _) g U HBD.out (Nat.le_refl _) ?_); go_loud (intro w6 hg6 hb6; have HO6 := Lib.hid (pad_row hg6.out (by rw [cutP_len]; exact HMN.out) (by have := HN2.out; omega)); have HB6 := Lib.hid hb6; clear hg6 hb6))
          rw [HPD.out] at HO6
          have HOO := Lib.hid (own_on HOU.out HB6.out HGG.out)
          rw [show vs ++ Value.slice (some ⟨g, 0, none⟩) n n :: List.replicate (t - (i + 1)) (.slice none 0 0) = (vs ++ [.slice (some ⟨g, 0, none⟩) n n]) ++ List.replicate (t - (i + 1)) (.slice none 0 0) by simp] at HOO
          have hmo := (HRV.out.keep (w' := w6) (ok' := fun b => G < b) HB6.out.size (fun b h1 h2 => ⟨h2.1, HB6.out.block b h2.2⟩)).more (P := cutP B n i n) (a := some ⟨g, 0, none⟩) (c := n) (by rw [cutP_len]; exact Pa.own2 HO6.out) (fun bb off e _ => by cases e; exact HGG.out)
          rw [cutP_len, ← cutM_take HI1.out] at hmo
          have HMO := Lib.hid hmo
          have HVV := Lib.hid (show (vs ++ [Value.slice (some ⟨g, 0, none⟩) n n]).length = i + 1 by rw [List.length_append, HVL.out]; rfl)
          have HBB := Lib.hid (HBU.out.trans (HB6.out.mono (Nat.le_of_lt HGG.out)))
          clear hmo
          go_roundw
          case rel => exact ⟨i + 1, vs ++ [.slice (some ⟨g, 0, none⟩) n n], by have := HI1.out; omega, by go_num, HVV, HOO, HMO, HBB⟩
          case measure => simp [intOf]; have := HI1.out; omega
        · by_cases qc : cB = L
          · obtain rfl : cB = L := qc
            rw [show cutA (some ad) cB cB = some ad by unfold cutA; rw [if_pos rfl]] at HC
            go_still_tail 12, (by kernel_rfl)
            go_wp2_with ((with_reducible show wpList _ _ _ (⟨some 40, _, _, _, _, _⟩ :: _) _ _); go_loud (refine wpList_copy_splice (o := ⟨some 40, _, _, _, _, _⟩) rfl (.tmp 31) (.tmp 39) 22 22 rfl 5 Tryz.underlying22 size_u8 (some ⟨g, 0, none⟩) _ n n _ _ rfl rfl g 0 (madeCells #[.int .u8 0] n).toList 5 HGD.out ((iL (cutP B n i m)).map (Value.int .u8)) HLEN.out (fun h0 => ⟨rfl, HC.out h0⟩) HFIT.out (ints_oneCell _ _) g U HBD.out (Nat.le_refl _) ?_); go_loud (intro w6 hg6 hb6; have HO6 := Lib.hid (pad_row hg6.out (by rw [cutP_len]; exact HMN.out) (by have := HN2.out; omega)); have HB6 := Lib.hid hb6; clear hg6 hb6))
            rw [HPD.out] at HO6
            have HOO := Lib.hid (own_on HOU.out HB6.out HGG.out)
            rw [show vs ++ Value.slice (some ⟨g, 0, none⟩) n n :: List.replicate (t - (i + 1)) (.slice none 0 0) = (vs ++ [.slice (some ⟨g, 0, none⟩) n n]) ++ List.replicate (t - (i + 1)) (.slice none 0 0) by simp] at HOO
            have hmo := (HRV.out.keep (w' := w6) (ok' := fun b => G < b) HB6.out.size (fun b h1 h2 => ⟨h2.1, HB6.out.block b h2.2⟩)).more (P := cutP B n i n) (a := some ⟨g, 0, none⟩) (c := n) (by rw [cutP_len]; exact Pa.own2 HO6.out) (fun bb off e _ => by cases e; exact HGG.out)
            rw [cutP_len, ← cutM_take HI1.out] at hmo
            have HMO := Lib.hid hmo
            have HVV := Lib.hid (show (vs ++ [Value.slice (some ⟨g, 0, none⟩) n n]).length = i + 1 by rw [List.length_append, HVL.out]; rfl)
            have HBB := Lib.hid (HBU.out.trans (HB6.out.mono (Nat.le_of_lt HGG.out)))
            clear hmo
            go_roundw
            case rel => exact ⟨i + 1, vs ++ [.slice (some ⟨g, 0, none⟩) n n], by have := HI1.out; omega, by go_num, HVV, HOO, HMO, HBB⟩
            case measure => simp [intOf]; have := HI1.out; omega
          · rw [show cutA (some ad) cB L = some (ad.add L) by unfold cutA; rw [if_neg qc]; rfl] at HC
            go_still_tail 12, (by kernel_rfl)
            go_wp2_with ((with_reducible show wpList _ _ _ (⟨some 40, _, _, _, _, _⟩ :: _) _ _); go_loud (refine wpList_copy_splice (o := ⟨some 40, _, _, _, _, _⟩) rfl (.tmp 31) (.tmp 39) 22 22 rfl 5 Tryz.underlying22 size_u8 (some ⟨g, 0, none⟩) _ n n _ _ rfl rfl g 0 (madeCells #[.int .u8 0] n).toList 5 HGD.out ((iL (cutP B n i m)).map (Value.int .u8)) HLEN.out (fun h0 => ⟨rfl, HC.out h0⟩) HFIT.out (ints_oneCell _ _) g U HBD.out (Nat.le_refl _) ?_); go_loud (intro w6 hg6 hb6; have HO6 := Lib.hid (pad_row hg6.out (by rw [cutP_len]; exact HMN.out) (by have := HN2.out; omega)); have HB6 := Lib.hid hb6; clear hg6 hb6))
            rw [HPD.out] at HO6
            have HOO := Lib.hid (own_on HOU.out HB6.out HGG.out)
            rw [show vs ++ Value.slice (some ⟨g, 0, none⟩) n n :: List.replicate (t - (i + 1)) (.slice none 0 0) = (vs ++ [.slice (some ⟨g, 0, none⟩) n n]) ++ List.replicate (t - (i + 1)) (.slice none 0 0) by simp] at HOO
            have hmo := (HRV.out.keep (w' := w6) (ok' := fun b => G < b) HB6.out.size (fun b h1 h2 => ⟨h2.1, HB6.out.block b h2.2⟩)).more (P := cutP B n i n) (a := some ⟨g, 0, none⟩) (c := n) (by rw [cutP_len]; exact Pa.own2 HO6.out) (fun bb off e _ => by cases e; exact HGG.out)
            rw [cutP_len, ← cutM_take HI1.out] at hmo
            have HMO := Lib.hid hmo
            have HVV := Lib.hid (show (vs ++ [Value.slice (some ⟨g, 0, none⟩) n n]).length = i + 1 by rw [List.length_append, HVL.out]; rfl)
            have HBB := Lib.hid (HBU.out.trans (HB6.out.mono (Nat.le_of_lt HGG.out)))
            clear hmo
            go_roundw
            case rel => exact ⟨i + 1, vs ++ [.slice (some ⟨g, 0, none⟩) n n], by have := HI1.out; omega, by go_num, HVV, HOO, HMO, HBB⟩
            case measure => simp [intOf]; have := HI1.out; omega
    · obtain rfl : i = t := by omega
      have ho := HO.out
      have hv := HV.out
      rw [Nat.sub_self, List.replicate_zero, List.append_nil] at ho
      rw [List.take_of_length_le (by rw [cutM_len]; exact Nat.le_refl _)] at hv
      have HM := Lib.hid (MatB.ofOk ho hv (fun b hb => Nat.le_of_lt hb))
      have HBF := Lib.hid (show Below w.heap.size w V from HBR.out.trans (by have := HBV.out; rw [HG.out] at this; exact this))
      clear ho hv
      go_wp2
      go_ret2
      exact ⟨_, _, rfl, by rw [← HG.out]; exact HM.out, HBF.out⟩
end Go.Proofs.YtappfdbmhgifcaaGreatDoor
/- Contracts of mend's Radius, checked, uneven; of slices.Equal at bytes, slices.Clone at whole numbers. -/
namespace Go.Proofs.YtappfdbmhgifcaaGreatDoor
open Go.ChangeShapes Go.WideShapes Go.ChangeAt Go.RowKit Go.Shelf GF
set_option linter.unusedVariables false
set_option linter.unusedSimpArgs false
set_option maxRecDepth 100000

/-! ## Radius -/
theorem radius_any (m t : Nat) (w : World) (hm : m ≤ 1000) (ht : t ≤ 1000) : Calls Tryz.prog 98 #[.int .i64 (m : Nat), .int .i64 (t : Nat)] w fun r w' => r = .returned (.int .i64 (((m - t) / 2 : Nat) : Int)) ∧ w = w' := by
  by_cases h : m < t
  · have q : (m : Int) < (t : Int) := by omega
    have e : (m - t) / 2 = 0 := by omega
    have E := Lib.hid e
    clear e h
    go_enter Tryz.func98, Tryz.ntmps98
    go_wp2
    go_ret
    exact ⟨by rw [E.out]; rfl, rfl⟩
  · have q : ¬ (m : Int) < (t : Int) := by omega
    obtain ⟨d, hd⟩ : ∃ d, d = m - t := ⟨_, rfl⟩
    have qd : (m : Int) - (t : Int) = (d : Int) := by omega
    have qq : Int.tdiv (d : Int) 2 = ((d / 2 : Nat) : Int) := by rw [Int.tdiv_eq_ediv_of_nonneg (by omega)]; omega
    obtain ⟨r, hr⟩ : ∃ r, r = d / 2 := ⟨_, rfl⟩
    rw [← hr] at qq
    have qr : (r : Int) ≤ 1000 := by omega
    have qd2 : (d : Int) ≤ 1000 := by omega
    have E := Lib.hid (show ((m - t : Nat) : Int) / 2 = (r : Int) by rw [hr, hd]; rfl)
    clear h hd hr
    go_enter Tryz.func98, Tryz.ntmps98
    go_wp2
    go_ret
    exact ⟨by rw [E.out]; rfl, rfl⟩

/-! ## checked -/
set_option maxHeartbeats 2000000 in
theorem mchk_any (b L K : Nat) (t e : Int) (aX : Option Addr) (cX : Nat) (X : List GF) (w : World) (hf : Fld w b) (hX : Pa w aX L cX X) :
    Calls Tryz.prog 68 #[.pointer (some ⟨b, 0, none⟩), .int .i64 t, .slice aX L cX, .int .i64 (K : Nat), .int .i64 e] w fun r w' => r = .returned (.int .i64 (colErr X K t e)) ∧ Below w.heap.size w w' := by
  have hl := hX.len
  have hcap := hX.bd
  by_cases h1 : L = K
  · subst h1
    by_cases h2 : t < 1 ∨ 255 < t ∨ e < 0
    · have E := Lib.hid (show colErr X L t e = 2 by unfold colErr; rw [if_neg (by omega), if_pos h2])
      clear hf hX hl
      by_cases h3 : t < 1
      · clear h2
        go_enter Tryz.func68, Tryz.ntmps68
        go_wp2
        go_ret
        exact ⟨by rw [E.out]; rfl, Below.refl _ _⟩
      · by_cases h4 : 255 < t
        · clear h2
          go_enter Tryz.func68, Tryz.ntmps68
          go_wp2
          go_ret
          exact ⟨by rw [E.out]; rfl, Below.refl _ _⟩
        · have h5 : e < 0 := by omega
          clear h2
          go_enter Tryz.func68, Tryz.ntmps68
          go_wp2
          go_ret
          exact ⟨by rw [E.out]; rfl, Below.refl _ _⟩
    · have h3 : ¬ t < 1 := by omega
      have h4 : ¬ 255 < t := by omega
      have h5 : ¬ e < 0 := by omega
      by_cases h6 : (L : Int) < t
      · have E := Lib.hid (show colErr X L t e = 5 by unfold colErr; rw [if_neg (by omega), if_neg h2, if_pos (by rw [hl]; exact h6)])
        clear hf hX hl h2
        go_enter Tryz.func68, Tryz.ntmps68
        go_wp2
        go_ret
        exact ⟨by rw [E.out]; rfl, Below.refl _ _⟩
      · have E := Lib.hid (show colErr X L t e = plErr X by unfold colErr; rw [if_neg (by omega), if_neg h2, if_neg (by rw [hl]; exact h6)])
        have HW : Hid (Calls Tryz.prog 94 #[.pointer (some ⟨b, 0, none⟩), .slice aX L cX, .int .u8 0] w fun e w' => ∃ (a : Option Addr) (n c : Nat), e = .returned (.tuple #[.slice a n c, .int .i64 (plErr X)]) ∧ Below w.heap.size w w') := by
          refine Lib.hid ?_
          have z : toI (0 : GF) = 0 := rfl
          by_cases h0 : plErr X = 0
          · have h := weights_any b aX L cX X 0 w hf hX h0
            rw [z] at h
            exact h.mono fun e w' ⟨g, h1, _, h3⟩ => ⟨some ⟨g, 0, none⟩, L, L, by rw [h0]; exact h1, h3⟩
          · have h := weights_bad b aX L cX X 0 w hX h0
            rw [z] at h
            exact h.mono fun e w' ⟨h1, h3⟩ => ⟨none, 0, 0, h1, h3⟩
        generalize plErr X = er at E HW
        clear hf hX hl h2
        go_enter Tryz.func68, Tryz.ntmps68
        go_wp2_with (go_at_call 94; go_loud (refine HW.out.mono ?_; rintro e w1 ⟨a, n, c, rfl, hb1⟩; have HB1 := Lib.hid hb1; clear hb1))
        go_ret
        exact ⟨by rw [E.out]; rfl, HB1.out⟩
  · have q1 : ((L : Int) != (K : Int)) = true := by rw [bne_iff_ne]; omega
    have E := Lib.hid (show colErr X K t e = 1 by unfold colErr; rw [if_pos (by rw [hl]; exact h1)])
    clear hf hX hl h1
    go_enter Tryz.func68, Tryz.ntmps68
    go_wp2
    go_ret
    exact ⟨by rw [E.out]; rfl, Below.refl _ _⟩

theorem mlitOne (w : World) (v : Value) (e : TypeId) : (w.alloc (.cells #[v] e)).cell? ⟨w.heap.size, 0, none⟩ = some v := by simp
/-- uneven's function value: has the row another length than the first one? -/
theorem munev1_any (Bx : Nat) (ai : Option Addr) (m ci N cR m0 : Nat) (a0 : Option Addr) (c0 : Nat) (b off : Nat) (W : World) (r : Bool) (hx : W.cell? ⟨Bx, 0, none⟩ = some (.slice (some ⟨b, off, none⟩) N cR)) (h0 : W.cell? ⟨b, off, none⟩ = some (.slice a0 m0 c0)) (hN : 0 < N) (hb1 : N ≤ cR ∧ cR ≤ 9223372036854775807) (hb2 : m ≤ ci ∧ ci ≤ 9223372036854775807) (hb3 : m0 ≤ c0 ∧ c0 ≤ 9223372036854775807) (hr : ((m : Int) != (m0 : Int)) = r) :
    Calls Tryz.prog 95 #[.slice ai m ci, .pointer (some ⟨Bx, 0, none⟩)] W fun e w' => e = .returned (.bool r) ∧ W = w' := by
  have q0 : (0 : Int) < (N : Int) := by omega
  subst hr
  go_enter Tryz.func95, Tryz.ntmps95
  go_wp2
  go_ret
  exact ⟨rfl, rfl⟩
/-- The first j rows are as long as the first one; the next, if there is one, is not. -/
theorem munevIdx (Bx : Nat) (aR : Option Addr) (N cR : Nat) (R : List (List GF)) (j : Nat) (w : World) (hx : w.cell? ⟨Bx, 0, none⟩ = some (.slice aR N cR)) (hR : Mat w aR N cR R) (hw : ∀ k, k < N → (rw_ R k).length ≤ 1000) (hj : j ≤ N) (hz : ∀ i, i < j → (rw_ R i).length = (rw_ R 0).length) (hn : j < N → (rw_ R j).length ≠ (rw_ R 0).length) :
    Calls Tryz.prog 93 #[.slice aR N cR, .func (.func 95) #[] #[.pointer (some ⟨Bx, 0, none⟩)]] w fun e w' => e = .returned (.int .i64 (if j < N then (j : Int) else -1)) ∧ w = w' := by
  have HR := Lib.hid hR
  have HX := Lib.hid hx
  have HW := Lib.hid hw
  have HZ := Lib.hid hz
  have HN := Lib.hid hn
  have hbd := hR.bd
  clear hR hw hz hn hx
  go_enter Tryz.func93, Tryz.ntmps93
  go_wp2
  go_loop [8] (fun k => ∃ i : Nat, i ≤ j ∧ i ≤ N ∧ k = .int .i64 (i : Nat)) (fun k => N - (intOf k).toNat)
  case atStart => exact ⟨0, Nat.zero_le _, Nat.zero_le _, rfl⟩
  case round =>
    obtain ⟨i, hi, hiL, rfl⟩ := hrel
    by_cases hlt : i < N
    · have qi : (i : Int) < (N : Int) := by omega
      have qi0 : (0 : Int) ≤ (i : Int) := by omega
      obtain ⟨b, off, ai, ci, rfl, hb, hcell, hpa⟩ := HR.out.row hlt
      obtain ⟨b2, o2, a0, c0, e0, hb0, hc0, hp0⟩ := HR.out.row (i := 0) (by omega)
      cases e0
      rw [Nat.add_zero] at hc0
      have hd1 := hpa.bd
      have hd0 := hp0.bd
      obtain ⟨m, hm⟩ : ∃ m, m = (rw_ R i).length := ⟨_, rfl⟩
      obtain ⟨m0, hm0⟩ : ∃ m, m = (rw_ R 0).length := ⟨_, rfl⟩
      have HM := Lib.hid hm
      have HM0 := Lib.hid hm0
      rw [← hm] at hcell hd1
      rw [← hm0] at hc0 hd0
      clear hpa hp0 hm hm0
      by_cases hij : i < j
      · have HC := Lib.hid (munev1_any Bx ai m ci N cR m0 a0 c0 b off w false HX.out hc0 (by omega) hbd hd1 hd0 (by have := HZ.out i hij; rw [← HM.out, ← HM0.out] at this; subst this; simp))
        clear hc0
        go_wp2_with (go_at_call 95; refine HC.out.mono ?_; rintro e w' ⟨rfl, rfl⟩)
        go_round
        case rel => exact ⟨i + 1, by omega, by omega, by go_num⟩
        case measure => simp [intOf]; omega
      · obtain rfl : j = i := by omega
        have HC := Lib.hid (munev1_any Bx ai m ci N cR m0 a0 c0 b off w true HX.out hc0 (by omega) hbd hd1 hd0 (by have := HN.out hlt; rw [← HM.out, ← HM0.out] at this; rw [bne_iff_ne]; omega))
        clear hc0
        go_wp2_with (go_at_call 95; refine HC.out.mono ?_; rintro e w' ⟨rfl, rfl⟩)
        go_ret
        exact ⟨rfl, rfl⟩
    · obtain rfl : N = i := by omega
      have hjL : j = N := by omega
      have hn0 : ¬ j < N := by omega
      clear hjL
      go_wp2
      go_ret
      exact ⟨rfl, rfl⟩
theorem munevCon (Bx : Nat) (aR : Option Addr) (N cR : Nat) (R : List (List GF)) (j : Nat) (r : Bool) (w : World) (hx : w.cell? ⟨Bx, 0, none⟩ = some (.slice aR N cR)) (hR : Mat w aR N cR R) (hw : ∀ k, k < N → (rw_ R k).length ≤ 1000) (hj : j ≤ N) (hz : ∀ i, i < j → (rw_ R i).length = (rw_ R 0).length) (hn : j < N → (rw_ R j).length ≠ (rw_ R 0).length) (hr : r = decide (j < N)) :
    Calls Tryz.prog 66 #[.slice aR N cR, .func (.func 95) #[] #[.pointer (some ⟨Bx, 0, none⟩)]] w fun e w' => e = .returned (.bool r) ∧ w = w' := by
  have HI := munevIdx Bx aR N cR R j w hx hR hw hj hz hn
  have hbd := hR.bd
  by_cases h : j < N
  · rw [if_pos h] at HI
    have HH := Lib.hid HI
    have q : (0 : Int) ≤ (j : Int) := by omega
    have Hr := Lib.hid (hr.trans (decide_eq_true h))
    clear hx hR hw hz hn hr HI
    go_enter Tryz.func66, Tryz.ntmps66
    go_wp2_with (go_at_call 93; refine HH.out.mono ?_; rintro e w' ⟨rfl, rfl⟩)
    go_ret
    exact ⟨by rw [Hr.out]; rfl, rfl⟩
  · rw [if_neg h] at HI
    have HH := Lib.hid HI
    have Hr := Lib.hid (hr.trans (decide_eq_false h))
    clear hx hR hw hz hn hr HI
    go_enter Tryz.func66, Tryz.ntmps66
    go_wp2_with (go_at_call 93; refine HH.out.mono ?_; rintro e w' ⟨rfl, rfl⟩)
    go_ret
    exact ⟨by rw [Hr.out]; rfl, rfl⟩
theorem munev_first (R : List (List GF)) (N : Nat) : ∃ j, j ≤ N ∧ (∀ i, i < j → (rw_ R i).length = (rw_ R 0).length) ∧ (j < N → (rw_ R j).length ≠ (rw_ R 0).length) := by
  induction N with
  | zero => exact ⟨0, Nat.le_refl _, fun i hi => absurd hi (by omega), fun h => absurd h (by omega)⟩
  | succ N ih =>
    obtain ⟨j, h1, h2, h3⟩ := ih
    by_cases h : j < N
    · exact ⟨j, by omega, h2, fun _ => h3 h⟩
    · obtain rfl : j = N := by omega
      by_cases h0 : (rw_ R j).length = (rw_ R 0).length
      · exact ⟨j + 1, Nat.le_refl _, fun k hk => by
          rcases Nat.lt_succ_iff_lt_or_eq.1 hk with h4 | h4
          · exact h2 k h4
          · rw [h4]; exact h0, fun h => absurd h (by omega)⟩
      · exact ⟨j, by omega, h2, fun _ => h0⟩
theorem munev_any (aR : Option Addr) (N cR : Nat) (R : List (List GF)) (r : Bool) (w : World) (hR : Mat w aR N cR R) (hw : ∀ k, k < N → (rw_ R k).length ≤ 1000) (hr : r = true ↔ ∃ i, i < N ∧ (rw_ R i).length ≠ (rw_ R 0).length) :
    Calls Tryz.prog 69 #[.slice aR N cR] w fun e w' => e = .returned (.bool r) ∧ Below w.heap.size w w' := by
  obtain ⟨j, h1, h2, h3⟩ := munev_first R N
  have hA := (Below.refl w.heap.size w).alloc (Nat.le_refl _) (.cells #[.slice aR N cR] 28)
  have hrr : r = decide (j < N) := by
    rw [Bool.eq_iff_iff, decide_eq_true_eq, hr]
    constructor
    · rintro ⟨i, hi, he⟩
      rcases Nat.lt_or_ge j N with h | h
      · exact h
      · exact absurd (h2 i (by omega)) he
    · exact fun h => ⟨j, h, h3 h⟩
  have HC := Lib.hid (munevCon w.heap.size aR N cR R j r _ (mlitOne w (.slice aR N cR) 28) (hR.on hA) hw h1 h2 h3 hrr)
  have HA := Lib.hid hA
  have hbd := hR.bd
  clear hR hw hr hrr h2 h3 h1 hA
  go_enter Tryz.func69, Tryz.ntmps69
  go_wp2_with (go_at_call 66; refine HC.out.mono ?_; rintro e w' ⟨rfl, rfl⟩)
  go_ret
  exact ⟨rfl, HA.out⟩

/-! ## slices.Equal at bytes -/
theorem eqB_any (a1 : Option Addr) (L1 c1 : Nat) (P : List GF) (a2 : Option Addr) (L2 c2 : Nat) (Q : List GF) (r : Bool) (w : World) (h1 : Pa w a1 L1 c1 P) (h2 : Pa w a2 L2 c2 Q) (hr : r = true ↔ L1 = L2 ∧ ∀ k, k < L1 → co P k = co Q k) :
    Calls Tryz.prog 119 #[.slice a1 L1 c1, .slice a2 L2 c2] w fun e w' => e = .returned (.bool r) ∧ Below w.heap.size w w' := by
  have hb1 := h1.bd
  have hb2 := h2.bd
  by_cases hL : L1 = L2
  · subst hL
    obtain ⟨j, hj, hz, hn⟩ : ∃ j, j ≤ L1 ∧ (∀ k, k < j → co P k = co Q k) ∧ (j < L1 → co P j ≠ co Q j) := by
      clear hr h1 h2 hb1 hb2
      induction L1 with
      | zero => exact ⟨0, Nat.le_refl _, fun k hk => absurd hk (by omega), fun h => absurd h (by omega)⟩
      | succ L ih =>
        obtain ⟨j, h1, h2, h3⟩ := ih
        by_cases h : j < L
        · exact ⟨j, by omega, h2, fun _ => h3 h⟩
        · obtain rfl : j = L := by omega
          by_cases h0 : co P j = co Q j
          · exact ⟨j + 1, Nat.le_refl _, fun k hk => by
              rcases Nat.lt_succ_iff_lt_or_eq.1 hk with h4 | h4
              · exact h2 k h4
              · rw [h4]; exact h0, fun h => absurd h (by omega)⟩
          · exact ⟨j, by omega, h2, fun _ => h0⟩
    have Hr : Hid (r = decide (j = L1)) := Lib.hid (by
      rw [Bool.eq_iff_iff, decide_eq_true_eq, hr]
      exact ⟨fun ⟨_, h⟩ => by
        rcases Nat.lt_or_ge j L1 with h3 | h3
        · exact absurd (h j h3) (hn h3)
        · omega, fun e => ⟨rfl, fun k hk => hz k (by omega)⟩⟩)
    have H1 := Lib.hid h1
    have H2 := Lib.hid h2
    have HZ := Lib.hid hz
    have HN := Lib.hid hn
    clear h1 h2 hr hz hn
    go_enter Tryz.func119, Tryz.ntmps119
    go_wp2
    go_loopw [13] (fun i wr => ∃ k : Nat, k ≤ j ∧ i = .int .i64 (k : Nat) ∧ Hid (Below w.heap.size w wr))
      (fun i _ => L1 - (intOf i).toNat)
    case atStart => exact ⟨0, Nat.zero_le _, rfl, Lib.hid (Below.refl _ _)⟩
    case round =>
      obtain ⟨k, hk, rfl, hB⟩ := hrel
      by_cases hlt : k < L1
      · obtain ⟨bx, ox, rfl, hbx, hcx⟩ := (H1.out.on hB.out).at_ hlt
        obtain ⟨by_, oy, rfl, hby, hcy⟩ := (H2.out.on hB.out).at_ hlt
        have q2 : (k : Int) < (L1 : Int) := by omega
        have q3 : (0 : Int) ≤ (k : Int) := by omega
        obtain ⟨u, hu⟩ : ∃ u, u = toI (co P k) := ⟨_, rfl⟩
        obtain ⟨v, hv⟩ : ∃ v, v = toI (co Q k) := ⟨_, rfl⟩
        rw [← hu] at hcx
        rw [← hv] at hcy
        by_cases e : k = j
        · have h0 := HN.out (by omega)
          have q5 : (u != v) = true := by rw [bne_iff_ne, hu, hv]; exact fun h => h0 (by rw [← e]; exact toI_inj h)
          have Q4 := Lib.hid (Hr.out.trans (decide_eq_false (by omega)))
          clear hu hv e h0
          go_wp2
          go_quiet (fail)
          go_wp2
          go_ret
          exact ⟨by rw [Q4.out]; rfl, below_drewN hB.out _⟩
        · have h0 := HZ.out k (by omega)
          have q5 : (u != v) = false := by rw [hu, hv, h0]; simp
          have hk1 : k + 1 ≤ j := by omega
          clear hu hv e h0
          go_wp2
          go_quiet (fail)
          go_wp2
          go_roundw
          case rel => exact ⟨k + 1, hk1, by go_num, Lib.hid (below_drewN hB.out _)⟩
          case measure => simp [intOf]; omega
      · have Q4 := Lib.hid (Hr.out.trans (decide_eq_true (show j = L1 by omega)))
        obtain rfl : L1 = k := by omega
        go_wp2
        go_ret
        exact ⟨by rw [Q4.out]; rfl, hB.out⟩
  · have q1 : ((L1 : Int) != (L2 : Int)) = true := by rw [bne_iff_ne]; omega
    have Hr := Lib.hid (show r = false from Bool.eq_false_iff.2 fun e => hL (hr.1 e).1)
    clear h1 h2 hr hL
    go_enter Tryz.func119, Tryz.ntmps119
    go_wp2
    go_ret
    exact ⟨by rw [Hr.out]; rfl, Below.refl _ _⟩

/-! ## slices.Clone at whole numbers -/
theorem eqlI_nil (w : World) : (binOp .eql 39 (.slice none 0 0) (.slice none 0 0)).run Tryz.prog w = .ok (.bool true) w := rfl
theorem eqlI_some (w : World) (ad : Addr) (n c : Nat) : (binOp .eql 39 (.slice (some ad) n c) (.slice none 0 0)).run Tryz.prog w = .ok (.bool false) w := rfl
theorem cloneI_any (a : Option Addr) (L cap : Nat) (ps : List Int) (w : World) (hx : IA w a L cap ps) (hL : L ≤ 1000) (hz : ∀ z, z ∈ ps → 0 ≤ z ∧ z < 256) :
    Calls Tryz.prog 45 #[.slice a L cap] w fun e w' => ∃ a' c', e = .returned (.slice a' L c') ∧ IA w' a' L c' ps ∧ Below w.heap.size w w' := by
  have HX := Lib.hid hx
  have HZ := Lib.hid hz
  have hcap := hx.bd
  clear hx hz
  rcases a with _ | ad
  · obtain rfl : cap = 0 := HX.out.2.2.2.1 rfl
    obtain rfl : L = 0 := by omega
    have he := eqlI_nil
    go_enter Tryz.func45, Tryz.ntmps45
    go_wp2
    go_ret
    exact ⟨_, _, rfl, HX.out, Below.refl _ _⟩
  · obtain ⟨i5, hi, hz0, hz1, hz2⟩ := info_parts infoI1
    have HI := Lib.hid (And.intro hi (And.intro hz0 (And.intro hz1 hz2)))
    clear hi hz0 hz1 hz2
    have he := fun w => eqlI_some w ad L cap
    have HE0 : Hid ((w.alloc (.cells #[] 3)).ownsRow w.heap.size 3 1 (.slice (some ⟨w.heap.size, 0, none⟩) 0 0) 0 (([] : List Int).map (Value.int .i64))) := Lib.hid (own_emptyZ w 3)
    go_enter Tryz.func45, Tryz.ntmps45
    go_wp2_with ((with_reducible show wpList _ _ _ (⟨some 7, _, _, _, _, _⟩ :: _) _ _); go_loud (refine wpList_append_ia _ rfl (.tmp 5) (.tmp 6) 39 rfl w.heap.size 3 i5 Tryz.underlying39 HI.out.1 HI.out.2.1 HI.out.2.2.1 HI.out.2.2.2 _ 0 ([] : List Int) rfl HE0.out (some ad) L cap ps rfl (HX.out.on ((Below.refl _ _).alloc (Nat.le_refl _) _)) (by omega) (by simp) ?_; intro v1 wc hown1 hg1; rw [Nat.zero_add, List.nil_append] at hown1; have hBc := ((Below.refl _ w).alloc (Nat.le_refl _) _).grown hg1 (by simp) (own_block_le _ _ _); obtain ⟨a9, c9, hv, hia⟩ := IA.own hown1 HZ.out; subst hv; have HO := Lib.hid hia; have HB := Lib.hid hBc; clear hown1 hBc hg1 hia))
    go_ret
    exact ⟨_, _, rfl, HO.out, HB.out⟩
end Go.Proofs.YtappfdbmhgifcaaGreatDoor
/- Contracts of mend's blank and column. -/
namespace Go.Proofs.YtappfdbmhgifcaaGreatDoor
open Go.ChangeShapes Go.WideShapes Go.ChangeAt Go.RowKit Go.Shelf GF
set_option linter.unusedVariables false
set_option linter.unusedSimpArgs false
set_option maxRecDepth 100000

theorem made_tabV (v : Value) (n : Nat) : madeCells #[v] n = tabV n (fun _ => v) := by
  have h := toList_madeCells_one v n
  apply Array.ext'
  rw [h]
  unfold tabV
  rw [List.toList_toArray]
  clear h
  induction n with
  | zero => rfl
  | succ n ih =>
    rw [List.range_succ, List.map_append, ← List.replicate_append_replicate (n := n) (m := 1)]
    simp
    exact ih
/-- Rows of one's own, each in a block of its own: the slices' block, then the rows'. -/
def BlkM (w : World) (g n s : Nat) (F : Nat → Nat → GF) : Prop :=
  Blk w g 22 n (fun k => .slice (some ⟨g + 1 + k, 0, none⟩) s s) ∧ ∀ k, k < n → Blk w (g + 1 + k) 5 s (fun j => .int .u8 (toI (F k j)))
theorem BlkM.on {w w' : World} {g n s : Nat} {F : Nat → Nat → GF} (h : BlkM w g n s F) (hb : Below w.heap.size w w') : BlkM w' g n s F :=
  ⟨h.1.on hb h.1.lt, fun k hk => (h.2 k hk).on hb (h.2 k hk).lt⟩
set_option maxHeartbeats 1000000 in
theorem blank_any (n s : Nat) (w : World) (hn : n ≤ 1000) (hs : s ≤ 1000) :
    Calls Tryz.prog 116 #[.int .i64 (n : Nat), .int .i64 (s : Nat)] w fun e w' => e = .returned (.slice (some ⟨w.heap.size, 0, none⟩) n n) ∧ BlkM w' w.heap.size n s (fun _ _ => 0) ∧ Below w.heap.size w w' := by
  have hmk := run_make_row' (P := Tryz.prog) 28 22 (.slice none 0 0) 24 Tryz.underlying28 infoR rfl .i64 .i64 n (by omega) (by omega)
  have hmk2 := run_make_row' (P := Tryz.prog) 22 5 (.int .u8 0) 1 Tryz.underlying22 info5 rfl .i64 .i64 s (by omega) (by omega)
  rw [made_tabV] at hmk hmk2
  have HN := Lib.hid hn
  have qn : (n : Int) ≤ 1000 := by omega
  have HB0 := Lib.hid (show Below w.heap.size w (w.alloc (.cells (tabV n fun _ => .slice none 0 0) 22)) from (Below.refl _ _).alloc (Nat.le_refl _) _)
  have HO0 := Lib.hid (show Blk (w.alloc (.cells (tabV n fun _ => .slice none 0 0) 22)) w.heap.size 22 n (fun k => if k < 0 then .slice (some ⟨w.heap.size + 1 + k, 0, none⟩) s s else .slice none 0 0) from (Blk.made w 22 n (fun _ => .slice none 0 0)).congr fun j _ => by rw [if_neg (by omega)])
  have HS0 := Lib.hid (size_alloc1 w (.cells (tabV n fun _ => .slice none 0 0) 22))
  clear hn
  go_enter Tryz.func116, Tryz.ntmps116
  go_wp2
  go_loopw [11] (fun j wr => ∃ i : Nat, i ≤ n ∧ j = .int .i64 (i : Nat) ∧ Hid (Blk wr w.heap.size 22 n (fun k => if k < i then .slice (some ⟨w.heap.size + 1 + k, 0, none⟩) s s else .slice none 0 0)) ∧ Hid (∀ k, k < i → Blk wr (w.heap.size + 1 + k) 5 s (fun _ => .int .u8 0)) ∧ Hid (wr.heap.size = w.heap.size + 1 + i) ∧ Hid (Below w.heap.size w wr))
    (fun j _ => n - (intOf j).toNat)
  case atStart => exact ⟨0, Nat.zero_le _, rfl, HO0, Lib.hid (fun k hk => absurd hk (by omega)), HS0, HB0⟩
  case round =>
    obtain ⟨i, hi, rfl, hO, hI, hS, hB⟩ := hrel
    rename World => w1
    by_cases hlt : i < n
    · have qi : (i : Int) < (n : Int) := by omega
      have qi0 : (0 : Int) ≤ (i : Int) := by omega
      obtain ⟨V, hV⟩ : ∃ V, V = w1.alloc (.cells (tabV s fun _ => .int .u8 0) 5) := ⟨_, rfl⟩
      have hsV : V.heap.size = w.heap.size + 1 + i + 1 := by rw [hV, size_alloc1, hS.out]
      have hbw : Below w1.heap.size w1 V := by rw [hV]; exact (Below.refl _ _).alloc (Nat.le_refl _) _
      have hO1 : Blk V w.heap.size 22 n (fun k => if k < i then .slice (some ⟨w.heap.size + 1 + k, 0, none⟩) s s else .slice none 0 0) := hO.out.on hbw hO.out.lt
      have hN1 : Blk V (w.heap.size + 1 + i) 5 s (fun _ => .int .u8 0) := by rw [hV, ← hS.out]; exact Blk.made _ _ _ _
      have hc := hO1.cell hlt
      have hfz := hO1.free i
      have hst := hO1.set hlt (.slice (some ⟨w.heap.size + 1 + i, 0, none⟩) s s)
      have hBV : Below w.heap.size w (V.setCell ⟨w.heap.size, i, none⟩ (.slice (some ⟨w.heap.size + 1 + i, 0, none⟩) s s)) := ((hB.out.alloc (by have := hB.out.size; omega) (.cells (tabV s fun _ => .int .u8 0) 5)).setCell (p := ⟨w.heap.size, i, none⟩) (Nat.le_refl _) _) |> (by rw [hV]; exact ·)
      have HST := Lib.hid (hst.congr (h := fun k => if k < i + 1 then .slice (some ⟨w.heap.size + 1 + k, 0, none⟩) s s else .slice none 0 0) fun k hk => by
        by_cases e : k = i
        · rw [if_pos e, if_pos (by omega), e]
        · rw [if_neg e]
          by_cases e2 : k < i
          · rw [if_pos e2, if_pos (by omega)]
          · rw [if_neg e2, if_neg (by omega)])
      have HI2 := Lib.hid (show ∀ k, k < i + 1 → Blk (V.setCell ⟨w.heap.size, i, none⟩ (.slice (some ⟨w.heap.size + 1 + i, 0, none⟩) s s)) (w.heap.size + 1 + k) 5 s (fun _ => .int .u8 0) from fun k hk => by
        refine Blk.other ?_ _ _ (by show w.heap.size + 1 + k ≠ w.heap.size; omega)
        by_cases e : k = i
        · rw [e]; exact hN1
        · exact (hI.out k (by omega)).on hbw (hI.out k (by omega)).lt)
      have HSZ := Lib.hid (show (V.setCell ⟨w.heap.size, i, none⟩ (.slice (some ⟨w.heap.size + 1 + i, 0, none⟩) s s)).heap.size = w.heap.size + 1 + (i + 1) by simp [hsV]; omega)
      have HBV := Lib.hid hBV
      have HSE := Lib.hid hS.out
      rw [hV, ← hS.out] at HST HI2 HSZ HBV
      rw [hV] at hc hfz
      clear hV hsV hbw hO1 hN1 hst hBV
      go_wp2
      go_roundw
      case rel => exact ⟨i + 1, by omega, by go_num, HST, HI2, HSZ, HBV⟩
      case measure => simp [intOf]; omega
    · obtain rfl : i = n := by omega
      go_wp2
      go_ret
      exact ⟨rfl, ⟨hO.out.congr fun j hj => by rw [if_pos hj], fun k hk => hI.out k hk⟩, hB.out⟩
set_option maxHeartbeats 1000000 in
theorem column_any (aR : Option Addr) (N cR i n : Nat) (R : List (List GF)) (w : World) (hR : Mat w aR N cR R) (hw : ∀ k, k < N → (rw_ R k).length = n) (hi : i < n) (hN : N ≤ 1000) :
    Calls Tryz.prog 118 #[.slice aR N cR, .int .i64 (i : Nat)] w fun e w' => ∃ g, e = .returned (.slice (some ⟨g, 0, none⟩) N N) ∧ w'.ownsRow w.heap.size 5 1 (.slice (some ⟨g, 0, none⟩) N N) N ((iL (colG R N i)).map (Value.int .u8)) ∧ Below w.heap.size w w' := by
  have hmk := run_make_row' (P := Tryz.prog) 22 5 (.int .u8 0) 1 Tryz.underlying22 info5 rfl .i64 .i64 N (by omega) (by omega)
  have HR := Lib.hid hR
  have HW := Lib.hid hw
  have HI := Lib.hid hi
  have hbd := hR.bd
  have q0 : (0 : Int) ≤ (i : Int) := by omega
  have HN := Lib.hid hN
  have hO0 : Hid ((w.alloc (.cells (madeCells #[.int .u8 0] N) 5)).ownsRow w.heap.size 5 1 (.slice (some ⟨w.heap.size, 0, none⟩) N N) N (plV (colG R N i) N 0)) := by
    rw [plV_zero]
    exact Lib.hid (own_made (w := w) (e := 5) (n := N) (by unfold maxLen; omega))
  have hB0 : Hid (Below w.heap.size w (w.alloc (.cells (madeCells #[.int .u8 0] N) 5))) := Lib.hid ((Below.refl _ _).alloc (Nat.le_refl _) _)
  clear hR hw hi hN
  go_enter Tryz.func118, Tryz.ntmps118
  go_wp2
  go_loopw [13] (fun j wr => ∃ k : Nat, k ≤ N ∧ j = .int .i64 (k : Nat) ∧ Hid (wr.ownsRow w.heap.size 5 1 (.slice (some ⟨w.heap.size, 0, none⟩) N N) N (plV (colG R N i) N k)) ∧ Hid (Below w.heap.size w wr))
    (fun j _ => N - (intOf j).toNat)
  case atStart => exact ⟨0, Nat.zero_le _, rfl, hO0, hB0⟩
  case round =>
    obtain ⟨k, hk, rfl, hO, hB⟩ := hrel
    rename World => w2
    by_cases hlt : k < N
    · have qi : (k : Int) < (N : Int) := by omega
      have qi0 : (0 : Int) ≤ (k : Int) := by omega
      obtain ⟨b, off, ai, ci, rfl, hb, hcell, hpa⟩ := (HR.out.on hB.out).row hlt
      rw [HW.out k hlt] at hcell hpa
      obtain ⟨b2, o2, rfl, hb2, hc2⟩ := hpa.at_ HI.out
      have hd := hpa.bd
      have qn : (i : Int) < (n : Int) := by have := HI.out; omega
      have hfz := hO.out.frozenAt k
      have hcl := hO.out.cellAt k (by omega)
      obtain ⟨vo, hvo⟩ : ∃ v, (plV (colG R N i) N k)[k]? = some v := ⟨_, List.getElem?_eq_getElem (by rw [plV_len (colG_len _ _ _) hk]; exact hlt)⟩
      rw [hvo] at hcl
      have hst := (hO.out.stored k (.int .u8 (toI (co (rw_ R k) i)))).1
      rw [show co (rw_ R k) i = co (colG R N i) k from (colG_co R hlt).symm, plV_set (colG_len _ _ _) hlt] at hst
      have HBS := Lib.hid (hB.out.setCell (p := ⟨w.heap.size, k, none⟩) (Nat.le_refl _) (.int .u8 (toI (co (colG R N i) k))))
      rw [colG_co R hlt] at hst HBS
      have HST := Lib.hid hst
      clear hst hvo hpa
      go_wp2
      go_roundw
      case rel => exact ⟨k + 1, by omega, by go_num, HST, HBS⟩
      case measure => simp [intOf]; omega
    · obtain rfl : k = N := by omega
      have ho := hO.out
      rw [plV_all (colG_len _ _ _)] at ho
      have HO := Lib.hid ho
      clear ho
      go_wp2
      go_ret
      exact ⟨_, rfl, HO.out, hB.out⟩
end Go.Proofs.YtappfdbmhgifcaaGreatDoor
