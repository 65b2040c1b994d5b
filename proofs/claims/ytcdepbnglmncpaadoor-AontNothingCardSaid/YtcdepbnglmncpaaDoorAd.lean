/- The contracts of package aont's functions. -/
import Derived.Test.YtcdepbnglmncpaaDoorAc
import Derived.Test.YtcdepbnglmncpaaDoorAa
import Derived.BigQuiet
import Derived.Deep.QuietTactic
namespace Go.Proofs.YtcdepbnglmncpaaDoor
open Go.ChangeShapes Go.WideShapes Go.ChangeAt Go.RowKit Go.Shelf
set_option linter.unusedVariables false
set_option linter.unusedSimpArgs false
set_option maxRecDepth 100000

theorem own_any {w : World} {base g n c : Nat} {e : TypeId} {l : List Int} (h : w.ownsRow base e 1 (.slice (some ⟨g, 0, none⟩) n c) n (l.map (Value.int .u8))) (hA : AllB l) : Arg8c w (some ⟨g, 0, none⟩) n c l := by
  obtain ⟨a', c', e1, hb, hl, h1, h2, h3⟩ := own_form h
  cases e1
  exact ⟨⟨hl, hA, hb, h1, h2⟩, fun e => by cases e⟩
/-- The key's stream, added. -/
theorem added_any (b : Nat) (aK : Option Addr) (cK : Nat) (K : List Int) (aB : Option Addr) (n cB : Nat) (B : List Int) (w : World) (hf : Fld w b) (hK : Arg8 w aK 32 cK K) (hB : Arg8 w aB n cB B) (hn : n ≤ 1048576) :
    Calls Tryd.prog 15 #[.pointer (some ⟨b, 0, none⟩), .slice aK (32 : Nat) cK, .slice aB n cB] w fun e w' => ∃ g, e = .returned (.tuple #[.slice (some ⟨g, 0, none⟩) n n, .int .i64 0]) ∧
      Arg8 w' (some ⟨g, 0, none⟩) n n (hidL K B) ∧ Below w.heap.size w w' := by
  have hmk := run_make_row' (P := Tryd.prog) 22 5 (.int .u8 0) 1 Tryd.underlying22 info5 rfl .i64 .i64 8 (by omega) (by omega)
  rw [show ((8 : Nat) : Int) = 2 * 4 from rfl] at hmk
  simp only [Int.reduceMul] at hmk
  have HN := Lib.hid (new_arg b aK 32 cK K w hf hK (.inr rfl))
  have HKL := Lib.hid (show K.length = 16 ∨ K.length = 32 from .inr hK.1)
  have HKB := Lib.hid hK.2.1
  have HB := Lib.hid hB
  have HL := Lib.hid hn
  clear hf hK hB hn
  go_enter Tryd.func15, Tryd.ntmps15
  go_wp2_with (first
    | (go_at_call 27; go_loud ((with_reducible refine HN.out.mono ?_); rintro e w1 ⟨cb, rfl, hc, hb⟩; have HC1 := Lib.hid hc; have HB1 := Lib.hid hb; have HA1 := Lib.hid (show Below w1.heap.size w1 (w1.alloc (.cells (madeCells #[.int .u8 0] 8) 5)) from (Below.refl _ _).alloc (Nat.le_refl _) _); have HX := Lib.hid (sxor_ok cb K (some ⟨w1.heap.size, 0, none⟩) 8 Z8 aB n cB B (w1.alloc (.cells (madeCells #[.int .u8 0] 8) 5)) (HC1.out.on HA1.out) HKL.out HKB.out (own_any (own_made (w := w1) (e := 5) (n := 8) (by unfold maxLen; omega)) Z8_B).1 ((HB.out.on HB1.out).on HA1.out) HL.out); clear hc hb))
    | (go_at_call 28; go_loud ((with_reducible refine HX.out.mono ?_); rintro e w2 ⟨g2, rfl, ha, hb⟩; have HA2 := Lib.hid ha; have HB2 := Lib.hid (bt HB1.out (bt HA1.out hb)); clear ha hb)))
  go_ret2
  have HL2 := HB.out.1
  refine ⟨g2, rfl, ?_, HB2.out⟩
  have h := HA2.out
  unfold hidL
  rw [HL2]
  exact h
/-- The key, covered. -/
theorem covered_any (aK : Option Addr) (cK : Nat) (K : List Int) (aB : Option Addr) (n cB : Nat) (B : List Int) (w : World) (hG : Gl w) (hK : Arg8 w aK 32 cK K) (hB : Arg8 w aB n cB B) (hn : n ≤ 800000) :
    Calls Tryd.prog 17 #[.slice aK (32 : Nat) cK, .slice aB n cB] w fun e w' => ∃ g, e = .returned (.slice (some ⟨g, 0, none⟩) 32 32) ∧
      w'.ownsRow w.heap.size 5 1 (.slice (some ⟨g, 0, none⟩) 32 32) 32 ((xorL K (shaL B)).map (Value.int .u8)) ∧ Below w.heap.size w w' := by
  have hb1 : Below w.heap.size w (w.alloc (.cells #[.slice aB n cB] 22)) := (Below.refl _ _).alloc (Nat.le_refl _) _
  have HB1 := Lib.hid hb1
  have HS := Lib.hid (sum_one w.heap.size aB n cB B (w.alloc (.cells #[.slice aB n cB] 22)) (by simp) (by simp) (hB.on hb1) hn (hG.on hb1 hG.1))
  have HK := Lib.hid hK
  clear hK hB hn hG hb1
  go_enter Tryd.func17, Tryd.ntmps17
  go_wp2_with (first
    | (go_at_call 31; go_loud ((with_reducible refine HS.out.mono ?_); rintro e w2 ⟨g2, c2, rfl, hr, hb⟩; have HR2 := Lib.hid hr; have HB2 := Lib.hid (bt HB1.out hb); have HX := Lib.hid (xor_bare aK (some ⟨g2, 0, none⟩) 32 cK 32 c2 K (shaL B) w2 ⟨HK.out.1, HK.out.2.1, (HK.out.on HB2.out).2.2.1⟩ ⟨HR2.out.1, HR2.out.2.1, HR2.out.bs⟩ (by omega) (by omega)); clear hr hb))
    | (go_at_call 30; go_loud ((with_reducible refine HX.out.mono ?_); rintro e w3 ⟨g3, rfl, ho, hb⟩; rw [Nat.min_self] at ho; have HO3 := Lib.hid (own_baseS ho HB2.out.size); have HB3 := Lib.hid (bt HB2.out hb); clear ho hb)))
  go_ret
  exact ⟨g3, rfl, HO3.out, HB3.out⟩
/-- A package in two. -/
theorem parted_few (a : Option Addr) (n c : Nat) (w : World) (hn : n < 32) : Calls Tryd.prog 24 #[.slice a n c] w fun e w' => e = .returned (.tuple #[.slice none 0 0, .slice none 0 0, .int .i64 3]) ∧ w = w' := by
  have q1 : wrap64 ((n : Int) - 32) = (n : Int) - 32 := by unfold wrap64; omega
  have q2 : (n : Int) - 32 < 0 := by omega
  go_enter Tryd.func24, Tryd.ntmps24
  go_wp2
  go_ret3
  exact ⟨rfl, rfl⟩
theorem parted_ok (b off m c : Nat) (w : World) (hc : m + 32 ≤ c) (hm : c ≤ maxLen) : Calls Tryd.prog 24 #[.slice (some ⟨b, off, none⟩) (m + 32 : Nat) c] w fun e w' =>
    e = .returned (.tuple #[.slice (some ⟨b, off, none⟩) m c, .slice (some ⟨b, off + m, none⟩) 32 (c - m), .int .i64 0]) ∧ ∃ j, w' = w.drewN j := by
  unfold maxLen at hm
  have q2 : ¬ ((m : Int) < 0) := by omega
  go_enter Tryd.func24, Tryd.ntmps24
  go_wp2
  go_quiet (fail)
  go_wp2
  go_ret3
  exact ⟨rfl, _, rfl⟩
/-! ## the contracts -/
theorem wrapOk : WrapOkC := by
  intro b aK cK K aB n cB B w hG hf hK hB hn
  have HA := Lib.hid (added_any b aK cK K aB n cB B w hf hK.1 hB.1 (by omega))
  have HG := Lib.hid hG
  have HK := Lib.hid hK
  have HKB := Lib.hid (hidL_B hK.1.2.1 hB.1.2.1)
  have HKL := Lib.hid hK.1.1
  have q1 : ¬ (1048576 : Int) < (n : Int) := by omega
  have HN := Lib.hid hn
  clear hG hf hK hB hn
  go_enter Tryd.func8, Tryd.ntmps8
  go_wp2_with (first
    | (go_at_call 15; go_loud ((with_reducible refine HA.out.mono ?_); rintro e w1 ⟨g1, rfl, ha, hb⟩; have HA1 := Lib.hid ha; have HB1 := Lib.hid hb; have HC := Lib.hid (covered_any aK cK K (some ⟨g1, 0, none⟩) n n (hidL K B) w1 (HG.out.on hb HG.out.1) (HK.out.1.on hb) ha (by have := HN.out; omega)); clear ha hb))
    | (go_at_call 17; go_loud ((with_reducible refine HC.out.mono ?_); rintro e w2 ⟨g2, rfl, ho, hb⟩; have HO2 := Lib.hid ho; have HB2 := Lib.hid hb; have hal : Below w2.heap.size w2 (w2.alloc (.cells #[.slice (some ⟨g1, 0, none⟩) n n, .slice (some ⟨g2, 0, none⟩) 32 32] 22)) := (Below.refl _ _).alloc (Nat.le_refl _) _; have HAL := Lib.hid hal; have HCC := Lib.hid (concat8_any w2.heap.size (some ⟨g1, 0, none⟩) n n (hidL K B) (some ⟨g2, 0, none⟩) 32 32 (xorL K (shaL (hidL K B))) (w2.alloc (.cells #[.slice (some ⟨g1, 0, none⟩) n n, .slice (some ⟨g2, 0, none⟩) 32 32] 22)) (by simp) (by simp) (by simp) ⟨(HA1.out.on hb).on hal, fun e => by cases e⟩ ⟨(own_any ho (xorL_B _ _ HK.out.1.2.1 (shaL_B _))).1.on hal, fun e => by cases e⟩ (by omega) (by have := HN.out; omega)); clear ho hb hal))
    | (go_at_call 16; go_loud ((with_reducible refine HCC.out.mono ?_); rintro e w3 ⟨v3, rfl, ho, hb⟩; obtain ⟨a3, c3, rfl, _⟩ := own_form ho; have HO3 := Lib.hid ho; have HB3 := Lib.hid (bt (bt HB1.out HB2.out) (bt HAL.out hb)); clear ho hb)))
  go_ret2
  have ho := HO3.out
  rw [show hidL K B ++ xorL K (shaL (hidL K B)) = pkgL K B from rfl] at ho
  obtain ⟨g, hg⟩ : ∃ g, a3 = some ⟨g, 0, none⟩ := by
    rcases ho with ⟨_, h | ⟨g, c, cs, h, _⟩⟩
    · cases h.1
    · cases h
      exact ⟨g, rfl⟩
  subst hg
  exact ⟨g, c3, rfl, own_baseS ho (by have := (bt (bt HB1.out HB2.out) HAL.out).size; omega), HB3.out⟩
theorem wrapArg : WrapArgC := by
  intro aK L cK K aB n cB B w hK hB
  go_enter Tryd.func8, Tryd.ntmps8
  go_wp2
  go_ret2
  exact ⟨_, _, _, rfl, Below.refl _ _⟩
theorem wrapForm : WrapFormC := by
  intro b aK L cK K aB n cB B w hf hK hB hL hn
  have q1 : ¬ (L : Int) = 32 := by omega
  go_enter Tryd.func8, Tryd.ntmps8
  go_wp2
  go_ret2
  exact ⟨_, _, _, rfl, Below.refl _ _⟩
theorem arg_some {w : World} {a : Option Addr} {n c : Nat} {l : List Int} (h : Arg8 w a n c l) (hn : 0 < n) : ∃ b off, a = some ⟨b, off, none⟩ := by
  obtain ⟨b, off, e, _⟩ := h.2.2.1 (by rw [h.1]; exact hn)
  exact ⟨b, off, e⟩
theorem arg_head {w : World} {b off m c : Nat} {P : List Int} (h : Arg8 w (some ⟨b, off, none⟩) (m + 32) c P) : Arg8 w (some ⟨b, off, none⟩) m c (P.take (P.length - 32)) := by
  obtain ⟨h1, h2, h3, h4, h5⟩ := h
  exact ⟨by rw [List.length_take, h1]; omega, fun x hx => h2 x (List.mem_of_mem_take hx), h3.take _, by omega, h5⟩
theorem arg_tail {w : World} {b off m c : Nat} {P : List Int} (h : Arg8 w (some ⟨b, off, none⟩) (m + 32) c P) : Arg8 w (some ⟨b, off + m, none⟩) 32 (c - m) (P.drop (P.length - 32)) := by
  obtain ⟨h1, h2, h3, h4, h5⟩ := h
  have e : P.length - 32 = m := by omega
  exact ⟨by rw [List.length_drop, h1]; omega, fun x hx => h2 x (List.mem_of_mem_drop hx), by rw [e]; exact h3.dropK, by omega, by omega⟩
theorem keyOk : KeyOkC := by
  intro a n c P w hG hP h1 h2
  obtain ⟨b, off, rfl⟩ := arg_some hP.1 (by omega)
  obtain ⟨m, rfl⟩ : ∃ m, n = m + 32 := ⟨n - 32, by omega⟩
  have HP := Lib.hid (parted_ok b off m c w hP.1.2.2.2.1 hP.1.2.2.2.2)
  have HC := Lib.hid (fun j => covered_any (some ⟨b, off + m, none⟩) (c - m) (P.drop (P.length - 32)) (some ⟨b, off, none⟩) m c (P.take (P.length - 32)) (w.drewN j) (hG.drewN j) (arg_tail hP.1) (arg_head hP.1) (by omega))
  have HB := Lib.hid (keyL_B hP.1.2.1)
  clear hG hP h1 h2
  go_enter Tryd.func13, Tryd.ntmps13
  go_wp2_with (first
    | (go_at_call 24; go_loud ((with_reducible refine HP.out.mono ?_); rintro e w1 ⟨rfl, j1, rfl⟩))
    | (go_at_call 17; go_loud ((with_reducible refine (HC.out j1).mono ?_); rintro e w2 ⟨g2, rfl, ho, hb⟩; have HO2 := Lib.hid ho; have HB2 := Lib.hid (bt (below_drewN (Below.refl _ _) j1) hb); clear ho hb)))
  go_ret2
  exact ⟨_, _, rfl, (own_any HO2.out HB.out).1, HB2.out⟩
theorem keyForm : KeyFormC := by
  intro a n c P w hP hn
  have HP := Lib.hid (parted_few a n c w hn)
  clear hP hn
  go_enter Tryd.func13, Tryd.ntmps13
  go_wp2_with (go_at_call 24; go_loud ((with_reducible refine HP.out.mono ?_); rintro e w1 ⟨rfl, rfl⟩))
  go_ret2
  exact ⟨_, _, _, rfl, Below.refl _ _⟩
theorem openOk : OpenOkC := by
  intro b a n c P w hG hf hP h1 h2
  obtain ⟨b1, off, rfl⟩ := arg_some hP.1 (by omega)
  obtain ⟨m, rfl⟩ : ∃ m, n = m + 32 := ⟨n - 32, by omega⟩
  have HP := Lib.hid (parted_ok b1 off m c w hP.1.2.2.2.1 hP.1.2.2.2.2)
  have HC := Lib.hid (fun j => covered_any (some ⟨b1, off + m, none⟩) (c - m) (P.drop (P.length - 32)) (some ⟨b1, off, none⟩) m c (P.take (P.length - 32)) (w.drewN j) (hG.drewN j) (arg_tail hP.1) (arg_head hP.1) (by omega))
  have HB := Lib.hid (keyL_B hP.1.2.1)
  have HH := Lib.hid (arg_head hP.1)
  have HF := Lib.hid hf
  have q1 : ¬ (1048576 : Int) < (m : Int) := by omega
  have HM := Lib.hid (show m ≤ 1048576 by omega)
  clear hG hf hP h1 h2
  go_enter Tryd.func12, Tryd.ntmps12
  go_wp2_with (first
    | (go_at_call 24; go_loud ((with_reducible refine HP.out.mono ?_); rintro e w1 ⟨rfl, j1, rfl⟩))
    | (go_at_call 17; go_loud ((with_reducible refine (HC.out j1).mono ?_); rintro e w2 ⟨g2, rfl, ho, hb⟩; have HB2 := Lib.hid (bt (below_drewN (Below.refl _ _) j1) hb); have HA := Lib.hid (added_any b (some ⟨g2, 0, none⟩) 32 (keyL P) (some ⟨b1, off, none⟩) m c (P.take (P.length - 32)) w2 (HF.out.below HB2.out) (own_any ho HB.out).1 (HH.out.on HB2.out) HM.out); clear ho hb))
    | (go_at_call 15; go_loud ((with_reducible refine HA.out.mono ?_); rintro e w3 ⟨g3, rfl, ha, hb⟩; have HA3 := Lib.hid ha; have HB3 := Lib.hid (bt HB2.out hb); clear ha hb)))
  go_ret2
  rw [Nat.add_sub_cancel]
  exact ⟨_, _, rfl, HA3.out, HB3.out⟩
theorem openArg : OpenArgC := by
  intro a n c P w hP
  go_enter Tryd.func12, Tryd.ntmps12
  go_wp2
  go_ret2
  exact ⟨_, _, _, rfl, Below.refl _ _⟩
theorem openForm : OpenFormC := by
  intro b a n c P w hf hP hn
  have HP := Lib.hid (parted_few a n c w hn)
  clear hP hn hf
  go_enter Tryd.func12, Tryd.ntmps12
  go_wp2_with (go_at_call 24; go_loud ((with_reducible refine HP.out.mono ?_); rintro e w1 ⟨rfl, rfl⟩))
  go_ret2
  exact ⟨_, _, _, rfl, Below.refl _ _⟩
theorem aontAll : AontAll := ⟨wrapOk, wrapArg, wrapForm, keyOk, keyForm, openOk, openArg, openForm⟩
end Go.Proofs.YtcdepbnglmncpaaDoor
