/- The laws' Made at 32 bytes; the chapter's example. -/
import Derived.Test.YtcdepbnglmncpaaDoorAd
import Derived.Test.YtcdepbnglmncpaaDoorHs
import Derived.StillTailTactics
import Derived.Deep.RegionHeld
import Derived.Deep.RegionWith
namespace Go.Proofs.YtcdepbnglmncpaaDoor
open Go.ChangeShapes Go.WideShapes Go.ChangeAt Go.RowKit Go.Shelf
set_option linter.unusedVariables false
set_option linter.unusedSimpArgs false
set_option maxRecDepth 100000

set_option maxHeartbeats 1000000 in
theorem made32_any (a : Option Addr) (L cap : Nat) (l : List Int) (w : World) (hx : Arg8 w a L cap l) :
    Calls Tryd.prog 6 #[.slice a L cap, .int .i64 32] w fun e w' => ∃ g, e = .returned (.slice (some ⟨g, 0, none⟩) 32 32) ∧
      w'.ownsRow w.heap.size 5 1 (.slice (some ⟨g, 0, none⟩) 32 32) 32 ((padKL l 32).map (Value.int .u8)) ∧ Below w.heap.size w w' := by
  obtain ⟨hl, hb8, hb, hc1, hc2⟩ := hx
  have hmk := run_make_row' (P := Tryd.prog) 22 5 (.int .u8 0) 1 Tryd.underlying22 info5 rfl .i64 .i64 32 (by omega) (by omega)
  rw [show ((32 : Nat) : Int) = 2 * 16 from rfl] at hmk
  simp only [Int.reduceMul] at hmk
  have k1 : (w.alloc (.cells (madeCells #[.int .u8 0] 32) 5)).heap[w.heap.size]? = some (.cells (madeCells #[.int .u8 0] 32).toList.toArray 5 (0, 0)) := by rw [Array.toArray_toList]; exact heap_alloc_new w _
  have k2 : ((l.take 32).map (Value.int .u8)).length = Nat.min L 32 := by rw [List.length_map, List.length_take, hl]; exact Nat.min_comm _ _
  have k3 : 0 < ((l.take 32).map (Value.int .u8)).length → ∃ ad, a = some ad ∧ ∀ j v, ((l.take 32).map (Value.int .u8))[j]? = some v → (w.alloc (.cells (madeCells #[.int .u8 0] 32) 5)).cell? (ad.add j) = some v :=
    fun h0 => ((hb.take 32).below ((Below.refl _ _).alloc (Nat.le_refl _) _)).cells h0
  have k4 : 0 + ((l.take 32).map (Value.int .u8)).length ≤ (madeCells #[.int .u8 0] 32).toList.length := by simp [hl, size_madeCells]; omega
  have k5 : Below w.heap.size w (w.alloc (.cells (madeCells #[.int .u8 0] 32) 5)) := (Below.refl _ _).alloc (Nat.le_refl _) _
  have K1 := Lib.hid k1; have K2 := Lib.hid k2; have K3 := Lib.hid k3; have HL := Lib.hid hl
  clear k1 k2 k3 hl
  go_enter Tryd.func6, Tryd.ntmps6
  go_wp2_with ((with_reducible show wpList _ _ _ (⟨some 10, _, _, _, _, _⟩ :: _) _ _); go_loud (refine wpList_copy_splice (o := ⟨some 10, _, _, _, _, _⟩) rfl (.tmp 8) (.tmp 9) 22 22 rfl 5 Tryd.underlying22 size_u8 (some ⟨w.heap.size, 0, none⟩) a 32 32 L cap rfl rfl w.heap.size 0 (madeCells #[.int .u8 0] 32).toList 5 K1.out ((l.take 32).map (Value.int .u8)) K2.out (fun h0 => ⟨rfl, K3.out h0⟩) k4 (ints_oneCell _ _) w.heap.size w k5 (Nat.le_refl _) ?_); intro w1 hg1 hb1)
  go_ret
  refine ⟨w.heap.size, rfl, ⟨by rw [List.length_map, length_padKL], .inr ⟨w.heap.size, 32, _, rfl, Nat.le_refl _, hg1.out, Nat.le_refl _, by unfold maxLen; omega, ?_, ?_⟩⟩, hb1⟩
  · rw [splice_pad, List.size_toArray, List.length_map, length_padKL]
  · rw [splice_pad]
    exact List.take_of_length_le (by rw [List.length_map, length_padKL]; omega)

/-! ## lives -/
theorem lv_pkg : pkgL (List.replicate 32 0) [] = shaL [] := by
  have h : hidL (List.replicate 32 0) [] = [] := List.eq_nil_of_length_eq_zero (by rw [hidL_len]; rfl)
  unfold pkgL
  rw [h, List.nil_append]
  exact xor_noughts (shaL_len _) (shaL_B _)
theorem noughts32 : AllB (List.replicate 32 (0 : Int)) := fun x hx => by obtain ⟨_, rfl⟩ := List.mem_replicate.1 hx; omega
theorem nil_arg (w : World) : Arg8c w none 0 0 [] := ⟨⟨rfl, (fun x hx => by cases hx), (fun h => absurd h (by simp)), Nat.le_refl _, Nat.zero_le _⟩, fun _ => rfl⟩
theorem wrapNil (b : Nat) (aK : Option Addr) (cK : Nat) (w : World) (hG : Gl w) (hf : Fld w b) (hK : Arg8c w aK 32 cK (List.replicate 32 0)) :
    Calls Tryd.prog 8 #[.pointer (some ⟨b, 0, none⟩), .slice aK (32 : Nat) cK, .slice none 0 0] w fun e w' => ∃ g c, e = .returned (.tuple #[.slice (some ⟨g, 0, none⟩) (32 : Nat) c, .int .i64 0]) ∧ Arg8 w' (some ⟨g, 0, none⟩) 32 c (shaL []) ∧ Below w.heap.size w w' := by
  refine (wrapOk b aK cK _ none 0 0 [] w hG hf hK (nil_arg w) (by omega)).mono ?_
  rintro e w' ⟨g, c, rfl, ho, hb⟩
  rw [Nat.zero_add] at ho
  rw [lv_pkg] at ho
  exact ⟨g, c, rfl, (own_any ho (shaL_B _)).1, hb⟩
set_option maxHeartbeats 2000000 in
theorem lives11 (w : World) (hG : Gl w) : Calls Tryd.prog 5 #[] w fun e w' => e = .returned (.bool true) ∧ Below w.heap.size w w' := by
  have HG := Lib.hid hG
  have HG2 := Lib.hid hG.1
  have hmk := run_make_row' (P := Tryd.prog) 22 5 (.int .u8 0) 1 Tryd.underlying22 info5 rfl .i64 .i64 32 (by omega) (by omega)
  rw [show ((32 : Nat) : Int) = 2 * 16 from rfl] at hmk
  simp only [Int.reduceMul] at hmk
  have HD := Lib.hid (show Below w.heap.size w w.drew from below_drewN (Below.refl _ _) 1)
  have HMB := Lib.hid (own_any (own_made (w := w.drew) (e := 5) (n := 32) (by unfold maxLen; omega)) noughts32)
  have HWN := Lib.hid wrapNil
  obtain ⟨sl, hsl⟩ : ∃ sl, sl = shaL [] := ⟨_, rfl⟩
  rw [← hsl] at HWN
  obtain ⟨K0, hK0⟩ : ∃ K0, K0 = List.replicate 32 (0 : Int) := ⟨_, rfl⟩
  have HMA := Lib.hid (fun W : World => own_any (own_made (w := W) (e := 5) (n := 32) (by unfold maxLen; omega)) noughts32)
  rw [← hK0] at HWN HMB HMA
  have HSL := Lib.hid hsl
  clear hG hsl hK0
  go_enter Tryd.func5, Tryd.ntmps5
  go_wp2
  go_region_with (first
    | (go_at_call 7; refine (new_any _).mono ?_; rintro e w1 ⟨fb, rfl, hfb, hfl, hb⟩; have HFL := Lib.hid hfl; have HB1 := Lib.hid hb; clear hfl hb)
    | (go_at_call 8; (first
        | go_loud (refine (HWN.out fb (some ⟨w1.heap.size, 0, none⟩) 32 (w1.alloc (.cells (madeCells #[.int .u8 0] 32) 5)) (HG.out.on ((HD.out.trans (HB1.out.mono (Nat.le_refl _))).alloc (by have := HB1.out.size; exact this) _) HG2.out) (HFL.out.below ((Below.refl _ _).alloc (Nat.le_refl _) _)) (HMA.out w1)).mono ?_; rintro e w3 ⟨g3, c3, rfl, ho, hb⟩; have HO3 := Lib.hid ho; have HB3 := Lib.hid (show Below w.heap.size w w3 from ((HD.out.trans (HB1.out.mono (Nat.le_refl _))).alloc (by have := HB1.out.size; exact this) _).trans (hb.mono (by have h9 : w.heap.size ≤ w1.heap.size := HB1.out.size; simp; omega))); clear ho hb)
        | go_loud (refine (HWN.out fb (some ⟨w.heap.size, 0, none⟩) 32 w1 (HG.out.on ((HD.out.alloc (Nat.le_refl _) _).trans (HB1.out.mono (by simp))) HG2.out) HFL.out ⟨HMB.out.1.on HB1.out, HMB.out.2⟩).mono ?_; rintro e w3 ⟨g3, c3, rfl, ho, hb⟩; have HO3 := Lib.hid ho; have HB3 := Lib.hid (show Below w.heap.size w w3 from ((HD.out.alloc (Nat.le_refl _) _).trans (HB1.out.mono (by simp))).trans (hb.mono (by have h9 : w.heap.size + 1 ≤ w1.heap.size := (by have := HB1.out.size; simp at this; exact this); omega))); clear ho hb))))
  · have HCV := Lib.hid HO3.out.str_on
    have HREF := Lib.hid (show ∀ (U : World), Below w3.heap.size w3 U → Calls Tryd.prog 11 #[.slice none 0 0] U fun e w' => ∃ g c', e = .returned (.slice (some ⟨g, 0, none⟩) 32 c') ∧ Row8 w' g 32 sl ∧ Below w3.heap.size w3 w' ∧ Below U.heap.size U w' from fun U hb => by
      refine (refSum_any none 0 0 [] U (nil_arg U) (by omega)).mono ?_
      rintro e w' ⟨g, c', h1, h2, h3⟩
      exact ⟨g, c', h1, by rw [HSL.out]; exact h2, bt hb h3, h3⟩)
    have hee := str_eq (rfl : sl = sl)
    go_wp2
    simp only [List.getElem_toArray, List.getElem_cons_succ, List.getElem_cons_zero, List.setIfInBounds_toArray, List.set_cons_zero, List.set_cons_succ, Act.put]
    refine wp_region_held_drew (S := fun U => Below w3.heap.size w3 U) (by kernel_rfl) (Below.refl _ _).drew (fun hHeld => ?_)
    refine wpAnyH_take (i := 0) (oi := { dst := some 9, op := Go.Op.move (Go.Operand.tmp 2), type := 27, pos := "law.go:17", after := #[], guard := none }) (v := ?v0L1) rfl (by kernel_rfl) (by kernel_rfl) (by kernel_rfl) (fun _ _ _ h => h) (Or.inl ⟨by rfl, ?hy0L1⟩) hHeld ?rest0L1
    case hy0L1 =>
      intro W' hV
      try dsimp only at hV
      go_simp
      all_goals with_reducible rfl
    case' rest0L1 => try simp only [Act.put, List.setIfInBounds_toArray, List.set_cons_zero, List.set_cons_succ]
    refine wpAnyH_take (i := 1) (oi := { dst := some 10, op := Go.Op.binOp Go.BinOp.eql 27 (Go.Operand.tmp 9) (Go.Operand.const (Go.Value.int Go.IntKind.i64 0)) 27, type := 4, pos := "law.go:17", after := #[{ on := 0, ground := Go.Ground.data }], guard := none }) (v := ?v1L2) rfl (by kernel_rfl) (by kernel_rfl) (by kernel_rfl) (fun _ _ _ h => h) (Or.inl ⟨by rfl, ?hy1L2⟩) hHeld ?rest1L2
    case hy1L2 =>
      intro W' hV
      try dsimp only at hV
      go_simp
      all_goals with_reducible rfl
    case' rest1L2 => try simp only [Act.put, List.setIfInBounds_toArray, List.set_cons_zero, List.set_cons_succ]
    refine wpAnyH_take (i := 2) (oi := { dst := some 11, op := Go.Op.move (Go.Operand.tmp 10), type := 4, pos := "law.go:17", after := #[{ on := 1, ground := Go.Ground.data }], guard := none }) (v := ?v2L3) rfl (by kernel_rfl) (by kernel_rfl) (by kernel_rfl) (fun _ _ _ h => h) (Or.inl ⟨by rfl, ?hy2L3⟩) hHeld ?rest2L3
    case hy2L3 =>
      intro W' hV
      try dsimp only at hV
      go_simp
      all_goals with_reducible rfl
    case' rest2L3 => try simp only [Act.put, List.setIfInBounds_toArray, List.set_cons_zero, List.set_cons_succ]
    refine wpAnyH_take (i := 3) (oi := { dst := some 12, op := Go.Op.move (Go.Operand.tmp 1), type := 22, pos := "law.go:17", after := #[{ on := 2, ground := Go.Ground.guard }], guard := some (2, true) }) (v := ?v3L4) rfl (by kernel_rfl) (by kernel_rfl) (by kernel_rfl) (fun _ _ _ h => h) (Or.inl ⟨by rfl, ?hy3L4⟩) hHeld ?rest3L4
    case hy3L4 =>
      intro W' hV
      try dsimp only at hV
      go_simp
      all_goals with_reducible rfl
    case' rest3L4 => try simp only [Act.put, List.setIfInBounds_toArray, List.set_cons_zero, List.set_cons_succ]
    refine wpAnyH_take (i := 4) (oi := { dst := some 13, op := Go.Op.convert 22 9 (Go.Operand.tmp 12), type := 9, pos := "law.go:17", after := #[{ on := 3, ground := Go.Ground.data }, { on := 2, ground := Go.Ground.guard }], guard := some (2, true) }) (v := ?v4L5) rfl (by kernel_rfl) (by kernel_rfl) (by kernel_rfl) (fun _ _ _ h => h) (Or.inl ⟨by rfl, ?hy4L5⟩) hHeld ?rest4L5
    case hy4L5 =>
      intro W' hV
      try dsimp only at hV
      have hcq := HCV.out W' hV
      go_simp
      all_goals with_reducible rfl
    case' rest4L5 => try simp only [Act.put, List.setIfInBounds_toArray, List.set_cons_zero, List.set_cons_succ]
    refine wpAnyH_ready (rs := [5]) (by kernel_rfl) (by simp) ?_
    refine AllReadyH.cons (o := { dst := some 14, op := Go.Op.call { callee := Go.Callee.value (Go.Operand.func 11), args := #[Go.Operand.const (Go.Value.slice none 0 0)], argTypes := #[22] }, type := 22, pos := "law.go:17", after := #[{ on := 2, ground := Go.Ground.chain }, { on := 2, ground := Go.Ground.guard }], guard := some (2, true) }) rfl (fun K' hK => ?_) AllReadyH.nil
    rw [if_pos (by rfl)]
    go_simp
    go_wp2_with (go_at_call 11; (with_reducible refine (HREF.out _ hHeld).mono ?_); rintro e w6 ⟨g6, c6, rfl, hr6, hb6, hs6⟩)
    have HR6 := Lib.hid hr6
    have HB6 := Lib.hid hb6
    clear hr6 hb6 hs6
    refine hK.out _ _ HB6.out (fun hHeld1 => ?_)
    clear hK K' hHeld
    have hHeld := hHeld1
    clear hHeld1
    try simp only [Act.put, List.setIfInBounds_toArray, List.set_cons_zero, List.set_cons_succ]
    refine wpAnyH_ready (rs := [6]) (by kernel_rfl) (by simp) ?_
    refine AllReadyH.cons (o := { dst := some 15, op := Go.Op.convert 22 9 (Go.Operand.tmp 14), type := 9, pos := "law.go:17", after := #[{ on := 5, ground := Go.Ground.data }, { on := 2, ground := Go.Ground.guard }], guard := some (2, true) }) rfl (fun K' hK => ?_) AllReadyH.nil
    rw [if_pos (by rfl)]
    have hcr := HR6.out.str_on c6 w6 (Below.refl _ _)
    go_simp
    refine hK.out _ _ HB6.out (fun hHeld1 => ?_)
    clear hK K' hHeld
    have hHeld := hHeld1
    clear hHeld1
    try simp only [Act.put, List.setIfInBounds_toArray, List.set_cons_zero, List.set_cons_succ]
    refine wpAnyH_take (i := 7) (oi := { dst := some 16, op := Go.Op.binOp Go.BinOp.eql 9 (Go.Operand.tmp 13) (Go.Operand.tmp 15) 9, type := 4, pos := "law.go:17", after := #[{ on := 4, ground := Go.Ground.data }, { on := 6, ground := Go.Ground.data }, { on := 2, ground := Go.Ground.guard }], guard := some (2, true) }) (v := ?v7L6) rfl (by kernel_rfl) (by kernel_rfl) (by kernel_rfl) (fun _ _ _ h => h) (Or.inl ⟨by rfl, ?hy7L6⟩) hHeld ?rest7L6
    case hy7L6 =>
      intro W' hV
      try dsimp only at hV
      go_simp
      all_goals with_reducible rfl
    case' rest7L6 => try simp only [Act.put, List.setIfInBounds_toArray, List.set_cons_zero, List.set_cons_succ]
    refine wpAnyH_take (i := 8) (oi := { dst := some 17, op := Go.Op.pick (Go.Operand.tmp 11) (Go.Operand.tmp 16) (Go.Operand.const (Go.Value.bool false)), type := 4, pos := "law.go:17", after := #[{ on := 2, ground := Go.Ground.data }, { on := 7, ground := Go.Ground.data }], guard := none }) (v := ?v8L7) rfl (by kernel_rfl) (by kernel_rfl) (by kernel_rfl) (fun _ _ _ h => h) (Or.inl ⟨by rfl, ?hy8L7⟩) hHeld ?rest8L7
    case hy8L7 =>
      intro W' hV
      try dsimp only at hV
      go_simp
      all_goals with_reducible rfl
    case' rest8L7 => try simp only [Act.put, List.setIfInBounds_toArray, List.set_cons_zero, List.set_cons_succ]
    refine wpAnyH_take (i := 9) (oi := { dst := some 0, op := Go.Op.assign (Go.Operand.tmp 17), type := 4, pos := "law.go:17", after := #[{ on := 8, ground := Go.Ground.data }, { on := 5, ground := Go.Ground.chain }, { on := 0, ground := Go.Ground.phase }, { on := 1, ground := Go.Ground.phase }, { on := 2, ground := Go.Ground.phase }, { on := 3, ground := Go.Ground.phase }, { on := 4, ground := Go.Ground.phase }, { on := 5, ground := Go.Ground.phase }, { on := 6, ground := Go.Ground.phase }, { on := 7, ground := Go.Ground.phase }, { on := 8, ground := Go.Ground.phase }], guard := none }) (v := ?v9L8) rfl (by kernel_rfl) (by kernel_rfl) (by kernel_rfl) (fun _ _ _ h => h) (Or.inl ⟨by rfl, ?hy9L8⟩) hHeld ?rest9L8
    case hy9L8 =>
      intro W' hV
      try dsimp only at hV
      go_simp
      all_goals with_reducible rfl
    case' rest9L8 => try simp only [Act.put, List.setIfInBounds_toArray, List.set_cons_zero, List.set_cons_succ]
    refine wpAnyH_done (by kernel_rfl) ?_ _
    clear hHeld
    go_wp2
    go_ret
    exact ⟨rfl, bt HB3.out HB6.out⟩
  · have HCV := Lib.hid HO3.out.str_on
    have HREF := Lib.hid (show ∀ (U : World), Below w3.heap.size w3 U → Calls Tryd.prog 11 #[.slice none 0 0] U fun e w' => ∃ g c', e = .returned (.slice (some ⟨g, 0, none⟩) 32 c') ∧ Row8 w' g 32 sl ∧ Below w3.heap.size w3 w' ∧ Below U.heap.size U w' from fun U hb => by
      refine (refSum_any none 0 0 [] U (nil_arg U) (by omega)).mono ?_
      rintro e w' ⟨g, c', h1, h2, h3⟩
      exact ⟨g, c', h1, by rw [HSL.out]; exact h2, bt hb h3, h3⟩)
    have hee := str_eq (rfl : sl = sl)
    go_wp2
    simp only [List.getElem_toArray, List.getElem_cons_succ, List.getElem_cons_zero, List.setIfInBounds_toArray, List.set_cons_zero, List.set_cons_succ, Act.put]
    refine wp_region_held_drew (S := fun U => Below w3.heap.size w3 U) (by kernel_rfl) (Below.refl _ _).drew (fun hHeld => ?_)
    refine wpAnyH_take (i := 0) (oi := { dst := some 9, op := Go.Op.move (Go.Operand.tmp 2), type := 27, pos := "law.go:17", after := #[], guard := none }) (v := ?v0M1) rfl (by kernel_rfl) (by kernel_rfl) (by kernel_rfl) (fun _ _ _ h => h) (Or.inl ⟨by rfl, ?hy0M1⟩) hHeld ?rest0M1
    case hy0M1 =>
      intro W' hV
      try dsimp only at hV
      go_simp
      all_goals with_reducible rfl
    case' rest0M1 => try simp only [Act.put, List.setIfInBounds_toArray, List.set_cons_zero, List.set_cons_succ]
    refine wpAnyH_take (i := 1) (oi := { dst := some 10, op := Go.Op.binOp Go.BinOp.eql 27 (Go.Operand.tmp 9) (Go.Operand.const (Go.Value.int Go.IntKind.i64 0)) 27, type := 4, pos := "law.go:17", after := #[{ on := 0, ground := Go.Ground.data }], guard := none }) (v := ?v1M2) rfl (by kernel_rfl) (by kernel_rfl) (by kernel_rfl) (fun _ _ _ h => h) (Or.inl ⟨by rfl, ?hy1M2⟩) hHeld ?rest1M2
    case hy1M2 =>
      intro W' hV
      try dsimp only at hV
      go_simp
      all_goals with_reducible rfl
    case' rest1M2 => try simp only [Act.put, List.setIfInBounds_toArray, List.set_cons_zero, List.set_cons_succ]
    refine wpAnyH_take (i := 2) (oi := { dst := some 11, op := Go.Op.move (Go.Operand.tmp 10), type := 4, pos := "law.go:17", after := #[{ on := 1, ground := Go.Ground.data }], guard := none }) (v := ?v2M3) rfl (by kernel_rfl) (by kernel_rfl) (by kernel_rfl) (fun _ _ _ h => h) (Or.inl ⟨by rfl, ?hy2M3⟩) hHeld ?rest2M3
    case hy2M3 =>
      intro W' hV
      try dsimp only at hV
      go_simp
      all_goals with_reducible rfl
    case' rest2M3 => try simp only [Act.put, List.setIfInBounds_toArray, List.set_cons_zero, List.set_cons_succ]
    refine wpAnyH_take (i := 3) (oi := { dst := some 12, op := Go.Op.move (Go.Operand.tmp 1), type := 22, pos := "law.go:17", after := #[{ on := 2, ground := Go.Ground.guard }], guard := some (2, true) }) (v := ?v3M4) rfl (by kernel_rfl) (by kernel_rfl) (by kernel_rfl) (fun _ _ _ h => h) (Or.inl ⟨by rfl, ?hy3M4⟩) hHeld ?rest3M4
    case hy3M4 =>
      intro W' hV
      try dsimp only at hV
      go_simp
      all_goals with_reducible rfl
    case' rest3M4 => try simp only [Act.put, List.setIfInBounds_toArray, List.set_cons_zero, List.set_cons_succ]
    refine wpAnyH_take (i := 4) (oi := { dst := some 13, op := Go.Op.convert 22 9 (Go.Operand.tmp 12), type := 9, pos := "law.go:17", after := #[{ on := 3, ground := Go.Ground.data }, { on := 2, ground := Go.Ground.guard }], guard := some (2, true) }) (v := ?v4M5) rfl (by kernel_rfl) (by kernel_rfl) (by kernel_rfl) (fun _ _ _ h => h) (Or.inl ⟨by rfl, ?hy4M5⟩) hHeld ?rest4M5
    case hy4M5 =>
      intro W' hV
      try dsimp only at hV
      have hcq := HCV.out W' hV
      go_simp
      all_goals with_reducible rfl
    case' rest4M5 => try simp only [Act.put, List.setIfInBounds_toArray, List.set_cons_zero, List.set_cons_succ]
    refine wpAnyH_ready (rs := [5]) (by kernel_rfl) (by simp) ?_
    refine AllReadyH.cons (o := { dst := some 14, op := Go.Op.call { callee := Go.Callee.value (Go.Operand.func 11), args := #[Go.Operand.const (Go.Value.slice none 0 0)], argTypes := #[22] }, type := 22, pos := "law.go:17", after := #[{ on := 2, ground := Go.Ground.chain }, { on := 2, ground := Go.Ground.guard }], guard := some (2, true) }) rfl (fun K' hK => ?_) AllReadyH.nil
    rw [if_pos (by rfl)]
    go_simp
    go_wp2_with (go_at_call 11; (with_reducible refine (HREF.out _ hHeld).mono ?_); rintro e w6 ⟨g6, c6, rfl, hr6, hb6, hs6⟩)
    have HR6 := Lib.hid hr6
    have HB6 := Lib.hid hb6
    clear hr6 hb6 hs6
    refine hK.out _ _ HB6.out (fun hHeld1 => ?_)
    clear hK K' hHeld
    have hHeld := hHeld1
    clear hHeld1
    try simp only [Act.put, List.setIfInBounds_toArray, List.set_cons_zero, List.set_cons_succ]
    refine wpAnyH_ready (rs := [6]) (by kernel_rfl) (by simp) ?_
    refine AllReadyH.cons (o := { dst := some 15, op := Go.Op.convert 22 9 (Go.Operand.tmp 14), type := 9, pos := "law.go:17", after := #[{ on := 5, ground := Go.Ground.data }, { on := 2, ground := Go.Ground.guard }], guard := some (2, true) }) rfl (fun K' hK => ?_) AllReadyH.nil
    rw [if_pos (by rfl)]
    have hcr := HR6.out.str_on c6 w6 (Below.refl _ _)
    go_simp
    refine hK.out _ _ HB6.out (fun hHeld1 => ?_)
    clear hK K' hHeld
    have hHeld := hHeld1
    clear hHeld1
    try simp only [Act.put, List.setIfInBounds_toArray, List.set_cons_zero, List.set_cons_succ]
    refine wpAnyH_take (i := 7) (oi := { dst := some 16, op := Go.Op.binOp Go.BinOp.eql 9 (Go.Operand.tmp 13) (Go.Operand.tmp 15) 9, type := 4, pos := "law.go:17", after := #[{ on := 4, ground := Go.Ground.data }, { on := 6, ground := Go.Ground.data }, { on := 2, ground := Go.Ground.guard }], guard := some (2, true) }) (v := ?v7M6) rfl (by kernel_rfl) (by kernel_rfl) (by kernel_rfl) (fun _ _ _ h => h) (Or.inl ⟨by rfl, ?hy7M6⟩) hHeld ?rest7M6
    case hy7M6 =>
      intro W' hV
      try dsimp only at hV
      go_simp
      all_goals with_reducible rfl
    case' rest7M6 => try simp only [Act.put, List.setIfInBounds_toArray, List.set_cons_zero, List.set_cons_succ]
    refine wpAnyH_take (i := 8) (oi := { dst := some 17, op := Go.Op.pick (Go.Operand.tmp 11) (Go.Operand.tmp 16) (Go.Operand.const (Go.Value.bool false)), type := 4, pos := "law.go:17", after := #[{ on := 2, ground := Go.Ground.data }, { on := 7, ground := Go.Ground.data }], guard := none }) (v := ?v8M7) rfl (by kernel_rfl) (by kernel_rfl) (by kernel_rfl) (fun _ _ _ h => h) (Or.inl ⟨by rfl, ?hy8M7⟩) hHeld ?rest8M7
    case hy8M7 =>
      intro W' hV
      try dsimp only at hV
      go_simp
      all_goals with_reducible rfl
    case' rest8M7 => try simp only [Act.put, List.setIfInBounds_toArray, List.set_cons_zero, List.set_cons_succ]
    refine wpAnyH_take (i := 9) (oi := { dst := some 0, op := Go.Op.assign (Go.Operand.tmp 17), type := 4, pos := "law.go:17", after := #[{ on := 8, ground := Go.Ground.data }, { on := 5, ground := Go.Ground.chain }, { on := 0, ground := Go.Ground.phase }, { on := 1, ground := Go.Ground.phase }, { on := 2, ground := Go.Ground.phase }, { on := 3, ground := Go.Ground.phase }, { on := 4, ground := Go.Ground.phase }, { on := 5, ground := Go.Ground.phase }, { on := 6, ground := Go.Ground.phase }, { on := 7, ground := Go.Ground.phase }, { on := 8, ground := Go.Ground.phase }], guard := none }) (v := ?v9M8) rfl (by kernel_rfl) (by kernel_rfl) (by kernel_rfl) (fun _ _ _ h => h) (Or.inl ⟨by rfl, ?hy9M8⟩) hHeld ?rest9M8
    case hy9M8 =>
      intro W' hV
      try dsimp only at hV
      go_simp
      all_goals with_reducible rfl
    case' rest9M8 => try simp only [Act.put, List.setIfInBounds_toArray, List.set_cons_zero, List.set_cons_succ]
    refine wpAnyH_done (by kernel_rfl) ?_ _
    clear hHeld
    go_wp2
    go_ret
    exact ⟨rfl, bt HB3.out HB6.out⟩
end Go.Proofs.YtcdepbnglmncpaaDoor
