/- Texts of mine, one behind the other: Hy2. -/
import Derived.Test.YtappfdbmhgifcaaGreatDoorZF23
import Derived.Deep.CutRange
import Derived.Laws.AppendOwn
/- StripeForms where the shape may be. -/
namespace Go.Proofs.YtappfdbmhgifcaaGreatDoor
open Go.ChangeShapes Go.WideShapes Go.ChangeAt Go.RowKit Go.Shelf GF
set_option linter.unusedVariables false
set_option linter.unusedSimpArgs false
set_option maxRecDepth 100000

set_option maxHeartbeats 2000000 in
theorem forms_many (mo sz nd pl_ : Int) (T N C : Nat) (fw : Bool) (w : World) (h : Sh mo T N C) (h7 : 7 < N) :
    Calls Tryz.prog 6 #[.int .i64 mo, .int .i64 (T : Nat), .int .i64 (N : Nat), .int .i64 (C : Nat), .int .i64 sz, .int .i64 nd, .int .i64 pl_, .bool fw] w fun e w' => e = .returned (.bool true) ∧ Below w.heap.size w w' := by
  have q7 : (7 : Int) < (N : Int) := by omega
  clear h7
  have HS := Lib.hid h
  have q1 : (1 : Int) ≤ (T : Int) := by have := h.2; omega
  have q2 : (T : Int) ≤ (N : Int) := by have := h.2; omega
  have q3 : (N : Int) ≤ 255 := by have := h.2; omega
  have q4 : (0 : Int) ≤ (C : Int) := by omega
  have q5 : decide ((C : Int) ≤ 127) = true := by rw [decide_eq_true_iff]; have := h.2; omega
  clear h
  go_enter Tryz.func6, Tryz.ntmps6
  go_upto_region 5 with (first
    | (go_at_call 7; go_loud (refine (lives17 w).mono ?_; rintro e w1 ⟨rfl, hb⟩; have HB1 := Lib.hid hb; clear hb))
    | (go_at_call 11; go_loud (refine (new_any _).mono ?_; rintro e w2 ⟨bf, rfl, hbf, hfl, hb⟩; have HF2 := Lib.hid hfl; have HB2 := Lib.hid (bt HB1.out hb); clear hfl hb)))
  obtain ⟨w3, hw3⟩ : ∃ w3, w3 = w2.alloc (.cells #[.int .i64 mo, .int .i64 (T : Nat), .int .i64 (N : Nat), .int .i64 (C : Nat)] 25) := ⟨_, rfl⟩
  have HX3 := Lib.hid (show Bx w3 w2.heap.size mo T N C by rw [hw3]; exact Bx.new w2 _ T N C)
  have HB3 := Lib.hid (show Below w.heap.size w w3 by rw [hw3]; exact HB2.out.alloc HB2.out.size _)
  have HF3 := Lib.hid (show Fld w3 bf by rw [hw3]; exact HF2.out.below ((Below.refl _ _).alloc (Nat.le_refl _) _))
  try rw [← hw3]
  obtain ⟨G, hGG⟩ : ∃ G, G = w2.heap.size := ⟨_, rfl⟩
  rw [← hGG] at HX3
  try rw [← hGG]
  clear hw3 hGG
  go_cut [19] from 53 to 79 (fun r wx => r = .bool true ∧ Hid (Below w3.heap.size w3 wx))
  case first =>
    rcases HS.out.1 with rfl | rfl
    · go_wp2_with fail
      go_meet
      exact ⟨rfl, Lib.hid (Below.refl _ _)⟩
    · go_wp2_with fail
      go_meet
      exact ⟨rfl, Lib.hid (Below.refl _ _)⟩
  case rest =>
  obtain ⟨rfl, hcw⟩ := hcut
  have HX := Lib.hid (HX3.out.on hcw.out)
  have HBC := Lib.hid (bt HB3.out hcw.out)
  have HFC := Lib.hid (HF3.out.below hcw.out)
  have y0 : ∀ W, Below wc.heap.size wc W → W.cell? ⟨G, 0, none⟩ = some (.int .i64 mo) := fun W hW => (HX.out.on hW).c0
  have y1 : ∀ W, Below wc.heap.size wc W → W.cell? ⟨G, 1, none⟩ = some (.int .i64 (T : Nat)) := fun W hW => (HX.out.on hW).c1
  have y2 : ∀ W, Below wc.heap.size wc W → W.cell? ⟨G, 2, none⟩ = some (.int .i64 (N : Nat)) := fun W hW => (HX.out.on hW).c2
  have y3 : ∀ W, Below wc.heap.size wc W → W.cell? ⟨G, 3, none⟩ = some (.int .i64 (C : Nat)) := fun W hW => (HX.out.on hW).c3
  have HRA := Lib.hid (fun W => right_any mo T N C W)
  rw [HS.out.right] at HRA
  clear hcw
  go_wp2_with fail
  refine wp_region_held_drew (S := fun W => Below wc.heap.size wc W) (by kernel_rfl) (Below.refl _ _).drew (fun hHeld => ?_)
  refine wpAnyH_take (i := 0) (oi := { dst := some 80, op := Go.Op.load 25 (Go.Operand.tmp 18), type := 25, pos := "law.go:193", after := #[], guard := none }) (v := ?v0p1) rfl (by kernel_rfl) (by kernel_rfl) (by kernel_rfl) (fun _ _ _ h => h) (Or.inl ⟨by rfl, ?hy0p1⟩) hHeld ?rest0p1
  case hy0p1 =>
    intro W' hV
    try dsimp only at hV
    go_simp
    all_goals with_reducible rfl
  case' rest0p1 => try simp only [Act.put, List.setIfInBounds_toArray, List.set_cons_zero, List.set_cons_succ]
  refine wpAnyH_take (i := 2) (oi := { dst := some 82, op := Go.Op.move (Go.Operand.tmp 19), type := 4, pos := "law.go:193", after := #[], guard := none }) (v := ?v2p2) rfl (by kernel_rfl) (by kernel_rfl) (by kernel_rfl) (fun _ _ _ h => h) (Or.inl ⟨by rfl, ?hy2p2⟩) hHeld ?rest2p2
  case hy2p2 =>
    intro W' hV
    try dsimp only at hV
    go_simp
    all_goals with_reducible rfl
  case' rest2p2 => try simp only [Act.put, List.setIfInBounds_toArray, List.set_cons_zero, List.set_cons_succ]
  refine wpAnyH_ready (rs := [1]) (by kernel_rfl) (by simp) ?_
  refine AllReadyH.cons (o := { dst := some 81, op := Go.Op.call { callee := Go.Callee.value (Go.Operand.func 22), args := #[Go.Operand.tmp 80], argTypes := #[25] }, type := 4, pos := "law.go:193", after := #[{ on := 0, ground := Go.Ground.data }], guard := none }) rfl (fun K' hK => ?_) AllReadyH.nil
  rw [if_pos (by rfl)]
  go_simp
  go_wp2_with (go_at_call 22; go_loud (refine (HRA.out _).mono ?_; rintro e w4 ⟨rfl, hb⟩; have hbw4 : Below wc.heap.size wc w4 := bt (Below.refl _ _).drew hb; have HB4 := Lib.hid (bt HBC.out hbw4); have HX4 := Lib.hid (HX.out.on hbw4); have HF4 := Lib.hid (HFC.out.below hbw4); clear hb))
  refine hK.out _ _ hbw4 (fun hHeld1 => ?_)
  clear hK K' hHeld
  have hHeld := hHeld1
  clear hHeld1
  try simp only [Act.put, List.setIfInBounds_toArray, List.set_cons_zero, List.set_cons_succ]
  refine wpAnyH_take (i := 3) (oi := { dst := some 83, op := Go.Op.binOp Go.BinOp.neq 4 (Go.Operand.tmp 81) (Go.Operand.tmp 82) 4, type := 4, pos := "law.go:193", after := #[{ on := 1, ground := Go.Ground.data }, { on := 2, ground := Go.Ground.data }], guard := none }) (v := ?v3p3) rfl (by kernel_rfl) (by kernel_rfl) (by kernel_rfl) (fun _ _ _ h => h) (Or.inl ⟨by rfl, ?hy3p3⟩) hHeld ?rest3p3
  case hy3p3 =>
    intro W' hV
    try dsimp only at hV
    go_simp
    all_goals with_reducible rfl
  case' rest3p3 => try simp only [Act.put, List.setIfInBounds_toArray, List.set_cons_zero, List.set_cons_succ]
  refine wpAnyH_take (i := 4) (oi := { dst := some 84, op := Go.Op.move (Go.Operand.tmp 83), type := 4, pos := "law.go:193", after := #[{ on := 3, ground := Go.Ground.data }, { on := 1, ground := Go.Ground.chain }], guard := none }) (v := ?v4p4) rfl (by kernel_rfl) (by kernel_rfl) (by kernel_rfl) (fun _ _ _ h => h) (Or.inl ⟨by rfl, ?hy4p4⟩) hHeld ?rest4p4
  case hy4p4 =>
    intro W' hV
    try dsimp only at hV
    go_simp
    all_goals with_reducible rfl
  case' rest4p4 => try simp only [Act.put, List.setIfInBounds_toArray, List.set_cons_zero, List.set_cons_succ]
  refine wpAnyH_take (i := 5) (oi := { dst := some 85, op := Go.Op.move (Go.Operand.tmp 19), type := 4, pos := "law.go:193", after := #[{ on := 4, ground := Go.Ground.guard }], guard := some (4, false) }) (v := ?v5p5) rfl (by kernel_rfl) (by kernel_rfl) (by kernel_rfl) (fun _ _ _ h => h) (Or.inl ⟨by rfl, ?hy5p5⟩) hHeld ?rest5p5
  case hy5p5 =>
    intro W' hV
    try dsimp only at hV
    go_simp
    all_goals with_reducible rfl
  case' rest5p5 => try simp only [Act.put, List.setIfInBounds_toArray, List.set_cons_zero, List.set_cons_succ]
  refine wpAnyH_take (i := 6) (oi := { dst := some 86, op := Go.Op.unOp Go.UnOp.not 4 (Go.Operand.tmp 85), type := 4, pos := "law.go:193", after := #[{ on := 5, ground := Go.Ground.data }, { on := 4, ground := Go.Ground.guard }], guard := some (4, false) }) (v := ?v6p6) rfl (by kernel_rfl) (by kernel_rfl) (by kernel_rfl) (fun _ _ _ h => h) (Or.inl ⟨by rfl, ?hy6p6⟩) hHeld ?rest6p6
  case hy6p6 =>
    intro W' hV
    try dsimp only at hV
    go_simp
    all_goals with_reducible rfl
  case' rest6p6 => try simp only [Act.put, List.setIfInBounds_toArray, List.set_cons_zero, List.set_cons_succ]
  refine wpAnyH_take (i := 7) (oi := { dst := some 87, op := Go.Op.move (Go.Operand.tmp 86), type := 4, pos := "law.go:193", after := #[{ on := 6, ground := Go.Ground.data }, { on := 4, ground := Go.Ground.chain }, { on := 4, ground := Go.Ground.guard }], guard := some (4, false) }) (v := ?v7p7) rfl (by kernel_rfl) (by kernel_rfl) (by kernel_rfl) (fun _ _ _ h => h) (Or.inl ⟨by rfl, ?hy7p7⟩) hHeld ?rest7p7
  case hy7p7 =>
    intro W' hV
    try dsimp only at hV
    go_simp
    all_goals with_reducible rfl
  case' rest7p7 => try simp only [Act.put, List.setIfInBounds_toArray, List.set_cons_zero, List.set_cons_succ]
  refine wpAnyH_take (i := 8) (oi := { dst := some 88, op := Go.Op.load 25 (Go.Operand.tmp 18), type := 25, pos := "law.go:193", after := #[{ on := 7, ground := Go.Ground.guard }], guard := some (7, true) }) (v := undef) rfl (by kernel_rfl) (by kernel_rfl) (by kernel_rfl) (fun _ _ _ h => h) (Or.inr ⟨by rfl, rfl⟩) hHeld ?rest8p8
  case' rest8p8 => try simp only [Act.put, List.setIfInBounds_toArray, List.set_cons_zero, List.set_cons_succ]
  refine wpAnyH_take (i := 9) (oi := { dst := some 89, op := Go.Op.call { callee := Go.Callee.value (Go.Operand.func 15), args := #[Go.Operand.tmp 88], argTypes := #[25] }, type := 3, pos := "law.go:193", after := #[{ on := 8, ground := Go.Ground.data }, { on := 7, ground := Go.Ground.chain }, { on := 7, ground := Go.Ground.guard }], guard := some (7, true) }) (v := undef) rfl (by kernel_rfl) (by kernel_rfl) (by kernel_rfl) (fun _ _ _ h => h) (Or.inr ⟨by rfl, rfl⟩) hHeld ?rest9p9
  case' rest9p9 => try simp only [Act.put, List.setIfInBounds_toArray, List.set_cons_zero, List.set_cons_succ]
  refine wpAnyH_take (i := 10) (oi := { dst := some 90, op := Go.Op.load 25 (Go.Operand.tmp 18), type := 25, pos := "law.go:193", after := #[{ on := 7, ground := Go.Ground.guard }], guard := some (7, true) }) (v := undef) rfl (by kernel_rfl) (by kernel_rfl) (by kernel_rfl) (fun _ _ _ h => h) (Or.inr ⟨by rfl, rfl⟩) hHeld ?rest10p10
  case' rest10p10 => try simp only [Act.put, List.setIfInBounds_toArray, List.set_cons_zero, List.set_cons_succ]
  refine wpAnyH_take (i := 11) (oi := { dst := some 91, op := Go.Op.call { callee := Go.Callee.value (Go.Operand.func 23), args := #[Go.Operand.tmp 90], argTypes := #[25] }, type := 3, pos := "law.go:193", after := #[{ on := 10, ground := Go.Ground.data }, { on := 9, ground := Go.Ground.chain }, { on := 7, ground := Go.Ground.guard }], guard := some (7, true) }) (v := undef) rfl (by kernel_rfl) (by kernel_rfl) (by kernel_rfl) (fun _ _ _ h => h) (Or.inr ⟨by rfl, rfl⟩) hHeld ?rest11p11
  case' rest11p11 => try simp only [Act.put, List.setIfInBounds_toArray, List.set_cons_zero, List.set_cons_succ]
  refine wpAnyH_take (i := 12) (oi := { dst := some 92, op := Go.Op.binOp Go.BinOp.add 3 (Go.Operand.tmp 89) (Go.Operand.tmp 91) 3, type := 3, pos := "law.go:193", after := #[{ on := 9, ground := Go.Ground.data }, { on := 11, ground := Go.Ground.data }, { on := 7, ground := Go.Ground.guard }], guard := some (7, true) }) (v := undef) rfl (by kernel_rfl) (by kernel_rfl) (by kernel_rfl) (fun _ _ _ h => h) (Or.inr ⟨by rfl, rfl⟩) hHeld ?rest12p12
  case' rest12p12 => try simp only [Act.put, List.setIfInBounds_toArray, List.set_cons_zero, List.set_cons_succ]
  refine wpAnyH_take (i := 13) (oi := { dst := some 93, op := Go.Op.binOp Go.BinOp.neq 3 (Go.Operand.tmp 92) (Go.Operand.const (Go.Value.int Go.IntKind.i64 0)) 3, type := 4, pos := "law.go:193", after := #[{ on := 12, ground := Go.Ground.data }, { on := 7, ground := Go.Ground.guard }], guard := some (7, true) }) (v := undef) rfl (by kernel_rfl) (by kernel_rfl) (by kernel_rfl) (fun _ _ _ h => h) (Or.inr ⟨by rfl, rfl⟩) hHeld ?rest13p13
  case' rest13p13 => try simp only [Act.put, List.setIfInBounds_toArray, List.set_cons_zero, List.set_cons_succ]
  refine wpAnyH_take (i := 14) (oi := { dst := some 94, op := Go.Op.pick (Go.Operand.tmp 87) (Go.Operand.tmp 93) (Go.Operand.const (Go.Value.bool false)), type := 4, pos := "law.go:193", after := #[{ on := 7, ground := Go.Ground.data }, { on := 13, ground := Go.Ground.data }, { on := 4, ground := Go.Ground.guard }], guard := some (4, false) }) (v := ?v14p14) rfl (by kernel_rfl) (by kernel_rfl) (by kernel_rfl) (fun _ _ _ h => h) (Or.inl ⟨by rfl, ?hy14p14⟩) hHeld ?rest14p14
  case hy14p14 =>
    intro W' hV
    try dsimp only at hV
    go_simp
    all_goals with_reducible rfl
  case' rest14p14 => try simp only [Act.put, List.setIfInBounds_toArray, List.set_cons_zero, List.set_cons_succ]
  refine wpAnyH_take (i := 15) (oi := { dst := some 95, op := Go.Op.pick (Go.Operand.tmp 84) (Go.Operand.const (Go.Value.bool true)) (Go.Operand.tmp 94), type := 4, pos := "law.go:193", after := #[{ on := 4, ground := Go.Ground.data }, { on := 14, ground := Go.Ground.data }], guard := none }) (v := ?v15p15) rfl (by kernel_rfl) (by kernel_rfl) (by kernel_rfl) (fun _ _ _ h => h) (Or.inl ⟨by rfl, ?hy15p15⟩) hHeld ?rest15p15
  case hy15p15 =>
    intro W' hV
    try dsimp only at hV
    go_simp
    all_goals with_reducible rfl
  case' rest15p15 => try simp only [Act.put, List.setIfInBounds_toArray, List.set_cons_zero, List.set_cons_succ]
  refine wpAnyH_done (by kernel_rfl) ?_ _
  clear hHeld
  clear y0 y1 y2 y3
  have x0 := HX4.out.c0; have x1 := HX4.out.c1; have x2 := HX4.out.c2; have x3 := HX4.out.c3
  go_wp2_with (go_at_call 17; go_loud (refine (gat_few bf mo T N C none 0 0 [] none 0 [] w4 HS.out (ia_nil17 _) (mat_nil17 _) (by omega) (fun k hk => absurd hk (by omega)) (fun k hk => absurd hk (by omega)) (fun k hk => absurd hk (by omega)) (by have := HS.out.2; omega)).mono ?_; rintro e w7 ⟨rfl, hb⟩; have HB7 := Lib.hid (bt HB4.out hb); clear hb))
  go_ret
  exact ⟨rfl, HB7.out⟩
set_option maxHeartbeats 8000000 in
theorem forms_core (mo sz nd pl_ : Int) (T N C : Nat) (fw : Bool) (w : World) (hG : Gl w) (h : Sh mo T N C) (h7 : N ≤ 7) (hpl : (Lit.int .i64 pl_).wf = true) :
    Calls Tryz.prog 6 #[.int .i64 mo, .int .i64 (T : Nat), .int .i64 (N : Nat), .int .i64 (C : Nat), .int .i64 sz, .int .i64 nd, .int .i64 pl_, .bool fw] w fun e w' => e = .returned (.bool true) ∧ Below w.heap.size w w' := by
  have q7 : ¬ (7 : Int) < (N : Int) := by omega
  have HN7 := Lib.hid h7
  have HGL := Lib.hid hG
  have HPL := Lib.hid hpl
  obtain ⟨S0, hS1, hS2, hS3⟩ := mod_bothC sz 900 (by omega)
  obtain ⟨D0, hD1, hD2, hD3⟩ := mod_bothC nd 4000 (by omega)
  have f1 : ∀ [Inhabited Unit], (IntKind.u64.wrap sz).tmod 900 = (S0 : Int) := hS1
  have f2 : ∀ [Inhabited Unit], (IntKind.u64.wrap sz) % 900 = (S0 : Int) := hS2
  have f3 : ∀ [Inhabited Unit], (IntKind.u64.wrap nd).tmod 4000 = (D0 : Int) := hD1
  have f4 : ∀ [Inhabited Unit], (IntKind.u64.wrap nd) % 4000 = (D0 : Int) := hD2
  have g1 : ∀ [Inhabited Unit], IntKind.i64.wrap (S0 : Int) = (S0 : Int) := by intro _; rw [IntKind.wrap_i64]; omega
  have g2 : ∀ [Inhabited Unit], IntKind.i64.wrap (D0 : Int) = (D0 : Int) := by intro _; rw [IntKind.wrap_i64]; omega
  have g3 : ∀ [Inhabited Unit], wrap64 (S0 : Int) = (S0 : Int) := by intro _; unfold wrap64; omega
  have g4 : ∀ [Inhabited Unit], wrap64 (D0 : Int) = (D0 : Int) := by intro _; unfold wrap64; omega
  have HSD := Lib.hid (show S0 < 900 ∧ D0 < 4000 by omega)
  obtain ⟨V, hV⟩ : ∃ V, V = needV mo T := ⟨_, rfl⟩
  have HV := Lib.hid hV
  clear hS1 hS2 hS3 hD1 hD2 hD3 h7 hG hpl hV
  have HS := Lib.hid h
  have q1 : (1 : Int) ≤ (T : Int) := by have := h.2; omega
  have q2 : (T : Int) ≤ (N : Int) := by have := h.2; omega
  have q3 : (N : Int) ≤ 255 := by have := h.2; omega
  have q4 : (0 : Int) ≤ (C : Int) := by omega
  have q5 : decide ((C : Int) ≤ 127) = true := by rw [decide_eq_true_iff]; have := h.2; omega
  clear h
  go_enter Tryz.func6, Tryz.ntmps6
  go_upto_region 5 with (first
    | (go_at_call 7; go_loud (refine (lives17 w).mono ?_; rintro e w1 ⟨rfl, hb⟩; have HB1 := Lib.hid hb; clear hb))
    | (go_at_call 11; go_loud (refine (new_any _).mono ?_; rintro e w2 ⟨bf, rfl, hbf, hfl, hb⟩; have HF2 := Lib.hid hfl; have HB2 := Lib.hid (bt HB1.out hb); clear hfl hb)))
  obtain ⟨w3, hw3⟩ : ∃ w3, w3 = w2.alloc (.cells #[.int .i64 mo, .int .i64 (T : Nat), .int .i64 (N : Nat), .int .i64 (C : Nat)] 25) := ⟨_, rfl⟩
  have HX3 := Lib.hid (show Bx w3 w2.heap.size mo T N C by rw [hw3]; exact Bx.new w2 _ T N C)
  have HB3 := Lib.hid (show Below w.heap.size w w3 by rw [hw3]; exact HB2.out.alloc HB2.out.size _)
  have HF3 := Lib.hid (show Fld w3 bf by rw [hw3]; exact HF2.out.below ((Below.refl _ _).alloc (Nat.le_refl _) _))
  try rw [← hw3]
  obtain ⟨G, hGG⟩ : ∃ G, G = w2.heap.size := ⟨_, rfl⟩
  rw [← hGG] at HX3
  try rw [← hGG]
  clear hw3 hGG
  go_cut [19] from 53 to 79 (fun r wx => r = .bool true ∧ Hid (Below w3.heap.size w3 wx))
  case first =>
    rcases HS.out.1 with rfl | rfl
    · go_wp2_with fail
      go_meet
      exact ⟨rfl, Lib.hid (Below.refl _ _)⟩
    · go_wp2_with fail
      go_meet
      exact ⟨rfl, Lib.hid (Below.refl _ _)⟩
  case rest =>
  obtain ⟨rfl, hcw⟩ := hcut
  have HX := Lib.hid (HX3.out.on hcw.out)
  have HBC := Lib.hid (bt HB3.out hcw.out)
  have HFC := Lib.hid (HF3.out.below hcw.out)
  have y0 : ∀ W, Below wc.heap.size wc W → W.cell? ⟨G, 0, none⟩ = some (.int .i64 mo) := fun W hW => (HX.out.on hW).c0
  have y1 : ∀ W, Below wc.heap.size wc W → W.cell? ⟨G, 1, none⟩ = some (.int .i64 (T : Nat)) := fun W hW => (HX.out.on hW).c1
  have y2 : ∀ W, Below wc.heap.size wc W → W.cell? ⟨G, 2, none⟩ = some (.int .i64 (N : Nat)) := fun W hW => (HX.out.on hW).c2
  have y3 : ∀ W, Below wc.heap.size wc W → W.cell? ⟨G, 3, none⟩ = some (.int .i64 (C : Nat)) := fun W hW => (HX.out.on hW).c3
  have HRA := Lib.hid (fun W => right_any mo T N C W)
  rw [HS.out.right] at HRA
  clear hcw
  go_wp2_with fail
  refine wp_region_held_drew (S := fun W => Below wc.heap.size wc W) (by kernel_rfl) (Below.refl _ _).drew (fun hHeld => ?_)
  refine wpAnyH_take (i := 0) (oi := { dst := some 80, op := Go.Op.load 25 (Go.Operand.tmp 18), type := 25, pos := "law.go:193", after := #[], guard := none }) (v := ?v0p16) rfl (by kernel_rfl) (by kernel_rfl) (by kernel_rfl) (fun _ _ _ h => h) (Or.inl ⟨by rfl, ?hy0p16⟩) hHeld ?rest0p16
  case hy0p16 =>
    intro W' hV
    try dsimp only at hV
    go_simp
    all_goals with_reducible rfl
  case' rest0p16 => try simp only [Act.put, List.setIfInBounds_toArray, List.set_cons_zero, List.set_cons_succ]
  refine wpAnyH_take (i := 2) (oi := { dst := some 82, op := Go.Op.move (Go.Operand.tmp 19), type := 4, pos := "law.go:193", after := #[], guard := none }) (v := ?v2p17) rfl (by kernel_rfl) (by kernel_rfl) (by kernel_rfl) (fun _ _ _ h => h) (Or.inl ⟨by rfl, ?hy2p17⟩) hHeld ?rest2p17
  case hy2p17 =>
    intro W' hV
    try dsimp only at hV
    go_simp
    all_goals with_reducible rfl
  case' rest2p17 => try simp only [Act.put, List.setIfInBounds_toArray, List.set_cons_zero, List.set_cons_succ]
  refine wpAnyH_ready (rs := [1]) (by kernel_rfl) (by simp) ?_
  refine AllReadyH.cons (o := { dst := some 81, op := Go.Op.call { callee := Go.Callee.value (Go.Operand.func 22), args := #[Go.Operand.tmp 80], argTypes := #[25] }, type := 4, pos := "law.go:193", after := #[{ on := 0, ground := Go.Ground.data }], guard := none }) rfl (fun K' hK => ?_) AllReadyH.nil
  rw [if_pos (by rfl)]
  go_simp
  go_wp2_with (go_at_call 22; go_loud (refine (HRA.out _).mono ?_; rintro e w4 ⟨rfl, hb⟩; have hbw4 : Below wc.heap.size wc w4 := bt (Below.refl _ _).drew hb; have HB4 := Lib.hid (bt HBC.out hbw4); have HX4 := Lib.hid (HX.out.on hbw4); have HF4 := Lib.hid (HFC.out.below hbw4); clear hb))
  refine hK.out _ _ hbw4 (fun hHeld1 => ?_)
  clear hK K' hHeld
  have hHeld := hHeld1
  clear hHeld1
  try simp only [Act.put, List.setIfInBounds_toArray, List.set_cons_zero, List.set_cons_succ]
  refine wpAnyH_take (i := 3) (oi := { dst := some 83, op := Go.Op.binOp Go.BinOp.neq 4 (Go.Operand.tmp 81) (Go.Operand.tmp 82) 4, type := 4, pos := "law.go:193", after := #[{ on := 1, ground := Go.Ground.data }, { on := 2, ground := Go.Ground.data }], guard := none }) (v := ?v3p18) rfl (by kernel_rfl) (by kernel_rfl) (by kernel_rfl) (fun _ _ _ h => h) (Or.inl ⟨by rfl, ?hy3p18⟩) hHeld ?rest3p18
  case hy3p18 =>
    intro W' hV
    try dsimp only at hV
    go_simp
    all_goals with_reducible rfl
  case' rest3p18 => try simp only [Act.put, List.setIfInBounds_toArray, List.set_cons_zero, List.set_cons_succ]
  refine wpAnyH_take (i := 4) (oi := { dst := some 84, op := Go.Op.move (Go.Operand.tmp 83), type := 4, pos := "law.go:193", after := #[{ on := 3, ground := Go.Ground.data }, { on := 1, ground := Go.Ground.chain }], guard := none }) (v := ?v4p19) rfl (by kernel_rfl) (by kernel_rfl) (by kernel_rfl) (fun _ _ _ h => h) (Or.inl ⟨by rfl, ?hy4p19⟩) hHeld ?rest4p19
  case hy4p19 =>
    intro W' hV
    try dsimp only at hV
    go_simp
    all_goals with_reducible rfl
  case' rest4p19 => try simp only [Act.put, List.setIfInBounds_toArray, List.set_cons_zero, List.set_cons_succ]
  refine wpAnyH_take (i := 5) (oi := { dst := some 85, op := Go.Op.move (Go.Operand.tmp 19), type := 4, pos := "law.go:193", after := #[{ on := 4, ground := Go.Ground.guard }], guard := some (4, false) }) (v := ?v5p20) rfl (by kernel_rfl) (by kernel_rfl) (by kernel_rfl) (fun _ _ _ h => h) (Or.inl ⟨by rfl, ?hy5p20⟩) hHeld ?rest5p20
  case hy5p20 =>
    intro W' hV
    try dsimp only at hV
    go_simp
    all_goals with_reducible rfl
  case' rest5p20 => try simp only [Act.put, List.setIfInBounds_toArray, List.set_cons_zero, List.set_cons_succ]
  refine wpAnyH_take (i := 6) (oi := { dst := some 86, op := Go.Op.unOp Go.UnOp.not 4 (Go.Operand.tmp 85), type := 4, pos := "law.go:193", after := #[{ on := 5, ground := Go.Ground.data }, { on := 4, ground := Go.Ground.guard }], guard := some (4, false) }) (v := ?v6p21) rfl (by kernel_rfl) (by kernel_rfl) (by kernel_rfl) (fun _ _ _ h => h) (Or.inl ⟨by rfl, ?hy6p21⟩) hHeld ?rest6p21
  case hy6p21 =>
    intro W' hV
    try dsimp only at hV
    go_simp
    all_goals with_reducible rfl
  case' rest6p21 => try simp only [Act.put, List.setIfInBounds_toArray, List.set_cons_zero, List.set_cons_succ]
  refine wpAnyH_take (i := 7) (oi := { dst := some 87, op := Go.Op.move (Go.Operand.tmp 86), type := 4, pos := "law.go:193", after := #[{ on := 6, ground := Go.Ground.data }, { on := 4, ground := Go.Ground.chain }, { on := 4, ground := Go.Ground.guard }], guard := some (4, false) }) (v := ?v7p22) rfl (by kernel_rfl) (by kernel_rfl) (by kernel_rfl) (fun _ _ _ h => h) (Or.inl ⟨by rfl, ?hy7p22⟩) hHeld ?rest7p22
  case hy7p22 =>
    intro W' hV
    try dsimp only at hV
    go_simp
    all_goals with_reducible rfl
  case' rest7p22 => try simp only [Act.put, List.setIfInBounds_toArray, List.set_cons_zero, List.set_cons_succ]
  refine wpAnyH_take (i := 8) (oi := { dst := some 88, op := Go.Op.load 25 (Go.Operand.tmp 18), type := 25, pos := "law.go:193", after := #[{ on := 7, ground := Go.Ground.guard }], guard := some (7, true) }) (v := undef) rfl (by kernel_rfl) (by kernel_rfl) (by kernel_rfl) (fun _ _ _ h => h) (Or.inr ⟨by rfl, rfl⟩) hHeld ?rest8p23
  case' rest8p23 => try simp only [Act.put, List.setIfInBounds_toArray, List.set_cons_zero, List.set_cons_succ]
  refine wpAnyH_take (i := 9) (oi := { dst := some 89, op := Go.Op.call { callee := Go.Callee.value (Go.Operand.func 15), args := #[Go.Operand.tmp 88], argTypes := #[25] }, type := 3, pos := "law.go:193", after := #[{ on := 8, ground := Go.Ground.data }, { on := 7, ground := Go.Ground.chain }, { on := 7, ground := Go.Ground.guard }], guard := some (7, true) }) (v := undef) rfl (by kernel_rfl) (by kernel_rfl) (by kernel_rfl) (fun _ _ _ h => h) (Or.inr ⟨by rfl, rfl⟩) hHeld ?rest9p24
  case' rest9p24 => try simp only [Act.put, List.setIfInBounds_toArray, List.set_cons_zero, List.set_cons_succ]
  refine wpAnyH_take (i := 10) (oi := { dst := some 90, op := Go.Op.load 25 (Go.Operand.tmp 18), type := 25, pos := "law.go:193", after := #[{ on := 7, ground := Go.Ground.guard }], guard := some (7, true) }) (v := undef) rfl (by kernel_rfl) (by kernel_rfl) (by kernel_rfl) (fun _ _ _ h => h) (Or.inr ⟨by rfl, rfl⟩) hHeld ?rest10p25
  case' rest10p25 => try simp only [Act.put, List.setIfInBounds_toArray, List.set_cons_zero, List.set_cons_succ]
  refine wpAnyH_take (i := 11) (oi := { dst := some 91, op := Go.Op.call { callee := Go.Callee.value (Go.Operand.func 23), args := #[Go.Operand.tmp 90], argTypes := #[25] }, type := 3, pos := "law.go:193", after := #[{ on := 10, ground := Go.Ground.data }, { on := 9, ground := Go.Ground.chain }, { on := 7, ground := Go.Ground.guard }], guard := some (7, true) }) (v := undef) rfl (by kernel_rfl) (by kernel_rfl) (by kernel_rfl) (fun _ _ _ h => h) (Or.inr ⟨by rfl, rfl⟩) hHeld ?rest11p26
  case' rest11p26 => try simp only [Act.put, List.setIfInBounds_toArray, List.set_cons_zero, List.set_cons_succ]
  refine wpAnyH_take (i := 12) (oi := { dst := some 92, op := Go.Op.binOp Go.BinOp.add 3 (Go.Operand.tmp 89) (Go.Operand.tmp 91) 3, type := 3, pos := "law.go:193", after := #[{ on := 9, ground := Go.Ground.data }, { on := 11, ground := Go.Ground.data }, { on := 7, ground := Go.Ground.guard }], guard := some (7, true) }) (v := undef) rfl (by kernel_rfl) (by kernel_rfl) (by kernel_rfl) (fun _ _ _ h => h) (Or.inr ⟨by rfl, rfl⟩) hHeld ?rest12p27
  case' rest12p27 => try simp only [Act.put, List.setIfInBounds_toArray, List.set_cons_zero, List.set_cons_succ]
  refine wpAnyH_take (i := 13) (oi := { dst := some 93, op := Go.Op.binOp Go.BinOp.neq 3 (Go.Operand.tmp 92) (Go.Operand.const (Go.Value.int Go.IntKind.i64 0)) 3, type := 4, pos := "law.go:193", after := #[{ on := 12, ground := Go.Ground.data }, { on := 7, ground := Go.Ground.guard }], guard := some (7, true) }) (v := undef) rfl (by kernel_rfl) (by kernel_rfl) (by kernel_rfl) (fun _ _ _ h => h) (Or.inr ⟨by rfl, rfl⟩) hHeld ?rest13p28
  case' rest13p28 => try simp only [Act.put, List.setIfInBounds_toArray, List.set_cons_zero, List.set_cons_succ]
  refine wpAnyH_take (i := 14) (oi := { dst := some 94, op := Go.Op.pick (Go.Operand.tmp 87) (Go.Operand.tmp 93) (Go.Operand.const (Go.Value.bool false)), type := 4, pos := "law.go:193", after := #[{ on := 7, ground := Go.Ground.data }, { on := 13, ground := Go.Ground.data }, { on := 4, ground := Go.Ground.guard }], guard := some (4, false) }) (v := ?v14p29) rfl (by kernel_rfl) (by kernel_rfl) (by kernel_rfl) (fun _ _ _ h => h) (Or.inl ⟨by rfl, ?hy14p29⟩) hHeld ?rest14p29
  case hy14p29 =>
    intro W' hV
    try dsimp only at hV
    go_simp
    all_goals with_reducible rfl
  case' rest14p29 => try simp only [Act.put, List.setIfInBounds_toArray, List.set_cons_zero, List.set_cons_succ]
  refine wpAnyH_take (i := 15) (oi := { dst := some 95, op := Go.Op.pick (Go.Operand.tmp 84) (Go.Operand.const (Go.Value.bool true)) (Go.Operand.tmp 94), type := 4, pos := "law.go:193", after := #[{ on := 4, ground := Go.Ground.data }, { on := 14, ground := Go.Ground.data }], guard := none }) (v := ?v15p30) rfl (by kernel_rfl) (by kernel_rfl) (by kernel_rfl) (fun _ _ _ h => h) (Or.inl ⟨by rfl, ?hy15p30⟩) hHeld ?rest15p30
  case hy15p30 =>
    intro W' hV
    try dsimp only at hV
    go_simp
    all_goals with_reducible rfl
  case' rest15p30 => try simp only [Act.put, List.setIfInBounds_toArray, List.set_cons_zero, List.set_cons_succ]
  refine wpAnyH_done (by kernel_rfl) ?_ _
  clear hHeld
  clear y0 y1 y2 y3
  have x0 := HX4.out.c0; have x1 := HX4.out.c1; have x2 := HX4.out.c2; have x3 := HX4.out.c3
  have HMK := Lib.hid (fun n (hn : n ≤ 4000) => run_make_row' (P := Tryz.prog) 22 5 (.int .u8 0) 1 Tryz.underlying22 info5 rfl .i64 .i64 n (by omega) (by omega))
  go_upto_region 12 with fail
  have z0 : ∀ W, Below w4.heap.size w4 W → W.cell? ⟨G, 0, none⟩ = some (.int .i64 mo) := fun W hW => (HX4.out.on hW).c0
  have z1 : ∀ W, Below w4.heap.size w4 W → W.cell? ⟨G, 1, none⟩ = some (.int .i64 (T : Nat)) := fun W hW => (HX4.out.on hW).c1
  have z2 : ∀ W, Below w4.heap.size w4 W → W.cell? ⟨G, 2, none⟩ = some (.int .i64 (N : Nat)) := fun W hW => (HX4.out.on hW).c2
  have z3 : ∀ W, Below w4.heap.size w4 W → W.cell? ⟨G, 3, none⟩ = some (.int .i64 (C : Nat)) := fun W hW => (HX4.out.on hW).c3
  go_cut [23] from 121 to 130 (fun e wx => Hid (Below w4.heap.size w4 wx) ∧ ((S0 = 440 ∧ D0 = V ∧ e = .int .i64 0) ∨ (¬ (S0 = 440 ∧ D0 = V) ∧ e = .int .i64 3)))
  case first =>
    have hmS := HMK.out S0 (by have := HSD.out; omega)
    have hmD := HMK.out D0 (by have := HSD.out; omega)
    have HSP : Hid (∀ (W : World) (aB aR : Option Addr), Below w4.heap.size w4 W → Pa W aB S0 S0 (noR S0) → Pa W aR D0 D0 (noR D0) → Calls Tryz.prog 10 #[.agg #[.int .i64 mo, .int .i64 (T : Nat), .int .i64 (N : Nat), .int .i64 (C : Nat)], .pointer (some ⟨bf, 0, none⟩), .slice aB S0 S0, .slice aR D0 D0] W fun e w' => ∃ v ev, e = .returned (.tuple #[v, .int .i64 ev]) ∧ ((S0 = 440 ∧ D0 = V ∧ ev = 0) ∨ (¬ (S0 = 440 ∧ D0 = V) ∧ ev = 3)) ∧ Below W.heap.size W w') := by
      refine Lib.hid (fun W aB aR hW hB hR => ?_)
      by_cases hD : D0 = V
      · by_cases hS : S0 = 440
        · subst hS
          refine (spr_any bf mo T N C aB 440 (noR 440) aR D0 D0 (noR D0) W HS.out (HGL.out.on (bt HB4.out hW) HGL.out.1) (HF4.out.below hW) hB hR (by rw [hD]; exact HV.out)).mono ?_
          rintro e w' ⟨a', c', rfl, _, hb⟩
          exact ⟨_, 0, rfl, Or.inl ⟨rfl, hD, rfl⟩, hb⟩
        · refine (spr_size bf mo T N C aB S0 S0 aR D0 D0 W HS.out hR.bd hB.bd (by rw [hD]; exact HV.out) hS).mono ?_
          rintro e w' ⟨v, rfl, hb⟩
          exact ⟨_, 3, rfl, Or.inr ⟨fun h => hS h.1, rfl⟩, hb⟩
      · refine (spr_need bf mo T N C aB S0 S0 aR D0 D0 W HS.out hR.bd (by rw [← HV.out]; exact hD)).mono ?_
        rintro e w' ⟨v, rfl, hb⟩
        exact ⟨_, 3, rfl, Or.inr ⟨fun h => hD h.2, rfl⟩, hb⟩
    have hs1 : S0 ≤ 1000000 := by have := HSD.out; omega
    have hd1 : D0 ≤ 1000000 := by have := HSD.out; omega
    go_region_held (fun W => Below w4.heap.size w4 W) (first | assumption | exact (Below.refl _ _).drew | (refine Below.drew ?_; assumption) | exact bt2 (Below.refl _ _).drew _ | exact bt2 (bt2 (Below.refl _ _).drew _) _ | exact bt2 (Below.refl _ _) _ | exact bt2 (bt2 (Below.refl _ _) _) _ | exact (bt2 (bt2 (Below.refl _ _) _) _).drew | exact (bt2 (Below.refl _ _) _).drew)
      (first
        | (go_at_call 10; go_loud (refine (HSP.out _ _ _ (by first | exact (bt2 (bt2 (Below.refl _ _) _) _).drew | exact bt2 (bt2 (Below.refl _ _).drew _) _ | exact bt2 (bt2 (Below.refl _ _) _) _) (by first | exact (pa_made (w4.alloc _) S0 hs1).on (Below.refl _ _).drew | exact ((pa_made w4 S0 hs1).on ((Below.refl _ _).alloc (Nat.le_refl _) _)).on (Below.refl _ _).drew | exact (pa_made2 w4 _ S0 hs1).on (Below.refl _ _).drew | exact pa_made2 w4 _ S0 hs1 | exact pa_made2 w4.drew _ S0 hs1 | exact pa_made (w4.drew.alloc _) S0 hs1 | exact (pa_made w4.drew S0 hs1).on ((Below.refl _ _).alloc (Nat.le_refl _) _) | exact pa_made (w4.alloc _) S0 hs1 | exact (pa_made w4 S0 hs1).on ((Below.refl _ _).alloc (Nat.le_refl _) _)) (by first | exact (pa_made (w4.alloc _) D0 hd1).on (Below.refl _ _).drew | exact ((pa_made w4 D0 hd1).on ((Below.refl _ _).alloc (Nat.le_refl _) _)).on (Below.refl _ _).drew | exact (pa_made2 w4 _ D0 hd1).on (Below.refl _ _).drew | exact pa_made2 w4 _ D0 hd1 | exact pa_made2 w4.drew _ D0 hd1 | exact pa_made (w4.drew.alloc _) D0 hd1 | exact (pa_made w4.drew D0 hd1).on ((Below.refl _ _).alloc (Nat.le_refl _) _) | exact pa_made (w4.alloc _) D0 hd1 | exact (pa_made w4 D0 hd1).on ((Below.refl _ _).alloc (Nat.le_refl _) _))).mono ?_; rintro e w5 ⟨v5, ev, rfl, he, hb⟩; have hbw5 : Below w4.heap.size w4 w5 := (by first | exact bt (bt2 (bt2 (Below.refl _ _) _) _).drew hb | exact bt (bt2 (bt2 (Below.refl _ _).drew _) _) hb | exact bt (bt2 (bt2 (Below.refl _ _) _) _) hb); have HE := Lib.hid he; clear hb he)))
    all_goals
      go_wp2_with fail
      go_meet
      refine ⟨Lib.hid hbw5, ?_⟩
      rcases HE.out with ⟨h1, h2, rfl⟩ | ⟨h1, rfl⟩
      · exact Or.inl ⟨h1, h2, rfl⟩
      · exact Or.inr ⟨h1, rfl⟩
  case rest =>
  clear z0 z1 z2 z3
  obtain ⟨hcw, hce⟩ := hcut
  have HB5 := Lib.hid (bt HB4.out hcw.out)
  have HX5 := Lib.hid (HX4.out.on hcw.out)
  have HF5 := Lib.hid (HF4.out.below hcw.out)
  have HCE := Lib.hid hce
  have x0 := HX5.out.c0; have x1 := HX5.out.c1; have x2 := HX5.out.c2; have x3 := HX5.out.c3
  have HND := Lib.hid (fun W => need_any mo T N C W HS.out)
  rw [← HV.out] at HND
  clear hcw hce
  obtain ⟨w5, hw5⟩ : ∃ w5, w5 = wc := ⟨_, rfl⟩
  rw [← hw5] at HB5 HX5 HF5 x0 x1 x2 x3
  rw [← hw5]
  clear hw5
  go_upto_region 13 with fail
  go_cut [149] from 131 to 149 (fun b wx => b = .bool false ∧ Hid (Below w5.heap.size w5 wx))
  case first =>
    rcases HCE.out with ⟨h1, h2, rfl⟩ | ⟨h1, rfl⟩
    · have p1 : ((S0 : Int) == 440) = true := by rw [beq_iff_eq]; omega
      have p2 : ((D0 : Int) == (V : Int)) = true := by rw [beq_iff_eq]; omega
      clear h1 h2
      go_wp2_with (go_at_call 23; go_loud (refine (HND.out _).mono ?_; rintro e w6 ⟨rfl, hb⟩; have HB6 := Lib.hid hb; clear hb))
      go_meet
      exact ⟨rfl, HB6⟩
    · by_cases hS : S0 = 440
      · have p1 : ((S0 : Int) == 440) = true := by rw [beq_iff_eq]; omega
        have p2 : ((D0 : Int) == (V : Int)) = false := by rw [beq_eq_false_iff_ne]; intro e; exact h1 ⟨hS, by omega⟩
        clear h1 hS
        go_wp2_with (go_at_call 23; go_loud (refine (HND.out _).mono ?_; rintro e w6 ⟨rfl, hb⟩; have HB6 := Lib.hid hb; clear hb))
        go_meet
        exact ⟨rfl, HB6⟩
      · have p1 : ((S0 : Int) == 440) = false := by rw [beq_eq_false_iff_ne]; omega
        clear h1 hS
        go_wp2_with fail
        go_meet
        exact ⟨rfl, Lib.hid (Below.refl _ _)⟩
  case rest =>
  obtain ⟨rfl, hcut⟩ := hcut
  have HB6 := Lib.hid (bt HB5.out hcut.out)
  have HX6 := Lib.hid (HX5.out.on hcut.out)
  have HF6 := Lib.hid (HF5.out.below hcut.out)
  obtain ⟨w6, hw6⟩ : ∃ w6, w6 = wc := ⟨_, rfl⟩
  rw [← hw6] at HB6 HX6 HF6
  rw [← hw6]
  clear hw6 hcut x0 x1 x2 x3
  clear f1 f2 f3 f4 g1 g2 g3 g4 HCE HSD HND
  have qN : (N : Int) ≤ 7 := by have := HN7.out; omega
  obtain ⟨R, hRV⟩ : ∃ R, R = rowV mo T := ⟨_, rfl⟩
  have HRV := Lib.hid hRV
  have HRR := Lib.hid (show 2 ≤ R ∧ R ≤ 473 by
    have hc := ceil473 HS.out.2.1
    have ht7 : T ≤ 7 := by have := HS.out.2; have := HN7.out; omega
    have h2 : T * ceil 473 T ≤ 7 * ceil 473 T := Nat.mul_le_mul_right _ ht7
    rw [hRV]
    unfold rowV
    split <;> omega)
  have HRZ := Lib.hid (fun W => rowsz_any mo T N C W HS.out)
  rw [← hRV] at HRZ
  clear hRV
  have hmkN := run_make_row' (P := Tryz.prog) 28 22 (.slice none 0 0) 24 Tryz.underlying28 infoR rfl .i64 .i64 N (by omega) (by omega)
  have hmkR := HMK.out R (by have := HRR.out; omega)
  obtain ⟨i3, hi3, hi30, hi31, hi32⟩ := info_parts infoI17
  have HI3 := Lib.hid (And.intro hi3 (And.intro hi30 (And.intro hi31 hi32)))
  clear hi3 hi30 hi31 hi32
  obtain ⟨B0, hB0⟩ : ∃ B0, B0 = w6.heap.size := ⟨_, rfl⟩
  have hO0 : Hid ((w6.alloc (.cells (madeCells #[Value.slice none 0 0] N) 22)).ownsRow w6.heap.size 22 1 (.slice (some ⟨w6.heap.size, 0, none⟩) N N) N ([] ++ List.replicate (N - ([] : List Value).length) (.slice none 0 0))) :=
    Lib.hid (own_madeR (w := w6) (n := N) (by unfold maxLen; omega))
  have hA0 : Hid (Below w6.heap.size w6 (w6.alloc (.cells (madeCells #[Value.slice none 0 0] N) 22))) := Lib.hid ((Below.refl _ _).alloc (Nat.le_refl _) _)
  have HB0 := Lib.hid hB0
  go_upto_region 17 with fail
  rw [← hB0] at hO0
  rw [← hB0]
  clear hB0
  go_wp2_with fail
  go_loopw [25, 154] (fun v s wr => ∃ (i : Nat) (a : Option Addr) (c : Nat) (vs : List Value), i ≤ N ∧ s = .int .i64 (i : Nat) ∧ v = .slice a i c ∧ vs.length = i ∧ Hid (wr.ownsRow B0 22 1 (.slice (some ⟨B0, 0, none⟩) N N) N (vs ++ List.replicate (N - vs.length) (.slice none 0 0))) ∧ Hid (RV wr (NewU wr (B0 + 1)) vs (List.replicate i (noR R))) ∧ Hid (wr.ownsRow B0 3 1 (.slice a i c) i ((zl (upN i)).map (Value.int .i64))) ∧ Hid (Below w6.heap.size w6 wr))
    (fun _ s _ => N - (intOf s).toNat)
  case atStart => exact ⟨0, none, 0, [], Nat.zero_le _, rfl, rfl, rfl, hO0, Lib.hid (RV.nil _ _), Lib.hid (World.ownsRow_nil _ _ _ _), hA0⟩
  case round =>
    obtain ⟨i, a, c, vs, hi, rfl, rfl, hvl, HO, HRW, HAT, HB⟩ := hrel
    rename World => V7
    by_cases hlt : i < N
    · have qi : (i : Int) < (N : Int) := by omega
      have qi0 : (0 : Int) ≤ (i : Int) := by omega
      have k1 : wrap64 ((i : Int) + 1) = ((i + 1 : Nat) : Int) := by unfold wrap64; omega
      have HX7 := HX6.out.on HB.out
      have x0 := HX7.c0; have x1 := HX7.c1; have x2 := HX7.c2; have x3 := HX7.c3
      have HVL := Lib.hid hvl
      have HLT := Lib.hid hlt
      have HK1 := Lib.hid k1
      have hB6 : B0 ≤ V7.heap.size := by rw [HB0.out]; exact HB.out.size
      have HB6' := Lib.hid hB6
      have hR1 : R ≤ 1000000 := by have := HRR.out; omega
      clear hvl hlt hi HX7 k1
      go_wp2_with (first
        | (go_at_call 15; go_loud (refine (HRZ.out _).mono ?_; rintro e w7 ⟨rfl, hb7⟩; have HB7 := Lib.hid hb7; have HO8 := Lib.hid ((own_belowV HO.out hb7).alloc (.cells (madeCells #[.int .u8 0] R) 5)); have hfz := HO8.out.frozenAt i; have hcl := HO8.out.cellAt i (by have := HVL.out; have := HLT.out; simp; omega); rw [List.getElem?_eq_getElem (by have := HVL.out; have := HLT.out; simp; omega)] at hcl; have hsz7 := hb7.size; have HA9 := Lib.hid (formsA HAT.out hb7 HO.out (by omega) i R); have HZ7 := Lib.hid (show B0 ≤ w7.heap.size by omega); clear hb7))
        | ((with_reducible show wpList _ _ _ (⟨some 167, _, _, _, _, _⟩ :: _) _ _); go_loud (refine wpList_append_own _ rfl (.tmp 163) (.tmp 166) 39 rfl B0 3 i3 (.int .i64 0) 1 8 Tryz.underlying39 HI3.out.1 HI3.out.2.1 HI3.out.2.2.1 HI3.out.2.2.2 rfl (by decide) (.slice a i c) i ((zl (upN i)).map (Value.int .i64)) rfl (HA9.out.alloc _) _ 1 1 [.int .i64 ((i : Int) + 1)] rfl rfl (lit_cellsH _ _ _ _ (by simp)) (by intro u hu; cases List.mem_singleton.1 hu; rfl) (by unfold maxLen; omega) (by omega) (by have := HZ7.out; simp; omega) ?_); go_loud (intro v10 w10 hown10 hg10 _; have HX10 := Lib.hid (formsR HO.out HRW.out HB.out HB7.out HAT.out HB0.out HVL.out HLT.out (by have := HRR.out; omega) hown10 hg10); obtain ⟨a10, c10, hv10⟩ := own_slice17f hown10; subst hv10; clear hown10 hg10)))
      go_roundw
      case rel => exact ⟨i + 1, a10, c10, vs ++ [.slice (some ⟨w7.heap.size, 0, none⟩) R R], by have := HLT.out; omega, by go_num, rfl, by rw [List.length_append, HVL.out]; rfl, Lib.hid HX10.out.1, Lib.hid HX10.out.2.1, Lib.hid HX10.out.2.2.1, Lib.hid HX10.out.2.2.2⟩
      case measure => simp [intOf]; have := HLT.out; omega
    · obtain rfl : N = i := by omega
      have ho := HO.out
      rw [hvl, Nat.sub_self, List.replicate_zero, List.append_nil] at ho
      have HOR := Lib.hid ho
      obtain ⟨gA, rfl⟩ := own_some17 HAT.out (by have := HS.out.2; omega)
      have hcA := own_bd17 HAT.out
      have HX7 := Lib.hid (HX6.out.on HB.out)
      have HB7 := Lib.hid (bt HB6.out HB.out)
      have HF7 := Lib.hid (HF6.out.below HB.out)
      have HVL := Lib.hid hvl
      have HNN := Lib.hid (show 1 ≤ N ∧ N ≤ 7 by have := HS.out.2; have := HN7.out; omega)
      have HRR1 := Lib.hid (show 2 ≤ R ∧ R ≤ 473 from HRR.out)
      have HNE := Lib.hid (fun W => need_any mo T N C W HS.out)
      rw [← HV.out] at HNE
      have HVS := Lib.hid (show V ≤ 4000 by rw [HV.out]; exact need_smallF HS.out HN7.out)
      have x0 := HX7.out.c0; have x1 := HX7.out.c1; have x2 := HX7.out.c2; have x3 := HX7.out.c3
      clear ho hi hvl hlt HO hmkN hmkR hO0 hA0 HRZ
      cases fw with
      | true => as_aux_lemma =>
        obtain ⟨T1, hT1⟩ : ∃ T1, T1 = T - 1 := ⟨_, rfl⟩
        have HT1 := Lib.hid hT1
        have k1 : wrap64 ((T : Int) - 1) = (T1 : Int) := by have := HS.out.2; unfold wrap64; omega
        have k2 : ∀ [Inhabited Unit], IntKind.i64.wrap ((T : Int) - 1) = (T1 : Int) := by intro _; have := HS.out.2; rw [IntKind.wrap_i64]; omega
        have k3 : (0 : Int) ≤ (T1 : Int) := by omega
        have k4 : (T1 : Int) ≤ (N : Int) := by have := HS.out.2; omega
        have k5 : (T1 : Int) ≤ (c : Int) := by omega
        have k6 : T1 ≤ N := by omega
        have k7 : T1 ≤ c := by omega
        clear hT1
        go_upto_region 24 with fail
        go_quiet (fail)
        obtain ⟨W8, hW8⟩ : ∃ W, W = V7.drewN nq := ⟨_, rfl⟩
        have HBW := Lib.hid (show Below V7.heap.size V7 W8 by rw [hW8]; exact below_drewN (Below.refl _ _) _)
        rw [← hW8]
        have HX8 := Lib.hid (HX7.out.on HBW.out)
        have z0 := HX8.out.c0; have z1 := HX8.out.c1; have z2 := HX8.out.c2; have z3 := HX8.out.c3
        clear hW8 x0 x1 x2 x3
        have HGF := Lib.hid (gat_few bf mo T N C (some ⟨gA, 0, none⟩) T1 c ((zl (upN N)).take T1) (some ⟨B0, 0, none⟩) N ((List.replicate N (noR R)).take T1) W8 HS.out (((ia_own17 HAT.out (fun z hz => by obtain ⟨x, hx, rfl⟩ := List.mem_map.1 hz; have := upN_lt hx; have := HNN.out; omega)).take (by omega)).on HBW.out) (((Mat.ownS17 HOR.out HRW.out).take (by omega)).on HBW.out) (by have := HNN.out; omega) (fun k hk => by rw [rw_take17 hk, rw_rep (by omega)]; simp [noR]; have := HRR1.out; omega) (fun k hk => by rw [getD_take hk, up_getD (by omega)]; omega) (fun k hk => by rw [rw_take17 hk, rw_rep (by omega), ← HRV.out]; simp [noR]) (by have := HT1.out; have := HS.out.2; omega))
        go_wp2_with (go_at_call 17; go_loud (refine HGF.out.mono ?_; rintro e w9 ⟨rfl, hb⟩; have HB9 := Lib.hid (bt (bt HB7.out HBW.out) hb); clear hb))
        go_ret
        exact ⟨rfl, HB9.out⟩
      | false =>
        have HPB := Lib.hid (wf_i64 HPL.out)
        have hfz := HAT.out.frozenAt 0
        have hcl := HAT.out.cellAt 0 (by have := HNN.out; omega)
        rw [List.getElem?_eq_getElem (by have := HNN.out; simp [zl, upN]; omega)] at hcl
        have HPUT := Lib.hid (forms_put pl_ HB.out HB0.out HAT.out HOR.out HRW.out)
        have n0 : (0 : Int) < (N : Int) := by have := HNN.out; omega
        go_upto_region 28 with fail
        obtain ⟨V8, hV8⟩ : ∃ V8, V8 = V7.setCell ⟨gA, 0, none⟩ (.int .i64 pl_) := ⟨_, rfl⟩
        rw [← hV8] at HPUT
        rw [← hV8]
        clear hV8 hfz hcl x0 x1 x2 x3
        have HB8 := Lib.hid (bt HB6.out HPUT.out.2.2.2)
        have HX8 := Lib.hid (HX6.out.on HPUT.out.2.2.2)
        have HF8 := Lib.hid (HF6.out.below HPUT.out.2.2.2)
        have HIA := Lib.hid (show IA V8 (some ⟨gA, 0, none⟩) N c (plF N pl_) from ia_own64 HPUT.out.1 (fun x hx => by
          rcases plF_mem hx with rfl | h
          · exact HPB.out
          · have := HNN.out; omega))
        have HMA := Lib.hid (Mat.ownS17 HPUT.out.2.1 HPUT.out.2.2.1)
        have x0 := HX8.out.c0; have x1 := HX8.out.c1; have x2 := HX8.out.c2; have x3 := HX8.out.c3
        have HW1 := Lib.hid (show ∀ k, k < N → (rw_ (List.replicate N (noR R)) k).length = R from fun k hk => by rw [rw_rep hk]; simp [noR])
        have HIN := Lib.hid (show ∀ k, k < N → ¬ (pl_ < 1 ∨ (N : Int) < pl_) → 1 ≤ (plF N pl_).getD k 0 ∧ (plF N pl_).getD k 0 ≤ (N : Int) from fun k hk hno => by
          rcases Nat.eq_zero_or_pos k with rfl | h0
          · rw [plF_0 _ hk]; omega
          · rw [plF_s _ h0 hk]; omega)
        go_cut [30] from 191 to 198 (fun g wx => (∃ z : Int, g = .int .i64 z ∧ ((z = 2 ∧ (pl_ < 1 ∨ (N : Int) < pl_)) ∨ (z = 6 ∧ ¬ (pl_ < 1 ∨ (N : Int) < pl_) ∧ 1 < pl_) ∨ (z = 0 ∧ ¬ (pl_ < 1 ∨ (N : Int) < pl_) ∧ ¬ 1 < pl_))) ∧ Hid (Below V8.heap.size V8 wx))
        case first =>
          rcases Decidable.em (pl_ < 1 ∨ (N : Int) < pl_) with ho | ho
          · have HO := Lib.hid ho
            have HGT := Lib.hid (gat_out bf mo T N C _ N c _ _ N _ V8 HS.out HIA.out HMA.out (by have := HNN.out; omega) (fun k hk => by have := HW1.out k hk; have := HRR1.out; omega) ⟨0, by have := HNN.out; omega, by rw [plF_0 _ (by have := HNN.out; omega)]; unfold outB; rcases ho with h | h <;> simp [h]⟩)
            rcases ho with h1 | h1
            · as_aux_lemma =>
              have h1' := h1
              go_wp2_with (go_at_call 17; go_loud (refine HGT.out.mono ?_; rintro e w9 ⟨rfl, hb⟩; have HB9 := Lib.hid hb; clear hb))
              go_meet
              exact ⟨⟨2, rfl, Or.inl ⟨rfl, HO.out⟩⟩, HB9⟩
            · as_aux_lemma =>
              have h2 : ¬ pl_ < 1 := by omega
              have h3 : decide ((N : Int) < pl_) = true := by rw [decide_eq_true_iff]; exact h1
              go_wp2_with (go_at_call 17; go_loud (refine HGT.out.mono ?_; rintro e w9 ⟨rfl, hb⟩; have HB9 := Lib.hid hb; clear hb))
              go_meet
              exact ⟨⟨2, rfl, Or.inl ⟨rfl, HO.out⟩⟩, HB9⟩
          · have HO := Lib.hid ho
            have h2 : ¬ pl_ < 1 := by omega
            have h3 : decide ((N : Int) < pl_) = false := by rw [decide_eq_false_iff_not]; omega
            rcases Decidable.em (1 < pl_) with h4 | h4
            · as_aux_lemma =>
              have HGT := Lib.hid (gat_same bf mo T N C _ N c _ _ N _ V8 HF8.out HS.out HIA.out HMA.out (by have := HNN.out; omega) (fun k hk => by have := HW1.out k hk; have := HRR1.out; omega) (fun k hk => HIN.out k hk HO.out) (fun k hk => by rw [HW1.out k hk]; exact HRV.out) (by have := HS.out.2; omega) (Nat.le_refl _) (plF_not h4 (by have := HO.out; omega)))
              go_wp2_with (go_at_call 17; go_loud (refine HGT.out.mono ?_; rintro e w9 ⟨rfl, hb⟩; have HB9 := Lib.hid hb; clear hb))
              go_meet
              exact ⟨⟨6, rfl, Or.inr (Or.inl ⟨rfl, HO.out, h4⟩)⟩, HB9⟩
            · as_aux_lemma =>
              have HGT := Lib.hid (gat_ok bf mo T N C _ N c _ _ N _ V8 HF8.out HS.out HIA.out HMA.out (by have := HNN.out; omega) (fun k hk => by have := HW1.out k hk; have := HRR1.out; omega) (fun k hk => HIN.out k hk HO.out) (fun k hk => by rw [HW1.out k hk]; exact HRV.out) (by have := HS.out.2; omega) (Nat.le_refl _) (noQ R) (by have := HNN.out; omega)
                (by rw [show pl_ = 1 by omega, plF_one (by have := HNN.out; omega)]; exact up_apart (by have := HNN.out; omega)) (by rw [← HRV.out]; simp [noQ]) (by rw [← HRV.out]; exact right_all (noQ_ok R T) (by rw [gZ_len, plF_len]) (by have := HS.out.2; omega) (fun i hi => by rw [rw_rep hi, noQ_at])))
              go_wp2_with (go_at_call 17; go_loud (refine HGT.out.mono ?_; rintro e w9 ⟨p9, rfl, _, hb⟩; have HB9 := Lib.hid hb; clear hb))
              go_meet
              exact ⟨⟨0, rfl, Or.inr (Or.inr ⟨rfl, HO.out, h4⟩)⟩, HB9⟩
        case rest =>
        obtain ⟨⟨z, rfl, hz⟩, hcut⟩ := hcut
        have HZ := Lib.hid hz
        have HBZ := Lib.hid hcut.out
        clear hz hcut x0 x1 x2 x3 n0
        go_upto_region 29 with fail
        go_cut [31] from 199 to 199 (fun g wx => g = .int .i64 0 ∧ wx = wc)
        case first =>
          go_wp2_with fail
          go_meet
          exact ⟨rfl, rfl⟩
        case rest =>
        obtain ⟨rfl, rfl⟩ := hcut
        go_step
        go_step
        go_cut [31] from 199 to 209 (fun g wx => g = .int .i64 z ∧ wx = wc)
        case first =>
          rcases HZ.out with ⟨rfl, h⟩ | ⟨rfl, h, h2⟩ | ⟨rfl, h, h2⟩
          · rcases h with h1 | h1
            · have h1' := h1
              go_wp2_with fail
              go_meet
              exact ⟨rfl, rfl⟩
            · have h2 : ¬ pl_ < 1 := by omega
              have h3 : decide ((N : Int) < pl_) = true := by rw [decide_eq_true_iff]; exact h1
              go_wp2_with fail
              go_meet
              exact ⟨rfl, rfl⟩
          · have h5 : ¬ pl_ < 1 := by omega
            have h3 : decide ((N : Int) < pl_) = false := by rw [decide_eq_false_iff_not]; omega
            clear h
            go_wp2_with fail
            go_meet
            exact ⟨rfl, rfl⟩
          · have h5 : ¬ pl_ < 1 := by omega
            have h3 : decide ((N : Int) < pl_) = false := by rw [decide_eq_false_iff_not]; omega
            clear h
            go_wp2_with fail
            go_meet
            exact ⟨rfl, rfl⟩
        case rest =>
        obtain ⟨rfl, rfl⟩ := hcut
        have HA9 := Lib.hid (own_belowV HPUT.out.1 HBZ.out)
        have HO9 := Lib.hid (own_belowV HPUT.out.2.1 HBZ.out)
        have HR9 := Lib.hid (HPUT.out.2.2.1.onN HBZ.out)
        have HB9 := Lib.hid (bt HPUT.out.2.2.2 HBZ.out)
        clear HIA HMA HAT HRW HOR HPUT HX8 HF8 HB8 HBZ HX7 HF7 HB7 HB
        obtain ⟨b9, o9, cR, hcl, hc1, hc2, hA10, hM10, hB10⟩ := forms_cut HB9.out HB0.out HA9.out HO9.out HR9.out (by have := HNN.out; omega) HRR1.out.1
        have hfz := HO9.out.frozenAt 0
        have HA10 := Lib.hid hA10
        have HM10 := Lib.hid hM10
        have HB10 := Lib.hid hB10
        have n0 : (0 : Int) < (N : Int) := by have := HNN.out; omega
        have n1 : (1 : Int) ≤ (R : Int) := by have := HRR1.out; omega
        have n2 : (R : Int) ≤ (cR : Int) := by omega
        have n3 : 1 ≤ R := by have := HRR1.out; omega
        have n4 : ¬ cR = 1 := by have := HRR1.out; omega
        clear hA10 hM10 hB10
        go_upto_region 35 with fail
        obtain ⟨V10, hV10⟩ : ∃ V10, V10 = wc.setCell ⟨B0, 0, none⟩ (.slice (some ⟨b9, o9 + 1, none⟩) (R - 1) (cR - 1)) := ⟨_, rfl⟩
        rw [← hV10] at HA10 HM10 HB10
        rw [← hV10]
        clear hV10 hfz hcl hc1 hc2 n1 n2 n3 n4
        have HBT := Lib.hid (bt HB6.out HB10.out)
        have HX10 := Lib.hid (HX6.out.on HB10.out)
        have x0 := HX10.out.c0; have x1 := HX10.out.c1; have x2 := HX10.out.c2; have x3 := HX10.out.c3
        have HIA := Lib.hid (show IA V10 (some ⟨gA, 0, none⟩) N c (plF N pl_) from ia_own64 HA10.out (fun x hx => by
          rcases plF_mem hx with rfl | h
          · exact HPB.out
          · have := HNN.out; omega))
        have HW2 := Lib.hid (show ∀ k, k < N → (rw_ ((List.replicate N (noR R)).set 0 (noR (R - 1))) k).length ≤ 1000 from fun k hk => by
          rw [rw_set17]
          have := HRR1.out
          split
          · simp [noR]; omega
          · rw [rw_rep hk]; simp [noR]; omega)
        have HW3 := Lib.hid (show ∃ i, i < N ∧ (rw_ ((List.replicate N (noR R)).set 0 (noR (R - 1))) i).length ≠ rowV mo T from ⟨0, by have := HNN.out; omega, by
          rw [rw_set17, if_pos ⟨rfl, by have := HNN.out; simp; omega⟩, ← HRV.out]
          have := HRR1.out
          simp [noR]; omega⟩)
        go_cut [33] from 216 to 223 (fun h wx => (∃ y : Int, h = .int .i64 y ∧ ((y = 2 ∧ z = 2) ∨ (y = 3 ∧ z ≠ 2 ∧ (z == 2) = false ∧ (z != 2) = true))) ∧ Hid (Below V10.heap.size V10 wx))
        case first =>
          have hb1 := HIA.out.bd
          rcases Decidable.em (pl_ < 1 ∨ (N : Int) < pl_) with ho | ho
          · have hz2 : z = 2 := by rcases HZ.out with h | h | h; exact h.1; exact absurd ho h.2.1; exact absurd ho h.2.1
            have HZ2 := Lib.hid hz2
            have HGT := Lib.hid (gat_out bf mo T N C _ N c _ _ N _ V10 HS.out HIA.out HM10.out (by have := HNN.out; omega) HW2.out ⟨0, by have := HNN.out; omega, by rw [plF_0 _ (by have := HNN.out; omega)]; unfold outB; rcases ho with h | h <;> simp [h]⟩)
            clear hz2 ho
            as_aux_lemma =>
            go_wp2_with (go_at_call 17; go_loud (refine HGT.out.mono ?_; rintro e w9 ⟨rfl, hb⟩; have HB9 := Lib.hid hb; clear hb))
            go_meet
            exact ⟨⟨2, rfl, Or.inl ⟨rfl, HZ2.out⟩⟩, HB9⟩
          · have hz2 : z ≠ 2 := by rcases HZ.out with h | h | h; exact absurd h.2 ho; omega; omega
            have HZ2 := Lib.hid hz2
            have HGT := Lib.hid (gat_form bf mo T N C _ N c _ _ N _ V10 HS.out HIA.out HM10.out (by have := HNN.out; omega) HW2.out (fun k hk => by
              rcases Nat.eq_zero_or_pos k with rfl | h0
              · rw [plF_0 _ hk]; omega
              · rw [plF_s _ h0 hk]; omega) HW3.out)
            clear hz2 ho
            as_aux_lemma =>
            go_wp2_with (go_at_call 17; go_loud (refine HGT.out.mono ?_; rintro e w9 ⟨rfl, hb⟩; have HB9 := Lib.hid hb; clear hb))
            go_meet
            exact ⟨⟨3, rfl, Or.inr ⟨rfl, HZ2.out, by rw [beq_eq_false_iff_ne]; exact HZ2.out, by rw [bne_iff_ne]; exact HZ2.out⟩⟩, HB9⟩
        case rest =>
        obtain ⟨⟨y, rfl, hy⟩, hcut⟩ := hcut
        have HY := Lib.hid hy
        have HBY := Lib.hid hcut.out
        clear hy hcut x0 x1 x2 x3
        obtain ⟨V11, hV11⟩ : ∃ V11, V11 = wc := ⟨_, rfl⟩
        rw [← hV11] at HBY
        rw [← hV11]
        clear hV11
        have HX11 := Lib.hid (HX10.out.on HBY.out)
        have HM11 := Lib.hid (HM10.out.on HBY.out)
        have HI11 := Lib.hid (HIA.out.on HBY.out)
        have HBT11 := Lib.hid (bt HBT.out HBY.out)
        have y0 : ∀ W, Below V11.heap.size V11 W → W.cell? ⟨G, 0, none⟩ = some (.int .i64 mo) := fun W hW => (HX11.out.on hW).c0
        have y1 : ∀ W, Below V11.heap.size V11 W → W.cell? ⟨G, 1, none⟩ = some (.int .i64 (T : Nat)) := fun W hW => (HX11.out.on hW).c1
        have y2 : ∀ W, Below V11.heap.size V11 W → W.cell? ⟨G, 2, none⟩ = some (.int .i64 (N : Nat)) := fun W hW => (HX11.out.on hW).c2
        have y3 : ∀ W, Below V11.heap.size V11 W → W.cell? ⟨G, 3, none⟩ = some (.int .i64 (C : Nat)) := fun W hW => (HX11.out.on hW).c3
        have n1 : (1 : Int) ≤ (N : Int) := by have := HNN.out; omega
        have n2 : 1 ≤ N := by have := HNN.out; omega
        clear HIA HM10 HX10 HBT HA10 HB10 HA9 HO9 HR9 HB9 HW3
        have HGA := Lib.hid (fun (W : World) (a : Option Addr) => gat_arg bf mo (T : Nat) (N : Nat) (C : Nat) (some ⟨gA, 0, none⟩) N c a (N - 1) (N - 1) W HI11.out.bd ⟨Nat.le_refl _, by have := HNN.out; omega⟩ (by have := HNN.out; omega))
        go_upto_region 36 with fail
        go_cut [35] from 224 to 232 (fun v wx => v = .int .i64 1 ∧ Hid (Below V11.heap.size V11 wx))
        case first =>
          obtain ⟨aZ, haZ⟩ : ∃ aZ, (if N = 1 then some ({ block := B0, off := 0 } : Addr) else some { block := B0, off := 1 }) = aZ := ⟨_, rfl⟩
          go_region_held (fun W => Below V11.heap.size V11 W) (first | assumption | exact (Below.refl _ _).drew | (refine Below.drew ?_; assumption))
            (first
              | (go_at_call 17; go_loud (refine (HGA.out _ _).mono ?_; rintro e w12 ⟨rfl, hb⟩; have hb12 : Below V11.heap.size V11 w12 := bt (Below.refl _ _).drew hb; clear hb)))
          all_goals
            go_wp2_with fail
            go_meet
            exact ⟨rfl, Lib.hid hb12⟩
        case rest =>
        obtain ⟨rfl, hcut⟩ := hcut
        have HB12 := Lib.hid hcut.out
        obtain ⟨V12, hV12⟩ : ∃ V12, V12 = wc := ⟨_, rfl⟩
        rw [← hV12] at HB12
        rw [← hV12]
        clear hV12 hcut y0 y1 y2 y3 HGA n1 n2
        have HX12 := Lib.hid (HX11.out.on HB12.out)
        have HM12 := Lib.hid (HM11.out.on HB12.out)
        have HBT12 := Lib.hid (bt HBT11.out HB12.out)
        have x0 := HX12.out.c0; have x1 := HX12.out.c1; have x2 := HX12.out.c2; have x3 := HX12.out.c3
        have HGN := Lib.hid (fun W => gat_nil mo (T : Nat) (N : Nat) (C : Nat) (some ⟨gA, 0, none⟩) N c (some ⟨B0, 0, none⟩) N N W)
        go_upto_region 37 with fail
        go_upto_region 38 with (first
          | (go_at_call 17; go_loud (refine (HGN.out _).mono ?_; rintro e w13 ⟨rfl, hb⟩; have HB13 := Lib.hid hb; clear hb)))
        have HX13 := Lib.hid (HX12.out.on HB13.out)
        have HM13 := Lib.hid (HM12.out.on HB13.out)
        have HBT13 := Lib.hid (bt HBT12.out HB13.out)
        have hmV := HMK.out V HVS.out
        clear x0 x1 x2 x3 HGN HX11 HM11 HBT11
        have y0 : ∀ W, Below w13.heap.size w13 W → W.cell? ⟨G, 0, none⟩ = some (.int .i64 mo) := fun W hW => (HX13.out.on hW).c0
        have y1 : ∀ W, Below w13.heap.size w13 W → W.cell? ⟨G, 1, none⟩ = some (.int .i64 (T : Nat)) := fun W hW => (HX13.out.on hW).c1
        have y2 : ∀ W, Below w13.heap.size w13 W → W.cell? ⟨G, 2, none⟩ = some (.int .i64 (N : Nat)) := fun W hW => (HX13.out.on hW).c2
        have y3 : ∀ W, Below w13.heap.size w13 W → W.cell? ⟨G, 3, none⟩ = some (.int .i64 (C : Nat)) := fun W hW => (HX13.out.on hW).c3
        have HFR : Hid (∀ (W : World) (aM : Option Addr) (cM : Nat), Below w13.heap.size w13 W → V ≤ cM ∧ cM ≤ 9223372036854775807 → Calls Tryz.prog 21 #[.agg #[.int .i64 mo, .int .i64 (T : Nat), .int .i64 (N : Nat), .int .i64 (C : Nat)], .pointer (some ⟨bf, 0, none⟩), .slice (some ⟨B0, 0, none⟩) N N, .slice aM V cM] W fun e w' => ∃ v, e = .returned (.tuple #[v, .int .i64 3]) ∧ Below W.heap.size W w') :=
          Lib.hid (fun W aM cM hW hc => fr_form bf mo T N C _ N _ aM V cM W HS.out (HM13.out.on hW) HW2.out hc HV.out ⟨0, by have := HNN.out; omega, by
            rw [rw_set17, if_pos ⟨rfl, by have := HNN.out; simp; omega⟩, ← HRV.out]
            have := HRR1.out
            simp [noR]; omega⟩)
        have HFV := Lib.hid (fun W aM hW => HFR.out W aM V hW ⟨Nat.le_refl _, by have := HVS.out; omega⟩)
        go_cut [39] from 240 to 249 (fun v wx => v = .int .i64 3 ∧ Hid (Below w13.heap.size w13 wx))
        case first =>
          go_region_held (fun W => Below w13.heap.size w13 W) (first | assumption | exact (Below.refl _ _).drew | (refine Below.drew ?_; assumption) | exact bt2 (Below.refl _ _).drew _ | exact bt2 (Below.refl _ _) _ | exact (bt2 (Below.refl _ _) _).drew | (refine bt2 ?_ _; assumption) | (refine bt2 (Below.drew ?_) _; assumption) | (refine Below.drew (bt2 ?_ _); assumption))
            (first
              | (go_at_call 23; go_loud (refine (HNE.out _).mono ?_; rintro e w14 ⟨rfl, hb⟩; have hb14 : Below w13.heap.size w13 w14 := bt (by (first | assumption | exact (Below.refl _ _).drew | (refine Below.drew ?_; assumption) | exact bt2 (Below.refl _ _).drew _ | exact bt2 (Below.refl _ _) _ | exact (bt2 (Below.refl _ _) _).drew | (refine bt2 ?_ _; assumption) | (refine bt2 (Below.drew ?_) _; assumption) | (refine Below.drew (bt2 ?_ _); assumption))) hb; clear hb))
              | (go_at_call 21; go_loud (refine (HFV.out _ _ (by (first | assumption | exact (Below.refl _ _).drew | (refine Below.drew ?_; assumption) | exact bt2 (Below.refl _ _).drew _ | exact bt2 (Below.refl _ _) _ | exact (bt2 (Below.refl _ _) _).drew | (refine bt2 ?_ _; assumption) | (refine bt2 (Below.drew ?_) _; assumption) | (refine Below.drew (bt2 ?_ _); assumption)))).mono ?_; rintro e w15 ⟨v15, rfl, hb⟩; have hb15 : Below w13.heap.size w13 w15 := bt (by (first | assumption | exact (Below.refl _ _).drew | (refine Below.drew ?_; assumption) | exact bt2 (Below.refl _ _).drew _ | exact bt2 (Below.refl _ _) _ | exact (bt2 (Below.refl _ _) _).drew | (refine bt2 ?_ _; assumption) | (refine bt2 (Below.drew ?_) _; assumption) | (refine Below.drew (bt2 ?_ _); assumption))) hb; clear hb)))
          all_goals
            go_wp2_with fail
            go_meet
            exact ⟨rfl, Lib.hid hb15⟩
        case rest =>
        obtain ⟨rfl, hcut⟩ := hcut
        have HB14 := Lib.hid hcut.out
        clear y0 y1 y2 y3 hcut
        obtain ⟨V14, hV14⟩ : ∃ V14, V14 = wc := ⟨_, rfl⟩
        rw [← hV14] at HB14
        rw [← hV14]
        clear hV14
        have HX14 := Lib.hid (HX13.out.on HB14.out)
        have HBT14 := Lib.hid (bt HBT13.out HB14.out)
        have y0 : ∀ W, Below V14.heap.size V14 W → W.cell? ⟨G, 0, none⟩ = some (.int .i64 mo) := fun W hW => (HX14.out.on hW).c0
        have y1 : ∀ W, Below V14.heap.size V14 W → W.cell? ⟨G, 1, none⟩ = some (.int .i64 (T : Nat)) := fun W hW => (HX14.out.on hW).c1
        have y2 : ∀ W, Below V14.heap.size V14 W → W.cell? ⟨G, 2, none⟩ = some (.int .i64 (N : Nat)) := fun W hW => (HX14.out.on hW).c2
        have y3 : ∀ W, Below V14.heap.size V14 W → W.cell? ⟨G, 3, none⟩ = some (.int .i64 (C : Nat)) := fun W hW => (HX14.out.on hW).c3
        have hm4 := HMK.out 440 (by decide)
        rw [show ((440 : Nat) : Int) = 440 from rfl] at hm4
        have HSN := Lib.hid (fun (a b : Option Addr) (n n2 : Nat) (W : World) => spr_arg mo (T : Nat) (N : Nat) (C : Nat) a n n b n2 n2 W)
        clear HM13 HX13 HX12 HM12 HBT12 HBT13 HFR HFV
        go_upto_region 39 with fail
        go_cut [41] from 250 to 258 (fun v wx => v = .int .i64 1 ∧ Hid (Below V14.heap.size V14 wx))
        case first =>
          go_region_held (fun W => Below V14.heap.size V14 W) (first | assumption | exact (Below.refl _ _).drew | (refine Below.drew ?_; assumption) | exact bt2 (Below.refl _ _).drew _ | exact bt2 (Below.refl _ _) _ | exact (bt2 (Below.refl _ _) _).drew | exact bt2 (bt2 (Below.refl _ _) _) _ | exact (bt2 (bt2 (Below.refl _ _) _) _).drew | (refine bt2 ?_ _; assumption) | (refine bt2 (Below.drew ?_) _; assumption) | (refine Below.drew (bt2 ?_ _); assumption) | (refine bt2 (bt2 ?_ _) _; assumption) | (refine bt2 (bt2 (Below.drew ?_) _) _; assumption) | (refine bt2 (Below.drew (bt2 ?_ _)) _; assumption) | (refine Below.drew (bt2 (bt2 ?_ _) _); assumption))
            (first
              | (go_at_call 23; go_loud (refine (HNE.out _).mono ?_; rintro e w16 ⟨rfl, hb⟩; have hb16 : Below V14.heap.size V14 w16 := bt (by (first | assumption | exact (Below.refl _ _).drew | (refine Below.drew ?_; assumption) | exact bt2 (Below.refl _ _).drew _ | exact bt2 (Below.refl _ _) _ | exact (bt2 (Below.refl _ _) _).drew | exact bt2 (bt2 (Below.refl _ _) _) _ | exact (bt2 (bt2 (Below.refl _ _) _) _).drew | (refine bt2 ?_ _; assumption) | (refine bt2 (Below.drew ?_) _; assumption) | (refine Below.drew (bt2 ?_ _); assumption) | (refine bt2 (bt2 ?_ _) _; assumption) | (refine bt2 (bt2 (Below.drew ?_) _) _; assumption) | (refine bt2 (Below.drew (bt2 ?_ _)) _; assumption) | (refine Below.drew (bt2 (bt2 ?_ _) _); assumption))) hb; clear hb))
              | (go_at_call 10; go_loud (refine (HSN.out _ _ _ _ _).mono ?_; rintro e w17 ⟨v17, rfl, hb⟩; have hb17 : Below V14.heap.size V14 w17 := bt (by (first | assumption | exact (Below.refl _ _).drew | (refine Below.drew ?_; assumption) | exact bt2 (Below.refl _ _).drew _ | exact bt2 (Below.refl _ _) _ | exact (bt2 (Below.refl _ _) _).drew | exact bt2 (bt2 (Below.refl _ _) _) _ | exact (bt2 (bt2 (Below.refl _ _) _) _).drew | (refine bt2 ?_ _; assumption) | (refine bt2 (Below.drew ?_) _; assumption) | (refine Below.drew (bt2 ?_ _); assumption) | (refine bt2 (bt2 ?_ _) _; assumption) | (refine bt2 (bt2 (Below.drew ?_) _) _; assumption) | (refine bt2 (Below.drew (bt2 ?_ _)) _; assumption) | (refine Below.drew (bt2 (bt2 ?_ _) _); assumption))) hb; clear hb)))
          all_goals
            go_wp2_with fail
            go_meet
            exact ⟨rfl, Lib.hid hb17⟩
        case rest =>
        obtain ⟨rfl, hcut⟩ := hcut
        have HB15 := Lib.hid (bt HBT14.out hcut.out)
        clear y0 y1 y2 y3 hcut
        rcases HY.out with ⟨rfl, hz⟩ | ⟨rfl, hz, hz1, hz2⟩
        · subst hz
          as_aux_lemma =>
          go_wp2_with (first
            | (go_at_call 18; go_loud (refine (blk_nil _).mono ?_; rintro e w18 ⟨v18, rfl, rfl⟩))
            | (go_at_call 20; go_loud (refine (row_nil _ _).mono ?_; rintro e w18 ⟨rfl, rfl⟩))
            | (go_at_call 19; go_loud (refine (swr_nil _).mono ?_; rintro e w18 ⟨rfl, rfl⟩)))
          go_ret
          exact ⟨rfl, HB15.out⟩
        · have hzz : (z == z) = true := by simp
          clear hz
          as_aux_lemma =>
          go_wp2_with (first
            | (go_at_call 18; go_loud (refine (blk_nil _).mono ?_; rintro e w18 ⟨v18, rfl, rfl⟩))
            | (go_at_call 20; go_loud (refine (row_nil _ _).mono ?_; rintro e w18 ⟨rfl, rfl⟩))
            | (go_at_call 19; go_loud (refine (swr_nil _).mono ?_; rintro e w18 ⟨rfl, rfl⟩)))
          go_ret
          exact ⟨rfl, HB15.out⟩
end Go.Proofs.YtappfdbmhgifcaaGreatDoor
