/- Contracts of the cipher's Decrypt (written by gen19.py). -/
import Derived.Test.YtpfhfnhbholboaaKro
import Derived.Deep.CutRange
namespace Go.Proofs.Ytpfhfnhbholboaa
open Go.ChangeShapes Go.WideShapes Go.ChangeAt Go.RowKit Go.Shelf
set_option linter.unusedVariables false
set_option linter.unusedSimpArgs false
set_option maxRecDepth 100000
attribute [local go_sem] Oper.semAt_some
attribute [local go_sem ↓] Go.wp_at_zero Go.wp_at_succ

theorem Blk.noncell {w w' : World} {b : Nat} {T : TypeId} {n : Nat} {g : Nat → Value} {row : Option Nat} (h : Blk w b T n g) (hg : w.grownBy w' row) (hr : ∀ r, row = some r → ∃ o : Obj, w.heap[r]? = some o ∧ o.isCells = false) : Blk w' b T n g := by
  unfold Blk
  rw [hg.block b h.lt (fun e => by
    obtain ⟨o, ho, hc⟩ := hr b e.symm
    unfold Blk at h
    rw [h] at ho
    injection ho with ho
    rw [← ho] at hc
    cases hc)]
  exact h
theorem CipA.noncell {w w' : World} {b g cap n : Nat} {W : Nat → Nat → Nat} {row : Option Nat} (h : CipA w b g cap n W) (hg : w.grownBy w' row) (hr : ∀ r, row = some r → ∃ o : Obj, w.heap[r]? = some o ∧ o.isCells = false) : CipA w' b g cap n W := by
  have hlt := h.cip.lt
  obtain ⟨a1, a2, a3, a4, a5, a6, a7, a8, a9⟩ := h
  have hl2 := Nat.lt_of_lt_of_le hlt hg.size
  exact ⟨Nat.lt_of_lt_of_le a1 hg.size, a2, a3, cell_kept a4 hg hr, fun j hj k v hv => cell_kept (a5 j hj k v hv) hg hr, ⟨hl2, fun j hj => cell_kept (a6.2 j hj) hg hr⟩, ⟨hl2, fun j hj => cell_kept (a7.2 j hj) hg hr⟩, ⟨hl2, fun j hj => cell_kept (a8.2 j hj) hg hr⟩, ⟨hl2, fun j hj => cell_kept (a9.2 j hj) hg hr⟩⟩
theorem qRd.put {W : World} {Bx g o len cap l : Nat} {K : Nat → Nat → Nat → Nat} {x : Obj} (h : qRd Bx g o len cap K W) (x' : Obj) (hl : W.heap[l]? = some x) (hx : x.isCells = false) : qRd Bx g o len cap K (W.putObj l x') :=
  ⟨cell_kept h.1 (grownBy_putObj' W l x') (fun r e => by cases e; exact ⟨x, hl, hx⟩), fun j hj k v hv => cell_kept (h.2 j hj k v hv) (grownBy_putObj' W l x') (fun r e => by cases e; exact ⟨x, hl, hx⟩)⟩
theorem cell_but {w w' : World} {b o x : Nat} {v : Value} (h : w.cell? ⟨b, o, none⟩ = some v) (hg : w.grownBy w' (some x)) (hne : b ≠ x) : w'.cell? ⟨b, o, none⟩ = some v :=
  (World.cell?_of_block (w := w) (a := ⟨b, o, none⟩) (hg.block b (block_lt_of_cell h) (fun e => hne (by injection e)))).trans h

theorem ownq_noncell {w w' : World} {base : Nat} {e : TypeId} {v : Value} {n : Nat} {xs : List Value} {row : Option Nat} (h : w.ownsRow base e 1 v n xs) (hg : w.grownBy w' row) (hr : ∀ r, row = some r → ∃ o : Obj, w.heap[r]? = some o ∧ o.isCells = false) : w'.ownsRow base e 1 v n xs := by
  refine h.kept hg ?_
  rcases h.2 with ⟨h2, _⟩ | ⟨g, cap, cur, h1, h2, h3, h4⟩
  · left; rw [h2]; rfl
  · right
    intro e1
    subst h1
    obtain ⟨o, ho, hc⟩ := hr g e1.symm
    rw [h3] at ho
    cases ho
    cases hc

/-- What the rounds have made of the block. -/
def decF (W : Nat → Nat → Nat) (n : Nat) (X : Nat → Nat → Nat) {len : Nat} (pre : List (Fin len)) : Nat → Nat → Nat := pre.foldl (fun s y => thr bxb 3 (mix m14 (adds s (rk W (y.1 + 1))))) (thr bxb 3 (adds X (rk W n)))
theorem decF_snoc (W : Nat → Nat → Nat) (n : Nat) (X : Nat → Nat → Nat) {len : Nat} (pre : List (Fin len)) (y : Fin len) : decF W n X (pre ++ [y]) = thr bxb 3 (mix m14 (adds (decF W n X pre) (rk W (y.1 + 1)))) := by simp [decF]
theorem decF_bd (W : Nat → Nat → Nat) (n : Nat) (X : Nat → Nat → Nat) {len : Nat} (pre : List (Fin len)) : SqB (decF W n X pre) := by
  rcases List.eq_nil_or_concat pre with rfl | ⟨m, x, e⟩
  · exact SqB.thr bxb_lt _ _
  · rw [e, List.concat_eq_append, decF_snoc]; exact SqB.thr bxb_lt _ _
theorem decF_all (W : Nat → Nat → Nat) (n : Nat) (X : Nat → Nat → Nat) (ys : List (Fin (n - 1))) (hl : ys.length = n - 1) (h : qBk (n - 1) ys) : decF W n X ys = decR W n X (n - 1) := by
  have key : ∀ k, k ≤ ys.length → decF W n X (ys.take k) = decR W n X k := by
    intro k
    induction k with
    | zero => intro _; rfl
    | succ k ih =>
      intro hk
      rw [List.take_succ_eq_append_getElem (by omega), decF_snoc, ih (by omega), h.2 k (by omega), decR, show n - 1 - 1 - k + 1 = n - 1 - k by omega]
  have := key ys.length (Nat.le_refl _)
  rw [List.take_length, hl] at this
  exact this
set_option maxHeartbeats 1000000 in
theorem decrypt_nil (a : Option Addr) (L c : Nat) (w : World) (hL : L ≤ 9223372036854775807) :
    Calls Try.prog 14 #[.pointer none, .slice a L c] w fun e w' => e = .returned (.tuple #[.slice none 0 0, .int .i64 1]) ∧ Below w.heap.size w w' := by
  have hz := zeroSq
  have hal : Below w.heap.size w (w.alloc (.cells #[.pointer none] 25)) := (Below.refl _ _).alloc (Nat.le_refl _) _
  have HSQ := Lib.hid (squareOf_nil a L c (w.alloc (.cells #[.pointer none] 25)) hL)
  have HAL := Lib.hid hal
  clear hal
  go_enter Try.func14, Try.ntmps14
  go_wp2_with (first
    | (go_at_call 29; refine HSQ.out.mono ?_; rintro e w1 ⟨rfl, hb1⟩; have HB1 := Lib.hid (bt HAL.out hb1); clear hb1)
    | ((with_reducible show wpList _ _ _ (⟨none, _, _, _, _, _⟩ :: _) _ _); refine wpList_store_row rfl 68 (.tmp 6) (.tmp 15) rfl w1.heap.size noSq rfl rfl _ _ (heap_alloc_new _ _) size_noSq rfl noSq_ones ?_))
  go_ret2
  exact ⟨rfl, below_setRow (HB1.out.alloc HB1.out.size _) HB1.out.size _⟩
set_option maxHeartbeats 1000000 in
theorem decrypt_form (b n : Nat) (W : Nat → Nat → Nat) (a : Option Addr) (L c : Nat) (w : World) (h : Cip w b n W) (hne : L ≠ 16) (hL : L ≤ 9223372036854775807) :
    Calls Try.prog 14 #[.pointer (some ⟨b, 0, none⟩), .slice a L c] w fun e w' => e = .returned (.tuple #[.slice none 0 0, .int .i64 3]) ∧ Below w.heap.size w w' := by
  have hz := zeroSq
  have hal : Below w.heap.size w (w.alloc (.cells #[.pointer (some ⟨b, 0, none⟩)] 25)) := (Below.refl _ _).alloc (Nat.le_refl _) _
  have HSQ := Lib.hid (squareOf_form b n W a L c (w.alloc (.cells #[.pointer (some ⟨b, 0, none⟩)] 25)) (h.on hal) hne hL)
  have HAL := Lib.hid hal
  clear hal
  go_enter Try.func14, Try.ntmps14
  go_wp2_with (first
    | (go_at_call 29; refine HSQ.out.mono ?_; rintro e w1 ⟨rfl, hb1⟩; have HB1 := Lib.hid (bt HAL.out hb1); clear hb1)
    | ((with_reducible show wpList _ _ _ (⟨none, _, _, _, _, _⟩ :: _) _ _); refine wpList_store_row rfl 68 (.tmp 6) (.tmp 15) rfl w1.heap.size noSq rfl rfl _ _ (heap_alloc_new _ _) size_noSq rfl noSq_ones ?_))
  go_ret2
  exact ⟨rfl, below_setRow (HB1.out.alloc HB1.out.size _) HB1.out.size _⟩
set_option maxHeartbeats 8000000 in
theorem decrypt_ok (b n : Nat) (W : Nat → Nat → Nat) (hW : SqB W) (hn : 1 ≤ n) (hn2 : n ≤ 100) (ba oa c : Nat) (l : List Int) (w : World) (h : Cip w b n W) (hl : l.length = 16) (hA : AllB l) (hb : Bs w w.heap.size (some ⟨ba, oa, none⟩) l) (hc : 16 ≤ c) (hcm : c ≤ 9223372036854775807) :
    Calls Try.prog 14 #[.pointer (some ⟨b, 0, none⟩), .slice (some ⟨ba, oa, none⟩) 16 c] w fun e w' => ∃ a, e = .returned (.tuple #[.slice a 16 16, .int .i64 0]) ∧ w'.ownsRow w.heap.size 5 1 (.slice a 16 16) 16 ((outL (dec W n (kw l)) 4).map (Value.int .u8)) ∧ Below w.heap.size w w' := by
  have hz := zeroSq
  have hal0 : Below w.heap.size w (w.alloc (.cells #[.pointer (some ⟨b, 0, none⟩)] 25)) := (Below.refl _ _).alloc (Nat.le_refl _) _
  have HSQ := Lib.hid (squareOf_ok b n W ba oa c l _ (h.on hal0) hl hA ((hb.below hal0).more hal0.size) hc hcm)
  have HXB := Lib.hid (kw_lt hA)
  have HWB := Lib.hid hW
  obtain ⟨g, cap, hca0⟩ := h
  have hcap1 : n + 1 ≤ cap := hca0.2.1
  have hcap2 : cap ≤ 9223372036854775807 := hca0.2.2.1
  have HCA0 := Lib.hid (show CipA _ b g cap n W from CipA.on hca0 hal0)
  have HCC0 := Lib.hid (show (w.alloc (.cells #[.pointer (some ⟨b, 0, none⟩)] 25)).cell? ⟨w.heap.size, 0, none⟩ = some (.pointer (some ⟨b, 0, none⟩)) by rw [World.cell?_alloc_new]; rfl)
  have HAL := Lib.hid hal0
  obtain ⟨X, hX⟩ : ∃ X, X = kw l := ⟨_, rfl⟩
  rw [← hX] at HSQ HXB ⊢
  clear hX hl hA hb hca0 hW hal0
  refine (callsIn_wide (n := 3)).1 ?_
  refine callsIn_of_wp_marks Try.func14 rfl trivial ?_ rfl
  simp only [Try.ntmps14, List.size_toArray, List.length_cons, List.length_nil, Nat.reduceAdd, Nat.reduceSub, Array.replicate_succ, Array.replicate_zero, List.push_toArray, List.append_toArray, List.nil_append, List.cons_append]
  refine wpIn_wide.2 ?_
  go_upto_region 4 with (first
    | (go_at_call 29; refine HSQ.out.mono ?_; rintro e w1 ⟨rfl, hb1⟩; have HB1 := Lib.hid (bt HAL.out hb1); have HCA1 := Lib.hid (HCA0.out.on hb1); have HCC1 := Lib.hid ((hb1.cell (p := ⟨w.heap.size, 0, none⟩) (block_lt_of_cell HCC0.out)).trans HCC0.out); clear hb1)
    | ((with_reducible show wpList _ _ _ (⟨none, _, _, _, _, _⟩ :: _) _ _); refine wpList_store_row rfl 68 (.tmp 6) (.tmp 15) rfl w1.heap.size (sqV X) rfl rfl _ _ (heap_alloc_new _ _) (size_sqVi _) (by rw [size_sqV]; exact size_tabV _ _) (sqV_ones X) ?_))
  obtain ⟨b6, hb6⟩ : ∃ b, b = w1.heap.size := ⟨_, rfl⟩
  obtain ⟨bc, hbc⟩ : ∃ b, b = w.heap.size := ⟨_, rfl⟩
  obtain ⟨CW, hCW⟩ : ∃ C, C = (w1.alloc (.cells noSq 68)).setRow w1.heap.size (sqV X) := ⟨_, rfl⟩
  have hal : Below w1.heap.size w1 (w1.alloc (.cells noSq 68)) := (Below.refl _ _).alloc (Nat.le_refl _) _
  have hbs : Below w1.heap.size w1 CW := by rw [hCW]; exact below_setRow hal (Nat.le_refl _) _
  have HBC := Lib.hid (show Below w.heap.size w CW from bt HB1.out hbs)
  have HCA := Lib.hid (show CipA CW b g cap n W from HCA1.out.on hbs)
  have HCC := Lib.hid (show CW.cell? ⟨bc, 0, none⟩ = some (.pointer (some ⟨b, 0, none⟩)) by rw [hbc]; exact (hbs.cell (p := ⟨w.heap.size, 0, none⟩) (block_lt_of_cell HCC1.out)).trans HCC1.out)
  have HX6 := Lib.hid (show Blk CW b6 68 4 (sqc X) by rw [hCW, hb6]; exact Blk.row (Blk.made w1 68 4 (fun _ => .int .u32 0)) (sqc X))
  have HB6L := Lib.hid (show b6 < CW.heap.size from HX6.out.lt)
  have HB6W := Lib.hid (show w.heap.size ≤ b6 by rw [hb6]; exact HB1.out.size)
  have HNE := Lib.hid (show b ≠ b6 ∧ g ≠ b6 ∧ bc ≠ b6 by have := HCA1.out.cip.lt; have := HCA1.out.1; have h3 : w.heap.size < w1.heap.size := block_lt_of_cell HCC1.out; rw [hb6, hbc]; omega)
  have HRNG := Lib.hid (show CW.rangeAt g (n * 4) (sqL4 (rk W n)) by
    have h := HCA.out.2.2.2.2.1 n (Nat.le_refl _)
    rw [show 4 * n = n * 4 by omega] at h
    exact h)
  have hcc := HCC.out
  rw [← hCW, ← hb6, ← hbc]
  have HBCW := Lib.hid (show w.heap.size ≤ bc by rw [hbc]; exact Nat.le_refl _)
  clear hb6 hCW hal hbs hz hbc
  have HRO := Lib.hid (fun W' (hW' : Cip W' b n W) => rounds_cip b n W W' hW')
  go_upto_region 5 with (go_at_call 16; refine (HRO.out _ HCA.out.cip).mono ?_; rintro e w' ⟨rfl, rfl⟩)
  clear hcc
  have qn4 : (n : Int) < (n : Int) + 1 := by omega
  have qn5 : (0 : Int) ≤ (n : Int) := by omega
  go_wp2_with fail
  refine wp_onlyN ?_
  refine wp_region_held_drew (S := fun W => CW.grownBy W (some b6)) (by kernel_rfl) (drew_but _ _) (fun hHeld => ?_)
  refine wpAnyH_take (i := 1) (oi := { dst := some 23, op := Op.load 25 (Operand.tmp 2), type := 25, pos := "cipher.go:219", after := #[], guard := none }) (v := ?v1a1) rfl (by kernel_rfl) (by kernel_rfl) (by kernel_rfl) (fun _ _ _ h => h) (Or.inl ⟨by rfl, ?hy1a1⟩) hHeld ?rest1a1
  case hy1a1 =>
    intro W' hV
    try dsimp only at hV
    have hcc := cell_but HCC.out hV HNE.out.2.2
    go_simp
    all_goals with_reducible rfl
  case' rest1a1 => try simp only [Act.put, List.setIfInBounds_toArray, List.set_cons_zero, List.set_cons_succ]
  refine wpAnyH_take (i := 2) (oi := { dst := some 24, op := Op.nilCheck (Operand.tmp 23), type := 0, pos := "cipher.go:219", after := #[{ on := 1, ground := Ground.data }], guard := none }) (v := ?v2a2) rfl (by kernel_rfl) (by kernel_rfl) (by kernel_rfl) (fun _ _ _ h => h) (Or.inl ⟨by rfl, ?hy2a2⟩) hHeld ?rest2a2
  case hy2a2 =>
    intro W' hV
    try dsimp only at hV
    go_simp
    all_goals with_reducible rfl
  case' rest2a2 => try simp only [Act.put, List.setIfInBounds_toArray, List.set_cons_zero, List.set_cons_succ]
  refine wpAnyH_take (i := 3) (oi := { dst := some 25, op := Op.fieldAddr 59 (Operand.tmp 24) 0, type := 0, pos := "cipher.go:219", after := #[{ on := 2, ground := Ground.data }], guard := none }) (v := ?v3a3) rfl (by kernel_rfl) (by kernel_rfl) (by kernel_rfl) (fun _ _ _ h => h) (Or.inl ⟨by rfl, ?hy3a3⟩) hHeld ?rest3a3
  case hy3a3 =>
    intro W' hV
    try dsimp only at hV
    go_simp
    all_goals with_reducible rfl
  case' rest3a3 => try simp only [Act.put, List.setIfInBounds_toArray, List.set_cons_zero, List.set_cons_succ]
  refine wpAnyH_take (i := 4) (oi := { dst := some 26, op := Op.load 57 (Operand.tmp 25), type := 57, pos := "cipher.go:219", after := #[{ on := 3, ground := Ground.data }], guard := none }) (v := ?v4a4) rfl (by kernel_rfl) (by kernel_rfl) (by kernel_rfl) (fun _ _ _ h => h) (Or.inl ⟨by rfl, ?hy4a4⟩) hHeld ?rest4a4
  case hy4a4 =>
    intro W' hV
    try dsimp only at hV
    have hca := (HCA.out.but hV HNE.out.1 HNE.out.2.1).2.2.2.1
    go_simp
    all_goals with_reducible rfl
  case' rest4a4 => try simp only [Act.put, List.setIfInBounds_toArray, List.set_cons_zero, List.set_cons_succ]
  refine wpAnyH_take (i := 5) (oi := { dst := some 27, op := Op.move (Operand.tmp 8), type := 3, pos := "cipher.go:219", after := #[], guard := none }) (v := ?v5a5) rfl (by kernel_rfl) (by kernel_rfl) (by kernel_rfl) (fun _ _ _ h => h) (Or.inl ⟨by rfl, ?hy5a5⟩) hHeld ?rest5a5
  case hy5a5 =>
    intro W' hV
    try dsimp only at hV
    go_simp
    all_goals with_reducible rfl
  case' rest5a5 => try simp only [Act.put, List.setIfInBounds_toArray, List.set_cons_zero, List.set_cons_succ]
  refine wpAnyH_take (i := 6) (oi := { dst := some 28, op := Op.indexAddr 57 (Operand.tmp 26) (Operand.tmp 27), type := 0, pos := "cipher.go:219", after := #[{ on := 4, ground := Ground.data }, { on := 5, ground := Ground.data }], guard := none }) (v := ?v6a6) rfl (by kernel_rfl) (by kernel_rfl) (by kernel_rfl) (fun _ _ _ h => h) (Or.inl ⟨by rfl, ?hy6a6⟩) hHeld ?rest6a6
  case hy6a6 =>
    intro W' hV
    try dsimp only at hV
    go_simp
    all_goals with_reducible rfl
  case' rest6a6 => try simp only [Act.put, List.setIfInBounds_toArray, List.set_cons_zero, List.set_cons_succ]
  refine wpAnyH_take (i := 7) (oi := { dst := some 29, op := Op.load 68 (Operand.tmp 28), type := 68, pos := "cipher.go:219", after := #[{ on := 6, ground := Ground.data }], guard := none }) (v := .agg (sqL4 (rk W n)).toArray) rfl (by kernel_rfl) (by kernel_rfl) (by kernel_rfl) (fun _ _ _ h => h) (yieldsIf_load_mid (by rfl) 68 (.tmp 28) rfl g (n * 4) (by rfl) (sqL4 (rk W n)) _ (fun W hS => rangeAt.but HRNG.out hS HCA.out.1 HNE.out.2.1) Try.underlying68 rfl (size_sqL4 _)) hHeld ?rest7a7
  case' rest7a7 => try simp only [Act.put, List.setIfInBounds_toArray, List.set_cons_zero, List.set_cons_succ]
  refine wpAnyH_take (i := 9) (oi := { dst := some 31, op := Op.load 25 (Operand.tmp 2), type := 25, pos := "cipher.go:219", after := #[], guard := none }) (v := ?v9a8) rfl (by kernel_rfl) (by kernel_rfl) (by kernel_rfl) (fun _ _ _ h => h) (Or.inl ⟨by rfl, ?hy9a8⟩) hHeld ?rest9a8
  case hy9a8 =>
    intro W' hV
    try dsimp only at hV
    have hcc := cell_but HCC.out hV HNE.out.2.2
    go_simp
    all_goals with_reducible rfl
  case' rest9a8 => try simp only [Act.put, List.setIfInBounds_toArray, List.set_cons_zero, List.set_cons_succ]
  refine wpAnyH_take (i := 10) (oi := { dst := some 32, op := Op.nilCheck (Operand.tmp 31), type := 0, pos := "cipher.go:219", after := #[{ on := 9, ground := Ground.data }], guard := none }) (v := ?v10a9) rfl (by kernel_rfl) (by kernel_rfl) (by kernel_rfl) (fun _ _ _ h => h) (Or.inl ⟨by rfl, ?hy10a9⟩) hHeld ?rest10a9
  case hy10a9 =>
    intro W' hV
    try dsimp only at hV
    go_simp
    all_goals with_reducible rfl
  case' rest10a9 => try simp only [Act.put, List.setIfInBounds_toArray, List.set_cons_zero, List.set_cons_succ]
  refine wpAnyH_take (i := 11) (oi := { dst := some 33, op := Op.fieldAddr 59 (Operand.tmp 32) 2, type := 0, pos := "cipher.go:219", after := #[{ on := 10, ground := Ground.data }], guard := none }) (v := ?v11a10) rfl (by kernel_rfl) (by kernel_rfl) (by kernel_rfl) (fun _ _ _ h => h) (Or.inl ⟨by rfl, ?hy11a10⟩) hHeld ?rest11a10
  case hy11a10 =>
    intro W' hV
    try dsimp only at hV
    go_simp
    all_goals with_reducible rfl
  case' rest11a10 => try simp only [Act.put, List.setIfInBounds_toArray, List.set_cons_zero, List.set_cons_succ]
  refine wpAnyH_ready (rs := [0]) (by kernel_rfl) (by simp) ?_
  refine AllReadyH.cons (o := { dst := some 22, op := Op.load 68 (Operand.tmp 6), type := 68, pos := "cipher.go:219", after := #[], guard := none }) rfl (fun K' hK => ?_) AllReadyH.nil
  rw [if_pos (by rfl)]
  refine wp_load_row 68 (.tmp 6) rfl b6 (by rfl) _ (sqV X) _ _ HX6.out Try.underlying68 rfl (size_sqVi X) ?_
  refine hK.out _ _ hHeld (fun hHeld1 => ?_)
  clear hK K' hHeld
  have hHeld := hHeld1
  clear hHeld1
  try simp only [Act.put, List.setIfInBounds_toArray, List.set_cons_zero, List.set_cons_succ]
  refine wpAnyH_ready (rs := [8]) (by kernel_rfl) (by simp) ?_
  refine AllReadyH.cons (o := { dst := some 30, op := Op.call { callee := Callee.value (Operand.func 30), args := #[Operand.tmp 22, Operand.tmp 29], argTypes := #[68, 68] }, type := 68, pos := "cipher.go:219", after := #[{ on := 0, ground := Ground.data }, { on := 7, ground := Ground.data }], guard := none }) rfl (fun K' hK => ?_) AllReadyH.nil
  rw [if_pos (by rfl)]
  go_simp
  go_wp2_with (go_at_call 30; refine (sqPlus_any X (rk W n) HXB.out (HWB.out.rk n) _).mono ?_; rintro e w30 ⟨rfl, hb⟩)
  have hg : CW.grownBy w30 (some b6) := hHeld.trans (below_but hb _)
  have HG30 := Lib.hid hg
  have HX30 := Lib.hid (show Blk w30 b6 68 4 (sqc X) from Blk.on (w := CW.drew) HX6.out hb HB6L.out)
  clear hb hg
  refine hK.out _ _ HG30.out (fun hHeld1 => ?_)
  clear hK K' hHeld
  have hHeld := hHeld1
  clear hHeld1
  try simp only [Act.put, List.setIfInBounds_toArray, List.set_cons_zero, List.set_cons_succ]
  refine wpAnyH_ready (rs := [12]) (by kernel_rfl) (by simp) ?_
  refine AllReadyH.cons (o := { dst := some 34, op := Op.call { callee := Callee.value (Operand.func 31), args := #[Operand.tmp 30, Operand.tmp 33, Operand.const (Value.int IntKind.i64 (-1))], argTypes := #[68, 66, 3] }, type := 68, pos := "cipher.go:219", after := #[{ on := 8, ground := Ground.data }, { on := 11, ground := Ground.data }, { on := 8, ground := Ground.chain }], guard := none }) rfl (fun K' hK => ?_) AllReadyH.nil
  rw [if_pos (by rfl)]
  go_simp
  go_wp2_with (go_at_call 31; refine (sqThrough_any (adds X (rk W n)) (HXB.out.adds (HWB.out.rk n)) b 257 bxb bxb_lt (-1) 3 (.inr ⟨rfl, rfl⟩) _ (HCA.out.but hHeld HNE.out.1 HNE.out.2.1).2.2.2.2.2.2.1).mono ?_; rintro e w34 ⟨rfl, hb⟩)
  have hg : CW.grownBy w34 (some b6) := hHeld.trans (below_but hb _)
  have HG34 := Lib.hid hg
  have HX34 := Lib.hid (show Blk w34 b6 68 4 (sqc X) from HX30.out.on hb HX30.out.lt)
  clear hb hg
  refine hK.out _ _ HG34.out (fun hHeld1 => ?_)
  clear hK K' hHeld
  have hHeld := hHeld1
  clear hHeld1
  try simp only [Act.put, List.setIfInBounds_toArray, List.set_cons_zero, List.set_cons_succ]
  refine wpAnyH_ready (rs := [13]) (by kernel_rfl) (by simp) ?_
  refine AllReadyH.cons (o := { dst := none, op := Op.store 68 (Operand.tmp 6) (Operand.tmp 34), type := 0, pos := "cipher.go:219", after := #[{ on := 12, ground := Ground.data }, { on := 12, ground := Ground.chain }, { on := 0, ground := Ground.phase }, { on := 1, ground := Ground.phase }, { on := 2, ground := Ground.phase }, { on := 3, ground := Ground.phase }, { on := 4, ground := Ground.phase }, { on := 5, ground := Ground.phase }, { on := 6, ground := Ground.phase }, { on := 7, ground := Ground.phase }, { on := 8, ground := Ground.phase }, { on := 9, ground := Ground.phase }, { on := 10, ground := Ground.phase }, { on := 11, ground := Ground.phase }, { on := 12, ground := Ground.phase }], guard := none }) rfl (fun K' hK => ?_) AllReadyH.nil
  rw [if_pos (by rfl)]
  refine wp_store_row 68 (.tmp 6) (.tmp 34) rfl b6 (sqV (thr bxb 3 (adds X (rk W n)))) (by rfl) (by rfl) _ _ HX34.out (size_sqVi _) (sq_sizes _ _) (sqV_ones _) ?_
  refine hK.out _ _ (HG34.out.trans (setRow_but w34 b6 _)) (fun hHeld1 => ?_)
  clear hK K' hHeld
  have hHeld := hHeld1
  clear hHeld1
  try simp only [Act.put, List.setIfInBounds_toArray, List.set_cons_zero, List.set_cons_succ]
  refine wpAnyH_done (by kernel_rfl) ?_ _
  clear hHeld
  dsimp only [onlyN]
  obtain ⟨C5, hC5⟩ : ∃ C, C = w34.setRow b6 (sqV (thr bxb 3 (adds X (rk W n)))) := ⟨_, rfl⟩
  have HG5 := Lib.hid (show CW.grownBy C5 (some b6) by rw [hC5]; exact HG34.out.trans (setRow_but w34 b6 _))
  have HX5 := Lib.hid (show Blk C5 b6 68 4 (sqc (decR W n X 0)) by rw [hC5]; exact HX34.out.row _)
  rw [← hC5]
  have hca5 := (HCA.out.but HG5.out HNE.out.1 HNE.out.2.1).2.2.2.1
  have hcc5 := cell_but HCC.out HG5.out HNE.out.2.2
  have qn1 : (1 : Int) ≤ (n : Int) := by omega
  have qn2 : (n : Int) ≤ (cap : Int) := by omega
  have qn3 : (cap : Int) ≤ 9223372036854775807 := by omega
  clear hC5 HX6 HX34 HG34 HX30 HG30
  go_wp2_with (go_at_call 34; refine (backq_any (.slice none 0 0) _ _ _ _).mono ?_; rintro e w' ⟨rfl, rfl⟩)
  obtain ⟨bx, hbx⟩ : ∃ b, b = C5.heap.size := ⟨_, rfl⟩
  obtain ⟨WR, hWR⟩ : ∃ C, C = C5.alloc (.cells #[.slice (some ⟨g, 4, none⟩) (n - 1) (cap - 1)] 57) := ⟨_, rfl⟩
  have hbe : Below C5.heap.size C5 WR := by rw [hWR]; exact (Below.refl _ _).alloc (Nat.le_refl _) _
  have HSZ := Lib.hid (show WR.heap.size = bx + 1 by rw [hWR, hbx]; simp)
  have HCA5 := Lib.hid (HCA.out.but HG5.out HNE.out.1 HNE.out.2.1)
  have HCAR := Lib.hid (HCA5.out.on hbe)
  have HCCR := Lib.hid ((hbe.cell (p := ⟨bc, 0, none⟩) (block_lt_of_cell hcc5)).trans hcc5)
  have HXR := Lib.hid (HX5.out.on hbe HX5.out.lt)
  have HBR := Lib.hid (show Below w.heap.size w WR from bt (HBC.out.trans (but_below HG5.out HB6W.out HBC.out.size)) hbe)
  have HQR := Lib.hid (show qRd bx g 4 (n - 1) (cap - 1) (fun j => rk W (j + 1)) WR from ⟨by rw [hWR, hbx, World.cell?_alloc_new]; rfl, fun j hj => by
    have h := HCAR.out.2.2.2.2.1 (j + 1) (by omega)
    rw [show 4 * (j + 1) = 4 + j * 4 by omega] at h
    exact h⟩)
  have HNX := Lib.hid (show b6 < bx ∧ g < bx ∧ b < bx ∧ bc < bx by have h1 := HX5.out.lt; have h2 := HCA5.out.1; have h3 := HCA5.out.cip.lt; have h4 := block_lt_of_cell hcc5; rw [hbx]; simp at h4; omega)
  rw [← hWR, ← hbx]
  clear hWR hbx hbe hca5 hcc5
  refine (wpIn_wide (n := 3)).1 ?_
  refine wpIn_rangeFunc_ownH rfl (by omega) (gf := 54) (lb := #[.pointer (some ⟨bx, 0, none⟩)]) rfl trivial (enters_of Try.func54 (by kernel_rfl) rfl)
    (backq_stops Fence.wide (3 - 1) trivial rfl (by omega) bx g 4 (n - 1) (cap - 1) (fun j => rk W (j + 1)) (by omega) WR (by rw [HSZ.out]; omega) (by rw [HSZ.out]; have := HNX.out; omega) HQR.out) (fun h k r => k (h r)) (fun W l o o' _ hl ho _ r => r.put o' hl ho) (Below.refl _ _) (fun _ => by rfl)
    (fun pre V => ((Blk V b6 68 4 (sqc (decF W n X pre)) ∧ V.cell? ⟨bc, 0, none⟩ = some (.pointer (some ⟨b, 0, none⟩))) ∧ CipA V b g cap n W) ∧ Below w.heap.size w V)
    (fun _ _ _ => False)
    (OwnFrom.and (Own.from (fun s A B row hs hg hr => ⟨⟨hs.1.1.noncell hg hr, cell_kept hs.1.2 hg hr⟩, hs.2.noncell hg hr⟩) _) (ownFrom_below (Nat.le_refl _) HBR.out.size))
    (fun _ _ _ _ _ hs _ _ => hs)
    ⟨⟨⟨HXR.out, HCCR.out⟩, HCAR.out⟩, HBR.out⟩
    (fun (x : Fin (n - 1)) a' V => ∃ Bx, Bx ≠ b6 ∧ Blk V Bx 68 4 (sqc (rk W (x.1 + 1))) ∧ a' = { tmps := #[.pointer (some ⟨b, 0, none⟩), .slice (some ⟨ba, oa, none⟩) 16 c, .pointer (some ⟨bc, 0, none⟩), undef, .slice none 0 0, .int .i64 0, .pointer (some ⟨b6, 0, none⟩), .int .i64 0, .int .i64 (n : Nat), undef,
      .pointer (some ⟨Bx, 0, none⟩), .tuple #[.agg (sqV X), .int .i64 0], .pointer (some ⟨b, 0, none⟩), .slice (some ⟨ba, oa, none⟩) 16 c, .tuple #[.agg (sqV X), .int .i64 0], .agg (sqV X), .int .i64 0, .int .i64 0, .bool false, undef, .pointer (some ⟨b, 0, none⟩),
      .int .i64 (n : Nat), .agg (sqV X), .pointer (some ⟨b, 0, none⟩), .pointer (some ⟨b, 0, none⟩), .pointer (some ⟨b, 0, none⟩), .slice (some ⟨g, 0, none⟩) (n + 1) cap, .int .i64 (n : Nat), .pointer (some ⟨g, n * 4, none⟩), .agg (sqL4 (rk W n)).toArray, .agg (sqV (adds X (rk W n))), .pointer (some ⟨b, 0, none⟩),
      .pointer (some ⟨b, 0, none⟩), .pointer (some ⟨b, 257, none⟩), .agg (sqV (thr bxb 3 (adds X (rk W n)))), .pointer (some ⟨b, 0, none⟩), .pointer (some ⟨b, 0, none⟩), .pointer (some ⟨b, 0, none⟩), .slice (some ⟨g, 0, none⟩) (n + 1) cap, .int .i64 (n : Nat), .slice (some ⟨g, 4, none⟩) (n - 1) (cap - 1),
      .func (.func 54) #[] #[.pointer (some ⟨bx, 0, none⟩)], .int .i64 ((x.1 : Nat) : Int), .agg (sqL4 (rk W (x.1 + 1))).toArray, undef, undef, undef, undef, undef, undef, undef, undef, undef, undef, undef, undef, undef, undef, undef, undef, undef, undef, undef, undef], defers := [] })
    (fun x a' _ A B row hs hg hr => by obtain ⟨Bx, h1, h2, h3⟩ := hs; exact ⟨Bx, h1, h2.noncell hg (fun r e => (hr r e).2), h3⟩)
    ?assign ?body ?done ?stop
  case assign =>
    rintro l pre x V K ⟨⟨⟨h1, h2⟩, h3⟩, hB⟩ hK
    have hz := zeroSq
    have hsq := size_noSq
    have hlen : (sqL4 (rk W (x.1 + 1))).length = 4 := by simp [sqL4]
    have hst := run_storeCells_new (P := Try.prog) V 68 noSq (sqL4 (rk W (x.1 + 1))).toArray (size_sqVi (rk W (x.1 + 1))) (by rw [show noSq.size = 4 from size_tabV _ _]; simp [sqL4]) (sqV_ones (rk W (x.1 + 1)))
    dsimp only [qItv]
    gi_wp2
    exact hK _ _ ((KeepsOthers.alloc _ _).from _) (fun hq => hq.on ((Below.refl V.heap.size V).alloc (Nat.le_refl _) _) (block_lt_of_cell hq.1) h3.1)
      ⟨⟨⟨h1.on ((Below.refl V.heap.size V).alloc (Nat.le_refl _) _) h1.lt, (((Below.refl V.heap.size V).alloc (Nat.le_refl _) _).cell (p := ⟨bc, 0, none⟩) (block_lt_of_cell h2)).trans h2⟩, h3.on ((Below.refl _ _).alloc (Nat.le_refl _) _)⟩, hB.alloc hB.size _⟩
      ⟨V.heap.size, by have := h1.lt; omega, Blk.made V _ 4 (sqc (rk W (x.1 + 1))), rfl⟩
  case body =>
    rintro l pre x a' V hl ⟨r, hr⟩ ⟨⟨⟨h1, h2⟩, h3⟩, hB⟩ ⟨Bx, hBx, hBk, rfl⟩ hlt
    have HE := Lib.hid (decF_bd W n X pre)
    have HS := Lib.hid (decF_snoc W n X pre x)
    obtain ⟨E, hE⟩ : ∃ E, E = decF W n X pre := ⟨_, rfl⟩
    rw [← hE] at h1 HE HS
    have H1 := Lib.hid h1
    have H2 := Lib.hid h2
    have H3 := Lib.hid h3
    have HB := Lib.hid hB
    have HKB := Lib.hid hBk
    have HNB := Lib.hid hBx
    obtain ⟨y, hy⟩ : ∃ y, y = x.1 + 1 := ⟨_, rfl⟩
    rw [← hy] at HS HKB ⊢
    clear hE h1 h2 h3 hB hBk hBx hy
    gi_wp2
    refine round_held (fun U => V.grownBy U (some b6)) (by kernel_rfl) (by kernel_rfl) (fun ⟨_, _, h⟩ => h) ?_
    have hHeld : V.grownBy V.drew (some b6) := drew_but _ _
    refine wpAnyH_take (i := 3) (oi := { dst := some 47, op := Op.load 25 (Operand.tmp 2), type := 25, pos := "cipher.go:221", after := #[], guard := none }) (v := ?v3b1) rfl (by kernel_rfl) (by kernel_rfl) (by kernel_rfl) (fun _ _ _ h => h) (Or.inl ⟨by rfl, ?hy3b1⟩) hHeld ?rest3b1
    case hy3b1 =>
      intro W' hV
      try dsimp only at hV
      have hcc := cell_but H2.out hV HNE.out.2.2
      go_simp
      all_goals with_reducible rfl
    case' rest3b1 => try simp only [Act.put, List.setIfInBounds_toArray, List.set_cons_zero, List.set_cons_succ]
    refine wpAnyH_take (i := 4) (oi := { dst := some 48, op := Op.nilCheck (Operand.tmp 47), type := 0, pos := "cipher.go:221", after := #[{ on := 3, ground := Ground.data }], guard := none }) (v := ?v4b2) rfl (by kernel_rfl) (by kernel_rfl) (by kernel_rfl) (fun _ _ _ h => h) (Or.inl ⟨by rfl, ?hy4b2⟩) hHeld ?rest4b2
    case hy4b2 =>
      intro W' hV
      try dsimp only at hV
      go_simp
      all_goals with_reducible rfl
    case' rest4b2 => try simp only [Act.put, List.setIfInBounds_toArray, List.set_cons_zero, List.set_cons_succ]
    refine wpAnyH_take (i := 5) (oi := { dst := some 49, op := Op.fieldAddr 59 (Operand.tmp 48) 4, type := 0, pos := "cipher.go:221", after := #[{ on := 4, ground := Ground.data }], guard := none }) (v := ?v5b3) rfl (by kernel_rfl) (by kernel_rfl) (by kernel_rfl) (fun _ _ _ h => h) (Or.inl ⟨by rfl, ?hy5b3⟩) hHeld ?rest5b3
    case hy5b3 =>
      intro W' hV
      try dsimp only at hV
      go_simp
      all_goals with_reducible rfl
    case' rest5b3 => try simp only [Act.put, List.setIfInBounds_toArray, List.set_cons_zero, List.set_cons_succ]
    refine wpAnyH_take (i := 7) (oi := { dst := some 51, op := Op.load 25 (Operand.tmp 2), type := 25, pos := "cipher.go:221", after := #[], guard := none }) (v := ?v7b4) rfl (by kernel_rfl) (by kernel_rfl) (by kernel_rfl) (fun _ _ _ h => h) (Or.inl ⟨by rfl, ?hy7b4⟩) hHeld ?rest7b4
    case hy7b4 =>
      intro W' hV
      try dsimp only at hV
      have hcc := cell_but H2.out hV HNE.out.2.2
      go_simp
      all_goals with_reducible rfl
    case' rest7b4 => try simp only [Act.put, List.setIfInBounds_toArray, List.set_cons_zero, List.set_cons_succ]
    refine wpAnyH_take (i := 8) (oi := { dst := some 52, op := Op.nilCheck (Operand.tmp 51), type := 0, pos := "cipher.go:221", after := #[{ on := 7, ground := Ground.data }], guard := none }) (v := ?v8b5) rfl (by kernel_rfl) (by kernel_rfl) (by kernel_rfl) (fun _ _ _ h => h) (Or.inl ⟨by rfl, ?hy8b5⟩) hHeld ?rest8b5
    case hy8b5 =>
      intro W' hV
      try dsimp only at hV
      go_simp
      all_goals with_reducible rfl
    case' rest8b5 => try simp only [Act.put, List.setIfInBounds_toArray, List.set_cons_zero, List.set_cons_succ]
    refine wpAnyH_take (i := 9) (oi := { dst := some 53, op := Op.fieldAddr 59 (Operand.tmp 52) 2, type := 0, pos := "cipher.go:221", after := #[{ on := 8, ground := Ground.data }], guard := none }) (v := ?v9b6) rfl (by kernel_rfl) (by kernel_rfl) (by kernel_rfl) (fun _ _ _ h => h) (Or.inl ⟨by rfl, ?hy9b6⟩) hHeld ?rest9b6
    case hy9b6 =>
      intro W' hV
      try dsimp only at hV
      go_simp
      all_goals with_reducible rfl
    case' rest9b6 => try simp only [Act.put, List.setIfInBounds_toArray, List.set_cons_zero, List.set_cons_succ]
    refine wpAnyH_take (i := 1) (oi := { dst := some 45, op := Op.load 68 (Operand.tmp 10), type := 68, pos := "cipher.go:221", after := #[], guard := none }) (v := .agg (sqL4 (rk W y)).toArray) rfl (by kernel_rfl) (by kernel_rfl) (by kernel_rfl) (fun _ _ _ h => h) (yieldsIf_load_mid (by rfl) 68 (.tmp 10) rfl Bx 0 (by rfl) (sqL4 (rk W y)) _ (fun U hS => rangeAt.but HKB.out.range hS HKB.out.lt HNB.out) Try.underlying68 rfl (size_sqL4 _)) hHeld ?rest1b7
    case' rest1b7 => try simp only [Act.put, List.setIfInBounds_toArray, List.set_cons_zero, List.set_cons_succ]
    refine wpAnyH_ready (rs := [0]) (by kernel_rfl) (by simp) ?_
    refine AllReadyH.cons (o := { dst := some 44, op := Op.load 68 (Operand.tmp 6), type := 68, pos := "cipher.go:221", after := #[], guard := none }) rfl (fun K' hK => ?_) AllReadyH.nil
    rw [if_pos (by rfl)]
    refine wp_load_row 68 (.tmp 6) rfl b6 (by rfl) _ (sqV E) _ _ H1.out Try.underlying68 rfl (size_sqVi E) ?_
    refine hK.out _ _ hHeld (fun hHeld1 => ?_)
    clear hK K' hHeld
    have hHeld := hHeld1
    clear hHeld1
    try simp only [Act.put, List.setIfInBounds_toArray, List.set_cons_zero, List.set_cons_succ]
    refine wpAnyH_ready (rs := [2]) (by kernel_rfl) (by simp) ?_
    refine AllReadyH.cons (o := { dst := some 46, op := Op.call { callee := Callee.value (Operand.func 30), args := #[Operand.tmp 44, Operand.tmp 45], argTypes := #[68, 68] }, type := 68, pos := "cipher.go:221", after := #[{ on := 0, ground := Ground.data }, { on := 1, ground := Ground.data }], guard := none }) rfl (fun K' hK => ?_) AllReadyH.nil
    rw [if_pos (by rfl)]
    go_simp
    go_wp2_with (go_at_call 30; refine (sqPlus_any E (rk W y) HE.out (HWB.out.rk y) _).mono ?_; rintro e w46 ⟨rfl, hb⟩)
    have hg : V.grownBy w46 (some b6) := hHeld.trans (below_but hb _)
    have HG46 := Lib.hid hg
    have H46 := Lib.hid (show Blk w46 b6 68 4 (sqc E) from Blk.on (w := V.drew) H1.out hb H1.out.lt)
    clear hb hg
    refine hK.out _ _ HG46.out (fun hHeld1 => ?_)
    clear hK K' hHeld
    have hHeld := hHeld1
    clear hHeld1
    try simp only [Act.put, List.setIfInBounds_toArray, List.set_cons_zero, List.set_cons_succ]
    refine wpAnyH_ready (rs := [6]) (by kernel_rfl) (by simp) ?_
    refine AllReadyH.cons (o := { dst := some 50, op := Op.call { callee := Callee.value (Operand.func 32), args := #[Operand.tmp 46, Operand.tmp 49], argTypes := #[68, 78] }, type := 68, pos := "cipher.go:221", after := #[{ on := 2, ground := Ground.data }, { on := 5, ground := Ground.data }, { on := 2, ground := Ground.chain }], guard := none }) rfl (fun K' hK => ?_) AllReadyH.nil
    rw [if_pos (by rfl)]
    go_simp
    go_wp2_with (go_at_call 32; refine (sqTimes_any (adds E (rk W y)) (HE.out.adds (HWB.out.rk y)) b 769 m14 _ (H3.out.but hHeld HNE.out.1 HNE.out.2.1).2.2.2.2.2.2.2.2).mono ?_; rintro e w50 ⟨rfl, hb⟩)
    have hg : V.grownBy w50 (some b6) := hHeld.trans (below_but hb _)
    have HG50 := Lib.hid hg
    have H50 := Lib.hid (show Blk w50 b6 68 4 (sqc E) from H46.out.on hb H46.out.lt)
    clear hb hg
    refine hK.out _ _ HG50.out (fun hHeld1 => ?_)
    clear hK K' hHeld
    have hHeld := hHeld1
    clear hHeld1
    try simp only [Act.put, List.setIfInBounds_toArray, List.set_cons_zero, List.set_cons_succ]
    refine wpAnyH_ready (rs := [10]) (by kernel_rfl) (by simp) ?_
    refine AllReadyH.cons (o := { dst := some 54, op := Op.call { callee := Callee.value (Operand.func 31), args := #[Operand.tmp 50, Operand.tmp 53, Operand.const (Value.int IntKind.i64 (-1))], argTypes := #[68, 66, 3] }, type := 68, pos := "cipher.go:221", after := #[{ on := 6, ground := Ground.data }, { on := 9, ground := Ground.data }, { on := 6, ground := Ground.chain }], guard := none }) rfl (fun K' hK => ?_) AllReadyH.nil
    rw [if_pos (by rfl)]
    go_simp
    go_wp2_with (go_at_call 31; refine (sqThrough_any (mix m14 (adds E (rk W y))) (SqB.mix _ _) b 257 bxb bxb_lt (-1) 3 (.inr ⟨rfl, rfl⟩) _ (H3.out.but hHeld HNE.out.1 HNE.out.2.1).2.2.2.2.2.2.1).mono ?_; rintro e w54 ⟨rfl, hb⟩)
    have hg : V.grownBy w54 (some b6) := hHeld.trans (below_but hb _)
    have HG54 := Lib.hid hg
    have H54 := Lib.hid (show Blk w54 b6 68 4 (sqc E) from H50.out.on hb H50.out.lt)
    clear hb hg
    refine hK.out _ _ HG54.out (fun hHeld1 => ?_)
    clear hK K' hHeld
    have hHeld := hHeld1
    clear hHeld1
    try simp only [Act.put, List.setIfInBounds_toArray, List.set_cons_zero, List.set_cons_succ]
    refine wpAnyH_ready (rs := [11]) (by kernel_rfl) (by simp) ?_
    refine AllReadyH.cons (o := { dst := none, op := Op.store 68 (Operand.tmp 6) (Operand.tmp 54), type := 0, pos := "cipher.go:221", after := #[{ on := 10, ground := Ground.data }, { on := 10, ground := Ground.chain }, { on := 0, ground := Ground.phase }, { on := 1, ground := Ground.phase }, { on := 2, ground := Ground.phase }, { on := 3, ground := Ground.phase }, { on := 4, ground := Ground.phase }, { on := 5, ground := Ground.phase }, { on := 6, ground := Ground.phase }, { on := 7, ground := Ground.phase }, { on := 8, ground := Ground.phase }, { on := 9, ground := Ground.phase }, { on := 10, ground := Ground.phase }], guard := none }) rfl (fun K' hK => ?_) AllReadyH.nil
    rw [if_pos (by rfl)]
    refine wp_store_row 68 (.tmp 6) (.tmp 54) rfl b6 (sqV (thr bxb 3 (mix m14 (adds E (rk W y))))) (by rfl) (by rfl) _ _ H54.out (size_sqVi _) (sq_sizes _ _) (sqV_ones _) ?_
    refine hK.out _ _ (HG54.out.trans (setRow_but w54 b6 _)) (fun hHeld1 => ?_)
    clear hK K' hHeld
    have hHeld := hHeld1
    clear hHeld1
    try simp only [Act.put, List.setIfInBounds_toArray, List.set_cons_zero, List.set_cons_succ]
    refine wpAnyH_done (by kernel_rfl) ?_ _
    clear hHeld
    gi_wp2
    refine ⟨KeepsFrom.of_grownBy (HG54.out.trans (setRow_but w54 b6 _)) (fun j e => by injection e with e; rw [← e, HSZ.out]; have := HNX.out; omega), fun hq => ?_, ⟨⟨by rw [HS.out]; exact H54.out.row _, cell_but H2.out (HG54.out.trans (setRow_but w54 b6 _)) HNE.out.2.2⟩, H3.out.but (HG54.out.trans (setRow_but w54 b6 _)) HNE.out.1 HNE.out.2.1⟩, HB.out.trans (but_below (HG54.out.trans (setRow_but w54 b6 _)) HB6W.out HB.out.size)⟩
    exact ⟨cell_but hq.1 (HG54.out.trans (setRow_but w54 b6 _)) (by have := HNX.out; omega), fun j hj => rangeAt.but (hq.2 j hj) (HG54.out.trans (setRow_but w54 b6 _)) H3.out.1 HNE.out.2.1⟩
  case done =>
    rintro D ys V hD ⟨hys, hbk⟩ ⟨⟨⟨h1, h2⟩, h3⟩, hB⟩ hK
    rw [decF_all W n X ys hys hbk] at h1
    have hE := decF_bd W n X ys
    rw [decF_all W n X ys hys hbk] at hE
    have HEN := Lib.hid (show dec W n X = adds (decR W n X (n - 1)) (rk W 0) from rfl)
    obtain ⟨E, hEE⟩ : ∃ E, E = decR W n X (n - 1) := ⟨_, rfl⟩
    rw [← hEE] at h1 hE HEN
    have H1 := Lib.hid h1
    have H2 := Lib.hid h2
    have H3 := Lib.hid h3
    have HB := Lib.hid hB
    have HE := Lib.hid hE
    have HKD := Lib.hid hK
    have HDD := Lib.hid hD
    have HRNG0 := Lib.hid (show V.rangeAt g 0 (sqL4 (rk W 0)) from h3.2.2.2.2.1 0 (by omega))
    clear hEE h1 h2 h3 hB hE hK hD
    go_wp2_with fail
    refine wp_onlyN ?_
    refine wp_region_held_drew (S := fun U => Below V.heap.size V U) (by kernel_rfl) (Below.refl _ _).drew (fun hHeld => ?_)
    refine wpAnyH_take (i := 1) (oi := { dst := some 56, op := Op.load 25 (Operand.tmp 2), type := 25, pos := "cipher.go:223", after := #[], guard := none }) (v := ?v1c1) rfl (by kernel_rfl) (by kernel_rfl) (by kernel_rfl) (fun _ _ _ h => h) (Or.inl ⟨by rfl, ?hy1c1⟩) hHeld ?rest1c1
    case hy1c1 =>
      intro W' hV
      try dsimp only at hV
      have hcc := (hV.cell (p := ⟨bc, 0, none⟩) (block_lt_of_cell H2.out)).trans H2.out
      go_simp
      all_goals with_reducible rfl
    case' rest1c1 => try simp only [Act.put, List.setIfInBounds_toArray, List.set_cons_zero, List.set_cons_succ]
    refine wpAnyH_take (i := 2) (oi := { dst := some 57, op := Op.nilCheck (Operand.tmp 56), type := 0, pos := "cipher.go:223", after := #[{ on := 1, ground := Ground.data }], guard := none }) (v := ?v2c2) rfl (by kernel_rfl) (by kernel_rfl) (by kernel_rfl) (fun _ _ _ h => h) (Or.inl ⟨by rfl, ?hy2c2⟩) hHeld ?rest2c2
    case hy2c2 =>
      intro W' hV
      try dsimp only at hV
      go_simp
      all_goals with_reducible rfl
    case' rest2c2 => try simp only [Act.put, List.setIfInBounds_toArray, List.set_cons_zero, List.set_cons_succ]
    refine wpAnyH_take (i := 3) (oi := { dst := some 58, op := Op.fieldAddr 59 (Operand.tmp 57) 0, type := 0, pos := "cipher.go:223", after := #[{ on := 2, ground := Ground.data }], guard := none }) (v := ?v3c3) rfl (by kernel_rfl) (by kernel_rfl) (by kernel_rfl) (fun _ _ _ h => h) (Or.inl ⟨by rfl, ?hy3c3⟩) hHeld ?rest3c3
    case hy3c3 =>
      intro W' hV
      try dsimp only at hV
      go_simp
      all_goals with_reducible rfl
    case' rest3c3 => try simp only [Act.put, List.setIfInBounds_toArray, List.set_cons_zero, List.set_cons_succ]
    refine wpAnyH_take (i := 4) (oi := { dst := some 59, op := Op.load 57 (Operand.tmp 58), type := 57, pos := "cipher.go:223", after := #[{ on := 3, ground := Ground.data }], guard := none }) (v := ?v4c4) rfl (by kernel_rfl) (by kernel_rfl) (by kernel_rfl) (fun _ _ _ h => h) (Or.inl ⟨by rfl, ?hy4c4⟩) hHeld ?rest4c4
    case hy4c4 =>
      intro W' hV
      try dsimp only at hV
      have hca := (H3.out.on hV).2.2.2.1
      go_simp
      all_goals with_reducible rfl
    case' rest4c4 => try simp only [Act.put, List.setIfInBounds_toArray, List.set_cons_zero, List.set_cons_succ]
    refine wpAnyH_take (i := 5) (oi := { dst := some 60, op := Op.indexAddr 57 (Operand.tmp 59) (Operand.const (Value.int IntKind.i64 0)), type := 0, pos := "cipher.go:223", after := #[{ on := 4, ground := Ground.data }], guard := none }) (v := ?v5c5) rfl (by kernel_rfl) (by kernel_rfl) (by kernel_rfl) (fun _ _ _ h => h) (Or.inl ⟨by rfl, ?hy5c5⟩) hHeld ?rest5c5
    case hy5c5 =>
      intro W' hV
      try dsimp only at hV
      go_simp
      all_goals with_reducible rfl
    case' rest5c5 => try simp only [Act.put, List.setIfInBounds_toArray, List.set_cons_zero, List.set_cons_succ]
    refine wpAnyH_take (i := 6) (oi := { dst := some 61, op := Op.load 68 (Operand.tmp 60), type := 68, pos := "cipher.go:223", after := #[{ on := 5, ground := Ground.data }], guard := none }) (v := .agg (sqL4 (rk W 0)).toArray) rfl (by kernel_rfl) (by kernel_rfl) (by kernel_rfl) (fun _ _ _ h => h) (yieldsIf_load_mid (by rfl) 68 (.tmp 60) rfl g 0 (by rfl) (sqL4 (rk W 0)) _ (fun U hS j v hv => (hS.cell (p := ⟨g, 0 + j, none⟩) H3.out.1).trans (HRNG0.out j v hv)) Try.underlying68 rfl (size_sqL4 _)) hHeld ?rest6c6
    case' rest6c6 => try simp only [Act.put, List.setIfInBounds_toArray, List.set_cons_zero, List.set_cons_succ]
    refine wpAnyH_take (i := 0) (oi := { dst := some 55, op := Op.load 68 (Operand.tmp 6), type := 68, pos := "cipher.go:223", after := #[], guard := none }) (v := .agg (sqL4 E).toArray) rfl (by kernel_rfl) (by kernel_rfl) (by kernel_rfl) (fun _ _ _ h => h) (yieldsIf_load_mid (by rfl) 68 (.tmp 6) rfl b6 0 (by rfl) (sqL4 E) _ (fun U hS => (H1.out.on hS H1.out.lt).range) Try.underlying68 rfl (size_sqL4 _)) hHeld ?rest0c7
    case' rest0c7 => try simp only [Act.put, List.setIfInBounds_toArray, List.set_cons_zero, List.set_cons_succ]
    refine wpAnyH_ready (rs := [7]) (by kernel_rfl) (by simp) ?_
    refine AllReadyH.cons (o := { dst := some 62, op := Op.call { callee := Callee.value (Operand.func 30), args := #[Operand.tmp 55, Operand.tmp 61], argTypes := #[68, 68] }, type := 68, pos := "cipher.go:223", after := #[{ on := 0, ground := Ground.data }, { on := 6, ground := Ground.data }], guard := none }) rfl (fun K' hK => ?_) AllReadyH.nil
    rw [if_pos (by rfl)]
    go_simp
    go_wp2_with (go_at_call 30; refine (sqPlus_any E (rk W 0) HE.out (HWB.out.rk _) _).mono ?_; rintro e w62 ⟨rfl, hb⟩)
    have hg : Below V.heap.size V w62 := bt hHeld hb
    have HB62 := Lib.hid hg
    clear hb hg
    refine hK.out _ _ HB62.out (fun hHeld1 => ?_)
    clear hK K' hHeld
    have hHeld := hHeld1
    clear hHeld1
    try simp only [Act.put, List.setIfInBounds_toArray, List.set_cons_zero, List.set_cons_succ]
    refine wpAnyH_ready (rs := [8]) (by kernel_rfl) (by simp) ?_
    refine AllReadyH.cons (o := { dst := some 63, op := Op.call { callee := Callee.value (Operand.func 33), args := #[Operand.tmp 62], argTypes := #[68] }, type := 22, pos := "cipher.go:223", after := #[{ on := 7, ground := Ground.data }, { on := 7, ground := Ground.chain }], guard := none }) rfl (fun K' hK => ?_) AllReadyH.nil
    rw [if_pos (by rfl)]
    go_simp
    go_wp2_with (go_at_call 33; refine (bytes_any (adds E (rk W 0)) (HE.out.adds (HWB.out.rk _)) _).mono ?_; rintro e w63 ⟨a63, rfl, ho, hb⟩)
    have hg : Below V.heap.size V w63 := bt hHeld hb
    have HB63 := Lib.hid hg
    have HO63 := Lib.hid ho
    clear ho
    clear hb hg
    refine hK.out _ _ HB63.out (fun hHeld1 => ?_)
    clear hK K' hHeld
    have hHeld := hHeld1
    clear hHeld1
    try simp only [Act.put, List.setIfInBounds_toArray, List.set_cons_zero, List.set_cons_succ]
    refine wpAnyH_take (i := 9) (oi := { dst := some 4, op := Op.assign (Operand.tmp 63), type := 22, pos := "cipher.go:223", after := #[{ on := 8, ground := Ground.data }, { on := 8, ground := Ground.chain }, { on := 0, ground := Ground.phase }, { on := 1, ground := Ground.phase }, { on := 2, ground := Ground.phase }, { on := 3, ground := Ground.phase }, { on := 4, ground := Ground.phase }, { on := 5, ground := Ground.phase }, { on := 6, ground := Ground.phase }, { on := 7, ground := Ground.phase }, { on := 8, ground := Ground.phase }], guard := none }) (v := ?v9c8) rfl (by kernel_rfl) (by kernel_rfl) (by kernel_rfl) (fun _ _ _ h => h) (Or.inl ⟨by rfl, ?hy9c8⟩) hHeld ?rest9c8
    case hy9c8 =>
      intro W' hV
      try dsimp only at hV
      go_simp
      all_goals with_reducible rfl
    case' rest9c8 => try simp only [Act.put, List.setIfInBounds_toArray, List.set_cons_zero, List.set_cons_succ]
    refine wpAnyH_take (i := 10) (oi := { dst := some 5, op := Op.assign (Operand.const (Value.int IntKind.i64 0)), type := 26, pos := "cipher.go:223", after := #[{ on := 9, ground := Ground.chain }, { on := 0, ground := Ground.phase }, { on := 1, ground := Ground.phase }, { on := 2, ground := Ground.phase }, { on := 3, ground := Ground.phase }, { on := 4, ground := Ground.phase }, { on := 5, ground := Ground.phase }, { on := 6, ground := Ground.phase }, { on := 7, ground := Ground.phase }, { on := 8, ground := Ground.phase }, { on := 9, ground := Ground.phase }], guard := none }) (v := ?v10c9) rfl (by kernel_rfl) (by kernel_rfl) (by kernel_rfl) (fun _ _ _ h => h) (Or.inl ⟨by rfl, ?hy10c9⟩) hHeld ?rest10c9
    case hy10c9 =>
      intro W' hV
      try dsimp only at hV
      go_simp
      all_goals with_reducible rfl
    case' rest10c9 => try simp only [Act.put, List.setIfInBounds_toArray, List.set_cons_zero, List.set_cons_succ]
    refine wpAnyH_done (by kernel_rfl) ?_ _
    clear hHeld
    dsimp only [onlyN]
    have hK9 := (HB63.out.block D (Array.getElem?_eq_some_iff.1 HKD.out).1).trans HKD.out
    go_wp2
    refine ⟨by simp, .inl ⟨_, _, rfl, run_takeDeferred hK9, ?_⟩⟩
    refine ⟨_, results_tmp2 rfl _ _ _, a63, rfl, ?_, ?_⟩
    · rw [HEN.out]
      exact ownq_noncell (own_base HO63.out (by have := HB62.out.size; have := HB.out.size; omega)) (grownBy_putObj' _ D (.deferred none)) (fun r e => by cases e; exact ⟨_, hK9, rfl⟩)
    · exact (bt HB.out HB63.out).trans (belowK_b (w := w) (Nat.le_refl _) _ D _ _ (by have := HBR.out.size; have := HDD.out; omega) hK9 rfl rfl)
  case stop =>
    rintro D c pre V _ _ h _
    exact h.elim
end Go.Proofs.Ytpfhfnhbholboaa
