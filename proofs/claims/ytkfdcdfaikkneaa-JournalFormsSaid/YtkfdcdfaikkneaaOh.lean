/- Contracts of package medium as it landed: slices.DeleteFunc over writes, drop. -/
import Derived.Test.YtkfdcdfaikkneaaOc
namespace Go.Proofs.Ytkfdcdfaikkneaa
open Go.ChangeShapes Go.WideShapes Go.ChangeAt Go.RowKit Go.Shelf
set_option linter.unusedVariables false
set_option linter.unusedSimpArgs false
set_option maxRecDepth 100000
attribute [local go_sem] Oper.semAt_some

/-! ## clear -/
theorem run_clear_any {P : Program} (w : World) (t e ty : TypeId) (z : Value) (ht : P.underlying t = some (.slice e)) (hv : (zeroValue e).run P w = .ok z w) (b o n c : Nat) (hn : 0 < n)
    (hc : ∀ j, j < (Builtin.zeroCells z.cells n).toList.length → (w.cell? ⟨b, o + j, none⟩).isSome = true) (hf : ∀ j, j < (Builtin.zeroCells z.cells n).toList.length → w.frozen? ⟨b, o + j, none⟩ = false) (h1 : ∀ v ∈ (Builtin.zeroCells z.cells n).toList, v.oneCell' = true) :
    (Builtin.clear_ #[t] ty #[.slice (some ⟨b, o, none⟩) n c]).run P w = .ok (.tuple #[]) (w.setCells b o (Builtin.zeroCells z.cells n).toList) := by
  have hst := run_storeCells_cells (P := P) b o (Builtin.zeroCells z.cells n).toList 0 w (by simpa using hc) (by simpa using hf) h1
  simp only [Nat.add_zero] at hst
  obtain ⟨m, rfl⟩ : ∃ m, n = m + 1 := ⟨n - 1, by omega⟩
  simp [Builtin.clear_, run_underlying ht, hv, hst]
theorem wpList_clear_run {P : Program} (w : World) {ops : Array Oper} {rest : List Oper} {o : Oper} {a : Act} {Q : Exit → Act → World → Prop} (hgd : o.guard = none) (s : Operand) (t : TypeId)
    (ho : o.op = .call { callee := .builtin .clear, args := #[s], argTypes := #[t] }) (v : Value) (hs : a.eval s = v) {v' : Value} {w' : World}
    (hr : (Builtin.clear_ #[t] o.type #[v]).run P w = .ok v' w') (h : wpList P ops Q rest (a.put o.dst v') w') : wpList P ops Q (o :: rest) a w := by
  refine wpList_plain hgd fun K hK => ?_
  unfold Oper.wp
  simp [execOp, ho, resolve, invoke, builtin, hs, hr, Result.andThen]
  exact hK _ _ h
theorem zeroWr (w : World) : (zeroValue 86).run Try.prog w = .ok (.agg #[.int .i64 0, .slice none 0 0]) w := by
  have h := infoWr
  cases hq : Try.prog.info? 86 with
  | none => simp [hq] at h
  | some i =>
    simp only [hq, Option.map_some, Option.some.injEq, Prod.mk.injEq] at h
    simp [zeroValue, typeInfo, hq, h.1]
def zcW (n : Nat) : List Value := (Builtin.zeroCells #[.int .i64 0, .slice none 0 0] n).toList
theorem zcW_len (n : Nat) : (zcW n).length = n * 2 := by simp [zcW, Builtin.zeroCells]
theorem zcW_one (n : Nat) : ∀ v ∈ zcW n, v.oneCell' = true := fun v hv => by
  simp [zcW, Builtin.zeroCells] at hv
  obtain ⟨j, _, rfl⟩ := hv
  rcases Nat.mod_two_eq_zero_or_one j with h | h <;> rw [h] <;> rfl

/-! ## rows of one's own, cells behind them -/
theorem own_takeN {w : World} {base s N i g cc : Nat} {e : TypeId} {xs : List Value} (h : w.ownsRow base e s (.slice (some ⟨g, 0, none⟩) N cc) N xs) (hi : i ≤ N) : w.ownsRow base e s (.slice (some ⟨g, 0, none⟩) i cc) i (xs.take (i * s)) := by
  have hm := Nat.mul_le_mul_right s hi
  refine ⟨by rw [List.length_take, h.1]; omega, ?_⟩
  rcases h.2 with ⟨h0, _⟩ | ⟨g', cap, cur, hv, hb, hg, h1, h2, h3, h4⟩
  · cases h0
  · cases hv
    exact .inr ⟨g, cc, cur, rfl, hb, hg, by omega, h2, h3, by rw [← h4, List.take_take, Nat.min_eq_left hm]⟩
theorem own_setBeyond {w : World} {base s i g cc : Nat} {e : TypeId} {xs : List Value} (h : w.ownsRow base e s (.slice (some ⟨g, 0, none⟩) i cc) i xs) {o : Nat} (ho : i * s ≤ o) (v : Value) : (w.setCell ⟨g, o, none⟩ v).ownsRow base e s (.slice (some ⟨g, 0, none⟩) i cc) i xs := by
  refine ⟨h.1, ?_⟩
  rcases h.2 with ⟨h0, _⟩ | ⟨g', cap, cur, hv, hb, hg, h1, h2, h3, h4⟩
  · cases h0
  · cases hv
    refine .inr ⟨g, cc, cur.setIfInBounds o v, rfl, hb, heap_setCell_same w g o _ _ v hg, h1, h2, by rw [Array.size_setIfInBounds, h3], ?_⟩
    rw [← h4, Array.toList_setIfInBounds]
    apply List.ext_getElem?
    intro k
    rw [List.getElem?_take, List.getElem?_take]
    by_cases hk : k < i * s
    · rw [if_pos hk, if_pos hk, List.getElem?_set_ne (by omega)]
    · rw [if_neg hk, if_neg hk]
theorem own_setCellsBeyond {base s i g cc : Nat} {e : TypeId} {xs : List Value} : ∀ (vs : List Value) (o : Nat) (w : World), w.ownsRow base e s (.slice (some ⟨g, 0, none⟩) i cc) i xs → i * s ≤ o → (w.setCells g o vs).ownsRow base e s (.slice (some ⟨g, 0, none⟩) i cc) i xs
  | [], o, w, h, _ => h
  | v :: r, o, w, h, ho => by
    rw [World.setCells]
    exact own_setCellsBeyond r (o + 1) _ (own_setBeyond h ho v) (by omega)
theorem kb_setCells (g : Nat) : ∀ (vs : List Value) (o : Nat) (w : World), KB (fun k => k = g) w (w.setCells g o vs)
  | [], o, w => KB.refl _ _
  | v :: r, o, w => by rw [World.setCells]; exact (KB.of_set w g o v).trans (kb_setCells g r (o + 1) _)

/-! ## DeleteFunc -/
set_option maxHeartbeats 1000000 in
theorem dropF_any (z : ZW) (bx I : Nat) (r : Bool) (w : World) (hb : w.heap[bx]? = some (.cells #[.int .i64 (I : Nat)] 3 (0, 0))) (hr : ((z.1.1 : Int) == (I : Int)) = r) :
    Calls Try.prog 72 #[zA z, .pointer (some ⟨bx, 0, none⟩)] w fun e w' => e = .returned (.bool r) ∧ Below w.heap.size w w' := by
  have hc : w.cell? ⟨bx, 0, none⟩ = some (.int .i64 (I : Nat)) := by rw [cell_of_row w bx 0 _ _ _ hb]; rfl
  have hc2 : (w.alloc (.cells #[.int .i64 (z.1.1 : Nat), .slice z.2.1 512 z.2.2] 86)).cell? ⟨bx, 0, none⟩ = some (.int .i64 (I : Nat)) := (((Below.refl _ w).alloc (Nat.le_refl _) _).cell (p := ⟨bx, 0, none⟩) (blk_lt hb)).trans hc
  obtain ⟨S, hS⟩ : ∃ S, S = z.1.1 := ⟨_, rfl⟩
  rw [← hS] at hr hc2
  unfold zA
  rw [← hS]
  clear hb hS hc
  subst hr
  go_enter Try.func72, Try.ntmps72
  go_wp2
  go_ret
  exact ⟨rfl, (Below.refl _ w).alloc (Nat.le_refl _) _⟩
set_option maxHeartbeats 2000000 in
/-- The first write of that sector. -/
theorem idxF_any (ca : Option Addr) (cc : Nat) (Z : List ZW) (bx I : Nat) (w : World) (hrow : w.ownsRow 0 86 2 (caV ca Z cc) Z.length (zC Z)) (hb : w.heap[bx]? = some (.cells #[.int .i64 (I : Nat)] 3 (0, 0))) (hcl : Z.length ≤ 1000) :
    Calls Try.prog 84 #[caV ca Z cc, .func (.func 72) #[] #[.pointer (some ⟨bx, 0, none⟩)]] w fun e w' => ∃ r : Int, e = .returned (.int .i64 r) ∧ Below w.heap.size w w' ∧
      ((r = -1 ∧ ∀ z, z ∈ Z → z.1.1 ≠ I) ∨ ∃ (j : Nat) (z : ZW), r = (j : Int) ∧ Z[j]? = some z ∧ z.1.1 = I ∧ ∀ (k : Nat) (y : ZW), k < j → Z[k]? = some y → y.1.1 ≠ I) := by
  have hcap := cap_le hrow
  have HROW := Lib.hid (show ∀ W, Below w.heap.size w W → W.ownsRow 0 86 2 (caV ca Z cc) Z.length (zC Z) from fun W hW => own_belowU hrow hW)
  have HBX := Lib.hid (show ∀ W, Below w.heap.size w W → W.heap[bx]? = some (.cells #[.int .i64 (I : Nat)] 3 (0, 0)) from fun W hW => (hW.block bx (blk_lt hb)).trans hb)
  obtain ⟨N, hN⟩ : ∃ N, N = Z.length := ⟨_, rfl⟩
  have HN := Lib.hid hN
  unfold caV at HROW ⊢
  rw [← hN] at hcap hcl HROW ⊢
  clear hrow hb hN
  go_enter Try.func84, Try.ntmps84
  go_wp2
  go_loopw [8] (fun i wr => ∃ k : Nat, k ≤ N ∧ i = .int .i64 (k : Nat) ∧ (∀ (j : Nat) (y : ZW), j < k → Z[j]? = some y → y.1.1 ≠ I) ∧ Below w.heap.size w wr)
    (fun i _ => N - (intOf i).toNat)
  case atStart => exact ⟨0, Nat.zero_le _, rfl, fun j y h => absurd h (Nat.not_lt_zero _), Below.refl _ _⟩
  case round =>
    obtain ⟨k, hk, rfl, hpre, hB⟩ := hrel
    by_cases hlt : k < N
    · obtain ⟨z, hz⟩ : ∃ z, Z[k]? = some z := ⟨_, List.getElem?_eq_getElem (by rw [← HN.out]; exact hlt)⟩
      have hrw := HROW.out wr hB
      obtain ⟨g, rfl⟩ : ∃ g, ca = some ⟨g, 0, none⟩ := by
        obtain ⟨g, cap, e, _⟩ := hrw.form (by omega)
        injection e with e; exact ⟨g, e⟩
      have hc0 : wr.cell? ⟨g, k * 2, none⟩ = some (.int .i64 (z.1.1 : Nat)) := by rw [hrw.cellAt _ (by omega)]; exact (zC_get hz).1
      have hc1 : wr.cell? ⟨g, k * 2 + 1, none⟩ = some (.slice z.2.1 512 z.2.2) := by rw [hrw.cellAt _ (by omega)]; exact (zC_get hz).2
      have q1 : (k : Int) < (N : Int) := by omega
      have q2 : (0 : Int) ≤ (k : Int) := by omega
      have HPRE := Lib.hid hpre
      have HB := Lib.hid hB
      have HZ := Lib.hid hz
      by_cases hzi : z.1.1 = I
      · have HF := Lib.hid (dropF_any z bx I true wr (HBX.out wr hB) (by rw [hzi]; simp))
        unfold zA at HF
        have HZI := Lib.hid hzi
        clear hz hrw hpre hB hzi
        go_wp2_with (go_at_call 72; refine HF.out.mono ?_; rintro e w2 ⟨rfl, hb2⟩; have HB2 := Lib.hid hb2; clear hb2)
        go_ret
        exact ⟨_, rfl, bt HB.out HB2.out, .inr ⟨k, z, rfl, HZ.out, HZI.out, HPRE.out⟩⟩
      · have HF := Lib.hid (dropF_any z bx I false wr (HBX.out wr hB) (by simp; omega))
        unfold zA at HF
        clear hz hrw hpre hB
        go_wp2_with (go_at_call 72; refine HF.out.mono ?_; rintro e w2 ⟨rfl, hb2⟩; have HB2 := Lib.hid hb2; clear hb2)
        go_roundw
        case rel =>
          refine ⟨k + 1, by omega, by go_num, fun j y hj hy => ?_, bt HB.out HB2.out⟩
          rcases Nat.lt_or_ge j k with h | h
          · exact HPRE.out j y h hy
          · obtain rfl : j = k := by omega
            rw [HZ.out] at hy; cases hy; exact hzi
        case measure => simp [intOf]; omega
    · obtain rfl : k = N := by omega
      have HPRE := Lib.hid hpre
      have HB := Lib.hid hB
      clear hpre hB
      go_wp2
      go_ret
      refine ⟨_, rfl, HB.out, .inl ⟨rfl, fun z hz => ?_⟩⟩
      obtain ⟨j, hj, rfl⟩ := List.getElem_of_mem hz
      exact HPRE.out j _ (by rw [HN.out]; exact hj) (List.getElem?_eq_getElem hj)
def keepZ (I : Nat) (Z : List ZW) : List ZW := Z.filter fun z => z.1.1 != I
theorem keepZ_fst (I : Nat) (Z : List ZW) : (keepZ I Z).map Prod.fst = (Z.map Prod.fst).filter fun x => x.1 != I := by
  unfold keepZ
  rw [List.filter_map]; rfl
theorem keepZ_all {I : Nat} {Z : List ZW} (h : ∀ z, z ∈ Z → z.1.1 ≠ I) : keepZ I Z = Z := List.filter_eq_self.2 fun z hz => by simpa using h z hz
theorem keepZ_next {I k : Nat} {Z : List ZW} {z : ZW} (hz : Z[k]? = some z) : keepZ I (Z.take (k + 1)) = if z.1.1 = I then keepZ I (Z.take k) else keepZ I (Z.take k) ++ [z] := by
  unfold keepZ
  rw [List.take_add_one, hz, List.filter_append]
  by_cases h : z.1.1 = I
  · simp [h]
  · simp [h]
theorem keepZ_len (I : Nat) (Z : List ZW) : (keepZ I Z).length ≤ Z.length := List.length_filter_le _ _
theorem keepZ_sub {I : Nat} {Z : List ZW} {z : ZW} (h : z ∈ keepZ I Z) : z ∈ Z := (List.mem_filter.1 h).1
set_option maxHeartbeats 8000000 in
theorem del_any (ca : Option Addr) (cc : Nat) (Z : List ZW) (bx I : Nat) (w : World) (hrow : w.ownsRow 0 86 2 (caV ca Z cc) Z.length (zC Z)) (hb : w.heap[bx]? = some (.cells #[.int .i64 (I : Nat)] 3 (0, 0))) (hcl : Z.length ≤ 1000) :
    Calls Try.prog 71 #[caV ca Z cc, .func (.func 72) #[] #[.pointer (some ⟨bx, 0, none⟩)]] w fun e w' => e = .returned (caV ca (keepZ I Z) cc) ∧ w'.ownsRow 0 86 2 (caV ca (keepZ I Z) cc) (keepZ I Z).length (zC (keepZ I Z)) ∧ KB (fun k => (caV ca Z cc).ownBlock = some k) w w' := by
  have HIX := Lib.hid (idxF_any ca cc Z bx I w hrow hb hcl)
  have hcap := cap_le hrow
  have HROW := Lib.hid hrow
  have HBX := Lib.hid hb
  obtain ⟨KZ, hKZ⟩ : ∃ KZ, KZ = keepZ I Z := ⟨_, rfl⟩
  obtain ⟨N, hN⟩ : ∃ N, N = Z.length := ⟨_, rfl⟩
  have HN := Lib.hid hN
  rw [← hKZ]
  have HKZ := Lib.hid hKZ
  unfold caV at HROW HIX ⊢
  rw [← hN] at hcap hcl HROW HIX ⊢
  clear hrow hb hN hKZ
  go_enter Try.func71, Try.ntmps71
  go_upto_region 2 with (go_at_call 84; go_loud (refine HIX.out.mono ?_; rintro e w1 ⟨r, rfl, hb1, hcase⟩; have HB1 := Lib.hid hb1; clear hb1))
  rcases hcase with ⟨rfl, hall⟩ | ⟨j0, z0, rfl, hz0, hzi0, hpre⟩
  · have HALL := Lib.hid hall
    clear hall
    go_wp2
    go_ret
    have e : KZ = Z := by rw [HKZ.out]; exact keepZ_all HALL.out
    subst e
    exact ⟨by rw [← HN.out]; rfl, by have := own_belowU HROW.out HB1.out; rw [HN.out] at this; exact this, KB.of_below HB1.out⟩
  · have hj0 : j0 < N := by rw [HN.out]; exact (List.getElem?_eq_some_iff.1 hz0).1
    have hk0 : keepZ I (Z.take (j0 + 1)) = Z.take j0 := by
      rw [keepZ_next hz0, if_pos hzi0]
      exact keepZ_all fun z hz => by
        obtain ⟨k, hk, rfl⟩ := List.getElem_of_mem hz
        rw [List.length_take] at hk
        exact hpre k _ (by omega) (by rw [List.getElem_take, ← List.getElem?_eq_getElem])
    have hrw := own_belowU HROW.out HB1.out
    obtain ⟨g, rfl⟩ : ∃ g, ca = some ⟨g, 0, none⟩ := by
      obtain ⟨g, cap, e, _⟩ := hrw.form (by omega)
      injection e with e; exact ⟨g, e⟩
    have HK0 := Lib.hid hk0
    have HR1 := Lib.hid hrw
    have hbne : bx ≠ g := fun e => by
      obtain ⟨C, hC⟩ := own_heap HROW.out rfl
      exact blk_ne HBX.out hC (by decide) e
    have q0 : ((j0 : Int) == -1) = false := by simp
    clear hk0 hrw hz0 hzi0 hpre
    go_wp2
    go_loopw [5, 6] (fun vi vj wr => ∃ (i j : Nat) (L : List ZW), vi = .int .i64 (i : Nat) ∧ vj = .int .i64 (j : Nat) ∧ j ≤ N ∧ i < j ∧ L.length = N ∧ L.take i = keepZ I (Z.take j) ∧ L.drop j = Z.drop j ∧ KB (fun k => k = g) w1 wr ∧ wr.ownsRow 0 86 2 (.slice (some ⟨g, 0, none⟩) N cc) N (zC L))
      (fun _ j _ => N - (intOf j).toNat)
    case atStart =>
      refine ⟨j0, j0 + 1, Z, rfl, by go_num, by omega, by omega, HN.out.symm, HK0.out.symm, rfl, KB.refl _ _, HR1.out⟩
    case round =>
      obtain ⟨i, j, L, rfl, rfl, hj, hij, hL, hti, hdj, hkb, hr⟩ := hrel
      by_cases hlt : j < N
      · obtain ⟨z, hz⟩ : ∃ z, Z[j]? = some z := ⟨_, List.getElem?_eq_getElem (by rw [← HN.out]; exact hlt)⟩
        have hLz : L[j]? = some z := by
          have h1 := congrArg (fun l => l[0]?) hdj
          simpa [List.getElem?_drop, hz] using h1
        have hc0 : wr.cell? ⟨g, j * 2, none⟩ = some (.int .i64 (z.1.1 : Nat)) := by rw [hr.cellAt _ (by omega)]; exact (zC_get hLz).1
        have hc1 : wr.cell? ⟨g, j * 2 + 1, none⟩ = some (.slice z.2.1 512 z.2.2) := by rw [hr.cellAt _ (by omega)]; exact (zC_get hLz).2
        have q1 : (j : Int) < (N : Int) := by omega
        have q2 : (0 : Int) ≤ (j : Int) := by omega
        have hba : Below wr.heap.size wr (wr.alloc (.cells #[.int .i64 (z.1.1 : Nat), .slice z.2.1 512 z.2.2] 86)) := (Below.refl _ _).alloc (Nat.le_refl _) _
        have hbxw : (wr.alloc (.cells #[.int .i64 (z.1.1 : Nat), .slice z.2.1 512 z.2.2] 86)).heap[bx]? = some (.cells #[.int .i64 (I : Nat)] 3 (0, 0)) := by
          have hlb : bx < w1.heap.size := Nat.lt_of_lt_of_le (blk_lt HBX.out) HB1.out.size
          rw [hba.block bx (Nat.lt_of_lt_of_le hlb hkb.1.size), hkb.2 bx hlb hbne, HB1.out.block bx (blk_lt HBX.out)]
          exact HBX.out
        have HR := Lib.hid hr
        have HKB := Lib.hid (hkb.trans (KB.of_below hba))
        have HTI := Lib.hid hti
        have HDJ := Lib.hid hdj
        have HZ := Lib.hid hz
        have HL := Lib.hid hL
        have hnx := keepZ_next (I := I) hz
        by_cases hzi : z.1.1 = I
        · have HF := Lib.hid (dropF_any z bx I true _ hbxw (by rw [hzi]; simp))
          rw [if_pos hzi] at hnx
          have HNX := Lib.hid hnx
          have HRA := Lib.hid (own_belowU hr hba)
          unfold zA at HF
          clear hz hLz hr hkb hti hdj hnx hba hbxw hzi hL
          go_wp2_with (go_at_call 72; refine HF.out.mono ?_; rintro e w2 ⟨rfl, hb2⟩; have HB2 := Lib.hid hb2; clear hb2)
          go_roundw
          case rel =>
            refine ⟨i, j + 1, L, rfl, by go_num, by omega, by omega, HL.out, by rw [HNX.out]; exact HTI.out, ?_, HKB.out.trans (KB.of_below HB2.out), own_belowU HRA.out HB2.out⟩
            rw [← List.drop_drop, ← List.drop_drop, HDJ.out]
          case measure => simp [intOf]; omega
        · have HF := Lib.hid (dropF_any z bx I false _ hbxw (by simp; omega))
          rw [if_neg hzi] at hnx
          have HNX := Lib.hid hnx
          have HRA := Lib.hid (own_belowU hr hba)
          obtain ⟨y, hy⟩ : ∃ y, L[i]? = some y := ⟨_, List.getElem?_eq_getElem (by omega)⟩
          have HY := Lib.hid (zC_get hy)
          have q3 : (i : Int) < (N : Int) := by omega
          have q4 : (0 : Int) ≤ (i : Int) := by omega
          unfold zA at HF
          clear hz hLz hr hkb hti hdj hnx hba hbxw hzi hL hy
          go_wp2_with (go_at_call 72; go_loud (refine HF.out.mono ?_; rintro e w2 ⟨rfl, hb2⟩; have HB2 := Lib.hid hb2; have hr2 := own_belowU HRA.out hb2; have HR2 := Lib.hid hr2; have hd0 : w2.cell? ⟨g, i * 2, none⟩ = some (.int .i64 (y.1.1 : Nat)) := (hr2.cellAt _ (by omega)).trans HY.out.1; have hd1 : w2.cell? ⟨g, i * 2 + 1, none⟩ = some (.slice y.2.1 512 y.2.2) := (hr2.cellAt _ (by omega)).trans HY.out.2; have hbk := hb2.block wr.heap.size (by simp); have hbl : w2.heap[wr.heap.size]? = some (.cells #[.int .i64 (z.1.1 : Nat), .slice z.2.1 512 z.2.2] 86 (0, 0)) := hbk.trans (heap_alloc_new wr _); have he0 : w2.cell? ⟨wr.heap.size, 0, none⟩ = some (.int .i64 (z.1.1 : Nat)) := (cell_of_row w2 _ 0 _ _ _ hbl).trans rfl; have he1 : w2.cell? ⟨wr.heap.size, 1, none⟩ = some (.slice z.2.1 512 z.2.2) := (cell_of_row w2 _ 1 _ _ _ hbl).trans rfl; clear hbk hbl; have hf0 := hr2.frozenAt (i * 2); have hf1 := hr2.frozenAt (i * 2 + 1); clear hb2 hr2))
          go_roundw
          case rel =>
            have hr3 := ((HR2.out.stored (i * 2) (.int .i64 (z.1.1 : Nat))).1.stored (i * 2 + 1) (.slice z.2.1 512 z.2.2)).1
            rw [zC_set z (by rw [HL.out]; omega)] at hr3
            refine ⟨i + 1, j + 1, L.set i z, by go_num, by go_num, by omega, by omega, by rw [List.length_set]; exact HL.out, ?_, ?_, (HKB.out.trans (KB.of_below HB2.out)).trans ((KB.of_set _ g _ _).trans (KB.of_set _ g _ _)), hr3⟩
            · rw [HNX.out, ← HTI.out, List.take_add_one, List.getElem?_set_self (by rw [HL.out]; omega), List.take_set_of_le (Nat.le_refl _)]; rfl
            · rw [List.drop_set_of_lt (by omega), ← List.drop_drop, ← List.drop_drop, HDJ.out]
          case measure => simp [intOf]; omega
      · obtain rfl : j = N := by omega
        have e : KZ = L.take i := by rw [HKZ.out, hti, HN.out, List.take_length]
        have hli : KZ.length = i := by rw [e, List.length_take]; omega
        have hr1 := own_takeN hr (show i ≤ j by omega)
        rw [zC_take, ← e] at hr1
        have HR := Lib.hid hr
        have HR1 := Lib.hid hr1
        have HKB := Lib.hid hkb
        have HLI := Lib.hid hli
        have HLL := Lib.hid hL
        obtain ⟨W9, hW9⟩ : ∃ W9, W9 = wr.setCells g (i * 2) (zcW (j - i)) := ⟨_, rfl⟩
        have hclr : (Builtin.clear_ #[82] 0 #[.slice (some ⟨g, i * 2, none⟩) (j - i) (cc - i)]).run Try.prog wr = .ok (.tuple #[]) W9 := by
          rw [hW9]
          refine run_clear_any (P := Try.prog) wr 82 86 0 (.agg #[.int .i64 0, .slice none 0 0]) Try.underlying82 (zeroWr wr) g (i * 2) (j - i) (cc - i) (by omega) ?_ ?_ (zcW_one _)
          · intro k hk
            have hk2 : k < (j - i) * 2 := by rw [← zcW_len]; exact hk
            rw [hr.cellAt _ (by omega), List.getElem?_eq_getElem (l := zC L) (i := i * 2 + k) (by rw [zC_len, hL]; omega)]; rfl
          · intro k hk
            exact hr.frozenAt _
        have HW9 := Lib.hid (show W9.ownsRow 0 86 2 (.slice (some ⟨g, 0, none⟩) i cc) i (zC KZ) ∧ KB (fun k => k = g) wr W9 by rw [hW9]; exact ⟨own_setCellsBeyond _ _ _ hr1 (Nat.le_refl _), kb_setCells _ _ _ _⟩)
        clear hW9
        have q3 : (i : Int) ≤ (j : Int) := by omega
        have q4 : (0 : Int) ≤ (i : Int) := by omega
        have q5 : ¬ cc = i := by omega
        clear hr hkb hti hdj hr1 e hL
        go_wp2_with fail
        go_ret
        refine ⟨by rw [HLI.out]; rfl, by rw [HLI.out]; exact HW9.out.1, ?_⟩
        exact (KB.of_below HB1.out).trans ((HKB.out.trans HW9.out.2).monoF (fun k e => by subst e; rfl))
end Go.Proofs.Ytkfdcdfaikkneaa
