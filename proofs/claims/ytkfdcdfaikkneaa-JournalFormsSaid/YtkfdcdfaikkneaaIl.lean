/- Package sector: read, whole; bytes.Equal; a commit's bytes. -/
import Derived.Test.YtkfdcdfaikkneaaIk
import Derived.Test.YtkfdcdfaikkneaaIf
import Derived.ArgAppend
import Derived.Lib.SlBytesConst
namespace Go.Proofs.Ytkfdcdfaikkneaa
open Go.ChangeShapes Go.WideShapes Go.ChangeAt Go.RowKit Go.Shelf
set_option linter.unusedVariables false
set_option linter.unusedSimpArgs false
set_option maxRecDepth 100000
attribute [local go_sem] Oper.semAt_some

set_option maxHeartbeats 2000000 in
theorem whole_any (a : Option Addr) (n c : Nat) (b : List Int) (w : World) (hx : Arg8c w a n c b) :
    Calls Try.prog 39 #[.slice a n c] w fun e w' => ∃ g, e = .returned (.slice (some ⟨g, 0, none⟩) 512 512) ∧ w'.ownsRow w.heap.size 5 1 (.slice (some ⟨g, 0, none⟩) 512 512) 512 ((madeL b).map (Value.int .u8)) ∧ Arg8c w' (some ⟨g, 0, none⟩) 512 512 (madeL b) ∧ w.heap.size ≤ g ∧ Below w.heap.size w w' := by
  have hmk := run_make_row' (P := Try.prog) 47 5 (.int .u8 0) 1 Try.underlying47 info5 rfl .i64 .i64 512 (by omega) (by omega)
  have hmk : ∀ w : World, (Instr.makeSlice 47 (.int .i64 512) (.int .i64 512)).run Try.prog w = .ok (.slice (some ⟨w.heap.size, 0, none⟩) 512 512) (w.alloc (.cells (madeCells #[.int .u8 0] 512) 5)) := hmk
  have k1 : (w.alloc (.cells (madeCells #[.int .u8 0] 512) 5)).heap[w.heap.size]? = some (.cells (madeCells #[.int .u8 0] 512).toList.toArray 5 (0, 0)) := by rw [Array.toArray_toList]; exact heap_alloc_new w _
  have hbl := hx.1.1
  have k2 : ((b.take 512).map (Value.int .u8)).length = Nat.min n 512 := by rw [List.length_map, List.length_take, hbl]; exact Nat.min_comm _ _
  have k5 : Below w.heap.size w (w.alloc (.cells (madeCells #[.int .u8 0] 512) 5)) := (Below.refl _ _).alloc (Nat.le_refl _) _
  have k3 : 0 < ((b.take 512).map (Value.int .u8)).length → ∃ ad, a = some ad ∧ ∀ j v, ((b.take 512).map (Value.int .u8))[j]? = some v → (w.alloc (.cells (madeCells #[.int .u8 0] 512) 5)).cell? (ad.add j) = some v :=
    fun h0 => ((hx.1.2.2.1.take 512).below k5).cells h0
  have k4 : 0 + ((b.take 512).map (Value.int .u8)).length ≤ (madeCells #[.int .u8 0] 512).toList.length := by
    have e : (madeCells #[Value.int .u8 0] 512).toList.length = 512 := by rw [Array.length_toList, size_madeCells]
    rw [List.length_map, List.length_take, e]; omega
  have K1 := Lib.hid k1; have K2 := Lib.hid k2; have K3 := Lib.hid k3; have HL := Lib.hid hbl
  have HBB := Lib.hid hx.1.2.1
  clear k1 k2 k3 hbl hx
  go_enter Try.func39, Try.ntmps39
  go_wp2_with ((with_reducible show wpList _ _ _ (⟨some 7, _, _, _, _, _⟩ :: _) _ _); refine wpList_copy_splice (o := ⟨some 7, _, _, _, _, _⟩) rfl (.tmp 5) (.tmp 6) 47 47 rfl 5 Try.underlying47 size_u8 (some ⟨w.heap.size, 0, none⟩) a 512 512 n c rfl rfl w.heap.size 0 (madeCells #[.int .u8 0] 512).toList 5 K1.out ((b.take 512).map (Value.int .u8)) K2.out (fun h0 => ⟨rfl, K3.out h0⟩) k4 (ints_oneCell _ _) w.heap.size w k5 (Nat.le_refl _) ?_; intro w1 hg1 hb1)
  go_ret
  have hsp : splice (madeCells #[.int .u8 0] 512).toList 0 ((b.take 512).map (Value.int .u8)) = (madeL b).map (Value.int .u8) := by
    rw [splice_all, replicate_cells, List.length_map, List.length_take]
    unfold madeL
    rw [List.map_append, ← List.map_drop, List.drop_replicate]
    rw [show 512 - min 512 b.length = 512 - b.length by omega]
  have ho : w1.ownsRow w.heap.size 5 1 (.slice (some ⟨w.heap.size, 0, none⟩) 512 512) 512 ((madeL b).map (Value.int .u8)) := by
    refine ⟨by rw [List.length_map, madeL_len], .inr ⟨w.heap.size, 512, _, rfl, Nat.le_refl _, hg1.out, Nat.le_refl _, by unfold maxLen; omega, ?_, ?_⟩⟩
    · rw [hsp]; simp [madeL_len]
    · rw [hsp]; exact List.take_of_length_le (by rw [List.length_map, madeL_len]; omega)
  exact ⟨w.heap.size, rfl, ho, arg_own ho (madeL_B HBB.out), Nat.le_refl _, hb1⟩

theorem arg8c_nil (w : World) : Arg8c w none 0 0 [] := ⟨⟨rfl, fun x hx => (by cases hx), Bs.nil _ _ _, Nat.le_refl _, Nat.zero_le _⟩, fun _ => rfl⟩
/-- append onto bytes that leave no room: new memory. -/
theorem wpList_append_full {P : Program} (w : World) {ops : Array Oper} {rest : List Oper} {o : Oper} {a : Act} {Q : Exit → Act → World → Prop} (hgd : o.guard = none) (s x : Operand) (t : TypeId)
    (ho : o.op = .call { callee := .builtin .append, args := #[s, x], argTypes := #[t, t] })
    (e : TypeId) (i : TypeInfo) (ht : P.underlying t = some (.slice e)) (hi : P.info? e = some i) (hz : i.zero = some (.int .u8 0)) (hsize : i.size = 1) (hby : i.bytes = 1)
    (a1 : Addr) (n : Nat) (l : List Int) (hs : a.eval s = .slice (some a1) n n) (hl : l.length = n) (B1 : Nat) (h1 : Bs w B1 (some a1) l)
    (a2 : Addr) (m c : Nat) (k : List Int) (hx : a.eval x = .slice (some a2) m c) (hk : k.length = m) (B2 : Nat) (h2 : Bs w B2 (some a2) k) (hm : 0 < m) (hn : n + m ≤ 140737488355328)
    (h : ∀ v' w', w'.ownsRow w.heap.size e 1 v' (n + m) ((l ++ k).map (Value.int .u8)) → Below w.heap.size w w' → wpList P ops Q rest (a.put o.dst v') w') : wpList P ops Q (o :: rest) a w := by
  refine wpList_plain hgd fun K hK => ?_
  obtain ⟨v', w', hrun, r1, r2⟩ := run_append_arg_grows (P := P) w t o.type e i (.int .u8 0) 1 1 ht hi hz hsize hby rfl (by decide) a1 n n (l.map (Value.int .u8)) (by rw [List.length_map, hl, Nat.mul_one])
    (fun j u hj => by
      have hj' := getElem?_map_u8 hj
      obtain ⟨ad', e1, hc'⟩ := h1.cells (by simpa using (show 0 < l.length by omega))
      injection e1 with e1; subst e1; exact hc' j u hj)
    a2 m c (k.map (Value.int .u8)) (by rw [List.length_map, hk, Nat.mul_one])
    (fun j u hj => by
      have hj' := getElem?_map_u8 hj
      obtain ⟨ad', e1, hc'⟩ := h2.cells (by simpa using (show 0 < k.length by omega))
      injection e1 with e1; subst e1; exact hc' j u hj)
    (by omega) (by unfold maxLen; omega) (by omega)
  unfold Oper.wp
  simp [execOp, ho, resolve, invoke, builtin, hs, hx, hrun, Result.andThen]
  exact hK _ _ (h v' w' (by rw [List.map_append]; exact r1) ((Below.refl _ _).grown r2 (Nat.le_refl _) (fun k hk => by cases hk)))
/-- Two bytes laid as they are written. -/
theorem bs_two (W : World) (x y : Int) (f : Nat × Nat) : Bs (W.alloc (.cells #[.int .u8 x, .int .u8 y] 5 f)) (W.heap.size + 1) (some ⟨W.heap.size, 0, none⟩) [x, y] := fun h0 => ⟨W.heap.size, 0, rfl, by omega, fun j hj => by
  have hc := World.cell?_alloc_mark W #[.int .u8 x, .int .u8 y] 5 f (0 + j)
  rw [hc]
  match j, hj with
  | 0, _ => rfl
  | 1, _ => rfl
  | j + 2, hj => simp at hj; omega⟩
theorem Arg8c.onV {w w' : World} {a : Option Addr} {n c : Nat} {l : List Int} (h : Arg8c w a n c l) (hb : Below w.heap.size w w') : Arg8c w' a n c l := ⟨h.1.on hb, h.2⟩
theorem madeL_sz {l : List Int} (h : l.length ≤ 512) : madeL l = szL l := by unfold madeL szL; rw [List.take_of_length_le h]
theorem read_no (a : Option Addr) (n c : Nat) (w : World) (hn : n ≠ 512) (hm : n ≤ 9223372036854775807) :
    Calls Try.prog 52 #[.slice a n c] w fun e w' => e = .returned (.tuple #[.pointer none, .bool false]) ∧ w' = w := by
  have q1 : ¬ (n : Int) = 512 := by omega
  go_enter Try.func52, Try.ntmps52
  go_wp2
  go_ret2
  exact ⟨rfl, rfl⟩
theorem read_ok (a : Option Addr) (c : Nat) (w : World) (hc : 512 ≤ c) (hm : c ≤ 9223372036854775807) :
    Calls Try.prog 52 #[.slice a 512 c] w fun e w' => e = .returned (.tuple #[.pointer (some ⟨w.heap.size, 0, none⟩), .bool true]) ∧ w' = w.alloc (.cells #[.slice (cutT a c 2) 510 (c - 2)] 120) := by
  have q2 : (512 : Int) ≤ (c : Int) := by omega
  have q3 : ¬ c = 2 := by omega
  go_enter Try.func52, Try.ntmps52
  go_wp2
  go_ret2
  refine ⟨rfl, ?_⟩
  unfold cutT
  rw [if_neg q3]
  rfl
theorem eqB_any (a1 : Option Addr) (n1 c1 : Nat) (l1 : List Int) (a2 : Option Addr) (n2 c2 : Nat) (l2 : List Int) (r : Bool) (w : World) (h1 : Arg8c w a1 n1 c1 l1) (h2 : Arg8c w a2 n2 c2 l2) (hr : r = true ↔ l1 = l2) :
    Calls Try.prog 82 #[.slice a1 n1 c1, .slice a2 n2 c2] w fun e w' => e = .returned (.bool r) ∧ w' = w := by
  have hv1 := arg_str h1 (Below.refl _ w)
  have hv2 := arg_str h2 (Below.refl _ w)
  obtain ⟨S1, hS1⟩ : ∃ S, S = strOfNums l1 := ⟨_, rfl⟩
  obtain ⟨S2, hS2⟩ : ∃ S, S = strOfNums l2 := ⟨_, rfl⟩
  rw [← hS1] at hv1
  rw [← hS2] at hv2
  have hq : (S1.toList == S2.toList) = r := by
    cases r with
    | true => rw [hS1, hS2, hr.1 rfl]; simp
    | false => rw [hS1, hS2]; exact str_ne h1.1.2.1 h2.1.2.1 (fun e => by have := hr.2 e; cases this)
  clear hS1 hS2 h1 h2 hr
  go_enter Try.func82, Try.ntmps82
  go_wp2
  go_ret
  exact ⟨rfl, rfl⟩
theorem cell3 {W : World} {b : Nat} {x0 x1 x2 : Value} {T : TypeId} (h : W.heap[b]? = some (.cells #[x0, x1, x2] T (0, 0))) : W.cell? ⟨b, 0, none⟩ = some x0 ∧ W.cell? ⟨b, 1, none⟩ = some x1 ∧ W.cell? ⟨b, 2, none⟩ = some x2 :=
  ⟨(cell_of_row _ b 0 _ _ _ h).trans rfl, (cell_of_row _ b 1 _ _ _ h).trans rfl, (cell_of_row _ b 2 _ _ _ h).trans rfl⟩
set_option maxHeartbeats 4000000 in
theorem commitBytes_any : CommitBytesC := by
  intro c w hw
  obtain ⟨⟨s0, s1⟩, ⟨n0, n1⟩, g0, g1⟩ := hw
  obtain ⟨S, hS⟩ : ∃ S, S = c.S := ⟨_, rfl⟩
  obtain ⟨E, hE⟩ : ∃ E, E = c.E := ⟨_, rfl⟩
  rw [← hS, ← hE]
  obtain ⟨st, n, g⟩ := c
  unfold cmA
  dsimp only at s0 s1 n0 n1 g0 g1 ⊢
  have HA := Lib.hid (show Below w.heap.size w (w.alloc (.cells #[.int .u8 st, .int .u8 n, .int .u64 g] 41)) from (Below.refl _ _).alloc (Nat.le_refl _) _)
  have hbk := heap_alloc_new w (.cells #[.int .u8 st, .int .u8 n, .int .u64 g] 41)
  obtain ⟨hc0, hc1, hc2⟩ := cell3 hbk
  by_cases h1 : 2 < st
  · have hno : ¬ CM.Ok ⟨st, n, g⟩ := fun h => by have h3 := h.1; dsimp only at h3; omega
    have HE := Lib.hid (show S = [] ∧ E = 2 from ⟨by rw [hS]; unfold CM.S; exact if_neg hno, by rw [hE]; unfold CM.E; exact if_neg hno⟩)
    clear hS hE hbk
    go_enter Try.func68, Try.ntmps68
    go_wp2
    go_ret2
    exact ⟨none, 0, by rw [HE.out.1, HE.out.2]; rfl, by rw [HE.out.1]; exact arg8c_nil _, fun h => by rw [HE.out.1] at h; simp at h, HA.out⟩
  by_cases h2 : 16 < n
  · have hno : ¬ CM.Ok ⟨st, n, g⟩ := fun h => by have h3 := h.2; dsimp only at h3; omega
    have HE := Lib.hid (show S = [] ∧ E = 2 from ⟨by rw [hS]; unfold CM.S; exact if_neg hno, by rw [hE]; unfold CM.E; exact if_neg hno⟩)
    clear hS hE hbk
    go_enter Try.func68, Try.ntmps68
    go_wp2
    go_ret2
    exact ⟨none, 0, by rw [HE.out.1, HE.out.2]; rfl, by rw [HE.out.1]; exact arg8c_nil _, fun h => by rw [HE.out.1] at h; simp at h, HA.out⟩
  · have hok : CM.Ok ⟨st, n, g⟩ := ⟨by dsimp only; omega, by dsimp only; omega⟩
    have HE := Lib.hid (show S = szL ([76, 67, st, n] ++ be 8 g) ∧ E = 0 from ⟨by rw [hS]; unfold CM.S; exact if_pos hok, by rw [hE]; unfold CM.E; exact if_pos hok⟩)
    obtain ⟨i5, hi5, hz5⟩ := Option.map_eq_some_iff.1 info5
    simp only [Prod.mk.injEq] at hz5
    have HI := Lib.hid (And.intro hi5 hz5)
    obtain ⟨A, hA⟩ : ∃ A, A = w.alloc (.cells #[.int .u8 st, .int .u8 n, .int .u64 g] 41) := ⟨_, rfl⟩
    have hAs : A.heap.size = w.heap.size + 1 := by rw [hA]; simp
    rw [← hA] at HA hbk
    obtain ⟨C, hC⟩ : ∃ C, C = A.alloc (.cells #[.int .u8 76, .int .u8 67] 5 (2, 3)) := ⟨_, rfl⟩
    have hCs : C.heap.size = w.heap.size + 2 := by rw [hC]; simp; omega
    have hbC : Below A.heap.size A C := by rw [hC]; exact (Below.refl _ _).alloc (Nat.le_refl _) _
    have hbt := bs_two A 76 67 (2, 3)
    rw [← hC] at hbt
    have hkc := Lib.run_convert_bytes_const (P := Try.prog) A 47 5 #[.int .u8 76, .int .u8 67] 2 2 Try.underlying47 Try.underlying5
    have hkc : (convert 47 47 (.slice (some ⟨A.heap.size, 0, none⟩) 2 2)).run Try.prog (A.alloc (.cells #[.int .u8 76, .int .u8 67] 5)) = .ok (.slice (some ⟨A.heap.size, 0, none⟩) 2 2) C := by rw [hC]; exact hkc
    obtain ⟨D, hD⟩ : ∃ D, D = C.alloc (.cells #[.int .u8 st, .int .u8 n] 5) := ⟨_, rfl⟩
    have hbD : Below C.heap.size C D := by rw [hD]; exact (Below.refl _ _).alloc (Nat.le_refl _) _
    have hDs : D.heap.size = w.heap.size + 3 := by rw [hD]; simp; omega
    have hsrc := bs_two C st n (0, 0)
    rw [← hD, hCs] at hsrc
    have HS1 := Lib.hid (show Bs D (w.heap.size + 2) (some ⟨w.heap.size + 1, 0, none⟩) [76, 67] by rw [← hAs]; exact ((hbt.more (by omega)).below (hbD)).more (by omega))
    have HS2 := Lib.hid hsrc
    have HBD := Lib.hid (show Below w.heap.size w D from bt (bt HA.out hbC) hbD)
    have hr0 : C.heap[w.heap.size]? = some (.cells #[.int .u8 st, .int .u8 n, .int .u64 g] 41) := (hbC.block _ (by omega)).trans hbk
    have hrD : D.heap[w.heap.size]? = some (.cells #[.int .u8 st, .int .u8 n, .int .u64 g] 41) := (hbD.block _ (by omega)).trans hr0
    obtain ⟨hd0, hd1, -⟩ := cell3 hr0
    have HRD := Lib.hid hrD
    have HDS := Lib.hid hDs
    have HDE := Lib.hid (show D = ((w.alloc (.cells #[.int .u8 st, .int .u8 n, .int .u64 g] 41)).alloc (.cells #[.int .u8 76, .int .u8 67] 5 (2, 3))).alloc (.cells #[.int .u8 st, .int .u8 n] 5) by rw [hD, hC, hA])
    rw [hAs] at hkc
    rw [hA] at hkc
    clear hbt hbC hbD hsrc hr0 hrD hD
    clear hS hE hbk
    go_enter Try.func68, Try.ntmps68
    go_upto_region 4 with ((with_reducible show wpList _ _ _ (⟨some 20, _, _, _, _, _⟩ :: _) _ _); go_loud (refine wpList_append_full _ rfl (.tmp 14) (.tmp 19) 47 rfl 5 i5 Try.underlying47 HI.out.1 HI.out.2.1 HI.out.2.2.1 HI.out.2.2.2 ⟨w.heap.size + 1, 0, none⟩ 2 [76, 67] rfl rfl (w.heap.size + 2) (by rw [← HDE.out]; exact HS1.out) ⟨w.heap.size + 2, 0, none⟩ 2 2 [st, n] rfl rfl (w.heap.size + 2 + 1) (by rw [← HDE.out]; exact HS2.out) (by omega) (by omega) ?_; rw [← HDE.out]; intro v2 w2 ho2 hb2; have HO2 := Lib.hid ho2; have HB2 := Lib.hid hb2; obtain ⟨a2, c2, hv2, -⟩ := own_form ho2; subst hv2; clear ho2 hb2))
    have hB2 := bt HBD.out HB2.out
    have hs2 := hB2.size
    have hq : w2.cell? ⟨w.heap.size, 2, none⟩ = some (.int .u64 g) := (cell3 ((HB2.out.block _ (by have := HDS.out; omega)).trans HRD.out)).2.2
    have HP := Lib.hid (put64 a2 4 c2 [76, 67, st, n] w2 rfl (Bs.of_own HO2.out).1 (by omega) g (by simp [Lit.wf, IntKind.min, IntKind.max, IntKind.signed, IntKind.bits]; omega))
    have HB2' := Lib.hid hB2
    clear hB2
    go_wp2_with (first
      | (go_at_call 37; go_loud (refine HP.out.mono ?_; rintro e w3 ⟨g3, rfl, ho3, hb3⟩; have HB3 := Lib.hid hb3; have HW := Lib.hid (whole_any (some ⟨g3, 0, none⟩) 12 12 ([76, 67, st, n] ++ be 8 g) w3 (arg_own ho3 (allB_app2 (allB_four (by unfold byteI; omega) (by unfold byteI; omega) ⟨s0, s1⟩ ⟨n0, n1⟩) (allB_be _ _)))); clear ho3 hb3))
      | (go_at_call 39; go_loud (refine HW.out.mono ?_; rintro e w4 ⟨g4, rfl, ho4, ha4, hn4, hb4⟩; have HA4 := Lib.hid ha4; have HN4 := Lib.hid hn4; have HB4 := Lib.hid hb4; clear ho4 ha4 hn4 hb4)))
    go_ret2
    have hl : S.length = 512 := by rw [HE.out.1]; exact CM.B_len ⟨st, n, g⟩
    refine ⟨some ⟨g4, 0, none⟩, 512, by rw [hl, HE.out.2]; rfl, ?_, fun _ b o e => by cases e; have := HN4.out; have := HB3.out.size; have := HB2'.out.size; omega, bt (bt HB2'.out HB3.out) HB4.out⟩
    rw [hl, HE.out.1, ← madeL_sz (by simp [length_be])]
    exact HA4.out
end Go.Proofs.Ytkfdcdfaikkneaa
