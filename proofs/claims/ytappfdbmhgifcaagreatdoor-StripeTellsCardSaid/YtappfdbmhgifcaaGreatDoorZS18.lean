/- Texts of mine, one behind the other: Pdm Pdiv Prth2. -/
import Derived.Test.YtappfdbmhgifcaaGreatDoorZS10
import Derived.Test.YtappfdbmhgifcaaGreatDoorZS04
import Derived.Test.YtappfdbmhgifcaaGreatDoorZS05
import Derived.Deep.RegionHeld
import Derived.OrdersIn
import Derived.Deep.CutRange
import Derived.Test.YtappfdbmhgifcaaGreatDoorZS11
/- Long division, told of lists. No program is named here. -/
namespace Go.Proofs.YtappfdbmhgifcaaGreatDoor
open Go.RowKit GF
set_option linter.unusedVariables false

/-- One step of the division. -/
def divS (d : Nat) (Q : List GF) (s : List GF × List GF) (i : Nat) : List GF × List GF :=
  (s.1.set i (co s.2 (i + d) * GF.inv (co Q d)), axp s.2 i (co s.2 (i + d) * GF.inv (co Q d)) Q)
def divF {m : Nat} (d : Nat) (Q : List GF) (s : List GF × List GF) (pre : List (It m)) : List GF × List GF := pre.foldl (fun s y => divS d Q s y.1.1) s
theorem divF_snoc {m : Nat} (d : Nat) (Q : List GF) (s : List GF × List GF) (pre : List (It m)) (y : It m) : divF d Q s (pre ++ [y]) = divS d Q (divF d Q s pre) y.1.1 := by simp [divF]
theorem divF_len {m : Nat} (d : Nat) (Q : List GF) (s : List GF × List GF) (pre : List (It m)) : (divF d Q s pre).1.length = s.1.length ∧ (divF d Q s pre).2.length = s.2.length := by
  unfold divF
  induction pre generalizing s with
  | nil => exact ⟨rfl, rfl⟩
  | cons y pre ih =>
    simp only [List.foldl_cons]
    have := ih (divS d Q s y.1.1)
    simp only [divS, List.length_set, length_axp] at this ⊢
    exact this
/-- A number set where none stood adds so many times the other, moved there. -/
theorem co_mulL_set {A Q : List GF} {i : Nat} {c : GF} (hi : i < A.length) (h0 : co A i = 0) (k : Nat) : co (mulL (A.set i c) Q) k = co (mulL A Q) k + if i ≤ k then c * co Q (k - i) else 0 := by
  rw [co_mulL, co_mulL]
  have hs : ∀ t, co (A.set i c) t * co Q (k - t) = co A t * co Q (k - t) + (if t = i then c else 0) * co Q (k - t) := fun t => by
    rw [← GF.add_mul, co_set hi]
    by_cases e : t = i
    · rw [if_pos e, if_pos e, e, h0, GF.zero_add]
    · rw [if_neg e, if_neg e, GF.add_zero]
  rw [sm_congr (fun t _ => hs t), sm_add]
  congr 1
  by_cases hk : i ≤ k
  · rw [if_pos hk, sm_one (j := i) (by omega) (fun t _ hne => by rw [if_neg hne, GF.zero_mul]), if_pos rfl]
  · rw [if_neg hk, sm_zero (fun t ht => by rw [if_neg (by omega), GF.zero_mul])]
theorem divF_inv {P Q : List GF} {n d m : Nat} (hP : P.length = n) (hQ : Q.length = d + 1) (hl : co Q d ≠ 0) (hm : m = n - d) (ys : List (It m)) (hbk : Bk m (fun _ _ => True) ys) : ∀ j, j ≤ ys.length →
    (∀ k, co (mulL (divF d Q (List.replicate m 0, P) (ys.take j)).1 Q) k + co (divF d Q (List.replicate m 0, P) (ys.take j)).2 k = co P k) ∧
    (∀ k, m - j + d ≤ k → co (divF d Q (List.replicate m 0, P) (ys.take j)).2 k = 0) ∧
    (∀ k, k < m - j → co (divF d Q (List.replicate m 0, P) (ys.take j)).1 k = 0) ∧
    (1 ≤ j → co (divF d Q (List.replicate m 0, P) (ys.take j)).1 (m - 1) = co P (n - 1) * GF.inv (co Q d)) := by
  intro j
  induction j with
  | zero =>
    intro _
    rw [List.take_zero]
    refine ⟨fun k => ?_, fun k hk => co_ge (by show P.length ≤ k; omega), fun k _ => co_replicate _ _, fun h => by omega⟩
    show co (mulL (List.replicate m 0) Q) k + co P k = co P k
    rw [co_mulL, sm_zero (fun i _ => by rw [co_replicate, GF.zero_mul]), GF.zero_add]
  | succ j ih =>
    intro hj
    obtain ⟨h1, h2, h3, h4⟩ := ih (by omega)
    have hlen := divF_len d Q (List.replicate m 0, P) (ys.take j)
    rw [List.take_succ_eq_append_getElem (by omega), divF_snoc]
    have hjm := hbk.1
    have hi := (hbk.2 j (by omega)).1
    obtain ⟨s, hs⟩ : ∃ s, s = divF d Q (List.replicate m 0, P) (ys.take j) := ⟨_, rfl⟩
    rw [← hs] at h1 h2 h3 h4 hlen ⊢
    rw [hi]
    obtain ⟨i, hi'⟩ : ∃ i, i = m - 1 - j := ⟨_, rfl⟩
    rw [← hi']
    have ha : s.1.length = m := by rw [hlen.1]; simp
    have hr : s.2.length = n := by rw [hlen.2, hP]
    have him : i < m := by omega
    have hA0 : co s.1 i = 0 := h3 i (by omega)
    have hax : ∀ k, co (axp s.2 i (co s.2 (i + d) * GF.inv (co Q d)) Q) k = co s.2 k + if i ≤ k then (co s.2 (i + d) * GF.inv (co Q d)) * co Q (k - i) else 0 := co_axp (by rw [hQ, hr]; omega)
    refine ⟨fun k => ?_, fun k hk => ?_, fun k hk => ?_, fun _ => ?_⟩
    · simp only [divS]
      rw [co_mulL_set (by rw [ha]; exact him) hA0, hax, GF.add_add_add, GF.add_self, GF.add_zero]
      exact h1 k
    · simp only [divS]
      rw [hax, if_pos (by omega)]
      by_cases e : k = i + d
      · rw [e, Nat.add_sub_cancel_left, GF.mul_assoc, GF.inv_mul hl, GF.mul_one, GF.add_self]
      · rw [h2 k (by omega), co_ge (l := Q) (k := k - i) (by omega), GF.mul_zero, GF.add_zero]
    · simp only [divS]
      rw [co_set (by rw [ha]; exact him), if_neg (by omega)]
      exact h3 k (by omega)
    · simp only [divS]
      rw [co_set (by rw [ha]; exact him)]
      by_cases e : m - 1 = i
      · rw [if_pos e]
        have hj0 : j = 0 := by omega
        subst hj0
        rw [List.take_zero] at hs
        rw [hs]
        show co P (i + d) * GF.inv (co Q d) = co P (n - 1) * GF.inv (co Q d)
        rw [show i + d = n - 1 by omega]
      · rw [if_neg e]
        exact h4 (by omega)
/-- What division yields. -/
theorem divF_ok {P Q : List GF} {n d m : Nat} (hn : n = (tr P).length) (hd : (tr Q).length = d + 1) (hq : tr Q ≠ []) (hm : m = n - d) (ys : List (It m)) (hlen : ys.length = m) (hbk : Bk m (fun _ _ => True) ys) :
    tr (divF d (tr Q) (List.replicate m 0, tr P) ys).1 = (divF d (tr Q) (List.replicate m 0, tr P) ys).1 ∧ (tr (divF d (tr Q) (List.replicate m 0, tr P) ys).2).length < (tr Q).length ∧
    ∀ k, co (mulL (divF d (tr Q) (List.replicate m 0, tr P) ys).1 Q) k + co (divF d (tr Q) (List.replicate m 0, tr P) ys).2 k = co P k := by
  have hl : co (tr Q) d ≠ 0 := by have := tr_last Q hq; rw [hd, Nat.add_sub_cancel] at this; rwa [co_tr]
  obtain ⟨h1, h2, h3, h4⟩ := divF_inv (P := tr P) (Q := tr Q) hn.symm hd hl hm ys hbk m (by omega)
  have hA := (divF_len d (tr Q) (List.replicate m 0, tr P) ys).1
  have hT : ys.take m = ys := List.take_of_length_le (by omega)
  rw [hT] at h1 h2 h3 h4
  refine ⟨?_, ?_, fun k => ?_⟩
  · apply tr_self
    rcases Nat.eq_zero_or_pos m with h0 | h0
    · left
      exact List.eq_nil_of_length_eq_zero (by rw [hA]; simp [h0])
    · right
      rw [hA, List.length_replicate, h4 h0]
      have hp : tr P ≠ [] := fun e => by rw [e] at hn; simp at hn; omega
      have := tr_last P hp
      rw [← hn] at this
      refine GF.mul_ne ?_ (GF.inv_ne hl)
      rwa [co_tr]
  · rw [hd]
    have : (tr (divF d (tr Q) (List.replicate m 0, tr P) ys).2).length ≤ d := tr_len.2 fun k hk => h2 k (by omega)
    omega
  · rw [← co_tr P k, ← h1 k, co_mulL, co_mulL]
    congr 1
    exact sm_congr fun i _ => by rw [co_tr]
end Go.Proofs.YtappfdbmhgifcaaGreatDoor
/- Contract of poly's DivMod. -/
namespace Go.Proofs.YtappfdbmhgifcaaGreatDoor
open Go.ChangeShapes Go.WideShapes Go.ChangeAt Go.RowKit Go.Shelf GF
set_option linter.unusedVariables false
set_option maxRecDepth 100000
set_option linter.unusedSimpArgs false
attribute [local go_sem] Oper.semAt_some

theorem box_below {W W' : World} {B C : Nat} {t : TypeId} {v : Value} (h : Boxed W B t v) (hb : Below C W W') (hlt : B < C) : Boxed W' B t v := (hb.block B hlt).trans h
theorem box_set {W : World} {B B' : Nat} {t : TypeId} {v : Value} (h : Boxed W B t v) (hne : B ≠ B') (u : Value) : Boxed (W.setCell ⟨B', 0, none⟩ u) B t v := (Below.heap_setCell W ⟨B', 0, none⟩ u B hne).trans h
theorem own_below {w w' : World} {base : Nat} {e : TypeId} {v : Value} {n : Nat} {xs : List Value} (h : w.ownsRow base e 1 v n xs) (hb : Below w.heap.size w w') : w'.ownsRow base e 1 v n xs := by
  have hlt := h.lt
  refine ⟨h.1, ?_⟩
  rcases h.2 with h2 | ⟨g, cap, cur, h1, h2, h3, h4⟩
  · exact .inl h2
  · subst h1
    exact .inr ⟨g, _, cur, rfl, h2, (hb.block g (hlt g rfl).2).trans h3, h4⟩
theorem box_noncell {w w' : World} {B : Nat} {t : TypeId} {v : Value} {row : Option Nat} (h : Boxed w B t v) (hg : w.grownBy w' row) (hr : ∀ r, row = some r → ∃ o : Obj, w.heap[r]? = some o ∧ o.isCells = false) : Boxed w' B t v :=
  h.kept hg fun e => by
    obtain ⟨o, ho, hc⟩ := hr B e.symm
    rw [show w.heap[B]? = _ from h] at ho
    cases ho
    cases hc
theorem grownBy_at' (w : World) (g m : Nat) (v : Value) : w.grownBy (w.setCell ⟨g, m, none⟩ v) (some g) :=
  ⟨rfl, rfl, rfl, by show w.heap.size ≤ (w.heap.modify _ _).size; rw [Array.size_modify]; exact Nat.le_refl _, fun i _ hne => Below.heap_setCell _ _ _ i (fun e => hne (by rw [e]))⟩
theorem own_isCells {w : World} {base : Nat} {e : TypeId} {g n c : Nat} {xs : List Value} (h : w.ownsRow base e 1 (.slice (some ⟨g, 0, none⟩) n c) n xs) (o : Obj) (ho : w.heap[g]? = some o) : o.isCells = true := by
  rcases h.2 with ⟨h1, _⟩ | ⟨g', _, cur, h1, _, h3, _⟩
  · cases h1
  · cases h1; rw [h3] at ho; cases ho; rfl
/-- A row of numbers, gone through by an iterator that asks no more than that numbers stand there. -/
theorem rd_any {W : World} {Bx g n c base : Nat} {e : TypeId} {P : List GF} (hb : W.cell? ⟨Bx, 0, none⟩ = some (.slice (some ⟨g, 0, none⟩) n c)) (h : W.ownsRow base e 1 (.slice (some ⟨g, 0, none⟩) n c) n ((iL P).map (Value.int .u8))) : Rd Bx n (some ⟨g, 0, none⟩) c (fun _ _ => True) W :=
  ⟨hb, fun j hj => ⟨g, 0, co P j, rfl, trivial, by rw [own_cells h j hj, getD_iL]⟩⟩

/-- Where the boxes of f and q are laid. -/
theorem two_boxes (w : World) (t1 t2 : TypeId) (u v : Value) : Boxed ((w.alloc (.cells #[u] t1)).alloc (.cells #[v] t2)) w.heap.size t1 u ∧ Boxed ((w.alloc (.cells #[u] t1)).alloc (.cells #[v] t2)) (w.heap.size + 1) t2 v := by
  have h1 := (Boxed.new w t1 u).alloc (.cells #[v] t2)
  have h2 := Boxed.new (w.alloc (.cells #[u] t1)) t2 v
  rw [World.size_alloc] at h2
  exact ⟨h1, h2⟩

set_option maxRecDepth 100000 in
set_option maxHeartbeats 4000000 in
theorem divmod_any (b : Nat) (a : Option Addr) (L cap : Nat) (P : List GF) (a2 : Option Addr) (L2 cap2 : Nat) (Q : List GF) (w : World) (hf : Fld w b) (hx : Pa w a L cap P) (hy : Pa w a2 L2 cap2 Q) (hL : L ≤ 1000000) (hL2 : L2 ≤ 1000000) (hq : tr Q ≠ []) :
    Calls Tryz.prog 138 #[.pointer (some ⟨b, 0, none⟩), .slice a L cap, .slice a2 L2 cap2] w fun e w' => ∃ (v1 v2 : Value) (A R : List GF), e = .returned (.tuple #[v1, v2, .int .i64 0]) ∧
      w'.ownsRow w.heap.size 5 1 v1 A.length ((iL A).map (Value.int .u8)) ∧ w'.ownsRow w.heap.size 5 1 v2 (tr R).length ((iL (tr R)).map (Value.int .u8)) ∧
      Hid (A.length ≤ L ∧ tr A = A ∧ (tr R).length < (tr Q).length ∧ ∀ k, co (mulL A Q) k + co R k = co P k) ∧ Below w.heap.size w w' := by
  have HX := Lib.hid hx
  have HY := Lib.hid hy
  have HF := Lib.hid hf
  obtain ⟨d, hd⟩ : ∃ d, (tr Q).length = d + 1 := ⟨(tr Q).length - 1, by have := tr_pos hq; omega⟩
  obtain ⟨n, hn⟩ : ∃ n, n = (tr P).length := ⟨_, rfl⟩
  have hnL : n ≤ 1000000 := by have := tr_len_le P; have := hx.len; omega
  have KnL := Lib.hid (show n ≤ L by have := tr_len_le P; have := hx.len; omega)
  have hdL : d ≤ 1000000 := by have := tr_len_le Q; have := hy.len; omega
  have hT : ∀ w1, Below w.heap.size w w1 → Calls Tryz.prog 161 #[.slice a2 L2 cap2] w1 fun e w' => e = .returned (.slice a2 (d + 1 : Nat) cap2) ∧ Below w1.heap.size w1 w' := fun w1 hb => by
    have := trimmed_8 a2 L2 cap2 Q w1 (HY.out.on hb).1 (by omega)
    rwa [hd] at this
  have HT := Lib.hid hT
  have Hd := Lib.hid hd
  have Hn := Lib.hid hn
  have Hq := Lib.hid hq
  obtain ⟨dd, hdd⟩ : ∃ dd, dd = d + 1 := ⟨_, rfl⟩
  rw [← hdd] at HT
  have q1 : (dd : Int) - 1 = (d : Int) := by omega
  have Hdd := Lib.hid hdd
  have hbb : b < w.heap.size := hf.1
  clear hT hd hn hq hx hy hf hdd
  refine (callsIn_wide (n := 3)).1 ?_
  refine callsIn_of_wp_marks Tryz.func138 rfl trivial ?_ rfl
  simp only [Tryz.ntmps138, List.size_toArray, List.length_cons, List.length_nil, Nat.reduceAdd, Nat.reduceSub, Array.replicate_succ, Array.replicate_zero, List.push_toArray, List.append_toArray, List.nil_append, List.cons_append]
  refine wpIn_wide.2 ?_
  have HQ0 := Lib.hid (two_boxes w 32 22 (.pointer (some ⟨b, 0, none⟩)) (.slice a2 L2 cap2))
  have HB0 := Lib.hid (((Below.refl w.heap.size w).alloc (Nat.le_refl _) (.cells #[.pointer (some ⟨b, 0, none⟩)] 32)).alloc (by simp) (.cells #[.slice a2 L2 cap2] 22))
  go_upto_region 4 with (first
    | (go_at_call 161; go_loud (refine (HT.out _ HB0.out).mono ?_); rintro e w1 ⟨rfl, hb1⟩; have bq1 := box_below HQ0.out.2 hb1 (by simp); have hcq1 := bq1.cell; have hfq1 := bq1.frozen; have BQ1 := Lib.hid bq1; clear bq1; have BF1 := Lib.hid (box_below HQ0.out.1 hb1 (by simp; omega)); have HB1 := Lib.hid (bt HB0.out hb1); clear hb1)
    | fail)
  clear hcq1 hfq1
  have BQ2 := Lib.hid (BQ1.out.set (.slice a2 dd cap2))
  have BF2 := Lib.hid (box_set BF1.out (B' := w.heap.size + 1) (by omega) (.slice a2 dd cap2))
  have HB2 := Lib.hid (HB1.out.setCell (p := ⟨w.heap.size + 1, 0, none⟩) (by simp) (.slice a2 dd cap2))
  generalize hW2 : w1.setCell ⟨w.heap.size + 1, 0, none⟩ (.slice a2 dd cap2) = W2 at BQ2 BF2 HB2 ⊢
  clear BQ1 BF1 HB1 hW2 HQ0 HB0 HT
  have hcq2 := BQ2.out.cell
  have BD3 := Lib.hid (Boxed.new W2 3 (.int .i64 (d : Int)))
  have HB3 := Lib.hid (HB2.out.alloc HB2.out.size (.cells #[.int .i64 (d : Int)] 3))
  have hTr : ∃ W3, W3 = W2.alloc (.cells #[.int .i64 (d : Int)] 3) ∧ Calls Tryz.prog 162 #[.slice a L cap] W3 fun e w' => ∃ ar cr, e = .returned (.slice ar n cr) ∧ w'.ownsRow W3.heap.size 5 1 (.slice ar n cr) n ((iL (tr P)).map (Value.int .u8)) ∧ Below W3.heap.size W3 w' := by
    refine ⟨_, rfl, (trim_any a L cap P _ (HX.out.on HB3.out) (by omega)).mono ?_⟩
    rintro e w' ⟨v, rfl, hown, hb⟩
    rw [← Hn.out] at hown
    obtain ⟨ar, cr, rfl, _⟩ := own_form hown
    exact ⟨ar, cr, rfl, hown, hb⟩
  obtain ⟨W3, hW3, hTr⟩ := hTr
  have HTr := Lib.hid hTr
  rw [← hW3] at BD3 HB3
  have HW3 := Lib.hid hW3
  clear hTr hW3
  have q2 : ¬ (d : Int) < 0 := by omega
  go_upto_region 8 with (first
    | (go_at_call 162; rw [← HW3.out]; go_loud (refine HTr.out.mono ?_); rintro e w4 ⟨ar, cr, rfl, hown4, hb4⟩; have HO4 := Lib.hid hown4; have BD4 := Lib.hid (box_below BD3.out hb4 (by rw [HW3.out]; simp)); have hcd := (BD4.out.alloc (.cells #[.slice ar n cr] 22)).cell; have HB4 := Lib.hid (bt HB3.out hb4); have H34 := Lib.hid hb4; clear hown4 hb4)
    | fail)
  have BR5 := Lib.hid (Boxed.new w4 22 (.slice ar n cr))
  have HB5 := Lib.hid (HB4.out.alloc HB4.out.size (.cells #[.slice ar n cr] 22))
  have BD5 := Lib.hid (BD4.out.alloc (.cells #[.slice ar n cr] 22))
  have h24 : W2.heap.size < w4.heap.size := by have := H34.out.size; rw [HW3.out, World.size_alloc] at this; omega
  have lift : ∀ {B : Nat} {t : TypeId} {v : Value}, Boxed W2 B t v → Boxed (w4.alloc (.cells #[.slice ar n cr] 22)) B t v := fun {B t v} h => by
    have h1 : Boxed W3 B t v := by rw [HW3.out]; exact h.alloc _
    exact (box_below h1 H34.out h1.lt).alloc _
  have BF5 := Lib.hid (lift BF2.out)
  have BQ5 := Lib.hid (lift BQ2.out)
  have HR5 : Hid ((w4.alloc (.cells #[.slice ar n cr] 22)).ownsRow w.heap.size 5 1 (.slice ar n cr) n ((iL (tr P)).map (Value.int .u8)) ∧ ∀ gr off, ar = some ⟨gr, off, none⟩ → off = 0 ∧ W3.heap.size ≤ gr ∧ gr < w4.heap.size) := Lib.hid ⟨own_base (own_below HO4.out ((Below.refl w4.heap.size w4).alloc (Nat.le_refl _) _)) HB3.out.size, fun gr off e => by
    rcases HO4.out.2 with ⟨h1, _⟩ | ⟨gr', c, cur, h1, h2, _⟩
    · cases h1; cases e
    · cases h1; cases e
      exact ⟨rfl, h2, (HO4.out.lt _ rfl).2⟩⟩
  have hbase : W3.heap.size = W2.heap.size + 1 := by rw [HW3.out, World.size_alloc]
  have hs2 : w.heap.size + 2 ≤ W2.heap.size := by have := BQ2.out.lt; omega
  obtain ⟨sR, hsR⟩ : ∃ sR, sR = w4.heap.size := ⟨_, rfl⟩
  obtain ⟨sD, hsD⟩ : ∃ sD, sD = W2.heap.size := ⟨_, rfl⟩
  generalize hw5 : w4.alloc (.cells #[.slice ar n cr] 22) = w5 at BR5 HB5 BD5 BF5 BQ5 HR5 hcd ⊢
  have hs5 := Lib.hid (show w5.heap.size = sR + 1 by rw [← hw5, World.size_alloc, hsR])
  rw [← hsR] at BR5 HR5 h24 ⊢
  rw [← hsD] at BD5 h24 hs2 hbase hcd ⊢
  rw [hbase] at HR5
  clear hw5 BF2 BQ2 HB2 BD3 HB3 HTr HO4 BD4 HB4 H34 HW3 hsR hsD lift hcq2
  have hcR := BR5.out.cell
  obtain ⟨m, hm⟩ : ∃ m, m = n - d := ⟨_, rfl⟩
  have Hm := Lib.hid hm
  clear hm
  go_cut [11] from 24 to 29 (fun p wx => ∃ gq Bq : Nat, p = .pointer (some ⟨Bq, 0, none⟩) ∧ w5.heap.size ≤ gq ∧ w5.heap.size ≤ Bq ∧ gq ≠ Bq ∧ Hid (Boxed wx Bq 22 (.slice (some ⟨gq, 0, none⟩) m m)) ∧ Hid (wx.ownsRow w.heap.size 5 1 (.slice (some ⟨gq, 0, none⟩) m m) m ((iL (List.replicate m 0)).map (Value.int .u8))) ∧ Hid (Below w5.heap.size w5 wx))
  case first =>
    have hmk := run_make_row' (P := Tryz.prog) 22 5 (.int .u8 0) 1 Tryz.underlying22 info5 rfl .i64 .i64 m (by have := Hm.out; omega) (by have := Hm.out; omega)
    have hfin : ∃ gq Bq : Nat, Value.pointer (some ⟨w5.heap.size + 1, 0, none⟩) = .pointer (some ⟨Bq, 0, none⟩) ∧ w5.heap.size ≤ gq ∧ w5.heap.size ≤ Bq ∧ gq ≠ Bq ∧ Hid (Boxed ((w5.alloc (.cells (madeCells #[.int .u8 0] m) 5)).alloc (.cells #[.slice (some ⟨w5.heap.size, 0, none⟩) m m] 22)) Bq 22 (.slice (some ⟨gq, 0, none⟩) m m)) ∧ Hid (((w5.alloc (.cells (madeCells #[.int .u8 0] m) 5)).alloc (.cells #[.slice (some ⟨w5.heap.size, 0, none⟩) m m] 22)).ownsRow w.heap.size 5 1 (.slice (some ⟨gq, 0, none⟩) m m) m ((iL (List.replicate m 0)).map (Value.int .u8))) ∧ Hid (Below w5.heap.size w5 ((w5.alloc (.cells (madeCells #[.int .u8 0] m) 5)).alloc (.cells #[.slice (some ⟨w5.heap.size, 0, none⟩) m m] 22))) := by
      have h1 := own_made (w := w5) (e := 5) (n := m) (by unfold maxLen; have := Hm.out; omega)
      rw [show List.replicate m (0 : Int) = iL (List.replicate m 0) by simp only [iL, List.map_replicate, toI_zero]] at h1
      have h2 := Boxed.new (w5.alloc (.cells (madeCells #[.int .u8 0] m) 5)) 22 (.slice (some ⟨w5.heap.size, 0, none⟩) m m)
      rw [World.size_alloc] at h2
      exact ⟨_, _, rfl, Nat.le_refl _, Nat.le_succ _, by omega, Lib.hid h2, Lib.hid (own_base (own_on h1 ((Below.refl _ _).alloc (Nat.le_refl _) _) (by simp)) HB5.out.size), Lib.hid (((Below.refl _ w5).alloc (Nat.le_refl _) _).alloc (by simp) _)⟩
    have HFin := Lib.hid hfin
    clear hfin
    by_cases hdn : d < n
    · have qm : (n : Int) - (d : Int) = (m : Int) := by have := Hm.out; omega
      have q0 : (0 : Int) < (m : Int) := by have := Hm.out; omega
      clear hdn
      go_wp2
      all_goals
        go_meet
        exact HFin.out
    · have hm0 : m = 0 := by have := Hm.out; omega
      subst hm0
      have hmk0 : ∀ w : World, (Instr.makeSlice 22 (.int .i64 0) (.int .i64 0)).run Tryz.prog w = .ok (.slice (some ⟨w.heap.size, 0, none⟩) 0 0) (w.alloc (.cells (madeCells #[.int .u8 0] 0) 5)) := fun w => hmk w
      clear hmk
      by_cases hnd : n = d
      · have q0 : (n : Int) - (d : Int) = 0 := by omega
        clear hdn hnd
        go_wp2
        all_goals
          go_meet
          exact HFin.out
      · have q0 : (n : Int) - (d : Int) < 0 := by omega
        clear hdn hnd
        go_wp2
        all_goals
          go_meet
          exact HFin.out
  case rest =>
    obtain ⟨gq, Bq, rfl, hgq, hBq, hne, BQt, HQt, HBc⟩ := hcut
    have hcQ := BQt.out.cell
    rw [hs5.out] at hgq hBq
    have lift2 : ∀ {B : Nat} {t : TypeId} {v : Value}, Boxed w5 B t v → Boxed (wc.alloc (.cells #[.slice (some ⟨gq, 0, none⟩) m m] 22)) B t v := fun {B t v} h => (box_below h HBc.out h.lt).alloc _
    have bF := lift2 BF5.out
    have bQ := lift2 BQ5.out
    have bD := lift2 BD5.out
    have bR := lift2 BR5.out
    have bT := BQt.out.alloc (.cells #[.slice (some ⟨gq, 0, none⟩) m m] 22)
    have bX := Boxed.new wc 22 (.slice (some ⟨gq, 0, none⟩) m m)
    have hrow := own_below (own_below HR5.out.1 HBc.out) ((Below.refl wc.heap.size wc).alloc (Nat.le_refl _) (.cells #[.slice (some ⟨gq, 0, none⟩) m m] 22))
    have hquo := own_below HQt.out ((Below.refl wc.heap.size wc).alloc (Nat.le_refl _) (.cells #[.slice (some ⟨gq, 0, none⟩) m m] 22))
    have hB6 : Below w.heap.size w (wc.alloc (.cells #[.slice (some ⟨gq, 0, none⟩) m m] 22)) := (bt HB5.out HBc.out).alloc (bt HB5.out HBc.out).size _
    have hgqlt : gq < wc.heap.size := (HQt.out.lt gq rfl).2
    have hBqlt : Bq < wc.heap.size := BQt.out.lt
    have hml : m ≤ 1000000 := by have := Hm.out; omega
    obtain ⟨Bx, hBx⟩ : ∃ Bx, Bx = wc.heap.size := ⟨_, rfl⟩
    have hgr := HR5.out.2
    have h5c : sR < wc.heap.size := by have := HBc.out.size; rw [hs5.out] at this; omega
    go_wp2_with (go_at_call 160; refine (back_any _ _ _ _).mono ?_; rintro e w6 ⟨rfl, hw6⟩; rw [← hw6] at bF bQ bD bR bT bX hrow hquo hB6; have hs6 : w6.heap.size = wc.heap.size + 1 := (by rw [hw6, World.size_alloc]); have HS6 := Lib.hid hs6; clear hs6 hw6)
    rw [← hBx] at bX HS6 hgqlt hBqlt h5c ⊢
    clear hBx lift2 BR5 BF5 BQ5 BD5 HB5 HBc HQt BQt HR5 hcQ hcR hcd
    have HBF := Lib.hid bF; have HBQ := Lib.hid bQ; have HBD := Lib.hid bD; have HBR := Lib.hid bR; have HBT := Lib.hid bT; have HBX := Lib.hid bX; have HROW := Lib.hid hrow; have HQUO := Lib.hid hquo; have HB6 := Lib.hid hB6
    clear bF bQ bD bR bT bX hrow hquo hB6
    refine (wpIn_wide (n := 3)).1 ?_
    refine wpIn_rangeFunc_ownF rfl (by omega) (gf := 174) (lb := #[.pointer (some ⟨Bx, 0, none⟩)]) rfl trivial (enters_of Tryz.func174 (by kernel_rfl) rfl)
      (back_stops Fence.wide (3 - 1) trivial rfl (by omega) Bx m m (some ⟨gq, 0, none⟩) (fun _ _ => True) (by omega) _ (by rw [HS6.out]; omega) (rd_any HBX.out.cell HQUO.out) (fun _ bb off e => by cases e; rw [HS6.out]; omega)) (fun h k r => k (h r)) (fun W l o o' _ hl ho _ r => r.put o' hl ho) (Below.refl _ _) (fun _ => by rfl)
      (fun pre W => (Boxed W w.heap.size 32 (.pointer (some ⟨b, 0, none⟩)) ∧ Boxed W (w.heap.size + 1) 22 (.slice a2 dd cap2) ∧ Boxed W sD 3 (.int .i64 (d : Int)) ∧ Boxed W sR 22 (.slice ar n cr) ∧ Boxed W Bq 22 (.slice (some ⟨gq, 0, none⟩) m m) ∧ Boxed W Bx 22 (.slice (some ⟨gq, 0, none⟩) m m) ∧
        W.ownsRow w.heap.size 5 1 (.slice ar n cr) n ((iL (divF d (tr Q) (List.replicate m 0, tr P) pre).2).map (Value.int .u8)) ∧ W.ownsRow w.heap.size 5 1 (.slice (some ⟨gq, 0, none⟩) m m) m ((iL (divF d (tr Q) (List.replicate m 0, tr P) pre).1).map (Value.int .u8))) ∧ Below w.heap.size w W)
      (fun _ _ _ => False)
      (OwnFrom.and (Own.from (fun s A B row hs hg hr => ⟨box_noncell hs.1 hg hr, box_noncell hs.2.1 hg hr, box_noncell hs.2.2.1 hg hr, box_noncell hs.2.2.2.1 hg hr, box_noncell hs.2.2.2.2.1 hg hr, box_noncell hs.2.2.2.2.2.1 hg hr, own_noncell hs.2.2.2.2.2.2.1 hg hr, own_noncell hs.2.2.2.2.2.2.2 hg hr⟩) _) (ownFrom_below (Nat.le_refl _) HB6.out.size))
      (fun _ _ _ _ _ hs _ _ => hs)
      ⟨⟨HBF.out, HBQ.out, HBD.out, HBR.out, HBT.out, HBX.out, HROW.out, HQUO.out⟩, HB6.out⟩
      (fun x => { tmps := #[.pointer (some ⟨b, 0, none⟩), .slice a L cap, .slice a2 L2 cap2, .pointer (some ⟨w.heap.size, 0, none⟩), undef, .pointer (some ⟨w.heap.size + 1, 0, none⟩), .slice none 0 0, .slice none 0 0, .int .i64 0, .pointer (some ⟨sD, 0, none⟩), .pointer (some ⟨sR, 0, none⟩), .pointer (some ⟨Bq, 0, none⟩), .int .i64 ((x.1.1 : Nat) : Int), .pointer (some ⟨b, 0, none⟩), .bool false, .slice a2 L2 cap2, .slice a2 dd cap2, .slice a2 dd cap2, .int .i64 (dd : Int), .int .i64 (d : Int), .int .i64 (d : Int), .bool false, .slice a L cap, .slice ar n cr, u24, u25, u26, u27, u28, u29, .slice (some ⟨gq, 0, none⟩) m m, .func (.func 174) #[] #[.pointer (some ⟨Bx, 0, none⟩)], .int .i64 ((x.1.1 : Nat) : Int), .int .u8 (toI x.2), undef, undef, undef, undef, undef, undef, undef, undef, undef, undef, undef, undef, undef, undef, undef, undef, undef, undef, undef, undef, undef, undef, undef, undef, undef, undef, undef, undef, undef, undef, undef], defers := [] }) ?assign ?body ?done ?stop
    case assign =>
      intro l x W K hK
      dsimp only [itv]
      gi_wp2
      exact hK
    case body =>
      rintro l pre ⟨⟨i, hi⟩, c0⟩ W ⟨⟨bF, bQ, bD, bR, bT, bX, hrow, hquo⟩, hB⟩ _
      obtain ⟨A, hA⟩ : ∃ A, A = (divF d (tr Q) (List.replicate m 0, tr P) pre).1 := ⟨_, rfl⟩
      obtain ⟨R, hR⟩ : ∃ R, R = (divF d (tr Q) (List.replicate m 0, tr P) pre).2 := ⟨_, rfl⟩
      have hlen := divF_len d (tr Q) (List.replicate m 0, tr P) pre
      rw [← hA, ← hR] at hlen
      rw [← hR] at hrow
      rw [← hA] at hquo
      have hAl : A.length = m := by rw [hlen.1]; simp
      have hRl : R.length = n := by rw [hlen.2, Hn.out]
      have hidn : i + d < n := by have := Hm.out; omega
      obtain ⟨gr, rfl⟩ : ∃ gr, ar = some ⟨gr, 0, none⟩ := by
        rcases hrow.2 with ⟨_, h2⟩ | ⟨gr, c, cur, h1, _⟩
        · omega
        · cases h1; exact ⟨gr, rfl⟩
      obtain ⟨_, hgr1, hgr2⟩ := hgr gr 0 rfl
      obtain ⟨bq, oq, rfl, hbq, hcq⟩ := HY.out.trim.at_ (k := d) (by rw [Hd.out]; omega)
      have hcr := own_cells hrow (i + d) hidn
      rw [Nat.zero_add, getD_iL] at hcr
      have hcg := own_cells hquo i hi
      rw [Nat.zero_add] at hcg
      have hfz := hquo.frozenAt i
      have hcl : W.cell? ⟨bq, oq + d, none⟩ = some (.int .u8 (toI (co (tr Q) d))) := (hB.cell (p := ⟨bq, oq + d, none⟩) hbq).trans hcq
      have hfw := HF.out.below hB
      have hld : co (tr Q) d ≠ 0 := by have := tr_last Q Hq.out; rw [Hd.out, Nat.add_sub_cancel] at this; rwa [co_tr]
      have hcF := bF.cell; have hcQ := bQ.cell; have hcD := bD.cell; have hcR := bR.cell; have hcT := bT.cell
      have HLd := Lib.hid hld
      have qi0 : (0 : Int) ≤ (i : Int) := by omega
      have qim : (i : Int) < (m : Int) := by omega
      have qd0 : (0 : Int) ≤ (d : Int) := by omega
      have qdd : (d : Int) < (dd : Int) := by omega
      have hwr : IntKind.i64.wrap ((i : Int) + (d : Int)) = ((i + d : Nat) : Int) := by rw [IntKind.wrap_i64]; omega
      have qid : ((i + d : Nat) : Int) < (n : Int) := by omega
      have qs0 : (0 : Int) ≤ (i : Int) + (d : Int) := by omega
      have qsn : (i : Int) + (d : Int) < (n : Int) := by omega
      have qst : ((i : Int) + (d : Int)).toNat = i + d := by omega
      obtain ⟨c, hc⟩ : ∃ c, c = co R (i + d) * GF.inv (co (tr Q) d) := ⟨_, rfl⟩
      have Kc := Lib.hid hc
      have hdv := div_G b (co R (i + d)) (co (tr Q) d) W.drew hfw HLd.out
      rw [← hc] at hdv
      have KDv := Lib.hid hdv
      clear hc hdv
      have hneg : gr ≠ gq := by omega
      have hg1' := grownBy_at' W gq i (.int .u8 (toI c))
      have hst := (hquo.stored i (.int .u8 (toI c))).1
      rw [map_set_u8, show (iL A).set i (toI c) = iL (A.set i c) by simp [iL, List.map_set]] at hst
      have J1 := Lib.hid (And.intro (own_drew hst) (And.intro (own_drew (hrow.kept hg1' (.inr (by simp [Value.ownBlock]; omega)))) (And.intro (grown_drew hg1') ((hB.setCell (p := ⟨gq, i, none⟩) (show w.heap.size ≤ gq by omega) (.int .u8 (toI c))).drew))))
      have J2 := Lib.hid (And.intro (bF.kept (grown_drew hg1') (by simp; omega)) (And.intro (bQ.kept (grown_drew hg1') (by simp; omega)) (And.intro (bD.kept (grown_drew hg1') (by simp; omega)) (And.intro (bR.kept (grown_drew hg1') (by simp; omega)) (And.intro (bT.kept (grown_drew hg1') (by simp; omega)) (bX.kept (grown_drew hg1') (by simp; omega)))))))
      have J3 := Lib.hid ((KeepsOthers.setCell W ⟨gq, i, none⟩ (.int .u8 (toI c))).trans (KeepsOthers.drew _))
      have hcrn : n ≤ cr := by
        rcases hrow.2 with ⟨h1, _⟩ | ⟨_, _, _, h1, _, _, h4, _⟩
        · cases h1
        · cases h1; exact h4
      have hcrm : cr ≤ 9223372036854775807 := by
        rcases hrow.2 with ⟨h1, _⟩ | ⟨_, _, _, h1, _, _, _, h5, _⟩
        · cases h1
        · cases h1; exact h5
      have KBs := Lib.hid HY.out.trim.1.2.2.1
      have KDim := Lib.hid (And.intro hneg (And.intro hcrn hcrm))
      clear hst hg1' hneg hcrn hcrm
      have KF := Lib.hid bF; have KQ := Lib.hid bQ; have KD := Lib.hid bD; have KR := Lib.hid bR; have KT := Lib.hid bT; have KX := Lib.hid bX; have KRow := Lib.hid hrow; have KQuo := Lib.hid hquo; have KB := Lib.hid hB; have KFw := Lib.hid hfw
      have KA := Lib.hid hA; have KRR := Lib.hid hR; have KAl := Lib.hid hAl; have KRl := Lib.hid hRl; have Kcq := Lib.hid hcq; have Kgr := Lib.hid hgr; have Kbq := Lib.hid hbq; have Kidn := Lib.hid hidn; have Kg1 := Lib.hid (And.intro hgr1 hgr2)
      clear hld bF bQ bD bR bT bX hrow hquo hB hfw hA hR hAl hRl hcq hgr hbq hidn hgr1 hgr2 hlen qid
      gi_wp2
      refine round_held (fun V => V.cell? ⟨w.heap.size, 0, none⟩ = some (.pointer (some ⟨b, 0, none⟩)) ∧ V.cell? ⟨w.heap.size + 1, 0, none⟩ = some (.slice (some ⟨bq, oq, none⟩) dd cap2) ∧ V.cell? ⟨sD, 0, none⟩ = some (.int .i64 (d : Int)) ∧ V.cell? ⟨sR, 0, none⟩ = some (.slice (some ⟨gr, 0, none⟩) n cr) ∧ V.cell? ⟨Bq, 0, none⟩ = some (.slice (some ⟨gq, 0, none⟩) m m) ∧ V.cell? ⟨gr, i + d, none⟩ = some (.int .u8 (toI (co R (i + d)))) ∧ V.cell? ⟨bq, oq + d, none⟩ = some (.int .u8 (toI (co (tr Q) d)))) (by kernel_rfl) (by kernel_rfl) (fun ⟨_, _, h⟩ => h) ?_
      have hHeld : W.drew.cell? ⟨w.heap.size, 0, none⟩ = some (.pointer (some ⟨b, 0, none⟩)) ∧ W.drew.cell? ⟨w.heap.size + 1, 0, none⟩ = some (.slice (some ⟨bq, oq, none⟩) dd cap2) ∧ W.drew.cell? ⟨sD, 0, none⟩ = some (.int .i64 (d : Int)) ∧ W.drew.cell? ⟨sR, 0, none⟩ = some (.slice (some ⟨gr, 0, none⟩) n cr) ∧ W.drew.cell? ⟨Bq, 0, none⟩ = some (.slice (some ⟨gq, 0, none⟩) m m) ∧ W.drew.cell? ⟨gr, i + d, none⟩ = some (.int .u8 (toI (co R (i + d)))) ∧ W.drew.cell? ⟨bq, oq + d, none⟩ = some (.int .u8 (toI (co (tr Q) d))) := ⟨hcF, hcQ, hcD, hcR, hcT, hcr, hcl⟩
      have KH := Lib.hid hHeld
      have hs : ∀ k, k ≠ gq → ∀ {o : Nat} {u : Value}, W.drew.cell? ⟨k, o, none⟩ = some u → (W.drew.setCell ⟨gq, i, none⟩ (.int .u8 (toI c))).cell? ⟨k, o, none⟩ = some u := fun k hk {o u} h => cell_of_heap h (Below.heap_setCell _ _ _ _ hk)
      have hg1 := Kg1.out.1
      have hg2 := Kg1.out.2
      have hbq := Kbq.out
      have KH1 := Lib.hid (And.intro (hs _ (by omega) hHeld.1) (And.intro (hs _ (by omega) hHeld.2.1) (And.intro (hs _ (by omega) hHeld.2.2.1) (And.intro (hs _ (by omega) hHeld.2.2.2.1) (And.intro (hs _ (Ne.symm hne) hHeld.2.2.2.2.1) (And.intro (hs _ (by omega) hHeld.2.2.2.2.2.1) (hs _ (by omega) hHeld.2.2.2.2.2.2)))))))
      clear hs hg1 hg2 hbq
      clear hcF hcQ hcD hcR hcT hcr hcl
      refine wpAnyH_take (i := 0) (v := ?v0) rfl (by kernel_rfl) (by kernel_rfl) (by kernel_rfl) (fun _ _ _ h => h) (Or.inl ⟨by rfl, ?hy0⟩) hHeld ?rest0
      case hy0 =>
        intro V hV
        try dsimp only at hV
        go_simp
        all_goals with_reducible rfl
      case' rest0 => simp only [Act.put, List.setIfInBounds_toArray, List.set_cons_zero, List.set_cons_succ]
      refine wpAnyH_take (i := 1) (v := ?v1) rfl (by kernel_rfl) (by kernel_rfl) (by kernel_rfl) (fun _ _ _ h => h) (Or.inl ⟨by rfl, ?hy1⟩) hHeld ?rest1
      case hy1 =>
        intro V hV
        try dsimp only at hV
        go_simp
        all_goals with_reducible rfl
      case' rest1 => simp only [Act.put, List.setIfInBounds_toArray, List.set_cons_zero, List.set_cons_succ]
      refine wpAnyH_take (i := 2) (v := ?v2) rfl (by kernel_rfl) (by kernel_rfl) (by kernel_rfl) (fun _ _ _ h => h) (Or.inl ⟨by rfl, ?hy2⟩) hHeld ?rest2
      case hy2 =>
        intro V hV
        try dsimp only at hV
        go_simp
        all_goals with_reducible rfl
      case' rest2 => simp only [Act.put, List.setIfInBounds_toArray, List.set_cons_zero, List.set_cons_succ]
      refine wpAnyH_take (i := 3) (v := ?v3) rfl (by kernel_rfl) (by kernel_rfl) (by kernel_rfl) (fun _ _ _ h => h) (Or.inl ⟨by rfl, ?hy3⟩) hHeld ?rest3
      case hy3 =>
        intro V hV
        try dsimp only at hV
        go_simp
        all_goals with_reducible rfl
      case' rest3 => simp only [Act.put, List.setIfInBounds_toArray, List.set_cons_zero, List.set_cons_succ]
      refine wpAnyH_take (i := 4) (v := ?v4) rfl (by kernel_rfl) (by kernel_rfl) (by kernel_rfl) (fun _ _ _ h => h) (Or.inl ⟨by rfl, ?hy4⟩) hHeld ?rest4
      case hy4 =>
        intro V hV
        try dsimp only at hV
        go_simp
        all_goals with_reducible rfl
      case' rest4 => simp only [Act.put, List.setIfInBounds_toArray, List.set_cons_zero, List.set_cons_succ]
      refine wpAnyH_take (i := 5) (v := ?v5) rfl (by kernel_rfl) (by kernel_rfl) (by kernel_rfl) (fun _ _ _ h => h) (Or.inl ⟨by rfl, ?hy5⟩) hHeld ?rest5
      case hy5 =>
        intro V hV
        try dsimp only at hV
        go_simp
        all_goals with_reducible rfl
      case' rest5 => simp only [Act.put, List.setIfInBounds_toArray, List.set_cons_zero, List.set_cons_succ]
      refine wpAnyH_take (i := 6) (v := ?v6) rfl (by kernel_rfl) (by kernel_rfl) (by kernel_rfl) (fun _ _ _ h => h) (Or.inl ⟨by rfl, ?hy6⟩) hHeld ?rest6
      case hy6 =>
        intro V hV
        try dsimp only at hV
        go_simp
        all_goals with_reducible rfl
      case' rest6 => simp only [Act.put, List.setIfInBounds_toArray, List.set_cons_zero, List.set_cons_succ]
      refine wpAnyH_take (i := 7) (v := ?v7) rfl (by kernel_rfl) (by kernel_rfl) (by kernel_rfl) (fun _ _ _ h => h) (Or.inl ⟨by rfl, ?hy7⟩) hHeld ?rest7
      case hy7 =>
        intro V hV
        try dsimp only at hV
        go_simp
        all_goals with_reducible rfl
      case' rest7 => simp only [Act.put, List.setIfInBounds_toArray, List.set_cons_zero, List.set_cons_succ]
      refine wpAnyH_take (i := 8) (v := ?v8) rfl (by kernel_rfl) (by kernel_rfl) (by kernel_rfl) (fun _ _ _ h => h) (Or.inl ⟨by rfl, ?hy8⟩) hHeld ?rest8
      case hy8 =>
        intro V hV
        try dsimp only at hV
        go_simp
        all_goals with_reducible rfl
      case' rest8 => simp only [Act.put, List.setIfInBounds_toArray, List.set_cons_zero, List.set_cons_succ]
      refine wpAnyH_take (i := 9) (v := ?v9) rfl (by kernel_rfl) (by kernel_rfl) (by kernel_rfl) (fun _ _ _ h => h) (Or.inl ⟨by rfl, ?hy9⟩) hHeld ?rest9
      case hy9 =>
        intro V hV
        try dsimp only at hV
        go_simp
        all_goals with_reducible rfl
      case' rest9 => simp only [Act.put, List.setIfInBounds_toArray, List.set_cons_zero, List.set_cons_succ]
      refine wpAnyH_take (i := 10) (v := ?v10) rfl (by kernel_rfl) (by kernel_rfl) (by kernel_rfl) (fun _ _ _ h => h) (Or.inl ⟨by rfl, ?hy10⟩) hHeld ?rest10
      case hy10 =>
        intro V hV
        try dsimp only at hV
        go_simp
        all_goals with_reducible rfl
      case' rest10 => simp only [Act.put, List.setIfInBounds_toArray, List.set_cons_zero, List.set_cons_succ]
      refine wpAnyH_take (i := 11) (v := ?v11) rfl (by kernel_rfl) (by kernel_rfl) (by kernel_rfl) (fun _ _ _ h => h) (Or.inl ⟨by rfl, ?hy11⟩) hHeld ?rest11
      case hy11 =>
        intro V hV
        try dsimp only at hV
        go_simp
        all_goals with_reducible rfl
      case' rest11 => simp only [Act.put, List.setIfInBounds_toArray, List.set_cons_zero, List.set_cons_succ]
      refine wpAnyH_take (i := 12) (v := ?v12) rfl (by kernel_rfl) (by kernel_rfl) (by kernel_rfl) (fun _ _ _ h => h) (Or.inl ⟨by rfl, ?hy12⟩) hHeld ?rest12
      case hy12 =>
        intro V hV
        try dsimp only at hV
        go_simp
        all_goals with_reducible rfl
      case' rest12 => simp only [Act.put, List.setIfInBounds_toArray, List.set_cons_zero, List.set_cons_succ]
      refine wpAnyH_ready (rs := [13]) (by kernel_rfl) (by simp) ?_
      refine AllReadyH.cons rfl (fun K hK => ?_) AllReadyH.nil
      go_simp
      go_wp2_with (go_at_call 134; refine KDv.out.mono ?_; rintro e w' ⟨rfl, rfl⟩)
      refine hK.out _ _ KH.out (fun hHeld => ?_)
      clear hK K hHeld
      have hHeld := KH.out
      refine wpAnyH_take (i := 14) (v := ?v14) rfl (by kernel_rfl) (by kernel_rfl) (by kernel_rfl) (fun _ _ _ h => h) (Or.inl ⟨by rfl, ?hy14⟩) hHeld ?rest14
      case hy14 =>
        intro V hV
        try dsimp only at hV
        go_simp
        all_goals with_reducible rfl
      case' rest14 => simp only [Act.put, List.setIfInBounds_toArray, List.set_cons_zero, List.set_cons_succ]
      refine wpAnyH_take (i := 15) (v := ?v15) rfl (by kernel_rfl) (by kernel_rfl) (by kernel_rfl) (fun _ _ _ h => h) (Or.inl ⟨by rfl, ?hy15⟩) hHeld ?rest15
      case hy15 =>
        intro V hV
        try dsimp only at hV
        go_simp
        all_goals with_reducible rfl
      case' rest15 => simp only [Act.put, List.setIfInBounds_toArray, List.set_cons_zero, List.set_cons_succ]
      refine wpAnyH_take (i := 16) (v := ?v16) rfl (by kernel_rfl) (by kernel_rfl) (by kernel_rfl) (fun _ _ _ h => h) (Or.inl ⟨by rfl, ?hy16⟩) hHeld ?rest16
      case hy16 =>
        intro V hV
        try dsimp only at hV
        go_simp
        all_goals with_reducible rfl
      case' rest16 => simp only [Act.put, List.setIfInBounds_toArray, List.set_cons_zero, List.set_cons_succ]
      refine wpAnyH_take (i := 17) (v := ?v17) rfl (by kernel_rfl) (by kernel_rfl) (by kernel_rfl) (fun _ _ _ h => h) (Or.inl ⟨by rfl, ?hy17⟩) hHeld ?rest17
      case hy17 =>
        intro V hV
        try dsimp only at hV
        go_simp
        all_goals with_reducible rfl
      case' rest17 => simp only [Act.put, List.setIfInBounds_toArray, List.set_cons_zero, List.set_cons_succ]
      refine wpAnyH_ready (rs := [18]) (by kernel_rfl) (by simp) ?_
      refine AllReadyH.cons rfl (fun K hK => ?_) AllReadyH.nil
      go_simp
      refine hK.out _ _ KH1.out (fun hHeld => ?_)
      clear hK K
      refine wpAnyH_done (by kernel_rfl) ?_ _
      clear hHeld
      have J1' : Hid (((W.setCell ⟨gq, i, none⟩ (.int .u8 (toI c))).drew).ownsRow w.heap.size 5 1 (.slice (some ⟨gq, 0, none⟩) m m) m ((iL (A.set i c)).map (Value.int .u8)) ∧ ((W.setCell ⟨gq, i, none⟩ (.int .u8 (toI c))).drew).ownsRow w.heap.size 5 1 (.slice (some ⟨gr, 0, none⟩) n cr) n ((iL R).map (Value.int .u8)) ∧ W.grownBy ((W.setCell ⟨gq, i, none⟩ (.int .u8 (toI c))).drew) (some gq) ∧ Below w.heap.size w ((W.setCell ⟨gq, i, none⟩ (.int .u8 (toI c))).drew)) := J1
      generalize (W.setCell ⟨gq, i, none⟩ (.int .u8 (toI c))).drew = W1 at J1' J2 J3 ⊢
      clear J1 KH KH1 KDv hcg hfz
      have hcqi := own_cells J1'.out.1 i hi
      rw [Nat.zero_add, getD_iL, co_set (by rw [KAl.out]; exact hi), if_pos rfl] at hcqi
      have hAdd := addTimes_any b gr i (n - i) (cr - i) n cr w.heap.size c (some ⟨bq, oq, none⟩) dd cap2 R (tr Q) W1.drew (HF.out.below J1'.out.2.2.2.drew) (by have := Kg1.out.1; omega) (own_drew J1'.out.2.1) (Pn.below KBs.out J1'.out.2.2.2.drew (by have := Kg1.out.1; omega)) (by rw [Hd.out, Hdd.out]) (by have := Kidn.out; have := Hdd.out; omega) (by have := Kidn.out; have := Hdd.out; omega) (by omega)
      have KAdd := Lib.hid hAdd
      have hHeld : W1.drew.cell? ⟨w.heap.size, 0, none⟩ = some (.pointer (some ⟨b, 0, none⟩)) ∧ W1.drew.cell? ⟨w.heap.size + 1, 0, none⟩ = some (.slice (some ⟨bq, oq, none⟩) dd cap2) ∧ W1.drew.cell? ⟨sR, 0, none⟩ = some (.slice (some ⟨gr, 0, none⟩) n cr) ∧ W1.drew.cell? ⟨Bq, 0, none⟩ = some (.slice (some ⟨gq, 0, none⟩) m m) ∧ W1.drew.cell? ⟨gq, i, none⟩ = some (.int .u8 (toI c)) := ⟨J2.out.1.cell, J2.out.2.1.cell, J2.out.2.2.2.1.cell, J2.out.2.2.2.2.1.cell, hcqi⟩
      have KH2 := Lib.hid hHeld
      have qin : (i : Int) < (n : Int) := by have := Kidn.out; omega
      have qin' : (i : Int) ≤ (n : Int) := by omega
      have qicr : (i : Int) < (cr : Int) := by have := KDim.out; omega
      have qicr' : i < cr := by omega
      have qcri : ¬ cr = i := by omega
      have qnin : i < n := by omega
      have qncr : (n : Int) ≤ (cr : Int) := by have := KDim.out; omega
      clear hAdd hcqi hHeld
      gi_wp2
      refine round_held (fun V => V.cell? ⟨w.heap.size, 0, none⟩ = some (.pointer (some ⟨b, 0, none⟩)) ∧ V.cell? ⟨w.heap.size + 1, 0, none⟩ = some (.slice (some ⟨bq, oq, none⟩) dd cap2) ∧ V.cell? ⟨sR, 0, none⟩ = some (.slice (some ⟨gr, 0, none⟩) n cr) ∧ V.cell? ⟨Bq, 0, none⟩ = some (.slice (some ⟨gq, 0, none⟩) m m) ∧ V.cell? ⟨gq, i, none⟩ = some (.int .u8 (toI c))) (by kernel_rfl) (by kernel_rfl) (fun ⟨_, _, h⟩ => h) ?_
      have hHeld := KH2.out
      refine wpAnyH_take (i := 0) (v := ?v0b) rfl (by kernel_rfl) (by kernel_rfl) (by kernel_rfl) (fun _ _ _ h => h) (Or.inl ⟨by rfl, ?hy0b⟩) hHeld ?rest0b
      case hy0b =>
        intro V hV
        try dsimp only at hV
        go_simp
        all_goals with_reducible rfl
      case' rest0b => simp only [Act.put, List.setIfInBounds_toArray, List.set_cons_zero, List.set_cons_succ]
      refine wpAnyH_take (i := 1) (v := ?v1b) rfl (by kernel_rfl) (by kernel_rfl) (by kernel_rfl) (fun _ _ _ h => h) (Or.inl ⟨by rfl, ?hy1b⟩) hHeld ?rest1b
      case hy1b =>
        intro V hV
        try dsimp only at hV
        go_simp
        all_goals with_reducible rfl
      case' rest1b => simp only [Act.put, List.setIfInBounds_toArray, List.set_cons_zero, List.set_cons_succ]
      refine wpAnyH_take (i := 2) (v := ?v2b) rfl (by kernel_rfl) (by kernel_rfl) (by kernel_rfl) (fun _ _ _ h => h) (Or.inl ⟨by rfl, ?hy2b⟩) hHeld ?rest2b
      case hy2b =>
        intro V hV
        try dsimp only at hV
        go_simp
        all_goals with_reducible rfl
      case' rest2b => simp only [Act.put, List.setIfInBounds_toArray, List.set_cons_zero, List.set_cons_succ]
      refine wpAnyH_take (i := 3) (v := ?v3b) rfl (by kernel_rfl) (by kernel_rfl) (by kernel_rfl) (fun _ _ _ h => h) (Or.inl ⟨by rfl, ?hy3b⟩) hHeld ?rest3b
      case hy3b =>
        intro V hV
        try dsimp only at hV
        go_simp
        all_goals with_reducible rfl
      case' rest3b => simp only [Act.put, List.setIfInBounds_toArray, List.set_cons_zero, List.set_cons_succ]
      refine wpAnyH_take (i := 4) (v := ?v4b) rfl (by kernel_rfl) (by kernel_rfl) (by kernel_rfl) (fun _ _ _ h => h) (Or.inl ⟨by rfl, ?hy4b⟩) hHeld ?rest4b
      case hy4b =>
        intro V hV
        try dsimp only at hV
        go_simp
        all_goals with_reducible rfl
      case' rest4b => simp only [Act.put, List.setIfInBounds_toArray, List.set_cons_zero, List.set_cons_succ]
      refine wpAnyH_take (i := 5) (v := ?v5b) rfl (by kernel_rfl) (by kernel_rfl) (by kernel_rfl) (fun _ _ _ h => h) (Or.inl ⟨by rfl, ?hy5b⟩) hHeld ?rest5b
      case hy5b =>
        intro V hV
        try dsimp only at hV
        go_simp
        all_goals with_reducible rfl
      case' rest5b => simp only [Act.put, List.setIfInBounds_toArray, List.set_cons_zero, List.set_cons_succ]
      refine wpAnyH_take (i := 6) (v := ?v6b) rfl (by kernel_rfl) (by kernel_rfl) (by kernel_rfl) (fun _ _ _ h => h) (Or.inl ⟨by rfl, ?hy6b⟩) hHeld ?rest6b
      case hy6b =>
        intro V hV
        try dsimp only at hV
        go_simp
        all_goals with_reducible rfl
      case' rest6b => simp only [Act.put, List.setIfInBounds_toArray, List.set_cons_zero, List.set_cons_succ]
      refine wpAnyH_take (i := 7) (v := ?v7b) rfl (by kernel_rfl) (by kernel_rfl) (by kernel_rfl) (fun _ _ _ h => h) (Or.inl ⟨by rfl, ?hy7b⟩) hHeld ?rest7b
      case hy7b =>
        intro V hV
        try dsimp only at hV
        go_simp
        all_goals with_reducible rfl
      case' rest7b => simp only [Act.put, List.setIfInBounds_toArray, List.set_cons_zero, List.set_cons_succ]
      refine wpAnyH_take (i := 8) (v := ?v8b) rfl (by kernel_rfl) (by kernel_rfl) (by kernel_rfl) (fun _ _ _ h => h) (Or.inl ⟨by rfl, ?hy8b⟩) hHeld ?rest8b
      case hy8b =>
        intro V hV
        try dsimp only at hV
        go_simp
        all_goals with_reducible rfl
      case' rest8b => simp only [Act.put, List.setIfInBounds_toArray, List.set_cons_zero, List.set_cons_succ]
      refine wpAnyH_ready (rs := [9]) (by kernel_rfl) (by simp) ?_
      refine AllReadyH.cons rfl (fun K hK => ?_) AllReadyH.nil
      go_simp
      go_wp2_with (go_at_call 157; refine KAdd.out.mono ?_; rintro e w3 ⟨rfl, hown3, hg3⟩; have K3 := Lib.hid (And.intro hown3 hg3); clear hown3 hg3)
      have hg3 := K3.out.2
      have hgr1 := Kg1.out.1
      have hgr2 := Kg1.out.2
      have hgr3 := KDim.out.1
      refine hK.out _ _ ⟨hg3.cell KH2.out.1 (by simp; omega), hg3.cell KH2.out.2.1 (by simp; omega), hg3.cell KH2.out.2.2.1 (by simp; omega), hg3.cell KH2.out.2.2.2.1 (by simp; omega), hg3.cell KH2.out.2.2.2.2 (by simp; omega)⟩ (fun hHeld => ?_)
      clear hK K
      refine wpAnyH_done (by kernel_rfl) ?_ _
      have q2 : (divF d (tr Q) (List.replicate m 0, tr P) (pre ++ [((⟨i, hi⟩ : Fin m), c0)])).2 = axp R i c (tr Q) := by rw [divF_snoc]; simp only [divS]; rw [← KRR.out, ← Kc.out]
      have q3 : (divF d (tr Q) (List.replicate m 0, tr P) (pre ++ [((⟨i, hi⟩ : Fin m), c0)])).1 = A.set i c := by rw [divF_snoc]; simp only [divS]; rw [← KRR.out, ← KA.out, ← Kc.out]
      have e1 := (show Boxed W1.drew _ _ _ from J2.out.1).kept hg3 (by simp; omega)
      have e2 := (show Boxed W1.drew _ _ _ from J2.out.2.1).kept hg3 (by simp; omega)
      have e3 := (show Boxed W1.drew _ _ _ from J2.out.2.2.1).kept hg3 (by simp; omega)
      have e4 := (show Boxed W1.drew _ _ _ from J2.out.2.2.2.1).kept hg3 (by simp; omega)
      have e5 := (show Boxed W1.drew _ _ _ from J2.out.2.2.2.2.1).kept hg3 (by simp; omega)
      have e6 := (show Boxed W1.drew _ _ _ from J2.out.2.2.2.2.2).kept hg3 (by simp; omega)
      have e7 := (own_drew J1'.out.1).kept hg3 (.inr (by simp [Value.ownBlock]; omega))
      have e8 := J1'.out.2.2.2.drew.trans (grown_below hg3 (show w.heap.size ≤ gr by omega) J1'.out.2.2.2.size)
      have e9 := J3.out.trans ((KeepsOthers.drew W1).trans (KeepsOthers.of_grownBy hg3 (fun j o ej hj => by cases ej; exact own_isCells (own_drew J1'.out.2.1) _ hj)))
      have e10 := K3.out.1
      rw [← q2] at e10
      rw [← q3] at e7
      have E := Lib.hid (And.intro e9 (And.intro (rd_any e6.cell e7) (And.intro (And.intro e1 (And.intro e2 (And.intro e3 (And.intro e4 (And.intro e5 (And.intro e6 (And.intro e10 e7))))))) e8)))
      clear e1 e2 e3 e4 e5 e6 e7 e8 e9 e10 q2 q3 hg3 hHeld
      gi_wp2
      exact ⟨E.out.1, fun _ => E.out.2.1, E.out.2.2⟩
    case done =>
      rintro D ys W hD ⟨hys, hbk⟩ ⟨⟨bF, bQ, bD, bR, bT, bX, hrow, hquo⟩, hB⟩ hK
      have hok := divF_ok Hn.out Hd.out Hq.out Hm.out ys hys hbk
      have hlen := divF_len d (tr Q) (List.replicate m 0, tr P) ys
      obtain ⟨A, hA⟩ : ∃ A, A = (divF d (tr Q) (List.replicate m 0, tr P) ys).1 := ⟨_, rfl⟩
      obtain ⟨R, hR⟩ : ∃ R, R = (divF d (tr Q) (List.replicate m 0, tr P) ys).2 := ⟨_, rfl⟩
      rw [← hA, ← hR] at hok hlen
      rw [← hR] at hrow
      rw [← hA] at hquo
      have hAl : A.length = m := by rw [hlen.1]; simp
      have KOk := Lib.hid hok
      have KAl := Lib.hid hAl
      have KQuo := Lib.hid hquo
      have KB := Lib.hid hB
      have hPR : Pa W ar n cr R := by
        obtain ⟨a', c', e, hp⟩ := own_pa hrow
        cases e
        exact hp
      have hTr := fun (V : World) (hV : Below W.heap.size W V) => trim_any ar n cr R V (hPR.on hV) (by omega)
      have KTr := Lib.hid hTr
      have hcT := bT.cell
      have hcR := bR.cell
      have hBTl := bT.lt
      have hBRl := bR.lt
      have hDl := (Array.getElem?_eq_some_iff.1 hK).1
      have KD := Lib.hid hK
      clear hok hlen hA hR hAl hquo hB hPR hTr bF bQ bD bX hrow hK
      go_wp2_with fail
      refine wp_onlyN ?_
      go_region_held (fun V => V.cell? ⟨Bq, 0, none⟩ = some (.slice (some ⟨gq, 0, none⟩) m m) ∧ V.cell? ⟨sR, 0, none⟩ = some (.slice ar n cr) ∧ Below W.heap.size W V) (first | exact ⟨hcT, hcR, (Below.refl _ _).drew⟩ | assumption | exact ⟨(hb9.cell (p := ⟨Bq, 0, none⟩) hBTl).trans hcT, (hb9.cell (p := ⟨sR, 0, none⟩) hBRl).trans hcR, hb9⟩)
        (first | (go_at_call 162; refine (KTr.out _ ((Below.refl _ _).drew)).mono ?_; rintro e w9 ⟨v9, rfl, hown9, hb9'⟩; obtain ⟨a9, c9, hv9, _, _, _, _, _⟩ := own_form hown9; subst hv9; have hb9 : Below W.heap.size W w9 := bt ((Below.refl _ _).drew) hb9'; have K9 := Lib.hid hown9; clear hown9))
      have hK9 : w9.heap[D]? = some (.deferred (some [])) := (hb9.block D hDl).trans KD.out
      have hq9 := own_below KQuo.out hb9
      simp only [onlyN]
      go_wp2
      refine ⟨by simp, .inl ⟨_, _, rfl, run_takeDeferred hK9, ?_⟩⟩
      refine ⟨_, results_tmp3 rfl _ _ _, _, _, A, R, rfl, ?_, ?_, Lib.hid ⟨by have := KAl.out; have := Hm.out; have := KnL.out; omega, KOk.out⟩, ?_⟩
      · rw [KAl.out]
        exact own_noncell hq9 (grownBy_putObj' _ D (.deferred none)) (fun r e => by cases e; exact ⟨_, hK9, rfl⟩)
      · exact own_noncell (own_base K9.out KB.out.size) (grownBy_putObj' _ D (.deferred none)) (fun r e => by cases e; exact ⟨_, hK9, rfl⟩)
      · exact (bt KB.out hb9).trans (belowK_b (w := w) (Nat.le_refl _) w9 D _ _ (by have := HB6.out.size; omega) hK9 rfl rfl)
    case stop =>
      rintro D c pre W _ _ h _
      exact h.elim
end Go.Proofs.YtappfdbmhgifcaaGreatDoor
/- Contract of the document's Through. -/
namespace Go.Proofs.YtappfdbmhgifcaaGreatDoor
open Go.ChangeShapes Go.WideShapes Go.ChangeAt Go.RowKit Go.Shelf GF
set_option linter.unusedVariables false
set_option maxRecDepth 100000

theorem own_pair (w : World) (c d : GF) : (w.alloc (.cells #[.int .u8 (toI c), .int .u8 (toI d)] 5)).ownsRow w.heap.size 5 1 (.slice (some ⟨w.heap.size, 0, none⟩) 2 2) 2 ((iL [c, d]).map (Value.int .u8)) :=
  World.ownsRow_lit (base := w.heap.size) (e := 5) (size := 1) w #[.int .u8 (toI c), .int .u8 (toI d)] 2 (Nat.le_refl _) (by unfold maxLen; omega) rfl

end Go.Proofs.YtappfdbmhgifcaaGreatDoor
