/- slices.Backward over rows of rows: the contract of its iterator; contract of shamir's value. -/
import Derived.Test.YtmhknggjpggagaaVb
import Derived.Test.YtmhknggjpggagaaVd
namespace Go.Proofs.Ytmhknggjpggagaa
open Go.ChangeShapes Go.WideShapes Go.ChangeAt Go.RowKit Go.Shelf GF
set_option linter.unusedVariables false
set_option linter.unusedSimpArgs false
set_option maxRecDepth 100000
attribute [local go_sem] Oper.semAt_some

/-- What a round is handed: a place, and the row there. -/
def itvR {len : Nat} (A : Nat → Option Addr) (m c : Nat → Nat) (x : Fin len) : Array Value := #[.int .i64 ((x.1 : Nat) : Int), .slice (A x.1) (m x.1) (c x.1)]
def RdR (Bx len : Nat) (a : Option Addr) (cap : Nat) (A : Nat → Option Addr) (m c : Nat → Nat) (W : World) : Prop :=
  W.cell? ⟨Bx, 0, none⟩ = some (.slice a len cap) ∧ ∀ j, j < len → ∃ b off, a = some ⟨b, off, none⟩ ∧ W.cell? ⟨b, off + j, none⟩ = some (.slice (A j) (m j) (c j))
def BkR (len : Nat) (pre : List (Fin len)) : Prop := pre.length ≤ len ∧ ∀ k (h : k < pre.length), (pre[k]).1 = len - 1 - k
theorem BkR.nil (len : Nat) : BkR len [] := ⟨Nat.zero_le _, fun k h => by simp at h⟩
theorem BkR.snoc {len : Nat} {pre : List (Fin len)} (h : BkR len pre) (x : Fin len) (hl : pre.length < len) (hx : x.1 = len - 1 - pre.length) : BkR len (pre ++ [x]) := by
  refine ⟨by simp; omega, fun k hk => ?_⟩
  by_cases e : k < pre.length
  · rw [List.getElem_append_left e]; exact h.2 k e
  · have e2 : k = pre.length := by simp at hk; omega
    subst e2
    rw [List.getElem_append_right (Nat.le_refl _)]
    simp only [Nat.sub_self, List.getElem_cons_zero]
    exact hx
theorem RdR.put {Bx len cap : Nat} {a : Option Addr} {A : Nat → Option Addr} {m c : Nat → Nat} {W : World} {l : Nat} {o : Obj} (o' : Obj) (hl : W.heap[l]? = some o) (ho : o.isCells = false) (h : RdR Bx len a cap A m c W) : RdR Bx len a cap A m c (W.putObj l o') := by
  have key : ∀ {p : Addr} {v : Value}, W.cell? p = some v → (W.putObj l o').cell? p = some v := fun {p v} hc => cell_kept hc (grownBy_putObj' W l o') (fun r e => by cases e; exact ⟨_, hl, ho⟩)
  refine ⟨key h.1, fun j hj => ?_⟩
  obtain ⟨b, off, e, hc⟩ := h.2 j hj
  exact ⟨b, off, e, key hc⟩

set_option maxHeartbeats 2000000 in
theorem backR_in (F : Fence) (n : Nat) (hF : F.fn 53) (hro : F.round = none) (hn : 1 ≤ n) (l Bx len cap : Nat) (a : Option Addr) (A : Nat → Option Addr) (m c : Nat → Nat) (hlen : len ≤ 140737488355328) (J Jx : List (Fin len) → World → Prop)
    (hY : ∀ pre x W, J pre W → pre.length < len → YieldAt F (n - 1) Try.prog l (itvR A m c x) W fun e W' =>
      (e = .returned (.bool true) ∧ J (pre ++ [x]) W' ∧ (RdR Bx len a cap A m c W → RdR Bx len a cap A m c W')) ∨ (e = .returned (.bool false) ∧ Jx (pre ++ [x]) W'))
    (W : World) (hR0 : RdR Bx len a cap A m c W) (h0 : J [] W) :
    CallsIn F n Try.prog 53 #[.func (.yield l) #[] #[], .pointer (some ⟨Bx, 0, none⟩)] W fun e W' => (∃ v, e = .returned v) ∧
      ((∃ ys, (ys.length = len ∧ BkR len ys) ∧ J ys W') ∨ (∃ pre, BkR len pre ∧ Jx pre W')) := by
  refine callsIn_of_wp Try.func53 rfl hF ?_ hro
  simp only [Try.ntmps53, List.size_toArray, List.length_cons, List.length_nil, Nat.reduceAdd, Nat.reduceSub, Array.replicate_succ, Array.replicate_zero, List.push_toArray, List.append_toArray, List.nil_append, List.cons_append]
  have hb := hR0.1
  gi_wp2
  gi_loopw [3] (fun i wr => ∃ (r : Nat) (pre : List (Fin len)), pre.length + r = len ∧ BkR len pre ∧ ((r = 0 ∧ i = .int .i64 (-1)) ∨ ∃ j : Nat, r = j + 1 ∧ i = .int .i64 (j : Int)) ∧ J pre wr ∧ RdR Bx len a cap A m c wr)
    (fun i _ => (intOf i + 1).toNat)
  case atStart =>
    refine ⟨len, [], by simp, BkR.nil _, ?_, h0, hR0⟩
    rcases Nat.eq_zero_or_pos len with e | e
    · subst e; exact .inl ⟨rfl, by go_num⟩
    · obtain ⟨j, rfl⟩ : ∃ j, len = j + 1 := ⟨len - 1, by omega⟩
      exact .inr ⟨j, rfl, by go_num⟩
  case round =>
    obtain ⟨r, pre, hpl, hbk, hi, hJs, hRd⟩ := hrel
    rcases hi with ⟨rfl, rfl⟩ | ⟨j, rfl, rfl⟩
    · gi_wp2
      go_end0
      exact ⟨⟨_, rfl⟩, .inl ⟨pre, ⟨by omega, hbk⟩, hJs⟩⟩
    · obtain ⟨b, off, rfl, hc⟩ := hRd.2 j (by omega)
      have hbx := hRd.1
      obtain ⟨fn, tmps, assign, body, hy, hR⟩ := hY pre ⟨j, by omega⟩ wr hJs (by omega)
      dsimp only [itvR] at hy
      have q1 : (j : Int) < (len : Int) := by omega
      have q2 : (0 : Int) ≤ (j : Int) := by omega
      have hk := hbk.snoc ⟨j, by omega⟩ (by omega) (by show j = _; omega)
      gi_wp2
      refine hR.mono ?_
      rintro e W3 (⟨rfl, hJ3, hk3⟩ | ⟨rfl, hJx3⟩)
      · gi_wp2
        go_roundw
        case rel =>
          refine ⟨j, _, by simp; omega, hk, ?_, hJ3, hk3 hRd⟩
          rcases Nat.eq_zero_or_pos j with e | e
          · subst e; exact .inl ⟨rfl, by go_num⟩
          · obtain ⟨m, rfl⟩ : ∃ m, j = m + 1 := ⟨j - 1, by omega⟩
            exact .inr ⟨m, rfl, by go_num⟩
        case measure => simp [intOf]
      · gi_wp2
        refine bodyPost_ret (results_none rfl _ _ _) rfl ?_
        exact ⟨⟨_, rfl⟩, .inr ⟨_, hk, hJx3⟩⟩
set_option maxHeartbeats 1000000 in
theorem backR_any (a : Option Addr) (len cap : Nat) (w : World) :
    Calls Try.prog 47 #[.slice a len cap] w fun e w' => e = .returned (.func (.func 53) #[] #[.pointer (some ⟨w.heap.size, 0, none⟩)]) ∧ w' = w.alloc (.cells #[.slice a len cap] 28) := by
  go_enter Try.func47, Try.ntmps47
  go_wp2
  go_ret
  exact ⟨rfl, rfl⟩
theorem backR_stops (F : Fence) (n : Nat) (hF : F.fn 53) (hro : F.round = none) (hn : 1 ≤ n) (Bx len cap : Nat) (a : Option Addr) (A : Nat → Option Addr) (m c : Nat → Nat) (hlen : len ≤ 140737488355328) (w : World)
    (hBx : Bx < w.heap.size) (hR : RdR Bx len a cap A m c w) (hlow : 0 < len → ∀ b off, a = some ⟨b, off, none⟩ → b < w.heap.size) :
    SeqStopsK F n Try.prog 53 #[.pointer (some ⟨Bx, 0, none⟩)] (itvR (len := len) A m c) (fun W W' => RdR Bx len a cap A m c W → RdR Bx len a cap A m c W') (fun ys => ys.length = len ∧ BkR len ys) (BkR len) len w := fun l J Jx W hW _ _ hY h0 => by
  refine backR_in F n hF hro hn l Bx len cap a A m c hlen J Jx hY W ⟨(hW.cell (p := ⟨Bx, 0, none⟩) hBx).trans hR.1, fun j hj => ?_⟩ h0
  obtain ⟨b, off, e, hc⟩ := hR.2 j hj
  exact ⟨b, off, e, (hW.cell (p := ⟨b, off + j, none⟩) (hlow (by omega) b off e)).trans hc⟩

/-! ## value -/
/-- A row, and x times another. -/
def sumG (row : List GF) (x : GF) (o : List GF) : List GF := (List.range row.length).map fun i => co row i + x * co o i
theorem sumG_len (row : List GF) (x : GF) (o : List GF) : (sumG row x o).length = row.length := by simp [sumG]
theorem sumG_co {row : List GF} (x : GF) (o : List GF) {i : Nat} (h : i < row.length) : co (sumG row x o) i = co row i + x * co o i := by
  unfold sumG; unfold co; simp [List.getD_eq_getElem?_getD, h]
theorem sumL_G (row : List GF) (x : GF) (o : List GF) : sumL (iL row) (toI x) (iL o) = iL (sumG row x o) := by
  refine list_ext_getD (by rw [length_sumL, length_iL, length_iL, sumG_len]) fun i hi => ?_
  rw [length_sumL, length_iL] at hi
  rw [sumL_getD _ _ (by rw [length_iL]; exact hi), getD_iL, getD_iL, getD_iL, sumG_co x o hi, length_iL]
  by_cases h : i < o.length
  · rw [if_pos h]; rfl
  · rw [if_neg h, co_ge (l := o) (by omega), mul_zero, GF.add_zero]
/-- What the rounds have reckoned. -/
def hrR (R : List (List GF)) (x : GF) {len : Nat} (pre : List (Fin len)) : List GF := pre.foldl (fun o j => sumG (rw_ R j.1) x o) []
theorem hrR_snoc (R : List (List GF)) (x : GF) {len : Nat} (pre : List (Fin len)) (y : Fin len) : hrR R x (pre ++ [y]) = sumG (rw_ R y.1) x (hrR R x pre) := by simp [hrR]
def colR (R : List (List GF)) (T i : Nat) : List GF := (List.range T).map fun k => co (rw_ R k) i
theorem colR_len (R : List (List GF)) (T i : Nat) : (colR R T i).length = T := by simp [colR]
theorem colR_co (R : List (List GF)) {T i k : Nat} (h : k < T) : co (colR R T i) k = co (rw_ R k) i := by
  show List.getD _ _ _ = _
  unfold colR; simp [List.getD_eq_getElem?_getD, h]
theorem hrR_ev (R : List (List GF)) (x : GF) (T n : Nat) (hw : ∀ k, k < T → (rw_ R k).length = n) (ys : List (Fin T)) (h : BkR T ys) {i : Nat} (hi : i < n) : co (hrR R x ys) i = ev ((colR R T i).drop (T - ys.length)) x := by
  have key : ∀ k, k ≤ ys.length → co (hrR R x (ys.take k)) i = ev ((colR R T i).drop (T - k)) x := by
    intro k
    induction k with
    | zero =>
      intro _
      rw [List.take_zero, Nat.sub_zero]
      have e : (colR R T i).drop T = [] := List.drop_eq_nil_of_le (by rw [colR_len]; exact Nat.le_refl _)
      rw [e]; rfl
    | succ k ih =>
      intro hk
      have h1 := h.1
      have h2 := h.2 k (by omega)
      rw [List.take_succ_eq_append_getElem (by omega), hrR_snoc, sumG_co x _ (by rw [hw _ (ys[k]).2]; exact hi), ih (by omega), h2, ev_drop (colR R T i) (T - (k + 1)), colR_co R (by omega)]
      rw [show T - 1 - k = T - (k + 1) by omega, show T - (k + 1) + 1 = T - k by omega]
  have := key ys.length (Nat.le_refl _)
  rwa [List.take_length] at this
theorem hrR_len (R : List (List GF)) (x : GF) (T n : Nat) (hw : ∀ k, k < T → (rw_ R k).length = n) (ys : List (Fin T)) (h : 0 < ys.length) : (hrR R x ys).length = n := by
  obtain ⟨pre, y, rfl⟩ : ∃ pre y, ys = pre ++ [y] := ⟨ys.dropLast, ys.getLast (List.ne_nil_of_length_pos h), (List.dropLast_concat_getLast (List.ne_nil_of_length_pos h)).symm⟩
  rw [hrR_snoc, sumG_len, hw _ y.2]
def valR (R : List (List GF)) (T n : Nat) (x : GF) : List GF := (List.range n).map fun i => ev (colR R T i) x
theorem valR_dR {t n : Nat} {S M : List GF} (x : GF) (h0 : 1 ≤ t) : valR (dR t n S M) t n x = shR t n S M x := by
  unfold valR shR
  refine List.map_congr_left fun i hi => ev_congr (fun k => ?_) x
  have hi := List.mem_range.1 hi
  by_cases hk : k < t
  · rw [colR_co _ hk, dR_co hi hk]
  · rw [co_ge (by rw [colR_len]; omega), dl_ge n S M i h0 (by omega)]
theorem hrR_all {R : List (List GF)} {x : GF} {T n : Nat} (hw : ∀ k, k < T → (rw_ R k).length = n) {ys : List (Fin T)} (hy : ys.length = T) (h : BkR T ys) (hT : 0 < T) : hrR R x ys = valR R T n x := by
  have hl := hrR_len R x T n hw ys (by omega)
  refine ext_co (by rw [hl]; simp [valR]) fun i hi => ?_
  rw [hl] at hi
  rw [hrR_ev R x T n hw ys h hi, hy, Nat.sub_self, List.drop_zero]
  unfold valR; unfold co; simp [List.getD_eq_getElem?_getD, hi]
end Go.Proofs.Ytmhknggjpggagaa
