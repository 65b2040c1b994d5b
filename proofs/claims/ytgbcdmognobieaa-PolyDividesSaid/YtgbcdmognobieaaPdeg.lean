/- The field's operations on numbers of GF; contracts of poly's Degree, trimmed, Trim, Eval. -/
import Derived.Test.YtgbcdmognobieaaPit
import Derived.Test.YtgbcdmognobieaaFref
namespace Go.Proofs.Ytgbcdmognobieaa
open Go.ChangeShapes Go.WideShapes Go.ChangeAt Go.RowKit Go.Shelf GF
set_option linter.unusedVariables false
attribute [local go_sem] Oper.semAt_some

theorem gmI_G (x y : GF) : gmI (toI x) (toI y) = toI (x * y) := rfl
theorem xoI_G (x y : GF) : xoI (toI x) (toI y) = toI (x + y) := rfl
theorem mul_G (b : Nat) (x y : GF) (w : World) (hf : Fld w b) : Calls Try.prog 15 #[.pointer (some ⟨b, 0, none⟩), .int .u8 (toI x), .int .u8 (toI y)] w fun e w' => e = .returned (.int .u8 (toI (x * y))) ∧ w = w' :=
  mul_I b _ _ w hf (toI_bd x) (toI_bd y)
theorem add_G (x y : GF) (w : World) : Calls Try.prog 14 #[.int .u8 (toI x), .int .u8 (toI y)] w fun e w' => e = .returned (.int .u8 (toI (x + y))) ∧ w = w' :=
  add_I _ _ (toI_bd x) (toI_bd y) w
theorem div_G (b : Nat) (x y : GF) (w : World) (hf : Fld w b) (hy : y ≠ 0) : Calls Try.prog 36 #[.pointer (some ⟨b, 0, none⟩), .int .u8 (toI x), .int .u8 (toI y)] w fun e w' => e = .returned (.tuple #[.int .u8 (toI (x * GF.inv y)), .int .i64 0]) ∧ w = w' :=
  div_ok b x.1 y.1 w hf x.2 y.2 (GF.val_ne hy)
theorem rmul_G (x y : GF) (w : World) : Calls Try.prog 34 #[.int .u8 (toI x), .int .u8 (toI y)] w fun e w' => e = .returned (.int .u8 (toI (x * y))) ∧ w = w' :=
  refMul_N x.1 y.1 x.2 y.2 w
theorem rinv_G (x : GF) (w : World) : Calls Try.prog 40 #[.int .u8 (toI x)] w fun e w' => e = .returned (.int .u8 (toI (GF.inv x))) ∧ w = w' :=
  refInv_N x.1 x.2 w

theorem cell_of_heap {W W' : World} {p : Addr} {v : Value} (h : W.cell? p = some v) (e : W'.heap[p.block]? = W.heap[p.block]?) : W'.cell? p = some v := by
  unfold World.cell? at h ⊢; rw [e]; exact h
theorem Rd.other {Bx len cap : Nat} {a : Option Addr} {V : Nat → GF → Prop} {W W' : World} (h : Rd Bx len a cap V W) (blk : Nat) (hh : ∀ k, k ≠ blk → k < W.heap.size → W'.heap[k]? = W.heap[k]?) (h1 : Bx ≠ blk) (h2 : ∀ b off, a = some ⟨b, off, none⟩ → b ≠ blk) : Rd Bx len a cap V W' := by
  have lt : ∀ {p : Addr} {v : Value}, W.cell? p = some v → p.block < W.heap.size := fun {p v} hc => by
    rcases Nat.lt_or_ge p.block W.heap.size with hlt | hge
    · exact hlt
    · unfold World.cell? at hc; rw [Array.getElem?_eq_none hge] at hc; cases hc
  refine ⟨cell_of_heap h.1 (hh _ h1 (lt h.1)), fun j hj => ?_⟩
  obtain ⟨b, off, c, e, hV, hc⟩ := h.2 j hj
  exact ⟨b, off, c, e, hV, cell_of_heap hc (hh _ (h2 b off e) (lt hc))⟩
theorem Rd.put {Bx len cap : Nat} {a : Option Addr} {V : Nat → GF → Prop} {W : World} {l : Nat} {o : Obj} (o' : Obj) (hl : W.heap[l]? = some o) (ho : o.isCells = false) (h : Rd Bx len a cap V W) : Rd Bx len a cap V (W.putObj l o') := by
  have key : ∀ {p : Addr} {v : Value}, W.cell? p = some v → (W.putObj l o').cell? p = some v := fun {p v} hc => cell_kept hc (grownBy_putObj' W l o') (fun r e => by cases e; exact ⟨_, hl, ho⟩)
  refine ⟨key h.1, fun j hj => ?_⟩
  obtain ⟨b, off, c, e, hV, hc⟩ := h.2 j hj
  exact ⟨b, off, c, e, hV, key hc⟩
/-- A slice of bytes in its box, ready to be gone through. -/
theorem rd_of {W : World} {Bx B a len cap} {P : List GF} (hb : W.cell? ⟨Bx, 0, none⟩ = some (.slice a len cap)) (h : Bs W B a (iL P)) (hl : P.length = len) : Rd Bx len a cap (fun j c => c = co P j) W := by
  refine ⟨hb, fun j hj => ?_⟩
  obtain ⟨b, off, e, hB, hc⟩ := h (by rw [length_iL]; omega)
  exact ⟨b, off, _, e, rfl, by rw [hc j (by rw [length_iL]; omega), getD_iL]⟩
theorem Bs.low {w : World} {B : Nat} {a : Option Addr} {l : List Int} (h : Bs w B a l) (hl : 0 < l.length) : ∀ b off, a = some ⟨b, off, none⟩ → b < B := fun b off e => by
  obtain ⟨b', off', e', hB, _⟩ := h hl
  rw [e] at e'; cases e'; exact hB

set_option maxRecDepth 100000 in
set_option maxHeartbeats 2000000 in
theorem degree_any (a : Option Addr) (L cap : Nat) (P : List GF) (w : World) (hx : Arg8 w a L cap (iL P)) (hL : L ≤ 140737488355328) :
    Calls Try.prog 20 #[.slice a L cap] w fun e w' => e = .returned (.int .i64 (((tr P).length : Int) - 1)) ∧ Below w.heap.size w w' := by
  have hPl : P.length = L := by have := hx.1; rwa [length_iL] at this
  refine (callsIn_wide (n := 3)).1 ?_
  refine callsIn_of_wp_marks Try.func20 rfl trivial ?_ rfl
  simp only [Try.ntmps20, List.size_toArray, List.length_cons, List.length_nil, Nat.reduceAdd, Nat.reduceSub, Array.replicate_succ, Array.replicate_zero, List.push_toArray, List.append_toArray, List.nil_append, List.cons_append]
  have HX := Lib.hid hx
  clear hx
  gi_wp2_with (refine ⟨trivial, ?_⟩; gi_at_call 31; refine (callsIn_wide.2 (back_any _ _ _ _)).mono ?_; rintro e w' ⟨rfl, rfl⟩)
  have bR := Boxed.new w 3 (.int .i64 0)
  have bN := Boxed.new (w.alloc (.cells #[.int .i64 0] 3)) 22 (.slice a L cap)
  rw [World.size_alloc] at bN
  have hB0 : Below w.heap.size w ((w.alloc (.cells #[.int .i64 0] 3)).alloc (.cells #[.slice a L cap] 22)) := ((Below.refl _ w).alloc (Nat.le_refl _) _).alloc (by simp) _
  refine wpIn_rangeFunc_ownF rfl (by omega) (gf := 42) (lb := #[.pointer (some ⟨w.heap.size + 1, 0, none⟩)]) rfl trivial (enters_of Try.func42 (by kernel_rfl) rfl)
    (back_stops Fence.wide (3 - 1) trivial rfl (by omega) (w.heap.size + 1) L cap a (fun j c => c = co P j) hL _ (by simp) (rd_of bN.cell (HX.out.2.2.1.below hB0) hPl) (fun h0 b off e => by have := HX.out.2.2.1.low (by rw [length_iL]; omega) b off e; simp; omega)) (fun h k r => k (h r)) (fun W l o o' _ hl ho _ r => r.put o' hl ho) (Below.refl _ _) (fun _ => by rfl)
    (fun pre W => ((∀ p ∈ pre, p.2 = 0) ∧ W.cell? ⟨w.heap.size, 0, none⟩ = some (.int .i64 0) ∧ W.frozen? ⟨w.heap.size, 0, none⟩ = false) ∧ Below w.heap.size w W)
    (fun c pre W => (c = .ret ∧ ∃ ini last, pre = ini ++ [last] ∧ (∀ p ∈ ini, p.2 = 0) ∧ last.2 ≠ 0 ∧ W.cell? ⟨w.heap.size, 0, none⟩ = some (.int .i64 ((last.1.1 : Nat) : Int))) ∧ Below w.heap.size w W)
    (OwnFrom.and (Own.from (fun s A B row hs hg hr => ⟨hs.1, cell_kept hs.2.1 hg hr, (frozen_kept hs.2.1 hg hr).trans hs.2.2⟩) _) (ownFrom_below (Nat.le_refl _) (by simp; omega)))
    (fun c => OwnFrom.and (Own.from (fun s A B row hs hg hr => by obtain ⟨hc, ini, last, e1, e2, e3, e4⟩ := hs; exact ⟨hc, ini, last, e1, e2, e3, cell_kept e4 hg hr⟩) _) (ownFrom_below (Nat.le_refl _) (by simp; omega)))
    ⟨⟨by simp, (bR.alloc _).cell, (bR.alloc _).frozen⟩, hB0⟩
    (fun x => { tmps := #[.slice a L cap, undef, .pointer (some ⟨w.heap.size, 0, none⟩), .int .i64 ((x.1.1 : Nat) : Int), .int .u8 (toI x.2), .slice a L cap, .func (.func 42) #[] #[.pointer (some ⟨w.heap.size + 1, 0, none⟩)], .int .i64 ((x.1.1 : Nat) : Int), .int .u8 (toI x.2), undef, undef, undef], defers := [] }) ?assign ?body ?done ?stop
  case assign =>
    intro l x W K hK
    dsimp only [itv]
    gi_wp2
    exact hK
  case body =>
    rintro l pre x W ⟨⟨hp, hcr, hfr⟩, hB⟩ _
    by_cases hz : x.2 = 0
    · have q : (toI x.2 != 0) = false := by rw [hz]; rfl
      gi_wp2
      exact ⟨KeepsOthers.refl _, fun r => r, ⟨fun p hp' => (List.mem_append.1 hp').elim (hp p) (fun e => by simp at e; subst e; exact hz), hcr, hfr⟩, hB⟩
    · have q : (toI x.2 != 0) = true := by rw [bne_iff_ne]; exact fun e => hz (toI_eq_zero.1 e)
      gi_wp2
      exact ⟨KeepsOthers.setCell _ _ _, ⟨rfl, pre, x, rfl, hp, hz, World.cell?_setCell_same' _ _ _ (by rw [hcr]; rfl)⟩, hB.setCell (p := ⟨w.heap.size, 0, none⟩) (Nat.le_refl _) _⟩
  case done =>
    rintro D ys W hD ⟨hys, hbk⟩ ⟨⟨hne, hcr, hfr⟩, hB⟩ hK
    gi_wp2
    have hK' := (KeepsOthers.setCell W ⟨w.heap.size, 0, none⟩ (.int .i64 (-1))).same D _ hK rfl
    refine ⟨by simp, .inl ⟨_, _, rfl, run_takeDeferred hK', ?_⟩⟩
    have hc5 := cell_kept (World.cell?_setCell_same' W ⟨w.heap.size, 0, none⟩ (.int .i64 (-1)) (by rw [hcr]; rfl)) (grownBy_putObj' _ D (.deferred none)) (fun r e => by cases e; exact ⟨_, hK', rfl⟩)
    have h0 : tr P = [] := tr_nil.2 fun k => by
      by_cases hk : k < L
      · have h1 := hbk.2 (L - 1 - k) (by omega)
        have h2 := hne _ (List.getElem_mem (show L - 1 - k < ys.length by omega))
        rw [show L - 1 - (L - 1 - k) = k by omega] at h1
        rw [← h1.2, h2]
      · exact co_ge (by omega)
    refine ⟨.int .i64 (-1), ?_, by rw [h0]; rfl, (hB.setCell (p := ⟨w.heap.size, 0, none⟩) (Nat.le_refl _) _).trans (belowK_b (w := w) (Nat.le_refl _) _ D _ _ (by simp at hD; omega) hK' rfl rfl)⟩
    simp [results, Try.f20, go_sem, hc5]
  case stop =>
    rintro D c pre W hD hbk ⟨⟨rfl, ini, last, e1, e2, e3, hcr⟩, hB⟩ hK
    gi_wp2
    refine ⟨by simp, .inl ⟨_, _, rfl, run_takeDeferred hK, ?_⟩⟩
    have hc5 := cell_kept hcr (grownBy_putObj' _ D (.deferred none)) (fun r e => by cases e; exact ⟨_, hK, rfl⟩)
    subst e1
    have hlen := hbk.1
    simp at hlen
    have hl := hbk.2 ini.length (by simp)
    rw [List.getElem_append_right (Nat.le_refl _)] at hl
    simp only [Nat.sub_self, List.getElem_cons_zero] at hl
    have h1 : (tr P).length ≤ L - 1 - ini.length + 1 := tr_len.2 fun k hk => by
      by_cases hk2 : k < L
      · have h3 := hbk.2 (L - 1 - k) (by simp; omega)
        rw [List.getElem_append_left (by omega)] at h3
        have h2 := e2 _ (List.getElem_mem (show L - 1 - k < ini.length by omega))
        rw [show L - 1 - (L - 1 - k) = k by omega] at h3
        rw [← h3.2, h2]
      · exact co_ge (by omega)
    have h2 : ¬ (tr P).length ≤ L - 1 - ini.length := fun h => e3 (by rw [hl.2]; exact tr_len.1 h _ (Nat.le_refl _))
    refine ⟨.int .i64 ((last.1.1 : Nat) : Int), ?_, by rw [hl.1]; congr 2; omega, hB.trans (belowK_b (w := w) (Nat.le_refl _) W D _ _ (by simp at hD; omega) hK rfl rfl)⟩
    simp [results, Try.f20, go_sem, hc5]
end Go.Proofs.Ytgbcdmognobieaa
