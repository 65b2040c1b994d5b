/- Contract of poly's Eval. -/
import Derived.Test.YtgbcdmognobieaaPtrim
namespace Go.Proofs.Ytgbcdmognobieaa
open Go.ChangeShapes Go.WideShapes Go.ChangeAt Go.RowKit Go.Shelf GF
set_option linter.unusedVariables false
attribute [local go_sem] Oper.semAt_some

/-- What the rounds have reckoned. -/
def hor {L : Nat} (x : GF) (pre : List (It L)) : GF := pre.foldl (fun o p => o * x + p.2) 0
theorem hor_snoc {L : Nat} (x : GF) (pre : List (It L)) (y : It L) : hor x (pre ++ [y]) = hor x pre * x + y.2 := by simp [hor]
theorem hor_ev {L : Nat} (x : GF) (P : List GF) (hP : P.length = L) (ys : List (It L)) (h : Bk L (fun j c => c = co P j) ys) : hor x ys = ev (P.drop (L - ys.length)) x := by
  have key : ∀ k, k ≤ ys.length → hor x (ys.take k) = ev (P.drop (L - k)) x := by
    intro k
    induction k with
    | zero => intro _; rw [List.take_zero, Nat.sub_zero, ← hP, List.drop_length]; rfl
    | succ k ih =>
      intro hk
      have h1 := h.1
      rw [List.take_succ_eq_append_getElem (by omega), hor_snoc, ih (by omega), (h.2 k (by omega)).2, ev_drop P (L - (k + 1)), GF.mul_comm, GF.add_comm]
      rw [show L - 1 - k = L - (k + 1) by omega, show L - (k + 1) + 1 = L - k by omega]
  have := key ys.length (Nat.le_refl _)
  rwa [List.take_length] at this

theorem eval_nil (p : Value) (x : Int) (w : World) : Calls Try.prog 13 #[.pointer none, p, .int .u8 x] w fun e w' => e = .returned (.int .u8 0) ∧ Below w.heap.size w w' := by
  go_enter Try.func13, Try.ntmps13
  go_wp2
  go_ret
  exact ⟨rfl, by first | exact ((Below.refl _ w).alloc (Nat.le_refl _) _).alloc (by simp) _ | skip⟩

set_option maxRecDepth 100000 in
set_option maxHeartbeats 2000000 in
theorem eval_8 (b : Nat) (a : Option Addr) (L cap : Nat) (P : List GF) (x : GF) (w : World) (hf : Fld w b) (hx : Arg8 w a L cap (iL P)) (hL : L ≤ 140737488355328) :
    Calls Try.prog 13 #[.pointer (some ⟨b, 0, none⟩), .slice a L cap, .int .u8 (toI x)] w fun e w' => e = .returned (.int .u8 (toI (ev P x))) ∧ Below w.heap.size w w' := by
  have hPl : P.length = L := hx.len
  refine (callsIn_wide (n := 3)).1 ?_
  refine callsIn_of_wp_marks Try.func13 rfl trivial ?_ rfl
  simp only [Try.ntmps13, List.size_toArray, List.length_cons, List.length_nil, Nat.reduceAdd, Nat.reduceSub, Array.replicate_succ, Array.replicate_zero, List.push_toArray, List.append_toArray, List.nil_append, List.cons_append]
  have HX := Lib.hid hx
  have HF := Lib.hid hf
  clear hx hf
  gi_wp2_with (refine ⟨trivial, ?_⟩; gi_at_call 31; refine (callsIn_wide.2 (back_any _ _ _ _)).mono ?_; rintro e w' ⟨rfl, rfl⟩)
  have b0 := Boxed.new w 24 (.pointer (some ⟨b, 0, none⟩))
  have b1 := Boxed.new (w.alloc (.cells #[.pointer (some ⟨b, 0, none⟩)] 24)) 5 (.int .u8 (toI x))
  have b2 := Boxed.new ((w.alloc (.cells #[.pointer (some ⟨b, 0, none⟩)] 24)).alloc (.cells #[.int .u8 (toI x)] 5)) 5 (.int .u8 0)
  have b3 := Boxed.new (((w.alloc (.cells #[.pointer (some ⟨b, 0, none⟩)] 24)).alloc (.cells #[.int .u8 (toI x)] 5)).alloc (.cells #[.int .u8 0] 5)) 22 (.slice a L cap)
  simp only [World.size_alloc] at b1 b2 b3
  have hB0 : Below w.heap.size w ((((w.alloc (.cells #[.pointer (some ⟨b, 0, none⟩)] 24)).alloc (.cells #[.int .u8 (toI x)] 5)).alloc (.cells #[.int .u8 0] 5)).alloc (.cells #[.slice a L cap] 22)) := ((((Below.refl _ w).alloc (Nat.le_refl _) _).alloc (by simp) _).alloc (by simp; omega) _).alloc (by simp; omega) _
  refine wpIn_rangeFunc_ownF rfl (by omega) (gf := 42) (lb := #[.pointer (some ⟨w.heap.size + 1 + 1 + 1, 0, none⟩)]) rfl trivial (enters_of Try.func42 (by kernel_rfl) rfl)
    (back_stops Fence.wide (3 - 1) trivial rfl (by omega) (w.heap.size + 1 + 1 + 1) L cap a (fun j c => c = co P j) hL _ (by simp) (rd_of b3.cell (HX.out.2.2.1.below hB0) hPl) (fun h0 b off e => by have := HX.out.2.2.1.low (by rw [length_iL]; omega) b off e; simp; omega)) (fun h k r => k (h r)) (fun W l o o' _ hl ho _ r => r.put o' hl ho) (Below.refl _ _) (fun _ => by rfl)
    (fun pre W => (W.cell? ⟨w.heap.size, 0, none⟩ = some (.pointer (some ⟨b, 0, none⟩)) ∧ W.cell? ⟨w.heap.size + 1, 0, none⟩ = some (.int .u8 (toI x)) ∧ W.cell? ⟨w.heap.size + 1 + 1, 0, none⟩ = some (.int .u8 (toI (hor x pre))) ∧ W.frozen? ⟨w.heap.size + 1 + 1, 0, none⟩ = false) ∧ Below w.heap.size w W)
    (fun _ _ _ => False)
    (OwnFrom.and (Own.from (fun s A B row hs hg hr => ⟨cell_kept hs.1 hg hr, cell_kept hs.2.1 hg hr, cell_kept hs.2.2.1 hg hr, (frozen_kept hs.2.2.1 hg hr).trans hs.2.2.2⟩) _) (ownFrom_below (Nat.le_refl _) (by simp; omega)))
    (fun _ _ _ _ _ hs _ _ => hs)
    ⟨⟨(((b0.alloc _).alloc _).alloc _).cell, ((b1.alloc _).alloc _).cell, (b2.alloc _).cell, (b2.alloc _).frozen⟩, hB0⟩
    (fun y => { tmps := #[.pointer (some ⟨b, 0, none⟩), .slice a L cap, .int .u8 (toI x), .pointer (some ⟨w.heap.size, 0, none⟩), undef, .pointer (some ⟨w.heap.size + 1, 0, none⟩), .int .u8 0, .pointer (some ⟨w.heap.size + 1 + 1, 0, none⟩), undef, .int .u8 (toI y.2), .pointer (some ⟨b, 0, none⟩), .bool false, .slice a L cap, .func (.func 42) #[] #[.pointer (some ⟨w.heap.size + 1 + 1 + 1, 0, none⟩)], .int .i64 ((y.1.1 : Nat) : Int), .int .u8 (toI y.2), undef, undef, undef, undef, undef, undef, undef], defers := [] }) ?assign ?body ?done ?stop
  case assign =>
    intro l y W K hK
    dsimp only [itv]
    gi_wp2
    exact hK
  case body =>
    rintro l pre y W ⟨⟨h1, h2, h3, h4⟩, hB⟩ _
    have hfw := HF.out.below hB
    have HB := Lib.hid hB
    clear hB
    gi_wp2_with (first
      | (refine ⟨trivial, ?_⟩; gi_at_call 15; refine (CallsIn.inRound l (callsIn_wide.2 (mul_G _ _ _ _ hfw))).mono ?_; rintro e w' ⟨rfl, rfl⟩)
      | (refine ⟨trivial, ?_⟩; gi_at_call 14; refine (CallsIn.inRound l (callsIn_wide.2 (add_G _ _ _))).mono ?_; rintro e w' ⟨rfl, rfl⟩))
    refine ⟨KeepsOthers.setCell _ _ _, fun r => r.other (w.heap.size + 1 + 1) (fun k hk _ => Below.heap_setCell _ _ _ k hk) (by omega) (fun bb off e => ?_), ⟨?_, ?_, ?_, ?_⟩, HB.out.setCell (p := ⟨w.heap.size + 1 + 1, 0, none⟩) (by simp; omega) _⟩
    · have := y.1.2
      have := HX.out.2.2.1.low (by rw [length_iL]; omega) bb off e; omega
    · exact cell_of_heap h1 (Below.heap_setCell _ _ _ _ (by simp; omega))
    · exact cell_of_heap h2 (Below.heap_setCell _ _ _ _ (by simp))
    · rw [hor_snoc]; exact World.cell?_setCell_same' _ _ _ (by rw [h3]; rfl)
    · rw [World.frozen?_setCell]; exact h4
  case done =>
    rintro D ys W hD ⟨hys, hbk⟩ ⟨⟨h1, h2, h3, h4⟩, hB⟩ hK
    have he := hor_ev x P hPl ys hbk
    rw [hys, Nat.sub_self, List.drop_zero] at he
    gi_wp2
    refine ⟨by simp, .inl ⟨_, _, rfl, run_takeDeferred hK, ?_⟩⟩
    exact ⟨_, results_tmp rfl _ _ _, rfl, hB.trans (belowK_b (w := w) (Nat.le_refl _) W D _ _ (by simp at hD; omega) hK rfl rfl)⟩
  case stop =>
    rintro D c pre W _ _ h _
    exact h.elim
end Go.Proofs.Ytgbcdmognobieaa

