/- Tapes: what the laws' 'all' makes of an iterator that tells things taken. -/
import Derived.Test.YtmiafhblllbimaaBa
import Derived.RangeFuncNested
import Derived.RangeFuncBox
import Derived.RangeFuncCalls
import Derived.RangeFuncLeaves
import Derived.Shelf.RegionOpen
import Derived.OwnWalkIn
import Derived.TacticsInMore
import Derived.LoopNIn
import Derived.LoopIn
import Derived.BigRegionIn
import Derived.Maps.AppendAt
import Derived.Deep.MidRow
namespace Go.Proofs.Ytmiafhblllbimaa
open Go.ChangeShapes Go.WideShapes Go.ChangeAt Go.RowKit Go.Shelf
set_option linter.unusedVariables false
set_option linter.unusedSimpArgs false
set_option maxRecDepth 100000
attribute [local go_sem] Oper.semAt_some

theorem infoTKa : (Try.prog.info? 33).map (fun i => (i.zero, i.size, i.bytes)) = some (some (.agg #[.string ByteArray.empty, .int .i64 0, .int .i64 0]), 3, 32) := by kernel_rfl
def tkA (x : TK) : Value := .agg #[.string x.1, .int .i64 (x.2.1 : Nat), .int .i64 (x.2.2 : Nat)]
/-- A thing taken, in a block of its own. -/
def TkB (W : World) (b : Nat) (x : TK) : Prop := W.heap[b]? = some (.cells #[.string x.1, .int .i64 (x.2.1 : Nat), .int .i64 (x.2.2 : Nat)] 33 (0, 0))
set_option maxHeartbeats 4000000 in
theorem all_stops (gf : Nat) (lb : Array Value) (L : List TK) (hL : L.length ≤ 1000000) (w : World) (eg : ∀ args w, (callFunc gf args).run Try.prog w = .ok (.enter gf args) w)
    (hseq : SeqStopsK Fence.wide 2 Try.prog gf lb (fun x : TK => #[tkA x]) (Below w.heap.size) (fun ys => ys = L) (fun _ => True) L.length (w.alloc (.cells #[.slice none 0 0] 29))) :
    Calls Try.prog 10 #[.func (.func gf) #[] lb] w fun e w' => ∃ u, e = .returned u ∧ w'.ownsRow w.heap.size 33 3 u L.length (tkC L) ∧ Below w.heap.size w w' := by
  obtain ⟨iT, hi, hz0, hz1, hz2⟩ := info_parts infoTKa
  refine (callsIn_wide (n := 3)).1 ?_
  refine callsIn_of_wp_marks Try.func10 rfl trivial ?_ rfl
  simp only [Try.ntmps10, List.size_toArray, List.length_cons, List.length_nil, Nat.reduceAdd, Nat.reduceSub, Array.replicate_succ, Array.replicate_zero, List.push_toArray, List.append_toArray, List.nil_append, List.cons_append]
  gi_wp2
  have bO := Boxed.new w 29 (.slice none 0 0)
  have hB0 : Below w.heap.size w (w.alloc (.cells #[.slice none 0 0] 29)) := (Below.refl _ w).alloc (Nat.le_refl _) _
  refine wpIn_rangeFunc_ownH rfl (by omega) (gf := gf) (lb := lb) rfl trivial eg hseq belowK_t (belowK_b (by simp)) (Below.refl _ _) (fun _ => by rfl)
    (fun (pre : List TK) W => (∃ v, Boxed W w.heap.size 29 v ∧ W.ownsRow w.heap.size 33 3 v pre.length (tkC pre) ∧ True) ∧ Below w.heap.size w W)
    (fun _ _ _ => False)
    (OwnFrom.and (Own.from (holdsRow_own w.heap.size w.heap.size 29 33 3 (fun (pre : List TK) => pre.length) (fun pre => tkC pre) (fun _ _ => True)) _) (ownFrom_below (Nat.le_refl _) (by simp)))
    (fun _ _ _ _ _ hs _ _ => hs)
    ⟨⟨_, bO, World.ownsRow_nil _ _ _ _, trivial⟩, hB0⟩
    (fun (x : TK) a' W => ∃ Bx, w.heap.size < Bx ∧ TkB W Bx x ∧ a' = { tmps := #[.func (.func gf) #[] lb, undef, .slice none 0 0, .pointer (some ⟨w.heap.size, 0, none⟩), .pointer (some ⟨Bx, 0, none⟩), .func (.func gf) #[] lb, tkA x, undef, undef, undef, undef, undef], defers := [] })
    (fun x a' _ A B row hs hg hr => by
      obtain ⟨Bx, h1, h2, h3⟩ := hs
      refine ⟨Bx, h1, ?_, h3⟩
      have hlt : Bx < A.heap.size := by
        rcases Nat.lt_or_ge Bx A.heap.size with h | h
        · exact h
        · unfold TkB at h2; rw [Array.getElem?_eq_none h] at h2; cases h2
      exact (hg.block Bx hlt (fun e => by
        obtain ⟨_, o, ho, hc⟩ := hr Bx e.symm
        unfold TkB at h2
        rw [h2] at ho
        cases ho
        cases hc)).trans h2)
    ?assign ?body ?done ?stop
  case assign =>
    rintro l pre x W K hI hK
    dsimp only [tkA] at hK ⊢
    gi_wp2
    obtain ⟨⟨v, hv, hrow, -⟩, hB⟩ := hI
    exact hK _ _ ((KeepsOthers.alloc _ _).from _) ((Below.refl _ W).alloc hB.size _) ⟨⟨v, hv.alloc _, hrow.alloc _, trivial⟩, hB.alloc hB.size _⟩ ⟨W.heap.size, hv.lt, heap_alloc_new W _, rfl⟩
  case body =>
    rintro l pre x a' W hl ⟨r, hr⟩ ⟨⟨v, hv, hrow, -⟩, hB⟩ ⟨Bx, hBx, hT, rfl⟩ hlt
    have hcv := hv.cell
    have hcb : ∀ j u, [Value.string x.1, .int .i64 (x.2.1 : Nat), .int .i64 (x.2.2 : Nat)][j]? = some u → W.cell? ⟨Bx, j, none⟩ = some u := fun j u hu => by
      have h := World.news_of_block hT j u hu
      rw [Addr.add_lit, Nat.zero_add] at h
      exact h
    have hone : ∀ u ∈ tkV x, u.oneCell' = true := fun u hu => by
      rcases List.mem_cons.1 hu with rfl | hu
      · rfl
      · rcases List.mem_cons.1 hu with rfl | hu
        · rfl
        · rw [List.mem_singleton.1 hu]; rfl
    have hc0 := hcb 0 _ rfl
    have hc1 := hcb 1 _ rfl
    have hc2 := hcb 2 _ rfl
    dsimp only [tkA]
    gi_wp2_with (gi_at_builtin; go_loud (refine wpListIn_append_own _ rfl _ _ 29 rfl w.heap.size 33 iT (.agg #[.string ByteArray.empty, .int .i64 0, .int .i64 0]) 3 32 Try.underlying29 hi hz0 hz1 hz2 rfl (by decide) _ _ _ rfl (hrow.alloc _) ⟨W.heap.size, 0, none⟩ 1 1 (tkV x) rfl rfl (World.news_of_block (heap_alloc_new W _)) hone (by unfold maxLen; omega) (by omega) (by have := hB.size; simp; omega) ?_); intro v' w1 hown' hgrow _; obtain ⟨g', cap', rfl⟩ := ownsRow_succ hown'; obtain ⟨hv1, hv2, hr2, hk2, hb2⟩ := hv.appended (by decide) hrow hB.size (Nat.le_refl _) hown' hgrow; have hc1 := hv1.cell; have hf1 := hv1.frozen)
    exact ⟨hk2.from _, hb2, ⟨_, hv2, by rw [tkC_append, tkC_one, List.length_append]; exact hr2, trivial⟩, hB.trans hb2⟩
  case done =>
    rintro D ys W hD rfl ⟨⟨v, hv, hrow, -⟩, hB⟩ hK
    have hcv := hv.cell
    gi_wp2
    refine ⟨by simp, .inl ⟨_, _, rfl, run_takeDeferred hK, ?_⟩⟩
    exact ⟨_, results_tmp rfl _ _ _, v, rfl, ownsRow_putObj hrow _ hK rfl, hB.trans (belowK_b (w := w) (Nat.le_refl _) W D _ _ (by simp at hD; omega) hK rfl rfl)⟩
  case stop =>
    rintro D c pre W _ _ h _
    exact h.elim
end Go.Proofs.Ytmiafhblllbimaa
