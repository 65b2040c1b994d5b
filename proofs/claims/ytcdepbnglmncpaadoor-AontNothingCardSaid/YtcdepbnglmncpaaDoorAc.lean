/- Contracts of slices.Grow from nothing and of slices.Concat of two rows of bytes. -/
import Derived.Test.YtcdepbnglmncpaaDoorQN
import Derived.Lib.AppendZerosOnto
import Derived.Lib.SliceRun
import Derived.LoopN
import Derived.Shelf.Abstract
namespace Go.Proofs.YtcdepbnglmncpaaDoor
open Go.ChangeShapes Go.WideShapes Go.ChangeAt Go.RowKit Go.Shelf
set_option linter.unusedVariables false
set_option maxRecDepth 100000
set_option linter.unusedSimpArgs false

set_option maxHeartbeats 1000000 in
theorem grow_nil (n : Nat) (w : World) (h1 : 1 ≤ n) (h2 : n ≤ 1000) :
    Calls Tryd.prog 29 #[.slice none 0 0, .int .i64 (n : Nat)] w fun e w' => ∃ c, e = .returned (.slice (some ⟨w.heap.size, 0, none⟩) 0 c) ∧ w'.ownsRow w.heap.size 5 1 (.slice (some ⟨w.heap.size, 0, none⟩) 0 c) 0 (([] : List Int).map (Value.int .u8)) ∧ Below w.heap.size w w' := by
  obtain ⟨i5, hi, hz0, hz1, hz2⟩ := info_parts info5
  have hold : (Builtin.firstCells i5.size 0 (.slice none 0 0)).run Tryd.prog w.drew = .ok ([] : List Value).toArray w.drew := run_firstCells_none w.drew i5.size 0 0 0
  have hrz := fun ty => Lib.run_append_grow_zeros w 22 3 ty 5 i5 (.int .u8 0) .i64 .i64 Tryd.underlying22 Tryd.underlying3 hi hz0 none 0 0 [] hold n (by omega) (by rw [hz1]; decide) (by omega) (by omega) (by rw [hz2]; omega)
    (by rw [hz2]; have h : Builtin.nextslicecap (0 + n) 0 ≤ 0 + n ∨ Builtin.nextslicecap (0 + n) 0 = 0 + n := by
          unfold Builtin.nextslicecap; simp; omega
        omega)
  rw [Nat.zero_add] at hrz
  have hGn : n ≤ grownCap w n 0 5 := grownCap_ge w _ _ _
  have hGm : grownCap w n 0 5 ≤ maxLen := grownCap_le_maxLen w n 0 5 (by unfold maxLen; omega)
  obtain ⟨G, hG⟩ : ∃ G, G = grownCap w n 0 5 := ⟨_, rfl⟩
  rw [← hG] at hrz hGn hGm
  have hGm2 : G ≤ 9223372036854775807 := by unfold maxLen at hGm; omega
  obtain ⟨cs, hcs⟩ : ∃ cs, cs = Builtin.zeroCells #[Value.int .u8 0] n ++ Builtin.zeroCells #[Value.int .u8 0] (G - n) := ⟨_, rfl⟩
  have hsz : cs.size = G * 1 := by rw [hcs, Array.size_append, size_zeroCells, size_zeroCells]; simp; omega
  have HO : Hid ((w.alloc (.cells cs 5)).drew.ownsRow w.heap.size 5 1 (.slice (some ⟨w.heap.size, 0, none⟩) 0 G) 0 []) := Lib.hid ⟨rfl, .inr ⟨w.heap.size, G, cs, rfl, Nat.le_refl _, heap_alloc_new w _, Nat.zero_le _, hGm, hsz, rfl⟩⟩
  have HB : Hid (Below w.heap.size w (w.alloc (.cells cs 5)).drew) := Lib.hid (((Below.refl w.heap.size w).alloc (Nat.le_refl _) _).drew)
  rw [hcs] at HO HB
  clear hsz hcs cs
  have HR := Lib.hid hrz
  have q1 : ¬ ((n : Int) < 0) := by omega
  have q2 : (0 : Int) < (n : Int) := by omega
  clear hG hGm hold hi hz0 hz1 hz2 hrz
  go_enter Tryd.func29, Tryd.ntmps29
  go_wp2_with (at_builtin; go_loud (refine Lib.wpList_append_run _ rfl _ _ _ _ rfl _ _ rfl rfl _ _ (HR.out _) ?_))
  all_goals (go_ret; exact ⟨G, rfl, HO.out, HB.out⟩)
set_option maxHeartbeats 1000000 in
theorem concat8_any (g : Nat) (a1 : Option Addr) (n1 c1 : Nat) (P : List Int) (a2 : Option Addr) (n2 c2 : Nat) (Q : List Int) (w : World) (h1 : w.cell? ⟨g, 0, none⟩ = some (.slice a1 n1 c1)) (h2 : w.cell? ⟨g, 0 + 1, none⟩ = some (.slice a2 n2 c2)) (hg : g < w.heap.size) (hp : Arg8c w a1 n1 c1 P) (hq : Arg8c w a2 n2 c2 Q) (hn1 : 1 ≤ n1 + n2) (hn : n1 + n2 ≤ 1000) :
    Calls Tryd.prog 16 #[.slice (some ⟨g, 0, none⟩) 2 2] w fun e w' => ∃ v, e = .returned v ∧ w'.ownsRow w.heap.size 5 1 v (n1 + n2) ((P ++ Q).map (Value.int .u8)) ∧ Below w.heap.size w w' := by
  obtain ⟨i5, hi, hz0, hz1, hz2⟩ := info_parts info5
  have HI := Lib.hid (And.intro hi (And.intro hz0 (And.intro hz1 hz2)))
  have HP := Lib.hid hp
  have HQ := Lib.hid hq
  have hgr := fun W => grow_nil (n1 + n2) W (by omega) (by omega)
  simp only [Int.natCast_add] at hgr
  have HGR := Lib.hid hgr
  clear hgr
  have hb1 : n1 ≤ c1 ∧ c1 ≤ 9223372036854775807 := ⟨hp.1.2.2.2.1, hp.1.2.2.2.2⟩
  have hb2 : n2 ≤ c2 ∧ c2 ≤ 9223372036854775807 := ⟨hq.1.2.2.2.1, hq.1.2.2.2.2⟩
  have h2' : w.cell? ⟨g, 1, none⟩ = some (.slice a2 n2 c2) := h2
  have q1 : ¬ ((n1 : Int) < 0) := by omega
  have q2 : ¬ ((n1 : Int) + (n2 : Int) < 0) := by omega
  have q3 : ((n1 + n2 : Nat) : Int) = (n1 : Int) + (n2 : Int) := by omega
  clear hi hz0 hz1 hz2 hp hq h2
  go_enter Tryd.func16, Tryd.ntmps16
  go_wp2
  refine wp_loop_rounds 3 ?_
  rw [rounds_succ]
  go_wp2
  rw [rounds_succ]
  go_wp2
  rw [rounds_succ]
  go_wp2_with (go_at_call 29; go_loud (refine (HGR.out _).mono ?_); rintro e w1 ⟨c3, rfl, ho1, hb1'⟩; have HO1 := Lib.hid ho1; have HB1 := Lib.hid hb1'; clear ho1 hb1'; have hd1 := (HB1.out.cell (p := ⟨g, 0, none⟩) hg).trans h1; have hd2 := (HB1.out.cell (p := ⟨g, 1, none⟩) hg).trans h2')
  refine wp_loop_rounds 3 ?_
  rw [rounds_succ]
  go_wp2_with ((with_reducible show wpList _ _ _ (⟨some 33, _, _, _, _, _⟩ :: _) _ _); go_loud (refine wpList_append_bs _ rfl (.tmp 31) (.tmp 32) 22 rfl w.heap.size 5 i5 Tryd.underlying22 HI.out.1 HI.out.2.1 HI.out.2.2.1 HI.out.2.2.2 _ 0 [] rfl HO1.out _ n1 c1 _ P rfl (HP.out.1.on HB1.out).2.2.1 HP.out.1.1 HP.out.2 (by omega) HB1.out.size ?_); go_loud (intro v1 wc hown1 hg1; rw [Nat.zero_add, List.nil_append] at hown1; have hbel := HB1.out.grown hg1 HB1.out.size (fun z hz => (HO1.out.lt z hz).1); obtain ⟨a4, c4, hv1, _, _, _, _, _⟩ := own_form hown1; subst hv1; have HO2 := Lib.hid hown1; have HB2 := Lib.hid hbel; clear hown1 hg1 hbel; have he2 := (HB2.out.cell (p := ⟨g, 1, none⟩) hg).trans h2'))
  rw [rounds_succ]
  go_wp2_with ((with_reducible show wpList _ _ _ (⟨some 33, _, _, _, _, _⟩ :: _) _ _); go_loud (refine wpList_append_bs _ rfl (.tmp 31) (.tmp 32) 22 rfl w.heap.size 5 i5 Tryd.underlying22 HI.out.1 HI.out.2.1 HI.out.2.2.1 HI.out.2.2.2 _ n1 P rfl HO2.out _ n2 c2 _ Q rfl (HQ.out.1.on HB2.out).2.2.1 HQ.out.1.1 HQ.out.2 (by omega) HB2.out.size ?_); go_loud (intro v1 wc hown1 hg1; have hbel := HB2.out.grown hg1 HB2.out.size (fun z hz => (HO2.out.lt z hz).1); obtain ⟨a5, c5, hv1, _, _, _, _, _⟩ := own_form hown1; subst hv1; have HO3 := Lib.hid hown1; have HB3 := Lib.hid hbel; clear hown1 hg1 hbel))
  rw [rounds_succ]
  go_wp2
  go_ret
  exact ⟨_, rfl, HO3.out, HB3.out⟩
end Go.Proofs.YtcdepbnglmncpaaDoor
