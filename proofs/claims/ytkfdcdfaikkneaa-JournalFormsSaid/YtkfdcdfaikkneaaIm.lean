/- Package sector: checked at a commit; ParseCommit. -/
import Derived.Test.YtkfdcdfaikkneaaIl
namespace Go.Proofs.Ytkfdcdfaikkneaa
open Go.ChangeShapes Go.WideShapes Go.ChangeAt Go.RowKit Go.Shelf
set_option linter.unusedVariables false
set_option linter.unusedSimpArgs false
set_option maxRecDepth 100000
attribute [local go_sem] Oper.semAt_some

theorem meth_C (x y z : Value) (m : Nat) (w : World) : (method (m + 1) 41 (.agg #[x, y, z]) "Bytes").run Try.prog w = .ok (68, .agg #[x, y, z]) w := by kernel_rfl
def set3 (W : World) (g : Nat) (x0 x1 x2 : Value) : World := ((W.setCell ⟨g, 0, none⟩ x0).setCell ⟨g, 1, none⟩ x1).setCell ⟨g, 2, none⟩ x2
theorem set3_row {W : World} {g : Nat} {T : TypeId} {a0 a1 a2 : Value} (x0 x1 x2 : Value) (h : W.heap[g]? = some (.cells #[a0, a1, a2] T (0, 0))) : (set3 W g x0 x1 x2).heap[g]? = some (.cells #[x0, x1, x2] T (0, 0)) :=
  heap_setCell_same _ g 2 _ T x2 (heap_setCell_same _ g 1 _ T x1 (heap_setCell_same _ g 0 _ T x0 h))
theorem set3_below {B : Nat} {V W : World} (h : Below B V W) {g : Nat} (hg : B ≤ g) (x0 x1 x2 : Value) : Below B V (set3 W g x0 x1 x2) :=
  ((h.setCell (p := ⟨g, 0, none⟩) hg x0).setCell (p := ⟨g, 1, none⟩) hg x1).setCell (p := ⟨g, 2, none⟩) hg x2
/-- A row of three cells that may be written: what the walk asks of it, now and behind a new block. -/
theorem free3 {W : World} {b : Nat} {x0 x1 x2 : Value} {T : TypeId} (h : W.heap[b]? = some (.cells #[x0, x1, x2] T (0, 0))) : (W.cell? ⟨b, 0, none⟩ = some x0 ∧ W.cell? ⟨b, 1, none⟩ = some x1 ∧ W.cell? ⟨b, 2, none⟩ = some x2) ∧ (∀ j, W.frozen? ⟨b, j, none⟩ = false) :=
  ⟨cell3 h, fun j => frozen_of_row W b j _ _ h⟩
theorem free3n {W : World} {b : Nat} {x0 x1 x2 : Value} {T : TypeId} (h : W.heap[b]? = some (.cells #[x0, x1, x2] T (0, 0))) (o : Obj) : ((W.alloc o).cell? ⟨b, 0, none⟩ = some x0 ∧ (W.alloc o).cell? ⟨b, 1, none⟩ = some x1 ∧ (W.alloc o).cell? ⟨b, 2, none⟩ = some x2) ∧ (∀ j, (W.alloc o).frozen? ⟨b, j, none⟩ = false) :=
  free3 ((heap_alloc_old W o (Array.getElem?_eq_some_iff.1 h).1).trans h)
theorem sizeCm : (Try.prog.info? 41).map (·.size) = some 3 := by kernel_rfl
theorem results_chC (tmps : Array Value) (w : World) (g : Nat) (x0 x1 x2 v : Value) (h2 : tmps.getD 4 undef = .pointer (some ⟨g, 0, none⟩)) (h3 : tmps.getD 5 undef = v) (hg : w.heap[g]? = some (.cells #[x0, x1, x2] 41 (0, 0))) :
    (results Try.f59 tmps).run Try.prog w = .ok (.tuple #[.agg #[x0, x1, x2], v]) w := by
  have h2' : tmps[4]?.getD undef = .pointer (some ⟨g, 0, none⟩) := by simpa using h2
  have h3' : tmps[5]?.getD undef = v := by simpa using h3
  have hr := run_loadVar_row (P := Try.prog) w g 41 41 #[x0, x1, x2] (0, 0) _ hg Try.underlying41 rfl sizeCm
  simp [results, Try.f59, h2', h3', asAddr, hr]
theorem results_paC (tmps : Array Value) (w : World) (g : Nat) (x0 x1 x2 v : Value) (h2 : tmps.getD 2 undef = .pointer (some ⟨g, 0, none⟩)) (h3 : tmps.getD 3 undef = v) (hg : w.heap[g]? = some (.cells #[x0, x1, x2] 41 (0, 0))) :
    (results Try.f28 tmps).run Try.prog w = .ok (.tuple #[.agg #[x0, x1, x2], v]) w := by
  have h2' : tmps[2]?.getD undef = .pointer (some ⟨g, 0, none⟩) := by simpa using h2
  have h3' : tmps[3]?.getD undef = v := by simpa using h3
  have hr := run_loadVar_row (P := Try.prog) w g 41 41 #[x0, x1, x2] (0, 0) _ hg Try.underlying41 rfl sizeCm
  simp [results, Try.f28, h2', h3', asAddr, hr]
def chC (c : CM) (b : List Int) : Value := if c.E = 0 ∧ c.S = b then .tuple #[cmA c, .int .i64 0] else .tuple #[cmA ⟨0, 0, 0⟩, .int .i64 3]
set_option maxHeartbeats 4000000 in
theorem checkedC_any (c : CM) (hw : c.Wf) (a : Option Addr) (n k : Nat) (b : List Int) (w : World) (hx : Arg8c w a n k b) :
    Calls Try.prog 59 #[cmA c, .slice a n k] w fun e w' => e = .returned (chC c b) ∧ Below w.heap.size w w' := by
  have HC := Lib.hid (fun W => commitBytes_any c W hw)
  have hm := meth_C (.int .u8 c.st) (.int .u8 c.n) (.int .u64 c.g)
  obtain ⟨S, hS⟩ : ∃ S, S = c.S := ⟨_, rfl⟩
  obtain ⟨E, hE⟩ : ∃ E, E = c.E := ⟨_, rfl⟩
  have HR := Lib.hid (show chC c b = if E = 0 ∧ S = b then .tuple #[cmA c, .int .i64 0] else .tuple #[cmA ⟨0, 0, 0⟩, .int .i64 3] by rw [hS, hE]; rfl)
  rw [← hS, ← hE] at HC
  have HEE := Lib.hid (show E = 0 ∨ E = 2 by rw [hE]; unfold CM.E; split <;> simp)
  unfold cmA at HC HR ⊢
  obtain ⟨A, hA⟩ : ∃ A, A = (w.alloc (.cells #[.int .u8 c.st, .int .u8 c.n, .int .u64 c.g] 41)).alloc (.cells #[.int .u8 0, .int .u8 0, .int .u64 0] 41) := ⟨_, rfl⟩
  have hwA : Below w.heap.size w A := by rw [hA]; exact ((Below.refl _ _).alloc (Nat.le_refl _) _).alloc (by simp) _
  have hAs : A.heap.size = w.heap.size + 2 := by rw [hA]; simp
  have r1 : A.heap[w.heap.size]? = some (.cells #[.int .u8 c.st, .int .u8 c.n, .int .u64 c.g] 41 (0, 0)) := by rw [hA, heap_alloc_old _ _ (by simp)]; exact heap_alloc_new w _
  have r2 : A.heap[w.heap.size + 1]? = some (.cells #[.int .u8 0, .int .u8 0, .int .u64 0] 41 (0, 0)) := by
    have := heap_alloc_new (w.alloc (.cells #[.int .u8 c.st, .int .u8 c.n, .int .u64 c.g] 41)) (.cells #[.int .u8 0, .int .u8 0, .int .u64 0] 41)
    rw [size_alloc1] at this
    rw [hA]; exact this
  have HX := Lib.hid hx
  have HA := Lib.hid (And.intro hA (And.intro hwA (And.intro hAs (And.intro r1 r2))))
  generalize c.st = x0 at *
  generalize c.n = x1 at *
  generalize c.g = x2 at *
  clear hx hS hE hA hwA hAs r1 r2
  by_cases hE0 : E = 0
  · subst hE0
    by_cases hSb : S = b
    · have HV := Lib.hid (show chC c b = .tuple #[.agg #[.int .u8 x0, .int .u8 x1, .int .u64 x2], .int .i64 0] by rw [HR.out, if_pos ⟨rfl, hSb⟩])
      have HSB := Lib.hid hSb
      clear hSb
      go_enter Try.func59, Try.ntmps59
      go_wp2_with (first
        | (go_at_call 68; go_loud (refine (HC.out _).mono ?_; rintro e w1 ⟨a1, k1, rfl, hs1, -, hb1⟩; rw [← HA.out.1] at hb1; have HB1 := Lib.hid hb1; have HEQ := Lib.hid (eqB_any a1 S.length k1 S a n k b true w1 hs1 (HX.out.onV (bt HA.out.2.1 hb1)) ⟨fun _ => HSB.out, fun _ => rfl⟩); clear hs1 hb1))
        | (go_at_call 82; go_loud (refine HEQ.out.mono ?_; rintro e w2 ⟨rfl, rfl⟩; have r1 := (HB1.out.block _ (by rw [HA.out.2.2.1]; omega)).trans HA.out.2.2.2.1; have r2 := (HB1.out.block _ (by rw [HA.out.2.2.1]; omega)).trans HA.out.2.2.2.2; have R2 := Lib.hid r2; obtain ⟨m0, m1, m2⟩ := cell3 r1; obtain ⟨⟨z0, z1, z2⟩, zf⟩ := free3 r2; clear r1 r2)))
      refine bodyPost_ret (v := .tuple #[.agg #[.int .u8 x0, .int .u8 x1, .int .u64 x2], .int .i64 0]) (results_chC _ _ (w.heap.size + 1) _ _ _ _ rfl rfl (set3_row _ _ _ R2.out)) rfl ⟨HV.out.symm ▸ rfl, set3_below (bt HA.out.2.1 HB1.out) (by omega) _ _ _⟩
    · have HV := Lib.hid (show chC c b = .tuple #[.agg #[.int .u8 0, .int .u8 0, .int .u64 0], .int .i64 3] by rw [HR.out, if_neg (fun h => hSb h.2)])
      have HSB := Lib.hid hSb
      clear hSb
      go_enter Try.func59, Try.ntmps59
      go_wp2_with (first
        | (go_at_call 68; go_loud (refine (HC.out _).mono ?_; rintro e w1 ⟨a1, k1, rfl, hs1, -, hb1⟩; rw [← HA.out.1] at hb1; have HB1 := Lib.hid hb1; have HEQ := Lib.hid (eqB_any a1 S.length k1 S a n k b false w1 hs1 (HX.out.onV (bt HA.out.2.1 hb1)) ⟨fun h => (by cases h), fun h => absurd h HSB.out⟩); clear hs1 hb1))
        | (go_at_call 82; go_loud (refine HEQ.out.mono ?_; rintro e w2 ⟨rfl, rfl⟩; have r1 := (HB1.out.block _ (by rw [HA.out.2.2.1]; omega)).trans HA.out.2.2.2.1; have r2 := (HB1.out.block _ (by rw [HA.out.2.2.1]; omega)).trans HA.out.2.2.2.2; have R2 := Lib.hid r2; obtain ⟨⟨z0, z1, z2⟩, zf⟩ := free3n r2 (.cells #[.int .u8 0, .int .u8 0, .int .u64 0] 41); clear r1 r2)))
      refine bodyPost_ret (v := .tuple #[.agg #[.int .u8 0, .int .u8 0, .int .u64 0], .int .i64 3]) (results_chC _ _ (w.heap.size + 1) _ _ _ _ rfl rfl (set3_row _ _ _ ((heap_alloc_old _ _ (by have := HB1.out.size; have := HA.out.2.2.1; omega)).trans R2.out))) rfl ⟨HV.out.symm ▸ rfl, set3_below ((bt HA.out.2.1 HB1.out).alloc (by have := HB1.out.size; have := HA.out.2.2.1; omega) _) (by omega) _ _ _⟩
  · obtain rfl : E = 2 := by rcases HEE.out with h | h <;> omega
    have HV := Lib.hid (show chC c b = .tuple #[.agg #[.int .u8 0, .int .u8 0, .int .u64 0], .int .i64 3] by rw [HR.out, if_neg (fun h => by omega)])
    go_enter Try.func59, Try.ntmps59
    go_wp2_with (first
      | (go_at_call 68; go_loud (refine (HC.out _).mono ?_; rintro e w1 ⟨a1, k1, rfl, hs1, -, hb1⟩; rw [← HA.out.1] at hb1; have HB1 := Lib.hid hb1; skip; have r1 := (HB1.out.block _ (by rw [HA.out.2.2.1]; omega)).trans HA.out.2.2.2.1; have r2 := (HB1.out.block _ (by rw [HA.out.2.2.1]; omega)).trans HA.out.2.2.2.2; have R2 := Lib.hid r2; obtain ⟨⟨z0, z1, z2⟩, zf⟩ := free3n r2 (.cells #[.int .u8 0, .int .u8 0, .int .u64 0] 41); clear r1 r2; clear hs1 hb1))
      | (go_at_call 82; go_loud (refine HEQ.out.mono ?_; rintro e w2 ⟨rfl, rfl⟩; fail)))
    refine bodyPost_ret (v := .tuple #[.agg #[.int .u8 0, .int .u8 0, .int .u64 0], .int .i64 3]) (results_chC _ _ (w.heap.size + 1) _ _ _ _ rfl rfl (set3_row _ _ _ ((heap_alloc_old _ _ (by have := HB1.out.size; have := HA.out.2.2.1; omega)).trans R2.out))) rfl ⟨HV.out.symm ▸ rfl, set3_below ((bt HA.out.2.1 HB1.out).alloc (by have := HB1.out.size; have := HA.out.2.2.1; omega) _) (by omega) _ _ _⟩
theorem cm_ok {c : CM} {b : List Int} (hE : c.E = 0) : c.Ok := by
  unfold CM.E at hE
  by_cases h : c.Ok
  · exact h
  · rw [if_neg h] at hE; omega
theorem chC_par {b : List Int} (hl : b.length = 512) : chC (pcmR b) b = .tuple #[cmA (pcmZ b), .int .i64 (pcmE b)] := by
  unfold chC pcmZ pcmE pcm
  by_cases h : (pcmR b).E = 0 ∧ (pcmR b).S = b
  · have ho := cm_ok (b := b) h.1
    rw [if_pos h, if_pos ⟨hl, ho, (CM.S_ok ho).1.symm.trans h.2⟩]; rfl
  · rw [if_neg h, if_neg (fun k => h ⟨(CM.S_ok k.2.1).2, (CM.S_ok k.2.1).1.trans k.2.2⟩)]; rfl
end Go.Proofs.Ytkfdcdfaikkneaa
