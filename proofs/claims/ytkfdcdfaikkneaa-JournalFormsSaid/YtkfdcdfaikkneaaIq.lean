/- Package sector: checked at a share. -/
import Derived.Test.YtkfdcdfaikkneaaIp
namespace Go.Proofs.Ytkfdcdfaikkneaa
open Go.ChangeShapes Go.WideShapes Go.ChangeAt Go.RowKit Go.Shelf
set_option linter.unusedVariables false
set_option linter.unusedSimpArgs false
set_option maxRecDepth 100000
attribute [local go_sem] Oper.semAt_some

theorem meth_S (x y z u v : Value) (m : Nat) (w : World) : (method (m + 1) 49 (.agg #[x, y, z, u, v]) "Bytes").run Try.prog w = .ok (14, .agg #[x, y, z, u, v]) w := by kernel_rfl
theorem free5 {W : World} {b : Nat} {x0 x1 x2 x3 x4 : Value} {T : TypeId} (h : W.heap[b]? = some (.cells #[x0, x1, x2, x3, x4] T (0, 0))) : (W.cell? ⟨b, 0, none⟩ = some x0 ∧ W.cell? ⟨b, 1, none⟩ = some x1 ∧ W.cell? ⟨b, 2, none⟩ = some x2 ∧ W.cell? ⟨b, 3, none⟩ = some x3 ∧ W.cell? ⟨b, 4, none⟩ = some x4) ∧ (∀ j, W.frozen? ⟨b, j, none⟩ = false) :=
  ⟨cell5 h, fun j => frozen_of_row W b j _ _ h⟩
theorem free5n {W : World} {b : Nat} {x0 x1 x2 x3 x4 : Value} {T : TypeId} (h : W.heap[b]? = some (.cells #[x0, x1, x2, x3, x4] T (0, 0))) (o : Obj) : ((W.alloc o).cell? ⟨b, 0, none⟩ = some x0 ∧ (W.alloc o).cell? ⟨b, 1, none⟩ = some x1 ∧ (W.alloc o).cell? ⟨b, 2, none⟩ = some x2 ∧ (W.alloc o).cell? ⟨b, 3, none⟩ = some x3 ∧ (W.alloc o).cell? ⟨b, 4, none⟩ = some x4) ∧ (∀ j, (W.alloc o).frozen? ⟨b, j, none⟩ = false) :=
  free5 ((heap_alloc_old W o (Array.getElem?_eq_some_iff.1 h).1).trans h)
theorem sizeSh : (Try.prog.info? 49).map (·.size) = some 5 := by kernel_rfl
theorem results_chS (tmps : Array Value) (w : World) (g : Nat) (x0 x1 x2 x3 x4 v : Value) (h2 : tmps.getD 4 undef = .pointer (some ⟨g, 0, none⟩)) (h3 : tmps.getD 5 undef = v) (hg : w.heap[g]? = some (.cells #[x0, x1, x2, x3, x4] 49 (0, 0))) :
    (results Try.f58 tmps).run Try.prog w = .ok (.tuple #[.agg #[x0, x1, x2, x3, x4], v]) w := by
  have h2' : tmps[4]?.getD undef = .pointer (some ⟨g, 0, none⟩) := by simpa using h2
  have h3' : tmps[5]?.getD undef = v := by simpa using h3
  have hr := run_loadVar_row (P := Try.prog) w g 49 49 #[x0, x1, x2, x3, x4] (0, 0) _ hg Try.underlying49 rfl sizeSh
  simp [results, Try.f58, h2', h3', asAddr, hr]
theorem results_paS (tmps : Array Value) (w : World) (g : Nat) (x0 x1 x2 x3 x4 v : Value) (h2 : tmps.getD 2 undef = .pointer (some ⟨g, 0, none⟩)) (h3 : tmps.getD 3 undef = v) (hg : w.heap[g]? = some (.cells #[x0, x1, x2, x3, x4] 49 (0, 0))) :
    (results Try.f27 tmps).run Try.prog w = .ok (.tuple #[.agg #[x0, x1, x2, x3, x4], v]) w := by
  have h2' : tmps[2]?.getD undef = .pointer (some ⟨g, 0, none⟩) := by simpa using h2
  have h3' : tmps[3]?.getD undef = v := by simpa using h3
  have hr := run_loadVar_row (P := Try.prog) w g 49 49 #[x0, x1, x2, x3, x4] (0, 0) _ hg Try.underlying49 rfl sizeSh
  simp [results, Try.f27, h2', h3', asAddr, hr]
/-- What a share's sector says, if it is one. -/
def chSok (s : SH) (b : List Int) : Prop := s.E = 0 ∧ s.S = b
theorem sh_ok {s : SH} (hE : s.E = 0) : s.Ok := by
  unfold SH.E at hE
  by_cases h : s.Ok
  · exact h
  · rw [if_neg h] at hE; omega
set_option maxHeartbeats 4000000 in
theorem checkedS_any (s : SH) (hw : s.Wf) (ar : Option Addr) (nr kr : Nat) (a : Option Addr) (n k : Nat) (b : List Int) (w : World) (hr : Arg8c w ar nr kr s.row) (hnr : nr ≤ 500) (hx : Arg8c w a n k b) :
    Calls Try.prog 58 #[shG s (.slice ar nr kr), .slice a n k] w fun e w' => (chSok s b → e = .returned (.tuple #[shG s (.slice ar nr kr), .int .i64 0])) ∧ (¬ chSok s b → e = .returned (.tuple #[shG ⟨0, 0, 0, 0, []⟩ (.slice none 0 0), .int .i64 3])) ∧ Below w.heap.size w w' := by
  have HC := Lib.hid (fun (W : World) (hW : Below w.heap.size w W) => shareBytes_any s ar nr kr W hw (hr.onV hW) hnr)
  unfold chSok
  obtain ⟨S, hS⟩ : ∃ S, S = s.S := ⟨_, rfl⟩
  obtain ⟨E, hE⟩ : ∃ E, E = s.E := ⟨_, rfl⟩
  have HEE := Lib.hid (show E = 0 ∨ E = 2 by rw [hE]; unfold SH.E; split <;> simp)
  rw [← hS, ← hE] at HC
  rw [← hS, ← hE]
  clear hS hE hr hnr hw
  obtain ⟨x0, x1, x2, x3, row⟩ := s
  unfold shG at HC ⊢
  dsimp only at HC ⊢
  have hm := meth_S (.int .u8 x0) (.int .u8 x1) (.int .u32 x2) (.int .u64 x3) (.slice ar nr kr)
  obtain ⟨A, hA⟩ : ∃ A, A = (w.alloc (.cells #[.int .u8 x0, .int .u8 x1, .int .u32 x2, .int .u64 x3, .slice ar nr kr] 49)).alloc (.cells #[.int .u8 0, .int .u8 0, .int .u32 0, .int .u64 0, .slice none 0 0] 49) := ⟨_, rfl⟩
  have hwA : Below w.heap.size w A := by rw [hA]; exact ((Below.refl _ _).alloc (Nat.le_refl _) _).alloc (by simp) _
  have hAs : A.heap.size = w.heap.size + 2 := by rw [hA]; simp
  have r1 : A.heap[w.heap.size]? = some (.cells #[.int .u8 x0, .int .u8 x1, .int .u32 x2, .int .u64 x3, .slice ar nr kr] 49 (0, 0)) := by rw [hA, heap_alloc_old _ _ (by simp)]; exact heap_alloc_new w _
  have r2 : A.heap[w.heap.size + 1]? = some (.cells #[.int .u8 0, .int .u8 0, .int .u32 0, .int .u64 0, .slice none 0 0] 49 (0, 0)) := by
    have := heap_alloc_new (w.alloc (.cells #[.int .u8 x0, .int .u8 x1, .int .u32 x2, .int .u64 x3, .slice ar nr kr] 49)) (.cells #[.int .u8 0, .int .u8 0, .int .u32 0, .int .u64 0, .slice none 0 0] 49)
    rw [size_alloc1] at this
    rw [hA]; exact this
  have HX := Lib.hid hx
  have HA := Lib.hid (And.intro hA (And.intro hwA (And.intro hAs (And.intro r1 r2))))
  clear hx hA hwA hAs r1 r2
  by_cases hE0 : E = 0
  · subst hE0
    by_cases hSb : S = b
    · have HSB := Lib.hid hSb
      clear hSb
      go_enter Try.func58, Try.ntmps58
      go_wp2_with (first
        | (go_at_call 14; go_loud (rw [← HA.out.1]; refine (HC.out _ HA.out.2.1).mono ?_; rintro e w1 ⟨a1, k1, rfl, hs1, -, hb1⟩; have HB1 := Lib.hid hb1; have HEQ := Lib.hid (eqB_any a1 S.length k1 S a n k b true w1 hs1 (HX.out.onV (bt HA.out.2.1 hb1)) ⟨fun _ => HSB.out, fun _ => rfl⟩); clear hs1 hb1))
        | (go_at_call 82; go_loud (refine HEQ.out.mono ?_; rintro e w2 ⟨rfl, rfl⟩; have r1 := (HB1.out.block _ (by rw [HA.out.2.2.1]; omega)).trans HA.out.2.2.2.1; have r2 := (HB1.out.block _ (by rw [HA.out.2.2.1]; omega)).trans HA.out.2.2.2.2; have R2 := Lib.hid r2; obtain ⟨m0, m1, m2, m3, m4⟩ := cell5 r1; obtain ⟨⟨z0, z1, z2, z3, z4⟩, zf⟩ := free5 r2; clear r1 r2)))
      refine bodyPost_ret (v := .tuple #[.agg #[.int .u8 x0, .int .u8 x1, .int .u32 x2, .int .u64 x3, .slice ar nr kr], .int .i64 0]) (results_chS _ _ (w.heap.size + 1) _ _ _ _ _ _ rfl rfl (set5_row _ _ _ _ _ R2.out)) rfl ⟨fun _ => rfl, fun h => absurd ⟨trivial, HSB.out⟩ h, set5_below (bt HA.out.2.1 HB1.out) (by omega) _ _ _ _ _⟩
    · have HSB := Lib.hid hSb
      have HN := Lib.hid (show ¬ ((0 : Int) = 0 ∧ S = b) from fun h => hSb h.2)
      clear hSb
      go_enter Try.func58, Try.ntmps58
      go_wp2_with (first
        | (go_at_call 14; go_loud (rw [← HA.out.1]; refine (HC.out _ HA.out.2.1).mono ?_; rintro e w1 ⟨a1, k1, rfl, hs1, -, hb1⟩; have HB1 := Lib.hid hb1; have HEQ := Lib.hid (eqB_any a1 S.length k1 S a n k b false w1 hs1 (HX.out.onV (bt HA.out.2.1 hb1)) ⟨fun h => (by cases h), fun h => absurd h HSB.out⟩); clear hs1 hb1))
        | (go_at_call 82; go_loud (refine HEQ.out.mono ?_; rintro e w2 ⟨rfl, rfl⟩; have r2 := (HB1.out.block _ (by rw [HA.out.2.2.1]; omega)).trans HA.out.2.2.2.2; have R2 := Lib.hid r2; obtain ⟨⟨z0, z1, z2, z3, z4⟩, zf⟩ := free5n r2 (.cells #[.int .u8 0, .int .u8 0, .int .u32 0, .int .u64 0, .slice none 0 0] 49); clear r2)))
      refine bodyPost_ret (v := .tuple #[.agg #[.int .u8 0, .int .u8 0, .int .u32 0, .int .u64 0, .slice none 0 0], .int .i64 3]) (results_chS _ _ (w.heap.size + 1) _ _ _ _ _ _ rfl rfl (set5_row _ _ _ _ _ ((heap_alloc_old _ _ (by have := HB1.out.size; have := HA.out.2.2.1; omega)).trans R2.out))) rfl ⟨fun h => absurd h HN.out, fun _ => rfl, set5_below ((bt HA.out.2.1 HB1.out).alloc (by have := HB1.out.size; have := HA.out.2.2.1; omega) _) (by omega) _ _ _ _ _⟩
  · obtain rfl : E = 2 := by rcases HEE.out with h | h <;> omega
    have HN := Lib.hid (show ¬ ((2 : Int) = 0 ∧ S = b) from fun h => by have := h.1; omega)
    go_enter Try.func58, Try.ntmps58
    go_wp2_with (first
      | (go_at_call 14; go_loud (rw [← HA.out.1]; refine (HC.out _ HA.out.2.1).mono ?_; rintro e w1 ⟨a1, k1, rfl, hs1, -, hb1⟩; have HB1 := Lib.hid hb1; skip; have r2 := (HB1.out.block _ (by rw [HA.out.2.2.1]; omega)).trans HA.out.2.2.2.2; have R2 := Lib.hid r2; obtain ⟨⟨z0, z1, z2, z3, z4⟩, zf⟩ := free5n r2 (.cells #[.int .u8 0, .int .u8 0, .int .u32 0, .int .u64 0, .slice none 0 0] 49); clear r2; clear hs1 hb1))
      | (go_at_call 82; go_loud (refine HEQ.out.mono ?_; rintro e w2 ⟨rfl, rfl⟩; fail)))
    refine bodyPost_ret (v := .tuple #[.agg #[.int .u8 0, .int .u8 0, .int .u32 0, .int .u64 0, .slice none 0 0], .int .i64 3]) (results_chS _ _ (w.heap.size + 1) _ _ _ _ _ _ rfl rfl (set5_row _ _ _ _ _ ((heap_alloc_old _ _ (by have := HB1.out.size; have := HA.out.2.2.1; omega)).trans R2.out))) rfl ⟨fun h => absurd h HN.out, fun _ => rfl, set5_below ((bt HA.out.2.1 HB1.out).alloc (by have := HB1.out.size; have := HA.out.2.2.1; omega) _) (by omega) _ _ _ _ _⟩
end Go.Proofs.Ytkfdcdfaikkneaa
