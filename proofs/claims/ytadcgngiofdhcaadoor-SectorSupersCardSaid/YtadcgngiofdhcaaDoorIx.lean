/- Package sector: checked at a super. -/
import Derived.Test.YtadcgngiofdhcaaDoorIw
namespace Go.Proofs.YtadcgngiofdhcaaDoor
open Go.ChangeShapes Go.WideShapes Go.ChangeAt Go.RowKit Go.Shelf
set_option linter.unusedVariables false
set_option linter.unusedSimpArgs false
set_option maxRecDepth 100000
attribute [local go_sem] Oper.semAt_some

theorem meth_Su (cs : Array Value) (m : Nat) (w : World) : (method (m + 1) 30 (.agg cs) "Bytes").run Tryd.prog w = .ok (6, .agg cs) w := by kernel_rfl
theorem infoSu : (Tryd.prog.info? 30).map (fun i => (i.zero, i.size)) = some (some (.agg (tabV 276 (suV suZ))), 276) := by kernel_rfl
theorem byte0 : byteI 0 := ⟨Int.le_refl _, by omega⟩
theorem u320 : u32I 0 := ⟨Int.le_refl _, by omega⟩
theorem suZ_wf : suZ.Wf := ⟨⟨rfl, fun x hx => by rw [(List.mem_replicate.1 hx).2]; omega⟩, byte0, byte0, byte0, byte0, byte0, u320, u320, u320, by simp [suZ], u320, u320, byte0, u320⟩
theorem results_chSu (tmps : Array Value) (w : World) (g : Nat) (cs : Array Value) (v : Value) (h2 : tmps.getD 4 undef = .pointer (some ⟨g, 0, none⟩)) (h3 : tmps.getD 5 undef = v) (hg : w.heap[g]? = some (.cells cs 30 (0, 0))) (hs : (Tryd.prog.info? 30).map (·.size) = some cs.size) :
    (results Tryd.f29 tmps).run Tryd.prog w = .ok (.tuple #[.agg cs, v]) w := by
  have h2' : tmps[4]?.getD undef = .pointer (some ⟨g, 0, none⟩) := by simpa using h2
  have h3' : tmps[5]?.getD undef = v := by simpa using h3
  have hr := run_loadVar_row (P := Tryd.prog) w g 30 30 cs (0, 0) _ hg Tryd.underlying30 rfl hs
  simp [results, Tryd.f29, h2', h3', asAddr, hr]
theorem results_paSu (tmps : Array Value) (w : World) (g : Nat) (cs : Array Value) (v : Value) (h2 : tmps.getD 2 undef = .pointer (some ⟨g, 0, none⟩)) (h3 : tmps.getD 3 undef = v) (hg : w.heap[g]? = some (.cells cs 30 (0, 0))) (hs : (Tryd.prog.info? 30).map (·.size) = some cs.size) :
    (results Tryd.f9 tmps).run Tryd.prog w = .ok (.tuple #[.agg cs, v]) w := by
  have h2' : tmps[2]?.getD undef = .pointer (some ⟨g, 0, none⟩) := by simpa using h2
  have h3' : tmps[3]?.getD undef = v := by simpa using h3
  have hr := run_loadVar_row (P := Tryd.prog) w g 30 30 cs (0, 0) _ hg Tryd.underlying30 rfl hs
  simp [results, Tryd.f9, h2', h3', asAddr, hr]
/-- A row set anew. -/
theorem row_set {w : World} {b : Nat} {P Q : SU} (h : SuB w b P) : SuB (w.setRow b (tabV 276 (suV Q))) b Q := Blk.row h _
theorem row_other (w : World) (b k : Nat) (cs : Array Value) (h : k ≠ b) : (w.setRow b cs).heap[k]? = w.heap[k]? := setRow_other w b k cs h
set_option maxHeartbeats 8000000 in
theorem checkedSu_any (P : SU) (hP : P.Wf) (a : Option Addr) (n k : Nat) (b : List Int) (w : World) (hG : Gl w) (hx : Arg8c w a n k b) :
    Calls Tryd.prog 29 #[suA P, .slice a n k] w fun e w' => (chSU P b → e = .returned (.tuple #[suA P, .int .i64 0])) ∧ (¬ chSU P b → e = .returned (.tuple #[suA suZ, .int .i64 3])) ∧ Below w.heap.size w w' := by
  have HC := Lib.hid (fun (W : World) (hW : Below w.heap.size w W) => superBytes_any P hP W (hG.on hW hG.1))
  unfold chSU
  obtain ⟨S, hS⟩ : ∃ S, S = P.S := ⟨_, rfl⟩
  obtain ⟨E, hE⟩ : ∃ E, E = P.E := ⟨_, rfl⟩
  have HEE := Lib.hid (show E = 0 ∨ E = 2 by rw [hE]; unfold SU.E; split <;> simp)
  rw [← hS, ← hE] at HC
  rw [← hS, ← hE]
  clear hS hE hG
  obtain ⟨hz, hi⟩ := zero_of_info infoSu
  obtain ⟨s0, hs0⟩ : ∃ s, s = tabV 276 (suV P) := ⟨_, rfl⟩
  obtain ⟨c0, hc0⟩ : ∃ s, s = tabV 276 (suV suZ) := ⟨_, rfl⟩
  unfold suA at HC ⊢
  rw [← hs0] at HC
  rw [← hs0, ← hc0]
  rw [← hc0] at hz
  have HSZ := Lib.hid (show (Tryd.prog.info? 30).map (·.size) = some s0.size ∧ (Tryd.prog.info? 30).map (·.size) = some c0.size ∧ c0.size = s0.size by rw [hs0, hc0, size_tabV, size_tabV]; exact ⟨sizeSu, sizeSu, rfl⟩)
  have HON := Lib.hid (show s0.all (·.oneCell') = true ∧ c0.all (·.oneCell') = true by rw [hs0, hc0]; exact ⟨tabV_one (suV_one P), tabV_one (suV_one suZ)⟩)
  have hm := meth_Su s0
  obtain ⟨A, hA⟩ : ∃ A, A = (w.alloc (.cells s0 30)).alloc (.cells c0 30) := ⟨_, rfl⟩
  have hwA : Below w.heap.size w A := by rw [hA]; exact ((Below.refl _ _).alloc (Nat.le_refl _) _).alloc (by simp) _
  have hAs : A.heap.size = w.heap.size + 2 := by rw [hA]; simp
  have r1 : A.heap[w.heap.size]? = some (.cells s0 30 (0, 0)) := by rw [hA, heap_alloc_old _ _ (by simp)]; exact heap_alloc_new w _
  have r2 : A.heap[w.heap.size + 1]? = some (.cells c0 30 (0, 0)) := by
    have := heap_alloc_new (w.alloc (.cells s0 30)) (.cells c0 30)
    rw [size_alloc1] at this
    rw [hA]; exact this
  have HX := Lib.hid hx
  have HA := Lib.hid (And.intro hA (And.intro hwA (And.intro hAs (And.intro r1 r2))))
  clear hx hA hwA hAs r1 r2 hs0 hc0 hi
  by_cases hE0 : E = 0
  · subst hE0
    by_cases hSb : S = b
    · have HSB := Lib.hid hSb
      clear hSb
      go_enter Tryd.func29, Tryd.ntmps29
      go_wp2_with (first
        | ((with_reducible show wpList _ _ _ (⟨some 10, _, _, _, _, _⟩ :: _) _ _); go_loud (refine wpList_load_row rfl 30 (.tmp 2) rfl w.heap.size rfl 30 s0 (0, 0) _ (by rw [← HA.out.1]; exact HA.out.2.2.2.1) Tryd.underlying30 rfl HSZ.out.1 ?_))
        | (go_at_call 6; go_loud (rw [← HA.out.1]; refine (HC.out _ HA.out.2.1).mono ?_; rintro e w1 ⟨a1, k1, rfl, hs1, -, hb1⟩; have HB1 := Lib.hid hb1; have HEQ := Lib.hid (eqB_any a1 S.length k1 S a n k b true w1 hs1 (HX.out.onV (bt HA.out.2.1 hb1)) ⟨fun _ => HSB.out, fun _ => rfl⟩); have R1 := Lib.hid ((HB1.out.block _ (by rw [HA.out.2.2.1]; omega)).trans HA.out.2.2.2.1); have R2 := Lib.hid ((HB1.out.block _ (by rw [HA.out.2.2.1]; omega)).trans HA.out.2.2.2.2); clear hs1 hb1))
        | (go_at_call 47; go_loud (refine HEQ.out.mono ?_; rintro e w2 ⟨rfl, rfl⟩))
        | ((with_reducible show wpList _ _ _ (⟨some 24, _, _, _, _, _⟩ :: _) _ _); go_loud (refine wpList_load_row rfl 30 (.tmp 2) rfl w.heap.size rfl 30 s0 (0, 0) _ R1.out Tryd.underlying30 rfl HSZ.out.1 ?_))
        | ((with_reducible show wpList _ _ _ (⟨none, _, _, _, _, _⟩ :: _) _ _); go_loud (refine wpList_store_row rfl 30 (.tmp 4) (.tmp 24) rfl (w.heap.size + 1) s0 rfl rfl 30 c0 R2.out HSZ.out.1 HSZ.out.2.2 HON.out.1 ?_)))
      refine bodyPost_ret (v := .tuple #[.agg s0, .int .i64 0]) (results_chSu _ _ (w.heap.size + 1) s0 _ rfl rfl (setRow_heap _ _ _ _ _ _ R2.out) HSZ.out.1) rfl ⟨fun _ => rfl, fun h => absurd ⟨trivial, HSB.out⟩ h, below_setRow (bt HA.out.2.1 HB1.out) (by omega) _⟩
    · have HSB := Lib.hid hSb
      have HN := Lib.hid (show ¬ ((0 : Int) = 0 ∧ S = b) from fun h => hSb h.2)
      clear hSb
      go_enter Tryd.func29, Tryd.ntmps29
      go_wp2_with (first
        | ((with_reducible show wpList _ _ _ (⟨some 10, _, _, _, _, _⟩ :: _) _ _); go_loud (refine wpList_load_row rfl 30 (.tmp 2) rfl w.heap.size rfl 30 s0 (0, 0) _ (by rw [← HA.out.1]; exact HA.out.2.2.2.1) Tryd.underlying30 rfl HSZ.out.1 ?_))
        | (go_at_call 6; go_loud (rw [← HA.out.1]; refine (HC.out _ HA.out.2.1).mono ?_; rintro e w1 ⟨a1, k1, rfl, hs1, -, hb1⟩; have HB1 := Lib.hid hb1; have HEQ := Lib.hid (eqB_any a1 S.length k1 S a n k b false w1 hs1 (HX.out.onV (bt HA.out.2.1 hb1)) ⟨fun h => (by cases h), fun h => absurd h HSB.out⟩); have R1 := Lib.hid ((HB1.out.block _ (by rw [HA.out.2.2.1]; omega)).trans HA.out.2.2.2.1); have R2 := Lib.hid ((HB1.out.block _ (by rw [HA.out.2.2.1]; omega)).trans HA.out.2.2.2.2); clear hs1 hb1))
        | (go_at_call 47; go_loud (refine HEQ.out.mono ?_; rintro e w2 ⟨rfl, rfl⟩))
        | ((with_reducible show wpList _ _ _ (⟨some 23, _, _, _, _, _⟩ :: _) _ _); go_loud (refine wpList_load_row rfl 30 (.tmp 8) rfl w2.heap.size rfl 30 c0 (0, 0) _ (heap_alloc_new w2 _) Tryd.underlying30 rfl HSZ.out.2.1 ?_))
        | ((with_reducible show wpList _ _ _ (⟨none, _, _, _, _, _⟩ :: _) _ _); go_loud (refine wpList_store_row rfl 30 (.tmp 4) (.tmp 23) rfl (w.heap.size + 1) c0 rfl rfl 30 c0 ((heap_alloc_old _ _ (by have := HB1.out.size; have := HA.out.2.2.1; omega)).trans R2.out) HSZ.out.2.1 rfl HON.out.2 ?_)))
      refine bodyPost_ret (v := .tuple #[.agg c0, .int .i64 3]) (results_chSu _ _ (w.heap.size + 1) c0 _ rfl rfl (setRow_heap _ _ _ _ _ _ ((heap_alloc_old _ _ (by have := HB1.out.size; have := HA.out.2.2.1; omega)).trans R2.out)) HSZ.out.2.1) rfl ⟨fun h => absurd h HN.out, fun _ => rfl, below_setRow ((bt HA.out.2.1 HB1.out).alloc (by have := HB1.out.size; have := HA.out.2.2.1; omega) _) (by omega) _⟩
  · obtain rfl : E = 2 := by rcases HEE.out with h | h <;> omega
    have HN := Lib.hid (show ¬ ((2 : Int) = 0 ∧ S = b) from fun h => by have := h.1; omega)
    go_enter Tryd.func29, Tryd.ntmps29
    go_wp2_with (first
      | ((with_reducible show wpList _ _ _ (⟨some 10, _, _, _, _, _⟩ :: _) _ _); go_loud (refine wpList_load_row rfl 30 (.tmp 2) rfl w.heap.size rfl 30 s0 (0, 0) _ (by rw [← HA.out.1]; exact HA.out.2.2.2.1) Tryd.underlying30 rfl HSZ.out.1 ?_))
      | (go_at_call 6; go_loud (rw [← HA.out.1]; refine (HC.out _ HA.out.2.1).mono ?_; rintro e w1 ⟨a1, k1, rfl, hs1, -, hb1⟩; have HB1 := Lib.hid hb1; skip; have R1 := Lib.hid ((HB1.out.block _ (by rw [HA.out.2.2.1]; omega)).trans HA.out.2.2.2.1); have R2 := Lib.hid ((HB1.out.block _ (by rw [HA.out.2.2.1]; omega)).trans HA.out.2.2.2.2); clear hs1 hb1))
      | (go_at_call 47; go_loud (refine HEQ.out.mono ?_; rintro e w2 ⟨rfl, rfl⟩))
      | ((with_reducible show wpList _ _ _ (⟨some 23, _, _, _, _, _⟩ :: _) _ _); go_loud (refine wpList_load_row rfl 30 (.tmp 8) rfl w1.heap.size rfl 30 c0 (0, 0) _ (heap_alloc_new w1 _) Tryd.underlying30 rfl HSZ.out.2.1 ?_))
      | ((with_reducible show wpList _ _ _ (⟨none, _, _, _, _, _⟩ :: _) _ _); go_loud (refine wpList_store_row rfl 30 (.tmp 4) (.tmp 23) rfl (w.heap.size + 1) c0 rfl rfl 30 c0 ((heap_alloc_old _ _ (by have := HB1.out.size; have := HA.out.2.2.1; omega)).trans R2.out) HSZ.out.2.1 rfl HON.out.2 ?_)))
    refine bodyPost_ret (v := .tuple #[.agg c0, .int .i64 3]) (results_chSu _ _ (w.heap.size + 1) c0 _ rfl rfl (setRow_heap _ _ _ _ _ _ ((heap_alloc_old _ _ (by have := HB1.out.size; have := HA.out.2.2.1; omega)).trans R2.out)) HSZ.out.2.1) rfl ⟨fun h => absurd h HN.out, fun _ => rfl, below_setRow ((bt HA.out.2.1 HB1.out).alloc (by have := HB1.out.size; have := HA.out.2.2.1; omega) _) (by omega) _⟩
end Go.Proofs.YtadcgngiofdhcaaDoor
