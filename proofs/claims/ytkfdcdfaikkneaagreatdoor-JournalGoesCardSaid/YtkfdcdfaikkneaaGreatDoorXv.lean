/- Package journal: Super, PutSuper (the door: package hash's tables stand in memory). -/
import Derived.Test.YtkfdcdfaikkneaaGreatDoorXf
import Derived.Test.YtkfdcdfaikkneaaGreatDoorDL
import Derived.Test.YtkfdcdfaikkneaaGreatDoorDJ
namespace Go.Proofs.YtkfdcdfaikkneaaGreatDoor
open Go.ChangeShapes Go.WideShapes Go.ChangeAt Go.RowKit Go.Shelf
set_option linter.unusedVariables false
set_option linter.unusedSimpArgs false
set_option maxRecDepth 100000
attribute [local go_sem] Oper.semAt_some

theorem results_jsu (tmps : Array Value) (w : World) (g : Nat) (cs : Array Value) (v : Value) (h2 : tmps.getD 2 undef = .pointer (some ⟨g, 0, none⟩)) (h3 : tmps.getD 3 undef = v) (hg : w.heap[g]? = some (.cells cs 33 (0, 0))) (hs : (Tryz.prog.info? 33).map (·.size) = some cs.size) :
    (results Tryz.f6 tmps).run Tryz.prog w = .ok (.tuple #[.agg cs, v]) w := by
  have h2' : tmps[2]?.getD undef = .pointer (some ⟨g, 0, none⟩) := by simpa using h2
  have h3' : tmps[3]?.getD undef = v := by simpa using h3
  have hr := run_loadVar_row (P := Tryz.prog) w g 33 33 cs (0, 0) _ hg Tryz.underlying33 rfl hs
  simp [results, Tryz.f6, h2', h3', asAddr, hr]
variable {tb : Nat} {F F' Fp : Nat → Prop} {S : MS} {pp : Option Nat} {l : Int} {u j : Nat}
def jsE (S : MS) : Int := if flE S 0 = 0 then psuE (flB S 0) else flE S 0
def jsZ (S : MS) : SU := if flE S 0 = 0 then psuZ (flB S 0) else suZ
set_option maxHeartbeats 4000000 in
theorem jsuper_any {w : World} (h : MJ w tb F S pp Fp l u j) (hj : j ≤ 999) (hd : S.down = false) (hl : l ≠ 0) (hG : Gl w) :
    Calls Tryz.prog 6 #[tbV tb] w fun e w' => e = .returned (.tuple #[suA (jsZ S), .int .i64 (jsE S)]) ∧ Below w.heap.size w w' := by
  obtain ⟨hz, hi⟩ := zero_of_info infoSu
  obtain ⟨c0, hc0⟩ : ∃ s, s = tabV 276 (suV suZ) := ⟨_, rfl⟩
  rw [← hc0] at hz
  have HSZ := Lib.hid (show (Tryz.prog.info? 33).map (·.size) = some c0.size by rw [hc0, size_tabV]; exact sizeSu)
  have HON := Lib.hid (show c0.all (·.oneCell') = true by rw [hc0]; exact tabV_one (suV_one suZ))
  obtain ⟨A, hA⟩ : ∃ A, A = w.alloc (.cells c0 33) := ⟨_, rfl⟩
  have hwA : Below w.heap.size w A := by rw [hA]; exact (Below.refl _ _).alloc (Nat.le_refl _) _
  have hAs : A.heap.size = w.heap.size + 1 := by rw [hA]; simp
  have r1 : A.heap[w.heap.size]? = some (.cells c0 33 (0, 0)) := by rw [hA]; exact heap_alloc_new w _
  have HA := Lib.hid (And.intro hA (And.intro hwA (And.intro hAs r1)))
  have HFI := Lib.hid (show Calls Tryz.prog 24 #[tbV tb, .int .i64 0] A fun e w' => ∃ a k, e = .returned (.tuple #[.slice a (flB S 0).length k, .int .i64 (flE S 0)]) ∧ Arg8c w' a (flB S 0).length k (flB S 0) ∧ Below A.heap.size A w' from filled_any (h.on hwA) hj hd hl 0 (by have := h.ok.size1; omega))
  have hB := (flB_ok h.ok 0).2
  have HG := Lib.hid hG
  unfold jsE jsZ
  obtain ⟨E, hE⟩ : ∃ E, E = flE S 0 := ⟨_, rfl⟩
  obtain ⟨B, hBB⟩ : ∃ B, B = flB S 0 := ⟨_, rfl⟩
  rw [← hE, ← hBB] at HFI ⊢
  rw [← hBB] at hB
  have HBL := Lib.hid hB
  by_cases hE0 : E = 0
  · rw [if_pos hE0, if_pos hE0]
    have HPS := Lib.hid (fun (a : Option Addr) (k : Nat) (W : World) (hx : Arg8c W a B.length k B) (hg : Gl W) => parseSuper_any a B.length k B W hx (by have := HBL.out; omega) hg)
    obtain ⟨Z, hZ⟩ : ∃ Z, Z = psuZ B := ⟨_, rfl⟩
    obtain ⟨E2, hE2⟩ : ∃ E2, E2 = psuE B := ⟨_, rfl⟩
    rw [← hZ, ← hE2] at HPS ⊢
    obtain ⟨cZ, hcZ⟩ : ∃ s, s = tabV 276 (suV Z) := ⟨_, rfl⟩
    have HSA := Lib.hid (show suA Z = .agg cZ by rw [hcZ]; rfl)
    rw [HSA.out] at HPS ⊢
    have HSN := Lib.hid (show (Tryz.prog.info? 33).map (·.size) = some cZ.size ∧ c0.size = cZ.size ∧ cZ.all (·.oneCell') = true by
      rw [hcZ, hc0, size_tabV, size_tabV]; exact ⟨sizeSu, rfl, tabV_one (suV_one _)⟩)
    subst hE0
    clear h hd hl hG hA hwA hAs r1 hB hE hBB hZ hE2 hcZ hc0 hi
    go_enter Tryz.func6, Tryz.ntmps6
    go_wp2_with (first
      | (go_at_call 24; go_loud (rw [← HA.out.1]; refine HFI.out.mono ?_; rintro e w1 ⟨a, k, rfl, hx, hb⟩; have HX := Lib.hid hx; have HB := Lib.hid hb; clear hx hb))
      | (go_at_call 25; go_loud (refine (HPS.out _ _ _ HX.out (HG.out.on (bt HA.out.2.1 HB.out) HG.out.1)).mono ?_; rintro e w2 ⟨rfl, hb2⟩; have HB3 := Lib.hid (bt HB.out hb2); have R3 := Lib.hid (show w2.heap[w.heap.size]? = some (.cells c0 33 (0, 0)) from ((bt HB.out hb2).block _ (by rw [HA.out.2.2.1]; omega)).trans HA.out.2.2.2); clear hb2))
      | ((with_reducible show wpList _ _ _ (⟨none, _, _, _, _, _⟩ :: _) _ _); go_loud (refine wpList_store_row rfl 33 (.tmp 2) (.tmp 17) rfl w.heap.size cZ rfl rfl 33 c0 R3.out HSN.out.1 HSN.out.2.1 HSN.out.2.2 ?_)))
    exact bodyPost_ret (v := .tuple #[.agg cZ, .int .i64 E2]) (results_jsu _ _ w.heap.size cZ _ rfl rfl (setRow_heap _ _ _ _ _ _ R3.out) HSN.out.1) rfl ⟨rfl, below_setRow (bt HA.out.2.1 HB3.out) (Nat.le_refl _) _⟩
  · rw [if_neg hE0, if_neg hE0]
    have qE : (E == 0) = false := by rw [beq_eq_false_iff_ne]; exact hE0
    have HBD := Lib.hid (show Tryz.prog.built 33 [] = some c0 by rw [hc0]; exact built_su0)
    have HSA := Lib.hid (show suA suZ = .agg c0 by rw [hc0]; rfl)
    rw [HSA.out]
    clear h hd hl hG hA hwA hAs r1 hB hE hBB hc0 hi hE0
    go_enter Tryz.func6, Tryz.ntmps6
    go_wp2_with (first
      | (go_at_call 24; go_loud (rw [← HA.out.1]; refine HFI.out.mono ?_; rintro e w1 ⟨a, k, rfl, hx, hb⟩; have HB3 := Lib.hid hb; have R3 := Lib.hid (show w1.heap[w.heap.size]? = some (.cells c0 33 (0, 0)) from (hb.block _ (by rw [HA.out.2.2.1]; omega)).trans HA.out.2.2.2); clear hx hb))
      | ((with_reducible show wpList _ _ _ (⟨some 13, _, _, _, _, _⟩ :: _) _ _); go_loud (refine wpList_buildTo rfl 33 #[] rfl (some 13) rfl c0 HBD.out ?_))
      | ((with_reducible show wpList _ _ _ (⟨none, _, _, _, _, _⟩ :: _) _ _); go_loud (refine wpList_store_row rfl 33 (.tmp 2) (.tmp 13) rfl w.heap.size c0 rfl rfl 33 c0 R3.out HSZ.out rfl HON.out ?_)))
    exact bodyPost_ret (v := .tuple #[.agg c0, .int .i64 E]) (results_jsu _ _ w.heap.size c0 _ rfl rfl (setRow_heap _ _ _ _ _ _ R3.out) HSZ.out) rfl ⟨rfl, below_setRow (bt HA.out.2.1 HB3.out) (Nat.le_refl _) _⟩
variable {M : Nat → Option (List Int)}
/-- Behind a super that was written. -/
def putSU (M : Nat → Option (List Int)) (P : SU) : MS := if P.Ok then ⟨24, M, [(0, P.B)], false⟩ else memS M
set_option maxHeartbeats 4000000 in
theorem putSuper_any {w : World} (h : MJ w tb F (memS M) pp Fp (-1) u j) (hj : j ≤ 998) (P : SU) (hP : P.Wf) (hB : P.Ok → P.S.length = 512) (hG : Gl w) :
    Calls Tryz.prog 16 #[tbV tb, suA P] w fun e w' => ∃ F' u', e = .returned (.int .i64 P.E) ∧ MJ w' tb F' (putSU M P) pp Fp (-1) u' (j + 1) ∧ Stp F Fp w F' w' := by
  obtain ⟨c1, hc1⟩ : ∃ s, s = tabV 276 (suV P) := ⟨_, rfl⟩
  have HSA := Lib.hid (show suA P = .agg c1 by rw [hc1]; rfl)
  have HS1 := Lib.hid (show (Tryz.prog.info? 33).map (·.size) = some c1.size by rw [hc1, size_tabV]; exact sizeSu)
  obtain ⟨A, hA⟩ : ∃ A, A = w.alloc (.cells c1 33) := ⟨_, rfl⟩
  have hwA : Below w.heap.size w A := by rw [hA]; exact (Below.refl _ _).alloc (Nat.le_refl _) _
  have r1 : A.heap[w.heap.size]? = some (.cells c1 33 (0, 0)) := by rw [hA]; exact heap_alloc_new w _
  have HA := Lib.hid (And.intro hA (And.intro hwA r1))
  have HSB := Lib.hid (superBytes_any P hP A (hG.on hwA hG.1))
  rw [HSA.out] at HSB ⊢
  have hMA := h.on hwA
  unfold putSU
  by_cases hok : P.Ok
  · have hSE : P.S = P.B ∧ P.E = 0 := ⟨if_pos hok, if_pos hok⟩
    have hl := hB hok
    rw [hl, hSE.2] at HSB
    rw [hSE.1] at HSB hl
    rw [if_pos hok, hSE.2]
    obtain ⟨B, hBB⟩ : ∃ B, B = P.B := ⟨_, rfl⟩
    rw [← hBB] at HSB hl ⊢
    have HWR := Lib.hid (show ∀ (W : World) (a : Option Addr) (k : Nat), Below A.heap.size A W → Arg8c W a 512 k B → NewS A a 512 → Calls Tryz.prog 36 #[tbV tb, .int .i64 0, .slice a 512 k] W fun e w' => ∃ F' u', e = .returned (.int .i64 0) ∧ MJ w' tb F' ⟨24, M, [(0, B)], false⟩ pp Fp (-1) u' (j + 1) ∧ Stp F Fp w F' w' from fun W a k hW hx hn => by
      have hin := fun k hk => hMA.inside (k := k) hk
      refine (jwrite (i := ((0 : Nat) : Int)) (hMA.on hW) (by omega) (by unfold i64R; omega) hx (fun h0 b o e hf => by have h1 := hn h0 b o e; have h2 := hin b (.inl hf); omega) (fun h0 b o e hf => by have h1 := hn h0 b o e; have h2 := hin b (.inr hf); omega)).mono ?_
      rintro e w' ⟨F', h1, h2, h3⟩
      rw [opWrite_in (S := memS M) rfl (show 0 < 24 by omega) hl, if_neg (by decide)] at h1 h2
      exact ⟨F', _, h1, h2, Stp.pre (bt hwA hW) (fun k hk => h.inside hk) h3⟩)
    clear h hok hSE hl hBB hc1 hA hwA r1 hMA hG hB
    go_enter Tryz.func16, Tryz.ntmps16
    go_wp2_with (first
      | ((with_reducible show wpList _ _ _ (⟨some 8, _, _, _, _, _⟩ :: _) _ _); go_loud (rw [← HA.out.1]; refine wpList_load_row rfl 33 (.tmp 3) rfl w.heap.size rfl 33 c1 (0, 0) _ HA.out.2.2 Tryz.underlying33 rfl HS1.out ?_))
      | (go_at_call 35; go_loud (refine HSB.out.mono ?_; rintro e w1 ⟨a, k, rfl, hx, hn, hb⟩; have HX := Lib.hid (And.intro hx (And.intro hn.1 hb)); clear hx hn hb))
      | (go_at_call 36; go_loud (refine (HWR.out _ _ _ HX.out.2.2 HX.out.1 HX.out.2.1).mono ?_; rintro e w2 ⟨F2, u2, rfl, hm, hs⟩; have HM := Lib.hid hm; have HS := Lib.hid hs; clear hm hs)))
    go_ret
    exact ⟨F2, u2, rfl, HM.out, HS.out⟩
  · have hSE : P.S = [] ∧ P.E = 2 := ⟨if_neg hok, if_neg hok⟩
    rw [hSE.1, hSE.2] at HSB
    rw [if_neg hok, hSE.2]
    have HMA := Lib.hid hMA
    clear h hok hSE hc1 hA hwA r1 hMA hG hB
    go_enter Tryz.func16, Tryz.ntmps16
    go_wp2_with (first
      | ((with_reducible show wpList _ _ _ (⟨some 8, _, _, _, _, _⟩ :: _) _ _); go_loud (rw [← HA.out.1]; refine wpList_load_row rfl 33 (.tmp 3) rfl w.heap.size rfl 33 c1 (0, 0) _ HA.out.2.2 Tryz.underlying33 rfl HS1.out ?_))
      | (go_at_call 35; go_loud (refine HSB.out.mono ?_; rintro e w1 ⟨a, k, rfl, hx, hn, hb⟩; have HB1 := Lib.hid hb; clear hx hn hb)))
    go_ret
    exact ⟨F, u, rfl, (HMA.out.on HB1.out).more (by omega), Stp.of_below (bt HA.out.2.1 HB1.out)⟩
end Go.Proofs.YtkfdcdfaikkneaaGreatDoor
