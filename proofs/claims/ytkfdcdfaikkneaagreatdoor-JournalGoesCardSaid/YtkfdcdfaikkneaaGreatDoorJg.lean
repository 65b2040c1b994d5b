/- What the tied card's condition gives: the package's variables hold the roots. -/
import Derived.Test.YtkfdcdfaikkneaaGreatDoorQJ1
import Derived.Test.YtkfdcdfaikkneaaGreatDoorRows
import Derived.ProofKit
import Derived.LaidMore
import Derived.OpenShut
import Derived.Stop.Joined
namespace Go.Proofs.YtkfdcdfaikkneaaGreatDoor
open Go.ChangeShapes Go.WideShapes Go.ChangeAt Go.RowKit
set_option linter.unusedVariables false
set_option maxRecDepth 100000

theorem gRoots : Tryz.prog.globalNamed "largesse/hash.squareRoots" = some 0 := by kernel_rfl
theorem gCubes : Tryz.prog.globalNamed "largesse/hash.cubeRoots" = some 1 := by kernel_rfl
theorem tRoots : (Tryz.prog.globals[0]?).map (·.type) = some 124 := by kernel_rfl
theorem tCubes : (Tryz.prog.globals[1]?).map (·.type) = some 123 := by kernel_rfl
def laid2 : List (String × DataW Unit) := [("largesse/hash.squareRoots", Rows.laid_largesse_hash_squareRoots), ("largesse/hash.cubeRoots", Rows.laid_largesse_hash_cubeRoots)]
theorem array_cells {H : Type} {enc : TypeId × Value → H} {W : World} {base : Nat} {sp : Nat → Bool} {held : Bool} {f n : Nat} {t e : TypeId} {cs : Array Value} {L : List Int} {p : List MemPlace}
    (ht : Tryz.prog.underlying t = some (.array n e)) (he : Tryz.prog.underlying e = some (.int .u32)) (hce : Tryz.prog.cellsOf e = 1)
    (hd : DataW.trod enc Tryz.prog W base sp held f t cs.toList = some (.agg (L.map fun x => .lit (.int .u32 x)), p)) (j : Nat) (hj : j < n) : cs[j]? = some (.int .u32 (L.getD j 0)) := by
  obtain ⟨xs, m1, rfl, hx, hlen, hn, hel⟩ := DataW.trod_array ht hd
  have h := hel j hj
  rw [hce, Nat.mul_one, List.getElem?_eq_getElem (by omega)] at h
  obtain ⟨k, e1, e2, _⟩ := DataW.trod_int he h
  simp only [Prod.mk.injEq, DataW.agg.injEq] at hx
  have h1 := congrArg (fun l => l[j]?) hx.1
  simp only [List.getElem?_map, List.getElem?_eq_getElem (show j < xs.length by omega), Option.map_some, e2] at h1
  have h2 : L[j]? = some k := by
    rcases hL : L[j]? with _ | v
    · rw [hL] at h1; simp at h1
    · rw [hL] at h1
      simp at h1
      rw [h1]
  have h3 : cs.toList[j]? = some (.int .u32 k) := by
    have := congrArg (fun l => l[0]?) e1
    simpa using this
  rw [← Array.getElem?_toList, h3, List.getD_eq_getElem?_getD, h2]
  rfl
theorem gl_of_laid {W : World} (h : laidMetH Tryz.prog laid2 W) : Gl W := by
  rw [MakeChecks.laidMetH_plain _ _ _ (by kernel_rfl)] at h
  obtain ⟨ps, ⟨g0, t0, cs0, f0, p0, q0, hg0, ht0, hv0, hd0, ⟨g1, t1, cs1, f1, p1, q1, hg1, ht1, hv1, hd1, _, _⟩, _⟩, _, _⟩ := h
  obtain rfl := Option.some.inj (gRoots.symm.trans hg0)
  obtain rfl := Option.some.inj (gCubes.symm.trans hg1)
  obtain rfl := Option.some.inj (tRoots.symm.trans ht0)
  obtain rfl := Option.some.inj (tCubes.symm.trans ht1)
  have c0 : ∀ j, j < 8 → W.cell? ⟨0, j, none⟩ = some (gV HF0 j) := fun j hj => by
    rw [World.var?_cell hg0 hv0 j, array_cells (L := [1779033703, 3144134277, 1013904242, 2773480762, 1359893119, 2600822924, 528734635, 1541459225]) Tryz.underlying124 Tryz.underlying24 (by kernel_rfl) hd0 j hj, HF0_0]
    unfold gV
    simp [List.getD_eq_getElem?_getD, hj]
  have c1 : ∀ j, j < 64 → W.cell? ⟨1, j, none⟩ = some (gV KF j) := fun j hj => by
    rw [World.var?_cell hg1 hv1 j, array_cells (L := (List.range 64).map (fun j => ((KF j : Nat) : Int))) Tryz.underlying123 Tryz.underlying24 (by kernel_rfl) (by rw [← KF_0]; exact hd1) j hj]
    unfold gV
    simp [List.getD_eq_getElem?_getD, hj]
  refine ⟨?_, c0, c1⟩
  exact (show 1 < W.heap.size from block_lt_of_cell (c1 0 (by omega)))
end Go.Proofs.YtkfdcdfaikkneaaGreatDoor
