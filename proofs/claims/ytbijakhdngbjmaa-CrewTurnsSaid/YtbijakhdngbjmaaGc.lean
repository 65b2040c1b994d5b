/- Package crew: commonOf, together. -/
import Derived.Test.YtbijakhdngbjmaaGb
import Derived.Maps.OwnOps
import Derived.Maps.OwnSet
namespace Go.Proofs.Ytbijakhdngbjmaa
open Go.ChangeShapes Go.WideShapes Go.ChangeAt Go.RowKit Go.Shelf Go.Maps
set_option linter.unusedVariables false
set_option linter.unusedSimpArgs false
set_option maxRecDepth 100000
attribute [local go_sem] Oper.semAt_some

/-- What the supers of one array all say. -/
def coV (P : SU) (j : Nat) : Value :=
  if j < 8 then .int .u8 (P.nm.getD j 0) else if j = 8 then .int .u8 P.n else if j = 9 then .int .u8 P.t else if j = 10 then .int .u8 P.m else if j = 11 then .int .u8 P.c else .int .u32 P.bl
def coA (P : SU) : Value := .agg (tabV 13 (coV P))
def Co (P : SU) : List Int × Int × Int × Int × Int × Int := (P.nm, P.n, P.t, P.m, P.c, P.bl)
theorem coA_eq {P Q : SU} (h : Co P = Co Q) : coA P = coA Q := by
  unfold Co at h
  simp only [Prod.mk.injEq] at h
  obtain ⟨h1, h2, h3, h4, h5, h6⟩ := h
  unfold coA coV
  rw [h1, h2, h3, h4, h5, h6]
theorem coV_one (P : SU) (j : Nat) : (coV P j).oneCell' = true := by
  unfold coV
  iterate 5 (refine ite_one rfl ?_)
  rfl
theorem sizeCo : (Try.prog.info? 69).map (·.size) = some 13 := by kernel_rfl
theorem infoCo : (Try.prog.info? 69).map (fun i => (i.zero, i.size)) = some (some (.agg (tabV 13 (coV suZ))), 13) := by kernel_rfl
theorem built_co (g : Nat → Value) (n t m c bl : Int) : Try.prog.built 69 [(0, .agg (tabV 8 g)), (1, .int .u8 n), (2, .int .u8 t), (3, .int .u8 m), (4, .int .u8 c), (5, .int .u32 bl)] = some (tabV 13 (fun j => if j < 8 then g j else if j = 8 then .int .u8 n else if j = 9 then .int .u8 t else if j = 10 then .int .u8 m else if j = 11 then .int .u8 c else .int .u32 bl)) := by kernel_rfl
theorem w8 {x : Int} (h : byteI x) : (Lit.int .u8 x).wf = true := by
  unfold byteI at h
  simp [Lit.wf, IntKind.min, IntKind.max, IntKind.signed, IntKind.bits]; omega
theorem results_co (tmps : Array Value) (w : World) (g : Nat) (cs : Array Value) (h2 : tmps.getD 2 undef = .pointer (some ⟨g, 0, none⟩)) (hg : w.heap[g]? = some (.cells cs 69 (0, 0))) (hs : cs.size = 13) :
    (results Try.f27 tmps).run Try.prog w = .ok (.agg cs) w := by
  have h2' : tmps[2]?.getD undef = .pointer (some ⟨g, 0, none⟩) := by simpa using h2
  have hr := run_loadVar_row (P := Try.prog) w g 69 69 cs (0, 0) _ hg Try.underlying69 rfl (by rw [hs]; exact sizeCo)
  simp [results, Try.f27, h2', asAddr, hr]
theorem range8 {w : World} {b : Nat} {P : SU} (h : SuB w b P) : w.rangeAt b 0 (tabV 8 (fun j => Value.int .u8 (P.nm.getD j 0))).toList := fun j v hj => by
  have hj2 : j < 8 := by
    rcases Nat.lt_or_ge j 8 with h | h
    · exact h
    · rw [List.getElem?_eq_none (by rw [Array.length_toList, size_tabV]; exact h)] at hj; cases hj
  rw [Array.getElem?_toList, get_tabV hj2] at hj
  rw [Nat.zero_add, h.nm hj2, hj]
set_option maxHeartbeats 4000000 in
theorem commonOf_any (P : SU) (w : World) :
    Calls Try.prog 27 #[suA P] w fun e w' => e = .returned (coA P) ∧ Below w.heap.size w w' := by
  obtain ⟨HB, HS⟩ := su_box P w
  obtain ⟨hz0, hi0⟩ := zero_of_info infoCo
  clear hi0
  obtain ⟨s0, hs0⟩ : ∃ s, s = tabV 276 (suV P) := ⟨_, rfl⟩
  obtain ⟨z0, hzz0⟩ : ∃ s, s = tabV 13 (coV suZ) := ⟨_, rfl⟩
  obtain ⟨cC, hcC⟩ : ∃ s, s = tabV 13 (coV P) := ⟨_, rfl⟩
  obtain ⟨c8, hc8⟩ : ∃ s, s = tabV 8 (fun j => Value.int .u8 (P.nm.getD j 0)) := ⟨_, rfl⟩
  have HBC := Lib.hid (show Try.prog.built 69 [(0, .agg c8), (1, .int .u8 P.n), (2, .int .u8 P.t), (3, .int .u8 P.m), (4, .int .u8 P.c), (5, .int .u32 P.bl)] = some cC by rw [hc8, built_co, hcC]; rfl)
  have HR8 := Lib.hid (range8 HS)
  rw [← hc8] at HR8
  have HSC := Lib.hid (show cC.size = 13 ∧ z0.size = 13 ∧ c8.size = 8 ∧ cC.all (·.oneCell') = true by rw [hcC, hzz0, hc8]; exact ⟨size_tabV _ _, size_tabV _ _, size_tabV _ _, tabV_one (coV_one P)⟩)
  obtain ⟨c8', c9, c10, c11, c12, c13, -⟩ := HS.num
  rw [← hzz0] at hz0
  have HCC := Lib.hid hcC
  unfold suA coA
  rw [← hs0] at HB HR8 c8' c9 c10 c11 c12 c13 ⊢
  rw [← hcC]
  obtain ⟨A, hA⟩ : ∃ A, A = (w.alloc (.cells s0 35)).alloc (.cells z0 69) := ⟨_, rfl⟩
  have HA := Lib.hid hA
  have hb2 : Below (w.alloc (.cells s0 35)).heap.size (w.alloc (.cells s0 35)) A := by rw [hA]; exact (Below.refl _ _).alloc (Nat.le_refl _) _
  have HAS := Lib.hid (show A.heap.size = w.heap.size + 2 by rw [hA]; simp)
  have HAC := Lib.hid (show A.heap[w.heap.size + 1]? = some (.cells z0 69 (0, 0)) by
    have := heap_alloc_new (w.alloc (.cells s0 35)) (.cells z0 69)
    rw [size_alloc1] at this
    rw [hA]; exact this)
  have HBA := Lib.hid (bt HB hb2)
  have onA : ∀ {p : Addr} {v : Value}, p.block < (w.alloc (.cells s0 35)).heap.size → (w.alloc (.cells s0 35)).cell? p = some v → A.cell? p = some v := fun {p v} hp hv => (hb2.cell hp).trans hv
  have d9 := onA (by simp) c9
  have d10 := onA (by simp) c10
  have d11 := onA (by simp) c11
  have d12 := onA (by simp) c12
  have d13 := onA (by simp) c13
  have HR9 := Lib.hid (show A.rangeAt w.heap.size 0 c8.toList from fun j v hj => onA (by simp) (HR8.out j v hj))
  clear hs0 hzz0 hcC hc8 HS c8' c9 c10 c11 c12 c13 onA hb2 HB hA
  go_enter Try.func27, Try.ntmps27
  go_upto_region 1 with fail
  rw [← HA.out]
  go_wp2_with (first
    | ((with_reducible show wpList _ _ _ (⟨some 4, _, _, _, _, _⟩ :: _) _ _); go_loud (refine wpList_load_mid rfl 32 (.tmp 3) rfl w.heap.size 0 rfl c8.toList _ HR9.out und8 rfl (by rw [Array.length_toList, HSC.out.2.2.1]; exact size8a) ?_; rw [Array.toArray_toList]))
    | ((with_reducible show wpList _ _ _ (⟨some 15, _, _, _, _, _⟩ :: _) _ _); go_loud (refine wpList_buildTo rfl 69 _ rfl (some 15) rfl cC (by rw [Array.toList_map]; exact HBC.out) ?_))
    | ((with_reducible show wpList _ _ _ (⟨none, Op.store 69 _ _, _, _, _, _⟩ :: _) _ _); go_loud (refine wpList_store_row rfl 69 (.tmp 2) (.tmp 15) rfl (w.heap.size + 1) cC rfl rfl 69 z0 HAC.out (by rw [HSC.out.1]; exact sizeCo) (by rw [HSC.out.1, HSC.out.2.1]) HSC.out.2.2.2 ?_)))
  refine bodyPost_ret (v := .agg cC) (results_co _ _ (w.heap.size + 1) cC rfl (setRow_heap _ _ _ _ _ _ HAC.out) HSC.out.1) rfl ⟨rfl, below_setRow HBA.out (by omega) _⟩
end Go.Proofs.Ytbijakhdngbjmaa
