/- Contracts of the cipher's squareOf. -/
import Derived.Test.YtpfhfnhbholboaaKh
namespace Go.Proofs.Ytpfhfnhbholboaa
open Go.ChangeShapes Go.WideShapes Go.ChangeAt Go.RowKit
set_option linter.unusedVariables false
set_option maxRecDepth 100000

/-- No square. -/
def noSq : Array Value := tabV 4 fun _ => .int .u32 0
theorem noSq_sqV : noSq = sqV fun _ _ => 0 := tabV_congr fun c _ => by
  unfold sqc
  rw [wd_zero]
  rfl
theorem zeroSq : ∀ w : World, (zeroValue 68).run Try.prog w = .ok (.agg noSq) w := by
  have h := (zero_of_info infoSq).1
  rw [replicate_tabV] at h
  exact h
theorem store_noSq (w : World) (b : Nat) (g : Nat → Value) (h : Blk w b 68 4 g) (S : Nat → Nat → Nat) : (storeCells ⟨b, 0, none⟩ (sqV S).toList 0).run Try.prog w = .ok () (w.setRow b (sqV S)) := by
  have h1 := run_storeVar_row (P := Try.prog) w b _ 68 _ (sqV S) h (by rw [size_sqV]; exact size_sq) (by rw [size_tabV, size_sqV]) (tabV_one fun _ => rfl)
  have hi := size_sq
  cases hq : Try.prog.info? 68 with
  | none => simp [hq] at hi
  | some i =>
    have hs : i.size = 4 := by simpa [hq] using hi
    simpa [storeVar, sizeOf, typeInfo, hq, Value.cells, hs, size_sqV] using h1
set_option maxHeartbeats 1000000 in
theorem squareOf_nil (a : Option Addr) (L c : Nat) (w : World) (hL : L ≤ 9223372036854775807) :
    Calls Try.prog 29 #[.pointer none, .slice a L c] w fun e w' => e = .returned (.tuple #[.agg noSq, .int .i64 1]) ∧ Below w.heap.size w w' := by
  have hz := zeroSq
  have hsz : noSq.size = 4 := size_tabV _ _
  have HB := Lib.hid (Blk.made w 68 4 (fun _ => .int .u32 0))
  have hst := store_noSq _ _ _ HB.out (fun _ _ => 0)
  rw [← noSq_sqV] at hst
  have e : (w.alloc (.cells noSq 68)).setRow w.heap.size noSq = w.alloc (.cells noSq 68) := World.setRow_alloc_new _ _ _ _
  have hst2 : (storeCells ⟨w.heap.size, 0, none⟩ noSq.toList 0).run Try.prog (w.alloc (.cells noSq 68)) = .ok () (w.alloc (.cells noSq 68)) := by
    have h := hst
    rw [show w.alloc (.cells (tabV 4 fun _ => .int .u32 0) 68) = w.alloc (.cells noSq 68) from rfl, e] at h
    exact h
  obtain ⟨c0, hc0⟩ : ∃ c : Array Value, c = noSq := ⟨_, rfl⟩
  rw [← hc0] at hz hsz hst2
  have HC := Lib.hid hc0
  have HBK := Lib.hid (show (w.alloc (.cells c0 68)).heap[w.heap.size]? = some (.cells c0 68 (0, 0)) from heap_alloc_new _ _)
  have HS1 := Lib.hid (show (Try.prog.info? 68).map (·.size) = some c0.size by rw [hsz]; exact size_sq)
  clear hc0 hst e HB
  go_enter Try.func29, Try.ntmps29
  go_wp2_with (go_at_call 38; refine (missing_nil _).mono ?_; rintro e w' ⟨rfl, rfl⟩)
  refine bodyPost_ret (v := .tuple #[.agg c0, .int .i64 1]) ?_ rfl ⟨by rw [HC.out], (Below.refl _ _).alloc (Nat.le_refl _) _⟩
  rw [results_cell_tmp rfl]
  have hld := run_loadVar_row (P := Try.prog) _ w.heap.size _ 68 c0 _ _ HBK.out Try.underlying68 rfl HS1.out
  simp [asAddr, Result.andThen, hld]
set_option maxHeartbeats 1000000 in
theorem squareOf_form (b n : Nat) (W : Nat → Nat → Nat) (a : Option Addr) (L c : Nat) (w : World) (h : Cip w b n W) (hne : L ≠ 16) (hL : L ≤ 9223372036854775807) :
    Calls Try.prog 29 #[.pointer (some ⟨b, 0, none⟩), .slice a L c] w fun e w' => e = .returned (.tuple #[.agg noSq, .int .i64 3]) ∧ Below w.heap.size w w' := by
  have hz := zeroSq
  have hsz : noSq.size = 4 := size_tabV _ _
  have HB := Lib.hid (Blk.made w 68 4 (fun _ => .int .u32 0))
  have hst := store_noSq _ _ _ HB.out (fun _ _ => 0)
  rw [← noSq_sqV] at hst
  have e : (w.alloc (.cells noSq 68)).setRow w.heap.size noSq = w.alloc (.cells noSq 68) := World.setRow_alloc_new _ _ _ _
  have hst2 : (storeCells ⟨w.heap.size, 0, none⟩ noSq.toList 0).run Try.prog (w.alloc (.cells noSq 68)) = .ok () (w.alloc (.cells noSq 68)) := by
    have h := hst
    rw [show w.alloc (.cells (tabV 4 fun _ => .int .u32 0) 68) = w.alloc (.cells noSq 68) from rfl, e] at h
    exact h
  obtain ⟨c0, hc0⟩ : ∃ c : Array Value, c = noSq := ⟨_, rfl⟩
  rw [← hc0] at hz hsz hst2
  have HC := Lib.hid hc0
  have HBK := Lib.hid (show (w.alloc (.cells c0 68)).heap[w.heap.size]? = some (.cells c0 68 (0, 0)) from heap_alloc_new _ _)
  have HS1 := Lib.hid (show (Try.prog.info? 68).map (·.size) = some c0.size by rw [hsz]; exact size_sq)
  have HM := Lib.hid (missing_cip b n W _ (h.on ((Below.refl _ _).alloc (Nat.le_refl _) (.cells c0 68))))
  have qn : ((L : Int) != 16) = true := by rw [bne_iff_ne]; omega
  clear hc0 hst e HB h hne
  go_enter Try.func29, Try.ntmps29
  go_wp2_with (go_at_call 38; refine HM.out.mono ?_; rintro e w' ⟨rfl, rfl⟩)
  refine bodyPost_ret (v := .tuple #[.agg c0, .int .i64 3]) ?_ rfl ⟨by rw [HC.out], (Below.refl _ _).alloc (Nat.le_refl _) _⟩
  rw [results_cell_tmp rfl]
  have hld := run_loadVar_row (P := Try.prog) _ w.heap.size _ 68 c0 _ _ HBK.out Try.underlying68 rfl HS1.out
  simp [asAddr, Result.andThen, hld]
theorem array_at (g o c : Nat) (w : World) : (Instr.arrayAt 68 (.slice (some ⟨g, o, none⟩) 4 c)).run Try.prog w = .ok (.pointer (some ⟨g, o, none⟩)) w := by kernel_rfl
theorem sq_words (l : List Int) : (tabV 4 fun j => (Value.int .u32 ((wd (kw l j) : Nat) : Int))) = sqV (kw l) := rfl
set_option maxHeartbeats 1000000 in
theorem squareOf_ok (b n : Nat) (W : Nat → Nat → Nat) (ba oa c : Nat) (l : List Int) (w : World) (h : Cip w b n W) (hl : l.length = 16) (hA : AllB l) (hb : Bs w w.heap.size (some ⟨ba, oa, none⟩) l) (hc : 16 ≤ c) (hcm : c ≤ 9223372036854775807) :
    Calls Try.prog 29 #[.pointer (some ⟨b, 0, none⟩), .slice (some ⟨ba, oa, none⟩) 16 c] w fun e w' => e = .returned (.tuple #[.agg (sqV (kw l)), .int .i64 0]) ∧ Below w.heap.size w w' := by
  have hz := zeroSq
  obtain ⟨c0, hc0⟩ : ∃ c : Array Value, c = noSq := ⟨_, rfl⟩
  rw [← hc0] at hz
  obtain ⟨W0, hW0⟩ : ∃ W, W = w.alloc (.cells c0 68) := ⟨_, rfl⟩
  have HB0 := Lib.hid (show Below w.heap.size w W0 by rw [hW0]; exact (Below.refl _ _).alloc (Nat.le_refl _) _)
  have HBK := Lib.hid (show Blk W0 w.heap.size 68 4 (fun _ => .int .u32 0) by rw [hW0, hc0]; exact Blk.made _ _ _ _)
  have HM := Lib.hid (missing_cip b n W W0 (h.on HB0.out))
  have hwo := words_any ba oa 4 c l W0 hl hA ((hb.below HB0.out).more HB0.out.size) (by omega) (by omega) hc hcm
  have HWO := Lib.hid (show Calls Try.prog 47 #[.slice (some ⟨ba, oa, none⟩) 16 c] W0 _ from hwo)
  have HW0 := Lib.hid hW0
  have HS1 := Lib.hid (show (Try.prog.info? 68).map (·.size) = some (sqV (kw l)).size by rw [size_sqV]; exact size_sq)
  have HS2 := Lib.hid (show (tabV 4 fun _ => (Value.int .u32 0)).size = (sqV (kw l)).size by rw [size_tabV, size_sqV])
  have HS3 := Lib.hid (show (sqV (kw l)).all (·.oneCell') = true from tabV_one fun _ => rfl)
  rw [hW0] at HM HWO
  clear hc0 hW0 h hl hA hb hwo
  obtain ⟨cs, hcs⟩ : ∃ cs, cs = sqV (kw l) := ⟨_, rfl⟩
  rw [← hcs] at HS1 HS2 HS3
  have HCS := Lib.hid hcs
  clear hcs
  have hat := array_at
  go_enter Try.func29, Try.ntmps29
  go_wp2_with (first
    | (go_at_call 38; refine HM.out.mono ?_; rintro e w' ⟨rfl, rfl⟩)
    | (go_at_call 47; refine HWO.out.mono ?_; rintro e w2 ⟨rfl, hk2, hb2⟩; have HK2 := Lib.hid hk2; have HB2 := Lib.hid hb2; clear hk2 hb2; rw [← HW0.out] at HK2 HB2; unfold Blk at HK2; rw [sq_words, ← HCS.out, show W0.heap.size = w.heap.size + 1 from by rw [HW0.out]; simp] at HK2; have HBR := Lib.hid (HBK.out.on HB2.out (by rw [HW0.out]; simp)))
    | ((with_reducible show wpList _ _ _ (⟨some 16, _, _, _, _, _⟩ :: _) _ _); refine wpList_load_row rfl 68 (.tmp 15) rfl (w.heap.size + 1) rfl _ cs _ _ HK2.out Try.underlying68 rfl HS1.out ?_)
    | ((with_reducible show wpList _ _ _ (⟨none, _, _, _, _, _⟩ :: _) _ _); refine wpList_store_row rfl 68 (.tmp 4) (.tmp 16) rfl w.heap.size cs rfl rfl _ _ HBR.out HS1.out HS2.out HS3.out ?_))
  refine bodyPost_ret (v := .tuple #[.agg cs, .int .i64 0]) ?_ rfl ⟨by rw [HCS.out], below_setRow (bt HB0.out HB2.out) (Nat.le_refl _) _⟩
  rw [results_cell_tmp rfl]
  have HR3 := HBR.out.row (sqc (kw l))
  unfold Blk at HR3
  rw [show tabV 4 (sqc (kw l)) = cs from HCS.out.symm] at HR3
  have hld := run_loadVar_row (P := Try.prog) _ w.heap.size _ 68 cs _ _ HR3 Try.underlying68 rfl HS1.out
  simp [asAddr, Result.andThen, hld]
end Go.Proofs.Ytpfhfnhbholboaa
