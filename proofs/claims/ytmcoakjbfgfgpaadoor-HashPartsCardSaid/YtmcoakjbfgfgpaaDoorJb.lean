/- Contracts of hash: the state's bytes; what stands behind all bytes. -/
import Derived.Test.YtmcoakjbfgfgpaaDoorJk
import Derived.Deep.OwnRows
import Derived.Deep.DrawnRows
import Derived.Deep.WholeRow
namespace Go.Proofs.YtmcoakjbfgfgpaaDoor
open Go.ChangeShapes Go.WideShapes Go.ChangeAt Go.RowKit
set_option linter.unusedVariables false
set_option maxRecDepth 100000

theorem index_S (f : Nat → Nat) {k : Nat} (hk : k < 8) (w : World) : (Instr.index 31 (.agg (tabV 8 (gV f))) (.int .i64 (k : Nat))).run Tryd.prog w = .ok (.int .u32 ((f k : Nat) : Int)) w := by
  rcases lt8H hk with rfl | rfl | rfl | rfl | rfl | rfl | rfl | rfl <;> kernel_rfl
theorem Row8.bs {w : World} {g n : Nat} {l : List Int} (h : Row8 w g n l) : Bs w w.heap.size (some ⟨g, 0, none⟩) l := fun h0 => ⟨g, 0, rfl, h.2.2.1, fun i hi => by rw [Nat.zero_add]; exact h.2.2.2 i (by rw [← h.1]; exact hi)⟩
set_option maxHeartbeats 1000000 in
theorem bytes_any (h : Nat → Nat) (w : World) (hh : ∀ i, h i < 4294967296) :
    Calls Tryd.prog 10 #[.agg (tabV 8 (gV h))] w fun e w' => ∃ g c', e = .returned (.slice (some ⟨g, 0, none⟩) 32 c') ∧ Row8 w' g 32 (outW h 8) ∧ Below w.heap.size w w' := by
  have HHB := Lib.hid hh
  obtain ⟨s0, hs0⟩ : ∃ s0 : Array Value, s0 = tabV 8 (gV h) := ⟨_, rfl⟩
  rw [← hs0]
  have HSS := Lib.hid (show (Tryd.prog.info? 31).map (·.size) = some s0.size by rw [hs0, size_tabV]; exact size_S)
  have HS0 := Lib.hid hs0
  have S1 := Lib.hid (show ((w.alloc (.cells s0 31)).alloc (.cells #[] 5)).heap[w.heap.size]? = some (.cells s0 31 (0, 0)) by
    rw [((Below.refl (w.heap.size + 1) (w.alloc (.cells s0 31))).alloc (by simp) _).block w.heap.size (by omega)]
    exact heap_alloc_new w _)
  have HB0 := Lib.hid (show Below w.heap.size w ((w.alloc (.cells s0 31)).alloc (.cells #[] 5)) from ((Below.refl _ _).alloc (Nat.le_refl _) _).alloc (by simp) _)
  have HR0 := Lib.hid (show Row8 ((w.alloc (.cells s0 31)).alloc (.cells #[] 5)) (w.heap.size + 1) 0 (outW h 0) from ⟨rfl, (fun y hy => by cases hy), by simp, fun i hi => by omega⟩)
  clear hs0 hh
  go_enter Tryd.func10, Tryd.ntmps10
  go_upto_region 3 with ((with_reducible show wpList _ _ _ (⟨some 7, _, _, _, _, _⟩ :: _) _ _); go_loud (refine wpList_load_row rfl 31 (.tmp 1) rfl w.heap.size rfl _ s0 _ _ S1.out Tryd.underlying31 rfl HSS.out ?_))
  go_loopw [3, 8] (fun o s wr => ∃ (i g c' : Nat), i ≤ 8 ∧ s = .int .i64 (i : Nat) ∧ o = .slice (some ⟨g, 0, none⟩) (4 * i) c' ∧ Row8 wr g (4 * i) (outW h i) ∧ Below w.heap.size w wr) (fun _ s _ => 8 - (intOf s).toNat)
  case atStart => exact ⟨0, _, _, by omega, rfl, rfl, HR0.out, HB0.out⟩
  case round =>
    obtain ⟨i, g, c', hi, rfl, rfl, h1, h2⟩ := hrel
    rename World => R
    have RR := Lib.hid h1
    have RB := Lib.hid h2
    clear h1 h2 HR0 HB0 S1
    by_cases hlt : i < 8
    · have HLI := Lib.hid hlt
      have qi : (i : Int) < 8 := by omega
      have hix : ∀ w : World, (Instr.index 31 (.agg s0) (.int .i64 (i : Nat))).run Tryd.prog w = .ok (.int .u32 ((h i : Nat) : Int)) w := fun w => by rw [HS0.out]; exact index_S h hlt w
      have HP := Lib.hid (put32 (some ⟨g, 0, none⟩) (4 * i) c' (outW h i) R RR.out.1 RR.out.bs (by omega) ((h i : Nat) : Int) (mk_u32 (by omega) (by have := HHB.out i; omega)))
      have HW := Lib.hid (show outW h i ++ be 4 ((h i : Nat) : Int) = outW h (i + 1) by rw [be4_w4, outW])
      obtain ⟨x, hx⟩ : ∃ x, x = h i := ⟨_, rfl⟩
      rw [← hx] at hix HP HW
      clear hlt hx
      go_wp2_with (go_at_call 16; go_loud ((with_reducible refine HP.out.mono ?_); rintro e R2 ⟨g2, rfl, ho, hb⟩; have HO := Lib.hid ho; have HB := Lib.hid hb; clear ho hb))
      go_roundw
      case rel => exact ⟨i + 1, g2, _, HLI.out, by go_num, by rw [Nat.mul_succ], by rw [← HW.out, Nat.mul_succ]; exact Row8.own HO.out (by rw [HW.out]; exact outW_B h _), bt RB.out HB.out⟩
      case measure => simp [intOf] <;> omega
    · obtain rfl : i = 8 := by omega
      go_wp2
      go_ret
      exact ⟨g, c', rfl, RR.out, RB.out⟩
/-- What stands behind n bytes. -/
def endL (n : Nat) : List Int := [128] ++ List.replicate (zc n) 0 ++ w8L (8 * n) 8
theorem shaM_end (b : List Int) : shaM b = b ++ endL b.length := by unfold shaM endL; simp [List.append_assoc]
theorem endL_len (n : Nat) : (endL n).length = zc n + 9 := by unfold endL; simp [length_w8L] <;> omega
theorem endL_B (n : Nat) : AllB (endL n) := fun y hy => by
  rcases List.mem_append.1 hy with h | h
  · rcases List.mem_append.1 h with h | h
    · rw [List.mem_singleton.1 h]; omega
    · rw [(List.mem_replicate.1 h).2]; omega
  · exact w8L_B _ _ y h
end Go.Proofs.YtmcoakjbfgfgpaaDoor
