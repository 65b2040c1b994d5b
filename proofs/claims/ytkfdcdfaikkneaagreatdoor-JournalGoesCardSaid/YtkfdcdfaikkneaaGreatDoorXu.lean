/- Package journal: Holds (a closure over a generation, asked of slots that are all of one generation). -/
import Derived.Test.YtkfdcdfaikkneaaGreatDoorXh
namespace Go.Proofs.YtkfdcdfaikkneaaGreatDoor
open Go.ChangeShapes Go.WideShapes Go.ChangeAt Go.RowKit Go.Shelf
set_option linter.unusedVariables false
set_option linter.unusedSimpArgs false
set_option maxRecDepth 100000
attribute [local go_sem] Oper.semAt_some

theorem holds1_any (Bx : Nat) (m p st g : Int) (v : Value) (W : World) (hx : W.cell? ⟨Bx, 0, none⟩ = some (.int .u64 g)) (hB : Bx < W.heap.size) (hv : v.oneCell' = true) :
    Calls Tryz.prog 31 #[.agg #[.int .u8 m, .int .u8 p, .int .u32 st, .int .u64 g, v], .pointer (some ⟨Bx, 0, none⟩)] W fun e w' => e = .returned (.bool true) ∧ Below W.heap.size W w' := by
  obtain ⟨A, hA⟩ : ∃ A, A = W.alloc (.cells #[.int .u8 m, .int .u8 p, .int .u32 st, .int .u64 g, v] 54) := ⟨_, rfl⟩
  have hwA : Below W.heap.size W A := by rw [hA]; exact (Below.refl _ _).alloc (Nat.le_refl _) _
  obtain ⟨c0, c1, c2, c3, c4⟩ := cell5 (heap_alloc_new W (.cells #[.int .u8 m, .int .u8 p, .int .u32 st, .int .u64 g, v] 54))
  have hx2 : (W.alloc (.cells #[.int .u8 m, .int .u8 p, .int .u32 st, .int .u64 g, v] 54)).cell? ⟨Bx, 0, none⟩ = some (.int .u64 g) := by
    rw [← hA]; exact (hwA.cell (p := ⟨Bx, 0, none⟩) hB).trans hx
  have HB := Lib.hid (show Below W.heap.size W (W.alloc (.cells #[.int .u8 m, .int .u8 p, .int .u32 st, .int .u64 g, v] 54)) from by rw [← hA]; exact hwA)
  clear hA hwA hx
  have qg : (g == g) = true := by simp
  go_enter Tryz.func31, Tryz.ntmps31
  go_wp2
  go_ret
  exact ⟨ret_bool (by simp), HB.out⟩
theorem holdsIdx0 (Bx : Nat) (a : Option Addr) (c : Nat) (w : World) (hc : c ≤ 9223372036854775807) :
    Calls Tryz.prog 58 #[.slice a 0 c, .func (.func 31) #[] #[.pointer (some ⟨Bx, 0, none⟩)]] w fun e w' => e = .returned (.int .i64 (-1)) ∧ Below w.heap.size w w' := by
  go_enter Tryz.func58, Tryz.ntmps58
  go_wp2
  go_loop [8] (fun k => k = .int .i64 0) (fun k => 1)
  case atStart => exact rfl
  case round =>
    subst hrel
    go_wp2
    go_ret
    exact ⟨rfl, Below.refl _ _⟩
theorem holdsIdx1 (Bx : Nat) (g : Int) (a : Option Addr) (n c : Nat) (Z : List SZ) (w : World) (hZ : ShRow w a n c Z) (hn : 0 < n) (hx : w.cell? ⟨Bx, 0, none⟩ = some (.int .u64 g)) (hB : Bx < w.heap.size) (hg : ∀ s, s ∈ L_ Z → s.g = g) :
    Calls Tryz.prog 58 #[.slice a n c, .func (.func 31) #[] #[.pointer (some ⟨Bx, 0, none⟩)]] w fun e w' => e = .returned (.int .i64 0) ∧ Below w.heap.size w w' := by
  have hbd := hZ.bd
  obtain ⟨z, hz⟩ : ∃ z, Z[0]? = some z := ⟨_, List.getElem?_eq_getElem (by rw [hZ.len]; exact hn)⟩
  obtain ⟨gb, rfl, hgV, c0, c1, c2, c3, c4⟩ := hZ.cells hz
  have hzg : z.1.g = g := hg _ (List.mem_map.2 ⟨z, List.mem_of_getElem? hz, rfl⟩)
  rw [hzg] at c3
  have HC := Lib.hid (holds1_any Bx z.1.m z.1.p z.1.st g (.slice z.2.1 z.1.row.length z.2.2) w hx hB rfl)
  have q0 : (0 : Int) < (n : Int) := by omega
  clear hZ hg hx hz hzg
  simp only [Nat.zero_mul, Nat.zero_add] at c0 c1 c2 c3 c4
  go_enter Tryz.func58, Tryz.ntmps58
  go_wp2
  go_loop [8] (fun k => k = .int .i64 0) (fun k => 1)
  case atStart => exact rfl
  case round =>
    subst hrel
    go_wp2_with (go_at_call 31; go_loud (refine HC.out.mono ?_; rintro e w2 ⟨rfl, hb⟩; have HB2 := Lib.hid hb; clear hb))
    go_ret
    exact ⟨rfl, HB2.out⟩
theorem holdsCon (Bx : Nat) (g : Int) (a : Option Addr) (n c : Nat) (Z : List SZ) (w : World) (hZ : ShRow w a n c Z) (hx : w.cell? ⟨Bx, 0, none⟩ = some (.int .u64 g)) (hB : Bx < w.heap.size) (hg : ∀ s, s ∈ L_ Z → s.g = g) :
    Calls Tryz.prog 30 #[.slice a n c, .func (.func 31) #[] #[.pointer (some ⟨Bx, 0, none⟩)]] w fun e w' => e = .returned (.bool (decide (0 < n))) ∧ Below w.heap.size w w' := by
  have hbd := hZ.bd
  by_cases hn : 0 < n
  · have HH := Lib.hid (holdsIdx1 Bx g a n c Z w hZ hn hx hB hg)
    have HD := Lib.hid (decide_eq_true hn)
    clear hZ hx hg
    go_enter Tryz.func30, Tryz.ntmps30
    go_wp2_with (go_at_call 58; go_loud (refine HH.out.mono ?_; rintro e w' ⟨rfl, hb⟩; have HB2 := Lib.hid hb; clear hb))
    go_ret
    exact ⟨by rw [HD.out]; rfl, HB2.out⟩
  · obtain rfl : n = 0 := by omega
    have HH := Lib.hid (holdsIdx0 Bx a c w hbd.2)
    clear hZ hx hg
    go_enter Tryz.func30, Tryz.ntmps30
    go_wp2_with (go_at_call 58; go_loud (refine HH.out.mono ?_; rintro e w' ⟨rfl, hb⟩; have HB2 := Lib.hid hb; clear hb))
    go_ret
    exact ⟨rfl, HB2.out⟩
theorem holds_any (st nn gg g : Int) (a : Option Addr) (n c : Nat) (Z : List SZ) (w V : World) (hV : Below w.heap.size w V) (hZ : ShRow w a n c Z) (hg : ∀ s, s ∈ L_ Z → s.g = g) :
    Calls Tryz.prog 12 #[.agg #[.int .u8 st, .int .u8 nn, .int .u64 gg, .slice a n c], .int .u64 g] V fun e w' => e = .returned (.bool (decide (0 < n))) ∧ Below w.heap.size w w' := by
  obtain ⟨A, hA⟩ : ∃ A, A = V.alloc (.cells #[.int .u8 st, .int .u8 nn, .int .u64 gg, .slice a n c] 48) := ⟨_, rfl⟩
  have hVA : Below V.heap.size V A := by rw [hA]; exact (Below.refl _ _).alloc (Nat.le_refl _) _
  obtain ⟨B, hB⟩ : ∃ B, B = A.alloc (.cells #[.int .u64 g] 39) := ⟨_, rfl⟩
  have hAB : Below A.heap.size A B := by rw [hB]; exact (Below.refl _ _).alloc (Nat.le_refl _) _
  have rA : A.heap[V.heap.size]? = some (.cells #[.int .u8 st, .int .u8 nn, .int .u64 gg, .slice a n c] 48 (0, 0)) := by rw [hA]; exact heap_alloc_new V _
  obtain ⟨c0, c1, c2, c3⟩ := cell4 ((hAB.block _ (Array.getElem?_eq_some_iff.1 rA).1).trans rA)
  have hAs : A.heap.size = V.heap.size + 1 := by rw [hA]; simp
  have hBs : B.heap.size = V.heap.size + 2 := by rw [hB]; simp [hAs]
  have hx : B.cell? ⟨V.heap.size + 1, 0, none⟩ = some (.int .u64 g) := by
    rw [hB, ← hAs]; simp
  have HC := Lib.hid (holdsCon (V.heap.size + 1) g a n c Z B (hZ.on (bt hV (bt hVA hAB))) hx (by omega) hg)
  obtain ⟨r, hr⟩ : ∃ r, r = decide (0 < n) := ⟨_, rfl⟩
  rw [← hr] at HC ⊢
  have hmf : ∀ (fn : Fn) (first cap : Array Value) (w : World), (Instr.makeFunc fn first cap).run Tryz.prog w = .ok (.func fn first cap) w := fun _ _ _ _ => rfl
  have HBB := Lib.hid (bt hV (bt hVA hAB))
  rw [hA] at hB
  rw [hB] at c0 c1 c2 c3
  have HEQ := Lib.hid hB
  clear hr hx hZ hg hVA hAB rA hAs hBs hA hB hV
  go_enter Tryz.func12, Tryz.ntmps12
  go_wp2_with (go_at_call 30; go_loud (rw [← HEQ.out]; refine HC.out.mono ?_; rintro e w' ⟨rfl, hb⟩; have HB2 := Lib.hid hb; clear hb))
  go_ret
  exact ⟨rfl, bt HBB.out HB2.out⟩
end Go.Proofs.YtkfdcdfaikkneaaGreatDoor
