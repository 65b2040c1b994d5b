/- The words of a block by number; what the package's variables hold. -/
import Derived.Test.YtmcoakjbfgfgpaaDoorJt
namespace Go.Proofs.YtmcoakjbfgfgpaaDoor
open Go.ChangeShapes Go.WideShapes Go.ChangeAt Go.RowKit
set_option linter.unusedVariables false
set_option maxRecDepth 100000
theorem index_K (f : Nat → Nat) (w : World) : ∀ k, k < 64 → (Instr.index 38 (.agg (tabV 64 (gV f))) (.int .i64 (k : Nat))).run Tryd.prog w = .ok (.int .u32 ((f k : Nat) : Int)) w
  | 0, _ => by kernel_rfl
  | 1, _ => by kernel_rfl
  | 2, _ => by kernel_rfl
  | 3, _ => by kernel_rfl
  | 4, _ => by kernel_rfl
  | 5, _ => by kernel_rfl
  | 6, _ => by kernel_rfl
  | 7, _ => by kernel_rfl
  | 8, _ => by kernel_rfl
  | 9, _ => by kernel_rfl
  | 10, _ => by kernel_rfl
  | 11, _ => by kernel_rfl
  | 12, _ => by kernel_rfl
  | 13, _ => by kernel_rfl
  | 14, _ => by kernel_rfl
  | 15, _ => by kernel_rfl
  | 16, _ => by kernel_rfl
  | 17, _ => by kernel_rfl
  | 18, _ => by kernel_rfl
  | 19, _ => by kernel_rfl
  | 20, _ => by kernel_rfl
  | 21, _ => by kernel_rfl
  | 22, _ => by kernel_rfl
  | 23, _ => by kernel_rfl
  | 24, _ => by kernel_rfl
  | 25, _ => by kernel_rfl
  | 26, _ => by kernel_rfl
  | 27, _ => by kernel_rfl
  | 28, _ => by kernel_rfl
  | 29, _ => by kernel_rfl
  | 30, _ => by kernel_rfl
  | 31, _ => by kernel_rfl
  | 32, _ => by kernel_rfl
  | 33, _ => by kernel_rfl
  | 34, _ => by kernel_rfl
  | 35, _ => by kernel_rfl
  | 36, _ => by kernel_rfl
  | 37, _ => by kernel_rfl
  | 38, _ => by kernel_rfl
  | 39, _ => by kernel_rfl
  | 40, _ => by kernel_rfl
  | 41, _ => by kernel_rfl
  | 42, _ => by kernel_rfl
  | 43, _ => by kernel_rfl
  | 44, _ => by kernel_rfl
  | 45, _ => by kernel_rfl
  | 46, _ => by kernel_rfl
  | 47, _ => by kernel_rfl
  | 48, _ => by kernel_rfl
  | 49, _ => by kernel_rfl
  | 50, _ => by kernel_rfl
  | 51, _ => by kernel_rfl
  | 52, _ => by kernel_rfl
  | 53, _ => by kernel_rfl
  | 54, _ => by kernel_rfl
  | 55, _ => by kernel_rfl
  | 56, _ => by kernel_rfl
  | 57, _ => by kernel_rfl
  | 58, _ => by kernel_rfl
  | 59, _ => by kernel_rfl
  | 60, _ => by kernel_rfl
  | 61, _ => by kernel_rfl
  | 62, _ => by kernel_rfl
  | 63, _ => by kernel_rfl
  | k + 64, h => by omega
theorem infoS : (Tryd.prog.info? 31).map (fun i => (i.zero, i.size)) = some (some (.agg (Array.replicate 8 (.int .u32 0))), 8) := by kernel_rfl
theorem size_S : (Tryd.prog.info? 31).map (·.size) = some 8 := by kernel_rfl
theorem KF_0 : ([1116352408, 1899447441, 3049323471, 3921009573, 961987163, 1508970993, 2453635748, 2870763221, 3624381080, 310598401, 607225278, 1426881987, 1925078388, 2162078206, 2614888103, 3248222580, 3835390401, 4022224774, 264347078, 604807628, 770255983, 1249150122, 1555081692, 1996064986, 2554220882, 2821834349, 2952996808, 3210313671, 3336571891, 3584528711, 113926993, 338241895, 666307205, 773529912, 1294757372, 1396182291, 1695183700, 1986661051, 2177026350, 2456956037, 2730485921, 2820302411, 3259730800, 3345764771, 3516065817, 3600352804, 4094571909, 275423344, 430227734, 506948616, 659060556, 883997877, 958139571, 1322822218, 1537002063, 1747873779, 1955562222, 2024104815, 2227730452, 2361852424, 2428436474, 2756734187, 3204031479, 3329325298] : List Int) = (List.range 64).map (fun j => ((KF j : Nat) : Int)) := by decide +kernel
theorem HF0_0 : ([1779033703, 3144134277, 1013904242, 2773480762, 1359893119, 2600822924, 528734635, 1541459225] : List Int) = (List.range 8).map (fun j => ((HF0 j : Nat) : Int)) := by decide +kernel
/-- What the package's variables hold. -/
def Gl (w : World) : Prop := 2 ≤ w.heap.size ∧ (∀ j, j < 8 → w.cell? ⟨0, j, none⟩ = some (gV HF0 j)) ∧ (∀ j, j < 64 → w.cell? ⟨1, j, none⟩ = some (gV KF j))
theorem Gl.on {w w' : World} {B : Nat} (h : Gl w) (hb : Below B w w') (hB : 2 ≤ B) : Gl w' :=
  ⟨Nat.le_trans h.1 hb.size, fun j hj => (World.cell?_of_block (w := w) (a := ⟨0, j, none⟩) (hb.block 0 (by omega))).trans (h.2.1 j hj), fun j hj => (World.cell?_of_block (w := w) (a := ⟨1, j, none⟩) (hb.block 1 (by omega))).trans (h.2.2 j hj)⟩
theorem Gl.but {w w' : World} {g : Nat} (h : Gl w) (hb : w.grownBy w' (some g)) (hB : 2 ≤ g) : Gl w' :=
  ⟨Nat.le_trans h.1 hb.size, fun j hj => (World.cell?_of_block (w := w) (a := ⟨0, j, none⟩) (hb.block 0 (by have := h.1; omega) (fun e => by injection e with e; omega))).trans (h.2.1 j hj), fun j hj => (World.cell?_of_block (w := w) (a := ⟨1, j, none⟩) (hb.block 1 (by have := h.1; omega) (fun e => by injection e with e; omega))).trans (h.2.2 j hj)⟩
theorem Gl.drewN {w : World} (h : Gl w) (q : Nat) : Gl (w.drewN q) := h
end Go.Proofs.YtmcoakjbfgfgpaaDoor
