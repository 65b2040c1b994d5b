/- Texts of mine, one behind the other: Kx Ks Kt Ku Kv. -/
import Derived.Test.YtcdepbnglmncpaaDoorQK1
import Derived.Test.YtcdepbnglmncpaaDoorKq
import Derived.Test.YtcdepbnglmncpaaDoorQK2
import Derived.BigRegion
/- The chapter's example, reckoned (written by gen22.py). -/
namespace Go.Proofs.YtcdepbnglmncpaaDoor
set_option linter.unusedVariables false
set_option maxRecDepth 100000
def exK : List Int := [0, 1, 2, 3, 4, 5, 6, 7, 8, 9, 10, 11, 12, 13, 14, 15]
def exB : List Int := [0, 17, 34, 51, 68, 85, 102, 119, 136, 153, 170, 187, 204, 221, 238, 255]
/-- A square, written out. -/
def litS (l : List Nat) (c r : Nat) : Nat := l.getD (4 * c + r) 0
def sameB (S T : Nat → Nat → Nat) : Bool := (List.range 4).all fun c => (List.range 4).all fun r => S c r == T c r
theorem same_of {S T : Nat → Nat → Nat} (h : sameB S T = true) : Same S T := fun c r hc hr => by
  have h1 := List.all_eq_true.1 h c (List.mem_range.2 hc)
  exact eq_of_beq (List.all_eq_true.1 h1 r (List.mem_range.2 hr))
theorem encR_step {W S T : Nat → Nat → Nat} {k : Nat} (h : Same (encR W S k) T) : Same (encR W S (k + 1)) (adds (mix m2 (thr box 1 T)) (rk W (k + 1))) := ((h.thr _ _).mix _).adds _
def exW : Nat → Nat → Nat := kx 4 (kw exK) 40
theorem ex0 : Same (encR exW (kw exB) 0) (litS [0, 16, 32, 48, 64, 80, 96, 112, 128, 144, 160, 176, 192, 208, 224, 240]) := same_of (by decide +kernel)
theorem ex1 : Same (encR exW (kw exB) 1) (litS [137, 216, 16, 232, 133, 90, 206, 104, 45, 24, 67, 216, 203, 18, 143, 228]) := (encR_step ex0).trans (same_of (by decide +kernel))
theorem ex2 : Same (encR exW (kw exB) 2) (litS [73, 21, 89, 143, 85, 229, 215, 160, 218, 202, 148, 250, 31, 10, 99, 247]) := (encR_step ex1).trans (same_of (by decide +kernel))
theorem ex3 : Same (encR exW (kw exB) 3) (litS [250, 99, 106, 40, 37, 179, 57, 201, 64, 102, 138, 49, 87, 36, 77, 23]) := (encR_step ex2).trans (same_of (by decide +kernel))
theorem ex4 : Same (encR exW (kw exB) 4) (litS [36, 114, 64, 35, 105, 102, 179, 250, 110, 210, 117, 50, 136, 66, 91, 108]) := (encR_step ex3).trans (same_of (by decide +kernel))
theorem ex5 : Same (encR exW (kw exB) 5) (litS [200, 22, 119, 188, 155, 122, 201, 59, 37, 2, 121, 146, 176, 38, 25, 150]) := (encR_step ex4).trans (same_of (by decide +kernel))
theorem ex6 : Same (encR exW (kw exB) 6) (litS [198, 47, 225, 9, 247, 94, 237, 195, 204, 121, 57, 93, 132, 249, 207, 93]) := (encR_step ex5).trans (same_of (by decide +kernel))
theorem ex7 : Same (encR exW (kw exB) 7) (litS [209, 135, 108, 15, 121, 196, 48, 10, 180, 85, 148, 173, 214, 111, 244, 31]) := (encR_step ex6).trans (same_of (by decide +kernel))
theorem ex8 : Same (encR exW (kw exB) 8) (litS [253, 227, 186, 210, 5, 229, 208, 215, 53, 71, 150, 78, 241, 254, 55, 241]) := (encR_step ex7).trans (same_of (by decide +kernel))
theorem ex9 : Same (encR exW (kw exB) 9) (litS [189, 110, 124, 61, 242, 181, 119, 158, 11, 97, 33, 110, 139, 16, 182, 137]) := (encR_step ex8).trans (same_of (by decide +kernel))
theorem ex_enc : Same (enc exW 10 (kw exB)) (litS [105, 196, 224, 216, 106, 123, 4, 48, 216, 205, 183, 128, 112, 180, 197, 90]) := ((ex9.thr box 1).adds (rk exW 10)).trans (same_of (by decide +kernel))
theorem ex_first : enc exW 10 (kw exB) 0 0 = 105 ∧ enc exW 10 (kw exB) 0 1 = 196 := ⟨ex_enc 0 0 (by omega) (by omega), ex_enc 0 1 (by omega) (by omega)⟩
end Go.Proofs.YtcdepbnglmncpaaDoor
/- The cipher's contracts in the laws' words; blocks and squares; the laws' key. -/
namespace Go.Proofs.YtcdepbnglmncpaaDoor
open Go.ChangeShapes Go.WideShapes Go.ChangeAt Go.RowKit
set_option linter.unusedVariables false
set_option maxRecDepth 100000

theorem outL_congr {S T : Nat → Nat → Nat} (h : Same S T) : outL S 4 = outL T 4 := by
  simp only [outL, colL, h 0 0 (by omega) (by omega), h 0 1 (by omega) (by omega), h 0 2 (by omega) (by omega), h 0 3 (by omega) (by omega), h 1 0 (by omega) (by omega), h 1 1 (by omega) (by omega), h 1 2 (by omega) (by omega), h 1 3 (by omega) (by omega),
    h 2 0 (by omega) (by omega), h 2 1 (by omega) (by omega), h 2 2 (by omega) (by omega), h 2 3 (by omega) (by omega), h 3 0 (by omega) (by omega), h 3 1 (by omega) (by omega), h 3 2 (by omega) (by omega), h 3 3 (by omega) (by omega)]
theorem getD_colL (f : Nat → Nat) {r : Nat} (hr : r < 4) : (colL f).getD r 0 = ((f r : Nat) : Int) := by
  rcases lt4 hr with rfl | rfl | rfl | rfl <;> rfl
theorem getD_outL (S : Nat → Nat → Nat) {c r : Nat} (hr : r < 4) : ∀ i, c < i → (outL S i).getD (4 * c + r) 0 = ((S c r : Nat) : Int)
  | 0, h => by omega
  | i + 1, h => by
    rw [outL, List.getD_eq_getElem?_getD]
    by_cases e : c = i
    · subst e
      rw [List.getElem?_append_right (by rw [length_outL]; omega), length_outL, show 4 * c + r - 4 * c = r by omega, ← List.getD_eq_getElem?_getD, getD_colL _ hr]
    · rw [List.getElem?_append_left (by rw [length_outL]; omega), ← List.getD_eq_getElem?_getD]
      exact getD_outL S hr i (by omega)
theorem kw_outL (S : Nat → Nat → Nat) : Same (kw (outL S 4)) S := fun c r hc hr => by
  unfold kw
  rw [getD_outL S hr 4 hc, Int.toNat_natCast]
theorem allB_outL {S : Nat → Nat → Nat} (hS : SqB S) : ∀ i, AllB (outL S i)
  | 0 => fun x hx => by cases hx
  | i + 1 => fun x hx => by
    rcases List.mem_append.1 hx with h | h
    · exact allB_outL hS i x h
    · have h0 := hS i 0; have h1 := hS i 1; have h2 := hS i 2; have h3 := hS i 3
      simp only [colL, List.mem_cons, List.not_mem_nil, or_false] at h
      rcases h with rfl | rfl | rfl | rfl <;> omega
theorem outL_kw {l : List Int} (hl : l.length = 16) (hA : AllB l) : outL (kw l) 4 = l := by
  refine list_ext_getD (by rw [length_outL, hl]) (fun i hi => ?_)
  rw [length_outL] at hi
  have h := getD_outL (kw l) (c := i / 4) (r := i % 4) (by omega) 4 (by omega)
  rw [show 4 * (i / 4) + i % 4 = i by omega] at h
  rw [h]
  unfold kw
  rw [show 4 * (i / 4) + i % 4 = i by omega]
  have := allB_getD hA i
  omega
/-- A block, encrypted and decrypted. -/
def encL (n : Nat) (W : Nat → Nat → Nat) (l : List Int) : List Int := outL (enc W n (kw l)) 4
def decL (n : Nat) (W : Nat → Nat → Nat) (l : List Int) : List Int := outL (dec W n (kw l)) 4
theorem length_encL (n : Nat) (W : Nat → Nat → Nat) (l : List Int) : (encL n W l).length = 16 := length_outL _ 4
theorem length_decL (n : Nat) (W : Nat → Nat → Nat) (l : List Int) : (decL n W l).length = 16 := length_outL _ 4
theorem allB_encL {W : Nat → Nat → Nat} (hW : SqB W) (n : Nat) (l : List Int) : AllB (encL n W l) := allB_outL (enc_bd n _ hW) 4
theorem allB_decL {W : Nat → Nat → Nat} (hW : SqB W) (n : Nat) (l : List Int) : AllB (decL n W l) := allB_outL (dec_bd n _ hW) 4
theorem enc_decL {W : Nat → Nat → Nat} (hW : SqB W) (n : Nat) {l : List Int} (hl : l.length = 16) (hA : AllB l) : encL n W (decL n W l) = l := by
  unfold encL decL
  rw [outL_congr ((Same.enc (kw_outL _) W n).trans (enc_dec hW (kw_lt hA) n)), outL_kw hl hA]
theorem dec_encL {W : Nat → Nat → Nat} (hW : SqB W) (n : Nat) {l : List Int} (hl : l.length = 16) (hA : AllB l) : decL n W (encL n W l) = l := by
  unfold encL decL
  rw [outL_congr ((Same.dec (kw_outL _) W n).trans (dec_enc hW (kw_lt hA) n)), outL_kw hl hA]
theorem encL_inj {W : Nat → Nat → Nat} (hW : SqB W) (n : Nat) {l m : List Int} (hl : l.length = 16) (hA : AllB l) (hm : m.length = 16) (hB : AllB m) (h : encL n W l = encL n W m) : l = m := by
  rw [← dec_encL hW n hl hA, h, dec_encL hW n hm hB]
/-- The words of a key's round keys. -/
def keyW (l : List Int) : Nat → Nat → Nat := kx (l.length / 4) (kw l) (3 * (l.length / 4) + 28)
theorem keyW_bd {l : List Int} (hA : AllB l) : SqB (keyW l) := kx_bd _ (kw_lt hA) _
/-- Cip, with the number of its rounds. -/
def CipK (w : World) (b : Nat) (l : List Int) : Prop := Cip w b (l.length / 4 + 6) (keyW l)
theorem CipK.on {w w' : World} {b : Nat} {l : List Int} (h : CipK w b l) (hb : Below w.heap.size w w') : CipK w' b l := Cip.on h hb
theorem new_arg (fb : Nat) (a : Option Addr) (L c : Nat) (l : List Int) (w : World) (hf : Fld w fb) (hx : Arg8 w a L c l) (hL : L = 16 ∨ L = 32) :
    Calls Tryd.prog 27 #[.pointer (some ⟨fb, 0, none⟩), .slice a L c] w fun e w' => ∃ b, e = .returned (.tuple #[.pointer (some ⟨b, 0, none⟩), .int .i64 0]) ∧ CipK w' b l ∧ Below w.heap.size w w' := by
  obtain ⟨hl, hA, hb, hc, hm⟩ := hx
  obtain ⟨ba, oa, rfl, _⟩ := hb (by omega)
  unfold maxLen at hm
  unfold CipK keyW
  rw [hl]
  rcases hL with rfl | rfl
  · exact new_4 fb 4 ba oa c l w hf rfl hl hA hb hc hm
  · exact new_8 fb 8 ba oa c l w hf rfl hl hA hb hc hm
theorem enc_arg (b : Nat) (k : List Int) (a : Option Addr) (c : Nat) (l : List Int) (w : World) (h : CipK w b k) (hk : k.length = 16 ∨ k.length = 32) (hK : AllB k) (hx : Arg8 w a 16 c l) :
    Calls Tryd.prog 66 #[.pointer (some ⟨b, 0, none⟩), .slice a (16 : Nat) c] w fun e w' => ∃ g, e = .returned (.tuple #[.slice (some ⟨g, 0, none⟩) 16 16, .int .i64 0]) ∧ w'.ownsRow w.heap.size 5 1 (.slice (some ⟨g, 0, none⟩) 16 16) 16 ((encL (k.length / 4 + 6) (keyW k) l).map (Value.int .u8)) ∧ Below w.heap.size w w' := by
  obtain ⟨hl, hA, hb, hc, hm⟩ := hx
  obtain ⟨ba, oa, rfl, _⟩ := hb (by omega)
  unfold maxLen at hm
  refine (encrypt_ok b (k.length / 4 + 6) (keyW k) (keyW_bd hK) (by omega) (by omega) ba oa c l w h hl hA hb hc hm).mono ?_
  rintro e w' ⟨a, rfl, ho, hbe⟩
  obtain ⟨g, cap, hv, _⟩ := ho.form (by omega)
  cases hv
  exact ⟨g, rfl, ho, hbe⟩
/-- The bytes that a law makes a key of. -/
def padKL (l : List Int) (N : Nat) : List Int := l.take N ++ List.replicate (N - l.length) 0
theorem length_padKL (l : List Int) (N : Nat) : (padKL l N).length = N := by simp [padKL]; omega
theorem allB_padKL {l : List Int} (h : AllB l) (N : Nat) : AllB (padKL l N) := fun x hx => by
  rcases List.mem_append.1 hx with h1 | h1
  · exact h x (List.mem_of_mem_take h1)
  · obtain ⟨_, rfl⟩ := List.mem_replicate.1 h1; omega
def keyN (t : Bool) : Nat := if t then 32 else 16
theorem splice_pad (l : List Int) (N : Nat) : splice (madeCells #[Value.int .u8 0] N).toList 0 ((l.take N).map (Value.int .u8)) = (padKL l N).map (Value.int .u8) := by
  rw [splice_all, replicate_cells, padKL, List.map_append, ← List.map_drop, List.drop_replicate, List.length_map, List.length_take, show N - min N l.length = N - l.length by omega]
end Go.Proofs.YtcdepbnglmncpaaDoor
/- Contract of the laws' lives (layer 5). -/
namespace Go.Proofs.YtcdepbnglmncpaaDoor
open Go.ChangeShapes Go.WideShapes Go.ChangeAt Go.RowKit
set_option linter.unusedVariables false
set_option linter.unusedSimpArgs false
set_option maxRecDepth 100000

theorem exK_at : ∀ i : Nat, i < 16 → exK.getD i 0 = (i : Int) := by decide
theorem exB_at : ∀ i : Nat, i < 16 → exB.getD i 0 = 17 * (i : Int) := by decide
theorem exK_B : AllB exK := by unfold AllB exK; decide
theorem exB_B : AllB exB := by unfold AllB exB; decide
theorem ex_at0 : (encL (exK.length / 4 + 6) (keyW exK) exB).getD 0 0 = 105 := by
  have h := getD_outL (enc exW 10 (kw exB)) (c := 0) (r := 0) (by omega) 4 (by omega)
  rw [ex_first.1] at h
  exact h
theorem ex_at1 : (encL (exK.length / 4 + 6) (keyW exK) exB).getD 1 0 = 196 := by
  have h := getD_outL (enc exW 10 (kw exB)) (c := 0) (r := 1) (by omega) 4 (by omega)
  rw [ex_first.2] at h
  exact h
/-- Two rows of noughts, made one behind the other. -/
theorem two_rows (w : World) : ∃ WW : World, WW = ((w.alloc (.cells (madeCells #[.int .u8 0] 16) 5)).alloc (.cells (madeCells #[.int .u8 0] 16) 5)).drew ∧ Below w.heap.size w WW ∧
    WW.ownsRow w.heap.size 5 1 (.slice (some ⟨w.heap.size, 0, none⟩) 16 16) 16 ((List.replicate 16 (0 : Int)).map (Value.int .u8)) ∧
    WW.ownsRow w.heap.size 5 1 (.slice (some ⟨w.heap.size + 1, 0, none⟩) 16 16) 16 ((List.replicate 16 (0 : Int)).map (Value.int .u8)) := by
  have h1 := own_made (w := w) (e := 5) (n := 16) (by unfold maxLen; omega)
  have h2 := own_made (w := w.alloc (.cells (madeCells #[.int .u8 0] 16) 5)) (e := 5) (n := 16) (by unfold maxLen; omega)
  rw [World.size_alloc] at h2
  exact ⟨_, rfl, (((Below.refl _ _).alloc (Nat.le_refl _) _).alloc (by simp) _).drew, h1.alloc _, own_baseS h2 (by omega)⟩
end Go.Proofs.YtcdepbnglmncpaaDoor
/- The walk of CipherForms (written by gen24.py). -/
namespace Go.Proofs.YtcdepbnglmncpaaDoor
open Go.ChangeShapes Go.WideShapes Go.ChangeAt Go.RowKit
set_option linter.unusedVariables false
set_option linter.unusedSimpArgs false
set_option maxRecDepth 100000

theorem made16 (w : World) : Arg8 (w.alloc (.cells (madeCells #[.int .u8 0] 16) 5)) (some ⟨w.heap.size, 0, none⟩) 16 16 (List.replicate 16 0) :=
  Arg8.own (own_made (by unfold maxLen; omega)) (fun x hx => by obtain ⟨_, rfl⟩ := List.mem_replicate.1 hx; omega) ⟨by omega, by unfold maxLen; omega⟩
theorem noughts_B : AllB (List.replicate 16 (0 : Int)) := fun x hx => by obtain ⟨_, rfl⟩ := List.mem_replicate.1 hx; omega
theorem made_below (w : World) : Below w.heap.size w (w.alloc (.cells (madeCells #[.int .u8 0] 16) 5)) := (Below.refl _ _).alloc (Nat.le_refl _) _
theorem make16 : ∀ w : World, (Instr.makeSlice 22 (.int .i64 16) (.int .i64 16)).run Tryd.prog w = .ok (.slice (some ⟨w.heap.size, 0, none⟩) 16 16) (w.alloc (.cells (madeCells #[.int .u8 0] 16) 5)) := by
  have hmk := run_make_row' (P := Tryd.prog) 22 5 (.int .u8 0) 1 Tryd.underlying22 info5 rfl .i64 .i64 16 (by omega) (by omega)
  rw [show ((16 : Nat) : Int) = 2 * 8 from rfl] at hmk
  simp only [Int.reduceMul] at hmk
  exact hmk
end Go.Proofs.YtcdepbnglmncpaaDoor
/- The walk of CipherBack (written by gen25.py). -/
namespace Go.Proofs.YtcdepbnglmncpaaDoor
open Go.ChangeShapes Go.WideShapes Go.ChangeAt Go.RowKit
set_option linter.unusedVariables false
set_option linter.unusedSimpArgs false
set_option maxRecDepth 100000

theorem Arg8.strK {w : World} {a : Option Addr} {n c : Nat} {l : List Int} (h : Arg8 w a n c l) : (convert 22 9 (.slice a n c)).run Tryd.prog w = .ok (.string (strOfNums l)) w := h.2.2.1.str h.1 Tryd.underlying22 Tryd.underlying5 Tryd.underlying9
theorem own16 {w : World} {base g N : Nat} {l : List Int} (hN : N ≤ 32) (h : w.ownsRow base 5 1 (.slice (some ⟨g, 0, none⟩) N N) N (l.map (Value.int .u8))) (hA : AllB l) : Arg8 w (some ⟨g, 0, none⟩) N N l := Arg8.own h hA ⟨Nat.le_refl _, by unfold maxLen; omega⟩
end Go.Proofs.YtcdepbnglmncpaaDoor
