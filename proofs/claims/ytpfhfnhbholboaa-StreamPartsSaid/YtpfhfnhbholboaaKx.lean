/- The chapter's example, reckoned (written by gen22.py). -/
import Derived.Test.YtpfhfnhbholboaaKmath
import Derived.Test.YtpfhfnhbholboaaKg
namespace Go.Proofs.Ytpfhfnhbholboaa
set_option linter.unusedVariables false
set_option maxRecDepth 100000
def exK : List Int := [0, 1, 2, 3, 4, 5, 6, 7, 8, 9, 10, 11, 12, 13, 14, 15]
def exB : List Int := [0, 17, 34, 51, 68, 85, 102, 119, 136, 153, 170, 187, 204, 221, 238, 255]
/-- A square, written out. -/
def litS (l : List Nat) (c r : Nat) : Nat := l.getD (4 * c + r) 0
def sameB (S T : Nat → Nat → Nat) : Bool := (List.range 4).all fun c => (List.range 4).all fun r => S c r == T c r
theorem same_of {S T : Nat → Nat → Nat} (h : sameB S T = true) : Same S T := fun c r hc hr => by
  have h1 := List.all_eq_true.1 h c (List.mem_range.2 hc)
  exact eq_of_beq (List.all_eq_true.1 h1 r (List.mem_range.2 hr))
theorem encR_step {W S T : Nat → Nat → Nat} {k : Nat} (h : Same (encR W S k) T) : Same (encR W S (k + 1)) (adds (mix m2 (thr box 1 T)) (rk W (k + 1))) := ((h.thr _ _).mix _).adds _
def exW : Nat → Nat → Nat := kx 4 (kw exK) 40
theorem ex0 : Same (encR exW (kw exB) 0) (litS [0, 16, 32, 48, 64, 80, 96, 112, 128, 144, 160, 176, 192, 208, 224, 240]) := same_of (by decide +kernel)
theorem ex1 : Same (encR exW (kw exB) 1) (litS [137, 216, 16, 232, 133, 90, 206, 104, 45, 24, 67, 216, 203, 18, 143, 228]) := (encR_step ex0).trans (same_of (by decide +kernel))
theorem ex2 : Same (encR exW (kw exB) 2) (litS [73, 21, 89, 143, 85, 229, 215, 160, 218, 202, 148, 250, 31, 10, 99, 247]) := (encR_step ex1).trans (same_of (by decide +kernel))
theorem ex3 : Same (encR exW (kw exB) 3) (litS [250, 99, 106, 40, 37, 179, 57, 201, 64, 102, 138, 49, 87, 36, 77, 23]) := (encR_step ex2).trans (same_of (by decide +kernel))
theorem ex4 : Same (encR exW (kw exB) 4) (litS [36, 114, 64, 35, 105, 102, 179, 250, 110, 210, 117, 50, 136, 66, 91, 108]) := (encR_step ex3).trans (same_of (by decide +kernel))
theorem ex5 : Same (encR exW (kw exB) 5) (litS [200, 22, 119, 188, 155, 122, 201, 59, 37, 2, 121, 146, 176, 38, 25, 150]) := (encR_step ex4).trans (same_of (by decide +kernel))
theorem ex6 : Same (encR exW (kw exB) 6) (litS [198, 47, 225, 9, 247, 94, 237, 195, 204, 121, 57, 93, 132, 249, 207, 93]) := (encR_step ex5).trans (same_of (by decide +kernel))
theorem ex7 : Same (encR exW (kw exB) 7) (litS [209, 135, 108, 15, 121, 196, 48, 10, 180, 85, 148, 173, 214, 111, 244, 31]) := (encR_step ex6).trans (same_of (by decide +kernel))
theorem ex8 : Same (encR exW (kw exB) 8) (litS [253, 227, 186, 210, 5, 229, 208, 215, 53, 71, 150, 78, 241, 254, 55, 241]) := (encR_step ex7).trans (same_of (by decide +kernel))
theorem ex9 : Same (encR exW (kw exB) 9) (litS [189, 110, 124, 61, 242, 181, 119, 158, 11, 97, 33, 110, 139, 16, 182, 137]) := (encR_step ex8).trans (same_of (by decide +kernel))
theorem ex_enc : Same (enc exW 10 (kw exB)) (litS [105, 196, 224, 216, 106, 123, 4, 48, 216, 205, 183, 128, 112, 180, 197, 90]) := ((ex9.thr box 1).adds (rk exW 10)).trans (same_of (by decide +kernel))
theorem ex_first : enc exW 10 (kw exB) 0 0 = 105 ∧ enc exW 10 (kw exB) 0 1 = 196 := ⟨ex_enc 0 0 (by omega) (by omega), ex_enc 0 1 (by omega) (by omega)⟩
end Go.Proofs.Ytpfhfnhbholboaa
