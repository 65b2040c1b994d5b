/- MendRows: every case, under the contracts. -/
import Derived.Test.YtfmjfdbbjggcpaaRm
namespace Go.Proofs.Ytfmjfdbbjggcpaa
open Go.ChangeShapes Go.WideShapes Go.ChangeAt Go.RowKit Go.Shelf GF
set_option linter.unusedVariables false
set_option linter.unusedSimpArgs false

theorem mendRows_any {Md : World → Addr → List (List GF) → List Nat → Prop} (hAll : ColAll) (hRA : RowsAll Md) (t e : Int) (x : GF) (L : Nat) (aX : Option Addr) (cX : Nat) (X : List GF) (K : Nat) (aR : Option Addr) (cR : Nat) (R : List (List GF)) (w : World) (hX : Pa w aX L cX X) (hR : Mat w aR K cR R) (hT : (Lit.int .i64 t).wf = true) (hE : (Lit.int .i64 e).wf = true) :
    Calls Try.prog 5 #[.int .i64 t, .slice aX L cX, .slice aR K cR, .int .i64 e, .int .u8 (toI x)] w fun r w' => r = .returned (.bool true) ∧ Below w.heap.size w w' := by
  by_cases a1 : 6 < K
  · exact mr_many1 hAll hRA t e x L aX cX X K aR cR R w hX hR a1
  by_cases a2 : 6 < L
  · exact mr_many2 hAll hRA t e x L aX cX X K aR cR R w hX hR (by omega) a2
  obtain ⟨j, hj, hz, hlong⟩ := first_long R K
  by_cases hjK : j < K
  · exact mr_long hAll hRA t e x L aX cX X K aR cR R w hX hR (by omega) (by omega) j hjK hz (hlong hjK)
  have hz8 : ∀ i, i < K → (rw_ R i).length ≤ 8 := fun i hi => hz i (by omega)
  by_cases her : colErr X K t e = 0
  · have hc := her
    unfold colErr at hc
    have hXl := hX.len
    by_cases h0 : X.length ≠ K
    · rw [if_pos h0] at hc; cases hc
    rw [if_neg h0] at hc
    by_cases h1 : t < 1 ∨ 255 < t ∨ e < 0
    · rw [if_pos h1] at hc; cases hc
    rw [if_neg h1] at hc
    by_cases h2 : (X.length : Int) < t
    · rw [if_pos h2] at hc; cases hc
    rw [if_neg h2] at hc
    obtain rfl : L = K := by omega
    obtain ⟨T, rfl⟩ : ∃ T : Nat, t = (T : Int) := ⟨t.toNat, by omega⟩
    by_cases hu : unl R L = true
    · exact mr_form hAll hRA T e x L aX cX X aR cR R w hX hR hE (by omega) hz8 (by omega) (by omega) (by omega) hc hu
    · have hu2 : unl R L = false := by simpa using hu
      have hRl := hR.len
      exact mr_like hAll hRA T e x L aX cX X aR cR R w hX hR hE (by omega) (rw_ R 0).length (fun k hk => unl_mem (by rw [hRl]; exact hu2) (by rw [hRl]; exact hk)) (hz8 0 (by omega)) (by omega) (by omega) (by omega) hc hu2
  · exact mr_err hAll hRA t e x L aX cX X K aR cR R w hX hR hT hE (by omega) (by omega) hz8 _ rfl her
end Go.Proofs.Ytfmjfdbbjggcpaa
