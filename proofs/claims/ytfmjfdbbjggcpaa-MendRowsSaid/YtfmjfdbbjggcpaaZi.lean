/- Contract of mend's mended. -/
import Derived.Test.YtfmjfdbbjggcpaaZh
namespace Go.Proofs.Ytfmjfdbbjggcpaa
open Go.ChangeShapes Go.WideShapes Go.ChangeAt Go.RowKit Go.Shelf GF
set_option linter.unusedVariables false
set_option linter.unusedSimpArgs false
set_option maxRecDepth 100000

theorem i64_any2 {N : Int} (h : (Lit.int .i64 N).wf = true) : -9223372036854775808 ≤ N ∧ N ≤ 9223372036854775807 := by
  simpa [Lit.wf, IntKind.min, IntKind.max, IntKind.signed, IntKind.bits] using h
theorem sol_num {X : List GF} {R N P : List (List GF)} {L t n : Nat} (h : SolP X R N P L t n) (hN : ∀ k, k < t → (rw_ N k).length = n) : NumP N P t n :=
  ⟨hN, h.1, fun j hj => ⟨(h.2 j hj).1.2.1, (h.2 j hj).2⟩⟩
/-- Few enough are wrong in each column: just if each column is right. -/
theorem few_iff {X : List GF} {R N P : List (List GF)} {L t n : Nat} {e : Nat} (hX : X.length = L) (h : SolP X R N P L t n) :
    (mxW (fun j => cntW X R P j L) n ≤ e → ∀ j, j < n → RightP X (colM R L j) t e (rw_ P j)) ∧ (e < mxW (fun j => cntW X R P j L) n → ∃ j, j < n ∧ ∀ q, ¬ RightP X (colM R L j) t e q) := by
  refine ⟨fun hm j hj => ?_, fun hm => ?_⟩
  · obtain ⟨h1, h2, h3, _⟩ := (h.2 j hj).1
    have := mxW_ge (fun j => cntW X R P j L) n j hj
    rw [show cntW X R P j L = _ from cntW_all hX] at this
    exact ⟨h1, h2, by omega, h3⟩
  · rcases mxW_hit (fun j => cntW X R P j L) n with h0 | ⟨j, hj, h0⟩
    · omega
    · refine ⟨j, hj, fun q hq => ?_⟩
      have e1 := (h.2 j hj).1.2.2.2 _ q hq
      have e2 := hq.2.2.1
      rw [e1, ← cntW_all (L := L) (R := R) hX, ← h0] at e2
      omega
theorem rad_few {X : List GF} {R N P : List (List GF)} {L t n : Nat} (hX : X.length = L) (h : SolP X R N P L t n) : mxW (fun j => cntW X R P j L) n ≤ (L - t) / 2 := by
  rcases mxW_hit (fun j => cntW X R P j L) n with h0 | ⟨j, hj, h0⟩
  · omega
  · have h3 := (h.2 j hj).1.2.2.1
    rw [← cntW_all (L := L) (R := R) hX, hX] at h3
    have h0 : mxW (fun j => cntW X R P j L) n = cntW X R P j L := h0
    omega
set_option maxHeartbeats 4000000 in
theorem mended_any (b L t n : Nat) (e : Int) (aX : Option Addr) (cX : Nat) (X : List GF) (aR : Option Addr) (cR : Nat) (R : List (List GF)) (w : World) (hf : Fld w b) (hX : Pa w aX L cX X) (hR : Mat w aR L cR R) (hA : Apart X) (ht : 1 ≤ t) (htL : t ≤ L) (hL : L ≤ 200) (hw : ∀ k, k < L → (rw_ R k).length = n) (hn : n ≤ 1000) (he : (Lit.int .i64 e).wf = true) (he0 : 0 ≤ e) :
    Calls Try.prog 21 #[.pointer (some ⟨b, 0, none⟩), .int .i64 (t : Nat), .slice aX L cX, .slice aR L cR, .int .i64 e] w fun r w' => ∃ (a1 a2 : Option Addr) (m1 c1 m2 c2 : Nat) (er : Int), r = .returned (.tuple #[.slice a1 m1 c1, .slice a2 m2 c2, .int .i64 er]) ∧
      Hid ((er = 0 ∧ ∃ N P, m1 = t ∧ Mat w' a1 t c1 N ∧ NumP N P t n ∧ m2 = (wrI X R P n L).length ∧ IA w' a2 m2 c2 (zl (wrI X R P n L)) ∧ ∀ j, j < n → RightP X (colM R L j) t e.toNat (rw_ P j)) ∨ (er = 11 ∧ ∃ j, j < n ∧ ∀ q, ¬ RightP X (colM R L j) t e.toNat q)) ∧ Below w.heap.size w w' := by
  have HSO := Lib.hid (solved_any b L t n aX cX X aR cR R w hf hX hR hA ht htL hL hw hn)
  have HX := Lib.hid hX; have HR := Lib.hid hR; have HF := Lib.hid hf
  have HC := Lib.hid (And.intro hA (And.intro hX.len (And.intro ht (And.intro htL (And.intro hL hn)))))
  have HW := Lib.hid hw
  have hbx := hX.bd; have hbr := hR.bd
  have hei := i64_any2 he
  have HRD := Lib.hid (radius_any L t)
  have qt : (t : Int) ≤ 200 := by omega
  clear hf hX hR hA ht htL hL hw hn he
  go_enter Try.func21, Try.ntmps21
  go_wp2_with (go_at_call 38; go_loud (refine HSO.out.mono ?_; rintro r w1 ⟨a1, m1, c1, bb, rfl, hs, hb⟩; have HB1 := Lib.hid hb; clear hb))
  · have hbb : bb = false := by cases bb <;> simp_all
    obtain ⟨j, hj, hno⟩ := hs.out.2 hbb
    have HNO := Lib.hid (show ∃ j, j < n ∧ ∀ q, ¬ RightP X (colM R L j) t e.toNat q from ⟨j, hj, fun q => hno _ q⟩)
    clear hno hj
    go_ret3
    exact ⟨none, none, 0, 0, 0, 0, 11, rfl, Lib.hid (.inr ⟨rfl, HNO.out⟩), HB1.out⟩
  · have hbb : bb = true := by cases bb <;> simp_all
    obtain ⟨g, N, P, rfl, rfl, rfl, hrb, hso⟩ := hs.out.1 hbb
    have HMT := Lib.hid (hrb.mat (by have := HC.out; omega))
    have HNP := Lib.hid (sol_num hso (fun k hk => by obtain ⟨_, _, _, _, _, h9⟩ := hrb; exact (h9 k hk).1))
    have HSL := Lib.hid hso
    have hdm := HMT.out.bd
    clear hrb hso hbb
    obtain ⟨m, hm⟩ : ∃ m, m = mxW (fun j => cntW X R P j L) n := ⟨_, rfl⟩
    have hrf := rad_few HC.out.2.1 HSL.out
    obtain ⟨f1, f2⟩ := few_iff (e := e.toNat) HC.out.2.1 HSL.out
    rw [← hm] at hrf f1 f2
    obtain ⟨r, hr⟩ : ∃ r, r = (L - c1) / 2 := ⟨_, rfl⟩
    rw [← hr] at hrf
    have HF1 := Lib.hid f1
    have HF2 := Lib.hid f2
    have HR' := Lib.hid hr
    have qr : (r : Int) ≤ 200 := by have := HC.out; omega
    have qm : (m : Int) ≤ (r : Int) := by omega
    have HST := Lib.hid (strays_any b L c1 n (some ⟨g, 0, none⟩) c1 N aX cX X aR cR R P w1 (HF.out.below HB1.out) HMT.out (HX.out.on HB1.out) (HR.out.on HB1.out) HNP.out HC.out.2.2.1 (by have := HC.out; omega) (by have := HC.out; omega) HC.out.2.2.2.2.1 HW.out HC.out.2.2.2.2.2)
    rw [← hm] at HST
    clear f1 f2 hm hr hs hrf
    by_cases hre : (r : Int) < e
    · have q2 : ¬ (r : Int) < (m : Int) := by omega
      have HRI := Lib.hid (HF1.out (by omega))
      go_wp2_with (first
        | (go_at_call 39; go_loud (refine HST.out.mono ?_; rintro x w2 ⟨a2, c2, rfl, hia, hb⟩; have HIA := Lib.hid hia; have HB2 := Lib.hid (bt HB1.out hb); have HM2 := Lib.hid (HMT.out.on hb); have hdi := hia.bd; have HRA := Lib.hid (HRD.out w2 (by have := HC.out; omega) (by have := HC.out; omega)); rw [← HR'.out] at HRA; clear hia hb))
        | (go_at_call 19; go_loud (refine HRA.out.mono ?_; rintro x w' ⟨rfl, rfl⟩)))
      go_ret3
      exact ⟨_, a2, _, _, _, c2, 0, rfl, Lib.hid (.inl ⟨rfl, N, P, rfl, HM2.out, HNP.out, rfl, HIA.out, HRI.out⟩), HB2.out⟩
    · by_cases hme : e < (m : Int)
      · have HNO := Lib.hid (HF2.out (by omega))
        go_wp2_with (first
          | (go_at_call 39; go_loud (refine HST.out.mono ?_; rintro x w2 ⟨a2, c2, rfl, hia, hb⟩; have HIA := Lib.hid hia; have HB2 := Lib.hid (bt HB1.out hb); have HM2 := Lib.hid (HMT.out.on hb); have hdi := hia.bd; have HRA := Lib.hid (HRD.out w2 (by have := HC.out; omega) (by have := HC.out; omega)); rw [← HR'.out] at HRA; clear hia hb))
          | (go_at_call 19; go_loud (refine HRA.out.mono ?_; rintro x w' ⟨rfl, rfl⟩)))
        go_ret3
        exact ⟨none, none, 0, 0, 0, 0, 11, rfl, Lib.hid (.inr ⟨rfl, HNO.out⟩), HB2.out⟩
      · have HRI := Lib.hid (HF1.out (by omega))
        go_wp2_with (first
          | (go_at_call 39; go_loud (refine HST.out.mono ?_; rintro x w2 ⟨a2, c2, rfl, hia, hb⟩; have HIA := Lib.hid hia; have HB2 := Lib.hid (bt HB1.out hb); have HM2 := Lib.hid (HMT.out.on hb); have hdi := hia.bd; have HRA := Lib.hid (HRD.out w2 (by have := HC.out; omega) (by have := HC.out; omega)); rw [← HR'.out] at HRA; clear hia hb))
          | (go_at_call 19; go_loud (refine HRA.out.mono ?_; rintro x w' ⟨rfl, rfl⟩)))
        go_ret3
        exact ⟨_, a2, _, _, _, c2, 0, rfl, Lib.hid (.inl ⟨rfl, N, P, rfl, HM2.out, HNP.out, rfl, HIA.out, HRI.out⟩), HB2.out⟩
end Go.Proofs.Ytfmjfdbbjggcpaa
