/- Texts of mine, one behind the other: Zi Zj Zl He Hf Hg. -/
import Derived.Test.YtappfdbmhgifcaaGreatDoorZF20
import Derived.RangeFuncNested
import Derived.RangeFuncBox
import Derived.RangeFuncCalls
import Derived.RangeFuncLeaves
import Derived.Shelf.Abstract
import Derived.Shelf.RegionOpen
import Derived.OwnWalkIn
import Derived.TacticsInMore
import Derived.LoopNIn
import Derived.LoopIn
import Derived.BigRegionIn
import Derived.Maps.AppendAt
import Derived.Test.YtappfdbmhgifcaaGreatDoorZF15
import Derived.Test.YtappfdbmhgifcaaGreatDoorZF16
import Derived.Test.YtappfdbmhgifcaaGreatDoorZF18
import Derived.Deep.RegionHeld
import Derived.Test.YtappfdbmhgifcaaGreatDoorZF19
import Derived.Test.YtappfdbmhgifcaaGreatDoorZF13
import Derived.Test.YtappfdbmhgifcaaGreatDoorZF08
import Derived.Test.YtappfdbmhgifcaaGreatDoorZF12
/- Contract of mend's mended. -/
namespace Go.Proofs.YtappfdbmhgifcaaGreatDoor
open Go.ChangeShapes Go.WideShapes Go.ChangeAt Go.RowKit Go.Shelf GF
set_option linter.unusedVariables false
set_option linter.unusedSimpArgs false
set_option maxRecDepth 100000

theorem i64_any2 {N : Int} (h : (Lit.int .i64 N).wf = true) : -9223372036854775808 ≤ N ∧ N ≤ 9223372036854775807 := by
  simpa [Lit.wf, IntKind.min, IntKind.max, IntKind.signed, IntKind.bits] using h
theorem sol_num {X : List GF} {R N P : List (List GF)} {L t n : Nat} (h : SolP X R N P L t n) (hN : ∀ k, k < t → (rw_ N k).length = n) : NumP N P t n :=
  ⟨hN, h.1, fun j hj => ⟨(h.2 j hj).1.2.1, (h.2 j hj).2⟩⟩
/-- Few enough are wrong in each column: just if each column is right. -/
theorem few_iff {X : List GF} {R N P : List (List GF)} {L t n : Nat} {e : Nat} (hX : X.length = L) (h : SolP X R N P L t n) :
    (mxW (fun j => cntW X R P j L) n ≤ e → ∀ j, j < n → RightP X (colG R L j) t e (rw_ P j)) ∧ (e < mxW (fun j => cntW X R P j L) n → ∃ j, j < n ∧ ∀ q, ¬ RightP X (colG R L j) t e q) := by
  refine ⟨fun hm j hj => ?_, fun hm => ?_⟩
  · obtain ⟨h1, h2, h3, _⟩ := (h.2 j hj).1
    have := mxW_ge (fun j => cntW X R P j L) n j hj
    rw [show cntW X R P j L = _ from cntW_all hX] at this
    exact ⟨h1, h2, by omega, h3⟩
  · rcases mxW_hit (fun j => cntW X R P j L) n with h0 | ⟨j, hj, h0⟩
    · omega
    · refine ⟨j, hj, fun q hq => ?_⟩
      have e1 := (h.2 j hj).1.2.2.2 _ q hq
      have e2 := hq.2.2.1
      rw [e1, ← cntW_all (L := L) (R := R) hX, ← h0] at e2
      omega
theorem rad_few {X : List GF} {R N P : List (List GF)} {L t n : Nat} (hX : X.length = L) (h : SolP X R N P L t n) : mxW (fun j => cntW X R P j L) n ≤ (L - t) / 2 := by
  rcases mxW_hit (fun j => cntW X R P j L) n with h0 | ⟨j, hj, h0⟩
  · omega
  · have h3 := (h.2 j hj).1.2.2.1
    rw [← cntW_all (L := L) (R := R) hX, hX] at h3
    have h0 : mxW (fun j => cntW X R P j L) n = cntW X R P j L := h0
    omega
set_option maxHeartbeats 4000000 in
theorem mended_any (b L t n : Nat) (e : Int) (aX : Option Addr) (cX : Nat) (X : List GF) (aR : Option Addr) (cR : Nat) (R : List (List GF)) (w : World) (hf : Fld w b) (hX : Pa w aX L cX X) (hR : Mat w aR L cR R) (hA : Apart X) (ht : 1 ≤ t) (htL : t ≤ L) (hL : L ≤ 200) (hw : ∀ k, k < L → (rw_ R k).length = n) (hn : n ≤ 1000) (he : (Lit.int .i64 e).wf = true) (he0 : 0 ≤ e) :
    Calls Tryz.prog 70 #[.pointer (some ⟨b, 0, none⟩), .int .i64 (t : Nat), .slice aX L cX, .slice aR L cR, .int .i64 e] w fun r w' => ∃ (a1 a2 : Option Addr) (m1 c1 m2 c2 : Nat) (er : Int), r = .returned (.tuple #[.slice a1 m1 c1, .slice a2 m2 c2, .int .i64 er]) ∧
      Hid ((er = 0 ∧ ∃ N P, m1 = t ∧ Mat w' a1 t c1 N ∧ NumP N P t n ∧ m2 = (wrI X R P n L).length ∧ IA w' a2 m2 c2 (zl (wrI X R P n L)) ∧ ∀ j, j < n → RightP X (colG R L j) t e.toNat (rw_ P j)) ∨ (er = 11 ∧ ∃ j, j < n ∧ ∀ q, ¬ RightP X (colG R L j) t e.toNat q)) ∧ Below w.heap.size w w' := by
  have HSO := Lib.hid (solved_any b L t n aX cX X aR cR R w hf hX hR hA ht htL hL hw hn)
  have HX := Lib.hid hX; have HR := Lib.hid hR; have HF := Lib.hid hf
  have HC := Lib.hid (And.intro hA (And.intro hX.len (And.intro ht (And.intro htL (And.intro hL hn)))))
  have HW := Lib.hid hw
  have hbx := hX.bd; have hbr := hR.bd
  have hei := i64_any2 he
  have HRD := Lib.hid (radius_any L t)
  have qt : (t : Int) ≤ 200 := by omega
  clear hf hX hR hA ht htL hL hw hn he
  go_enter Tryz.func70, Tryz.ntmps70
  go_wp2_with (go_at_call 96; go_loud (refine HSO.out.mono ?_; rintro r w1 ⟨a1, m1, c1, bb, rfl, hs, hb⟩; have HB1 := Lib.hid hb; clear hb))
  · have hbb : bb = false := by cases bb <;> simp_all
    obtain ⟨j, hj, hno⟩ := hs.out.2 hbb
    have HNO := Lib.hid (show ∃ j, j < n ∧ ∀ q, ¬ RightP X (colG R L j) t e.toNat q from ⟨j, hj, fun q => hno _ q⟩)
    clear hno hj
    go_ret3
    exact ⟨none, none, 0, 0, 0, 0, 11, rfl, Lib.hid (.inr ⟨rfl, HNO.out⟩), HB1.out⟩
  · have hbb : bb = true := by cases bb <;> simp_all
    obtain ⟨g, N, P, rfl, rfl, rfl, hrb, hso⟩ := hs.out.1 hbb
    have HMT := Lib.hid (hrb.mat (by have := HC.out; omega))
    have HNP := Lib.hid (sol_num hso (fun k hk => by obtain ⟨_, _, _, _, _, h9⟩ := hrb; exact (h9 k hk).1))
    have HSL := Lib.hid hso
    have hdm := HMT.out.bd
    clear hrb hso hbb
    obtain ⟨m, hm⟩ : ∃ m, m = mxW (fun j => cntW X R P j L) n := ⟨_, rfl⟩
    have hrf := rad_few HC.out.2.1 HSL.out
    obtain ⟨f1, f2⟩ := few_iff (e := e.toNat) HC.out.2.1 HSL.out
    rw [← hm] at hrf f1 f2
    obtain ⟨r, hr⟩ : ∃ r, r = (L - c1) / 2 := ⟨_, rfl⟩
    rw [← hr] at hrf
    have HF1 := Lib.hid f1
    have HF2 := Lib.hid f2
    have HR' := Lib.hid hr
    have qr : (r : Int) ≤ 200 := by have := HC.out; omega
    have qm : (m : Int) ≤ (r : Int) := by omega
    have HST := Lib.hid (strays_any b L c1 n (some ⟨g, 0, none⟩) c1 N aX cX X aR cR R P w1 (HF.out.below HB1.out) HMT.out (HX.out.on HB1.out) (HR.out.on HB1.out) HNP.out HC.out.2.2.1 (by have := HC.out; omega) (by have := HC.out; omega) HC.out.2.2.2.2.1 HW.out HC.out.2.2.2.2.2)
    rw [← hm] at HST
    clear f1 f2 hm hr hs hrf
    by_cases hre : (r : Int) < e
    · have q2 : ¬ (r : Int) < (m : Int) := by omega
      have HRI := Lib.hid (HF1.out (by omega))
      go_wp2_with (first
        | (go_at_call 97; go_loud (refine HST.out.mono ?_; rintro x w2 ⟨a2, c2, rfl, hia, hb⟩; have HIA := Lib.hid hia; have HB2 := Lib.hid (bt HB1.out hb); have HM2 := Lib.hid (HMT.out.on hb); have hdi := hia.bd; have HRA := Lib.hid (HRD.out w2 (by have := HC.out; omega) (by have := HC.out; omega)); rw [← HR'.out] at HRA; clear hia hb))
        | (go_at_call 98; go_loud (refine HRA.out.mono ?_; rintro x w' ⟨rfl, rfl⟩)))
      go_ret3
      exact ⟨_, a2, _, _, _, c2, 0, rfl, Lib.hid (.inl ⟨rfl, N, P, rfl, HM2.out, HNP.out, rfl, HIA.out, HRI.out⟩), HB2.out⟩
    · by_cases hme : e < (m : Int)
      · have HNO := Lib.hid (HF2.out (by omega))
        go_wp2_with (first
          | (go_at_call 97; go_loud (refine HST.out.mono ?_; rintro x w2 ⟨a2, c2, rfl, hia, hb⟩; have HIA := Lib.hid hia; have HB2 := Lib.hid (bt HB1.out hb); have HM2 := Lib.hid (HMT.out.on hb); have hdi := hia.bd; have HRA := Lib.hid (HRD.out w2 (by have := HC.out; omega) (by have := HC.out; omega)); rw [← HR'.out] at HRA; clear hia hb))
          | (go_at_call 98; go_loud (refine HRA.out.mono ?_; rintro x w' ⟨rfl, rfl⟩)))
        go_ret3
        exact ⟨none, none, 0, 0, 0, 0, 11, rfl, Lib.hid (.inr ⟨rfl, HNO.out⟩), HB2.out⟩
      · have HRI := Lib.hid (HF1.out (by omega))
        go_wp2_with (first
          | (go_at_call 97; go_loud (refine HST.out.mono ?_; rintro x w2 ⟨a2, c2, rfl, hia, hb⟩; have HIA := Lib.hid hia; have HB2 := Lib.hid (bt HB1.out hb); have HM2 := Lib.hid (HMT.out.on hb); have hdi := hia.bd; have HRA := Lib.hid (HRD.out w2 (by have := HC.out; omega) (by have := HC.out; omega)); rw [← HR'.out] at HRA; clear hia hb))
          | (go_at_call 98; go_loud (refine HRA.out.mono ?_; rintro x w' ⟨rfl, rfl⟩)))
        go_ret3
        exact ⟨_, a2, _, _, _, c2, 0, rfl, Lib.hid (.inl ⟨rfl, N, P, rfl, HM2.out, HNP.out, rfl, HIA.out, HRI.out⟩), HB2.out⟩
end Go.Proofs.YtappfdbmhgifcaaGreatDoor
/- Contracts of slices.Chunk over bytes, one at a time, and of slices.Collect of these: rows of one number each. -/
namespace Go.Proofs.YtappfdbmhgifcaaGreatDoor
open Go.ChangeShapes Go.WideShapes Go.ChangeAt Go.RowKit Go.Shelf GF
set_option linter.unusedVariables false
set_option linter.unusedSimpArgs false
set_option maxRecDepth 100000
attribute [local go_sem] Oper.semAt_some

/-- What the boxes hold: the slice, and the 1. -/
def ChR (n₀ Bx By b off N c : Nat) (W : World) : Prop := Bx < n₀ ∧ By < n₀ ∧ W.cell? ⟨Bx, 0, none⟩ = some (.slice (some ⟨b, off, none⟩) N c) ∧ W.cell? ⟨By, 0, none⟩ = some (.int .i64 1)
theorem ChR.below {n₀ Bx By b off N c : Nat} {W W' : World} (h : ChR n₀ Bx By b off N c W) (hb : Below n₀ W W') : ChR n₀ Bx By b off N c W' :=
  ⟨h.1, h.2.1, (hb.cell (p := ⟨Bx, 0, none⟩) h.1).trans h.2.2.1, (hb.cell (p := ⟨By, 0, none⟩) h.2.1).trans h.2.2.2⟩
end Go.Proofs.YtappfdbmhgifcaaGreatDoor
/- Contracts of mend's Rows, At and Wrong. -/
namespace Go.Proofs.YtappfdbmhgifcaaGreatDoor
open Go.ChangeShapes Go.WideShapes Go.ChangeAt Go.RowKit Go.Shelf GF
set_option linter.unusedVariables false
set_option linter.unusedSimpArgs false
set_option maxRecDepth 100000

/-- What a Mended is in memory: a field, the numbers of the polynomials P, the numbers of the wrong rows. -/
def MdM (w : World) (p : Addr) (P : List (List GF)) (W : List Nat) : Prop :=
  ∃ (g fb : Nat) (aN : Option Addr) (T cN : Nat) (N : List (List GF)) (aW : Option Addr) (cW : Nat), p = ⟨g, 0, none⟩ ∧ g < w.heap.size ∧ w.cell? ⟨g, 0, none⟩ = some (.pointer (some ⟨fb, 0, none⟩)) ∧ w.cell? ⟨g, 1, none⟩ = some (.slice aN T cN) ∧ w.cell? ⟨g, 2, none⟩ = some (.slice aW W.length cW) ∧
    Fld w fb ∧ Mat w aN T cN N ∧ NumP N P T P.length ∧ IA w aW W.length cW (zl W) ∧ 1 ≤ T ∧ T ≤ 255
theorem MdM.on {w w' : World} {p : Addr} {P : List (List GF)} {W : List Nat} (h : MdM w p P W) (hb : Below w.heap.size w w') : MdM w' p P W := by
  obtain ⟨g, fb, aN, T, cN, N, aW, cW, h1, h2, h3, h4, h5, h6, h7, h8, h9, h10⟩ := h
  exact ⟨g, fb, aN, T, cN, N, aW, cW, h1, by have := hb.size; omega, (hb.cell (p := ⟨g, 0, none⟩) h2).trans h3, (hb.cell (p := ⟨g, 1, none⟩) h2).trans h4, (hb.cell (p := ⟨g, 2, none⟩) h2).trans h5, h6.below hb, h7.on hb, h8, h9.on hb, h10⟩
/-! ## At, Wrong -/
theorem rows_same {X : List GF} {R P Q : List (List GF)} {L t n e : Nat} (hA : Apart X) (hP : P.length = n) (hQ : Q.length = n) (h1 : ∀ j, j < n → RightP X (colG R L j) t e (rw_ P j)) (h2 : ∀ j, j < n → RightP X (colG R L j) t e (rw_ Q j)) : P = Q := by
  apply List.ext_getElem (by omega)
  intro j k1 k2
  have h := RightP.uniq hA (h1 j (by omega)) (h2 j (by omega))
  unfold rw_ at h
  simpa [List.getD_eq_getElem?_getD, k1, k2] using h

/-! ## Rows -/
theorem rows_err (b L K : Nat) (t e : Int) (aX : Option Addr) (cX : Nat) (X : List GF) (aR : Option Addr) (cR : Nat) (R : List (List GF)) (w : World) (hf : Fld w b) (hX : Pa w aX L cX X) (hR : Mat w aR K cR R) (hE : colErr X K t e ≠ 0) :
    Calls Tryz.prog 40 #[.pointer (some ⟨b, 0, none⟩), .int .i64 t, .slice aX L cX, .slice aR K cR, .int .i64 e] w fun r w' => r = .returned (.tuple #[.pointer none, .int .i64 (colErr X K t e)]) ∧ Below w.heap.size w w' := by
  have HCK := Lib.hid (mchk_any b L K t e aX cX X w hf hX)
  have hbx := hX.bd; have hbr := hR.bd
  obtain ⟨er, her⟩ : ∃ er, er = colErr X K t e := ⟨_, rfl⟩
  rw [← her] at HCK hE
  rw [← her]
  have q : (er != 0) = true := by rw [bne_iff_ne]; exact hE
  clear hf hX hR hE her
  go_enter Tryz.func40, Tryz.ntmps40
  go_wp2_with (go_at_call 68; go_loud (refine HCK.out.mono ?_; rintro r w1 ⟨rfl, hb⟩; have HB1 := Lib.hid hb; clear hb))
  go_ret2
  exact ⟨rfl, HB1.out⟩
theorem chk_zero (b L t : Nat) (e : Int) (aX : Option Addr) (cX : Nat) (X : List GF) (w : World) (hf : Fld w b) (hX : Pa w aX L cX X) (he0 : 0 ≤ e) (ht : 1 ≤ t) (htL : t ≤ L) (hL : L ≤ 200) (hE : plErr X = 0) :
    Calls Tryz.prog 68 #[.pointer (some ⟨b, 0, none⟩), .int .i64 (t : Nat), .slice aX L cX, .int .i64 (L : Nat), .int .i64 e] w fun r w' => r = .returned (.int .i64 0) ∧ Below w.heap.size w w' := by
  have hl := hX.len
  have h := mchk_any b L L (t : Int) e aX cX X w hf hX
  rw [colErr_zero.2 ⟨hl, by omega, by omega, he0, by omega, hE⟩] at h
  exact h
set_option maxHeartbeats 1000000 in
theorem rows_ok (b L t n : Nat) (e : Int) (aX : Option Addr) (cX : Nat) (X : List GF) (aR : Option Addr) (cR : Nat) (R P : List (List GF)) (w : World) (hf : Fld w b) (hX : Pa w aX L cX X) (hR : Mat w aR L cR R) (he : (Lit.int .i64 e).wf = true) (he0 : 0 ≤ e) (ht : 1 ≤ t) (htL : t ≤ L) (hL : L ≤ 200) (hE : plErr X = 0) (hw : ∀ k, k < L → (rw_ R k).length = n) (hn : n ≤ 1000) (hPl : P.length = n) (hP : ∀ k, k < n → RightP X (colG R L k) t e.toNat (rw_ P k)) :
    Calls Tryz.prog 40 #[.pointer (some ⟨b, 0, none⟩), .int .i64 (t : Nat), .slice aX L cX, .slice aR L cR, .int .i64 e] w fun r w' => ∃ p, r = .returned (.tuple #[.pointer (some p), .int .i64 0]) ∧ MdM w' p P (wrI X R P n L) ∧ Below w.heap.size w w' := by
  have HCK := Lib.hid (chk_zero b L t e aX cX X w hf hX he0 ht htL hL hE)
  have hA : Apart X := (plErr_zero.1 hE).2.2
  have HR := Lib.hid hR; have HX := Lib.hid hX; have HF := Lib.hid hf
  have HW := Lib.hid hw
  have HC := Lib.hid (And.intro hA (And.intro ht (And.intro htL (And.intro hL (And.intro hn (And.intro he he0))))))
  have HP := Lib.hid (And.intro hPl hP)
  have hbx := hX.bd; have hbr := hR.bd
  clear hf hX hR he he0 ht htL hL hE hw hn hPl hP hA
  go_enter Tryz.func40, Tryz.ntmps40
  go_wp2_with (first
    | (go_at_call 68; go_loud (refine HCK.out.mono ?_; rintro r w1 ⟨rfl, hb⟩; have HB1 := Lib.hid hb; have HUN := Lib.hid (munev_any aR L cR R false w1 (HR.out.on hb) (fun k hk => (by rw [HW.out k hk]; exact HC.out.2.2.2.2.1)) ⟨(fun e => by cases e), fun ⟨i, hi, h⟩ => absurd (by rw [HW.out i hi, HW.out 0 (by omega)]) h⟩); clear hb))
    | (go_at_call 69; go_loud (refine HUN.out.mono ?_; rintro r w2 ⟨rfl, hb⟩; have HB2 := Lib.hid (bt HB1.out hb); have HME := Lib.hid (mended_any b L t n e aX cX X aR cR R w2 (HF.out.below HB2.out) (HX.out.on HB2.out) (HR.out.on HB2.out) HC.out.1 HC.out.2.1 HC.out.2.2.1 HC.out.2.2.2.1 HW.out HC.out.2.2.2.2.1 HC.out.2.2.2.2.2.1 HC.out.2.2.2.2.2.2); clear hb))
    | (go_at_call 70; go_loud (refine HME.out.mono ?_; rintro r w4 ⟨a1, a2, m1, c1, m2, c2, er, rfl, hs, hb⟩; obtain ⟨rfl, N, P', rfl, hmN, hnp, rfl, hia, hrp⟩ := (hs.out.resolve_right fun ⟨_, j, hj, h⟩ => h _ (HP.out.2 j hj)); obtain rfl : P' = P := rows_same HC.out.1 hnp.2.1 HP.out.1 hrp HP.out.2; have HMN := Lib.hid hmN; have HNP := Lib.hid hnp; have HIA := Lib.hid hia; have HB4 := Lib.hid (bt HB2.out hb); clear hs hb hmN hnp hrp hia))
    | (go_at_call 11; go_loud (refine (new_any _).mono ?_; rintro r w5 ⟨fb, rfl, hfb, hfl, hb⟩; have HFL := Lib.hid hfl; have HB5 := Lib.hid (bt HB4.out hb); have HB45 := Lib.hid hb; clear hb)))
  go_ret2
  have hal := (Below.refl w5.heap.size w5).alloc (Nat.le_refl _) (.cells #[.pointer (some ⟨fb, 0, none⟩), .slice a1 m1 c1, .slice a2 (wrI X R P' n L).length c2] 101)
  have hnp := HNP.out
  rw [← HP.out.1] at hnp
  refine ⟨_, rfl, ⟨w5.heap.size, fb, a1, m1, c1, N, a2, c2, rfl, by simp, by simp, by simp, by simp, HFL.out.below hal, (HMN.out.on HB45.out).on hal, hnp, (HIA.out.on HB45.out).on hal, HC.out.2.1, ?_⟩, bt HB5.out hal⟩
  have := HC.out
  omega
end Go.Proofs.YtappfdbmhgifcaaGreatDoor
/- Contracts of stripe's Gather. -/
namespace Go.Proofs.YtappfdbmhgifcaaGreatDoor
open Go.ChangeShapes Go.WideShapes Go.ChangeAt Go.RowKit Go.Shelf GF
set_option linter.unusedVariables false
set_option linter.unusedSimpArgs false
set_option maxRecDepth 100000

theorem cloneI_own (a : Option Addr) (L cap : Nat) (ps : List Int) (w : World) (hx : IA w a L cap ps) (hL : L ≤ 1000) (hz : ∀ z, z ∈ ps → 0 ≤ z ∧ z < 256) :
    Calls Tryz.prog 45 #[.slice a L cap] w fun e w' => ∃ a' c', e = .returned (.slice a' L c') ∧ w'.ownsRow w.heap.size 3 1 (.slice a' L c') L (ps.map (Value.int .i64)) ∧ Below w.heap.size w w' := by
  have HX := Lib.hid hx
  have HZ := Lib.hid hz
  have hcap := hx.bd
  have HPL := Lib.hid hx.1
  clear hx hz
  rcases a with _ | ad
  · obtain rfl : cap = 0 := HX.out.2.2.2.1 rfl
    obtain rfl : L = 0 := by omega
    obtain rfl : ps = [] := List.eq_nil_of_length_eq_zero HPL.out
    have he := eqlI_nil
    go_enter Tryz.func45, Tryz.ntmps45
    go_wp2
    go_ret
    exact ⟨_, _, rfl, World.ownsRow_nil _ _ _ _, Below.refl _ _⟩
  · obtain ⟨i5, hi, hz0, hz1, hz2⟩ := info_parts infoI1
    have HI := Lib.hid (And.intro hi (And.intro hz0 (And.intro hz1 hz2)))
    clear hi hz0 hz1 hz2
    have he := fun w => eqlI_some w ad L cap
    have HE0 : Hid ((w.alloc (.cells #[] 3)).ownsRow w.heap.size 3 1 (.slice (some ⟨w.heap.size, 0, none⟩) 0 0) 0 (([] : List Int).map (Value.int .i64))) := Lib.hid (own_emptyZ w 3)
    go_enter Tryz.func45, Tryz.ntmps45
    go_wp2_with ((with_reducible show wpList _ _ _ (⟨some 7, _, _, _, _, _⟩ :: _) _ _); go_loud (refine wpList_append_ia _ rfl (.tmp 5) (.tmp 6) 39 rfl w.heap.size 3 i5 Tryz.underlying39 HI.out.1 HI.out.2.1 HI.out.2.2.1 HI.out.2.2.2 _ 0 ([] : List Int) rfl HE0.out (some ad) L cap ps rfl (HX.out.on ((Below.refl _ _).alloc (Nat.le_refl _) _)) (by omega) (by simp) ?_; intro v1 wc hown1 hg1; rw [Nat.zero_add, List.nil_append] at hown1; have hBc := ((Below.refl _ w).alloc (Nat.le_refl _) _).grown hg1 (by simp) (own_block_le _ _ _); obtain ⟨a9, c9, hv, hia⟩ := IA.own hown1 HZ.out; subst hv; have HO := Lib.hid hown1; have HB := Lib.hid hBc; clear hown1 hBc hg1 hia))
    go_ret
    exact ⟨_, _, rfl, HO.out, HB.out⟩
theorem wrong_own (p : Addr) (P : List (List GF)) (W : List Nat) (w : World) (h : MdM w p P W) (hW : W.length ≤ 255) (hx : ∀ x, x ∈ W → x < 256) :
    Calls Tryz.prog 41 #[.pointer (some p)] w fun e w' => ∃ a c, e = .returned (.slice a W.length c) ∧ w'.ownsRow w.heap.size 3 1 (.slice a W.length c) W.length ((zl W).map (Value.int .i64)) ∧ Below w.heap.size w w' := by
  obtain ⟨g, fb, aN, T, cN, N, aW, cW, rfl, hg, h1, h2, h3, hf, hN, hn, hi, hT1, hT2⟩ := h
  have HC := Lib.hid (cloneI_own aW W.length cW (zl W) w hi (by omega) (fun z hz => by
    obtain ⟨x, hx', rfl⟩ := List.mem_map.1 hz
    have := hx x hx'
    omega))
  have hbd := hi.bd
  clear hf hN hn hi hT1 hT2 hx hW
  go_enter Tryz.func41, Tryz.ntmps41
  go_wp2_with (go_at_call 45; go_loud (refine HC.out.mono ?_; rintro e w1 ⟨a1, c1, rfl, hia, hb⟩; have HI := Lib.hid hia; have HB := Lib.hid hb; clear hia hb))
  go_ret
  exact ⟨_, _, rfl, HI.out, HB.out⟩
/-! ## a stripe in memory -/
def StM (w : World) (p : Addr) (m : Int) (t : Nat) (Q : List (List GF)) (ws : List Int) : Prop :=
  ∃ (g : Nat) (pm : Addr) (W : List Nat) (aW : Option Addr) (cW : Nat), p = ⟨g, 0, none⟩ ∧ g < w.heap.size ∧ w.cell? ⟨g, 0, none⟩ = some (.int .i64 m) ∧ w.cell? ⟨g, 1, none⟩ = some (.int .i64 (t : Nat)) ∧ w.cell? ⟨g, 2, none⟩ = some (.pointer (some pm)) ∧ w.cell? ⟨g, 3, none⟩ = some (.slice aW ws.length cW) ∧ MdM w pm Q W ∧ IA w aW ws.length cW ws
theorem StM.on {w w' : World} {p : Addr} {m : Int} {t : Nat} {Q : List (List GF)} {ws : List Int} (h : StM w p m t Q ws) (hb : Below w.heap.size w w') : StM w' p m t Q ws := by
  obtain ⟨g, pm, W, aW, cW, h1, h2, h3, h4, h5, h6, h7, h8⟩ := h
  exact ⟨g, pm, W, aW, cW, h1, by have := hb.size; omega, (hb.cell (p := ⟨g, 0, none⟩) h2).trans h3, (hb.cell (p := ⟨g, 1, none⟩) h2).trans h4, (hb.cell (p := ⟨g, 2, none⟩) h2).trans h5, (hb.cell (p := ⟨g, 3, none⟩) h2).trans h6, h7.on hb, h8.on hb⟩
theorem rowV_le {m : Int} {t : Nat} (ht : 1 ≤ t) : rowV m t ≤ 473 := by
  unfold rowV
  split
  · omega
  · exact (ceil473 ht).2.1
/-- The places that were there, ahead of place k; the rows' numbers from it on. -/
def wrV17 (ps : List Int) (W : List Nat) (k : Nat) : List Value := ((W.take k).map fun i => Value.int .i64 (ps.getD i 0)) ++ (W.drop k).map fun (i : Nat) => Value.int .i64 (i : Int)
theorem wrV17_zero (ps : List Int) (W : List Nat) : wrV17 ps W 0 = (zl W).map (Value.int .i64) := by
  unfold wrV17 zl; rw [List.take_zero, List.drop_zero, List.map_map]; rfl
theorem wrV17_all (ps : List Int) (W : List Nat) : wrV17 ps W W.length = (W.map fun i => ps.getD i 0).map (Value.int .i64) := by
  unfold wrV17; rw [List.take_length, List.drop_length, List.map_nil, List.append_nil, List.map_map]; rfl
theorem wrV17_at {ps : List Int} {W : List Nat} {k : Nat} (h : k < W.length) : (wrV17 ps W k)[k]? = some (.int .i64 ((W.getD k 0 : Nat) : Int)) := by
  unfold wrV17
  have hl : ((W.take k).map fun i => Value.int .i64 (ps.getD i 0)).length = k := by rw [List.length_map, List.length_take]; omega
  rw [List.getElem?_append_right (by omega), hl, Nat.sub_self]
  simp [List.getD_eq_getElem?_getD, h]
theorem wrV17_set {ps : List Int} {W : List Nat} {k : Nat} (h : k < W.length) : (wrV17 ps W k).set k (.int .i64 (ps.getD (W.getD k 0) 0)) = wrV17 ps W (k + 1) := by
  unfold wrV17
  have hl : ((W.take k).map fun i => Value.int .i64 (ps.getD i 0)).length = k := by rw [List.length_map, List.length_take]; omega
  have e : W.getD k 0 = W[k] := by simp [List.getD_eq_getElem?_getD, h]
  rw [e, List.set_append_right _ _ (by omega), hl, Nat.sub_self, List.drop_eq_getElem_cons h, List.map_cons, List.set_cons_zero, List.take_add_one, List.getElem?_eq_getElem h]
  simp only [Option.toList_some, List.map_append, List.map_cons, List.map_nil, List.append_assoc, List.cons_append, List.nil_append]
theorem own_some17 {w : World} {B n c : Nat} {e : TypeId} {a : Option Addr} {vs : List Value} (h : w.ownsRow B e 1 (.slice a n c) n vs) (h0 : 0 < n) : ∃ g, a = some ⟨g, 0, none⟩ := by
  rcases h.2 with ⟨h1, h2⟩ | ⟨g, c', cs, h1, _⟩
  · cases h1
    have hl := h.1
    rw [h2] at hl
    simp at hl
    omega
  · cases h1
    exact ⟨g, rfl⟩
theorem own_bd17 {w : World} {B n c : Nat} {e : TypeId} {a : Option Addr} {vs : List Value} (h : w.ownsRow B e 1 (.slice a n c) n vs) : n ≤ c ∧ c ≤ 9223372036854775807 := by
  rcases h.2 with ⟨h1, h2⟩ | ⟨g, c', cs, h1, h2, h3, h4, h5, _⟩
  · cases h1; exact ⟨Nat.le_refl _, by omega⟩
  · cases h1; unfold maxLen at h5; exact ⟨h4, by omega⟩
theorem wrI_mem17 {X : List GF} {R P : List (List GF)} {n N x : Nat} (h : x ∈ wrI X R P n N) : x < N := by
  unfold wrI at h
  exact List.mem_range.1 (List.mem_filter.1 h).1

/-! ## Gather: what is refused -/
theorem gat_nil (m t n c : Int) (aX : Option Addr) (N cX : Nat) (aR : Option Addr) (K cR : Nat) (w : World) :
    Calls Tryz.prog 17 #[.agg #[.int .i64 m, .int .i64 t, .int .i64 n, .int .i64 c], .pointer none, .slice aX N cX, .slice aR K cR] w fun e w' => e = .returned (.tuple #[.pointer none, .int .i64 1]) ∧ Below w.heap.size w w' := by
  have HA := Lib.hid (bxS w #[.int .i64 m, .int .i64 t, .int .i64 n, .int .i64 c] 25)
  go_enter Tryz.func17, Tryz.ntmps17
  go_wp2
  go_ret2
  exact ⟨rfl, HA.out⟩
theorem gat_arg (b : Nat) (m t n c : Int) (aX : Option Addr) (N cX : Nat) (aR : Option Addr) (K cR : Nat) (w : World) (h1 : N ≤ cX ∧ cX ≤ 9223372036854775807) (h2 : K ≤ cR ∧ cR ≤ 9223372036854775807) (hne : N ≠ K) :
    Calls Tryz.prog 17 #[.agg #[.int .i64 m, .int .i64 t, .int .i64 n, .int .i64 c], .pointer (some ⟨b, 0, none⟩), .slice aX N cX, .slice aR K cR] w fun e w' => e = .returned (.tuple #[.pointer none, .int .i64 1]) ∧ Below w.heap.size w w' := by
  have HA := Lib.hid (bxS w #[.int .i64 m, .int .i64 t, .int .i64 n, .int .i64 c] 25)
  have q : ((N : Int) != (K : Int)) = true := by rw [bne_iff_ne]; omega
  clear hne
  go_enter Tryz.func17, Tryz.ntmps17
  go_wp2
  go_ret2
  exact ⟨rfl, HA.out⟩
theorem gat_not (b : Nat) (m t n c : Int) (aX : Option Addr) (N cX : Nat) (aR : Option Addr) (cR : Nat) (w : World) (h1 : N ≤ cX ∧ cX ≤ 9223372036854775807) (h2 : N ≤ cR ∧ cR ≤ 9223372036854775807) (h : rightB m t n c = false) :
    Calls Tryz.prog 17 #[.agg #[.int .i64 m, .int .i64 t, .int .i64 n, .int .i64 c], .pointer (some ⟨b, 0, none⟩), .slice aX N cX, .slice aR N cR] w fun e w' => e = .returned (.tuple #[.pointer none, .int .i64 2]) ∧ Below w.heap.size w w' := by
  have HA := Lib.hid (bxS w #[.int .i64 m, .int .i64 t, .int .i64 n, .int .i64 c] 25)
  have HR := Lib.hid (right_any m t n c (w.alloc (.cells #[.int .i64 m, .int .i64 t, .int .i64 n, .int .i64 c] 25)))
  rw [h] at HR
  have q : ((N : Int) != (N : Int)) = false := by simp
  clear h
  go_enter Tryz.func17, Tryz.ntmps17
  go_wp2_with (go_at_call 22; go_loud (refine HR.out.mono ?_; rintro e w1 ⟨rfl, hb⟩; have HB1 := Lib.hid (bt HA.out hb); clear hb))
  go_ret2
  exact ⟨rfl, HB1.out⟩
theorem gat_out (b : Nat) (m : Int) (t n c : Nat) (aX : Option Addr) (N cX : Nat) (ps : List Int) (aR : Option Addr) (cR : Nat) (R : List (List GF)) (w : World) (h : Sh m t n c) (hX : IA w aX N cX ps) (hR : Mat w aR N cR R) (hN : N ≤ 255) (hwd : ∀ k, k < N → (rw_ R k).length ≤ 1000) (hex : ∃ i, i < N ∧ outB n (ps.getD i 0) = true) :
    Calls Tryz.prog 17 #[.agg #[.int .i64 m, .int .i64 t, .int .i64 n, .int .i64 c], .pointer (some ⟨b, 0, none⟩), .slice aX N cX, .slice aR N cR] w fun e w' => e = .returned (.tuple #[.pointer none, .int .i64 2]) ∧ Below w.heap.size w w' := by
  have HA := Lib.hid (bxS w #[.int .i64 m, .int .i64 t, .int .i64 n, .int .i64 c] 25)
  have HX := Lib.hid (Bx.new w m t n c)
  have HR := Lib.hid (right_any m t n c (w.alloc (.cells #[.int .i64 m, .int .i64 t, .int .i64 n, .int .i64 c] 25)))
  rw [h.right] at HR
  have q : ((N : Int) != (N : Int)) = false := by simp
  have hb1 := hX.bd
  have hb2 := hR.bd
  have HOUT := Lib.hid (show ∀ W : World, Below w.heap.size w W → Calls Tryz.prog 37 #[.slice aX N cX, .func (.func 38) #[.agg #[.int .i64 m, .int .i64 t, .int .i64 n, .int .i64 c]] #[]] W fun e w' => e = .returned (.bool true) ∧ Below W.heap.size W w' from fun W hW => outCon m t n c aX N cX ps true W (hX.on hW) hN ⟨fun _ => hex, fun _ => rfl⟩)
  clear h hX hR hex hwd
  go_enter Tryz.func17, Tryz.ntmps17
  go_wp2_with (first
    | (go_at_call 22; go_loud (refine HR.out.mono ?_; rintro e w1 ⟨rfl, hb⟩; have HB1 := Lib.hid (bt HA.out hb); have HX1 := Lib.hid (HX.out.on hb); have x0 := HX1.out.c0; have x1 := HX1.out.c1; have x2 := HX1.out.c2; have x3 := HX1.out.c3; have HCO := Lib.hid (HOUT.out w1 HB1.out); clear hb))
    | (go_at_call 37; go_loud (refine HCO.out.mono ?_; rintro e w2 ⟨rfl, hb⟩; have HB2 := Lib.hid (bt HB1.out hb); have HX2 := Lib.hid (HX1.out.on hb); have y0 := HX2.out.c0; have y1 := HX2.out.c1; have y2 := HX2.out.c2; have y3 := HX2.out.c3; clear hb)))
  go_ret2
  exact ⟨rfl, HB2.out⟩
theorem gat_form (b : Nat) (m : Int) (t n c : Nat) (aX : Option Addr) (N cX : Nat) (ps : List Int) (aR : Option Addr) (cR : Nat) (R : List (List GF)) (w : World) (h : Sh m t n c) (hX : IA w aX N cX ps) (hR : Mat w aR N cR R) (hN : N ≤ 255) (hwd : ∀ k, k < N → (rw_ R k).length ≤ 1000) (hin : ∀ i, i < N → 1 ≤ ps.getD i 0 ∧ ps.getD i 0 ≤ (n : Int)) (hex : ∃ i, i < N ∧ (rw_ R i).length ≠ rowV m t) :
    Calls Tryz.prog 17 #[.agg #[.int .i64 m, .int .i64 t, .int .i64 n, .int .i64 c], .pointer (some ⟨b, 0, none⟩), .slice aX N cX, .slice aR N cR] w fun e w' => e = .returned (.tuple #[.pointer none, .int .i64 3]) ∧ Below w.heap.size w w' := by
  have HA := Lib.hid (bxS w #[.int .i64 m, .int .i64 t, .int .i64 n, .int .i64 c] 25)
  have HX := Lib.hid (Bx.new w m t n c)
  have HR := Lib.hid (right_any m t n c (w.alloc (.cells #[.int .i64 m, .int .i64 t, .int .i64 n, .int .i64 c] 25)))
  rw [h.right] at HR
  have q : ((N : Int) != (N : Int)) = false := by simp
  have hb1 := hX.bd
  have hb2 := hR.bd
  have HOUT := Lib.hid (show ∀ W : World, Below w.heap.size w W → Calls Tryz.prog 37 #[.slice aX N cX, .func (.func 38) #[.agg #[.int .i64 m, .int .i64 t, .int .i64 n, .int .i64 c]] #[]] W fun e w' => e = .returned (.bool false) ∧ Below W.heap.size W w' from fun W hW => outCon m t n c aX N cX ps false W (hX.on hW) hN ⟨(fun e => by cases e), fun ⟨i, hi, e⟩ => by have := hin i hi; unfold outB at e; simp only [Bool.or_eq_true, decide_eq_true_eq] at e; omega⟩)
  have HUN := Lib.hid (show ∀ W : World, Below w.heap.size w W → Calls Tryz.prog 39 #[.agg #[.int .i64 m, .int .i64 t, .int .i64 n, .int .i64 c], .slice aR N cR] W fun e w' => e = .returned (.bool true) ∧ Below W.heap.size W w' from fun W hW => suneven_any m t n c aR N cR R true W h (hR.on hW) hwd ⟨fun _ => hex, fun _ => rfl⟩)
  clear h hX hR hex hwd hin
  go_enter Tryz.func17, Tryz.ntmps17
  go_wp2_with (first
    | (go_at_call 22; go_loud (refine HR.out.mono ?_; rintro e w1 ⟨rfl, hb⟩; have HB1 := Lib.hid (bt HA.out hb); have HX1 := Lib.hid (HX.out.on hb); have x0 := HX1.out.c0; have x1 := HX1.out.c1; have x2 := HX1.out.c2; have x3 := HX1.out.c3; have HCO := Lib.hid (HOUT.out w1 HB1.out); clear hb))
    | (go_at_call 37; go_loud (refine HCO.out.mono ?_; rintro e w2 ⟨rfl, hb⟩; have HB2 := Lib.hid (bt HB1.out hb); have HX2 := Lib.hid (HX1.out.on hb); have y0 := HX2.out.c0; have y1 := HX2.out.c1; have y2 := HX2.out.c2; have y3 := HX2.out.c3; have HU := Lib.hid (HUN.out w2 HB2.out); clear hb))
    | (go_at_call 39; go_loud (refine HU.out.mono ?_; rintro e w3 ⟨rfl, hb⟩; have HB3 := Lib.hid (bt HB2.out hb); have HX3 := Lib.hid (HX2.out.on hb); have z0 := HX3.out.c0; have z1 := HX3.out.c1; have z2 := HX3.out.c2; have z3 := HX3.out.c3; clear hb)))
  go_ret2
  exact ⟨rfl, HB3.out⟩
theorem gat_few (b : Nat) (m : Int) (t n c : Nat) (aX : Option Addr) (N cX : Nat) (ps : List Int) (aR : Option Addr) (cR : Nat) (R : List (List GF)) (w : World) (h : Sh m t n c) (hX : IA w aX N cX ps) (hR : Mat w aR N cR R) (hN : N ≤ 255) (hwd : ∀ k, k < N → (rw_ R k).length ≤ 1000) (hin : ∀ i, i < N → 1 ≤ ps.getD i 0 ∧ ps.getD i 0 ≤ (n : Int)) (hw : ∀ i, i < N → (rw_ R i).length = rowV m t) (hlt : N < t) :
    Calls Tryz.prog 17 #[.agg #[.int .i64 m, .int .i64 t, .int .i64 n, .int .i64 c], .pointer (some ⟨b, 0, none⟩), .slice aX N cX, .slice aR N cR] w fun e w' => e = .returned (.tuple #[.pointer none, .int .i64 12]) ∧ Below w.heap.size w w' := by
  have HA := Lib.hid (bxS w #[.int .i64 m, .int .i64 t, .int .i64 n, .int .i64 c] 25)
  have HX := Lib.hid (Bx.new w m t n c)
  have HR := Lib.hid (right_any m t n c (w.alloc (.cells #[.int .i64 m, .int .i64 t, .int .i64 n, .int .i64 c] 25)))
  rw [h.right] at HR
  have q : ((N : Int) != (N : Int)) = false := by simp
  have hb1 := hX.bd
  have hb2 := hR.bd
  have HOUT := Lib.hid (show ∀ W : World, Below w.heap.size w W → Calls Tryz.prog 37 #[.slice aX N cX, .func (.func 38) #[.agg #[.int .i64 m, .int .i64 t, .int .i64 n, .int .i64 c]] #[]] W fun e w' => e = .returned (.bool false) ∧ Below W.heap.size W w' from fun W hW => outCon m t n c aX N cX ps false W (hX.on hW) hN ⟨(fun e => by cases e), fun ⟨i, hi, e⟩ => by have := hin i hi; unfold outB at e; simp only [Bool.or_eq_true, decide_eq_true_eq] at e; omega⟩)
  have HUN := Lib.hid (show ∀ W : World, Below w.heap.size w W → Calls Tryz.prog 39 #[.agg #[.int .i64 m, .int .i64 t, .int .i64 n, .int .i64 c], .slice aR N cR] W fun e w' => e = .returned (.bool false) ∧ Below W.heap.size W w' from fun W hW => suneven_any m t n c aR N cR R false W h (hR.on hW) hwd ⟨(fun e => by cases e), fun ⟨i, hi, e⟩ => absurd (hw i hi) e⟩)
  have q2 : (N : Int) < (t : Int) := by omega
  clear h hX hR hw hwd hin hlt
  go_enter Tryz.func17, Tryz.ntmps17
  go_wp2_with (first
    | (go_at_call 22; go_loud (refine HR.out.mono ?_; rintro e w1 ⟨rfl, hb⟩; have HB1 := Lib.hid (bt HA.out hb); have HX1 := Lib.hid (HX.out.on hb); have x0 := HX1.out.c0; have x1 := HX1.out.c1; have x2 := HX1.out.c2; have x3 := HX1.out.c3; have HCO := Lib.hid (HOUT.out w1 HB1.out); clear hb))
    | (go_at_call 37; go_loud (refine HCO.out.mono ?_; rintro e w2 ⟨rfl, hb⟩; have HB2 := Lib.hid (bt HB1.out hb); have HX2 := Lib.hid (HX1.out.on hb); have y0 := HX2.out.c0; have y1 := HX2.out.c1; have y2 := HX2.out.c2; have y3 := HX2.out.c3; have HU := Lib.hid (HUN.out w2 HB2.out); clear hb))
    | (go_at_call 39; go_loud (refine HU.out.mono ?_; rintro e w3 ⟨rfl, hb⟩; have HB3 := Lib.hid (bt HB2.out hb); have HX3 := Lib.hid (HX2.out.on hb); have z0 := HX3.out.c0; have z1 := HX3.out.c1; have z2 := HX3.out.c2; have z3 := HX3.out.c3; clear hb)))
  go_ret2
  exact ⟨rfl, HB3.out⟩
theorem gat_same (b : Nat) (m : Int) (t n c : Nat) (aX : Option Addr) (N cX : Nat) (ps : List Int) (aR : Option Addr) (cR : Nat) (R : List (List GF)) (w : World) (hf : Fld w b) (h : Sh m t n c) (hX : IA w aX N cX ps) (hR : Mat w aR N cR R) (hN : N ≤ 255) (hwd : ∀ k, k < N → (rw_ R k).length ≤ 1000) (hin : ∀ i, i < N → 1 ≤ ps.getD i 0 ∧ ps.getD i 0 ≤ (n : Int)) (hw : ∀ i, i < N → (rw_ R i).length = rowV m t) (hNt : t ≤ N) (hNn : N ≤ n) (hA : ¬ Apart (gZ ps)) :
    Calls Tryz.prog 17 #[.agg #[.int .i64 m, .int .i64 t, .int .i64 n, .int .i64 c], .pointer (some ⟨b, 0, none⟩), .slice aX N cX, .slice aR N cR] w fun e w' => e = .returned (.tuple #[.pointer none, .int .i64 6]) ∧ Below w.heap.size w w' := by
  have HA := Lib.hid (bxS w #[.int .i64 m, .int .i64 t, .int .i64 n, .int .i64 c] 25)
  have HX := Lib.hid (Bx.new w m t n c)
  have HR := Lib.hid (right_any m t n c (w.alloc (.cells #[.int .i64 m, .int .i64 t, .int .i64 n, .int .i64 c] 25)))
  rw [h.right] at HR
  have q : ((N : Int) != (N : Int)) = false := by simp
  have hb1 := hX.bd
  have hb2 := hR.bd
  have HOUT := Lib.hid (show ∀ W : World, Below w.heap.size w W → Calls Tryz.prog 37 #[.slice aX N cX, .func (.func 38) #[.agg #[.int .i64 m, .int .i64 t, .int .i64 n, .int .i64 c]] #[]] W fun e w' => e = .returned (.bool false) ∧ Below W.heap.size W w' from fun W hW => outCon m t n c aX N cX ps false W (hX.on hW) hN ⟨(fun e => by cases e), fun ⟨i, hi, e⟩ => by have := hin i hi; unfold outB at e; simp only [Bool.or_eq_true, decide_eq_true_eq] at e; omega⟩)
  have HUN := Lib.hid (show ∀ W : World, Below w.heap.size w W → Calls Tryz.prog 39 #[.agg #[.int .i64 m, .int .i64 t, .int .i64 n, .int .i64 c], .slice aR N cR] W fun e w' => e = .returned (.bool false) ∧ Below W.heap.size W w' from fun W hW => suneven_any m t n c aR N cR R false W h (hR.on hW) hwd ⟨(fun e => by cases e), fun ⟨i, hi, e⟩ => absurd (hw i hi) e⟩)
  have q2 : ¬ (N : Int) < (t : Int) := by omega
  have q3 : ¬ (n : Int) < (N : Int) := by omega
  have HXX := Lib.hid hX
  have HRR := Lib.hid hR
  have HF := Lib.hid hf
  have HS := Lib.hid h
  have HC := Lib.hid (And.intro hN (And.intro hNt (And.intro hNn (And.intro hwd (And.intro hw hin)))))
  have HE := Lib.hid (show colErr (gZ ps) N t c = 6 by
    have hl : (gZ ps).length = N := by rw [gZ_len]; exact hX.1
    have hs := h.2
    unfold colErr plErr
    rw [if_neg (by omega), if_neg (by omega), if_neg (by omega), if_neg (by omega), if_neg (by omega), if_neg hA])
  clear h hX hR hw hwd hin hNt hNn hf hA
  go_enter Tryz.func17, Tryz.ntmps17
  go_upto_region 11 with (first
    | (go_at_call 22; go_loud (refine HR.out.mono ?_; rintro e w1 ⟨rfl, hb⟩; have HB1 := Lib.hid (bt HA.out hb); have HX1 := Lib.hid (HX.out.on hb); have x0 := HX1.out.c0; have x1 := HX1.out.c1; have x2 := HX1.out.c2; have x3 := HX1.out.c3; have HCO := Lib.hid (HOUT.out w1 HB1.out); clear hb))
    | (go_at_call 37; go_loud (refine HCO.out.mono ?_; rintro e w2 ⟨rfl, hb⟩; have HB2 := Lib.hid (bt HB1.out hb); have HX2 := Lib.hid (HX1.out.on hb); have y0 := HX2.out.c0; have y1 := HX2.out.c1; have y2 := HX2.out.c2; have y3 := HX2.out.c3; have HU := Lib.hid (HUN.out w2 HB2.out); clear hb))
    | (go_at_call 39; go_loud (refine HU.out.mono ?_; rintro e w3 ⟨rfl, hb⟩; have HB3 := Lib.hid (bt HB2.out hb); have HX3 := Lib.hid (HX2.out.on hb); have z0 := HX3.out.c0; have z1 := HX3.out.c1; have z2 := HX3.out.c2; have z3 := HX3.out.c3; clear hb)))
  have u0 : ∀ W, Below w3.heap.size w3 W → W.cell? ⟨w.heap.size, 0, none⟩ = some (.int .i64 m) := fun W hW => (HX3.out.on hW).c0
  have u1 : ∀ W, Below w3.heap.size w3 W → W.cell? ⟨w.heap.size, 1, none⟩ = some (.int .i64 (t : Nat)) := fun W hW => (HX3.out.on hW).c1
  have u2 : ∀ W, Below w3.heap.size w3 W → W.cell? ⟨w.heap.size, 2, none⟩ = some (.int .i64 (n : Nat)) := fun W hW => (HX3.out.on hW).c2
  have u3 : ∀ W, Below w3.heap.size w3 W → W.cell? ⟨w.heap.size, 3, none⟩ = some (.int .i64 (c : Nat)) := fun W hW => (HX3.out.on hW).c3
  have HNU := Lib.hid (show ∀ W : World, Below w3.heap.size w3 W → Calls Tryz.prog 26 #[.slice aX N cX] W fun e w' => ∃ g, e = .returned (.slice (some ⟨g, 0, none⟩) N N) ∧ Pa w' (some ⟨g, 0, none⟩) N N (gZ ps) ∧ Below w3.heap.size w3 w' from fun W hW => (snumbers_any aX N cX ps W (HXX.out.on (bt HB3.out hW)) HC.out.1 (fun k hk => by have := HC.out.2.2.2.2.2 k hk; have := HS.out.2; omega)).mono fun e w' ⟨g, h1, h2, h3⟩ => ⟨g, h1, h2, bt hW h3⟩)
  go_region_held (fun W => Below w3.heap.size w3 W) (first | assumption | exact (Below.refl _ _).drew | (refine Below.drew ?_; assumption))
    (first
      | (go_at_call 26; go_loud (refine (HNU.out _ (by first | assumption | exact (Below.refl _ _).drew)).mono ?_; rintro e w4 ⟨g4, rfl, hp4, hbw4⟩; have HB4 := Lib.hid (bt HB3.out hbw4); have HRO := Lib.hid (rows_err b N N t c (some ⟨g4, 0, none⟩) N (gZ ps) aR cR R w4 (HF.out.below HB4.out) hp4 (HRR.out.on HB4.out) (by rw [HE.out]; decide)); rw [HE.out] at HRO; clear hp4))
      | (go_at_call 40; go_loud (refine HRO.out.mono ?_; rintro e w5 ⟨rfl, hb5⟩; have hbw5 := bt hbw4 hb5; have HB5 := Lib.hid (bt HB3.out hbw5); clear hb5)))
  all_goals
    go_wp2
    go_ret2
    exact ⟨rfl, HB5.out⟩
theorem wf_nat {k : Nat} (h : k ≤ 1000) : (Lit.int .i64 (k : Int)).wf = true := i64_wfV (by omega) (by omega)
set_option maxHeartbeats 2000000 in
theorem gat_ok (b : Nat) (m : Int) (t n c : Nat) (aX : Option Addr) (N cX : Nat) (ps : List Int) (aR : Option Addr) (cR : Nat) (R : List (List GF)) (w : World) (hf : Fld w b) (h : Sh m t n c) (hX : IA w aX N cX ps) (hR : Mat w aR N cR R) (hN : N ≤ 255) (hwd : ∀ k, k < N → (rw_ R k).length ≤ 1000) (hin : ∀ i, i < N → 1 ≤ ps.getD i 0 ∧ ps.getD i 0 ≤ (n : Int)) (hw : ∀ i, i < N → (rw_ R i).length = rowV m t) (hNt : t ≤ N) (hNn : N ≤ n) (Q : List (List GF)) (hN2 : N ≤ 200) (hA : Apart (gZ ps)) (hQl : Q.length = rowV m t) (hQ : ∀ k, k < rowV m t → RightP (gZ ps) (colG R N k) t c (rw_ Q k)) :
    Calls Tryz.prog 17 #[.agg #[.int .i64 m, .int .i64 t, .int .i64 n, .int .i64 c], .pointer (some ⟨b, 0, none⟩), .slice aX N cX, .slice aR N cR] w fun e w' => ∃ p, e = .returned (.tuple #[.pointer (some p), .int .i64 0]) ∧ StM w' p m t Q ((wrI (gZ ps) R Q (rowV m t) N).map fun i => ps.getD i 0) ∧ Below w.heap.size w w' := by
  have HA := Lib.hid (bxS w #[.int .i64 m, .int .i64 t, .int .i64 n, .int .i64 c] 25)
  have HX := Lib.hid (Bx.new w m t n c)
  have HR := Lib.hid (right_any m t n c (w.alloc (.cells #[.int .i64 m, .int .i64 t, .int .i64 n, .int .i64 c] 25)))
  rw [h.right] at HR
  have q : ((N : Int) != (N : Int)) = false := by simp
  have hb1 := hX.bd
  have hb2 := hR.bd
  have HOUT := Lib.hid (show ∀ W : World, Below w.heap.size w W → Calls Tryz.prog 37 #[.slice aX N cX, .func (.func 38) #[.agg #[.int .i64 m, .int .i64 t, .int .i64 n, .int .i64 c]] #[]] W fun e w' => e = .returned (.bool false) ∧ Below W.heap.size W w' from fun W hW => outCon m t n c aX N cX ps false W (hX.on hW) hN ⟨(fun e => by cases e), fun ⟨i, hi, e⟩ => by have := hin i hi; unfold outB at e; simp only [Bool.or_eq_true, decide_eq_true_eq] at e; omega⟩)
  have HUN := Lib.hid (show ∀ W : World, Below w.heap.size w W → Calls Tryz.prog 39 #[.agg #[.int .i64 m, .int .i64 t, .int .i64 n, .int .i64 c], .slice aR N cR] W fun e w' => e = .returned (.bool false) ∧ Below W.heap.size W w' from fun W hW => suneven_any m t n c aR N cR R false W h (hR.on hW) hwd ⟨(fun e => by cases e), fun ⟨i, hi, e⟩ => absurd (hw i hi) e⟩)
  have hpl : plErr (gZ ps) = 0 := plErr_zero.2 ⟨by rw [gZ_len, hX.1]; have := h.2; omega, by rw [gZ_len, hX.1]; exact hN, hA⟩
  have q2 : ¬ (N : Int) < (t : Int) := by omega
  have q3 : ¬ (n : Int) < (N : Int) := by omega
  have HXX := Lib.hid hX
  have HRR := Lib.hid hR
  have HF := Lib.hid hf
  have HS := Lib.hid h
  have HC := Lib.hid (And.intro hN (And.intro hNt (And.intro hNn (And.intro hwd (And.intro hw hin)))))
  have HE := Lib.hid (And.intro hN2 (And.intro hpl (And.intro hQl (show ∀ k, k < rowV m t → RightP (gZ ps) (colG R N k) t (c : Int).toNat (rw_ Q k) from hQ))))
  clear h hX hR hw hwd hin hNt hNn hf hA hpl hQ hQl hN2
  go_enter Tryz.func17, Tryz.ntmps17
  go_upto_region 11 with (first
    | (go_at_call 22; go_loud (refine HR.out.mono ?_; rintro e w1 ⟨rfl, hb⟩; have HB1 := Lib.hid (bt HA.out hb); have HX1 := Lib.hid (HX.out.on hb); have x0 := HX1.out.c0; have x1 := HX1.out.c1; have x2 := HX1.out.c2; have x3 := HX1.out.c3; have HCO := Lib.hid (HOUT.out w1 HB1.out); clear hb))
    | (go_at_call 37; go_loud (refine HCO.out.mono ?_; rintro e w2 ⟨rfl, hb⟩; have HB2 := Lib.hid (bt HB1.out hb); have HX2 := Lib.hid (HX1.out.on hb); have y0 := HX2.out.c0; have y1 := HX2.out.c1; have y2 := HX2.out.c2; have y3 := HX2.out.c3; have HU := Lib.hid (HUN.out w2 HB2.out); clear hb))
    | (go_at_call 39; go_loud (refine HU.out.mono ?_; rintro e w3 ⟨rfl, hb⟩; have HB3 := Lib.hid (bt HB2.out hb); have HX3 := Lib.hid (HX2.out.on hb); have z0 := HX3.out.c0; have z1 := HX3.out.c1; have z2 := HX3.out.c2; have z3 := HX3.out.c3; clear hb)))
  have u0 : ∀ W, Below w3.heap.size w3 W → W.cell? ⟨w.heap.size, 0, none⟩ = some (.int .i64 m) := fun W hW => (HX3.out.on hW).c0
  have u1 : ∀ W, Below w3.heap.size w3 W → W.cell? ⟨w.heap.size, 1, none⟩ = some (.int .i64 (t : Nat)) := fun W hW => (HX3.out.on hW).c1
  have u2 : ∀ W, Below w3.heap.size w3 W → W.cell? ⟨w.heap.size, 2, none⟩ = some (.int .i64 (n : Nat)) := fun W hW => (HX3.out.on hW).c2
  have u3 : ∀ W, Below w3.heap.size w3 W → W.cell? ⟨w.heap.size, 3, none⟩ = some (.int .i64 (c : Nat)) := fun W hW => (HX3.out.on hW).c3
  have HNU := Lib.hid (show ∀ W : World, Below w3.heap.size w3 W → Calls Tryz.prog 26 #[.slice aX N cX] W fun e w' => ∃ g, e = .returned (.slice (some ⟨g, 0, none⟩) N N) ∧ Pa w' (some ⟨g, 0, none⟩) N N (gZ ps) ∧ Below w3.heap.size w3 w' from fun W hW => (snumbers_any aX N cX ps W (HXX.out.on (bt HB3.out hW)) HC.out.1 (fun k hk => by have := HC.out.2.2.2.2.2 k hk; have := HS.out.2; omega)).mono fun e w' ⟨g, h1, h2, h3⟩ => ⟨g, h1, h2, bt hW h3⟩)
  go_region_held (fun W => Below w3.heap.size w3 W) (first | assumption | exact (Below.refl _ _).drew | (refine Below.drew ?_; assumption))
    (first
      | (go_at_call 26; go_loud (refine (HNU.out _ (by first | assumption | exact (Below.refl _ _).drew)).mono ?_; rintro e w4 ⟨g4, rfl, hp4, hbw4⟩; have HB4 := Lib.hid (bt HB3.out hbw4); have HRO := Lib.hid (rows_ok b N t (rowV m t) c (some ⟨g4, 0, none⟩) N (gZ ps) aR cR R Q w4 (HF.out.below HB4.out) hp4 (HRR.out.on HB4.out) (wf_nat (by have := HS.out.2; omega)) (by omega) HS.out.2.1 HC.out.2.1 (by have := HE.out.1; omega) HE.out.2.1 HC.out.2.2.2.2.1 (by have := rowV_le (m := m) HS.out.2.1; omega) HE.out.2.2.1 HE.out.2.2.2); clear hp4))
      | (go_at_call 40; go_loud (refine HRO.out.mono ?_; rintro e w5 ⟨p5, rfl, hmd, hb5⟩; have hbw5 := bt hbw4 hb5; have HB5 := Lib.hid (bt HB3.out hbw5); have HMD := Lib.hid hmd; have HX5 := Lib.hid (HX3.out.on hbw5); clear hb5 hmd)))
  all_goals
    obtain ⟨W, hWW⟩ : ∃ W, W = wrI (gZ ps) R Q (rowV m t) N := ⟨_, rfl⟩
    rw [← hWW] at HMD
    have HW := Lib.hid (show ∀ x, x ∈ W → x < N from fun x hx => wrI_mem17 (by rw [← hWW]; exact hx))
    have HWL := Lib.hid (show W.length ≤ N by rw [hWW]; exact wrI_le _ _ _ _ _)
    have HWW := Lib.hid hWW
    clear hWW u0 u1 u2 u3
    have hWO := wrong_own p5 Q W w5 HMD.out (by have := HWL.out; have := HC.out.1; omega) (fun x hx => by have := HW.out x hx; have := HC.out.1; omega)
    have HWO := Lib.hid hWO
    clear hWO
    obtain ⟨L, hL⟩ : ∃ L, L = W.length := ⟨_, rfl⟩
    have HL := Lib.hid hL
    rw [← hL] at HWO
    clear hL
    go_upto_region 15 with (go_at_call 41; go_loud (refine HWO.out.mono ?_; rintro e w6 ⟨a6, c6, rfl, ho, hb⟩; have hb6 := own_bd17 ho; have HO6 := Lib.hid ho; have HB6 := Lib.hid hb; clear ho hb))
    have hO0 : Hid (w6.ownsRow w5.heap.size 3 1 (.slice a6 L c6) L (wrV17 ps W 0)) := Lib.hid (by rw [wrV17_zero]; exact HO6.out)
    go_wp2_with fail
    go_loopw [65] (fun j wr => ∃ k : Nat, k ≤ L ∧ j = .int .i64 (k : Nat) ∧ Hid (wr.ownsRow w5.heap.size 3 1 (.slice a6 L c6) L (wrV17 ps W k)) ∧ Hid (Below w5.heap.size w5 wr)) (fun j _ => L - (intOf j).toNat)
    case atStart => exact ⟨0, Nat.zero_le _, rfl, hO0, HB6⟩
    case round =>
      obtain ⟨k, hk, rfl, hO, hB⟩ := hrel
      rename World => w7
      by_cases hlt : k < L
      · have qi : (k : Int) < (L : Int) := by omega
        have qi0 : (0 : Int) ≤ (k : Int) := by omega
        have hkW : k < W.length := by rw [← HL.out]; exact hlt
        obtain ⟨g6, rfl⟩ := own_some17 hO.out (by omega)
        have hcl := hO.out.cellAt k (by omega)
        rw [wrV17_at hkW] at hcl
        obtain ⟨x, hx⟩ : ∃ x, x = W.getD k 0 := ⟨_, rfl⟩
        have hxN : x < N := by
          rw [hx, List.getD_eq_getElem?_getD, List.getElem?_eq_getElem hkW]
          exact HW.out _ (List.getElem_mem hkW)
        rw [← hx] at hcl
        obtain ⟨bp, op, rfl, hbp, hpc⟩ := ((HXX.out.on HB5.out).on hB.out).at_ hxN
        have qx : (x : Int) < (N : Int) := by omega
        have qx0 : (0 : Int) ≤ (x : Int) := by omega
        have hst := (hO.out.stored k (.int .i64 (ps.getD x 0))).1
        have hfz := hO.out.frozenAt k
        have hge := (hO.out.lt g6 rfl).1
        have hset := wrV17_set (ps := ps) hkW
        rw [← hx] at hset
        rw [hset] at hst
        have HST := Lib.hid hst
        have HBS := Lib.hid (hB.out.setCell (p := ⟨g6, k, none⟩) hge (.int .i64 (ps.getD x 0)))
        obtain ⟨z, hz⟩ : ∃ z, z = ps.getD x 0 := ⟨_, rfl⟩
        rw [← hz] at hpc HST HBS
        have HLT := Lib.hid hlt
        have hk1000 : k ≤ 1000 := by have := HWL.out; have := HC.out.1; have := HL.out; omega
        clear hst hlt hk hset hx hz hge hxN hkW hbp
        go_wp2
        go_roundw
        case rel => exact ⟨k + 1, by have := HLT.out; omega, by go_num, HST, HBS⟩
        case measure => simp [intOf]; have := HLT.out; omega
      · obtain rfl : k = L := by omega
        have ho := hO.out
        rw [show wrV17 ps W k = (W.map fun i => ps.getD i 0).map (Value.int .i64) by rw [HL.out]; exact wrV17_all ps W] at ho
        have hwl : (W.map fun i => ps.getD i 0).length = k := by rw [List.length_map]; exact HL.out.symm
        have hia := ia_own17 ho (fun z hz => by
          obtain ⟨i, hi, rfl⟩ := List.mem_map.1 hz
          have := HC.out.2.2.2.2.2 i (HW.out i hi)
          have := HS.out.2
          omega)
        have HIA := Lib.hid hia
        have HX7 := Lib.hid (HX5.out.on hB.out)
        have v0 := HX7.out.c0; have v1 := HX7.out.c1
        have HWLN := Lib.hid hwl
        clear ho hlt hia hwl
        go_wp2
        go_ret2
        rw [← HWW.out]
        have hal := (Below.refl w7.heap.size w7).alloc (Nat.le_refl _) (.cells #[.int .i64 m, .int .i64 t, .pointer (some p5), .slice a6 k c6] 77)
        refine ⟨_, rfl, ⟨w7.heap.size, p5, W, a6, c6, rfl, by simp, by simp, by simp, by simp, by rw [HWLN.out]; simp, (HMD.out.on hB.out).on hal, ?_⟩, bt HB5.out (bt hB.out hal)⟩
        rw [HWLN.out]
        exact HIA.out.on hal
end Go.Proofs.YtappfdbmhgifcaaGreatDoor
/- Contracts of stripe's Row, Wrong, parcel, Block. -/
namespace Go.Proofs.YtappfdbmhgifcaaGreatDoor
open Go.ChangeShapes Go.WideShapes Go.ChangeAt Go.RowKit Go.Shelf GF
set_option linter.unusedVariables false
set_option linter.unusedSimpArgs false
set_option maxRecDepth 100000

theorem row_nil (x : Int) (w : World) : Calls Tryz.prog 20 #[.pointer none, .int .i64 x] w fun e w' => e = .returned (.slice none 0 0) ∧ w = w' := by
  go_enter Tryz.func20, Tryz.ntmps20
  go_wp2
  go_ret
  exact ⟨rfl, rfl⟩
theorem swr_nil (w : World) : Calls Tryz.prog 19 #[.pointer none] w fun e w' => e = .returned (.slice none 0 0) ∧ w = w' := by
  go_enter Tryz.func19, Tryz.ntmps19
  go_wp2
  go_ret
  exact ⟨rfl, rfl⟩
/-! ## the parcel -/
/-! ## Block -/
theorem blk_nil (w : World) : Calls Tryz.prog 18 #[.pointer none] w fun e w' => ∃ v, e = .returned (.tuple #[v, .int .i64 1]) ∧ w = w' := by
  go_enter Tryz.func18, Tryz.ntmps18
  go_wp2
  go_ret2
  exact ⟨_, rfl, rfl⟩
end Go.Proofs.YtappfdbmhgifcaaGreatDoor
/- Contracts of stripe's shifted, anew, Fresh. -/
namespace Go.Proofs.YtappfdbmhgifcaaGreatDoor
open Go.ChangeShapes Go.WideShapes Go.ChangeAt Go.RowKit Go.Shelf GF
set_option linter.unusedVariables false
set_option linter.unusedSimpArgs false
set_option maxRecDepth 100000

/-! ## plain -/
theorem plc_nodup {n : Nat} (hn : n ≤ 255) : (plc n).Nodup := by
  unfold plc
  refine List.pairwise_map.2 (List.nodup_range.imp_of_mem fun {a b} ha hb hne e => ?_)
  have h1 := List.mem_range.1 ha
  have h2 := List.mem_range.1 hb
  have := pl_inj (by omega) (by omega) e
  exact hne (by omega)
/-- Rows that are right: no value is wrong. -/
theorem right_all {Q R : List (List GF)} {X : List GF} {V t N e : Nat} (hQ : PolyQ Q V t) (hX : X.length = N) (htN : t ≤ N) (hR : ∀ i, i < N → rw_ R i = evP Q (co X i)) : ∀ k, k < V → RightP X (colG R N k) t e (rw_ Q k) := by
  intro k hk
  have hw : wrL X (colG R N k) (rw_ Q k) = [] := by
    rw [List.eq_nil_iff_forall_not_mem]
    intro i hi
    obtain ⟨h1, h2⟩ := wrL_mem.1 hi
    rw [hX] at h1
    rw [colG_co _ h1, hR i h1, evP_co _ (by rw [hQ.1]; exact hk)] at h2
    exact h2 rfl
  exact ⟨(hQ.2 k hk).1, (hQ.2 k hk).2, by rw [hw]; exact Nat.zero_le _, by rw [hw, hX]; simpa using htN⟩
/-! ## shifted -/
/-! ## anew -/
/-! ## Fresh -/
theorem fr_form (b : Nat) (m : Int) (t n c : Nat) (aR : Option Addr) (cR : Nat) (R : List (List GF)) (aM : Option Addr) (L cM : Nat) (w : World) (h : Sh m t n c) (hR : Mat w aR n cR R) (hwd : ∀ k, k < n → (rw_ R k).length ≤ 1000) (hL : L ≤ cM ∧ cM ≤ 9223372036854775807) (heq : L = needV m t) (hex : ∃ i, i < n ∧ (rw_ R i).length ≠ rowV m t) :
    Calls Tryz.prog 21 #[.agg #[.int .i64 m, .int .i64 t, .int .i64 n, .int .i64 c], .pointer (some ⟨b, 0, none⟩), .slice aR n cR, .slice aM L cM] w fun e w' => ∃ v, e = .returned (.tuple #[v, .int .i64 3]) ∧ Below w.heap.size w w' := by
  have HA := Lib.hid (bxS w #[.int .i64 m, .int .i64 t, .int .i64 n, .int .i64 c] 25)
  have HX := Lib.hid (Bx.new w m t n c)
  have HC := Lib.hid (schk_yes b m t n c aM L cM (w.alloc (.cells #[.int .i64 m, .int .i64 t, .int .i64 n, .int .i64 c] 25)) h hL)
  rw [if_pos heq] at HC
  have q : ((n : Int) != (n : Int)) = false := by simp
  have hrd := hR.bd
  have HUN := Lib.hid (show ∀ W : World, Below w.heap.size w W → Calls Tryz.prog 39 #[.agg #[.int .i64 m, .int .i64 t, .int .i64 n, .int .i64 c], .slice aR n cR] W fun e w' => e = .returned (.bool true) ∧ Below W.heap.size W w' from fun W hW => suneven_any m t n c aR n cR R true W h (hR.on hW) hwd ⟨fun _ => hex, fun _ => rfl⟩)
  clear h hR hwd heq hex
  go_enter Tryz.func21, Tryz.ntmps21
  go_wp2_with (first
    | (go_at_call 24; go_loud (refine HC.out.mono ?_; rintro e w1 ⟨rfl, hb⟩; have HB1 := Lib.hid (bt HA.out hb); have HX1 := Lib.hid (HX.out.on hb); have x0 := HX1.out.c0; have x1 := HX1.out.c1; have x2 := HX1.out.c2; have x3 := HX1.out.c3; have HU := Lib.hid (HUN.out w1 HB1.out); clear hb))
    | (go_at_call 39; go_loud (refine HU.out.mono ?_; rintro e w2 ⟨rfl, hb⟩; have HB2 := Lib.hid (bt HB1.out hb); clear hb)))
  go_ret2
  exact ⟨_, rfl, HB2.out⟩
end Go.Proofs.YtappfdbmhgifcaaGreatDoor
