/- Contracts of mend's Rows, At and Wrong. -/
import Derived.Test.YtfmjfdbbjggcpaaZk
namespace Go.Proofs.Ytfmjfdbbjggcpaa
open Go.ChangeShapes Go.WideShapes Go.ChangeAt Go.RowKit Go.Shelf GF
set_option linter.unusedVariables false
set_option linter.unusedSimpArgs false
set_option maxRecDepth 100000

theorem munl_take {M : List (List GF)} {k : Nat} (hk : k ≤ M.length) : (unl M k = true ↔ ∃ i, i < k ∧ (rw_ M i).length ≠ (rw_ M 0).length) := by
  induction k with
  | zero => simp [unl]
  | succ k ih =>
    rw [unl_next (by omega), Bool.or_eq_true, ih (by omega), bne_iff_ne]
    constructor
    · rintro (⟨i, h1, h2⟩ | h)
      · exact ⟨i, by omega, h2⟩
      · exact ⟨k, by omega, h⟩
    · rintro ⟨i, h1, h2⟩
      by_cases e : i = k
      · right; rw [← e]; exact h2
      · left; exact ⟨i, by omega, h2⟩
/-- What a Mended is in memory: a field, the numbers of the polynomials P, the numbers of the wrong rows. -/
def MdM (w : World) (p : Addr) (P : List (List GF)) (W : List Nat) : Prop :=
  ∃ (g fb : Nat) (aN : Option Addr) (T cN : Nat) (N : List (List GF)) (aW : Option Addr) (cW : Nat), p = ⟨g, 0, none⟩ ∧ g < w.heap.size ∧ w.cell? ⟨g, 0, none⟩ = some (.pointer (some ⟨fb, 0, none⟩)) ∧ w.cell? ⟨g, 1, none⟩ = some (.slice aN T cN) ∧ w.cell? ⟨g, 2, none⟩ = some (.slice aW W.length cW) ∧
    Fld w fb ∧ Mat w aN T cN N ∧ NumP N P T P.length ∧ IA w aW W.length cW (zl W) ∧ 1 ≤ T ∧ T ≤ 255
theorem MdM.on {w w' : World} {p : Addr} {P : List (List GF)} {W : List Nat} (h : MdM w p P W) (hb : Below w.heap.size w w') : MdM w' p P W := by
  obtain ⟨g, fb, aN, T, cN, N, aW, cW, h1, h2, h3, h4, h5, h6, h7, h8, h9, h10⟩ := h
  exact ⟨g, fb, aN, T, cN, N, aW, cW, h1, by have := hb.size; omega, (hb.cell (p := ⟨g, 0, none⟩) h2).trans h3, (hb.cell (p := ⟨g, 1, none⟩) h2).trans h4, (hb.cell (p := ⟨g, 2, none⟩) h2).trans h5, h6.below hb, h7.on hb, h8, h9.on hb, h10⟩
theorem num_evP {N P : List (List GF)} {T : Nat} (h : NumP N P T P.length) (x : GF) : valR N T P.length x = evP P x := by
  refine ext_co (by rw [valR_len, evP_len]) fun k hk => ?_
  rw [valR_len] at hk
  rw [num_ev h hk, evP_co x hk]

/-! ## At, Wrong -/
theorem at_any (p : Addr) (P : List (List GF)) (W : List Nat) (x : GF) (w : World) (h : MdM w p P W) (hP : P.length ≤ 8) :
    Calls Try.prog 17 #[.pointer (some p), .int .u8 (toI x)] w fun e w' => ∃ a c, e = .returned (.slice a P.length c) ∧ Pa w' a P.length c (evP P x) ∧ Below w.heap.size w w' := by
  obtain ⟨g, fb, aN, T, cN, N, aW, cW, rfl, hg, h1, h2, h3, hf, hN, hn, hi, hT1, hT2⟩ := h
  have HV := Lib.hid (mvalue_any fb T P.length aN cN N x w.drew (show Fld w.drew fb from hf) (show Mat w.drew aN T cN N from hN) hn.1 hT1 hT2 (by omega))
  rw [num_evP hn x] at HV
  have hbd := hN.bd
  clear hf hN hn hi hT1 hT2
  go_enter Try.func17, Try.ntmps17
  go_wp2_with fail
  go_region_with (go_at_call 35; refine HV.out.mono ?_; rintro e w1 ⟨a1, c1, rfl, hp, _, hb⟩; have HP := Lib.hid hp; have HB := Lib.hid hb; clear hp hb)
  all_goals
    go_wp2
    go_ret
    exact ⟨_, _, rfl, HP.out, (below_drewN (Below.refl _ _) 1).trans HB.out⟩
theorem at_nil (x : GF) (w : World) : Calls Try.prog 17 #[.pointer none, .int .u8 (toI x)] w fun e w' => ∃ a c, e = .returned (.slice a 0 c) ∧ Below w.heap.size w w' := by
  go_enter Try.func17, Try.ntmps17
  go_wp2
  go_ret
  exact ⟨_, _, rfl, Below.refl _ _⟩
theorem wrong_nil (w : World) : Calls Try.prog 18 #[.pointer none] w fun e w' => ∃ a c, e = .returned (.slice a 0 c) ∧ Below w.heap.size w w' := by
  go_enter Try.func18, Try.ntmps18
  go_wp2
  go_ret
  exact ⟨_, _, rfl, Below.refl _ _⟩
theorem wrong_any (p : Addr) (P : List (List GF)) (W : List Nat) (w : World) (h : MdM w p P W) (hW : W.length ≤ 6) (hx : ∀ x, x ∈ W → x ≤ 6) :
    Calls Try.prog 18 #[.pointer (some p)] w fun e w' => ∃ a c, e = .returned (.slice a W.length c) ∧ IA w' a W.length c (zl W) ∧ Below w.heap.size w w' := by
  obtain ⟨g, fb, aN, T, cN, N, aW, cW, rfl, hg, h1, h2, h3, hf, hN, hn, hi, hT1, hT2⟩ := h
  have HC := Lib.hid (cloneI_any aW W.length cW (zl W) w hi (by omega) (fun z hz => by
    obtain ⟨x, hx', rfl⟩ := List.mem_map.1 hz
    have := hx x hx'
    omega))
  have hbd := hi.bd
  clear hf hN hn hi hT1 hT2 hx hW
  go_enter Try.func18, Try.ntmps18
  go_wp2_with (go_at_call 36; go_loud (refine HC.out.mono ?_; rintro e w1 ⟨a1, c1, rfl, hia, hb⟩; have HI := Lib.hid hia; have HB := Lib.hid hb; clear hia hb))
  go_ret
  exact ⟨_, _, rfl, HI.out, HB.out⟩

theorem rows_same {X : List GF} {R P Q : List (List GF)} {L t n e : Nat} (hA : Apart X) (hP : P.length = n) (hQ : Q.length = n) (h1 : ∀ j, j < n → RightP X (colM R L j) t e (rw_ P j)) (h2 : ∀ j, j < n → RightP X (colM R L j) t e (rw_ Q j)) : P = Q := by
  apply List.ext_getElem (by omega)
  intro j k1 k2
  have h := RightP.uniq hA (h1 j (by omega)) (h2 j (by omega))
  unfold rw_ at h
  simpa [List.getD_eq_getElem?_getD, k1, k2] using h

/-! ## Rows -/
theorem rows_err (b L K : Nat) (t e : Int) (aX : Option Addr) (cX : Nat) (X : List GF) (aR : Option Addr) (cR : Nat) (R : List (List GF)) (w : World) (hf : Fld w b) (hX : Pa w aX L cX X) (hR : Mat w aR K cR R) (hE : colErr X K t e ≠ 0) :
    Calls Try.prog 15 #[.pointer (some ⟨b, 0, none⟩), .int .i64 t, .slice aX L cX, .slice aR K cR, .int .i64 e] w fun r w' => r = .returned (.tuple #[.pointer none, .int .i64 (colErr X K t e)]) ∧ Below w.heap.size w w' := by
  have HCK := Lib.hid (mchk_any b L K t e aX cX X w hf hX)
  have hbx := hX.bd; have hbr := hR.bd
  obtain ⟨er, her⟩ : ∃ er, er = colErr X K t e := ⟨_, rfl⟩
  rw [← her] at HCK hE
  rw [← her]
  have q : (er != 0) = true := by rw [bne_iff_ne]; exact hE
  clear hf hX hR hE her
  go_enter Try.func15, Try.ntmps15
  go_wp2_with (go_at_call 20; go_loud (refine HCK.out.mono ?_; rintro r w1 ⟨rfl, hb⟩; have HB1 := Lib.hid hb; clear hb))
  go_ret2
  exact ⟨rfl, HB1.out⟩
theorem chk_zero (b L t : Nat) (e : Int) (aX : Option Addr) (cX : Nat) (X : List GF) (w : World) (hf : Fld w b) (hX : Pa w aX L cX X) (he0 : 0 ≤ e) (ht : 1 ≤ t) (htL : t ≤ L) (hL : L ≤ 200) (hE : plErr X = 0) :
    Calls Try.prog 20 #[.pointer (some ⟨b, 0, none⟩), .int .i64 (t : Nat), .slice aX L cX, .int .i64 (L : Nat), .int .i64 e] w fun r w' => r = .returned (.int .i64 0) ∧ Below w.heap.size w w' := by
  have hl := hX.len
  have h := mchk_any b L L (t : Int) e aX cX X w hf hX
  rw [colErr_zero.2 ⟨hl, by omega, by omega, he0, by omega, hE⟩] at h
  exact h
theorem rows_form (b L t : Nat) (e : Int) (aX : Option Addr) (cX : Nat) (X : List GF) (aR : Option Addr) (cR : Nat) (R : List (List GF)) (w : World) (hf : Fld w b) (hX : Pa w aX L cX X) (hR : Mat w aR L cR R) (he0 : 0 ≤ e) (ht : 1 ≤ t) (htL : t ≤ L) (hL : L ≤ 200) (hE : plErr X = 0) (hw : ∀ k, k < L → (rw_ R k).length ≤ 1000) (hu : unl R L = true) :
    Calls Try.prog 15 #[.pointer (some ⟨b, 0, none⟩), .int .i64 (t : Nat), .slice aX L cX, .slice aR L cR, .int .i64 e] w fun r w' => r = .returned (.tuple #[.pointer none, .int .i64 3]) ∧ Below w.heap.size w w' := by
  have HCK := Lib.hid (chk_zero b L t e aX cX X w hf hX he0 ht htL hL hE)
  have hrl := hR.len
  have HR := Lib.hid hR
  have HW := Lib.hid hw
  have HU := Lib.hid ((munl_take (by omega)).1 hu)
  have hbx := hX.bd; have hbr := hR.bd
  clear hf hX hR he0 ht htL hL hE hw hu hrl
  go_enter Try.func15, Try.ntmps15
  go_wp2_with (first
    | (go_at_call 20; go_loud (refine HCK.out.mono ?_; rintro r w1 ⟨rfl, hb⟩; have HB1 := Lib.hid hb; have HUN := Lib.hid (munev_any aR L cR R true w1 (HR.out.on hb) HW.out ⟨fun _ => HU.out, fun _ => rfl⟩); clear hb))
    | (go_at_call 33; go_loud (refine HUN.out.mono ?_; rintro r w2 ⟨rfl, hb⟩; have HB2 := Lib.hid (bt HB1.out hb); clear hb)))
  go_ret2
  exact ⟨rfl, HB2.out⟩
theorem rows_no (b L t n k : Nat) (e : Int) (aX : Option Addr) (cX : Nat) (X : List GF) (aR : Option Addr) (cR : Nat) (R : List (List GF)) (w : World) (hf : Fld w b) (hX : Pa w aX L cX X) (hR : Mat w aR L cR R) (he : (Lit.int .i64 e).wf = true) (he0 : 0 ≤ e) (ht : 1 ≤ t) (htL : t ≤ L) (hL : L ≤ 200) (hE : plErr X = 0) (hw : ∀ k, k < L → (rw_ R k).length = n) (hn : n ≤ 1000) (hk : k < n) (hno : ∀ p, ¬ RightP X (colM R L k) t e.toNat p) :
    Calls Try.prog 15 #[.pointer (some ⟨b, 0, none⟩), .int .i64 (t : Nat), .slice aX L cX, .slice aR L cR, .int .i64 e] w fun r w' => r = .returned (.tuple #[.pointer none, .int .i64 11]) ∧ Below w.heap.size w w' := by
  have HCK := Lib.hid (chk_zero b L t e aX cX X w hf hX he0 ht htL hL hE)
  have hA : Apart X := (plErr_zero.1 hE).2.2
  have HR := Lib.hid hR; have HX := Lib.hid hX; have HF := Lib.hid hf
  have HW := Lib.hid hw
  have HC := Lib.hid (And.intro hA (And.intro ht (And.intro htL (And.intro hL (And.intro hn (And.intro he (And.intro he0 hk)))))))
  have HNO := Lib.hid hno
  have hbx := hX.bd; have hbr := hR.bd
  clear hf hX hR he he0 ht htL hL hE hw hn hk hno hA
  go_enter Try.func15, Try.ntmps15
  go_wp2_with (first
    | (go_at_call 20; go_loud (refine HCK.out.mono ?_; rintro r w1 ⟨rfl, hb⟩; have HB1 := Lib.hid hb; have HUN := Lib.hid (munev_any aR L cR R false w1 (HR.out.on hb) (fun k hk => (by rw [HW.out k hk]; exact HC.out.2.2.2.2.1)) ⟨(fun e => by cases e), fun ⟨i, hi, h⟩ => absurd (by rw [HW.out i hi, HW.out 0 (by omega)]) h⟩); clear hb))
    | (go_at_call 33; go_loud (refine HUN.out.mono ?_; rintro r w2 ⟨rfl, hb⟩; have HB2 := Lib.hid (bt HB1.out hb); have HME := Lib.hid (mended_any b L t n e aX cX X aR cR R w2 (HF.out.below HB2.out) (HX.out.on HB2.out) (HR.out.on HB2.out) HC.out.1 HC.out.2.1 HC.out.2.2.1 HC.out.2.2.2.1 HW.out HC.out.2.2.2.2.1 HC.out.2.2.2.2.2.1 HC.out.2.2.2.2.2.2.1); clear hb))
    | (go_at_call 21; go_loud (refine HME.out.mono ?_; rintro r w4 ⟨a1, a2, m1, c1, m2, c2, er, rfl, hs, hb⟩; obtain ⟨rfl, _⟩ := (hs.out.resolve_left fun ⟨_, N, P, _, _, _, _, _, hrp⟩ => HNO.out _ (hrp k HC.out.2.2.2.2.2.2.2)); have HB4 := Lib.hid (bt HB2.out hb); clear hs hb)))
  go_ret2
  exact ⟨rfl, HB4.out⟩
set_option maxHeartbeats 1000000 in
theorem rows_ok (b L t n : Nat) (e : Int) (aX : Option Addr) (cX : Nat) (X : List GF) (aR : Option Addr) (cR : Nat) (R P : List (List GF)) (w : World) (hf : Fld w b) (hX : Pa w aX L cX X) (hR : Mat w aR L cR R) (he : (Lit.int .i64 e).wf = true) (he0 : 0 ≤ e) (ht : 1 ≤ t) (htL : t ≤ L) (hL : L ≤ 200) (hE : plErr X = 0) (hw : ∀ k, k < L → (rw_ R k).length = n) (hn : n ≤ 1000) (hPl : P.length = n) (hP : ∀ k, k < n → RightP X (colM R L k) t e.toNat (rw_ P k)) :
    Calls Try.prog 15 #[.pointer (some ⟨b, 0, none⟩), .int .i64 (t : Nat), .slice aX L cX, .slice aR L cR, .int .i64 e] w fun r w' => ∃ p, r = .returned (.tuple #[.pointer (some p), .int .i64 0]) ∧ MdM w' p P (wrI X R P n L) ∧ Below w.heap.size w w' := by
  have HCK := Lib.hid (chk_zero b L t e aX cX X w hf hX he0 ht htL hL hE)
  have hA : Apart X := (plErr_zero.1 hE).2.2
  have HR := Lib.hid hR; have HX := Lib.hid hX; have HF := Lib.hid hf
  have HW := Lib.hid hw
  have HC := Lib.hid (And.intro hA (And.intro ht (And.intro htL (And.intro hL (And.intro hn (And.intro he he0))))))
  have HP := Lib.hid (And.intro hPl hP)
  have hbx := hX.bd; have hbr := hR.bd
  clear hf hX hR he he0 ht htL hL hE hw hn hPl hP hA
  go_enter Try.func15, Try.ntmps15
  go_wp2_with (first
    | (go_at_call 20; go_loud (refine HCK.out.mono ?_; rintro r w1 ⟨rfl, hb⟩; have HB1 := Lib.hid hb; have HUN := Lib.hid (munev_any aR L cR R false w1 (HR.out.on hb) (fun k hk => (by rw [HW.out k hk]; exact HC.out.2.2.2.2.1)) ⟨(fun e => by cases e), fun ⟨i, hi, h⟩ => absurd (by rw [HW.out i hi, HW.out 0 (by omega)]) h⟩); clear hb))
    | (go_at_call 33; go_loud (refine HUN.out.mono ?_; rintro r w2 ⟨rfl, hb⟩; have HB2 := Lib.hid (bt HB1.out hb); have HME := Lib.hid (mended_any b L t n e aX cX X aR cR R w2 (HF.out.below HB2.out) (HX.out.on HB2.out) (HR.out.on HB2.out) HC.out.1 HC.out.2.1 HC.out.2.2.1 HC.out.2.2.2.1 HW.out HC.out.2.2.2.2.1 HC.out.2.2.2.2.2.1 HC.out.2.2.2.2.2.2); clear hb))
    | (go_at_call 21; go_loud (refine HME.out.mono ?_; rintro r w4 ⟨a1, a2, m1, c1, m2, c2, er, rfl, hs, hb⟩; obtain ⟨rfl, N, P', rfl, hmN, hnp, rfl, hia, hrp⟩ := (hs.out.resolve_right fun ⟨_, j, hj, h⟩ => h _ (HP.out.2 j hj)); obtain rfl : P' = P := rows_same HC.out.1 hnp.2.1 HP.out.1 hrp HP.out.2; have HMN := Lib.hid hmN; have HNP := Lib.hid hnp; have HIA := Lib.hid hia; have HB4 := Lib.hid (bt HB2.out hb); clear hs hb hmN hnp hrp hia))
    | (go_at_call 8; go_loud (refine (new_any _).mono ?_; rintro r w5 ⟨fb, rfl, hfb, hfl, hb⟩; have HFL := Lib.hid hfl; have HB5 := Lib.hid (bt HB4.out hb); have HB45 := Lib.hid hb; clear hb)))
  go_ret2
  have hal := (Below.refl w5.heap.size w5).alloc (Nat.le_refl _) (.cells #[.pointer (some ⟨fb, 0, none⟩), .slice a1 m1 c1, .slice a2 (wrI X R P' n L).length c2] 73)
  have hnp := HNP.out
  rw [← HP.out.1] at hnp
  refine ⟨_, rfl, ⟨w5.heap.size, fb, a1, m1, c1, N, a2, c2, rfl, by simp, by simp, by simp, by simp, HFL.out.below hal, (HMN.out.on HB45.out).on hal, hnp, (HIA.out.on HB45.out).on hal, HC.out.2.1, ?_⟩, bt HB5.out hal⟩
  have := HC.out
  omega
theorem rowsAll : RowsAll MdM where
  keep := fun w w' p P W h hb => h.on hb
  err := fun b L K t e aX cX X aR cR R w hf hX hR _ _ _ _ _ hE => rows_err b L K t e aX cX X aR cR R w hf hX hR hE
  form := fun b L t e aX cX X aR cR R w hf hX hR _ he0 ht htL hL hE hw hu => rows_form b L t e aX cX X aR cR R w hf hX hR he0 ht htL (by omega) hE (fun k hk => by have := hw k hk; omega) hu
  no := fun b L t n k e aX cX X aR cR R w hf hX hR he he0 ht htL hL hE hw hn hk hno => rows_no b L t n k e aX cX X aR cR R w hf hX hR he he0 ht htL (by omega) hE hw (by omega) hk hno
  ok := fun b L t n e aX cX X aR cR R P w hf hX hR he he0 ht htL hL hE hw hn hPl hP => rows_ok b L t n e aX cX X aR cR R P w hf hX hR he he0 ht htL (by omega) hE hw (by omega) hPl hP
  at_ := fun p P W x w h hP _ => at_any p P W x w h hP
  wrong := fun p P W w h hW hx => wrong_any p P W w h hW hx
  atNil := at_nil
  wrongNil := wrong_nil
  radius := fun m t w hm ht => (radius_any m t w hm ht).mono fun r w' ⟨h1, h2⟩ => ⟨h1, h2 ▸ Below.refl _ _⟩
end Go.Proofs.Ytfmjfdbbjggcpaa
