/- The walk of MendColumns, under Column's contracts. -/
import Derived.Test.YtfmjfdbbjggcpaaRh
namespace Go.Proofs.Ytfmjfdbbjggcpaa
open Go.ChangeShapes Go.WideShapes Go.ChangeAt Go.RowKit Go.Shelf GF
set_option linter.unusedVariables false
set_option linter.unusedSimpArgs false
set_option maxRecDepth 100000
theorem mc_long1 (hAll : ColAll) (t e : Int) (L : Nat) (aX : Option Addr) (cX : Nat) (X : List GF) (K : Nat) (aY : Option Addr) (cY : Nat) (Y : List GF) (w : World) (hX : Pa w aX L cX X) (hY : Pa w aY K cY Y) (hT : (Lit.int .i64 t).wf = true) (hE : (Lit.int .i64 e).wf = true) (h : 7 < L) :
    Calls Try.prog 3 #[.int .i64 t, .slice aX L cX, .slice aY K cY, .int .i64 e] w fun r w' => r = .returned (.bool true) ∧ Below w.heap.size w w' := by
  have HLI := Lib.hid (lives10 hAll)
  have hbx := hX.bd; have hby := hY.bd
  have q7 : (7 : Int) < (L : Int) := by omega
  clear hAll hX hY hT hE h
  go_enter Try.func3, Try.ntmps3
  go_upto_region 2 with (go_at_call 6; go_loud (refine (HLI.out _).mono ?_; rintro e w1 ⟨rfl, hb⟩; have HB1 := Lib.hid hb; clear hb))
  go_wp2_with (go_at_call 6; go_loud (refine (HLI.out _).mono ?_; rintro e w2 ⟨rfl, hb⟩; have HB2 := Lib.hid (bt HB1.out hb); clear hb))
  go_ret
  exact ⟨rfl, HB2.out⟩
theorem mc_long2 (hAll : ColAll) (t e : Int) (L : Nat) (aX : Option Addr) (cX : Nat) (X : List GF) (K : Nat) (aY : Option Addr) (cY : Nat) (Y : List GF) (w : World) (hX : Pa w aX L cX X) (hY : Pa w aY K cY Y) (hT : (Lit.int .i64 t).wf = true) (hE : (Lit.int .i64 e).wf = true) (h0 : L ≤ 7) (h : 7 < K) :
    Calls Try.prog 3 #[.int .i64 t, .slice aX L cX, .slice aY K cY, .int .i64 e] w fun r w' => r = .returned (.bool true) ∧ Below w.heap.size w w' := by
  have HLI := Lib.hid (lives10 hAll)
  have hbx := hX.bd; have hby := hY.bd
  have q6 : ¬ (7 : Int) < (L : Int) := by omega
  have q7 : (7 : Int) < (K : Int) := by omega
  clear hAll hX hY hT hE h
  go_enter Try.func3, Try.ntmps3
  go_upto_region 2 with (go_at_call 6; go_loud (refine (HLI.out _).mono ?_; rintro e w1 ⟨rfl, hb⟩; have HB1 := Lib.hid hb; clear hb))
  go_wp2_with (go_at_call 6; go_loud (refine (HLI.out _).mono ?_; rintro e w2 ⟨rfl, hb⟩; have HB2 := Lib.hid (bt HB1.out hb); clear hb))
  go_ret
  exact ⟨rfl, HB2.out⟩
theorem mc_e1 (hAll : ColAll) (t e : Int) (L : Nat) (aX : Option Addr) (cX : Nat) (X : List GF) (K : Nat) (aY : Option Addr) (cY : Nat) (Y : List GF) (w : World) (hX : Pa w aX L cX X) (hY : Pa w aY K cY Y) (hT : (Lit.int .i64 t).wf = true) (hE : (Lit.int .i64 e).wf = true) (hL : L ≤ 7) (hK : K ≤ 7) (h : L ≠ K) :
    Calls Try.prog 3 #[.int .i64 t, .slice aX L cX, .slice aY K cY, .int .i64 e] w fun r w' => r = .returned (.bool true) ∧ Below w.heap.size w w' := by
  have HLI := Lib.hid (lives10 hAll)
  have hbx := hX.bd; have hby := hY.bd
  have hc : colErr X K t e = 1 := by unfold colErr; rw [if_pos (by rw [hX.len]; exact h)]
  have HER := Lib.hid (fun (b : Nat) (W : World) (hf : Fld W b) (hx : Pa W aX L cX X) (hy : Pa W aY K cY Y) => hAll.1 b L K t e aX cX X aY cY Y W hf hx hy hT hE (by omega) (by omega) (by rw [hc]; decide))
  rw [hc] at HER
  have HX := Lib.hid hX; have HY := Lib.hid hY
  have q6 : ¬ (7 : Int) < (L : Int) := by omega
  have q7 : ¬ (7 : Int) < (K : Int) := by omega
  have q1 : ((L : Int) != (K : Int)) = true := by rw [bne_iff_ne]; omega
  clear hAll hX hY hT hE hc h
  go_enter Try.func3, Try.ntmps3
  go_wp2_with (first
    | (go_at_call 6; go_loud (refine (HLI.out _).mono ?_; rintro e w1 ⟨rfl, hb⟩; have HB1 := Lib.hid hb; clear hb))
    | (go_at_call 8; go_loud (refine (new_any _).mono ?_; rintro e w2 ⟨b, rfl, hb0, hf, hbel⟩; have HB2 := Lib.hid (bt HB1.out hbel); have HC := Lib.hid (HER.out b w2 hf (HX.out.on HB2.out) (HY.out.on HB2.out)); clear hf hbel hb0))
    | (go_at_call 7; go_loud (refine HC.out.mono ?_; rintro e w3 ⟨a3, c3, rfl, hb3⟩; have HB3 := Lib.hid (bt HB2.out hb3); have HP3 := Lib.hid (rplaces_any aX L cX X w3 (HX.out.on HB3.out)); clear hb3))
    | (go_at_call 9; go_loud (refine HP3.out.mono ?_; rintro e w4 ⟨rfl, hb4⟩; have HB4 := Lib.hid (bt HB3.out hb4); clear hb4)))
  go_ret
  exact ⟨rfl, HB3.out⟩
theorem mc_e2 (hAll : ColAll) (t e : Int) (L : Nat) (aX : Option Addr) (cX : Nat) (X : List GF) (aY : Option Addr) (cY : Nat) (Y : List GF) (w : World) (hX : Pa w aX L cX X) (hY : Pa w aY L cY Y) (hT : (Lit.int .i64 t).wf = true) (hE : (Lit.int .i64 e).wf = true) (hL : L ≤ 7) (h : t < 1) :
    Calls Try.prog 3 #[.int .i64 t, .slice aX L cX, .slice aY L cY, .int .i64 e] w fun r w' => r = .returned (.bool true) ∧ Below w.heap.size w w' := by
  have HLI := Lib.hid (lives10 hAll)
  have hbx := hX.bd; have hby := hY.bd
  have hc : colErr X L t e = 2 := by unfold colErr; rw [if_neg (by rw [hX.len]; omega), if_pos (.inl h)]
  have HER := Lib.hid (fun (b : Nat) (W : World) (hf : Fld W b) (hx : Pa W aX L cX X) (hy : Pa W aY L cY Y) => hAll.1 b L L t e aX cX X aY cY Y W hf hx hy hT hE (by omega) (by omega) (by rw [hc]; decide))
  rw [hc] at HER
  have HX := Lib.hid hX; have HY := Lib.hid hY
  have q6 : ¬ (7 : Int) < (L : Int) := by omega
  have q7 : ¬ (7 : Int) < (L : Int) := by omega
  have q1 : ((L : Int) != (L : Int)) = false := by simp
  clear hAll hX hY hT hE hc 
  go_enter Try.func3, Try.ntmps3
  go_wp2_with (first
    | (go_at_call 6; go_loud (refine (HLI.out _).mono ?_; rintro e w1 ⟨rfl, hb⟩; have HB1 := Lib.hid hb; clear hb))
    | (go_at_call 8; go_loud (refine (new_any _).mono ?_; rintro e w2 ⟨b, rfl, hb0, hf, hbel⟩; have HB2 := Lib.hid (bt HB1.out hbel); have HC := Lib.hid (HER.out b w2 hf (HX.out.on HB2.out) (HY.out.on HB2.out)); clear hf hbel hb0))
    | (go_at_call 7; go_loud (refine HC.out.mono ?_; rintro e w3 ⟨a3, c3, rfl, hb3⟩; have HB3 := Lib.hid (bt HB2.out hb3); have HP3 := Lib.hid (rplaces_any aX L cX X w3 (HX.out.on HB3.out)); clear hb3))
    | (go_at_call 9; go_loud (refine HP3.out.mono ?_; rintro e w4 ⟨rfl, hb4⟩; have HB4 := Lib.hid (bt HB3.out hb4); clear hb4)))
  go_ret
  exact ⟨rfl, HB3.out⟩
theorem mc_e3 (hAll : ColAll) (t e : Int) (L : Nat) (aX : Option Addr) (cX : Nat) (X : List GF) (aY : Option Addr) (cY : Nat) (Y : List GF) (w : World) (hX : Pa w aX L cX X) (hY : Pa w aY L cY Y) (hT : (Lit.int .i64 t).wf = true) (hE : (Lit.int .i64 e).wf = true) (hL : L ≤ 7) (h1 : ¬ t < 1) (h : 255 < t) :
    Calls Try.prog 3 #[.int .i64 t, .slice aX L cX, .slice aY L cY, .int .i64 e] w fun r w' => r = .returned (.bool true) ∧ Below w.heap.size w w' := by
  have HLI := Lib.hid (lives10 hAll)
  have hbx := hX.bd; have hby := hY.bd
  have hc : colErr X L t e = 2 := by unfold colErr; rw [if_neg (by rw [hX.len]; omega), if_pos (.inr (.inl h))]
  have HER := Lib.hid (fun (b : Nat) (W : World) (hf : Fld W b) (hx : Pa W aX L cX X) (hy : Pa W aY L cY Y) => hAll.1 b L L t e aX cX X aY cY Y W hf hx hy hT hE (by omega) (by omega) (by rw [hc]; decide))
  rw [hc] at HER
  have HX := Lib.hid hX; have HY := Lib.hid hY
  have q6 : ¬ (7 : Int) < (L : Int) := by omega
  have q7 : ¬ (7 : Int) < (L : Int) := by omega
  have q1 : ((L : Int) != (L : Int)) = false := by simp
  clear hAll hX hY hT hE hc 
  go_enter Try.func3, Try.ntmps3
  go_wp2_with (first
    | (go_at_call 6; go_loud (refine (HLI.out _).mono ?_; rintro e w1 ⟨rfl, hb⟩; have HB1 := Lib.hid hb; clear hb))
    | (go_at_call 8; go_loud (refine (new_any _).mono ?_; rintro e w2 ⟨b, rfl, hb0, hf, hbel⟩; have HB2 := Lib.hid (bt HB1.out hbel); have HC := Lib.hid (HER.out b w2 hf (HX.out.on HB2.out) (HY.out.on HB2.out)); clear hf hbel hb0))
    | (go_at_call 7; go_loud (refine HC.out.mono ?_; rintro e w3 ⟨a3, c3, rfl, hb3⟩; have HB3 := Lib.hid (bt HB2.out hb3); have HP3 := Lib.hid (rplaces_any aX L cX X w3 (HX.out.on HB3.out)); clear hb3))
    | (go_at_call 9; go_loud (refine HP3.out.mono ?_; rintro e w4 ⟨rfl, hb4⟩; have HB4 := Lib.hid (bt HB3.out hb4); clear hb4)))
  go_ret
  exact ⟨rfl, HB3.out⟩
theorem mc_e4 (hAll : ColAll) (t e : Int) (L : Nat) (aX : Option Addr) (cX : Nat) (X : List GF) (aY : Option Addr) (cY : Nat) (Y : List GF) (w : World) (hX : Pa w aX L cX X) (hY : Pa w aY L cY Y) (hT : (Lit.int .i64 t).wf = true) (hE : (Lit.int .i64 e).wf = true) (hL : L ≤ 7) (h1 : ¬ t < 1) (h2 : ¬ 255 < t) (h : e < 0) :
    Calls Try.prog 3 #[.int .i64 t, .slice aX L cX, .slice aY L cY, .int .i64 e] w fun r w' => r = .returned (.bool true) ∧ Below w.heap.size w w' := by
  have HLI := Lib.hid (lives10 hAll)
  have hbx := hX.bd; have hby := hY.bd
  have hc : colErr X L t e = 2 := by unfold colErr; rw [if_neg (by rw [hX.len]; omega), if_pos (.inr (.inr h))]
  have HER := Lib.hid (fun (b : Nat) (W : World) (hf : Fld W b) (hx : Pa W aX L cX X) (hy : Pa W aY L cY Y) => hAll.1 b L L t e aX cX X aY cY Y W hf hx hy hT hE (by omega) (by omega) (by rw [hc]; decide))
  rw [hc] at HER
  have HX := Lib.hid hX; have HY := Lib.hid hY
  have q6 : ¬ (7 : Int) < (L : Int) := by omega
  have q7 : ¬ (7 : Int) < (L : Int) := by omega
  have q1 : ((L : Int) != (L : Int)) = false := by simp
  clear hAll hX hY hT hE hc 
  go_enter Try.func3, Try.ntmps3
  go_wp2_with (first
    | (go_at_call 6; go_loud (refine (HLI.out _).mono ?_; rintro e w1 ⟨rfl, hb⟩; have HB1 := Lib.hid hb; clear hb))
    | (go_at_call 8; go_loud (refine (new_any _).mono ?_; rintro e w2 ⟨b, rfl, hb0, hf, hbel⟩; have HB2 := Lib.hid (bt HB1.out hbel); have HC := Lib.hid (HER.out b w2 hf (HX.out.on HB2.out) (HY.out.on HB2.out)); clear hf hbel hb0))
    | (go_at_call 7; go_loud (refine HC.out.mono ?_; rintro e w3 ⟨a3, c3, rfl, hb3⟩; have HB3 := Lib.hid (bt HB2.out hb3); have HP3 := Lib.hid (rplaces_any aX L cX X w3 (HX.out.on HB3.out)); clear hb3))
    | (go_at_call 9; go_loud (refine HP3.out.mono ?_; rintro e w4 ⟨rfl, hb4⟩; have HB4 := Lib.hid (bt HB3.out hb4); clear hb4)))
  go_ret
  exact ⟨rfl, HB3.out⟩
theorem mc_e5 (hAll : ColAll) (t e : Int) (L : Nat) (aX : Option Addr) (cX : Nat) (X : List GF) (aY : Option Addr) (cY : Nat) (Y : List GF) (w : World) (hX : Pa w aX L cX X) (hY : Pa w aY L cY Y) (hT : (Lit.int .i64 t).wf = true) (hE : (Lit.int .i64 e).wf = true) (hL : L ≤ 7) (h1 : ¬ t < 1) (h2 : ¬ 255 < t) (h3 : ¬ e < 0) (h : (L : Int) < t) :
    Calls Try.prog 3 #[.int .i64 t, .slice aX L cX, .slice aY L cY, .int .i64 e] w fun r w' => r = .returned (.bool true) ∧ Below w.heap.size w w' := by
  have HLI := Lib.hid (lives10 hAll)
  have hbx := hX.bd; have hby := hY.bd
  have hc : colErr X L t e = 5 := by unfold colErr; rw [if_neg (by rw [hX.len]; omega), if_neg (by omega), if_pos (by rw [hX.len]; exact h)]
  have HER := Lib.hid (fun (b : Nat) (W : World) (hf : Fld W b) (hx : Pa W aX L cX X) (hy : Pa W aY L cY Y) => hAll.1 b L L t e aX cX X aY cY Y W hf hx hy hT hE (by omega) (by omega) (by rw [hc]; decide))
  rw [hc] at HER
  have HX := Lib.hid hX; have HY := Lib.hid hY
  have q6 : ¬ (7 : Int) < (L : Int) := by omega
  have q7 : ¬ (7 : Int) < (L : Int) := by omega
  have q1 : ((L : Int) != (L : Int)) = false := by simp
  clear hAll hX hY hT hE hc 
  go_enter Try.func3, Try.ntmps3
  go_wp2_with (first
    | (go_at_call 6; go_loud (refine (HLI.out _).mono ?_; rintro e w1 ⟨rfl, hb⟩; have HB1 := Lib.hid hb; clear hb))
    | (go_at_call 8; go_loud (refine (new_any _).mono ?_; rintro e w2 ⟨b, rfl, hb0, hf, hbel⟩; have HB2 := Lib.hid (bt HB1.out hbel); have HC := Lib.hid (HER.out b w2 hf (HX.out.on HB2.out) (HY.out.on HB2.out)); clear hf hbel hb0))
    | (go_at_call 7; go_loud (refine HC.out.mono ?_; rintro e w3 ⟨a3, c3, rfl, hb3⟩; have HB3 := Lib.hid (bt HB2.out hb3); have HP3 := Lib.hid (rplaces_any aX L cX X w3 (HX.out.on HB3.out)); clear hb3))
    | (go_at_call 9; go_loud (refine HP3.out.mono ?_; rintro e w4 ⟨rfl, hb4⟩; have HB4 := Lib.hid (bt HB3.out hb4); clear hb4)))
  go_ret
  exact ⟨rfl, HB3.out⟩
theorem mc_e6 (hAll : ColAll) (t e : Int) (L : Nat) (aX : Option Addr) (cX : Nat) (X : List GF) (aY : Option Addr) (cY : Nat) (Y : List GF) (w : World) (hX : Pa w aX L cX X) (hY : Pa w aY L cY Y) (hT : (Lit.int .i64 t).wf = true) (hE : (Lit.int .i64 e).wf = true) (hL : L ≤ 7) (h1 : ¬ t < 1) (h2 : ¬ 255 < t) (h3 : ¬ e < 0) (h4 : ¬ (L : Int) < t) (h : plErr X ≠ 0) :
    Calls Try.prog 3 #[.int .i64 t, .slice aX L cX, .slice aY L cY, .int .i64 e] w fun r w' => r = .returned (.bool true) ∧ Below w.heap.size w w' := by
  have HLI := Lib.hid (lives10 hAll)
  have hbx := hX.bd; have hby := hY.bd
  have hc : colErr X L t e = (plErr X) := by unfold colErr; rw [if_neg (by rw [hX.len]; omega), if_neg (by omega), if_neg (by rw [hX.len]; exact h4)]
  have HER := Lib.hid (fun (b : Nat) (W : World) (hf : Fld W b) (hx : Pa W aX L cX X) (hy : Pa W aY L cY Y) => hAll.1 b L L t e aX cX X aY cY Y W hf hx hy hT hE (by omega) (by omega) (by rw [hc]; exact h))
  rw [hc] at HER
  have HX := Lib.hid hX; have HY := Lib.hid hY
  have q6 : ¬ (7 : Int) < (L : Int) := by omega
  have q7 : ¬ (7 : Int) < (L : Int) := by omega
  have q1 : ((L : Int) != (L : Int)) = false := by simp
  have q2 : (plErr X != 0) = true := by rw [bne_iff_ne]; exact h
  clear hAll hX hY hT hE hc h
  go_enter Try.func3, Try.ntmps3
  go_wp2_with (first
    | (go_at_call 6; go_loud (refine (HLI.out _).mono ?_; rintro e w1 ⟨rfl, hb⟩; have HB1 := Lib.hid hb; clear hb))
    | (go_at_call 8; go_loud (refine (new_any _).mono ?_; rintro e w2 ⟨b, rfl, hb0, hf, hbel⟩; have HB2 := Lib.hid (bt HB1.out hbel); have HC := Lib.hid (HER.out b w2 hf (HX.out.on HB2.out) (HY.out.on HB2.out)); clear hf hbel hb0))
    | (go_at_call 7; go_loud (refine HC.out.mono ?_; rintro e w3 ⟨a3, c3, rfl, hb3⟩; have HB3 := Lib.hid (bt HB2.out hb3); have HP3 := Lib.hid (rplaces_any aX L cX X w3 (HX.out.on HB3.out)); clear hb3))
    | (go_at_call 9; go_loud (refine HP3.out.mono ?_; rintro e w4 ⟨rfl, hb4⟩; have HB4 := Lib.hid (bt HB3.out hb4); clear hb4)))
  go_ret
  exact ⟨rfl, HB4.out⟩
set_option maxHeartbeats 2000000 in
theorem mc_ok (hAll : ColAll) (t : Nat) (e : Int) (L : Nat) (aX : Option Addr) (cX : Nat) (X : List GF) (aY : Option Addr) (cY : Nat) (Y : List GF) (w : World) (hX : Pa w aX L cX X) (hY : Pa w aY L cY Y) (hE : (Lit.int .i64 e).wf = true) (hL : L ≤ 7) (ht : 1 ≤ t) (htL : t ≤ L) (he : 0 ≤ e) (hp : plErr X = 0) :
    Calls Try.prog 3 #[.int .i64 (t : Nat), .slice aX L cX, .slice aY L cY, .int .i64 e] w fun r w' => r = .returned (.bool true) ∧ Below w.heap.size w w' := by
  have HLI := Lib.hid (lives10 hAll)
  have hbx := hX.bd; have hby := hY.bd
  have HA := Lib.hid (plErr_zero.1 hp).2.2
  have HC0 := Lib.hid (fun (b : Nat) (W : World) (hf : Fld W b) (hx : Pa W aX L cX X) (hy : Pa W aY L cY Y) => col_both hAll b L t e aX cX X aY cY Y W hf hx hy hE he ht htL (by omega) hp)
  have HR0 := Lib.hid (fun (W : World) (hx : Pa W aX L cX X) (hy : Pa W aY L cY Y) => refCol_any t L e aX cX X aY cY Y W hx hy ht htL hL HA.out he hE)
  have HX := Lib.hid hX; have HY := Lib.hid hY
  have HPE := Lib.hid hp
  have q6 : ¬ (7 : Int) < (L : Int) := by omega
  have q1 : ((L : Int) != (L : Int)) = false := by simp
  have q2 : ¬ (t : Int) < 1 := by omega
  have q3 : ¬ (255 : Int) < (t : Int) := by omega
  have q4 : ¬ e < 0 := by omega
  have q5 : ¬ (L : Int) < (t : Int) := by omega
  clear hAll hX hY hE hp ht htL he hL
  go_enter Try.func3, Try.ntmps3
  go_upto_region 14 with (first
    | (go_at_call 6; go_loud (refine (HLI.out _).mono ?_; rintro e w1 ⟨rfl, hb⟩; have HB1 := Lib.hid hb; clear hb))
    | (go_at_call 8; go_loud (refine (new_any _).mono ?_; rintro e w2 ⟨b, rfl, hb0, hf, hbel⟩; have HB2 := Lib.hid (bt HB1.out hbel); have HC := Lib.hid (HC0.out b w2 hf (HX.out.on HB2.out) (HY.out.on HB2.out)); clear hf hbel hb0))
    | (go_at_call 7; go_loud (refine HC.out.mono ?_; rintro e w3 ⟨a3, n3, c3, er, rfl, hor, hb3⟩; have HOR := Lib.hid hor; have HB3 := Lib.hid (bt HB2.out hb3); have HP3 := Lib.hid (rplaces_any aX L cX X w3 (HX.out.on HB3.out)); rw [HPE.out] at HP3; clear hor hb3))
    | (go_at_call 9; go_loud (refine HP3.out.mono ?_; rintro e w4 ⟨rfl, hb4⟩; have HB4 := Lib.hid (bt HB3.out hb4); have HB34 := Lib.hid hb4; have HRC := Lib.hid (HR0.out w4 (HX.out.on HB4.out) (HY.out.on HB4.out)); clear hb4)))
  go_upto_region 15 with (go_at_call 10; go_loud (refine HRC.out.mono ?_; rintro e w5 ⟨a5, n5, c5, ok, rfl, hor, hb5⟩; have HOR5 := Lib.hid hor; have HB5 := Lib.hid (bt HB4.out hb5); have HB35 := Lib.hid (bt HB34.out hb5); clear hor hb5))
  rcases HOR.out with ⟨rfl, p, hp, rfl, hpp⟩ | ⟨rfl, rfl, hno⟩
  · rcases HOR5.out with ⟨rfl, q, hq, rfl, hpq, -⟩ | ⟨rfl, rfl, hno⟩
    · have e1 : p = q := RightP.uniq HA.out hp hq
      subst e1
      have k1 := (hpp.on HB35.out).str
      have k2 := hpq.str
      have d1 := hpp.bd
      have d2 := hpq.bd
      obtain ⟨n, hn⟩ : ∃ n, n = p.length := ⟨_, rfl⟩
      rw [← hn] at k1 k2 d1 d2 ⊢
      clear hp hq hpp hpq hn
      go_wp2
      go_ret
      exact ⟨rfl, HB5.out⟩
    · exact absurd hp (hno p)
  · rcases HOR5.out with ⟨rfl, q, hq, rfl, hpq, -⟩ | ⟨rfl, rfl, hno2⟩
    · exact absurd hq (hno q)
    · clear hno hno2
      go_wp2
      go_ret
      exact ⟨rfl, HB5.out⟩
theorem mendColumns_any (hAll : ColAll) (t e : Int) (L : Nat) (aX : Option Addr) (cX : Nat) (X : List GF) (K : Nat) (aY : Option Addr) (cY : Nat) (Y : List GF) (w : World) (hX : Pa w aX L cX X) (hY : Pa w aY K cY Y) (hT : (Lit.int .i64 t).wf = true) (hE : (Lit.int .i64 e).wf = true) :
    Calls Try.prog 3 #[.int .i64 t, .slice aX L cX, .slice aY K cY, .int .i64 e] w fun r w' => r = .returned (.bool true) ∧ Below w.heap.size w w' := by
  by_cases a1 : 7 < L
  · exact mc_long1 hAll t e L aX cX X K aY cY Y w hX hY hT hE a1
  by_cases a2 : 7 < K
  · exact mc_long2 hAll t e L aX cX X K aY cY Y w hX hY hT hE (by omega) a2
  by_cases h0 : L = K
  · subst h0
    by_cases h1 : t < 1
    · exact mc_e2 hAll t e L aX cX X aY cY Y w hX hY hT hE (by omega) h1
    by_cases h2 : 255 < t
    · exact mc_e3 hAll t e L aX cX X aY cY Y w hX hY hT hE (by omega) h1 h2
    by_cases h3 : e < 0
    · exact mc_e4 hAll t e L aX cX X aY cY Y w hX hY hT hE (by omega) h1 h2 h3
    by_cases h4 : (L : Int) < t
    · exact mc_e5 hAll t e L aX cX X aY cY Y w hX hY hT hE (by omega) h1 h2 h3 h4
    by_cases h5 : plErr X = 0
    · obtain ⟨T, rfl⟩ : ∃ T : Nat, t = (T : Int) := ⟨t.toNat, by omega⟩
      exact mc_ok hAll T e L aX cX X aY cY Y w hX hY hE (by omega) (by omega) (by omega) (by omega) h5
    · exact mc_e6 hAll t e L aX cX X aY cY Y w hX hY hT hE (by omega) h1 h2 h3 h4 h5
  · exact mc_e1 hAll t e L aX cX X K aY cY Y w hX hY hT hE (by omega) (by omega) h0
end Go.Proofs.Ytfmjfdbbjggcpaa
