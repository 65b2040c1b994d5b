/- Package crew: how supers stand to one another; most, tell, enough; cmp's functions. -/
import Derived.Test.YtbijakhdngbjmaaGa
namespace Go.Proofs.Ytbijakhdngbjmaa
open Go.ChangeShapes Go.WideShapes Go.ChangeAt Go.RowKit Go.Shelf
set_option linter.unusedVariables false
set_option linter.unusedSimpArgs false
set_option maxRecDepth 100000
attribute [local go_sem] Oper.semAt_some

theorem nan32 (x : Int) (w : World) : Calls Try.prog 32 #[.int .u32 x] w fun e w' => e = .returned (.bool false) ∧ w = w' := by
  have h : (x != x) = false := by simp
  go_enter Try.func32, Try.ntmps32
  go_wp2
  go_ret
  exact ⟨rfl, rfl⟩
theorem nan8 (x : Int) (w : World) : Calls Try.prog 33 #[.int .u8 x] w fun e w' => e = .returned (.bool false) ∧ w = w' := by
  have h : (x != x) = false := by simp
  go_enter Try.func33, Try.ntmps33
  go_wp2
  go_ret
  exact ⟨rfl, rfl⟩
theorem cmp32 (x y : Int) (w : World) : Calls Try.prog 29 #[.int .u32 x, .int .u32 y] w fun e w' => e = .returned (.int .i64 (cmpI x y)) ∧ w = w' := by
  have H1 := Lib.hid (nan32 x w)
  have H2 := Lib.hid (nan32 y w)
  obtain ⟨r, hr⟩ : ∃ r, r = cmpI x y := ⟨_, rfl⟩
  rw [← hr]
  have HR := Lib.hid hr
  clear hr
  go_enter Try.func29, Try.ntmps29
  go_upto_if 11 with (first
    | (go_at_call 32; go_loud (refine H1.out.mono ?_; rintro e w' ⟨rfl, rfl⟩))
    | (go_at_call 32; go_loud (refine H2.out.mono ?_; rintro e w' ⟨rfl, rfl⟩)))
  by_cases h1 : x < y
  · have e : r = -1 := by rw [HR.out]; unfold cmpI; rw [if_pos h1]
    have HE := Lib.hid e
    clear e
    go_wp2
    go_ret
    exact ⟨by rw [HE.out]; rfl, rfl⟩
  · by_cases h2 : y < x
    · have e : r = 1 := by rw [HR.out]; unfold cmpI; rw [if_neg h1, if_pos h2]
      have HE := Lib.hid e
      clear e
      go_wp2
      go_ret
      exact ⟨by rw [HE.out]; rfl, rfl⟩
    · have e : r = 0 := by rw [HR.out]; unfold cmpI; rw [if_neg h1, if_neg h2]
      have HE := Lib.hid e
      clear e
      go_wp2
      go_ret
      exact ⟨by rw [HE.out]; rfl, rfl⟩
theorem cmp8 (x y : Int) (w : World) : Calls Try.prog 30 #[.int .u8 x, .int .u8 y] w fun e w' => e = .returned (.int .i64 (cmpI x y)) ∧ w = w' := by
  have H1 := Lib.hid (nan8 x w)
  have H2 := Lib.hid (nan8 y w)
  obtain ⟨r, hr⟩ : ∃ r, r = cmpI x y := ⟨_, rfl⟩
  rw [← hr]
  have HR := Lib.hid hr
  clear hr
  go_enter Try.func30, Try.ntmps30
  go_upto_if 11 with (first
    | (go_at_call 33; go_loud (refine H1.out.mono ?_; rintro e w' ⟨rfl, rfl⟩))
    | (go_at_call 33; go_loud (refine H2.out.mono ?_; rintro e w' ⟨rfl, rfl⟩)))
  by_cases h1 : x < y
  · have e : r = -1 := by rw [HR.out]; unfold cmpI; rw [if_pos h1]
    have HE := Lib.hid e
    clear e
    go_wp2
    go_ret
    exact ⟨by rw [HE.out]; rfl, rfl⟩
  · by_cases h2 : y < x
    · have e : r = 1 := by rw [HR.out]; unfold cmpI; rw [if_neg h1, if_pos h2]
      have HE := Lib.hid e
      clear e
      go_wp2
      go_ret
      exact ⟨by rw [HE.out]; rfl, rfl⟩
    · have e : r = 0 := by rw [HR.out]; unfold cmpI; rw [if_neg h1, if_neg h2]
      have HE := Lib.hid e
      clear e
      go_wp2
      go_ret
      exact ⟨by rw [HE.out]; rfl, rfl⟩
/-- The first number that isn't 0. -/
def orL : List Int → Int
  | [] => 0
  | x :: r => if x ≠ 0 then x else orL r
theorem drop_getD {l : List Int} {k : Nat} (h : k < l.length) : l.drop k = l.getD k 0 :: l.drop (k + 1) := by
  rw [List.drop_eq_getElem_cons h, List.getD_eq_getElem?_getD, List.getElem?_eq_getElem h]; rfl
theorem or_IA (a : Option Addr) (L c : Nat) (l : List Int) (w : World) (hI : IA w a L c l) :
    Calls Try.prog 28 #[.slice a L c] w fun e w' => e = .returned (.int .i64 (orL l)) ∧ w = w' := by
  obtain ⟨r, hr⟩ : ∃ r, r = orL l := ⟨_, rfl⟩
  rw [← hr]
  have hl : l.length = L := hI.1
  obtain ⟨hb1, hb2⟩ := hI.bd
  have HL := Lib.hid hl
  have HI := Lib.hid hI
  have HR := Lib.hid hr
  clear hr hl hI
  go_enter Try.func28, Try.ntmps28
  go_wp2
  go_loopw [8] (fun iv wr => ∃ k : Nat, k ≤ L ∧ iv = .int .i64 (k : Nat) ∧ Hid (r = orL (l.drop k)) ∧ wr = w) (fun iv _ => L - (intOf iv).toNat)
  case atStart => exact ⟨0, Nat.zero_le _, rfl, Lib.hid HR.out, rfl⟩
  case round =>
    obtain ⟨k, hk, rfl, hK, rfl⟩ := hrel
    by_cases hlt : k < L
    · obtain ⟨b, off, rfl, hb, hc⟩ := HI.out.at_ hlt
      obtain ⟨z, hz⟩ : ∃ z, z = l.getD k 0 := ⟨_, rfl⟩
      have HD := Lib.hid (drop_getD (l := l) (k := k) (by rw [HL.out]; exact hlt))
      rw [← hz] at hc HD
      have HLT := Lib.hid hlt
      have q1 : (k : Int) < (L : Int) := by omega
      clear hz hlt hb
      by_cases h0 : z = 0
      · have hz2 : (z != 0) = false := by simp [h0]
        have HK2 := Lib.hid (show r = orL (l.drop (k + 1)) by rw [hK.out, HD.out, orL, if_neg (by simp [h0])])
        clear h0
        go_wp2
        go_roundw
        case rel => exact ⟨k + 1, HLT.out, by go_num, HK2, trivial⟩
        case measure => simp [intOf]; have := HLT.out; omega
      · have hz2 : (z != 0) = true := by simp [h0]
        have HK2 := Lib.hid (show r = z by rw [hK.out, HD.out, orL, if_pos h0])
        clear h0
        go_wp2
        go_ret
        exact ⟨by rw [HK2.out]; rfl, rfl⟩
    · obtain rfl : k = L := by omega
      have HK2 := Lib.hid (show r = 0 by rw [hK.out, List.drop_of_length_le (by rw [HL.out]; omega)]; rfl)
      have q1 : ¬ (k : Int) < (k : Int) := by omega
      go_wp2
      go_ret
      exact ⟨by rw [HK2.out]; rfl, rfl⟩
/-- A super's number by an address. -/
theorem su_cells (P : SU) (W : World) : (W.alloc (.cells (tabV 276 (suV P)) 35)).cell? ⟨W.heap.size, 8, none⟩ = some (.int .u8 P.p) ∧ (W.alloc (.cells (tabV 276 (suV P)) 35)).cell? ⟨W.heap.size, 14, none⟩ = some (.int .u32 P.bo) ∧ (W.alloc (.cells (tabV 276 (suV P)) 35)).cell? ⟨W.heap.size, 15, none⟩ = some (.int .u32 P.ep) :=
  ⟨(su_box P W).2.num.1, (su_box P W).2.num.2.2.2.2.2.2.1, (su_box P W).2.num.2.2.2.2.2.2.2.1⟩
theorem ageI_or (P Q : SU) : orL [cmpI P.bo Q.bo, cmpI P.ep Q.ep, cmpI Q.p P.p] = ageI P Q := by
  unfold ageI
  simp only [orL]
  by_cases h1 : cmpI P.bo Q.bo = 0
  · by_cases h2 : cmpI P.ep Q.ep = 0
    · by_cases h3 : cmpI Q.p P.p = 0
      · simp [h1, h2, h3]
      · simp [h1, h2, h3]
    · simp [h1, h2]
  · simp [h1]
theorem cmpI_64 (x y : Int) : -9223372036854775808 ≤ cmpI x y ∧ cmpI x y ≤ 9223372036854775807 := by
  unfold cmpI
  split
  · omega
  · split <;> omega
theorem ia3 (W : World) (x y z : Int) (hx : -9223372036854775808 ≤ x ∧ x ≤ 9223372036854775807) (hy : -9223372036854775808 ≤ y ∧ y ≤ 9223372036854775807) (hz : -9223372036854775808 ≤ z ∧ z ≤ 9223372036854775807) : IA (W.alloc (.cells #[.int .i64 x, .int .i64 y, .int .i64 z] 3)) (some ⟨W.heap.size, 0, none⟩) 3 3 [x, y, z] := by
  refine ⟨rfl, Nat.le_refl _, by unfold maxLen; omega, fun h => (by cases h), fun i => ?_, fun _ => ⟨W.heap.size, 0, rfl, by simp, fun i hi => ?_⟩⟩
  · match i with
    | 0 => exact hx
    | 1 => exact hy
    | 2 => exact hz
    | i + 3 => exact ⟨by show (-9223372036854775808 : Int) ≤ 0; decide, by show (0 : Int) ≤ 9223372036854775807; decide⟩
  · rw [cell_of_row _ _ _ _ _ _ (heap_alloc_new W _)]
    match i, hi with
    | 0, _ => rfl
    | 1, _ => rfl
    | 2, _ => rfl
set_option maxHeartbeats 4000000 in
theorem byAge_any (P Q : SU) (w : World) :
    Calls Try.prog 24 #[suA P, suA Q] w fun e w' => e = .returned (.int .i64 (ageI P Q)) ∧ Below w.heap.size w w' := by
  obtain ⟨hwA, hSA⟩ := su_box P w
  obtain ⟨s0, hs0⟩ : ∃ s, s = tabV 276 (suV P) := ⟨_, rfl⟩
  obtain ⟨s1, hs1⟩ : ∃ s, s = tabV 276 (suV Q) := ⟨_, rfl⟩
  obtain ⟨A1, hA1⟩ : ∃ A, A = w.alloc (.cells s0 35) := ⟨_, rfl⟩
  rw [← hs0, ← hA1] at hwA hSA
  obtain ⟨hwB, hSB⟩ := su_box Q A1
  rw [← hs1] at hwB hSB
  have hA1s : A1.heap.size = w.heap.size + 1 := by rw [hA1]; simp
  obtain ⟨A, hA⟩ : ∃ A, A = A1.alloc (.cells s1 35) := ⟨_, rfl⟩
  rw [← hA] at hwB hSB
  have hSA2 := hSA.on hwB
  rw [hA1s] at hSB
  unfold suA
  rw [← hs0, ← hs1]
  obtain ⟨p1, -, -, -, -, -, b1, e1, -⟩ := hSA2.num
  obtain ⟨p2, -, -, -, -, -, b2, e2, -⟩ := hSB.num
  have HAS := Lib.hid (show A.heap.size = w.heap.size + 2 by rw [hA]; simp; omega)
  have y1 : ∀ W, Below A.heap.size A W → W.cell? ⟨w.heap.size, 8, none⟩ = some (.int .u8 P.p) := fun W hW => (hSA2.on hW).num.1
  have y2 : ∀ W, Below A.heap.size A W → W.cell? ⟨w.heap.size, 14, none⟩ = some (.int .u32 P.bo) := fun W hW => (hSA2.on hW).num.2.2.2.2.2.2.1
  have y3 : ∀ W, Below A.heap.size A W → W.cell? ⟨w.heap.size, 15, none⟩ = some (.int .u32 P.ep) := fun W hW => (hSA2.on hW).num.2.2.2.2.2.2.2.1
  have z1 : ∀ W, Below A.heap.size A W → W.cell? ⟨w.heap.size + 1, 8, none⟩ = some (.int .u8 Q.p) := fun W hW => (hSB.on hW).num.1
  have z2 : ∀ W, Below A.heap.size A W → W.cell? ⟨w.heap.size + 1, 14, none⟩ = some (.int .u32 Q.bo) := fun W hW => (hSB.on hW).num.2.2.2.2.2.2.1
  have z3 : ∀ W, Below A.heap.size A W → W.cell? ⟨w.heap.size + 1, 15, none⟩ = some (.int .u32 Q.ep) := fun W hW => (hSB.on hW).num.2.2.2.2.2.2.2.1
  obtain ⟨c1, hc1⟩ : ∃ c, c = cmpI P.bo Q.bo := ⟨_, rfl⟩
  obtain ⟨c2, hc2⟩ : ∃ c, c = cmpI P.ep Q.ep := ⟨_, rfl⟩
  obtain ⟨c3, hc3⟩ : ∃ c, c = cmpI Q.p P.p := ⟨_, rfl⟩
  have HE := Lib.hid (show orL [c1, c2, c3] = ageI P Q by rw [hc1, hc2, hc3]; exact ageI_or P Q)
  have H1 := Lib.hid (show ∀ W, Calls Try.prog 29 #[.int .u32 P.bo, .int .u32 Q.bo] W fun e w' => e = .returned (.int .i64 c1) ∧ W = w' by rw [hc1]; exact fun W => cmp32 _ _ W)
  have H2 := Lib.hid (show ∀ W, Calls Try.prog 29 #[.int .u32 P.ep, .int .u32 Q.ep] W fun e w' => e = .returned (.int .i64 c2) ∧ W = w' by rw [hc2]; exact fun W => cmp32 _ _ W)
  have H3 := Lib.hid (show ∀ W, Calls Try.prog 30 #[.int .u8 Q.p, .int .u8 P.p] W fun e w' => e = .returned (.int .i64 c3) ∧ W = w' by rw [hc3]; exact fun W => cmp8 _ _ W)
  have H4 := Lib.hid (show ∀ W : World, Calls Try.prog 28 #[.slice (some ⟨W.heap.size, 0, none⟩) 3 3] (W.alloc (.cells #[.int .i64 c1, .int .i64 c2, .int .i64 c3] 3)).drew fun e w' => e = .returned (.int .i64 (ageI P Q)) ∧ (W.alloc (.cells #[.int .i64 c1, .int .i64 c2, .int .i64 c3] 3)).drew = w' from fun W => by
    rw [← HE.out]
    exact or_IA _ _ _ _ _ ((ia3 W c1 c2 c3 (by rw [hc1]; exact cmpI_64 _ _) (by rw [hc2]; exact cmpI_64 _ _) (by rw [hc3]; exact cmpI_64 _ _)).on (Below.refl _ _).drew))
  have HA := Lib.hid (show A = (w.alloc (.cells s0 35)).alloc (.cells s1 35) by rw [hA, hA1])
  have HB := Lib.hid (bt hwA hwB)
  clear hs0 hs1 hwA hSA hA1 hA1s hA hwB hSB hSA2 p1 p2 b1 b2 e1 e2 hc1 hc2 hc3
  go_enter Try.func24, Try.ntmps24
  go_upto_region 1 with fail
  rw [← HA.out]
  go_region_held (fun W => Below A.heap.size A W) (first | assumption | exact (Below.refl _ _).drew | (refine Below.drew ?_; assumption) | exact ((Below.refl _ _).drew).alloc (Nat.le_refl _) _)
    (first
      | (go_at_call 29; (with_reducible refine (H1.out _).mono ?_); rintro e w3 ⟨rfl, rfl⟩)
      | (go_at_call 29; (with_reducible refine (H2.out _).mono ?_); rintro e w3 ⟨rfl, rfl⟩)
      | (go_at_call 30; (with_reducible refine (H3.out _).mono ?_); rintro e w3 ⟨rfl, rfl⟩)
      | (go_at_call 28; (with_reducible refine (H4.out _).mono ?_); rintro e w3 ⟨rfl, rfl⟩))
  go_wp2
  go_ret
  exact ⟨rfl, (HB.out.alloc HB.out.size _).drew⟩
theorem most_any (P : SU) (hP : P.Wf) (k : Nat) (hk : k ≤ 1000) (w : World) :
    Calls Try.prog 18 #[suA P, .int .i64 (k : Nat)] w fun e w' => e = .returned (.bool (decide (P.n < 2 * (k : Int)))) ∧ Below w.heap.size w w' := by
  obtain ⟨HB, HS⟩ := su_box P w
  have c9 := HS.num.2.1
  have HB := Lib.hid HB
  obtain ⟨s0, hs0⟩ : ∃ s, s = tabV 276 (suV P) := ⟨_, rfl⟩
  obtain ⟨r, hr⟩ : ∃ r, r = decide (P.n < 2 * (k : Int)) := ⟨_, rfl⟩
  have HR := Lib.hid hr
  rw [← hr]
  unfold suA
  rw [← hs0] at HB c9 ⊢
  have hn := hP.n
  unfold byteI at hn
  have w1 := IntWalk.i64_in P.n (by omega)
  clear hs0 HS hr
  go_enter Try.func18, Try.ntmps18
  go_wp2
  go_ret
  exact ⟨by rw [HR.out]; rfl, HB.out⟩
theorem tell_any (P : SU) (hP : P.Wf) (k : Nat) (hk : k ≤ 1000) (w : World) :
    Calls Try.prog 26 #[suA P, .int .i64 (k : Nat)] w fun e w' => e = .returned (.bool (decide (P.t ≤ (k : Int)))) ∧ Below w.heap.size w w' := by
  obtain ⟨HB, HS⟩ := su_box P w
  have c9 := HS.num.2.2.1
  have HB := Lib.hid HB
  obtain ⟨s0, hs0⟩ : ∃ s, s = tabV 276 (suV P) := ⟨_, rfl⟩
  obtain ⟨r, hr⟩ : ∃ r, r = decide (P.t ≤ (k : Int)) := ⟨_, rfl⟩
  have HR := Lib.hid hr
  rw [← hr]
  unfold suA
  rw [← hs0] at HB c9 ⊢
  have hn := hP.t
  unfold byteI at hn
  have w1 := IntWalk.i64_in P.t (by omega)
  clear hs0 HS hr
  go_enter Try.func26, Try.ntmps26
  go_wp2
  go_ret
  exact ⟨by rw [HR.out]; rfl, HB.out⟩
/-- Are so many enough? -/
def enI (P : SU) (k : Nat) : Int := if P.t ≤ (k : Int) ∧ P.n < 2 * (k : Int) then 0 else 12
theorem enough_any (P : SU) (hP : P.Wf) (k : Nat) (hk : k ≤ 1000) (w : World) :
    Calls Try.prog 19 #[suA P, .int .i64 (k : Nat)] w fun e w' => e = .returned (.int .i64 (enI P k)) ∧ Below w.heap.size w w' := by
  obtain ⟨HB, HS⟩ := su_box P w
  have HB := Lib.hid HB
  have H1 := Lib.hid (fun W => tell_any P hP k hk W)
  have H2 := Lib.hid (fun W => most_any P hP k hk W)
  obtain ⟨r, hr⟩ : ∃ r, r = enI P k := ⟨_, rfl⟩
  rw [← hr]
  have HR := Lib.hid hr
  have HS1 := Lib.hid HS
  obtain ⟨b1, hb1⟩ : ∃ b, b = decide (P.t ≤ (k : Int)) := ⟨_, rfl⟩
  obtain ⟨b2, hb2⟩ : ∃ b, b = decide (P.n < 2 * (k : Int)) := ⟨_, rfl⟩
  have HR2 := Lib.hid (show r = if b1 = true ∧ b2 = true then 0 else 12 by rw [hr, hb1, hb2]; unfold enI; simp only [decide_eq_true_eq])
  rw [← hb1] at H1
  rw [← hb2] at H2
  obtain ⟨s0, hs0⟩ : ∃ s, s = tabV 276 (suV P) := ⟨_, rfl⟩
  have HS0 := Lib.hid (show s0.size = 276 by rw [hs0, size_tabV])
  have HRW := Lib.hid (show (w.alloc (.cells s0 35)).heap[w.heap.size]? = some (.cells s0 35 (0, 0)) from heap_alloc_new w _)
  unfold suA at H1 H2 ⊢
  rw [← hs0] at HB H1 H2 ⊢
  clear hs0 HS hr hb1 hb2
  cases b1 with
  | false =>
    have HE := Lib.hid (show r = 12 by rw [HR2.out]; simp)
    clear HR2
    go_enter Try.func19, Try.ntmps19
    go_wp2_with (first
      | ((with_reducible show wpList _ _ _ (⟨some 5, _, _, _, _, _⟩ :: _) _ _); go_loud (refine wpList_load_row rfl 35 (.tmp 2) rfl w.heap.size rfl 35 s0 (0, 0) _ HRW.out Try.underlying35 rfl (by rw [HS0.out]; exact sizeSu) ?_))
      | (go_at_call 26; go_loud ((with_reducible refine (H1.out _).mono ?_); rintro e w1 ⟨rfl, hb⟩; have HB1 := Lib.hid (bt HB.out hb); clear hb)))
    go_ret
    exact ⟨by rw [HE.out]; rfl, HB1.out⟩
  | true =>
    cases b2 with
    | false =>
      have HE := Lib.hid (show r = 12 by rw [HR2.out]; simp)
      clear HR2
      go_enter Try.func19, Try.ntmps19
      go_wp2_with (first
        | ((with_reducible show wpList _ _ _ (⟨some 5, _, _, _, _, _⟩ :: _) _ _); go_loud (refine wpList_load_row rfl 35 (.tmp 2) rfl w.heap.size rfl 35 s0 (0, 0) _ HRW.out Try.underlying35 rfl (by rw [HS0.out]; exact sizeSu) ?_))
        | ((with_reducible show wpList _ _ _ (⟨some 10, _, _, _, _, _⟩ :: _) _ _); go_loud (refine wpList_load_rowG (by rfl) 35 (.tmp 2) rfl w.heap.size rfl 35 s0 (0, 0) _ HRW2.out Try.underlying35 rfl (by rw [HS0.out]; exact sizeSu) ?_))
        | (go_at_call 26; go_loud ((with_reducible refine (H1.out _).mono ?_); rintro e w1 ⟨rfl, hb⟩; have HB1 := Lib.hid (bt HB.out hb); have HRW2 := Lib.hid ((hb.block _ (by simp)).trans HRW.out); clear hb))
        | (go_at_call 18; go_loud ((with_reducible refine (H2.out _).mono ?_); rintro e w2 ⟨rfl, hb⟩; have HB2 := Lib.hid (bt HB1.out hb); clear hb)))
      go_ret
      exact ⟨by rw [HE.out]; rfl, HB2.out⟩
    | true =>
      have HE := Lib.hid (show r = 0 by rw [HR2.out]; simp)
      clear HR2
      go_enter Try.func19, Try.ntmps19
      go_wp2_with (first
        | ((with_reducible show wpList _ _ _ (⟨some 5, _, _, _, _, _⟩ :: _) _ _); go_loud (refine wpList_load_row rfl 35 (.tmp 2) rfl w.heap.size rfl 35 s0 (0, 0) _ HRW.out Try.underlying35 rfl (by rw [HS0.out]; exact sizeSu) ?_))
        | ((with_reducible show wpList _ _ _ (⟨some 10, _, _, _, _, _⟩ :: _) _ _); go_loud (refine wpList_load_rowG (by rfl) 35 (.tmp 2) rfl w.heap.size rfl 35 s0 (0, 0) _ HRW2.out Try.underlying35 rfl (by rw [HS0.out]; exact sizeSu) ?_))
        | (go_at_call 26; go_loud ((with_reducible refine (H1.out _).mono ?_); rintro e w1 ⟨rfl, hb⟩; have HB1 := Lib.hid (bt HB.out hb); have HRW2 := Lib.hid ((hb.block _ (by simp)).trans HRW.out); clear hb))
        | (go_at_call 18; go_loud ((with_reducible refine (H2.out _).mono ?_); rintro e w2 ⟨rfl, hb⟩; have HB2 := Lib.hid (bt HB1.out hb); clear hb)))
      go_ret
      exact ⟨by rw [HE.out]; rfl, HB2.out⟩
end Go.Proofs.Ytbijakhdngbjmaa
