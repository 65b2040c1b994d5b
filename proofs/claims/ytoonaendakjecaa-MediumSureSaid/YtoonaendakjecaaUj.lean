/- MediumSure under the contracts. -/
import Derived.Test.YtoonaendakjecaaUh
import Derived.Test.YtoonaendakjecaaUm
import Derived.BigQuiet
namespace Go.Proofs.Ytoonaendakjecaa
open Go.ChangeShapes Go.WideShapes Go.ChangeAt Go.RowKit Go.Shelf
set_option linter.unusedVariables false
set_option linter.unusedSimpArgs false
set_option maxRecDepth 100000

/-! ## plain -/
/-- Behind a flush: what stands on the medium is S1's, and each write since is known to f. -/
structure SureI (S1 S : MS) (f : Int → Bool) : Prop where
  good : Good S
  med : S.med = S1.med
  known : ∀ x, x ∈ S.cache → f (x.1 : Nat) = true
theorem SureI.start {S : MS} (h : Good S) : SureI S.flush S.flush (fun _ => false) := ⟨h.flush, rfl, fun x hx => by cases hx⟩
def putE (f : Int → Bool) (z : Int) (e : Int) : Int → Bool := putZ f z (f z || decide (e = 0))
theorem SureI.write {S1 S : MS} {f : Int → Bool} (h : SureI S1 S f) (i : Int) (b : List Int) : SureI S1 (opWrite false S i b (-1) 0).S (putE f i (opWrite false S i b (-1) 0).err) := by
  have hmono : ∀ e y, f y = true → putE f i e y = true := fun e y hy => by
    unfold putE putZ
    by_cases h1 : y = i
    · subst h1; rw [if_pos rfl, hy, Bool.true_or]
    · rw [if_neg h1]; exact hy
  refine opWrite_ind (Q := fun D => SureI S1 D.S (putE f i D.err)) (fun e => ⟨h.good, h.med, fun x hx => hmono e _ (h.known x hx)⟩) (fun hi hb => ⟨h.good.write _ _, h.med, fun x hx => ?_⟩)
  rcases List.mem_append.1 hx with hx | hx
  · exact hmono 0 _ (h.known x hx)
  · rw [List.mem_singleton.1 hx]
    unfold inR at hi
    unfold putE putZ
    rw [if_pos (by simp; omega)]
    simp
theorem SureI.sure {S1 S : MS} {f : Int → Bool} (h : SureI S1 S f) (h1 : S1.cache = []) (ks : List Bool) (i : Nat) : f (i : Nat) = true ∨ sh (S.crash ks) i = sh S1 i := by
  have h2 := MS.shows_crash S ks i
  cases e : lastW (keptW S.cache ks) i with
  | some b => exact .inl (h.known _ (keptW_sub _ _ (lastW_mem _ e)))
  | none =>
    rw [e] at h2
    right
    have h3 : S1.shows i = S1.med i := by unfold MS.shows; rw [h1]; rfl
    unfold sh
    rw [h2, h3, h.med]
theorem opFlush_good {S : MS} (h : Good S) : opFlush false S (-1) 0 = ⟨[], 0, S.flush, -1, 0⟩ := by
  unfold opFlush
  rw [if_neg (by rw [h.up]; simp)]
  rfl
set_option maxHeartbeats 16000000 in
theorem mediumSure_core {R : World → Nat → (Nat → Prop) → MS → Option Nat → Prop} {P : World → Nat → (Nat → Prop) → Int → Nat → Prop} (hM : MediumM R P) (a0 : Option Addr) (L0 c0 : Nat) (a1 : Option Addr) (L1 c1 : Nat) (l : List AC) (kp : List Bool) (w : World)
    (hl : ActA w a0 L0 c0 l) (hk : ArgB w a1 L1 c1 kp) (hfew : (∀ x, x ∈ l → x.kn ≤ 60) ∧ L0 ≤ 60) (hL1 : L1 ≤ 100) :
    Calls Try.prog 5 #[.slice a0 L0 c0, .slice a1 L1 c1] w fun e w' => e = .returned (.bool true) ∧ Below w.heap.size w w' := by
  have HM := Lib.hid hM
  have HL := Lib.hid hl
  have HK := Lib.hid hk
  have HLL := Lib.hid hl.1
  have HFE := Lib.hid hfew
  have HL1 := Lib.hid hL1
  have q1 : ¬ (100 : Int) < (L1 : Int) := by omega
  have hL0 : L0 ≤ 60 := hfew.2
  obtain ⟨fb, hfb⟩ : ∃ fb, fb = decide ((∀ x, x ∈ l → x.kn ≤ 60) ∧ L0 ≤ 60) := ⟨_, rfl⟩
  have HFB := Lib.hid hfb
  have hft : fb = true := by rw [hfb]; exact decide_eq_true hfew
  clear hM hl hk hfew hL1 hfb
  subst hft
  go_enter Try.func5, Try.ntmps5
  go_upto_region 3 with (first
    | (go_at_call 7; go_loud (refine (lives13 HM.out w).mono ?_; rintro e w1 ⟨rfl, hb⟩; have HB1 := Lib.hid hb; clear hb))
    | (go_at_call 8; go_loud (refine (few_any a0 L0 c0 l w1 (HL.out.on HB1.out)).mono ?_; rintro e w2 ⟨rfl, hb⟩; rw [← HFB.out]; have HB2 := Lib.hid (bt HB1.out hb); clear hb)))
  go_upto_region 4 with (go_at_call 9; go_loud (refine (HM.out.new 4 none w2 (by omega) (by omega)).mono ?_; rintro e w3 ⟨tb, F3, rfl, hr, hf, hb⟩; have HW3 := Lib.hid (mwN (P := P) hr (MS.new_ok (by omega) (by omega)) (j := 0) (Nat.le_refl _)); have HI3 := Lib.hid (show ∀ k, F3 k → w.heap.size ≤ k from fun k h => by have h1 := hf k h; have h2 := HB2.out.size; omega); have HB3 := Lib.hid (bt HB2.out hb); clear hr hf hb))
  go_wp2_with fail
  go_loopw [39] (fun q wr => ∃ (k : Nat) (F : Nat → Prop) (S : MS), k ≤ L0 ∧ q = .int .i64 (k : Nat) ∧ MW R P wr tb F S none FN (-1) 0 k ∧ Good S ∧ (∀ k, F k → w.heap.size ≤ k) ∧ Below w.heap.size w wr) (fun q _ => L0 - (intOf q).toNat)
  case atStart => exact ⟨0, F3, MS.new 4, Nat.zero_le _, rfl, HW3.out, Good.new, HI3.out, HB3.out⟩
  case round =>
    obtain ⟨k, F, S, hk, rfl, hmw, hgood, hhi, hbel⟩ := hrel
    rename World => V
    have HMV := Lib.hid hmw
    have HGV := Lib.hid hgood
    have HHV := Lib.hid hhi
    have HBV := Lib.hid hbel
    clear hmw hgood hhi hbel HW3 HI3 HB3
    by_cases hlt : k < L0
    · as_aux_lemma =>
        have HLT := Lib.hid hlt
        obtain ⟨x, hx⟩ : ∃ x, l[k]? = some x := ⟨_, List.getElem?_eq_getElem (by rw [HLL.out]; exact hlt)⟩
        have HLV := Lib.hid (HL.out.on HBV.out)
        have HXV := Lib.hid (HL.out.2.2.2.1 x (List.mem_of_getElem? hx))
        obtain ⟨b, off, rfl, hb, hc⟩ := HLV.out.2.2.2.2 (by omega)
        have hr := hc k x hx
        have hc0 : V.cell? ⟨b, off + k * 4, none⟩ = some (.int .i64 x.kind) := hr 0 _ rfl
        have hc1 : V.cell? ⟨b, off + k * 4 + 1, none⟩ = some (.int .i64 x.at_) := hr 1 _ rfl
        have hc2 : V.cell? ⟨b, off + k * 4 + 2, none⟩ = some (.int .i64 x.x) := hr 2 _ rfl
        have hc3 : V.cell? ⟨b, off + k * 4 + 3, none⟩ = some (.slice x.ka x.kn x.kc) := hr 3 _ rfl
        have qk : (k : Int) < (L0 : Int) := by omega
        obtain ⟨O, hO⟩ : ∃ O, O = Obj.cells #[.int .i64 x.kind, .int .i64 x.at_, .int .i64 x.x, .slice x.ka x.kn x.kc] 31 := ⟨_, rfl⟩
        have hb1 : Below V.heap.size V (V.alloc O) := (Below.refl _ _).alloc (Nat.le_refl _) _
        have HBO := Lib.hid (HBV.out.trans (hb1.mono HBV.out.size))
        have HDO := Lib.hid (do_any HM.out (V.alloc O) tb F S none FN (-1) 0 k w.heap.size x (HMV.out.on HM.out hb1) (by omega) (HXV.out.on HBO.out) (hiN HHV.out) (fun h0 b o e => HXV.out.2.2.2.low h0 e))
        have HKM := Lib.hid (HMV.out.on HM.out hb1)
        have HS0 := Lib.hid (show V.heap.size + 1 = (V.alloc O).heap.size by simp)
        rw [hO] at HDO HBO HKM HS0
        unfold acA at HDO
        clear hlt hx hr hc hb hb1 hO
        by_cases hk3 : x.kind < 3
        · have HGD := Lib.hid (doS_goodD HGV.out hk3)
          go_wp2_with (go_at_call 10; go_loud (refine HDO.out.mono ?_; rintro e W2 ⟨F', rfl, hm, hkb, hf⟩; rw [show (none : Option Nat).isSome = false from rfl] at hm; rw [HGD.out.l, HGD.out.u] at hm; have HM2 := Lib.hid hm; have HF2 := Lib.hid (show ∀ k, F' k → w.heap.size ≤ k from fun k h => by rcases hf k h with h | h; exact HHV.out k h; have h1 := HBO.out.size; omega); have HB2' := Lib.hid (HBO.out.trans (hkb.below (hiN HHV.out) HBO.out.size)); clear hm hkb hf))
          go_roundw
          case rel => exact ⟨k + 1, F', _, HLT.out, by go_num, HM2.out, HGD.out.good, HF2.out, HB2'.out⟩
          case measure => simp [intOf]; have := HLT.out; omega
        · have z3 : ¬ x.kind < 3 := hk3
          go_wp2_with fail
          go_roundw
          case rel => exact ⟨k + 1, F, S, HLT.out, by go_num, HKM.out.more (Nat.le_succ _), HGV.out, HHV.out, HBO.out⟩
          case measure => simp [intOf]; have := HLT.out; omega
    · as_aux_lemma =>
        obtain rfl : k = L0 := by omega
        have HC := Lib.hid (show S.cache.length ≤ 60 by have := HMV.out.few.1; omega)
        have HWV := Lib.hid (show w.heap.size ≤ V.heap.size from HBV.out.size)
        clear hlt hk
        go_upto_region 12 with (go_at_call 24; go_loud (refine (HM.out.flush tb F FN S none (-1) 0 V HMV.out.r HMV.out.p HMV.out.apart HMV.out.ok HMV.out.left (by have := HC.out; omega) (by omega)).mono ?_; rintro e w4 ⟨F4, rfl, hr, hp, hk, hf⟩; rw [show (none : Option Nat).isSome = false from rfl, opFlush_good HGV.out] at hr ⊢; have HR4 := Lib.hid hr; have HF4 := Lib.hid (show ∀ k, F4 k → w.heap.size ≤ k from fun k h => by rcases hf k h with h | h; exact HHV.out k h; have := HWV.out; omega); have HB4 := Lib.hid (show Below w.heap.size w w4 from HBV.out.trans (hk.below (hiN HHV.out) HBV.out.size)); clear hr hp hk hf))
        obtain ⟨S1, hS1⟩ : ∃ S1, S1 = S.flush := ⟨_, rfl⟩
        have HG1 := Lib.hid (show Good S1 by rw [hS1]; exact HGV.out.flush)
        have HK1 := Lib.hid (show S1.Ok by rw [hS1]; exact HMV.out.ok.flush)
        have HC1 := Lib.hid (show S1.cache = [] by rw [hS1]; rfl)
        have HSI := Lib.hid (show SureI S1 S1 (fun _ => false) by rw [hS1]; exact SureI.start HGV.out)
        rw [← hS1] at HR4
        have HFI := Lib.hid (show ∀ j, F4 j → j < w4.heap.size from fun j hj => HM.out.inside HR4.out j hj)
        clear hS1 HMV HGV HHV HC HBV HWV
        have hmk := run_make_row' (P := Try.prog) 38 9 (.string ByteArray.empty) 16 Try.underlying38 infoSt rfl .i64 .i64 4 (by omega) (by omega)
        rw [show ((4 : Nat) : Int) = 2 * 2 from rfl] at hmk
        simp only [Int.reduceMul] at hmk
        have HS0 := Lib.hid (show (w4.alloc (.cells (madeCells #[.string ByteArray.empty] 4) 9)).ownsRow w4.heap.size 9 1 (.slice (some ⟨w4.heap.size, 0, none⟩) 4 4) 4 (strV S1 0) from by rw [strV_zero, ← toList_madeCells_one]; exact World.ownsRow_lit (base := w4.heap.size) (e := 9) (size := 1) w4 (madeCells #[.string ByteArray.empty] 4) 4 (Nat.le_refl _) (by unfold maxLen; omega) (by simp [size_madeCells]))
        have HSB := Lib.hid (show Below w4.heap.size w4 (w4.alloc (.cells (madeCells #[.string ByteArray.empty] 4) 9)) from (Below.refl _ _).alloc (Nat.le_refl _) _)
        go_wp2_with fail
        clear hmk
        obtain ⟨gs, hgs⟩ : ∃ gs, gs = w4.heap.size := ⟨_, rfl⟩
        have HGS := Lib.hid hgs
        rw [← hgs] at HS0 ⊢
        clear hgs
        go_loopw [56] (fun q wr => ∃ m : Nat, m ≤ 4 ∧ q = .int .i64 (m : Nat) ∧ wr.ownsRow gs 9 1 (.slice (some ⟨gs, 0, none⟩) 4 4) 4 (strV S1 m) ∧ Below w4.heap.size w4 wr) (fun q _ => 4 - (intOf q).toNat)
        case atStart => exact ⟨0, by omega, rfl, HS0.out, HSB.out⟩
        case round =>
          obtain ⟨m, hm, rfl, hown, hbel⟩ := hrel
          rename World => U
          have HOU := Lib.hid hown
          have HBU := Lib.hid hbel
          clear hown hbel HS0 HSB
          have HRU := Lib.hid (HM.out.keep HR4.out (fun j hj => HBU.out.block j (HFI.out j hj)))
          by_cases hlt : m < 4
          · as_aux_lemma =>
              have HLT := Lib.hid hlt
              have qm : (m : Int) < 4 := by omega
              clear hlt
              go_upto_region 17 with (go_at_call 14; go_loud (refine (readN HM.out U tb F4 S1 (sh S1 m) HRU.out HK1.out (by rw [HC1.out]; exact Nat.zero_le _) (m : Int) (by unfold i64R; omega) (HG1.out.read HLT.out) (HG1.out.ok HK1.out m).1).mono ?_; rintro e w7 ⟨a7, c7, rfl, ha, hna, hr, hb⟩; have HA7 := Lib.hid ha; have HB7 := Lib.hid (HBU.out.trans (hb.mono HBU.out.size)); have HO7 := Lib.hid (own_belowU HOU.out hb); clear ha hna hr hb))
              have hcv := HA7.out.strU _ (Below.refl _ _)
              obtain ⟨v0, hv0⟩ : ∃ v0, (strV S1 m)[m]? = some v0 := ⟨_, List.getElem?_eq_getElem (by rw [strV_len]; exact HLT.out)⟩
              have hcl := HO7.out.cellAt m (by have := HLT.out; omega)
              rw [hv0] at hcl
              clear hv0
              have hfz := HO7.out.frozenAt m
              go_wp2_with fail
              go_roundw
              case rel =>
                refine ⟨m + 1, HLT.out, by go_num, ?_, HB7.out.setCell (by rw [HGS.out]; exact Nat.le_refl _) _⟩
                have h := (HO7.out.stored m (.string (strOfNums (sh S1 m)))).1
                rw [strV_set S1 HLT.out] at h
                exact h
              case measure => simp [intOf]; have := HLT.out; omega
          · as_aux_lemma =>
              obtain rfl : m = 4 := by omega
              have HMP0 := Lib.hid (MapZ.made U)
              have HBU2 := Lib.hid (show Below w4.heap.size w4 (U.alloc (.map #[] 0)) from HBU.out.alloc HBU.out.size _)
              have HRU2 := Lib.hid (HM.out.keep HRU.out (fun j hj => (Below.heap_alloc U (.map #[] 0) j (HM.out.inside HRU.out j hj))))
              have HOU2 := Lib.hid (HOU.out.alloc (.map #[] 0))
              obtain ⟨BM, hBM⟩ : ∃ BM, BM = U.heap.size := ⟨_, rfl⟩
              have HBM := Lib.hid hBM
              have HBUS := Lib.hid (show w4.heap.size ≤ U.heap.size from HBU.out.size)
              have HGB := Lib.hid (show gs < BM from by rw [hBM]; exact (own_lt HOU.out rfl).2)
              have hmm := @run_makeMap Try.prog
              go_upto_region 20 with fail
              clear hmm
              rw [← hBM] at HMP0 ⊢
              clear hBM
              have HRN := Lib.hid (show R (U.alloc (.map #[] 0)) tb F4 S1 none from HRU2.out)
              go_wp2_with fail
              go_loopw [74] (fun q wr => ∃ (k' : Nat) (F' : Nat → Prop) (S' : MS) (f : Int → Bool), k' ≤ k ∧ q = .int .i64 (k' : Nat) ∧ MW R P wr tb F' S' none FN (-1) 0 k' ∧ SureI S1 S' f ∧ (∀ j, F' j → w.heap.size ≤ j) ∧ ¬ F' gs ∧ ¬ F' BM ∧ MapZ wr BM k' f ∧ wr.ownsRow gs 9 1 (.slice (some ⟨gs, 0, none⟩) 4 4) 4 (strV S1 4) ∧ Below w.heap.size w wr) (fun q _ => k - (intOf q).toNat)
              case atStart => exact ⟨0, F4, S1, _, Nat.zero_le _, rfl, mwN HRN.out HK1.out (by rw [HC1.out]; exact Nat.le_refl _), HSI.out, HF4.out, (fun h => by have h1 := HFI.out gs h; have h2 := HGS.out; omega), (fun h => by have h1 := HFI.out BM h; have h2 := HBM.out; have h3 := HBU.out.size; omega), HMP0.out, HOU2.out, HB4.out.trans (HBU2.out.mono HB4.out.size)⟩
              case round =>
                obtain ⟨k', F', S', f, hk', rfl, hmw, hsi, hhi, hng, hnb, hmp, hst, hbel⟩ := hrel
                rename World => Y
                have HMY := Lib.hid hmw
                have HSY := Lib.hid hsi
                have HHY := Lib.hid hhi
                have HNG := Lib.hid hng
                have HNB := Lib.hid hnb
                have HPY := Lib.hid hmp
                have HOY := Lib.hid hst
                have HBY := Lib.hid hbel
                clear hmw hsi hhi hng hnb hmp hst hbel HRN HRU2 HRU HOU HBU HBU2 HOU2 HMP0
                by_cases hlt : k' < k
                · as_aux_lemma =>
                    have HLT := Lib.hid hlt
                    obtain ⟨x, hx⟩ : ∃ x, l[k']? = some x := ⟨_, List.getElem?_eq_getElem (by rw [HLL.out]; exact hlt)⟩
                    have HLV := Lib.hid (HL.out.on HBY.out)
                    have HXV := Lib.hid (HL.out.2.2.2.1 x (List.mem_of_getElem? hx))
                    obtain ⟨b, off, rfl, hb, hc⟩ := HLV.out.2.2.2.2 (by omega)
                    have hr := hc k' x hx
                    have hc0 : Y.cell? ⟨b, off + k' * 4, none⟩ = some (.int .i64 x.kind) := hr 0 _ rfl
                    have hc1 : Y.cell? ⟨b, off + k' * 4 + 1, none⟩ = some (.int .i64 x.at_) := hr 1 _ rfl
                    have hc2 : Y.cell? ⟨b, off + k' * 4 + 2, none⟩ = some (.int .i64 x.x) := hr 2 _ rfl
                    have hc3 : Y.cell? ⟨b, off + k' * 4 + 3, none⟩ = some (.slice x.ka x.kn x.kc) := hr 3 _ rfl
                    have qk : (k' : Int) < (k : Int) := by omega
                    obtain ⟨O, hO⟩ : ∃ O, O = Obj.cells #[.int .i64 x.kind, .int .i64 x.at_, .int .i64 x.x, .slice x.ka x.kn x.kc] 31 := ⟨_, rfl⟩
                    have hb1 : Below Y.heap.size Y (Y.alloc O) := (Below.refl _ _).alloc (Nat.le_refl _) _
                    have HBO := Lib.hid (HBY.out.trans (hb1.mono HBY.out.size))
                    have HKM := Lib.hid (HMY.out.on HM.out hb1)
                    have HPO := Lib.hid (show MapZ (Y.alloc O) BM k' f from HPY.out.same (hb1.block BM HPY.out.lt))
                    have HOO := Lib.hid (own_belowU HOY.out hb1)
                    have HXC := Lib.hid (show (Y.alloc O).cell? ⟨Y.heap.size, 1, none⟩ = some (.int .i64 x.at_) ∧ (Y.alloc O).cell? ⟨Y.heap.size, 2, none⟩ = some (.int .i64 x.x) from by
                      have hh := heap_alloc_new Y O
                      rw [hO] at hh ⊢
                      exact ⟨by rw [cell_of_row _ _ _ _ _ _ hh]; rfl, by rw [cell_of_row _ _ _ _ _ _ hh]; rfl⟩)
                    have HSZ := Lib.hid (show (Y.alloc O).heap.size = Y.heap.size + 1 by simp)
                    have HOE := Lib.hid hO
                    have HRA := Lib.hid HXV.out.2.1
                    have HRX := Lib.hid HXV.out.2.2.1
                    clear hlt hx hr hc hb hb1
                    by_cases hk0 : x.kind = 0
                    · have z0 : (x.kind == 0) = true := by simp [hk0]
                      have z0' : x.kind = 0 := hk0
                      rw [hk0] at hc0 hO
                      clear z0'
                      go_upto_region 24 with fail
                      rw [← hO]
                      clear hO hc0 hc1 hc2 hc3 z0 hk0
                      obtain ⟨at_, hat⟩ : ∃ at_, at_ = x.at_ := ⟨_, rfl⟩
                      obtain ⟨xx, hxx⟩ : ∃ xx, xx = x.x := ⟨_, rfl⟩
                      rw [← hat] at HXC HRA
                      rw [← hxx] at HXC HRX
                      clear hat hxx HOE HXV
                      generalize Y.alloc O = W0 at HBO HKM HPO HOO HXC HSZ ⊢
                      obtain ⟨D, hD⟩ : ∃ D, D = opWrite false S' at_ (secX xx) (-1) 0 := ⟨_, rfl⟩
                      have HD := Lib.hid hD
                      have HGD := Lib.hid (show GoodD D by rw [hD]; exact opWrite_goodD HSY.out.good _ _)
                      clear hD
                      have HF0 := Lib.hid (show ∀ j, F' j → j < Y.heap.size from fun j hj => HM.out.inside HMY.out.r j hj)
                      have HGY := Lib.hid (show gs < Y.heap.size from (own_lt HOY.out rfl).2)
                      have HMB := Lib.hid (show BM < Y.heap.size from HPY.out.lt)
                      have HS0 : W0.drew.cell? ⟨Y.heap.size, 1, none⟩ = some (.int .i64 at_) ∧ W0.drew.cell? ⟨Y.heap.size, 2, none⟩ = some (.int .i64 xx) := HXC.out
                      have HS1 := Lib.hid (show ∀ W, Below (Y.heap.size + 1) W0 W → W.cell? ⟨Y.heap.size, 1, none⟩ = some (.int .i64 at_) ∧ W.cell? ⟨Y.heap.size, 2, none⟩ = some (.int .i64 xx) from fun W hb => ⟨(hb.cell (p := ⟨Y.heap.size, 1, none⟩) (by show Y.heap.size < _; omega)).trans HXC.out.1, (hb.cell (p := ⟨Y.heap.size, 2, none⟩) (by show Y.heap.size < _; omega)).trans HXC.out.2⟩)
                      go_region_held (fun W => W.cell? ⟨Y.heap.size, 1, none⟩ = some (.int .i64 at_) ∧ W.cell? ⟨Y.heap.size, 2, none⟩ = some (.int .i64 xx)) (first | assumption)
                        (first
                          | (go_at_call 26; refine (sector_ex xx _ HRX.out).mono ?_; rintro e w1 ⟨g, rfl, hg1, hg2, ho, hb⟩; (have hb0 : Below (Y.heap.size + 1) W0 w1 := ((Below.refl _ W0).drew).trans (hb.mono (by show Y.heap.size + 1 ≤ W0.heap.size; have := HSZ.out; omega))); (have hs1 := HS1.out w1 hb0); (have HG1 : Hid (Y.heap.size + 1 ≤ g) := Lib.hid (by have h1 : W0.heap.size ≤ g := hg1; have := HSZ.out; omega)); have HO1 := Lib.hid (own_any ho (secX_B xx)); (have HSZ1 : Hid (Y.heap.size + 1 ≤ w1.heap.size) := Lib.hid (by have := hb0.size; have := HSZ.out; omega)); (have HB1 := Lib.hid (show Below (Y.heap.size + 1) W0 w1 from hb0)); clear hg1 hg2 ho hb hb0)
                          | (go_at_call 25; refine (HM.out.write tb F' FN S' none (-1) 0 at_ (some ⟨g, 0, none⟩) (secN xx) (secN xx) (secX xx) w1 (HM.out.keep HKM.out.r (fun j hj => HB1.out.block j (by have := HF0.out j hj; omega))) HKM.out.p HKM.out.apart HKM.out.ok HKM.out.left (by have := HKM.out.few.1; omega) (by omega) HRA.out HO1.out (Off.new rfl (fun hf => by have h1 := HF0.out g hf; have h2 := HG1.out; omega)) (Off.new rfl (fun h => h))).mono ?_; rintro e w2 ⟨F2, rfl, hr, hp, hk, hf⟩; rw [show (none : Option Nat).isSome = false from rfl, ← HD.out] at hr ⊢; (have hs2 : w2.cell? ⟨Y.heap.size, 1, none⟩ = some (.int .i64 at_) ∧ w2.cell? ⟨Y.heap.size, 2, none⟩ = some (.int .i64 xx) := ⟨(hk.cell (p := ⟨Y.heap.size, 1, none⟩) (by show Y.heap.size < _; have h1 := HSZ1.out; omega) (fun h => by have := HF0.out _ (h.elim (fun h => h) (fun h => h.elim)); exact absurd this (Nat.lt_irrefl _))).trans hs1.1, (hk.cell (p := ⟨Y.heap.size, 2, none⟩) (by show Y.heap.size < _; have h1 := HSZ1.out; omega) (fun h => by have := HF0.out _ (h.elim (fun h => h) (fun h => h.elim)); exact absurd this (Nat.lt_irrefl _))).trans hs1.2⟩); have HR2 := Lib.hid hr; have HK2 := Lib.hid hk; have HF2 := Lib.hid hf; clear hr hp hk hf))
                      have hx1 := HXC.out.1
                      have HK2' := Lib.hid (show KB F' w1 w2 from HK2.out.monoF (fun j h => h.elim (fun h => h) (fun h => h.elim)))
                      have HE2 := Lib.hid (show ∀ j, j < Y.heap.size → ¬ F' j → w2.heap[j]? = W0.heap[j]? from fun j h1 h2 => (HK2'.out.2 j (by have := HSZ1.out; omega) h2).trans (HB1.out.block j (by omega)))
                      have HP2 := Lib.hid (HPO.out.same (HE2.out BM HMB.out HNB.out))
                      have HO2 := Lib.hid (own_blockT HOO.out (fun g' e => by cases e; exact HE2.out gs HGY.out HNG.out))
                      have HM2 := Lib.hid (show MW R P w2 tb F2 D.S none FN (-1) 0 (k' + 1) from mwN HR2.out (by rw [HD.out]; exact opWrite_ok _ HKM.out.ok _ (secX_B _) _ _) (by have h1 := (opWrite_grow false S' at_ (secX xx) (-1) 0).1; rw [← HD.out] at h1; have := HKM.out.few.1; omega))
                      have HS2 := Lib.hid (show SureI S1 D.S (putE f at_ D.err) from by rw [HD.out]; exact HSY.out.write _ _)
                      have HNG2 := Lib.hid (show ¬ F2 gs from fun h => by rcases HF2.out gs h with h1 | h1; exact HNG.out h1; have := HGY.out; have := HSZ1.out; omega)
                      have HNB2 := Lib.hid (show ¬ F2 BM from fun h => by rcases HF2.out BM h with h1 | h1; exact HNB.out h1; have := HMB.out; have := HSZ1.out; omega)
                      have HH2 := Lib.hid (show ∀ j, F2 j → w.heap.size ≤ j from fun j h => by rcases HF2.out j h with h1 | h1; exact HHY.out j h1; have := HSZ1.out; have := HBY.out.size; omega)
                      have HB2' := Lib.hid (show Below w.heap.size w w2 from (HBO.out.trans (HB1.out.mono (by have := HBY.out.size; omega))).trans (HK2'.out.below HHY.out (by have := HSZ1.out; have := HBY.out.size; omega)))
                      have hlk := HP2.out.look HRA.out
                      obtain ⟨ee, hee⟩ : ∃ ee, ee = D.err := ⟨_, rfl⟩
                      have HEE := Lib.hid hee
                      rw [← hee]
                      clear hee hx1 HR2 HK2 HF2
                      have HPUT := Lib.hid (show ∀ c, c = (f at_ || decide (ee = 0)) → putZ f at_ c = putE f at_ D.err from fun c h => by rw [h, HEE.out]; rfl)
                      have fin := fun (c : Bool) (W : World) (hc : c = (f at_ || decide (ee = 0))) (hm : MapZ W BM (k' + 1) (putZ f at_ c)) (hg : w2.grownBy W (some BM)) => (show MW R P W tb F2 D.S none FN (-1) 0 (k' + 1) ∧ MapZ W BM (k' + 1) (putE f at_ D.err) ∧ W.ownsRow gs 9 1 (.slice (some ⟨gs, 0, none⟩) 4 4) 4 (strV S1 4) ∧ Below w.heap.size w W from
                        ⟨HM2.out.kept HM.out (fun j hj => hg.block j (HM2.out.inside HM.out hj) (fun e => by cases e; exact hj.elim HNB2.out (fun h => h))), by rw [← HPUT.out c hc]; exact hm, own_blockT HO2.out (fun g' e => by cases e; exact hg.block gs (own_lt HO2.out rfl).2 (fun e => by cases e; have := HGB.out; omega)), HB2'.out.trans ((KB.of_grown hg).below (fun j e => by cases e; have := HBM.out; have h1 := HBY.out.size; have h2 := HB4.out.size; have h3 := HBUS.out; omega) HB2'.out.size)⟩)
                      have FIN := Lib.hid fin
                      clear fin
                      obtain ⟨fa, hfa⟩ : ∃ fa, fa = f at_ := ⟨_, rfl⟩
                      have HFA := Lib.hid hfa
                      rw [← hfa] at hlk
                      clear hfa
                      cases fa
                      · by_cases he0 : ee = 0
                        · have z1 : (ee == 0) = true := by simp [he0]
                          have HEZ := Lib.hid he0
                          clear he0
                          go_wp2_with (at_mapUpdate; go_loud (refine wpList_mapUpdateZ _ rfl _ _ _ rfl BM k' f at_ true rfl HP2.out (by unfold maxLen; omega) rfl rfl HRA.out ?_; intro w5 hm5 hg5; have HF5 := Lib.hid (FIN.out true w5 (by rw [← HFA.out]; rw [Bool.false_or, decide_eq_true HEZ.out]) hm5 hg5); clear hm5 hg5))
                          go_roundw
                          case rel =>
                            obtain ⟨f1, f2, f3, f4⟩ := HF5.out
                            first
                            | exact ⟨k' + 1, F2, D.S, _, HLT.out, by go_num, f1, HS2.out, HH2.out, HNG2.out, HNB2.out, f2, f3, f4⟩
                            | ((repeat apply Exists.intro); exact ⟨⟨k' + 1, F2, D.S, _, HLT.out, by go_num, f1, HS2.out, HH2.out, HNG2.out, HNB2.out, f2, f3, f4⟩, rfl⟩)
                          case measure => simp [intOf]; have := HLT.out; omega
                        · have z1 : (ee == 0) = false := by rw [beq_eq_false_iff_ne]; exact he0
                          have HEZ := Lib.hid he0
                          clear he0
                          go_wp2_with (at_mapUpdate; go_loud (refine wpList_mapUpdateZ _ rfl _ _ _ rfl BM k' f at_ false rfl HP2.out (by unfold maxLen; omega) rfl rfl HRA.out ?_; intro w5 hm5 hg5; have HF5 := Lib.hid (FIN.out false w5 (by rw [← HFA.out]; rw [Bool.false_or, decide_eq_false HEZ.out]) hm5 hg5); clear hm5 hg5))
                          go_roundw
                          case rel =>
                            obtain ⟨f1, f2, f3, f4⟩ := HF5.out
                            first
                            | exact ⟨k' + 1, F2, D.S, _, HLT.out, by go_num, f1, HS2.out, HH2.out, HNG2.out, HNB2.out, f2, f3, f4⟩
                            | ((repeat apply Exists.intro); exact ⟨⟨k' + 1, F2, D.S, _, HLT.out, by go_num, f1, HS2.out, HH2.out, HNG2.out, HNB2.out, f2, f3, f4⟩, rfl⟩)
                          case measure => simp [intOf]; have := HLT.out; omega
                      · go_wp2_with (at_mapUpdate; go_loud (refine wpList_mapUpdateZ _ rfl _ _ _ rfl BM k' f at_ true rfl HP2.out (by unfold maxLen; omega) rfl rfl HRA.out ?_; intro w5 hm5 hg5; have HF5 := Lib.hid (FIN.out true w5 (by rw [← HFA.out]; rw [Bool.true_or]) hm5 hg5); clear hm5 hg5))
                        go_roundw
                        case rel =>
                          obtain ⟨f1, f2, f3, f4⟩ := HF5.out
                          first
                            | exact ⟨k' + 1, F2, D.S, _, HLT.out, by go_num, f1, HS2.out, HH2.out, HNG2.out, HNB2.out, f2, f3, f4⟩
                            | ((repeat apply Exists.intro); exact ⟨⟨k' + 1, F2, D.S, _, HLT.out, by go_num, f1, HS2.out, HH2.out, HNG2.out, HNB2.out, f2, f3, f4⟩, rfl⟩)
                        case measure => simp [intOf]; have := HLT.out; omega
                    · have z0 : (x.kind == 0) = false := by rw [beq_eq_false_iff_ne]; exact hk0
                      clear hk0
                      rw [hO] at HBO HKM HPO HOO
                      clear hO
                      go_wp2_with fail
                      go_roundw
                      case rel => exact ⟨k' + 1, F', S', f, HLT.out, by go_num, HKM.out.more (Nat.le_succ _), HSY.out, HHY.out, HNG.out, HNB.out, HPO.out.more (Nat.le_succ _), HOO.out, HBO.out⟩
                      case measure => simp [intOf]; have := HLT.out; omega
                · as_aux_lemma =>
                    obtain rfl : k' = k := by omega
                    have HKY := Lib.hid (HK.out.on HBY.out)
                    have HGS' := Lib.hid (HSY.out.good.crash kp)
                    have HKS' := Lib.hid (HMY.out.ok.crash kp)
                    have HSU := Lib.hid (HSY.out.sure HC1.out kp)
                    go_upto_region 28 with (go_at_call 12; go_loud (refine (HM.out.crash tb F' S' none a1 L1 c1 kp Y HMY.out.r HMY.out.ok (by have := HMY.out.few.1; omega) HKY.out (fun h0 b o e hf => by have h1 := HK.out.low h0 e; have h2 := HHY.out b hf; omega)).mono ?_; rintro e w8 ⟨F8, rfl, hr, hk, hf⟩; have HR8 := Lib.hid hr; have HK8 := Lib.hid hk; clear hr hk hf))
                    have HP8 := Lib.hid (HPY.out.same (HK8.out.2 BM HPY.out.lt HNB.out))
                    have HO8 := Lib.hid (own_blockT HOY.out (fun g' e => by cases e; exact HK8.out.2 gs (own_lt HOY.out rfl).2 HNG.out))
                    have HB8 := Lib.hid (HBY.out.trans (HK8.out.below HHY.out HBY.out.size))
                    clear HKY HK8 HPY HOY HBY HMY
                    go_wp2_with fail
                    go_loopw [105] (fun q wr => ∃ i : Nat, i ≤ 4 ∧ q = .int .i64 (i : Nat) ∧ Below w8.heap.size w8 wr) (fun q _ => 4 - (intOf q).toNat)
                    case atStart => exact ⟨0, by omega, rfl, Below.refl _ _⟩
                    case round =>
                      obtain ⟨i, hi, rfl, hbel⟩ := hrel
                      rename World => Z
                      have HBZ := Lib.hid hbel
                      clear hbel
                      have HRZ := Lib.hid (HM.out.keep HR8.out (fun j hj => HBZ.out.block j (HM.out.inside HR8.out j hj)))
                      by_cases hlt : i < 4
                      · as_aux_lemma =>
                          have HLI := Lib.hid hlt
                          have qi : (i : Int) < 4 := by omega
                          clear hlt
                          go_upto_region 32 with (go_at_call 14; go_loud (refine (readN HM.out Z tb F8 (S'.crash kp) (sh (S'.crash kp) i) HRZ.out HKS'.out (by simp [MS.crash]) (i : Int) (by unfold i64R; omega) (HGS'.out.read HLI.out) (HGS'.out.ok HKS'.out i).1).mono ?_; rintro e w9 ⟨a9, c9, rfl, ha, hna, hr, hb⟩; have HA9 := Lib.hid ha; have HB9 := Lib.hid (bt HBZ.out hb); clear ha hna hr hb))
                          have HP9 := Lib.hid (HP8.out.same (HB9.out.block BM HP8.out.lt))
                          have HO9 := Lib.hid (own_belowU HO8.out HB9.out)
                          have hlk : ∀ q, (Instr.lookup 64 (.map (some BM)) (.int .i64 (i : Nat)) false).run Try.prog (w9.drewN q) = .ok (.bool (f (i : Nat))) (w9.drewN q) := fun q => MapZ.look (HP9.out.same (w' := w9.drewN q) rfl) (by have := HLI.out; omega)
                          obtain ⟨fi, hfi⟩ : ∃ fi, fi = f (i : Nat) := ⟨_, rfl⟩
                          have HFI2 := Lib.hid hfi
                          rw [← hfi] at hlk
                          clear hfi
                          cases fi
                          · have HEQ := Lib.hid (show sh (S'.crash kp) i = sh S1 i from (HSU.out i).resolve_left (by rw [← HFI2.out]; simp))
                            obtain ⟨BS, hBS⟩ : ∃ BS, BS = strOfNums (sh (S'.crash kp) i) := ⟨_, rfl⟩
                            have hcz : ∀ q, (convert 39 9 (.slice a9 512 c9)).run Try.prog (w9.drewN q) = .ok (.string BS) (w9.drewN q) := fun q => by rw [hBS]; exact HA9.out.strU _ (below_drewN (Below.refl _ _) q)
                            have hcl := HO9.out.cellAt i (by have := HLI.out; omega)
                            rw [strV_get S1 HLI.out HLI.out, ← HEQ.out, ← hBS] at hcl
                            have hbb : (BS.toList == BS.toList) = true := by simp
                            clear hBS
                            go_quiet (fail)
                            go_wp2_with fail
                            go_roundw
                            case rel => exact ⟨i + 1, HLI.out, by go_num, below_drewN HB9.out _⟩
                            case measure => simp [intOf]; have := HLI.out; omega
                          · go_quiet (fail)
                            go_wp2_with fail
                            go_roundw
                            case rel => exact ⟨i + 1, HLI.out, by go_num, below_drewN HB9.out _⟩
                            case measure => simp [intOf]; have := HLI.out; omega
                      · obtain rfl : i = 4 := by omega
                        go_wp2_with (go_at_call 13; go_loud (refine (HM.out.cached tb F8 (S'.crash kp) none Z HRZ.out HKS'.out (by simp [MS.crash])).mono ?_; rintro e w9 ⟨a9, c9, ds, rfl, ho, hd, hds, hb⟩; rw [show (S'.crash kp).cache.length = 0 from rfl]; have HB9 := Lib.hid (bt HBZ.out hb); clear ho hd hds hb))
                        go_ret
                        exact ⟨rfl, HB8.out.trans (HB9.out.mono HB8.out.size)⟩
theorem mediumSure_long {R : World → Nat → (Nat → Prop) → MS → Option Nat → Prop} {P : World → Nat → (Nat → Prop) → Int → Nat → Prop} (hM : MediumM R P) (a0 : Option Addr) (L0 c0 : Nat) (a1 : Option Addr) (L1 c1 : Nat) (l : List AC) (w : World)
    (hl : ActA w a0 L0 c0 l) (hL : ¬ (((∀ x, x ∈ l → x.kn ≤ 60) ∧ L0 ≤ 60) ∧ L1 ≤ 100)) :
    Calls Try.prog 5 #[.slice a0 L0 c0, .slice a1 L1 c1] w fun e w' => e = .returned (.bool true) ∧ Below w.heap.size w w' := by
  have HM := Lib.hid hM
  have HL := Lib.hid hl
  obtain ⟨fb, hfb⟩ : ∃ fb, fb = decide ((∀ x, x ∈ l → x.kn ≤ 60) ∧ L0 ≤ 60) := ⟨_, rfl⟩
  have HFB := Lib.hid hfb
  have q1 : fb = true → (100 : Int) < (L1 : Int) := fun h => by
    rw [hfb] at h
    have := of_decide_eq_true h
    have : ¬ L1 ≤ 100 := fun h1 => hL ⟨this, h1⟩
    omega
  clear hM hl hL hfb
  cases fb
  all_goals
    first
      | (have q2 := q1 rfl; clear q1)
      | clear q1
    go_enter Try.func5, Try.ntmps5
    go_upto_region 2 with (first
      | (go_at_call 7; go_loud (refine (lives13 HM.out w).mono ?_; rintro e w1 ⟨rfl, hb⟩; have HB1 := Lib.hid hb; clear hb))
      | (go_at_call 8; go_loud (refine (few_any a0 L0 c0 l w1 (HL.out.on HB1.out)).mono ?_; rintro e w2 ⟨rfl, hb⟩; rw [← HFB.out]; have HB2 := Lib.hid (bt HB1.out hb); clear hb)))
    go_wp2_with (go_at_call 7; go_loud (refine (lives13 HM.out w2).mono ?_; rintro e w3 ⟨rfl, hb⟩; have HB3 := Lib.hid (bt HB2.out hb); clear hb))
    go_ret
    exact ⟨rfl, HB3.out⟩
theorem mediumSure_any {R : World → Nat → (Nat → Prop) → MS → Option Nat → Prop} {P : World → Nat → (Nat → Prop) → Int → Nat → Prop} (hM : MediumM R P) (a0 : Option Addr) (L0 c0 : Nat) (a1 : Option Addr) (L1 c1 : Nat) (w : World) (w0 : ∃ l, ActA w a0 L0 c0 l) (w1 : ∃ l, ArgB w a1 L1 c1 l) :
    Calls Try.prog 5 #[.slice a0 L0 c0, .slice a1 L1 c1] w fun e w' => e = .returned (.bool true) ∧ Below w.heap.size w w' := by
  obtain ⟨l, hl⟩ := w0
  obtain ⟨kp, hk⟩ := w1
  by_cases h : ((∀ x, x ∈ l → x.kn ≤ 60) ∧ L0 ≤ 60) ∧ L1 ≤ 100
  · exact mediumSure_core hM a0 L0 c0 a1 L1 c1 l kp w hl hk h.1 h.2
  · exact mediumSure_long hM a0 L0 c0 a1 L1 c1 l w hl h
end Go.Proofs.Ytoonaendakjecaa
