/- Media: the laws' do under the contracts. -/
import Derived.Test.YtoonaendakjecaaUe
namespace Go.Proofs.Ytoonaendakjecaa
open Go.ChangeShapes Go.WideShapes Go.ChangeAt Go.RowKit Go.Shelf
set_option linter.unusedVariables false
set_option linter.unusedSimpArgs false
set_option maxRecDepth 100000

theorem doS_0 (pp : Bool) (at_ x : Int) (ka : Option Addr) (kn kc : Nat) (ks : List Bool) (S : MS) (l : Int) (u : Nat) : doS pp ⟨0, at_, x, ka, kn, kc, ks⟩ S l u = opWrite pp S at_ (secX x) l u := rfl
theorem doS_1 (pp : Bool) (at_ x : Int) (ka : Option Addr) (kn kc : Nat) (ks : List Bool) (S : MS) (l : Int) (u : Nat) : doS pp ⟨1, at_, x, ka, kn, kc, ks⟩ S l u = opRead S at_ l u := rfl
theorem doS_2 (pp : Bool) (at_ x : Int) (ka : Option Addr) (kn kc : Nat) (ks : List Bool) (S : MS) (l : Int) (u : Nat) : doS pp ⟨2, at_, x, ka, kn, kc, ks⟩ S l u = opFlush pp S l u := rfl
theorem doS_3 (pp : Bool) (at_ x : Int) (ka : Option Addr) (kn kc : Nat) (ks : List Bool) (S : MS) (l : Int) (u : Nat) : doS pp ⟨3, at_, x, ka, kn, kc, ks⟩ S l u = ⟨[], 0, S.crash ks, l, u⟩ := rfl
theorem doS_4 (pp : Bool) (at_ x : Int) (ka : Option Addr) (kn kc : Nat) (ks : List Bool) (S : MS) (l : Int) (u : Nat) : doS pp ⟨4, at_, x, ka, kn, kc, ks⟩ S l u = ⟨[], 0, S.fail, l, u⟩ := rfl
theorem doS_5 (pp : Bool) (at_ x : Int) (ka : Option Addr) (kn kc : Nat) (ks : List Bool) (S : MS) (l : Int) (u : Nat) : doS pp ⟨5, at_, x, ka, kn, kc, ks⟩ S l u = ⟨[], 0, S.back, l, u⟩ := rfl
theorem doS_6 (pp : Bool) (at_ x : Int) (ka : Option Addr) (kn kc : Nat) (ks : List Bool) (S : MS) (l : Int) (u : Nat) : doS pp ⟨6, at_, x, ka, kn, kc, ks⟩ S l u = opLose S at_ l u := rfl
theorem doS_7 (pp : Bool) (at_ x : Int) (ka : Option Addr) (kn kc : Nat) (ks : List Bool) (S : MS) (l : Int) (u : Nat) : doS pp ⟨7, at_, x, ka, kn, kc, ks⟩ S l u = opSpoil S at_ (secX x) l u := rfl
theorem doS_8 (pp : Bool) (at_ x : Int) (ka : Option Addr) (kn kc : Nat) (ks : List Bool) (S : MS) (l : Int) (u : Nat) : doS pp ⟨8, at_, x, ka, kn, kc, ks⟩ S l u = ⟨[], 0, S, if pp then max x (-1) else l, u⟩ := rfl
theorem doS_9 (pp : Bool) (kd at_ x : Int) (ka : Option Addr) (kn kc : Nat) (ks : List Bool) (S : MS) (l : Int) (u : Nat) (h0 : kd ≠ 0) (h1 : kd ≠ 1) (h2 : kd ≠ 2) (h3 : kd ≠ 3) (h4 : kd ≠ 4) (h5 : kd ≠ 5) (h6 : kd ≠ 6) (h7 : kd ≠ 7) (h8 : kd ≠ 8) : doS pp ⟨kd, at_, x, ka, kn, kc, ks⟩ S l u = ⟨[], 0, S, l, u⟩ := by
  unfold doS
  rw [if_neg h0, if_neg h1, if_neg h2, if_neg h3, if_neg h4, if_neg h5, if_neg h6, if_neg h7, if_neg h8]
theorem opWrite_left (pp : Bool) (S : MS) (i : Int) (b : List Int) {l : Int} (u : Nat) (h : LeftOk l) : LeftOk (opWrite pp S i b l u).l := opWrite_ind (Q := fun D => LeftOk D.l) (fun _ => h) (fun _ _ => spendL_ok h)
theorem opWrite_out (pp : Bool) (S : MS) (i : Int) (b : List Int) (l : Int) (u : Nat) : (opWrite pp S i b l u).out = [] := opWrite_ind (Q := fun D => D.out = []) (fun _ => rfl) (fun _ _ => rfl)
theorem opFlush_left (pp : Bool) (S : MS) {l : Int} (u : Nat) (h : LeftOk l) : LeftOk (opFlush pp S l u).l := opFlush_ind (Q := fun D => LeftOk D.l) (fun _ => h) (spendL_ok h)
theorem opFlush_out (pp : Bool) (S : MS) (l : Int) (u : Nat) : (opFlush pp S l u).out = [] := opFlush_ind (Q := fun D => D.out = []) (fun _ => rfl) rfl
theorem opFlush_grow (pp : Bool) (S : MS) (l : Int) (u : Nat) : Grow S u (opFlush pp S l u) := opFlush_ind (fun _ => ⟨Nat.le_succ _, Nat.le_succ _⟩) ⟨Nat.zero_le _, usedN_le _ _⟩
theorem opLose_same (S : MS) (i l : Int) (u : Nat) : (opLose S i l u).out = [] ∧ (opLose S i l u).l = l ∧ (opLose S i l u).u = u ∧ (opLose S i l u).S.cache.length ≤ S.cache.length + 1 :=
  opLose_ind (Q := fun D => D.out = [] ∧ D.l = l ∧ D.u = u ∧ D.S.cache.length ≤ S.cache.length + 1) (fun _ => ⟨rfl, rfl, rfl, Nat.le_succ _⟩) ⟨rfl, rfl, rfl, set_cache _ _ _⟩
theorem opSpoil_same (S : MS) (i : Int) (b : List Int) (l : Int) (u : Nat) : (opSpoil S i b l u).out = [] ∧ (opSpoil S i b l u).l = l ∧ (opSpoil S i b l u).u = u ∧ (opSpoil S i b l u).S.cache.length ≤ S.cache.length + 1 :=
  opSpoil_ind (Q := fun D => D.out = [] ∧ D.l = l ∧ D.u = u ∧ D.S.cache.length ≤ S.cache.length + 1) (fun _ => ⟨rfl, rfl, rfl, Nat.le_succ _⟩) (fun _ => ⟨rfl, rfl, rfl, set_cache _ _ _⟩)
theorem u8x255U {x : Int} (h : 0 ≤ x ∧ x < 256) : 0 ≤ bits .xor .u8 x 255 ∧ bits .xor .u8 x 255 < 256 := by
  rw [u8_xor _ _ h.1 h.2 (by omega) (by omega)]
  have h2 := Nat.xor_lt_two_pow (n := 8) (show x.toNat < 2 ^ 8 by omega) (show (255 : Int).toNat < 2 ^ 8 by decide)
  omega
theorem allB_setU {l : List Int} (h : AllB l) (i : Nat) {y : Int} (hy : 0 ≤ y ∧ y < 256) : AllB (l.set i y) := fun x hx => by
  rcases List.mem_or_eq_of_mem_set hx with h1 | h1
  · exact h x h1
  · rw [h1]; exact hy
theorem sector_ex (x : Int) (w : World) (hx : i64R x) :
    Calls Try.prog 26 #[.int .i64 x] w fun e w' => ∃ g, e = .returned (.slice (some ⟨g, 0, none⟩) (secN x) (secN x)) ∧ w.heap.size ≤ g ∧ g < w'.heap.size ∧
      w'.ownsRow w.heap.size 5 1 (.slice (some ⟨g, 0, none⟩) (secN x) (secN x)) (secN x) ((secX x).map (Value.int .u8)) ∧ Below w.heap.size w w' := by
  refine (sector_any x w hx).mono ?_
  rintro e w' ⟨rfl, ho, hb⟩
  exact ⟨_, rfl, Nat.le_refl _, (own_lt ho rfl).2, ho, hb⟩
section
variable {R : World → Nat → (Nat → Prop) → MS → Option Nat → Prop} {P : World → Nat → (Nat → Prop) → Int → Nat → Prop}
/-- How all stands behind an act that may use the power. -/
theorem do_fin (hM : MediumM R P) {w w1 w2 w3 : World} {tb : Nat} {F F' Fp : Nat → Prop} {S : MS} {pp : Option Nat} {l : Int} {u j g : Nat} {D : DS} (h : MW R P w tb F S pp Fp l u j) (hb : Below w.heap.size w w1) (hr : R w2 tb F' D.S pp) (hp : PO P w2 pp Fp D.l D.u) (hk : KB (fun k => F k ∨ Fp k) w1 w2) (hF : ∀ k, F' k → F k ∨ w1.heap.size ≤ k)
    (hg1 : w.heap.size ≤ g) (hg2 : g < w1.heap.size) (hk3 : KB (fun k => k = g) w2 w3) (hok : D.S.Ok) (hl : LeftOk D.l) (hgr : Grow S u D) :
    MW R P w3 tb F' D.S pp Fp D.l D.u (j + 1) ∧ KB (fun k => F k ∨ Fp k) w w3 ∧ (∀ k, F' k → F k ∨ w.heap.size ≤ k) := by
  have hF2 : ∀ k, F' k → F k ∨ w.heap.size ≤ k := fun k hk => by
    rcases hF k hk with h1 | h1
    · exact .inl h1
    · have := hb.size; right; omega
  have m2 : MW R P w2 tb F' D.S pp Fp D.l D.u (j + 1) := h.step hM hr hp hF2 hok hl hgr
  have hne : ∀ k, F' k ∨ Fp k → ¬ k = g := fun k hk e => by
    subst e
    rcases hk with hk | hk
    · rcases hF k hk with h1 | h1
      · have := h.inside hM (.inl h1); omega
      · omega
    · have := h.inside hM (.inr hk); omega
  refine ⟨m2.kept hM (fun k hk' => hk3.2 k (m2.inside hM hk') (hne k hk')), ?_, hF2⟩
  refine ⟨(hb.mono (Nat.zero_le _)).trans (hk.1.trans hk3.1), fun k hkl hkf => ?_⟩
  exact (hk3.2 k (by have := hb.size; have := hk.1.size; omega) (by omega)).trans ((hk.2 k (by have := hb.size; omega) hkf).trans (hb.block k hkl))
/-- The same where no row is spoilt behind it. -/
theorem do_fin0 (hM : MediumM R P) {w w1 w2 : World} {tb : Nat} {F F' Fp : Nat → Prop} {S : MS} {pp : Option Nat} {l : Int} {u j : Nat} {D : DS} (h : MW R P w tb F S pp Fp l u j) (hb : Below w.heap.size w w1) (hr : R w2 tb F' D.S pp) (hp : PO P w2 pp Fp D.l D.u) (hk : KB (fun k => F k ∨ Fp k) w1 w2) (hF : ∀ k, F' k → F k ∨ w1.heap.size ≤ k)
    (hok : D.S.Ok) (hl : LeftOk D.l) (hgr : Grow S u D) :
    MW R P w2 tb F' D.S pp Fp D.l D.u (j + 1) ∧ KB (fun k => F k ∨ Fp k) w w2 ∧ (∀ k, F' k → F k ∨ w.heap.size ≤ k) := by
  have hF2 : ∀ k, F' k → F k ∨ w.heap.size ≤ k := fun k hk => by
    rcases hF k hk with h1 | h1
    · exact .inl h1
    · have := hb.size; right; omega
  exact ⟨h.step hM hr hp hF2 hok hl hgr, ⟨(hb.mono (Nat.zero_le _)).trans hk.1, fun k hkl hkf => (hk.2 k (by have := hb.size; omega) hkf).trans (hb.block k hkl)⟩, hF2⟩
/-- The same where the power isn't used. -/
theorem do_finF (hM : MediumM R P) {w w1 w2 : World} {tb : Nat} {F F' Fp : Nat → Prop} {S S' : MS} {pp : Option Nat} {l : Int} {u j : Nat} (h : MW R P w tb F S pp Fp l u j) (hb : Below w.heap.size w w1) (hr : R w2 tb F' S' pp) (hk : KB F w1 w2) (hF : ∀ k, F' k → F k ∨ w1.heap.size ≤ k)
    (hok : S'.Ok) (hc : S'.cache.length ≤ S.cache.length + 1) :
    MW R P w2 tb F' S' pp Fp l u (j + 1) ∧ KB (fun k => F k ∨ Fp k) w w2 ∧ (∀ k, F' k → F k ∨ w.heap.size ≤ k) := by
  have h1 := h.on hM hb
  have hF2 : ∀ k, F' k → F k ∨ w.heap.size ≤ k := fun k hk => by
    rcases hF k hk with h1 | h1
    · exact .inl h1
    · have := hb.size; right; omega
  refine ⟨h1.stepF hM hr hk hF hok hc, ⟨(hb.mono (Nat.zero_le _)).trans hk.1, fun k hkl hkf => (hk.2 k (by have := hb.size; omega) (fun e => hkf (.inl e))).trans (hb.block k hkl)⟩, hF2⟩
end
set_option maxHeartbeats 8000000 in
theorem do_any {R : World → Nat → (Nat → Prop) → MS → Option Nat → Prop} {P : World → Nat → (Nat → Prop) → Int → Nat → Prop} (hM : MediumM R P) (w : World) (tb : Nat) (F : Nat → Prop) (S : MS) (pp : Option Nat) (Fp : Nat → Prop) (l : Int) (u j B : Nat) (a : AC) (h : MW R P w tb F S pp Fp l u j) (hj : j ≤ 900) (ha : ActV w a) (hB : Hi B F Fp) (hkb : 0 < a.kn → ∀ b o, a.ka = some ⟨b, o, none⟩ → b < B) :
    Calls Try.prog 10 #[tbV tb, ppV pp, acA a] w fun e w' => ∃ F', e = .returned (.tuple #[.string (strOfNums (doS pp.isSome a S l u).out), .int .i64 (doS pp.isSome a S l u).err]) ∧
      MW R P w' tb F' (doS pp.isSome a S l u).S pp Fp (doS pp.isSome a S l u).l (doS pp.isSome a S l u).u (j + 1) ∧ KB (fun k => F k ∨ Fp k) w w' ∧ (∀ k, F' k → F k ∨ w.heap.size ≤ k) := by
  obtain ⟨kd, at_, x, ka, kn, kc, ks⟩ := a
  have HM := Lib.hid hM
  have H := Lib.hid h
  have HRK := Lib.hid ha.1
  have HRA := Lib.hid (show i64R at_ from ha.2.1)
  have HRX := Lib.hid (show i64R x from ha.2.2.1)
  obtain ⟨O, hO⟩ : ∃ O, O = Obj.cells #[.int .i64 kd, .int .i64 at_, .int .i64 x, .slice ka kn kc] 31 := ⟨_, rfl⟩
  have HB0 := Lib.hid (show Below w.heap.size w (w.alloc O) from (Below.refl _ _).alloc (Nat.le_refl _) _)
  have H0 := Lib.hid (h.on hM HB0.out)
  have HKA := Lib.hid (show ArgB (w.alloc O) ka kn kc ks from ha.2.2.2.on HB0.out)
  have HOF := Lib.hid (show Off F ka kn from fun h0 b o e hf => by have h1 := hkb h0 b o e; have h2 := hB b (.inl hf); omega)
  have HC := Lib.hid (show S.cache.length ≤ 1000 ∧ u ≤ 1000 from ⟨by have := h.few.1; omega, by have := h.few.2; omega⟩)
  have HIN := Lib.hid (show ∀ k, F k ∨ Fp k → k < w.heap.size from fun k hk => h.inside hM hk)
  have HOK := Lib.hid h.ok
  have HLO := Lib.hid h.left
  clear hM h hj ha hB hkb
  unfold acA
  dsimp only
  have HBX := Lib.hid (show ∀ (k : Int) (W : World), Below (w.heap.size + 1) (w.alloc (.cells #[.int .i64 k, .int .i64 at_, .int .i64 x, .slice ka kn kc] 31)) W → W.cell? ⟨w.heap.size, 0, none⟩ = some (.int .i64 k) ∧ W.cell? ⟨w.heap.size, 1, none⟩ = some (.int .i64 at_) ∧ W.cell? ⟨w.heap.size, 2, none⟩ = some (.int .i64 x) ∧ W.cell? ⟨w.heap.size, 3, none⟩ = some (.slice ka kn kc) from fun k W hW => by
    have hh := heap_alloc_new w (.cells #[.int .i64 k, .int .i64 at_, .int .i64 x, .slice ka kn kc] 31)
    have hb := (hW.block w.heap.size (by omega)).trans hh
    refine ⟨?_, ?_, ?_, ?_⟩
    all_goals rw [cell_of_row _ _ _ _ _ _ hb]; rfl)
  have HSZ := Lib.hid (show ∀ o : Obj, (w.alloc o).heap.size = w.heap.size + 1 from fun o => by simp)
  by_cases e0 : kd = 0
  · subst e0
    rw [doS_0]
    rw [hO] at H0 HB0 HKA
    have HSO := Lib.hid (HSZ.out O)
    rw [hO] at HSO
    clear hO
    obtain ⟨D, hD⟩ : ∃ D, D = opWrite pp.isSome S at_ (secX x) l u := ⟨_, rfl⟩
    have HD := Lib.hid hD
    rw [← hD]
    clear hD
    go_enter Try.func10, Try.ntmps10
    go_upto_region 4 with (go_at_call 26; go_loud (refine (sector_ex x _ HRX.out).mono ?_; rintro e w1 ⟨g, rfl, hg1, hg2, ho, hb⟩; rw [HSO.out] at hg1 hb; have HG1 := Lib.hid hg1; have HG2 := Lib.hid hg2; have HO1 := Lib.hid (own_low ho (Nat.zero_le _)); have HX1 := Lib.hid (HBX.out 0 w1 hb); have HB1 := Lib.hid (show Below w.heap.size w w1 from HB0.out.trans (hb.mono (by omega))); clear hg1 hg2 ho hb))
    have H1 := Lib.hid (H.out.on HM.out HB1.out)
    have hx1 := HX1.out.2.1
    go_upto_region 5 with (go_at_call 25; go_loud (refine (HM.out.write tb F Fp S pp l u at_ (some ⟨g, 0, none⟩) (secN x) (secN x) (secX x) w1 H1.out.r H1.out.p H1.out.apart HOK.out HLO.out HC.out.1 HC.out.2 HRA.out (own_any HO1.out (secX_B x)) (Off.new rfl (fun hf => by have h1 := HIN.out g (.inl hf); have h2 := HG1.out; omega)) (Off.new rfl (fun hf => by have h1 := HIN.out g (.inr hf); have h2 := HG1.out; omega))).mono ?_; rintro e w2 ⟨F2, rfl, hr, hp, hk, hf⟩; rw [← HD.out] at hr hp ⊢; have HR2 := Lib.hid hr; have HP2 := Lib.hid hp; have HK2 := Lib.hid hk; have HF2 := Lib.hid hf; have HO2 := Lib.hid (hk.own HO1.out (fun g' e hf' => by cases e; rcases hf' with hf' | hf'; have h1 := HIN.out g (.inl hf'); have h2 := HG1.out; omega; have h1 := HIN.out g (.inr hf'); have h2 := HG1.out; omega)); clear hr hp hk hf))
    clear hx1
    obtain ⟨N, hN⟩ : ∃ N, N = secN x := ⟨_, rfl⟩
    have HN5 := Lib.hid (show N ≤ 512 by rw [hN]; unfold secN; split <;> omega)
    have HLN := Lib.hid (show (secX x).length = N by rw [hN]; exact secX_len x)
    rw [← hN] at HO2 ⊢
    have hN5 := HN5.out
    clear hN
    go_wp2_with fail
    go_loopw [27] (fun q wr => ∃ (i : Nat) (lx : List Int), i ≤ N ∧ q = .int .i64 (i : Nat) ∧ AllB lx ∧ wr.ownsRow 0 5 1 (.slice (some ⟨g, 0, none⟩) N N) N (lx.map (Value.int .u8)) ∧ KB (fun k => k = g) w2 wr) (fun q _ => N - (intOf q).toNat)
    case atStart => exact ⟨0, secX x, Nat.zero_le _, rfl, secX_B x, HO2.out, KB.refl _ _⟩
    case round =>
      obtain ⟨i, lx, hi, rfl, hlB, hown, hkb⟩ := hrel
      rename World => V
      have HOV := Lib.hid hown
      have HLB := Lib.hid hlB
      have HKV := Lib.hid hkb
      clear hlB hown hkb
      by_cases hlt : i < N
      · have HLT := Lib.hid hlt
        have hc := own_cells HOV.out i hlt
        rw [Nat.zero_add] at hc
        have hfz := HOV.out.frozenAt i
        obtain ⟨X, hX⟩ : ∃ X, X = lx.getD i 0 := ⟨_, rfl⟩
        rw [← hX] at hc
        have HXB := Lib.hid (show 0 ≤ X ∧ X < 256 by rw [hX]; exact allB_getD HLB.out i)
        have qi : (i : Int) < (N : Int) := by omega
        clear hX hlt
        go_wp2_with fail
        go_roundw
        case rel =>
          refine ⟨i + 1, lx.set i (bits .xor .u8 X 255), HLT.out, by go_num, allB_setU HLB.out i (u8x255U HXB.out), ?_, HKV.out.trans (KB.of_set V g i _)⟩
          have h := (HOV.out.stored i (.int .u8 (bits .xor .u8 X 255))).1
          rw [map_set_u8] at h
          exact h
        case measure => simp [intOf]; have := HLT.out; omega
      · obtain rfl : i = N := by omega
        go_wp2_with fail
        go_ret2
        obtain ⟨r1, r2, r3⟩ := do_fin HM.out H.out HB1.out HR2.out HP2.out HK2.out HF2.out (by have := HG1.out; omega) HG2.out HKV.out (by rw [HD.out]; exact opWrite_ok _ HOK.out _ (secX_B x) _ _) (by rw [HD.out]; exact opWrite_left _ _ _ _ _ HLO.out) (by rw [HD.out]; exact opWrite_grow _ _ _ _ _ _)
        exact ⟨F2, by rw [show D.out = [] from by rw [HD.out]; exact opWrite_out _ _ _ _ _ _]; rfl, r1, r2, r3⟩
  by_cases e1 : kd = 1
  · subst e1
    rw [doS_1]
    rw [hO] at H0 HB0 HKA
    have HSO := Lib.hid (HSZ.out O)
    rw [hO] at HSO
    clear hO
    have hbx := HBX.out 1 _ (Below.refl _ _)
    obtain ⟨hx0, hx1, hx2, hx3⟩ := hbx
    obtain ⟨D, hD⟩ : ∃ D, D = opRead S at_ l u := ⟨_, rfl⟩
    have HD := Lib.hid hD
    rw [← hD]
    clear hD
    go_enter Try.func10, Try.ntmps10
    go_upto_region 13 with (go_at_call 14; go_loud (refine (HM.out.read tb F Fp S pp l u at_ _ H0.out.r H0.out.p H0.out.apart HOK.out HLO.out HC.out.1 HC.out.2 HRA.out).mono ?_; rintro e w1 ⟨a1, c1, rfl, ha, hna, hb⟩; rw [← HD.out] at ha ⊢; rw [HSO.out] at hb; have HA1 := Lib.hid ha; have HB1 := Lib.hid (show Below w.heap.size w w1 from HB0.out.trans (hb.mono (by omega))); clear ha hna hb))
    clear hx0 hx1 hx2 hx3
    have hcv := HA1.out.strU _ (Below.refl _ _)
    go_wp2_with fail
    go_ret2
    have h1 := H.out.on HM.out HB1.out
    refine ⟨F, rfl, ?_, KB.of_below HB1.out, fun k hk => .inl hk⟩
    rw [HD.out, (opRead_same at_ l u).1, (opRead_same at_ l u).2.1, (opRead_same at_ l u).2.2]
    exact h1.more (Nat.le_succ _)
  by_cases e2 : kd = 2
  · subst e2
    rw [doS_2]
    rw [hO] at H0 HB0 HKA
    have HSO := Lib.hid (HSZ.out O)
    rw [hO] at HSO
    clear hO
    have hbx := HBX.out 2 _ (Below.refl _ _)
    obtain ⟨hx0, hx1, hx2, hx3⟩ := hbx
    obtain ⟨D, hD⟩ : ∃ D, D = opFlush pp.isSome S l u := ⟨_, rfl⟩
    have HD := Lib.hid hD
    rw [← hD]
    clear hD
    go_enter Try.func10, Try.ntmps10
    go_wp2_with (go_at_call 24; go_loud (refine (HM.out.flush tb F Fp S pp l u _ H0.out.r H0.out.p H0.out.apart HOK.out HLO.out HC.out.1 HC.out.2).mono ?_; rintro e w1 ⟨F1, rfl, hr, hp, hk, hf⟩; rw [← HD.out] at hr hp ⊢; have HR1 := Lib.hid hr; have HP1 := Lib.hid hp; have HK1 := Lib.hid hk; have HF1 := Lib.hid hf; clear hr hp hk hf))
    go_ret2
    obtain ⟨r1, r2, r3⟩ := do_fin0 HM.out H.out HB0.out HR1.out HP1.out HK1.out HF1.out (by rw [HD.out]; exact opFlush_ok _ HOK.out _ _) (by rw [HD.out]; exact opFlush_left _ _ _ HLO.out) (by rw [HD.out]; exact opFlush_grow _ _ _ _)
    exact ⟨F1, by rw [show D.out = [] from by rw [HD.out]; exact opFlush_out _ _ _ _]; rfl, r1, r2, r3⟩
  by_cases e3 : kd = 3
  · subst e3
    rw [doS_3]
    rw [hO] at H0 HB0 HKA
    have HSO := Lib.hid (HSZ.out O)
    rw [hO] at HSO
    clear hO
    have hbx := HBX.out 3 _ (Below.refl _ _)
    obtain ⟨hx0, hx1, hx2, hx3⟩ := hbx
    go_enter Try.func10, Try.ntmps10
    go_wp2_with (go_at_call 12; go_loud (refine (HM.out.crash tb F S pp ka kn kc ks _ H0.out.r HOK.out HC.out.1 HKA.out HOF.out).mono ?_; rintro e w1 ⟨F1, rfl, hr, hk, hf⟩; have HR1 := Lib.hid hr; have HK1 := Lib.hid hk; have HF1 := Lib.hid hf; clear hr hk hf))
    go_ret2
    obtain ⟨r1, r2, r3⟩ := do_finF HM.out H.out HB0.out HR1.out HK1.out HF1.out (HOK.out.crash ks) (Nat.zero_le _)
    exact ⟨F1, rfl, r1, r2, r3⟩
  by_cases e4 : kd = 4
  · subst e4
    rw [doS_4]
    rw [hO] at H0 HB0 HKA
    have HSO := Lib.hid (HSZ.out O)
    rw [hO] at HSO
    clear hO
    have hbx := HBX.out 4 _ (Below.refl _ _)
    obtain ⟨hx0, hx1, hx2, hx3⟩ := hbx
    go_enter Try.func10, Try.ntmps10
    go_wp2_with (go_at_call 27; go_loud (refine (HM.out.fail tb F S pp _ H0.out.r HOK.out HC.out.1).mono ?_; rintro e w1 ⟨F1, rfl, hr, hk, hf⟩; have HR1 := Lib.hid hr; have HK1 := Lib.hid hk; have HF1 := Lib.hid hf; clear hr hk hf))
    go_ret2
    obtain ⟨r1, r2, r3⟩ := do_finF HM.out H.out HB0.out HR1.out HK1.out HF1.out HOK.out.fail (Nat.zero_le _)
    exact ⟨F1, rfl, r1, r2, r3⟩
  by_cases e5 : kd = 5
  · subst e5
    rw [doS_5]
    rw [hO] at H0 HB0 HKA
    have HSO := Lib.hid (HSZ.out O)
    rw [hO] at HSO
    clear hO
    have hbx := HBX.out 5 _ (Below.refl _ _)
    obtain ⟨hx0, hx1, hx2, hx3⟩ := hbx
    go_enter Try.func10, Try.ntmps10
    go_wp2_with (go_at_call 28; go_loud (refine (HM.out.back tb F S pp _ H0.out.r HOK.out HC.out.1).mono ?_; rintro e w1 ⟨F1, rfl, hr, hk, hf⟩; have HR1 := Lib.hid hr; have HK1 := Lib.hid hk; have HF1 := Lib.hid hf; clear hr hk hf))
    go_ret2
    obtain ⟨r1, r2, r3⟩ := do_finF HM.out H.out HB0.out HR1.out HK1.out HF1.out HOK.out.back (Nat.le_succ _)
    exact ⟨F1, rfl, r1, r2, r3⟩
  by_cases e6 : kd = 6
  · subst e6
    rw [doS_6]
    rw [hO] at H0 HB0 HKA
    have HSO := Lib.hid (HSZ.out O)
    rw [hO] at HSO
    clear hO
    have hbx := HBX.out 6 _ (Below.refl _ _)
    obtain ⟨hx0, hx1, hx2, hx3⟩ := hbx
    obtain ⟨D, hD⟩ : ∃ D, D = opLose S at_ l u := ⟨_, rfl⟩
    have HD := Lib.hid hD
    rw [← hD]
    clear hD
    go_enter Try.func10, Try.ntmps10
    go_wp2_with (go_at_call 30; go_loud (refine (HM.out.lose tb F S pp at_ l u _ H0.out.r HOK.out HC.out.1 HRA.out).mono ?_; rintro e w1 ⟨F1, rfl, hr, hk, hf⟩; rw [← HD.out] at hr ⊢; have HR1 := Lib.hid hr; have HK1 := Lib.hid hk; have HF1 := Lib.hid hf; clear hr hk hf))
    go_ret2
    have hs := opLose_same S at_ l u
    rw [← HD.out] at hs
    obtain ⟨r1, r2, r3⟩ := do_finF HM.out H.out HB0.out HR1.out HK1.out HF1.out (by rw [HD.out]; exact opLose_ok HOK.out _ _ _) hs.2.2.2
    rw [hs.1, hs.2.1, hs.2.2.1]
    exact ⟨F1, rfl, r1, r2, r3⟩
  by_cases e7 : kd = 7
  · subst e7
    rw [doS_7]
    rw [hO] at H0 HB0 HKA
    have HSO := Lib.hid (HSZ.out O)
    rw [hO] at HSO
    clear hO
    have hbx := HBX.out 7 _ (Below.refl _ _)
    obtain ⟨hx0, hx1, hx2, hx3⟩ := hbx
    have HXX := Lib.hid (And.intro hx1 hx2)
    obtain ⟨D, hD⟩ : ∃ D, D = opSpoil S at_ (secX x) l u := ⟨_, rfl⟩
    have HD := Lib.hid hD
    rw [← hD]
    clear hD
    go_enter Try.func10, Try.ntmps10
    go_upto_region 25 with fail
    obtain ⟨W0, hW0⟩ : ∃ W0, W0 = w.alloc (.cells #[.int .i64 7, .int .i64 at_, .int .i64 x, .slice ka kn kc] 31) := ⟨_, rfl⟩
    rw [← hW0] at H0 HB0 HKA HSO HXX
    rw [← hW0]
    clear hx0 hx1 hx2 hx3 HBX hW0
    have HS0 : W0.drew.cell? ⟨w.heap.size, 1, none⟩ = some (.int .i64 at_) ∧ W0.drew.cell? ⟨w.heap.size, 2, none⟩ = some (.int .i64 x) := HXX.out
    have HS1 := Lib.hid (show ∀ W, Below (w.heap.size + 1) W0 W → W.cell? ⟨w.heap.size, 1, none⟩ = some (.int .i64 at_) ∧ W.cell? ⟨w.heap.size, 2, none⟩ = some (.int .i64 x) from fun W hb => ⟨(hb.cell (p := ⟨w.heap.size, 1, none⟩) (by show w.heap.size < _; omega)).trans HXX.out.1, (hb.cell (p := ⟨w.heap.size, 2, none⟩) (by show w.heap.size < _; omega)).trans HXX.out.2⟩)
    go_region_held (fun W => W.cell? ⟨w.heap.size, 1, none⟩ = some (.int .i64 at_) ∧ W.cell? ⟨w.heap.size, 2, none⟩ = some (.int .i64 x)) (first | assumption)
      (first
        | (go_at_call 26; refine (sector_ex x _ HRX.out).mono ?_; rintro e w1 ⟨g, rfl, hg1, hg2, ho, hb⟩; (have hb0 : Below (w.heap.size + 1) W0 w1 := ((Below.refl _ W0).drew).trans (hb.mono (by show w.heap.size + 1 ≤ W0.heap.size; have := HSO.out; omega))); (have hs1 := HS1.out w1 hb0); (have HG1 : Hid (w.heap.size + 1 ≤ g) := Lib.hid (by have h1 : W0.heap.size ≤ g := hg1; have := HSO.out; omega)); have HO1 := Lib.hid (own_any ho (secX_B x)); (have HSZ1 : Hid (w.heap.size + 1 ≤ w1.heap.size) := Lib.hid (by have := hb0.size; have := HSO.out; omega)); (have HB1 := Lib.hid (show Below w.heap.size w w1 from HB0.out.trans (hb0.mono (by omega)))); clear hg1 hg2 ho hb hb0)
        | (go_at_call 31; refine (HM.out.spoil tb F S pp at_ l u (some ⟨g, 0, none⟩) (secN x) (secN x) (secX x) w1 (H.out.on HM.out HB1.out).r HOK.out HC.out.1 HRA.out HO1.out (Off.new rfl (fun hf => by have h1 := HIN.out g (.inl hf); have h2 := HG1.out; omega))).mono ?_; rintro e w2 ⟨F2, rfl, hr, hk, hf⟩; rw [← HD.out] at hr ⊢; (have hs2 : w2.cell? ⟨w.heap.size, 1, none⟩ = some (.int .i64 at_) ∧ w2.cell? ⟨w.heap.size, 2, none⟩ = some (.int .i64 x) := ⟨(hk.cell (p := ⟨w.heap.size, 1, none⟩) (by show w.heap.size < _; have h1 := HSZ1.out; omega) (fun h => by have := HIN.out _ (.inl h); exact absurd this (Nat.lt_irrefl _))).trans hs1.1, (hk.cell (p := ⟨w.heap.size, 2, none⟩) (by show w.heap.size < _; have h1 := HSZ1.out; omega) (fun h => by have := HIN.out _ (.inl h); exact absurd this (Nat.lt_irrefl _))).trans hs1.2⟩); have HR2 := Lib.hid hr; have HK2 := Lib.hid hk; have HF2 := Lib.hid hf; clear hr hk hf))
    go_wp2_with fail
    go_ret2
    have hs := opSpoil_same S at_ (secX x) l u
    rw [← HD.out] at hs
    obtain ⟨r1, r2, r3⟩ := do_finF HM.out H.out HB1.out HR2.out HK2.out HF2.out (by rw [HD.out]; exact opSpoil_ok HOK.out _ (secX_B x) _ _) hs.2.2.2
    rw [hs.1, hs.2.1, hs.2.2.1]
    exact ⟨F2, rfl, r1, r2, r3⟩
  by_cases e8 : kd = 8
  · subst e8
    rw [doS_8]
    rw [hO] at H0 HB0 HKA
    have HSO := Lib.hid (HSZ.out O)
    rw [hO] at HSO
    clear hO
    have hbx := HBX.out 8 _ (Below.refl _ _)
    obtain ⟨hx0, hx1, hx2, hx3⟩ := hbx
    obtain ⟨D, hD⟩ : ∃ D : DS, D = ⟨[], 0, S, if pp.isSome then max x (-1) else l, u⟩ := ⟨_, rfl⟩
    have HD := Lib.hid hD
    rw [← hD]
    have hl9 : D.l = if pp.isSome then max x (-1) else l := by rw [hD]
    obtain ⟨l9, hl9'⟩ : ∃ l9, l9 = if pp.isSome then max x (-1) else l := ⟨_, rfl⟩
    have HL9 := Lib.hid hl9'
    clear hD hl9 hl9'
    go_enter Try.func10, Try.ntmps10
    go_wp2_with (go_at_call 29; go_loud (refine (HM.out.set pp Fp l u x _ H0.out.p HRX.out).mono ?_; rintro e w1 ⟨rfl, hp, hk⟩; rw [← HL9.out] at hp; have HP1 := Lib.hid hp; have HK1 := Lib.hid hk; clear hp hk))
    go_ret2
    have hr : R w1 tb F S pp := HM.out.keep H0.out.r (fun k hk => HK1.out.2 k (HM.out.inside H0.out.r k hk) (fun hp => H0.out.apart k hk hp))
    have hD := HD.out
    rw [← HL9.out] at hD
    subst hD
    obtain ⟨r1, r2, r3⟩ := do_fin0 HM.out H.out HB0.out (D := ⟨[], 0, S, l9, u⟩) hr HP1.out (HK1.out.monoF (fun _ h => .inr h)) (fun k hk => .inl hk) HOK.out (by rw [HL9.out]; exact setL_ok _ HLO.out HRX.out.2) ⟨Nat.le_succ _, Nat.le_succ _⟩
    first | exact ⟨F, rfl, r1, r2, r3⟩ | exact ⟨rfl, F, r1, r2, r3⟩
  rw [doS_9 _ kd at_ x ka kn kc ks _ _ _ e0 e1 e2 e3 e4 e5 e6 e7 e8]
  rw [hO] at H0 HB0 HKA
  clear hO
  have hbx := HBX.out kd _ (Below.refl _ _)
  obtain ⟨hx0, hx1, hx2, hx3⟩ := hbx
  have z0 : (kd == 0) = false := by simpa using e0
  have z1 : (kd == 1) = false := by simpa using e1
  have z2 : (kd == 2) = false := by simpa using e2
  have z3 : (kd == 3) = false := by simpa using e3
  have z4 : (kd == 4) = false := by simpa using e4
  have z5 : (kd == 5) = false := by simpa using e5
  have z6 : (kd == 6) = false := by simpa using e6
  have z7 : (kd == 7) = false := by simpa using e7
  have z8 : (kd == 8) = false := by simpa using e8
  go_enter Try.func10, Try.ntmps10
  go_wp2_with fail
  go_ret2
  exact ⟨rfl, F, H0.out.more (Nat.le_succ _), KB.of_below HB0.out, fun k hk => .inl hk⟩
end Go.Proofs.Ytoonaendakjecaa
