/- The document's answers: the laws' want. -/
import Derived.Test.YtoonaendakjecaaUw
import Derived.Test.YtoonaendakjecaaUv
import Derived.Test.YtoonaendakjecaaUf
import Derived.BigQuiet
namespace Go.Proofs.Ytoonaendakjecaa
open Go.ChangeShapes Go.WideShapes Go.ChangeAt Go.RowKit Go.Shelf
set_option linter.unusedVariables false
set_option linter.unusedSimpArgs false
set_option maxRecDepth 100000

theorem RS.setDown {w : World} {mb : Nat} {G : Nat → Prop} {qb : Nat} {S : MS} {L : List EV} {a : Option Addr} {c : Nat} {l : Int} {u j : Nat} (h : RS w mb G qb S L a c l u j) (d : Bool) :
    RS (w.setCell ⟨mb, 2, none⟩ (.bool d)) mb G qb ⟨S.size, S.med, S.cache, d⟩ L a c l u j ∧ KB G w (w.setCell ⟨mb, 2, none⟩ (.bool d)) := by
  have hkb := KB.of_set w mb 2 (.bool d)
  refine ⟨⟨h.m.set2 d, own_blockT h.row (fun g e => hkb.2 g (own_lt h.row e).2 (fun e2 => h.ne (by rw [e, e2]))), h.ne, (hkb.2 qb (heap_lt h.p) h.nq.1).trans h.p, h.nq, h.foot, ⟨h.sim.cache, h.sim.med, h.sim.data⟩, ⟨h.ok.med, h.ok.cache, h.ok.size1, h.ok.size2⟩, h.left, h.few⟩, hkb.monoF (fun k e => (h.foot k).2 (.inl e))⟩
theorem crash_off (S : MS) : MS.crash ⟨S.size, S.med, S.cache, true⟩ [] = S.fail := by
  unfold MS.crash MS.fail
  dsimp only
  rw [keptW_nil]; rfl
theorem RS.same {w : World} {mb : Nat} {G : Nat → Prop} {qb : Nat} {S : MS} {L : List EV} {a : Option Addr} {c : Nat} {l : Int} {u j : Nat} (h : RS w mb G qb S L a c l u j) (o : List Int) (e : Int) : RSN w mb G qb ⟨o, e, S, l, u⟩ j w :=
  ⟨G, L, a, c, h.more, KB.refl _ _, fun k hk => .inl hk⟩
/-- Seen from a world ahead of it. -/
theorem RSN.ahead {w w1 w2 : World} {mb : Nat} {G : Nat → Prop} {qb : Nat} {D : DS} {j : Nat} (h : RSN w1 mb G qb D j w2) (hb : Below w.heap.size w w1) : RSN w mb G qb D j w2 := by
  obtain ⟨G', L', a', c', h1, h2, h3⟩ := h
  exact ⟨G', L', a', c', h1, (KB.of_below hb).trans h2, fun k hk => (h3 k hk).imp id (fun h => Nat.le_trans hb.size h)⟩
theorem RSN.behind {w w1 w2 : World} {mb : Nat} {G : Nat → Prop} {qb : Nat} {D : DS} {j : Nat} (h : RSN w1 mb G qb D j w2) (hb : KB G w w1) : RSN w mb G qb D j w2 := by
  obtain ⟨G', L', a', c', h1, h2, h3⟩ := h
  exact ⟨G', L', a', c', h1, hb.trans h2, fun k hk => (h3 k hk).imp id (fun h => Nat.le_trans hb.1.size h)⟩
/-- Cells outside its blocks stay. -/
theorem RSN.held {w w2 : World} {mb : Nat} {G : Nat → Prop} {qb : Nat} {D : DS} {j b : Nat} {v1 v2 : Value} (h : RSN w mb G qb D j w2) (hs : w.cell? ⟨b, 1, none⟩ = some v1 ∧ w.cell? ⟨b, 2, none⟩ = some v2) (hb : b + 1 ≤ w.heap.size) (hG : ¬ G b) :
    w2.cell? ⟨b, 1, none⟩ = some v1 ∧ w2.cell? ⟨b, 2, none⟩ = some v2 := by
  obtain ⟨G', L', a', c', h1, h2, h3⟩ := h
  exact ⟨(h2.cell (p := ⟨b, 1, none⟩) (by show b < _; omega) hG).trans hs.1, (h2.cell (p := ⟨b, 2, none⟩) (by show b < _; omega) hG).trans hs.2⟩
set_option maxHeartbeats 16000000 in
theorem want_any (w : World) (mb : Nat) (G : Nat → Prop) (qb : Nat) (S : MS) (L : List EV) (a0 : Option Addr) (c : Nat) (l : Int) (u j : Nat) (a : AC) (h : RS w mb G qb S L a0 c l u j) (hj : j ≤ 900) (ha : ActV w a) :
    Calls Try.prog 16 #[pV mb, pV qb, acA a] w fun e w' => e = .returned (.tuple #[.string (strOfNums (doS true a S l u).out), .int .i64 (doS true a S l u).err]) ∧ RSN w mb G qb (doS true a S l u) j w' := by
  obtain ⟨kd, at_, x, ka, kn, kc, ks⟩ := a
  have H := Lib.hid h
  have HJ := Lib.hid hj
  have HRK := Lib.hid (show i64R kd from ha.1)
  have HRA := Lib.hid (show i64R at_ from ha.2.1)
  have HRX := Lib.hid (show i64R x from ha.2.2.1)
  have HKW := Lib.hid (show ArgB w ka kn kc ks from ha.2.2.2)
  obtain ⟨n, hn⟩ : ∃ n, n = S.size := ⟨_, rfl⟩
  have HN := Lib.hid hn
  have HO2 := Lib.hid (show n ≤ 2048 by rw [hn]; exact h.ok.size2)
  have HB0 := Lib.hid (show Below w.heap.size w (w.alloc (.cells #[.int .i64 kd, .int .i64 at_, .int .i64 x, .slice ka kn kc] 31)) from (Below.refl _ _).alloc (Nat.le_refl _) _)
  have hm0 := (h.on HB0.out).m.c0
  rw [← hn] at hm0
  have HBX := Lib.hid (show (w.alloc (.cells #[.int .i64 kd, .int .i64 at_, .int .i64 x, .slice ka kn kc] 31)).heap[w.heap.size]? = some (.cells #[.int .i64 kd, .int .i64 at_, .int .i64 x, .slice ka kn kc] 31 (0, 0)) from heap_alloc_new w _)
  have HSZ := Lib.hid (show (w.alloc (.cells #[.int .i64 kd, .int .i64 at_, .int .i64 x, .slice ka kn kc] 31)).heap.size = w.heap.size + 1 from by simp)
  clear h hn ha hj
  unfold acA
  dsimp only
  obtain ⟨D, hD⟩ : ∃ D, D = doS true ⟨kd, at_, x, ka, kn, kc, ks⟩ S l u := ⟨_, rfl⟩
  rw [← hD]
  have HD := Lib.hid hD
  clear hD
  by_cases p1 : 0 ≤ at_
  · by_cases p2 : at_ < (n : Int)
    · obtain ⟨k, rfl⟩ : ∃ k : Nat, at_ = (k : Int) := ⟨at_.toNat, by omega⟩
      have HIN := Lib.hid (show inR S (k : Int) from ⟨p1, by rw [← HN.out]; exact p2⟩)
      have HKS := Lib.hid (show k < S.size from by rw [← HN.out]; omega)
      go_enter Try.func16, Try.ntmps16
      go_upto_region 1 with fail
      go_quiet (fail)
      obtain ⟨W1, hW1⟩ : ∃ W1, W1 = (w.alloc (.cells #[.int .i64 kd, .int .i64 (k : Int), .int .i64 x, .slice ka kn kc] 31)).drewN nq := ⟨_, rfl⟩
      rw [← hW1]
      have HB1 := Lib.hid (show Below w.heap.size w W1 from by rw [hW1]; exact below_drewN HB0.out nq)
      have HX1 := Lib.hid (show W1.heap[w.heap.size]? = some (.cells #[.int .i64 kd, .int .i64 (k : Int), .int .i64 x, .slice ka kn kc] 31 (0, 0)) from by rw [hW1]; exact HBX.out)
      have HS1 := Lib.hid (show W1.heap.size = w.heap.size + 1 from by rw [hW1]; exact HSZ.out)
      have H1 := Lib.hid (H.out.on HB1.out)
      have HK1 := Lib.hid (HKW.out.on HB1.out)
      clear hW1 hm0 HBX HSZ HB0
      have hx0 : W1.cell? ⟨w.heap.size, 0, none⟩ = some (.int .i64 kd) := by rw [cell_of_row _ _ _ _ _ _ HX1.out]; rfl
      have hx1 : W1.cell? ⟨w.heap.size, 1, none⟩ = some (.int .i64 (k : Int)) := by rw [cell_of_row _ _ _ _ _ _ HX1.out]; rfl
      have hx2 : W1.cell? ⟨w.heap.size, 2, none⟩ = some (.int .i64 x) := by rw [cell_of_row _ _ _ _ _ _ HX1.out]; rfl
      have hx3 : W1.cell? ⟨w.heap.size, 3, none⟩ = some (.slice ka kn kc) := by rw [cell_of_row _ _ _ _ _ _ HX1.out]; rfl
      have HXX := Lib.hid (And.intro hx1 hx2)
      clear HX1
      clear p1 p2
      by_cases e0 : kd = 0
      · as_aux_lemma =>
          subst e0
          rw [doS_0] at HD
          go_upto_region 4 with fail
          clear hx0 hx1 hx2 hx3
          have HS0 : W1.drew.cell? ⟨w.heap.size, 1, none⟩ = some (.int .i64 (k : Int)) ∧ W1.drew.cell? ⟨w.heap.size, 2, none⟩ = some (.int .i64 x) := HXX.out
          go_region_held (fun W => W.cell? ⟨w.heap.size, 1, none⟩ = some (.int .i64 (k : Int)) ∧ W.cell? ⟨w.heap.size, 2, none⟩ = some (.int .i64 x)) (first | assumption)
            (first
              | (go_at_call 26; refine (sector_ex x _ HRX.out).mono ?_; rintro e w1 ⟨g, rfl, hg1, hg2, ho, hb⟩; (have hb0 : Below (w.heap.size + 1) W1 w1 := ((Below.refl _ W1).drew).trans (hb.mono (by show w.heap.size + 1 ≤ W1.heap.size; have := HS1.out; omega))); (have hs1 : w1.cell? ⟨w.heap.size, 1, none⟩ = some (.int .i64 (k : Int)) ∧ w1.cell? ⟨w.heap.size, 2, none⟩ = some (.int .i64 x) := ⟨(hb0.cell (p := ⟨w.heap.size, 1, none⟩) (by show w.heap.size < _; omega)).trans HXX.out.1, (hb0.cell (p := ⟨w.heap.size, 2, none⟩) (by show w.heap.size < _; omega)).trans HXX.out.2⟩); have hcv := (own_any ho (secX_B x)).strU w1 (Below.refl _ _); (have HS2 : Hid (w.heap.size + 1 ≤ w1.heap.size) := Lib.hid (by have := hb0.size; have := HS1.out; omega)); (have HB2 := Lib.hid (show Below w.heap.size w w1 from HB1.out.trans (hb0.mono (by omega)))); clear hg1 hg2 ho hb hb0)
              | (go_at_call 37; refine (refWrite_any w1 mb G qb S L a0 c l u j (k : Int) (secX x) (H.out.on HB2.out) HJ.out HRA.out (secX_B x) (by rw [secX_len]; unfold secN; split <;> omega)).mono ?_; rintro e w2 ⟨rfl, hr⟩; rw [← HD.out] at hr ⊢; (have hs2 : w2.cell? ⟨w.heap.size, 1, none⟩ = some (.int .i64 (k : Int)) ∧ w2.cell? ⟨w.heap.size, 2, none⟩ = some (.int .i64 x) := hr.held hs1 HS2.out (fun h => absurd (H.out.inside h) (Nat.lt_irrefl _))); have HR := Lib.hid hr; clear hr))
          go_wp2_with fail
          go_ret2
          refine ⟨by rw [show D.out = [] from by rw [HD.out]; exact opWrite_out _ _ _ _ _ _]; rfl, HR.out.ahead HB2.out⟩
      by_cases e1 : kd = 1
      · as_aux_lemma =>
          subst e1
          rw [doS_1] at HD
          go_wp2_with (go_at_call 38; go_loud (refine (refRead_any W1 mb G qb S L a0 c l u j (k : Int) H1.out (by have := HJ.out; omega) HRA.out).mono ?_; rintro e w2 ⟨rfl, hb⟩; rw [← HD.out]; have HB2 := Lib.hid hb; clear hb))
          go_ret2
          refine ⟨rfl, ?_⟩
          have h2 := (H1.out.on HB2.out).same D.out D.err
          have h3 : D = ⟨D.out, D.err, S, l, u⟩ := by rw [HD.out, show opRead S (k : Int) l u = ⟨(opRead S (k : Int) l u).out, (opRead S (k : Int) l u).err, (opRead S (k : Int) l u).S, (opRead S (k : Int) l u).l, (opRead S (k : Int) l u).u⟩ from rfl, (opRead_same (k : Int) l u).1, (opRead_same (k : Int) l u).2.1, (opRead_same (k : Int) l u).2.2]
          rw [h3]
          exact h2.ahead (HB1.out.trans (HB2.out.mono HB1.out.size))
      by_cases e2 : kd = 2
      · as_aux_lemma =>
          subst e2
          rw [doS_2] at HD
          go_wp2_with (go_at_call 39; go_loud (refine (refFlush_any W1 mb G qb S L a0 c l u j H1.out HJ.out).mono ?_; rintro e w2 ⟨rfl, hr⟩; rw [← HD.out] at hr ⊢; have HR := Lib.hid hr; clear hr))
          go_ret2
          exact ⟨by rw [show D.out = [] from by rw [HD.out]; exact opFlush_out _ _ _ _]; rfl, HR.out.ahead HB1.out⟩
      by_cases e3 : kd = 3
      · as_aux_lemma =>
          subst e3
          rw [doS_3] at HD
          go_wp2_with (go_at_call 40; go_loud (refine (refCrash_any W1 mb G qb S L a0 c l u j ka kn kc ks false H1.out.more HJ.out HK1.out).mono ?_; rintro e w2 ⟨rfl, hr⟩; have HR := Lib.hid hr; clear hr))
          go_ret2
          exact ⟨by rw [HD.out]; rfl, by rw [HD.out]; exact HR.out.ahead HB1.out⟩
      by_cases e4 : kd = 4
      · as_aux_lemma =>
          subst e4
          rw [doS_4] at HD
          have hc2 := H1.out.m.c2
          have hf2 := H1.out.m.free 2
          have HRD := Lib.hid (H1.out.setDown true)
          go_wp2_with (go_at_call 40; go_loud (refine (refCrash_any _ mb G qb ⟨S.size, S.med, S.cache, true⟩ L a0 c l u j none 0 0 [] false HRD.out.1.more HJ.out (ArgB.nil _)).mono ?_; rintro e w2 ⟨rfl, hr⟩; have HR := Lib.hid hr; clear hr))
          go_ret2
          have hr : RSN _ mb G qb ⟨[], 0, MS.crash ⟨S.size, S.med, S.cache, true⟩ [], l, u⟩ j w2 := HR.out
          rw [crash_off] at hr
          exact ⟨by rw [HD.out]; rfl, by rw [HD.out]; exact (hr.behind HRD.out.2).ahead HB1.out⟩
      by_cases e5 : kd = 5
      · as_aux_lemma =>
          subst e5
          rw [doS_5] at HD
          have hc2 := H1.out.m.c2
          have hf2 := H1.out.m.free 2
          have HRD := Lib.hid (H1.out.setDown false)
          go_wp2_with fail
          go_ret2
          exact ⟨by rw [HD.out]; rfl, by rw [HD.out]; exact ((HRD.out.1.same [] 0).behind HRD.out.2).ahead HB1.out⟩
      by_cases e6 : kd = 6
      · as_aux_lemma =>
          subst e6
          rw [doS_6] at HD
          unfold opLose at HD
          rw [if_neg (fun h => h HIN.out)] at HD
          go_wp2_with (go_at_call 41; go_loud (refine (refSet_any W1 mb G qb S L a0 c l u j k [] H1.out HJ.out HKS.out (.inl rfl)).mono ?_; rintro e w2 ⟨rfl, hr⟩; have HR := Lib.hid hr; clear hr))
          go_ret2
          have hr := HR.out
          simp only [↓reduceIte] at hr
          exact ⟨by rw [HD.out]; rfl, by rw [HD.out, Int.toNat_natCast]; exact hr.ahead HB1.out⟩
      by_cases e7 : kd = 7
      · as_aux_lemma =>
          subst e7
          rw [doS_7] at HD
          unfold opSpoil at HD
          rw [if_neg (fun h => h HIN.out)] at HD
          by_cases hx : x < 0
          · rw [if_pos (by rw [secX_len, secN, if_pos hx]; omega)] at HD
            go_wp2_with fail
            go_ret2
            exact ⟨by rw [HD.out]; rfl, by rw [HD.out]; exact (H1.out.same [] 3).ahead HB1.out⟩
          · rw [if_neg (by rw [secX_len, secN, if_neg hx]; omega), Int.toNat_natCast] at HD
            have HSX := Lib.hid (secX_ok hx)
            go_upto_region 25 with fail
            clear hx
            clear hx0 hx1 hx2 hx3
            have HS0 : W1.drew.cell? ⟨w.heap.size, 1, none⟩ = some (.int .i64 (k : Int)) ∧ W1.drew.cell? ⟨w.heap.size, 2, none⟩ = some (.int .i64 x) := HXX.out
            go_region_held (fun W => W.cell? ⟨w.heap.size, 1, none⟩ = some (.int .i64 (k : Int)) ∧ W.cell? ⟨w.heap.size, 2, none⟩ = some (.int .i64 x)) (first | assumption)
              (first
                | (go_at_call 26; refine (sector_ex x _ HRX.out).mono ?_; rintro e w1 ⟨g, rfl, hg1, hg2, ho, hb⟩; (have hb0 : Below (w.heap.size + 1) W1 w1 := ((Below.refl _ W1).drew).trans (hb.mono (by show w.heap.size + 1 ≤ W1.heap.size; have := HS1.out; omega))); (have hs1 : w1.cell? ⟨w.heap.size, 1, none⟩ = some (.int .i64 (k : Int)) ∧ w1.cell? ⟨w.heap.size, 2, none⟩ = some (.int .i64 x) := ⟨(hb0.cell (p := ⟨w.heap.size, 1, none⟩) (by show w.heap.size < _; omega)).trans HXX.out.1, (hb0.cell (p := ⟨w.heap.size, 2, none⟩) (by show w.heap.size < _; omega)).trans HXX.out.2⟩); have hcv := (own_any ho (secX_B x)).strU w1 (Below.refl _ _); (have HS2 : Hid (w.heap.size + 1 ≤ w1.heap.size) := Lib.hid (by have := hb0.size; have := HS1.out; omega)); (have HB2 := Lib.hid (show Below w.heap.size w w1 from HB1.out.trans (hb0.mono (by omega)))); clear hg1 hg2 ho hb hb0)
                | (go_at_call 41; refine (refSet_any w1 mb G qb S L a0 c l u j k (secX x) (H.out.on HB2.out) HJ.out HKS.out (.inr HSX.out)).mono ?_; rintro e w2 ⟨rfl, hr⟩; (have hs2 : w2.cell? ⟨w.heap.size, 1, none⟩ = some (.int .i64 (k : Int)) ∧ w2.cell? ⟨w.heap.size, 2, none⟩ = some (.int .i64 x) := hr.held hs1 HS2.out (fun h => absurd (H.out.inside h) (Nat.lt_irrefl _))); have HR := Lib.hid hr; clear hr))
            go_wp2_with fail
            go_ret2
            have hr := HR.out
            rw [if_neg (fun e => by have := HSX.out.1; rw [e] at this; cases this)] at hr
            exact ⟨by rw [HD.out]; rfl, by rw [HD.out]; exact hr.ahead HB2.out⟩
      by_cases e8 : kd = 8
      · as_aux_lemma =>
          subst e8
          rw [doS_8] at HD
          have hp0 := H1.out.p.c0
          have hpf := H1.out.p.free 0
          by_cases hx : x < -1
          · have HD2 := Lib.hid (show D = ⟨[], 0, S, -1, u⟩ from by rw [HD.out, show max x (-1) = -1 from by omega]; rfl)
            have HRP := Lib.hid (H1.out.power (H1.out.p.set0 (-1)) (KB.of_set W1 qb 0 _) (show LeftOk (-1) from by have := HRX.out; unfold i64R at this; unfold LeftOk; omega) (Nat.le_succ_of_le H1.out.few.2))
            clear HD
            go_wp2_with fail
            go_ret2
            rw [HD2.out]
            exact ⟨rfl, RSN.ahead (w1 := W1) ⟨G, L, a0, c, HRP.out, (KB.of_set W1 qb 0 _).monoF (fun k e => (H1.out.foot k).2 (.inr (.inl e))), fun k hk => .inl hk⟩ HB1.out⟩
          · have HD2 := Lib.hid (show D = ⟨[], 0, S, x, u⟩ from by rw [HD.out, show max x (-1) = x from by omega]; rfl)
            have HRP := Lib.hid (H1.out.power (H1.out.p.set0 (x)) (KB.of_set W1 qb 0 _) (show LeftOk (x) from by have := HRX.out; unfold i64R at this; unfold LeftOk; omega) (Nat.le_succ_of_le H1.out.few.2))
            clear HD
            go_wp2_with fail
            go_ret2
            rw [HD2.out]
            exact ⟨rfl, RSN.ahead (w1 := W1) ⟨G, L, a0, c, HRP.out, (KB.of_set W1 qb 0 _).monoF (fun k e => (H1.out.foot k).2 (.inr (.inl e))), fun k hk => .inl hk⟩ HB1.out⟩
      as_aux_lemma =>
        rw [doS_9 _ kd (k : Int) x ka kn kc ks _ _ _ e0 e1 e2 e3 e4 e5 e6 e7 e8] at HD
        have z0 : (kd == 0) = false := by simpa using e0
        have z1 : (kd == 1) = false := by simpa using e1
        have z2 : (kd == 2) = false := by simpa using e2
        have z3 : (kd == 3) = false := by simpa using e3
        have z4 : (kd == 4) = false := by simpa using e4
        have z5 : (kd == 5) = false := by simpa using e5
        have z6 : (kd == 6) = false := by simpa using e6
        have z7 : (kd == 7) = false := by simpa using e7
        have z8 : (kd == 8) = false := by simpa using e8
        clear e0 e1 e2 e3 e4 e5 e6 e7 e8
        go_wp2_with fail
        go_ret2
        exact ⟨by rw [HD.out]; rfl, by rw [HD.out]; exact (H1.out.same [] 0).ahead HB1.out⟩
    · have HIN := Lib.hid (show ¬ inR S at_ from fun h => p2 (by rw [HN.out]; exact h.2))
      go_enter Try.func16, Try.ntmps16
      go_upto_region 1 with fail
      go_quiet (fail)
      obtain ⟨W1, hW1⟩ : ∃ W1, W1 = (w.alloc (.cells #[.int .i64 kd, .int .i64 at_, .int .i64 x, .slice ka kn kc] 31)).drewN nq := ⟨_, rfl⟩
      rw [← hW1]
      have HB1 := Lib.hid (show Below w.heap.size w W1 from by rw [hW1]; exact below_drewN HB0.out nq)
      have HX1 := Lib.hid (show W1.heap[w.heap.size]? = some (.cells #[.int .i64 kd, .int .i64 at_, .int .i64 x, .slice ka kn kc] 31 (0, 0)) from by rw [hW1]; exact HBX.out)
      have HS1 := Lib.hid (show W1.heap.size = w.heap.size + 1 from by rw [hW1]; exact HSZ.out)
      have H1 := Lib.hid (H.out.on HB1.out)
      have HK1 := Lib.hid (HKW.out.on HB1.out)
      clear hW1 hm0 HBX HSZ HB0
      have hx0 : W1.cell? ⟨w.heap.size, 0, none⟩ = some (.int .i64 kd) := by rw [cell_of_row _ _ _ _ _ _ HX1.out]; rfl
      have hx1 : W1.cell? ⟨w.heap.size, 1, none⟩ = some (.int .i64 at_) := by rw [cell_of_row _ _ _ _ _ _ HX1.out]; rfl
      have hx2 : W1.cell? ⟨w.heap.size, 2, none⟩ = some (.int .i64 x) := by rw [cell_of_row _ _ _ _ _ _ HX1.out]; rfl
      have hx3 : W1.cell? ⟨w.heap.size, 3, none⟩ = some (.slice ka kn kc) := by rw [cell_of_row _ _ _ _ _ _ HX1.out]; rfl
      have HXX := Lib.hid (And.intro hx1 hx2)
      clear HX1
      clear p1 p2
      by_cases e0 : kd = 0
      · as_aux_lemma =>
          subst e0
          rw [doS_0] at HD
          go_upto_region 4 with fail
          clear hx0 hx1 hx2 hx3
          have HS0 : W1.drew.cell? ⟨w.heap.size, 1, none⟩ = some (.int .i64 at_) ∧ W1.drew.cell? ⟨w.heap.size, 2, none⟩ = some (.int .i64 x) := HXX.out
          go_region_held (fun W => W.cell? ⟨w.heap.size, 1, none⟩ = some (.int .i64 at_) ∧ W.cell? ⟨w.heap.size, 2, none⟩ = some (.int .i64 x)) (first | assumption)
            (first
              | (go_at_call 26; refine (sector_ex x _ HRX.out).mono ?_; rintro e w1 ⟨g, rfl, hg1, hg2, ho, hb⟩; (have hb0 : Below (w.heap.size + 1) W1 w1 := ((Below.refl _ W1).drew).trans (hb.mono (by show w.heap.size + 1 ≤ W1.heap.size; have := HS1.out; omega))); (have hs1 : w1.cell? ⟨w.heap.size, 1, none⟩ = some (.int .i64 at_) ∧ w1.cell? ⟨w.heap.size, 2, none⟩ = some (.int .i64 x) := ⟨(hb0.cell (p := ⟨w.heap.size, 1, none⟩) (by show w.heap.size < _; omega)).trans HXX.out.1, (hb0.cell (p := ⟨w.heap.size, 2, none⟩) (by show w.heap.size < _; omega)).trans HXX.out.2⟩); have hcv := (own_any ho (secX_B x)).strU w1 (Below.refl _ _); (have HS2 : Hid (w.heap.size + 1 ≤ w1.heap.size) := Lib.hid (by have := hb0.size; have := HS1.out; omega)); (have HB2 := Lib.hid (show Below w.heap.size w w1 from HB1.out.trans (hb0.mono (by omega)))); clear hg1 hg2 ho hb hb0)
              | (go_at_call 37; refine (refWrite_any w1 mb G qb S L a0 c l u j at_ (secX x) (H.out.on HB2.out) HJ.out HRA.out (secX_B x) (by rw [secX_len]; unfold secN; split <;> omega)).mono ?_; rintro e w2 ⟨rfl, hr⟩; rw [← HD.out] at hr ⊢; (have hs2 : w2.cell? ⟨w.heap.size, 1, none⟩ = some (.int .i64 at_) ∧ w2.cell? ⟨w.heap.size, 2, none⟩ = some (.int .i64 x) := hr.held hs1 HS2.out (fun h => absurd (H.out.inside h) (Nat.lt_irrefl _))); have HR := Lib.hid hr; clear hr))
          go_wp2_with fail
          go_ret2
          refine ⟨by rw [show D.out = [] from by rw [HD.out]; exact opWrite_out _ _ _ _ _ _]; rfl, HR.out.ahead HB2.out⟩
      by_cases e1 : kd = 1
      · as_aux_lemma =>
          subst e1
          rw [doS_1] at HD
          go_wp2_with (go_at_call 38; go_loud (refine (refRead_any W1 mb G qb S L a0 c l u j at_ H1.out (by have := HJ.out; omega) HRA.out).mono ?_; rintro e w2 ⟨rfl, hb⟩; rw [← HD.out]; have HB2 := Lib.hid hb; clear hb))
          go_ret2
          refine ⟨rfl, ?_⟩
          have h2 := (H1.out.on HB2.out).same D.out D.err
          have h3 : D = ⟨D.out, D.err, S, l, u⟩ := by rw [HD.out, show opRead S at_ l u = ⟨(opRead S at_ l u).out, (opRead S at_ l u).err, (opRead S at_ l u).S, (opRead S at_ l u).l, (opRead S at_ l u).u⟩ from rfl, (opRead_same at_ l u).1, (opRead_same at_ l u).2.1, (opRead_same at_ l u).2.2]
          rw [h3]
          exact h2.ahead (HB1.out.trans (HB2.out.mono HB1.out.size))
      by_cases e2 : kd = 2
      · as_aux_lemma =>
          subst e2
          rw [doS_2] at HD
          go_wp2_with (go_at_call 39; go_loud (refine (refFlush_any W1 mb G qb S L a0 c l u j H1.out HJ.out).mono ?_; rintro e w2 ⟨rfl, hr⟩; rw [← HD.out] at hr ⊢; have HR := Lib.hid hr; clear hr))
          go_ret2
          exact ⟨by rw [show D.out = [] from by rw [HD.out]; exact opFlush_out _ _ _ _]; rfl, HR.out.ahead HB1.out⟩
      by_cases e3 : kd = 3
      · as_aux_lemma =>
          subst e3
          rw [doS_3] at HD
          go_wp2_with (go_at_call 40; go_loud (refine (refCrash_any W1 mb G qb S L a0 c l u j ka kn kc ks false H1.out.more HJ.out HK1.out).mono ?_; rintro e w2 ⟨rfl, hr⟩; have HR := Lib.hid hr; clear hr))
          go_ret2
          exact ⟨by rw [HD.out]; rfl, by rw [HD.out]; exact HR.out.ahead HB1.out⟩
      by_cases e4 : kd = 4
      · as_aux_lemma =>
          subst e4
          rw [doS_4] at HD
          have hc2 := H1.out.m.c2
          have hf2 := H1.out.m.free 2
          have HRD := Lib.hid (H1.out.setDown true)
          go_wp2_with (go_at_call 40; go_loud (refine (refCrash_any _ mb G qb ⟨S.size, S.med, S.cache, true⟩ L a0 c l u j none 0 0 [] false HRD.out.1.more HJ.out (ArgB.nil _)).mono ?_; rintro e w2 ⟨rfl, hr⟩; have HR := Lib.hid hr; clear hr))
          go_ret2
          have hr : RSN _ mb G qb ⟨[], 0, MS.crash ⟨S.size, S.med, S.cache, true⟩ [], l, u⟩ j w2 := HR.out
          rw [crash_off] at hr
          exact ⟨by rw [HD.out]; rfl, by rw [HD.out]; exact (hr.behind HRD.out.2).ahead HB1.out⟩
      by_cases e5 : kd = 5
      · as_aux_lemma =>
          subst e5
          rw [doS_5] at HD
          have hc2 := H1.out.m.c2
          have hf2 := H1.out.m.free 2
          have HRD := Lib.hid (H1.out.setDown false)
          go_wp2_with fail
          go_ret2
          exact ⟨by rw [HD.out]; rfl, by rw [HD.out]; exact ((HRD.out.1.same [] 0).behind HRD.out.2).ahead HB1.out⟩
      by_cases e6 : kd = 6
      · as_aux_lemma =>
          subst e6
          rw [doS_6] at HD
          unfold opLose at HD
          rw [if_pos HIN.out] at HD
          go_wp2_with fail
          go_ret2
          exact ⟨by rw [HD.out]; rfl, by rw [HD.out]; exact (H1.out.same [] 2).ahead HB1.out⟩
      by_cases e7 : kd = 7
      · as_aux_lemma =>
          subst e7
          rw [doS_7] at HD
          unfold opSpoil at HD
          rw [if_pos HIN.out] at HD
          go_wp2_with fail
          go_ret2
          exact ⟨by rw [HD.out]; rfl, by rw [HD.out]; exact (H1.out.same [] 2).ahead HB1.out⟩
      by_cases e8 : kd = 8
      · as_aux_lemma =>
          subst e8
          rw [doS_8] at HD
          have hp0 := H1.out.p.c0
          have hpf := H1.out.p.free 0
          by_cases hx : x < -1
          · have HD2 := Lib.hid (show D = ⟨[], 0, S, -1, u⟩ from by rw [HD.out, show max x (-1) = -1 from by omega]; rfl)
            have HRP := Lib.hid (H1.out.power (H1.out.p.set0 (-1)) (KB.of_set W1 qb 0 _) (show LeftOk (-1) from by have := HRX.out; unfold i64R at this; unfold LeftOk; omega) (Nat.le_succ_of_le H1.out.few.2))
            clear HD
            go_wp2_with fail
            go_ret2
            rw [HD2.out]
            exact ⟨rfl, RSN.ahead (w1 := W1) ⟨G, L, a0, c, HRP.out, (KB.of_set W1 qb 0 _).monoF (fun k e => (H1.out.foot k).2 (.inr (.inl e))), fun k hk => .inl hk⟩ HB1.out⟩
          · have HD2 := Lib.hid (show D = ⟨[], 0, S, x, u⟩ from by rw [HD.out, show max x (-1) = x from by omega]; rfl)
            have HRP := Lib.hid (H1.out.power (H1.out.p.set0 (x)) (KB.of_set W1 qb 0 _) (show LeftOk (x) from by have := HRX.out; unfold i64R at this; unfold LeftOk; omega) (Nat.le_succ_of_le H1.out.few.2))
            clear HD
            go_wp2_with fail
            go_ret2
            rw [HD2.out]
            exact ⟨rfl, RSN.ahead (w1 := W1) ⟨G, L, a0, c, HRP.out, (KB.of_set W1 qb 0 _).monoF (fun k e => (H1.out.foot k).2 (.inr (.inl e))), fun k hk => .inl hk⟩ HB1.out⟩
      as_aux_lemma =>
        rw [doS_9 _ kd at_ x ka kn kc ks _ _ _ e0 e1 e2 e3 e4 e5 e6 e7 e8] at HD
        have z0 : (kd == 0) = false := by simpa using e0
        have z1 : (kd == 1) = false := by simpa using e1
        have z2 : (kd == 2) = false := by simpa using e2
        have z3 : (kd == 3) = false := by simpa using e3
        have z4 : (kd == 4) = false := by simpa using e4
        have z5 : (kd == 5) = false := by simpa using e5
        have z6 : (kd == 6) = false := by simpa using e6
        have z7 : (kd == 7) = false := by simpa using e7
        have z8 : (kd == 8) = false := by simpa using e8
        clear e0 e1 e2 e3 e4 e5 e6 e7 e8
        go_wp2_with fail
        go_ret2
        exact ⟨by rw [HD.out]; rfl, by rw [HD.out]; exact (H1.out.same [] 0).ahead HB1.out⟩
  · have HIN := Lib.hid (show ¬ inR S at_ from fun h => p1 h.1)
    go_enter Try.func16, Try.ntmps16
    go_upto_region 1 with fail
    go_quiet (fail)
    obtain ⟨W1, hW1⟩ : ∃ W1, W1 = (w.alloc (.cells #[.int .i64 kd, .int .i64 at_, .int .i64 x, .slice ka kn kc] 31)).drewN nq := ⟨_, rfl⟩
    rw [← hW1]
    have HB1 := Lib.hid (show Below w.heap.size w W1 from by rw [hW1]; exact below_drewN HB0.out nq)
    have HX1 := Lib.hid (show W1.heap[w.heap.size]? = some (.cells #[.int .i64 kd, .int .i64 at_, .int .i64 x, .slice ka kn kc] 31 (0, 0)) from by rw [hW1]; exact HBX.out)
    have HS1 := Lib.hid (show W1.heap.size = w.heap.size + 1 from by rw [hW1]; exact HSZ.out)
    have H1 := Lib.hid (H.out.on HB1.out)
    have HK1 := Lib.hid (HKW.out.on HB1.out)
    clear hW1 hm0 HBX HSZ HB0
    have hx0 : W1.cell? ⟨w.heap.size, 0, none⟩ = some (.int .i64 kd) := by rw [cell_of_row _ _ _ _ _ _ HX1.out]; rfl
    have hx1 : W1.cell? ⟨w.heap.size, 1, none⟩ = some (.int .i64 at_) := by rw [cell_of_row _ _ _ _ _ _ HX1.out]; rfl
    have hx2 : W1.cell? ⟨w.heap.size, 2, none⟩ = some (.int .i64 x) := by rw [cell_of_row _ _ _ _ _ _ HX1.out]; rfl
    have hx3 : W1.cell? ⟨w.heap.size, 3, none⟩ = some (.slice ka kn kc) := by rw [cell_of_row _ _ _ _ _ _ HX1.out]; rfl
    have HXX := Lib.hid (And.intro hx1 hx2)
    clear HX1
    clear p1
    by_cases e0 : kd = 0
    · as_aux_lemma =>
        subst e0
        rw [doS_0] at HD
        go_upto_region 4 with fail
        clear hx0 hx1 hx2 hx3
        have HS0 : W1.drew.cell? ⟨w.heap.size, 1, none⟩ = some (.int .i64 at_) ∧ W1.drew.cell? ⟨w.heap.size, 2, none⟩ = some (.int .i64 x) := HXX.out
        go_region_held (fun W => W.cell? ⟨w.heap.size, 1, none⟩ = some (.int .i64 at_) ∧ W.cell? ⟨w.heap.size, 2, none⟩ = some (.int .i64 x)) (first | assumption)
          (first
            | (go_at_call 26; refine (sector_ex x _ HRX.out).mono ?_; rintro e w1 ⟨g, rfl, hg1, hg2, ho, hb⟩; (have hb0 : Below (w.heap.size + 1) W1 w1 := ((Below.refl _ W1).drew).trans (hb.mono (by show w.heap.size + 1 ≤ W1.heap.size; have := HS1.out; omega))); (have hs1 : w1.cell? ⟨w.heap.size, 1, none⟩ = some (.int .i64 at_) ∧ w1.cell? ⟨w.heap.size, 2, none⟩ = some (.int .i64 x) := ⟨(hb0.cell (p := ⟨w.heap.size, 1, none⟩) (by show w.heap.size < _; omega)).trans HXX.out.1, (hb0.cell (p := ⟨w.heap.size, 2, none⟩) (by show w.heap.size < _; omega)).trans HXX.out.2⟩); have hcv := (own_any ho (secX_B x)).strU w1 (Below.refl _ _); (have HS2 : Hid (w.heap.size + 1 ≤ w1.heap.size) := Lib.hid (by have := hb0.size; have := HS1.out; omega)); (have HB2 := Lib.hid (show Below w.heap.size w w1 from HB1.out.trans (hb0.mono (by omega)))); clear hg1 hg2 ho hb hb0)
            | (go_at_call 37; refine (refWrite_any w1 mb G qb S L a0 c l u j at_ (secX x) (H.out.on HB2.out) HJ.out HRA.out (secX_B x) (by rw [secX_len]; unfold secN; split <;> omega)).mono ?_; rintro e w2 ⟨rfl, hr⟩; rw [← HD.out] at hr ⊢; (have hs2 : w2.cell? ⟨w.heap.size, 1, none⟩ = some (.int .i64 at_) ∧ w2.cell? ⟨w.heap.size, 2, none⟩ = some (.int .i64 x) := hr.held hs1 HS2.out (fun h => absurd (H.out.inside h) (Nat.lt_irrefl _))); have HR := Lib.hid hr; clear hr))
        go_wp2_with fail
        go_ret2
        refine ⟨by rw [show D.out = [] from by rw [HD.out]; exact opWrite_out _ _ _ _ _ _]; rfl, HR.out.ahead HB2.out⟩
    by_cases e1 : kd = 1
    · as_aux_lemma =>
        subst e1
        rw [doS_1] at HD
        go_wp2_with (go_at_call 38; go_loud (refine (refRead_any W1 mb G qb S L a0 c l u j at_ H1.out (by have := HJ.out; omega) HRA.out).mono ?_; rintro e w2 ⟨rfl, hb⟩; rw [← HD.out]; have HB2 := Lib.hid hb; clear hb))
        go_ret2
        refine ⟨rfl, ?_⟩
        have h2 := (H1.out.on HB2.out).same D.out D.err
        have h3 : D = ⟨D.out, D.err, S, l, u⟩ := by rw [HD.out, show opRead S at_ l u = ⟨(opRead S at_ l u).out, (opRead S at_ l u).err, (opRead S at_ l u).S, (opRead S at_ l u).l, (opRead S at_ l u).u⟩ from rfl, (opRead_same at_ l u).1, (opRead_same at_ l u).2.1, (opRead_same at_ l u).2.2]
        rw [h3]
        exact h2.ahead (HB1.out.trans (HB2.out.mono HB1.out.size))
    by_cases e2 : kd = 2
    · as_aux_lemma =>
        subst e2
        rw [doS_2] at HD
        go_wp2_with (go_at_call 39; go_loud (refine (refFlush_any W1 mb G qb S L a0 c l u j H1.out HJ.out).mono ?_; rintro e w2 ⟨rfl, hr⟩; rw [← HD.out] at hr ⊢; have HR := Lib.hid hr; clear hr))
        go_ret2
        exact ⟨by rw [show D.out = [] from by rw [HD.out]; exact opFlush_out _ _ _ _]; rfl, HR.out.ahead HB1.out⟩
    by_cases e3 : kd = 3
    · as_aux_lemma =>
        subst e3
        rw [doS_3] at HD
        go_wp2_with (go_at_call 40; go_loud (refine (refCrash_any W1 mb G qb S L a0 c l u j ka kn kc ks false H1.out.more HJ.out HK1.out).mono ?_; rintro e w2 ⟨rfl, hr⟩; have HR := Lib.hid hr; clear hr))
        go_ret2
        exact ⟨by rw [HD.out]; rfl, by rw [HD.out]; exact HR.out.ahead HB1.out⟩
    by_cases e4 : kd = 4
    · as_aux_lemma =>
        subst e4
        rw [doS_4] at HD
        have hc2 := H1.out.m.c2
        have hf2 := H1.out.m.free 2
        have HRD := Lib.hid (H1.out.setDown true)
        go_wp2_with (go_at_call 40; go_loud (refine (refCrash_any _ mb G qb ⟨S.size, S.med, S.cache, true⟩ L a0 c l u j none 0 0 [] false HRD.out.1.more HJ.out (ArgB.nil _)).mono ?_; rintro e w2 ⟨rfl, hr⟩; have HR := Lib.hid hr; clear hr))
        go_ret2
        have hr : RSN _ mb G qb ⟨[], 0, MS.crash ⟨S.size, S.med, S.cache, true⟩ [], l, u⟩ j w2 := HR.out
        rw [crash_off] at hr
        exact ⟨by rw [HD.out]; rfl, by rw [HD.out]; exact (hr.behind HRD.out.2).ahead HB1.out⟩
    by_cases e5 : kd = 5
    · as_aux_lemma =>
        subst e5
        rw [doS_5] at HD
        have hc2 := H1.out.m.c2
        have hf2 := H1.out.m.free 2
        have HRD := Lib.hid (H1.out.setDown false)
        go_wp2_with fail
        go_ret2
        exact ⟨by rw [HD.out]; rfl, by rw [HD.out]; exact ((HRD.out.1.same [] 0).behind HRD.out.2).ahead HB1.out⟩
    by_cases e6 : kd = 6
    · as_aux_lemma =>
        subst e6
        rw [doS_6] at HD
        unfold opLose at HD
        rw [if_pos HIN.out] at HD
        go_wp2_with fail
        go_ret2
        exact ⟨by rw [HD.out]; rfl, by rw [HD.out]; exact (H1.out.same [] 2).ahead HB1.out⟩
    by_cases e7 : kd = 7
    · as_aux_lemma =>
        subst e7
        rw [doS_7] at HD
        unfold opSpoil at HD
        rw [if_pos HIN.out] at HD
        go_wp2_with fail
        go_ret2
        exact ⟨by rw [HD.out]; rfl, by rw [HD.out]; exact (H1.out.same [] 2).ahead HB1.out⟩
    by_cases e8 : kd = 8
    · as_aux_lemma =>
        subst e8
        rw [doS_8] at HD
        have hp0 := H1.out.p.c0
        have hpf := H1.out.p.free 0
        by_cases hx : x < -1
        · have HD2 := Lib.hid (show D = ⟨[], 0, S, -1, u⟩ from by rw [HD.out, show max x (-1) = -1 from by omega]; rfl)
          have HRP := Lib.hid (H1.out.power (H1.out.p.set0 (-1)) (KB.of_set W1 qb 0 _) (show LeftOk (-1) from by have := HRX.out; unfold i64R at this; unfold LeftOk; omega) (Nat.le_succ_of_le H1.out.few.2))
          clear HD
          go_wp2_with fail
          go_ret2
          rw [HD2.out]
          exact ⟨rfl, RSN.ahead (w1 := W1) ⟨G, L, a0, c, HRP.out, (KB.of_set W1 qb 0 _).monoF (fun k e => (H1.out.foot k).2 (.inr (.inl e))), fun k hk => .inl hk⟩ HB1.out⟩
        · have HD2 := Lib.hid (show D = ⟨[], 0, S, x, u⟩ from by rw [HD.out, show max x (-1) = x from by omega]; rfl)
          have HRP := Lib.hid (H1.out.power (H1.out.p.set0 (x)) (KB.of_set W1 qb 0 _) (show LeftOk (x) from by have := HRX.out; unfold i64R at this; unfold LeftOk; omega) (Nat.le_succ_of_le H1.out.few.2))
          clear HD
          go_wp2_with fail
          go_ret2
          rw [HD2.out]
          exact ⟨rfl, RSN.ahead (w1 := W1) ⟨G, L, a0, c, HRP.out, (KB.of_set W1 qb 0 _).monoF (fun k e => (H1.out.foot k).2 (.inr (.inl e))), fun k hk => .inl hk⟩ HB1.out⟩
    as_aux_lemma =>
      rw [doS_9 _ kd at_ x ka kn kc ks _ _ _ e0 e1 e2 e3 e4 e5 e6 e7 e8] at HD
      have z0 : (kd == 0) = false := by simpa using e0
      have z1 : (kd == 1) = false := by simpa using e1
      have z2 : (kd == 2) = false := by simpa using e2
      have z3 : (kd == 3) = false := by simpa using e3
      have z4 : (kd == 4) = false := by simpa using e4
      have z5 : (kd == 5) = false := by simpa using e5
      have z6 : (kd == 6) = false := by simpa using e6
      have z7 : (kd == 7) = false := by simpa using e7
      have z8 : (kd == 8) = false := by simpa using e8
      clear e0 e1 e2 e3 e4 e5 e6 e7 e8
      go_wp2_with fail
      go_ret2
      exact ⟨by rw [HD.out]; rfl, by rw [HD.out]; exact (H1.out.same [] 0).ahead HB1.out⟩
end Go.Proofs.Ytoonaendakjecaa
