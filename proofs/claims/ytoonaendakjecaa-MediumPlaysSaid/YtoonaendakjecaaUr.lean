/- The document's medium: spend, check, Read, Cache, Write. -/
import Derived.Test.YtoonaendakjecaaUq
namespace Go.Proofs.Ytoonaendakjecaa
open Go.ChangeShapes Go.WideShapes Go.ChangeAt Go.RowKit Go.Shelf
set_option linter.unusedVariables false
set_option linter.unusedSimpArgs false
set_option maxRecDepth 100000

abbrev pV (b : Nat) : Value := .pointer (some ⟨b, 0, none⟩)
set_option maxHeartbeats 2000000 in
theorem refSpend_any (w : World) (qb : Nat) (l : Int) (u : Nat) (hp : RPc w qb l u) (hl : LeftOk l) (hu : u ≤ 1000) :
    Calls Try.prog 49 #[pV qb] w fun e w' => e = .returned (.bool (l != 0)) ∧ RPc w' qb (if l = 0 then l else spendL l) (if l = 0 then u else u + 1) ∧ KB (fun k => k = qb) w w' := by
  have HP := Lib.hid hp
  have hc0 := hp.c0
  have hc1 := hp.c1
  have hf0 := hp.free 0
  have hf1 := hp.free 1
  obtain ⟨hl1, hl2⟩ := hl
  clear hp
  by_cases h0 : l = 0
  · subst h0
    go_enter Try.func49, Try.ntmps49
    go_wp2
    go_ret
    exact ⟨rfl, HP.out, KB.refl _ _⟩
  · have z0 : (l == 0) = false := by rw [beq_eq_false_iff_ne]; exact h0
    have z1 : (l != 0) = true := by rw [bne, z0]; rfl
    by_cases hpos : 0 < l
    · have z2 : ¬ l - 1 < 0 := by omega
      have HE := Lib.hid (show spendL l = l - 1 from if_pos hpos)
      have H0 := Lib.hid h0
      clear h0
      go_enter Try.func49, Try.ntmps49
      go_wp2
      go_ret
      have hg := (HP.out.set0 (l - 1)).set1 (u + 1)
      refine ⟨rfl, ?_, (KB.of_set _ _ _ _).trans (KB.of_set _ _ _ _)⟩
      rw [HE.out]
      first
        | exact hg
        | (rw [if_neg H0.out, if_neg H0.out]; exact hg)
    · have e1 : l = -1 := by omega
      subst e1
      go_enter Try.func49, Try.ntmps49
      go_wp2
      go_ret
      refine ⟨rfl, ?_, ((KB.of_set _ _ _ _).trans (KB.of_set _ _ _ _)).trans (KB.of_set _ _ _ _)⟩
      exact ((HP.out.set0 (-1 - 1)).set0 (-1)).set1 (u + 1)
theorem size_str (b : List Int) : (strOfNums b).size = b.length := by simp [strOfNums, ByteArray.size]
set_option maxHeartbeats 2000000 in
theorem refCheck_any (w : World) (mb n : Nat) (v : Value) (dn : Bool) (i : Int) (b : List Int) (hm : RMc w mb n v dn) (hn : n ≤ 2048) (hi : i64R i) (hb : b.length ≤ 1000) :
    Calls Try.prog 48 #[pV mb, .int .i64 i, .string (strOfNums b)] w fun e w' => e = .returned (.int .i64 (if ¬ (0 ≤ i ∧ i < (n : Int)) then 2 else if b.length ≠ 512 then 3 else 0)) ∧ w' = w := by
  have hc0 := hm.c0
  obtain ⟨XS, hXS⟩ : ∃ XS, XS = strOfNums b := ⟨_, rfl⟩
  have hsz : XS.size = b.length := by rw [hXS]; exact size_str b
  rw [← hXS]
  obtain ⟨N, hN⟩ : ∃ N, N = b.length := ⟨_, rfl⟩
  rw [← hN] at hsz hb ⊢
  clear hXS hN hm
  by_cases h1 : i < 0
  · rw [if_pos (by omega)]
    go_enter Try.func48, Try.ntmps48
    go_wp2
    go_ret
    exact ⟨rfl, rfl⟩
  · by_cases h2 : (n : Int) ≤ i
    · rw [if_pos (by omega)]
      go_enter Try.func48, Try.ntmps48
      go_wp2
      go_ret
      exact ⟨rfl, rfl⟩
    · rw [if_neg (by omega)]
      by_cases h3 : N = 512
      · rw [if_neg (by omega)]
        have z3 : ((N : Int) != 512) = false := by rw [h3]; rfl
        have H3 := Lib.hid h3
        clear h3
        go_enter Try.func48, Try.ntmps48
        go_wp2
        go_ret
        exact ⟨rfl, rfl⟩
      · rw [if_pos h3]
        have z3 : ((N : Int) != 512) = true := by rw [bne_iff_ne]; omega
        have H3 := Lib.hid h3
        clear h3
        go_enter Try.func48, Try.ntmps48
        go_wp2
        go_ret
        exact ⟨rfl, rfl⟩
set_option maxHeartbeats 4000000 in
theorem refRead_any (w : World) (mb : Nat) (G : Nat → Prop) (qb : Nat) (S : MS) (L : List EV) (a : Option Addr) (c : Nat) (l : Int) (u j : Nat) (i : Int) (h : RS w mb G qb S L a c l u j) (hj : j ≤ 1000) (hi : i64R i) :
    Calls Try.prog 38 #[pV mb, pV qb, .int .i64 i] w fun e w' => e = .returned (.tuple #[.string (strOfNums (opRead S i l u).out), .int .i64 (opRead S i l u).err]) ∧ Below w.heap.size w w' := by
  have H := Lib.hid h
  have hc0 := h.m.c0
  have hc2 := h.m.c2
  have hp0 := h.p.c0
  have hn2 : S.size ≤ 2048 := h.ok.size2
  obtain ⟨n, hn⟩ : ∃ n, n = S.size := ⟨_, rfl⟩
  have HN := Lib.hid hn
  rw [← hn] at hc0 hn2
  clear h hn
  unfold opRead inR
  by_cases hd : S.down = true
  · rw [if_pos (.inl hd)]
    rw [hd] at hc2
    clear hd
    go_enter Try.func38, Try.ntmps38
    go_wp2
    go_ret2
    exact ⟨rfl, Below.refl _ _⟩
  · have hd' : S.down = false := by simpa using hd
    rw [hd'] at hc2
    by_cases h0 : l = 0
    · rw [if_pos (.inr h0)]
      subst h0
      clear hd hd'
      go_enter Try.func38, Try.ntmps38
      go_wp2
      go_ret2
      exact ⟨rfl, Below.refl _ _⟩
    · rw [if_neg (fun h => h.elim hd h0)]
      have z0 : (l == 0) = false := by rw [beq_eq_false_iff_ne]; exact h0
      clear h0 hd hd'
      by_cases h1 : i < 0
      · rw [if_pos (by omega)]
        go_enter Try.func38, Try.ntmps38
        go_wp2
        go_ret2
        exact ⟨rfl, Below.refl _ _⟩
      · by_cases h2 : (n : Int) ≤ i
        · rw [if_pos (by have := HN.out; omega)]
          go_enter Try.func38, Try.ntmps38
          go_wp2
          go_ret2
          exact ⟨rfl, Below.refl _ _⟩
        · rw [if_neg (by have := HN.out; omega)]
          obtain ⟨k, rfl⟩ : ∃ k : Nat, i = (k : Int) := ⟨i.toNat, by omega⟩
          rw [Int.toNat_natCast]
          have HLA := Lib.hid (refLast_any w mb S.size S.down L a c k false H.out.m H.out.row (by have := H.out.few.1; omega))
          have q2 : ¬ (n : Int) ≤ (k : Int) := h2
          rcases H.out.sim.last k with ⟨he, hs⟩ | ⟨he, hs⟩
          · rw [hs]
            rw [he] at HLA
            obtain ⟨ES, hES⟩ : ∃ ES, ES = strOfNums [] := ⟨_, rfl⟩
            have hem : ES.toList.isEmpty = true := by rw [hES, Lib.strOfNums_toList]; rfl
            rw [← hES] at HLA
            have HES := Lib.hid hES
            clear he hs hES
            go_enter Try.func38, Try.ntmps38
            go_wp2_with (go_at_call 43; go_loud (refine HLA.out.mono ?_; rintro e w1 ⟨b, rfl, hb⟩; have HB1 := Lib.hid hb; clear hb))
            go_ret2
            exact ⟨rfl, HB1.out.alloc HB1.out.size _⟩
          · rw [hs]
            obtain ⟨DS, hDS⟩ : ∃ DS, DS = strOfNums (lastE L k false) := ⟨_, rfl⟩
            have HDS := Lib.hid hDS
            rw [← hDS] at HLA ⊢
            have hne : (DS.toList == []) = false := by
              rw [beq_eq_false_iff_ne]
              intro h
              rw [hDS] at h
              exact he (strOf_nil h)
            clear hDS he hs
            go_enter Try.func38, Try.ntmps38
            go_wp2_with (go_at_call 43; go_loud (refine HLA.out.mono ?_; rintro e w1 ⟨b, rfl, hb⟩; have HB1 := Lib.hid hb; clear hb))
            go_ret2
            exact ⟨rfl, HB1.out.alloc HB1.out.size _⟩
/-- Behind an act of the document's medium. -/
def RSN (w : World) (mb : Nat) (G : Nat → Prop) (qb : Nat) (D : DS) (j : Nat) (w' : World) : Prop :=
  ∃ (G' : Nat → Prop) (L' : List EV) (a' : Option Addr) (c' : Nat), RS w' mb G' qb D.S L' a' c' D.l D.u (j + 1) ∧ KB G w w' ∧ ∀ k, G' k → G k ∨ w.heap.size ≤ k
theorem RS.power {w w' : World} {mb : Nat} {G : Nat → Prop} {qb : Nat} {S : MS} {L : List EV} {a : Option Addr} {c : Nat} {l l' : Int} {u u' j : Nat} (h : RS w mb G qb S L a c l u j) (hp : RPc w' qb l' u') (hk : KB (fun k => k = qb) w w') (hl : LeftOk l') (hu : u' ≤ j + 1) : RS w' mb G qb S L a c l' u' (j + 1) :=
  ⟨(hk.2 mb (heap_lt h.m) (fun e => h.nq.1 e.symm)).trans h.m, own_blockT h.row (fun g e => hk.2 g (own_lt h.row e).2 (fun e2 => h.nq.2 (by rw [e, e2]))), h.ne, hp, h.nq, h.foot, h.sim, h.ok, hl, ⟨Nat.le_succ_of_le h.few.1, hu⟩⟩
theorem RS.more {w : World} {mb : Nat} {G : Nat → Prop} {qb : Nat} {S : MS} {L : List EV} {a : Option Addr} {c : Nat} {l : Int} {u j : Nat} (h : RS w mb G qb S L a c l u j) : RS w mb G qb S L a c l u (j + 1) :=
  ⟨h.m, h.row, h.ne, h.p, h.nq, h.foot, h.sim, h.ok, h.left, ⟨Nat.le_succ_of_le h.few.1, Nat.le_succ_of_le h.few.2⟩⟩
/-- A new row of events is put in. -/
theorem RS.newRow {w w3 : World} {mb : Nat} {G : Nat → Prop} {qb : Nat} {S S' : MS} {L L' : List EV} {a a' : Option Addr} {c c' : Nat} {l l' : Int} {u u' j j0 : Nat} {v : Value} {e : Int} {o : List Int} (h : RS w mb G qb S L a c l u j0)
    (hm : RMc w3 mb S.size v S.down) (hp : RPc w3 qb l' u') (row : w3.ownsRow 0 61 3 (.slice a' L'.length c') L'.length (evC L')) (hk : KB G w w3)
    (hg : ∀ g, (Value.slice a' L'.length c').ownBlock = some g → g ≠ mb ∧ g ≠ qb ∧ (G g ∨ w.heap.size ≤ g)) (hs : S'.size = S.size) (hd : S'.down = S.down) (sim : Sim S' L') (ok : S'.Ok) (hl : LeftOk l') (hL : L'.length ≤ j + 1) (hu : u' ≤ j + 1) :
    RSN w mb G qb ⟨o, e, S', l', u'⟩ j (w3.setCell ⟨mb, 1, none⟩ (.slice a' L'.length c')) := by
  have hkb := KB.of_set w3 mb 1 (.slice a' L'.length c')
  have hGm : G mb := (h.foot mb).2 (.inl rfl)
  have hGq : G qb := (h.foot qb).2 (.inr (.inl rfl))
  refine ⟨fun k => k = mb ∨ k = qb ∨ (Value.slice a' L'.length c').ownBlock = some k, L', a', c', ⟨?_, own_blockT row (fun g e => hkb.2 g (own_lt row e).2 (hg g e).1), fun e => (hg mb e).1 rfl, (hkb.2 qb (heap_lt hp) h.nq.1).trans hp, ⟨h.nq.1, fun e => (hg qb e).2.1 rfl⟩, fun k => Iff.rfl, sim, ok, hl, ⟨hL, hu⟩⟩, hk.trans (hkb.monoF (fun k e => by rw [e]; exact hGm)), ?_⟩
  · rw [hs, hd]; exact hm.set1 _
  · rintro k (rfl | rfl | e)
    · exact .inl hGm
    · exact .inl hGq
    · exact (hg k e).2.2
set_option maxHeartbeats 8000000 in
theorem refWrite_any (w : World) (mb : Nat) (G : Nat → Prop) (qb : Nat) (S : MS) (L : List EV) (a : Option Addr) (c : Nat) (l : Int) (u j : Nat) (i : Int) (b : List Int) (h : RS w mb G qb S L a c l u j) (hj : j ≤ 900) (hi : i64R i) (hb : AllB b) (hbl : b.length ≤ 1000) :
    Calls Try.prog 37 #[pV mb, pV qb, .int .i64 i, .string (strOfNums b)] w fun e w' => e = .returned (.int .i64 (opWrite true S i b l u).err) ∧ RSN w mb G qb (opWrite true S i b l u) j w' := by
  have H := Lib.hid h
  have HCK := Lib.hid (refCheck_any w mb S.size _ S.down i b h.m h.ok.size2 hi hbl)
  have HSP := Lib.hid (refSpend_any w qb l u h.p h.left (by have := h.few.2; omega))
  have hc2 := h.m.c2
  have hn2 : S.size ≤ 2048 := h.ok.size2
  have hLj : L.length ≤ 900 := by have := h.few.1; omega
  have HGM := Lib.hid (show G mb ∧ G qb from ⟨(h.foot mb).2 (.inl rfl), (h.foot qb).2 (.inr (.inl rfl))⟩)
  have HST := Lib.hid (show ∀ e, RSN w mb G qb ⟨[], e, S, l, u⟩ j w from fun e => ⟨G, L, a, c, ⟨h.m, h.row, h.ne, h.p, h.nq, h.foot, h.sim, h.ok, h.left, ⟨Nat.le_succ_of_le h.few.1, Nat.le_succ_of_le h.few.2⟩⟩, KB.refl _ _, fun k hk => .inl hk⟩)
  obtain ⟨XS, hXS⟩ : ∃ XS, XS = strOfNums b := ⟨_, rfl⟩
  have HXS := Lib.hid hXS
  rw [← hXS] at HCK ⊢
  clear h hXS
  unfold opWrite inR
  by_cases hd : S.down = true
  · rw [if_pos hd]
    rw [hd] at hc2
    clear hd
    go_enter Try.func37, Try.ntmps37
    go_wp2
    go_ret
    exact ⟨rfl, HST.out _⟩
  · rw [if_neg hd]
    have hd' : S.down = false := by simpa using hd
    rw [hd'] at hc2
    clear hd hd'
    by_cases hr : 0 ≤ i ∧ i < (S.size : Int)
    · rw [if_neg (fun h => h hr)]
      rw [if_neg (fun h => h hr)] at HCK
      by_cases hl : b.length ≠ 512
      · rw [if_pos hl]
        rw [if_pos hl] at HCK
        clear hl hr
        go_enter Try.func37, Try.ntmps37
        go_wp2_with (go_at_call 48; go_loud (refine HCK.out.mono ?_; rintro e w1 ⟨rfl, rfl⟩))
        go_ret
        exact ⟨rfl, HST.out _⟩
      · rw [if_neg hl]
        rw [if_neg hl] at HCK
        have HBL := Lib.hid (Classical.not_not.1 hl)
        obtain ⟨k, rfl⟩ : ∃ k : Nat, i = (k : Int) := ⟨i.toNat, by omega⟩
        have HKL := Lib.hid (show k < S.size by omega)
        clear hl hr
        by_cases h0 : l = 0
        · rw [if_pos h0]
          subst h0
          go_enter Try.func37, Try.ntmps37
          go_wp2_with (first
            | (go_at_call 48; go_loud (refine HCK.out.mono ?_; rintro e w1 ⟨rfl, rfl⟩))
            | (go_at_call 49; go_loud (refine HSP.out.mono ?_; rintro e w2 ⟨rfl, hp, hk⟩; have HP2 := Lib.hid hp; have HK2 := Lib.hid hk; clear hp hk)))
          go_ret
          refine ⟨rfl, G, L, a, c, H.out.power HP2.out HK2.out H.out.left (Nat.le_succ_of_le H.out.few.2), HK2.out.monoF (fun k e => by rw [e]; exact HGM.out.2), fun k hk => .inl hk⟩
        · rw [if_neg h0]
          have z0 : (l != 0) = true := by rw [bne_iff_ne]; exact h0
          have H0 := Lib.hid h0
          rw [z0, if_neg h0, if_neg h0] at HSP
          clear h0 z0
          obtain ⟨N, hN⟩ : ∃ N, N = L.length := ⟨_, rfl⟩
          have HN := Lib.hid hN
          clear hN
          go_enter Try.func37, Try.ntmps37
          go_upto_region 8 with (first
            | (go_at_call 48; go_loud (refine HCK.out.mono ?_; rintro e w1 ⟨rfl, rfl⟩))
            | (go_at_call 49; go_loud (refine HSP.out.mono ?_; rintro e w2 ⟨rfl, hp, hk⟩; have HP2 := Lib.hid hp; have HK2 := Lib.hid hk; clear hp hk)))
          have HR2 := Lib.hid (H.out.power HP2.out HK2.out (spendL_ok H.out.left) (Nat.succ_le_succ H.out.few.2))
          have hm2 := HR2.out.m.c1
          rw [← HN.out] at hm2
          have hLj2 : N ≤ 900 := by rw [HN.out]; exact hLj
          obtain ⟨iT, hi1, hz0, hz1, hz2⟩ := info_parts infoEv
          have HI := Lib.hid (And.intro hi1 (And.intro hz0 (And.intro hz1 hz2)))
          have HO2 := Lib.hid (show w2.ownsRow 0 61 3 (.slice a N c) N (evC L) from by rw [HN.out]; exact HR2.out.row)
          clear hi1 hz0 hz1 hz2 hc2
          have HNE := Lib.hid (show (Value.slice a N c).ownBlock ≠ some mb ∧ (Value.slice a N c).ownBlock ≠ some qb from by rw [HN.out]; exact ⟨HR2.out.ne, HR2.out.nq.2⟩)
          obtain ⟨O, hO⟩ : ∃ O, O = Obj.cells #[.int .i64 (k : Nat), .string XS, .bool false] 61 := ⟨_, rfl⟩
          have HB2 := Lib.hid (show Below w2.heap.size w2 (w2.alloc O) from (Below.refl _ _).alloc (Nat.le_refl _) _)
          have HM3 := Lib.hid (show ∀ W3, (w2.alloc O).grownBy W3 (Value.slice a N c).ownBlock → RMc W3 mb S.size (.slice a L.length c) S.down ∧ RPc W3 qb (spendL l) (u + 1) from fun W3 hg => ⟨((hg.block mb (by have := heap_lt HR2.out.m; simp; omega) (Ne.symm HNE.out.1)).trans (HB2.out.block mb (heap_lt HR2.out.m))).trans HR2.out.m, ((hg.block qb (by have := heap_lt HR2.out.p; simp; omega) (Ne.symm HNE.out.2)).trans (HB2.out.block qb (heap_lt HR2.out.p))).trans HR2.out.p⟩)
          rw [hO] at HB2 HM3
          clear hO
          go_wp2_with ((with_reducible show wpList _ _ _ (⟨some 33, _, _, _, _, _⟩ :: _) _ _); go_loud (refine wpList_append_lies _ rfl (.tmp 28) (.tmp 32) 52 rfl 0 61 iT (.agg #[.int .i64 0, .string ByteArray.empty, .bool false]) 3 32 Try.underlying52 HI.out.1 HI.out.2.1 HI.out.2.2.1 HI.out.2.2.2 rfl (by decide) (.slice a N c) N (evC L) rfl (HO2.out.alloc _) ⟨w2.heap.size, 0, none⟩ 1 1 [.int .i64 (k : Nat), .string XS, .bool false] rfl rfl (World.news_of_block (heap_alloc_new w2 _)) (by simp [Value.oneCell']) (by omega) (by unfold maxLen; omega) (by omega) (Nat.zero_le _) (w2.heap.size + 1) (by simp) ?_; intro g cap w3 hown3 hgrow3 hat3 hlt3; have hm3 := (HM3.out w3 hgrow3).1; have hd1 := hm3.c1; have hf1 := hm3.free 1; have HM4 := Lib.hid (HM3.out w3 hgrow3); have HO3 := Lib.hid hown3; have HG3 := Lib.hid hgrow3; have HA3 := Lib.hid hat3; clear hm3 hown3 hgrow3 hat3 hlt3))
          go_ret
          have HLL := Lib.hid (show (L ++ [(k, b, false)]).length = N + 1 from by rw [List.length_append, HN.out]; rfl)
          refine ⟨rfl, ?_⟩
          have hq := H.out.newRow (w3 := w3) (S' := S.write k b) (L' := L ++ [(k, b, false)]) (a' := some ⟨g, 0, none⟩) (c' := cap) (l' := spendL l) (u' := u + 1) (e := 0) (o := []) HM4.out.1 HM4.out.2 (by rw [HLL.out, evC_append, evC_one]; unfold evV; rw [← HXS.out]; exact HO3.out) ?_ ?_ rfl rfl (H.out.sim.write k ⟨HBL.out, hb⟩) (H.out.ok.write HKL.out ⟨HBL.out, hb⟩) (spendL_ok H.out.left) (by rw [HLL.out, HN.out]; exact Nat.succ_le_succ H.out.few.1) (Nat.succ_le_succ H.out.few.2)
          · rw [HLL.out] at hq
            exact hq
          · refine ((HK2.out.monoF (fun j e => by rw [e]; exact HGM.out.2)).trans (KB.of_below HB2.out)).trans ((KB.of_grown HG3.out).monoF (fun j e => (H.out.foot j).2 (.inr (.inr (by rw [← HN.out]; exact e)))))
          · intro g' e
            have eg : g' = g := by cases e; rfl
            subst eg
            rcases HA3.out with h1 | h1
            · refine ⟨fun e => HNE.out.1 (by rw [← e]; exact h1), fun e => HNE.out.2 (by rw [← e]; exact h1), .inl ((H.out.foot _).2 (.inr (.inr (by rw [← HN.out]; exact h1))))⟩
            · have h2 := heap_lt HR2.out.m
              have h3 := heap_lt HR2.out.p
              have h4 := HK2.out.1.size
              exact ⟨by omega, by omega, .inr (by omega)⟩
    · rw [if_pos hr]
      rw [if_pos hr] at HCK
      clear hr
      go_enter Try.func37, Try.ntmps37
      go_wp2_with (go_at_call 48; go_loud (refine HCK.out.mono ?_; rintro e w1 ⟨rfl, rfl⟩))
      go_ret
      exact ⟨rfl, HST.out _⟩
end Go.Proofs.Ytoonaendakjecaa
