/- Package journal: spread, Stage, Apply. -/
import Derived.Test.YtkfdcdfaikkneaaGreatDoorXc
namespace Go.Proofs.YtkfdcdfaikkneaaGreatDoor
open Go.ChangeShapes Go.WideShapes Go.ChangeAt Go.RowKit Go.Shelf
set_option linter.unusedVariables false
set_option linter.unusedSimpArgs false
set_option maxRecDepth 100000
attribute [local go_sem] Oper.semAt_some

theorem infoBB : (Tryz.prog.info? 23).map (fun i => (i.zero, i.size, i.bytes)) = some (some (.slice none 0 0), 1, 24) := by kernel_rfl
theorem own_madeBB {w : World} {n : Nat} (hm : n ≤ maxLen) :
    (w.alloc (.cells (madeCells #[Value.slice none 0 0] n) 23)).ownsRow w.heap.size 23 1 (.slice (some ⟨w.heap.size, 0, none⟩) n n) n (List.replicate n (.slice none 0 0)) := by
  have := World.ownsRow_lit (base := w.heap.size) (e := 23) (size := 1) w (madeCells #[Value.slice none 0 0] n) n (Nat.le_refl _) hm (by simp [size_madeCells])
  rw [toList_madeCells_one] at this
  exact this
variable {tb : Nat} {F F' Fp : Nat → Prop} {S : MS} {pp : Option Nat} {l : Int} {u j : Nat}
/-- The first k sectors that are laid out. -/
def BRow (F Fp : Nat → Prop) (G : Nat) (V : World) (cells : List Value) (L : List SH) (k : Nat) : Prop :=
  ∀ i s, i < k → L[i]? = some s → ∃ a c, cells[i]? = some (.slice a 512 c) ∧ Arg8c V a 512 c s.B ∧ ∀ b o, a = some ⟨b, o, none⟩ → Fr F Fp V b ∧ G < b
theorem BRow.step {w w' : World} {G : Nat} {cells : List Value} {L : List SH} {k : Nat} (h : BRow F Fp G w cells L k) (hs : Stp F Fp w F' w') : BRow F' Fp G w' cells L k := fun i s hi hL => by
  obtain ⟨a, c, h1, h2, h3⟩ := h i s hi hL
  exact ⟨a, c, h1, h2.blockT (fun _ b o e => hs.same (h3 b o e).1), fun b o e => ⟨hs.fr (h3 b o e).1, (h3 b o e).2⟩⟩
theorem arg_new {w : World} {a : Option Addr} {n c : Nat} {b : List Int} (hx : Arg8c w a n c b) (hn : 0 < n) : ∃ g o, a = some ⟨g, o, none⟩ ∧ g < w.heap.size := by
  obtain ⟨g, o, e, h, _⟩ := hx.1.2.2.1 (by rw [hx.1.1]; exact hn)
  exact ⟨g, o, e, h⟩
theorem spD_no {pp : Bool} {wh : Nat → SH → Nat} {L : List SH} {S : MS} {l : Int} {u : Nat} {k : Nat} {s : SH} (h1 : ansE S l = 0) (h2 : L.length ≤ 16) (h3 : L[k]? = some s) (h4 : ¬ layOk S s) : spD pp wh L S l u = ⟨[], 2, S, l, u⟩ := by
  unfold spD
  rw [if_neg (by rw [h1]; simp), if_neg (by omega), if_neg (fun h => h4 (h s (List.mem_of_getElem? h3)))]
theorem spD_ok {pp : Bool} {wh : Nat → SH → Nat} {L : List SH} {S : MS} {l : Int} {u : Nat} (h1 : ansE S l = 0) (h2 : L.length ≤ 16) (h3 : ∀ (k : Nat) (s : SH), L[k]? = some s → layOk S s) : spD pp wh L S l u = wrF pp (wsOf wh 0 L) S l u := by
  unfold spD
  rw [if_neg (by rw [h1]; simp), if_neg (by omega), if_pos (fun s hs => by
    obtain ⟨k, hk, e⟩ := List.getElem_of_mem hs
    exact h3 k s (by rw [← e]; exact List.getElem?_eq_getElem hk))]
set_option maxHeartbeats 8000000 in
theorem spreadS_any {w : World} (h : MJ w tb F S pp Fp l u j) (hj : j ≤ 900)
    (a : Option Addr) (n c : Nat) (Z : List SZ) (hZ : ShRow w a n c Z) (hF : ShFr F Fp w a n c Z) :
    Calls Tryz.prog 40 #[tbV tb, .slice a n c, .func (.func 41) #[] #[]] w fun e w' => ∃ F', e = .returned (.int .i64 (spD pp.isSome whS (L_ Z) S l u).err) ∧ MJ w' tb F' (spD pp.isSome whS (L_ Z) S l u).S pp Fp (spD pp.isSome whS (L_ Z) S l u).l (spD pp.isSome whS (L_ Z) S l u).u (j + 17) ∧ Stp F Fp w F' w' := by
  have HM := Lib.hid h
  have HAN := Lib.hid (answers_any h (by omega))
  have HZ := Lib.hid hZ
  have HF := Lib.hid hF
  have hbd := hZ.bd
  have HLN := Lib.hid hZ.len
  obtain ⟨D, hD⟩ : ∃ D, D = spD pp.isSome whS (L_ Z) S l u := ⟨_, rfl⟩
  rw [← hD]
  have HD := Lib.hid hD
  have HLL := Lib.hid (show (L_ Z).length = n by rw [List.length_map]; exact hZ.len)
  clear h hZ hF hD
  rcases ansE_or S l with ha | ha
  case inr =>
    rw [ha] at HAN
    have HDD := Lib.hid (show D = ⟨[], 9, S, l, u⟩ by rw [HD.out]; unfold spD; rw [if_pos (by rw [ha]; decide)])
    clear ha
    go_enter Tryz.func40, Tryz.ntmps40
    go_wp2_with (go_at_call 42; go_loud (refine HAN.out.mono ?_; rintro e w1 ⟨rfl, hb⟩; have HB := Lib.hid hb; clear hb))
    go_ret
    exact ⟨F, by rw [HDD.out]; rfl, by rw [HDD.out]; exact (HM.out.on HB.out).more (by omega), Stp.of_below HB.out⟩
  case inl =>
  rw [ha] at HAN
  have HA0 := Lib.hid ha
  clear ha
  by_cases hn : 16 < n
  case pos =>
    have HDD := Lib.hid (show D = ⟨[], 4, S, l, u⟩ by rw [HD.out]; unfold spD; rw [if_neg (by rw [HA0.out]; simp), if_pos (by rw [HLL.out]; exact hn)])
    have q : (16 : Int) < (n : Int) := by omega
    clear hn
    go_enter Tryz.func40, Tryz.ntmps40
    go_wp2_with (go_at_call 42; go_loud (refine HAN.out.mono ?_; rintro e w1 ⟨rfl, hb⟩; have HB := Lib.hid hb; clear hb))
    go_ret
    exact ⟨F, by rw [HDD.out]; rfl, by rw [HDD.out]; exact (HM.out.on HB.out).more (by omega), Stp.of_below HB.out⟩
  case neg =>
  have q : ¬ (16 : Int) < (n : Int) := by omega
  have HN := Lib.hid hn
  have hmk := run_make_row' (P := Tryz.prog) 130 23 (.slice none 0 0) 24 Tryz.underlying130 infoBB rfl .i64 .i64 n (by omega) (by omega)
  clear hn
  go_enter Tryz.func40, Tryz.ntmps40
  go_upto_region 7 with (go_at_call 42; go_loud (refine HAN.out.mono ?_; rintro e w1 ⟨rfl, hb⟩; have HB := Lib.hid hb; clear hb))
  clear hmk
  have HO0 := Lib.hid (own_madeBB (w := w1) (n := n) (by unfold maxLen; have := HN.out; omega))
  have HB0 := Lib.hid (show Below w1.heap.size w1 (w1.alloc (.cells (madeCells #[Value.slice none 0 0] n) 23)) from (Below.refl _ _).alloc (Nat.le_refl _) _)
  obtain ⟨G, hG⟩ : ∃ G, G = w1.heap.size := ⟨_, rfl⟩
  rw [← hG] at HO0 ⊢
  have HGG := Lib.hid hG
  clear hG
  obtain ⟨V0, hV0⟩ : ∃ V0, V0 = w1.alloc (.cells (madeCells #[Value.slice none 0 0] n) 23) := ⟨_, rfl⟩
  rw [← hV0] at HO0 HB0 ⊢
  clear hV0
  go_wp2_with fail
  go_loopw [29] (fun q wr => ∃ (k : Nat) (cells : List Value), k ≤ n ∧ q = .int .i64 (k : Nat) ∧ wr.ownsRow 0 23 1 (.slice (some ⟨G, 0, none⟩) n n) n cells ∧ BRow F Fp G wr cells (L_ Z) k ∧ (∀ i s, i < k → (L_ Z)[i]? = some s → layOk S s) ∧ Below G w1 wr) (fun q _ => n - (intOf q).toNat)
  case atStart => exact ⟨0, _, Nat.zero_le _, rfl, own_low HO0.out (Nat.zero_le _), fun i s h => absurd h (Nat.not_lt_zero _), fun i s h => absurd h (Nat.not_lt_zero _), by rw [HGG.out]; exact HB0.out⟩
  case round =>
    obtain ⟨k, cells, hk, rfl, hown, hrow, hlay, hbel⟩ := hrel
    rename World => V
    have HOV := Lib.hid hown
    have HRV := Lib.hid hrow
    have HLV := Lib.hid hlay
    have HBV := Lib.hid (show Below w.heap.size w V from bt HB.out (by rw [← HGG.out]; exact hbel))
    have HBG := Lib.hid hbel
    clear hown hrow hlay hbel HO0 HB0
    by_cases hlt : k < n
    · have HLT := Lib.hid hlt
      obtain ⟨z, hz⟩ : ∃ z, Z[k]? = some z := ⟨_, List.getElem?_eq_getElem (by rw [HLN.out]; exact hlt)⟩
      have HZk := Lib.hid hz
      obtain ⟨hzw, hzn, hzx⟩ := (HZ.out.on HBV.out).row z (List.mem_of_getElem? hz)
      obtain ⟨g, rfl, hgV, c0, c1, c2, c3, c4⟩ := (HZ.out.on HBV.out).cells hz
      have hzL : (L_ Z)[k]? = some z.1 := by rw [List.getElem?_map, hz]; rfl
      have HZL := Lib.hid hzL
      obtain ⟨A, hA⟩ : ∃ A, A = V.alloc (.cells #[.int .u8 z.1.m, .int .u8 z.1.p, .int .u32 z.1.st, .int .u64 z.1.g, .slice z.2.1 z.1.row.length z.2.2] 54) := ⟨_, rfl⟩
      have hVA : Below V.heap.size V A := by rw [hA]; exact (Below.refl _ _).alloc (Nat.le_refl _) _
      have HLA := Lib.hid (laid_any (HM.out.on (bt HBV.out hVA)) z.1 z.2.1 z.1.row.length z.2.2 hzw (hzx.onV hVA) hzn)
      have HLS := Lib.hid (show layOk S z.1 → layS S z.1 = z.1.B ∧ z.1.B.length = 512 from fun h => ⟨if_pos h, SH.B_len h.2⟩)
      have HA := Lib.hid (And.intro hA hVA)
      have q1 : (k : Int) < (n : Int) := by omega
      have q2 : (0 : Int) ≤ (k : Int) := by omega
      have HGV := Lib.hid (own_lt HOV.out rfl).2
      unfold shG at HLA
      clear hz hzL hzw hzx hzn hA hVA hlt
      by_cases hok : layOk S z.1
      · have HOK := Lib.hid hok
        rw [show layE S z.1 = 0 from if_pos hok, (HLS.out hok).1, (HLS.out hok).2] at HLA
        clear hok HLS
        go_wp2_with (go_at_call 73; go_loud (rw [← HA.out.1]; refine HLA.out.mono ?_; rintro e w2 ⟨a2, k2, rfl, hx2, hn2, hb2⟩; have HX2 := Lib.hid (And.intro hx2 hn2); have HB2 := Lib.hid hb2; have hb3 := bt HA.out.2 hb2; have hcG := (own_belowU HOV.out hb3).cellAt k (by have := HLT.out; omega); rw [List.getElem?_eq_getElem (by have := HOV.out.1; have := HLT.out; omega)] at hcG; have hfG := (own_belowU HOV.out hb3).frozenAt k; clear hx2 hn2 hb2 hb3))
        have HB3 := Lib.hid (bt HA.out.2 HB2.out)
        obtain ⟨hst, -⟩ := (own_belowU HOV.out HB3.out).stored k (.slice a2 512 k2)
        have HST := Lib.hid hst
        have HG2 := Lib.hid (show ∀ i, i ≠ G → (w2.setCell ⟨G, k, none⟩ (.slice a2 512 k2)).heap[i]? = w2.heap[i]? from fun i hi => heap_setCell_other w2 ⟨G, k, none⟩ i _ hi)
        clear hst
        go_roundw
        case rel =>
          have hG2 := HG2.out
          have hsz : (w2.setCell ⟨G, k, none⟩ (.slice a2 512 k2)).heap.size = w2.heap.size := by simp
          have hVw := HB3.out.size
          refine ⟨k + 1, _, HLT.out, by go_num, HST.out, fun i s hi hL => ?_, fun i s hi hL => ?_, ?_⟩
          · rcases Nat.lt_or_ge i k with h1 | h1
            · obtain ⟨a', c', e1, e2, e3⟩ := HRV.out i s h1 hL
              have hx := e2.onV HB3.out
              exact ⟨a', c', by rw [List.getElem?_set_ne (by omega)]; exact e1, hx.blockT (fun _ b o e => hG2 b (by have := (e3 b o e).2; omega)), fun b o e => ⟨⟨by rw [hsz]; have := (e3 b o e).1.1; omega, (e3 b o e).1.2⟩, (e3 b o e).2⟩⟩
            · obtain rfl : i = k := by omega
              rw [HZL.out] at hL; cases hL
              refine ⟨a2, k2, by rw [List.getElem?_set_self (by have := HOV.out.1; have := HLT.out; omega)], HX2.out.1.blockT (fun _ b o e => hG2 b (fun hb => ?_)), fun b o e => ⟨⟨?_, fun hf => ?_, fun hf => ?_⟩, ?_⟩⟩
              · have h1 := HX2.out.2 (by omega) b o e
                have h2 := HA.out.2.size
                have := HGV.out
                omega
              · obtain ⟨b', o', e', hb'⟩ := arg_new HX2.out.1 (by omega)
                rw [e] at e'; cases e'
                rw [hsz]; exact hb'
              · have h1 := HX2.out.2 (by omega) b o e
                have h2 := (HM.out.on (bt HBV.out HA.out.2)).inside (.inl hf)
                omega
              · have h1 := HX2.out.2 (by omega) b o e
                have h2 := (HM.out.on (bt HBV.out HA.out.2)).inside (.inr hf)
                omega
              · have h1 := HX2.out.2 (by omega) b o e
                have h2 := HA.out.2.size
                have := HGV.out
                omega
          · rcases Nat.lt_or_ge i k with h1 | h1
            · exact HLV.out i s h1 hL
            · obtain rfl : i = k := by omega
              rw [HZL.out] at hL; cases hL; exact HOK.out
          · exact (HBG.out.trans (HB3.out.mono (by have := HGV.out; omega))).setCell (Nat.le_refl _) _
        case measure => simp [intOf]; have := HLT.out; omega
      · have HDD := Lib.hid (show D = ⟨[], 2, S, l, u⟩ by rw [HD.out]; exact spD_no HA0.out (by rw [HLL.out]; have := HN.out; omega) HZL.out hok)
        rw [show layE S z.1 = 2 from if_neg hok] at HLA
        clear hok
        go_wp2_with (go_at_call 73; go_loud (rw [← HA.out.1]; refine HLA.out.mono ?_; rintro e w2 ⟨a2, k2, rfl, -, -, hb2⟩; have HB2 := Lib.hid (bt HBV.out (bt HA.out.2 hb2)); clear hb2))
        go_ret
        exact ⟨F, by rw [HDD.out]; rfl, by rw [HDD.out]; exact (HM.out.on HB2.out).more (by omega), Stp.of_below HB2.out⟩
    · obtain rfl : k = n := by omega
      have HDD := Lib.hid (show wrF pp.isSome (wsOf whS 0 (L_ Z)) S l u = D by rw [HD.out]; exact (spD_ok HA0.out (by rw [HLL.out]; have := HN.out; omega) (fun k' s hs => HLV.out k' s (by
        rw [← HLL.out]
        rcases Nat.lt_or_ge k' (L_ Z).length with h1 | h1
        · exact h1
        · rw [List.getElem?_eq_none h1] at hs; cases hs) hs)).symm)
      have HGF := Lib.hid (show Fr F Fp V G from HM.out.fr_new (by rw [HGG.out]; exact HB.out.size) (own_lt HOV.out rfl).2)
      go_wp2_with fail
      go_loopw [50] (fun q wr => ∃ (k' : Nat) (F' : Nat → Prop) (S' : MS) (l' : Int) (u' : Nat), k' ≤ k ∧ q = .int .i64 (k' : Nat) ∧ wrF pp.isSome ((wsOf whS 0 (L_ Z)).drop k') S' l' u' = D ∧ MJ wr tb F' S' pp Fp l' u' (j + k') ∧ Stp F Fp w F' wr ∧ (ShRow wr a k c Z ∧ ShFr F' Fp wr a k c Z) ∧ (wr.ownsRow 0 23 1 (.slice (some ⟨G, 0, none⟩) k k) k cells ∧ Fr F' Fp wr G) ∧ BRow F' Fp G wr cells (L_ Z) k) (fun q _ => k - (intOf q).toNat)
      case atStart => exact ⟨0, F, S, l, u, Nat.zero_le _, rfl, HDD.out, HM.out.on HBV.out, Stp.of_below HBV.out, ⟨HZ.out.on HBV.out, HF.out.up HBV.out.size⟩, ⟨HOV.out, HGF.out⟩, HRV.out⟩
      case round =>
        obtain ⟨k', F', S', l', u', hk', rfl, hwr, hm, hs, ⟨hz1, hz2⟩, ⟨hg1, hg2⟩, hb⟩ := hrel
        rename World => Y
        have HWR := Lib.hid hwr
        have HMY := Lib.hid hm
        have HSY := Lib.hid hs
        have HZ1 := Lib.hid hz1
        have HZ2 := Lib.hid hz2
        have HG1 := Lib.hid hg1
        have HG2 := Lib.hid hg2
        have HBY := Lib.hid hb
        clear hwr hm hs hz1 hz2 hg1 hg2 hb HOV HRV HGF HBG
        by_cases hlt : k' < k
        · have HLT := Lib.hid hlt
          obtain ⟨z, hz⟩ : ∃ z, Z[k']? = some z := ⟨_, List.getElem?_eq_getElem (by rw [HLN.out]; exact hlt)⟩
          have HZk := Lib.hid hz
          obtain ⟨hzw, hzn, hzx⟩ := HZ1.out.row z (List.mem_of_getElem? hz)
          obtain ⟨g, rfl, hgV, c0, c1, c2, c3, c4⟩ := HZ1.out.cells hz
          have hzL : (L_ Z)[k']? = some z.1 := by rw [List.getElem?_map, hz]; rfl
          obtain ⟨a1, cc1, hcl, hx1, hfr1⟩ := HBY.out k' z.1 hlt hzL
          have hcG := HG1.out.cellAt k' (by omega)
          rw [hcl] at hcG
          have hdr := wsOf_drop whS (L_ Z) 0 k' z.1 hzL
          rw [Nat.zero_add] at hdr
          obtain ⟨W, hW⟩ : ∃ W, W = whS k' z.1 := ⟨_, rfl⟩
          have HGc := Lib.hid (fun U => whereS_any k' z.1 z.2.1 z.1.row.length z.2.2 U (by have := HN.out; omega))
          have HW1 := Lib.hid (show W ≤ 8589934592 by rw [hW]; exact (by unfold whS; have := HN.out; omega))
          rw [← hW] at HGc hdr
          obtain ⟨A, hA⟩ : ∃ A, A = Y.alloc (.cells #[.int .u8 z.1.m, .int .u8 z.1.p, .int .u32 z.1.st, .int .u64 z.1.g, .slice z.2.1 z.1.row.length z.2.2] 54) := ⟨_, rfl⟩
          have hYA : Below Y.heap.size Y A := by rw [hA]; exact (Below.refl _ _).alloc (Nat.le_refl _) _
          have hAc := (hYA.cell (p := ⟨G, k', none⟩) HG2.out.1).trans hcG
          rw [hA] at hAc
          have HA2 := Lib.hid (show Below Y.heap.size Y (Y.alloc (.cells #[.int .u8 z.1.m, .int .u8 z.1.p, .int .u32 z.1.st, .int .u64 z.1.g, .slice z.2.1 z.1.row.length z.2.2] 54)) from (Below.refl _ _).alloc (Nat.le_refl _) _)
          obtain ⟨D', hD'⟩ : ∃ D', D' = opWrite pp.isSome S' (W : Nat) z.1.B l' u' := ⟨_, rfl⟩
          obtain ⟨E, hE⟩ : ∃ E, E = D'.err := ⟨_, rfl⟩
          have HWc := Lib.hid (show ∀ U, Below Y.heap.size Y U → Calls Tryz.prog 36 #[tbV tb, .int .i64 (W : Nat), .slice a1 512 cc1] U fun e w' => ∃ F'', e = .returned (.int .i64 E) ∧ MJ w' tb F'' D'.S pp Fp D'.l D'.u (j + k' + 1) ∧ Stp F' Fp U F'' w' from fun U hU => by
            rw [hE, hD']
            exact jwrite (HMY.out.on hU) (by have := HN.out; omega) (by unfold i64R; have := HW1.out; omega) (hx1.onV hU) (fun _ b o e => (hfr1 b o e).1.2.1) (fun _ b o e => (hfr1 b o e).1.2.2))
          have HDE := Lib.hid (And.intro hD' hE)
          have HAC := Lib.hid (show Y.cell? ⟨G, k', none⟩ = some (.slice a1 512 cc1) from hcG)
          have HDR := Lib.hid hdr
          have q1 : (k' : Int) < (k : Int) := by omega
          have q2 : (0 : Int) ≤ (k' : Int) := by omega
          unfold shG at HGc
          clear hz hzL hzw hzx hzn hcl hcG hx1 hfr1 hdr hW hA hYA hlt hD' hE
          by_cases hE0 : E = 0
          · have HE0 := Lib.hid hE0
            subst hE0
            go_wp2_with fail
            go_region_with (first
              | (go_at_call 41; go_loud (refine (HGc.out _).mono ?_; rintro e w3 ⟨rfl, hb3⟩; have hb4 : Below Y.heap.size Y w3 := (by first | exact bt HA2.out hb3 | exact bt HA2.out.drew hb3); have hc63 := (hb4.cell (p := ⟨G, k', none⟩) HG2.out.1).trans HAC.out; have HB4 := Lib.hid hb4; clear hb3 hb4))
              | (go_at_call 36; go_loud (refine (HWc.out _ HB4.out).mono ?_; rintro e w4 ⟨F4, rfl, hm4, hs4⟩; have HM4 := Lib.hid hm4; have HS4 := Lib.hid hs4; clear hm4 hs4)))
            all_goals
              go_wp2_with fail
              go_roundw
              case rel =>
                have hst := (Stp.of_below (F := F') (Fp := Fp) HB4.out).trans HS4.out
                refine ⟨k' + 1, F4, D'.S, D'.l, D'.u, HLT.out, by go_num, ?_, HM4.out, HSY.out.trans hst, HZ1.out.step HZ2.out hst, ⟨own_blockT HG1.out (fun g' e => by cases e; exact hst.same HG2.out), hst.fr HG2.out⟩, HBY.out.step hst⟩
                rw [← HWR.out, HDR.out]
                exact (wrF_go HDE.out.1 (by rw [← HDE.out.2])).symm
              case measure => simp [intOf]; have := HLT.out; omega
          · have HE0 := Lib.hid hE0
            have qE : (E == 0) = false := by rw [beq_eq_false_iff_ne]; exact hE0
            clear hE0
            go_wp2_with fail
            go_region_with (first
              | (go_at_call 41; go_loud (refine (HGc.out _).mono ?_; rintro e w3 ⟨rfl, hb3⟩; have hb4 : Below Y.heap.size Y w3 := (by first | exact bt HA2.out hb3 | exact bt HA2.out.drew hb3); have hc63 := (hb4.cell (p := ⟨G, k', none⟩) HG2.out.1).trans HAC.out; have HB4 := Lib.hid hb4; clear hb3 hb4))
              | (go_at_call 36; go_loud (refine (HWc.out _ HB4.out).mono ?_; rintro e w4 ⟨F4, rfl, hm4, hs4⟩; have HM4 := Lib.hid hm4; have HS4 := Lib.hid hs4; clear hm4 hs4)))
            all_goals
              go_wp2_with fail
              go_ret
              have hDD : D = D' := by rw [← HWR.out, HDR.out]; exact wrF_stop HDE.out.1 (by rw [← HDE.out.2]; exact HE0.out)
              exact ⟨F4, by rw [hDD, ← HDE.out.2]; rfl, by rw [hDD]; exact HM4.out.more (by have := HN.out; omega), HSY.out.trans ((Stp.of_below (F := F') (Fp := Fp) HB4.out).trans HS4.out)⟩
        · obtain rfl : k' = k := by omega
          have hFD : opFlush pp.isSome S' l' u' = D := by
            rw [← HWR.out, List.drop_of_length_le (by rw [wsOf_len, HLL.out]; exact Nat.le_refl _)]; rfl
          have HFL := Lib.hid (jflush HMY.out (by have := HN.out; omega))
          rw [hFD] at HFL
          clear hFD
          go_wp2_with (go_at_call 74; go_loud (refine HFL.out.mono ?_; rintro e w4 ⟨F4, rfl, hm4, hs4⟩; have HM4 := Lib.hid hm4; have HS4 := Lib.hid hs4; clear hm4 hs4))
          go_ret
          exact ⟨F4, rfl, HM4.out.more (by have := HN.out; omega), HSY.out.trans HS4.out⟩
set_option maxHeartbeats 8000000 in
theorem spreadH_any {w : World} (h : MJ w tb F S pp Fp l u j) (hj : j ≤ 900)
    (a : Option Addr) (n c : Nat) (Z : List SZ) (hZ : ShRow w a n c Z) (hF : ShFr F Fp w a n c Z) :
    Calls Tryz.prog 40 #[tbV tb, .slice a n c, .func (.func 44) #[] #[]] w fun e w' => ∃ F', e = .returned (.int .i64 (spD pp.isSome whH (L_ Z) S l u).err) ∧ MJ w' tb F' (spD pp.isSome whH (L_ Z) S l u).S pp Fp (spD pp.isSome whH (L_ Z) S l u).l (spD pp.isSome whH (L_ Z) S l u).u (j + 17) ∧ Stp F Fp w F' w' := by
  have HM := Lib.hid h
  have HAN := Lib.hid (answers_any h (by omega))
  have HZ := Lib.hid hZ
  have HF := Lib.hid hF
  have hbd := hZ.bd
  have HLN := Lib.hid hZ.len
  obtain ⟨D, hD⟩ : ∃ D, D = spD pp.isSome whH (L_ Z) S l u := ⟨_, rfl⟩
  rw [← hD]
  have HD := Lib.hid hD
  have HLL := Lib.hid (show (L_ Z).length = n by rw [List.length_map]; exact hZ.len)
  clear h hZ hF hD
  rcases ansE_or S l with ha | ha
  case inr =>
    rw [ha] at HAN
    have HDD := Lib.hid (show D = ⟨[], 9, S, l, u⟩ by rw [HD.out]; unfold spD; rw [if_pos (by rw [ha]; decide)])
    clear ha
    go_enter Tryz.func40, Tryz.ntmps40
    go_wp2_with (go_at_call 42; go_loud (refine HAN.out.mono ?_; rintro e w1 ⟨rfl, hb⟩; have HB := Lib.hid hb; clear hb))
    go_ret
    exact ⟨F, by rw [HDD.out]; rfl, by rw [HDD.out]; exact (HM.out.on HB.out).more (by omega), Stp.of_below HB.out⟩
  case inl =>
  rw [ha] at HAN
  have HA0 := Lib.hid ha
  clear ha
  by_cases hn : 16 < n
  case pos =>
    have HDD := Lib.hid (show D = ⟨[], 4, S, l, u⟩ by rw [HD.out]; unfold spD; rw [if_neg (by rw [HA0.out]; simp), if_pos (by rw [HLL.out]; exact hn)])
    have q : (16 : Int) < (n : Int) := by omega
    clear hn
    go_enter Tryz.func40, Tryz.ntmps40
    go_wp2_with (go_at_call 42; go_loud (refine HAN.out.mono ?_; rintro e w1 ⟨rfl, hb⟩; have HB := Lib.hid hb; clear hb))
    go_ret
    exact ⟨F, by rw [HDD.out]; rfl, by rw [HDD.out]; exact (HM.out.on HB.out).more (by omega), Stp.of_below HB.out⟩
  case neg =>
  have q : ¬ (16 : Int) < (n : Int) := by omega
  have HN := Lib.hid hn
  have hmk := run_make_row' (P := Tryz.prog) 130 23 (.slice none 0 0) 24 Tryz.underlying130 infoBB rfl .i64 .i64 n (by omega) (by omega)
  clear hn
  go_enter Tryz.func40, Tryz.ntmps40
  go_upto_region 7 with (go_at_call 42; go_loud (refine HAN.out.mono ?_; rintro e w1 ⟨rfl, hb⟩; have HB := Lib.hid hb; clear hb))
  clear hmk
  have HO0 := Lib.hid (own_madeBB (w := w1) (n := n) (by unfold maxLen; have := HN.out; omega))
  have HB0 := Lib.hid (show Below w1.heap.size w1 (w1.alloc (.cells (madeCells #[Value.slice none 0 0] n) 23)) from (Below.refl _ _).alloc (Nat.le_refl _) _)
  obtain ⟨G, hG⟩ : ∃ G, G = w1.heap.size := ⟨_, rfl⟩
  rw [← hG] at HO0 ⊢
  have HGG := Lib.hid hG
  clear hG
  obtain ⟨V0, hV0⟩ : ∃ V0, V0 = w1.alloc (.cells (madeCells #[Value.slice none 0 0] n) 23) := ⟨_, rfl⟩
  rw [← hV0] at HO0 HB0 ⊢
  clear hV0
  go_wp2_with fail
  go_loopw [29] (fun q wr => ∃ (k : Nat) (cells : List Value), k ≤ n ∧ q = .int .i64 (k : Nat) ∧ wr.ownsRow 0 23 1 (.slice (some ⟨G, 0, none⟩) n n) n cells ∧ BRow F Fp G wr cells (L_ Z) k ∧ (∀ i s, i < k → (L_ Z)[i]? = some s → layOk S s) ∧ Below G w1 wr) (fun q _ => n - (intOf q).toNat)
  case atStart => exact ⟨0, _, Nat.zero_le _, rfl, own_low HO0.out (Nat.zero_le _), fun i s h => absurd h (Nat.not_lt_zero _), fun i s h => absurd h (Nat.not_lt_zero _), by rw [HGG.out]; exact HB0.out⟩
  case round =>
    obtain ⟨k, cells, hk, rfl, hown, hrow, hlay, hbel⟩ := hrel
    rename World => V
    have HOV := Lib.hid hown
    have HRV := Lib.hid hrow
    have HLV := Lib.hid hlay
    have HBV := Lib.hid (show Below w.heap.size w V from bt HB.out (by rw [← HGG.out]; exact hbel))
    have HBG := Lib.hid hbel
    clear hown hrow hlay hbel HO0 HB0
    by_cases hlt : k < n
    · have HLT := Lib.hid hlt
      obtain ⟨z, hz⟩ : ∃ z, Z[k]? = some z := ⟨_, List.getElem?_eq_getElem (by rw [HLN.out]; exact hlt)⟩
      have HZk := Lib.hid hz
      obtain ⟨hzw, hzn, hzx⟩ := (HZ.out.on HBV.out).row z (List.mem_of_getElem? hz)
      obtain ⟨g, rfl, hgV, c0, c1, c2, c3, c4⟩ := (HZ.out.on HBV.out).cells hz
      have hzL : (L_ Z)[k]? = some z.1 := by rw [List.getElem?_map, hz]; rfl
      have HZL := Lib.hid hzL
      obtain ⟨A, hA⟩ : ∃ A, A = V.alloc (.cells #[.int .u8 z.1.m, .int .u8 z.1.p, .int .u32 z.1.st, .int .u64 z.1.g, .slice z.2.1 z.1.row.length z.2.2] 54) := ⟨_, rfl⟩
      have hVA : Below V.heap.size V A := by rw [hA]; exact (Below.refl _ _).alloc (Nat.le_refl _) _
      have HLA := Lib.hid (laid_any (HM.out.on (bt HBV.out hVA)) z.1 z.2.1 z.1.row.length z.2.2 hzw (hzx.onV hVA) hzn)
      have HLS := Lib.hid (show layOk S z.1 → layS S z.1 = z.1.B ∧ z.1.B.length = 512 from fun h => ⟨if_pos h, SH.B_len h.2⟩)
      have HA := Lib.hid (And.intro hA hVA)
      have q1 : (k : Int) < (n : Int) := by omega
      have q2 : (0 : Int) ≤ (k : Int) := by omega
      have HGV := Lib.hid (own_lt HOV.out rfl).2
      unfold shG at HLA
      clear hz hzL hzw hzx hzn hA hVA hlt
      by_cases hok : layOk S z.1
      · have HOK := Lib.hid hok
        rw [show layE S z.1 = 0 from if_pos hok, (HLS.out hok).1, (HLS.out hok).2] at HLA
        clear hok HLS
        go_wp2_with (go_at_call 73; go_loud (rw [← HA.out.1]; refine HLA.out.mono ?_; rintro e w2 ⟨a2, k2, rfl, hx2, hn2, hb2⟩; have HX2 := Lib.hid (And.intro hx2 hn2); have HB2 := Lib.hid hb2; have hb3 := bt HA.out.2 hb2; have hcG := (own_belowU HOV.out hb3).cellAt k (by have := HLT.out; omega); rw [List.getElem?_eq_getElem (by have := HOV.out.1; have := HLT.out; omega)] at hcG; have hfG := (own_belowU HOV.out hb3).frozenAt k; clear hx2 hn2 hb2 hb3))
        have HB3 := Lib.hid (bt HA.out.2 HB2.out)
        obtain ⟨hst, -⟩ := (own_belowU HOV.out HB3.out).stored k (.slice a2 512 k2)
        have HST := Lib.hid hst
        have HG2 := Lib.hid (show ∀ i, i ≠ G → (w2.setCell ⟨G, k, none⟩ (.slice a2 512 k2)).heap[i]? = w2.heap[i]? from fun i hi => heap_setCell_other w2 ⟨G, k, none⟩ i _ hi)
        clear hst
        go_roundw
        case rel =>
          have hG2 := HG2.out
          have hsz : (w2.setCell ⟨G, k, none⟩ (.slice a2 512 k2)).heap.size = w2.heap.size := by simp
          have hVw := HB3.out.size
          refine ⟨k + 1, _, HLT.out, by go_num, HST.out, fun i s hi hL => ?_, fun i s hi hL => ?_, ?_⟩
          · rcases Nat.lt_or_ge i k with h1 | h1
            · obtain ⟨a', c', e1, e2, e3⟩ := HRV.out i s h1 hL
              have hx := e2.onV HB3.out
              exact ⟨a', c', by rw [List.getElem?_set_ne (by omega)]; exact e1, hx.blockT (fun _ b o e => hG2 b (by have := (e3 b o e).2; omega)), fun b o e => ⟨⟨by rw [hsz]; have := (e3 b o e).1.1; omega, (e3 b o e).1.2⟩, (e3 b o e).2⟩⟩
            · obtain rfl : i = k := by omega
              rw [HZL.out] at hL; cases hL
              refine ⟨a2, k2, by rw [List.getElem?_set_self (by have := HOV.out.1; have := HLT.out; omega)], HX2.out.1.blockT (fun _ b o e => hG2 b (fun hb => ?_)), fun b o e => ⟨⟨?_, fun hf => ?_, fun hf => ?_⟩, ?_⟩⟩
              · have h1 := HX2.out.2 (by omega) b o e
                have h2 := HA.out.2.size
                have := HGV.out
                omega
              · obtain ⟨b', o', e', hb'⟩ := arg_new HX2.out.1 (by omega)
                rw [e] at e'; cases e'
                rw [hsz]; exact hb'
              · have h1 := HX2.out.2 (by omega) b o e
                have h2 := (HM.out.on (bt HBV.out HA.out.2)).inside (.inl hf)
                omega
              · have h1 := HX2.out.2 (by omega) b o e
                have h2 := (HM.out.on (bt HBV.out HA.out.2)).inside (.inr hf)
                omega
              · have h1 := HX2.out.2 (by omega) b o e
                have h2 := HA.out.2.size
                have := HGV.out
                omega
          · rcases Nat.lt_or_ge i k with h1 | h1
            · exact HLV.out i s h1 hL
            · obtain rfl : i = k := by omega
              rw [HZL.out] at hL; cases hL; exact HOK.out
          · exact (HBG.out.trans (HB3.out.mono (by have := HGV.out; omega))).setCell (Nat.le_refl _) _
        case measure => simp [intOf]; have := HLT.out; omega
      · have HDD := Lib.hid (show D = ⟨[], 2, S, l, u⟩ by rw [HD.out]; exact spD_no HA0.out (by rw [HLL.out]; have := HN.out; omega) HZL.out hok)
        rw [show layE S z.1 = 2 from if_neg hok] at HLA
        clear hok
        go_wp2_with (go_at_call 73; go_loud (rw [← HA.out.1]; refine HLA.out.mono ?_; rintro e w2 ⟨a2, k2, rfl, -, -, hb2⟩; have HB2 := Lib.hid (bt HBV.out (bt HA.out.2 hb2)); clear hb2))
        go_ret
        exact ⟨F, by rw [HDD.out]; rfl, by rw [HDD.out]; exact (HM.out.on HB2.out).more (by omega), Stp.of_below HB2.out⟩
    · obtain rfl : k = n := by omega
      have HDD := Lib.hid (show wrF pp.isSome (wsOf whH 0 (L_ Z)) S l u = D by rw [HD.out]; exact (spD_ok HA0.out (by rw [HLL.out]; have := HN.out; omega) (fun k' s hs => HLV.out k' s (by
        rw [← HLL.out]
        rcases Nat.lt_or_ge k' (L_ Z).length with h1 | h1
        · exact h1
        · rw [List.getElem?_eq_none h1] at hs; cases hs) hs)).symm)
      have HGF := Lib.hid (show Fr F Fp V G from HM.out.fr_new (by rw [HGG.out]; exact HB.out.size) (own_lt HOV.out rfl).2)
      go_wp2_with fail
      go_loopw [50] (fun q wr => ∃ (k' : Nat) (F' : Nat → Prop) (S' : MS) (l' : Int) (u' : Nat), k' ≤ k ∧ q = .int .i64 (k' : Nat) ∧ wrF pp.isSome ((wsOf whH 0 (L_ Z)).drop k') S' l' u' = D ∧ MJ wr tb F' S' pp Fp l' u' (j + k') ∧ Stp F Fp w F' wr ∧ (ShRow wr a k c Z ∧ ShFr F' Fp wr a k c Z) ∧ (wr.ownsRow 0 23 1 (.slice (some ⟨G, 0, none⟩) k k) k cells ∧ Fr F' Fp wr G) ∧ BRow F' Fp G wr cells (L_ Z) k) (fun q _ => k - (intOf q).toNat)
      case atStart => exact ⟨0, F, S, l, u, Nat.zero_le _, rfl, HDD.out, HM.out.on HBV.out, Stp.of_below HBV.out, ⟨HZ.out.on HBV.out, HF.out.up HBV.out.size⟩, ⟨HOV.out, HGF.out⟩, HRV.out⟩
      case round =>
        obtain ⟨k', F', S', l', u', hk', rfl, hwr, hm, hs, ⟨hz1, hz2⟩, ⟨hg1, hg2⟩, hb⟩ := hrel
        rename World => Y
        have HWR := Lib.hid hwr
        have HMY := Lib.hid hm
        have HSY := Lib.hid hs
        have HZ1 := Lib.hid hz1
        have HZ2 := Lib.hid hz2
        have HG1 := Lib.hid hg1
        have HG2 := Lib.hid hg2
        have HBY := Lib.hid hb
        clear hwr hm hs hz1 hz2 hg1 hg2 hb HOV HRV HGF HBG
        by_cases hlt : k' < k
        · have HLT := Lib.hid hlt
          obtain ⟨z, hz⟩ : ∃ z, Z[k']? = some z := ⟨_, List.getElem?_eq_getElem (by rw [HLN.out]; exact hlt)⟩
          have HZk := Lib.hid hz
          obtain ⟨hzw, hzn, hzx⟩ := HZ1.out.row z (List.mem_of_getElem? hz)
          obtain ⟨g, rfl, hgV, c0, c1, c2, c3, c4⟩ := HZ1.out.cells hz
          have hzL : (L_ Z)[k']? = some z.1 := by rw [List.getElem?_map, hz]; rfl
          obtain ⟨a1, cc1, hcl, hx1, hfr1⟩ := HBY.out k' z.1 hlt hzL
          have hcG := HG1.out.cellAt k' (by omega)
          rw [hcl] at hcG
          have hdr := wsOf_drop whH (L_ Z) 0 k' z.1 hzL
          rw [Nat.zero_add] at hdr
          obtain ⟨W, hW⟩ : ∃ W, W = whH k' z.1 := ⟨_, rfl⟩
          have HGc := Lib.hid (fun U => whereH_any k' z.1 z.2.1 z.1.row.length z.2.2 U hzw)
          have HW1 := Lib.hid (show W ≤ 8589934592 by rw [hW]; exact (by unfold whH; have := hzw.st; omega))
          rw [← hW] at HGc hdr
          obtain ⟨A, hA⟩ : ∃ A, A = Y.alloc (.cells #[.int .u8 z.1.m, .int .u8 z.1.p, .int .u32 z.1.st, .int .u64 z.1.g, .slice z.2.1 z.1.row.length z.2.2] 54) := ⟨_, rfl⟩
          have hYA : Below Y.heap.size Y A := by rw [hA]; exact (Below.refl _ _).alloc (Nat.le_refl _) _
          have hAc := (hYA.cell (p := ⟨G, k', none⟩) HG2.out.1).trans hcG
          rw [hA] at hAc
          have HA2 := Lib.hid (show Below Y.heap.size Y (Y.alloc (.cells #[.int .u8 z.1.m, .int .u8 z.1.p, .int .u32 z.1.st, .int .u64 z.1.g, .slice z.2.1 z.1.row.length z.2.2] 54)) from (Below.refl _ _).alloc (Nat.le_refl _) _)
          obtain ⟨D', hD'⟩ : ∃ D', D' = opWrite pp.isSome S' (W : Nat) z.1.B l' u' := ⟨_, rfl⟩
          obtain ⟨E, hE⟩ : ∃ E, E = D'.err := ⟨_, rfl⟩
          have HWc := Lib.hid (show ∀ U, Below Y.heap.size Y U → Calls Tryz.prog 36 #[tbV tb, .int .i64 (W : Nat), .slice a1 512 cc1] U fun e w' => ∃ F'', e = .returned (.int .i64 E) ∧ MJ w' tb F'' D'.S pp Fp D'.l D'.u (j + k' + 1) ∧ Stp F' Fp U F'' w' from fun U hU => by
            rw [hE, hD']
            exact jwrite (HMY.out.on hU) (by have := HN.out; omega) (by unfold i64R; have := HW1.out; omega) (hx1.onV hU) (fun _ b o e => (hfr1 b o e).1.2.1) (fun _ b o e => (hfr1 b o e).1.2.2))
          have HDE := Lib.hid (And.intro hD' hE)
          have HAC := Lib.hid (show Y.cell? ⟨G, k', none⟩ = some (.slice a1 512 cc1) from hcG)
          have HDR := Lib.hid hdr
          have q1 : (k' : Int) < (k : Int) := by omega
          have q2 : (0 : Int) ≤ (k' : Int) := by omega
          unfold shG at HGc
          clear hz hzL hzw hzx hzn hcl hcG hx1 hfr1 hdr hW hA hYA hlt hD' hE
          by_cases hE0 : E = 0
          · have HE0 := Lib.hid hE0
            subst hE0
            go_wp2_with fail
            go_region_with (first
              | (go_at_call 44; go_loud (refine (HGc.out _).mono ?_; rintro e w3 ⟨rfl, hb3⟩; have hb4 : Below Y.heap.size Y w3 := (by first | exact bt HA2.out hb3 | exact bt HA2.out.drew hb3); have hc63 := (hb4.cell (p := ⟨G, k', none⟩) HG2.out.1).trans HAC.out; have HB4 := Lib.hid hb4; clear hb3 hb4))
              | (go_at_call 36; go_loud (refine (HWc.out _ HB4.out).mono ?_; rintro e w4 ⟨F4, rfl, hm4, hs4⟩; have HM4 := Lib.hid hm4; have HS4 := Lib.hid hs4; clear hm4 hs4)))
            all_goals
              go_wp2_with fail
              go_roundw
              case rel =>
                have hst := (Stp.of_below (F := F') (Fp := Fp) HB4.out).trans HS4.out
                refine ⟨k' + 1, F4, D'.S, D'.l, D'.u, HLT.out, by go_num, ?_, HM4.out, HSY.out.trans hst, HZ1.out.step HZ2.out hst, ⟨own_blockT HG1.out (fun g' e => by cases e; exact hst.same HG2.out), hst.fr HG2.out⟩, HBY.out.step hst⟩
                rw [← HWR.out, HDR.out]
                exact (wrF_go HDE.out.1 (by rw [← HDE.out.2])).symm
              case measure => simp [intOf]; have := HLT.out; omega
          · have HE0 := Lib.hid hE0
            have qE : (E == 0) = false := by rw [beq_eq_false_iff_ne]; exact hE0
            clear hE0
            go_wp2_with fail
            go_region_with (first
              | (go_at_call 44; go_loud (refine (HGc.out _).mono ?_; rintro e w3 ⟨rfl, hb3⟩; have hb4 : Below Y.heap.size Y w3 := (by first | exact bt HA2.out hb3 | exact bt HA2.out.drew hb3); have hc63 := (hb4.cell (p := ⟨G, k', none⟩) HG2.out.1).trans HAC.out; have HB4 := Lib.hid hb4; clear hb3 hb4))
              | (go_at_call 36; go_loud (refine (HWc.out _ HB4.out).mono ?_; rintro e w4 ⟨F4, rfl, hm4, hs4⟩; have HM4 := Lib.hid hm4; have HS4 := Lib.hid hs4; clear hm4 hs4)))
            all_goals
              go_wp2_with fail
              go_ret
              have hDD : D = D' := by rw [← HWR.out, HDR.out]; exact wrF_stop HDE.out.1 (by rw [← HDE.out.2]; exact HE0.out)
              exact ⟨F4, by rw [hDD, ← HDE.out.2]; rfl, by rw [hDD]; exact HM4.out.more (by have := HN.out; omega), HSY.out.trans ((Stp.of_below (F := F') (Fp := Fp) HB4.out).trans HS4.out)⟩
        · obtain rfl : k' = k := by omega
          have hFD : opFlush pp.isSome S' l' u' = D := by
            rw [← HWR.out, List.drop_of_length_le (by rw [wsOf_len, HLL.out]; exact Nat.le_refl _)]; rfl
          have HFL := Lib.hid (jflush HMY.out (by have := HN.out; omega))
          rw [hFD] at HFL
          clear hFD
          go_wp2_with (go_at_call 74; go_loud (refine HFL.out.mono ?_; rintro e w4 ⟨F4, rfl, hm4, hs4⟩; have HM4 := Lib.hid hm4; have HS4 := Lib.hid hs4; clear hm4 hs4))
          go_ret
          exact ⟨F4, rfl, HM4.out.more (by have := HN.out; omega), HSY.out.trans HS4.out⟩
theorem stage_any {w : World} (h : MJ w tb F S pp Fp l u j) (hj : j ≤ 900) (a : Option Addr) (n c : Nat) (Z : List SZ) (hZ : ShRow w a n c Z) (hF : ShFr F Fp w a n c Z) :
    Calls Tryz.prog 18 #[tbV tb, .slice a n c] w fun e w' => ∃ F', e = .returned (.int .i64 (spD pp.isSome whS (L_ Z) S l u).err) ∧ MJ w' tb F' (spD pp.isSome whS (L_ Z) S l u).S pp Fp (spD pp.isSome whS (L_ Z) S l u).l (spD pp.isSome whS (L_ Z) S l u).u (j + 17) ∧ Stp F Fp w F' w' := by
  have HC := Lib.hid (spreadS_any h hj a n c Z hZ hF)
  go_enter Tryz.func18, Tryz.ntmps18
  go_wp2_with (go_at_call 40; go_loud (refine HC.out.mono ?_; rintro e w1 ⟨F1, rfl, h1, h2⟩; have H1 := Lib.hid h1; have H2 := Lib.hid h2; clear h1 h2))
  go_ret
  exact ⟨F1, rfl, H1.out, H2.out⟩
theorem apply_any {w : World} (h : MJ w tb F S pp Fp l u j) (hj : j ≤ 900) (a : Option Addr) (n c : Nat) (Z : List SZ) (hZ : ShRow w a n c Z) (hF : ShFr F Fp w a n c Z) :
    Calls Tryz.prog 20 #[tbV tb, .slice a n c] w fun e w' => ∃ F', e = .returned (.int .i64 (spD pp.isSome whH (L_ Z) S l u).err) ∧ MJ w' tb F' (spD pp.isSome whH (L_ Z) S l u).S pp Fp (spD pp.isSome whH (L_ Z) S l u).l (spD pp.isSome whH (L_ Z) S l u).u (j + 17) ∧ Stp F Fp w F' w' := by
  have HC := Lib.hid (spreadH_any h hj a n c Z hZ hF)
  go_enter Tryz.func20, Tryz.ntmps20
  go_wp2_with (go_at_call 40; go_loud (refine HC.out.mono ?_; rintro e w1 ⟨F1, rfl, h1, h2⟩; have H1 := Lib.hid h1; have H2 := Lib.hid h2; clear h1 h2))
  go_ret
  exact ⟨F1, rfl, H1.out, H2.out⟩
end Go.Proofs.YtkfdcdfaikkneaaGreatDoor
