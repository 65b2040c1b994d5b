/- Package journal: settle, Mark, Clear. -/
import Derived.Test.YtkfdcdfaikkneaaGreatDoorXd
namespace Go.Proofs.YtkfdcdfaikkneaaGreatDoor
open Go.ChangeShapes Go.WideShapes Go.ChangeAt Go.RowKit Go.Shelf
set_option linter.unusedVariables false
set_option linter.unusedSimpArgs false
set_option maxRecDepth 100000
attribute [local go_sem] Oper.semAt_some

variable {tb : Nat} {F F' Fp : Nat → Prop} {S : MS} {pp : Option Nat} {l : Int} {u j : Nat}
set_option maxHeartbeats 2000000 in
theorem settle_any {w : World} (h : MJ w tb F S pp Fp l u j) (hj : j ≤ 900) (c : CM) (hw : c.Wf) (ho : c.Ok) :
    Calls Tryz.prog 43 #[tbV tb, cmA c] w fun e w' => ∃ F', e = .returned (.int .i64 (wrF pp.isSome (cmW c) S l u).err) ∧ MJ w' tb F' (wrF pp.isSome (cmW c) S l u).S pp Fp (wrF pp.isSome (cmW c) S l u).l (wrF pp.isSome (cmW c) S l u).u (j + 2) ∧ Stp F Fp w F' w' := by
  obtain ⟨D, hD⟩ : ∃ D, D = wrF pp.isSome (cmW c) S l u := ⟨_, rfl⟩
  rw [← hD]
  obtain ⟨D', hD'⟩ : ∃ D', D' = opWrite pp.isSome S 1 c.B l u := ⟨_, rfl⟩
  obtain ⟨E, hE⟩ : ∃ E, E = D'.err := ⟨_, rfl⟩
  obtain ⟨A, hA⟩ : ∃ A, A = w.alloc (.cells #[.int .u8 c.st, .int .u8 c.n, .int .u64 c.g] 46) := ⟨_, rfl⟩
  have hwA : Below w.heap.size w A := by rw [hA]; exact (Below.refl _ _).alloc (Nat.le_refl _) _
  have hc := commitBytes_any c A hw
  rw [(CM.S_ok ho).1, (CM.S_ok ho).2, CM.B_len] at hc
  have HC := Lib.hid hc
  have HA := Lib.hid (And.intro hA hwA)
  have HWc := Lib.hid (show ∀ (U : World) (a : Option Addr) (k : Nat), Below A.heap.size A U → Arg8c U a 512 k c.B → NewS A a 512 → Calls Tryz.prog 36 #[tbV tb, .int .i64 1, .slice a 512 k] U fun e w' => ∃ F'', e = .returned (.int .i64 E) ∧ MJ w' tb F'' D'.S pp Fp D'.l D'.u (j + 1) ∧ Stp F Fp U F'' w' from fun U a k hU hx hn => by
    rw [hE, hD']
    have hm := h.on hwA
    exact jwrite (hm.on hU) (by omega) (by unfold i64R; omega) hx (fun h0 b o e hf => by have := hn h0 b o e; have := hm.inside (.inl hf); omega) (fun h0 b o e hf => by have := hn h0 b o e; have := hm.inside (.inr hf); omega))
  have HDE := Lib.hid (And.intro hD (And.intro hD' hE))
  have hcl := cell3 (heap_alloc_new w (.cells #[.int .u8 c.st, .int .u8 c.n, .int .u64 c.g] 46))
  obtain ⟨c0, c1, c2⟩ := hcl
  unfold cmA at HC ⊢
  clear hD hD' hE hA hwA hc
  by_cases hE0 : E = 0
  · have HE0 := Lib.hid hE0
    subst hE0
    have HFc := Lib.hid (show ∀ (U : World) (F2 : Nat → Prop), MJ U tb F2 D'.S pp Fp D'.l D'.u (j + 1) → Calls Tryz.prog 74 #[tbV tb] U fun e w' => ∃ F'', e = .returned (.int .i64 D.err) ∧ MJ w' tb F'' D.S pp Fp D.l D.u (j + 1 + 1) ∧ Stp F2 Fp U F'' w' from fun U F2 hm => by
      have he : D = opFlush pp.isSome D'.S D'.l D'.u := by rw [HDE.out.1]; exact wrF_go HDE.out.2.1 (by rw [← HDE.out.2.2])
      rw [he]
      exact jflush hm (by omega))
    go_enter Tryz.func43, Tryz.ntmps43
    go_wp2_with (first
      | (go_at_call 75; go_loud (rw [← HA.out.1]; refine HC.out.mono ?_; rintro e w1 ⟨a1, k1, rfl, hx1, hn1, hb1⟩; have H1 := Lib.hid (And.intro hx1 (And.intro hn1 hb1)); clear hx1 hn1 hb1))
      | (go_at_call 36; go_loud (refine (HWc.out _ _ _ H1.out.2.2 H1.out.1 H1.out.2.1).mono ?_; rintro e w2 ⟨F2, rfl, hm2, hs2⟩; have HM2 := Lib.hid hm2; have HS2 := Lib.hid hs2; clear hm2 hs2))
      | (go_at_call 74; go_loud (refine (HFc.out _ _ HM2.out).mono ?_; rintro e w3 ⟨F3, rfl, hm3, hs3⟩; have HM3 := Lib.hid hm3; have HS3 := Lib.hid hs3; clear hm3 hs3)))
    go_ret
    exact ⟨F3, rfl, HM3.out.more (by omega), (Stp.of_below (bt HA.out.2 H1.out.2.2)).trans (HS2.out.trans HS3.out)⟩
  · have HE0 := Lib.hid hE0
    have qE : (E == 0) = false := by rw [beq_eq_false_iff_ne]; exact hE0
    clear hE0
    go_enter Tryz.func43, Tryz.ntmps43
    go_wp2_with (first
      | (go_at_call 75; go_loud (rw [← HA.out.1]; refine HC.out.mono ?_; rintro e w1 ⟨a1, k1, rfl, hx1, hn1, hb1⟩; have H1 := Lib.hid (And.intro hx1 (And.intro hn1 hb1)); clear hx1 hn1 hb1))
      | (go_at_call 36; go_loud (refine (HWc.out _ _ _ H1.out.2.2 H1.out.1 H1.out.2.1).mono ?_; rintro e w2 ⟨F2, rfl, hm2, hs2⟩; have HM2 := Lib.hid hm2; have HS2 := Lib.hid hs2; clear hm2 hs2)))
    go_ret
    have hDD : D = D' := by rw [HDE.out.1]; exact wrF_stop HDE.out.2.1 (by rw [← HDE.out.2.2]; exact HE0.out)
    exact ⟨F2, by rw [hDD, ← HDE.out.2.2]; rfl, by rw [hDD]; exact HM2.out.more (by omega), (Stp.of_below (bt HA.out.2 H1.out.2.2)).trans HS2.out⟩
def genI (g : Int) : Prop := 0 ≤ g ∧ g < 18446744073709551616
theorem cmWf {s n g : Int} (hs : byteI s) (hn : byteI n) (hg : genI g) : (CM.mk s n g).Wf := ⟨hs, hn, hg⟩
set_option maxHeartbeats 2000000 in
theorem mark_any {w : World} (h : MJ w tb F S pp Fp l u j) (hj : j ≤ 900) (g n : Int) (hg : genI g) (hn : i64R n) :
    Calls Tryz.prog 19 #[tbV tb, .int .u64 g, .int .i64 n] w fun e w' => ∃ F', e = .returned (.int .i64 (markD pp.isSome g n S l u).err) ∧ MJ w' tb F' (markD pp.isSome g n S l u).S pp Fp (markD pp.isSome g n S l u).l (markD pp.isSome g n S l u).u (j + 17) ∧ Stp F Fp w F' w' := by
  have HM := Lib.hid h
  have HAN := Lib.hid (answers_any h (by omega))
  obtain ⟨D, hD⟩ : ∃ D, D = markD pp.isSome g n S l u := ⟨_, rfl⟩
  rw [← hD]
  unfold markD at hD
  unfold i64R at hn
  have HGN := Lib.hid hg
  have hg0 := hg.1
  have hg1 := hg.2
  clear h hg
  rcases ansE_or S l with ha | ha
  case inr =>
    rw [ha] at HAN
    have HDD := Lib.hid (show D = ⟨[], 9, S, l, u⟩ by rw [hD, if_pos (by rw [ha]; decide)])
    clear ha hD
    go_enter Tryz.func19, Tryz.ntmps19
    go_wp2_with (go_at_call 42; go_loud (refine HAN.out.mono ?_; rintro e w1 ⟨rfl, hb⟩; have HB := Lib.hid hb; clear hb))
    go_ret
    exact ⟨F, by rw [HDD.out]; rfl, by rw [HDD.out]; exact (HM.out.on HB.out).more (by omega), Stp.of_below HB.out⟩
  case inl =>
  rw [ha] at HAN
  rw [if_neg (by rw [ha]; simp)] at hD
  clear ha
  by_cases h1 : 16 < n
  · have HDD := Lib.hid (show D = ⟨[], 4, S, l, u⟩ by rw [hD, if_pos h1])
    clear hD
    go_enter Tryz.func19, Tryz.ntmps19
    go_wp2_with (go_at_call 42; go_loud (refine HAN.out.mono ?_; rintro e w1 ⟨rfl, hb⟩; have HB := Lib.hid hb; clear hb))
    go_ret
    exact ⟨F, by rw [HDD.out]; rfl, by rw [HDD.out]; exact (HM.out.on HB.out).more (by omega), Stp.of_below HB.out⟩
  · rw [if_neg h1] at hD
    by_cases h2 : n < 0
    · have HDD := Lib.hid (show D = ⟨[], 2, S, l, u⟩ by rw [hD, if_pos h2])
      clear hD
      go_enter Tryz.func19, Tryz.ntmps19
      go_wp2_with (go_at_call 42; go_loud (refine HAN.out.mono ?_; rintro e w1 ⟨rfl, hb⟩; have HB := Lib.hid hb; clear hb))
      go_ret
      exact ⟨F, by rw [HDD.out]; rfl, by rw [HDD.out]; exact (HM.out.on HB.out).more (by omega), Stp.of_below HB.out⟩
    · rw [if_neg h2] at hD
      have HDD := Lib.hid hD
      have HST := Lib.hid (show ∀ U, Below w.heap.size w U → Calls Tryz.prog 43 #[tbV tb, .agg #[.int .u8 1, .int .u8 n, .int .u64 g]] U fun e w' => ∃ F', e = .returned (.int .i64 D.err) ∧ MJ w' tb F' D.S pp Fp D.l D.u (j + 2) ∧ Stp F Fp U F' w' from fun U hU => by
        rw [hD]
        exact settle_any (HM.out.on hU) hj ⟨1, n, g⟩ (cmWf (by unfold byteI; omega) (by unfold byteI; omega) HGN.out) ⟨by show (1 : Int) ≤ 2; omega, by show n ≤ 16; omega⟩)
      clear hD
      go_enter Tryz.func19, Tryz.ntmps19
      go_wp2_with (first
        | (go_at_call 42; go_loud (refine HAN.out.mono ?_; rintro e w1 ⟨rfl, hb⟩; have HB := Lib.hid hb; clear hb))
        | (go_at_call 43; go_loud (refine (HST.out _ HB.out).mono ?_; rintro e w2 ⟨F2, rfl, hm2, hs2⟩; have HM2 := Lib.hid hm2; have HS2 := Lib.hid hs2; clear hm2 hs2)))
      go_ret
      exact ⟨F2, rfl, HM2.out.more (by omega), (Stp.of_below HB.out).trans HS2.out⟩
theorem clrW_drop (g : Int) {k : Nat} (hk : k < 16) : (clrW g).drop k = (2 + k, zsec) :: (clrW g).drop (k + 1) := by
  have h : k < (clrW g).length := by simp [clrW, cmW]; omega
  unfold clrW at h ⊢
  rw [List.drop_eq_getElem_cons h]
  congr 1
  rw [List.getElem_append_left (by simpa using hk)]
  simp
theorem clrW_16 (g : Int) : (clrW g).drop 16 = cmW ⟨2, 0, g⟩ := by
  unfold clrW
  rw [List.drop_append_of_le_length (by simp), List.drop_of_length_le (by simp), List.nil_append]
set_option maxHeartbeats 4000000 in
theorem clear_any {w : World} (h : MJ w tb F S pp Fp l u j) (hj : j ≤ 800) (g : Int) (hg : genI g) :
    Calls Tryz.prog 21 #[tbV tb, .int .u64 g] w fun e w' => ∃ F', e = .returned (.int .i64 (clrD pp.isSome g S l u).err) ∧ MJ w' tb F' (clrD pp.isSome g S l u).S pp Fp (clrD pp.isSome g S l u).l (clrD pp.isSome g S l u).u (j + 18) ∧ Stp F Fp w F' w' := by
  have HM := Lib.hid h
  obtain ⟨D, hD⟩ : ∃ D, D = clrD pp.isSome g S l u := ⟨_, rfl⟩
  rw [← hD]
  have HD := Lib.hid (show wrF pp.isSome ((clrW g).drop 0) S l u = D by rw [hD]; rfl)
  have hmk : (Instr.makeSlice 23 (.int .i64 512) (.int .i64 512)).run Tryz.prog w = .ok (.slice (some ⟨w.heap.size, 0, none⟩) 512 512) (w.alloc (.cells (madeCells #[.int .u8 0] 512) 5)) := run_make_row' (P := Tryz.prog) 23 5 (.int .u8 0) 1 Tryz.underlying23 info5 rfl .i64 .i64 512 (by omega) (by omega) w
  have hGN := hg
  obtain ⟨hg0, hg1⟩ := hg
  have HGN := Lib.hid hGN
  have HO0 := Lib.hid (own_made (w := w) (e := 5) (n := 512) (by unfold maxLen; omega))
  have HB0 := Lib.hid (show Below w.heap.size w (w.alloc (.cells (madeCells #[.int .u8 0] 512) 5)) from (Below.refl _ _).alloc (Nat.le_refl _) _)
  clear h hD hGN
  go_enter Tryz.func21, Tryz.ntmps21
  go_wp2_with fail
  clear hmk
  obtain ⟨G, hG⟩ : ∃ G, G = w.heap.size := ⟨_, rfl⟩
  rw [← hG] at HO0 ⊢
  have HGG := Lib.hid hG
  obtain ⟨V0, hV0⟩ : ∃ V0, V0 = w.alloc (.cells (madeCells #[.int .u8 0] 512) 5) := ⟨_, rfl⟩
  rw [← hV0] at HO0 HB0 ⊢
  have HX0 := Lib.hid (show Arg8c V0 (some ⟨G, 0, none⟩) 512 512 zsec from arg_own HO0.out zsec_B)
  have HF0 := Lib.hid (show Fr F Fp V0 G from HM.out.fr_new (by rw [HGG.out]; exact Nat.le_refl _) (own_lt HO0.out rfl).2)
  clear hG hV0
  go_loopw [9] (fun q wr => ∃ (k : Nat) (F' : Nat → Prop) (S' : MS) (l' : Int) (u' : Nat), k ≤ 16 ∧ q = .int .i64 (k : Nat) ∧ wrF pp.isSome ((clrW g).drop k) S' l' u' = D ∧ MJ wr tb F' S' pp Fp l' u' (j + k) ∧ Stp F Fp w F' wr ∧ Arg8c wr (some ⟨G, 0, none⟩) 512 512 zsec ∧ Fr F' Fp wr G) (fun q _ => 16 - (intOf q).toNat)
  case atStart => exact ⟨0, F, S, l, u, Nat.zero_le _, rfl, HD.out, HM.out.on HB0.out, Stp.of_below HB0.out, HX0.out, HF0.out⟩
  case round =>
    obtain ⟨k, F', S', l', u', hk, rfl, hwr, hm, hs, hx, hf⟩ := hrel
    rename World => Y
    have HWR := Lib.hid hwr
    have HMY := Lib.hid hm
    have HSY := Lib.hid hs
    have HXY := Lib.hid hx
    have HFY := Lib.hid hf
    clear hwr hm hs hx hf
    by_cases hlt : k < 16
    · have HLT := Lib.hid hlt
      have q1 : (k : Int) < 16 := by omega
      have hdr := clrW_drop g hlt
      obtain ⟨D', hD'⟩ : ∃ D', D' = opWrite pp.isSome S' ((2 + k : Nat) : Int) zsec l' u' := ⟨_, rfl⟩
      obtain ⟨E, hE⟩ : ∃ E, E = D'.err := ⟨_, rfl⟩
      have HWc := Lib.hid (show Calls Tryz.prog 36 #[tbV tb, .int .i64 (2 + (k : Int)), .slice (some ⟨G, 0, none⟩) 512 512] Y fun e w' => ∃ F'', e = .returned (.int .i64 E) ∧ MJ w' tb F'' D'.S pp Fp D'.l D'.u (j + k + 1) ∧ Stp F' Fp Y F'' w' by
        rw [hE, hD', show ((2 + k : Nat) : Int) = 2 + (k : Int) by omega]
        exact jwrite HMY.out (by omega) (by unfold i64R; omega) HXY.out (fun _ b o e => by cases e; exact HFY.out.2.1) (fun _ b o e => by cases e; exact HFY.out.2.2))
      have HDE := Lib.hid (And.intro hD' hE)
      have HDR := Lib.hid hdr
      clear hdr hlt hD' hE
      by_cases hE0 : E = 0
      · have HE0 := Lib.hid hE0
        subst hE0
        go_wp2_with (go_at_call 36; go_loud (refine HWc.out.mono ?_; rintro e w2 ⟨F2, rfl, hm2, hs2⟩; have HM2 := Lib.hid hm2; have HS2 := Lib.hid hs2; clear hm2 hs2))
        go_roundw
        case rel =>
          refine ⟨k + 1, F2, D'.S, D'.l, D'.u, HLT.out, by go_num, ?_, HM2.out, HSY.out.trans HS2.out, HXY.out.blockT (fun _ b o e => by cases e; exact HS2.out.same HFY.out), HS2.out.fr HFY.out⟩
          rw [← HWR.out, HDR.out]
          exact (wrF_go HDE.out.1 (by rw [← HDE.out.2])).symm
        case measure => simp [intOf]; have := HLT.out; omega
      · have HE0 := Lib.hid hE0
        have qE : (E == 0) = false := by rw [beq_eq_false_iff_ne]; exact hE0
        clear hE0
        go_wp2_with (go_at_call 36; go_loud (refine HWc.out.mono ?_; rintro e w2 ⟨F2, rfl, hm2, hs2⟩; have HM2 := Lib.hid hm2; have HS2 := Lib.hid hs2; clear hm2 hs2))
        go_ret
        have hDD : D = D' := by rw [← HWR.out, HDR.out]; exact wrF_stop HDE.out.1 (by rw [← HDE.out.2]; exact HE0.out)
        exact ⟨F2, by rw [hDD, ← HDE.out.2]; rfl, by rw [hDD]; exact HM2.out.more (by have := HLT.out; omega), HSY.out.trans HS2.out⟩
    · obtain rfl : k = 16 := by omega
      have hcw := HWR.out
      rw [clrW_16] at hcw
      have HST := Lib.hid (show Calls Tryz.prog 43 #[tbV tb, .agg #[.int .u8 2, .int .u8 0, .int .u64 g]] Y fun e w' => ∃ F2, e = .returned (.int .i64 D.err) ∧ MJ w' tb F2 D.S pp Fp D.l D.u (j + 16 + 2) ∧ Stp F' Fp Y F2 w' by
        rw [← hcw]
        exact settle_any HMY.out (by omega) ⟨2, 0, g⟩ (cmWf (by unfold byteI; omega) (by unfold byteI; omega) HGN.out) ⟨by show (2 : Int) ≤ 2; omega, by show (0 : Int) ≤ 16; omega⟩)
      clear hcw
      go_wp2_with (go_at_call 43; go_loud (refine HST.out.mono ?_; rintro e w2 ⟨F2, rfl, hm2, hs2⟩; have HM2 := Lib.hid hm2; have HS2 := Lib.hid hs2; clear hm2 hs2))
      go_ret
      exact ⟨F2, rfl, HM2.out, HSY.out.trans HS2.out⟩
end Go.Proofs.YtkfdcdfaikkneaaGreatDoor
