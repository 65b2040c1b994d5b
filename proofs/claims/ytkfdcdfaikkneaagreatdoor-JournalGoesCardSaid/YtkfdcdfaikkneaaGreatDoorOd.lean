/- Contract of package medium as it landed: Write. -/
import Derived.Test.YtkfdcdfaikkneaaGreatDoorOc
import Derived.Deep.RegionLaw
namespace Go.Proofs.YtkfdcdfaikkneaaGreatDoor
open Go.ChangeShapes Go.WideShapes Go.ChangeAt Go.RowKit Go.Shelf
set_option linter.unusedVariables false
set_option linter.unusedSimpArgs false
set_option maxRecDepth 100000
attribute [local go_sem] Oper.semAt_some

theorem slice_block {a : Option Addr} {n c g : Nat} (h : (Value.slice a n c).ownBlock = some g) : ∃ ad, a = some ad ∧ ad.block = g := by
  cases a with
  | none => cases h
  | some ad => exact ⟨ad, rfl, by cases h; rfl⟩
/-- How a medium stands behind a write. -/
theorem write_end {w w1 w3 w6 : World} {tb : Nat} {F Fp : Nat → Prop} {S : MS} {pp : Option Nat} {sb sc : Nat} {ca : Option Addr} {cc : Nat} {Z : List ZW} {i g cap : Nat} {b : List Int} {a1 : Option Addr} {c1 : Nat} {H : Nat}
    (hX : MedX w tb S pp sb sc ca cc Z) (hF : ∀ k, F k ↔ MedF tb sb (caV ca Z cc) Z k) (hd : ∀ k, F k → ¬ Fp k) (h01 : KB Fp w w1) (hH : w1.heap.size ≤ H) (h13 : KB (fun k => (caV ca Z cc).ownBlock = some k) w1 w3)
    (ho3 : w3.ownsRow 0 122 2 (.slice (some ⟨g, 0, none⟩) (Z.length + 1) cap) (Z.length + 1) (zC Z ++ [.int .i64 (i : Nat), .slice a1 512 c1])) (ha : (caV ca Z cc).ownBlock = some g ∨ g = H)
    (hb : b.length = 512) (hB : AllB b) (hdat : w3.ownsRow 0 5 1 (.slice a1 512 c1) 512 (b.map (Value.int .u8))) (hdl : ∀ g', (Value.slice a1 512 c1).ownBlock = some g' → w1.heap.size ≤ g')
    (h6 : w6 = w3.setCell ⟨tb, 1, none⟩ (.slice (some ⟨g, 0, none⟩) (Z.length + 1) cap)) :
    ∃ F', MedR w6 tb F' (S.write i b) pp ∧ KB (fun k => F k ∨ Fp k) w w6 ∧ (∀ k, F' k → F k ∨ w.heap.size ≤ k) ∧ ∀ k, Fp k → k < w1.heap.size → w6.heap[k]? = w1.heap[k]? := by
  have hin : ∀ k, MedF tb sb (caV ca Z cc) Z k → k < w.heap.size := fun k hk => hX.inside hk
  have hs01 := h01.1.size
  have hX1 : MedX w1 tb S pp sb sc ca cc Z := hX.same (fun k hk => h01.2 k (hin k hk) (hd k ((hF k).2 hk)))
  have hne := hX1.ne_sb
  have htb : tb ≠ g := by
    rcases ha with h | h
    · exact fun e => (hne.2.1 g h).1 e.symm
    · have := blk_lt hX1.md; omega
  have hst : ∀ k, k < w1.heap.size → k ≠ tb → (caV ca Z cc).ownBlock ≠ some k → w6.heap[k]? = w1.heap[k]? := fun k hk h1 h2 => by
    rw [h6]; exact (heap_setCell_other _ ⟨tb, 1, none⟩ k _ h1).trans (h13.2 k hk h2)
  have hmd3 : Md w3 tb (.slice (some ⟨sb, 0, none⟩) S.size sc) (caV ca Z cc) S.down (ppV pp) := hX1.md.same (h13.2 tb (blk_lt hX1.md) (fun e => (hne.2.1 tb e).1 rfl))
  have hrow : w6.ownsRow 0 122 2 (.slice (some ⟨g, 0, none⟩) (Z.length + 1) cap) (Z.length + 1) (zC (Z ++ [((i, b), (a1, c1))])) := by
    rw [zC_append, zC_one]
    refine own_blockT ho3 (fun k e => ?_)
    cases e
    rw [h6]; exact heap_setCell_other _ ⟨tb, 1, none⟩ g _ (Ne.symm htb)
  have hl : (Z ++ [((i, b), (a1, c1))]).length = Z.length + 1 := by rw [List.length_append]; rfl
  refine ⟨MedF tb sb (.slice (some ⟨g, 0, none⟩) (Z.length + 1) cap) (Z ++ [((i, b), (a1, c1))]), ⟨sb, sc, some ⟨g, 0, none⟩, cap, Z ++ [((i, b), (a1, c1))], ⟨?_, ?_, ?_, ?_, ?_⟩, fun k => by rw [caV, hl]⟩, ?_, ?_, ?_⟩
  · show S.cache ++ [(i, b)] = _
    rw [hX.cache, List.map_append]; rfl
  · rw [h6, caV, hl]; exact hmd3.set1 _
  · exact hX1.sec.same (hst sb hX1.sec.lt (Ne.symm hne.1) (fun e => (hne.2.1 sb e).2 rfl))
  · rw [caV, hl]; exact hrow
  · intro z hz
    rcases List.mem_append.1 hz with hz | hz
    · obtain ⟨d1, d2, d3⟩ := hX1.dat z hz
      exact ⟨d1, d2, own_blockT d3 (fun k e => hst k (own_lt d3 e).2 (hne.2.2 z hz k e).1 (hne.2.2 z hz k e).2.2)⟩
    · rw [List.mem_singleton.1 hz]
      refine ⟨hb, hB, own_blockT hdat (fun k e => ?_)⟩
      rw [h6]; exact heap_setCell_other _ ⟨tb, 1, none⟩ k _ (by have := hdl k e; have := blk_lt hX1.md; show k ≠ tb; omega)
  · have k1 : KB (fun k => F k ∨ Fp k) w w1 := h01.monoF (fun j e => .inr e)
    have k2 : KB (fun k => F k ∨ Fp k) w1 w3 := h13.monoF (fun j e => .inl ((hF j).2 (.inr (.inr (.inl e)))))
    have k3 : KB (fun k => F k ∨ Fp k) w3 w6 := by rw [h6]; exact (KB.of_set _ tb 1 _).monoF (fun j e => .inl ((hF j).2 (.inl e)))
    exact (k1.trans k2).trans k3
  · rintro k (rfl | rfl | e | ⟨z, hz, e⟩)
    · exact .inl ((hF _).2 (.inl rfl))
    · exact .inl ((hF _).2 (.inr (.inl rfl)))
    · cases e
      rcases ha with h | h
      · exact .inl ((hF _).2 (.inr (.inr (.inl h))))
      · right; show w.heap.size ≤ g; omega
    · rcases List.mem_append.1 hz with hz | hz
      · exact .inl ((hF _).2 (.inr (.inr (.inr ⟨z, hz, e⟩))))
      · rw [List.mem_singleton.1 hz] at e
        have := hdl k e; right; omega
  · exact fun k hk hlt => hst k hlt (fun e => hd k ((hF k).2 (.inl e)) hk) (fun e => hd k ((hF k).2 (.inr (.inr (.inl e)))) hk)
set_option maxHeartbeats 8000000 in
theorem write_any (tb : Nat) (F Fp : Nat → Prop) (S : MS) (pp : Option Nat) (l : Int) (u : Nat) (i : Int) (a : Option Addr) (n c : Nat) (b : List Int) (w : World) (hR : MedR w tb F S pp) (hp : PO MedP w pp Fp l u) (hd : ∀ k, F k → ¬ Fp k) (hS : S.Ok) (hl : LeftOk l) (hcl : S.cache.length ≤ 1000) (hu : u ≤ 1000) (hi : i64R i) (hx : Arg8c w a n c b) (ho : Off F a n) (ho2 : Off Fp a n) :
    Calls Tryz.prog 36 #[tbV tb, .int .i64 i, .slice a n c] w fun e w' => ∃ F', e = .returned (.int .i64 (opWrite pp.isSome S i b l u).err) ∧ MedR w' tb F' (opWrite pp.isSome S i b l u).S pp ∧ PO MedP w' pp Fp (opWrite pp.isSome S i b l u).l (opWrite pp.isSome S i b l u).u ∧ KB (fun k => F k ∨ Fp k) w w' ∧ (∀ k, F' k → F k ∨ w.heap.size ≤ k) := by
  have HR := Lib.hid hR
  have HP := Lib.hid hp
  obtain ⟨sb, sc, ca, cc, Z, h, hF⟩ := hR
  have HF := Lib.hid hF
  have HLET := Lib.hid (powLet_any pp Fp l u w hp hu)
  have HX := Lib.hid h
  have HS := Lib.hid hS
  have HD := Lib.hid hd
  have HA := Lib.hid hx
  have HO2 := Lib.hid ho2
  have hc0 := h.md.c0
  have hc2 := h.md.c2
  have hc3 := h.md.c3
  have hcl2 : Z.length ≤ 1000 := by have := h.len; omega
  have hna := hx.1.2.2.2
  unfold maxLen at hna
  have hbl := hx.1.1
  clear h hF hS hd hx ho ho2 hp hl hcl hi
  by_cases hdn : S.down = true
  · have HE := Lib.hid (show opWrite pp.isSome S i b l u = ⟨[], 9, S, l, u⟩ by unfold opWrite; rw [if_pos hdn])
    rw [hdn] at hc2
    rw [HE.out]
    clear hdn hu
    go_enter Tryz.func36, Tryz.ntmps36
    go_wp2
    go_ret
    exact ⟨F, rfl, HR.out, HP.out, KB.refl _ _, fun k hk => .inl hk⟩
  have hdf : S.down = false := by cases hh : S.down <;> simp_all
  rw [hdf] at hc2
  by_cases hin : inR S i
  case neg =>
    have HE := Lib.hid (show opWrite pp.isSome S i b l u = ⟨[], 2, S, l, u⟩ by unfold opWrite; rw [if_neg hdn, if_pos hin])
    rw [HE.out]
    have HH := Lib.hid (medHas_no tb sb S.size sc i w hc0 hin)
    clear hdn hu hin hdf hc0
    go_enter Tryz.func36, Tryz.ntmps36
    go_wp2_with (go_at_call 53; go_loud (refine HH.out.mono ?_; rintro e w1 ⟨rfl, rfl⟩))
    go_ret
    exact ⟨F, rfl, HR.out, HP.out, KB.refl _ _, fun k hk => .inl hk⟩
  case pos =>
  have HH := Lib.hid (medHas_yes tb sb S.size sc i w hc0 hin.1 hin.2)
  by_cases hb5 : n = 512
  case neg =>
    have HE := Lib.hid (show opWrite pp.isSome S i b l u = ⟨[], 3, S, l, u⟩ by unfold opWrite; rw [if_neg hdn, if_neg (fun h => h hin), if_pos (by omega)])
    rw [HE.out]
    have q1 : ¬ (n : Int) = 512 := by omega
    clear hdn hu hin hdf hc0 hb5
    go_enter Tryz.func36, Tryz.ntmps36
    go_wp2_with (go_at_call 53; go_loud (refine HH.out.mono ?_; rintro e w1 ⟨rfl, rfl⟩))
    go_ret
    exact ⟨F, rfl, HR.out, HP.out, KB.refl _ _, fun k hk => .inl hk⟩
  case pos =>
  subst hb5
  by_cases hl0 : l = 0
  · have HE := Lib.hid (show opWrite pp.isSome S i b l u = ⟨[], 9, S, l, u⟩ by unfold opWrite; rw [if_neg hdn, if_neg (fun h => h hin), if_neg (by omega), if_pos hl0])
    rw [HE.out]
    have HN := Lib.hid (show (l != 0) = false by rw [hl0]; rfl)
    have HL0 := Lib.hid hl0
    clear hdn hu hl0 hdf hin hc0
    go_enter Tryz.func36, Tryz.ntmps36
    go_wp2_with (first
      | (go_at_call 53; go_loud (refine HH.out.mono ?_; rintro e w1 ⟨rfl, rfl⟩))
      | (go_at_call 68; go_loud (refine HLET.out.mono ?_; rintro e w1 ⟨rfl, h1, -, -⟩; rw [HN.out]; obtain rfl := h1 HL0.out; clear h1)))
    go_ret
    exact ⟨F, rfl, HR.out, HP.out, KB.refl _ _, fun k hk => .inl hk⟩
  · have HE := Lib.hid (show opWrite pp.isSome S i b l u = ⟨[], 0, S.write i.toNat b, spendL l, usedN pp.isSome u⟩ by unfold opWrite; rw [if_neg hdn, if_neg (fun h => h hin), if_neg (by omega), if_neg hl0])
    rw [HE.out]
    have HN := Lib.hid (show (l != 0) = true by rw [bne_iff_ne]; exact hl0)
    have HL0 := Lib.hid hl0
    obtain ⟨I, rfl⟩ : ∃ I : Nat, i = (I : Int) := ⟨i.toNat, by have := hin.1; omega⟩
    have HI2 := Lib.hid hin
    obtain ⟨iT, hi, hzz⟩ := Option.map_eq_some_iff.1 infoWr
    simp only [Prod.mk.injEq] at hzz
    have HIT := Lib.hid (And.intro hi hzz)
    clear hi hzz hdn hu hl0 hdf hin hc0
    go_enter Tryz.func36, Tryz.ntmps36
    go_upto_region 11 with (first
      | (go_at_call 53; go_loud (refine HH.out.mono ?_; rintro e w1 ⟨rfl, rfl⟩))
      | (go_at_call 68; go_loud (refine HLET.out.mono ?_; rintro e w1 ⟨rfl, -, h1, h2⟩; rw [HN.out]; have HP1 := Lib.hid (h1 HL0.out); have HK1 := Lib.hid h2; clear h1 h2)))
    have HX1 := Lib.hid (HX.out.same (fun k hk => HK1.out.2 k (HX.out.inside hk) (HD.out k ((HF.out k).2 hk))))
    have HA1 := Lib.hid (HA.out.blockT (fun h0 b o e => HK1.out.2 b (by obtain ⟨b', off', e', hb', _⟩ := HA.out.1.2.2.1 (by rw [hbl]; exact h0); rw [e] at e'; cases e'; exact hb') (HO2.out h0 b o e)))
    obtain ⟨N, hNN⟩ : ∃ N, N = Z.length := ⟨_, rfl⟩
    have HNN := Lib.hid hNN
    have HCL := Lib.hid (show ∀ W, Below w1.heap.size w1 W → _ from fun W hW => cloneB_any a 512 c b W ⟨HA1.out.1.on hW, HA1.out.2⟩ (by omega))
    have HROW := Lib.hid (show ∀ W, Below w1.heap.size w1 W → W.ownsRow 0 122 2 (.slice ca N cc) N (zC Z) from fun W hW => by rw [hNN]; exact (HX1.out.on hW).row)
    have HC1 := Lib.hid (show ∀ W, Below w1.heap.size w1 W → W.cell? ⟨tb, 1, none⟩ = some (.slice ca N cc) from fun W hW => by rw [hNN]; exact (HX1.out.on hW).md.c1)
    have HMD := Lib.hid (show ∀ W W3, Below w1.heap.size w1 W → World.grownBy W W3 (Value.slice ca N cc).ownBlock → Md W3 tb (.slice (some ⟨sb, 0, none⟩) S.size sc) (.slice ca N cc) S.down (ppV pp) from fun W W3 hW hg => by
      rw [hNN] at hg ⊢
      have hXW := HX1.out.on hW
      exact hXW.md.same (hg.block tb (blk_lt hXW.md) (fun e => (hXW.ne_sb.2.1 tb e.symm).1 rfl)))
    have hd1 := HC1.out _ (Below.refl _ _)
    have hN1 : N ≤ 1000 := by omega
    clear hc2 hc3 hNN hcl2
    go_region_law (first
      | (refine step_append_lies _ (by rfl) (.tmp 30) (.tmp 35) 99 (by rfl) 0 122 iT (.agg #[.int .i64 0, .slice none 0 0]) 2 32 Tryz.underlying99 HIT.out.1 HIT.out.2.1 HIT.out.2.2.1 HIT.out.2.2.2 rfl (by decide) (.slice ca N cc) N (zC Z) (by simp [Act.eval, Act.put]) (HROW.out _ (HBa.out.alloc HBa.out.size _)) ⟨w2.heap.size, 0, none⟩ 1 1 [.int .i64 (I : Nat), .slice a1 512 c1] (by simp [Act.eval, Act.put]) rfl (World.news_of_block (heap_alloc_new _ _)) (by simp [Value.oneCell']) (by omega) (by unfold maxLen; omega) (by omega) (Nat.zero_le _) (w2.heap.size + 1) (by simp) ?_; intro g cap w3 hown3 hgrow3 hat3 hlt3; have hT3 := HMD.out _ w3 (HBa.out.alloc HBa.out.size _) hgrow3; have he1 := hT3.c1; have hf1 := hT3.free 1; have HT3 := Lib.hid hT3; have HO3 := Lib.hid hown3; have HG3 := Lib.hid hgrow3; have HAT := Lib.hid hat3; have HLT := Lib.hid hlt3; clear hT3 hown3 hgrow3 hat3 hlt3)
      | (rw [if_pos (by rfl)]; go_simp; go_at_call 69; go_loud (refine (HCL.out _ (by first | exact Below.refl _ _ | exact (Below.refl _ _).drew)).mono ?_; rintro e w2 ⟨a1, c1, rfl, ho1, ha1, hb1⟩; have HBa := Lib.hid (bt (show Below w1.heap.size w1 _ from by first | exact Below.refl _ _ | exact (Below.refl _ _).drew) hb1); have HO1 := Lib.hid ho1; have HAa := Lib.hid ha1; have HBb := Lib.hid hb1; clear ho1 ha1 hb1; have hd2 := HC1.out w2 HBa.out; have hd3 := HC1.out _ (HBa.out.alloc HBa.out.size (.cells #[.int .i64 (I : Nat), .slice a1 512 c1] 122)))))
    all_goals
      go_wp2_with fail
      go_ret
      have hga : KB (fun k => (caV ca Z cc).ownBlock = some k) w2 w3 := (KB.of_below ((Below.refl _ w2).alloc (Nat.le_refl _) _)).trans (by rw [caV, ← HNN.out]; exact KB.of_grown HG3.out)
      have hlo : ∀ g', (Value.slice a1 512 c1).ownBlock = some g' → w1.heap.size ≤ g' ∧ g' < w2.heap.size := fun g' e => own_lt HO1.out e
      have ho3 := HO3.out
      have hat := HAT.out
      rw [HNN.out] at ho3 hat
      obtain ⟨F', r1, r2, r3, r4⟩ := write_end (w6 := w3.setCell ⟨tb, 1, none⟩ (.slice (some ⟨g, 0, none⟩) (N + 1) cap)) (i := I) (b := b) (H := w2.heap.size + 1) HX.out HF.out HD.out HK1.out (by have := HBa.out.size; omega) ((KB.of_below HBa.out).trans hga) ho3 hat hbl HA.out.1.2.1 (own_low (own_blockT HO1.out (fun g' e => hga.2 g' (hlo g' e).2 (fun e2 => by have := (own_lt HX1.out.row e2).2; have := (hlo g' e).1; omega))) (Nat.zero_le _)) (fun g' e => (hlo g' e).1) (by rw [HNN.out])
      exact ⟨F', rfl, r1, po_keep HP1.out (fun j hj => r4 j hj (po_inside HP1.out j hj)), r2, r3⟩
end Go.Proofs.YtkfdcdfaikkneaaGreatDoor
