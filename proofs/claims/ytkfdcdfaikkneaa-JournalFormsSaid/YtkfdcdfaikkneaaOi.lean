/- Contracts of package medium as it landed: drop, Lose, Corrupt. -/
import Derived.Test.YtkfdcdfaikkneaaOh
import Derived.Deep.MidRow
import Derived.Great.BuildSlice
namespace Go.Proofs.Ytkfdcdfaikkneaa
open Go.ChangeShapes Go.WideShapes Go.ChangeAt Go.RowKit Go.Shelf
set_option linter.unusedVariables false
set_option linter.unusedSimpArgs false
set_option maxRecDepth 100000
attribute [local go_sem] Oper.semAt_some

theorem heap_setCells (g : Nat) (T : TypeId) : ∀ (vs : List Value) (o : Nat) (w : World) (cur : Array Value), w.heap[g]? = some (.cells cur T (0, 0)) → o + vs.length ≤ cur.size → ∃ cur', (w.setCells g o vs).heap[g]? = some (.cells cur' T (0, 0)) ∧ cur'.size = cur.size ∧ ∀ j, cur'[j]? = if o ≤ j ∧ j < o + vs.length then vs[j - o]? else cur[j]?
  | [], o, w, cur, h, _ => ⟨cur, h, rfl, fun j => by rw [if_neg (by rw [List.length_nil]; omega)]⟩
  | v :: r, o, w, cur, h, hl => by
    rw [List.length_cons] at hl
    obtain ⟨cur', h1, h2, h3⟩ := heap_setCells g T r (o + 1) (w.setCell ⟨g, o, none⟩ v) (cur.setIfInBounds o v) (heap_setCell_same w g o _ _ v h) (by rw [Array.size_setIfInBounds]; omega)
    refine ⟨cur', h1, by rw [h2, Array.size_setIfInBounds], fun j => ?_⟩
    rw [h3 j, List.length_cons]
    by_cases c1 : o + 1 ≤ j ∧ j < o + 1 + r.length
    · rw [if_pos c1, if_pos (by omega), show j - o = (j - (o + 1)) + 1 by omega, List.getElem?_cons_succ]
    · rw [if_neg c1, Array.getElem?_setIfInBounds]
      by_cases c2 : o = j
      · subst c2
        rw [if_pos rfl, if_pos (by omega), if_pos (by omega), Nat.sub_self]; rfl
      · rw [if_neg c2, if_neg (by omega)]
def lostZ : Array Value := #[.bool true] ++ Array.replicate 512 (.int .u8 0)
theorem lostZ_size : lostZ.size = 513 := by simp [lostZ]
theorem lostZ_len : lostZ.toList.length = 513 := by rw [Array.length_toList]; exact lostZ_size
theorem lostZ_get {j : Nat} (h : j < 513) : lostZ.toList[j]? = some (if j = 0 then .bool true else .int .u8 0) := by
  rw [Array.getElem?_toList]
  unfold lostZ
  by_cases h0 : j = 0
  · rw [if_pos h0, Array.getElem?_append_left (by simp; omega), h0]; rfl
  · rw [if_neg h0, Array.getElem?_append_right (by simp; omega), Array.getElem?_replicate, if_pos (by simp; omega)]
theorem lostZ_one : lostZ.all (·.oneCell') = true := by
  rw [Array.all_eq_true_iff_forall_mem]
  intro v hv
  unfold lostZ at hv
  rcases Array.mem_append.1 hv with h | h
  · have h2 : v = .bool true := by simpa using h
    rw [h2]; rfl
  · rw [(Array.mem_replicate.1 h).2]; rfl
theorem built_sec : Try.prog.built 99 [(0, .bool true)] = some lostZ := by kernel_rfl
theorem size_sec : (Try.prog.info? 99).map (·.size) = some 513 := by
  have h := infoSec
  cases hq : Try.prog.info? 99 with
  | none => simp [hq] at h
  | some i =>
    simp only [hq, Option.map_some, Option.some.injEq, Prod.mk.injEq] at h
    simp [h.2.1]
theorem SecR.lose {w : World} {sb n sc i : Nat} {m : Nat → Option (List Int)} (h : SecR w sb n sc m) (hi : i < n) : SecR (w.setCells sb (i * 513) lostZ.toList) sb n sc (fun k => if k = i then none else m k) := by
  obtain ⟨h1, h2, cur, h3, h4, h5⟩ := h
  have hn := Nat.mul_le_mul_right 513 h1
  obtain ⟨cur', g1, g2, g3⟩ := heap_setCells sb _ lostZ.toList (i * 513) w cur h3 (by rw [lostZ_len, h4]; omega)
  refine ⟨h1, h2, cur', g1, by rw [g2, h4], fun j hj => ?_⟩
  rw [g3 j, lostZ_len]
  by_cases c : i * 513 ≤ j ∧ j < i * 513 + 513
  · rw [if_pos c, lostZ_get (by omega)]
    unfold secF
    rw [show j / 513 = i by omega, show j % 513 = j - i * 513 by omega]
    by_cases c0 : j - i * 513 = 0
    · rw [if_pos c0, if_pos c0]; simp
    · rw [if_neg c0, if_neg c0]
      simp only [if_pos, Option.getD_none]
      rw [zsec_getD]
  · rw [if_neg c, h5 j hj, secF_other _ _ _ (by omega)]
theorem medF_keep {tb sb I cc : Nat} {ca : Option Addr} {Z : List ZW} {k : Nat} (h : MedF tb sb (caV ca (keepZ I Z) cc) (keepZ I Z) k) : MedF tb sb (caV ca Z cc) Z k := by
  rcases h with h | h | h | ⟨z, hz, e⟩
  · exact .inl h
  · exact .inr (.inl h)
  · refine .inr (.inr (.inl ?_))
    cases ca with
    | none => cases h
    | some ad => exact h
  · exact .inr (.inr (.inr ⟨z, keepZ_sub hz, e⟩))
set_option maxHeartbeats 2000000 in
theorem drop_med {tb : Nat} {S : MS} {pp : Option Nat} {sb sc : Nat} {ca : Option Addr} {cc : Nat} {Z : List ZW} (I : Nat) (w : World) (h : MedX w tb S pp sb sc ca cc Z) (hcl : Z.length ≤ 1000) :
    Calls Try.prog 51 #[tbV tb, .int .i64 (I : Nat)] w fun e w' => e = .returned (.tuple #[]) ∧ MedX w' tb ⟨S.size, S.med, S.cache.filter (fun x => x.1 != I), S.down⟩ pp sb sc ca cc (keepZ I Z) ∧ KB (fun k => MedF tb sb (caV ca Z cc) Z k) w w' := by
  have hba : Below w.heap.size w (w.alloc (.cells #[.int .i64 (I : Nat)] 3)) := (Below.refl _ _).alloc (Nat.le_refl _) _
  have hx1 := h.on hba
  have HDEL := Lib.hid (del_any ca cc Z w.heap.size I (w.alloc (.cells #[.int .i64 (I : Nat)] 3)) hx1.row (heap_alloc_new w _) hcl)
  have hc1 := h.md.c1
  have hd1 := hx1.md.c1
  have HX := Lib.hid h
  have HX1 := Lib.hid hx1
  have HBA := Lib.hid hba
  obtain ⟨N, hN⟩ : ∃ N, N = Z.length := ⟨_, rfl⟩
  have HCV := Lib.hid (show Value.slice ca N cc = caV ca Z cc by rw [hN])
  obtain ⟨KN, hKN⟩ : ∃ KN, KN = (keepZ I Z).length := ⟨_, rfl⟩
  have HCK := Lib.hid (show Value.slice ca KN cc = caV ca (keepZ I Z) cc by rw [hKN])
  rw [← HCV.out] at hc1 hd1 HDEL
  rw [← HCK.out] at HDEL
  clear h hcl hba hx1 hN hKN
  go_enter Try.func51, Try.ntmps51
  go_wp2_with (go_at_call 71; go_loud (refine HDEL.out.mono ?_; rintro e w2 ⟨rfl, hr2, hk2⟩; have hm2 := HX1.out.md.same (hk2.2 tb (blk_lt HX1.out.md) (fun e => (HX1.out.ne_sb.2.1 tb (by rw [← HCV.out]; exact e)).1 rfl)); have he1 := hm2.c1; have hf1 := hm2.free 1; have HM2 := Lib.hid hm2; have HR2 := Lib.hid hr2; have HK2 := Lib.hid hk2; clear hm2 hr2 hk2))
  go_end0
  have hne := HX1.out.ne_sb
  have hst : ∀ k, k < (w.alloc (.cells #[.int .i64 (I : Nat)] 3)).heap.size → k ≠ tb → (Value.slice ca N cc).ownBlock ≠ some k → (w2.setCell ⟨tb, 1, none⟩ (.slice ca KN cc)).heap[k]? = (w.alloc (.cells #[.int .i64 (I : Nat)] 3)).heap[k]? := fun k hk h1 h2 => (heap_setCell_other w2 ⟨tb, 1, none⟩ k _ h1).trans (HK2.out.2 k hk h2)
  have hown : ∀ g, (Value.slice ca KN cc).ownBlock = some g → g ≠ tb := fun g e => by
    rw [HCK.out] at e
    refine (hne.2.1 g ?_).1
    cases ca with
    | none => cases e
    | some ad => exact e
  refine ⟨rfl, ⟨?_, ?_, ?_, ?_, ?_⟩, ?_⟩
  · show S.cache.filter _ = _
    rw [keepZ_fst, HX.out.cache]
  · rw [← HCK.out]; exact HM2.out.set1 _
  · exact HX1.out.sec.same (hst sb HX1.out.sec.lt (Ne.symm hne.1) (fun e => (hne.2.1 sb (by rw [← HCV.out]; exact e)).2 rfl))
  · rw [← HCK.out]
    exact own_blockT HR2.out (fun g e => heap_setCell_other w2 ⟨tb, 1, none⟩ g _ (hown g e))
  · intro z hz
    obtain ⟨d1, d2, d3⟩ := HX1.out.dat z (keepZ_sub hz)
    exact ⟨d1, d2, own_blockT d3 (fun g e => hst g (own_lt d3 e).2 (hne.2.2 z (keepZ_sub hz) g e).1 (by rw [HCV.out]; exact (hne.2.2 z (keepZ_sub hz) g e).2.2))⟩
  · exact ((KB.of_below HBA.out).trans (HK2.out.monoF (fun j e => .inr (.inr (.inl (by rw [← HCV.out]; exact e)))))).trans ((KB.of_set w2 tb 1 _).monoF (fun j e => .inl e))
set_option maxHeartbeats 4000000 in
theorem lose_any (tb : Nat) (F : Nat → Prop) (S : MS) (pp : Option Nat) (i l : Int) (u : Nat) (w : World) (hR : MedR w tb F S pp) (hS : S.Ok) (hcl : S.cache.length ≤ 1000) (hi : i64R i) :
    Calls Try.prog 30 #[tbV tb, .int .i64 i] w fun e w' => ∃ F', e = .returned (.int .i64 (opLose S i l u).err) ∧ MedR w' tb F' (opLose S i l u).S pp ∧ KB F w w' ∧ (∀ k, F' k → F k ∨ w.heap.size ≤ k) := by
  have HR := Lib.hid hR
  obtain ⟨sb, sc, ca, cc, Z, h, hF⟩ := hR
  have HF := Lib.hid hF
  have hc0 := h.md.c0
  have hzl := h.len
  by_cases hin : inR S i
  case neg =>
    have HE := Lib.hid (show opLose S i l u = ⟨[], 2, S, l, u⟩ by unfold opLose; rw [if_pos hin])
    rw [HE.out]
    have HH := Lib.hid (medHas_no tb sb S.size sc i w hc0 hin)
    clear h hF hS hcl hi hzl hc0 hin
    go_enter Try.func30, Try.ntmps30
    go_wp2_with (go_at_call 50; go_loud (refine HH.out.mono ?_; rintro e w1 ⟨rfl, rfl⟩))
    go_ret
    exact ⟨F, rfl, HR.out, KB.refl _ _, fun k hk => .inl hk⟩
  case pos =>
    have HE := Lib.hid (show opLose S i l u = ⟨[], 0, S.set i.toNat none, l, u⟩ by unfold opLose; rw [if_neg (fun h => h hin)])
    rw [HE.out]
    have HH := Lib.hid (medHas_yes tb sb S.size sc i w hc0 hin.1 hin.2)
    obtain ⟨I, rfl⟩ : ∃ I : Nat, i = (I : Int) := ⟨i.toNat, by have := hin.1; omega⟩
    rw [show (I : Int).toNat = I from rfl]
    have HDR := Lib.hid (drop_med I w h (by omega))
    have q1 : (I : Int) < (S.size : Int) := hin.2
    have q2 : (0 : Int) ≤ (I : Int) := hin.1
    have hs2 := hS.size2
    have HBD := Lib.hid built_sec
    have HSZ := Lib.hid (show (Try.prog.info? 99).map (·.size) = some lostZ.size by rw [lostZ_size]; exact size_sec)
    have H1 := Lib.hid lostZ_one
    have HLS := Lib.hid lostZ_size
    obtain ⟨LZ, hLZ⟩ : ∃ LZ, LZ = lostZ := ⟨_, rfl⟩
    rw [← hLZ] at HBD HSZ H1 HLS
    have HLZ := Lib.hid hLZ
    obtain ⟨n, hn⟩ : ∃ n, n = S.size := ⟨_, rfl⟩
    have HNS := Lib.hid hn
    rw [← hn] at q1 hs2 hc0
    clear h hF hS hcl hi hzl hc0 hin hLZ hn
    go_enter Try.func30, Try.ntmps30
    go_upto_region 6 with (first
      | (go_at_call 50; go_loud (refine HH.out.mono ?_; rintro e w1 ⟨rfl, rfl⟩))
      | (go_at_call 51; go_loud (refine HDR.out.mono ?_; rintro e w2 ⟨rfl, hx2, hk2⟩; have HX2 := Lib.hid hx2; have HK2 := Lib.hid hk2; clear hx2 hk2)))
    have hc0 := HX2.out.md.c0
    dsimp only at hc0
    rw [← HNS.out] at hc0
    have HTH := Lib.hid (show w2.there sb (I * 513) LZ.size from fun j hj => by
      rw [HLS.out] at hj
      refine ⟨?_, HX2.out.sec.free _⟩
      rw [HX2.out.sec.cell (show I * 513 + j < S.size * 513 by have := HNS.out; omega)]; rfl)
    go_wp2_with (first
      | ((with_reducible show wpList _ _ _ (⟨some 19, _, _, _, _, _⟩ :: _) _ _); go_loud (refine wpList_buildTo rfl 99 #[(0, .const (.bool true))] rfl (some 19) rfl LZ (by rw [Array.toList_map]; exact HBD.out) ?_))
      | ((with_reducible show wpList _ _ _ (⟨none, _, _, _, _, _⟩ :: _) _ _); go_loud (refine wpList_store_mid rfl 99 (.tmp 20) (.tmp 19) rfl sb (I * 513) LZ rfl rfl HTH.out HSZ.out H1.out ?_)))
    go_ret
    have hx := HX2.out
    have hne := hx.ne_sb
    have hls := hx.sec.lose (i := I) (show I < S.size by have := HNS.out; omega)
    rw [← HLZ.out] at hls
    have hkb := kb_setCells sb LZ.toList (I * 513) w2
    refine ⟨MedF tb sb (caV ca (keepZ I Z) cc) (keepZ I Z), rfl, ⟨sb, sc, ca, cc, keepZ I Z, ⟨hx.cache, hx.md.same (hkb.2 tb (blk_lt hx.md) hne.1), hls, own_blockT hx.row (fun g e => hkb.2 g (own_lt hx.row e).2 (hne.2.1 g e).2), hx.dat.same (fun g ⟨z, hz, e⟩ => hkb.2 g (own_lt (hx.dat z hz).2.2 e).2 (hne.2.2 z hz g e).2.1)⟩, fun k => Iff.rfl⟩, ?_, fun k hk => .inl ((HF.out k).2 (medF_keep hk))⟩
    exact (HK2.out.monoF (fun j e => (HF.out j).2 e)).trans (hkb.monoF (fun j e => (HF.out j).2 (.inr (.inl e))))
set_option maxHeartbeats 4000000 in
theorem spoil_med (tb : Nat) (F : Nat → Prop) (S : MS) (pp : Option Nat) (i l : Int) (u : Nat) (a : Option Addr) (n c : Nat) (b : List Int) (w : World) (hR : MedR w tb F S pp) (hS : S.Ok) (hcl : S.cache.length ≤ 1000) (hi : i64R i) (hx : Arg8c w a n c b) (ho : Off F a n) :
    Calls Try.prog 26 #[tbV tb, .int .i64 i, .slice a n c] w fun e w' => ∃ F', e = .returned (.int .i64 (opSpoil S i b l u).err) ∧ MedR w' tb F' (opSpoil S i b l u).S pp ∧ KB F w w' ∧ (∀ k, F' k → F k ∨ w.heap.size ≤ k) := by
  have HR := Lib.hid hR
  obtain ⟨sb, sc, ca, cc, Z, h, hF⟩ := hR
  have HF := Lib.hid hF
  have HA := Lib.hid hx
  have HOF := Lib.hid ho
  have hc0 := h.md.c0
  have hzl := h.len
  have hna := hx.1.2.2.2
  unfold maxLen at hna
  have hbl := hx.1.1
  clear hi hx ho
  by_cases hin : inR S i
  case neg =>
    have HE := Lib.hid (show opSpoil S i b l u = ⟨[], 2, S, l, u⟩ by unfold opSpoil; rw [if_pos hin])
    rw [HE.out]
    have HH := Lib.hid (medHas_no tb sb S.size sc i w hc0 hin)
    clear h hF hS hcl hzl hc0 hin
    go_enter Try.func26, Try.ntmps26
    go_wp2_with (go_at_call 50; go_loud (refine HH.out.mono ?_; rintro e w1 ⟨rfl, rfl⟩))
    go_ret
    exact ⟨F, rfl, HR.out, KB.refl _ _, fun k hk => .inl hk⟩
  case pos =>
    have HH := Lib.hid (medHas_yes tb sb S.size sc i w hc0 hin.1 hin.2)
    by_cases hb5 : n = 512
    case neg =>
      have HE := Lib.hid (show opSpoil S i b l u = ⟨[], 3, S, l, u⟩ by unfold opSpoil; rw [if_neg (fun h => h hin), if_pos (by omega)])
      rw [HE.out]
      have q1 : ¬ (n : Int) = 512 := by omega
      clear h hF hS hcl hzl hc0 hin hb5
      go_enter Try.func26, Try.ntmps26
      go_wp2_with (go_at_call 50; go_loud (refine HH.out.mono ?_; rintro e w1 ⟨rfl, rfl⟩))
      go_ret
      exact ⟨F, rfl, HR.out, KB.refl _ _, fun k hk => .inl hk⟩
    case pos =>
      subst hb5
      have HE := Lib.hid (show opSpoil S i b l u = ⟨[], 0, S.set i.toNat (some b), l, u⟩ by unfold opSpoil; rw [if_neg (fun h => h hin), if_neg (by omega)])
      rw [HE.out]
      obtain ⟨I, rfl⟩ : ∃ I : Nat, i = (I : Int) := ⟨i.toNat, by have := hin.1; omega⟩
      rw [show (I : Int).toNat = I from rfl]
      have HDR := Lib.hid (drop_med I w h (by omega))
      have HI := Lib.hid (show I < S.size by have := hin.2; omega)
      have HS2 := Lib.hid hS.size2
      clear h hF hS hcl hzl hc0 hin
      go_enter Try.func26, Try.ntmps26
      go_upto_region 8 with (first
        | (go_at_call 50; go_loud (refine HH.out.mono ?_; rintro e w1 ⟨rfl, rfl⟩))
        | (go_at_call 51; go_loud (refine HDR.out.mono ?_; rintro e w2 ⟨rfl, hx2, hk2⟩; have HX2 := Lib.hid hx2; have HK2 := Lib.hid hk2; clear hx2 hk2)))
      have hlow : ∀ bb o, a = some ⟨bb, o, none⟩ → bb < w.heap.size := fun bb o e => by
        obtain ⟨b', off', e', hb', _⟩ := HA.out.1.2.2.1 (by rw [hbl]; omega)
        rw [e] at e'; cases e'; exact hb'
      have hAw := HA.out.blockT (fun h0 bb o e => HK2.out.2 bb (hlow bb o e) (fun e2 => HOF.out h0 bb o e ((HF.out bb).2 e2)))
      have HLAND := Lib.hid (land_med I a c b w2 HX2.out HS2.out HI.out hAw.1 (fun bb o e e2 => HOF.out (by omega) bb o e ((HF.out bb).2 (.inr (.inl e2)))))
      clear hAw hlow
      go_wp2_with (go_at_call 33; go_loud (refine HLAND.out.mono ?_; rintro e w3 ⟨rfl, hx3, hk3⟩; have HX3 := Lib.hid hx3; have HK3 := Lib.hid hk3; clear hx3 hk3))
      go_ret
      refine ⟨MedF tb sb (caV ca (keepZ I Z) cc) (keepZ I Z), rfl, ⟨sb, sc, ca, cc, keepZ I Z, HX3.out, fun k => Iff.rfl⟩, ?_, fun k hk => .inl ((HF.out k).2 (medF_keep hk))⟩
      exact (HK2.out.monoF (fun j e => (HF.out j).2 e)).trans (HK3.out.monoF (fun j e => (HF.out j).2 (.inr (.inl e))))
end Go.Proofs.Ytkfdcdfaikkneaa
