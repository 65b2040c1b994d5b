/- The document's medium: Set, Cache. -/
import Derived.Test.YtoonaendakjecaaUs
namespace Go.Proofs.Ytoonaendakjecaa
open Go.ChangeShapes Go.WideShapes Go.ChangeAt Go.RowKit Go.Shelf
set_option linter.unusedVariables false
set_option linter.unusedSimpArgs false
set_option maxRecDepth 100000

theorem filt_takeE (p : EV → Bool) {L : List EV} {k : Nat} {x : EV} (h : L[k]? = some x) : (L.take (k + 1)).filter p = if p x = true then (L.take k).filter p ++ [x] else (L.take k).filter p := by
  rw [take_nextE h, List.filter_append]
  by_cases e : p x = true
  · rw [if_pos e]; simp [e]
  · rw [if_neg e]; simp [e]
theorem filt_len (p : EV → Bool) (L : List EV) (k : Nat) : ((L.take k).filter p).length ≤ L.length :=
  Nat.le_trans (List.length_filter_le _ _) (by rw [List.length_take]; omega)
abbrev OneE (w wr : World) (go no co : Nat) (Lo : List EV) : Prop := wr.ownsRow w.heap.size 61 3 (.slice (some ⟨go, 0, none⟩) no co) no (evC Lo)
theorem own_moreE {w w' : World} {g' no cap : Nat} {Lo : List EV} {x : EV} (ho : w'.ownsRow w.heap.size 61 3 (.slice (some ⟨g', 0, none⟩) (no + 1) cap) (no + 1) (evC Lo ++ evV x)) : OneE w w' g' (no + 1) cap (Lo ++ [x]) := by
  unfold OneE
  rw [evC_append, evC_one]; exact ho
set_option maxHeartbeats 8000000 in
theorem refSet_any (w : World) (mb : Nat) (G : Nat → Prop) (qb : Nat) (S : MS) (L : List EV) (a : Option Addr) (c : Nat) (l : Int) (u j : Nat) (i : Nat) (b : List Int) (h : RS w mb G qb S L a c l u j) (hj : j ≤ 900) (hi : i < S.size) (hb : b = [] ∨ secOk b) :
    Calls Try.prog 41 #[pV mb, .int .i64 (i : Nat), .string (strOfNums b)] w fun e w' => e = .returned (.tuple #[]) ∧ RSN w mb G qb ⟨[], 0, S.set i (if b = [] then none else some b), l, u⟩ j w' := by
  have H := Lib.hid h
  have HB := Lib.hid hb
  have HSB := Lib.hid (show ∀ b', (if b = [] then none else some b) = some b' → secOk b' from fun b' e => by
    by_cases hn : b = []
    · rw [if_pos hn] at e; cases e
    · rw [if_neg hn] at e; cases e; rcases hb with h | h
      · exact absurd h hn
      · exact h)
  obtain ⟨N, hN⟩ : ∃ N, N = L.length := ⟨_, rfl⟩
  have HN := Lib.hid hN
  have hL : N ≤ 900 := by rw [hN]; have := h.few.1; omega
  have hi2 : i ≤ 2048 := by have := h.ok.size2; omega
  have hb2 : Below w.heap.size w (w.alloc (.cells #[] 61)) := (Below.refl _ w).alloc (Nat.le_refl _) _
  have hc1 := (hb2.cell (p := ⟨mb, 1, none⟩) (heap_lt h.m)).trans h.m.c1
  rw [← hN] at hc1
  have HB2 := Lib.hid hb2
  have HT0 := Lib.hid (show OneE w (w.alloc (.cells #[] 61)) w.heap.size 0 0 [] from own_emptyE w w.heap.size (Nat.le_refl _))
  have HROW := Lib.hid (show w.ownsRow 0 61 3 (.slice a N c) N (evC L) from by rw [hN]; exact h.row)
  obtain ⟨S', hS'⟩ : ∃ S', S' = S.set i (if b = [] then none else some b) := ⟨_, rfl⟩
  rw [← hS']
  have HS := Lib.hid hS'
  obtain ⟨XB, hXB⟩ : ∃ XB, XB = strOfNums b := ⟨_, rfl⟩
  rw [← hXB]
  have HXB := Lib.hid hXB
  clear h hN hb2 hS' hXB hb hi
  go_enter Try.func41, Try.ntmps41
  go_wp2_with fail
  clear hc1
  generalize w.alloc (.cells #[] 61) = w2 at HB2 HT0 ⊢
  go_loopw [15, 6] (fun q vo wr => ∃ (k go co : Nat), k ≤ N ∧ q = .int .i64 (k : Nat) ∧ vo = .slice (some ⟨go, 0, none⟩) ((L.take k).filter (keepE i)).length co ∧
    OneE w wr go ((L.take k).filter (keepE i)).length co ((L.take k).filter (keepE i)) ∧ Below w.heap.size w wr) (fun q _ _ => N - (intOf q).toNat)
  case atStart => exact ⟨0, w.heap.size, 0, Nat.zero_le _, rfl, rfl, HT0.out, HB2.out⟩
  case round =>
    obtain ⟨k, go, co, hkN, rfl, rfl, htw, hbel⟩ := hrel
    rename World => V
    have HTV := Lib.hid htw
    have HBV := Lib.hid hbel
    clear htw hbel HT0 HB2
    obtain ⟨Lo, hLo⟩ : ∃ Lo, Lo = (L.take k).filter (keepE i) := ⟨_, rfl⟩
    have HBD := Lib.hid (show Lo.length ≤ 1000 from by
      have h1 := filt_len (keepE i) L k
      rw [hLo]
      rw [← HN.out] at h1
      omega)
    have HLo := Lib.hid hLo
    rw [← hLo] at HTV ⊢
    clear hLo
    obtain ⟨no, hno⟩ : ∃ no, no = Lo.length := ⟨_, rfl⟩
    rw [← hno] at HTV
    rw [← hno] at HBD ⊢
    have Hno := Lib.hid hno
    have b1 := HBD.out
    clear hno
    by_cases hlt : k < N
    · as_aux_lemma =>
        have HKT := Lib.hid hlt
        obtain ⟨x, hx⟩ : ∃ x, L[k]? = some x := ⟨_, List.getElem?_eq_getElem (by rw [← HN.out]; exact hlt)⟩
        have HOV := Lib.hid (own_belowU HROW.out HBV.out)
        obtain ⟨g, rfl⟩ := own_someT2 HOV.out (by omega)
        obtain ⟨k0, k1, k2⟩ := evC_get L k x hx
        have hc0 := HOV.out.cellAt (k * 3) (by omega)
        have hc1 := HOV.out.cellAt (k * 3 + 1) (by omega)
        have hc2 := HOV.out.cellAt (k * 3 + 2) (by omega)
        rw [k0] at hc0
        rw [k1] at hc1
        rw [k2] at hc2
        have HST := Lib.hid (filt_takeE (keepE i) hx)
        have qk : (k : Int) < (N : Int) := by omega
        obtain ⟨x1, x2, x3⟩ := x
        dsimp only at hc0 hc1 hc2 HST
        rw [← HLo.out] at HST
        obtain ⟨XS, hXS⟩ : ∃ XS, XS = strOfNums x2 := ⟨_, rfl⟩
        have HXS := Lib.hid hXS
        rw [← hXS] at hc1
        have hb1 : Below V.heap.size V (V.alloc (.cells #[.int .i64 (x1 : Nat), .string XS, .bool x3] 61)) := (Below.refl _ _).alloc (Nat.le_refl _) _
        have HBA := Lib.hid (HBV.out.trans (hb1.mono HBV.out.size))
        have HTA := Lib.hid (own_belowU HTV.out hb1)
        obtain ⟨iT, hi1, hz0, hz1, hz2⟩ := info_parts infoEv
        have HI := Lib.hid (And.intro hi1 (And.intro hz0 (And.intro hz1 hz2)))
        have HVS := Lib.hid (show w.heap.size ≤ V.heap.size from HBV.out.size)
        clear hlt hx k0 k1 k2 hXS hb1 hi1 hz0 hz1 hz2
        cases x3
        · by_cases hs : x1 = i
          · have z1 : ((x1 : Int) != (i : Int)) = false := by simp [hs]
            rw [if_neg (by unfold keepE isSure; simp [hs])] at HST
            clear hs
            go_wp2_with fail
            go_roundw
            case rel => exact ⟨k + 1, go, co, HKT.out, by go_num, by rw [HST.out, ← Hno.out], by rw [HST.out, ← Hno.out]; exact HTA.out, HBA.out⟩
            case measure => simp [intOf]; have := HKT.out; omega
          · have z1 : ((x1 : Int) != (i : Int)) = true := by rw [bne_iff_ne]; omega
            rw [if_pos (by unfold keepE; simp [hs])] at HST
            clear hs
            have HNW := Lib.hid (show ∀ (jj : Nat) (uu : Value), [Value.int .i64 (x1 : Nat), .string XS, .bool false][jj]? = some uu → ((V.alloc (.cells #[.int .i64 (x1 : Nat), .string XS, .bool false] 61)).alloc (.cells #[.int .i64 (x1 : Nat), .string XS, .bool false] 61)).cell? ((⟨V.heap.size + 1, 0, none⟩ : Addr).add jj) = some uu from by
              have hh := heap_alloc_new (V.alloc (.cells #[.int .i64 (x1 : Nat), .string XS, .bool false] 61)) (.cells #[.int .i64 (x1 : Nat), .string XS, .bool false] 61)
              rw [size_alloc1] at hh
              exact World.news_of_block hh)
            have HBA2 := Lib.hid (HBA.out.alloc HBA.out.size (.cells #[.int .i64 (x1 : Nat), .string XS, .bool false] 61))
            go_wp2_with ((with_reducible show wpList _ _ _ (⟨some 30, _, _, _, _, _⟩ :: _) _ _); go_loud (refine wpList_append_lies _ rfl (.tmp 27) (.tmp 29) 52 rfl w.heap.size 61 iT (.agg #[.int .i64 0, .string ByteArray.empty, .bool false]) 3 32 Try.underlying52 HI.out.1 HI.out.2.1 HI.out.2.2.1 HI.out.2.2.2 rfl (by decide) (.slice (some ⟨go, 0, none⟩) no co) no (evC Lo) rfl (HTA.out.alloc _) ⟨V.heap.size + 1, 0, none⟩ 1 1 [.int .i64 (x1 : Nat), .string XS, .bool false] rfl rfl HNW.out (by simp [Value.oneCell']) (by omega) (by unfold maxLen; omega) (by omega) (by have := HVS.out; simp; omega) (V.heap.size + 1 + 1) (by simp) ?_; intro g' cap w7 ho7 hg7 ha7 hl7; have HG7 := Lib.hid (own_moreE (x := (x1, x2, false)) (by unfold evV; rw [← HXS.out]; exact ho7)); have HB7 := Lib.hid (show Below w.heap.size w w7 from HBA2.out.grown hg7 (by have := HVS.out; simp; omega) (fun k' e => by cases e; exact (own_lt HTA.out rfl).1)); clear ho7 hg7 ha7 hl7))
            go_roundw
            case rel => exact ⟨k + 1, g', cap, HKT.out, by go_num, by rw [HST.out, List.length_append, ← Hno.out]; rfl, by rw [HST.out, List.length_append, ← Hno.out]; exact HG7.out, HB7.out⟩
            case measure => simp [intOf]; have := HKT.out; omega
        · rw [if_pos (show keepE i (x1, x2, true) = true from rfl)] at HST
          have HNW := Lib.hid (show ∀ (jj : Nat) (uu : Value), [Value.int .i64 (x1 : Nat), .string XS, .bool true][jj]? = some uu → ((V.alloc (.cells #[.int .i64 (x1 : Nat), .string XS, .bool true] 61)).alloc (.cells #[.int .i64 (x1 : Nat), .string XS, .bool true] 61)).cell? ((⟨V.heap.size + 1, 0, none⟩ : Addr).add jj) = some uu from by
            have hh := heap_alloc_new (V.alloc (.cells #[.int .i64 (x1 : Nat), .string XS, .bool true] 61)) (.cells #[.int .i64 (x1 : Nat), .string XS, .bool true] 61)
            rw [size_alloc1] at hh
            exact World.news_of_block hh)
          have HBA2 := Lib.hid (HBA.out.alloc HBA.out.size (.cells #[.int .i64 (x1 : Nat), .string XS, .bool true] 61))
          go_wp2_with ((with_reducible show wpList _ _ _ (⟨some 30, _, _, _, _, _⟩ :: _) _ _); go_loud (refine wpList_append_lies _ rfl (.tmp 27) (.tmp 29) 52 rfl w.heap.size 61 iT (.agg #[.int .i64 0, .string ByteArray.empty, .bool false]) 3 32 Try.underlying52 HI.out.1 HI.out.2.1 HI.out.2.2.1 HI.out.2.2.2 rfl (by decide) (.slice (some ⟨go, 0, none⟩) no co) no (evC Lo) rfl (HTA.out.alloc _) ⟨V.heap.size + 1, 0, none⟩ 1 1 [.int .i64 (x1 : Nat), .string XS, .bool true] rfl rfl HNW.out (by simp [Value.oneCell']) (by omega) (by unfold maxLen; omega) (by omega) (by have := HVS.out; simp; omega) (V.heap.size + 1 + 1) (by simp) ?_; intro g' cap w7 ho7 hg7 ha7 hl7; have HG7 := Lib.hid (own_moreE (x := (x1, x2, true)) (by unfold evV; rw [← HXS.out]; exact ho7)); have HB7 := Lib.hid (show Below w.heap.size w w7 from HBA2.out.grown hg7 (by have := HVS.out; simp; omega) (fun k' e => by cases e; exact (own_lt HTA.out rfl).1)); clear ho7 hg7 ha7 hl7))
          go_roundw
          case rel => exact ⟨k + 1, g', cap, HKT.out, by go_num, by rw [HST.out, List.length_append, ← Hno.out]; rfl, by rw [HST.out, List.length_append, ← Hno.out]; exact HG7.out, HB7.out⟩
          case measure => simp [intOf]; have := HKT.out; omega
    · as_aux_lemma =>
        obtain rfl : k = N := by omega
        have HM2 := Lib.hid (show RMc V mb S.size (.slice a L.length c) S.down ∧ RPc V qb l u from ⟨(HBV.out.block mb (heap_lt H.out.m)).trans H.out.m, (HBV.out.block qb (heap_lt H.out.p)).trans H.out.p⟩)
        have HTK := Lib.hid (show L.take k = L from by rw [HN.out]; exact List.take_length ..)
        have HVS := Lib.hid (show w.heap.size ≤ V.heap.size from HBV.out.size)
        have HMB := Lib.hid (show mb < w.heap.size ∧ qb < w.heap.size from ⟨heap_lt H.out.m, heap_lt H.out.p⟩)
        obtain ⟨iT, hi1, hz0, hz1, hz2⟩ := info_parts infoEv
        have HI := Lib.hid (And.intro hi1 (And.intro hz0 (And.intro hz1 hz2)))
        have HNW := Lib.hid (show ∀ (jj : Nat) (uu : Value), [Value.int .i64 (i : Nat), .string XB, .bool true][jj]? = some uu → (V.alloc (.cells #[.int .i64 (i : Nat), .string XB, .bool true] 61)).cell? ((⟨V.heap.size, 0, none⟩ : Addr).add jj) = some uu from World.news_of_block (heap_alloc_new V _))
        have HFIN := Lib.hid (show ∀ (W3 : World) (g' c' : Nat), W3.ownsRow w.heap.size 61 3 (.slice (some ⟨g', 0, none⟩) (no + 1) c') (no + 1) (evC Lo ++ [.int .i64 (i : Nat), .string XB, .bool true]) → (V.alloc (.cells #[.int .i64 (i : Nat), .string XB, .bool true] 61)).grownBy W3 (some go) → W3.cell? ⟨mb, 1, none⟩ = some (.slice a L.length c) ∧ W3.frozen? ⟨mb, 1, none⟩ = false ∧ RSN w mb G qb ⟨[], 0, S', l, u⟩ j (W3.setCell ⟨mb, 1, none⟩ (.slice (some ⟨g', 0, none⟩) (no + 1) c')) from fun W3 g' c' ho hg => by
          have hgo := own_lt HTV.out rfl
          have hB3 : Below w.heap.size w W3 := (HBV.out.alloc HVS.out _).grown hg (by have := HVS.out; simp; omega) (fun k' e => by cases e; exact hgo.1)
          have hm3 : RMc W3 mb S.size (.slice a L.length c) S.down := (hB3.block mb HMB.out.1).trans H.out.m
          have hp3 : RPc W3 qb l u := (hB3.block qb HMB.out.2).trans H.out.p
          have hlen : (Lo ++ [(i, b, true)]).length = no + 1 := by rw [List.length_append, Hno.out]; rfl
          refine ⟨hm3.c1, hm3.free 1, ?_⟩
          have hsim : Sim S' (Lo ++ [(i, b, true)]) := by
            rw [HS.out, HLo.out, HTK.out]
            exact H.out.sim.set i HB.out
          have hq := H.out.newRow (w3 := W3) (j := j) (S' := S') (L' := Lo ++ [(i, b, true)]) (a' := some ⟨g', 0, none⟩) (c' := c') (l' := l) (u' := u) (e := 0) (o := []) hm3 hp3 (by rw [hlen, evC_append, evC_one]; unfold evV; rw [← HXB.out]; exact own_low ho (Nat.zero_le _)) (KB.of_below hB3) (fun g e => by
            have h1 := (own_lt ho (by rw [← hlen]; exact e)).1
            have h2 := HMB.out
            exact ⟨by omega, by omega, .inr h1⟩) (by rw [HS.out]; rfl) (by rw [HS.out]; rfl) hsim (by rw [HS.out]; exact H.out.ok.set i HSB.out) H.out.left (by
              have h1 := filt_len (keepE i) L k
              have h3 := H.out.few.1
              rw [← HLo.out, ← Hno.out] at h1
              omega) (Nat.le_succ_of_le H.out.few.2)
          rw [hlen] at hq
          exact hq)
        clear hlt hkN hi1 hz0 hz1 hz2
        have hm2 := HM2.out.1.c1
        go_wp2_with ((with_reducible show wpList _ _ _ (⟨some 38, _, _, _, _, _⟩ :: _) _ _); go_loud (refine wpList_append_lies _ rfl (.tmp 33) (.tmp 37) 52 rfl w.heap.size 61 iT (.agg #[.int .i64 0, .string ByteArray.empty, .bool false]) 3 32 Try.underlying52 HI.out.1 HI.out.2.1 HI.out.2.2.1 HI.out.2.2.2 rfl (by decide) (.slice (some ⟨go, 0, none⟩) no co) no (evC Lo) rfl (HTV.out.alloc _) ⟨V.heap.size, 0, none⟩ 1 1 [.int .i64 (i : Nat), .string XB, .bool true] rfl rfl HNW.out (by simp [Value.oneCell']) (by omega) (by unfold maxLen; omega) (by omega) (by have := HVS.out; simp; omega) (V.heap.size + 1) (by simp) ?_; intro g7 c7 w7 ho7 hg7 ha7 hl7; obtain ⟨hc7, hf7, hr7⟩ := HFIN.out w7 g7 c7 ho7 hg7; have HR7 := Lib.hid hr7; clear hr7 ho7 hg7 ha7 hl7))
        go_end0
        exact ⟨rfl, HR7.out⟩
set_option maxHeartbeats 8000000 in
theorem refCache_any (w : World) (mb : Nat) (n : Nat) (dn : Bool) (L : List EV) (a : Option Addr) (c : Nat) (hm : RMc w mb n (.slice a L.length c) dn) (hrow : w.ownsRow 0 61 3 (.slice a L.length c) L.length (evC L)) (hL : L.length ≤ 1000) :
    Calls Try.prog 22 #[pV mb] w fun e w' => ∃ a' c', e = .returned (.slice a' (L.filter fun x => !isSure x).length c') ∧ w'.ownsRow w.heap.size 61 3 (.slice a' (L.filter fun x => !isSure x).length c') (L.filter fun x => !isSure x).length (evC (L.filter fun x => !isSure x)) ∧ Below w.heap.size w w' := by
  obtain ⟨N, hN⟩ : ∃ N, N = L.length := ⟨_, rfl⟩
  have HN := Lib.hid hN
  have hL : N ≤ 1000 := by rw [hN]; exact hL
  have hb2 : Below w.heap.size w (w.alloc (.cells #[] 61)) := (Below.refl _ w).alloc (Nat.le_refl _) _
  have hc1 := (hb2.cell (p := ⟨mb, 1, none⟩) (heap_lt hm)).trans hm.c1
  rw [← hN] at hc1
  have HB2 := Lib.hid hb2
  have HT0 := Lib.hid (show OneE w (w.alloc (.cells #[] 61)) w.heap.size 0 0 [] from own_emptyE w w.heap.size (Nat.le_refl _))
  have HROW := Lib.hid (show w.ownsRow 0 61 3 (.slice a N c) N (evC L) from by rw [hN]; exact hrow)
  clear hN hb2 hrow hm
  go_enter Try.func22, Try.ntmps22
  go_wp2_with fail
  clear hc1
  generalize w.alloc (.cells #[] 61) = w2 at HB2 HT0 ⊢
  go_loopw [12, 3] (fun q vo wr => ∃ (k go co : Nat), k ≤ N ∧ q = .int .i64 (k : Nat) ∧ vo = .slice (some ⟨go, 0, none⟩) ((L.take k).filter (fun x => !isSure x)).length co ∧
    OneE w wr go ((L.take k).filter (fun x => !isSure x)).length co ((L.take k).filter (fun x => !isSure x)) ∧ Below w.heap.size w wr) (fun q _ _ => N - (intOf q).toNat)
  case atStart => exact ⟨0, w.heap.size, 0, Nat.zero_le _, rfl, rfl, HT0.out, HB2.out⟩
  case round =>
    obtain ⟨k, go, co, hkN, rfl, rfl, htw, hbel⟩ := hrel
    rename World => V
    have HTV := Lib.hid htw
    have HBV := Lib.hid hbel
    clear htw hbel HT0 HB2
    obtain ⟨Lo, hLo⟩ : ∃ Lo, Lo = (L.take k).filter (fun x => !isSure x) := ⟨_, rfl⟩
    have HBD := Lib.hid (show Lo.length ≤ 1000 from by
      have h1 := filt_len (fun x => !isSure x) L k
      rw [hLo]
      rw [← HN.out] at h1
      omega)
    have HLo := Lib.hid hLo
    rw [← hLo] at HTV ⊢
    clear hLo
    obtain ⟨no, hno⟩ : ∃ no, no = Lo.length := ⟨_, rfl⟩
    rw [← hno] at HTV
    rw [← hno] at HBD ⊢
    have Hno := Lib.hid hno
    have b1 := HBD.out
    clear hno
    by_cases hlt : k < N
    · as_aux_lemma =>
        have HKT := Lib.hid hlt
        obtain ⟨x, hx⟩ : ∃ x, L[k]? = some x := ⟨_, List.getElem?_eq_getElem (by rw [← HN.out]; exact hlt)⟩
        have HOV := Lib.hid (own_belowU HROW.out HBV.out)
        obtain ⟨g, rfl⟩ := own_someT2 HOV.out (by omega)
        obtain ⟨k0, k1, k2⟩ := evC_get L k x hx
        have hc0 := HOV.out.cellAt (k * 3) (by omega)
        have hc1 := HOV.out.cellAt (k * 3 + 1) (by omega)
        have hc2 := HOV.out.cellAt (k * 3 + 2) (by omega)
        rw [k0] at hc0
        rw [k1] at hc1
        rw [k2] at hc2
        have HST := Lib.hid (filt_takeE (fun x => !isSure x) hx)
        have qk : (k : Int) < (N : Int) := by omega
        obtain ⟨x1, x2, x3⟩ := x
        dsimp only at hc0 hc1 hc2 HST
        rw [← HLo.out] at HST
        obtain ⟨XS, hXS⟩ : ∃ XS, XS = strOfNums x2 := ⟨_, rfl⟩
        have HXS := Lib.hid hXS
        rw [← hXS] at hc1
        have hb1 : Below V.heap.size V (V.alloc (.cells #[.int .i64 (x1 : Nat), .string XS, .bool x3] 61)) := (Below.refl _ _).alloc (Nat.le_refl _) _
        have HBA := Lib.hid (HBV.out.trans (hb1.mono HBV.out.size))
        have HTA := Lib.hid (own_belowU HTV.out hb1)
        obtain ⟨iT, hi1, hz0, hz1, hz2⟩ := info_parts infoEv
        have HI := Lib.hid (And.intro hi1 (And.intro hz0 (And.intro hz1 hz2)))
        have HVS := Lib.hid (show w.heap.size ≤ V.heap.size from HBV.out.size)
        clear hlt hx k0 k1 k2 hXS hb1 hi1 hz0 hz1 hz2
        cases x3
        · rw [if_pos (show (!isSure (x1, x2, false)) = true from rfl)] at HST
          have HNW := Lib.hid (show ∀ (jj : Nat) (uu : Value), [Value.int .i64 (x1 : Nat), .string XS, .bool false][jj]? = some uu → ((V.alloc (.cells #[.int .i64 (x1 : Nat), .string XS, .bool false] 61)).alloc (.cells #[.int .i64 (x1 : Nat), .string XS, .bool false] 61)).cell? ((⟨V.heap.size + 1, 0, none⟩ : Addr).add jj) = some uu from by
            have hh := heap_alloc_new (V.alloc (.cells #[.int .i64 (x1 : Nat), .string XS, .bool false] 61)) (.cells #[.int .i64 (x1 : Nat), .string XS, .bool false] 61)
            rw [size_alloc1] at hh
            exact World.news_of_block hh)
          have HBA2 := Lib.hid (HBA.out.alloc HBA.out.size (.cells #[.int .i64 (x1 : Nat), .string XS, .bool false] 61))
          go_wp2_with ((with_reducible show wpList _ _ _ (⟨some 22, _, _, _, _, _⟩ :: _) _ _); go_loud (refine wpList_append_lies _ rfl (.tmp 19) (.tmp 21) 52 rfl w.heap.size 61 iT (.agg #[.int .i64 0, .string ByteArray.empty, .bool false]) 3 32 Try.underlying52 HI.out.1 HI.out.2.1 HI.out.2.2.1 HI.out.2.2.2 rfl (by decide) (.slice (some ⟨go, 0, none⟩) no co) no (evC Lo) rfl (HTA.out.alloc _) ⟨V.heap.size + 1, 0, none⟩ 1 1 [.int .i64 (x1 : Nat), .string XS, .bool false] rfl rfl HNW.out (by simp [Value.oneCell']) (by omega) (by unfold maxLen; omega) (by omega) (by have := HVS.out; simp; omega) (V.heap.size + 1 + 1) (by simp) ?_; intro g' cap w7 ho7 hg7 ha7 hl7; have HG7 := Lib.hid (own_moreE (x := (x1, x2, false)) (by unfold evV; rw [← HXS.out]; exact ho7)); have HB7 := Lib.hid (show Below w.heap.size w w7 from HBA2.out.grown hg7 (by have := HVS.out; simp; omega) (fun k' e => by cases e; exact (own_lt HTA.out rfl).1)); clear ho7 hg7 ha7 hl7))
          go_roundw
          case rel => exact ⟨k + 1, g', cap, HKT.out, by go_num, by rw [HST.out, List.length_append, ← Hno.out]; rfl, by rw [HST.out, List.length_append, ← Hno.out]; exact HG7.out, HB7.out⟩
          case measure => simp [intOf]; have := HKT.out; omega
        · rw [if_neg (by unfold isSure; simp)] at HST
          go_wp2_with fail
          go_roundw
          case rel => exact ⟨k + 1, go, co, HKT.out, by go_num, by rw [HST.out, ← Hno.out], by rw [HST.out, ← Hno.out]; exact HTA.out, HBA.out⟩
          case measure => simp [intOf]; have := HKT.out; omega
    · as_aux_lemma =>
        obtain rfl : k = N := by omega
        have HTK := Lib.hid (show L.take k = L from by rw [HN.out]; exact List.take_length ..)
        clear hlt hkN
        go_wp2_with fail
        go_ret
        refine ⟨some ⟨go, 0, none⟩, co, by (first | rfl | (simp only [HTK.out]; rfl) | (rw [Hno.out, HLo.out, HTK.out]; rfl)), ?_, HBV.out⟩
        have := HTV.out
        unfold OneE at this
        rw [HLo.out, HTK.out] at this
        rw [Hno.out, HLo.out, HTK.out] at this
        exact this
end Go.Proofs.Ytoonaendakjecaa
