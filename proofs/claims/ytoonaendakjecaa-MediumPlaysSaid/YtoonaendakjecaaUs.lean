/- The document's medium: Crash. -/
import Derived.Test.YtoonaendakjecaaUr
namespace Go.Proofs.Ytoonaendakjecaa
open Go.ChangeShapes Go.WideShapes Go.ChangeAt Go.RowKit Go.Shelf
set_option linter.unusedVariables false
set_option linter.unusedSimpArgs false
set_option maxRecDepth 100000

theorem keptW_snoc (c : List CW) (y : CW) (k : List Bool) : keptW (c ++ [y]) k = if k.getD c.length false = true then keptW c k ++ [y] else keptW c k := by
  have h := keptW_take (c ++ [y]) k c.length (by simp)
  rw [List.take_of_length_le (by simp), List.take_left'  rfl, List.getElem_append_right (Nat.le_refl _)] at h
  simpa using h
/-- What stays of the first unsure ones. -/
def stayE (all : Bool) (c : List CW) (ks : List Bool) : List CW := if all then c else keptW c ks
theorem stayE_snoc (all : Bool) (c : List CW) (y : CW) (ks : List Bool) : stayE all (c ++ [y]) ks = if (all || ks.getD c.length false) = true then stayE all c ks ++ [y] else stayE all c ks := by
  cases all
  · show keptW (c ++ [y]) ks = _
    rw [keptW_snoc]; simp [stayE]
  · simp [stayE]
theorem lateE_snoc (c : List CW) (y : CW) : lateE (c ++ [y]) = lateE c ++ [(y.1, y.2, true)] := by simp [lateE]
theorem lateE_len (c : List CW) : (lateE c).length = c.length := by simp [lateE]
theorem cacE_take {L : List EV} {k : Nat} {x : EV} (h : L[k]? = some x) : cacE (L.take (k + 1)) = if x.2.2 = true then cacE (L.take k) else cacE (L.take k) ++ [(x.1, x.2.1)] := by
  rw [take_nextE h, cacE_app]
  obtain ⟨x1, x2, x3⟩ := x
  cases x3
  · rfl
  · rw [show cacE [(x1, x2, true)] = [] from rfl, List.append_nil]; rfl
theorem sure_take {L : List EV} {k : Nat} {x : EV} (h : L[k]? = some x) : (L.take (k + 1)).filter isSure = if x.2.2 = true then (L.take k).filter isSure ++ [x] else (L.take k).filter isSure := by
  rw [take_nextE h, List.filter_append]
  obtain ⟨x1, x2, x3⟩ := x
  cases x3
  · simp [isSure]
  · simp [isSure]
theorem stay_len (all : Bool) (c : List CW) (ks : List Bool) : (stayE all c ks).length ≤ c.length := by
  cases all
  · show (keptW c ks).length ≤ _
    induction c generalizing ks with
    | nil => exact Nat.le_refl _
    | cons x c ih =>
      cases ks with
      | nil => exact Nat.zero_le _
      | cons b ks =>
        rw [keptW]
        have := ih ks
        cases b
        · simp; omega
        · simp; omega
  · exact Nat.le_refl _
theorem filt_take (L : List EV) (k : Nat) : ((L.take k).filter isSure).length + (cacE (L.take k)).length ≤ L.length := by
  have h : ∀ l : List EV, (l.filter isSure).length + (cacE l).length = l.length := fun l => by
    induction l with
    | nil => rfl
    | cons x l ih =>
      obtain ⟨x1, x2, x3⟩ := x
      cases x3
      · have h1 : ((x1, x2, false) :: l).filter isSure = l.filter isSure := rfl
        have h2 : cacE ((x1, x2, false) :: l) = (x1, x2) :: cacE l := rfl
        rw [h1, h2, List.length_cons, List.length_cons]; omega
      · have h1 : ((x1, x2, true) :: l).filter isSure = (x1, x2, true) :: l.filter isSure := rfl
        have h2 : cacE ((x1, x2, true) :: l) = cacE l := rfl
        rw [h1, h2, List.length_cons, List.length_cons]; omega
  rw [h]; simp; omega
theorem own_emptyE (w : World) (b : Nat) (hb : b ≤ w.heap.size) : (w.alloc (.cells #[] 61)).ownsRow b 61 3 (.slice (some ⟨w.heap.size, 0, none⟩) 0 0) 0 (evC []) :=
  ⟨rfl, .inr ⟨w.heap.size, 0, #[], rfl, hb, heap_alloc_new w _, Nat.le_refl _, Nat.zero_le _, rfl, rfl⟩⟩
/-- Two rows in the making, each in a block of its own. -/
structure TwoE (w wr : World) (go gl no co nl cl : Nat) (Lo Ll : List EV) : Prop where
  o : wr.ownsRow w.heap.size 61 3 (.slice (some ⟨go, 0, none⟩) no co) no (evC Lo)
  l : wr.ownsRow w.heap.size 61 3 (.slice (some ⟨gl, 0, none⟩) nl cl) nl (evC Ll)
  ne : go ≠ gl
theorem TwoE.on {w wr w' : World} {go gl no co nl cl : Nat} {Lo Ll : List EV} (h : TwoE w wr go gl no co nl cl Lo Ll) (hb : Below wr.heap.size wr w') : TwoE w w' go gl no co nl cl Lo Ll := ⟨own_belowU h.o hb, own_belowU h.l hb, h.ne⟩
/-- One of the rows grows. -/
theorem TwoE.moreL {w wr wA w' : World} {go gl no co nl cl g' cap : Nat} {Lo Ll : List EV} {x : EV} (h : TwoE w wA go gl no co nl cl Lo Ll) (ho : w'.ownsRow w.heap.size 61 3 (.slice (some ⟨g', 0, none⟩) (nl + 1) cap) (nl + 1) (evC Ll ++ evV x)) (hg : wA.grownBy w' (some gl)) (ha : gl = g' ∨ wA.heap.size ≤ g') : TwoE w w' go g' no co (nl + 1) cap Lo (Ll ++ [x]) := by
  have hlt := own_lt h.o rfl
  refine ⟨own_blockT h.o (fun k e => by cases e; exact hg.block go hlt.2 (fun e => by cases e; exact h.ne rfl)), by rw [evC_append, evC_one]; exact ho, fun e => ?_⟩
  subst e
  rcases ha with h1 | h1
  · exact h.ne h1.symm
  · have : go < wA.heap.size := hlt.2; omega
theorem TwoE.moreO {w wr wA w' : World} {go gl no co nl cl g' cap : Nat} {Lo Ll : List EV} {x : EV} (h : TwoE w wA go gl no co nl cl Lo Ll) (ho : w'.ownsRow w.heap.size 61 3 (.slice (some ⟨g', 0, none⟩) (no + 1) cap) (no + 1) (evC Lo ++ evV x)) (hg : wA.grownBy w' (some go)) (ha : go = g' ∨ wA.heap.size ≤ g') : TwoE w w' g' gl (no + 1) cap nl cl (Lo ++ [x]) Ll := by
  have hlt := own_lt h.l rfl
  refine ⟨by rw [evC_append, evC_one]; exact ho, own_blockT h.l (fun k e => by cases e; exact hg.block gl hlt.2 (fun e => by cases e; exact h.ne rfl)), fun e => ?_⟩
  subst e
  rcases ha with h1 | h1
  · exact h.ne h1
  · have : g' < wA.heap.size := hlt.2; omega
set_option maxHeartbeats 8000000 in
theorem refCrash_any (w : World) (mb : Nat) (G : Nat → Prop) (qb : Nat) (S : MS) (L : List EV) (a : Option Addr) (c : Nat) (l : Int) (u j : Nat) (ka : Option Addr) (kn kc : Nat) (ks : List Bool) (all : Bool) (h : RS w mb G qb S L a c l u (j + 1)) (hj : j ≤ 900) (hk : ArgB w ka kn kc ks) :
    Calls Try.prog 40 #[pV mb, .slice ka kn kc, .bool all] w fun e w' => e = .returned (.tuple #[]) ∧ RSN w mb G qb ⟨[], 0, if all then S.flush else S.crash ks, l, u⟩ j w' := by
  have H := Lib.hid h
  have HK := Lib.hid hk
  have hkc := hk.bd
  obtain ⟨N, hN⟩ : ∃ N, N = L.length := ⟨_, rfl⟩
  have HN := Lib.hid hN
  have hL : N ≤ 901 := by rw [hN]; have := h.few.1; omega
  have hmw := h.m.c1
  have hb2 : Below w.heap.size w ((w.alloc (.cells #[] 61)).alloc (.cells #[] 61)) := ((Below.refl _ w).alloc (Nat.le_refl _) _).alloc (by simp) _
  have hc1 := (hb2.cell (p := ⟨mb, 1, none⟩) (heap_lt h.m)).trans h.m.c1
  rw [← hN] at hc1
  have HB2 := Lib.hid hb2
  have HT0 := Lib.hid (show TwoE w ((w.alloc (.cells #[] 61)).alloc (.cells #[] 61)) w.heap.size (w.heap.size + 1) 0 0 0 0 [] [] from by
    refine ⟨(own_emptyE w w.heap.size (Nat.le_refl _)).alloc _, ?_, by omega⟩
    have h2 := own_emptyE (w.alloc (.cells #[] 61)) w.heap.size (by simp)
    rw [size_alloc1] at h2
    exact h2)
  have HROW := Lib.hid (show w.ownsRow 0 61 3 (.slice a N c) N (evC L) from by rw [hN]; exact h.row)
  obtain ⟨S', hS'⟩ : ∃ S', S' = if all then S.flush else S.crash ks := ⟨_, rfl⟩
  rw [← hS']
  have HS := Lib.hid hS'
  clear h hk hN hb2 hmw hS'
  go_enter Try.func40, Try.ntmps40
  go_wp2_with fail
  clear hc1
  generalize (w.alloc (.cells #[] 61)).alloc (.cells #[] 61) = w2 at HB2 HT0 ⊢
  go_loopw [18, 6, 7, 8] (fun q vo vl vn wr => ∃ (k go co gl cl : Nat), k ≤ N ∧ q = .int .i64 (k : Nat) ∧ vo = .slice (some ⟨go, 0, none⟩) ((L.take k).filter isSure).length co ∧ vl = .slice (some ⟨gl, 0, none⟩) (lateE (stayE all (cacE (L.take k)) ks)).length cl ∧ vn = .int .i64 ((cacE (L.take k)).length : Nat) ∧
    TwoE w wr go gl ((L.take k).filter isSure).length co (lateE (stayE all (cacE (L.take k)) ks)).length cl ((L.take k).filter isSure) (lateE (stayE all (cacE (L.take k)) ks)) ∧ Below w.heap.size w wr) (fun q _ _ _ _ => N - (intOf q).toNat)
  case atStart =>
    have e0 : stayE all (cacE (L.take 0)) ks = [] := by cases all <;> rfl
    exact ⟨0, w.heap.size, 0, w.heap.size + 1, 0, Nat.zero_le _, rfl, rfl, by rw [e0]; rfl, rfl, by rw [e0]; exact HT0.out, HB2.out⟩
  case round =>
    obtain ⟨k, go, co, gl, cl, hkN, rfl, rfl, rfl, rfl, htw, hbel⟩ := hrel
    rename World => V
    have HTV := Lib.hid htw
    have HBV := Lib.hid hbel
    clear htw hbel HT0 HB2
    obtain ⟨Lo, hLo⟩ : ∃ Lo, Lo = (L.take k).filter isSure := ⟨_, rfl⟩
    obtain ⟨cc, hcc⟩ : ∃ cc, cc = cacE (L.take k) := ⟨_, rfl⟩
    obtain ⟨Ll, hLl⟩ : ∃ Ll, Ll = lateE (stayE all cc ks) := ⟨_, rfl⟩
    have HBD := Lib.hid (show Lo.length ≤ 901 ∧ cc.length ≤ 901 ∧ Ll.length ≤ 901 from by
      have h1 := filt_take L k
      have h2 := stay_len all cc ks
      rw [hLl, lateE_len]
      rw [hLo, hcc]
      rw [hcc] at h2
      rw [← HN.out] at h1
      omega)
    have HLo := Lib.hid hLo
    have Hcc := Lib.hid hcc
    have HLl := Lib.hid hLl
    rw [← hcc] at HTV ⊢
    rw [← hLo, ← hLl] at HTV ⊢
    clear hLo hcc hLl
    obtain ⟨no, hno⟩ : ∃ no, no = Lo.length := ⟨_, rfl⟩
    obtain ⟨nl, hnl⟩ : ∃ nl, nl = Ll.length := ⟨_, rfl⟩
    obtain ⟨nc, hnc⟩ : ∃ nc, nc = cc.length := ⟨_, rfl⟩
    rw [← hno, ← hnl] at HTV
    rw [← hno, ← hnl, ← hnc] at HBD ⊢
    have Hno := Lib.hid hno
    have Hnl := Lib.hid hnl
    have Hnc := Lib.hid hnc
    obtain ⟨b1, b2, b3⟩ := HBD.out
    clear hno hnl hnc
    by_cases hlt : k < N
    · as_aux_lemma =>
        have HKT := Lib.hid hlt
        obtain ⟨x, hx⟩ : ∃ x, L[k]? = some x := ⟨_, List.getElem?_eq_getElem (by rw [← HN.out]; exact hlt)⟩
        have HOV := Lib.hid (own_belowU HROW.out HBV.out)
        obtain ⟨g, rfl⟩ := own_someT2 HOV.out (by omega)
        obtain ⟨k0, k1, k2⟩ := evC_get L k x hx
        have hc0 := HOV.out.cellAt (k * 3) (by omega)
        have hc1 := HOV.out.cellAt (k * 3 + 1) (by omega)
        have hc2 := HOV.out.cellAt (k * 3 + 2) (by omega)
        rw [k0] at hc0
        rw [k1] at hc1
        rw [k2] at hc2
        have HCT := Lib.hid (cacE_take hx)
        have HST := Lib.hid (sure_take hx)
        have qk : (k : Int) < (N : Int) := by omega
        obtain ⟨x1, x2, x3⟩ := x
        dsimp only at hc0 hc1 hc2 HCT HST
        rw [← Hcc.out] at HCT
        rw [← HLo.out] at HST
        obtain ⟨XS, hXS⟩ : ∃ XS, XS = strOfNums x2 := ⟨_, rfl⟩
        have HXS := Lib.hid hXS
        rw [← hXS] at hc1
        have hb1 : Below V.heap.size V (V.alloc (.cells #[.int .i64 (x1 : Nat), .string XS, .bool x3] 61)) := (Below.refl _ _).alloc (Nat.le_refl _) _
        have HBA := Lib.hid (HBV.out.trans (hb1.mono HBV.out.size))
        have HTA := Lib.hid (HTV.out.on hb1)
        have HKV := Lib.hid ((HK.out.on HBV.out).on hb1)
        obtain ⟨iT, hi1, hz0, hz1, hz2⟩ := info_parts infoEv
        have HI := Lib.hid (And.intro hi1 (And.intro hz0 (And.intro hz1 hz2)))
        have HVS := Lib.hid (show w.heap.size ≤ V.heap.size from HBV.out.size)
        clear hlt hx k0 k1 k2 hXS hb1 hi1 hz0 hz1 hz2
        cases x3
        · rw [if_neg (by simp)] at HCT HST
          have HSN := Lib.hid (stayE_snoc all cc (x1, x2) ks)
          rw [← Hnc.out] at HSN
          have HDO := Lib.hid (show ∀ (b : Bool), (all || ks.getD nc false) = b → lateE (stayE all (cacE (L.take (k + 1))) ks) = if b = true then Ll ++ [(x1, x2, true)] else Ll from fun b hb => by
            rw [HCT.out, HSN.out, hb, HLl.out]
            cases b
            · rw [if_neg (by simp), if_neg (by simp)]
            · rw [if_pos rfl, if_pos rfl, lateE_snoc])
          have hcase : (all = true) ∨ (all = false ∧ kn ≤ nc) ∨ (all = false ∧ nc < kn ∧ ks.getD nc false = false) ∨ (all = false ∧ nc < kn ∧ ks.getD nc false = true) := by
            cases all
            · right
              rcases Nat.lt_or_ge nc kn with h1 | h1
              · by_cases h2 : ks.getD nc false = true
                · exact .inr (.inr ⟨rfl, h1, h2⟩)
                · exact .inr (.inl ⟨rfl, h1, by simpa using h2⟩)
              · exact .inl ⟨rfl, h1⟩
            · exact .inl rfl
          have HNW := Lib.hid (show ∀ (jj : Nat) (uu : Value), [Value.int .i64 (x1 : Nat), .string XS, .bool true][jj]? = some uu → ((V.alloc (.cells #[.int .i64 (x1 : Nat), .string XS, .bool false] 61)).alloc (.cells #[.int .i64 (x1 : Nat), .string XS, .bool true] 61)).cell? ((⟨V.heap.size + 1, 0, none⟩ : Addr).add jj) = some uu from by
            have hh := heap_alloc_new (V.alloc (.cells #[.int .i64 (x1 : Nat), .string XS, .bool false] 61)) (.cells #[.int .i64 (x1 : Nat), .string XS, .bool true] 61)
            rw [size_alloc1] at hh
            exact World.news_of_block hh)
          have HTA2 := Lib.hid (HTA.out.on ((Below.refl _ _).alloc (Nat.le_refl _) (.cells #[.int .i64 (x1 : Nat), .string XS, .bool true] 61)))
          have HBA2 := Lib.hid (HBA.out.alloc HBA.out.size (.cells #[.int .i64 (x1 : Nat), .string XS, .bool true] 61))
          rcases hcase with rfl | ⟨rfl, h1⟩ | ⟨rfl, h1, hv⟩ | ⟨rfl, h1, hv⟩
          · have HCC := Lib.hid (show (true || ks.getD nc false) = true from rfl)
            go_wp2_with ((with_reducible show wpList _ _ _ (⟨some 48, _, _, _, _, _⟩ :: _) _ _); go_loud (refine wpList_append_lies _ rfl (.tmp 41) (.tmp 47) 52 rfl w.heap.size 61 iT (.agg #[.int .i64 0, .string ByteArray.empty, .bool false]) 3 32 Try.underlying52 HI.out.1 HI.out.2.1 HI.out.2.2.1 HI.out.2.2.2 rfl (by decide) (.slice (some ⟨gl, 0, none⟩) nl cl) nl (evC Ll) rfl (HTA.out.l.alloc _) ⟨V.heap.size + 1, 0, none⟩ 1 1 [.int .i64 (x1 : Nat), .string XS, .bool true] rfl rfl HNW.out (by simp [Value.oneCell']) (by omega) (by unfold maxLen; omega) (by omega) (by have := HVS.out; simp; omega) (V.heap.size + 1 + 1) (by simp) ?_; intro g' cap w7 ho7 hg7 ha7 hl7; have HG7 := Lib.hid (HTA2.out.moreL (wr := V) (x := (x1, x2, true)) (by unfold evV; rw [← HXS.out]; exact ho7) hg7 (by rcases ha7 with h | h; left; cases h; rfl; right; simp; omega)); have HB7 := Lib.hid (show Below w.heap.size w w7 from HBA2.out.grown hg7 (by have := HVS.out; simp; omega) (fun k' e => by cases e; exact (own_lt HTA.out.l rfl).1)); clear ho7 hg7 ha7 hl7))
            go_roundw
            case rel => exact ⟨k + 1, go, co, g', cap, HKT.out, by go_num, by rw [HST.out, ← Hno.out], by rw [HDO.out true HCC.out, if_pos rfl, List.length_append, ← Hnl.out]; rfl, by rw [HCT.out, List.length_append, ← Hnc.out]; go_num, by rw [HST.out, HDO.out true HCC.out, if_pos rfl, List.length_append, ← Hno.out, ← Hnl.out]; exact HG7.out, HB7.out⟩
            case measure => simp [intOf]; have := HKT.out; omega
          · have HCC := Lib.hid (show (false || ks.getD nc false) = false from by
              rw [Bool.false_or, List.getD_eq_getElem?_getD, List.getElem?_eq_none (by have := HK.out.1; omega)]; rfl)
            have qn : ¬ (nc : Int) < (kn : Int) := by omega
            clear h1
            go_wp2_with fail
            go_roundw
            case rel => exact ⟨k + 1, go, co, gl, cl, HKT.out, by go_num, by rw [HST.out, ← Hno.out], by rw [HDO.out false HCC.out, if_neg (by simp), ← Hnl.out], by rw [HCT.out, List.length_append, ← Hnc.out]; go_num, by rw [HST.out, HDO.out false HCC.out, if_neg (by simp), ← Hno.out, ← Hnl.out]; exact HTA.out, HBA.out⟩
            case measure => simp [intOf]; have := HKT.out; omega
          · have HCC := Lib.hid (show (false || ks.getD nc false) = false from by rw [hv]; rfl)
            obtain ⟨bk, ok, rfl, hbk, hkc2⟩ := HKV.out.2.2.2.2 (by omega)
            have hck := hkc2 nc (by omega)
            rw [hv] at hck
            have qn : (nc : Int) < (kn : Int) := by omega
            clear hkc2 hbk h1
            go_wp2_with fail
            go_roundw
            case rel => exact ⟨k + 1, go, co, gl, cl, HKT.out, by go_num, by rw [HST.out, ← Hno.out], by rw [HDO.out false HCC.out, if_neg (by simp), ← Hnl.out], by rw [HCT.out, List.length_append, ← Hnc.out]; go_num, by rw [HST.out, HDO.out false HCC.out, if_neg (by simp), ← Hno.out, ← Hnl.out]; exact HTA.out, HBA.out⟩
            case measure => simp [intOf]; have := HKT.out; omega
          · have HCC := Lib.hid (show (false || ks.getD nc false) = true from by rw [hv]; rfl)
            obtain ⟨bk, ok, rfl, hbk, hkc2⟩ := HKV.out.2.2.2.2 (by omega)
            have hck := hkc2 nc (by omega)
            rw [hv] at hck
            have qn : (nc : Int) < (kn : Int) := by omega
            clear hkc2 hbk h1
            go_wp2_with ((with_reducible show wpList _ _ _ (⟨some 48, _, _, _, _, _⟩ :: _) _ _); go_loud (refine wpList_append_lies _ rfl (.tmp 41) (.tmp 47) 52 rfl w.heap.size 61 iT (.agg #[.int .i64 0, .string ByteArray.empty, .bool false]) 3 32 Try.underlying52 HI.out.1 HI.out.2.1 HI.out.2.2.1 HI.out.2.2.2 rfl (by decide) (.slice (some ⟨gl, 0, none⟩) nl cl) nl (evC Ll) rfl (HTA.out.l.alloc _) ⟨V.heap.size + 1, 0, none⟩ 1 1 [.int .i64 (x1 : Nat), .string XS, .bool true] rfl rfl HNW.out (by simp [Value.oneCell']) (by omega) (by unfold maxLen; omega) (by omega) (by have := HVS.out; simp; omega) (V.heap.size + 1 + 1) (by simp) ?_; intro g' cap w7 ho7 hg7 ha7 hl7; have HG7 := Lib.hid (HTA2.out.moreL (wr := V) (x := (x1, x2, true)) (by unfold evV; rw [← HXS.out]; exact ho7) hg7 (by rcases ha7 with h | h; left; cases h; rfl; right; simp; omega)); have HB7 := Lib.hid (show Below w.heap.size w w7 from HBA2.out.grown hg7 (by have := HVS.out; simp; omega) (fun k' e => by cases e; exact (own_lt HTA.out.l rfl).1)); clear ho7 hg7 ha7 hl7))
            go_roundw
            case rel => exact ⟨k + 1, go, co, g', cap, HKT.out, by go_num, by rw [HST.out, ← Hno.out], by rw [HDO.out true HCC.out, if_pos rfl, List.length_append, ← Hnl.out]; rfl, by rw [HCT.out, List.length_append, ← Hnc.out]; go_num, by rw [HST.out, HDO.out true HCC.out, if_pos rfl, List.length_append, ← Hno.out, ← Hnl.out]; exact HG7.out, HB7.out⟩
            case measure => simp [intOf]; have := HKT.out; omega
        · rw [if_pos rfl] at HCT HST
          have HNW := Lib.hid (show ∀ (jj : Nat) (uu : Value), [Value.int .i64 (x1 : Nat), .string XS, .bool true][jj]? = some uu → ((V.alloc (.cells #[.int .i64 (x1 : Nat), .string XS, .bool true] 61)).alloc (.cells #[.int .i64 (x1 : Nat), .string XS, .bool true] 61)).cell? ((⟨V.heap.size + 1, 0, none⟩ : Addr).add jj) = some uu from by
            have hh := heap_alloc_new (V.alloc (.cells #[.int .i64 (x1 : Nat), .string XS, .bool true] 61)) (.cells #[.int .i64 (x1 : Nat), .string XS, .bool true] 61)
            rw [size_alloc1] at hh
            exact World.news_of_block hh)
          have HTA2 := Lib.hid (HTA.out.on ((Below.refl _ _).alloc (Nat.le_refl _) (.cells #[.int .i64 (x1 : Nat), .string XS, .bool true] 61)))
          have HBA2 := Lib.hid (HBA.out.alloc HBA.out.size (.cells #[.int .i64 (x1 : Nat), .string XS, .bool true] 61))
          have HDO := Lib.hid (show lateE (stayE all (cacE (L.take (k + 1))) ks) = Ll from by rw [HCT.out, HLl.out])
          go_wp2_with ((with_reducible show wpList _ _ _ (⟨some 27, _, _, _, _, _⟩ :: _) _ _); go_loud (refine wpList_append_lies _ rfl (.tmp 24) (.tmp 26) 52 rfl w.heap.size 61 iT (.agg #[.int .i64 0, .string ByteArray.empty, .bool false]) 3 32 Try.underlying52 HI.out.1 HI.out.2.1 HI.out.2.2.1 HI.out.2.2.2 rfl (by decide) (.slice (some ⟨go, 0, none⟩) no co) no (evC Lo) rfl (HTA.out.o.alloc _) ⟨V.heap.size + 1, 0, none⟩ 1 1 [.int .i64 (x1 : Nat), .string XS, .bool true] rfl rfl HNW.out (by simp [Value.oneCell']) (by omega) (by unfold maxLen; omega) (by omega) (by have := HVS.out; simp; omega) (V.heap.size + 1 + 1) (by simp) ?_; intro g' cap w7 ho7 hg7 ha7 hl7; have HG7 := Lib.hid (HTA2.out.moreO (wr := V) (x := (x1, x2, true)) (by unfold evV; rw [← HXS.out]; exact ho7) hg7 (by rcases ha7 with h | h; left; cases h; rfl; right; simp; omega)); have HB7 := Lib.hid (show Below w.heap.size w w7 from HBA2.out.grown hg7 (by have := HVS.out; simp; omega) (fun k' e => by cases e; exact (own_lt HTA.out.o rfl).1)); clear ho7 hg7 ha7 hl7))
          go_roundw
          case rel => exact ⟨k + 1, g', cap, gl, cl, HKT.out, by go_num, by rw [HST.out, List.length_append, ← Hno.out]; rfl, by rw [HDO.out, ← Hnl.out], by rw [HCT.out, ← Hnc.out], by rw [HST.out, HDO.out, List.length_append, ← Hno.out, ← Hnl.out]; exact HG7.out, HB7.out⟩
          case measure => simp [intOf]; have := HKT.out; omega
    · as_aux_lemma =>
        obtain rfl : k = N := by omega
        have HM2 := Lib.hid (show RMc V mb S.size (.slice a L.length c) S.down ∧ RPc V qb l u from ⟨(HBV.out.block mb (heap_lt H.out.m)).trans H.out.m, (HBV.out.block qb (heap_lt H.out.p)).trans H.out.p⟩)
        have HTK := Lib.hid (show L.take k = L from by rw [HN.out]; exact List.take_length ..)
        have HVS := Lib.hid (show w.heap.size ≤ V.heap.size from HBV.out.size)
        have HMB := Lib.hid (show mb < w.heap.size ∧ qb < w.heap.size from ⟨heap_lt H.out.m, heap_lt H.out.p⟩)
        obtain ⟨iT, hi1, hz0, hz1, hz2⟩ := info_parts infoEv
        have HI := Lib.hid (And.intro hi1 (And.intro hz0 (And.intro hz1 hz2)))
        have HCL := Lib.hid (show ∀ jj uu, (evC Ll)[jj]? = some uu → V.cell? ((⟨gl, 0, none⟩ : Addr).add jj) = some uu from HTV.out.l.cells rfl)
        have HLN := Lib.hid (show (evC Ll).length = nl * 3 from by rw [evC_len, Hnl.out])
        have HLO := Lib.hid (evC_ones Ll)
        have HFIN := Lib.hid (show ∀ (W3 : World) (v' : Value), W3.ownsRow w.heap.size 61 3 v' (no + nl) (evC Lo ++ evC Ll) → V.grownBy W3 (some go) → ∃ a' c', v' = .slice a' (no + nl) c' ∧ W3.cell? ⟨mb, 1, none⟩ = some (.slice a L.length c) ∧ W3.frozen? ⟨mb, 1, none⟩ = false ∧ RSN w mb G qb ⟨[], 0, S', l, u⟩ j (W3.setCell ⟨mb, 1, none⟩ (.slice a' (no + nl) c')) from fun W3 v' ho hg => by
          obtain ⟨a', c', rfl⟩ := own_form3 ho
          have hgo := own_lt HTV.out.o rfl
          have hB3 : Below w.heap.size w W3 := HBV.out.grown hg HVS.out (fun k' e => by cases e; exact hgo.1)
          have hm3 : RMc W3 mb S.size (.slice a L.length c) S.down := (hB3.block mb HMB.out.1).trans H.out.m
          have hp3 : RPc W3 qb l u := (hB3.block qb HMB.out.2).trans H.out.p
          have hlen : (Lo ++ Ll).length = no + nl := by rw [List.length_append, Hno.out, Hnl.out]
          refine ⟨a', c', rfl, hm3.c1, hm3.free 1, ?_⟩
          have hsim : Sim S' (Lo ++ Ll) := by
            rw [HS.out, HLl.out, Hcc.out, HLo.out, HTK.out]
            cases all
            · exact H.out.sim.crash H.out.ok ks
            · exact H.out.sim.flush H.out.ok
          have hq := H.out.newRow (w3 := W3) (j := j) (S' := S') (L' := Lo ++ Ll) (a' := a') (c' := c') (l' := l) (u' := u) (e := 0) (o := []) hm3 hp3 (by rw [hlen, evC_append]; exact own_low ho (Nat.zero_le _)) (KB.of_below hB3) (fun g e => by
            have h1 := (own_lt ho (by rw [← hlen]; exact e)).1
            have h2 := HMB.out
            exact ⟨by omega, by omega, .inr h1⟩) (by rw [HS.out]; cases all <;> rfl) (by rw [HS.out]; cases all <;> rfl) hsim (by rw [HS.out]; cases all; exact H.out.ok.crash ks; exact H.out.ok.flush) H.out.left (by
              have h1 := filt_take L k
              have h2 := stay_len all cc ks
              rw [hlen, Hno.out, Hnl.out, HLl.out, lateE_len, HLo.out]
              rw [Hcc.out] at h2 ⊢
              have h3 := H.out.few.1
              omega) H.out.few.2
          rw [hlen] at hq
          exact hq)
        clear hlt hkN hi1 hz0 hz1 hz2
        have hm2 := HM2.out.1.c1
        go_wp2_with ((with_reducible show wpList _ _ _ (⟨some 55, _, _, _, _, _⟩ :: _) _ _); go_loud (refine wpList_append_own _ rfl (.tmp 53) (.tmp 54) 52 rfl w.heap.size 61 iT (.agg #[.int .i64 0, .string ByteArray.empty, .bool false]) 3 32 Try.underlying52 HI.out.1 HI.out.2.1 HI.out.2.2.1 HI.out.2.2.2 rfl (by decide) (.slice (some ⟨go, 0, none⟩) no co) no (evC Lo) rfl HTV.out.o ⟨gl, 0, none⟩ nl cl (evC Ll) rfl HLN.out HCL.out HLO.out (by unfold maxLen; omega) (by omega) HVS.out ?_; intro v7 w7 ho7 hg7 _; obtain ⟨a7, c7, rfl, hc7, hf7, hr7⟩ := HFIN.out w7 v7 ho7 hg7; have HR7 := Lib.hid hr7; clear hr7 ho7 hg7))
        go_end0
        exact ⟨rfl, HR7.out⟩
end Go.Proofs.Ytoonaendakjecaa
