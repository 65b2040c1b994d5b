/- The contract of Take where it goes well; all of TapeM. -/
import Derived.Test.YtmiafhblllbimaaBg
namespace Go.Proofs.Ytmiafhblllbimaa
open Go.ChangeShapes Go.WideShapes Go.ChangeAt Go.RowKit Go.Shelf
set_option linter.unusedVariables false
set_option linter.unusedSimpArgs false
set_option maxRecDepth 100000
attribute [local go_sem] Oper.semAt_some

theorem KB.monoF {F G : Nat → Prop} {w w' : World} (h : KB F w w') (k : ∀ j, F j → G j) : KB G w w' := ⟨h.1, fun j hj hf => h.2 j hj (fun e => hf (k j e))⟩
/-- How a tape stands behind a Take that went well. -/
theorem take_end {w w1 w2 w3 w6 : World} {tb : Nat} {F : Nat → Prop} {B : List Int} {at_ : Nat} {L : List TK} {ra : Option Addr} {m rc : Nat} {ta : Option Addr} {tc n N g cap : Nat} {s : ByteArray} {o : Obj} {a1 : Option Addr} {c1 : Nat} {xs : List Value}
    (hX : TpX w tb B at_ L ra m rc ta tc) (hF : ∀ k, F k ↔ TpF tb ra m (.slice ta L.length tc) k) (hnm : n ≤ m) (hN : N = L.length) (hb1 : Below w.heap.size w w1) (hX1 : TpX w1 tb B at_ L ra m rc ta tc) (h12 : KB (fun k => k = tb) w1 w2) (h23 : (w2.drew.alloc o).grownBy w3 (Value.slice ta N tc).ownBlock)
    (ho3 : w3.ownsRow 0 33 3 (.slice (some ⟨g, 0, none⟩) (N + 1) cap) (N + 1) (tkC L ++ [.string s, .int .i64 (at_ : Nat), .int .i64 (n : Nat)])) (ha : (Value.slice ta N tc).ownBlock = some g ∨ g = w2.heap.size + 1) (h36 : KB (fun k => k = tb) w3 w6)
    (hT : Tp w6 tb (.slice (cutT ra rc n) (m - n) (rc - n)) (at_ + n) (.slice (some ⟨g, 0, none⟩) (N + 1) cap)) (ho1 : w1.ownsRow w.heap.size 5 1 (.slice a1 n c1) n xs) :
    ∃ F', TapeR w6 tb F' B (at_ + n) (L ++ [(s, at_, n)]) ∧ KB F w w6 ∧ (∀ k, F' k → F k ∨ w.heap.size ≤ k) ∧
      (0 < n → w6.ownsRow w.heap.size 5 1 (.slice a1 n c1) n xs ∧ ∀ g', (Value.slice a1 n c1).ownBlock = some g' → ¬ F' g') := by
  subst hN
  have hs12 := h12.1.size
  have hs23 := h23.size
  have hs23 : w2.heap.size + 1 ≤ w3.heap.size := by simpa using hs23
  have hin : ∀ k, TpF tb ra m (.slice ta L.length tc) k → k < w.heap.size := fun k hk => hX.inside hk
  have htb : tb < w.heap.size := hin tb (.inl rfl)
  have hw1 := hb1.size
  have h23' : KB (fun k => (Value.slice ta L.length tc).ownBlock = some k) w2 w3 := (KB.of_below (((Below.refl _ w2).drew).alloc (Nat.le_refl _) o)).trans (KB.of_grown h23)
  have hst : ∀ k, k < w1.heap.size → k ≠ tb → (Value.slice ta L.length tc).ownBlock ≠ some k → w6.heap[k]? = w1.heap[k]? := fun k hk h1 h2 =>
    (h36.2 k (by have := h23'.1.size; omega) h1).trans ((h23'.2 k (by omega) h2).trans (h12.2 k hk h1))
  have hgb : g ≠ tb := by
    rcases ha with h | h
    · intro e; subst e; exact hX.2.2.2.2.2 h
    · omega
  have hra : 0 < m → ∃ b0 o0, ra = some ⟨b0, o0, none⟩ ∧ b0 < w.heap.size := fun h0 => by
    obtain ⟨b, off, e, hb, _⟩ := hX.2.2.1.1.2.2.1 (by have := hX.2.2.1.1.1; omega)
    exact ⟨b, off, e, hb⟩
  have hr2 : ∀ b o, 0 < m - n → cutT ra rc n = some ⟨b, o, none⟩ → ∃ o0, ra = some ⟨b, o0, none⟩ := fun b o h0 e => by
    obtain ⟨b0, o0, e0, _⟩ := hra (by omega)
    rw [e0] at e ⊢
    exact ⟨o0, by rw [cutT_block e]⟩
  have hlen : (L ++ [(s, at_, n)]).length = L.length + 1 := by rw [List.length_append]; rfl
  have hg' : (Value.slice (some ⟨g, 0, none⟩ : Option Addr) (L.length + 1) cap).ownBlock = some g := rfl
  refine ⟨TpF tb (cutT ra rc n) (m - n) (.slice (some ⟨g, 0, none⟩) (L.length + 1) cap), ⟨cutT ra rc n, m - n, rc - n, some ⟨g, 0, none⟩, cap, ⟨by have := hX.1; omega, by rw [hlen]; exact hT, ?_, ?_, ?_, ?_⟩, fun k => by rw [hlen]⟩, ?_, ?_, ?_⟩
  · have h := hX1.2.2.1.cut8 hnm
    rw [List.drop_drop] at h
    refine h.blockT (fun h0 b o e => ?_)
    obtain ⟨o0, e0⟩ := hr2 b o h0 e
    obtain ⟨h1, h2⟩ := hX.2.2.2.2.1 (by omega) b o0 e0
    exact hst b (by have := hin b (.inr (.inl ⟨by omega, o0, e0⟩)); omega) h1 h2
  · rw [hlen, tkC_append, tkC_one]
    refine own_blockT ho3 (fun k e => ?_)
    cases e
    exact h36.2 g (own_lt ho3 rfl).2 hgb
  · intro h0 b o e
    obtain ⟨o0, e0⟩ := hr2 b o h0 e
    obtain ⟨h1, h2⟩ := hX.2.2.2.2.1 (by omega) b o0 e0
    refine ⟨h1, fun e1 => ?_⟩
    have e2 : g = b := by rw [hlen] at e1; cases e1; rfl
    subst e2
    rcases ha with h | h
    · exact h2 h
    · have := hin g (.inr (.inl ⟨by omega, o0, e0⟩)); omega
  · intro e1
    have e2 : g = tb := by rw [hlen] at e1; cases e1; rfl
    exact hgb e2
  · have k1 : KB F w w1 := KB.of_below hb1
    have k2 : KB F w1 w2 := h12.monoF (fun j e => (hF j).2 (.inl e))
    have k3 : KB F w2 w3 := h23'.monoF (fun j e => (hF j).2 (.inr (.inr e)))
    have k4 : KB F w3 w6 := h36.monoF (fun j e => (hF j).2 (.inl e))
    exact ((k1.trans k2).trans k3).trans k4
  · rintro k (rfl | ⟨h0, o, e⟩ | e)
    · exact .inl ((hF _).2 (.inl rfl))
    · obtain ⟨o0, e0⟩ := hr2 k o h0 e
      exact .inl ((hF _).2 (.inr (.inl ⟨by omega, o0, e0⟩)))
    · cases e
      rcases ha with h | h
      · exact .inl ((hF _).2 (.inr (.inr h)))
      · exact .inr (show w.heap.size ≤ g by omega)
  · intro h0
    have hlo : ∀ g', (Value.slice a1 n c1).ownBlock = some g' → w.heap.size ≤ g' ∧ g' < w1.heap.size := fun g' e => own_lt ho1 e
    refine ⟨own_blockT ho1 (fun g' e => ?_), fun g' e hf => ?_⟩
    · obtain ⟨l1, l2⟩ := hlo g' e
      exact hst g' l2 (by omega) (fun e2 => by have := hin g' (.inr (.inr e2)); omega)
    · obtain ⟨l1, l2⟩ := hlo g' e
      rcases hf with h | ⟨h1, o, e1⟩ | e1
      · omega
      · obtain ⟨o0, e0⟩ := hr2 g' o h1 e1
        have := hin g' (.inr (.inl ⟨by omega, o0, e0⟩)); omega
      · have e2 : g = g' := by cases e1; rfl
        rcases ha with h | h
        · have := hin g (.inr (.inr h)); omega
        · omega
set_option maxHeartbeats 4000000 in
theorem take_ok (tb : Nat) (F : Nat → Prop) (B : List Int) (at_ : Nat) (L : List TK) (s : ByteArray) (n : Nat) (w : World) (hR : TapeR w tb F B at_ L) (hn : at_ + n ≤ B.length) (hB : B.length ≤ 1048576) (hL : L.length ≤ 1000000) :
    Calls Try.prog 7 #[.pointer (some ⟨tb, 0, none⟩), .string s, .int .i64 (n : Nat)] w fun e w' => ∃ a c F', e = .returned (.tuple #[.slice a n c, .int .i64 0]) ∧ TapeR w' tb F' B (at_ + n) (L ++ [(s, at_, n)]) ∧ KB F w w' ∧ (∀ k, F' k → F k ∨ w.heap.size ≤ k) ∧
      (0 < n → w'.ownsRow w.heap.size 5 1 (.slice a n c) n (((B.drop at_).take n).map (Value.int .u8)) ∧ ∀ g, (Value.slice a n c).ownBlock = some g → ¬ F' g) := by
  obtain ⟨ra, m, rc, ta, tc, hX, hF⟩ := hR
  have HF := Lib.hid hF
  have HX := Lib.hid hX
  obtain ⟨g1, g2, g3, g4, g5, g6⟩ := hX
  have hnm : n ≤ m := by omega
  have hm1 : m ≤ 1048576 := by omega
  have hat : at_ ≤ 1048576 := by omega
  have hrc : m ≤ rc ∧ rc ≤ 9223372036854775807 := by have := g3.1.2.2.2; unfold maxLen at this; omega
  have HCL := Lib.hid (cloneB_any ra n rc ((B.drop at_).take n) w (g3.takeT hnm) (by omega))
  have hc := g2.c0
  have q0 : ¬ (n : Int) < 0 := by omega
  have q1 : ¬ (m : Int) < (n : Int) := by omega
  have q2 : (n : Int) ≤ (rc : Int) := by omega
  have q3 : (0 : Int) ≤ (n : Int) := by omega
  have q4 : (n : Int) ≤ (m : Int) := by omega
  have q5 : (m : Int) ≤ (rc : Int) := by omega
  have HQ := Lib.hid (And.intro hnm (And.intro hm1 (And.intro hat (And.intro hrc (And.intro hn (And.intro hB hL))))))
  clear g1 g3 g4 g5 g6 hF hn hB hL
  go_enter Try.func7, Try.ntmps7
  go_upto_region 8 with (go_at_call 12; go_loud (refine HCL.out.mono ?_; rintro e w1 ⟨a1, c1, rfl, ho, ha, hb⟩; have HO1 := Lib.hid ho; have HA1 := Lib.hid ha; have HB1 := Lib.hid hb; clear ho ha hb))
  have hX1 := HX.out.on HB1.out
  have HX1 := Lib.hid hX1
  have hc := hX1.2.1.c0
  have hfz := hX1.2.1.free 0
  clear hX1
  go_upto_region 9 with fail
  obtain ⟨r2, hr2⟩ : ∃ r2, r2 = cutT ra rc n := ⟨_, rfl⟩
  rw [show (if rc = n then ra else Option.map (fun x => x.add n) ra) = r2 from hr2.symm]
  have HR2 := Lib.hid hr2
  clear hr2 hc hfz
  have HT2 := Lib.hid (HX1.out.2.1.set0 (.slice r2 (m - n) (rc - n)))
  have HK2 := Lib.hid (show ∀ k, k ≠ tb → (w1.setCell ⟨tb, 0, none⟩ (.slice r2 (m - n) (rc - n))).heap[k]? = w1.heap[k]? from fun k hk => heap_setCell_other w1 ⟨tb, 0, none⟩ k _ hk)
  have HS2 := Lib.hid (show (w1.setCell ⟨tb, 0, none⟩ (.slice r2 (m - n) (rc - n))).heap.size = w1.heap.size by simp)
  have HG2 := Lib.hid (KB.of_set w1 tb 0 (.slice r2 (m - n) (rc - n)))
  generalize w1.setCell ⟨tb, 0, none⟩ (.slice r2 (m - n) (rc - n)) = w2 at HT2 HK2 HS2 HG2 ⊢
  have hc1 := HT2.out.c1
  have hc2 := HT2.out.c2
  obtain ⟨iT, hi, hz0, hz1, hz2⟩ := info_parts infoTKa
  have HI := Lib.hid (And.intro hi (And.intro hz0 (And.intro hz1 hz2)))
  clear hi hz0 hz1 hz2
  obtain ⟨N, hN⟩ : ∃ N, N = L.length := ⟨_, rfl⟩
  have HO2 := Lib.hid (show ∀ W, Below w2.heap.size w2 W → W.ownsRow 0 33 3 (.slice ta N tc) N (tkC L) from fun W hW => ownK_below (by rw [hN]; exact own_blockT HX1.out.2.2.2.1 (fun g e => HK2.out g (fun h => HX1.out.2.2.2.2.2 (by rw [← h]; exact e)))) hW)
  rw [← hN] at hc2 HT2
  have HN := Lib.hid hN
  clear hN
  have HT3 := Lib.hid (show ∀ W3, World.grownBy (w2.drew.alloc (.cells #[.string s, .int .i64 (at_ : Nat), .int .i64 (n : Nat)] 33)) W3 (Value.slice ta N tc).ownBlock → Tp W3 tb (.slice r2 (m - n) (rc - n)) at_ (.slice ta N tc) from fun W3 hg => (HT2.out.on (((Below.refl _ w2).drew).alloc (Nat.le_refl _) _)).same (hg.block tb (by have := HT2.out.lt; simp; omega) (by rw [HN.out]; exact Ne.symm HX1.out.2.2.2.2.2)))
  have hc3 := (HT2.out.on (((Below.refl _ w2)).alloc (Nat.le_refl _) (.cells #[.string s, .int .i64 (at_ : Nat), .int .i64 (n : Nat)] 33))).c2
  go_region_law ((refine step_append_lies _ (by rfl) (.tmp 40) (.tmp 48) 29 (by rfl) 0 33 iT (.agg #[.string ByteArray.empty, .int .i64 0, .int .i64 0]) 3 32 Try.underlying29 HI.out.1 HI.out.2.1 HI.out.2.2.1 HI.out.2.2.2 rfl (by decide) (.slice ta N tc) N (tkC L) (by simp [Act.eval, Act.put]) (HO2.out _ (((Below.refl _ w2).drew).alloc (Nat.le_refl _) _)) ⟨w2.heap.size, 0, none⟩ 1 1 [.string s, .int .i64 (at_ : Nat), .int .i64 (n : Nat)] (by simp [Act.eval, Act.put]) rfl (World.news_of_block (heap_alloc_new w2.drew _)) (by simp [Value.oneCell']) (by omega) (by have := HN.out; have := HQ.out; unfold maxLen; omega) (by have := HN.out; have := HQ.out; omega) (Nat.zero_le _) (w2.heap.size + 1) (by simp) ?_; intro g cap w3 hown3 hgrow3 hat3 hlt3; have hT3 := HT3.out w3 hgrow3; have hd2 := hT3.c2; have hf2 := hT3.free 2; have HT4 := Lib.hid hT3; have HO3 := Lib.hid hown3; have HG3 := Lib.hid hgrow3; have HA3 := Lib.hid hat3; have HL3 := Lib.hid hlt3; clear hT3 hown3 hgrow3 hat3 hlt3))
  all_goals
    have HT5 := Lib.hid (HT4.out.set2 (.slice (some ⟨g, 0, none⟩) (N + 1) cap))
    have HK5 := Lib.hid (KB.of_set w3 tb 2 (.slice (some ⟨g, 0, none⟩) (N + 1) cap))
    generalize w3.setCell ⟨tb, 2, none⟩ (.slice (some ⟨g, 0, none⟩) (N + 1) cap) = w5 at HT5 HK5 ⊢
    clear hc1 hc2 hc3 hd2 hf2
    have he1 := HT5.out.c1
    have hf1 := HT5.out.free 1
    go_wp2_with fail
    go_ret2
    have hT6 := HT5.out.set1 (at_ + n)
    rw [HR2.out] at hT6
    have h36 : KB (fun k => k = tb) w3 (w5.setCell ⟨tb, 1, none⟩ (.int .i64 ((at_ + n : Nat) : Int))) := HK5.out.trans (KB.of_set _ _ _ _)
    obtain ⟨F', r1, r3, r4, r5⟩ := take_end HX.out HF.out HQ.out.1 HN.out HB1.out HX1.out HG2.out HG3.out HO3.out HA3.out h36 hT6 HO1.out
    exact ⟨_, _, F', rfl, r1, r3, r4, r5⟩
theorem tapeM : TapeM TapeR TapeIt where
  inside := fun h => tapeR_inside h
  keep := fun h k => tapeR_keep h k
  new := new_tape
  newLong := new_long
  takeNil := take_nil
  takeNeg := take_neg
  takeSpent := take_spent
  takeOk := fun tb F B at_ L s n w hR _ h1 h2 h3 => take_ok tb F B at_ L s n w hR h1 h2 h3
  at_ := at_any
  left := left_any
  atNil := at_nil
  leftNil := left_nil
  takes := takes_any
  takesNil := takes_nil
  all := allK_any
end Go.Proofs.Ytmiafhblllbimaa
