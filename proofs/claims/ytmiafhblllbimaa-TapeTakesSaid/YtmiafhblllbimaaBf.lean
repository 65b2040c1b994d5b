/- The contracts of package tape as it landed, and of slices.Clone and slices.Values that it calls: all of TapeM. -/
import Derived.Test.YtmiafhblllbimaaBe
import Derived.Test.YtmiafhblllbimaaBb
import Derived.Test.YtmiafhblllbimaaBlk
namespace Go.Proofs.Ytmiafhblllbimaa
open Go.ChangeShapes Go.WideShapes Go.ChangeAt Go.RowKit Go.Shelf
set_option linter.unusedVariables false
set_option linter.unusedSimpArgs false
set_option maxRecDepth 100000
attribute [local go_sem] Oper.semAt_some

/-! ## plain -/
def cutT (a : Option Addr) (c k : Nat) : Option Addr := if c = k then a else a.map (·.add k)
theorem Arg8c.cut8 {w : World} {a : Option Addr} {m c : Nat} {l : List Int} (h : Arg8c w a m c l) {k : Nat} (hk : k ≤ m) : Arg8c w (cutT a c k) (m - k) (c - k) (l.drop k) := by
  obtain ⟨⟨h1, h2, h3, h4, h5⟩, h6⟩ := h
  refine ⟨⟨by rw [List.length_drop, h1], fun x hx => h2 x (List.mem_of_mem_drop hx), ?_, by omega, by omega⟩, fun e => ?_⟩
  · intro h0
    rw [List.length_drop] at h0
    obtain ⟨b, off, e, hb, hc⟩ := h3 (by omega)
    refine ⟨b, off + k, ?_, hb, fun i hi => ?_⟩
    · unfold cutT; rw [if_neg (by omega), e]; exact congrArg some (Addr.add_lit _ _ _)
    · rw [List.length_drop] at hi
      have := hc (k + i) (by omega)
      rw [show off + k + i = off + (k + i) by omega, this]
      simp [List.getD_eq_getElem?_getD, List.getElem?_drop]
  · unfold cutT at e
    by_cases hc : c = k
    · omega
    · rw [if_neg hc] at e
      rcases a with _ | ad
      · have := h6 rfl; omega
      · cases e
theorem cutT_block {c k b o b0 o0 : Nat} (h : cutT (some ⟨b0, o0, none⟩) c k = some ⟨b, o, none⟩) : b = b0 := by
  unfold cutT at h
  by_cases hc : c = k
  · rw [if_pos hc] at h; cases h; rfl
  · rw [if_neg hc, Option.map_some, Addr.add_lit] at h; cases h; rfl
theorem Arg8c.takeT {w : World} {a : Option Addr} {m c : Nat} {l : List Int} (h : Arg8c w a m c l) {k : Nat} (hk : k ≤ m) : Arg8c w a k c (l.take k) := by
  obtain ⟨⟨h1, h2, h3, h4, h5⟩, h6⟩ := h
  exact ⟨⟨by rw [List.length_take, h1]; omega, fun x hx => h2 x (List.mem_of_mem_take hx), h3.take k, by omega, h5⟩, h6⟩
theorem own_lt {w : World} {base s n g : Nat} {e : TypeId} {v : Value} {xs : List Value} (h : w.ownsRow base e s v n xs) (hv : v.ownBlock = some g) : base ≤ g ∧ g < w.heap.size := by
  rcases h.2 with ⟨rfl, _⟩ | ⟨g', cap, cur, rfl, hb, hg, _⟩
  · cases hv
  · cases hv
    refine ⟨hb, ?_⟩
    rcases Nat.lt_or_ge g' w.heap.size with hlt | hge
    · exact hlt
    · rw [Array.getElem?_eq_none hge] at hg; cases hg
theorem own_blockT {w w' : World} {base s n : Nat} {e : TypeId} {v : Value} {xs : List Value} (h : w.ownsRow base e s v n xs) (hk : ∀ g, v.ownBlock = some g → w'.heap[g]? = w.heap[g]?) : w'.ownsRow base e s v n xs := by
  obtain ⟨h1, h2⟩ := h
  refine ⟨h1, ?_⟩
  rcases h2 with h2 | ⟨g, cap, cur, rfl, h3, h4, h5⟩
  · exact .inl h2
  · exact .inr ⟨g, cap, cur, rfl, h3, (hk g rfl).trans h4, h5⟩
theorem own_low {w : World} {base base' s n : Nat} {e : TypeId} {v : Value} {xs : List Value} (h : w.ownsRow base e s v n xs) (hb : base' ≤ base) : w.ownsRow base' e s v n xs := by
  refine ⟨h.1, ?_⟩
  rcases h.2 with h2 | ⟨g, cap, cur, h1, h2, h3⟩
  · exact .inl h2
  · exact .inr ⟨g, cap, cur, h1, Nat.le_trans hb h2, h3⟩
theorem Arg8c.blockT {w w' : World} {a : Option Addr} {m c : Nat} {l : List Int} (h : Arg8c w a m c l) (hk : 0 < m → ∀ b o, a = some ⟨b, o, none⟩ → w'.heap[b]? = w.heap[b]?) : Arg8c w' a m c l := by
  obtain ⟨⟨h1, h2, h3, h4, h5⟩, h6⟩ := h
  refine ⟨⟨h1, h2, fun h0 => ?_, h4, h5⟩, h6⟩
  obtain ⟨b, off, e, hb, hc⟩ := h3 h0
  have hkb := hk (by omega) b off e
  refine ⟨b, off, e, ?_, fun i hi => (World.cell?_of_block (w := w) (a := ⟨b, off + i, none⟩) hkb).trans (hc i hi)⟩
  rcases Nat.lt_or_ge b w'.heap.size with h7 | h7
  · exact h7
  · rw [Array.getElem?_eq_none h7, Array.getElem?_eq_getElem hb] at hkb; cases hkb
/-- A tape's own block. -/
def Tp (w : World) (b : Nat) (r : Value) (n : Nat) (t : Value) : Prop := w.heap[b]? = some (.cells #[r, .int .i64 (n : Nat), t] 44 (0, 0))
theorem Tp.lt {w : World} {b n : Nat} {r t : Value} (h : Tp w b r n t) : b < w.heap.size := by
  rcases Nat.lt_or_ge b w.heap.size with hlt | hge
  · exact hlt
  · unfold Tp at h; rw [Array.getElem?_eq_none hge] at h; cases h
theorem Tp.c0 {w : World} {b n : Nat} {r t : Value} (h : Tp w b r n t) : w.cell? ⟨b, 0, none⟩ = some r := by rw [cell_of_row w b 0 _ _ _ h]; rfl
theorem Tp.c1 {w : World} {b n : Nat} {r t : Value} (h : Tp w b r n t) : w.cell? ⟨b, 1, none⟩ = some (.int .i64 (n : Nat)) := by rw [cell_of_row w b 1 _ _ _ h]; rfl
theorem Tp.c2 {w : World} {b n : Nat} {r t : Value} (h : Tp w b r n t) : w.cell? ⟨b, 2, none⟩ = some t := by rw [cell_of_row w b 2 _ _ _ h]; rfl
theorem Tp.free {w : World} {b n : Nat} {r t : Value} (h : Tp w b r n t) (j : Nat) : w.frozen? ⟨b, j, none⟩ = false := frozen_of_row w b j _ _ h
theorem Tp.set0 {w : World} {b n : Nat} {r t : Value} (h : Tp w b r n t) (r' : Value) : Tp (w.setCell ⟨b, 0, none⟩ r') b r' n t := by
  unfold Tp; rw [heap_setCell_same w b 0 _ _ r' h]; rfl
theorem Tp.set1 {w : World} {b n : Nat} {r t : Value} (h : Tp w b r n t) (m : Nat) : Tp (w.setCell ⟨b, 1, none⟩ (.int .i64 (m : Nat))) b r m t := by
  unfold Tp; rw [heap_setCell_same w b 1 _ _ _ h]; rfl
theorem Tp.set2 {w : World} {b n : Nat} {r t : Value} (h : Tp w b r n t) (t' : Value) : Tp (w.setCell ⟨b, 2, none⟩ t') b r n t' := by
  unfold Tp; rw [heap_setCell_same w b 2 _ _ t' h]; rfl
theorem Tp.same {w w' : World} {b n : Nat} {r t : Value} (h : Tp w b r n t) (hk : w'.heap[b]? = w.heap[b]?) : Tp w' b r n t := by
  unfold Tp at *; rw [hk]; exact h
theorem Tp.on {w w' : World} {b n : Nat} {r t : Value} (h : Tp w b r n t) (hb : Below w.heap.size w w') : Tp w' b r n t := h.same (hb.block b h.lt)
/-- A tape of B, of which so many were taken. -/
def TpX (w : World) (tb : Nat) (B : List Int) (at_ : Nat) (L : List TK) (ra : Option Addr) (m rc : Nat) (ta : Option Addr) (tc : Nat) : Prop :=
  at_ + m = B.length ∧ Tp w tb (.slice ra m rc) at_ (.slice ta L.length tc) ∧ Arg8c w ra m rc (B.drop at_) ∧ w.ownsRow 0 33 3 (.slice ta L.length tc) L.length (tkC L) ∧
  (0 < m → ∀ b o, ra = some ⟨b, o, none⟩ → b ≠ tb ∧ (Value.slice ta L.length tc).ownBlock ≠ some b) ∧ (Value.slice ta L.length tc).ownBlock ≠ some tb
def TpF (tb : Nat) (ra : Option Addr) (m : Nat) (v : Value) : Nat → Prop := fun k => k = tb ∨ (0 < m ∧ ∃ o, ra = some ⟨k, o, none⟩) ∨ v.ownBlock = some k
def TapeR (w : World) (tb : Nat) (F : Nat → Prop) (B : List Int) (at_ : Nat) (L : List TK) : Prop :=
  ∃ (ra : Option Addr) (m rc : Nat) (ta : Option Addr) (tc : Nat), TpX w tb B at_ L ra m rc ta tc ∧ ∀ k, F k ↔ TpF tb ra m (.slice ta L.length tc) k
theorem TpX.same {w w' : World} {tb : Nat} {B : List Int} {at_ : Nat} {L : List TK} {ra : Option Addr} {m rc : Nat} {ta : Option Addr} {tc : Nat} (h : TpX w tb B at_ L ra m rc ta tc) (hk : ∀ k, TpF tb ra m (.slice ta L.length tc) k → w'.heap[k]? = w.heap[k]?) : TpX w' tb B at_ L ra m rc ta tc := by
  obtain ⟨h1, h2, h3, h4, h5, h6⟩ := h
  exact ⟨h1, h2.same (hk tb (.inl rfl)), h3.blockT (fun h0 b o e => hk b (.inr (.inl ⟨h0, o, e⟩))), own_blockT h4 (fun g e => hk g (.inr (.inr e))), h5, h6⟩
theorem TpX.inside {w : World} {tb : Nat} {B : List Int} {at_ : Nat} {L : List TK} {ra : Option Addr} {m rc : Nat} {ta : Option Addr} {tc : Nat} (h : TpX w tb B at_ L ra m rc ta tc) {k : Nat} (hk : TpF tb ra m (.slice ta L.length tc) k) : k < w.heap.size := by
  obtain ⟨h1, h2, h3, h4, h5, h6⟩ := h
  rcases hk with rfl | ⟨h0, o, e⟩ | e
  · exact h2.lt
  · have hl : (B.drop at_).length = m := h3.1.1
    obtain ⟨b, off, e2, hb, _⟩ := h3.1.2.2.1 (by omega)
    rw [e] at e2; cases e2; exact hb
  · exact (own_lt h4 e).2
theorem TpX.on {w w' : World} {tb : Nat} {B : List Int} {at_ : Nat} {L : List TK} {ra : Option Addr} {m rc : Nat} {ta : Option Addr} {tc : Nat} (h : TpX w tb B at_ L ra m rc ta tc) (hb : Below w.heap.size w w') : TpX w' tb B at_ L ra m rc ta tc :=
  h.same fun k hk => hb.block k (h.inside hk)
theorem tapeR_inside {w : World} {tb : Nat} {F : Nat → Prop} {B : List Int} {at_ : Nat} {L : List TK} (h : TapeR w tb F B at_ L) : ∀ k, F k → k < w.heap.size := fun k hk => by
  obtain ⟨ra, m, rc, ta, tc, h, hF⟩ := h
  exact h.inside ((hF k).1 hk)
theorem tapeR_keep {w w' : World} {tb : Nat} {F : Nat → Prop} {B : List Int} {at_ : Nat} {L : List TK} (h : TapeR w tb F B at_ L) (hk : ∀ k, F k → w'.heap[k]? = w.heap[k]?) : TapeR w' tb F B at_ L := by
  obtain ⟨ra, m, rc, ta, tc, h, hF⟩ := h
  exact ⟨ra, m, rc, ta, tc, h.same (fun k hT => hk k ((hF k).2 hT)), hF⟩

/-! ## slices.Clone -/
theorem eqlT_nil (w : World) : (binOp .eql 22 (.slice none 0 0) (.slice none 0 0)).run Try.prog w = .ok (.bool true) w := rfl
theorem eqlT_some (w : World) (ad : Addr) (n c : Nat) : (binOp .eql 22 (.slice (some ad) n c) (.slice none 0 0)).run Try.prog w = .ok (.bool false) w := rfl
theorem cloneB_any (a : Option Addr) (L cap : Nat) (l : List Int) (w : World) (hx : Arg8c w a L cap l) (hL : L ≤ 140737488355328) :
    Calls Try.prog 12 #[.slice a L cap] w fun e w' => ∃ a' c', e = .returned (.slice a' L c') ∧ w'.ownsRow w.heap.size 5 1 (.slice a' L c') L (l.map (Value.int .u8)) ∧ Arg8c w' a' L c' l ∧ Below w.heap.size w w' := by
  have HX := Lib.hid hx
  have hcap := hx.1.2.2.2
  clear hx
  rcases a with _ | ad
  · obtain rfl : cap = 0 := HX.out.2 rfl
    obtain rfl : L = 0 := by omega
    have H0 := Lib.hid (show l = [] from List.eq_nil_of_length_eq_zero HX.out.1.1)
    have he := eqlT_nil
    go_enter Try.func12, Try.ntmps12
    go_wp2
    go_ret
    exact ⟨_, _, rfl, by rw [H0.out]; exact World.ownsRow_nil _ _ _ _, HX.out, Below.refl _ _⟩
  · obtain ⟨i5, hi, hz0, hz1, hz2⟩ := info_parts info5
    have HI := Lib.hid (And.intro hi (And.intro hz0 (And.intro hz1 hz2)))
    clear hi hz0 hz1 hz2
    have he := fun w => eqlT_some w ad L cap
    go_enter Try.func12, Try.ntmps12
    go_wp2_with ((with_reducible show wpList _ _ _ (⟨some 7, _, _, _, _, _⟩ :: _) _ _); refine wpList_append_bs _ rfl (.tmp 5) (.tmp 6) 22 rfl w.heap.size 5 i5 Try.underlying22 HI.out.1 HI.out.2.1 HI.out.2.2.1 HI.out.2.2.2 _ 0 [] rfl (own_empty w _) (some ad) L cap w.heap.size l rfl (HX.out.1.2.2.1.below ((Below.refl _ _).alloc (Nat.le_refl _) _)) HX.out.1.1 (by simp) (by omega) (by simp) ?_; intro v1 wc hown1 hg1; rw [Nat.zero_add, List.nil_append] at hown1; have hBc := ((Below.refl _ w).alloc (Nat.le_refl _) _).grown hg1 (by simp) (own_block_le _ _ _); have HO := Lib.hid hown1; have HB := Lib.hid hBc; obtain ⟨ac, cc, hv, hbs, hll, hn1, hm1, hz1⟩ := own_form hown1; subst hv; have HA := Lib.hid (show Arg8c wc ac L cc l from ⟨⟨hll, HX.out.1.2.1, hbs, hn1, hm1⟩, hz1⟩); clear hown1 hg1 hBc hbs hll hn1 hm1 hz1)
    go_ret
    exact ⟨_, _, rfl, HO.out, HA.out, HB.out⟩
theorem eqlK_nil (w : World) : (binOp .eql 29 (.slice none 0 0) (.slice none 0 0)).run Try.prog w = .ok (.bool true) w := rfl
theorem eqlK_some (w : World) (ad : Addr) (n c : Nat) : (binOp .eql 29 (.slice (some ad) n c) (.slice none 0 0)).run Try.prog w = .ok (.bool false) w := rfl
theorem tkC_one' : ∀ (L : List TK), ∀ u ∈ tkC L, u.oneCell' = true
  | [], u, h => by cases h
  | x :: r, u, h => by
    rw [tkC, List.mem_append] at h
    rcases h with h | h
    · rcases List.mem_cons.1 h with rfl | h
      · rfl
      · rcases List.mem_cons.1 h with rfl | h
        · rfl
        · rw [List.mem_singleton.1 h]; rfl
    · exact tkC_one' r u h
theorem own_emptyK (w : World) : (w.alloc (.cells #[] 33)).ownsRow w.heap.size 33 3 (.slice (some ⟨w.heap.size, 0, none⟩) 0 0) 0 (tkC []) :=
  ⟨rfl, .inr ⟨w.heap.size, 0, #[], rfl, Nat.le_refl _, heap_alloc_new w _, Nat.le_refl _, Nat.zero_le _, rfl, rfl⟩⟩
theorem ownK_below {w w' : World} {base s n : Nat} {e : TypeId} {v : Value} {xs : List Value} (h : w.ownsRow base e s v n xs) (hb : Below w.heap.size w w') : w'.ownsRow base e s v n xs := own_blockT h fun g e => hb.block g (own_lt h e).2
set_option maxHeartbeats 1000000 in
theorem cloneK_any (a : Option Addr) (cap : Nat) (L : List TK) (w : World) (hx : w.ownsRow 0 33 3 (.slice a L.length cap) L.length (tkC L)) (hL : L.length ≤ 1000000) :
    Calls Try.prog 14 #[.slice a L.length cap] w fun e w' => ∃ a' c', e = .returned (.slice a' L.length c') ∧ w'.ownsRow w.heap.size 33 3 (.slice a' L.length c') L.length (tkC L) ∧ Below w.heap.size w w' := by
  have HX := Lib.hid hx
  obtain ⟨n, hn⟩ : ∃ n, n = L.length := ⟨_, rfl⟩
  have HN := Lib.hid hn
  rcases a with _ | ad
  · have h0 : cap = 0 ∧ L.length = 0 := by
      rcases hx.2 with ⟨h, h2⟩ | ⟨g, c, cur, h, _⟩
      · injection h with _ _ h3; exact ⟨h3, h2⟩
      · injection h with h3; cases h3
    have hL0 : L = [] := List.eq_nil_of_length_eq_zero h0.2
    subst hL0
    obtain rfl := h0.1
    clear hx HX hn HN
    have he := eqlK_nil
    rw [show ([] : List TK).length = 0 from rfl]
    go_enter Try.func14, Try.ntmps14
    go_wp2
    go_ret
    exact ⟨_, _, rfl, World.ownsRow_nil _ _ _ _, Below.refl _ _⟩
  · have hg : ∃ g, ad = ⟨g, 0, none⟩ ∧ (0 < L.length → g < w.heap.size) ∧ cap ≤ maxLen ∧ L.length ≤ cap := by
      rcases hx.2 with ⟨h, _⟩ | ⟨g, c, cur, h, hb, hg, h1, h2, _⟩
      · cases h
      · cases h
        exact ⟨g, rfl, fun _ => (own_lt hx rfl).2, h2, h1⟩
    obtain ⟨g, rfl, hgl, hcm, hlc⟩ := hg
    have hnews : ∀ W, Below w.heap.size w W → ∀ j u, (tkC L)[j]? = some u → W.cell? ((⟨g, 0, none⟩ : Addr).add j) = some u := fun W hW j u hj => by
      rw [Addr.add_lit, Nat.zero_add]
      have hlt : j < (tkC L).length := by
        rcases Nat.lt_or_ge j (tkC L).length with h | h
        · exact h
        · rw [List.getElem?_eq_none h] at hj; cases hj
      rw [(hW.cell (p := ⟨g, j, none⟩) (hgl (by rw [tkC_len] at hlt; omega)))]
      rcases hx.2 with ⟨h, _⟩ | ⟨g', c, cur, h, hb, hg, h1, h2, h3, h4⟩
      · cases h
      · cases h
        rw [cell_of_row w g j cur _ _ hg]
        rw [← h4, List.getElem?_take] at hj
        split at hj
        · rw [Array.getElem?_toList] at hj; exact hj
        · cases hj
    have HNW := Lib.hid hnews
    have HCL := Lib.hid (show (tkC L).length = n * 3 by rw [tkC_len, hn])
    have HCO := Lib.hid (tkC_one' L)
    clear hnews hx hgl
    rw [← hn] at hL hlc HX ⊢
    clear hn
    obtain ⟨iT, hi, hz0, hz1, hz2⟩ := info_parts infoTKa
    have HI := Lib.hid (And.intro hi (And.intro hz0 (And.intro hz1 hz2)))
    clear hi hz0 hz1 hz2
    have he := fun w => eqlK_some w ⟨g, 0, none⟩ n cap
    go_enter Try.func14, Try.ntmps14
    go_wp2_with ((with_reducible show wpList _ _ _ (⟨some 7, _, _, _, _, _⟩ :: _) _ _); refine wpList_append_own _ rfl (.tmp 5) (.tmp 6) 29 rfl w.heap.size 33 iT (.agg #[.string ByteArray.empty, .int .i64 0, .int .i64 0]) 3 32 Try.underlying29 HI.out.1 HI.out.2.1 HI.out.2.2.1 HI.out.2.2.2 rfl (by decide) _ 0 (tkC []) rfl (own_emptyK w) ⟨g, 0, none⟩ n cap (tkC L) rfl HCL.out (HNW.out _ ((Below.refl _ _).alloc (Nat.le_refl _) _)) HCO.out (by unfold maxLen; omega) (by omega) (by simp) ?_; intro v1 wc hown1 hg1 _; rw [Nat.zero_add, show tkC [] ++ tkC L = tkC L from rfl] at hown1; have hBc := ((Below.refl _ w).alloc (Nat.le_refl _) _).grown hg1 (by simp) (own_block_le _ _ _); have HO := Lib.hid hown1; have HB := Lib.hid hBc; obtain ⟨ac, cc, hv⟩ := own_form3 hown1; subst hv; clear hown1 hg1 hBc)
    go_ret
    exact ⟨_, _, rfl, HO.out, HB.out⟩
end Go.Proofs.Ytmiafhblllbimaa
