/- Texts of mine, one behind the other: Hy1. -/
import Derived.Test.YtappfdbmhgifcaaGreatDoorZF22
import Derived.Test.YtappfdbmhgifcaaGreatDoorZF13
/- StripeForms where the shape may be: what its walk takes (plain, and the rows and places in memory). -/
namespace Go.Proofs.YtappfdbmhgifcaaGreatDoor
open Go.ChangeShapes Go.WideShapes Go.ChangeAt Go.RowKit Go.Shelf GF
set_option linter.unusedVariables false
set_option linter.unusedSimpArgs false
set_option maxRecDepth 100000

theorem pa_made (w : World) (n : Nat) (hn : n ≤ 1000000) : Pa (w.alloc (.cells (madeCells #[.int .u8 0] n) 5)) (some ⟨w.heap.size, 0, none⟩) n n (noR n) := by
  have ho := own_made (w := w) (e := 5) (n := n) (by unfold maxLen; omega)
  rw [show List.replicate n (0 : Int) = iL (noR n) by unfold noR iL; rw [List.map_replicate]; rfl] at ho
  exact own_paV ho
theorem pa_made2 (w : World) (o : Obj) (n : Nat) (hn : n ≤ 1000000) : Pa ((w.alloc o).alloc (.cells (madeCells #[.int .u8 0] n) 5)) (some ⟨w.heap.size + 1, 0, none⟩) n n (noR n) := by
  have h := pa_made (w.alloc o) n hn
  rwa [show (w.alloc o).heap.size = w.heap.size + 1 by simp] at h
theorem ia_nil17 (w : World) : IA w none 0 0 [] := ⟨rfl, Nat.le_refl _, Nat.zero_le _, fun _ => rfl, fun i => by simp, fun h => absurd h (by omega)⟩
theorem mat_nil17 (w : World) : Mat w none 0 0 [] := ⟨rfl, Nat.le_refl _, Nat.zero_le _, fun _ => rfl, [], RV.nil _ _, fun h => absurd h (by omega)⟩
theorem rw_set17 (M : List (List GF)) (i k : Nat) (P : List GF) : rw_ (M.set i P) k = if k = i ∧ i < M.length then P else rw_ M k := by
  unfold rw_
  simp only [List.getD_eq_getElem?_getD, List.getElem?_set]
  by_cases e : i = k
  · subst e
    by_cases h : i < M.length
    · simp [h]
    · simp [h]
  · rw [if_neg e, if_neg (fun h => e h.1.symm)]
theorem RV.set17 {w : World} {ok : Nat → Prop} {vs : List Value} {M : List (List GF)} (h : RV w ok vs M) {i : Nat} (hi : i < M.length) {a : Option Addr} {c : Nat} {P : List GF} (hp : Pa w a P.length c P) (ho : ∀ b off, a = some ⟨b, off, none⟩ → 0 < P.length → ok b) : RV w ok (vs.set i (.slice a P.length c)) (M.set i P) := by
  refine ⟨by simp [h.1], fun k hk => ?_⟩
  rw [rw_set17]
  by_cases e : k = i
  · subst e
    rw [if_pos ⟨rfl, hi⟩, List.getElem?_set_self (by rw [h.1]; exact hi)]
    refine ⟨a, c, rfl, hp.1.2.2.2.1, hp.1.2.2.2.2, hp.2, fun h0 => ?_⟩
    obtain ⟨b, off, e, hb, hc⟩ := hp.1.2.2.1 (by rw [length_iL]; exact h0)
    exact ⟨b, off, e, hb, ho b off e h0, fun j hj => by have := hc j (by rw [length_iL]; exact hj); rwa [getD_iL] at this⟩
  · rw [if_neg (fun h => e h.1), List.getElem?_set_ne (fun h => e h.symm)]
    exact h.2 k (by simpa using hk)
theorem lit_cellsF (w : World) (v : Value) (e : TypeId) : ∀ j u, [v][j]? = some u → (w.alloc (.cells #[v] e)).cell? ((⟨w.heap.size, 0, none⟩ : Addr).add j) = some u := fun j u hu => by
  rcases j with _ | j
  · have : v = u := by simpa using hu
    subst this
    simp [Addr.add]
  · simp at hu
theorem lit_cellsH (w : World) (v : Value) (e : TypeId) (H : Nat) (hH : w.heap.size = H) : ∀ j u, [v][j]? = some u → (w.alloc (.cells #[v] e)).cell? ((⟨H, 0, none⟩ : Addr).add j) = some u := by
  subst hH
  exact lit_cellsF w v e
theorem ia_own64 {w : World} {B n c : Nat} {a : Option Addr} {l : List Int} (h : w.ownsRow B 3 1 (.slice a n c) n (l.map (Value.int .i64))) (hl : ∀ x ∈ l, -9223372036854775808 ≤ x ∧ x ≤ 9223372036854775807) : IA w a n c l := by
  have hln : l.length = n := by have := h.1; simpa using this
  have hb : ∀ i, -9223372036854775808 ≤ l.getD i 0 ∧ l.getD i 0 ≤ 9223372036854775807 := fun i => by
    rcases Nat.lt_or_ge i l.length with h1 | h1
    · rw [List.getD_eq_getElem?_getD, List.getElem?_eq_getElem h1]; exact hl _ (List.getElem_mem h1)
    · rw [List.getD_eq_getElem?_getD, List.getElem?_eq_none h1]; exact ⟨by decide, by decide⟩
  have h0 := h
  obtain ⟨h1, h2⟩ := h
  rcases h2 with ⟨hv, hn⟩ | ⟨g, cap, cur, hv, hg, hh, hn, hm, hs, ht⟩
  · cases hv
    exact ⟨hln, Nat.le_refl _, Nat.zero_le _, fun _ => rfl, hb, fun h => absurd h (by omega)⟩
  · cases hv
    refine ⟨hln, hn, hm, fun h => (by cases h), hb, fun hp => ⟨g, 0, rfl, (Array.getElem?_eq_some_iff.1 hh).1, fun i hi => ?_⟩⟩
    rw [Nat.zero_add, h0.cellAt i (by omega)]
    rw [List.getElem?_map, List.getElem?_eq_getElem (by omega), List.getD_eq_getElem?_getD, List.getElem?_eq_getElem (by omega)]
    rfl
theorem upN_next (k : Nat) : zl (upN (k + 1)) = zl (upN k) ++ [((k + 1 : Nat) : Int)] := by simp [zl, upN, List.range_succ]
theorem set_nextF {vs : List Value} {n : Nat} (z v : Value) (h : vs.length < n) : (vs ++ List.replicate (n - vs.length) z).set vs.length v = (vs ++ [v]) ++ List.replicate (n - (vs.length + 1)) z := by
  rw [List.set_append_right _ _ (Nat.le_refl _), Nat.sub_self, show n - vs.length = (n - (vs.length + 1)) + 1 by omega, List.replicate_succ, List.set_cons_zero, List.append_assoc]
  rfl
theorem own_slice17f {w : World} {base size n : Nat} {e : TypeId} {v : Value} {vs : List Value} (h : w.ownsRow base e size v n vs) : ∃ a c, v = .slice a n c := by
  rcases h.2 with ⟨e1, e2⟩ | ⟨g, c, cur, e1, _⟩
  · exact ⟨none, 0, by rw [e1, e2]⟩
  · exact ⟨_, c, e1⟩
/-- The places, behind a row that is made and stored. -/
theorem formsA {V7 w7 : World} {B0 n N : Nat} {v : Value} {xs us : List Value} (hA : V7.ownsRow B0 3 1 v n xs) (hb : Below V7.heap.size V7 w7) (hO : V7.ownsRow B0 22 1 (.slice (some ⟨B0, 0, none⟩) N N) N us) (hB : B0 ≤ w7.heap.size) (i R : Nat) :
    ((w7.alloc (.cells (madeCells #[.int .u8 0] R) 5)).setCell ⟨B0, i, none⟩ (.slice (some ⟨w7.heap.size, 0, none⟩) R R)).ownsRow B0 3 1 v n xs :=
  ((own_belowV hA hb).alloc (.cells (madeCells #[.int .u8 0] R) 5)).kept (gb_set _ _ _ _) (own_neC ((own_belowV hA hb).alloc (.cells (madeCells #[.int .u8 0] R) 5)) ((own_belowV hO hb).alloc (.cells (madeCells #[.int .u8 0] R) 5)) (by decide))
theorem formsR {w6 V7 w7 w10 : World} {B0 N R i : Nat} {a : Option Addr} {c : Nat} {v10 : Value} {vs : List Value} (hO : V7.ownsRow B0 22 1 (.slice (some ⟨B0, 0, none⟩) N N) N (vs ++ List.replicate (N - vs.length) (.slice none 0 0)))
    (hRW : RV V7 (NewU V7 (B0 + 1)) vs (List.replicate i (noR R))) (hB : Below w6.heap.size w6 V7) (hb7 : Below V7.heap.size V7 w7) (hA : V7.ownsRow B0 3 1 (.slice a i c) i ((zl (upN i)).map (Value.int .i64))) (hB0 : B0 = w6.heap.size) (hvl : vs.length = i) (hlt : i < N) (hR : R ≤ 1000)
    (hown : w10.ownsRow B0 3 1 v10 (i + 1) ((zl (upN i)).map (Value.int .i64) ++ [.int .i64 ((i : Int) + 1)]))
    (hg : (((w7.alloc (.cells (madeCells #[.int .u8 0] R) 5)).setCell ⟨B0, i, none⟩ (.slice (some ⟨w7.heap.size, 0, none⟩) R R)).alloc (.cells #[.int .i64 ((i : Int) + 1)] 3)).grownBy w10 (Value.slice a i c).ownBlock) :
    w10.ownsRow B0 22 1 (.slice (some ⟨B0, 0, none⟩) N N) N ((vs ++ [.slice (some ⟨w7.heap.size, 0, none⟩) R R]) ++ List.replicate (N - (vs ++ [Value.slice (some ⟨w7.heap.size, 0, none⟩) R R]).length) (.slice none 0 0)) ∧
    RV w10 (NewU w10 (B0 + 1)) (vs ++ [.slice (some ⟨w7.heap.size, 0, none⟩) R R]) (List.replicate (i + 1) (noR R)) ∧
    w10.ownsRow B0 3 1 v10 (i + 1) ((zl (upN (i + 1))).map (Value.int .i64)) ∧ Below w6.heap.size w6 w10 := by
  have hs7 : B0 < w7.heap.size := Nat.lt_of_lt_of_le (hO.lt B0 rfl).2 hb7.size
  have hO8 := (own_belowV hO hb7).alloc (.cells (madeCells #[.int .u8 0] R) 5)
  have hO9 := (hO8.stored i (.slice (some ⟨w7.heap.size, 0, none⟩) R R)).1
  have hsn := set_nextF (vs := vs) (n := N) (.slice none 0 0) (.slice (some ⟨w7.heap.size, 0, none⟩) R R) (by omega)
  rw [hvl] at hsn hO9
  rw [hsn] at hO9
  have hA9 := formsA hA hb7 hO (Nat.le_of_lt hs7) i R
  have hA9' := hA9.alloc (.cells #[.int .i64 ((i : Int) + 1)] 3)
  have hO9' := hO9.alloc (.cells #[.int .i64 ((i : Int) + 1)] 3)
  have hM := own_made (w := w7) (e := 5) (n := R) (by unfold maxLen; omega)
  rw [show List.replicate R (0 : Int) = iL (noR R) by unfold noR iL; rw [List.map_replicate]; rfl] at hM
  have hM9 := hM.kept (gb_set (w7.alloc (.cells (madeCells #[.int .u8 0] R) 5)) B0 i (.slice (some ⟨w7.heap.size, 0, none⟩) R R)) (own_neC hM hO8 (by decide))
  have hR9 := ((hRW.onN hb7).onN ((Below.refl _ _).alloc (Nat.le_refl _) (.cells (madeCells #[.int .u8 0] R) 5))).grownN hO8 (by decide) (gb_set _ B0 i (.slice (some ⟨w7.heap.size, 0, none⟩) R R))
  have hR10 := ((hR9.moreN hM9 (by omega)).onN ((Below.refl _ _).alloc (Nat.le_refl _) (.cells #[.int .i64 ((i : Int) + 1)] 3))).grownN hA9' (by decide) hg
  refine ⟨?_, ?_, ?_, ?_⟩
  · rw [List.length_append, List.length_singleton, hvl]
    exact hO9'.kept hg (own_neC hO9' hA9' (by decide))
  · rw [List.replicate_succ']
    exact hR10
  · rw [upN_next, List.map_append]
    exact hown
  · have h1 : Below w6.heap.size w6 (((w7.alloc (.cells (madeCells #[.int .u8 0] R) 5)).setCell ⟨B0, i, none⟩ (.slice (some ⟨w7.heap.size, 0, none⟩) R R)).alloc (.cells #[.int .i64 ((i : Int) + 1)] 3)) :=
      (((bt hB hb7).alloc (by have := (bt hB hb7).size; omega) _).setCell (p := ⟨B0, i, none⟩) (by rw [hB0]; exact Nat.le_refl _) _).alloc (by have := (bt hB hb7).size; simp; omega) _
    exact h1.grown hg (by have := (bt hB hb7).size; simp; omega) (fun z hz => by rw [← hB0]; exact (hA9'.lt z hz).1)

theorem need_smallF {m : Int} {T N C : Nat} (h : Sh m T N C) (hN : N ≤ 7) : needV m T ≤ 4000 := by
  unfold Sh at h
  unfold needV
  split
  · have : (T - 1) * 440 ≤ 6 * 440 := Nat.mul_le_mul_right _ (by omega)
    omega
  · omega
theorem Mat.ownS17 {w : World} {base n c : Nat} {e : TypeId} {a : Option Addr} {vs : List Value} {ok : Nat → Prop} {M : List (List GF)} (h : w.ownsRow base e 1 (.slice a n c) n vs) (hv : RV w ok vs M) : Mat w a n c M := by
  obtain ⟨a', c', e, hi⟩ := Mat.own h hv
  cases e; exact hi
theorem rw_take17 {M : List (List GF)} {k i : Nat} (h : i < k) : rw_ (M.take k) i = rw_ M i := by unfold rw_; simp [List.getD_eq_getElem?_getD, List.getElem?_take, h]
theorem rw_rep {P : List GF} {n i : Nat} (h : i < n) : rw_ (List.replicate n P) i = P := by unfold rw_; simp [List.getD_eq_getElem?_getD, h]

/-- A world behind two makes, from the world ahead of them on. -/
theorem bt2 {w w1 : World} (h : Below w.heap.size w w1) (o : Obj) : Below w.heap.size w (w1.alloc o) := h.alloc h.size _

/-! ## The places, the first one another -/
def plF (N : Nat) (x : Int) : List Int := (zl (upN N)).set 0 x
theorem plF_len (N : Nat) (x : Int) : (plF N x).length = N := by simp [plF, zl, upN]
theorem plF_0 {N : Nat} (x : Int) (h : 0 < N) : (plF N x).getD 0 0 = x := by
  unfold plF
  rw [List.getD_eq_getElem?_getD, List.getElem?_set_self (by simp [zl, upN]; exact h)]
  rfl
theorem plF_s {N k : Nat} (x : Int) (h : 0 < k) (hk : k < N) : (plF N x).getD k 0 = ((k + 1 : Nat) : Int) := by
  unfold plF
  rw [List.getD_eq_getElem?_getD, List.getElem?_set_ne (by omega), ← List.getD_eq_getElem?_getD]
  exact up_getD hk
theorem plF_mem {N : Nat} {x z : Int} (h : z ∈ plF N x) : z = x ∨ (1 ≤ z ∧ z ≤ (N : Int)) := by
  rcases List.mem_or_eq_of_mem_set h with h1 | h1
  · obtain ⟨k, hk, rfl⟩ := List.mem_map.1 h1
    have := upN_lt hk
    exact Or.inr (by omega)
  · exact Or.inl h1
theorem plF_one {N : Nat} (h : 0 < N) : plF N 1 = zl (upN N) := by
  refine List.ext_getElem? fun i => ?_
  unfold plF
  rw [List.getElem?_set]
  by_cases e : 0 = i
  · subst e
    simp [zl, upN, h]
  · rw [if_neg e]
theorem up_apart {N : Nat} (hN : N ≤ 255) : Apart (gZ (zl (upN N))) := by
  rw [gZ_up]
  intro i j hi hj e
  have hi' : i < (plc N).length := hi
  have hn := plc_nodup hN
  unfold List.Nodup at hn
  rw [List.pairwise_iff_getElem] at hn
  refine hn j i (by omega) hi' hj ?_
  rw [← co_lt (by omega), ← co_lt hi']
  exact e.symm
theorem plF_not {N : Nat} {x : Int} (h1 : 1 < x) (h2 : x ≤ (N : Int)) : ¬ Apart (gZ (plF N x)) := by
  intro hA
  refine hA (x.toNat - 1) 0 (by rw [gZ_len, plF_len]; omega) (by omega) ?_
  rw [gZ_co, gZ_co, plF_0 x (by omega), plF_s x (by omega) (by omega)]
  congr 1
  omega

/-- The places behind the store of another first one. -/
theorem forms_put {w6 V : World} {B0 N gA c : Nat} {vs : List Value} {M : List (List GF)} {l : List Int} (x : Int) (hB : Below w6.heap.size w6 V) (hB0 : B0 = w6.heap.size)
    (hA : V.ownsRow B0 3 1 (.slice (some ⟨gA, 0, none⟩) N c) N (l.map (Value.int .i64))) (hO : V.ownsRow B0 22 1 (.slice (some ⟨B0, 0, none⟩) N N) N vs) (hR : RV V (NewU V (B0 + 1)) vs M) :
    (V.setCell ⟨gA, 0, none⟩ (.int .i64 x)).ownsRow B0 3 1 (.slice (some ⟨gA, 0, none⟩) N c) N ((l.set 0 x).map (Value.int .i64)) ∧
    (V.setCell ⟨gA, 0, none⟩ (.int .i64 x)).ownsRow B0 22 1 (.slice (some ⟨B0, 0, none⟩) N N) N vs ∧
    RV (V.setCell ⟨gA, 0, none⟩ (.int .i64 x)) (NewU (V.setCell ⟨gA, 0, none⟩ (.int .i64 x)) (B0 + 1)) vs M ∧
    Below w6.heap.size w6 (V.setCell ⟨gA, 0, none⟩ (.int .i64 x)) := by
  have hs := hA.stored 0 (.int .i64 x)
  have hge : B0 ≤ gA := (hA.lt gA rfl).1
  refine ⟨?_, hO.kept hs.2 (own_neC hO hA (by decide)), hR.grownN hA (by decide) hs.2, hB.setCell (p := ⟨gA, 0, none⟩) (by rw [← hB0]; exact hge) _⟩
  rw [List.map_set]
  exact hs.1
/-- The first row, cut by a byte. -/
theorem forms_cut {w6 V : World} {B0 N R gA c : Nat} {vs : List Value} {l : List Int} (hB : Below w6.heap.size w6 V) (hB0 : B0 = w6.heap.size)
    (hA : V.ownsRow B0 3 1 (.slice (some ⟨gA, 0, none⟩) N c) N (l.map (Value.int .i64))) (hO : V.ownsRow B0 22 1 (.slice (some ⟨B0, 0, none⟩) N N) N vs) (hR : RV V (NewU V (B0 + 1)) vs (List.replicate N (noR R)))
    (hN : 0 < N) (hR2 : 2 ≤ R) :
    ∃ b o cR, V.cell? ⟨B0, 0, none⟩ = some (.slice (some ⟨b, o, none⟩) R cR) ∧ R ≤ cR ∧ cR ≤ 9223372036854775807 ∧
      (V.setCell ⟨B0, 0, none⟩ (.slice (some ⟨b, o + 1, none⟩) (R - 1) (cR - 1))).ownsRow B0 3 1 (.slice (some ⟨gA, 0, none⟩) N c) N (l.map (Value.int .i64)) ∧
      Mat (V.setCell ⟨B0, 0, none⟩ (.slice (some ⟨b, o + 1, none⟩) (R - 1) (cR - 1))) (some ⟨B0, 0, none⟩) N N ((List.replicate N (noR R)).set 0 (noR (R - 1))) ∧
      Below w6.heap.size w6 (V.setCell ⟨B0, 0, none⟩ (.slice (some ⟨b, o + 1, none⟩) (R - 1) (cR - 1))) := by
  have hl : (noR R).length = R := by simp [noR]
  have h0 : rw_ (List.replicate N (noR R)) 0 = noR R := rw_rep hN
  obtain ⟨a, cR, hv, hp⟩ := hR.pa (i := 0) (by simp; exact hN)
  rw [h0, hl] at hp hv
  obtain ⟨b, o, rfl⟩ := hp.some_ (by omega)
  have hc := hO.cellAt 0 (by omega)
  rw [hv] at hc
  have hs := hO.stored 0 (.slice (some ⟨b, o + 1, none⟩) (R - 1) (cR - 1))
  have hr := hR.grownN hO (by decide) hs.2
  obtain ⟨a2, c2, hv2, hp2⟩ := hr.pa (i := 0) (by simp; exact hN)
  rw [h0, hl] at hp2 hv2
  rw [hv] at hv2
  cases hv2
  have hd := hp2.drop 1
  have hdl : (noR R).drop 1 = noR (R - 1) := by unfold noR; rw [List.drop_replicate]
  rw [hdl] at hd
  have hl1 : (noR (R - 1)).length = R - 1 := by simp [noR]
  obtain ⟨a5, c5, hv5, _, _, _, h6⟩ := hr.2 0 (by simp; exact hN)
  obtain ⟨b3, o3, e3, hlt3, hok, _⟩ := h6 (by rw [h0, hl]; omega)
  rw [h0, hl, hv] at hv5
  cases hv5
  cases e3
  have hset := hr.set17 (i := 0) (by simp; exact hN) (a := some ⟨b, o + 1, none⟩) (c := cR - 1) (P := noR (R - 1)) (by rw [hl1]; exact hd) (fun b' off' e' _ => by cases e'; exact hok)
  rw [hl1] at hset
  exact ⟨b, o, cR, hc, hp.bd.1, hp.bd.2, hA.kept hs.2 (own_neC hA hO (by decide)), Mat.ownS17 hs.1 hset, hB.setCell (p := ⟨B0, 0, none⟩) (by rw [hB0]; exact Nat.le_refl _) _⟩
end Go.Proofs.YtappfdbmhgifcaaGreatDoor
