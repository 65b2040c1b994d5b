/- Contracts of package medium as it landed: show, Read. -/
import Derived.Test.YtkfdcdfaikkneaaGreatDoorOf
import Derived.Deep.RegionWith
namespace Go.Proofs.YtkfdcdfaikkneaaGreatDoor
open Go.ChangeShapes Go.WideShapes Go.ChangeAt Go.RowKit Go.Shelf
set_option linter.unusedVariables false
set_option linter.unusedSimpArgs false
set_option maxRecDepth 100000
attribute [local go_sem] Oper.semAt_some

/-- Left by the end alone. -/
def onlyN (K : Act → World → Prop) : Exit → Act → World → Prop
  | .normal, a, w => K a w
  | _, _, _ => False
theorem wp_onlyN {P : Program} {c : Code} {Q : Exit → Act → World → Prop} {a : Act} {w : World} (h : c.wp P (onlyN (Q .normal)) a w) : c.wp P Q a w :=
  wp_mono h (fun e a w h => by cases e <;> first | exact h | exact h.elim)
theorem kept_ne {A : World} {k : Nat} {C : Array Value} {T : TypeId} {f : Nat × Nat} (h : A.heap[k]? = some (.cells C T f)) {row : Option Nat} (hr : ∀ r, row = some r → ∃ o : Obj, A.heap[r]? = some o ∧ o.isCells = false) : some k ≠ row := fun e => by
  obtain ⟨o, ho, hc⟩ := hr k e.symm
  rw [h] at ho; cases ho; cases hc
theorem heap_kept {A B : World} {k : Nat} {C : Array Value} {T : TypeId} {f : Nat × Nat} {row : Option Nat} (h : A.heap[k]? = some (.cells C T f)) (hg : A.grownBy B row) (hr : ∀ r, row = some r → ∃ o : Obj, A.heap[r]? = some o ∧ o.isCells = false) : B.heap[k]? = some (.cells C T f) :=
  (hg.block k (blk_lt h) (kept_ne h hr)).trans h
theorem own_kept {A B : World} {base s n : Nat} {e : TypeId} {v : Value} {xs : List Value} {row : Option Nat} (h : A.ownsRow base e s v n xs) (hg : A.grownBy B row) (hr : ∀ r, row = some r → ∃ o : Obj, A.heap[r]? = some o ∧ o.isCells = false) : B.ownsRow base e s v n xs :=
  own_blockT h fun g hv => by
    obtain ⟨C, hC⟩ := own_heap h hv
    exact hg.block g (blk_lt hC) (kept_ne hC hr)
theorem keepsOthers_below {w w' : World} (h : Below w.heap.size w w') : KeepsOthers w w' :=
  ⟨h.size, fun k o hk _ => (h.block k (Array.getElem?_eq_some_iff.1 hk).1).trans hk⟩
/-- The last write of a sector. -/
theorem lastW_none_of : ∀ {Z : List ZW} {i : Nat}, (∀ z, z ∈ Z → z.1.1 ≠ i) → lastW (Z.map Prod.fst) i = none
  | [], i, h => rfl
  | z :: Z, i, h => by
    rw [List.map_cons, lastW, lastW_none_of (fun y hy => h y (List.mem_cons_of_mem _ hy))]
    exact if_neg (h z (List.mem_cons_self ..))
theorem lastW_some_of : ∀ {Z : List ZW} {i j : Nat} {z : ZW}, Z[j]? = some z → z.1.1 = i → (∀ k y, j < k → Z[k]? = some y → y.1.1 ≠ i) → lastW (Z.map Prod.fst) i = some z.1.2
  | [], i, j, z, h, _, _ => by simp at h
  | x :: Z, i, 0, z, h, e, hk => by
    cases h
    rw [List.map_cons, lastW, lastW_none_of (fun y hy => by
      obtain ⟨k, hk2, rfl⟩ := List.getElem_of_mem hy
      exact hk (k + 1) _ (by omega) (by simp [hk2]))]
    exact if_pos e
  | x :: Z, i, j + 1, z, h, e, hk => by
    rw [List.map_cons, lastW, lastW_some_of (j := j) (z := z) (by simpa using h) e (fun k y hjk hy => hk (k + 1) y (by omega) (by simpa using hy))]
theorem bk_none {Z : List ZW} {ys : List IW} {i : Nat} (hl : ys.length = Z.length) (hb : BkW Z ys) (h : ∀ x, x ∈ ys → x.2.1.1 ≠ i) : lastW (Z.map Prod.fst) i = none := lastW_none_of fun z hz => by
  obtain ⟨j, hj, rfl⟩ := List.getElem_of_mem hz
  have hk : Z.length - 1 - j < ys.length := by omega
  obtain ⟨h1, h2⟩ := hb.2 (Z.length - 1 - j) _ (List.getElem?_eq_getElem hk)
  rw [show Z.length - 1 - (Z.length - 1 - j) = j by omega, List.getElem?_eq_getElem hj] at h2
  rw [Option.some.inj h2]
  exact h _ (List.getElem_mem hk)
theorem bk_some {Z : List ZW} {ini : List IW} {last : IW} {i : Nat} (hb : BkW Z (ini ++ [last])) (h : ∀ x, x ∈ ini → x.2.1.1 ≠ i) (e : last.2.1.1 = i) : lastW (Z.map Prod.fst) i = some last.2.1.2 := by
  have hlen : ini.length + 1 ≤ Z.length := by have := hb.1; simpa using this
  obtain ⟨h1, h2⟩ := hb.2 ini.length last (by rw [List.getElem?_append_right (Nat.le_refl _)]; simp)
  refine lastW_some_of h2 e fun k y hk hy => ?_
  have hkl := (List.getElem?_eq_some_iff.1 hy).1
  have hlt : Z.length - 1 - k < ini.length := by omega
  obtain ⟨h3, h4⟩ := hb.2 (Z.length - 1 - k) ini[Z.length - 1 - k] (by rw [List.getElem?_append_left hlt, List.getElem?_eq_getElem hlt])
  rw [show Z.length - 1 - (Z.length - 1 - k) = k by omega, hy] at h4
  rw [Option.some.inj h4]
  exact h _ (List.getElem_mem hlt)
def showO (o : Option (List Int)) : List Int × Int := match o with
  | none => ([], 10)
  | some b => (b, 0)
theorem RdW.put {Bx cap : Nat} {a : Option Addr} {Z : List ZW} {W : World} {l : Nat} {o : Obj} (o' : Obj) (hl : W.heap[l]? = some o) (ho : o.isCells = false) (h : RdW Bx a cap Z W) : RdW Bx a cap Z (W.putObj l o') := by
  have key : ∀ {p : Addr} {v : Value}, W.cell? p = some v → (W.putObj l o').cell? p = some v := fun {p v} hc => cell_kept hc (grownBy_putObj' W l o') (fun r e => by cases e; exact ⟨_, hl, ho⟩)
  refine ⟨key h.1, fun k z hz => ?_⟩
  obtain ⟨g, e, h1, h2⟩ := h.2 k z hz
  exact ⟨g, e, key h1, key h2⟩
theorem RdW.below {B Bx cap : Nat} {a : Option Addr} {Z : List ZW} {W W' : World} (h : RdW Bx a cap Z W) (hb : Below B W W') (hx : Bx < B) (hg : ∀ g, a = some ⟨g, 0, none⟩ → 0 < Z.length → g < B) : RdW Bx a cap Z W' := by
  refine ⟨(hb.cell (p := ⟨Bx, 0, none⟩) hx).trans h.1, fun k z hz => ?_⟩
  obtain ⟨g, e, h1, h2⟩ := h.2 k z hz
  have hlt := hg g e (by have := (List.getElem?_eq_some_iff.1 hz).1; omega)
  exact ⟨g, e, (hb.cell (p := ⟨g, k * 2, none⟩) hlt).trans h1, (hb.cell (p := ⟨g, k * 2 + 1, none⟩) hlt).trans h2⟩
theorem cell_of {w : World} {b : Nat} {v : Value} {T : TypeId} (h : w.heap[b]? = some (.cells #[v] T (0, 0))) : w.cell? ⟨b, 0, none⟩ = some v ∧ w.frozen? ⟨b, 0, none⟩ = false :=
  ⟨by rw [cell_of_row w b 0 _ _ _ h]; rfl, frozen_of_row w b 0 _ _ h⟩
theorem set_of {w : World} {b : Nat} {v : Value} {T : TypeId} (h : w.heap[b]? = some (.cells #[v] T (0, 0))) (u : Value) : (w.setCell ⟨b, 0, none⟩ u).heap[b]? = some (.cells #[u] T (0, 0)) := by
  rw [heap_setCell_same w b 0 _ _ _ h]; rfl
/-- A sector's bytes on the medium, as an argument. -/
theorem SecR.arg {w : World} {sb n sc : Nat} {m : Nat → Option (List Int)} (h : SecR w sb n sc m) {i : Nat} (hi : i < n) {b : List Int} (e : m i = some b) (hb : secOk b) : Arg8c w (some ⟨sb, i * 513 + 1, none⟩) 512 512 b := by
  refine ⟨⟨hb.1, hb.2, fun h0 => ⟨sb, i * 513 + 1, rfl, h.lt, fun k hk => ?_⟩, Nat.le_refl _, by unfold maxLen; omega⟩, fun e => by cases e⟩
  rw [h.cell (by have := hb.1; omega), secF_data _ _ _ (by have := hb.1; omega), e]; rfl
theorem arg_nil (w : World) : Arg8c w none 0 0 [] := ⟨⟨rfl, (by intro x hx; cases hx), Bs.nil _ _ _, Nat.le_refl _, Nat.zero_le _⟩, fun _ => rfl⟩
set_option maxHeartbeats 4000000 in
theorem show_any (tb : Nat) (S : MS) (pp : Option Nat) (sb sc : Nat) (ca : Option Addr) (cc : Nat) (Z : List ZW) (I : Nat) (w : World) (h : MedX w tb S pp sb sc ca cc Z) (hS : S.Ok) (hcl : Z.length ≤ 1000) (hi : I < S.size) :
    Calls Tryz.prog 54 #[tbV tb, .int .i64 (I : Nat)] w fun e w' => ∃ a c, e = .returned (.tuple #[.slice a (showO (S.shows I)).1.length c, .int .i64 (showO (S.shows I)).2]) ∧ Arg8c w' a (showO (S.shows I)).1.length c (showO (S.shows I)).1 ∧ NewA w a (showO (S.shows I)).1.length ∧ Below w.heap.size w w' := by
  obtain ⟨O, hO⟩ : ∃ O, O = showO (S.shows I) := ⟨_, rfl⟩
  rw [← hO]
  have HOO := Lib.hid hO
  clear hO
  have HX := Lib.hid h
  have HS := Lib.hid hS
  have hc1 := h.md.c1
  have hcap := cap_le h.row
  obtain ⟨N, hN⟩ : ∃ N, N = Z.length := ⟨_, rfl⟩
  have HN := Lib.hid hN
  rw [caV, ← hN] at hc1
  rw [← hN] at hcl hcap
  clear h hS hN
  refine (callsIn_wide (n := 3)).1 ?_
  refine callsIn_of_wp_marks Tryz.func54 rfl trivial ?_ rfl
  simp only [Tryz.ntmps54, List.size_toArray, List.length_cons, List.length_nil, Nat.reduceAdd, Nat.reduceSub, Array.replicate_succ, Array.replicate_zero, List.push_toArray, List.append_toArray, List.nil_append, List.cons_append]
  refine wpIn_wide.2 ?_
  go_upto_region 1 with fail
  obtain ⟨w3, hw3⟩ : ∃ w3, w3 = ((w.alloc (.cells #[.int .i64 (I : Nat)] 3)).alloc (.cells #[.slice none 0 0] 23)).alloc (.cells #[.int .i64 0] 34) := ⟨_, rfl⟩
  have hs3 : w3.heap.size = w.heap.size + 3 := by rw [hw3]; simp
  have hb3 : Below w.heap.size w w3 := by rw [hw3]; exact ((((Below.refl _ w).alloc (Nat.le_refl _) _).alloc (by simp) _).alloc (by simp; omega) _)
  have k0 : w3.heap[w.heap.size]? = some (.cells #[.int .i64 (I : Nat)] 3 (0, 0)) := by
    rw [hw3, heap_alloc_old _ _ (by simp; omega), heap_alloc_old _ _ (by simp)]; exact heap_alloc_new _ _
  have k1 : w3.heap[w.heap.size + 1]? = some (.cells #[.slice none 0 0] 23 (0, 0)) := by
    rw [hw3, heap_alloc_old _ _ (by simp)]
    have h := heap_alloc_new (w.alloc (.cells #[.int .i64 (I : Nat)] 3)) (.cells #[.slice none 0 0] 23)
    rwa [size_alloc1] at h
  have k2 : w3.heap[w.heap.size + 1 + 1]? = some (.cells #[.int .i64 0] 34 (0, 0)) := by
    rw [hw3]
    have h := heap_alloc_new ((w.alloc (.cells #[.int .i64 (I : Nat)] 3)).alloc (.cells #[.slice none 0 0] 23)) (.cells #[.int .i64 0] 34)
    rwa [size_alloc1, size_alloc1] at h
  rw [← hw3]
  have hcx : w3.cell? ⟨tb, 1, none⟩ = some (.slice ca N cc) := (hb3.cell (p := ⟨tb, 1, none⟩) (blk_lt HX.out.md)).trans hc1
  clear hw3 hc1
  go_wp2_with (go_at_call 83; go_loud (refine (backW_any _ _ _ _).mono ?_; rintro e w' ⟨rfl, rfl⟩))
  have hs4 : (w3.alloc (.cells #[.slice ca N cc] 99)).heap.size = w.heap.size + 4 := by simp; omega
  have hb4 : Below w3.heap.size w3 (w3.alloc (.cells #[.slice ca N cc] 99)) := (Below.refl _ _).alloc (Nat.le_refl _) _
  have kb : (w3.alloc (.cells #[.slice ca N cc] 99)).heap[w3.heap.size]? = some (.cells #[.slice ca N cc] 99 (0, 0)) := heap_alloc_new _ _
  have k0 := (hb4.block w.heap.size (by omega)).trans k0
  have k1 := (hb4.block (w.heap.size + 1) (by omega)).trans k1
  have k2 := (hb4.block (w.heap.size + 1 + 1) (by omega)).trans k2
  have hb0 : Below w.heap.size w (w3.alloc (.cells #[.slice ca N cc] 99)) := hb3.trans (hb4.mono hb3.size)
  have hRd : RdW w3.heap.size ca cc Z (w3.alloc (.cells #[.slice ca N cc] 99)) := by
    refine ⟨by rw [← HN.out]; exact (cell_of kb).1, fun k z hz => ?_⟩
    obtain ⟨g, e, _, h1, h2⟩ := (HX.out.on hb0).at_ hz
    exact ⟨g, e, h1, h2⟩
  have hlow : ∀ g, ca = some ⟨g, 0, none⟩ → 0 < Z.length → g < w.heap.size := fun g e h0 => (own_lt HX.out.row (by rw [caV, e]; rfl)).2
  have HLOW := Lib.hid hlow
  generalize w3.alloc (.cells #[.slice ca N cc] 99) = w4 at *
  rw [hs3] at hRd
  have hmem : ∀ x : IWz Z, x.1.2 ∈ Z := fun x => List.mem_of_getElem? x.2
  have HMEM := Lib.hid hmem
  clear hcx hb4 kb hb3 hmem
  refine (wpIn_wide (n := 3)).1 ?_
  refine wpIn_rangeFunc_ownH rfl (by omega) (gf := 99) (lb := #[.pointer (some ⟨w.heap.size + 3, 0, none⟩)]) rfl trivial (enters_of Tryz.func99 (by kernel_rfl) rfl)
    (backW_stops Fence.wide (3 - 1) trivial rfl (by omega) (w.heap.size + 3) cc ca Z (by rw [← HN.out]; exact hcl) w4 (by omega) hRd (fun g e h0 => by have := hlow g e h0; omega)) (fun h k r => k (h r)) (fun W l o o' _ hl ho _ r => r.put o' hl ho) (Below.refl _ _) (fun _ => by rfl)
    (fun (pre : List (IWz Z)) W => (w.heap.size + 4 ≤ W.heap.size ∧ (∀ x, x ∈ ivs pre → x.2.1.1 ≠ I) ∧ W.heap[w.heap.size]? = some (.cells #[.int .i64 (I : Nat)] 3 (0, 0)) ∧ W.heap[w.heap.size + 1]? = some (.cells #[.slice none 0 0] 23 (0, 0)) ∧ W.heap[w.heap.size + 1 + 1]? = some (.cells #[.int .i64 0] 34 (0, 0))) ∧ Below w.heap.size w W)
    (fun c (pre : List (IWz Z)) W => (c = .ret ∧ ∃ (ini : List IW) (last : IW) (a : Option Addr) (c' : Nat), ivs pre = ini ++ [last] ∧ (∀ x, x ∈ ini → x.2.1.1 ≠ I) ∧ last.2.1.1 = I ∧ W.heap[w.heap.size + 1]? = some (.cells #[.slice a 512 c'] 23 (0, 0)) ∧ W.heap[w.heap.size + 1 + 1]? = some (.cells #[.int .i64 0] 34 (0, 0)) ∧
      W.ownsRow w.heap.size 5 1 (.slice a 512 c') 512 (last.2.1.2.map (Value.int .u8)) ∧ AllB last.2.1.2 ∧ last.2.1.2.length = 512) ∧ Below w.heap.size w W)
    (OwnFrom.and (Own.from (fun s A B row hs hg hr => ⟨Nat.le_trans hs.1 hg.size, hs.2.1, heap_kept hs.2.2.1 hg hr, heap_kept hs.2.2.2.1 hg hr, heap_kept hs.2.2.2.2 hg hr⟩) _) (ownFrom_below (Nat.le_refl _) (by omega)))
    (fun c => OwnFrom.and (Own.from (fun s A B row hs hg hr => by
      obtain ⟨hc, ini, last, a, c', e1, e2, e3, e4, e5, e6, e7, e8⟩ := hs
      exact ⟨hc, ini, last, a, c', e1, e2, e3, heap_kept e4 hg hr, heap_kept e5 hg hr, own_kept e6 hg hr, e7, e8⟩) _) (ownFrom_below (Nat.le_refl _) (by omega)))
    ⟨⟨by omega, (fun x hx => by cases hx), k0, k1, k2⟩, hb0⟩
    (fun (x : IWz Z) a' W => ∃ Bx, w4.heap.size ≤ Bx ∧ W.heap[Bx]? = some (.cells #[.int .i64 (x.1.2.1.1 : Nat), .slice x.1.2.2.1 512 x.1.2.2.2] 122 (0, 0)) ∧ a' = { tmps := #[tbV tb, .int .i64 (I : Nat), undef, .pointer (some ⟨w.heap.size, 0, none⟩), .pointer (some ⟨w.heap.size + 1, 0, none⟩), .pointer (some ⟨w.heap.size + 1 + 1, 0, none⟩), undef, .pointer (some ⟨Bx, 0, none⟩), tbV tb, .pointer (some ⟨tb, 0, none⟩), .pointer (some ⟨tb, 1, none⟩), .slice ca N cc, .func (.func 99) #[] #[.pointer (some ⟨w.heap.size + 3, 0, none⟩)], .int .i64 (x.1.1 : Nat), zA x.1.2, undef, undef, undef, undef, undef, undef, undef, undef, undef, undef, undef, undef, undef, undef, undef, undef, undef, undef, undef, undef, undef, undef, undef, undef], defers := [] })
    (fun x a' _ A B row hs hg hr => by
      obtain ⟨Bx, h1, h2, h3⟩ := hs
      exact ⟨Bx, h1, heap_kept h2 hg (fun r e => (hr r e).2), h3⟩)
    ?assign ?body ?done ?stop
  case assign =>
    rintro l pre x W K hI hK
    dsimp only [zA, itW] at hK ⊢
    gi_wp2
    obtain ⟨⟨h0, h1, h2, h3, h4⟩, hB⟩ := hI
    have hal : Below W.heap.size W (W.alloc (.cells #[.int .i64 (x.1.2.1.1 : Nat), .slice x.1.2.2.1 512 x.1.2.2.2] 122)) := (Below.refl _ _).alloc (Nat.le_refl _) _
    exact hK _ _ ((KeepsOthers.alloc _ _).from _) (fun r => r.below hal (by omega) (fun g e h0 => by have := HLOW.out g e h0; have := hB.size; omega)) ⟨⟨by simp; omega, h1, (hal.block _ (blk_lt h2)).trans h2, (hal.block _ (blk_lt h3)).trans h3, (hal.block _ (blk_lt h4)).trans h4⟩, hB.alloc hB.size _⟩ ⟨W.heap.size, by omega, heap_alloc_new W _, rfl⟩
  case body =>
    rintro l pre x a' W hl ⟨r, hr⟩ ⟨⟨h0, h1, h2, h3, h4⟩, hB⟩ ⟨Bx, hBx, hT, rfl⟩ hlt
    have hcT0 : W.cell? ⟨Bx, 0, none⟩ = some (.int .i64 (x.1.2.1.1 : Nat)) := by rw [cell_of_row W Bx 0 _ _ _ hT]; rfl
    have hcT1 : W.cell? ⟨Bx, 1, none⟩ = some (.slice x.1.2.2.1 512 x.1.2.2.2) := by rw [cell_of_row W Bx 1 _ _ _ hT]; rfl
    have hci := (cell_of h2).1
    obtain ⟨SS, hSS⟩ : ∃ SS, SS = x.1.2.1.1 := ⟨_, rfl⟩
    obtain ⟨da, hda⟩ : ∃ da, da = x.1.2.2.1 := ⟨_, rfl⟩
    obtain ⟨dc, hdc⟩ : ∃ dc, dc = x.1.2.2.2 := ⟨_, rfl⟩
    rw [← hSS] at hcT0
    rw [← hda, ← hdc] at hcT1
    obtain ⟨ZA, hZA⟩ : ∃ ZA, ZA = zA x.1.2 := ⟨_, rfl⟩
    rw [← hZA]
    have HSS := Lib.hid (And.intro hSS (And.intro hda hdc))
    have H1 := Lib.hid h1
    have H2 := Lib.hid h2
    have H3 := Lib.hid h3
    have H4 := Lib.hid h4
    have HB := Lib.hid hB
    clear hZA hSS hda hdc h1 h2 hT
    by_cases hz : SS = I
    · have q : ((SS : Int) == (I : Int)) = true := by rw [hz]; simp
      have hk3 := (cell_of h3).1
      have hk4 := (cell_of h4).1
      have hxw := HX.out.on hB
      have hdz := hxw.dat x.1.2 (HMEM.out x)
      have hdcap := cap_le hdz.2.2
      have HDZ := Lib.hid hdz
      have HCL := Lib.hid (cloneB_any da 512 dc x.1.2.1.2 W (by rw [HSS.out.2.1, HSS.out.2.2]; exact arg_of_own hdz.2.2 hdz.2.1) (by omega))
      rw [← HSS.out.2.2] at hdcap
      have hl3 := blk_lt h3
      have hl4 := blk_lt h4
      clear h3 h4 hB hxw hdz
      gi_wp2_with (refine ⟨trivial, ?_⟩; gi_at_call 69; refine (CallsIn.inRound l (callsIn_wide.2 HCL.out)).mono ?_; rintro e W1 ⟨a1, c1, rfl, ho1, ha1, hb1⟩; have HO1 := Lib.hid ho1; have HB1 := Lib.hid hb1; have m3 := (hb1.block _ hl3).trans H3.out; have m4 := (hb1.block _ hl4).trans H4.out; have M3 := Lib.hid m3; have M4 := Lib.hid m4; have n3 := (cell_of m3).1; have f3 := (cell_of m3).2; have n4 := (cell_of m4).1; have f4 := (cell_of m4).2; have n5 : (W1.setCell ⟨w.heap.size + 1, 0, none⟩ (.slice a1 512 c1)).cell? ⟨w.heap.size + 1 + 1, 0, none⟩ = some (.int .i64 0) := (World.cell?_of_block (w := W1) (heap_setCell_other W1 ⟨w.heap.size + 1, 0, none⟩ (w.heap.size + 1 + 1) _ (show w.heap.size + 1 + 1 ≠ w.heap.size + 1 by omega))).trans n4; clear ho1 ha1 hb1 m3 m4)
      have hw5 := set_of M3.out (.slice a1 512 c1)
      have hw6 : (W1.setCell ⟨w.heap.size + 1, 0, none⟩ (.slice a1 512 c1)).heap[w.heap.size + 1 + 1]? = some (.cells #[.int .i64 0] 34 (0, 0)) := (heap_setCell_other W1 ⟨w.heap.size + 1, 0, none⟩ (w.heap.size + 1 + 1) _ (show w.heap.size + 1 + 1 ≠ w.heap.size + 1 by omega)).trans M4.out
      have hne : ∀ g, (Value.slice a1 512 c1).ownBlock = some g → w.heap.size + 4 ≤ g := fun g e => by have := (own_lt HO1.out e).1; omega
      refine ⟨((keepsOthers_below HB1.out).trans ((KeepsOthers.setCell _ _ _).trans (KeepsOthers.setCell _ _ _))).from _, ⟨rfl, ivs pre, x.1, a1, c1, ivs_snoc pre x, H1.out, by rw [← HSS.out.1]; exact hz, ?_, ?_, ?_, HDZ.out.2.1, HDZ.out.1⟩, ?_⟩
      · exact (heap_setCell_other _ ⟨w.heap.size + 1 + 1, 0, none⟩ (w.heap.size + 1) _ (show w.heap.size + 1 ≠ w.heap.size + 1 + 1 by omega)).trans hw5
      · exact set_of hw6 _
      · refine own_blockT (own_low HO1.out (show w.heap.size ≤ W.heap.size by omega)) (fun g e => ?_)
        have := hne g e
        exact (heap_setCell_other _ ⟨w.heap.size + 1 + 1, 0, none⟩ g _ (show g ≠ w.heap.size + 1 + 1 by omega)).trans (heap_setCell_other _ ⟨w.heap.size + 1, 0, none⟩ g _ (show g ≠ w.heap.size + 1 by omega))
      · exact ((bt HB.out HB1.out).setCell (p := ⟨w.heap.size + 1, 0, none⟩) (Nat.le_succ _) _).setCell (p := ⟨w.heap.size + 1 + 1, 0, none⟩) (show w.heap.size ≤ w.heap.size + 1 + 1 by omega) _
    · have q : ((SS : Int) == (I : Int)) = false := by simp; omega
      clear h3 h4 hB
      gi_wp2
      exact ⟨KeepsFrom.refl _ _, fun r => r, ⟨h0, fun y hy => by
        rw [ivs_snoc] at hy
        rcases List.mem_append.1 hy with hy | hy
        · exact H1.out y hy
        · rw [List.mem_singleton.1 hy, ← HSS.out.1]; exact hz, H2.out, H3.out, H4.out⟩, HB.out⟩
  case done =>
    rintro D ys W hD ⟨hys, hbk⟩ ⟨⟨h0, h1, h2, h3, h4⟩, hB⟩ hK
    have hnone := bk_none (ys := ivs ys) (by rw [List.length_map]; exact hys) hbk h1
    have hshow : S.shows I = S.med I := by unfold MS.shows; rw [HX.out.cache, hnone]
    have hx := HX.out.on hB
    have hc0 := hx.md.c0
    have hcs : W.cell? ⟨sb, I * 513, none⟩ = some (.bool (S.med I).isNone) := by rw [hx.sec.cell (by omega), secF_head]
    have hci := (cell_of h2).1
    have hsz := HS.out.size2
    have q1 : (I : Int) < (S.size : Int) := by omega
    have q2 : (0 : Int) ≤ (I : Int) := by omega
    have HXW := Lib.hid hx
    have H3 := Lib.hid h3
    have H4 := Lib.hid h4
    have HB := Lib.hid hB
    have HK := Lib.hid hK
    have HD := Lib.hid hD
    have HSH := Lib.hid hshow
    cases hm : S.med I with
    | none =>
      obtain rfl : O = ([], 10) := by rw [HOO.out, HSH.out, hm]; rfl
      rw [hm] at hcs
      have n3 := (cell_of h3).1
      have f3 := (cell_of h3).2
      have n4 := (cell_of h4).1
      have f4 := (cell_of h4).2
      clear hx h0 h1 h2 h3 h4 hB hK hD hnone hshow hbk hys
      go_wp2_with fail
      go_quiet (fail)
      obtain ⟨W2, hW2⟩ : ∃ W2, W2 = W.drewN nq := ⟨_, rfl⟩
      rw [← hW2]
      have m3 : W2.heap[w.heap.size + 1]? = some (.cells #[.slice none 0 0] 23 (0, 0)) := by rw [hW2]; exact H3.out
      have m4 : W2.heap[w.heap.size + 1 + 1]? = some (.cells #[.int .i64 0] 34 (0, 0)) := by rw [hW2]; exact H4.out
      have mK : W2.heap[D]? = some (.deferred (some [])) := by rw [hW2]; exact HK.out
      have mB : Below w.heap.size w W2 := by rw [hW2]; exact HB.out.trans ((below_drewN (Below.refl _ _) _).mono HB.out.size)
      have w5 := set_of m3 (.slice none 0 0)
      have w6 : (W2.setCell ⟨w.heap.size + 1, 0, none⟩ (.slice none 0 0)).heap[w.heap.size + 1 + 1]? = some (.cells #[.int .i64 0] 34 (0, 0)) := (heap_setCell_other W2 ⟨w.heap.size + 1, 0, none⟩ (w.heap.size + 1 + 1) _ (show w.heap.size + 1 + 1 ≠ w.heap.size + 1 by omega)).trans m4
      have n3 := (cell_of m3).1
      have f3 := (cell_of m3).2
      have n4 := (cell_of w6).1
      have f4 := (cell_of w6).2
      have n4' := (cell_of m4).1
      have f4' := (cell_of m4).2
      have v3 := (heap_setCell_other (W2.setCell ⟨w.heap.size + 1, 0, none⟩ (.slice none 0 0)) ⟨w.heap.size + 1 + 1, 0, none⟩ (w.heap.size + 1) (.int .i64 10) (show w.heap.size + 1 ≠ w.heap.size + 1 + 1 by omega)).trans w5
      have v4 := set_of w6 (.int .i64 10)
      have hne : w.heap.size + 4 ≤ D := by have := HD.out; omega
      have vK := (((KeepsOthers.setCell W2 ⟨w.heap.size + 1, 0, none⟩ (.slice none 0 0)).trans (KeepsOthers.setCell _ ⟨w.heap.size + 1 + 1, 0, none⟩ (.int .i64 10))).same D _ mK rfl)
      have vB := (mB.setCell (p := ⟨w.heap.size + 1, 0, none⟩) (Nat.le_succ _) (.slice none 0 0)).setCell (p := ⟨w.heap.size + 1 + 1, 0, none⟩) (show w.heap.size ≤ w.heap.size + 1 + 1 by omega) (.int .i64 10)
      have V3 := Lib.hid v3
      have V4 := Lib.hid v4
      have VK := Lib.hid vK
      have VB := Lib.hid vB
      clear m3 m4 mK mB w5 w6 v3 v4 vK vB hW2
      go_wp2_with fail
      refine ⟨by simp, .inl ⟨_, _, rfl, run_takeDeferred VK.out, ?_⟩⟩
      have hr : ∀ r, some D = some r → ∃ o : Obj, ((W2.setCell ⟨w.heap.size + 1, 0, none⟩ (.slice none 0 0)).setCell ⟨w.heap.size + 1 + 1, 0, none⟩ (.int .i64 10)).heap[r]? = some o ∧ o.isCells = false := fun r e => by cases e; exact ⟨_, VK.out, rfl⟩
      have hn3 := (cell_of (heap_kept V3.out (grownBy_putObj' _ D (.deferred none)) hr)).1
      have hn4 := (cell_of (heap_kept V4.out (grownBy_putObj' _ D (.deferred none)) hr)).1
      refine ⟨.tuple #[.slice none 0 0, .int .i64 10], ?_, none, 0, rfl, arg_nil _, fun h0 => absurd h0 (by decide), VB.out.trans (belowK_b (w := w) (Nat.le_refl _) _ D _ _ (by omega) VK.out rfl rfl)⟩
      simp [results, Tryz.f54, go_sem, hn3, hn4]
    | some b =>
      obtain rfl : O = (b, 0) := by rw [HOO.out, HSH.out, hm]; rfl
      rw [hm] at hcs
      have hsok := HS.out.med I b hm
      have HSOK := Lib.hid hsok
      have HCL := Lib.hid (show ∀ V, Below W.heap.size W V → _ from fun V hV => cloneB_any (some ⟨sb, I * 513 + 1, none⟩) 512 512 b V ((HXW.out.on hV).sec.arg hi hm hsok) (by omega))
      have hal := arrLen75
      have hl3 := blk_lt h3
      have hl4 := blk_lt h4
      clear hx h0 h1 h2 h3 h4 hB hK hD hnone hshow hbk hys hm hsok
      go_wp2_with fail
      go_quiet (fail)
      have hc0 : (W.drewN nq).cell? ⟨tb, 0, none⟩ = some (.slice (some ⟨sb, 0, none⟩) S.size sc) := hc0
      have hci : (W.drewN nq).cell? ⟨w.heap.size, 0, none⟩ = some (.int .i64 (I : Nat)) := hci
      have HBQ := Lib.hid (show Below W.heap.size W (W.drewN nq) from below_drewN (Below.refl _ _) _)
      generalize W.drewN nq = W2 at *
      go_wp2_with fail
      refine wp_onlyN ?_
      go_region_with (go_at_call 69; go_loud (refine (HCL.out _ (by first | exact HBQ.out | exact HBQ.out.drew)).mono ?_; rintro e W3 ⟨a1, c1, rfl, ho1, ha1, hb1⟩; have HO1 := Lib.hid ho1; have hB1 := bt (show Below W.heap.size W _ from by first | exact HBQ.out | exact HBQ.out.drew) hb1; have HB1 := Lib.hid hB1; have HBX := Lib.hid hb1; have m3 := (hB1.block _ hl3).trans H3.out; have m4 := (hB1.block _ hl4).trans H4.out; have M3 := Lib.hid m3; have M4 := Lib.hid m4; have n3 := (cell_of m3).1; have f3 := (cell_of m3).2; have n4 := (cell_of m4).1; have f4 := (cell_of m4).2; have n5 : (W3.setCell ⟨w.heap.size + 1, 0, none⟩ (.slice a1 512 c1)).cell? ⟨w.heap.size + 1 + 1, 0, none⟩ = some (.int .i64 0) := (World.cell?_of_block (w := W3) (heap_setCell_other W3 ⟨w.heap.size + 1, 0, none⟩ (w.heap.size + 1 + 1) _ (show w.heap.size + 1 + 1 ≠ w.heap.size + 1 by omega))).trans n4; clear ho1 ha1 hb1 hB1 m3 m4))
      all_goals
        have w5 := set_of M3.out (.slice a1 512 c1)
        have w6 : (W3.setCell ⟨w.heap.size + 1, 0, none⟩ (.slice a1 512 c1)).heap[w.heap.size + 1 + 1]? = some (.cells #[.int .i64 0] 34 (0, 0)) := (heap_setCell_other W3 ⟨w.heap.size + 1, 0, none⟩ (w.heap.size + 1 + 1) _ (show w.heap.size + 1 + 1 ≠ w.heap.size + 1 by omega)).trans M4.out
        have mK : W3.heap[D]? = some (.deferred (some [])) := (HB1.out.block D (Array.getElem?_eq_some_iff.1 HK.out).1).trans HK.out
        have v3 := (heap_setCell_other (W3.setCell ⟨w.heap.size + 1, 0, none⟩ (.slice a1 512 c1)) ⟨w.heap.size + 1 + 1, 0, none⟩ (w.heap.size + 1) (.int .i64 0) (show w.heap.size + 1 ≠ w.heap.size + 1 + 1 by omega)).trans w5
        have v4 := set_of w6 (.int .i64 0)
        have hne : w.heap.size + 4 ≤ D := by have := HD.out; omega
        have vK := (((KeepsOthers.setCell W3 ⟨w.heap.size + 1, 0, none⟩ (.slice a1 512 c1)).trans (KeepsOthers.setCell _ ⟨w.heap.size + 1 + 1, 0, none⟩ (.int .i64 0))).same D _ mK rfl)
        have vB := ((HB.out.trans (HB1.out.mono HB.out.size)).setCell (p := ⟨w.heap.size + 1, 0, none⟩) (Nat.le_succ _) (.slice a1 512 c1)).setCell (p := ⟨w.heap.size + 1 + 1, 0, none⟩) (show w.heap.size ≤ w.heap.size + 1 + 1 by omega) (.int .i64 0)
        have hlo : ∀ g, (Value.slice a1 512 c1).ownBlock = some g → w.heap.size + 3 ≤ g := fun g e => by
          have h1 := (own_lt HO1.out e).1
          have h2 := HBQ.out.size
          have h3 : W2.drew.heap.size = W2.heap.size := rfl
          omega
        have vo := own_blockT (own_low HO1.out (Nat.zero_le _)) (w' := (W3.setCell ⟨w.heap.size + 1, 0, none⟩ (.slice a1 512 c1)).setCell ⟨w.heap.size + 1 + 1, 0, none⟩ (.int .i64 0)) (fun g e => by
          have := hlo g e
          exact (heap_setCell_other _ ⟨w.heap.size + 1 + 1, 0, none⟩ g _ (show g ≠ w.heap.size + 1 + 1 by omega)).trans (heap_setCell_other _ ⟨w.heap.size + 1, 0, none⟩ g _ (show g ≠ w.heap.size + 1 by omega)))
        have V3 := Lib.hid v3
        have V4 := Lib.hid v4
        have VK := Lib.hid vK
        have VB := Lib.hid vB
        have VO := Lib.hid vo
        have HLO := Lib.hid hlo
        clear mK w5 w6 v3 v4 vK vB vo hlo n3 n4 n5 f3 f4 hc0 hci hcs
        simp only [onlyN]
        go_wp2_with fail
        refine ⟨by simp, .inl ⟨_, _, rfl, run_takeDeferred VK.out, ?_⟩⟩
        have hr : ∀ r, some D = some r → ∃ o : Obj, ((W3.setCell ⟨w.heap.size + 1, 0, none⟩ (.slice a1 512 c1)).setCell ⟨w.heap.size + 1 + 1, 0, none⟩ (.int .i64 0)).heap[r]? = some o ∧ o.isCells = false := fun r e => by cases e; exact ⟨_, VK.out, rfl⟩
        have hn3 := (cell_of (heap_kept V3.out (grownBy_putObj' _ D (.deferred none)) hr)).1
        have hn4 := (cell_of (heap_kept V4.out (grownBy_putObj' _ D (.deferred none)) hr)).1
        have hof := own_kept VO.out (grownBy_putObj' _ D (.deferred none)) hr
        have hb5 := HSOK.out.1
        refine ⟨.tuple #[.slice a1 512 c1, .int .i64 0], ?_, a1, c1, by rw [hb5], by rw [hb5]; exact arg_of_own hof HSOK.out.2, fun _ g o e => by have := HLO.out g (by rw [e]; rfl); omega, VB.out.trans (belowK_b (w := w) (Nat.le_refl _) _ D _ _ (by omega) VK.out rfl rfl)⟩
        simp [results, Tryz.f54, go_sem, hn3, hn4]
  case stop =>
    rintro D c pre W hD hbk ⟨⟨rfl, ini, last, a1, c1, e1, e2, e3, h3, h4, ho, hbB, hbl⟩, hB⟩ hK
    have hlast : lastW (Z.map Prod.fst) I = some last.2.1.2 := bk_some (by rw [← e1]; exact hbk) e2 e3
    have hshow : S.shows I = some last.2.1.2 := by unfold MS.shows; rw [HX.out.cache, hlast]
    gi_wp2
    refine ⟨by simp, .inl ⟨_, _, rfl, run_takeDeferred hK, ?_⟩⟩
    have hr : ∀ r, some D = some r → ∃ o : Obj, W.heap[r]? = some o ∧ o.isCells = false := fun r e => by cases e; exact ⟨_, hK, rfl⟩
    have hn3 := (cell_of (heap_kept h3 (grownBy_putObj' W D (.deferred none)) hr)).1
    have hn4 := (cell_of (heap_kept h4 (grownBy_putObj' W D (.deferred none)) hr)).1
    have hof := own_kept ho (grownBy_putObj' W D (.deferred none)) hr
    obtain rfl : O = (last.2.1.2, 0) := by rw [HOO.out, hshow]; rfl
    refine ⟨.tuple #[.slice a1 512 c1, .int .i64 0], ?_, a1, c1, by dsimp only; rw [hbl], by dsimp only; rw [hbl]; exact arg_of_own (own_low hof (Nat.zero_le _)) hbB, fun _ b o e => (own_lt ho (by rw [e]; rfl)).1, hB.trans (belowK_b (w := w) (Nat.le_refl _) W D _ _ (by omega) hK rfl rfl)⟩
    simp [results, Tryz.f54, go_sem, hn3, hn4]
theorem opRead_shows {S : MS} {i l : Int} {u : Nat} (h1 : ¬ (S.down = true ∨ l = 0)) (h2 : inR S i) : (opRead S i l u).out = (showO (S.shows i.toNat)).1 ∧ (opRead S i l u).err = (showO (S.shows i.toNat)).2 := by
  unfold opRead
  rw [if_neg h1, if_neg (fun h => h h2)]
  cases h : S.shows i.toNat <;> exact ⟨rfl, rfl⟩
set_option maxHeartbeats 2000000 in
theorem read_any (tb : Nat) (F Fp : Nat → Prop) (S : MS) (pp : Option Nat) (l : Int) (u : Nat) (i : Int) (w : World) (hR : MedR w tb F S pp) (hp : PO MedP w pp Fp l u) (hd : ∀ k, F k → ¬ Fp k) (hS : S.Ok) (hl : LeftOk l) (hcl : S.cache.length ≤ 1000) (hu : u ≤ 1000) (hi : i64R i) :
    Calls Tryz.prog 26 #[tbV tb, .int .i64 i] w fun e w' => ∃ a c, e = .returned (.tuple #[.slice a (opRead S i l u).out.length c, .int .i64 (opRead S i l u).err]) ∧ Arg8c w' a (opRead S i l u).out.length c (opRead S i l u).out ∧ NewA w a (opRead S i l u).out.length ∧ Below w.heap.size w w' := by
  obtain ⟨sb, sc, ca, cc, Z, h, hF⟩ := hR
  have HON := Lib.hid (powOn_any pp Fp l u w hp)
  have HX := Lib.hid h
  have hc0 := h.md.c0
  have hc2 := h.md.c2
  have hc3 := h.md.c3
  have hzl := h.len
  clear hF hd hl hi hp
  by_cases hdn : S.down = true
  · have HE := Lib.hid (show opRead S i l u = ⟨[], 9, S, l, u⟩ by unfold opRead; rw [if_pos (Or.inl hdn)])
    rw [hdn] at hc2
    rw [HE.out]
    clear h hS hcl hu hzl hdn
    go_enter Tryz.func26, Tryz.ntmps26
    go_wp2
    go_ret2
    exact ⟨none, 0, rfl, arg_nil _, fun h0 => absurd h0 (by decide), Below.refl _ _⟩
  have hdf : S.down = false := by cases hh : S.down <;> simp_all
  rw [hdf] at hc2
  by_cases hl0 : l = 0
  · have HE := Lib.hid (show opRead S i l u = ⟨[], 9, S, l, u⟩ by unfold opRead; rw [if_pos (Or.inr hl0)])
    rw [HE.out]
    have HN := Lib.hid (show (l != 0) = false by rw [hl0]; rfl)
    clear h hS hcl hu hzl hdn hdf hl0
    go_enter Tryz.func26, Tryz.ntmps26
    go_wp2_with (go_at_call 52; go_loud (refine HON.out.mono ?_; rintro e w1 ⟨rfl, rfl⟩; rw [HN.out]))
    go_ret2
    exact ⟨none, 0, rfl, arg_nil _, fun h0 => absurd h0 (by decide), Below.refl _ _⟩
  have HN := Lib.hid (show (l != 0) = true by rw [bne_iff_ne]; exact hl0)
  by_cases hin : inR S i
  case neg =>
    have HE := Lib.hid (show opRead S i l u = ⟨[], 2, S, l, u⟩ by unfold opRead; rw [if_neg (by rw [hdf]; simp [hl0]), if_pos hin])
    rw [HE.out]
    have HH := Lib.hid (medHas_no tb sb S.size sc i w hc0 hin)
    clear h hS hcl hu hzl hdn hdf hl0 hin hc0
    go_enter Tryz.func26, Tryz.ntmps26
    go_wp2_with (first
      | (go_at_call 53; go_loud (refine HH.out.mono ?_; rintro e w1 ⟨rfl, rfl⟩))
      | (go_at_call 52; go_loud (refine HON.out.mono ?_; rintro e w1 ⟨rfl, rfl⟩; rw [HN.out])))
    go_ret2
    exact ⟨none, 0, rfl, arg_nil _, fun h0 => absurd h0 (by decide), Below.refl _ _⟩
  case pos =>
    have HH := Lib.hid (medHas_yes tb sb S.size sc i w hc0 hin.1 hin.2)
    obtain ⟨I, rfl⟩ : ∃ I : Nat, i = (I : Int) := ⟨i.toNat, by have := hin.1; omega⟩
    obtain ⟨E1, E2⟩ := opRead_shows (u := u) (i := I) (l := l) (by rw [hdf]; simp [hl0]) hin
    rw [E1, E2]
    have HSH := Lib.hid (show_any tb S pp sb sc ca cc Z I w h hS (by omega) (by have := hin.2; omega))
    rw [show (I : Int).toNat = I from rfl]
    obtain ⟨O, hO⟩ : ∃ O, O = showO (S.shows I) := ⟨_, rfl⟩
    rw [← hO] at HSH ⊢
    clear h hS hcl hu hzl hdn hdf hl0 hin hc0 E1 E2 hO
    go_enter Tryz.func26, Tryz.ntmps26
    go_wp2_with (first
      | (go_at_call 53; go_loud (refine HH.out.mono ?_; rintro e w1 ⟨rfl, rfl⟩))
      | (go_at_call 54; go_loud (refine HSH.out.mono ?_; rintro e w1 ⟨a1, c1, rfl, h1, h2, h3⟩; have H1 := Lib.hid h1; have H2 := Lib.hid h2; have H3 := Lib.hid h3; clear h1 h2 h3))
      | (go_at_call 52; go_loud (refine HON.out.mono ?_; rintro e w1 ⟨rfl, rfl⟩; rw [HN.out])))
    go_ret2
    exact ⟨a1, c1, rfl, H1.out, H2.out, H3.out⟩
end Go.Proofs.YtkfdcdfaikkneaaGreatDoor
