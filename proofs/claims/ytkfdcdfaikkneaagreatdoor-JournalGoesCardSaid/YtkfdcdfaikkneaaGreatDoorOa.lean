/- The memory of package medium as it landed: the medium's own block, its sectors, its cache, the power's block. -/
import Derived.Test.YtkfdcdfaikkneaaGreatDoorUb
namespace Go.Proofs.YtkfdcdfaikkneaaGreatDoor
open Go.ChangeShapes Go.WideShapes Go.ChangeAt Go.RowKit Go.Shelf
set_option linter.unusedVariables false
set_option linter.unusedSimpArgs false
set_option maxRecDepth 100000

/-! ## plain: the sectors' cells -/
def secF (m : Nat → Option (List Int)) (j : Nat) : Value := if j % 513 = 0 then .bool (m (j / 513)).isNone else .int .u8 (((m (j / 513)).getD zsec).getD (j % 513 - 1) 0)
theorem secF_head (m : Nat → Option (List Int)) (i : Nat) : secF m (i * 513) = .bool (m i).isNone := by
  unfold secF; rw [if_pos (by omega), show i * 513 / 513 = i by omega]
theorem secF_data (m : Nat → Option (List Int)) (i k : Nat) (hk : k < 512) : secF m (i * 513 + 1 + k) = .int .u8 (((m i).getD zsec).getD k 0) := by
  unfold secF; rw [if_neg (by omega), show (i * 513 + 1 + k) / 513 = i by omega, show (i * 513 + 1 + k) % 513 - 1 = k by omega]
theorem secF_one (m : Nat → Option (List Int)) (j : Nat) : (secF m j).oneCell' = true := by
  unfold secF; split <;> rfl
theorem secF_other (m : Nat → Option (List Int)) (i : Nat) (v : Option (List Int)) {j : Nat} (h : j / 513 ≠ i) : secF (fun k => if k = i then v else m k) j = secF m j := by
  unfold secF; simp only [if_neg h]
def secC (n : Nat) (m : Nat → Option (List Int)) : List Value := (List.range (n * 513)).map (secF m)
theorem secC_len (n : Nat) (m : Nat → Option (List Int)) : (secC n m).length = n * 513 := by simp [secC]
theorem secC_get {n : Nat} (m : Nat → Option (List Int)) {j : Nat} (h : j < n * 513) : (secC n m)[j]? = some (secF m j) := by simp [secC, h]
theorem secC_one (n : Nat) (m : Nat → Option (List Int)) : ∀ u ∈ secC n m, u.oneCell' = true := fun u hu => by
  obtain ⟨j, _, rfl⟩ := List.mem_map.1 hu; exact secF_one m j
def secZ : Array Value := #[.bool false] ++ Array.replicate 512 (.int .u8 0)
theorem secZ_size : secZ.size = 513 := by simp [secZ]
theorem secZ_get (j : Nat) (h : j < 513) : secZ[j]! = if j = 0 then .bool false else .int .u8 0 := by
  unfold secZ
  rw [getElem!_pos _ _ (by simp; omega)]
  by_cases h0 : j = 0
  · subst h0; simp
  · rw [if_neg h0, Array.getElem_append_right (by simp; omega)]; simp
theorem zsec_getD (k : Nat) : zsec.getD k 0 = 0 := by
  unfold zsec
  rw [List.getD_eq_getElem?_getD, List.getElem?_replicate]
  split <;> rfl
theorem made_sec {n j : Nat} (h : j < n * 513) : (madeCells secZ (n * 513))[j]? = some (secF (fun _ => some zsec) j) := by
  unfold madeCells
  rw [Array.getElem?_map, Array.getElem?_eq_getElem (by simpa using h), Option.map_some, Array.getElem_range, secZ_size, secZ_get _ (by omega)]
  unfold secF
  by_cases h0 : j % 513 = 0
  · rw [if_pos h0, if_pos h0]; rfl
  · rw [if_neg h0, if_neg h0]
    show some (Value.int IntKind.u8 0) = some (Value.int IntKind.u8 (zsec.getD _ 0))
    rw [zsec_getD]

/-! ## the blocks -/
theorem blk_ne {w : World} {b c : Nat} {C D : Array Value} {T U : TypeId} {f g : Nat × Nat} (h : w.heap[b]? = some (.cells C T f)) (k : w.heap[c]? = some (.cells D U g)) (e : T ≠ U) : b ≠ c := by
  rintro rfl; rw [h] at k; injection k with k; injection k with _ k _; exact e k
theorem blk_lt {w : World} {b : Nat} {o : Obj} (h : w.heap[b]? = some o) : b < w.heap.size := (Array.getElem?_eq_some_iff.1 h).1
/-- The medium's own block. -/
def Md (w : World) (tb : Nat) (r c : Value) (d : Bool) (p : Value) : Prop := w.heap[tb]? = some (.cells #[r, c, .bool d, p] 101 (0, 0))
theorem Md.c0 {w : World} {b : Nat} {r c p : Value} {d : Bool} (h : Md w b r c d p) : w.cell? ⟨b, 0, none⟩ = some r := by rw [cell_of_row w b 0 _ _ _ h]; rfl
theorem Md.c1 {w : World} {b : Nat} {r c p : Value} {d : Bool} (h : Md w b r c d p) : w.cell? ⟨b, 1, none⟩ = some c := by rw [cell_of_row w b 1 _ _ _ h]; rfl
theorem Md.c2 {w : World} {b : Nat} {r c p : Value} {d : Bool} (h : Md w b r c d p) : w.cell? ⟨b, 2, none⟩ = some (.bool d) := by rw [cell_of_row w b 2 _ _ _ h]; rfl
theorem Md.c3 {w : World} {b : Nat} {r c p : Value} {d : Bool} (h : Md w b r c d p) : w.cell? ⟨b, 3, none⟩ = some p := by rw [cell_of_row w b 3 _ _ _ h]; rfl
theorem Md.free {w : World} {b : Nat} {r c p : Value} {d : Bool} (h : Md w b r c d p) (j : Nat) : w.frozen? ⟨b, j, none⟩ = false := frozen_of_row w b j _ _ h
theorem Md.set1 {w : World} {b : Nat} {r c p : Value} {d : Bool} (h : Md w b r c d p) (c' : Value) : Md (w.setCell ⟨b, 1, none⟩ c') b r c' d p := by
  unfold Md; rw [heap_setCell_same w b 1 _ _ c' h]; rfl
theorem Md.set2 {w : World} {b : Nat} {r c p : Value} {d : Bool} (h : Md w b r c d p) (d' : Bool) : Md (w.setCell ⟨b, 2, none⟩ (.bool d')) b r c d' p := by
  unfold Md; rw [heap_setCell_same w b 2 _ _ _ h]; rfl
theorem Md.same {w w' : World} {b : Nat} {r c p : Value} {d : Bool} (h : Md w b r c d p) (hk : w'.heap[b]? = w.heap[b]?) : Md w' b r c d p := by
  unfold Md at *; rw [hk]; exact h
/-- The sectors. -/
def SecR (w : World) (sb n sc : Nat) (m : Nat → Option (List Int)) : Prop :=
  n ≤ sc ∧ sc ≤ maxLen ∧ ∃ cur, w.heap[sb]? = some (.cells cur 148 (0, 0)) ∧ cur.size = sc * 513 ∧ ∀ j, j < n * 513 → cur[j]? = some (secF m j)
theorem SecR.same {w w' : World} {sb n sc : Nat} {m : Nat → Option (List Int)} (h : SecR w sb n sc m) (hk : w'.heap[sb]? = w.heap[sb]?) : SecR w' sb n sc m := by
  obtain ⟨h1, h2, cur, h3, h4⟩ := h
  exact ⟨h1, h2, cur, hk.trans h3, h4⟩
theorem SecR.lt {w : World} {sb n sc : Nat} {m : Nat → Option (List Int)} (h : SecR w sb n sc m) : sb < w.heap.size := by
  obtain ⟨h1, h2, cur, h3, h4⟩ := h; exact blk_lt h3
theorem SecR.cell {w : World} {sb n sc : Nat} {m : Nat → Option (List Int)} (h : SecR w sb n sc m) {j : Nat} (hj : j < n * 513) : w.cell? ⟨sb, j, none⟩ = some (secF m j) := by
  obtain ⟨h1, h2, cur, h3, h4, h5⟩ := h
  rw [cell_of_row w sb j _ _ _ h3, h5 j hj]
theorem SecR.free {w : World} {sb n sc : Nat} {m : Nat → Option (List Int)} (h : SecR w sb n sc m) (j : Nat) : w.frozen? ⟨sb, j, none⟩ = false := by
  obtain ⟨h1, h2, cur, h3, h4, h5⟩ := h
  exact frozen_of_row w sb j _ _ h3
theorem SecR.congr {w : World} {sb n sc : Nat} {m m' : Nat → Option (List Int)} (h : SecR w sb n sc m) (e : ∀ i, i < n → m i = m' i) : SecR w sb n sc m' := by
  obtain ⟨h1, h2, cur, h3, h4, h5⟩ := h
  refine ⟨h1, h2, cur, h3, h4, fun j hj => ?_⟩
  rw [h5 j hj]; unfold secF; rw [e (j / 513) (by omega)]
theorem SecR.of_own {w : World} {base g n cap : Nat} {m : Nat → Option (List Int)} (h : w.ownsRow base 148 513 (.slice (some ⟨g, 0, none⟩) n cap) n (secC n m)) : SecR w g n cap m := by
  rcases h.2 with ⟨h0, _⟩ | ⟨g', cap', cur, hv, hb, hg, h1, h2, h3, h4⟩
  · cases h0
  · cases hv
    refine ⟨h1, h2, cur, hg, h3, fun j hj => ?_⟩
    have := secC_get m hj
    rw [← h4, List.getElem?_take, if_pos hj, Array.getElem?_toList] at this
    exact this
/-- A cell is set: its sector is another one there. -/
theorem SecR.set {w : World} {sb n sc : Nat} {m m' : Nat → Option (List Int)} (h : SecR w sb n sc m) {k : Nat} {v : Value} (hk : k < n * 513) (e : ∀ j, j < n * 513 → secF m' j = if j = k then v else secF m j) : SecR (w.setCell ⟨sb, k, none⟩ v) sb n sc m' := by
  obtain ⟨h1, h2, cur, h3, h4, h5⟩ := h
  refine ⟨h1, h2, cur.setIfInBounds k v, heap_setCell_same w sb k _ _ v h3, by rw [Array.size_setIfInBounds, h4], fun j hj => ?_⟩
  rw [Array.getElem?_setIfInBounds, e j hj]
  by_cases hjk : k = j
  · subst hjk
    rw [if_pos rfl, if_pos rfl, if_pos (by rw [h4]; have := Nat.mul_le_mul_right 513 h1; omega)]
  · rw [if_neg hjk, if_neg (fun e => hjk e.symm), h5 j hj]
/-- 512 bytes land on a sector. -/
theorem SecR.land {w w' : World} {sb n sc i : Nat} {m : Nat → Option (List Int)} {cur : Array Value} (h1 : n ≤ sc) (h2 : sc ≤ maxLen) (h4 : cur.size = sc * 513) (h5 : ∀ j, j < n * 513 → j ≠ i * 513 → cur[j]? = some (secF m j)) (h6 : cur[i * 513]? = some (.bool false)) {b : List Int} (hi : i < n) (hb : b.length = 512)
    (hw : w'.heap[sb]? = some (.cells (cur.toList.take (i * 513 + 1) ++ (b.map (Value.int .u8) ++ cur.toList.drop (i * 513 + 1 + (b.map (Value.int .u8)).length))).toArray 148 (0, 0))) : SecR w' sb n sc (fun k => if k = i then some b else m k) := by
  have hn := Nat.mul_le_mul_right 513 h1
  have hl : (b.map (Value.int .u8)).length = 512 := by rw [List.length_map, hb]
  have hin : i * 513 + 513 ≤ n * 513 := by omega
  have hcl : cur.toList.length = sc * 513 := by simpa using h4
  refine ⟨h1, h2, _, hw, ?_, fun j hj => ?_⟩
  · rw [List.size_toArray, List.length_append, List.length_append, List.length_take, List.length_drop, hl, hcl]; omega
  · rw [List.getElem?_toArray]
    by_cases c1 : j < i * 513 + 1
    · rw [List.getElem?_append_left (by rw [List.length_take]; omega), List.getElem?_take, if_pos c1, Array.getElem?_toList]
      by_cases c2 : j = i * 513
      · subst c2; rw [h6, secF_head]; simp
      · rw [h5 j hj c2, secF_other _ _ _ (by omega)]
    · rw [List.getElem?_append_right (by rw [List.length_take]; omega), List.length_take, Nat.min_eq_left (by omega)]
      by_cases c2 : j < i * 513 + 513
      · rw [List.getElem?_append_left (by rw [hl]; omega), map_u8_getElem? (by omega)]
        obtain ⟨k, rfl⟩ : ∃ k, j = i * 513 + 1 + k := ⟨j - (i * 513 + 1), by omega⟩
        rw [secF_data _ _ _ (by omega), show i * 513 + 1 + k - (i * 513 + 1) = k by omega]
        simp
      · rw [List.getElem?_append_right (by rw [hl]; omega), hl, List.getElem?_drop, Array.getElem?_toList, show i * 513 + 1 + 512 + (j - (i * 513 + 1) - 512) = j by omega, h5 j hj (by omega), secF_other _ _ _ (by omega)]

/-! ## the cache -/
/-- A write, and where its bytes lie. -/
abbrev ZW := CW × (Option Addr × Nat)
def zV (z : ZW) : List Value := [.int .i64 (z.1.1 : Nat), .slice z.2.1 512 z.2.2]
def zA (z : ZW) : Value := .agg #[.int .i64 (z.1.1 : Nat), .slice z.2.1 512 z.2.2]
def zC : List ZW → List Value
  | [] => []
  | z :: r => zV z ++ zC r
theorem zC_append (a b : List ZW) : zC (a ++ b) = zC a ++ zC b := by
  induction a with
  | nil => rfl
  | cons x r ih => rw [List.cons_append, zC, ih, zC, List.append_assoc]
theorem zC_one (z : ZW) : zC [z] = zV z := by simp [zC]
theorem zC_len (l : List ZW) : (zC l).length = l.length * 2 := by
  induction l with
  | nil => rfl
  | cons x r ih => rw [zC, List.length_append, ih, List.length_cons]; show 2 + r.length * 2 = _; omega
theorem zC_cw : ∀ (l : List ZW), cwC (l.map Prod.fst) (l.map Prod.snd) = zC l
  | [] => rfl
  | z :: r => by rw [List.map_cons, List.map_cons, cwC, zC_cw r]; rfl
theorem zC_oneC : ∀ (l : List ZW), ∀ u ∈ zC l, u.oneCell' = true
  | [], u, h => by cases h
  | x :: r, u, h => by
    rw [zC, List.mem_append] at h
    rcases h with h | h
    · rcases List.mem_cons.1 h with rfl | h
      · rfl
      · rw [List.mem_singleton.1 h]; rfl
    · exact zC_oneC r u h
theorem zC_get : ∀ {l : List ZW} {k : Nat} {z : ZW}, l[k]? = some z → (zC l)[k * 2]? = some (.int .i64 (z.1.1 : Nat)) ∧ (zC l)[k * 2 + 1]? = some (.slice z.2.1 512 z.2.2)
  | x :: r, 0, z, h => by cases h; exact ⟨rfl, rfl⟩
  | x :: r, k + 1, z, h => by
    have ih := zC_get (l := r) (k := k) (z := z) (by simpa using h)
    rw [zC, show (k + 1) * 2 = k * 2 + 1 + 1 by omega]
    exact ih
theorem zC_set : ∀ {l : List ZW} {k : Nat} (z : ZW), k < l.length → ((zC l).set (k * 2) (.int .i64 (z.1.1 : Nat))).set (k * 2 + 1) (.slice z.2.1 512 z.2.2) = zC (l.set k z)
  | x :: r, 0, z, h => rfl
  | x :: r, k + 1, z, h => by
    have ih := zC_set (l := r) (k := k) z (by simpa using h)
    rw [List.set_cons_succ, zC, zC, ← ih, show (k + 1) * 2 = k * 2 + 1 + 1 by omega]
    rfl
theorem zC_take (l : List ZW) (k : Nat) : (zC l).take (k * 2) = zC (l.take k) := by
  induction k generalizing l with
  | zero => rw [Nat.zero_mul, List.take_zero, List.take_zero]; rfl
  | succ k ih =>
    cases l with
    | nil => rw [List.take_nil]; show List.take _ [] = _; rw [List.take_nil]; rfl
    | cons x r => rw [List.take_succ_cons, zC, zC, ← ih r, show (k + 1) * 2 = k * 2 + 1 + 1 by omega]; rfl
/-- Each write's bytes are a row of their own. -/
def DR (w : World) (Z : List ZW) : Prop := ∀ z, z ∈ Z → z.1.2.length = 512 ∧ AllB z.1.2 ∧ w.ownsRow 0 5 1 (.slice z.2.1 512 z.2.2) 512 (z.1.2.map (Value.int .u8))
abbrev caV (ca : Option Addr) (Z : List ZW) (cc : Nat) : Value := .slice ca Z.length cc
/-- A medium in memory: its sectors' block, its cache's row. -/
structure MedX (w : World) (tb : Nat) (S : MS) (pp : Option Nat) (sb sc : Nat) (ca : Option Addr) (cc : Nat) (Z : List ZW) : Prop where
  cache : S.cache = Z.map Prod.fst
  md : Md w tb (.slice (some ⟨sb, 0, none⟩) S.size sc) (caV ca Z cc) S.down (ppV pp)
  sec : SecR w sb S.size sc S.med
  row : w.ownsRow 0 122 2 (caV ca Z cc) Z.length (zC Z)
  dat : DR w Z
def MedF (tb sb : Nat) (v : Value) (Z : List ZW) : Nat → Prop := fun k => k = tb ∨ k = sb ∨ v.ownBlock = some k ∨ ∃ z, z ∈ Z ∧ (Value.slice z.2.1 512 z.2.2).ownBlock = some k
def MedR (w : World) (tb : Nat) (F : Nat → Prop) (S : MS) (pp : Option Nat) : Prop :=
  ∃ (sb sc : Nat) (ca : Option Addr) (cc : Nat) (Z : List ZW), MedX w tb S pp sb sc ca cc Z ∧ ∀ k, F k ↔ MedF tb sb (caV ca Z cc) Z k
theorem DR.same {w w' : World} {Z : List ZW} (h : DR w Z) (hk : ∀ k, (∃ z, z ∈ Z ∧ (Value.slice z.2.1 512 z.2.2).ownBlock = some k) → w'.heap[k]? = w.heap[k]?) : DR w' Z := fun z hz => by
  obtain ⟨h1, h2, h3⟩ := h z hz
  exact ⟨h1, h2, own_blockT h3 fun g e => hk g ⟨z, hz, e⟩⟩
theorem MedX.same {w w' : World} {tb : Nat} {S : MS} {pp : Option Nat} {sb sc : Nat} {ca : Option Addr} {cc : Nat} {Z : List ZW} (h : MedX w tb S pp sb sc ca cc Z) (hk : ∀ k, MedF tb sb (caV ca Z cc) Z k → w'.heap[k]? = w.heap[k]?) : MedX w' tb S pp sb sc ca cc Z :=
  ⟨h.cache, h.md.same (hk _ (.inl rfl)), h.sec.same (hk _ (.inr (.inl rfl))), own_blockT h.row (fun g e => hk g (.inr (.inr (.inl e)))), h.dat.same (fun k e => hk k (.inr (.inr (.inr e))))⟩
theorem MedX.inside {w : World} {tb : Nat} {S : MS} {pp : Option Nat} {sb sc : Nat} {ca : Option Addr} {cc : Nat} {Z : List ZW} (h : MedX w tb S pp sb sc ca cc Z) {k : Nat} (hk : MedF tb sb (caV ca Z cc) Z k) : k < w.heap.size := by
  rcases hk with rfl | rfl | e | ⟨z, hz, e⟩
  · exact blk_lt h.md
  · exact h.sec.lt
  · exact (own_lt h.row e).2
  · exact (own_lt (h.dat z hz).2.2 e).2
theorem MedX.on {w w' : World} {tb : Nat} {S : MS} {pp : Option Nat} {sb sc : Nat} {ca : Option Addr} {cc : Nat} {Z : List ZW} (h : MedX w tb S pp sb sc ca cc Z) (hb : Below w.heap.size w w') : MedX w' tb S pp sb sc ca cc Z :=
  h.same fun k hk => hb.block k (h.inside hk)
theorem MedX.len {w : World} {tb : Nat} {S : MS} {pp : Option Nat} {sb sc : Nat} {ca : Option Addr} {cc : Nat} {Z : List ZW} (h : MedX w tb S pp sb sc ca cc Z) : S.cache.length = Z.length := by rw [h.cache, List.length_map]
theorem medR_inside {w : World} {tb : Nat} {F : Nat → Prop} {S : MS} {pp : Option Nat} (h : MedR w tb F S pp) : ∀ k, F k → k < w.heap.size := fun k hk => by
  obtain ⟨sb, sc, ca, cc, Z, h, hF⟩ := h
  exact h.inside ((hF k).1 hk)
theorem medR_keep {w w' : World} {tb : Nat} {F : Nat → Prop} {S : MS} {pp : Option Nat} (h : MedR w tb F S pp) (hk : ∀ k, F k → w'.heap[k]? = w.heap[k]?) : MedR w' tb F S pp := by
  obtain ⟨sb, sc, ca, cc, Z, h, hF⟩ := h
  exact ⟨sb, sc, ca, cc, Z, h.same (fun k hT => hk k ((hF k).2 hT)), hF⟩
/-- Where a row lies there is a block of its elements' type. -/
theorem own_heap {w : World} {base s n g : Nat} {e : TypeId} {v : Value} {xs : List Value} (h : w.ownsRow base e s v n xs) (hv : v.ownBlock = some g) : ∃ cur, w.heap[g]? = some (.cells cur e (0, 0)) := by
  rcases h.2 with ⟨rfl, _⟩ | ⟨g', cap, cur, rfl, hb, hg, _⟩
  · cases hv
  · cases hv; exact ⟨cur, hg⟩
theorem own_ne {w : World} {base s n g c : Nat} {e T : TypeId} {v : Value} {xs : List Value} {D : Array Value} {f : Nat × Nat} (h : w.ownsRow base e s v n xs) (hv : v.ownBlock = some g) (hc : w.heap[c]? = some (.cells D T f)) (hT : e ≠ T) : g ≠ c := by
  obtain ⟨cur, hg⟩ := own_heap h hv
  exact blk_ne hg hc hT
theorem MedX.ne_sb {w : World} {tb : Nat} {S : MS} {pp : Option Nat} {sb sc : Nat} {ca : Option Addr} {cc : Nat} {Z : List ZW} (h : MedX w tb S pp sb sc ca cc Z) : tb ≠ sb ∧ (∀ g, (caV ca Z cc).ownBlock = some g → g ≠ tb ∧ g ≠ sb) ∧ ∀ z, z ∈ Z → ∀ g, (Value.slice z.2.1 512 z.2.2).ownBlock = some g → g ≠ tb ∧ g ≠ sb ∧ (caV ca Z cc).ownBlock ≠ some g := by
  obtain ⟨_, _, cur, hs, _⟩ := h.sec
  refine ⟨blk_ne h.md hs (by decide), fun g e => ⟨own_ne h.row e h.md (by decide), own_ne h.row e hs (by decide)⟩, fun z hz g e => ⟨own_ne (h.dat z hz).2.2 e h.md (by decide), own_ne (h.dat z hz).2.2 e hs (by decide), fun e2 => ?_⟩⟩
  obtain ⟨c2, hc⟩ := own_heap h.row e2
  exact own_ne (h.dat z hz).2.2 e hc (by decide) rfl
/-- A write's bytes, as an argument. -/
theorem arg_of_own {w : World} {a : Option Addr} {n c : Nat} {l : List Int} (h : w.ownsRow 0 5 1 (.slice a n c) n (l.map (Value.int .u8))) (hB : AllB l) : Arg8c w a n c l := by
  obtain ⟨hbs, hl⟩ := Bs.of_own h
  rcases h.2 with ⟨h0, h1⟩ | ⟨g', cap', cur, hv, hb, hg, h1, h2, _⟩
  · cases h0; exact ⟨⟨hl, hB, hbs, by omega, Nat.zero_le _⟩, fun _ => rfl⟩
  · cases hv; exact ⟨⟨hl, hB, hbs, h1, h2⟩, fun e => by cases e⟩

/-! ## the power -/
def PowB (w : World) (pb : Nat) (x : Int) (u : Nat) : Prop := w.heap[pb]? = some (.cells #[.int .i64 x, .int .i64 (u : Nat)] 142 (0, 0))
theorem PowB.c0 {w : World} {b u : Nat} {x : Int} (h : PowB w b x u) : w.cell? ⟨b, 0, none⟩ = some (.int .i64 x) := by rw [cell_of_row w b 0 _ _ _ h]; rfl
theorem PowB.c1 {w : World} {b u : Nat} {x : Int} (h : PowB w b x u) : w.cell? ⟨b, 1, none⟩ = some (.int .i64 (u : Nat)) := by rw [cell_of_row w b 1 _ _ _ h]; rfl
theorem PowB.free {w : World} {b u : Nat} {x : Int} (h : PowB w b x u) (j : Nat) : w.frozen? ⟨b, j, none⟩ = false := frozen_of_row w b j _ _ h
theorem PowB.set0 {w : World} {b u : Nat} {x : Int} (h : PowB w b x u) (y : Int) : PowB (w.setCell ⟨b, 0, none⟩ (.int .i64 y)) b y u := by
  unfold PowB; rw [heap_setCell_same w b 0 _ _ _ h]; rfl
theorem PowB.set1 {w : World} {b u : Nat} {x : Int} (h : PowB w b x u) (v : Nat) : PowB (w.setCell ⟨b, 1, none⟩ (.int .i64 (v : Nat))) b x v := by
  unfold PowB; rw [heap_setCell_same w b 1 _ _ _ h]; rfl
def MedP (w : World) (pb : Nat) (F : Nat → Prop) (l : Int) (u : Nat) : Prop := (∃ x, PowB w pb x u ∧ l = max x (-1) ∧ i64R x) ∧ ∀ k, F k ↔ k = pb
theorem medP_inside {w : World} {pb : Nat} {F : Nat → Prop} {l : Int} {u : Nat} (h : MedP w pb F l u) : ∀ k, F k → k < w.heap.size := fun k hk => by
  obtain ⟨⟨x, h1, _⟩, h2⟩ := h
  rw [(h2 k).1 hk]; exact blk_lt h1
theorem medP_keep {w w' : World} {pb : Nat} {F : Nat → Prop} {l : Int} {u : Nat} (h : MedP w pb F l u) (hk : ∀ k, F k → w'.heap[k]? = w.heap[k]?) : MedP w' pb F l u := by
  obtain ⟨⟨x, h1, h2⟩, h3⟩ := h
  exact ⟨⟨x, by unfold PowB at *; rw [hk pb ((h3 pb).2 rfl)]; exact h1, h2⟩, h3⟩

/-! ## what the program's types are -/
theorem infoSec : (Tryz.prog.info? 148).map (fun i => (i.zero, i.size, i.bytes)) = some (some (.agg secZ), 513, 513) := by kernel_rfl
theorem infoWr : (Tryz.prog.info? 122).map (fun i => (i.zero, i.size, i.bytes)) = some (some (.agg #[.int .i64 0, .slice none 0 0]), 2, 32) := by kernel_rfl
end Go.Proofs.YtkfdcdfaikkneaaGreatDoor
