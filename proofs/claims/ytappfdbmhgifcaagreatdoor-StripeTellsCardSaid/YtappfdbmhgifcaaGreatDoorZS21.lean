/- Texts of mine, one behind the other: Zh Zi Zj Zl. -/
import Derived.Test.YtappfdbmhgifcaaGreatDoorZS20
import Derived.ArgAppend
import Derived.RangeFuncNested
import Derived.RangeFuncBox
import Derived.RangeFuncCalls
import Derived.RangeFuncLeaves
import Derived.Shelf.Abstract
import Derived.Shelf.RegionOpen
import Derived.OwnWalkIn
import Derived.TacticsInMore
import Derived.LoopNIn
import Derived.LoopIn
import Derived.BigRegionIn
import Derived.Maps.AppendAt
/- Contract of mend's strays: which rows aren't those of the polynomials, and how many of one column at the most. -/
namespace Go.Proofs.YtappfdbmhgifcaaGreatDoor
open Go.ChangeShapes Go.WideShapes Go.ChangeAt Go.RowKit Go.Shelf GF
set_option linter.unusedVariables false
set_option linter.unusedSimpArgs false
set_option maxRecDepth 100000

/-- append(row, z) onto a row without room or numbers: new memory. -/
theorem wpList_append_e1 {P : Program} (w : World) {ops : Array Oper} {rest : List Oper} {o : Oper} {a : Act} {Q : Exit → Act → World → Prop} (hgd : o.guard = none) (s x : Operand) (t : TypeId)
    (ho : o.op = .call { callee := .builtin .append, args := #[s, x], argTypes := #[t, t] })
    (e : TypeId) (i : TypeInfo) (ht : P.underlying t = some (.slice e)) (hi : P.info? e = some i) (hz : i.zero = some (.int .i64 0)) (hsize : i.size = 1) (hby : i.bytes = 8)
    (a1 : Addr) (hs : a.eval s = .slice (some a1) 0 0) (a2 : Addr) (z : Int) (hx : a.eval x = .slice (some a2) 1 1) (hc : w.cell? a2 = some (.int .i64 z))
    (h : ∀ v' w', w'.ownsRow w.heap.size e 1 v' 1 [.int .i64 z] → Below w.heap.size w w' → wpList P ops Q rest (a.put o.dst v') w') : wpList P ops Q (o :: rest) a w := by
  refine wpList_plain hgd fun K hK => ?_
  obtain ⟨v', w', hrun, r1, r2⟩ := run_append_arg_grows (P := P) w t o.type e i (.int .i64 0) 1 8 ht hi hz hsize hby rfl (by decide) a1 0 0 [] rfl (fun j u h => by cases h) a2 1 1 [.int .i64 z] rfl (fun j u hj => by
    rcases j with _ | j
    · rw [Addr.add_zero']; injection hj with hj; rw [← hj]; exact hc
    · cases hj) (by decide) (by unfold maxLen; omega) (by omega)
  unfold Oper.wp
  simp [execOp, ho, resolve, invoke, builtin, hs, hx, hrun, Result.andThen]
  exact hK _ _ (h v' w' r1 ((Below.refl _ _).grown r2 (Nat.le_refl _) (fun k hk => by cases hk)))

/-! ## the maths -/
/-- How many of the first i rows are wrong in column j. -/
def cntW (X : List GF) (R P : List (List GF)) (j i : Nat) : Nat := ((List.range i).filter fun p => decide (ev (rw_ P j) (co X p) ≠ co (rw_ R p) j)).length
theorem cntW_next (X : List GF) (R P : List (List GF)) (j i : Nat) : cntW X R P j (i + 1) = cntW X R P j i + if ev (rw_ P j) (co X i) ≠ co (rw_ R i) j then 1 else 0 := by
  unfold cntW
  rw [List.range_succ, List.filter_append, List.length_append]
  by_cases h : ev (rw_ P j) (co X i) ≠ co (rw_ R i) j <;> simp [h]
theorem cntW_le (X : List GF) (R P : List (List GF)) (j i : Nat) : cntW X R P j i ≤ i := by
  unfold cntW; have := List.length_filter_le (fun p => decide (ev (rw_ P j) (co X p) ≠ co (rw_ R p) j)) (List.range i); simpa using this
theorem cntW_all {X : List GF} {R P : List (List GF)} {j L : Nat} (hX : X.length = L) : cntW X R P j L = (wrL X (colG R L j) (rw_ P j)).length := by
  unfold cntW wrL
  rw [hX]
  congr 1
  exact List.filter_congr fun p hp => by rw [colG_co R (List.mem_range.1 hp)]
theorem wrF_iff {X : List GF} {R P : List (List GF)} {n i : Nat} : wrF X R P n i = true ↔ ∃ q, q < n ∧ ev (rw_ P q) (co X i) ≠ co (rw_ R i) q := by
  unfold wrF; rw [List.any_eq_true]
  exact ⟨fun ⟨q, h1, h2⟩ => ⟨q, List.mem_range.1 h1, of_decide_eq_true h2⟩, fun ⟨q, h1, h2⟩ => ⟨q, List.mem_range.2 h1, decide_eq_true h2⟩⟩
/-- The greatest of the first j counts. -/
def mxW (f : Nat → Nat) : Nat → Nat
  | 0 => 0
  | j + 1 => max (mxW f j) (f j)
theorem mxW_ge (f : Nat → Nat) : ∀ j q, q < j → f q ≤ mxW f j
  | 0, q, h => absurd h (by omega)
  | j + 1, q, h => by
    unfold mxW
    by_cases e : q = j
    · subst e; omega
    · have := mxW_ge f j q (by omega); omega
theorem mxW_hit (f : Nat → Nat) : ∀ j, mxW f j = 0 ∨ ∃ q, q < j ∧ mxW f j = f q
  | 0 => .inl rfl
  | j + 1 => by
    unfold mxW
    rcases Nat.le_total (mxW f j) (f j) with h | h
    · exact .inr ⟨j, by omega, Nat.max_eq_right h⟩
    · rw [Nat.max_eq_left h]
      rcases mxW_hit f j with h2 | ⟨q, h2, h3⟩
      · exact .inl h2
      · exact .inr ⟨q, by omega, h3⟩
/-- The numbers tell the polynomials. -/
def NumP (N P : List (List GF)) (t n : Nat) : Prop := (∀ k, k < t → (rw_ N k).length = n) ∧ P.length = n ∧ ∀ j, j < n → (rw_ P j).length ≤ t ∧ ∀ k, k < t → co (rw_ N k) j = co (rw_ P j) k
theorem num_ev {N P : List (List GF)} {t n j : Nat} (h : NumP N P t n) (hj : j < n) (x : GF) : co (valR N t n x) j = ev (rw_ P j) x := by
  obtain ⟨h1, h2, h3⟩ := h
  have e : co (valR N t n x) j = ev (colR N t j) x := by unfold valR; unfold co; simp [List.getD_eq_getElem?_getD, hj]
  rw [e]
  refine ev_congr (fun k => ?_) x
  by_cases hk : k < t
  · rw [colR_co N hk]; exact (h3 j hj).2 k hk
  · rw [co_ge (by rw [colR_len]; omega), co_ge (by have := (h3 j hj).1; omega)]
theorem valR_len (N : List (List GF)) (t n : Nat) (x : GF) : (valR N t n x).length = n := by unfold valR; simp

/-! ## strays -/
/-- The row of the wrong ones: nothing yet, or a row of one's own. -/
def WRow (w : World) (s : Nat) (a : Option Addr) (c : Nat) (l : List Nat) : Prop :=
  (l = [] ∧ a = some ⟨s, 0, none⟩ ∧ c = 0) ∨ (l ≠ [] ∧ w.ownsRow (s + 2) 3 1 (.slice a l.length c) l.length ((zl l).map (Value.int .i64)))
theorem WRow.on {w w' : World} {s c : Nat} {a : Option Addr} {l : List Nat} (h : WRow w s a c l) (hb : Below w.heap.size w w') : WRow w' s a c l := by
  rcases h with h | ⟨h1, h2⟩
  · exact .inl h
  · exact .inr ⟨h1, own_belowV h2 hb⟩
theorem WRow.set {w : World} {s c j : Nat} {a : Option Addr} {l : List Nat} {v : Value} (h : WRow w s a c l) : WRow (w.setCell ⟨s + 1, j, none⟩ v) s a c l := by
  rcases h with h | ⟨h1, h2⟩
  · exact .inl h
  · refine .inr ⟨h1, h2.1, ?_⟩
    rcases h2.2 with h3 | ⟨g, cap, cur, e, hg, hh, h4⟩
    · exact .inl h3
    · exact .inr ⟨g, cap, cur, e, hg, by rw [Below.heap_setCell _ _ _ _ (by show g ≠ s + 1; omega)]; exact hh, h4⟩
theorem wrI_lt {X : List GF} {R P : List (List GF)} {n N x : Nat} (h : x ∈ wrI X R P n N) : x < N := by
  unfold wrI at h; exact List.mem_range.1 (List.mem_filter.1 h).1
theorem WRow.ia {w : World} {s c : Nat} {a : Option Addr} {l : List Nat} (h : WRow w s a c l) (hx : ∀ x, x ∈ l → x < 256) : IA w a l.length c (zl l) := by
  rcases h with ⟨rfl, rfl, rfl⟩ | ⟨h1, h2⟩
  · exact ⟨rfl, Nat.le_refl _, Nat.zero_le _, (fun e => by cases e), (fun i => by simp [zl]), fun h => absurd h (by simp)⟩
  · obtain ⟨a', c', e, hia⟩ := IA.own h2 (fun z hz => by
      obtain ⟨x, hx', rfl⟩ := List.mem_map.1 hz
      have := hx x hx'
      omega)
    cases e
    exact hia
theorem own_someI {w : World} {base n c : Nat} {e : TypeId} {a : Option Addr} {xs : List Value} (h : w.ownsRow base e 1 (.slice a n c) n xs) (h0 : 0 < n) : ∃ g, (Value.slice a n c).ownBlock = some g ∧ base ≤ g ∧ g < w.heap.size := by
  rcases h.2 with ⟨e, h1⟩ | ⟨g, cap, cur, e, hg, hh, _⟩
  · omega
  · cases e; exact ⟨g, rfl, hg, (Array.getElem?_eq_some_iff.1 hh).1⟩
theorem ia_one (w : World) (i : Nat) (hi : i ≤ 200) : IA (w.alloc (.cells #[.int .i64 (i : Int)] 3)) (some ⟨w.heap.size, 0, none⟩) 1 1 [(i : Int)] := by
  refine ⟨rfl, Nat.le_refl _, by unfold maxLen; omega, (fun e => by cases e), fun k => ?_, fun _ => ⟨w.heap.size, 0, rfl, by simp, fun k hk => ?_⟩⟩
  · rcases k with _ | k
    · show -9223372036854775808 ≤ (i : Int) ∧ (i : Int) ≤ 9223372036854775807; omega
    · show -9223372036854775808 ≤ (0 : Int) ∧ (0 : Int) ≤ 9223372036854775807; omega
  · obtain rfl : k = 0 := by omega
    simp
set_option maxHeartbeats 8000000 in
theorem strays_any (b L t n : Nat) (aN : Option Addr) (cN : Nat) (N : List (List GF)) (aX : Option Addr) (cX : Nat) (X : List GF) (aR : Option Addr) (cR : Nat) (R P : List (List GF)) (w : World) (hf : Fld w b) (hN : Mat w aN t cN N) (hX : Pa w aX L cX X) (hR : Mat w aR L cR R) (hP : NumP N P t n) (ht : 1 ≤ t) (ht2 : t ≤ 255) (hL0 : 1 ≤ L) (hL : L ≤ 200) (hw : ∀ k, k < L → (rw_ R k).length = n) (hn : n ≤ 1000) :
    Calls Tryz.prog 97 #[.pointer (some ⟨b, 0, none⟩), .slice aN t cN, .slice aX L cX, .slice aR L cR] w fun e w' => ∃ (a : Option Addr) (c : Nat), e = .returned (.tuple #[.slice a (wrI X R P n L).length c, .int .i64 ((mxW (fun j => cntW X R P j L) n : Nat) : Int)]) ∧
      IA w' a (wrI X R P n L).length c (zl (wrI X R P n L)) ∧ Below w.heap.size w w' := by
  obtain ⟨bR, oR, a0, c0, hbe, hbR, hc0, hp0⟩ := hR.row (i := 0) (by omega)
  rw [hw 0 (by omega)] at hc0 hp0
  subst hbe
  have hmk := run_make_row' (P := Tryz.prog) 39 3 (.int .i64 0) 8 Tryz.underlying39 infoI1 rfl .i64 .i64 n (by omega) (by omega)
  rw [made_tabV] at hmk
  obtain ⟨i5, hi, hz0, hz1, hz2⟩ := info_parts infoI1
  have HI := Lib.hid (And.intro hi (And.intro hz0 (And.intro hz1 hz2)))
  have HN := Lib.hid hN; have HX := Lib.hid hX; have HR := Lib.hid hR; have HF := Lib.hid hf
  have HC := Lib.hid (And.intro ht (And.intro ht2 (And.intro hL0 (And.intro hL hn))))
  have HW := Lib.hid hw; have HP := Lib.hid hP
  have hbx := hX.bd; have hbr := hR.bd; have hbn := hN.bd; have hb0 := hp0.bd
  have qL : (0 : Int) < (L : Int) := by omega
  have qn : (n : Int) ≤ 1000 := by omega
  have qL2 : (L : Int) ≤ 200 := by omega
  rw [Nat.add_zero] at hc0
  have hA1 : Below w.heap.size w (w.alloc (.cells #[] 3)) := (Below.refl _ _).alloc (Nat.le_refl _) _
  have hB0 : Below w.heap.size w ((w.alloc (.cells #[] 3)).alloc (.cells (tabV n fun _ => .int .i64 0) 3)) := hA1.alloc (by simp) _
  have hK0 : Blk ((w.alloc (.cells #[] 3)).alloc (.cells (tabV n fun _ => .int .i64 0) 3)) (w.heap.size + 1) 3 n (fun j => .int .i64 ((cntW X R P j 0 : Nat) : Int)) := by
    have h := Blk.made (w.alloc (.cells #[] 3)) 3 n (fun _ => .int .i64 0)
    rw [size_alloc1] at h
    exact h
  obtain ⟨s, hs⟩ : ∃ s, s = w.heap.size := ⟨_, rfl⟩
  rw [← hs] at hK0 hB0
  have HK0 := Lib.hid hK0; have HB0 := Lib.hid hB0; have HS := Lib.hid hs
  have hc1 := (hA1.cell (p := ⟨bR, oR, none⟩) hbR).trans hc0
  clear hi hz0 hz1 hz2 hN hX hR hf ht ht2 hL0 hL hw hn hP hp0 hA1 hB0 hK0
  go_enter Tryz.func97, Tryz.ntmps97
  go_wp2
  rw [← hs]
  clear hs
  go_loopw [27, 10] (fun j o wr => ∃ (i : Nat) (a : Option Addr) (c : Nat), i ≤ L ∧ j = .int .i64 (i : Nat) ∧ o = .slice a (wrI X R P n i).length c ∧ Hid (WRow wr s a c (wrI X R P n i)) ∧ Hid (Blk wr (s + 1) 3 n (fun j => .int .i64 ((cntW X R P j i : Nat) : Int))) ∧ Hid (Below s w wr))
    (fun j _ _ => L - (intOf j).toNat)
  case atStart => exact ⟨0, _, 0, Nat.zero_le _, rfl, rfl, Lib.hid (.inl ⟨rfl, rfl, rfl⟩), HK0, HB0⟩
  case round =>
    obtain ⟨i, a, c, hi, rfl, rfl, hWR, hK, hB⟩ := hrel
    rename World => w1
    have h01 : Below w.heap.size w w1 := by rw [← HS.out]; exact hB.out
    have H01 := Lib.hid h01
    have HSZ := Lib.hid (show s + 1 < w1.heap.size from hK.out.lt)
    have HIS := Lib.hid (show i ≤ 200 by have := HC.out; omega)
    clear h01
    by_cases hlt : i < L
    · obtain ⟨bx, ox, rfl, hbx', hcx⟩ := (HX.out.on H01.out).at_ hlt
      obtain ⟨b9, o9, ai, ci, e9, hb9, hc9, hp9⟩ := (HR.out.on H01.out).row (i := i) hlt
      cases e9
      rw [HW.out i hlt] at hc9 hp9
      have HPR := Lib.hid hp9
      have hd9 := hp9.bd
      have qi : (i : Int) < (L : Int) := by omega
      have qi0 : (0 : Int) ≤ (i : Int) := by omega
      have HVA := Lib.hid (mvalue_any b t n aN cN N (co X i) w1 (HF.out.below H01.out) (HN.out.on H01.out) HP.out.1 HC.out.1 HC.out.2.1 HC.out.2.2.2.2)
      have HLT := Lib.hid hlt
      clear hp9 hlt
      by_cases hwr : wrF X R P n i = true
      · have HNEQ := Lib.hid (show ¬ ∀ k, k < n → co (valR N t n (co X i)) k = co (rw_ R i) k from fun h => by
          obtain ⟨q, h1, h2⟩ := wrF_iff.1 hwr
          exact h2 ((num_ev HP.out h1 (co X i)).symm.trans (h q h1)))
        rcases hWR.out with ⟨hl0, ha0, hc0'⟩ | ⟨hl0, how⟩
        · have HWN := Lib.hid (show wrI X R P n (i + 1) = [i] by rw [wrI_next, if_pos hwr, hl0]; rfl)
          have HWX := Lib.hid (show Below w1.heap.size w1 w1 → True from fun _ => trivial)
          subst ha0; subst hc0'
          rw [hl0]
          clear hwr hl0
          go_wp2_with (first
            | (go_at_call 71; go_loud (refine HVA.out.mono ?_; rintro e w2 ⟨aV, cV, rfl, hpv, hnw, hb⟩; have hc92 := (hb.cell (p := ⟨bR, oR + i, none⟩) hb9).trans hc9; have HPV2 := Lib.hid hpv; have HNV := Lib.hid (show ∀ b off, aV = some ⟨b, off, none⟩ → w1.heap.size ≤ b from hnw); have HB12 := Lib.hid hb; have hdv := hpv.bd; have HEQ := Lib.hid (eqB_any aV n cV (valR N t n (co X i)) ai n ci (rw_ R i) false w2 hpv (HPR.out.on hb) ⟨(fun e => by cases e), fun h => absurd h.2 (HNEQ.out)⟩); clear hpv hnw hb))
            | (go_at_call 119; go_loud (refine HEQ.out.mono ?_; rintro e w3 ⟨rfl, hb⟩; have HB13 := Lib.hid (bt HB12.out hb); have HPV3 := Lib.hid (HPV2.out.on hb); have HK3 := Lib.hid (hK.out.on HB13.out hK.out.lt); clear hb))
            | ((with_reducible show wpList _ _ _ (⟨some 45, _, _, _, _, _⟩ :: _) _ _); go_loud (refine wpList_append_e1 _ rfl (.tmp 42) (.tmp 44) 39 rfl 3 i5 Tryz.underlying39 HI.out.1 HI.out.2.1 HI.out.2.2.1 HI.out.2.2.2 ⟨s, 0, none⟩ rfl ⟨w3.heap.size, 0, none⟩ (i : Int) rfl (by simp) ?_; intro v4 w4 ho hb; obtain ⟨a4, c4, hv4⟩ := own_sliceV ho; subst hv4; have hA34 := ((Below.refl w3.heap.size w3).alloc (Nat.le_refl _) (.cells #[.int .i64 (i : Int)] 3)).trans (hb.mono (by simp)); have HWR4 := Lib.hid (show WRow w4 s a4 c4 (wrI X R P n (i + 1)) from (by rw [HWN.out]; exact .inr ⟨by simp, own_base ho (by have h1 := HSZ.out; have h2 := HB13.out.size; simp; omega)⟩)); have HK4 := Lib.hid (HK3.out.on hA34 HK3.out.lt); have HPV4 := Lib.hid (HPV3.out.on hA34); have HB14 := Lib.hid (bt HB13.out hA34); have HLN := Lib.hid (show (wrI X R P n (i + 1)).length = 1 by rw [HWN.out]; rfl); clear ho hb hA34)))
          have HNV2 := Lib.hid (show ∀ b off, aV = some ⟨b, off, none⟩ → b ≠ s + 1 from fun b off e => by have := HNV.out b off e; have := hK.out.lt; omega)
          have HB4 := Lib.hid (show Below s w w4 from hB.out.trans (HB14.out.mono (by have := HSZ.out; omega)))
          go_loopw [48] (fun q wr => ∃ j : Nat, j ≤ n ∧ q = .int .i64 (j : Nat) ∧ Hid (WRow wr s a4 c4 (wrI X R P n (i + 1))) ∧ Hid (Blk wr (s + 1) 3 n (fun j' => .int .i64 ((if j' < j then cntW X R P j' (i + 1) else cntW X R P j' i : Nat) : Int))) ∧ Hid (Pa wr aV n cV (valR N t n (co X i))) ∧ Hid (Below s w wr))
            (fun q _ => n - (intOf q).toNat)
          case atStart => exact ⟨0, Nat.zero_le _, rfl, HWR4, Lib.hid (HK4.out.congr fun j' _ => by rw [if_neg (Nat.not_lt_zero j')]), HPV4, HB4⟩
          case round =>
            obtain ⟨j, hj, rfl, hW5, hK5, hPV5, hB5⟩ := hrel
            rename World => w5
            by_cases hlj : j < n
            · obtain ⟨bv, ov, rfl, hbv, hcv⟩ := hPV5.out.at_ hlj
              obtain ⟨b9, o9, ai', ci', e9, hb9, hc9, hp9⟩ := (HR.out.on (show Below w.heap.size w w5 from HS.out ▸ hB5.out)).row (i := i) HLT.out
              cases e9
              rw [HW.out i HLT.out] at hc9 hp9
              obtain ⟨b8, o8, rfl, hb8, hc8⟩ := hp9.at_ hlj
              have hd9 := hp9.bd
              have qj : (j : Int) < (n : Int) := by omega
              have qj0 : (0 : Int) ≤ (j : Int) := by omega
              have HLJ := Lib.hid hlj
              obtain ⟨u, hu⟩ : ∃ u, u = toI (co (valR N t n (co X i)) j) := ⟨_, rfl⟩
              obtain ⟨v, hv⟩ : ∃ v, v = toI (co (rw_ R i) j) := ⟨_, rfl⟩
              rw [← hu] at hcv
              rw [← hv] at hc8
              have hev := num_ev HP.out hlj (co X i)
              by_cases hne : ev (rw_ P j) (co X i) = co (rw_ R i) j
              · have q5 : (u != v) = false := by rw [hu, hv, hev, hne]; simp
                have HK6 := Lib.hid (hK5.out.congr (h := fun j' => .int .i64 ((if j' < j + 1 then cntW X R P j' (i + 1) else cntW X R P j' i : Nat) : Int)) fun j' _ => by
                  by_cases e : j' = j
                  · rw [e, if_neg (Nat.lt_irrefl j), if_pos (Nat.lt_succ_self j), cntW_next, if_neg (fun h => h hne)]; rfl
                  · by_cases e2 : j' < j
                    · rw [if_pos e2, if_pos (by omega)]
                    · rw [if_neg e2, if_neg (by omega)])
                clear hu hv hev hne hp9 hlj
                go_wp2
                go_quiet (fail)
                go_wp2
                go_roundw
                case rel => exact ⟨j + 1, by have := HLJ.out; omega, by go_num, Lib.hid (hW5.out.on (below_drewN (Below.refl _ _) _)), Lib.hid (Blk.drewN HK6.out _), Lib.hid (hPV5.out.on (below_drewN (Below.refl _ _) _)), Lib.hid (below_drewN hB5.out _)⟩
                case measure => simp [intOf]; have := HLJ.out; omega
              · have q5 : (u != v) = true := by rw [bne_iff_ne, hu, hv, hev]; exact fun h => hne (toI_inj h)
                obtain ⟨C, hC⟩ : ∃ C, C = cntW X R P j i := ⟨_, rfl⟩
                have HCC := Lib.hid hC
                have HNE := Lib.hid hne
                have qC : (C : Int) ≤ 200 := by have := cntW_le X R P j i; have := HIS.out; omega
                clear hu hv hev hne hp9 hC hlj
                go_wp2
                go_quiet (fail)
                obtain ⟨V2, hV2⟩ : ∃ V2, V2 = w5.drewN nq := ⟨_, rfl⟩
                have hK6 : Blk V2 (s + 1) 3 n (fun j' => .int .i64 ((if j' < j then cntW X R P j' (i + 1) else cntW X R P j' i : Nat) : Int)) := by rw [hV2]; exact Blk.drewN hK5.out _
                have hcc := hK6.cell HLJ.out
                rw [if_neg (Nat.lt_irrefl j), ← HCC.out] at hcc
                have hff := hK6.free j
                have HK7 := Lib.hid ((hK6.set HLJ.out (.int .i64 ((C : Int) + 1))).congr (h := fun j' => .int .i64 ((if j' < j + 1 then cntW X R P j' (i + 1) else cntW X R P j' i : Nat) : Int)) fun j' _ => by
                  by_cases e : j' = j
                  · rw [if_pos e, e, if_pos (Nat.lt_succ_self j), cntW_next, if_pos HNE.out, ← HCC.out]; rfl
                  · rw [if_neg e]
                    by_cases e2 : j' < j
                    · rw [if_pos e2, if_pos (by omega)]
                    · rw [if_neg e2, if_neg (by omega)])
                have HW7 := Lib.hid (show WRow (V2.setCell ⟨s + 1, j, none⟩ (.int .i64 ((C : Int) + 1))) s a4 c4 (wrI X R P n (i + 1)) from WRow.set (by rw [hV2]; exact hW5.out.on (below_drewN (Below.refl _ _) _)))
                have HPV7 := Lib.hid ((show Pa V2 (some ⟨bv, ov, none⟩) n cV (valR N t n (co X i)) by rw [hV2]; exact hPV5.out.on (below_drewN (Below.refl _ _) _)).but (gb_set V2 (s + 1) j (.int .i64 ((C : Int) + 1))) HNV2.out)
                have HB7 := Lib.hid ((show Below s w V2 by rw [hV2]; exact below_drewN hB5.out _).setCell (p := ⟨s + 1, j, none⟩) (by show s ≤ s + 1; omega) (.int .i64 ((C : Int) + 1)))
                rw [← hV2]
                clear hV2 hK6
                go_wp2
                go_roundw
                case rel => exact ⟨j + 1, by have := HLJ.out; omega, by go_num, HW7, HK7, HPV7, HB7⟩
                case measure => simp [intOf]; have := HLJ.out; omega
            · have HK6 := Lib.hid (hK5.out.congr (h := fun j' => .int .i64 ((cntW X R P j' (i + 1) : Nat) : Int)) fun j' hj' => by rw [if_pos (by omega)])
              have qj : ¬ (j : Int) < (n : Int) := by omega
              clear hlj
              go_wp2
              go_roundw
              case rel => exact ⟨i + 1, a4, c4, by have := HLT.out; omega, by go_num, by rw [HLN.out], hW5, HK6, hB5⟩
              case measure => simp [intOf]; have := HLT.out; omega
        · have HWN := Lib.hid (show wrI X R P n (i + 1) = wrI X R P n i ++ [i] by rw [wrI_next, if_pos hwr])
          have HWR1 := Lib.hid how
          have HWL := Lib.hid (show 0 < (wrI X R P n i).length from List.length_pos_iff.2 hl0)
          have HWX := Lib.hid (fun (V : World) (hb : Below w1.heap.size w1 V) => own_belowV how hb)
          clear hwr hl0 how
          go_wp2_with (first
            | (go_at_call 71; go_loud (refine HVA.out.mono ?_; rintro e w2 ⟨aV, cV, rfl, hpv, hnw, hb⟩; have hc92 := (hb.cell (p := ⟨bR, oR + i, none⟩) hb9).trans hc9; have HPV2 := Lib.hid hpv; have HNV := Lib.hid (show ∀ b off, aV = some ⟨b, off, none⟩ → w1.heap.size ≤ b from hnw); have HB12 := Lib.hid hb; have hdv := hpv.bd; have HEQ := Lib.hid (eqB_any aV n cV (valR N t n (co X i)) ai n ci (rw_ R i) false w2 hpv (HPR.out.on hb) ⟨(fun e => by cases e), fun h => absurd h.2 (HNEQ.out)⟩); clear hpv hnw hb))
            | (go_at_call 119; go_loud (refine HEQ.out.mono ?_; rintro e w3 ⟨rfl, hb⟩; have HB13 := Lib.hid (bt HB12.out hb); have HPV3 := Lib.hid (HPV2.out.on hb); have HK3 := Lib.hid (hK.out.on HB13.out hK.out.lt); have HW3 := Lib.hid (HWX.out w3 HB13.out); clear hb))
            | ((with_reducible show wpList _ _ _ (⟨some 45, _, _, _, _, _⟩ :: _) _ _); go_loud (refine wpList_append_ia _ rfl (.tmp 42) (.tmp 44) 39 rfl (s + 2) 3 i5 Tryz.underlying39 HI.out.1 HI.out.2.1 HI.out.2.2.1 HI.out.2.2.2 (.slice a (wrI X R P n i).length c) (wrI X R P n i).length (zl (wrI X R P n i)) rfl (own_belowV HW3.out ((Below.refl _ _).alloc (Nat.le_refl _) _)) (some ⟨w3.heap.size, 0, none⟩) 1 1 [(i : Int)] rfl (ia_one w3 i HIS.out) (by have := wrI_le X R P n i; have := HIS.out; omega) (by have h1 := HSZ.out; have h2 := HB13.out.size; simp; omega) ?_; intro v4 w4 ho hg; obtain ⟨a4, c4, hv4⟩ := own_sliceV ho; subst hv4; obtain ⟨g9, eg9, hg9, hg9l⟩ := own_someI HWR1.out HWL.out; have hgb : ((w3.alloc (.cells #[.int .i64 (i : Int)] 3))).grownBy w4 (some g9) := (by rw [eg9] at hg; exact hg); have hA3 := (Below.refl w3.heap.size w3).alloc (Nat.le_refl _) (.cells #[.int .i64 (i : Int)] 3); have HWR4 := Lib.hid (show WRow w4 s a4 c4 (wrI X R P n (i + 1)) from (by rw [HWN.out]; exact .inr ⟨by simp, by rw [List.length_append, zl_app]; exact ho⟩)); have HK4 := Lib.hid (Blk.but (HK3.out.on hA3 HK3.out.lt) hgb (by omega)); have HPV4 := Lib.hid ((HPV3.out.on hA3).but hgb (fun b off e => (by have := HNV.out b off e; omega))); have HB14 := Lib.hid (show Below s w1 w4 from ((bt HB13.out hA3).mono (show s ≤ w1.heap.size by have h1 := HSZ.out; omega)).grown hgb (by have h1 := HSZ.out; have h2 := HB13.out.size; simp; omega) (fun k hk => (by cases hk; omega))); have HLN := Lib.hid (show (wrI X R P n (i + 1)).length = (wrI X R P n i).length + 1 by rw [HWN.out]; simp); clear ho hg hgb hA3)))
          have HNV2 := Lib.hid (show ∀ b off, aV = some ⟨b, off, none⟩ → b ≠ s + 1 from fun b off e => by have := HNV.out b off e; have := hK.out.lt; omega)
          have HB4 := Lib.hid (show Below s w w4 from hB.out.trans HB14.out)
          go_loopw [48] (fun q wr => ∃ j : Nat, j ≤ n ∧ q = .int .i64 (j : Nat) ∧ Hid (WRow wr s a4 c4 (wrI X R P n (i + 1))) ∧ Hid (Blk wr (s + 1) 3 n (fun j' => .int .i64 ((if j' < j then cntW X R P j' (i + 1) else cntW X R P j' i : Nat) : Int))) ∧ Hid (Pa wr aV n cV (valR N t n (co X i))) ∧ Hid (Below s w wr))
            (fun q _ => n - (intOf q).toNat)
          case atStart => exact ⟨0, Nat.zero_le _, rfl, HWR4, Lib.hid (HK4.out.congr fun j' _ => by rw [if_neg (Nat.not_lt_zero j')]), HPV4, HB4⟩
          case round =>
            obtain ⟨j, hj, rfl, hW5, hK5, hPV5, hB5⟩ := hrel
            rename World => w5
            by_cases hlj : j < n
            · obtain ⟨bv, ov, rfl, hbv, hcv⟩ := hPV5.out.at_ hlj
              obtain ⟨b9, o9, ai', ci', e9, hb9, hc9, hp9⟩ := (HR.out.on (show Below w.heap.size w w5 from HS.out ▸ hB5.out)).row (i := i) HLT.out
              cases e9
              rw [HW.out i HLT.out] at hc9 hp9
              obtain ⟨b8, o8, rfl, hb8, hc8⟩ := hp9.at_ hlj
              have hd9 := hp9.bd
              have qj : (j : Int) < (n : Int) := by omega
              have qj0 : (0 : Int) ≤ (j : Int) := by omega
              have HLJ := Lib.hid hlj
              obtain ⟨u, hu⟩ : ∃ u, u = toI (co (valR N t n (co X i)) j) := ⟨_, rfl⟩
              obtain ⟨v, hv⟩ : ∃ v, v = toI (co (rw_ R i) j) := ⟨_, rfl⟩
              rw [← hu] at hcv
              rw [← hv] at hc8
              have hev := num_ev HP.out hlj (co X i)
              by_cases hne : ev (rw_ P j) (co X i) = co (rw_ R i) j
              · have q5 : (u != v) = false := by rw [hu, hv, hev, hne]; simp
                have HK6 := Lib.hid (hK5.out.congr (h := fun j' => .int .i64 ((if j' < j + 1 then cntW X R P j' (i + 1) else cntW X R P j' i : Nat) : Int)) fun j' _ => by
                  by_cases e : j' = j
                  · rw [e, if_neg (Nat.lt_irrefl j), if_pos (Nat.lt_succ_self j), cntW_next, if_neg (fun h => h hne)]; rfl
                  · by_cases e2 : j' < j
                    · rw [if_pos e2, if_pos (by omega)]
                    · rw [if_neg e2, if_neg (by omega)])
                clear hu hv hev hne hp9 hlj
                go_wp2
                go_quiet (fail)
                go_wp2
                go_roundw
                case rel => exact ⟨j + 1, by have := HLJ.out; omega, by go_num, Lib.hid (hW5.out.on (below_drewN (Below.refl _ _) _)), Lib.hid (Blk.drewN HK6.out _), Lib.hid (hPV5.out.on (below_drewN (Below.refl _ _) _)), Lib.hid (below_drewN hB5.out _)⟩
                case measure => simp [intOf]; have := HLJ.out; omega
              · have q5 : (u != v) = true := by rw [bne_iff_ne, hu, hv, hev]; exact fun h => hne (toI_inj h)
                obtain ⟨C, hC⟩ : ∃ C, C = cntW X R P j i := ⟨_, rfl⟩
                have HCC := Lib.hid hC
                have HNE := Lib.hid hne
                have qC : (C : Int) ≤ 200 := by have := cntW_le X R P j i; have := HIS.out; omega
                clear hu hv hev hne hp9 hC hlj
                go_wp2
                go_quiet (fail)
                obtain ⟨V2, hV2⟩ : ∃ V2, V2 = w5.drewN nq := ⟨_, rfl⟩
                have hK6 : Blk V2 (s + 1) 3 n (fun j' => .int .i64 ((if j' < j then cntW X R P j' (i + 1) else cntW X R P j' i : Nat) : Int)) := by rw [hV2]; exact Blk.drewN hK5.out _
                have hcc := hK6.cell HLJ.out
                rw [if_neg (Nat.lt_irrefl j), ← HCC.out] at hcc
                have hff := hK6.free j
                have HK7 := Lib.hid ((hK6.set HLJ.out (.int .i64 ((C : Int) + 1))).congr (h := fun j' => .int .i64 ((if j' < j + 1 then cntW X R P j' (i + 1) else cntW X R P j' i : Nat) : Int)) fun j' _ => by
                  by_cases e : j' = j
                  · rw [if_pos e, e, if_pos (Nat.lt_succ_self j), cntW_next, if_pos HNE.out, ← HCC.out]; rfl
                  · rw [if_neg e]
                    by_cases e2 : j' < j
                    · rw [if_pos e2, if_pos (by omega)]
                    · rw [if_neg e2, if_neg (by omega)])
                have HW7 := Lib.hid (show WRow (V2.setCell ⟨s + 1, j, none⟩ (.int .i64 ((C : Int) + 1))) s a4 c4 (wrI X R P n (i + 1)) from WRow.set (by rw [hV2]; exact hW5.out.on (below_drewN (Below.refl _ _) _)))
                have HPV7 := Lib.hid ((show Pa V2 (some ⟨bv, ov, none⟩) n cV (valR N t n (co X i)) by rw [hV2]; exact hPV5.out.on (below_drewN (Below.refl _ _) _)).but (gb_set V2 (s + 1) j (.int .i64 ((C : Int) + 1))) HNV2.out)
                have HB7 := Lib.hid ((show Below s w V2 by rw [hV2]; exact below_drewN hB5.out _).setCell (p := ⟨s + 1, j, none⟩) (by show s ≤ s + 1; omega) (.int .i64 ((C : Int) + 1)))
                rw [← hV2]
                clear hV2 hK6
                go_wp2
                go_roundw
                case rel => exact ⟨j + 1, by have := HLJ.out; omega, by go_num, HW7, HK7, HPV7, HB7⟩
                case measure => simp [intOf]; have := HLJ.out; omega
            · have HK6 := Lib.hid (hK5.out.congr (h := fun j' => .int .i64 ((cntW X R P j' (i + 1) : Nat) : Int)) fun j' hj' => by rw [if_pos (by omega)])
              have qj : ¬ (j : Int) < (n : Int) := by omega
              clear hlj
              go_wp2
              go_roundw
              case rel => exact ⟨i + 1, a4, c4, by have := HLT.out; omega, by go_num, by rw [HLN.out], hW5, HK6, hB5⟩
              case measure => simp [intOf]; have := HLT.out; omega
      · have hwf : wrF X R P n i = false := by simpa using hwr
        have HWN := Lib.hid (show wrI X R P n (i + 1) = wrI X R P n i by rw [wrI_next, hwf]; simp)
        have HKN := Lib.hid (hK.out.congr (h := fun j => .int .i64 ((cntW X R P j (i + 1) : Nat) : Int)) fun j hj => by
          rw [cntW_next, if_neg (fun h => hwr (wrF_iff.2 ⟨j, hj, h⟩))]; rfl)
        have HEV := Lib.hid (show ∀ k, k < n → co (valR N t n (co X i)) k = co (rw_ R i) k from fun k hk => by
          rw [num_ev HP.out hk]
          exact Classical.byContradiction fun h => hwr (wrF_iff.2 ⟨k, hk, h⟩))
        clear hwr hwf
        go_wp2_with (first
          | (go_at_call 71; go_loud (refine HVA.out.mono ?_; rintro e w2 ⟨aV, cV, rfl, hpv, hnw, hb⟩; have hc92 := (hb.cell (p := ⟨bR, oR + i, none⟩) hb9).trans hc9; have HB12 := Lib.hid hb; have hdv := hpv.bd; have HEQ := Lib.hid (eqB_any aV n cV (valR N t n (co X i)) ai n ci (rw_ R i) true w2 hpv (HPR.out.on hb) ⟨fun _ => ⟨rfl, HEV.out⟩, fun _ => rfl⟩); clear hpv hnw hb))
          | (go_at_call 119; go_loud (refine HEQ.out.mono ?_; rintro e w3 ⟨rfl, hb⟩; have HB13 := Lib.hid (bt HB12.out hb); clear hb)))
        have HK3 := Lib.hid (HKN.out.on HB13.out HKN.out.lt)
        have HW3 := Lib.hid (hWR.out.on HB13.out)
        have HB3 := Lib.hid (hB.out.trans (HB13.out.mono (by have := HSZ.out; omega)))
        go_roundw
        case rel => exact ⟨i + 1, a, c, by have := HLT.out; omega, by go_num, by rw [HWN.out], by rw [HWN.out]; exact HW3, HK3, HB3⟩
        case measure => simp [intOf]; have := HLT.out; omega
    · obtain rfl : i = L := by omega
      go_wp2
      go_loopw [73, 16] (fun q mo wr => ∃ j : Nat, j ≤ n ∧ q = .int .i64 (j : Nat) ∧ mo = .int .i64 ((mxW (fun j => cntW X R P j i) j : Nat) : Int) ∧ wr = w1)
        (fun q _ _ => n - (intOf q).toNat)
      case atStart => exact ⟨0, Nat.zero_le _, rfl, rfl, rfl⟩
      case round =>
        obtain ⟨j, hj, rfl, rfl, rfl⟩ := hrel
        by_cases hlj : j < n
        · have qj : (j : Int) < (n : Int) := by omega
          have qj0 : (0 : Int) ≤ (j : Int) := by omega
          have hcc := hK.out.cell hlj
          have hmx : mxW (fun j => cntW X R P j i) (j + 1) = max (mxW (fun j => cntW X R P j i) j) (cntW X R P j i) := rfl
          have HMX := Lib.hid hmx
          obtain ⟨y, hy⟩ : ∃ y, y = mxW (fun j => cntW X R P j i) j := ⟨_, rfl⟩
          obtain ⟨x, hx⟩ : ∃ x, x = cntW X R P j i := ⟨_, rfl⟩
          rw [← hy, ← hx] at HMX
          rw [← hx] at hcc
          rw [← hy]
          have HLJ := Lib.hid hlj
          clear hy hx hmx hlj
          by_cases hxy : y < x
          · have q1 : (y : Int) < (x : Int) := by omega
            have HM2 := Lib.hid (HMX.out.trans (Nat.max_eq_right (by omega)))
            clear hxy
            go_wp2
            go_roundw
            case rel => exact ⟨j + 1, by have := HLJ.out; omega, by go_num, by rw [HM2.out], by trivial⟩
            case measure => simp [intOf]; have := HLJ.out; omega
          · have q1 : ¬ (y : Int) < (x : Int) := by omega
            have HM2 := Lib.hid (HMX.out.trans (Nat.max_eq_left (by omega)))
            clear hxy
            go_wp2
            go_roundw
            case rel => exact ⟨j + 1, by have := HLJ.out; omega, by go_num, by rw [HM2.out], by trivial⟩
            case measure => simp [intOf]; have := HLJ.out; omega
        · obtain rfl : j = n := by omega
          have HIA := Lib.hid (WRow.ia hWR.out (fun x hx => by have := wrI_lt hx; have := HIS.out; omega))
          go_wp2
          go_ret2
          exact ⟨a, c, rfl, HIA.out, H01.out⟩
end Go.Proofs.YtappfdbmhgifcaaGreatDoor
/- Contract of mend's mended. -/
namespace Go.Proofs.YtappfdbmhgifcaaGreatDoor
open Go.ChangeShapes Go.WideShapes Go.ChangeAt Go.RowKit Go.Shelf GF
set_option linter.unusedVariables false
set_option linter.unusedSimpArgs false
set_option maxRecDepth 100000

theorem i64_any2 {N : Int} (h : (Lit.int .i64 N).wf = true) : -9223372036854775808 ≤ N ∧ N ≤ 9223372036854775807 := by
  simpa [Lit.wf, IntKind.min, IntKind.max, IntKind.signed, IntKind.bits] using h
theorem sol_num {X : List GF} {R N P : List (List GF)} {L t n : Nat} (h : SolP X R N P L t n) (hN : ∀ k, k < t → (rw_ N k).length = n) : NumP N P t n :=
  ⟨hN, h.1, fun j hj => ⟨(h.2 j hj).1.2.1, (h.2 j hj).2⟩⟩
/-- Few enough are wrong in each column: just if each column is right. -/
theorem few_iff {X : List GF} {R N P : List (List GF)} {L t n : Nat} {e : Nat} (hX : X.length = L) (h : SolP X R N P L t n) :
    (mxW (fun j => cntW X R P j L) n ≤ e → ∀ j, j < n → RightP X (colG R L j) t e (rw_ P j)) ∧ (e < mxW (fun j => cntW X R P j L) n → ∃ j, j < n ∧ ∀ q, ¬ RightP X (colG R L j) t e q) := by
  refine ⟨fun hm j hj => ?_, fun hm => ?_⟩
  · obtain ⟨h1, h2, h3, _⟩ := (h.2 j hj).1
    have := mxW_ge (fun j => cntW X R P j L) n j hj
    rw [show cntW X R P j L = _ from cntW_all hX] at this
    exact ⟨h1, h2, by omega, h3⟩
  · rcases mxW_hit (fun j => cntW X R P j L) n with h0 | ⟨j, hj, h0⟩
    · omega
    · refine ⟨j, hj, fun q hq => ?_⟩
      have e1 := (h.2 j hj).1.2.2.2 _ q hq
      have e2 := hq.2.2.1
      rw [e1, ← cntW_all (L := L) (R := R) hX, ← h0] at e2
      omega
theorem rad_few {X : List GF} {R N P : List (List GF)} {L t n : Nat} (hX : X.length = L) (h : SolP X R N P L t n) : mxW (fun j => cntW X R P j L) n ≤ (L - t) / 2 := by
  rcases mxW_hit (fun j => cntW X R P j L) n with h0 | ⟨j, hj, h0⟩
  · omega
  · have h3 := (h.2 j hj).1.2.2.1
    rw [← cntW_all (L := L) (R := R) hX, hX] at h3
    have h0 : mxW (fun j => cntW X R P j L) n = cntW X R P j L := h0
    omega
set_option maxHeartbeats 4000000 in
theorem mended_any (b L t n : Nat) (e : Int) (aX : Option Addr) (cX : Nat) (X : List GF) (aR : Option Addr) (cR : Nat) (R : List (List GF)) (w : World) (hf : Fld w b) (hX : Pa w aX L cX X) (hR : Mat w aR L cR R) (hA : Apart X) (ht : 1 ≤ t) (htL : t ≤ L) (hL : L ≤ 200) (hw : ∀ k, k < L → (rw_ R k).length = n) (hn : n ≤ 1000) (he : (Lit.int .i64 e).wf = true) (he0 : 0 ≤ e) :
    Calls Tryz.prog 70 #[.pointer (some ⟨b, 0, none⟩), .int .i64 (t : Nat), .slice aX L cX, .slice aR L cR, .int .i64 e] w fun r w' => ∃ (a1 a2 : Option Addr) (m1 c1 m2 c2 : Nat) (er : Int), r = .returned (.tuple #[.slice a1 m1 c1, .slice a2 m2 c2, .int .i64 er]) ∧
      Hid ((er = 0 ∧ ∃ N P, m1 = t ∧ Mat w' a1 t c1 N ∧ NumP N P t n ∧ m2 = (wrI X R P n L).length ∧ IA w' a2 m2 c2 (zl (wrI X R P n L)) ∧ ∀ j, j < n → RightP X (colG R L j) t e.toNat (rw_ P j)) ∨ (er = 11 ∧ ∃ j, j < n ∧ ∀ q, ¬ RightP X (colG R L j) t e.toNat q)) ∧ Below w.heap.size w w' := by
  have HSO := Lib.hid (solved_any b L t n aX cX X aR cR R w hf hX hR hA ht htL hL hw hn)
  have HX := Lib.hid hX; have HR := Lib.hid hR; have HF := Lib.hid hf
  have HC := Lib.hid (And.intro hA (And.intro hX.len (And.intro ht (And.intro htL (And.intro hL hn)))))
  have HW := Lib.hid hw
  have hbx := hX.bd; have hbr := hR.bd
  have hei := i64_any2 he
  have HRD := Lib.hid (radius_any L t)
  have qt : (t : Int) ≤ 200 := by omega
  clear hf hX hR hA ht htL hL hw hn he
  go_enter Tryz.func70, Tryz.ntmps70
  go_wp2_with (go_at_call 96; go_loud (refine HSO.out.mono ?_; rintro r w1 ⟨a1, m1, c1, bb, rfl, hs, hb⟩; have HB1 := Lib.hid hb; clear hb))
  · have hbb : bb = false := by cases bb <;> simp_all
    obtain ⟨j, hj, hno⟩ := hs.out.2 hbb
    have HNO := Lib.hid (show ∃ j, j < n ∧ ∀ q, ¬ RightP X (colG R L j) t e.toNat q from ⟨j, hj, fun q => hno _ q⟩)
    clear hno hj
    go_ret3
    exact ⟨none, none, 0, 0, 0, 0, 11, rfl, Lib.hid (.inr ⟨rfl, HNO.out⟩), HB1.out⟩
  · have hbb : bb = true := by cases bb <;> simp_all
    obtain ⟨g, N, P, rfl, rfl, rfl, hrb, hso⟩ := hs.out.1 hbb
    have HMT := Lib.hid (hrb.mat (by have := HC.out; omega))
    have HNP := Lib.hid (sol_num hso (fun k hk => by obtain ⟨_, _, _, _, _, h9⟩ := hrb; exact (h9 k hk).1))
    have HSL := Lib.hid hso
    have hdm := HMT.out.bd
    clear hrb hso hbb
    obtain ⟨m, hm⟩ : ∃ m, m = mxW (fun j => cntW X R P j L) n := ⟨_, rfl⟩
    have hrf := rad_few HC.out.2.1 HSL.out
    obtain ⟨f1, f2⟩ := few_iff (e := e.toNat) HC.out.2.1 HSL.out
    rw [← hm] at hrf f1 f2
    obtain ⟨r, hr⟩ : ∃ r, r = (L - c1) / 2 := ⟨_, rfl⟩
    rw [← hr] at hrf
    have HF1 := Lib.hid f1
    have HF2 := Lib.hid f2
    have HR' := Lib.hid hr
    have qr : (r : Int) ≤ 200 := by have := HC.out; omega
    have qm : (m : Int) ≤ (r : Int) := by omega
    have HST := Lib.hid (strays_any b L c1 n (some ⟨g, 0, none⟩) c1 N aX cX X aR cR R P w1 (HF.out.below HB1.out) HMT.out (HX.out.on HB1.out) (HR.out.on HB1.out) HNP.out HC.out.2.2.1 (by have := HC.out; omega) (by have := HC.out; omega) HC.out.2.2.2.2.1 HW.out HC.out.2.2.2.2.2)
    rw [← hm] at HST
    clear f1 f2 hm hr hs hrf
    by_cases hre : (r : Int) < e
    · have q2 : ¬ (r : Int) < (m : Int) := by omega
      have HRI := Lib.hid (HF1.out (by omega))
      go_wp2_with (first
        | (go_at_call 97; go_loud (refine HST.out.mono ?_; rintro x w2 ⟨a2, c2, rfl, hia, hb⟩; have HIA := Lib.hid hia; have HB2 := Lib.hid (bt HB1.out hb); have HM2 := Lib.hid (HMT.out.on hb); have hdi := hia.bd; have HRA := Lib.hid (HRD.out w2 (by have := HC.out; omega) (by have := HC.out; omega)); rw [← HR'.out] at HRA; clear hia hb))
        | (go_at_call 98; go_loud (refine HRA.out.mono ?_; rintro x w' ⟨rfl, rfl⟩)))
      go_ret3
      exact ⟨_, a2, _, _, _, c2, 0, rfl, Lib.hid (.inl ⟨rfl, N, P, rfl, HM2.out, HNP.out, rfl, HIA.out, HRI.out⟩), HB2.out⟩
    · by_cases hme : e < (m : Int)
      · have HNO := Lib.hid (HF2.out (by omega))
        go_wp2_with (first
          | (go_at_call 97; go_loud (refine HST.out.mono ?_; rintro x w2 ⟨a2, c2, rfl, hia, hb⟩; have HIA := Lib.hid hia; have HB2 := Lib.hid (bt HB1.out hb); have HM2 := Lib.hid (HMT.out.on hb); have hdi := hia.bd; have HRA := Lib.hid (HRD.out w2 (by have := HC.out; omega) (by have := HC.out; omega)); rw [← HR'.out] at HRA; clear hia hb))
          | (go_at_call 98; go_loud (refine HRA.out.mono ?_; rintro x w' ⟨rfl, rfl⟩)))
        go_ret3
        exact ⟨none, none, 0, 0, 0, 0, 11, rfl, Lib.hid (.inr ⟨rfl, HNO.out⟩), HB2.out⟩
      · have HRI := Lib.hid (HF1.out (by omega))
        go_wp2_with (first
          | (go_at_call 97; go_loud (refine HST.out.mono ?_; rintro x w2 ⟨a2, c2, rfl, hia, hb⟩; have HIA := Lib.hid hia; have HB2 := Lib.hid (bt HB1.out hb); have HM2 := Lib.hid (HMT.out.on hb); have hdi := hia.bd; have HRA := Lib.hid (HRD.out w2 (by have := HC.out; omega) (by have := HC.out; omega)); rw [← HR'.out] at HRA; clear hia hb))
          | (go_at_call 98; go_loud (refine HRA.out.mono ?_; rintro x w' ⟨rfl, rfl⟩)))
        go_ret3
        exact ⟨_, a2, _, _, _, c2, 0, rfl, Lib.hid (.inl ⟨rfl, N, P, rfl, HM2.out, HNP.out, rfl, HIA.out, HRI.out⟩), HB2.out⟩
end Go.Proofs.YtappfdbmhgifcaaGreatDoor
/- Contracts of slices.Chunk over bytes, one at a time, and of slices.Collect of these: rows of one number each. -/
namespace Go.Proofs.YtappfdbmhgifcaaGreatDoor
open Go.ChangeShapes Go.WideShapes Go.ChangeAt Go.RowKit Go.Shelf GF
set_option linter.unusedVariables false
set_option linter.unusedSimpArgs false
set_option maxRecDepth 100000
attribute [local go_sem] Oper.semAt_some

/-- What the boxes hold: the slice, and the 1. -/
def ChR (n₀ Bx By b off N c : Nat) (W : World) : Prop := Bx < n₀ ∧ By < n₀ ∧ W.cell? ⟨Bx, 0, none⟩ = some (.slice (some ⟨b, off, none⟩) N c) ∧ W.cell? ⟨By, 0, none⟩ = some (.int .i64 1)
theorem ChR.below {n₀ Bx By b off N c : Nat} {W W' : World} (h : ChR n₀ Bx By b off N c W) (hb : Below n₀ W W') : ChR n₀ Bx By b off N c W' :=
  ⟨h.1, h.2.1, (hb.cell (p := ⟨Bx, 0, none⟩) h.1).trans h.2.2.1, (hb.cell (p := ⟨By, 0, none⟩) h.2.1).trans h.2.2.2⟩
end Go.Proofs.YtappfdbmhgifcaaGreatDoor
/- Contracts of mend's Rows, At and Wrong. -/
namespace Go.Proofs.YtappfdbmhgifcaaGreatDoor
open Go.ChangeShapes Go.WideShapes Go.ChangeAt Go.RowKit Go.Shelf GF
set_option linter.unusedVariables false
set_option linter.unusedSimpArgs false
set_option maxRecDepth 100000

/-- What a Mended is in memory: a field, the numbers of the polynomials P, the numbers of the wrong rows. -/
def MdM (w : World) (p : Addr) (P : List (List GF)) (W : List Nat) : Prop :=
  ∃ (g fb : Nat) (aN : Option Addr) (T cN : Nat) (N : List (List GF)) (aW : Option Addr) (cW : Nat), p = ⟨g, 0, none⟩ ∧ g < w.heap.size ∧ w.cell? ⟨g, 0, none⟩ = some (.pointer (some ⟨fb, 0, none⟩)) ∧ w.cell? ⟨g, 1, none⟩ = some (.slice aN T cN) ∧ w.cell? ⟨g, 2, none⟩ = some (.slice aW W.length cW) ∧
    Fld w fb ∧ Mat w aN T cN N ∧ NumP N P T P.length ∧ IA w aW W.length cW (zl W) ∧ 1 ≤ T ∧ T ≤ 255
theorem MdM.on {w w' : World} {p : Addr} {P : List (List GF)} {W : List Nat} (h : MdM w p P W) (hb : Below w.heap.size w w') : MdM w' p P W := by
  obtain ⟨g, fb, aN, T, cN, N, aW, cW, h1, h2, h3, h4, h5, h6, h7, h8, h9, h10⟩ := h
  exact ⟨g, fb, aN, T, cN, N, aW, cW, h1, by have := hb.size; omega, (hb.cell (p := ⟨g, 0, none⟩) h2).trans h3, (hb.cell (p := ⟨g, 1, none⟩) h2).trans h4, (hb.cell (p := ⟨g, 2, none⟩) h2).trans h5, h6.below hb, h7.on hb, h8, h9.on hb, h10⟩
theorem num_evP {N P : List (List GF)} {T : Nat} (h : NumP N P T P.length) (x : GF) : valR N T P.length x = evP P x := by
  refine ext_co (by rw [valR_len, evP_len]) fun k hk => ?_
  rw [valR_len] at hk
  rw [num_ev h hk, evP_co x hk]

/-! ## At, Wrong -/
theorem rows_same {X : List GF} {R P Q : List (List GF)} {L t n e : Nat} (hA : Apart X) (hP : P.length = n) (hQ : Q.length = n) (h1 : ∀ j, j < n → RightP X (colG R L j) t e (rw_ P j)) (h2 : ∀ j, j < n → RightP X (colG R L j) t e (rw_ Q j)) : P = Q := by
  apply List.ext_getElem (by omega)
  intro j k1 k2
  have h := RightP.uniq hA (h1 j (by omega)) (h2 j (by omega))
  unfold rw_ at h
  simpa [List.getD_eq_getElem?_getD, k1, k2] using h

/-! ## Rows -/
theorem chk_zero (b L t : Nat) (e : Int) (aX : Option Addr) (cX : Nat) (X : List GF) (w : World) (hf : Fld w b) (hX : Pa w aX L cX X) (he0 : 0 ≤ e) (ht : 1 ≤ t) (htL : t ≤ L) (hL : L ≤ 200) (hE : plErr X = 0) :
    Calls Tryz.prog 68 #[.pointer (some ⟨b, 0, none⟩), .int .i64 (t : Nat), .slice aX L cX, .int .i64 (L : Nat), .int .i64 e] w fun r w' => r = .returned (.int .i64 0) ∧ Below w.heap.size w w' := by
  have hl := hX.len
  have h := mchk_any b L L (t : Int) e aX cX X w hf hX
  rw [colErr_zero.2 ⟨hl, by omega, by omega, he0, by omega, hE⟩] at h
  exact h
theorem rows_no (b L t n k : Nat) (e : Int) (aX : Option Addr) (cX : Nat) (X : List GF) (aR : Option Addr) (cR : Nat) (R : List (List GF)) (w : World) (hf : Fld w b) (hX : Pa w aX L cX X) (hR : Mat w aR L cR R) (he : (Lit.int .i64 e).wf = true) (he0 : 0 ≤ e) (ht : 1 ≤ t) (htL : t ≤ L) (hL : L ≤ 200) (hE : plErr X = 0) (hw : ∀ k, k < L → (rw_ R k).length = n) (hn : n ≤ 1000) (hk : k < n) (hno : ∀ p, ¬ RightP X (colG R L k) t e.toNat p) :
    Calls Tryz.prog 40 #[.pointer (some ⟨b, 0, none⟩), .int .i64 (t : Nat), .slice aX L cX, .slice aR L cR, .int .i64 e] w fun r w' => r = .returned (.tuple #[.pointer none, .int .i64 11]) ∧ Below w.heap.size w w' := by
  have HCK := Lib.hid (chk_zero b L t e aX cX X w hf hX he0 ht htL hL hE)
  have hA : Apart X := (plErr_zero.1 hE).2.2
  have HR := Lib.hid hR; have HX := Lib.hid hX; have HF := Lib.hid hf
  have HW := Lib.hid hw
  have HC := Lib.hid (And.intro hA (And.intro ht (And.intro htL (And.intro hL (And.intro hn (And.intro he (And.intro he0 hk)))))))
  have HNO := Lib.hid hno
  have hbx := hX.bd; have hbr := hR.bd
  clear hf hX hR he he0 ht htL hL hE hw hn hk hno hA
  go_enter Tryz.func40, Tryz.ntmps40
  go_wp2_with (first
    | (go_at_call 68; go_loud (refine HCK.out.mono ?_; rintro r w1 ⟨rfl, hb⟩; have HB1 := Lib.hid hb; have HUN := Lib.hid (munev_any aR L cR R false w1 (HR.out.on hb) (fun k hk => (by rw [HW.out k hk]; exact HC.out.2.2.2.2.1)) ⟨(fun e => by cases e), fun ⟨i, hi, h⟩ => absurd (by rw [HW.out i hi, HW.out 0 (by omega)]) h⟩); clear hb))
    | (go_at_call 69; go_loud (refine HUN.out.mono ?_; rintro r w2 ⟨rfl, hb⟩; have HB2 := Lib.hid (bt HB1.out hb); have HME := Lib.hid (mended_any b L t n e aX cX X aR cR R w2 (HF.out.below HB2.out) (HX.out.on HB2.out) (HR.out.on HB2.out) HC.out.1 HC.out.2.1 HC.out.2.2.1 HC.out.2.2.2.1 HW.out HC.out.2.2.2.2.1 HC.out.2.2.2.2.2.1 HC.out.2.2.2.2.2.2.1); clear hb))
    | (go_at_call 70; go_loud (refine HME.out.mono ?_; rintro r w4 ⟨a1, a2, m1, c1, m2, c2, er, rfl, hs, hb⟩; obtain ⟨rfl, _⟩ := (hs.out.resolve_left fun ⟨_, N, P, _, _, _, _, _, hrp⟩ => HNO.out _ (hrp k HC.out.2.2.2.2.2.2.2)); have HB4 := Lib.hid (bt HB2.out hb); clear hs hb)))
  go_ret2
  exact ⟨rfl, HB4.out⟩
set_option maxHeartbeats 1000000 in
theorem rows_ok (b L t n : Nat) (e : Int) (aX : Option Addr) (cX : Nat) (X : List GF) (aR : Option Addr) (cR : Nat) (R P : List (List GF)) (w : World) (hf : Fld w b) (hX : Pa w aX L cX X) (hR : Mat w aR L cR R) (he : (Lit.int .i64 e).wf = true) (he0 : 0 ≤ e) (ht : 1 ≤ t) (htL : t ≤ L) (hL : L ≤ 200) (hE : plErr X = 0) (hw : ∀ k, k < L → (rw_ R k).length = n) (hn : n ≤ 1000) (hPl : P.length = n) (hP : ∀ k, k < n → RightP X (colG R L k) t e.toNat (rw_ P k)) :
    Calls Tryz.prog 40 #[.pointer (some ⟨b, 0, none⟩), .int .i64 (t : Nat), .slice aX L cX, .slice aR L cR, .int .i64 e] w fun r w' => ∃ p, r = .returned (.tuple #[.pointer (some p), .int .i64 0]) ∧ MdM w' p P (wrI X R P n L) ∧ Below w.heap.size w w' := by
  have HCK := Lib.hid (chk_zero b L t e aX cX X w hf hX he0 ht htL hL hE)
  have hA : Apart X := (plErr_zero.1 hE).2.2
  have HR := Lib.hid hR; have HX := Lib.hid hX; have HF := Lib.hid hf
  have HW := Lib.hid hw
  have HC := Lib.hid (And.intro hA (And.intro ht (And.intro htL (And.intro hL (And.intro hn (And.intro he he0))))))
  have HP := Lib.hid (And.intro hPl hP)
  have hbx := hX.bd; have hbr := hR.bd
  clear hf hX hR he he0 ht htL hL hE hw hn hPl hP hA
  go_enter Tryz.func40, Tryz.ntmps40
  go_wp2_with (first
    | (go_at_call 68; go_loud (refine HCK.out.mono ?_; rintro r w1 ⟨rfl, hb⟩; have HB1 := Lib.hid hb; have HUN := Lib.hid (munev_any aR L cR R false w1 (HR.out.on hb) (fun k hk => (by rw [HW.out k hk]; exact HC.out.2.2.2.2.1)) ⟨(fun e => by cases e), fun ⟨i, hi, h⟩ => absurd (by rw [HW.out i hi, HW.out 0 (by omega)]) h⟩); clear hb))
    | (go_at_call 69; go_loud (refine HUN.out.mono ?_; rintro r w2 ⟨rfl, hb⟩; have HB2 := Lib.hid (bt HB1.out hb); have HME := Lib.hid (mended_any b L t n e aX cX X aR cR R w2 (HF.out.below HB2.out) (HX.out.on HB2.out) (HR.out.on HB2.out) HC.out.1 HC.out.2.1 HC.out.2.2.1 HC.out.2.2.2.1 HW.out HC.out.2.2.2.2.1 HC.out.2.2.2.2.2.1 HC.out.2.2.2.2.2.2); clear hb))
    | (go_at_call 70; go_loud (refine HME.out.mono ?_; rintro r w4 ⟨a1, a2, m1, c1, m2, c2, er, rfl, hs, hb⟩; obtain ⟨rfl, N, P', rfl, hmN, hnp, rfl, hia, hrp⟩ := (hs.out.resolve_right fun ⟨_, j, hj, h⟩ => h _ (HP.out.2 j hj)); obtain rfl : P' = P := rows_same HC.out.1 hnp.2.1 HP.out.1 hrp HP.out.2; have HMN := Lib.hid hmN; have HNP := Lib.hid hnp; have HIA := Lib.hid hia; have HB4 := Lib.hid (bt HB2.out hb); clear hs hb hmN hnp hrp hia))
    | (go_at_call 11; go_loud (refine (new_any _).mono ?_; rintro r w5 ⟨fb, rfl, hfb, hfl, hb⟩; have HFL := Lib.hid hfl; have HB5 := Lib.hid (bt HB4.out hb); have HB45 := Lib.hid hb; clear hb)))
  go_ret2
  have hal := (Below.refl w5.heap.size w5).alloc (Nat.le_refl _) (.cells #[.pointer (some ⟨fb, 0, none⟩), .slice a1 m1 c1, .slice a2 (wrI X R P' n L).length c2] 101)
  have hnp := HNP.out
  rw [← HP.out.1] at hnp
  refine ⟨_, rfl, ⟨w5.heap.size, fb, a1, m1, c1, N, a2, c2, rfl, by simp, by simp, by simp, by simp, HFL.out.below hal, (HMN.out.on HB45.out).on hal, hnp, (HIA.out.on HB45.out).on hal, HC.out.2.1, ?_⟩, bt HB5.out hal⟩
  have := HC.out
  omega
end Go.Proofs.YtappfdbmhgifcaaGreatDoor
