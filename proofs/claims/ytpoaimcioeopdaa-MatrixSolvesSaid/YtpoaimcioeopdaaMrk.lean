/- Contract of the document's own Rank. -/
import Derived.Test.YtpoaimcioeopdaaMdet
namespace Go.Proofs.Ytpoaimcioeopdaa
open Go.ChangeShapes Go.WideShapes Go.ChangeAt Go.RowKit Go.Shelf GF
set_option linter.unusedVariables false
set_option maxRecDepth 100000

/-- The numbers of a row that are picked, the first c looked at; the rows that are picked, the first i looked at. -/
def selA (C : Nat → Bool) (P : List GF) (c : Nat) : List GF := (en C c).map (co P)
def prtA (R C : Nat → Bool) (m : Nat) (M : List (List GF)) (i : Nat) : List (List GF) := (en R i).map fun t => selA C (rw_ M t) m
theorem length_selA (C : Nat → Bool) (P : List GF) (c : Nat) : (selA C P c).length = cnt C c := by unfold selA; rw [List.length_map, length_en]
theorem length_prtA (R C : Nat → Bool) (m : Nat) (M : List (List GF)) (i : Nat) : (prtA R C m M i).length = cnt R i := by unfold prtA; rw [List.length_map, length_en]
theorem selA_in {C : Nat → Bool} {P : List GF} {c : Nat} (h : C c = true) : selA C P (c + 1) = selA C P c ++ [co P c] := by simp [selA, en, h]
theorem selA_out {C : Nat → Bool} {P : List GF} {c : Nat} (h : C c = false) : selA C P (c + 1) = selA C P c := by simp [selA, en, h]
theorem prtA_in {R C : Nat → Bool} {m : Nat} {M : List (List GF)} {i : Nat} (h : R i = true) : prtA R C m M (i + 1) = prtA R C m M i ++ [selA C (rw_ M i) m] := by simp [prtA, en, h]
theorem prtA_out {R C : Nat → Bool} {m : Nat} {M : List (List GF)} {i : Nat} (h : R i = false) : prtA R C m M (i + 1) = prtA R C m M i := by simp [prtA, en, h]
theorem rw_prtA {R C : Nat → Bool} {m : Nat} {M : List (List GF)} {n a : Nat} (h : a < cnt R n) : rw_ (prtA R C m M n) a = selA C (rw_ M (ei R n a)) m := by
  unfold rw_ prtA ei
  have hl : a < (en R n).length := by rw [length_en]; exact h
  simp only [List.getD_eq_getElem?_getD, List.getElem?_map, List.getElem?_eq_getElem hl, Option.map_some, Option.getD_some]
  rfl
theorem co_selA {C : Nat → Bool} {P : List GF} {m b : Nat} (h : b < cnt C m) : co (selA C P m) b = co P (ei C m b) := by
  unfold selA ei
  have hl : b < (en C m).length := by rw [length_en]; exact h
  simp only [co, List.getD_eq_getElem?_getD, List.getElem?_map, List.getElem?_eq_getElem hl, Option.map_some, Option.getD_some]
theorem det_prtA (R C : Nat → Bool) (n m : Nat) (M : List (List GF)) (h : cnt R n = cnt C m) : detL (prtA R C m M n) = det (cnt R n) (sub R C n m (ent M)) := by
  unfold detL
  rw [length_prtA]
  refine det_congr fun a ha b hb => ?_
  show co (rw_ (prtA R C m M n) a) b = co (rw_ M (ei R n a)) (ei C m b)
  rw [rw_prtA ha, co_selA (by omega)]
theorem wide_prtA (R C : Nat → Bool) (n m : Nat) (M : List (List GF)) : Wide (prtA R C m M n) (cnt C m) := fun a ha => by
  rw [length_prtA] at ha
  rw [rw_prtA ha, length_selA]
/-- Rows of one's own, in blocks of bytes. -/
def RV8 (w : World) (vs : List Value) (M : List (List GF)) : Prop := RV w (fun b => ∃ cur fz, w.heap[b]? = some (.cells cur 5 fz)) vs M
theorem RV8.below {w w' : World} {vs : List Value} {M : List (List GF)} (h : RV8 w vs M) (hb : Below w.heap.size w w') : RV8 w' vs M :=
  h.keep hb.size fun b hlt ⟨cur, fz, e⟩ => ⟨⟨cur, fz, (hb.block b hlt).trans e⟩, hb.block b hlt⟩
theorem RV8.grown {w w' : World} {vs vs' : List Value} {M : List (List GF)} {base s : Nat} {v : Value} (h : RV8 w vs M) (ho : w.ownsRow base 22 1 v s vs') (hg : w.grownBy w' v.ownBlock) : RV8 w' vs M :=
  h.keep hg.size fun b hlt ⟨cur, fz, e⟩ => by
    have hne : some b ≠ v.ownBlock := fun hb => by
      rcases ho.2 with ⟨rfl, _⟩ | ⟨g, cap, cur', rfl, _, hh, _⟩
      · cases hb
      · cases hb
        rw [hh] at e
        injection e with e
        injection e with _ e _
        exact absurd e (by decide)
    exact ⟨⟨cur, fz, (hg.block b hlt hne).trans e⟩, hg.block b hlt hne⟩
theorem RV8.more {w : World} {vs : List Value} {M : List (List GF)} (h : RV8 w vs M) {base c : Nat} {a : Option Addr} {P : List GF} (ho : w.ownsRow base 5 1 (.slice a P.length c) P.length ((iL P).map (Value.int .u8))) : RV8 w (vs ++ [.slice a P.length c]) (M ++ [P]) := by
  obtain ⟨a', c', e, hp⟩ := own_pa ho
  cases e
  refine RV.more h hp fun b off hb h0 => ?_
  rcases ho.2 with ⟨e, _⟩ | ⟨g, cap, cur, e, _, hh, _⟩
  · injection e with e; rw [e] at hb; cases hb
  · injection e with e; rw [e] at hb; cases hb; exact ⟨cur, _, hh⟩
theorem own_below {w w' : World} {base : Nat} {e : TypeId} {size : Nat} {v : Value} {n : Nat} {xs : List Value} (h : w.ownsRow base e size v n xs) (hb : Below w.heap.size w w') : w'.ownsRow base e size v n xs := by
  refine ⟨h.1, ?_⟩
  rcases h.2 with h2 | ⟨g, cap, cur, h1, h2, h3, h4⟩
  · exact .inl h2
  · refine .inr ⟨g, cap, cur, h1, h2, ?_, h4⟩
    rw [hb.block g ?_]
    · exact h3
    · rcases Nat.lt_or_ge g w.heap.size with hlt | hge
      · exact hlt
      · rw [Array.getElem?_eq_none hge] at h3; cases h3
theorem cp6 (w : World) (e : TypeId) : Below w.heap.size w (w.alloc (.cells #[] e)) := (Below.refl _ _).alloc (Nat.le_refl _) _
/-- All squares of the numbers before have at most t rows, or no determinant. -/
def Seen (n m : Nat) (M : Nat → Nat → GF) (X Y t : Nat) : Prop := ∀ x y k, (x < X ∧ y < 2 ^ m ∨ x = X ∧ y < Y) → 1 ≤ y → cnt (fun i => x.testBit i) n = k → cnt (fun i => y.testBit i) m = k → det k (sub (fun i => x.testBit i) (fun i => y.testBit i) n m M) ≠ 0 → k ≤ t

theorem Seen.start (n m : Nat) (M : Nat → Nat → GF) : Seen n m M 1 0 0 := fun x y k h1 _ h3 _ _ => by
  have : x = 0 := by omega
  subst this
  have h0 : ∀ n, cnt (fun i => (0 : Nat).testBit i) n = 0 := fun n => by
    induction n with
    | zero => rfl
    | succ n ih => simp only [cnt]; rw [ih]; simp
  rw [h0] at h3; omega
theorem Seen.first {n m : Nat} {M : Nat → Nat → GF} {X t : Nat} (h : Seen n m M X 0 t) : Seen n m M X 1 t := fun x y k h1 h2 h3 h4 h5 => h x y k (by omega) h2 h3 h4 h5
theorem Seen.last {n m : Nat} {M : Nat → Nat → GF} {X t : Nat} (h : Seen n m M X (2 ^ m) t) : Seen n m M (X + 1) 0 t := fun x y k h1 h2 h3 h4 h5 => h x y k (by omega) h2 h3 h4 h5
theorem Seen.step {n m : Nat} {M : Nat → Nat → GF} {X Y t t' : Nat} (h : Seen n m M X Y t) (ht : t ≤ t') (hn : cnt (fun i => X.testBit i) n = cnt (fun i => Y.testBit i) m → det (cnt (fun i => X.testBit i) n) (sub (fun i => X.testBit i) (fun i => Y.testBit i) n m M) ≠ 0 → cnt (fun i => X.testBit i) n ≤ t') : Seen n m M X (Y + 1) t' := fun x y k h1 h2 h3 h4 h5 => by
  by_cases e : x = X ∧ y = Y
  · obtain ⟨rfl, rfl⟩ := e
    rw [← h3] at h5 ⊢
    exact hn (by rw [h3, h4]) h5
  · exact Nat.le_trans (h x y k (by omega) h2 h3 h4 h5) ht
theorem Seen.all {n m : Nat} {M : Nat → Nat → GF} {r t : Nat} (h : Seen n m M (2 ^ n) 0 t) (hr : Rk n m M r) : r ≤ t := by
  rcases Nat.eq_zero_or_pos r with h0 | h0
  · omega
  · obtain ⟨⟨R, C, h1, h2, h3⟩, _⟩ := rk_dets hr
    obtain ⟨x, hx, hxb⟩ := has_bits R n
    obtain ⟨y, hy, hyb⟩ := has_bits C m
    have e1 : cnt (fun i => x.testBit i) n = r := by rw [← h1]; exact cnt_congr hxb
    have e2 : cnt (fun i => y.testBit i) m = r := by rw [← h2]; exact cnt_congr hyb
    refine h x y r (.inl ⟨hx, hy⟩) ?_ e1 e2 ?_
    · refine Nat.pos_of_ne_zero fun e => ?_
      obtain ⟨c, hc, hb⟩ := cnt_pos (C := fun i => y.testBit i) (m := m) (by omega)
      simp [e] at hb
    · have hen : ∀ (C D : Nat → Bool) (m : Nat), (∀ c, c < m → C c = D c) → en C m = en D m := fun C D m => by
        induction m with
        | zero => intro _; rfl
        | succ m ih => intro h; simp only [en]; rw [ih fun c hc => h c (by omega), h m (by omega)]
      rw [show sub (fun i => x.testBit i) (fun i => y.testBit i) n m M = sub R C n m M from funext fun a => funext fun b => by unfold sub ei; rw [hen _ _ _ hxb, hen _ _ _ hyb]]
      exact h3

theorem bit_even (X i : Nat) : (((X : Int) / 2 ^ i).tmod 2 == 0) = !X.testBit i := by
  have h1 : ((X : Int) / 2 ^ i).tmod 2 = ((X / 2 ^ i % 2 : Nat) : Int) := by
    rw [show ((X : Int) / 2 ^ i) = ((X / 2 ^ i : Nat) : Int) by rw [Int.natCast_ediv, Int.natCast_pow]; rfl]
    exact Int.ofNat_tmod _ 2 |>.symm
  rw [h1, Nat.testBit_eq_decide_div_mod_eq]
  rcases Nat.mod_two_eq_zero_or_one (X / 2 ^ i) with h | h <;> rw [h] <;> rfl
theorem bit_odd (X i : Nat) : (((X : Int) / 2 ^ i).tmod 2 == 1) = X.testBit i := by
  have h1 : ((X : Int) / 2 ^ i).tmod 2 = ((X / 2 ^ i % 2 : Nat) : Int) := by
    rw [show ((X : Int) / 2 ^ i) = ((X / 2 ^ i : Nat) : Int) by rw [Int.natCast_ediv, Int.natCast_pow]; rfl]
    exact Int.ofNat_tmod _ 2 |>.symm
  rw [h1, Nat.testBit_eq_decide_div_mod_eq]
  rcases Nat.mod_two_eq_zero_or_one (X / 2 ^ i) with h | h <;> rw [h] <;> rfl

theorem cnt_zero {C : Nat → Bool} {m c : Nat} (h : cnt C m = 0) (hc : c < m) : C c = false := by
  refine Bool.eq_false_iff.2 fun e => ?_
  have := cnt_lt_of hc e
  omega
theorem cnt_bits_pos {X n : Nat} (h1 : 1 ≤ X) (h2 : X < 2 ^ n) : 0 < cnt (fun i => X.testBit i) n := by
  refine Nat.pos_of_ne_zero fun h => ?_
  have : X = 0 := Nat.eq_of_testBit_eq fun i => by
    rw [Nat.zero_testBit]
    rcases Nat.lt_or_ge i n with hi | hi
    · exact cnt_zero (C := fun i => X.testBit i) h hi
    · exact Nat.testBit_lt_two_pow (Nat.lt_of_lt_of_le h2 (Nat.pow_le_pow_right (by omega) hi))
  omega

set_option maxRecDepth 10000 in
set_option maxHeartbeats 4000000 in
theorem rrank_any (a : Option Addr) (n c : Nat) (M : List (List GF)) (m r : Nat) (w : World) (hm : Mat w a n c M) (hw : Wide M m) (hn0 : 1 ≤ n) (hn : n ≤ 8) (hm0 : 1 ≤ m) (hm8 : m ≤ 8) (hr : Rk n m (ent M) r) :
    Calls Try.prog 13 #[.slice a n c] w fun e w' => e = .returned (.int .i64 (r : Nat)) ∧ Below w.heap.size w w' := by
  have HM := Lib.hid hm
  have hb1 := hm.bd
  have Hl := Lib.hid hm.len
  have HW := Lib.hid hw
  have HR := Lib.hid hr
  obtain ⟨i22, hi, hz0, hz1, hz2⟩ := info_parts info22
  have HI := Lib.hid (And.intro hi (And.intro hz0 (And.intro hz1 hz2)))
  obtain ⟨i5, hi5, hy0, hy1, hy2⟩ := info_parts info5
  have HJ := Lib.hid (And.intro hi5 (And.intro hy0 (And.intro hy1 hy2)))
  obtain ⟨b, off, a0, c0, rfl, hb, hcell0, hpa0⟩ := hm.row (i := 0) (by omega)
  rw [hw 0 (by rw [hm.len]; omega)] at hcell0 hpa0
  have HC0 := Lib.hid hcell0
  have hbp0 := hpa0.bd
  have q0 : (0 : Int) < (n : Int) := by omega
  clear hi hz0 hz1 hz2 hm hw hr hi5 hy0 hy1 hy2 hcell0 hpa0
  go_enter Try.func13, Try.ntmps13
  go_wp2
  obtain ⟨K, hK⟩ : ∃ K, K = 2 ^ n := ⟨_, rfl⟩
  obtain ⟨L, hL⟩ : ∃ L, L = 2 ^ m := ⟨_, rfl⟩
  have hwK : wrap64 (2 ^ n) = (K : Int) := by
    rw [hK]; have : n = 1 ∨ n = 2 ∨ n = 3 ∨ n = 4 ∨ n = 5 ∨ n = 6 ∨ n = 7 ∨ n = 8 := by omega
    rcases this with rfl | rfl | rfl | rfl | rfl | rfl | rfl | rfl <;> decide +kernel
  have hwL : wrap64 (2 ^ m) = (L : Int) := by
    rw [hL]; have : m = 1 ∨ m = 2 ∨ m = 3 ∨ m = 4 ∨ m = 5 ∨ m = 6 ∨ m = 7 ∨ m = 8 := by omega
    rcases this with rfl | rfl | rfl | rfl | rfl | rfl | rfl | rfl <;> decide +kernel
  have hK1 : 1 ≤ K ∧ K ≤ 256 := by
    rw [hK]; have : n = 1 ∨ n = 2 ∨ n = 3 ∨ n = 4 ∨ n = 5 ∨ n = 6 ∨ n = 7 ∨ n = 8 := by omega
    rcases this with rfl | rfl | rfl | rfl | rfl | rfl | rfl | rfl <;> decide
  have hL1 : 1 ≤ L ∧ L ≤ 256 := by
    rw [hL]; have : m = 1 ∨ m = 2 ∨ m = 3 ∨ m = 4 ∨ m = 5 ∨ m = 6 ∨ m = 7 ∨ m = 8 := by omega
    rcases this with rfl | rfl | rfl | rfl | rfl | rfl | rfl | rfl <;> decide
  have HK := Lib.hid hK
  have HL := Lib.hid hL
  clear hK hL
  go_loopw [4, 3] (fun j x wr => ∃ X t : Nat, 1 ≤ X ∧ X ≤ K ∧ t ≤ r ∧ j = .int .i64 (X : Nat) ∧ x = .int .i64 (t : Nat) ∧ Hid (Seen n m (ent M) X 0 t) ∧ Hid (Below w.heap.size w wr))
    (fun j _ _ => K - (intOf j).toNat)
  case atStart => exact ⟨1, 0, Nat.le_refl _, hK1.1, Nat.zero_le _, rfl, rfl, Lib.hid (Seen.start _ _ _), Lib.hid (Below.refl _ _)⟩
  case round =>
    obtain ⟨X, t, hX1, hX2, htr, rfl, rfl, hS, hB⟩ := hrel
    by_cases hlt : X < K
    · have qX : (X : Int) < (K : Int) := by omega
      go_wp2
      rw [hwK]
      go_loopw [5, 3] (fun j x wr => ∃ Y t : Nat, 1 ≤ Y ∧ Y ≤ L ∧ t ≤ r ∧ j = .int .i64 (Y : Nat) ∧ x = .int .i64 (t : Nat) ∧ Hid (Seen n m (ent M) X Y t) ∧ Hid (Below w.heap.size w wr))
        (fun j _ _ => L - (intOf j).toNat)
      case atStart => exact ⟨1, t, Nat.le_refl _, hL1.1, htr, rfl, rfl, Lib.hid hS.out.first, hB⟩
      case round =>
        obtain ⟨Y, t2, hY1, hY2, htr2, rfl, rfl, hS2, hB2⟩ := hrel
        have hc0 := (hB2.out.cell (p := ⟨b, off + 0, none⟩) hb).trans HC0.out
        rw [Nat.add_zero] at hc0
        by_cases hlt2 : Y < L
        · have qY : (Y : Int) < (L : Int) := by omega
          go_wp2
          rw [hwL]
          go_loopw [29, 6] (fun j o wr => ∃ (i s : Nat) (ao : Option Addr) (cc : Nat) (vs : List Value), i ≤ n ∧ s ≤ i ∧ j = .int .i64 (i : Nat) ∧ o = .slice ao (s : Nat) cc ∧ Hid (wr.ownsRow w.heap.size 22 1 (.slice ao (s : Nat) cc) s vs) ∧ Hid (RV8 wr vs (prtA (fun i => X.testBit i) (fun i => Y.testBit i) m M i)) ∧ Hid (Below w.heap.size w wr) ∧ Hid (s = cnt (fun i => X.testBit i) i))
            (fun j _ _ => n - (intOf j).toNat)
          case atStart =>
            refine ⟨0, 0, some ⟨wr.heap.size, 0, none⟩, 0, [], Nat.zero_le _, Nat.le_refl _, rfl, rfl, Lib.hid ?_, Lib.hid (RV.nil _ _), Lib.hid (hB2.out.alloc hB2.out.size _), Lib.hid rfl⟩
            exact World.ownsRow_lit (base := w.heap.size) (e := 22) (size := 1) wr #[] 0 hB2.out.size (Nat.zero_le _) rfl
          case round =>
            obtain ⟨i, s, ao, cc, vs, hi, hsi, rfl, rfl, hO, hV, hB3, hS3⟩ := hrel
            by_cases hi_ : i < n
            · have qi : (i : Int) < (n : Int) := by omega
              have qi0 : (0 : Int) ≤ (i : Int) := by omega
              have hc1 := (hB3.out.cell (p := ⟨b, off + 0, none⟩) hb).trans HC0.out
              rw [Nat.add_zero] at hc1
              have hbw : b < wr.heap.size := by have := hB3.out.size; omega
              have hev := bit_even X i
              by_cases hX : X.testBit i = true
              · rw [hX] at hev
                have hev' : (((X : Int) / 2 ^ i).tmod 2 == 0) = false := hev
                obtain ⟨b3, off3, ai3, ci3, hbe, hb3, hcell3, hpa3⟩ := HM.out.row hi_
                cases hbe
                have hlen3 : (rw_ M i).length = m := HW.out i (by have := Hl.out; omega)
                rw [hlen3] at hcell3 hpa3
                have HC3 := Lib.hid hcell3
                have HP3 := Lib.hid hpa3
                have Hlen3 := Lib.hid hlen3
                have HX := Lib.hid hX
                have hbp3 := hpa3.bd
                have hca := (Below.cell (cp6 wr 5) (p := ⟨b, off, none⟩) hbw).trans hc1
                clear hev hX hcell3 hpa3 hlen3
                rename World => w1
                go_wp2
                go_loopw [42, 8] (fun j o wr => ∃ (q s2 : Nat) (a2 : Option Addr) (c2 : Nat), q ≤ m ∧ s2 ≤ q ∧ j = .int .i64 (q : Nat) ∧ o = .slice a2 (s2 : Nat) c2 ∧ Hid (wr.ownsRow w1.heap.size 5 1 (.slice a2 (s2 : Nat) c2) s2 ((iL (selA (fun i => Y.testBit i) (rw_ M i) q)).map (Value.int .u8))) ∧ Hid (Below w1.heap.size w1 wr) ∧ Hid (s2 = cnt (fun i => Y.testBit i) q))
                  (fun j _ _ => m - (intOf j).toNat)
                case atStart => exact ⟨0, 0, some ⟨w1.heap.size, 0, none⟩, 0, Nat.zero_le _, Nat.le_refl _, rfl, rfl, Lib.hid (own_empty w1 _), Lib.hid ((Below.refl _ _).alloc (Nat.le_refl _) _), Lib.hid rfl⟩
                case round =>
                  obtain ⟨q, s2, a2, c2, hq, hsq, rfl, rfl, hR4, hB4, hS4⟩ := hrel
                  by_cases hlt4 : q < m
                  · have hcr := ((bt hB3.out hB4.out).cell (p := ⟨b, off + i, none⟩) hb).trans HC3.out
                    obtain ⟨bx, ox, rfl, hbx, hcx⟩ := (HP3.out.on (bt hB3.out hB4.out)).at_ hlt4
                    have qq : (q : Int) < (m : Int) := by omega
                    have qq0 : (0 : Int) ≤ (q : Int) := by omega
                    have hod := bit_odd Y q
                    have hbw1 : b < wr.heap.size := by have := (bt hB3.out hB4.out).size; omega
                    by_cases hY : Y.testBit q = true
                    · rw [hY] at hod
                      have hsi := selA_in (C := fun i => Y.testBit i) (P := rw_ M i) (c := q) hY
                      have hcn : cnt (fun i => Y.testBit i) (q + 1) = cnt (fun i => Y.testBit i) q + 1 := by simp [cnt, hY]
                      have HSI := Lib.hid hsi
                      have HCN := Lib.hid hcn
                      clear hY hsi hcn
                      go_wp2_with ((with_reducible show wpList _ _ _ (⟨some 59, _, _, _, _, _⟩ :: _) _ _); go_loud (refine wpList_append_bs _ rfl (.tmp 50) (.tmp 58) 22 rfl w1.heap.size 5 i5 Try.underlying22 HJ.out.1 HJ.out.2.1 HJ.out.2.2.1 HJ.out.2.2.2 _ s2 (iL (selA (fun i => Y.testBit i) (rw_ M i) q)) rfl (hR4.out.alloc _) _ 1 1 _ _ rfl (one_bs _ _) rfl (fun h => by cases h) (by omega) (by have := hB4.out.size; simp; omega) ?_); go_loud (intro v1 wc hown1 hg1; have hbel := (hB4.out.alloc hB4.out.size (.cells #[.int .u8 (toI (co (rw_ M i) q))] 5)).grown hg1 (by have := hB4.out.size; simp; omega) (fun z hz => (hR4.out.lt z hz).1); obtain ⟨a1, c1, hv1, _, _, _, _, _⟩ := own_form hown1; subst hv1; have HO1 := Lib.hid hown1; have HN1 := Lib.hid hbel; clear hown1 hg1 hbel))
                      go_roundw
                      case rel =>
                        exact ⟨q + 1, s2 + 1, a1, c1, by omega, by omega, by go_num, rfl, Lib.hid (by rw [HSI.out]; simpa [iL] using HO1.out), HN1, Lib.hid (by rw [HCN.out]; have := hS4.out; omega)⟩
                      case measure => simp [intOf]; omega
                    · have hY' : Y.testBit q = false := by simpa using hY
                      rw [hY'] at hod
                      have hsi := selA_out (C := fun i => Y.testBit i) (P := rw_ M i) (c := q) hY'
                      have hcn : cnt (fun i => Y.testBit i) (q + 1) = cnt (fun i => Y.testBit i) q := by simp [cnt, hY']
                      have HSI := Lib.hid hsi
                      have HCN := Lib.hid hcn
                      clear hY hY' hsi hcn
                      go_wp2
                      go_roundw
                      case rel => exact ⟨q + 1, s2, a2, c2, by omega, by omega, by go_num, rfl, Lib.hid (by rw [HSI.out]; exact hR4.out), hB4, Lib.hid (by rw [HCN.out]; exact hS4.out)⟩
                      case measure => simp [intOf]; omega
                  · obtain rfl : m = q := by omega
                    have hpi := prtA_in (R := fun i => X.testBit i) (C := fun i => Y.testBit i) (m := m) (M := M) (i := i) HX.out
                    have hcn : cnt (fun i => X.testBit i) (i + 1) = cnt (fun i => X.testBit i) i + 1 := by have := HX.out; simp [cnt, this]
                    have hlen : (selA (fun i => Y.testBit i) (rw_ M i) m).length = s2 := by rw [length_selA]; exact hS4.out.symm
                    have hor := hR4.out
                    rw [← hlen] at hor
                    have h2 := (hV.out.below hB4.out).more hor
                    rw [hlen, ← hpi] at h2
                    have HV2 := Lib.hid h2
                    have HO2 := Lib.hid (own_below hO.out hB4.out)
                    have HB5 := Lib.hid (bt hB3.out hB4.out)
                    have HCN := Lib.hid hcn
                    clear hpi hcn hlen hor h2
                    go_wp2_with ((with_reducible show wpList _ _ _ (⟨some 64, _, _, _, _, _⟩ :: _) _ _); go_loud (refine wpList_append_own _ rfl (.tmp 61) (.tmp 63) 27 rfl w.heap.size 22 i22 (.slice none 0 0) 1 24 Try.underlying27 HI.out.1 HI.out.2.1 HI.out.2.2.1 HI.out.2.2.2 rfl (by decide) _ s vs rfl (HO2.out.alloc _) _ 1 1 [_] rfl rfl (lit_cells _ _ _) (by intro u hu; cases List.mem_singleton.1 hu; rfl) (by unfold maxLen; omega) (by omega) (by have := HB5.out.size; simp; omega) ?_); go_loud (intro v1 wc hown1 hg1 _; have hbel := (HB5.out.alloc HB5.out.size (.cells #[.slice a2 s2 c2] 22)).grown hg1 (by have := HB5.out.size; simp; omega) (fun z hz => (HO2.out.lt z hz).1); have hrv := (HV2.out.below ((Below.refl _ _).alloc (Nat.le_refl _) (.cells #[.slice a2 s2 c2] 22))).grown (HO2.out.alloc _) hg1; obtain ⟨a1, c1, hv1⟩ := own_slice hown1; subst hv1; have HO1 := Lib.hid hown1; have HN1 := Lib.hid hbel; have HRV := Lib.hid hrv; clear hown1 hg1 hbel hrv))
                    go_roundw
                    case rel =>
                      exact ⟨i + 1, s + 1, a1, c1, _, by omega, by omega, by go_num, rfl, HO1, HRV, HN1, Lib.hid (by rw [HCN.out, ← hS3.out])⟩
                    case measure => simp [intOf]; omega
              · have hX' : X.testBit i = false := by simpa using hX
                rw [hX'] at hev
                have hev' : (((X : Int) / 2 ^ i).tmod 2 == 0) = true := hev
                have hpo := prtA_out (R := fun i => X.testBit i) (C := fun i => Y.testBit i) (m := m) (M := M) (i := i) hX'
                have hcn : cnt (fun i => X.testBit i) (i + 1) = cnt (fun i => X.testBit i) i := by simp [cnt, hX']
                have HPO := Lib.hid hpo
                have HCN := Lib.hid hcn
                clear hev hX hX' hpo hcn
                go_wp2
                go_roundw
                case rel => exact ⟨i + 1, s, ao, cc, vs, by omega, by omega, by go_num, rfl, hO, Lib.hid (by rw [HPO.out]; exact hV.out), hB3, Lib.hid (by rw [HCN.out]; exact hS3.out)⟩
                case measure => simp [intOf]; omega
            · obtain rfl : n = i := by omega
              have hsp : 0 < s := by have h := hS3.out; rw [h]; exact cnt_bits_pos hX1 (by have := HK.out; omega)
              obtain ⟨ao', cc', he, hmat⟩ := Mat.own hO.out hV.out
              cases he
              have hwd := wide_prtA (fun i => X.testBit i) (fun i => Y.testBit i) n m M
              obtain ⟨b4, off4, a4, c4, rfl, hb4, hcell4, hpa4⟩ := hmat.row hsp
              have hbd := hmat.bd
              rw [hwd 0 (by rw [hmat.len]; exact hsp), Nat.add_zero] at hcell4
              obtain ⟨kc, hkc⟩ : ∃ kc, kc = cnt (fun i => Y.testBit i) m := ⟨_, rfl⟩
              rw [← hkc] at hcell4 hwd
              have qs : (0 : Int) < (s : Int) := by omega
              have hsn := cnt_le (fun i => X.testBit i) n
              have hsn2 := hS3.out
              have hcell5 : wr.drew.cell? ⟨b4, off4, none⟩ = some (.slice a4 kc c4) := hcell4
              by_cases hsq : s = kc
              · have qe : ((s : Int) == (kc : Int)) = true := by rw [beq_iff_eq]; omega
                have hsd : cnt (fun i => X.testBit i) n = cnt (fun i => Y.testBit i) m := by rw [← hsn2, ← hkc]; exact hsq
                have hdt := det_prtA (fun i => X.testBit i) (fun i => Y.testBit i) n m M hsd
                by_cases hgt : t2 < s
                · have qg : (t2 : Int) < (s : Int) := by omega
                  have hdet := rdet_any s (some ⟨b4, off4, none⟩) cc _ wr hmat (by rw [hsq]; exact hwd) (by omega)
                  have HD := Lib.hid (fun (W : World) (hW : Below wr.heap.size wr W) => rdet_any s (some ⟨b4, off4, none⟩) cc _ W (hmat.on hW) (by rw [hsq]; exact hwd) (by omega))
                  have hb4r : b4 < wr.heap.size := hb4
                  have hle : detL (prtA (fun i => X.testBit i) (fun i => Y.testBit i) m M n) ≠ 0 → s ≤ r := fun h => (rk_dets HR.out).2 _ _ s hsn2.symm (by rw [← hkc]; exact hsq.symm) (by rw [hsn2, ← hdt]; exact h)
                  obtain ⟨D, hD⟩ : ∃ D, D = detL (prtA (fun i => X.testBit i) (fun i => Y.testBit i) m M n) := ⟨_, rfl⟩
                  rw [← hD] at HD hle hdt
                  by_cases hz : D = 0
                  · have hst : Seen n m (ent M) X (Y + 1) t2 := hS2.out.step (Nat.le_refl _) (fun _ h => absurd (by rw [← hdt]; exact hz) h)
                    have HST := Lib.hid hst
                    have qz : (toI D != 0) = false := by rw [hz]; rfl
                    clear hmat hwd hpa4 hkc hsn hsn2 hst hsd hdt hdet hle hD hz hsq
                    go_wp2_with (go_at_call 39; go_loud (refine (HD.out _ (Below.refl _ _)).mono ?_); rintro e w9 ⟨rfl, hb9⟩; have HB9 := Lib.hid (bt hB3.out hb9); clear hb9)
                    go_roundw
                    case rel => exact ⟨Y + 1, t2, by omega, by omega, htr2, by go_num, rfl, HST, HB9⟩
                    case measure => simp [intOf]; omega
                  · have hst : Seen n m (ent M) X (Y + 1) s := hS2.out.step (by omega) (fun _ _ => by rw [← hsn2]; exact Nat.le_refl _)
                    have HST := Lib.hid hst
                    have hsr := hle hz
                    have qz : (toI D != 0) = true := by rw [bne_iff_ne]; exact fun e => hz (toI_eq_zero.1 e)
                    clear hmat hwd hpa4 hkc hsn hsn2 hst hsd hdt hdet hle hD hz hsq
                    go_wp2_with (go_at_call 39; go_loud (refine (HD.out _ (Below.refl _ _)).mono ?_); rintro e w9 ⟨rfl, hb9⟩; have HB9 := Lib.hid (bt hB3.out hb9); clear hb9)
                    go_roundw
                    case rel => exact ⟨Y + 1, s, by omega, by omega, hsr, by go_num, rfl, HST, HB9⟩
                    case measure => simp [intOf]; omega
                · have qg : ¬ (t2 : Int) < (s : Int) := by omega
                  have hst : Seen n m (ent M) X (Y + 1) t2 := hS2.out.step (Nat.le_refl _) (fun _ _ => by rw [← hsn2]; omega)
                  have HST := Lib.hid hst
                  clear hmat hwd hpa4 hkc hsn hsn2 hst hsd hdt
                  go_wp2_with fail
                  go_roundw
                  case rel => exact ⟨Y + 1, t2, by omega, by omega, htr2, by go_num, rfl, HST, hB3⟩
                  case measure => simp [intOf]; omega
              · have qe : ((s : Int) == (kc : Int)) = false := by rw [beq_eq_false_iff_ne]; omega
                have hst : Seen n m (ent M) X (Y + 1) t2 := hS2.out.step (Nat.le_refl _) (fun h _ => absurd (by rw [hsn2, h, hkc]) hsq)
                have HST := Lib.hid hst
                clear hmat hwd hpa4 hkc hsn hsn2 hst
                go_wp2_with fail
                go_roundw
                case rel => exact ⟨Y + 1, t2, by omega, by omega, htr2, by go_num, rfl, HST, hB3⟩
                case measure => simp [intOf]; omega
        · obtain rfl : L = Y := by omega
          have hc1 := (hB2.out.cell (p := ⟨b, off + 0, none⟩) hb).trans HC0.out
          rw [Nat.add_zero] at hc1
          go_wp2
          go_roundw
          case rel => exact ⟨X + 1, t2, by omega, by omega, htr2, by go_num, rfl, Lib.hid (by have h := hS2.out; rw [HL.out] at h; exact h.last), hB2⟩
          case measure => simp [intOf]; omega
    · obtain rfl : K = X := by omega
      go_wp2
      go_ret
      have h1 := hS.out
      rw [HK.out] at h1
      have h2 : t = r := by have := h1.all HR.out; omega
      rw [h2]
      exact ⟨rfl, hB.out⟩
end Go.Proofs.Ytpoaimcioeopdaa
