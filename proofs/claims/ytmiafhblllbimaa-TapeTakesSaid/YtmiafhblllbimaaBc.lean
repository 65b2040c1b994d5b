/- The walk of TapeTakes under the contracts (written by gen63.py). -/
import Derived.Test.YtmiafhblllbimaaBb
import Derived.Deep.MidRow
namespace Go.Proofs.Ytmiafhblllbimaa
open Go.ChangeShapes Go.WideShapes Go.ChangeAt Go.RowKit Go.Shelf
set_option linter.unusedVariables false
set_option linter.unusedSimpArgs false
set_option maxRecDepth 100000

theorem infoTK : (Try.prog.info? 33).map (fun i => (i.zero, i.size, i.bytes)) = some (some (.agg #[.string ByteArray.empty, .int .i64 0, .int .i64 0]), 3, 32) := by kernel_rfl
theorem size_TK : (Try.prog.info? 33).map (·.size) = some 3 := by kernel_rfl
theorem info8T : (Try.prog.info? 5).map (fun i => (i.zero, i.size, i.bytes)) = some (some (.int .u8 0), 1, 1) := by kernel_rfl
theorem tkC_get : ∀ (L : List TK) (i : Nat) (hi : i < L.length) (j : Nat), j < 3 → (tkC L)[i * 3 + j]? = (tkV L[i])[j]?
  | [], i, hi, _, _ => absurd hi (by simp)
  | x :: r, 0, _, j, hj => by
    rw [tkC, Nat.zero_mul, Nat.zero_add, List.getElem?_append_left (by show j < 3; exact hj)]
    rfl
  | x :: r, i + 1, hi, j, hj => by
    rw [tkC, List.getElem?_append_right (by show 3 ≤ _; omega)]
    have h := tkC_get r i (by simpa using hi) j hj
    rw [show (i + 1) * 3 + j - (tkV x).length = i * 3 + j by show (i + 1) * 3 + j - 3 = _; omega, h]
    rfl
theorem own3_range {w : World} {base g n c : Nat} {L : List TK} (h : w.ownsRow base 33 3 (.slice (some ⟨g, 0, none⟩) n c) n (tkC L)) {i : Nat} (hi : i < L.length) : w.rangeAt g (i * 3) (tkV L[i]) := fun j v hj => by
  have hn : n = L.length := by have h1 := h.1; rw [tkC_len] at h1; omega
  have hj3 : j < 3 := by
    rcases Nat.lt_or_ge j 3 with h2 | h2
    · exact h2
    · rw [List.getElem?_eq_none (by show 3 ≤ j; exact h2)] at hj; cases hj
  rw [h.cellAt (i * 3 + j) (by rw [hn]; omega), tkC_get L i hi j hj3]
  exact hj
theorem own3_at {w : World} {base g n c : Nat} {L : List TK} (h : w.ownsRow base 33 3 (.slice (some ⟨g, 0, none⟩) n c) n (tkC L)) {i : Nat} {x : TK} (hx : L[i]? = some x) : w.rangeAt g (i * 3) (tkV x) := by
  obtain ⟨hi, e⟩ := List.getElem?_eq_some_iff.1 hx
  rw [← e]
  exact own3_range h hi
theorem own_someT {w : World} {base s n : Nat} {e : TypeId} {a : Option Addr} {c : Nat} {xs : List Value} (h : w.ownsRow base e s (.slice a n c) n xs) (h0 : 0 < n) : ∃ g, a = some ⟨g, 0, none⟩ := by
  rcases h.2 with ⟨_, h1⟩ | ⟨g, cap, cur, h1, _⟩
  · omega
  · cases h1
    exact ⟨g, rfl⟩
theorem own_belowT {w w' : World} {base : Nat} {e : TypeId} {size : Nat} {v : Value} {n : Nat} {xs : List Value} (h : w.ownsRow base e size v n xs) (hb : Below w.heap.size w w') : w'.ownsRow base e size v n xs :=
  (KB.of_below (F := fun _ => False) hb).own h (fun _ _ => id)
theorem conv1 (y : Int) (h0 : 0 ≤ y) (h1 : y < 256) (V : World) : (convert 22 9 (.slice (some ⟨V.heap.size, 0, none⟩) 1 1)).run Try.prog (V.alloc (.cells #[.int .u8 y] 5)) = .ok (.string (strOfNums [y])) (V.alloc (.cells #[.int .u8 y] 5)) :=
  (own_any (base := V.heap.size) (e := 5) (l := [y]) (World.ownsRow_lit (base := V.heap.size) (e := 5) (size := 1) V #[.int .u8 y] 1 (Nat.le_refl _) (by unfold maxLen; omega) rfl) (by intro x hx; rw [List.mem_singleton.1 hx]; exact ⟨h0, h1⟩)).1.strL _ (Below.refl _ _)
theorem u8x255 {x : Int} (h : 0 ≤ x ∧ x < 256) : 0 ≤ bits .xor .u8 x 255 ∧ bits .xor .u8 x 255 < 256 := by
  rw [u8_xor _ _ h.1 h.2 (by omega) (by omega)]
  have h2 := Nat.xor_lt_two_pow (n := 8) (show x.toNat < 2 ^ 8 by omega) (show (255 : Int).toNat < 2 ^ 8 by decide)
  omega
theorem allB_setT {l : List Int} (h : AllB l) (i : Nat) {y : Int} (hy : 0 ≤ y ∧ y < 256) : AllB (l.set i y) := fun x hx => by
  rcases List.mem_or_eq_of_mem_set hx with h1 | h1
  · exact h x h1
  · rw [h1]; exact hy
theorem convOwn {w : World} {base n c : Nat} {a : Option Addr} {P : List Int} (hP : P.length = n) (hx : 0 < n → w.ownsRow base 5 1 (.slice a n c) n (P.map (Value.int .u8))) : ∀ U, Below w.heap.size w U → (convert 22 9 (.slice a n c)).run Try.prog U = .ok (.string (strOfNums P)) U := fun U hU => by
  by_cases h : 0 < n
  · obtain ⟨a', c', e, hb, hl, _⟩ := own_form (hx h)
    cases e
    exact (hb.below hU).str hl Try.underlying22 Try.underlying5 Try.underlying9
  · obtain rfl : n = 0 := by omega
    obtain rfl : P = [] := List.eq_nil_of_length_eq_zero hP
    exact (Bs.nil U U.heap.size a).str rfl Try.underlying22 Try.underlying5 Try.underlying9
theorem conv0 (a : Option Addr) (c : Nat) (W : World) : (convert 22 9 (.slice a 0 c)).run Try.prog W = .ok (.string (strOfNums [])) W :=
  (Bs.nil W W.heap.size a).str rfl Try.underlying22 Try.underlying5 Try.underlying9
theorem Bs.dropT {w : World} {B b o k : Nat} {l : List Int} (h : Bs w B (some ⟨b, o, none⟩) l) : Bs w B (some ⟨b, o + k, none⟩) (l.drop k) := fun h0 => by
  rw [List.length_drop] at h0
  obtain ⟨b', o', e, hlt, hc⟩ := h (by omega)
  cases e
  refine ⟨b, o + k, rfl, hlt, fun i hi => ?_⟩
  rw [List.length_drop] at hi
  have := hc (k + i) (by omega)
  rw [← Nat.add_assoc] at this
  rw [this]
  simp [List.getD_eq_getElem?_getD, List.getElem?_drop]
set_option maxHeartbeats 8000000 in
theorem tapeTakes_core {R : World → Nat → (Nat → Prop) → List Int → Nat → List TK → Prop} {It : World → Value → List TK → Prop} (hM : TapeM R It) (a0 : Option Addr) (L0 c0 : Nat) (a1 : Option Addr) (L1 c1 : Nat) (B zs : List Int) (w : World)
    (hB : Arg8c w a0 L0 c0 B) (hz : IA w a1 L1 c1 zs) (hL0 : L0 ≤ 200) (hL1 : L1 ≤ 40) :
    Calls Try.prog 3 #[.slice a0 L0 c0, .slice a1 L1 c1] w fun e w' => e = .returned (.bool true) ∧ Below w.heap.size w w' := by
  have HM := Lib.hid hM
  obtain ⟨i5, hi, hz0, hz1, hz2⟩ := info_parts info8T
  have HI := Lib.hid hi
  have HZ0 := Lib.hid hz0
  have HZ1 := Lib.hid hz1
  have HZ2 := Lib.hid hz2
  clear hi hz0 hz1 hz2
  obtain ⟨iT, hi, hz0, hz1, hz2⟩ := info_parts infoTK
  have HJ := Lib.hid hi
  have HJ0 := Lib.hid hz0
  have HJ1 := Lib.hid hz1
  have HJ2 := Lib.hid hz2
  clear hi hz0 hz1 hz2
  have HX := Lib.hid hB
  have HZ := Lib.hid hz
  have HL0 := Lib.hid hL0
  have HL1 := Lib.hid hL1
  have HBB := Lib.hid (show AllB B from hB.1.2.1)
  have HBL := Lib.hid (show B.length = L0 from hB.1.1)
  have q0 : ¬ (200 : Int) < (L0 : Int) := by omega
  have q1 : ¬ (40 : Int) < (L1 : Int) := by omega
  clear hM hB hz hL0 hL1
  go_enter Try.func3, Try.ntmps3
  go_upto_region 3 with (go_at_call 5; go_loud (refine (lives12 HM.out w).mono ?_; rintro e w1 ⟨rfl, hb⟩; have HB1 := Lib.hid hb; clear hb))
  have HN0 := Lib.hid (show (w1.alloc (.cells #[] 5)).ownsRow w1.heap.size 5 1 (.slice (some ⟨w1.heap.size, 0, none⟩) 0 0) 0 (([] : List Int).map (Value.int .u8)) from World.ownsRow_lit (base := w1.heap.size) (e := 5) (size := 1) w1 #[] 0 (Nat.le_refl _) (Nat.zero_le _) rfl)
  have HB0 := Lib.hid (show Below w1.heap.size w1 (w1.alloc (.cells #[] 5)) from (Below.refl _ _).alloc (Nat.le_refl _) _)
  have HX0S := Lib.hid (show Bs (w1.alloc (.cells #[] 5)) (w1.alloc (.cells #[] 5)).heap.size a0 B from ((HX.out.1.on HB1.out).on HB0.out).2.2.1)
  go_upto_region 4 with ((with_reducible show wpList _ _ _ (⟨some 37, _, _, _, _, _⟩ :: _) _ _); go_loud (refine wpList_append_bs _ (o := ⟨some 37, _, _, _, _, _⟩) rfl (.tmp 35) (.tmp 36) 22 rfl w1.heap.size 5 i5 Try.underlying22 HI.out HZ0.out HZ1.out HZ2.out _ 0 [] rfl HN0.out a0 L0 c0 _ B rfl HX0S.out HBL.out HX.out.2 (by omega) (by simp) ?_; intro v2 w2 ho2 hg2))
  have HB2 := Lib.hid (show Below w1.heap.size w1 w2 from HB0.out.grown hg2 (by simp) (fun k' hk' => by have := Option.some.inj (show some w1.heap.size = some k' from hk'); omega))
  have ho2' : w2.ownsRow w1.heap.size 5 1 v2 L0 (B.map (Value.int .u8)) := by simpa using ho2
  obtain ⟨a4, c4, rfl, hbs4, hl4, hn4, hm4, hc4⟩ := own_form ho2'
  have HO2 := Lib.hid ho2'
  have HNW := Lib.hid (HM.out.new a4 L0 c4 B w2 ⟨⟨hl4, HBB.out, hbs4, hn4, hm4⟩, hc4⟩ (by have := HL0.out; omega))
  clear ho2 ho2' hg2 HN0 HB0 HX0S hbs4 hl4 hn4 hm4 hc4
  go_upto_region 5 with (go_at_call 6; go_loud ((with_reducible refine HNW.out.mono ?_); rintro e w3 ⟨tb, F0, rfl, hr, hf, hb⟩; have HR3 := Lib.hid hr; have HF3 := Lib.hid hf; have HB3 := Lib.hid hb; have HO3 := Lib.hid (own_belowT HO2.out hb); clear hr hf hb))
  clear HNW
  go_wp2_with fail
  go_loopw [47] (fun q wr => ∃ (i : Nat) (l : List Int), i ≤ L0 ∧ q = .int .i64 (i : Nat) ∧ AllB l ∧ wr.ownsRow w1.heap.size 5 1 (.slice a4 L0 c4) L0 (l.map (Value.int .u8)) ∧ KB (fun k => (Value.slice a4 L0 c4).ownBlock = some k) w3 wr) (fun q _ => L0 - (intOf q).toNat)
  case atStart => exact ⟨0, B, by omega, rfl, HBB.out, HO3.out, KB.refl _ _⟩
  case round =>
    obtain ⟨i, l, hi, rfl, hlB, hown, hkb⟩ := hrel
    rename World => V
    have HOV := Lib.hid hown
    have HLB := Lib.hid hlB
    have HKV := Lib.hid hkb
    clear hlB hown hkb
    by_cases hlt : i < L0
    · have HLT := Lib.hid hlt
      obtain ⟨g4, rfl⟩ := own_someT HOV.out (by omega)
      have hc := own_cells HOV.out i hlt
      rw [Nat.zero_add] at hc
      have hfz := HOV.out.frozenAt i
      obtain ⟨X, hX⟩ : ∃ X, X = l.getD i 0 := ⟨_, rfl⟩
      rw [← hX] at hc
      have HXB := Lib.hid (show 0 ≤ X ∧ X < 256 by rw [hX]; exact allB_getD HLB.out i)
      have qi : (i : Int) < (L0 : Int) := by omega
      clear hX hlt
      go_wp2_with fail
      go_roundw
      case rel =>
        refine ⟨i + 1, l.set i (bits .xor .u8 X 255), HLT.out, by go_num, allB_setT HLB.out i (u8x255 HXB.out), ?_, ?_⟩
        · have h := (HOV.out.stored i (.int .u8 (bits .xor .u8 X 255))).1
          rw [map_set_u8] at h
          exact h
        · refine HKV.out.trans ?_
          refine ⟨(KB.of_set V g4 i _).1, fun j hj hf => (KB.of_set V g4 i _).2 j hj (fun e => hf (by rw [e]; rfl))⟩
      case measure => simp [intOf]; have := HLT.out; omega
    · obtain rfl : i = L0 := by omega
      have HFO := Lib.hid (show ∀ k, F0 k → ¬ (Value.slice a4 i c4).ownBlock = some k from fun k hk e => by have h1 := (HO2.out.lt k e).2; have h2 := HF3.out k hk; omega)
      have HR4 := Lib.hid (HM.out.keep HR3.out (fun k hk => HKV.out.2 k (HM.out.inside HR3.out k hk) (HFO.out k hk)))
      have HB13 := Lib.hid (show Below w1.heap.size w1 w3 from HB2.out.trans (HB3.out.mono HB2.out.size))
      have HBV := Lib.hid (show Below w1.heap.size w1 V from HB13.out.trans (HKV.out.below (fun k hk => (HO2.out.lt k hk).1) HB13.out.size))
      have HF0 := Lib.hid (show ∀ k, F0 k → w1.heap.size ≤ k from fun k hk => by have h1 := HF3.out k hk; have h2 := HB2.out.size; omega)
      clear hlt HR3 HO3
      go_wp2_with fail
      go_loopw [9, 10, 59] (fun at_ v q wr => ∃ (j A : Nat) (L : List TK) (F : Nat → Prop) (a : Option Addr) (c : Nat), j ≤ L1 ∧ q = .int .i64 (j : Nat) ∧ at_ = .int .i64 (A : Nat) ∧ v = .slice a L.length c ∧ A ≤ i ∧ L.length ≤ j ∧ R wr tb F B A L ∧
        wr.ownsRow w1.heap.size 33 3 (.slice a L.length c) L.length (tkC L) ∧ (∀ g, (Value.slice a L.length c).ownBlock = some g → ¬ F g) ∧ (∀ k, F k → w1.heap.size ≤ k) ∧ Below w1.heap.size w1 wr) (fun _ _ q _ => L1 - (intOf q).toNat)
      case atStart => exact ⟨0, 0, [], F0, none, 0, by omega, rfl, rfl, rfl, by omega, Nat.le_refl _, HR4.out, ⟨rfl, .inl ⟨rfl, rfl⟩⟩, (fun g e => by cases e), HF0.out, HBV.out⟩
      case round =>
        obtain ⟨j, A, L, F, a, c, hj, rfl, rfl, rfl, hA, hLj, hr, hown, hne, hfb, hbel⟩ := hrel
        rename World => U
        have HRU := Lib.hid hr
        have HOU := Lib.hid hown
        have HNE := Lib.hid hne
        have HFU := Lib.hid hfb
        have HBU := Lib.hid hbel
        have HA := Lib.hid hA
        have HLJ := Lib.hid hLj
        clear hr hown hne hfb hbel hA hLj HR4 HBV
        by_cases hlt : j < L1
        · have HLT := Lib.hid hlt
          have HZU := Lib.hid (HZ.out.on (HB1.out.trans (HBU.out.mono HB1.out.size)))
          obtain ⟨bz, oz, rfl, hbz, hcz⟩ := HZU.out.at_ hlt
          obtain ⟨z, hz⟩ : ∃ z, z = zs.getD j 0 := ⟨_, rfl⟩
          have hzb := HZ.out.2.2.2.2.1 j
          rw [← hz] at hcz hzb
          obtain ⟨hzb1, hzb2⟩ := hzb
          obtain ⟨r, hr⟩ : ∃ r, r = j % 26 := ⟨_, rfl⟩
          have qr : (j : Int) % 26 = (r : Int) := by omega
          have hr26 : r < 26 := by omega
          have HR26 := Lib.hid hr26
          have hcv := conv1 (97 + (r : Int)) (by omega) (by omega) U
          have qj : (j : Int) < (L1 : Int) := by omega
          clear hz hr hbz hlt
          go_upto_region 18 with fail
          have HU1 := Lib.hid (show Below U.heap.size U (U.alloc (.cells #[.int .u8 (97 + (r : Int))] 5)) from (Below.refl _ _).alloc (Nat.le_refl _) _)
          obtain ⟨S, hS⟩ : ∃ S, S = strOfNums [97 + (r : Int)] := ⟨_, rfl⟩
          rw [← hS]
          clear hcv hS qr
          generalize hU1 : U.alloc (.cells #[.int .u8 (97 + (r : Int))] 5) = U1 at HU1 ⊢
          have HRA := Lib.hid (HM.out.keep HRU.out (fun k hk => HU1.out.block k (HM.out.inside HRU.out k hk)))
          have HOA := Lib.hid (own_belowT HOU.out HU1.out)
          have HBA := Lib.hid (show Below w1.heap.size w1 U1 from HBU.out.trans (HU1.out.mono HBU.out.size))
          clear hU1 HRU HOU HBU HU1
          have HTN := Lib.hid (fun (hz : z < 0) => HM.out.takeNeg tb F B A L S z U1 HRA.out hz)
          by_cases hneg : z < 0
          · have q5 : z < 0 := hneg
            clear hneg
            go_upto_region 28 with (go_at_call 7; go_loud ((with_reducible refine (HTN.out q5).mono ?_); rintro e w5 ⟨ax, cx, rfl, hb⟩; have HB5 := Lib.hid hb; clear hb))
            go_wp2_with fail
            have HRT := Lib.hid (HM.out.keep HRA.out (fun k hk => HB5.out.block k (HM.out.inside HRA.out k hk)))
            have HOT := Lib.hid (own_belowT HOA.out HB5.out)
            have HNT := Lib.hid HNE.out
            have HFT := Lib.hid HFU.out
            have HBT := Lib.hid (HBA.out.trans (HB5.out.mono HBA.out.size))
            have HAT := Lib.hid HA.out
            have HLT2 := Lib.hid (show L.length ≤ j + 1 by have := HLJ.out; omega)
            have hat := HM.out.at_ tb F B A L w5 HRT.out (by rw [HBL.out]; exact HAT.out) (by rw [HBL.out]; have := HL0.out; omega)
            have HAC := Lib.hid hat
            clear hat
            have HLC := Lib.hid (show ∀ W' : World, Below w5.heap.size w5 W' → Calls Try.prog 9 #[.pointer (some ⟨tb, 0, none⟩)] W' fun e w' => e = .returned (.int .i64 ((i : Int) - ((A : Nat) : Int))) ∧ Below W'.heap.size W' w' from fun W' hb => by
              have h := HM.out.left tb F B A L W' (HM.out.keep HRT.out (fun k hk => hb.block k (HM.out.inside HRT.out k hk))) (by rw [HBL.out]; exact HAT.out) (by rw [HBL.out]; have := HL0.out; omega)
              rw [show ((B.length - (A) : Nat) : Int) = (i : Int) - ((A : Nat) : Int) by rw [HBL.out]; have := HAT.out; omega] at h
              exact h)
            have qat : (((A) : Nat) : Int) ≤ (i : Int) := by have := HAT.out; omega
            have qa0 : (0 : Int) ≤ (((A) : Nat) : Int) := by omega
            go_wp2_with (first
              | (go_at_call 8; go_loud ((with_reducible refine HAC.out.mono ?_); rintro e w8 ⟨rfl, hb⟩; have HB8 := Lib.hid hb; clear hb))
              | (go_at_call 9; go_loud ((with_reducible refine (HLC.out w8 HB8.out).mono ?_); rintro e w9 ⟨rfl, hb⟩; have HB9 := Lib.hid (bt HB8.out hb); clear hb)))
            go_roundw
            case rel => exact ⟨j + 1, A, L, F, a, c, by have := HLT.out; omega, by go_num, by go_num, rfl, HAT.out, HLT2.out, HM.out.keep HRT.out (fun k hk => HB9.out.block k (HM.out.inside HRT.out k hk)), own_belowT HOT.out HB9.out, HNT.out, HFT.out, HBT.out.trans (HB9.out.mono HBT.out.size)⟩
            case measure => simp [intOf]; have := HLT.out; omega
          · by_cases hsp : (i : Int) - (A : Int) < z
            · have HTS := Lib.hid (HM.out.takeSpent tb F B A L S z U1 HRA.out (by omega) (by rw [HBL.out]; exact HA.out) (by rw [HBL.out]; have := HL0.out; omega) (by rw [HBL.out]; have := HA.out; omega))
              have q5 : ¬ z < 0 := hneg
              have q6 : (i : Int) - (A : Int) < z := hsp
              have q7 : (A : Int) ≤ (i : Int) := by have := HA.out; omega
              have q8 : (i : Int) ≤ 200 := by have := HL0.out; omega
              clear hneg hsp
              go_upto_region 28 with (go_at_call 7; go_loud ((with_reducible refine HTS.out.mono ?_); rintro e w5 ⟨ax, cx, rfl, hb⟩; have HB5 := Lib.hid hb; clear hb))
              go_wp2_with fail
              have HRT := Lib.hid (HM.out.keep HRA.out (fun k hk => HB5.out.block k (HM.out.inside HRA.out k hk)))
              have HOT := Lib.hid (own_belowT HOA.out HB5.out)
              have HNT := Lib.hid HNE.out
              have HFT := Lib.hid HFU.out
              have HBT := Lib.hid (HBA.out.trans (HB5.out.mono HBA.out.size))
              have HAT := Lib.hid HA.out
              have HLT2 := Lib.hid (show L.length ≤ j + 1 by have := HLJ.out; omega)
              have hat := HM.out.at_ tb F B A L w5 HRT.out (by rw [HBL.out]; exact HAT.out) (by rw [HBL.out]; have := HL0.out; omega)
              have HAC := Lib.hid hat
              clear hat
              have HLC := Lib.hid (show ∀ W' : World, Below w5.heap.size w5 W' → Calls Try.prog 9 #[.pointer (some ⟨tb, 0, none⟩)] W' fun e w' => e = .returned (.int .i64 ((i : Int) - ((A : Nat) : Int))) ∧ Below W'.heap.size W' w' from fun W' hb => by
                have h := HM.out.left tb F B A L W' (HM.out.keep HRT.out (fun k hk => hb.block k (HM.out.inside HRT.out k hk))) (by rw [HBL.out]; exact HAT.out) (by rw [HBL.out]; have := HL0.out; omega)
                rw [show ((B.length - (A) : Nat) : Int) = (i : Int) - ((A : Nat) : Int) by rw [HBL.out]; have := HAT.out; omega] at h
                exact h)
              have qat : (((A) : Nat) : Int) ≤ (i : Int) := by have := HAT.out; omega
              have qa0 : (0 : Int) ≤ (((A) : Nat) : Int) := by omega
              go_wp2_with (first
                | (go_at_call 8; go_loud ((with_reducible refine HAC.out.mono ?_); rintro e w8 ⟨rfl, hb⟩; have HB8 := Lib.hid hb; clear hb))
                | (go_at_call 9; go_loud ((with_reducible refine (HLC.out w8 HB8.out).mono ?_); rintro e w9 ⟨rfl, hb⟩; have HB9 := Lib.hid (bt HB8.out hb); clear hb)))
              go_roundw
              case rel => exact ⟨j + 1, A, L, F, a, c, by have := HLT.out; omega, by go_num, by go_num, rfl, HAT.out, HLT2.out, HM.out.keep HRT.out (fun k hk => HB9.out.block k (HM.out.inside HRT.out k hk)), own_belowT HOT.out HB9.out, HNT.out, HFT.out, HBT.out.trans (HB9.out.mono HBT.out.size)⟩
              case measure => simp [intOf]; have := HLT.out; omega
            · obtain ⟨n, rfl⟩ : ∃ n : Nat, z = (n : Int) := ⟨z.toNat, by omega⟩
              have HNL := Lib.hid (show A + n ≤ i by have := HA.out; omega)
              clear hneg hsp hzb1 hzb2 HTN
              have HTK := Lib.hid (HM.out.takeOk tb F B A L S n U1 HRA.out HBB.out (by rw [HBL.out]; exact HNL.out) (by rw [HBL.out]; have := HL0.out; omega) (by have := HLJ.out; have := HL1.out; have := HLT.out; omega))
              have q5 : ¬ (n : Int) < 0 := by omega
              have q9 : (A : Int) + (n : Int) ≤ (i : Int) := by have := HNL.out; omega
              have q6 : ¬ (i : Int) - (A : Int) < (n : Int) := by omega
              have q7 : (A : Int) ≤ (i : Int) := by omega
              have q8 : (i : Int) ≤ 200 := by have := HL0.out; omega
              go_upto_region 19 with (go_at_call 7; go_loud ((with_reducible refine HTK.out.mono ?_); rintro e w5 ⟨ax, cx, F2, rfl, hr, hk, hf, hx⟩; have HR5 := Lib.hid hr; have HK5 := Lib.hid hk; have HF5 := Lib.hid hf; have HX5 := Lib.hid hx; clear hr hk hf hx))
              clear HTK
              obtain ⟨P, hP⟩ : ∃ P, P = (B.drop A).take n := ⟨_, rfl⟩
              have HPL := Lib.hid (show P.length = n by rw [hP, List.length_take, List.length_drop, HBL.out]; have := HNL.out; omega)
              have HPB := Lib.hid (show AllB P by rw [hP]; exact fun x hx => HBB.out x (List.mem_of_mem_drop (List.mem_of_mem_take hx)))
              rw [← hP] at HX5
              have HCX := Lib.hid (convOwn HPL.out (fun h0 => (HX5.out h0).1))
              have HN5 := Lib.hid (show ∀ g, (Value.slice a L.length c).ownBlock = some g → ¬ F2 g from fun g e hf => by
                rcases HF5.out g hf with h1 | h1
                · exact HNE.out g e h1
                · have := (HOA.out.lt g e).2; omega)
              have HOW := Lib.hid (HK5.out.own HOA.out HNE.out)
              have HB15 := Lib.hid (show Below w1.heap.size w1 w5 from HBA.out.trans (HK5.out.below HFU.out HBA.out.size))
              have HXB5 := Lib.hid (HX.out.1.on (HB1.out.trans (HB15.out.mono HB1.out.size)))
              have hee := str_eq (rfl : P = P)
              have HNEW := Lib.hid (show ∀ (j : Nat) (u : Value), (tkV (S, A, n))[j]? = some u → (w5.drew.alloc (.cells (tkV (S, A, n)).toArray 33)).cell? ((⟨w5.heap.size, 0, none⟩ : Addr).add j) = some u from World.news_of_block (heap_alloc_new w5.drew _))
              have HONE := Lib.hid (show ∀ u ∈ tkV (S, A, n), u.oneCell' = true from fun u hu => by
                rcases List.mem_cons.1 hu with rfl | hu
                · rfl
                · rcases List.mem_cons.1 hu with rfl | hu
                  · rfl
                  · rw [List.mem_singleton.1 hu]; rfl)
              have kwn : ∀ [Inhabited Unit], IntKind.i64.wrap ((A : Int) + (n : Int)) = ((A + n : Nat) : Int) := by intro _; rw [IntKind.wrap_i64]; omega
              have hcs : A + n - A = n := Nat.add_sub_cancel_left _ _
              have qc : A + n ≤ c0 ∧ c0 ≤ 9223372036854775807 := ⟨by have := HNL.out; have := HXB5.out.2.2.2.1; omega, HXB5.out.2.2.2.2⟩
              obtain ⟨qc1, qc2⟩ := qc
              have q10 : (0 : Int) ≤ (A : Int) + (n : Int) := by omega
              have q11 : (A : Int) + (n : Int) ≤ (c0 : Int) := by omega
              have hTN : ∀ [Inhabited Unit], ((A : Int) + (n : Int)).toNat = A + n := by intro _; omega
              by_cases hn0 : n = 0
              · have HC0 := Lib.hid (show ∀ (a : Option Addr) (c : Nat) (W' : World), (convert 22 9 (.slice a n c)).run Try.prog W' = .ok (.string (strOfNums P)) W' from fun a c W' => by
                  obtain rfl : P = [] := List.eq_nil_of_length_eq_zero (HPL.out.trans hn0)
                  rw [hn0]
                  exact conv0 a c W')
                clear hP hn0
                rcases a0 with _ | ad
                · skip
                  refine wp_region_held_drew (S := fun W => Below w5.heap.size w5 W) (by kernel_rfl) (Below.refl _ _).drew (fun hHeld => ?_)
                  refine wpAnyH_take (i := 0) (oi := { dst := some 77, op := Go.Op.move (Go.Operand.tmp 15), type := 26, pos := "law.go:56", after := #[], guard := none }) (v := ?v0a1) rfl (by kernel_rfl) (by kernel_rfl) (by kernel_rfl) (fun _ _ _ h => h) (Or.inl ⟨by rfl, ?hy0a1⟩) hHeld ?rest0a1
                  case hy0a1 =>
                    intro W' hV
                    try dsimp only at hV
                    go_simp
                    all_goals with_reducible rfl
                  case' rest0a1 => try simp only [Act.put, List.setIfInBounds_toArray, List.set_cons_zero, List.set_cons_succ]
                  refine wpAnyH_take (i := 1) (oi := { dst := some 78, op := Go.Op.binOp Go.BinOp.neq 26 (Go.Operand.tmp 77) (Go.Operand.const (Go.Value.int Go.IntKind.i64 0)) 26, type := 4, pos := "law.go:56", after := #[{ on := 0, ground := Go.Ground.data }], guard := none }) (v := ?v1a2) rfl (by kernel_rfl) (by kernel_rfl) (by kernel_rfl) (fun _ _ _ h => h) (Or.inl ⟨by rfl, ?hy1a2⟩) hHeld ?rest1a2
                  case hy1a2 =>
                    intro W' hV
                    try dsimp only at hV
                    go_simp
                    all_goals with_reducible rfl
                  case' rest1a2 => try simp only [Act.put, List.setIfInBounds_toArray, List.set_cons_zero, List.set_cons_succ]
                  refine wpAnyH_take (i := 2) (oi := { dst := some 79, op := Go.Op.move (Go.Operand.tmp 78), type := 4, pos := "law.go:56", after := #[{ on := 1, ground := Go.Ground.data }], guard := none }) (v := ?v2a3) rfl (by kernel_rfl) (by kernel_rfl) (by kernel_rfl) (fun _ _ _ h => h) (Or.inl ⟨by rfl, ?hy2a3⟩) hHeld ?rest2a3
                  case hy2a3 =>
                    intro W' hV
                    try dsimp only at hV
                    go_simp
                    all_goals with_reducible rfl
                  case' rest2a3 => try simp only [Act.put, List.setIfInBounds_toArray, List.set_cons_zero, List.set_cons_succ]
                  refine wpAnyH_take (i := 3) (oi := { dst := some 80, op := Go.Op.move (Go.Operand.tmp 14), type := 22, pos := "law.go:56", after := #[{ on := 2, ground := Go.Ground.guard }], guard := some (2, false) }) (v := ?v3a4) rfl (by kernel_rfl) (by kernel_rfl) (by kernel_rfl) (fun _ _ _ h => h) (Or.inl ⟨by rfl, ?hy3a4⟩) hHeld ?rest3a4
                  case hy3a4 =>
                    intro W' hV
                    try dsimp only at hV
                    go_simp
                    all_goals with_reducible rfl
                  case' rest3a4 => try simp only [Act.put, List.setIfInBounds_toArray, List.set_cons_zero, List.set_cons_succ]
                  refine wpAnyH_take (i := 4) (oi := { dst := some 81, op := Go.Op.convert 22 9 (Go.Operand.tmp 80), type := 9, pos := "law.go:56", after := #[{ on := 3, ground := Go.Ground.data }, { on := 2, ground := Go.Ground.guard }], guard := some (2, false) }) (v := ?v4a5) rfl (by kernel_rfl) (by kernel_rfl) (by kernel_rfl) (fun _ _ _ h => h) (Or.inl ⟨by rfl, ?hy4a5⟩) hHeld ?rest4a5
                  case hy4a5 =>
                    intro W' hV
                    try dsimp only at hV
                    have hcq := HCX.out W' hV
                    go_simp
                    all_goals with_reducible rfl
                  case' rest4a5 => try simp only [Act.put, List.setIfInBounds_toArray, List.set_cons_zero, List.set_cons_succ]
                  refine wpAnyH_take (i := 5) (oi := { dst := some 82, op := Go.Op.move (Go.Operand.tmp 0), type := 22, pos := "law.go:56", after := #[{ on := 2, ground := Go.Ground.guard }], guard := some (2, false) }) (v := ?v5a6) rfl (by kernel_rfl) (by kernel_rfl) (by kernel_rfl) (fun _ _ _ h => h) (Or.inl ⟨by rfl, ?hy5a6⟩) hHeld ?rest5a6
                  case hy5a6 =>
                    intro W' hV
                    try dsimp only at hV
                    go_simp
                    all_goals with_reducible rfl
                  case' rest5a6 => try simp only [Act.put, List.setIfInBounds_toArray, List.set_cons_zero, List.set_cons_succ]
                  refine wpAnyH_take (i := 6) (oi := { dst := some 83, op := Go.Op.move (Go.Operand.tmp 9), type := 3, pos := "law.go:56", after := #[{ on := 2, ground := Go.Ground.guard }], guard := some (2, false) }) (v := ?v6a7) rfl (by kernel_rfl) (by kernel_rfl) (by kernel_rfl) (fun _ _ _ h => h) (Or.inl ⟨by rfl, ?hy6a7⟩) hHeld ?rest6a7
                  case hy6a7 =>
                    intro W' hV
                    try dsimp only at hV
                    go_simp
                    all_goals with_reducible rfl
                  case' rest6a7 => try simp only [Act.put, List.setIfInBounds_toArray, List.set_cons_zero, List.set_cons_succ]
                  refine wpAnyH_take (i := 7) (oi := { dst := some 84, op := Go.Op.move (Go.Operand.tmp 9), type := 3, pos := "law.go:56", after := #[{ on := 2, ground := Go.Ground.guard }], guard := some (2, false) }) (v := ?v7a8) rfl (by kernel_rfl) (by kernel_rfl) (by kernel_rfl) (fun _ _ _ h => h) (Or.inl ⟨by rfl, ?hy7a8⟩) hHeld ?rest7a8
                  case hy7a8 =>
                    intro W' hV
                    try dsimp only at hV
                    go_simp
                    all_goals with_reducible rfl
                  case' rest7a8 => try simp only [Act.put, List.setIfInBounds_toArray, List.set_cons_zero, List.set_cons_succ]
                  refine wpAnyH_take (i := 8) (oi := { dst := some 85, op := Go.Op.move (Go.Operand.tmp 12), type := 3, pos := "law.go:56", after := #[{ on := 2, ground := Go.Ground.guard }], guard := some (2, false) }) (v := ?v8a9) rfl (by kernel_rfl) (by kernel_rfl) (by kernel_rfl) (fun _ _ _ h => h) (Or.inl ⟨by rfl, ?hy8a9⟩) hHeld ?rest8a9
                  case hy8a9 =>
                    intro W' hV
                    try dsimp only at hV
                    go_simp
                    all_goals with_reducible rfl
                  case' rest8a9 => try simp only [Act.put, List.setIfInBounds_toArray, List.set_cons_zero, List.set_cons_succ]
                  refine wpAnyH_take (i := 9) (oi := { dst := some 86, op := Go.Op.binOp Go.BinOp.add 3 (Go.Operand.tmp 84) (Go.Operand.tmp 85) 3, type := 3, pos := "law.go:56", after := #[{ on := 7, ground := Go.Ground.data }, { on := 8, ground := Go.Ground.data }, { on := 2, ground := Go.Ground.guard }], guard := some (2, false) }) (v := ?v9a10) rfl (by kernel_rfl) (by kernel_rfl) (by kernel_rfl) (fun _ _ _ h => h) (Or.inl ⟨by rfl, ?hy9a10⟩) hHeld ?rest9a10
                  case hy9a10 =>
                    intro W' hV
                    try dsimp only at hV
                    go_simp
                    all_goals with_reducible rfl
                  case' rest9a10 => try simp only [Act.put, List.setIfInBounds_toArray, List.set_cons_zero, List.set_cons_succ]
                  refine wpAnyH_take (i := 10) (oi := { dst := some 87, op := Go.Op.slice 22 (Go.Operand.tmp 82) (some (Go.Operand.tmp 83)) (some (Go.Operand.tmp 86)) none, type := 22, pos := "law.go:56", after := #[{ on := 5, ground := Go.Ground.data }, { on := 6, ground := Go.Ground.data }, { on := 9, ground := Go.Ground.data }, { on := 2, ground := Go.Ground.guard }], guard := some (2, false) }) (v := ?v10a11) rfl (by kernel_rfl) (by kernel_rfl) (by kernel_rfl) (fun _ _ _ h => h) (Or.inl ⟨by rfl, ?hy10a11⟩) hHeld ?rest10a11
                  case hy10a11 =>
                    intro W' hV
                    try dsimp only at hV
                    go_simp
                    all_goals with_reducible rfl
                  case' rest10a11 => try simp only [Act.put, List.setIfInBounds_toArray, List.set_cons_zero, List.set_cons_succ]
                  refine wpAnyH_take (i := 11) (oi := { dst := some 88, op := Go.Op.convert 22 9 (Go.Operand.tmp 87), type := 9, pos := "law.go:56", after := #[{ on := 10, ground := Go.Ground.data }, { on := 2, ground := Go.Ground.guard }], guard := some (2, false) }) (v := ?v11a12) rfl (by kernel_rfl) (by kernel_rfl) (by kernel_rfl) (fun _ _ _ h => h) (Or.inl ⟨by rfl, ?hy11a12⟩) hHeld ?rest11a12
                  case hy11a12 =>
                    intro W' hV
                    try dsimp only at hV
                    have hcb := fun a c => HC0.out a c W'
                    go_simp
                    all_goals with_reducible rfl
                  case' rest11a12 => try simp only [Act.put, List.setIfInBounds_toArray, List.set_cons_zero, List.set_cons_succ]
                  refine wpAnyH_take (i := 12) (oi := { dst := some 89, op := Go.Op.binOp Go.BinOp.neq 9 (Go.Operand.tmp 81) (Go.Operand.tmp 88) 9, type := 4, pos := "law.go:56", after := #[{ on := 4, ground := Go.Ground.data }, { on := 11, ground := Go.Ground.data }, { on := 2, ground := Go.Ground.guard }], guard := some (2, false) }) (v := ?v12a13) rfl (by kernel_rfl) (by kernel_rfl) (by kernel_rfl) (fun _ _ _ h => h) (Or.inl ⟨by rfl, ?hy12a13⟩) hHeld ?rest12a13
                  case hy12a13 =>
                    intro W' hV
                    try dsimp only at hV
                    go_simp
                    all_goals with_reducible rfl
                  case' rest12a13 => try simp only [Act.put, List.setIfInBounds_toArray, List.set_cons_zero, List.set_cons_succ]
                  refine wpAnyH_take (i := 13) (oi := { dst := some 90, op := Go.Op.pick (Go.Operand.tmp 79) (Go.Operand.const (Go.Value.bool true)) (Go.Operand.tmp 89), type := 4, pos := "law.go:56", after := #[{ on := 2, ground := Go.Ground.data }, { on := 12, ground := Go.Ground.data }], guard := none }) (v := ?v13a14) rfl (by kernel_rfl) (by kernel_rfl) (by kernel_rfl) (fun _ _ _ h => h) (Or.inl ⟨by rfl, ?hy13a14⟩) hHeld ?rest13a14
                  case hy13a14 =>
                    intro W' hV
                    try dsimp only at hV
                    go_simp
                    all_goals with_reducible rfl
                  case' rest13a14 => try simp only [Act.put, List.setIfInBounds_toArray, List.set_cons_zero, List.set_cons_succ]
                  refine wpAnyH_done (by kernel_rfl) ?_ _
                  clear hHeld
                  go_upto_region 23 with ((with_reducible show wpList _ _ _ (⟨some 97, _, _, _, _, _⟩ :: _) _ _); go_loud (refine wpList_append_lies _ rfl (.tmp 91) (.tmp 96) 29 rfl w1.heap.size 33 iT (.agg #[.string ByteArray.empty, .int .i64 0, .int .i64 0]) 3 32 Try.underlying29 HJ.out HJ0.out HJ1.out HJ2.out rfl (by decide) (.slice a L.length c) L.length (tkC L) rfl (World.ownsRow.alloc HOW.out _) ⟨w5.heap.size, 0, none⟩ 1 1 (tkV (S, A, n)) rfl rfl (HNEW.out) (fun u hu => HONE.out u hu) (by decide) (by unfold maxLen; have := HLJ.out; have := HL1.out; have := HLT.out; omega) (by have := HLJ.out; have := HL1.out; have := HLT.out; omega) (by have := HB15.out.size; simp; omega) (w5.heap.size + 1) (by simp) ?_; intro g6 c6 w6 ho6 hg6 hl6 hlt6; have HO6 := Lib.hid ho6; have HG6 := Lib.hid hg6; have HL6 := Lib.hid hl6; clear ho6 hg6 hl6 hlt6))
                  have K56 := Lib.hid (show KB (fun k => (Value.slice a L.length c).ownBlock = some k) w5 w6 from (KB.of_below (((Below.refl w5.heap.size w5).drew).alloc (Nat.le_refl _) _)).trans (KB.of_grown HG6.out))
                  have HR6 := Lib.hid (HM.out.keep HR5.out (fun k hk => K56.out.2 k (HM.out.inside HR5.out k hk) (fun e => HN5.out k e hk)))
                  have HX6 := Lib.hid (show 0 < n → w6.ownsRow U1.heap.size 5 1 (.slice ax n cx) n (P.map (Value.int .u8)) from fun h0 => K56.out.own (HX5.out h0).1 (fun g e e2 => by
                    have h1 := ((HX5.out h0).1.lt g e).1
                    have h2 := (HOA.out.lt g e2).2
                    omega))
                  have HB16 := Lib.hid (show Below w1.heap.size w1 w6 from HB15.out.trans (K56.out.below (fun k e => (HOA.out.lt k e).1) HB15.out.size))
                  have HG6B := Lib.hid (show ∀ (h0 : 0 < n), ¬ (Value.slice ax n cx).ownBlock = some g6 from fun h0 e => by
                    have h1 := (HX5.out h0).1.lt g6 e
                    rcases HL6.out with h2 | h2
                    · have := (HOA.out.lt g6 h2).2; omega
                    · omega)
                  have HN6 := Lib.hid (show ¬ F2 g6 from fun hf => by
                    rcases HL6.out with h2 | h2
                    · exact HN5.out g6 h2 hf
                    · have := HM.out.inside HR5.out g6 hf; omega)
                  have HF6 := Lib.hid (show ∀ k, F2 k → w1.heap.size ≤ k from fun k hk => by
                    rcases HF5.out k hk with h1 | h1
                    · exact HFU.out k h1
                    · have := HBA.out.size; omega)
                  clear hee qc1 qc2 q10 q11 hTN kwn hcs
                  go_wp2_with fail
                  go_loopw [103] (fun q wr => ∃ (k : Nat) (l : List Int), k ≤ n ∧ q = .int .i64 (k : Nat) ∧ AllB l ∧ (0 < n → wr.ownsRow U1.heap.size 5 1 (.slice ax n cx) n (l.map (Value.int .u8))) ∧ KB (fun g => 0 < n ∧ (Value.slice ax n cx).ownBlock = some g) w6 wr) (fun q _ => n - (intOf q).toNat)
                  case atStart => exact ⟨0, P, by omega, rfl, HPB.out, HX6.out, KB.refl _ _⟩
                  case round =>
                    obtain ⟨k, l, hk, rfl, hlB, hown, hkb⟩ := hrel
                    rename World => Wq
                    have HOQ0 := Lib.hid hown
                    have HLB := Lib.hid hlB
                    have HKQ := Lib.hid hkb
                    clear hlB hown hkb
                    by_cases hlt : k < n
                    · have HKN := Lib.hid hlt
                      have HOX := Lib.hid (HOQ0.out (by omega))
                      obtain ⟨gx, rfl⟩ := own_someT HOX.out (by omega)
                      have hc := own_cells HOX.out k hlt
                      rw [Nat.zero_add] at hc
                      have hfz := HOX.out.frozenAt k
                      obtain ⟨X, hX⟩ : ∃ X, X = l.getD k 0 := ⟨_, rfl⟩
                      rw [← hX] at hc
                      have HXB := Lib.hid (show 0 ≤ X ∧ X < 256 by rw [hX]; exact allB_getD HLB.out k)
                      have qk : (k : Int) < (n : Int) := by omega
                      clear hX hlt
                      go_wp2_with fail
                      go_roundw
                      case rel =>
                        refine ⟨k + 1, l.set k (bits .xor .u8 X 255), HKN.out, by go_num, allB_setT HLB.out k (u8x255 HXB.out), fun _ => ?_, ?_⟩
                        · have h := (HOX.out.stored k (.int .u8 (bits .xor .u8 X 255))).1
                          rw [map_set_u8] at h
                          exact h
                        · refine HKQ.out.trans ?_
                          refine ⟨(KB.of_set Wq gx k _).1, fun j' hj' hf => (KB.of_set Wq gx k _).2 j' hj' (fun e => hf ⟨by have := HKN.out; omega, by rw [e]; rfl⟩)⟩
                      case measure => simp [intOf]; have := HKN.out; omega
                    · obtain rfl : k = n := by omega
                      have HRQ := Lib.hid (HM.out.keep HR6.out (fun j' hj' => HKQ.out.2 j' (HM.out.inside HR6.out j' hj') (fun e => (HX5.out e.1).2 j' e.2 hj')))
                      have HLE := Lib.hid (show (L ++ [(S, A, k)]).length = L.length + 1 from List.length_append)
                      have HOQ := Lib.hid (show Wq.ownsRow w1.heap.size 33 3 (.slice (some ⟨g6, 0, none⟩) (L ++ [(S, A, k)]).length c6) (L ++ [(S, A, k)]).length (tkC (L ++ [(S, A, k)])) from by
                        rw [HLE.out, tkC_append, tkC_one]
                        exact HKQ.out.own HO6.out (fun g e e2 => HG6B.out e2.1 (by rw [e2.2]; exact e.symm)))
                      have HNQ := Lib.hid (show ∀ g, (Value.slice (some ⟨g6, 0, none⟩) (L ++ [(S, A, k)]).length c6).ownBlock = some g → ¬ F2 g from fun g e => by
                        have e : g6 = g := Option.some.inj e
                        rw [← e]; exact HN6.out)
                      have HFQ := Lib.hid HF6.out
                      have HBQ := Lib.hid (show Below w1.heap.size w1 Wq from HB16.out.trans (HKQ.out.below (fun j' e => by have := ((HX5.out e.1).1.lt j' e.2).1; have := HBA.out.size; omega) HB16.out.size))
                      clear hlt hk
                      have HRT := Lib.hid HRQ.out
                      have HOT := Lib.hid HOQ.out
                      have HNT := Lib.hid HNQ.out
                      have HFT := Lib.hid HFQ.out
                      have HBT := Lib.hid HBQ.out
                      have HAT := Lib.hid (show A + k ≤ i by have := HNL.out; have := HA.out; omega)
                      have HLT2 := Lib.hid (show (L ++ [(S, A, k)]).length ≤ j + 1 by rw [List.length_append]; show L.length + 1 ≤ j + 1; have := HLJ.out; omega)
                      have hat := HM.out.at_ tb F2 B (A + k) (L ++ [(S, A, k)]) Wq HRT.out (by rw [HBL.out]; exact HAT.out) (by rw [HBL.out]; have := HL0.out; omega)
                      have HAC := Lib.hid hat
                      clear hat
                      have HLC := Lib.hid (show ∀ W' : World, Below Wq.heap.size Wq W' → Calls Try.prog 9 #[.pointer (some ⟨tb, 0, none⟩)] W' fun e w' => e = .returned (.int .i64 ((i : Int) - (((A + k) : Nat) : Int))) ∧ Below W'.heap.size W' w' from fun W' hb => by
                        have h := HM.out.left tb F2 B (A + k) (L ++ [(S, A, k)]) W' (HM.out.keep HRT.out (fun k hk => hb.block k (HM.out.inside HRT.out k hk))) (by rw [HBL.out]; exact HAT.out) (by rw [HBL.out]; have := HL0.out; omega)
                        rw [show ((B.length - ((A + k)) : Nat) : Int) = (i : Int) - (((A + k) : Nat) : Int) by rw [HBL.out]; have := HAT.out; omega] at h
                        exact h)
                      have qat : ((((A + k)) : Nat) : Int) ≤ (i : Int) := by have := HAT.out; omega
                      have qa0 : (0 : Int) ≤ ((((A + k)) : Nat) : Int) := by omega
                      go_wp2_with (first
                        | (go_at_call 8; go_loud ((with_reducible refine HAC.out.mono ?_); rintro e w8 ⟨rfl, hb⟩; have HB8 := Lib.hid hb; clear hb))
                        | (go_at_call 9; go_loud ((with_reducible refine (HLC.out w8 HB8.out).mono ?_); rintro e w9 ⟨rfl, hb⟩; have HB9 := Lib.hid (bt HB8.out hb); clear hb)))
                      go_roundw
                      case rel => exact ⟨j + 1, (A + k), (L ++ [(S, A, k)]), F2, (some ⟨g6, 0, none⟩), c6, by have := HLT.out; omega, by go_num, by go_num, (by rw [HLE.out]), HAT.out, HLT2.out, HM.out.keep HRT.out (fun k hk => HB9.out.block k (HM.out.inside HRT.out k hk)), own_belowT HOT.out HB9.out, HNT.out, HFT.out, HBT.out.trans (HB9.out.mono HBT.out.size)⟩
                      case measure => simp [intOf]; have := HLT.out; omega
                · skip
                  refine wp_region_held_drew (S := fun W => Below w5.heap.size w5 W) (by kernel_rfl) (Below.refl _ _).drew (fun hHeld => ?_)
                  refine wpAnyH_take (i := 0) (oi := { dst := some 77, op := Go.Op.move (Go.Operand.tmp 15), type := 26, pos := "law.go:56", after := #[], guard := none }) (v := ?v0b1) rfl (by kernel_rfl) (by kernel_rfl) (by kernel_rfl) (fun _ _ _ h => h) (Or.inl ⟨by rfl, ?hy0b1⟩) hHeld ?rest0b1
                  case hy0b1 =>
                    intro W' hV
                    try dsimp only at hV
                    go_simp
                    all_goals with_reducible rfl
                  case' rest0b1 => try simp only [Act.put, List.setIfInBounds_toArray, List.set_cons_zero, List.set_cons_succ]
                  refine wpAnyH_take (i := 1) (oi := { dst := some 78, op := Go.Op.binOp Go.BinOp.neq 26 (Go.Operand.tmp 77) (Go.Operand.const (Go.Value.int Go.IntKind.i64 0)) 26, type := 4, pos := "law.go:56", after := #[{ on := 0, ground := Go.Ground.data }], guard := none }) (v := ?v1b2) rfl (by kernel_rfl) (by kernel_rfl) (by kernel_rfl) (fun _ _ _ h => h) (Or.inl ⟨by rfl, ?hy1b2⟩) hHeld ?rest1b2
                  case hy1b2 =>
                    intro W' hV
                    try dsimp only at hV
                    go_simp
                    all_goals with_reducible rfl
                  case' rest1b2 => try simp only [Act.put, List.setIfInBounds_toArray, List.set_cons_zero, List.set_cons_succ]
                  refine wpAnyH_take (i := 2) (oi := { dst := some 79, op := Go.Op.move (Go.Operand.tmp 78), type := 4, pos := "law.go:56", after := #[{ on := 1, ground := Go.Ground.data }], guard := none }) (v := ?v2b3) rfl (by kernel_rfl) (by kernel_rfl) (by kernel_rfl) (fun _ _ _ h => h) (Or.inl ⟨by rfl, ?hy2b3⟩) hHeld ?rest2b3
                  case hy2b3 =>
                    intro W' hV
                    try dsimp only at hV
                    go_simp
                    all_goals with_reducible rfl
                  case' rest2b3 => try simp only [Act.put, List.setIfInBounds_toArray, List.set_cons_zero, List.set_cons_succ]
                  refine wpAnyH_take (i := 3) (oi := { dst := some 80, op := Go.Op.move (Go.Operand.tmp 14), type := 22, pos := "law.go:56", after := #[{ on := 2, ground := Go.Ground.guard }], guard := some (2, false) }) (v := ?v3b4) rfl (by kernel_rfl) (by kernel_rfl) (by kernel_rfl) (fun _ _ _ h => h) (Or.inl ⟨by rfl, ?hy3b4⟩) hHeld ?rest3b4
                  case hy3b4 =>
                    intro W' hV
                    try dsimp only at hV
                    go_simp
                    all_goals with_reducible rfl
                  case' rest3b4 => try simp only [Act.put, List.setIfInBounds_toArray, List.set_cons_zero, List.set_cons_succ]
                  refine wpAnyH_take (i := 4) (oi := { dst := some 81, op := Go.Op.convert 22 9 (Go.Operand.tmp 80), type := 9, pos := "law.go:56", after := #[{ on := 3, ground := Go.Ground.data }, { on := 2, ground := Go.Ground.guard }], guard := some (2, false) }) (v := ?v4b5) rfl (by kernel_rfl) (by kernel_rfl) (by kernel_rfl) (fun _ _ _ h => h) (Or.inl ⟨by rfl, ?hy4b5⟩) hHeld ?rest4b5
                  case hy4b5 =>
                    intro W' hV
                    try dsimp only at hV
                    have hcq := HCX.out W' hV
                    go_simp
                    all_goals with_reducible rfl
                  case' rest4b5 => try simp only [Act.put, List.setIfInBounds_toArray, List.set_cons_zero, List.set_cons_succ]
                  refine wpAnyH_take (i := 5) (oi := { dst := some 82, op := Go.Op.move (Go.Operand.tmp 0), type := 22, pos := "law.go:56", after := #[{ on := 2, ground := Go.Ground.guard }], guard := some (2, false) }) (v := ?v5b6) rfl (by kernel_rfl) (by kernel_rfl) (by kernel_rfl) (fun _ _ _ h => h) (Or.inl ⟨by rfl, ?hy5b6⟩) hHeld ?rest5b6
                  case hy5b6 =>
                    intro W' hV
                    try dsimp only at hV
                    go_simp
                    all_goals with_reducible rfl
                  case' rest5b6 => try simp only [Act.put, List.setIfInBounds_toArray, List.set_cons_zero, List.set_cons_succ]
                  refine wpAnyH_take (i := 6) (oi := { dst := some 83, op := Go.Op.move (Go.Operand.tmp 9), type := 3, pos := "law.go:56", after := #[{ on := 2, ground := Go.Ground.guard }], guard := some (2, false) }) (v := ?v6b7) rfl (by kernel_rfl) (by kernel_rfl) (by kernel_rfl) (fun _ _ _ h => h) (Or.inl ⟨by rfl, ?hy6b7⟩) hHeld ?rest6b7
                  case hy6b7 =>
                    intro W' hV
                    try dsimp only at hV
                    go_simp
                    all_goals with_reducible rfl
                  case' rest6b7 => try simp only [Act.put, List.setIfInBounds_toArray, List.set_cons_zero, List.set_cons_succ]
                  refine wpAnyH_take (i := 7) (oi := { dst := some 84, op := Go.Op.move (Go.Operand.tmp 9), type := 3, pos := "law.go:56", after := #[{ on := 2, ground := Go.Ground.guard }], guard := some (2, false) }) (v := ?v7b8) rfl (by kernel_rfl) (by kernel_rfl) (by kernel_rfl) (fun _ _ _ h => h) (Or.inl ⟨by rfl, ?hy7b8⟩) hHeld ?rest7b8
                  case hy7b8 =>
                    intro W' hV
                    try dsimp only at hV
                    go_simp
                    all_goals with_reducible rfl
                  case' rest7b8 => try simp only [Act.put, List.setIfInBounds_toArray, List.set_cons_zero, List.set_cons_succ]
                  refine wpAnyH_take (i := 8) (oi := { dst := some 85, op := Go.Op.move (Go.Operand.tmp 12), type := 3, pos := "law.go:56", after := #[{ on := 2, ground := Go.Ground.guard }], guard := some (2, false) }) (v := ?v8b9) rfl (by kernel_rfl) (by kernel_rfl) (by kernel_rfl) (fun _ _ _ h => h) (Or.inl ⟨by rfl, ?hy8b9⟩) hHeld ?rest8b9
                  case hy8b9 =>
                    intro W' hV
                    try dsimp only at hV
                    go_simp
                    all_goals with_reducible rfl
                  case' rest8b9 => try simp only [Act.put, List.setIfInBounds_toArray, List.set_cons_zero, List.set_cons_succ]
                  refine wpAnyH_take (i := 9) (oi := { dst := some 86, op := Go.Op.binOp Go.BinOp.add 3 (Go.Operand.tmp 84) (Go.Operand.tmp 85) 3, type := 3, pos := "law.go:56", after := #[{ on := 7, ground := Go.Ground.data }, { on := 8, ground := Go.Ground.data }, { on := 2, ground := Go.Ground.guard }], guard := some (2, false) }) (v := ?v9b10) rfl (by kernel_rfl) (by kernel_rfl) (by kernel_rfl) (fun _ _ _ h => h) (Or.inl ⟨by rfl, ?hy9b10⟩) hHeld ?rest9b10
                  case hy9b10 =>
                    intro W' hV
                    try dsimp only at hV
                    go_simp
                    all_goals with_reducible rfl
                  case' rest9b10 => try simp only [Act.put, List.setIfInBounds_toArray, List.set_cons_zero, List.set_cons_succ]
                  refine wpAnyH_take (i := 10) (oi := { dst := some 87, op := Go.Op.slice 22 (Go.Operand.tmp 82) (some (Go.Operand.tmp 83)) (some (Go.Operand.tmp 86)) none, type := 22, pos := "law.go:56", after := #[{ on := 5, ground := Go.Ground.data }, { on := 6, ground := Go.Ground.data }, { on := 9, ground := Go.Ground.data }, { on := 2, ground := Go.Ground.guard }], guard := some (2, false) }) (v := ?v10b11) rfl (by kernel_rfl) (by kernel_rfl) (by kernel_rfl) (fun _ _ _ h => h) (Or.inl ⟨by rfl, ?hy10b11⟩) hHeld ?rest10b11
                  case hy10b11 =>
                    intro W' hV
                    try dsimp only at hV
                    go_simp
                    all_goals with_reducible rfl
                  case' rest10b11 => try simp only [Act.put, List.setIfInBounds_toArray, List.set_cons_zero, List.set_cons_succ]
                  refine wpAnyH_take (i := 11) (oi := { dst := some 88, op := Go.Op.convert 22 9 (Go.Operand.tmp 87), type := 9, pos := "law.go:56", after := #[{ on := 10, ground := Go.Ground.data }, { on := 2, ground := Go.Ground.guard }], guard := some (2, false) }) (v := ?v11b12) rfl (by kernel_rfl) (by kernel_rfl) (by kernel_rfl) (fun _ _ _ h => h) (Or.inl ⟨by rfl, ?hy11b12⟩) hHeld ?rest11b12
                  case hy11b12 =>
                    intro W' hV
                    try dsimp only at hV
                    have hcb := fun a c => HC0.out a c W'
                    go_simp
                    all_goals with_reducible rfl
                  case' rest11b12 => try simp only [Act.put, List.setIfInBounds_toArray, List.set_cons_zero, List.set_cons_succ]
                  refine wpAnyH_take (i := 12) (oi := { dst := some 89, op := Go.Op.binOp Go.BinOp.neq 9 (Go.Operand.tmp 81) (Go.Operand.tmp 88) 9, type := 4, pos := "law.go:56", after := #[{ on := 4, ground := Go.Ground.data }, { on := 11, ground := Go.Ground.data }, { on := 2, ground := Go.Ground.guard }], guard := some (2, false) }) (v := ?v12b13) rfl (by kernel_rfl) (by kernel_rfl) (by kernel_rfl) (fun _ _ _ h => h) (Or.inl ⟨by rfl, ?hy12b13⟩) hHeld ?rest12b13
                  case hy12b13 =>
                    intro W' hV
                    try dsimp only at hV
                    go_simp
                    all_goals with_reducible rfl
                  case' rest12b13 => try simp only [Act.put, List.setIfInBounds_toArray, List.set_cons_zero, List.set_cons_succ]
                  refine wpAnyH_take (i := 13) (oi := { dst := some 90, op := Go.Op.pick (Go.Operand.tmp 79) (Go.Operand.const (Go.Value.bool true)) (Go.Operand.tmp 89), type := 4, pos := "law.go:56", after := #[{ on := 2, ground := Go.Ground.data }, { on := 12, ground := Go.Ground.data }], guard := none }) (v := ?v13b14) rfl (by kernel_rfl) (by kernel_rfl) (by kernel_rfl) (fun _ _ _ h => h) (Or.inl ⟨by rfl, ?hy13b14⟩) hHeld ?rest13b14
                  case hy13b14 =>
                    intro W' hV
                    try dsimp only at hV
                    go_simp
                    all_goals with_reducible rfl
                  case' rest13b14 => try simp only [Act.put, List.setIfInBounds_toArray, List.set_cons_zero, List.set_cons_succ]
                  refine wpAnyH_done (by kernel_rfl) ?_ _
                  clear hHeld
                  generalize (if c0 = A then some ad else some (ad.add A)) = aY
                  go_upto_region 23 with ((with_reducible show wpList _ _ _ (⟨some 97, _, _, _, _, _⟩ :: _) _ _); go_loud (refine wpList_append_lies _ rfl (.tmp 91) (.tmp 96) 29 rfl w1.heap.size 33 iT (.agg #[.string ByteArray.empty, .int .i64 0, .int .i64 0]) 3 32 Try.underlying29 HJ.out HJ0.out HJ1.out HJ2.out rfl (by decide) (.slice a L.length c) L.length (tkC L) rfl (World.ownsRow.alloc HOW.out _) ⟨w5.heap.size, 0, none⟩ 1 1 (tkV (S, A, n)) rfl rfl (HNEW.out) (fun u hu => HONE.out u hu) (by decide) (by unfold maxLen; have := HLJ.out; have := HL1.out; have := HLT.out; omega) (by have := HLJ.out; have := HL1.out; have := HLT.out; omega) (by have := HB15.out.size; simp; omega) (w5.heap.size + 1) (by simp) ?_; intro g6 c6 w6 ho6 hg6 hl6 hlt6; have HO6 := Lib.hid ho6; have HG6 := Lib.hid hg6; have HL6 := Lib.hid hl6; clear ho6 hg6 hl6 hlt6))
                  have K56 := Lib.hid (show KB (fun k => (Value.slice a L.length c).ownBlock = some k) w5 w6 from (KB.of_below (((Below.refl w5.heap.size w5).drew).alloc (Nat.le_refl _) _)).trans (KB.of_grown HG6.out))
                  have HR6 := Lib.hid (HM.out.keep HR5.out (fun k hk => K56.out.2 k (HM.out.inside HR5.out k hk) (fun e => HN5.out k e hk)))
                  have HX6 := Lib.hid (show 0 < n → w6.ownsRow U1.heap.size 5 1 (.slice ax n cx) n (P.map (Value.int .u8)) from fun h0 => K56.out.own (HX5.out h0).1 (fun g e e2 => by
                    have h1 := ((HX5.out h0).1.lt g e).1
                    have h2 := (HOA.out.lt g e2).2
                    omega))
                  have HB16 := Lib.hid (show Below w1.heap.size w1 w6 from HB15.out.trans (K56.out.below (fun k e => (HOA.out.lt k e).1) HB15.out.size))
                  have HG6B := Lib.hid (show ∀ (h0 : 0 < n), ¬ (Value.slice ax n cx).ownBlock = some g6 from fun h0 e => by
                    have h1 := (HX5.out h0).1.lt g6 e
                    rcases HL6.out with h2 | h2
                    · have := (HOA.out.lt g6 h2).2; omega
                    · omega)
                  have HN6 := Lib.hid (show ¬ F2 g6 from fun hf => by
                    rcases HL6.out with h2 | h2
                    · exact HN5.out g6 h2 hf
                    · have := HM.out.inside HR5.out g6 hf; omega)
                  have HF6 := Lib.hid (show ∀ k, F2 k → w1.heap.size ≤ k from fun k hk => by
                    rcases HF5.out k hk with h1 | h1
                    · exact HFU.out k h1
                    · have := HBA.out.size; omega)
                  clear hee qc1 qc2 q10 q11 hTN kwn hcs
                  go_wp2_with fail
                  go_loopw [103] (fun q wr => ∃ (k : Nat) (l : List Int), k ≤ n ∧ q = .int .i64 (k : Nat) ∧ AllB l ∧ (0 < n → wr.ownsRow U1.heap.size 5 1 (.slice ax n cx) n (l.map (Value.int .u8))) ∧ KB (fun g => 0 < n ∧ (Value.slice ax n cx).ownBlock = some g) w6 wr) (fun q _ => n - (intOf q).toNat)
                  case atStart => exact ⟨0, P, by omega, rfl, HPB.out, HX6.out, KB.refl _ _⟩
                  case round =>
                    obtain ⟨k, l, hk, rfl, hlB, hown, hkb⟩ := hrel
                    rename World => Wq
                    have HOQ0 := Lib.hid hown
                    have HLB := Lib.hid hlB
                    have HKQ := Lib.hid hkb
                    clear hlB hown hkb
                    by_cases hlt : k < n
                    · have HKN := Lib.hid hlt
                      have HOX := Lib.hid (HOQ0.out (by omega))
                      obtain ⟨gx, rfl⟩ := own_someT HOX.out (by omega)
                      have hc := own_cells HOX.out k hlt
                      rw [Nat.zero_add] at hc
                      have hfz := HOX.out.frozenAt k
                      obtain ⟨X, hX⟩ : ∃ X, X = l.getD k 0 := ⟨_, rfl⟩
                      rw [← hX] at hc
                      have HXB := Lib.hid (show 0 ≤ X ∧ X < 256 by rw [hX]; exact allB_getD HLB.out k)
                      have qk : (k : Int) < (n : Int) := by omega
                      clear hX hlt
                      go_wp2_with fail
                      go_roundw
                      case rel =>
                        refine ⟨k + 1, l.set k (bits .xor .u8 X 255), HKN.out, by go_num, allB_setT HLB.out k (u8x255 HXB.out), fun _ => ?_, ?_⟩
                        · have h := (HOX.out.stored k (.int .u8 (bits .xor .u8 X 255))).1
                          rw [map_set_u8] at h
                          exact h
                        · refine HKQ.out.trans ?_
                          refine ⟨(KB.of_set Wq gx k _).1, fun j' hj' hf => (KB.of_set Wq gx k _).2 j' hj' (fun e => hf ⟨by have := HKN.out; omega, by rw [e]; rfl⟩)⟩
                      case measure => simp [intOf]; have := HKN.out; omega
                    · obtain rfl : k = n := by omega
                      have HRQ := Lib.hid (HM.out.keep HR6.out (fun j' hj' => HKQ.out.2 j' (HM.out.inside HR6.out j' hj') (fun e => (HX5.out e.1).2 j' e.2 hj')))
                      have HLE := Lib.hid (show (L ++ [(S, A, k)]).length = L.length + 1 from List.length_append)
                      have HOQ := Lib.hid (show Wq.ownsRow w1.heap.size 33 3 (.slice (some ⟨g6, 0, none⟩) (L ++ [(S, A, k)]).length c6) (L ++ [(S, A, k)]).length (tkC (L ++ [(S, A, k)])) from by
                        rw [HLE.out, tkC_append, tkC_one]
                        exact HKQ.out.own HO6.out (fun g e e2 => HG6B.out e2.1 (by rw [e2.2]; exact e.symm)))
                      have HNQ := Lib.hid (show ∀ g, (Value.slice (some ⟨g6, 0, none⟩) (L ++ [(S, A, k)]).length c6).ownBlock = some g → ¬ F2 g from fun g e => by
                        have e : g6 = g := Option.some.inj e
                        rw [← e]; exact HN6.out)
                      have HFQ := Lib.hid HF6.out
                      have HBQ := Lib.hid (show Below w1.heap.size w1 Wq from HB16.out.trans (HKQ.out.below (fun j' e => by have := ((HX5.out e.1).1.lt j' e.2).1; have := HBA.out.size; omega) HB16.out.size))
                      clear hlt hk
                      have HRT := Lib.hid HRQ.out
                      have HOT := Lib.hid HOQ.out
                      have HNT := Lib.hid HNQ.out
                      have HFT := Lib.hid HFQ.out
                      have HBT := Lib.hid HBQ.out
                      have HAT := Lib.hid (show A + k ≤ i by have := HNL.out; have := HA.out; omega)
                      have HLT2 := Lib.hid (show (L ++ [(S, A, k)]).length ≤ j + 1 by rw [List.length_append]; show L.length + 1 ≤ j + 1; have := HLJ.out; omega)
                      have hat := HM.out.at_ tb F2 B (A + k) (L ++ [(S, A, k)]) Wq HRT.out (by rw [HBL.out]; exact HAT.out) (by rw [HBL.out]; have := HL0.out; omega)
                      have HAC := Lib.hid hat
                      clear hat
                      have HLC := Lib.hid (show ∀ W' : World, Below Wq.heap.size Wq W' → Calls Try.prog 9 #[.pointer (some ⟨tb, 0, none⟩)] W' fun e w' => e = .returned (.int .i64 ((i : Int) - (((A + k) : Nat) : Int))) ∧ Below W'.heap.size W' w' from fun W' hb => by
                        have h := HM.out.left tb F2 B (A + k) (L ++ [(S, A, k)]) W' (HM.out.keep HRT.out (fun k hk => hb.block k (HM.out.inside HRT.out k hk))) (by rw [HBL.out]; exact HAT.out) (by rw [HBL.out]; have := HL0.out; omega)
                        rw [show ((B.length - ((A + k)) : Nat) : Int) = (i : Int) - (((A + k) : Nat) : Int) by rw [HBL.out]; have := HAT.out; omega] at h
                        exact h)
                      have qat : ((((A + k)) : Nat) : Int) ≤ (i : Int) := by have := HAT.out; omega
                      have qa0 : (0 : Int) ≤ ((((A + k)) : Nat) : Int) := by omega
                      go_wp2_with (first
                        | (go_at_call 8; go_loud ((with_reducible refine HAC.out.mono ?_); rintro e w8 ⟨rfl, hb⟩; have HB8 := Lib.hid hb; clear hb))
                        | (go_at_call 9; go_loud ((with_reducible refine (HLC.out w8 HB8.out).mono ?_); rintro e w9 ⟨rfl, hb⟩; have HB9 := Lib.hid (bt HB8.out hb); clear hb)))
                      go_roundw
                      case rel => exact ⟨j + 1, (A + k), (L ++ [(S, A, k)]), F2, (some ⟨g6, 0, none⟩), c6, by have := HLT.out; omega, by go_num, by go_num, (by rw [HLE.out]), HAT.out, HLT2.out, HM.out.keep HRT.out (fun k hk => HB9.out.block k (HM.out.inside HRT.out k hk)), own_belowT HOT.out HB9.out, HNT.out, HFT.out, HBT.out.trans (HB9.out.mono HBT.out.size)⟩
                      case measure => simp [intOf]; have := HLT.out; omega
              · obtain ⟨bb, ob, rfl⟩ : ∃ bb ob, a0 = some ⟨bb, ob, none⟩ := by
                  obtain ⟨b9, o9, e9, _⟩ := HXB5.out.2.2.1 (by rw [HXB5.out.1]; have := HNL.out; omega)
                  exact ⟨b9, o9, e9⟩
                have HCB := Lib.hid (show ∀ W', Below w5.heap.size w5 W' → (convert 22 9 (.slice (some ⟨bb, ob + A, none⟩) n (c0 - A))).run Try.prog W' = .ok (.string (strOfNums P)) W' from fun W' hU => by
                  rw [hP]
                  exact ((((HXB5.out.2.2.1).dropT (k := A)).take n).below hU).str (by rw [← hP]; exact HPL.out) Try.underlying22 Try.underlying5 Try.underlying9)
                have qca : ¬ c0 = A := by omega
                clear hP hn0
                refine wp_region_held_drew (S := fun W => Below w5.heap.size w5 W) (by kernel_rfl) (Below.refl _ _).drew (fun hHeld => ?_)
                refine wpAnyH_take (i := 0) (oi := { dst := some 77, op := Go.Op.move (Go.Operand.tmp 15), type := 26, pos := "law.go:56", after := #[], guard := none }) (v := ?v0c1) rfl (by kernel_rfl) (by kernel_rfl) (by kernel_rfl) (fun _ _ _ h => h) (Or.inl ⟨by rfl, ?hy0c1⟩) hHeld ?rest0c1
                case hy0c1 =>
                  intro W' hV
                  try dsimp only at hV
                  go_simp
                  all_goals with_reducible rfl
                case' rest0c1 => try simp only [Act.put, List.setIfInBounds_toArray, List.set_cons_zero, List.set_cons_succ]
                refine wpAnyH_take (i := 1) (oi := { dst := some 78, op := Go.Op.binOp Go.BinOp.neq 26 (Go.Operand.tmp 77) (Go.Operand.const (Go.Value.int Go.IntKind.i64 0)) 26, type := 4, pos := "law.go:56", after := #[{ on := 0, ground := Go.Ground.data }], guard := none }) (v := ?v1c2) rfl (by kernel_rfl) (by kernel_rfl) (by kernel_rfl) (fun _ _ _ h => h) (Or.inl ⟨by rfl, ?hy1c2⟩) hHeld ?rest1c2
                case hy1c2 =>
                  intro W' hV
                  try dsimp only at hV
                  go_simp
                  all_goals with_reducible rfl
                case' rest1c2 => try simp only [Act.put, List.setIfInBounds_toArray, List.set_cons_zero, List.set_cons_succ]
                refine wpAnyH_take (i := 2) (oi := { dst := some 79, op := Go.Op.move (Go.Operand.tmp 78), type := 4, pos := "law.go:56", after := #[{ on := 1, ground := Go.Ground.data }], guard := none }) (v := ?v2c3) rfl (by kernel_rfl) (by kernel_rfl) (by kernel_rfl) (fun _ _ _ h => h) (Or.inl ⟨by rfl, ?hy2c3⟩) hHeld ?rest2c3
                case hy2c3 =>
                  intro W' hV
                  try dsimp only at hV
                  go_simp
                  all_goals with_reducible rfl
                case' rest2c3 => try simp only [Act.put, List.setIfInBounds_toArray, List.set_cons_zero, List.set_cons_succ]
                refine wpAnyH_take (i := 3) (oi := { dst := some 80, op := Go.Op.move (Go.Operand.tmp 14), type := 22, pos := "law.go:56", after := #[{ on := 2, ground := Go.Ground.guard }], guard := some (2, false) }) (v := ?v3c4) rfl (by kernel_rfl) (by kernel_rfl) (by kernel_rfl) (fun _ _ _ h => h) (Or.inl ⟨by rfl, ?hy3c4⟩) hHeld ?rest3c4
                case hy3c4 =>
                  intro W' hV
                  try dsimp only at hV
                  go_simp
                  all_goals with_reducible rfl
                case' rest3c4 => try simp only [Act.put, List.setIfInBounds_toArray, List.set_cons_zero, List.set_cons_succ]
                refine wpAnyH_take (i := 4) (oi := { dst := some 81, op := Go.Op.convert 22 9 (Go.Operand.tmp 80), type := 9, pos := "law.go:56", after := #[{ on := 3, ground := Go.Ground.data }, { on := 2, ground := Go.Ground.guard }], guard := some (2, false) }) (v := ?v4c5) rfl (by kernel_rfl) (by kernel_rfl) (by kernel_rfl) (fun _ _ _ h => h) (Or.inl ⟨by rfl, ?hy4c5⟩) hHeld ?rest4c5
                case hy4c5 =>
                  intro W' hV
                  try dsimp only at hV
                  have hcq := HCX.out W' hV
                  go_simp
                  all_goals with_reducible rfl
                case' rest4c5 => try simp only [Act.put, List.setIfInBounds_toArray, List.set_cons_zero, List.set_cons_succ]
                refine wpAnyH_take (i := 5) (oi := { dst := some 82, op := Go.Op.move (Go.Operand.tmp 0), type := 22, pos := "law.go:56", after := #[{ on := 2, ground := Go.Ground.guard }], guard := some (2, false) }) (v := ?v5c6) rfl (by kernel_rfl) (by kernel_rfl) (by kernel_rfl) (fun _ _ _ h => h) (Or.inl ⟨by rfl, ?hy5c6⟩) hHeld ?rest5c6
                case hy5c6 =>
                  intro W' hV
                  try dsimp only at hV
                  go_simp
                  all_goals with_reducible rfl
                case' rest5c6 => try simp only [Act.put, List.setIfInBounds_toArray, List.set_cons_zero, List.set_cons_succ]
                refine wpAnyH_take (i := 6) (oi := { dst := some 83, op := Go.Op.move (Go.Operand.tmp 9), type := 3, pos := "law.go:56", after := #[{ on := 2, ground := Go.Ground.guard }], guard := some (2, false) }) (v := ?v6c7) rfl (by kernel_rfl) (by kernel_rfl) (by kernel_rfl) (fun _ _ _ h => h) (Or.inl ⟨by rfl, ?hy6c7⟩) hHeld ?rest6c7
                case hy6c7 =>
                  intro W' hV
                  try dsimp only at hV
                  go_simp
                  all_goals with_reducible rfl
                case' rest6c7 => try simp only [Act.put, List.setIfInBounds_toArray, List.set_cons_zero, List.set_cons_succ]
                refine wpAnyH_take (i := 7) (oi := { dst := some 84, op := Go.Op.move (Go.Operand.tmp 9), type := 3, pos := "law.go:56", after := #[{ on := 2, ground := Go.Ground.guard }], guard := some (2, false) }) (v := ?v7c8) rfl (by kernel_rfl) (by kernel_rfl) (by kernel_rfl) (fun _ _ _ h => h) (Or.inl ⟨by rfl, ?hy7c8⟩) hHeld ?rest7c8
                case hy7c8 =>
                  intro W' hV
                  try dsimp only at hV
                  go_simp
                  all_goals with_reducible rfl
                case' rest7c8 => try simp only [Act.put, List.setIfInBounds_toArray, List.set_cons_zero, List.set_cons_succ]
                refine wpAnyH_take (i := 8) (oi := { dst := some 85, op := Go.Op.move (Go.Operand.tmp 12), type := 3, pos := "law.go:56", after := #[{ on := 2, ground := Go.Ground.guard }], guard := some (2, false) }) (v := ?v8c9) rfl (by kernel_rfl) (by kernel_rfl) (by kernel_rfl) (fun _ _ _ h => h) (Or.inl ⟨by rfl, ?hy8c9⟩) hHeld ?rest8c9
                case hy8c9 =>
                  intro W' hV
                  try dsimp only at hV
                  go_simp
                  all_goals with_reducible rfl
                case' rest8c9 => try simp only [Act.put, List.setIfInBounds_toArray, List.set_cons_zero, List.set_cons_succ]
                refine wpAnyH_take (i := 9) (oi := { dst := some 86, op := Go.Op.binOp Go.BinOp.add 3 (Go.Operand.tmp 84) (Go.Operand.tmp 85) 3, type := 3, pos := "law.go:56", after := #[{ on := 7, ground := Go.Ground.data }, { on := 8, ground := Go.Ground.data }, { on := 2, ground := Go.Ground.guard }], guard := some (2, false) }) (v := ?v9c10) rfl (by kernel_rfl) (by kernel_rfl) (by kernel_rfl) (fun _ _ _ h => h) (Or.inl ⟨by rfl, ?hy9c10⟩) hHeld ?rest9c10
                case hy9c10 =>
                  intro W' hV
                  try dsimp only at hV
                  go_simp
                  all_goals with_reducible rfl
                case' rest9c10 => try simp only [Act.put, List.setIfInBounds_toArray, List.set_cons_zero, List.set_cons_succ]
                refine wpAnyH_take (i := 10) (oi := { dst := some 87, op := Go.Op.slice 22 (Go.Operand.tmp 82) (some (Go.Operand.tmp 83)) (some (Go.Operand.tmp 86)) none, type := 22, pos := "law.go:56", after := #[{ on := 5, ground := Go.Ground.data }, { on := 6, ground := Go.Ground.data }, { on := 9, ground := Go.Ground.data }, { on := 2, ground := Go.Ground.guard }], guard := some (2, false) }) (v := ?v10c11) rfl (by kernel_rfl) (by kernel_rfl) (by kernel_rfl) (fun _ _ _ h => h) (Or.inl ⟨by rfl, ?hy10c11⟩) hHeld ?rest10c11
                case hy10c11 =>
                  intro W' hV
                  try dsimp only at hV
                  go_simp
                  all_goals with_reducible rfl
                case' rest10c11 => try simp only [Act.put, List.setIfInBounds_toArray, List.set_cons_zero, List.set_cons_succ]
                refine wpAnyH_take (i := 11) (oi := { dst := some 88, op := Go.Op.convert 22 9 (Go.Operand.tmp 87), type := 9, pos := "law.go:56", after := #[{ on := 10, ground := Go.Ground.data }, { on := 2, ground := Go.Ground.guard }], guard := some (2, false) }) (v := ?v11c12) rfl (by kernel_rfl) (by kernel_rfl) (by kernel_rfl) (fun _ _ _ h => h) (Or.inl ⟨by rfl, ?hy11c12⟩) hHeld ?rest11c12
                case hy11c12 =>
                  intro W' hV
                  try dsimp only at hV
                  have hcb := HCB.out W' hV
                  go_simp
                  all_goals with_reducible rfl
                case' rest11c12 => try simp only [Act.put, List.setIfInBounds_toArray, List.set_cons_zero, List.set_cons_succ]
                refine wpAnyH_take (i := 12) (oi := { dst := some 89, op := Go.Op.binOp Go.BinOp.neq 9 (Go.Operand.tmp 81) (Go.Operand.tmp 88) 9, type := 4, pos := "law.go:56", after := #[{ on := 4, ground := Go.Ground.data }, { on := 11, ground := Go.Ground.data }, { on := 2, ground := Go.Ground.guard }], guard := some (2, false) }) (v := ?v12c13) rfl (by kernel_rfl) (by kernel_rfl) (by kernel_rfl) (fun _ _ _ h => h) (Or.inl ⟨by rfl, ?hy12c13⟩) hHeld ?rest12c13
                case hy12c13 =>
                  intro W' hV
                  try dsimp only at hV
                  go_simp
                  all_goals with_reducible rfl
                case' rest12c13 => try simp only [Act.put, List.setIfInBounds_toArray, List.set_cons_zero, List.set_cons_succ]
                refine wpAnyH_take (i := 13) (oi := { dst := some 90, op := Go.Op.pick (Go.Operand.tmp 79) (Go.Operand.const (Go.Value.bool true)) (Go.Operand.tmp 89), type := 4, pos := "law.go:56", after := #[{ on := 2, ground := Go.Ground.data }, { on := 12, ground := Go.Ground.data }], guard := none }) (v := ?v13c14) rfl (by kernel_rfl) (by kernel_rfl) (by kernel_rfl) (fun _ _ _ h => h) (Or.inl ⟨by rfl, ?hy13c14⟩) hHeld ?rest13c14
                case hy13c14 =>
                  intro W' hV
                  try dsimp only at hV
                  go_simp
                  all_goals with_reducible rfl
                case' rest13c14 => try simp only [Act.put, List.setIfInBounds_toArray, List.set_cons_zero, List.set_cons_succ]
                refine wpAnyH_done (by kernel_rfl) ?_ _
                clear hHeld
                go_upto_region 23 with ((with_reducible show wpList _ _ _ (⟨some 97, _, _, _, _, _⟩ :: _) _ _); go_loud (refine wpList_append_lies _ rfl (.tmp 91) (.tmp 96) 29 rfl w1.heap.size 33 iT (.agg #[.string ByteArray.empty, .int .i64 0, .int .i64 0]) 3 32 Try.underlying29 HJ.out HJ0.out HJ1.out HJ2.out rfl (by decide) (.slice a L.length c) L.length (tkC L) rfl (World.ownsRow.alloc HOW.out _) ⟨w5.heap.size, 0, none⟩ 1 1 (tkV (S, A, n)) rfl rfl (HNEW.out) (fun u hu => HONE.out u hu) (by decide) (by unfold maxLen; have := HLJ.out; have := HL1.out; have := HLT.out; omega) (by have := HLJ.out; have := HL1.out; have := HLT.out; omega) (by have := HB15.out.size; simp; omega) (w5.heap.size + 1) (by simp) ?_; intro g6 c6 w6 ho6 hg6 hl6 hlt6; have HO6 := Lib.hid ho6; have HG6 := Lib.hid hg6; have HL6 := Lib.hid hl6; clear ho6 hg6 hl6 hlt6))
                have K56 := Lib.hid (show KB (fun k => (Value.slice a L.length c).ownBlock = some k) w5 w6 from (KB.of_below (((Below.refl w5.heap.size w5).drew).alloc (Nat.le_refl _) _)).trans (KB.of_grown HG6.out))
                have HR6 := Lib.hid (HM.out.keep HR5.out (fun k hk => K56.out.2 k (HM.out.inside HR5.out k hk) (fun e => HN5.out k e hk)))
                have HX6 := Lib.hid (show 0 < n → w6.ownsRow U1.heap.size 5 1 (.slice ax n cx) n (P.map (Value.int .u8)) from fun h0 => K56.out.own (HX5.out h0).1 (fun g e e2 => by
                  have h1 := ((HX5.out h0).1.lt g e).1
                  have h2 := (HOA.out.lt g e2).2
                  omega))
                have HB16 := Lib.hid (show Below w1.heap.size w1 w6 from HB15.out.trans (K56.out.below (fun k e => (HOA.out.lt k e).1) HB15.out.size))
                have HG6B := Lib.hid (show ∀ (h0 : 0 < n), ¬ (Value.slice ax n cx).ownBlock = some g6 from fun h0 e => by
                  have h1 := (HX5.out h0).1.lt g6 e
                  rcases HL6.out with h2 | h2
                  · have := (HOA.out.lt g6 h2).2; omega
                  · omega)
                have HN6 := Lib.hid (show ¬ F2 g6 from fun hf => by
                  rcases HL6.out with h2 | h2
                  · exact HN5.out g6 h2 hf
                  · have := HM.out.inside HR5.out g6 hf; omega)
                have HF6 := Lib.hid (show ∀ k, F2 k → w1.heap.size ≤ k from fun k hk => by
                  rcases HF5.out k hk with h1 | h1
                  · exact HFU.out k h1
                  · have := HBA.out.size; omega)
                clear hee qc1 qc2 q10 q11 hTN kwn hcs
                go_wp2_with fail
                go_loopw [103] (fun q wr => ∃ (k : Nat) (l : List Int), k ≤ n ∧ q = .int .i64 (k : Nat) ∧ AllB l ∧ (0 < n → wr.ownsRow U1.heap.size 5 1 (.slice ax n cx) n (l.map (Value.int .u8))) ∧ KB (fun g => 0 < n ∧ (Value.slice ax n cx).ownBlock = some g) w6 wr) (fun q _ => n - (intOf q).toNat)
                case atStart => exact ⟨0, P, by omega, rfl, HPB.out, HX6.out, KB.refl _ _⟩
                case round =>
                  obtain ⟨k, l, hk, rfl, hlB, hown, hkb⟩ := hrel
                  rename World => Wq
                  have HOQ0 := Lib.hid hown
                  have HLB := Lib.hid hlB
                  have HKQ := Lib.hid hkb
                  clear hlB hown hkb
                  by_cases hlt : k < n
                  · have HKN := Lib.hid hlt
                    have HOX := Lib.hid (HOQ0.out (by omega))
                    obtain ⟨gx, rfl⟩ := own_someT HOX.out (by omega)
                    have hc := own_cells HOX.out k hlt
                    rw [Nat.zero_add] at hc
                    have hfz := HOX.out.frozenAt k
                    obtain ⟨X, hX⟩ : ∃ X, X = l.getD k 0 := ⟨_, rfl⟩
                    rw [← hX] at hc
                    have HXB := Lib.hid (show 0 ≤ X ∧ X < 256 by rw [hX]; exact allB_getD HLB.out k)
                    have qk : (k : Int) < (n : Int) := by omega
                    clear hX hlt
                    go_wp2_with fail
                    go_roundw
                    case rel =>
                      refine ⟨k + 1, l.set k (bits .xor .u8 X 255), HKN.out, by go_num, allB_setT HLB.out k (u8x255 HXB.out), fun _ => ?_, ?_⟩
                      · have h := (HOX.out.stored k (.int .u8 (bits .xor .u8 X 255))).1
                        rw [map_set_u8] at h
                        exact h
                      · refine HKQ.out.trans ?_
                        refine ⟨(KB.of_set Wq gx k _).1, fun j' hj' hf => (KB.of_set Wq gx k _).2 j' hj' (fun e => hf ⟨by have := HKN.out; omega, by rw [e]; rfl⟩)⟩
                    case measure => simp [intOf]; have := HKN.out; omega
                  · obtain rfl : k = n := by omega
                    have HRQ := Lib.hid (HM.out.keep HR6.out (fun j' hj' => HKQ.out.2 j' (HM.out.inside HR6.out j' hj') (fun e => (HX5.out e.1).2 j' e.2 hj')))
                    have HLE := Lib.hid (show (L ++ [(S, A, k)]).length = L.length + 1 from List.length_append)
                    have HOQ := Lib.hid (show Wq.ownsRow w1.heap.size 33 3 (.slice (some ⟨g6, 0, none⟩) (L ++ [(S, A, k)]).length c6) (L ++ [(S, A, k)]).length (tkC (L ++ [(S, A, k)])) from by
                      rw [HLE.out, tkC_append, tkC_one]
                      exact HKQ.out.own HO6.out (fun g e e2 => HG6B.out e2.1 (by rw [e2.2]; exact e.symm)))
                    have HNQ := Lib.hid (show ∀ g, (Value.slice (some ⟨g6, 0, none⟩) (L ++ [(S, A, k)]).length c6).ownBlock = some g → ¬ F2 g from fun g e => by
                      have e : g6 = g := Option.some.inj e
                      rw [← e]; exact HN6.out)
                    have HFQ := Lib.hid HF6.out
                    have HBQ := Lib.hid (show Below w1.heap.size w1 Wq from HB16.out.trans (HKQ.out.below (fun j' e => by have := ((HX5.out e.1).1.lt j' e.2).1; have := HBA.out.size; omega) HB16.out.size))
                    clear hlt hk
                    have HRT := Lib.hid HRQ.out
                    have HOT := Lib.hid HOQ.out
                    have HNT := Lib.hid HNQ.out
                    have HFT := Lib.hid HFQ.out
                    have HBT := Lib.hid HBQ.out
                    have HAT := Lib.hid (show A + k ≤ i by have := HNL.out; have := HA.out; omega)
                    have HLT2 := Lib.hid (show (L ++ [(S, A, k)]).length ≤ j + 1 by rw [List.length_append]; show L.length + 1 ≤ j + 1; have := HLJ.out; omega)
                    have hat := HM.out.at_ tb F2 B (A + k) (L ++ [(S, A, k)]) Wq HRT.out (by rw [HBL.out]; exact HAT.out) (by rw [HBL.out]; have := HL0.out; omega)
                    have HAC := Lib.hid hat
                    clear hat
                    have HLC := Lib.hid (show ∀ W' : World, Below Wq.heap.size Wq W' → Calls Try.prog 9 #[.pointer (some ⟨tb, 0, none⟩)] W' fun e w' => e = .returned (.int .i64 ((i : Int) - (((A + k) : Nat) : Int))) ∧ Below W'.heap.size W' w' from fun W' hb => by
                      have h := HM.out.left tb F2 B (A + k) (L ++ [(S, A, k)]) W' (HM.out.keep HRT.out (fun k hk => hb.block k (HM.out.inside HRT.out k hk))) (by rw [HBL.out]; exact HAT.out) (by rw [HBL.out]; have := HL0.out; omega)
                      rw [show ((B.length - ((A + k)) : Nat) : Int) = (i : Int) - (((A + k) : Nat) : Int) by rw [HBL.out]; have := HAT.out; omega] at h
                      exact h)
                    have qat : ((((A + k)) : Nat) : Int) ≤ (i : Int) := by have := HAT.out; omega
                    have qa0 : (0 : Int) ≤ ((((A + k)) : Nat) : Int) := by omega
                    go_wp2_with (first
                      | (go_at_call 8; go_loud ((with_reducible refine HAC.out.mono ?_); rintro e w8 ⟨rfl, hb⟩; have HB8 := Lib.hid hb; clear hb))
                      | (go_at_call 9; go_loud ((with_reducible refine (HLC.out w8 HB8.out).mono ?_); rintro e w9 ⟨rfl, hb⟩; have HB9 := Lib.hid (bt HB8.out hb); clear hb)))
                    go_roundw
                    case rel => exact ⟨j + 1, (A + k), (L ++ [(S, A, k)]), F2, (some ⟨g6, 0, none⟩), c6, by have := HLT.out; omega, by go_num, by go_num, (by rw [HLE.out]), HAT.out, HLT2.out, HM.out.keep HRT.out (fun k hk => HB9.out.block k (HM.out.inside HRT.out k hk)), own_belowT HOT.out HB9.out, HNT.out, HFT.out, HBT.out.trans (HB9.out.mono HBT.out.size)⟩
                    case measure => simp [intOf]; have := HLT.out; omega
        · obtain rfl : j = L1 := by omega
          have HTK := Lib.hid (HM.out.takes tb F B A L U HRU.out (by have := HLJ.out; have := HL1.out; omega))
          have HLL := Lib.hid (show L.length ≤ 1000000 by have := HLJ.out; have := HL1.out; omega)
          have qL : (L.length : Int) ≤ 40 := by have := HLJ.out; have := HL1.out; omega
          clear hlt hj
          go_upto_region 38 with (first
            | (go_at_call 11; go_loud ((with_reducible refine HTK.out.mono ?_); rintro e wT ⟨vT, rfl, hit, hb⟩; have HALL := Lib.hid (HM.out.all vT L wT hit HLL.out); have HBT := Lib.hid hb; clear hit hb))
            | (go_at_call 10; go_loud ((with_reducible refine HALL.out.mono ?_); rintro e wA ⟨uA, rfl, ho, hb⟩; obtain ⟨ag, cg, rfl⟩ := own_form3 ho; have HOG := Lib.hid ho; have HBG := Lib.hid (bt HBT.out hb); clear ho hb)))
          have HOWN := Lib.hid (own_belowT HOU.out HBG.out)
          clear HTK
          go_wp2_with fail
          go_loopw [161] (fun q wr => ∃ k : Nat, k ≤ L.length ∧ q = .int .i64 (k : Nat) ∧ Below wA.heap.size wA wr) (fun q _ => L.length - (intOf q).toNat)
          case atStart => exact ⟨0, by omega, rfl, Below.refl _ _⟩
          case round =>
            obtain ⟨k, hk, rfl, hbel⟩ := hrel
            rename World => Y
            have HBY := Lib.hid hbel
            clear hbel
            by_cases hlt : k < L.length
            · have HKL := Lib.hid hlt
              have HO1 := Lib.hid (own_belowT HOG.out HBY.out)
              have HO2 := Lib.hid (own_belowT HOWN.out HBY.out)
              obtain ⟨gg, rfl⟩ := own_someT HO1.out (by omega)
              obtain ⟨ga, rfl⟩ := own_someT HO2.out (by omega)
              obtain ⟨⟨s, p, m⟩, htk⟩ : ∃ x, L[k]? = some x := ⟨_, List.getElem?_eq_getElem hlt⟩
              have hr1 := own3_at HO1.out htk
              have hr2 := own3_at HO2.out htk
              have HG1 := Lib.hid (show gg < Y.heap.size from (HO1.out.lt gg rfl).2)
              have HG2 := Lib.hid (show ga < Y.heap.size from (HO2.out.lt ga rfl).2)
              have HR1 := Lib.hid (show ∀ W', Below Y.heap.size Y W' → W'.rangeAt gg (k * 3) [.string s, .int .i64 (p : Nat), .int .i64 (m : Nat)] from fun W' hb j' v hv => (hb.cell (p := ⟨gg, k * 3 + j', none⟩) HG1.out).trans (hr1 j' v hv))
              have HR2 := Lib.hid (show ∀ W', Below Y.heap.size Y W' → W'.rangeAt ga (k * 3) [.string s, .int .i64 (p : Nat), .int .i64 (m : Nat)] from fun W' hb j' v hv => (hb.cell (p := ⟨ga, k * 3 + j', none⟩) HG2.out).trans (hr2 j' v hv))
              have qk : (k : Int) < (L.length : Int) := by omega
              clear hr1 hr2 htk hlt
              go_upto_region 43 with fail
              refine wp_region_held_drew (S := fun W => Below Y.heap.size Y W) (by kernel_rfl) (Below.refl _ _).drew (fun hHeld => ?_)
              refine wpAnyH_take (i := 0) (oi := { dst := some 164, op := Go.Op.move (Go.Operand.tmp 17), type := 29, pos := "law.go:74", after := #[], guard := none }) (v := ?v0e1) rfl (by kernel_rfl) (by kernel_rfl) (by kernel_rfl) (fun _ _ _ h => h) (Or.inl ⟨by rfl, ?hy0e1⟩) hHeld ?rest0e1
              case hy0e1 =>
                intro W' hV
                try dsimp only at hV
                go_simp
                all_goals with_reducible rfl
              case' rest0e1 => try simp only [Act.put, List.setIfInBounds_toArray, List.set_cons_zero, List.set_cons_succ]
              refine wpAnyH_take (i := 1) (oi := { dst := some 165, op := Go.Op.move (Go.Operand.tmp 18), type := 3, pos := "law.go:74", after := #[], guard := none }) (v := ?v1e2) rfl (by kernel_rfl) (by kernel_rfl) (by kernel_rfl) (fun _ _ _ h => h) (Or.inl ⟨by rfl, ?hy1e2⟩) hHeld ?rest1e2
              case hy1e2 =>
                intro W' hV
                try dsimp only at hV
                go_simp
                all_goals with_reducible rfl
              case' rest1e2 => try simp only [Act.put, List.setIfInBounds_toArray, List.set_cons_zero, List.set_cons_succ]
              refine wpAnyH_take (i := 2) (oi := { dst := some 166, op := Go.Op.indexAddr 29 (Go.Operand.tmp 164) (Go.Operand.tmp 165), type := 0, pos := "law.go:74", after := #[{ on := 0, ground := Go.Ground.data }, { on := 1, ground := Go.Ground.data }], guard := none }) (v := ?v2e3) rfl (by kernel_rfl) (by kernel_rfl) (by kernel_rfl) (fun _ _ _ h => h) (Or.inl ⟨by rfl, ?hy2e3⟩) hHeld ?rest2e3
              case hy2e3 =>
                intro W' hV
                try dsimp only at hV
                go_simp
                all_goals with_reducible rfl
              case' rest2e3 => try simp only [Act.put, List.setIfInBounds_toArray, List.set_cons_zero, List.set_cons_succ]
              refine wpAnyH_take (i := 3) (oi := { dst := some 167, op := Go.Op.load 33 (Go.Operand.tmp 166), type := 33, pos := "law.go:74", after := #[{ on := 2, ground := Go.Ground.data }], guard := none }) (v := .agg ([.string s, .int .i64 (p : Nat), .int .i64 (m : Nat)]).toArray) rfl (by kernel_rfl) (by kernel_rfl) (by kernel_rfl) (fun _ _ _ h => h) (yieldsIf_load_mid (by rfl) 33 (.tmp 166) rfl gg (k * 3) (by rfl) ([.string s, .int .i64 (p : Nat), .int .i64 (m : Nat)]) _ HR1.out Try.underlying33 rfl size_TK) hHeld ?rest3e4
              case' rest3e4 => try simp only [Act.put, List.setIfInBounds_toArray, List.set_cons_zero, List.set_cons_succ]
              refine wpAnyH_take (i := 4) (oi := { dst := some 168, op := Go.Op.move (Go.Operand.tmp 10), type := 29, pos := "law.go:74", after := #[], guard := none }) (v := ?v4e5) rfl (by kernel_rfl) (by kernel_rfl) (by kernel_rfl) (fun _ _ _ h => h) (Or.inl ⟨by rfl, ?hy4e5⟩) hHeld ?rest4e5
              case hy4e5 =>
                intro W' hV
                try dsimp only at hV
                go_simp
                all_goals with_reducible rfl
              case' rest4e5 => try simp only [Act.put, List.setIfInBounds_toArray, List.set_cons_zero, List.set_cons_succ]
              refine wpAnyH_take (i := 5) (oi := { dst := some 169, op := Go.Op.move (Go.Operand.tmp 18), type := 3, pos := "law.go:74", after := #[], guard := none }) (v := ?v5e6) rfl (by kernel_rfl) (by kernel_rfl) (by kernel_rfl) (fun _ _ _ h => h) (Or.inl ⟨by rfl, ?hy5e6⟩) hHeld ?rest5e6
              case hy5e6 =>
                intro W' hV
                try dsimp only at hV
                go_simp
                all_goals with_reducible rfl
              case' rest5e6 => try simp only [Act.put, List.setIfInBounds_toArray, List.set_cons_zero, List.set_cons_succ]
              refine wpAnyH_take (i := 6) (oi := { dst := some 170, op := Go.Op.indexAddr 29 (Go.Operand.tmp 168) (Go.Operand.tmp 169), type := 0, pos := "law.go:74", after := #[{ on := 4, ground := Go.Ground.data }, { on := 5, ground := Go.Ground.data }], guard := none }) (v := ?v6e7) rfl (by kernel_rfl) (by kernel_rfl) (by kernel_rfl) (fun _ _ _ h => h) (Or.inl ⟨by rfl, ?hy6e7⟩) hHeld ?rest6e7
              case hy6e7 =>
                intro W' hV
                try dsimp only at hV
                go_simp
                all_goals with_reducible rfl
              case' rest6e7 => try simp only [Act.put, List.setIfInBounds_toArray, List.set_cons_zero, List.set_cons_succ]
              refine wpAnyH_take (i := 7) (oi := { dst := some 171, op := Go.Op.load 33 (Go.Operand.tmp 170), type := 33, pos := "law.go:74", after := #[{ on := 6, ground := Go.Ground.data }], guard := none }) (v := .agg ([.string s, .int .i64 (p : Nat), .int .i64 (m : Nat)]).toArray) rfl (by kernel_rfl) (by kernel_rfl) (by kernel_rfl) (fun _ _ _ h => h) (yieldsIf_load_mid (by rfl) 33 (.tmp 170) rfl ga (k * 3) (by rfl) ([.string s, .int .i64 (p : Nat), .int .i64 (m : Nat)]) _ HR2.out Try.underlying33 rfl size_TK) hHeld ?rest7e8
              case' rest7e8 => try simp only [Act.put, List.setIfInBounds_toArray, List.set_cons_zero, List.set_cons_succ]
              refine wpAnyH_take (i := 8) (oi := { dst := some 172, op := Go.Op.binOp Go.BinOp.neq 33 (Go.Operand.tmp 167) (Go.Operand.tmp 171) 33, type := 4, pos := "law.go:74", after := #[{ on := 3, ground := Go.Ground.data }, { on := 7, ground := Go.Ground.data }], guard := none }) (v := ?v8e9) rfl (by kernel_rfl) (by kernel_rfl) (by kernel_rfl) (fun _ _ _ h => h) (Or.inl ⟨by rfl, ?hy8e9⟩) hHeld ?rest8e9
              case hy8e9 =>
                intro W' hV
                try dsimp only at hV
                go_simp
                all_goals with_reducible rfl
              case' rest8e9 => try simp only [Act.put, List.setIfInBounds_toArray, List.set_cons_zero, List.set_cons_succ]
              refine wpAnyH_done (by kernel_rfl) ?_ _
              clear hHeld
              go_wp2_with fail
              go_roundw
              case rel => exact ⟨k + 1, HKL.out, by go_num, HBY.out.drew⟩
              case measure => simp [intOf]; have := HKL.out; omega
            · obtain rfl : k = L.length := by omega
              clear hlt
              have HYW := Lib.hid (show Below w.heap.size w Y from HB1.out.trans ((HBU.out.trans ((bt HBG.out HBY.out).mono HBU.out.size)).mono HB1.out.size))
              go_wp2_with (first
                | (go_at_call 7; go_loud (refine (HM.out.takeNil { data := #[120] } 0 _).mono ?_; rintro e wb ⟨a1', m1', c1', rfl, hb⟩; have HBb := Lib.hid (bt HYW.out hb); clear hb))
                | (go_at_call 8; go_loud (refine (HM.out.atNil _).mono ?_; rintro e wc ⟨rfl, hb⟩; have HBc := Lib.hid (bt HBb.out hb); clear hb))
                | (go_at_call 9; go_loud (refine (HM.out.leftNil _).mono ?_; rintro e wd ⟨rfl, hb⟩; have HBd := Lib.hid (bt HBc.out hb); clear hb))
                | (go_at_call 11; go_loud (refine (HM.out.takesNil _).mono ?_; rintro e we ⟨ve, rfl, hit, hb⟩; have HIe := Lib.hid hit; have HBe := Lib.hid (bt HBd.out hb); clear hit hb))
                | (go_at_call 10; go_loud (refine (HM.out.all ve [] we HIe.out (by decide)).mono ?_; rintro e wf ⟨uf, rfl, ho, hb⟩; obtain ⟨af, cf, rfl⟩ := own_form3 ho; have HBf := Lib.hid (bt HBe.out hb); clear ho hb)))
              go_ret
              exact ⟨rfl, HBf.out⟩
theorem tapeTakes_long {R : World → Nat → (Nat → Prop) → List Int → Nat → List TK → Prop} {It : World → Value → List TK → Prop} (hM : TapeM R It) (a0 : Option Addr) (L0 c0 : Nat) (a1 : Option Addr) (L1 c1 : Nat) (w : World) (hL : ¬ (L0 ≤ 200 ∧ L1 ≤ 40)) :
    Calls Try.prog 3 #[.slice a0 L0 c0, .slice a1 L1 c1] w fun e w' => e = .returned (.bool true) ∧ Below w.heap.size w w' := by
  have HM := Lib.hid hM
  clear hM
  rcases (show (200 : Int) < (L0 : Int) ∨ (¬ (200 : Int) < (L0 : Int) ∧ (40 : Int) < (L1 : Int)) by omega) with q1 | ⟨q1, q2⟩
  all_goals
    clear hL
    go_enter Try.func3, Try.ntmps3
    go_upto_region 2 with (go_at_call 5; go_loud (refine (lives12 HM.out w).mono ?_; rintro e W1 ⟨rfl, hb⟩; have HB1 := Lib.hid hb; clear hb))
    go_wp2_with (go_at_call 5; go_loud (refine (lives12 HM.out W1).mono ?_; rintro e W2 ⟨rfl, hb⟩; have HB2 := Lib.hid hb; clear hb))
    go_ret
    exact ⟨rfl, bt HB1.out HB2.out⟩
theorem tapeTakes_any {R : World → Nat → (Nat → Prop) → List Int → Nat → List TK → Prop} {It : World → Value → List TK → Prop} (hM : TapeM R It) (a0 : Option Addr) (L0 c0 : Nat) (a1 : Option Addr) (L1 c1 : Nat) (w : World) (w0 : ∃ l, Arg8c w a0 L0 c0 l) (w1 : ∃ l, IA w a1 L1 c1 l) :
    Calls Try.prog 3 #[.slice a0 L0 c0, .slice a1 L1 c1] w fun e w' => e = .returned (.bool true) ∧ Below w.heap.size w w' := by
  obtain ⟨B, hB⟩ := w0
  obtain ⟨zs, hz⟩ := w1
  by_cases h : L0 ≤ 200 ∧ L1 ≤ 40
  · exact tapeTakes_core hM a0 L0 c0 a1 L1 c1 B zs w hB hz h.1 h.2
  · exact tapeTakes_long hM a0 L0 c0 a1 L1 c1 w h
end Go.Proofs.Ytmiafhblllbimaa
