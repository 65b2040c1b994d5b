/- The document's functions for sectors: at, sized, a share's and a commit's bytes. -/
import Derived.Test.YtadcgngiofdhcaaDoorIb
import Derived.Test.YtadcgngiofdhcaaDoorBlk
import Derived.Lib.ConvBytes
namespace Go.Proofs.YtadcgngiofdhcaaDoor
open Go.ChangeShapes Go.WideShapes Go.ChangeAt Go.RowKit Go.Shelf
set_option linter.unusedVariables false
set_option linter.unusedSimpArgs false
set_option maxRecDepth 100000
attribute [local go_sem] Oper.semAt_some

/-- A row of bytes of one's own, as an argument; kept above. -/
theorem own_blockT2 {w w' : World} {base s n : Nat} {e : TypeId} {v : Value} {xs : List Value} (h : w.ownsRow base e s v n xs) (hb : Below w.heap.size w w') : w'.ownsRow base e s v n xs := by
  refine ⟨h.1, ?_⟩
  rcases h.2 with h2 | ⟨g, cap, cur, hv, h3, h4, h5⟩
  · exact .inl h2
  · exact .inr ⟨g, cap, cur, hv, h3, (hb.block g (Array.getElem?_eq_some_iff.1 h4).1).trans h4, h5⟩
theorem arg_own {w : World} {a : Option Addr} {B n c : Nat} {l : List Int} (h : w.ownsRow B 5 1 (.slice a n c) n (l.map (Value.int .u8))) (hB : AllB l) : Arg8c w a n c l := by
  obtain ⟨hbs, hl⟩ := Bs.of_own h
  rcases h.2 with ⟨h0, h1⟩ | ⟨g', cap', cur, hv, hb, hg, h1, h2, _⟩
  · cases h0; exact ⟨⟨hl, hB, hbs, by omega, Nat.zero_le _⟩, fun _ => rfl⟩
  · cases hv; exact ⟨⟨hl, hB, hbs, h1, h2⟩, fun e => by cases e⟩
theorem conv_str (l : List Int) (hB : AllB l) (W : World) : ∃ c W', (convert 9 22 (.string (strOfNums l))).run Tryd.prog W = .ok (.slice (some ⟨W.heap.size, 0, none⟩) l.length c) W' ∧ Below W.heap.size W W' ∧ Bs W' W'.heap.size (some ⟨W.heap.size, 0, none⟩) l := by
  have hs : (strOfNums l).size = l.length := strOfNums_size l
  refine ⟨grownCap W l.length 0 5, Lib.bytesWorld W 5 (strOfNums l), ?_, ?_, ?_⟩
  · rw [Lib.run_convert_string_bytes W 9 22 5 (strOfNums l) Tryd.underlying9 Tryd.underlying22 Tryd.underlying5, hs]
  · exact ⟨rfl, rfl, rfl, by rw [Lib.bytesWorld_size]; omega, fun k hk => Lib.bytesWorld_at_old W _ _ k hk⟩
  · intro h0
    refine ⟨W.heap.size, 0, rfl, by rw [Lib.bytesWorld_size]; omega, fun i hi => ?_⟩
    rw [Nat.zero_add, Lib.bytesWorld_cell W _ _ i (by rw [hs]; exact hi), strOfNums_data]
    have hx := hB _ (List.getElem_mem hi)
    rw [List.getD_eq_getElem?_getD, List.getElem?_map, List.getElem?_eq_getElem hi, List.getD_eq_getElem?_getD, List.getElem?_eq_getElem hi]
    simp
    omega
theorem str_cut (l : List Int) (i j : Nat) : (strOfNums l).extract i j = strOfNums ((l.take j).drop i) := by
  apply ByteArray.ext
  apply Array.ext'
  rw [ByteArray.data_extract, Array.toList_extract, strOfNums_data, strOfNums_data]
  simp [List.extract_eq_take_drop, List.drop_take]
theorem str_drop (l : List Int) (k : Nat) : (strOfNums l).extract k l.length = strOfNums (l.drop k) := by
  rw [str_cut, List.take_length]
set_option maxHeartbeats 1000000 in
theorem refAt_any (b : List Int) (k n : Nat) (hb : AllB b) (hk : k ≤ b.length) (hl : b.length ≤ 512) (hn : n ≤ 8) (w : World) :
    Calls Tryd.prog 48 #[.string (strOfNums b), .int .i64 (k : Nat), .int .i64 (n : Nat)] w fun e w' => e = .returned (.int .u64 (nb b k n)) ∧ Below w.heap.size w w' := by
  obtain ⟨c, W', hcv, hB, hbs⟩ := conv_str (b.drop k) (hb.dropB k) w
  have HG := Lib.hid (refGet n hn (some ⟨w.heap.size, 0, none⟩) (b.drop k).length c (b.drop k) W' rfl (hb.dropB k) hbs (by rw [List.length_drop]; omega))
  have hex := str_drop b k
  have hsz := strOfNums_size b
  have HB := Lib.hid hB
  obtain ⟨N, hN⟩ : ∃ N, N = b.length := ⟨_, rfl⟩
  obtain ⟨D, hD⟩ : ∃ D, D = (b.drop k).length := ⟨_, rfl⟩
  rw [← hN] at hex hsz hk hl
  rw [← hD] at hcv HG
  obtain ⟨s, hs⟩ : ∃ s, s = strOfNums b := ⟨_, rfl⟩
  obtain ⟨s2, hs2⟩ : ∃ s2, s2 = strOfNums (b.drop k) := ⟨_, rfl⟩
  rw [← hs] at hex hsz ⊢
  rw [← hs2] at hex hcv
  have HV := Lib.hid (show nb b k n = getV n (b.drop k) from rfl)
  have q1 : (k : Int) ≤ (N : Int) := by omega
  have q2 : (0 : Int) ≤ (k : Int) := by omega
  clear hB hbs hs hs2 hN hD
  go_enter Tryd.func48, Tryd.ntmps48
  go_wp2_with (go_at_call 55; go_loud (refine HG.out.mono ?_; rintro e w1 ⟨rfl, rfl⟩))
  go_ret
  exact ⟨by rw [HV.out]; rfl, HB.out⟩
/-- Noughts behind bytes, one by one. -/
theorem zeros_next (l : List Int) (k : Nat) : (l ++ List.replicate k (0 : Int)) ++ [0] = l ++ List.replicate (k + 1) 0 := by
  rw [List.append_assoc, List.replicate_succ']
set_option maxHeartbeats 4000000 in
theorem sized_any (a : Option Addr) (n c B : Nat) (l : List Int) (w : World) (hx : w.ownsRow B 5 1 (.slice a n c) n (l.map (Value.int .u8))) (hn : n ≤ 512) (hBw : B ≤ w.heap.size) :
    Calls Tryd.prog 22 #[.slice a n c] w fun e w' => e = .returned (.string (strOfNums (szL l))) ∧ Below B w w' := by
  have hl : l.length = n := by have := hx.1; simpa using this
  have HX := Lib.hid hx
  have HL := Lib.hid hl
  obtain ⟨i5, hi5, hz5⟩ := Option.map_eq_some_iff.1 info5
  simp only [Prod.mk.injEq] at hz5
  have HI := Lib.hid (And.intro hi5 hz5)
  clear hx hl hi5 hz5
  go_enter Tryd.func22, Tryd.ntmps22
  go_wp2
  go_loopw [0] (fun v wr => ∃ (k : Nat) (a : Option Addr) (c : Nat), n + k ≤ 512 ∧ v = .slice a (n + k) c ∧ wr.ownsRow B 5 1 (.slice a (n + k) c) (n + k) ((l ++ List.replicate k 0).map (Value.int .u8)) ∧ Below B w wr)
    (fun v _ => match v with | .slice _ m _ => 512 - m | _ => 0)
  case atStart => exact ⟨0, a, c, hn, rfl, by rw [List.replicate_zero, List.append_nil]; exact HX.out, Below.refl _ _⟩
  case round =>
    obtain ⟨k, a2, c2, hk, rfl, ho, hB⟩ := hrel
    obtain ⟨m, hm⟩ : ∃ m, m = n + k := ⟨_, rfl⟩
    rw [← hm] at ho hk ⊢
    have HM := Lib.hid hm
    have HO := Lib.hid ho
    have HB := Lib.hid hB
    clear hm ho hB
    by_cases hlt : m < 512
    · have q1 : (m : Int) < 512 := by omega
      have HSRC := Lib.hid (show Bs (wr.alloc (.cells #[.int .u8 0] 5)) (wr.heap.size + 1) (some ⟨wr.heap.size, 0, none⟩) [0] from fun h0 => ⟨wr.heap.size, 0, rfl, by omega, fun j hj => by
        obtain rfl : j = 0 := by simp at hj; omega
        rw [cell_of_row _ _ _ _ _ _ (heap_alloc_new wr _)]; rfl⟩)
      have HBL := Lib.hid (show Below wr.heap.size wr (wr.alloc (.cells #[.int .u8 0] 5)) from (Below.refl _ _).alloc (Nat.le_refl _) _)
      go_wp2_with ((with_reducible show wpList _ _ _ (⟨some 8, _, _, _, _, _⟩ :: _) _ _); go_loud (refine wpList_append_bs _ rfl (.tmp 6) (.tmp 7) 22 rfl B 5 i5 Tryd.underlying22 HI.out.1 HI.out.2.1 HI.out.2.2.1 HI.out.2.2.2 _ m (l ++ List.replicate k 0) rfl (HO.out.alloc _) (some ⟨wr.heap.size, 0, none⟩) 1 1 (wr.heap.size + 1) [0] rfl HSRC.out rfl (by simp) (by omega) (by have := HB.out.size; simp; omega) ?_; intro v2 w2 hown2 hg2; have hb2 : Below B w w2 := (HB.out.trans (HBL.out.mono (by have := HB.out.size; omega))).grown hg2 (by have := HB.out.size; simp; omega) (fun j e => (HO.out.lt j e).1); have HO2 := Lib.hid hown2; have HB2 := Lib.hid hb2; obtain ⟨a3, c3, hv2, -⟩ := own_form hown2; subst hv2; clear hown2 hg2 hb2))
      go_roundw
      case rel =>
        refine ⟨k + 1, a3, c3, by have := HM.out; omega, by have := HM.out; subst this; rfl, ?_, HB2.out⟩
        have h := HO2.out
        rw [zeros_next] at h
        have := HM.out
        subst this
        exact h
      case measure => simp; omega
    · obtain rfl : m = 512 := by omega
      have hcv := (Bs.of_own HO.out).1.str (P := Tryd.prog) (Bs.of_own HO.out).2 (e := 5) (src := 22) (c := c2) Tryd.underlying22 Tryd.underlying5 (dst := 9) Tryd.underlying9
      go_wp2
      go_ret
      refine ⟨?_, HB.out⟩
      unfold szL
      rw [HL.out, show 512 - n = k by have := HM.out; omega]
      rfl
end Go.Proofs.YtadcgngiofdhcaaDoor
