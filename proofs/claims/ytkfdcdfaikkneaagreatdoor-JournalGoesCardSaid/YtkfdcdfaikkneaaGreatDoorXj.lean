/- Layer 15's law: made, step, homes, same. -/
import Derived.Test.YtkfdcdfaikkneaaGreatDoorXi
namespace Go.Proofs.YtkfdcdfaikkneaaGreatDoor
open Go.ChangeShapes Go.WideShapes Go.ChangeAt Go.RowKit Go.Shelf
set_option linter.unusedVariables false
set_option linter.unusedSimpArgs false
set_option maxRecDepth 100000
attribute [local go_sem] Oper.semAt_some

def FN15 : Nat → Prop := fun _ => False
theorem made15_any (pp : Option Nat) (Fp : Nat → Prop) (l : Int) (u j : Nat) (w : World) (hp : PO MedP w pp Fp l u) (hl : LeftOk l) (hu : u ≤ j) :
    Calls Tryz.prog 5 #[ppV pp] w fun e w' => ∃ tb F, e = .returned (tbV tb) ∧ MJ w' tb F (MS.new 24) pp Fp l u j ∧ (∀ k, F k → w.heap.size ≤ k) ∧ Below w.heap.size w w' := by
  have hs := sectors_any 6 w (by unfold i64R; omega)
  rw [show sectN 6 = 24 from rfl] at hs
  have HS := Lib.hid hs
  have hn := newMed_any 24 pp w (by omega) (by omega)
  have HN := Lib.hid (show Calls Tryz.prog 22 #[.int .i64 24, ppV pp] w fun e w' => ∃ tb F, e = .returned (.tuple #[tbV tb, .int .i64 0]) ∧ MedR w' tb F (MS.new 24) pp ∧ (∀ k, F k → w.heap.size ≤ k) ∧ Below w.heap.size w w' from hn)
  have HP := Lib.hid (And.intro hp (And.intro hl hu))
  clear hs hn hp hl hu
  go_enter Tryz.func5, Tryz.ntmps5
  go_wp2_with (first
    | (go_at_call 23; go_loud (refine HS.out.mono ?_; rintro e w1 ⟨rfl, rfl⟩))
    | (go_at_call 22; go_loud (refine HN.out.mono ?_; rintro e w2 ⟨tb, F, rfl, hr, hf, hb⟩; have HR := Lib.hid hr; have HF := Lib.hid hf; have HB := Lib.hid hb; clear hr hf hb)))
  go_ret
  exact ⟨tb, F, rfl, ⟨HR.out, poKeep HP.out.1 (fun k hk => HB.out.block k (poIn HP.out.1 k hk)), fun k hk hf => by have := HF.out k hk; have := poIn HP.out.1 k hf; omega, MS.new_ok (by omega) (by omega), HP.out.2.1, ⟨Nat.zero_le _, HP.out.2.2⟩⟩, HF.out, HB.out⟩
variable {tb : Nat} {F F' Fp : Nat → Prop} {S : MS} {pp : Option Nat} {l : Int} {u j : Nat}
/-- A step of a change, as a function. -/
def stepD (pp : Bool) (i : Nat) (g : Int) (L : List SH) (S : MS) (l : Int) (u : Nat) : DS :=
  if i = 0 then spD pp whS L S l u else if i = 1 then markD pp g (L.length : Nat) S l u else if i = 2 then spD pp whH L S l u else clrD pp g S l u
set_option maxHeartbeats 2000000 in
theorem step_any {w : World} (h : MJ w tb F S pp Fp l u j) (hj : j ≤ 800) (i : Nat) (hi : i < 4) (g : Int) (hg : genI g) (a : Option Addr) (n c : Nat) (Z : List SZ) (hZ : ShRow w a n c Z) (hF : ShFr F Fp w a n c Z) :
    Calls Tryz.prog 9 #[tbV tb, .int .i64 (i : Nat), .slice a n c, .int .u64 g] w fun e w' => ∃ F', e = .returned (.int .i64 (stepD pp.isSome i g (L_ Z) S l u).err) ∧ MJ w' tb F' (stepD pp.isSome i g (L_ Z) S l u).S pp Fp (stepD pp.isSome i g (L_ Z) S l u).l (stepD pp.isSome i g (L_ Z) S l u).u (j + 18) ∧ Stp F Fp w F' w' := by
  have hbd := hZ.bd
  have hlen : (L_ Z).length = n := by rw [List.length_map]; exact hZ.len
  have H0 := Lib.hid (stage_any h (by omega) a n c Z hZ hF)
  have H1 := Lib.hid (mark_any h (by omega) g (n : Nat) hg (by unfold i64R; omega))
  have H2 := Lib.hid (apply_any h (by omega) a n c Z hZ hF)
  have H3 := Lib.hid (clear_any h hj g hg)
  have hD : ∃ D, D = stepD pp.isSome i g (L_ Z) S l u := ⟨_, rfl⟩
  obtain ⟨D, hD⟩ := hD
  rw [← hD]
  unfold stepD at hD
  rw [hlen] at hD
  have HD := Lib.hid hD
  clear h hZ hF hg hlen hD
  have hc : i = 0 ∨ i = 1 ∨ i = 2 ∨ i = 3 := by omega
  rcases hc with rfl | rfl | rfl | rfl
  · have h := HD.out
    rw [if_pos rfl] at h
    rw [← h] at H0
    clear h
    go_enter Tryz.func9, Tryz.ntmps9
    go_wp2_with (go_at_call 18; go_loud (refine H0.out.mono ?_; rintro e w1 ⟨F1, rfl, h1, h2⟩; have HA := Lib.hid h1; have HB := Lib.hid h2; clear h1 h2))
    go_ret
    exact ⟨F1, rfl, HA.out.more (by omega), HB.out⟩
  · have h := HD.out
    rw [if_neg (by decide), if_pos rfl] at h
    rw [← h] at H1
    clear h
    go_enter Tryz.func9, Tryz.ntmps9
    go_wp2_with (go_at_call 19; go_loud (refine H1.out.mono ?_; rintro e w1 ⟨F1, rfl, h1, h2⟩; have HA := Lib.hid h1; have HB := Lib.hid h2; clear h1 h2))
    go_ret
    exact ⟨F1, rfl, HA.out.more (by omega), HB.out⟩
  · have h := HD.out
    rw [if_neg (by decide), if_neg (by decide), if_pos rfl] at h
    rw [← h] at H2
    clear h
    go_enter Tryz.func9, Tryz.ntmps9
    go_wp2_with (go_at_call 20; go_loud (refine H2.out.mono ?_; rintro e w1 ⟨F1, rfl, h1, h2⟩; have HA := Lib.hid h1; have HB := Lib.hid h2; clear h1 h2))
    go_ret
    exact ⟨F1, rfl, HA.out.more (by omega), HB.out⟩
  · have h := HD.out
    rw [if_neg (by decide), if_neg (by decide), if_neg (by decide)] at h
    rw [← h] at H3
    clear h
    go_enter Tryz.func9, Tryz.ntmps9
    go_wp2_with (go_at_call 21; go_loud (refine H3.out.mono ?_; rintro e w1 ⟨F1, rfl, h1, h2⟩; have HA := Lib.hid h1; have HB := Lib.hid h2; clear h1 h2))
    go_ret
    exact ⟨F1, rfl, HA.out, HB.out⟩
/-- A row of texts. -/
abbrev strC (A : List ByteArray) : List Value := A.map Value.string
def StrR (B : Nat) (w : World) (a : Option Addr) (n c : Nat) (A : List ByteArray) : Prop := A.length = n ∧ w.ownsRow B 9 1 (.slice a n c) n (strC A)
theorem StrR.on {B : Nat} {w w' : World} {a : Option Addr} {n c : Nat} {A : List ByteArray} (h : StrR B w a n c A) (hb : Below w.heap.size w w') : StrR B w' a n c A := ⟨h.1, own_belowU h.2 hb⟩
theorem StrR.bd {B : Nat} {w : World} {a : Option Addr} {n c : Nat} {A : List ByteArray} (h : StrR B w a n c A) : n ≤ c ∧ c ≤ 9223372036854775807 := by
  rcases h.2.2 with ⟨e, hn⟩ | ⟨g, cap, cur, e, hb, hg, h1, h2, _⟩
  · cases e; omega
  · cases e; unfold maxLen at h2; omega
theorem StrR.cell {B : Nat} {w : World} {a : Option Addr} {n c i : Nat} {A : List ByteArray} {s : ByteArray} (h : StrR B w a n c A) (hs : A[i]? = some s) : ∃ g, a = some ⟨g, 0, none⟩ ∧ g < w.heap.size ∧ w.cell? ⟨g, i, none⟩ = some (.string s) := by
  have hi : i < n := by
    rw [← h.1]
    rcases Nat.lt_or_ge i A.length with h1 | h1
    · exact h1
    · rw [List.getElem?_eq_none h1] at hs; cases hs
  rcases h.2.2 with ⟨e, hn⟩ | ⟨g, cap, cur, e, hb, hg, _⟩
  · omega
  · cases e
    refine ⟨g, rfl, (Array.getElem?_eq_some_iff.1 hg).1, ?_⟩
    rw [h.2.cellAt i (by omega), List.getElem?_map, hs]; rfl
set_option maxHeartbeats 2000000 in
theorem same_yes (B1 B2 : Nat) (a1 a2 : Option Addr) (n c1 c2 : Nat) (A : List ByteArray) (w : World) (h1 : StrR B1 w a1 n c1 A) (h2 : StrR B2 w a2 n c2 A) :
    Calls Tryz.prog 13 #[.slice a1 n c1, .slice a2 n c2] w fun e w' => e = .returned (.bool true) ∧ Below w.heap.size w w' := by
  have H1 := Lib.hid h1
  have H2 := Lib.hid h2
  have hb1 := h1.bd
  have hb2 := h2.bd
  have HL := Lib.hid h1.1
  clear h1 h2
  go_enter Tryz.func13, Tryz.ntmps13
  go_wp2_with fail
  go_loopw [13] (fun q wr => ∃ k : Nat, k ≤ n ∧ q = .int .i64 (k : Nat) ∧ Below w.heap.size w wr) (fun q _ => n - (intOf q).toNat)
  case atStart => exact ⟨0, Nat.zero_le _, rfl, Below.refl _ _⟩
  case round =>
    obtain ⟨k, hk, rfl, hB⟩ := hrel
    rename World => V
    have HBV := Lib.hid hB
    by_cases hlt : k < n
    · have HLT := Lib.hid hlt
      obtain ⟨s, hs⟩ : ∃ s, A[k]? = some s := ⟨_, List.getElem?_eq_getElem (by rw [HL.out]; exact hlt)⟩
      obtain ⟨g1, rfl, hg1, hc1⟩ := (H1.out.on hB).cell hs
      obtain ⟨g2, rfl, hg2, hc2⟩ := (H2.out.on hB).cell hs
      have q1 : (k : Int) < (n : Int) := by omega
      have q2 : (0 : Int) ≤ (k : Int) := by omega
      have hss : (s.toList == s.toList) = true := by simp
      clear hs hB hlt
      go_wp2_with fail
      go_quiet (fail)
      go_wp2_with fail
      go_roundw
      case rel => exact ⟨k + 1, HLT.out, by go_num, bt HBV.out (below_drewN (Below.refl _ _) nq)⟩
      case measure => simp [intOf]; have := HLT.out; omega
    · obtain rfl : k = n := by omega
      clear hB
      go_wp2_with fail
      go_ret
      exact ⟨rfl, HBV.out⟩
theorem infoStr15 : (Tryz.prog.info? 9).map (fun i => (i.zero, i.size, i.bytes)) = some (some (.string ByteArray.empty), 1, 16) := by kernel_rfl
def homL (H : Nat → List Int) (n : Nat) : List ByteArray := (List.range n).map fun i => strOfNums (H i)
theorem homL_len (H : Nat → List Int) (n : Nat) : (homL H n).length = n := by simp [homL]
theorem homL_succ (H : Nat → List Int) (n : Nat) : homL H (n + 1) = homL H n ++ [strOfNums (H n)] := by simp [homL, List.range_succ]
set_option maxHeartbeats 4000000 in
theorem homes_any {w : World} (h : MJ w tb F S pp Fp l u j) (hj : j ≤ 999) (hd : S.down = false) (hl : l ≠ 0) (h24 : 24 ≤ S.size) (H : Nat → List Int) (hH : ∀ i, i < 6 → S.shows (18 + i) = some (H i)) :
    Calls Tryz.prog 8 #[tbV tb] w fun e w' => ∃ a c, e = .returned (.tuple #[.slice a 6 c, .bool true]) ∧ StrR w.heap.size w' a 6 c (homL H 6) ∧ Below w.heap.size w w' := by
  obtain ⟨iT, hi, hz0, hz1, hz2⟩ := info_parts infoStr15
  have HI := Lib.hid (And.intro hi (And.intro hz0 (And.intro hz1 hz2)))
  have HRD := Lib.hid (show ∀ (i : Nat), i < 6 → ∀ U, Below w.heap.size w U → Calls Tryz.prog 26 #[tbV tb, .int .i64 (18 + (i : Int))] U fun e w' => ∃ a c, e = .returned (.tuple #[.slice a 512 c, .int .i64 0]) ∧ Arg8c w' a 512 c (H i) ∧ Below U.heap.size U w' from fun i hi6 U hU => by
    have hr := jread (i := ((18 + i : Nat) : Int)) (h.on hU) hj (by unfold i64R; omega)
    rw [opRead_in hd hl (by omega), hH i hi6] at hr
    dsimp only at hr
    rw [(h.ok.shows (hH i hi6)).1] at hr
    rw [show ((18 + i : Nat) : Int) = 18 + (i : Int) by omega] at hr
    exact hr)
  clear h hd hl h24 hH hi hz0 hz1 hz2
  go_enter Tryz.func8, Tryz.ntmps8
  go_wp2_with fail
  go_loopw [4, 8] (fun v q wr => ∃ (k : Nat) (a : Option Addr) (c : Nat), k ≤ 6 ∧ q = .int .i64 (k : Nat) ∧ v = .slice a k c ∧ StrR w.heap.size wr a k c (homL H k) ∧ Below w.heap.size w wr) (fun _ q _ => 6 - (intOf q).toNat)
  case atStart => exact ⟨0, none, 0, Nat.zero_le _, rfl, rfl, ⟨rfl, World.ownsRow_nil _ _ _ _⟩, Below.refl _ _⟩
  case round =>
    obtain ⟨k, a, c, hk, rfl, rfl, hR, hB⟩ := hrel
    rename World => V
    have HRV := Lib.hid hR
    have HBV := Lib.hid hB
    clear hR hB
    by_cases hlt : k < 6
    · have HLT := Lib.hid hlt
      have q1 : (k : Int) < 6 := by omega
      obtain ⟨T, hT⟩ : ∃ T, T = strOfNums (H k) := ⟨_, rfl⟩
      have HTT := Lib.hid hT
      clear hlt
      go_upto_region 6 with (go_at_call 26; go_loud (refine (HRD.out k HLT.out V HBV.out).mono ?_; rintro e w2 ⟨a2, k2, rfl, hx2, hb2⟩; have hcv := arg_str hx2 (Below.refl _ _); rw [← hT] at hcv; have HB2 := Lib.hid hb2; clear hx2 hb2))
      clear hT
      have HR2 := Lib.hid (HRV.out.on (bt HB2.out ((Below.refl _ w2).alloc (Nat.le_refl _) (.cells #[.string T] 9))))
      have HNW := Lib.hid (World.news_of_block (heap_alloc_new w2 (.cells #[.string T] 9)))
      have HBA := Lib.hid (show Below w.heap.size w (w2.alloc (.cells #[.string T] 9)) from bt HBV.out (bt HB2.out ((Below.refl _ w2).alloc (Nat.le_refl _) _)))
      go_upto_region 9 with ((with_reducible show wpList _ _ _ (⟨some 24, _, _, _, _, _⟩ :: _) _ _); go_loud (refine wpList_append_lies _ rfl (.tmp 20) (.tmp 23) 41 rfl w.heap.size 9 iT (.string ByteArray.empty) 1 16 Tryz.underlying41 HI.out.1 HI.out.2.1 HI.out.2.2.1 HI.out.2.2.2 rfl (by decide) (.slice a k c) k (strC (homL H k)) rfl HR2.out.2 ⟨w2.heap.size, 0, none⟩ 1 1 [.string T] rfl rfl HNW.out (fun u hu => by rw [List.mem_singleton.1 hu]; rfl) (by decide) (by unfold maxLen; have := HLT.out; omega) (by have := HLT.out; omega) (by have := HBA.out.size; omega) (w2.heap.size + 1) (by simp) ?_; intro g6 c6 w6 ho6 hg6 hl6 hlt6; have HO6 := Lib.hid ho6; have HG6 := Lib.hid hg6; clear ho6 hg6 hl6 hlt6))
      have HB7 := Lib.hid (show Below w.heap.size w w6 from HBA.out.grown HG6.out HBA.out.size (fun j e => (HR2.out.2.lt j e).1))
      go_wp2_with fail
      go_roundw
      case rel =>
        refine ⟨k + 1, some ⟨g6, 0, none⟩, c6, HLT.out, by go_num, rfl, ⟨homL_len _ _, ?_⟩, HB7.out⟩
        have h := HO6.out
        rw [homL_succ]
        unfold strC at h ⊢
        rw [List.map_append, ← HTT.out]; exact h
      case measure => simp [intOf]; have := HLT.out; omega
    · obtain rfl : k = 6 := by omega
      go_wp2_with fail
      go_ret2
      exact ⟨a, c, rfl, HRV.out, HBV.out⟩
end Go.Proofs.YtkfdcdfaikkneaaGreatDoor
