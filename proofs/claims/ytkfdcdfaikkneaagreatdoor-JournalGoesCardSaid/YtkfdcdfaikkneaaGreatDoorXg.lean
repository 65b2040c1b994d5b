/- Package journal: slots. -/
import Derived.Test.YtkfdcdfaikkneaaGreatDoorXf
namespace Go.Proofs.YtkfdcdfaikkneaaGreatDoor
open Go.ChangeShapes Go.WideShapes Go.ChangeAt Go.RowKit Go.Shelf
set_option linter.unusedVariables false
set_option linter.unusedSimpArgs false
set_option maxRecDepth 100000
attribute [local go_sem] Oper.semAt_some

theorem infoSh : (Tryz.prog.info? 54).map (fun i => (i.zero, i.size, i.bytes)) = some (some (.agg #[.int .u8 0, .int .u8 0, .int .u32 0, .int .u64 0, .slice none 0 0]), 5, 40) := by kernel_rfl
theorem szV_one {z : SZ} : ∀ v ∈ szV z, v.oneCell' = true := by
  intro v hv
  unfold szV at hv
  rcases List.mem_cons.1 hv with rfl | hv
  · rfl
  rcases List.mem_cons.1 hv with rfl | hv
  · rfl
  rcases List.mem_cons.1 hv with rfl | hv
  · rfl
  rcases List.mem_cons.1 hv with rfl | hv
  · rfl
  · rw [List.mem_singleton.1 hv]; rfl
/-- Shares on a growing row of one's own, their rows elsewhere. -/
structure SlR (B : Nat) (w : World) (a : Option Addr) (c : Nat) (Z : List SZ) : Prop where
  own : w.ownsRow B 54 5 (.slice a Z.length c) Z.length (szC Z)
  row : ∀ z, z ∈ Z → z.1.Wf ∧ z.1.row.length ≤ 500 ∧ Arg8c w z.2.1 z.1.row.length z.2.2 z.1.row
  apart : ∀ z, z ∈ Z → 0 < z.1.row.length → ∀ b o, z.2.1 = some ⟨b, o, none⟩ → (Value.slice a Z.length c).ownBlock ≠ some b
  new : ∀ z, z ∈ Z → 0 < z.1.row.length → ∀ b o, z.2.1 = some ⟨b, o, none⟩ → B ≤ b
theorem SlR.on {B : Nat} {w w' : World} {a : Option Addr} {c : Nat} {Z : List SZ} (h : SlR B w a c Z) (hb : Below w.heap.size w w') : SlR B w' a c Z :=
  ⟨own_belowU h.own hb, fun z hz => ⟨(h.row z hz).1, (h.row z hz).2.1, (h.row z hz).2.2.onV hb⟩, h.apart, h.new⟩
theorem SlR.app {B : Nat} {W w' : World} {a : Option Addr} {c g cap H : Nat} {Z : List SZ} {z : SZ} (h : SlR B W a c Z) (hz : z.1.Wf ∧ z.1.row.length ≤ 500 ∧ Arg8c W z.2.1 z.1.row.length z.2.2 z.1.row)
    (hap : 0 < z.1.row.length → ∀ b o, z.2.1 = some ⟨b, o, none⟩ → (Value.slice a Z.length c).ownBlock ≠ some b) (ho : w'.ownsRow B 54 5 (.slice (some ⟨g, 0, none⟩) (Z.length + 1) cap) (Z.length + 1) (szC Z ++ szV z))
    (hg : W.grownBy w' (Value.slice a Z.length c).ownBlock) (hl : (Value.slice a Z.length c).ownBlock = some g ∨ g = H) (hH : W.heap.size ≤ H) (hnw : 0 < z.1.row.length → ∀ b o, z.2.1 = some ⟨b, o, none⟩ → B ≤ b) : SlR B w' (some ⟨g, 0, none⟩) cap (Z ++ [z]) := by
  have hall : ∀ y, y ∈ Z ++ [z] → y.1.Wf ∧ y.1.row.length ≤ 500 ∧ Arg8c W y.2.1 y.1.row.length y.2.2 y.1.row := fun y hy => by
    rcases List.mem_append.1 hy with hy | hy
    · exact h.row y hy
    · rw [List.mem_singleton.1 hy]; exact hz
  have hapl : ∀ y, y ∈ Z ++ [z] → 0 < y.1.row.length → ∀ b o, y.2.1 = some ⟨b, o, none⟩ → (Value.slice a Z.length c).ownBlock ≠ some b := fun y hy => by
    rcases List.mem_append.1 hy with hy | hy
    · exact h.apart y hy
    · rw [List.mem_singleton.1 hy]; exact hap
  have hlt : ∀ y, y ∈ Z ++ [z] → 0 < y.1.row.length → ∀ b o, y.2.1 = some ⟨b, o, none⟩ → b < W.heap.size := fun y hy h0 b o e => by
    obtain ⟨g', o', e', hb⟩ := arg_new (hall y hy).2.2 h0
    rw [e] at e'; cases e'; exact hb
  refine ⟨by rw [List.length_append, szC_append, szC_one]; exact ho, fun y hy => ⟨(hall y hy).1, (hall y hy).2.1, (hall y hy).2.2.blockT (fun h0 b o e => hg.block b (hlt y hy h0 b o e) (fun e2 => hapl y hy h0 b o e e2.symm))⟩, fun y hy h0 b o e e2 => ?_, fun y hy => ?_⟩
  · have e3 : g = b := by
      rw [List.length_append] at e2
      exact Option.some.inj e2
    subst e3
    rcases hl with h1 | h1
    · exact hapl y hy h0 _ o e h1
    · have := hlt y hy h0 _ o e; omega
  · rcases List.mem_append.1 hy with hy | hy
    · exact h.new y hy
    · rw [List.mem_singleton.1 hy]; exact hnw
variable {tb : Nat} {F F' Fp : Nat → Prop} {S : MS} {pp : Option Nat} {l : Int} {u j : Nat}
theorem slotF_stop {S : MS} {k : Nat} (hk : k < 16) {acc : List SH} (h : shAt S (2 + k) = none) : slotF S (16 - k) k acc = acc := by
  rw [show 16 - k = (16 - (k + 1)) + 1 by omega, slotF, h]
theorem slotF_one {S : MS} {k : Nat} (hk : k < 16) {s : SH} (h : shAt S (2 + k) = some s) : slotF S (16 - k) k [] = slotF S (16 - (k + 1)) (k + 1) [s] := by
  rw [show 16 - k = (16 - (k + 1)) + 1 by omega, slotF, h]
theorem slotF_more {S : MS} {k : Nat} (hk : k < 16) {s x : SH} {r : List SH} (h : shAt S (2 + k) = some s) (hg : s.g = x.g) : slotF S (16 - k) k (x :: r) = slotF S (16 - (k + 1)) (k + 1) (x :: r ++ [s]) := by
  rw [show 16 - k = (16 - (k + 1)) + 1 by omega, slotF, h]
  exact if_pos hg
theorem slotF_else {S : MS} {k : Nat} (hk : k < 16) {s x : SH} {r : List SH} (h : shAt S (2 + k) = some s) (hg : ¬ s.g = x.g) : slotF S (16 - k) k (x :: r) = x :: r := by
  rw [show 16 - k = (16 - (k + 1)) + 1 by omega, slotF, h]
  exact if_neg hg
def SlotsPost (S : MS) (w : World) (e : Ending) (w' : World) : Prop := ∃ a c Z, e = .returned (.slice a Z.length c) ∧ L_ Z = slotL S ∧ SlR w.heap.size w' a c Z ∧ Z.length ≤ 16 ∧ Below w.heap.size w w'
set_option maxHeartbeats 8000000 in
theorem slots_any {w : World} (h : MJ w tb F S pp Fp l u j) (hj : j ≤ 999) (hd : S.down = false) (hl : l ≠ 0) (h18 : 18 ≤ S.size) :
    Calls Tryz.prog 29 #[tbV tb] w (SlotsPost S w) := by
  obtain ⟨iT, hi, hz0, hz1, hz2⟩ := info_parts infoSh
  have HI := Lib.hid (And.intro hi (And.intro hz0 (And.intro hz1 hz2)))
  have HSH := Lib.hid (fun (k : Nat) (hk : k < 16) (U : World) (hU : Below w.heap.size w U) => share_any (h.on hU) hj hd hl (2 + k) (by omega))
  have HWF := Lib.hid (fun k => shZ_wf h.ok (2 + k))
  clear h hd hl h18 hi hz0 hz1 hz2
  go_enter Tryz.func29, Tryz.ntmps29
  go_wp2_with fail
  go_loopw [3, 7] (fun v q wr => ∃ (k : Nat) (a : Option Addr) (c : Nat) (Z : List SZ), k ≤ 16 ∧ q = .int .i64 (k : Nat) ∧ v = .slice a Z.length c ∧ slotF S (16 - k) k (L_ Z) = slotL S ∧ SlR w.heap.size wr a c Z ∧ Z.length ≤ k ∧ Below w.heap.size w wr) (fun _ q _ => 16 - (intOf q).toNat)
  case atStart => exact ⟨0, none, 0, [], Nat.zero_le _, rfl, rfl, rfl, ⟨World.ownsRow_nil _ _ _ _, fun z hz => (by cases hz), fun z hz => (by cases hz), fun z hz => (by cases hz)⟩, Nat.le_refl _, Below.refl _ _⟩
  case round =>
    obtain ⟨k, a, c, Z, hk, rfl, rfl, hsl, hR, hZk, hB⟩ := hrel
    rename World => V
    have HSL := Lib.hid hsl
    have HRV := Lib.hid hR
    have HBV := Lib.hid hB
    have HZK := Lib.hid hZk
    clear hsl hR hB hZk
    by_cases hlt : k < 16
    · have HLT := Lib.hid hlt
      have q1 : (k : Int) < 16 := by omega
      have hsc := HSH.out k hlt V HBV.out
      have hE := shAt_E S (2 + k)
      have hwf := HWF.out k
      have hp2 : ((2 + k : Nat) : Int) = 2 + (k : Int) := by omega
      rw [hp2] at hsc
      obtain ⟨z, hz⟩ : ∃ z, z = shZ S (2 + k) := ⟨_, rfl⟩
      obtain ⟨E, hEE⟩ : ∃ E, E = shE S (2 + k) := ⟨_, rfl⟩
      rw [← hz, ← hEE] at hE hsc
      rw [← hz] at hwf
      have HC := Lib.hid hsc
      have HWZ := Lib.hid hwf
      unfold shG at HC
      clear hsc hwf hp2 hz hEE hlt
      rcases hE with ⟨rfl, hA⟩ | ⟨hE0, hA⟩
      · have HA := Lib.hid hA
        clear hA
        cases Z with
        | nil =>
          go_upto_region 6 with (go_at_call 33; go_loud (refine HC.out.mono ?_; rintro e w2 ⟨a2, k2, rfl, hx2, hb2, hn2⟩; have HX2 := Lib.hid hx2; have HB2 := Lib.hid hb2; have HN2 := Lib.hid hn2; clear hx2 hb2 hn2))
          obtain ⟨W, hW⟩ : ∃ W, W = w2.alloc (.cells #[.int .u8 z.m, .int .u8 z.p, .int .u32 z.st, .int .u64 z.g, .slice a2 z.row.length k2] 54) := ⟨_, rfl⟩
          have hrW : W.heap[w2.heap.size]? = some (.cells #[.int .u8 z.m, .int .u8 z.p, .int .u32 z.st, .int .u64 z.g, .slice a2 z.row.length k2] 54 (0, 0)) := by rw [hW]; exact heap_alloc_new w2 _
          have hbW : Below w2.heap.size w2 W := by rw [hW]; exact (Below.refl _ _).alloc (Nat.le_refl _) _
          have hsW : W.heap.size = w2.heap.size + 1 := by rw [hW]; simp
          obtain ⟨c0, c1, c2, c3, c4⟩ := cell5 hrW
          rw [← hW]
          clear hW
          go_quiet (fail)
          obtain ⟨W1, hW1⟩ : ∃ W1, W1 = W.drewN nq := ⟨_, rfl⟩
          have hb1 : Below W.heap.size W W1 := by rw [hW1]; exact below_drewN (Below.refl _ _) _
          have hr1 : W1.heap[w2.heap.size]? = some (.cells #[.int .u8 z.m, .int .u8 z.p, .int .u32 z.st, .int .u64 z.g, .slice a2 z.row.length k2] 54 (0, 0)) := by rw [hW1]; exact hrW
          have hs1 : W1.heap.size = w2.heap.size + 1 := by rw [hW1]; exact hsW
          have HW2 := Lib.hid (show ∀ b, b < w2.heap.size → W1.heap[b]? = w2.heap[b]? from fun b hb => hW1 ▸ hbW.block b hb)
          rw [← hW1]
          have HVW := Lib.hid (bt (bt HB2.out hbW) hb1)
          clear c0 c1 c2 c3 c4 hrW hbW hsW hb1 hW1
          obtain ⟨d0, d1, d2, d3, d4⟩ := cell5 hr1
          have HS1 := Lib.hid hs1
          have HBA := Lib.hid (show Below V.heap.size V (W1.alloc (.cells #[.int .u8 z.m, .int .u8 z.p, .int .u32 z.st, .int .u64 z.g, .slice a2 z.row.length k2] 54)) from bt HVW.out ((Below.refl _ _).alloc (Nat.le_refl _) _))
          have HRA := Lib.hid (HRV.out.on HBA.out)
          have HNW := Lib.hid (World.news_of_block (heap_alloc_new W1 (.cells #[.int .u8 z.m, .int .u8 z.p, .int .u32 z.st, .int .u64 z.g, .slice a2 z.row.length k2] 54)))
          have HZA := Lib.hid (show z.Wf ∧ z.row.length ≤ 500 ∧ Arg8c (W1.alloc (.cells #[.int .u8 z.m, .int .u8 z.p, .int .u32 z.st, .int .u64 z.g, .slice a2 z.row.length k2] 54)) a2 z.row.length k2 z.row from ⟨HWZ.out.1, by have := HWZ.out.2; omega, HX2.out.blockT (fun h0 b o e => by
              obtain ⟨g', o', e', hb'⟩ := arg_new HX2.out h0
              rw [e] at e'; cases e'
              exact ((heap_alloc_old W1 _ (by rw [HS1.out]; omega)).trans (HW2.out b hb')))⟩)
          clear hs1 hr1
          have HPT := Lib.hid (show 0 < z.row.length → ∀ b o, a2 = some ⟨b, o, none⟩ → (Value.slice a 0 c).ownBlock ≠ some b from fun h0 b o e e2 => by have h1 := HN2.out h0 b o e; have h2 := (own_lt HRV.out.own e2).2; omega)
          go_upto_region 8 with ((with_reducible show wpList _ _ _ (⟨some 36, _, _, _, _, _⟩ :: _) _ _); go_loud (refine wpList_append_lies _ rfl (.tmp 33) (.tmp 35) 37 rfl w.heap.size 54 iT (.agg #[.int .u8 0, .int .u8 0, .int .u32 0, .int .u64 0, .slice none 0 0]) 5 40 Tryz.underlying37 HI.out.1 HI.out.2.1 HI.out.2.2.1 HI.out.2.2.2 rfl (by decide) (.slice a 0 c) 0 (szC []) rfl HRA.out.own ⟨W1.heap.size, 0, none⟩ 1 1 (szV (z, (a2, k2))) rfl rfl HNW.out (fun u hu => szV_one u hu) (by decide) (by unfold maxLen; have := HZK.out; have := HLT.out; omega) (by have := HZK.out; have := HLT.out; omega) (by have := HBV.out.size; have := HBA.out.size; omega) (W1.heap.size + 1) (by simp) ?_; intro g6 c6 w6 ho6 hg6 hl6 hlt6; have HO6 := Lib.hid ho6; have HG6 := Lib.hid hg6; have HL6 := Lib.hid hl6; clear ho6 hg6 hl6 hlt6))
          have HAP := Lib.hid (HRA.out.app HZA.out HPT.out HO6.out HG6.out HL6.out (Nat.le_of_eq (by simp)) (fun h0 b o e => Nat.le_trans HBV.out.size (HN2.out h0 b o e)))
          have HB6 := Lib.hid (show Below w.heap.size w w6 from (HBV.out.trans (HBA.out.mono HBV.out.size)).grown HG6.out (by have := HBV.out.size; have := HBA.out.size; omega) (fun j e => (HRA.out.own.lt j e).1))
          go_wp2_with fail
          go_roundw
          case rel =>
            refine ⟨k + 1, some ⟨g6, 0, none⟩, c6, [] ++ [(z, (a2, k2))], HLT.out, by go_num, rfl, ?_, HAP.out, by simp, HB6.out⟩
            rw [← HSL.out]; exact (slotF_one HLT.out HA.out).symm
          case measure => simp [intOf]; have := HLT.out; omega
        | cons x r =>
          go_upto_region 6 with (go_at_call 33; go_loud (refine HC.out.mono ?_; rintro e w2 ⟨a2, k2, rfl, hx2, hb2, hn2⟩; have HX2 := Lib.hid hx2; have HB2 := Lib.hid hb2; have HN2 := Lib.hid hn2; clear hx2 hb2 hn2))
          obtain ⟨W, hW⟩ : ∃ W, W = w2.alloc (.cells #[.int .u8 z.m, .int .u8 z.p, .int .u32 z.st, .int .u64 z.g, .slice a2 z.row.length k2] 54) := ⟨_, rfl⟩
          have hrW : W.heap[w2.heap.size]? = some (.cells #[.int .u8 z.m, .int .u8 z.p, .int .u32 z.st, .int .u64 z.g, .slice a2 z.row.length k2] 54 (0, 0)) := by rw [hW]; exact heap_alloc_new w2 _
          have hbW : Below w2.heap.size w2 W := by rw [hW]; exact (Below.refl _ _).alloc (Nat.le_refl _) _
          have hsW : W.heap.size = w2.heap.size + 1 := by rw [hW]; simp
          obtain ⟨c0, c1, c2, c3, c4⟩ := cell5 hrW
          obtain ⟨g0, cap0, e0, hg0⟩ := HRV.out.own.form (by simp)
          injection e0 with e0 e1 e2; subst e0
          have hgV := (own_lt HRV.out.own rfl).2
          have hcx : V.cell? ⟨g0, 3, none⟩ = some (.int .u64 x.1.g) := by rw [HRV.out.own.cellAt 3 (by simp; omega)]; exact szC_get (k := 0) (z := x) rfl 3 _ rfl
          have hcW : W.cell? ⟨g0, 3, none⟩ = some (.int .u64 x.1.g) := ((bt HB2.out hbW).cell (p := ⟨g0, 3, none⟩) hgV).trans hcx
          clear hcx hgV e1 e2 hg0
          rw [← hW]
          clear hW
          obtain ⟨zg, hzg⟩ : ∃ zg, zg = z.g := ⟨_, rfl⟩
          obtain ⟨xg, hxg⟩ : ∃ xg, xg = x.1.g := ⟨_, rfl⟩
          by_cases hge : z.g = x.1.g
          · have qg : (z.g == x.1.g) = true := by rw [hge]; simp
            have HGE := Lib.hid hge
            rw [← hxg] at hcW qg
            clear hge hzg hxg
            go_quiet (fail)
            obtain ⟨W1, hW1⟩ : ∃ W1, W1 = W.drewN nq := ⟨_, rfl⟩
            have hb1 : Below W.heap.size W W1 := by rw [hW1]; exact below_drewN (Below.refl _ _) _
            have hr1 : W1.heap[w2.heap.size]? = some (.cells #[.int .u8 z.m, .int .u8 z.p, .int .u32 z.st, .int .u64 z.g, .slice a2 z.row.length k2] 54 (0, 0)) := by rw [hW1]; exact hrW
            have hs1 : W1.heap.size = w2.heap.size + 1 := by rw [hW1]; exact hsW
            have HW2 := Lib.hid (show ∀ b, b < w2.heap.size → W1.heap[b]? = w2.heap[b]? from fun b hb => hW1 ▸ hbW.block b hb)
            rw [← hW1]
            have HVW := Lib.hid (bt (bt HB2.out hbW) hb1)
            clear c0 c1 c2 c3 c4 hrW hbW hsW hb1 hW1 hcW
            obtain ⟨d0, d1, d2, d3, d4⟩ := cell5 hr1
            have HS1 := Lib.hid hs1
            have HBA := Lib.hid (show Below V.heap.size V (W1.alloc (.cells #[.int .u8 z.m, .int .u8 z.p, .int .u32 z.st, .int .u64 z.g, .slice a2 z.row.length k2] 54)) from bt HVW.out ((Below.refl _ _).alloc (Nat.le_refl _) _))
            have HRA := Lib.hid (HRV.out.on HBA.out)
            have HNW := Lib.hid (World.news_of_block (heap_alloc_new W1 (.cells #[.int .u8 z.m, .int .u8 z.p, .int .u32 z.st, .int .u64 z.g, .slice a2 z.row.length k2] 54)))
            have HZA := Lib.hid (show z.Wf ∧ z.row.length ≤ 500 ∧ Arg8c (W1.alloc (.cells #[.int .u8 z.m, .int .u8 z.p, .int .u32 z.st, .int .u64 z.g, .slice a2 z.row.length k2] 54)) a2 z.row.length k2 z.row from ⟨HWZ.out.1, by have := HWZ.out.2; omega, HX2.out.blockT (fun h0 b o e => by
                obtain ⟨g', o', e', hb'⟩ := arg_new HX2.out h0
                rw [e] at e'; cases e'
                exact ((heap_alloc_old W1 _ (by rw [HS1.out]; omega)).trans (HW2.out b hb')))⟩)
            clear hs1 hr1
            have HPT := Lib.hid (show 0 < z.row.length → ∀ b o, a2 = some ⟨b, o, none⟩ → (Value.slice (some ⟨g0, 0, none⟩) (x :: r).length c).ownBlock ≠ some b from fun h0 b o e e2 => by have h1 := HN2.out h0 b o e; have h2 := (own_lt HRV.out.own e2).2; omega)
            go_upto_region 8 with ((with_reducible show wpList _ _ _ (⟨some 36, _, _, _, _, _⟩ :: _) _ _); go_loud (refine wpList_append_lies _ rfl (.tmp 33) (.tmp 35) 37 rfl w.heap.size 54 iT (.agg #[.int .u8 0, .int .u8 0, .int .u32 0, .int .u64 0, .slice none 0 0]) 5 40 Tryz.underlying37 HI.out.1 HI.out.2.1 HI.out.2.2.1 HI.out.2.2.2 rfl (by decide) (.slice (some ⟨g0, 0, none⟩) (x :: r).length c) (x :: r).length (szC (x :: r)) rfl HRA.out.own ⟨W1.heap.size, 0, none⟩ 1 1 (szV (z, (a2, k2))) rfl rfl HNW.out (fun u hu => szV_one u hu) (by decide) (by unfold maxLen; have := HZK.out; have := HLT.out; omega) (by have := HZK.out; have := HLT.out; omega) (by have := HBV.out.size; have := HBA.out.size; omega) (W1.heap.size + 1) (by simp) ?_; intro g6 c6 w6 ho6 hg6 hl6 hlt6; have HO6 := Lib.hid ho6; have HG6 := Lib.hid hg6; have HL6 := Lib.hid hl6; clear ho6 hg6 hl6 hlt6))
            have HAP := Lib.hid (HRA.out.app HZA.out HPT.out HO6.out HG6.out HL6.out (Nat.le_of_eq (by simp)) (fun h0 b o e => Nat.le_trans HBV.out.size (HN2.out h0 b o e)))
            have HB6 := Lib.hid (show Below w.heap.size w w6 from (HBV.out.trans (HBA.out.mono HBV.out.size)).grown HG6.out (by have := HBV.out.size; have := HBA.out.size; omega) (fun j e => (HRA.out.own.lt j e).1))
            go_wp2_with fail
            go_roundw
            case rel =>
              refine ⟨k + 1, some ⟨g6, 0, none⟩, c6, (x :: r) ++ [(z, (a2, k2))], HLT.out, by go_num, by simp, ?_, HAP.out, by have := HZK.out; simp at this ⊢; omega, HB6.out⟩
              rw [← HSL.out]; show _ = slotF S (16 - k) k (x.1 :: L_ r); rw [slotF_more HLT.out HA.out HGE.out]; simp
            case measure => simp [intOf]; have := HLT.out; omega
          · have qg : (z.g == x.1.g) = false := by rw [beq_eq_false_iff_ne]; exact hge
            have HGE := Lib.hid hge
            have HBW := Lib.hid hbW
            clear hge hzg hxg
            go_quiet (fail)
            go_wp2_with fail
            go_ret
            have hb9 := bt HB2.out (bt HBW.out (below_drewN (Below.refl _ _) nq))
            exact ⟨_, c, x :: r, rfl, by rw [← HSL.out]; exact (slotF_else HLT.out HA.out HGE.out).symm, HRV.out.on hb9, by have := HZK.out; have := HLT.out; omega, bt HBV.out hb9⟩
      · have qE : (E == 0) = false := by rw [beq_eq_false_iff_ne]; exact hE0
        have qE2 : (E != 0) = true := by rw [bne_iff_ne]; exact hE0
        have HA := Lib.hid hA
        clear hE0 hA
        go_upto_region 6 with (go_at_call 33; go_loud (refine HC.out.mono ?_; rintro e w2 ⟨a2, k2, rfl, hx2, hb2, hn2⟩; have HX2 := Lib.hid hx2; have HB2 := Lib.hid hb2; have HN2 := Lib.hid hn2; clear hx2 hb2 hn2))
        go_quiet (fail)
        go_wp2_with fail
        go_ret
        have hb9 := bt HB2.out (below_drewN ((Below.refl _ w2).alloc (Nat.le_refl _) (.cells #[.int .u8 z.m, .int .u8 z.p, .int .u32 z.st, .int .u64 z.g, .slice a2 z.row.length k2] 54)) nq)
        exact ⟨_, c, Z, rfl, by rw [← HSL.out]; exact (slotF_stop HLT.out HA.out).symm, HRV.out.on hb9, by have := HZK.out; have := HLT.out; omega, bt HBV.out hb9⟩
    · obtain rfl : k = 16 := by omega
      go_wp2_with fail
      go_ret
      exact ⟨a, c, Z, rfl, by rw [← HSL.out]; rfl, HRV.out, HZK.out, HBV.out⟩
end Go.Proofs.YtkfdcdfaikkneaaGreatDoor
