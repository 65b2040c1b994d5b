/- Layer 15's law: shares as an argument (ArgS); Of. -/
import Derived.Test.YtkfdcdfaikkneaaGreatDoorXh
import Derived.Test.YtkfdcdfaikkneaaGreatDoorXm
namespace Go.Proofs.YtkfdcdfaikkneaaGreatDoor
open Go.ChangeShapes Go.WideShapes Go.ChangeAt Go.RowKit Go.Shelf
set_option linter.unusedVariables false
set_option linter.unusedSimpArgs false
set_option maxRecDepth 100000
attribute [local go_sem] Oper.semAt_some

/-- Plain shares as an argument: a stripe and a byte each. -/
def ArgS (w : World) (a : Option Addr) (n c : Nat) (L : List (Int × Int)) : Prop :=
  L.length = n ∧ n ≤ c ∧ c ≤ maxLen ∧ (∀ x, x ∈ L → (0 ≤ x.1 ∧ x.1 < 4294967296) ∧ byteI x.2) ∧ (0 < n → ∃ b off, a = some ⟨b, off, none⟩ ∧ b < w.heap.size ∧ ∀ i x, L[i]? = some x → w.cell? ⟨b, off + i * 2, none⟩ = some (.int .u32 x.1) ∧ w.cell? ⟨b, off + i * 2 + 1, none⟩ = some (.int .u8 x.2))
theorem ArgS.on {w w' : World} {a : Option Addr} {n c : Nat} {L : List (Int × Int)} (h : ArgS w a n c L) (hb : Below w.heap.size w w') : ArgS w' a n c L := by
  obtain ⟨h1, h2, h3, h4, h5⟩ := h
  refine ⟨h1, h2, h3, h4, fun h0 => ?_⟩
  obtain ⟨b, off, e, hlt, hc⟩ := h5 h0
  exact ⟨b, off, e, Nat.lt_of_lt_of_le hlt hb.size, fun i x hx => ⟨(hb.cell (p := ⟨b, off + i * 2, none⟩) hlt).trans (hc i x hx).1, (hb.cell (p := ⟨b, off + i * 2 + 1, none⟩) hlt).trans (hc i x hx).2⟩⟩
theorem ArgS.bd {w : World} {a : Option Addr} {n c : Nat} {L : List (Int × Int)} (h : ArgS w a n c L) : n ≤ c ∧ c ≤ 9223372036854775807 := ⟨h.2.1, by have := h.2.2.1; unfold maxLen at this; omega⟩
def rowX (x : Int) : List Int := (List.range 20).map fun i => (x + (i : Nat)) % 256
theorem rowX_len (x : Int) : (rowX x).length = 20 := by simp [rowX]
theorem rowX_B (x : Int) : AllB (rowX x) := fun y hy => by
  obtain ⟨i, _, rfl⟩ := List.mem_map.1 hy; omega
theorem rowX_getD {x : Int} {i : Nat} (h : i < 20) : (rowX x).getD i 0 = (x + (i : Nat)) % 256 := by simp [rowX, List.getD_eq_getElem?_getD, h]
/-- What is told of shares that Of makes. -/
structure OfP (n : Nat) (g p : Int) (L : List SH) : Prop where
  few : L.length ≤ 5 ∧ L.length ≤ n ∧ (0 < n → 0 < L.length)
  each : ∀ s, s ∈ L → s.m = 0 ∧ s.p = p ∧ 0 ≤ s.st ∧ s.st < 6 ∧ s.g = g ∧ s.row.length = 20 ∧ AllB s.row
  one : ∀ (i k : Nat) (s t : SH), L[i]? = some s → L[k]? = some t → s.st = t.st → i = k
theorem OfP.nil (g p : Int) : OfP 0 g p [] := ⟨⟨by simp, by simp, fun h => absurd h (by omega)⟩, fun s h => (by cases h), fun i k s t h => (by simp at h)⟩
theorem OfP.skip {n : Nat} {g p : Int} {L : List SH} (h : OfP n g p L) (h0 : 0 < L.length) : OfP (n + 1) g p L := ⟨⟨h.few.1, by have := h.few.2.1; omega, fun _ => h0⟩, h.each, h.one⟩
theorem OfP.add {n : Nat} {g p x st : Int} {L : List SH} (h : OfP n g p L) (h5 : L.length < 5) (hs : 0 ≤ st ∧ st < 6) (hn : ∀ s, s ∈ L → s.st ≠ st) : OfP (n + 1) g p (L ++ [⟨0, p, st, g, rowX x⟩]) := by
  refine ⟨⟨by simp; omega, by have := h.few.2.1; simp; omega, fun _ => by simp⟩, fun s hs' => ?_, fun i k s t hi hk e => ?_⟩
  · rcases List.mem_append.1 hs' with h1 | h1
    · exact h.each s h1
    · rw [List.mem_singleton.1 h1]; exact ⟨rfl, rfl, hs.1, hs.2, rfl, rowX_len x, rowX_B x⟩
  · rw [List.getElem?_append] at hi hk
    by_cases c1 : i < L.length
    · rw [if_pos c1] at hi
      by_cases c2 : k < L.length
      · rw [if_pos c2] at hk; exact h.one i k s t hi hk e
      · rw [if_neg c2] at hk
        have ht := List.mem_of_getElem? hk
        rw [List.mem_singleton.1 ht] at e
        exact absurd e (hn s (List.mem_of_getElem? hi))
    · rw [if_neg c1] at hi
      by_cases c2 : k < L.length
      · rw [if_pos c2] at hk
        have ht := List.mem_of_getElem? hi
        rw [List.mem_singleton.1 ht] at e
        exact absurd e.symm (hn t (List.mem_of_getElem? hk))
      · rw [if_neg c2] at hk
        have h1 : i - L.length = 0 := by
          rcases Nat.eq_zero_or_pos (i - L.length) with h1 | h1
          · exact h1
          · rw [List.getElem?_eq_none (by show 1 ≤ _; omega)] at hi; cases hi
        have h2 : k - L.length = 0 := by
          rcases Nat.eq_zero_or_pos (k - L.length) with h1 | h1
          · exact h1
          · rw [List.getElem?_eq_none (by show 1 ≤ _; omega)] at hk; cases hk
        omega
theorem OfP.wf {n : Nat} {g p : Int} {L : List SH} (h : OfP n g p L) (hp : byteI p) (hg : genI g) : ∀ s, s ∈ L → s.Wf := fun s hs => by
  obtain ⟨h1, h2, h3, h4, h5, h6, h7⟩ := h.each s hs
  exact ⟨by rw [h1]; exact byteI0, by rw [h2]; exact hp, ⟨h3, by omega⟩, by rw [h5]; exact hg, h7⟩
theorem OfP.ok {n : Nat} {g p : Int} {L : List SH} (h : OfP n g p L) (hp : p ≠ 0) : ∀ s, s ∈ L → s.Ok := fun s hs => by
  obtain ⟨h1, h2, h3, h4, h5, h6, h7⟩ := h.each s hs
  exact ⟨by omega, by rw [h2]; exact hp, by omega⟩
def OfPost (n : Nat) (g p : Int) (w : World) (e : Ending) (w' : World) : Prop := ∃ a c Z, e = .returned (.slice a Z.length c) ∧ OfP n g p (L_ Z) ∧ SlR (w.heap.size + 1) w' a c Z ∧ Below w.heap.size w w'
theorem SlR.off {B : Nat} {w w' : World} {a : Option Addr} {c BM : Nat} {Z : List SZ} (h : SlR B w a c Z) (hg : w.grownBy w' (some BM)) (hB : BM < B) : SlR B w' a c Z := by
  refine ⟨own_blockT h.own (fun g e => ?_), fun z hz => ⟨(h.row z hz).1, (h.row z hz).2.1, (h.row z hz).2.2.blockT (fun h0 b o e => ?_)⟩, h.apart, h.new⟩
  · have := own_lt h.own e
    exact hg.block g this.2 (fun e2 => by cases e2; omega)
  · have h1 := h.new z hz h0 b o e
    obtain ⟨g', o', e', hlt⟩ := arg_new (h.row z hz).2.2 h0
    rw [e] at e'; cases e'
    exact hg.block b hlt (fun e2 => by cases e2; omega)
set_option maxHeartbeats 16000000 in
theorem of15 (a : Option Addr) (n c : Nat) (L : List (Int × Int)) (g p : Int) (w : World) (hL : ArgS w a n c L) (hn : n ≤ 1000) (hp : byteI p) (hg : genI g) :
    Calls Tryz.prog 7 #[.slice a n c, .int .u64 g, .int .u8 p] w (OfPost n g p w) := by
  obtain ⟨iT, hi, hz0, hz1, hz2⟩ := info_parts infoSh
  have HI := Lib.hid (And.intro hi (And.intro hz0 (And.intro hz1 hz2)))
  have HL := Lib.hid hL
  have HLL := Lib.hid hL.1
  have hbd := hL.bd
  have HP := Lib.hid (And.intro hp hg)
  obtain ⟨p0, p1⟩ := hp
  obtain ⟨g0, g1⟩ := hg
  clear hL hi hz0 hz1 hz2
  have hmk : ∀ w, (Instr.makeSlice 23 (.int .i64 20) (.int .i64 20)).run Tryz.prog w = .ok (.slice (some ⟨w.heap.size, 0, none⟩) 20 20) (w.alloc (.cells (madeCells #[.int .u8 0] 20) 5)) := fun w => run_make_row' (P := Tryz.prog) 23 5 (.int .u8 0) 1 Tryz.underlying23 info5 rfl .i64 .i64 20 (by omega) (by omega) w
  have HMK := Lib.hid hmk
  clear hmk
  go_enter Tryz.func7, Tryz.ntmps7
  have hmm := @run_makeMap Tryz.prog
  go_upto_region 2 with fail
  clear hmm
  go_wp2_with fail
  have HM0 := Lib.hid (MapU.made w)
  have HB0 := Lib.hid (show Below w.heap.size w (w.alloc (.map #[] 0)) from (Below.refl _ _).alloc (Nat.le_refl _) _)
  go_loopw [8, 17] (fun v q wr => ∃ (k : Nat) (a1 : Option Addr) (c1 : Nat) (Z : List SZ) (f : Int → Bool), k ≤ n ∧ q = .int .i64 (k : Nat) ∧ v = .slice a1 Z.length c1 ∧ OfP k g p (L_ Z) ∧ SlR (w.heap.size + 1) wr a1 c1 Z ∧ MapU wr w.heap.size k f ∧ (∀ y, f y = true → ∃ s, s ∈ L_ Z ∧ s.st = y) ∧ (∀ s, s ∈ L_ Z → f s.st = true) ∧ Below w.heap.size w wr) (fun _ q _ => n - (intOf q).toNat)
  case atStart => exact ⟨0, none, 0, [], _, Nat.zero_le _, rfl, rfl, OfP.nil _ _, slR_nil _ _, HM0.out, fun y h => (by cases h), fun s h => (by cases h), HB0.out⟩
  case round =>
    obtain ⟨k, a1, c1, Z, f, hk, rfl, rfl, hP, hR, hM, hf1, hf2, hB⟩ := hrel
    rename World => V
    have HPV := Lib.hid hP
    have HRV := Lib.hid hR
    have HMV := Lib.hid hM
    have HFV := Lib.hid (And.intro hf1 hf2)
    have HBV := Lib.hid hB
    clear hP hR hM hf1 hf2 hB HM0 HB0
    by_cases hlt : k < n
    · have HLT := Lib.hid hlt
      obtain ⟨x, hx⟩ : ∃ x, L[k]? = some x := ⟨_, List.getElem?_eq_getElem (by rw [HLL.out]; exact hlt)⟩
      obtain ⟨b, off, rfl, hb, hc⟩ := (HL.out.on HBV.out).2.2.2.2 (by omega)
      obtain ⟨⟨hx0, hx1⟩, hxb⟩ := HL.out.2.2.2.1 x (List.mem_of_getElem? hx)
      obtain ⟨hc0, hc1⟩ := hc k x hx
      obtain ⟨x1, x2⟩ := x
      dsimp only at hx0 hx1 hxb hc0 hc1
      obtain ⟨r, hr⟩ : ∃ r : Nat, r = x1.toNat % 6 := ⟨_, rfl⟩
      have hr1 : x1.tmod 6 = (r : Int) := by rw [Int.tmod_eq_emod_of_nonneg hx0]; omega
      have hr2 : x1 % 6 = (r : Int) := by omega
      have HR6 := Lib.hid (show r < 6 by omega)
      have q1 : (k : Int) < (n : Int) := by omega
      obtain ⟨A, hA⟩ : ∃ A, A = V.alloc (.cells #[.int .u32 x1, .int .u8 x2] 66) := ⟨_, rfl⟩
      have hVA : Below V.heap.size V A := by rw [hA]; exact (Below.refl _ _).alloc (Nat.le_refl _) _
      have HMA := Lib.hid (HMV.out.same (w' := A) (hVA.block _ HMV.out.lt))
      have hlk := HMA.out.look (z := (r : Int)) (by have := HR6.out; omega)
      obtain ⟨fr, hfr⟩ : ∃ fr, fr = f (r : Int) := ⟨_, rfl⟩
      rw [← hfr, hA] at hlk
      have HFR := Lib.hid hfr
      have HVA := Lib.hid (And.intro hA hVA)
      have HXB := Lib.hid hxb
      clear hx hc hb hr hA hVA hfr hlt hxb
      have hzl : Z.length ≤ 5 := by have := HPV.out.few.1; rw [List.length_map] at this; exact this
      cases fr
      · by_cases h5 : Z.length < 5
        · have H5 := Lib.hid h5
          have q5 : (Z.length : Int) < 5 := by omega
          clear h5
          have HKN := Lib.hid (show ∀ s, s ∈ L_ Z → s.st ≠ (r : Int) from fun s hs e => by have h1 := HFV.out.2 s hs; rw [e, ← HFR.out] at h1; cases h1)
          go_upto_region 8 with fail
          rw [← HVA.out.1]
          clear hlk
          have hmkA := HMK.out
          go_upto_region 10 with (at_mapUpdate; go_loud (refine wpList_mapUpdateU _ rfl _ _ _ rfl w.heap.size k f (r : Int) true rfl HMA.out (by unfold maxLen; have := HLT.out; omega) rfl rfl (by have := HR6.out; omega) ?_; intro w5 hm5 hg5; have HM5 := Lib.hid hm5; have HG5 := Lib.hid hg5; clear hm5 hg5))
          clear hmkA
          have HR5 := Lib.hid ((HRV.out.on HVA.out.2).off HG5.out (Nat.lt_succ_self _))
          have HB5 := Lib.hid (show Below w.heap.size w w5 from (HBV.out.trans (HVA.out.2.mono HBV.out.size)).grown HG5.out (by have := HBV.out.size; have := HVA.out.2.size; omega) (fun j e => by cases e; exact Nat.le_refl _))
          have hs5 := HG5.out.size
          have hAl : V.heap.size < A.heap.size := by rw [HVA.out.1]; simp
          have hcx5 : w5.cell? ⟨V.heap.size, 1, none⟩ = some (.int .u8 x2) := by
            have h1 : A.cell? ⟨V.heap.size, 1, none⟩ = some (.int .u8 x2) := by rw [HVA.out.1, cell_of_row _ V.heap.size 1 _ _ _ (heap_alloc_new V _)]; rfl
            exact (World.cell?_of_block (w := A) (a := ⟨V.heap.size, 1, none⟩) (HG5.out.block V.heap.size hAl (fun e => by have := Option.some.inj e; have := HMV.out.lt; omega))).trans h1
          have HC5 := Lib.hid hcx5
          have HV5 := Lib.hid (show V.heap.size < w5.heap.size by omega)
          clear hcx5 hAl hs5
          obtain ⟨G, hG⟩ : ∃ G, G = w5.heap.size := ⟨_, rfl⟩
          have HO0 := Lib.hid (own_made (w := w5) (e := 5) (n := 20) (by unfold maxLen; omega))
          have HBG := Lib.hid (show Below w5.heap.size w5 (w5.alloc (.cells (madeCells #[.int .u8 0] 20) 5)) from (Below.refl _ _).alloc (Nat.le_refl _) _)
          obtain ⟨U0, hU0⟩ : ∃ U0, U0 = w5.alloc (.cells (madeCells #[.int .u8 0] 20) 5) := ⟨_, rfl⟩
          rw [← hU0] at HO0 HBG ⊢
          rw [← hG] at HO0 HBG HV5 ⊢
          have HGG := Lib.hid hG
          clear hU0 hG
          go_wp2_with fail
          go_loopw [38] (fun q wr => ∃ i : Nat, i ≤ 20 ∧ q = .int .i64 (i : Nat) ∧ wr.ownsRow G 5 1 (.slice (some ⟨G, 0, none⟩) 20 20) 20 ((part (rowX x2) i).map (Value.int .u8)) ∧ Below G w5 wr) (fun q _ => 20 - (intOf q).toNat)
          case atStart => exact ⟨0, Nat.zero_le _, rfl, by rw [part_zero, rowX_len]; exact HO0.out, HBG.out⟩
          case round =>
            obtain ⟨i, hi, rfl, hown, hbel⟩ := hrel
            rename World => U
            have HOU := Lib.hid hown
            have HBU := Lib.hid hbel
            clear hown hbel HO0 HBG
            by_cases hlt : i < 20
            · have HLI := Lib.hid hlt
              have hcl := own_cells HOU.out i hlt
              rw [Nat.zero_add] at hcl
              have hfz := HOU.out.frozenAt i
              obtain ⟨X, hX⟩ : ∃ X, X = (part (rowX x2) i).getD i 0 := ⟨_, rfl⟩
              rw [← hX] at hcl
              have hcx : U.cell? ⟨V.heap.size, 1, none⟩ = some (.int .u8 x2) := (HBU.out.cell (p := ⟨V.heap.size, 1, none⟩) HV5.out).trans HC5.out
              have qi : (i : Int) < 20 := by omega
              have hw1 : IntKind.u8.wrap (i : Int) = (i : Int) := by rw [IntKind.wrap_u8]; omega
              have HVV := Lib.hid (show IntKind.u8.wrap (x2 + (i : Int)) = (rowX x2).getD i 0 by rw [rowX_getD hlt, IntKind.wrap_u8])
              have hx2 := HXB.out.1
              have hx3 := HXB.out.2
              clear hX hlt
              go_wp2_with fail
              go_roundw
              case rel =>
                refine ⟨i + 1, HLI.out, by go_num, ?_, HBU.out.setCell (Nat.le_refl _) _⟩
                rw [← rowX_getD HLI.out]
                exact part_set_own (rowX_len x2) HLI.out HOU.out
              case measure => simp [intOf]; have := HLI.out; omega
            · obtain rfl : i = 20 := by omega
              have hOF : U.ownsRow G 5 1 (.slice (some ⟨G, 0, none⟩) 20 20) 20 ((rowX x2).map (Value.int .u8)) := by
                have h := HOU.out
                rw [← part_all (rowX x2), rowX_len]; exact h
              have HXU := Lib.hid (arg_own hOF (rowX_B x2))
              have HGU := Lib.hid (own_lt hOF rfl).2
              have HRU := Lib.hid (HR5.out.on (by rw [← HGG.out]; exact HBU.out))
              obtain ⟨s, hs⟩ : ∃ s : SH, s = ⟨0, p, (r : Int), g, rowX x2⟩ := ⟨_, rfl⟩
              have HS := Lib.hid hs
              have HBA := Lib.hid (show Below U.heap.size U (U.alloc (.cells #[.int .u8 0, .int .u8 p, .int .u32 (r : Int), .int .u64 g, .slice (some ⟨G, 0, none⟩) 20 20] 54)) from (Below.refl _ _).alloc (Nat.le_refl _) _)
              have HRA := Lib.hid (HRU.out.on HBA.out)
              have HNW := Lib.hid (World.news_of_block (heap_alloc_new U (.cells #[.int .u8 0, .int .u8 p, .int .u32 (r : Int), .int .u64 g, .slice (some ⟨G, 0, none⟩) 20 20] 54)))
              have HZA := Lib.hid (show s.Wf ∧ s.row.length ≤ 500 ∧ Arg8c (U.alloc (.cells #[.int .u8 0, .int .u8 p, .int .u32 (r : Int), .int .u64 g, .slice (some ⟨G, 0, none⟩) 20 20] 54)) (some ⟨G, 0, none⟩) s.row.length 20 s.row from by
                rw [hs]
                exact ⟨⟨byteI0, HP.out.1, ⟨Int.natCast_nonneg _, by have := HR6.out; show (r : Int) < _; omega⟩, HP.out.2, rowX_B x2⟩, by show (rowX x2).length ≤ 500; rw [rowX_len]; omega, by show Arg8c _ _ (rowX x2).length 20 (rowX x2); rw [rowX_len]; exact HXU.out.onV HBA.out⟩)
              have HPT := Lib.hid (show 0 < s.row.length → ∀ b o, some (⟨G, 0, none⟩ : Addr) = some ⟨b, o, none⟩ → (Value.slice a1 Z.length c1).ownBlock ≠ some b from fun _ b o e e2 => by cases e; have := (own_lt HR5.out.own e2).2; have := HGG.out; omega)
              have HB6 := Lib.hid (show Below w.heap.size w (U.alloc (.cells #[.int .u8 0, .int .u8 p, .int .u32 (r : Int), .int .u64 g, .slice (some ⟨G, 0, none⟩) 20 20] 54)) from bt HB5.out (bt (by rw [← HGG.out]; exact HBU.out) HBA.out))
              have HSZ := Lib.hid (show w.heap.size < G by rw [HGG.out]; have := HM5.out.lt; exact this)
              have HZL := Lib.hid (show Z.length ≤ 5 from hzl)
              have HSU := Lib.hid (show G < U.heap.size from HGU.out)
              clear hOF hs
              go_upto_region 16 with ((with_reducible show wpList _ _ _ (⟨some 57, _, _, _, _, _⟩ :: _) _ _); go_loud (refine wpList_append_lies _ rfl (.tmp 50) (.tmp 56) 37 rfl (w.heap.size + 1) 54 iT (.agg #[.int .u8 0, .int .u8 0, .int .u32 0, .int .u64 0, .slice none 0 0]) 5 40 Tryz.underlying37 HI.out.1 HI.out.2.1 HI.out.2.2.1 HI.out.2.2.2 rfl (by decide) (.slice a1 Z.length c1) Z.length (szC Z) rfl HRA.out.own ⟨U.heap.size, 0, none⟩ 1 1 [.int .u8 0, .int .u8 p, .int .u32 (r : Int), .int .u64 g, .slice (some ⟨G, 0, none⟩) 20 20] rfl rfl HNW.out (fun u hu => szV_one (z := (⟨0, p, (r : Int), g, rowX x2⟩, (some ⟨G, 0, none⟩, 20))) u (by unfold szV; dsimp only; rw [rowX_len]; exact hu)) (by decide) (by unfold maxLen; have := HZL.out; omega) (by have := HZL.out; omega) (by have := HSZ.out; have := HSU.out; simp; omega) (U.heap.size + 1) (by simp) ?_; intro g6 c6 w6 ho6 hg6 hl6 hlt6; have HO6 := Lib.hid ho6; have HG6 := Lib.hid hg6; have HL6 := Lib.hid hl6; clear ho6 hg6 hl6 hlt6))
              have HAP := Lib.hid (HRA.out.app (z := (s, (some ⟨G, 0, none⟩, 20))) HZA.out HPT.out (by rw [HS.out]; unfold szV; dsimp only; rw [rowX_len]; exact HO6.out) HG6.out HL6.out (Nat.le_of_eq (by simp)) (fun _ b o e => by cases e; exact HSZ.out))
              have HB7 := Lib.hid (show Below w.heap.size w w6 from HB6.out.grown HG6.out HB6.out.size (fun j e => by have := (HRA.out.own.lt j e).1; omega))
              have HM6 := Lib.hid (show MapU w6 w.heap.size (k + 1) (putU f (r : Int) true) from HM5.out.same (by
                have h1 : w.heap.size < w5.heap.size := HM5.out.lt
                have h2 : (U.alloc (.cells #[.int .u8 0, .int .u8 p, .int .u32 (r : Int), .int .u64 g, .slice (some ⟨G, 0, none⟩) 20 20] 54)).heap[w.heap.size]? = w5.heap[w.heap.size]? := (HBA.out.block _ (by have := HSU.out; have := HSZ.out; omega)).trans (HBU.out.block _ HSZ.out)
                exact (HG6.out.block w.heap.size (by simp; have := HSU.out; have := HSZ.out; omega) (fun e => by have := (HRA.out.own.lt _ e.symm).1; omega)).trans h2))
              go_wp2_with fail
              go_roundw
              case rel =>
                refine ⟨k + 1, some ⟨g6, 0, none⟩, c6, Z ++ [(s, (some ⟨G, 0, none⟩, 20))], putU f (r : Int) true, HLT.out, by go_num, by simp, ?_, HAP.out, HM6.out, fun y hy => ?_, fun t ht => ?_, HB7.out⟩
                · show OfP (k + 1) g p (List.map Prod.fst (Z ++ [(s, _)]))
                  rw [List.map_append, HS.out]
                  exact HPV.out.add (by rw [List.length_map]; exact H5.out) ⟨Int.natCast_nonneg _, by have := HR6.out; omega⟩ HKN.out
                · unfold putU at hy
                  by_cases e : y = (r : Int)
                  · exact ⟨s, by simp, by rw [HS.out, e]⟩
                  · rw [if_neg e] at hy
                    obtain ⟨t, ht, e2⟩ := HFV.out.1 y hy
                    exact ⟨t, by
                      show t ∈ List.map Prod.fst (Z ++ [(s, _)])
                      rw [List.map_append]; exact List.mem_append_left _ ht, e2⟩
                · have ht2 : t ∈ List.map Prod.fst Z ++ [s] := by
                    have h1 : t ∈ List.map Prod.fst (Z ++ [(s, ((some ⟨G, 0, none⟩ : Option Addr), 20))]) := ht
                    rw [List.map_append] at h1; exact h1
                  unfold putU
                  by_cases e : t.st = (r : Int)
                  · rw [if_pos e]
                  · rw [if_neg e]
                    rcases List.mem_append.1 ht2 with h1 | h1
                    · exact HFV.out.2 t h1
                    · rw [List.mem_singleton.1 h1, HS.out] at e; exact absurd rfl e
              case measure => simp [intOf]; have := HLT.out; omega
        · have q5 : ¬ (Z.length : Int) < 5 := by omega
          have HZ5 := Lib.hid (show 0 < (L_ Z).length by rw [List.length_map]; omega)
          clear h5
          go_wp2_with fail
          go_roundw
          case rel => exact ⟨k + 1, a1, c1, Z, f, HLT.out, by go_num, rfl, HPV.out.skip HZ5.out, HRV.out.on (HVA.out.1 ▸ HVA.out.2), (HVA.out.1 ▸ HMA.out.more (Nat.le_succ _)), HFV.out.1, HFV.out.2, bt HBV.out (HVA.out.1 ▸ HVA.out.2)⟩
          case measure => simp [intOf]; have := HLT.out; omega
      · have HZ5 := Lib.hid (show 0 < (L_ Z).length from by
          obtain ⟨s, hs, _⟩ := HFV.out.1 _ HFR.out.symm
          exact List.length_pos_of_mem hs)
        go_wp2_with fail
        go_roundw
        case rel => exact ⟨k + 1, a1, c1, Z, f, HLT.out, by go_num, rfl, HPV.out.skip HZ5.out, HRV.out.on (HVA.out.1 ▸ HVA.out.2), (HVA.out.1 ▸ HMA.out.more (Nat.le_succ _)), HFV.out.1, HFV.out.2, bt HBV.out (HVA.out.1 ▸ HVA.out.2)⟩
        case measure => simp [intOf]; have := HLT.out; omega
    · obtain rfl : k = n := by omega
      go_wp2_with fail
      go_ret
      exact ⟨a1, c1, Z, rfl, HPV.out, HRV.out, HBV.out⟩
end Go.Proofs.YtkfdcdfaikkneaaGreatDoor
