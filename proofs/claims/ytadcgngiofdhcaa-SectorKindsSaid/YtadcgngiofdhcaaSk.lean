/- SectorKinds, for any words in package hash's tables. -/
import Derived.Test.YtadcgngiofdhcaaIy
import Derived.Test.YtadcgngiofdhcaaIr
import Derived.Test.YtadcgngiofdhcaaZero
namespace Go.Proofs.Ytadcgngiofdhcaa
open Go.ChangeShapes Go.WideShapes Go.ChangeAt Go.RowKit Go.Shelf
set_option linter.unusedVariables false
set_option linter.unusedSimpArgs false
set_option maxRecDepth 100000
attribute [local go_sem] Oper.semAt_some

/-! ## plain: a sector's kind is told by its first bytes -/
theorem share_mark {b : List Int} : pshE b = 3 ∨ (pshE b = 0 ∧ b.getD 0 0 = 76 ∧ b.getD 1 0 = 83) := by
  unfold pshE
  cases h : psh b with
  | none => exact .inl rfl
  | some s =>
    refine .inr ⟨rfl, ?_⟩
    obtain ⟨_, _, _, hB, _⟩ := psh_some h
    obtain ⟨r, hr⟩ := s.tail
    rw [← hB, hr]
    exact ⟨rfl, rfl⟩
theorem commit_mark {b : List Int} : pcmE b = 3 ∨ (pcmE b = 0 ∧ b.getD 0 0 = 76 ∧ b.getD 1 0 = 67) := by
  unfold pcmE
  cases h : pcm b with
  | none => exact .inl rfl
  | some c =>
    refine .inr ⟨rfl, ?_⟩
    obtain ⟨_, _, hB, _⟩ := pcm_some h
    rw [← hB]
    unfold CM.B szL
    exact ⟨rfl, rfl⟩
theorem super_mark [Inhabited Tbl] {b : List Int} : psuE b = 3 ∨ (psuE b = 0 ∧ b.getD 0 0 = 76 ∧ b.getD 1 0 = 85) := by
  unfold psuE
  cases h : psu b with
  | none => exact .inl rfl
  | some s =>
    refine .inr ⟨rfl, ?_⟩
    unfold psu at h
    split at h
    · rename_i hc
      obtain ⟨r, hr⟩ := (psuR b).B_split
      rw [← hc.2.2, hr]
      exact ⟨rfl, rfl⟩
    · cases h
/-- At most one kind; if one, no noughts. -/
theorem kinds [Inhabited Tbl] (b : List Int) : (pshE b = 3 ∧ psuE b = 3 ∧ pcmE b = 3) ∨ (((pshE b = 0 ∧ psuE b = 3 ∧ pcmE b = 3) ∨ (pshE b = 3 ∧ psuE b = 0 ∧ pcmE b = 3) ∨ (pshE b = 3 ∧ psuE b = 3 ∧ pcmE b = 0)) ∧ b.getD 0 0 = 76) := by
  rcases share_mark (b := b) with h1 | ⟨h1, h1a, h1b⟩ <;> rcases super_mark (b := b) with h2 | ⟨h2, h2a, h2b⟩ <;> rcases commit_mark (b := b) with h3 | ⟨h3, h3a, h3b⟩
  · exact .inl ⟨h1, h2, h3⟩
  · exact .inr ⟨.inr (.inr ⟨h1, h2, h3⟩), h3a⟩
  · exact .inr ⟨.inr (.inl ⟨h1, h2, h3⟩), h2a⟩
  · omega
  · exact .inr ⟨.inl ⟨h1, h2, h3⟩, h1a⟩
  · omega
  · omega
  · omega
theorem zeroL_76 {b : List Int} (h : b.getD 0 0 = 76) : zeroL b = false := by
  have hl : 0 < b.length := by
    rcases Nat.eq_zero_or_pos b.length with h0 | h0
    · rw [List.eq_nil_of_length_eq_zero h0] at h; simp at h
    · exact h0
  exact zeroL_false hl (by rw [h]; omega)
theorem blank_any (a : Option Addr) (n c : Nat) (l : List Int) (w : World) (hl : l.length = n) (hb : Bs w w.heap.size a l) (hn : n ≤ 9223372036854775807) :
    Calls Try.prog 11 #[.slice a n c] w fun e w' => e = .returned (.bool (zeroL l)) ∧ w = w' := by
  have HZ := Lib.hid (zero_any a n c l w hl hb hn)
  obtain ⟨r, hr⟩ : ∃ r, r = zeroL l := ⟨_, rfl⟩
  rw [← hr] at HZ ⊢
  clear hr hb
  go_enter Try.func11, Try.ntmps11
  go_wp2_with (go_at_call 30; go_loud (refine HZ.out.mono ?_; rintro e w1 ⟨rfl, rfl⟩))
  go_ret
  exact ⟨rfl, rfl⟩
/-- How many of the first j of three are OK. -/
def cnt3 (x y z : Int) (j : Nat) : Int := (if 0 < j ∧ x = 0 then 1 else 0) + (if 1 < j ∧ y = 0 then 1 else 0) + (if 2 < j ∧ z = 0 then 1 else 0)
theorem shareC (a : Option Addr) (n k : Nat) (b : List Int) (w : World) (hx : Arg8c w a n k b) (hn : n ≤ 600) :
    Calls Try.prog 8 #[.slice a n k] w fun e w' => ∃ x0 x1 x2 x3 v0 v1 v2, e = .returned (.tuple #[.agg #[.int .u8 x0, .int .u8 x1, .int .u32 x2, .int .u64 x3, .slice v0 v1 v2], .int .i64 (pshE b)]) ∧ Below w.heap.size w w' :=
  (parseShare_any a n k b w hx hn).mono fun _ _ ⟨_, _, h1, _, h2⟩ => ⟨_, _, _, _, _, _, _, h1, h2⟩
theorem commitC (a : Option Addr) (n k : Nat) (b : List Int) (w : World) (hx : Arg8c w a n k b) (hn : n ≤ 600) :
    Calls Try.prog 10 #[.slice a n k] w fun e w' => ∃ x0 x1 x2, e = .returned (.tuple #[.agg #[.int .u8 x0, .int .u8 x1, .int .u64 x2], .int .i64 (pcmE b)]) ∧ Below w.heap.size w w' :=
  (parseCommit_any a n k b w hx hn).mono fun _ _ ⟨h1, h2⟩ => ⟨_, _, _, h1, h2⟩
theorem superC [Inhabited Tbl] (a : Option Addr) (n k : Nat) (b : List Int) (w : World) (hx : Arg8c w a n k b) (hn : n ≤ 600) (hG : Gl w) :
    Calls Try.prog 9 #[.slice a n k] w fun e w' => ∃ cs : Array Value, e = .returned (.tuple #[.agg cs, .int .i64 (psuE b)]) ∧ cs.size = 276 ∧ cs.all (·.oneCell') = true ∧ Below w.heap.size w w' :=
  (parseSuper_any a n k b w hx hn hG).mono fun _ _ ⟨h1, h2⟩ => ⟨_, h1, size_tabV _ _, tabV_one (suV_one _), h2⟩
set_option maxHeartbeats 8000000 in
theorem sectorKinds_any [Inhabited Tbl] (a : Option Addr) (L k : Nat) (whole : Bool) (w : World) (w0 : ∃ b, Arg8c w a L k b) (hG : Gl w) :
    Calls Try.prog 3 #[.slice a L k, .bool whole] w fun e w' => e = .returned (.bool true) ∧ Below w.heap.size w w' := by
  obtain ⟨b, hb⟩ := w0
  have HLV := Lib.hid (show ∀ W, Below w.heap.size w W → Calls Try.prog 6 #[] W fun e w' => e = .returned (.bool true) ∧ Below w.heap.size w w' from fun W hW => (lives14 commitBytes_any W).mono fun e w' h => ⟨h.1, bt hW h.2⟩)
  have hkb := hb.1.2.2.2
  unfold maxLen at hkb
  have HA := Lib.hid hb
  have HG := Lib.hid hG
  clear hb hG
  obtain ⟨hz, hi⟩ := zero_of_info infoSu
  obtain ⟨c0, hc0⟩ : ∃ s, s = tabV 276 (suV suZ) := ⟨_, rfl⟩
  rw [← hc0] at hz
  have HC0 := Lib.hid hc0
  clear hc0 hi
  by_cases hL : L ≤ 600
  case neg =>
    have q : ¬ (L : Int) ≤ 600 := by omega
    go_enter Try.func3, Try.ntmps3
    go_wp2_with (first
      | (go_at_call 6; go_loud (refine (HLV.out _ HB1.out).mono ?_; rintro e w2 ⟨rfl, hb2⟩; have HB2 := Lib.hid hb2; clear hb2))
      | (go_at_call 6; go_loud (refine (HLV.out _ (Below.refl _ _)).mono ?_; rintro e w1 ⟨rfl, hb1⟩; have HB1 := Lib.hid hb1; clear hb1)))
    go_ret
    exact ⟨rfl, HB2.out⟩
  case pos =>
    have q : (L : Int) ≤ 600 := by omega
    go_enter Try.func3, Try.ntmps3
    cases whole with
    | false =>
      go_upto_region 5 with (go_at_call 6; go_loud (refine (HLV.out _ (Below.refl _ _)).mono ?_; rintro e w1 ⟨rfl, hb1⟩; have HB1 := Lib.hid hb1; clear hb1))
      have HBW := HB1
      have HXW := HA.out.onV HB1.out
      have HS := Lib.hid (shareC a L k b w1 HXW hL)
      have HU := Lib.hid (superC a L k b)
      have HM := Lib.hid (commitC a L k b)
      have HX := Lib.hid HXW
      obtain ⟨e1, h1⟩ : ∃ e, e = pshE b := ⟨_, rfl⟩
      obtain ⟨e2, h2⟩ : ∃ e, e = psuE b := ⟨_, rfl⟩
      obtain ⟨e3, h3⟩ : ∃ e, e = pcmE b := ⟨_, rfl⟩
      have hkd := kinds b
      rw [← h1] at HS hkd
      rw [← h2] at HU hkd
      rw [← h3] at HM hkd
      have HKD := Lib.hid hkd
      have HLL := Lib.hid hL
      clear h1 h2 h3 hkd
      go_upto_region 6 with (go_at_call 8; go_loud (refine HS.out.mono ?_; rintro e wA ⟨x0, x1, x2, x3, v0, v1, v2, rfl, hb⟩; have HBA := Lib.hid (bt HBW.out hb); have HXA := Lib.hid (HX.out.onV hb); clear hb))
      obtain ⟨wB, hwB⟩ : ∃ W, W = wA.alloc (.cells #[.int .u8 x0, .int .u8 x1, .int .u32 x2, .int .u64 x3, .slice v0 v1 v2] 28) := ⟨_, rfl⟩
      rw [← hwB]
      have hbB : Below wA.heap.size wA wB := by rw [hwB]; exact (Below.refl _ _).alloc (Nat.le_refl _) _
      have HBB := Lib.hid (bt HBA.out hbB)
      have HXB := Lib.hid (HXA.out.onV hbB)
      clear hwB hbB
      go_upto_region 7 with (first
        | (go_at_call 9; go_loud (refine (HU.out wB HXB.out HLL.out (HG.out.on HBB.out HG.out.1)).mono ?_; rintro e wC ⟨cs, rfl, hcs, hone, hb⟩; have HCS := Lib.hid (And.intro hcs hone); have HBC := Lib.hid (bt HBB.out hb); have HXC := Lib.hid (HXB.out.onV hb); clear hb hcs hone))
        | ((with_reducible show wpList _ _ _ (⟨none, _, _, _, _, _⟩ :: _) _ _); go_loud (refine wpList_store_row rfl 35 (.tmp 7) (.tmp 33) rfl wC.heap.size cs rfl rfl 35 c0 (heap_alloc_new wC _) (by rw [HCS.out.1]; exact sizeSu) (by rw [HC0.out, HCS.out.1, size_tabV]) HCS.out.2 ?_)))
      have HBD := Lib.hid (show Below w.heap.size w ((wC.alloc (.cells c0 35)).setRow wC.heap.size cs) from below_setRow (HBC.out.alloc HBC.out.size _) HBC.out.size _)
      have HXD := Lib.hid (show Arg8c ((wC.alloc (.cells c0 35)).setRow wC.heap.size cs) a L k b from HXC.out.onV (below_setRow ((Below.refl _ _).alloc (Nat.le_refl _) _) (Nat.le_refl _) _))
      generalize (wC.alloc (.cells c0 35)).setRow wC.heap.size cs = wD at HBD HXD ⊢
      go_upto_region 8 with (go_at_call 10; go_loud (refine (HM.out wD HXD.out HLL.out).mono ?_; rintro e wE ⟨y0, y1, y2, rfl, hb⟩; have HBE := Lib.hid (bt HBD.out hb); have HXE := Lib.hid (HXD.out.onV hb); clear hb))
      obtain ⟨wF, hwF⟩ : ∃ W, W = wE.alloc (.cells #[.int .u8 y0, .int .u8 y1, .int .u64 y2] 39) := ⟨_, rfl⟩
      rw [← hwF]
      have hbF : Below wE.heap.size wE wF := by rw [hwF]; exact (Below.refl _ _).alloc (Nat.le_refl _) _
      have HBF := Lib.hid (bt HBE.out hbF)
      have HXF := Lib.hid (HXE.out.onV hbF)
      clear hwF hbF
      go_upto_region 10 with fail
      obtain ⟨gI, hgI⟩ : ∃ g, g = wF.heap.size := ⟨_, rfl⟩
      obtain ⟨wG, hwG⟩ : ∃ W, W = wF.alloc (.cells #[.int .i64 e1, .int .i64 e2, .int .i64 e3] 29) := ⟨_, rfl⟩
      have hrG : wG.heap[gI]? = some (.cells #[.int .i64 e1, .int .i64 e2, .int .i64 e3] 29 (0, 0)) := by rw [hwG, hgI]; exact heap_alloc_new wF _
      rw [← hwG, ← hgI]
      have hbG : Below wF.heap.size wF wG := by rw [hwG]; exact (Below.refl _ _).alloc (Nat.le_refl _) _
      have HBG := Lib.hid (bt HBF.out hbG)
      have HXG := Lib.hid (HXF.out.onV hbG)
      obtain ⟨d0, d1, d2⟩ := cell3 hrG
      clear hwG hbG hrG hgI
      have hE : (e1 = 0 ∨ e1 = 3) ∧ (e2 = 0 ∨ e2 = 3) ∧ (e3 = 0 ∨ e3 = 3) := by have := HKD.out; omega
      go_loop [11, 45] (fun nv iv => ∃ j : Nat, j ≤ 3 ∧ iv = .int .i64 (j : Nat) ∧ nv = .int .i64 (cnt3 e1 e2 e3 j)) (fun _ iv => 3 - (intOf iv).toNat)
      case atStart => exact ⟨0, by omega, rfl, by simp [cnt3]⟩
      case round =>
        obtain ⟨j, hj, rfl, rfl⟩ := hrel
        obtain ⟨cn, hcn⟩ : ∃ c, c = cnt3 e1 e2 e3 j := ⟨_, rfl⟩
        have hcb : 0 ≤ cn ∧ cn ≤ 3 := by rw [hcn]; unfold cnt3; repeat' split <;> omega
        have HCN := Lib.hid hcn
        rw [← hcn]
        clear hcn
        by_cases hlt : j < 3
        · rcases (show j = 0 ∨ j = 1 ∨ j = 2 by omega) with rfl | rfl | rfl
          · rcases hE.1 with h0 | h0 <;> subst h0
            · go_wp2
              go_round
              case rel => exact ⟨1, by omega, by go_num, by rw [HCN.out]; simp [cnt3]⟩
              case measure => simp [intOf]
            · go_wp2
              go_round
              case rel => exact ⟨1, by omega, by go_num, by rw [HCN.out]; simp [cnt3]⟩
              case measure => simp [intOf]
          · rcases hE.2.1 with h0 | h0 <;> subst h0
            · go_wp2
              go_round
              case rel => exact ⟨2, by omega, by go_num, by rw [HCN.out]; simp [cnt3]⟩
              case measure => simp [intOf]
            · go_wp2
              go_round
              case rel => exact ⟨2, by omega, by go_num, by rw [HCN.out]; simp [cnt3]⟩
              case measure => simp [intOf]
          · rcases hE.2.2 with h0 | h0 <;> subst h0
            · go_wp2
              go_round
              case rel => exact ⟨3, by omega, by go_num, by rw [HCN.out]; simp [cnt3]⟩
              case measure => simp [intOf]
            · go_wp2
              go_round
              case rel => exact ⟨3, by omega, by go_num, by rw [HCN.out]; simp [cnt3]⟩
              case measure => simp [intOf]
        · obtain rfl : j = 3 := by omega
          have HBL := Lib.hid (blank_any a L k b wG HXG.out.1.1 HXG.out.1.2.2.1 (by have := HLL.out; omega))
          by_cases hc0 : cn = 0
          · subst hc0
            go_wp2
            go_ret
            exact ⟨rfl, HBG.out⟩
          · have hk := HKD.out
            have hz76 : zeroL b = false := by
              refine zeroL_76 ?_
              rcases hk with ⟨h1, h2, h3⟩ | ⟨_, h⟩
              · exact absurd (by rw [HCN.out, h1, h2, h3]; rfl) hc0
              · exact h
            have hc1 : cn = 1 := by
              rw [HCN.out]
              rcases hk with ⟨h1, h2, h3⟩ | ⟨⟨h1, h2, h3⟩ | ⟨h1, h2, h3⟩ | ⟨h1, h2, h3⟩, _⟩
              · exact absurd (by rw [HCN.out, h1, h2, h3]; rfl) hc0
              all_goals (rw [h1, h2, h3]; rfl)
            rw [hz76] at HBL
            subst hc1
            clear hk hz76 hc0
            go_wp2_with (go_at_call 11; go_loud (refine HBL.out.mono ?_; rintro e w2 ⟨rfl, rfl⟩))
            go_ret
            exact ⟨rfl, HBG.out⟩
    | true =>
      go_upto_region 5 with (first
        | (go_at_call 6; go_loud (refine (HLV.out _ (Below.refl _ _)).mono ?_; rintro e w1 ⟨rfl, hb1⟩; have HB1 := Lib.hid hb1; clear hb1))
        | (go_at_call 7; go_loud (refine (made_any a L k b w1 (HA.out.onV HB1.out)).mono ?_; rintro e wM ⟨gM, rfl, hm, -, hb⟩; have HBW := Lib.hid (bt HB1.out hb); have HXW := Lib.hid hm; clear hm hb)))
      have HS := Lib.hid (shareC (some ⟨gM, 0, none⟩) 512 512 (madeL b) wM HXW.out (show 512 ≤ 600 by omega))
      have HU := Lib.hid (superC (some ⟨gM, 0, none⟩) 512 512 (madeL b))
      have HM := Lib.hid (commitC (some ⟨gM, 0, none⟩) 512 512 (madeL b))
      have HX := Lib.hid HXW.out
      obtain ⟨e1, h1⟩ : ∃ e, e = pshE (madeL b) := ⟨_, rfl⟩
      obtain ⟨e2, h2⟩ : ∃ e, e = psuE (madeL b) := ⟨_, rfl⟩
      obtain ⟨e3, h3⟩ : ∃ e, e = pcmE (madeL b) := ⟨_, rfl⟩
      have hkd := kinds (madeL b)
      rw [← h1] at HS hkd
      rw [← h2] at HU hkd
      rw [← h3] at HM hkd
      have HKD := Lib.hid hkd
      have HLL := Lib.hid (show 512 ≤ 600 by omega)
      clear h1 h2 h3 hkd
      go_upto_region 6 with (go_at_call 8; go_loud (refine HS.out.mono ?_; rintro e wA ⟨x0, x1, x2, x3, v0, v1, v2, rfl, hb⟩; have HBA := Lib.hid (bt HBW.out hb); have HXA := Lib.hid (HX.out.onV hb); clear hb))
      obtain ⟨wB, hwB⟩ : ∃ W, W = wA.alloc (.cells #[.int .u8 x0, .int .u8 x1, .int .u32 x2, .int .u64 x3, .slice v0 v1 v2] 28) := ⟨_, rfl⟩
      rw [← hwB]
      have hbB : Below wA.heap.size wA wB := by rw [hwB]; exact (Below.refl _ _).alloc (Nat.le_refl _) _
      have HBB := Lib.hid (bt HBA.out hbB)
      have HXB := Lib.hid (HXA.out.onV hbB)
      clear hwB hbB
      go_upto_region 7 with (first
        | (go_at_call 9; go_loud (refine (HU.out wB HXB.out HLL.out (HG.out.on HBB.out HG.out.1)).mono ?_; rintro e wC ⟨cs, rfl, hcs, hone, hb⟩; have HCS := Lib.hid (And.intro hcs hone); have HBC := Lib.hid (bt HBB.out hb); have HXC := Lib.hid (HXB.out.onV hb); clear hb hcs hone))
        | ((with_reducible show wpList _ _ _ (⟨none, _, _, _, _, _⟩ :: _) _ _); go_loud (refine wpList_store_row rfl 35 (.tmp 7) (.tmp 33) rfl wC.heap.size cs rfl rfl 35 c0 (heap_alloc_new wC _) (by rw [HCS.out.1]; exact sizeSu) (by rw [HC0.out, HCS.out.1, size_tabV]) HCS.out.2 ?_)))
      have HBD := Lib.hid (show Below w.heap.size w ((wC.alloc (.cells c0 35)).setRow wC.heap.size cs) from below_setRow (HBC.out.alloc HBC.out.size _) HBC.out.size _)
      have HXD := Lib.hid (show Arg8c ((wC.alloc (.cells c0 35)).setRow wC.heap.size cs) (some ⟨gM, 0, none⟩) 512 512 (madeL b) from HXC.out.onV (below_setRow ((Below.refl _ _).alloc (Nat.le_refl _) _) (Nat.le_refl _) _))
      generalize (wC.alloc (.cells c0 35)).setRow wC.heap.size cs = wD at HBD HXD ⊢
      go_upto_region 8 with (go_at_call 10; go_loud (refine (HM.out wD HXD.out HLL.out).mono ?_; rintro e wE ⟨y0, y1, y2, rfl, hb⟩; have HBE := Lib.hid (bt HBD.out hb); have HXE := Lib.hid (HXD.out.onV hb); clear hb))
      obtain ⟨wF, hwF⟩ : ∃ W, W = wE.alloc (.cells #[.int .u8 y0, .int .u8 y1, .int .u64 y2] 39) := ⟨_, rfl⟩
      rw [← hwF]
      have hbF : Below wE.heap.size wE wF := by rw [hwF]; exact (Below.refl _ _).alloc (Nat.le_refl _) _
      have HBF := Lib.hid (bt HBE.out hbF)
      have HXF := Lib.hid (HXE.out.onV hbF)
      clear hwF hbF
      go_upto_region 10 with fail
      obtain ⟨gI, hgI⟩ : ∃ g, g = wF.heap.size := ⟨_, rfl⟩
      obtain ⟨wG, hwG⟩ : ∃ W, W = wF.alloc (.cells #[.int .i64 e1, .int .i64 e2, .int .i64 e3] 29) := ⟨_, rfl⟩
      have hrG : wG.heap[gI]? = some (.cells #[.int .i64 e1, .int .i64 e2, .int .i64 e3] 29 (0, 0)) := by rw [hwG, hgI]; exact heap_alloc_new wF _
      rw [← hwG, ← hgI]
      have hbG : Below wF.heap.size wF wG := by rw [hwG]; exact (Below.refl _ _).alloc (Nat.le_refl _) _
      have HBG := Lib.hid (bt HBF.out hbG)
      have HXG := Lib.hid (HXF.out.onV hbG)
      obtain ⟨d0, d1, d2⟩ := cell3 hrG
      clear hwG hbG hrG hgI
      have hE : (e1 = 0 ∨ e1 = 3) ∧ (e2 = 0 ∨ e2 = 3) ∧ (e3 = 0 ∨ e3 = 3) := by have := HKD.out; omega
      go_loop [11, 45] (fun nv iv => ∃ j : Nat, j ≤ 3 ∧ iv = .int .i64 (j : Nat) ∧ nv = .int .i64 (cnt3 e1 e2 e3 j)) (fun _ iv => 3 - (intOf iv).toNat)
      case atStart => exact ⟨0, by omega, rfl, by simp [cnt3]⟩
      case round =>
        obtain ⟨j, hj, rfl, rfl⟩ := hrel
        obtain ⟨cn, hcn⟩ : ∃ c, c = cnt3 e1 e2 e3 j := ⟨_, rfl⟩
        have hcb : 0 ≤ cn ∧ cn ≤ 3 := by rw [hcn]; unfold cnt3; repeat' split <;> omega
        have HCN := Lib.hid hcn
        rw [← hcn]
        clear hcn
        by_cases hlt : j < 3
        · rcases (show j = 0 ∨ j = 1 ∨ j = 2 by omega) with rfl | rfl | rfl
          · rcases hE.1 with h0 | h0 <;> subst h0
            · go_wp2
              go_round
              case rel => exact ⟨1, by omega, by go_num, by rw [HCN.out]; simp [cnt3]⟩
              case measure => simp [intOf]
            · go_wp2
              go_round
              case rel => exact ⟨1, by omega, by go_num, by rw [HCN.out]; simp [cnt3]⟩
              case measure => simp [intOf]
          · rcases hE.2.1 with h0 | h0 <;> subst h0
            · go_wp2
              go_round
              case rel => exact ⟨2, by omega, by go_num, by rw [HCN.out]; simp [cnt3]⟩
              case measure => simp [intOf]
            · go_wp2
              go_round
              case rel => exact ⟨2, by omega, by go_num, by rw [HCN.out]; simp [cnt3]⟩
              case measure => simp [intOf]
          · rcases hE.2.2 with h0 | h0 <;> subst h0
            · go_wp2
              go_round
              case rel => exact ⟨3, by omega, by go_num, by rw [HCN.out]; simp [cnt3]⟩
              case measure => simp [intOf]
            · go_wp2
              go_round
              case rel => exact ⟨3, by omega, by go_num, by rw [HCN.out]; simp [cnt3]⟩
              case measure => simp [intOf]
        · obtain rfl : j = 3 := by omega
          have HBL := Lib.hid (blank_any (some ⟨gM, 0, none⟩) 512 512 (madeL b) wG HXG.out.1.1 HXG.out.1.2.2.1 (by have := HLL.out; omega))
          by_cases hc0 : cn = 0
          · subst hc0
            go_wp2
            go_ret
            exact ⟨rfl, HBG.out⟩
          · have hk := HKD.out
            have hz76 : zeroL (madeL b) = false := by
              refine zeroL_76 ?_
              rcases hk with ⟨h1, h2, h3⟩ | ⟨_, h⟩
              · exact absurd (by rw [HCN.out, h1, h2, h3]; rfl) hc0
              · exact h
            have hc1 : cn = 1 := by
              rw [HCN.out]
              rcases hk with ⟨h1, h2, h3⟩ | ⟨⟨h1, h2, h3⟩ | ⟨h1, h2, h3⟩ | ⟨h1, h2, h3⟩, _⟩
              · exact absurd (by rw [HCN.out, h1, h2, h3]; rfl) hc0
              all_goals (rw [h1, h2, h3]; rfl)
            rw [hz76] at HBL
            subst hc1
            clear hk hz76 hc0
            go_wp2_with (go_at_call 11; go_loud (refine HBL.out.mono ?_; rintro e w2 ⟨rfl, rfl⟩))
            go_ret
            exact ⟨rfl, HBG.out⟩
end Go.Proofs.Ytadcgngiofdhcaa
