/- SectorShares, under the contracts of package sector's shares (begun). -/
import Derived.Test.YtadcgngiofdhcaaIi
import Derived.Test.YtadcgngiofdhcaaQ1
import Derived.Test.YtadcgngiofdhcaaBa
import Derived.BigRegion
import Derived.Deep.RegionHeld
namespace Go.Proofs.Ytadcgngiofdhcaa
open Go.ChangeShapes Go.WideShapes Go.ChangeAt Go.RowKit Go.Shelf
set_option linter.unusedVariables false
set_option linter.unusedSimpArgs false
set_option maxRecDepth 100000
attribute [local go_sem] Oper.semAt_some

theorem cells5' {W0 W : World} {b : Nat} {x0 x1 x2 x3 x4 : Value} {T : TypeId} (h : W0.heap[b]? = some (.cells #[x0, x1, x2, x3, x4] T (0, 0))) (hb : Below W0.heap.size W0 W) : W.cell? ⟨b, 0, none⟩ = some x0 ∧ W.cell? ⟨b, 1, none⟩ = some x1 ∧ W.cell? ⟨b, 2, none⟩ = some x2 ∧ W.cell? ⟨b, 3, none⟩ = some x3 ∧ W.cell? ⟨b, 4, none⟩ = some x4 :=
  cell5 ((hb.block b (Array.getElem?_eq_some_iff.1 h).1).trans h)
theorem own_someI {w : World} {base s n : Nat} {e : TypeId} {a : Option Addr} {c : Nat} {xs : List Value} (h : w.ownsRow base e s (.slice a n c) n xs) (h0 : 0 < n) : ∃ g, a = some ⟨g, 0, none⟩ := by
  rcases h.2 with ⟨_, h1⟩ | ⟨g, cap, cur, h1, _⟩
  · omega
  · cases h1
    exact ⟨g, rfl⟩
theorem u8x255I {x : Int} (h : 0 ≤ x ∧ x < 256) : 0 ≤ bits .xor .u8 x 255 ∧ bits .xor .u8 x 255 < 256 := by
  rw [u8_xor _ _ h.1 h.2 (by omega) (by omega)]
  have h2 := Nat.xor_lt_two_pow (n := 8) (show x.toNat < 2 ^ 8 by omega) (show (255 : Int).toNat < 2 ^ 8 by decide)
  omega
theorem allB_setI {l : List Int} (h : AllB l) (i : Nat) {y : Int} (hy : 0 ≤ y ∧ y < 256) : AllB (l.set i y) := fun x hx => by
  rcases List.mem_or_eq_of_mem_set hx with h1 | h1
  · exact h x h1
  · rw [h1]; exact hy
set_option maxHeartbeats 4000000 in
theorem sectorShares_any (hC : CommitBytesC) (hSB : ShareBytesC) (hPS : ParseShareC) (m p st g : Int) (ar : Option Addr) (R kr : Nat) (a : Option Addr) (L k : Nat) (whole : Bool) (w : World)
    (c0 : byteI m) (c1 : byteI p) (c2 : 0 ≤ st ∧ st < 4294967296) (c3 : 0 ≤ g ∧ g < 18446744073709551616) (w0 : ∃ l, Arg8c w ar R kr l) (w1 : ∃ b, Arg8c w a L k b) :
    Calls Try.prog 4 #[.int .u8 m, .int .u8 p, .int .u32 st, .int .u64 g, .slice ar R kr, .slice a L k, .bool whole] w fun e w' => e = .returned (.bool true) ∧ Below w.heap.size w w' := by
  obtain ⟨l, hl⟩ := w0
  obtain ⟨b, hb⟩ := w1
  have HLV := Lib.hid (show ∀ W, Below w.heap.size w W → Calls Try.prog 6 #[] W fun e w' => e = .returned (.bool true) ∧ Below w.heap.size w w' from fun W hW => (lives14 hC W).mono fun e w' h => ⟨h.1, bt hW h.2⟩)
  have hlk := hl.1.2.2.2
  have hbk := hb.1.2.2.2
  unfold maxLen at hlk hbk
  have HA := Lib.hid hb
  have HR := Lib.hid hl
  have hq0 : Below w.heap.size w w := Below.refl _ _
  by_cases h5 : 500 < R ∨ 600 < L
  · clear hl hb
    by_cases hR : 500 < R
    · have q1 : (500 : Int) < (R : Int) := by omega
      clear h5 hR
      go_enter Try.func4, Try.ntmps4
      go_wp2_with (go_at_call 6; go_loud (refine (HLV.out _ (by assumption)).mono ?_; rintro e w1 ⟨rfl, hb1⟩))
      go_ret
      exact ⟨rfl, hb1⟩
    · have q1 : ¬ (500 : Int) < (R : Int) := by omega
      have q2 : (600 : Int) < (L : Int) := by omega
      clear h5 hR
      go_enter Try.func4, Try.ntmps4
      go_wp2_with (go_at_call 6; go_loud (refine (HLV.out _ (by assumption)).mono ?_; rintro e w1 ⟨rfl, hb1⟩))
      go_ret
      exact ⟨rfl, hb1⟩
  have q1 : ¬ (500 : Int) < (R : Int) := by omega
  have q2 : ¬ (600 : Int) < (L : Int) := by omega
  have HRL := Lib.hid (show R ≤ 500 ∧ L ≤ 600 by omega)
  clear h5
  obtain ⟨i5, hi5, hz5⟩ := Option.map_eq_some_iff.1 info5
  simp only [Prod.mk.injEq] at hz5
  have HI := Lib.hid (And.intro hi5 hz5)
  obtain ⟨RS, hRS⟩ : ∃ RS, RS = strOfNums l := ⟨_, rfl⟩
  have HRS := Lib.hid hRS
  have HC := Lib.hid (And.intro c0 (And.intro c1 (And.intro c2 c3)))
  clear hi5 hz5 hRS hl hb c0 c1 c2 c3
  go_enter Try.func4, Try.ntmps4
  go_upto_region 3 with (go_at_call 6; go_loud (refine (HLV.out _ (by assumption)).mono ?_; rintro e w1 ⟨rfl, hb1⟩))
  have HB1 := Lib.hid hb1
  have HR1 := Lib.hid (show Arg8c w1 ar R kr l from ⟨HR.out.1.on hb1, HR.out.2⟩)
  have HN0 := Lib.hid (show (w1.alloc (.cells #[] 5)).ownsRow w1.heap.size 5 1 (.slice (some ⟨w1.heap.size, 0, none⟩) 0 0) 0 (([] : List Int).map (Value.int .u8)) from World.ownsRow_lit (base := w1.heap.size) (e := 5) (size := 1) w1 #[] 0 (Nat.le_refl _) (Nat.zero_le _) rfl)
  have HB0 := Lib.hid (show Below w1.heap.size w1 (w1.alloc (.cells #[] 5)) from (Below.refl _ _).alloc (Nat.le_refl _) _)
  have HX0S := Lib.hid (show Bs (w1.alloc (.cells #[] 5)) (w1.alloc (.cells #[] 5)).heap.size ar l from (HR1.out.1.on HB0.out).2.2.1)
  clear hb1
  go_upto_region 4 with ((with_reducible show wpList _ _ _ (⟨some 42, _, _, _, _, _⟩ :: _) _ _); go_loud (refine wpList_append_bs _ (o := ⟨some 42, _, _, _, _, _⟩) rfl (.tmp 40) (.tmp 41) 22 rfl w1.heap.size 5 i5 Try.underlying22 HI.out.1 HI.out.2.1 HI.out.2.2.1 HI.out.2.2.2 _ 0 [] rfl HN0.out ar R kr _ l rfl HX0S.out HR1.out.1.1 HR1.out.2 (by omega) (by simp) ?_; intro v2 w2 ho2 hg2))
  have HB2 := Lib.hid (show Below w1.heap.size w1 w2 from HB0.out.grown hg2 (by simp) (fun k' hk' => by have := Option.some.inj (show some w1.heap.size = some k' from hk'); omega))
  have ho2' : w2.ownsRow w1.heap.size 5 1 v2 R (l.map (Value.int .u8)) := by simpa using ho2
  obtain ⟨a2, k2, hv2, -⟩ := own_form ho2'
  subst hv2
  have HO2 := Lib.hid ho2'
  have HX2 := Lib.hid (arg_own ho2' HR.out.1.2.1)
  clear ho2 ho2' hg2 HN0 HB0 HX0S
  obtain ⟨W3, hW3⟩ : ∃ W3, W3 = w2.alloc (.cells #[.int .u8 m, .int .u8 p, .int .u32 st, .int .u64 g, .slice a2 R k2] 28) := ⟨_, rfl⟩
  have hb23 : Below w2.heap.size w2 W3 := by rw [hW3]; exact (Below.refl _ _).alloc (Nat.le_refl _) _
  have hs3 : W3.heap.size = w2.heap.size + 1 := by rw [hW3]; simp
  have hr3 : W3.heap[w2.heap.size]? = some (.cells #[.int .u8 m, .int .u8 p, .int .u32 st, .int .u64 g, .slice a2 R k2] 28 (0, 0)) := by rw [hW3]; exact heap_alloc_new w2 _
  obtain ⟨W4, hW4⟩ : ∃ W4, W4 = W3.alloc (.cells #[.int .u8 m, .int .u8 p, .int .u32 st, .int .u64 g, .string RS] 46) := ⟨_, rfl⟩
  have hb24 : Below w2.heap.size w2 W4 := by rw [hW4]; exact hb23.alloc hb23.size _
  have hr4 : W4.heap[W3.heap.size]? = some (.cells #[.int .u8 m, .int .u8 p, .int .u32 st, .int .u64 g, .string RS] 46 (0, 0)) := by rw [hW4]; exact heap_alloc_new W3 _
  have hr34 : W4.heap[w2.heap.size]? = some (.cells #[.int .u8 m, .int .u8 p, .int .u32 st, .int .u64 g, .slice a2 R k2] 28 (0, 0)) := by rw [hW4, heap_alloc_old _ _ (by omega)]; exact hr3
  have hcv := arg_str HR1.out (HB2.out.trans (hb23.mono HB2.out.size))
  rw [← HRS.out, hW3] at hcv
  have HX4 := Lib.hid (show Arg8c W4 a2 R k2 l from ⟨HX2.out.1.on hb24, HX2.out.2⟩)
  have HO4 := Lib.hid (show W4.ownsRow w1.heap.size 5 1 (.slice a2 R k2) R (l.map (Value.int .u8)) from own_blockT2 HO2.out hb24)
  have HB4 := Lib.hid (show Below w.heap.size w W4 from bt (bt HB1.out HB2.out) hb24)
  have HB14 := Lib.hid (show Below w1.heap.size w1 W4 from HB2.out.trans (hb24.mono HB2.out.size))
  obtain ⟨S, hS⟩ : ∃ S, S = (SH.mk m p st g l).S := ⟨_, rfl⟩
  obtain ⟨E, hE⟩ : ∃ E, E = (SH.mk m p st g l).E := ⟨_, rfl⟩
  have HWF := Lib.hid (show (SH.mk m p st g l).Wf from ⟨HC.out.1, HC.out.2.1, HC.out.2.2.1, HC.out.2.2.2, HR.out.1.2.1⟩)
  have HBY := Lib.hid (show Calls Try.prog 12 #[.agg #[.int .u8 m, .int .u8 p, .int .u32 st, .int .u64 g, .slice a2 R k2]] W4 fun e w' => ∃ a5 k5, e = .returned (.tuple #[.slice a5 S.length k5, .int .i64 E]) ∧ Arg8c w' a5 S.length k5 S ∧ NewS W4 a5 S.length ∧ Below W4.heap.size W4 w' by
    rw [hS, hE]
    exact hSB (SH.mk m p st g l) a2 R k2 W4 HWF.out HX4.out HRL.out.1)
  have HSE := Lib.hid (And.intro hS hE)
  have HR34 := Lib.hid (And.intro hr34 hr4)
  have hj := cell5 hr34
  have hj2 := cell5 hr4
  rw [hs3] at hj2
  have HS3 := Lib.hid hs3
  have HW3 := Lib.hid hW3
  have HW4 := Lib.hid hW4
  rw [hW4, hW3] at hj hj2 HBY
  obtain ⟨j0, j1, j2, j3, j4⟩ := hj
  obtain ⟨i0, i1, i2, i3, i4⟩ := hj2
  clear hS hE hW3 hW4 hb23 hs3 hr3 hb24 hr4 hr34
  go_upto_region 7 with (go_at_call 12; go_loud (refine HBY.out.mono ?_; rintro e w5 ⟨a5, k5, rfl, hx5, hn5, hb5⟩; have HX5 := Lib.hid hx5; rw [← HW3.out, ← HW4.out] at hb5 hn5; have HN5 := Lib.hid hn5; have HB5 := Lib.hid hb5; clear hx5 hn5 hb5))
  have HO5 := Lib.hid (show w5.ownsRow w1.heap.size 5 1 (.slice a2 R k2) R (l.map (Value.int .u8)) from own_blockT2 HO4.out HB5.out)
  go_wp2_with fail
  go_loopw [63] (fun q wr => ∃ (i : Nat) (l : List Int), i ≤ R ∧ q = .int .i64 (i : Nat) ∧ AllB l ∧ wr.ownsRow w1.heap.size 5 1 (.slice a2 R k2) R (l.map (Value.int .u8)) ∧ KB (fun k => (Value.slice a2 R k2).ownBlock = some k) w5 wr) (fun q _ => R - (intOf q).toNat)
  case atStart => exact ⟨0, l, by omega, rfl, HWF.out.row, HO5.out, KB.refl _ _⟩
  case round =>
    obtain ⟨i, lq, hi, rfl, hlB, hown, hkb⟩ := hrel
    rename World => V
    have HOV := Lib.hid hown
    have HLB := Lib.hid hlB
    have HKV := Lib.hid hkb
    clear hlB hown hkb
    by_cases hlt : i < R
    · have HLT := Lib.hid hlt
      obtain ⟨g4, rfl⟩ := own_someI HOV.out (by omega)
      have hc := own_cells HOV.out i hlt
      rw [Nat.zero_add] at hc
      have hfz := HOV.out.frozenAt i
      obtain ⟨X, hX⟩ : ∃ X, X = lq.getD i 0 := ⟨_, rfl⟩
      rw [← hX] at hc
      have HXB := Lib.hid (show 0 ≤ X ∧ X < 256 by rw [hX]; exact byte_getD HLB.out i)
      have qi : (i : Int) < (R : Int) := by omega
      clear hX hlt
      go_wp2_with fail
      go_roundw
      case rel =>
        refine ⟨i + 1, lq.set i (bits .xor .u8 X 255), HLT.out, by go_num, allB_setI HLB.out i (u8x255I HXB.out), ?_, ?_⟩
        · have h := (HOV.out.stored i (.int .u8 (bits .xor .u8 X 255))).1
          rw [map_set_u8] at h
          exact h
        · refine HKV.out.trans ?_
          refine ⟨(KB.of_set V g4 i _).1, fun j hj hf => (KB.of_set V g4 i _).2 j hj (fun e => hf (by rw [e]; rfl))⟩
      case measure => simp [intOf]; have := HLT.out; omega
    · obtain rfl : i = R := by omega
      have hnb : ∀ j, (Value.slice a2 i k2).ownBlock = some j → j < w2.heap.size := fun j e => (HO2.out.lt j e).2
      have hs4 : W4.heap.size = w2.heap.size + 2 := by rw [HW4.out, World.size_alloc, HS3.out]
      have hw45 := HB5.out.size
      have hXV : Arg8c V a5 S.length k5 S := by
        rcases Nat.eq_zero_or_pos S.length with h0 | h0
        · exact ⟨⟨HX5.out.1.1, HX5.out.1.2.1, fun h1 => by omega, HX5.out.1.2.2.2⟩, HX5.out.2⟩
        · exact ⟨HKV.out.arg8 HX5.out.1 (fun j o e hj => by have h1 := hnb j hj; have h2 := HN5.out h0 j o e; omega), HX5.out.2⟩
      have hBV : Below w.heap.size w V := by
        refine (bt HB4.out HB5.out).trans (HKV.out.below (fun j hj => by have h1 := (HO2.out.lt j hj).1; have h2 := HB1.out.size; omega) (by have := HB4.out.size; omega))
      have hr5 : V.heap[w2.heap.size + 1]? = some (.cells #[.int .u8 m, .int .u8 p, .int .u32 st, .int .u64 g, .string RS] 46 (0, 0)) := by
        rw [HKV.out.2 _ (by omega) (fun e => by have := hnb _ e; omega), HB5.out.block _ (by omega)]
        rw [← HS3.out]; exact HR34.out.2
      obtain ⟨SS, hSS⟩ : ∃ SS, SS = strOfNums S := ⟨_, rfl⟩
      have hcv : ∀ W, Below V.heap.size V W → (convert 22 9 (.slice a5 S.length k5)).run Try.prog W = .ok (.string SS) W := fun W hW => by rw [hSS]; exact arg_str hXV hW
      have z0 : ∀ W, Below V.heap.size V W → W.cell? ⟨w2.heap.size + 1, 0, none⟩ = some (.int .u8 m) := fun W hW => (cells5' hr5 hW).1
      have z1 : ∀ W, Below V.heap.size V W → W.cell? ⟨w2.heap.size + 1, 1, none⟩ = some (.int .u8 p) := fun W hW => (cells5' hr5 hW).2.1
      have z2 : ∀ W, Below V.heap.size V W → W.cell? ⟨w2.heap.size + 1, 2, none⟩ = some (.int .u32 st) := fun W hW => (cells5' hr5 hW).2.2.1
      have z3 : ∀ W, Below V.heap.size V W → W.cell? ⟨w2.heap.size + 1, 3, none⟩ = some (.int .u64 g) := fun W hW => (cells5' hr5 hW).2.2.2.1
      have z4 : ∀ W, Below V.heap.size V W → W.cell? ⟨w2.heap.size + 1, 4, none⟩ = some (.string RS) := fun W hW => (cells5' hr5 hW).2.2.2.2
      have HRB := Lib.hid (show ∀ W, Below V.heap.size V W → Calls Try.prog 13 #[.agg #[.int .u8 m, .int .u8 p, .int .u32 st, .int .u64 g, .string RS]] W fun e w' => e = .returned (.string SS) ∧ Below V.heap.size V w' from fun W hW => by
        rw [hSS, HSE.out.1, HRS.out]
        exact (refShare_any (SH.mk m p st g l) HWF.out (by show l.length ≤ 512; rw [HR.out.1.1]; have := HRL.out.1; omega) W).mono fun e w' h => ⟨h.1, bt hW h.2⟩)
      have hs1 : (SS.toList == SS.toList) = true := by simp
      have hs2 : (SS.toList != SS.toList) = false := by simp
      have HSS := Lib.hid hSS
      have HXV := Lib.hid hXV
      have HBV := Lib.hid hBV
      have HR5 := Lib.hid hr5
      clear hSS hXV hr5 hnb hs4 hw45 hlt
      by_cases hok : (SH.mk m p st g l).Ok
      · have hso := SH.S_ok hok
        have hS512 : S.length = 512 := by rw [HSE.out.1, hso.1]; exact SH.B_len hok
        have hs3 : (SS.toList == []) = false := by rw [HSS.out]; exact str_neq0 (by rw [hS512]; omega)
        have hs4 : (SS.toList != []) = true := by rw [bne, hs3]; rfl
        have hE0 : E = 0 := by rw [HSE.out.2, hso.2]
        subst hE0
        have HOK := Lib.hid (And.intro hok (And.intro hso.1 hS512))
        clear hok hso hS512 hBV
        go_upto_region 12 with fail
        refine wp_region_held_drew (S := fun U => Below V.heap.size V U) (by kernel_rfl) (Below.refl _ _).drew (fun hHeld => ?_)
        refine wpAnyH_take (i := 0) (oi := { dst := some 73, op := Go.Op.move (Go.Operand.tmp 18), type := 22, pos := "law.go:40", after := #[], guard := none }) (v := ?v0a1) rfl (by kernel_rfl) (by kernel_rfl) (by kernel_rfl) (fun _ _ _ h => h) (Or.inl ⟨by rfl, ?hy0a1⟩) hHeld ?rest0a1
        case hy0a1 =>
          intro W' hV
          try dsimp only at hV
          go_simp
          all_goals with_reducible rfl
        case' rest0a1 => try simp only [Act.put, List.setIfInBounds_toArray, List.set_cons_zero, List.set_cons_succ]
        refine wpAnyH_take (i := 1) (oi := { dst := some 74, op := Go.Op.convert 22 9 (Go.Operand.tmp 73), type := 9, pos := "law.go:40", after := #[{ on := 0, ground := Go.Ground.data }], guard := none }) (v := ?v1a2) rfl (by kernel_rfl) (by kernel_rfl) (by kernel_rfl) (fun _ _ _ h => h) (Or.inl ⟨by rfl, ?hy1a2⟩) hHeld ?rest1a2
        case hy1a2 =>
          intro W' hV
          try dsimp only at hV
          go_simp
          all_goals with_reducible rfl
        case' rest1a2 => try simp only [Act.put, List.setIfInBounds_toArray, List.set_cons_zero, List.set_cons_succ]
        refine wpAnyH_take (i := 2) (oi := { dst := some 75, op := Go.Op.load 46 (Go.Operand.tmp 17), type := 46, pos := "law.go:40", after := #[], guard := none }) (v := ?v2a3) rfl (by kernel_rfl) (by kernel_rfl) (by kernel_rfl) (fun _ _ _ h => h) (Or.inl ⟨by rfl, ?hy2a3⟩) hHeld ?rest2a3
        case hy2a3 =>
          intro W' hV
          try dsimp only at hV
          go_simp
          all_goals with_reducible rfl
        case' rest2a3 => try simp only [Act.put, List.setIfInBounds_toArray, List.set_cons_zero, List.set_cons_succ]
        refine wpAnyH_ready (rs := [3]) (by kernel_rfl) (by simp) ?_
        refine AllReadyH.cons (o := { dst := some 76, op := Go.Op.call { callee := Go.Callee.value (Go.Operand.func 13), args := #[Go.Operand.tmp 75], argTypes := #[46] }, type := 9, pos := "law.go:40", after := #[{ on := 2, ground := Go.Ground.data }], guard := none }) rfl (fun K' hK => ?_) AllReadyH.nil
        rw [if_pos (by rfl)]
        go_simp
        go_wp2_with (go_at_call 13; go_loud ((with_reducible refine (HRB.out _ (by first | assumption | exact hHeld)).mono ?_); rintro e w9 ⟨rfl, hw9⟩))
        refine hK.out _ _ hw9 (fun hHeld1 => ?_)
        clear hK K' hHeld
        have hHeld := hHeld1
        clear hHeld1
        try simp only [Act.put, List.setIfInBounds_toArray, List.set_cons_zero, List.set_cons_succ]
        refine wpAnyH_take (i := 4) (oi := { dst := some 77, op := Go.Op.binOp Go.BinOp.neq 9 (Go.Operand.tmp 74) (Go.Operand.tmp 76) 9, type := 4, pos := "law.go:40", after := #[{ on := 1, ground := Go.Ground.data }, { on := 3, ground := Go.Ground.data }], guard := none }) (v := ?v4a4) rfl (by kernel_rfl) (by kernel_rfl) (by kernel_rfl) (fun _ _ _ h => h) (Or.inl ⟨by rfl, ?hy4a4⟩) hHeld ?rest4a4
        case hy4a4 =>
          intro W' hV
          try dsimp only at hV
          go_simp
          all_goals with_reducible rfl
        case' rest4a4 => try simp only [Act.put, List.setIfInBounds_toArray, List.set_cons_zero, List.set_cons_succ]
        refine wpAnyH_take (i := 5) (oi := { dst := some 78, op := Go.Op.move (Go.Operand.tmp 77), type := 4, pos := "law.go:40", after := #[{ on := 4, ground := Go.Ground.data }, { on := 3, ground := Go.Ground.chain }], guard := none }) (v := ?v5a5) rfl (by kernel_rfl) (by kernel_rfl) (by kernel_rfl) (fun _ _ _ h => h) (Or.inl ⟨by rfl, ?hy5a5⟩) hHeld ?rest5a5
        case hy5a5 =>
          intro W' hV
          try dsimp only at hV
          go_simp
          all_goals with_reducible rfl
        case' rest5a5 => try simp only [Act.put, List.setIfInBounds_toArray, List.set_cons_zero, List.set_cons_succ]
        refine wpAnyH_take (i := 6) (oi := { dst := some 79, op := Go.Op.move (Go.Operand.tmp 19), type := 29, pos := "law.go:40", after := #[{ on := 5, ground := Go.Ground.guard }], guard := some (5, false) }) (v := ?v6a6) rfl (by kernel_rfl) (by kernel_rfl) (by kernel_rfl) (fun _ _ _ h => h) (Or.inl ⟨by rfl, ?hy6a6⟩) hHeld ?rest6a6
        case hy6a6 =>
          intro W' hV
          try dsimp only at hV
          go_simp
          all_goals with_reducible rfl
        case' rest6a6 => try simp only [Act.put, List.setIfInBounds_toArray, List.set_cons_zero, List.set_cons_succ]
        refine wpAnyH_take (i := 7) (oi := { dst := some 80, op := Go.Op.binOp Go.BinOp.eql 29 (Go.Operand.tmp 79) (Go.Operand.const (Go.Value.int Go.IntKind.i64 0)) 29, type := 4, pos := "law.go:40", after := #[{ on := 6, ground := Go.Ground.data }, { on := 5, ground := Go.Ground.guard }], guard := some (5, false) }) (v := ?v7a7) rfl (by kernel_rfl) (by kernel_rfl) (by kernel_rfl) (fun _ _ _ h => h) (Or.inl ⟨by rfl, ?hy7a7⟩) hHeld ?rest7a7
        case hy7a7 =>
          intro W' hV
          try dsimp only at hV
          go_simp
          all_goals with_reducible rfl
        case' rest7a7 => try simp only [Act.put, List.setIfInBounds_toArray, List.set_cons_zero, List.set_cons_succ]
        refine wpAnyH_take (i := 8) (oi := { dst := some 81, op := Go.Op.load 46 (Go.Operand.tmp 17), type := 46, pos := "law.go:40", after := #[{ on := 5, ground := Go.Ground.guard }], guard := some (5, false) }) (v := ?v8a8) rfl (by kernel_rfl) (by kernel_rfl) (by kernel_rfl) (fun _ _ _ h => h) (Or.inl ⟨by rfl, ?hy8a8⟩) hHeld ?rest8a8
        case hy8a8 =>
          intro W' hV
          try dsimp only at hV
          go_simp
          all_goals with_reducible rfl
        case' rest8a8 => try simp only [Act.put, List.setIfInBounds_toArray, List.set_cons_zero, List.set_cons_succ]
        refine wpAnyH_ready (rs := [9]) (by kernel_rfl) (by simp) ?_
        refine AllReadyH.cons (o := { dst := some 82, op := Go.Op.call { callee := Go.Callee.value (Go.Operand.func 13), args := #[Go.Operand.tmp 81], argTypes := #[46] }, type := 9, pos := "law.go:40", after := #[{ on := 8, ground := Go.Ground.data }, { on := 5, ground := Go.Ground.chain }, { on := 5, ground := Go.Ground.guard }], guard := some (5, false) }) rfl (fun K' hK => ?_) AllReadyH.nil
        rw [if_pos (by rfl)]
        go_simp
        go_wp2_with (go_at_call 13; go_loud ((with_reducible refine (HRB.out _ (by first | assumption | exact hHeld)).mono ?_); rintro e w10 ⟨rfl, hw10⟩))
        refine hK.out _ _ hw10 (fun hHeld1 => ?_)
        clear hK K' hHeld
        have hHeld := hHeld1
        clear hHeld1
        try simp only [Act.put, List.setIfInBounds_toArray, List.set_cons_zero, List.set_cons_succ]
        refine wpAnyH_take (i := 10) (oi := { dst := some 83, op := Go.Op.binOp Go.BinOp.neq 9 (Go.Operand.tmp 82) (Go.Operand.const (Go.Value.string { data := #[] })) 9, type := 4, pos := "law.go:40", after := #[{ on := 9, ground := Go.Ground.data }, { on := 5, ground := Go.Ground.guard }], guard := some (5, false) }) (v := ?v10a9) rfl (by kernel_rfl) (by kernel_rfl) (by kernel_rfl) (fun _ _ _ h => h) (Or.inl ⟨by rfl, ?hy10a9⟩) hHeld ?rest10a9
        case hy10a9 =>
          intro W' hV
          try dsimp only at hV
          go_simp
          all_goals with_reducible rfl
        case' rest10a9 => try simp only [Act.put, List.setIfInBounds_toArray, List.set_cons_zero, List.set_cons_succ]
        refine wpAnyH_take (i := 11) (oi := { dst := some 84, op := Go.Op.binOp Go.BinOp.neq 4 (Go.Operand.tmp 80) (Go.Operand.tmp 83) 4, type := 4, pos := "law.go:40", after := #[{ on := 7, ground := Go.Ground.data }, { on := 10, ground := Go.Ground.data }, { on := 5, ground := Go.Ground.guard }], guard := some (5, false) }) (v := ?v11a10) rfl (by kernel_rfl) (by kernel_rfl) (by kernel_rfl) (fun _ _ _ h => h) (Or.inl ⟨by rfl, ?hy11a10⟩) hHeld ?rest11a10
        case hy11a10 =>
          intro W' hV
          try dsimp only at hV
          go_simp
          all_goals with_reducible rfl
        case' rest11a10 => try simp only [Act.put, List.setIfInBounds_toArray, List.set_cons_zero, List.set_cons_succ]
        refine wpAnyH_take (i := 12) (oi := { dst := some 85, op := Go.Op.pick (Go.Operand.tmp 78) (Go.Operand.const (Go.Value.bool true)) (Go.Operand.tmp 84), type := 4, pos := "law.go:40", after := #[{ on := 5, ground := Go.Ground.data }, { on := 11, ground := Go.Ground.data }], guard := none }) (v := ?v12a11) rfl (by kernel_rfl) (by kernel_rfl) (by kernel_rfl) (fun _ _ _ h => h) (Or.inl ⟨by rfl, ?hy12a11⟩) hHeld ?rest12a11
        case hy12a11 =>
          intro W' hV
          try dsimp only at hV
          go_simp
          all_goals with_reducible rfl
        case' rest12a11 => try simp only [Act.put, List.setIfInBounds_toArray, List.set_cons_zero, List.set_cons_succ]
        refine wpAnyH_take (i := 13) (oi := { dst := some 86, op := Go.Op.move (Go.Operand.tmp 85), type := 4, pos := "law.go:40", after := #[{ on := 12, ground := Go.Ground.data }, { on := 9, ground := Go.Ground.chain }], guard := none }) (v := ?v13a12) rfl (by kernel_rfl) (by kernel_rfl) (by kernel_rfl) (fun _ _ _ h => h) (Or.inl ⟨by rfl, ?hy13a12⟩) hHeld ?rest13a12
        case hy13a12 =>
          intro W' hV
          try dsimp only at hV
          go_simp
          all_goals with_reducible rfl
        case' rest13a12 => try simp only [Act.put, List.setIfInBounds_toArray, List.set_cons_zero, List.set_cons_succ]
        refine wpAnyH_take (i := 14) (oi := { dst := some 87, op := Go.Op.move (Go.Operand.tmp 19), type := 29, pos := "law.go:40", after := #[{ on := 13, ground := Go.Ground.guard }], guard := some (13, false) }) (v := ?v14a13) rfl (by kernel_rfl) (by kernel_rfl) (by kernel_rfl) (fun _ _ _ h => h) (Or.inl ⟨by rfl, ?hy14a13⟩) hHeld ?rest14a13
        case hy14a13 =>
          intro W' hV
          try dsimp only at hV
          go_simp
          all_goals with_reducible rfl
        case' rest14a13 => try simp only [Act.put, List.setIfInBounds_toArray, List.set_cons_zero, List.set_cons_succ]
        refine wpAnyH_take (i := 15) (oi := { dst := some 88, op := Go.Op.binOp Go.BinOp.neq 29 (Go.Operand.tmp 87) (Go.Operand.const (Go.Value.int Go.IntKind.i64 0)) 29, type := 4, pos := "law.go:40", after := #[{ on := 14, ground := Go.Ground.data }, { on := 13, ground := Go.Ground.guard }], guard := some (13, false) }) (v := ?v15a14) rfl (by kernel_rfl) (by kernel_rfl) (by kernel_rfl) (fun _ _ _ h => h) (Or.inl ⟨by rfl, ?hy15a14⟩) hHeld ?rest15a14
        case hy15a14 =>
          intro W' hV
          try dsimp only at hV
          go_simp
          all_goals with_reducible rfl
        case' rest15a14 => try simp only [Act.put, List.setIfInBounds_toArray, List.set_cons_zero, List.set_cons_succ]
        refine wpAnyH_take (i := 16) (oi := { dst := some 89, op := Go.Op.move (Go.Operand.tmp 88), type := 4, pos := "law.go:40", after := #[{ on := 15, ground := Go.Ground.data }, { on := 13, ground := Go.Ground.chain }, { on := 13, ground := Go.Ground.guard }], guard := some (13, false) }) (v := ?v16a15) rfl (by kernel_rfl) (by kernel_rfl) (by kernel_rfl) (fun _ _ _ h => h) (Or.inl ⟨by rfl, ?hy16a15⟩) hHeld ?rest16a15
        case hy16a15 =>
          intro W' hV
          try dsimp only at hV
          go_simp
          all_goals with_reducible rfl
        case' rest16a15 => try simp only [Act.put, List.setIfInBounds_toArray, List.set_cons_zero, List.set_cons_succ]
        refine wpAnyH_take (i := 17) (oi := { dst := some 90, op := Go.Op.move (Go.Operand.tmp 19), type := 29, pos := "law.go:40", after := #[{ on := 16, ground := Go.Ground.guard }], guard := some (16, true) }) (v := undef) rfl (by kernel_rfl) (by kernel_rfl) (by kernel_rfl) (fun _ _ _ h => h) (Or.inr ⟨by rfl, rfl⟩) hHeld ?_
        try simp only [Act.put, List.setIfInBounds_toArray, List.set_cons_zero, List.set_cons_succ]
        refine wpAnyH_take (i := 18) (oi := { dst := some 91, op := Go.Op.binOp Go.BinOp.neq 29 (Go.Operand.tmp 90) (Go.Operand.const (Go.Value.int Go.IntKind.i64 2)) 29, type := 4, pos := "law.go:40", after := #[{ on := 17, ground := Go.Ground.data }, { on := 16, ground := Go.Ground.guard }], guard := some (16, true) }) (v := undef) rfl (by kernel_rfl) (by kernel_rfl) (by kernel_rfl) (fun _ _ _ h => h) (Or.inr ⟨by rfl, rfl⟩) hHeld ?_
        try simp only [Act.put, List.setIfInBounds_toArray, List.set_cons_zero, List.set_cons_succ]
        refine wpAnyH_take (i := 19) (oi := { dst := some 92, op := Go.Op.pick (Go.Operand.tmp 89) (Go.Operand.tmp 91) (Go.Operand.const (Go.Value.bool false)), type := 4, pos := "law.go:40", after := #[{ on := 16, ground := Go.Ground.data }, { on := 18, ground := Go.Ground.data }, { on := 13, ground := Go.Ground.guard }], guard := some (13, false) }) (v := ?v19a16) rfl (by kernel_rfl) (by kernel_rfl) (by kernel_rfl) (fun _ _ _ h => h) (Or.inl ⟨by rfl, ?hy19a16⟩) hHeld ?rest19a16
        case hy19a16 =>
          intro W' hV
          try dsimp only at hV
          go_simp
          all_goals with_reducible rfl
        case' rest19a16 => try simp only [Act.put, List.setIfInBounds_toArray, List.set_cons_zero, List.set_cons_succ]
        refine wpAnyH_take (i := 20) (oi := { dst := some 93, op := Go.Op.pick (Go.Operand.tmp 86) (Go.Operand.const (Go.Value.bool true)) (Go.Operand.tmp 92), type := 4, pos := "law.go:40", after := #[{ on := 13, ground := Go.Ground.data }, { on := 19, ground := Go.Ground.data }], guard := none }) (v := ?v20a17) rfl (by kernel_rfl) (by kernel_rfl) (by kernel_rfl) (fun _ _ _ h => h) (Or.inl ⟨by rfl, ?hy20a17⟩) hHeld ?rest20a17
        case hy20a17 =>
          intro W' hV
          try dsimp only at hV
          go_simp
          all_goals with_reducible rfl
        case' rest20a17 => try simp only [Act.put, List.setIfInBounds_toArray, List.set_cons_zero, List.set_cons_succ]
        refine wpAnyH_done (by kernel_rfl) ?_ _
        clear hHeld
        have HPX := Lib.hid (show ∀ W, Below V.heap.size V W → Calls Try.prog 8 #[.slice a5 S.length k5] W fun e w' => ∃ a6 k6, e = .returned (.tuple #[.agg #[.int .u8 m, .int .u8 p, .int .u32 st, .int .u64 g, .slice a6 l.length k6], .int .i64 0]) ∧ Arg8c w' a6 l.length k6 l ∧ Below W.heap.size W w' from fun W hW => by
          have h := hPS a5 S.length k5 S W ⟨HXV.out.1.on hW, HXV.out.2⟩ (by have := HOK.out.2.2; omega)
          have h1 := psh_one (psh_B HWF.out HOK.out.1)
          rw [← HOK.out.2.1, ← HSE.out.1] at h1
          rw [h1.1, h1.2] at h
          exact h)
        have HSM := Lib.hid (show ∀ (a : Option Addr) (n k : Nat) (W : World), Arg8c W a n k l → Calls Try.prog 14 #[.agg #[.int .u8 m, .int .u8 p, .int .u32 st, .int .u64 g, .slice a n k], .agg #[.int .u8 m, .int .u8 p, .int .u32 st, .int .u64 g, .string RS]] W fun e w' => e = .returned (.bool true) ∧ Below W.heap.size W w' from fun a n k W h => by
          rw [HRS.out]; exact same_any (SH.mk m p st g l) a n k W h)
        go_upto_region 16 with (go_at_call 8; go_loud (refine (HPX.out _ hw10).mono ?_; rintro e w11 ⟨a6, k6, rfl, hx6, hb11⟩))
        obtain ⟨W12, hW12⟩ : ∃ W12, W12 = w11.alloc (.cells #[.int .u8 m, .int .u8 p, .int .u32 st, .int .u64 g, .slice a6 l.length k6] 28) := ⟨_, rfl⟩
        have hal : Below w11.heap.size w11 W12 := by rw [hW12]; exact (Below.refl _ _).alloc (Nat.le_refl _) _
        have hr12 : W12.heap[w11.heap.size]? = some (.cells #[.int .u8 m, .int .u8 p, .int .u32 st, .int .u64 g, .slice a6 l.length k6] 28 (0, 0)) := by rw [hW12]; exact heap_alloc_new w11 _
        have hb12 : Below V.heap.size V W12 := bt hw10 (bt hb11 hal)
        have HX12 := Lib.hid (show Arg8c W12 a6 l.length k6 l from ⟨hx6.1.on hal, hx6.2⟩)
        obtain ⟨y0, y1, y2, y3, y4⟩ := cell5 hr12
        rw [← hW12]
        clear hW12 hr12 hal hb11 hx6 hw9
        go_upto_region 18 with (go_at_call 14; go_loud (refine (HSM.out _ _ _ W12 HX12.out).mono ?_; rintro e w13 ⟨rfl, hb13⟩))
        obtain ⟨W6, hW6⟩ : ∃ W6, W6 = w13 := ⟨_, rfl⟩
        have hb6 : Below w.heap.size w W6 := by rw [hW6]; exact bt HBV.out (bt hb12 hb13)
        rw [← hW6]
        clear hW6 hb12 hb13 hw10 z0 z1 z2 z3 z4 y0 y1 y2 y3 y4 hcv
        have HMD := Lib.hid (show ∀ W, Below w.heap.size w W → Calls Try.prog 7 #[.slice a L k] W fun e w' => ∃ g, e = .returned (.slice (some ⟨g, 0, none⟩) 512 512) ∧ Arg8c w' (some ⟨g, 0, none⟩) 512 512 (madeL b) ∧ Below w.heap.size w w' from fun W hW => (made_any a L k b W ⟨HA.out.1.on hW, HA.out.2⟩).mono fun e w' ⟨g, h1, h2, _, h4⟩ => ⟨g, h1, h2, bt hW h4⟩)
        cases whole with
        | true =>
          go_upto_region 20 with (go_at_call 7; go_loud (refine (HMD.out _ hb6).mono ?_; rintro e w7 ⟨g5, rfl, hx7, hb7⟩))
          obtain ⟨W7, hW7⟩ : ∃ W7, W7 = w7 := ⟨_, rfl⟩
          subst hW7
          have HXX := Lib.hid hx7
          clear hx7
          cases hpc : psh (madeL b) with
          | none =>
            have hZE : pshE (madeL b) = 3 := by unfold pshE; rw [hpc]; rfl
            have hZO : (psh (madeL b)).isSome = false := by rw [hpc]; rfl
            obtain ⟨Z, hZ⟩ : ∃ Z, Z = pshZ (madeL b) := ⟨_, rfl⟩
            have HP3 := Lib.hid (show Calls Try.prog 8 #[.slice (some ⟨g5, 0, none⟩) 512 (512)] W7 fun e w' => ∃ a8 k8, e = .returned (.tuple #[.agg #[.int .u8 Z.m, .int .u8 Z.p, .int .u32 Z.st, .int .u64 Z.g, .slice a8 Z.row.length k8], .int .i64 3]) ∧ Arg8c w' a8 Z.row.length k8 Z.row ∧ Below W7.heap.size W7 w' from by
              have h := hPS (some ⟨g5, 0, none⟩) 512 (512) (madeL b) W7 HXX.out (by omega)
              rw [← hZ, hZE] at h
              exact h)
            have HRF := Lib.hid (show ∀ W, Calls Try.prog 15 #[.string (strOfNums (madeL b))] W fun e w' => e = .returned (.tuple #[.agg #[.int .u8 Z.m, .int .u8 Z.p, .int .u32 Z.st, .int .u64 Z.g, .string (strOfNums Z.row)], .bool false]) ∧ Below W.heap.size W w' from fun W => by
              have h := refParse_any (madeL b) HXX.out.1.2.1 (by rw [HXX.out.1.1]; exact (by omega)) W
              rw [← hZ, hZO] at h
              exact h)
            have HSZ := Lib.hid (show ∀ (a : Option Addr) (k : Nat) (W : World), Arg8c W a Z.row.length k Z.row → Calls Try.prog 14 #[.agg #[.int .u8 Z.m, .int .u8 Z.p, .int .u32 Z.st, .int .u64 Z.g, .slice a Z.row.length k], .agg #[.int .u8 Z.m, .int .u8 Z.p, .int .u32 Z.st, .int .u64 Z.g, .string (strOfNums Z.row)]] W fun e w' => e = .returned (.bool true) ∧ Below W.heap.size W w' from fun a k W h => same_any Z a Z.row.length k W h)
            obtain ⟨BS, hBS⟩ : ∃ BS, BS = strOfNums (madeL b) := ⟨_, rfl⟩
            obtain ⟨ZS, hZS⟩ : ∃ ZS, ZS = strOfNums Z.row := ⟨_, rfl⟩
            rw [← hBS, ← hZS] at HRF
            rw [← hZS] at HSZ
            have HBS := Lib.hid hBS
            clear hZ hZE hZO hZS hBS hpc
            go_upto_region 21 with (go_at_call 8; go_loud (refine HP3.out.mono ?_; rintro e w8 ⟨a8, k8, rfl, hx8, hb8⟩))
            obtain ⟨W9, hW9⟩ : ∃ W9, W9 = w8.alloc (.cells #[.int .u8 Z.m, .int .u8 Z.p, .int .u32 Z.st, .int .u64 Z.g, .slice a8 Z.row.length k8] 28) := ⟨_, rfl⟩
            have hal9 : Below w8.heap.size w8 W9 := by rw [hW9]; exact (Below.refl _ _).alloc (Nat.le_refl _) _
            have hr9 : W9.heap[w8.heap.size]? = some (.cells #[.int .u8 Z.m, .int .u8 Z.p, .int .u32 Z.st, .int .u64 Z.g, .slice a8 Z.row.length k8] 28 (0, 0)) := by rw [hW9]; exact heap_alloc_new w8 _
            have hb79 : Below W7.heap.size W7 W9 := bt hb8 hal9
            have hcv9 := arg_str HXX.out hb79
            rw [← HBS.out] at hcv9
            have HX9 := Lib.hid (show Arg8c W9 a8 Z.row.length k8 Z.row from ⟨hx8.1.on hal9, hx8.2⟩)
            have HR9 := Lib.hid hr9
            rw [← hW9]
            clear hW9 hal9 hr9 hx8 hb8
            go_upto_region 22 with (go_at_call 15; go_loud (refine (HRF.out _).mono ?_; rintro e w14 ⟨rfl, hb14⟩))
            obtain ⟨W15, hW15⟩ : ∃ W15, W15 = w14.alloc (.cells #[.int .u8 Z.m, .int .u8 Z.p, .int .u32 Z.st, .int .u64 Z.g, .string ZS] 46) := ⟨_, rfl⟩
            have hal15 : Below w14.heap.size w14 W15 := by rw [hW15]; exact (Below.refl _ _).alloc (Nat.le_refl _) _
            have hr15 : W15.heap[w14.heap.size]? = some (.cells #[.int .u8 Z.m, .int .u8 Z.p, .int .u32 Z.st, .int .u64 Z.g, .string ZS] 46 (0, 0)) := by rw [hW15]; exact heap_alloc_new w14 _
            have hb915 : Below W9.heap.size W9 W15 := bt hb14 hal15
            have HX15 := Lib.hid (show Arg8c W15 a8 Z.row.length k8 Z.row from ⟨HX9.out.1.on hb915, HX9.out.2⟩)
            obtain ⟨x0, x1, x2, x3, x4⟩ := cells5' HR9.out hb915
            obtain ⟨y0, y1, y2, y3, y4⟩ := cell5 hr15
            have HB15 := Lib.hid (show Below w.heap.size w W15 from bt hb7 (bt hb79 hb915))
            rw [← hW15]
            clear hW15 hal15 hr15 hb915 hb14 hb79 hcv9
            go_wp2_with (go_at_call 14; go_loud (refine (HSZ.out _ _ W15 HX15.out).mono ?_; rintro e w16 ⟨rfl, hb16⟩))
            go_ret
            exact ⟨rfl, bt HB15.out hb16⟩
          | some cc =>
            have hZE : pshE (madeL b) = 0 := by unfold pshE; rw [hpc]; rfl
            have hZO : (psh (madeL b)).isSome = true := by rw [hpc]; rfl
            obtain ⟨Z, hZ⟩ : ∃ Z, Z = pshZ (madeL b) := ⟨_, rfl⟩
            have HP3 := Lib.hid (show Calls Try.prog 8 #[.slice (some ⟨g5, 0, none⟩) 512 (512)] W7 fun e w' => ∃ a8 k8, e = .returned (.tuple #[.agg #[.int .u8 Z.m, .int .u8 Z.p, .int .u32 Z.st, .int .u64 Z.g, .slice a8 Z.row.length k8], .int .i64 0]) ∧ Arg8c w' a8 Z.row.length k8 Z.row ∧ Below W7.heap.size W7 w' from by
              have h := hPS (some ⟨g5, 0, none⟩) 512 (512) (madeL b) W7 HXX.out (by omega)
              rw [← hZ, hZE] at h
              exact h)
            have HRF := Lib.hid (show ∀ W, Calls Try.prog 15 #[.string (strOfNums (madeL b))] W fun e w' => e = .returned (.tuple #[.agg #[.int .u8 Z.m, .int .u8 Z.p, .int .u32 Z.st, .int .u64 Z.g, .string (strOfNums Z.row)], .bool true]) ∧ Below W.heap.size W w' from fun W => by
              have h := refParse_any (madeL b) HXX.out.1.2.1 (by rw [HXX.out.1.1]; exact (by omega)) W
              rw [← hZ, hZO] at h
              exact h)
            have HSZ := Lib.hid (show ∀ (a : Option Addr) (k : Nat) (W : World), Arg8c W a Z.row.length k Z.row → Calls Try.prog 14 #[.agg #[.int .u8 Z.m, .int .u8 Z.p, .int .u32 Z.st, .int .u64 Z.g, .slice a Z.row.length k], .agg #[.int .u8 Z.m, .int .u8 Z.p, .int .u32 Z.st, .int .u64 Z.g, .string (strOfNums Z.row)]] W fun e w' => e = .returned (.bool true) ∧ Below W.heap.size W w' from fun a k W h => same_any Z a Z.row.length k W h)
            obtain ⟨BS, hBS⟩ : ∃ BS, BS = strOfNums (madeL b) := ⟨_, rfl⟩
            obtain ⟨ZS, hZS⟩ : ∃ ZS, ZS = strOfNums Z.row := ⟨_, rfl⟩
            rw [← hBS, ← hZS] at HRF
            rw [← hZS] at HSZ
            have HBS := Lib.hid hBS
            clear hZ hZE hZO hZS hBS hpc
            go_upto_region 21 with (go_at_call 8; go_loud (refine HP3.out.mono ?_; rintro e w8 ⟨a8, k8, rfl, hx8, hb8⟩))
            obtain ⟨W9, hW9⟩ : ∃ W9, W9 = w8.alloc (.cells #[.int .u8 Z.m, .int .u8 Z.p, .int .u32 Z.st, .int .u64 Z.g, .slice a8 Z.row.length k8] 28) := ⟨_, rfl⟩
            have hal9 : Below w8.heap.size w8 W9 := by rw [hW9]; exact (Below.refl _ _).alloc (Nat.le_refl _) _
            have hr9 : W9.heap[w8.heap.size]? = some (.cells #[.int .u8 Z.m, .int .u8 Z.p, .int .u32 Z.st, .int .u64 Z.g, .slice a8 Z.row.length k8] 28 (0, 0)) := by rw [hW9]; exact heap_alloc_new w8 _
            have hb79 : Below W7.heap.size W7 W9 := bt hb8 hal9
            have hcv9 := arg_str HXX.out hb79
            rw [← HBS.out] at hcv9
            have HX9 := Lib.hid (show Arg8c W9 a8 Z.row.length k8 Z.row from ⟨hx8.1.on hal9, hx8.2⟩)
            have HR9 := Lib.hid hr9
            rw [← hW9]
            clear hW9 hal9 hr9 hx8 hb8
            go_upto_region 22 with (go_at_call 15; go_loud (refine (HRF.out _).mono ?_; rintro e w14 ⟨rfl, hb14⟩))
            obtain ⟨W15, hW15⟩ : ∃ W15, W15 = w14.alloc (.cells #[.int .u8 Z.m, .int .u8 Z.p, .int .u32 Z.st, .int .u64 Z.g, .string ZS] 46) := ⟨_, rfl⟩
            have hal15 : Below w14.heap.size w14 W15 := by rw [hW15]; exact (Below.refl _ _).alloc (Nat.le_refl _) _
            have hr15 : W15.heap[w14.heap.size]? = some (.cells #[.int .u8 Z.m, .int .u8 Z.p, .int .u32 Z.st, .int .u64 Z.g, .string ZS] 46 (0, 0)) := by rw [hW15]; exact heap_alloc_new w14 _
            have hb915 : Below W9.heap.size W9 W15 := bt hb14 hal15
            have HX15 := Lib.hid (show Arg8c W15 a8 Z.row.length k8 Z.row from ⟨HX9.out.1.on hb915, HX9.out.2⟩)
            obtain ⟨x0, x1, x2, x3, x4⟩ := cells5' HR9.out hb915
            obtain ⟨y0, y1, y2, y3, y4⟩ := cell5 hr15
            have HB15 := Lib.hid (show Below w.heap.size w W15 from bt hb7 (bt hb79 hb915))
            rw [← hW15]
            clear hW15 hal15 hr15 hb915 hb14 hb79 hcv9
            go_wp2_with (go_at_call 14; go_loud (refine (HSZ.out _ _ W15 HX15.out).mono ?_; rintro e w16 ⟨rfl, hb16⟩))
            go_ret
            exact ⟨rfl, bt HB15.out hb16⟩
        | false =>
          go_upto_region 20 with fail
          obtain ⟨W7, hW7⟩ : ∃ W7, W7 = W6 := ⟨_, rfl⟩
          have hb7 : Below w.heap.size w W7 := by rw [hW7]; exact hb6
          rw [← hW7]
          have HXX := Lib.hid (show Arg8c W7 a L k b from ⟨HA.out.1.on hb7, HA.out.2⟩)
          clear hW7
          cases hpc : psh b with
          | none =>
            have hZE : pshE (b) = 3 := by unfold pshE; rw [hpc]; rfl
            have hZO : (psh (b)).isSome = false := by rw [hpc]; rfl
            obtain ⟨Z, hZ⟩ : ∃ Z, Z = pshZ (b) := ⟨_, rfl⟩
            have HP3 := Lib.hid (show Calls Try.prog 8 #[.slice (a) L (k)] W7 fun e w' => ∃ a8 k8, e = .returned (.tuple #[.agg #[.int .u8 Z.m, .int .u8 Z.p, .int .u32 Z.st, .int .u64 Z.g, .slice a8 Z.row.length k8], .int .i64 3]) ∧ Arg8c w' a8 Z.row.length k8 Z.row ∧ Below W7.heap.size W7 w' from by
              have h := hPS (a) L (k) (b) W7 HXX.out HRL.out.2
              rw [← hZ, hZE] at h
              exact h)
            have HRF := Lib.hid (show ∀ W, Calls Try.prog 15 #[.string (strOfNums (b))] W fun e w' => e = .returned (.tuple #[.agg #[.int .u8 Z.m, .int .u8 Z.p, .int .u32 Z.st, .int .u64 Z.g, .string (strOfNums Z.row)], .bool false]) ∧ Below W.heap.size W w' from fun W => by
              have h := refParse_any (b) HXX.out.1.2.1 (by rw [HXX.out.1.1]; exact HRL.out.2) W
              rw [← hZ, hZO] at h
              exact h)
            have HSZ := Lib.hid (show ∀ (a : Option Addr) (k : Nat) (W : World), Arg8c W a Z.row.length k Z.row → Calls Try.prog 14 #[.agg #[.int .u8 Z.m, .int .u8 Z.p, .int .u32 Z.st, .int .u64 Z.g, .slice a Z.row.length k], .agg #[.int .u8 Z.m, .int .u8 Z.p, .int .u32 Z.st, .int .u64 Z.g, .string (strOfNums Z.row)]] W fun e w' => e = .returned (.bool true) ∧ Below W.heap.size W w' from fun a k W h => same_any Z a Z.row.length k W h)
            obtain ⟨BS, hBS⟩ : ∃ BS, BS = strOfNums (b) := ⟨_, rfl⟩
            obtain ⟨ZS, hZS⟩ : ∃ ZS, ZS = strOfNums Z.row := ⟨_, rfl⟩
            rw [← hBS, ← hZS] at HRF
            rw [← hZS] at HSZ
            have HBS := Lib.hid hBS
            clear hZ hZE hZO hZS hBS hpc
            go_upto_region 21 with (go_at_call 8; go_loud (refine HP3.out.mono ?_; rintro e w8 ⟨a8, k8, rfl, hx8, hb8⟩))
            obtain ⟨W9, hW9⟩ : ∃ W9, W9 = w8.alloc (.cells #[.int .u8 Z.m, .int .u8 Z.p, .int .u32 Z.st, .int .u64 Z.g, .slice a8 Z.row.length k8] 28) := ⟨_, rfl⟩
            have hal9 : Below w8.heap.size w8 W9 := by rw [hW9]; exact (Below.refl _ _).alloc (Nat.le_refl _) _
            have hr9 : W9.heap[w8.heap.size]? = some (.cells #[.int .u8 Z.m, .int .u8 Z.p, .int .u32 Z.st, .int .u64 Z.g, .slice a8 Z.row.length k8] 28 (0, 0)) := by rw [hW9]; exact heap_alloc_new w8 _
            have hb79 : Below W7.heap.size W7 W9 := bt hb8 hal9
            have hcv9 := arg_str HXX.out hb79
            rw [← HBS.out] at hcv9
            have HX9 := Lib.hid (show Arg8c W9 a8 Z.row.length k8 Z.row from ⟨hx8.1.on hal9, hx8.2⟩)
            have HR9 := Lib.hid hr9
            rw [← hW9]
            clear hW9 hal9 hr9 hx8 hb8
            go_upto_region 22 with (go_at_call 15; go_loud (refine (HRF.out _).mono ?_; rintro e w14 ⟨rfl, hb14⟩))
            obtain ⟨W15, hW15⟩ : ∃ W15, W15 = w14.alloc (.cells #[.int .u8 Z.m, .int .u8 Z.p, .int .u32 Z.st, .int .u64 Z.g, .string ZS] 46) := ⟨_, rfl⟩
            have hal15 : Below w14.heap.size w14 W15 := by rw [hW15]; exact (Below.refl _ _).alloc (Nat.le_refl _) _
            have hr15 : W15.heap[w14.heap.size]? = some (.cells #[.int .u8 Z.m, .int .u8 Z.p, .int .u32 Z.st, .int .u64 Z.g, .string ZS] 46 (0, 0)) := by rw [hW15]; exact heap_alloc_new w14 _
            have hb915 : Below W9.heap.size W9 W15 := bt hb14 hal15
            have HX15 := Lib.hid (show Arg8c W15 a8 Z.row.length k8 Z.row from ⟨HX9.out.1.on hb915, HX9.out.2⟩)
            obtain ⟨x0, x1, x2, x3, x4⟩ := cells5' HR9.out hb915
            obtain ⟨y0, y1, y2, y3, y4⟩ := cell5 hr15
            have HB15 := Lib.hid (show Below w.heap.size w W15 from bt hb7 (bt hb79 hb915))
            rw [← hW15]
            clear hW15 hal15 hr15 hb915 hb14 hb79 hcv9
            go_wp2_with (go_at_call 14; go_loud (refine (HSZ.out _ _ W15 HX15.out).mono ?_; rintro e w16 ⟨rfl, hb16⟩))
            go_ret
            exact ⟨rfl, bt HB15.out hb16⟩
          | some cc =>
            have hZE : pshE (b) = 0 := by unfold pshE; rw [hpc]; rfl
            have hZO : (psh (b)).isSome = true := by rw [hpc]; rfl
            obtain ⟨Z, hZ⟩ : ∃ Z, Z = pshZ (b) := ⟨_, rfl⟩
            have HP3 := Lib.hid (show Calls Try.prog 8 #[.slice (a) L (k)] W7 fun e w' => ∃ a8 k8, e = .returned (.tuple #[.agg #[.int .u8 Z.m, .int .u8 Z.p, .int .u32 Z.st, .int .u64 Z.g, .slice a8 Z.row.length k8], .int .i64 0]) ∧ Arg8c w' a8 Z.row.length k8 Z.row ∧ Below W7.heap.size W7 w' from by
              have h := hPS (a) L (k) (b) W7 HXX.out HRL.out.2
              rw [← hZ, hZE] at h
              exact h)
            have HRF := Lib.hid (show ∀ W, Calls Try.prog 15 #[.string (strOfNums (b))] W fun e w' => e = .returned (.tuple #[.agg #[.int .u8 Z.m, .int .u8 Z.p, .int .u32 Z.st, .int .u64 Z.g, .string (strOfNums Z.row)], .bool true]) ∧ Below W.heap.size W w' from fun W => by
              have h := refParse_any (b) HXX.out.1.2.1 (by rw [HXX.out.1.1]; exact HRL.out.2) W
              rw [← hZ, hZO] at h
              exact h)
            have HSZ := Lib.hid (show ∀ (a : Option Addr) (k : Nat) (W : World), Arg8c W a Z.row.length k Z.row → Calls Try.prog 14 #[.agg #[.int .u8 Z.m, .int .u8 Z.p, .int .u32 Z.st, .int .u64 Z.g, .slice a Z.row.length k], .agg #[.int .u8 Z.m, .int .u8 Z.p, .int .u32 Z.st, .int .u64 Z.g, .string (strOfNums Z.row)]] W fun e w' => e = .returned (.bool true) ∧ Below W.heap.size W w' from fun a k W h => same_any Z a Z.row.length k W h)
            obtain ⟨BS, hBS⟩ : ∃ BS, BS = strOfNums (b) := ⟨_, rfl⟩
            obtain ⟨ZS, hZS⟩ : ∃ ZS, ZS = strOfNums Z.row := ⟨_, rfl⟩
            rw [← hBS, ← hZS] at HRF
            rw [← hZS] at HSZ
            have HBS := Lib.hid hBS
            clear hZ hZE hZO hZS hBS hpc
            go_upto_region 21 with (go_at_call 8; go_loud (refine HP3.out.mono ?_; rintro e w8 ⟨a8, k8, rfl, hx8, hb8⟩))
            obtain ⟨W9, hW9⟩ : ∃ W9, W9 = w8.alloc (.cells #[.int .u8 Z.m, .int .u8 Z.p, .int .u32 Z.st, .int .u64 Z.g, .slice a8 Z.row.length k8] 28) := ⟨_, rfl⟩
            have hal9 : Below w8.heap.size w8 W9 := by rw [hW9]; exact (Below.refl _ _).alloc (Nat.le_refl _) _
            have hr9 : W9.heap[w8.heap.size]? = some (.cells #[.int .u8 Z.m, .int .u8 Z.p, .int .u32 Z.st, .int .u64 Z.g, .slice a8 Z.row.length k8] 28 (0, 0)) := by rw [hW9]; exact heap_alloc_new w8 _
            have hb79 : Below W7.heap.size W7 W9 := bt hb8 hal9
            have hcv9 := arg_str HXX.out hb79
            rw [← HBS.out] at hcv9
            have HX9 := Lib.hid (show Arg8c W9 a8 Z.row.length k8 Z.row from ⟨hx8.1.on hal9, hx8.2⟩)
            have HR9 := Lib.hid hr9
            rw [← hW9]
            clear hW9 hal9 hr9 hx8 hb8
            go_upto_region 22 with (go_at_call 15; go_loud (refine (HRF.out _).mono ?_; rintro e w14 ⟨rfl, hb14⟩))
            obtain ⟨W15, hW15⟩ : ∃ W15, W15 = w14.alloc (.cells #[.int .u8 Z.m, .int .u8 Z.p, .int .u32 Z.st, .int .u64 Z.g, .string ZS] 46) := ⟨_, rfl⟩
            have hal15 : Below w14.heap.size w14 W15 := by rw [hW15]; exact (Below.refl _ _).alloc (Nat.le_refl _) _
            have hr15 : W15.heap[w14.heap.size]? = some (.cells #[.int .u8 Z.m, .int .u8 Z.p, .int .u32 Z.st, .int .u64 Z.g, .string ZS] 46 (0, 0)) := by rw [hW15]; exact heap_alloc_new w14 _
            have hb915 : Below W9.heap.size W9 W15 := bt hb14 hal15
            have HX15 := Lib.hid (show Arg8c W15 a8 Z.row.length k8 Z.row from ⟨HX9.out.1.on hb915, HX9.out.2⟩)
            obtain ⟨x0, x1, x2, x3, x4⟩ := cells5' HR9.out hb915
            obtain ⟨y0, y1, y2, y3, y4⟩ := cell5 hr15
            have HB15 := Lib.hid (show Below w.heap.size w W15 from bt hb7 (bt hb79 hb915))
            rw [← hW15]
            clear hW15 hal15 hr15 hb915 hb14 hb79 hcv9
            go_wp2_with (go_at_call 14; go_loud (refine (HSZ.out _ _ W15 HX15.out).mono ?_; rintro e w16 ⟨rfl, hb16⟩))
            go_ret
            exact ⟨rfl, bt HB15.out hb16⟩
      · have hso := SH.S_no hok
        have hS0 : S = [] := by rw [HSE.out.1, hso.1]
        have hs3 : (SS.toList == []) = true := by rw [HSS.out, hS0, Lib.strOfNums_toList]; rfl
        have hs4 : (SS.toList != []) = false := by rw [bne, hs3]; rfl
        have hE2 : E = 2 := by rw [HSE.out.2, hso.2]
        subst hE2
        clear hok hso hS0 hBV
        go_upto_region 12 with fail
        refine wp_region_held_drew (S := fun U => Below V.heap.size V U) (by kernel_rfl) (Below.refl _ _).drew (fun hHeld => ?_)
        refine wpAnyH_take (i := 0) (oi := { dst := some 73, op := Go.Op.move (Go.Operand.tmp 18), type := 22, pos := "law.go:40", after := #[], guard := none }) (v := ?v0b1) rfl (by kernel_rfl) (by kernel_rfl) (by kernel_rfl) (fun _ _ _ h => h) (Or.inl ⟨by rfl, ?hy0b1⟩) hHeld ?rest0b1
        case hy0b1 =>
          intro W' hV
          try dsimp only at hV
          go_simp
          all_goals with_reducible rfl
        case' rest0b1 => try simp only [Act.put, List.setIfInBounds_toArray, List.set_cons_zero, List.set_cons_succ]
        refine wpAnyH_take (i := 1) (oi := { dst := some 74, op := Go.Op.convert 22 9 (Go.Operand.tmp 73), type := 9, pos := "law.go:40", after := #[{ on := 0, ground := Go.Ground.data }], guard := none }) (v := ?v1b2) rfl (by kernel_rfl) (by kernel_rfl) (by kernel_rfl) (fun _ _ _ h => h) (Or.inl ⟨by rfl, ?hy1b2⟩) hHeld ?rest1b2
        case hy1b2 =>
          intro W' hV
          try dsimp only at hV
          go_simp
          all_goals with_reducible rfl
        case' rest1b2 => try simp only [Act.put, List.setIfInBounds_toArray, List.set_cons_zero, List.set_cons_succ]
        refine wpAnyH_take (i := 2) (oi := { dst := some 75, op := Go.Op.load 46 (Go.Operand.tmp 17), type := 46, pos := "law.go:40", after := #[], guard := none }) (v := ?v2b3) rfl (by kernel_rfl) (by kernel_rfl) (by kernel_rfl) (fun _ _ _ h => h) (Or.inl ⟨by rfl, ?hy2b3⟩) hHeld ?rest2b3
        case hy2b3 =>
          intro W' hV
          try dsimp only at hV
          go_simp
          all_goals with_reducible rfl
        case' rest2b3 => try simp only [Act.put, List.setIfInBounds_toArray, List.set_cons_zero, List.set_cons_succ]
        refine wpAnyH_ready (rs := [3]) (by kernel_rfl) (by simp) ?_
        refine AllReadyH.cons (o := { dst := some 76, op := Go.Op.call { callee := Go.Callee.value (Go.Operand.func 13), args := #[Go.Operand.tmp 75], argTypes := #[46] }, type := 9, pos := "law.go:40", after := #[{ on := 2, ground := Go.Ground.data }], guard := none }) rfl (fun K' hK => ?_) AllReadyH.nil
        rw [if_pos (by rfl)]
        go_simp
        go_wp2_with (go_at_call 13; go_loud ((with_reducible refine (HRB.out _ (by first | assumption | exact hHeld)).mono ?_); rintro e w9 ⟨rfl, hw9⟩))
        refine hK.out _ _ hw9 (fun hHeld1 => ?_)
        clear hK K' hHeld
        have hHeld := hHeld1
        clear hHeld1
        try simp only [Act.put, List.setIfInBounds_toArray, List.set_cons_zero, List.set_cons_succ]
        refine wpAnyH_take (i := 4) (oi := { dst := some 77, op := Go.Op.binOp Go.BinOp.neq 9 (Go.Operand.tmp 74) (Go.Operand.tmp 76) 9, type := 4, pos := "law.go:40", after := #[{ on := 1, ground := Go.Ground.data }, { on := 3, ground := Go.Ground.data }], guard := none }) (v := ?v4b4) rfl (by kernel_rfl) (by kernel_rfl) (by kernel_rfl) (fun _ _ _ h => h) (Or.inl ⟨by rfl, ?hy4b4⟩) hHeld ?rest4b4
        case hy4b4 =>
          intro W' hV
          try dsimp only at hV
          go_simp
          all_goals with_reducible rfl
        case' rest4b4 => try simp only [Act.put, List.setIfInBounds_toArray, List.set_cons_zero, List.set_cons_succ]
        refine wpAnyH_take (i := 5) (oi := { dst := some 78, op := Go.Op.move (Go.Operand.tmp 77), type := 4, pos := "law.go:40", after := #[{ on := 4, ground := Go.Ground.data }, { on := 3, ground := Go.Ground.chain }], guard := none }) (v := ?v5b5) rfl (by kernel_rfl) (by kernel_rfl) (by kernel_rfl) (fun _ _ _ h => h) (Or.inl ⟨by rfl, ?hy5b5⟩) hHeld ?rest5b5
        case hy5b5 =>
          intro W' hV
          try dsimp only at hV
          go_simp
          all_goals with_reducible rfl
        case' rest5b5 => try simp only [Act.put, List.setIfInBounds_toArray, List.set_cons_zero, List.set_cons_succ]
        refine wpAnyH_take (i := 6) (oi := { dst := some 79, op := Go.Op.move (Go.Operand.tmp 19), type := 29, pos := "law.go:40", after := #[{ on := 5, ground := Go.Ground.guard }], guard := some (5, false) }) (v := ?v6b6) rfl (by kernel_rfl) (by kernel_rfl) (by kernel_rfl) (fun _ _ _ h => h) (Or.inl ⟨by rfl, ?hy6b6⟩) hHeld ?rest6b6
        case hy6b6 =>
          intro W' hV
          try dsimp only at hV
          go_simp
          all_goals with_reducible rfl
        case' rest6b6 => try simp only [Act.put, List.setIfInBounds_toArray, List.set_cons_zero, List.set_cons_succ]
        refine wpAnyH_take (i := 7) (oi := { dst := some 80, op := Go.Op.binOp Go.BinOp.eql 29 (Go.Operand.tmp 79) (Go.Operand.const (Go.Value.int Go.IntKind.i64 0)) 29, type := 4, pos := "law.go:40", after := #[{ on := 6, ground := Go.Ground.data }, { on := 5, ground := Go.Ground.guard }], guard := some (5, false) }) (v := ?v7b7) rfl (by kernel_rfl) (by kernel_rfl) (by kernel_rfl) (fun _ _ _ h => h) (Or.inl ⟨by rfl, ?hy7b7⟩) hHeld ?rest7b7
        case hy7b7 =>
          intro W' hV
          try dsimp only at hV
          go_simp
          all_goals with_reducible rfl
        case' rest7b7 => try simp only [Act.put, List.setIfInBounds_toArray, List.set_cons_zero, List.set_cons_succ]
        refine wpAnyH_take (i := 8) (oi := { dst := some 81, op := Go.Op.load 46 (Go.Operand.tmp 17), type := 46, pos := "law.go:40", after := #[{ on := 5, ground := Go.Ground.guard }], guard := some (5, false) }) (v := ?v8b8) rfl (by kernel_rfl) (by kernel_rfl) (by kernel_rfl) (fun _ _ _ h => h) (Or.inl ⟨by rfl, ?hy8b8⟩) hHeld ?rest8b8
        case hy8b8 =>
          intro W' hV
          try dsimp only at hV
          go_simp
          all_goals with_reducible rfl
        case' rest8b8 => try simp only [Act.put, List.setIfInBounds_toArray, List.set_cons_zero, List.set_cons_succ]
        refine wpAnyH_ready (rs := [9]) (by kernel_rfl) (by simp) ?_
        refine AllReadyH.cons (o := { dst := some 82, op := Go.Op.call { callee := Go.Callee.value (Go.Operand.func 13), args := #[Go.Operand.tmp 81], argTypes := #[46] }, type := 9, pos := "law.go:40", after := #[{ on := 8, ground := Go.Ground.data }, { on := 5, ground := Go.Ground.chain }, { on := 5, ground := Go.Ground.guard }], guard := some (5, false) }) rfl (fun K' hK => ?_) AllReadyH.nil
        rw [if_pos (by rfl)]
        go_simp
        go_wp2_with (go_at_call 13; go_loud ((with_reducible refine (HRB.out _ (by first | assumption | exact hHeld)).mono ?_); rintro e w10 ⟨rfl, hw10⟩))
        refine hK.out _ _ hw10 (fun hHeld1 => ?_)
        clear hK K' hHeld
        have hHeld := hHeld1
        clear hHeld1
        try simp only [Act.put, List.setIfInBounds_toArray, List.set_cons_zero, List.set_cons_succ]
        refine wpAnyH_take (i := 10) (oi := { dst := some 83, op := Go.Op.binOp Go.BinOp.neq 9 (Go.Operand.tmp 82) (Go.Operand.const (Go.Value.string { data := #[] })) 9, type := 4, pos := "law.go:40", after := #[{ on := 9, ground := Go.Ground.data }, { on := 5, ground := Go.Ground.guard }], guard := some (5, false) }) (v := ?v10b9) rfl (by kernel_rfl) (by kernel_rfl) (by kernel_rfl) (fun _ _ _ h => h) (Or.inl ⟨by rfl, ?hy10b9⟩) hHeld ?rest10b9
        case hy10b9 =>
          intro W' hV
          try dsimp only at hV
          go_simp
          all_goals with_reducible rfl
        case' rest10b9 => try simp only [Act.put, List.setIfInBounds_toArray, List.set_cons_zero, List.set_cons_succ]
        refine wpAnyH_take (i := 11) (oi := { dst := some 84, op := Go.Op.binOp Go.BinOp.neq 4 (Go.Operand.tmp 80) (Go.Operand.tmp 83) 4, type := 4, pos := "law.go:40", after := #[{ on := 7, ground := Go.Ground.data }, { on := 10, ground := Go.Ground.data }, { on := 5, ground := Go.Ground.guard }], guard := some (5, false) }) (v := ?v11b10) rfl (by kernel_rfl) (by kernel_rfl) (by kernel_rfl) (fun _ _ _ h => h) (Or.inl ⟨by rfl, ?hy11b10⟩) hHeld ?rest11b10
        case hy11b10 =>
          intro W' hV
          try dsimp only at hV
          go_simp
          all_goals with_reducible rfl
        case' rest11b10 => try simp only [Act.put, List.setIfInBounds_toArray, List.set_cons_zero, List.set_cons_succ]
        refine wpAnyH_take (i := 12) (oi := { dst := some 85, op := Go.Op.pick (Go.Operand.tmp 78) (Go.Operand.const (Go.Value.bool true)) (Go.Operand.tmp 84), type := 4, pos := "law.go:40", after := #[{ on := 5, ground := Go.Ground.data }, { on := 11, ground := Go.Ground.data }], guard := none }) (v := ?v12b11) rfl (by kernel_rfl) (by kernel_rfl) (by kernel_rfl) (fun _ _ _ h => h) (Or.inl ⟨by rfl, ?hy12b11⟩) hHeld ?rest12b11
        case hy12b11 =>
          intro W' hV
          try dsimp only at hV
          go_simp
          all_goals with_reducible rfl
        case' rest12b11 => try simp only [Act.put, List.setIfInBounds_toArray, List.set_cons_zero, List.set_cons_succ]
        refine wpAnyH_take (i := 13) (oi := { dst := some 86, op := Go.Op.move (Go.Operand.tmp 85), type := 4, pos := "law.go:40", after := #[{ on := 12, ground := Go.Ground.data }, { on := 9, ground := Go.Ground.chain }], guard := none }) (v := ?v13b12) rfl (by kernel_rfl) (by kernel_rfl) (by kernel_rfl) (fun _ _ _ h => h) (Or.inl ⟨by rfl, ?hy13b12⟩) hHeld ?rest13b12
        case hy13b12 =>
          intro W' hV
          try dsimp only at hV
          go_simp
          all_goals with_reducible rfl
        case' rest13b12 => try simp only [Act.put, List.setIfInBounds_toArray, List.set_cons_zero, List.set_cons_succ]
        refine wpAnyH_take (i := 14) (oi := { dst := some 87, op := Go.Op.move (Go.Operand.tmp 19), type := 29, pos := "law.go:40", after := #[{ on := 13, ground := Go.Ground.guard }], guard := some (13, false) }) (v := ?v14b13) rfl (by kernel_rfl) (by kernel_rfl) (by kernel_rfl) (fun _ _ _ h => h) (Or.inl ⟨by rfl, ?hy14b13⟩) hHeld ?rest14b13
        case hy14b13 =>
          intro W' hV
          try dsimp only at hV
          go_simp
          all_goals with_reducible rfl
        case' rest14b13 => try simp only [Act.put, List.setIfInBounds_toArray, List.set_cons_zero, List.set_cons_succ]
        refine wpAnyH_take (i := 15) (oi := { dst := some 88, op := Go.Op.binOp Go.BinOp.neq 29 (Go.Operand.tmp 87) (Go.Operand.const (Go.Value.int Go.IntKind.i64 0)) 29, type := 4, pos := "law.go:40", after := #[{ on := 14, ground := Go.Ground.data }, { on := 13, ground := Go.Ground.guard }], guard := some (13, false) }) (v := ?v15b14) rfl (by kernel_rfl) (by kernel_rfl) (by kernel_rfl) (fun _ _ _ h => h) (Or.inl ⟨by rfl, ?hy15b14⟩) hHeld ?rest15b14
        case hy15b14 =>
          intro W' hV
          try dsimp only at hV
          go_simp
          all_goals with_reducible rfl
        case' rest15b14 => try simp only [Act.put, List.setIfInBounds_toArray, List.set_cons_zero, List.set_cons_succ]
        refine wpAnyH_take (i := 16) (oi := { dst := some 89, op := Go.Op.move (Go.Operand.tmp 88), type := 4, pos := "law.go:40", after := #[{ on := 15, ground := Go.Ground.data }, { on := 13, ground := Go.Ground.chain }, { on := 13, ground := Go.Ground.guard }], guard := some (13, false) }) (v := ?v16b15) rfl (by kernel_rfl) (by kernel_rfl) (by kernel_rfl) (fun _ _ _ h => h) (Or.inl ⟨by rfl, ?hy16b15⟩) hHeld ?rest16b15
        case hy16b15 =>
          intro W' hV
          try dsimp only at hV
          go_simp
          all_goals with_reducible rfl
        case' rest16b15 => try simp only [Act.put, List.setIfInBounds_toArray, List.set_cons_zero, List.set_cons_succ]
        refine wpAnyH_take (i := 17) (oi := { dst := some 90, op := Go.Op.move (Go.Operand.tmp 19), type := 29, pos := "law.go:40", after := #[{ on := 16, ground := Go.Ground.guard }], guard := some (16, true) }) (v := ?v17b16) rfl (by kernel_rfl) (by kernel_rfl) (by kernel_rfl) (fun _ _ _ h => h) (Or.inl ⟨by rfl, ?hy17b16⟩) hHeld ?rest17b16
        case hy17b16 =>
          intro W' hV
          try dsimp only at hV
          go_simp
          all_goals with_reducible rfl
        case' rest17b16 => try simp only [Act.put, List.setIfInBounds_toArray, List.set_cons_zero, List.set_cons_succ]
        refine wpAnyH_take (i := 18) (oi := { dst := some 91, op := Go.Op.binOp Go.BinOp.neq 29 (Go.Operand.tmp 90) (Go.Operand.const (Go.Value.int Go.IntKind.i64 2)) 29, type := 4, pos := "law.go:40", after := #[{ on := 17, ground := Go.Ground.data }, { on := 16, ground := Go.Ground.guard }], guard := some (16, true) }) (v := ?v18b17) rfl (by kernel_rfl) (by kernel_rfl) (by kernel_rfl) (fun _ _ _ h => h) (Or.inl ⟨by rfl, ?hy18b17⟩) hHeld ?rest18b17
        case hy18b17 =>
          intro W' hV
          try dsimp only at hV
          go_simp
          all_goals with_reducible rfl
        case' rest18b17 => try simp only [Act.put, List.setIfInBounds_toArray, List.set_cons_zero, List.set_cons_succ]
        refine wpAnyH_take (i := 19) (oi := { dst := some 92, op := Go.Op.pick (Go.Operand.tmp 89) (Go.Operand.tmp 91) (Go.Operand.const (Go.Value.bool false)), type := 4, pos := "law.go:40", after := #[{ on := 16, ground := Go.Ground.data }, { on := 18, ground := Go.Ground.data }, { on := 13, ground := Go.Ground.guard }], guard := some (13, false) }) (v := ?v19b18) rfl (by kernel_rfl) (by kernel_rfl) (by kernel_rfl) (fun _ _ _ h => h) (Or.inl ⟨by rfl, ?hy19b18⟩) hHeld ?rest19b18
        case hy19b18 =>
          intro W' hV
          try dsimp only at hV
          go_simp
          all_goals with_reducible rfl
        case' rest19b18 => try simp only [Act.put, List.setIfInBounds_toArray, List.set_cons_zero, List.set_cons_succ]
        refine wpAnyH_take (i := 20) (oi := { dst := some 93, op := Go.Op.pick (Go.Operand.tmp 86) (Go.Operand.const (Go.Value.bool true)) (Go.Operand.tmp 92), type := 4, pos := "law.go:40", after := #[{ on := 13, ground := Go.Ground.data }, { on := 19, ground := Go.Ground.data }], guard := none }) (v := ?v20b19) rfl (by kernel_rfl) (by kernel_rfl) (by kernel_rfl) (fun _ _ _ h => h) (Or.inl ⟨by rfl, ?hy20b19⟩) hHeld ?rest20b19
        case hy20b19 =>
          intro W' hV
          try dsimp only at hV
          go_simp
          all_goals with_reducible rfl
        case' rest20b19 => try simp only [Act.put, List.setIfInBounds_toArray, List.set_cons_zero, List.set_cons_succ]
        refine wpAnyH_done (by kernel_rfl) ?_ _
        clear hHeld
        go_upto_region 18 with fail
        obtain ⟨W6, hW6⟩ : ∃ W6, W6 = w10 := ⟨_, rfl⟩
        have hb6 : Below w.heap.size w W6 := by rw [hW6]; exact bt HBV.out hw10
        rw [← hW6]
        clear hW6 hw10 hw9 z0 z1 z2 z3 z4 hcv
        have HMD := Lib.hid (show ∀ W, Below w.heap.size w W → Calls Try.prog 7 #[.slice a L k] W fun e w' => ∃ g, e = .returned (.slice (some ⟨g, 0, none⟩) 512 512) ∧ Arg8c w' (some ⟨g, 0, none⟩) 512 512 (madeL b) ∧ Below w.heap.size w w' from fun W hW => (made_any a L k b W ⟨HA.out.1.on hW, HA.out.2⟩).mono fun e w' ⟨g, h1, h2, _, h4⟩ => ⟨g, h1, h2, bt hW h4⟩)
        cases whole with
        | true =>
          go_upto_region 20 with (go_at_call 7; go_loud (refine (HMD.out _ hb6).mono ?_; rintro e w7 ⟨g5, rfl, hx7, hb7⟩))
          obtain ⟨W7, hW7⟩ : ∃ W7, W7 = w7 := ⟨_, rfl⟩
          subst hW7
          have HXX := Lib.hid hx7
          clear hx7
          cases hpc : psh (madeL b) with
          | none =>
            have hZE : pshE (madeL b) = 3 := by unfold pshE; rw [hpc]; rfl
            have hZO : (psh (madeL b)).isSome = false := by rw [hpc]; rfl
            obtain ⟨Z, hZ⟩ : ∃ Z, Z = pshZ (madeL b) := ⟨_, rfl⟩
            have HP3 := Lib.hid (show Calls Try.prog 8 #[.slice (some ⟨g5, 0, none⟩) 512 (512)] W7 fun e w' => ∃ a8 k8, e = .returned (.tuple #[.agg #[.int .u8 Z.m, .int .u8 Z.p, .int .u32 Z.st, .int .u64 Z.g, .slice a8 Z.row.length k8], .int .i64 3]) ∧ Arg8c w' a8 Z.row.length k8 Z.row ∧ Below W7.heap.size W7 w' from by
              have h := hPS (some ⟨g5, 0, none⟩) 512 (512) (madeL b) W7 HXX.out (by omega)
              rw [← hZ, hZE] at h
              exact h)
            have HRF := Lib.hid (show ∀ W, Calls Try.prog 15 #[.string (strOfNums (madeL b))] W fun e w' => e = .returned (.tuple #[.agg #[.int .u8 Z.m, .int .u8 Z.p, .int .u32 Z.st, .int .u64 Z.g, .string (strOfNums Z.row)], .bool false]) ∧ Below W.heap.size W w' from fun W => by
              have h := refParse_any (madeL b) HXX.out.1.2.1 (by rw [HXX.out.1.1]; exact (by omega)) W
              rw [← hZ, hZO] at h
              exact h)
            have HSZ := Lib.hid (show ∀ (a : Option Addr) (k : Nat) (W : World), Arg8c W a Z.row.length k Z.row → Calls Try.prog 14 #[.agg #[.int .u8 Z.m, .int .u8 Z.p, .int .u32 Z.st, .int .u64 Z.g, .slice a Z.row.length k], .agg #[.int .u8 Z.m, .int .u8 Z.p, .int .u32 Z.st, .int .u64 Z.g, .string (strOfNums Z.row)]] W fun e w' => e = .returned (.bool true) ∧ Below W.heap.size W w' from fun a k W h => same_any Z a Z.row.length k W h)
            obtain ⟨BS, hBS⟩ : ∃ BS, BS = strOfNums (madeL b) := ⟨_, rfl⟩
            obtain ⟨ZS, hZS⟩ : ∃ ZS, ZS = strOfNums Z.row := ⟨_, rfl⟩
            rw [← hBS, ← hZS] at HRF
            rw [← hZS] at HSZ
            have HBS := Lib.hid hBS
            clear hZ hZE hZO hZS hBS hpc
            go_upto_region 21 with (go_at_call 8; go_loud (refine HP3.out.mono ?_; rintro e w8 ⟨a8, k8, rfl, hx8, hb8⟩))
            obtain ⟨W9, hW9⟩ : ∃ W9, W9 = w8.alloc (.cells #[.int .u8 Z.m, .int .u8 Z.p, .int .u32 Z.st, .int .u64 Z.g, .slice a8 Z.row.length k8] 28) := ⟨_, rfl⟩
            have hal9 : Below w8.heap.size w8 W9 := by rw [hW9]; exact (Below.refl _ _).alloc (Nat.le_refl _) _
            have hr9 : W9.heap[w8.heap.size]? = some (.cells #[.int .u8 Z.m, .int .u8 Z.p, .int .u32 Z.st, .int .u64 Z.g, .slice a8 Z.row.length k8] 28 (0, 0)) := by rw [hW9]; exact heap_alloc_new w8 _
            have hb79 : Below W7.heap.size W7 W9 := bt hb8 hal9
            have hcv9 := arg_str HXX.out hb79
            rw [← HBS.out] at hcv9
            have HX9 := Lib.hid (show Arg8c W9 a8 Z.row.length k8 Z.row from ⟨hx8.1.on hal9, hx8.2⟩)
            have HR9 := Lib.hid hr9
            rw [← hW9]
            clear hW9 hal9 hr9 hx8 hb8
            go_upto_region 22 with (go_at_call 15; go_loud (refine (HRF.out _).mono ?_; rintro e w14 ⟨rfl, hb14⟩))
            obtain ⟨W15, hW15⟩ : ∃ W15, W15 = w14.alloc (.cells #[.int .u8 Z.m, .int .u8 Z.p, .int .u32 Z.st, .int .u64 Z.g, .string ZS] 46) := ⟨_, rfl⟩
            have hal15 : Below w14.heap.size w14 W15 := by rw [hW15]; exact (Below.refl _ _).alloc (Nat.le_refl _) _
            have hr15 : W15.heap[w14.heap.size]? = some (.cells #[.int .u8 Z.m, .int .u8 Z.p, .int .u32 Z.st, .int .u64 Z.g, .string ZS] 46 (0, 0)) := by rw [hW15]; exact heap_alloc_new w14 _
            have hb915 : Below W9.heap.size W9 W15 := bt hb14 hal15
            have HX15 := Lib.hid (show Arg8c W15 a8 Z.row.length k8 Z.row from ⟨HX9.out.1.on hb915, HX9.out.2⟩)
            obtain ⟨x0, x1, x2, x3, x4⟩ := cells5' HR9.out hb915
            obtain ⟨y0, y1, y2, y3, y4⟩ := cell5 hr15
            have HB15 := Lib.hid (show Below w.heap.size w W15 from bt hb7 (bt hb79 hb915))
            rw [← hW15]
            clear hW15 hal15 hr15 hb915 hb14 hb79 hcv9
            go_wp2_with (go_at_call 14; go_loud (refine (HSZ.out _ _ W15 HX15.out).mono ?_; rintro e w16 ⟨rfl, hb16⟩))
            go_ret
            exact ⟨rfl, bt HB15.out hb16⟩
          | some cc =>
            have hZE : pshE (madeL b) = 0 := by unfold pshE; rw [hpc]; rfl
            have hZO : (psh (madeL b)).isSome = true := by rw [hpc]; rfl
            obtain ⟨Z, hZ⟩ : ∃ Z, Z = pshZ (madeL b) := ⟨_, rfl⟩
            have HP3 := Lib.hid (show Calls Try.prog 8 #[.slice (some ⟨g5, 0, none⟩) 512 (512)] W7 fun e w' => ∃ a8 k8, e = .returned (.tuple #[.agg #[.int .u8 Z.m, .int .u8 Z.p, .int .u32 Z.st, .int .u64 Z.g, .slice a8 Z.row.length k8], .int .i64 0]) ∧ Arg8c w' a8 Z.row.length k8 Z.row ∧ Below W7.heap.size W7 w' from by
              have h := hPS (some ⟨g5, 0, none⟩) 512 (512) (madeL b) W7 HXX.out (by omega)
              rw [← hZ, hZE] at h
              exact h)
            have HRF := Lib.hid (show ∀ W, Calls Try.prog 15 #[.string (strOfNums (madeL b))] W fun e w' => e = .returned (.tuple #[.agg #[.int .u8 Z.m, .int .u8 Z.p, .int .u32 Z.st, .int .u64 Z.g, .string (strOfNums Z.row)], .bool true]) ∧ Below W.heap.size W w' from fun W => by
              have h := refParse_any (madeL b) HXX.out.1.2.1 (by rw [HXX.out.1.1]; exact (by omega)) W
              rw [← hZ, hZO] at h
              exact h)
            have HSZ := Lib.hid (show ∀ (a : Option Addr) (k : Nat) (W : World), Arg8c W a Z.row.length k Z.row → Calls Try.prog 14 #[.agg #[.int .u8 Z.m, .int .u8 Z.p, .int .u32 Z.st, .int .u64 Z.g, .slice a Z.row.length k], .agg #[.int .u8 Z.m, .int .u8 Z.p, .int .u32 Z.st, .int .u64 Z.g, .string (strOfNums Z.row)]] W fun e w' => e = .returned (.bool true) ∧ Below W.heap.size W w' from fun a k W h => same_any Z a Z.row.length k W h)
            obtain ⟨BS, hBS⟩ : ∃ BS, BS = strOfNums (madeL b) := ⟨_, rfl⟩
            obtain ⟨ZS, hZS⟩ : ∃ ZS, ZS = strOfNums Z.row := ⟨_, rfl⟩
            rw [← hBS, ← hZS] at HRF
            rw [← hZS] at HSZ
            have HBS := Lib.hid hBS
            clear hZ hZE hZO hZS hBS hpc
            go_upto_region 21 with (go_at_call 8; go_loud (refine HP3.out.mono ?_; rintro e w8 ⟨a8, k8, rfl, hx8, hb8⟩))
            obtain ⟨W9, hW9⟩ : ∃ W9, W9 = w8.alloc (.cells #[.int .u8 Z.m, .int .u8 Z.p, .int .u32 Z.st, .int .u64 Z.g, .slice a8 Z.row.length k8] 28) := ⟨_, rfl⟩
            have hal9 : Below w8.heap.size w8 W9 := by rw [hW9]; exact (Below.refl _ _).alloc (Nat.le_refl _) _
            have hr9 : W9.heap[w8.heap.size]? = some (.cells #[.int .u8 Z.m, .int .u8 Z.p, .int .u32 Z.st, .int .u64 Z.g, .slice a8 Z.row.length k8] 28 (0, 0)) := by rw [hW9]; exact heap_alloc_new w8 _
            have hb79 : Below W7.heap.size W7 W9 := bt hb8 hal9
            have hcv9 := arg_str HXX.out hb79
            rw [← HBS.out] at hcv9
            have HX9 := Lib.hid (show Arg8c W9 a8 Z.row.length k8 Z.row from ⟨hx8.1.on hal9, hx8.2⟩)
            have HR9 := Lib.hid hr9
            rw [← hW9]
            clear hW9 hal9 hr9 hx8 hb8
            go_upto_region 22 with (go_at_call 15; go_loud (refine (HRF.out _).mono ?_; rintro e w14 ⟨rfl, hb14⟩))
            obtain ⟨W15, hW15⟩ : ∃ W15, W15 = w14.alloc (.cells #[.int .u8 Z.m, .int .u8 Z.p, .int .u32 Z.st, .int .u64 Z.g, .string ZS] 46) := ⟨_, rfl⟩
            have hal15 : Below w14.heap.size w14 W15 := by rw [hW15]; exact (Below.refl _ _).alloc (Nat.le_refl _) _
            have hr15 : W15.heap[w14.heap.size]? = some (.cells #[.int .u8 Z.m, .int .u8 Z.p, .int .u32 Z.st, .int .u64 Z.g, .string ZS] 46 (0, 0)) := by rw [hW15]; exact heap_alloc_new w14 _
            have hb915 : Below W9.heap.size W9 W15 := bt hb14 hal15
            have HX15 := Lib.hid (show Arg8c W15 a8 Z.row.length k8 Z.row from ⟨HX9.out.1.on hb915, HX9.out.2⟩)
            obtain ⟨x0, x1, x2, x3, x4⟩ := cells5' HR9.out hb915
            obtain ⟨y0, y1, y2, y3, y4⟩ := cell5 hr15
            have HB15 := Lib.hid (show Below w.heap.size w W15 from bt hb7 (bt hb79 hb915))
            rw [← hW15]
            clear hW15 hal15 hr15 hb915 hb14 hb79 hcv9
            go_wp2_with (go_at_call 14; go_loud (refine (HSZ.out _ _ W15 HX15.out).mono ?_; rintro e w16 ⟨rfl, hb16⟩))
            go_ret
            exact ⟨rfl, bt HB15.out hb16⟩
        | false =>
          go_upto_region 20 with fail
          obtain ⟨W7, hW7⟩ : ∃ W7, W7 = W6 := ⟨_, rfl⟩
          have hb7 : Below w.heap.size w W7 := by rw [hW7]; exact hb6
          rw [← hW7]
          have HXX := Lib.hid (show Arg8c W7 a L k b from ⟨HA.out.1.on hb7, HA.out.2⟩)
          clear hW7
          cases hpc : psh b with
          | none =>
            have hZE : pshE (b) = 3 := by unfold pshE; rw [hpc]; rfl
            have hZO : (psh (b)).isSome = false := by rw [hpc]; rfl
            obtain ⟨Z, hZ⟩ : ∃ Z, Z = pshZ (b) := ⟨_, rfl⟩
            have HP3 := Lib.hid (show Calls Try.prog 8 #[.slice (a) L (k)] W7 fun e w' => ∃ a8 k8, e = .returned (.tuple #[.agg #[.int .u8 Z.m, .int .u8 Z.p, .int .u32 Z.st, .int .u64 Z.g, .slice a8 Z.row.length k8], .int .i64 3]) ∧ Arg8c w' a8 Z.row.length k8 Z.row ∧ Below W7.heap.size W7 w' from by
              have h := hPS (a) L (k) (b) W7 HXX.out HRL.out.2
              rw [← hZ, hZE] at h
              exact h)
            have HRF := Lib.hid (show ∀ W, Calls Try.prog 15 #[.string (strOfNums (b))] W fun e w' => e = .returned (.tuple #[.agg #[.int .u8 Z.m, .int .u8 Z.p, .int .u32 Z.st, .int .u64 Z.g, .string (strOfNums Z.row)], .bool false]) ∧ Below W.heap.size W w' from fun W => by
              have h := refParse_any (b) HXX.out.1.2.1 (by rw [HXX.out.1.1]; exact HRL.out.2) W
              rw [← hZ, hZO] at h
              exact h)
            have HSZ := Lib.hid (show ∀ (a : Option Addr) (k : Nat) (W : World), Arg8c W a Z.row.length k Z.row → Calls Try.prog 14 #[.agg #[.int .u8 Z.m, .int .u8 Z.p, .int .u32 Z.st, .int .u64 Z.g, .slice a Z.row.length k], .agg #[.int .u8 Z.m, .int .u8 Z.p, .int .u32 Z.st, .int .u64 Z.g, .string (strOfNums Z.row)]] W fun e w' => e = .returned (.bool true) ∧ Below W.heap.size W w' from fun a k W h => same_any Z a Z.row.length k W h)
            obtain ⟨BS, hBS⟩ : ∃ BS, BS = strOfNums (b) := ⟨_, rfl⟩
            obtain ⟨ZS, hZS⟩ : ∃ ZS, ZS = strOfNums Z.row := ⟨_, rfl⟩
            rw [← hBS, ← hZS] at HRF
            rw [← hZS] at HSZ
            have HBS := Lib.hid hBS
            clear hZ hZE hZO hZS hBS hpc
            go_upto_region 21 with (go_at_call 8; go_loud (refine HP3.out.mono ?_; rintro e w8 ⟨a8, k8, rfl, hx8, hb8⟩))
            obtain ⟨W9, hW9⟩ : ∃ W9, W9 = w8.alloc (.cells #[.int .u8 Z.m, .int .u8 Z.p, .int .u32 Z.st, .int .u64 Z.g, .slice a8 Z.row.length k8] 28) := ⟨_, rfl⟩
            have hal9 : Below w8.heap.size w8 W9 := by rw [hW9]; exact (Below.refl _ _).alloc (Nat.le_refl _) _
            have hr9 : W9.heap[w8.heap.size]? = some (.cells #[.int .u8 Z.m, .int .u8 Z.p, .int .u32 Z.st, .int .u64 Z.g, .slice a8 Z.row.length k8] 28 (0, 0)) := by rw [hW9]; exact heap_alloc_new w8 _
            have hb79 : Below W7.heap.size W7 W9 := bt hb8 hal9
            have hcv9 := arg_str HXX.out hb79
            rw [← HBS.out] at hcv9
            have HX9 := Lib.hid (show Arg8c W9 a8 Z.row.length k8 Z.row from ⟨hx8.1.on hal9, hx8.2⟩)
            have HR9 := Lib.hid hr9
            rw [← hW9]
            clear hW9 hal9 hr9 hx8 hb8
            go_upto_region 22 with (go_at_call 15; go_loud (refine (HRF.out _).mono ?_; rintro e w14 ⟨rfl, hb14⟩))
            obtain ⟨W15, hW15⟩ : ∃ W15, W15 = w14.alloc (.cells #[.int .u8 Z.m, .int .u8 Z.p, .int .u32 Z.st, .int .u64 Z.g, .string ZS] 46) := ⟨_, rfl⟩
            have hal15 : Below w14.heap.size w14 W15 := by rw [hW15]; exact (Below.refl _ _).alloc (Nat.le_refl _) _
            have hr15 : W15.heap[w14.heap.size]? = some (.cells #[.int .u8 Z.m, .int .u8 Z.p, .int .u32 Z.st, .int .u64 Z.g, .string ZS] 46 (0, 0)) := by rw [hW15]; exact heap_alloc_new w14 _
            have hb915 : Below W9.heap.size W9 W15 := bt hb14 hal15
            have HX15 := Lib.hid (show Arg8c W15 a8 Z.row.length k8 Z.row from ⟨HX9.out.1.on hb915, HX9.out.2⟩)
            obtain ⟨x0, x1, x2, x3, x4⟩ := cells5' HR9.out hb915
            obtain ⟨y0, y1, y2, y3, y4⟩ := cell5 hr15
            have HB15 := Lib.hid (show Below w.heap.size w W15 from bt hb7 (bt hb79 hb915))
            rw [← hW15]
            clear hW15 hal15 hr15 hb915 hb14 hb79 hcv9
            go_wp2_with (go_at_call 14; go_loud (refine (HSZ.out _ _ W15 HX15.out).mono ?_; rintro e w16 ⟨rfl, hb16⟩))
            go_ret
            exact ⟨rfl, bt HB15.out hb16⟩
          | some cc =>
            have hZE : pshE (b) = 0 := by unfold pshE; rw [hpc]; rfl
            have hZO : (psh (b)).isSome = true := by rw [hpc]; rfl
            obtain ⟨Z, hZ⟩ : ∃ Z, Z = pshZ (b) := ⟨_, rfl⟩
            have HP3 := Lib.hid (show Calls Try.prog 8 #[.slice (a) L (k)] W7 fun e w' => ∃ a8 k8, e = .returned (.tuple #[.agg #[.int .u8 Z.m, .int .u8 Z.p, .int .u32 Z.st, .int .u64 Z.g, .slice a8 Z.row.length k8], .int .i64 0]) ∧ Arg8c w' a8 Z.row.length k8 Z.row ∧ Below W7.heap.size W7 w' from by
              have h := hPS (a) L (k) (b) W7 HXX.out HRL.out.2
              rw [← hZ, hZE] at h
              exact h)
            have HRF := Lib.hid (show ∀ W, Calls Try.prog 15 #[.string (strOfNums (b))] W fun e w' => e = .returned (.tuple #[.agg #[.int .u8 Z.m, .int .u8 Z.p, .int .u32 Z.st, .int .u64 Z.g, .string (strOfNums Z.row)], .bool true]) ∧ Below W.heap.size W w' from fun W => by
              have h := refParse_any (b) HXX.out.1.2.1 (by rw [HXX.out.1.1]; exact HRL.out.2) W
              rw [← hZ, hZO] at h
              exact h)
            have HSZ := Lib.hid (show ∀ (a : Option Addr) (k : Nat) (W : World), Arg8c W a Z.row.length k Z.row → Calls Try.prog 14 #[.agg #[.int .u8 Z.m, .int .u8 Z.p, .int .u32 Z.st, .int .u64 Z.g, .slice a Z.row.length k], .agg #[.int .u8 Z.m, .int .u8 Z.p, .int .u32 Z.st, .int .u64 Z.g, .string (strOfNums Z.row)]] W fun e w' => e = .returned (.bool true) ∧ Below W.heap.size W w' from fun a k W h => same_any Z a Z.row.length k W h)
            obtain ⟨BS, hBS⟩ : ∃ BS, BS = strOfNums (b) := ⟨_, rfl⟩
            obtain ⟨ZS, hZS⟩ : ∃ ZS, ZS = strOfNums Z.row := ⟨_, rfl⟩
            rw [← hBS, ← hZS] at HRF
            rw [← hZS] at HSZ
            have HBS := Lib.hid hBS
            clear hZ hZE hZO hZS hBS hpc
            go_upto_region 21 with (go_at_call 8; go_loud (refine HP3.out.mono ?_; rintro e w8 ⟨a8, k8, rfl, hx8, hb8⟩))
            obtain ⟨W9, hW9⟩ : ∃ W9, W9 = w8.alloc (.cells #[.int .u8 Z.m, .int .u8 Z.p, .int .u32 Z.st, .int .u64 Z.g, .slice a8 Z.row.length k8] 28) := ⟨_, rfl⟩
            have hal9 : Below w8.heap.size w8 W9 := by rw [hW9]; exact (Below.refl _ _).alloc (Nat.le_refl _) _
            have hr9 : W9.heap[w8.heap.size]? = some (.cells #[.int .u8 Z.m, .int .u8 Z.p, .int .u32 Z.st, .int .u64 Z.g, .slice a8 Z.row.length k8] 28 (0, 0)) := by rw [hW9]; exact heap_alloc_new w8 _
            have hb79 : Below W7.heap.size W7 W9 := bt hb8 hal9
            have hcv9 := arg_str HXX.out hb79
            rw [← HBS.out] at hcv9
            have HX9 := Lib.hid (show Arg8c W9 a8 Z.row.length k8 Z.row from ⟨hx8.1.on hal9, hx8.2⟩)
            have HR9 := Lib.hid hr9
            rw [← hW9]
            clear hW9 hal9 hr9 hx8 hb8
            go_upto_region 22 with (go_at_call 15; go_loud (refine (HRF.out _).mono ?_; rintro e w14 ⟨rfl, hb14⟩))
            obtain ⟨W15, hW15⟩ : ∃ W15, W15 = w14.alloc (.cells #[.int .u8 Z.m, .int .u8 Z.p, .int .u32 Z.st, .int .u64 Z.g, .string ZS] 46) := ⟨_, rfl⟩
            have hal15 : Below w14.heap.size w14 W15 := by rw [hW15]; exact (Below.refl _ _).alloc (Nat.le_refl _) _
            have hr15 : W15.heap[w14.heap.size]? = some (.cells #[.int .u8 Z.m, .int .u8 Z.p, .int .u32 Z.st, .int .u64 Z.g, .string ZS] 46 (0, 0)) := by rw [hW15]; exact heap_alloc_new w14 _
            have hb915 : Below W9.heap.size W9 W15 := bt hb14 hal15
            have HX15 := Lib.hid (show Arg8c W15 a8 Z.row.length k8 Z.row from ⟨HX9.out.1.on hb915, HX9.out.2⟩)
            obtain ⟨x0, x1, x2, x3, x4⟩ := cells5' HR9.out hb915
            obtain ⟨y0, y1, y2, y3, y4⟩ := cell5 hr15
            have HB15 := Lib.hid (show Below w.heap.size w W15 from bt hb7 (bt hb79 hb915))
            rw [← hW15]
            clear hW15 hal15 hr15 hb915 hb14 hb79 hcv9
            go_wp2_with (go_at_call 14; go_loud (refine (HSZ.out _ _ W15 HX15.out).mono ?_; rintro e w16 ⟨rfl, hb16⟩))
            go_ret
            exact ⟨rfl, bt HB15.out hb16⟩
end Go.Proofs.Ytadcgngiofdhcaa
