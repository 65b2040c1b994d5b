/- Texts of mine, one behind the other: Kz. -/
import Derived.Test.YtappfdbmhgifcaaGreatDoorZS18
import Derived.Test.YtappfdbmhgifcaaGreatDoorZS09
import Derived.BigQuiet
import Derived.StillTailTactics
import Derived.Deep.AppendLies
import Derived.Deep.DrawnRows
/- Contract of the document's own Keys (written by gen26.py). -/
namespace Go.Proofs.YtappfdbmhgifcaaGreatDoor
open Go.ChangeShapes Go.WideShapes Go.ChangeAt Go.RowKit
set_option linter.unusedVariables false
set_option linter.unusedSimpArgs false
set_option maxRecDepth 100000
attribute [local go_sem ↓] Go.wp_at_zero Go.wp_at_succ

theorem outL_congrN {S T : Nat → Nat → Nat} : ∀ i, (∀ j, j < i → S j = T j) → outL S i = outL T i
  | 0, _ => rfl
  | i + 1, h => by rw [outL, outL, outL_congrN i (fun j hj => h j (by omega)), h i (by omega)]
theorem outL_kwN {l : List Int} {n : Nat} (hl : l.length = 4 * n) (hA : AllB l) : outL (kw l) n = l := by
  refine list_ext_getD (by rw [length_outL, hl]) (fun i hi => ?_)
  rw [length_outL] at hi
  have h := getD_outL (kw l) (c := i / 4) (r := i % 4) (by omega) n (by omega)
  rw [show 4 * (i / 4) + i % 4 = i by omega] at h
  rw [h]
  unfold kw
  rw [show 4 * (i / 4) + i % 4 = i by omega]
  have := allB_getD hA i
  omega
/-- A row of four bytes. -/
def Four (w : World) (b : Nat) (f : Nat → Nat) : Prop := b < w.heap.size ∧ ∀ r, r < 4 → w.cell? ⟨b, r, none⟩ = some (.int .u8 ((f r : Nat) : Int))
theorem Four.on {w w' : World} {b : Nat} {f : Nat → Nat} (h : Four w b f) (hb : Below w.heap.size w w') : Four w' b f := ⟨Nat.lt_of_lt_of_le h.1 hb.size, fun r hr => (hb.cell (p := ⟨b, r, none⟩) h.1).trans (h.2 r hr)⟩
theorem four_made (w : World) (f : Nat → Nat) (T : TypeId) : Four (w.alloc (.cells #[.int .u8 ((f 0 : Nat) : Int), .int .u8 ((f 1 : Nat) : Int), .int .u8 ((f 2 : Nat) : Int), .int .u8 ((f 3 : Nat) : Int)] T)) w.heap.size f := by
  refine ⟨by simp, fun r hr => ?_⟩
  rw [cell_of_row _ _ r _ T _ (heap_alloc_new _ _)]
  rcases lt4 hr with rfl | rfl | rfl | rfl <;> rfl
theorem pwr_up {n i : Nat} (hn : 0 < n) (hi : n ≤ i) : i / n = if i % n = 0 then (i - 1) / n + 1 else (i - 1) / n := by
  obtain ⟨q, r, hr, rfl⟩ : ∃ q r, r < n ∧ i = n * q + r := ⟨i / n, i % n, Nat.mod_lt _ hn, (Nat.div_add_mod i n).symm⟩
  have e1 : (n * q + r) / n = q := by rw [Nat.mul_add_div hn, Nat.div_eq_of_lt hr]; omega
  have e2 : (n * q + r) % n = r := by rw [Nat.mul_add_mod]; exact Nat.mod_eq_of_lt hr
  rw [e1, e2]
  by_cases h0 : r = 0
  · subst h0
    rw [if_pos rfl]
    have hq : 1 ≤ q := by
      rcases Nat.eq_zero_or_pos q with h | h
      · subst h; omega
      · exact h
    obtain ⟨p, rfl⟩ : ∃ p, q = p + 1 := ⟨q - 1, by omega⟩
    have e3 : n * (p + 1) + 0 - 1 = n * p + (n - 1) := by rw [Nat.mul_add, Nat.mul_one]; omega
    rw [e3, Nat.mul_add_div hn, Nat.div_eq_of_lt (show n - 1 < n by omega)]
  · rw [if_neg h0, show n * q + r - 1 = n * q + (r - 1) by omega, Nat.mul_add_div hn, Nat.div_eq_of_lt (show r - 1 < n by omega)]
    omega
theorem col_take (C : Nat → Nat) {k : Nat} (hk : k < 4) : (colL C).take (k + 1) = (colL C).take k ++ [((C k : Nat) : Int)] := by
  rcases lt4 hk with rfl | rfl | rfl | rfl <;> rfl
set_option maxHeartbeats 8000000 in
theorem refKeys_any (a : Option Addr) (L c n : Nat) (l : List Int) (w : World) (hx : Arg8 w a L c l) (hn : n = 4 ∨ n = 8) (hL : L = 4 * n) :
    Calls Tryz.prog 86 #[.slice a L c] w fun e w' => ∃ g cap, e = .returned (.slice (some ⟨g, 0, none⟩) (16 * (n + 7)) cap) ∧
      w'.ownsRow w.heap.size 5 1 (.slice (some ⟨g, 0, none⟩) (16 * (n + 7)) cap) (16 * (n + 7)) ((outL (kx n (kw l) (3 * n + 28)) (4 * (n + 7))).map (Value.int .u8)) ∧ Below w.heap.size w w' := by
  have hl := hx.1
  have hK := kw_lt hx.2.1
  have hlk := outL_kwN (n := n) (by rw [hl, hL]) hx.2.1
  have hcap : L ≤ c ∧ c ≤ 9223372036854775807 := ⟨hx.2.2.2.1, by have := hx.2.2.2.2; unfold maxLen at this; omega⟩
  have HX := Lib.hid hx
  have HLK := Lib.hid hlk
  have HLL := Lib.hid hl
  obtain ⟨K, hKK⟩ : ∃ K, K = kw l := ⟨_, rfl⟩
  rw [← hKK] at hK HLK ⊢
  have HKB := Lib.hid hK
  have HN := Lib.hid hn
  have HLn := Lib.hid hL
  have hn1 : 4 ≤ n := by omega
  have hn2 : n ≤ 8 := by omega
  have qn1 : (4 : Int) ≤ (n : Int) := by omega
  have qn2 : (n : Int) ≤ 8 := by omega
  have qL : (L : Int) / 4 = (n : Int) := by omega
  have qL0 : (0 : Int) ≤ (L : Int) := by omega
  have qL1 : (L : Int) ≤ 32 := by omega
  have hLc : L ≤ 32 := by omega
  obtain ⟨i5, HI⟩ : ∃ i5 : TypeInfo, Hid (Tryz.prog.info? 5 = some i5 ∧ i5.zero = some (.int .u8 0) ∧ i5.size = 1 ∧ i5.bytes = 1) := ⟨_, Lib.hid ⟨rfl, rfl, rfl, rfl⟩⟩
  clear hx hl hlk hKK hK hn hL
  go_enter Tryz.func86, Tryz.ntmps86
  go_wp2_with ((with_reducible show wpList _ _ _ (⟨some 14, _, _, _, _, _⟩ :: _) _ _); go_loud (refine wpList_append_bs _ rfl (.tmp 12) (.tmp 13) 22 rfl w.heap.size 5 i5 Tryz.underlying22 HI.out.1 HI.out.2.1 HI.out.2.2.1 HI.out.2.2.2 _ 0 [] rfl (own_empty w _) a L c w.heap.size l rfl (HX.out.2.2.1.below ((Below.refl _ _).alloc (Nat.le_refl _) _)) HLL.out (fun e => by have := HX.out.2.2.1 (by have := HLL.out; omega); obtain ⟨_, _, e2, _⟩ := this; rw [e] at e2; cases e2) (by omega) (by simp) ?_); intro v1 w1 ho1 hg1; rw [Nat.zero_add, List.nil_append] at ho1; have hb1 : Below w.heap.size w w1 := ((Below.refl w.heap.size w).alloc (Nat.le_refl _) _).grown hg1 (by simp) (own_block_le w.heap.size 0 0); have HO1 := Lib.hid ho1; have HB1 := Lib.hid hb1; clear ho1 hg1 hb1; obtain ⟨g1, c1, rfl, _⟩ := HO1.out.form (by omega))
  rw [HLn.out] at HO1 ⊢
  go_loopw [4, 5, 6] (fun v p q wr => ∃ m g cap : Nat, m ≤ 3 * n + 28 ∧ q = .int .i64 ((n + m : Nat) : Int) ∧ p = .int .u8 ((pwr 2 ((n + m - 1) / n) : Nat) : Int) ∧ v = .slice (some ⟨g, 0, none⟩) (4 * (n + m)) cap ∧ wr.ownsRow w.heap.size 5 1 (.slice (some ⟨g, 0, none⟩) (4 * (n + m)) cap) (4 * (n + m)) ((outL (kx n K m) (n + m)).map (Value.int .u8)) ∧ Below w.heap.size w wr) (fun _ _ q _ => 4 * (n + 7) - (intOf q).toNat)
  case atStart => exact ⟨0, g1, c1, by omega, rfl, by rw [show (n + 0 - 1) / n = 0 from Nat.div_eq_of_lt (by omega), pwr_zero]; rfl, rfl, by rw [show outL (kx n K 0) (n + 0) = l from HLK.out]; exact HO1.out, HB1.out⟩
  case round =>
    obtain ⟨m, g, cap, hm, rfl, rfl, rfl, hO, hB⟩ := hrel
    rename World => wr
    have HO := Lib.hid hO
    have HB := Lib.hid hB
    clear hO hB HB1 HO1
    by_cases hlt : m < 3 * n + 28
    · have hcg : 4 * (n + m) ≤ cap := (own_caps HO.out).2.1
      have HC := Lib.hid (show ∀ j r, j < n + m → r < 4 → wr.cell? ⟨g, 4 * j + r, none⟩ = some (.int .u8 ((kx n K m j r : Nat) : Int)) from fun j r hj hr => by
        have h := own_cells HO.out (4 * j + r) (by omega)
        rw [Nat.zero_add, getD_outL _ hr _ hj] at h
        exact h)
      obtain ⟨i, hi⟩ : ∃ i, i = n + m := ⟨_, rfl⟩
      have hc0 := HC.out (i - 1) 0 (by omega) (by omega)
      have hc1 := HC.out (i - 1) 1 (by omega) (by omega)
      have hc2 := HC.out (i - 1) 2 (by omega) (by omega)
      have hc3 := HC.out (i - 1) 3 (by omega) (by omega)
      obtain ⟨f, hf⟩ : ∃ f, f = kx n K m (i - 1) := ⟨_, rfl⟩
      rw [← hf] at hc0 hc1 hc2 hc3
      have HFB := Lib.hid (show ∀ r, f r < 256 from fun r => by rw [hf]; exact kx_bd n HKB.out m _ r)
      have HF := Lib.hid hf
      obtain ⟨P, hP⟩ : ∃ P, P = pwr 2 ((n + m - 1) / n) := ⟨_, rfl⟩
      have HP := Lib.hid hP
      have hPl : P < 256 := by rw [hP]; exact pwr_lt _ _
      rw [← hP]
      clear hf hP
      obtain ⟨p0, hp0⟩ : ∃ p, p = 4 * (i - 1) := ⟨_, rfl⟩
      obtain ⟨p1, hp1⟩ : ∃ p, p = 4 * (i - 1) + 1 := ⟨_, rfl⟩
      obtain ⟨p2, hp2⟩ : ∃ p, p = 4 * (i - 1) + 2 := ⟨_, rfl⟩
      obtain ⟨p3, hp3⟩ : ∃ p, p = 4 * (i - 1) + 3 := ⟨_, rfl⟩
      obtain ⟨N4, hN4⟩ : ∃ p, p = 4 * i := ⟨_, rfl⟩
      rw [Nat.add_zero, ← hp0] at hc0
      rw [← hp1] at hc1
      rw [← hp2] at hc2
      rw [← hp3] at hc3
      rw [← hi] at HO hcg ⊢
      rw [← hN4] at HO hcg ⊢
      have qi : (i : Int) < 4 * ((n : Int) + 7) := by omega
      have qi0 : (4 : Int) ≤ (i : Int) := by omega
      have qi1 : (i : Int) ≤ 60 := by omega
      have s0 : 4 * (i : Int) = (N4 : Int) := by omega
      have s1 : IntKind.i64.wrap (N4 : Int) = (N4 : Int) := IntWalk.i64_in _ (by omega)
      have t0 : (N4 : Int) - 4 = (p0 : Int) := by omega
      have t1 : (N4 : Int) - 3 = (p1 : Int) := by omega
      have t2 : (N4 : Int) - 2 = (p2 : Int) := by omega
      have t3 : (N4 : Int) - 1 = (p3 : Int) := by omega
      have u0 : IntKind.i64.wrap (p0 : Int) = (p0 : Int) := IntWalk.i64_in _ (by omega)
      have u1 : IntKind.i64.wrap (p1 : Int) = (p1 : Int) := IntWalk.i64_in _ (by omega)
      have u2 : IntKind.i64.wrap (p2 : Int) = (p2 : Int) := IntWalk.i64_in _ (by omega)
      have u3 : IntKind.i64.wrap (p3 : Int) = (p3 : Int) := IntWalk.i64_in _ (by omega)
      have v0 : (p0 : Int) < (N4 : Int) := by omega
      have v1 : (p1 : Int) < (N4 : Int) := by omega
      have v2 : (p2 : Int) < (N4 : Int) := by omega
      have v3 : (p3 : Int) < (N4 : Int) := by omega
      have HII := Lib.hid hi
      have HLT := Lib.hid hlt
      have HN4 := Lib.hid hN4
      have HM := Lib.hid hm
      clear hi hlt hN4 hm hp0 hp1 hp2 hp3
      go_upto_region 7 with fail
      go_wp2_with fail
      go_still_tail 24, (by kernel_rfl)
      go_upto_region 8 with fail
      clear hc0 hc1 hc2 hc3 s0 s1 t0 t1 t2 t3 u0 u1 u2 u3 v0 v1 v2 v3
      obtain ⟨V7, hV7⟩ : ∃ V, V = (wr.alloc (.cells #[.int .u8 ((f 0 : Nat) : Int), .int .u8 ((f 1 : Nat) : Int), .int .u8 ((f 2 : Nat) : Int), .int .u8 ((f 3 : Nat) : Int)] 5)).drew := ⟨_, rfl⟩
      have HT7 := Lib.hid (show Four V7 wr.heap.size f by rw [hV7]; exact four_made wr f _)
      have HB7 := Lib.hid (show Below wr.heap.size wr V7 by rw [hV7]; exact ((Below.refl _ _).alloc (Nat.le_refl _) _).drew)
      obtain ⟨gt, hgt⟩ : ∃ b, b = wr.heap.size := ⟨_, rfl⟩
      have HGT := Lib.hid hgt
      rw [← hV7, ← hgt]
      rw [← hgt] at HT7
      clear hV7 hgt
      by_cases hr : i % n = 0
      · have qr : (i : Int).tmod (n : Int) = 0 := by rw [Int.tmod_eq_emod_of_nonneg (by omega), show ((i : Int) % (n : Int)) = ((i % n : Nat) : Int) from rfl, hr]; rfl
        have HR := Lib.hid hr
        have HP2 := Lib.hid (show P = pwr 2 (i / n - 1) by
          rw [HP.out, ← HII.out]
          have h := pwr_up (n := n) (i := i) (by omega) (by have := HII.out; omega)
          rw [if_pos HR.out] at h
          congr 1
          rw [h, Nat.add_sub_cancel])
        clear hr
        have hb1 := box_lt (f 1)
        have hxr := u8_xor_nat (box (f 1)) P (box_lt _) hPl
        go_upto_region 9 with fail
        go_wp2_with fail
        refine wp_region_held_drew (S := fun U => Below V7.heap.size V7 U) (by kernel_rfl) (Below.refl _ _).drew (fun hHeld => ?_)
        refine wpAnyH_take (i := 0) (oi := { dst := some 52, op := Go.Op.move (Go.Operand.tmp 7), type := 22, pos := "ref.go:25", after := #[], guard := none }) (v := ?v0x1) rfl (by kernel_rfl) (by kernel_rfl) (by kernel_rfl) (fun _ _ _ h => h) (Or.inl ⟨by rfl, ?hy0x1⟩) hHeld ?rest0x1
        case hy0x1 =>
          intro W' hV
          try dsimp only at hV
          go_simp
          all_goals with_reducible rfl
        case' rest0x1 => try simp only [Act.put, List.setIfInBounds_toArray, List.set_cons_zero, List.set_cons_succ]
        refine wpAnyH_take (i := 1) (oi := { dst := some 53, op := Go.Op.indexAddr 22 (Go.Operand.tmp 52) (Go.Operand.const (Go.Value.int Go.IntKind.i64 1)), type := 0, pos := "ref.go:25", after := #[{ on := 0, ground := Go.Ground.data }], guard := none }) (v := ?v1x2) rfl (by kernel_rfl) (by kernel_rfl) (by kernel_rfl) (fun _ _ _ h => h) (Or.inl ⟨by rfl, ?hy1x2⟩) hHeld ?rest1x2
        case hy1x2 =>
          intro W' hV
          try dsimp only at hV
          go_simp
          all_goals with_reducible rfl
        case' rest1x2 => try simp only [Act.put, List.setIfInBounds_toArray, List.set_cons_zero, List.set_cons_succ]
        refine wpAnyH_take (i := 2) (oi := { dst := some 54, op := Go.Op.load 5 (Go.Operand.tmp 53), type := 5, pos := "ref.go:25", after := #[{ on := 1, ground := Go.Ground.data }], guard := none }) (v := ?v2x3) rfl (by kernel_rfl) (by kernel_rfl) (by kernel_rfl) (fun _ _ _ h => h) (Or.inl ⟨by rfl, ?hy2x3⟩) hHeld ?rest2x3
        case hy2x3 =>
          intro W' hV
          try dsimp only at hV
          have hct := (hV.cell (p := ⟨gt, 1, none⟩) HT7.out.1).trans (HT7.out.2 1 (by omega))
          go_simp
          all_goals with_reducible rfl
        case' rest2x3 => try simp only [Act.put, List.setIfInBounds_toArray, List.set_cons_zero, List.set_cons_succ]
        refine wpAnyH_take (i := 4) (oi := { dst := some 56, op := Go.Op.move (Go.Operand.tmp 5), type := 5, pos := "ref.go:25", after := #[], guard := none }) (v := ?v4x4) rfl (by kernel_rfl) (by kernel_rfl) (by kernel_rfl) (fun _ _ _ h => h) (Or.inl ⟨by rfl, ?hy4x4⟩) hHeld ?rest4x4
        case hy4x4 =>
          intro W' hV
          try dsimp only at hV
          go_simp
          all_goals with_reducible rfl
        case' rest4x4 => try simp only [Act.put, List.setIfInBounds_toArray, List.set_cons_zero, List.set_cons_succ]
        refine wpAnyH_take (i := 6) (oi := { dst := some 58, op := Go.Op.move (Go.Operand.tmp 7), type := 22, pos := "ref.go:25", after := #[], guard := none }) (v := ?v6x5) rfl (by kernel_rfl) (by kernel_rfl) (by kernel_rfl) (fun _ _ _ h => h) (Or.inl ⟨by rfl, ?hy6x5⟩) hHeld ?rest6x5
        case hy6x5 =>
          intro W' hV
          try dsimp only at hV
          go_simp
          all_goals with_reducible rfl
        case' rest6x5 => try simp only [Act.put, List.setIfInBounds_toArray, List.set_cons_zero, List.set_cons_succ]
        refine wpAnyH_take (i := 7) (oi := { dst := some 59, op := Go.Op.indexAddr 22 (Go.Operand.tmp 58) (Go.Operand.const (Go.Value.int Go.IntKind.i64 2)), type := 0, pos := "ref.go:25", after := #[{ on := 6, ground := Go.Ground.data }], guard := none }) (v := ?v7x6) rfl (by kernel_rfl) (by kernel_rfl) (by kernel_rfl) (fun _ _ _ h => h) (Or.inl ⟨by rfl, ?hy7x6⟩) hHeld ?rest7x6
        case hy7x6 =>
          intro W' hV
          try dsimp only at hV
          go_simp
          all_goals with_reducible rfl
        case' rest7x6 => try simp only [Act.put, List.setIfInBounds_toArray, List.set_cons_zero, List.set_cons_succ]
        refine wpAnyH_take (i := 8) (oi := { dst := some 60, op := Go.Op.load 5 (Go.Operand.tmp 59), type := 5, pos := "ref.go:25", after := #[{ on := 7, ground := Go.Ground.data }], guard := none }) (v := ?v8x7) rfl (by kernel_rfl) (by kernel_rfl) (by kernel_rfl) (fun _ _ _ h => h) (Or.inl ⟨by rfl, ?hy8x7⟩) hHeld ?rest8x7
        case hy8x7 =>
          intro W' hV
          try dsimp only at hV
          have hct := (hV.cell (p := ⟨gt, 2, none⟩) HT7.out.1).trans (HT7.out.2 2 (by omega))
          go_simp
          all_goals with_reducible rfl
        case' rest8x7 => try simp only [Act.put, List.setIfInBounds_toArray, List.set_cons_zero, List.set_cons_succ]
        refine wpAnyH_take (i := 10) (oi := { dst := some 62, op := Go.Op.move (Go.Operand.tmp 7), type := 22, pos := "ref.go:25", after := #[], guard := none }) (v := ?v10x8) rfl (by kernel_rfl) (by kernel_rfl) (by kernel_rfl) (fun _ _ _ h => h) (Or.inl ⟨by rfl, ?hy10x8⟩) hHeld ?rest10x8
        case hy10x8 =>
          intro W' hV
          try dsimp only at hV
          go_simp
          all_goals with_reducible rfl
        case' rest10x8 => try simp only [Act.put, List.setIfInBounds_toArray, List.set_cons_zero, List.set_cons_succ]
        refine wpAnyH_take (i := 11) (oi := { dst := some 63, op := Go.Op.indexAddr 22 (Go.Operand.tmp 62) (Go.Operand.const (Go.Value.int Go.IntKind.i64 3)), type := 0, pos := "ref.go:25", after := #[{ on := 10, ground := Go.Ground.data }], guard := none }) (v := ?v11x9) rfl (by kernel_rfl) (by kernel_rfl) (by kernel_rfl) (fun _ _ _ h => h) (Or.inl ⟨by rfl, ?hy11x9⟩) hHeld ?rest11x9
        case hy11x9 =>
          intro W' hV
          try dsimp only at hV
          go_simp
          all_goals with_reducible rfl
        case' rest11x9 => try simp only [Act.put, List.setIfInBounds_toArray, List.set_cons_zero, List.set_cons_succ]
        refine wpAnyH_take (i := 12) (oi := { dst := some 64, op := Go.Op.load 5 (Go.Operand.tmp 63), type := 5, pos := "ref.go:25", after := #[{ on := 11, ground := Go.Ground.data }], guard := none }) (v := ?v12x10) rfl (by kernel_rfl) (by kernel_rfl) (by kernel_rfl) (fun _ _ _ h => h) (Or.inl ⟨by rfl, ?hy12x10⟩) hHeld ?rest12x10
        case hy12x10 =>
          intro W' hV
          try dsimp only at hV
          have hct := (hV.cell (p := ⟨gt, 3, none⟩) HT7.out.1).trans (HT7.out.2 3 (by omega))
          go_simp
          all_goals with_reducible rfl
        case' rest12x10 => try simp only [Act.put, List.setIfInBounds_toArray, List.set_cons_zero, List.set_cons_succ]
        refine wpAnyH_take (i := 14) (oi := { dst := some 66, op := Go.Op.move (Go.Operand.tmp 7), type := 22, pos := "ref.go:25", after := #[], guard := none }) (v := ?v14x11) rfl (by kernel_rfl) (by kernel_rfl) (by kernel_rfl) (fun _ _ _ h => h) (Or.inl ⟨by rfl, ?hy14x11⟩) hHeld ?rest14x11
        case hy14x11 =>
          intro W' hV
          try dsimp only at hV
          go_simp
          all_goals with_reducible rfl
        case' rest14x11 => try simp only [Act.put, List.setIfInBounds_toArray, List.set_cons_zero, List.set_cons_succ]
        refine wpAnyH_take (i := 15) (oi := { dst := some 67, op := Go.Op.indexAddr 22 (Go.Operand.tmp 66) (Go.Operand.const (Go.Value.int Go.IntKind.i64 0)), type := 0, pos := "ref.go:25", after := #[{ on := 14, ground := Go.Ground.data }], guard := none }) (v := ?v15x12) rfl (by kernel_rfl) (by kernel_rfl) (by kernel_rfl) (fun _ _ _ h => h) (Or.inl ⟨by rfl, ?hy15x12⟩) hHeld ?rest15x12
        case hy15x12 =>
          intro W' hV
          try dsimp only at hV
          go_simp
          all_goals with_reducible rfl
        case' rest15x12 => try simp only [Act.put, List.setIfInBounds_toArray, List.set_cons_zero, List.set_cons_succ]
        refine wpAnyH_take (i := 16) (oi := { dst := some 68, op := Go.Op.load 5 (Go.Operand.tmp 67), type := 5, pos := "ref.go:25", after := #[{ on := 15, ground := Go.Ground.data }], guard := none }) (v := ?v16x13) rfl (by kernel_rfl) (by kernel_rfl) (by kernel_rfl) (fun _ _ _ h => h) (Or.inl ⟨by rfl, ?hy16x13⟩) hHeld ?rest16x13
        case hy16x13 =>
          intro W' hV
          try dsimp only at hV
          have hct := (hV.cell (p := ⟨gt, 0, none⟩) HT7.out.1).trans (HT7.out.2 0 (by omega))
          go_simp
          all_goals with_reducible rfl
        case' rest16x13 => try simp only [Act.put, List.setIfInBounds_toArray, List.set_cons_zero, List.set_cons_succ]
        refine wpAnyH_ready (rs := [3]) (by kernel_rfl) (by simp) ?_
        refine AllReadyH.cons (o := { dst := some 55, op := Go.Op.call { callee := Go.Callee.value (Go.Operand.func 87), args := #[Go.Operand.tmp 54], argTypes := #[5] }, type := 5, pos := "ref.go:25", after := #[{ on := 2, ground := Go.Ground.data }], guard := none }) rfl (fun K' hK => ?_) AllReadyH.nil
        rw [if_pos (by rfl)]
        go_simp
        go_wp2_with (go_at_call 87; (with_reducible refine (refBox_N (f 1) (HFB.out 1) _).mono ?_); rintro e wx0 ⟨rfl, nx0, rfl⟩)
        refine hK.out _ _ (below_drewN (Below.refl _ _) _) (fun hHeld1 => ?_)
        clear hK K' hHeld
        have hHeld := hHeld1
        clear hHeld1
        try simp only [Act.put, List.setIfInBounds_toArray, List.set_cons_zero, List.set_cons_succ]
        refine wpAnyH_take (i := 5) (oi := { dst := some 57, op := Go.Op.binOp Go.BinOp.xor 5 (Go.Operand.tmp 55) (Go.Operand.tmp 56) 5, type := 5, pos := "ref.go:25", after := #[{ on := 3, ground := Go.Ground.data }, { on := 4, ground := Go.Ground.data }], guard := none }) (v := ?v5x14) rfl (by kernel_rfl) (by kernel_rfl) (by kernel_rfl) (fun _ _ _ h => h) (Or.inl ⟨by rfl, ?hy5x14⟩) hHeld ?rest5x14
        case hy5x14 =>
          intro W' hV
          try dsimp only at hV
          go_simp
          all_goals with_reducible rfl
        case' rest5x14 => try simp only [Act.put, List.setIfInBounds_toArray, List.set_cons_zero, List.set_cons_succ]
        refine wpAnyH_ready (rs := [9]) (by kernel_rfl) (by simp) ?_
        refine AllReadyH.cons (o := { dst := some 61, op := Go.Op.call { callee := Go.Callee.value (Go.Operand.func 87), args := #[Go.Operand.tmp 60], argTypes := #[5] }, type := 5, pos := "ref.go:25", after := #[{ on := 8, ground := Go.Ground.data }, { on := 3, ground := Go.Ground.chain }], guard := none }) rfl (fun K' hK => ?_) AllReadyH.nil
        rw [if_pos (by rfl)]
        go_simp
        go_wp2_with (go_at_call 87; (with_reducible refine (refBox_N (f 2) (HFB.out 2) _).mono ?_); rintro e wx1 ⟨rfl, nx1, rfl⟩)
        refine hK.out _ _ (below_drewN (Below.refl _ _) _) (fun hHeld1 => ?_)
        clear hK K' hHeld
        have hHeld := hHeld1
        clear hHeld1
        try simp only [Act.put, List.setIfInBounds_toArray, List.set_cons_zero, List.set_cons_succ]
        refine wpAnyH_ready (rs := [13]) (by kernel_rfl) (by simp) ?_
        refine AllReadyH.cons (o := { dst := some 65, op := Go.Op.call { callee := Go.Callee.value (Go.Operand.func 87), args := #[Go.Operand.tmp 64], argTypes := #[5] }, type := 5, pos := "ref.go:25", after := #[{ on := 12, ground := Go.Ground.data }, { on := 9, ground := Go.Ground.chain }], guard := none }) rfl (fun K' hK => ?_) AllReadyH.nil
        rw [if_pos (by rfl)]
        go_simp
        go_wp2_with (go_at_call 87; (with_reducible refine (refBox_N (f 3) (HFB.out 3) _).mono ?_); rintro e wx2 ⟨rfl, nx2, rfl⟩)
        refine hK.out _ _ (below_drewN (Below.refl _ _) _) (fun hHeld1 => ?_)
        clear hK K' hHeld
        have hHeld := hHeld1
        clear hHeld1
        try simp only [Act.put, List.setIfInBounds_toArray, List.set_cons_zero, List.set_cons_succ]
        refine wpAnyH_ready (rs := [17]) (by kernel_rfl) (by simp) ?_
        refine AllReadyH.cons (o := { dst := some 69, op := Go.Op.call { callee := Go.Callee.value (Go.Operand.func 87), args := #[Go.Operand.tmp 68], argTypes := #[5] }, type := 5, pos := "ref.go:25", after := #[{ on := 16, ground := Go.Ground.data }, { on := 13, ground := Go.Ground.chain }], guard := none }) rfl (fun K' hK => ?_) AllReadyH.nil
        rw [if_pos (by rfl)]
        go_simp
        go_wp2_with (go_at_call 87; (with_reducible refine (refBox_N (f 0) (HFB.out 0) _).mono ?_); rintro e wx3 ⟨rfl, nx3, rfl⟩)
        refine hK.out _ _ (below_drewN (Below.refl _ _) _) (fun hHeld1 => ?_)
        clear hK K' hHeld
        have hHeld := hHeld1
        clear hHeld1
        try simp only [Act.put, List.setIfInBounds_toArray, List.set_cons_zero, List.set_cons_succ]
        refine wpAnyH_ready (rs := [18]) (by kernel_rfl) (by simp) ?_
        refine AllReadyH.cons (o := { dst := some 70, op := Go.Op.buildSlice 22 4 #[(0, Go.Operand.tmp 57), (1, Go.Operand.tmp 61), (2, Go.Operand.tmp 65), (3, Go.Operand.tmp 69)], type := 22, pos := "ref.go:25", after := #[{ on := 5, ground := Go.Ground.data }, { on := 9, ground := Go.Ground.data }, { on := 13, ground := Go.Ground.data }, { on := 17, ground := Go.Ground.data }], guard := none }) rfl (fun K' hK => ?_) AllReadyH.nil
        rw [if_pos (by rfl)]
        go_simp
        refine hK.out _ _ (hHeld.alloc hHeld.size _) (fun hHeld1 => ?_)
        clear hK K' hHeld
        have hHeld := hHeld1
        clear hHeld1
        try simp only [Act.put, List.setIfInBounds_toArray, List.set_cons_zero, List.set_cons_succ]
        refine wpAnyH_take (i := 19) (oi := { dst := some 7, op := Go.Op.assign (Go.Operand.tmp 70), type := 22, pos := "ref.go:25", after := #[{ on := 18, ground := Go.Ground.data }, { on := 17, ground := Go.Ground.chain }, { on := 0, ground := Go.Ground.phase }, { on := 1, ground := Go.Ground.phase }, { on := 2, ground := Go.Ground.phase }, { on := 3, ground := Go.Ground.phase }, { on := 4, ground := Go.Ground.phase }, { on := 5, ground := Go.Ground.phase }, { on := 6, ground := Go.Ground.phase }, { on := 7, ground := Go.Ground.phase }, { on := 8, ground := Go.Ground.phase }, { on := 9, ground := Go.Ground.phase }, { on := 10, ground := Go.Ground.phase }, { on := 11, ground := Go.Ground.phase }, { on := 12, ground := Go.Ground.phase }, { on := 13, ground := Go.Ground.phase }, { on := 14, ground := Go.Ground.phase }, { on := 15, ground := Go.Ground.phase }, { on := 16, ground := Go.Ground.phase }, { on := 17, ground := Go.Ground.phase }, { on := 18, ground := Go.Ground.phase }], guard := none }) (v := ?v19x15) rfl (by kernel_rfl) (by kernel_rfl) (by kernel_rfl) (fun _ _ _ h => h) (Or.inl ⟨by rfl, ?hy19x15⟩) hHeld ?rest19x15
        case hy19x15 =>
          intro W' hV
          try dsimp only at hV
          go_simp
          all_goals with_reducible rfl
        case' rest19x15 => try simp only [Act.put, List.setIfInBounds_toArray, List.set_cons_zero, List.set_cons_succ]
        refine wpAnyH_done (by kernel_rfl) ?_ _
        clear hHeld
        obtain ⟨VV, hVV⟩ : ∃ V, V = (V7.drewN (1 + nx0 + nx1 + nx2 + nx3)).alloc (.cells #[.int .u8 ((box (f 1) ^^^ P : Nat) : Int), .int .u8 ((box (f 2) : Nat) : Int), .int .u8 ((box (f 3) : Nat) : Int), .int .u8 ((box (f 0) : Nat) : Int)] 5) := ⟨_, rfl⟩
        have HFV := Lib.hid (show Four VV V7.heap.size (tmp n i f) by
          rw [hVV]
          have h := four_made ((V7.drewN (1 + nx0 + nx1 + nx2 + nx3))) (tmp n i f) 5
          have e0 : tmp n i f 0 = box (f 1) ^^^ P := by unfold tmp; rw [if_pos HR.out, if_pos rfl, ← HP2.out]
          have e1 : tmp n i f 1 = box (f 2) := by unfold tmp; rw [if_pos HR.out, if_neg (by omega), Nat.xor_zero]
          have e2 : tmp n i f 2 = box (f 3) := by unfold tmp; rw [if_pos HR.out, if_neg (by omega), Nat.xor_zero]
          have e3 : tmp n i f 3 = box (f 0) := by unfold tmp; rw [if_pos HR.out, if_neg (by omega), Nat.xor_zero]
          rw [e0, e1, e2, e3] at h
          exact h)
        have HBV := Lib.hid (show Below wr.heap.size wr VV by rw [hVV]; exact bt HB7.out ((below_drewN (Below.refl _ _) _).alloc (Nat.le_refl _) _))
        have hgq : wr.heap.size ≤ V7.heap.size := HB7.out.size
        obtain ⟨gq, hgqe⟩ : ∃ b, b = V7.heap.size := ⟨_, rfl⟩
        rw [← hVV, ← hgqe]
        rw [← hgqe] at HFV hgq
        clear hVV hgqe hxr hb1 qr
        have HPV := Lib.hid (show gm P 2 = pwr 2 (i / n) by
          rw [HP2.out, pwr_succ (by omega)]
          congr 1
          have : 1 ≤ i / n := (Nat.one_le_div_iff (by omega)).2 (by have := HII.out; omega)
          omega)
        have hPVl := gm_lt P 2
        have HMU := Lib.hid (show ∀ W : World, Calls Tryz.prog 88 #[.int .u8 ((P : Nat) : Int), .int .u8 2] W (fun e w' => e = .returned (.int .u8 ((gm P 2 : Nat) : Int)) ∧ W = w') from fun W => refMul_N P 2 hPl (by omega) W)
        obtain ⟨PV, hPV⟩ : ∃ p, p = gm P 2 := ⟨_, rfl⟩
        rw [← hPV] at HPV hPVl HMU
        clear hPV
        go_upto_region 13 with (go_at_call 88; (with_reducible refine (HMU.out _).mono ?_); rintro e w10 ⟨rfl, rfl⟩)
        have HOV := Lib.hid (own_belowK HO.out HBV.out)
        have HWV := Lib.hid (HB.out.trans (HBV.out.mono HB.out.size))
        have HGQ := Lib.hid (show g ≠ gq by have := (own_caps HO.out).2.2.2.2; omega)
        have HTB := Lib.hid (fun r => tmp_lt n i HFB.out r)
        obtain ⟨T, hT⟩ : ∃ T, T = tmp n i f := ⟨_, rfl⟩
        have HTE := Lib.hid hT
        rw [← hT] at HFV HTB
        obtain ⟨C, hC⟩ : ∃ C : Nat → Nat, C = fun r => kx n K m m r ^^^ T r := ⟨_, rfl⟩
        have HCE := Lib.hid hC
        have HCK := Lib.hid (kx_bd n HKB.out m m)
        have qm : (i : Int) - (n : Int) = (m : Int) := by have := HII.out; omega
        have qmb : (m : Int) ≤ 52 := by have := HII.out; omega
        have qm0 : (0 : Int) ≤ (m : Int) := by omega
        have HI4 := Lib.hid (show 4 * m + 4 ≤ N4 by have := HII.out; have := HN4.out; omega)
        have HN5 := Lib.hid (show N4 ≤ 240 by have := HN4.out; omega)
        clear hT hC hgq
        go_wp2_with fail
        go_loopw [4, 8] (fun v q U => ∃ k g2 cap2 : Nat, k ≤ 4 ∧ q = .int .i64 (k : Nat) ∧ v = .slice (some ⟨g2, 0, none⟩) (N4 + k) cap2 ∧ U.ownsRow w.heap.size 5 1 (.slice (some ⟨g2, 0, none⟩) (N4 + k) cap2) (N4 + k) ((outL (kx n K m) i ++ (colL C).take k).map (Value.int .u8)) ∧ Four U gq T ∧ g2 ≠ gq ∧ Below w.heap.size w U) (fun _ q _ => 4 - (intOf q).toNat)
        case atStart => exact ⟨0, g, cap, by omega, rfl, rfl, by rw [List.take_zero, List.append_nil]; exact HOV.out, HFV.out, HGQ.out, HWV.out⟩
        case round =>
          obtain ⟨k, g2, cap2, hk, rfl, rfl, hO2, hF2, hg2, hB2⟩ := hrel
          rename World => U
          have HO2 := Lib.hid hO2
          have HF2 := Lib.hid hF2
          have HG2 := Lib.hid hg2
          have HB2 := Lib.hid hB2
          clear hO2 hF2 hg2 hB2
          by_cases hlt4 : k < 4
          · have hcw : U.cell? ⟨g2, 4 * m + k, none⟩ = some (.int .u8 ((kx n K m m k : Nat) : Int)) := by
              have h := own_cells HO2.out (4 * m + k) (by have := HI4.out; omega)
              rw [Nat.zero_add, List.getD_eq_getElem?_getD, List.getElem?_append_left (by rw [length_outL]; have := HI4.out; have := HN4.out; omega), ← List.getD_eq_getElem?_getD, getD_outL _ hlt4 _ (by have := HII.out; omega)] at h
              exact h
            have hct := HF2.out.2 k hlt4
            have hxr := u8_xor_nat (kx n K m m k) (T k) (HCK.out k) (HTB.out k)
            have HCV := Lib.hid (show kx n K m m k ^^^ T k = C k by rw [HCE.out])
            obtain ⟨A, hA⟩ : ∃ A, A = kx n K m m k := ⟨_, rfl⟩
            obtain ⟨B, hB⟩ : ∃ B, B = T k := ⟨_, rfl⟩
            rw [← hA] at hcw hxr HCV
            rw [← hB] at hct hxr HCV
            rw [HCV.out] at hxr
            obtain ⟨Z, hZ⟩ : ∃ Z, Z = C k := ⟨_, rfl⟩
            have HZ := Lib.hid hZ
            rw [← hZ] at hxr
            obtain ⟨q0, hq0⟩ : ∃ q0, q0 = 4 * m + k := ⟨_, rfl⟩
            obtain ⟨m4, hm4⟩ : ∃ m4, m4 = 4 * m := ⟨_, rfl⟩
            obtain ⟨Lk, hLk⟩ : ∃ Lk, Lk = N4 + k := ⟨_, rfl⟩
            rw [← hq0] at hcw
            rw [← hLk] at HO2 ⊢
            have x0 : 4 * (m : Int) = (m4 : Int) := by omega
            have x1 : (m4 : Int) + (k : Int) = (q0 : Int) := by omega
            have y0 : IntKind.i64.wrap (m : Int) = (m : Int) := IntWalk.i64_in _ (by omega)
            have y1 : IntKind.i64.wrap (m4 : Int) = (m4 : Int) := IntWalk.i64_in _ (by omega)
            have y2 : IntKind.i64.wrap (q0 : Int) = (q0 : Int) := IntWalk.i64_in _ (by omega)
            have z0 : (q0 : Int) < (Lk : Int) := by have := HI4.out; omega
            have z1 : (0 : Int) ≤ (q0 : Int) := by omega
            have z2 : (k : Int) < 4 := by omega
            have z3 : (0 : Int) ≤ (k : Int) := by omega
            have HLK2 := Lib.hid hLk
            have HK4 := Lib.hid hlt4
            clear hA hB hZ hq0 hm4 hLk hlt4 hk
            go_wp2_with fail
            refine wp_region_held_drew (S := fun _ => True) (by kernel_rfl) trivial (fun hHeld => ?_)
            refine wpAnyH_take (i := 0) (oi := { dst := some 101, op := Go.Op.move (Go.Operand.tmp 4), type := 22, pos := "ref.go:31", after := #[], guard := none }) (v := ?v0pA1) rfl (by kernel_rfl) (by kernel_rfl) (by kernel_rfl) (fun _ _ _ h => h) (Or.inl ⟨by rfl, ?hy0pA1⟩) hHeld ?rest0pA1
            case hy0pA1 =>
              intro W' hV
              try dsimp only at hV
              go_simp
              all_goals with_reducible rfl
            case' rest0pA1 => try simp only [Act.put, List.setIfInBounds_toArray, List.set_cons_zero, List.set_cons_succ]
            refine wpAnyH_take (i := 1) (oi := { dst := some 102, op := Go.Op.move (Go.Operand.tmp 4), type := 22, pos := "ref.go:31", after := #[], guard := none }) (v := ?v1pA2) rfl (by kernel_rfl) (by kernel_rfl) (by kernel_rfl) (fun _ _ _ h => h) (Or.inl ⟨by rfl, ?hy1pA2⟩) hHeld ?rest1pA2
            case hy1pA2 =>
              intro W' hV
              try dsimp only at hV
              go_simp
              all_goals with_reducible rfl
            case' rest1pA2 => try simp only [Act.put, List.setIfInBounds_toArray, List.set_cons_zero, List.set_cons_succ]
            refine wpAnyH_take (i := 2) (oi := { dst := some 103, op := Go.Op.move (Go.Operand.tmp 6), type := 3, pos := "ref.go:31", after := #[], guard := none }) (v := ?v2pA3) rfl (by kernel_rfl) (by kernel_rfl) (by kernel_rfl) (fun _ _ _ h => h) (Or.inl ⟨by rfl, ?hy2pA3⟩) hHeld ?rest2pA3
            case hy2pA3 =>
              intro W' hV
              try dsimp only at hV
              go_simp
              all_goals with_reducible rfl
            case' rest2pA3 => try simp only [Act.put, List.setIfInBounds_toArray, List.set_cons_zero, List.set_cons_succ]
            refine wpAnyH_take (i := 3) (oi := { dst := some 104, op := Go.Op.move (Go.Operand.tmp 3), type := 3, pos := "ref.go:31", after := #[], guard := none }) (v := ?v3pA4) rfl (by kernel_rfl) (by kernel_rfl) (by kernel_rfl) (fun _ _ _ h => h) (Or.inl ⟨by rfl, ?hy3pA4⟩) hHeld ?rest3pA4
            case hy3pA4 =>
              intro W' hV
              try dsimp only at hV
              go_simp
              all_goals with_reducible rfl
            case' rest3pA4 => try simp only [Act.put, List.setIfInBounds_toArray, List.set_cons_zero, List.set_cons_succ]
            refine wpAnyH_take (i := 4) (oi := { dst := some 105, op := Go.Op.binOp Go.BinOp.sub 3 (Go.Operand.tmp 103) (Go.Operand.tmp 104) 3, type := 3, pos := "ref.go:31", after := #[{ on := 2, ground := Go.Ground.data }, { on := 3, ground := Go.Ground.data }], guard := none }) (v := ?v4pA5) rfl (by kernel_rfl) (by kernel_rfl) (by kernel_rfl) (fun _ _ _ h => h) (Or.inl ⟨by rfl, ?hy4pA5⟩) hHeld ?rest4pA5
            case hy4pA5 =>
              intro W' hV
              try dsimp only at hV
              go_simp
              all_goals with_reducible rfl
            case' rest4pA5 => try simp only [Act.put, List.setIfInBounds_toArray, List.set_cons_zero, List.set_cons_succ]
            refine wpAnyH_take (i := 5) (oi := { dst := some 106, op := Go.Op.binOp Go.BinOp.mul 3 (Go.Operand.const (Go.Value.int Go.IntKind.i64 4)) (Go.Operand.tmp 105) 3, type := 3, pos := "ref.go:31", after := #[{ on := 4, ground := Go.Ground.data }], guard := none }) (v := ?v5pA6) rfl (by kernel_rfl) (by kernel_rfl) (by kernel_rfl) (fun _ _ _ h => h) (Or.inl ⟨by rfl, ?hy5pA6⟩) hHeld ?rest5pA6
            case hy5pA6 =>
              intro W' hV
              try dsimp only at hV
              go_simp
              all_goals with_reducible rfl
            case' rest5pA6 => try simp only [Act.put, List.setIfInBounds_toArray, List.set_cons_zero, List.set_cons_succ]
            refine wpAnyH_take (i := 6) (oi := { dst := some 107, op := Go.Op.move (Go.Operand.tmp 8), type := 3, pos := "ref.go:31", after := #[], guard := none }) (v := ?v6pA7) rfl (by kernel_rfl) (by kernel_rfl) (by kernel_rfl) (fun _ _ _ h => h) (Or.inl ⟨by rfl, ?hy6pA7⟩) hHeld ?rest6pA7
            case hy6pA7 =>
              intro W' hV
              try dsimp only at hV
              go_simp
              all_goals with_reducible rfl
            case' rest6pA7 => try simp only [Act.put, List.setIfInBounds_toArray, List.set_cons_zero, List.set_cons_succ]
            refine wpAnyH_take (i := 7) (oi := { dst := some 108, op := Go.Op.binOp Go.BinOp.add 3 (Go.Operand.tmp 106) (Go.Operand.tmp 107) 3, type := 3, pos := "ref.go:31", after := #[{ on := 5, ground := Go.Ground.data }, { on := 6, ground := Go.Ground.data }], guard := none }) (v := ?v7pA8) rfl (by kernel_rfl) (by kernel_rfl) (by kernel_rfl) (fun _ _ _ h => h) (Or.inl ⟨by rfl, ?hy7pA8⟩) hHeld ?rest7pA8
            case hy7pA8 =>
              intro W' hV
              try dsimp only at hV
              go_simp
              all_goals with_reducible rfl
            case' rest7pA8 => try simp only [Act.put, List.setIfInBounds_toArray, List.set_cons_zero, List.set_cons_succ]
            refine wpAnyH_take (i := 8) (oi := { dst := some 109, op := Go.Op.indexAddr 22 (Go.Operand.tmp 102) (Go.Operand.tmp 108), type := 0, pos := "ref.go:31", after := #[{ on := 1, ground := Go.Ground.data }, { on := 7, ground := Go.Ground.data }], guard := none }) (v := ?v8pA9) rfl (by kernel_rfl) (by kernel_rfl) (by kernel_rfl) (fun _ _ _ h => h) (Or.inl ⟨by rfl, ?hy8pA9⟩) hHeld ?rest8pA9
            case hy8pA9 =>
              intro W' hV
              try dsimp only at hV
              go_simp
              all_goals with_reducible rfl
            case' rest8pA9 => try simp only [Act.put, List.setIfInBounds_toArray, List.set_cons_zero, List.set_cons_succ]
            refine wpAnyH_take (i := 10) (oi := { dst := some 111, op := Go.Op.move (Go.Operand.tmp 7), type := 22, pos := "ref.go:31", after := #[], guard := none }) (v := ?v10pA10) rfl (by kernel_rfl) (by kernel_rfl) (by kernel_rfl) (fun _ _ _ h => h) (Or.inl ⟨by rfl, ?hy10pA10⟩) hHeld ?rest10pA10
            case hy10pA10 =>
              intro W' hV
              try dsimp only at hV
              go_simp
              all_goals with_reducible rfl
            case' rest10pA10 => try simp only [Act.put, List.setIfInBounds_toArray, List.set_cons_zero, List.set_cons_succ]
            refine wpAnyH_take (i := 11) (oi := { dst := some 112, op := Go.Op.move (Go.Operand.tmp 8), type := 3, pos := "ref.go:31", after := #[], guard := none }) (v := ?v11pA11) rfl (by kernel_rfl) (by kernel_rfl) (by kernel_rfl) (fun _ _ _ h => h) (Or.inl ⟨by rfl, ?hy11pA11⟩) hHeld ?rest11pA11
            case hy11pA11 =>
              intro W' hV
              try dsimp only at hV
              go_simp
              all_goals with_reducible rfl
            case' rest11pA11 => try simp only [Act.put, List.setIfInBounds_toArray, List.set_cons_zero, List.set_cons_succ]
            refine wpAnyH_take (i := 12) (oi := { dst := some 113, op := Go.Op.indexAddr 22 (Go.Operand.tmp 111) (Go.Operand.tmp 112), type := 0, pos := "ref.go:31", after := #[{ on := 10, ground := Go.Ground.data }, { on := 11, ground := Go.Ground.data }], guard := none }) (v := ?v12pA12) rfl (by kernel_rfl) (by kernel_rfl) (by kernel_rfl) (fun _ _ _ h => h) (Or.inl ⟨by rfl, ?hy12pA12⟩) hHeld ?rest12pA12
            case hy12pA12 =>
              intro W' hV
              try dsimp only at hV
              go_simp
              all_goals with_reducible rfl
            case' rest12pA12 => try simp only [Act.put, List.setIfInBounds_toArray, List.set_cons_zero, List.set_cons_succ]
            refine wpAnyH_ready (rs := [9, 13]) (by kernel_rfl) (by simp) ?_
            refine AllReadyH.cons (o := { dst := some 110, op := Go.Op.load 5 (Go.Operand.tmp 109), type := 5, pos := "ref.go:31", after := #[{ on := 8, ground := Go.Ground.data }], guard := none }) rfl (fun K' hK => ?_) (AllReadyH.cons (o := { dst := some 114, op := Go.Op.load 5 (Go.Operand.tmp 113), type := 5, pos := "ref.go:31", after := #[{ on := 12, ground := Go.Ground.data }], guard := none }) rfl (fun K' hK => ?_) AllReadyH.nil)
            · rw [if_pos (by rfl)]
              have hcc := hcw
              go_simp
              refine hK.out _ _ trivial (fun hHeld1 => ?_)
              clear hK K' hHeld
              have hHeld := hHeld1
              clear hHeld1
              try simp only [Act.put, List.setIfInBounds_toArray, List.set_cons_zero, List.set_cons_succ]
              refine wpAnyH_ready (rs := [13]) (by kernel_rfl) (by simp) ?_
              refine AllReadyH.cons (o := { dst := some 114, op := Go.Op.load 5 (Go.Operand.tmp 113), type := 5, pos := "ref.go:31", after := #[{ on := 12, ground := Go.Ground.data }], guard := none }) rfl (fun K' hK => ?_) AllReadyH.nil
              rw [if_pos (by rfl)]
              have hcc := hct
              go_simp
              refine hK.out _ _ trivial (fun hHeld1 => ?_)
              clear hK K' hHeld
              have hHeld := hHeld1
              clear hHeld1
              try simp only [Act.put, List.setIfInBounds_toArray, List.set_cons_zero, List.set_cons_succ]
              refine wpAnyH_take (i := 14) (oi := { dst := some 115, op := Go.Op.binOp Go.BinOp.xor 5 (Go.Operand.tmp 110) (Go.Operand.tmp 114) 5, type := 5, pos := "ref.go:31", after := #[{ on := 9, ground := Go.Ground.data }, { on := 13, ground := Go.Ground.data }], guard := none }) (v := ?v14qA1) rfl (by kernel_rfl) (by kernel_rfl) (by kernel_rfl) (fun _ _ _ h => h) (Or.inl ⟨by rfl, ?hy14qA1⟩) hHeld ?rest14qA1
              case hy14qA1 =>
                intro W' hV
                try dsimp only at hV
                go_simp
                all_goals with_reducible rfl
              case' rest14qA1 => try simp only [Act.put, List.setIfInBounds_toArray, List.set_cons_zero, List.set_cons_succ]
              refine wpAnyH_ready (rs := [15]) (by kernel_rfl) (by simp) ?_
              refine AllReadyH.cons (o := { dst := some 116, op := Go.Op.buildSlice 22 1 #[(0, Go.Operand.tmp 115)], type := 22, pos := "ref.go:31", after := #[{ on := 14, ground := Go.Ground.data }], guard := none }) rfl (fun K' hK => ?_) AllReadyH.nil
              rw [if_pos (by rfl)]
              go_simp
              change K' _ (U.drew.alloc (.cells #[.int .u8 ((Z : Nat) : Int)] 5))
              refine hK.out _ _ trivial (fun hHeld1 => ?_)
              clear hK K' hHeld
              have hHeld := hHeld1
              clear hHeld1
              try simp only [Act.put, List.setIfInBounds_toArray, List.set_cons_zero, List.set_cons_succ]
              obtain ⟨VA, hVA⟩ : ∃ X, X = U.drew.alloc (.cells #[.int .u8 ((Z : Nat) : Int)] 5) := ⟨_, rfl⟩
              have HVB := Lib.hid (show Below U.heap.size U VA by rw [hVA]; exact ((Below.refl U.heap.size U).drew).alloc (Nat.le_refl _) _)
              have HVN := Lib.hid (show VA.heap[U.heap.size]? = some (.cells #[.int .u8 ((Z : Nat) : Int)] 5 (0, 0)) by rw [hVA]; exact heap_alloc_new _ _)
              have HVO := Lib.hid (show VA.ownsRow w.heap.size 5 1 (.slice (some ⟨g2, 0, none⟩) Lk cap2) Lk ((outL (kx n K m) i ++ (colL C).take k).map (Value.int .u8)) by rw [hVA]; exact World.ownsRow.alloc (own_drewN HO2.out 1) _)
              rw [← hVA]
              clear hVA
              refine wpAnyH_ready (rs := [16]) (by kernel_rfl) (by simp) ?_
              refine AllReadyH.cons (o := { dst := some 117, op := Go.Op.call { callee := Go.Callee.builtin Go.Builtin.append, args := #[Go.Operand.tmp 101, Go.Operand.tmp 116], argTypes := #[22, 22] }, type := 22, pos := "ref.go:31", after := #[{ on := 0, ground := Go.Ground.data }, { on := 15, ground := Go.Ground.data }], guard := none }) rfl (fun K' hK => ?_) AllReadyH.nil
              rw [if_pos (by rfl)]
              refine wp_append_lies _ (.tmp 101) (.tmp 116) 22 rfl w.heap.size 5 i5 (.int .u8 0) 1 1 Tryz.underlying22 HI.out.1 HI.out.2.1 HI.out.2.2.1 HI.out.2.2.2 rfl (by decide) (.slice (some ⟨g2, 0, none⟩) Lk cap2) Lk _ (by rfl) HVO.out ⟨U.heap.size, 0, none⟩ 1 1 [.int .u8 ((Z : Nat) : Int)] (by rfl) rfl (World.news_of_block HVN.out) (by intro u hu; cases List.mem_singleton.1 hu; rfl) (by omega) (by unfold maxLen; have := HN5.out; have := HLK2.out; have := HK4.out; omega) (by have := HN5.out; have := HLK2.out; have := HK4.out; omega) (by have := HVB.out.size; have := HB2.out.size; omega) _ rfl ?_
              intro g3 c3 w9 ho9 hg9 hor9 _
              have HO9 := Lib.hid ho9
              have HG9 := Lib.hid hg9
              have HR9 := Lib.hid hor9
              clear ho9 hg9 hor9
              refine hK.out _ _ trivial (fun hHeld1 => ?_)
              clear hK K' hHeld
              have hHeld := hHeld1
              clear hHeld1
              try simp only [Act.put, List.setIfInBounds_toArray, List.set_cons_zero, List.set_cons_succ]
              refine wpAnyH_take (i := 17) (oi := { dst := some 4, op := Go.Op.assign (Go.Operand.tmp 117), type := 22, pos := "ref.go:31", after := #[{ on := 16, ground := Go.Ground.data }, { on := 16, ground := Go.Ground.chain }, { on := 0, ground := Go.Ground.phase }, { on := 1, ground := Go.Ground.phase }, { on := 2, ground := Go.Ground.phase }, { on := 3, ground := Go.Ground.phase }, { on := 4, ground := Go.Ground.phase }, { on := 5, ground := Go.Ground.phase }, { on := 6, ground := Go.Ground.phase }, { on := 7, ground := Go.Ground.phase }, { on := 8, ground := Go.Ground.phase }, { on := 9, ground := Go.Ground.phase }, { on := 10, ground := Go.Ground.phase }, { on := 11, ground := Go.Ground.phase }, { on := 12, ground := Go.Ground.phase }, { on := 13, ground := Go.Ground.phase }, { on := 14, ground := Go.Ground.phase }, { on := 15, ground := Go.Ground.phase }, { on := 16, ground := Go.Ground.phase }], guard := none }) (v := ?v17qA2) rfl (by kernel_rfl) (by kernel_rfl) (by kernel_rfl) (fun _ _ _ h => h) (Or.inl ⟨by rfl, ?hy17qA2⟩) hHeld ?rest17qA2
              case hy17qA2 =>
                intro W' hV
                try dsimp only at hV
                go_simp
                all_goals with_reducible rfl
              case' rest17qA2 => try simp only [Act.put, List.setIfInBounds_toArray, List.set_cons_zero, List.set_cons_succ]
              refine wpAnyH_done (by kernel_rfl) ?_ _
              clear hHeld
              go_wp2
              go_roundw
              case rel =>
                have hgu := HF2.out.1
                have hne := HG2.out
                have hvs := HVB.out.size
                have hlk := HLK2.out
                refine ⟨k + 1, g3, c3, by have := HK4.out; omega, by go_num, by rw [hlk]; rfl, ?_, ⟨?_, fun r hr => ?_⟩, ?_, ?_⟩
                · have h := HO9.out
                  rw [hlk] at h
                  rw [col_take C HK4.out, ← List.append_assoc, List.map_append, ← HZ.out]
                  exact h
                · have := HG9.out.size; omega
                · exact (HG9.out.cell_far ⟨gq, r, none⟩ (by show gq < VA.heap.size; omega) (fun e => hne (Option.some.inj e).symm)).trans ((HVB.out.cell (p := ⟨gq, r, none⟩) hgu).trans (HF2.out.2 r hr))
                · rcases HR9.out with h | h
                  · have : g2 = g3 := Option.some.inj h
                    omega
                  · omega
                · exact (HB2.out.trans (HVB.out.mono HB2.out.size)).grown HG9.out (by have := HB2.out.size; omega) (fun z hz => (HO2.out.lt z hz).1)
              case measure => simp [intOf]; have := HK4.out; omega
            · rw [if_pos (by rfl)]
              have hcc := hct
              go_simp
              refine hK.out _ _ trivial (fun hHeld1 => ?_)
              clear hK K' hHeld
              have hHeld := hHeld1
              clear hHeld1
              try simp only [Act.put, List.setIfInBounds_toArray, List.set_cons_zero, List.set_cons_succ]
              refine wpAnyH_ready (rs := [9]) (by kernel_rfl) (by simp) ?_
              refine AllReadyH.cons (o := { dst := some 110, op := Go.Op.load 5 (Go.Operand.tmp 109), type := 5, pos := "ref.go:31", after := #[{ on := 8, ground := Go.Ground.data }], guard := none }) rfl (fun K' hK => ?_) AllReadyH.nil
              rw [if_pos (by rfl)]
              have hcc := hcw
              go_simp
              refine hK.out _ _ trivial (fun hHeld1 => ?_)
              clear hK K' hHeld
              have hHeld := hHeld1
              clear hHeld1
              try simp only [Act.put, List.setIfInBounds_toArray, List.set_cons_zero, List.set_cons_succ]
              refine wpAnyH_take (i := 14) (oi := { dst := some 115, op := Go.Op.binOp Go.BinOp.xor 5 (Go.Operand.tmp 110) (Go.Operand.tmp 114) 5, type := 5, pos := "ref.go:31", after := #[{ on := 9, ground := Go.Ground.data }, { on := 13, ground := Go.Ground.data }], guard := none }) (v := ?v14sA1) rfl (by kernel_rfl) (by kernel_rfl) (by kernel_rfl) (fun _ _ _ h => h) (Or.inl ⟨by rfl, ?hy14sA1⟩) hHeld ?rest14sA1
              case hy14sA1 =>
                intro W' hV
                try dsimp only at hV
                go_simp
                all_goals with_reducible rfl
              case' rest14sA1 => try simp only [Act.put, List.setIfInBounds_toArray, List.set_cons_zero, List.set_cons_succ]
              refine wpAnyH_ready (rs := [15]) (by kernel_rfl) (by simp) ?_
              refine AllReadyH.cons (o := { dst := some 116, op := Go.Op.buildSlice 22 1 #[(0, Go.Operand.tmp 115)], type := 22, pos := "ref.go:31", after := #[{ on := 14, ground := Go.Ground.data }], guard := none }) rfl (fun K' hK => ?_) AllReadyH.nil
              rw [if_pos (by rfl)]
              go_simp
              change K' _ (U.drew.alloc (.cells #[.int .u8 ((Z : Nat) : Int)] 5))
              refine hK.out _ _ trivial (fun hHeld1 => ?_)
              clear hK K' hHeld
              have hHeld := hHeld1
              clear hHeld1
              try simp only [Act.put, List.setIfInBounds_toArray, List.set_cons_zero, List.set_cons_succ]
              obtain ⟨VA, hVA⟩ : ∃ X, X = U.drew.alloc (.cells #[.int .u8 ((Z : Nat) : Int)] 5) := ⟨_, rfl⟩
              have HVB := Lib.hid (show Below U.heap.size U VA by rw [hVA]; exact ((Below.refl U.heap.size U).drew).alloc (Nat.le_refl _) _)
              have HVN := Lib.hid (show VA.heap[U.heap.size]? = some (.cells #[.int .u8 ((Z : Nat) : Int)] 5 (0, 0)) by rw [hVA]; exact heap_alloc_new _ _)
              have HVO := Lib.hid (show VA.ownsRow w.heap.size 5 1 (.slice (some ⟨g2, 0, none⟩) Lk cap2) Lk ((outL (kx n K m) i ++ (colL C).take k).map (Value.int .u8)) by rw [hVA]; exact World.ownsRow.alloc (own_drewN HO2.out 1) _)
              rw [← hVA]
              clear hVA
              refine wpAnyH_ready (rs := [16]) (by kernel_rfl) (by simp) ?_
              refine AllReadyH.cons (o := { dst := some 117, op := Go.Op.call { callee := Go.Callee.builtin Go.Builtin.append, args := #[Go.Operand.tmp 101, Go.Operand.tmp 116], argTypes := #[22, 22] }, type := 22, pos := "ref.go:31", after := #[{ on := 0, ground := Go.Ground.data }, { on := 15, ground := Go.Ground.data }], guard := none }) rfl (fun K' hK => ?_) AllReadyH.nil
              rw [if_pos (by rfl)]
              refine wp_append_lies _ (.tmp 101) (.tmp 116) 22 rfl w.heap.size 5 i5 (.int .u8 0) 1 1 Tryz.underlying22 HI.out.1 HI.out.2.1 HI.out.2.2.1 HI.out.2.2.2 rfl (by decide) (.slice (some ⟨g2, 0, none⟩) Lk cap2) Lk _ (by rfl) HVO.out ⟨U.heap.size, 0, none⟩ 1 1 [.int .u8 ((Z : Nat) : Int)] (by rfl) rfl (World.news_of_block HVN.out) (by intro u hu; cases List.mem_singleton.1 hu; rfl) (by omega) (by unfold maxLen; have := HN5.out; have := HLK2.out; have := HK4.out; omega) (by have := HN5.out; have := HLK2.out; have := HK4.out; omega) (by have := HVB.out.size; have := HB2.out.size; omega) _ rfl ?_
              intro g3 c3 w9 ho9 hg9 hor9 _
              have HO9 := Lib.hid ho9
              have HG9 := Lib.hid hg9
              have HR9 := Lib.hid hor9
              clear ho9 hg9 hor9
              refine hK.out _ _ trivial (fun hHeld1 => ?_)
              clear hK K' hHeld
              have hHeld := hHeld1
              clear hHeld1
              try simp only [Act.put, List.setIfInBounds_toArray, List.set_cons_zero, List.set_cons_succ]
              refine wpAnyH_take (i := 17) (oi := { dst := some 4, op := Go.Op.assign (Go.Operand.tmp 117), type := 22, pos := "ref.go:31", after := #[{ on := 16, ground := Go.Ground.data }, { on := 16, ground := Go.Ground.chain }, { on := 0, ground := Go.Ground.phase }, { on := 1, ground := Go.Ground.phase }, { on := 2, ground := Go.Ground.phase }, { on := 3, ground := Go.Ground.phase }, { on := 4, ground := Go.Ground.phase }, { on := 5, ground := Go.Ground.phase }, { on := 6, ground := Go.Ground.phase }, { on := 7, ground := Go.Ground.phase }, { on := 8, ground := Go.Ground.phase }, { on := 9, ground := Go.Ground.phase }, { on := 10, ground := Go.Ground.phase }, { on := 11, ground := Go.Ground.phase }, { on := 12, ground := Go.Ground.phase }, { on := 13, ground := Go.Ground.phase }, { on := 14, ground := Go.Ground.phase }, { on := 15, ground := Go.Ground.phase }, { on := 16, ground := Go.Ground.phase }], guard := none }) (v := ?v17sA2) rfl (by kernel_rfl) (by kernel_rfl) (by kernel_rfl) (fun _ _ _ h => h) (Or.inl ⟨by rfl, ?hy17sA2⟩) hHeld ?rest17sA2
              case hy17sA2 =>
                intro W' hV
                try dsimp only at hV
                go_simp
                all_goals with_reducible rfl
              case' rest17sA2 => try simp only [Act.put, List.setIfInBounds_toArray, List.set_cons_zero, List.set_cons_succ]
              refine wpAnyH_done (by kernel_rfl) ?_ _
              clear hHeld
              go_wp2
              go_roundw
              case rel =>
                have hgu := HF2.out.1
                have hne := HG2.out
                have hvs := HVB.out.size
                have hlk := HLK2.out
                refine ⟨k + 1, g3, c3, by have := HK4.out; omega, by go_num, by rw [hlk]; rfl, ?_, ⟨?_, fun r hr => ?_⟩, ?_, ?_⟩
                · have h := HO9.out
                  rw [hlk] at h
                  rw [col_take C HK4.out, ← List.append_assoc, List.map_append, ← HZ.out]
                  exact h
                · have := HG9.out.size; omega
                · exact (HG9.out.cell_far ⟨gq, r, none⟩ (by show gq < VA.heap.size; omega) (fun e => hne (Option.some.inj e).symm)).trans ((HVB.out.cell (p := ⟨gq, r, none⟩) hgu).trans (HF2.out.2 r hr))
                · rcases HR9.out with h | h
                  · have : g2 = g3 := Option.some.inj h
                    omega
                  · omega
                · exact (HB2.out.trans (HVB.out.mono HB2.out.size)).grown HG9.out (by have := HB2.out.size; omega) (fun z hz => (HO2.out.lt z hz).1)
              case measure => simp [intOf]; have := HK4.out; omega
          · obtain rfl : k = 4 := by omega
            have HOE := Lib.hid (show U.ownsRow w.heap.size 5 1 (.slice (some ⟨g2, 0, none⟩) (4 * (n + (m + 1))) cap2) (4 * (n + (m + 1))) ((outL (kx n K (m + 1)) (n + (m + 1))).map (Value.int .u8)) by
              have h := HO2.out
              rw [show (colL C).take 4 = colL C from rfl] at h
              have e : N4 + 4 = 4 * (n + (m + 1)) := by have := HN4.out; have := HII.out; omega
              have e2 : outL (kx n K m) i ++ colL C = outL (kx n K (m + 1)) (n + (m + 1)) := by
                rw [show n + (m + 1) = i + 1 by have := HII.out; omega, outL]
                have h1 : outL (kx n K (m + 1)) i = outL (kx n K m) i := outL_congrN i (fun j hj => kx_old K (by have := HII.out; omega))
                have h2 : kx n K (m + 1) i = C := by rw [HII.out, kx_new, HCE.out, HTE.out, HF.out, HII.out]
                rw [h1, h2]
              rw [e, e2] at h
              exact h)
            go_wp2
            go_roundw
            case rel => first | exact ⟨m + 1, g2, cap2, by have := HLT.out; omega, by rw [HII.out]; go_num, by rw [HPV.out, HII.out]; rfl, by rw [show N4 + 4 = 4 * (n + (m + 1)) by have := HN4.out; have := HII.out; omega], HOE.out, HB2.out⟩ | ((repeat apply Exists.intro); exact ⟨⟨m + 1, g2, cap2, by have := HLT.out; omega, by rw [HII.out]; go_num, by rw [HPV.out, HII.out]; rfl, by rw [show N4 + 4 = 4 * (n + (m + 1)) by have := HN4.out; have := HII.out; omega], HOE.out, HB2.out⟩, rfl⟩)
            case measure => simp [intOf]; have := HII.out; have := HLT.out; omega
      · obtain ⟨d, hd⟩ : ∃ d, d = i % n := ⟨_, rfl⟩
        have qt : (i : Int).tmod (n : Int) = (d : Int) := by rw [Int.tmod_eq_emod_of_nonneg (by omega), hd]; rfl
        have qr : ((d : Int) == 0) = false := by rw [beq_eq_false_iff_ne]; omega
        clear hd
        have HR := Lib.hid hr
        have HPV := Lib.hid (show P = pwr 2 (i / n) by
          rw [HP.out, ← HII.out]
          have h := pwr_up (n := n) (i := i) (by omega) (by have := HII.out; omega)
          rw [if_neg HR.out] at h
          rw [h])
        clear hr
        by_cases h8 : n = 8 ∧ i % 8 = 4
        · have H8 := Lib.hid h8
          have q8 : ((n : Int) == 8) = true := by rw [beq_iff_eq]; omega
          have qm8 : (i : Int) % 8 = 4 := by omega
          have qm9 : (i : Int).tmod 8 = 4 := by rw [Int.tmod_eq_emod_of_nonneg (by omega)]; omega
          clear h8
          go_upto_region 12 with fail
          go_wp2_with fail
          refine wp_region_held_drew (S := fun U => Below V7.heap.size V7 U) (by kernel_rfl) (Below.refl _ _).drew (fun hHeld => ?_)
          refine wpAnyH_take (i := 0) (oi := { dst := some 80, op := Go.Op.move (Go.Operand.tmp 7), type := 22, pos := "ref.go:28", after := #[], guard := none }) (v := ?v0y1) rfl (by kernel_rfl) (by kernel_rfl) (by kernel_rfl) (fun _ _ _ h => h) (Or.inl ⟨by rfl, ?hy0y1⟩) hHeld ?rest0y1
          case hy0y1 =>
            intro W' hV
            try dsimp only at hV
            go_simp
            all_goals with_reducible rfl
          case' rest0y1 => try simp only [Act.put, List.setIfInBounds_toArray, List.set_cons_zero, List.set_cons_succ]
          refine wpAnyH_take (i := 1) (oi := { dst := some 81, op := Go.Op.indexAddr 22 (Go.Operand.tmp 80) (Go.Operand.const (Go.Value.int Go.IntKind.i64 0)), type := 0, pos := "ref.go:28", after := #[{ on := 0, ground := Go.Ground.data }], guard := none }) (v := ?v1y2) rfl (by kernel_rfl) (by kernel_rfl) (by kernel_rfl) (fun _ _ _ h => h) (Or.inl ⟨by rfl, ?hy1y2⟩) hHeld ?rest1y2
          case hy1y2 =>
            intro W' hV
            try dsimp only at hV
            go_simp
            all_goals with_reducible rfl
          case' rest1y2 => try simp only [Act.put, List.setIfInBounds_toArray, List.set_cons_zero, List.set_cons_succ]
          refine wpAnyH_take (i := 2) (oi := { dst := some 82, op := Go.Op.load 5 (Go.Operand.tmp 81), type := 5, pos := "ref.go:28", after := #[{ on := 1, ground := Go.Ground.data }], guard := none }) (v := ?v2y3) rfl (by kernel_rfl) (by kernel_rfl) (by kernel_rfl) (fun _ _ _ h => h) (Or.inl ⟨by rfl, ?hy2y3⟩) hHeld ?rest2y3
          case hy2y3 =>
            intro W' hV
            try dsimp only at hV
            have hct := (hV.cell (p := ⟨gt, 0, none⟩) HT7.out.1).trans (HT7.out.2 0 (by omega))
            go_simp
            all_goals with_reducible rfl
          case' rest2y3 => try simp only [Act.put, List.setIfInBounds_toArray, List.set_cons_zero, List.set_cons_succ]
          refine wpAnyH_take (i := 4) (oi := { dst := some 84, op := Go.Op.move (Go.Operand.tmp 7), type := 22, pos := "ref.go:28", after := #[], guard := none }) (v := ?v4y4) rfl (by kernel_rfl) (by kernel_rfl) (by kernel_rfl) (fun _ _ _ h => h) (Or.inl ⟨by rfl, ?hy4y4⟩) hHeld ?rest4y4
          case hy4y4 =>
            intro W' hV
            try dsimp only at hV
            go_simp
            all_goals with_reducible rfl
          case' rest4y4 => try simp only [Act.put, List.setIfInBounds_toArray, List.set_cons_zero, List.set_cons_succ]
          refine wpAnyH_take (i := 5) (oi := { dst := some 85, op := Go.Op.indexAddr 22 (Go.Operand.tmp 84) (Go.Operand.const (Go.Value.int Go.IntKind.i64 1)), type := 0, pos := "ref.go:28", after := #[{ on := 4, ground := Go.Ground.data }], guard := none }) (v := ?v5y5) rfl (by kernel_rfl) (by kernel_rfl) (by kernel_rfl) (fun _ _ _ h => h) (Or.inl ⟨by rfl, ?hy5y5⟩) hHeld ?rest5y5
          case hy5y5 =>
            intro W' hV
            try dsimp only at hV
            go_simp
            all_goals with_reducible rfl
          case' rest5y5 => try simp only [Act.put, List.setIfInBounds_toArray, List.set_cons_zero, List.set_cons_succ]
          refine wpAnyH_take (i := 6) (oi := { dst := some 86, op := Go.Op.load 5 (Go.Operand.tmp 85), type := 5, pos := "ref.go:28", after := #[{ on := 5, ground := Go.Ground.data }], guard := none }) (v := ?v6y6) rfl (by kernel_rfl) (by kernel_rfl) (by kernel_rfl) (fun _ _ _ h => h) (Or.inl ⟨by rfl, ?hy6y6⟩) hHeld ?rest6y6
          case hy6y6 =>
            intro W' hV
            try dsimp only at hV
            have hct := (hV.cell (p := ⟨gt, 1, none⟩) HT7.out.1).trans (HT7.out.2 1 (by omega))
            go_simp
            all_goals with_reducible rfl
          case' rest6y6 => try simp only [Act.put, List.setIfInBounds_toArray, List.set_cons_zero, List.set_cons_succ]
          refine wpAnyH_take (i := 8) (oi := { dst := some 88, op := Go.Op.move (Go.Operand.tmp 7), type := 22, pos := "ref.go:28", after := #[], guard := none }) (v := ?v8y7) rfl (by kernel_rfl) (by kernel_rfl) (by kernel_rfl) (fun _ _ _ h => h) (Or.inl ⟨by rfl, ?hy8y7⟩) hHeld ?rest8y7
          case hy8y7 =>
            intro W' hV
            try dsimp only at hV
            go_simp
            all_goals with_reducible rfl
          case' rest8y7 => try simp only [Act.put, List.setIfInBounds_toArray, List.set_cons_zero, List.set_cons_succ]
          refine wpAnyH_take (i := 9) (oi := { dst := some 89, op := Go.Op.indexAddr 22 (Go.Operand.tmp 88) (Go.Operand.const (Go.Value.int Go.IntKind.i64 2)), type := 0, pos := "ref.go:28", after := #[{ on := 8, ground := Go.Ground.data }], guard := none }) (v := ?v9y8) rfl (by kernel_rfl) (by kernel_rfl) (by kernel_rfl) (fun _ _ _ h => h) (Or.inl ⟨by rfl, ?hy9y8⟩) hHeld ?rest9y8
          case hy9y8 =>
            intro W' hV
            try dsimp only at hV
            go_simp
            all_goals with_reducible rfl
          case' rest9y8 => try simp only [Act.put, List.setIfInBounds_toArray, List.set_cons_zero, List.set_cons_succ]
          refine wpAnyH_take (i := 10) (oi := { dst := some 90, op := Go.Op.load 5 (Go.Operand.tmp 89), type := 5, pos := "ref.go:28", after := #[{ on := 9, ground := Go.Ground.data }], guard := none }) (v := ?v10y9) rfl (by kernel_rfl) (by kernel_rfl) (by kernel_rfl) (fun _ _ _ h => h) (Or.inl ⟨by rfl, ?hy10y9⟩) hHeld ?rest10y9
          case hy10y9 =>
            intro W' hV
            try dsimp only at hV
            have hct := (hV.cell (p := ⟨gt, 2, none⟩) HT7.out.1).trans (HT7.out.2 2 (by omega))
            go_simp
            all_goals with_reducible rfl
          case' rest10y9 => try simp only [Act.put, List.setIfInBounds_toArray, List.set_cons_zero, List.set_cons_succ]
          refine wpAnyH_take (i := 12) (oi := { dst := some 92, op := Go.Op.move (Go.Operand.tmp 7), type := 22, pos := "ref.go:28", after := #[], guard := none }) (v := ?v12y10) rfl (by kernel_rfl) (by kernel_rfl) (by kernel_rfl) (fun _ _ _ h => h) (Or.inl ⟨by rfl, ?hy12y10⟩) hHeld ?rest12y10
          case hy12y10 =>
            intro W' hV
            try dsimp only at hV
            go_simp
            all_goals with_reducible rfl
          case' rest12y10 => try simp only [Act.put, List.setIfInBounds_toArray, List.set_cons_zero, List.set_cons_succ]
          refine wpAnyH_take (i := 13) (oi := { dst := some 93, op := Go.Op.indexAddr 22 (Go.Operand.tmp 92) (Go.Operand.const (Go.Value.int Go.IntKind.i64 3)), type := 0, pos := "ref.go:28", after := #[{ on := 12, ground := Go.Ground.data }], guard := none }) (v := ?v13y11) rfl (by kernel_rfl) (by kernel_rfl) (by kernel_rfl) (fun _ _ _ h => h) (Or.inl ⟨by rfl, ?hy13y11⟩) hHeld ?rest13y11
          case hy13y11 =>
            intro W' hV
            try dsimp only at hV
            go_simp
            all_goals with_reducible rfl
          case' rest13y11 => try simp only [Act.put, List.setIfInBounds_toArray, List.set_cons_zero, List.set_cons_succ]
          refine wpAnyH_take (i := 14) (oi := { dst := some 94, op := Go.Op.load 5 (Go.Operand.tmp 93), type := 5, pos := "ref.go:28", after := #[{ on := 13, ground := Go.Ground.data }], guard := none }) (v := ?v14y12) rfl (by kernel_rfl) (by kernel_rfl) (by kernel_rfl) (fun _ _ _ h => h) (Or.inl ⟨by rfl, ?hy14y12⟩) hHeld ?rest14y12
          case hy14y12 =>
            intro W' hV
            try dsimp only at hV
            have hct := (hV.cell (p := ⟨gt, 3, none⟩) HT7.out.1).trans (HT7.out.2 3 (by omega))
            go_simp
            all_goals with_reducible rfl
          case' rest14y12 => try simp only [Act.put, List.setIfInBounds_toArray, List.set_cons_zero, List.set_cons_succ]
          refine wpAnyH_ready (rs := [3]) (by kernel_rfl) (by simp) ?_
          refine AllReadyH.cons (o := { dst := some 83, op := Go.Op.call { callee := Go.Callee.value (Go.Operand.func 87), args := #[Go.Operand.tmp 82], argTypes := #[5] }, type := 5, pos := "ref.go:28", after := #[{ on := 2, ground := Go.Ground.data }], guard := none }) rfl (fun K' hK => ?_) AllReadyH.nil
          rw [if_pos (by rfl)]
          go_simp
          go_wp2_with (go_at_call 87; (with_reducible refine (refBox_N (f 0) (HFB.out 0) _).mono ?_); rintro e wy0 ⟨rfl, ny0, rfl⟩)
          refine hK.out _ _ (below_drewN (Below.refl _ _) _) (fun hHeld1 => ?_)
          clear hK K' hHeld
          have hHeld := hHeld1
          clear hHeld1
          try simp only [Act.put, List.setIfInBounds_toArray, List.set_cons_zero, List.set_cons_succ]
          refine wpAnyH_ready (rs := [7]) (by kernel_rfl) (by simp) ?_
          refine AllReadyH.cons (o := { dst := some 87, op := Go.Op.call { callee := Go.Callee.value (Go.Operand.func 87), args := #[Go.Operand.tmp 86], argTypes := #[5] }, type := 5, pos := "ref.go:28", after := #[{ on := 6, ground := Go.Ground.data }, { on := 3, ground := Go.Ground.chain }], guard := none }) rfl (fun K' hK => ?_) AllReadyH.nil
          rw [if_pos (by rfl)]
          go_simp
          go_wp2_with (go_at_call 87; (with_reducible refine (refBox_N (f 1) (HFB.out 1) _).mono ?_); rintro e wy1 ⟨rfl, ny1, rfl⟩)
          refine hK.out _ _ (below_drewN (Below.refl _ _) _) (fun hHeld1 => ?_)
          clear hK K' hHeld
          have hHeld := hHeld1
          clear hHeld1
          try simp only [Act.put, List.setIfInBounds_toArray, List.set_cons_zero, List.set_cons_succ]
          refine wpAnyH_ready (rs := [11]) (by kernel_rfl) (by simp) ?_
          refine AllReadyH.cons (o := { dst := some 91, op := Go.Op.call { callee := Go.Callee.value (Go.Operand.func 87), args := #[Go.Operand.tmp 90], argTypes := #[5] }, type := 5, pos := "ref.go:28", after := #[{ on := 10, ground := Go.Ground.data }, { on := 7, ground := Go.Ground.chain }], guard := none }) rfl (fun K' hK => ?_) AllReadyH.nil
          rw [if_pos (by rfl)]
          go_simp
          go_wp2_with (go_at_call 87; (with_reducible refine (refBox_N (f 2) (HFB.out 2) _).mono ?_); rintro e wy2 ⟨rfl, ny2, rfl⟩)
          refine hK.out _ _ (below_drewN (Below.refl _ _) _) (fun hHeld1 => ?_)
          clear hK K' hHeld
          have hHeld := hHeld1
          clear hHeld1
          try simp only [Act.put, List.setIfInBounds_toArray, List.set_cons_zero, List.set_cons_succ]
          refine wpAnyH_ready (rs := [15]) (by kernel_rfl) (by simp) ?_
          refine AllReadyH.cons (o := { dst := some 95, op := Go.Op.call { callee := Go.Callee.value (Go.Operand.func 87), args := #[Go.Operand.tmp 94], argTypes := #[5] }, type := 5, pos := "ref.go:28", after := #[{ on := 14, ground := Go.Ground.data }, { on := 11, ground := Go.Ground.chain }], guard := none }) rfl (fun K' hK => ?_) AllReadyH.nil
          rw [if_pos (by rfl)]
          go_simp
          go_wp2_with (go_at_call 87; (with_reducible refine (refBox_N (f 3) (HFB.out 3) _).mono ?_); rintro e wy3 ⟨rfl, ny3, rfl⟩)
          refine hK.out _ _ (below_drewN (Below.refl _ _) _) (fun hHeld1 => ?_)
          clear hK K' hHeld
          have hHeld := hHeld1
          clear hHeld1
          try simp only [Act.put, List.setIfInBounds_toArray, List.set_cons_zero, List.set_cons_succ]
          refine wpAnyH_ready (rs := [16]) (by kernel_rfl) (by simp) ?_
          refine AllReadyH.cons (o := { dst := some 96, op := Go.Op.buildSlice 22 4 #[(0, Go.Operand.tmp 83), (1, Go.Operand.tmp 87), (2, Go.Operand.tmp 91), (3, Go.Operand.tmp 95)], type := 22, pos := "ref.go:28", after := #[{ on := 3, ground := Go.Ground.data }, { on := 7, ground := Go.Ground.data }, { on := 11, ground := Go.Ground.data }, { on := 15, ground := Go.Ground.data }], guard := none }) rfl (fun K' hK => ?_) AllReadyH.nil
          rw [if_pos (by rfl)]
          go_simp
          refine hK.out _ _ (hHeld.alloc hHeld.size _) (fun hHeld1 => ?_)
          clear hK K' hHeld
          have hHeld := hHeld1
          clear hHeld1
          try simp only [Act.put, List.setIfInBounds_toArray, List.set_cons_zero, List.set_cons_succ]
          refine wpAnyH_take (i := 17) (oi := { dst := some 7, op := Go.Op.assign (Go.Operand.tmp 96), type := 22, pos := "ref.go:28", after := #[{ on := 16, ground := Go.Ground.data }, { on := 15, ground := Go.Ground.chain }, { on := 0, ground := Go.Ground.phase }, { on := 1, ground := Go.Ground.phase }, { on := 2, ground := Go.Ground.phase }, { on := 3, ground := Go.Ground.phase }, { on := 4, ground := Go.Ground.phase }, { on := 5, ground := Go.Ground.phase }, { on := 6, ground := Go.Ground.phase }, { on := 7, ground := Go.Ground.phase }, { on := 8, ground := Go.Ground.phase }, { on := 9, ground := Go.Ground.phase }, { on := 10, ground := Go.Ground.phase }, { on := 11, ground := Go.Ground.phase }, { on := 12, ground := Go.Ground.phase }, { on := 13, ground := Go.Ground.phase }, { on := 14, ground := Go.Ground.phase }, { on := 15, ground := Go.Ground.phase }, { on := 16, ground := Go.Ground.phase }], guard := none }) (v := ?v17y13) rfl (by kernel_rfl) (by kernel_rfl) (by kernel_rfl) (fun _ _ _ h => h) (Or.inl ⟨by rfl, ?hy17y13⟩) hHeld ?rest17y13
          case hy17y13 =>
            intro W' hV
            try dsimp only at hV
            go_simp
            all_goals with_reducible rfl
          case' rest17y13 => try simp only [Act.put, List.setIfInBounds_toArray, List.set_cons_zero, List.set_cons_succ]
          refine wpAnyH_done (by kernel_rfl) ?_ _
          clear hHeld
          obtain ⟨VV, hVV⟩ : ∃ V, V = (V7.drewN (1 + ny0 + ny1 + ny2 + ny3)).alloc (.cells #[.int .u8 ((box (f 0) : Nat) : Int), .int .u8 ((box (f 1) : Nat) : Int), .int .u8 ((box (f 2) : Nat) : Int), .int .u8 ((box (f 3) : Nat) : Int)] 5) := ⟨_, rfl⟩
          have HFV := Lib.hid (show Four VV V7.heap.size (tmp n i f) by
            rw [hVV]
            have h := four_made (V7.drewN (1 + ny0 + ny1 + ny2 + ny3)) (tmp n i f) 5
            have e0 : ∀ r, tmp n i f r = box (f r) := fun r => by unfold tmp; rw [if_neg HR.out, if_pos H8.out]
            rw [e0, e0, e0, e0] at h
            exact h)
          have HBV := Lib.hid (show Below wr.heap.size wr VV by rw [hVV]; exact bt HB7.out ((below_drewN (Below.refl _ _) _).alloc (Nat.le_refl _) _))
          have hgq : wr.heap.size ≤ V7.heap.size := HB7.out.size
          obtain ⟨gq, hgqe⟩ : ∃ b, b = V7.heap.size := ⟨_, rfl⟩
          rw [← hVV, ← hgqe]
          rw [← hgqe] at HFV hgq
          clear hVV hgqe qr qt q8 qm8 qm9
          go_upto_region 13 with fail
          have HOV := Lib.hid (own_belowK HO.out HBV.out)
          have HWV := Lib.hid (HB.out.trans (HBV.out.mono HB.out.size))
          have HGQ := Lib.hid (show g ≠ gq by have := (own_caps HO.out).2.2.2.2; omega)
          have HTB := Lib.hid (fun r => tmp_lt n i HFB.out r)
          obtain ⟨T, hT⟩ : ∃ T, T = tmp n i f := ⟨_, rfl⟩
          have HTE := Lib.hid hT
          rw [← hT] at HFV HTB
          obtain ⟨C, hC⟩ : ∃ C : Nat → Nat, C = fun r => kx n K m m r ^^^ T r := ⟨_, rfl⟩
          have HCE := Lib.hid hC
          have HCK := Lib.hid (kx_bd n HKB.out m m)
          have qm : (i : Int) - (n : Int) = (m : Int) := by have := HII.out; omega
          have qmb : (m : Int) ≤ 52 := by have := HII.out; omega
          have qm0 : (0 : Int) ≤ (m : Int) := by omega
          have HI4 := Lib.hid (show 4 * m + 4 ≤ N4 by have := HII.out; have := HN4.out; omega)
          have HN5 := Lib.hid (show N4 ≤ 240 by have := HN4.out; omega)
          clear hT hC hgq
          go_wp2_with fail
          go_loopw [4, 8] (fun v q U => ∃ k g2 cap2 : Nat, k ≤ 4 ∧ q = .int .i64 (k : Nat) ∧ v = .slice (some ⟨g2, 0, none⟩) (N4 + k) cap2 ∧ U.ownsRow w.heap.size 5 1 (.slice (some ⟨g2, 0, none⟩) (N4 + k) cap2) (N4 + k) ((outL (kx n K m) i ++ (colL C).take k).map (Value.int .u8)) ∧ Four U gq T ∧ g2 ≠ gq ∧ Below w.heap.size w U) (fun _ q _ => 4 - (intOf q).toNat)
          case atStart => exact ⟨0, g, cap, by omega, rfl, rfl, by rw [List.take_zero, List.append_nil]; exact HOV.out, HFV.out, HGQ.out, HWV.out⟩
          case round =>
            obtain ⟨k, g2, cap2, hk, rfl, rfl, hO2, hF2, hg2, hB2⟩ := hrel
            rename World => U
            have HO2 := Lib.hid hO2
            have HF2 := Lib.hid hF2
            have HG2 := Lib.hid hg2
            have HB2 := Lib.hid hB2
            clear hO2 hF2 hg2 hB2
            by_cases hlt4 : k < 4
            · have hcw : U.cell? ⟨g2, 4 * m + k, none⟩ = some (.int .u8 ((kx n K m m k : Nat) : Int)) := by
                have h := own_cells HO2.out (4 * m + k) (by have := HI4.out; omega)
                rw [Nat.zero_add, List.getD_eq_getElem?_getD, List.getElem?_append_left (by rw [length_outL]; have := HI4.out; have := HN4.out; omega), ← List.getD_eq_getElem?_getD, getD_outL _ hlt4 _ (by have := HII.out; omega)] at h
                exact h
              have hct := HF2.out.2 k hlt4
              have hxr := u8_xor_nat (kx n K m m k) (T k) (HCK.out k) (HTB.out k)
              have HCV := Lib.hid (show kx n K m m k ^^^ T k = C k by rw [HCE.out])
              obtain ⟨A, hA⟩ : ∃ A, A = kx n K m m k := ⟨_, rfl⟩
              obtain ⟨B, hB⟩ : ∃ B, B = T k := ⟨_, rfl⟩
              rw [← hA] at hcw hxr HCV
              rw [← hB] at hct hxr HCV
              rw [HCV.out] at hxr
              obtain ⟨Z, hZ⟩ : ∃ Z, Z = C k := ⟨_, rfl⟩
              have HZ := Lib.hid hZ
              rw [← hZ] at hxr
              obtain ⟨q0, hq0⟩ : ∃ q0, q0 = 4 * m + k := ⟨_, rfl⟩
              obtain ⟨m4, hm4⟩ : ∃ m4, m4 = 4 * m := ⟨_, rfl⟩
              obtain ⟨Lk, hLk⟩ : ∃ Lk, Lk = N4 + k := ⟨_, rfl⟩
              rw [← hq0] at hcw
              rw [← hLk] at HO2 ⊢
              have x0 : 4 * (m : Int) = (m4 : Int) := by omega
              have x1 : (m4 : Int) + (k : Int) = (q0 : Int) := by omega
              have y0 : IntKind.i64.wrap (m : Int) = (m : Int) := IntWalk.i64_in _ (by omega)
              have y1 : IntKind.i64.wrap (m4 : Int) = (m4 : Int) := IntWalk.i64_in _ (by omega)
              have y2 : IntKind.i64.wrap (q0 : Int) = (q0 : Int) := IntWalk.i64_in _ (by omega)
              have z0 : (q0 : Int) < (Lk : Int) := by have := HI4.out; omega
              have z1 : (0 : Int) ≤ (q0 : Int) := by omega
              have z2 : (k : Int) < 4 := by omega
              have z3 : (0 : Int) ≤ (k : Int) := by omega
              have HLK2 := Lib.hid hLk
              have HK4 := Lib.hid hlt4
              clear hA hB hZ hq0 hm4 hLk hlt4 hk
              go_wp2_with fail
              refine wp_region_held_drew (S := fun _ => True) (by kernel_rfl) trivial (fun hHeld => ?_)
              refine wpAnyH_take (i := 0) (oi := { dst := some 101, op := Go.Op.move (Go.Operand.tmp 4), type := 22, pos := "ref.go:31", after := #[], guard := none }) (v := ?v0pB1) rfl (by kernel_rfl) (by kernel_rfl) (by kernel_rfl) (fun _ _ _ h => h) (Or.inl ⟨by rfl, ?hy0pB1⟩) hHeld ?rest0pB1
              case hy0pB1 =>
                intro W' hV
                try dsimp only at hV
                go_simp
                all_goals with_reducible rfl
              case' rest0pB1 => try simp only [Act.put, List.setIfInBounds_toArray, List.set_cons_zero, List.set_cons_succ]
              refine wpAnyH_take (i := 1) (oi := { dst := some 102, op := Go.Op.move (Go.Operand.tmp 4), type := 22, pos := "ref.go:31", after := #[], guard := none }) (v := ?v1pB2) rfl (by kernel_rfl) (by kernel_rfl) (by kernel_rfl) (fun _ _ _ h => h) (Or.inl ⟨by rfl, ?hy1pB2⟩) hHeld ?rest1pB2
              case hy1pB2 =>
                intro W' hV
                try dsimp only at hV
                go_simp
                all_goals with_reducible rfl
              case' rest1pB2 => try simp only [Act.put, List.setIfInBounds_toArray, List.set_cons_zero, List.set_cons_succ]
              refine wpAnyH_take (i := 2) (oi := { dst := some 103, op := Go.Op.move (Go.Operand.tmp 6), type := 3, pos := "ref.go:31", after := #[], guard := none }) (v := ?v2pB3) rfl (by kernel_rfl) (by kernel_rfl) (by kernel_rfl) (fun _ _ _ h => h) (Or.inl ⟨by rfl, ?hy2pB3⟩) hHeld ?rest2pB3
              case hy2pB3 =>
                intro W' hV
                try dsimp only at hV
                go_simp
                all_goals with_reducible rfl
              case' rest2pB3 => try simp only [Act.put, List.setIfInBounds_toArray, List.set_cons_zero, List.set_cons_succ]
              refine wpAnyH_take (i := 3) (oi := { dst := some 104, op := Go.Op.move (Go.Operand.tmp 3), type := 3, pos := "ref.go:31", after := #[], guard := none }) (v := ?v3pB4) rfl (by kernel_rfl) (by kernel_rfl) (by kernel_rfl) (fun _ _ _ h => h) (Or.inl ⟨by rfl, ?hy3pB4⟩) hHeld ?rest3pB4
              case hy3pB4 =>
                intro W' hV
                try dsimp only at hV
                go_simp
                all_goals with_reducible rfl
              case' rest3pB4 => try simp only [Act.put, List.setIfInBounds_toArray, List.set_cons_zero, List.set_cons_succ]
              refine wpAnyH_take (i := 4) (oi := { dst := some 105, op := Go.Op.binOp Go.BinOp.sub 3 (Go.Operand.tmp 103) (Go.Operand.tmp 104) 3, type := 3, pos := "ref.go:31", after := #[{ on := 2, ground := Go.Ground.data }, { on := 3, ground := Go.Ground.data }], guard := none }) (v := ?v4pB5) rfl (by kernel_rfl) (by kernel_rfl) (by kernel_rfl) (fun _ _ _ h => h) (Or.inl ⟨by rfl, ?hy4pB5⟩) hHeld ?rest4pB5
              case hy4pB5 =>
                intro W' hV
                try dsimp only at hV
                go_simp
                all_goals with_reducible rfl
              case' rest4pB5 => try simp only [Act.put, List.setIfInBounds_toArray, List.set_cons_zero, List.set_cons_succ]
              refine wpAnyH_take (i := 5) (oi := { dst := some 106, op := Go.Op.binOp Go.BinOp.mul 3 (Go.Operand.const (Go.Value.int Go.IntKind.i64 4)) (Go.Operand.tmp 105) 3, type := 3, pos := "ref.go:31", after := #[{ on := 4, ground := Go.Ground.data }], guard := none }) (v := ?v5pB6) rfl (by kernel_rfl) (by kernel_rfl) (by kernel_rfl) (fun _ _ _ h => h) (Or.inl ⟨by rfl, ?hy5pB6⟩) hHeld ?rest5pB6
              case hy5pB6 =>
                intro W' hV
                try dsimp only at hV
                go_simp
                all_goals with_reducible rfl
              case' rest5pB6 => try simp only [Act.put, List.setIfInBounds_toArray, List.set_cons_zero, List.set_cons_succ]
              refine wpAnyH_take (i := 6) (oi := { dst := some 107, op := Go.Op.move (Go.Operand.tmp 8), type := 3, pos := "ref.go:31", after := #[], guard := none }) (v := ?v6pB7) rfl (by kernel_rfl) (by kernel_rfl) (by kernel_rfl) (fun _ _ _ h => h) (Or.inl ⟨by rfl, ?hy6pB7⟩) hHeld ?rest6pB7
              case hy6pB7 =>
                intro W' hV
                try dsimp only at hV
                go_simp
                all_goals with_reducible rfl
              case' rest6pB7 => try simp only [Act.put, List.setIfInBounds_toArray, List.set_cons_zero, List.set_cons_succ]
              refine wpAnyH_take (i := 7) (oi := { dst := some 108, op := Go.Op.binOp Go.BinOp.add 3 (Go.Operand.tmp 106) (Go.Operand.tmp 107) 3, type := 3, pos := "ref.go:31", after := #[{ on := 5, ground := Go.Ground.data }, { on := 6, ground := Go.Ground.data }], guard := none }) (v := ?v7pB8) rfl (by kernel_rfl) (by kernel_rfl) (by kernel_rfl) (fun _ _ _ h => h) (Or.inl ⟨by rfl, ?hy7pB8⟩) hHeld ?rest7pB8
              case hy7pB8 =>
                intro W' hV
                try dsimp only at hV
                go_simp
                all_goals with_reducible rfl
              case' rest7pB8 => try simp only [Act.put, List.setIfInBounds_toArray, List.set_cons_zero, List.set_cons_succ]
              refine wpAnyH_take (i := 8) (oi := { dst := some 109, op := Go.Op.indexAddr 22 (Go.Operand.tmp 102) (Go.Operand.tmp 108), type := 0, pos := "ref.go:31", after := #[{ on := 1, ground := Go.Ground.data }, { on := 7, ground := Go.Ground.data }], guard := none }) (v := ?v8pB9) rfl (by kernel_rfl) (by kernel_rfl) (by kernel_rfl) (fun _ _ _ h => h) (Or.inl ⟨by rfl, ?hy8pB9⟩) hHeld ?rest8pB9
              case hy8pB9 =>
                intro W' hV
                try dsimp only at hV
                go_simp
                all_goals with_reducible rfl
              case' rest8pB9 => try simp only [Act.put, List.setIfInBounds_toArray, List.set_cons_zero, List.set_cons_succ]
              refine wpAnyH_take (i := 10) (oi := { dst := some 111, op := Go.Op.move (Go.Operand.tmp 7), type := 22, pos := "ref.go:31", after := #[], guard := none }) (v := ?v10pB10) rfl (by kernel_rfl) (by kernel_rfl) (by kernel_rfl) (fun _ _ _ h => h) (Or.inl ⟨by rfl, ?hy10pB10⟩) hHeld ?rest10pB10
              case hy10pB10 =>
                intro W' hV
                try dsimp only at hV
                go_simp
                all_goals with_reducible rfl
              case' rest10pB10 => try simp only [Act.put, List.setIfInBounds_toArray, List.set_cons_zero, List.set_cons_succ]
              refine wpAnyH_take (i := 11) (oi := { dst := some 112, op := Go.Op.move (Go.Operand.tmp 8), type := 3, pos := "ref.go:31", after := #[], guard := none }) (v := ?v11pB11) rfl (by kernel_rfl) (by kernel_rfl) (by kernel_rfl) (fun _ _ _ h => h) (Or.inl ⟨by rfl, ?hy11pB11⟩) hHeld ?rest11pB11
              case hy11pB11 =>
                intro W' hV
                try dsimp only at hV
                go_simp
                all_goals with_reducible rfl
              case' rest11pB11 => try simp only [Act.put, List.setIfInBounds_toArray, List.set_cons_zero, List.set_cons_succ]
              refine wpAnyH_take (i := 12) (oi := { dst := some 113, op := Go.Op.indexAddr 22 (Go.Operand.tmp 111) (Go.Operand.tmp 112), type := 0, pos := "ref.go:31", after := #[{ on := 10, ground := Go.Ground.data }, { on := 11, ground := Go.Ground.data }], guard := none }) (v := ?v12pB12) rfl (by kernel_rfl) (by kernel_rfl) (by kernel_rfl) (fun _ _ _ h => h) (Or.inl ⟨by rfl, ?hy12pB12⟩) hHeld ?rest12pB12
              case hy12pB12 =>
                intro W' hV
                try dsimp only at hV
                go_simp
                all_goals with_reducible rfl
              case' rest12pB12 => try simp only [Act.put, List.setIfInBounds_toArray, List.set_cons_zero, List.set_cons_succ]
              refine wpAnyH_ready (rs := [9, 13]) (by kernel_rfl) (by simp) ?_
              refine AllReadyH.cons (o := { dst := some 110, op := Go.Op.load 5 (Go.Operand.tmp 109), type := 5, pos := "ref.go:31", after := #[{ on := 8, ground := Go.Ground.data }], guard := none }) rfl (fun K' hK => ?_) (AllReadyH.cons (o := { dst := some 114, op := Go.Op.load 5 (Go.Operand.tmp 113), type := 5, pos := "ref.go:31", after := #[{ on := 12, ground := Go.Ground.data }], guard := none }) rfl (fun K' hK => ?_) AllReadyH.nil)
              · rw [if_pos (by rfl)]
                have hcc := hcw
                go_simp
                refine hK.out _ _ trivial (fun hHeld1 => ?_)
                clear hK K' hHeld
                have hHeld := hHeld1
                clear hHeld1
                try simp only [Act.put, List.setIfInBounds_toArray, List.set_cons_zero, List.set_cons_succ]
                refine wpAnyH_ready (rs := [13]) (by kernel_rfl) (by simp) ?_
                refine AllReadyH.cons (o := { dst := some 114, op := Go.Op.load 5 (Go.Operand.tmp 113), type := 5, pos := "ref.go:31", after := #[{ on := 12, ground := Go.Ground.data }], guard := none }) rfl (fun K' hK => ?_) AllReadyH.nil
                rw [if_pos (by rfl)]
                have hcc := hct
                go_simp
                refine hK.out _ _ trivial (fun hHeld1 => ?_)
                clear hK K' hHeld
                have hHeld := hHeld1
                clear hHeld1
                try simp only [Act.put, List.setIfInBounds_toArray, List.set_cons_zero, List.set_cons_succ]
                refine wpAnyH_take (i := 14) (oi := { dst := some 115, op := Go.Op.binOp Go.BinOp.xor 5 (Go.Operand.tmp 110) (Go.Operand.tmp 114) 5, type := 5, pos := "ref.go:31", after := #[{ on := 9, ground := Go.Ground.data }, { on := 13, ground := Go.Ground.data }], guard := none }) (v := ?v14qB1) rfl (by kernel_rfl) (by kernel_rfl) (by kernel_rfl) (fun _ _ _ h => h) (Or.inl ⟨by rfl, ?hy14qB1⟩) hHeld ?rest14qB1
                case hy14qB1 =>
                  intro W' hV
                  try dsimp only at hV
                  go_simp
                  all_goals with_reducible rfl
                case' rest14qB1 => try simp only [Act.put, List.setIfInBounds_toArray, List.set_cons_zero, List.set_cons_succ]
                refine wpAnyH_ready (rs := [15]) (by kernel_rfl) (by simp) ?_
                refine AllReadyH.cons (o := { dst := some 116, op := Go.Op.buildSlice 22 1 #[(0, Go.Operand.tmp 115)], type := 22, pos := "ref.go:31", after := #[{ on := 14, ground := Go.Ground.data }], guard := none }) rfl (fun K' hK => ?_) AllReadyH.nil
                rw [if_pos (by rfl)]
                go_simp
                change K' _ (U.drew.alloc (.cells #[.int .u8 ((Z : Nat) : Int)] 5))
                refine hK.out _ _ trivial (fun hHeld1 => ?_)
                clear hK K' hHeld
                have hHeld := hHeld1
                clear hHeld1
                try simp only [Act.put, List.setIfInBounds_toArray, List.set_cons_zero, List.set_cons_succ]
                obtain ⟨VA, hVA⟩ : ∃ X, X = U.drew.alloc (.cells #[.int .u8 ((Z : Nat) : Int)] 5) := ⟨_, rfl⟩
                have HVB := Lib.hid (show Below U.heap.size U VA by rw [hVA]; exact ((Below.refl U.heap.size U).drew).alloc (Nat.le_refl _) _)
                have HVN := Lib.hid (show VA.heap[U.heap.size]? = some (.cells #[.int .u8 ((Z : Nat) : Int)] 5 (0, 0)) by rw [hVA]; exact heap_alloc_new _ _)
                have HVO := Lib.hid (show VA.ownsRow w.heap.size 5 1 (.slice (some ⟨g2, 0, none⟩) Lk cap2) Lk ((outL (kx n K m) i ++ (colL C).take k).map (Value.int .u8)) by rw [hVA]; exact World.ownsRow.alloc (own_drewN HO2.out 1) _)
                rw [← hVA]
                clear hVA
                refine wpAnyH_ready (rs := [16]) (by kernel_rfl) (by simp) ?_
                refine AllReadyH.cons (o := { dst := some 117, op := Go.Op.call { callee := Go.Callee.builtin Go.Builtin.append, args := #[Go.Operand.tmp 101, Go.Operand.tmp 116], argTypes := #[22, 22] }, type := 22, pos := "ref.go:31", after := #[{ on := 0, ground := Go.Ground.data }, { on := 15, ground := Go.Ground.data }], guard := none }) rfl (fun K' hK => ?_) AllReadyH.nil
                rw [if_pos (by rfl)]
                refine wp_append_lies _ (.tmp 101) (.tmp 116) 22 rfl w.heap.size 5 i5 (.int .u8 0) 1 1 Tryz.underlying22 HI.out.1 HI.out.2.1 HI.out.2.2.1 HI.out.2.2.2 rfl (by decide) (.slice (some ⟨g2, 0, none⟩) Lk cap2) Lk _ (by rfl) HVO.out ⟨U.heap.size, 0, none⟩ 1 1 [.int .u8 ((Z : Nat) : Int)] (by rfl) rfl (World.news_of_block HVN.out) (by intro u hu; cases List.mem_singleton.1 hu; rfl) (by omega) (by unfold maxLen; have := HN5.out; have := HLK2.out; have := HK4.out; omega) (by have := HN5.out; have := HLK2.out; have := HK4.out; omega) (by have := HVB.out.size; have := HB2.out.size; omega) _ rfl ?_
                intro g3 c3 w9 ho9 hg9 hor9 _
                have HO9 := Lib.hid ho9
                have HG9 := Lib.hid hg9
                have HR9 := Lib.hid hor9
                clear ho9 hg9 hor9
                refine hK.out _ _ trivial (fun hHeld1 => ?_)
                clear hK K' hHeld
                have hHeld := hHeld1
                clear hHeld1
                try simp only [Act.put, List.setIfInBounds_toArray, List.set_cons_zero, List.set_cons_succ]
                refine wpAnyH_take (i := 17) (oi := { dst := some 4, op := Go.Op.assign (Go.Operand.tmp 117), type := 22, pos := "ref.go:31", after := #[{ on := 16, ground := Go.Ground.data }, { on := 16, ground := Go.Ground.chain }, { on := 0, ground := Go.Ground.phase }, { on := 1, ground := Go.Ground.phase }, { on := 2, ground := Go.Ground.phase }, { on := 3, ground := Go.Ground.phase }, { on := 4, ground := Go.Ground.phase }, { on := 5, ground := Go.Ground.phase }, { on := 6, ground := Go.Ground.phase }, { on := 7, ground := Go.Ground.phase }, { on := 8, ground := Go.Ground.phase }, { on := 9, ground := Go.Ground.phase }, { on := 10, ground := Go.Ground.phase }, { on := 11, ground := Go.Ground.phase }, { on := 12, ground := Go.Ground.phase }, { on := 13, ground := Go.Ground.phase }, { on := 14, ground := Go.Ground.phase }, { on := 15, ground := Go.Ground.phase }, { on := 16, ground := Go.Ground.phase }], guard := none }) (v := ?v17qB2) rfl (by kernel_rfl) (by kernel_rfl) (by kernel_rfl) (fun _ _ _ h => h) (Or.inl ⟨by rfl, ?hy17qB2⟩) hHeld ?rest17qB2
                case hy17qB2 =>
                  intro W' hV
                  try dsimp only at hV
                  go_simp
                  all_goals with_reducible rfl
                case' rest17qB2 => try simp only [Act.put, List.setIfInBounds_toArray, List.set_cons_zero, List.set_cons_succ]
                refine wpAnyH_done (by kernel_rfl) ?_ _
                clear hHeld
                go_wp2
                go_roundw
                case rel =>
                  have hgu := HF2.out.1
                  have hne := HG2.out
                  have hvs := HVB.out.size
                  have hlk := HLK2.out
                  refine ⟨k + 1, g3, c3, by have := HK4.out; omega, by go_num, by rw [hlk]; rfl, ?_, ⟨?_, fun r hr => ?_⟩, ?_, ?_⟩
                  · have h := HO9.out
                    rw [hlk] at h
                    rw [col_take C HK4.out, ← List.append_assoc, List.map_append, ← HZ.out]
                    exact h
                  · have := HG9.out.size; omega
                  · exact (HG9.out.cell_far ⟨gq, r, none⟩ (by show gq < VA.heap.size; omega) (fun e => hne (Option.some.inj e).symm)).trans ((HVB.out.cell (p := ⟨gq, r, none⟩) hgu).trans (HF2.out.2 r hr))
                  · rcases HR9.out with h | h
                    · have : g2 = g3 := Option.some.inj h
                      omega
                    · omega
                  · exact (HB2.out.trans (HVB.out.mono HB2.out.size)).grown HG9.out (by have := HB2.out.size; omega) (fun z hz => (HO2.out.lt z hz).1)
                case measure => simp [intOf]; have := HK4.out; omega
              · rw [if_pos (by rfl)]
                have hcc := hct
                go_simp
                refine hK.out _ _ trivial (fun hHeld1 => ?_)
                clear hK K' hHeld
                have hHeld := hHeld1
                clear hHeld1
                try simp only [Act.put, List.setIfInBounds_toArray, List.set_cons_zero, List.set_cons_succ]
                refine wpAnyH_ready (rs := [9]) (by kernel_rfl) (by simp) ?_
                refine AllReadyH.cons (o := { dst := some 110, op := Go.Op.load 5 (Go.Operand.tmp 109), type := 5, pos := "ref.go:31", after := #[{ on := 8, ground := Go.Ground.data }], guard := none }) rfl (fun K' hK => ?_) AllReadyH.nil
                rw [if_pos (by rfl)]
                have hcc := hcw
                go_simp
                refine hK.out _ _ trivial (fun hHeld1 => ?_)
                clear hK K' hHeld
                have hHeld := hHeld1
                clear hHeld1
                try simp only [Act.put, List.setIfInBounds_toArray, List.set_cons_zero, List.set_cons_succ]
                refine wpAnyH_take (i := 14) (oi := { dst := some 115, op := Go.Op.binOp Go.BinOp.xor 5 (Go.Operand.tmp 110) (Go.Operand.tmp 114) 5, type := 5, pos := "ref.go:31", after := #[{ on := 9, ground := Go.Ground.data }, { on := 13, ground := Go.Ground.data }], guard := none }) (v := ?v14sB1) rfl (by kernel_rfl) (by kernel_rfl) (by kernel_rfl) (fun _ _ _ h => h) (Or.inl ⟨by rfl, ?hy14sB1⟩) hHeld ?rest14sB1
                case hy14sB1 =>
                  intro W' hV
                  try dsimp only at hV
                  go_simp
                  all_goals with_reducible rfl
                case' rest14sB1 => try simp only [Act.put, List.setIfInBounds_toArray, List.set_cons_zero, List.set_cons_succ]
                refine wpAnyH_ready (rs := [15]) (by kernel_rfl) (by simp) ?_
                refine AllReadyH.cons (o := { dst := some 116, op := Go.Op.buildSlice 22 1 #[(0, Go.Operand.tmp 115)], type := 22, pos := "ref.go:31", after := #[{ on := 14, ground := Go.Ground.data }], guard := none }) rfl (fun K' hK => ?_) AllReadyH.nil
                rw [if_pos (by rfl)]
                go_simp
                change K' _ (U.drew.alloc (.cells #[.int .u8 ((Z : Nat) : Int)] 5))
                refine hK.out _ _ trivial (fun hHeld1 => ?_)
                clear hK K' hHeld
                have hHeld := hHeld1
                clear hHeld1
                try simp only [Act.put, List.setIfInBounds_toArray, List.set_cons_zero, List.set_cons_succ]
                obtain ⟨VA, hVA⟩ : ∃ X, X = U.drew.alloc (.cells #[.int .u8 ((Z : Nat) : Int)] 5) := ⟨_, rfl⟩
                have HVB := Lib.hid (show Below U.heap.size U VA by rw [hVA]; exact ((Below.refl U.heap.size U).drew).alloc (Nat.le_refl _) _)
                have HVN := Lib.hid (show VA.heap[U.heap.size]? = some (.cells #[.int .u8 ((Z : Nat) : Int)] 5 (0, 0)) by rw [hVA]; exact heap_alloc_new _ _)
                have HVO := Lib.hid (show VA.ownsRow w.heap.size 5 1 (.slice (some ⟨g2, 0, none⟩) Lk cap2) Lk ((outL (kx n K m) i ++ (colL C).take k).map (Value.int .u8)) by rw [hVA]; exact World.ownsRow.alloc (own_drewN HO2.out 1) _)
                rw [← hVA]
                clear hVA
                refine wpAnyH_ready (rs := [16]) (by kernel_rfl) (by simp) ?_
                refine AllReadyH.cons (o := { dst := some 117, op := Go.Op.call { callee := Go.Callee.builtin Go.Builtin.append, args := #[Go.Operand.tmp 101, Go.Operand.tmp 116], argTypes := #[22, 22] }, type := 22, pos := "ref.go:31", after := #[{ on := 0, ground := Go.Ground.data }, { on := 15, ground := Go.Ground.data }], guard := none }) rfl (fun K' hK => ?_) AllReadyH.nil
                rw [if_pos (by rfl)]
                refine wp_append_lies _ (.tmp 101) (.tmp 116) 22 rfl w.heap.size 5 i5 (.int .u8 0) 1 1 Tryz.underlying22 HI.out.1 HI.out.2.1 HI.out.2.2.1 HI.out.2.2.2 rfl (by decide) (.slice (some ⟨g2, 0, none⟩) Lk cap2) Lk _ (by rfl) HVO.out ⟨U.heap.size, 0, none⟩ 1 1 [.int .u8 ((Z : Nat) : Int)] (by rfl) rfl (World.news_of_block HVN.out) (by intro u hu; cases List.mem_singleton.1 hu; rfl) (by omega) (by unfold maxLen; have := HN5.out; have := HLK2.out; have := HK4.out; omega) (by have := HN5.out; have := HLK2.out; have := HK4.out; omega) (by have := HVB.out.size; have := HB2.out.size; omega) _ rfl ?_
                intro g3 c3 w9 ho9 hg9 hor9 _
                have HO9 := Lib.hid ho9
                have HG9 := Lib.hid hg9
                have HR9 := Lib.hid hor9
                clear ho9 hg9 hor9
                refine hK.out _ _ trivial (fun hHeld1 => ?_)
                clear hK K' hHeld
                have hHeld := hHeld1
                clear hHeld1
                try simp only [Act.put, List.setIfInBounds_toArray, List.set_cons_zero, List.set_cons_succ]
                refine wpAnyH_take (i := 17) (oi := { dst := some 4, op := Go.Op.assign (Go.Operand.tmp 117), type := 22, pos := "ref.go:31", after := #[{ on := 16, ground := Go.Ground.data }, { on := 16, ground := Go.Ground.chain }, { on := 0, ground := Go.Ground.phase }, { on := 1, ground := Go.Ground.phase }, { on := 2, ground := Go.Ground.phase }, { on := 3, ground := Go.Ground.phase }, { on := 4, ground := Go.Ground.phase }, { on := 5, ground := Go.Ground.phase }, { on := 6, ground := Go.Ground.phase }, { on := 7, ground := Go.Ground.phase }, { on := 8, ground := Go.Ground.phase }, { on := 9, ground := Go.Ground.phase }, { on := 10, ground := Go.Ground.phase }, { on := 11, ground := Go.Ground.phase }, { on := 12, ground := Go.Ground.phase }, { on := 13, ground := Go.Ground.phase }, { on := 14, ground := Go.Ground.phase }, { on := 15, ground := Go.Ground.phase }, { on := 16, ground := Go.Ground.phase }], guard := none }) (v := ?v17sB2) rfl (by kernel_rfl) (by kernel_rfl) (by kernel_rfl) (fun _ _ _ h => h) (Or.inl ⟨by rfl, ?hy17sB2⟩) hHeld ?rest17sB2
                case hy17sB2 =>
                  intro W' hV
                  try dsimp only at hV
                  go_simp
                  all_goals with_reducible rfl
                case' rest17sB2 => try simp only [Act.put, List.setIfInBounds_toArray, List.set_cons_zero, List.set_cons_succ]
                refine wpAnyH_done (by kernel_rfl) ?_ _
                clear hHeld
                go_wp2
                go_roundw
                case rel =>
                  have hgu := HF2.out.1
                  have hne := HG2.out
                  have hvs := HVB.out.size
                  have hlk := HLK2.out
                  refine ⟨k + 1, g3, c3, by have := HK4.out; omega, by go_num, by rw [hlk]; rfl, ?_, ⟨?_, fun r hr => ?_⟩, ?_, ?_⟩
                  · have h := HO9.out
                    rw [hlk] at h
                    rw [col_take C HK4.out, ← List.append_assoc, List.map_append, ← HZ.out]
                    exact h
                  · have := HG9.out.size; omega
                  · exact (HG9.out.cell_far ⟨gq, r, none⟩ (by show gq < VA.heap.size; omega) (fun e => hne (Option.some.inj e).symm)).trans ((HVB.out.cell (p := ⟨gq, r, none⟩) hgu).trans (HF2.out.2 r hr))
                  · rcases HR9.out with h | h
                    · have : g2 = g3 := Option.some.inj h
                      omega
                    · omega
                  · exact (HB2.out.trans (HVB.out.mono HB2.out.size)).grown HG9.out (by have := HB2.out.size; omega) (fun z hz => (HO2.out.lt z hz).1)
                case measure => simp [intOf]; have := HK4.out; omega
            · obtain rfl : k = 4 := by omega
              have HOE := Lib.hid (show U.ownsRow w.heap.size 5 1 (.slice (some ⟨g2, 0, none⟩) (4 * (n + (m + 1))) cap2) (4 * (n + (m + 1))) ((outL (kx n K (m + 1)) (n + (m + 1))).map (Value.int .u8)) by
                have h := HO2.out
                rw [show (colL C).take 4 = colL C from rfl] at h
                have e : N4 + 4 = 4 * (n + (m + 1)) := by have := HN4.out; have := HII.out; omega
                have e2 : outL (kx n K m) i ++ colL C = outL (kx n K (m + 1)) (n + (m + 1)) := by
                  rw [show n + (m + 1) = i + 1 by have := HII.out; omega, outL]
                  have h1 : outL (kx n K (m + 1)) i = outL (kx n K m) i := outL_congrN i (fun j hj => kx_old K (by have := HII.out; omega))
                  have h2 : kx n K (m + 1) i = C := by rw [HII.out, kx_new, HCE.out, HTE.out, HF.out, HII.out]
                  rw [h1, h2]
                rw [e, e2] at h
                exact h)
              go_wp2
              go_roundw
              case rel => first | exact ⟨m + 1, g2, cap2, by have := HLT.out; omega, by rw [HII.out]; go_num, by rw [HPV.out, HII.out]; rfl, by rw [show N4 + 4 = 4 * (n + (m + 1)) by have := HN4.out; have := HII.out; omega], HOE.out, HB2.out⟩ | ((repeat apply Exists.intro); exact ⟨⟨m + 1, g2, cap2, by have := HLT.out; omega, by rw [HII.out]; go_num, by rw [HPV.out, HII.out]; rfl, by rw [show N4 + 4 = 4 * (n + (m + 1)) by have := HN4.out; have := HII.out; omega], HOE.out, HB2.out⟩, rfl⟩)
              case measure => simp [intOf]; have := HII.out; have := HLT.out; omega
        · have H8 := Lib.hid h8
          have HFV := Lib.hid (show Four V7 gt (tmp n i f) from ⟨HT7.out.1, fun r hr => by
            have e0 : tmp n i f r = f r := by unfold tmp; rw [if_neg HR.out, if_neg H8.out]
            rw [e0]
            exact HT7.out.2 r hr⟩)
          have HBV := HB7
          have hgq : wr.heap.size ≤ gt := by rw [HGT.out]; exact Nat.le_refl _
          by_cases hn8 : n = 8
          · have q8 : ((n : Int) == 8) = true := by rw [beq_iff_eq]; omega
            obtain ⟨d8, hd8⟩ : ∃ d8, d8 = i % 8 := ⟨_, rfl⟩
            have qm8 : (i : Int) % 8 = (d8 : Int) := by omega
            have qm9 : (i : Int).tmod 8 = (d8 : Int) := by rw [Int.tmod_eq_emod_of_nonneg (by omega)]; exact qm8
            have qm4 : ((d8 : Int) == 4) = false := by rw [beq_eq_false_iff_ne]; omega
            clear hd8
            clear h8 hn8
            go_upto_region 13 with fail
            clear qr qt q8 qm8 qm9 qm4
            have HOV := Lib.hid (own_belowK HO.out HBV.out)
            have HWV := Lib.hid (HB.out.trans (HBV.out.mono HB.out.size))
            have HGQ := Lib.hid (show g ≠ gt by have := (own_caps HO.out).2.2.2.2; omega)
            have HTB := Lib.hid (fun r => tmp_lt n i HFB.out r)
            obtain ⟨T, hT⟩ : ∃ T, T = tmp n i f := ⟨_, rfl⟩
            have HTE := Lib.hid hT
            rw [← hT] at HFV HTB
            obtain ⟨C, hC⟩ : ∃ C : Nat → Nat, C = fun r => kx n K m m r ^^^ T r := ⟨_, rfl⟩
            have HCE := Lib.hid hC
            have HCK := Lib.hid (kx_bd n HKB.out m m)
            have qm : (i : Int) - (n : Int) = (m : Int) := by have := HII.out; omega
            have qmb : (m : Int) ≤ 52 := by have := HII.out; omega
            have qm0 : (0 : Int) ≤ (m : Int) := by omega
            have HI4 := Lib.hid (show 4 * m + 4 ≤ N4 by have := HII.out; have := HN4.out; omega)
            have HN5 := Lib.hid (show N4 ≤ 240 by have := HN4.out; omega)
            clear hT hC hgq
            go_wp2_with fail
            go_loopw [4, 8] (fun v q U => ∃ k g2 cap2 : Nat, k ≤ 4 ∧ q = .int .i64 (k : Nat) ∧ v = .slice (some ⟨g2, 0, none⟩) (N4 + k) cap2 ∧ U.ownsRow w.heap.size 5 1 (.slice (some ⟨g2, 0, none⟩) (N4 + k) cap2) (N4 + k) ((outL (kx n K m) i ++ (colL C).take k).map (Value.int .u8)) ∧ Four U gt T ∧ g2 ≠ gt ∧ Below w.heap.size w U) (fun _ q _ => 4 - (intOf q).toNat)
            case atStart => exact ⟨0, g, cap, by omega, rfl, rfl, by rw [List.take_zero, List.append_nil]; exact HOV.out, HFV.out, HGQ.out, HWV.out⟩
            case round =>
              obtain ⟨k, g2, cap2, hk, rfl, rfl, hO2, hF2, hg2, hB2⟩ := hrel
              rename World => U
              have HO2 := Lib.hid hO2
              have HF2 := Lib.hid hF2
              have HG2 := Lib.hid hg2
              have HB2 := Lib.hid hB2
              clear hO2 hF2 hg2 hB2
              by_cases hlt4 : k < 4
              · have hcw : U.cell? ⟨g2, 4 * m + k, none⟩ = some (.int .u8 ((kx n K m m k : Nat) : Int)) := by
                  have h := own_cells HO2.out (4 * m + k) (by have := HI4.out; omega)
                  rw [Nat.zero_add, List.getD_eq_getElem?_getD, List.getElem?_append_left (by rw [length_outL]; have := HI4.out; have := HN4.out; omega), ← List.getD_eq_getElem?_getD, getD_outL _ hlt4 _ (by have := HII.out; omega)] at h
                  exact h
                have hct := HF2.out.2 k hlt4
                have hxr := u8_xor_nat (kx n K m m k) (T k) (HCK.out k) (HTB.out k)
                have HCV := Lib.hid (show kx n K m m k ^^^ T k = C k by rw [HCE.out])
                obtain ⟨A, hA⟩ : ∃ A, A = kx n K m m k := ⟨_, rfl⟩
                obtain ⟨B, hB⟩ : ∃ B, B = T k := ⟨_, rfl⟩
                rw [← hA] at hcw hxr HCV
                rw [← hB] at hct hxr HCV
                rw [HCV.out] at hxr
                obtain ⟨Z, hZ⟩ : ∃ Z, Z = C k := ⟨_, rfl⟩
                have HZ := Lib.hid hZ
                rw [← hZ] at hxr
                obtain ⟨q0, hq0⟩ : ∃ q0, q0 = 4 * m + k := ⟨_, rfl⟩
                obtain ⟨m4, hm4⟩ : ∃ m4, m4 = 4 * m := ⟨_, rfl⟩
                obtain ⟨Lk, hLk⟩ : ∃ Lk, Lk = N4 + k := ⟨_, rfl⟩
                rw [← hq0] at hcw
                rw [← hLk] at HO2 ⊢
                have x0 : 4 * (m : Int) = (m4 : Int) := by omega
                have x1 : (m4 : Int) + (k : Int) = (q0 : Int) := by omega
                have y0 : IntKind.i64.wrap (m : Int) = (m : Int) := IntWalk.i64_in _ (by omega)
                have y1 : IntKind.i64.wrap (m4 : Int) = (m4 : Int) := IntWalk.i64_in _ (by omega)
                have y2 : IntKind.i64.wrap (q0 : Int) = (q0 : Int) := IntWalk.i64_in _ (by omega)
                have z0 : (q0 : Int) < (Lk : Int) := by have := HI4.out; omega
                have z1 : (0 : Int) ≤ (q0 : Int) := by omega
                have z2 : (k : Int) < 4 := by omega
                have z3 : (0 : Int) ≤ (k : Int) := by omega
                have HLK2 := Lib.hid hLk
                have HK4 := Lib.hid hlt4
                clear hA hB hZ hq0 hm4 hLk hlt4 hk
                go_wp2_with fail
                refine wp_region_held_drew (S := fun _ => True) (by kernel_rfl) trivial (fun hHeld => ?_)
                refine wpAnyH_take (i := 0) (oi := { dst := some 101, op := Go.Op.move (Go.Operand.tmp 4), type := 22, pos := "ref.go:31", after := #[], guard := none }) (v := ?v0pC1) rfl (by kernel_rfl) (by kernel_rfl) (by kernel_rfl) (fun _ _ _ h => h) (Or.inl ⟨by rfl, ?hy0pC1⟩) hHeld ?rest0pC1
                case hy0pC1 =>
                  intro W' hV
                  try dsimp only at hV
                  go_simp
                  all_goals with_reducible rfl
                case' rest0pC1 => try simp only [Act.put, List.setIfInBounds_toArray, List.set_cons_zero, List.set_cons_succ]
                refine wpAnyH_take (i := 1) (oi := { dst := some 102, op := Go.Op.move (Go.Operand.tmp 4), type := 22, pos := "ref.go:31", after := #[], guard := none }) (v := ?v1pC2) rfl (by kernel_rfl) (by kernel_rfl) (by kernel_rfl) (fun _ _ _ h => h) (Or.inl ⟨by rfl, ?hy1pC2⟩) hHeld ?rest1pC2
                case hy1pC2 =>
                  intro W' hV
                  try dsimp only at hV
                  go_simp
                  all_goals with_reducible rfl
                case' rest1pC2 => try simp only [Act.put, List.setIfInBounds_toArray, List.set_cons_zero, List.set_cons_succ]
                refine wpAnyH_take (i := 2) (oi := { dst := some 103, op := Go.Op.move (Go.Operand.tmp 6), type := 3, pos := "ref.go:31", after := #[], guard := none }) (v := ?v2pC3) rfl (by kernel_rfl) (by kernel_rfl) (by kernel_rfl) (fun _ _ _ h => h) (Or.inl ⟨by rfl, ?hy2pC3⟩) hHeld ?rest2pC3
                case hy2pC3 =>
                  intro W' hV
                  try dsimp only at hV
                  go_simp
                  all_goals with_reducible rfl
                case' rest2pC3 => try simp only [Act.put, List.setIfInBounds_toArray, List.set_cons_zero, List.set_cons_succ]
                refine wpAnyH_take (i := 3) (oi := { dst := some 104, op := Go.Op.move (Go.Operand.tmp 3), type := 3, pos := "ref.go:31", after := #[], guard := none }) (v := ?v3pC4) rfl (by kernel_rfl) (by kernel_rfl) (by kernel_rfl) (fun _ _ _ h => h) (Or.inl ⟨by rfl, ?hy3pC4⟩) hHeld ?rest3pC4
                case hy3pC4 =>
                  intro W' hV
                  try dsimp only at hV
                  go_simp
                  all_goals with_reducible rfl
                case' rest3pC4 => try simp only [Act.put, List.setIfInBounds_toArray, List.set_cons_zero, List.set_cons_succ]
                refine wpAnyH_take (i := 4) (oi := { dst := some 105, op := Go.Op.binOp Go.BinOp.sub 3 (Go.Operand.tmp 103) (Go.Operand.tmp 104) 3, type := 3, pos := "ref.go:31", after := #[{ on := 2, ground := Go.Ground.data }, { on := 3, ground := Go.Ground.data }], guard := none }) (v := ?v4pC5) rfl (by kernel_rfl) (by kernel_rfl) (by kernel_rfl) (fun _ _ _ h => h) (Or.inl ⟨by rfl, ?hy4pC5⟩) hHeld ?rest4pC5
                case hy4pC5 =>
                  intro W' hV
                  try dsimp only at hV
                  go_simp
                  all_goals with_reducible rfl
                case' rest4pC5 => try simp only [Act.put, List.setIfInBounds_toArray, List.set_cons_zero, List.set_cons_succ]
                refine wpAnyH_take (i := 5) (oi := { dst := some 106, op := Go.Op.binOp Go.BinOp.mul 3 (Go.Operand.const (Go.Value.int Go.IntKind.i64 4)) (Go.Operand.tmp 105) 3, type := 3, pos := "ref.go:31", after := #[{ on := 4, ground := Go.Ground.data }], guard := none }) (v := ?v5pC6) rfl (by kernel_rfl) (by kernel_rfl) (by kernel_rfl) (fun _ _ _ h => h) (Or.inl ⟨by rfl, ?hy5pC6⟩) hHeld ?rest5pC6
                case hy5pC6 =>
                  intro W' hV
                  try dsimp only at hV
                  go_simp
                  all_goals with_reducible rfl
                case' rest5pC6 => try simp only [Act.put, List.setIfInBounds_toArray, List.set_cons_zero, List.set_cons_succ]
                refine wpAnyH_take (i := 6) (oi := { dst := some 107, op := Go.Op.move (Go.Operand.tmp 8), type := 3, pos := "ref.go:31", after := #[], guard := none }) (v := ?v6pC7) rfl (by kernel_rfl) (by kernel_rfl) (by kernel_rfl) (fun _ _ _ h => h) (Or.inl ⟨by rfl, ?hy6pC7⟩) hHeld ?rest6pC7
                case hy6pC7 =>
                  intro W' hV
                  try dsimp only at hV
                  go_simp
                  all_goals with_reducible rfl
                case' rest6pC7 => try simp only [Act.put, List.setIfInBounds_toArray, List.set_cons_zero, List.set_cons_succ]
                refine wpAnyH_take (i := 7) (oi := { dst := some 108, op := Go.Op.binOp Go.BinOp.add 3 (Go.Operand.tmp 106) (Go.Operand.tmp 107) 3, type := 3, pos := "ref.go:31", after := #[{ on := 5, ground := Go.Ground.data }, { on := 6, ground := Go.Ground.data }], guard := none }) (v := ?v7pC8) rfl (by kernel_rfl) (by kernel_rfl) (by kernel_rfl) (fun _ _ _ h => h) (Or.inl ⟨by rfl, ?hy7pC8⟩) hHeld ?rest7pC8
                case hy7pC8 =>
                  intro W' hV
                  try dsimp only at hV
                  go_simp
                  all_goals with_reducible rfl
                case' rest7pC8 => try simp only [Act.put, List.setIfInBounds_toArray, List.set_cons_zero, List.set_cons_succ]
                refine wpAnyH_take (i := 8) (oi := { dst := some 109, op := Go.Op.indexAddr 22 (Go.Operand.tmp 102) (Go.Operand.tmp 108), type := 0, pos := "ref.go:31", after := #[{ on := 1, ground := Go.Ground.data }, { on := 7, ground := Go.Ground.data }], guard := none }) (v := ?v8pC9) rfl (by kernel_rfl) (by kernel_rfl) (by kernel_rfl) (fun _ _ _ h => h) (Or.inl ⟨by rfl, ?hy8pC9⟩) hHeld ?rest8pC9
                case hy8pC9 =>
                  intro W' hV
                  try dsimp only at hV
                  go_simp
                  all_goals with_reducible rfl
                case' rest8pC9 => try simp only [Act.put, List.setIfInBounds_toArray, List.set_cons_zero, List.set_cons_succ]
                refine wpAnyH_take (i := 10) (oi := { dst := some 111, op := Go.Op.move (Go.Operand.tmp 7), type := 22, pos := "ref.go:31", after := #[], guard := none }) (v := ?v10pC10) rfl (by kernel_rfl) (by kernel_rfl) (by kernel_rfl) (fun _ _ _ h => h) (Or.inl ⟨by rfl, ?hy10pC10⟩) hHeld ?rest10pC10
                case hy10pC10 =>
                  intro W' hV
                  try dsimp only at hV
                  go_simp
                  all_goals with_reducible rfl
                case' rest10pC10 => try simp only [Act.put, List.setIfInBounds_toArray, List.set_cons_zero, List.set_cons_succ]
                refine wpAnyH_take (i := 11) (oi := { dst := some 112, op := Go.Op.move (Go.Operand.tmp 8), type := 3, pos := "ref.go:31", after := #[], guard := none }) (v := ?v11pC11) rfl (by kernel_rfl) (by kernel_rfl) (by kernel_rfl) (fun _ _ _ h => h) (Or.inl ⟨by rfl, ?hy11pC11⟩) hHeld ?rest11pC11
                case hy11pC11 =>
                  intro W' hV
                  try dsimp only at hV
                  go_simp
                  all_goals with_reducible rfl
                case' rest11pC11 => try simp only [Act.put, List.setIfInBounds_toArray, List.set_cons_zero, List.set_cons_succ]
                refine wpAnyH_take (i := 12) (oi := { dst := some 113, op := Go.Op.indexAddr 22 (Go.Operand.tmp 111) (Go.Operand.tmp 112), type := 0, pos := "ref.go:31", after := #[{ on := 10, ground := Go.Ground.data }, { on := 11, ground := Go.Ground.data }], guard := none }) (v := ?v12pC12) rfl (by kernel_rfl) (by kernel_rfl) (by kernel_rfl) (fun _ _ _ h => h) (Or.inl ⟨by rfl, ?hy12pC12⟩) hHeld ?rest12pC12
                case hy12pC12 =>
                  intro W' hV
                  try dsimp only at hV
                  go_simp
                  all_goals with_reducible rfl
                case' rest12pC12 => try simp only [Act.put, List.setIfInBounds_toArray, List.set_cons_zero, List.set_cons_succ]
                refine wpAnyH_ready (rs := [9, 13]) (by kernel_rfl) (by simp) ?_
                refine AllReadyH.cons (o := { dst := some 110, op := Go.Op.load 5 (Go.Operand.tmp 109), type := 5, pos := "ref.go:31", after := #[{ on := 8, ground := Go.Ground.data }], guard := none }) rfl (fun K' hK => ?_) (AllReadyH.cons (o := { dst := some 114, op := Go.Op.load 5 (Go.Operand.tmp 113), type := 5, pos := "ref.go:31", after := #[{ on := 12, ground := Go.Ground.data }], guard := none }) rfl (fun K' hK => ?_) AllReadyH.nil)
                · rw [if_pos (by rfl)]
                  have hcc := hcw
                  go_simp
                  refine hK.out _ _ trivial (fun hHeld1 => ?_)
                  clear hK K' hHeld
                  have hHeld := hHeld1
                  clear hHeld1
                  try simp only [Act.put, List.setIfInBounds_toArray, List.set_cons_zero, List.set_cons_succ]
                  refine wpAnyH_ready (rs := [13]) (by kernel_rfl) (by simp) ?_
                  refine AllReadyH.cons (o := { dst := some 114, op := Go.Op.load 5 (Go.Operand.tmp 113), type := 5, pos := "ref.go:31", after := #[{ on := 12, ground := Go.Ground.data }], guard := none }) rfl (fun K' hK => ?_) AllReadyH.nil
                  rw [if_pos (by rfl)]
                  have hcc := hct
                  go_simp
                  refine hK.out _ _ trivial (fun hHeld1 => ?_)
                  clear hK K' hHeld
                  have hHeld := hHeld1
                  clear hHeld1
                  try simp only [Act.put, List.setIfInBounds_toArray, List.set_cons_zero, List.set_cons_succ]
                  refine wpAnyH_take (i := 14) (oi := { dst := some 115, op := Go.Op.binOp Go.BinOp.xor 5 (Go.Operand.tmp 110) (Go.Operand.tmp 114) 5, type := 5, pos := "ref.go:31", after := #[{ on := 9, ground := Go.Ground.data }, { on := 13, ground := Go.Ground.data }], guard := none }) (v := ?v14qC1) rfl (by kernel_rfl) (by kernel_rfl) (by kernel_rfl) (fun _ _ _ h => h) (Or.inl ⟨by rfl, ?hy14qC1⟩) hHeld ?rest14qC1
                  case hy14qC1 =>
                    intro W' hV
                    try dsimp only at hV
                    go_simp
                    all_goals with_reducible rfl
                  case' rest14qC1 => try simp only [Act.put, List.setIfInBounds_toArray, List.set_cons_zero, List.set_cons_succ]
                  refine wpAnyH_ready (rs := [15]) (by kernel_rfl) (by simp) ?_
                  refine AllReadyH.cons (o := { dst := some 116, op := Go.Op.buildSlice 22 1 #[(0, Go.Operand.tmp 115)], type := 22, pos := "ref.go:31", after := #[{ on := 14, ground := Go.Ground.data }], guard := none }) rfl (fun K' hK => ?_) AllReadyH.nil
                  rw [if_pos (by rfl)]
                  go_simp
                  change K' _ (U.drew.alloc (.cells #[.int .u8 ((Z : Nat) : Int)] 5))
                  refine hK.out _ _ trivial (fun hHeld1 => ?_)
                  clear hK K' hHeld
                  have hHeld := hHeld1
                  clear hHeld1
                  try simp only [Act.put, List.setIfInBounds_toArray, List.set_cons_zero, List.set_cons_succ]
                  obtain ⟨VA, hVA⟩ : ∃ X, X = U.drew.alloc (.cells #[.int .u8 ((Z : Nat) : Int)] 5) := ⟨_, rfl⟩
                  have HVB := Lib.hid (show Below U.heap.size U VA by rw [hVA]; exact ((Below.refl U.heap.size U).drew).alloc (Nat.le_refl _) _)
                  have HVN := Lib.hid (show VA.heap[U.heap.size]? = some (.cells #[.int .u8 ((Z : Nat) : Int)] 5 (0, 0)) by rw [hVA]; exact heap_alloc_new _ _)
                  have HVO := Lib.hid (show VA.ownsRow w.heap.size 5 1 (.slice (some ⟨g2, 0, none⟩) Lk cap2) Lk ((outL (kx n K m) i ++ (colL C).take k).map (Value.int .u8)) by rw [hVA]; exact World.ownsRow.alloc (own_drewN HO2.out 1) _)
                  rw [← hVA]
                  clear hVA
                  refine wpAnyH_ready (rs := [16]) (by kernel_rfl) (by simp) ?_
                  refine AllReadyH.cons (o := { dst := some 117, op := Go.Op.call { callee := Go.Callee.builtin Go.Builtin.append, args := #[Go.Operand.tmp 101, Go.Operand.tmp 116], argTypes := #[22, 22] }, type := 22, pos := "ref.go:31", after := #[{ on := 0, ground := Go.Ground.data }, { on := 15, ground := Go.Ground.data }], guard := none }) rfl (fun K' hK => ?_) AllReadyH.nil
                  rw [if_pos (by rfl)]
                  refine wp_append_lies _ (.tmp 101) (.tmp 116) 22 rfl w.heap.size 5 i5 (.int .u8 0) 1 1 Tryz.underlying22 HI.out.1 HI.out.2.1 HI.out.2.2.1 HI.out.2.2.2 rfl (by decide) (.slice (some ⟨g2, 0, none⟩) Lk cap2) Lk _ (by rfl) HVO.out ⟨U.heap.size, 0, none⟩ 1 1 [.int .u8 ((Z : Nat) : Int)] (by rfl) rfl (World.news_of_block HVN.out) (by intro u hu; cases List.mem_singleton.1 hu; rfl) (by omega) (by unfold maxLen; have := HN5.out; have := HLK2.out; have := HK4.out; omega) (by have := HN5.out; have := HLK2.out; have := HK4.out; omega) (by have := HVB.out.size; have := HB2.out.size; omega) _ rfl ?_
                  intro g3 c3 w9 ho9 hg9 hor9 _
                  have HO9 := Lib.hid ho9
                  have HG9 := Lib.hid hg9
                  have HR9 := Lib.hid hor9
                  clear ho9 hg9 hor9
                  refine hK.out _ _ trivial (fun hHeld1 => ?_)
                  clear hK K' hHeld
                  have hHeld := hHeld1
                  clear hHeld1
                  try simp only [Act.put, List.setIfInBounds_toArray, List.set_cons_zero, List.set_cons_succ]
                  refine wpAnyH_take (i := 17) (oi := { dst := some 4, op := Go.Op.assign (Go.Operand.tmp 117), type := 22, pos := "ref.go:31", after := #[{ on := 16, ground := Go.Ground.data }, { on := 16, ground := Go.Ground.chain }, { on := 0, ground := Go.Ground.phase }, { on := 1, ground := Go.Ground.phase }, { on := 2, ground := Go.Ground.phase }, { on := 3, ground := Go.Ground.phase }, { on := 4, ground := Go.Ground.phase }, { on := 5, ground := Go.Ground.phase }, { on := 6, ground := Go.Ground.phase }, { on := 7, ground := Go.Ground.phase }, { on := 8, ground := Go.Ground.phase }, { on := 9, ground := Go.Ground.phase }, { on := 10, ground := Go.Ground.phase }, { on := 11, ground := Go.Ground.phase }, { on := 12, ground := Go.Ground.phase }, { on := 13, ground := Go.Ground.phase }, { on := 14, ground := Go.Ground.phase }, { on := 15, ground := Go.Ground.phase }, { on := 16, ground := Go.Ground.phase }], guard := none }) (v := ?v17qC2) rfl (by kernel_rfl) (by kernel_rfl) (by kernel_rfl) (fun _ _ _ h => h) (Or.inl ⟨by rfl, ?hy17qC2⟩) hHeld ?rest17qC2
                  case hy17qC2 =>
                    intro W' hV
                    try dsimp only at hV
                    go_simp
                    all_goals with_reducible rfl
                  case' rest17qC2 => try simp only [Act.put, List.setIfInBounds_toArray, List.set_cons_zero, List.set_cons_succ]
                  refine wpAnyH_done (by kernel_rfl) ?_ _
                  clear hHeld
                  go_wp2
                  go_roundw
                  case rel =>
                    have hgu := HF2.out.1
                    have hne := HG2.out
                    have hvs := HVB.out.size
                    have hlk := HLK2.out
                    refine ⟨k + 1, g3, c3, by have := HK4.out; omega, by go_num, by rw [hlk]; rfl, ?_, ⟨?_, fun r hr => ?_⟩, ?_, ?_⟩
                    · have h := HO9.out
                      rw [hlk] at h
                      rw [col_take C HK4.out, ← List.append_assoc, List.map_append, ← HZ.out]
                      exact h
                    · have := HG9.out.size; omega
                    · exact (HG9.out.cell_far ⟨gt, r, none⟩ (by show gt < VA.heap.size; omega) (fun e => hne (Option.some.inj e).symm)).trans ((HVB.out.cell (p := ⟨gt, r, none⟩) hgu).trans (HF2.out.2 r hr))
                    · rcases HR9.out with h | h
                      · have : g2 = g3 := Option.some.inj h
                        omega
                      · omega
                    · exact (HB2.out.trans (HVB.out.mono HB2.out.size)).grown HG9.out (by have := HB2.out.size; omega) (fun z hz => (HO2.out.lt z hz).1)
                  case measure => simp [intOf]; have := HK4.out; omega
                · rw [if_pos (by rfl)]
                  have hcc := hct
                  go_simp
                  refine hK.out _ _ trivial (fun hHeld1 => ?_)
                  clear hK K' hHeld
                  have hHeld := hHeld1
                  clear hHeld1
                  try simp only [Act.put, List.setIfInBounds_toArray, List.set_cons_zero, List.set_cons_succ]
                  refine wpAnyH_ready (rs := [9]) (by kernel_rfl) (by simp) ?_
                  refine AllReadyH.cons (o := { dst := some 110, op := Go.Op.load 5 (Go.Operand.tmp 109), type := 5, pos := "ref.go:31", after := #[{ on := 8, ground := Go.Ground.data }], guard := none }) rfl (fun K' hK => ?_) AllReadyH.nil
                  rw [if_pos (by rfl)]
                  have hcc := hcw
                  go_simp
                  refine hK.out _ _ trivial (fun hHeld1 => ?_)
                  clear hK K' hHeld
                  have hHeld := hHeld1
                  clear hHeld1
                  try simp only [Act.put, List.setIfInBounds_toArray, List.set_cons_zero, List.set_cons_succ]
                  refine wpAnyH_take (i := 14) (oi := { dst := some 115, op := Go.Op.binOp Go.BinOp.xor 5 (Go.Operand.tmp 110) (Go.Operand.tmp 114) 5, type := 5, pos := "ref.go:31", after := #[{ on := 9, ground := Go.Ground.data }, { on := 13, ground := Go.Ground.data }], guard := none }) (v := ?v14sC1) rfl (by kernel_rfl) (by kernel_rfl) (by kernel_rfl) (fun _ _ _ h => h) (Or.inl ⟨by rfl, ?hy14sC1⟩) hHeld ?rest14sC1
                  case hy14sC1 =>
                    intro W' hV
                    try dsimp only at hV
                    go_simp
                    all_goals with_reducible rfl
                  case' rest14sC1 => try simp only [Act.put, List.setIfInBounds_toArray, List.set_cons_zero, List.set_cons_succ]
                  refine wpAnyH_ready (rs := [15]) (by kernel_rfl) (by simp) ?_
                  refine AllReadyH.cons (o := { dst := some 116, op := Go.Op.buildSlice 22 1 #[(0, Go.Operand.tmp 115)], type := 22, pos := "ref.go:31", after := #[{ on := 14, ground := Go.Ground.data }], guard := none }) rfl (fun K' hK => ?_) AllReadyH.nil
                  rw [if_pos (by rfl)]
                  go_simp
                  change K' _ (U.drew.alloc (.cells #[.int .u8 ((Z : Nat) : Int)] 5))
                  refine hK.out _ _ trivial (fun hHeld1 => ?_)
                  clear hK K' hHeld
                  have hHeld := hHeld1
                  clear hHeld1
                  try simp only [Act.put, List.setIfInBounds_toArray, List.set_cons_zero, List.set_cons_succ]
                  obtain ⟨VA, hVA⟩ : ∃ X, X = U.drew.alloc (.cells #[.int .u8 ((Z : Nat) : Int)] 5) := ⟨_, rfl⟩
                  have HVB := Lib.hid (show Below U.heap.size U VA by rw [hVA]; exact ((Below.refl U.heap.size U).drew).alloc (Nat.le_refl _) _)
                  have HVN := Lib.hid (show VA.heap[U.heap.size]? = some (.cells #[.int .u8 ((Z : Nat) : Int)] 5 (0, 0)) by rw [hVA]; exact heap_alloc_new _ _)
                  have HVO := Lib.hid (show VA.ownsRow w.heap.size 5 1 (.slice (some ⟨g2, 0, none⟩) Lk cap2) Lk ((outL (kx n K m) i ++ (colL C).take k).map (Value.int .u8)) by rw [hVA]; exact World.ownsRow.alloc (own_drewN HO2.out 1) _)
                  rw [← hVA]
                  clear hVA
                  refine wpAnyH_ready (rs := [16]) (by kernel_rfl) (by simp) ?_
                  refine AllReadyH.cons (o := { dst := some 117, op := Go.Op.call { callee := Go.Callee.builtin Go.Builtin.append, args := #[Go.Operand.tmp 101, Go.Operand.tmp 116], argTypes := #[22, 22] }, type := 22, pos := "ref.go:31", after := #[{ on := 0, ground := Go.Ground.data }, { on := 15, ground := Go.Ground.data }], guard := none }) rfl (fun K' hK => ?_) AllReadyH.nil
                  rw [if_pos (by rfl)]
                  refine wp_append_lies _ (.tmp 101) (.tmp 116) 22 rfl w.heap.size 5 i5 (.int .u8 0) 1 1 Tryz.underlying22 HI.out.1 HI.out.2.1 HI.out.2.2.1 HI.out.2.2.2 rfl (by decide) (.slice (some ⟨g2, 0, none⟩) Lk cap2) Lk _ (by rfl) HVO.out ⟨U.heap.size, 0, none⟩ 1 1 [.int .u8 ((Z : Nat) : Int)] (by rfl) rfl (World.news_of_block HVN.out) (by intro u hu; cases List.mem_singleton.1 hu; rfl) (by omega) (by unfold maxLen; have := HN5.out; have := HLK2.out; have := HK4.out; omega) (by have := HN5.out; have := HLK2.out; have := HK4.out; omega) (by have := HVB.out.size; have := HB2.out.size; omega) _ rfl ?_
                  intro g3 c3 w9 ho9 hg9 hor9 _
                  have HO9 := Lib.hid ho9
                  have HG9 := Lib.hid hg9
                  have HR9 := Lib.hid hor9
                  clear ho9 hg9 hor9
                  refine hK.out _ _ trivial (fun hHeld1 => ?_)
                  clear hK K' hHeld
                  have hHeld := hHeld1
                  clear hHeld1
                  try simp only [Act.put, List.setIfInBounds_toArray, List.set_cons_zero, List.set_cons_succ]
                  refine wpAnyH_take (i := 17) (oi := { dst := some 4, op := Go.Op.assign (Go.Operand.tmp 117), type := 22, pos := "ref.go:31", after := #[{ on := 16, ground := Go.Ground.data }, { on := 16, ground := Go.Ground.chain }, { on := 0, ground := Go.Ground.phase }, { on := 1, ground := Go.Ground.phase }, { on := 2, ground := Go.Ground.phase }, { on := 3, ground := Go.Ground.phase }, { on := 4, ground := Go.Ground.phase }, { on := 5, ground := Go.Ground.phase }, { on := 6, ground := Go.Ground.phase }, { on := 7, ground := Go.Ground.phase }, { on := 8, ground := Go.Ground.phase }, { on := 9, ground := Go.Ground.phase }, { on := 10, ground := Go.Ground.phase }, { on := 11, ground := Go.Ground.phase }, { on := 12, ground := Go.Ground.phase }, { on := 13, ground := Go.Ground.phase }, { on := 14, ground := Go.Ground.phase }, { on := 15, ground := Go.Ground.phase }, { on := 16, ground := Go.Ground.phase }], guard := none }) (v := ?v17sC2) rfl (by kernel_rfl) (by kernel_rfl) (by kernel_rfl) (fun _ _ _ h => h) (Or.inl ⟨by rfl, ?hy17sC2⟩) hHeld ?rest17sC2
                  case hy17sC2 =>
                    intro W' hV
                    try dsimp only at hV
                    go_simp
                    all_goals with_reducible rfl
                  case' rest17sC2 => try simp only [Act.put, List.setIfInBounds_toArray, List.set_cons_zero, List.set_cons_succ]
                  refine wpAnyH_done (by kernel_rfl) ?_ _
                  clear hHeld
                  go_wp2
                  go_roundw
                  case rel =>
                    have hgu := HF2.out.1
                    have hne := HG2.out
                    have hvs := HVB.out.size
                    have hlk := HLK2.out
                    refine ⟨k + 1, g3, c3, by have := HK4.out; omega, by go_num, by rw [hlk]; rfl, ?_, ⟨?_, fun r hr => ?_⟩, ?_, ?_⟩
                    · have h := HO9.out
                      rw [hlk] at h
                      rw [col_take C HK4.out, ← List.append_assoc, List.map_append, ← HZ.out]
                      exact h
                    · have := HG9.out.size; omega
                    · exact (HG9.out.cell_far ⟨gt, r, none⟩ (by show gt < VA.heap.size; omega) (fun e => hne (Option.some.inj e).symm)).trans ((HVB.out.cell (p := ⟨gt, r, none⟩) hgu).trans (HF2.out.2 r hr))
                    · rcases HR9.out with h | h
                      · have : g2 = g3 := Option.some.inj h
                        omega
                      · omega
                    · exact (HB2.out.trans (HVB.out.mono HB2.out.size)).grown HG9.out (by have := HB2.out.size; omega) (fun z hz => (HO2.out.lt z hz).1)
                  case measure => simp [intOf]; have := HK4.out; omega
              · obtain rfl : k = 4 := by omega
                have HOE := Lib.hid (show U.ownsRow w.heap.size 5 1 (.slice (some ⟨g2, 0, none⟩) (4 * (n + (m + 1))) cap2) (4 * (n + (m + 1))) ((outL (kx n K (m + 1)) (n + (m + 1))).map (Value.int .u8)) by
                  have h := HO2.out
                  rw [show (colL C).take 4 = colL C from rfl] at h
                  have e : N4 + 4 = 4 * (n + (m + 1)) := by have := HN4.out; have := HII.out; omega
                  have e2 : outL (kx n K m) i ++ colL C = outL (kx n K (m + 1)) (n + (m + 1)) := by
                    rw [show n + (m + 1) = i + 1 by have := HII.out; omega, outL]
                    have h1 : outL (kx n K (m + 1)) i = outL (kx n K m) i := outL_congrN i (fun j hj => kx_old K (by have := HII.out; omega))
                    have h2 : kx n K (m + 1) i = C := by rw [HII.out, kx_new, HCE.out, HTE.out, HF.out, HII.out]
                    rw [h1, h2]
                  rw [e, e2] at h
                  exact h)
                go_wp2
                go_roundw
                case rel => first | exact ⟨m + 1, g2, cap2, by have := HLT.out; omega, by rw [HII.out]; go_num, by rw [HPV.out, HII.out]; rfl, by rw [show N4 + 4 = 4 * (n + (m + 1)) by have := HN4.out; have := HII.out; omega], HOE.out, HB2.out⟩ | ((repeat apply Exists.intro); exact ⟨⟨m + 1, g2, cap2, by have := HLT.out; omega, by rw [HII.out]; go_num, by rw [HPV.out, HII.out]; rfl, by rw [show N4 + 4 = 4 * (n + (m + 1)) by have := HN4.out; have := HII.out; omega], HOE.out, HB2.out⟩, rfl⟩)
                case measure => simp [intOf]; have := HII.out; have := HLT.out; omega
          · have q8 : ((n : Int) == 8) = false := by rw [beq_eq_false_iff_ne]; omega
            clear h8 hn8
            go_upto_region 13 with fail
            clear qr qt q8
            have HOV := Lib.hid (own_belowK HO.out HBV.out)
            have HWV := Lib.hid (HB.out.trans (HBV.out.mono HB.out.size))
            have HGQ := Lib.hid (show g ≠ gt by have := (own_caps HO.out).2.2.2.2; omega)
            have HTB := Lib.hid (fun r => tmp_lt n i HFB.out r)
            obtain ⟨T, hT⟩ : ∃ T, T = tmp n i f := ⟨_, rfl⟩
            have HTE := Lib.hid hT
            rw [← hT] at HFV HTB
            obtain ⟨C, hC⟩ : ∃ C : Nat → Nat, C = fun r => kx n K m m r ^^^ T r := ⟨_, rfl⟩
            have HCE := Lib.hid hC
            have HCK := Lib.hid (kx_bd n HKB.out m m)
            have qm : (i : Int) - (n : Int) = (m : Int) := by have := HII.out; omega
            have qmb : (m : Int) ≤ 52 := by have := HII.out; omega
            have qm0 : (0 : Int) ≤ (m : Int) := by omega
            have HI4 := Lib.hid (show 4 * m + 4 ≤ N4 by have := HII.out; have := HN4.out; omega)
            have HN5 := Lib.hid (show N4 ≤ 240 by have := HN4.out; omega)
            clear hT hC hgq
            go_wp2_with fail
            go_loopw [4, 8] (fun v q U => ∃ k g2 cap2 : Nat, k ≤ 4 ∧ q = .int .i64 (k : Nat) ∧ v = .slice (some ⟨g2, 0, none⟩) (N4 + k) cap2 ∧ U.ownsRow w.heap.size 5 1 (.slice (some ⟨g2, 0, none⟩) (N4 + k) cap2) (N4 + k) ((outL (kx n K m) i ++ (colL C).take k).map (Value.int .u8)) ∧ Four U gt T ∧ g2 ≠ gt ∧ Below w.heap.size w U) (fun _ q _ => 4 - (intOf q).toNat)
            case atStart => exact ⟨0, g, cap, by omega, rfl, rfl, by rw [List.take_zero, List.append_nil]; exact HOV.out, HFV.out, HGQ.out, HWV.out⟩
            case round =>
              obtain ⟨k, g2, cap2, hk, rfl, rfl, hO2, hF2, hg2, hB2⟩ := hrel
              rename World => U
              have HO2 := Lib.hid hO2
              have HF2 := Lib.hid hF2
              have HG2 := Lib.hid hg2
              have HB2 := Lib.hid hB2
              clear hO2 hF2 hg2 hB2
              by_cases hlt4 : k < 4
              · have hcw : U.cell? ⟨g2, 4 * m + k, none⟩ = some (.int .u8 ((kx n K m m k : Nat) : Int)) := by
                  have h := own_cells HO2.out (4 * m + k) (by have := HI4.out; omega)
                  rw [Nat.zero_add, List.getD_eq_getElem?_getD, List.getElem?_append_left (by rw [length_outL]; have := HI4.out; have := HN4.out; omega), ← List.getD_eq_getElem?_getD, getD_outL _ hlt4 _ (by have := HII.out; omega)] at h
                  exact h
                have hct := HF2.out.2 k hlt4
                have hxr := u8_xor_nat (kx n K m m k) (T k) (HCK.out k) (HTB.out k)
                have HCV := Lib.hid (show kx n K m m k ^^^ T k = C k by rw [HCE.out])
                obtain ⟨A, hA⟩ : ∃ A, A = kx n K m m k := ⟨_, rfl⟩
                obtain ⟨B, hB⟩ : ∃ B, B = T k := ⟨_, rfl⟩
                rw [← hA] at hcw hxr HCV
                rw [← hB] at hct hxr HCV
                rw [HCV.out] at hxr
                obtain ⟨Z, hZ⟩ : ∃ Z, Z = C k := ⟨_, rfl⟩
                have HZ := Lib.hid hZ
                rw [← hZ] at hxr
                obtain ⟨q0, hq0⟩ : ∃ q0, q0 = 4 * m + k := ⟨_, rfl⟩
                obtain ⟨m4, hm4⟩ : ∃ m4, m4 = 4 * m := ⟨_, rfl⟩
                obtain ⟨Lk, hLk⟩ : ∃ Lk, Lk = N4 + k := ⟨_, rfl⟩
                rw [← hq0] at hcw
                rw [← hLk] at HO2 ⊢
                have x0 : 4 * (m : Int) = (m4 : Int) := by omega
                have x1 : (m4 : Int) + (k : Int) = (q0 : Int) := by omega
                have y0 : IntKind.i64.wrap (m : Int) = (m : Int) := IntWalk.i64_in _ (by omega)
                have y1 : IntKind.i64.wrap (m4 : Int) = (m4 : Int) := IntWalk.i64_in _ (by omega)
                have y2 : IntKind.i64.wrap (q0 : Int) = (q0 : Int) := IntWalk.i64_in _ (by omega)
                have z0 : (q0 : Int) < (Lk : Int) := by have := HI4.out; omega
                have z1 : (0 : Int) ≤ (q0 : Int) := by omega
                have z2 : (k : Int) < 4 := by omega
                have z3 : (0 : Int) ≤ (k : Int) := by omega
                have HLK2 := Lib.hid hLk
                have HK4 := Lib.hid hlt4
                clear hA hB hZ hq0 hm4 hLk hlt4 hk
                go_wp2_with fail
                refine wp_region_held_drew (S := fun _ => True) (by kernel_rfl) trivial (fun hHeld => ?_)
                refine wpAnyH_take (i := 0) (oi := { dst := some 101, op := Go.Op.move (Go.Operand.tmp 4), type := 22, pos := "ref.go:31", after := #[], guard := none }) (v := ?v0pD1) rfl (by kernel_rfl) (by kernel_rfl) (by kernel_rfl) (fun _ _ _ h => h) (Or.inl ⟨by rfl, ?hy0pD1⟩) hHeld ?rest0pD1
                case hy0pD1 =>
                  intro W' hV
                  try dsimp only at hV
                  go_simp
                  all_goals with_reducible rfl
                case' rest0pD1 => try simp only [Act.put, List.setIfInBounds_toArray, List.set_cons_zero, List.set_cons_succ]
                refine wpAnyH_take (i := 1) (oi := { dst := some 102, op := Go.Op.move (Go.Operand.tmp 4), type := 22, pos := "ref.go:31", after := #[], guard := none }) (v := ?v1pD2) rfl (by kernel_rfl) (by kernel_rfl) (by kernel_rfl) (fun _ _ _ h => h) (Or.inl ⟨by rfl, ?hy1pD2⟩) hHeld ?rest1pD2
                case hy1pD2 =>
                  intro W' hV
                  try dsimp only at hV
                  go_simp
                  all_goals with_reducible rfl
                case' rest1pD2 => try simp only [Act.put, List.setIfInBounds_toArray, List.set_cons_zero, List.set_cons_succ]
                refine wpAnyH_take (i := 2) (oi := { dst := some 103, op := Go.Op.move (Go.Operand.tmp 6), type := 3, pos := "ref.go:31", after := #[], guard := none }) (v := ?v2pD3) rfl (by kernel_rfl) (by kernel_rfl) (by kernel_rfl) (fun _ _ _ h => h) (Or.inl ⟨by rfl, ?hy2pD3⟩) hHeld ?rest2pD3
                case hy2pD3 =>
                  intro W' hV
                  try dsimp only at hV
                  go_simp
                  all_goals with_reducible rfl
                case' rest2pD3 => try simp only [Act.put, List.setIfInBounds_toArray, List.set_cons_zero, List.set_cons_succ]
                refine wpAnyH_take (i := 3) (oi := { dst := some 104, op := Go.Op.move (Go.Operand.tmp 3), type := 3, pos := "ref.go:31", after := #[], guard := none }) (v := ?v3pD4) rfl (by kernel_rfl) (by kernel_rfl) (by kernel_rfl) (fun _ _ _ h => h) (Or.inl ⟨by rfl, ?hy3pD4⟩) hHeld ?rest3pD4
                case hy3pD4 =>
                  intro W' hV
                  try dsimp only at hV
                  go_simp
                  all_goals with_reducible rfl
                case' rest3pD4 => try simp only [Act.put, List.setIfInBounds_toArray, List.set_cons_zero, List.set_cons_succ]
                refine wpAnyH_take (i := 4) (oi := { dst := some 105, op := Go.Op.binOp Go.BinOp.sub 3 (Go.Operand.tmp 103) (Go.Operand.tmp 104) 3, type := 3, pos := "ref.go:31", after := #[{ on := 2, ground := Go.Ground.data }, { on := 3, ground := Go.Ground.data }], guard := none }) (v := ?v4pD5) rfl (by kernel_rfl) (by kernel_rfl) (by kernel_rfl) (fun _ _ _ h => h) (Or.inl ⟨by rfl, ?hy4pD5⟩) hHeld ?rest4pD5
                case hy4pD5 =>
                  intro W' hV
                  try dsimp only at hV
                  go_simp
                  all_goals with_reducible rfl
                case' rest4pD5 => try simp only [Act.put, List.setIfInBounds_toArray, List.set_cons_zero, List.set_cons_succ]
                refine wpAnyH_take (i := 5) (oi := { dst := some 106, op := Go.Op.binOp Go.BinOp.mul 3 (Go.Operand.const (Go.Value.int Go.IntKind.i64 4)) (Go.Operand.tmp 105) 3, type := 3, pos := "ref.go:31", after := #[{ on := 4, ground := Go.Ground.data }], guard := none }) (v := ?v5pD6) rfl (by kernel_rfl) (by kernel_rfl) (by kernel_rfl) (fun _ _ _ h => h) (Or.inl ⟨by rfl, ?hy5pD6⟩) hHeld ?rest5pD6
                case hy5pD6 =>
                  intro W' hV
                  try dsimp only at hV
                  go_simp
                  all_goals with_reducible rfl
                case' rest5pD6 => try simp only [Act.put, List.setIfInBounds_toArray, List.set_cons_zero, List.set_cons_succ]
                refine wpAnyH_take (i := 6) (oi := { dst := some 107, op := Go.Op.move (Go.Operand.tmp 8), type := 3, pos := "ref.go:31", after := #[], guard := none }) (v := ?v6pD7) rfl (by kernel_rfl) (by kernel_rfl) (by kernel_rfl) (fun _ _ _ h => h) (Or.inl ⟨by rfl, ?hy6pD7⟩) hHeld ?rest6pD7
                case hy6pD7 =>
                  intro W' hV
                  try dsimp only at hV
                  go_simp
                  all_goals with_reducible rfl
                case' rest6pD7 => try simp only [Act.put, List.setIfInBounds_toArray, List.set_cons_zero, List.set_cons_succ]
                refine wpAnyH_take (i := 7) (oi := { dst := some 108, op := Go.Op.binOp Go.BinOp.add 3 (Go.Operand.tmp 106) (Go.Operand.tmp 107) 3, type := 3, pos := "ref.go:31", after := #[{ on := 5, ground := Go.Ground.data }, { on := 6, ground := Go.Ground.data }], guard := none }) (v := ?v7pD8) rfl (by kernel_rfl) (by kernel_rfl) (by kernel_rfl) (fun _ _ _ h => h) (Or.inl ⟨by rfl, ?hy7pD8⟩) hHeld ?rest7pD8
                case hy7pD8 =>
                  intro W' hV
                  try dsimp only at hV
                  go_simp
                  all_goals with_reducible rfl
                case' rest7pD8 => try simp only [Act.put, List.setIfInBounds_toArray, List.set_cons_zero, List.set_cons_succ]
                refine wpAnyH_take (i := 8) (oi := { dst := some 109, op := Go.Op.indexAddr 22 (Go.Operand.tmp 102) (Go.Operand.tmp 108), type := 0, pos := "ref.go:31", after := #[{ on := 1, ground := Go.Ground.data }, { on := 7, ground := Go.Ground.data }], guard := none }) (v := ?v8pD9) rfl (by kernel_rfl) (by kernel_rfl) (by kernel_rfl) (fun _ _ _ h => h) (Or.inl ⟨by rfl, ?hy8pD9⟩) hHeld ?rest8pD9
                case hy8pD9 =>
                  intro W' hV
                  try dsimp only at hV
                  go_simp
                  all_goals with_reducible rfl
                case' rest8pD9 => try simp only [Act.put, List.setIfInBounds_toArray, List.set_cons_zero, List.set_cons_succ]
                refine wpAnyH_take (i := 10) (oi := { dst := some 111, op := Go.Op.move (Go.Operand.tmp 7), type := 22, pos := "ref.go:31", after := #[], guard := none }) (v := ?v10pD10) rfl (by kernel_rfl) (by kernel_rfl) (by kernel_rfl) (fun _ _ _ h => h) (Or.inl ⟨by rfl, ?hy10pD10⟩) hHeld ?rest10pD10
                case hy10pD10 =>
                  intro W' hV
                  try dsimp only at hV
                  go_simp
                  all_goals with_reducible rfl
                case' rest10pD10 => try simp only [Act.put, List.setIfInBounds_toArray, List.set_cons_zero, List.set_cons_succ]
                refine wpAnyH_take (i := 11) (oi := { dst := some 112, op := Go.Op.move (Go.Operand.tmp 8), type := 3, pos := "ref.go:31", after := #[], guard := none }) (v := ?v11pD11) rfl (by kernel_rfl) (by kernel_rfl) (by kernel_rfl) (fun _ _ _ h => h) (Or.inl ⟨by rfl, ?hy11pD11⟩) hHeld ?rest11pD11
                case hy11pD11 =>
                  intro W' hV
                  try dsimp only at hV
                  go_simp
                  all_goals with_reducible rfl
                case' rest11pD11 => try simp only [Act.put, List.setIfInBounds_toArray, List.set_cons_zero, List.set_cons_succ]
                refine wpAnyH_take (i := 12) (oi := { dst := some 113, op := Go.Op.indexAddr 22 (Go.Operand.tmp 111) (Go.Operand.tmp 112), type := 0, pos := "ref.go:31", after := #[{ on := 10, ground := Go.Ground.data }, { on := 11, ground := Go.Ground.data }], guard := none }) (v := ?v12pD12) rfl (by kernel_rfl) (by kernel_rfl) (by kernel_rfl) (fun _ _ _ h => h) (Or.inl ⟨by rfl, ?hy12pD12⟩) hHeld ?rest12pD12
                case hy12pD12 =>
                  intro W' hV
                  try dsimp only at hV
                  go_simp
                  all_goals with_reducible rfl
                case' rest12pD12 => try simp only [Act.put, List.setIfInBounds_toArray, List.set_cons_zero, List.set_cons_succ]
                refine wpAnyH_ready (rs := [9, 13]) (by kernel_rfl) (by simp) ?_
                refine AllReadyH.cons (o := { dst := some 110, op := Go.Op.load 5 (Go.Operand.tmp 109), type := 5, pos := "ref.go:31", after := #[{ on := 8, ground := Go.Ground.data }], guard := none }) rfl (fun K' hK => ?_) (AllReadyH.cons (o := { dst := some 114, op := Go.Op.load 5 (Go.Operand.tmp 113), type := 5, pos := "ref.go:31", after := #[{ on := 12, ground := Go.Ground.data }], guard := none }) rfl (fun K' hK => ?_) AllReadyH.nil)
                · rw [if_pos (by rfl)]
                  have hcc := hcw
                  go_simp
                  refine hK.out _ _ trivial (fun hHeld1 => ?_)
                  clear hK K' hHeld
                  have hHeld := hHeld1
                  clear hHeld1
                  try simp only [Act.put, List.setIfInBounds_toArray, List.set_cons_zero, List.set_cons_succ]
                  refine wpAnyH_ready (rs := [13]) (by kernel_rfl) (by simp) ?_
                  refine AllReadyH.cons (o := { dst := some 114, op := Go.Op.load 5 (Go.Operand.tmp 113), type := 5, pos := "ref.go:31", after := #[{ on := 12, ground := Go.Ground.data }], guard := none }) rfl (fun K' hK => ?_) AllReadyH.nil
                  rw [if_pos (by rfl)]
                  have hcc := hct
                  go_simp
                  refine hK.out _ _ trivial (fun hHeld1 => ?_)
                  clear hK K' hHeld
                  have hHeld := hHeld1
                  clear hHeld1
                  try simp only [Act.put, List.setIfInBounds_toArray, List.set_cons_zero, List.set_cons_succ]
                  refine wpAnyH_take (i := 14) (oi := { dst := some 115, op := Go.Op.binOp Go.BinOp.xor 5 (Go.Operand.tmp 110) (Go.Operand.tmp 114) 5, type := 5, pos := "ref.go:31", after := #[{ on := 9, ground := Go.Ground.data }, { on := 13, ground := Go.Ground.data }], guard := none }) (v := ?v14qD1) rfl (by kernel_rfl) (by kernel_rfl) (by kernel_rfl) (fun _ _ _ h => h) (Or.inl ⟨by rfl, ?hy14qD1⟩) hHeld ?rest14qD1
                  case hy14qD1 =>
                    intro W' hV
                    try dsimp only at hV
                    go_simp
                    all_goals with_reducible rfl
                  case' rest14qD1 => try simp only [Act.put, List.setIfInBounds_toArray, List.set_cons_zero, List.set_cons_succ]
                  refine wpAnyH_ready (rs := [15]) (by kernel_rfl) (by simp) ?_
                  refine AllReadyH.cons (o := { dst := some 116, op := Go.Op.buildSlice 22 1 #[(0, Go.Operand.tmp 115)], type := 22, pos := "ref.go:31", after := #[{ on := 14, ground := Go.Ground.data }], guard := none }) rfl (fun K' hK => ?_) AllReadyH.nil
                  rw [if_pos (by rfl)]
                  go_simp
                  change K' _ (U.drew.alloc (.cells #[.int .u8 ((Z : Nat) : Int)] 5))
                  refine hK.out _ _ trivial (fun hHeld1 => ?_)
                  clear hK K' hHeld
                  have hHeld := hHeld1
                  clear hHeld1
                  try simp only [Act.put, List.setIfInBounds_toArray, List.set_cons_zero, List.set_cons_succ]
                  obtain ⟨VA, hVA⟩ : ∃ X, X = U.drew.alloc (.cells #[.int .u8 ((Z : Nat) : Int)] 5) := ⟨_, rfl⟩
                  have HVB := Lib.hid (show Below U.heap.size U VA by rw [hVA]; exact ((Below.refl U.heap.size U).drew).alloc (Nat.le_refl _) _)
                  have HVN := Lib.hid (show VA.heap[U.heap.size]? = some (.cells #[.int .u8 ((Z : Nat) : Int)] 5 (0, 0)) by rw [hVA]; exact heap_alloc_new _ _)
                  have HVO := Lib.hid (show VA.ownsRow w.heap.size 5 1 (.slice (some ⟨g2, 0, none⟩) Lk cap2) Lk ((outL (kx n K m) i ++ (colL C).take k).map (Value.int .u8)) by rw [hVA]; exact World.ownsRow.alloc (own_drewN HO2.out 1) _)
                  rw [← hVA]
                  clear hVA
                  refine wpAnyH_ready (rs := [16]) (by kernel_rfl) (by simp) ?_
                  refine AllReadyH.cons (o := { dst := some 117, op := Go.Op.call { callee := Go.Callee.builtin Go.Builtin.append, args := #[Go.Operand.tmp 101, Go.Operand.tmp 116], argTypes := #[22, 22] }, type := 22, pos := "ref.go:31", after := #[{ on := 0, ground := Go.Ground.data }, { on := 15, ground := Go.Ground.data }], guard := none }) rfl (fun K' hK => ?_) AllReadyH.nil
                  rw [if_pos (by rfl)]
                  refine wp_append_lies _ (.tmp 101) (.tmp 116) 22 rfl w.heap.size 5 i5 (.int .u8 0) 1 1 Tryz.underlying22 HI.out.1 HI.out.2.1 HI.out.2.2.1 HI.out.2.2.2 rfl (by decide) (.slice (some ⟨g2, 0, none⟩) Lk cap2) Lk _ (by rfl) HVO.out ⟨U.heap.size, 0, none⟩ 1 1 [.int .u8 ((Z : Nat) : Int)] (by rfl) rfl (World.news_of_block HVN.out) (by intro u hu; cases List.mem_singleton.1 hu; rfl) (by omega) (by unfold maxLen; have := HN5.out; have := HLK2.out; have := HK4.out; omega) (by have := HN5.out; have := HLK2.out; have := HK4.out; omega) (by have := HVB.out.size; have := HB2.out.size; omega) _ rfl ?_
                  intro g3 c3 w9 ho9 hg9 hor9 _
                  have HO9 := Lib.hid ho9
                  have HG9 := Lib.hid hg9
                  have HR9 := Lib.hid hor9
                  clear ho9 hg9 hor9
                  refine hK.out _ _ trivial (fun hHeld1 => ?_)
                  clear hK K' hHeld
                  have hHeld := hHeld1
                  clear hHeld1
                  try simp only [Act.put, List.setIfInBounds_toArray, List.set_cons_zero, List.set_cons_succ]
                  refine wpAnyH_take (i := 17) (oi := { dst := some 4, op := Go.Op.assign (Go.Operand.tmp 117), type := 22, pos := "ref.go:31", after := #[{ on := 16, ground := Go.Ground.data }, { on := 16, ground := Go.Ground.chain }, { on := 0, ground := Go.Ground.phase }, { on := 1, ground := Go.Ground.phase }, { on := 2, ground := Go.Ground.phase }, { on := 3, ground := Go.Ground.phase }, { on := 4, ground := Go.Ground.phase }, { on := 5, ground := Go.Ground.phase }, { on := 6, ground := Go.Ground.phase }, { on := 7, ground := Go.Ground.phase }, { on := 8, ground := Go.Ground.phase }, { on := 9, ground := Go.Ground.phase }, { on := 10, ground := Go.Ground.phase }, { on := 11, ground := Go.Ground.phase }, { on := 12, ground := Go.Ground.phase }, { on := 13, ground := Go.Ground.phase }, { on := 14, ground := Go.Ground.phase }, { on := 15, ground := Go.Ground.phase }, { on := 16, ground := Go.Ground.phase }], guard := none }) (v := ?v17qD2) rfl (by kernel_rfl) (by kernel_rfl) (by kernel_rfl) (fun _ _ _ h => h) (Or.inl ⟨by rfl, ?hy17qD2⟩) hHeld ?rest17qD2
                  case hy17qD2 =>
                    intro W' hV
                    try dsimp only at hV
                    go_simp
                    all_goals with_reducible rfl
                  case' rest17qD2 => try simp only [Act.put, List.setIfInBounds_toArray, List.set_cons_zero, List.set_cons_succ]
                  refine wpAnyH_done (by kernel_rfl) ?_ _
                  clear hHeld
                  go_wp2
                  go_roundw
                  case rel =>
                    have hgu := HF2.out.1
                    have hne := HG2.out
                    have hvs := HVB.out.size
                    have hlk := HLK2.out
                    refine ⟨k + 1, g3, c3, by have := HK4.out; omega, by go_num, by rw [hlk]; rfl, ?_, ⟨?_, fun r hr => ?_⟩, ?_, ?_⟩
                    · have h := HO9.out
                      rw [hlk] at h
                      rw [col_take C HK4.out, ← List.append_assoc, List.map_append, ← HZ.out]
                      exact h
                    · have := HG9.out.size; omega
                    · exact (HG9.out.cell_far ⟨gt, r, none⟩ (by show gt < VA.heap.size; omega) (fun e => hne (Option.some.inj e).symm)).trans ((HVB.out.cell (p := ⟨gt, r, none⟩) hgu).trans (HF2.out.2 r hr))
                    · rcases HR9.out with h | h
                      · have : g2 = g3 := Option.some.inj h
                        omega
                      · omega
                    · exact (HB2.out.trans (HVB.out.mono HB2.out.size)).grown HG9.out (by have := HB2.out.size; omega) (fun z hz => (HO2.out.lt z hz).1)
                  case measure => simp [intOf]; have := HK4.out; omega
                · rw [if_pos (by rfl)]
                  have hcc := hct
                  go_simp
                  refine hK.out _ _ trivial (fun hHeld1 => ?_)
                  clear hK K' hHeld
                  have hHeld := hHeld1
                  clear hHeld1
                  try simp only [Act.put, List.setIfInBounds_toArray, List.set_cons_zero, List.set_cons_succ]
                  refine wpAnyH_ready (rs := [9]) (by kernel_rfl) (by simp) ?_
                  refine AllReadyH.cons (o := { dst := some 110, op := Go.Op.load 5 (Go.Operand.tmp 109), type := 5, pos := "ref.go:31", after := #[{ on := 8, ground := Go.Ground.data }], guard := none }) rfl (fun K' hK => ?_) AllReadyH.nil
                  rw [if_pos (by rfl)]
                  have hcc := hcw
                  go_simp
                  refine hK.out _ _ trivial (fun hHeld1 => ?_)
                  clear hK K' hHeld
                  have hHeld := hHeld1
                  clear hHeld1
                  try simp only [Act.put, List.setIfInBounds_toArray, List.set_cons_zero, List.set_cons_succ]
                  refine wpAnyH_take (i := 14) (oi := { dst := some 115, op := Go.Op.binOp Go.BinOp.xor 5 (Go.Operand.tmp 110) (Go.Operand.tmp 114) 5, type := 5, pos := "ref.go:31", after := #[{ on := 9, ground := Go.Ground.data }, { on := 13, ground := Go.Ground.data }], guard := none }) (v := ?v14sD1) rfl (by kernel_rfl) (by kernel_rfl) (by kernel_rfl) (fun _ _ _ h => h) (Or.inl ⟨by rfl, ?hy14sD1⟩) hHeld ?rest14sD1
                  case hy14sD1 =>
                    intro W' hV
                    try dsimp only at hV
                    go_simp
                    all_goals with_reducible rfl
                  case' rest14sD1 => try simp only [Act.put, List.setIfInBounds_toArray, List.set_cons_zero, List.set_cons_succ]
                  refine wpAnyH_ready (rs := [15]) (by kernel_rfl) (by simp) ?_
                  refine AllReadyH.cons (o := { dst := some 116, op := Go.Op.buildSlice 22 1 #[(0, Go.Operand.tmp 115)], type := 22, pos := "ref.go:31", after := #[{ on := 14, ground := Go.Ground.data }], guard := none }) rfl (fun K' hK => ?_) AllReadyH.nil
                  rw [if_pos (by rfl)]
                  go_simp
                  change K' _ (U.drew.alloc (.cells #[.int .u8 ((Z : Nat) : Int)] 5))
                  refine hK.out _ _ trivial (fun hHeld1 => ?_)
                  clear hK K' hHeld
                  have hHeld := hHeld1
                  clear hHeld1
                  try simp only [Act.put, List.setIfInBounds_toArray, List.set_cons_zero, List.set_cons_succ]
                  obtain ⟨VA, hVA⟩ : ∃ X, X = U.drew.alloc (.cells #[.int .u8 ((Z : Nat) : Int)] 5) := ⟨_, rfl⟩
                  have HVB := Lib.hid (show Below U.heap.size U VA by rw [hVA]; exact ((Below.refl U.heap.size U).drew).alloc (Nat.le_refl _) _)
                  have HVN := Lib.hid (show VA.heap[U.heap.size]? = some (.cells #[.int .u8 ((Z : Nat) : Int)] 5 (0, 0)) by rw [hVA]; exact heap_alloc_new _ _)
                  have HVO := Lib.hid (show VA.ownsRow w.heap.size 5 1 (.slice (some ⟨g2, 0, none⟩) Lk cap2) Lk ((outL (kx n K m) i ++ (colL C).take k).map (Value.int .u8)) by rw [hVA]; exact World.ownsRow.alloc (own_drewN HO2.out 1) _)
                  rw [← hVA]
                  clear hVA
                  refine wpAnyH_ready (rs := [16]) (by kernel_rfl) (by simp) ?_
                  refine AllReadyH.cons (o := { dst := some 117, op := Go.Op.call { callee := Go.Callee.builtin Go.Builtin.append, args := #[Go.Operand.tmp 101, Go.Operand.tmp 116], argTypes := #[22, 22] }, type := 22, pos := "ref.go:31", after := #[{ on := 0, ground := Go.Ground.data }, { on := 15, ground := Go.Ground.data }], guard := none }) rfl (fun K' hK => ?_) AllReadyH.nil
                  rw [if_pos (by rfl)]
                  refine wp_append_lies _ (.tmp 101) (.tmp 116) 22 rfl w.heap.size 5 i5 (.int .u8 0) 1 1 Tryz.underlying22 HI.out.1 HI.out.2.1 HI.out.2.2.1 HI.out.2.2.2 rfl (by decide) (.slice (some ⟨g2, 0, none⟩) Lk cap2) Lk _ (by rfl) HVO.out ⟨U.heap.size, 0, none⟩ 1 1 [.int .u8 ((Z : Nat) : Int)] (by rfl) rfl (World.news_of_block HVN.out) (by intro u hu; cases List.mem_singleton.1 hu; rfl) (by omega) (by unfold maxLen; have := HN5.out; have := HLK2.out; have := HK4.out; omega) (by have := HN5.out; have := HLK2.out; have := HK4.out; omega) (by have := HVB.out.size; have := HB2.out.size; omega) _ rfl ?_
                  intro g3 c3 w9 ho9 hg9 hor9 _
                  have HO9 := Lib.hid ho9
                  have HG9 := Lib.hid hg9
                  have HR9 := Lib.hid hor9
                  clear ho9 hg9 hor9
                  refine hK.out _ _ trivial (fun hHeld1 => ?_)
                  clear hK K' hHeld
                  have hHeld := hHeld1
                  clear hHeld1
                  try simp only [Act.put, List.setIfInBounds_toArray, List.set_cons_zero, List.set_cons_succ]
                  refine wpAnyH_take (i := 17) (oi := { dst := some 4, op := Go.Op.assign (Go.Operand.tmp 117), type := 22, pos := "ref.go:31", after := #[{ on := 16, ground := Go.Ground.data }, { on := 16, ground := Go.Ground.chain }, { on := 0, ground := Go.Ground.phase }, { on := 1, ground := Go.Ground.phase }, { on := 2, ground := Go.Ground.phase }, { on := 3, ground := Go.Ground.phase }, { on := 4, ground := Go.Ground.phase }, { on := 5, ground := Go.Ground.phase }, { on := 6, ground := Go.Ground.phase }, { on := 7, ground := Go.Ground.phase }, { on := 8, ground := Go.Ground.phase }, { on := 9, ground := Go.Ground.phase }, { on := 10, ground := Go.Ground.phase }, { on := 11, ground := Go.Ground.phase }, { on := 12, ground := Go.Ground.phase }, { on := 13, ground := Go.Ground.phase }, { on := 14, ground := Go.Ground.phase }, { on := 15, ground := Go.Ground.phase }, { on := 16, ground := Go.Ground.phase }], guard := none }) (v := ?v17sD2) rfl (by kernel_rfl) (by kernel_rfl) (by kernel_rfl) (fun _ _ _ h => h) (Or.inl ⟨by rfl, ?hy17sD2⟩) hHeld ?rest17sD2
                  case hy17sD2 =>
                    intro W' hV
                    try dsimp only at hV
                    go_simp
                    all_goals with_reducible rfl
                  case' rest17sD2 => try simp only [Act.put, List.setIfInBounds_toArray, List.set_cons_zero, List.set_cons_succ]
                  refine wpAnyH_done (by kernel_rfl) ?_ _
                  clear hHeld
                  go_wp2
                  go_roundw
                  case rel =>
                    have hgu := HF2.out.1
                    have hne := HG2.out
                    have hvs := HVB.out.size
                    have hlk := HLK2.out
                    refine ⟨k + 1, g3, c3, by have := HK4.out; omega, by go_num, by rw [hlk]; rfl, ?_, ⟨?_, fun r hr => ?_⟩, ?_, ?_⟩
                    · have h := HO9.out
                      rw [hlk] at h
                      rw [col_take C HK4.out, ← List.append_assoc, List.map_append, ← HZ.out]
                      exact h
                    · have := HG9.out.size; omega
                    · exact (HG9.out.cell_far ⟨gt, r, none⟩ (by show gt < VA.heap.size; omega) (fun e => hne (Option.some.inj e).symm)).trans ((HVB.out.cell (p := ⟨gt, r, none⟩) hgu).trans (HF2.out.2 r hr))
                    · rcases HR9.out with h | h
                      · have : g2 = g3 := Option.some.inj h
                        omega
                      · omega
                    · exact (HB2.out.trans (HVB.out.mono HB2.out.size)).grown HG9.out (by have := HB2.out.size; omega) (fun z hz => (HO2.out.lt z hz).1)
                  case measure => simp [intOf]; have := HK4.out; omega
              · obtain rfl : k = 4 := by omega
                have HOE := Lib.hid (show U.ownsRow w.heap.size 5 1 (.slice (some ⟨g2, 0, none⟩) (4 * (n + (m + 1))) cap2) (4 * (n + (m + 1))) ((outL (kx n K (m + 1)) (n + (m + 1))).map (Value.int .u8)) by
                  have h := HO2.out
                  rw [show (colL C).take 4 = colL C from rfl] at h
                  have e : N4 + 4 = 4 * (n + (m + 1)) := by have := HN4.out; have := HII.out; omega
                  have e2 : outL (kx n K m) i ++ colL C = outL (kx n K (m + 1)) (n + (m + 1)) := by
                    rw [show n + (m + 1) = i + 1 by have := HII.out; omega, outL]
                    have h1 : outL (kx n K (m + 1)) i = outL (kx n K m) i := outL_congrN i (fun j hj => kx_old K (by have := HII.out; omega))
                    have h2 : kx n K (m + 1) i = C := by rw [HII.out, kx_new, HCE.out, HTE.out, HF.out, HII.out]
                    rw [h1, h2]
                  rw [e, e2] at h
                  exact h)
                go_wp2
                go_roundw
                case rel => first | exact ⟨m + 1, g2, cap2, by have := HLT.out; omega, by rw [HII.out]; go_num, by rw [HPV.out, HII.out]; rfl, by rw [show N4 + 4 = 4 * (n + (m + 1)) by have := HN4.out; have := HII.out; omega], HOE.out, HB2.out⟩ | ((repeat apply Exists.intro); exact ⟨⟨m + 1, g2, cap2, by have := HLT.out; omega, by rw [HII.out]; go_num, by rw [HPV.out, HII.out]; rfl, by rw [show N4 + 4 = 4 * (n + (m + 1)) by have := HN4.out; have := HII.out; omega], HOE.out, HB2.out⟩, rfl⟩)
                case measure => simp [intOf]; have := HII.out; have := HLT.out; omega
    · obtain rfl : m = 3 * n + 28 := by omega
      have HOE := Lib.hid (show wr.ownsRow w.heap.size 5 1 (.slice (some ⟨g, 0, none⟩) (16 * (n + 7)) cap) (16 * (n + 7)) ((outL (kx n K (3 * n + 28)) (4 * (n + 7))).map (Value.int .u8)) by
        have h := HO.out
        rw [show 4 * (n + (3 * n + 28)) = 16 * (n + 7) by omega, show n + (3 * n + 28) = 4 * (n + 7) by omega] at h
        exact h)
      rw [show 4 * (n + (3 * n + 28)) = 16 * (n + 7) by omega, show n + (3 * n + 28) = 4 * (n + 7) by omega]
      clear HO
      go_wp2
      go_ret
      exact ⟨g, cap, rfl, HOE.out, HB.out⟩
end Go.Proofs.YtappfdbmhgifcaaGreatDoor
