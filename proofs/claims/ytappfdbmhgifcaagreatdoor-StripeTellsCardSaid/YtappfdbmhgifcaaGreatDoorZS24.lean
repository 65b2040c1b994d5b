/- Texts of mine, one behind the other: Hh Hj QK5 Kz Jg Hv Hy1. -/
import Derived.Test.YtappfdbmhgifcaaGreatDoorZS15
import Derived.Test.YtappfdbmhgifcaaGreatDoorZS13
import Derived.StillTailTactics
import Derived.BigQuiet
import Derived.Deep.QuietTactic
import Derived.Test.YtappfdbmhgifcaaGreatDoorZS19
import Derived.Deep.RegionHeld
import Derived.Test.YtappfdbmhgifcaaGreatDoorZS01
import Derived.Test.YtappfdbmhgifcaaGreatDoorZS03
import Derived.Test.YtappfdbmhgifcaaGreatDoorZS08
import Derived.IntWalk
import Derived.Deep.AppendLies
import Derived.Deep.DrawnRows
import Derived.Test.YtappfdbmhgifcaaGreatDoorZS09
import Derived.Test.YtappfdbmhgifcaaGreatDoorRows
import Derived.ProofKit
import Derived.LaidMore
import Derived.OpenShut
import Derived.Stop.Joined
import Derived.Test.YtappfdbmhgifcaaGreatDoorZS16
import Derived.Test.YtappfdbmhgifcaaGreatDoorZS17
import Derived.ArgAppend
import Derived.Deep.OwnRows
import Derived.Test.YtappfdbmhgifcaaGreatDoorZS06
import Derived.Test.YtappfdbmhgifcaaGreatDoorZS12
import Derived.Test.YtappfdbmhgifcaaGreatDoorZS11
import Derived.Laws.AppendOwn
import Derived.Test.YtappfdbmhgifcaaGreatDoorZS22
/- The laws' Of, of package stripe: a shape of at most 7 members. -/
namespace Go.Proofs.YtappfdbmhgifcaaGreatDoor
open Go.ChangeShapes Go.WideShapes Go.ChangeAt Go.RowKit Go.Shelf GF
set_option linter.unusedVariables false
set_option linter.unusedSimpArgs false
set_option maxRecDepth 100000

theorem of_any (mode t n c : Int) (w : World) : Calls Tryz.prog 8 #[.int .i64 mode, .int .i64 t, .int .i64 n, .int .i64 c] w fun e w' =>
    ∃ (m : Int) (T N C : Nat), e = .returned (.agg #[.int .i64 m, .int .i64 (T : Nat), .int .i64 (N : Nat), .int .i64 (C : Nat)]) ∧ Sh m T N C ∧ N ≤ 7 ∧ C ≤ 3 ∧ Below w.heap.size w w' := by
  obtain ⟨M, hM1, hM2, hM3⟩ := mod_bothC mode 2 (by omega)
  obtain ⟨P, hP1, hP2, hP3⟩ := mod_bothC n 7 (by omega)
  obtain ⟨C, hC1, hC2, hC3⟩ := mod_bothC c 4 (by omega)
  obtain ⟨N, hN⟩ : ∃ N : Nat, N = 1 + P := ⟨_, rfl⟩
  obtain ⟨U, hU1, hU2, hU3⟩ := mod_bothC t (N : Int) (by omega)
  obtain ⟨T, hT⟩ : ∃ T : Nat, T = 1 + U := ⟨_, rfl⟩
  have f1 : ∀ [Inhabited Unit], (IntKind.u64.wrap mode).tmod 2 = (M : Int) := hM1
  have f2 : ∀ [Inhabited Unit], (IntKind.u64.wrap mode) % 2 = (M : Int) := hM2
  have f3 : ∀ [Inhabited Unit], (IntKind.u64.wrap n).tmod 7 = (P : Int) := hP1
  have f4 : ∀ [Inhabited Unit], (IntKind.u64.wrap n) % 7 = (P : Int) := hP2
  have f5 : ∀ [Inhabited Unit], (IntKind.u64.wrap c).tmod 4 = (C : Int) := hC1
  have f6 : ∀ [Inhabited Unit], (IntKind.u64.wrap c) % 4 = (C : Int) := hC2
  have f7 : ∀ [Inhabited Unit], (IntKind.u64.wrap t).tmod (N : Int) = (U : Int) := hU1
  have f8 : ∀ [Inhabited Unit], (IntKind.u64.wrap t) % (N : Int) = (U : Int) := hU2
  have g1 : ∀ [Inhabited Unit], IntKind.i64.wrap (M : Int) = (M : Int) := by intro _; rw [IntKind.wrap_i64]; omega
  have g2 : ∀ [Inhabited Unit], IntKind.i64.wrap (P : Int) = (P : Int) := by intro _; rw [IntKind.wrap_i64]; omega
  have g3 : ∀ [Inhabited Unit], IntKind.i64.wrap (C : Int) = (C : Int) := by intro _; rw [IntKind.wrap_i64]; omega
  have g4 : ∀ [Inhabited Unit], IntKind.i64.wrap (U : Int) = (U : Int) := by intro _; rw [IntKind.wrap_i64]; omega
  have g5 : ∀ [Inhabited Unit], IntKind.u64.wrap (N : Int) = (N : Int) := by intro _; rw [IntKind.wrap_u64]; omega
  have g6 : ∀ [Inhabited Unit], wrap64 (1 + (P : Int)) = (N : Int) := by intro _; unfold wrap64; omega
  have g7 : ∀ [Inhabited Unit], wrap64 (1 + (U : Int)) = (T : Int) := by intro _; unfold wrap64; omega
  have g8 : ∀ [Inhabited Unit], wrap64 (M : Int) = (M : Int) := by intro _; unfold wrap64; omega
  have g9 : ∀ [Inhabited Unit], wrap64 (P : Int) = (P : Int) := by intro _; unfold wrap64; omega
  have g10 : ∀ [Inhabited Unit], wrap64 (C : Int) = (C : Int) := by intro _; unfold wrap64; omega
  have g11 : ∀ [Inhabited Unit], wrap64 (U : Int) = (U : Int) := by intro _; unfold wrap64; omega
  have z1 : ¬ N = 0 := by omega
  have z2 : ¬ (N : Int) = 0 := by omega
  have z3 : ((N : Int) == 0) = false := by rw [beq_eq_false_iff_ne]; omega
  have HS := Lib.hid (show Sh (M : Int) T N C by unfold Sh; omega)
  have HN := Lib.hid (show N ≤ 7 ∧ C ≤ 3 by omega)
  clear hM1 hM2 hM3 hP1 hP2 hP3 hC1 hC2 hC3 hU1 hU2 hU3 hN hT
  go_enter Tryz.func8, Tryz.ntmps8
  go_wp2
  refine bodyPost_ret (v := .agg #[.int .i64 (M : Int), .int .i64 (T : Int), .int .i64 (N : Int), .int .i64 (C : Int)]) (results_cell_row rfl _ _ w.heap.size 25 #[.int .i64 (M : Int), .int .i64 (T : Int), .int .i64 (N : Int), .int .i64 (C : Int)] (0, 0) _ rfl ((((Below.refl _ (w.alloc (.cells #[.int .i64 (M : Int), .int .i64 (T : Int), .int .i64 (N : Int), .int .i64 (C : Int)] 25))).alloc (Nat.le_refl _) _).block w.heap.size (by simp)).trans (heap_alloc_new w _)) Tryz.underlying25 rfl (by kernel_rfl)) rfl ⟨(M : Int), T, N, C, rfl, HS.out, HN.out.1, HN.out.2, ?_⟩
  exact ((Below.refl _ _).alloc (Nat.le_refl _) _).alloc (by simp) _
/-! ## Block, Random -/
def blkG (P : List GF) : List GF := (List.range 440).map fun i => if P.length = 0 then 0 else toG (((toI (co P (i % P.length))).toNat + (i / P.length) % 256 : Nat) % 256 : Nat)
def rndG (P : List GF) (n : Nat) : List GF := (List.range n).map fun i => if P.length = 0 then 0 else co P (i % P.length) + toG (((i * 31 / P.length) % 256 : Nat) : Int)
theorem blkG_len (P : List GF) : (blkG P).length = 440 := by simp [blkG]
theorem rndG_len (P : List GF) (n : Nat) : (rndG P n).length = n := by simp [rndG]
theorem blkG_co {P : List GF} {i : Nat} (h : i < 440) : co (blkG P) i = if P.length = 0 then 0 else toG (((toI (co P (i % P.length))).toNat + (i / P.length) % 256 : Nat) % 256 : Nat) := by
  show List.getD _ _ _ = _
  unfold blkG; simp [List.getD_eq_getElem?_getD, h]
theorem rndG_co {P : List GF} {n i : Nat} (h : i < n) : co (rndG P n) i = if P.length = 0 then 0 else co P (i % P.length) + toG (((i * 31 / P.length) % 256 : Nat) : Int) := by
  show List.getD _ _ _ = _
  unfold rndG; simp [List.getD_eq_getElem?_getD, h]
theorem plV_skip {P : List GF} {t k : Nat} (h : P.length = t) (hk : k < t) (hz : co P k = 0) : plV P t k = plV P t (k + 1) := by
  have hl : (plV P t k).length = t := plV_len h (by omega)
  have e := plV_set h hk
  rw [hz, toI_zero] at e
  rw [← e]
  apply List.ext_getElem?
  intro j
  rw [List.getElem?_set]
  by_cases hj : k = j
  · subst hj
    rw [if_pos rfl, if_pos (by rw [hl]; exact hk)]
    unfold plV
    rw [List.getElem?_append_right (by simp [iL]; omega), List.getElem?_replicate]
    have hm : ((iL (P.take k)).map (Value.int .u8)).length = k := by simp [iL]; omega
    rw [hm, if_pos (by omega)]
  · rw [if_neg hj]
set_option maxHeartbeats 1000000 in
theorem blk17 (a : Option Addr) (L cB : Nat) (P : List GF) (w : World) (hp : Pa w a L cB P) (hL : L ≤ 500) :
    Calls Tryz.prog 12 #[.slice a L cB] w fun e w' => ∃ g, e = .returned (.slice (some ⟨g, 0, none⟩) 440 440) ∧ Pa w' (some ⟨g, 0, none⟩) 440 440 (blkG P) ∧ Below w.heap.size w w' := by
  have HP := Lib.hid hp
  have HPL := Lib.hid hp.len
  have hbd := hp.bd
  obtain ⟨Z, hZ⟩ : ∃ Z, Z = blkG P := ⟨_, rfl⟩
  have HZE := Lib.hid hZ
  have HZL := Lib.hid (show Z.length = 440 by rw [hZ]; exact blkG_len P)
  have HZ := Lib.hid (show ∀ i, i < 440 → co Z i = if P.length = 0 then 0 else toG (((toI (co P (i % P.length))).toNat + (i / P.length) % 256 : Nat) % 256 : Nat) from fun i hi => by rw [hZ]; exact blkG_co hi)
  have HZ0 := Lib.hid (show L = 0 → ∀ i, co Z i = 0 from fun h0 i => by
    by_cases hi : i < 440
    · rw [HZ.out i hi, if_pos (by rw [HPL.out]; exact h0)]
    · exact co_ge (by rw [HZL.out]; omega))
  have HN := Lib.hid (show 440 ≤ 440 from Nat.le_refl _)
  have hmk := run_make_row' (P := Tryz.prog) 22 5 (.int .u8 0) 1 Tryz.underlying22 info5 rfl .i64 .i64 440 (by omega) (by omega)
  rw [show ((440 : Nat) : Int) = 2 * 220 from rfl] at hmk
  simp only [Int.reduceMul] at hmk
  have hO0 : Hid ((w.alloc (.cells (madeCells #[.int .u8 0] 440) 5)).ownsRow w.heap.size 5 1 (.slice (some ⟨w.heap.size, 0, none⟩) 440 440) 440 (plV Z 440 0)) := by
    rw [plV_zero]
    exact Lib.hid (own_made (w := w) (e := 5) (n := 440) (by unfold maxLen; omega))
  have hB0 : Hid (Below w.heap.size w (w.alloc (.cells (madeCells #[.int .u8 0] 440) 5))) := Lib.hid ((Below.refl _ _).alloc (Nat.le_refl _) _)
  clear hp hZ
  go_enter Tryz.func12, Tryz.ntmps12
  go_wp2
  go_loopw [8] (fun j wr => ∃ k : Nat, k ≤ 440 ∧ j = .int .i64 (k : Nat) ∧ Hid (wr.ownsRow w.heap.size 5 1 (.slice (some ⟨w.heap.size, 0, none⟩) 440 440) 440 (plV Z 440 k)) ∧ Hid (Below w.heap.size w wr))
    (fun j _ => 440 - (intOf j).toNat)
  case atStart => exact ⟨0, Nat.zero_le _, rfl, hO0, hB0⟩
  case round =>
    obtain ⟨k, hk, rfl, hO, hB⟩ := hrel
    rename World => w2
    by_cases hlt : k < 440
    · have qi : (k : Int) < (440 : Int) := by omega
      have qi0 : (0 : Int) ≤ (k : Int) := by omega
      by_cases h0 : L = 0
      · have ho := hO.out
        rw [plV_skip HZL.out hlt (HZ0.out h0 k)] at ho
        have HST := Lib.hid ho
        have HLT := Lib.hid hlt
        have hk1000 : k ≤ 4000 := by have := HN.out; omega
        subst h0
        clear ho hlt hk
        go_wp2
        go_roundw
        case rel => exact ⟨k + 1, by have := HLT.out; omega, by go_num, HST, hB⟩
        case measure => simp [intOf]; have := HLT.out; omega
      · obtain ⟨r, hr⟩ : ∃ r, r = k % L := ⟨_, rfl⟩
        have hrL : r < L := by rw [hr]; exact Nat.mod_lt _ (by omega)
        obtain ⟨b, off, rfl, hbl, hcell⟩ := (HP.out.on hB.out).at_ hrL
        obtain ⟨d, hd⟩ : ∃ d, d = k / L := ⟨_, rfl⟩
        have hdk : d ≤ k := by rw [hd]; exact Nat.div_le_self _ _
        obtain ⟨x, hx⟩ : ∃ x : Int, x = toI (co P r) := ⟨_, rfl⟩
        have hxb := toI_bd (co P r)
        rw [← hx] at hcell hxb
        obtain ⟨y, hy⟩ : ∃ y : Int, y = toI (co Z k) := ⟨_, rfl⟩
        have HZK := Lib.hid hy
        have hyv : y = ((x.toNat + d % 256) % 256 : Nat) := by
          rw [hy, HZ.out k hlt, if_neg (by rw [HPL.out]; exact h0), HPL.out, ← hr, ← hd, ← hx]
          exact toI_toG (by omega)
        have e5 : ∀ [Inhabited Unit], (k : Int).tdiv (L : Int) = (d : Int) := by intro _; rw [Int.tdiv_eq_ediv_of_nonneg (by omega), hd]; rfl
        have e6 : ∀ [Inhabited Unit], (k : Int) / (L : Int) = (d : Int) := by intro _; rw [hd]; rfl
        have e7 : ∀ [Inhabited Unit], IntKind.i64.wrap (d : Int) = (d : Int) := by intro _; rw [IntKind.wrap_i64]; omega
        obtain ⟨u, hu⟩ : ∃ u : Nat, u = d % 256 := ⟨_, rfl⟩
        have e8 : ∀ [Inhabited Unit], IntKind.u8.wrap (d : Int) = (u : Int) := by intro _; rw [IntKind.wrap_u8]; omega
        have e9 : ∀ [Inhabited Unit], IntKind.u8.wrap (x + (u : Int)) = y := by intro _; rw [IntKind.wrap_u8]; omega
        clear hd hdk hx hxb hy hyv hu
        have qL : decide ((0 : Int) < (L : Int)) = true := by rw [decide_eq_true_iff]; omega
        have qL2 : (0 : Int) < (L : Int) := by omega
        have qr : (r : Int) < (L : Int) := by omega
        have qr0 : (0 : Int) ≤ (r : Int) := by omega
        have z1 : ¬ L = 0 := h0
        have z2 : ¬ (L : Int) = 0 := by omega
        have z3 : ¬ (L : Int) = -1 := by omega
        have z4 : ((L : Int) == 0) = false := by rw [beq_eq_false_iff_ne]; omega
        have e1 : ∀ [Inhabited Unit], (k : Int).tmod (L : Int) = (r : Int) := by intro _; rw [Int.tmod_eq_emod_of_nonneg (by omega), hr]; rfl
        have e2 : ∀ [Inhabited Unit], (k : Int) % (L : Int) = (r : Int) := by intro _; rw [hr]; rfl
        have e3 : ∀ [Inhabited Unit], IntKind.i64.wrap (r : Int) = (r : Int) := by intro _; rw [IntKind.wrap_i64]; omega
        have hfz := hO.out.frozenAt k
        have hcl := hO.out.cellAt k (by omega)
        obtain ⟨vo, hvo⟩ : ∃ v, (plV Z 440 k)[k]? = some v := ⟨_, List.getElem?_eq_getElem (by rw [plV_len HZL.out hk]; exact hlt)⟩
        rw [hvo] at hcl
        have hst := (hO.out.stored k (.int .u8 (toI (co Z k)))).1
        rw [plV_set HZL.out hlt] at hst
        have hgs := hO.out.lt (w.heap.size) rfl
        have HST := Lib.hid hst
        have HBS := Lib.hid (hB.out.setCell (p := ⟨w.heap.size, k, none⟩) (Nat.le_refl _) (.int .u8 (toI (co Z k))))
        have HLT := Lib.hid hlt
        have hk1000 : k ≤ 4000 := by have := HN.out; omega
        rw [← HZK.out] at HST HBS
        clear hst hlt hk hvo hr hrL hbl h0 hgs
        go_wp2_with fail
        go_still_tail 15, (by kernel_rfl)
        go_wp2
        go_roundw
        case rel => exact ⟨k + 1, by have := HLT.out; omega, by go_num, Lib.hid (HST.out), Lib.hid HBS.out.drew⟩
        case measure => simp [intOf]; have := HLT.out; omega
    · obtain rfl : k = 440 := by omega
      have ho := hO.out
      rw [plV_all HZL.out] at ho
      have HPO := Lib.hid (Pa.own2 ho)
      have HZE' := HZE
      clear ho hlt
      go_wp2
      go_ret
      exact ⟨_, rfl, by rw [← HZE.out]; exact HPO.out, hB.out⟩
set_option maxHeartbeats 1000000 in
theorem rnd17 (m : Int) (tt nn c : Nat) (a : Option Addr) (L cB : Nat) (P : List GF) (n : Nat) (w : World) (h : Sh m tt nn c) (hn : n = needV m tt) (hn2 : n ≤ 4000) (hp : Pa w a L cB P) (hL : L ≤ 500) :
    Calls Tryz.prog 9 #[.agg #[.int .i64 m, .int .i64 (tt : Nat), .int .i64 (nn : Nat), .int .i64 (c : Nat)], .slice a L cB] w fun e w' => ∃ g, e = .returned (.slice (some ⟨g, 0, none⟩) n n) ∧ Pa w' (some ⟨g, 0, none⟩) n n (rndG P n) ∧ Below w.heap.size w w' := by
  have HA := Lib.hid (bxS w #[.int .i64 m, .int .i64 tt, .int .i64 nn, .int .i64 c] 25)
  have HNE := need_any m tt nn c (w.alloc (.cells #[.int .i64 m, .int .i64 tt, .int .i64 nn, .int .i64 c] 25)) h
  rw [← hn] at HNE
  have HNE := Lib.hid HNE
  have HP := Lib.hid hp
  have HPL := Lib.hid hp.len
  have hbd := hp.bd
  obtain ⟨Z, hZ⟩ : ∃ Z, Z = rndG P n := ⟨_, rfl⟩
  have HZE := Lib.hid hZ
  have HZL := Lib.hid (show Z.length = n by rw [hZ]; exact rndG_len P n)
  have HZ := Lib.hid (show ∀ i, i < n → co Z i = if P.length = 0 then 0 else co P (i % P.length) + toG (((i * 31 / P.length) % 256 : Nat) : Int) from fun i hi => by rw [hZ]; exact rndG_co hi)
  have HZ0 := Lib.hid (show L = 0 → ∀ i, co Z i = 0 from fun h0 i => by
    by_cases hi : i < n
    · rw [HZ.out i hi, if_pos (by rw [HPL.out]; exact h0)]
    · exact co_ge (by rw [HZL.out]; omega))
  have HN := Lib.hid hn2
  have qn2 : (n : Int) ≤ 4000 := by omega
  have hmk := run_make_row' (P := Tryz.prog) 22 5 (.int .u8 0) 1 Tryz.underlying22 info5 rfl .i64 .i64 n (by omega) (by omega)
  clear hp hZ h hn hn2
  go_enter Tryz.func9, Tryz.ntmps9
  go_upto_region 1 with fail
  go_wp2_with (go_at_call 23; go_loud (refine HNE.out.mono ?_; rintro e w1 ⟨rfl, hb⟩; have HB1 := Lib.hid (bt HA.out hb); clear hb))
  have HGE := Lib.hid HB1.out.size
  have hO0 : Hid ((w1.alloc (.cells (madeCells #[.int .u8 0] n) 5)).ownsRow w1.heap.size 5 1 (.slice (some ⟨w1.heap.size, 0, none⟩) n n) n (plV Z n 0)) := by
    rw [plV_zero]
    exact Lib.hid (own_made (w := w1) (e := 5) (n := n) (by have := HN.out; unfold maxLen; omega))
  have hB0 : Hid (Below w.heap.size w (w1.alloc (.cells (madeCells #[.int .u8 0] n) 5))) := Lib.hid (HB1.out.alloc HB1.out.size _)
  go_loopw [12] (fun j wr => ∃ k : Nat, k ≤ n ∧ j = .int .i64 (k : Nat) ∧ Hid (wr.ownsRow w1.heap.size 5 1 (.slice (some ⟨w1.heap.size, 0, none⟩) n n) n (plV Z n k)) ∧ Hid (Below w.heap.size w wr))
    (fun j _ => n - (intOf j).toNat)
  case atStart => exact ⟨0, Nat.zero_le _, rfl, hO0, hB0⟩
  case round =>
    obtain ⟨k, hk, rfl, hO, hB⟩ := hrel
    rename World => w2
    by_cases hlt : k < n
    · have qi : (k : Int) < (n : Int) := by omega
      have qi0 : (0 : Int) ≤ (k : Int) := by omega
      by_cases h0 : L = 0
      · have ho := hO.out
        rw [plV_skip HZL.out hlt (HZ0.out h0 k)] at ho
        have HST := Lib.hid ho
        have HLT := Lib.hid hlt
        have hk1000 : k ≤ 4000 := by have := HN.out; omega
        subst h0
        clear ho hlt hk
        go_wp2
        go_roundw
        case rel => exact ⟨k + 1, by have := HLT.out; omega, by go_num, HST, hB⟩
        case measure => simp [intOf]; have := HLT.out; omega
      · obtain ⟨r, hr⟩ : ∃ r, r = k % L := ⟨_, rfl⟩
        have hrL : r < L := by rw [hr]; exact Nat.mod_lt _ (by omega)
        obtain ⟨b, off, rfl, hbl, hcell⟩ := (HP.out.on hB.out).at_ hrL
        obtain ⟨d, hd⟩ : ∃ d, d = k * 31 / L := ⟨_, rfl⟩
        have hdk : d ≤ k * 31 := by rw [hd]; exact Nat.div_le_self _ _
        obtain ⟨x, hx⟩ : ∃ x : Int, x = toI (co P r) := ⟨_, rfl⟩
        rw [← hx] at hcell
        obtain ⟨y, hy⟩ : ∃ y : Int, y = toI (co Z k) := ⟨_, rfl⟩
        have HZK := Lib.hid hy
        have hk4 : k ≤ 4000 := by have := HN.out; omega
        obtain ⟨k31, hk31⟩ : ∃ q : Nat, q = k * 31 := ⟨_, rfl⟩
        have e4 : ∀ [Inhabited Unit], wrap64 ((k : Int) * 31) = (k31 : Int) := by intro _; unfold wrap64; omega
        have e4' : ∀ [Inhabited Unit], IntKind.i64.wrap ((k : Int) * 31) = (k31 : Int) := by intro _; rw [IntKind.wrap_i64]; omega
        have e4'' : ∀ [Inhabited Unit], (k : Int) * 31 = (k31 : Int) := by intro _; omega
        rw [← hk31] at hd hdk
        have e5 : ∀ [Inhabited Unit], (k31 : Int).tdiv (L : Int) = (d : Int) := by intro _; rw [Int.tdiv_eq_ediv_of_nonneg (by omega), hd]; rfl
        have e6 : ∀ [Inhabited Unit], (k31 : Int) / (L : Int) = (d : Int) := by intro _; rw [hd]; rfl
        have e7 : ∀ [Inhabited Unit], IntKind.i64.wrap (d : Int) = (d : Int) := by intro _; rw [IntKind.wrap_i64]; omega
        obtain ⟨u, hu⟩ : ∃ u : Nat, u = d % 256 := ⟨_, rfl⟩
        have e8 : ∀ [Inhabited Unit], IntKind.u8.wrap (d : Int) = (u : Int) := by intro _; rw [IntKind.wrap_u8]; omega
        have e8' : ∀ [Inhabited Unit], (d : Int) % 256 = (u : Int) := by intro _; omega
        have e7' : ∀ [Inhabited Unit], wrap64 (d : Int) = (d : Int) := by intro _; unfold wrap64; omega
        have e7'' : ∀ [Inhabited Unit], wrap64 (k31 : Int) = (k31 : Int) := by intro _; unfold wrap64; omega
        have hbx := bits_xor_G (co P r) (toG (u : Int))
        rw [toI_toG (show (0 : Int) ≤ (u : Int) ∧ (u : Int) < 256 by omega), ← hx] at hbx
        have hyv : toI (co P r + toG (u : Int)) = y := by
          rw [hy, HZ.out k hlt, if_neg (by rw [HPL.out]; exact h0), HPL.out, ← hr, ← hk31, ← hd, ← hu]
        rw [hyv] at hbx
        have e9 : ∀ [Inhabited Unit], bits .xor .u8 x (u : Int) = y := by intro _; exact hbx
        clear hd hdk hx hy hyv hu hbx hk4 hk31
        have qL : decide ((0 : Int) < (L : Int)) = true := by rw [decide_eq_true_iff]; omega
        have qL2 : (0 : Int) < (L : Int) := by omega
        have qr : (r : Int) < (L : Int) := by omega
        have qr0 : (0 : Int) ≤ (r : Int) := by omega
        have z1 : ¬ L = 0 := h0
        have z2 : ¬ (L : Int) = 0 := by omega
        have z3 : ¬ (L : Int) = -1 := by omega
        have z4 : ((L : Int) == 0) = false := by rw [beq_eq_false_iff_ne]; omega
        have e1 : ∀ [Inhabited Unit], (k : Int).tmod (L : Int) = (r : Int) := by intro _; rw [Int.tmod_eq_emod_of_nonneg (by omega), hr]; rfl
        have e2 : ∀ [Inhabited Unit], (k : Int) % (L : Int) = (r : Int) := by intro _; rw [hr]; rfl
        have e3 : ∀ [Inhabited Unit], IntKind.i64.wrap (r : Int) = (r : Int) := by intro _; rw [IntKind.wrap_i64]; omega
        have hfz := hO.out.frozenAt k
        have hcl := hO.out.cellAt k (by omega)
        obtain ⟨vo, hvo⟩ : ∃ v, (plV Z n k)[k]? = some v := ⟨_, List.getElem?_eq_getElem (by rw [plV_len HZL.out hk]; exact hlt)⟩
        rw [hvo] at hcl
        have hst := (hO.out.stored k (.int .u8 (toI (co Z k)))).1
        rw [plV_set HZL.out hlt] at hst
        have hgs := hO.out.lt (w1.heap.size) rfl
        have HST := Lib.hid hst
        have HBS := Lib.hid (hB.out.setCell (p := ⟨w1.heap.size, k, none⟩) (by have := HGE.out; omega) (.int .u8 (toI (co Z k))))
        have HLT := Lib.hid hlt
        have hk1000 : k ≤ 4000 := by have := HN.out; omega
        rw [← HZK.out] at HST HBS
        clear hst hlt hk hvo hr hrL hbl h0 hgs
        go_wp2_with fail
        go_still_tail 16, (by kernel_rfl)
        go_wp2
        go_roundw
        case rel => exact ⟨k + 1, by have := HLT.out; omega, by go_num, Lib.hid (HST.out), Lib.hid HBS.out.drew⟩
        case measure => simp [intOf]; have := HLT.out; omega
    · obtain rfl : n = k := by omega
      have ho := hO.out
      rw [plV_all HZL.out] at ho
      have HPO := Lib.hid (Pa.own2 ho)
      have HZE' := HZE
      clear ho hlt
      go_wp2
      go_ret
      exact ⟨_, rfl, by rw [← HZE.out]; exact HPO.out, hB.out⟩

/-! ## same -/
end Go.Proofs.YtappfdbmhgifcaaGreatDoor
/- The laws' lives, of package stripe. -/
namespace Go.Proofs.YtappfdbmhgifcaaGreatDoor
open Go.ChangeShapes Go.WideShapes Go.ChangeAt Go.RowKit Go.Shelf GF
set_option linter.unusedVariables false
set_option linter.unusedSimpArgs false
set_option maxRecDepth 100000

/-- The example's two bytes. -/
def e12 : List GF := [toG 1, toG 2]
theorem pa_e12 (w : World) : Pa (w.alloc (.cells #[.int .u8 1, .int .u8 2] 5)) (some ⟨w.heap.size, 0, none⟩) 2 2 e12 := by
  refine ⟨⟨rfl, allB_iL _, fun h0 => ⟨w.heap.size, 0, rfl, by simp, fun j hj => ?_⟩, Nat.le_refl _, by unfold maxLen; omega⟩, fun e => by cases e⟩
  have : j < 2 := hj
  rcases (show j = 0 ∨ j = 1 by omega) with rfl | rfl <;> simp [iL, e12, toI_toG]
theorem pa_nil17 (w : World) : Pa w none 0 0 [] := ⟨⟨rfl, allB_iL _, fun h0 => absurd h0 (by simp [iL]), Nat.le_refl _, Nat.zero_le _⟩, fun _ => rfl⟩
theorem sh_one (B : List GF) (x : GF) (hB : B.length = 440) : shR 1 440 B [] x = B := by
  refine ext_co (by rw [shR_len, hB]) fun k hk => ?_
  rw [shR_len] at hk
  rw [shR_co _ _ _ hk]
  show ev [co B k] x = co B k
  have h := ev_drop [co B k] 0 x
  rw [List.drop_zero, co_cons_zero, show ([co B k]).drop (0 + 1) = [] from rfl, show ev [] x = 0 from rfl, GF.mul_zero, GF.add_zero] at h
  exact h
theorem row_one (B : List GF) (hB : B.length = 440) {N i : Nat} (h : i < N) : rw_ (stR (qM 0 1 B []) N) i = B := by
  rw [qM_0, stR_row h, qS_at, sh_one B _ hB]
set_option maxHeartbeats 2000000 in
theorem lives17 (w : World) : Calls Tryz.prog 7 #[] w fun e w' => e = .returned (.bool true) ∧ Below w.heap.size w w' := by
  have HS := Lib.hid (show Sh 0 1 2 0 by unfold Sh; omega)
  go_enter Tryz.func7, Tryz.ntmps7
  go_upto_region 2 with fail
  obtain ⟨w1, hw1⟩ : ∃ w1, w1 = w.alloc (.cells #[.int .i64 0, .int .i64 1, .int .i64 2, .int .i64 0] 25) := ⟨_, rfl⟩
  have HX := Lib.hid (show Bx w1 w.heap.size 0 1 2 0 by rw [hw1]; exact Bx.new w 0 1 2 0)
  have HB1 := Lib.hid (show Below w.heap.size w w1 by rw [hw1]; exact (Below.refl _ _).alloc (Nat.le_refl _) _)
  try rw [← hw1]
  clear hw1
  have y0 : ∀ W, Below w1.heap.size w1 W → W.cell? ⟨w.heap.size, 0, none⟩ = some (.int .i64 0) := fun W hW => (HX.out.on hW).c0
  have y1 : ∀ W, Below w1.heap.size w1 W → W.cell? ⟨w.heap.size, 1, none⟩ = some (.int .i64 1) := fun W hW => (HX.out.on hW).c1
  have y2 : ∀ W, Below w1.heap.size w1 W → W.cell? ⟨w.heap.size, 2, none⟩ = some (.int .i64 2) := fun W hW => (HX.out.on hW).c2
  have y3 : ∀ W, Below w1.heap.size w1 W → W.cell? ⟨w.heap.size, 3, none⟩ = some (.int .i64 0) := fun W hW => (HX.out.on hW).c3
  go_region_held (fun W => Below w1.heap.size w1 W) (first | assumption | exact (Below.refl _ _).drew | (refine Below.drew ?_; assumption) | exact Below.alloc hbw2 hbw2.size _ | exact (Below.refl _ _).drew.alloc (Nat.le_refl _) _ | exact (Below.refl _ _).alloc (Nat.le_refl _) _)
    (first
      | (go_at_call 11; go_loud (refine (new_any _).mono ?_; rintro e w2 ⟨bf, rfl, hbf, hfl, hb2⟩; have HF2 := Lib.hid hfl; have HBB2 := Lib.hid hb2; have hbw2 : Below w1.heap.size w1 w2 := (by first | exact (Below.refl _ _).drew.trans hb2 | exact ((Below.refl _ _).drew.alloc (Nat.le_refl _) _).trans (hb2.mono (by simp))); clear hfl hb2))
      | (go_at_call 12; go_loud (refine (blk17 _ 2 2 e12 _ (by first | exact pa_e12 _ | exact (show Pa (w1.drew.alloc _) (some ⟨w1.heap.size, 0, none⟩) 2 2 e12 from pa_e12 w1.drew).on HBB2.out | exact (pa_e12 w1).on HBB2.out) (by omega)).mono ?_; rintro e w3 ⟨g3, rfl, hp3, hb3⟩; have hbw3 : Below w1.heap.size w1 w3 := (by first | exact hbw2.trans (hb3.mono hbw2.size) | exact (Below.alloc hbw2 hbw2.size _).trans (hb3.mono (by have := hbw2.size; simp; omega))); have HF3 : Hid (Fld w3 bf) := Lib.hid (by first | exact HF2.out.below hb3 | exact (HF2.out.below ((Below.refl _ _).alloc (Nat.le_refl _) _)).below hb3); have HP3 := Lib.hid hp3; have HSP := Lib.hid (spr_0 bf 1 2 0 (some ⟨g3, 0, none⟩) 440 (blkG e12) none 0 0 [] w3 HS.out HF3.out HP3.out (pa_nil17 w3) rfl); clear hp3 hb3))
      | (go_at_call 10; go_loud (refine HSP.out.mono ?_; rintro e w4 ⟨a4, c4, rfl, hm, hb4⟩; have hbw4 : Below w1.heap.size w1 w4 := hbw3.trans (hb4.mono hbw3.size); have HM4 := Lib.hid hm; have HB4 := Lib.hid (bt HB1.out hbw4); clear hm hb4)))
  all_goals
    clear y0 y1 y2 y3
    obtain ⟨b, off, ai, ci, rfl, hbl, hcell, hpa⟩ := HM4.out.mat.row (i := 1) (by omega)
    have hbd := HM4.out.mat.bd
    rw [row_one (blkG e12) (blkG_len e12) (by omega)] at hpa hcell
    rw [blkG_len] at hpa hcell
    have hl : ∀ W, Below w4.heap.size w4 W → W.cell? ⟨b, off + 1, none⟩ = some (.slice ai 440 ci) := fun W hW => (hW.cell (p := ⟨b, off + 1, none⟩) hbl).trans hcell
    have hv := hpa.str_on rfl
    have HBK := Lib.hid (fun (W : World) (a : Option Addr) (hp : Pa W a 2 2 e12) => blk17 a 2 2 e12 W hp (by omega))
    clear hpa hcell
    go_wp2_with fail
    go_region_held (fun W => Below w4.heap.size w4 W) (first | assumption | exact (Below.refl _ _).drew | (refine Below.drew ?_; assumption) | exact (Below.refl _ _).drew.alloc (Nat.le_refl _) _ | exact (Below.refl _ _).alloc (Nat.le_refl _) _ | exact ((Below.refl _ _).alloc (Nat.le_refl _) _).drew)
      (first
        | (go_at_call 12; go_loud (refine (HBK.out _ _ (by first | exact pa_e12 _ | exact (pa_e12 w4).on (Below.refl _ _).drew)).mono ?_; rintro e w5 ⟨g5, rfl, hp5, hb5⟩; have hbw5 : Below w4.heap.size w4 w5 := (by first | exact ((Below.refl _ _).drew.alloc (Nat.le_refl _) _).trans (hb5.mono (by simp)) | exact ((Below.refl _ _).alloc (Nat.le_refl _) _).drew.trans (hb5.mono (by simp))); have hv5 := hp5.str_on rfl; have hrf5 := Below.refl w5.heap.size w5; have HB5 := Lib.hid (bt HB4.out hbw5); clear hp5 hb5)))
    all_goals
      go_wp2
      go_ret
      exact ⟨rfl, HB5.out⟩
end Go.Proofs.YtappfdbmhgifcaaGreatDoor
/- Texts of mine, one behind the other: Ky Ke1. -/
/- Contract of the document's own Box (layer 5). -/
namespace Go.Proofs.YtappfdbmhgifcaaGreatDoor
open Go.ChangeShapes Go.WideShapes Go.ChangeAt Go.RowKit
set_option linter.unusedVariables false
set_option linter.unusedSimpArgs false
set_option maxRecDepth 100000

end Go.Proofs.YtappfdbmhgifcaaGreatDoor
/- Contract of the document's own Encrypt (layer 5). -/
namespace Go.Proofs.YtappfdbmhgifcaaGreatDoor
open Go.ChangeShapes Go.WideShapes Go.ChangeAt Go.RowKit
set_option linter.unusedVariables false
set_option linter.unusedSimpArgs false
set_option maxRecDepth 100000

/-- A square's bytes, one behind the other; a row that goes over from one to another. -/
def qd (S : Nat → Nat → Nat) (j : Nat) : Nat := S (j / 4) (j % 4)
def pm (A B : Nat → Nat → Nat) (i j : Nat) : Value := .int .u8 (((if j < i then qd B j else qd A j : Nat)) : Int)
end Go.Proofs.YtappfdbmhgifcaaGreatDoor
/- Contract of the document's own Keys (written by gen26.py). -/
namespace Go.Proofs.YtappfdbmhgifcaaGreatDoor
open Go.ChangeShapes Go.WideShapes Go.ChangeAt Go.RowKit
set_option linter.unusedVariables false
set_option linter.unusedSimpArgs false
set_option maxRecDepth 100000
attribute [local go_sem ↓] Go.wp_at_zero Go.wp_at_succ

/-- A row of four bytes. -/
def Four (w : World) (b : Nat) (f : Nat → Nat) : Prop := b < w.heap.size ∧ ∀ r, r < 4 → w.cell? ⟨b, r, none⟩ = some (.int .u8 ((f r : Nat) : Int))
theorem Four.on {w w' : World} {b : Nat} {f : Nat → Nat} (h : Four w b f) (hb : Below w.heap.size w w') : Four w' b f := ⟨Nat.lt_of_lt_of_le h.1 hb.size, fun r hr => (hb.cell (p := ⟨b, r, none⟩) h.1).trans (h.2 r hr)⟩
end Go.Proofs.YtappfdbmhgifcaaGreatDoor
/- What the tied card's condition gives: the package's variables hold the roots. -/
namespace Go.Proofs.YtappfdbmhgifcaaGreatDoor
open Go.ChangeShapes Go.WideShapes Go.ChangeAt Go.RowKit
set_option linter.unusedVariables false
set_option maxRecDepth 100000

theorem gRoots : Tryz.prog.globalNamed "largesse/hash.squareRoots" = some 0 := by kernel_rfl
theorem gCubes : Tryz.prog.globalNamed "largesse/hash.cubeRoots" = some 1 := by kernel_rfl
theorem tRoots : (Tryz.prog.globals[0]?).map (·.type) = some 117 := by kernel_rfl
theorem tCubes : (Tryz.prog.globals[1]?).map (·.type) = some 116 := by kernel_rfl
def laid2 : List (String × DataW Unit) := [("largesse/hash.squareRoots", Rows.laid_largesse_hash_squareRoots), ("largesse/hash.cubeRoots", Rows.laid_largesse_hash_cubeRoots)]
theorem array_cells {H : Type} {enc : TypeId × Value → H} {W : World} {base : Nat} {sp : Nat → Bool} {held : Bool} {f n : Nat} {t e : TypeId} {cs : Array Value} {L : List Int} {p : List MemPlace}
    (ht : Tryz.prog.underlying t = some (.array n e)) (he : Tryz.prog.underlying e = some (.int .u32)) (hce : Tryz.prog.cellsOf e = 1)
    (hd : DataW.trod enc Tryz.prog W base sp held f t cs.toList = some (.agg (L.map fun x => .lit (.int .u32 x)), p)) (j : Nat) (hj : j < n) : cs[j]? = some (.int .u32 (L.getD j 0)) := by
  obtain ⟨xs, m1, rfl, hx, hlen, hn, hel⟩ := DataW.trod_array ht hd
  have h := hel j hj
  rw [hce, Nat.mul_one, List.getElem?_eq_getElem (by omega)] at h
  obtain ⟨k, e1, e2, _⟩ := DataW.trod_int he h
  simp only [Prod.mk.injEq, DataW.agg.injEq] at hx
  have h1 := congrArg (fun l => l[j]?) hx.1
  simp only [List.getElem?_map, List.getElem?_eq_getElem (show j < xs.length by omega), Option.map_some, e2] at h1
  have h2 : L[j]? = some k := by
    rcases hL : L[j]? with _ | v
    · rw [hL] at h1; simp at h1
    · rw [hL] at h1
      simp at h1
      rw [h1]
  have h3 : cs.toList[j]? = some (.int .u32 k) := by
    have := congrArg (fun l => l[0]?) e1
    simpa using this
  rw [← Array.getElem?_toList, h3, List.getD_eq_getElem?_getD, h2]
  rfl
theorem gl_of_laid {W : World} (h : laidMetH Tryz.prog laid2 W) : Gl W := by
  rw [MakeChecks.laidMetH_plain _ _ _ (by kernel_rfl)] at h
  obtain ⟨ps, ⟨g0, t0, cs0, f0, p0, q0, hg0, ht0, hv0, hd0, ⟨g1, t1, cs1, f1, p1, q1, hg1, ht1, hv1, hd1, _, _⟩, _⟩, _, _⟩ := h
  obtain rfl := Option.some.inj (gRoots.symm.trans hg0)
  obtain rfl := Option.some.inj (gCubes.symm.trans hg1)
  obtain rfl := Option.some.inj (tRoots.symm.trans ht0)
  obtain rfl := Option.some.inj (tCubes.symm.trans ht1)
  have c0 : ∀ j, j < 8 → W.cell? ⟨0, j, none⟩ = some (gV HF0 j) := fun j hj => by
    rw [World.var?_cell hg0 hv0 j, array_cells (L := [1779033703, 3144134277, 1013904242, 2773480762, 1359893119, 2600822924, 528734635, 1541459225]) Tryz.underlying117 Tryz.underlying115 (by kernel_rfl) hd0 j hj, HF0_0]
    unfold gV
    simp [List.getD_eq_getElem?_getD, hj]
  have c1 : ∀ j, j < 64 → W.cell? ⟨1, j, none⟩ = some (gV KF j) := fun j hj => by
    rw [World.var?_cell hg1 hv1 j, array_cells (L := (List.range 64).map (fun j => ((KF j : Nat) : Int))) Tryz.underlying116 Tryz.underlying115 (by kernel_rfl) (by rw [← KF_0]; exact hd1) j hj]
    unfold gV
    simp [List.getD_eq_getElem?_getD, hj]
  refine ⟨?_, c0, c1⟩
  exact (show 1 < W.heap.size from block_lt_of_cell (c1 0 (by omega)))
end Go.Proofs.YtappfdbmhgifcaaGreatDoor
/- The walk of StripeSpreads. -/
namespace Go.Proofs.YtappfdbmhgifcaaGreatDoor
open Go.ChangeShapes Go.WideShapes Go.ChangeAt Go.RowKit Go.Shelf GF
set_option linter.unusedVariables false
set_option linter.unusedSimpArgs false
set_option maxRecDepth 100000

theorem need_small {m : Int} {T N C : Nat} (h : Sh m T N C) (hN : N ≤ 7) : needV m T ≤ 4000 := by
  unfold Sh at h
  unfold needV
  split
  · have : (T - 1) * 440 ≤ 6 * 440 := Nat.mul_le_mul_right _ (by omega)
    omega
  · omega
theorem qM_len17 {m : Int} {T N C : Nat} (h : Sh m T N C) (B R : List GF) : (qM m T B R).length = rowV m T := by
  rcases h.1 with rfl | rfl
  · exact qS_len T B R
  · exact (cutQ_ok _ T).1
end Go.Proofs.YtappfdbmhgifcaaGreatDoor
/- StripeForms where the shape may be: what its walk takes (plain, and the rows and places in memory). -/
namespace Go.Proofs.YtappfdbmhgifcaaGreatDoor
open Go.ChangeShapes Go.WideShapes Go.ChangeAt Go.RowKit Go.Shelf GF
set_option linter.unusedVariables false
set_option linter.unusedSimpArgs false
set_option maxRecDepth 100000

theorem Mat.ownS17 {w : World} {base n c : Nat} {e : TypeId} {a : Option Addr} {vs : List Value} {ok : Nat → Prop} {M : List (List GF)} (h : w.ownsRow base e 1 (.slice a n c) n vs) (hv : RV w ok vs M) : Mat w a n c M := by
  obtain ⟨a', c', e, hi⟩ := Mat.own h hv
  cases e; exact hi
/-! ## The places, the first one another -/
end Go.Proofs.YtappfdbmhgifcaaGreatDoor
