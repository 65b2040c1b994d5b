/- Texts of mine, one behind the other: QK3 QH. -/
import Derived.Test.YtappfdbmhgifcaaGreatDoorZS03
import Derived.Test.YtappfdbmhgifcaaGreatDoorZS01
import Derived.Laws.AppendOwn
import Derived.Deep.AppendLies
import Derived.BigQuiet
import Derived.Test.YtappfdbmhgifcaaGreatDoorZS04
import Derived.RangeFuncNested
import Derived.RangeFuncBox
import Derived.RangeFuncCalls
import Derived.RangeFuncLeaves
import Derived.Shelf.Abstract
import Derived.Shelf.RegionOpen
import Derived.OwnWalkIn
import Derived.TacticsInMore
import Derived.LoopNIn
import Derived.LoopIn
import Derived.BigRegionIn
import Derived.Laws.Tables
import Derived.Great.FillDense
import Derived.WalkKit
import Derived.Deep.OwnRows
import Derived.Deep.RegionHeld
import Derived.Test.YtappfdbmhgifcaaGreatDoorRows
import Derived.BigRegion
import Derived.Deep.CutRange
import Derived.Deep.RegionWith
import Derived.Deep.DrawnRows
import Derived.StillTailTactics
import Derived.Deep.QuietTactic
import Derived.Lib.Hide
import Derived.OpenShut
import Derived.ProofKit
import Derived.Laws.BitsAllLaws
/- Texts of mine, one behind the other: Km Kn Kp. -/
/- Contract of the cipher's spread: the words of the round keys. -/
namespace Go.Proofs.YtappfdbmhgifcaaGreatDoor
open Go.ChangeShapes Go.WideShapes Go.ChangeAt Go.RowKit
set_option linter.unusedVariables false
set_option linter.unusedSimpArgs false
set_option maxRecDepth 100000

theorem infoW : ∃ i, Tryz.prog.info? 115 = some i ∧ i.zero = some (.int .u32 0) ∧ i.size = 1 ∧ i.bytes = 4 := ⟨_, rfl, rfl, rfl, rfl⟩
/-- The first k words. -/
def wdL (W : Nat → Nat → Nat) (k : Nat) : List Value := (List.range k).map fun j => .int .u32 ((wd (W j) : Nat) : Int)
theorem length_wdL (W : Nat → Nat → Nat) (k : Nat) : (wdL W k).length = k := by simp [wdL]
theorem wdL_succ (W : Nat → Nat → Nat) (k : Nat) : wdL W (k + 1) = wdL W k ++ [.int .u32 ((wd (W k) : Nat) : Int)] := by
  unfold wdL; rw [List.range_succ, List.map_append]; rfl
theorem wdL_congr {W V : Nat → Nat → Nat} {k : Nat} (h : ∀ j, j < k → W j = V j) : wdL W k = wdL V k := by
  unfold wdL; exact List.map_congr_left fun j hj => by rw [h j (List.mem_range.1 hj)]
theorem get_wdL {W : Nat → Nat → Nat} {k j : Nat} (h : j < k) : (wdL W k)[j]? = some (.int .u32 ((wd (W j) : Nat) : Int)) := by simp [wdL, h]
theorem own_wdL {w : World} {b n : Nat} {W : Nat → Nat → Nat} (hn : n ≤ maxLen) (h : Blk w b 115 n (fun j => .int .u32 ((wd (W j) : Nat) : Int))) : w.ownsRow b 115 1 (.slice (some ⟨b, 0, none⟩) n n) n (wdL W n) :=
  ⟨by rw [length_wdL]; omega, .inr ⟨b, n, _, rfl, Nat.le_refl _, h, Nat.le_refl _, hn, by rw [size_tabV]; omega, by show List.take (n * 1) (wdL W n) = wdL W n; rw [List.take_of_length_le (by rw [length_wdL]; omega)]⟩⟩
theorem own_wd {w : World} {base g n c : Nat} {W : Nat → Nat → Nat} (h : w.ownsRow base 115 1 (.slice (some ⟨g, 0, none⟩) n c) n (wdL W n)) {j : Nat} (hj : j < n) : w.cell? ⟨g, j, none⟩ = some (.int .u32 ((wd (W j) : Nat) : Int)) := by
  rw [h.cellAt j (by omega)]; exact get_wdL hj
theorem own_drewN {w : World} {B e size n : Nat} {v : Value} {xs : List Value} (h : w.ownsRow B e size v n xs) (q : Nat) : (w.drewN q).ownsRow B e size v n xs := h
theorem own_belowK {w w' : World} {base : Nat} {e : TypeId} {size : Nat} {v : Value} {n : Nat} {xs : List Value} (h : w.ownsRow base e size v n xs) (hb : Below w.heap.size w w') : w'.ownsRow base e size v n xs := by
  refine ⟨h.1, ?_⟩
  rcases h.2 with h2 | ⟨g, cap, cur, h1, h2, h3, h4⟩
  · exact .inl h2
  · subst h1
    exact .inr ⟨g, _, cur, rfl, h2, (hb.block g (Array.getElem?_eq_some_iff.1 h3).1).trans h3, h4⟩
theorem qdrew {P : Program} {f : FuncId} {args : Array Value} {w : World} {n : Nat} {v : Value} (h : Calls P f args (w.drewN n) fun e w' => e = .returned v ∧ ∃ q, w' = (w.drewN n).drewN q) : Calls P f args (w.drewN n) fun e w'' => e = .returned v ∧ ∃ m, w'' = w.drewN m :=
  h.mono fun _ _ ⟨he, q, hm⟩ => ⟨he, n + q, by rw [hm]; exact World.drewN_drewN _ _ _⟩
theorem turn32_8 (f : Nat → Nat) (hf : ∀ r, f r < 256) (w : World) : Calls Tryz.prog 147 #[.int .u32 ((wd f : Nat) : Int), .int .i64 8] w fun e w' => e = .returned (.int .u32 ((wd (fun r => f ((r + 1) % 4)) : Nat) : Int)) ∧ ∃ j, w' = w.drewN j := by
  have hw := wd_lt hf
  refine (turn32 ((wd f : Nat) : Int) 8 (mk32 (by omega) (by omega)) (by decide) w).mono fun e w' ⟨h1, h2⟩ => ⟨?_, h2⟩
  rw [h1]
  refine ret_int ?_
  unfold rotI
  have e1 : ((8 : Int) % ((32 : Nat) : Int)).toNat = 8 * ((4 - 3) % 4) := by decide
  rw [e1, Int.toNat_natCast, wd_rot hf (by omega)]
  rfl
theorem pow_two (b e : Nat) (w : World) (hf : Fld w b) (he : e < 255) : Calls Tryz.prog 148 #[.pointer (some ⟨b, 0, none⟩), .int .u8 2, .int .i64 (e : Nat)] w fun x w' => x = .returned (.int .u8 ((pwr 2 e : Nat) : Int)) ∧ w = w' := by
  have h := pow_N b 2 (e : Int) w hf (by omega) (by omega)
  have e1 : powN 2 (e : Int) = pwr 2 e := by
    unfold powN
    by_cases h0 : e = 0
    · subst h0; rw [if_pos (by omega), pwr_zero]
    · rw [if_neg (by omega), if_neg (by omega)]
      congr 1
      omega
  rw [e1] at h
  exact h
/-- A byte in the highest place of a word, added. -/
theorem xor_top {f : Nat → Nat} (hf : ∀ r, f r < 256) {p : Nat} (hp : p < 256) : wd f ^^^ (p * 2 ^ 24) = wd (fun r => f r ^^^ (if r = 0 then p else 0)) := by
  have hg : ∀ r, (fun r => if r = 0 then p else 0) r < 256 := fun r => by show (if r = 0 then p else 0) < 256; split <;> omega
  rw [show p * 2 ^ 24 = wd (fun r => if r = 0 then p else 0) by unfold wd; simp; omega, wd_xor hf hg]
theorem xor_shl {P y k : Nat} (hP : P < 4294967296) (hy : y < 256) (hk : k ≤ 24) : bits .xor .u32 (P : Int) ((y : Int) * 2 ^ k % 4294967296) = ((P ^^^ (y * 2 ^ k) : Nat) : Int) := by
  have h1 := pow_le24 hk
  have h2 : y * 2 ^ k < 4294967296 := Nat.lt_of_le_of_lt (Nat.mul_le_mul (show y ≤ 255 by omega) h1) (by decide)
  have e : ((y : Int) * 2 ^ k % 4294967296) = ((y * 2 ^ k : Nat) : Int) := by
    have : ((y : Int) * 2 ^ k) = ((y * 2 ^ k : Nat) : Int) := by simp
    rw [this]; omega
  rw [e, u32_xor_nat _ _ hP h2]
set_option maxHeartbeats 4000000 in
theorem spread_any (fb b o n : Nat) (ba oa c : Nat) (l : List Int) (w : World) (hf : Fld w fb) (ht : Tb w b o box) (hn : n = 4 ∨ n = 8) (hl : l.length = 4 * n) (hA : AllB l) (hb : Bs w w.heap.size (some ⟨ba, oa, none⟩) l) (hc : 4 * n ≤ c) (hcm : c ≤ 9223372036854775807) :
    Calls Tryz.prog 126 #[.pointer (some ⟨fb, 0, none⟩), .pointer (some ⟨b, o, none⟩), .slice (some ⟨ba, oa, none⟩) ((4 * n : Nat) : Nat) c] w fun e w' => ∃ g cap, e = .returned (.slice (some ⟨g, 0, none⟩) (4 * (n + 7)) cap) ∧
      w'.ownsRow w.heap.size 115 1 (.slice (some ⟨g, 0, none⟩) (4 * (n + 7)) cap) (4 * (n + 7)) (wdL (kx n (kw l) (3 * n + 28)) (4 * (n + 7))) ∧ Below w.heap.size w w' := by
  have HWO := Lib.hid (words_any ba oa n c l w hl hA hb (by omega) (by omega) hc hcm)
  have HF := Lib.hid hf
  have HT := Lib.hid ht
  have HK := Lib.hid (fun m => kx_bd n (kw_lt hA) m)
  have HI := Lib.hid infoW
  obtain ⟨K, hK⟩ : ∃ K, K = kw l := ⟨_, rfl⟩
  rw [← hK] at HWO HK ⊢
  have HN := Lib.hid hn
  have hn1 : 4 ≤ n := by omega
  have hn2 : n ≤ 8 := by omega
  have qn1 : (4 : Int) ≤ (n : Int) := by omega
  have qn2 : (n : Int) ≤ 8 := by omega
  clear hf ht hl hA hb hK hn
  obtain ⟨i32, hi32⟩ := HI.out
  have HI := Lib.hid hi32
  clear hi32
  go_enter Tryz.func126, Tryz.ntmps126
  go_wp2_with (go_at_call 145; refine HWO.out.mono ?_; rintro e w1 ⟨rfl, hk1, hb1⟩; have HK1 := Lib.hid hk1; have HB1 := Lib.hid hb1; clear hk1 hb1)
  go_loopw [7, 9] (fun v q wr => ∃ m g cap : Nat, m ≤ 3 * n + 28 ∧ q = .int .i64 ((n + m : Nat) : Int) ∧ v = .slice (some ⟨g, 0, none⟩) (n + m) cap ∧ wr.ownsRow w.heap.size 115 1 (.slice (some ⟨g, 0, none⟩) (n + m) cap) (n + m) (wdL (kx n K m) (n + m)) ∧ Below w.heap.size w wr) (fun _ q _ => 4 * (n + 7) - (intOf q).toNat)
  case atStart => exact ⟨0, _, _, by omega, rfl, rfl, own_wdL (by unfold maxLen; omega) HK1.out, HB1.out⟩
  case round =>
    obtain ⟨m, g, cap, hm, rfl, rfl, hO, hB⟩ := hrel
    have HOi := Lib.hid hO
    have HBi := Lib.hid hB
    clear hO hB HB1 HK1
    by_cases hlt : m < 3 * n + 28
    · have hp0 := own_wd HOi.out (j := n + m - 1) (by omega)
      have hm0 := own_wd HOi.out (j := m) (by omega)
      obtain ⟨p, hp⟩ : ∃ p, p = n + m - 1 := ⟨_, rfl⟩
      obtain ⟨i, hi⟩ : ∃ i, i = n + m := ⟨_, rfl⟩
      rw [← hp] at hp0
      rw [← hi] at HOi ⊢
      have qi : (i : Int) < 4 * ((n : Int) + 7) := by omega
      have qp : (i : Int) - 1 = (p : Int) := by omega
      have qm : (i : Int) - (n : Int) = (m : Int) := by omega
      have qib : (i : Int) ≤ 60 := by omega
      have qpi : (p : Int) < (i : Int) := by omega
      have qmi : (m : Int) < (i : Int) := by omega
      obtain ⟨f, hff⟩ : ∃ f, f = kx n K m p := ⟨_, rfl⟩
      have HFF := Lib.hid (show ∀ r, f r < 256 by rw [hff]; exact HK.out m p)
      have HFX := Lib.hid hff
      have HP := Lib.hid (show p = i - 1 by omega)
      have HII := Lib.hid hi
      have HLT := Lib.hid hlt
      rw [← hff] at hp0
      obtain ⟨X, hX⟩ : ∃ X, X = wd f := ⟨_, rfl⟩
      have hXl : X < 4294967296 := by rw [hX]; exact wd_lt HFF.out
      clear hff hp hi
      by_cases hr : i % n = 0
      · have qr : (i : Int).tmod (n : Int) = 0 := by rw [Int.tmod_eq_emod_of_nonneg (by omega)]; omega
        obtain ⟨e, he⟩ : ∃ e, e = i / n - 1 := ⟨_, rfl⟩
        have hdn : i / n = e + 1 ∧ e < 255 := by have := HII.out; rcases HN.out with rfl | rfl <;> omega
        have qd : (i : Int).tdiv (n : Int) = (e : Int) + 1 := by rw [Int.tdiv_eq_ediv_of_nonneg (by omega)]; omega
        have qe : (e : Int) < 255 := by omega
        have qe0 : (0 : Int) ≤ (e : Int) := by omega
        have HPW := Lib.hid (fun W (hW : Fld W fb) => pow_two fb e W hW hdn.2)
        have HTU := Lib.hid (turn32_8 f HFF.out)
        have HBW := Lib.hid (fun W (hW : Tb W b o box) => bword_N b o box box_lt (fun r => f ((r + 1) % 4)) (fun r => HFF.out _) W hW)
        obtain ⟨V, hVd⟩ : ∃ V, V = wd (tmp n i f) := ⟨_, rfl⟩
        have hV : V = wd (tmp n i f) := hVd
        have hVl : V < 4294967296 := by rw [hV]; exact wd_lt (tmp_lt _ _ HFF.out)
        obtain ⟨k, hk⟩ : ∃ k, k = 24 := ⟨_, rfl⟩
        have HSH := Lib.hid (show ∀ W, Calls Tryz.prog 143 #[.int .i64 0] W fun e w' => e = .returned (.int .i64 ((k : Nat) : Int)) ∧ W = w' from fun W => by rw [hk]; exact shift_N 0 (by omega) W)
        have hk2 : k ≤ 24 := by omega
        obtain ⟨z, hz⟩ : ∃ z, z = pwr 2 e := ⟨_, rfl⟩
        have hzl : z < 256 := by rw [hz]; exact pwr_lt _ _
        obtain ⟨Y, hY⟩ : ∃ Y, Y = wd (fun r => f ((r + 1) % 4)) := ⟨_, rfl⟩
        obtain ⟨Z, hZ⟩ : ∃ Z, Z = wd (fun r => box (f ((r + 1) % 4))) := ⟨_, rfl⟩
        have hZl : Z < 4294967296 := by rw [hZ]; exact wd_lt fun r => box_lt _
        have hxs := xor_shl hZl hzl hk2
        rw [show Z ^^^ (z * 2 ^ k) = V by
          rw [hZ, hk, xor_top (fun r => box_lt _) hzl, hV]
          congr 1
          funext r
          unfold tmp
          rw [if_pos hr, ← he, hz]] at hxs
        rw [← hz] at HPW
        rw [← hY] at HTU HBW
        rw [← hZ] at HBW
        have HWX := Lib.hid (show wdL (kx n K (m + 1)) (i + 1) = wdL (kx n K m) i ++ [.int .u32 (bits .xor .u32 ((wd (kx n K m m) : Nat) : Int) (V : Int))] by
          rw [u32_xor_nat _ _ (wd_lt (HK.out m m)) hVl, wdL_succ, wdL_congr (V := kx n K m) (fun j hj => kx_old K (by have := HII.out; omega)), hV, wd_xor (HK.out m m) (tmp_lt _ _ HFF.out), HII.out, kx_new, ← HII.out, ← HP.out, ← HFX.out])
        have HV := Lib.hid hV
        clear hV hVd
        rw [← hX] at hp0 HTU
        clear hk hz hY hZ he hdn hr hX
        go_wp2_with fail
        go_quiet (first
          | (go_at_call 147; exact qdrew (HTU.out _))
          | (go_at_call 146; exact qdrew (HBW.out _ ((HT.out.on HBi.out).drewN _)))
          | (go_at_call 148; exact qleft (HPW.out _ ((HF.out.below HBi.out).drewN _)))
          | (go_at_call 143; exact qleft (HSH.out _)))
        go_wp2_with ((with_reducible show wpList _ _ _ (⟨some 69, _, _, _, _, _⟩ :: _) _ _); go_loud (refine wpList_append_lies _ rfl (.tmp 59) (.tmp 68) 160 rfl w.heap.size 115 i32 (.int .u32 0) 1 4 Tryz.underlying160 HI.out.1 HI.out.2.1 HI.out.2.2.1 HI.out.2.2.2 rfl (by decide) _ i (wdL (kx n K m) i) rfl (own_belowK (own_drewN HOi.out _) ((Below.refl _ _).alloc (Nat.le_refl _) _)) _ 1 1 [_] rfl rfl (World.news_of_block (heap_alloc_new _ _)) (by intro u hu; cases List.mem_singleton.1 hu; rfl) (by omega) (by unfold maxLen; omega) (by omega) (by have := HBi.out.size; simp; omega) _ rfl ?_); (intro g1 c1 wc hown1 hg1 hw1 hl1; have HO1 := Lib.hid hown1; have HG1 := Lib.hid hg1; clear hown1 hg1 hw1 hl1))
        go_roundw
        case rel => exact ⟨m + 1, g1, c1, by have := HLT.out; omega, by rw [HII.out]; go_num, by rw [HII.out]; rfl, by have h := HO1.out; rw [← HWX.out, HII.out] at h; exact h, ((below_drewN HBi.out _).alloc (below_drewN HBi.out _).size _).grown HG1.out (by have := HBi.out.size; simp; omega) (fun z hz => (HOi.out.lt z hz).1)⟩
        case measure => simp [intOf]; have := HII.out; have := HLT.out; omega
      · by_cases h8 : n = 8 ∧ i % 8 = 4
        · have q8 : ((n : Int) == 8) = true := by rw [beq_iff_eq]; omega
          have q4 : (i : Int).tmod (n : Int) = 4 := by rw [Int.tmod_eq_emod_of_nonneg (by omega), h8.1]; omega
          have HBW := Lib.hid (bword_N b o box box_lt f HFF.out wr (HT.out.on HBi.out))
          obtain ⟨V, hVd⟩ : ∃ V, V = wd (tmp n i f) := ⟨_, rfl⟩
          have hV : V = wd (tmp n i f) := hVd
          have hVl : V < 4294967296 := by rw [hV]; exact wd_lt (tmp_lt _ _ HFF.out)
          rw [show wd (fun r => box (f r)) = V by
            rw [hV]
            congr 1
            funext r
            unfold tmp
            rw [if_neg hr, if_pos h8], ← hX] at HBW
          have HWX := Lib.hid (show wdL (kx n K (m + 1)) (i + 1) = wdL (kx n K m) i ++ [.int .u32 (bits .xor .u32 ((wd (kx n K m m) : Nat) : Int) (V : Int))] by
            rw [u32_xor_nat _ _ (wd_lt (HK.out m m)) hVl, wdL_succ, wdL_congr (V := kx n K m) (fun j hj => kx_old K (by have := HII.out; omega)), hV, wd_xor (HK.out m m) (tmp_lt _ _ HFF.out), HII.out, kx_new, ← HII.out, ← HP.out, ← HFX.out])
          have HV := Lib.hid hV
          clear hV hVd
          rw [← hX] at hp0
          clear hr hX h8
          go_wp2_with (first
              | (go_at_call 146; refine HBW.out.mono ?_; rintro e wq ⟨rfl, nq, hwq⟩; subst hwq)
              | ((with_reducible show wpList _ _ _ (⟨some 69, _, _, _, _, _⟩ :: _) _ _); go_loud (refine wpList_append_lies _ rfl (.tmp 59) (.tmp 68) 160 rfl w.heap.size 115 i32 (.int .u32 0) 1 4 Tryz.underlying160 HI.out.1 HI.out.2.1 HI.out.2.2.1 HI.out.2.2.2 rfl (by decide) _ i (wdL (kx n K m) i) rfl (own_belowK (own_drewN HOi.out _) ((Below.refl _ _).alloc (Nat.le_refl _) _)) _ 1 1 [_] rfl rfl (World.news_of_block (heap_alloc_new _ _)) (by intro u hu; cases List.mem_singleton.1 hu; rfl) (by omega) (by unfold maxLen; omega) (by omega) (by have := HBi.out.size; simp; omega) _ rfl ?_); (intro g1 c1 wc hown1 hg1 hw1 hl1; have HO1 := Lib.hid hown1; have HG1 := Lib.hid hg1; clear hown1 hg1 hw1 hl1)))
          go_roundw
          case rel => exact ⟨m + 1, g1, c1, by have := HLT.out; omega, by rw [HII.out]; go_num, by rw [HII.out]; rfl, by have h := HO1.out; rw [← HWX.out, HII.out] at h; exact h, ((below_drewN HBi.out _).alloc (below_drewN HBi.out _).size _).grown HG1.out (by have := HBi.out.size; simp; omega) (fun z hz => (HOi.out.lt z hz).1)⟩
          case measure => simp [intOf]; have := HII.out; have := HLT.out; omega
        · by_cases hn8 : n = 8
          · have q8 : ((n : Int) == 8) = true := by rw [beq_iff_eq]; omega
            obtain ⟨d, hd⟩ : ∃ d, d = i % n := ⟨_, rfl⟩
            have qt : (i : Int).tmod (n : Int) = (d : Int) := by rw [Int.tmod_eq_emod_of_nonneg (by omega), hd]; omega
            have qd0 : ((d : Int) == 0) = false := by rw [beq_eq_false_iff_ne]; omega
            have qd4 : ((d : Int) == 4) = false := by rw [beq_eq_false_iff_ne]; rw [hn8] at hd; omega
            have hV : X = wd (tmp n i f) := by
              rw [hX]
              congr 1
              funext r
              unfold tmp
              rw [if_neg hr, if_neg h8]
            have hVl := hXl
            have HWX := Lib.hid (show wdL (kx n K (m + 1)) (i + 1) = wdL (kx n K m) i ++ [.int .u32 (bits .xor .u32 ((wd (kx n K m m) : Nat) : Int) (X : Int))] by
              rw [u32_xor_nat _ _ (wd_lt (HK.out m m)) hVl, wdL_succ, wdL_congr (V := kx n K m) (fun j hj => kx_old K (by have := HII.out; omega)), hV, wd_xor (HK.out m m) (tmp_lt _ _ HFF.out), HII.out, kx_new, ← HII.out, ← HP.out, ← HFX.out])
            have HV := Lib.hid hV
            clear hV
            rw [← hX] at hp0
            clear hr hX h8 hn8 hd
            go_wp2_with ((with_reducible show wpList _ _ _ (⟨some 69, _, _, _, _, _⟩ :: _) _ _); go_loud (refine wpList_append_lies _ rfl (.tmp 59) (.tmp 68) 160 rfl w.heap.size 115 i32 (.int .u32 0) 1 4 Tryz.underlying160 HI.out.1 HI.out.2.1 HI.out.2.2.1 HI.out.2.2.2 rfl (by decide) _ i (wdL (kx n K m) i) rfl (own_belowK (HOi.out) ((Below.refl _ _).alloc (Nat.le_refl _) _)) _ 1 1 [_] rfl rfl (World.news_of_block (heap_alloc_new _ _)) (by intro u hu; cases List.mem_singleton.1 hu; rfl) (by omega) (by unfold maxLen; omega) (by omega) (by have := HBi.out.size; simp; omega) _ rfl ?_); (intro g1 c1 wc hown1 hg1 hw1 hl1; have HO1 := Lib.hid hown1; have HG1 := Lib.hid hg1; clear hown1 hg1 hw1 hl1))
            go_roundw
            case rel => exact ⟨m + 1, g1, c1, by have := HLT.out; omega, by rw [HII.out]; go_num, by rw [HII.out]; rfl, by have h := HO1.out; rw [← HWX.out, HII.out] at h; exact h, ((HBi.out).alloc (HBi.out).size _).grown HG1.out (by have := HBi.out.size; simp; omega) (fun z hz => (HOi.out.lt z hz).1)⟩
            case measure => simp [intOf]; have := HII.out; have := HLT.out; omega
          · have q8 : ((n : Int) == 8) = false := by rw [beq_eq_false_iff_ne]; omega
            have qr : ((i : Int) % (n : Int) == 0) = false := by rw [beq_eq_false_iff_ne]; omega
            have hV : X = wd (tmp n i f) := by
              rw [hX]
              congr 1
              funext r
              unfold tmp
              rw [if_neg hr, if_neg h8]
            have hVl := hXl
            have HWX := Lib.hid (show wdL (kx n K (m + 1)) (i + 1) = wdL (kx n K m) i ++ [.int .u32 (bits .xor .u32 ((wd (kx n K m m) : Nat) : Int) (X : Int))] by
              rw [u32_xor_nat _ _ (wd_lt (HK.out m m)) hVl, wdL_succ, wdL_congr (V := kx n K m) (fun j hj => kx_old K (by have := HII.out; omega)), hV, wd_xor (HK.out m m) (tmp_lt _ _ HFF.out), HII.out, kx_new, ← HII.out, ← HP.out, ← HFX.out])
            have HV := Lib.hid hV
            clear hV
            rw [← hX] at hp0
            clear hr hX h8 hn8
            go_wp2_with ((with_reducible show wpList _ _ _ (⟨some 69, _, _, _, _, _⟩ :: _) _ _); go_loud (refine wpList_append_lies _ rfl (.tmp 59) (.tmp 68) 160 rfl w.heap.size 115 i32 (.int .u32 0) 1 4 Tryz.underlying160 HI.out.1 HI.out.2.1 HI.out.2.2.1 HI.out.2.2.2 rfl (by decide) _ i (wdL (kx n K m) i) rfl (own_belowK (HOi.out) ((Below.refl _ _).alloc (Nat.le_refl _) _)) _ 1 1 [_] rfl rfl (World.news_of_block (heap_alloc_new _ _)) (by intro u hu; cases List.mem_singleton.1 hu; rfl) (by omega) (by unfold maxLen; omega) (by omega) (by have := HBi.out.size; simp; omega) _ rfl ?_); (intro g1 c1 wc hown1 hg1 hw1 hl1; have HO1 := Lib.hid hown1; have HG1 := Lib.hid hg1; clear hown1 hg1 hw1 hl1))
            go_roundw
            case rel => exact ⟨m + 1, g1, c1, by have := HLT.out; omega, by rw [HII.out]; go_num, by rw [HII.out]; rfl, by have h := HO1.out; rw [← HWX.out, HII.out] at h; exact h, ((HBi.out).alloc (HBi.out).size _).grown HG1.out (by have := HBi.out.size; simp; omega) (fun z hz => (HOi.out.lt z hz).1)⟩
            case measure => simp [intOf]; have := HII.out; have := HLT.out; omega
    · obtain rfl : m = 3 * n + 28 := by omega
      rw [show n + (3 * n + 28) = 4 * (n + 7) by omega] at HOi ⊢
      obtain ⟨i, hi⟩ : ∃ i, i = 4 * (n + 7) := ⟨_, rfl⟩
      have qi : (i : Int) = 4 * ((n : Int) + 7) := by omega
      have qn : ((i : Int) < 4 * ((n : Int) + 7)) = False := by rw [qi]; simp
      have qib : (i : Int) ≤ 60 := by omega
      rw [← hi] at HOi ⊢
      have HII := Lib.hid hi
      clear hi qi
      go_wp2
      go_ret
      exact ⟨_, _, by rw [← HII.out]; rfl, by rw [← HII.out]; exact HOi.out, HBi.out⟩
end Go.Proofs.YtappfdbmhgifcaaGreatDoor
/- slices.Chunk over words, four at a time: the contract of its iterator. -/
namespace Go.Proofs.YtappfdbmhgifcaaGreatDoor
open Go.ChangeShapes Go.WideShapes Go.ChangeAt Go.RowKit Go.Shelf
set_option linter.unusedVariables false
set_option maxRecDepth 100000
attribute [local go_sem] Oper.semAt_some

/-- What a round is handed: four of the words. -/
def cItv (g : Nat) {len : Nat} (x : Fin len) : Array Value := #[.slice (some ⟨g, 4 * x.1, none⟩) 4 4]
/-- The boxes hold the slice and the 4. -/
def cRd (Bx By g len cap : Nat) (W : World) : Prop :=
  W.cell? ⟨Bx, 0, none⟩ = some (.slice (some ⟨g, 0, none⟩) (4 * len) cap) ∧ W.cell? ⟨By, 0, none⟩ = some (.int .i64 4)
/-- What has come: the first ones, in their order. -/
def cBk (len : Nat) (pre : List (Fin len)) : Prop := pre.length ≤ len ∧ ∀ k (h : k < pre.length), (pre[k]).1 = k
theorem cBk.nil (len : Nat) : cBk len [] := ⟨Nat.zero_le _, fun k h => by simp at h⟩
theorem cBk.snoc {len : Nat} {pre : List (Fin len)} (h : cBk len pre) (x : Fin len) (hx : x.1 = pre.length) : cBk len (pre ++ [x]) := by
  refine ⟨by have := x.2; simp; omega, fun k hk => ?_⟩
  by_cases e : k < pre.length
  · rw [List.getElem_append_left e]; exact h.2 k e
  · have e2 : k = pre.length := by simp at hk; omega
    subst e2
    rw [List.getElem_append_right (Nat.le_refl _)]
    simp only [Nat.sub_self, List.getElem_cons_zero]
    exact hx
set_option maxHeartbeats 2000000 in
theorem chunk1_in (F : Fence) (n : Nat) (hF : F.fn 144) (hro : F.round = none) (hn : 1 ≤ n) (l Bx By g len cap : Nat) (hlen : 4 * len ≤ cap) (hcap : cap ≤ 9223372036854775807) (J Jx : List (Fin len) → World → Prop) (hJd : ∀ pre W, J pre W → J pre W.drew)
    (hY : ∀ pre x W, J pre W → pre.length < len → YieldAt F (n - 1) Tryz.prog l (cItv g x) W fun e W' =>
      (e = .returned (.bool true) ∧ J (pre ++ [x]) W' ∧ (cRd Bx By g len cap W → cRd Bx By g len cap W')) ∨ (e = .returned (.bool false) ∧ Jx (pre ++ [x]) W'))
    (W : World) (hR0 : cRd Bx By g len cap W) (h0 : J [] W) :
    CallsIn F n Tryz.prog 144 #[.func (.yield l) #[] #[], .pointer (some ⟨Bx, 0, none⟩), .pointer (some ⟨By, 0, none⟩)] W fun e W' => (∃ v, e = .returned v) ∧
      ((∃ ys, (ys.length = len ∧ cBk len ys) ∧ J ys W') ∨ (∃ pre, cBk len pre ∧ Jx pre W')) := by
  refine callsIn_of_wp Tryz.func144 rfl hF ?_ hro
  simp only [Tryz.ntmps144, List.size_toArray, List.length_cons, List.length_nil, Nat.reduceAdd, Nat.reduceSub, Array.replicate_succ, Array.replicate_zero, List.push_toArray, List.append_toArray, List.nil_append, List.cons_append]
  gi_wp2
  gi_loopw [4] (fun i wr => ∃ (j : Nat) (pre : List (Fin len)), pre.length = j ∧ cBk len pre ∧ i = .int .i64 ((4 * j : Nat) : Int) ∧ J pre wr ∧ cRd Bx By g len cap wr)
    (fun i _ => 4 * len - (intOf i).toNat)
  case atStart => exact ⟨0, [], rfl, cBk.nil _, rfl, h0, hR0⟩
  case round =>
    obtain ⟨j, pre, hpl, hbk, rfl, hJs, hRd⟩ := hrel
    have hbx := hRd.1
    have hby := hRd.2
    by_cases hlt : j < len
    · have hjl : j < len := hlt
      obtain ⟨fn, tmps, assign, body, hy, hR⟩ := hY pre ⟨j, hjl⟩ wr.drew (hJd _ _ hJs) (by omega)
      dsimp only [cItv] at hy
      have hk := hbk.snoc ⟨j, hjl⟩ (by show j = _; omega)
      obtain ⟨q, hq⟩ : ∃ q, q = 4 * j := ⟨_, rfl⟩
      obtain ⟨N, hN⟩ : ∃ N, N = 4 * len := ⟨_, rfl⟩
      rw [← hq] at hy ⊢
      rw [← hN] at hbx
      have q1 : (q : Int) < (N : Int) := by omega
      have q2 : (0 : Int) ≤ (q : Int) := by omega
      have q3 : q + 4 ≤ N := by omega
      have q4 : (q : Int) + 4 ≤ (N : Int) := by omega
      have q5 : (N : Int) ≤ (cap : Int) := by omega
      have q6 : (cap : Int) ≤ 9223372036854775807 := by omega
      have q7 : q ≤ N := by omega
      have q8 : ¬ (((N - q : Nat) : Int) < 4) := by omega
      have q9 : (((N - q : Nat) : Int) < 4) = False := by simp; omega
      have q10 : (cap = q) = False := by simp; omega
      have HQ := Lib.hid hq
      have HN := Lib.hid hN
      have HK := Lib.hid hk
      clear hq hN hk
      gi_wp2
      gi_region
      all_goals gi_wp2
      all_goals
        refine hR.mono ?_
        rintro e W3 (⟨rfl, hJ3, hk3⟩ | ⟨rfl, hJx3⟩)
        · have hby3 := (hk3 hRd).2
          gi_wp2
          go_roundw
          case rel => exact ⟨j + 1, _, by simp; omega, HK.out, congrArg (Value.int .i64) (by have := HQ.out; omega), hJ3, hk3 hRd⟩
          case measure => simp [intOf]; have := HQ.out; omega
        · gi_wp2
          refine bodyPost_ret (results_none rfl _ _ _) rfl ?_
          exact ⟨⟨_, rfl⟩, .inr ⟨_, HK.out, hJx3⟩⟩
    · obtain rfl : j = len := by have := hbk.1; omega
      obtain ⟨N, hN⟩ : ∃ N, N = 4 * j := ⟨_, rfl⟩
      rw [← hN] at hbx ⊢
      have HN := Lib.hid hN
      clear hN
      gi_wp2
      go_end0
      exact ⟨⟨_, rfl⟩, .inl ⟨pre, ⟨hpl, hbk⟩, hJs⟩⟩
theorem chunk_any (a : Option Addr) (len cap : Nat) (w : World) :
    Calls Tryz.prog 125 #[.slice a len cap, .int .i64 4] w fun e w' => e = .returned (.func (.func 144) #[] #[.pointer (some ⟨w.heap.size, 0, none⟩), .pointer (some ⟨w.heap.size + 1, 0, none⟩)]) ∧
      w' = (w.alloc (.cells #[.slice a len cap] 160)).alloc (.cells #[.int .i64 4] 3) := by
  go_enter Tryz.func125, Tryz.ntmps125
  go_wp2
  go_ret
  exact ⟨by simp, rfl⟩
theorem cRd.on {W W' : World} {Bx By g len cap : Nat} (h : cRd Bx By g len cap W) {B : Nat} (hb : Below B W W') (h1 : Bx < B) (h2 : By < B) : cRd Bx By g len cap W' :=
  ⟨(hb.cell (p := ⟨Bx, 0, none⟩) h1).trans h.1, (hb.cell (p := ⟨By, 0, none⟩) h2).trans h.2⟩
theorem chunk_stops (F : Fence) (n : Nat) (hF : F.fn 144) (hro : F.round = none) (hn : 1 ≤ n) (Bx By g len cap : Nat) (hlen : 4 * len ≤ cap) (hcap : cap ≤ 9223372036854775807) (w : World)
    (hBx : Bx < w.heap.size) (hBy : By < w.heap.size) (hR : cRd Bx By g len cap w) :
    SeqStopsK F n Tryz.prog 144 #[.pointer (some ⟨Bx, 0, none⟩), .pointer (some ⟨By, 0, none⟩)] (cItv g (len := len)) (fun W W' => cRd Bx By g len cap W → cRd Bx By g len cap W') (fun ys => ys.length = len ∧ cBk len ys) (cBk len) len w := fun l J Jx W hW hJ _ hY h0 =>
  chunk1_in F n hF hro hn l Bx By g len cap hlen hcap J Jx (fun pre W h => hJ pre W W.drew none h (drew_but W none) (fun _ e => by cases e)) hY W (hR.on hW hBx hBy) h0
end Go.Proofs.YtappfdbmhgifcaaGreatDoor
/- Contract of the cipher's New (written by gen21.py). -/
namespace Go.Proofs.YtappfdbmhgifcaaGreatDoor
open Go.ChangeShapes Go.WideShapes Go.ChangeAt Go.RowKit Go.Shelf
set_option linter.unusedVariables false
set_option linter.unusedSimpArgs false
set_option maxRecDepth 100000
attribute [local go_sem] Oper.semAt_some
attribute [local go_sem ↓] Go.wp_at_zero Go.wp_at_succ

/-- A cipher's cells, ahead of its keys and of the way back. -/
def cipC (B P Q : Nat → Value) (j : Nat) : Value := if j = 0 then .slice none 0 0 else if j < 257 then B (j - 1) else if j < 513 then .int .u8 0 else if j < 769 then P (j - 513) else Q (j - 769)
def cipZ (j : Nat) : Value := if j = 0 then .slice none 0 0 else if j < 513 then .int .u8 0 else .int .u32 0
theorem infoCip : (Tryz.prog.info? 155).map (fun i => i.zero) = some (some (.agg (tabV 1025 cipZ))) := by kernel_rfl
theorem placesCip : (Tryz.prog.underlying 155).bind (fun d => match d with | .struct fs => fs.toList.mapM (fun f => (Tryz.prog.info? f.type).map fun i => (f.offset, i.size)) | _ => none) = some [(0, 1), (1, 256), (257, 256), (513, 256), (769, 256)] := by kernel_rfl
theorem get_tabV_if (n : Nat) (g : Nat → Value) (k : Nat) : (tabV n g)[k]? = if k < n then some (g k) else none := by
  by_cases h : k < n
  · rw [if_pos h, get_tabV h]
  · rw [if_neg h, Array.getElem?_eq_none (by rw [size_tabV]; omega)]
/-- 256 cells go in from 'off' on. -/
theorem fill_step (off : Nat) (B : Nat → Value) (g : Nat → Value) (h : off + 256 ≤ 1025) : (tabV 256 B).toList.zipIdx.foldl (fun cs (x : Value × Nat) => cs.setIfInBounds (off + x.2) x.1) (tabV 1025 g) = tabV 1025 (fun j => if off ≤ j ∧ j < off + 256 then B (j - off) else g j) := by
  obtain ⟨_, h2⟩ := Great.foldl_set off (tabV 256 B).toList 0 (tabV 1025 g)
  apply Array.ext_getElem?
  intro k
  rw [h2 k, get_tabV_if, get_tabV_if, Array.length_toList, size_tabV, size_tabV]
  by_cases e : off ≤ k ∧ k < off + 256
  · rw [if_pos (by omega), if_pos (by omega), if_pos e, Array.getElem?_toList, get_tabV_if, if_pos (by omega), Nat.add_zero]
  · rw [if_neg (by omega), if_neg e]
theorem fill_stepA (off : Nat) (B : Nat → Value) (T : Array Value) (hT : T = tabV 256 B) (g : Nat → Value) (h : off + 256 ≤ 1025) : Array.foldl (fun cs (x : Value × Nat) => cs.setIfInBounds (off + x.snd) x.fst) (tabV 1025 g) T.zipIdx = tabV 1025 (fun j => if off ≤ j ∧ j < off + 256 then B (j - off) else g j) := by
  subst hT
  rw [← Array.foldl_toList, Array.toList_zipIdx]
  exact fill_step off B g h
theorem cip_built (B P Q : Nat → Value) : Tryz.prog.built 155 [(1, .agg (tabV 256 B)), (3, .agg (tabV 256 P)), (4, .agg (tabV 256 Q))] = some (tabV 1025 (cipC B P Q)) := by
  have h1 := infoCip
  have h2 := placesCip
  unfold Program.built
  cases hi : Tryz.prog.info? 155 with
  | none => rw [hi] at h1; cases h1
  | some it =>
    cases hu : Tryz.prog.underlying 155 with
    | none => rw [hu] at h2; cases h2
    | some d =>
      rw [hi] at h1
      rw [hu] at h2
      simp only [Option.map_some, Option.some.injEq, Option.bind_some] at h1 h2
      cases d <;> first | (cases h2; done) | skip
      simp only at h2
      simp only [h1, h2]
      simp only [Instr.fill]
      have e1 : (#[(0, 1), (1, 256), (257, 256), (513, 256), (769, 256)] : Array (Nat × Nat))[1]? = some (1, 256) := rfl
      have e3 : (#[(0, 1), (1, 256), (257, 256), (513, 256), (769, 256)] : Array (Nat × Nat))[3]? = some (513, 256) := rfl
      have e4 : (#[(0, 1), (1, 256), (257, 256), (513, 256), (769, 256)] : Array (Nat × Nat))[4]? = some (769, 256) := rfl
      rw [e1, e3, e4]
      have sB := size_tabV 256 B
      have sP := size_tabV 256 P
      have sQ := size_tabV 256 Q
      obtain ⟨TB, hB⟩ : ∃ T, T = tabV 256 B := ⟨_, rfl⟩
      obtain ⟨TP, hP⟩ : ∃ T, T = tabV 256 P := ⟨_, rfl⟩
      obtain ⟨TQ, hQ⟩ : ∃ T, T = tabV 256 Q := ⟨_, rfl⟩
      rw [← hB] at sB ⊢
      rw [← hP] at sP ⊢
      rw [← hQ] at sQ ⊢
      simp only [Value.cells, fill_stepA 1 B TB hB cipZ (by omega), sB, sP, sQ, size_tabV]
      simp only [Nat.reduceAdd, ne_eq, not_true_eq_false, decide_false, gt_iff_lt, Nat.reduceLT, Nat.lt_irrefl, Bool.or_self, Bool.false_eq_true, if_false]
      rw [fill_stepA 513 P TP hP _ (by omega), fill_stepA 769 Q TQ hQ _ (by omega)]
      simp only [size_tabV, Nat.reduceAdd, ne_eq, not_true_eq_false, decide_false, gt_iff_lt, Nat.reduceLT, Nat.lt_irrefl, Bool.or_self, Bool.false_eq_true, if_false]
      refine congrArg some (tabV_congr fun j hj => ?_)
      unfold cipC cipZ
      by_cases j0 : j = 0
      · rw [if_neg (by omega), if_neg (by omega), if_neg (by omega), if_pos j0, if_pos j0]
      · rw [if_neg j0, if_neg j0]
        by_cases j1 : j < 257
        · rw [if_neg (by omega), if_neg (by omega), if_pos (by omega), if_pos j1]
        · rw [if_neg j1]
          by_cases j2 : j < 513
          · rw [if_neg (by omega), if_neg (by omega), if_neg (by omega), if_pos j2, if_pos j2]
          · rw [if_neg j2, if_neg j2]
            by_cases j3 : j < 769
            · rw [if_neg (by omega), if_pos (by omega), if_pos j3]
            · rw [if_pos (by omega), if_neg j3]
theorem by2 : (tabV 4 fun j => Value.int .u8 ((m2 j : Nat) : Int)) = #[.int .u8 2, .int .u8 1, .int .u8 1, .int .u8 3] := by kernel_rfl
theorem by14 : (tabV 4 fun j => Value.int .u8 ((m14 j : Nat) : Int)) = #[.int .u8 14, .int .u8 9, .int .u8 13, .int .u8 11] := by kernel_rfl
/-- The cipher's cells when it has the way back; its keys are a value. -/
def cipK (v : Value) (j : Nat) : Value := if j = 0 then v else if j < 257 then .int .u8 ((box (j - 1) : Nat) : Int) else if j < 513 then .int .u8 ((bxb (j - 257) : Nat) : Int) else if j < 769 then .int .u32 ((prt m2 (j - 513) : Nat) : Int) else .int .u32 ((prt m14 (j - 769) : Nat) : Int)
theorem cell_set_but (w : World) (b o : Nat) (v : Value) : w.grownBy (w.setCell ⟨b, o, none⟩ v) (some b) := ⟨rfl, rfl, rfl, by simp, fun k _ hk => heap_setCell_other w ⟨b, o, none⟩ k v (fun e => hk (by rw [e]))⟩
theorem sets_but (b : Nat) : ∀ (vs : List Value) (o : Nat) (w : World), w.grownBy (w.setCells b o vs) (some b)
  | [], _, w => ⟨rfl, rfl, rfl, Nat.le_refl _, fun _ _ _ => rfl⟩
  | v :: r, o, w => by rw [World.setCells]; exact (cell_set_but w b o v).trans (sets_but b r (o + 1) _)
theorem Blk.sets {b n : Nat} {T : TypeId} : ∀ (vs : List Value) (o : Nat) {w : World} {g : Nat → Value} (h : Nat → Value), Blk w b T n g → o + vs.length ≤ n → (∀ j, j < n → h j = if o ≤ j ∧ j < o + vs.length then vs.getD (j - o) undef else g j) → Blk (w.setCells b o vs) b T n h
  | [], o, w, g, h, hk, hn, hh => hk.congr fun j hj => by rw [hh j hj, if_neg (by simp)]
  | v :: r, o, w, g, h, hk, hn, hh => by
    rw [World.setCells]
    simp only [List.length_cons] at hn hh
    refine Blk.sets r (o + 1) h (hk.set (show o < n by omega) v) (by omega) (fun j hj => ?_)
    rw [hh j hj]
    by_cases e : j = o
    · subst e; simp; intro h1; omega
    · by_cases e2 : o + 1 ≤ j ∧ j < o + 1 + r.length
      · rw [if_pos (by omega), if_pos e2, show j - o = (j - (o + 1)) + 1 by omega]; rfl
      · rw [if_neg (by omega), if_neg e2, if_neg e]
theorem Blk.there {w : World} {b n : Nat} {T : TypeId} {g : Nat → Value} (h : Blk w b T n g) {o m : Nat} (hm : o + m ≤ n) : w.there b o m := fun j hj => ⟨by rw [h.cell (show o + j < n by omega)]; rfl, h.free _⟩
theorem cipC_tb {w : World} {b : Nat} {T : TypeId} {P Q : Nat → Value} (h : Blk w b T 1025 (cipC (fun j => .int .u8 ((box j : Nat) : Int)) P Q)) : Tb w b 1 box := ⟨h.lt, fun j hj => by
  rw [h.cell (show 1 + j < 1025 by omega)]
  unfold cipC
  rw [if_neg (by omega), if_pos (by omega), show 1 + j - 1 = j by omega]⟩
/-- The way back laid into the cipher. -/
theorem cipC_back {w : World} {b : Nat} {T : TypeId} (h : Blk w b T 1025 (cipC (fun j => .int .u8 ((box j : Nat) : Int)) (fun j => .int .u32 ((prt m2 j : Nat) : Int)) (fun j => .int .u32 ((prt m14 j : Nat) : Int)))) {TU : Array Value} (hU : TU = tabV 256 fun j => .int .u8 ((bxb j : Nat) : Int)) : Blk (w.setCells b 257 TU.toList) b T 1025 (cipK (.slice none 0 0)) := by
  have hl : TU.toList.length = 256 := by rw [Array.length_toList, hU, size_tabV]
  refine Blk.sets TU.toList 257 _ h (by omega) (fun j hj => ?_)
  rw [hl]
  unfold cipK cipC
  by_cases j0 : j = 0
  · rw [if_pos j0, if_neg (by omega), if_pos j0]
  · rw [if_neg j0]
    by_cases j1 : j < 257
    · rw [if_pos j1, if_neg (by omega), if_neg j0, if_pos j1]
    · rw [if_neg j1]
      by_cases j2 : j < 513
      · rw [if_pos j2, if_pos (by omega), List.getD_eq_getElem?_getD, Array.getElem?_toList, hU, get_tabV (by omega)]; rfl
      · rw [if_neg j2]
        by_cases j3 : j < 769
        · rw [if_pos j3, if_neg (by omega), if_neg j0, if_neg j1, if_neg j2]
        · rw [if_neg j3, if_neg (by omega), if_neg j0, if_neg j1, if_neg j2]
theorem cipK_set {w : World} {b : Nat} {T : TypeId} {v : Value} (h : Blk w b T 1025 (cipK v)) (v' : Value) : Blk (w.setCell ⟨b, 0, none⟩ v') b T 1025 (cipK v') := (h.set (by omega) v').congr fun j hj => by
  unfold cipK
  by_cases e : j = 0
  · rw [if_pos e, if_pos e]
  · rw [if_neg e, if_neg e, if_neg e]
theorem cipK_cell {w : World} {b : Nat} {T : TypeId} {v : Value} (h : Blk w b T 1025 (cipK v)) : w.cell? ⟨b, 0, none⟩ = some v := by
  rw [h.cell (by omega)]; rfl
theorem cipK_tabs {w : World} {b : Nat} {T : TypeId} {v : Value} (h : Blk w b T 1025 (cipK v)) : Tb w b 1 box ∧ Tb w b 257 bxb ∧ Tp w b 513 (prt m2) ∧ Tp w b 769 (prt m14) := by
  refine ⟨⟨h.lt, fun j hj => ?_⟩, ⟨h.lt, fun j hj => ?_⟩, ⟨h.lt, fun j hj => ?_⟩, ⟨h.lt, fun j hj => ?_⟩⟩
  · rw [h.cell (show 1 + j < 1025 by omega)]; unfold cipK
    rw [if_neg (by omega), if_pos (by omega), show 1 + j - 1 = j by omega]
  · rw [h.cell (show 257 + j < 1025 by omega)]; unfold cipK
    rw [if_neg (by omega), if_neg (by omega), if_pos (by omega), show 257 + j - 257 = j by omega]
  · rw [h.cell (show 513 + j < 1025 by omega)]; unfold cipK
    rw [if_neg (by omega), if_neg (by omega), if_neg (by omega), if_pos (by omega), show 513 + j - 513 = j by omega]
  · rw [h.cell (show 769 + j < 1025 by omega)]; unfold cipK
    rw [if_neg (by omega), if_neg (by omega), if_neg (by omega), if_neg (by omega), show 769 + j - 769 = j by omega]
/-- The cells of the first k round keys. -/
def sqs (W : Nat → Nat → Nat) (k : Nat) : List Value := (List.range (4 * k)).map fun q => sqc (rk W (q / 4)) (q % 4)
theorem length_sqL4 (S : Nat → Nat → Nat) : (sqL4 S).length = 4 := by simp [sqL4]
theorem sqs_succ (W : Nat → Nat → Nat) (k : Nat) : sqs W (k + 1) = sqs W k ++ sqL4 (rk W k) := by
  unfold sqs sqL4
  rw [show 4 * (k + 1) = 4 * k + 4 by omega, List.range_add, List.map_append, List.map_map]
  congr 1
  refine List.map_congr_left fun i hi => ?_
  have hi4 : i < 4 := List.mem_range.1 hi
  show sqc (rk W ((4 * k + i) / 4)) ((4 * k + i) % 4) = _
  rw [show (4 * k + i) / 4 = k by omega, show (4 * k + i) % 4 = i by omega]
theorem get_sqs (W : Nat → Nat → Nat) {k j i : Nat} (hj : j < k) (hi : i < 4) : (sqs W k)[4 * j + i]? = some (sqc (rk W j) i) := by
  unfold sqs
  rw [List.getElem?_map, List.getElem?_range (by omega)]
  show some (sqc (rk W ((4 * j + i) / 4)) ((4 * j + i) % 4)) = _
  rw [show (4 * j + i) / 4 = j by omega, show (4 * j + i) % 4 = i by omega]
theorem get_sqL4 {S : Nat → Nat → Nat} {i : Nat} {u : Value} (h : (sqL4 S)[i]? = some u) : i < 4 ∧ u = sqc S i := by
  have hi : i < 4 := by have := (List.getElem?_eq_some_iff.1 h).1; rwa [length_sqL4] at this
  refine ⟨hi, ?_⟩
  simp [sqL4, hi] at h
  exact h.symm
/-- All parts make a cipher. -/
theorem cip_of {w : World} {b n base : Nat} {T : TypeId} {v : Value} {W : Nat → Nat → Nat} (h : Blk w b T 1025 (cipK v)) (ho : w.ownsRow base 164 4 v (n + 1) (sqs W (n + 1))) : Cip w b n W := by
  obtain ⟨t1, t2, t3, t4⟩ := cipK_tabs h
  have hc := cipK_cell h
  obtain ⟨g, cap, rfl, _, hg⟩ := ho.form (by omega)
  have hcap : n + 1 ≤ cap ∧ cap ≤ maxLen := by
    rcases ho.2 with ⟨h1, _⟩ | ⟨g', cap', cur, h1, _, _, h4, h5, _⟩
    · cases h1
    · cases h1; exact ⟨h4, h5⟩
  refine ⟨g, cap, hg, hcap.1, by have := hcap.2; unfold maxLen at this; omega, hc, fun j hj i u hu => ?_, t1, t2, t3, t4⟩
  obtain ⟨hi, rfl⟩ := get_sqL4 hu
  have := ho.cells (g := g) rfl (4 * j + i) _ (get_sqs W (show j < n + 1 by omega) hi)
  rwa [show (⟨g, 0, none⟩ : Addr).add (4 * j + i) = ⟨g, 4 * j + i, none⟩ by unfold Addr.add; split <;> simp_all] at this
theorem own_noncell {w w' : World} {base size : Nat} {e : TypeId} {v : Value} {n : Nat} {xs : List Value} {row : Option Nat} (h : w.ownsRow base e size v n xs) (hg : w.grownBy w' row) (hr : ∀ r, row = some r → ∃ o : Obj, w.heap[r]? = some o ∧ o.isCells = false) : w'.ownsRow base e size v n xs := by
  refine h.kept hg ?_
  rcases h.2 with ⟨h2, _⟩ | ⟨g, cap, cur, h1, h2, h3, h4⟩
  · left; rw [h2]; rfl
  · right
    intro e1
    subst h1
    obtain ⟨o, ho, hc⟩ := hr g e1.symm
    rw [h3] at ho
    cases ho
    cases hc
theorem keeps_own {w w' : World} {B base size : Nat} {e : TypeId} {v : Value} {n : Nat} {xs : List Value} (h : w.ownsRow base e size v n xs) (hg : w.grownBy w' v.ownBlock) : KeepsFrom B w w' :=
  ⟨hg.size, fun k o _ hk ho => (hg.block k (Array.getElem?_eq_some_iff.1 hk).1 (fun e1 => by
    rcases h.2 with ⟨h2, _⟩ | ⟨g, cap, cur, h1, h2, h3, h4⟩
    · rw [h2] at e1; cases e1
    · rw [h1] at e1
      cases e1
      rw [h3] at hk
      cases hk
      cases ho)).trans hk⟩
theorem sq_fill (a b c d p q r s : Value) : Instr.fill (fun i => some (i * 4, 4)) #[p, q, r, s] [(0, .agg #[a, b, c, d])] = some #[a, b, c, d] := by
  simp [Instr.fill, Value.cells]
theorem sqInfo : ∃ i : TypeInfo, Tryz.prog.info? 164 = some i ∧ i.zero = some (.agg noSq) ∧ i.size = 4 ∧ i.bytes = 16 := ⟨_, rfl, by kernel_rfl, rfl, rfl⟩
theorem cRd.put {W : World} {Bx By g len cap l : Nat} {x : Obj} (h : cRd Bx By g len cap W) (x' : Obj) (hl : W.heap[l]? = some x) (hx : x.isCells = false) : cRd Bx By g len cap (W.putObj l x') :=
  ⟨cell_kept h.1 (grownBy_putObj' W l x') (fun r e => by cases e; exact ⟨x, hl, hx⟩), cell_kept h.2 (grownBy_putObj' W l x') (fun r e => by cases e; exact ⟨x, hl, hx⟩)⟩
/-- The words of the round keys, in their row. -/
theorem wd_range {w : World} {base g k c : Nat} {W : Nat → Nat → Nat} (h : w.ownsRow base 115 1 (.slice (some ⟨g, 0, none⟩) (4 * k) c) (4 * k) (wdL W (4 * k))) {j : Nat} (hj : j < k) : w.rangeAt g (4 * j) (sqL4 (rk W j)) := fun i u hu => by
  obtain ⟨hi, rfl⟩ := get_sqL4 hu
  exact own_wd h (show 4 * j + i < 4 * k by omega)
/-- The cells of the round keys that have come. -/
def sqF (W : Nat → Nat → Nat) {len : Nat} (pre : List (Fin len)) : List Value := pre.flatMap fun y => sqL4 (rk W y.1)
theorem sqF_snoc (W : Nat → Nat → Nat) {len : Nat} (pre : List (Fin len)) (y : Fin len) : sqF W (pre ++ [y]) = sqF W pre ++ sqL4 (rk W y.1) := by simp [sqF]
theorem sqF_all (W : Nat → Nat → Nat) {len : Nat} (ys : List (Fin len)) (hl : ys.length = len) (h : cBk len ys) : sqF W ys = sqs W len := by
  have key : ∀ k, k ≤ ys.length → sqF W (ys.take k) = sqs W k := by
    intro k
    induction k with
    | zero => intro _; rfl
    | succ k ih =>
      intro hk
      rw [List.take_succ_eq_append_getElem (by omega), sqF_snoc, ih (by omega), h.2 k (by omega), sqs_succ]
  have := key ys.length (Nat.le_refl _)
  rw [List.take_length, hl] at this
  exact this
theorem sq_fillA (S : Nat → Nat → Nat) : Instr.fill (fun i => some (i * 4, 4)) ((Array.range (1 * 4)).map ((Value.agg noSq).cells[· % (Value.agg noSq).cells.size]!)) [(0, .agg (sqL4 S).toArray)] = some (sqL4 S).toArray := by
  have e : ((Array.range (1 * 4)).map ((Value.agg noSq).cells[· % (Value.agg noSq).cells.size]!)) = #[.int .u32 0, .int .u32 0, .int .u32 0, .int .u32 0] := by kernel_rfl
  rw [e]
  exact sq_fill _ _ _ _ _ _ _ _
theorem own_ne {w : World} {base size : Nat} {e : TypeId} {v : Value} {n : Nat} {xs : List Value} (h : w.ownsRow base e size v n xs) {b : Nat} (hb : b < base) : some b ≠ v.ownBlock := fun e1 => by have := (h.lt b e1.symm).1; omega
theorem own_slice {w : World} {base size : Nat} {e : TypeId} {v : Value} {n : Nat} {xs : List Value} (h : w.ownsRow base e size v n xs) : ∃ a L c, v = .slice a L c := by
  rcases h.2 with ⟨h2, _⟩ | ⟨g, cap, cur, h1, _⟩
  · exact ⟨_, _, _, h2⟩
  · exact ⟨_, _, _, h1⟩
theorem own_caps {w : World} {base size g n L c : Nat} {e : TypeId} {xs : List Value} (h : w.ownsRow base e size (.slice (some ⟨g, 0, none⟩) L c) n xs) : L = n ∧ n ≤ c ∧ c ≤ 9223372036854775807 ∧ base ≤ g ∧ g < w.heap.size := by
  rcases h.2 with ⟨h1, _⟩ | ⟨g', cap', cur, h1, hb, hg, h4, h5, _⟩
  · cases h1
  · cases h1
    exact ⟨rfl, h4, by unfold maxLen at h5; omega, hb, (Array.getElem?_eq_some_iff.1 hg).1⟩
theorem Blk.same {w w' : World} {b n : Nat} {T : TypeId} {g : Nat → Value} (h : Blk w b T n g) (e : w'.heap[b]? = w.heap[b]?) : Blk w' b T n g := by unfold Blk at h ⊢; rw [e]; exact h
theorem cell_same {w w' : World} {b o : Nat} {v : Value} (h : w.cell? ⟨b, o, none⟩ = some v) (e : w'.heap[b]? = w.heap[b]?) : w'.cell? ⟨b, o, none⟩ = some v := (World.cell?_of_block (w := w) (a := ⟨b, o, none⟩) e).trans h
theorem range_same {w w' : World} {b o : Nat} {cs : List Value} (h : w.rangeAt b o cs) (e : w'.heap[b]? = w.heap[b]?) : w'.rangeAt b o cs := fun j v hv => cell_same (h j v hv) e
/-- What lies before the loop, behind a round of it. -/
theorem round_same {V V8 V9 : World} {base size : Nat} {e : TypeId} {v : Value} {n : Nat} {xs : List Value} (h8 : Below V.heap.size V V8) (ho : V8.ownsRow base e size v n xs) (h9 : V8.grownBy V9 v.ownBlock) (hB : base ≤ V.heap.size) {b : Nat} (hb : b < base) : V9.heap[b]? = V.heap[b]? :=
  (h9.block b (Nat.lt_of_lt_of_le (Nat.lt_of_lt_of_le hb hB) h8.size) (own_ne ho hb)).trans (h8.block b (by omega))
end Go.Proofs.YtappfdbmhgifcaaGreatDoor
/- Texts of mine, one behind the other: Hm Hw Hp Hq Hr Hn Ht Hx. -/
/- The document's constants of SHA-256: digits, roots, primes. Plain maths; no program is named here. -/
namespace Go.Proofs.YtappfdbmhgifcaaGreatDoor
set_option linter.unusedVariables false

/-- All digits are such. -/
def Dig (l : List Nat) : Prop := ∀ x ∈ l, x < 65536
theorem Dig.snoc {l : List Nat} (h : Dig l) {d : Nat} (hd : d < 65536) : Dig (l ++ [d]) := fun x hx => by
  rcases List.mem_append.1 hx with h1 | h1
  · exact h x h1
  · rw [List.mem_singleton.1 h1]; exact hd
theorem Dig.getD {l : List Nat} (h : Dig l) (i : Nat) : l.getD i 0 < 65536 := by
  by_cases hi : i < l.length
  · have : l.getD i 0 = l[i] := by simp [List.getD_eq_getElem?_getD, List.getElem?_eq_getElem hi]
    rw [this]; exact h _ (List.getElem_mem hi)
  · have : l.getD i 0 = 0 := by simp [List.getD_eq_getElem?_getD, List.getElem?_eq_none (Nat.le_of_not_lt hi)]
    rw [this]; omega
/-- The primes that have come when p is looked at, k behind 2. -/
def pq (out : List Nat) (p : Nat) : List Nat := if out.all (fun q => p % q != 0) then out ++ [p] else out
def ps : Nat → List Nat
  | 0 => []
  | k + 1 => pq (ps k) (k + 2)
end Go.Proofs.YtappfdbmhgifcaaGreatDoor
/- Rows of words of 64 bits in memory. No program is named here. -/
namespace Go.Proofs.YtappfdbmhgifcaaGreatDoor
open Go.RowKit
set_option linter.unusedVariables false

/-- A slice that reads as numbers. -/
def A64 (w : World) (a : Option Addr) (n c : Nat) (l : List Nat) : Prop := l.length = n ∧ n ≤ c ∧ c ≤ maxLen ∧
  (0 < n → ∃ b off, a = some ⟨b, off, none⟩ ∧ b < w.heap.size ∧ ∀ i, i < n → w.cell? ⟨b, off + i, none⟩ = some (.int .u64 ((l.getD i 0 : Nat) : Int)))
theorem A64.on {w w' : World} {a : Option Addr} {n c : Nat} {l : List Nat} (h : A64 w a n c l) (hb : Below w.heap.size w w') : A64 w' a n c l := by
  obtain ⟨h1, h2, h3, h4⟩ := h
  refine ⟨h1, h2, h3, fun h0 => ?_⟩
  obtain ⟨b, off, e, hlt, hc⟩ := h4 h0
  exact ⟨b, off, e, Nat.lt_of_lt_of_le hlt hb.size, fun i hi => (hb.cell (p := ⟨b, off + i, none⟩) hlt).trans (hc i hi)⟩
theorem A64.at_ {w : World} {a : Option Addr} {n c : Nat} {l : List Nat} (h : A64 w a n c l) {i : Nat} (hi : i < n) :
    ∃ b off, a = some ⟨b, off, none⟩ ∧ b < w.heap.size ∧ w.cell? ⟨b, off + i, none⟩ = some (.int .u64 ((l.getD i 0 : Nat) : Int)) := by
  obtain ⟨b, off, e, hlt, hc⟩ := h.2.2.2 (by omega)
  exact ⟨b, off, e, hlt, hc i hi⟩
theorem A64.other {w : World} {g off n c : Nat} {l : List Nat} (h : A64 w (some ⟨g, off, none⟩) n c l) (p : Addr) (v : Value) (hne : p.block ≠ g) : A64 (w.setCell p v) (some ⟨g, off, none⟩) n c l := by
  obtain ⟨h1, h2, h3, h4⟩ := h
  refine ⟨h1, h2, h3, fun h0 => ?_⟩
  obtain ⟨b, o, e, hlt, hc⟩ := h4 h0
  cases e
  exact ⟨_, _, rfl, by simpa using hlt, fun i hi => (World.cell?_setCell_far w p ⟨g, off + i, none⟩ v hne).trans (hc i hi)⟩
end Go.Proofs.YtappfdbmhgifcaaGreatDoor
/- The document's power and above (layer 7). -/
namespace Go.Proofs.YtappfdbmhgifcaaGreatDoor
open Go.ChangeShapes Go.WideShapes Go.ChangeAt Go.RowKit
set_option linter.unusedVariables false
set_option maxRecDepth 100000

end Go.Proofs.YtappfdbmhgifcaaGreatDoor
/- The document's above and Fraction (layer 7). -/
namespace Go.Proofs.YtappfdbmhgifcaaGreatDoor
open Go.ChangeShapes Go.WideShapes Go.ChangeAt Go.RowKit
set_option linter.unusedVariables false
set_option maxRecDepth 100000

end Go.Proofs.YtappfdbmhgifcaaGreatDoor
/- The document's Fraction and Primes (layer 7). -/
namespace Go.Proofs.YtappfdbmhgifcaaGreatDoor
open Go.ChangeShapes Go.WideShapes Go.ChangeAt Go.RowKit
set_option linter.unusedVariables false
set_option maxRecDepth 100000

end Go.Proofs.YtappfdbmhgifcaaGreatDoor
/- SHA-256 as lists and functions: plain maths; no program is named here. -/
namespace Go.Proofs.YtappfdbmhgifcaaGreatDoor
open Go.RowKit
set_option linter.unusedVariables false

/-- The roots of the first primes, with 32 bits behind the point. -/
def R3 : List Nat := [5411319704, 6194414737, 7344290767, 8215976869, 9551921755, 10098905585, 11043570340, 11460697813, 12214315672, 13195500289, 13492127166, 14311783875, 14809980276, 15046980094, 15499789991, 16133124468, 16720292289, 16907126662, 17444216262, 17784676812, 17950125167, 18429019306, 18734950876, 19175934170, 19734090066, 20001703533, 20132865992, 20390182855, 20516441075, 20764397895, 21588763473, 21813078375, 22141143685, 22248366392, 22769593852, 22871018771, 23170020180, 23461497531, 23651862830, 23931792517, 24205322401, 24295138891, 24734567280, 24820601251, 24990902297, 25075189284, 25569408389, 26045227120, 26200031510, 26276752392, 26428864332, 26653801653, 26727943347, 27092625994, 27306805839, 27517677555, 27725365998, 27793908591, 27997534228, 28131656200, 28198240250, 28526537963, 28973835255, 29099129074]
def R2 : List Nat := [6074000999, 7439101573, 9603838834, 11363415354, 14244795007, 15485724812, 17708603819, 18721328409]
def KF (i : Nat) : Nat := R3.getD i 0 % 4294967296
def HF0 (i : Nat) : Nat := R2.getD i 0 % 4294967296
theorem KF_lt (i : Nat) : KF i < 4294967296 := Nat.mod_lt _ (by omega)
theorem HF0_lt (i : Nat) : HF0 i < 4294967296 := Nat.mod_lt _ (by omega)
/-- Turned to the right. -/
def rr (n x : Nat) : Nat := x / 2 ^ n ||| x * 2 ^ (32 - n) % 4294967296
def ad (a b : Nat) : Nat := (a + b) % 4294967296
def sg0 (x : Nat) : Nat := rr 7 x ^^^ rr 18 x ^^^ x / 2 ^ 3
def sg1 (x : Nat) : Nat := rr 17 x ^^^ rr 19 x ^^^ x / 2 ^ 10
def Sg0 (x : Nat) : Nat := rr 2 x ^^^ rr 13 x ^^^ rr 22 x
def Sg1 (x : Nat) : Nat := rr 6 x ^^^ rr 11 x ^^^ rr 25 x
def chf (e f g : Nat) : Nat := (e &&& f) ^^^ ((4294967295 - e) &&& g)
def mjf (a b c : Nat) : Nat := (a &&& b) ^^^ (a &&& c) ^^^ (b &&& c)
theorem xor32 {x y : Nat} (h : x < 4294967296) (k : y < 4294967296) : x ^^^ y < 4294967296 := Nat.xor_lt_two_pow (n := 32) h k
theorem or32 {x y : Nat} (h : x < 4294967296) (k : y < 4294967296) : x ||| y < 4294967296 := Nat.or_lt_two_pow (n := 32) h k
theorem and32 {x y : Nat} (k : y < 4294967296) : x &&& y < 4294967296 := Nat.and_lt_two_pow (n := 32) x k
theorem div32 {x : Nat} (h : x < 4294967296) (n : Nat) : x / 2 ^ n < 4294967296 := Nat.lt_of_le_of_lt (Nat.div_le_self _ _) h
theorem rr_lt {x : Nat} (h : x < 4294967296) (n : Nat) : rr n x < 4294967296 := or32 (div32 h n) (Nat.mod_lt _ (by omega))
theorem ad_lt (a b : Nat) : ad a b < 4294967296 := Nat.mod_lt _ (by omega)
theorem Sg0_lt {x : Nat} (h : x < 4294967296) : Sg0 x < 4294967296 := xor32 (xor32 (rr_lt h _) (rr_lt h _)) (rr_lt h _)
theorem Sg1_lt {x : Nat} (h : x < 4294967296) : Sg1 x < 4294967296 := xor32 (xor32 (rr_lt h _) (rr_lt h _)) (rr_lt h _)
/-- The words of a block, so many. -/
def wsL (m : Nat → Nat) : Nat → List Nat
  | 0 => []
  | t + 1 => wsL m t ++ [if t < 16 then m t else ad (ad (ad (sg1 ((wsL m t).getD (t - 2) 0)) ((wsL m t).getD (t - 7) 0)) (sg0 ((wsL m t).getD (t - 15) 0))) ((wsL m t).getD (t - 16) 0)]
theorem length_wsL (m : Nat → Nat) : ∀ t, (wsL m t).length = t
  | 0 => rfl
  | t + 1 => by rw [wsL, List.length_append, length_wsL m t]; rfl
def ws (m : Nat → Nat) (j : Nat) : Nat := (wsL m (j + 1)).getD j 0
theorem wsL_getD (m : Nat → Nat) {j : Nat} : ∀ {t}, j < t → (wsL m t).getD j 0 = ws m j
  | 0, h => by omega
  | t + 1, h => by
    by_cases e : j = t
    · subst e; rfl
    · rw [wsL, List.getD_eq_getElem?_getD, List.getElem?_append_left (by rw [length_wsL]; omega), ← List.getD_eq_getElem?_getD]
      exact wsL_getD m (by omega)
theorem ws_first (m : Nat → Nat) {t : Nat} (h : t < 16) : ws m t = m t := by
  unfold ws
  rw [wsL, if_pos h, List.getD_eq_getElem?_getD, List.getElem?_append_right (by rw [length_wsL]; omega), length_wsL]
  simp
theorem ws_next (m : Nat → Nat) {t : Nat} (h : ¬ t < 16) : ws m t = ad (ad (ad (sg1 (ws m (t - 2))) (ws m (t - 7))) (sg0 (ws m (t - 15)))) (ws m (t - 16)) := by
  rw [ws, wsL, if_neg h, List.getD_eq_getElem?_getD, List.getElem?_append_right (by rw [length_wsL]; omega), length_wsL, wsL_getD m (by omega), wsL_getD m (by omega), wsL_getD m (by omega), wsL_getD m (by omega)]
  simp
theorem ws_lt {m : Nat → Nat} (hm : ∀ t, m t < 4294967296) (t : Nat) : ws m t < 4294967296 := by
  by_cases h : t < 16
  · rw [ws_first m h]; exact hm t
  · rw [ws_next m h]; exact ad_lt _ _
/-- One round of eight words. -/
def rt1 (v : Nat → Nat) (k w : Nat) : Nat := ad (ad (ad (ad (v 7) (Sg1 (v 4))) (chf (v 4) (v 5) (v 6))) k) w
def rt2 (v : Nat → Nat) : Nat := ad (Sg0 (v 0)) (mjf (v 0) (v 1) (v 2))
def rnd (v : Nat → Nat) (k w : Nat) (i : Nat) : Nat :=
  if i = 0 then ad (rt1 v k w) (rt2 v) else if i = 4 then ad (v 3) (rt1 v k w) else v (i - 1)
def comp (h w : Nat → Nat) : Nat → Nat → Nat
  | 0 => h
  | t + 1 => rnd (comp h w t) (KF t) (w t)
theorem rnd_lt {v : Nat → Nat} (hv : ∀ i, v i < 4294967296) (k w i : Nat) : rnd v k w i < 4294967296 := by
  unfold rnd
  split
  · exact ad_lt _ _
  · split
    · exact ad_lt _ _
    · exact hv _
theorem comp_lt {h : Nat → Nat} (hh : ∀ i, h i < 4294967296) (w : Nat → Nat) : ∀ t i, comp h w t i < 4294967296
  | 0, i => hh i
  | t + 1, i => rnd_lt (comp_lt hh w t) _ _ i
def blkF (h m : Nat → Nat) (i : Nat) : Nat := ad (h i) (comp h (ws m) 64 i)
/-- The word of four bytes, and the words of a block. -/
def gw (M : List Int) (j : Nat) : Nat := (M.getD j 0).toNat * 16777216 + (M.getD (j + 1) 0).toNat * 65536 + (M.getD (j + 2) 0).toNat * 256 + (M.getD (j + 3) 0).toNat
def mF (M : List Int) (o t : Nat) : Nat := gw M (o + 4 * t)
def hF (M : List Int) : Nat → Nat → Nat
  | 0 => HF0
  | j + 1 => blkF (hF M j) (mF M (64 * j))
theorem hF_lt (M : List Int) : ∀ j i, hF M j i < 4294967296
  | 0, i => HF0_lt i
  | j + 1, i => ad_lt _ _
theorem toNat_byte {M : List Int} (hM : AllB M) (j : Nat) : (M.getD j 0).toNat < 256 := by
  by_cases hk : j < M.length
  · have e : M.getD j 0 = M[j] := by simp [List.getD_eq_getElem?_getD, List.getElem?_eq_getElem hk]
    have := hM _ (List.getElem_mem hk)
    rw [e]; omega
  · have e : M.getD j 0 = 0 := by simp [List.getD_eq_getElem?_getD, List.getElem?_eq_none (Nat.le_of_not_lt hk)]
    rw [e]; simp
theorem gw_lt {M : List Int} (hM : AllB M) (j : Nat) : gw M j < 4294967296 := by
  have h0 := toNat_byte hM j; have h1 := toNat_byte hM (j + 1); have h2 := toNat_byte hM (j + 2); have h3 := toNat_byte hM (j + 3)
  unfold gw; omega
/-- How many noughts go behind the 128. -/
def zc (n : Nat) : Nat := (119 - n % 64) % 64
theorem zc_lt (n : Nat) : zc n < 64 := by unfold zc; omega
/-- Bytes of a word, the highest first. -/
def w4 (x : Nat) : List Int := [((x / 2 ^ 24 % 256 : Nat) : Int), ((x / 2 ^ 16 % 256 : Nat) : Int), ((x / 2 ^ 8 % 256 : Nat) : Int), ((x % 256 : Nat) : Int)]
theorem w4_B (x : Nat) : AllB (w4 x) := fun y hy => by
  simp only [w4, List.mem_cons, List.not_mem_nil, or_false] at hy
  rcases hy with rfl | rfl | rfl | rfl <;> omega
def w8 (x j : Nat) : Int := ((x / 2 ^ (8 * (7 - j)) % 256 : Nat) : Int)
def w8L (x : Nat) : Nat → List Int
  | 0 => []
  | j + 1 => w8L x j ++ [w8 x j]
theorem length_w8L (x : Nat) : ∀ j, (w8L x j).length = j
  | 0 => rfl
  | j + 1 => by rw [w8L, List.length_append, length_w8L x j]; rfl
theorem w8L_B (x : Nat) : ∀ j, AllB (w8L x j)
  | 0 => fun y hy => by cases hy
  | j + 1 => fun y hy => by
    rcases List.mem_append.1 hy with h | h
    · exact w8L_B x j y h
    · rw [List.mem_singleton.1 h]; unfold w8; omega
/-- What the blocks are cut of. -/
def shaM (b : List Int) : List Int := b ++ [128] ++ List.replicate (zc b.length) 0 ++ w8L (8 * b.length) 8
/-- The first words' bytes. -/
def outW (h : Nat → Nat) : Nat → List Int
  | 0 => []
  | j + 1 => outW h j ++ w4 (h j)
theorem length_outW (h : Nat → Nat) : ∀ j, (outW h j).length = 4 * j
  | 0 => rfl
  | j + 1 => by rw [outW, List.length_append, length_outW h j]; simp [w4]; omega
theorem outW_B (h : Nat → Nat) : ∀ j, AllB (outW h j)
  | 0 => fun y hy => by cases hy
  | j + 1 => fun y hy => (List.mem_append.1 hy).elim (outW_B h j y) (w4_B _ y)
/-- The sum. -/
def shaL (b : List Int) : List Int := outW (hF (shaM b) ((shaM b).length / 64)) 8
theorem shaL_len (b : List Int) : (shaL b).length = 32 := length_outW _ 8
theorem shaL_B (b : List Int) : AllB (shaL b) := outW_B _ 8
end Go.Proofs.YtappfdbmhgifcaaGreatDoor
/- The document's turn (layer 7). -/
namespace Go.Proofs.YtappfdbmhgifcaaGreatDoor
open Go.ChangeShapes Go.WideShapes Go.ChangeAt Go.RowKit
set_option linter.unusedVariables false
set_option maxRecDepth 100000

end Go.Proofs.YtappfdbmhgifcaaGreatDoor
/- The chapter's example, "abc", reckoned (written by gen33.py). -/
namespace Go.Proofs.YtappfdbmhgifcaaGreatDoor
open Go.RowKit
set_option linter.unusedVariables false
set_option maxRecDepth 100000

def St (v : Nat → Nat) (a b c d e f g h : Nat) : Prop := v 0 = a ∧ v 1 = b ∧ v 2 = c ∧ v 3 = d ∧ v 4 = e ∧ v 5 = f ∧ v 6 = g ∧ v 7 = h
theorem St.next {h0 w : Nat → Nat} {t a b c d e f g h : Nat} (hv : St (comp h0 w t) a b c d e f g h) (k x T A E : Nat) (hk : KF t = k) (hx : w t = x)
    (hT : ad (ad (ad (ad h (Sg1 e)) (chf e f g)) k) x = T) (hA : ad T (ad (Sg0 a) (mjf a b c)) = A) (hE : ad d T = E) : St (comp h0 w (t + 1)) A a b c E e f g := by
  obtain ⟨h0', h1, h2, h3, h4, h5, h6, h7⟩ := hv
  refine ⟨?_, h0', h1, h2, ?_, h4, h5, h6⟩
  · show ad (rt1 (comp h0 w t) (KF t) (w t)) (rt2 (comp h0 w t)) = A
    unfold rt1 rt2
    rw [h0', h1, h2, h4, h5, h6, h7, hk, hx, hT, hA]
  · show ad (comp h0 w t 3) (rt1 (comp h0 w t) (KF t) (w t)) = E
    unfold rt1
    rw [h3, h4, h5, h6, h7, hk, hx, hT, hE]
end Go.Proofs.YtappfdbmhgifcaaGreatDoor
