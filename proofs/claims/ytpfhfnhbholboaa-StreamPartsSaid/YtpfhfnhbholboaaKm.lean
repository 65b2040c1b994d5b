/- Contract of the cipher's spread: the words of the round keys. -/
import Derived.Test.YtpfhfnhbholboaaKg
import Derived.Test.YtpfhfnhbholboaaFmul
import Derived.Laws.AppendOwn
import Derived.Deep.AppendLies
import Derived.BigQuiet
namespace Go.Proofs.Ytpfhfnhbholboaa
open Go.ChangeShapes Go.WideShapes Go.ChangeAt Go.RowKit
set_option linter.unusedVariables false
set_option linter.unusedSimpArgs false
set_option maxRecDepth 100000

theorem infoW : ∃ i, Try.prog.info? 52 = some i ∧ i.zero = some (.int .u32 0) ∧ i.size = 1 ∧ i.bytes = 4 := ⟨_, rfl, rfl, rfl, rfl⟩
/-- The first k words. -/
def wdL (W : Nat → Nat → Nat) (k : Nat) : List Value := (List.range k).map fun j => .int .u32 ((wd (W j) : Nat) : Int)
theorem length_wdL (W : Nat → Nat → Nat) (k : Nat) : (wdL W k).length = k := by simp [wdL]
theorem wdL_succ (W : Nat → Nat → Nat) (k : Nat) : wdL W (k + 1) = wdL W k ++ [.int .u32 ((wd (W k) : Nat) : Int)] := by
  unfold wdL; rw [List.range_succ, List.map_append]; rfl
theorem wdL_congr {W V : Nat → Nat → Nat} {k : Nat} (h : ∀ j, j < k → W j = V j) : wdL W k = wdL V k := by
  unfold wdL; exact List.map_congr_left fun j hj => by rw [h j (List.mem_range.1 hj)]
theorem get_wdL {W : Nat → Nat → Nat} {k j : Nat} (h : j < k) : (wdL W k)[j]? = some (.int .u32 ((wd (W j) : Nat) : Int)) := by simp [wdL, h]
theorem own_wdL {w : World} {b n : Nat} {W : Nat → Nat → Nat} (hn : n ≤ maxLen) (h : Blk w b 52 n (fun j => .int .u32 ((wd (W j) : Nat) : Int))) : w.ownsRow b 52 1 (.slice (some ⟨b, 0, none⟩) n n) n (wdL W n) :=
  ⟨by rw [length_wdL]; omega, .inr ⟨b, n, _, rfl, Nat.le_refl _, h, Nat.le_refl _, hn, by rw [size_tabV]; omega, by show List.take (n * 1) (wdL W n) = wdL W n; rw [List.take_of_length_le (by rw [length_wdL]; omega)]⟩⟩
theorem own_wd {w : World} {base g n c : Nat} {W : Nat → Nat → Nat} (h : w.ownsRow base 52 1 (.slice (some ⟨g, 0, none⟩) n c) n (wdL W n)) {j : Nat} (hj : j < n) : w.cell? ⟨g, j, none⟩ = some (.int .u32 ((wd (W j) : Nat) : Int)) := by
  rw [h.cellAt j (by omega)]; exact get_wdL hj
theorem own_drewN {w : World} {B e size n : Nat} {v : Value} {xs : List Value} (h : w.ownsRow B e size v n xs) (q : Nat) : (w.drewN q).ownsRow B e size v n xs := h
theorem own_belowK {w w' : World} {base : Nat} {e : TypeId} {size : Nat} {v : Value} {n : Nat} {xs : List Value} (h : w.ownsRow base e size v n xs) (hb : Below w.heap.size w w') : w'.ownsRow base e size v n xs := by
  refine ⟨h.1, ?_⟩
  rcases h.2 with h2 | ⟨g, cap, cur, h1, h2, h3, h4⟩
  · exact .inl h2
  · subst h1
    exact .inr ⟨g, _, cur, rfl, h2, (hb.block g (Array.getElem?_eq_some_iff.1 h3).1).trans h3, h4⟩
theorem qdrew {P : Program} {f : FuncId} {args : Array Value} {w : World} {n : Nat} {v : Value} (h : Calls P f args (w.drewN n) fun e w' => e = .returned v ∧ ∃ q, w' = (w.drewN n).drewN q) : Calls P f args (w.drewN n) fun e w'' => e = .returned v ∧ ∃ m, w'' = w.drewN m :=
  h.mono fun _ _ ⟨he, q, hm⟩ => ⟨he, n + q, by rw [hm]; exact World.drewN_drewN _ _ _⟩
theorem turn32_8 (f : Nat → Nat) (hf : ∀ r, f r < 256) (w : World) : Calls Try.prog 49 #[.int .u32 ((wd f : Nat) : Int), .int .i64 8] w fun e w' => e = .returned (.int .u32 ((wd (fun r => f ((r + 1) % 4)) : Nat) : Int)) ∧ ∃ j, w' = w.drewN j := by
  have hw := wd_lt hf
  refine (turn32 ((wd f : Nat) : Int) 8 (mk32 (by omega) (by omega)) (by decide) w).mono fun e w' ⟨h1, h2⟩ => ⟨?_, h2⟩
  rw [h1]
  refine ret_int ?_
  unfold rotI
  have e1 : ((8 : Int) % ((32 : Nat) : Int)).toNat = 8 * ((4 - 3) % 4) := by decide
  rw [e1, Int.toNat_natCast, wd_rot hf (by omega)]
  rfl
theorem pow_two (b e : Nat) (w : World) (hf : Fld w b) (he : e < 255) : Calls Try.prog 50 #[.pointer (some ⟨b, 0, none⟩), .int .u8 2, .int .i64 (e : Nat)] w fun x w' => x = .returned (.int .u8 ((pwr 2 e : Nat) : Int)) ∧ w = w' := by
  have h := pow_N b 2 (e : Int) w hf (by omega) (by omega)
  have e1 : powN 2 (e : Int) = pwr 2 e := by
    unfold powN
    by_cases h0 : e = 0
    · subst h0; rw [if_pos (by omega), pwr_zero]
    · rw [if_neg (by omega), if_neg (by omega)]
      congr 1
      omega
  rw [e1] at h
  exact h
/-- A byte in the highest place of a word, added. -/
theorem xor_top {f : Nat → Nat} (hf : ∀ r, f r < 256) {p : Nat} (hp : p < 256) : wd f ^^^ (p * 2 ^ 24) = wd (fun r => f r ^^^ (if r = 0 then p else 0)) := by
  have hg : ∀ r, (fun r => if r = 0 then p else 0) r < 256 := fun r => by show (if r = 0 then p else 0) < 256; split <;> omega
  rw [show p * 2 ^ 24 = wd (fun r => if r = 0 then p else 0) by unfold wd; simp; omega, wd_xor hf hg]
theorem xor_shl {P y k : Nat} (hP : P < 4294967296) (hy : y < 256) (hk : k ≤ 24) : bits .xor .u32 (P : Int) ((y : Int) * 2 ^ k % 4294967296) = ((P ^^^ (y * 2 ^ k) : Nat) : Int) := by
  have h1 := pow_le24 hk
  have h2 : y * 2 ^ k < 4294967296 := Nat.lt_of_le_of_lt (Nat.mul_le_mul (show y ≤ 255 by omega) h1) (by decide)
  have e : ((y : Int) * 2 ^ k % 4294967296) = ((y * 2 ^ k : Nat) : Int) := by
    have : ((y : Int) * 2 ^ k) = ((y * 2 ^ k : Nat) : Int) := by simp
    rw [this]; omega
  rw [e, u32_xor_nat _ _ hP h2]
set_option maxHeartbeats 4000000 in
theorem spread_any (fb b o n : Nat) (ba oa c : Nat) (l : List Int) (w : World) (hf : Fld w fb) (ht : Tb w b o box) (hn : n = 4 ∨ n = 8) (hl : l.length = 4 * n) (hA : AllB l) (hb : Bs w w.heap.size (some ⟨ba, oa, none⟩) l) (hc : 4 * n ≤ c) (hcm : c ≤ 9223372036854775807) :
    Calls Try.prog 27 #[.pointer (some ⟨fb, 0, none⟩), .pointer (some ⟨b, o, none⟩), .slice (some ⟨ba, oa, none⟩) ((4 * n : Nat) : Nat) c] w fun e w' => ∃ g cap, e = .returned (.slice (some ⟨g, 0, none⟩) (4 * (n + 7)) cap) ∧
      w'.ownsRow w.heap.size 52 1 (.slice (some ⟨g, 0, none⟩) (4 * (n + 7)) cap) (4 * (n + 7)) (wdL (kx n (kw l) (3 * n + 28)) (4 * (n + 7))) ∧ Below w.heap.size w w' := by
  have HWO := Lib.hid (words_any ba oa n c l w hl hA hb (by omega) (by omega) hc hcm)
  have HF := Lib.hid hf
  have HT := Lib.hid ht
  have HK := Lib.hid (fun m => kx_bd n (kw_lt hA) m)
  have HI := Lib.hid infoW
  obtain ⟨K, hK⟩ : ∃ K, K = kw l := ⟨_, rfl⟩
  rw [← hK] at HWO HK ⊢
  have HN := Lib.hid hn
  have hn1 : 4 ≤ n := by omega
  have hn2 : n ≤ 8 := by omega
  have qn1 : (4 : Int) ≤ (n : Int) := by omega
  have qn2 : (n : Int) ≤ 8 := by omega
  clear hf ht hl hA hb hK hn
  obtain ⟨i32, hi32⟩ := HI.out
  have HI := Lib.hid hi32
  clear hi32
  go_enter Try.func27, Try.ntmps27
  go_wp2_with (go_at_call 47; refine HWO.out.mono ?_; rintro e w1 ⟨rfl, hk1, hb1⟩; have HK1 := Lib.hid hk1; have HB1 := Lib.hid hb1; clear hk1 hb1)
  go_loopw [7, 9] (fun v q wr => ∃ m g cap : Nat, m ≤ 3 * n + 28 ∧ q = .int .i64 ((n + m : Nat) : Int) ∧ v = .slice (some ⟨g, 0, none⟩) (n + m) cap ∧ wr.ownsRow w.heap.size 52 1 (.slice (some ⟨g, 0, none⟩) (n + m) cap) (n + m) (wdL (kx n K m) (n + m)) ∧ Below w.heap.size w wr) (fun _ q _ => 4 * (n + 7) - (intOf q).toNat)
  case atStart => exact ⟨0, _, _, by omega, rfl, rfl, own_wdL (by unfold maxLen; omega) HK1.out, HB1.out⟩
  case round =>
    obtain ⟨m, g, cap, hm, rfl, rfl, hO, hB⟩ := hrel
    have HOi := Lib.hid hO
    have HBi := Lib.hid hB
    clear hO hB HB1 HK1
    by_cases hlt : m < 3 * n + 28
    · have hp0 := own_wd HOi.out (j := n + m - 1) (by omega)
      have hm0 := own_wd HOi.out (j := m) (by omega)
      obtain ⟨p, hp⟩ : ∃ p, p = n + m - 1 := ⟨_, rfl⟩
      obtain ⟨i, hi⟩ : ∃ i, i = n + m := ⟨_, rfl⟩
      rw [← hp] at hp0
      rw [← hi] at HOi ⊢
      have qi : (i : Int) < 4 * ((n : Int) + 7) := by omega
      have qp : (i : Int) - 1 = (p : Int) := by omega
      have qm : (i : Int) - (n : Int) = (m : Int) := by omega
      have qib : (i : Int) ≤ 60 := by omega
      have qpi : (p : Int) < (i : Int) := by omega
      have qmi : (m : Int) < (i : Int) := by omega
      obtain ⟨f, hff⟩ : ∃ f, f = kx n K m p := ⟨_, rfl⟩
      have HFF := Lib.hid (show ∀ r, f r < 256 by rw [hff]; exact HK.out m p)
      have HFX := Lib.hid hff
      have HP := Lib.hid (show p = i - 1 by omega)
      have HII := Lib.hid hi
      have HLT := Lib.hid hlt
      rw [← hff] at hp0
      obtain ⟨X, hX⟩ : ∃ X, X = wd f := ⟨_, rfl⟩
      have hXl : X < 4294967296 := by rw [hX]; exact wd_lt HFF.out
      clear hff hp hi
      by_cases hr : i % n = 0
      · have qr : (i : Int).tmod (n : Int) = 0 := by rw [Int.tmod_eq_emod_of_nonneg (by omega)]; omega
        obtain ⟨e, he⟩ : ∃ e, e = i / n - 1 := ⟨_, rfl⟩
        have hdn : i / n = e + 1 ∧ e < 255 := by have := HII.out; rcases HN.out with rfl | rfl <;> omega
        have qd : (i : Int).tdiv (n : Int) = (e : Int) + 1 := by rw [Int.tdiv_eq_ediv_of_nonneg (by omega)]; omega
        have qe : (e : Int) < 255 := by omega
        have qe0 : (0 : Int) ≤ (e : Int) := by omega
        have HPW := Lib.hid (fun W (hW : Fld W fb) => pow_two fb e W hW hdn.2)
        have HTU := Lib.hid (turn32_8 f HFF.out)
        have HBW := Lib.hid (fun W (hW : Tb W b o box) => bword_N b o box box_lt (fun r => f ((r + 1) % 4)) (fun r => HFF.out _) W hW)
        obtain ⟨V, hVd⟩ : ∃ V, V = wd (tmp n i f) := ⟨_, rfl⟩
        have hV : V = wd (tmp n i f) := hVd
        have hVl : V < 4294967296 := by rw [hV]; exact wd_lt (tmp_lt _ _ HFF.out)
        obtain ⟨k, hk⟩ : ∃ k, k = 24 := ⟨_, rfl⟩
        have HSH := Lib.hid (show ∀ W, Calls Try.prog 45 #[.int .i64 0] W fun e w' => e = .returned (.int .i64 ((k : Nat) : Int)) ∧ W = w' from fun W => by rw [hk]; exact shift_N 0 (by omega) W)
        have hk2 : k ≤ 24 := by omega
        obtain ⟨z, hz⟩ : ∃ z, z = pwr 2 e := ⟨_, rfl⟩
        have hzl : z < 256 := by rw [hz]; exact pwr_lt _ _
        obtain ⟨Y, hY⟩ : ∃ Y, Y = wd (fun r => f ((r + 1) % 4)) := ⟨_, rfl⟩
        obtain ⟨Z, hZ⟩ : ∃ Z, Z = wd (fun r => box (f ((r + 1) % 4))) := ⟨_, rfl⟩
        have hZl : Z < 4294967296 := by rw [hZ]; exact wd_lt fun r => box_lt _
        have hxs := xor_shl hZl hzl hk2
        rw [show Z ^^^ (z * 2 ^ k) = V by
          rw [hZ, hk, xor_top (fun r => box_lt _) hzl, hV]
          congr 1
          funext r
          unfold tmp
          rw [if_pos hr, ← he, hz]] at hxs
        rw [← hz] at HPW
        rw [← hY] at HTU HBW
        rw [← hZ] at HBW
        have HWX := Lib.hid (show wdL (kx n K (m + 1)) (i + 1) = wdL (kx n K m) i ++ [.int .u32 (bits .xor .u32 ((wd (kx n K m m) : Nat) : Int) (V : Int))] by
          rw [u32_xor_nat _ _ (wd_lt (HK.out m m)) hVl, wdL_succ, wdL_congr (V := kx n K m) (fun j hj => kx_old K (by have := HII.out; omega)), hV, wd_xor (HK.out m m) (tmp_lt _ _ HFF.out), HII.out, kx_new, ← HII.out, ← HP.out, ← HFX.out])
        have HV := Lib.hid hV
        clear hV hVd
        rw [← hX] at hp0 HTU
        clear hk hz hY hZ he hdn hr hX
        go_wp2_with fail
        go_quiet (first
          | (go_at_call 49; exact qdrew (HTU.out _))
          | (go_at_call 48; exact qdrew (HBW.out _ ((HT.out.on HBi.out).drewN _)))
          | (go_at_call 50; exact qleft (HPW.out _ ((HF.out.below HBi.out).drewN _)))
          | (go_at_call 45; exact qleft (HSH.out _)))
        go_wp2_with ((with_reducible show wpList _ _ _ (⟨some 69, _, _, _, _, _⟩ :: _) _ _); go_loud (refine wpList_append_lies _ rfl (.tmp 59) (.tmp 68) 64 rfl w.heap.size 52 i32 (.int .u32 0) 1 4 Try.underlying64 HI.out.1 HI.out.2.1 HI.out.2.2.1 HI.out.2.2.2 rfl (by decide) _ i (wdL (kx n K m) i) rfl (own_belowK (own_drewN HOi.out _) ((Below.refl _ _).alloc (Nat.le_refl _) _)) _ 1 1 [_] rfl rfl (World.news_of_block (heap_alloc_new _ _)) (by intro u hu; cases List.mem_singleton.1 hu; rfl) (by omega) (by unfold maxLen; omega) (by omega) (by have := HBi.out.size; simp; omega) _ rfl ?_); (intro g1 c1 wc hown1 hg1 hw1 hl1; have HO1 := Lib.hid hown1; have HG1 := Lib.hid hg1; clear hown1 hg1 hw1 hl1))
        go_roundw
        case rel => exact ⟨m + 1, g1, c1, by have := HLT.out; omega, by rw [HII.out]; go_num, by rw [HII.out]; rfl, by have h := HO1.out; rw [← HWX.out, HII.out] at h; exact h, ((below_drewN HBi.out _).alloc (below_drewN HBi.out _).size _).grown HG1.out (by have := HBi.out.size; simp; omega) (fun z hz => (HOi.out.lt z hz).1)⟩
        case measure => simp [intOf]; have := HII.out; have := HLT.out; omega
      · by_cases h8 : n = 8 ∧ i % 8 = 4
        · have q8 : ((n : Int) == 8) = true := by rw [beq_iff_eq]; omega
          have q4 : (i : Int).tmod (n : Int) = 4 := by rw [Int.tmod_eq_emod_of_nonneg (by omega), h8.1]; omega
          have HBW := Lib.hid (bword_N b o box box_lt f HFF.out wr (HT.out.on HBi.out))
          obtain ⟨V, hVd⟩ : ∃ V, V = wd (tmp n i f) := ⟨_, rfl⟩
          have hV : V = wd (tmp n i f) := hVd
          have hVl : V < 4294967296 := by rw [hV]; exact wd_lt (tmp_lt _ _ HFF.out)
          rw [show wd (fun r => box (f r)) = V by
            rw [hV]
            congr 1
            funext r
            unfold tmp
            rw [if_neg hr, if_pos h8], ← hX] at HBW
          have HWX := Lib.hid (show wdL (kx n K (m + 1)) (i + 1) = wdL (kx n K m) i ++ [.int .u32 (bits .xor .u32 ((wd (kx n K m m) : Nat) : Int) (V : Int))] by
            rw [u32_xor_nat _ _ (wd_lt (HK.out m m)) hVl, wdL_succ, wdL_congr (V := kx n K m) (fun j hj => kx_old K (by have := HII.out; omega)), hV, wd_xor (HK.out m m) (tmp_lt _ _ HFF.out), HII.out, kx_new, ← HII.out, ← HP.out, ← HFX.out])
          have HV := Lib.hid hV
          clear hV hVd
          rw [← hX] at hp0
          clear hr hX h8
          go_wp2_with (first
              | (go_at_call 48; refine HBW.out.mono ?_; rintro e wq ⟨rfl, nq, hwq⟩; subst hwq)
              | ((with_reducible show wpList _ _ _ (⟨some 69, _, _, _, _, _⟩ :: _) _ _); go_loud (refine wpList_append_lies _ rfl (.tmp 59) (.tmp 68) 64 rfl w.heap.size 52 i32 (.int .u32 0) 1 4 Try.underlying64 HI.out.1 HI.out.2.1 HI.out.2.2.1 HI.out.2.2.2 rfl (by decide) _ i (wdL (kx n K m) i) rfl (own_belowK (own_drewN HOi.out _) ((Below.refl _ _).alloc (Nat.le_refl _) _)) _ 1 1 [_] rfl rfl (World.news_of_block (heap_alloc_new _ _)) (by intro u hu; cases List.mem_singleton.1 hu; rfl) (by omega) (by unfold maxLen; omega) (by omega) (by have := HBi.out.size; simp; omega) _ rfl ?_); (intro g1 c1 wc hown1 hg1 hw1 hl1; have HO1 := Lib.hid hown1; have HG1 := Lib.hid hg1; clear hown1 hg1 hw1 hl1)))
          go_roundw
          case rel => exact ⟨m + 1, g1, c1, by have := HLT.out; omega, by rw [HII.out]; go_num, by rw [HII.out]; rfl, by have h := HO1.out; rw [← HWX.out, HII.out] at h; exact h, ((below_drewN HBi.out _).alloc (below_drewN HBi.out _).size _).grown HG1.out (by have := HBi.out.size; simp; omega) (fun z hz => (HOi.out.lt z hz).1)⟩
          case measure => simp [intOf]; have := HII.out; have := HLT.out; omega
        · by_cases hn8 : n = 8
          · have q8 : ((n : Int) == 8) = true := by rw [beq_iff_eq]; omega
            obtain ⟨d, hd⟩ : ∃ d, d = i % n := ⟨_, rfl⟩
            have qt : (i : Int).tmod (n : Int) = (d : Int) := by rw [Int.tmod_eq_emod_of_nonneg (by omega), hd]; omega
            have qd0 : ((d : Int) == 0) = false := by rw [beq_eq_false_iff_ne]; omega
            have qd4 : ((d : Int) == 4) = false := by rw [beq_eq_false_iff_ne]; rw [hn8] at hd; omega
            have hV : X = wd (tmp n i f) := by
              rw [hX]
              congr 1
              funext r
              unfold tmp
              rw [if_neg hr, if_neg h8]
            have hVl := hXl
            have HWX := Lib.hid (show wdL (kx n K (m + 1)) (i + 1) = wdL (kx n K m) i ++ [.int .u32 (bits .xor .u32 ((wd (kx n K m m) : Nat) : Int) (X : Int))] by
              rw [u32_xor_nat _ _ (wd_lt (HK.out m m)) hVl, wdL_succ, wdL_congr (V := kx n K m) (fun j hj => kx_old K (by have := HII.out; omega)), hV, wd_xor (HK.out m m) (tmp_lt _ _ HFF.out), HII.out, kx_new, ← HII.out, ← HP.out, ← HFX.out])
            have HV := Lib.hid hV
            clear hV
            rw [← hX] at hp0
            clear hr hX h8 hn8 hd
            go_wp2_with ((with_reducible show wpList _ _ _ (⟨some 69, _, _, _, _, _⟩ :: _) _ _); go_loud (refine wpList_append_lies _ rfl (.tmp 59) (.tmp 68) 64 rfl w.heap.size 52 i32 (.int .u32 0) 1 4 Try.underlying64 HI.out.1 HI.out.2.1 HI.out.2.2.1 HI.out.2.2.2 rfl (by decide) _ i (wdL (kx n K m) i) rfl (own_belowK (HOi.out) ((Below.refl _ _).alloc (Nat.le_refl _) _)) _ 1 1 [_] rfl rfl (World.news_of_block (heap_alloc_new _ _)) (by intro u hu; cases List.mem_singleton.1 hu; rfl) (by omega) (by unfold maxLen; omega) (by omega) (by have := HBi.out.size; simp; omega) _ rfl ?_); (intro g1 c1 wc hown1 hg1 hw1 hl1; have HO1 := Lib.hid hown1; have HG1 := Lib.hid hg1; clear hown1 hg1 hw1 hl1))
            go_roundw
            case rel => exact ⟨m + 1, g1, c1, by have := HLT.out; omega, by rw [HII.out]; go_num, by rw [HII.out]; rfl, by have h := HO1.out; rw [← HWX.out, HII.out] at h; exact h, ((HBi.out).alloc (HBi.out).size _).grown HG1.out (by have := HBi.out.size; simp; omega) (fun z hz => (HOi.out.lt z hz).1)⟩
            case measure => simp [intOf]; have := HII.out; have := HLT.out; omega
          · have q8 : ((n : Int) == 8) = false := by rw [beq_eq_false_iff_ne]; omega
            have qr : ((i : Int) % (n : Int) == 0) = false := by rw [beq_eq_false_iff_ne]; omega
            have hV : X = wd (tmp n i f) := by
              rw [hX]
              congr 1
              funext r
              unfold tmp
              rw [if_neg hr, if_neg h8]
            have hVl := hXl
            have HWX := Lib.hid (show wdL (kx n K (m + 1)) (i + 1) = wdL (kx n K m) i ++ [.int .u32 (bits .xor .u32 ((wd (kx n K m m) : Nat) : Int) (X : Int))] by
              rw [u32_xor_nat _ _ (wd_lt (HK.out m m)) hVl, wdL_succ, wdL_congr (V := kx n K m) (fun j hj => kx_old K (by have := HII.out; omega)), hV, wd_xor (HK.out m m) (tmp_lt _ _ HFF.out), HII.out, kx_new, ← HII.out, ← HP.out, ← HFX.out])
            have HV := Lib.hid hV
            clear hV
            rw [← hX] at hp0
            clear hr hX h8 hn8
            go_wp2_with ((with_reducible show wpList _ _ _ (⟨some 69, _, _, _, _, _⟩ :: _) _ _); go_loud (refine wpList_append_lies _ rfl (.tmp 59) (.tmp 68) 64 rfl w.heap.size 52 i32 (.int .u32 0) 1 4 Try.underlying64 HI.out.1 HI.out.2.1 HI.out.2.2.1 HI.out.2.2.2 rfl (by decide) _ i (wdL (kx n K m) i) rfl (own_belowK (HOi.out) ((Below.refl _ _).alloc (Nat.le_refl _) _)) _ 1 1 [_] rfl rfl (World.news_of_block (heap_alloc_new _ _)) (by intro u hu; cases List.mem_singleton.1 hu; rfl) (by omega) (by unfold maxLen; omega) (by omega) (by have := HBi.out.size; simp; omega) _ rfl ?_); (intro g1 c1 wc hown1 hg1 hw1 hl1; have HO1 := Lib.hid hown1; have HG1 := Lib.hid hg1; clear hown1 hg1 hw1 hl1))
            go_roundw
            case rel => exact ⟨m + 1, g1, c1, by have := HLT.out; omega, by rw [HII.out]; go_num, by rw [HII.out]; rfl, by have h := HO1.out; rw [← HWX.out, HII.out] at h; exact h, ((HBi.out).alloc (HBi.out).size _).grown HG1.out (by have := HBi.out.size; simp; omega) (fun z hz => (HOi.out.lt z hz).1)⟩
            case measure => simp [intOf]; have := HII.out; have := HLT.out; omega
    · obtain rfl : m = 3 * n + 28 := by omega
      rw [show n + (3 * n + 28) = 4 * (n + 7) by omega] at HOi ⊢
      obtain ⟨i, hi⟩ : ∃ i, i = 4 * (n + 7) := ⟨_, rfl⟩
      have qi : (i : Int) = 4 * ((n : Int) + 7) := by omega
      have qn : ((i : Int) < 4 * ((n : Int) + 7)) = False := by rw [qi]; simp
      have qib : (i : Int) ≤ 60 := by omega
      rw [← hi] at HOi ⊢
      have HII := Lib.hid hi
      clear hi qi
      go_wp2
      go_ret
      exact ⟨_, _, by rw [← HII.out]; rfl, by rw [← HII.out]; exact HOi.out, HBi.out⟩
end Go.Proofs.Ytpfhfnhbholboaa
