/- MediumShows under the contracts: the walk. -/
import Derived.Test.YtoonaendakjecaaUh
import Derived.BigQuiet
namespace Go.Proofs.Ytoonaendakjecaa
open Go.ChangeShapes Go.WideShapes Go.ChangeAt Go.RowKit Go.Shelf
set_option linter.unusedVariables false
set_option linter.unusedSimpArgs false
set_option maxRecDepth 100000

set_option maxHeartbeats 16000000 in
theorem mediumShows_core {R : World → Nat → (Nat → Prop) → MS → Option Nat → Prop} {P : World → Nat → (Nat → Prop) → Int → Nat → Prop} (hM : MediumM R P) (a0 : Option Addr) (L0 c0 : Nat) (a1 : Option Addr) (L1 c1 : Nat) (all : Bool) (l : List AC) (kp : List Bool) (w : World)
    (hl : ActA w a0 L0 c0 l) (hk : ArgB w a1 L1 c1 kp) (hfew : (∀ x, x ∈ l → x.kn ≤ 60) ∧ L0 ≤ 60) (hL1 : L1 ≤ 100) :
    Calls Try.prog 3 #[.slice a0 L0 c0, .slice a1 L1 c1, .bool all] w fun e w' => e = .returned (.bool true) ∧ Below w.heap.size w w' := by
  have HM := Lib.hid hM
  have HL := Lib.hid hl
  have HK := Lib.hid hk
  have HLL := Lib.hid hl.1
  have HFE := Lib.hid hfew
  have HL1 := Lib.hid hL1
  have q1 : ¬ (100 : Int) < (L1 : Int) := by omega
  have hL0 : L0 ≤ 60 := hfew.2
  obtain ⟨fb, hfb⟩ : ∃ fb, fb = decide ((∀ x, x ∈ l → x.kn ≤ 60) ∧ L0 ≤ 60) := ⟨_, rfl⟩
  have HFB := Lib.hid hfb
  have hft : fb = true := by rw [hfb]; exact decide_eq_true hfew
  clear hM hl hk hfew hL1 hfb
  subst hft
  go_enter Try.func3, Try.ntmps3
  go_upto_region 3 with (first
    | (go_at_call 7; go_loud (refine (lives13 HM.out w).mono ?_; rintro e w1 ⟨rfl, hb⟩; have HB1 := Lib.hid hb; clear hb))
    | (go_at_call 8; go_loud (refine (few_any a0 L0 c0 l w1 (HL.out.on HB1.out)).mono ?_; rintro e w2 ⟨rfl, hb⟩; rw [← HFB.out]; have HB2 := Lib.hid (bt HB1.out hb); clear hb)))
  go_upto_region 4 with (go_at_call 9; go_loud (refine (HM.out.new 4 none w2 (by omega) (by omega)).mono ?_; rintro e w3 ⟨tb, F3, rfl, hr, hf, hb⟩; have HW3 := Lib.hid (mwN (P := P) hr (MS.new_ok (by omega) (by omega)) (j := 0) (Nat.le_refl _)); have HI3 := Lib.hid (show ∀ k, F3 k → w.heap.size ≤ k from fun k h => by have h1 := hf k h; have h2 := HB2.out.size; omega); have HB3 := Lib.hid (bt HB2.out hb); clear hr hf hb))
  go_wp2_with fail
  go_loopw [44] (fun q wr => ∃ (k : Nat) (F : Nat → Prop) (S : MS), k ≤ L0 ∧ q = .int .i64 (k : Nat) ∧ MW R P wr tb F S none FN (-1) 0 k ∧ Good S ∧ (∀ k, F k → w.heap.size ≤ k) ∧ Below w.heap.size w wr) (fun q _ => L0 - (intOf q).toNat)
  case atStart => exact ⟨0, F3, MS.new 4, Nat.zero_le _, rfl, HW3.out, Good.new, HI3.out, HB3.out⟩
  case round =>
    obtain ⟨k, F, S, hk, rfl, hmw, hgood, hhi, hbel⟩ := hrel
    rename World => V
    have HMV := Lib.hid hmw
    have HGV := Lib.hid hgood
    have HHV := Lib.hid hhi
    have HBV := Lib.hid hbel
    clear hmw hgood hhi hbel HW3 HI3 HB3
    by_cases hlt : k < L0
    · as_aux_lemma =>
        have HLT := Lib.hid hlt
        obtain ⟨x, hx⟩ : ∃ x, l[k]? = some x := ⟨_, List.getElem?_eq_getElem (by rw [HLL.out]; exact hlt)⟩
        have HLV := Lib.hid (HL.out.on HBV.out)
        have HXV := Lib.hid (HL.out.2.2.2.1 x (List.mem_of_getElem? hx))
        obtain ⟨b, off, rfl, hb, hc⟩ := HLV.out.2.2.2.2 (by omega)
        have hr := hc k x hx
        have hc0 : V.cell? ⟨b, off + k * 4, none⟩ = some (.int .i64 x.kind) := hr 0 _ rfl
        have hc1 : V.cell? ⟨b, off + k * 4 + 1, none⟩ = some (.int .i64 x.at_) := hr 1 _ rfl
        have hc2 : V.cell? ⟨b, off + k * 4 + 2, none⟩ = some (.int .i64 x.x) := hr 2 _ rfl
        have hc3 : V.cell? ⟨b, off + k * 4 + 3, none⟩ = some (.slice x.ka x.kn x.kc) := hr 3 _ rfl
        have qk : (k : Int) < (L0 : Int) := by omega
        obtain ⟨O, hO⟩ : ∃ O, O = Obj.cells #[.int .i64 x.kind, .int .i64 x.at_, .int .i64 x.x, .slice x.ka x.kn x.kc] 31 := ⟨_, rfl⟩
        have hb1 : Below V.heap.size V (V.alloc O) := (Below.refl _ _).alloc (Nat.le_refl _) _
        have HBO := Lib.hid (HBV.out.trans (hb1.mono HBV.out.size))
        have HDO := Lib.hid (do_any HM.out (V.alloc O) tb F S none FN (-1) 0 k w.heap.size x (HMV.out.on HM.out hb1) (by omega) (HXV.out.on HBO.out) (hiN HHV.out) (fun h0 b o e => HXV.out.2.2.2.low h0 e))
        have HKM := Lib.hid (HMV.out.on HM.out hb1)
        have HS0 := Lib.hid (show V.heap.size + 1 = (V.alloc O).heap.size by simp)
        rw [hO] at HDO HBO HKM HS0
        unfold acA at HDO
        clear hlt hx hr hc hb hb1 hO
        by_cases hk0 : 0 ≤ x.kind
        · by_cases hk3 : x.kind < 3
          · have HGD := Lib.hid (doS_goodD HGV.out hk3)
            go_wp2_with (go_at_call 10; go_loud (refine HDO.out.mono ?_; rintro e W2 ⟨F', rfl, hm, hkb, hf⟩; rw [show (none : Option Nat).isSome = false from rfl] at hm; rw [HGD.out.l, HGD.out.u] at hm; have HM2 := Lib.hid hm; have HF2 := Lib.hid (show ∀ k, F' k → w.heap.size ≤ k from fun k h => by rcases hf k h with h | h; exact HHV.out k h; have h1 := HBO.out.size; omega); have HB2' := Lib.hid (HBO.out.trans (hkb.below (hiN HHV.out) HBO.out.size)); clear hm hkb hf))
            go_roundw
            case rel => exact ⟨k + 1, F', _, HLT.out, by go_num, HM2.out, HGD.out.good, HF2.out, HB2'.out⟩
            case measure => simp [intOf]; have := HLT.out; omega
          · have z3 : ¬ x.kind < 3 := hk3
            go_wp2_with fail
            go_roundw
            case rel => exact ⟨k + 1, F, S, HLT.out, by go_num, HKM.out.more (Nat.le_succ _), HGV.out, HHV.out, HBO.out⟩
            case measure => simp [intOf]; have := HLT.out; omega
        · have z0 : ¬ 0 ≤ x.kind := hk0
          go_wp2_with fail
          go_roundw
          case rel => exact ⟨k + 1, F, S, HLT.out, by go_num, HKM.out.more (Nat.le_succ _), HGV.out, HHV.out, HBO.out⟩
          case measure => simp [intOf]; have := HLT.out; omega
    · as_aux_lemma =>
        obtain rfl : k = L0 := by omega
        have HC := Lib.hid (show S.cache.length ≤ 60 by have := HMV.out.few.1; omega)
        have HFI := Lib.hid (show ∀ j, F j → j < V.heap.size from fun j hj => HM.out.inside HMV.out.r j hj)
        obtain ⟨N, hN⟩ : ∃ N, N = S.cache.length := ⟨_, rfl⟩
        have HNN := Lib.hid hN
        have hN60 : N ≤ 60 := by rw [hN]; exact HC.out
        clear hlt hk hN
        go_upto_if 66 with (first
          | (go_at_call 11; go_loud (refine (HM.out.copy tb F S none none V HMV.out.r HMV.out.ok (by have := HC.out; omega)).mono ?_; rintro e w4 ⟨tc, Fc, rfl, hr, hf, hb⟩; have HR4 := Lib.hid hr; have HF4 := Lib.hid hf; have HB4 := Lib.hid hb; clear hr hf hb))
          | (go_at_call 12; go_loud (refine (HM.out.crash tc Fc S none none 0 0 [] w4 HR4.out HMV.out.ok (by have := HC.out; omega) (ArgB.nil _) (fun h => absurd h (by omega))).mono ?_; rintro e w5 ⟨F5, rfl, hr, hk, hf⟩; have HR5 := Lib.hid hr; have HF5 := Lib.hid (show ∀ k, F5 k → V.heap.size ≤ k from fun k h => by rcases hf k h with h | h; exact HF4.out k h; have := HB4.out.size; omega); have HB5 := Lib.hid (show Below V.heap.size V w5 from HB4.out.trans (hk.below HF4.out HB4.out.size)); clear hr hk hf))
          | (go_at_call 13; go_loud (refine (HM.out.cached tb F S none w5 (HM.out.keep HMV.out.r (fun j hj => HB5.out.block j (HFI.out j hj))) HMV.out.ok (by have := HC.out; omega)).mono ?_; rintro e w6 ⟨a6, c6, ds, rfl, ho, hds, hd, hb⟩; rw [← HNN.out] at ho hds ⊢; have HO6 := Lib.hid ho; have HDS := Lib.hid hds; have HD6 := Lib.hid hd; have HB6 := Lib.hid (bt HB5.out hb); have HRC := Lib.hid (HM.out.keep HR5.out (fun j hj => hb.block j (HM.out.inside HR5.out j hj))); clear ho hds hd hb)))
        have HWV := Lib.hid (show w.heap.size ≤ V.heap.size from HBV.out.size)
        have HB6w := Lib.hid (show Below w.heap.size w w6 from HBV.out.trans (HB6.out.mono HBV.out.size))
        have HV6 := Lib.hid HB6.out.size
        go_cut [1] from 66 to 74 (fun kv wx => ∃ (a : Option Addr) (n c : Nat) (ks : List Bool), kv = .slice a n c ∧ ArgB wx a n c ks ∧ Off F a n ∧ (all = true → ks = List.replicate N true) ∧ Below w6.heap.size w6 wx)
        case first =>
          cases all
          · go_wp2
            go_meet
            exact ⟨a1, L1, c1, kp, rfl, HK.out.on HB6w.out, (fun h0 b o e hf => by have h1 := HK.out.low h0 e; have h2 := HHV.out b hf; omega), (fun h => by cases h), Below.refl _ _⟩
          · go_wp2_with fail
            go_loopw [69, 1] (fun q kv wr => ∃ (m : Nat) (a : Option Addr) (c : Nat), m ≤ N ∧ q = .int .i64 (m : Nat) ∧ kv = .slice a m c ∧ wr.ownsRow w6.heap.size 4 1 (.slice a m c) m ((List.replicate m true).map Value.bool) ∧ Below w6.heap.size w6 wr) (fun q _ _ => N - (intOf q).toNat)
            case atStart => exact ⟨0, none, 0, Nat.zero_le _, rfl, rfl, World.ownsRow_nil _ _ _ _, Below.refl _ _⟩
            case round =>
              obtain ⟨m, a, c, hm, rfl, rfl, hown, hbel⟩ := hrel
              rename World => U
              have HOU := Lib.hid hown
              have HBU := Lib.hid hbel
              clear hown hbel
              by_cases hlt : m < N
              · have HLT := Lib.hid hlt
                obtain ⟨iB, hi, hz0, hz1, hz2⟩ := info_parts infoBl
                have HI := Lib.hid (And.intro hi (And.intro hz0 (And.intro hz1 hz2)))
                have HS6 := Lib.hid (show w6.heap.size ≤ U.heap.size from HBU.out.size)
                have qm : (m : Int) < (N : Int) := by omega
                clear hi hz0 hz1 hz2 hlt
                go_wp2_with ((with_reducible show wpList _ _ _ (⟨some 73, _, _, _, _, _⟩ :: _) _ _); go_loud (refine wpList_append_own _ rfl (.tmp 71) (.tmp 72) 23 rfl w6.heap.size 4 iB (.bool false) 1 1 Try.underlying23 HI.out.1 HI.out.2.1 HI.out.2.2.1 HI.out.2.2.2 rfl (by decide) _ m ((List.replicate m true).map Value.bool) rfl (HOU.out.alloc _) ⟨U.heap.size, 0, none⟩ 1 1 [.bool true] rfl rfl (cell_one_new _ _ _) (by simp [Value.oneCell']) (by unfold maxLen; omega) (by omega) (by have := HS6.out; simp; omega) ?_; intro v7 w7 ho7 hg7 _))
                have HB7 := Lib.hid (show Below w6.heap.size w6 w7 from (HBU.out.alloc HS6.out (.cells #[.bool true] 4)).grown hg7 (by have := HS6.out; simp; omega) (fun k' e => (own_lt HOU.out e).1))
                obtain ⟨g', cap', rfl, -, -⟩ := ho7.form (Nat.succ_pos _)
                have HO7 := Lib.hid (show w7.ownsRow w6.heap.size 4 1 (.slice (some ⟨g', 0, none⟩) (m + 1) cap') (m + 1) ((List.replicate (m + 1) true).map Value.bool) from by rw [List.replicate_succ', List.map_append]; exact ho7)
                clear ho7 hg7
                go_roundw
                case rel => exact ⟨m + 1, _, _, HLT.out, by go_num, rfl, HO7.out, HB7.out⟩
                case measure => simp [intOf]; have := HLT.out; omega
              · obtain rfl : m = N := by omega
                go_wp2_with fail
                go_meet
                refine ⟨a, m, c, List.replicate m true, rfl, ?_, ?_, fun _ => rfl, HBU.out⟩
                · exact argB_own HOU.out
                · exact fun h0 b o e hf => by have h1 := (own_lt HOU.out (show (Value.slice a m c).ownBlock = some b from by rw [e]; rfl)).1; have h2 := HFI.out b hf; have h3 := HV6.out; omega
        case rest =>
          rename World => wx
          obtain ⟨ak, nk, ck, ks, rfl, hka, hko, hks, hkb⟩ := hcut
          have HKA := Lib.hid hka
          have HKO := Lib.hid hko
          have HKS := Lib.hid hks
          have HBX := Lib.hid hkb
          have HVX := Lib.hid (show V.heap.size ≤ wx.heap.size from Nat.le_trans HV6.out hkb.size)
          have HRX := Lib.hid (HM.out.keep HMV.out.r (fun j hj => (HB6.out.trans (hkb.mono HV6.out)).block j (HFI.out j hj)))
          clear hka hko hks hkb HK HL HLL HFE HFB hL0
          have hmk := run_make_row' (P := Try.prog) 38 9 (.string ByteArray.empty) 16 Try.underlying38 infoSt rfl .i64 .i64 4 (by omega) (by omega)
          rw [show ((4 : Nat) : Int) = 2 * 2 from rfl] at hmk
          simp only [Int.reduceMul] at hmk
          have HS0 := Lib.hid (show (wx.alloc (.cells (madeCells #[.string ByteArray.empty] 4) 9)).ownsRow wx.heap.size 9 1 (.slice (some ⟨wx.heap.size, 0, none⟩) 4 4) 4 (strV S 0) from by rw [strV_zero, ← toList_madeCells_one]; exact World.ownsRow_lit (base := wx.heap.size) (e := 9) (size := 1) wx (madeCells #[.string ByteArray.empty] 4) 4 (Nat.le_refl _) (by unfold maxLen; omega) (by simp [size_madeCells]))
          have HSB := Lib.hid (show Below wx.heap.size wx (wx.alloc (.cells (madeCells #[.string ByteArray.empty] 4) 9)) from (Below.refl _ _).alloc (Nat.le_refl _) _)
          go_wp2_with fail
          clear hmk
          obtain ⟨gs, hgs⟩ : ∃ gs, gs = wx.heap.size := ⟨_, rfl⟩
          have HGS := Lib.hid hgs
          rw [← hgs] at HS0 ⊢
          clear hgs
          go_loopw [78] (fun q wr => ∃ m : Nat, m ≤ 4 ∧ q = .int .i64 (m : Nat) ∧ wr.ownsRow gs 9 1 (.slice (some ⟨gs, 0, none⟩) 4 4) 4 (strV S m) ∧ Below wx.heap.size wx wr) (fun q _ => 4 - (intOf q).toNat)
          case atStart => exact ⟨0, by omega, rfl, HS0.out, HSB.out⟩
          case round =>
            obtain ⟨m, hm, rfl, hown, hbel⟩ := hrel
            rename World => U
            have HOU := Lib.hid hown
            have HBU := Lib.hid hbel
            clear hown hbel HS0 HSB
            have HRU := Lib.hid (HM.out.keep HRX.out (fun j hj => HBU.out.block j (by have := HFI.out j hj; have := HVX.out; omega)))
            by_cases hlt : m < 4
            · as_aux_lemma =>
                have HLT := Lib.hid hlt
                have qm : (m : Int) < 4 := by omega
                clear hlt
                go_upto_region 24 with (go_at_call 14; go_loud (refine (readN HM.out U tb F S (sh S m) HRU.out HMV.out.ok (by have := HC.out; omega) (m : Int) (by unfold i64R; omega) (HGV.out.read HLT.out) (HGV.out.ok HMV.out.ok m).1).mono ?_; rintro e w7 ⟨a7, c7, rfl, ha, hna, hr, hb⟩; have HA7 := Lib.hid ha; have HB7 := Lib.hid (HBU.out.trans (hb.mono HBU.out.size)); have HO7 := Lib.hid (own_belowU HOU.out hb); clear ha hna hr hb))
                have hcv := HA7.out.strU _ (Below.refl _ _)
                obtain ⟨v0, hv0⟩ : ∃ v0, (strV S m)[m]? = some v0 := ⟨_, List.getElem?_eq_getElem (by rw [strV_len]; exact HLT.out)⟩
                have hcl := HO7.out.cellAt m (by have := HLT.out; omega)
                rw [hv0] at hcl
                clear hv0
                have hfz := HO7.out.frozenAt m
                go_wp2_with fail
                go_roundw
                case rel =>
                  refine ⟨m + 1, HLT.out, by go_num, ?_, HB7.out.setCell (by rw [HGS.out]; exact Nat.le_refl _) _⟩
                  have h := (HO7.out.stored m (.string (strOfNums (sh S m)))).1
                  rw [strV_set S HLT.out] at h
                  exact h
                case measure => simp [intOf]; have := HLT.out; omega
            · as_aux_lemma =>
                obtain rfl : m = 4 := by omega
                have HKU := Lib.hid (HKA.out.on HBU.out)
                have HB6U := Lib.hid (show Below w6.heap.size w6 U from HBX.out.trans (HBU.out.mono HBX.out.size))
                have HV5 := Lib.hid (show V.heap.size ≤ w5.heap.size from HB5.out.size)
                have HRCU := Lib.hid (HM.out.keep HRC.out (fun j hj => HB6U.out.block j (HM.out.inside HRC.out j hj)))
                have HOU6 := Lib.hid (own_belowU HO6.out HB6U.out)
                have HVU := Lib.hid (show V.heap.size ≤ U.heap.size from Nat.le_trans HV6.out HB6U.out.size)
                go_upto_region 27 with (go_at_call 12; go_loud (refine (HM.out.crash tb F S none ak nk ck ks U HRU.out HMV.out.ok (by have := HC.out; omega) HKU.out HKO.out).mono ?_; rintro e w8 ⟨F8, rfl, hr, hk, hf⟩; have HR8 := Lib.hid hr; have HK8 := Lib.hid hk; clear hr hk hf))
                have HKE := Lib.hid (show ∀ k, V.heap.size ≤ k → k < U.heap.size → w8.heap[k]? = U.heap[k]? from fun k h1 h2 => HK8.out.2 k h2 (fun hf => by have := HFI.out k hf; omega))
                have HRC8 := Lib.hid (HM.out.keep HRCU.out (fun j hj => HKE.out j (HF5.out j hj) (HM.out.inside HRCU.out j hj)))
                have HS8 := Lib.hid (own_blockT HOU.out (fun g e => HKE.out g (by have := (own_lt HOU.out e).1; have := HGS.out; have := HVX.out; omega) (own_lt HOU.out e).2))
                have HO8 := Lib.hid (own_blockT HOU6.out (fun g e => HKE.out g (by have := (own_lt HOU6.out e).1; have := HV5.out; omega) (own_lt HOU6.out e).2))
                have HB8 := Lib.hid (show Below w.heap.size w w8 from (HB6w.out.trans (HB6U.out.mono HB6w.out.size)).trans (HK8.out.below HHV.out (by have := HVU.out; have := HWV.out; omega)))
                have HD8 := Lib.hid (show ∀ (k : Nat) (x : CW) (d : Option Addr × Nat), S.cache[k]? = some x → ds[k]? = some d → Arg8c w8 d.1 512 d.2 x.2 from fun k x d h1 h2 => by
                  obtain ⟨h3, h4⟩ := HD6.out k x d h1 h2
                  refine (h3.onU HB6U.out).blockT (fun h0 b o e => HKE.out b (by have := h4 h0 b o e; have := HV5.out; omega) ?_)
                  obtain ⟨b', o', e', hb', _⟩ := (h3.onU HB6U.out).1.2.2.1 (by rw [(h3.onU HB6U.out).1.1]; exact h0)
                  rw [e] at e'; cases e'; exact hb')
                have HGC := Lib.hid (HGV.out.crash ks)
                have HGZ := Lib.hid (HGV.out.crash [])
                have HKC := Lib.hid (HMV.out.ok.crash ks)
                have HKZ := Lib.hid (HMV.out.ok.crash [])
                have HBS := Lib.hid (show ∀ k x, S.cache[k]? = some x → secOk x.2 from fun k x h => (HMV.out.ok.cache x (List.mem_of_getElem? h)).2)
                clear HRX HRU HOU HKU HRCU HOU6 HO6 HD6 HRC HR4 HR5 HKA HBX HBU HKE HK8 HKO
                go_wp2_with fail
                go_loopw [96] (fun q wr => ∃ i : Nat, i ≤ 4 ∧ q = .int .i64 (i : Nat) ∧ Below w8.heap.size w8 wr) (fun q _ => 4 - (intOf q).toNat)
                case atStart => exact ⟨0, by omega, rfl, Below.refl _ _⟩
                case round =>
                  obtain ⟨i, hi, rfl, hbel⟩ := hrel
                  rename World => Y
                  have HBY := Lib.hid hbel
                  clear hbel
                  by_cases hlt : i < 4
                  · as_aux_lemma =>
                      have HLT := Lib.hid hlt
                      have qi : (i : Int) < 4 := by omega
                      clear hlt
                      go_upto_region 31 with (go_at_call 14; go_loud (refine (readN HM.out Y tb F8 (S.crash ks) (sh (S.crash ks) i) (HM.out.keep HR8.out (fun j hj => HBY.out.block j (HM.out.inside HR8.out j hj))) HKC.out (by simp [MS.crash]) (i : Int) (by unfold i64R; omega) (HGC.out.read HLT.out) (HGC.out.ok HKC.out i).1).mono ?_; rintro e w9 ⟨a9, c9, rfl, ha, hna, hr, hb⟩; have HA9 := Lib.hid ha; have HB9 := Lib.hid (bt HBY.out hb); clear ha hna hr hb))
                      go_upto_region 32 with (go_at_call 14; go_loud (refine (readN HM.out w9 tc F5 (S.crash []) (sh (S.crash []) i) (HM.out.keep HRC8.out (fun j hj => HB9.out.block j (HM.out.inside HRC8.out j hj))) HKZ.out (by simp [MS.crash]) (i : Int) (by unfold i64R; omega) (HGZ.out.read HLT.out) (HGZ.out.ok HKZ.out i).1).mono ?_; rintro e w10 ⟨a10, c10, rfl, ha, hna, hr, hb⟩; have HA10 := Lib.hid ha; have HA9b := Lib.hid (HA9.out.onU hb); have HB10 := Lib.hid (bt HB9.out hb); clear ha hna hr hb))
                      have HO10 := Lib.hid (own_belowU HO8.out HB10.out)
                      have HS10 := Lib.hid (own_belowU HS8.out HB10.out)
                      obtain ⟨b, hb⟩ : ∃ b, b = sh (S.crash ks) i := ⟨_, rfl⟩
                      obtain ⟨was, hwas⟩ : ∃ was, was = sh (S.crash []) i := ⟨_, rfl⟩
                      have HBB := Lib.hid (show AllB b by rw [hb]; exact (HGC.out.ok HKC.out i).2)
                      have HWB := Lib.hid (show AllB was by rw [hwas]; exact (HGZ.out.ok HKZ.out i).2)
                      have HIC := Lib.hid (show inC b was S.cache i N = true by rw [hb, hwas, HNN.out]; exact inC_all HGV.out ks i)
                      have HAL := Lib.hid (show all = true → b = sh S i from fun h => by rw [hb, HKS.out h]; exact sh_all (by rw [HNN.out]; exact Nat.le_refl _) i)
                      rw [← hb] at HA9b
                      rw [← hwas] at HA10
                      obtain ⟨BS, hBS⟩ : ∃ BS, BS = strOfNums b := ⟨_, rfl⟩
                      obtain ⟨WS, hWS⟩ : ∃ WS, WS = strOfNums was := ⟨_, rfl⟩
                      have HBS9 := Lib.hid hBS
                      have hcv9 := HA9b.out.strU _ (Below.refl _ _)
                      have hcv10 := HA10.out.strU _ (Below.refl _ _)
                      rw [← hBS] at hcv9
                      rw [← hWS] at hcv10
                      have he0 : (BS.toList == WS.toList) = inC b was S.cache i 0 := by rw [hBS, hWS, str_dec HBB.out HWB.out, inC_zero]
                      have HCB := Lib.hid (show ∀ W, Below w10.heap.size w10 W → (convert 39 9 (.slice a9 512 c9)).run Try.prog W = .ok (.string BS) W from fun W hW => by rw [hBS]; exact HA9b.out.strU W hW)
                      clear hb hwas hBS hWS HA9 HA9b HA10
                      go_wp2_with fail
                      clear hcv9 hcv10 he0
                      go_loopw [118, 22] (fun q v wr => ∃ m : Nat, m ≤ N ∧ q = .int .i64 (m : Nat) ∧ v = .bool (inC b was S.cache i m) ∧ Below w10.heap.size w10 wr) (fun q _ _ => N - (intOf q).toNat)
                      case atStart => exact ⟨0, Nat.zero_le _, rfl, rfl, Below.refl _ _⟩
                      case round =>
                        obtain ⟨m, hm, rfl, rfl, hbel⟩ := hrel
                        rename World => Z
                        have HBZ := Lib.hid hbel
                        clear hbel
                        by_cases hlt : m < N
                        · as_aux_lemma =>
                            have HLM := Lib.hid hlt
                            obtain ⟨x, hx⟩ : ∃ x, S.cache[m]? = some x := ⟨_, List.getElem?_eq_getElem (by rw [← HNN.out]; exact hlt)⟩
                            obtain ⟨d, hd⟩ : ∃ d, ds[m]? = some d := ⟨_, List.getElem?_eq_getElem (by rw [HDS.out]; exact hlt)⟩
                            have HOZ := Lib.hid (own_belowU HO10.out HBZ.out)
                            obtain ⟨g6, rfl⟩ := own_someT2 HOZ.out (by omega)
                            obtain ⟨k1, k2⟩ := cwC_get S.cache ds m x d hx hd
                            have hc0 := HOZ.out.cellAt (m * 2) (by omega)
                            have hc1 := HOZ.out.cellAt (m * 2 + 1) (by omega)
                            rw [k1] at hc0
                            rw [k2] at hc1
                            have HXD := Lib.hid (((HD8.out m x d hx hd).onU HB10.out).onU HBZ.out)
                            have HNX := Lib.hid (inC_next (b := b) (was := was) (i := i) hx)
                            have HXS := Lib.hid (HBS.out m x hx)
                            have qm : (m : Int) < (N : Int) := by omega
                            obtain ⟨sx, hsx⟩ : ∃ sx, sx = x.1 := ⟨_, rfl⟩
                            have HSX := Lib.hid hsx
                            rw [← hsx] at hc0
                            have HBZ2 := Lib.hid (show Below w10.heap.size w10 (Z.alloc (.cells #[.int .i64 (sx : Nat), .slice d.1 512 d.2] 43)) from HBZ.out.alloc HBZ.out.size _)
                            have hcd := HXD.out.strU _ ((Below.refl _ Z).alloc (Nat.le_refl _) (.cells #[.int .i64 (sx : Nat), .slice d.1 512 d.2] 43))
                            have hcb := HCB.out _ HBZ2.out
                            obtain ⟨XS, hXS⟩ : ∃ XS, XS = strOfNums x.2 := ⟨_, rfl⟩
                            rw [← hXS] at hcd
                            have he1 : (XS.toList == BS.toList) = decide (x.2 = b) := by rw [hXS, HBS9.out, str_dec HXS.out.2 HBB.out]
                            obtain ⟨dd, hdd⟩ : ∃ dd, dd = decide (x.2 = b) := ⟨_, rfl⟩
                            rw [← hdd] at he1
                            have HDD := Lib.hid hdd
                            obtain ⟨ii, hii⟩ : ∃ ii, ii = inC b was S.cache i m := ⟨_, rfl⟩
                            have HII := Lib.hid hii
                            rw [← hii]
                            obtain ⟨a', ad⟩ := d
                            clear hlt hx hd k1 k2 hsx hXS hdd hii
                            cases ii
                            · by_cases hs : sx = i
                              · have z1 : ((sx : Int) == (i : Int)) = true := by simp [hs]
                                have HSI := Lib.hid hs
                                clear hs
                                go_wp2_with fail
                                go_roundw
                                case rel => exact ⟨m + 1, HLM.out, by go_num, by rw [HNX.out, ← HII.out, ← HSX.out, decide_eq_true HSI.out, ← HDD.out, Bool.false_or, Bool.true_and], HBZ2.out⟩
                                case measure => simp [intOf]; have := HLM.out; omega
                              · have z1 : ((sx : Int) == (i : Int)) = false := by rw [beq_eq_false_iff_ne]; omega
                                have HSI := Lib.hid hs
                                clear hs
                                go_wp2_with fail
                                go_roundw
                                case rel => exact ⟨m + 1, HLM.out, by go_num, by rw [HNX.out, ← HII.out, ← HSX.out, decide_eq_false HSI.out, Bool.false_and, Bool.or_false], HBZ2.out⟩
                                case measure => simp [intOf]; have := HLM.out; omega
                            · go_wp2_with fail
                              go_roundw
                              case rel => exact ⟨m + 1, HLM.out, by go_num, by rw [HNX.out, ← HII.out, Bool.true_or], HBZ2.out⟩
                              case measure => simp [intOf]; have := HLM.out; omega
                        · as_aux_lemma =>
                            obtain rfl : m = N := by omega
                            rw [HIC.out]
                            have HZ8 := Lib.hid (show Below w8.heap.size w8 Z from HB10.out.trans (HBZ.out.mono HB10.out.size))
                            have HSZ := Lib.hid (own_belowU HS10.out HBZ.out)
                            cases all
                            · go_upto_region 38 with fail
                              go_quiet (fail)
                              go_wp2_with fail
                              go_roundw
                              case rel => exact ⟨i + 1, HLT.out, by go_num, below_drewN HZ8.out _⟩
                              case measure => simp [intOf]; have := HLT.out; omega
                            · have hcz : ∀ q, (convert 39 9 (.slice a9 512 c9)).run Try.prog (Z.drewN q) = .ok (.string BS) (Z.drewN q) := fun q => HCB.out _ (below_drewN HBZ.out q)
                              have hcl := HSZ.out.cellAt i (by have := HLT.out; omega)
                              rw [strV_get S HLT.out HLT.out, ← HAL.out rfl, ← HBS9.out] at hcl
                              have hbb : (BS.toList == BS.toList) = true := by simp
                              go_upto_region 38 with fail
                              go_quiet (fail)
                              go_wp2_with fail
                              go_roundw
                              case rel => exact ⟨i + 1, HLT.out, by go_num, below_drewN HZ8.out _⟩
                              case measure => simp [intOf]; have := HLT.out; omega
                  · obtain rfl : i = 4 := by omega
                    go_wp2_with fail
                    go_ret
                    exact ⟨rfl, HB8.out.trans (HBY.out.mono HB8.out.size)⟩
theorem mediumShows_long {R : World → Nat → (Nat → Prop) → MS → Option Nat → Prop} {P : World → Nat → (Nat → Prop) → Int → Nat → Prop} (hM : MediumM R P) (a0 : Option Addr) (L0 c0 : Nat) (a1 : Option Addr) (L1 c1 : Nat) (all : Bool) (l : List AC) (w : World)
    (hl : ActA w a0 L0 c0 l) (hL : ¬ (((∀ x, x ∈ l → x.kn ≤ 60) ∧ L0 ≤ 60) ∧ L1 ≤ 100)) :
    Calls Try.prog 3 #[.slice a0 L0 c0, .slice a1 L1 c1, .bool all] w fun e w' => e = .returned (.bool true) ∧ Below w.heap.size w w' := by
  have HM := Lib.hid hM
  have HL := Lib.hid hl
  obtain ⟨fb, hfb⟩ : ∃ fb, fb = decide ((∀ x, x ∈ l → x.kn ≤ 60) ∧ L0 ≤ 60) := ⟨_, rfl⟩
  have HFB := Lib.hid hfb
  have q1 : fb = true → (100 : Int) < (L1 : Int) := fun h => by
    rw [hfb] at h
    have := of_decide_eq_true h
    have : ¬ L1 ≤ 100 := fun h1 => hL ⟨this, h1⟩
    omega
  clear hM hl hL hfb
  cases fb
  all_goals
    first
      | (have q2 := q1 rfl; clear q1)
      | clear q1
    go_enter Try.func3, Try.ntmps3
    go_upto_region 2 with (first
      | (go_at_call 7; go_loud (refine (lives13 HM.out w).mono ?_; rintro e w1 ⟨rfl, hb⟩; have HB1 := Lib.hid hb; clear hb))
      | (go_at_call 8; go_loud (refine (few_any a0 L0 c0 l w1 (HL.out.on HB1.out)).mono ?_; rintro e w2 ⟨rfl, hb⟩; rw [← HFB.out]; have HB2 := Lib.hid (bt HB1.out hb); clear hb)))
    go_wp2_with (go_at_call 7; go_loud (refine (lives13 HM.out w2).mono ?_; rintro e w3 ⟨rfl, hb⟩; have HB3 := Lib.hid (bt HB2.out hb); clear hb))
    go_ret
    exact ⟨rfl, HB3.out⟩
theorem mediumShows_any {R : World → Nat → (Nat → Prop) → MS → Option Nat → Prop} {P : World → Nat → (Nat → Prop) → Int → Nat → Prop} (hM : MediumM R P) (a0 : Option Addr) (L0 c0 : Nat) (a1 : Option Addr) (L1 c1 : Nat) (all : Bool) (w : World) (w0 : ∃ l, ActA w a0 L0 c0 l) (w1 : ∃ l, ArgB w a1 L1 c1 l) :
    Calls Try.prog 3 #[.slice a0 L0 c0, .slice a1 L1 c1, .bool all] w fun e w' => e = .returned (.bool true) ∧ Below w.heap.size w w' := by
  obtain ⟨l, hl⟩ := w0
  obtain ⟨kp, hk⟩ := w1
  by_cases h : ((∀ x, x ∈ l → x.kn ≤ 60) ∧ L0 ≤ 60) ∧ L1 ≤ 100
  · exact mediumShows_core hM a0 L0 c0 a1 L1 c1 all l kp w hl hk h.1 h.2
  · exact mediumShows_long hM a0 L0 c0 a1 L1 c1 all l w hl h
end Go.Proofs.Ytoonaendakjecaa
