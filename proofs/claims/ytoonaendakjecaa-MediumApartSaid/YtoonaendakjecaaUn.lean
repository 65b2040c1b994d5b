/- MediumApart under the contracts. -/
import Derived.Test.YtoonaendakjecaaUf
import Derived.Test.YtoonaendakjecaaUh
namespace Go.Proofs.Ytoonaendakjecaa
open Go.ChangeShapes Go.WideShapes Go.ChangeAt Go.RowKit Go.Shelf
set_option linter.unusedVariables false
set_option linter.unusedSimpArgs false
set_option maxRecDepth 100000

/-- With no power the power stays. -/
structure NoP (D : DS) : Prop where
  l : D.l = -1
  u : D.u = 0
theorem doS_noP (a : AC) (S : MS) : NoP (doS false a S (-1) 0) :=
  have h : ∀ o e S', NoP ⟨o, e, S', -1, 0⟩ := fun _ _ _ => ⟨rfl, rfl⟩
  doS_ind (opWrite_ind (fun _ => h _ _ _) (fun _ _ => h _ _ _)) (opRead_ind (fun _ => h _ _ _) (fun _ _ => h _ _ _)) (opFlush_ind (fun _ => h _ _ _) (h _ _ _)) (h _ _ _) (h _ _ _) (h _ _ _) (opLose_ind (fun _ => h _ _ _) (h _ _ _)) (opSpoil_ind (fun _ => h _ _ _) (fun _ => h _ _ _)) (h _ _ _) (h _ _ _)
theorem opW_dark {S : MS} (hs : S.size = 4) : opWrite true S 0 (secX 1) 0 0 = ⟨[], 9, S, 0, 0⟩ := by
  have h : (secX 1).length = 512 := (secX_ok (x := 1) (by omega)).1
  unfold opWrite
  split
  · rfl
  · rw [if_neg (by unfold inR; rw [hs]; omega), if_neg (by simp [h]), if_pos rfl]
set_option maxHeartbeats 16000000 in
theorem mediumApart_core {R : World → Nat → (Nat → Prop) → MS → Option Nat → Prop} {P : World → Nat → (Nat → Prop) → Int → Nat → Prop} (hM : MediumM R P) (sz : Int) (a0 : Option Addr) (L0 c0 : Nat) (a1 : Option Addr) (L1 c1 : Nat) (l l1 : List AC) (w : World)
    (hz : i64R sz) (hl : ActA w a0 L0 c0 l) (hl1 : ActA w a1 L1 c1 l1) (hfew : (∀ x, x ∈ l → x.kn ≤ 60) ∧ L0 ≤ 60) (hfew1 : (∀ x, x ∈ l1 → x.kn ≤ 60) ∧ L1 ≤ 60) :
    Calls Try.prog 6 #[.int .i64 sz, .slice a0 L0 c0, .slice a1 L1 c1] w fun e w' => e = .returned (.bool true) ∧ Below w.heap.size w w' := by
  have HM := Lib.hid hM
  have HZ := Lib.hid hz
  have HL := Lib.hid hl
  have HL1 := Lib.hid hl1
  have HLL := Lib.hid hl.1
  have HLL1 := Lib.hid hl1.1
  have hL0 : L0 ≤ 60 := hfew.2
  have hL1 : L1 ≤ 60 := hfew1.2
  obtain ⟨fb, hfb⟩ : ∃ fb, fb = decide ((∀ x, x ∈ l → x.kn ≤ 60) ∧ L0 ≤ 60) := ⟨_, rfl⟩
  obtain ⟨fc, hfc⟩ : ∃ fc, fc = decide ((∀ x, x ∈ l1 → x.kn ≤ 60) ∧ L1 ≤ 60) := ⟨_, rfl⟩
  have HFB := Lib.hid hfb
  have HFC := Lib.hid hfc
  have hft : fb = true := by rw [hfb]; exact decide_eq_true hfew
  have hgt : fc = true := by rw [hfc]; exact decide_eq_true hfew1
  clear hM hl hl1 hfew hfew1 hfb hfc hz
  subst hft
  subst hgt
  have HR4 := Lib.hid (show ∀ W : World, Below w.heap.size w W → Calls Try.prog 9 #[.int .i64 sz, .pointer none] W fun e w' => ∃ p, e = .returned (.tuple #[.pointer p, .int .i64 (if 1 ≤ sz ∧ sz ≤ 2048 then 0 else 2)]) ∧ Below W.heap.size W w' from fun W hW => by
    by_cases h : 1 ≤ sz ∧ sz ≤ 2048
    · rw [if_pos h]
      obtain ⟨n, rfl⟩ : ∃ n : Nat, sz = (n : Int) := ⟨sz.toNat, by omega⟩
      refine (HM.out.new n none W (by omega) (by omega)).mono ?_
      rintro e w' ⟨tb, F, rfl, _, _, hb⟩
      exact ⟨_, rfl, hb⟩
    · rw [if_neg h]
      refine (HM.out.newBad sz none W HZ.out h).mono ?_
      rintro e w' ⟨p, rfl, hb⟩
      exact ⟨p, rfl, hb⟩)
  obtain ⟨er, her⟩ : ∃ er, er = (if 1 ≤ sz ∧ sz ≤ 2048 then (0 : Int) else 2) := ⟨_, rfl⟩
  rw [← her] at HR4
  have HER := Lib.hid her
  clear her
  go_enter Try.func6, Try.ntmps6
  go_upto_region 4 with (first
    | (go_at_call 7; go_loud (refine (lives13 HM.out w).mono ?_; rintro e w1 ⟨rfl, hb⟩; have HB1 := Lib.hid hb; clear hb))
    | (go_at_call_of 8 (Value.slice a0 L0 c0); go_loud (refine (few_any a0 L0 c0 l w1 (HL.out.on HB1.out)).mono ?_; rintro e w2 ⟨rfl, hb⟩; rw [← HFB.out]; have HB2 := Lib.hid (bt HB1.out hb); clear hb))
    | (go_at_call_of 8 (Value.slice a1 L1 c1); go_loud (refine (few_any a1 L1 c1 l1 w2 (HL1.out.on HB2.out)).mono ?_; rintro e w3 ⟨rfl, hb⟩; rw [← HFC.out]; have HB3 := Lib.hid (bt HB2.out hb); clear hb))
    | (go_at_call 9; go_loud (refine (HR4.out w3 HB3.out).mono ?_; rintro e w4 ⟨p4, rfl, hb⟩; have HB4 := Lib.hid (bt HB3.out hb); clear hb)))
  clear HR4
  go_cut [56] from 40 to 56 (fun c wx => c = .bool false ∧ wx = w4)
  case first =>
    by_cases h1 : 1 ≤ sz
    · by_cases h2 : sz ≤ 2048
      · have z0 : (er == 0) = true := by rw [HER.out, if_pos ⟨h1, h2⟩]; rfl
        have z1 : (er != 0) = false := by rw [HER.out, if_pos ⟨h1, h2⟩]; rfl
        go_wp2_with fail
        go_meet
        exact ⟨rfl, rfl⟩
      · have z0 : (er == 0) = false := by rw [HER.out, if_neg (fun h => h2 h.2)]; rfl
        have z1 : (er != 0) = true := by rw [HER.out, if_neg (fun h => h2 h.2)]; rfl
        have z2 : (er != 2) = false := by rw [HER.out, if_neg (fun h => h2 h.2)]; rfl
        go_wp2_with fail
        go_meet
        exact ⟨rfl, rfl⟩
    · have z0 : (er == 0) = false := by rw [HER.out, if_neg (fun h => h1 h.1)]; rfl
      have z1 : (er != 0) = true := by rw [HER.out, if_neg (fun h => h1 h.1)]; rfl
      have z2 : (er != 2) = false := by rw [HER.out, if_neg (fun h => h1 h.1)]; rfl
      go_wp2_with fail
      go_meet
      exact ⟨rfl, rfl⟩
  case rest =>
    obtain ⟨rfl, rfl⟩ := hcut
    go_upto_region 7 with (go_at_call 9; go_loud (refine (HM.out.new 4 none wc (by omega) (by omega)).mono ?_; rintro e w5 ⟨tb, F3, rfl, hr, hf, hb⟩; have HW3 := Lib.hid (mwN (P := P) hr (MS.new_ok (by omega) (by omega)) (j := 0) (Nat.le_refl _)); have HI3 := Lib.hid (show ∀ k, F3 k → w.heap.size ≤ k from fun k h => by have h1 := hf k h; have h2 := HB4.out.size; omega); have HB5 := Lib.hid (bt HB4.out hb); clear hr hf hb))
    go_wp2_with fail
    go_loopw [63] (fun q wr => ∃ (k : Nat) (F : Nat → Prop) (S : MS), k ≤ L0 ∧ q = .int .i64 (k : Nat) ∧ MW R P wr tb F S none FN (-1) 0 k ∧ S.size = 4 ∧ (∀ k, F k → w.heap.size ≤ k) ∧ Below w.heap.size w wr) (fun q _ => L0 - (intOf q).toNat)
    case atStart => exact ⟨0, F3, MS.new 4, Nat.zero_le _, rfl, HW3.out, rfl, HI3.out, HB5.out⟩
    case round =>
      obtain ⟨k, F, S, hk, rfl, hmw, hgood, hhi, hbel⟩ := hrel
      rename World => V
      have HMV := Lib.hid hmw
      have HGV := Lib.hid hgood
      have HHV := Lib.hid hhi
      have HBV := Lib.hid hbel
      clear hmw hgood hhi hbel HW3 HI3 HB5
      by_cases hlt : k < L0
      · as_aux_lemma =>
          have HLT := Lib.hid hlt
          obtain ⟨x, hx⟩ : ∃ x, l[k]? = some x := ⟨_, List.getElem?_eq_getElem (by rw [HLL.out]; exact hlt)⟩
          have HLV := Lib.hid (HL.out.on HBV.out)
          have HXV := Lib.hid (HL.out.2.2.2.1 x (List.mem_of_getElem? hx))
          obtain ⟨b, off, rfl, hb, hc⟩ := HLV.out.2.2.2.2 (by omega)
          have hr := hc k x hx
          have hc0 : V.cell? ⟨b, off + k * 4, none⟩ = some (.int .i64 x.kind) := hr 0 _ rfl
          have hc1 : V.cell? ⟨b, off + k * 4 + 1, none⟩ = some (.int .i64 x.at_) := hr 1 _ rfl
          have hc2 : V.cell? ⟨b, off + k * 4 + 2, none⟩ = some (.int .i64 x.x) := hr 2 _ rfl
          have hc3 : V.cell? ⟨b, off + k * 4 + 3, none⟩ = some (.slice x.ka x.kn x.kc) := hr 3 _ rfl
          have qk : (k : Int) < (L0 : Int) := by omega
          obtain ⟨O, hO⟩ : ∃ O, O = Obj.cells #[.int .i64 x.kind, .int .i64 x.at_, .int .i64 x.x, .slice x.ka x.kn x.kc] 31 := ⟨_, rfl⟩
          have hb1 : Below V.heap.size V (V.alloc O) := (Below.refl _ _).alloc (Nat.le_refl _) _
          have HBO := Lib.hid (HBV.out.trans (hb1.mono HBV.out.size))
          have HDO := Lib.hid (do_any HM.out (V.alloc O) tb F S none FN (-1) 0 k w.heap.size x (HMV.out.on HM.out hb1) (by omega) (HXV.out.on HBO.out) (hiN HHV.out) (fun h0 b o e => HXV.out.2.2.2.low h0 e))
          rw [hO] at HDO HBO
          unfold acA at HDO
          have HNP := Lib.hid (doS_noP x S)
          have HSZ := Lib.hid (show (doS false x S (-1) 0).S.size = 4 from by rw [doS_size]; exact HGV.out)
          clear hlt hx hr hc hb hb1 hO
          go_wp2_with (go_at_call 10; go_loud (refine HDO.out.mono ?_; rintro e W2 ⟨F', rfl, hm, hkb, hf⟩; rw [show (none : Option Nat).isSome = false from rfl] at hm; rw [HNP.out.l, HNP.out.u] at hm; have HM2 := Lib.hid hm; have HF2 := Lib.hid (show ∀ k, F' k → w.heap.size ≤ k from fun k h => by rcases hf k h with h | h; exact HHV.out k h; have h1 := HBO.out.size; omega); have HB2' := Lib.hid (HBO.out.trans (hkb.below (hiN HHV.out) HBO.out.size)); clear hm hkb hf))
          go_roundw
          case rel => exact ⟨k + 1, F', _, HLT.out, by go_num, HM2.out, HSZ.out, HF2.out, HB2'.out⟩
          case measure => simp [intOf]; have := HLT.out; omega
      · as_aux_lemma =>
          obtain rfl : k = L0 := by omega
          have HC := Lib.hid (show S.cache.length ≤ 60 by have := HMV.out.few.1; omega)
          have HWV := Lib.hid (show w.heap.size ≤ V.heap.size from HBV.out.size)
          obtain ⟨n, hn⟩ : ∃ n, n = (snapM S).length := ⟨_, rfl⟩
          obtain ⟨SS, hSS⟩ : ∃ SS, SS = strOfNums (snapM S) := ⟨_, rfl⟩
          have HSNAP := Lib.hid (show ∀ (W : World) (tz : Nat) (Fz : Nat → Prop) (pz : Option Nat), R W tz Fz S pz → Calls Try.prog 17 #[tbV tz] W fun e w' => ∃ a c, e = .returned (.slice a n c) ∧ (∀ U, Below w'.heap.size w' U → (convert 39 9 (.slice a n c)).run Try.prog U = .ok (.string SS) U) ∧ R w' tz Fz S pz ∧ Below W.heap.size W w' from fun W tz Fz pz hr => by
            rw [hn, hSS]
            refine (HM.out.snap tz Fz S pz W hr HMV.out.ok (by have := HC.out; omega)).mono ?_
            rintro e w' ⟨a, c, rfl, ha, _, hb⟩
            exact ⟨a, c, rfl, ha.strU, HM.out.keep hr (fun j hj => hb.block j (HM.out.inside hr j hj)), hb⟩)
          have hss : (SS.toList == SS.toList) = true := by simp
          clear hlt hk hn hSS
          go_upto_region 13 with (go_at_call 17; go_loud (refine (HSNAP.out V tb F none HMV.out.r).mono ?_; rintro e w6 ⟨a6, c6, rfl, hcv, hr, hb⟩; have hcv6 := hcv _ (Below.refl _ _); have HR6 := Lib.hid hr; have HB6 := Lib.hid (HBV.out.trans (hb.mono HBV.out.size)); clear hcv hr hb))
          clear hcv6
          go_upto_region 14 with (first
            | (go_at_call 15; go_loud (refine (HM.out.newPower 0 w6 (by unfold i64R; omega)).mono ?_; rintro e w7 ⟨pb, Fp, rfl, hp, hf, hb⟩; rw [show max (0 : Int) (-1) = 0 from rfl] at hp; have HP7 := Lib.hid hp; have HFP := Lib.hid (show ∀ j, Fp j → w6.heap.size ≤ j from hf); have HB7 := Lib.hid (bt HB6.out hb); have HR7 := Lib.hid (HM.out.keep HR6.out (fun j hj => hb.block j (HM.out.inside HR6.out j hj))); have H67 := Lib.hid hb.size; clear hp hf hb))
            | (go_at_call 11; go_loud (refine (HM.out.copy tb F S none (some pb) w7 HR7.out HMV.out.ok (by have := HC.out; omega)).mono ?_; rintro e w8 ⟨tc, Fc, rfl, hr, hf, hb⟩; have HRC := Lib.hid hr; have HFC8 := Lib.hid hf; have HP8 := Lib.hid (HM.out.pkeep HP7.out (fun j hj => hb.block j (HM.out.pinside HP7.out j hj))); have HR8 := Lib.hid (HM.out.keep HR7.out (fun j hj => hb.block j (HM.out.inside HR7.out j hj))); have HB8 := Lib.hid (bt HB7.out hb); clear hr hf hb)))
          have HAP := Lib.hid (show ∀ j, Fc j → ¬ Fp j from fun j h1 h2 => by have h3 := HFC8.out j h1; have h4 := HM.out.pinside HP7.out j h2; omega)
          have H6 := Lib.hid (show ∀ j, F j → j < w6.heap.size from fun j hj => HM.out.inside HR6.out j hj)
          obtain ⟨up, hup⟩ : ∃ up, up = !S.down := ⟨_, rfl⟩
          have HUP := Lib.hid (show ∀ (W : World) (tz : Nat) (Fz : Nat → Prop) (pz : Option Nat), R W tz Fz S pz → Calls Try.prog 19 #[tbV tz] W fun e w' => e = .returned (.bool up) ∧ Below W.heap.size W w' from fun W tz Fz pz hr => by rw [hup]; exact HM.out.up tz Fz S pz W hr)
          have hnu : (up != up) = false := by simp
          have HLW := Lib.hid (show LeftOk 0 from ⟨by omega, by omega⟩)
          clear hup
          go_upto_region 16 with (first
            | (go_at_call 17; go_loud (refine (HSNAP.out w8 tc Fc (some pb) HRC.out).mono ?_; rintro e w9 ⟨a9, c9, rfl, hcv, hr, hb⟩; have hcv9 := hcv _ (Below.refl _ _); have HRC9 := Lib.hid hr; have HB89 := Lib.hid hb; clear hcv hr hb))
            | (go_at_call_of 19 (tbV tc); go_loud (refine (HUP.out w9 tc Fc (some pb) HRC9.out).mono ?_; rintro e w10 ⟨rfl, hb⟩; have HB810 := Lib.hid (bt HB89.out hb); clear hb))
            | (go_at_call_of 19 (tbV tb); go_loud (refine (HUP.out w10 tb F none (HM.out.keep HR8.out (fun j hj => HB810.out.block j (HM.out.inside HR8.out j hj)))).mono ?_; rintro e w11 ⟨rfl, hb⟩; have HB811 := Lib.hid (bt HB810.out hb); clear hb))
            | (go_at_call 26; go_loud (refine (sector_ex 1 w11 (by unfold i64R; omega)).mono ?_; rintro e w12 ⟨g, rfl, hg1, hg2, ho, hb⟩; have HO12 := Lib.hid (own_any ho (secX_B 1)); have HG12 := Lib.hid (show w8.heap.size ≤ g from Nat.le_trans HB811.out.size hg1); have HB812 := Lib.hid (bt HB811.out hb); clear hg1 hg2 ho hb))
            | (go_at_call 25; go_loud (refine (HM.out.write tc Fc Fp S (some pb) 0 0 0 (some ⟨g, 0, none⟩) (secN 1) (secN 1) (secX 1) w12 (HM.out.keep HRC.out (fun j hj => HB812.out.block j (HM.out.inside HRC.out j hj))) (HM.out.pkeep HP8.out (fun j hj => HB812.out.block j (HM.out.pinside HP8.out j hj))) HAP.out HMV.out.ok HLW.out (by have := HC.out; omega) (by omega) (by unfold i64R; omega) HO12.out (Off.new rfl (fun hf => by have h1 := HM.out.inside HRC.out g hf; have h2 := HG12.out; omega)) (Off.new rfl (fun hf => by have h1 := HM.out.pinside HP8.out g hf; have h2 := HG12.out; omega))).mono ?_; rintro e w13 ⟨F13, rfl, hr, hp, hk, hf⟩; rw [show (some pb : Option Nat).isSome = true from rfl, opW_dark HGV.out] at hr ⊢; have HRC13 := Lib.hid hr; have HK13 := Lib.hid hk; clear hr hp hk hf)))
          have HF6 := Lib.hid (show ∀ j, Fc j ∨ Fp j → w6.heap.size ≤ j from fun j h => by rcases h with h | h; have h1 := HFC8.out j h; have h2 := H67.out; omega; exact HFP.out j h)
          have HR13 := Lib.hid (show R w13 tb F S none from HM.out.keep HR8.out (fun j hj => (HK13.out.2 j (by have h1 := HM.out.inside HR8.out j hj; have h2 := HB812.out.size; omega) (fun h => by have h1 := HF6.out j h; have h2 := H6.out j hj; omega)).trans (HB812.out.block j (HM.out.inside HR8.out j hj))))
          have HB13 := Lib.hid (show Below w.heap.size w w13 from (HB8.out.trans (HB812.out.mono HB8.out.size)).trans (HK13.out.below (fun j h => by have h1 := HF6.out j h; have h2 := HB6.out.size; omega) (by have h1 := HB8.out.size; have h2 := HB812.out.size; omega)))
          clear HRC HRC9 HB89 HB810 HB811 HO12 HK13 HP7 HP8 HR6 HR7 HR8 HUP HAP HFP HFC8 hcv9 hnu
          go_upto_region 17 with (go_at_call 11; go_loud (refine (HM.out.copy tb F S none none w13 HR13.out HMV.out.ok (by have := HC.out; omega)).mono ?_; rintro e w14 ⟨td, Fd, rfl, hr, hf, hb⟩; have HW14 := Lib.hid (mwN (P := P) hr HMV.out.ok (j := 60 + 0) HC.out); have HI14 := Lib.hid (show ∀ j, Fd j → w13.heap.size ≤ j from hf); have HB14 := Lib.hid hb; clear hr hf hb))
          have HS13 := Lib.hid (show w.heap.size ≤ w13.heap.size from HB13.out.size)
          go_wp2_with fail
          go_loopw [99] (fun q wr => ∃ (i : Nat) (F' : Nat → Prop) (S' : MS), i ≤ L1 ∧ q = .int .i64 (i : Nat) ∧ MW R P wr td F' S' none FN (-1) 0 (60 + i) ∧ (∀ j, F' j → w13.heap.size ≤ j) ∧ Below w13.heap.size w13 wr) (fun q _ => L1 - (intOf q).toNat)
          case atStart => exact ⟨0, Fd, S, Nat.zero_le _, rfl, HW14.out, HI14.out, HB14.out⟩
          case round =>
            obtain ⟨i, F', S', hi, rfl, hmw, hhi, hbel⟩ := hrel
            rename World => Y
            have HMY := Lib.hid hmw
            have HHY := Lib.hid hhi
            have HBY := Lib.hid hbel
            clear hmw hhi hbel HW14 HI14 HB14
            by_cases hlt : i < L1
            · as_aux_lemma =>
                have HLT := Lib.hid hlt
                obtain ⟨x, hx⟩ : ∃ x, l1[i]? = some x := ⟨_, List.getElem?_eq_getElem (by rw [HLL1.out]; exact hlt)⟩
                have HBYw := Lib.hid (HB13.out.trans (HBY.out.mono HB13.out.size))
                have HLV := Lib.hid (HL1.out.on HBYw.out)
                have HXV := Lib.hid (HL1.out.2.2.2.1 x (List.mem_of_getElem? hx))
                obtain ⟨b, off, rfl, hb, hc⟩ := HLV.out.2.2.2.2 (by omega)
                have hr := hc i x hx
                have hc0 : Y.cell? ⟨b, off + i * 4, none⟩ = some (.int .i64 x.kind) := hr 0 _ rfl
                have hc1 : Y.cell? ⟨b, off + i * 4 + 1, none⟩ = some (.int .i64 x.at_) := hr 1 _ rfl
                have hc2 : Y.cell? ⟨b, off + i * 4 + 2, none⟩ = some (.int .i64 x.x) := hr 2 _ rfl
                have hc3 : Y.cell? ⟨b, off + i * 4 + 3, none⟩ = some (.slice x.ka x.kn x.kc) := hr 3 _ rfl
                have qk : (i : Int) < (L1 : Int) := by omega
                obtain ⟨O, hO⟩ : ∃ O, O = Obj.cells #[.int .i64 x.kind, .int .i64 x.at_, .int .i64 x.x, .slice x.ka x.kn x.kc] 31 := ⟨_, rfl⟩
                have hb1 : Below Y.heap.size Y (Y.alloc O) := (Below.refl _ _).alloc (Nat.le_refl _) _
                have HBO := Lib.hid (HBY.out.trans (hb1.mono HBY.out.size))
                have HDO := Lib.hid (do_any HM.out (Y.alloc O) td F' S' none FN (-1) 0 (60 + i) w13.heap.size x (HMY.out.on HM.out hb1) (by omega) ((HXV.out.on HBYw.out).on hb1) (hiN HHY.out) (fun h0 b o e => by have h1 := HXV.out.2.2.2.low h0 e; have h2 := HS13.out; omega))
                rw [hO] at HDO HBO
                unfold acA at HDO
                have HNP := Lib.hid (doS_noP x S')
                clear hlt hx hr hc hb hb1 hO
                go_wp2_with (go_at_call 10; go_loud (refine HDO.out.mono ?_; rintro e W2 ⟨F2, rfl, hm, hkb, hf⟩; rw [show (none : Option Nat).isSome = false from rfl] at hm; rw [HNP.out.l, HNP.out.u] at hm; have HM2 := Lib.hid hm; have HF2 := Lib.hid (show ∀ k, F2 k → w13.heap.size ≤ k from fun k h => by rcases hf k h with h | h; exact HHY.out k h; have h1 := HBO.out.size; omega); have HB2' := Lib.hid (HBO.out.trans (hkb.below (hiN HHY.out) HBO.out.size)); clear hm hkb hf))
                go_roundw
                case rel => exact ⟨i + 1, F2, _, HLT.out, by go_num, HM2.out, HF2.out, HB2'.out⟩
                case measure => simp [intOf]; have := HLT.out; omega
            · as_aux_lemma =>
                obtain rfl : i = L1 := by omega
                have HRB := Lib.hid (show R Y tb F S none from HM.out.keep HR13.out (fun j hj => HBY.out.block j (HM.out.inside HR13.out j hj)))
                have HRC := Lib.hid (show R Y tc F13 S (some pb) from HM.out.keep HRC13.out (fun j hj => HBY.out.block j (HM.out.inside HRC13.out j hj)))
                have HBT := Lib.hid (HB13.out.trans (HBY.out.mono HB13.out.size))
                have HPN := Lib.hid (show ∀ W : World, PO P W none FN (-1) 0 from fun W => ⟨fun _ h => h, rfl, rfl⟩)
                clear hlt hi HMY HHY HBY HR13 HRC13 HMV HB13
                go_upto_region 28 with (first
                  | (go_at_call 12; go_loud (refine (HM.out.crashNil Y).mono ?_; rintro e y1 ⟨rfl, hb⟩; have HY1 := Lib.hid hb; clear hb))
                  | (go_at_call 27; go_loud (refine (HM.out.failNil y1).mono ?_; rintro e y2 ⟨rfl, hb⟩; have HY2 := Lib.hid (bt HY1.out hb); clear hb))
                  | (go_at_call 28; go_loud (refine (HM.out.backNil y2).mono ?_; rintro e y3 ⟨rfl, hb⟩; have HY3 := Lib.hid (bt HY2.out hb); clear hb))
                  | (go_at_call 29; go_loud (refine (HM.out.set none FN (-1) 0 0 y3 (HPN.out _) (by unfold i64R; omega)).mono ?_; rintro e y4 ⟨rfl, _, hb⟩; have HY4 := Lib.hid (show Below Y.heap.size Y y4 from HY3.out.trans (hb.below (fun j h => h.elim) HY3.out.size)); clear hb)))
                go_upto_region 29 with (go_at_call 14; go_loud (refine (HM.out.readNil 0 y4 (by unfold i64R; omega)).mono ?_; rintro e y5 ⟨a5, n5, c5, rfl, hb⟩; have HY5 := Lib.hid (bt HY4.out hb); clear hb))
                go_wp2_with (first
                  | (go_at_call_of 17 (tbV tb); go_loud (refine (HSNAP.out y5 tb F none (HM.out.keep HRB.out (fun j hj => HY5.out.block j (HM.out.inside HRB.out j hj)))).mono ?_; rintro e y6 ⟨a6, c6, rfl, hcv, hr, hb⟩; have hcv6 := hcv _ (Below.refl _ _); have HY6 := Lib.hid (bt HY5.out hb); clear hcv hr hb))
                  | (go_at_call_of 17 (tbV tc); go_loud (refine (HSNAP.out y6 tc F13 (some pb) (HM.out.keep HRC.out (fun j hj => HY6.out.block j (HM.out.inside HRC.out j hj)))).mono ?_; rintro e y7 ⟨a7, c7, rfl, hcv, hr, hb⟩; have hcv7 := hcv _ (Below.refl _ _); have HY7 := Lib.hid (bt HY6.out hb); clear hcv hr hb))
                  | (go_at_call 25; go_loud (refine (HM.out.writeNil 0 y7 (by unfold i64R; omega)).mono ?_; rintro e y8 ⟨rfl, hb⟩; have HY8 := Lib.hid (bt HY7.out hb); clear hb))
                  | (go_at_call 24; go_loud (refine (HM.out.flushNil y8).mono ?_; rintro e y9 ⟨rfl, hb⟩; have HY9 := Lib.hid (bt HY8.out hb); clear hb))
                  | (go_at_call 30; go_loud (refine (HM.out.loseNil 0 y9 (by unfold i64R; omega)).mono ?_; rintro e y10 ⟨rfl, hb⟩; have HY10 := Lib.hid (bt HY9.out hb); clear hb))
                  | (go_at_call 31; go_loud (refine (HM.out.spoilNil 0 y10 (by unfold i64R; omega)).mono ?_; rintro e y11 ⟨rfl, hb⟩; have HY11 := Lib.hid (bt HY10.out hb); clear hb))
                  | (go_at_call_of 17 (Value.pointer none); go_loud (refine (HM.out.snapNil y11).mono ?_; rintro e y12 ⟨a12, c12, rfl, hb⟩; have HY12 := Lib.hid (bt HY11.out hb); clear hb))
                  | (go_at_call 13; go_loud (refine (HM.out.cachedNil y12).mono ?_; rintro e y13 ⟨a13, c13, rfl, hb⟩; have HY13 := Lib.hid (bt HY12.out hb); clear hb))
                  | (go_at_call 23; go_loud (refine (HM.out.lenNil y13).mono ?_; rintro e y14 ⟨rfl, hb⟩; have HY14 := Lib.hid (bt HY13.out hb); clear hb))
                  | (go_at_call 21; go_loud (refine (HM.out.used none FN (-1) 0 y14 (HPN.out _) (by omega)).mono ?_; rintro e y15 ⟨rfl, hb⟩; have HY15 := Lib.hid (bt HY14.out hb); clear hb))
                  | (go_at_call 19; go_loud (refine (HM.out.upNil y15).mono ?_; rintro e y16 ⟨rfl, hb⟩; have HY16 := Lib.hid (bt HY15.out hb); clear hb))
                  | (go_at_call 11; go_loud (refine (HM.out.copyNil y16).mono ?_; rintro e y17 ⟨rfl, hb⟩; have HY17 := Lib.hid (bt HY16.out hb); clear hb))
                  | (go_at_call 20; go_loud (refine (HM.out.on none FN (-1) 0 y17 (HPN.out _)).mono ?_; rintro e y18 ⟨rfl, hb⟩; have HY18 := Lib.hid (bt HY17.out hb); clear hb)))
                go_ret
                exact ⟨rfl, HBT.out.trans (HY18.out.mono HBT.out.size)⟩
end Go.Proofs.Ytoonaendakjecaa
