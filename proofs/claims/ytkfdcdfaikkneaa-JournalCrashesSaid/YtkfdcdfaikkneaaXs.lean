/- JournalCrashes' walk. -/
import Derived.Test.YtkfdcdfaikkneaaXr
import Derived.Deep.CutRange
import Derived.Deep.CutBlock
namespace Go.Proofs.Ytkfdcdfaikkneaa
open Go.ChangeShapes Go.WideShapes Go.ChangeAt Go.RowKit Go.Shelf
set_option linter.unusedVariables false
set_option linter.unusedSimpArgs false
set_option maxRecDepth 100000
attribute [local go_sem] Oper.semAt_some

variable {tb : Nat} {F F' Fp : Nat → Prop} {S : MS} {pp : Option Nat} {l : Int} {u j : Nat} {w : World}
theorem jset {pb : Nat} (h : MJ w tb F S (some pb) Fp l u j) (x : Int) (hx : i64R x) :
    Calls Try.prog 11 #[.pointer (some ⟨pb, 0, none⟩), .int .i64 x] w fun e w' => e = .returned (.tuple #[]) ∧ MJ w' tb F S (some pb) Fp (max x (-1)) u j ∧ Stp F Fp w F w' := by
  refine (powSet_any (some pb) Fp l u x w h.p hx).mono ?_
  rintro e w' ⟨rfl, h1, h2⟩
  refine ⟨rfl, ⟨medR_keep h.r (fun k hk => h2.2 k (medR_inside h.r k hk) (h.apart k hk)), h1, h.apart, h.ok, ?_, h.few⟩, ⟨h2.monoF (fun k hk => .inr hk), fun k hk => .inl hk⟩⟩
  unfold LeftOk; unfold i64R at hx; omega
theorem jcrash (h : MJ w tb F S pp Fp l u j) (hj : j ≤ 900) (a : Option Addr) (n c : Nat) (ks : List Bool) (hx : ArgB w a n c ks) (ho : Off F a n) :
    Calls Try.prog 12 #[tbV tb, .slice a n c] w fun e w' => ∃ F', e = .returned (.tuple #[]) ∧ MJ w' tb F' (S.crash ks) pp Fp l u j ∧ Stp F Fp w F' w' := by
  refine (crash_any tb F S pp a n c ks w h.r h.ok (by have := h.few.1; omega) hx ho).mono ?_
  rintro e w' ⟨F', rfl, h1, h2, h3⟩
  exact ⟨F', rfl, ⟨h1, poKeep h.p (fun k hk => h2.2 k (poIn h.p k hk) (fun hf => h.apart k hf hk)), h.next h3, h.ok.crash ks, h.left, ⟨Nat.zero_le _, h.few.2⟩⟩, ⟨h2.monoF (fun k hk => .inl hk), h3⟩⟩
theorem mod50 (t : Int) : ∃ q : Nat, (IntKind.u64.wrap t).tmod 50 = (q : Int) ∧ (IntKind.u64.wrap t) % 50 = (q : Int) ∧ q < 50 := by
  have h : IntKind.u64.wrap t = t % 18446744073709551616 := by rw [IntKind.wrap_u64]
  rw [h, Int.tmod_eq_emod_of_nonneg (by omega)]
  exact ⟨((t % 18446744073709551616) % 50).toNat, by omega, by omega, by omega⟩
theorem StrR.step {B : Nat} {w' : World} {a : Option Addr} {n c : Nat} {A : List ByteArray} (h : StrR B w a n c A) (hf : ∀ g, (Value.slice a n c).ownBlock = some g → Fr F Fp w g) (hs : Stp F Fp w F' w') : StrR B w' a n c A ∧ ∀ g, (Value.slice a n c).ownBlock = some g → Fr F' Fp w' g :=
  ⟨⟨h.1, own_blockT h.2 (fun g e => hs.same (hf g e))⟩, fun g e => hs.fr (hf g e)⟩
theorem StrR.set {B g n c k : Nat} {w : World} {A : List ByteArray} (h : StrR B w (some ⟨g, 0, none⟩) n c A) (s : ByteArray) : StrR B (w.setCell ⟨g, k, none⟩ (.string s)) (some ⟨g, 0, none⟩) n c (A.set k s) := by
  refine ⟨by rw [List.length_set]; exact h.1, ?_⟩
  have h2 := (h.2.stored k (.string s)).1
  unfold strC at h2 ⊢
  rw [List.map_set]; exact h2
theorem homL_set (f : Nat → List Int) (n i : Nat) (b : List Int) : (homL f n).set i (strOfNums b) = homL (fun k => if k = i then b else f k) n := by
  refine List.ext_getElem (by simp [homL_len]) (fun k h1 h2 => ?_)
  simp only [homL, List.getElem_set, List.getElem_map, List.getElem_range]
  by_cases e : i = k
  · subst e; simp
  · have e' : ¬ k = i := fun h => e h.symm
    simp [e, e']
theorem putH_snoc (H : Nat → List Int) (L : List SH) (s : SH) : putH H (L ++ [s]) = fun k => if k = s.st.toNat then s.B else putH H L k := by
  unfold putH; rw [List.foldl_append]; rfl
theorem StrR.form {B : Nat} {w : World} {a : Option Addr} {n c : Nat} {A : List ByteArray} (h : StrR B w a n c A) (hn : 0 < n) : ∃ g, a = some ⟨g, 0, none⟩ ∧ B ≤ g ∧ g < w.heap.size := by
  obtain ⟨g, cap, e, h1, h2⟩ := h.2.form hn
  cases e
  exact ⟨g, rfl, h1, h2⟩
theorem StrR.news {B g n c : Nat} {w : World} {A : List ByteArray} (h : StrR B w (some ⟨g, 0, none⟩) n c A) (j : Nat) (u : Value) (hu : (strC A)[j]? = some u) : w.cell? ((⟨g, 0, none⟩ : Addr).add j) = some u := by
  unfold strC at hu
  rw [List.getElem?_map] at hu
  cases hA : A[j]? with
  | none => rw [hA] at hu; cases hu
  | some s =>
    rw [hA] at hu
    cases hu
    obtain ⟨g', e, _, hc⟩ := h.cell hA
    cases e
    rw [Addr.add_lit, Nat.zero_add]
    exact hc
theorem settled_is (st n gg g : Int) (b : Bool) (hb : stdB ⟨st, n, gg⟩ g = b) (v : Value) (w V : World) (hB : Below w.heap.size w V) (hv : v.oneCell' = true) :
    Calls Try.prog 15 #[.agg #[.int .u8 st, .int .u8 n, .int .u64 gg, v], .int .u64 g] V fun e w' => e = .returned (.bool b) ∧ Below w.heap.size w w' := by
  refine (settled_any ⟨st, n, gg⟩ v g V hv).mono ?_
  rintro e w' ⟨h1, h2⟩
  exact ⟨by rw [h1, hb], bt hB h2⟩
theorem same_is (B1 B2 : Nat) (a1 a2 : Option Addr) (n c1 c2 : Nat) (A : List ByteArray) (w V : World) (hB : Below w.heap.size w V) (h1 : StrR B1 w a1 n c1 A) (h2 : StrR B2 w a2 n c2 A) :
    Calls Try.prog 16 #[.slice a1 n c1, .slice a2 n c2] V fun e w' => e = .returned (.bool true) ∧ Below w.heap.size w w' :=
  (same_yes B1 B2 a1 a2 n c1 c2 A V (h1.on hB) (h2.on hB)).mono fun _ _ h => ⟨h.1, bt hB h.2⟩
set_option maxHeartbeats 32000000 in
theorem journalCrashes_core (a0 : Option Addr) (n0 c0 : Nat) (L0 : List (Int × Int)) (a1 : Option Addr) (n1 c1 : Nat) (L1 : List (Int × Int)) (left : Int) (ak : Option Addr) (nk ck : Nat) (ks : List Bool) (w : World)
    (h0 : ArgS w a0 n0 c0 L0) (h1 : ArgS w a1 n1 c1 L1) (hk : ArgB w ak nk ck ks) (hn0 : n0 ≤ 20) (hn1 : n1 ≤ 20) (hnk : nk ≤ 60) :
    Calls Try.prog 3 #[.slice a0 n0 c0, .slice a1 n1 c1, .int .i64 left, .slice ak nk ck] w fun e w' => e = .returned (.bool true) ∧ Below w.heap.size w w' := by
  have H0 := Lib.hid h0
  have H1 := Lib.hid h1
  have HK := Lib.hid hk
  have b0 := h0.bd
  have b1 := h1.bd
  have bk := hk.bd
  have q0 : ¬ (20 : Int) < (n0 : Int) := by omega
  have q1 : ¬ (20 : Int) < (n1 : Int) := by omega
  have qk : ¬ (60 : Int) < (nk : Int) := by omega
  have hg3 : genI 3 := ⟨by omega, by omega⟩
  have hg4 : genI 4 := ⟨by omega, by omega⟩
  have HG3 := Lib.hid hg3
  have HG4 := Lib.hid hg4
  obtain ⟨r, hr1, hr2, hr3⟩ := mod50 left
  have HR3 := Lib.hid hr3
  have qr : (r : Int) < 50 := by omega
  clear h0 h1 hk hg3 hg4 hr3
  go_enter Try.func3, Try.ntmps3
  go_upto_region 3 with (go_at_call 5; go_loud (refine (lives15 w).mono ?_; rintro e wl ⟨rfl, hb⟩; have HBL := Lib.hid hb; clear hb))
  go_upto_region 4 with (go_at_call 6; go_loud (refine (newPower_any (-1) wl (by unfold i64R; omega)).mono ?_; rintro e w1 ⟨pb, Fp, rfl, hp, hf, hb⟩; rw [show max (-1 : Int) (-1) = -1 by omega] at hp; have HP1 := Lib.hid hp; have HFP := Lib.hid hf; have HB1 := Lib.hid (bt HBL.out hb); clear hp hf hb))
  go_upto_region 5 with (go_at_call 7; go_loud (refine (made15_any (some pb) Fp (-1) 0 0 w1 HP1.out (by unfold LeftOk; omega) (Nat.le_refl _)).mono ?_; rintro e w2 ⟨tb, F2, rfl, hm, hf, hb⟩; have HM2 := Lib.hid hm; have HF2 := Lib.hid hf; have HB2 := Lib.hid (bt HB1.out hb); clear hm hf hb))
  go_upto_region 6 with (first
    | (go_at_call_of 8 (Value.int IntKind.u64 3); go_loud (refine (of15 a0 n0 c0 L0 3 1 w2 (H0.out.on HB2.out) (by omega) (by unfold byteI; omega) HG3.out).mono ?_; rintro e w3 ⟨aO, cO, ZO, rfl, hp, hs, hb⟩; have HPO := Lib.hid hp; have HSO := Lib.hid hs; have HB3 := Lib.hid hb; clear hp hs hb))
    | (go_at_call_of 8 (Value.int IntKind.u64 4); go_loud (refine (of15 a1 n1 c1 L1 4 1 w3 (H1.out.on (bt HB2.out HB3.out)) (by omega) (by unfold byteI; omega) HG4.out).mono ?_; rintro e w4 ⟨aN, cN, ZN, rfl, hp, hs, hb⟩; have HPN := Lib.hid hp; have HSN := Lib.hid hs; have HB4 := Lib.hid hb; clear hp hs hb)))
  have HW4 := Lib.hid (bt HB2.out (bt HB3.out HB4.out))
  have HB24 := Lib.hid (bt HB3.out HB4.out)
  have HHI := Lib.hid (show ∀ k, F2 k ∨ Fp k → w.heap.size ≤ k from fun k hk => hk.elim (fun h => Nat.le_trans HB1.out.size (HF2.out k h)) (fun h => Nat.le_trans HBL.out.size (HFP.out k h)))
  have hin : ∀ k, F2 k ∨ Fp k → k < w2.heap.size := fun k hk => HM2.out.inside hk
  have HM4 := Lib.hid (show MJ w4 tb F2 (memS (MS.new 24).med) (some pb) Fp (-1) 0 0 from HM2.out.on HB24.out)
  have HZO := Lib.hid (show ShRow w4 aO ZO.length cO ZO ∧ ShFr F2 Fp w4 aO ZO.length cO ZO from ⟨(HSO.out.on HB4.out).sh, (HSO.out.on HB4.out).fr (fun k hk => by have := hin k hk; omega)⟩)
  have HZN := Lib.hid (show ShRow w4 aN ZN.length cN ZN ∧ ShFr F2 Fp w4 aN ZN.length cN ZN from ⟨HSN.out.sh, HSN.out.fr (fun k hk => by have := hin k hk; have := HB3.out.size; omega)⟩)
  have HCO := Lib.hid (HPO.out.ch (by unfold byteI; omega) (by omega) HG3.out)
  have HCN := Lib.hid (HPN.out.ch (by unfold byteI; omega) (by omega) HG4.out)
  clear hin
  go_wp2_with fail
  go_loopw [51] (fun q wr => ∃ (k : Nat) (F : Nat → Prop) (u : Nat), k ≤ 4 ∧ q = .int .i64 (k : Nat) ∧ MJ wr tb F (memS (seqM 3 (L_ ZO) (MS.new 24).med k)) (some pb) Fp (-1) u (18 * k) ∧ Stp F2 Fp w4 F wr) (fun q _ => 4 - (intOf q).toNat)
  case atStart => exact ⟨0, F2, 0, Nat.zero_le _, rfl, HM4.out, Stp.refl _ _ _⟩
  case round =>
    obtain ⟨k, F, u, hk, rfl, hm, hs⟩ := hrel
    rename World => V
    have HMV := Lib.hid hm
    have HSV := Lib.hid hs
    clear hm hs
    by_cases hlt : k < 4
    · have HLT := Lib.hid hlt
      have q2 : (k : Int) < 4 := by omega
      have HZV := Lib.hid (HZO.out.1.step HZO.out.2 HSV.out)
      clear hlt
      go_wp2_with (go_at_call 9; go_loud (refine (step_sure HMV.out (by have := HLT.out; omega) k HLT.out 3 aO ZO.length cO ZO HCO.out HZV.out.1 HZV.out.2).mono ?_; rintro e w5 ⟨F5, u5, rfl, hm5, hs5⟩; have HM5 := Lib.hid hm5; have HS5 := Lib.hid hs5; clear hm5 hs5))
      go_roundw
      case rel => exact ⟨k + 1, F5, u5, HLT.out, by go_num, HM5.out.more (by omega), HSV.out.trans HS5.out⟩
      case measure => simp [intOf]; have := HLT.out; omega
    · obtain rfl : k = 4 := by omega
      clear hlt hk
      obtain ⟨LO, hLO⟩ : ∃ LO, LO = L_ ZO := ⟨_, rfl⟩
      obtain ⟨HA, hHA⟩ : ∃ HA, HA = putH (fun _ => zsec) LO := ⟨_, rfl⟩
      obtain ⟨MA, hMA⟩ : ∃ MA, MA = seqM 3 LO (MS.new 24).med 4 := ⟨_, rfl⟩
      have HSA := Lib.hid (show Std MA (CM.B ⟨2, 0, 3⟩) [] HA from by rw [hMA, hHA]; exact (seq4 std0 (hLO ▸ HCO.out)).2.2.2)
      have HMA := Lib.hid (show MJ V tb F (memS MA) (some pb) Fp (-1) u 72 from by rw [hMA, hLO]; exact HMV.out)
      clear hLO hHA hMA HMV HZO HCO HSO HPO
      have HZN2 := Lib.hid (HZN.out.1.step HZN.out.2 HSV.out)
      have HVW := Lib.hid (show Below w.heap.size w V from HW4.out.trans (HSV.out.below HW4.out.size HHI.out))
      have HVF := Lib.hid (show ∀ k, F k ∨ Fp k → w.heap.size ≤ k from HSV.out.high HW4.out.size HHI.out)
      clear HSV HZN HHI HM4 HM2 HP1
      obtain ⟨LN, hLN⟩ : ∃ LN, LN = L_ ZN := ⟨_, rfl⟩
      have HLN := Lib.hid hLN
      rw [← hLN] at HCN
      have HNL := Lib.hid (show ZN.length = LN.length by rw [hLN, List.length_map])
      clear hLN
      go_upto_region 12 with (go_at_call 10; go_loud (refine (homes_any HMA.out (by omega) rfl (by omega) (show 24 ≤ 24 by omega) HA HSA.out.home).mono ?_; rintro e w5 ⟨aB, cB, rfl, hs5, hb5⟩; have HBF := Lib.hid hs5; have HB5 := Lib.hid hb5; clear hs5 hb5))
      have HM5 := Lib.hid (HMA.out.on HB5.out)
      have HBFR := Lib.hid (show ∀ g, (Value.slice aB 6 cB).ownBlock = some g → Fr F Fp w5 g from fun g e => HMA.out.fr_new (own_lt HBF.out.2 e).1 (own_lt HBF.out.2 e).2)
      have HZN5 := Lib.hid (show ShRow w5 aN ZN.length cN ZN ∧ ShFr F Fp w5 aN ZN.length cN ZN from ⟨HZN2.out.1.on HB5.out, HZN2.out.2.up HB5.out.size⟩)
      go_upto_region 13 with (go_at_call 11; go_loud (refine (jset HM5.out (r : Int) (by unfold i64R; omega)).mono ?_; rintro e w6 ⟨rfl, hm6, hs6⟩; have HM6 := Lib.hid hm6; have HS6 := Lib.hid hs6; clear hm6 hs6))
      obtain ⟨l0, hl0⟩ : ∃ l0, l0 = max (r : Int) (-1) := ⟨_, rfl⟩
      rw [← hl0] at HM6
      clear hl0
      go_upto_block 2 with fail
      go_cut [16] from 70 to 80 (fun v wx => ∃ (k : Nat) (F' : Nat → Prop) (S' : MS) (l' : Int) (u' : Nat), k ≤ 4 ∧ v = .int .i64 (k : Nat) ∧ EndP 4 LN MA k S' ∧ MJ wx tb F' S' (some pb) Fp l' u' 144 ∧ Stp F Fp w6 F' wx)
      case first =>
        go_wp2_with fail
        go_loopw [16] (fun q wr => ∃ (k : Nat) (F' : Nat → Prop) (l' : Int) (u' : Nat), k ≤ 4 ∧ q = .int .i64 (k : Nat) ∧ MJ wr tb F' (memS (seqM 4 LN MA k)) (some pb) Fp l' u' (72 + 18 * k) ∧ Stp F Fp w6 F' wr) (fun q _ => 4 - (intOf q).toNat)
        case atStart => exact ⟨0, F, l0, u, Nat.zero_le _, rfl, HM6.out, Stp.refl _ _ _⟩
        case round =>
          obtain ⟨k, F', l', u', hk, rfl, hm, hs⟩ := hrel
          rename World => Y
          have HMY := Lib.hid hm
          have HSY := Lib.hid hs
          clear hm hs
          by_cases hlt : k < 4
          · have HLT := Lib.hid hlt
            have q2 : (k : Int) < 4 := by omega
            have HZY := Lib.hid ((HZN5.out.1.step HZN5.out.2 HS6.out).1.step (HZN5.out.1.step HZN5.out.2 HS6.out).2 HSY.out)
            have hst := step_any HMY.out (by omega) k hlt 4 HG4.out aN ZN.length cN ZN HZY.out.1 HZY.out.2
            rw [← HLN.out] at hst
            have hout := stepD_out (some pb).isSome hlt HCN.out (seqM 4 LN MA k) l' u'
            obtain ⟨D, hD⟩ : ∃ D, D = stepD (some pb).isSome k 4 LN (memS (seqM 4 LN MA k)) l' u' := ⟨_, rfl⟩
            rw [← hD] at hst hout
            obtain ⟨E, hE⟩ : ∃ E, E = D.err := ⟨_, rfl⟩
            rw [← hE] at hst
            have HST := Lib.hid hst
            have HOUT := Lib.hid hout
            have HE := Lib.hid hE
            clear hst hout hD hE hlt
            by_cases hE0 : E = 0
            · have HE0 := Lib.hid hE0
              subst hE0
              go_wp2_with (go_at_call 9; go_loud (refine HST.out.mono ?_; rintro e w7 ⟨F7, rfl, hm7, hs7⟩; have HM7 := Lib.hid hm7; have HS7 := Lib.hid hs7; clear hm7 hs7))
              go_roundw
              case rel =>
                have hS : D.S = memS (seqM 4 LN MA (k + 1)) := by
                  rcases HOUT.out with ⟨_, h2⟩ | ⟨h2, _⟩
                  · rw [h2]; rfl
                  · rw [← HE.out] at h2; cases h2
                have h7 := HM7.out
                rw [hS] at h7
                exact ⟨k + 1, F7, D.l, D.u, HLT.out, by go_num, h7.more (by omega), HSY.out.trans HS7.out⟩
              case measure => simp [intOf]; have := HLT.out; omega
            · have HE0 := Lib.hid hE0
              have qE : (E == 0) = false := by rw [beq_eq_false_iff_ne]; exact hE0
              clear hE0
              go_wp2_with (go_at_call 9; go_loud (refine HST.out.mono ?_; rintro e w7 ⟨F7, rfl, hm7, hs7⟩; have HM7 := Lib.hid hm7; have HS7 := Lib.hid hs7; clear hm7 hs7))
              go_meet
              refine ⟨k, F7, D.S, D.l, D.u, hk, rfl, ?_, HM7.out.more (by have := HLT.out; omega), HSY.out.trans HS7.out⟩
              rcases HOUT.out with ⟨h2, _⟩ | ⟨_, n, h2⟩
              · exact absurd (HE.out.trans h2) HE0.out
              · exact .inr ⟨HLT.out, n, by rw [h2]; rfl⟩
          · obtain rfl : k = 4 := by omega
            go_wp2_with fail
            go_meet
            exact ⟨4, F', _, l', u', Nat.le_refl _, rfl, .inl ⟨rfl, rfl⟩, HMY.out, HSY.out⟩
      case rest =>
      obtain ⟨at_, F7, S7, l7, u7, hat, rfl, hend, hm, hs⟩ := hcut
      have HEND := Lib.hid hend
      have HM7 := Lib.hid hm
      have HS7 := Lib.hid (HS6.out.trans hs)
      clear hend hm hs HS6 HM6
      have HB7 := Lib.hid (HBF.out.step HBFR.out HS7.out)
      have HZ7 := Lib.hid (HZN5.out.1.step HZN5.out.2 HS7.out)
      have hw5 := Lib.hid (bt HVW.out HB5.out)
      have HV7 := Lib.hid (show Below w.heap.size w wc from hw5.out.trans (HS7.out.below hw5.out.size HVF.out))
      have HF7 := Lib.hid (show ∀ k, F7 k ∨ Fp k → w.heap.size ≤ k from HS7.out.high hw5.out.size HVF.out)
      clear HBF HBFR HZN5 HS7 hw5 HVW HVF HM5
      have HOF := Lib.hid (show Off F7 ak nk from fun h0 b o e hf => by have h1 := HK.out.low h0 e; have h2 := HF7.out b (.inl hf); omega)
      go_upto_region 17 with (go_at_call 12; go_loud (refine (jcrash HM7.out (by omega) ak nk ck ks (HK.out.on HV7.out) HOF.out).mono ?_; rintro e w8 ⟨F8, rfl, hm8, hs8⟩; have HM8 := Lib.hid hm8; have HS8 := Lib.hid hs8; clear hm8 hs8))
      obtain ⟨M8, hM8, hcr⟩ := HEND.out.crash HSA.out HCN.out ks
      rw [hM8] at HM8
      have HCR := Lib.hid hcr
      clear hM8 hcr HEND HM7 HOF
      go_upto_region 18 with (go_at_call 11; go_loud (refine (jset HM8.out (-1) (by unfold i64R; omega)).mono ?_; rintro e w9 ⟨rfl, hm9, hs9⟩; rw [show max (-1 : Int) (-1) = -1 by omega] at hm9; have HM9 := Lib.hid hm9; have HS9 := Lib.hid (HS8.out.trans hs9); clear hm9 hs9))
      clear HM8 HS8
      obtain ⟨C, H', hc1, hch, hcc⟩ := HCR.out
      have hCok : C.Wf ∧ C.Ok := by
        have h5 := HCN.out.few
        rcases hcc with ⟨_, e, _⟩ | ⟨_, e, _⟩ | ⟨_, e | e, _⟩ | ⟨_, e, _⟩
        · rw [e]; exact cmOk2 HG4.out
        · rw [e]; exact cmOk2 HG3.out
        · rw [e]; exact cmOk1 h5 HG4.out
        · rw [e]; exact cmOk2 HG4.out
        · rw [e]; exact cmOk1 h5 HG4.out
      have hlk := look_com (S := memS M8) hc1 hCok.1 hCok.2
      have HLK := Lib.hid hlk
      have HCC := Lib.hid hcc
      have HCH := Lib.hid hch
      clear hc1 hch hcc hCok hlk HCR
      go_upto_region 19 with (go_at_call 13; go_loud (refine (look_any HM9.out (by omega) rfl (by omega) (show 18 ≤ 24 by omega)).mono ?_; rintro e w10 ⟨aS, cS, ZS, rfl, hL10, hs10, -, hb10⟩; rw [HLK.out.1, HLK.out.2]; have HL10 := Lib.hid hL10; have HS10 := Lib.hid hs10; have HB10 := Lib.hid hb10; unfold stG; clear hL10 hs10 hb10))
      obtain ⟨X10, hX10⟩ : ∃ X10, X10 = w10.alloc (.cells #[.int .u8 C.st, .int .u8 C.n, .int .u64 C.g, .slice aS ZS.length cS] 43) := ⟨_, rfl⟩
      rw [← hX10]
      have HBX10 := Lib.hid (show Below w9.heap.size w9 X10 from bt HB10.out (by rw [hX10]; exact (Below.refl _ _).alloc (Nat.le_refl _) _))
      have HK10 := Lib.hid (show X10.heap[w10.heap.size]? = some (.cells #[.int .u8 C.st, .int .u8 C.n, .int .u64 C.g, .slice aS ZS.length cS] 43 (0, 0)) from by rw [hX10]; exact heap_alloc_new w10 _)
      have HSX := Lib.hid (HS10.out.on (by rw [hX10]; exact (Below.refl _ _).alloc (Nat.le_refl _) _ : Below w10.heap.size w10 X10))
      clear hX10
      have HM10 := Lib.hid (HM9.out.on HBX10.out)
      go_upto_region 20 with (go_at_call 10; go_loud (refine (homes_any HM10.out (by omega) rfl (by omega) (show 24 ≤ 24 by omega) H' HCH.out).mono ?_; rintro e w11 ⟨aW, cW, rfl, hs11, hb11⟩; have HNW := Lib.hid hs11; have HB11 := Lib.hid hb11; clear hs11 hb11))
      have HBX11 := Lib.hid (bt HBX10.out HB11.out)
      have HM11 := Lib.hid (HM9.out.on HBX11.out)
      have HF11 := Lib.hid (show Fr F8 Fp w11 w10.heap.size from HM9.out.fr_new HB10.out.size (Nat.lt_of_lt_of_le (Array.getElem?_eq_some_iff.1 HK10.out).1 HB11.out.size))
      have HK11 := Lib.hid ((HB11.out.block _ (Array.getElem?_eq_some_iff.1 HK10.out).1).trans HK10.out)
      have HS11 := Lib.hid (HSX.out.on HB11.out)
      have HBF := Lib.hid (show StrR V.heap.size w11 aB 6 cB (homL HA 6) ∧ ∀ g, (Value.slice aB 6 cB).ownBlock = some g → Fr F8 Fp w11 g from by
        obtain ⟨h1, h2⟩ := HB7.out.1.step HB7.out.2 HS9.out
        exact ⟨h1.on HBX11.out, fun g e => (h2 g e).up HBX11.out.size⟩)
      have HZ11 := Lib.hid (show ShRow w11 aN ZN.length cN ZN ∧ ShFr F8 Fp w11 aN ZN.length cN ZN from by
        obtain ⟨h1, h2⟩ := HZ7.out.1.step HZ7.out.2 HS9.out
        exact ⟨h1.on HBX11.out, h2.up HBX11.out.size⟩)
      have HV9 := Lib.hid (show Below w.heap.size w w9 from HV7.out.trans (HS9.out.below HV7.out.size HF7.out))
      have HV11 := Lib.hid (bt HV9.out HBX11.out)
      have HF9 := Lib.hid (show ∀ k, F8 k ∨ Fp k → w.heap.size ≤ k from HS9.out.high HV7.out.size HF7.out)
      have HW10 := Lib.hid (Nat.le_trans HV9.out.size HB10.out.size)
      have HIN := Lib.hid (fun k (hk : F8 k ∨ Fp k) => HM9.out.inside hk)
      clear HB7 HZ7 HV7 HF7 HS9 HM9 HM10 HBX10 HK10 HSX HS10 HB10
      obtain ⟨gB, rfl, hgB1, hgB2⟩ := HBF.out.1.form (by omega)
      obtain ⟨iT, hi1, hi2, hi3, hi4⟩ := info_parts infoStr15
      have HI := Lib.hid (And.intro hi1 (And.intro hi2 (And.intro hi3 hi4)))
      clear hi1 hi2 hi3 hi4 hgB1 hgB2
      go_upto_region 22 with fail
      have HOE := Lib.hid (show (w11.alloc (.cells #[] 9)).ownsRow w11.heap.size 9 1 (.slice (some ⟨w11.heap.size, 0, none⟩) 0 0) 0 [] from World.ownsRow_lit (base := w11.heap.size) (e := 9) (size := 1) w11 #[] 0 (Nat.le_refl _) (by unfold maxLen; omega) rfl)
      have HBE := Lib.hid (show Below w11.heap.size w11 (w11.alloc (.cells #[] 9)) from (Below.refl _ _).alloc (Nat.le_refl _) _)
      go_upto_region 23 with ((with_reducible show wpList _ _ _ (⟨some 104, _, _, _, _, _⟩ :: _) _ _); go_loud (refine wpList_append_lies _ rfl (.tmp 102) (.tmp 103) 34 rfl w11.heap.size 9 iT (.string ByteArray.empty) 1 16 Try.underlying34 HI.out.1 HI.out.2.1 HI.out.2.2.1 HI.out.2.2.2 rfl (by decide) (.slice (some ⟨w11.heap.size, 0, none⟩) 0 0) 0 [] rfl HOE.out ⟨gB, 0, none⟩ 6 cB (strC (homL HA 6)) rfl (by simp [homL_len]) (fun j u hu => (HBF.out.1.on HBE.out).news j u hu) (fun u hu => by obtain ⟨t, _, rfl⟩ := List.mem_map.1 hu; rfl) (by decide) (by unfold maxLen; omega) (by omega) (by simp) (w11.heap.size + 1) (by simp) ?_; intro gA cA w12 ho12 hg12 hl12 hlt12; have HO12 := Lib.hid ho12; have HG12 := Lib.hid hg12; clear ho12 hg12 hl12 hlt12))
      have HA0 := Lib.hid (show StrR w11.heap.size w12 (some ⟨gA, 0, none⟩) 6 cA (homL HA 6) from ⟨homL_len _ _, by have h := HO12.out; rw [List.nil_append] at h; exact h⟩)
      have HB12 := Lib.hid (show Below w11.heap.size w11 w12 from HBE.out.grown HG12.out HBE.out.size (fun j e => by cases e; exact Nat.le_refl _))
      clear HO12 HG12 HOE HBE HI
      have HLM := Lib.hid (show ∀ (k : Nat) (s : SH), LN[k]? = some s → ∃ r : Nat, s.st = (r : Int) ∧ r < 6 from fun k s hs => by
        obtain ⟨h1, _, h3, _⟩ := HCN.out.wf s (List.mem_of_getElem? hs)
        have h4 := h1.st
        exact ⟨s.st.toNat, by omega, by omega⟩)
      have hbB := HBF.out.1.bd
      have hbA := HA0.out.bd
      have hbN := HZ11.out.1.bd
      go_wp2_with fail
      go_loopw [107] (fun q wr => ∃ k : Nat, k ≤ ZN.length ∧ q = .int .i64 (k : Nat) ∧ StrR w11.heap.size wr (some ⟨gA, 0, none⟩) 6 cA (homL (putH HA (LN.take k)) 6) ∧ Below w11.heap.size w11 wr) (fun q _ => ZN.length - (intOf q).toNat)
      case atStart => exact ⟨0, Nat.zero_le _, rfl, HA0.out, HB12.out⟩
      case round =>
        obtain ⟨k, hk, rfl, ha, hb⟩ := hrel
        rename World => V
        have HAV := Lib.hid ha
        have HBV := Lib.hid hb
        clear ha hb HA0 HB12
        by_cases hlt : k < ZN.length
        · have HLT := Lib.hid hlt
          have q3 : (k : Int) < (ZN.length : Int) := by omega
          obtain ⟨z, hz⟩ : ∃ z, ZN[k]? = some z := ⟨_, List.getElem?_eq_getElem hlt⟩
          obtain ⟨hzw, hzn, hzx⟩ := (HZ11.out.1.on HBV.out).row z (List.mem_of_getElem? hz)
          obtain ⟨g, rfl, hgV, c0, c1, c2, c3, c4⟩ := (HZ11.out.1.on HBV.out).cells hz
          have hzL : LN[k]? = some z.1 := by rw [HLN.out, List.getElem?_map, hz]; rfl
          have hzo := (HCN.out.wf z.1 (List.mem_of_getElem? hzL)).2.1
          obtain ⟨rr, hrr, hr6⟩ := HLM.out k z.1 hzL
          have HZL := Lib.hid hzL
          have HRR := Lib.hid (And.intro hrr hr6)
          obtain ⟨B, hB⟩ : ∃ B, B = z.1.B := ⟨_, rfl⟩
          have HBB := Lib.hid hB
          obtain ⟨T, hT⟩ : ∃ T, T = strOfNums B := ⟨_, rfl⟩
          have HTT := Lib.hid hT
          have hBl : B.length = 512 := by rw [hB]; exact SH.B_len hzo
          have HBY := Lib.hid (show ∀ W, Below V.heap.size V W → Calls Try.prog 14 #[shG z.1 (.slice z.2.1 z.1.row.length z.2.2)] W fun e w' => ∃ a2 k2, e = .returned (.tuple #[.slice a2 512 k2, .int .i64 0]) ∧ Arg8c w' a2 512 k2 B ∧ (∀ j, j < W.heap.size → w'.heap[j]? = W.heap[j]?) ∧ Below V.heap.size V w' from fun W hW => by
            refine (shareBytes_any z.1 z.2.1 z.1.row.length z.2.2 W hzw (hzx.onV hW) hzn).mono ?_
            rintro e w' ⟨a2, k2, e1, hx2, -, hb2⟩
            rw [(SH.S_ok hzo).1, (SH.S_ok hzo).2, ← hB, hBl] at e1
            rw [(SH.S_ok hzo).1, ← hB, hBl] at hx2
            exact ⟨a2, k2, e1, hx2, fun j hj => hb2.block j hj, bt hW hb2⟩)
          unfold shG at HBY
          rw [hrr] at c2
          obtain ⟨A, hA⟩ : ∃ A, A = V.alloc (.cells #[.int .u8 z.1.m, .int .u8 z.1.p, .int .u32 (rr : Int), .int .u64 z.1.g, .slice z.2.1 z.1.row.length z.2.2] 49) := ⟨_, rfl⟩
          have HVA := Lib.hid (show Below V.heap.size V A by rw [hA]; exact (Below.refl _ _).alloc (Nat.le_refl _) _)
          have r1 : A.heap[V.heap.size]? = some (.cells #[.int .u8 z.1.m, .int .u8 z.1.p, .int .u32 (rr : Int), .int .u64 z.1.g, .slice z.2.1 z.1.row.length z.2.2] 49 (0, 0)) := by rw [hA]; exact heap_alloc_new V _
          have R1 := Lib.hid r1
          rw [hrr] at HBY
          have q6 : (rr : Int) < 6 := by omega
          have q7 : (0 : Int) ≤ (rr : Int) := by omega
          clear hB hT hzL hz hzw hzn hzx hlt hrr
          go_upto_region 26 with fail
          rw [← hA]
          obtain ⟨d0, d1, d2, d3, d4⟩ := cell5 r1
          clear hA r1 c0 c1 c2 c3 c4
          have HAl := Lib.hid (Array.getElem?_eq_some_iff.1 R1.out).1
          go_upto_region 27 with (go_at_call 14; go_loud (refine (HBY.out _ HVA.out).mono ?_; rintro e w2 ⟨a2, k2, rfl, hx2, hbk, hb2⟩; have ec2 := (cell5 ((hbk _ HAl.out).trans R1.out)).2.2.1; have hcv := arg_str hx2 (Below.refl _ _); rw [← HTT.out] at hcv; have HX2 := Lib.hid hx2; have HB2 := Lib.hid hb2; clear hx2 hb2 hbk))
          obtain ⟨t, ht⟩ : ∃ t, (homL (putH HA (LN.take k)) 6)[rr]? = some t := ⟨_, List.getElem?_eq_getElem (by rw [homL_len]; exact HRR.out.2)⟩
          obtain ⟨g', eg, _, ecell⟩ := (HAV.out.on HB2.out).cell ht
          cases eg
          have hfz := (HAV.out.on HB2.out).2.frozenAt rr
          clear ht
          go_wp2_with fail
          go_roundw
          case rel =>
            refine ⟨k + 1, HLT.out, by go_num, ?_, bt HBV.out HB2.out |>.setCell ?_ _⟩
            · have h := (HAV.out.on HB2.out).set (k := rr) T
              rw [HTT.out, homL_set] at h
              have e : LN.take (k + 1) = LN.take k ++ [z.1] := by
                obtain ⟨hk1, hk2⟩ := List.getElem?_eq_some_iff.1 HZL.out
                rw [List.take_succ_eq_append_getElem hk1, hk2]
              rw [e, putH_snoc, HRR.out.1]
              rw [HTT.out]
              rw [← HBB.out]
              exact h
            · obtain ⟨g'', e, h1, _⟩ := HAV.out.form (by omega)
              cases e; exact h1
          case measure => simp [intOf]; have := HLT.out; omega
        · obtain rfl : k = ZN.length := by omega
          clear hk hlt hbN
          have HA2 := Lib.hid (show StrR w11.heap.size V (some ⟨gA, 0, none⟩) 6 cA (homL (putH HA LN) 6) from by
            have h := HAV.out
            rw [HNL.out, List.take_length] at h; exact h)
          have HB2 := Lib.hid (HBF.out.1.on HBV.out)
          have HN2 := Lib.hid (HNW.out.on HBV.out)
          have hkst := (HBV.out.block _ (Array.getElem?_eq_some_iff.1 HK11.out).1).trans HK11.out
          have HST := Lib.hid (show w10.heap.size < V.heap.size from (Array.getElem?_eq_some_iff.1 hkst).1)
          have HVV := Lib.hid (bt HV11.out HBV.out)
          have HKV0 := Lib.hid hkst
          have HBc := Lib.hid (Below.refl V.heap.size V)
          have hbW := HN2.out.bd
          have hbS := HS11.out.sh.bd
          clear hkst HAV
          rcases HCC.out with ⟨h4, hC, hstd, hE⟩ | ⟨h4, hC, hE⟩ | ⟨h4, hC, hE⟩ | ⟨h4, hC, hstd, hE⟩
          · subst h4
            subst hC
            have hz0 : ZS.length = 0 := by
              have h := HL10.out
              rw [look_slots HLK.out.1 (chP_nil HG4.out) hstd.slot hstd.free] at h
              have := congrArg List.length h
              rw [List.length_map] at this; exact this
            have HNA := Lib.hid (show StrR _ V aW 6 cW (homL (putH HA LN) 6) from hE.hom ▸ HN2.out)
            rw [hz0] at HKV0
            clear hE hstd hz0 hbS
            have HKV := Lib.hid (show V.heap[w10.heap.size]? = some (.cells #[.int .u8 2, .int .u8 0, .int .u64 4, .slice aS 0 cS] 43 (0, 0)) from HKV0.out)
            have HS4 := Lib.hid (fun (W : World) (hW : Below V.heap.size V W) => settled_is 2 0 4 4 true (by first | rfl | (unfold stdB; simp)) (.slice aS 0 cS) V W hW rfl)
            obtain ⟨c0, c1, c2, c3⟩ := cell4 HKV.out
            have HSM := Lib.hid (fun (W : World) (hW : Below V.heap.size V W) => same_is _ _ _ _ 6 _ _ _ V W hW HNA.out HA2.out)
            go_wp2_with (first
              | (go_at_call_of 15 (Value.int IntKind.u64 4); go_loud (refine (HS4.out _ HBc.out).mono ?_; rintro e w' ⟨rfl, hb⟩; obtain ⟨c0, c1, c2, c3⟩ := cell4 ((hb.block _ HST.out).trans HKV.out); have HBc := Lib.hid hb; clear hb))
              | (go_at_call 16; go_loud (refine (HSM.out _ HBc.out).mono ?_; rintro e w' ⟨rfl, hb⟩; obtain ⟨c0, c1, c2, c3⟩ := cell4 ((hb.block _ HST.out).trans HKV.out); have HBc := Lib.hid hb; clear hb)))
            go_ret
            exact ⟨rfl, bt HVV.out HBc.out⟩
          · subst hC
            have HNB := Lib.hid (show StrR _ V aW 6 cW (homL HA 6) from hE.hom ▸ HN2.out)
            clear hE
            have HKV := Lib.hid (show V.heap[w10.heap.size]? = some (.cells #[.int .u8 2, .int .u8 0, .int .u64 3, .slice aS ZS.length cS] 43 (0, 0)) from HKV0.out)
            have HS4 := Lib.hid (fun (W : World) (hW : Below V.heap.size V W) => settled_is 2 0 3 4 false (by first | rfl | (unfold stdB; simp)) (.slice aS ZS.length cS) V W hW rfl)
            have HS3 := Lib.hid (fun (W : World) (hW : Below V.heap.size V W) => settled_is 2 0 3 3 true (by first | rfl | (unfold stdB; simp)) (.slice aS ZS.length cS) V W hW rfl)
            obtain ⟨c0, c1, c2, c3⟩ := cell4 HKV.out
            have HSM := Lib.hid (fun (W : World) (hW : Below V.heap.size V W) => same_is _ _ _ _ 6 _ _ _ V W hW HNB.out HB2.out)
            rcases h4 with rfl | rfl
            all_goals
              go_wp2_with (first
                | (go_at_call_of 15 (Value.int IntKind.u64 4); go_loud (refine (HS4.out _ HBc.out).mono ?_; rintro e w' ⟨rfl, hb⟩; obtain ⟨c0, c1, c2, c3⟩ := cell4 ((hb.block _ HST.out).trans HKV.out); have HBc := Lib.hid hb; clear hb))
                | (go_at_call_of 15 (Value.int IntKind.u64 3); go_loud (refine (HS3.out _ HBc.out).mono ?_; rintro e w' ⟨rfl, hb⟩; obtain ⟨c0, c1, c2, c3⟩ := cell4 ((hb.block _ HST.out).trans HKV.out); have HBc := Lib.hid hb; clear hb))
                | (go_at_call 16; go_loud (refine (HSM.out _ HBc.out).mono ?_; rintro e w' ⟨rfl, hb⟩; obtain ⟨c0, c1, c2, c3⟩ := cell4 ((hb.block _ HST.out).trans HKV.out); have HBc := Lib.hid hb; clear hb)))
              go_ret
              exact ⟨rfl, bt HVV.out HBc.out⟩
          · subst h4
            have HNA := Lib.hid (show StrR _ V aW 6 cW (homL (putH HA LN) 6) from hE.hom ▸ HN2.out)
            clear hE
            rcases hC with rfl | rfl
            · obtain ⟨nn, hnn⟩ : ∃ nn : Int, nn = (LN.length : Nat) := ⟨_, rfl⟩
              rw [← hnn] at HKV0
              clear hnn
              have HKV := Lib.hid (show V.heap[w10.heap.size]? = some (.cells #[.int .u8 1, .int .u8 nn, .int .u64 4, .slice aS ZS.length cS] 43 (0, 0)) from HKV0.out)
              have HS4 := Lib.hid (fun (W : World) (hW : Below V.heap.size V W) => settled_is 1 nn 4 4 true (by first | rfl | (unfold stdB; simp)) (.slice aS ZS.length cS) V W hW rfl)
              obtain ⟨c0, c1, c2, c3⟩ := cell4 HKV.out
              have HSM := Lib.hid (fun (W : World) (hW : Below V.heap.size V W) => same_is _ _ _ _ 6 _ _ _ V W hW HNA.out HA2.out)
              go_wp2_with (first
                | (go_at_call_of 15 (Value.int IntKind.u64 4); go_loud (refine (HS4.out _ HBc.out).mono ?_; rintro e w' ⟨rfl, hb⟩; obtain ⟨c0, c1, c2, c3⟩ := cell4 ((hb.block _ HST.out).trans HKV.out); have HBc := Lib.hid hb; clear hb))
                | (go_at_call 16; go_loud (refine (HSM.out _ HBc.out).mono ?_; rintro e w' ⟨rfl, hb⟩; obtain ⟨c0, c1, c2, c3⟩ := cell4 ((hb.block _ HST.out).trans HKV.out); have HBc := Lib.hid hb; clear hb)))
              go_ret
              exact ⟨rfl, bt HVV.out HBc.out⟩
            · have HKV := Lib.hid (show V.heap[w10.heap.size]? = some (.cells #[.int .u8 2, .int .u8 0, .int .u64 4, .slice aS ZS.length cS] 43 (0, 0)) from HKV0.out)
              have HS4 := Lib.hid (fun (W : World) (hW : Below V.heap.size V W) => settled_is 2 0 4 4 true (by first | rfl | (unfold stdB; simp)) (.slice aS ZS.length cS) V W hW rfl)
              obtain ⟨c0, c1, c2, c3⟩ := cell4 HKV.out
              have HSM := Lib.hid (fun (W : World) (hW : Below V.heap.size V W) => same_is _ _ _ _ 6 _ _ _ V W hW HNA.out HA2.out)
              go_wp2_with (first
                | (go_at_call_of 15 (Value.int IntKind.u64 4); go_loud (refine (HS4.out _ HBc.out).mono ?_; rintro e w' ⟨rfl, hb⟩; obtain ⟨c0, c1, c2, c3⟩ := cell4 ((hb.block _ HST.out).trans HKV.out); have HBc := Lib.hid hb; clear hb))
                | (go_at_call 16; go_loud (refine (HSM.out _ HBc.out).mono ?_; rintro e w' ⟨rfl, hb⟩; obtain ⟨c0, c1, c2, c3⟩ := cell4 ((hb.block _ HST.out).trans HKV.out); have HBc := Lib.hid hb; clear hb)))
              go_ret
              exact ⟨rfl, bt HVV.out HBc.out⟩
          · subst hC
            have hLZ : L_ ZS = LN := by rw [HL10.out, look_slots HLK.out.1 HCN.out hstd.slot hstd.free]
            have hzl : ZS.length = ZN.length := by
              have := congrArg List.length hLZ
              rw [List.length_map] at this; rw [this, HNL.out]
            have HLZ := Lib.hid hLZ
            have HSTD := Lib.hid hstd
            have HEE := Lib.hid hE
            have hl5 := HCN.out.few
            have HCS := Lib.hid (show ChP 4 (L_ ZS) from by rw [hLZ]; exact HCN.out)
            have hn5 : ZN.length ≤ 5 := by rw [HNL.out]; exact hl5
            obtain ⟨nn, hnn⟩ : ∃ nn : Nat, nn = ZN.length := ⟨_, rfl⟩
            have hwn : IntKind.i64.wrap (nn : Int) = (nn : Int) := by rw [IntKind.wrap_i64]; omega
            rw [hzl, ← HNL.out] at HKV0
            rw [← HNL.out] at HLK
            clear hE hstd hLZ
            rw [hzl] at hbS
            have HKV := Lib.hid (show V.heap[w10.heap.size]? = some (.cells #[.int .u8 1, .int .u8 (ZN.length : Nat), .int .u64 4, .slice aS ZN.length cS] 43 (0, 0)) from HKV0.out)
            have HS4 := Lib.hid (fun (W : World) (hW : Below V.heap.size V W) => settled_is 1 (ZN.length : Nat) 4 4 true (by first | rfl | (unfold stdB; simp)) (.slice aS ZN.length cS) V W hW rfl)
            obtain ⟨c0, c1, c2, c3⟩ := cell4 HKV.out
            rw [hnn] at hwn
            clear hnn
            have HMV := Lib.hid (HM11.out.on HBV.out)
            have HSV := Lib.hid (HS11.out.on HBV.out)
            have HFV := Lib.hid (HF11.out.up HBV.out.size)
            have HSN := Lib.hid hzl
            have HSH := Lib.hid (show ∀ W, Below V.heap.size V W → ShRow W aS ZN.length cS ZS ∧ ShFr F8 Fp W aS ZN.length cS ZS from fun W hW => by
              have h := HSV.out.on hW
              have h1 := h.sh
              have h2 := h.fr HIN.out
              rw [HSN.out] at h1 h2
              exact ⟨h1, h2⟩)
            have HT := Lib.hid ((HSTD.out.apply HCN.out).clear HCN.out)
            have HAF := Lib.hid (show w11.heap.size ≤ gA ∧ gA < V.heap.size from by
              obtain ⟨g'', e, h1, h2⟩ := HA2.out.form (by omega)
              cases e; exact ⟨h1, h2⟩)
            obtain ⟨M14, hM14⟩ : ∃ M14, M14 = applyW (applyW M8 (stepW 2 4 LN)) (stepW 3 4 LN) := ⟨_, rfl⟩
            rw [← hM14] at HT
            have HMM := Lib.hid hM14
            clear hM14
            rcases h4 with rfl | rfl
            all_goals
              go_upto_region 38 with (go_at_call_of 15 (Value.int IntKind.u64 4); go_loud (refine (HS4.out _ HBc.out).mono ?_; rintro e w' ⟨rfl, hb⟩; obtain ⟨c0, c1, c2, c3⟩ := cell4 ((hb.block _ HST.out).trans HKV.out); have HBc := Lib.hid hb; clear hb))
              rename World => Wc
              have HFst := Lib.hid (HFV.out.up HBc.out.size)
              have HAc := Lib.hid (HA2.out.on HBc.out)
              have hgF : ∀ g, (Value.slice (some ⟨gA, 0, none⟩) 6 cA).ownBlock = some g → Fr F8 Fp Wc g := fun g e => by
                cases e
                exact HM11.out.fr_new HAF.out.1 (Nat.lt_of_lt_of_le HAF.out.2 HBc.out.size)
              have HGF := Lib.hid hgF
              clear hgF
              go_upto_region 40 with (first
                | (go_at_call 17; go_loud (refine (apply_sure (HMV.out.on HBc.out) (by omega) 4 aS ZN.length cS ZS HCS.out (HSH.out _ HBc.out).1 (HSH.out _ HBc.out).2).mono ?_; rintro e w13 ⟨F13, v13, rfl, hm13, hs13⟩; rw [HLZ.out] at hm13; have HM13 := Lib.hid hm13; have HS13 := Lib.hid hs13; clear hm13 hs13))
                | (go_at_call 18; go_loud (refine (clear_sure HM13.out (by omega) 4 LN HCN.out).mono ?_; rintro e w14 ⟨F14, v14, rfl, hm14, hs14⟩; rw [← HMM.out] at hm14; have HM14 := Lib.hid hm14; have HS14 := Lib.hid (HS13.out.trans hs14); clear hm14 hs14)))
              have HA14 := Lib.hid (HAc.out.step HGF.out HS14.out).1
              have HK14 := Lib.hid ((HS14.out.same HFst.out).trans ((HBc.out.block _ HST.out).trans HKV.out))
              have HW14 := Lib.hid (show Below w.heap.size w w14 from (bt HVV.out HBc.out).trans (HS14.out.below (bt HVV.out HBc.out).size HF9.out))
              clear HBc
              go_upto_region 41 with (go_at_call 10; go_loud (refine (homes_any HM14.out (by omega) rfl (by omega) (show 24 ≤ 24 by omega) (putH H' LN) HT.out.home).mono ?_; rintro e w15 ⟨aZ, cZ, rfl, hs15, hb15⟩; have HN15 := Lib.hid hs15; have HB15 := Lib.hid hb15; clear hs15 hb15))
              have HK15 := Lib.hid ((HB15.out.block _ (Array.getElem?_eq_some_iff.1 HK14.out).1).trans HK14.out)
              go_upto_region 42 with (go_at_call 13; go_loud (refine (look_std (g := 4) (c := ⟨2, 0, 4⟩) (HM14.out.on HB15.out) (by omega) (by omega) HT.out (.inr ⟨rfl, cmOk2 HG4.out⟩) (chP_nil HG4.out)).mono ?_; rintro e w16 ⟨a16, k16, Z16, rfl, hL16, hs16, hb16⟩; have hz16 : Z16.length = 0 := (by have h := congrArg List.length hL16; rw [List.length_map] at h; exact h); rw [hz16]; have hk16 := (hb16.block _ (Array.getElem?_eq_some_iff.1 HK15.out).1).trans HK15.out; obtain ⟨⟨k0, k1, k2, k3⟩, kf⟩ := free4 hk16; have HK16 := Lib.hid hk16; have HB16 := Lib.hid hb16; clear hL16 hs16 hb16 hz16 hk16; unfold stG; dsimp only))
              obtain ⟨X, hX⟩ : ∃ X, X = set4 w16 w10.heap.size (.int .u8 2) (.int .u8 0) (.int .u64 4) (.slice a16 0 k16) := ⟨_, rfl⟩
              have hXX : (((w16.setCell ⟨w10.heap.size, 0, none⟩ (.int .u8 2)).setCell ⟨w10.heap.size, 1, none⟩ (.int .u8 0)).setCell ⟨w10.heap.size, 2, none⟩ (.int .u64 4)).setCell ⟨w10.heap.size, 3, none⟩ (.slice a16 0 k16) = X := hX.symm
              rw [hXX]
              clear hXX k0 k1 k2 k3 kf
              have HKX := Lib.hid (show X.heap[w10.heap.size]? = some (.cells #[.int .u8 2, .int .u8 0, .int .u64 4, .slice a16 0 k16] 43 (0, 0)) from by rw [hX]; exact set4_row _ _ _ _ HK16.out)
              have HXW := Lib.hid (show Below w.heap.size w X from by rw [hX]; exact set4_below (bt HW14.out (bt HB15.out HB16.out)) HW10.out _ _ _ _)
              have HXo := Lib.hid (show ∀ k, k ≠ w10.heap.size → X.heap[k]? = w16.heap[k]? from fun k hk => by rw [hX]; exact set4_other w16 _ _ _ _ _ hk)
              clear hX
              have HW14s := Lib.hid (show w10.heap.size < w14.heap.size from (Array.getElem?_eq_some_iff.1 HK14.out).1)
              have HW11s := Lib.hid (show w10.heap.size < w11.heap.size from (Array.getElem?_eq_some_iff.1 HK11.out).1)
              have HNX := Lib.hid (show StrR w14.heap.size X aZ 6 cZ (homL (putH HA LN) 6) from by
                have h := HN15.out.on HB16.out
                rw [HEE.out.hom] at h
                exact ⟨h.1, own_blockT h.2 (fun g e => HXo.out g (by have := (own_lt h.2 e).1; have := HW14s.out; omega))⟩)
              have HAX := Lib.hid (show StrR w11.heap.size X (some ⟨gA, 0, none⟩) 6 cA (homL (putH HA LN) 6) from by
                have h := HA14.out.on (bt HB15.out HB16.out)
                exact ⟨h.1, own_blockT h.2 (fun g e => HXo.out g (by have := (own_lt h.2 e).1; have := HW11s.out; omega))⟩)
              have HSX := Lib.hid (fun (W : World) (hW : Below X.heap.size X W) => settled_is 2 0 4 4 true (by rfl) (.slice a16 0 k16) X W hW rfl)
              have HSMX := Lib.hid (fun (W : World) (hW : Below X.heap.size X W) => same_is _ _ _ _ 6 _ _ _ X W hW HNX.out HAX.out)
              have HBc := Lib.hid (Below.refl X.heap.size X)
              have HXs := Lib.hid (show w10.heap.size < X.heap.size from (Array.getElem?_eq_some_iff.1 HKX.out).1)
              obtain ⟨k0, k1, k2, k3⟩ := cell4 HKX.out
              go_wp2_with (first
                | (go_at_call 16; go_loud (refine (HSMX.out _ HBc.out).mono ?_; rintro e w' ⟨rfl, hb⟩; obtain ⟨c0, c1, c2, c3⟩ := cell4 ((hb.block _ HXs.out).trans HKX.out); have HBc := Lib.hid hb; clear hb))
                | (go_at_call 15; go_loud (refine (HSX.out _ HBc.out).mono ?_; rintro e w' ⟨rfl, hb⟩; obtain ⟨c0, c1, c2, c3⟩ := cell4 ((hb.block _ HXs.out).trans HKX.out); have HBc := Lib.hid hb; clear hb)))
              go_ret
              exact ⟨rfl, bt HXW.out HBc.out⟩
end Go.Proofs.Ytkfdcdfaikkneaa
