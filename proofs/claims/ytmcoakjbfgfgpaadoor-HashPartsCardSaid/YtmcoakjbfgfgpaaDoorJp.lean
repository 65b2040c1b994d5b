/- HashParts' walk. -/
import Derived.Test.YtmcoakjbfgfgpaaDoorJl
import Derived.Deep.RegionHeld
import Derived.Deep.RegionWith
namespace Go.Proofs.YtmcoakjbfgfgpaaDoor
open Go.ChangeShapes Go.WideShapes Go.ChangeAt Go.RowKit
set_option linter.unusedVariables false
set_option linter.unusedSimpArgs false
set_option maxRecDepth 100000

/-- A slice of slices of bytes that came in. -/
def Rw2 (w : World) (ap : Option Addr) (np : Nat) (rows : Nat → List Int) : Prop :=
  ∀ i, i < np → ∃ pb po a c, ap = some ⟨pb, po, none⟩ ∧ pb < w.heap.size ∧ w.cell? ⟨pb, po + i, none⟩ = some (.slice a (rows i).length c) ∧ Arg8c w a (rows i).length c (rows i)
theorem Rw2.rws {w : World} {ap : Option Addr} {np : Nat} {rows : Nat → List Int} (h : Rw2 w ap np rows) : Rws w ap np rows := fun i hi => by
  obtain ⟨pb, po, a, c, e1, e2, e3, e4⟩ := h i hi
  exact ⟨pb, po, a, c, e1, e2, e3, e4.1.2.2.1, e4.1.2.1, e4.1.2.2.2.1⟩
theorem Rw2.on {w w' : World} {ap : Option Addr} {np : Nat} {rows : Nat → List Int} (h : Rw2 w ap np rows) (hb : Below w.heap.size w w') : Rw2 w' ap np rows := fun i hi => by
  obtain ⟨pb, po, a, c, e1, e2, e3, e4⟩ := h i hi
  exact ⟨pb, po, a, c, e1, Nat.lt_of_lt_of_le e2 hb.size, (World.cell?_of_block (w := w) (a := ⟨pb, po + i, none⟩) (hb.block pb e2)).trans e3, e4.1.on hb, e4.2⟩
theorem addr_at {w : World} {x : Addr} {v : Value} (h : w.cell? (x.add 0) = some v) : ∃ b off, x = ⟨b, off, none⟩ ∧ b < w.heap.size := by
  obtain ⟨b, off, spot⟩ := x
  have hs : spot = none := by simpa [Addr.add] using World.cell?_spot h
  subst hs
  refine ⟨b, off, rfl, ?_⟩
  rcases Nat.lt_or_ge b w.heap.size with hlt | hge
  · exact hlt
  · have : w.cell? ((⟨b, off, none⟩ : Addr).add 0) = none := by simp [World.cell?, Addr.add, Array.getElem?_eq_none hge]
    rw [this] at h; cases h
theorem argRws0 (W : World) : ∃ rows, Rw2 W none 0 rows := ⟨fun _ => [], fun i hi => absurd hi (by omega)⟩
theorem argRws {w : World} {base : Nat} {x : Addr} {len cap : Nat} {A : Nat → Option Addr} {L C : Nat → Nat} {Z : Nat → List Int} (hl : len ≤ cap) (hm : cap ≤ maxLen)
    (h : ∀ r, r < cap → w.cell? (x.add r) = some (.slice (A r) (L r) (C r)) ∧ L r ≤ C r ∧ C r ≤ maxLen ∧ (Z r).length = C r ∧ (∀ n ∈ Z r, (Lit.int .u8 n).wf = true) ∧ (A r = none → C r = 0) ∧
        ∀ a', A r = some a' → base ≤ a'.block ∧ ∀ c, c < C r → w.cell? (a'.add c) = some (.int .u8 ((Z r).getD c 0))) : ∃ rows, Rw2 w (some x) len rows := by
  refine ⟨fun r => (Z r).take (L r), fun i hi => ?_⟩
  obtain ⟨b, off, rfl, hb⟩ := addr_at (h 0 (by omega)).1
  obtain ⟨h1, h2, h3, h4, h5, h6, h7⟩ := h i (by omega)
  have hlen : ((Z i).take (L i)).length = L i := by rw [List.length_take, h4]; omega
  refine ⟨b, off, A i, C i, rfl, hb, ?_, ⟨rfl, fun n hn => ?_, fun h0 => ?_, ?_, h3⟩, h6⟩
  · rw [hlen, ← Addr.add_mid]; exact h1
  · have := h5 n (List.mem_of_mem_take hn)
    have : 0 ≤ n ∧ n ≤ 255 := by simpa [Lit.wf, IntKind.min, IntKind.max, IntKind.signed, IntKind.bits] using this
    omega
  · rw [hlen] at h0
    cases hA : A i with
    | none => have := h6 hA; omega
    | some a' =>
      obtain ⟨_, hc⟩ := h7 a' hA
      obtain ⟨b', off', rfl, hb'⟩ := addr_at (hc 0 (by omega))
      refine ⟨b', off', rfl, hb', fun j hj => ?_⟩
      rw [hlen] at hj
      have := hc j (by omega)
      rw [Addr.add_mid] at this
      rw [this]
      simp [List.getD_eq_getElem?_getD, List.getElem?_take, hj]
  · rw [hlen]; exact h2
theorem cat_len {rows : Nat → List Int} : ∀ {n : Nat}, (∀ j, j < n → (rows j).length ≤ 100) → (cat rows n).length ≤ 100 * n
  | 0, _ => by simp [cat]
  | n + 1, h => by
    rw [cat, List.length_append]
    have h1 := cat_len (n := n) (fun j hj => h j (by omega))
    have h2 := h n (by omega)
    omega
theorem cat_B {rows : Nat → List Int} : ∀ {n : Nat}, (∀ j, j < n → AllB (rows j)) → AllB (cat rows n)
  | 0, _ => fun x hx => by cases hx
  | n + 1, h => fun x hx => by
    rcases List.mem_append.1 hx with h1 | h1
    · exact cat_B (n := n) (fun j hj => h j (by omega)) x h1
    · exact h n (by omega) x h1
set_option maxHeartbeats 3000000 in
theorem hashParts_core (ap : Option Addr) (np cp : Nat) (rows : Nat → List Int) (w : World) (hR : Rw2 w ap np rows) (hn : np ≤ 20) (hG : Gl w) :
    Calls Tryd.prog 4 #[.slice ap np cp] w fun e w' => e = .returned (.bool true) ∧ Below w.heap.size w w' := by
  obtain ⟨i8, hi, hz0, hz1, hz2⟩ := info_parts info8
  have HI := Lib.hid hi
  have HZ0 := Lib.hid hz0
  have HZ1 := Lib.hid hz1
  have HZ2 := Lib.hid hz2
  have HR := Lib.hid hR
  have HGL := Lib.hid hG
  have HG2 := Lib.hid hG.1
  have qn : (np : Int) ≤ 20 := by omega
  have HN := Lib.hid hn
  clear hi hz0 hz1 hz2 hR hG hn
  go_enter Tryd.func4, Tryd.ntmps4
  go_upto_region 4 with (go_at_call 5; go_loud ((with_reducible refine (lives_any w HGL.out).mono ?_); rintro e W1 ⟨rfl, hb⟩; have HB1 := Lib.hid hb; clear hb))
  have HR1 := Lib.hid (HR.out.on HB1.out)
  have HG1 := Lib.hid (HGL.out.on HB1.out HG2.out)
  have HO0 := Lib.hid (show W1.ownsRow W1.heap.size 5 1 (.slice none 0 0) 0 (([] : List Int).map (Value.int .u8)) from ⟨rfl, .inl ⟨rfl, rfl⟩⟩)
  go_wp2_with fail
  go_loopw [3, 16] (fun v s wr => ∃ (i n : Nat), i ≤ np ∧ s = .int .i64 (i : Nat) ∧ Hid (n = (cat rows i).length) ∧ wr.ownsRow W1.heap.size 5 1 v n ((cat rows i).map (Value.int .u8)) ∧ Below W1.heap.size W1 wr ∧ (∀ j, j < i → (rows j).length ≤ 100)) (fun _ s _ => np - (intOf s).toNat)
  case atStart => exact ⟨0, 0, by omega, rfl, Lib.hid rfl, HO0.out, Below.refl _ _, fun j hj => by omega⟩
  case round =>
    obtain ⟨i, n, hi, rfl, hn, hown, hbel, hsm⟩ := hrel
    rename World => V
    have HI2 := Lib.hid hi
    have HOW := Lib.hid hown
    have HBV := Lib.hid hbel
    have HSM := Lib.hid hsm
    have HNN := Lib.hid hn.out
    clear hi hown hbel hsm hn HO0
    have HRV := Lib.hid (HR1.out.on HBV.out)
    by_cases hlt : i < np
    · as_aux_lemma =>
        obtain ⟨pb, po, a, c, rfl, hpb, hcell, harg⟩ := HRV.out i hlt
        have HAR := Lib.hid harg
        have qi : (i : Int) < (np : Int) := by omega
        have HLT := Lib.hid hlt
        obtain ⟨rl, hrl⟩ : ∃ r, r = (rows i).length := ⟨_, rfl⟩
        rw [← hrl] at hcell HAR
        have HRL := Lib.hid hrl
        clear hrl hlt hpb harg
        by_cases hs : rl ≤ 100
        · have qs : (rl : Int) ≤ 100 := by omega
          obtain ⟨av, cv, hv, hbv, hlv, hnv, hmv, hev⟩ := own_form HOW.out
          subst hv
          have HS := Lib.hid hs
          have HCN := Lib.hid (show n ≤ 2000 by
            have := cat_len HSM.out
            have := HN.out
            have := HLT.out
            rw [HNN.out]; omega)
          have HARS := Lib.hid (show Bs V V.heap.size a (rows i) from HAR.out.1.2.2.1)
          have HARL := Lib.hid (show (rows i).length = rl from HRL.out.symm)
          have HARC := Lib.hid HAR.out.2
          have HBS := Lib.hid HBV.out.size
          clear hs hbv hlv hnv hmv hev
          go_wp2_with ((with_reducible show wpList _ _ _ (⟨some 25, _, _, _, _, _⟩ :: _) _ _); go_loud (refine wpList_append_bs _ (o := ⟨some 25, _, _, _, _, _⟩) rfl (.tmp 23) (.tmp 24) 22 rfl W1.heap.size 5 i8 Tryd.underlying22 HI.out HZ0.out HZ1.out HZ2.out _ n (cat rows i) rfl HOW.out a rl c _ (rows i) rfl HARS.out HARL.out HARC.out (by have := HCN.out; have := HS.out; omega) HBS.out ?_; intro v3 W3 ho3 hg3))
          have HO3 := Lib.hid ho3
          have HB3 := Lib.hid (HBV.out.grown hg3 HBS.out (own_blockGe HOW.out))
          clear ho3 hg3
          go_roundw
          case rel => exact ⟨i + 1, n + rl, HLT.out, by go_num, Lib.hid (by rw [cat, List.length_append, HNN.out, HRL.out]), HO3.out, HB3.out, fun j hj => by
            by_cases e : j = i
            · subst e; rw [← HRL.out]; exact HS.out
            · exact HSM.out j (by omega)⟩
          case measure => simp [intOf] <;> (have := HLT.out; omega)
        · have qs : (100 : Int) < (rl : Int) := by omega
          go_wp2
          go_ret
          exact ⟨rfl, bt HB1.out HBV.out⟩
    · as_aux_lemma =>
        obtain rfl : i = np := by have := HI2.out; omega
        obtain ⟨av, cv, hv, hbv, hlv, hnv, hmv, hev⟩ := own_form HOW.out
        subst hv
        have HCN := Lib.hid (show (cat rows i).length ≤ 2000 by
          have := cat_len HSM.out
          have := HN.out
          omega)
        have HCB := Lib.hid (cat_B (rows := rows) (n := i) fun j hj => by
          obtain ⟨_, _, _, _, _, _, _, h⟩ := HRV.out j hj
          exact h.1.2.1)
        have HAL := Lib.hid (show Arg8 V av n cv (cat rows i) from ⟨hlv, HCB.out, hbv, hnv, hmv⟩)
        have HGV := Lib.hid (HG1.out.on HBV.out (by have := HB1.out.size; have := HG2.out; omega))
        have HGS := Lib.hid (show 2 ≤ V.heap.size by have := HB1.out.size; have := HG2.out; have := HBV.out.size; omega)
        obtain ⟨sl, hsl⟩ : ∃ sl, sl = sumL (cat rows i) := ⟨_, rfl⟩
        have HS1 := Lib.hid (show ∀ U : World, Below V.heap.size V U → Calls Tryd.prog 6 #[.slice ap i cp] U fun e w' => ∃ g c', e = .returned (.slice (some ⟨g, 0, none⟩) 32 c') ∧ Row8 w' g 32 sl ∧ Below V.heap.size V w' ∧ Below U.heap.size U w' from fun U hb => by
          rw [hsl]
          refine (sum_any ap i cp rows U (HRV.out.on hb).rws (by have := HN.out; omega) (by have := HCN.out; omega) (HGV.out.on hb HGS.out)).mono ?_
          rintro e w' ⟨g, c', h1, h2, h3⟩
          exact ⟨g, c', h1, h2, bt hb h3, h3⟩)
        have HS2 := Lib.hid (show ∀ (U : World) (pb : Nat), Below V.heap.size V U → U.cell? ⟨pb, 0, none⟩ = some (.slice av n cv) → pb < U.heap.size → Calls Tryd.prog 6 #[.slice (some ⟨pb, 0, none⟩) 1 1] U fun e w' => ∃ g c', e = .returned (.slice (some ⟨g, 0, none⟩) 32 c') ∧ Row8 w' g 32 sl ∧ Below V.heap.size V w' ∧ Below U.heap.size U w' from fun U pb hb hp hpb => by
          rw [hsl]
          refine (sum_one pb av n cv (cat rows i) U hp hpb (HAL.out.on hb) (by have := HCN.out; have := HNN.out; omega) (HGV.out.on hb HGS.out)).mono ?_
          rintro e w' ⟨g, c', h1, h2, h3⟩
          exact ⟨g, c', h1, h2, bt hb h3, h3⟩)
        have hee := str_eq (rfl : sl = sl)
        have HBW := Lib.hid (bt HB1.out HBV.out)
        clear hsl hbv hlv hnv hmv hev hlt qn
        go_upto_region 11 with fail
        go_region_held (fun U => Below V.heap.size V U) (first | exact (Below.refl _ _).drew | assumption | exact ((Below.refl V.heap.size V).drew).alloc (Nat.le_refl _) _ | exact ((Below.refl V.heap.size V).alloc (Nat.le_refl _) _).drew | exact Below.alloc (by assumption) (Below.size (by assumption)) _)
          (first
            | (go_at_call_of 6 (Value.slice ap i cp); refine (HS1.out _ (by assumption)).mono ?_; rintro e w5 ⟨g5, c5, rfl, hr5, hb5, hs5⟩; have hcv5 := hr5.str_on c5; have hcv5a : ∀ o, (convert 22 9 (.slice (some ⟨g5, 0, none⟩) 32 c5)).run Tryd.prog (w5.alloc o) = .ok (.string (strOfNums sl)) (w5.alloc o) := (fun o => hcv5 _ ((Below.refl _ _).alloc (Nat.le_refl _) o)); have hrf5 := Below.refl w5.heap.size w5; (first | (have hcc : w5.cell? ⟨V.heap.size, 0, none⟩ = some (.slice av n cv) := (World.cell?_of_block (hs5.block V.heap.size (by simp))).trans (by simp); have hcl : V.heap.size < w5.heap.size := (by have := hs5.size; simp at this; omega)) | skip))
            | (go_at_call 6; refine (HS2.out _ _ (by assumption) (by first | assumption | simp) (by first | assumption | simp)).mono ?_; rintro e w6 ⟨g6, c6, rfl, hr6, hb6, hs6⟩; have hcv6 := hr6.str_on c6; have hrf6 := Below.refl w6.heap.size w6; (first | (have k5 : Below w5.heap.size w5 w6 := hs6) | (have k5 : Below w5.heap.size w5 w6 := bt ((Below.refl _ _).alloc (Nat.le_refl _) _) hs6) | skip)))
        all_goals
          go_wp2
          go_ret
          exact ⟨rfl, bt HBW.out (by assumption)⟩
theorem hashParts_long (a : Option Addr) (L c : Nat) (w : World) (hL : ¬ L ≤ 20) (hG : Gl w) :
    Calls Tryd.prog 4 #[.slice a L c] w fun e w' => e = .returned (.bool true) ∧ Below w.heap.size w w' := by
  have HGL := Lib.hid hG
  have HG2 := Lib.hid hG.1
  have qL : (20 : Int) < (L : Int) := by omega
  clear hL hG
  go_enter Tryd.func4, Tryd.ntmps4
  go_upto_region 2 with (go_at_call 5; go_loud ((with_reducible refine (lives_any w HGL.out).mono ?_); rintro e W1 ⟨rfl, hb⟩; have HB1 := Lib.hid hb; clear hb))
  go_wp2_with (go_at_call 5; go_loud ((with_reducible refine (lives_any W1 (HGL.out.on HB1.out HG2.out)).mono ?_); rintro e W2 ⟨rfl, hb⟩; have HB2 := Lib.hid hb; clear hb))
  go_ret
  exact ⟨rfl, bt HB1.out HB2.out⟩
theorem hashParts_walk (a : Option Addr) (L c : Nat) (w : World) (h0 : ∃ rows, Rw2 w a L rows) (hG : Gl w) :
    Calls Tryd.prog 4 #[.slice a L c] w fun e w' => e = .returned (.bool true) ∧ Below w.heap.size w w' := by
  obtain ⟨rows, hr⟩ := h0
  by_cases h : L ≤ 20
  · exact hashParts_core a L c rows w hr h hG
  · exact hashParts_long a L c w h hG
end Go.Proofs.YtmcoakjbfgfgpaaDoor
