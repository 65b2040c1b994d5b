/- Contract of poly's Through (Newton's way). -/
import Derived.Test.YtgbcdmognobieaaPwt
import Derived.Deep.RegionHeld
import Derived.Deep.Cut
namespace Go.Proofs.Ytgbcdmognobieaa
open Go.ChangeShapes Go.WideShapes Go.ChangeAt Go.RowKit Go.Shelf GF
set_option linter.unusedVariables false

theorem ev_axp {P Q : List GF} {c : GF} (h : Q.length ≤ P.length) (x : GF) : ev (axp P 0 c Q) x = ev P x + c * ev Q x := by
  rw [← ev_smulL, ← ev_addL]
  apply ev_congr
  intro k
  rw [co_axp (by omega), if_pos (Nat.zero_le _), Nat.sub_zero, co_addL, co_smulL]
/-- Newton's, the first k places taken in. -/
def newt (X Y : List GF) : Nat → List GF
  | 0 => List.replicate X.length 0
  | k + 1 => axp (newt X Y k) 0 ((co Y k + ev (newt X Y k) (co X k)) * GF.inv (ev (vanA X k) (co X k))) (vanA X k)
theorem length_newt (X Y : List GF) (k : Nat) : (newt X Y k).length = X.length := by
  induction k with
  | zero => simp [newt]
  | succ k ih => simp only [newt]; rw [length_axp, ih]
theorem van_ne {X : List GF} (hA : Apart X) {k : Nat} (hk : k < X.length) : ev (vanA X k) (co X k) ≠ 0 := fun e => by
  obtain ⟨j, hj, he⟩ := (ev_vanA k (by omega)).1 e
  exact hA k j hk hj he.symm
theorem co_newt (X Y : List GF) : ∀ k, k ≤ X.length → ∀ j, k ≤ j → co (newt X Y k) j = 0 := by
  intro k
  induction k with
  | zero => intro _ j _; simp only [newt]; exact co_replicate _ _
  | succ k ih =>
    intro hk j hj
    simp only [newt]
    rw [co_axp (by rw [length_vanA, length_newt]; omega), ih (by omega) j (by omega), if_pos (Nat.zero_le _), Nat.sub_zero, (co_vanA X k).2 j (by omega), GF.mul_zero, GF.add_zero]
theorem ev_newt {X Y : List GF} (hA : Apart X) : ∀ k, k ≤ X.length → ∀ j, j < k → ev (newt X Y k) (co X j) = co Y j := by
  intro k
  induction k with
  | zero => intro _ j hj; omega
  | succ k ih =>
    intro hk j hj
    simp only [newt]
    rw [ev_axp (by rw [length_vanA, length_newt]; omega)]
    by_cases e : j = k
    · subst e
      rw [GF.mul_assoc, GF.inv_mul (van_ne hA (by omega)), GF.mul_one, GF.add_comm, GF.add_assoc, GF.add_self, GF.add_zero]
    · rw [(ev_vanA k (by omega)).2 ⟨j, by omega, rfl⟩, GF.mul_zero, GF.add_zero]
      exact ih (by omega) j (by omega)
theorem newt_lag {X Y : List GF} (hA : Apart X) : tr (newt X Y X.length) = lag X Y :=
  lag_uniq hA (fun k hk => co_newt X Y _ (Nat.le_refl _) k hk) (fun j hj => ev_newt hA _ (Nat.le_refl _) j hj)

theorem own_on {w w' : World} {base B : Nat} {e : TypeId} {g n c : Nat} {xs : List Value} (h : w.ownsRow base e 1 (.slice (some ⟨g, 0, none⟩) n c) n xs) (hb : Below B w w') (hg : g < B) : w'.ownsRow base e 1 (.slice (some ⟨g, 0, none⟩) n c) n xs := by
  refine ⟨h.1, ?_⟩
  rcases h.2 with h2 | ⟨g', cap, cur, h1, h2, h3, h4⟩
  · exact .inl h2
  · cases h1
    exact .inr ⟨g, _, cur, rfl, h2, (hb.block g hg).trans h3, h4⟩
theorem own_drew {w : World} {base : Nat} {e : TypeId} {v : Value} {n : Nat} {xs : List Value} (h : w.ownsRow base e 1 v n xs) : w.drew.ownsRow base e 1 v n xs := h

theorem through_uneq (v : Value) (a : Option Addr) (L cap : Nat) (a2 : Option Addr) (L2 cap2 : Nat) (w : World) (hne : L ≠ L2) : Calls Try.prog 22 #[v, .slice a L cap, .slice a2 L2 cap2] w fun e w' => e = .returned (.tuple #[.slice none 0 0, .int .i64 1]) ∧ w = w' := by
  have q : ((L : Int) != (L2 : Int)) = true := by rw [bne_iff_ne]; omega
  go_enter Try.func22, Try.ntmps22
  go_wp2
  go_ret2
  exact ⟨rfl, rfl⟩
theorem through_nil (a : Option Addr) (L cap : Nat) (a2 : Option Addr) (cap2 : Nat) (w : World) : Calls Try.prog 22 #[.pointer none, .slice a L cap, .slice a2 L cap2] w fun e w' => e = .returned (.tuple #[.slice none 0 0, .int .i64 1]) ∧ w = w' := by
  go_enter Try.func22, Try.ntmps22
  go_wp2_with (go_at_call 37; refine (checked_nil _ _).mono ?_; rintro e w' ⟨rfl, rfl⟩)
  go_ret2
  exact ⟨rfl, rfl⟩
theorem through_bad (b : Nat) (a : Option Addr) (L cap : Nat) (X : List GF) (a2 : Option Addr) (cap2 : Nat) (w : World) (hx : Pa w a L cap X) (hE : plErr X ≠ 0) :
    Calls Try.prog 22 #[.pointer (some ⟨b, 0, none⟩), .slice a L cap, .slice a2 L cap2] w fun e w' => e = .returned (.tuple #[.slice none 0 0, .int .i64 (plErr X)]) ∧ Below w.heap.size w w' := by
  have q : (plErr X != 0) = true := by rw [bne_iff_ne]; exact hE
  have HX := Lib.hid hx
  clear hx hE
  go_enter Try.func22, Try.ntmps22
  go_wp2_with (go_at_call 37; refine (checked_any _ _ _ _ X _ HX.out).mono ?_; rintro e w1 ⟨rfl, hb1⟩)
  go_ret2
  exact ⟨rfl, hb1⟩

theorem pn_own {w : World} {base : Nat} {e : TypeId} {g gb n c : Nat} {P : List GF} (h : w.ownsRow base e 1 (.slice (some ⟨gb, 0, none⟩) n c) n ((iL P).map (Value.int .u8))) (hne : gb ≠ g) : Pn w g (some ⟨gb, 0, none⟩) P := fun h0 => by
  have hl : P.length = n := by have := h.1; simpa [iL] using this
  exact ⟨gb, 0, rfl, hne, fun i hi => by rw [own_cells h i (by omega), getD_iL]⟩

set_option maxHeartbeats 2000000 in
theorem through_any (b : Nat) (a : Option Addr) (L cap : Nat) (X : List GF) (a2 : Option Addr) (cap2 : Nat) (Y : List GF) (w : World) (hf : Fld w b) (hx : Pa w a L cap X) (hy : Pa w a2 L cap2 Y) (hE : plErr X = 0) :
    Calls Try.prog 22 #[.pointer (some ⟨b, 0, none⟩), .slice a L cap, .slice a2 L cap2] w fun e w' => ∃ v, e = .returned (.tuple #[v, .int .i64 0]) ∧
      w'.ownsRow w.heap.size 5 1 v (lag X Y).length ((iL (lag X Y)).map (Value.int .u8)) ∧ Below w.heap.size w w' := by
  have hl := hx.len
  obtain ⟨h0, h255, hA⟩ := plErr_zero.1 hE
  rw [hl] at h0 h255
  have HX := Lib.hid hx
  have HY := Lib.hid hy
  have HF := Lib.hid hf
  have HL := Lib.hid hl
  have HE := Lib.hid hE
  have HA := Lib.hid hA
  have hmk := run_make_row' (P := Try.prog) 22 5 (.int .u8 0) 1 Try.underlying22 info5 rfl .i64 .i64 L (by omega) (by omega)
  clear hx hy hf hl hE hA
  go_enter Try.func22, Try.ntmps22
  go_wp2_with (go_at_call 37; refine (checked_any _ _ _ _ X _ HX.out).mono ?_; rintro e w1 ⟨rfl, hb1⟩; have q5 : (plErr X != 0) = false := (by rw [HE.out]; rfl))
  obtain ⟨g, hg⟩ : ∃ g, g = w1.heap.size := ⟨_, rfl⟩
  have hmade := own_made (w := w1) (e := 5) (n := L) (by unfold maxLen; omega)
  have hone := own_one (w1.alloc (.cells (madeCells #[Value.int .u8 0] L) 5)) 1
  have hbm : Below w.heap.size w (w1.alloc (.cells (madeCells #[Value.int .u8 0] L) 5)) := hb1.alloc hb1.size _
  have hbm2 := hbm.alloc hbm.size (.cells #[.int .u8 (toI 1)] 5)
  have hmade2 := own_on hmade ((Below.refl _ (w1.alloc (.cells (madeCells #[Value.int .u8 0] L) 5))).alloc (Nat.le_refl _) (.cells #[.int .u8 (toI 1)] 5)) (by simp)
  have HO0 := Lib.hid (own_base hmade2 hb1.size)
  have HB0 := Lib.hid (own_base hone hbm.size)
  have HW0 := Lib.hid hbm2
  rw [World.size_alloc] at HB0
  have hgw : w.heap.size ≤ g := by rw [hg]; exact hb1.size
  rw [← hg] at HO0 HB0 ⊢
  clear hmade hone hbm hbm2 hmade2 hg
  go_loopw [33, 10] (fun j o wr => ∃ k gb : Nat, k ≤ L ∧ j = .int .i64 (k : Nat) ∧ o = .slice (some ⟨gb, 0, none⟩) (k + 1 : Nat) (k + 1 : Nat) ∧ Hid (g < gb) ∧
      Hid (wr.ownsRow w.heap.size 5 1 (.slice (some ⟨g, 0, none⟩) L L) L ((iL (newt X Y k)).map (Value.int .u8))) ∧
      Hid (wr.ownsRow w.heap.size 5 1 (.slice (some ⟨gb, 0, none⟩) (k + 1 : Nat) (k + 1 : Nat)) (k + 1) ((iL (vanA X k)).map (Value.int .u8))) ∧ Hid (Below w.heap.size w wr))
    (fun j _ _ => L - (intOf j).toNat)
  case atStart =>
    refine ⟨0, g + 1, Nat.zero_le _, rfl, rfl, Lib.hid (by omega), Lib.hid ?_, HB0, HW0⟩
    have : iL (newt X Y 0) = List.replicate L 0 := by simp only [newt, iL, List.map_replicate, toI_zero]; rw [HL.out]
    rw [this]
    exact HO0.out
  case round =>
    obtain ⟨k, gb, hk, rfl, rfl, hgb, hR, hV, hB⟩ := hrel
    by_cases hlt : k < L
    · obtain ⟨bx, ox, rfl, hbx, hcx⟩ := (HX.out.on hB.out).at_ hlt
      obtain ⟨by', oy, rfl, hby, hcy⟩ := (HY.out.on hB.out).at_ hlt
      have q2 : (k : Int) < (L : Int) := by omega
      have q3 : (0 : Int) ≤ (k : Int) := by omega
      have hgl := (hR.out.lt g rfl).2
      have hgbl := (hV.out.lt gb rfl).2
      obtain ⟨M, hM⟩ : ∃ M, M = k + 1 := ⟨_, rfl⟩
      have HM := Lib.hid hM
      rw [← hM] at hV ⊢
      have hMl : M ≤ L := by omega
      have hM0 : 0 < M := by omega
      have hvn := van_ne HA.out (k := k) (by rw [HL.out]; exact hlt)
      have HVN := Lib.hid hvn
      clear hM hvn
      have hcy2 : wr.drew.cell? ⟨by', oy + k, none⟩ = some (.int .u8 (toI (co Y k))) := hcy
      have hfd := HF.out.below hB.out.drew
      have HPO := Lib.hid (Pa.own2 (own_drew hR.out)).1
      go_wp2_with fail
      go_region_held (fun W => W.cell? ⟨by', oy + k, none⟩ = some (.int .u8 (toI (co Y k))) ∧ Below wr.heap.size wr W) (first | exact ⟨hcy2, (Below.refl _ _).drew⟩ | assumption | exact ⟨(hb5.cell (p := ⟨by', oy + k, none⟩) hby).trans hcy2, (Below.refl _ _).drew.trans hb5⟩)
        (first
          | (go_at_call 13; refine (eval_8 b _ L L (newt X Y k) (co X k) _ hfd HPO.out (by omega)).mono ?_; rintro e w5 ⟨rfl, hb5⟩)
          | (go_at_call 14; refine (add_G _ _ _).mono ?_; rintro e w' ⟨rfl, rfl⟩))
      have hb15 : Below wr.heap.size wr w5 := (Below.refl _ _).drew.trans hb5
      have H5 := Lib.hid (bt hB.out hb15)
      have hr5 := Lib.hid (own_on hR.out hb15 hgl)
      have hv5 := Lib.hid (own_on hV.out hb15 hgbl)
      have HG := hgb.out
      have hg5 : w.heap.size ≤ w5.heap.size := H5.out.size
      have hf5 := Lib.hid (HF.out.below H5.out)
      have hbb : b < w.heap.size := HF.out.1
      clear hb5 hb15 hcy2 hfd
      go_wp2_with (first
        | (go_at_call 13; go_loud (refine (eval_8 b _ M M (vanA X k) (co X k) _ hf5.out (Pa.own2 hv5.out).1 (by omega)).mono ?_); rintro e w6 ⟨rfl, hb6⟩; have hr6 := Lib.hid (own_on hr5.out hb6 (hr5.out.lt g rfl).2); have hv6 := Lib.hid (own_on hv5.out hb6 (hv5.out.lt gb rfl).2); have hf6 := Lib.hid (hf5.out.below hb6); have H6 := Lib.hid (bt H5.out hb6))
        | (go_at_call 36; refine (div_G _ _ _ _ hf6.out HVN.out).mono ?_; rintro e w' ⟨rfl, rfl⟩)
        | (go_at_call 30; go_loud (refine (addTimes_any b g 0 L L L L w.heap.size _ (some ⟨gb, 0, none⟩) M M (newt X Y k) (vanA X k) _ hf6.out (by omega) hr6.out (pn_own hv6.out (by omega)) (by rw [length_vanA, HM.out]) (by omega) (by omega) (by omega)).mono ?_); rintro e w7 ⟨rfl, hown7, hg7⟩; have hr7 := Lib.hid hown7; have hv7 := Lib.hid (hv6.out.kept hg7 (.inr (by simp [Value.ownBlock]; omega))); have hf7 := Lib.hid (hf6.out.grown hg7 (by omega)); have H7 := Lib.hid (H6.out.trans (grown_below hg7 hgw H6.out.size)); clear hown7 hg7)
        | (go_at_call 38; go_loud (refine (withRoot_any b _ M M (vanA X k) (co X k) _ hf7.out (Pa.own2 hv7.out) hM0 (by omega)).mono ?_); rintro e w8 ⟨g8, rfl, hown8, hb8⟩; have hv8 := Lib.hid hown8; have hr8 := Lib.hid (own_on hr7.out hb8 (hr7.out.lt g rfl).2); have H8 := Lib.hid (bt H7.out hb8); have hg8 := (hv8.out.lt g8 rfl).1; have hg78 := (hr7.out.lt g rfl).2; clear hown8))
      go_roundw
      case rel =>
        rw [HM.out, vanA_root] at hv8
        exact ⟨k + 1, g8, by omega, by go_num, by rw [HM.out], Lib.hid (by omega), Lib.hid hr8.out, Lib.hid (own_base hv8.out H7.out.size), Lib.hid H8.out⟩
      case measure => simp [intOf]; omega
    · obtain rfl : k = L := by omega
      have ht := newt_lag (Y := Y) HA.out
      rw [HL.out] at ht
      have HT := Lib.hid ht
      clear ht
      go_wp2_with (go_at_call 19; refine (trim_any _ _ _ (newt X Y k) _ (Pa.own2 hR.out) (by omega)).mono ?_; rintro e w9 ⟨v, rfl, hown9, hb9⟩; obtain ⟨ac, cc, hv, _, _, _, _, _⟩ := own_form hown9; subst hv; have HO9 := Lib.hid hown9; clear hown9)
      go_ret2
      rw [HT.out] at HO9
      exact ⟨_, by rw [HT.out]; rfl, own_base HO9.out hB.out.size, bt hB.out hb9⟩
end Go.Proofs.Ytgbcdmognobieaa
