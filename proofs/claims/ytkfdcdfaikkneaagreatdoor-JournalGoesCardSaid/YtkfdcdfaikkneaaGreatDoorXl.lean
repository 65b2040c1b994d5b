/- Layer 15's law: the steps where the power lasts; lives. -/
import Derived.Test.YtkfdcdfaikkneaaGreatDoorXk
namespace Go.Proofs.YtkfdcdfaikkneaaGreatDoor
open Go.ChangeShapes Go.WideShapes Go.ChangeAt Go.RowKit Go.Shelf
set_option linter.unusedVariables false
set_option linter.unusedSimpArgs false
set_option maxRecDepth 100000
attribute [local go_sem] Oper.semAt_some

variable {tb : Nat} {F F' Fp : Nat → Prop} {S : MS} {pp : Option Nat} {l : Int} {u j : Nat}
theorem SlR.sh {B : Nat} {w : World} {a : Option Addr} {c : Nat} {Z : List SZ} (h : SlR B w a c Z) : ShRow w a Z.length c Z := ⟨rfl, own_low h.own (Nat.zero_le _), h.row⟩
theorem SlR.fr {B : Nat} {w : World} {a : Option Addr} {c : Nat} {Z : List SZ} (h : SlR B w a c Z) (hF : ∀ k, F k ∨ Fp k → k < B) : ShFr F Fp w a Z.length c Z := fun k hk => by
  rcases hk with e | ⟨z, o, hz, h0, e⟩
  · have := own_lt h.own e
    exact ⟨this.2, fun hf => by have := hF k (.inl hf); omega, fun hf => by have := hF k (.inr hf); omega⟩
  · have h1 := h.new z hz h0 k o e
    obtain ⟨g', o', e', hlt⟩ := arg_new (h.row z hz).2.2 h0
    rw [e] at e'; cases e'
    exact ⟨hlt, fun hf => by have := hF k (.inl hf); omega, fun hf => by have := hF k (.inr hf); omega⟩
/-- A step that goes to its end. -/
def SurePost (i : Nat) (g : Int) (L : List SH) (M : Nat → Option (List Int)) (tb : Nat) (F : Nat → Prop) (pp : Option Nat) (Fp : Nat → Prop) (j : Nat) (w : World) (e : Ending) (w' : World) : Prop :=
  ∃ F' u', e = .returned (.int .i64 0) ∧ MJ w' tb F' (memS (applyW M (stepW i g L))) pp Fp (-1) u' (j + 18) ∧ Stp F Fp w F' w'
theorem sure_of {w w' : World} {M : Nat → Option (List Int)} {i : Nat} {g : Int} {L : List SH} {e : Ending} {D : DS} (hi : i < 4) (hc : ChP g L) (hD : D = stepD pp.isSome i g L (memS M) (-1) u) (h : ∃ F', e = .returned (.int .i64 D.err) ∧ MJ w' tb F' D.S pp Fp D.l D.u (j + 18) ∧ Stp F Fp w F' w') :
    SurePost i g L M tb F pp Fp j w e w' := by
  obtain ⟨F1, h1, h2, h3⟩ := h
  obtain ⟨e1, e2, e3⟩ := stepD_sure pp.isSome hi hc M u
  rw [← hD] at e1 e2 e3
  rw [e1] at h1
  rw [e2, e3] at h2
  exact ⟨F1, D.u, h1, h2, h3⟩
variable {w : World} {M : Nat → Option (List Int)}
theorem step_sure (h : MJ w tb F (memS M) pp Fp (-1) u j) (hj : j ≤ 800) (i : Nat) (hi : i < 4) (g : Int) (a : Option Addr) (n c : Nat) (Z : List SZ) (hc : ChP g (L_ Z)) (hZ : ShRow w a n c Z) (hF : ShFr F Fp w a n c Z) :
    Calls Tryz.prog 9 #[tbV tb, .int .i64 (i : Nat), .slice a n c, .int .u64 g] w (SurePost i g (L_ Z) M tb F pp Fp j w) :=
  (step_any h hj i hi g hc.gen a n c Z hZ hF).mono fun e w' hh => sure_of hi hc rfl hh
theorem stage_sure (h : MJ w tb F (memS M) pp Fp (-1) u j) (hj : j ≤ 800) (g : Int) (a : Option Addr) (n c : Nat) (Z : List SZ) (hc : ChP g (L_ Z)) (hZ : ShRow w a n c Z) (hF : ShFr F Fp w a n c Z) :
    Calls Tryz.prog 18 #[tbV tb, .slice a n c] w (SurePost 0 g (L_ Z) M tb F pp Fp j w) :=
  (stage_any h (by omega) a n c Z hZ hF).mono fun e w' ⟨F1, h1, h2, h3⟩ => sure_of (i := 0) (by omega) hc rfl ⟨F1, h1, h2.more (by omega), h3⟩
theorem mark_sure (h : MJ w tb F (memS M) pp Fp (-1) u j) (hj : j ≤ 800) (g : Int) (L : List SH) (hc : ChP g L) (n : Int) (hn : n = (L.length : Nat)) :
    Calls Tryz.prog 19 #[tbV tb, .int .u64 g, .int .i64 n] w (SurePost 1 g L M tb F pp Fp j w) := by
  rw [hn]
  exact (mark_any h (by omega) g (L.length : Nat) hc.gen (by have := hc.few; unfold i64R; omega)).mono fun e w' ⟨F1, h1, h2, h3⟩ => sure_of (i := 1) (by omega) hc rfl ⟨F1, h1, h2.more (by omega), h3⟩
theorem apply_sure (h : MJ w tb F (memS M) pp Fp (-1) u j) (hj : j ≤ 800) (g : Int) (a : Option Addr) (n c : Nat) (Z : List SZ) (hc : ChP g (L_ Z)) (hZ : ShRow w a n c Z) (hF : ShFr F Fp w a n c Z) :
    Calls Tryz.prog 20 #[tbV tb, .slice a n c] w (SurePost 2 g (L_ Z) M tb F pp Fp j w) :=
  (apply_any h (by omega) a n c Z hZ hF).mono fun e w' ⟨F1, h1, h2, h3⟩ => sure_of (i := 2) (by omega) hc rfl ⟨F1, h1, h2.more (by omega), h3⟩
theorem stepD3 (pp : Bool) (g : Int) (L : List SH) (S : MS) (l : Int) (u : Nat) : stepD pp 3 g L S l u = clrD pp g S l u := by
  unfold stepD
  rw [if_neg (by decide), if_neg (by decide), if_neg (by decide)]
theorem clear_sure (h : MJ w tb F (memS M) pp Fp (-1) u j) (hj : j ≤ 800) (g : Int) (L : List SH) (hc : ChP g L) :
    Calls Tryz.prog 21 #[tbV tb, .int .u64 g] w (SurePost 3 g L M tb F pp Fp j w) :=
  (clear_any h hj g hc.gen).mono fun e w' hh => sure_of (D := clrD pp.isSome g (memS M) (-1) u) (i := 3) (by omega) hc (stepD3 _ _ _ _ _ _).symm hh
/-- What Look tells of a member. -/
theorem look_std (h : MJ w tb F (memS M) pp Fp l u j) (hj : j ≤ 999) (hl : l ≠ 0) {g : Int} {c : CM} {cb : List Int} {L : List SH} {H : Nat → List Int} (hM : Std M cb L H) (hcb : (cb = zsec ∧ c = ⟨0, 0, 0⟩) ∨ (cb = c.B ∧ c.Wf ∧ c.Ok)) (hc : ChP g L) :
    Calls Tryz.prog 10 #[tbV tb] w fun e w' => ∃ a k Z, e = .returned (.tuple #[stG c (.slice a Z.length k), .int .i64 0]) ∧ L_ Z = L ∧ SlR w.heap.size w' a k Z ∧ Below w.heap.size w w' := by
  refine (look_any h hj rfl hl (show 18 ≤ 24 by omega)).mono ?_
  rintro e w' ⟨a, k, Z, rfl, h1, h2, -, h3⟩
  have hE : lookE (memS M) = 0 ∧ lookC (memS M) = c := by
    rcases hcb with ⟨rfl, rfl⟩ | ⟨rfl, hw, ho⟩
    · exact look_idle hM.com
    · exact look_com hM.com hw ho
  have hS := look_slots (S := memS M) hE.1 hc hM.slot hM.free
  exact ⟨a, k, Z, by rw [hE.1, hE.2], by rw [h1, hS], h2, h3⟩
theorem cmOk1 {n : Nat} {g : Int} (hn : n ≤ 5) (hg : genI g) : (CM.mk 1 (n : Nat) g).Wf ∧ (CM.mk 1 (n : Nat) g).Ok := ⟨cmWf (by unfold byteI; omega) (by unfold byteI; omega) hg, by show (1 : Int) ≤ 2; omega, by show (n : Int) ≤ 16; omega⟩
theorem cmOk2 {g : Int} (hg : genI g) : (CM.mk 2 0 g).Wf ∧ (CM.mk 2 0 g).Ok := ⟨cmWf (by unfold byteI; omega) (by unfold byteI; omega) hg, by show (2 : Int) ≤ 2; omega, by show (0 : Int) ≤ 16; omega⟩
set_option maxHeartbeats 16000000 in
theorem lives15 (w : World) : Calls Tryz.prog 4 #[] w fun e w' => e = .returned (.bool true) ∧ Below w.heap.size w w' := by
  have HM := Lib.hid (made15_any none FN15 (-1) 0 0 w ⟨fun k h => h, rfl, rfl⟩ (by unfold LeftOk; omega) (Nat.le_refl _))
  have hg7 : genI 7 := ⟨by omega, by omega⟩
  have HG := Lib.hid hg7
  clear hg7
  go_enter Tryz.func4, Tryz.ntmps4
  go_upto_region 2 with (go_at_call 5; go_loud (refine HM.out.mono ?_; rintro e w1 ⟨tb, F1, rfl, hm1, hf1, hb1⟩; have HM1 := Lib.hid hm1; have HF1 := Lib.hid hf1; have HB1 := Lib.hid hb1; clear hm1 hf1 hb1))
  have hAr := heap_alloc_new w1 (.cells #[.int .u32 1, .int .u8 2] 66)
  have HOF := Lib.hid (of15 (some ⟨w1.heap.size, 0, none⟩) 1 1 [(1, 2)] 7 1 (w1.alloc (.cells #[.int .u32 1, .int .u8 2] 66)) ⟨rfl, Nat.le_refl _, by unfold maxLen; omega, fun x hx => by rw [List.mem_singleton.1 hx]; exact ⟨⟨by omega, by omega⟩, by unfold byteI; omega⟩, fun _ => ⟨w1.heap.size, 0, rfl, by simp, fun i x hx => by
    have : i = 0 := by
      rcases Nat.eq_zero_or_pos i with h | h
      · exact h
      · rw [List.getElem?_eq_none (by show 1 ≤ i; omega)] at hx; cases hx
    subst this
    cases hx
    exact ⟨by rw [cell_of_row _ w1.heap.size _ _ _ _ hAr]; rfl, by rw [cell_of_row _ w1.heap.size _ _ _ _ hAr]; rfl⟩⟩⟩ (by omega) (by unfold byteI; omega) HG.out)
  clear hAr
  go_upto_region 3 with (go_at_call 7; go_loud (refine HOF.out.mono ?_; rintro e w2 ⟨a, c, Z, rfl, hp2, hs2, hb2⟩; have HP2 := Lib.hid hp2; have HS2 := Lib.hid hs2; have HB2 := Lib.hid hb2; clear hp2 hs2 hb2))
  have hlen : Z.length = 1 := by
    have h1 := HP2.out.few.2.1
    have h2 := HP2.out.few.2.2 (by omega)
    rw [List.length_map] at h1 h2
    omega
  rw [hlen]
  have HL := Lib.hid hlen
  have HC := Lib.hid (HP2.out.ch (by unfold byteI; omega) (by omega) HG.out)
  have hs1 : (w1.alloc (.cells #[.int .u32 1, .int .u8 2] 66)).heap.size = w1.heap.size + 1 := by simp
  have hlt1 : ∀ k, F1 k ∨ FN15 k → k < w1.heap.size := fun k hk => HM1.out.inside hk
  have HR2 := Lib.hid (show ShRow w2 a 1 c Z ∧ ShFr F1 FN15 w2 a 1 c Z by
    have h1 := HS2.out.sh
    have h2 := HS2.out.fr (F := F1) (Fp := FN15) (fun k hk => by have := hlt1 k hk; omega)
    rw [hlen] at h1 h2
    exact ⟨h1, h2⟩)
  have HB12 := Lib.hid (show Below w1.heap.size w1 w2 from bt ((Below.refl _ _).alloc (Nat.le_refl _) _) HB2.out)
  have HM2 := Lib.hid (show MJ w2 tb F1 (memS (MS.new 24).med) none FN15 (-1) 0 0 from HM1.out.on HB12.out)
  have HF2 := Lib.hid (show ∀ k, F1 k ∨ FN15 k → w.heap.size ≤ k from fun k hk => hk.elim (HF1.out k) (fun h => h.elim))
  have HW2 := Lib.hid (show Below w.heap.size w w2 from bt HB1.out HB12.out)
  obtain ⟨L, hLL⟩ : ∃ L, L = L_ Z := ⟨_, rfl⟩
  have HLL := Lib.hid hLL
  rw [← hLL] at HC
  have HLn := Lib.hid (show L.length = 1 by rw [hLL, List.length_map, hlen])
  clear hlen hs1 hlt1 hLL
  obtain ⟨M1, hM1⟩ : ∃ M1, M1 = applyW (MS.new 24).med (stepW 0 7 L) := ⟨_, rfl⟩
  obtain ⟨M2, hM2⟩ : ∃ M2, M2 = applyW M1 (stepW 1 7 L) := ⟨_, rfl⟩
  obtain ⟨M3, hM3⟩ : ∃ M3, M3 = applyW M2 (stepW 2 7 L) := ⟨_, rfl⟩
  obtain ⟨M4, hM4⟩ : ∃ M4, M4 = applyW M3 (stepW 3 7 L) := ⟨_, rfl⟩
  have t1 := (std0.stage (g := 7) HC.out)
  rw [← hM1] at t1
  have t2 := t1.mark HC.out
  rw [← hM2] at t2
  have t3 := t2.apply HC.out
  rw [← hM3] at t3
  have t4 := t3.clear HC.out
  rw [← hM4] at t4
  have HT := Lib.hid (And.intro t1 (And.intro t2 t4))
  have HMM := Lib.hid (And.intro hM1 (And.intro hM2 (And.intro hM3 hM4)))
  clear hM1 hM2 hM3 hM4 t1 t2 t3 t4
  go_upto_region 4 with (go_at_call 18; go_loud (refine (stage_sure HM2.out (by omega) 7 a 1 c Z (by rw [← HLL.out]; exact HC.out) HR2.out.1 HR2.out.2).mono ?_; rintro e w3 ⟨F3, u3, rfl, hm3, hs3⟩; rw [← HLL.out, ← HMM.out.1] at hm3; have HM3 := Lib.hid hm3; have HS3 := Lib.hid hs3; clear hm3 hs3))
  have HR3 := Lib.hid (HR2.out.1.step HR2.out.2 HS3.out)
  go_upto_region 5 with (go_at_call 10; go_loud (refine (look_std (g := 7) (c := ⟨0, 0, 0⟩) HM3.out (by omega) (by omega) HT.out.1 (.inl ⟨rfl, rfl⟩) HC.out).mono ?_; rintro e w4 ⟨a4, k4, Z4, rfl, hL4, hs4, hb4⟩; have hz4 : Z4.length = 1 := (by have h := congrArg List.length hL4; rw [List.length_map, HLn.out] at h; exact h); rw [hz4]; have HB4 := Lib.hid hb4; clear hL4 hs4 hb4 hz4; unfold stG))
  obtain ⟨X4, hX4⟩ : ∃ X4, X4 = w4.alloc (.cells #[.int .u8 0, .int .u8 0, .int .u64 0, .slice a4 1 k4] 48) := ⟨_, rfl⟩
  rw [← hX4]
  have HBX4 := Lib.hid (show Below w3.heap.size w3 X4 from bt HB4.out (by rw [hX4]; exact (Below.refl _ _).alloc (Nat.le_refl _) _))
  have HK4 := Lib.hid (show X4.heap[w4.heap.size]? = some (.cells #[.int .u8 0, .int .u8 0, .int .u64 0, .slice a4 1 k4] 48 (0, 0)) from by rw [hX4]; exact heap_alloc_new w4 _)
  have HMX4 := Lib.hid (HM3.out.on HBX4.out)
  have HFX4 := Lib.hid (show Fr F3 FN15 X4 w4.heap.size from HM3.out.fr_new HB4.out.size (Array.getElem?_eq_some_iff.1 HK4.out).1)
  have HRX4 := Lib.hid (show ShRow X4 a 1 c Z ∧ ShFr F3 FN15 X4 a 1 c Z from ⟨HR3.out.1.on HBX4.out, HR3.out.2.up HBX4.out.size⟩)
  clear hX4
  go_upto_region 6 with (go_at_call 19; go_loud (refine (mark_sure HMX4.out (by omega) 7 L HC.out 1 (by rw [HLn.out]; rfl)).mono ?_; rintro e w5 ⟨F5, u5, rfl, hm5, hs5⟩; rw [← HMM.out.2.1] at hm5; have HM5 := Lib.hid hm5; have HS5 := Lib.hid hs5; clear hm5 hs5))
  go_upto_region 7 with (go_at_call 10; go_loud (refine (look_std (g := 7) (c := ⟨1, (L.length : Nat), 7⟩) HM5.out (by omega) (by omega) HT.out.2.1 (.inr ⟨rfl, cmOk1 (by have := HLn.out; omega) HG.out⟩) HC.out).mono ?_; rintro e w6 ⟨a6, k6, Z6, rfl, hL6, hs6, hb6⟩; have hz6 : Z6.length = 1 := (by have h := congrArg List.length hL6; rw [List.length_map, HLn.out] at h; exact h); rw [hz6, HLn.out]; have HB6 := Lib.hid hb6; clear hL6 hs6 hb6 hz6; unfold stG; dsimp only))
  obtain ⟨X6, hX6⟩ : ∃ X6, X6 = w6.alloc (.cells #[.int .u8 1, .int .u8 1, .int .u64 7, .slice a6 1 k6] 48) := ⟨_, rfl⟩
  have hX6' : w6.alloc (.cells #[.int .u8 1, .int .u8 ((1 : Nat) : Int), .int .u64 7, .slice a6 1 k6] 48) = X6 := hX6.symm
  first
    | rw [← hX6]
    | rw [hX6']
  have HBX6 := Lib.hid (show Below w5.heap.size w5 X6 from bt HB6.out (by rw [hX6]; exact (Below.refl _ _).alloc (Nat.le_refl _) _))
  have HK6 := Lib.hid (show X6.heap[w6.heap.size]? = some (.cells #[.int .u8 1, .int .u8 1, .int .u64 7, .slice a6 1 k6] 48 (0, 0)) from by rw [hX6]; exact heap_alloc_new w6 _)
  have HMX6 := Lib.hid (HM5.out.on HBX6.out)
  have HFX6 := Lib.hid (show Fr F5 FN15 X6 w6.heap.size from HM5.out.fr_new HB6.out.size (Array.getElem?_eq_some_iff.1 HK6.out).1)
  have HR5 := Lib.hid (HRX4.out.1.step HRX4.out.2 HS5.out)
  have HRX6 := Lib.hid (show ShRow X6 a 1 c Z ∧ ShFr F5 FN15 X6 a 1 c Z from ⟨HR5.out.1.on HBX6.out, HR5.out.2.up HBX6.out.size⟩)
  have HF46 := Lib.hid (show Fr F5 FN15 X6 w4.heap.size from (HS5.out.fr HFX4.out).up HBX6.out.size)
  have HK46 := Lib.hid (show X6.heap[w4.heap.size]? = some (.cells #[.int .u8 0, .int .u8 0, .int .u64 0, .slice a4 1 k4] 48 (0, 0)) from (HBX6.out.block _ (HS5.out.fr HFX4.out).1).trans ((HS5.out.same HFX4.out).trans HK4.out))
  clear hX6 hX6'
  go_upto_region 8 with (first
    | (go_at_call 20; go_loud (refine (apply_sure HMX6.out (by omega) 7 a 1 c Z (by rw [← HLL.out]; exact HC.out) HRX6.out.1 HRX6.out.2).mono ?_; rintro e w7 ⟨F7, u7, rfl, hm7, hs7⟩; rw [← HLL.out, ← HMM.out.2.2.1] at hm7; have HM7 := Lib.hid hm7; have HS7 := Lib.hid hs7; clear hm7 hs7))
    | (go_at_call 21; go_loud (refine (clear_sure HM7.out (by omega) 7 L HC.out).mono ?_; rintro e w8 ⟨F8, u8, rfl, hm8, hs8⟩; rw [← HMM.out.2.2.2] at hm8; have HM8 := Lib.hid hm8; have HS8 := Lib.hid (HS7.out.trans hs8); clear hm8 hs8)))
  have HK48 := Lib.hid ((HS8.out.same HF46.out).trans HK46.out)
  have HK68 := Lib.hid ((HS8.out.same HFX6.out).trans HK6.out)
  go_upto_region 9 with (go_at_call 10; go_loud (refine (look_std (g := 7) (c := ⟨2, 0, 7⟩) HM8.out (by omega) (by omega) HT.out.2.2 (.inr ⟨rfl, cmOk2 HG.out⟩) (chP_nil HG.out)).mono ?_; rintro e w9 ⟨a9, k9, Z9, rfl, hL9, hs9, hb9⟩; have hz9 : Z9.length = 0 := (by have h := congrArg List.length hL9; rw [List.length_map] at h; exact h); rw [hz9]; have HB9 := Lib.hid hb9; clear hL9 hs9 hb9 hz9; unfold stG; dsimp only))
  obtain ⟨X9, hX9⟩ : ∃ X9, X9 = w9.alloc (.cells #[.int .u8 2, .int .u8 0, .int .u64 7, .slice a9 0 k9] 48) := ⟨_, rfl⟩
  rw [← hX9]
  have HBX9 := Lib.hid (show Below w8.heap.size w8 X9 from bt HB9.out (by rw [hX9]; exact (Below.refl _ _).alloc (Nat.le_refl _) _))
  have HK99 := Lib.hid (show X9.heap[w9.heap.size]? = some (.cells #[.int .u8 2, .int .u8 0, .int .u64 7, .slice a9 0 k9] 48 (0, 0)) from by rw [hX9]; exact heap_alloc_new w9 _)
  have HK49 := Lib.hid ((HBX9.out.block _ (Array.getElem?_eq_some_iff.1 HK48.out).1).trans HK48.out)
  have HK69 := Lib.hid ((HBX9.out.block _ (Array.getElem?_eq_some_iff.1 HK68.out).1).trans HK68.out)
  have HEND := Lib.hid (show Below w.heap.size w X9 from bt (HW2.out.trans (((HS3.out.on HBX4.out).trans ((HS5.out.on HBX6.out).trans (HS8.out.on HBX9.out))).below HW2.out.size HF2.out)) (Below.refl _ _))
  clear hX9
  go_wp2_with fail
  obtain ⟨Y, hY⟩ : ∃ Y, Y = X9.alloc (.cells #[.int .i64 0, .int .i64 0, .int .i64 0, .int .i64 0, .int .i64 0, .int .i64 0, .int .i64 0] 34) := ⟨_, rfl⟩
  rw [← hY]
  have HBY := Lib.hid (show Below X9.heap.size X9 Y from by rw [hY]; exact (Below.refl _ _).alloc (Nat.le_refl _) _)
  have HKY := Lib.hid (show ∀ k, k < 7 → Y.cell? ⟨X9.heap.size, k, none⟩ = some (.int .i64 0) from fun k hk => by
    rw [hY, cell_of_row _ X9.heap.size k _ _ _ (heap_alloc_new X9 _)]
    match k, hk with
    | 0, _ => rfl
    | 1, _ => rfl
    | 2, _ => rfl
    | 3, _ => rfl
    | 4, _ => rfl
    | 5, _ => rfl
    | 6, _ => rfl)
  clear hY
  go_loopw [53] (fun q wr => ∃ k : Nat, k ≤ 7 ∧ q = .int .i64 (k : Nat) ∧ wr = Y) (fun q _ => 7 - (intOf q).toNat)
  case atStart => exact ⟨0, Nat.zero_le _, rfl, rfl⟩
  case round =>
    obtain ⟨k, hk, rfl, hw⟩ := hrel
    subst hw
    by_cases hlt : k < 7
    · have hc := HKY.out k hlt
      have q1 : (k : Int) < 7 := by omega
      have HLT := Lib.hid hlt
      clear hlt
      go_wp2_with fail
      go_roundw
      case rel => exact ⟨k + 1, HLT.out, by go_num, by trivial⟩
      case measure => simp [intOf]; have := HLT.out; omega
    · obtain rfl : k = 7 := by omega
      rename World => Y
      obtain ⟨x0, x1, x2, x3⟩ := cell4 ((HBY.out.block _ (Array.getElem?_eq_some_iff.1 HK49.out).1).trans HK49.out)
      obtain ⟨y0, y1, y2, y3⟩ := cell4 ((HBY.out.block _ (Array.getElem?_eq_some_iff.1 HK69.out).1).trans HK69.out)
      obtain ⟨z0, z1, z2, z3⟩ := cell4 ((HBY.out.block _ (Array.getElem?_eq_some_iff.1 HK99.out).1).trans HK99.out)
      go_wp2_with fail
      go_ret
      exact ⟨rfl, bt HEND.out HBY.out⟩
end Go.Proofs.YtkfdcdfaikkneaaGreatDoor
