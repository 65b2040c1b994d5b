/- HashSums' walk. -/
import Derived.Test.YtmcoakjbfgfgpaaDoorJl
import Derived.Deep.RegionHeld
import Derived.Deep.RegionWith
namespace Go.Proofs.YtmcoakjbfgfgpaaDoor
open Go.ChangeShapes Go.WideShapes Go.ChangeAt Go.RowKit
set_option linter.unusedVariables false
set_option linter.unusedSimpArgs false
set_option maxRecDepth 100000

set_option maxHeartbeats 2000000 in
theorem hashSums_core (a : Option Addr) (L c : Nat) (l : List Int) (w : World) (hx : Arg8c w a L c l) (hL : L ≤ 300) (hG : Gl w) :
    Calls Tryd.prog 3 #[.slice a L c] w fun e w' => e = .returned (.bool true) ∧ Below w.heap.size w w' := by
  obtain ⟨i8, hi, hz0, hz1, hz2⟩ := info_parts info8
  have HI := Lib.hid hi
  have HZ0 := Lib.hid hz0
  have HZ1 := Lib.hid hz1
  have HZ2 := Lib.hid hz2
  have HX := Lib.hid hx
  have HGL := Lib.hid hG
  have qL : (L : Int) ≤ 300 := by omega
  have HL := Lib.hid hL
  clear hi hz0 hz1 hz2 hx hG hL
  go_enter Tryd.func3, Tryd.ntmps3
  go_upto_region 3 with (go_at_call 5; go_loud ((with_reducible refine (lives_any w HGL.out).mono ?_); rintro e W1 ⟨rfl, hb⟩; have HB1 := Lib.hid hb; clear hb))
  have HX1 := Lib.hid (HX.out.1.on HB1.out)
  have HN0 := Lib.hid (show (W1.alloc (.cells #[] 5)).ownsRow W1.heap.size 5 1 (.slice (some ⟨W1.heap.size, 0, none⟩) 0 0) 0 (([] : List Int).map (Value.int .u8)) from World.ownsRow_lit (base := W1.heap.size) (e := 5) (size := 1) W1 #[] 0 (Nat.le_refl _) (Nat.zero_le _) rfl)
  have HB0 := Lib.hid (show Below W1.heap.size W1 (W1.alloc (.cells #[] 5)) from (Below.refl _ _).alloc (Nat.le_refl _) _)
  have HX0 := Lib.hid (HX1.out.on HB0.out)
  have HX0S := Lib.hid (show Bs (W1.alloc (.cells #[] 5)) (W1.alloc (.cells #[] 5)).heap.size a l from HX0.out.2.2.1)
  have HXL := Lib.hid (show l.length = L from HX.out.1.1)
  have HXC := Lib.hid HX.out.2
  go_upto_region 4 with ((with_reducible show wpList _ _ _ (⟨some 14, _, _, _, _, _⟩ :: _) _ _); go_loud (refine wpList_append_bs _ (o := ⟨some 14, _, _, _, _, _⟩) rfl (.tmp 12) (.tmp 13) 22 rfl W1.heap.size 5 i8 Tryd.underlying22 HI.out HZ0.out HZ1.out HZ2.out _ 0 [] rfl HN0.out a L c _ l rfl HX0S.out HXL.out HXC.out (by omega) (by simp) ?_; intro v3 W3 ho3 hg3))
  have HB3 := Lib.hid (show Below W1.heap.size W1 W3 from HB0.out.grown hg3 (by simp) (fun k' hk' => by have := Option.some.inj (show some W1.heap.size = some k' from hk'); omega))
  have ho3' : W3.ownsRow W1.heap.size 5 1 v3 L (l.map (Value.int .u8)) := by simpa using ho3
  obtain ⟨a3, c3, rfl, hbs3, hl3, hn3, hm3, _⟩ := own_form ho3'
  have HO3 := Lib.hid (show Arg8 W3 a3 L c3 l from ⟨hl3, HX.out.1.2.1, hbs3, hn3, hm3⟩)
  have HX3 := Lib.hid (HX1.out.on HB3.out)
  have HBW := Lib.hid (bt HB1.out HB3.out)
  have HG3 := Lib.hid (HGL.out.on HBW.out HGL.out.1)
  have hcv0 := HX3.out.str_on
  have hcv3 := HO3.out.str_on
  obtain ⟨sl, hsl⟩ : ∃ sl, sl = sumL l := ⟨_, rfl⟩
  have HSUM := Lib.hid (show ∀ (U : World) (pb : Nat), Below W3.heap.size W3 U → U.cell? ⟨pb, 0, none⟩ = some (.slice a3 L c3) → pb < U.heap.size → Calls Tryd.prog 6 #[.slice (some ⟨pb, 0, none⟩) 1 1] U fun e w' => ∃ g c', e = .returned (.slice (some ⟨g, 0, none⟩) 32 c') ∧ Row8 w' g 32 sl ∧ Below W3.heap.size W3 w' from fun U pb hb hp hpb => by
    rw [hsl]
    refine (sum_one pb a3 L c3 l U hp hpb (HO3.out.on hb) (by have := HL.out; omega) (HG3.out.on hb HG3.out.1)).mono ?_
    rintro e w' ⟨g, c', h1, h2, h3⟩
    exact ⟨g, c', h1, h2, bt hb h3⟩)
  have HREF := Lib.hid (show ∀ (U : World), Below W3.heap.size W3 U → Calls Tryd.prog 7 #[.slice a L c] U fun e w' => ∃ g c', e = .returned (.slice (some ⟨g, 0, none⟩) 32 c') ∧ Row8 w' g 32 sl ∧ Below W3.heap.size W3 w' ∧ Below U.heap.size U w' from fun U hb => by
    rw [hsl]
    refine (refSum_any a L c l U ⟨HX3.out.on hb, HXC.out⟩ (by have := HL.out; omega)).mono ?_
    rintro e w' ⟨g, c', h1, h2, h3⟩
    exact ⟨g, c', h1, h2, bt hb h3, h3⟩)
  have hee := str_eq (rfl : sl = sl)
  have hel := str_eq (rfl : l = l)
  clear ho3 ho3' hg3 HN0 HB0 HX0 HX0S hbs3 hl3 hn3 hm3 hsl qL
  go_region_held (fun U => Below W3.heap.size W3 U) (first | exact (Below.refl _ _).drew | assumption | exact ((Below.refl W3.heap.size W3).drew).alloc (Nat.le_refl _) _ | exact ((Below.refl W3.heap.size W3).alloc (Nat.le_refl _) _).drew)
    (first
      | (go_at_call 6; refine (HSUM.out _ _ (by assumption) (by simp) (by simp)).mono ?_; rintro e w5 ⟨g5, c5, rfl, hr5, hb5⟩; have hcv5 := hr5.str_on c5; have hrf5 := Below.refl w5.heap.size w5)
      | (go_at_call 7; refine (HREF.out _ (by assumption)).mono ?_; rintro e w6 ⟨g6, c6, rfl, hr6, hb6, hs6⟩; have hcv6 := hr6.str_on c6; have hrf6 := Below.refl w6.heap.size w6))
  all_goals
    go_wp2
    go_ret
    exact ⟨rfl, bt HBW.out (by assumption)⟩
theorem hashSums_long (a : Option Addr) (L c : Nat) (w : World) (hL : ¬ L ≤ 300) (hG : Gl w) :
    Calls Tryd.prog 3 #[.slice a L c] w fun e w' => e = .returned (.bool true) ∧ Below w.heap.size w w' := by
  have HGL := Lib.hid hG
  have HG2 := Lib.hid hG.1
  have qL : (300 : Int) < (L : Int) := by omega
  clear hL hG
  go_enter Tryd.func3, Tryd.ntmps3
  go_upto_region 2 with (go_at_call 5; go_loud ((with_reducible refine (lives_any w HGL.out).mono ?_); rintro e W1 ⟨rfl, hb⟩; have HB1 := Lib.hid hb; clear hb))
  go_wp2_with (go_at_call 5; go_loud ((with_reducible refine (lives_any W1 (HGL.out.on HB1.out HG2.out)).mono ?_); rintro e W2 ⟨rfl, hb⟩; have HB2 := Lib.hid hb; clear hb))
  go_ret
  exact ⟨rfl, bt HB1.out HB2.out⟩
theorem hashSums_walk (a : Option Addr) (L c : Nat) (w : World) (h0 : ∃ l, Arg8c w a L c l) (hG : Gl w) :
    Calls Tryd.prog 3 #[.slice a L c] w fun e w' => e = .returned (.bool true) ∧ Below w.heap.size w w' := by
  obtain ⟨l, hl, hc⟩ := h0
  by_cases h : L ≤ 300
  · exact hashSums_core a L c l w ⟨hl, hc⟩ h hG
  · exact hashSums_long a L c w h hG
end Go.Proofs.YtmcoakjbfgfgpaaDoor
