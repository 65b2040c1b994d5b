/- Texts of mine, one behind the other: Hz3. -/
import Derived.Test.YtappfdbmhgifcaaGreatDoorZR26
set_option linter.unusedVariables false
set_option linter.unusedSimpArgs false
set_option maxRecDepth 100000
namespace Go.Proofs.YtappfdbmhgifcaaGreatDoor
open Go.ChangeShapes Go.WideShapes Go.ChangeAt Go.RowKit Go.Shelf GF
theorem c2j (mo t n:Int) (a3:Option Addr) (L3 c3:Nat) (a4:Option Addr) (L4 c4:Nat) (a5:Option Addr) (L5 c5:Nat) (bl:Bool) (w:World) (h:500 < L3 ∨ 500 < L4 ∨ 500 < L5) :
 Calls Tryz.prog 5 #[.int .i64 mo,.int .i64 t,.int .i64 n,.slice a3 L3 c3,.slice a4 L4 c4,.slice a5 L5 c5,.bool bl] w fun e w' => e = .returned (.bool true) ∧ Below w.heap.size w w':=by
 by_cases h0:500 < L3
 ·have q0:(500:Int) < (L3:Int):=by omega
  clear h h0
  go_enter Tryz.func5,Tryz.ntmps5
  go_upto_region 2 with (go_at_call 7;go_loud (refine (a7n w).mono ?_;rintro e w1 ⟨rfl,hb⟩;have HB1:=hJ_ hb;clear hb))
  go_wp2_with (go_at_call 7;go_loud (refine (a7n w1).mono ?_;rintro e w2 ⟨rfl,hb⟩;have HB2:=hJ_ (bt HB1.out hb);clear hb))
  go_ret
  exact ⟨rfl,HB2.out⟩
 ·
  by_cases h1:500 < L4
  ·have q1:(500:Int) < (L4:Int):=by omega
   have q0:¬ (500:Int) < (L3:Int):=by omega
   clear h h0 h1
   go_enter Tryz.func5,Tryz.ntmps5
   go_upto_region 2 with (go_at_call 7;go_loud (refine (a7n w).mono ?_;rintro e w1 ⟨rfl,hb⟩;have HB1:=hJ_ hb;clear hb))
   go_wp2_with (go_at_call 7;go_loud (refine (a7n w1).mono ?_;rintro e w2 ⟨rfl,hb⟩;have HB2:=hJ_ (bt HB1.out hb);clear hb))
   go_ret
   exact ⟨rfl,HB2.out⟩
  ·
   have q2:(500:Int) < (L5:Int):=by omega
   have q0:¬ (500:Int) < (L3:Int):=by omega
   have q1:¬ (500:Int) < (L4:Int):=by omega
   clear h h0 h1
   go_enter Tryz.func5,Tryz.ntmps5
   go_upto_region 2 with (go_at_call 7;go_loud (refine (a7n w).mono ?_;rintro e w1 ⟨rfl,hb⟩;have HB1:=hJ_ hb;clear hb))
   go_wp2_with (go_at_call 7;go_loud (refine (a7n w1).mono ?_;rintro e w2 ⟨rfl,hb⟩;have HB2:=hJ_ (bt HB1.out hb);clear hb))
   go_ret
   exact ⟨rfl,HB2.out⟩
theorem stripeFresh_walk (mo t n:Int) (a3:Option Addr) (L3 c3:Nat) (a4:Option Addr) (L4 c4:Nat) (a5:Option Addr) (L5 c5:Nat) (bl:Bool) (w:World) (w0:(Lit.int .i64 mo).wf = true) (w1:(Lit.int .i64 t).wf = true) (w2:(Lit.int .i64 n).wf = true) (w3:∃ l,Arg8c w a3 L3 c3 l) (w4:∃ l,Arg8c w a4 L4 c4 l) (w5:∃ l,Arg8c w a5 L5 c5 l) (hG:Gl w) :
 Calls Tryz.prog 5 #[.int .i64 mo,.int .i64 t,.int .i64 n,.slice a3 L3 c3,.slice a4 L4 c4,.slice a5 L5 c5,.bool bl] w fun e w' => e = .returned (.bool true) ∧ Below w.heap.size w w':=by
 obtain ⟨l3,h3⟩:=w3
 obtain ⟨l4,h4⟩:=w4
 obtain ⟨l5,h5⟩:=w5
 by_cases h:500 < L3 ∨ 500 < L4 ∨ 500 < L5
 ·exact c2j mo t n a3 L3 c3 a4 L4 c4 a5 L5 c5 bl w h
 ·exact c3b mo t n a3 L3 c3 _ a4 L4 c4 _ a5 L5 c5 _ bl w hG (Pa.of h3) (Pa.of h4) (Pa.of h5) (by omega) (by omega) (by omega)
end Go.Proofs.YtappfdbmhgifcaaGreatDoor
