/- Texts of mine, one behind the other: Q4 Cm Cc Cf Cl Cg Ia. -/
import Derived.Test.YtappfdbmhgifcaaGreatDoorZR12
set_option linter.unusedVariables false
set_option linter.unusedSimpArgs false
set_option maxRecDepth 100000
namespace Go.Proofs.YtappfdbmhgifcaaGreatDoor
open Go.ChangeShapes Go.WideShapes Go.ChangeAt Go.RowKit Go.Shelf GF
theorem a9h (t s:Int) (w:World) (h1:1 ≤ t) (h2:t ≤ 255) (h3:0 ≤ s) :
 Calls Tryz.prog 78 #[.int .i64 t,.int .i64 s] w fun e w' => e = .returned (.bool true) ∧ w = w':=by
 go_enter Tryz.func78,Tryz.ntmps78
 go_wp2
 go_ret
 exact ⟨rfl,rfl⟩
theorem d8s {T n:Nat} (h0:1 ≤ T) (h1:T ≤ 254) (hn:n ≤ 1000):∃ Q:Int,Int.tdiv 9223372036854775807 (T:Int) = Q ∧ ¬ Q < (n:Int) ∧ 0 ≤ Q ∧ Q ≤ 9223372036854775807:=by
 refine ⟨_,rfl,?_⟩
 rw [Int.tdiv_eq_ediv_of_nonneg (by omega)]
 have h:(9223372036854775807:Int) / 254 ≤ 9223372036854775807 / (T:Int):=by
  rw [Int.le_ediv_iff_mul_le (by omega)]
  have e:(9223372036854775807:Int) / 254 = 36312488334073920:=by decide
  rw [e];omega
 have h3:(9223372036854775807:Int) / (T:Int) ≤ 9223372036854775807:=Int.ediv_le_self _ (by omega)
 have e:(9223372036854775807:Int) / 254 = 36312488334073920:=by decide
 omega
theorem b7k (t n:Nat) (w:World) (h1:1 ≤ t) (h2:t ≤ 255) (hn:n ≤ 1000) :
 Calls Tryz.prog 77 #[.int .i64 (t:Nat),.int .i64 (n:Nat)] w fun e w' => e = .returned (.tuple #[.int .i64 (((t - 1) * n:Nat):Int),.bool true]) ∧ w = w':=by
 obtain ⟨T,hT⟩:∃ T,T = t - 1:=⟨_,rfl⟩
 rw [← hT]
 obtain ⟨m,hm⟩:∃ m,m = T * n:=⟨_,rfl⟩
 rw [← hm]
 have qm:(T:Int) * (n:Int) = (m:Int):=by rw [hm];rfl
 have qm2:m ≤ 254 * 1000:=by rw [hm];exact Nat.mul_le_mul (by omega) hn
 have qT:(t:Int) - 1 = (T:Int):=by omega
 have HM:=hJ_ hm
 have HT:=hJ_ hT
 have q1:(1:Int) ≤ (t:Int):=by omega
 have q2:(t:Int) ≤ 255:=by omega
 have q3:(0:Int) ≤ (n:Int):=by omega
 have HP:=hJ_ (a9h (t:Int) (n:Int) w q1 q2 q3)
 have qm3:(m:Int) ≤ 254000:=by omega
 clear hm hT
 by_cases h0:T = 0
 ·have q4:¬ (9223372036854775807:Int) < (n:Int):=by omega
  have q5:(T:Int) < 1:=by omega
  clear h0
  go_enter Tryz.func77,Tryz.ntmps77
  go_wp2_with (go_at_call 78;refine HP.out.mono ?_;rintro e w' ⟨rfl,rfl⟩)
  go_ret2
  exact ⟨rfl,rfl⟩
 ·obtain ⟨Q,hQ,q4,q5,q6⟩:=d8s (T:=T) (n:=n) (by omega) (by omega) hn
  have q7:¬ (T:Int) < 1:=by omega
  have q8:((T:Int) == 0) = false:=by rw [beq_eq_false_iff_ne];omega
  have q9:(1:Int) ≤ (T:Int):=by omega
  clear h0
  go_enter Tryz.func77,Tryz.ntmps77
  go_wp2_with (go_at_call 78;refine HP.out.mono ?_;rintro e w' ⟨rfl,rfl⟩)
  go_ret2
  exact ⟨rfl,rfl⟩
theorem e9f:e7x:=by
 intro t n w h1 h2 hn
 go_enter Tryz.func48,Tryz.ntmps48
 go_wp2_with (go_at_call 77;refine (b7k t n _ h1 h2 hn).mono ?_;rintro e w' ⟨rfl,rfl⟩)
 go_ret
 exact ⟨rfl,Below.refl _ _⟩
theorem c4c (a:Option Addr) (L cap:Nat) (X:List GF) (j:Nat) (r:Int) (w:World) (hx:Pa w a L cap X) (hj:j ≤ L) (hn:∀ k,k < j → co X k ≠ 0) (hz:j < L → co X j = 0) (hr:(j < L → r = (j:Int)) ∧ (j = L → r = -1)) :
 Calls Tryz.prog 101 #[.slice a L cap,.int .u8 0] w fun e w' => e = .returned (.int .i64 r) ∧ w = w':=by
 have HX:=hJ_ hx
 have HN:=hJ_ hn
 have HZ:=hJ_ hz
 have HR:=hJ_ hr
 have hcap:=hx.bd
 clear hx hn hz hr
 go_enter Tryz.func101,Tryz.ntmps101
 go_wp2
 go_loopw [8] (fun i wr => ∃ k:Nat,k ≤ j ∧ i = .int .i64 (k:Nat) ∧ wr = w)
  (fun i _ => L - (intOf i).toNat)
 case atStart => exact ⟨0,Nat.zero_le _,rfl,rfl⟩
 case round =>
  obtain ⟨k,hk,rfl,rfl⟩:=hrel
  by_cases hlt:k < L
  ·obtain ⟨bx,ox,rfl,hbx,hcx⟩:=HX.out.at_ hlt
   have q2:(k:Int) < (L:Int):=by omega
   have q3:(0:Int) ≤ (k:Int):=by omega
   by_cases e:k = j
   ·have hc0:co X k = 0:=by rw [e];exact HZ.out (by omega)
    rw [hc0] at hcx
    have q4:r = (k:Int):=by rw [HR.out.1 (by omega),e]
    have Q4:=hJ_ q4
    clear hc0 e q4
    have z:toI (0:GF) = 0:=rfl
    go_wp2
    go_ret
    exact ⟨by rw [Q4.out];rfl,rfl⟩
   ·have hc0:=HN.out k (by omega)
    have q5:toI (co X k) ≠ 0:=fun h => hc0 (a4u.1 h)
    have q6:(toI (co X k) == 0) = false:=by rw [beq_eq_false_iff_ne];exact q5
    have q7:((0:Int) == toI (co X k)) = false:=by rw [beq_eq_false_iff_ne];exact Ne.symm q5
    have hk1:k + 1 ≤ j:=by omega
    clear hc0 q5 e
    go_wp2
    go_roundw
    case rel => exact ⟨k + 1,by omega,by go_num,by trivial⟩
    case measure => simp [intOf];omega
  ·have q4:r = -1:=HR.out.2 (by omega)
   have Q4:=hJ_ q4
   obtain rfl:L = k:=by omega
   clear q4
   go_wp2
   go_ret
   exact ⟨by rw [Q4.out];rfl,rfl⟩
theorem b8l (a:Option Addr) (L cap:Nat) (X:List GF) (w:World) (hx:Pa w a L cap X) (h:∀ k,k < L → co X k ≠ 0) :
 Calls Tryz.prog 79 #[.slice a L cap,.int .u8 0] w fun e w' => e = .returned (.bool false) ∧ w = w':=by
 have H:=hJ_ (c4c a L cap X L (-1) w hx (Nat.le_refl _) h (fun h => absurd h (by omega)) ⟨fun h => absurd h (by omega),fun _ => rfl⟩)
 clear hx h
 go_enter Tryz.func79,Tryz.ntmps79
 go_wp2_with (go_at_call 101;refine H.out.mono ?_;rintro e w' ⟨rfl,rfl⟩)
 go_ret
 exact ⟨rfl,rfl⟩
theorem c8q (p:Addr) (t n m:Nat) (aM:Option Addr) (cM:Nat) (a:Option Addr) (L cap:Nat) (X:List GF) (w:World) (hx:Pa w a L cap X) (h1:1 ≤ t) (h2:t ≤ 255) (hn:n ≤ 1000) (hz:∀ k,k < L → co X k ≠ 0) (hm:m = (t - 1) * n) (hc:m ≤ cM ∧ cM ≤ 9223372036854775807) :
 Calls Tryz.prog 49 #[.pointer (some p),.int .i64 (t:Nat),.int .i64 (n:Nat),.slice aM m cM,.slice a L cap] w fun e w' => e = .returned (.int .i64 0) ∧ w = w':=by
 have H:=hJ_ (a9h (t:Int) (n:Int) w (by omega) (by omega) (by omega))
 have H2:=hJ_ (b8l a L cap X w hx hz)
 have H3:=hJ_ (b7k t n w h1 h2 hn)
 rw [← hm] at H3
 have q:((m:Int) != (m:Int)) = false:=by simp
 clear hx hz hm
 go_enter Tryz.func49,Tryz.ntmps49
 go_wp2_with (first
  | (go_at_call 78;refine H.out.mono ?_;rintro e w' ⟨rfl,rfl⟩)
  | (go_at_call 79;refine H2.out.mono ?_;rintro e w' ⟨rfl,rfl⟩)
  | (go_at_call 77;refine H3.out.mono ?_;rintro e w' ⟨rfl,rfl⟩))
 go_ret
 exact ⟨rfl,rfl⟩
end Go.Proofs.YtappfdbmhgifcaaGreatDoor
namespace Go.Proofs.YtappfdbmhgifcaaGreatDoor
open Go.ChangeShapes Go.WideShapes Go.ChangeAt Go.RowKit
theorem b2j (a:Option Addr) (L cap:Nat) (l:List Int) (w:World) (hx:a1l w a L cap l) (hL:L ≤ 140737488355328) :
 Calls Tryz.prog 103 #[.slice a L cap] w fun e w' => ∃ g,e = .returned (.slice (some ⟨g,0,none⟩) L L) ∧
  w'.ownsRow w.heap.size 5 1 (.slice (some ⟨g,0,none⟩) L L) L (l.map (Value.int .u8)) ∧ Below w.heap.size w w':=by
 obtain ⟨hl,hb8,hb,hc1,hc2⟩:=hx
 have hmk:=run_make_row' (P:=Tryz.prog) 22 5 (.int .u8 0) 1 Tryz.underlying22 info5 rfl .i64 .i64 L (by omega) (by omega)
 have k1:(w.alloc (.cells (madeCells #[.int .u8 0] L) 5)).heap[w.heap.size]? = some (.cells (madeCells #[.int .u8 0] L).toList.toArray 5 (0,0)):=by rw [Array.toArray_toList];exact heap_alloc_new w _
 have k2:(l.map (Value.int .u8)).length = Nat.min L L:=by simp [hl]
 have k3:0 < (l.map (Value.int .u8)).length → ∃ ad,a = some ad ∧ ∀ j v,(l.map (Value.int .u8))[j]? = some v → (w.alloc (.cells (madeCells #[.int .u8 0] L) 5)).cell? (ad.add j) = some v:=
  fun h0 => (hb.below ((Below.refl _ _).alloc (Nat.le_refl _) _)).cells h0
 have k4:0 + (l.map (Value.int .u8)).length ≤ (madeCells #[.int .u8 0] L).toList.length:=by simp [hl,size_madeCells]
 have k5:Below w.heap.size w (w.alloc (.cells (madeCells #[.int .u8 0] L) 5)):=(Below.refl _ _).alloc (Nat.le_refl _) _
 have K1:=hJ_ k1;have K2:=hJ_ k2;have K3:=hJ_ k3;have HL:=hJ_ hl
 clear k1 k2 k3 hl
 go_enter Tryz.func103,Tryz.ntmps103
 go_wp2_with ((with_reducible show wpList _ _ _ (⟨some 9,_,_,_,_,_⟩ :: _) _ _);refine wpList_copy_splice (o:=⟨some 9,_,_,_,_,_⟩) rfl (.tmp 7) (.tmp 8) 22 22 rfl 5 Tryz.underlying22 a2a (some ⟨w.heap.size,0,none⟩) a L L L cap rfl rfl w.heap.size 0 (madeCells #[.int .u8 0] L).toList 5 K1.out (l.map (Value.int .u8)) K2.out (fun h0 => ⟨rfl,K3.out h0⟩) k4 (ints_oneCell _ _) w.heap.size w k5 (Nat.le_refl _) ?_;intro w1 hg1 hb1)
 go_ret
 refine ⟨w.heap.size,rfl,⟨by simp [HL.out],.inr ⟨w.heap.size,L,_,rfl,Nat.le_refl _,hg1.out,Nat.le_refl _,by unfold maxLen;omega,?_,?_⟩⟩,hb1⟩
 ·simp [a1s,HL.out,size_madeCells]
 ·simp [a1s,HL.out]
def c1l (l:List Int) (c:Int) (m:List Int):List Int:=(List.range l.length).map fun i => if i < m.length then xoI (l.getD i 0) (gmI c (m.getD i 0)) else l.getD i 0
theorem a4w (l:List Int) (c:Int) (m:List Int):(c1l l c m).length = l.length:=by simp [c1l]
theorem a5j {l:List Int} (c:Int) (m:List Int) {i:Nat} (h:i < l.length):(c1l l c m).getD i 0 = if i < m.length then xoI (l.getD i 0) (gmI c (m.getD i 0)) else l.getD i 0:=by
 simp only [c1l,List.getD_eq_getElem?_getD,List.getElem?_map,List.getElem?_range h,Option.map_some,Option.getD_some]
set_option maxHeartbeats 1000000 in
theorem b0g (b:Nat) (c:Int) (a1:Option Addr) (L1 cap1:Nat) (l:List Int) (a2:Option Addr) (L2 cap2:Nat) (m:List Int) (w:World) (hf:Fld w b) (hc:0 ≤ c ∧ c < 256) (hx:a1l w a1 L1 cap1 l) (hy:a1l w a2 L2 cap2 m) (hL:L1 ≤ 140737488355328) :
 Calls Tryz.prog 81 #[.pointer (some ⟨b,0,none⟩),.slice a1 L1 cap1,.int .u8 c,.slice a2 L2 cap2] w fun e w' => ∃ g,e = .returned (.slice (some ⟨g,0,none⟩) L1 L1) ∧
  w'.ownsRow w.heap.size 5 1 (.slice (some ⟨g,0,none⟩) L1 L1) L1 ((c1l l c m).map (Value.int .u8)) ∧ Below w.heap.size w w':=by
 have HF:=hJ_ hf
 have HX:=hJ_ hx
 have HY:=hJ_ hy
 have HL:=hJ_ hx.1
 have HL2:=hJ_ hy.1
 have hcap:=hx.2.2.2
 have hcap2:=hy.2.2.2
 clear hf hx hy
 go_enter Tryz.func81,Tryz.ntmps81
 go_wp2_with (go_at_call 103;refine (b2j _ _ _ l _ HX.out hL).mono ?_;rintro e w1 ⟨g,rfl,hown,hbel⟩)
 case inl =>
  have hM1:L2 ≤ L1:=by omega
  have hM2:L2 ≤ L2:=by omega
  have hM3:∀ i,L2 ≤ i → i < L1 → ¬ i < L2:=fun i h1 h2 => by omega
  have HM3:=hJ_ hM3
  clear hM3
  have hg0:w.heap.size ≤ g:=(hown.lt g rfl).1
  go_loopw [20] (fun i wr => ∃ (k:Nat) (cur:List Int),k ≤ L2 ∧ i = .int .i64 (k:Nat) ∧ wr.ownsRow w.heap.size 5 1 (.slice (some ⟨g,0,none⟩) L1 L1) L1 (cur.map (Value.int .u8)) ∧ Hid (Mix (c1l l c m) l cur k) ∧ Below w.heap.size w wr)
   (fun i _ => L2 - (intOf i).toNat)
  case atStart => exact ⟨0,l,Nat.zero_le _,rfl,hown,hJ_ (Mix.zero _ _),hbel⟩
  case round =>
   obtain ⟨k,cur,hk,rfl,hown,hM,hbel⟩:=hrel
   by_cases hlt:k < L2
   ·obtain ⟨bb,ob,rfl,hbb,hcb⟩:=(HY.out.2.2.1.below hbel).at_ (k:=k) (by rw [HL2.out];omega)
    have hcl:cur.length = L1:=by rw [hM.out.1,HL.out]
    have hcg:=a0h hown k (by omega)
    rw [Nat.zero_add] at hcg
    have hfz:=hown.frozenAt k
    have hfw:=HF.out.below hbel
    have hst:=hJ_ ((hown.stored k (.int .u8 ((c1l l c m).getD k 0))).1)
    have hb2:=hJ_ (hbel.setCell (p:=⟨g,k,none⟩) hg0 (.int .u8 ((c1l l c m).getD k 0)))
    have hN:=hJ_ (hM.out.next (by rw [HL.out];omega))
    have hcur:=hM.out.2 k (by rw [HL.out];omega)
    rw [if_neg (by omega)] at hcur
    have wX:=a0g HX.out.2.1 k
    have wY:=a0g HY.out.2.1 k
    have hsc:=a5j c m (l:=l) (i:=k) (by rw [HL.out];omega)
    rw [if_pos (by rw [HL2.out];omega)] at hsc
    rw [hcur] at hcg
    rw [hsc] at hst hb2
    have HS:=hJ_ hsc
    obtain ⟨X,hX⟩:∃ X,X = l.getD k 0:=⟨_,rfl⟩
    obtain ⟨Y,hY⟩:∃ Y,Y = m.getD k 0:=⟨_,rfl⟩
    rw [← hX] at hcg wX hst hb2
    rw [← hY] at hcb wY hst hb2
    have HXX:=hJ_ hX
    have HYY:=hJ_ hY
    have wG:=d6y c Y
    clear hX hY hcl hcur hsc hown hbel
    have q1:(k:Int) < (L1:Int):=by omega
    have q2:(k:Int) < (L2:Int):=by omega
    have q3:(0:Int) ≤ (k:Int):=by omega
    have hfd:Fld wr.drew b:=hfw
    go_wp2_with fail
    go_region_with (first
     | (go_at_call 104;refine (d2q _ _ _ _ hfd hc wY).mono ?_;rintro e w' ⟨rfl,rfl⟩)
     | (go_at_call 56;refine (b9b _ _ wX wG _).mono ?_;rintro e w' ⟨rfl,rfl⟩))
    all_goals
     go_wp2
     go_roundw
     case rel => exact ⟨k + 1,cur.set k ((c1l l c m).getD k 0),by omega,by go_num,by rw [← a1h,HS.out,← HXX.out,← HYY.out];exact hst.out,hN,hb2.out.drew⟩
     case measure => simp [intOf];omega
   ·obtain rfl:k = L2:=by omega
    have he:=hM.out.all (by rw [a4w]) (fun i h1 h2 => by rw [a5j c m h2,if_neg (by rw [HL2.out];exact HM3.out i h1 (by rw [← HL.out];exact h2))])
    have HO:=hJ_ hown
    have HB:=hJ_ hbel
    have HE:=hJ_ he
    clear hown hbel he
    go_wp2
    go_ret
    exact ⟨g,rfl,by rw [← HE.out];exact HO.out,HB.out⟩
 case inr =>
  have hM1:L1 ≤ L1:=by omega
  have hM2:L1 ≤ L2:=by omega
  have hM3:∀ i,L1 ≤ i → i < L1 → ¬ i < L2:=fun i h1 h2 => by omega
  have HM3:=hJ_ hM3
  clear hM3
  have hg0:w.heap.size ≤ g:=(hown.lt g rfl).1
  go_loopw [20] (fun i wr => ∃ (k:Nat) (cur:List Int),k ≤ L1 ∧ i = .int .i64 (k:Nat) ∧ wr.ownsRow w.heap.size 5 1 (.slice (some ⟨g,0,none⟩) L1 L1) L1 (cur.map (Value.int .u8)) ∧ Hid (Mix (c1l l c m) l cur k) ∧ Below w.heap.size w wr)
   (fun i _ => L1 - (intOf i).toNat)
  case atStart => exact ⟨0,l,Nat.zero_le _,rfl,hown,hJ_ (Mix.zero _ _),hbel⟩
  case round =>
   obtain ⟨k,cur,hk,rfl,hown,hM,hbel⟩:=hrel
   by_cases hlt:k < L1
   ·obtain ⟨bb,ob,rfl,hbb,hcb⟩:=(HY.out.2.2.1.below hbel).at_ (k:=k) (by rw [HL2.out];omega)
    have hcl:cur.length = L1:=by rw [hM.out.1,HL.out]
    have hcg:=a0h hown k (by omega)
    rw [Nat.zero_add] at hcg
    have hfz:=hown.frozenAt k
    have hfw:=HF.out.below hbel
    have hst:=hJ_ ((hown.stored k (.int .u8 ((c1l l c m).getD k 0))).1)
    have hb2:=hJ_ (hbel.setCell (p:=⟨g,k,none⟩) hg0 (.int .u8 ((c1l l c m).getD k 0)))
    have hN:=hJ_ (hM.out.next (by rw [HL.out];omega))
    have hcur:=hM.out.2 k (by rw [HL.out];omega)
    rw [if_neg (by omega)] at hcur
    have wX:=a0g HX.out.2.1 k
    have wY:=a0g HY.out.2.1 k
    have hsc:=a5j c m (l:=l) (i:=k) (by rw [HL.out];omega)
    rw [if_pos (by rw [HL2.out];omega)] at hsc
    rw [hcur] at hcg
    rw [hsc] at hst hb2
    have HS:=hJ_ hsc
    obtain ⟨X,hX⟩:∃ X,X = l.getD k 0:=⟨_,rfl⟩
    obtain ⟨Y,hY⟩:∃ Y,Y = m.getD k 0:=⟨_,rfl⟩
    rw [← hX] at hcg wX hst hb2
    rw [← hY] at hcb wY hst hb2
    have HXX:=hJ_ hX
    have HYY:=hJ_ hY
    have wG:=d6y c Y
    clear hX hY hcl hcur hsc hown hbel
    have q1:(k:Int) < (L1:Int):=by omega
    have q2:(k:Int) < (L2:Int):=by omega
    have q3:(0:Int) ≤ (k:Int):=by omega
    have hfd:Fld wr.drew b:=hfw
    go_wp2_with fail
    go_region_with (first
     | (go_at_call 104;refine (d2q _ _ _ _ hfd hc wY).mono ?_;rintro e w' ⟨rfl,rfl⟩)
     | (go_at_call 56;refine (b9b _ _ wX wG _).mono ?_;rintro e w' ⟨rfl,rfl⟩))
    all_goals
     go_wp2
     go_roundw
     case rel => exact ⟨k + 1,cur.set k ((c1l l c m).getD k 0),by omega,by go_num,by rw [← a1h,HS.out,← HXX.out,← HYY.out];exact hst.out,hN,hb2.out.drew⟩
     case measure => simp [intOf];omega
   ·obtain rfl:k = L1:=by omega
    have he:=hM.out.all (by rw [a4w]) (fun i h1 h2 => by rw [a5j c m h2,if_neg (by rw [HL2.out];exact HM3.out i h1 (by rw [← HL.out];exact h2))])
    have HO:=hJ_ hown
    have HB:=hJ_ hbel
    have HE:=hJ_ he
    clear hown hbel he
    go_wp2
    go_ret
    exact ⟨g,rfl,by rw [← HE.out];exact HO.out,HB.out⟩
end Go.Proofs.YtappfdbmhgifcaaGreatDoor
namespace Go.Proofs.YtappfdbmhgifcaaGreatDoor
open Go.ChangeShapes Go.WideShapes Go.ChangeAt Go.RowKit Go.Shelf GF
theorem b1v:(Tryz.prog.info? 22).map (fun i => (i.zero,i.size,i.bytes)) = some (some (.slice none 0 0),1,24):=by kernel_rfl
theorem a6p (w:World) (v:Value) (e:TypeId):∀ j u,[v][j]? = some u → (w.alloc (.cells #[v] e)).cell? ((⟨w.heap.size,0,none⟩:Addr).add j) = some u:=fun j u h => by
 have:=(World.ownsRow_lit (base:=w.heap.size) (e:=e) (size:=1) w #[v] 1 (Nat.le_refl _) (by unfold maxLen;omega) rfl).cells (g:=w.heap.size) rfl j u
 exact this h
theorem a3d {w:World} {base:Nat} {e:TypeId} {size:Nat} {v:Value} {n:Nat} {xs:List Value} (h:w.ownsRow base e size v n xs):∃ a c,v = .slice a n c:=by
 rcases h.2 with ⟨rfl,rfl⟩ | ⟨g,cap,cur,rfl,_⟩
 ·exact ⟨_,_,rfl⟩
 ·exact ⟨_,_,rfl⟩
theorem a0o {w w':World} {base:Nat} {e:TypeId} {size:Nat} {v:Value} {n:Nat} {xs:List Value} (h:w.ownsRow base e size v n xs) (hb:Below w.heap.size w w'):w'.ownsRow base e size v n xs:=by
 refine ⟨h.1,?_⟩
 rcases h.2 with h2 | ⟨g,cap,cur,h1,h2,h3,h4⟩
 ·exact .inl h2
 ·refine .inr ⟨g,cap,cur,h1,h2,?_,h4⟩
  rw [hb.block g ?_]
  ·exact h3
  ·rcases Nat.lt_or_ge g w.heap.size with hlt | hge
   ·exact hlt
   ·rw [Array.getElem?_eq_none hge] at h3;cases h3
theorem a4f {α:Type} [Inhabited α] {M:List α} {k:Nat} {x:α} (h:M[k]? = some x):M.take (k + 1) = M.take k ++ [x]:=by
 rw [List.take_add_one,h];rfl
def seg (M:List GF) (lo n:Nat):List GF:=(M.drop lo).take n
theorem c5a {M:List GF} {lo n k:Nat} (h:k < n):co (seg M lo n) k = co M (lo + k):=by
 unfold seg co;simp [List.getD_eq_getElem?_getD,h]
theorem a8y {M:List GF} {lo n:Nat} (h:lo + n ≤ M.length):(seg M lo n).length = n:=by simp [seg];omega
def a9q (a:Option Addr) (c lo:Nat):Option Addr:=if c = lo then a else a.map (·.add lo)
theorem Pa.seg {w:World} {a:Option Addr} {m c:Nat} {M:List GF} (h:Pa w a m c M) {lo n:Nat} (h1:lo + n ≤ m):Pa w (a9q a c lo) n (c - lo) (seg M lo n):=by
 have hl:=h.len
 have hc:=h.1.2.2.2
 refine ⟨⟨by rw [a0a,a8y (by omega)],a1e _,fun h0 => ?_,by omega,by omega⟩,fun e => ?_⟩
 ·rw [a0a,a8y (by omega)] at h0
  obtain ⟨b,off,e,hb,hcl⟩:=h.1.2.2.1 (by rw [a0a];omega)
  refine ⟨b,off + lo,?_,hb,fun i hi => ?_⟩
  ·unfold a9q;rw [if_neg (by omega),e];exact congrArg some (Addr.add_lit _ _ _)
  ·rw [a0a,a8y (by omega)] at hi
   have:=hcl (lo + i) (by rw [a0a];omega)
   rw [a0k] at this
   rw [a0k,c5a hi,← this]
   congr 2
   omega
 ·unfold a9q at e
  by_cases q:c = lo
  ·omega
  ·rw [if_neg q] at e
   have:a = none:=by cases a with
    | none => rfl
    | some x => cases e
   have:=h.2 this
   omega
def dR (t n:Nat) (S M:List GF):List (List GF):=S :: (List.range (t - 1)).map fun i => seg M (i * n) n
def dV (t n:Nat) (aS:Option Addr) (cS:Nat) (aM:Option Addr) (cM:Nat):List Value:=.slice aS n cS :: (List.range (t - 1)).map fun i => .slice (a9q aM cM (i * n)) n (cM - i * n)
theorem d5s {t:Nat} (n:Nat) (S M:List GF) (h:1 ≤ t):(dR t n S M).length = t:=by unfold dR;simp;omega
theorem d5i {t:Nat} (n:Nat) (aS:Option Addr) (cS:Nat) (aM:Option Addr) (cM:Nat) (h:1 ≤ t):(dV t n aS cS aM cM).length = t:=by unfold dV;simp;omega
theorem d9w (t n:Nat) (S M:List GF):rw_ (dR t n S M) 0 = S:=rfl
theorem b8m {t i:Nat} (n:Nat) (S M:List GF) (h:i + 1 < t):rw_ (dR t n S M) (i + 1) = seg M (i * n) n:=by
 unfold rw_ dR;simp [List.getD_eq_getElem?_getD,show i < t - 1 by omega]
theorem c4p {t i:Nat} (n:Nat) (aS:Option Addr) (cS:Nat) (aM:Option Addr) (cM:Nat) (h:i + 1 < t):(dV t n aS cS aM cM)[i + 1]? = some (.slice (a9q aM cM (i * n)) n (cM - i * n)):=by
 unfold dV;simp [show i < t - 1 by omega]
theorem b4y {t n i m:Nat} (hm:m = (t - 1) * n) (h:i + 1 < t):i * n + n ≤ m:=by
 have h1:i + 1 ≤ t - 1:=by omega
 have h2:=Nat.mul_le_mul_right n h1
 rw [Nat.add_mul,Nat.one_mul] at h2
 omega
theorem c7y {t n m:Nat} {S M:List GF} (hS:S.length = n) (hM:M.length = m) (ht:1 ≤ t) (hm:m = (t - 1) * n) {k:Nat} (hk:k < t):(rw_ (dR t n S M) k).length = n:=by
 match k with
 | 0 => exact hS
 | i + 1 => rw [b8m n S M hk,a8y (by rw [hM];exact b4y hm hk)]
theorem e9g {t n:Nat} {S M:List GF} {i k:Nat} (hi:i < n) (hk:k < t):co (rw_ (dR t n S M) k) i = co (dl t n S M i) k:=by
 match k with
 | 0 => rw [d9w,b2o]
 | k + 1 => rw [b8m n S M hk,c5a hi,b4o n S M i hk]
theorem dRV {w:World} {t n m:Nat} {aS:Option Addr} {cS:Nat} {S:List GF} {aM:Option Addr} {cM:Nat} {M:List GF} (hS:Pa w aS n cS S) (hM:Pa w aM m cM M) (ht:1 ≤ t) (hm:m = (t - 1) * n):RV w (fun b => b < w.heap.size) (dV t n aS cS aM cM) (dR t n S M):=by
 refine ⟨by rw [d5i _ _ _ _ _ ht,d5s _ _ _ ht],fun i hi => ?_⟩
 rw [d5s _ _ _ ht] at hi
 have key:∀ {a:Option Addr} {c:Nat} {P:List GF},Pa w a n c P → ∀ v,v = Value.slice a n c → ∃ a c,some v = some (.slice a P.length c) ∧ P.length ≤ c ∧ c ≤ maxLen ∧ (a = none → c = 0) ∧
  (0 < P.length → ∃ b off,a = some ⟨b,off,none⟩ ∧ b < w.heap.size ∧ b < w.heap.size ∧ ∀ j,j < P.length → w.cell? ⟨b,off + j,none⟩ = some (.int .u8 (toI (co P j)))):=fun {a c P} h v e => by
  have hl:=h.len
  refine ⟨a,c,by rw [e,hl],by rw [hl];exact h.1.2.2.2.1,h.1.2.2.2.2,h.2,fun h0 => ?_⟩
  obtain ⟨b,off,e,hb,hc⟩:=h.1.2.2.1 (by rw [a0a];exact h0)
  exact ⟨b,off,e,hb,hb,fun j hj => by have:=hc j (by rw [a0a];exact hj);rwa [a0k] at this⟩
 match i with
 | 0 => exact key hS _ rfl
 | i + 1 =>
  rw [b8m n S M hi,c4p n aS cS aM cM hi]
  exact key (hM.seg (b4y hm hi)) _ rfl
set_option maxHeartbeats 1000000 in
theorem b2g (t n m:Nat) (aS:Option Addr) (cS:Nat) (S:List GF) (aM:Option Addr) (cM:Nat) (M:List GF) (w:World) (hS:Pa w aS n cS S) (hM:Pa w aM m cM M) (h1:1 ≤ t) (h2:t ≤ 255) (hm:m = (t - 1) * n) (hn:n ≤ 1000) :
 Calls Tryz.prog 50 #[.int .i64 (t:Nat),.slice aS n cS,.slice aM m cM] w fun e w' => ∃ a' c',e = .returned (.slice a' t c') ∧ Mat w' a' t c' (dR t n S M) ∧ Below w.heap.size w w':=by
 obtain ⟨T,hT⟩:∃ T,t = T + 1:=⟨t - 1,by omega⟩
 obtain ⟨i22,hi,hz0,hz1,hz2⟩:=info_parts b1v
 have HI:=hJ_ (And.intro hi (And.intro hz0 (And.intro hz1 hz2)))
 have HM:=hJ_ hM
 have HS:=hJ_ hS
 have HR:=hJ_ (dRV hS hM h1 hm)
 have HDL:=hJ_ (d5i n aS cS aM cM h1)
 have hsb:=hS.bd
 have hmb:=hM.bd
 have Hm:=hJ_ hm
 have HN:=hJ_ hn
 have HT:=hJ_ (And.intro h2 hT)
 have qT:(t:Int) - 1 = (T:Int):=by omega
 have qT2:(T:Int) ≤ 254:=by omega
 have ho0:Hid ((w.alloc (.cells #[.slice aS n cS] 22)).ownsRow w.heap.size 22 1 (.slice (some ⟨w.heap.size,0,none⟩) (0 + 1:Nat) 1) (0 + 1) ((dV t n aS cS aM cM).take (0 + 1))):=
  hJ_ (World.ownsRow_lit (base:=w.heap.size) (e:=22) (size:=1) w #[.slice aS n cS] 1 (Nat.le_refl _) (by unfold maxLen;omega) rfl)
 have hb0:Hid (Below w.heap.size w (w.alloc (.cells #[.slice aS n cS] 22))):=hJ_ ((Below.refl _ _).alloc (Nat.le_refl _) _)
 clear hi hz0 hz1 hz2 hS hM h1 h2 hm hn hT
 go_enter Tryz.func50,Tryz.ntmps50
 go_wp2
 go_loopw [16,8] (fun j o wr => ∃ (i:Nat) (ao:Option Addr) (cc:Nat),i ≤ T ∧ j = .int .i64 (i:Nat) ∧ o = .slice ao (i + 1:Nat) cc ∧ Hid (wr.ownsRow w.heap.size 22 1 (.slice ao (i + 1:Nat) cc) (i + 1) ((dV t n aS cS aM cM).take (i + 1))) ∧ Hid (Below w.heap.size w wr))
  (fun j _ _ => T - (intOf j).toNat)
 case atStart => exact ⟨0,_,1,Nat.zero_le _,rfl,rfl,ho0,hb0⟩
 case round =>
  obtain ⟨i,ao,cc,hi,rfl,rfl,hO,hB⟩:=hrel
  by_cases hlt:i < T
  ·have qi:(i:Int) < (T:Int):=by omega
   have qi0:(0:Int) ≤ (i:Int):=by omega
   have hst:=b4y (i:=i) Hm.out (by have:=HT.out.2;omega)
   have hm2:m ≤ 254 * 1000:=by rw [Hm.out];exact Nat.mul_le_mul (by have:=HT.out.1;omega) HN.out
   have hdv:=c4p n aS cS aM cM (t:=t) (i:=i) (by have:=HT.out.2;omega)
   obtain ⟨lo,hlo⟩:∃ lo,lo = i * n:=⟨_,rfl⟩
   obtain ⟨hi',hhi⟩:∃ hi',hi' = lo + n:=⟨_,rfl⟩
   rw [← hlo] at hst hdv
   have q1:(i:Int) * (n:Int) = (lo:Int):=by rw [hlo];rfl
   have q2:((i:Int) + 1) * (n:Int) = (hi':Int):=by rw [Int.add_mul,q1,hhi];omega
   have q3:(lo:Int) ≤ (hi':Int):=by omega
   have q4:(hi':Int) ≤ (m:Int):=by omega
   have q5:hi' - lo = n:=by omega
   have q6:(m:Int) ≤ 254000:=by omega
   have q7:(hi':Int) ≤ (cM:Int):=by omega
   have q8:(0:Int) ≤ (lo:Int):=by omega
   have HDV:=hJ_ (a4f hdv)
   have Hlo:=hJ_ hlo
   have Hhi:=hJ_ hhi
   have Hst:=hJ_ hst
   clear hdv hlo hhi hst hm2
   rename World => w1
   rcases aM with _ | ad
   ·have hcu:a9q none cM lo = none:=by unfold a9q;simp
    have qs:lo = 0 ∧ cM = 0:=by have:=HM.out.2 rfl;have:=Hst.out;omega
    obtain ⟨HC,HQ⟩:Hid (a9q none cM lo = none) ∧ Hid (lo = 0 ∧ cM = 0):=⟨hJ_ hcu,hJ_ qs⟩
    clear hcu qs
    go_wp2_with ((with_reducible show wpList _ _ _ (⟨some 30,_,_,_,_,_⟩ :: _) _ _);go_loud (refine wpList_append_own _ rfl (.tmp 19) (.tmp 29) 28 rfl w.heap.size 22 i22 (.slice none 0 0) 1 24 Tryz.underlying28 HI.out.1 HI.out.2.1 HI.out.2.2.1 HI.out.2.2.2 rfl (by decide) _ (i + 1) ((dV t n aS cS none cM).take (i + 1)) rfl (hO.out.alloc _) _ 1 1 [_] rfl rfl (a6p _ _ _) (by intro u hu;cases List.mem_singleton.1 hu;rfl) (by unfold maxLen;omega) (by omega) (by have:=hB.out.size;simp;omega) ?_);go_loud (intro v1 wc hown1 hg1 _;have hbel:=(hB.out.alloc hB.out.size (.cells #[.slice (none) n (cM - lo)] 22)).grown hg1 (by have:=hB.out.size;simp;omega) (fun z hz => (hO.out.lt z hz).1);obtain ⟨a1,c1,hv1⟩:=a3d hown1;subst hv1;have hdd:=HDV.out;rw [HC.out] at hdd;rw [← hdd] at hown1;have HO1:=hJ_ hown1;have HN1:=hJ_ hbel;clear hown1 hg1 hbel hdd))
    go_roundw
    case rel => exact ⟨i + 1,a1,c1,by omega,by go_num,rfl,HO1,HN1⟩
    case measure => simp [intOf];omega
   ·by_cases qc:cM = lo
    ·obtain rfl:cM = lo:=qc
     have HC:=hJ_ (show a9q (some ad) cM cM = some ad by unfold a9q;rw [if_pos rfl])
     have HZ:=hJ_ (Nat.sub_self cM)
     go_wp2_with ((with_reducible show wpList _ _ _ (⟨some 30,_,_,_,_,_⟩ :: _) _ _);go_loud (refine wpList_append_own _ rfl (.tmp 19) (.tmp 29) 28 rfl w.heap.size 22 i22 (.slice none 0 0) 1 24 Tryz.underlying28 HI.out.1 HI.out.2.1 HI.out.2.2.1 HI.out.2.2.2 rfl (by decide) _ (i + 1) ((dV t n aS cS (some ad) cM).take (i + 1)) rfl (hO.out.alloc _) _ 1 1 [_] rfl rfl (a6p _ _ _) (by intro u hu;cases List.mem_singleton.1 hu;rfl) (by unfold maxLen;omega) (by omega) (by have:=hB.out.size;simp;omega) ?_);go_loud (intro v1 wc hown1 hg1 _;have hbel:=(hB.out.alloc hB.out.size (.cells #[.slice (some ad) n 0] 22)).grown hg1 (by have:=hB.out.size;simp;omega) (fun z hz => (hO.out.lt z hz).1);obtain ⟨a1,c1,hv1⟩:=a3d hown1;subst hv1;have hdd:=HDV.out;rw [HC.out,HZ.out] at hdd;rw [← hdd] at hown1;have HO1:=hJ_ hown1;have HN1:=hJ_ hbel;clear hown1 hg1 hbel hdd))
     go_roundw
     case rel => exact ⟨i + 1,a1,c1,by omega,by go_num,rfl,HO1,HN1⟩
     case measure => simp [intOf];omega
    ·have HC:=hJ_ (show a9q (some ad) cM lo = some (ad.add lo) by unfold a9q;rw [if_neg qc];rfl)
     go_wp2_with ((with_reducible show wpList _ _ _ (⟨some 30,_,_,_,_,_⟩ :: _) _ _);go_loud (refine wpList_append_own _ rfl (.tmp 19) (.tmp 29) 28 rfl w.heap.size 22 i22 (.slice none 0 0) 1 24 Tryz.underlying28 HI.out.1 HI.out.2.1 HI.out.2.2.1 HI.out.2.2.2 rfl (by decide) _ (i + 1) ((dV t n aS cS (some ad) cM).take (i + 1)) rfl (hO.out.alloc _) _ 1 1 [_] rfl rfl (a6p _ _ _) (by intro u hu;cases List.mem_singleton.1 hu;rfl) (by unfold maxLen;omega) (by omega) (by have:=hB.out.size;simp;omega) ?_);go_loud (intro v1 wc hown1 hg1 _;have hbel:=(hB.out.alloc hB.out.size (.cells #[.slice (some (ad.add lo)) n (cM - lo)] 22)).grown hg1 (by have:=hB.out.size;simp;omega) (fun z hz => (hO.out.lt z hz).1);obtain ⟨a1,c1,hv1⟩:=a3d hown1;subst hv1;have hdd:=HDV.out;rw [HC.out] at hdd;rw [← hdd] at hown1;have HO1:=hJ_ hown1;have HN1:=hJ_ hbel;clear hown1 hg1 hbel hdd))
     go_roundw
     case rel => exact ⟨i + 1,a1,c1,by omega,by go_num,rfl,HO1,HN1⟩
     case measure => simp [intOf];omega
  ·obtain rfl:i = T:=by omega
   rw [← HT.out.2] at hO
   have h1:=hO.out
   rw [List.take_of_length_le (by rw [HDL.out];exact Nat.le_refl _)] at h1
   have hR:=HR.out.keep (w':=‹World›) (ok':=fun _ => True) hB.out.size (fun b hb _ => ⟨trivial,hB.out.block b hb⟩)
   obtain ⟨a9,c9,e9,hmat⟩:=Mat.own h1 hR
   cases e9
   have HMAT:=hJ_ hmat
   clear h1 hR hmat
   go_wp2
   go_ret
   exact ⟨_,_,by rw [HT.out.2];rfl,HMAT.out,hB.out⟩
section
attribute [local go_sem] Oper.semAt_some
def e4a {len:Nat} (A:Nat → Option Addr) (m c:Nat → Nat) (x:Fin len):Array Value:=#[.int .i64 ((x.1:Nat):Int),.slice (A x.1) (m x.1) (c x.1)]
def RdR (Bx len:Nat) (a:Option Addr) (cap:Nat) (A:Nat → Option Addr) (m c:Nat → Nat) (W:World):Prop:=
 W.cell? ⟨Bx,0,none⟩ = some (.slice a len cap) ∧ ∀ j,j < len → ∃ b off,a = some ⟨b,off,none⟩ ∧ W.cell? ⟨b,off + j,none⟩ = some (.slice (A j) (m j) (c j))
def BkR (len:Nat) (pre:List (Fin len)):Prop:=pre.length ≤ len ∧ ∀ k (h:k < pre.length),(pre[k]).1 = len - 1 - k
theorem BkR.nil (len:Nat):BkR len []:=⟨Nat.zero_le _,fun k h => by simp at h⟩
theorem BkR.snoc {len:Nat} {pre:List (Fin len)} (h:BkR len pre) (x:Fin len) (hl:pre.length < len) (hx:x.1 = len - 1 - pre.length):BkR len (pre ++ [x]):=by
 refine ⟨by simp;omega,fun k hk => ?_⟩
 by_cases e:k < pre.length
 ·rw [List.getElem_append_left e];exact h.2 k e
 ·have e2:k = pre.length:=by simp at hk;omega
  subst e2
  rw [List.getElem_append_right (Nat.le_refl _)]
  simp only [Nat.sub_self,List.getElem_cons_zero]
  exact hx
theorem RdR.put {Bx len cap:Nat} {a:Option Addr} {A:Nat → Option Addr} {m c:Nat → Nat} {W:World} {l:Nat} {o:Obj} (o':Obj) (hl:W.heap[l]? = some o) (ho:o.isCells = false) (h:RdR Bx len a cap A m c W):RdR Bx len a cap A m c (W.putObj l o'):=by
 have key:∀ {p:Addr} {v:Value},W.cell? p = some v → (W.putObj l o').cell? p = some v:=fun {p v} hc => cell_kept hc (grownBy_putObj' W l o') (fun r e => by cases e;exact ⟨_,hl,ho⟩)
 refine ⟨key h.1,fun j hj => ?_⟩
 obtain ⟨b,off,e,hc⟩:=h.2 j hj
 exact ⟨b,off,e,key hc⟩
set_option maxHeartbeats 2000000 in
theorem d1s (F:Fence) (n:Nat) (hF:F.fn 102) (hro:F.round = none) (hn:1 ≤ n) (l Bx len cap:Nat) (a:Option Addr) (A:Nat → Option Addr) (m c:Nat → Nat) (hlen:len ≤ 140737488355328) (J Jx:List (Fin len) → World → Prop)
 (hY:∀ pre x W,J pre W → pre.length < len → YieldAt F (n - 1) Tryz.prog l (e4a A m c x) W fun e W' =>
  (e = .returned (.bool true) ∧ J (pre ++ [x]) W' ∧ (RdR Bx len a cap A m c W → RdR Bx len a cap A m c W')) ∨ (e = .returned (.bool false) ∧ Jx (pre ++ [x]) W'))
 (W:World) (hR0:RdR Bx len a cap A m c W) (h0:J [] W) :
 CallsIn F n Tryz.prog 102 #[.func (.yield l) #[] #[],.pointer (some ⟨Bx,0,none⟩)] W fun e W' => (∃ v,e = .returned v) ∧
  ((∃ ys,(ys.length = len ∧ BkR len ys) ∧ J ys W') ∨ (∃ pre,BkR len pre ∧ Jx pre W')):=by
 refine callsIn_of_wp Tryz.func102 rfl hF ?_ hro
 simp only [Tryz.ntmps102,List.size_toArray,List.length_cons,List.length_nil,Nat.reduceAdd,Nat.reduceSub,Array.replicate_succ,Array.replicate_zero,List.push_toArray,List.append_toArray,List.nil_append,List.cons_append]
 have hb:=hR0.1
 gi_wp2
 gi_loopw [3] (fun i wr => ∃ (r:Nat) (pre:List (Fin len)),pre.length + r = len ∧ BkR len pre ∧ ((r = 0 ∧ i = .int .i64 (-1)) ∨ ∃ j:Nat,r = j + 1 ∧ i = .int .i64 (j:Int)) ∧ J pre wr ∧ RdR Bx len a cap A m c wr)
  (fun i _ => (intOf i + 1).toNat)
 case atStart =>
  refine ⟨len,[],by simp,BkR.nil _,?_,h0,hR0⟩
  rcases Nat.eq_zero_or_pos len with e | e
  ·subst e;exact .inl ⟨rfl,by go_num⟩
  ·obtain ⟨j,rfl⟩:∃ j,len = j + 1:=⟨len - 1,by omega⟩
   exact .inr ⟨j,rfl,by go_num⟩
 case round =>
  obtain ⟨r,pre,hpl,hbk,hi,hJs,hRd⟩:=hrel
  rcases hi with ⟨rfl,rfl⟩ | ⟨j,rfl,rfl⟩
  ·gi_wp2
   go_end0
   exact ⟨⟨_,rfl⟩,.inl ⟨pre,⟨by omega,hbk⟩,hJs⟩⟩
  ·obtain ⟨b,off,rfl,hc⟩:=hRd.2 j (by omega)
   have hbx:=hRd.1
   obtain ⟨fn,tmps,assign,body,hy,hR⟩:=hY pre ⟨j,by omega⟩ wr hJs (by omega)
   dsimp only [e4a] at hy
   have q1:(j:Int) < (len:Int):=by omega
   have q2:(0:Int) ≤ (j:Int):=by omega
   have hk:=hbk.snoc ⟨j,by omega⟩ (by omega) (by show j = _;omega)
   gi_wp2
   refine hR.mono ?_
   rintro e W3 (⟨rfl,hJ3,hk3⟩ | ⟨rfl,hJx3⟩)
   ·gi_wp2
    go_roundw
    case rel =>
     refine ⟨j,_,by simp;omega,hk,?_,hJ3,hk3 hRd⟩
     rcases Nat.eq_zero_or_pos j with e | e
     ·subst e;exact .inl ⟨rfl,by go_num⟩
     ·obtain ⟨m,rfl⟩:∃ m,j = m + 1:=⟨j - 1,by omega⟩
      exact .inr ⟨m,rfl,by go_num⟩
    case measure => simp [intOf]
   ·gi_wp2
    refine bodyPost_ret (results_none rfl _ _ _) rfl ?_
    exact ⟨⟨_,rfl⟩,.inr ⟨_,hk,hJx3⟩⟩
set_option maxHeartbeats 1000000 in
theorem b7f (a:Option Addr) (len cap:Nat) (w:World) :
 Calls Tryz.prog 80 #[.slice a len cap] w fun e w' => e = .returned (.func (.func 102) #[] #[.pointer (some ⟨w.heap.size,0,none⟩)]) ∧ w' = w.alloc (.cells #[.slice a len cap] 28):=by
 go_enter Tryz.func80,Tryz.ntmps80
 go_wp2
 go_ret
 exact ⟨rfl,rfl⟩
theorem b1z (F:Fence) (n:Nat) (hF:F.fn 102) (hro:F.round = none) (hn:1 ≤ n) (Bx len cap:Nat) (a:Option Addr) (A:Nat → Option Addr) (m c:Nat → Nat) (hlen:len ≤ 140737488355328) (w:World)
 (hBx:Bx < w.heap.size) (hR:RdR Bx len a cap A m c w) (hlow:0 < len → ∀ b off,a = some ⟨b,off,none⟩ → b < w.heap.size) :
 SeqStopsK F n Tryz.prog 102 #[.pointer (some ⟨Bx,0,none⟩)] (e4a (len:=len) A m c) (fun W W' => RdR Bx len a cap A m c W → RdR Bx len a cap A m c W') (fun ys => ys.length = len ∧ BkR len ys) (BkR len) len w:=fun l J Jx W hW _ _ hY h0 => by
 refine d1s F n hF hro hn l Bx len cap a A m c hlen J Jx hY W ⟨(hW.cell (p:=⟨Bx,0,none⟩) hBx).trans hR.1,fun j hj => ?_⟩ h0
 obtain ⟨b,off,e,hc⟩:=hR.2 j hj
 exact ⟨b,off,e,(hW.cell (p:=⟨b,off + j,none⟩) (hlow (by omega) b off e)).trans hc⟩
def c3q (row:List GF) (x:GF) (o:List GF):List GF:=(List.range row.length).map fun i => co row i + x * co o i
theorem a3t (row:List GF) (x:GF) (o:List GF):(c3q row x o).length = row.length:=by simp [c3q]
theorem b4d {row:List GF} (x:GF) (o:List GF) {i:Nat} (h:i < row.length):co (c3q row x o) i = co row i + x * co o i:=by
 unfold c3q;unfold co;simp [List.getD_eq_getElem?_getD,h]
theorem b9z (row:List GF) (x:GF) (o:List GF):c1l (iL row) (toI x) (iL o) = iL (c3q row x o):=by
 refine a0x (by rw [a4w,a0a,a0a,a3t]) fun i hi => ?_
 rw [a4w,a0a] at hi
 rw [a5j _ _ (by rw [a0a];exact hi),a0k,a0k,a0k,b4d x o hi,a0a]
 by_cases h:i < o.length
 ·rw [if_pos h];rfl
 ·rw [if_neg h,a0w (l:=o) (by omega),mul_zero,GF.add_zero]
def hrR (R:List (List GF)) (x:GF) {len:Nat} (pre:List (Fin len)):List GF:=pre.foldl (fun o j => c3q (rw_ R j.1) x o) []
theorem a9y (R:List (List GF)) (x:GF) {len:Nat} (pre:List (Fin len)) (y:Fin len):hrR R x (pre ++ [y]) = c3q (rw_ R y.1) x (hrR R x pre):=by simp [hrR]
def c9x (R:List (List GF)) (T i:Nat):List GF:=(List.range T).map fun k => co (rw_ R k) i
theorem b3w (R:List (List GF)) (T i:Nat):(c9x R T i).length = T:=by simp [c9x]
theorem b8h (R:List (List GF)) {T i k:Nat} (h:k < T):co (c9x R T i) k = co (rw_ R k) i:=by
 show List.getD _ _ _ = _
 unfold c9x;simp [List.getD_eq_getElem?_getD,h]
theorem e3i (R:List (List GF)) (x:GF) (T n:Nat) (hw:∀ k,k < T → (rw_ R k).length = n) (ys:List (Fin T)) (h:BkR T ys) {i:Nat} (hi:i < n):co (hrR R x ys) i = ev ((c9x R T i).drop (T - ys.length)) x:=by
 have key:∀ k,k ≤ ys.length → co (hrR R x (ys.take k)) i = ev ((c9x R T i).drop (T - k)) x:=by
  intro k
  induction k with
  | zero =>
   intro _
   rw [List.take_zero,Nat.sub_zero]
   have e:(c9x R T i).drop T = []:=List.drop_eq_nil_of_le (by rw [b3w];exact Nat.le_refl _)
   rw [e];rfl
  | succ k ih =>
   intro hk
   have h1:=h.1
   have h2:=h.2 k (by omega)
   rw [List.take_succ_eq_append_getElem (by omega),a9y,b4d x _ (by rw [hw _ (ys[k]).2];exact hi),ih (by omega),h2,a4p (c9x R T i) (T - (k + 1)),b8h R (by omega)]
   rw [show T - 1 - k = T - (k + 1) by omega,show T - (k + 1) + 1 = T - k by omega]
 have:=key ys.length (Nat.le_refl _)
 rwa [List.take_length] at this
theorem b9e (R:List (List GF)) (x:GF) (T n:Nat) (hw:∀ k,k < T → (rw_ R k).length = n) (ys:List (Fin T)) (h:0 < ys.length):(hrR R x ys).length = n:=by
 obtain ⟨pre,y,rfl⟩:∃ pre y,ys = pre ++ [y]:=⟨ys.dropLast,ys.getLast (List.ne_nil_of_length_pos h),(List.dropLast_concat_getLast (List.ne_nil_of_length_pos h)).symm⟩
 rw [a9y,a3t,hw _ y.2]
def b0f (R:List (List GF)) (T n:Nat) (x:GF):List GF:=(List.range n).map fun i => ev (c9x R T i) x
theorem c7j {t n:Nat} {S M:List GF} (x:GF) (h0:1 ≤ t):b0f (dR t n S M) t n x = shR t n S M x:=by
 unfold b0f shR
 refine List.map_congr_left fun i hi => a1z (fun k => ?_) x
 have hi:=List.mem_range.1 hi
 by_cases hk:k < t
 ·rw [b8h _ hk,e9g hi hk]
 ·rw [a0w (by rw [b3w];omega),e7m n S M i h0 (by omega)]
theorem c5k {R:List (List GF)} {x:GF} {T n:Nat} (hw:∀ k,k < T → (rw_ R k).length = n) {ys:List (Fin T)} (hy:ys.length = T) (h:BkR T ys) (hT:0 < T):hrR R x ys = b0f R T n x:=by
 have hl:=b9e R x T n hw ys (by omega)
 refine a1i (by rw [hl];simp [b0f]) fun i hi => ?_
 rw [hl] at hi
 rw [e3i R x T n hw ys h hi,hy,Nat.sub_self,List.drop_zero]
 unfold b0f;unfold co;simp [List.getD_eq_getElem?_getD,hi]
end
theorem d4f (a:Option Addr) (N c:Nat) (M:List (List GF)) (j:Nat) (r:Bool) (w:World) (hx:Mat w a N c M) (hw:∀ k,k < N → (rw_ M k).length ≤ 1000) (hj:j ≤ N) (hn:∀ k,k < j → (rw_ M k).length = (rw_ M 0).length) (hz:j < N → (rw_ M j).length ≠ (rw_ M 0).length) (hr:(j < N → r = false) ∧ (j = N → r = true)) :
 Calls Tryz.prog 173 #[.slice a N c] w fun e w' => e = .returned (.bool r) ∧ w = w':=by
 have HX:=hJ_ hx
 have HN:=hJ_ hn
 have HZ:=hJ_ hz
 have HR:=hJ_ hr
 have HW:=hJ_ hw
 have hcap:=hx.bd
 clear hx hn hz hr hw
 go_enter Tryz.func173,Tryz.ntmps173
 go_wp2
 go_loopw [7] (fun i wr => ∃ k:Nat,k ≤ j ∧ i = .int .i64 (k:Nat) ∧ wr = w)
  (fun i _ => N - (intOf i).toNat)
 case atStart => exact ⟨0,Nat.zero_le _,rfl,rfl⟩
 case round =>
  obtain ⟨k,hk,rfl,rfl⟩:=hrel
  rename World => w1
  by_cases hlt:k < N
  ·obtain ⟨bx,ox,a1,c1,rfl,hbx,hc1,hp1⟩:=HX.out.row hlt
   obtain ⟨b2,o2,a2,c2,e2,hb2,hc2,hp2⟩:=HX.out.row (i:=0) (by omega)
   cases e2
   rw [Nat.add_zero] at hc2
   have hl1:=HW.out k hlt
   have hl2:=HW.out 0 (by omega)
   have hbd1:=hp1.bd
   have hbd2:=hp2.bd
   have HE:=hJ_ (show k < j → (rw_ M k).length = (rw_ M 0).length from HN.out k)
   have HE2:=hJ_ (show k = j → (rw_ M k).length ≠ (rw_ M 0).length from fun e => by rw [e];exact HZ.out (by omega))
   obtain ⟨l1,hv1⟩:∃ l,l = (rw_ M k).length:=⟨_,rfl⟩
   obtain ⟨l2,hv2⟩:∃ l,l = (rw_ M 0).length:=⟨_,rfl⟩
   rw [← hv1] at hc1 hl1 hbd1 HE HE2
   rw [← hv2] at hc2 hl2 hbd2 HE HE2
   have q2:(k:Int) < (N:Int):=by omega
   have q3:(0:Int) ≤ (k:Int):=by omega
   have q0:(0:Int) < (N:Int):=by omega
   clear hp1 hp2 hv1 hv2
   by_cases e:k = j
   ·have q4:((l1:Int) != (l2:Int)) = true:=by rw [bne_iff_ne];have:=HE2.out e;omega
    have Q4:=hJ_ (show r = false from HR.out.1 (by omega))
    clear e
    go_wp2
    go_ret
    exact ⟨by rw [Q4.out];rfl,rfl⟩
   ·have q4:((l1:Int) != (l2:Int)) = false:=by have:=HE.out (by omega);subst this;simp
    have hk1:k + 1 ≤ j:=by omega
    clear e
    go_wp2
    go_roundw
    case rel => exact ⟨k + 1,by omega,by go_num,by trivial⟩
    case measure => simp [intOf];omega
  ·have Q4:=hJ_ (show r = true from HR.out.2 (by omega))
   obtain rfl:N = k:=by omega
   go_wp2
   go_ret
   exact ⟨by rw [Q4.out];rfl,rfl⟩
theorem d3q (a:Option Addr) (N c:Nat) (M:List (List GF)) (w:World) (hx:Mat w a N c M) (hw:∀ k,k < N → (rw_ M k).length ≤ 1000) (h:∀ k,k < N → (rw_ M k).length = (rw_ M 0).length) :
 Calls Tryz.prog 173 #[.slice a N c] w fun e w' => e = .returned (.bool true) ∧ w = w':=
 d4f a N c M N true w hx hw (Nat.le_refl _) h (fun h => absurd h (by omega)) ⟨fun h => absurd h (by omega),fun _ => rfl⟩
def atQ (X:List GF) (R:Nat → List GF) (x:GF) (n k:Nat):List GF:=(List.range n).map fun i => sm k fun q => wt X q x * co (R q) i
theorem a9a (X:List GF) (R:Nat → List GF) (x:GF) (n k:Nat):(atQ X R x n k).length = n:=by simp [atQ]
theorem c8t {X:List GF} {R:Nat → List GF} {x:GF} {n k i:Nat} (h:i < n):co (atQ X R x n k) i = sm k fun q => wt X q x * co (R q) i:=by
 unfold atQ;unfold co;simp [List.getD_eq_getElem?_getD,h]
theorem d0a (X:List GF) (R:Nat → List GF) (x:GF) (n k:Nat):c3q (atQ X R x n k) (wt X k x) (R k) = atQ X R x n (k + 1):=by
 refine a1i (by rw [a3t,a9a,a9a]) fun i hi => ?_
 rw [a3t,a9a] at hi
 rw [b4d _ _ (by rw [a9a];exact hi),c8t hi,c8t hi]
 rfl
theorem d1g (X:List GF) (R:Nat → List GF) (x:GF) (n:Nat):iL (atQ X R x n 0) = List.replicate n 0:=by
 refine a0x (by rw [a0a,a9a];simp) fun i hi => ?_
 rw [a0a,a9a] at hi
 rw [a0k,c8t hi]
 simp [List.getD_eq_getElem?_getD,hi]
 rfl
theorem d7e (X:List GF) (R:Nat → List GF) (x:GF) (n:Nat):atQ X R x n X.length = atR X R x n:=rfl
set_option maxHeartbeats 2000000 in
theorem atO (b L n:Nat) (aX:Option Addr) (cX:Nat) (X:List GF) (aR:Option Addr) (cR:Nat) (Rm:List (List GF)) (x:GF) (w:World) (hf:Fld w b) (hX:Pa w aX L cX X) (hR:Mat w aR L cR Rm) (hA:Apart X) (hL1:1 ≤ L) (hL:L ≤ 255) (hw:∀ k,k < L → (rw_ Rm k).length = n) (hn:n ≤ 1000) :
 Calls Tryz.prog 155 #[.pointer (some ⟨b,0,none⟩),.slice aX L cX,.slice aR L cR,.int .u8 (toI x)] w fun e w' =>
  ∃ g,e = .returned (.tuple #[.slice (some ⟨g,0,none⟩) n n,.int .i64 0]) ∧ w'.ownsRow w.heap.size 5 1 (.slice (some ⟨g,0,none⟩) n n) n ((iL (atR X (rw_ Rm) x n)).map (Value.int .u8)) ∧ Below w.heap.size w w':=by
 have HWT:=hJ_ (b0v b aX L cX X x w hf hX (a4a.2 ⟨by rw [hX.len];omega,by rw [hX.len];omega,hA⟩))
 have HE:=hJ_ (d3q aR L cR Rm w hR (fun k hk => by rw [hw k hk];exact hn) (fun k hk => by rw [hw k hk,hw 0 (by omega)]))
 have HF:=hJ_ hf
 have HR:=hJ_ hR
 have HW:=hJ_ hw
 have HN:=hJ_ (And.intro hn hL1)
 have HXL:=hJ_ hX.len
 have hb1:=hX.bd
 have hb2:=hR.bd
 have q:((L:Int) != (L:Int)) = false:=by simp
 have q0:(0:Int) < (L:Int):=by omega
 have hmk:=run_make_row' (P:=Tryz.prog) 22 5 (.int .u8 0) 1 Tryz.underlying22 info5 rfl .i64 .i64 n (by omega) (by omega)
 clear hf hX hR hA hL1 hw hn
 go_enter Tryz.func155,Tryz.ntmps155
 go_wp2_with (first
  | (go_at_call 173;refine HE.out.mono ?_;rintro e w' ⟨rfl,rfl⟩)
  | (go_at_call 94;refine HWT.out.mono ?_;rintro e w2 ⟨gW,rfl,hoW,hb⟩;have HOW:=hJ_ hoW;have HB:=hJ_ hb;obtain ⟨bx,ox,a1,c1,rfl,hbx,hc1,hp1⟩:=(HR.out.on hb).row (i:=0) (by have:=HN.out.2;omega);rw [HW.out 0 (by have:=HN.out.2;omega),Nat.add_zero] at hc1;have hbd1:=hp1.bd;rw [HW.out 0 (by have:=HN.out.2;omega)] at hbd1;clear hoW hb hp1))
 have hO0:Hid ((w2.alloc (.cells (madeCells #[.int .u8 0] n) 5)).ownsRow w.heap.size 5 1 (.slice (some ⟨w2.heap.size,0,none⟩) n n) n ((iL (atQ X (rw_ Rm) x n 0)).map (Value.int .u8))):=by
  rw [d1g]
  exact hJ_ (a0t (a1c (w:=w2) (e:=5) (n:=n) (by unfold maxLen;have:=HN.out;omega)) HB.out.size)
 have hB0:Hid (Below w.heap.size w (w2.alloc (.cells (madeCells #[.int .u8 0] n) 5))):=hJ_ (HB.out.alloc HB.out.size _)
 have hB1:Hid (Below w2.heap.size w2 (w2.alloc (.cells (madeCells #[.int .u8 0] n) 5))):=hJ_ ((Below.refl _ _).alloc (Nat.le_refl _) _)
 clear hc1 hbx hbd1
 go_loopw [44,12] (fun j o wr => ∃ (k g:Nat),k ≤ L ∧ j = .int .i64 (k:Nat) ∧ o = .slice (some ⟨g,0,none⟩) n n ∧ Hid (wr.ownsRow w.heap.size 5 1 (.slice (some ⟨g,0,none⟩) n n) n ((iL (atQ X (rw_ Rm) x n k)).map (Value.int .u8))) ∧ Hid (Below w.heap.size w wr) ∧ Hid (Below w2.heap.size w2 wr))
  (fun j _ _ => L - (intOf j).toNat)
 case atStart => exact ⟨0,_,Nat.zero_le _,rfl,rfl,hO0,hB0,hB1⟩
 case round =>
  obtain ⟨k,g,hk,rfl,rfl,hO,hBw,hB2⟩:=hrel
  rename World => w3
  by_cases hlt:k < L
  ·obtain ⟨b9,o9,a1,c1,hbe,hb9,hc1,hp1⟩:=(HR.out.on hBw.out).row hlt
   cases hbe
   have hlk:=HW.out k hlt
   rw [hlk] at hc1 hp1
   obtain ⟨b8,o8,e8,hb8,hcw⟩:=(Pa.on (Pa.own2 HOW.out) hB2.out).at_ (k:=k) hlt
   cases e8
   rw [Nat.zero_add,d5o x (by rw [HXL.out];exact hlt)] at hcw
   have HSU:=hJ_ (b0g b (toI (wt X k x)) _ _ _ (iL (atQ X (rw_ Rm) x n k)) _ _ _ (iL (rw_ Rm k)) w3 (HF.out.below hBw.out) (a2d _) (Pa.own2 hO.out).1 hp1.1 (by have:=HN.out;omega))
   rw [b9z,d0a] at HSU
   have q2:(k:Int) < (L:Int):=by omega
   have q3:(0:Int) ≤ (k:Int):=by omega
   clear hp1 hlk
   go_wp2_with (go_at_call 81;go_loud (refine HSU.out.mono ?_;rintro e w4 ⟨g4,rfl,ho4,hb4⟩;have HO4:=hJ_ (a0t ho4 hBw.out.size);have HBW4:=hJ_ (bt hBw.out hb4);have HB24:=hJ_ (bt hB2.out hb4);clear ho4 hb4))
   go_roundw
   case rel => exact ⟨k + 1,g4,by omega,by go_num,rfl,HO4,HBW4,HB24⟩
   case measure => simp [intOf];omega
  ·obtain rfl:L = k:=by omega
   have ho:=hO.out
   rw [← HXL.out,d7e] at ho
   have HPA:=hJ_ ho
   clear ho
   go_wp2
   go_ret2
   exact ⟨_,rfl,HPA.out,hBw.out⟩
end Go.Proofs.YtappfdbmhgifcaaGreatDoor
namespace Go.Proofs.YtappfdbmhgifcaaGreatDoor
open GF
def pl (x:Nat):GF:=toG (x:Int)
def plc (n:Nat):List GF:=(List.range n).map fun i => pl (i + 1)
theorem c9s {x:Nat} (h:x < 256):toI (pl x) = (x:Int):=a8x (by omega)
theorem d5t {x y:Nat} (hx:x < 256) (hy:y < 256) (h:pl x = pl y):x = y:=by
 have:=congrArg toI h
 rw [c9s hx,c9s hy] at this
 omega
theorem a3y (n:Nat):(plc n).length = n:=by simp [plc]
theorem a9n {n i:Nat} (h:i < n):co (plc n) i = pl (i + 1):=by
 show List.getD _ _ _ = _
 unfold plc;simp [List.getD_eq_getElem?_getD,h]
theorem d2x (n:Nat):plc (n + 1) = plc n ++ [pl (n + 1)]:=by simp [plc,List.range_succ]
theorem a7v {n:Nat} (hn:n ≤ 255):Apart (plc n):=fun i j hi hj e => by
 rw [a3y] at hi
 rw [a9n hi,a9n (by omega)] at e
 have:=d5t (by omega) (by omega) e
 omega
def pcR (P:List (List GF)) (n:Nat) (x:GF):List GF:=atR (plc P.length) (rw_ P) x n
theorem b9n (P:List (List GF)) (n:Nat) (x:GF):(pcR P n x).length = n:=b9k _ _ _ _
def e6p (P:List (List GF)) (n N:Nat):List (List GF):=(List.range N).map fun i => pcR P n (pl (i + 1))
def cl (P:List (List GF)) (i:Nat):List GF:=(List.range P.length).map fun k => co (rw_ P k) i
theorem e6n {P:List (List GF)} {i k:Nat} (h:k < P.length):co (cl P i) k = co (rw_ P k) i:=by
 show List.getD _ _ _ = _
 unfold cl;simp [List.getD_eq_getElem?_getD,h]
def pp (P:List (List GF)) (i:Nat):List GF:=lag (plc P.length) (cl P i)
theorem e8p (P:List (List GF)) (i:Nat) {k:Nat} (h:P.length ≤ k):co (pp P i) k = 0:=e7k _ _ (by rw [a3y];exact h)
theorem d6v {P:List (List GF)} {n i:Nat} (x:GF) (h:i < n):co (pcR P n x) i = ev (pp P i) x:=by
 unfold pcR pp
 rw [d6l h,c4l]
 refine a3v fun k hk => ?_
 rw [a3y] at hk
 rw [e6n hk,mul_comm]
theorem e7q {P:List (List GF)} (hP:P.length ≤ 255) (i:Nat) {j:Nat} (hj:j < P.length):ev (pp P i) (pl (j + 1)) = co (rw_ P j) i:=by
 unfold pp
 rw [← a9n hj,b6p (a7v hP) (by rw [a3y];exact hj),e6n hj]
theorem d2h {P:List (List GF)} {n:Nat} (hP:P.length ≤ 255) {j:Nat} (hj:j < P.length) (hn:(rw_ P j).length = n):pcR P n (pl (j + 1)) = rw_ P j:=by
 refine a1i (by rw [b9n,hn]) fun i hi => ?_
 rw [b9n] at hi
 rw [d6v _ hi,e7q hP i hj]
end Go.Proofs.YtappfdbmhgifcaaGreatDoor
namespace Go.Proofs.YtappfdbmhgifcaaGreatDoor
open Go.ChangeShapes Go.WideShapes Go.ChangeAt Go.RowKit Go.Shelf GF
def ceil (L t:Nat):Nat:=(L + t - 1) / t
def a6u (B:List GF) (t n:Nat):List (List GF):=(List.range t).map fun i => (List.range n).map fun k => co B (i * n + k)
def e9v:Prop:=∀ (L t:Nat) (aB:Option Addr) (cB:Nat) (B:List GF) (w:World),
 Pa w aB L cB B → 1 ≤ t → t ≤ 255 → L ≤ 1000 →
 Calls Tryz.prog 54 #[.slice aB L cB,.int .i64 (t:Nat)] w fun e w' =>
  ∃ a' c',e = .returned (.tuple #[.slice a' t c',.int .i64 0]) ∧ a4j w' w.heap.size a' t c' (a6u B t (ceil L t)) ∧ Below w.heap.size w w'
def e9e:Prop:=∀ (L t:Nat) (w:World),1 ≤ t → t ≤ 255 → L ≤ 1000 →
 Calls Tryz.prog 35 #[.int .i64 (L:Nat),.int .i64 (t:Nat)] w fun e w' => e = .returned (.int .i64 (ceil L t:Nat)) ∧ ∃ q,w' = w.drewN q
def flat (M:List (List GF)):List GF:=M.flatten
def e7z:Prop:=∀ (t s:Nat) (aR:Option Addr) (cR:Nat) (R:List (List GF)) (w:World),
 Mat w aR t cR R → s ≤ (flat R).length → t ≤ 255 → (∀ k,k < t → (rw_ R k).length ≤ 1000) →
 Calls Tryz.prog 74 #[.slice aR t cR,.int .i64 (s:Nat)] w fun e w' =>
  ∃ a' c',e = .returned (.tuple #[.slice a' s c',.int .i64 0]) ∧ Pa w' a' s c' ((flat R).take s) ∧ Below w.heap.size w w'
set_option maxHeartbeats 1000000 in
theorem b5f (n:Nat) (w:World) (hn:n ≤ 255) :
 Calls Tryz.prog 63 #[.int .i64 (n:Nat)] w fun e w' => ∃ g c',e = .returned (.slice (some ⟨g,0,none⟩) n c') ∧ Pa w' (some ⟨g,0,none⟩) n c' (plc n) ∧ Below w.heap.size w w':=by
 obtain ⟨i5,hi,hz0,hz1,hz2⟩:=info_parts info5
 have HI:=hJ_ (And.intro hi (And.intro hz0 (And.intro hz1 hz2)))
 have HN:=hJ_ hn
 have qn:(n:Int) ≤ 1000:=by omega
 have HO0:=hJ_ (a6l w 5)
 have HB0:=hJ_ (show Below w.heap.size w (w.alloc (.cells #[] 5)) from (Below.refl _ _).alloc (Nat.le_refl _) _)
 clear hi hz0 hz1 hz2 hn
 go_enter Tryz.func63,Tryz.ntmps63
 go_wp2
 go_loopw [3,4] (fun o s wr => ∃ (i g c':Nat),i ≤ n ∧ s = .int .i64 ((i + 1:Nat):Int) ∧ o = .slice (some ⟨g,0,none⟩) i c' ∧ Hid (wr.ownsRow w.heap.size 5 1 (.slice (some ⟨g,0,none⟩) i c') i ((iL (plc i)).map (Value.int .u8))) ∧ Hid (Below w.heap.size w wr)) (fun _ s _ => n + 1 - (intOf s).toNat)
 case atStart => exact ⟨0,_,_,by omega,rfl,rfl,HO0,HB0⟩
 case round =>
  obtain ⟨i,g,c',hi,rfl,rfl,HO,HB⟩:=hrel
  rename World => V
  by_cases hlt:i < n
  ·obtain ⟨I,hI⟩:∃ I,I = i + 1:=⟨_,rfl⟩
   have HIE:=hJ_ hI
   rw [← hI]
   have q1:(I:Int) ≤ (n:Int):=by omega
   have k1:∀ [Inhabited Unit],IntKind.u8.wrap (I:Int) = toI (pl I):=by
    intro _
    rw [c9s (by have:=HN.out;omega),IntKind.wrap_u8];have:=HN.out;omega
   have HV:=hJ_ (show plc (i + 1) = plc i ++ [pl I] by rw [d2x,hI])
   have HLT:=hJ_ hlt
   have HVS:=hJ_ HB.out.size
   clear hI hlt hi
   go_wp2_with ((with_reducible show wpList _ _ _ (⟨some 15,_,_,_,_,_⟩ :: _) _ _);go_loud (refine a1a rfl (.tmp 11) (.tmp 14) 22 rfl w.heap.size 5 i5 Tryz.underlying22 HI.out.1 HI.out.2.1 HI.out.2.2.1 HI.out.2.2.2 (.slice (some ⟨g,0,none⟩) i c') i (plc i) rfl HO.out (pl I) 5 rfl (by have:=HLT.out;have:=HN.out;omega) HVS.out ?_;intro g5 c5 w5 ho5 hb5))
   have HO5:=hJ_ ho5
   have HB5:=hJ_ (HB.out.trans hb5)
   rw [← HV.out] at HO5
   clear ho5 hb5
   go_roundw
   case rel => exact ⟨i + 1,g5,c5,HLT.out,by rw [HIE.out];go_num,rfl,HO5,HB5⟩
   case measure => simp [intOf];have:=HLT.out;have:=HIE.out;omega
  ·obtain rfl:i = n:=by omega
   have HP:=hJ_ (Pa.own2 HO.out)
   have q1:¬ ((i + 1:Nat):Int) ≤ (i:Int):=by omega
   go_wp2
   go_ret
   exact ⟨g,c',rfl,HP.out,HB.out⟩
def e1:GF:=toG 1
def e2:GF:=toG 2
theorem e1g {w:World} {b1 b2 s1 s2 n1 n2:Nat} {e1 e2:TypeId} {v1 v2:Value} {xs ys:List Value} (h1:w.ownsRow b1 e1 s1 v1 n1 xs) (h2:w.ownsRow b2 e2 s2 v2 n2 ys) (hne:e1 ≠ e2):v1.ownBlock = none ∨ v1.ownBlock ≠ v2.ownBlock:=by
 rcases h1.2 with ⟨rfl,_⟩ | ⟨g,c,cur,rfl,_,hh,_⟩
 ·left;rfl
 ·right
  intro e
  rcases h2.2 with ⟨rfl,_⟩ | ⟨g2,c2,cur2,rfl,_,hh2,_⟩
  ·cases e
  ·have e3:g = g2:=by
    have:some g = some g2:=e
    injection this
   subst e3
   rw [hh] at hh2
   injection hh2 with h3
   injection h3 with _ h4 _
   exact hne h4
def a6e (w:World) (S n i:Nat) (v:Nat → Value) (Q:Nat → List GF):Prop:=
 (∀ j,j < i → w.ownsRow S 5 1 (v j) n ((iL (Q j)).map (Value.int .u8))) ∧ ∀ j k,j < k → k < i → ∀ b,(v j).ownBlock = some b → (v k).ownBlock ≠ some b
theorem a6e.zero (w:World) (S n:Nat) (v:Nat → Value) (Q:Nat → List GF):a6e w S n 0 v Q:=⟨fun j hj => absurd hj (by omega),fun j k _ hk => absurd hk (by omega)⟩
theorem b7b {w:World} {S s n:Nat} {e:TypeId} {v:Value} {xs:List Value} (h:w.ownsRow S e s v n xs) {b:Nat} (hb:v.ownBlock = some b):S ≤ b ∧ b < w.heap.size:=by
 rcases h.2 with ⟨rfl,_⟩ | ⟨g,c,cur,rfl,hg,hh,_⟩
 ·cases hb
 ·have:some g = some b:=hb
  injection this with this
  subst this
  exact ⟨hg,(Array.getElem?_eq_some_iff.1 hh).1⟩
theorem a6e.more {w w':World} {S n i:Nat} {v:Nat → Value} {Q:Nat → List GF} (h:a6e w S n i v Q) (hb:Below w.heap.size w w') {u:Value} (hu:w'.ownsRow w.heap.size 5 1 u n ((iL (Q i)).map (Value.int .u8))) (hS:S ≤ w.heap.size) :
 a6e w' S n (i + 1) (fun j => if j = i then u else v j) Q:=by
 refine ⟨fun j hj => ?_,fun j k hjk hk b hbj => ?_⟩
 ·by_cases e:j = i
  ·subst e;simp only [if_pos];exact a0t hu hS
  ·simp only [if_neg e];exact a0o (h.1 j (by omega)) hb
 ·have e1:j ≠ i:=by omega
  simp only [if_neg e1] at hbj
  have h1:=b7b (h.1 j (by omega)) hbj
  by_cases e:k = i
  ·simp only [if_pos e]
   intro e2
   have h2:=b7b hu e2
   omega
  ·simp only [if_neg e]
   exact h.2 j k hjk (by omega) b hbj
theorem a6e.kept {w w':World} {S n i:Nat} {v:Nat → Value} {Q:Nat → List GF} (h:a6e w S n i v Q) {b2 s2 n2:Nat} {v2:Value} {ys:List Value} {e2:TypeId} (h2:w.ownsRow b2 e2 s2 v2 n2 ys) (hne:5 ≠ e2) (hg:w.grownBy w' v2.ownBlock):a6e w' S n i v Q:=
 ⟨fun j hj => (h.1 j hj).kept hg (e1g (h.1 j hj) h2 hne),h.2⟩
theorem a6e.on {w w':World} {S n i:Nat} {v:Nat → Value} {Q:Nat → List GF} (h:a6e w S n i v Q) (hb:Below w.heap.size w w'):a6e w' S n i v Q:=
 ⟨fun j hj => a0o (h.1 j hj) hb,h.2⟩
theorem a6e.congr {w:World} {S n i:Nat} {v:Nat → Value} {Q Q':Nat → List GF} (h:a6e w S n i v Q) (e:∀ j,j < i → Q j = Q' j):a6e w S n i v Q':=
 ⟨fun j hj => by rw [← e j hj];exact h.1 j hj,h.2⟩
theorem a6e.store {w:World} {S n i:Nat} {v:Nat → Value} {Q:Nat → List GF} (h:a6e w S n i v Q) {j g c:Nat} (hj:j < i) (hv:v j = .slice (some ⟨g,0,none⟩) n c) (p:Nat) (x:GF) :
 a6e (w.setCell ⟨g,p,none⟩ (.int .u8 (toI x))) S n i v (fun k => if k = j then (Q j).set p x else Q k):=by
 have hoj:=h.1 j hj
 rw [hv] at hoj
 have hst:=hoj.stored p (.int .u8 (toI x))
 refine ⟨fun k hk => ?_,h.2⟩
 by_cases e:k = j
 ·subst e
  simp only [if_pos]
  rw [hv]
  have h1:=hst.1
  rw [a1h,show (iL (Q k)).set p (toI x) = iL ((Q k).set p x) by simp [iL,List.map_set]] at h1
  exact h1
 ·simp only [if_neg e]
  refine (h.1 k hk).kept hst.2 (Classical.byContradiction fun hc => ?_)
  have h3:(v k).ownBlock = some g:=Classical.byContradiction fun h4 => hc (Or.inr h4)
  have h5:(v j).ownBlock = some g:=by rw [hv];rfl
  rcases Nat.lt_or_ge j k with h6 | h6
  ·exact h.2 j k h6 hk g h5 h3
  ·exact h.2 k j (by omega) hj g h3 h5
theorem a8c (u d:Int) (hd:0 < d):∃ q:Nat,(IntKind.u64.wrap u).tmod d = (q:Int) ∧ (IntKind.u64.wrap u) % d = (q:Int) ∧ (q:Int) < d:=by
 have h:IntKind.u64.wrap u = u % 18446744073709551616:=by rw [IntKind.wrap_u64]
 rw [h,Int.tmod_eq_emod_of_nonneg (by omega)]
 have h1:=Int.emod_nonneg (u % 18446744073709551616) (show d ≠ 0 by omega)
 have h2:=Int.emod_lt_of_pos (u % 18446744073709551616) hd
 exact ⟨((u % 18446744073709551616) % d).toNat,by omega,by omega,by omega⟩
def IA (w:World) (a:Option Addr) (L c:Nat) (ps:List Int):Prop:=
 ps.length = L ∧ L ≤ c ∧ c ≤ maxLen ∧ (a = none → c = 0) ∧ (∀ i,-9223372036854775808 ≤ ps.getD i 0 ∧ ps.getD i 0 ≤ 9223372036854775807) ∧ (0 < L → ∃ b off,a = some ⟨b,off,none⟩ ∧ b < w.heap.size ∧ ∀ i,i < L → w.cell? ⟨b,off + i,none⟩ = some (.int .i64 (ps.getD i 0)))
theorem IA.on {w w':World} {a:Option Addr} {L c:Nat} {ps:List Int} (h:IA w a L c ps) (hb:Below w.heap.size w w'):IA w' a L c ps:=by
 obtain ⟨h1,h2,h3,h4,h5,h6⟩:=h
 refine ⟨h1,h2,h3,h4,h5,fun h0 => ?_⟩
 obtain ⟨b,off,e,hlt,hc⟩:=h6 h0
 exact ⟨b,off,e,by have:=hb.size;omega,fun i hi => (hb.cell (p:=⟨b,off + i,none⟩) hlt).trans (hc i hi)⟩
theorem IA.bd {w:World} {a:Option Addr} {L c:Nat} {ps:List Int} (h:IA w a L c ps):L ≤ c ∧ c ≤ 9223372036854775807:=⟨h.2.1,by have:=h.2.2.1;unfold maxLen at this;omega⟩
theorem IA.at_ {w:World} {a:Option Addr} {L c:Nat} {ps:List Int} (h:IA w a L c ps) {i:Nat} (hi:i < L):∃ b off,a = some ⟨b,off,none⟩ ∧ b < w.heap.size ∧ w.cell? ⟨b,off + i,none⟩ = some (.int .i64 (ps.getD i 0)):=by
 obtain ⟨h1,h2,h3,h4,h5,h6⟩:=h
 obtain ⟨b,off,e,hlt,hc⟩:=h6 (by omega)
 exact ⟨b,off,e,hlt,hc i hi⟩
theorem getD_drop (ps:List Int) (k i:Nat):(ps.drop k).getD i 0 = ps.getD (k + i) 0:=by simp [List.getD_eq_getElem?_getD]
theorem getD_take {ps:List Int} {k i:Nat} (h:i < k):(ps.take k).getD i 0 = ps.getD i 0:=by simp [List.getD_eq_getElem?_getD,List.getElem?_take,h]
theorem IA.drop {w:World} {b o L c:Nat} {ps:List Int} (h:IA w (some ⟨b,o,none⟩) L c ps) (k:Nat):IA w (some ⟨b,o + k,none⟩) (L - k) (c - k) (ps.drop k):=by
 obtain ⟨h1,h2,h3,h4,h5,h6⟩:=h
 refine ⟨by rw [List.length_drop,h1],by omega,by omega,(fun e => by cases e),fun i => by rw [getD_drop];exact h5 _,fun h0 => ?_⟩
 obtain ⟨b',off,e,hb,hc⟩:=h6 (by omega)
 cases e
 refine ⟨b,o + k,rfl,hb,fun i hi => ?_⟩
 rw [getD_drop,← hc (k + i) (by omega)]
 congr 2
 omega
theorem IA.take {w:World} {a:Option Addr} {L c:Nat} {ps:List Int} (h:IA w a L c ps) {k:Nat} (hk:k ≤ L):IA w a k c (ps.take k):=by
 obtain ⟨h1,h2,h3,h4,h5,h6⟩:=h
 refine ⟨by rw [List.length_take,h1];omega,by omega,h3,h4,fun i => ?_,fun h0 => ?_⟩
 ·by_cases hi:i < k
  ·rw [getD_take hi];exact h5 i
  ·have:(ps.take k).getD i 0 = 0:=by rw [List.getD_eq_getElem?_getD,List.getElem?_eq_none (by rw [List.length_take];omega)];rfl
   rw [this];omega
 ·obtain ⟨b,off,e,hb,hc⟩:=h6 (by omega)
  exact ⟨b,off,e,hb,fun i hi => by rw [getD_take hi];exact hc i (by omega)⟩
def e2h (zs:List Int):List Value:=zs.map (Value.int .i64)
theorem IA.own {w:World} {base:Nat} {v:Value} {n:Nat} {zs:List Int} (h:w.ownsRow base 3 1 v n (e2h zs)) (hz:∀ z,z ∈ zs → 0 ≤ z ∧ z < 256):∃ a c,v = .slice a n c ∧ IA w a n c zs:=by
 have hl:zs.length = n:=by have:=h.1;rw [e2h,List.length_map,Nat.mul_one] at this;exact this
 have hb:∀ i,-9223372036854775808 ≤ zs.getD i 0 ∧ zs.getD i 0 ≤ 9223372036854775807:=fun i => by
  by_cases hi:i < zs.length
  ·have e:zs.getD i 0 = zs[i]:=by simp [List.getD_eq_getElem?_getD,List.getElem?_eq_getElem hi]
   rw [e]
   have:=hz _ (List.getElem_mem hi)
   omega
  ·have e:zs.getD i 0 = 0:=by rw [List.getD_eq_getElem?_getD,List.getElem?_eq_none (Nat.le_of_not_lt hi)];rfl
   rw [e];omega
 rcases h.2 with ⟨rfl,rfl⟩ | ⟨g,cap,cur,rfl,hg,hh,hn,hm,hs,ht⟩
 ·exact ⟨none,0,rfl,hl,Nat.le_refl _,Nat.zero_le _,fun _ => rfl,hb,fun h0 => absurd h0 (by omega)⟩
 ·refine ⟨_,cap,rfl,hl,hn,hm,(fun h => by cases h),hb,fun h0 => ⟨g,0,rfl,(Array.getElem?_eq_some_iff.1 hh).1,fun i hi => ?_⟩⟩
  rw [Nat.zero_add,h.cellAt i (by omega),e2h,List.getElem?_map,List.getElem?_eq_getElem (by omega)]
  simp [List.getD_eq_getElem?_getD,List.getElem?_eq_getElem (show i < zs.length by omega)]
end Go.Proofs.YtappfdbmhgifcaaGreatDoor
