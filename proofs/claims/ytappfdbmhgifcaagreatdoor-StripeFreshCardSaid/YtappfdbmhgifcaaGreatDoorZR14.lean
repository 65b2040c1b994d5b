/- Texts of mine, one behind the other: Ec Ya Yb Yc Fl Yd Cd Ye Vf. -/
import Derived.Test.YtappfdbmhgifcaaGreatDoorZR13
set_option linter.unusedVariables false
set_option linter.unusedSimpArgs false
set_option maxRecDepth 100000
namespace Go.Proofs.YtappfdbmhgifcaaGreatDoor
open Go.ChangeShapes Go.WideShapes Go.ChangeAt Go.RowKit Go.Shelf GF
theorem Mat.take {w:World} {a:Option Addr} {n c:Nat} {M:List (List GF)} (h:Mat w a n c M) {k:Nat} (hk:k ≤ n):Mat w a k c (M.take k):=by
 obtain ⟨h1,h2,h3,h4,vs,h5,h6⟩:=h
 have hr:∀ i,i < k → rw_ (M.take k) i = rw_ M i:=fun i hi => by unfold rw_;simp [List.getD_eq_getElem?_getD,List.getElem?_take,hi]
 refine ⟨by rw [List.length_take];omega,by omega,h3,h4,vs.take k,⟨by rw [List.length_take,List.length_take,h5.1],fun i hi => ?_⟩,fun h0 => ?_⟩
 ·have hik:i < k:=by rw [List.length_take] at hi;omega
  obtain ⟨a',c',k1,k2⟩:=h5.2 i (by rw [List.length_take] at hi;omega)
  rw [hr i hik,List.getElem?_take,if_pos hik]
  exact ⟨a',c',k1,k2⟩
 ·obtain ⟨b,off,e,hb,hc⟩:=h6 (by omega)
  exact ⟨b,off,e,hb,fun i hi => by rw [List.getElem?_take,if_pos hi];exact hc i (by omega)⟩
def TyU (w:World) (b:Nat):Prop:=∃ cur fz,w.heap[b]? = some (.cells cur 5 fz)
theorem TyU.below {w w':World} {b B:Nat} (h:TyU w b) (hb:Below B w w') (hB:b < B):TyU w' b:=by
 obtain ⟨cur,fz,e⟩:=h
 exact ⟨cur,fz,by rw [hb.block b hB];exact e⟩
theorem TyU.grown {w w':World} {b base s n:Nat} {e:TypeId} {v:Value} {ys:List Value} (h:TyU w b) (h2:w.ownsRow base e s v n ys) (hne:5 ≠ e) (hg:w.grownBy w' v.ownBlock):w'.heap[b]? = w.heap[b]? ∧ TyU w' b:=by
 obtain ⟨cur,fz,hh⟩:=h
 have k:w'.heap[b]? = w.heap[b]?:=hg.block b (Array.getElem?_eq_some_iff.1 hh).1 (fun e' => by
  rcases h2.2 with ⟨rfl,_⟩ | ⟨g2,c2,cur2,rfl,_,hh2,_⟩
  ·cases e'
  ·have e3:b = g2:=by
    have:some b = some g2:=e'
    injection this
   subst e3
   rw [hh] at hh2
   injection hh2 with h3
   injection h3 with _ h4 _
   exact hne h4)
 exact ⟨k,cur,fz,by rw [k];exact hh⟩
theorem RV.onU {w w':World} {vs:List Value} {M:List (List GF)} (h:RV w (TyU w) vs M) (hb:Below w.heap.size w w'):RV w' (TyU w') vs M:=
 h.keep hb.size (fun b hlt ht => ⟨ht.below hb hlt,hb.block b hlt⟩)
theorem RV.grownU {w w':World} {vs:List Value} {M:List (List GF)} (h:RV w (TyU w) vs M) {base s n:Nat} {e:TypeId} {v:Value} {ys:List Value} (h2:w.ownsRow base e s v n ys) (hne:5 ≠ e) (hg:w.grownBy w' v.ownBlock):RV w' (TyU w') vs M:=
 h.keep hg.size (fun b _ ht => ⟨(ht.grown h2 hne hg).2,(ht.grown h2 hne hg).1⟩)
def okP (z:Int):Prop:=1 ≤ z ∧ z ≤ 255
instance (z:Int):Decidable (okP z):=inferInstanceAs (Decidable (_ ∧ _))
def e6i (ps:List Int) (i:Nat) (z:Int):Bool:=(List.range i).any fun j => decide (ps.getD j 0 = z)
theorem c5x (ps:List Int) (i:Nat) (z:Int):e6i ps (i + 1) z = (e6i ps i z || decide (ps.getD i 0 = z)):=by simp [e6i,List.range_succ]
open Go.Maps in
abbrev e9m (z:Int):Lit:=.int .i64 z
open Go.Maps in
def d8c (D:DataW Unit) (f:Int → Bool):Prop:=∀ z:Int,D.atKey (e9m z) (.lit (.bool false)) = .lit (.bool (f z))
open Go.Maps in
theorem d8c.put {D:DataW Unit} {ps:List Int} {i:Nat} (h:d8c D (e6i ps i)) (hT:Tidy D):d8c (D.put (e9m (ps.getD i 0)) (.lit (.bool true))) (e6i ps (i + 1)):=by
 intro z
 rw [c5x]
 by_cases e:ps.getD i 0 = z
 ·subst e
  rw [atKey_put_same hT.isMap (by trivial)];simp
 ·rw [atKey_put_other (fun h => e (by injection h with _ h;exact h.symm)),h z,decide_eq_false e,Bool.or_false]
theorem b9o (n:Int) (w:World) (h1:1 ≤ n) (h2:n ≤ 255) :
 Calls Tryz.prog 64 #[.int .i64 n] w fun e w' => e = .returned (.bool true) ∧ w = w':=by
 go_enter Tryz.func64,Tryz.ntmps64
 go_wp2
 go_ret
 exact ⟨rfl,rfl⟩
theorem b3a (a:Option Addr) (L cap:Nat) (X:List GF) (y:GF) (j:Nat) (r:Int) (w:World) (hx:Pa w a L cap X) (hj:j ≤ L) (hn:∀ k,k < j → co X k ≠ y) (hz:j < L → co X j = y) (hr:(j < L → r = (j:Int)) ∧ (j = L → r = -1)) :
 Calls Tryz.prog 101 #[.slice a L cap,.int .u8 (toI y)] w fun e w' => e = .returned (.int .i64 r) ∧ w = w':=by
 have HX:=hJ_ hx
 have HN:=hJ_ hn
 have HZ:=hJ_ hz
 have HR:=hJ_ hr
 have hcap:=hx.bd
 obtain ⟨u,hu⟩:∃ u,u = toI y:=⟨_,rfl⟩
 have HU:=hJ_ hu
 rw [← hu]
 clear hx hn hz hr hu
 go_enter Tryz.func101,Tryz.ntmps101
 go_wp2
 go_loopw [8] (fun i wr => ∃ k:Nat,k ≤ j ∧ i = .int .i64 (k:Nat) ∧ wr = w)
  (fun i _ => L - (intOf i).toNat)
 case atStart => exact ⟨0,Nat.zero_le _,rfl,rfl⟩
 case round =>
  obtain ⟨k,hk,rfl,rfl⟩:=hrel
  by_cases hlt:k < L
  ·obtain ⟨bx,ox,rfl,hbx,hcx⟩:=HX.out.at_ hlt
   have q2:(k:Int) < (L:Int):=by omega
   have q3:(0:Int) ≤ (k:Int):=by omega
   by_cases e:k = j
   ·have hc0:co X k = y:=by rw [e];exact HZ.out (by omega)
    rw [hc0,← HU.out] at hcx
    have q4:r = (k:Int):=by rw [HR.out.1 (by omega),e]
    have Q4:=hJ_ q4
    clear hc0 e q4
    go_wp2
    go_ret
    exact ⟨by rw [Q4.out];rfl,rfl⟩
   ·have hc0:=HN.out k (by omega)
    obtain ⟨v,hv⟩:∃ v,v = toI (co X k):=⟨_,rfl⟩
    have q5:v ≠ u:=fun h => hc0 (a7c (by rw [← hv,h,HU.out]))
    have q6:(v == u) = false:=by rw [beq_eq_false_iff_ne];exact q5
    have q7:(u == v) = false:=by rw [beq_eq_false_iff_ne];exact Ne.symm q5
    have hk1:k + 1 ≤ j:=by omega
    rw [← hv] at hcx
    clear hc0 q5 e hv
    go_wp2
    go_roundw
    case rel => exact ⟨k + 1,by omega,by go_num,by trivial⟩
    case measure => simp [intOf];omega
  ·have q4:r = -1:=HR.out.2 (by omega)
   have Q4:=hJ_ q4
   obtain rfl:L = k:=by omega
   clear q4
   go_wp2
   go_ret
   exact ⟨by rw [Q4.out];rfl,rfl⟩
theorem e7i (X:List GF) (y:GF) (L:Nat):∃ j,j ≤ L ∧ (∀ k,k < j → co X k ≠ y) ∧ (j < L → co X j = y):=by
 induction L with
 | zero => exact ⟨0,Nat.le_refl _,fun k hk => absurd hk (by omega),fun h => absurd h (by omega)⟩
 | succ L ih =>
  obtain ⟨j,h1,h2,h3⟩:=ih
  by_cases h:j < L
  ·exact ⟨j,by omega,h2,fun _ => h3 h⟩
  ·obtain rfl:j = L:=by omega
   by_cases h0:co X j = y
   ·exact ⟨j,by omega,h2,fun _ => h0⟩
   ·exact ⟨j + 1,Nat.le_refl _,fun k hk => by
     rcases Nat.lt_succ_iff_lt_or_eq.1 hk with h4 | h4
     ·exact h2 k h4
     ·rw [h4];exact h0,fun h => absurd h (by omega)⟩
theorem e0v {X:List GF} {R:Nat → List GF} {n i:Nat} (hX:Apart X) (hi:i < X.length) (hn:(R i).length = n):atR X R (co X i) n = R i:=by
 refine a1i (by rw [b9k,hn]) fun j hj => ?_
 rw [b9k] at hj
 rw [d6l hj]
 have e:=c4l X ((List.range X.length).map fun k => co (R k) j) (co X i)
 have c:∀ k,k < X.length → co ((List.range X.length).map fun k => co (R k) j) k = co (R k) j:=fun k hk => by
  show List.getD _ _ _ = _
  simp [List.getD_eq_getElem?_getD,hk]
 rw [b6p hX hi,c i hi] at e
 rw [e]
 exact a3v fun k hk => by rw [c k hk,mul_comm]
set_option maxHeartbeats 1000000 in
theorem e3d (b L n:Nat) (aX:Option Addr) (cX:Nat) (X:List GF) (aR:Option Addr) (cR:Nat) (R:List (List GF)) (x:GF) (w:World) (hf:Fld w b) (hX:Pa w aX L cX X) (hR:Mat w aR L cR R) (hA:Apart X) (hL1:1 ≤ L) (hL:L ≤ 255) (hw:∀ k,k < L → (rw_ R k).length = n) (hn:n ≤ 1000) :
 Calls Tryz.prog 132 #[.pointer (some ⟨b,0,none⟩),.slice aX L cX,.slice aR L cR,.int .u8 (toI x)] w fun e w' =>
  ∃ v,e = .returned v ∧ w'.ownsRow w.heap.size 5 1 v n ((iL (atR X (rw_ R) x n)).map (Value.int .u8)) ∧ Below w.heap.size w w':=by
 obtain ⟨j,h1,h2,h3⟩:=e7i X x L
 have hb1:=hX.bd
 have hb2:=hR.bd
 by_cases hj:j < L
 ·have HI:=hJ_ (b3a aX L cX X x j (j:Int) w hX h1 h2 h3 ⟨fun _ => rfl,fun e => absurd e (by omega)⟩)
  obtain ⟨bx,ox,a1,c1,rfl,hbx,hc1,hp1⟩:=hR.row hj
  have HE:=hJ_ (show atR X (rw_ R) x n = rw_ R j by rw [← h3 hj];exact e0v hA (by rw [hX.len];exact hj) (hw j hj))
  have HC:=hJ_ (b6f a1 _ c1 (rw_ R j) w hp1 (by rw [hw j hj];omega))
  have hbd:=hp1.bd
  rw [hw j hj] at hc1 HC hbd
  have q0:(0:Int) ≤ (j:Int):=by omega
  have q1:(j:Int) < (L:Int):=by omega
  clear hf hX hR hA hL1 hw hn h1 h2 h3 hp1 hj
  go_enter Tryz.func132,Tryz.ntmps132
  go_wp2_with (first
   | (go_at_call 101;refine HI.out.mono ?_;rintro e w' ⟨rfl,rfl⟩)
   | (go_at_call 154;go_loud (refine HC.out.mono ?_;rintro e w2 ⟨v,rfl,ho,hb⟩;obtain ⟨a2,c2,hv2,_,_,_,_,_⟩:=a0f ho;subst hv2;have HO:=hJ_ ho;have HB:=hJ_ hb;clear ho hb)))
  go_ret
  exact ⟨_,rfl,by rw [HE.out];exact HO.out,HB.out⟩
 ·have HI:=hJ_ (b3a aX L cX X x j (-1) w hX h1 h2 h3 ⟨fun h => absurd h hj,fun _ => rfl⟩)
  have HT:=hJ_ (atO b L n aX cX X aR cR R x w hf hX hR hA hL1 hL hw hn)
  clear hf hX hR hA hL1 hw hn h1 h2 h3 hj
  go_enter Tryz.func132,Tryz.ntmps132
  go_wp2_with (first
   | (go_at_call 101;refine HI.out.mono ?_;rintro e w' ⟨rfl,rfl⟩)
   | (go_at_call 155;go_loud (refine HT.out.mono ?_;rintro e w2 ⟨g,rfl,ho,hb⟩;have HO:=hJ_ ho;have HB:=hJ_ hb;clear ho hb)))
  go_ret
  exact ⟨_,rfl,HO.out,HB.out⟩
theorem e4h (w:World) (v:Value) (e:TypeId):(w.alloc (.cells #[v] e)).cell? ⟨w.heap.size,0,none⟩ = some v:=by simp
theorem b7a (Bx:Nat) (ai:Option Addr) (m ci N cR m0:Nat) (a0:Option Addr) (c0:Nat) (b off:Nat) (W:World) (r:Bool) (hx:W.cell? ⟨Bx,0,none⟩ = some (.slice (some ⟨b,off,none⟩) N cR)) (h0:W.cell? ⟨b,off,none⟩ = some (.slice a0 m0 c0)) (hN:0 < N) (hb1:N ≤ cR ∧ cR ≤ 9223372036854775807) (hb2:m ≤ ci ∧ ci ≤ 9223372036854775807) (hb3:m0 ≤ c0 ∧ c0 ≤ 9223372036854775807) (hr:((m:Int) != (m0:Int)) = r) :
 Calls Tryz.prog 131 #[.slice ai m ci,.pointer (some ⟨Bx,0,none⟩)] W fun e w' => e = .returned (.bool r) ∧ W = w':=by
 have q0:(0:Int) < (N:Int):=by omega
 subst hr
 go_enter Tryz.func131,Tryz.ntmps131
 go_wp2
 go_ret
 exact ⟨rfl,rfl⟩
theorem d9j (Bx:Nat) (aR:Option Addr) (N cR:Nat) (R:List (List GF)) (j:Nat) (w:World) (hx:w.cell? ⟨Bx,0,none⟩ = some (.slice aR N cR)) (hR:Mat w aR N cR R) (hw:∀ k,k < N → (rw_ R k).length ≤ 1000) (hj:j ≤ N) (hz:∀ i,i < j → (rw_ R i).length = (rw_ R 0).length) (hn:j < N → (rw_ R j).length ≠ (rw_ R 0).length) :
 Calls Tryz.prog 93 #[.slice aR N cR,.func (.func 131) #[] #[.pointer (some ⟨Bx,0,none⟩)]] w fun e w' => e = .returned (.int .i64 (if j < N then (j:Int) else -1)) ∧ w = w':=by
 have HR:=hJ_ hR
 have HX:=hJ_ hx
 have HW:=hJ_ hw
 have HZ:=hJ_ hz
 have HN:=hJ_ hn
 have hbd:=hR.bd
 clear hR hw hz hn hx
 go_enter Tryz.func93,Tryz.ntmps93
 go_wp2
 go_loop [8] (fun k => ∃ i:Nat,i ≤ j ∧ i ≤ N ∧ k = .int .i64 (i:Nat)) (fun k => N - (intOf k).toNat)
 case atStart => exact ⟨0,Nat.zero_le _,Nat.zero_le _,rfl⟩
 case round =>
  obtain ⟨i,hi,hiL,rfl⟩:=hrel
  by_cases hlt:i < N
  ·have qi:(i:Int) < (N:Int):=by omega
   have qi0:(0:Int) ≤ (i:Int):=by omega
   obtain ⟨b,off,ai,ci,rfl,hb,hcell,hpa⟩:=HR.out.row hlt
   obtain ⟨b2,o2,a0,c0,e0,hb0,hc0,hp0⟩:=HR.out.row (i:=0) (by omega)
   cases e0
   rw [Nat.add_zero] at hc0
   have hd1:=hpa.bd
   have hd0:=hp0.bd
   obtain ⟨m,hm⟩:∃ m,m = (rw_ R i).length:=⟨_,rfl⟩
   obtain ⟨m0,hm0⟩:∃ m,m = (rw_ R 0).length:=⟨_,rfl⟩
   have HM:=hJ_ hm
   have HM0:=hJ_ hm0
   rw [← hm] at hcell hd1
   rw [← hm0] at hc0 hd0
   clear hpa hp0 hm hm0
   by_cases hij:i < j
   ·have HC:=hJ_ (b7a Bx ai m ci N cR m0 a0 c0 b off w false HX.out hc0 (by omega) hbd hd1 hd0 (by have:=HZ.out i hij;rw [← HM.out,← HM0.out] at this;subst this;simp))
    clear hc0
    go_wp2_with (go_at_call 131;refine HC.out.mono ?_;rintro e w' ⟨rfl,rfl⟩)
    go_round
    case rel => exact ⟨i + 1,by omega,by omega,by go_num⟩
    case measure => simp [intOf];omega
   ·obtain rfl:j = i:=by omega
    have HC:=hJ_ (b7a Bx ai m ci N cR m0 a0 c0 b off w true HX.out hc0 (by omega) hbd hd1 hd0 (by have:=HN.out hlt;rw [← HM.out,← HM0.out] at this;rw [bne_iff_ne];omega))
    clear hc0
    go_wp2_with (go_at_call 131;refine HC.out.mono ?_;rintro e w' ⟨rfl,rfl⟩)
    go_ret
    exact ⟨rfl,rfl⟩
  ·obtain rfl:N = i:=by omega
   have hjL:j = N:=by omega
   have hn0:¬ j < N:=by omega
   clear hjL
   go_wp2
   go_ret
   exact ⟨rfl,rfl⟩
theorem d8h (Bx:Nat) (aR:Option Addr) (N cR:Nat) (R:List (List GF)) (j:Nat) (r:Bool) (w:World) (hx:w.cell? ⟨Bx,0,none⟩ = some (.slice aR N cR)) (hR:Mat w aR N cR R) (hw:∀ k,k < N → (rw_ R k).length ≤ 1000) (hj:j ≤ N) (hz:∀ i,i < j → (rw_ R i).length = (rw_ R 0).length) (hn:j < N → (rw_ R j).length ≠ (rw_ R 0).length) (hr:r = decide (j < N)) :
 Calls Tryz.prog 66 #[.slice aR N cR,.func (.func 131) #[] #[.pointer (some ⟨Bx,0,none⟩)]] w fun e w' => e = .returned (.bool r) ∧ w = w':=by
 have HI:=d9j Bx aR N cR R j w hx hR hw hj hz hn
 have hbd:=hR.bd
 by_cases h:j < N
 ·rw [if_pos h] at HI
  have HH:=hJ_ HI
  have q:(0:Int) ≤ (j:Int):=by omega
  have Hr:=hJ_ (hr.trans (decide_eq_true h))
  clear hx hR hw hz hn hr HI
  go_enter Tryz.func66,Tryz.ntmps66
  go_wp2_with (go_at_call 93;refine HH.out.mono ?_;rintro e w' ⟨rfl,rfl⟩)
  go_ret
  exact ⟨by rw [Hr.out];rfl,rfl⟩
 ·rw [if_neg h] at HI
  have HH:=hJ_ HI
  have Hr:=hJ_ (hr.trans (decide_eq_false h))
  clear hx hR hw hz hn hr HI
  go_enter Tryz.func66,Tryz.ntmps66
  go_wp2_with (go_at_call 93;refine HH.out.mono ?_;rintro e w' ⟨rfl,rfl⟩)
  go_ret
  exact ⟨by rw [Hr.out];rfl,rfl⟩
theorem c2s (R:List (List GF)) (N:Nat):∃ j,j ≤ N ∧ (∀ i,i < j → (rw_ R i).length = (rw_ R 0).length) ∧ (j < N → (rw_ R j).length ≠ (rw_ R 0).length):=by
 induction N with
 | zero => exact ⟨0,Nat.le_refl _,fun i hi => absurd hi (by omega),fun h => absurd h (by omega)⟩
 | succ N ih =>
  obtain ⟨j,h1,h2,h3⟩:=ih
  by_cases h:j < N
  ·exact ⟨j,by omega,h2,fun _ => h3 h⟩
  ·obtain rfl:j = N:=by omega
   by_cases h0:(rw_ R j).length = (rw_ R 0).length
   ·exact ⟨j + 1,Nat.le_refl _,fun k hk => by
     rcases Nat.lt_succ_iff_lt_or_eq.1 hk with h4 | h4
     ·exact h2 k h4
     ·rw [h4];exact h0,fun h => absurd h (by omega)⟩
   ·exact ⟨j,by omega,h2,fun _ => h0⟩
theorem d2k (aR:Option Addr) (N cR:Nat) (R:List (List GF)) (r:Bool) (w:World) (hR:Mat w aR N cR R) (hw:∀ k,k < N → (rw_ R k).length ≤ 1000) (hr:r = true ↔ ∃ i,i < N ∧ (rw_ R i).length ≠ (rw_ R 0).length) :
 Calls Tryz.prog 108 #[.slice aR N cR] w fun e w' => e = .returned (.bool r) ∧ Below w.heap.size w w':=by
 obtain ⟨j,h1,h2,h3⟩:=c2s R N
 have hA:=(Below.refl w.heap.size w).alloc (Nat.le_refl _) (.cells #[.slice aR N cR] 28)
 have hrr:r = decide (j < N):=by
  rw [Bool.eq_iff_iff,decide_eq_true_eq,hr]
  constructor
  ·rintro ⟨i,hi,he⟩
   rcases Nat.lt_or_ge j N with h | h
   ·exact h
   ·exact absurd (h2 i (by omega)) he
  ·exact fun h => ⟨j,h,h3 h⟩
 have HC:=hJ_ (d8h w.heap.size aR N cR R j r _ (e4h w (.slice aR N cR) 28) (hR.on hA) hw h1 h2 h3 hrr)
 have HA:=hJ_ hA
 have hbd:=hR.bd
 clear hR hw hr hrr h2 h3 h1 hA
 go_enter Tryz.func108,Tryz.ntmps108
 go_wp2_with (go_at_call 66;refine HC.out.mono ?_;rintro e w' ⟨rfl,rfl⟩)
 go_ret
 exact ⟨rfl,HA.out⟩
def c3t (X:List GF) (R:Nat → List GF) (n fst K:Nat):List (List GF):=(List.range K).map fun i => atR X R (pl (fst + i)) n
theorem c3y (X:List GF) (R:Nat → List GF) (n fst K:Nat):c3t X R n fst (K + 1) = c3t X R n fst K ++ [atR X R (pl (fst + K)) n]:=by simp [c3t,List.range_succ]
def c9y (w:World) (B:Nat):Nat → Prop:=fun b => B ≤ b ∧ TyU w b
theorem RV.onN {w w':World} {B:Nat} {vs:List Value} {M:List (List GF)} (h:RV w (c9y w B) vs M) (hb:Below w.heap.size w w'):RV w' (c9y w' B) vs M:=
 h.keep hb.size (fun b hlt ht => ⟨⟨ht.1,ht.2.below hb hlt⟩,hb.block b hlt⟩)
theorem RV.grownN {w w':World} {B:Nat} {vs:List Value} {M:List (List GF)} (h:RV w (c9y w B) vs M) {base s n:Nat} {e:TypeId} {v:Value} {ys:List Value} (h2:w.ownsRow base e s v n ys) (hne:5 ≠ e) (hg:w.grownBy w' v.ownBlock):RV w' (c9y w' B) vs M:=
 h.keep hg.size (fun b _ ht => ⟨⟨ht.1,(ht.2.grown h2 hne hg).2⟩,(ht.2.grown h2 hne hg).1⟩)
theorem RV.moreN {w:World} {B B':Nat} {vs:List Value} {M:List (List GF)} (h:RV w (c9y w B) vs M) {v:Value} {n:Nat} {P:List GF} (ho:w.ownsRow B' 5 1 v n ((iL P).map (Value.int .u8))) (hB:B ≤ B'):RV w (c9y w B) (vs ++ [v]) (M ++ [P]):=by
 obtain ⟨a,c,rfl,hp,hnew⟩:=Pa.own ho
 have hl:=hp.len
 have:=h.more (P:=P) (a:=a) (c:=c) (by rw [hl];exact hp) (fun b off e _ => by
  refine ⟨Nat.le_trans hB (hnew b off e).1,?_⟩
  rcases ho.2 with ⟨h1,_⟩ | ⟨g,cap,cur,h1,_,hh,_⟩
  ·cases h1;cases e
  ·cases h1;cases e;exact ⟨cur,_,hh⟩)
 rw [hl] at this
 exact this
theorem c3l (w:World) (e:TypeId):(w.alloc (.cells #[] e)).ownsRow w.heap.size e 1 (.slice (some ⟨w.heap.size,0,none⟩) 0 0) 0 []:=
 World.ownsRow_lit (base:=w.heap.size) (e:=e) (size:=1) w #[] 0 (Nat.le_refl _) (Nat.zero_le _) rfl
set_option maxHeartbeats 2000000 in
theorem d9h (b L n fst lst K:Nat) (aX:Option Addr) (cX:Nat) (X:List GF) (aR:Option Addr) (cR:Nat) (R:List (List GF)) (w:World) (hf:Fld w b) (hX:Pa w aX L cX X) (hR:Mat w aR L cR R) (hA:Apart X) (hL1:1 ≤ L) (hL:L ≤ 255) (hw:∀ k,k < L → (rw_ R k).length = n) (hn:n ≤ 1000) (h1:1 ≤ fst) (h2:lst ≤ 255) (hK:fst + K = lst + 1) :
 Calls Tryz.prog 109 #[.pointer (some ⟨b,0,none⟩),.slice aX L cX,.slice aR L cR,.int .i64 (fst:Nat),.int .i64 (lst:Nat)] w fun e w' =>
  ∃ a c,e = .returned (.slice a K c) ∧ ∃ vs,w'.ownsRow w.heap.size 22 1 (.slice a K c) K vs ∧ RV w' (c9y w' w.heap.size) vs (c3t X (rw_ R) n fst K) ∧ Below w.heap.size w w':=by
 obtain ⟨i22,hi,hz0,hz1,hz2⟩:=info_parts b1v
 have HI:=hJ_ (And.intro hi (And.intro hz0 (And.intro hz1 hz2)))
 have HF:=hJ_ hf;have HX:=hJ_ hX;have HR:=hJ_ hR;have HA:=hJ_ hA;have HW:=hJ_ hw
 have HC:=hJ_ (And.intro hL1 (And.intro hL (And.intro hn (And.intro h1 (And.intro h2 hK)))))
 have hb1:=hX.bd
 have hb2:=hR.bd
 have hO0:=hJ_ (c3l w 22)
 have hB0:Hid (Below w.heap.size w (w.alloc (.cells #[] 22))):=hJ_ ((Below.refl _ _).alloc (Nat.le_refl _) _)
 clear hf hX hR hA hL1 hL hw hn h1 h2 hK hi hz0 hz1 hz2
 go_enter Tryz.func109,Tryz.ntmps109
 go_wp2
 go_loopw [11,12] (fun o s wr => ∃ (k x:Nat) (a:Option Addr) (c:Nat) (vs:List Value),k ≤ K ∧ x = fst + k ∧ s = .int .i64 (x:Nat) ∧ o = .slice a k c ∧ Hid (wr.ownsRow w.heap.size 22 1 (.slice a k c) k vs) ∧ Hid (RV wr (c9y wr w.heap.size) vs (c3t X (rw_ R) n fst k)) ∧ Hid (Below w.heap.size w wr))
  (fun _ s _ => lst + 1 - (intOf s).toNat)
 case atStart => exact ⟨0,fst,_,0,[],Nat.zero_le _,rfl,rfl,rfl,hO0,hJ_ (RV.nil _ _),hB0⟩
 case round =>
  obtain ⟨k,x,a,c,vs,hk,hx,rfl,rfl,hO,hV,hB⟩:=hrel
  rename World => w1
  have HXE:=hJ_ hx
  by_cases hlt:k < K
  ·have q1:(x:Int) ≤ (lst:Int):=by have:=HC.out;omega
   have qb:1 ≤ x ∧ x ≤ 255:=by have:=HC.out;omega
   have QB:=hJ_ qb
   have q2:(x:Int) ≤ 255:=by omega
   have q3:(0:Int) ≤ (x:Int):=by omega
   have k1:∀ [Inhabited Unit],IntKind.u8.wrap (x:Int) = toI (pl x):=by
    intro _
    rw [c9s (by omega),IntKind.wrap_u8];omega
   have HVA:=hJ_ (e3d b L n aX cX X aR cR R (pl x) w1 (HF.out.below hB.out) (HX.out.on hB.out) (HR.out.on hB.out) HA.out HC.out.1 HC.out.2.1 HW.out HC.out.2.2.1)
   have HKL:=hJ_ hlt
   have HM:=hJ_ (show c3t X (rw_ R) n fst (k + 1) = c3t X (rw_ R) n fst k ++ [atR X (rw_ R) (pl x) n] by rw [c3y,← hx])
   clear hlt hk hx qb
   go_wp2_with (first
    | (go_at_call 132;go_loud (refine HVA.out.mono ?_;rintro e w3 ⟨v3,rfl,ho3,hb3⟩;obtain ⟨a3,c3,hv3,_,_,_,_,_⟩:=a0f ho3;subst hv3;have HRV:=hJ_ (((hV.out.onN hb3).moreN ho3 hB.out.size).onN ((Below.refl _ _).alloc (Nat.le_refl _) (.cells #[.slice a3 n c3] 22)));have HB3:=hJ_ (bt hB.out hb3);have HO3:=hJ_ ((a0o hO.out hb3).alloc (.cells #[.slice a3 n c3] 22));clear ho3 hb3))
    | ((with_reducible show wpList _ _ _ (⟨some 28,_,_,_,_,_⟩ :: _) _ _);go_loud (refine wpList_append_own _ rfl (.tmp 20) (.tmp 27) 28 rfl w.heap.size 22 i22 (.slice none 0 0) 1 24 Tryz.underlying28 HI.out.1 HI.out.2.1 HI.out.2.2.1 HI.out.2.2.2 rfl (by decide) _ k vs rfl HO3.out _ 1 1 [_] rfl rfl (a6p _ _ _) (by intro u hu;cases List.mem_singleton.1 hu;rfl) (by unfold maxLen;have:=HKL.out;have:=HC.out;omega) (by have:=HKL.out;have:=HC.out;omega) (by have:=HB3.out.size;simp;omega) ?_);go_loud (intro v1 wc hown1 hg1 _;have hbel:=(HB3.out.alloc HB3.out.size (.cells #[.slice a3 n c3] 22)).grown hg1 (by have:=HB3.out.size;simp;omega) (fun z hz => (HO3.out.lt z hz).1);have HRG:=hJ_ (HRV.out.grownN HO3.out (by decide) hg1);obtain ⟨a1,c1,hv1⟩:=a3d hown1;subst hv1;have HO1:=hJ_ hown1;have HN1:=hJ_ hbel;clear hown1 hg1 hbel)))
   rw [← HM.out] at HRG
   go_roundw
   case rel => exact ⟨k + 1,x + 1,a1,c1,_,HKL.out,by have:=HXE.out;omega,by go_num,rfl,HO1,HRG,HN1⟩
   case measure => simp [intOf];have:=HKL.out;have:=HXE.out;have:=HC.out;omega
  ·obtain rfl:k = K:=by omega
   have q1:¬ (x:Int) ≤ (lst:Int):=by have:=HC.out;omega
   clear hlt
   go_wp2
   go_ret
   exact ⟨_,_,rfl,vs,hO.out,hV.out,hB.out⟩
theorem b6a {vs:List Value} {n:Nat} (z v:Value) (h:vs.length < n):(vs ++ List.replicate (n - vs.length) z).set vs.length v = (vs ++ [v]) ++ List.replicate (n - (vs.length + 1)) z:=by
 rw [List.set_append_right _ _ (Nat.le_refl _),Nat.sub_self,show n - vs.length = (n - (vs.length + 1)) + 1 by omega,List.replicate_succ,List.set_cons_zero,List.append_assoc]
 rfl
def plV (P:List GF) (t k:Nat):List Value:=(iL (P.take k)).map (Value.int .u8) ++ List.replicate (t - k) (.int .u8 0)
theorem a7w (P:List GF) (t:Nat):plV P t 0 = (List.replicate t (0:Int)).map (Value.int .u8):=by simp [plV,iL]
theorem b0n {P:List GF} {t:Nat} (h:P.length = t):plV P t t = (iL P).map (Value.int .u8):=by unfold plV;rw [List.take_of_length_le (by omega),Nat.sub_self];simp
theorem a8q {P:List GF} {t k:Nat} (h:P.length = t) (hk:k ≤ t):(plV P t k).length = t:=by simp [plV,iL,h];omega
theorem a8r {P:List GF} {t k:Nat} (h:P.length = t) (hk:k < t):(plV P t k).set k (.int .u8 (toI (co P k))) = plV P t (k + 1):=by
 have hl:((iL (P.take k)).map (Value.int .u8)).length = k:=by simp [iL];omega
 have:=b6a (vs:=(iL (P.take k)).map (Value.int .u8)) (n:=t) (.int .u8 0) (.int .u8 (toI (co P k))) (by omega)
 rw [hl] at this
 unfold plV
 rw [this]
 have e:P[k]? = some (co P k):=by rw [List.getElem?_eq_getElem (by omega),a5i (by omega)]
 rw [List.take_add_one,e]
 simp [iL]
set_option maxHeartbeats 2000000 in
theorem f0e (b t n fst lst K:Nat) (N:Int) (aR:Option Addr) (cR:Nat) (R:List (List GF)) (w:World) (hf:Fld w b) (hR:Mat w aR t cR R) (ht:1 ≤ t) (htN:(t:Int) ≤ N) (ht2:t ≤ 255) (hw:∀ k,k < t → (rw_ R k).length = n) (hn:n ≤ 1000) (h1:1 ≤ fst) (hl1:1 ≤ lst) (h2:lst ≤ 255) (hK:fst + K = lst + 1) :
 Calls Tryz.prog 85 #[.pointer (some ⟨b,0,none⟩),.int .i64 N,.slice aR t cR,.int .i64 (fst:Nat),.int .i64 (lst:Nat)] w fun e w' =>
  ∃ a c,e = .returned (.tuple #[.slice a K c,.int .i64 0]) ∧ ∃ vs,w'.ownsRow w.heap.size 22 1 (.slice a K c) K vs ∧ RV w' (c9y w' w.heap.size) vs (c3t (plc t) (rw_ R) n fst K) ∧ Below w.heap.size w w':=by
 have HU:=hJ_ (d2k aR t cR R false w hR (fun k hk => by rw [hw k hk];exact hn) ⟨(fun e => by cases e),fun ⟨i,hi,e⟩ => absurd (by rw [hw i hi,hw 0 (by omega)]) e⟩)
 have HP:=hJ_ (b9o (lst:Int) w (by omega) (by omega))
 have HF:=hJ_ hf;have HR:=hJ_ hR;have HW:=hJ_ hw
 have HC:=hJ_ (And.intro ht (And.intro ht2 (And.intro hn (And.intro h1 (And.intro h2 hK)))))
 have hb2:=hR.bd
 have q1:((t:Int) == 0) = false:=by rw [beq_eq_false_iff_ne];omega
 have q2:¬ N < (t:Int):=by omega
 have q3:(t:Int) ≤ 255:=by omega
 have hmk:=run_make_row' (P:=Tryz.prog) 22 5 (.int .u8 0) 1 Tryz.underlying22 info5 rfl .i64 .i64 t (by omega) (by omega)
 clear hf hR hw ht htN ht2 hn h1 hl1 h2 hK
 go_enter Tryz.func85,Tryz.ntmps85
 go_wp2_with (first
  | (go_at_call 64;refine HP.out.mono ?_;rintro e w' ⟨rfl,rfl⟩)
  | (go_at_call 108;refine HU.out.mono ?_;rintro e w1 ⟨rfl,hb1⟩;have HB1:=hJ_ hb1;clear hb1))
 have hO0:Hid ((w1.alloc (.cells (madeCells #[.int .u8 0] t) 5)).ownsRow w1.heap.size 5 1 (.slice (some ⟨w1.heap.size,0,none⟩) t t) t (plV (plc t) t 0)):=by
  rw [a7w]
  exact hJ_ (a1c (w:=w1) (e:=5) (n:=t) (by unfold maxLen;have:=HC.out;omega))
 have hB0:Hid (Below w1.heap.size w1 (w1.alloc (.cells (madeCells #[.int .u8 0] t) 5))):=hJ_ ((Below.refl _ _).alloc (Nat.le_refl _) _)
 go_loopw [37] (fun j wr => ∃ k:Nat,k ≤ t ∧ j = .int .i64 (k:Nat) ∧ Hid (wr.ownsRow w1.heap.size 5 1 (.slice (some ⟨w1.heap.size,0,none⟩) t t) t (plV (plc t) t k)) ∧ Hid (Below w1.heap.size w1 wr))
  (fun j _ => t - (intOf j).toNat)
 case atStart => exact ⟨0,Nat.zero_le _,rfl,hO0,hB0⟩
 case round =>
  obtain ⟨k,hk,rfl,hO,hB⟩:=hrel
  rename World => w2
  by_cases hlt:k < t
  ·have qi:(k:Int) < (t:Int):=by omega
   have qi0:(0:Int) ≤ (k:Int):=by omega
   obtain ⟨I,hI⟩:∃ I,I = k + 1:=⟨_,rfl⟩
   have HIE:=hJ_ hI
   have qI:(k:Int) + 1 = (I:Int):=by omega
   have k1:∀ [Inhabited Unit],IntKind.u8.wrap (I:Int) = toI (pl I):=by
    intro _
    rw [c9s (by have:=HC.out;omega),IntKind.wrap_u8];have:=HC.out;omega
   have hfz:=hO.out.frozenAt k
   have hcl:=hO.out.cellAt k (by omega)
   obtain ⟨vo,hvo⟩:∃ v,(plV (plc t) t k)[k]? = some v:=⟨_,List.getElem?_eq_getElem (by rw [a8q (a3y t) hk];exact hlt)⟩
   rw [hvo] at hcl
   have hst:=(hO.out.stored k (.int .u8 (toI (pl I)))).1
   rw [show pl I = co (plc t) k by rw [a9n hlt,hI],a8r (a3y t) hlt,a9n hlt,← hI] at hst
   have HST:=hJ_ hst
   have HBS:=hJ_ (hB.out.setCell (p:=⟨w1.heap.size,k,none⟩) (Nat.le_refl _) (.int .u8 (toI (pl I))))
   have HLT:=hJ_ hlt
   clear hst hI hlt hk hvo
   go_wp2
   go_roundw
   case rel => exact ⟨I,by have:=HLT.out;have:=HIE.out;omega,by go_num,by rw [HIE.out];rw [← HIE.out];exact HST,HBS⟩
   case measure => simp [intOf];have:=HLT.out;have:=HIE.out;omega
  ·obtain rfl:k = t:=by omega
   have ho:=hO.out
   rw [b0n (a3y k)] at ho
   have HB2:=hJ_ (bt HB1.out hB.out)
   have HV:=hJ_ (d9h b k n fst lst K (some ⟨w1.heap.size,0,none⟩) k (plc k) aR cR R w2 (HF.out.below HB2.out) (Pa.own2 ho) (HR.out.on HB2.out) (a7v HC.out.2.1) HC.out.1 HC.out.2.1 HW.out HC.out.2.2.1 HC.out.2.2.2.1 HC.out.2.2.2.2.1 HC.out.2.2.2.2.2)
   have HKC:=hJ_ hk
   clear ho hlt
   go_wp2_with (go_at_call 109;go_loud (refine HV.out.mono ?_;rintro e w3 ⟨a,c,rfl,vs,ho,hv,hb⟩;have HO3:=hJ_ (a0t ho HB2.out.size);have HRV:=hJ_ (hv.keep (ok':=c9y w3 w.heap.size) (Nat.le_refl _) (fun b _ h => ⟨⟨Nat.le_trans HB2.out.size h.1,h.2⟩,rfl⟩));have HB3:=hJ_ (bt HB2.out hb);clear ho hv hb))
   go_ret2
   exact ⟨_,_,rfl,vs,HO3.out,HRV.out,HB3.out⟩
theorem a4j.ofOk {w:World} {B n c:Nat} {a:Option Addr} {vs:List Value} {M:List (List GF)} {ok:Nat → Prop} (h:w.ownsRow B 22 1 (.slice a n c) n vs) (hv:RV w ok vs M) (hok:∀ b,ok b → B ≤ b):a4j w B a n c M:=by
 have hl:M.length = n:=by rw [← hv.1,h.1,Nat.mul_one]
 have hv2:=hv.keep (w':=w) (ok':=fun b => B ≤ b) (Nat.le_refl _) (fun b _ hb => ⟨hok b hb,rfl⟩)
 rcases h.2 with ⟨e,h0⟩ | ⟨g,cap,cur,e,hg,hh,h4,h5,_⟩
 ·cases e
  exact ⟨hl,Nat.le_refl _,Nat.zero_le _,fun _ => rfl,vs,hv2,fun h => absurd h (by omega)⟩
 ·cases e
  exact ⟨hl,h4,h5,(fun e => by cases e),vs,hv2,fun h0 => ⟨g,0,rfl,(Array.getElem?_eq_some_iff.1 hh).1,hg,fun i hi => by rw [Nat.zero_add];exact h.cellAt i (by omega)⟩⟩
theorem d1w {R:List (List GF)} {t:Nat} (h:R.length = t) (n N:Nat):c3t (plc t) (rw_ R) n 1 N = e6p R n N:=by
 unfold c3t e6p pcR
 rw [h]
 exact List.map_congr_left fun i _ => by rw [Nat.add_comm 1 i]
theorem c9a {L t n:Nat} (ht:1 ≤ t):ceil L t ≤ n ↔ L ≤ n * t:=by
 unfold ceil
 constructor
 ·intro h
  have h1:(L + t - 1) / t < n + 1:=by omega
  have h2:=(Nat.div_lt_iff_lt_mul (by omega)).1 h1
  rw [Nat.add_mul,Nat.one_mul] at h2
  omega
 ·intro h
  have h2:(L + t - 1) / t < n + 1:=(Nat.div_lt_iff_lt_mul (by omega)).2 (by rw [Nat.add_mul,Nat.one_mul];omega)
  omega
theorem c6b {L t:Nat} (ht:1 ≤ t):ceil L t ≤ L:=(c9a ht).2 (Nat.le_mul_of_pos_right L (by omega))
def a5e (B:List GF) (n i k:Nat):List GF:=(List.range k).map fun j => co B (i * n + j)
theorem a0i (B:List GF) (n i k:Nat):(a5e B n i k).length = k:=by simp [a5e]
theorem c6h (B:List GF) (n i k:Nat):a5e B n i (k + 1) = a5e B n i k ++ [co B (i * n + k)]:=by simp [a5e,List.range_succ]
theorem c0z (B:List GF) (t n:Nat):(a6u B t n).length = t:=by simp [a6u]
theorem a3m {B:List GF} {t n i:Nat} (h:i < t):(a6u B t n).take (i + 1) = (a6u B t n).take i ++ [a5e B n i n]:=by
 refine a4f ?_
 unfold a6u a5e;simp [h]
theorem d2w (B:List GF) (n:Nat):∀ t,flat (a6u B t n) = (List.range (t * n)).map (co B):=by
 intro t
 induction t with
 | zero => simp [flat,a6u]
 | succ t ih =>
  have e:a6u B (t + 1) n = a6u B t n ++ [(List.range n).map fun k => co B (t * n + k)]:=by simp [a6u,List.range_succ]
  unfold flat at ih ⊢
  rw [e,List.flatten_append,ih,Nat.add_mul,Nat.one_mul,List.range_add,List.map_append]
  simp
theorem c8v {B:List GF} {L t n:Nat} (hB:B.length = L) (h:L ≤ t * n):(flat (a6u B t n)).take L = B:=by
 rw [d2w]
 refine a1i (by simp [hB];omega) fun i hi => ?_
 simp at hi
 show List.getD _ _ _ = _
 have h1:i < L:=by omega
 have h2:i < t * n:=by omega
 simp [List.getD_eq_getElem?_getD,List.getElem?_take,h1,h2]
def a7f (B G:Nat) (V W:World):Prop:=V.heap.size ≤ W.heap.size ∧ ∀ b,b < B → b ≠ G → W.heap[b]? = V.heap[b]?
theorem a7f.refl (B G:Nat) (V:World):a7f B G V V:=⟨Nat.le_refl _,fun _ _ _ => rfl⟩
theorem a7f.below {B G:Nat} {V W U:World} (h:a7f B G V W) (k:Below B W U):a7f B G V U:=⟨Nat.le_trans h.1 k.size,fun b hb hn => (k.block b hb).trans (h.2 b hb hn)⟩
theorem a7f.set {B G:Nat} {V W:World} (h:a7f B G V W) (i:Nat) (v:Value):a7f B G V (W.setCell ⟨G,i,none⟩ v):=⟨by simpa using h.1,fun b hb hn => (Below.heap_setCell _ _ _ _ hn).trans (h.2 b hb hn)⟩
theorem set_mid {vs:List Value} {t i:Nat} (z u v:Value) (hi:vs.length = i):(vs ++ u :: List.replicate (t - (i + 1)) z).set i v = vs ++ v :: List.replicate (t - (i + 1)) z:=by
 subst hi
 rw [List.set_append_right _ _ (Nat.le_refl _),Nat.sub_self,List.set_cons_zero]
theorem c7q {t i:Nat} (z:Value) (h:i < t):List.replicate (t - i) z = z :: List.replicate (t - (i + 1)) z:=by
 rw [show t - i = (t - (i + 1)) + 1 by omega,List.replicate_succ]
theorem b7g {w:World} {n:Nat} (hm:n ≤ maxLen) :
 (w.alloc (.cells (madeCells #[Value.slice none 0 0] n) 22)).ownsRow w.heap.size 22 1 (.slice (some ⟨w.heap.size,0,none⟩) n n) n (List.replicate n (.slice none 0 0)):=by
 have:=World.ownsRow_lit (base:=w.heap.size) (e:=22) (size:=1) w (madeCells #[Value.slice none 0 0] n) n (Nat.le_refl _) hm (by simp [size_madeCells])
 rw [toList_madeCells_one] at this
 exact this
set_option maxHeartbeats 4000000 in
theorem c2n (L t:Nat) (aB:Option Addr) (cB:Nat) (B:List GF) (w:World) (hB:Pa w aB L cB B) (ht:1 ≤ t) (ht2:t ≤ 255) (hL:L ≤ 1000) :
 Calls Tryz.prog 31 #[.slice aB L cB,.int .i64 (t:Nat)] w fun e w' => ∃ g,e = .returned (.slice (some ⟨g,0,none⟩) t t) ∧ Mat w' (some ⟨g,0,none⟩) t t (a6u B t (ceil L t)) ∧ Below w.heap.size w w':=by
 obtain ⟨i5,hi,hz0,hz1,hz2⟩:=info_parts info5
 have HI:=hJ_ (And.intro hi (And.intro hz0 (And.intro hz1 hz2)))
 have HB:=hJ_ hB
 have HBL:=hJ_ hB.len
 have HT:=hJ_ (And.intro ht ht2)
 have HL:=hJ_ hL
 have hbd:=hB.bd
 obtain ⟨n,hn⟩:∃ n,n = ceil L t:=⟨_,rfl⟩
 rw [← hn]
 have HN:=hJ_ hn
 have HN2:=hJ_ (show n ≤ 1000 by rw [hn];exact Nat.le_trans (c6b ht) hL)
 have qt:(t:Int) ≤ 255:=by omega
 have qL:(L:Int) ≤ 1000:=by omega
 have qn:(n:Int) ≤ 1000:=by have:=HN2.out;omega
 have hmk:=run_make_row' (P:=Tryz.prog) 28 22 (.slice none 0 0) 24 Tryz.underlying28 b1v rfl .i64 .i64 t (by omega) (by omega)
 clear hi hz0 hz1 hz2 hB ht ht2 hL hn
 go_enter Tryz.func31,Tryz.ntmps31
 go_wp2
 go_loopw [5] (fun s wr => ∃ k:Nat,k ≤ n ∧ s = .int .i64 (k:Nat) ∧ wr = w) (fun s _ => n - (intOf s).toNat)
 case atStart => exact ⟨0,by omega,rfl,rfl⟩
 case round =>
  obtain ⟨k,hk,rfl,hw⟩:=hrel
  subst hw
  have HKL:=hJ_ (c9a (L:=L) (t:=t) (n:=k) HT.out.1)
  obtain ⟨p,hp⟩:∃ p,p = k * t:=⟨_,rfl⟩
  have qp:(k:Int) * (t:Int) = (p:Int):=by rw [hp];rfl
  have HP:=hJ_ hp
  have qp2:(p:Int) ≤ 255000:=by
   have:p ≤ 1000 * 255:=by rw [hp];exact Nat.mul_le_mul (by have:=HN2.out;omega) HT.out.2
   omega
  clear hp
  by_cases hlt:p < L
  ·have q1:(p:Int) < (L:Int):=by omega
   have hkn:k < n:=by
    rcases Nat.lt_or_ge k n with h | h
    ·exact h
    ·have:=HKL.out.1 (by rw [← HN.out];exact h);rw [← HP.out] at this;omega
   clear hlt
   go_wp2
   go_roundw
   case rel => exact ⟨k + 1,by omega,by go_num,by trivial⟩
   case measure => simp [intOf];omega
  ·have q1:¬ (p:Int) < (L:Int):=by omega
   obtain rfl:n = k:=by
    have h:=HKL.out.2 (by rw [← HP.out];omega)
    rw [← HN.out] at h;omega
   clear hlt hk HKL
   obtain ⟨G,hG⟩:∃ G,G = wr.heap.size:=⟨_,rfl⟩
   have HG:=hJ_ hG
   have hO0:Hid ((wr.alloc (.cells (madeCells #[Value.slice none 0 0] t) 22)).ownsRow G 22 1 (.slice (some ⟨G,0,none⟩) t t) t (([]:List Value) ++ List.replicate (t - 0) (.slice none 0 0))):=by
    rw [hG];exact hJ_ (b7g (w:=wr) (n:=t) (by unfold maxLen;have:=HT.out;omega))
   have hB0:Hid (Below G wr (wr.alloc (.cells (madeCells #[Value.slice none 0 0] t) 22))):=by rw [hG];exact hJ_ ((Below.refl _ _).alloc (Nat.le_refl _) _)
   have hw0:Hid (RV (wr.alloc (.cells (madeCells #[Value.slice none 0 0] t) 22)) (fun b => G < b) [] ((a6u B t n).take 0)):=hJ_ (RV.nil _ _)
   go_upto_region 6 with fail
   rw [← hG]
   clear hG hmk
   go_loopw [22] (fun s V => ∃ (i:Nat) (vs:List Value),i ≤ t ∧ s = .int .i64 (i:Nat) ∧ Hid (vs.length = i) ∧ Hid (V.ownsRow G 22 1 (.slice (some ⟨G,0,none⟩) t t) t (vs ++ List.replicate (t - i) (.slice none 0 0))) ∧ Hid (RV V (fun b => G < b) vs ((a6u B t n).take i)) ∧ Hid (Below G wr V)) (fun s _ => t - (intOf s).toNat)
   case atStart => exact ⟨0,[],by omega,rfl,hJ_ rfl,hO0,hw0,hB0⟩
   case round =>
    obtain ⟨i,vs,hi,rfl,HVL,HO,HV,HBV⟩:=hrel
    rename World => V
    by_cases hlt:i < t
    ·have qi:(i:Int) < (t:Int):=by omega
     have qi0:(0:Int) ≤ (i:Int):=by omega
     obtain ⟨lo,hlo⟩:∃ lo,lo = i * n:=⟨_,rfl⟩
     have qlo:(i:Int) * (n:Int) = (lo:Int):=by rw [hlo];rfl
     have qlo2:(lo:Int) ≤ 255000:=by
      have:lo ≤ 255 * 1000:=by rw [hlo];exact Nat.mul_le_mul (by have:=HT.out.2;omega) HN2.out
      omega
     have HLO:=hJ_ hlo
     have HI1:=hJ_ hlt
     have HGV:=hJ_ (HO.out.lt G rfl).2
     have HO1:Hid (V.ownsRow G 22 1 (.slice (some ⟨G,0,none⟩) t t) t (vs ++ .slice none 0 0 :: List.replicate (t - (i + 1)) (.slice none 0 0))):=by
      have h:=HO.out;rw [c7q _ hlt] at h;exact hJ_ h
     clear hlo hlt hi HO hO0 hB0 hw0
     go_upto_region 9 with fail
     go_loopw [8] (fun s U => ∃ (k c:Nat) (a:Option Addr),k ≤ n ∧ s = .int .i64 (k:Nat) ∧ Hid (U.ownsRow G 22 1 (.slice (some ⟨G,0,none⟩) t t) t (vs ++ .slice a k c :: List.replicate (t - (i + 1)) (.slice none 0 0))) ∧ Hid (U.ownsRow V.heap.size 5 1 (.slice a k c) k ((iL (a5e B n i k)).map (Value.int .u8))) ∧ Hid (a7f V.heap.size G V U) ∧ Hid (Below G V U)) (fun s _ => n - (intOf s).toNat)
     case atStart => exact ⟨0,0,none,by omega,rfl,HO1,hJ_ (d0g _ _ _),hJ_ (a7f.refl _ _ _),hJ_ (Below.refl _ _)⟩
     case round =>
      obtain ⟨k,c,a,hk,rfl,UO,UR,UK,UB⟩:=hrel
      rename World => U
      by_cases hlt:k < n
      ·have qk:(k:Int) < (n:Int):=by omega
       have qk0:(0:Int) ≤ (k:Int):=by omega
       obtain ⟨idx,hidx⟩:∃ idx,idx = lo + k:=⟨_,rfl⟩
       have qx:(lo:Int) + (k:Int) = (idx:Int):=by rw [hidx];rfl
       have qx0:(0:Int) ≤ (idx:Int):=by omega
       have hcl:=UO.out.cellAt i (by have:=HI1.out;omega)
       have hfz:=UO.out.frozenAt i
       rw [List.getElem?_append_right (by rw [HVL.out];exact Nat.le_refl _),HVL.out,Nat.sub_self,List.getElem?_cons_zero] at hcl
       have hGU:=(UO.out.lt G rfl).2
       have hGV:G < V.heap.size:=HGV.out
       obtain ⟨v,hv⟩:∃ v,v = co B idx:=⟨_,rfl⟩
       have HCN:=hJ_ (show a5e B n i (k + 1) = a5e B n i k ++ [v] by rw [c6h,hv,hidx,HLO.out])
       have HKN:=hJ_ hlt
       have HUS:=hJ_ UK.out.1
       have hbnd:k ≤ c ∧ c ≤ 9223372036854775807:=by
        rcases UR.out.2 with ⟨e,h0⟩ | ⟨g,c',cur,e,_,_,h4,h5,_⟩
        ·cases e;omega
        ·cases e;exact ⟨h4,by unfold maxLen at h5;omega⟩
       have hBU:=HB.out.on (show Below wr.heap.size wr U by rw [← HG.out];exact HBV.out.trans UB.out)
       clear hk
       by_cases hin:idx < L
       ·obtain ⟨bb,ob,rfl,hbb,hcb⟩:=hBU.at_ hin
        rw [← hv] at hcb
        have q9:(idx:Int) < (L:Int):=by omega
        clear hin hidx hv hlt hbb hBU
        go_wp2_with ((with_reducible show wpList _ _ _ (⟨some 54,_,_,_,_,_⟩ :: _) _ _);go_loud (refine a1a rfl (.tmp 51) (.tmp 53) 22 rfl V.heap.size 5 i5 Tryz.underlying22 HI.out.1 HI.out.2.1 HI.out.2.2.1 HI.out.2.2.2 (.slice a k c) k (a5e B n i k) rfl UR.out v 5 rfl (by have:=HKN.out;have:=HN2.out;omega) HUS.out ?_;intro g5 c5 w5 ho5 hb5);have hO5:=a7a UO.out hb5 hGV;have hcl5:=hO5.cellAt i (by have:=HI1.out;omega);rw [List.getElem?_append_right (by rw [HVL.out];exact Nat.le_refl _),HVL.out,Nat.sub_self,List.getElem?_cons_zero] at hcl5;have hfz5:=hO5.frozenAt i;have HO5:=hJ_ hO5;have HR5:=hJ_ ho5;have HB5:=hJ_ hb5;clear hO5 ho5 hb5)
        have hst:=(HO5.out.stored i (.slice (some ⟨g5,0,none⟩) (k + 1) c5)).1
        rw [set_mid _ _ _ HVL.out] at hst
        have HST:=hJ_ hst
        have hg5:=(HR5.out.lt g5 rfl).1
        have hrr:=HR5.out.kept (a2u w5 G i (.slice (some ⟨g5,0,none⟩) (k + 1) c5)) (.inr (by simp [Value.ownBlock];omega))
        rw [← HCN.out] at hrr
        have HRR:=hJ_ hrr
        have HKK:=hJ_ ((UK.out.below HB5.out).set i (.slice (some ⟨g5,0,none⟩) (k + 1) c5))
        have HBB:=hJ_ ((UB.out.trans (HB5.out.mono (Nat.le_of_lt hGV))).setCell (p:=⟨G,i,none⟩) (Nat.le_refl _) (.slice (some ⟨g5,0,none⟩) (k + 1) c5))
        clear hst hrr hcl5 hfz5 hg5
        go_roundw
        case rel => exact ⟨k + 1,c5,_,HKN.out,by go_num,HST,HRR,HKK,HBB⟩
        case measure => simp [intOf];have:=HKN.out;omega
       ·have q9:¬ (idx:Int) < (L:Int):=by omega
        have hv0:v = 0:=by rw [hv,a0w (by rw [HBL.out];omega)]
        subst hv0
        clear hin hidx hv hlt hBU
        go_wp2_with ((with_reducible show wpList _ _ _ (⟨some 54,_,_,_,_,_⟩ :: _) _ _);go_loud (refine a1a rfl (.tmp 51) (.tmp 53) 22 rfl V.heap.size 5 i5 Tryz.underlying22 HI.out.1 HI.out.2.1 HI.out.2.2.1 HI.out.2.2.2 (.slice a k c) k (a5e B n i k) rfl UR.out 0 5 rfl (by have:=HKN.out;have:=HN2.out;omega) HUS.out ?_;intro g5 c5 w5 ho5 hb5);have hO5:=a7a UO.out hb5 hGV;have hcl5:=hO5.cellAt i (by have:=HI1.out;omega);rw [List.getElem?_append_right (by rw [HVL.out];exact Nat.le_refl _),HVL.out,Nat.sub_self,List.getElem?_cons_zero] at hcl5;have hfz5:=hO5.frozenAt i;have HO5:=hJ_ hO5;have HR5:=hJ_ ho5;have HB5:=hJ_ hb5;clear hO5 ho5 hb5)
        have hst:=(HO5.out.stored i (.slice (some ⟨g5,0,none⟩) (k + 1) c5)).1
        rw [set_mid _ _ _ HVL.out] at hst
        have HST:=hJ_ hst
        have hg5:=(HR5.out.lt g5 rfl).1
        have hrr:=HR5.out.kept (a2u w5 G i (.slice (some ⟨g5,0,none⟩) (k + 1) c5)) (.inr (by simp [Value.ownBlock];omega))
        rw [← HCN.out] at hrr
        have HRR:=hJ_ hrr
        have HKK:=hJ_ ((UK.out.below HB5.out).set i (.slice (some ⟨g5,0,none⟩) (k + 1) c5))
        have HBB:=hJ_ ((UB.out.trans (HB5.out.mono (Nat.le_of_lt hGV))).setCell (p:=⟨G,i,none⟩) (Nat.le_refl _) (.slice (some ⟨g5,0,none⟩) (k + 1) c5))
        clear hst hrr hcl5 hfz5 hg5
        go_roundw
        case rel => exact ⟨k + 1,c5,_,HKN.out,by go_num,HST,HRR,HKK,HBB⟩
        case measure => simp [intOf];have:=HKN.out;omega
      ·obtain rfl:n = k:=by omega
       clear hk hlt
       obtain ⟨a9,c9,e9,hp9,hlo9⟩:=Pa.own UR.out
       cases e9
       have hrv:RV U (fun b => G < b) vs ((a6u B t n).take i):=HV.out.keep UK.out.1 (fun b h1 h2 => ⟨h2,UK.out.2 b h1 (by omega)⟩)
       have hmo:=hrv.more (P:=a5e B n i n) (a:=a) (c:=c) (by rw [a0i];exact hp9) (fun bb off e _ => by have:=(hlo9 bb off e).1;have:=HGV.out;omega)
       rw [a0i,← a3m HI1.out] at hmo
       have HMO:=hJ_ hmo
       have hoo:=UO.out
       rw [show vs ++ Value.slice a n c :: List.replicate (t - (i + 1)) (.slice none 0 0) = (vs ++ [.slice a n c]) ++ List.replicate (t - (i + 1)) (.slice none 0 0) by simp] at hoo
       have HOO:=hJ_ hoo
       have HVV:=hJ_ (show (vs ++ [Value.slice a n c]).length = i + 1 by rw [List.length_append,HVL.out];rfl)
       have HBB:=hJ_ (HBV.out.trans UB.out)
       clear hrv hmo hoo hp9 hlo9
       go_wp2
       go_roundw
       case rel => exact ⟨i + 1,_,by have:=HI1.out;omega,by go_num,HVV,HOO,HMO,HBB⟩
       case measure => simp [intOf];have:=HI1.out;omega
    ·obtain rfl:t = i:=by omega
     have ho:=HO.out
     have hv:=HV.out
     rw [Nat.sub_self,List.replicate_zero,List.append_nil] at ho
     rw [List.take_of_length_le (by rw [c0z];exact Nat.le_refl _)] at hv
     obtain ⟨a9,c9,e9,hm9⟩:=Mat.own ho hv
     cases e9
     have HM9:=hJ_ hm9
     have HBF:Hid (Below wr.heap.size wr V):=by rw [← HG.out];exact HBV
     clear ho hv hm9
     go_wp2
     go_ret
     exact ⟨G,rfl,HM9.out,HBF.out⟩
theorem c3f {L t:Nat} (ht:1 ≤ t):ceil L t = L / t + (if 1 < L % t then 1 else L % t):=by
 have h1:=Nat.div_add_mod L t
 have h2:=Nat.mod_lt L (show 0 < t by omega)
 generalize L / t = Q at *
 generalize L % t = M at *
 unfold ceil
 by_cases h0:M = 0
 ·subst h0
  rw [if_neg (by omega)]
  rw [← h1,Nat.add_zero,show t * Q + t - 1 = t * Q + (t - 1) by omega,Nat.mul_add_div (by omega),Nat.div_eq_of_lt (by omega)]
 ·have e:(if 1 < M then 1 else M) = 1:=by split <;> omega
  rw [e,← h1,show t * Q + M + t - 1 = t * (Q + 1) + (M - 1) by rw [Nat.mul_add,Nat.mul_one];omega,Nat.mul_add_div (by omega),Nat.div_eq_of_lt (by omega)]
set_option maxHeartbeats 1000000 in
theorem e7n:e9e:=by
 intro L t w ht ht2 hL
 have HP:=hJ_ (b9o (t:Int) w (by omega) (by omega))
 have HE:=hJ_ (c3f (L:=L) ht)
 have e1:(L:Int).tdiv (t:Int) = ((L / t:Nat):Int):=by rw [Int.tdiv_eq_ediv_of_nonneg (by omega)];rfl
 have e2:(L:Int).tmod (t:Int) = ((L % t:Nat):Int):=by rw [Int.tmod_eq_emod_of_nonneg (by omega)];rfl
 have e3:(L:Int) / (t:Int) = ((L / t:Nat):Int):=rfl
 have e4:(L:Int) % (t:Int) = ((L % t:Nat):Int):=rfl
 have hq:L / t ≤ L:=Nat.div_le_self _ _
 have hm:L % t < t:=Nat.mod_lt _ (by omega)
 obtain ⟨Q,hQ⟩:∃ Q,Q = L / t:=⟨_,rfl⟩
 obtain ⟨M,hM⟩:∃ M,M = L % t:=⟨_,rfl⟩
 rw [← hQ] at e1 e3 hq HE
 rw [← hM] at e2 e4 hm HE
 clear hQ hM
 have k1:(L:Int) ≤ 1000:=by omega
 have k2:(t:Int) ≤ 255:=by omega
 have k3:(Q:Int) ≤ 1000:=by omega
 have k4:(M:Int) ≤ 255:=by omega
 have k5:((t:Int) == 0) = false:=by rw [beq_eq_false_iff_ne];omega
 have k6:¬ (t:Int) = 0:=by omega
 have k7:¬ t = 0:=by omega
 by_cases h:1 < M
 ·have k8:(1:Int) < (M:Int):=by omega
  rw [if_pos h] at HE
  clear h ht ht2 hL hq hm
  go_enter Tryz.func35,Tryz.ntmps35
  go_upto_region 3 with (go_at_call 64;refine HP.out.mono ?_;rintro e w' ⟨rfl,rfl⟩)
  go_quiet (fail)
  go_wp2
  go_ret
  exact ⟨by rw [HE.out];rfl,_,rfl⟩
 ·have k8:¬ (1:Int) < (M:Int):=by omega
  rw [if_neg h] at HE
  clear h ht ht2 hL hq hm
  go_enter Tryz.func35,Tryz.ntmps35
  go_upto_region 3 with (go_at_call 64;refine HP.out.mono ?_;rintro e w' ⟨rfl,rfl⟩)
  go_quiet (fail)
  go_wp2
  go_ret
  exact ⟨by rw [HE.out];rfl,_,rfl⟩
section
attribute [local go_sem] Oper.semAt_some
theorem Pa.noncell {w w':World} {a:Option Addr} {L c:Nat} {P:List GF} {row:Option Nat} (h:Pa w a L c P) (hg:w.grownBy w' row) (hr:∀ r,row = some r → ∃ o:Obj,w.heap[r]? = some o ∧ o.isCells = false):Pa w' a L c P:=
 ⟨⟨h.1.1,h.1.2.1,fun h0 => by
  obtain ⟨b,off,e,hb,hc⟩:=h.1.2.2.1 h0
  exact ⟨b,off,e,Nat.lt_of_lt_of_le hb hg.size,fun i hi => cell_kept (hc i hi) hg hr⟩,h.1.2.2.2⟩,h.2⟩
theorem KeepsOthers.ofBelow {w w':World} (h:Below w.heap.size w w'):KeepsOthers w w':=
 ⟨h.size,fun k o hk _ => (h.block k (Array.getElem?_eq_some_iff.1 hk).1).trans hk⟩
theorem Mat.slices {w:World} {a:Option Addr} {n c:Nat} {M:List (List GF)} (h:Mat w a n c M):∃ (A:Nat → Option Addr) (C:Nat → Nat),(∀ j,j < n → ∃ b off,a = some ⟨b,off,none⟩ ∧ b < w.heap.size ∧ w.cell? ⟨b,off + j,none⟩ = some (.slice (A j) (rw_ M j).length (C j))) ∧ ∀ j,j < n → Pa w (A j) (rw_ M j).length (C j) (rw_ M j):=by
 have key:∀ j,∃ (x:Option Addr × Nat),j < n → (∃ b off,a = some ⟨b,off,none⟩ ∧ b < w.heap.size ∧ w.cell? ⟨b,off + j,none⟩ = some (.slice x.1 (rw_ M j).length x.2)) ∧ Pa w x.1 (rw_ M j).length x.2 (rw_ M j):=fun j => by
  by_cases hj:j < n
  ·obtain ⟨b,off,ai,ci,e,hb,hc,hp⟩:=h.row hj
   exact ⟨(ai,ci),fun _ => ⟨⟨b,off,e,hb,hc⟩,hp⟩⟩
  ·exact ⟨(none,0),fun h => absurd h hj⟩
 obtain ⟨f,hf⟩:=Classical.axiomOfChoice key
 exact ⟨fun j => (f j).1,fun j => (f j).2,fun j hj => (hf j hj).1,fun j hj => (hf j hj).2⟩
set_option maxHeartbeats 4000000 in
theorem b7h (b T n:Nat) (aR:Option Addr) (cR:Nat) (R:List (List GF)) (x:GF) (w:World) (hf:Fld w b) (hR:Mat w aR T cR R) (hw:∀ k,k < T → (rw_ R k).length = n) (hT:1 ≤ T) (hT2:T ≤ 255) (hn:n ≤ 1000) :
 Calls Tryz.prog 51 #[.pointer (some ⟨b,0,none⟩),.slice aR T cR,.int .u8 (toI x)] w fun e w' => ∃ a' c',e = .returned (.slice a' n c') ∧ Pa w' a' n c' (b0f R T n x) ∧ (∀ bb off,a' = some ⟨bb,off,none⟩ → w.heap.size ≤ bb) ∧ Below w.heap.size w w':=by
 obtain ⟨A,C,hA,hP⟩:=hR.slices
 have hA2:∀ j,j < T → ∃ b off,aR = some ⟨b,off,none⟩ ∧ b < w.heap.size ∧ w.cell? ⟨b,off + j,none⟩ = some (.slice (A j) n (C j)):=fun j hj => by
  obtain ⟨b,off,e,hb,hc⟩:=hA j hj;rw [hw j hj] at hc;exact ⟨b,off,e,hb,hc⟩
 have hP2:∀ j,j < T → Pa w (A j) n (C j) (rw_ R j):=fun j hj => by
  have h:=hP j hj;rw [hw j hj] at h;exact h
 have HA:=hJ_ hA2
 have HP:=hJ_ hP2
 have HW:=hJ_ hw
 have HF:=hJ_ hf
 have HB:=hJ_ hR.bd
 have HT:=hJ_ (And.intro hT hT2)
 have HN:=hJ_ hn
 clear hA hP hA2 hP2 hf hR hw hT hn
 refine (callsIn_wide (n:=3)).1 ?_
 refine callsIn_of_wp_marks Tryz.func51 rfl trivial ?_ rfl
 simp only [Tryz.ntmps51,List.size_toArray,List.length_cons,List.length_nil,Nat.reduceAdd,Nat.reduceSub,Array.replicate_succ,Array.replicate_zero,List.push_toArray,List.append_toArray,List.nil_append,List.cons_append]
 gi_wp2_with (refine ⟨trivial,?_⟩;gi_at_call 80;refine (callsIn_wide.2 (b7f _ _ _ _)).mono ?_;rintro e w' ⟨rfl,rfl⟩)
 obtain ⟨V1,hV1⟩:∃ V,V = w.alloc (.cells #[.pointer (some ⟨b,0,none⟩)] 32):=⟨_,rfl⟩
 obtain ⟨V2,hV2⟩:∃ V,V = V1.alloc (.cells #[.int .u8 (toI x)] 5):=⟨_,rfl⟩
 obtain ⟨V3,hV3⟩:∃ V,V = V2.alloc (.cells #[] 5):=⟨_,rfl⟩
 obtain ⟨V4,hV4⟩:∃ V,V = V3.alloc (.cells #[.slice (some ⟨w.heap.size + 1 + 1,0,none⟩) 0 0] 22):=⟨_,rfl⟩
 obtain ⟨V5,hV5⟩:∃ V,V = V4.alloc (.cells #[.slice aR T cR] 28):=⟨_,rfl⟩
 have s1:V1.heap.size = w.heap.size + 1:=by rw [hV1];simp
 have s2:V2.heap.size = w.heap.size + 1 + 1:=by rw [hV2];simp [s1]
 have s3:V3.heap.size = w.heap.size + 1 + 1 + 1:=by rw [hV3];simp [s2]
 have s4:V4.heap.size = w.heap.size + 1 + 1 + 1 + 1:=by rw [hV4];simp [s3]
 have s5:V5.heap.size = w.heap.size + 1 + 1 + 1 + 1 + 1:=by rw [hV5];simp [s4]
 have B1:Below w.heap.size w V1:=by rw [hV1];exact (Below.refl _ _).alloc (Nat.le_refl _) _
 have B2:Below w.heap.size w V2:=by rw [hV2];exact B1.alloc (by omega) _
 have B3:Below w.heap.size w V3:=by rw [hV3];exact B2.alloc (by omega) _
 have B4:Below w.heap.size w V4:=by rw [hV4];exact B3.alloc (by omega) _
 have B5:Below w.heap.size w V5:=by rw [hV5];exact B4.alloc (by omega) _
 have c0:Boxed V5 w.heap.size 32 (.pointer (some ⟨b,0,none⟩)):=by rw [hV5,hV4,hV3,hV2,hV1];exact ((((Boxed.new w _ _).alloc _).alloc _).alloc _).alloc _
 have c1:Boxed V5 (w.heap.size + 1) 5 (.int .u8 (toI x)):=by rw [← s1,hV5,hV4,hV3,hV2];exact (((Boxed.new V1 _ _).alloc _).alloc _).alloc _
 have c3:Boxed V5 (w.heap.size + 1 + 1 + 1) 22 (.slice (some ⟨w.heap.size + 1 + 1,0,none⟩) 0 0):=by rw [← s3,hV5,hV4];exact (Boxed.new V3 _ _).alloc _
 have c4:Boxed V5 (w.heap.size + 1 + 1 + 1 + 1) 28 (.slice aR T cR):=by rw [← s4,hV5];exact Boxed.new V4 _ _
 rw [← hV1,← hV2,← hV3,← hV4,← hV5]
 have HB5:=hJ_ B5
 have HS5:=hJ_ s5
 have C0:=hJ_ c0;have C1:=hJ_ c1;have C3:=hJ_ c3;have C4:=hJ_ c4
 clear hV1 hV2 hV3 hV4 hV5 s1 s2 s3 s4 s5 B1 B2 B3 B4 B5 c0 c1 c3 c4
 obtain ⟨s,hs⟩:∃ s,s = w.heap.size:=⟨_,rfl⟩
 rw [← hs] at HB5 HS5 C0 C1 C3 C4 ⊢
 have Hs:=hJ_ hs
 clear hs
 have HRD:Hid (RdR (s + 1 + 1 + 1 + 1) T aR cR A (fun _ => n) C V5):=hJ_ ⟨C4.out.cell,fun j hj => by
  obtain ⟨b',off,e,hb,hc⟩:=HA.out j hj
  exact ⟨b',off,e,(HB5.out.cell (p:=⟨b',off + j,none⟩) (by rw [Hs.out];exact hb)).trans hc⟩⟩
 have hle:T ≤ 140737488355328:=by have:=HT.out.2;omega
 refine wpIn_rangeFunc_ownF rfl (by omega) (gf:=102) (lb:=#[.pointer (some ⟨s + 1 + 1 + 1 + 1,0,none⟩)]) rfl trivial (enters_of Tryz.func102 (by kernel_rfl) rfl)
  (b1z Fence.wide (3 - 1) trivial rfl (by omega) (s + 1 + 1 + 1 + 1) T cR aR A (fun _ => n) C hle V5 (by rw [HS5.out];omega) HRD.out (fun h0 bb off e => by
   obtain ⟨b',off',e',hb,hc⟩:=HA.out 0 h0
   rw [e] at e';cases e';rw [HS5.out,Hs.out];omega)) (fun h k r => k (h r)) (fun W l o o' _ hl ho _ r => r.put o' hl ho) (Below.refl _ _) (fun _ => by rfl)
  (fun pre W => ((W.cell? ⟨s,0,none⟩ = some (.pointer (some ⟨b,0,none⟩)) ∧ W.cell? ⟨s + 1,0,none⟩ = some (.int .u8 (toI x)) ∧ (∃ ao co',W.cell? ⟨s + 1 + 1 + 1,0,none⟩ = some (.slice ao (hrR R x pre).length co') ∧ Pa W ao (hrR R x pre).length co' (hrR R x pre) ∧ ∀ bb off,ao = some ⟨bb,off,none⟩ → s ≤ bb) ∧ W.frozen? ⟨s + 1 + 1 + 1,0,none⟩ = false) ∧ V5.heap.size ≤ W.heap.size) ∧ Below s w W)
  (fun _ _ _ => False)
  (OwnFrom.and (Own.from (fun t A B row hs hg hr => ⟨⟨cell_kept hs.1.1 hg hr,cell_kept hs.1.2.1 hg hr,(by obtain ⟨ao,co',h1,h2⟩:=hs.1.2.2.1;exact ⟨ao,co',cell_kept h1 hg hr,h2.1.noncell hg hr,h2.2⟩),(by obtain ⟨ao,co',h1,h2⟩:=hs.1.2.2.1;exact (frozen_kept h1 hg hr).trans hs.1.2.2.2)⟩,Nat.le_trans hs.2 hg.size⟩) _) (ownFrom_below (by rw [Hs.out];exact Nat.le_refl _) (by rw [HS5.out];omega)))
  (fun _ _ _ _ _ hs _ _ => hs)
  ⟨⟨⟨C0.out.cell,C1.out.cell,⟨_,_,C3.out.cell,⟨⟨rfl,a1e _,Bs.nil _ _ _,Nat.le_refl _,Nat.zero_le _⟩,fun e => by cases e⟩,fun bb off e => by cases e;omega⟩,C3.out.frozen⟩,Nat.le_refl _⟩,HB5.out⟩
  (fun y => { tmps:=#[.pointer (some ⟨b,0,none⟩),.slice aR T cR,.int .u8 (toI x),.pointer (some ⟨s,0,none⟩),undef,.pointer (some ⟨s + 1,0,none⟩),.slice none 0 0,.pointer (some ⟨s + 1 + 1 + 1,0,none⟩),undef,.slice (A y.1) n (C y.1),.slice (some ⟨s + 1 + 1,0,none⟩) 0 0,.slice aR T cR,.func (.func 102) #[] #[.pointer (some ⟨s + 1 + 1 + 1 + 1,0,none⟩)],.int .i64 ((y.1:Nat):Int),.slice (A y.1) n (C y.1),undef,undef,undef,undef,undef,undef],defers:=[] }) ?assign ?body ?done ?stop
 case assign =>
  intro l y W K hK
  dsimp only [e4a]
  gi_wp2
  exact hK
 case body =>
  rintro l pre y W ⟨⟨⟨h1,h2,⟨ao,co',h3,h4,hnw⟩,h5⟩,h6⟩,hB⟩ _
  obtain ⟨j,hj⟩:=y
  have hfw:=HF.out.below (show Below w.heap.size w W by rw [← Hs.out];exact hB)
  have hpw:=(HP.out j hj).on (show Below w.heap.size w W by rw [← Hs.out];exact hB)
  obtain ⟨o,ho⟩:∃ o,o = hrR R x pre:=⟨_,rfl⟩
  have HO:=hJ_ (a9y R x pre (⟨j,hj⟩:Fin T))
  rw [← ho] at h3 h4 HO
  have HSU:=hJ_ (b0g b (toI x) _ _ _ (iL (rw_ R j)) _ _ _ (iL o) W hfw (a2d x) hpw.1 h4.1 (by have:=HN.out;omega))
  rw [b9z] at HSU
  have H1:=hJ_ h1;have H2:=hJ_ h2;have H3:=hJ_ h3;have H5:=hJ_ h5;have H6:=hJ_ h6;have HBB:=hJ_ hB
  have HRL:=hJ_ (HW.out j hj)
  clear hfw hpw h4 hB h6 ho
  dsimp only
  gi_wp2_with (refine ⟨trivial,?_⟩;gi_at_call 81;refine (CallsIn.inRound l (callsIn_wide.2 HSU.out)).mono ?_;rintro e W1 ⟨g,rfl,hown,hb1⟩;have HO1:=hJ_ hown;have HB1:=hJ_ hb1;have k3:=cell_of_heap h3 (hb1.block (s + 1 + 1 + 1) (by have:=H6.out;rw [HS5.out] at this;omega));have k5:W1.frozen? ⟨s + 1 + 1 + 1,0,none⟩ = false:=(hb1.frozen (p:=⟨s + 1 + 1 + 1,0,none⟩) (by have:=H6.out;rw [HS5.out] at this;show s + 1 + 1 + 1 < _;omega)).trans h5;clear hown hb1)
  have hle5:s + 1 + 1 + 1 + 1 + 1 ≤ W.heap.size:=by have:=H6.out;rw [HS5.out] at this;exact this
  have hW1:=HB1.out.size
  have hgl:=HO1.out.lt g rfl
  have hbk:∀ k,k < W.heap.size → k ≠ s + 1 + 1 + 1 → (W1.setCell ⟨s + 1 + 1 + 1,0,none⟩ (.slice (some ⟨g,0,none⟩) n n)).heap[k]? = W.heap[k]?:=fun k h1 h2 => by
   rw [Below.heap_setCell _ _ _ _ h2];exact HB1.out.block k h1
  have hp9:Pa (W1.setCell ⟨s + 1 + 1 + 1,0,none⟩ (.slice (some ⟨g,0,none⟩) n n)) (some ⟨g,0,none⟩) n n (c3q (rw_ R j) x o):=
   (Pa.own2 HO1.out).but (a2u _ _ _ _) (fun b off e => by cases e;omega)
  have hl9:(hrR R x (pre ++ [(⟨j,hj⟩:Fin T)])).length = n:=by rw [HO.out,a3t];exact HRL.out
  refine ⟨(KeepsOthers.ofBelow HB1.out).trans (KeepsOthers.setCell _ _ _),fun r => ⟨cell_of_heap r.1 (hbk _ (by show s + 1 + 1 + 1 + 1 < _;omega) (by show s + 1 + 1 + 1 + 1 ≠ _;omega)),fun i hi => ?_⟩,⟨⟨cell_of_heap H1.out (hbk _ (by show s < _;omega) (by show s ≠ _;omega)),cell_of_heap H2.out (hbk _ (by show s + 1 < _;omega) (by show s + 1 ≠ _;omega)),⟨some ⟨g,0,none⟩,n,?_,?_,fun bb off e => by cases e;omega⟩,?_⟩,?_⟩,?_⟩
  ·obtain ⟨b',off,e,hc⟩:=r.2 i hi
   obtain ⟨b2,off2,e2,hb2,_⟩:=HA.out i hi
   rw [e] at e2;cases e2
   have:=Hs.out
   exact ⟨b',off,e,cell_of_heap hc (hbk _ (by show b' < _;omega) (by show b' ≠ _;omega))⟩
  ·rw [hl9];exact World.cell?_setCell_same' _ _ _ (by rw [k3];rfl)
  ·rw [hl9,HO.out];exact hp9
  ·rw [World.frozen?_setCell];exact k5
  ·exact Nat.le_trans H6.out (Nat.le_trans hW1 (by simp))
  ·exact (HBB.out.trans (HB1.out.mono (by omega))).setCell (p:=⟨s + 1 + 1 + 1,0,none⟩) (by show s ≤ s + 1 + 1 + 1;omega) _
 case done =>
  rintro D ys W hD ⟨hys,hbk⟩ ⟨⟨⟨h1,h2,⟨ao,co',h3,h4,hnw⟩,h5⟩,h6⟩,hB⟩ hK
  have he:=c5k (x:=x) HW.out hys hbk HT.out.1
  have hl:(hrR R x ys).length = n:=b9e R x T n HW.out ys (by rw [hys];exact HT.out.1)
  rw [hl] at h3 h4
  rw [he] at h4
  have H4:=hJ_ h4
  have HBB:=hJ_ hB
  clear h4 hB he hl
  gi_wp2
  refine ⟨by simp,.inl ⟨_,_,rfl,run_takeDeferred hK,?_⟩⟩
  have hkb:=belowK_b (w:=V5) (n₀:=s) (by rw [HS5.out];omega) W D _ (.deferred none) hD hK rfl rfl
  refine ⟨_,results_tmp rfl _ _ _,ao,co',rfl,H4.out.noncell (grownBy_putObj' W D (.deferred none)) (fun r e => by cases e;exact ⟨_,hK,rfl⟩),by rw [← Hs.out];exact hnw,by rw [← Hs.out];exact HBB.out.trans hkb⟩
 case stop =>
  rintro D c pre W _ _ h _
  exact h.elim
end
end Go.Proofs.YtappfdbmhgifcaaGreatDoor
