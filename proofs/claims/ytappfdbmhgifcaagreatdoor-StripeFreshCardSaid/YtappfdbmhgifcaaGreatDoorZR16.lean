/- Texts of mine, one behind the other: Hb Rj QJ2 Ja. -/
import Derived.Test.YtappfdbmhgifcaaGreatDoorZR15
set_option linter.unusedVariables false
set_option linter.unusedSimpArgs false
set_option maxRecDepth 100000
namespace Go.Proofs.YtappfdbmhgifcaaGreatDoor
open Go.ChangeShapes Go.WideShapes Go.ChangeAt Go.RowKit Go.Shelf GF
def Bx (w:World) (b:Nat) (m t n c:Int):Prop:=w.heap[b]? = some (.cells #[.int .i64 m,.int .i64 t,.int .i64 n,.int .i64 c] 25 (0,0))
theorem Bx.lt {w:World} {b:Nat} {m t n c:Int} (h:Bx w b m t n c):b < w.heap.size:=by
 rcases Nat.lt_or_ge b w.heap.size with hlt | hge
 ·exact hlt
 ·unfold Bx at h;rw [Array.getElem?_eq_none hge] at h;cases h
theorem Bx.on {w w':World} {b:Nat} {m t n c:Int} (h:Bx w b m t n c) (hb:Below w.heap.size w w'):Bx w' b m t n c:=(hb.block b h.lt).trans h
theorem Bx.new (w:World) (m t n c:Int):Bx (w.alloc (.cells #[.int .i64 m,.int .i64 t,.int .i64 n,.int .i64 c] 25)) w.heap.size m t n c:=heap_alloc_new w _
theorem Bx.c0 {w:World} {b:Nat} {m t n c:Int} (h:Bx w b m t n c):w.cell? ⟨b,0,none⟩ = some (.int .i64 m):=by unfold Bx at h;simp [World.cell?,h]
theorem Bx.c1 {w:World} {b:Nat} {m t n c:Int} (h:Bx w b m t n c):w.cell? ⟨b,1,none⟩ = some (.int .i64 t):=by unfold Bx at h;simp [World.cell?,h]
theorem Bx.c2 {w:World} {b:Nat} {m t n c:Int} (h:Bx w b m t n c):w.cell? ⟨b,2,none⟩ = some (.int .i64 n):=by unfold Bx at h;simp [World.cell?,h]
theorem Bx.c3 {w:World} {b:Nat} {m t n c:Int} (h:Bx w b m t n c):w.cell? ⟨b,3,none⟩ = some (.int .i64 c):=by unfold Bx at h;simp [World.cell?,h]
theorem a8d (b:Nat) (m:Int) (t n c:Nat) (aR:Option Addr) (L cR:Nat) (w:World) (h:Sh m t n c) (hL:L ≤ cR ∧ cR ≤ 9223372036854775807) :
 Calls Tryz.prog 24 #[.agg #[.int .i64 m,.int .i64 t,.int .i64 n,.int .i64 c],.pointer (some ⟨b,0,none⟩),.slice aR L cR] w fun e w' => e = .returned (.int .i64 (if L = a4v m t then 0 else 3)) ∧ Below w.heap.size w w':=by
 have HA:=hJ_ (bxS w #[.int .i64 m,.int .i64 t,.int .i64 n,.int .i64 c] 25)
 have HX:=hJ_ (Bx.new w m t n c)
 have HR:=hJ_ (a4g m t n c (w.alloc (.cells #[.int .i64 m,.int .i64 t,.int .i64 n,.int .i64 c] 25)))
 rw [h.right] at HR
 have HN:=hJ_ (fun w => c0k m t n c w h)
 obtain ⟨V,hV⟩:∃ V,V = a4v m t:=⟨_,rfl⟩
 rw [← hV] at HN ⊢
 clear h hV
 by_cases hE:L = V
 ·subst hE
  rw [if_pos rfl]
  have q:((L:Int) != (L:Int)) = false:=by simp
  go_enter Tryz.func24,Tryz.ntmps24
  go_wp2_with (first
   | (go_at_call 22;go_loud (refine HR.out.mono ?_;rintro e w1 ⟨rfl,hb⟩;have HX1:=hJ_ (HX.out.on hb);have HB1:=hJ_ (bt HA.out hb);have x0:=HX1.out.c0;have x1:=HX1.out.c1;have x2:=HX1.out.c2;have x3:=HX1.out.c3;clear hb))
   | (go_at_call 23;go_loud (refine (HN.out _).mono ?_;rintro e w2 ⟨rfl,hb⟩;have HB2:=hJ_ (bt HB1.out hb);clear hb)))
  go_ret
  exact ⟨rfl,HB2.out⟩
 ·have q:((L:Int) != (V:Int)) = true:=by rw [bne_iff_ne];omega
  rw [if_neg hE]
  clear hE
  go_enter Tryz.func24,Tryz.ntmps24
  go_wp2_with (first
   | (go_at_call 22;go_loud (refine HR.out.mono ?_;rintro e w1 ⟨rfl,hb⟩;have HX1:=hJ_ (HX.out.on hb);have HB1:=hJ_ (bt HA.out hb);have x0:=HX1.out.c0;have x1:=HX1.out.c1;have x2:=HX1.out.c2;have x3:=HX1.out.c3;clear hb))
   | (go_at_call 23;go_loud (refine (HN.out _).mono ?_;rintro e w2 ⟨rfl,hb⟩;have HB2:=hJ_ (bt HB1.out hb);clear hb)))
  go_ret
  exact ⟨rfl,HB2.out⟩
def c1k (n p:Int):Bool:=decide (p < 1) || decide (n < p)
theorem c7k (m t n c p:Int) (w:World) :
 Calls Tryz.prog 38 #[.agg #[.int .i64 m,.int .i64 t,.int .i64 n,.int .i64 c],.int .i64 p] w fun e w' => e = .returned (.bool (c1k n p)) ∧ Below w.heap.size w w':=by
 have HA:=hJ_ (bxS w #[.int .i64 m,.int .i64 t,.int .i64 n,.int .i64 c] 25)
 by_cases h1:p < 1
 ·have HR:=hJ_ (show c1k n p = true by unfold c1k;simp [h1])
  go_enter Tryz.func38,Tryz.ntmps38
  go_wp2
  go_ret
  exact ⟨by rw [HR.out] <;> rfl,HA.out⟩
 ·by_cases h2:n < p
  ·have HR:=hJ_ (show c1k n p = true by unfold c1k;simp [h2])
   go_enter Tryz.func38,Tryz.ntmps38
   go_wp2
   go_ret
   exact ⟨by rw [HR.out] <;> rfl,HA.out⟩
  ·have HR:=hJ_ (show c1k n p = false by unfold c1k;simp [h1,h2])
   go_enter Tryz.func38,Tryz.ntmps38
   go_wp2
   go_ret
   exact ⟨by rw [HR.out] <;> rfl,HA.out⟩
theorem e7l (m t n c:Int) (aX:Option Addr) (N cX:Nat) (ps:List Int) (j:Nat) (w:World) (hX:IA w aX N cX ps) (hN:N ≤ 255) (hj:j ≤ N) (hz:∀ i,i < j → c1k n (ps.getD i 0) = false) (hn:j < N → c1k n (ps.getD j 0) = true) :
 Calls Tryz.prog 65 #[.slice aX N cX,.func (.func 38) #[.agg #[.int .i64 m,.int .i64 t,.int .i64 n,.int .i64 c]] #[]] w fun e w' => e = .returned (.int .i64 (if j < N then (j:Int) else -1)) ∧ Below w.heap.size w w':=by
 have HX:=hJ_ hX
 have HZ:=hJ_ hz
 have HN:=hJ_ hn
 have hbd:=hX.bd
 clear hX hz hn
 have HB0:=hJ_ (Below.refl w.heap.size w)
 go_enter Tryz.func65,Tryz.ntmps65
 go_wp2
 go_loopw [8] (fun k wr => ∃ i:Nat,i ≤ j ∧ i ≤ N ∧ k = .int .i64 (i:Nat) ∧ Hid (Below w.heap.size w wr)) (fun k _ => N - (intOf k).toNat)
 case atStart => exact ⟨0,Nat.zero_le _,Nat.zero_le _,rfl,HB0⟩
 case round =>
  obtain ⟨i,hi,hiL,rfl,hB⟩:=hrel
  rename World => w2
  by_cases hlt:i < N
  ·have qi:(i:Int) < (N:Int):=by omega
   have qi0:(0:Int) ≤ (i:Int):=by omega
   obtain ⟨b,off,rfl,hb,hcell⟩:=(HX.out.on hB.out).at_ hlt
   by_cases hij:i < j
   ·have HC:=hJ_ (c7k m t n c (ps.getD i 0) w2)
    rw [HZ.out i hij] at HC
    generalize ps.getD i 0 = z at hcell HC
    go_wp2_with (go_at_call 38;go_loud (refine HC.out.mono ?_;rintro e w3 ⟨rfl,hb3⟩;have HB3:=hJ_ (bt hB.out hb3);clear hb3))
    go_roundw
    case rel => exact ⟨i + 1,by omega,by omega,by go_num,HB3⟩
    case measure => simp [intOf];omega
   ·obtain rfl:j = i:=by omega
    have HC:=hJ_ (c7k m t n c (ps.getD j 0) w2)
    rw [HN.out hlt] at HC
    generalize ps.getD j 0 = z at hcell HC
    go_wp2_with (go_at_call 38;go_loud (refine HC.out.mono ?_;rintro e w3 ⟨rfl,hb3⟩;have HB3:=hJ_ (bt hB.out hb3);clear hb3))
    go_ret
    exact ⟨rfl,HB3.out⟩
  ·obtain rfl:N = i:=by omega
   have hjL:j = N:=by omega
   have hn0:¬ j < N:=by omega
   clear hjL
   go_wp2
   go_ret
   exact ⟨rfl,hB.out⟩
theorem c7r (n:Int) (ps:List Int) (N:Nat):∃ j,j ≤ N ∧ (∀ i,i < j → c1k n (ps.getD i 0) = false) ∧ (j < N → c1k n (ps.getD j 0) = true):=by
 induction N with
 | zero => exact ⟨0,Nat.le_refl _,fun i hi => absurd hi (by omega),fun h => absurd h (by omega)⟩
 | succ N ih =>
  obtain ⟨j,h1,h2,h3⟩:=ih
  by_cases h:j < N
  ·exact ⟨j,by omega,h2,fun _ => h3 h⟩
  ·obtain rfl:j = N:=by omega
   rcases h0:c1k n (ps.getD j 0) with _ | _
   ·exact ⟨j + 1,Nat.le_refl _,fun k hk => by
     rcases Nat.lt_succ_iff_lt_or_eq.1 hk with h4 | h4
     ·exact h2 k h4
     ·rw [h4];exact h0,fun h => absurd h (by omega)⟩
   ·exact ⟨j,by omega,h2,fun _ => h0⟩
theorem e4l (m t n c:Int) (aX:Option Addr) (N cX:Nat) (ps:List Int) (r:Bool) (w:World) (hX:IA w aX N cX ps) (hN:N ≤ 255) (hr:r = true ↔ ∃ i,i < N ∧ c1k n (ps.getD i 0) = true) :
 Calls Tryz.prog 37 #[.slice aX N cX,.func (.func 38) #[.agg #[.int .i64 m,.int .i64 t,.int .i64 n,.int .i64 c]] #[]] w fun e w' => e = .returned (.bool r) ∧ Below w.heap.size w w':=by
 obtain ⟨j,h1,h2,h3⟩:=c7r n ps N
 have HI:=e7l m t n c aX N cX ps j w hX hN h1 h2 h3
 have hbd:=hX.bd
 by_cases h:j < N
 ·rw [if_pos h] at HI
  have HH:=hJ_ HI
  have q:(0:Int) ≤ (j:Int):=by omega
  have Hr:=hJ_ (show r = true from hr.2 ⟨j,h,h3 h⟩)
  clear hX h2 h3 hr HI
  go_enter Tryz.func37,Tryz.ntmps37
  go_wp2_with (go_at_call 65;go_loud (refine HH.out.mono ?_;rintro e w1 ⟨rfl,hb⟩;have HB:=hJ_ hb;clear hb))
  go_ret
  exact ⟨by rw [Hr.out] <;> rfl,HB.out⟩
 ·rw [if_neg h] at HI
  have HH:=hJ_ HI
  have Hr:=hJ_ (show r = false from Bool.eq_false_iff.2 fun e => by obtain ⟨i,hi,h0⟩:=hr.1 e;rw [h2 i (by omega)] at h0;cases h0)
  clear hX h2 h3 hr HI
  go_enter Tryz.func37,Tryz.ntmps37
  go_wp2_with (go_at_call 65;go_loud (refine HH.out.mono ?_;rintro e w1 ⟨rfl,hb⟩;have HB:=hJ_ hb;clear hb))
  go_ret
  exact ⟨by rw [Hr.out] <;> rfl,HB.out⟩
theorem d4e (Bq:Nat) (m:Int) (t n c:Nat) (ai:Option Addr) (L ci:Nat) (w:World) (h:Sh m t n c) (hx:Bx w Bq m t n c) (hb:L ≤ ci ∧ ci ≤ 9223372036854775807) :
 Calls Tryz.prog 67 #[.slice ai L ci,.pointer (some ⟨Bq,0,none⟩)] w fun e w' => e = .returned (.bool (decide (L ≠ a4l m t))) ∧ Below w.heap.size w w':=by
 have HN:=hJ_ (c6c m t n c w h)
 obtain ⟨V,hV⟩:∃ V,V = a4l m t:=⟨_,rfl⟩
 rw [← hV] at HN ⊢
 have x0:=hx.c0;have x1:=hx.c1;have x2:=hx.c2;have x3:=hx.c3
 have HE:=hJ_ (show ((L:Int) != (V:Int)) = decide (L ≠ V) by rw [Bool.eq_iff_iff,bne_iff_ne,decide_eq_true_eq];omega)
 clear h hV hx
 go_enter Tryz.func67,Tryz.ntmps67
 go_wp2_with (go_at_call 15;go_loud (refine HN.out.mono ?_;rintro e w1 ⟨rfl,hb⟩;have HB1:=hJ_ hb;clear hb))
 go_ret
 exact ⟨by rw [← HE.out] <;> rfl,HB1.out⟩
theorem e7u (Bq:Nat) (m:Int) (t n c:Nat) (aR:Option Addr) (N cR:Nat) (R:List (List GF)) (j:Nat) (w:World) (h:Sh m t n c) (hx:Bx w Bq m t n c) (hR:Mat w aR N cR R) (hw:∀ k,k < N → (rw_ R k).length ≤ 1000) (hj:j ≤ N) (hz:∀ i,i < j → (rw_ R i).length = a4l m t) (hn:j < N → (rw_ R j).length ≠ a4l m t) :
 Calls Tryz.prog 93 #[.slice aR N cR,.func (.func 67) #[] #[.pointer (some ⟨Bq,0,none⟩)]] w fun e w' => e = .returned (.int .i64 (if j < N then (j:Int) else -1)) ∧ Below w.heap.size w w':=by
 have HR:=hJ_ hR
 have HX:=hJ_ hx
 have HW:=hJ_ hw
 have HZ:=hJ_ hz
 have HN:=hJ_ hn
 have HS:=hJ_ h
 have hbd:=hR.bd
 clear hR hw hz hn hx h
 have HB0:=hJ_ (Below.refl w.heap.size w)
 go_enter Tryz.func93,Tryz.ntmps93
 go_wp2
 go_loopw [8] (fun k wr => ∃ i:Nat,i ≤ j ∧ i ≤ N ∧ k = .int .i64 (i:Nat) ∧ Hid (Below w.heap.size w wr)) (fun k _ => N - (intOf k).toNat)
 case atStart => exact ⟨0,Nat.zero_le _,Nat.zero_le _,rfl,HB0⟩
 case round =>
  obtain ⟨i,hi,hiL,rfl,hB⟩:=hrel
  rename World => w2
  by_cases hlt:i < N
  ·have qi:(i:Int) < (N:Int):=by omega
   have qi0:(0:Int) ≤ (i:Int):=by omega
   obtain ⟨b,off,ai,ci,rfl,hb,hcell,hpa⟩:=(HR.out.on hB.out).row hlt
   have hd1:=hpa.bd
   obtain ⟨L,hL⟩:∃ L,L = (rw_ R i).length:=⟨_,rfl⟩
   have HL:=hJ_ hL
   rw [← hL] at hcell hd1
   clear hpa hL
   have HC:=hJ_ (d4e Bq m t n c ai L ci w2 HS.out (HX.out.on hB.out) hd1)
   by_cases hij:i < j
   ·rw [show decide (L ≠ a4l m t) = false by rw [HL.out,HZ.out i hij];simp] at HC
    go_wp2_with (go_at_call 67;go_loud (refine HC.out.mono ?_;rintro e w3 ⟨rfl,hb3⟩;have HB3:=hJ_ (bt hB.out hb3);clear hb3))
    go_roundw
    case rel => exact ⟨i + 1,by omega,by omega,by go_num,HB3⟩
    case measure => simp [intOf];omega
   ·obtain rfl:j = i:=by omega
    rw [show decide (L ≠ a4l m t) = true by rw [HL.out];exact decide_eq_true (HN.out hlt)] at HC
    go_wp2_with (go_at_call 67;go_loud (refine HC.out.mono ?_;rintro e w3 ⟨rfl,hb3⟩;have HB3:=hJ_ (bt hB.out hb3);clear hb3))
    go_ret
    exact ⟨rfl,HB3.out⟩
  ·obtain rfl:N = i:=by omega
   have hjL:j = N:=by omega
   have hn0:¬ j < N:=by omega
   clear hjL
   go_wp2
   go_ret
   exact ⟨rfl,hB.out⟩
theorem d1a (V:Nat) (R:List (List GF)) (N:Nat):∃ j,j ≤ N ∧ (∀ i,i < j → (rw_ R i).length = V) ∧ (j < N → (rw_ R j).length ≠ V):=by
 induction N with
 | zero => exact ⟨0,Nat.le_refl _,fun i hi => absurd hi (by omega),fun h => absurd h (by omega)⟩
 | succ N ih =>
  obtain ⟨j,h1,h2,h3⟩:=ih
  by_cases h:j < N
  ·exact ⟨j,by omega,h2,fun _ => h3 h⟩
  ·obtain rfl:j = N:=by omega
   by_cases h0:(rw_ R j).length = V
   ·exact ⟨j + 1,Nat.le_refl _,fun k hk => by
     rcases Nat.lt_succ_iff_lt_or_eq.1 hk with h4 | h4
     ·exact h2 k h4
     ·rw [h4];exact h0,fun h => absurd h (by omega)⟩
   ·exact ⟨j,by omega,h2,fun _ => h0⟩
theorem e8d (Bq:Nat) (m:Int) (t n c:Nat) (aR:Option Addr) (N cR:Nat) (R:List (List GF)) (r:Bool) (w:World) (h:Sh m t n c) (hx:Bx w Bq m t n c) (hR:Mat w aR N cR R) (hw:∀ k,k < N → (rw_ R k).length ≤ 1000) (hr:r = true ↔ ∃ i,i < N ∧ (rw_ R i).length ≠ a4l m t) :
 Calls Tryz.prog 66 #[.slice aR N cR,.func (.func 67) #[] #[.pointer (some ⟨Bq,0,none⟩)]] w fun e w' => e = .returned (.bool r) ∧ Below w.heap.size w w':=by
 obtain ⟨j,h1,h2,h3⟩:=d1a (a4l m t) R N
 have HI:=e7u Bq m t n c aR N cR R j w h hx hR hw h1 h2 h3
 have hbd:=hR.bd
 by_cases hj:j < N
 ·rw [if_pos hj] at HI
  have HH:=hJ_ HI
  have q:(0:Int) ≤ (j:Int):=by omega
  have Hr:=hJ_ (show r = true from hr.2 ⟨j,hj,h3 hj⟩)
  clear hx hR hw h2 h3 hr HI h
  go_enter Tryz.func66,Tryz.ntmps66
  go_wp2_with (go_at_call 93;go_loud (refine HH.out.mono ?_;rintro e w1 ⟨rfl,hb⟩;have HB:=hJ_ hb;clear hb))
  go_ret
  exact ⟨by rw [Hr.out] <;> rfl,HB.out⟩
 ·rw [if_neg hj] at HI
  have HH:=hJ_ HI
  have Hr:=hJ_ (show r = false from Bool.eq_false_iff.2 fun e => by obtain ⟨i,hi,h0⟩:=hr.1 e;exact h0 (h2 i (by omega)))
  clear hx hR hw h2 h3 hr HI h
  go_enter Tryz.func66,Tryz.ntmps66
  go_wp2_with (go_at_call 93;go_loud (refine HH.out.mono ?_;rintro e w1 ⟨rfl,hb⟩;have HB:=hJ_ hb;clear hb))
  go_ret
  exact ⟨by rw [Hr.out] <;> rfl,HB.out⟩
theorem a4n (m:Int) (t n c:Nat) (aR:Option Addr) (N cR:Nat) (R:List (List GF)) (r:Bool) (w:World) (h:Sh m t n c) (hR:Mat w aR N cR R) (hw:∀ k,k < N → (rw_ R k).length ≤ 1000) (hr:r = true ↔ ∃ i,i < N ∧ (rw_ R i).length ≠ a4l m t) :
 Calls Tryz.prog 39 #[.agg #[.int .i64 m,.int .i64 t,.int .i64 n,.int .i64 c],.slice aR N cR] w fun e w' => e = .returned (.bool r) ∧ Below w.heap.size w w':=by
 have HA:=hJ_ (bxS w #[.int .i64 m,.int .i64 t,.int .i64 n,.int .i64 c] 25)
 have HC:=hJ_ (e8d w.heap.size m t n c aR N cR R r _ h (Bx.new w m t n c) (hR.on HA.out) hw hr)
 have hbd:=hR.bd
 clear hR hw hr h
 go_enter Tryz.func39,Tryz.ntmps39
 go_wp2_with (go_at_call 66;go_loud (refine HC.out.mono ?_;rintro e w1 ⟨rfl,hb⟩;have HB:=hJ_ (bt HA.out hb);clear hb))
 go_ret
 exact ⟨rfl,HB.out⟩
def upN (n:Nat):List Nat:=(List.range n).map (· + 1)
theorem d9o (n:Nat):(upN n).length = n:=by simp [upN]
def upV (n k:Nat):List Value:=(zl (upN k)).map (Value.int .i64) ++ List.replicate (n - k) (.int .i64 0)
theorem e2p {n k:Nat} (h:k ≤ n):(upV n k).length = n:=by simp [upV,zl,upN];omega
theorem e0i {n k:Nat} (h:k < n):(upV n k).set k (.int .i64 ((k + 1:Nat):Int)) = upV n (k + 1):=by
 unfold upV
 have hl:((zl (upN k)).map (Value.int .i64)).length = k:=by simp [zl,upN]
 have:=b6a (vs:=(zl (upN k)).map (Value.int .i64)) (n:=n) (.int .i64 0) (.int .i64 ((k + 1:Nat):Int)) (by omega)
 rw [hl] at this
 rw [this]
 congr 1
 simp [zl,upN,List.range_succ]
theorem c4h:(Tryz.prog.info? 3).map (fun i => (i.zero,i.size,i.bytes)) = some (some (.int .i64 0),1,8):=by kernel_rfl
theorem b8n {w:World} {n:Nat} (hm:n ≤ maxLen) :
 (w.alloc (.cells (madeCells #[Value.int .i64 0] n) 3)).ownsRow w.heap.size 3 1 (.slice (some ⟨w.heap.size,0,none⟩) n n) n (upV n 0):=by
 have:=World.ownsRow_lit (base:=w.heap.size) (e:=3) (size:=1) w (madeCells #[Value.int .i64 0] n) n (Nat.le_refl _) hm (by simp [size_madeCells])
 rw [toList_madeCells_one] at this
 exact this
theorem b5d {w:World} {B n c:Nat} {a:Option Addr} {l:List Int} (h:w.ownsRow B 3 1 (.slice a n c) n (l.map (Value.int .i64))) (hz:∀ z,z ∈ l → 0 ≤ z ∧ z < 256):IA w a n c l:=by
 obtain ⟨a',c',e,hi⟩:=IA.own h hz
 cases e
 exact hi
theorem d6j {n z:Nat} (h:z ∈ upN n):1 ≤ z ∧ z ≤ n:=by
 obtain ⟨i,hi,rfl⟩:=List.mem_map.1 h
 have:=List.mem_range.1 hi
 omega
theorem a8t {n k:Nat} (hk:k < n):(zl (upN n)).getD k 0 = ((k + 1:Nat):Int):=by simp [zl,upN,List.getD_eq_getElem?_getD,hk]
theorem a6m (m t c:Int) (n:Nat) (w:World) (hn:n ≤ 255) :
 Calls Tryz.prog 27 #[.agg #[.int .i64 m,.int .i64 t,.int .i64 (n:Nat),.int .i64 c]] w fun e w' => ∃ g,e = .returned (.slice (some ⟨g,0,none⟩) n n) ∧ w.heap.size ≤ g ∧ IA w' (some ⟨g,0,none⟩) n n (zl (upN n)) ∧ Below w.heap.size w w':=by
 have HA:=hJ_ (bxS w #[.int .i64 m,.int .i64 t,.int .i64 n,.int .i64 c] 25)
 have hmk:=run_make_row' (P:=Tryz.prog) 39 3 (.int .i64 0) 8 Tryz.underlying39 c4h rfl .i64 .i64 n (by omega) (by omega)
 have hO0:Hid (((w.alloc (.cells #[.int .i64 m,.int .i64 t,.int .i64 n,.int .i64 c] 25)).alloc (.cells (madeCells #[.int .i64 0] n) 3)).ownsRow (w.heap.size + 1) 3 1 (.slice (some ⟨w.heap.size + 1,0,none⟩) n n) n (upV n 0)):=by
  have h:=b8n (w:=w.alloc (.cells #[.int .i64 m,.int .i64 t,.int .i64 n,.int .i64 c] 25)) (n:=n) (by unfold maxLen;omega)
  rw [show (w.alloc (.cells #[.int .i64 m,.int .i64 t,.int .i64 n,.int .i64 c] 25)).heap.size = w.heap.size + 1 by simp] at h
  exact hJ_ h
 have hB0:Hid (Below w.heap.size w ((w.alloc (.cells #[.int .i64 m,.int .i64 t,.int .i64 n,.int .i64 c] 25)).alloc (.cells (madeCells #[.int .i64 0] n) 3))):=hJ_ (HA.out.alloc (by simp) _)
 have HN:=hJ_ hn
 clear hn
 go_enter Tryz.func27,Tryz.ntmps27
 go_wp2
 go_loopw [10] (fun j wr => ∃ k:Nat,k ≤ n ∧ j = .int .i64 (k:Nat) ∧ Hid (wr.ownsRow (w.heap.size + 1) 3 1 (.slice (some ⟨w.heap.size + 1,0,none⟩) n n) n (upV n k)) ∧ Hid (Below w.heap.size w wr))
  (fun j _ => n - (intOf j).toNat)
 case atStart => exact ⟨0,Nat.zero_le _,rfl,hO0,hB0⟩
 case round =>
  obtain ⟨k,hk,rfl,hO,hB⟩:=hrel
  rename World => w2
  by_cases hlt:k < n
  ·have qi:(k:Int) < (n:Int):=by omega
   have qi0:(0:Int) ≤ (k:Int):=by omega
   have k1:wrap64 ((k:Int) + 1) = ((k + 1:Nat):Int):=by have:=HN.out;unfold wrap64;omega
   have hfz:=hO.out.frozenAt k
   have hcl:=hO.out.cellAt k (by omega)
   obtain ⟨vo,hvo⟩:∃ v,(upV n k)[k]? = some v:=⟨_,List.getElem?_eq_getElem (by rw [e2p hk];exact hlt)⟩
   rw [hvo] at hcl
   have hst:=(hO.out.stored k (.int .i64 ((k + 1:Nat):Int))).1
   rw [e0i hlt,← k1] at hst
   have HST:=hJ_ hst
   have HBS:=hJ_ (hB.out.setCell (p:=⟨w.heap.size + 1,k,none⟩) (Nat.le_succ _) (.int .i64 (wrap64 ((k:Int) + 1))))
   have HLT:=hJ_ hlt
   have K1:=hJ_ k1
   clear hst hlt hk hvo k1
   go_wp2
   go_roundw
   case rel => exact ⟨k + 1,by have:=HLT.out;omega,by rw [K1.out],HST,HBS⟩
   case measure => rw [K1.out];simp [intOf];have:=HLT.out;omega
  ·obtain rfl:k = n:=by omega
   have ho:=hO.out
   unfold upV at ho
   rw [Nat.sub_self,List.replicate_zero,List.append_nil] at ho
   have HP:=hJ_ (b5d ho (fun z hz => by obtain ⟨x,hx,rfl⟩:=List.mem_map.1 hz;have:=d6j hx;have:=HN.out;omega))
   clear ho hlt
   go_wp2
   go_ret
   exact ⟨_,rfl,by omega,HP.out,hB.out⟩
def gZ (ps:List Int):List GF:=ps.map toG
theorem c1m (ps:List Int):(gZ ps).length = ps.length:=by simp [gZ]
theorem e0b (ps:List Int) (k:Nat):co (gZ ps) k = toG (ps.getD k 0):=e9b ps k
theorem b5c (n:Nat):gZ (zl (upN n)) = plc n:=by
 unfold gZ zl upN plc pl
 rw [List.map_map,List.map_map]
 exact List.map_congr_left fun i _ => rfl
theorem d6a {n k:Nat} (hn:n ≤ 255) (hk:k < n):co (plc n) k ≠ 0:=by
 rw [a9n hk]
 intro e
 have:=congrArg toI e
 rw [c9s (by omega)] at this
 have h0:toI 0 = 0:=a5a
 omega
theorem a5g (aX:Option Addr) (N cX:Nat) (ps:List Int) (w:World) (hX:IA w aX N cX ps) (hN:N ≤ 255) (hok:∀ k,k < N → 0 ≤ ps.getD k 0 ∧ ps.getD k 0 < 256) :
 Calls Tryz.prog 26 #[.slice aX N cX] w fun e w' => ∃ g,e = .returned (.slice (some ⟨g,0,none⟩) N N) ∧ Pa w' (some ⟨g,0,none⟩) N N (gZ ps) ∧ Below w.heap.size w w':=by
 have HX:=hJ_ hX
 have HOK:=hJ_ hok
 have HN:=hJ_ hN
 have hbd:=hX.bd
 have HL:=hJ_ (show (gZ ps).length = N by rw [c1m];exact hX.1)
 have qN:(N:Int) ≤ 255:=by omega
 have hmk:=run_make_row' (P:=Tryz.prog) 22 5 (.int .u8 0) 1 Tryz.underlying22 info5 rfl .i64 .i64 N (by omega) (by omega)
 have hO0:Hid ((w.alloc (.cells (madeCells #[.int .u8 0] N) 5)).ownsRow w.heap.size 5 1 (.slice (some ⟨w.heap.size,0,none⟩) N N) N (plV (gZ ps) N 0)):=by
  rw [a7w]
  exact hJ_ (a1c (w:=w) (e:=5) (n:=N) (by unfold maxLen;omega))
 have hB0:Hid (Below w.heap.size w (w.alloc (.cells (madeCells #[.int .u8 0] N) 5))):=hJ_ ((Below.refl _ _).alloc (Nat.le_refl _) _)
 clear hX hok hN
 go_enter Tryz.func26,Tryz.ntmps26
 go_wp2
 go_loopw [11] (fun j wr => ∃ k:Nat,k ≤ N ∧ j = .int .i64 (k:Nat) ∧ Hid (wr.ownsRow w.heap.size 5 1 (.slice (some ⟨w.heap.size,0,none⟩) N N) N (plV (gZ ps) N k)) ∧ Hid (Below w.heap.size w wr))
  (fun j _ => N - (intOf j).toNat)
 case atStart => exact ⟨0,Nat.zero_le _,rfl,hO0,hB0⟩
 case round =>
  obtain ⟨k,hk,rfl,hO,hB⟩:=hrel
  rename World => w2
  by_cases hlt:k < N
  ·have qi:(k:Int) < (N:Int):=by omega
   have qi0:(0:Int) ≤ (k:Int):=by omega
   obtain ⟨b,off,rfl,hb,hcell⟩:=(HX.out.on hB.out).at_ hlt
   have hz:=HOK.out k hlt
   obtain ⟨z,hzz⟩:∃ z,z = ps.getD k 0:=⟨_,rfl⟩
   rw [← hzz] at hcell hz
   have k1:∀ [Inhabited Unit],IntKind.u8.wrap z = toI (toG z):=by
    intro _
    rw [a8x hz,IntKind.wrap_u8];omega
   have hfz:=hO.out.frozenAt k
   have hcl:=hO.out.cellAt k (by omega)
   obtain ⟨vo,hvo⟩:∃ v,(plV (gZ ps) N k)[k]? = some v:=⟨_,List.getElem?_eq_getElem (by rw [a8q HL.out hk];exact hlt)⟩
   rw [hvo] at hcl
   have hst:=(hO.out.stored k (.int .u8 (toI (toG z)))).1
   rw [show toG z = co (gZ ps) k by rw [e0b,hzz],a8r HL.out hlt,e0b,← hzz] at hst
   have HST:=hJ_ hst
   have HBS:=hJ_ (hB.out.setCell (p:=⟨w.heap.size,k,none⟩) (Nat.le_refl _) (.int .u8 (toI (toG z))))
   have HLT:=hJ_ hlt
   clear hst hlt hk hvo hz hzz hb
   go_wp2
   go_roundw
   case rel => exact ⟨k + 1,by have:=HLT.out;omega,by go_num,HST,HBS⟩
   case measure => simp [intOf];have:=HLT.out;omega
  ·obtain rfl:k = N:=by omega
   have ho:=hO.out
   rw [b0n HL.out] at ho
   have HP:=hJ_ (Pa.own2 ho)
   clear ho hlt
   go_wp2
   go_ret
   exact ⟨_,rfl,HP.out,hB.out⟩
theorem c2m (w:World) (e:TypeId):(w.alloc (.cells #[] e)).ownsRow w.heap.size e 1 (.slice (some ⟨w.heap.size,0,none⟩) 0 0) 0 []:=
 World.ownsRow_lit (base:=w.heap.size) (e:=e) (size:=1) w #[] 0 (Nat.le_refl _) (Nat.zero_le _) rfl
def a6w (R:List (List GF)) (T i:Nat):List GF:=(List.range T).map fun k => co (rw_ R k) i
theorem a6n (R:List (List GF)) (T i:Nat):(a6w R T i).length = T:=by simp [a6w]
theorem a5u (R:List (List GF)) {T i k:Nat} (h:k < T):co (a6w R T i) k = co (rw_ R k) i:=by
 show List.getD _ _ _ = _
 unfold a6w;simp [List.getD_eq_getElem?_getD,h]
def wrF (X:List GF) (R P:List (List GF)) (k i:Nat):Bool:=(List.range k).any fun q => decide (ev (rw_ P q) (co X i) ≠ co (rw_ R i) q)
def wrI (X:List GF) (R P:List (List GF)) (n N:Nat):List Nat:=(List.range N).filter fun i => wrF X R P n i
theorem b5b (X:List GF) (R P:List (List GF)) (n i:Nat):wrI X R P n (i + 1) = wrI X R P n i ++ if wrF X R P n i then [i] else []:=by
 unfold wrI
 rw [List.range_succ,List.filter_append]
 by_cases h:wrF X R P n i <;> simp [h]
theorem d6u (X:List GF) (R P:List (List GF)) (n i:Nat):(wrI X R P n i).length ≤ i:=by unfold wrI;have:=List.length_filter_le (fun i => wrF X R P n i) (List.range i);simpa using this
def evP (P:List (List GF)) (x:GF):List GF:=P.map fun p => ev p x
theorem a0v (P:List (List GF)) (x:GF):(evP P x).length = P.length:=by simp [evP]
theorem b5q {P:List (List GF)} (x:GF) {k:Nat} (h:k < P.length):co (evP P x) k = ev (rw_ P k) x:=by
 show List.getD _ _ _ = _
 unfold evP rw_;simp [List.getD_eq_getElem?_getD,h]
end Go.Proofs.YtappfdbmhgifcaaGreatDoor
namespace Go.Proofs.YtappfdbmhgifcaaGreatDoor
open Go.ChangeShapes Go.WideShapes Go.ChangeAt Go.RowKit
theorem d7p (f:Nat → Nat) {k:Nat} (hk:k < 8) (w:World):(Instr.index 166 (.agg (a0e 8 (gV f))) (.int .i64 (k:Nat))).run Tryz.prog w = .ok (.int .u32 ((f k:Nat):Int)) w:=by
 rcases e9q hk with rfl | rfl | rfl | rfl | rfl | rfl | rfl | rfl <;> kernel_rfl
theorem a5f.bs {w:World} {g n:Nat} {l:List Int} (h:a5f w g n l):Bs w w.heap.size (some ⟨g,0,none⟩) l:=fun h0 => ⟨g,0,rfl,h.2.2.1,fun i hi => by rw [Nat.zero_add];exact h.2.2.2 i (by rw [← h.1];exact hi)⟩
set_option maxHeartbeats 1000000 in
theorem c2o (h:Nat → Nat) (w:World) (hh:∀ i,h i < 4294967296) :
 Calls Tryz.prog 130 #[.agg (a0e 8 (gV h))] w fun e w' => ∃ g c',e = .returned (.slice (some ⟨g,0,none⟩) 32 c') ∧ a5f w' g 32 (b4r h 8) ∧ Below w.heap.size w w' ∧ 32 ≤ c':=by
 have HHB:=hJ_ hh
 obtain ⟨s0,hs0⟩:∃ s0:Array Value,s0 = a0e 8 (gV h):=⟨_,rfl⟩
 rw [← hs0]
 have HSS:=hJ_ (show (Tryz.prog.info? 166).map (·.size) = some s0.size by rw [hs0,a0b];exact b5w)
 have HS0:=hJ_ hs0
 have S1:=hJ_ (show ((w.alloc (.cells s0 166)).alloc (.cells #[] 5)).heap[w.heap.size]? = some (.cells s0 166 (0,0)) by
  rw [((Below.refl (w.heap.size + 1) (w.alloc (.cells s0 166))).alloc (by simp) _).block w.heap.size (by omega)]
  exact heap_alloc_new w _)
 have HB0:=hJ_ (show Below w.heap.size w ((w.alloc (.cells s0 166)).alloc (.cells #[] 5)) from ((Below.refl _ _).alloc (Nat.le_refl _) _).alloc (by simp) _)
 have HR0:=hJ_ (show a5f ((w.alloc (.cells s0 166)).alloc (.cells #[] 5)) (w.heap.size + 1) 0 (b4r h 0) from ⟨rfl,(fun y hy => by cases hy),by simp,fun i hi => by omega⟩)
 clear hs0 hh
 go_enter Tryz.func130,Tryz.ntmps130
 go_upto_region 3 with ((with_reducible show wpList _ _ _ (⟨some 7,_,_,_,_,_⟩ :: _) _ _);go_loud (refine wpList_load_row rfl 166 (.tmp 1) rfl w.heap.size rfl _ s0 _ _ S1.out Tryz.underlying166 rfl HSS.out ?_))
 go_loopw [3,8] (fun o s wr => ∃ (i g c':Nat),i ≤ 8 ∧ s = .int .i64 (i:Nat) ∧ o = .slice (some ⟨g,0,none⟩) (4 * i) c' ∧ a5f wr g (4 * i) (b4r h i) ∧ Below w.heap.size w wr ∧ 4 * i ≤ c') (fun _ s _ => 8 - (intOf s).toNat)
 case atStart => exact ⟨0,_,_,by omega,rfl,rfl,HR0.out,HB0.out,by omega⟩
 case round =>
  obtain ⟨i,g,c',hi,rfl,rfl,h1,h2,h3⟩:=hrel
  rename World => R
  have RR:=hJ_ h1
  have RB:=hJ_ h2
  have RC:=hJ_ h3
  clear h1 h2 h3 HR0 HB0 S1
  by_cases hlt:i < 8
  ·have HLI:=hJ_ hlt
   have qi:(i:Int) < 8:=by omega
   have hix:∀ w:World,(Instr.index 166 (.agg s0) (.int .i64 (i:Nat))).run Tryz.prog w = .ok (.int .u32 ((h i:Nat):Int)) w:=fun w => by rw [HS0.out];exact d7p h hlt w
   have HP:=hJ_ (e3y (some ⟨g,0,none⟩) (4 * i) c' (b4r h i) R RR.out.1 RR.out.bs (by omega) ((h i:Nat):Int) (d5f (by omega) (by have:=HHB.out i;omega)))
   have HW:=hJ_ (show b4r h i ++ be 4 ((h i:Nat):Int) = b4r h (i + 1) by rw [e5x,b4r])
   obtain ⟨x,hx⟩:∃ x,x = h i:=⟨_,rfl⟩
   rw [← hx] at hix HP HW
   clear hlt hx
   go_wp2_with (go_at_call 153;go_loud ((with_reducible refine HP.out.mono ?_);rintro e R2 ⟨g2,rfl,ho,hb⟩;have HO:=hJ_ ho;have HB:=hJ_ hb;clear ho hb))
   go_roundw
   case rel => exact ⟨i + 1,g2,_,HLI.out,by go_num,by rw [Nat.mul_succ],by rw [← HW.out,Nat.mul_succ];exact a5f.own HO.out (by rw [HW.out];exact b9s h _),bt RB.out HB.out,by omega⟩
   case measure => simp [intOf] <;> omega
  ·obtain rfl:i = 8:=by omega
   go_wp2
   go_ret
   exact ⟨g,c',rfl,RR.out,RB.out,by have:=RC.out;omega⟩
def d2p (n:Nat):List Int:=[128] ++ List.replicate (zc n) 0 ++ w8L (8 * n) 8
theorem d0c (b:List Int):b7r b = b ++ d2p b.length:=by unfold b7r d2p;simp [List.append_assoc]
theorem d4q (n:Nat):(d2p n).length = zc n + 9:=by unfold d2p;simp [a8m] <;> omega
theorem d5d (n:Nat):a0z (d2p n):=fun y hy => by
 rcases List.mem_append.1 hy with h | h
 ·rcases List.mem_append.1 h with h | h
  ·rw [List.mem_singleton.1 h];omega
  ·rw [(List.mem_replicate.1 h).2];omega
 ·exact e1i _ _ y h
theorem d1i (Z:Nat):∀ j,j < Z + 1 → (if j = 0 then Value.int .u8 128 else Value.int .u8 0) = Value.int .u8 (([128] ++ List.replicate Z 0:List Int).getD j 0):=fun j hj => by
 match j,hj with
 | 0,_ => rfl
 | j + 1,hj =>
  rw [if_neg (by omega)]
  simp [List.getD_eq_getElem?_getD,List.getElem?_replicate]
  split <;> rfl
set_option maxHeartbeats 1000000 in
theorem e1h (g:Nat) (h:Nat → Nat) (W:List Int) (n:Nat) (w:World) (hR:Blk w g 169 73 (a7q h W n)) (hn:n ≤ 1000000) :
 Calls Tryz.prog 129 #[.pointer (some ⟨g,0,none⟩)] w fun e w' => ∃ g' c',e = .returned (.slice (some ⟨g',0,none⟩) (zc n + 9) c') ∧ zc n + 9 ≤ c' ∧ w.heap.size ≤ g' ∧ a5f w' g' (zc n + 9) (d2p n) ∧ Below w.heap.size w w':=by
 obtain ⟨i8,hi8,hz8,hz81,hz82⟩:=info_parts info5
 obtain ⟨Z,hZ⟩:∃ Z,Z = zc n:=⟨_,rfl⟩
 obtain ⟨R,hRR⟩:∃ R,R = n % 64:=⟨_,rfl⟩
 have hcell:=hR.cell (j:=72) (by omega)
 rw [a4i] at hcell
 have qR:(n:Int) % 64 = (R:Int):=by omega
 have qZ:(119 - (R:Int)) % 64 = (Z:Int):=by unfold zc at hZ;omega
 have bR:(R:Int) < 64:=by omega
 have bZ:(Z:Int) < 64:=by have:=e0g n;omega
 have bn:(n:Int) ≤ 1000000:=by omega
 have hmk:∀ U:World,(Instr.makeSlice 22 (.int .u64 (1 + (Z:Int))) (.int .u64 (1 + (Z:Int)))).run Tryz.prog U = .ok (.slice (some ⟨U.heap.size,0,none⟩) (Z + 1) (Z + 1)) (U.alloc (.cells (madeCells #[.int .u8 0] (Z + 1)) 5)):=by
  intro U
  have:=run_make (P:=Tryz.prog) U 22 5 i8 _ Tryz.underlying22 hi8 hz8 .u64 .u64 (1 + (Z:Int)) (1 + (Z:Int)) (by omega) (by omega) (by rw [hz82];omega) (by omega)
  rw [this,hz81]
  have e1:(1 + (Z:Int)).toNat = Z + 1:=by omega
  rw [e1];simp
  rfl
 have hB1:Blk (w.alloc (.cells (madeCells #[.int .u8 0] (Z + 1)) 5)) w.heap.size 5 (Z + 1) (fun _ => .int .u8 0):=by rw [a3w];exact Blk.made _ _ _ _
 have hc0:=hB1.cell (j:=0) (by omega)
 have hf0:=hB1.free 0
 clear hB1
 obtain ⟨W2,hW2⟩:∃ W2,W2 = w.alloc (.cells ((madeCells #[.int .u8 0] (Z + 1)).setIfInBounds 0 (.int .u8 128)) 5):=⟨_,rfl⟩
 have H2:=hJ_ (show Blk W2 w.heap.size 5 (Z + 1) (fun j => .int .u8 (([128] ++ List.replicate Z 0:List Int).getD j 0)) by
  rw [hW2,a3w,b9u _ (by omega)]
  exact (Blk.made _ _ _ _).congr (d1i Z))
 have HB2:=hJ_ (show Below w.heap.size w W2 by rw [hW2];exact (Below.refl _ _).alloc (Nat.le_refl _) _)
 have hc2:W2.cell? ⟨g,72,none⟩ = some (.int .u64 ((n:Nat):Int)):=by
  have:=(hR.on HB2.out hR.lt).cell (j:=72) (by omega)
  rw [a4i] at this;exact this
 have HPUT:=hJ_ (show Calls Tryz.prog 152 #[.slice (some ⟨w.heap.size,0,none⟩) (Z + 1) (Z + 1),.int .u64 (8 * (n:Int))] W2 _ from
  e4e (some ⟨w.heap.size,0,none⟩) (Z + 1) (Z + 1) ([128] ++ List.replicate Z 0) W2 (by simp) (fun h0 => ⟨w.heap.size,0,rfl,H2.out.lt,fun i hi => by rw [Nat.zero_add];exact H2.out.cell (by simp at hi;omega)⟩) (by omega) (8 * (n:Int)) (e5a (by omega) (by omega)))
 have HE:=hJ_ (show [128] ++ List.replicate Z 0 ++ be 8 (8 * (n:Int)) = d2p n by unfold d2p;rw [← e5j,← hZ];try rfl)
 have HZ:=hJ_ hZ
 rw [← hZ]
 have HW2:=hJ_ hW2
 clear hW2
 have bw:8 * (n:Int) < 18446744073709551616:=by omega
 clear hRR hi8 hz8 hz81 hz82 hZ hn hR
 go_enter Tryz.func129,Tryz.ntmps129
 go_upto_region 2 with fail
 go_upto_region 3 with fail
 go_upto_region 4 with fail
 clear qR qZ hmk hf0 hc0 hcell
 rw [← HW2.out]
 go_wp2_with (go_at_call 152;go_loud ((with_reducible refine HPUT.out.mono ?_);rintro e W3 ⟨g3,rfl,ho,hb⟩;have HO:=hJ_ ho;have HB:=hJ_ hb;clear ho hb))
 go_ret
 have HB3:=hJ_ (HB2.out.trans (HB.out.mono HB2.out.size))
 refine ⟨g3,_,rfl,by omega,?_,?_,HB3.out⟩
 ·have h:=HO.out.2
  rcases h with ⟨h,_⟩ | ⟨g',cap,cur,e,hge,_⟩
  ·cases h
  ·cases e
   have:=HB2.out.size
   omega
 ·have h:=a5f.own HO.out (by rw [HE.out];exact d5d n)
  rw [HE.out] at h
  exact h
theorem Blk.rangeT {w:World} {b:Nat} {T:TypeId} {n:Nat} {f:Nat → Value} (h:Blk w b T n f) {m:Nat} {k:Nat → Value} (hm:m ≤ n) (e:∀ j,j < m → f j = k j):w.rangeAt b 0 (a0e m k).toList:=fun j v hj => by
 rw [Array.getElem?_toList] at hj
 by_cases hjm:j < m
 ·rw [a1f hjm] at hj
  rw [Nat.zero_add,h.cell (by omega),e j hjm]
  exact hj
 ·rw [Array.getElem?_eq_none (by rw [a0b];omega)] at hj;cases hj
def Rn (w:World) (g:Nat) (M W:List Int):Prop:=Blk w g 169 73 (a7q (hF M (M.length / 64)) W M.length) ∧ Wait M W
theorem c3x (l:List Int) (k m:Nat):l.take k ++ (l.drop k).take m = l.take (k + m):=by rw [List.take_add]
set_option maxHeartbeats 3000000 in
theorem c4s (g:Nat) (M W:List Int) (a:Option Addr) (L c:Nat) (l:List Int) (w:World) (hR:Rn w g M W) (hl:l.length = L) (hB:a0z l) (hb:Bs w w.heap.size a l) (hc:L ≤ c) (hne:0 < L → ∀ b off,a = some ⟨b,off,none⟩ → b ≠ g) (hG:Gl w) (hg:2 ≤ g) (hn:M.length + L ≤ 900000) :
 Calls Tryz.prog 128 #[.pointer (some ⟨g,0,none⟩),.slice a L c] w fun e w' => e = .returned (.tuple #[]) ∧ w.grownBy w' (some g) ∧ ∃ W',Rn w' g (M ++ l) W':=by
 have HR0:=hJ_ hR
 have HL:=hJ_ hl
 have HAB:=hJ_ hB
 have HS0:=hJ_ hb
 have HC0:=hJ_ hc
 have HNE0:=hJ_ hne
 have HGL:=hJ_ hG
 have HG2:=hJ_ hg
 have HN:=hJ_ hn
 have HGW:=hJ_ (show g < w.heap.size from hR.1.lt)
 clear hR hl hB hb hc hne hG hg hn
 go_enter Tryz.func128,Tryz.ntmps128
 go_wp2_with fail
 go_loopw [1] (fun bv wr => ∃ (k d:Nat) (a':Option Addr) (c':Nat) (W':List Int),k + d = L ∧ bv = .slice a' d c' ∧ d ≤ c' ∧ Bs wr wr.heap.size a' (l.drop k) ∧ (0 < d → ∀ b off,a' = some ⟨b,off,none⟩ → b ≠ g) ∧ Rn wr g (M ++ l.take k) W' ∧ w.grownBy wr (some g)) (fun bv _ => match bv with | .slice _ n _ => n | _ => 0)
 case atStart => exact ⟨0,L,a,c,W,by omega,rfl,HC0.out,by simpa using HS0.out,HNE0.out,by simpa using HR0.out,d2f _ _⟩
 case round =>
  obtain ⟨k,d,a',c',W',hkd,rfl,hdc,hbs,hne,hrn,hgr⟩:=hrel
  rename World => V
  have HKD:=hJ_ hkd
  have HDC:=hJ_ hdc
  have HBS:=hJ_ hbs
  have HNE:=hJ_ hne
  have HRN:=hJ_ hrn
  have HGR:=hJ_ hgr
  clear hkd hdc hbs hne hrn hgr HR0 HS0 HC0 HNE0
  by_cases hd:0 < d
  ·as_aux_lemma =>
    obtain ⟨P,hP⟩:∃ P,P = M ++ l.take k:=⟨_,rfl⟩
    rw [← hP] at HRN
    have HPL:=hJ_ (show P.length = M.length + k by rw [hP,List.length_append,List.length_take,HL.out,Nat.min_eq_left (by have:=HKD.out;omega)])
    have hlen:(l.drop k).length = d:=by rw [List.length_drop,HL.out];have:=HKD.out;omega
    obtain ⟨b,off,rfl,hbl,hcells⟩:=HBS.out (by rw [hlen];exact hd)
    have HBG:=hJ_ (HNE.out hd b off rfl)
    obtain ⟨N,hN⟩:∃ N,N = P.length:=⟨_,rfl⟩
    obtain ⟨R,hRR⟩:∃ R,R = N % 64:=⟨_,rfl⟩
    have hN9:N + d ≤ 900000:=by have:=HN.out;have:=HPL.out;have:=HKD.out;omega
    obtain ⟨m,hm⟩:∃ m,m = Nat.min d (64 - R):=⟨_,rfl⟩
    have hR64:R < 64:=by omega
    have hm1:0 < m ∧ m ≤ d ∧ R + m ≤ 64:=by rw [hm];simp only [Nat.min_def];split <;> omega
    obtain ⟨cs,hcs⟩:∃ cs,cs = (l.drop k).take m:=⟨_,rfl⟩
    have hcl:cs.length = m:=by rw [hcs,List.length_take,hlen,Nat.min_eq_left hm1.2.1]
    have hcB:a0z cs:=fun x hx => HAB.out x (by rw [hcs] at hx;exact List.mem_of_mem_drop (List.mem_of_mem_take hx))
    have HWT:=hJ_ HRN.out.2
    have HBK:=hJ_ HRN.out.1
    obtain ⟨h,hh⟩:∃ h,h = hF P (P.length / 64):=⟨_,rfl⟩
    rw [← hh,← hN] at HBK
    have HCS:=hJ_ hcs
    have HCL:=hJ_ hcl
    have HCB:=hJ_ hcB
    have HHB:=hJ_ (show ∀ i,h i < 4294967296 from fun i => by rw [hh];exact d1k _ _ i)
    have HHH:=hJ_ hh
    have HPP:=hJ_ hP
    have HNN:=hJ_ hN
    have HRE:=hJ_ hRR
    have HDL:=hJ_ hlen
    have HCE:=hJ_ hcells
    have HBL:=hJ_ hbl
    have HM1:=hJ_ hm1
    have HMM:=hJ_ hm
    have HN9:=hJ_ hN9
    have htot:=HBK.out.cell (j:=72) (by omega)
    rw [a4i] at htot
    have qR:(N:Int) % 64 = (R:Int):=by omega
    have qR2:(N:Int).tmod 64 = (R:Int):=by rw [Int.tmod_eq_emod_of_nonneg (by omega)];exact qR
    have qd:(0:Int) < (d:Int):=by omega
    have hsl:∀ U:World,(Instr.sliceAt 167 (.pointer (some ⟨g,8,none⟩)) (some (.int .u64 (R:Int))) none none).run Tryz.prog U = .ok (.slice (some ⟨g,8 + R,none⟩) (64 - R) (64 - R)) U:=fun U => c9p U g 8 R .u64 _ rfl hR64
    obtain ⟨csv,hcsv⟩:∃ csv,csv = cs.map (Value.int .u8):=⟨_,rfl⟩
    have hcvl:csv.length = m:=by rw [hcsv,List.length_map,hcl]
    have HCV:=hJ_ hcsv
    have HCVL:=hJ_ hcvl
    clear hcs hcl hcB hh hP hN hRR hlen hcells hbl hm1 hm hN9 hcsv hcvl hd hR64 HRN
    go_upto_region 1 with fail
    go_still_tail 10,(by kernel_rfl)
    clear qR qR2 hsl htot
    change wpList _ _ _ _ _ V.drew
    have HBK1:=hJ_ (show Blk V.drew g 169 73 (a7q h W' N) from HBK.out)
    have HCE1:=hJ_ (show ∀ j v,csv[j]? = some v → V.drew.cell? ((⟨b,off,none⟩:Addr).add j) = some v from fun j v hj => by
     have hjm:j < m:=by rw [← HCVL.out];exact (List.getElem?_eq_some_iff.1 hj).1
     rw [HCV.out,List.getElem?_map,HCS.out,List.getElem?_take,if_pos hjm] at hj
     have hlt:j < (l.drop k).length:=by have:=HM1.out;rw [HDL.out];omega
     have h2:=HCE.out j hlt
     rw [List.getElem?_eq_getElem hlt] at hj
     rw [List.getD_eq_getElem?_getD,List.getElem?_eq_getElem hlt] at h2
     cases hj
     rw [Addr.add_mid]
     exact h2)
    have HG1:=hJ_ (show w.grownBy V.drew (some g) from HGR.out.trans (a3s V _))
    obtain ⟨V1,hV1⟩:∃ V1,V1 = V.drew:=⟨_,rfl⟩
    rw [← hV1] at HBK1 HCE1 HG1 ⊢
    have HVS:=hJ_ (show V1.heap.size = V.heap.size by rw [hV1];rfl)
    have HV1:=hJ_ hV1
    clear hV1
    refine wpList_copy_own (by rfl) (.tmp 16) (.tmp 17) 22 22 (by rfl) 5 Tryz.underlying22 a2a g (8 + R) (64 - R) (64 - R) ⟨b,off,none⟩ d c' (by rfl) (by rfl) (a0e 73 (a7q h W' N)) 169 HBK1.out csv (by rw [HCVL.out];exact HMM.out) HCE1.out (by rw [HCVL.out,a0b];have:=HM1.out;omega) (by rw [HCV.out];intro v hv;obtain ⟨x,_,rfl⟩:=List.mem_map.1 hv;rfl) ?_
    rw [HCVL.out]
    obtain ⟨V2,hV2⟩:∃ V2,V2 = V1.setRow g ((a0e 73 (a7q h W' N)).toList.take (8 + R) ++ (csv ++ (a0e 73 (a7q h W' N)).toList.drop (8 + R + m))).toArray:=⟨_,rfl⟩
    rw [← hV2]
    have HBK2:=hJ_ (show Blk V2 g 169 73 (a7q h (splice W' R cs) N) by
     have e:8 + R + csv.length ≤ 73:=by rw [HCVL.out];have:=HM1.out;omega
     rw [hV2,← HCVL.out,b9m e]
     exact (HBK1.out.row _).congr fun j hj => by
      rw [HCV.out]
      exact c6m (by rw [HCL.out];exact HM1.out.2.2) HWT.out.1)
    have HG2':=hJ_ (show w.grownBy V2 (some g) by rw [hV2];exact HG1.out.trans (a3e V1 g _))
    have HVS2:=hJ_ (show V2.heap.size = V.heap.size by rw [hV2,setRow_size];exact HVS.out)
    have HVV0:V.grownBy V2 (some g):=by rw [hV2,HV1.out];exact (a3s V _).trans (a3e _ g _)
    clear hV2 HBK1 HG1 HCE1
    have HVV:=hJ_ (show V.grownBy V2 (some g) from HVV0)
    have HBS2:=hJ_ (show Bs V2 V.heap.size (some ⟨b,off,none⟩) (l.drop k) from (HBS.out).but (Nat.le_refl _) HVV.out (fun b' off' e => by cases e;exact HBG.out))
    have htot:=HBK2.out.cell (j:=72) (by omega)
    rw [a4i] at htot
    have hfr:=HBK2.out.free 72
    have qm:(m:Int) ≤ (d:Int):=by have:=HM1.out;omega
    have qm0:(0:Int) ≤ (m:Int):=by omega
    have qN:(N:Int) + (m:Int) ≤ 900000:=by have:=HN9.out;have:=HM1.out;omega
    have qN0:(0:Int) ≤ (N:Int):=by omega
    go_upto_region 3 with fail
    obtain ⟨A2,hA2⟩:∃ A2,A2 = (if c' = m then some (⟨b,off,none⟩:Addr) else some ⟨b,off + m,none⟩):=⟨_,rfl⟩
    rw [← hA2]
    have HA2N:=hJ_ (show ∀ b' off',A2 = some ⟨b',off',none⟩ → b' ≠ g from fun b' off' e => by
     rw [hA2] at e
     split at e <;> (cases e;exact HBG.out))
    have HA2B:=hJ_ (show Bs V2 V.heap.size A2 (l.drop (k + m)) from fun h0 => by
     rw [List.length_drop,HL.out] at h0
     have h1:c' ≠ m:=by have:=HDC.out;have:=HKD.out;omega
     rw [hA2,if_neg h1]
     obtain ⟨b',off',e,hb',hc'⟩:=HBS2.out (by rw [HDL.out];have:=HM1.out;omega)
     cases e
     refine ⟨b,off + m,rfl,hb',fun i hi => ?_⟩
     rw [List.length_drop,HL.out] at hi
     rw [Nat.add_assoc,hc' (m + i) (by rw [HDL.out];have:=HKD.out;omega)]
     congr 2
     simp only [List.getD_eq_getElem?_getD,List.getElem?_drop]
     congr 2
     omega)
    clear hA2
    go_upto_region 4 with fail
    clear htot hfr
    obtain ⟨V3,hV3⟩:∃ V3,V3 = V2.setCell ⟨g,72,none⟩ (.int .u64 ((N:Int) + (m:Int))):=⟨_,rfl⟩
    rw [← hV3]
    have HBK3:=hJ_ (show Blk V3 g 169 73 (a7q h (splice W' R cs) (N + m)) by
     rw [hV3]
     exact (HBK2.out.set (i:=72) (by omega) (.int .u64 (((N + m:Nat)):Int))).congr fun j hj => d3j hj)
    have HVV3:=hJ_ (show V.grownBy V3 (some g) by rw [hV3];exact HVV.out.trans (a0j V2 g 72 _))
    have HGW3:=hJ_ (show w.grownBy V3 (some g) from HGR.out.trans HVV3.out)
    have HA3B:=hJ_ (show Bs V3 V.heap.size A2 (l.drop (k + m)) by
     rw [hV3]
     exact HA2B.out.but (by rw [HVS2.out];exact Nat.le_refl _) (a0j V2 g 72 _) HA2N.out)
    have htot:=HBK3.out.cell (j:=72) (by omega)
    rw [a4i] at htot
    obtain ⟨NM,hNM⟩:∃ NM,NM = N + m:=⟨_,rfl⟩
    rw [← hNM] at htot HBK3
    have HNM:=hJ_ hNM
    have HPC:=hJ_ (show M ++ l.take (k + m) = P ++ cs by rw [HPP.out,HCS.out,List.append_assoc,c3x])
    have HPCL:=hJ_ (show (P ++ cs).length = NM by rw [List.length_append,HCL.out,← HNN.out];exact hNM.symm)
    clear hV3 HBK2 HA2B HBS2 HVV HG2'
    by_cases hf:R + m = 64
    ·as_aux_lemma =>
      have q5:(NM:Int) % 64 = 0:=by have:=HRE.out;omega
      have q5':(NM:Int).tmod 64 = 0:=by rw [Int.tmod_eq_emod_of_nonneg (by omega)];exact q5
      have HWF:=hJ_ (c5g (M:=P) (W:=W') (cs:=cs) HWT.out HCB.out (by rw [HCL.out,← HNN.out,← HRE.out];exact hf))
      rw [← HHH.out,← HNN.out,← HRE.out] at HWF
      clear hNM hf
      go_upto_region 5 with fail
      clear q5 q5' htot
      obtain ⟨cS,hcS⟩:∃ cS,cS = a0e 8 (gV h):=⟨_,rfl⟩
      have HBKD:=hJ_ (show Blk V3.drew g 169 73 (a7q h (splice W' R cs) NM) from HBK3.out)
      have HGLD:=hJ_ (show Gl V3.drew from (HGL.out.but HGW3.out HG2.out).drewN 1)
      have HRG:=hJ_ (show V3.drew.rangeAt g 0 cS.toList by rw [hcS];exact HBKD.out.rangeT (by omega) fun j hj => a8n hj)
      have HSZ:=hJ_ (show (Tryz.prog.info? 166).map (·.size) = some cS.toList.length by rw [hcS,Array.length_toList,a0b];exact b5w)
      have HMX:=hJ_ (c8j h g 8 (splice W' R cs) V3.drew HHB.out HWF.out.1.2.1 HWF.out.1.1 (fun i hi => by rw [HBKD.out.cell (by omega),c8c hi]) HBKD.out.lt HGLD.out)
      rw [← hcS] at HMX
      rw [← HWF.out.2] at HMX
      obtain ⟨cN,hcN⟩:∃ cN,cN = a0e 8 (gV (hF (P ++ cs) ((P ++ cs).length / 64))):=⟨_,rfl⟩
      rw [← hcN] at HMX
      have HCNS:=hJ_ (show cN.size = 8 by rw [hcN,a0b])
      have HCNZ:=hJ_ (show (Tryz.prog.info? 166).map (·.size) = some cN.size by rw [hcN,a0b];exact b5w)
      have HCN1:=hJ_ (show cN.all (·.oneCell') = true by rw [hcN];exact a0l fun _ => rfl)
      have HCN:=hJ_ hcN
      clear hcS hcN
      refine wp_region_held_drew (S:=fun _ => True) (by kernel_rfl) trivial (fun hHeld => ?_)
      refine tk 0 ⟨some 37,Op.move (Operand.tmp 0),185,"hash.go:87",#[],none⟩ hHeld ?_
      try simp only [Act.put,p1',p2',p3']
      refine tk 1 ⟨some 38,Op.move (Operand.tmp 0),185,"hash.go:87",#[],none⟩ hHeld ?_
      try simp only [Act.put,p1',p2',p3']
      refine tk 2 ⟨some 39,Op.nilCheck (Operand.tmp 38),0,"hash.go:87",#[{ on:=1,ground:=Ground.data }],none⟩ hHeld ?_
      try simp only [Act.put,p1',p2',p3']
      refine tk 3 ⟨some 40,Op.fieldAddr 169 (Operand.tmp 39) 0,0,"hash.go:87",#[{ on:=2,ground:=Ground.data }],none⟩ hHeld ?_
      try simp only [Act.put,p1',p2',p3']
      refine tk 5 ⟨some 42,Op.move (Operand.tmp 0),185,"hash.go:87",#[],none⟩ hHeld ?_
      try simp only [Act.put,p1',p2',p3']
      refine tk 6 ⟨some 43,Op.nilCheck (Operand.tmp 42),0,"hash.go:87",#[{ on:=5,ground:=Ground.data }],none⟩ hHeld ?_
      try simp only [Act.put,p1',p2',p3']
      refine tk 7 ⟨some 44,Op.fieldAddr 169 (Operand.tmp 43) 1,0,"hash.go:87",#[{ on:=6,ground:=Ground.data }],none⟩ hHeld ?_
      try simp only [Act.put,p1',p2',p3']
      refine wpAnyH_ready (rs:=[4]) (by kernel_rfl) (by simp) ?_
      refine AllReadyH.cons (o:=⟨some 41,Op.load 166 (Operand.tmp 40),166,"hash.go:87",#[{ on:=3,ground:=Ground.data }],none⟩) rfl (fun K' hK => ?_) AllReadyH.nil
      rw [if_pos (by rfl)]
      refine wp_load_mid 166 (.tmp 40) (by rfl) g 0 (by rfl) cS.toList _ HRG.out Tryz.underlying166 (by rfl) HSZ.out ?_
      rw [Array.toArray_toList]
      refine hK.out _ _ trivial (fun hHeld1 => ?_)
      clear hK K' hHeld
      have hHeld:=hHeld1
      clear hHeld1
      try simp only [Act.put,p1',p2',p3']
      refine wpAnyH_ready (rs:=[8]) (by kernel_rfl) (by simp) ?_
      refine AllReadyH.cons (o:=⟨some 45,Op.call { callee:=Callee.value (Operand.func 151),args:=#[Operand.tmp 41,Operand.tmp 44],argTypes:=#[166,187] },166,"hash.go:87",#[{ on:=4,ground:=Ground.data },{ on:=7,ground:=Ground.data }],none⟩) rfl (fun K' hK => ?_) AllReadyH.nil
      rw [if_pos (by rfl)]
      go_simp
      go_wp2_with (go_at_call 151;(with_reducible refine HMX.out.mono ?_);rintro e w4 ⟨rfl,hb4⟩)
      have HB4:=hJ_ hb4
      clear hb4
      have HBK4:=hJ_ (HBKD.out.on HB4.out HBKD.out.lt)
      refine hK.out _ _ trivial (fun hHeld1 => ?_)
      clear hK K' hHeld
      have hHeld:=hHeld1
      clear hHeld1
      try simp only [Act.put,p1',p2',p3']
      refine tk 9 ⟨some 46,Op.nilCheck (Operand.tmp 37),0,"hash.go:87",#[{ on:=0,ground:=Ground.data },{ on:=0,ground:=Ground.phase },{ on:=1,ground:=Ground.phase },{ on:=2,ground:=Ground.phase },{ on:=3,ground:=Ground.phase },{ on:=4,ground:=Ground.phase },{ on:=5,ground:=Ground.phase },{ on:=6,ground:=Ground.phase },{ on:=7,ground:=Ground.phase },{ on:=8,ground:=Ground.phase }],none⟩ hHeld ?_
      try simp only [Act.put,p1',p2',p3']
      refine tk 10 ⟨some 47,Op.fieldAddr 169 (Operand.tmp 46) 0,0,"hash.go:87",#[{ on:=9,ground:=Ground.data },{ on:=0,ground:=Ground.phase },{ on:=1,ground:=Ground.phase },{ on:=2,ground:=Ground.phase },{ on:=3,ground:=Ground.phase },{ on:=4,ground:=Ground.phase },{ on:=5,ground:=Ground.phase },{ on:=6,ground:=Ground.phase },{ on:=7,ground:=Ground.phase },{ on:=8,ground:=Ground.phase }],none⟩ hHeld ?_
      try simp only [Act.put,p1',p2',p3']
      refine wpAnyH_ready (rs:=[11]) (by kernel_rfl) (by simp) ?_
      refine AllReadyH.cons (o:=⟨none,Op.store 166 (Operand.tmp 47) (Operand.tmp 45),0,"hash.go:87",#[{ on:=10,ground:=Ground.data },{ on:=8,ground:=Ground.data },{ on:=8,ground:=Ground.chain },{ on:=0,ground:=Ground.phase },{ on:=1,ground:=Ground.phase },{ on:=2,ground:=Ground.phase },{ on:=3,ground:=Ground.phase },{ on:=4,ground:=Ground.phase },{ on:=5,ground:=Ground.phase },{ on:=6,ground:=Ground.phase },{ on:=7,ground:=Ground.phase },{ on:=8,ground:=Ground.phase }],none⟩) rfl (fun K' hK => ?_) AllReadyH.nil
      rw [if_pos (by rfl)]
      refine wp_store_mid 166 (.tmp 47) (.tmp 45) (by rfl) g 0 cN (by rfl) (by rfl) (HBK4.out.there (by rw [HCNS.out];omega)) HCNZ.out HCN1.out ?_
      refine hK.out _ _ trivial (fun hHeld1 => ?_)
      clear hK K' hHeld
      have hHeld:=hHeld1
      clear hHeld1
      try simp only [Act.put,p1',p2',p3']
      refine wpAnyH_done (by kernel_rfl) ?_ _
      clear hHeld
      obtain ⟨V5,hV5⟩:∃ V5,V5 = w4.setCells g 0 cN.toList:=⟨_,rfl⟩
      rw [← hV5]
      have HBK5:=hJ_ (show Blk V5 g 169 73 (a7q (hF (P ++ cs) ((P ++ cs).length / 64)) (splice W' R cs) NM) by
       rw [hV5]
       refine Blk.sets cN.toList 0 _ HBK4.out (by rw [Array.length_toList,HCNS.out];omega) (fun j hj => ?_)
       have hlc:cN.toList.length = 8:=by rw [Array.length_toList,HCNS.out]
       rw [hlc,HCN.out]
       by_cases h8:j < 8
       ·rw [if_pos (by omega),a8n h8,Nat.sub_zero,c7f h8]
       ·rw [if_neg (by omega)]
        unfold a7q
        rw [if_neg h8,if_neg h8])
      have HVV5:=hJ_ (show V3.grownBy V5 (some g) by
       rw [hV5]
       exact ((a3s V3 _).trans (a1k HB4.out _)).trans (a6q g _ 0 w4))
      have HGW5:=hJ_ (show w.grownBy V5 (some g) from HGW3.out.trans HVV5.out)
      have HA5B:=hJ_ (show Bs V5 V.heap.size A2 (l.drop (k + m)) from HA3B.out.but HVV3.out.size HVV5.out HA2N.out)
      clear hV5 HBK4 HB4
      go_wp2
      go_roundw
      case rel =>
       have hrel:=show ∃ (k' d':Nat) (a'':Option Addr) (c'':Nat) (W'':List Int),k' + d' = L ∧ Value.slice A2 (d - m) (c' - m) = .slice a'' d' c'' ∧ d' ≤ c'' ∧ Bs V5 V5.heap.size a'' (l.drop k') ∧ (0 < d' → ∀ b off,a'' = some ⟨b,off,none⟩ → b ≠ g) ∧ Rn V5 g (M ++ l.take k') W'' ∧ w.grownBy V5 (some g) from
        ⟨k + m,d - m,A2,c' - m,splice W' R cs,by have:=HKD.out;have:=HM1.out;omega,rfl,by have:=HDC.out;omega,HA5B.out.more (Nat.le_trans HVV3.out.size HVV5.out.size),(fun _ => HA2N.out),⟨by rw [HPC.out,HPCL.out,← HPCL.out];rw [HPCL.out];exact (by have h:=HBK5.out;rw [HPCL.out] at h;exact h),by rw [HPC.out];exact HWF.out.1⟩,HGW5.out⟩
       first
        | exact hrel
        | ((repeat apply Exists.intro);exact ⟨hrel,rfl⟩)
      case measure => simp <;> (have:=HM1.out;omega)
    ·as_aux_lemma =>
      obtain ⟨S,hS⟩:∃ S,S = R + m:=⟨_,rfl⟩
      have hlt:S < 64:=by have:=HM1.out;omega
      have q5:(NM:Int) % 64 = (S:Int):=by have:=HRE.out;omega
      have q5':(NM:Int).tmod 64 = (S:Int):=by rw [Int.tmod_eq_emod_of_nonneg (by omega)];exact q5
      have q6:((S:Int) == 0) = false:=by have:=HM1.out;simp <;> omega
      have HWP:=hJ_ (c7z (M:=P) (W:=W') (cs:=cs) HWT.out HCB.out (by rw [HCL.out,← HNN.out,← HRE.out,← hS];exact hlt))
      rw [← HHH.out,← HNN.out,← HRE.out] at HWP
      clear hNM hf hS hlt
      go_wp2
      clear q5 q5' q6 htot
      go_roundw
      case rel =>
       have hrel:=show ∃ (k' d':Nat) (a'':Option Addr) (c'':Nat) (W'':List Int),k' + d' = L ∧ Value.slice A2 (d - m) (c' - m) = .slice a'' d' c'' ∧ d' ≤ c'' ∧ Bs V3 V3.heap.size a'' (l.drop k') ∧ (0 < d' → ∀ b off,a'' = some ⟨b,off,none⟩ → b ≠ g) ∧ Rn V3 g (M ++ l.take k') W'' ∧ w.grownBy V3 (some g) from
        ⟨k + m,d - m,A2,c' - m,splice W' R cs,by have:=HKD.out;have:=HM1.out;omega,rfl,by have:=HDC.out;omega,HA3B.out.more HVV3.out.size,(fun _ => HA2N.out),⟨by rw [HPC.out,HWP.out.2,HPCL.out];exact HBK3.out,by rw [HPC.out];exact HWP.out.1⟩,HGW3.out⟩
       first
        | exact hrel
        | ((repeat apply Exists.intro);exact ⟨hrel,rfl⟩)
      case measure => simp <;> (have:=HM1.out;omega)
  ·as_aux_lemma =>
    obtain rfl:d = 0:=by omega
    go_wp2
    go_end0
    refine ⟨rfl,HGR.out,W',?_⟩
    have e:l.take k = l:=List.take_of_length_le (by rw [HL.out,← HKD.out];omega)
    have h:=HRN.out
    rw [e] at h
    exact h
end Go.Proofs.YtappfdbmhgifcaaGreatDoor
