/- Texts of mine, one behind the other: Za Zb Pdm Pdiv Prth2. -/
import Derived.Test.YtappfdbmhgifcaaGreatDoorZR16
set_option linter.unusedVariables false
set_option linter.unusedSimpArgs false
set_option maxRecDepth 100000
namespace Go.Proofs.YtappfdbmhgifcaaGreatDoor
open Go.ChangeShapes Go.WideShapes Go.ChangeAt Go.RowKit Go.Shelf GF
theorem c3d (m t:Nat) (w:World) (hm:m ≤ 1000) (ht:t ≤ 1000):Calls Tryz.prog 98 #[.int .i64 (m:Nat),.int .i64 (t:Nat)] w fun r w' => r = .returned (.int .i64 (((m - t) / 2:Nat):Int)) ∧ w = w':=by
 by_cases h:m < t
 ·have q:(m:Int) < (t:Int):=by omega
  have e:(m - t) / 2 = 0:=by omega
  have E:=hJ_ e
  clear e h
  go_enter Tryz.func98,Tryz.ntmps98
  go_wp2
  go_ret
  exact ⟨by rw [E.out];rfl,rfl⟩
 ·have q:¬ (m:Int) < (t:Int):=by omega
  obtain ⟨d,hd⟩:∃ d,d = m - t:=⟨_,rfl⟩
  have qd:(m:Int) - (t:Int) = (d:Int):=by omega
  have qq:Int.tdiv (d:Int) 2 = ((d / 2:Nat):Int):=by rw [Int.tdiv_eq_ediv_of_nonneg (by omega)];omega
  obtain ⟨r,hr⟩:∃ r,r = d / 2:=⟨_,rfl⟩
  rw [← hr] at qq
  have qr:(r:Int) ≤ 1000:=by omega
  have qd2:(d:Int) ≤ 1000:=by omega
  have E:=hJ_ (show ((m - t:Nat):Int) / 2 = (r:Int) by rw [hr,hd];rfl)
  clear h hd hr
  go_enter Tryz.func98,Tryz.ntmps98
  go_wp2
  go_ret
  exact ⟨by rw [E.out];rfl,rfl⟩
set_option maxHeartbeats 2000000 in
theorem d2j (b L K:Nat) (t e:Int) (aX:Option Addr) (cX:Nat) (X:List GF) (w:World) (hf:Fld w b) (hX:Pa w aX L cX X) :
 Calls Tryz.prog 68 #[.pointer (some ⟨b,0,none⟩),.int .i64 t,.slice aX L cX,.int .i64 (K:Nat),.int .i64 e] w fun r w' => r = .returned (.int .i64 (a5t X K t e)) ∧ Below w.heap.size w w':=by
 have hl:=hX.len
 have hcap:=hX.bd
 by_cases h1:L = K
 ·subst h1
  by_cases h2:t < 1 ∨ 255 < t ∨ e < 0
  ·have E:=hJ_ (show a5t X L t e = 2 by unfold a5t;rw [if_neg (by omega),if_pos h2])
   clear hf hX hl
   by_cases h3:t < 1
   ·clear h2
    go_enter Tryz.func68,Tryz.ntmps68
    go_wp2
    go_ret
    exact ⟨by rw [E.out];rfl,Below.refl _ _⟩
   ·by_cases h4:255 < t
    ·clear h2
     go_enter Tryz.func68,Tryz.ntmps68
     go_wp2
     go_ret
     exact ⟨by rw [E.out];rfl,Below.refl _ _⟩
    ·have h5:e < 0:=by omega
     clear h2
     go_enter Tryz.func68,Tryz.ntmps68
     go_wp2
     go_ret
     exact ⟨by rw [E.out];rfl,Below.refl _ _⟩
  ·have h3:¬ t < 1:=by omega
   have h4:¬ 255 < t:=by omega
   have h5:¬ e < 0:=by omega
   by_cases h6:(L:Int) < t
   ·have E:=hJ_ (show a5t X L t e = 5 by unfold a5t;rw [if_neg (by omega),if_neg h2,if_pos (by rw [hl];exact h6)])
    clear hf hX hl h2
    go_enter Tryz.func68,Tryz.ntmps68
    go_wp2
    go_ret
    exact ⟨by rw [E.out];rfl,Below.refl _ _⟩
   ·have E:=hJ_ (show a5t X L t e = a3a X by unfold a5t;rw [if_neg (by omega),if_neg h2,if_neg (by rw [hl];exact h6)])
    have HW:Hid (Calls Tryz.prog 94 #[.pointer (some ⟨b,0,none⟩),.slice aX L cX,.int .u8 0] w fun e w' => ∃ (a:Option Addr) (n c:Nat),e = .returned (.tuple #[.slice a n c,.int .i64 (a3a X)]) ∧ Below w.heap.size w w'):=by
     refine hJ_ ?_
     have z:toI (0:GF) = 0:=rfl
     by_cases h0:a3a X = 0
     ·have h:=b0v b aX L cX X 0 w hf hX h0
      rw [z] at h
      exact h.mono fun e w' ⟨g,h1,_,h3⟩ => ⟨some ⟨g,0,none⟩,L,L,by rw [h0];exact h1,h3⟩
     ·have h:=b8i b aX L cX X 0 w hX h0
      rw [z] at h
      exact h.mono fun e w' ⟨h1,h3⟩ => ⟨none,0,0,h1,h3⟩
    generalize a3a X = er at E HW
    clear hf hX hl h2
    go_enter Tryz.func68,Tryz.ntmps68
    go_wp2_with (go_at_call 94;go_loud (refine HW.out.mono ?_;rintro e w1 ⟨a,n,c,rfl,hb1⟩;have HB1:=hJ_ hb1;clear hb1))
    go_ret
    exact ⟨by rw [E.out];rfl,HB1.out⟩
 ·have q1:((L:Int) != (K:Int)) = true:=by rw [bne_iff_ne];omega
  have E:=hJ_ (show a5t X K t e = 1 by unfold a5t;rw [if_pos (by rw [hl];exact h1)])
  clear hf hX hl h1
  go_enter Tryz.func68,Tryz.ntmps68
  go_wp2
  go_ret
  exact ⟨by rw [E.out];rfl,Below.refl _ _⟩
theorem d9p (w:World) (v:Value) (e:TypeId):(w.alloc (.cells #[v] e)).cell? ⟨w.heap.size,0,none⟩ = some v:=by simp
theorem b3j (Bx:Nat) (ai:Option Addr) (m ci N cR m0:Nat) (a0:Option Addr) (c0:Nat) (b off:Nat) (W:World) (r:Bool) (hx:W.cell? ⟨Bx,0,none⟩ = some (.slice (some ⟨b,off,none⟩) N cR)) (h0:W.cell? ⟨b,off,none⟩ = some (.slice a0 m0 c0)) (hN:0 < N) (hb1:N ≤ cR ∧ cR ≤ 9223372036854775807) (hb2:m ≤ ci ∧ ci ≤ 9223372036854775807) (hb3:m0 ≤ c0 ∧ c0 ≤ 9223372036854775807) (hr:((m:Int) != (m0:Int)) = r) :
 Calls Tryz.prog 95 #[.slice ai m ci,.pointer (some ⟨Bx,0,none⟩)] W fun e w' => e = .returned (.bool r) ∧ W = w':=by
 have q0:(0:Int) < (N:Int):=by omega
 subst hr
 go_enter Tryz.func95,Tryz.ntmps95
 go_wp2
 go_ret
 exact ⟨rfl,rfl⟩
theorem d0o (Bx:Nat) (aR:Option Addr) (N cR:Nat) (R:List (List GF)) (j:Nat) (w:World) (hx:w.cell? ⟨Bx,0,none⟩ = some (.slice aR N cR)) (hR:Mat w aR N cR R) (hw:∀ k,k < N → (rw_ R k).length ≤ 1000) (hj:j ≤ N) (hz:∀ i,i < j → (rw_ R i).length = (rw_ R 0).length) (hn:j < N → (rw_ R j).length ≠ (rw_ R 0).length) :
 Calls Tryz.prog 93 #[.slice aR N cR,.func (.func 95) #[] #[.pointer (some ⟨Bx,0,none⟩)]] w fun e w' => e = .returned (.int .i64 (if j < N then (j:Int) else -1)) ∧ w = w':=by
 have HR:=hJ_ hR
 have HX:=hJ_ hx
 have HW:=hJ_ hw
 have HZ:=hJ_ hz
 have HN:=hJ_ hn
 have hbd:=hR.bd
 clear hR hw hz hn hx
 go_enter Tryz.func93,Tryz.ntmps93
 go_wp2
 go_loop [8] (fun k => ∃ i:Nat,i ≤ j ∧ i ≤ N ∧ k = .int .i64 (i:Nat)) (fun k => N - (intOf k).toNat)
 case atStart => exact ⟨0,Nat.zero_le _,Nat.zero_le _,rfl⟩
 case round =>
  obtain ⟨i,hi,hiL,rfl⟩:=hrel
  by_cases hlt:i < N
  ·have qi:(i:Int) < (N:Int):=by omega
   have qi0:(0:Int) ≤ (i:Int):=by omega
   obtain ⟨b,off,ai,ci,rfl,hb,hcell,hpa⟩:=HR.out.row hlt
   obtain ⟨b2,o2,a0,c0,e0,hb0,hc0,hp0⟩:=HR.out.row (i:=0) (by omega)
   cases e0
   rw [Nat.add_zero] at hc0
   have hd1:=hpa.bd
   have hd0:=hp0.bd
   obtain ⟨m,hm⟩:∃ m,m = (rw_ R i).length:=⟨_,rfl⟩
   obtain ⟨m0,hm0⟩:∃ m,m = (rw_ R 0).length:=⟨_,rfl⟩
   have HM:=hJ_ hm
   have HM0:=hJ_ hm0
   rw [← hm] at hcell hd1
   rw [← hm0] at hc0 hd0
   clear hpa hp0 hm hm0
   by_cases hij:i < j
   ·have HC:=hJ_ (b3j Bx ai m ci N cR m0 a0 c0 b off w false HX.out hc0 (by omega) hbd hd1 hd0 (by have:=HZ.out i hij;rw [← HM.out,← HM0.out] at this;subst this;simp))
    clear hc0
    go_wp2_with (go_at_call 95;refine HC.out.mono ?_;rintro e w' ⟨rfl,rfl⟩)
    go_round
    case rel => exact ⟨i + 1,by omega,by omega,by go_num⟩
    case measure => simp [intOf];omega
   ·obtain rfl:j = i:=by omega
    have HC:=hJ_ (b3j Bx ai m ci N cR m0 a0 c0 b off w true HX.out hc0 (by omega) hbd hd1 hd0 (by have:=HN.out hlt;rw [← HM.out,← HM0.out] at this;rw [bne_iff_ne];omega))
    clear hc0
    go_wp2_with (go_at_call 95;refine HC.out.mono ?_;rintro e w' ⟨rfl,rfl⟩)
    go_ret
    exact ⟨rfl,rfl⟩
  ·obtain rfl:N = i:=by omega
   have hjL:j = N:=by omega
   have hn0:¬ j < N:=by omega
   clear hjL
   go_wp2
   go_ret
   exact ⟨rfl,rfl⟩
theorem d3b (Bx:Nat) (aR:Option Addr) (N cR:Nat) (R:List (List GF)) (j:Nat) (r:Bool) (w:World) (hx:w.cell? ⟨Bx,0,none⟩ = some (.slice aR N cR)) (hR:Mat w aR N cR R) (hw:∀ k,k < N → (rw_ R k).length ≤ 1000) (hj:j ≤ N) (hz:∀ i,i < j → (rw_ R i).length = (rw_ R 0).length) (hn:j < N → (rw_ R j).length ≠ (rw_ R 0).length) (hr:r = decide (j < N)) :
 Calls Tryz.prog 66 #[.slice aR N cR,.func (.func 95) #[] #[.pointer (some ⟨Bx,0,none⟩)]] w fun e w' => e = .returned (.bool r) ∧ w = w':=by
 have HI:=d0o Bx aR N cR R j w hx hR hw hj hz hn
 have hbd:=hR.bd
 by_cases h:j < N
 ·rw [if_pos h] at HI
  have HH:=hJ_ HI
  have q:(0:Int) ≤ (j:Int):=by omega
  have Hr:=hJ_ (hr.trans (decide_eq_true h))
  clear hx hR hw hz hn hr HI
  go_enter Tryz.func66,Tryz.ntmps66
  go_wp2_with (go_at_call 93;refine HH.out.mono ?_;rintro e w' ⟨rfl,rfl⟩)
  go_ret
  exact ⟨by rw [Hr.out];rfl,rfl⟩
 ·rw [if_neg h] at HI
  have HH:=hJ_ HI
  have Hr:=hJ_ (hr.trans (decide_eq_false h))
  clear hx hR hw hz hn hr HI
  go_enter Tryz.func66,Tryz.ntmps66
  go_wp2_with (go_at_call 93;refine HH.out.mono ?_;rintro e w' ⟨rfl,rfl⟩)
  go_ret
  exact ⟨by rw [Hr.out];rfl,rfl⟩
theorem b8j (R:List (List GF)) (N:Nat):∃ j,j ≤ N ∧ (∀ i,i < j → (rw_ R i).length = (rw_ R 0).length) ∧ (j < N → (rw_ R j).length ≠ (rw_ R 0).length):=by
 induction N with
 | zero => exact ⟨0,Nat.le_refl _,fun i hi => absurd hi (by omega),fun h => absurd h (by omega)⟩
 | succ N ih =>
  obtain ⟨j,h1,h2,h3⟩:=ih
  by_cases h:j < N
  ·exact ⟨j,by omega,h2,fun _ => h3 h⟩
  ·obtain rfl:j = N:=by omega
   by_cases h0:(rw_ R j).length = (rw_ R 0).length
   ·exact ⟨j + 1,Nat.le_refl _,fun k hk => by
     rcases Nat.lt_succ_iff_lt_or_eq.1 hk with h4 | h4
     ·exact h2 k h4
     ·rw [h4];exact h0,fun h => absurd h (by omega)⟩
   ·exact ⟨j,by omega,h2,fun _ => h0⟩
theorem c6d (aR:Option Addr) (N cR:Nat) (R:List (List GF)) (r:Bool) (w:World) (hR:Mat w aR N cR R) (hw:∀ k,k < N → (rw_ R k).length ≤ 1000) (hr:r = true ↔ ∃ i,i < N ∧ (rw_ R i).length ≠ (rw_ R 0).length) :
 Calls Tryz.prog 69 #[.slice aR N cR] w fun e w' => e = .returned (.bool r) ∧ Below w.heap.size w w':=by
 obtain ⟨j,h1,h2,h3⟩:=b8j R N
 have hA:=(Below.refl w.heap.size w).alloc (Nat.le_refl _) (.cells #[.slice aR N cR] 28)
 have hrr:r = decide (j < N):=by
  rw [Bool.eq_iff_iff,decide_eq_true_eq,hr]
  constructor
  ·rintro ⟨i,hi,he⟩
   rcases Nat.lt_or_ge j N with h | h
   ·exact h
   ·exact absurd (h2 i (by omega)) he
  ·exact fun h => ⟨j,h,h3 h⟩
 have HC:=hJ_ (d3b w.heap.size aR N cR R j r _ (d9p w (.slice aR N cR) 28) (hR.on hA) hw h1 h2 h3 hrr)
 have HA:=hJ_ hA
 have hbd:=hR.bd
 clear hR hw hr hrr h2 h3 h1 hA
 go_enter Tryz.func69,Tryz.ntmps69
 go_wp2_with (go_at_call 66;refine HC.out.mono ?_;rintro e w' ⟨rfl,rfl⟩)
 go_ret
 exact ⟨rfl,HA.out⟩
theorem b8c (a1:Option Addr) (L1 c1:Nat) (P:List GF) (a2:Option Addr) (L2 c2:Nat) (Q:List GF) (r:Bool) (w:World) (h1:Pa w a1 L1 c1 P) (h2:Pa w a2 L2 c2 Q) (hr:r = true ↔ L1 = L2 ∧ ∀ k,k < L1 → co P k = co Q k) :
 Calls Tryz.prog 119 #[.slice a1 L1 c1,.slice a2 L2 c2] w fun e w' => e = .returned (.bool r) ∧ Below w.heap.size w w':=by
 have hb1:=h1.bd
 have hb2:=h2.bd
 by_cases hL:L1 = L2
 ·subst hL
  obtain ⟨j,hj,hz,hn⟩:∃ j,j ≤ L1 ∧ (∀ k,k < j → co P k = co Q k) ∧ (j < L1 → co P j ≠ co Q j):=by
   clear hr h1 h2 hb1 hb2
   induction L1 with
   | zero => exact ⟨0,Nat.le_refl _,fun k hk => absurd hk (by omega),fun h => absurd h (by omega)⟩
   | succ L ih =>
    obtain ⟨j,h1,h2,h3⟩:=ih
    by_cases h:j < L
    ·exact ⟨j,by omega,h2,fun _ => h3 h⟩
    ·obtain rfl:j = L:=by omega
     by_cases h0:co P j = co Q j
     ·exact ⟨j + 1,Nat.le_refl _,fun k hk => by
       rcases Nat.lt_succ_iff_lt_or_eq.1 hk with h4 | h4
       ·exact h2 k h4
       ·rw [h4];exact h0,fun h => absurd h (by omega)⟩
     ·exact ⟨j,by omega,h2,fun _ => h0⟩
  have Hr:Hid (r = decide (j = L1)):=hJ_ (by
   rw [Bool.eq_iff_iff,decide_eq_true_eq,hr]
   exact ⟨fun ⟨_,h⟩ => by
    rcases Nat.lt_or_ge j L1 with h3 | h3
    ·exact absurd (h j h3) (hn h3)
    ·omega,fun e => ⟨rfl,fun k hk => hz k (by omega)⟩⟩)
  have H1:=hJ_ h1
  have H2:=hJ_ h2
  have HZ:=hJ_ hz
  have HN:=hJ_ hn
  clear h1 h2 hr hz hn
  go_enter Tryz.func119,Tryz.ntmps119
  go_wp2
  go_loopw [13] (fun i wr => ∃ k:Nat,k ≤ j ∧ i = .int .i64 (k:Nat) ∧ Hid (Below w.heap.size w wr))
   (fun i _ => L1 - (intOf i).toNat)
  case atStart => exact ⟨0,Nat.zero_le _,rfl,hJ_ (Below.refl _ _)⟩
  case round =>
   obtain ⟨k,hk,rfl,hB⟩:=hrel
   by_cases hlt:k < L1
   ·obtain ⟨bx,ox,rfl,hbx,hcx⟩:=(H1.out.on hB.out).at_ hlt
    obtain ⟨by_,oy,rfl,hby,hcy⟩:=(H2.out.on hB.out).at_ hlt
    have q2:(k:Int) < (L1:Int):=by omega
    have q3:(0:Int) ≤ (k:Int):=by omega
    obtain ⟨u,hu⟩:∃ u,u = toI (co P k):=⟨_,rfl⟩
    obtain ⟨v,hv⟩:∃ v,v = toI (co Q k):=⟨_,rfl⟩
    rw [← hu] at hcx
    rw [← hv] at hcy
    by_cases e:k = j
    ·have h0:=HN.out (by omega)
     have q5:(u != v) = true:=by rw [bne_iff_ne,hu,hv];exact fun h => h0 (by rw [← e];exact a7c h)
     have Q4:=hJ_ (Hr.out.trans (decide_eq_false (by omega)))
     clear hu hv e h0
     go_wp2
     go_quiet (fail)
     go_wp2
     go_ret
     exact ⟨by rw [Q4.out];rfl,below_drewN hB.out _⟩
    ·have h0:=HZ.out k (by omega)
     have q5:(u != v) = false:=by rw [hu,hv,h0];simp
     have hk1:k + 1 ≤ j:=by omega
     clear hu hv e h0
     go_wp2
     go_quiet (fail)
     go_wp2
     go_roundw
     case rel => exact ⟨k + 1,hk1,by go_num,hJ_ (below_drewN hB.out _)⟩
     case measure => simp [intOf];omega
   ·have Q4:=hJ_ (Hr.out.trans (decide_eq_true (show j = L1 by omega)))
    obtain rfl:L1 = k:=by omega
    go_wp2
    go_ret
    exact ⟨by rw [Q4.out];rfl,hB.out⟩
 ·have q1:((L1:Int) != (L2:Int)) = true:=by rw [bne_iff_ne];omega
  have Hr:=hJ_ (show r = false from Bool.eq_false_iff.2 fun e => hL (hr.1 e).1)
  clear h1 h2 hr hL
  go_enter Tryz.func119,Tryz.ntmps119
  go_wp2
  go_ret
  exact ⟨by rw [Hr.out];rfl,Below.refl _ _⟩
theorem d4v (w:World):(binOp .eql 39 (.slice none 0 0) (.slice none 0 0)).run Tryz.prog w = .ok (.bool true) w:=rfl
theorem c7s (w:World) (ad:Addr) (n c:Nat):(binOp .eql 39 (.slice (some ad) n c) (.slice none 0 0)).run Tryz.prog w = .ok (.bool false) w:=rfl
theorem b6m (v:Value) (n:Nat):madeCells #[v] n = a0e n (fun _ => v):=by
 have h:=toList_madeCells_one v n
 apply Array.ext'
 rw [h]
 unfold a0e
 rw [List.toList_toArray]
 clear h
 induction n with
 | zero => rfl
 | succ n ih =>
  rw [List.range_succ,List.map_append,← List.replicate_append_replicate (n:=n) (m:=1)]
  simp
  exact ih
def c0e (w:World) (g n s:Nat) (F:Nat → Nat → GF):Prop:=
 Blk w g 22 n (fun k => .slice (some ⟨g + 1 + k,0,none⟩) s s) ∧ ∀ k,k < n → Blk w (g + 1 + k) 5 s (fun j => .int .u8 (toI (F k j)))
theorem c0e.on {w w':World} {g n s:Nat} {F:Nat → Nat → GF} (h:c0e w g n s F) (hb:Below w.heap.size w w'):c0e w' g n s F:=
 ⟨h.1.on hb h.1.lt,fun k hk => (h.2 k hk).on hb (h.2 k hk).lt⟩
set_option maxHeartbeats 1000000 in
theorem b6t (n s:Nat) (w:World) (hn:n ≤ 1000) (hs:s ≤ 1000) :
 Calls Tryz.prog 116 #[.int .i64 (n:Nat),.int .i64 (s:Nat)] w fun e w' => e = .returned (.slice (some ⟨w.heap.size,0,none⟩) n n) ∧ c0e w' w.heap.size n s (fun _ _ => 0) ∧ Below w.heap.size w w':=by
 have hmk:=run_make_row' (P:=Tryz.prog) 28 22 (.slice none 0 0) 24 Tryz.underlying28 b1v rfl .i64 .i64 n (by omega) (by omega)
 have hmk2:=run_make_row' (P:=Tryz.prog) 22 5 (.int .u8 0) 1 Tryz.underlying22 info5 rfl .i64 .i64 s (by omega) (by omega)
 rw [b6m] at hmk hmk2
 have HN:=hJ_ hn
 have qn:(n:Int) ≤ 1000:=by omega
 have HB0:=hJ_ (show Below w.heap.size w (w.alloc (.cells (a0e n fun _ => .slice none 0 0) 22)) from (Below.refl _ _).alloc (Nat.le_refl _) _)
 have HO0:=hJ_ (show Blk (w.alloc (.cells (a0e n fun _ => .slice none 0 0) 22)) w.heap.size 22 n (fun k => if k < 0 then .slice (some ⟨w.heap.size + 1 + k,0,none⟩) s s else .slice none 0 0) from (Blk.made w 22 n (fun _ => .slice none 0 0)).congr fun j _ => by rw [if_neg (by omega)])
 have HS0:=hJ_ (a4t w (.cells (a0e n fun _ => .slice none 0 0) 22))
 clear hn
 go_enter Tryz.func116,Tryz.ntmps116
 go_wp2
 go_loopw [11] (fun j wr => ∃ i:Nat,i ≤ n ∧ j = .int .i64 (i:Nat) ∧ Hid (Blk wr w.heap.size 22 n (fun k => if k < i then .slice (some ⟨w.heap.size + 1 + k,0,none⟩) s s else .slice none 0 0)) ∧ Hid (∀ k,k < i → Blk wr (w.heap.size + 1 + k) 5 s (fun _ => .int .u8 0)) ∧ Hid (wr.heap.size = w.heap.size + 1 + i) ∧ Hid (Below w.heap.size w wr))
  (fun j _ => n - (intOf j).toNat)
 case atStart => exact ⟨0,Nat.zero_le _,rfl,HO0,hJ_ (fun k hk => absurd hk (by omega)),HS0,HB0⟩
 case round =>
  obtain ⟨i,hi,rfl,hO,hI,hS,hB⟩:=hrel
  rename World => w1
  by_cases hlt:i < n
  ·have qi:(i:Int) < (n:Int):=by omega
   have qi0:(0:Int) ≤ (i:Int):=by omega
   obtain ⟨V,hV⟩:∃ V,V = w1.alloc (.cells (a0e s fun _ => .int .u8 0) 5):=⟨_,rfl⟩
   have hsV:V.heap.size = w.heap.size + 1 + i + 1:=by rw [hV,a4t,hS.out]
   have hbw:Below w1.heap.size w1 V:=by rw [hV];exact (Below.refl _ _).alloc (Nat.le_refl _) _
   have hO1:Blk V w.heap.size 22 n (fun k => if k < i then .slice (some ⟨w.heap.size + 1 + k,0,none⟩) s s else .slice none 0 0):=hO.out.on hbw hO.out.lt
   have hN1:Blk V (w.heap.size + 1 + i) 5 s (fun _ => .int .u8 0):=by rw [hV,← hS.out];exact Blk.made _ _ _ _
   have hc:=hO1.cell hlt
   have hfz:=hO1.free i
   have hst:=hO1.set hlt (.slice (some ⟨w.heap.size + 1 + i,0,none⟩) s s)
   have hBV:Below w.heap.size w (V.setCell ⟨w.heap.size,i,none⟩ (.slice (some ⟨w.heap.size + 1 + i,0,none⟩) s s)):=((hB.out.alloc (by have:=hB.out.size;omega) (.cells (a0e s fun _ => .int .u8 0) 5)).setCell (p:=⟨w.heap.size,i,none⟩) (Nat.le_refl _) _) |> (by rw [hV];exact ·)
   have HST:=hJ_ (hst.congr (h:=fun k => if k < i + 1 then .slice (some ⟨w.heap.size + 1 + k,0,none⟩) s s else .slice none 0 0) fun k hk => by
    by_cases e:k = i
    ·rw [if_pos e,if_pos (by omega),e]
    ·rw [if_neg e]
     by_cases e2:k < i
     ·rw [if_pos e2,if_pos (by omega)]
     ·rw [if_neg e2,if_neg (by omega)])
   have HI2:=hJ_ (show ∀ k,k < i + 1 → Blk (V.setCell ⟨w.heap.size,i,none⟩ (.slice (some ⟨w.heap.size + 1 + i,0,none⟩) s s)) (w.heap.size + 1 + k) 5 s (fun _ => .int .u8 0) from fun k hk => by
    refine Blk.other ?_ _ _ (by show w.heap.size + 1 + k ≠ w.heap.size;omega)
    by_cases e:k = i
    ·rw [e];exact hN1
    ·exact (hI.out k (by omega)).on hbw (hI.out k (by omega)).lt)
   have HSZ:=hJ_ (show (V.setCell ⟨w.heap.size,i,none⟩ (.slice (some ⟨w.heap.size + 1 + i,0,none⟩) s s)).heap.size = w.heap.size + 1 + (i + 1) by simp [hsV];omega)
   have HBV:=hJ_ hBV
   have HSE:=hJ_ hS.out
   rw [hV,← hS.out] at HST HI2 HSZ HBV
   rw [hV] at hc hfz
   clear hV hsV hbw hO1 hN1 hst hBV
   go_wp2
   go_roundw
   case rel => exact ⟨i + 1,by omega,by go_num,HST,HI2,HSZ,HBV⟩
   case measure => simp [intOf];omega
  ·obtain rfl:i = n:=by omega
   go_wp2
   go_ret
   exact ⟨rfl,⟨hO.out.congr fun j hj => by rw [if_pos hj],fun k hk => hI.out k hk⟩,hB.out⟩
set_option maxHeartbeats 1000000 in
theorem c2k (aR:Option Addr) (N cR i n:Nat) (R:List (List GF)) (w:World) (hR:Mat w aR N cR R) (hw:∀ k,k < N → (rw_ R k).length = n) (hi:i < n) (hN:N ≤ 1000) :
 Calls Tryz.prog 118 #[.slice aR N cR,.int .i64 (i:Nat)] w fun e w' => ∃ g,e = .returned (.slice (some ⟨g,0,none⟩) N N) ∧ w'.ownsRow w.heap.size 5 1 (.slice (some ⟨g,0,none⟩) N N) N ((iL (a6w R N i)).map (Value.int .u8)) ∧ Below w.heap.size w w':=by
 have hmk:=run_make_row' (P:=Tryz.prog) 22 5 (.int .u8 0) 1 Tryz.underlying22 info5 rfl .i64 .i64 N (by omega) (by omega)
 have HR:=hJ_ hR
 have HW:=hJ_ hw
 have HI:=hJ_ hi
 have hbd:=hR.bd
 have q0:(0:Int) ≤ (i:Int):=by omega
 have HN:=hJ_ hN
 have hO0:Hid ((w.alloc (.cells (madeCells #[.int .u8 0] N) 5)).ownsRow w.heap.size 5 1 (.slice (some ⟨w.heap.size,0,none⟩) N N) N (plV (a6w R N i) N 0)):=by
  rw [a7w]
  exact hJ_ (a1c (w:=w) (e:=5) (n:=N) (by unfold maxLen;omega))
 have hB0:Hid (Below w.heap.size w (w.alloc (.cells (madeCells #[.int .u8 0] N) 5))):=hJ_ ((Below.refl _ _).alloc (Nat.le_refl _) _)
 clear hR hw hi hN
 go_enter Tryz.func118,Tryz.ntmps118
 go_wp2
 go_loopw [13] (fun j wr => ∃ k:Nat,k ≤ N ∧ j = .int .i64 (k:Nat) ∧ Hid (wr.ownsRow w.heap.size 5 1 (.slice (some ⟨w.heap.size,0,none⟩) N N) N (plV (a6w R N i) N k)) ∧ Hid (Below w.heap.size w wr))
  (fun j _ => N - (intOf j).toNat)
 case atStart => exact ⟨0,Nat.zero_le _,rfl,hO0,hB0⟩
 case round =>
  obtain ⟨k,hk,rfl,hO,hB⟩:=hrel
  rename World => w2
  by_cases hlt:k < N
  ·have qi:(k:Int) < (N:Int):=by omega
   have qi0:(0:Int) ≤ (k:Int):=by omega
   obtain ⟨b,off,ai,ci,rfl,hb,hcell,hpa⟩:=(HR.out.on hB.out).row hlt
   rw [HW.out k hlt] at hcell hpa
   obtain ⟨b2,o2,rfl,hb2,hc2⟩:=hpa.at_ HI.out
   have hd:=hpa.bd
   have qn:(i:Int) < (n:Int):=by have:=HI.out;omega
   have hfz:=hO.out.frozenAt k
   have hcl:=hO.out.cellAt k (by omega)
   obtain ⟨vo,hvo⟩:∃ v,(plV (a6w R N i) N k)[k]? = some v:=⟨_,List.getElem?_eq_getElem (by rw [a8q (a6n _ _ _) hk];exact hlt)⟩
   rw [hvo] at hcl
   have hst:=(hO.out.stored k (.int .u8 (toI (co (rw_ R k) i)))).1
   rw [show co (rw_ R k) i = co (a6w R N i) k from (a5u R hlt).symm,a8r (a6n _ _ _) hlt] at hst
   have HBS:=hJ_ (hB.out.setCell (p:=⟨w.heap.size,k,none⟩) (Nat.le_refl _) (.int .u8 (toI (co (a6w R N i) k))))
   rw [a5u R hlt] at hst HBS
   have HST:=hJ_ hst
   clear hst hvo hpa
   go_wp2
   go_roundw
   case rel => exact ⟨k + 1,by omega,by go_num,HST,HBS⟩
   case measure => simp [intOf];omega
  ·obtain rfl:k = N:=by omega
   have ho:=hO.out
   rw [b0n (a6n _ _ _)] at ho
   have HO:=hJ_ ho
   clear ho
   go_wp2
   go_ret
   exact ⟨_,rfl,HO.out,hB.out⟩
end Go.Proofs.YtappfdbmhgifcaaGreatDoor
namespace Go.Proofs.YtappfdbmhgifcaaGreatDoor
open Go.RowKit GF
def c9v (d:Nat) (Q:List GF) (s:List GF × List GF) (i:Nat):List GF × List GF:=
 (s.1.set i (co s.2 (i + d) * GF.inv (co Q d)),axp s.2 i (co s.2 (i + d) * GF.inv (co Q d)) Q)
def a9l {m:Nat} (d:Nat) (Q:List GF) (s:List GF × List GF) (pre:List (It m)):List GF × List GF:=pre.foldl (fun s y => c9v d Q s y.1.1) s
theorem b1r {m:Nat} (d:Nat) (Q:List GF) (s:List GF × List GF) (pre:List (It m)) (y:It m):a9l d Q s (pre ++ [y]) = c9v d Q (a9l d Q s pre) y.1.1:=by simp [a9l]
theorem b0h {m:Nat} (d:Nat) (Q:List GF) (s:List GF × List GF) (pre:List (It m)):(a9l d Q s pre).1.length = s.1.length ∧ (a9l d Q s pre).2.length = s.2.length:=by
 unfold a9l
 induction pre generalizing s with
 | nil => exact ⟨rfl,rfl⟩
 | cons y pre ih =>
  simp only [List.foldl_cons]
  have:=ih (c9v d Q s y.1.1)
  simp only [c9v,List.length_set,a6s] at this ⊢
  exact this
theorem b8u {A Q:List GF} {i:Nat} {c:GF} (hi:i < A.length) (h0:co A i = 0) (k:Nat):co (a1u (A.set i c) Q) k = co (a1u A Q) k + if i ≤ k then c * co Q (k - i) else 0:=by
 rw [a1q,a1q]
 have hs:∀ t,co (A.set i c) t * co Q (k - t) = co A t * co Q (k - t) + (if t = i then c else 0) * co Q (k - t):=fun t => by
  rw [← GF.add_mul,b3o hi]
  by_cases e:t = i
  ·rw [if_pos e,if_pos e,e,h0,GF.zero_add]
  ·rw [if_neg e,if_neg e,GF.add_zero]
 rw [a3v (fun t _ => hs t),d6i]
 congr 1
 by_cases hk:i ≤ k
 ·rw [if_pos hk,c7o (j:=i) (by omega) (fun t _ hne => by rw [if_neg hne,GF.zero_mul]),if_pos rfl]
 ·rw [if_neg hk,a4r (fun t ht => by rw [if_neg (by omega),GF.zero_mul])]
theorem d1m {P Q:List GF} {n d m:Nat} (hP:P.length = n) (hQ:Q.length = d + 1) (hl:co Q d ≠ 0) (hm:m = n - d) (ys:List (It m)) (hbk:Bk m (fun _ _ => True) ys):∀ j,j ≤ ys.length →
 (∀ k,co (a1u (a9l d Q (List.replicate m 0,P) (ys.take j)).1 Q) k + co (a9l d Q (List.replicate m 0,P) (ys.take j)).2 k = co P k) ∧
 (∀ k,m - j + d ≤ k → co (a9l d Q (List.replicate m 0,P) (ys.take j)).2 k = 0) ∧
 (∀ k,k < m - j → co (a9l d Q (List.replicate m 0,P) (ys.take j)).1 k = 0) ∧
 (1 ≤ j → co (a9l d Q (List.replicate m 0,P) (ys.take j)).1 (m - 1) = co P (n - 1) * GF.inv (co Q d)):=by
 intro j
 induction j with
 | zero =>
  intro _
  rw [List.take_zero]
  refine ⟨fun k => ?_,fun k hk => a0w (by show P.length ≤ k;omega),fun k _ => a3r _ _,fun h => by omega⟩
  show co (a1u (List.replicate m 0) Q) k + co P k = co P k
  rw [a1q,a4r (fun i _ => by rw [a3r,GF.zero_mul]),GF.zero_add]
 | succ j ih =>
  intro hj
  obtain ⟨h1,h2,h3,h4⟩:=ih (by omega)
  have hlen:=b0h d Q (List.replicate m 0,P) (ys.take j)
  rw [List.take_succ_eq_append_getElem (by omega),b1r]
  have hjm:=hbk.1
  have hi:=(hbk.2 j (by omega)).1
  obtain ⟨s,hs⟩:∃ s,s = a9l d Q (List.replicate m 0,P) (ys.take j):=⟨_,rfl⟩
  rw [← hs] at h1 h2 h3 h4 hlen ⊢
  rw [hi]
  obtain ⟨i,hi'⟩:∃ i,i = m - 1 - j:=⟨_,rfl⟩
  rw [← hi']
  have ha:s.1.length = m:=by rw [hlen.1];simp
  have hr:s.2.length = n:=by rw [hlen.2,hP]
  have him:i < m:=by omega
  have hA0:co s.1 i = 0:=h3 i (by omega)
  have hax:∀ k,co (axp s.2 i (co s.2 (i + d) * GF.inv (co Q d)) Q) k = co s.2 k + if i ≤ k then (co s.2 (i + d) * GF.inv (co Q d)) * co Q (k - i) else 0:=c0h (by rw [hQ,hr];omega)
  refine ⟨fun k => ?_,fun k hk => ?_,fun k hk => ?_,fun _ => ?_⟩
  ·simp only [c9v]
   rw [b8u (by rw [ha];exact him) hA0,hax,GF.add_add_add,GF.add_self,GF.add_zero]
   exact h1 k
  ·simp only [c9v]
   rw [hax,if_pos (by omega)]
   by_cases e:k = i + d
   ·rw [e,Nat.add_sub_cancel_left,GF.mul_assoc,GF.inv_mul hl,GF.mul_one,GF.add_self]
   ·rw [h2 k (by omega),a0w (l:=Q) (k:=k - i) (by omega),GF.mul_zero,GF.add_zero]
  ·simp only [c9v]
   rw [b3o (by rw [ha];exact him),if_neg (by omega)]
   exact h3 k (by omega)
  ·simp only [c9v]
   rw [b3o (by rw [ha];exact him)]
   by_cases e:m - 1 = i
   ·rw [if_pos e]
    have hj0:j = 0:=by omega
    subst hj0
    rw [List.take_zero] at hs
    rw [hs]
    show co P (i + d) * GF.inv (co Q d) = co P (n - 1) * GF.inv (co Q d)
    rw [show i + d = n - 1 by omega]
   ·rw [if_neg e]
    exact h4 (by omega)
theorem d7h {P Q:List GF} {n d m:Nat} (hn:n = (tr P).length) (hd:(tr Q).length = d + 1) (hq:tr Q ≠ []) (hm:m = n - d) (ys:List (It m)) (hlen:ys.length = m) (hbk:Bk m (fun _ _ => True) ys) :
 tr (a9l d (tr Q) (List.replicate m 0,tr P) ys).1 = (a9l d (tr Q) (List.replicate m 0,tr P) ys).1 ∧ (tr (a9l d (tr Q) (List.replicate m 0,tr P) ys).2).length < (tr Q).length ∧
 ∀ k,co (a1u (a9l d (tr Q) (List.replicate m 0,tr P) ys).1 Q) k + co (a9l d (tr Q) (List.replicate m 0,tr P) ys).2 k = co P k:=by
 have hl:co (tr Q) d ≠ 0:=by have:=a5r Q hq;rw [hd,Nat.add_sub_cancel] at this;rwa [a2y]
 obtain ⟨h1,h2,h3,h4⟩:=d1m (P:=tr P) (Q:=tr Q) hn.symm hd hl hm ys hbk m (by omega)
 have hA:=(b0h d (tr Q) (List.replicate m 0,tr P) ys).1
 have hT:ys.take m = ys:=List.take_of_length_le (by omega)
 rw [hT] at h1 h2 h3 h4
 refine ⟨?_,?_,fun k => ?_⟩
 ·apply a8u
  rcases Nat.eq_zero_or_pos m with h0 | h0
  ·left
   exact List.eq_nil_of_length_eq_zero (by rw [hA];simp [h0])
  ·right
   rw [hA,List.length_replicate,h4 h0]
   have hp:tr P ≠ []:=fun e => by rw [e] at hn;simp at hn;omega
   have:=a5r P hp
   rw [← hn] at this
   refine GF.mul_ne ?_ (GF.inv_ne hl)
   rwa [a2y]
 ·rw [hd]
  have:(tr (a9l d (tr Q) (List.replicate m 0,tr P) ys).2).length ≤ d:=a5d.2 fun k hk => h2 k (by omega)
  omega
 ·rw [← a2y P k,← h1 k,a1q,a1q]
  congr 1
  exact a3v fun i _ => by rw [a2y]
end Go.Proofs.YtappfdbmhgifcaaGreatDoor
namespace Go.Proofs.YtappfdbmhgifcaaGreatDoor
open Go.ChangeShapes Go.WideShapes Go.ChangeAt Go.RowKit Go.Shelf GF
section
attribute [local go_sem] Oper.semAt_some
theorem a5k {W W':World} {B C:Nat} {t:TypeId} {v:Value} (h:Boxed W B t v) (hb:Below C W W') (hlt:B < C):Boxed W' B t v:=(hb.block B hlt).trans h
theorem e2k {W:World} {B B':Nat} {t:TypeId} {v:Value} (h:Boxed W B t v) (hne:B ≠ B') (u:Value):Boxed (W.setCell ⟨B',0,none⟩ u) B t v:=(Below.heap_setCell W ⟨B',0,none⟩ u B hne).trans h
theorem own_below {w w':World} {base:Nat} {e:TypeId} {v:Value} {n:Nat} {xs:List Value} (h:w.ownsRow base e 1 v n xs) (hb:Below w.heap.size w w'):w'.ownsRow base e 1 v n xs:=by
 have hlt:=h.lt
 refine ⟨h.1,?_⟩
 rcases h.2 with h2 | ⟨g,cap,cur,h1,h2,h3,h4⟩
 ·exact .inl h2
 ·subst h1
  exact .inr ⟨g,_,cur,rfl,h2,(hb.block g (hlt g rfl).2).trans h3,h4⟩
theorem a2n {w w':World} {B:Nat} {t:TypeId} {v:Value} {row:Option Nat} (h:Boxed w B t v) (hg:w.grownBy w' row) (hr:∀ r,row = some r → ∃ o:Obj,w.heap[r]? = some o ∧ o.isCells = false):Boxed w' B t v:=
 h.kept hg fun e => by
  obtain ⟨o,ho,hc⟩:=hr B e.symm
  rw [show w.heap[B]? = _ from h] at ho
  cases ho
  cases hc
theorem b7x (w:World) (g m:Nat) (v:Value):w.grownBy (w.setCell ⟨g,m,none⟩ v) (some g):=
 ⟨rfl,rfl,rfl,by show w.heap.size ≤ (w.heap.modify _ _).size;rw [Array.size_modify];exact Nat.le_refl _,fun i _ hne => Below.heap_setCell _ _ _ i (fun e => hne (by rw [e]))⟩
theorem b8o {w:World} {base:Nat} {e:TypeId} {g n c:Nat} {xs:List Value} (h:w.ownsRow base e 1 (.slice (some ⟨g,0,none⟩) n c) n xs) (o:Obj) (ho:w.heap[g]? = some o):o.isCells = true:=by
 rcases h.2 with ⟨h1,_⟩ | ⟨g',_,cur,h1,_,h3,_⟩
 ·cases h1
 ·cases h1;rw [h3] at ho;cases ho;rfl
theorem d6x {W:World} {Bx g n c base:Nat} {e:TypeId} {P:List GF} (hb:W.cell? ⟨Bx,0,none⟩ = some (.slice (some ⟨g,0,none⟩) n c)) (h:W.ownsRow base e 1 (.slice (some ⟨g,0,none⟩) n c) n ((iL P).map (Value.int .u8))):Rd Bx n (some ⟨g,0,none⟩) c (fun _ _ => True) W:=
 ⟨hb,fun j hj => ⟨g,0,co P j,rfl,trivial,by rw [a0h h j hj,a0k]⟩⟩
theorem c5r (w:World) (t1 t2:TypeId) (u v:Value):Boxed ((w.alloc (.cells #[u] t1)).alloc (.cells #[v] t2)) w.heap.size t1 u ∧ Boxed ((w.alloc (.cells #[u] t1)).alloc (.cells #[v] t2)) (w.heap.size + 1) t2 v:=by
 have h1:=(Boxed.new w t1 u).alloc (.cells #[v] t2)
 have h2:=Boxed.new (w.alloc (.cells #[u] t1)) t2 v
 rw [World.size_alloc] at h2
 exact ⟨h1,h2⟩
set_option maxRecDepth 100000 in
set_option maxHeartbeats 4000000 in
theorem a8h (b:Nat) (a:Option Addr) (L cap:Nat) (P:List GF) (a2:Option Addr) (L2 cap2:Nat) (Q:List GF) (w:World) (hf:Fld w b) (hx:Pa w a L cap P) (hy:Pa w a2 L2 cap2 Q) (hL:L ≤ 1000000) (hL2:L2 ≤ 1000000) (hq:tr Q ≠ []) :
 Calls Tryz.prog 138 #[.pointer (some ⟨b,0,none⟩),.slice a L cap,.slice a2 L2 cap2] w fun e w' => ∃ (v1 v2:Value) (A R:List GF),e = .returned (.tuple #[v1,v2,.int .i64 0]) ∧
  w'.ownsRow w.heap.size 5 1 v1 A.length ((iL A).map (Value.int .u8)) ∧ w'.ownsRow w.heap.size 5 1 v2 (tr R).length ((iL (tr R)).map (Value.int .u8)) ∧
  Hid (A.length ≤ L ∧ tr A = A ∧ (tr R).length < (tr Q).length ∧ ∀ k,co (a1u A Q) k + co R k = co P k) ∧ Below w.heap.size w w':=by
 have HX:=hJ_ hx
 have HY:=hJ_ hy
 have HF:=hJ_ hf
 obtain ⟨d,hd⟩:∃ d,(tr Q).length = d + 1:=⟨(tr Q).length - 1,by have:=b6y hq;omega⟩
 obtain ⟨n,hn⟩:∃ n,n = (tr P).length:=⟨_,rfl⟩
 have hnL:n ≤ 1000000:=by have:=a1m P;have:=hx.len;omega
 have KnL:=hJ_ (show n ≤ L by have:=a1m P;have:=hx.len;omega)
 have hdL:d ≤ 1000000:=by have:=a1m Q;have:=hy.len;omega
 have hT:∀ w1,Below w.heap.size w w1 → Calls Tryz.prog 161 #[.slice a2 L2 cap2] w1 fun e w' => e = .returned (.slice a2 (d + 1:Nat) cap2) ∧ Below w1.heap.size w1 w':=fun w1 hb => by
  have:=a4d a2 L2 cap2 Q w1 (HY.out.on hb).1 (by omega)
  rwa [hd] at this
 have HT:=hJ_ hT
 have Hd:=hJ_ hd
 have Hn:=hJ_ hn
 have Hq:=hJ_ hq
 obtain ⟨dd,hdd⟩:∃ dd,dd = d + 1:=⟨_,rfl⟩
 rw [← hdd] at HT
 have q1:(dd:Int) - 1 = (d:Int):=by omega
 have Hdd:=hJ_ hdd
 have hbb:b < w.heap.size:=hf.1
 clear hT hd hn hq hx hy hf hdd
 refine (callsIn_wide (n:=3)).1 ?_
 refine callsIn_of_wp_marks Tryz.func138 rfl trivial ?_ rfl
 simp only [Tryz.ntmps138,List.size_toArray,List.length_cons,List.length_nil,Nat.reduceAdd,Nat.reduceSub,Array.replicate_succ,Array.replicate_zero,List.push_toArray,List.append_toArray,List.nil_append,List.cons_append]
 refine wpIn_wide.2 ?_
 have HQ0:=hJ_ (c5r w 32 22 (.pointer (some ⟨b,0,none⟩)) (.slice a2 L2 cap2))
 have HB0:=hJ_ (((Below.refl w.heap.size w).alloc (Nat.le_refl _) (.cells #[.pointer (some ⟨b,0,none⟩)] 32)).alloc (by simp) (.cells #[.slice a2 L2 cap2] 22))
 go_upto_region 4 with (first
  | (go_at_call 161;go_loud (refine (HT.out _ HB0.out).mono ?_);rintro e w1 ⟨rfl,hb1⟩;have bq1:=a5k HQ0.out.2 hb1 (by simp);have hcq1:=bq1.cell;have hfq1:=bq1.frozen;have BQ1:=hJ_ bq1;clear bq1;have BF1:=hJ_ (a5k HQ0.out.1 hb1 (by simp;omega));have HB1:=hJ_ (bt HB0.out hb1);clear hb1)
  | fail)
 clear hcq1 hfq1
 have BQ2:=hJ_ (BQ1.out.set (.slice a2 dd cap2))
 have BF2:=hJ_ (e2k BF1.out (B':=w.heap.size + 1) (by omega) (.slice a2 dd cap2))
 have HB2:=hJ_ (HB1.out.setCell (p:=⟨w.heap.size + 1,0,none⟩) (by simp) (.slice a2 dd cap2))
 generalize hW2:w1.setCell ⟨w.heap.size + 1,0,none⟩ (.slice a2 dd cap2) = W2 at BQ2 BF2 HB2 ⊢
 clear BQ1 BF1 HB1 hW2 HQ0 HB0 HT
 have hcq2:=BQ2.out.cell
 have BD3:=hJ_ (Boxed.new W2 3 (.int .i64 (d:Int)))
 have HB3:=hJ_ (HB2.out.alloc HB2.out.size (.cells #[.int .i64 (d:Int)] 3))
 have hTr:∃ W3,W3 = W2.alloc (.cells #[.int .i64 (d:Int)] 3) ∧ Calls Tryz.prog 162 #[.slice a L cap] W3 fun e w' => ∃ ar cr,e = .returned (.slice ar n cr) ∧ w'.ownsRow W3.heap.size 5 1 (.slice ar n cr) n ((iL (tr P)).map (Value.int .u8)) ∧ Below W3.heap.size W3 w':=by
  refine ⟨_,rfl,(b0l a L cap P _ (HX.out.on HB3.out) (by omega)).mono ?_⟩
  rintro e w' ⟨v,rfl,hown,hb⟩
  rw [← Hn.out] at hown
  obtain ⟨ar,cr,rfl,_⟩:=a0f hown
  exact ⟨ar,cr,rfl,hown,hb⟩
 obtain ⟨W3,hW3,hTr⟩:=hTr
 have HTr:=hJ_ hTr
 rw [← hW3] at BD3 HB3
 have HW3:=hJ_ hW3
 clear hTr hW3
 have q2:¬ (d:Int) < 0:=by omega
 go_upto_region 8 with (first
  | (go_at_call 162;rw [← HW3.out];go_loud (refine HTr.out.mono ?_);rintro e w4 ⟨ar,cr,rfl,hown4,hb4⟩;have HO4:=hJ_ hown4;have BD4:=hJ_ (a5k BD3.out hb4 (by rw [HW3.out];simp));have hcd:=(BD4.out.alloc (.cells #[.slice ar n cr] 22)).cell;have HB4:=hJ_ (bt HB3.out hb4);have H34:=hJ_ hb4;clear hown4 hb4)
  | fail)
 have BR5:=hJ_ (Boxed.new w4 22 (.slice ar n cr))
 have HB5:=hJ_ (HB4.out.alloc HB4.out.size (.cells #[.slice ar n cr] 22))
 have BD5:=hJ_ (BD4.out.alloc (.cells #[.slice ar n cr] 22))
 have h24:W2.heap.size < w4.heap.size:=by have:=H34.out.size;rw [HW3.out,World.size_alloc] at this;omega
 have lift:∀ {B:Nat} {t:TypeId} {v:Value},Boxed W2 B t v → Boxed (w4.alloc (.cells #[.slice ar n cr] 22)) B t v:=fun {B t v} h => by
  have h1:Boxed W3 B t v:=by rw [HW3.out];exact h.alloc _
  exact (a5k h1 H34.out h1.lt).alloc _
 have BF5:=hJ_ (lift BF2.out)
 have BQ5:=hJ_ (lift BQ2.out)
 have HR5:Hid ((w4.alloc (.cells #[.slice ar n cr] 22)).ownsRow w.heap.size 5 1 (.slice ar n cr) n ((iL (tr P)).map (Value.int .u8)) ∧ ∀ gr off,ar = some ⟨gr,off,none⟩ → off = 0 ∧ W3.heap.size ≤ gr ∧ gr < w4.heap.size):=hJ_ ⟨a0t (own_below HO4.out ((Below.refl w4.heap.size w4).alloc (Nat.le_refl _) _)) HB3.out.size,fun gr off e => by
  rcases HO4.out.2 with ⟨h1,_⟩ | ⟨gr',c,cur,h1,h2,_⟩
  ·cases h1;cases e
  ·cases h1;cases e
   exact ⟨rfl,h2,(HO4.out.lt _ rfl).2⟩⟩
 have hbase:W3.heap.size = W2.heap.size + 1:=by rw [HW3.out,World.size_alloc]
 have hs2:w.heap.size + 2 ≤ W2.heap.size:=by have:=BQ2.out.lt;omega
 obtain ⟨sR,hsR⟩:∃ sR,sR = w4.heap.size:=⟨_,rfl⟩
 obtain ⟨sD,hsD⟩:∃ sD,sD = W2.heap.size:=⟨_,rfl⟩
 generalize hw5:w4.alloc (.cells #[.slice ar n cr] 22) = w5 at BR5 HB5 BD5 BF5 BQ5 HR5 hcd ⊢
 have hs5:=hJ_ (show w5.heap.size = sR + 1 by rw [← hw5,World.size_alloc,hsR])
 rw [← hsR] at BR5 HR5 h24 ⊢
 rw [← hsD] at BD5 h24 hs2 hbase hcd ⊢
 rw [hbase] at HR5
 clear hw5 BF2 BQ2 HB2 BD3 HB3 HTr HO4 BD4 HB4 H34 HW3 hsR hsD lift hcq2
 have hcR:=BR5.out.cell
 obtain ⟨m,hm⟩:∃ m,m = n - d:=⟨_,rfl⟩
 have Hm:=hJ_ hm
 clear hm
 go_cut [11] from 24 to 29 (fun p wx => ∃ gq Bq:Nat,p = .pointer (some ⟨Bq,0,none⟩) ∧ w5.heap.size ≤ gq ∧ w5.heap.size ≤ Bq ∧ gq ≠ Bq ∧ Hid (Boxed wx Bq 22 (.slice (some ⟨gq,0,none⟩) m m)) ∧ Hid (wx.ownsRow w.heap.size 5 1 (.slice (some ⟨gq,0,none⟩) m m) m ((iL (List.replicate m 0)).map (Value.int .u8))) ∧ Hid (Below w5.heap.size w5 wx))
 case first =>
  have hmk:=run_make_row' (P:=Tryz.prog) 22 5 (.int .u8 0) 1 Tryz.underlying22 info5 rfl .i64 .i64 m (by have:=Hm.out;omega) (by have:=Hm.out;omega)
  have hfin:∃ gq Bq:Nat,Value.pointer (some ⟨w5.heap.size + 1,0,none⟩) = .pointer (some ⟨Bq,0,none⟩) ∧ w5.heap.size ≤ gq ∧ w5.heap.size ≤ Bq ∧ gq ≠ Bq ∧ Hid (Boxed ((w5.alloc (.cells (madeCells #[.int .u8 0] m) 5)).alloc (.cells #[.slice (some ⟨w5.heap.size,0,none⟩) m m] 22)) Bq 22 (.slice (some ⟨gq,0,none⟩) m m)) ∧ Hid (((w5.alloc (.cells (madeCells #[.int .u8 0] m) 5)).alloc (.cells #[.slice (some ⟨w5.heap.size,0,none⟩) m m] 22)).ownsRow w.heap.size 5 1 (.slice (some ⟨gq,0,none⟩) m m) m ((iL (List.replicate m 0)).map (Value.int .u8))) ∧ Hid (Below w5.heap.size w5 ((w5.alloc (.cells (madeCells #[.int .u8 0] m) 5)).alloc (.cells #[.slice (some ⟨w5.heap.size,0,none⟩) m m] 22))):=by
   have h1:=a1c (w:=w5) (e:=5) (n:=m) (by unfold maxLen;have:=Hm.out;omega)
   rw [show List.replicate m (0:Int) = iL (List.replicate m 0) by simp only [iL,List.map_replicate,a5a]] at h1
   have h2:=Boxed.new (w5.alloc (.cells (madeCells #[.int .u8 0] m) 5)) 22 (.slice (some ⟨w5.heap.size,0,none⟩) m m)
   rw [World.size_alloc] at h2
   exact ⟨_,_,rfl,Nat.le_refl _,Nat.le_succ _,by omega,hJ_ h2,hJ_ (a0t (a7a h1 ((Below.refl _ _).alloc (Nat.le_refl _) _) (by simp)) HB5.out.size),hJ_ (((Below.refl _ w5).alloc (Nat.le_refl _) _).alloc (by simp) _)⟩
  have HFin:=hJ_ hfin
  clear hfin
  by_cases hdn:d < n
  ·have qm:(n:Int) - (d:Int) = (m:Int):=by have:=Hm.out;omega
   have q0:(0:Int) < (m:Int):=by have:=Hm.out;omega
   clear hdn
   go_wp2
   all_goals
    go_meet
    exact HFin.out
  ·have hm0:m = 0:=by have:=Hm.out;omega
   subst hm0
   have hmk0:∀ w:World,(Instr.makeSlice 22 (.int .i64 0) (.int .i64 0)).run Tryz.prog w = .ok (.slice (some ⟨w.heap.size,0,none⟩) 0 0) (w.alloc (.cells (madeCells #[.int .u8 0] 0) 5)):=fun w => hmk w
   clear hmk
   by_cases hnd:n = d
   ·have q0:(n:Int) - (d:Int) = 0:=by omega
    clear hdn hnd
    go_wp2
    all_goals
     go_meet
     exact HFin.out
   ·have q0:(n:Int) - (d:Int) < 0:=by omega
    clear hdn hnd
    go_wp2
    all_goals
     go_meet
     exact HFin.out
 case rest =>
  obtain ⟨gq,Bq,rfl,hgq,hBq,hne,BQt,HQt,HBc⟩:=hcut
  have hcQ:=BQt.out.cell
  rw [hs5.out] at hgq hBq
  have lift2:∀ {B:Nat} {t:TypeId} {v:Value},Boxed w5 B t v → Boxed (wc.alloc (.cells #[.slice (some ⟨gq,0,none⟩) m m] 22)) B t v:=fun {B t v} h => (a5k h HBc.out h.lt).alloc _
  have bF:=lift2 BF5.out
  have bQ:=lift2 BQ5.out
  have bD:=lift2 BD5.out
  have bR:=lift2 BR5.out
  have bT:=BQt.out.alloc (.cells #[.slice (some ⟨gq,0,none⟩) m m] 22)
  have bX:=Boxed.new wc 22 (.slice (some ⟨gq,0,none⟩) m m)
  have hrow:=own_below (own_below HR5.out.1 HBc.out) ((Below.refl wc.heap.size wc).alloc (Nat.le_refl _) (.cells #[.slice (some ⟨gq,0,none⟩) m m] 22))
  have hquo:=own_below HQt.out ((Below.refl wc.heap.size wc).alloc (Nat.le_refl _) (.cells #[.slice (some ⟨gq,0,none⟩) m m] 22))
  have hB6:Below w.heap.size w (wc.alloc (.cells #[.slice (some ⟨gq,0,none⟩) m m] 22)):=(bt HB5.out HBc.out).alloc (bt HB5.out HBc.out).size _
  have hgqlt:gq < wc.heap.size:=(HQt.out.lt gq rfl).2
  have hBqlt:Bq < wc.heap.size:=BQt.out.lt
  have hml:m ≤ 1000000:=by have:=Hm.out;omega
  obtain ⟨Bx,hBx⟩:∃ Bx,Bx = wc.heap.size:=⟨_,rfl⟩
  have hgr:=HR5.out.2
  have h5c:sR < wc.heap.size:=by have:=HBc.out.size;rw [hs5.out] at this;omega
  go_wp2_with (go_at_call 160;refine (b4m _ _ _ _).mono ?_;rintro e w6 ⟨rfl,hw6⟩;rw [← hw6] at bF bQ bD bR bT bX hrow hquo hB6;have hs6:w6.heap.size = wc.heap.size + 1:=(by rw [hw6,World.size_alloc]);have HS6:=hJ_ hs6;clear hs6 hw6)
  rw [← hBx] at bX HS6 hgqlt hBqlt h5c ⊢
  clear hBx lift2 BR5 BF5 BQ5 BD5 HB5 HBc HQt BQt HR5 hcQ hcR hcd
  have HBF:=hJ_ bF;have HBQ:=hJ_ bQ;have HBD:=hJ_ bD;have HBR:=hJ_ bR;have HBT:=hJ_ bT;have HBX:=hJ_ bX;have HROW:=hJ_ hrow;have HQUO:=hJ_ hquo;have HB6:=hJ_ hB6
  clear bF bQ bD bR bT bX hrow hquo hB6
  refine (wpIn_wide (n:=3)).1 ?_
  refine wpIn_rangeFunc_ownF rfl (by omega) (gf:=174) (lb:=#[.pointer (some ⟨Bx,0,none⟩)]) rfl trivial (enters_of Tryz.func174 (by kernel_rfl) rfl)
   (a8z Fence.wide (3 - 1) trivial rfl (by omega) Bx m m (some ⟨gq,0,none⟩) (fun _ _ => True) (by omega) _ (by rw [HS6.out];omega) (d6x HBX.out.cell HQUO.out) (fun _ bb off e => by cases e;rw [HS6.out];omega)) (fun h k r => k (h r)) (fun W l o o' _ hl ho _ r => r.put o' hl ho) (Below.refl _ _) (fun _ => by rfl)
   (fun pre W => (Boxed W w.heap.size 32 (.pointer (some ⟨b,0,none⟩)) ∧ Boxed W (w.heap.size + 1) 22 (.slice a2 dd cap2) ∧ Boxed W sD 3 (.int .i64 (d:Int)) ∧ Boxed W sR 22 (.slice ar n cr) ∧ Boxed W Bq 22 (.slice (some ⟨gq,0,none⟩) m m) ∧ Boxed W Bx 22 (.slice (some ⟨gq,0,none⟩) m m) ∧
    W.ownsRow w.heap.size 5 1 (.slice ar n cr) n ((iL (a9l d (tr Q) (List.replicate m 0,tr P) pre).2).map (Value.int .u8)) ∧ W.ownsRow w.heap.size 5 1 (.slice (some ⟨gq,0,none⟩) m m) m ((iL (a9l d (tr Q) (List.replicate m 0,tr P) pre).1).map (Value.int .u8))) ∧ Below w.heap.size w W)
   (fun _ _ _ => False)
   (OwnFrom.and (Own.from (fun s A B row hs hg hr => ⟨a2n hs.1 hg hr,a2n hs.2.1 hg hr,a2n hs.2.2.1 hg hr,a2n hs.2.2.2.1 hg hr,a2n hs.2.2.2.2.1 hg hr,a2n hs.2.2.2.2.2.1 hg hr,a2m hs.2.2.2.2.2.2.1 hg hr,a2m hs.2.2.2.2.2.2.2 hg hr⟩) _) (ownFrom_below (Nat.le_refl _) HB6.out.size))
   (fun _ _ _ _ _ hs _ _ => hs)
   ⟨⟨HBF.out,HBQ.out,HBD.out,HBR.out,HBT.out,HBX.out,HROW.out,HQUO.out⟩,HB6.out⟩
   (fun x => { tmps:=#[.pointer (some ⟨b,0,none⟩),.slice a L cap,.slice a2 L2 cap2,.pointer (some ⟨w.heap.size,0,none⟩),undef,.pointer (some ⟨w.heap.size + 1,0,none⟩),.slice none 0 0,.slice none 0 0,.int .i64 0,.pointer (some ⟨sD,0,none⟩),.pointer (some ⟨sR,0,none⟩),.pointer (some ⟨Bq,0,none⟩),.int .i64 ((x.1.1:Nat):Int),.pointer (some ⟨b,0,none⟩),.bool false,.slice a2 L2 cap2,.slice a2 dd cap2,.slice a2 dd cap2,.int .i64 (dd:Int),.int .i64 (d:Int),.int .i64 (d:Int),.bool false,.slice a L cap,.slice ar n cr,u24,u25,u26,u27,u28,u29,.slice (some ⟨gq,0,none⟩) m m,.func (.func 174) #[] #[.pointer (some ⟨Bx,0,none⟩)],.int .i64 ((x.1.1:Nat):Int),.int .u8 (toI x.2),undef,undef,undef,undef,undef,undef,undef,undef,undef,undef,undef,undef,undef,undef,undef,undef,undef,undef,undef,undef,undef,undef,undef,undef,undef,undef,undef,undef,undef,undef,undef],defers:=[] }) ?assign ?body ?done ?stop
  case assign =>
   intro l x W K hK
   dsimp only [itv]
   gi_wp2
   exact hK
  case body =>
   rintro l pre ⟨⟨i,hi⟩,c0⟩ W ⟨⟨bF,bQ,bD,bR,bT,bX,hrow,hquo⟩,hB⟩ _
   obtain ⟨A,hA⟩:∃ A,A = (a9l d (tr Q) (List.replicate m 0,tr P) pre).1:=⟨_,rfl⟩
   obtain ⟨R,hR⟩:∃ R,R = (a9l d (tr Q) (List.replicate m 0,tr P) pre).2:=⟨_,rfl⟩
   have hlen:=b0h d (tr Q) (List.replicate m 0,tr P) pre
   rw [← hA,← hR] at hlen
   rw [← hR] at hrow
   rw [← hA] at hquo
   have hAl:A.length = m:=by rw [hlen.1];simp
   have hRl:R.length = n:=by rw [hlen.2,Hn.out]
   have hidn:i + d < n:=by have:=Hm.out;omega
   obtain ⟨gr,rfl⟩:∃ gr,ar = some ⟨gr,0,none⟩:=by
    rcases hrow.2 with ⟨_,h2⟩ | ⟨gr,c,cur,h1,_⟩
    ·omega
    ·cases h1;exact ⟨gr,rfl⟩
   obtain ⟨_,hgr1,hgr2⟩:=hgr gr 0 rfl
   obtain ⟨bq,oq,rfl,hbq,hcq⟩:=HY.out.trim.at_ (k:=d) (by rw [Hd.out];omega)
   have hcr:=a0h hrow (i + d) hidn
   rw [Nat.zero_add,a0k] at hcr
   have hcg:=a0h hquo i hi
   rw [Nat.zero_add] at hcg
   have hfz:=hquo.frozenAt i
   have hcl:W.cell? ⟨bq,oq + d,none⟩ = some (.int .u8 (toI (co (tr Q) d))):=(hB.cell (p:=⟨bq,oq + d,none⟩) hbq).trans hcq
   have hfw:=HF.out.below hB
   have hld:co (tr Q) d ≠ 0:=by have:=a5r Q Hq.out;rw [Hd.out,Nat.add_sub_cancel] at this;rwa [a2y]
   have hcF:=bF.cell;have hcQ:=bQ.cell;have hcD:=bD.cell;have hcR:=bR.cell;have hcT:=bT.cell
   have HLd:=hJ_ hld
   have qi0:(0:Int) ≤ (i:Int):=by omega
   have qim:(i:Int) < (m:Int):=by omega
   have qd0:(0:Int) ≤ (d:Int):=by omega
   have qdd:(d:Int) < (dd:Int):=by omega
   have hwr:IntKind.i64.wrap ((i:Int) + (d:Int)) = ((i + d:Nat):Int):=by rw [IntKind.wrap_i64];omega
   have qid:((i + d:Nat):Int) < (n:Int):=by omega
   have qs0:(0:Int) ≤ (i:Int) + (d:Int):=by omega
   have qsn:(i:Int) + (d:Int) < (n:Int):=by omega
   have qst:((i:Int) + (d:Int)).toNat = i + d:=by omega
   obtain ⟨c,hc⟩:∃ c,c = co R (i + d) * GF.inv (co (tr Q) d):=⟨_,rfl⟩
   have Kc:=hJ_ hc
   have hdv:=e3p b (co R (i + d)) (co (tr Q) d) W.drew hfw HLd.out
   rw [← hc] at hdv
   have KDv:=hJ_ hdv
   clear hc hdv
   have hneg:gr ≠ gq:=by omega
   have hg1':=b7x W gq i (.int .u8 (toI c))
   have hst:=(hquo.stored i (.int .u8 (toI c))).1
   rw [a1h,show (iL A).set i (toI c) = iL (A.set i c) by simp [iL,List.map_set]] at hst
   have J1:=hJ_ (And.intro (a7x hst) (And.intro (a7x (hrow.kept hg1' (.inr (by simp [Value.ownBlock];omega)))) (And.intro (a2c hg1') ((hB.setCell (p:=⟨gq,i,none⟩) (show w.heap.size ≤ gq by omega) (.int .u8 (toI c))).drew))))
   have J2:=hJ_ (And.intro (bF.kept (a2c hg1') (by simp;omega)) (And.intro (bQ.kept (a2c hg1') (by simp;omega)) (And.intro (bD.kept (a2c hg1') (by simp;omega)) (And.intro (bR.kept (a2c hg1') (by simp;omega)) (And.intro (bT.kept (a2c hg1') (by simp;omega)) (bX.kept (a2c hg1') (by simp;omega)))))))
   have J3:=hJ_ ((KeepsOthers.setCell W ⟨gq,i,none⟩ (.int .u8 (toI c))).trans (KeepsOthers.drew _))
   have hcrn:n ≤ cr:=by
    rcases hrow.2 with ⟨h1,_⟩ | ⟨_,_,_,h1,_,_,h4,_⟩
    ·cases h1
    ·cases h1;exact h4
   have hcrm:cr ≤ 9223372036854775807:=by
    rcases hrow.2 with ⟨h1,_⟩ | ⟨_,_,_,h1,_,_,_,h5,_⟩
    ·cases h1
    ·cases h1;exact h5
   have KBs:=hJ_ HY.out.trim.1.2.2.1
   have KDim:=hJ_ (And.intro hneg (And.intro hcrn hcrm))
   clear hst hg1' hneg hcrn hcrm
   have KF:=hJ_ bF;have KQ:=hJ_ bQ;have KD:=hJ_ bD;have KR:=hJ_ bR;have KT:=hJ_ bT;have KX:=hJ_ bX;have KRow:=hJ_ hrow;have KQuo:=hJ_ hquo;have KB:=hJ_ hB;have KFw:=hJ_ hfw
   have KA:=hJ_ hA;have KRR:=hJ_ hR;have KAl:=hJ_ hAl;have KRl:=hJ_ hRl;have Kcq:=hJ_ hcq;have Kgr:=hJ_ hgr;have Kbq:=hJ_ hbq;have Kidn:=hJ_ hidn;have Kg1:=hJ_ (And.intro hgr1 hgr2)
   clear hld bF bQ bD bR bT bX hrow hquo hB hfw hA hR hAl hRl hcq hgr hbq hidn hgr1 hgr2 hlen qid
   gi_wp2
   refine a6o (fun V => V.cell? ⟨w.heap.size,0,none⟩ = some (.pointer (some ⟨b,0,none⟩)) ∧ V.cell? ⟨w.heap.size + 1,0,none⟩ = some (.slice (some ⟨bq,oq,none⟩) dd cap2) ∧ V.cell? ⟨sD,0,none⟩ = some (.int .i64 (d:Int)) ∧ V.cell? ⟨sR,0,none⟩ = some (.slice (some ⟨gr,0,none⟩) n cr) ∧ V.cell? ⟨Bq,0,none⟩ = some (.slice (some ⟨gq,0,none⟩) m m) ∧ V.cell? ⟨gr,i + d,none⟩ = some (.int .u8 (toI (co R (i + d)))) ∧ V.cell? ⟨bq,oq + d,none⟩ = some (.int .u8 (toI (co (tr Q) d)))) (by kernel_rfl) (by kernel_rfl) (fun ⟨_,_,h⟩ => h) ?_
   have hHeld:W.drew.cell? ⟨w.heap.size,0,none⟩ = some (.pointer (some ⟨b,0,none⟩)) ∧ W.drew.cell? ⟨w.heap.size + 1,0,none⟩ = some (.slice (some ⟨bq,oq,none⟩) dd cap2) ∧ W.drew.cell? ⟨sD,0,none⟩ = some (.int .i64 (d:Int)) ∧ W.drew.cell? ⟨sR,0,none⟩ = some (.slice (some ⟨gr,0,none⟩) n cr) ∧ W.drew.cell? ⟨Bq,0,none⟩ = some (.slice (some ⟨gq,0,none⟩) m m) ∧ W.drew.cell? ⟨gr,i + d,none⟩ = some (.int .u8 (toI (co R (i + d)))) ∧ W.drew.cell? ⟨bq,oq + d,none⟩ = some (.int .u8 (toI (co (tr Q) d))):=⟨hcF,hcQ,hcD,hcR,hcT,hcr,hcl⟩
   have KH:=hJ_ hHeld
   have hs:∀ k,k ≠ gq → ∀ {o:Nat} {u:Value},W.drew.cell? ⟨k,o,none⟩ = some u → (W.drew.setCell ⟨gq,i,none⟩ (.int .u8 (toI c))).cell? ⟨k,o,none⟩ = some u:=fun k hk {o u} h => cell_of_heap h (Below.heap_setCell _ _ _ _ hk)
   have hg1:=Kg1.out.1
   have hg2:=Kg1.out.2
   have hbq:=Kbq.out
   have KH1:=hJ_ (And.intro (hs _ (by omega) hHeld.1) (And.intro (hs _ (by omega) hHeld.2.1) (And.intro (hs _ (by omega) hHeld.2.2.1) (And.intro (hs _ (by omega) hHeld.2.2.2.1) (And.intro (hs _ (Ne.symm hne) hHeld.2.2.2.2.1) (And.intro (hs _ (by omega) hHeld.2.2.2.2.2.1) (hs _ (by omega) hHeld.2.2.2.2.2.2)))))))
   clear hs hg1 hg2 hbq
   clear hcF hcQ hcD hcR hcT hcr hcl
   refine tk 0 _ hHeld ?_
   simp only [Act.put,p1',p2',p3']
   refine tk 1 _ hHeld ?_
   simp only [Act.put,p1',p2',p3']
   refine tk 2 _ hHeld ?_
   simp only [Act.put,p1',p2',p3']
   refine tk 3 _ hHeld ?_
   simp only [Act.put,p1',p2',p3']
   refine tk 4 _ hHeld ?_
   simp only [Act.put,p1',p2',p3']
   refine tk 5 _ hHeld ?_
   simp only [Act.put,p1',p2',p3']
   refine tk 6 _ hHeld ?_
   simp only [Act.put,p1',p2',p3']
   refine tk 7 _ hHeld ?_
   simp only [Act.put,p1',p2',p3']
   refine tk 8 _ hHeld ?_
   simp only [Act.put,p1',p2',p3']
   refine tk 9 _ hHeld ?_
   simp only [Act.put,p1',p2',p3']
   refine tk 10 _ hHeld ?_
   simp only [Act.put,p1',p2',p3']
   refine tk 11 _ hHeld ?_
   simp only [Act.put,p1',p2',p3']
   refine tk 12 _ hHeld ?_
   simp only [Act.put,p1',p2',p3']
   refine wpAnyH_ready (rs:=[13]) (by kernel_rfl) (by simp) ?_
   refine AllReadyH.cons rfl (fun K hK => ?_) AllReadyH.nil
   go_simp
   go_wp2_with (go_at_call 134;refine KDv.out.mono ?_;rintro e w' ⟨rfl,rfl⟩)
   refine hK.out _ _ KH.out (fun hHeld => ?_)
   clear hK K hHeld
   have hHeld:=KH.out
   refine tk 14 _ hHeld ?_
   simp only [Act.put,p1',p2',p3']
   refine tk 15 _ hHeld ?_
   simp only [Act.put,p1',p2',p3']
   refine tk 16 _ hHeld ?_
   simp only [Act.put,p1',p2',p3']
   refine tk 17 _ hHeld ?_
   simp only [Act.put,p1',p2',p3']
   refine wpAnyH_ready (rs:=[18]) (by kernel_rfl) (by simp) ?_
   refine AllReadyH.cons rfl (fun K hK => ?_) AllReadyH.nil
   go_simp
   refine hK.out _ _ KH1.out (fun hHeld => ?_)
   clear hK K
   refine wpAnyH_done (by kernel_rfl) ?_ _
   clear hHeld
   have J1':Hid (((W.setCell ⟨gq,i,none⟩ (.int .u8 (toI c))).drew).ownsRow w.heap.size 5 1 (.slice (some ⟨gq,0,none⟩) m m) m ((iL (A.set i c)).map (Value.int .u8)) ∧ ((W.setCell ⟨gq,i,none⟩ (.int .u8 (toI c))).drew).ownsRow w.heap.size 5 1 (.slice (some ⟨gr,0,none⟩) n cr) n ((iL R).map (Value.int .u8)) ∧ W.grownBy ((W.setCell ⟨gq,i,none⟩ (.int .u8 (toI c))).drew) (some gq) ∧ Below w.heap.size w ((W.setCell ⟨gq,i,none⟩ (.int .u8 (toI c))).drew)):=J1
   generalize (W.setCell ⟨gq,i,none⟩ (.int .u8 (toI c))).drew = W1 at J1' J2 J3 ⊢
   clear J1 KH KH1 KDv hcg hfz
   have hcqi:=a0h J1'.out.1 i hi
   rw [Nat.zero_add,a0k,b3o (by rw [KAl.out];exact hi),if_pos rfl] at hcqi
   have hAdd:=a5m b gr i (n - i) (cr - i) n cr w.heap.size c (some ⟨bq,oq,none⟩) dd cap2 R (tr Q) W1.drew (HF.out.below J1'.out.2.2.2.drew) (by have:=Kg1.out.1;omega) (a7x J1'.out.2.1) (Pn.below KBs.out J1'.out.2.2.2.drew (by have:=Kg1.out.1;omega)) (by rw [Hd.out,Hdd.out]) (by have:=Kidn.out;have:=Hdd.out;omega) (by have:=Kidn.out;have:=Hdd.out;omega) (by omega)
   have KAdd:=hJ_ hAdd
   have hHeld:W1.drew.cell? ⟨w.heap.size,0,none⟩ = some (.pointer (some ⟨b,0,none⟩)) ∧ W1.drew.cell? ⟨w.heap.size + 1,0,none⟩ = some (.slice (some ⟨bq,oq,none⟩) dd cap2) ∧ W1.drew.cell? ⟨sR,0,none⟩ = some (.slice (some ⟨gr,0,none⟩) n cr) ∧ W1.drew.cell? ⟨Bq,0,none⟩ = some (.slice (some ⟨gq,0,none⟩) m m) ∧ W1.drew.cell? ⟨gq,i,none⟩ = some (.int .u8 (toI c)):=⟨J2.out.1.cell,J2.out.2.1.cell,J2.out.2.2.2.1.cell,J2.out.2.2.2.2.1.cell,hcqi⟩
   have KH2:=hJ_ hHeld
   have qin:(i:Int) < (n:Int):=by have:=Kidn.out;omega
   have qin':(i:Int) ≤ (n:Int):=by omega
   have qicr:(i:Int) < (cr:Int):=by have:=KDim.out;omega
   have qicr':i < cr:=by omega
   have qcri:¬ cr = i:=by omega
   have qnin:i < n:=by omega
   have qncr:(n:Int) ≤ (cr:Int):=by have:=KDim.out;omega
   clear hAdd hcqi hHeld
   gi_wp2
   refine a6o (fun V => V.cell? ⟨w.heap.size,0,none⟩ = some (.pointer (some ⟨b,0,none⟩)) ∧ V.cell? ⟨w.heap.size + 1,0,none⟩ = some (.slice (some ⟨bq,oq,none⟩) dd cap2) ∧ V.cell? ⟨sR,0,none⟩ = some (.slice (some ⟨gr,0,none⟩) n cr) ∧ V.cell? ⟨Bq,0,none⟩ = some (.slice (some ⟨gq,0,none⟩) m m) ∧ V.cell? ⟨gq,i,none⟩ = some (.int .u8 (toI c))) (by kernel_rfl) (by kernel_rfl) (fun ⟨_,_,h⟩ => h) ?_
   have hHeld:=KH2.out
   refine tk 0 _ hHeld ?_
   simp only [Act.put,p1',p2',p3']
   refine tk 1 _ hHeld ?_
   simp only [Act.put,p1',p2',p3']
   refine tk 2 _ hHeld ?_
   simp only [Act.put,p1',p2',p3']
   refine tk 3 _ hHeld ?_
   simp only [Act.put,p1',p2',p3']
   refine tk 4 _ hHeld ?_
   simp only [Act.put,p1',p2',p3']
   refine tk 5 _ hHeld ?_
   simp only [Act.put,p1',p2',p3']
   refine tk 6 _ hHeld ?_
   simp only [Act.put,p1',p2',p3']
   refine tk 7 _ hHeld ?_
   simp only [Act.put,p1',p2',p3']
   refine tk 8 _ hHeld ?_
   simp only [Act.put,p1',p2',p3']
   refine wpAnyH_ready (rs:=[9]) (by kernel_rfl) (by simp) ?_
   refine AllReadyH.cons rfl (fun K hK => ?_) AllReadyH.nil
   go_simp
   go_wp2_with (go_at_call 157;refine KAdd.out.mono ?_;rintro e w3 ⟨rfl,hown3,hg3⟩;have K3:=hJ_ (And.intro hown3 hg3);clear hown3 hg3)
   have hg3:=K3.out.2
   have hgr1:=Kg1.out.1
   have hgr2:=Kg1.out.2
   have hgr3:=KDim.out.1
   refine hK.out _ _ ⟨hg3.cell KH2.out.1 (by simp;omega),hg3.cell KH2.out.2.1 (by simp;omega),hg3.cell KH2.out.2.2.1 (by simp;omega),hg3.cell KH2.out.2.2.2.1 (by simp;omega),hg3.cell KH2.out.2.2.2.2 (by simp;omega)⟩ (fun hHeld => ?_)
   clear hK K
   refine wpAnyH_done (by kernel_rfl) ?_ _
   have q2:(a9l d (tr Q) (List.replicate m 0,tr P) (pre ++ [((⟨i,hi⟩:Fin m),c0)])).2 = axp R i c (tr Q):=by rw [b1r];simp only [c9v];rw [← KRR.out,← Kc.out]
   have q3:(a9l d (tr Q) (List.replicate m 0,tr P) (pre ++ [((⟨i,hi⟩:Fin m),c0)])).1 = A.set i c:=by rw [b1r];simp only [c9v];rw [← KRR.out,← KA.out,← Kc.out]
   have e1:=(show Boxed W1.drew _ _ _ from J2.out.1).kept hg3 (by simp;omega)
   have e2:=(show Boxed W1.drew _ _ _ from J2.out.2.1).kept hg3 (by simp;omega)
   have e3:=(show Boxed W1.drew _ _ _ from J2.out.2.2.1).kept hg3 (by simp;omega)
   have e4:=(show Boxed W1.drew _ _ _ from J2.out.2.2.2.1).kept hg3 (by simp;omega)
   have e5:=(show Boxed W1.drew _ _ _ from J2.out.2.2.2.2.1).kept hg3 (by simp;omega)
   have e6:=(show Boxed W1.drew _ _ _ from J2.out.2.2.2.2.2).kept hg3 (by simp;omega)
   have e7:=(a7x J1'.out.1).kept hg3 (.inr (by simp [Value.ownBlock];omega))
   have e8:=J1'.out.2.2.2.drew.trans (a7g hg3 (show w.heap.size ≤ gr by omega) J1'.out.2.2.2.size)
   have e9:=J3.out.trans ((KeepsOthers.drew W1).trans (KeepsOthers.of_grownBy hg3 (fun j o ej hj => by cases ej;exact b8o (a7x J1'.out.2.1) _ hj)))
   have e10:=K3.out.1
   rw [← q2] at e10
   rw [← q3] at e7
   have E:=hJ_ (And.intro e9 (And.intro (d6x e6.cell e7) (And.intro (And.intro e1 (And.intro e2 (And.intro e3 (And.intro e4 (And.intro e5 (And.intro e6 (And.intro e10 e7))))))) e8)))
   clear e1 e2 e3 e4 e5 e6 e7 e8 e9 e10 q2 q3 hg3 hHeld
   gi_wp2
   exact ⟨E.out.1,fun _ => E.out.2.1,E.out.2.2⟩
  case done =>
   rintro D ys W hD ⟨hys,hbk⟩ ⟨⟨bF,bQ,bD,bR,bT,bX,hrow,hquo⟩,hB⟩ hK
   have hok:=d7h Hn.out Hd.out Hq.out Hm.out ys hys hbk
   have hlen:=b0h d (tr Q) (List.replicate m 0,tr P) ys
   obtain ⟨A,hA⟩:∃ A,A = (a9l d (tr Q) (List.replicate m 0,tr P) ys).1:=⟨_,rfl⟩
   obtain ⟨R,hR⟩:∃ R,R = (a9l d (tr Q) (List.replicate m 0,tr P) ys).2:=⟨_,rfl⟩
   rw [← hA,← hR] at hok hlen
   rw [← hR] at hrow
   rw [← hA] at hquo
   have hAl:A.length = m:=by rw [hlen.1];simp
   have KOk:=hJ_ hok
   have KAl:=hJ_ hAl
   have KQuo:=hJ_ hquo
   have KB:=hJ_ hB
   have hPR:Pa W ar n cr R:=by
    obtain ⟨a',c',e,hp⟩:=c8i hrow
    cases e
    exact hp
   have hTr:=fun (V:World) (hV:Below W.heap.size W V) => b0l ar n cr R V (hPR.on hV) (by omega)
   have KTr:=hJ_ hTr
   have hcT:=bT.cell
   have hcR:=bR.cell
   have hBTl:=bT.lt
   have hBRl:=bR.lt
   have hDl:=(Array.getElem?_eq_some_iff.1 hK).1
   have KD:=hJ_ hK
   clear hok hlen hA hR hAl hquo hB hPR hTr bF bQ bD bX hrow hK
   go_wp2_with fail
   refine b3u ?_
   go_region_held (fun V => V.cell? ⟨Bq,0,none⟩ = some (.slice (some ⟨gq,0,none⟩) m m) ∧ V.cell? ⟨sR,0,none⟩ = some (.slice ar n cr) ∧ Below W.heap.size W V) (first | exact ⟨hcT,hcR,(Below.refl _ _).drew⟩ | assumption | exact ⟨(hb9.cell (p:=⟨Bq,0,none⟩) hBTl).trans hcT,(hb9.cell (p:=⟨sR,0,none⟩) hBRl).trans hcR,hb9⟩)
    (first | (go_at_call 162;refine (KTr.out _ ((Below.refl _ _).drew)).mono ?_;rintro e w9 ⟨v9,rfl,hown9,hb9'⟩;obtain ⟨a9,c9,hv9,_,_,_,_,_⟩:=a0f hown9;subst hv9;have hb9:Below W.heap.size W w9:=bt ((Below.refl _ _).drew) hb9';have K9:=hJ_ hown9;clear hown9))
   have hK9:w9.heap[D]? = some (.deferred (some [])):=(hb9.block D hDl).trans KD.out
   have hq9:=own_below KQuo.out hb9
   simp only [d1z]
   go_wp2
   refine ⟨by simp,.inl ⟨_,_,rfl,run_takeDeferred hK9,?_⟩⟩
   refine ⟨_,results_tmp3 rfl _ _ _,_,_,A,R,rfl,?_,?_,hJ_ ⟨by have:=KAl.out;have:=Hm.out;have:=KnL.out;omega,KOk.out⟩,?_⟩
   ·rw [KAl.out]
    exact a2m hq9 (grownBy_putObj' _ D (.deferred none)) (fun r e => by cases e;exact ⟨_,hK9,rfl⟩)
   ·exact a2m (a0t K9.out KB.out.size) (grownBy_putObj' _ D (.deferred none)) (fun r e => by cases e;exact ⟨_,hK9,rfl⟩)
   ·exact (bt KB.out hb9).trans (belowK_b (w:=w) (Nat.le_refl _) w9 D _ _ (by have:=HB6.out.size;omega) hK9 rfl rfl)
  case stop =>
   rintro D c pre W _ _ h _
   exact h.elim
end
theorem d1l (w:World) (c d:GF):(w.alloc (.cells #[.int .u8 (toI c),.int .u8 (toI d)] 5)).ownsRow w.heap.size 5 1 (.slice (some ⟨w.heap.size,0,none⟩) 2 2) 2 ((iL [c,d]).map (Value.int .u8)):=
 World.ownsRow_lit (base:=w.heap.size) (e:=5) (size:=1) w #[.int .u8 (toI c),.int .u8 (toI d)] 2 (Nat.le_refl _) (by unfold maxLen;omega) rfl
end Go.Proofs.YtappfdbmhgifcaaGreatDoor
