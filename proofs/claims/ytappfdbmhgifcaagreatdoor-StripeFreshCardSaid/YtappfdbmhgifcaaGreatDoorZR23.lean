/- Texts of mine, one behind the other: Hz1 No QK5. -/
import Derived.Test.YtappfdbmhgifcaaGreatDoorZR22
set_option linter.unusedVariables false
set_option linter.unusedSimpArgs false
set_option maxRecDepth 100000
namespace Go.Proofs.YtappfdbmhgifcaaGreatDoor
open Go.ChangeShapes Go.WideShapes Go.ChangeAt Go.RowKit Go.Shelf GF
def frB (bl:Bool) (B:List GF):List GF:=if bl = true then noR 440 else B
def frR (bl:Bool) (R:List GF) (L:Nat):List GF:=if bl = true then noR L else R
theorem c4r {bl:Bool} {B:List GF} (h:B.length = 440):(frB bl B).length = 440:=by
 unfold frB;split
 ·exact List.length_replicate
 ·exact h
theorem d7r {bl:Bool} {R:List GF} {L:Nat} (h:R.length = L):(frR bl R L).length = L:=by
 unfold frR;split
 ·exact List.length_replicate
 ·exact h
def frQ (m:Int) (bl:Bool) (T:Nat) (B R:List GF) (L:Nat):List (List GF):=if m = 1 ∧ bl = true then noQ (ceil 473 T) else qM m T (frB bl B) (frR bl R L)
def frF (m:Int) (bl:Bool) (T:Nat) (B R M:List GF) (L:Nat):List (List GF):=if m = 1 ∧ bl = true then noQ (ceil 473 T) else if m = 0 then qS T (frB bl B) (a6z (frR bl R L) M) else a9s (a6y M (frB bl B)) T
theorem e4d (bl:Bool) (T:Nat) (B R:List GF) (L:Nat):frQ 0 bl T B R L = qS T (frB bl B) (frR bl R L):=by
 unfold frQ;rw [if_neg (by omega)];rfl
theorem d2m (bl:Bool) (T:Nat) (B R M:List GF) (L:Nat):frF 0 bl T B R M L = qS T (frB bl B) (a6z (frR bl R L) M):=by
 unfold frF;rw [if_neg (by omega),if_pos rfl]
theorem d5e (T:Nat) (B R:List GF) (L:Nat):frQ 1 true T B R L = noQ (ceil 473 T):=rfl
theorem e3h (T:Nat) (B R M:List GF) (L:Nat):frF 1 true T B R M L = noQ (ceil 473 T):=rfl
theorem e8w (m:Int) (T:Nat) (B R:List GF) (L:Nat):frQ m false T B R L = qM m T B R:=by
 unfold frQ;rw [if_neg (by simp)];rfl
theorem d4p {m:Int} {T N C:Nat} (h:Sh m T N C) (bl:Bool) (B R M:List GF) (L:Nat):a9r (frF m bl T B R M L) (a4l m T) T:=by
 rcases h.1 with rfl | rfl
 ·rw [d2m,c9m];exact e9l _ _ h.2.1
 ·cases bl with
  | true => exact c7g _ _
  | false => exact a4y _ T
theorem e2d {m:Int} {T N C:Nat} (h:Sh m T N C) (bl:Bool) {B R M:List GF} {L:Nat} (hB:B.length = 440) (hM:M.length = L) (hL:L = a4v m T):Tel m T (frF m bl T B R M L) (frB bl B):=by
 rcases h.1 with rfl | rfl
 ·rw [d2m];exact e8r (c4r hB)
 ·cases bl with
  | true => exact e6d T
  | false => exact e8f hB (by rw [hM,hL];rfl)
theorem c2a {m:Int} {T N C:Nat} (h:Sh m T N C) (B R:List GF) (L:Nat):stR (frQ m true T B R L) N = List.replicate N (noR (a4l m T)):=by
 rcases h.1 with rfl | rfl
 ·rw [e4d,c9m];exact d2l T 440 L N
 ·rw [d5e];exact d0d _ N
theorem d4b {M:List GF} {L:Nat} (h:M.length = L):a6z (noR L) M = M:=by
 have hl:(noR L).length = M.length:=by rw [h];exact List.length_replicate
 refine a1i (by rw [a4q,hl]) fun j hj => ?_
 rw [a7p hl,a9g,GF.zero_add]
theorem d5b {E W:List GF} {L:Nat} (hE:E.length = L) (hW:W.length = L):b7p E W L = a6z W E:=by
 refine a1i (by rw [a3u,a4q,hE,hW]) fun j hj => ?_
 rw [a3u,hE] at hj
 rw [b1g (by rw [hE];exact hj),if_pos hj,a7p (by rw [hE,hW]),GF.add_comm]
theorem d8n (b:Nat) (m:Int) (T N C:Nat) (bl:Bool) (aR:Option Addr) (cR:Nat) (B R:List GF) (aM:Option Addr) (L cM:Nat) (M:List GF) (w:World) (h:Sh m T N C) (hG:Gl w) (hf:Fld w b) (hR:Mat w aR N cR (stR (frQ m bl T B R L) N)) (hM:Pa w aM L cM M) (hL:L = a4v m T) (hn:N ≤ 200) (hB:B.length = 440) (hRl:R.length = L) :
 Calls Tryz.prog 21 #[.agg #[.int .i64 m,.int .i64 (T:Nat),.int .i64 (N:Nat),.int .i64 (C:Nat)],.pointer (some ⟨b,0,none⟩),.slice aR N cR,.slice aM L cM] w fun e w' => ∃ a' c',e = .returned (.tuple #[.slice a' N c',.int .i64 0]) ∧ a4j w' w.heap.size a' N c' (stR (frF m bl T B R M L) N) ∧ Below w.heap.size w w':=by
 rcases h.1 with rfl | rfl
 ·rw [e4d] at hR
  rw [d2m]
  exact f0g b T N C aR cR (frB bl B) (frR bl R L) aM L cM M w h hG hf hR hM hL (c4r hB) (d7r hRl)
 ·obtain rfl:L = 32:=hL
  cases bl with
  | true => exact f0d b T N C aR cR aM cM M w h hG hf hR hM hn
  | false => exact f0j b T N C aR cR R B aM cM M w h hG hf hR hM hn hRl hB
theorem c4w {vs us:List Value} {i:Nat} (v:Value) (h:vs.length = i) (hu:i < us.length):(vs ++ us.drop i).set i v = (vs ++ [v]) ++ us.drop (i + 1):=by
 subst h
 rw [List.set_append_right _ _ (Nat.le_refl _),Nat.sub_self,List.drop_eq_getElem_cons hu,List.set_cons_zero,List.append_assoc]
 rfl
theorem b5o {vs us:List Value} {i:Nat} (h:vs.length = i):(vs ++ us.drop i)[i]? = us[i]?:=by
 subst h
 rw [List.getElem?_append_right (Nat.le_refl _),Nat.sub_self,List.getElem?_drop,Nat.add_zero]
end Go.Proofs.YtappfdbmhgifcaaGreatDoor
namespace Go.Proofs.YtappfdbmhgifcaaGreatDoor
open Go.RowKit
theorem a3x {P:Program} {w:World} {o:Oper} {a:Act} {K:Act → World → Prop} {Q:Exit → Act → World → Prop} (s x:Operand) (t:TypeId)
 (ho:o.op = .call { callee:=.builtin .append,args:=#[s,x],argTypes:=#[t,t] })
 (e:TypeId) (i:TypeInfo) (ht:P.underlying t = some (.slice e)) (hi:P.info? e = some i) (hz:i.zero = some (.int .u8 0)) (hsize:i.size = 1) (hby:i.bytes = 1)
 (ad:Option Addr) (n c:Nat) (l:List Int) (hs:a.eval s = .slice ad n c) (hA:a1l w ad n c l) (hn:0 < n)
 (bd:Option Addr) (m d:Nat) (k:List Int) (hx:a.eval x = .slice bd m d) (hB:a1l w bd m d k) (hm:0 < m) (hfull:c < n + m) (hbytes:n + m ≤ 140737488355328)
 (h:∀ g cap w',a1l w' (some ⟨g,0,none⟩) (n + m) cap (l ++ k) → Below w.heap.size w w' → K (a.put o.dst (.slice (some ⟨g,0,none⟩) (n + m) cap)) w'):o.wp P a w K Q:=by
 obtain ⟨hl,hlB,hlb,_,_⟩:=hA
 obtain ⟨hk,hkB,hkb,_,_⟩:=hB
 obtain ⟨a1,rfl,hc1⟩:=hlb.cells (by simpa [hl] using hn)
 obtain ⟨a2,rfl,hc2⟩:=hkb.cells (by simpa [hk] using hm)
 obtain ⟨v',w',hrun,r1,r2⟩:=run_append_arg_grows (P:=P) w t o.type e i (.int .u8 0) 1 1 ht hi hz hsize hby rfl (by decide) a1 n c (l.map (Value.int .u8)) (by simp [hl]) hc1 a2 m d (k.map (Value.int .u8)) (by simp [hk]) hc2 hfull (by unfold maxLen;omega) (by omega)
 obtain ⟨g,cap,rfl⟩:∃ g cap,v' = .slice (some ⟨g,0,none⟩) (n + m) cap:=by
  rcases r1.2 with ⟨_,h0⟩ | ⟨g,cap,cur,hv,_⟩
  ·omega
  ·exact ⟨g,cap,hv⟩
 rw [← List.map_append] at r1
 obtain ⟨a',c',hv,hbs,hlen,hc3,hc4,_⟩:=a0f r1
 cases hv
 unfold Oper.wp
 simp [execOp,ho,resolve,invoke,builtin,hs,hx,hrun,Result.andThen]
 exact h g cap w' ⟨hlen,(fun y hy => (List.mem_append.1 hy).elim (hlB y) (hkB y)),hbs,hc3,hc4⟩ ((Below.refl _ _).grown r2 (Nat.le_refl _) (fun k hk => by cases hk))
theorem a7u {P:Program} {w:World} {ops:Array Oper} {rest:List Oper} {o:Oper} {a:Act} {Q:Exit → Act → World → Prop} (hgd:o.guard = none) (s x:Operand) (t:TypeId)
 (ho:o.op = .call { callee:=.builtin .append,args:=#[s,x],argTypes:=#[t,t] })
 (e:TypeId) (i:TypeInfo) (ht:P.underlying t = some (.slice e)) (hi:P.info? e = some i) (hz:i.zero = some (.int .u8 0)) (hsize:i.size = 1) (hby:i.bytes = 1)
 (ad:Option Addr) (n c:Nat) (l:List Int) (hs:a.eval s = .slice ad n c) (hA:a1l w ad n c l) (hn:0 < n)
 (bd:Option Addr) (m d:Nat) (k:List Int) (hx:a.eval x = .slice bd m d) (hB:a1l w bd m d k) (hm:0 < m) (hfull:c < n + m) (hbytes:n + m ≤ 140737488355328)
 (h:∀ g cap w',a1l w' (some ⟨g,0,none⟩) (n + m) cap (l ++ k) → Below w.heap.size w w' → wpList P ops Q rest (a.put o.dst (.slice (some ⟨g,0,none⟩) (n + m) cap)) w'):wpList P ops Q (o :: rest) a w:=
 wpList_plain hgd fun K hK => a3x s x t ho e i ht hi hz hsize hby ad n c l hs hA hn bd m d k hx hB hm hfull hbytes fun g cap w' h1 h2 => hK _ _ (h g cap w' h1 h2)
end Go.Proofs.YtappfdbmhgifcaaGreatDoor
namespace Go.Proofs.YtappfdbmhgifcaaGreatDoor
open Go.ChangeShapes Go.WideShapes Go.ChangeAt Go.RowKit
def e8b (v i:Nat):Nat:=(((((v / 2 ^ i % 2) ^^^ (v / 2 ^ ((i + 4) % 8) % 2)) ^^^ (v / 2 ^ ((i + 5) % 8) % 2)) ^^^ (v / 2 ^ ((i + 6) % 8) % 2)) ^^^ (v / 2 ^ ((i + 7) % 8) % 2)) ^^^ (99 / 2 ^ i % 2)
def d1h (v:Nat):Nat → Nat
 | 0 => 0
 | i + 1 => d1h v i + e8b v i * 2 ^ i
theorem e0c:a9o 256 (fun v => d1h v 8 == aff v) = true:=by decide +kernel
set_option maxHeartbeats 4000000 in
theorem a3b (x:Nat) (hx:x < 256) (w:World):Calls Tryz.prog 87 #[.int .u8 (x:Nat)] w fun e w' => e = .returned (.int .u8 ((box x:Nat):Int)) ∧ ∃ n,w' = w.drewN n:=by
 have HI:=hJ_ (c0u x hx)
 have hV:=a6x x
 have HB:=hJ_ (show box x = aff (inv x) from rfl)
 obtain ⟨V,hVV⟩:∃ V,V = inv x:=⟨_,rfl⟩
 rw [← hVV] at HI hV HB
 clear hVV
 go_enter Tryz.func87,Tryz.ntmps87
 go_wp2_with (go_at_call 110;(with_reducible refine (HI.out w).mono ?_);rintro e w' ⟨rfl,rfl⟩)
 go_loopw [4,5] (fun o q wr => ∃ i n:Nat,i ≤ 8 ∧ q = .int .i64 (i:Nat) ∧ o = .int .u8 ((d1h V i:Nat):Int) ∧ wr = w.drewN n) (fun _ q _ => 8 - (intOf q).toNat)
 case atStart => exact ⟨0,0,by omega,rfl,rfl,rfl⟩
 case round =>
  obtain ⟨i,n,hi,rfl,rfl,rfl⟩:=hrel
  by_cases hlt:i < 8
  ·have hc:i = 0 ∨ i = 1 ∨ i = 2 ∨ i = 3 ∨ i = 4 ∨ i = 5 ∨ i = 6 ∨ i = 7:=by omega
   clear hlt hi
   have hV2:(V:Int) < 256:=by omega
   rcases hc with rfl | rfl | rfl | rfl | rfl | rfl | rfl | rfl
   ·go_wp2_with fail
    go_quiet (fail)
    go_wp2
    refine ⟨⟨1,_,by omega,rfl,congrArg (Value.int .u8) ?_,rfl⟩,by simp [intOf]⟩
    clear HB HI hV2
    revert V
    decide +kernel
   ·go_wp2_with fail
    go_quiet (fail)
    go_wp2
    refine ⟨⟨2,_,by omega,rfl,congrArg (Value.int .u8) ?_,rfl⟩,by simp [intOf]⟩
    clear HB HI hV2
    revert V
    decide +kernel
   ·go_wp2_with fail
    go_quiet (fail)
    go_wp2
    refine ⟨⟨3,_,by omega,rfl,congrArg (Value.int .u8) ?_,rfl⟩,by simp [intOf]⟩
    clear HB HI hV2
    revert V
    decide +kernel
   ·go_wp2_with fail
    go_quiet (fail)
    go_wp2
    refine ⟨⟨4,_,by omega,rfl,congrArg (Value.int .u8) ?_,rfl⟩,by simp [intOf]⟩
    clear HB HI hV2
    revert V
    decide +kernel
   ·go_wp2_with fail
    go_quiet (fail)
    go_wp2
    refine ⟨⟨5,_,by omega,rfl,congrArg (Value.int .u8) ?_,rfl⟩,by simp [intOf]⟩
    clear HB HI hV2
    revert V
    decide +kernel
   ·go_wp2_with fail
    go_quiet (fail)
    go_wp2
    refine ⟨⟨6,_,by omega,rfl,congrArg (Value.int .u8) ?_,rfl⟩,by simp [intOf]⟩
    clear HB HI hV2
    revert V
    decide +kernel
   ·go_wp2_with fail
    go_quiet (fail)
    go_wp2
    refine ⟨⟨7,_,by omega,rfl,congrArg (Value.int .u8) ?_,rfl⟩,by simp [intOf]⟩
    clear HB HI hV2
    revert V
    decide +kernel
   ·go_wp2_with fail
    go_quiet (fail)
    go_wp2
    refine ⟨⟨8,_,by omega,rfl,congrArg (Value.int .u8) ?_,rfl⟩,by simp [intOf]⟩
    clear HB HI hV2
    revert V
    decide +kernel
  ·obtain rfl:i = 8:=by omega
   have hk:=a2z e0c V hV
   have hk2:d1h V 8 = aff V:=eq_of_beq hk
   have HK:=hJ_ hk2
   clear hk hk2
   go_wp2
   go_ret
   exact ⟨a0s (by rw [HK.out,HB.out]),n,rfl⟩
def qd (S:Nat → Nat → Nat) (j:Nat):Nat:=S (j / 4) (j % 4)
def pm (A B:Nat → Nat → Nat) (i j:Nat):Value:=.int .u8 (((if j < i then qd B j else qd A j:Nat)):Int)
theorem a4m {A B:Nat → Nat → Nat} {i j:Nat}:(if j = i then Value.int .u8 ((qd B i:Nat):Int) else pm A B i j) = pm A B (i + 1) j:=by
 unfold pm
 by_cases e:j = i
 ·subst e;rw [if_pos rfl,if_pos (by omega)]
 ·rw [if_neg e]
  by_cases h:j < i
  ·rw [if_pos h,if_pos (by omega)]
  ·rw [if_neg h,if_neg (by omega)]
theorem b7j {A B C:Nat → Nat → Nat} {j:Nat} (hj:j < 16):pm A B 16 j = pm B C 0 j:=by
 unfold pm;rw [if_pos hj,if_neg (by omega)]
theorem c9f (A B C:Nat → Nat → Nat) (j:Nat):pm A B 0 j = pm A C 0 j:=by unfold pm;rw [if_neg (by omega),if_neg (by omega)]
theorem b7v (S:Nat → Nat → Nat) {c r:Nat} (hr:r < 4):qd S (4 * c + r) = S c r:=by
 unfold qd;rw [show (4 * c + r) / 4 = c by omega,show (4 * c + r) % 4 = r by omega]
theorem b0w {S:Nat → Nat → Nat} (h:SqB S) (j:Nat):qd S j < 256:=h _ _
def z16:Array Value:=a0e 16 fun _ => .int .u8 0
theorem e5s:(Tryz.prog.info? 114).map (fun i => (i.zero,i.size)) = some (some (.agg (Array.replicate 16 (.int .u8 0))),16):=by kernel_rfl
theorem b8a:(Tryz.prog.info? 114).map (·.size) = some 16:=by kernel_rfl
theorem e4p:∀ w:World,(zeroValue 114).run Tryz.prog w = .ok (.agg z16) w:=by
 obtain ⟨hz,_⟩:=zero_of_info e5s
 rw [a0m] at hz
 exact hz
theorem d9a:∀ V:World,(storeCells ⟨V.heap.size,0,none⟩ z16.toList 0).run Tryz.prog (V.alloc (.cells z16 114)) = .ok () (V.alloc (.cells z16 114)):=fun V =>
 run_storeCells_new (P:=Tryz.prog) V 114 z16 z16 (by rw [show z16.size = 16 from a0b _ _];exact b8a) rfl (a0l fun _ => rfl)
theorem e7y (V:World) (B:Nat → Nat → Nat):Blk (V.alloc (.cells z16 114)) V.heap.size 114 16 (pm (fun _ _ => 0) B 0):=
 (Blk.made V _ 16 _).congr fun j hj => by unfold pm;rw [if_neg (by omega)];rfl
theorem b4i {x:Nat} (hx:x < 256):gm x 1 = x:=by
 by_cases h0:x = 0
 ·subst h0;rfl
 ·rw [show (1:Nat) = pw 0 from b1n.symm,d9n h0,Nat.add_zero,(a9v hx h0).1]
theorem e2y (a b c:Nat):a ^^^ (b ^^^ c) = b ^^^ (a ^^^ c):=by rw [← Nat.xor_assoc,Nat.xor_comm a b,Nat.xor_assoc]
theorem d3m {T:Nat → Nat → Nat} (h:SqB T) (c:Nat) {r:Nat} (hr:r < 4):mix m2 T c r = ((gm 2 (T c r) ^^^ gm 3 (T c ((r + 1) % 4))) ^^^ T c ((r + 2) % 4)) ^^^ T c ((r + 3) % 4):=by
 have h0:=b4i (h c 0);have h1:=b4i (h c 1);have h2:=b4i (h c 2);have h3:=b4i (h c 3)
 unfold mix
 rcases lt4 hr with rfl | rfl | rfl | rfl <;> simp [m2,h0,h1,h2,h3,a6a 2,a6a 3] <;> simp [Nat.xor_assoc,Nat.xor_comm,e2y]
def stE (W:Nat → Nat → Nat) (n:Nat) (X:Nat → Nat → Nat) (r:Nat):Nat → Nat → Nat:=if r = n then enc W n X else encR W X r
theorem b8p (S W:Nat → Nat → Nat) (r:Nat) {i:Nat} (hi:i < 16):qd (adds S (rk W r)) i = qd S i ^^^ qd W (16 * r + i):=by
 unfold qd adds rk
 rw [show (16 * r + i) / 4 = 4 * r + i / 4 by omega,show (16 * r + i) % 4 = i % 4 by omega]
theorem e2u (P:Nat → Nat → Nat) {c i:Nat} (hi:i < 4):qd (thr box 1 P) (4 * c + i) = box (qd P (4 * ((c + i) % 4) + i)):=by
 rw [b7v _ hi,b7v _ hi]
 unfold thr
 rw [Nat.one_mul]
theorem e6v {T:Nat → Nat → Nat} (h:SqB T) (c:Nat) {i:Nat} (hi:i < 4):qd (mix m2 T) (4 * c + i) = ((gm 2 (qd T (4 * c + i)) ^^^ gm 3 (qd T (4 * c + (i + 1) % 4))) ^^^ qd T (4 * c + (i + 2) % 4)) ^^^ qd T (4 * c + (i + 3) % 4):=by
 rw [b7v _ hi,b7v _ hi,b7v _ (Nat.mod_lt _ (by omega)),b7v _ (Nat.mod_lt _ (by omega)),b7v _ (Nat.mod_lt _ (by omega)),d3m h c hi]
theorem b3x {A B:Nat → Nat → Nat} {i j:Nat} (h:¬ j < i):pm A B i j = .int .u8 ((qd A j:Nat):Int):=by unfold pm;rw [if_neg h]
theorem w64 {k:Nat} (h:k < 1000):IntKind.i64.wrap (k:Int) = (k:Int):=IntWalk.i64_in _ (by omega)
theorem f0b {c i:Nat} (hc:c < 4) (hi:i < 4):∃ c4 d i1 i2 i3 j1 j2 j3 e1 e2 e3:Nat,
 (d = 4 * c + i ∧ e1 = 4 * c + (i + 1) % 4 ∧ e2 = 4 * c + (i + 2) % 4 ∧ e3 = 4 * c + (i + 3) % 4) ∧ (d < 16 ∧ e1 < 16 ∧ e2 < 16 ∧ e3 < 16) ∧
 (4 * (c:Int) = (c4:Int) ∧ (c4:Int) + (i:Int) = (d:Int) ∧ (i:Int) + 1 = (i1:Int) ∧ (i:Int) + 2 = (i2:Int) ∧ (i:Int) + 3 = (i3:Int)) ∧
 ((i1:Int) % 4 = (j1:Int) ∧ (i2:Int) % 4 = (j2:Int) ∧ (i3:Int) % 4 = (j3:Int)) ∧
 ((i1:Int).tmod 4 = (j1:Int) ∧ (i2:Int).tmod 4 = (j2:Int) ∧ (i3:Int).tmod 4 = (j3:Int)) ∧
 ((c4:Int) + (j1:Int) = (e1:Int) ∧ (c4:Int) + (j2:Int) = (e2:Int) ∧ (c4:Int) + (j3:Int) = (e3:Int)) ∧
 ((d:Int) < 16 ∧ (e1:Int) < 16 ∧ (e2:Int) < 16 ∧ (e3:Int) < 16) ∧
 (c4 < 1000 ∧ d < 1000 ∧ i1 < 1000 ∧ i2 < 1000 ∧ i3 < 1000 ∧ e1 < 1000 ∧ e2 < 1000 ∧ e3 < 1000):=by
 refine ⟨4 * c,4 * c + i,i + 1,i + 2,i + 3,(i + 1) % 4,(i + 2) % 4,(i + 3) % 4,4 * c + (i + 1) % 4,4 * c + (i + 2) % 4,4 * c + (i + 3) % 4,⟨rfl,rfl,rfl,rfl⟩,by omega,by omega,by omega,⟨?_,?_,?_⟩,by omega,by omega,by omega⟩
 all_goals
  rw [Int.tmod_eq_emod_of_nonneg (by omega)]
  omega
end Go.Proofs.YtappfdbmhgifcaaGreatDoor
