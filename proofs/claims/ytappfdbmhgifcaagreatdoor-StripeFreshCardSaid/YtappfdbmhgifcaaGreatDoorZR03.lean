/- Texts of mine, one behind the other: QK1. -/
import Derived.Test.YtappfdbmhgifcaaGreatDoorZR02
import Derived.IntWalk
import Derived.Deep.MidRow
import Derived.Laws.ResultCell
set_option linter.unusedVariables false
set_option linter.unusedSimpArgs false
set_option maxRecDepth 100000
namespace Go.Proofs.YtappfdbmhgifcaaGreatDoor
def aff (v:Nat):Nat:=((((99 ^^^ v) ^^^ rot 8 v 1) ^^^ rot 8 v 2) ^^^ rot 8 v 3) ^^^ rot 8 v 4
def d8w (v:Nat):Nat:=((rot 8 v 1 ^^^ rot 8 v 3) ^^^ rot 8 v 6) ^^^ 5
theorem e8h:a9o 256 (fun v => d8w (aff v) == v && (aff (d8w v) == v && (decide (aff v < 256) && decide (d8w v < 256)))) = true:=by decide +kernel
theorem c1s {v:Nat} (h:v < 256):d8w (aff v) = v ∧ aff (d8w v) = v ∧ aff v < 256 ∧ d8w v < 256:=by
 have:=a2z e8h v h
 simpa using this
def box (x:Nat):Nat:=aff (inv x)
def bxb (y:Nat):Nat:=inv (d8w y)
theorem c3w {a:Nat} (ha:a < 256):inv (inv a) = a:=by
 by_cases h0:a = 0
 ·subst h0;rfl
 ·exact (b9t (a6x a) ha (by rw [a6a];exact c0y ha h0)).symm
theorem a2t (x:Nat):box x < 256:=(c1s (a6x x)).2.2.1
theorem e4o (x:Nat):bxb x < 256:=a6x _
theorem e1j {x:Nat} (h:x < 256):bxb (box x) = x:=by unfold bxb box;rw [(c1s (a6x x)).1,c3w h]
theorem e1d {y:Nat} (h:y < 256):box (bxb y) = y:=by unfold bxb box;rw [c3w (c1s h).2.2.2,(c1s h).2.1]
def wd (f:Nat → Nat):Nat:=((f 0 * 256 + f 1) * 256 + f 2) * 256 + f 3
theorem d2u {f g:Nat → Nat} (h:∀ r,r < 4 → f r = g r):wd f = wd g:=by
 unfold wd;rw [h 0 (by omega),h 1 (by omega),h 2 (by omega),h 3 (by omega)]
theorem a3o {f:Nat → Nat} (h:∀ r,f r < 256):wd f < 4294967296:=by
 have:=h 0;have:=h 1;have:=h 2;have:=h 3
 unfold wd;omega
theorem e0a:wd (fun _ => 0) = 0:=rfl
theorem lt4 {i:Nat} (h:i < 4):i = 0 ∨ i = 1 ∨ i = 2 ∨ i = 3:=by omega
theorem b6q {f:Nat → Nat} (h:∀ r,f r < 256) {i:Nat} (hi:i < 4):wd f / 2 ^ (8 * (3 - i)) % 256 = f i:=by
 have:=h 0;have:=h 1;have:=h 2;have:=h 3
 unfold wd
 rcases lt4 hi with rfl | rfl | rfl | rfl
 ·show _ / 16777216 % 256 = _;omega
 ·show _ / 65536 % 256 = _;omega
 ·show _ / 256 % 256 = _;omega
 ·show _ / 1 % 256 = _;omega
theorem b3y {a b c d:Nat} (hb:b < 256) (hd:d < 256):(a * 256 + b) ^^^ (c * 256 + d) = (a ^^^ c) * 256 + (b ^^^ d):=by
 have h1:((a * 256 + b) ^^^ (c * 256 + d)) / 2 ^ 8 = a ^^^ c:=by
  rw [Nat.xor_div_two_pow];congr 1 <;> (show _ / 256 = _;omega)
 have h2:((a * 256 + b) ^^^ (c * 256 + d)) % 2 ^ 8 = b ^^^ d:=by
  rw [Nat.xor_mod_two_pow];congr 1 <;> (show _ % 256 = _;omega)
 have h3:((a * 256 + b) ^^^ (c * 256 + d)) / 256 = a ^^^ c:=h1
 have h4:((a * 256 + b) ^^^ (c * 256 + d)) % 256 = b ^^^ d:=h2
 omega
theorem b1e {f g:Nat → Nat} (hf:∀ r,f r < 256) (hg:∀ r,g r < 256):wd f ^^^ wd g = wd (fun r => f r ^^^ g r):=by
 unfold wd
 rw [b3y (hf 3) (hg 3),b3y (hf 2) (hg 2),b3y (hf 1) (hg 1)]
theorem a8l {a b:Nat} (n:Nat) (hb:b < 2 ^ n):a * 2 ^ n ||| b = a * 2 ^ n + b:=by
 rw [Nat.mul_comm,← Nat.two_pow_add_eq_or_of_lt hb]
def wdp (f:Nat → Nat) (i:Nat):Nat:=wd fun r => if r < i then f r else 0
theorem b3t (f:Nat → Nat):wdp f 0 = 0:=by unfold wdp wd;simp
theorem b8g (f:Nat → Nat):wdp f 4 = wd f:=by unfold wdp wd;simp
theorem c4m {f:Nat → Nat} (h:∀ r,f r < 256) (i:Nat):wdp f i < 4294967296:=a3o fun r => by
 show (if r < i then f r else 0) < 256
 split
 ·exact h r
 ·omega
theorem c8o {f:Nat → Nat} (h:∀ r,f r < 256) {i:Nat} (hi:i < 4):wdp f i ||| (f i * 2 ^ (8 * (3 - i))) = wdp f (i + 1):=by
 have h0:=h 0;have h1:=h 1;have h2:=h 2;have h3:=h 3
 unfold wdp wd
 rcases lt4 hi with rfl | rfl | rfl | rfl
 ·simp;omega
 ·have e:=a8l (a:=f 0) (b:=f 1 * 65536) 24 (by omega)
  simp only [show (2:Nat) ^ 24 = 16777216 from rfl] at e
  show ((f 0 * 256 + 0) * 256 + 0) * 256 + 0 ||| f 1 * 65536 = _
  rw [show ((f 0 * 256 + 0) * 256 + 0) * 256 + 0 = f 0 * 16777216 by omega,e]
  show _ = ((f 0 * 256 + f 1) * 256 + 0) * 256 + 0
  omega
 ·have e:=a8l (a:=f 0 * 256 + f 1) (b:=f 2 * 256) 16 (by omega)
  simp only [show (2:Nat) ^ 16 = 65536 from rfl] at e
  show ((f 0 * 256 + f 1) * 256 + 0) * 256 + 0 ||| f 2 * 256 = _
  rw [show ((f 0 * 256 + f 1) * 256 + 0) * 256 + 0 = (f 0 * 256 + f 1) * 65536 by omega,e]
  show _ = ((f 0 * 256 + f 1) * 256 + f 2) * 256 + 0
  omega
 ·have e:=a8l (a:=(f 0 * 256 + f 1) * 256 + f 2) (b:=f 3) 8 (by omega)
  simp only [show (2:Nat) ^ 8 = 256 from rfl] at e
  show ((f 0 * 256 + f 1) * 256 + f 2) * 256 + 0 ||| f 3 * 1 = _
  rw [Nat.add_zero,Nat.mul_one,e]
  rfl
theorem d6z {f:Nat → Nat} (h:∀ r,f r < 256) {i:Nat} (hi:i < 4):rot 32 (wd f) (8 * ((4 - i) % 4)) = wd (fun r => f ((r + 4 - i) % 4)):=by
 have h0:=h 0;have h1:=h 1;have h2:=h 2;have h3:=h 3
 have hw:=a3o h
 unfold rot
 rcases lt4 hi with rfl | rfl | rfl | rfl
 ·show (wd f * 2 ^ 0 % 2 ^ 32 ||| wd f / 2 ^ 32) = _
  rw [show (2:Nat) ^ 32 = 4294967296 from rfl,Nat.div_eq_of_lt hw,Nat.pow_zero,Nat.mul_one,Nat.mod_eq_of_lt hw,Nat.or_zero]
  rfl
 ·show (wd f * 16777216 % 4294967296 ||| wd f / 256) = wd (fun r => f ((r + 4 - 1) % 4))
  have e:=a8l (a:=f 3) (b:=wd f / 256) 24 (by unfold wd;omega)
  simp only [show (2:Nat) ^ 24 = 16777216 from rfl] at e
  rw [show wd f * 16777216 % 4294967296 = f 3 * 16777216 by unfold wd;omega,e]
  show _ = ((f 3 * 256 + f 0) * 256 + f 1) * 256 + f 2
  unfold wd;omega
 ·show (wd f * 65536 % 4294967296 ||| wd f / 65536) = wd (fun r => f ((r + 4 - 2) % 4))
  have e:=a8l (a:=f 2 * 256 + f 3) (b:=wd f / 65536) 16 (by unfold wd;omega)
  simp only [show (2:Nat) ^ 16 = 65536 from rfl] at e
  rw [show wd f * 65536 % 4294967296 = (f 2 * 256 + f 3) * 65536 by unfold wd;omega,e]
  show _ = ((f 2 * 256 + f 3) * 256 + f 0) * 256 + f 1
  unfold wd;omega
 ·show (wd f * 256 % 4294967296 ||| wd f / 16777216) = wd (fun r => f ((r + 4 - 3) % 4))
  have e:=a8l (a:=(f 1 * 256 + f 2) * 256 + f 3) (b:=wd f / 16777216) 8 (by unfold wd;omega)
  simp only [show (2:Nat) ^ 8 = 256 from rfl] at e
  rw [show wd f * 256 % 4294967296 = ((f 1 * 256 + f 2) * 256 + f 3) * 256 by unfold wd;omega,e]
  show _ = ((f 1 * 256 + f 2) * 256 + f 3) * 256 + f 0
  unfold wd;omega
def SqB (S:Nat → Nat → Nat):Prop:=∀ c r,S c r < 256
def Same (S T:Nat → Nat → Nat):Prop:=∀ c r,c < 4 → r < 4 → S c r = T c r
theorem Same.refl (S:Nat → Nat → Nat):Same S S:=fun _ _ _ _ => rfl
theorem Same.trans {S T U:Nat → Nat → Nat} (h:Same S T) (g:Same T U):Same S U:=fun c r hc hr => (h c r hc hr).trans (g c r hc hr)
theorem Same.symm {S T:Nat → Nat → Nat} (h:Same S T):Same T S:=fun c r hc hr => (h c r hc hr).symm
def adds (S K:Nat → Nat → Nat):Nat → Nat → Nat:=fun c r => S c r ^^^ K c r
def thr (b:Nat → Nat) (s:Nat) (S:Nat → Nat → Nat):Nat → Nat → Nat:=fun c r => b (S ((c + s * r) % 4) r)
def mix (p:Nat → Nat) (S:Nat → Nat → Nat):Nat → Nat → Nat:=fun c r => ((gm (S c 0) (p (r % 4)) ^^^ gm (S c 1) (p ((r + 3) % 4))) ^^^ gm (S c 2) (p ((r + 2) % 4))) ^^^ gm (S c 3) (p ((r + 1) % 4))
theorem SqB.adds {S K:Nat → Nat → Nat} (h:SqB S) (k:SqB K):SqB (adds S K):=fun c r => a2v (h c r) (k c r)
theorem SqB.thr {b:Nat → Nat} (hb:∀ x,b x < 256) (s:Nat) (S:Nat → Nat → Nat):SqB (thr b s S):=fun _ _ => hb _
theorem SqB.mix (p:Nat → Nat) (S:Nat → Nat → Nat):SqB (mix p S):=fun _ _ => a2v (a2v (a2v (a7k _ _) (a7k _ _)) (a7k _ _)) (a7k _ _)
theorem Same.adds {S T:Nat → Nat → Nat} (h:Same S T) (K:Nat → Nat → Nat):Same (adds S K) (adds T K):=fun c r hc hr => by unfold Go.Proofs.YtappfdbmhgifcaaGreatDoor.adds;rw [h c r hc hr]
theorem Same.thr {S T:Nat → Nat → Nat} (h:Same S T) (b:Nat → Nat) (s:Nat):Same (thr b s S) (thr b s T):=fun c r hc hr => by unfold Go.Proofs.YtappfdbmhgifcaaGreatDoor.thr;rw [h _ r (Nat.mod_lt _ (by omega)) hr]
theorem Same.mix {S T:Nat → Nat → Nat} (h:Same S T) (p:Nat → Nat):Same (mix p S) (mix p T):=fun c r hc _ => by unfold Go.Proofs.YtappfdbmhgifcaaGreatDoor.mix;rw [h c 0 hc (by omega),h c 1 hc (by omega),h c 2 hc (by omega),h c 3 hc (by omega)]
def m2 (k:Nat):Nat:=if k = 0 then 2 else if k = 3 then 3 else 1
def m14 (k:Nat):Nat:=if k = 0 then 14 else if k = 1 then 9 else if k = 2 then 13 else 11
theorem e5w (k:Nat):m2 k < 256:=by unfold m2;split <;> (try split) <;> omega
theorem d6m (k:Nat):m14 k < 256:=by unfold m14;split <;> (try split) <;> (try split) <;> omega
def rk (W:Nat → Nat → Nat) (j:Nat):Nat → Nat → Nat:=fun c r => W (4 * j + c) r
theorem SqB.rk {W:Nat → Nat → Nat} (h:SqB W) (j:Nat):SqB (rk W j):=fun _ _ => h _ _
def encR (W S:Nat → Nat → Nat):Nat → Nat → Nat → Nat
 | 0 => adds S (rk W 0)
 | k + 1 => adds (mix m2 (thr box 1 (encR W S k))) (rk W (k + 1))
def enc (W:Nat → Nat → Nat) (n:Nat) (S:Nat → Nat → Nat):Nat → Nat → Nat:=adds (thr box 1 (encR W S (n - 1))) (rk W n)
theorem b8x {W S:Nat → Nat → Nat} (hW:SqB W) (hS:SqB S):∀ k,SqB (encR W S k)
 | 0 => hS.adds (hW.rk 0)
 | k + 1 => (SqB.mix _ _).adds (hW.rk (k + 1))
theorem d6d {W:Nat → Nat → Nat} (n:Nat) (S:Nat → Nat → Nat) (hW:SqB W):SqB (enc W n S):=(SqB.thr a2t _ _).adds (hW.rk n)
theorem Same.encR {S T:Nat → Nat → Nat} (h:Same S T) (W:Nat → Nat → Nat):∀ k,Same (encR W S k) (encR W T k)
 | 0 => h.adds _
 | k + 1 => (((Same.encR h W k).thr _ _).mix _).adds _
theorem Same.enc {S T:Nat → Nat → Nat} (h:Same S T) (W:Nat → Nat → Nat) (n:Nat):Same (enc W n S) (enc W n T):=((h.encR W (n - 1)).thr _ _).adds _
def tmp (n i:Nat) (x:Nat → Nat):Nat → Nat:=fun r =>
 if i % n = 0 then box (x ((r + 1) % 4)) ^^^ (if r = 0 then pwr 2 (i / n - 1) else 0)
 else if n = 8 ∧ i % 8 = 4 then box (x r) else x r
def kx (n:Nat) (K:Nat → Nat → Nat):Nat → Nat → Nat → Nat
 | 0 => K
 | m + 1 => fun j r => if j = n + m then kx n K m m r ^^^ tmp n (n + m) (kx n K m (n + m - 1)) r else kx n K m j r
theorem c7h (a n:Nat):pwr a n < 256:=b3s _
theorem a6d (n i:Nat) {x:Nat → Nat} (h:∀ r,x r < 256) (r:Nat):tmp n i x r < 256:=by
 unfold tmp
 split
 ·refine a2v (a2t _) ?_
  split
  ·exact c7h _ _
  ·omega
 ·split
  ·exact a2t _
  ·exact h r
theorem b2l (n:Nat) {K:Nat → Nat → Nat} (h:SqB K):∀ m,SqB (kx n K m)
 | 0 => h
 | m + 1 => fun j r => by
  show (if j = n + m then kx n K m m r ^^^ tmp n (n + m) (kx n K m (n + m - 1)) r else kx n K m j r) < 256
  split
  ·exact a2v (b2l n h m _ _) (a6d _ _ (b2l n h m _) _)
  ·exact b2l n h m _ _
theorem a9m {n:Nat} (K:Nat → Nat → Nat) {m j:Nat} (h:j ≠ n + m):kx n K (m + 1) j = kx n K m j:=by
 funext r
 show (if j = n + m then _ else _) = _
 rw [if_neg h]
theorem a9b (n:Nat) (K:Nat → Nat → Nat) (m:Nat):kx n K (m + 1) (n + m) = fun r => kx n K m m r ^^^ tmp n (n + m) (kx n K m (n + m - 1)) r:=by
 funext r
 show (if n + m = n + m then _ else _) = _
 rw [if_pos rfl]
end Go.Proofs.YtappfdbmhgifcaaGreatDoor
namespace Go.Proofs.YtappfdbmhgifcaaGreatDoor
open Go.ChangeShapes Go.WideShapes Go.ChangeAt Go.RowKit
theorem wf_u32 {x:Int} (h:(Lit.int .u32 x).wf = true):0 ≤ x ∧ x < 2 ^ 32:=by have:0 ≤ x ∧ x ≤ 4294967295:=by simpa [Lit.wf,IntKind.min,IntKind.max,IntKind.signed,IntKind.bits] using h
                                                                             omega
set_option maxRecDepth 100000 in
theorem e1o (w:World):Calls Tryz.prog 175 #[.int .u64 255] w fun e w' => e = .returned (.int .i64 8) ∧ w = w':=by
 go_enter Tryz.func175,Tryz.ntmps175
 go_wp2
 go_ret
 exact ⟨by kernel_rfl,rfl⟩
theorem e9h (w:World):Calls Tryz.prog 163 #[] w fun e w' => e = .returned (.int .i64 8) ∧ w = w':=by
 go_enter Tryz.func163,Tryz.ntmps163
 go_wp2_with (go_at_call 175;refine (e1o _).mono ?_;rintro e w' ⟨rfl,rfl⟩)
 go_ret
 exact ⟨by kernel_rfl,rfl⟩
theorem e1k (x n R:Int) (h0:0 ≤ x) (h1:x < 2 ^ 8) (hR:R = n % 8):bits .or .u8 (x * 2 ^ R.toNat % 256) (x / 2 ^ (8 - R).toNat) = c2d 8 x n:=by
 have r0:=Int.emod_nonneg n (show (8:Int) ≠ 0 by omega)
 have r1:=Int.emod_lt_of_pos n (show (0:Int) < 8 by omega)
 rw [← hR] at r0 r1
 obtain ⟨y,rfl⟩:=Int.eq_ofNat_of_zero_le h0
 obtain ⟨q,rfl⟩:=Int.eq_ofNat_of_zero_le r0
 have e2:((8:Int) - (q:Int)).toNat = 8 - q:=by omega
 have f1:((y:Int) * 2 ^ q % 256) = ((y * 2 ^ q % 256:Nat):Int):=by simp
 have f2:((y:Int) / 2 ^ (8 - q)) = ((y / 2 ^ (8 - q):Nat):Int):=by simp
 have g1:y * 2 ^ q % 256 < 256:=Nat.mod_lt _ (by omega)
 have g2:y / 2 ^ (8 - q) < 256:=Nat.lt_of_le_of_lt (Nat.div_le_self _ _) (by omega)
 rw [Int.toNat_natCast,e2,f1,f2,u8_or_nat _ _ g1 g2]
 unfold c2d rot
 have e3:(n % ((8:Nat):Int)).toNat = q:=by
  show (n % 8).toNat = q
  rw [← hR];exact Int.toNat_natCast _
 rw [e3,Nat.mod_eq_of_lt (show q < 8 by omega),Int.toNat_natCast]
theorem c6w (n:Int):bits .and .i64 n 7 = n % 8:=by
 have hm:(BitVec.ofInt 64 7).toNat = 2 ^ 3 - 1:=by decide
 have key:(BitVec.ofInt 64 n &&& BitVec.ofInt 64 7).toNat = (n % ((2 ^ 64:Nat):Int)).toNat % 2 ^ 3:=by
  rw [BitVec.toNat_and,BitVec.toNat_ofInt,hm,Nat.and_two_pow_sub_one_eq_mod]
 show IntKind.i64.wrap ((BitVec.ofInt 64 n &&& BitVec.ofInt 64 7).toNat:Nat) = n % 8
 rw [key,IntKind.wrap_i64]
 omega
theorem e8s (x n:Int) (wx:(Lit.int .u8 x).wf = true) (wn:(Lit.int .i64 n).wf = true) (w:World):Calls Tryz.prog 142 #[.int .u8 x,.int .i64 n] w fun e w' => e = .returned (.int .u8 (c2d 8 x n)) ∧ ∃ j,w' = w.drewN j:=by
 obtain ⟨hx0,hx1⟩:=wf_u8 wx
 have hx2:x < 256:=hx1
 clear wx wn
 have r0:=Int.emod_nonneg n (show (8:Int) ≠ 0 by omega)
 have r1:=Int.emod_lt_of_pos n (show (0:Int) < 8 by omega)
 have hmask:=c6w n
 have E:Hid (bits .or .u8 (x * 2 ^ (n % 8).toNat % 256) (x / 2 ^ (8 - n % 8).toNat) = c2d 8 x n):=hJ_ (e1k x n _ hx0 hx1 rfl)
 go_enter Tryz.func142,Tryz.ntmps142
 go_wp2_with (go_at_call 163;refine (e9h _).mono ?_;rintro e w' ⟨rfl,rfl⟩)
 go_quiet (fail)
 go_wp2
 go_ret
 exact ⟨a0s E.out,_,rfl⟩
set_option maxRecDepth 100000 in
theorem d0q (w:World):Calls Tryz.prog 175 #[.int .u64 4294967295] w fun e w' => e = .returned (.int .i64 32) ∧ w = w':=by
 go_enter Tryz.func175,Tryz.ntmps175
 go_wp2
 go_ret
 exact ⟨by kernel_rfl,rfl⟩
theorem d6q (w:World):Calls Tryz.prog 166 #[] w fun e w' => e = .returned (.int .i64 32) ∧ w = w':=by
 go_enter Tryz.func166,Tryz.ntmps166
 go_wp2_with (go_at_call 175;refine (d0q _).mono ?_;rintro e w' ⟨rfl,rfl⟩)
 go_ret
 exact ⟨by kernel_rfl,rfl⟩
theorem d3u (x n R:Int) (h0:0 ≤ x) (h1:x < 2 ^ 32) (hR:R = n % 32):bits .or .u32 (x * 2 ^ R.toNat % 4294967296) (x / 2 ^ (32 - R).toNat) = c2d 32 x n:=by
 have r0:=Int.emod_nonneg n (show (32:Int) ≠ 0 by omega)
 have r1:=Int.emod_lt_of_pos n (show (0:Int) < 32 by omega)
 rw [← hR] at r0 r1
 obtain ⟨y,rfl⟩:=Int.eq_ofNat_of_zero_le h0
 obtain ⟨q,rfl⟩:=Int.eq_ofNat_of_zero_le r0
 have e2:((32:Int) - (q:Int)).toNat = 32 - q:=by omega
 have f1:((y:Int) * 2 ^ q % 4294967296) = ((y * 2 ^ q % 4294967296:Nat):Int):=by simp
 have f2:((y:Int) / 2 ^ (32 - q)) = ((y / 2 ^ (32 - q):Nat):Int):=by simp
 have g1:y * 2 ^ q % 4294967296 < 4294967296:=Nat.mod_lt _ (by omega)
 have g2:y / 2 ^ (32 - q) < 4294967296:=Nat.lt_of_le_of_lt (Nat.div_le_self _ _) (by omega)
 rw [Int.toNat_natCast,e2,f1,f2,u32_or_nat _ _ g1 g2]
 unfold c2d rot
 have e3:(n % ((32:Nat):Int)).toNat = q:=by
  show (n % 32).toNat = q
  rw [← hR];exact Int.toNat_natCast _
 rw [e3,Nat.mod_eq_of_lt (show q < 32 by omega),Int.toNat_natCast]
theorem c2t (n:Int):bits .and .i64 n 31 = n % 32:=by
 have hm:(BitVec.ofInt 64 31).toNat = 2 ^ 5 - 1:=by decide
 have key:(BitVec.ofInt 64 n &&& BitVec.ofInt 64 31).toNat = (n % ((2 ^ 64:Nat):Int)).toNat % 2 ^ 5:=by
  rw [BitVec.toNat_and,BitVec.toNat_ofInt,hm,Nat.and_two_pow_sub_one_eq_mod]
 show IntKind.i64.wrap ((BitVec.ofInt 64 n &&& BitVec.ofInt 64 31).toNat:Nat) = n % 32
 rw [key,IntKind.wrap_i64]
 omega
theorem c5p (x n:Int) (wx:(Lit.int .u32 x).wf = true) (wn:(Lit.int .i64 n).wf = true) (w:World):Calls Tryz.prog 147 #[.int .u32 x,.int .i64 n] w fun e w' => e = .returned (.int .u32 (c2d 32 x n)) ∧ ∃ j,w' = w.drewN j:=by
 obtain ⟨hx0,hx1⟩:=wf_u32 wx
 have hx2:x < 4294967296:=hx1
 clear wx wn
 have r0:=Int.emod_nonneg n (show (32:Int) ≠ 0 by omega)
 have r1:=Int.emod_lt_of_pos n (show (0:Int) < 32 by omega)
 have hmask:=c2t n
 have E:Hid (bits .or .u32 (x * 2 ^ (n % 32).toNat % 4294967296) (x / 2 ^ (32 - n % 32).toNat) = c2d 32 x n):=hJ_ (d3u x n _ hx0 hx1 rfl)
 go_enter Tryz.func147,Tryz.ntmps147
 go_wp2_with (go_at_call 166;refine (d6q _).mono ?_;rintro e w' ⟨rfl,rfl⟩)
 go_quiet (fail)
 go_wp2
 go_ret
 exact ⟨a0s E.out,_,rfl⟩
def be (n:Nat) (x:Int):List Int:=(List.range n).map fun i => x / 2 ^ (8 * (n - 1 - i)) % 256
theorem a4c (n:Nat) (x:Int):(be n x).length = n:=by simp [be]
theorem a5v (n:Nat) (x:Int) (i:Nat) (h:i < n):(be n x).take (i + 1) = (be n x).take i ++ [x / 2 ^ (8 * (n - 1 - i)) % 256]:=by
 have hl:i < (be n x).length:=by rw [a4c];exact h
 rw [List.take_succ_eq_append_getElem hl]
 congr 2
 simp [be]
theorem c7e (w:World):Calls Tryz.prog 172 #[] w fun e w' => e = .returned (.int .i64 4) ∧ w = w':=by
 go_enter Tryz.func172,Tryz.ntmps172
 go_wp2_with (go_at_call 166;refine (d6q _).mono ?_;rintro e w' ⟨rfl,rfl⟩)
 go_ret
 exact ⟨by kernel_rfl,rfl⟩
theorem e3y (a:Option Addr) (L cap:Nat) (l:List Int) (w:World) (hl:l.length = L) (hb:Bs w w.heap.size a l) (hL:L ≤ 140737488355328) (x:Int) (wx:(Lit.int .u32 x).wf = true) :
 Calls Tryz.prog 153 #[.slice a L cap,.int .u32 x] w fun e w' => ∃ g,e = .returned (.slice (some ⟨g,0,none⟩) (L + 4) (L + 4)) ∧
  w'.ownsRow w.heap.size 5 1 (.slice (some ⟨g,0,none⟩) (L + 4) (L + 4)) (L + 4) ((l ++ be 4 x).map (Value.int .u8)) ∧ Below w.heap.size w w':=by
 obtain ⟨hx0,hx1⟩:=wf_u32 wx
 clear wx
 have hx2:x < 18446744073709551616:=by omega
 have hmk:∀ W:World,(Instr.makeSlice 22 (.int .i64 (L:Int)) (.int .i64 ((L:Int) + 4))).run Tryz.prog W = .ok (.slice (some ⟨W.heap.size,0,none⟩) L (L + 4)) (W.alloc (.cells (madeCells #[.int .u8 0] (L + 4)) 5)):=by
  intro W
  obtain ⟨i,hi,hz0,hz1,hz2⟩:=info_parts info5
  have:=run_make (P:=Tryz.prog) W 22 5 i _ Tryz.underlying22 hi hz0 .i64 .i64 (L:Int) ((L:Int) + 4) (by omega) (by omega) (by rw [hz2];omega) (by omega)
  rw [this,hz1]
  have e1:((L:Int) + 4).toNat = L + 4:=by omega
  rw [e1];simp
  rfl
 go_enter Tryz.func153,Tryz.ntmps153
 have k1:(w.alloc (.cells (madeCells #[.int .u8 0] (L + 4)) 5)).heap[w.heap.size]? = some (.cells (madeCells #[.int .u8 0] (L + 4)).toList.toArray 5 (0,0)):=by rw [Array.toArray_toList];exact heap_alloc_new w _
 have k2:(l.map (Value.int .u8)).length = Nat.min L L:=by simp [hl]
 have k3:0 < (l.map (Value.int .u8)).length → ∃ ad,a = some ad ∧ ∀ j v,(l.map (Value.int .u8))[j]? = some v → (w.alloc (.cells (madeCells #[.int .u8 0] (L + 4)) 5)).cell? (ad.add j) = some v:=
  fun h0 => (hb.below ((Below.refl _ _).alloc (Nat.le_refl _) _)).cells h0
 have k4:0 + (l.map (Value.int .u8)).length ≤ (madeCells #[.int .u8 0] (L + 4)).toList.length:=by simp [hl,size_madeCells]
 have k5:Below w.heap.size w (w.alloc (.cells (madeCells #[.int .u8 0] (L + 4)) 5)):=(Below.refl _ _).alloc (Nat.le_refl _) _
 have K1:=hJ_ k1;have K2:=hJ_ k2;have K3:=hJ_ k3
 clear k1 k2 k3
 go_wp2_with (first
  | (go_at_call 172;refine (c7e _).mono ?_;rintro e w' ⟨rfl,rfl⟩)
  | ((with_reducible show wpList _ _ _ (⟨some 19,_,_,_,_,_⟩ :: _) _ _);refine wpList_copy_splice (o:=⟨some 19,_,_,_,_,_⟩) rfl (.tmp 17) (.tmp 18) 22 22 rfl 5 Tryz.underlying22 a2a (some ⟨w.heap.size,0,none⟩) a L (L + 4) L cap rfl rfl w.heap.size 0 (madeCells #[.int .u8 0] (L + 4)).toList 5 K1.out (l.map (Value.int .u8)) K2.out (fun h0 => ⟨rfl,K3.out h0⟩) k4 (ints_oneCell _ _) w.heap.size w k5 (Nat.le_refl _) ?_;intro w1 hg1 hb1))
 have own1:w1.ownsRow w.heap.size 5 1 (.slice (some ⟨w.heap.size,0,none⟩) L (L + 4)) L (l.map (Value.int .u8)):=by
  refine ⟨by simp [hl],.inr ⟨w.heap.size,L + 4,_,rfl,Nat.le_refl _,hg1.out,by omega,by unfold maxLen;omega,?_,?_⟩⟩
  ·simp [a1s,hl,size_madeCells]
  ·simp [a1s,hl]
 have hsz1:w.heap.size < w1.heap.size:=(own1.lt w.heap.size rfl).2
 clear hg1 K1 K2 K3 k4 k5
 go_loopw [6,23] (fun out i wr => ∃ k:Nat,k ≤ 4 ∧ i = .int .i64 k ∧ out = .slice (some ⟨w.heap.size,0,none⟩) (L + k) (L + 4) ∧
  wr.ownsRow w.heap.size 5 1 (.slice (some ⟨w.heap.size,0,none⟩) (L + k) (L + 4)) (L + k) ((l ++ (be 4 x).take k).map (Value.int .u8)) ∧ Below w.heap.size w wr ∧ w.heap.size < wr.heap.size)
  (fun _ i _ => 4 - (intOf i).toNat)
 case atStart => exact ⟨0,by omega,rfl,rfl,by simpa using own1,hb1,hsz1⟩
 case round =>
  obtain ⟨k,hk,rfl,rfl,hown,hbel,hsz⟩:=hrel
  by_cases hlt:k < 4
  ·have hap:=(hown.alloc (.cells #[.int .u8 (x / 2 ^ (8 * (3 - k)) % 256)] 5))
   have hn1:∀ j u,[Value.int .u8 (x / 2 ^ (8 * (3 - k)) % 256)][j]? = some u → (wr.alloc (.cells #[.int .u8 (x / 2 ^ (8 * (3 - k)) % 256)] 5)).cell? ((⟨wr.heap.size,0,none⟩:Addr).add j) = some u:=by
    intro j u hj
    match j,hj with
    | 0,hj => simp at hj;subst hj;simp [Addr.add]
   have hn2:∀ u ∈ [Value.int .u8 (x / 2 ^ (8 * (3 - k)) % 256)],u.oneCell' = true:=by intro u hu;simp at hu;subst hu;rfl
   have hbt:=a5v 4 x k hlt
   have HAP:=hJ_ hap;have HN1:=hJ_ hn1;have HN2:=hJ_ hn2;have HBT:=hJ_ hbt
   clear hap hn1 hn2 hbt
   obtain ⟨i5,hi,hz0,hz1,hz2⟩:=info_parts info5
   have HI:=hJ_ hi
   have HZ:=hJ_ hz1
   clear hi hz0 hz1 hz2
   go_wp2_with (((with_reducible show wpList _ _ _ (⟨some 36,_,_,_,_,_⟩ :: _) _ _);go_loud (refine wpList_append_fits _ rfl (.tmp 26) (.tmp 35) 22 rfl w.heap.size 5 i5 1 Tryz.underlying22 HI.out HZ.out w.heap.size (L + k) (L + 4) _ rfl HAP.out ⟨wr.heap.size,0,none⟩ 1 1 [.int .u8 (x / 2 ^ (8 * (3 - k)) % 256)] rfl rfl HN1.out HN2.out (by omega) ?_);intro w2 hown2 hg2))
   go_roundw
   case rel =>
    refine ⟨k + 1,by omega,by go_num,rfl,?_,?_,?_⟩
    ·rw [HBT.out,← List.append_assoc,List.map_append]
     exact hown2
    ·exact (hbel.alloc (by omega) _).grown hg2 (by simp <;> omega) (fun g hg => by injection hg with hg;omega)
    ·have:=hg2.size;simp at this;omega
   case measure => simp [intOf] <;> omega
  ·have:k = 4:=by omega
   subst this
   go_wp2
   go_ret
   refine ⟨_,rfl,?_,hbel⟩
   have e:(be 4 x).take 4 = be 4 x:=List.take_of_length_le (by rw [a4c];exact Nat.le_refl _)
   rw [e] at hown
   exact hown
def c0n (l:List Int):Int:=l.foldl (fun s x => s * 256 + x) 0
theorem b6j (l:List Int) (x:Int):c0n (l ++ [x]) = c0n l * 256 + x:=by simp [c0n]
theorem c3m {l:List Int} (h:a0z l):0 ≤ c0n l ∧ c0n l < 256 ^ l.length:=by
 obtain ⟨n,hn⟩:∃ n,n = l.length:=⟨_,rfl⟩
 induction n generalizing l with
 | zero => obtain rfl:l = []:=List.eq_nil_of_length_eq_zero hn.symm;simp [c0n]
 | succ n ih =>
  obtain ⟨m,x,rfl⟩:∃ m x,l = m ++ [x]:=by
   rcases List.eq_nil_or_concat l with rfl | ⟨m,x,e⟩
   ·simp at hn
   ·exact ⟨m,x,by simpa using e⟩
  have hm:n = m.length:=by simp at hn;omega
  have hi:=ih (l:=m) (fun y hy => h y (List.mem_append_left _ hy)) hm
  have hx:=h x (by simp)
  rw [b6j,List.length_append,List.length_singleton,Int.pow_succ]
  generalize (256:Int) ^ m.length = P at *
  omega
theorem a1v {l:List Int} {k:Nat} (h:k < l.length):l.take (k + 1) = l.take k ++ [l.getD k 0]:=by
 rw [List.take_succ_eq_append_getElem h]
 simp [List.getD_eq_getElem?_getD,List.getElem?_eq_getElem h]
theorem a1w {l:List Int} {k:Nat} (h:k < l.length):c0n (l.take (k + 1)) = c0n (l.take k) * 256 + l.getD k 0:=by
 rw [a1v h,b6j]
def e0r (n:Nat) (l:List Int):Int:=if l.length < n then 0 else c0n (l.take n)
theorem d4u {n:Nat} {l:List Int} (h:l.length < n):e0r n l = 0:=by simp [e0r,h]
theorem b4x {n:Nat} {l:List Int} (h:n ≤ l.length):e0r n l = c0n (l.take n):=by simp [e0r,Nat.not_lt.2 h]
theorem d9s {S X:Int} (h0:0 ≤ S) (h1:S < 72057594037927936) (hx:0 ≤ X ∧ X < 256):bits .or .u64 (S * 256) X = S * 256 + X:=by
 obtain ⟨s,rfl⟩:=Int.eq_ofNat_of_zero_le h0
 obtain ⟨x,rfl⟩:=Int.eq_ofNat_of_zero_le hx.1
 rw [show ((s:Int) * 256) = ((s * 256:Nat):Int) by simp,u64_or_nat _ _ (by omega) (by omega),nat_join 8 _ _ (by omega) (by omega)]
 simp
theorem b8f {k:IntKind} {a b:Int} {c d:Bool} (h:a = b) (g:c = d):Ending.returned (.tuple #[.int k a,.bool c]) = .returned (.tuple #[.int k b,.bool d]):=by rw [h,g]
theorem c5b {k n:Nat} (h:k < n) (hn:n ≤ 8):(256:Int) ^ k ≤ 72057594037927936:=by
 have h1:(256:Nat) ^ k ≤ 72057594037927936:=Nat.le_trans (Nat.pow_le_pow_right (by omega) (show k ≤ 7 by omega)) (by decide)
 have h2:((256 ^ k:Nat):Int) ≤ ((72057594037927936:Nat):Int):=Int.ofNat_le.2 h1
 rw [Int.natCast_pow] at h2
 exact h2
theorem e3a (a:Option Addr) (L c:Nat) (l:List Int) (w:World) (hl:l.length = L) (hB:a0z l) (hb:Bs w w.heap.size a l) (hL:L ≤ 9223372036854775807) :
 Calls Tryz.prog 164 #[.slice a L c] w fun e w' => e = .returned (.tuple #[.int .u32 (e0r 4 l),.bool (decide (4 ≤ L))]) ∧ w = w':=by
 by_cases hs:L < 4
 ·have HV:=hJ_ (d4u (n:=4) (l:=l) (by omega))
  have HD:=hJ_ (decide_eq_false (show ¬ 4 ≤ L by omega))
  go_enter Tryz.func164,Tryz.ntmps164
  go_wp2_with (go_at_call 172;refine (c7e _).mono ?_;rintro e w' ⟨rfl,rfl⟩)
  go_ret2
  exact ⟨b8f HV.out.symm HD.out.symm,rfl⟩
 ·have HV:=hJ_ (b4x (n:=4) (l:=l) (by omega))
  have HD:=hJ_ (decide_eq_true (show 4 ≤ L by omega))
  have hs':(4:Int) ≤ (L:Int):=by omega
  go_enter Tryz.func164,Tryz.ntmps164
  go_wp2_with (go_at_call 172;refine (c7e _).mono ?_;rintro e w' ⟨rfl,rfl⟩)
  go_loop [5,13] (fun v i => ∃ j:Nat,j ≤ 4 ∧ i = .int .i64 j ∧ v = .int .u64 (c0n (l.take j))) (fun _ i => 4 - (intOf i).toNat)
  case atStart => exact ⟨0,by omega,rfl,rfl⟩
  case round =>
   obtain ⟨j,hj,rfl,rfl⟩:=hrel
   obtain ⟨S,hS⟩:∃ S,S = c0n (l.take j):=⟨_,rfl⟩
   have hbd:=c3m (hB.take j)
   rw [List.length_take,Nat.min_eq_left (by omega),← hS] at hbd
   rw [← hS]
   by_cases hlt:j < 4
   ·have hp:=c5b hlt (by omega)
    obtain ⟨b,off,rfl,_,hc⟩:=hb.at_ (k:=j) (by omega)
    have hxb:=a0g hB j
    have HN:=hJ_ (a1w (l:=l) (k:=j) (by omega))
    obtain ⟨X,hX⟩:∃ X,X = l.getD j 0:=⟨_,rfl⟩
    rw [← hX] at hc hxb
    have HX:=hJ_ hX
    have HS:=hJ_ hS
    have s0:0 ≤ S:=hbd.1
    have s1:S < 72057594037927936:=by omega
    have hor:=d9s s0 s1 hxb
    clear hX hS hbd hp
    go_wp2
    go_round
    case rel => exact ⟨j + 1,by omega,by go_num,by rw [HN.out,← HS.out,← HX.out]⟩
    case measure => simp [intOf] <;> omega
   ·obtain rfl:4 = j:=by omega
    have s0:0 ≤ S:=hbd.1
    have s1:S < 4294967296:=hbd.2
    have HS:=hJ_ hS
    clear hS hbd
    go_wp2
    go_ret2
    exact ⟨b8f (HS.out.trans HV.out.symm) HD.out.symm,rfl⟩
theorem b1l (i:Nat) (hi:i < 4) (w:World):Calls Tryz.prog 143 #[.int .i64 (i:Nat)] w fun e w' => e = .returned (.int .i64 ((8 * (3 - i):Nat):Int)) ∧ w = w':=by
 go_enter Tryz.func143,Tryz.ntmps143
 go_wp2
 go_ret
 exact ⟨a0s (by omega),rfl⟩
theorem d8f (f:Nat → Nat) (hf:∀ r,f r < 256) (i:Nat) (hi:i < 4) (w:World):Calls Tryz.prog 165 #[.int .u32 ((wd f:Nat):Int),.int .i64 (i:Nat)] w fun e w' => e = .returned (.int .u8 ((f i:Nat):Int)) ∧ w = w':=by
 have HR:=hJ_ (b6q hf hi)
 have hw:=a3o hf
 obtain ⟨k,hk⟩:∃ k,k = 8 * (3 - i):=⟨_,rfl⟩
 have HS:=hJ_ (b1l i hi w)
 rw [← hk] at HR HS
 have hk2:k ≤ 24:=by omega
 obtain ⟨x,hx⟩:∃ x,x = wd f:=⟨_,rfl⟩
 rw [← hx] at HR hw ⊢
 clear hx hk
 go_enter Tryz.func165,Tryz.ntmps165
 go_wp2_with (go_at_call 143;refine HS.out.mono ?_;rintro e w' ⟨rfl,rfl⟩)
 go_ret
 exact ⟨a0s (by rw [← HR.out];simp),rfl⟩
theorem d2i {P:Program} {f:FuncId} {args:Array Value} {w:World} {n:Nat} {v:Value} (h:Calls P f args (w.drewN n) fun e w' => e = .returned v ∧ w.drewN n = w'):Calls P f args (w.drewN n) fun e w'' => e = .returned v ∧ ∃ m,w'' = w.drewN m:=
 h.mono fun _ _ ⟨he,hm⟩ => ⟨he,n,hm.symm⟩
def Tb (w:World) (b o:Nat) (B:Nat → Nat):Prop:=b < w.heap.size ∧ ∀ j,j < 256 → w.cell? ⟨b,o + j,none⟩ = some (.int .u8 ((B j:Nat):Int))
def Tp (w:World) (b o:Nat) (B:Nat → Nat):Prop:=b < w.heap.size ∧ ∀ j,j < 256 → w.cell? ⟨b,o + j,none⟩ = some (.int .u32 ((B j:Nat):Int))
theorem Tb.on {w w':World} {b o:Nat} {B:Nat → Nat} (h:Tb w b o B) (hb:Below w.heap.size w w'):Tb w' b o B:=
 ⟨Nat.lt_of_lt_of_le h.1 hb.size,fun j hj => (hb.cell (p:=⟨b,o + j,none⟩) h.1).trans (h.2 j hj)⟩
theorem Tp.on {w w':World} {b o:Nat} {B:Nat → Nat} (h:Tp w b o B) (hb:Below w.heap.size w w'):Tp w' b o B:=
 ⟨Nat.lt_of_lt_of_le h.1 hb.size,fun j hj => (hb.cell (p:=⟨b,o + j,none⟩) h.1).trans (h.2 j hj)⟩
theorem Tb.drewN {w:World} {b o:Nat} {B:Nat → Nat} (h:Tb w b o B) (n:Nat):Tb (w.drewN n) b o B:=h
theorem Tp.drewN {w:World} {b o:Nat} {B:Nat → Nat} (h:Tp w b o B) (n:Nat):Tp (w.drewN n) b o B:=h
theorem c1q {k:Nat} (hk:k ≤ 24):2 ^ k ≤ 16777216:=by
 have:=Nat.pow_le_pow_right (show 0 < 2 by omega) hk
 exact this
theorem c4u {P y k:Nat} (hP:P < 4294967296) (hy:y < 256) (hk:k ≤ 24):bits .or .u32 (P:Int) ((y:Int) * 2 ^ k % 4294967296) = ((P ||| (y * 2 ^ k):Nat):Int):=by
 have h1:=c1q hk
 have h2:y * 2 ^ k < 4294967296:=Nat.lt_of_le_of_lt (Nat.mul_le_mul (show y ≤ 255 by omega) h1) (by decide)
 have e:((y:Int) * 2 ^ k % 4294967296) = ((y * 2 ^ k:Nat):Int):=by
  have:((y:Int) * 2 ^ k) = ((y * 2 ^ k:Nat):Int):=by simp
  rw [this];omega
 rw [e,u32_or_nat _ _ hP h2]
theorem c6u (b o:Nat) (B:Nat → Nat) (hB:∀ x,B x < 256) (f:Nat → Nat) (hf:∀ r,f r < 256) (w:World) (ht:Tb w b o B) :
 Calls Tryz.prog 146 #[.pointer (some ⟨b,o,none⟩),.int .u32 ((wd f:Nat):Int)] w fun e w' => e = .returned (.int .u32 ((wd (fun r => B (f r)):Nat):Int)) ∧ ∃ q,w' = w.drewN q:=by
 have hF:∀ r,B (f r) < 256:=fun r => hB _
 have HF:=hJ_ hF
 have HT:=hJ_ ht
 have HFF:=hJ_ hf
 clear hF ht hf hB
 obtain ⟨X,hX⟩:∃ X,X = wd f:=⟨_,rfl⟩
 rw [← hX]
 have HX:=hJ_ hX
 clear hX
 go_enter Tryz.func146,Tryz.ntmps146
 go_wp2
 go_loopw [5,7] (fun out s wr => ∃ i:Nat,i ≤ 4 ∧ s = .int .i64 (i:Nat) ∧ out = .int .u32 ((wdp (fun r => B (f r)) i:Nat):Int) ∧ ∃ q,wr = w.drewN q) (fun _ s _ => 4 - (intOf s).toNat)
 case atStart => exact ⟨0,by omega,rfl,by rw [b3t];rfl,0,rfl⟩
 case round =>
  obtain ⟨i,hi,rfl,rfl,q,hq⟩:=hrel
  have HQ:=hJ_ hq
  clear hq
  rename World => W
  by_cases hlt:i < 4
  ·have HTW:Tb W b o B:=by rw [HQ.out];exact HT.out
   have hcell:=HTW.2 (f i) (HFF.out i)
   clear HTW
   have hbi:=HF.out i
   have HOR:=hJ_ (c8o HF.out hlt)
   have hP:=c4m HF.out i
   have HROW:=hJ_ (d8f f HFF.out i hlt)
   have HSH:=hJ_ (b1l i hlt)
   rw [← HX.out] at HROW
   obtain ⟨k,hk⟩:∃ k,k = 8 * (3 - i):=⟨_,rfl⟩
   rw [← hk] at HOR HSH
   have hk2:k ≤ 24:=by omega
   obtain ⟨P,hPP⟩:∃ P,P = wdp (fun r => B (f r)) i:=⟨_,rfl⟩
   rw [← hPP] at HOR hP ⊢
   obtain ⟨y,hy⟩:∃ y,y = B (f i):=⟨_,rfl⟩
   rw [← hy] at HOR hbi hcell
   obtain ⟨z,hz⟩:∃ z,z = f i:=⟨_,rfl⟩
   rw [← hz] at hcell HROW
   have hz2:z < 256:=by rw [hz];exact HFF.out i
   have hz3:(z:Int) < 256:=by omega
   have hz4:(0:Int) ≤ (z:Int):=by omega
   have hor:=c4u hP hbi hk2
   rw [HOR.out] at hor
   clear hk hPP hy hz
   go_wp2_with fail
   go_quiet (first
    | (go_at_call 165;exact d2i (HROW.out _))
    | (go_at_call 143;exact d2i (HSH.out _)))
   go_wp2
   go_roundw
   case rel => exact ⟨i + 1,by omega,by go_num,rfl,_,by rw [HQ.out];exact World.drewN_drewN _ _ _⟩
   case measure => simp [intOf];omega
  ·obtain rfl:i = 4:=by omega
   rw [b8g]
   go_wp2
   go_ret
   exact ⟨rfl,_,HQ.out⟩
theorem e7b:(Tryz.prog.info? 147).map (fun i => (i.zero,i.size)) = some (some (.agg (Array.replicate 256 (.int .u8 0))),256):=by kernel_rfl
theorem e5c:(Tryz.prog.info? 150).map (fun i => (i.zero,i.size)) = some (some (.agg (Array.replicate 256 (.int .u32 0))),256):=by kernel_rfl
theorem c1r:(Tryz.prog.info? 147).map (·.size) = some 256:=by kernel_rfl
def d2o (v:Nat):Nat → Nat
 | 0 => 99
 | n + 1 => d2o v n ^^^ rot 8 v n
theorem c4n {v:Nat} (hv:v < 256):∀ n,d2o v n < 256
 | 0 => by show 99 < 256;omega
 | n + 1 => a2v (c4n hv n) (c4a (k:=8) hv)
theorem e4g:a9o 256 (fun v => d2o v 5 == aff v) = true:=by decide +kernel
theorem d3d {v:Nat} (h:v < 256):d2o v 5 = aff v:=by have:=a2z e4g v h;simpa using this
def d7o (i j:Nat):Value:=.int .u8 (((if j < i then box j else 0:Nat)):Int)
def e2q (i x n j:Nat):Value:=.int .u8 (((if j = i then d2o x n else if j < i then box j else 0:Nat)):Int)
theorem mk8 {x:Int} (h0:0 ≤ x) (h1:x < 256):(Lit.int .u8 x).wf = true:=by simp [Lit.wf,IntKind.min,IntKind.max,IntKind.signed,IntKind.bits];omega
theorem e8u {x:Int} (h0:0 ≤ x) (h1:x < 4294967296):(Lit.int .u32 x).wf = true:=by simp [Lit.wf,IntKind.min,IntKind.max,IntKind.signed,IntKind.bits];omega
theorem e9p {x:Int} (h0:-9223372036854775808 ≤ x) (h1:x ≤ 9223372036854775807):(Lit.int .i64 x).wf = true:=by simp [Lit.wf,IntKind.min,IntKind.max,IntKind.signed,IntKind.bits];omega
theorem e8k (x y:Nat) (hx:x < 256) (hy:y < 256) (w:World):Calls Tryz.prog 56 #[.int .u8 (x:Nat),.int .u8 (y:Nat)] w fun e w' => e = .returned (.int .u8 ((x ^^^ y:Nat):Int)) ∧ w = w':=
 b9b (x:Nat) (y:Nat) (by omega) (by omega) w
theorem e0l (x n:Nat) (hx:x < 256) (hn:n < 8) (w:World):Calls Tryz.prog 142 #[.int .u8 (x:Nat),.int .i64 (n:Nat)] w fun e w' => e = .returned (.int .u8 ((rot 8 x n:Nat):Int)) ∧ ∃ j,w' = w.drewN j:=by
 refine (e8s (x:Nat) (n:Nat) (mk8 (by omega) (by omega)) (e9p (by omega) (by omega)) w).mono fun e w' ⟨h1,h2⟩ => ⟨?_,h2⟩
 rw [h1]
 refine a0s ?_
 unfold c2d
 have e1:((n:Int) % ((8:Nat):Int)).toNat = n:=by omega
 rw [e1,Int.toNat_natCast]
theorem d8a (b x:Nat) (w:World) (hf:Fld w b) (hx:x < 256):Calls Tryz.prog 141 #[.pointer (some ⟨b,0,none⟩),.int .u8 (x:Nat)] w fun e w' => ∃ c:Int,e = .returned (.tuple #[.int .u8 ((inv x:Nat):Int),.int .i64 c]) ∧ w = w':=by
 by_cases h0:x = 0
 ·subst h0
  exact (d0l b w).mono fun e w' ⟨h1,h2⟩ => ⟨7,h1,h2⟩
 ·exact (d5q b x w hf hx h0).mono fun e w' ⟨h1,h2⟩ => ⟨0,h1,h2⟩
set_option maxHeartbeats 1000000 in
theorem b7l (fb:Nat) (w:World) (hf:Fld w fb) :
 Calls Tryz.prog 122 #[.pointer (some ⟨fb,0,none⟩)] w fun e w' => e = .returned (.agg (a0e 256 fun j => .int .u8 ((box j:Nat):Int))) ∧ Below w.heap.size w w':=by
 obtain ⟨hz,hi⟩:=zero_of_info e7b
 rw [a0m] at hz
 obtain ⟨c0,hc0⟩:∃ c0:Array Value,c0 = a0e 256 fun _ => .int .u8 0:=⟨_,rfl⟩
 rw [← hc0] at hz
 have hsz:c0.size = 256:=by rw [hc0,a0b]
 have h1:c0.all (·.oneCell') = true:=by rw [hc0];exact a0l fun _ => rfl
 obtain ⟨W0,hW0⟩:∃ W,W = w.alloc (.cells c0 147):=⟨_,rfl⟩
 have hs0:W0.heap.size = w.heap.size + 1:=by rw [hW0];simp
 have HR0:=hJ_ (show Blk W0 w.heap.size 147 256 (fun _ => .int .u8 0) by rw [hW0,hc0];exact Blk.made _ _ _ _)
 have HB0:=hJ_ (show Below w.heap.size w W0 by rw [hW0];exact (Below.refl _ _).alloc (Nat.le_refl _) _)
 have hsc:(storeCells ⟨w.heap.size + 1,0,none⟩ c0.toList 0).run Tryz.prog (W0.alloc (.cells c0 147)) = .ok () (W0.alloc (.cells c0 147)):=by
  have h:=run_storeCells_new (P:=Tryz.prog) W0 147 c0 c0 (by rw [hi,hsz]) rfl h1
  rw [hs0] at h
  exact h
 rw [hW0] at hsc
 have HF:=hJ_ (hf.below HB0.out)
 have HC0:=hJ_ hc0
 have HW0:=hJ_ hW0
 have HS0:=hJ_ hs0
 clear hc0 hf hi h1 hW0 hs0
 go_enter Tryz.func122,Tryz.ntmps122
 go_wp2_with fail
 clear hsc hz hsz
 rw [← HW0.out,← HS0.out]
 obtain ⟨b2,hb2⟩:∃ b,b = w.heap.size:=⟨_,rfl⟩
 obtain ⟨b3,hb3⟩:∃ b,b = W0.heap.size:=⟨_,rfl⟩
 have HBK:=hJ_ (show Blk (W0.alloc (.cells c0 147)) b3 147 256 (d7o 0) by
  rw [HC0.out,hb3]
  exact (Blk.made _ _ _ _).congr fun j hj => by unfold d7o;rw [if_neg (by omega)];rfl)
 rw [← hb2] at HR0
 have HBE:=hJ_ (show Below b3 W0 (W0.alloc (.cells c0 147)) by rw [hb3];exact (Below.refl _ _).alloc (Nat.le_refl _) _)
 have HLT:=hJ_ (show b2 < b3 by rw [hb2,hb3,HS0.out];omega)
 have HLE:=hJ_ (show W0.heap.size ≤ b3 by rw [hb3];exact Nat.le_refl _)
 rw [← hb2,← hb3]
 have HB2:=hJ_ hb2
 clear hb2 hb3 HC0 HS0 HW0
 go_loopw [9] (fun s wr => ∃ i:Nat,i ≤ 256 ∧ s = .int .i64 (i:Nat) ∧ Blk wr b3 147 256 (d7o i) ∧ Below b3 W0 wr) (fun s _ => 256 - (intOf s).toNat)
 case atStart => exact ⟨0,by omega,rfl,HBK.out,HBE.out⟩
 case round =>
  obtain ⟨i,hi,rfl,hK,hB⟩:=hrel
  have HK:=hJ_ hK
  have HB:=hJ_ hB
  clear hK hB HBK HBE
  by_cases hlt:i < 256
  ·have qi:(i:Int) < 256:=by omega
   have qi0:(0:Int) ≤ (i:Int):=by omega
   have qw:IntKind.u8.wrap (i:Int) = (i:Int):=by rw [IntKind.wrap_u8];omega
   have hfr:=HK.out.free i
   have hcell0:=HK.out.cell hlt
   have HINV:=hJ_ (d8a fb i _ ((HF.out.below (HB.out.mono (by have:=HLE.out;omega)))) hlt)
   rename World => wr
   go_upto_region 8 with (go_at_call 141;refine HINV.out.mono ?_;rintro e w' ⟨c,rfl,rfl⟩)
   have hxl:=a6x i
   obtain ⟨x,hx⟩:∃ x,x = inv i:=⟨_,rfl⟩
   rw [← hx] at hxl ⊢
   have HX:=hJ_ hx
   have HK8:=hJ_ ((HK.out.set hlt (.int .u8 99)).congr (h:=e2q i x 0) fun j hj => by
    unfold e2q d7o
    by_cases e:j = i
    ·rw [if_pos e,if_pos e];rfl
    ·rw [if_neg e,if_neg e])
   have HB8:=hJ_ (HB.out.setCell (p:=⟨b3,i,none⟩) (Nat.le_refl _) (.int .u8 99))
   clear hx hfr hcell0
   go_loopw [21] (fun s W => ∃ n:Nat,n ≤ 5 ∧ s = .int .i64 (n:Nat) ∧ Blk W b3 147 256 (e2q i x n) ∧ Below b3 W0 W) (fun s _ => 5 - (intOf s).toNat)
   case atStart => exact ⟨0,by omega,rfl,HK8.out,HB8.out⟩
   case round =>
    obtain ⟨n,hn,rfl,hK,hB⟩:=hrel
    have HKn:=hJ_ hK
    have HBn:=hJ_ hB
    clear hK hB
    rename World => W
    by_cases hln:n < 5
    ·have hcell:=HKn.out.cell hlt
     have hcell2:W.cell? ⟨b3,i,none⟩ = some (.int .u8 ((d2o x n:Nat):Int)):=by rw [hcell];unfold e2q;rw [if_pos rfl]
     have hfr:=HKn.out.free i
     have hp:=c4n hxl n
     have hr:=c4a (k:=8) (s:=n) hxl
     have hstep:d2o x (n + 1) = d2o x n ^^^ rot 8 x n:=rfl
     have HST:=hJ_ hstep
     have HTU:=hJ_ (e0l x n hxl (by omega))
     obtain ⟨u,hu⟩:∃ u,u = d2o x n:=⟨_,rfl⟩
     obtain ⟨v,hv⟩:∃ v,v = rot 8 x n:=⟨_,rfl⟩
     rw [← hu] at hcell2 hp HST
     rw [← hv] at hr HST HTU
     have qn:(n:Int) < 5:=by omega
     clear hcell hu hv hstep
     go_wp2_with fail
     go_region_with (first
      | (go_at_call 142;refine (HTU.out _).mono ?_;rintro e w' ⟨rfl,q,rfl⟩)
      | (go_at_call 56;refine (e8k u v hp hr _).mono ?_;rintro e w' ⟨rfl,rfl⟩))
     all_goals
      go_wp2
      go_roundw
      case rel =>
       refine ⟨n + 1,by omega,by go_num,((HKn.out.drewN _).set hlt _).congr fun j hj => ?_,(below_drewN HBn.out _).setCell (p:=⟨b3,i,none⟩) (Nat.le_refl _) _⟩
       unfold e2q
       by_cases e:j = i
       ·rw [if_pos e,if_pos e,HST.out]
       ·rw [if_neg e,if_neg e,if_neg e]
      case measure => simp [intOf];omega
    ·obtain rfl:n = 5:=by omega
     have HKN:=hJ_ (HKn.out.congr (h:=d7o (i + 1)) fun j hj => by
      unfold e2q d7o
      by_cases e:j = i
      ·rw [if_pos e,if_pos (by omega),d3d hxl,HX.out,e];rfl
      ·rw [if_neg e]
       by_cases e2:j < i
       ·rw [if_pos e2,if_pos (by omega)]
       ·rw [if_neg e2,if_neg (by omega)])
     go_wp2
     go_roundw
     case rel => exact ⟨i + 1,by omega,by go_num,HKN.out,HBn.out⟩
     case measure => simp [intOf];omega
  ·obtain rfl:i = 256:=by omega
   rename World => wr
   have HK3:=hJ_ (HK.out.congr (h:=fun j => .int .u8 ((box j:Nat):Int)) fun j hj => by unfold d7o;rw [if_pos hj])
   have HR2:=hJ_ (HR0.out.on HB.out HLT.out)
   have hone:(a0e 256 fun j => (Value.int .u8 ((box j:Nat):Int))).all (·.oneCell') = true:=a0l fun _ => rfl
   have hsi:(Tryz.prog.info? 147).map (·.size) = some (a0e 256 fun j => (Value.int .u8 ((box j:Nat):Int))).size:=by rw [a0b];exact c1r
   have hso:(a0e 256 fun _ => (Value.int .u8 0)).size = (a0e 256 fun j => (Value.int .u8 ((box j:Nat):Int))).size:=by rw [a0b,a0b]
   have HR3:=hJ_ (HR2.out.row (fun j => .int .u8 ((box j:Nat):Int)))
   have HBF:=hJ_ (show Below w.heap.size w (wr.setRow b2 (a0e 256 fun j => .int .u8 ((box j:Nat):Int))) from by
    have h1:Below w.heap.size w wr:=HB0.out.trans (HB.out.mono (by have:=HLT.out;rw [HB2.out] at this;omega))
    exact below_setRow h1 (by rw [HB2.out];exact Nat.le_refl _) _)
   obtain ⟨cs,hcs⟩:∃ cs,cs = a0e 256 fun j => (Value.int .u8 ((box j:Nat):Int)):=⟨_,rfl⟩
   unfold Blk at HK3 HR3
   rw [← hcs] at HK3 HR3 HBF hone hsi hso
   have HCS:=hJ_ hcs
   have HS1:=hJ_ hsi
   have HS2:=hJ_ hso
   have HS3:=hJ_ hone
   clear hcs hsi hso hone
   go_wp2_with (first
    | ((with_reducible show wpList _ _ _ (⟨some 35,_,_,_,_,_⟩ :: _) _ _);refine wpList_load_row rfl 147 (.tmp 3) rfl b3 rfl _ cs _ _ HK3.out Tryz.underlying147 rfl HS1.out ?_)
    | ((with_reducible show wpList _ _ _ (⟨none,_,_,_,_,_⟩ :: _) _ _);refine wpList_store_row rfl 147 (.tmp 2) (.tmp 35) rfl b2 cs rfl rfl _ _ HR2.out HS1.out HS2.out HS3.out ?_))
   refine bodyPost_ret (v:=.agg cs) (results_cell_row rfl _ _ b2 _ cs _ _ rfl HR3.out Tryz.underlying147 rfl HS1.out) rfl ⟨by rw [HCS.out],HBF.out⟩
theorem e0k:(Tryz.prog.info? 150).map (·.size) = some 256:=by kernel_rfl
theorem e0n:(Tryz.prog.info? 152).map (·.size) = some 4:=by kernel_rfl
theorem d1j (p:Nat → Nat) {k:Nat} (hk:k < 4) (w:World):(Instr.index 152 (.agg (a0e 4 fun j => .int .u8 ((p j:Nat):Int))) (.int .i64 (k:Nat))).run Tryz.prog w = .ok (.int .u8 ((p k:Nat):Int)) w:=by
 rcases lt4 hk with rfl | rfl | rfl | rfl <;> kernel_rfl
def prt (p:Nat → Nat) (j:Nat):Nat:=wd fun k => gm j (p k)
def d9g (p:Nat → Nat) (i j:Nat):Value:=.int .u32 (((if j < i then prt p j else 0:Nat)):Int)
def e2r (p:Nat → Nat) (i k j:Nat):Value:=.int .u32 (((if j = i then wdp (fun r => gm i (p r)) k else if j < i then prt p j else 0:Nat)):Int)
set_option maxHeartbeats 1000000 in
theorem a2x (fb:Nat) (p:Nat → Nat) (hp:∀ k,p k < 256) (w:World) (hf:Fld w fb) :
 Calls Tryz.prog 123 #[.pointer (some ⟨fb,0,none⟩),.agg (a0e 4 fun j => .int .u8 ((p j:Nat):Int))] w fun e w' => e = .returned (.agg (a0e 256 fun j => .int .u32 ((prt p j:Nat):Int))) ∧ Below w.heap.size w w':=by
 obtain ⟨hz,hi⟩:=zero_of_info e5c
 rw [a0m] at hz
 obtain ⟨by_,hby⟩:∃ c:Array Value,c = a0e 4 fun j => .int .u8 ((p j:Nat):Int):=⟨_,rfl⟩
 rw [← hby]
 obtain ⟨c0,hc0⟩:∃ c0:Array Value,c0 = a0e 256 fun _ => .int .u32 0:=⟨_,rfl⟩
 rw [← hc0] at hz
 have hsz:c0.size = 256:=by rw [hc0,a0b]
 have h1:c0.all (·.oneCell') = true:=by rw [hc0];exact a0l fun _ => rfl
 obtain ⟨V0,hV0⟩:∃ W,W = w.alloc (.cells by_ 152):=⟨_,rfl⟩
 obtain ⟨W0,hW0⟩:∃ W,W = V0.alloc (.cells c0 150):=⟨_,rfl⟩
 have hs0:W0.heap.size = w.heap.size + 1 + 1:=by rw [hW0,hV0];simp
 have HR1:=hJ_ (show Blk V0 w.heap.size 152 4 (fun j => .int .u8 ((p j:Nat):Int)) by rw [hV0,hby];exact Blk.made _ _ _ _)
 have HBV:=hJ_ (show Below w.heap.size w V0 by rw [hV0];exact (Below.refl _ _).alloc (Nat.le_refl _) _)
 have HBVW:=hJ_ (show Below V0.heap.size V0 W0 by rw [hW0];exact (Below.refl _ _).alloc (Nat.le_refl _) _)
 have hsV:V0.heap.size = w.heap.size + 1:=by rw [hV0];simp
 have HR0:=hJ_ (show Blk W0 (w.heap.size + 1) 150 256 (fun _ => .int .u32 0) by rw [← hsV,hW0,hc0];exact Blk.made _ _ _ _)
 have HB0:=hJ_ (show Below w.heap.size w W0 from bt HBV.out HBVW.out)
 have hsc:(storeCells ⟨w.heap.size + 1 + 1,0,none⟩ c0.toList 0).run Tryz.prog (W0.alloc (.cells c0 150)) = .ok () (W0.alloc (.cells c0 150)):=by
  have h:=run_storeCells_new (P:=Tryz.prog) W0 150 c0 c0 (by rw [hi,hsz]) rfl h1
  rw [hs0] at h
  exact h
 rw [hW0,hV0] at hsc
 have HF:=hJ_ (hf.below HB0.out)
 have HC0:=hJ_ hc0
 have HW0:=hJ_ (show W0 = (w.alloc (.cells by_ 152)).alloc (.cells c0 150) by rw [hW0,hV0])
 have HS0:=hJ_ hs0
 have HBY:=hJ_ hby
 have HSV:=hJ_ hsV
 clear hc0 hf hi h1 hW0 hs0 hby hV0 hsV
 go_enter Tryz.func123,Tryz.ntmps123
 go_wp2_with fail
 clear hsc hz hsz
 rw [← HW0.out,← HS0.out]
 obtain ⟨b1,hb1⟩:∃ b,b = w.heap.size:=⟨_,rfl⟩
 obtain ⟨b2,hb2⟩:∃ b,b = w.heap.size + 1:=⟨_,rfl⟩
 obtain ⟨b3,hb3⟩:∃ b,b = W0.heap.size:=⟨_,rfl⟩
 have HBK:=hJ_ (show Blk (W0.alloc (.cells c0 150)) b3 150 256 (d9g p 0) by
  rw [HC0.out,hb3]
  exact (Blk.made _ _ _ _).congr fun j hj => by unfold d9g;rw [if_neg (by omega)];rfl)
 have HBE:=hJ_ (show Below b3 W0 (W0.alloc (.cells c0 150)) by rw [hb3];exact (Below.refl _ _).alloc (Nat.le_refl _) _)
 have HB1:=hJ_ (show Blk W0 b1 152 4 (fun j => .int .u8 ((p j:Nat):Int)) by rw [hb1];exact HR1.out.on HBVW.out (by rw [HSV.out];omega))
 rw [← hb2] at HR0
 have HLT:=hJ_ (show b1 < b3 ∧ b2 < b3 ∧ w.heap.size ≤ b2 by rw [hb1,hb2,hb3,HS0.out];omega)
 have HLE:=hJ_ (show W0.heap.size ≤ b3 ∧ w.heap.size ≤ b3 by rw [hb3,HS0.out];omega)
 rw [← hb2,← hb1,← hb3]
 have HP:=hJ_ hp
 clear hb1 hb2 hb3 HC0 HS0 HW0 HR1 HBV HBVW HSV hp
 go_loopw [10] (fun s wr => ∃ i:Nat,i ≤ 256 ∧ s = .int .i64 (i:Nat) ∧ Blk wr b3 150 256 (d9g p i) ∧ Below b3 W0 wr) (fun s _ => 256 - (intOf s).toNat)
 case atStart => exact ⟨0,by omega,rfl,HBK.out,HBE.out⟩
 case round =>
  obtain ⟨i,hi,rfl,hK,hB⟩:=hrel
  have HK:=hJ_ hK
  have HB:=hJ_ hB
  clear hK hB HBK HBE
  by_cases hlt:i < 256
  ·have qi:(i:Int) < 256:=by omega
   have qi0:(0:Int) ≤ (i:Int):=by omega
   have qw:IntKind.u8.wrap (i:Int) = (i:Int):=by rw [IntKind.wrap_u8];omega
   have HL:=hJ_ (HB1.out.on HB.out HLT.out.1)
   have HSY:=hJ_ (show (Tryz.prog.info? 152).map (·.size) = some by_.size by rw [HBY.out,a0b];exact e0n)
   rename World => wr
   unfold Blk at HL
   rw [← HBY.out] at HL
   go_upto_region 6 with ((with_reducible show wpList _ _ _ (⟨some 13,_,_,_,_,_⟩ :: _) _ _);refine wpList_load_row rfl 152 (.tmp 3) rfl b1 rfl _ by_ _ _ HL.out Tryz.underlying152 rfl HSY.out ?_)
   have HK8:=hJ_ (HK.out.congr (h:=e2r p i 0) fun j hj => by
    unfold e2r d9g
    by_cases e:j = i
    ·rw [if_neg (by omega),if_pos e,b3t]
    ·rw [if_neg e])
   go_loopw [14] (fun s W => ∃ k:Nat,k ≤ 4 ∧ s = .int .i64 (k:Nat) ∧ Blk W b3 150 256 (e2r p i k) ∧ Below b3 W0 W) (fun s _ => 4 - (intOf s).toNat)
   case atStart => exact ⟨0,by omega,rfl,HK8.out,HB.out⟩
   case round =>
    obtain ⟨k,hk,rfl,hK,hB⟩:=hrel
    have HKn:=hJ_ hK
    have HBn:=hJ_ hB
    clear hK hB
    rename World => W
    by_cases hlk:k < 4
    ·have hcell:=HKn.out.cell hlt
     unfold e2r at hcell
     rw [if_pos rfl] at hcell
     have hfr:=HKn.out.free i
     have hix:∀ w:World,(Instr.index 152 (.agg by_) (.int .i64 (k:Nat))).run Tryz.prog w = .ok (.int .u8 ((p k:Nat):Int)) w:=by rw [HBY.out];exact d1j p hlk
     have hF:∀ r,(fun r => gm i (p r)) r < 256:=fun r => a7k _ _
     have hOR:=c8o hF hlk
     have hP:=c4m hF k
     have hyl:=a7k i (p k)
     have HMU:=hJ_ (fun W hW => e7g fb i (p k) W hW hlt (HP.out k))
     have HFW:=hJ_ (HF.out.below (HBn.out.mono HLE.out.1))
     have HSH:=hJ_ (b1l k hlk)
     obtain ⟨sh,hsh⟩:∃ sh,sh = 8 * (3 - k):=⟨_,rfl⟩
     rw [← hsh] at hOR HSH
     have hs2:sh ≤ 24:=by omega
     obtain ⟨u,hu⟩:∃ u,u = wdp (fun r => gm i (p r)) k:=⟨_,rfl⟩
     obtain ⟨v,hv⟩:∃ v,v = gm i (p k):=⟨_,rfl⟩
     rw [← hu] at hcell hP hOR
     rw [← hv] at hyl HMU
     rw [← hv] at hOR
     have hor:=c4u hP hyl hs2
     rw [hOR] at hor
     have qk:(k:Int) < 4:=by omega
     have qk0:(0:Int) ≤ (k:Int):=by omega
     clear hF hOR hu hv hsh
     go_wp2_with fail
     go_region_with (first
      | (go_at_call 104;refine (HMU.out _ (by exact HFW.out)).mono ?_;rintro e w' ⟨rfl,rfl⟩)
      | (go_at_call 143;refine (HSH.out _).mono ?_;rintro e w' ⟨rfl,rfl⟩))
     all_goals
      go_wp2
      go_roundw
      case rel =>
       refine ⟨k + 1,by omega,by go_num,((HKn.out.drewN 1).set hlt _).congr fun j hj => ?_,(below_drewN HBn.out 1).setCell (p:=⟨b3,i,none⟩) (Nat.le_refl _) _⟩
       unfold e2r
       by_cases e:j = i
       ·rw [if_pos e,if_pos e,hor]
       ·rw [if_neg e,if_neg e,if_neg e]
      case measure => simp [intOf];omega
    ·obtain rfl:k = 4:=by omega
     have HKN:=hJ_ (HKn.out.congr (h:=d9g p (i + 1)) fun j hj => by
      unfold e2r d9g
      by_cases e:j = i
      ·rw [if_pos e,if_pos (by omega),b8g,e];rfl
      ·rw [if_neg e]
       by_cases e2:j < i
       ·rw [if_pos e2,if_pos (by omega)]
       ·rw [if_neg e2,if_neg (by omega)])
     go_wp2
     go_roundw
     case rel => exact ⟨i + 1,by omega,by go_num,HKN.out,HBn.out⟩
     case measure => simp [intOf];omega
  ·obtain rfl:i = 256:=by omega
   rename World => wr
   have HK3:=hJ_ (HK.out.congr (h:=fun j => .int .u32 ((prt p j:Nat):Int)) fun j hj => by unfold d9g;rw [if_pos hj])
   have HR2:=hJ_ (HR0.out.on HB.out HLT.out.2.1)
   have HS3:=hJ_ (show (a0e 256 fun j => (Value.int .u32 ((prt p j:Nat):Int))).all (·.oneCell') = true from a0l fun _ => rfl)
   have HS1:=hJ_ (show (Tryz.prog.info? 150).map (·.size) = some (a0e 256 fun j => (Value.int .u32 ((prt p j:Nat):Int))).size by rw [a0b];exact e0k)
   have HS2:=hJ_ (show (a0e 256 fun _ => (Value.int .u32 0)).size = (a0e 256 fun j => (Value.int .u32 ((prt p j:Nat):Int))).size by rw [a0b,a0b])
   have HR3:=hJ_ (HR2.out.row (fun j => .int .u32 ((prt p j:Nat):Int)))
   have HBF:=hJ_ (show Below w.heap.size w (wr.setRow b2 (a0e 256 fun j => .int .u32 ((prt p j:Nat):Int))) from below_setRow (HB0.out.trans (HB.out.mono HLE.out.2)) HLT.out.2.2 _)
   obtain ⟨cs,hcs⟩:∃ cs,cs = a0e 256 fun j => (Value.int .u32 ((prt p j:Nat):Int)):=⟨_,rfl⟩
   unfold Blk at HK3 HR3
   rw [← hcs] at HK3 HR3 HBF HS1 HS2 HS3
   have HCS:=hJ_ hcs
   clear hcs
   go_wp2_with (first
    | ((with_reducible show wpList _ _ _ (⟨some 34,_,_,_,_,_⟩ :: _) _ _);refine wpList_load_row rfl 150 (.tmp 5) rfl b3 rfl _ cs _ _ HK3.out Tryz.underlying150 rfl HS1.out ?_)
    | ((with_reducible show wpList _ _ _ (⟨none,_,_,_,_,_⟩ :: _) _ _);refine wpList_store_row rfl 150 (.tmp 4) (.tmp 34) rfl b2 cs rfl rfl _ _ HR2.out HS1.out HS2.out HS3.out ?_))
   refine bodyPost_ret (v:=.agg cs) (results_cell_row rfl _ _ b2 _ cs _ _ rfl HR3.out Tryz.underlying150 rfl HS1.out) rfl ⟨by rw [HCS.out],HBF.out⟩
def e3s (i j:Nat):Value:=.int .u8 (((if bxb j < i then bxb j else 0:Nat)):Int)
set_option maxHeartbeats 1000000 in
theorem b3m (b o:Nat) (w:World) (hT:Tb w b o box) :
 Calls Tryz.prog 124 #[.pointer (some ⟨b,o,none⟩)] w fun e w' => e = .returned (.agg (a0e 256 fun j => .int .u8 ((bxb j:Nat):Int))) ∧ Below w.heap.size w w':=by
 obtain ⟨hz,hi⟩:=zero_of_info e7b
 rw [a0m] at hz
 obtain ⟨c0,hc0⟩:∃ c0:Array Value,c0 = a0e 256 fun _ => .int .u8 0:=⟨_,rfl⟩
 rw [← hc0] at hz
 have hsz:c0.size = 256:=by rw [hc0,a0b]
 have h1:c0.all (·.oneCell') = true:=by rw [hc0];exact a0l fun _ => rfl
 obtain ⟨W0,hW0⟩:∃ W,W = w.alloc (.cells c0 147):=⟨_,rfl⟩
 have hs0:W0.heap.size = w.heap.size + 1:=by rw [hW0];simp
 have HR0:=hJ_ (show Blk W0 w.heap.size 147 256 (fun _ => .int .u8 0) by rw [hW0,hc0];exact Blk.made _ _ _ _)
 have HB0:=hJ_ (show Below w.heap.size w W0 by rw [hW0];exact (Below.refl _ _).alloc (Nat.le_refl _) _)
 have hsc:(storeCells ⟨w.heap.size + 1,0,none⟩ c0.toList 0).run Tryz.prog (W0.alloc (.cells c0 147)) = .ok () (W0.alloc (.cells c0 147)):=by
  have h:=run_storeCells_new (P:=Tryz.prog) W0 147 c0 c0 (by rw [hi,hsz]) rfl h1
  rw [hs0] at h
  exact h
 rw [hW0] at hsc
 have HT:=hJ_ (hT.on HB0.out)
 have HC0:=hJ_ hc0
 have HW0:=hJ_ hW0
 have HS0:=hJ_ hs0
 clear hc0 hT hi h1 hW0 hs0
 go_enter Tryz.func124,Tryz.ntmps124
 go_wp2_with fail
 clear hsc hz hsz
 rw [← HW0.out,← HS0.out]
 obtain ⟨b2,hb2⟩:∃ b,b = w.heap.size:=⟨_,rfl⟩
 obtain ⟨b3,hb3⟩:∃ b,b = W0.heap.size:=⟨_,rfl⟩
 have HBK:=hJ_ (show Blk (W0.alloc (.cells c0 147)) b3 147 256 (e3s 0) by
  rw [HC0.out,hb3]
  exact (Blk.made _ _ _ _).congr fun j hj => by unfold e3s;rw [if_neg (by omega)];rfl)
 rw [← hb2] at HR0
 have HBE:=hJ_ (show Below b3 W0 (W0.alloc (.cells c0 147)) by rw [hb3];exact (Below.refl _ _).alloc (Nat.le_refl _) _)
 have HLT:=hJ_ (show b2 < b3 ∧ w.heap.size ≤ b2 by rw [hb2,hb3,HS0.out];omega)
 have HLE:=hJ_ (show W0.heap.size ≤ b3 ∧ w.heap.size ≤ b3 by rw [hb3,HS0.out];omega)
 rw [← hb2,← hb3]
 clear hb2 hb3 HC0 HS0 HW0
 go_loopw [8] (fun s wr => ∃ i:Nat,i ≤ 256 ∧ s = .int .i64 (i:Nat) ∧ Blk wr b3 147 256 (e3s i) ∧ Below b3 W0 wr) (fun s _ => 256 - (intOf s).toNat)
 case atStart => exact ⟨0,by omega,rfl,HBK.out,HBE.out⟩
 case round =>
  obtain ⟨i,hi,rfl,hK,hB⟩:=hrel
  have HK:=hJ_ hK
  have HB:=hJ_ hB
  clear hK hB HBK HBE
  rename World => wr
  by_cases hlt:i < 256
  ·have qi:(i:Int) < 256:=by omega
   have qi0:(0:Int) ≤ (i:Int):=by omega
   have qw:IntKind.u8.wrap (i:Int) = (i:Int):=by rw [IntKind.wrap_u8];omega
   have hcb:=(HT.out.on (HB.out.mono HLE.out.1)).2 i hlt
   have hbl:=a2t i
   have HBX:=hJ_ (e1j hlt)
   have hcell:=HK.out.cell hbl
   have hfr:=HK.out.free (box i)
   obtain ⟨z,hz⟩:∃ z,z = box i:=⟨_,rfl⟩
   rw [← hz] at hcb hbl HBX hcell hfr
   have HZ:=hJ_ hz
   have qz:(z:Int) < 256:=by omega
   have qz0:(0:Int) ≤ (z:Int):=by omega
   clear hz
   go_wp2_with fail
   go_quiet (fail)
   go_wp2
   go_roundw
   case rel =>
    refine ⟨i + 1,by omega,by go_num,((HK.out.drewN _).set hbl _).congr fun j hj => ?_,(below_drewN HB.out _).setCell (p:=⟨b3,z,none⟩) (Nat.le_refl _) _⟩
    unfold e3s
    by_cases e:j = z
    ·rw [if_pos e,if_pos (by rw [e,HBX.out];omega),e,HBX.out]
    ·rw [if_neg e]
     have hne:bxb j ≠ i:=fun h => e (by rw [HZ.out,← h,e1d hj])
     by_cases e2:bxb j < i
     ·rw [if_pos e2,if_pos (by omega)]
     ·rw [if_neg e2,if_neg (by omega)]
   case measure => simp [intOf];omega
  ·obtain rfl:i = 256:=by omega
   have HK3:=hJ_ (HK.out.congr (h:=fun j => .int .u8 ((bxb j:Nat):Int)) fun j hj => by unfold e3s;rw [if_pos (e4o j)])
   have HR2:=hJ_ (HR0.out.on HB.out HLT.out.1)
   have HS3:=hJ_ (show (a0e 256 fun j => (Value.int .u8 ((bxb j:Nat):Int))).all (·.oneCell') = true from a0l fun _ => rfl)
   have HS1:=hJ_ (show (Tryz.prog.info? 147).map (·.size) = some (a0e 256 fun j => (Value.int .u8 ((bxb j:Nat):Int))).size by rw [a0b];exact c1r)
   have HS2:=hJ_ (show (a0e 256 fun _ => (Value.int .u8 0)).size = (a0e 256 fun j => (Value.int .u8 ((bxb j:Nat):Int))).size by rw [a0b,a0b])
   have HR3:=hJ_ (HR2.out.row (fun j => .int .u8 ((bxb j:Nat):Int)))
   have HBF:=hJ_ (show Below w.heap.size w (wr.setRow b2 (a0e 256 fun j => .int .u8 ((bxb j:Nat):Int))) from below_setRow (HB0.out.trans (HB.out.mono HLE.out.2)) HLT.out.2 _)
   obtain ⟨cs,hcs⟩:∃ cs,cs = a0e 256 fun j => (Value.int .u8 ((bxb j:Nat):Int)):=⟨_,rfl⟩
   unfold Blk at HK3 HR3
   rw [← hcs] at HK3 HR3 HBF HS1 HS2 HS3
   have HCS:=hJ_ hcs
   clear hcs
   go_wp2_with (first
    | ((with_reducible show wpList _ _ _ (⟨some 19,_,_,_,_,_⟩ :: _) _ _);refine wpList_load_row rfl 147 (.tmp 3) rfl b3 rfl _ cs _ _ HK3.out Tryz.underlying147 rfl HS1.out ?_)
    | ((with_reducible show wpList _ _ _ (⟨none,_,_,_,_,_⟩ :: _) _ _);refine wpList_store_row rfl 147 (.tmp 2) (.tmp 19) rfl b2 cs rfl rfl _ _ HR2.out HS1.out HS2.out HS3.out ?_))
   refine bodyPost_ret (v:=.agg cs) (results_cell_row rfl _ _ b2 _ cs _ _ rfl HR3.out Tryz.underlying147 rfl HS1.out) rfl ⟨by rw [HCS.out],HBF.out⟩
theorem b9w:(Tryz.prog.info? 164).map (fun i => (i.zero,i.size)) = some (some (.agg (Array.replicate 4 (.int .u32 0))),4):=by kernel_rfl
theorem a6h:(Tryz.prog.info? 164).map (·.size) = some 4:=by kernel_rfl
def sqc (S:Nat → Nat → Nat) (c:Nat):Value:=.int .u32 ((wd (S c):Nat):Int)
def sqV (S:Nat → Nat → Nat):Array Value:=a0e 4 (sqc S)
theorem a1n (S:Nat → Nat → Nat):(sqV S).size = 4:=a0b _ _
def sqM (S T:Nat → Nat → Nat) (i c:Nat):Value:=if c < i then sqc T c else sqc S c
set_option maxHeartbeats 1000000 in
theorem a8g (S T:Nat → Nat → Nat) (hS:SqB S) (hT:SqB T) (w:World) :
 Calls Tryz.prog 177 #[.agg (sqV S),.agg (sqV T)] w fun e w' => e = .returned (.agg (sqV (adds S T))) ∧ Below w.heap.size w w':=by
 obtain ⟨hz,hi⟩:=zero_of_info b9w
 rw [a0m] at hz
 obtain ⟨s0,hs0⟩:∃ c:Array Value,c = sqV S:=⟨_,rfl⟩
 obtain ⟨t0,ht0⟩:∃ c:Array Value,c = sqV T:=⟨_,rfl⟩
 obtain ⟨c0,hc0⟩:∃ c0:Array Value,c0 = a0e 4 fun _ => .int .u32 0:=⟨_,rfl⟩
 rw [← hc0] at hz
 rw [← hs0,← ht0]
 obtain ⟨V1,hV1⟩:∃ W,W = w.alloc (.cells s0 164):=⟨_,rfl⟩
 obtain ⟨V2,hV2⟩:∃ W,W = V1.alloc (.cells t0 164):=⟨_,rfl⟩
 obtain ⟨W0,hW0⟩:∃ W,W = V2.alloc (.cells c0 164):=⟨_,rfl⟩
 have e1:V1.heap.size = w.heap.size + 1:=by rw [hV1];simp
 have e2:V2.heap.size = w.heap.size + 1 + 1:=by rw [hV2,hV1];simp
 have e0:W0.heap.size = w.heap.size + 1 + 1 + 1:=by rw [hW0,hV2,hV1];simp
 have B1:Below w.heap.size w V1:=by rw [hV1];exact (Below.refl _ _).alloc (Nat.le_refl _) _
 have B2:Below V1.heap.size V1 V2:=by rw [hV2];exact (Below.refl _ _).alloc (Nat.le_refl _) _
 have B3:Below V2.heap.size V2 W0:=by rw [hW0];exact (Below.refl _ _).alloc (Nat.le_refl _) _
 have HB0:=hJ_ (show Below w.heap.size w W0 from bt (bt B1 B2) B3)
 have HS:=hJ_ (show Blk W0 w.heap.size 164 4 (sqM S (adds S T) 0) by
  have h:Blk V1 w.heap.size 164 4 (sqc S):=by rw [hV1,hs0];exact Blk.made _ _ _ _
  exact ((h.on B2 (by omega)).on B3 (by omega)).congr fun j hj => by unfold sqM;rw [if_neg (by omega)])
 have HT:=hJ_ (show Blk W0 (w.heap.size + 1) 164 4 (sqc T) by
  have h:Blk V2 (w.heap.size + 1) 164 4 (sqc T):=by rw [← e1,hV2,ht0];exact Blk.made _ _ _ _
  exact h.on B3 (by omega))
 have HR:=hJ_ (show Blk W0 (w.heap.size + 1 + 1) 164 4 (fun _ => .int .u32 0) by rw [← e2,hW0,hc0];exact Blk.made _ _ _ _)
 have HW0:=hJ_ (show W0 = ((w.alloc (.cells s0 164)).alloc (.cells t0 164)).alloc (.cells c0 164) by rw [hW0,hV2,hV1])
 have HSB:=hJ_ hS
 have HTB:=hJ_ hT
 clear hV1 hV2 hW0 e1 e2 e0 B1 B2 B3 hS hT hi hs0 ht0 hc0
 go_enter Tryz.func177,Tryz.ntmps177
 go_wp2_with fail
 clear hz
 rw [← HW0.out]
 obtain ⟨b0,hb0⟩:∃ b,b = w.heap.size:=⟨_,rfl⟩
 rw [← hb0] at HS HT HR HB0 ⊢
 have HLE:=hJ_ (show w.heap.size ≤ b0 by rw [hb0];exact Nat.le_refl _)
 have HBS:=hJ_ hb0
 clear HW0 hb0
 go_loopw [6] (fun s wr => ∃ i:Nat,i ≤ 4 ∧ s = .int .i64 (i:Nat) ∧ Blk wr b0 164 4 (sqM S (adds S T) i) ∧ Blk wr (b0 + 1) 164 4 (sqc T) ∧ Blk wr (b0 + 1 + 1) 164 4 (fun _ => .int .u32 0) ∧ Below b0 w wr) (fun s _ => 4 - (intOf s).toNat)
 case atStart => exact ⟨0,by omega,rfl,HS.out,HT.out,HR.out,HB0.out⟩
 case round =>
  obtain ⟨i,hi,rfl,h1,h2,h3,hB⟩:=hrel
  have H1:=hJ_ h1
  have H2:=hJ_ h2
  have H3:=hJ_ h3
  have HB:=hJ_ hB
  clear h1 h2 h3 hB HS HT HR HB0
  rename World => wr
  by_cases hlt:i < 4
  ·have qi:(i:Int) < 4:=by omega
   have qi0:(0:Int) ≤ (i:Int):=by omega
   have hc1:=H1.out.cell hlt
   unfold sqM at hc1
   rw [if_neg (by omega)] at hc1
   have hc2:=H2.out.cell hlt
   have hfr:=H1.out.free i
   unfold sqc at hc1 hc2
   have hx:=u32_xor_nat (wd (S i)) (wd (T i)) (a3o (HSB.out i)) (a3o (HTB.out i))
   rw [b1e (HSB.out i) (HTB.out i)] at hx
   have hp1:=a3o (HSB.out i)
   have hp2:=a3o (HTB.out i)
   obtain ⟨u,hu⟩:∃ u,u = wd (S i):=⟨_,rfl⟩
   obtain ⟨v,hv⟩:∃ v,v = wd (T i):=⟨_,rfl⟩
   rw [← hu] at hc1 hx hp1
   rw [← hv] at hc2 hx hp2
   have HX:=hJ_ hx
   clear hu hv hx
   go_wp2_with fail
   go_still_tail 7,(by kernel_rfl)
   go_wp2
   go_roundw
   case rel =>
    refine ⟨i + 1,by omega,by go_num,((H1.out.drewN 1).set hlt _).congr fun j hj => ?_,(H2.out.drewN 1).other ⟨b0,i,none⟩ _ (by show b0 + 1 ≠ b0;omega),(H3.out.drewN 1).other ⟨b0,i,none⟩ _ (by show b0 + 1 + 1 ≠ b0;omega),(below_drewN HB.out 1).setCell (p:=⟨b0,i,none⟩) (Nat.le_refl _) _⟩
    unfold sqM
    by_cases e:j = i
    ·rw [if_pos e,if_pos (by omega),HX.out,e];rfl
    ·rw [if_neg e]
     by_cases e2:j < i
     ·rw [if_pos e2,if_pos (by omega)]
     ·rw [if_neg e2,if_neg (by omega)]
   case measure => simp [intOf];omega
  ·obtain rfl:i = 4:=by omega
   have HK3:=hJ_ (H1.out.congr (h:=sqc (adds S T)) fun j hj => by unfold sqM;rw [if_pos hj])
   have HS3:=hJ_ (show (sqV (adds S T)).all (·.oneCell') = true from a0l fun _ => rfl)
   have HS1:=hJ_ (show (Tryz.prog.info? 164).map (·.size) = some (sqV (adds S T)).size by rw [a1n];exact a6h)
   have HS2:=hJ_ (show (a0e 4 fun _ => (Value.int .u32 0)).size = (sqV (adds S T)).size by rw [a0b,a1n])
   have HR3:=hJ_ (H3.out.row (sqc (adds S T)))
   have HBF:=hJ_ (show Below w.heap.size w (wr.setRow (b0 + 1 + 1) (sqV (adds S T))) from below_setRow (by rw [← HBS.out];exact HB.out) (by have:=HLE.out;omega) _)
   obtain ⟨cs,hcs⟩:∃ cs,cs = sqV (adds S T):=⟨_,rfl⟩
   unfold Blk at HK3 HR3
   rw [show a0e 4 (sqc (adds S T)) = cs from hcs.symm] at HK3 HR3
   rw [← hcs] at HBF HS1 HS2 HS3
   have HCS:=hJ_ hcs
   clear hcs
   go_wp2_with (first
    | ((with_reducible show wpList _ _ _ (⟨some 18,_,_,_,_,_⟩ :: _) _ _);refine wpList_load_row rfl 164 (.tmp 2) rfl b0 rfl _ cs _ _ HK3.out Tryz.underlying164 rfl HS1.out ?_)
    | ((with_reducible show wpList _ _ _ (⟨none,_,_,_,_,_⟩ :: _) _ _);refine wpList_store_row rfl 164 (.tmp 4) (.tmp 18) rfl (b0 + 1 + 1) cs rfl rfl _ _ H3.out HS1.out HS2.out HS3.out ?_))
   refine bodyPost_ret (v:=.agg cs) (results_cell_row rfl _ _ (b0 + 1 + 1) _ cs _ _ rfl HR3.out Tryz.underlying164 rfl HS1.out) rfl ⟨by rw [HCS.out],HBF.out⟩
def Turned (st:Int) (s:Nat):Prop:=st = 1 ∧ s = 1 ∨ st = -1 ∧ s = 3
theorem c4i {st:Int} {s j i:Nat} (h:Turned st s) (hj:j < 4) (hi:i < 4):bits .and .i64 ((j:Int) + st * (i:Int)) 3 = (((j + s * i) % 4:Nat):Int) ∧ -3 ≤ st * (i:Int) ∧ st * (i:Int) ≤ 3:=by
 rcases h with ⟨rfl,rfl⟩ | ⟨rfl,rfl⟩
 ·refine ⟨?_,by omega,by omega⟩
  rcases lt4 hj with rfl | rfl | rfl | rfl <;> rcases lt4 hi with rfl | rfl | rfl | rfl <;> decide +kernel
 ·refine ⟨?_,by omega,by omega⟩
  rcases lt4 hj with rfl | rfl | rfl | rfl <;> rcases lt4 hi with rfl | rfl | rfl | rfl <;> decide +kernel
def d4g (T:Nat → Nat → Nat) (j k c:Nat):Value:=.int .u32 (((if c = j then wdp (T c) k else if c < j then wd (T c) else 0:Nat)):Int)
def b7q (T:Nat → Nat → Nat) (j c:Nat):Value:=.int .u32 (((if c < j then wd (T c) else 0:Nat)):Int)
theorem c9k (T:Nat → Nat → Nat) (j c:Nat):d4g T j 0 c = b7q T j c:=by
 unfold d4g b7q
 by_cases e:c = j
 ·rw [if_pos e,if_neg (by omega),b3t]
 ·rw [if_neg e]
theorem d3t (T:Nat → Nat → Nat) (j c:Nat):d4g T j 4 c = b7q T (j + 1) c:=by
 unfold d4g b7q
 by_cases e:c = j
 ·rw [if_pos e,if_pos (by omega),b8g]
 ·rw [if_neg e]
  by_cases e2:c < j
  ·rw [if_pos e2,if_pos (by omega)]
  ·rw [if_neg e2,if_neg (by omega)]
theorem d2v (T:Nat → Nat → Nat) (j k:Nat) (v:Int) (h:v = ((wdp (T j) (k + 1):Nat):Int)) (c:Nat):(if c = j then Value.int .u32 v else d4g T j k c) = d4g T j (k + 1) c:=by
 unfold d4g
 by_cases e:c = j
 ·rw [if_pos e,if_pos e,h,e]
 ·rw [if_neg e,if_neg e,if_neg e]
theorem b6x (T:Nat → Nat → Nat) (c:Nat):b7q T 0 c = .int .u32 0:=by unfold b7q;rw [if_neg (by omega)];rfl
theorem c0v (T:Nat → Nat → Nat) {c:Nat} (h:c < 4):b7q T 4 c = sqc T c:=by unfold b7q sqc;rw [if_pos h]
set_option maxHeartbeats 2000000 in
theorem a7r (S:Nat → Nat → Nat) (hS:SqB S) (b o:Nat) (B:Nat → Nat) (hB:∀ x,B x < 256) (st:Int) (s:Nat) (hst:Turned st s) (w:World) (hT:Tb w b o B) :
 Calls Tryz.prog 178 #[.agg (sqV S),.pointer (some ⟨b,o,none⟩),.int .i64 st] w fun e w' => e = .returned (.agg (sqV (thr B s S))) ∧ Below w.heap.size w w':=by
 obtain ⟨hz,hi⟩:=zero_of_info b9w
 rw [a0m] at hz
 obtain ⟨T,hTT⟩:∃ T,T = thr B s S:=⟨_,rfl⟩
 have hTe:∀ c r,T c r = B (S ((c + s * r) % 4) r):=fun c r => by rw [hTT];rfl
 rw [← hTT]
 have HTB:=hJ_ (show SqB T by rw [hTT];exact SqB.thr hB _ _)
 have HTE:=hJ_ hTe
 clear hTT hTe
 obtain ⟨s0,hs0⟩:∃ c:Array Value,c = sqV S:=⟨_,rfl⟩
 obtain ⟨c0,hc0⟩:∃ c0:Array Value,c0 = a0e 4 fun _ => .int .u32 0:=⟨_,rfl⟩
 rw [← hc0] at hz
 rw [← hs0]
 have hsz:c0.size = 4:=by rw [hc0,a0b]
 have h1:c0.all (·.oneCell') = true:=by rw [hc0];exact a0l fun _ => rfl
 obtain ⟨V1,hV1⟩:∃ W,W = w.alloc (.cells s0 164):=⟨_,rfl⟩
 obtain ⟨V2,hV2⟩:∃ W,W = V1.alloc (.cells c0 164):=⟨_,rfl⟩
 obtain ⟨W0,hW0⟩:∃ W,W = V2.alloc (.cells c0 164):=⟨_,rfl⟩
 have e1:V1.heap.size = w.heap.size + 1:=by rw [hV1];simp
 have e2:V2.heap.size = w.heap.size + 1 + 1:=by rw [hV2,hV1];simp
 have e0:W0.heap.size = w.heap.size + 1 + 1 + 1:=by rw [hW0,hV2,hV1];simp
 have B1:Below w.heap.size w V1:=by rw [hV1];exact (Below.refl _ _).alloc (Nat.le_refl _) _
 have B2:Below V1.heap.size V1 V2:=by rw [hV2];exact (Below.refl _ _).alloc (Nat.le_refl _) _
 have B3:Below V2.heap.size V2 W0:=by rw [hW0];exact (Below.refl _ _).alloc (Nat.le_refl _) _
 have hsc:(storeCells ⟨w.heap.size + 1 + 1,0,none⟩ c0.toList 0).run Tryz.prog W0 = .ok () W0:=by
  have h:=run_storeCells_new (P:=Tryz.prog) V2 164 c0 c0 (by rw [hi,hsz]) rfl h1
  rw [e2,← hW0] at h
  exact h
 have HB0:=hJ_ (show Below w.heap.size w W0 from bt (bt B1 B2) B3)
 have HS:=hJ_ (show Blk W0 w.heap.size 164 4 (sqc S) by
  have h:Blk V1 w.heap.size 164 4 (sqc S):=by rw [hV1,hs0];exact Blk.made _ _ _ _
  exact (h.on B2 (by omega)).on B3 (by omega))
 have HR:=hJ_ (show Blk W0 (w.heap.size + 1) 164 4 (fun _ => .int .u32 0) by
  have h:Blk V2 (w.heap.size + 1) 164 4 (fun _ => .int .u32 0):=by rw [← e1,hV2,hc0];exact Blk.made _ _ _ _
  exact h.on B3 (by omega))
 have HO:=hJ_ (show Blk W0 (w.heap.size + 1 + 1) 164 4 (b7q T 0) by
  rw [← e2,hW0,hc0];exact (Blk.made _ _ _ _).congr fun j hj => (b6x T j).symm)
 have hW0':W0 = ((w.alloc (.cells s0 164)).alloc (.cells c0 164)).alloc (.cells c0 164):=by rw [hW0,hV2,hV1]
 rw [hW0'] at hsc
 have HW0:=hJ_ hW0'
 have HSB:=hJ_ hS
 have HTT:=hJ_ hT
 have HST:=hJ_ hst
 clear hV1 hV2 hW0 hW0' e1 e2 e0 B1 B2 B3 hS hT hi hs0 hc0 h1 hst hB
 go_enter Tryz.func178,Tryz.ntmps178
 go_wp2_with fail
 clear hz hsc hsz
 rw [← HW0.out]
 have HLB:=hJ_ HTT.out.1
 obtain ⟨b0,hb0⟩:∃ b,b = w.heap.size:=⟨_,rfl⟩
 rw [← hb0] at HS HR HO HB0 HLB ⊢
 have HBS:=hJ_ hb0
 clear HW0 hb0
 go_loopw [12] (fun q wr => ∃ j:Nat,j ≤ 4 ∧ q = .int .i64 (j:Nat) ∧ Blk wr b0 164 4 (sqc S) ∧ Blk wr (b0 + 1) 164 4 (fun _ => .int .u32 0) ∧ Blk wr (b0 + 1 + 1) 164 4 (b7q T j) ∧ Below b0 w wr) (fun q _ => 4 - (intOf q).toNat)
 case atStart => exact ⟨0,by omega,rfl,HS.out,HR.out,HO.out,HB0.out⟩
 case round =>
  obtain ⟨j,hj,rfl,h1,h2,h3,hBB⟩:=hrel
  have H1:=hJ_ h1
  have H2:=hJ_ h2
  have H3:=hJ_ h3
  have HB:=hJ_ hBB
  clear h1 h2 h3 hBB HS HR HO HB0
  rename World => wr
  by_cases hlt:j < 4
  ·have qj:(j:Int) < 4:=by omega
   have qj0:(0:Int) ≤ (j:Int):=by omega
   go_upto_region 6 with (fail)
   go_loopw [15] (fun q W => ∃ k:Nat,k ≤ 4 ∧ q = .int .i64 (k:Nat) ∧ Blk W b0 164 4 (sqc S) ∧ Blk W (b0 + 1) 164 4 (fun _ => .int .u32 0) ∧ Blk W (b0 + 1 + 1) 164 4 (d4g T j k) ∧ Below b0 w W) (fun q _ => 4 - (intOf q).toNat)
   case atStart => exact ⟨0,by omega,rfl,H1.out,H2.out,H3.out.congr fun c hc => (c9k T j c).symm,HB.out⟩
   case round =>
    obtain ⟨k,hk,rfl,h1,h2,h3,hBB⟩:=hrel
    have K1:=hJ_ h1
    have K2:=hJ_ h2
    have K3:=hJ_ h3
    have KB:=hJ_ hBB
    clear h1 h2 h3 hBB
    rename World => W
    by_cases hlk:k < 4
    ·obtain ⟨hand,hm1,hm2⟩:=c4i HST.out hlt hlk
     have hml:(j + s * k) % 4 < 4:=Nat.mod_lt _ (by omega)
     have hcs:=K1.out.cell hml
     unfold sqc at hcs
     have hco:=K3.out.cell hlt
     unfold d4g at hco
     rw [if_pos rfl] at hco
     have hfr:=K3.out.free j
     have hTB:Tb W b o B:=⟨by have:=KB.out.size;have:=HTT.out.1;omega,fun z hz => (KB.out.cell (p:=⟨b,o + z,none⟩) HLB.out).trans (HTT.out.2 z hz)⟩
     have hOR:=c8o (HTB.out j) hlk
     have hP:=c4m (HTB.out j) k
     have hyl:=HTB.out j k
     have hzz:=HSB.out ((j + s * k) % 4) k
     have HROW:=hJ_ (d8f (S ((j + s * k) % 4)) (HSB.out _) k hlk)
     have HSH:=hJ_ (b1l k hlk)
     have hwl:=a3o (HSB.out ((j + s * k) % 4))
     have hcb:=hTB.2 (S ((j + s * k) % 4) k) hzz
     rw [← HTE.out j k] at hcb
     obtain ⟨sh,hsh⟩:∃ sh,sh = 8 * (3 - k):=⟨_,rfl⟩
     rw [← hsh] at hOR HSH
     have hs2:sh ≤ 24:=by omega
     obtain ⟨u,hu⟩:∃ u,u = wdp (T j) k:=⟨_,rfl⟩
     obtain ⟨v,hv⟩:∃ v,v = T j k:=⟨_,rfl⟩
     rw [← hu] at hco hP hOR
     rw [← hv] at hcb hyl hOR
     obtain ⟨m,hm⟩:∃ m,m = (j + s * k) % 4:=⟨_,rfl⟩
     rw [← hm] at hand hml hcs hzz HROW hwl hcb
     obtain ⟨X,hX⟩:∃ X,X = wd (S m):=⟨_,rfl⟩
     rw [← hX] at hcs HROW hwl
     obtain ⟨z,hz⟩:∃ z,z = S m k:=⟨_,rfl⟩
     rw [← hz] at hzz HROW hcb
     have hor:=c4u hP hyl hs2
     rw [hOR] at hor
     have HOR:=hJ_ hor
     have qk:(k:Int) < 4:=by omega
     have qk0:(0:Int) ≤ (k:Int):=by omega
     have qm:(m:Int) < 4:=by omega
     have qm0:(0:Int) ≤ (m:Int):=by omega
     have qz:(z:Int) < 256:=by omega
     have qz0:(0:Int) ≤ (z:Int):=by omega
     clear hTB hOR hu hv hsh hm hX hz hor
     go_wp2_with fail
     refine wp_region_still_tail 15 (by kernel_rfl) (by kernel_rfl) ?_
     simp only [List.take_succ_cons,List.take_zero,List.drop_succ_cons,List.drop_zero]
     repeat still_step
     still_call ((HROW.out _).mono fun _ _ ⟨he,hw⟩ => ⟨he,hw.symm⟩)
     repeat still_step
     still_call ((HSH.out _).mono fun _ _ ⟨he,hw⟩ => ⟨he,hw.symm⟩)
     repeat still_step
     refine wpStill_nil ?_
     go_wp2
     go_roundw
     case rel =>
      refine ⟨k + 1,by omega,by go_num,(K1.out.drewN 1).other ⟨b0 + 1 + 1,j,none⟩ _ (by show b0 ≠ b0 + 1 + 1;omega),(K2.out.drewN 1).other ⟨b0 + 1 + 1,j,none⟩ _ (by show b0 + 1 ≠ b0 + 1 + 1;omega),((K3.out.drewN 1).set hlt _).congr fun c hc => d2v T j k _ HOR.out c,(below_drewN KB.out 1).setCell (p:=⟨b0 + 1 + 1,j,none⟩) (by show b0 ≤ b0 + 1 + 1;omega) _⟩
     case measure => simp [intOf];omega
    ·obtain rfl:k = 4:=by omega
     have K4:=hJ_ (K3.out.congr fun c hc => d3t T j c)
     go_wp2
     go_roundw
     case rel => exact ⟨j + 1,by omega,by go_num,K1.out,K2.out,K4.out,KB.out⟩
     case measure => simp [intOf];omega
  ·obtain rfl:j = 4:=by omega
   have HK3:=hJ_ (H3.out.congr (h:=sqc T) fun c hc => c0v T hc)
   have HS3:=hJ_ (show (sqV T).all (·.oneCell') = true from a0l fun _ => rfl)
   have HS1:=hJ_ (show (Tryz.prog.info? 164).map (·.size) = some (sqV T).size by rw [a1n];exact a6h)
   have HS2:=hJ_ (show (a0e 4 fun _ => (Value.int .u32 0)).size = (sqV T).size by rw [a0b,a1n])
   have HR3:=hJ_ (H2.out.row (sqc T))
   have HBF:=hJ_ (show Below w.heap.size w (wr.setRow (b0 + 1) (sqV T)) from below_setRow (by rw [← HBS.out];exact HB.out) (by rw [← HBS.out];omega) _)
   obtain ⟨cs,hcs⟩:∃ cs,cs = sqV T:=⟨_,rfl⟩
   unfold Blk at HK3 HR3
   rw [show a0e 4 (sqc T) = cs from hcs.symm] at HK3 HR3
   rw [← hcs] at HBF HS1 HS2 HS3
   have HCS:=hJ_ hcs
   clear hcs
   go_wp2_with (first
    | ((with_reducible show wpList _ _ _ (⟨some 44,_,_,_,_,_⟩ :: _) _ _);refine wpList_load_row rfl 164 (.tmp 7) rfl (b0 + 1 + 1) rfl _ cs _ _ HK3.out Tryz.underlying164 rfl HS1.out ?_)
    | ((with_reducible show wpList _ _ _ (⟨none,_,_,_,_,_⟩ :: _) _ _);refine wpList_store_row rfl 164 (.tmp 6) (.tmp 44) rfl (b0 + 1) cs rfl rfl _ _ H2.out HS1.out HS2.out HS3.out ?_))
   refine bodyPost_ret (v:=.agg cs) (results_cell_row rfl _ _ (b0 + 1) _ cs _ _ rfl HR3.out Tryz.underlying164 rfl HS1.out) rfl ⟨by rw [HCS.out],HBF.out⟩
def c9t (p:Nat → Nat) (S:Nat → Nat → Nat) (c:Nat):Nat → Nat → Nat
 | 0 => fun _ => 0
 | k + 1 => fun r => c9t p S c k r ^^^ gm (S c k) (p ((r + 4 - k) % 4))
theorem b7s (p:Nat → Nat) (S:Nat → Nat → Nat) (c:Nat):∀ k r,c9t p S c k r < 256
 | 0,_ => by show 0 < 256;omega
 | k + 1,r => a2v (b7s p S c k r) (a7k _ _)
theorem d4w (p:Nat → Nat) (S:Nat → Nat → Nat) (c r:Nat):c9t p S c 4 r = mix p S c r:=by
 simp only [c9t,mix,Nat.zero_xor]
 rw [show (r + 4 - 0) % 4 = r % 4 by omega,show (r + 4 - 1) % 4 = (r + 3) % 4 by omega,show (r + 4 - 2) % 4 = (r + 2) % 4 by omega,show (r + 4 - 3) % 4 = (r + 1) % 4 by omega]
theorem c4x (p:Nat → Nat) (S:Nat → Nat → Nat) (c:Nat) {k:Nat} (hk:k < 4):wd (c9t p S c k) ^^^ rot 32 (prt p (S c k)) (8 * ((4 - k) % 4)) = wd (c9t p S c (k + 1)):=by
 unfold prt
 rw [d6z (f:=fun r => gm (S c k) (p r)) (fun _ => a7k _ _) hk,b1e (b7s p S c k) (fun _ => a7k _ _)]
 rfl
theorem d3i (X k:Nat) (hX:X < 4294967296) (hk:k < 4) (w:World):Calls Tryz.prog 147 #[.int .u32 (X:Nat),.int .i64 (-8 * (k:Int))] w fun e w' => e = .returned (.int .u32 ((rot 32 X (8 * ((4 - k) % 4)):Nat):Int)) ∧ ∃ j,w' = w.drewN j:=by
 refine (c5p (X:Nat) (-8 * (k:Int)) (e8u (by omega) (by omega)) (e9p (by omega) (by omega)) w).mono fun e w' ⟨h1,h2⟩ => ⟨?_,h2⟩
 rw [h1]
 refine a0s ?_
 unfold c2d
 have e1:((-8 * (k:Int)) % ((32:Nat):Int)).toNat = 8 * ((4 - k) % 4):=by
  rcases lt4 hk with rfl | rfl | rfl | rfl <;> decide +kernel
 rw [e1,Int.toNat_natCast]
theorem c0w (S:Nat → Nat → Nat) {k:Nat} (hk:k < 4) (w:World):(Instr.index 164 (.agg (sqV S)) (.int .i64 (k:Nat))).run Tryz.prog w = .ok (.int .u32 ((wd (S k):Nat):Int)) w:=by
 rcases lt4 hk with rfl | rfl | rfl | rfl <;> kernel_rfl
def d2y (p:Nat → Nat) (S T:Nat → Nat → Nat) (j k c:Nat):Value:=.int .u32 (((if c = j then wd (c9t p S c k) else if c < j then wd (T c) else 0:Nat)):Int)
theorem c5v (p:Nat → Nat) (S T:Nat → Nat → Nat) (j c:Nat):d2y p S T j 0 c = b7q T j c:=by
 unfold d2y b7q
 by_cases e:c = j
 ·rw [if_pos e,if_neg (by omega),show c9t p S c 0 = (fun _ => 0) from rfl,e0a]
 ·rw [if_neg e]
theorem d0h {p:Nat → Nat} {S T:Nat → Nat → Nat} (hT:∀ c r,T c r = mix p S c r) (j c:Nat):d2y p S T j 4 c = b7q T (j + 1) c:=by
 unfold d2y b7q
 by_cases e:c = j
 ·rw [if_pos e,if_pos (by omega),d2u (g:=T c) fun r _ => by rw [d4w,hT]]
 ·rw [if_neg e]
  by_cases e2:c < j
  ·rw [if_pos e2,if_pos (by omega)]
  ·rw [if_neg e2,if_neg (by omega)]
theorem d3c (p:Nat → Nat) (S T:Nat → Nat → Nat) (j k:Nat) (v:Int) (h:v = ((wd (c9t p S j (k + 1)):Nat):Int)) (c:Nat):(if c = j then Value.int .u32 v else d2y p S T j k c) = d2y p S T j (k + 1) c:=by
 unfold d2y
 by_cases e:c = j
 ·rw [if_pos e,if_pos e,h,e]
 ·rw [if_neg e,if_neg e,if_neg e]
set_option maxHeartbeats 2000000 in
theorem b9g (S:Nat → Nat → Nat) (hS:SqB S) (b o:Nat) (p:Nat → Nat) (w:World) (hT:Tp w b o (prt p)) :
 Calls Tryz.prog 179 #[.agg (sqV S),.pointer (some ⟨b,o,none⟩)] w fun e w' => e = .returned (.agg (sqV (mix p S))) ∧ Below w.heap.size w w':=by
 obtain ⟨hz,hi⟩:=zero_of_info b9w
 rw [a0m] at hz
 obtain ⟨T,hTT⟩:∃ T,T = mix p S:=⟨_,rfl⟩
 have hTe:∀ c r,T c r = mix p S c r:=fun c r => by rw [hTT]
 rw [← hTT]
 have HTB:=hJ_ (show SqB T by rw [hTT];exact SqB.mix _ _)
 have HTE:=hJ_ hTe
 clear hTT hTe
 obtain ⟨s0,hs0⟩:∃ c:Array Value,c = sqV S:=⟨_,rfl⟩
 obtain ⟨c0,hc0⟩:∃ c0:Array Value,c0 = a0e 4 fun _ => .int .u32 0:=⟨_,rfl⟩
 rw [← hc0] at hz
 rw [← hs0]
 have hsz:c0.size = 4:=by rw [hc0,a0b]
 have h1:c0.all (·.oneCell') = true:=by rw [hc0];exact a0l fun _ => rfl
 obtain ⟨V1,hV1⟩:∃ W,W = w.alloc (.cells s0 164):=⟨_,rfl⟩
 obtain ⟨V2,hV2⟩:∃ W,W = V1.alloc (.cells c0 164):=⟨_,rfl⟩
 obtain ⟨W0,hW0⟩:∃ W,W = V2.alloc (.cells c0 164):=⟨_,rfl⟩
 have e1:V1.heap.size = w.heap.size + 1:=by rw [hV1];simp
 have e2:V2.heap.size = w.heap.size + 1 + 1:=by rw [hV2,hV1];simp
 have e0:W0.heap.size = w.heap.size + 1 + 1 + 1:=by rw [hW0,hV2,hV1];simp
 have B1:Below w.heap.size w V1:=by rw [hV1];exact (Below.refl _ _).alloc (Nat.le_refl _) _
 have B2:Below V1.heap.size V1 V2:=by rw [hV2];exact (Below.refl _ _).alloc (Nat.le_refl _) _
 have B3:Below V2.heap.size V2 W0:=by rw [hW0];exact (Below.refl _ _).alloc (Nat.le_refl _) _
 have hsc:(storeCells ⟨w.heap.size + 1 + 1,0,none⟩ c0.toList 0).run Tryz.prog W0 = .ok () W0:=by
  have h:=run_storeCells_new (P:=Tryz.prog) V2 164 c0 c0 (by rw [hi,hsz]) rfl h1
  rw [e2,← hW0] at h
  exact h
 have HB0:=hJ_ (show Below w.heap.size w W0 from bt (bt B1 B2) B3)
 have HS:=hJ_ (show Blk W0 w.heap.size 164 4 (sqc S) by
  have h:Blk V1 w.heap.size 164 4 (sqc S):=by rw [hV1,hs0];exact Blk.made _ _ _ _
  exact (h.on B2 (by omega)).on B3 (by omega))
 have HR:=hJ_ (show Blk W0 (w.heap.size + 1) 164 4 (fun _ => .int .u32 0) by
  have h:Blk V2 (w.heap.size + 1) 164 4 (fun _ => .int .u32 0):=by rw [← e1,hV2,hc0];exact Blk.made _ _ _ _
  exact h.on B3 (by omega))
 have HO:=hJ_ (show Blk W0 (w.heap.size + 1 + 1) 164 4 (b7q T 0) by
  rw [← e2,hW0,hc0];exact (Blk.made _ _ _ _).congr fun j hj => (b6x T j).symm)
 have hW0':W0 = ((w.alloc (.cells s0 164)).alloc (.cells c0 164)).alloc (.cells c0 164):=by rw [hW0,hV2,hV1]
 rw [hW0'] at hsc
 have HW0:=hJ_ hW0'
 have HSB:=hJ_ hS
 have HTT:=hJ_ hT
 have HS0:=hJ_ hs0
 clear hV1 hV2 hW0 hW0' e1 e2 e0 B1 B2 B3 hS hT hi hs0 hc0 h1
 go_enter Tryz.func179,Tryz.ntmps179
 have HSS:=hJ_ (show (Tryz.prog.info? 164).map (·.size) = some s0.size by rw [HS0.out,a1n];exact a6h)
 have HSL:=hJ_ HS.out
 unfold Blk at HSL
 rw [show a0e 4 (sqc S) = s0 from HS0.out.symm,HW0.out] at HSL
 go_wp2_with ((with_reducible show wpList _ _ _ (⟨some 10,_,_,_,_,_⟩ :: _) _ _);refine wpList_load_row rfl 164 (.tmp 2) rfl w.heap.size rfl _ s0 _ _ HSL.out Tryz.underlying164 rfl HSS.out ?_)
 clear hz hsc hsz HSL
 rw [← HW0.out]
 have HLB:=hJ_ HTT.out.1
 obtain ⟨b0,hb0⟩:∃ b,b = w.heap.size:=⟨_,rfl⟩
 rw [← hb0] at HS HR HO HB0 HLB ⊢
 have HBS:=hJ_ hb0
 clear HW0 hb0
 go_loopw [11] (fun q wr => ∃ j:Nat,j ≤ 4 ∧ q = .int .i64 (j:Nat) ∧ Blk wr b0 164 4 (sqc S) ∧ Blk wr (b0 + 1) 164 4 (fun _ => .int .u32 0) ∧ Blk wr (b0 + 1 + 1) 164 4 (b7q T j) ∧ Below b0 w wr) (fun q _ => 4 - (intOf q).toNat)
 case atStart => exact ⟨0,by omega,rfl,HS.out,HR.out,HO.out,HB0.out⟩
 case round =>
  obtain ⟨j,hj,rfl,h1,h2,h3,hBB⟩:=hrel
  have H1:=hJ_ h1
  have H2:=hJ_ h2
  have H3:=hJ_ h3
  have HB:=hJ_ hBB
  clear h1 h2 h3 hBB HS HR HO HB0
  rename World => wr
  by_cases hlt:j < 4
  ·have qj:(j:Int) < 4:=by omega
   have qj0:(0:Int) ≤ (j:Int):=by omega
   have hix:∀ w:World,(Instr.index 164 (.agg s0) (.int .i64 (j:Nat))).run Tryz.prog w = .ok (.int .u32 ((wd (S j):Nat):Int)) w:=by rw [HS0.out];exact c0w S hlt
   go_upto_region 6 with (fail)
   clear hix
   go_loopw [15] (fun q W => ∃ k:Nat,k ≤ 4 ∧ q = .int .i64 (k:Nat) ∧ Blk W b0 164 4 (sqc S) ∧ Blk W (b0 + 1) 164 4 (fun _ => .int .u32 0) ∧ Blk W (b0 + 1 + 1) 164 4 (d2y p S T j k) ∧ Below b0 w W) (fun q _ => 4 - (intOf q).toNat)
   case atStart => exact ⟨0,by omega,rfl,H1.out,H2.out,H3.out.congr fun c hc => (c5v p S T j c).symm,HB.out⟩
   case round =>
    obtain ⟨k,hk,rfl,h1,h2,h3,hBB⟩:=hrel
    have K1:=hJ_ h1
    have K2:=hJ_ h2
    have K3:=hJ_ h3
    have KB:=hJ_ hBB
    clear h1 h2 h3 hBB
    rename World => W
    by_cases hlk:k < 4
    ·have hco:=K3.out.cell hlt
     unfold d2y at hco
     rw [if_pos rfl] at hco
     have hfr:=K3.out.free j
     have hTB:Tp W b o (prt p):=⟨by have:=KB.out.size;have:=HTT.out.1;omega,fun z hz => (KB.out.cell (p:=⟨b,o + z,none⟩) HLB.out).trans (HTT.out.2 z hz)⟩
     have hNX:=c4x p S j hlk
     have hP:=a3o (b7s p S j k)
     have hzz:=HSB.out j k
     have hY:prt p (S j k) < 4294967296:=a3o fun _ => a7k _ _
     have HROW:=hJ_ (d8f (S j) (HSB.out _) k hlk)
     have HTU:=hJ_ (d3i (prt p (S j k)) k hY hlk)
     have hwr:IntKind.i64.wrap (-8 * (k:Int)) = -8 * (k:Int):=IntWalk.i64_in _ (by omega)
     rw [← hwr] at HTU
     clear hwr
     have hcb:=hTB.2 (S j k) hzz
     have hR:rot 32 (prt p (S j k)) (8 * ((4 - k) % 4)) < 4294967296:=c4a (k:=32) hY
     have hwl:=a3o (HSB.out j)
     obtain ⟨u,hu⟩:∃ u,u = wd (c9t p S j k):=⟨_,rfl⟩
     obtain ⟨v,hv⟩:∃ v,v = rot 32 (prt p (S j k)) (8 * ((4 - k) % 4)):=⟨_,rfl⟩
     rw [← hu] at hco hP hNX
     rw [← hv] at hR hNX HTU
     obtain ⟨y,hy⟩:∃ y,y = prt p (S j k):=⟨_,rfl⟩
     rw [← hy] at hY HTU hcb
     obtain ⟨X,hX⟩:∃ X,X = wd (S j):=⟨_,rfl⟩
     rw [← hX] at HROW hwl ⊢
     obtain ⟨z,hz⟩:∃ z,z = S j k:=⟨_,rfl⟩
     rw [← hz] at hzz HROW hcb
     have hxr:=u32_xor_nat u v hP hR
     rw [hNX] at hxr
     have HXR:=hJ_ hxr
     have qk:(k:Int) < 4:=by omega
     have qk0:(0:Int) ≤ (k:Int):=by omega
     have qz:(z:Int) < 256:=by omega
     have qz0:(0:Int) ≤ (z:Int):=by omega
     clear hTB hNX hu hv hy hX hz hxr
     go_wp2_with fail
     go_region_with (first
      | (go_at_call 165;refine (HROW.out _).mono ?_;rintro e w' ⟨rfl,rfl⟩)
      | (go_at_call 147;refine (HTU.out _).mono ?_;rintro e w' ⟨rfl,q,rfl⟩))
     all_goals
      go_wp2
      go_roundw
      case rel =>
       refine ⟨k + 1,by omega,by go_num,(K1.out.drewN _).other ⟨b0 + 1 + 1,j,none⟩ _ (by show b0 ≠ b0 + 1 + 1;omega),(K2.out.drewN _).other ⟨b0 + 1 + 1,j,none⟩ _ (by show b0 + 1 ≠ b0 + 1 + 1;omega),((K3.out.drewN _).set hlt _).congr fun c hc => d3c p S T j k _ HXR.out c,(below_drewN KB.out _).setCell (p:=⟨b0 + 1 + 1,j,none⟩) (by show b0 ≤ b0 + 1 + 1;omega) _⟩
      case measure => simp [intOf];omega
    ·obtain rfl:k = 4:=by omega
     have K4:=hJ_ (K3.out.congr fun c hc => d0h HTE.out j c)
     go_wp2
     go_roundw
     case rel => exact ⟨j + 1,by omega,by go_num,K1.out,K2.out,K4.out,KB.out⟩
     case measure => simp [intOf];omega
  ·obtain rfl:j = 4:=by omega
   have HK3:=hJ_ (H3.out.congr (h:=sqc T) fun c hc => c0v T hc)
   have HS3:=hJ_ (show (sqV T).all (·.oneCell') = true from a0l fun _ => rfl)
   have HS1:=hJ_ (show (Tryz.prog.info? 164).map (·.size) = some (sqV T).size by rw [a1n];exact a6h)
   have HS2:=hJ_ (show (a0e 4 fun _ => (Value.int .u32 0)).size = (sqV T).size by rw [a0b,a1n])
   have HR3:=hJ_ (H2.out.row (sqc T))
   have HBF:=hJ_ (show Below w.heap.size w (wr.setRow (b0 + 1) (sqV T)) from below_setRow (by rw [← HBS.out];exact HB.out) (by rw [← HBS.out];omega) _)
   obtain ⟨cs,hcs⟩:∃ cs,cs = sqV T:=⟨_,rfl⟩
   unfold Blk at HK3 HR3
   rw [show a0e 4 (sqc T) = cs from hcs.symm] at HK3 HR3
   rw [← hcs] at HBF HS1 HS2 HS3
   have HCS:=hJ_ hcs
   clear hcs
   go_wp2_with (first
    | ((with_reducible show wpList _ _ _ (⟨some 35,_,_,_,_,_⟩ :: _) _ _);refine wpList_load_row rfl 164 (.tmp 5) rfl (b0 + 1 + 1) rfl _ cs _ _ HK3.out Tryz.underlying164 rfl HS1.out ?_)
    | ((with_reducible show wpList _ _ _ (⟨none,_,_,_,_,_⟩ :: _) _ _);refine wpList_store_row rfl 164 (.tmp 4) (.tmp 35) rfl (b0 + 1) cs rfl rfl _ _ H2.out HS1.out HS2.out HS3.out ?_))
   refine bodyPost_ret (v:=.agg cs) (results_cell_row rfl _ _ (b0 + 1) _ cs _ _ rfl HR3.out Tryz.underlying164 rfl HS1.out) rfl ⟨by rw [HCS.out],HBF.out⟩
theorem a5q {w:World} {base B:Nat} {e:TypeId} {size:Nat} {v:Value} {n:Nat} {xs:List Value} (h:w.ownsRow base e size v n xs) (hB:B ≤ base):w.ownsRow B e size v n xs:=by
 refine ⟨h.1,?_⟩
 rcases h.2 with h3 | ⟨g,cap,cur,e,hg,h3⟩
 ·exact .inl h3
 ·exact .inr ⟨g,cap,cur,e,by omega,h3⟩
def a7b (f:Nat → Nat):List Int:=[((f 0:Nat):Int),((f 1:Nat):Int),((f 2:Nat):Int),((f 3:Nat):Int)]
def a2i (S:Nat → Nat → Nat):Nat → List Int
 | 0 => []
 | i + 1 => a2i S i ++ a7b (S i)
theorem a0p (S:Nat → Nat → Nat):∀ i,(a2i S i).length = 4 * i
 | 0 => rfl
 | i + 1 => by rw [a2i,List.length_append,a0p S i];rfl
theorem e9k {f:Nat → Nat} (h:∀ r,f r < 256):be 4 ((wd f:Nat):Int) = a7b f:=by
 have h0:=b6q h (i:=0) (by omega)
 have h1:=b6q h (i:=1) (by omega)
 have h2:=b6q h (i:=2) (by omega)
 have h3:=b6q h (i:=3) (by omega)
 unfold be a7b
 show [_,_,_,_] = _
 rw [← h0,← h1,← h2,← h3]
 simp
set_option maxHeartbeats 1000000 in
theorem c5d (S:Nat → Nat → Nat) (hS:SqB S) (w:World) :
 Calls Tryz.prog 180 #[.agg (sqV S)] w fun e w' => ∃ a,e = .returned (.slice a 16 16) ∧ w'.ownsRow w.heap.size 5 1 (.slice a 16 16) 16 ((a2i S 4).map (Value.int .u8)) ∧ Below w.heap.size w w':=by
 obtain ⟨s0,hs0⟩:∃ c:Array Value,c = sqV S:=⟨_,rfl⟩
 rw [← hs0]
 obtain ⟨V1,hV1⟩:∃ W,W = w.alloc (.cells s0 164):=⟨_,rfl⟩
 obtain ⟨W0,hW0⟩:∃ W,W = V1.alloc (.cells #[] 5):=⟨_,rfl⟩
 have e1:V1.heap.size = w.heap.size + 1:=by rw [hV1];simp
 have B1:Below w.heap.size w V1:=by rw [hV1];exact (Below.refl _ _).alloc (Nat.le_refl _) _
 have HB0:=hJ_ (show Below w.heap.size w W0 by rw [hW0];exact B1.alloc B1.size _)
 have HS:=hJ_ (show Blk V1 w.heap.size 164 4 (sqc S) by rw [hV1,hs0];exact Blk.made _ _ _ _)
 have HO:=hJ_ (show W0.ownsRow w.heap.size 5 1 (.slice (some ⟨w.heap.size + 1,0,none⟩) 0 0) 0 ((a2i S 0).map (Value.int .u8)) by
  rw [← e1,hW0];exact a5q (b1u V1 _) (by rw [e1];omega))
 have HSL:=hJ_ (show W0.heap[w.heap.size]? = some (.cells s0 164 (0,0)) by
  have h:Blk W0 w.heap.size 164 4 (sqc S):=HS.out.on (show Below V1.heap.size V1 W0 by rw [hW0];exact (Below.refl _ _).alloc (Nat.le_refl _) _) (by omega)
  unfold Blk at h
  rw [show a0e 4 (sqc S) = s0 from hs0.symm] at h
  exact h)
 have HSS:=hJ_ (show (Tryz.prog.info? 164).map (·.size) = some s0.size by rw [hs0,a1n];exact a6h)
 have hW0':W0 = (w.alloc (.cells s0 164)).alloc (.cells #[] 5):=by rw [hW0,hV1]
 rw [hW0'] at HSL
 have HW0:=hJ_ hW0'
 have HSB:=hJ_ hS
 have HS0:=hJ_ hs0
 clear hV1 hW0 hW0' e1 B1 hS hs0
 go_enter Tryz.func180,Tryz.ntmps180
 go_wp2_with ((with_reducible show wpList _ _ _ (⟨some 7,_,_,_,_,_⟩ :: _) _ _);refine wpList_load_row rfl 164 (.tmp 1) rfl w.heap.size rfl _ s0 _ _ HSL.out Tryz.underlying164 rfl HSS.out ?_)
 rw [← HW0.out]
 go_loopw [3,8] (fun v q wr => ∃ i:Nat,i ≤ 4 ∧ q = .int .i64 (i:Nat) ∧ (∃ a,v = .slice a (4 * i) (4 * i) ∧ wr.ownsRow w.heap.size 5 1 (.slice a (4 * i) (4 * i)) (4 * i) ((a2i S i).map (Value.int .u8))) ∧ Below w.heap.size w wr) (fun _ q _ => 4 - (intOf q).toNat)
 case atStart => exact ⟨0,by omega,rfl,⟨_,rfl,HO.out⟩,HB0.out⟩
 case round =>
  obtain ⟨i,hi,rfl,⟨a,rfl,hO⟩,hB⟩:=hrel
  have HOi:=hJ_ hO
  have HBi:=hJ_ hB
  clear hO hB HO HB0
  rename World => wr
  by_cases hlt:i < 4
  ·have hix:∀ w:World,(Instr.index 164 (.agg s0) (.int .i64 (i:Nat))).run Tryz.prog w = .ok (.int .u32 ((wd (S i):Nat):Int)) w:=by rw [HS0.out];exact c0w S hlt
   have hwl:=a3o (HSB.out i)
   obtain ⟨hbs,hlen⟩:=Bs.of_own HOi.out
   have hput:=e3y a (4 * i) (4 * i) (a2i S i) wr hlen hbs (by omega) ((wd (S i):Nat):Int) (e8u (by omega) (by omega))
   rw [e9k (HSB.out i)] at hput
   have HPUT:=hJ_ hput
   have qi:(i:Int) < 4:=by omega
   obtain ⟨X,hX⟩:∃ X,X = wd (S i):=⟨_,rfl⟩
   rw [← hX] at hix hwl HPUT
   clear hbs hlen hput hX
   go_wp2_with (go_at_call 153;refine HPUT.out.mono ?_;rintro e w' ⟨g,rfl,hown,hbel⟩;have HO2:=hJ_ hown;have HB2:=hJ_ hbel;clear hown hbel)
   go_roundw
   case rel => exact ⟨i + 1,by omega,by go_num,⟨some ⟨g,0,none⟩,rfl,a5q HO2.out HBi.out.size⟩,HBi.out.trans (HB2.out.mono HBi.out.size)⟩
   case measure => simp [intOf];omega
  ·obtain rfl:i = 4:=by omega
   go_wp2
   go_ret
   exact ⟨a,rfl,HOi.out,HBi.out⟩
def kw (l:List Int) (i r:Nat):Nat:=(l.getD (4 * i + r) 0).toNat
theorem b9j {l:List Int} (h:a0z l):SqB (kw l):=fun i r => by
 have:=a0g h (4 * i + r)
 unfold kw;omega
theorem c6i {l:List Int} (h:a0z l) {i:Nat} (hi:4 * i + 4 ≤ l.length):e0r 4 (l.drop (4 * i)) = ((wd (kw l i):Nat):Int):=by
 rw [b4x (by rw [List.length_drop];omega)]
 have h0:=a0g h (4 * i)
 have h1:=a0g h (4 * i + 1)
 have h2:=a0g h (4 * i + 2)
 have h3:=a0g h (4 * i + 3)
 have hd:∀ r,(l.drop (4 * i)).getD r 0 = l.getD (4 * i + r) 0:=fun r => by simp [List.getD_eq_getElem?_getD,List.getElem?_drop]
 have hl:4 ≤ (l.drop (4 * i)).length:=by rw [List.length_drop];omega
 rw [a1w (by omega),a1w (by omega),a1w (by omega),a1w (by omega),hd,hd,hd,hd]
 show (((((c0n ([]:List Int)) * 256 + l.getD (4 * i + 0) 0) * 256 + l.getD (4 * i + 1) 0) * 256 + l.getD (4 * i + 2) 0) * 256 + l.getD (4 * i + 3) 0) = _
 unfold wd kw
 rw [Nat.add_zero]
 have hn:c0n ([]:List Int) = 0:=rfl
 rw [hn]
 omega
theorem e4v:(Tryz.prog.info? 115).map (fun i => (i.zero,i.size,i.bytes)) = some (some (.int .u32 0),1,4):=by kernel_rfl
def kwP (l:List Int) (i j:Nat):Value:=.int .u32 (((if j < i then wd (kw l j) else 0:Nat)):Int)
theorem a3w (v:Value) (n:Nat):madeCells #[v] n = a0e n (fun _ => v):=by
 apply Array.ext_getElem?
 intro j
 by_cases hj:j < n
 ·rw [a1f hj];simp [madeCells,hj,Nat.mod_one]
 ·rw [Array.getElem?_eq_none (by simp [size_madeCells];omega),Array.getElem?_eq_none (by rw [a0b];omega)]
theorem Bs.dropK {w:World} {B b o k:Nat} {l:List Int} (h:Bs w B (some ⟨b,o,none⟩) l):Bs w B (some ⟨b,o + k,none⟩) (l.drop k):=fun h0 => by
 rw [List.length_drop] at h0
 obtain ⟨b',o',e,hb,hc⟩:=h (by omega)
 injection e with e
 injection e with e1 e2 _
 subst e1 e2
 refine ⟨b,o + k,rfl,hb,fun j hj => ?_⟩
 rw [List.length_drop] at hj
 have:=hc (k + j) (by omega)
 rw [Nat.add_assoc,this]
 simp [List.getD_eq_getElem?_getD,List.getElem?_drop]
theorem a0z.drop {l:List Int} (h:a0z l) (k:Nat):a0z (l.drop k):=fun x hx => h x (List.mem_of_mem_drop hx)
set_option maxHeartbeats 1000000 in
theorem b6d (ba oa:Nat) (n c:Nat) (l:List Int) (w:World) (hl:l.length = 4 * n) (hA:a0z l) (hb:Bs w w.heap.size (some ⟨ba,oa,none⟩) l) (hn:1 ≤ n) (hn2:n ≤ 8) (hc:4 * n ≤ c) (hcm:c ≤ 9223372036854775807) :
 Calls Tryz.prog 145 #[.slice (some ⟨ba,oa,none⟩) ((4 * n:Nat):Nat) c] w fun e w' => e = .returned (.slice (some ⟨w.heap.size,0,none⟩) n n) ∧ Blk w' w.heap.size 115 n (fun j => .int .u32 ((wd (kw l j):Nat):Int)) ∧ Below w.heap.size w w':=by
 have hmk:=run_make_row' (P:=Tryz.prog) 160 115 (.int .u32 0) 4 Tryz.underlying160 e4v rfl .i64 .i64 n (by omega) (by omega)
 rw [a3w] at hmk
 obtain ⟨c0,hc0⟩:∃ c0:Array Value,c0 = a0e n fun _ => .int .u32 0:=⟨_,rfl⟩
 rw [← hc0] at hmk
 obtain ⟨W0,hW0⟩:∃ W,W = w.alloc (.cells c0 115):=⟨_,rfl⟩
 have HK0:=hJ_ (show Blk W0 w.heap.size 115 n (kwP l 0) by rw [hW0,hc0];exact (Blk.made _ _ _ _).congr fun j hj => by unfold kwP;rw [if_neg (by omega)];rfl)
 have HB0:=hJ_ (show Below w.heap.size w W0 by rw [hW0];exact (Below.refl _ _).alloc (Nat.le_refl _) _)
 have HBS:=hJ_ hb
 have HL:=hJ_ hl
 have HA:=hJ_ hA
 have HW0:=hJ_ hW0
 clear hc0 hW0 hl hA hb
 have q4:((4 * n:Nat):Int) / 4 = (n:Int):=by omega
 go_enter Tryz.func145,Tryz.ntmps145
 go_wp2_with fail
 clear hmk q4
 rw [← HW0.out]
 obtain ⟨b3,hb3⟩:∃ b,b = w.heap.size:=⟨_,rfl⟩
 rw [← hb3] at HK0 HB0 HBS ⊢
 have HB3:=hJ_ hb3
 clear hb3
 go_loopw [11] (fun q wr => ∃ i:Nat,i ≤ n ∧ q = .int .i64 (i:Nat) ∧ Blk wr b3 115 n (kwP l i) ∧ Below b3 w wr) (fun q _ => n - (intOf q).toNat)
 case atStart => exact ⟨0,by omega,rfl,HK0.out,HB0.out⟩
 case round =>
  obtain ⟨i,hi,rfl,hK,hB⟩:=hrel
  have HK:=hJ_ hK
  have HB:=hJ_ hB
  clear hK hB HK0 HB0
  rename World => wr
  by_cases hlt:i < n
  ·have qi:(i:Int) < (n:Int):=by omega
   have qi0:(0:Int) ≤ (i:Int):=by omega
   have qm0:(0:Int) ≤ 4 * (i:Int):=by omega
   have qm1:4 * (i:Int) ≤ 4 * (n:Int):=by omega
   have qm2:4 * (i:Int) ≤ 32:=by omega
   have qm3:4 * i < c:=by omega
   have hcell:=HK.out.cell hlt
   have hfr:=HK.out.free i
   have hget:=e3a (some ⟨ba,oa + 4 * i,none⟩) (4 * n - 4 * i) (c - 4 * i) (l.drop (4 * i)) wr (by rw [List.length_drop,HL.out]) (HA.out.drop _) ((HBS.out.below HB.out).dropK.more (by have:=HB.out.size;have:=HK.out.lt;omega)) (by omega)
   rw [c6i HA.out (by rw [HL.out];omega)] at hget
   have HG:=hJ_ hget
   have hwl:=a3o (b9j HA.out i)
   have hst:=hJ_ ((HK.out.set hlt (.int .u32 ((wd (kw l i):Nat):Int))).congr (h:=kwP l (i + 1)) fun j hj => by
    unfold kwP
    by_cases e:j = i
    ·rw [if_pos e,if_pos (by omega),e]
    ·rw [if_neg e]
     by_cases e2:j < i
     ·rw [if_pos e2,if_pos (by omega)]
     ·rw [if_neg e2,if_neg (by omega)])
   clear hget
   go_wp2_with (go_at_call 164;refine HG.out.mono ?_;rintro e w' ⟨rfl,rfl⟩)
   go_roundw
   case rel => exact ⟨i + 1,by omega,by go_num,hst.out,HB.out.setCell (p:=⟨b3,i,none⟩) (Nat.le_refl _) _⟩
   case measure => simp [intOf];omega
  ·obtain rfl:n = i:=by omega
   go_wp2
   go_ret
   exact ⟨by rw [HB3.out];rfl,by rw [← HB3.out];exact HK.out.congr fun j hj => by unfold kwP;rw [if_pos hj],by rw [← HB3.out];exact HB.out⟩
def a1o (S:Nat → Nat → Nat):List Value:=(List.range 4).map (sqc S)
def Cip (w:World) (b n:Nat) (W:Nat → Nat → Nat):Prop:=
 ∃ g cap,g < w.heap.size ∧ n + 1 ≤ cap ∧ cap ≤ 9223372036854775807 ∧ w.cell? ⟨b,0,none⟩ = some (.slice (some ⟨g,0,none⟩) (n + 1) cap) ∧ (∀ j,j ≤ n → w.rangeAt g (4 * j) (a1o (rk W j))) ∧
  Tb w b 1 box ∧ Tb w b 257 bxb ∧ Tp w b 513 (prt m2) ∧ Tp w b 769 (prt m14)
theorem Cip.lt {w:World} {b n:Nat} {W:Nat → Nat → Nat} (h:Cip w b n W):b < w.heap.size:=by
 obtain ⟨_,_,_,_,_,_,_,h1,_⟩:=h
 exact h1.1
theorem Cip.on {w w':World} {b n:Nat} {W:Nat → Nat → Nat} (h:Cip w b n W) (hb:Below w.heap.size w w'):Cip w' b n W:=by
 have hlt:=h.lt
 obtain ⟨g,cap,h1,h2,h3,h4,h5,h6,h7,h8,h9⟩:=h
 exact ⟨g,cap,Nat.lt_of_lt_of_le h1 hb.size,h2,h3,(hb.cell (p:=⟨b,0,none⟩) hlt).trans h4,fun j hj k v hv => (hb.cell (p:=⟨g,4 * j + k,none⟩) h1).trans (h5 j hj k v hv),h6.on hb,h7.on hb,h8.on hb,h9.on hb⟩
theorem Cip.drewN {w:World} {b n:Nat} {W:Nat → Nat → Nat} (h:Cip w b n W) (q:Nat):Cip (w.drewN q) b n W:=h
theorem b1w (b n:Nat) (W:Nat → Nat → Nat) (w:World) (h:Cip w b n W):Calls Tryz.prog 167 #[.pointer (some ⟨b,0,none⟩)] w fun e w' => e = .returned (.bool false) ∧ w = w':=by
 obtain ⟨g,cap,h1,h2,h3,h4,_⟩:=h
 have q:(((n + 1:Nat):Int) == 0) = false:=by rw [beq_eq_false_iff_ne];omega
 have q2:((n:Int) + 1 == 0) = false:=by rw [beq_eq_false_iff_ne];omega
 clear h1 h2 h3
 go_enter Tryz.func167,Tryz.ntmps167
 go_wp2
 go_ret
 exact ⟨rfl,rfl⟩
theorem a8s (b n:Nat) (W:Nat → Nat → Nat) (w:World) (h:Cip w b n W):Calls Tryz.prog 149 #[.pointer (some ⟨b,0,none⟩)] w fun e w' => e = .returned (.int .i64 (n:Nat)) ∧ w = w':=by
 have HM:=hJ_ (b1w b n W w h)
 obtain ⟨g,cap,h1,h2,h3,h4,_⟩:=h
 have hn:(n:Int) < 9223372036854775807:=by omega
 go_enter Tryz.func149,Tryz.ntmps149
 go_wp2_with (go_at_call 167;refine HM.out.mono ?_;rintro e w' ⟨rfl,rfl⟩)
 go_ret
 exact ⟨a0s (by omega),rfl⟩
def b5k:Array Value:=a0e 4 fun _ => .int .u32 0
theorem c8b:∀ w:World,(zeroValue 164).run Tryz.prog w = .ok (.agg b5k) w:=by
 have h:=(zero_of_info b9w).1
 rw [a0m] at h
 exact h
theorem b5a (g o c:Nat) (w:World):(Instr.arrayAt 164 (.slice (some ⟨g,o,none⟩) 4 c)).run Tryz.prog w = .ok (.pointer (some ⟨g,o,none⟩)) w:=by kernel_rfl
theorem d1q (l:List Int):(a0e 4 fun j => (Value.int .u32 ((wd (kw l j):Nat):Int))) = sqV (kw l):=rfl
set_option maxHeartbeats 1000000 in
theorem b8e (b n:Nat) (W:Nat → Nat → Nat) (ba oa c:Nat) (l:List Int) (w:World) (h:Cip w b n W) (hl:l.length = 16) (hA:a0z l) (hb:Bs w w.heap.size (some ⟨ba,oa,none⟩) l) (hc:16 ≤ c) (hcm:c ≤ 9223372036854775807) :
 Calls Tryz.prog 176 #[.pointer (some ⟨b,0,none⟩),.slice (some ⟨ba,oa,none⟩) 16 c] w fun e w' => e = .returned (.tuple #[.agg (sqV (kw l)),.int .i64 0]) ∧ Below w.heap.size w w':=by
 have hz:=c8b
 obtain ⟨c0,hc0⟩:∃ c:Array Value,c = b5k:=⟨_,rfl⟩
 rw [← hc0] at hz
 obtain ⟨W0,hW0⟩:∃ W,W = w.alloc (.cells c0 164):=⟨_,rfl⟩
 have HB0:=hJ_ (show Below w.heap.size w W0 by rw [hW0];exact (Below.refl _ _).alloc (Nat.le_refl _) _)
 have HBK:=hJ_ (show Blk W0 w.heap.size 164 4 (fun _ => .int .u32 0) by rw [hW0,hc0];exact Blk.made _ _ _ _)
 have HM:=hJ_ (b1w b n W W0 (h.on HB0.out))
 have hwo:=b6d ba oa 4 c l W0 hl hA ((hb.below HB0.out).more HB0.out.size) (by omega) (by omega) hc hcm
 have HWO:=hJ_ (show Calls Tryz.prog 145 #[.slice (some ⟨ba,oa,none⟩) 16 c] W0 _ from hwo)
 have HW0:=hJ_ hW0
 have HS1:=hJ_ (show (Tryz.prog.info? 164).map (·.size) = some (sqV (kw l)).size by rw [a1n];exact a6h)
 have HS2:=hJ_ (show (a0e 4 fun _ => (Value.int .u32 0)).size = (sqV (kw l)).size by rw [a0b,a1n])
 have HS3:=hJ_ (show (sqV (kw l)).all (·.oneCell') = true from a0l fun _ => rfl)
 rw [hW0] at HM HWO
 clear hc0 hW0 h hl hA hb hwo
 obtain ⟨cs,hcs⟩:∃ cs,cs = sqV (kw l):=⟨_,rfl⟩
 rw [← hcs] at HS1 HS2 HS3
 have HCS:=hJ_ hcs
 clear hcs
 have hat:=b5a
 go_enter Tryz.func176,Tryz.ntmps176
 go_wp2_with (first
  | (go_at_call 167;refine HM.out.mono ?_;rintro e w' ⟨rfl,rfl⟩)
  | (go_at_call 145;refine HWO.out.mono ?_;rintro e w2 ⟨rfl,hk2,hb2⟩;have HK2:=hJ_ hk2;have HB2:=hJ_ hb2;clear hk2 hb2;rw [← HW0.out] at HK2 HB2;unfold Blk at HK2;rw [d1q,← HCS.out,show W0.heap.size = w.heap.size + 1 from by rw [HW0.out];simp] at HK2;have HBR:=hJ_ (HBK.out.on HB2.out (by rw [HW0.out];simp)))
  | ((with_reducible show wpList _ _ _ (⟨some 16,_,_,_,_,_⟩ :: _) _ _);refine wpList_load_row rfl 164 (.tmp 15) rfl (w.heap.size + 1) rfl _ cs _ _ HK2.out Tryz.underlying164 rfl HS1.out ?_)
  | ((with_reducible show wpList _ _ _ (⟨none,_,_,_,_,_⟩ :: _) _ _);refine wpList_store_row rfl 164 (.tmp 4) (.tmp 16) rfl w.heap.size cs rfl rfl _ _ HBR.out HS1.out HS2.out HS3.out ?_))
 refine bodyPost_ret (v:=.tuple #[.agg cs,.int .i64 0]) ?_ rfl ⟨by rw [HCS.out],below_setRow (bt HB0.out HB2.out) (Nat.le_refl _) _⟩
 rw [results_cell_tmp rfl]
 have HR3:=HBR.out.row (sqc (kw l))
 unfold Blk at HR3
 rw [show a0e 4 (sqc (kw l)) = cs from HCS.out.symm] at HR3
 have hld:=run_loadVar_row (P:=Tryz.prog) _ w.heap.size _ 164 cs _ _ HR3 Tryz.underlying164 rfl HS1.out
 simp [asAddr,Result.andThen,hld]
end Go.Proofs.YtappfdbmhgifcaaGreatDoor
