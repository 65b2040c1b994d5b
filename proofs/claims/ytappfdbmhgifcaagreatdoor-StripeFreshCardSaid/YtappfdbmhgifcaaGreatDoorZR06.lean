/- Texts of mine, one behind the other: QH. -/
import Derived.Test.YtappfdbmhgifcaaGreatDoorZR01
import Derived.Deep.CutRange
import Derived.Deep.DrawnRows
set_option linter.unusedVariables false
set_option linter.unusedSimpArgs false
set_option maxRecDepth 100000
namespace Go.Proofs.YtappfdbmhgifcaaGreatDoor
def dv:List Nat → Nat
 | [] => 0
 | d :: l => d + 65536 * dv l
theorem a5o:∀ (l:List Nat) (d:Nat),dv (l ++ [d]) = dv l + d * 65536 ^ l.length
 | [],d => by simp [dv]
 | a :: l,d => by
  simp only [List.cons_append,dv,a5o l d,List.length_cons,Nat.pow_succ]
  rw [Nat.mul_add,← Nat.add_assoc,Nat.mul_left_comm,Nat.mul_comm 65536 (65536 ^ l.length)]
def Dig (l:List Nat):Prop:=∀ x ∈ l,x < 65536
theorem Dig.snoc {l:List Nat} (h:Dig l) {d:Nat} (hd:d < 65536):Dig (l ++ [d]):=fun x hx => by
 rcases List.mem_append.1 hx with h1 | h1
 ·exact h x h1
 ·rw [List.mem_singleton.1 h1];exact hd
theorem Dig.getD {l:List Nat} (h:Dig l) (i:Nat):l.getD i 0 < 65536:=by
 by_cases hi:i < l.length
 ·have:l.getD i 0 = l[i]:=by simp [List.getD_eq_getElem?_getD,List.getElem?_eq_getElem hi]
  rw [this];exact h _ (List.getElem_mem hi)
 ·have:l.getD i 0 = 0:=by simp [List.getD_eq_getElem?_getD,List.getElem?_eq_none (Nat.le_of_not_lt hi)]
  rw [this];omega
def dvF (f:Nat → Nat):Nat → Nat
 | 0 => 0
 | k + 1 => dvF f k + f k * 65536 ^ k
theorem d5w {f:Nat → Nat} (h:∀ t,f t < 65536):∀ k,dvF f k < 65536 ^ k
 | 0 => by simp [dvF]
 | k + 1 => by
  have h1:=d5w h k
  have h2:=Nat.mul_le_mul_right (65536 ^ k) (show f k ≤ 65535 by have:=h k;omega)
  rw [dvF,Nat.pow_succ,Nat.mul_comm (65536 ^ k) 65536]
  omega
theorem b2d {f g:Nat → Nat}:∀ {k},(∀ t,t < k → f t = g t) → dvF f k = dvF g k
 | 0,_ => rfl
 | k + 1,h => by rw [dvF,dvF,b2d (fun t ht => h t (by omega)),h k (by omega)]
theorem e6f:∀ l:List Nat,dv l = dvF (fun t => l.getD t 0) l.length:=by
 intro l
 obtain ⟨m,hm⟩:∃ m,m = l.length:=⟨_,rfl⟩
 induction m generalizing l with
 | zero => obtain rfl:l = []:=List.eq_nil_of_length_eq_zero hm.symm;rfl
 | succ m ih =>
  obtain ⟨l',d,rfl⟩:∃ l' d,l = l' ++ [d]:=⟨l.dropLast,l.getLast (by intro h;simp [h] at hm),(List.dropLast_concat_getLast _).symm⟩
  have hl:m = l'.length:=by simp at hm;exact hm
  rw [a5o,ih l' hl,List.length_append,List.length_singleton,dvF]
  congr 1
  ·exact b2d fun t ht => by simp [List.getD_eq_getElem?_getD,List.getElem?_append_left ht]
  ·simp [List.getD_eq_getElem?_getD]
theorem a4x {l:List Nat}:∀ k,l.length ≤ k → dvF (fun t => l.getD t 0) k = dv l
 | 0,h => by rw [List.eq_nil_of_length_eq_zero (Nat.le_zero.1 h)];rfl
 | k + 1,h => by
  by_cases e:l.length = k + 1
  ·rw [e6f,e]
  ·rw [dvF,a4x k (by omega)]
   simp [List.getD_eq_getElem?_getD,List.getElem?_eq_none (show l.length ≤ k by omega)]
theorem b9l {f g:Nat → Nat} (hf:∀ t,f t < 65536) (hg:∀ t,g t < 65536) {i:Nat} (hgt:g i < f i):∀ k,i < k → (∀ t,i < t → t < k → f t = g t) → dvF g k < dvF f k
 | 0,h,_ => by omega
 | k + 1,h,he => by
  by_cases e:i = k
  ·subst e
   have h1:=d5w hg i
   have h2:=Nat.mul_le_mul_right (65536 ^ i) (show g i + 1 ≤ f i from hgt)
   rw [Nat.add_mul,Nat.one_mul] at h2
   rw [dvF,dvF]
   omega
  ·have:=b9l hf hg hgt k (by omega) (fun t h1 h2 => he t h1 (by omega))
   rw [dvF,dvF,he k (by omega) (by omega)]
   omega
theorem d3n (n p:Nat):dv (List.replicate n 0 ++ [p]) = p * 65536 ^ n:=by
 rw [a5o,List.length_replicate]
 have:dv (List.replicate n 0) = 0:=by
  induction n with
  | zero => rfl
  | succ n ih => rw [List.replicate_succ,dv,ih]
 omega
theorem c4e {N O:List Nat} {c x i:Nat} (hN:N.length = i) (h:dv N + c * 65536 ^ i = x * dv (O.take i)) {c1:Nat} (h1:c1 = c + O.getD i 0 * x) :
 dv (N ++ [c1 % 65536]) + c1 / 65536 * 65536 ^ (i + 1) = x * dv (O.take (i + 1)):=by
 rw [a5o,hN,Nat.pow_succ,Nat.mul_comm (65536 ^ i) 65536,← Nat.mul_assoc,Nat.add_assoc,← Nat.add_mul,show c1 % 65536 + c1 / 65536 * 65536 = c1 by omega,h1,Nat.add_mul,← Nat.add_assoc,h]
 by_cases hi:i < O.length
 ·have e:O.getD i 0 = O[i]:=by simp [List.getD_eq_getElem?_getD,List.getElem?_eq_getElem hi]
  rw [List.take_succ_eq_append_getElem hi,a5o,List.length_take,Nat.min_eq_left (by omega),e,Nat.mul_add,Nat.mul_comm O[i] x,Nat.mul_assoc]
 ·have e:O.getD i 0 = 0:=by simp [List.getD_eq_getElem?_getD,List.getElem?_eq_none (Nat.le_of_not_lt hi)]
  rw [e,List.take_of_length_le (by omega),List.take_of_length_le (by omega)]
  omega
theorem d3y {c x d:Nat} (hc:c ≤ x) (hd:d < 65536):(c + d * x) / 65536 ≤ x:=by
 have h:d * x ≤ 65535 * x:=Nat.mul_le_mul_right x (by omega)
 omega
theorem c0d {n a b:Nat} (hn:0 < n) (h:a ^ n < b ^ n):a < b:=by
 rcases Nat.lt_or_ge a b with h1 | h1
 ·exact h1
 ·exact absurd (Nat.pow_le_pow_left h1 n) (by omega)
theorem c4f {n P x r:Nat} (hn:0 < n) (h1:x ^ n ≤ P) (h2:P < (x + 1) ^ n) (h3:r ^ n ≤ P) (h4:P < (r + 1) ^ n):x = r:=by
 have a:=c0d hn (Nat.lt_of_le_of_lt h1 h4)
 have b:=c0d hn (Nat.lt_of_le_of_lt h3 h2)
 omega
def pq (out:List Nat) (p:Nat):List Nat:=if out.all (fun q => p % q != 0) then out ++ [p] else out
def ps:Nat → List Nat
 | 0 => []
 | k + 1 => pq (ps k) (k + 2)
theorem e7v (k:Nat):(ps k).length ≤ (ps (k + 1)).length:=by
 rw [ps];unfold pq;split <;> simp
theorem d9t {j k:Nat} (h:j ≤ k):(ps j).length ≤ (ps k).length:=by
 induction k with
 | zero => rw [Nat.le_zero.1 h];exact Nat.le_refl _
 | succ k ih =>
  by_cases e:j = k + 1
  ·rw [e];exact Nat.le_refl _
  ·exact Nat.le_trans (ih (by omega)) (e7v k)
theorem c9h:∀ k,∀ q ∈ ps k,2 ≤ q ∧ q ≤ k + 1
 | 0,q,h => by cases h
 | k + 1,q,h => by
  rw [ps] at h;unfold pq at h
  split at h
  ·rcases List.mem_append.1 h with h1 | h1
   ·have:=c9h k q h1;omega
   ·rw [List.mem_singleton.1 h1];omega
  ·have:=c9h k q h;omega
def p64:List Nat:=[2,3,5,7,11,13,17,19,23,29,31,37,41,43,47,53,59,61,67,71,73,79,83,89,97,101,103,107,109,113,127,131,137,139,149,151,157,163,167,173,179,181,191,193,197,199,211,223,227,229,233,239,241,251,257,263,269,271,277,281,283,293,307,311]
theorem e4k:(ps 309).length = 63:=by decide +kernel
theorem d6n:ps 310 = p64:=by decide +kernel
theorem e3m {k:Nat} (h:k ≤ 309):(ps k).length < 64:=by have:=d9t h;rw [e4k] at this;omega
end Go.Proofs.YtappfdbmhgifcaaGreatDoor
namespace Go.Proofs.YtappfdbmhgifcaaGreatDoor
open Go.RowKit
def v64 (l:List Nat):List Value:=l.map fun x => .int .u64 ((x:Nat):Int)
theorem b4l (l:List Nat):(v64 l).length = l.length:=by simp [v64]
theorem c1w (l m:List Nat):v64 (l ++ m) = v64 l ++ v64 m:=by simp [v64]
theorem d9e {l:List Nat} {i:Nat} (h:i < l.length):(v64 l)[i]? = some (.int .u64 ((l.getD i 0:Nat):Int)):=by
 simp [v64,List.getD_eq_getElem?_getD,List.getElem?_eq_getElem h]
def A64 (w:World) (a:Option Addr) (n c:Nat) (l:List Nat):Prop:=l.length = n ∧ n ≤ c ∧ c ≤ maxLen ∧
 (0 < n → ∃ b off,a = some ⟨b,off,none⟩ ∧ b < w.heap.size ∧ ∀ i,i < n → w.cell? ⟨b,off + i,none⟩ = some (.int .u64 ((l.getD i 0:Nat):Int)))
theorem A64.on {w w':World} {a:Option Addr} {n c:Nat} {l:List Nat} (h:A64 w a n c l) (hb:Below w.heap.size w w'):A64 w' a n c l:=by
 obtain ⟨h1,h2,h3,h4⟩:=h
 refine ⟨h1,h2,h3,fun h0 => ?_⟩
 obtain ⟨b,off,e,hlt,hc⟩:=h4 h0
 exact ⟨b,off,e,Nat.lt_of_lt_of_le hlt hb.size,fun i hi => (hb.cell (p:=⟨b,off + i,none⟩) hlt).trans (hc i hi)⟩
theorem A64.at_ {w:World} {a:Option Addr} {n c:Nat} {l:List Nat} (h:A64 w a n c l) {i:Nat} (hi:i < n) :
 ∃ b off,a = some ⟨b,off,none⟩ ∧ b < w.heap.size ∧ w.cell? ⟨b,off + i,none⟩ = some (.int .u64 ((l.getD i 0:Nat):Int)):=by
 obtain ⟨b,off,e,hlt,hc⟩:=h.2.2.2 (by omega)
 exact ⟨b,off,e,hlt,hc i hi⟩
theorem A64.other {w:World} {g off n c:Nat} {l:List Nat} (h:A64 w (some ⟨g,off,none⟩) n c l) (p:Addr) (v:Value) (hne:p.block ≠ g):A64 (w.setCell p v) (some ⟨g,off,none⟩) n c l:=by
 obtain ⟨h1,h2,h3,h4⟩:=h
 refine ⟨h1,h2,h3,fun h0 => ?_⟩
 obtain ⟨b,o,e,hlt,hc⟩:=h4 h0
 cases e
 exact ⟨_,_,rfl,by simpa using hlt,fun i hi => (World.cell?_setCell_far w p ⟨g,off + i,none⟩ v hne).trans (hc i hi)⟩
theorem c5z {w:World} {base:Nat} {e:TypeId} {a:Option Addr} {n c:Nat} {l:List Nat} (h:w.ownsRow base e 1 (.slice a n c) n (v64 l)):A64 w a n c l:=by
 have hl:l.length = n:=by have:=h.1;rw [b4l] at this;omega
 rcases h.2 with ⟨hv,h0⟩ | ⟨g,cap,cur,hv,hg,hh,hn,hm,hsz,htk⟩
 ·injection hv with e1 e2 e3
  subst e1 e2 e3
  exact ⟨hl,Nat.le_refl _,Nat.zero_le _,fun h => by omega⟩
 ·injection hv with e1 e2 e3
  subst e1 e3
  refine ⟨hl,hn,hm,fun h0 => ⟨g,0,rfl,(Array.getElem?_eq_some_iff.1 hh).1,fun i hi => ?_⟩⟩
  rw [Nat.zero_add,h.cellAt i (by omega),d9e (by omega)]
theorem a3g {w:World} {base:Nat} {e:TypeId} {v:Value} {n:Nat} {xs:List Value} (h:w.ownsRow base e 1 v n xs):∀ k,v.ownBlock = some k → base ≤ k:=by
 intro k hk
 rcases h.2 with ⟨rfl,_⟩ | ⟨g,cap,cur,rfl,hg,_⟩
 ·cases hk
 ·have:some g = some k:=hk
  injection this with this
  omega
theorem b2n (w:World) (e:TypeId):(w.alloc (.cells #[] e)).ownsRow w.heap.size e 1 (.slice (some ⟨w.heap.size,0,none⟩) 0 0) 0 (v64 []):=
 World.ownsRow_lit (base:=w.heap.size) (e:=e) (size:=1) w #[] 0 (Nat.le_refl _) (Nat.zero_le _) rfl
theorem c5q (w:World) (e:TypeId) (x:Nat):(w.alloc (.cells #[.int .u64 ((x:Nat):Int)] e)).ownsRow w.heap.size e 1 (.slice (some ⟨w.heap.size,0,none⟩) 1 1) 1 (v64 [x]):=
 World.ownsRow_lit (base:=w.heap.size) (e:=e) (size:=1) w #[.int .u64 ((x:Nat):Int)] 1 (Nat.le_refl _) (by unfold maxLen;omega) rfl
theorem b9c {w:World} {e:TypeId} {n:Nat} (hm:n ≤ maxLen) :
 (w.alloc (.cells (madeCells #[Value.int .u64 0] n) e)).ownsRow w.heap.size e 1 (.slice (some ⟨w.heap.size,0,none⟩) n n) n (v64 (List.replicate n 0)):=by
 have:=World.ownsRow_lit (base:=w.heap.size) (e:=e) (size:=1) w (madeCells #[Value.int .u64 0] n) n (Nat.le_refl _) hm (by simp [size_madeCells])
 rw [toList_madeCells_one] at this
 simpa [v64] using this
theorem a1j {P:Program} {w:World} {ops:Array Oper} {rest:List Oper} {o:Oper} {a:Act} {Q:Exit → Act → World → Prop} (hgd:o.guard = none) (s x:Operand) (t:TypeId)
 (ho:o.op = .call { callee:=.builtin .append,args:=#[s,x],argTypes:=#[t,t] })
 (base:Nat) (e:TypeId) (i:TypeInfo) (ht:P.underlying t = some (.slice e)) (hi:P.info? e = some i) (hz:i.zero = some (.int .u64 0)) (hsize:i.size = 1) (hby:i.bytes = 8)
 (ad:Option Addr) (n c:Nat) (l:List Nat) (hs:a.eval s = .slice ad n c) (hown:w.ownsRow base e 1 (.slice ad n c) n (v64 l))
 (g:Nat) (d:Int) (y:Nat) (hy:d = ((y:Nat):Int)) (hx:a.eval x = .slice (some ⟨g,0,none⟩) 1 1) (hc:w.cell? ⟨g,0,none⟩ = some (.int .u64 d)) (hn:n ≤ 1000000) (hbase:base ≤ w.heap.size)
 (h:∀ g' c' w',w'.ownsRow base e 1 (.slice (some ⟨g',0,none⟩) (n + 1) c') (n + 1) (v64 (l ++ [y])) → Below base w w' → wpList P ops Q rest (a.put o.dst (.slice (some ⟨g',0,none⟩) (n + 1) c')) w') :
 wpList P ops Q (o :: rest) a w:=by
 refine wpList_append_own w hgd s x t ho base e i (.int .u64 0) 1 8 ht hi hz hsize hby rfl (by decide) (.slice ad n c) n (v64 l) hs hown ⟨g,0,none⟩ 1 1 (v64 [y]) hx rfl ?_ (fun u hu => by simp [v64] at hu;subst hu;rfl) (by unfold maxLen;omega) (by omega) hbase ?_
 ·intro j u hj
  match j,hj with
  | 0,hj => simp [v64] at hj;subst hj;simp [Addr.add];rw [hc,hy]
 ·intro v' w' h1 h2 _
  obtain ⟨g',c',rfl⟩:∃ g' c',v' = .slice (some ⟨g',0,none⟩) (n + 1) c':=by
   rcases h1.2 with ⟨_,h0⟩ | ⟨g',c',cur,hv,_⟩
   ·omega
   ·exact ⟨g',c',hv⟩
  rw [← c1w] at h1
  exact h g' c' w' h1 ((Below.refl _ _).grown h2 hbase (a3g hown))
end Go.Proofs.YtappfdbmhgifcaaGreatDoor
namespace Go.Proofs.YtappfdbmhgifcaaGreatDoor
open Go.ChangeShapes Go.WideShapes Go.ChangeAt Go.RowKit
theorem c1b:(Tryz.prog.info? 90).map (fun i => (i.zero,i.size,i.bytes)) = some (some (.int .u64 0),1,8):=by kernel_rfl
set_option maxHeartbeats 2000000 in
theorem c7x (x N:Nat) (hx:x < 281474976710656) (hN:N ≤ 3) (w:World) :
 Calls Tryz.prog 133 #[.int .u64 (x:Nat),.int .i64 (N:Nat)] w fun e w' => ∃ a c O,e = .returned (.slice a (List.length O) c) ∧ A64 w' a O.length c O ∧ Dig O ∧ dv O = x ^ N ∧ O.length ≤ 10 ∧ Below w.heap.size w w':=by
 obtain ⟨i6,hi,hz0,hz1,hz2⟩:=info_parts c1b
 have HI:=hJ_ hi
 have HZ0:=hJ_ hz0
 have HZ1:=hJ_ hz1
 have HZ2:=hJ_ hz2
 have HXX:=hJ_ hx
 have hxq:(x:Int) < 281474976710656:=by omega
 clear hi hz0 hz1 hz2 hx
 have H1:=hJ_ (c5z (c5q w 90 1))
 have HB1:=hJ_ (show Below w.heap.size w (w.alloc (.cells #[.int .u64 ((1:Nat):Int)] 90)) from (Below.refl _ _).alloc (Nat.le_refl _) _)
 go_enter Tryz.func133,Tryz.ntmps133
 go_wp2_with fail
 go_loopw [1,5] (fun q out V => ∃ (j:Nat) (a:Option Addr) (c:Nat) (O:List Nat),j ≤ N ∧ q = .int .i64 ((N - j:Nat):Int) ∧ out = .slice a O.length c ∧ A64 V a O.length c O ∧ Dig O ∧ dv O = x ^ j ∧ O.length ≤ 3 * j + 1 ∧ Below w.heap.size w V) (fun q _ _ => (intOf q).toNat)
 case atStart => exact ⟨0,_,_,[1],by omega,rfl,rfl,H1.out,(fun y hy => by rw [List.mem_singleton.1 hy];omega),rfl,by decide,HB1.out⟩
 case round =>
  obtain ⟨j,a,c,O,hj,rfl,rfl,h1,h2,h3,h4,h5⟩:=hrel
  rename World => V
  have HA:=hJ_ h1
  have HD:=hJ_ h2
  have HV:=hJ_ h3
  have HL:=hJ_ h4
  have HBV:=hJ_ h5
  clear h1 h2 h3 h4 h5 H1 HB1
  by_cases hlt:j < N
  ·obtain ⟨M,hM⟩:∃ M,M = O.length:=⟨_,rfl⟩
   obtain ⟨K,hK⟩:∃ K,K = N - j:=⟨_,rfl⟩
   have hK0:0 < K:=by omega
   have hK3:(K:Int) ≤ 3:=by omega
   have hK1:1 ≤ (K:Int):=by omega
   have hM10:M ≤ 10:=by have:=HL.out;omega
   have HM:=hJ_ hM
   have HK:=hJ_ hK
   rw [← hM] at HA ⊢
   rw [← hK]
   clear hM hK
   have HE:=hJ_ (b2n V 90)
   have HBE:=hJ_ (show Below V.heap.size V (V.alloc (.cells #[] 90)) from (Below.refl _ _).alloc (Nat.le_refl _) _)
   go_wp2_with fail
   go_loopw [6,7,8] (fun nx cy q U => ∃ (i:Nat) (cc:Nat) (a2:Option Addr) (c2:Nat) (X:List Nat),q = .int .i64 (i:Nat) ∧ cy = .int .u64 (cc:Nat) ∧ nx = .slice a2 i c2 ∧ U.ownsRow V.heap.size 90 1 (.slice a2 i c2) i (v64 X) ∧ Dig X ∧ i ≤ M + 3 ∧ cc ≤ x ∧ (M ≤ i → cc * 65536 ^ (i - M) ≤ x) ∧ dv X + cc * 65536 ^ i = x * dv (O.take i) ∧ Below V.heap.size V U) (fun _ _ q _ => 14 - (intOf q).toNat)
   case atStart => exact ⟨0,0,_,_,[],rfl,rfl,rfl,HE.out,(fun y hy => by cases hy),by omega,by omega,by omega,by simp [dv],HBE.out⟩
   case round =>
    obtain ⟨i,cc,a2,c2,X,rfl,rfl,rfl,h1,h2,h3,h4,h5,h6,h7⟩:=hrel
    have HO:=hJ_ h1
    have HDX:=hJ_ h2
    have HIM:=hJ_ h3
    have HCX:=hJ_ h4
    have HCP:=hJ_ h5
    have HEQ:=hJ_ h6
    have HBU:=hJ_ h7
    clear h1 h2 h3 h4 h5 h6 h7 HE HBE
    rename World => U
    have HAU:=hJ_ (HA.out.on HBU.out)
    by_cases hcont:i < M ∨ 0 < cc
    ·have hi13:i ≤ 12:=by
      rcases hcont with h | h
      ·omega
      ·by_cases hMi:M ≤ i
       ·have h1:=HCP.out hMi
        have h2:65536 ^ (i - M) ≤ cc * 65536 ^ (i - M):=Nat.le_mul_of_pos_left _ h
        have h3:65536 ^ (i - M) < 65536 ^ 3:=Nat.lt_of_le_of_lt (Nat.le_trans h2 h1) (Nat.lt_of_lt_of_le HXX.out (by decide))
        have h4:=(Nat.pow_lt_pow_iff_right (show 1 < 65536 by omega)).1 h3
        omega
       ·omega
     have hIM2:i + 1 ≤ M + 3:=by
      rcases hcont with h | h
      ·omega
      ·by_cases hMi:M ≤ i
       ·have h1:=HCP.out hMi
        have h2:65536 ^ (i - M) ≤ cc * 65536 ^ (i - M):=Nat.le_mul_of_pos_left _ h
        have h3:65536 ^ (i - M) < 65536 ^ 3:=Nat.lt_of_le_of_lt (Nat.le_trans h2 h1) (Nat.lt_of_lt_of_le HXX.out (by decide))
        have h4:=(Nat.pow_lt_pow_iff_right (show 1 < 65536 by omega)).1 h3
        omega
       ·omega
     have HIM2:=hJ_ hIM2
     have hd:=HD.out.getD i
     by_cases hiM:i < M
     ·obtain ⟨b,off,rfl,hbl,hcell⟩:=HAU.out.at_ hiM
      obtain ⟨d,hdd⟩:∃ d,d = O.getD i 0:=⟨_,rfl⟩
      rw [← hdd] at hcell hd
      have hmul:d * x ≤ 65535 * 281474976710655:=Nat.mul_le_mul (by omega) (by have:=HXX.out;omega)
      have hcq:=HCX.out
      have HST:=hJ_ (c4e (by have:=HO.out.1;rw [b4l] at this;omega) HEQ.out (c1:=cc + d * x) (by rw [hdd]))
      have HCL:=hJ_ (d3y (d:=d) HCX.out hd)
      obtain ⟨D,hD⟩:∃ D,D = d * x:=⟨_,rfl⟩
      have qD:(d:Int) * (x:Int) = (D:Int):=by rw [hD];simp
      rw [← hD] at HST HCL hmul
      have HCT:=hJ_ (show M ≤ i + 1 → (cc + D) / 65536 * 65536 ^ (i + 1 - M) ≤ x by intro h;rw [show i + 1 - M = 0 by omega,Nat.pow_zero,Nat.mul_one];exact HCL.out)
      clear hdd hD hcont
      have HOA:=hJ_ (HO.out.alloc (.cells #[.int .u64 (((cc:Int) + (D:Int)) % 65536)] 90))
      have HCE:=hJ_ (show (U.alloc (.cells #[.int .u64 (((cc:Int) + (D:Int)) % 65536)] 90)).cell? ⟨U.heap.size,0,none⟩ = some (.int .u64 (((cc:Int) + (D:Int)) % 65536)) by simp)
      have HSZ:=hJ_ (show V.heap.size ≤ (U.alloc (.cells #[.int .u64 (((cc:Int) + (D:Int)) % 65536)] 90)).heap.size by have:=HBU.out.size;simp;omega)
      have HBA:=hJ_ (show Below V.heap.size V (U.alloc (.cells #[.int .u64 (((cc:Int) + (D:Int)) % 65536)] 90)) from HBU.out.alloc HBU.out.size _)
      go_wp2_with ((with_reducible show wpList _ _ _ (⟨some 41,_,_,_,_,_⟩ :: _) _ _);go_loud (refine a1j (o:=⟨some 41,_,_,_,_,_⟩) rfl (.tmp 37) (.tmp 40) 118 rfl V.heap.size 90 i6 Tryz.underlying118 HI.out HZ0.out HZ1.out HZ2.out a2 i c2 X rfl HOA.out U.heap.size _ ((cc + D) % 65536) (by omega) rfl HCE.out (by omega) HSZ.out ?_;intro g3 c3 W3 ho3 hb3))
      have HO3:=hJ_ ho3
      have HB3:=hJ_ (HBA.out.trans hb3)
      clear ho3 hb3
      go_roundw
      case rel => exact ⟨i + 1,(cc + D) / 65536,_,_,X ++ [((cc + D) % 65536)],by go_num,by go_num,rfl,HO3.out,HDX.out.snoc (by omega),HIM2.out,HCL.out,HCT.out,HST.out,HB3.out⟩
      case measure => simp [intOf];omega
     ·have hcc:0 < cc:=by rcases hcont with h | h <;> omega
      have hd0:O.getD i 0 = 0:=by simp [List.getD_eq_getElem?_getD,List.getElem?_eq_none (show O.length ≤ i by rw [← HM.out];omega)]
      have HST:=hJ_ (c4e (by have:=HO.out.1;rw [b4l] at this;omega) HEQ.out (c1:=cc) (by rw [hd0];omega))
      have HCL:=hJ_ (show cc / 65536 ≤ x by have:=HCX.out;omega)
      have hcq:=HCX.out
      have HCT:=hJ_ (show M ≤ i + 1 → cc / 65536 * 65536 ^ (i + 1 - M) ≤ x by
       intro _
       rw [show i + 1 - M = (i - M) + 1 by omega,Nat.pow_succ,Nat.mul_comm (65536 ^ (i - M)) 65536,← Nat.mul_assoc]
       exact Nat.le_trans (Nat.mul_le_mul_right _ (show cc / 65536 * 65536 ≤ cc by omega)) (HCP.out (by omega)))
      clear hd0 hcont
      have HOA:=hJ_ (HO.out.alloc (.cells #[.int .u64 ((cc:Int) % 65536)] 90))
      have HCE:=hJ_ (show (U.alloc (.cells #[.int .u64 ((cc:Int) % 65536)] 90)).cell? ⟨U.heap.size,0,none⟩ = some (.int .u64 ((cc:Int) % 65536)) by simp)
      have HSZ:=hJ_ (show V.heap.size ≤ (U.alloc (.cells #[.int .u64 ((cc:Int) % 65536)] 90)).heap.size by have:=HBU.out.size;simp;omega)
      have HBA:=hJ_ (show Below V.heap.size V (U.alloc (.cells #[.int .u64 ((cc:Int) % 65536)] 90)) from HBU.out.alloc HBU.out.size _)
      go_wp2_with ((with_reducible show wpList _ _ _ (⟨some 41,_,_,_,_,_⟩ :: _) _ _);go_loud (refine a1j (o:=⟨some 41,_,_,_,_,_⟩) rfl (.tmp 37) (.tmp 40) 118 rfl V.heap.size 90 i6 Tryz.underlying118 HI.out HZ0.out HZ1.out HZ2.out a2 i c2 X rfl HOA.out U.heap.size _ (cc % 65536) (by omega) rfl HCE.out (by omega) HSZ.out ?_;intro g3 c3 W3 ho3 hb3))
      have HO3:=hJ_ ho3
      have HB3:=hJ_ (HBA.out.trans hb3)
      clear ho3 hb3
      go_roundw
      case rel => exact ⟨i + 1,cc / 65536,_,_,X ++ [(cc % 65536)],by go_num,by go_num,rfl,HO3.out,HDX.out.snoc (by omega),HIM2.out,HCL.out,HCT.out,HST.out,HB3.out⟩
      case measure => simp [intOf];omega
    ·have hiM:¬ i < M:=fun h => hcont (Or.inl h)
     have hc0:cc = 0:=by omega
     subst hc0
     have HXL:=hJ_ (show X.length = i by have:=HO.out.1;rw [b4l] at this;omega)
     have HXV:=hJ_ (show dv X = x ^ (j + 1) by
      have h:=HEQ.out
      rw [List.take_of_length_le (show O.length ≤ i by rw [← HM.out];omega),HV.out] at h
      rw [Nat.pow_succ,Nat.mul_comm (x ^ j) x]
      omega)
     have hA2:=c5z HO.out
     have hl2:X.length ≤ 3 * (j + 1) + 1:=by rw [HXL.out];have:=HIM.out;have:=HL.out;have:=HM.out;omega
     have HA2:=hJ_ hA2
     have HL2:=hJ_ hl2
     clear hA2 hl2 hcont
     go_wp2
     go_roundw
     case rel => exact ⟨j + 1,a2,c2,X,by omega,by have:=HK.out;go_num,by rw [HXL.out],by rw [HXL.out];exact HA2.out,HDX.out,HXV.out,HL2.out,bt HBV.out HBU.out⟩
     case measure => simp [intOf];omega
  ·obtain rfl:j = N:=by omega
   go_wp2
   go_ret
   exact ⟨a,c,O,rfl,HA.out,HD.out,HV.out,by have:=HL.out;omega,HBV.out⟩
theorem c6q {a b:Bool} (h:a = b):Ending.returned (.bool a) = .returned (.bool b):=by rw [h]
set_option maxHeartbeats 4000000 in
theorem c4o (x p N:Nat) (hx:x < 281474976710656) (hp:p < 65536) (hN:N ≤ 3) (w:World) :
 Calls Tryz.prog 111 #[.int .u64 (x:Nat),.int .u64 (p:Nat),.int .i64 (N:Nat)] w fun e w' => e = .returned (.bool (decide (p * 65536 ^ (2 * N) < x ^ N))) ∧ Below w.heap.size w w':=by
 obtain ⟨i6,hi,hz0,hz1,hz2⟩:=info_parts c1b
 have HI:=hJ_ hi
 have HZ0:=hJ_ hz0
 have HZ1:=hJ_ hz1
 have HZ2:=hJ_ hz2
 have HX:=hJ_ hx
 obtain ⟨Z,hZ⟩:∃ Z,Z = 2 * N:=⟨_,rfl⟩
 have HZN:=hJ_ hZ
 have qZ:(2:Int) * (N:Int) = (Z:Int):=by omega
 have hZ6:Z ≤ 6:=by omega
 have hmk:=run_make_row' (P:=Tryz.prog) 118 90 (.int .u64 0) 8 Tryz.underlying118 c1b rfl .i64 .i64 Z (by omega) (by omega)
 rw [← hZ]
 have HN3:=hJ_ hN
 clear hi hz0 hz1 hz2 hx hZ
 go_enter Tryz.func111,Tryz.ntmps111
 go_upto_region 2 with (go_at_call 133;go_loud ((with_reducible refine (c7x x N HX.out HN3.out w).mono ?_);rintro e w1 ⟨a,c,O,rfl,h1,h2,h3,h4,hb⟩;have HA1:=hJ_ h1;have HD:=hJ_ h2;have HV:=hJ_ h3;have HL:=hJ_ h4;have HB1:=hJ_ hb;clear h1 h2 h3 h4 hb))
 have HW2:=hJ_ (b9c (w:=w1) (e:=90) (n:=Z) (by unfold maxLen;omega))
 have HB2:=hJ_ (show Below w1.heap.size w1 (w1.alloc (.cells (madeCells #[Value.int .u64 0] Z) 90)) from (Below.refl _ _).alloc (Nat.le_refl _) _)
 go_upto_region 3 with fail
 clear hmk
 obtain ⟨w2,hw2⟩:∃ w2,w2 = w1.alloc (.cells (madeCells #[Value.int .u64 0] Z) 90):=⟨_,rfl⟩
 rw [← hw2] at HW2 HB2
 rw [← hw2]
 clear hw2
 have HOA:=hJ_ (HW2.out.alloc (.cells #[.int .u64 (p:Int)] 90))
 have HCE:=hJ_ (show (w2.alloc (.cells #[.int .u64 (p:Int)] 90)).cell? ⟨w2.heap.size,0,none⟩ = some (.int .u64 (p:Int)) by simp)
 have HSZ:=hJ_ (show w1.heap.size ≤ (w2.alloc (.cells #[.int .u64 (p:Int)] 90)).heap.size by have:=HB2.out.size;simp;omega)
 have HBA:=hJ_ (show Below w1.heap.size w1 (w2.alloc (.cells #[.int .u64 (p:Int)] 90)) from HB2.out.alloc HB2.out.size _)
 go_wp2_with ((with_reducible show wpList _ _ _ (⟨some 21,_,_,_,_,_⟩ :: _) _ _);go_loud (refine a1j (o:=⟨some 21,_,_,_,_,_⟩) rfl (.tmp 18) (.tmp 20) 118 rfl w1.heap.size 90 i6 Tryz.underlying118 HI.out HZ0.out HZ1.out HZ2.out (some ⟨w1.heap.size,0,none⟩) Z Z (List.replicate Z 0) rfl HOA.out w2.heap.size _ p rfl rfl HCE.out (by omega) HSZ.out ?_;intro g3 c3 w3 ho3 hb3))
 have HW3:=hJ_ (c5z ho3)
 have HB3:=hJ_ (HBA.out.trans hb3)
 have HA3:=hJ_ (HA1.out.on HB3.out)
 clear ho3 hb3
 obtain ⟨W,hW⟩:∃ W,W = List.replicate Z 0 ++ [p]:=⟨_,rfl⟩
 obtain ⟨M,hM⟩:∃ M,M = O.length:=⟨_,rfl⟩
 have HDW:=hJ_ (show Dig W by rw [hW];exact Dig.snoc (fun y hy => by rw [(List.mem_replicate.1 hy).2];omega) hp)
 have HVW:=hJ_ (show dv W = p * 65536 ^ Z by rw [hW];exact d3n Z p)
 have HLW:=hJ_ (show W.length = Z + 1 by rw [hW];simp)
 have HM:=hJ_ hM
 have hM10:M ≤ 10:=by rw [hM];exact HL.out
 rw [← hW] at HW3
 rw [← hM] at HA3 ⊢
 clear hW hM
 go_loop [9] (fun q => ∃ i:Nat,i ≤ 16 ∧ q = .int .i64 ((i:Int) - 1) ∧ Hid (∀ t,i ≤ t → t < 16 → O.getD t 0 = W.getD t 0)) (fun q => (intOf q + 1).toNat)
 case atStart => exact ⟨16,by omega,rfl,hJ_ (fun t h1 h2 => by omega)⟩
 case round =>
  obtain ⟨j,hj,rfl,heq⟩:=hrel
  rcases Nat.eq_zero_or_pos j with h0 | h0
  ·subst h0
   have HF:=hJ_ (show decide (p * 65536 ^ Z < x ^ N) = false by
    rw [← HV.out,← HVW.out,← a4x (l:=O) 16 (by rw [← HM.out];omega),← a4x (l:=W) 16 (by rw [HLW.out];omega),b2d (fun t ht => heq.out t (by omega) ht)]
    simp)
   go_wp2
   go_ret
   exact ⟨c6q (by rw [HF.out]),bt HB1.out HB3.out⟩
  ·obtain ⟨i,rfl⟩:∃ i,j = i + 1:=⟨j - 1,by omega⟩
   have ej:((i + 1:Nat):Int) - 1 = (i:Int):=by omega
   rw [ej]
   clear ej
   have hi15:i ≤ 15:=by omega
   have HEQ:=hJ_ heq.out
   have hOd:=HD.out.getD i
   have hWd:=HDW.out.getD i
   clear heq
   obtain ⟨d,hd⟩:∃ d,d = O.getD i 0:=⟨_,rfl⟩
   obtain ⟨v,hv⟩:∃ v,v = W.getD i 0:=⟨_,rfl⟩
   rw [← hd] at hOd
   rw [← hv] at hWd
   have HDD:=hJ_ hd
   have HVV:=hJ_ hv
   have HNX:=hJ_ (show d = v → ∀ t,i ≤ t → t < 16 → O.getD t 0 = W.getD t 0 from fun e t h1 h2 => by
    by_cases e1:t = i
    ·rw [e1,← HDD.out,← HVV.out,e]
    ·exact HEQ.out t (by omega) h2)
   have HGT:=hJ_ (show v < d → decide (p * 65536 ^ Z < x ^ N) = true from fun h => by
    rw [← HV.out,← HVW.out,← a4x (l:=O) 16 (by rw [← HM.out];omega),← a4x (l:=W) 16 (by rw [HLW.out];omega)]
    exact decide_eq_true (b9l (fun t => HD.out.getD t) (fun t => HDW.out.getD t) (i:=i) (by rw [← HDD.out,← HVV.out];exact h) 16 (by omega) (fun t h1 h2 => HEQ.out t (by omega) h2)))
   have HLT:=hJ_ (show d < v → decide (p * 65536 ^ Z < x ^ N) = false from fun h => by
    rw [← HV.out,← HVW.out,← a4x (l:=O) 16 (by rw [← HM.out];omega),← a4x (l:=W) 16 (by rw [HLW.out];omega)]
    have:=b9l (fun t => HDW.out.getD t) (fun t => HD.out.getD t) (i:=i) (by rw [← HDD.out,← HVV.out];exact h) 16 (by omega) (fun t h1 h2 => (HEQ.out t (by omega) h2).symm)
    exact decide_eq_false (by omega))
   have HD0:=hJ_ (show ¬ i < M → d = 0 from fun h => by rw [HDD.out];simp [List.getD_eq_getElem?_getD,List.getElem?_eq_none (show O.length ≤ i by rw [← HM.out];omega)])
   have HV0:=hJ_ (show ¬ i < Z + 1 → v = 0 from fun h => by rw [HVV.out];simp [List.getD_eq_getElem?_getD,List.getElem?_eq_none (show W.length ≤ i by rw [HLW.out];omega)])
   have hOc:i < M → ∃ b off,a = some ⟨b,off,none⟩ ∧ b < w3.heap.size ∧ w3.cell? ⟨b,off + i,none⟩ = some (.int .u64 ((d:Nat):Int)):=fun h => by rw [HDD.out];exact HA3.out.at_ h
   have hWc:i < Z + 1 → w3.cell? ⟨g3,0 + i,none⟩ = some (.int .u64 ((v:Nat):Int)):=fun h => by
    obtain ⟨b,off,e,_,hc⟩:=HW3.out.at_ h
    cases e
    rw [HVV.out];exact hc
   have HOC:=hJ_ hOc
   have HWC:=hJ_ hWc
   clear hd hv hOc hWc
   have step:∀ (dd vv:Nat),True:=fun _ _ => trivial
   clear step
   by_cases h1:i < M
   ·obtain ⟨b,off,rfl,hbl,hc1⟩:=HOC.out h1
    by_cases h2:i < Z + 1
    ·have hc2:=HWC.out h2
     rw [Nat.zero_add] at hc2
     rcases Nat.lt_trichotomy d v with hlt | heq | hgt
     ·have q1:((d:Int) != (v:Int)) = true:=by simp <;> omega
      have q2:¬ (v:Int) < (d:Int):=by omega
      have q3:decide ((v:Int) < (d:Int)) = false:=decide_eq_false q2
      go_wp2
      go_ret
      exact ⟨c6q (by rw [HLT.out hlt] <;> first | exact decide_eq_true q2 | simp),bt HB1.out HB3.out⟩
     ·have q1:((d:Int) != (v:Int)) = false:=by simp <;> omega
      have HNY:=hJ_ (HNX.out heq)
      clear heq
      go_wp2
      go_round
      case rel => exact ⟨i,by omega,rfl,HNY⟩
      case measure => simp [intOf] <;> omega
     ·have q1:((d:Int) != (v:Int)) = true:=by simp <;> omega
      have q2:(v:Int) < (d:Int):=by omega
      go_wp2
      go_ret
      exact ⟨c6q (by rw [HGT.out hgt] <;> first | exact decide_eq_true q2 | simp),bt HB1.out HB3.out⟩
    ·obtain rfl:v = 0:=HV0.out h2
     rcases Nat.lt_trichotomy d (0:Nat) with hlt | heq | hgt
     ·exact absurd hlt (by omega)
     ·have q1:((d:Int) != (0:Int)) = false:=by simp <;> omega
      have HNY:=hJ_ (HNX.out heq)
      clear heq
      go_wp2
      go_round
      case rel => exact ⟨i,by omega,rfl,HNY⟩
      case measure => simp [intOf] <;> omega
     ·have q1:((d:Int) != (0:Int)) = true:=by simp <;> omega
      have q2:(0:Int) < (d:Int):=by omega
      go_wp2
      go_ret
      exact ⟨c6q (by rw [HGT.out hgt] <;> first | exact decide_eq_true q2 | simp),bt HB1.out HB3.out⟩
   ·obtain rfl:d = 0:=HD0.out h1
    by_cases h2:i < Z + 1
    ·have hc2:=HWC.out h2
     rw [Nat.zero_add] at hc2
     rcases Nat.lt_trichotomy (0:Nat) v with hlt | heq | hgt
     ·have q1:((0:Int) != (v:Int)) = true:=by simp <;> omega
      have q2:¬ (v:Int) < (0:Int):=by omega
      have q3:decide ((v:Int) < (0:Int)) = false:=decide_eq_false q2
      go_wp2
      go_ret
      exact ⟨c6q (by rw [HLT.out hlt] <;> first | exact decide_eq_true q2 | simp),bt HB1.out HB3.out⟩
     ·have q1:((0:Int) != (v:Int)) = false:=by simp <;> omega
      have HNY:=hJ_ (HNX.out heq)
      clear heq
      go_wp2
      go_round
      case rel => exact ⟨i,by omega,rfl,HNY⟩
      case measure => simp [intOf] <;> omega
     ·exact absurd hgt (by omega)
    ·obtain rfl:v = 0:=HV0.out h2
     go_wp2
     go_round
     case rel => exact ⟨i,by omega,rfl,hJ_ (HNX.out rfl)⟩
     case measure => simp [intOf] <;> omega
theorem d5x {k:IntKind} {a b:Int} (h:a = b):Ending.returned (.int k a) = .returned (.int k b):=by rw [h]
set_option maxHeartbeats 2000000 in
theorem a9j (p N r:Nat) (hp:p < 65536) (hN:N ≤ 3) (hN1:0 < N) (h1:r ^ N ≤ p * 65536 ^ (2 * N)) (h2:p * 65536 ^ (2 * N) < (r + 1) ^ N) (h3:p * 65536 ^ (2 * N) < 68719476736 ^ N) (w:World) :
 Calls Tryz.prog 90 #[.int .u64 (p:Nat),.int .i64 (N:Nat)] w fun e w' => e = .returned (.int .u32 ((r % 4294967296:Nat):Int)) ∧ Below w.heap.size w w':=by
 have HP:=hJ_ hp
 have HN:=hJ_ hN
 obtain ⟨P,hP⟩:∃ P,P = p * 65536 ^ (2 * N):=⟨_,rfl⟩
 have HAB:=hJ_ (fun (x:Nat) (hx:x < 281474976710656) (W:World) => c4o x p N hx hp hN W)
 rw [← hP] at h1 h2 h3
 simp only [← hP] at HAB
 have H1:=hJ_ h1
 have H2:=hJ_ h2
 have H3:=hJ_ h3
 clear h1 h2 h3 hP hp hN
 go_enter Tryz.func90,Tryz.ntmps90
 go_wp2_with fail
 go_loopw [5,6] (fun X q V => ∃ (j y:Nat),j ≤ 36 ∧ q = .int .i64 ((j:Int) - 1) ∧ X = .int .u64 (y:Nat) ∧ y ^ N ≤ P ∧ P < (y + 2 ^ j) ^ N ∧ y + 2 ^ j ≤ 68719476736 ∧ Below w.heap.size w V) (fun _ q _ => (intOf q + 1).toNat)
 case atStart => exact ⟨36,0,by omega,rfl,rfl,by rw [Nat.zero_pow hN1];omega,by rw [Nat.zero_add];exact H3.out,by decide,Below.refl _ _⟩
 case round =>
  obtain ⟨j,y,hj,rfl,rfl,h1,h2,h3,hb⟩:=hrel
  rename World => V
  have K1:=hJ_ h1
  have K2:=hJ_ h2
  have K3:=hJ_ h3
  have KB:=hJ_ hb
  clear h1 h2 h3 hb
  rcases Nat.eq_zero_or_pos j with h0 | h0
  ·subst h0
   have HU:=hJ_ (c4f hN1 K1.out (by simpa using K2.out) H1.out H2.out)
   obtain rfl:y = r:=HU.out
   have q:y < 68719476736:=by have:=K3.out;simp at this;omega
   go_wp2
   go_ret
   exact ⟨d5x (by first | rfl | omega),KB.out⟩
  ·obtain ⟨i,rfl⟩:∃ i,j = i + 1:=⟨j - 1,by omega⟩
   have ej:((i + 1:Nat):Int) - 1 = (i:Int):=by omega
   rw [ej]
   clear ej
   have hi35:i ≤ 35:=by omega
   obtain ⟨B,hB⟩:∃ B,B = 2 ^ i:=⟨_,rfl⟩
   have hB1:B ≤ 34359738368:=by rw [hB];exact Nat.le_trans (Nat.pow_le_pow_right (by omega) hi35) (by decide)
   have hBw:IntKind.u64.wrap (2 ^ i) = (B:Int):=by rw [show (2:Int) ^ i = (B:Int) by rw [hB];simp,IntKind.wrap_u64];omega
   have hB2:2 ^ (i + 1) = B + B:=by rw [Nat.pow_succ,← hB];omega
   have K4:=hJ_ (show y + (B + B) ≤ 68719476736 by rw [← hB2];exact K3.out)
   have K5:=hJ_ (show P < (y + (B + B)) ^ N by rw [← hB2];exact K2.out)
   have HBB:=hJ_ hB
   have hyB:y + B ≤ 68719476736:=by have:=K4.out;omega
   have HAC:=hJ_ (show ∀ W:World,Calls Tryz.prog 111 #[.int .u64 ((y:Int) + (B:Int)),.int .u64 (p:Nat),.int .i64 (N:Nat)] W fun e w' => e = .returned (.bool (decide (P < (y + B) ^ N))) ∧ Below W.heap.size W w' from
    fun W => by rw [← Int.natCast_add];exact HAB.out (y + B) (by omega) W)
   clear hB hB2
   by_cases hgt:P < (y + B) ^ N
   ·rw [decide_eq_true hgt] at HAC
    have HG:=hJ_ hgt
    clear hgt
    go_wp2_with (go_at_call 111;go_loud ((with_reducible refine (HAC.out V).mono ?_);rintro e V2 ⟨rfl,hb⟩;have HB2:=hJ_ hb;clear hb))
    clear hBw
    go_roundw
    case rel => exact ⟨i,y,by omega,rfl,rfl,K1.out,by rw [← HBB.out];exact HG.out,by rw [← HBB.out];exact hyB,bt KB.out HB2.out⟩
    case measure => simp [intOf] <;> omega
   ·rw [decide_eq_false hgt] at HAC
    have HG:=hJ_ (show (y + B) ^ N ≤ P by omega)
    clear hgt
    go_wp2_with (go_at_call 111;go_loud ((with_reducible refine (HAC.out V).mono ?_);rintro e V2 ⟨rfl,hb⟩;have HB2:=hJ_ hb;clear hb))
    clear hBw
    go_roundw
    case rel => exact ⟨i,y + B,by omega,rfl,by go_num,HG.out,by rw [← HBB.out,Nat.add_assoc];exact K5.out,by rw [← HBB.out,Nat.add_assoc];exact K4.out,bt KB.out HB2.out⟩
    case measure => simp [intOf] <;> omega
set_option maxHeartbeats 2000000 in
theorem c6j (w:World):Calls Tryz.prog 89 #[.int .i64 64] w fun e w' => ∃ g c,e = .returned (.slice (some ⟨g,0,none⟩) 64 c) ∧ A64 w' (some ⟨g,0,none⟩) 64 c p64 ∧ w.heap.size ≤ g ∧ Below w.heap.size w w':=by
 obtain ⟨i6,hi,hz0,hz1,hz2⟩:=info_parts c1b
 have HI:=hJ_ hi
 have HZ0:=hJ_ hz0
 have HZ1:=hJ_ hz1
 have HZ2:=hJ_ hz2
 have HE:=hJ_ (b2n w 90)
 have HBE:=hJ_ (show Below w.heap.size w (w.alloc (.cells #[] 90)) from (Below.refl _ _).alloc (Nat.le_refl _) _)
 clear hi hz0 hz1 hz2
 go_enter Tryz.func89,Tryz.ntmps89
 go_wp2_with fail
 go_loopw [3,4] (fun out q V => ∃ (k:Nat) (g c:Nat),k ≤ 310 ∧ q = .int .u64 ((k + 2:Nat):Int) ∧ out = .slice (some ⟨g,0,none⟩) (ps k).length c ∧ V.ownsRow w.heap.size 90 1 (.slice (some ⟨g,0,none⟩) (ps k).length c) (ps k).length (v64 (ps k)) ∧ Below w.heap.size w V) (fun _ q _ => 400 - (intOf q).toNat)
 case atStart => exact ⟨0,_,_,by omega,rfl,rfl,HE.out,HBE.out⟩
 case round =>
  obtain ⟨k,g,c,hk,rfl,rfl,h1,h2⟩:=hrel
  rename World => V
  have HO:=hJ_ h1
  have HB:=hJ_ h2
  clear h1 h2 HE HBE
  by_cases hlt:k ≤ 309
  ·have HLN:=hJ_ (e3m hlt)
   have HNX:=hJ_ (show ps (k + 1) = pq (ps k) (k + 2) from rfl)
   have HMM:=hJ_ (c9h k)
   obtain ⟨S,hS⟩:∃ S,S = ps k:=⟨_,rfl⟩
   rw [← hS] at HO HLN HNX HMM ⊢
   obtain ⟨L,hL⟩:∃ L,L = S.length:=⟨_,rfl⟩
   rw [← hL] at HO HLN ⊢
   have hL64:L < 64:=HLN.out
   have HL:=hJ_ hL
   have HA:=hJ_ (c5z HO.out)
   clear hS hL
   go_wp2_with fail
   go_loop [5,17] (fun is q => ∃ (i:Nat),i ≤ L ∧ q = .int .i64 (i:Nat) ∧ is = .bool ((S.take i).all (fun q => (k + 2) % q != 0))) (fun _ q => L - (intOf q).toNat)
   case atStart => exact ⟨0,by omega,rfl,by simp⟩
   case round =>
    obtain ⟨i,hi,rfl,rfl⟩:=hrel
    by_cases hil:i < L
    ·obtain ⟨b,off,e,hbl,hcell⟩:=HA.out.at_ hil
     cases e
     rw [Nat.zero_add] at hcell
     have hSi:i < S.length:=by rw [← HL.out];exact hil
     have hqm:=HMM.out S[i] (List.getElem_mem hSi)
     have hgd:S.getD i 0 = S[i]:=by simp [List.getD_eq_getElem?_getD,List.getElem?_eq_getElem hSi]
     have HTK:=hJ_ (show (S.take (i + 1)).all (fun q => (k + 2) % q != 0) = ((S.take i).all (fun q => (k + 2) % q != 0) && ((k + 2) % S[i] != 0)) by
      rw [List.take_succ_eq_append_getElem hSi,List.all_append];simp)
     rw [hgd] at hcell
     obtain ⟨q,hq⟩:∃ q,q = S[i]:=⟨_,rfl⟩
     rw [← hq] at hcell hqm HTK
     obtain ⟨T,hT⟩:∃ T,T = k + 2:=⟨_,rfl⟩
     obtain ⟨D,hD⟩:∃ D,D = T % q:=⟨_,rfl⟩
     have hT1:(T:Int).tmod (q:Int) = (D:Int):=by rw [hD];exact (Int.ofNat_tmod T q).symm
     have hT2:(T:Int) % (q:Int) = (D:Int):=by rw [hD];simp
     have hq0:((q:Int) == 0) = false:=by simp;omega
     have hq1:2 ≤ (q:Int):=by omega
     have hTb:(T:Int) ≤ 400:=by omega
     have hDb:(D:Int) ≤ 400:=by have:=Nat.mod_le T q;omega
     rw [← hT] at HTK ⊢
     rw [← hD] at HTK
     have HT:=hJ_ hT
     obtain ⟨bb,hbb⟩:∃ bb,bb = (S.take i).all (fun q => T % q != 0):=⟨_,rfl⟩
     rw [← hbb] at HTK ⊢
     clear hgd hq hD hbb hqm hT
     cases bb
     ·go_wp2
      go_round
      case rel => exact ⟨i + 1,by omega,by go_num,by rw [HTK.out];rfl⟩
      case measure => simp [intOf] <;> omega
     ·by_cases hD0:D = 0
      ·subst hD0
       go_wp2
       go_round
       case rel => exact ⟨i + 1,by omega,by go_num,by rw [HTK.out];rfl⟩
       case measure => simp [intOf] <;> omega
      ·have hDq:((D:Int) != 0) = true:=by simp <;> omega
       have hDr:(D != 0) = true:=by simp <;> omega
       rw [hDr] at HTK
       clear hDr
       go_wp2
       go_round
       case rel => exact ⟨i + 1,by omega,by go_num,by rw [HTK.out];rfl⟩
       case measure => simp [intOf] <;> omega
    ·obtain rfl:i = L:=by omega
     rw [List.take_of_length_le (by rw [HL.out];exact Nat.le_refl _)]
     unfold pq at HNX
     obtain ⟨bb,hbb⟩:∃ bb,bb = S.all (fun q => (k + 2) % q != 0):=⟨_,rfl⟩
     rw [← hbb] at HNX ⊢
     clear hbb
     cases bb
     ·rw [if_neg (by simp)] at HNX
      have hkk:(k:Int) ≤ 309:=by omega
      go_wp2
      go_roundw
      case rel => exact ⟨k + 1,g,c,by omega,by go_num,by rw [HNX.out,HL.out],by rw [HNX.out,← HL.out];exact HO.out,HB.out⟩
      case measure => simp [intOf] <;> omega
     ·rw [if_pos rfl] at HNX
      have hkk:(k:Int) ≤ 309:=by omega
      have HOA:=hJ_ (HO.out.alloc (.cells #[.int .u64 ((k + 2:Nat):Int)] 90))
      have HCE:=hJ_ (show (V.alloc (.cells #[.int .u64 ((k + 2:Nat):Int)] 90)).cell? ⟨V.heap.size,0,none⟩ = some (.int .u64 ((k + 2:Nat):Int)) by simp)
      have HSZ:=hJ_ (show w.heap.size ≤ (V.alloc (.cells #[.int .u64 ((k + 2:Nat):Int)] 90)).heap.size by have:=HB.out.size;simp;omega)
      have HBA:=hJ_ (show Below w.heap.size w (V.alloc (.cells #[.int .u64 ((k + 2:Nat):Int)] 90)) from HB.out.alloc HB.out.size _)
      have HLS:=hJ_ (show (S ++ [k + 2]).length = i + 1 by rw [List.length_append,← HL.out];rfl)
      go_wp2_with ((with_reducible show wpList _ _ _ (⟨some 33,_,_,_,_,_⟩ :: _) _ _);go_loud (refine a1j (o:=⟨some 33,_,_,_,_,_⟩) rfl (.tmp 30) (.tmp 32) 118 rfl w.heap.size 90 i6 Tryz.underlying118 HI.out HZ0.out HZ1.out HZ2.out (some ⟨g,0,none⟩) i c S rfl HOA.out V.heap.size _ (k + 2) rfl rfl HCE.out (by omega) HSZ.out ?_;intro g3 c3 W3 ho3 hb3))
      have HO3:=hJ_ ho3
      have HB3:=hJ_ (HBA.out.trans hb3)
      clear ho3 hb3
      go_roundw
      case rel => exact ⟨k + 1,g3,c3,by omega,by go_num,by rw [HNX.out,HLS.out],by rw [HNX.out,HLS.out];exact HO3.out,HB3.out⟩
      case measure => simp [intOf] <;> omega
  ·obtain rfl:k = 310:=by omega
   have HO2:=HO.out
   have h64:(ps 310).length = 64:=by rw [d6n];rfl
   rw [h64] at HO2 ⊢
   rw [d6n] at HO2
   have HA:=hJ_ (c5z HO2)
   have HG:=hJ_ (a3g HO2 g rfl)
   clear HO HO2 h64
   go_wp2
   go_ret
   exact ⟨g,c,rfl,HA.out,HG.out,HB.out⟩
end Go.Proofs.YtappfdbmhgifcaaGreatDoor
namespace Go.Proofs.YtappfdbmhgifcaaGreatDoor
open Go.RowKit
def R3:List Nat:=[5411319704,6194414737,7344290767,8215976869,9551921755,10098905585,11043570340,11460697813,12214315672,13195500289,13492127166,14311783875,14809980276,15046980094,15499789991,16133124468,16720292289,16907126662,17444216262,17784676812,17950125167,18429019306,18734950876,19175934170,19734090066,20001703533,20132865992,20390182855,20516441075,20764397895,21588763473,21813078375,22141143685,22248366392,22769593852,22871018771,23170020180,23461497531,23651862830,23931792517,24205322401,24295138891,24734567280,24820601251,24990902297,25075189284,25569408389,26045227120,26200031510,26276752392,26428864332,26653801653,26727943347,27092625994,27306805839,27517677555,27725365998,27793908591,27997534228,28131656200,28198240250,28526537963,28973835255,29099129074]
def R2:List Nat:=[6074000999,7439101573,9603838834,11363415354,14244795007,15485724812,17708603819,18721328409]
def KF (i:Nat):Nat:=R3.getD i 0 % 4294967296
def HF0 (i:Nat):Nat:=R2.getD i 0 % 4294967296
theorem e1z:∀ i,i < 64 → R3.getD i 0 ^ 3 ≤ p64.getD i 0 * 65536 ^ (2 * 3) ∧ p64.getD i 0 * 65536 ^ (2 * 3) < (R3.getD i 0 + 1) ^ 3 ∧ p64.getD i 0 * 65536 ^ (2 * 3) < 68719476736 ^ 3 ∧ p64.getD i 0 < 65536:=by decide +kernel
theorem b9a:∀ i,i < 8 → R2.getD i 0 ^ 2 ≤ p64.getD i 0 * 65536 ^ (2 * 2) ∧ p64.getD i 0 * 65536 ^ (2 * 2) < (R2.getD i 0 + 1) ^ 2 ∧ p64.getD i 0 * 65536 ^ (2 * 2) < 68719476736 ^ 2:=by decide +kernel
theorem e6l (i:Nat):KF i < 4294967296:=Nat.mod_lt _ (by omega)
theorem e3x (i:Nat):HF0 i < 4294967296:=Nat.mod_lt _ (by omega)
def rr (n x:Nat):Nat:=x / 2 ^ n ||| x * 2 ^ (32 - n) % 4294967296
def ad (a b:Nat):Nat:=(a + b) % 4294967296
def sg0 (x:Nat):Nat:=rr 7 x ^^^ rr 18 x ^^^ x / 2 ^ 3
def sg1 (x:Nat):Nat:=rr 17 x ^^^ rr 19 x ^^^ x / 2 ^ 10
def Sg0 (x:Nat):Nat:=rr 2 x ^^^ rr 13 x ^^^ rr 22 x
def Sg1 (x:Nat):Nat:=rr 6 x ^^^ rr 11 x ^^^ rr 25 x
def chf (e f g:Nat):Nat:=(e &&& f) ^^^ ((4294967295 - e) &&& g)
def mjf (a b c:Nat):Nat:=(a &&& b) ^^^ (a &&& c) ^^^ (b &&& c)
theorem a6t {x y:Nat} (h:x < 4294967296) (k:y < 4294967296):x ^^^ y < 4294967296:=Nat.xor_lt_two_pow (n:=32) h k
theorem e8x {x y:Nat} (h:x < 4294967296) (k:y < 4294967296):x ||| y < 4294967296:=Nat.or_lt_two_pow (n:=32) h k
theorem b2t {x y:Nat} (k:y < 4294967296):x &&& y < 4294967296:=Nat.and_lt_two_pow (n:=32) x k
theorem d0e {x:Nat} (h:x < 4294967296) (n:Nat):x / 2 ^ n < 4294967296:=Nat.lt_of_le_of_lt (Nat.div_le_self _ _) h
theorem a2s {x:Nat} (h:x < 4294967296) (n:Nat):rr n x < 4294967296:=e8x (d0e h n) (Nat.mod_lt _ (by omega))
theorem d3a (a b:Nat):ad a b < 4294967296:=Nat.mod_lt _ (by omega)
theorem e6x {x:Nat} (h:x < 4294967296):Sg0 x < 4294967296:=a6t (a6t (a2s h _) (a2s h _)) (a2s h _)
theorem e7d {x:Nat} (h:x < 4294967296):Sg1 x < 4294967296:=a6t (a6t (a2s h _) (a2s h _)) (a2s h _)
def wsL (m:Nat → Nat):Nat → List Nat
 | 0 => []
 | t + 1 => wsL m t ++ [if t < 16 then m t else ad (ad (ad (sg1 ((wsL m t).getD (t - 2) 0)) ((wsL m t).getD (t - 7) 0)) (sg0 ((wsL m t).getD (t - 15) 0))) ((wsL m t).getD (t - 16) 0)]
theorem a3f (m:Nat → Nat):∀ t,(wsL m t).length = t
 | 0 => rfl
 | t + 1 => by rw [wsL,List.length_append,a3f m t];rfl
def ws (m:Nat → Nat) (j:Nat):Nat:=(wsL m (j + 1)).getD j 0
theorem a8a (m:Nat → Nat) {j:Nat}:∀ {t},j < t → (wsL m t).getD j 0 = ws m j
 | 0,h => by omega
 | t + 1,h => by
  by_cases e:j = t
  ·subst e;rfl
  ·rw [wsL,List.getD_eq_getElem?_getD,List.getElem?_append_left (by rw [a3f];omega),← List.getD_eq_getElem?_getD]
   exact a8a m (by omega)
theorem b4t (m:Nat → Nat) {t:Nat} (h:t < 16):ws m t = m t:=by
 unfold ws
 rw [wsL,if_pos h,List.getD_eq_getElem?_getD,List.getElem?_append_right (by rw [a3f];omega),a3f]
 simp
theorem b9d (m:Nat → Nat) {t:Nat} (h:¬ t < 16):ws m t = ad (ad (ad (sg1 (ws m (t - 2))) (ws m (t - 7))) (sg0 (ws m (t - 15)))) (ws m (t - 16)):=by
 rw [ws,wsL,if_neg h,List.getD_eq_getElem?_getD,List.getElem?_append_right (by rw [a3f];omega),a3f,a8a m (by omega),a8a m (by omega),a8a m (by omega),a8a m (by omega)]
 simp
theorem d4i {m:Nat → Nat} (hm:∀ t,m t < 4294967296) (t:Nat):ws m t < 4294967296:=by
 by_cases h:t < 16
 ·rw [b4t m h];exact hm t
 ·rw [b9d m h];exact d3a _ _
def rt1 (v:Nat → Nat) (k w:Nat):Nat:=ad (ad (ad (ad (v 7) (Sg1 (v 4))) (chf (v 4) (v 5) (v 6))) k) w
def rt2 (v:Nat → Nat):Nat:=ad (Sg0 (v 0)) (mjf (v 0) (v 1) (v 2))
def rnd (v:Nat → Nat) (k w:Nat) (i:Nat):Nat:=
 if i = 0 then ad (rt1 v k w) (rt2 v) else if i = 4 then ad (v 3) (rt1 v k w) else v (i - 1)
def comp (h w:Nat → Nat):Nat → Nat → Nat
 | 0 => h
 | t + 1 => rnd (comp h w t) (KF t) (w t)
theorem e6a {v:Nat → Nat} (hv:∀ i,v i < 4294967296) (k w i:Nat):rnd v k w i < 4294967296:=by
 unfold rnd
 split
 ·exact d3a _ _
 ·split
  ·exact d3a _ _
  ·exact hv _
theorem b1b {h:Nat → Nat} (hh:∀ i,h i < 4294967296) (w:Nat → Nat):∀ t i,comp h w t i < 4294967296
 | 0,i => hh i
 | t + 1,i => e6a (b1b hh w t) _ _ i
def b8d (h m:Nat → Nat) (i:Nat):Nat:=ad (h i) (comp h (ws m) 64 i)
def gw (M:List Int) (j:Nat):Nat:=(M.getD j 0).toNat * 16777216 + (M.getD (j + 1) 0).toNat * 65536 + (M.getD (j + 2) 0).toNat * 256 + (M.getD (j + 3) 0).toNat
def mF (M:List Int) (o t:Nat):Nat:=gw M (o + 4 * t)
def hF (M:List Int):Nat → Nat → Nat
 | 0 => HF0
 | j + 1 => b8d (hF M j) (mF M (64 * j))
theorem d1k (M:List Int):∀ j i,hF M j i < 4294967296
 | 0,i => e3x i
 | j + 1,i => d3a _ _
theorem a4h {M:List Int} (hM:a0z M) (j:Nat):(M.getD j 0).toNat < 256:=by
 by_cases hk:j < M.length
 ·have e:M.getD j 0 = M[j]:=by simp [List.getD_eq_getElem?_getD,List.getElem?_eq_getElem hk]
  have:=hM _ (List.getElem_mem hk)
  rw [e];omega
 ·have e:M.getD j 0 = 0:=by simp [List.getD_eq_getElem?_getD,List.getElem?_eq_none (Nat.le_of_not_lt hk)]
  rw [e];simp
theorem e0z {M:List Int} (hM:a0z M) (j:Nat):gw M j < 4294967296:=by
 have h0:=a4h hM j;have h1:=a4h hM (j + 1);have h2:=a4h hM (j + 2);have h3:=a4h hM (j + 3)
 unfold gw;omega
theorem or4 {a b c d:Nat} (ha:a < 256) (hb:b < 256) (hc:c < 256) (hd:d < 256):a * 16777216 ||| b * 65536 ||| c * 256 ||| d = a * 16777216 + b * 65536 + c * 256 + d:=by
 rw [nat_join 24 (a * 16777216) (b * 65536) (by omega) (by omega),nat_join 16 (a * 16777216 + b * 65536) (c * 256) (by omega) (by omega),nat_join 8 (a * 16777216 + b * 65536 + c * 256) d (by omega) (by omega)]
def zc (n:Nat):Nat:=(119 - n % 64) % 64
theorem d6f (n:Nat):(n + 1 + zc n) % 64 = 56:=by unfold zc;omega
theorem e6m {n z:Nat} (h:z < zc n):(n + 1 + z) % 64 ≠ 56:=by unfold zc at h;omega
theorem e0g (n:Nat):zc n < 64:=by unfold zc;omega
def w4 (x:Nat):List Int:=[((x / 2 ^ 24 % 256:Nat):Int),((x / 2 ^ 16 % 256:Nat):Int),((x / 2 ^ 8 % 256:Nat):Int),((x % 256:Nat):Int)]
theorem f0m (x:Nat):a0z (w4 x):=fun y hy => by
 simp only [w4,List.mem_cons,List.not_mem_nil,or_false] at hy
 rcases hy with rfl | rfl | rfl | rfl <;> omega
def w8 (x j:Nat):Int:=((x / 2 ^ (8 * (7 - j)) % 256:Nat):Int)
def w8L (x:Nat):Nat → List Int
 | 0 => []
 | j + 1 => w8L x j ++ [w8 x j]
theorem a8m (x:Nat):∀ j,(w8L x j).length = j
 | 0 => rfl
 | j + 1 => by rw [w8L,List.length_append,a8m x j];rfl
theorem e1i (x:Nat):∀ j,a0z (w8L x j)
 | 0 => fun y hy => by cases hy
 | j + 1 => fun y hy => by
  rcases List.mem_append.1 hy with h | h
  ·exact e1i x j y h
  ·rw [List.mem_singleton.1 h];unfold w8;omega
def b7r (b:List Int):List Int:=b ++ [128] ++ List.replicate (zc b.length) 0 ++ w8L (8 * b.length) 8
theorem e3q {b:List Int} (h:a0z b):a0z (b7r b):=fun y hy => by
 rcases List.mem_append.1 hy with hy | hy
 ·rcases List.mem_append.1 hy with hy | hy
  ·rcases List.mem_append.1 hy with hy | hy
   ·exact h y hy
   ·rw [List.mem_singleton.1 hy];omega
  ·rw [(List.mem_replicate.1 hy).2];omega
 ·exact e1i _ _ y hy
theorem d0m (b:List Int):(b7r b).length = b.length + 1 + zc b.length + 8:=by
 simp [b7r,a8m];omega
theorem d7u (b:List Int):(b7r b).length % 64 = 0:=by rw [d0m];have:=d6f b.length;omega
def b4r (h:Nat → Nat):Nat → List Int
 | 0 => []
 | j + 1 => b4r h j ++ w4 (h j)
theorem b0m (h:Nat → Nat):∀ j,(b4r h j).length = 4 * j
 | 0 => rfl
 | j + 1 => by rw [b4r,List.length_append,b0m h j];simp [w4];omega
theorem b9s (h:Nat → Nat):∀ j,a0z (b4r h j)
 | 0 => fun y hy => by cases hy
 | j + 1 => fun y hy => (List.mem_append.1 hy).elim (b9s h j y) (f0m _ y)
def b3b (b:List Int):List Int:=b4r (hF (b7r b) ((b7r b).length / 64)) 8
theorem b4u (b:List Int):(b3b b).length = 32:=b0m _ 8
theorem c1u (b:List Int):a0z (b3b b):=b9s _ 8
end Go.Proofs.YtappfdbmhgifcaaGreatDoor
namespace Go.Proofs.YtappfdbmhgifcaaGreatDoor
open Go.ChangeShapes Go.WideShapes Go.ChangeAt Go.RowKit
set_option maxHeartbeats 1000000 in
theorem a1x (x n:Nat) (hx:x < 4294967296) (hn:n ≤ 31) (hn1:1 ≤ n) (w:World) :
 Calls Tryz.prog 91 #[.int .u32 (x:Nat),.int .i64 (n:Nat)] w fun e w' => e = .returned (.int .u32 ((rr n x:Nat):Int)) ∧ ∃ j,w' = w.drewN j:=by
 have HX:=hJ_ hx
 have hn2:(n:Int) ≤ 31:=by omega
 have hn3:1 ≤ (n:Int):=by omega
 go_enter Tryz.func91,Tryz.ntmps91
 go_wp2_with fail
 go_quiet (fail)
 go_wp2
 go_ret
 have h:=u32_or_nat (x / 2 ^ n) (x * 2 ^ (32 - n) % 4294967296) (d0e HX.out n) (Nat.mod_lt _ (by omega))
 have e1:((x / 2 ^ n:Nat):Int) = (x:Int) / 2 ^ n:=by rw [Int.natCast_ediv,Int.natCast_pow];rfl
 have e2:((x * 2 ^ (32 - n) % 4294967296:Nat):Int) = (x:Int) * 2 ^ (32 - n) % 4294967296:=by rw [Int.natCast_emod,Int.natCast_mul,Int.natCast_pow];rfl
 rw [e1,e2] at h
 exact ⟨d5x h,_,rfl⟩
end Go.Proofs.YtappfdbmhgifcaaGreatDoor
namespace Go.Proofs.YtappfdbmhgifcaaGreatDoor
open Go.RowKit
def St (v:Nat → Nat) (a b c d e f g h:Nat):Prop:=v 0 = a ∧ v 1 = b ∧ v 2 = c ∧ v 3 = d ∧ v 4 = e ∧ v 5 = f ∧ v 6 = g ∧ v 7 = h
theorem St.next {h0 w:Nat → Nat} {t a b c d e f g h:Nat} (hv:St (comp h0 w t) a b c d e f g h) (k x T A E:Nat) (hk:KF t = k) (hx:w t = x)
 (hT:ad (ad (ad (ad h (Sg1 e)) (chf e f g)) k) x = T) (hA:ad T (ad (Sg0 a) (mjf a b c)) = A) (hE:ad d T = E):St (comp h0 w (t + 1)) A a b c E e f g:=by
 obtain ⟨h0',h1,h2,h3,h4,h5,h6,h7⟩:=hv
 refine ⟨?_,h0',h1,h2,?_,h4,h5,h6⟩
 ·show ad (rt1 (comp h0 w t) (KF t) (w t)) (rt2 (comp h0 w t)) = A
  unfold rt1 rt2
  rw [h0',h1,h2,h4,h5,h6,h7,hk,hx,hT,hA]
 ·show ad (comp h0 w t 3) (rt1 (comp h0 w t) (KF t) (w t)) = E
  unfold rt1
  rw [h3,h4,h5,h6,h7,hk,hx,hT,hE]
end Go.Proofs.YtappfdbmhgifcaaGreatDoor
