/- Texts of mine, one behind the other: Q3. -/
import Derived.Test.YtappfdbmhgifcaaGreatDoorZR10
import Derived.Test.YtappfdbmhgifcaaGreatDoorZR11
set_option linter.unusedVariables false
set_option linter.unusedSimpArgs false
set_option maxRecDepth 100000
namespace Go.Proofs.YtappfdbmhgifcaaGreatDoor
open Go.ChangeShapes Go.WideShapes Go.ChangeAt Go.RowKit Go.Shelf GF
def rw_ (M:List (List GF)) (i:Nat):List GF:=M.getD i []
def RV (w:World) (ok:Nat → Prop) (vs:List Value) (M:List (List GF)):Prop:=
 vs.length = M.length ∧ ∀ i,i < M.length → ∃ a c,vs[i]? = some (.slice a (rw_ M i).length c) ∧ (rw_ M i).length ≤ c ∧ c ≤ maxLen ∧ (a = none → c = 0) ∧
  (0 < (rw_ M i).length → ∃ b off,a = some ⟨b,off,none⟩ ∧ b < w.heap.size ∧ ok b ∧ ∀ j,j < (rw_ M i).length → w.cell? ⟨b,off + j,none⟩ = some (.int .u8 (toI (co (rw_ M i) j))))
theorem RV.keep {w w':World} {ok ok':Nat → Prop} {vs:List Value} {M:List (List GF)} (h:RV w ok vs M) (hs:w.heap.size ≤ w'.heap.size) (hk:∀ b,b < w.heap.size → ok b → ok' b ∧ w'.heap[b]? = w.heap[b]?):RV w' ok' vs M:=by
 refine ⟨h.1,fun i hi => ?_⟩
 obtain ⟨a,c,h1,h2,h3,h4,h5⟩:=h.2 i hi
 refine ⟨a,c,h1,h2,h3,h4,fun h0 => ?_⟩
 obtain ⟨b,off,e,hb,ho,hc⟩:=h5 h0
 obtain ⟨k1,k2⟩:=hk b hb ho
 exact ⟨b,off,e,by omega,k1,fun j hj => by rw [World.cell?_of_block (w:=w) (a:=⟨b,off + j,none⟩) k2];exact hc j hj⟩
theorem RV.nil (w:World) (ok:Nat → Prop):RV w ok [] []:=⟨rfl,fun i hi => absurd hi (by simp)⟩
theorem RV.pa {w:World} {ok:Nat → Prop} {vs:List Value} {M:List (List GF)} (h:RV w ok vs M) {i:Nat} (hi:i < M.length):∃ a c,vs[i]? = some (.slice a (rw_ M i).length c) ∧ Pa w a (rw_ M i).length c (rw_ M i):=by
 obtain ⟨a,c,h1,h2,h3,h4,h5⟩:=h.2 i hi
 refine ⟨a,c,h1,⟨⟨a0a _,a1e _,fun h0 => ?_,h2,h3⟩,h4⟩⟩
 rw [a0a] at h0
 obtain ⟨b,off,e,hb,_,hc⟩:=h5 h0
 exact ⟨b,off,e,hb,fun j hj => by rw [a0a] at hj;rw [a0k];exact hc j hj⟩
theorem RV.more {w:World} {ok:Nat → Prop} {vs:List Value} {M:List (List GF)} (h:RV w ok vs M) {a:Option Addr} {c:Nat} {P:List GF} (hp:Pa w a P.length c P) (ho:∀ b off,a = some ⟨b,off,none⟩ → 0 < P.length → ok b):RV w ok (vs ++ [.slice a P.length c]) (M ++ [P]):=by
 refine ⟨by simp [h.1],fun i hi => ?_⟩
 by_cases e:i < M.length
 ·have e1:rw_ (M ++ [P]) i = rw_ M i:=by unfold rw_;simp only [List.getD_eq_getElem?_getD];rw [List.getElem?_append_left e]
  rw [e1,List.getElem?_append_left (by rw [h.1];exact e)]
  exact h.2 i e
 ·have e0:i = M.length:=by simp at hi;omega
  have e1:rw_ (M ++ [P]) i = P:=by unfold rw_;simp only [List.getD_eq_getElem?_getD];rw [e0,List.getElem?_append_right (Nat.le_refl _),Nat.sub_self];rfl
  rw [e1,e0,← h.1,List.getElem?_append_right (Nat.le_refl _),Nat.sub_self]
  refine ⟨a,c,rfl,hp.1.2.2.2.1,hp.1.2.2.2.2,hp.2,fun h0 => ?_⟩
  obtain ⟨b,off,e,hb,hc⟩:=hp.1.2.2.1 (by rw [a0a];exact h0)
  exact ⟨b,off,e,hb,ho b off e h0,fun j hj => by have:=hc j (by rw [a0a];exact hj);rwa [a0k] at this⟩
def Mat (w:World) (a:Option Addr) (n c:Nat) (M:List (List GF)):Prop:=
 M.length = n ∧ n ≤ c ∧ c ≤ maxLen ∧ (a = none → c = 0) ∧ ∃ vs,RV w (fun _ => True) vs M ∧ (0 < n → ∃ b off,a = some ⟨b,off,none⟩ ∧ b < w.heap.size ∧ ∀ i,i < n → w.cell? ⟨b,off + i,none⟩ = vs[i]?)
theorem Mat.on {w w':World} {a:Option Addr} {n c:Nat} {M:List (List GF)} (h:Mat w a n c M) (hb:Below w.heap.size w w'):Mat w' a n c M:=by
 obtain ⟨h1,h2,h3,h4,vs,h5,h6⟩:=h
 refine ⟨h1,h2,h3,h4,vs,h5.keep hb.size (fun b hlt _ => ⟨trivial,hb.block b hlt⟩),fun h0 => ?_⟩
 obtain ⟨b,off,e,hlt,hc⟩:=h6 h0
 exact ⟨b,off,e,by have:=hb.size;omega,fun i hi => (hb.cell (p:=⟨b,off + i,none⟩) hlt).trans (hc i hi)⟩
theorem Mat.len {w:World} {a:Option Addr} {n c:Nat} {M:List (List GF)} (h:Mat w a n c M):M.length = n:=h.1
theorem Mat.bd {w:World} {a:Option Addr} {n c:Nat} {M:List (List GF)} (h:Mat w a n c M):n ≤ c ∧ c ≤ 9223372036854775807:=⟨h.2.1,by have:=h.2.2.1;unfold maxLen at this;omega⟩
theorem Mat.row {w:World} {a:Option Addr} {n c:Nat} {M:List (List GF)} (h:Mat w a n c M) {i:Nat} (hi:i < n):∃ b off ai ci,a = some ⟨b,off,none⟩ ∧ b < w.heap.size ∧ w.cell? ⟨b,off + i,none⟩ = some (.slice ai (rw_ M i).length ci) ∧ Pa w ai (rw_ M i).length ci (rw_ M i):=by
 obtain ⟨h1,h2,h3,h4,vs,h5,h6⟩:=h
 obtain ⟨b,off,e,hlt,hc⟩:=h6 (by omega)
 obtain ⟨ai,ci,k1,k2⟩:=h5.pa (i:=i) (by omega)
 exact ⟨b,off,ai,ci,e,hlt,by rw [hc i hi,k1],k2⟩
theorem Mat.own {w:World} {base:Nat} {e:TypeId} {v:Value} {n:Nat} {vs:List Value} {ok:Nat → Prop} {M:List (List GF)} (h:w.ownsRow base e 1 v n vs) (hv:RV w ok vs M):∃ a c,v = .slice a n c ∧ Mat w a n c M:=by
 have hl:M.length = n:=by rw [← hv.1,h.1,Nat.mul_one]
 have hv2:RV w (fun _ => True) vs M:=hv.keep (Nat.le_refl _) (fun _ _ _ => ⟨trivial,rfl⟩)
 rcases h.2 with ⟨rfl,rfl⟩ | ⟨g,cap,cur,rfl,hg,hh,hn,hm,hs,ht⟩
 ·exact ⟨none,0,rfl,hl,Nat.le_refl _,Nat.zero_le _,fun _ => rfl,vs,hv2,fun h0 => absurd h0 (by omega)⟩
 ·refine ⟨_,cap,rfl,hl,hn,hm,(fun h => by cases h),vs,hv2,fun h0 => ⟨g,0,rfl,?_,fun i hi => ?_⟩⟩
  ·rcases Nat.lt_or_ge g w.heap.size with hlt | hge
   ·exact hlt
   ·rw [Array.getElem?_eq_none hge] at hh;cases hh
  ·rw [Nat.zero_add];exact h.cellAt i (by omega)
end Go.Proofs.YtappfdbmhgifcaaGreatDoor
namespace Go.Proofs.YtappfdbmhgifcaaGreatDoor
open GF
def dl (t n:Nat) (S M:List GF) (i:Nat):List GF:=co S i :: (List.range (t - 1)).map fun k => co M (k * n + i)
theorem b2o (t n:Nat) (S M:List GF) (i:Nat):co (dl t n S M i) 0 = co S i:=a0c _ _
theorem b4o {t k:Nat} (n:Nat) (S M:List GF) (i:Nat) (h:k + 1 < t):co (dl t n S M i) (k + 1) = co M (k * n + i):=by
 unfold dl
 rw [a0d]
 unfold co
 simp [List.getD_eq_getElem?_getD,show k < t - 1 by omega]
theorem e5t {t:Nat} (n:Nat) (S M:List GF) (i:Nat) (h:1 ≤ t):(dl t n S M i).length = t:=by unfold dl;simp;omega
theorem e7m {t k:Nat} (n:Nat) (S M:List GF) (i:Nat) (h:1 ≤ t) (hk:t ≤ k):co (dl t n S M i) k = 0:=a0w (by rw [e5t n S M i h];exact hk)
def shR (t n:Nat) (S M:List GF) (x:GF):List GF:=(List.range n).map fun i => ev (dl t n S M i) x
theorem a2e (t n:Nat) (S M:List GF) (x:GF):(shR t n S M x).length = n:=by simp [shR]
theorem b2h {t n i:Nat} (S M:List GF) (x:GF) (h:i < n):co (shR t n S M x) i = ev (dl t n S M i) x:=by
 unfold co shR;simp [List.getD_eq_getElem?_getD,h]
theorem c3j (p:List GF):ev p 0 = co p 0:=by
 have h:=a4p p 0 0
 rw [List.drop_zero] at h
 rw [h,zero_mul,GF.add_zero]
def atR (X:List GF) (R:Nat → List GF) (x:GF) (n:Nat):List GF:=(List.range n).map fun i => sm X.length fun k => wt X k x * co (R k) i
theorem b9k (X:List GF) (R:Nat → List GF) (x:GF) (n:Nat):(atR X R x n).length = n:=by simp [atR]
theorem d6l {X:List GF} {R:Nat → List GF} {x:GF} {n i:Nat} (h:i < n):co (atR X R x n) i = sm X.length fun k => wt X k x * co (R k) i:=by
 unfold atR;unfold co;simp [List.getD_eq_getElem?_getD,h]
theorem c5i {t n:Nat} {S:List GF} (M:List GF) (hS:S.length = n):shR t n S M 0 = S:=by
 refine a1i (by rw [a2e,hS]) fun i hi => ?_
 rw [a2e] at hi
 rw [b2h S M 0 hi,c3j,b2o]
def a6z (a b:List GF):List GF:=(List.range a.length).map fun i => co a i + co b i
theorem a4q (a b:List GF):(a6z a b).length = a.length:=by simp [a6z]
theorem a7p {a b:List GF} (h:a.length = b.length) (i:Nat):co (a6z a b) i = co a i + co b i:=by
 by_cases hi:i < a.length
 ·unfold a6z;unfold co;simp [List.getD_eq_getElem?_getD,hi]
 ·rw [a0w (by rw [a4q];omega),a0w (l:=a) (by omega),a0w (l:=b) (by omega),GF.add_zero]
theorem c8a {t n:Nat} {S S' M M':List GF} (h:S.length = S'.length) (hM:M.length = M'.length) (i:Nat) (x:GF):ev (dl t n (a6z S S') (a6z M M') i) x = ev (dl t n S M i) x + ev (dl t n S' M' i) x:=by
 rw [← a3z]
 refine a1z (fun k => ?_) x
 rw [a1g]
 match k with
 | 0 => rw [b2o,b2o,b2o,a7p h]
 | k + 1 =>
  by_cases hk:k + 1 < t
  ·rw [b4o n _ _ i hk,b4o n _ _ i hk,b4o n _ _ i hk,a7p hM]
  ·unfold dl
   rw [a0d,a0d,a0d,a0w (by simp;omega),a0w (by simp;omega),a0w (by simp;omega),GF.add_zero]
theorem e5o {t n:Nat} {S S' M M':List GF} (h:S.length = S'.length) (hM:M.length = M'.length) (x:GF):shR t n (a6z S S') (a6z M M') x = a6z (shR t n S M x) (shR t n S' M' x):=by
 refine a1i (by rw [a4q,a2e,a2e]) fun i hi => ?_
 rw [a2e] at hi
 rw [a7p (by rw [a2e,a2e]),b2h _ _ x hi,b2h _ _ x hi,b2h _ _ x hi,c8a h hM]
def noR (n:Nat):List GF:=List.replicate n 0
theorem a9g (n i:Nat):co (noR n) i = 0:=by
 unfold noR co
 by_cases h:i < n
 ·simp [List.getD_eq_getElem?_getD,h]
 ·simp [List.getD_eq_getElem?_getD,h]
theorem d7w {a:List GF} {n:Nat} (h:a.length = n):a6z a (noR n) = a:=by
 refine a1i (by rw [a4q]) fun i hi => ?_
 rw [a7p (by rw [h];simp [noR]),a9g,GF.add_zero]
def hid (n:Nat) (S O V:List GF) (M:List GF):List GF:=(List.range M.length).map fun j => co M j + GF.inv (co V 0) * (co S (j % n) + co O (j % n)) * co V (j / n + 1)
theorem e5u {t n k i:Nat} (hi:i < n) (hk:k + 1 < t):k * n + i < (t - 1) * n:=by
 have h1:k + 1 ≤ t - 1:=by omega
 have h2:=Nat.mul_le_mul_right n h1
 rw [Nat.add_mul,Nat.one_mul] at h2
 omega
end Go.Proofs.YtappfdbmhgifcaaGreatDoor
namespace Go.Proofs.YtappfdbmhgifcaaGreatDoor
open Go.ChangeShapes Go.WideShapes Go.ChangeAt Go.RowKit Go.Shelf GF
theorem c4b {w:World} {base:Nat} {e:TypeId} {v:Value} {n:Nat} {xs:List Value} (h:w.ownsRow base e 1 v n xs):∀ k,v.ownBlock = some k → base ≤ k:=by
 intro k hk
 rcases h.2 with ⟨rfl,_⟩ | ⟨g,cap,cur,rfl,hg,_⟩
 ·cases hk
 ·have:some g = some k:=hk
  injection this with this
  omega
theorem a1a {P:Program} {w:World} {ops:Array Oper} {rest:List Oper} {o:Oper} {a:Act} {Q:Exit → Act → World → Prop} (hgd:o.guard = none) (s x:Operand) (t:TypeId)
 (ho:o.op = .call { callee:=.builtin .append,args:=#[s,x],argTypes:=#[t,t] })
 (base:Nat) (e:TypeId) (i:TypeInfo) (ht:P.underlying t = some (.slice e)) (hi:P.info? e = some i) (hz:i.zero = some (.int .u8 0)) (hsize:i.size = 1) (hby:i.bytes = 1)
 (v:Value) (n:Nat) (l:List GF) (hs:a.eval s = v) (hown:w.ownsRow base e 1 v n ((iL l).map (Value.int .u8)))
 (c:GF) (T:TypeId) (hx:a.eval x = .slice (some ⟨w.heap.size,0,none⟩) 1 1) (hn:n ≤ 1000000) (hbase:base ≤ w.heap.size)
 (h:∀ g' c' w',w'.ownsRow base e 1 (.slice (some ⟨g',0,none⟩) (n + 1) c') (n + 1) ((iL (l ++ [c])).map (Value.int .u8)) → Below base w w' → wpList P ops Q rest (a.put o.dst (.slice (some ⟨g',0,none⟩) (n + 1) c')) w') :
 wpList P ops Q (o :: rest) a (w.alloc (.cells #[.int .u8 (toI c)] T)):=by
 have hb:Below base w (w.alloc (.cells #[.int .u8 (toI c)] T)):=(Below.refl _ _).alloc hbase _
 refine wpList_append_own _ hgd s x t ho base e i (.int .u8 0) 1 1 ht hi hz hsize hby rfl (by decide) v n ((iL l).map (Value.int .u8)) hs (hown.alloc _) ⟨w.heap.size,0,none⟩ 1 1 ([toI c].map (Value.int .u8)) hx rfl ?_ (ints_oneCell _ _) (by unfold maxLen;omega) (by omega) (by simp;omega) ?_
 ·intro j u hj
  obtain ⟨hj1,rfl⟩:=a1r hj
  have:j = 0:=by simp at hj1;omega
  subst this
  rw [Addr.add_lit,Nat.zero_add]
  simp
 ·intro v' w' h1 h2 _
  obtain ⟨g',c',rfl⟩:∃ g' c',v' = .slice (some ⟨g',0,none⟩) (n + 1) c':=by
   rcases h1.2 with ⟨_,h0⟩ | ⟨g',c',cur,hv,_⟩
   ·omega
   ·exact ⟨g',c',hv⟩
  rw [← List.map_append] at h1
  have e1:iL l ++ [toI c] = iL (l ++ [c]):=by simp [iL]
  rw [e1] at h1
  exact h g' c' w' h1 (hb.grown h2 (by simp;omega) (c4b hown))
theorem d0g (w:World) (base:Nat) (e:TypeId):w.ownsRow base e 1 (.slice none 0 0) 0 ((iL ([]:List GF)).map (Value.int .u8)):=⟨rfl,.inl ⟨rfl,rfl⟩⟩
theorem a6l (w:World) (e:TypeId):(w.alloc (.cells #[] e)).ownsRow w.heap.size e 1 (.slice (some ⟨w.heap.size,0,none⟩) 0 0) 0 ((iL ([]:List GF)).map (Value.int .u8)):=
 World.ownsRow_lit (base:=w.heap.size) (e:=e) (size:=1) w #[] 0 (Nat.le_refl _) (Nat.zero_le _) rfl
theorem d3w (w:World) (e:TypeId) (c:GF):(w.alloc (.cells #[.int .u8 (toI c)] e)).ownsRow w.heap.size e 1 (.slice (some ⟨w.heap.size,0,none⟩) 1 1) 1 ((iL [c]).map (Value.int .u8)):=
 World.ownsRow_lit (base:=w.heap.size) (e:=e) (size:=1) w #[.int .u8 (toI c)] 1 (Nat.le_refl _) (by unfold maxLen;omega) rfl
def shP (t n:Nat) (S M:List GF) (x:GF) (i:Nat):List GF:=(List.range i).map fun j => ev (dl t n S M j) x
theorem d2b (t n:Nat) (S M:List GF) (x:GF) (i:Nat):shP t n S M x (i + 1) = shP t n S M x i ++ [ev (dl t n S M i) x]:=by simp [shP,List.range_succ]
def dlP (n:Nat) (S M:List GF) (i q:Nat):List GF:=co S i :: (List.range q).map fun k => co M (k * n + i)
theorem d1t (n:Nat) (S M:List GF) (i q:Nat):dlP n S M i (q + 1) = dlP n S M i q ++ [co M (q * n + i)]:=by simp [dlP,List.range_succ]
theorem e4z (q n i:Nat) (hq:q ≤ 300) (hn:n ≤ 1000) (hi:i ≤ 1000):∃ A:Nat,A = q * n + i ∧ 0 ≤ (q:Int) * (n:Int) ∧ (q:Int) * (n:Int) ≤ 300000 ∧ (q:Int) * (n:Int) + (i:Int) = (A:Int):=by
 have h1:q * n ≤ 300 * 1000:=Nat.mul_le_mul hq hn
 have h2:(q:Int) * (n:Int) = ((q * n:Nat):Int):=by rw [Int.natCast_mul]
 exact ⟨_,rfl,by omega,by omega,by omega⟩
set_option maxHeartbeats 2000000 in
theorem b5j (a:Option Addr) (L cap i:Nat) (X:List GF) (x:GF) (w:World) (hx:Pa w a L cap X) (hi:i < L) (hL:L ≤ 255) :
 Calls Tryz.prog 92 #[.slice a L cap,.int .i64 (i:Nat),.int .u8 (toI x)] w fun e w' => e = .returned (.int .u8 (toI (wt X i x))) ∧ ∃ q,w' = w.drewN q:=by
 have HX:=hJ_ hx
 have HL:=hJ_ hx.len
 have hqi:(i:Int) < (L:Int):=by omega
 have hqi0:(0:Int) ≤ (i:Int):=by omega
 clear hx
 go_enter Tryz.func92,Tryz.ntmps92
 go_wp2
 go_loopw [11,7] (fun j o wr => ∃ k:Nat,k ≤ L ∧ j = .int .i64 (k:Nat) ∧ o = .int .u8 (toI (wtA X i x k)) ∧ Hid (∃ q,wr = w.drewN q))
  (fun j _ _ => L - (intOf j).toNat)
 case atStart => exact ⟨0,Nat.zero_le _,rfl,rfl,hJ_ ⟨0,rfl⟩⟩
 case round =>
  obtain ⟨k,hk,rfl,rfl,hB⟩:=hrel
  obtain ⟨qz,hqz⟩:=hB.out
  subst hqz
  have hbq:=below_drewN (Below.refl w.heap.size w) qz
  by_cases hlt:k < L
  ·obtain ⟨bx,ox,rfl,hbx,hci⟩:=(HX.out.on hbq).at_ hi
   obtain ⟨bk,ok,he,hbk,hck⟩:=(HX.out.on hbq).at_ hlt
   cases he
   have q2:(k:Int) < (L:Int):=by omega
   have q3:(0:Int) ≤ (k:Int):=by omega
   by_cases e:k = i
   ·have q4:((k:Int) != (i:Int)) = false:=by rw [e];simp
    have HT:=hJ_ (show wtA X i x (k + 1) = wtA X i x k by simp only [wtA];rw [if_pos e])
    clear e
    go_wp2
    go_roundw
    case rel => exact ⟨k + 1,by omega,by go_num,by rw [HT.out],hJ_ ⟨qz,rfl⟩⟩
    case measure => simp [intOf];omega
   ·have q4:((k:Int) != (i:Int)) = true:=by rw [bne_iff_ne];omega
    have HT:=hJ_ (show wtA X i x (k + 1) = wtA X i x k * ((x + co X k) * GF.inv (co X i + co X k)) by simp only [wtA];rw [if_neg e])
    clear e
    clear hbq hB
    generalize hVV:w.drewN qz = V at hci hck ⊢
    have HVV:=hJ_ hVV
    clear hVV
    have hb1:=a3c x (co X k)
    have hb2:=a3c (co X i) (co X k)
    go_wp2_with fail
    go_quiet ((first
     | (go_at_call 110;exact Calls.quiet_of_same ((e4m _ _).mono fun _ _ ⟨he,hw⟩ => ⟨he,hw.symm⟩))
     | (go_at_call 88;exact Calls.quiet_of_same ((c9c _ _ _).mono fun _ _ ⟨he,hw⟩ => ⟨he,hw.symm⟩))))
    go_wp2
    go_roundw
    case rel => exact ⟨k + 1,by omega,by go_num,by rw [HT.out],hJ_ ⟨_,by rw [← HVV.out,World.drewN_drewN]⟩⟩
    case measure => simp [intOf];omega
  ·obtain rfl:L = k:=by omega
   have HT:=hJ_ (show wtA X i x L = wt X i x by unfold wt;rw [HL.out])
   go_wp2
   go_ret
   exact ⟨by rw [← HT.out];rfl,hB.out⟩
def atP (X:List GF) (R:Nat → List GF) (x:GF) (i:Nat):List GF:=(List.range i).map fun j => sm X.length fun k => wt X k x * co (R k) j
theorem d1b (X:List GF) (R:Nat → List GF) (x:GF) (i:Nat):atP X R x (i + 1) = atP X R x i ++ [sm X.length fun k => wt X k x * co (R k) i]:=by simp [atP,List.range_succ]
def gB (P:List GF) (j:Nat):Value:=.int .u8 (toI (co P j))
theorem Blk.pa {w:World} {g n:Nat} {T:TypeId} {P:List GF} (h:Blk w g T n (gB P)) (hl:P.length = n) (hn:n ≤ 1000000):Pa w (some ⟨g,0,none⟩) n n P:=
 ⟨⟨by rw [a0a,hl],a1e _,fun h0 => ⟨g,0,rfl,h.lt,fun i hi => by
  rw [a0a,hl] at hi
  rw [Nat.zero_add,h.cell hi,a0k];rfl⟩,Nat.le_refl _,by unfold maxLen;omega⟩,fun e => by cases e⟩
open Go.Maps in
def d8m (D:DataW Unit) (f:GF → Bool):Prop:=∀ y:GF,D.atKey (c6a y) (.lit (.bool false)) = .lit (.bool (f y))
def d3k (f:GF → Bool) (x y:GF):Bool:=if y.1 = x.1 then true else f y
open Go.Maps in
theorem d8m.put {D:DataW Unit} {f:GF → Bool} (h:d8m D f) (hT:Tidy D) (x:GF):d8m (D.put (c6a x) (.lit (.bool true))) (d3k f x):=by
 intro y
 unfold d3k
 by_cases e:y.1 = x.1
 ·obtain rfl:y = x:=GF.ext e
  rw [atKey_put_same hT.isMap (by trivial),if_pos rfl]
 ·rw [atKey_put_other (b8q (fun h => e (by rw [h]))),h y,if_neg e]
theorem b0y {x:Nat} {p:Nat → Bool}:∀ {l:List Nat},l.Nodup → x ∈ l → p x = false → (l.filter fun j => j == x || p j).length = (l.filter p).length + 1
 | [],_,h,_ => by cases h
 | y :: l,hn,hx,hp => by
  have hn2:=List.nodup_cons.1 hn
  by_cases e:y = x
  ·subst e
   have hl:(l.filter fun j => j == y || p j) = l.filter p:=List.filter_congr fun j hj => by
    have:j ≠ y:=fun h => hn2.1 (by rw [← h];exact hj)
    simp [this]
   simp [List.filter_cons,hp,hl]
  ·have hx2:x ∈ l:=(List.mem_cons.1 hx).resolve_left (fun h => e h.symm)
   have ih:=b0y hn2.2 hx2 hp
   have e2:(y == x) = false:=by simpa using e
   simp only [List.filter_cons,e2,Bool.false_or]
   split
   ·simp [ih]
   ·exact ih
def fN (f:GF → Bool) (j:Nat):Bool:=if h:j < 256 then f ⟨j,h⟩ else false
def cntF (f:GF → Bool):Nat:=((List.range 256).filter (fN f)).length
theorem d4h {f:GF → Bool} {x:GF} (h:f x = false):cntF (d3k f x) = cntF f + 1:=by
 have e:fN (d3k f x) = fun j => j == x.1 || fN f j:=by
  funext j
  unfold fN d3k
  by_cases hj:j < 256
  ·rw [dif_pos hj,dif_pos hj]
   by_cases e:j = x.1
   ·simp [e]
   ·rw [if_neg e]
    have:(j == x.1) = false:=by simpa using e
    rw [this,Bool.false_or]
  ·rw [dif_neg hj,dif_neg hj]
   have:(j == x.1) = false:=by have:=x.2;simp;omega
   rw [this];rfl
 unfold cntF
 rw [e]
 exact b0y List.nodup_range (List.mem_range.2 x.2) (by unfold fN;rw [dif_pos x.2];exact h)
theorem c9i {f:GF → Bool} {x:GF} (h:f x = true):d3k f x = f:=by
 funext y
 unfold d3k
 by_cases e:y.1 = x.1
 ·rw [if_pos e,GF.ext e,h]
 ·rw [if_neg e]
open Go.Maps in
def e3k (D:DataW Unit) (f:GF → Bool):Prop:=(∀ y:GF,has D (c6a y) = f y) ∧ size D ≤ cntF f
open Go.Maps in
theorem e3k.put {D:DataW Unit} {f:GF → Bool} (h:e3k D f) (hT:Tidy D) (x:GF) (d:DataW Unit):e3k (D.put (c6a x) d) (d3k f x):=by
 refine ⟨fun y => ?_,?_⟩
 ·unfold d3k
  by_cases e:y.1 = x.1
  ·obtain rfl:y = x:=GF.ext e
   rw [has_put_same hT.isMap (by trivial) d,if_pos rfl]
  ·rw [has_put_other (b8q (fun h => e (by rw [h]))) d,h.1 y,if_neg e]
 ·rw [size_put hT d,h.1 x]
  cases hf:f x with
  | true => rw [if_pos rfl,c9i hf];exact h.2
  | false => rw [if_neg (by simp),d4h hf];have:=h.2;omega
open Go.Maps in
theorem e3k.none:e3k (.map []) (fun _ => false):=⟨fun y => by simp [has_eq],Nat.zero_le _⟩
def d5p (O:List GF) (n:Nat):Prop:=O.Nodup ∧ (0:GF) ∉ O ∧ O.length ≤ n
theorem d5p.more {O:List GF} {n:Nat} {x:GF} (h:d5p O n) (hx:x ∉ O) (h0:x ≠ 0) (hl:O.length < n):d5p (O ++ [x]) n:=by
 refine ⟨?_,?_,by rw [List.length_append];simp;omega⟩
 ·rw [List.nodup_append]
  refine ⟨h.1,by simp,fun a ha b hb e => ?_⟩
  rw [List.mem_singleton] at hb
  subst hb;subst e
  exact hx ha
 ·intro h1
  rcases List.mem_append.1 h1 with h1 | h1
  ·exact h.2.1 h1
  ·exact h0 (List.mem_singleton.1 h1).symm
def shM (t n:Nat) (S M X:List GF):List (List GF):=X.map fun x => shR t n S M x
theorem a4o (t n:Nat) (S M X:List GF):(shM t n S M X).length = X.length:=by simp [shM]
theorem b4q {t n k:Nat} {S M X:List GF} (h:k < X.length):rw_ (shM t n S M X) k = shR t n S M (co X k):=by
 unfold rw_ shM co
 simp [List.getD_eq_getElem?_getD,h]
def c8l (A B:List (List GF)):List (List GF):=(List.range A.length).map fun k => a6z (rw_ A k) (rw_ B k)
theorem b0d (A B:List (List GF)):(c8l A B).length = A.length:=by simp [c8l]
theorem c1p {A B:List (List GF)} {k:Nat} (h:k < A.length):rw_ (c8l A B) k = a6z (rw_ A k) (rw_ B k):=by
 show List.getD _ _ _ = _
 unfold c8l
 simp [List.getD_eq_getElem?_getD,h]
def a4j (w:World) (B:Nat) (a:Option Addr) (n c:Nat) (M:List (List GF)):Prop:=
 M.length = n ∧ n ≤ c ∧ c ≤ maxLen ∧ (a = none → c = 0) ∧ ∃ vs,RV w (fun b => B ≤ b) vs M ∧ (0 < n → ∃ b off,a = some ⟨b,off,none⟩ ∧ b < w.heap.size ∧ B ≤ b ∧ ∀ i,i < n → w.cell? ⟨b,off + i,none⟩ = vs[i]?)
theorem a4j.mat {w:World} {B:Nat} {a:Option Addr} {n c:Nat} {M:List (List GF)} (h:a4j w B a n c M):Mat w a n c M:=by
 obtain ⟨h1,h2,h3,h4,vs,h5,h6⟩:=h
 refine ⟨h1,h2,h3,h4,vs,h5.keep (Nat.le_refl _) (fun _ _ _ => ⟨trivial,rfl⟩),fun h0 => ?_⟩
 obtain ⟨b,off,e,hb,_,hc⟩:=h6 h0
 exact ⟨b,off,e,hb,hc⟩
theorem a4j.keep {w w':World} {B:Nat} {a:Option Addr} {n c:Nat} {M:List (List GF)} (h:a4j w B a n c M) (hs:w.heap.size ≤ w'.heap.size) (hk:∀ b,b < w.heap.size → B ≤ b → w'.heap[b]? = w.heap[b]?):a4j w' B a n c M:=by
 obtain ⟨h1,h2,h3,h4,vs,h5,h6⟩:=h
 refine ⟨h1,h2,h3,h4,vs,h5.keep hs (fun b hlt hb => ⟨hb,hk b hlt hb⟩),fun h0 => ?_⟩
 obtain ⟨b,off,e,hlt,hB,hc⟩:=h6 h0
 exact ⟨b,off,e,by omega,hB,fun i hi => (World.cell?_of_block (w:=w) (a:=⟨b,off + i,none⟩) (hk b hlt hB)).trans (hc i hi)⟩
theorem a4j.on {w w':World} {B:Nat} {a:Option Addr} {n c:Nat} {M:List (List GF)} (h:a4j w B a n c M) (hb:Below w.heap.size w w'):a4j w' B a n c M:=h.keep hb.size (fun b hlt _ => hb.block b hlt)
theorem a4j.but {w w':World} {B g:Nat} {a:Option Addr} {n c:Nat} {M:List (List GF)} (h:a4j w B a n c M) (hg:w.grownBy w' (some g)) (hlt:g < B):a4j w' B a n c M:=h.keep hg.size (fun b h1 h2 => hg.block b h1 (fun e => by injection e with e;omega))
def e6e:Prop:=∀ (b t n m L:Nat) (aS:Option Addr) (cS:Nat) (S:List GF) (aM:Option Addr) (cM:Nat) (M:List GF) (aX:Option Addr) (cX:Nat) (X:List GF) (w:World),
 Fld w b → Pa w aS n cS S → Pa w aM m cM M → Pa w aX L cX X → 1 ≤ t → t ≤ 255 → m = (t - 1) * n → (∀ k,k < L → co X k ≠ 0) → n ≤ 1000 → L ≤ 255 →
 Calls Tryz.prog 25 #[.pointer (some ⟨b,0,none⟩),.int .i64 (t:Nat),.slice aS n cS,.slice aM m cM,.slice aX L cX] w fun e w' =>
  ∃ a' c',e = .returned (.tuple #[.slice a' L c',.int .i64 0]) ∧ a4j w' w.heap.size a' L c' (shM t n S M X) ∧ Below w.heap.size w w'
def e9x:Prop:=∀ (L:Nat) (aA:Option Addr) (cA:Nat) (A:List (List GF)) (aB:Option Addr) (cB:Nat) (B:List (List GF)) (w:World),
 Mat w aA L cA A → Mat w aB L cB B → (∀ k,k < L → (rw_ A k).length = (rw_ B k).length) → L ≤ 255 → (∀ k,k < L → (rw_ A k).length ≤ 1000) →
 Calls Tryz.prog 76 #[.slice aA L cA,.slice aB L cB] w fun e w' =>
  ∃ a' c',e = .returned (.tuple #[.slice a' L c',.int .i64 0]) ∧ a4j w' w.heap.size a' L c' (c8l A B) ∧ Below w.heap.size w w'
def g1:GF:=toG 1
def g2:GF:=toG 2
def g3:GF:=toG 3
def g5:GF:=toG 5
theorem a2u (w:World) (B i:Nat) (v:Value):w.grownBy (w.setCell ⟨B,i,none⟩ v) (some B):=
 ⟨rfl,rfl,rfl,by simp,fun b hb hn => Below.heap_setCell _ _ _ _ (fun e => hn (by rw [e]))⟩
theorem b9x {w w':World} {g b:Nat} (h:w.grownBy w' (some g)) (hb:b < w.heap.size) (hn:b ≠ g):w'.heap[b]? = w.heap[b]?:=h.block b hb (fun e => hn (by injection e))
theorem Pa.but {w w':World} {a:Option Addr} {L c g:Nat} {P:List GF} (h:Pa w a L c P) (hg:w.grownBy w' (some g)) (hne:∀ b off,a = some ⟨b,off,none⟩ → b ≠ g):Pa w' a L c P:=
 ⟨⟨h.1.1,h.1.2.1,fun h0 => by
  obtain ⟨b,off,e,hb,hc⟩:=h.1.2.2.1 h0
  exact ⟨b,off,e,Nat.lt_of_lt_of_le hb hg.size,fun j hj => (World.cell?_of_block (w:=w) (a:=⟨b,off + j,none⟩) (b9x hg hb (hne b off e))).trans (hc j hj)⟩,h.1.2.2.2⟩,h.2⟩
theorem Fld.but {w w':World} {b g:Nat} (h:Fld w b) (hg:w.grownBy w' (some g)) (hne:b ≠ g):Fld w' b:=by
 have e:=b9x hg h.1 hne
 exact ⟨Nat.lt_of_lt_of_le h.1 hg.size,fun j hj => (World.cell?_of_block (w:=w) (a:=⟨b,j,none⟩) e).trans (h.2.1 j hj),fun j hj => (World.cell?_of_block (w:=w) (a:=⟨b,510 + j,none⟩) e).trans (h.2.2 j hj)⟩
def e2x:Prop:=∀ (b t n m L:Nat) (aM:Option Addr) (cM:Nat) (M:List GF) (aX:Option Addr) (cX:Nat) (X:List GF) (w:World),
 Fld w b → Pa w aM m cM M → Pa w aX L cX X → 1 ≤ t → t ≤ 255 → m = (t - 1) * n → (∀ k,k < L → co X k ≠ 0) → n ≤ 1000 → L ≤ 255 →
 Calls Tryz.prog 75 #[.pointer (some ⟨b,0,none⟩),.int .i64 (t:Nat),.slice aM m cM,.slice aX L cX,.int .i64 (n:Nat)] w fun e w' =>
  ∃ a' c',e = .returned (.tuple #[.slice a' L c',.int .i64 0]) ∧ a4j w' w.heap.size a' L c' (shM t n (noR n) M X) ∧ Below w.heap.size w w'
theorem Pa.drop {w:World} {b o L c:Nat} {P:List GF} (h:Pa w (some ⟨b,o,none⟩) L c P) (k:Nat):Pa w (some ⟨b,o + k,none⟩) (L - k) (c - k) (P.drop k):=by
 have hl:=h.len
 refine ⟨⟨by rw [a0a,List.length_drop,hl],a1e _,fun h0 => ?_,by have:=h.1.2.2.2.1;omega,by have:=h.1.2.2.2.2;omega⟩,fun h => by cases h⟩
 rw [a0a,List.length_drop] at h0
 obtain ⟨b',off,e,hb,hc⟩:=h.1.2.2.1 (by rw [a0a];omega)
 cases e
 refine ⟨b,o + k,rfl,hb,fun i hi => ?_⟩
 rw [a0a,List.length_drop] at hi
 have:=hc (k + i) (by rw [a0a];omega)
 rw [a0k] at this
 rw [a0k,c6l,← this]
 congr 2
 omega
theorem e1u (M:List (List GF)) (k i:Nat):rw_ (M.drop k) i = rw_ M (k + i):=by simp [rw_,List.getD_eq_getElem?_getD]
theorem RV.drop {w:World} {ok:Nat → Prop} {vs:List Value} {M:List (List GF)} (h:RV w ok vs M) (k:Nat):RV w ok (vs.drop k) (M.drop k):=by
 refine ⟨by rw [List.length_drop,List.length_drop,h.1],fun i hi => ?_⟩
 rw [List.length_drop] at hi
 rw [e1u,List.getElem?_drop]
 exact h.2 (k + i) (by omega)
theorem Mat.drop {w:World} {b o n c:Nat} {M:List (List GF)} (h:Mat w (some ⟨b,o,none⟩) n c M) (k:Nat):Mat w (some ⟨b,o + k,none⟩) (n - k) (c - k) (M.drop k):=by
 obtain ⟨h1,h2,h3,h4,vs,h5,h6⟩:=h
 refine ⟨by rw [List.length_drop,h1],by omega,by omega,(fun e => by cases e),vs.drop k,h5.drop k,fun h0 => ?_⟩
 obtain ⟨b',off,e,hb,hc⟩:=h6 (by omega)
 cases e
 refine ⟨b,o + k,rfl,hb,fun i hi => ?_⟩
 rw [List.getElem?_drop,← hc (k + i) (by omega)]
 congr 2
 omega
theorem d3r {t n:Nat} {S M D U:List GF} (hS:S.length = n) (hMD:M.length = D.length) {k:Nat} (hk:k < U.length):rw_ (c8l (shM t n S M U) (shM t n (noR n) D U)) k = shR t n S (a6z M D) (co U k):=by
 rw [c1p (by rw [a4o];exact hk),b4q hk,b4q hk,← e5o (by simp [noR,hS]) hMD,d7w hS]
def e7x:Prop:=∀ (t n:Nat) (w:World),1 ≤ t → t ≤ 255 → n ≤ 1000 →
 Calls Tryz.prog 48 #[.int .i64 (t:Nat),.int .i64 (n:Nat)] w fun e w' => e = .returned (.int .i64 (((t - 1) * n:Nat):Int)) ∧ Below w.heap.size w w'
end Go.Proofs.YtappfdbmhgifcaaGreatDoor
