/- Texts of mine, one behind the other: Vg Ra Rb Rc Rf Ha. -/
import Derived.Test.YtappfdbmhgifcaaGreatDoorZR14
set_option linter.unusedVariables false
set_option linter.unusedSimpArgs false
set_option maxRecDepth 100000
namespace Go.Proofs.YtappfdbmhgifcaaGreatDoor
open Go.ChangeShapes Go.WideShapes Go.ChangeAt Go.RowKit Go.Shelf GF
theorem d8l {n:Int} (h0:-1000 ≤ n) (h1:n ≤ 1000):(Lit.int .i64 n).wf = true:=by
 simp only [Lit.wf,IntKind.min,IntKind.max,IntKind.signed,IntKind.bits,Bool.and_eq_true]
 simp
 omega
theorem b2f {w:World} {n:Nat} (hm:n ≤ maxLen) :
 (w.alloc (.cells (madeCells #[Value.slice none 0 0] n) 22)).ownsRow w.heap.size 22 1 (.slice (some ⟨w.heap.size,0,none⟩) n n) n (List.replicate n (.slice none 0 0)):=by
 have:=World.ownsRow_lit (base:=w.heap.size) (e:=22) (size:=1) w (madeCells #[Value.slice none 0 0] n) n (Nat.le_refl _) hm (by simp [size_madeCells])
 rw [toList_madeCells_one] at this
 exact this
theorem b5i {vs:List Value} {n:Nat} (z v:Value) (h:vs.length < n):(vs ++ List.replicate (n - vs.length) z).set vs.length v = (vs ++ [v]) ++ List.replicate (n - (vs.length + 1)) z:=by
 rw [List.set_append_right _ _ (Nat.le_refl _),Nat.sub_self,show n - vs.length = (n - (vs.length + 1)) + 1 by omega,List.replicate_succ,List.set_cons_zero,List.append_assoc]
 rfl
theorem c0r {t n k:Nat} {S M X:List GF} (h:k < X.length):(shM t n S M X).take (k + 1) = (shM t n S M X).take k ++ [shR t n S M (co X k)]:=by
 refine a4f ?_
 have e:=b4q (t:=t) (n:=n) (S:=S) (M:=M) h
 unfold rw_ at e
 rw [← e]
 simp [List.getD_eq_getElem?_getD,a4o,h]
theorem a4j.ofOwn {w:World} {B g n:Nat} {vs:List Value} {M:List (List GF)} {ok:Nat → Prop} (h:w.ownsRow B 22 1 (.slice (some ⟨g,0,none⟩) n n) n vs) (hv:RV w ok vs M) (hok:∀ b,ok b → B ≤ b):a4j w B (some ⟨g,0,none⟩) n n M:=by
 have hl:M.length = n:=by rw [← hv.1,h.1,Nat.mul_one]
 have hg:=h.lt g rfl
 refine ⟨hl,Nat.le_refl _,?_,(fun e => by cases e),vs,hv.keep (Nat.le_refl _) (fun b _ hb => ⟨hok b hb,rfl⟩),fun h0 => ⟨g,0,rfl,hg.2,hg.1,fun i hi => ?_⟩⟩
 ·rcases h.2 with ⟨e,_⟩ | ⟨g',c,cur,e,_,_,h4,h5,_⟩
  ·cases e
  ·cases e;exact h5
 ·rw [Nat.zero_add];exact h.cellAt i (by omega)
set_option maxHeartbeats 2000000 in
theorem e5v:e6e:=by
 intro b t n m L aS cS S aM cM M aX cX X w hf hS hM hX ht1 ht2 hm hz hn hL
 have HCH:=hJ_ (c8q ⟨b,0,none⟩ t n m aM cM aX L cX X w hX ht1 ht2 hn hz hm hM.bd)
 have HDE:=hJ_ (b2g t n m aS cS S aM cM M w hS hM ht1 ht2 hm hn)
 have HWD:=hJ_ (fun k (hk:k < t) => c7y hS.len hM.len ht1 hm hk)
 have HF:=hJ_ hf
 have HX:=hJ_ hX
 have HXL:=hJ_ hX.len
 have HT:=hJ_ (And.intro ht1 ht2)
 have HN:=hJ_ hn
 have HL:=hJ_ hL
 have hsb:=hS.bd
 have hmb:=hM.bd
 have hxb:=hX.bd
 have hmk:=run_make_row' (P:=Tryz.prog) 28 22 (.slice none 0 0) 24 Tryz.underlying28 b1v rfl .i64 .i64 L (by omega) (by omega)
 clear hf hS hM hX ht1 ht2 hm hz hn hL
 go_enter Tryz.func25,Tryz.ntmps25
 go_wp2_with (first
  | (go_at_call 49;refine HCH.out.mono ?_;rintro e w' ⟨rfl,rfl⟩)
  | (go_at_call 50;refine HDE.out.mono ?_;rintro e w1 ⟨aR,cR,rfl,hmat,hb1⟩;have HMAT:=hJ_ hmat;have HB1:=hJ_ hb1;clear hmat hb1))
 have hO0:Hid ((w1.alloc (.cells (madeCells #[Value.slice none 0 0] L) 22)).ownsRow w1.heap.size 22 1 (.slice (some ⟨w1.heap.size,0,none⟩) L L) L ([] ++ List.replicate (L - ([]:List Value).length) (.slice none 0 0))):=
  hJ_ (b2f (w:=w1) (n:=L) (by unfold maxLen;have:=HL.out;omega))
 have hB0:Hid (Below w1.heap.size w1 (w1.alloc (.cells (madeCells #[Value.slice none 0 0] L) 22))):=hJ_ ((Below.refl _ _).alloc (Nat.le_refl _) _)
 go_loopw [36] (fun j wr => ∃ (i:Nat) (vs:List Value),i ≤ L ∧ vs.length = i ∧ j = .int .i64 (i:Nat) ∧ Hid (wr.ownsRow w1.heap.size 22 1 (.slice (some ⟨w1.heap.size,0,none⟩) L L) L (vs ++ List.replicate (L - vs.length) (.slice none 0 0))) ∧ Hid (RV wr (fun b => w1.heap.size < b) vs ((shM t n S M X).take i)) ∧ Hid (Below w1.heap.size w1 wr))
  (fun j _ => L - (intOf j).toNat)
 case atStart => exact ⟨0,[],Nat.zero_le _,rfl,rfl,hO0,hJ_ (RV.nil _ _),hB0⟩
 case round =>
  obtain ⟨i,vs,hi,hvl,rfl,hO,hV,hB⟩:=hrel
  rename World => w2
  by_cases hlt:i < L
  ·obtain ⟨bx,ox,rfl,hbx,hcx⟩:=(HX.out.on (bt HB1.out hB.out)).at_ hlt
   have qi:(i:Int) < (L:Int):=by omega
   have qi0:(0:Int) ≤ (i:Int):=by omega
   have HVA:=hJ_ (b7h b t n aR cR (dR t n S M) (co X i) w2 (HF.out.below (bt HB1.out hB.out)) (HMAT.out.on hB.out) HWD.out HT.out.1 HT.out.2 HN.out)
   rw [c7j _ HT.out.1] at HVA
   have HVL:=hJ_ hvl
   clear hvl
   have hgs:=(hO.out.lt w1.heap.size rfl).2
   go_wp2_with (go_at_call 51;refine HVA.out.mono ?_;rintro e w3 ⟨aV,cV,rfl,hpv,hnew,hb3⟩;have HPV:=hJ_ hpv;have HNEW:=hJ_ hnew;have HB3:=hJ_ hb3;have HO3:=hJ_ (a0o hO.out hb3);have hfz:=HO3.out.frozenAt i;have hcl:=HO3.out.cellAt i (by have:=HVL.out;simp;omega);rw [List.getElem?_eq_getElem (by have:=HVL.out;simp;omega)] at hcl;clear hpv hnew hb3)
   have hst:=(HO3.out.stored i (.slice aV n cV)).1
   have hsn:=b5i (vs:=vs) (n:=L) (.slice none 0 0) (.slice aV n cV) (by rw [HVL.out];exact hlt)
   rw [HVL.out] at hsn hst
   rw [hsn] at hst
   have hpv:Pa (w3.setCell ⟨w1.heap.size,i,none⟩ (.slice aV n cV)) aV n cV (shR t n S M (co X i)):=HPV.out.but (a2u _ _ _ _) (fun bb off e => by have:=HNEW.out bb off e;omega)
   have hrv:RV (w3.setCell ⟨w1.heap.size,i,none⟩ (.slice aV n cV)) (fun b => w1.heap.size < b) vs ((shM t n S M X).take i):=hV.out.keep (by have:=HB3.out.size;simp;omega) (fun b h1 h2 => ⟨h2,by rw [Below.heap_setCell _ _ _ _ (by show b ≠ w1.heap.size;omega)];exact HB3.out.block b h1⟩)
   have hl:=a2e t n S M (co X i)
   have hmo:=hrv.more (P:=shR t n S M (co X i)) (a:=aV) (c:=cV) (by rw [hl];exact hpv) (fun bb off e _ => by have:=HNEW.out bb off e;omega)
   rw [hl,← c0r (by rw [HXL.out];exact hlt)] at hmo
   have HST:=hJ_ hst;have HMO:=hJ_ hmo
   have HBN:=hJ_ ((hB.out.trans (HB3.out.mono (by omega))).setCell (p:=⟨w1.heap.size,i,none⟩) (Nat.le_refl _) (.slice aV n cV))
   have hl2:(vs ++ [Value.slice aV n cV]).length = i + 1:=by rw [List.length_append,HVL.out];rfl
   clear hst hsn hpv hrv hl hmo
   exact ⟨⟨i + 1,vs ++ [.slice aV n cV],by omega,hl2,by go_num,by rw [hl2];exact HST,HMO,HBN⟩,by simp [intOf];omega⟩
  ·obtain rfl:L = i:=by omega
   have ho:=hO.out
   have hv:=hV.out
   rw [hvl,Nat.sub_self,List.replicate_zero,List.append_nil] at ho
   rw [List.take_of_length_le (by rw [a4o,HXL.out];exact Nat.le_refl _)] at hv
   have HMB:=hJ_ (a4j.ofOwn (a0t ho HB1.out.size) hv (fun b hb => by have:=HB1.out.size;omega))
   have HBF:=hJ_ (bt HB1.out hB.out)
   clear ho hv hvl
   go_wp2
   go_ret2
   exact ⟨_,_,rfl,HMB.out,HBF.out⟩
theorem e1v {L n:Nat} (h0:1 ≤ L) (h1:L ≤ 255) (hn:n ≤ 1000):∃ Q:Int,Int.tdiv 2147483647 (L:Int) = Q ∧ ¬ Q < (n:Int) ∧ 0 ≤ Q ∧ Q ≤ 2147483647:=by
 refine ⟨_,rfl,?_⟩
 rw [Int.tdiv_eq_ediv_of_nonneg (by omega)]
 have h:(8421504:Int) ≤ 2147483647 / (L:Int):=by
  rw [Int.le_ediv_iff_mul_le (by omega)]
  omega
 have h3:(2147483647:Int) / (L:Int) ≤ 2147483647:=Int.ediv_le_self _ (by omega)
 omega
theorem a4j.low {w:World} {B B':Nat} {a:Option Addr} {n c:Nat} {M:List (List GF)} (h:a4j w B a n c M) (hB:B' ≤ B):a4j w B' a n c M:=by
 obtain ⟨k1,k2,k3,k4,vs,k5,k6⟩:=h
 refine ⟨k1,k2,k3,k4,vs,k5.keep (Nat.le_refl _) (fun b _ hb => ⟨Nat.le_trans hB hb,rfl⟩),fun h => ?_⟩
 obtain ⟨b,off,e,h1,h2,h3⟩:=k6 h
 exact ⟨b,off,e,h1,Nat.le_trans hB h2,h3⟩
theorem e3r:e2x:=by
 intro b t n m L aM cM M aX cX X w hf hM hX ht1 ht2 hm hz hn hL
 have HCH:=hJ_ (c8q ⟨b,0,none⟩ t n m aM cM aX L cX X w hX ht1 ht2 hn hz hm hM.bd)
 have hmb:=hM.bd
 have hxb:=hX.bd
 rcases Nat.eq_zero_or_pos L with h0 | h0
 ·have HXL:=hJ_ hX.len
  clear hf hM hX hm hz
  subst h0
  go_enter Tryz.func75,Tryz.ntmps75
  go_wp2_with (go_at_call 49;refine HCH.out.mono ?_;rintro e w' ⟨rfl,rfl⟩)
  go_ret2
  exact ⟨_,_,rfl,⟨by rw [a4o,HXL.out],Nat.le_refl _,Nat.zero_le _,fun _ => rfl,[],by rw [show shM t n (noR n) M X = [] from List.eq_nil_of_length_eq_zero (by rw [a4o,HXL.out])];exact RV.nil _ _,fun h => absurd h (by omega)⟩,Below.refl _ _⟩
 ·obtain ⟨Q,hQ,q1,q2,q3⟩:=e1v h0 hL hn
  have q4:((L:Int) == 0) = false:=by rw [beq_eq_false_iff_ne];omega
  have q5:(1:Int) ≤ (L:Int):=by omega
  have hmk:=run_make_row' (P:=Tryz.prog) 22 5 (.int .u8 0) 1 Tryz.underlying22 info5 rfl .i64 .i64 n (by omega) (by omega)
  have hb1:Below w.heap.size w (w.alloc (.cells (madeCells #[.int .u8 0] n) 5)):=(Below.refl _ _).alloc (Nat.le_refl _) _
  have hno:(List.replicate n (0:Int)) = iL (noR n):=by
   refine a0x (by rw [a0a];simp [noR]) fun i hi => ?_
   rw [a0k,a9g]
   simp at hi
   simp [List.getD_eq_getElem?_getD,hi]
   rfl
  have ho:=a1c (w:=w) (e:=5) (n:=n) (by unfold maxLen;omega)
  rw [hno] at ho
  have HSP:=hJ_ (e5v b t n m L (some ⟨w.heap.size,0,none⟩) n (noR n) aM cM M aX cX X _ (hf.below hb1) (Pa.own2 ho) (hM.on hb1) (hX.on hb1) ht1 ht2 hm hz hn hL)
  have HB1:=hJ_ hb1
  have HN:=hJ_ hn
  clear hf hM hX ht1 ht2 hm hz hb1 hno ho
  go_enter Tryz.func75,Tryz.ntmps75
  go_wp2_with (first
   | (go_at_call 49;refine HCH.out.mono ?_;rintro e w' ⟨rfl,rfl⟩)
   | (go_at_call 25;go_loud (refine HSP.out.mono ?_;rintro e w2 ⟨a2,c2,rfl,hm2,hb2⟩;have HM2:=hJ_ hm2;have HB2:=hJ_ (bt HB1.out hb2);clear hm2 hb2)))
  go_ret2
  exact ⟨_,_,rfl,HM2.out.low (by simp),HB2.out⟩
end Go.Proofs.YtappfdbmhgifcaaGreatDoor
namespace Go.Proofs.YtappfdbmhgifcaaGreatDoor
open GF
def dg (l:List GF):Nat:=(tr l).length
theorem b2s {l:List GF} {n:Nat}:dg l ≤ n ↔ ∀ k,n ≤ k → co l k = 0:=a5d
theorem a8f {l:List GF} {k:Nat} (h:dg l ≤ k):co l k = 0:=b2s.1 (Nat.le_refl _) k h
theorem b3f {l:List GF}:0 < dg l ↔ tr l ≠ []:=by unfold dg;exact List.length_pos_iff
theorem a7s {p q:List GF} (h:∀ k,co p k = co q k):dg p = dg q:=by unfold dg;rw [a9d h]
theorem e3t {l:List GF} (h:0 < dg l):co l (dg l - 1) ≠ 0:=a5r l (b3f.1 h)
theorem c0c {p q:List GF} (hp:0 < dg p) (hq:0 < dg q):dg (a1u p q) + 1 = dg p + dg q:=by
 unfold dg at *
 rw [b7e (b3f.1 hp) (b3f.1 hq),a2p _ _ hp hq]
 omega
theorem c3c {p q:List GF} (hp:0 < dg p) (hq:0 < dg q):0 < dg (a1u p q):=by have:=c0c hp hq;omega
theorem d6b {p q:List GF} (h:dg p < dg q):dg (a5c p q) = dg q:=by
 refine Nat.le_antisymm (b2s.2 fun k hk => ?_) (Nat.le_of_not_lt fun h2 => ?_)
 ·rw [a1g,a8f (l:=p) (by omega),a8f (l:=q) (by omega),GF.add_zero]
 ·have h3:=e3t (l:=q) (by omega)
  have h4:=a8f (l:=a5c p q) (k:=dg q - 1) (by omega)
  rw [a1g,a8f (l:=p) (by omega),GF.zero_add] at h4
  exact h3 h4
theorem c7u {P Q A R:List GF} (h:∀ k,co (a1u A Q) k + co R k = co P k) (hR:dg R < dg Q) (hQ:dg Q ≤ dg P):0 < dg A ∧ dg A + dg Q = dg P + 1:=by
 have h1:dg (a1u A Q) = dg P:=by
  have e:dg (a1u A Q) = dg (a5c R P):=a7s fun k => by rw [a1g,← h k,GF.add_comm (co R k),GF.add_assoc,GF.add_self,GF.add_zero]
  rw [e];exact d6b (by omega)
 have hA:0 < dg A:=by
  rcases Nat.eq_zero_or_pos (dg A) with h0 | h0
  ·have h2:dg (a1u A Q) ≤ 0:=b2s.2 fun k _ => by
    rw [a1q]
    exact a4r fun i _ => by rw [a8f (l:=A) (by omega),GF.zero_mul]
   omega
  ·exact h0
 exact ⟨hA,by have:=c0c hA (show 0 < dg Q by omega);omega⟩
theorem d2a {Q A R p:List GF} (h:∀ k,co (a1u A Q) k + co R k = co (a1u p Q) k) (hR:dg R < dg Q):(∀ k,co A k = co p k) ∧ ∀ k,co R k = 0:=by
 have h1:∀ k,co (a1u (a5c A p) Q) k = co R k:=fun k => by
  have e:co (a1u (a5c A p) Q) k = co (a1u A Q) k + co (a1u p Q) k:=by
   rw [a1q,a1q,a1q,← d6i]
   exact a3v fun i _ => by rw [a1g,GF.add_mul]
  rw [e,← h k,← GF.add_assoc,GF.add_self,GF.zero_add]
 have h2:dg (a5c A p) = 0:=by
  rcases Nat.eq_zero_or_pos (dg (a5c A p)) with h0 | h0
  ·exact h0
  ·have:=c0c h0 (show 0 < dg Q by omega)
   rw [a7s h1] at this
   omega
 have h3:∀ k,co A k = co p k:=fun k => by
  have:=a8f (l:=a5c A p) (k:=k) (by omega)
  rw [a1g] at this
  exact GF.add_eq_zero.1 this
 refine ⟨h3,fun k => ?_⟩
 rw [← h1 k,a1q]
 exact a4r fun i _ => by rw [a8f (l:=a5c A p) (by omega),GF.zero_mul]
def wrL (X Y p:List GF):List Nat:=(List.range X.length).filter fun k => decide (ev p (co X k) ≠ co Y k)
theorem b5g {X Y p:List GF} {k:Nat}:k ∈ wrL X Y p ↔ k < X.length ∧ ev p (co X k) ≠ co Y k:=by
 unfold wrL;rw [List.mem_filter,List.mem_range,decide_eq_true_eq]
theorem c3s (X Y p:List GF):(wrL X Y p).Nodup:=List.nodup_range.sublist List.filter_sublist
theorem b1s {α:Type} (f g:α → Bool):∀ l:List α,l.length ≤ (l.filter f).length + (l.filter g).length + (l.filter fun x => !f x && !g x).length
 | [] => by simp
 | a :: l => by
  have ih:=b1s f g l
  cases hf:f a <;> cases hg:g a <;> simp [hf,hg] <;> omega
theorem a9i {X:List GF} (hX:Apart X) {l:List Nat} (hl:l.Nodup) (hm:∀ k,k ∈ l → k < X.length):(l.map (co X)).Nodup:=by
 refine List.pairwise_map.2 (hl.imp_of_mem fun {a b} ha hb hne e => ?_)
 have h1:=hm a ha
 have h2:=hm b hb
 exact Apart.ne hX h1 h2 hne e
theorem c2h {X Y p q:List GF} {t:Nat} (hX:Apart X) (hp:∀ k,t ≤ k → co p k = 0) (hq:∀ k,t ≤ k → co q k = 0) (h:(wrL X Y p).length + (wrL X Y q).length + t ≤ X.length):∀ k,co p k = co q k:=by
 obtain ⟨l,hl⟩:∃ l,l = (List.range X.length).filter fun x => !(decide (ev p (co X x) ≠ co Y x)) && !(decide (ev q (co X x) ≠ co Y x)):=⟨_,rfl⟩
 have h1:=b1s (fun k => decide (ev p (co X k) ≠ co Y k)) (fun k => decide (ev q (co X k) ≠ co Y k)) (List.range X.length)
 rw [List.length_range,← hl] at h1
 have h2:t ≤ l.length:=by
  have e1:(wrL X Y p).length = ((List.range X.length).filter fun k => decide (ev p (co X k) ≠ co Y k)).length:=rfl
  have e2:(wrL X Y q).length = ((List.range X.length).filter fun k => decide (ev q (co X k) ≠ co Y k)).length:=rfl
  omega
 have hm:∀ k,k ∈ l → k < X.length ∧ ev p (co X k) = co Y k ∧ ev q (co X k) = co Y k:=fun k hk => by
  rw [hl,List.mem_filter,List.mem_range] at hk
  simpa using hk
 refine b5s (n:=t) (xs:=l.map (co X)) hp hq (a9i hX (by rw [hl];exact List.nodup_range.sublist List.filter_sublist) fun k hk => (hm k hk).1) (by rw [List.length_map];exact h2) fun x hx => ?_
 obtain ⟨k,hk,rfl⟩:=List.mem_map.1 hx
 rw [(hm k hk).2.1,(hm k hk).2.2]
def a1p (X Y:List GF) (t e:Nat) (p:List GF):Prop:=tr p = p ∧ p.length ≤ t ∧ (wrL X Y p).length ≤ e ∧ 2 * (wrL X Y p).length + t ≤ X.length
theorem a1p.co {X Y p:List GF} {t e:Nat} (h:a1p X Y t e p) {k:Nat} (hk:t ≤ k):co p k = 0:=a0w (by have:=h.2.1;omega)
theorem a1p.uniq {X Y p q:List GF} {t e e':Nat} (hX:Apart X) (hp:a1p X Y t e p) (hq:a1p X Y t e' q):p = q:=by
 have:=c2h (Y:=Y) hX (fun k hk => hp.co hk) (fun k hk => hq.co hk) (by have:=hp.2.2.2;have:=hq.2.2.2;omega)
 rw [← hp.1,← hq.1];exact a9d this
structure GaoI (X Y:List GF) (t:Nat) (r0 u0 r1 u1:List GF):Prop where
 v0:∀ k,k < X.length → ev r0 (co X k) = ev u0 (co X k) * co Y k
 v1:∀ k,k < X.length → ev r1 (co X k) = ev u1 (co X k) * co Y k
 d:dg u1 + dg r0 = X.length + 2
 du:dg u0 < dg u1
 dr:dg r1 < dg r0
 big:X.length + t + 2 ≤ 2 * dg r0
theorem b2k (X:List GF) (i:Nat):dg (a5z X i) = i + 1:=by unfold dg;rw [c9e,a4k]
theorem d5z:dg [1] = 1:=by
 have h:tr [(1:GF)] = [1]:=a8u (.inr (by show co [(1:GF)] 0 ≠ 0;rw [a0c];exact GF.one_ne))
 unfold dg;rw [h];rfl
theorem d6r (x:GF):ev [1] x = 1:=by
 have h:=a4p [(1:GF)] 0 x
 rw [List.drop_zero,a0c,show ([(1:GF)]).drop (0 + 1) = [] from rfl] at h
 rw [h,show ev [] x = 0 from rfl,GF.mul_zero,GF.add_zero]
theorem d2r {X Y:List GF} {t:Nat} {r0 u0 r1 u1 A R:List GF} (h:GaoI X Y t r0 u0 r1 u1) (hb:X.length + t + 2 ≤ 2 * dg r1) (hA:∀ k,co (a1u A r1) k + co R k = co r0 k) (hR:dg R < dg r1):GaoI X Y t r1 u1 R (a5c u0 (a1u A u1)):=by
 obtain ⟨a1,a2⟩:=c7u hA hR (by have:=h.dr;omega)
 have hu:0 < dg u1:=by have:=h.du;omega
 have hm:=c0c a1 hu
 have hdr:=h.dr
 have hdu:=h.du
 have hd:=h.d
 have hs:dg (a5c u0 (a1u A u1)) = dg (a1u A u1):=d6b (by omega)
 refine ⟨h.v1,fun k hk => ?_,by rw [hs];omega,by rw [hs];omega,hR,hb⟩
 have e:ev R (co X k) = ev r0 (co X k) + ev A (co X k) * ev r1 (co X k):=by
  rw [← a5l,← a3z]
  refine a1z (fun j => ?_) _
  rw [a1g,← hA j,GF.add_comm (co (a1u A r1) j),GF.add_assoc,GF.add_self,GF.add_zero]
 rw [e,h.v0 k hk,h.v1 k hk,a3z,a5l,GF.add_mul,GF.mul_assoc]
theorem c3v {X Y:List GF} {t:Nat} {r0 u0 r1 u1:List GF} (h:GaoI X Y t r0 u0 r1 u1):0 < dg u1 ∧ 2 * dg u1 + t ≤ X.length + 2:=by
 have:=h.du;have:=h.d;have:=h.big;omega
theorem c7p {X Y:List GF} {t:Nat} {r0 u0 r1 u1 p:List GF} (hX:Apart X) (h:GaoI X Y t r0 u0 r1 u1) (hs:2 * dg r1 < X.length + t + 2) (hp:∀ k,t ≤ k → co p k = 0) (hw:2 * (wrL X Y p).length + t ≤ X.length) (ht:1 ≤ t):∀ k,co r1 k = co (a1u p u1) k:=by
 obtain ⟨hu0,hu⟩:=c3v h
 obtain ⟨W,hW⟩:∃ W,W = (wrL X Y p).map (co X):=⟨_,rfl⟩
 have hWl:W.length = (wrL X Y p).length:=by rw [hW,List.length_map]
 obtain ⟨ε,hε⟩:∃ ε,ε = W.length:=⟨_,rfl⟩
 rw [← hWl,← hε] at hw
 obtain ⟨F,hF⟩:∃ F,F = a5c r1 (a1u p u1):=⟨_,rfl⟩
 have hFd:dg F + ε ≤ X.length:=by
  have h1:dg F ≤ max (dg r1) (t + dg u1 - 1):=b2s.2 fun k hk => by
   rw [hF,a1g,a8f (l:=r1) (Nat.le_trans (Nat.le_max_left _ _) hk),a4b (n:=t) (m:=dg u1) hp (fun i hi => a8f hi) (by have:=Nat.le_trans (Nat.le_max_right (dg r1) (t + dg u1 - 1)) hk;omega),GF.add_zero]
  rcases Nat.le_total (dg r1) (t + dg u1 - 1) with h2 | h2
  ·rw [Nat.max_eq_right h2] at h1;omega
  ·rw [Nat.max_eq_left h2] at h1;omega
 have hD0:∀ k,co (a1u F (a5z W ε)) k = 0:=by
  refine roots X.length _ X (fun k hk => a4b (n:=dg F) (m:=ε + 1) (fun i hi => a8f hi) (fun i hi => a8f (by rw [b2k];exact hi)) (by omega)) (Apart.nodup hX) (Nat.le_refl _) fun x hx => ?_
  obtain ⟨k,hk,rfl⟩:=c8s.1 hx
  rw [a5l]
  by_cases hr:ev p (co X k) = co Y k
  ·have:ev F (co X k) = 0:=by rw [hF,a3z,a5l,h.v1 k hk,hr,GF.mul_comm (co Y k),GF.add_self]
   rw [this,GF.zero_mul]
  ·have hm:co X k ∈ W:=by rw [hW];exact List.mem_map.2 ⟨k,b5g.2 ⟨hk,hr⟩,rfl⟩
   obtain ⟨j,hj,e⟩:=c8s.1 hm
   rw [(b9h (xs:=W) (x:=co X k) ε (by omega)).2 ⟨j,by omega,e⟩,GF.mul_zero]
 have hF0:dg F = 0:=by
  rcases Nat.eq_zero_or_pos (dg F) with h0 | h0
  ·exact h0
  ·have h1:=c3c h0 (show 0 < dg (a5z W ε) by rw [b2k];omega)
   have h2:dg (a1u F (a5z W ε)) ≤ 0:=b2s.2 fun k _ => hD0 k
   omega
 intro k
 have:=a8f (l:=F) (k:=k) (by omega)
 rw [hF,a1g] at this
 exact GF.add_eq_zero.1 this
theorem c7b {X Y:List GF} {t:Nat} {r0 u0 r1 u1 p:List GF} (hX:Apart X) (h:GaoI X Y t r0 u0 r1 u1) (he:∀ k,co r1 k = co (a1u p u1) k):2 * (wrL X Y p).length + t ≤ X.length:=by
 obtain ⟨hu0,hu⟩:=c3v h
 have key:(wrL X Y p).length < dg u1:=by
  rcases Nat.lt_or_ge (wrL X Y p).length (dg u1) with h1 | h1
  ·exact h1
  ·have hz:=roots (dg u1) u1 ((wrL X Y p).map (co X)) (fun k hk => a8f hk) (a9i hX (c3s _ _ _) fun k hk => (b5g.1 hk).1) (by rw [List.length_map];exact h1) fun x hx => by
    obtain ⟨k,hk,rfl⟩:=List.mem_map.1 hx
    obtain ⟨h2,h3⟩:=b5g.1 hk
    have h4:=h.v1 k h2
    rw [a1z he,a5l,GF.mul_comm] at h4
    have h5:ev u1 (co X k) * (ev p (co X k) + co Y k) = 0:=by rw [GF.mul_add,h4,GF.add_self]
    exact (GF.mul_eq_zero h5).resolve_right fun h6 => h3 (GF.add_eq_zero.1 h6)
   have:dg u1 ≤ 0:=b2s.2 fun k _ => hz k
   omega
 omega
theorem b7w {X Y:List GF} {t e:Nat} {r0 u0 r1 u1 A R:List GF} (hX:Apart X) (h:GaoI X Y t r0 u0 r1 u1) (hs:2 * dg r1 < X.length + t + 2) (ht:1 ≤ t) (hA:∀ k,co (a1u A u1) k + co R k = co r1 k) (hR:dg R < dg u1) (hAt:tr A = A) :
 (tr R = [] ∧ A.length ≤ t ∧ (wrL X Y A).length ≤ e → a1p X Y t e A) ∧ ∀ p,a1p X Y t e p → p = A ∧ tr R = [] ∧ A.length ≤ t ∧ (wrL X Y A).length ≤ e:=by
 refine ⟨fun ⟨h1,h2,h3⟩ => ⟨hAt,h2,h3,c7b hX h fun k => ?_⟩,fun p hp => ?_⟩
 ·rw [← hA k,b3e.1 h1 k,GF.add_zero]
 ·have h1:=c7p hX h hs (fun k hk => hp.co hk) hp.2.2.2 ht
  obtain ⟨h2,h3⟩:=d2a (fun k => (hA k).trans (h1 k)) hR
  have e:p = A:=by rw [← hp.1,← hAt];exact (a9d h2).symm
  subst e
  exact ⟨rfl,b3e.2 h3,hp.2.1,hp.2.2.1⟩
end Go.Proofs.YtappfdbmhgifcaaGreatDoor
namespace Go.Proofs.YtappfdbmhgifcaaGreatDoor
open Go.ChangeShapes Go.WideShapes Go.ChangeAt Go.RowKit Go.Shelf GF
noncomputable def a5t (X:List GF) (K:Nat) (t e:Int):Int:=if X.length ≠ K then 1 else if t < 1 ∨ 255 < t ∨ e < 0 then 2 else if (X.length:Int) < t then 5 else a3a X
theorem b9q {X:List GF} {K:Nat} {t e:Int}:a5t X K t e = 0 ↔ X.length = K ∧ 1 ≤ t ∧ t ≤ 255 ∧ 0 ≤ e ∧ t ≤ X.length ∧ a3a X = 0:=by
 unfold a5t
 by_cases h1:X.length ≠ K
 ·rw [if_pos h1];exact ⟨fun h => absurd h (by decide),fun h => absurd h.1 h1⟩
 ·rw [if_neg h1]
  by_cases h2:t < 1 ∨ 255 < t ∨ e < 0
  ·rw [if_pos h2];exact ⟨fun h => absurd h (by decide),fun h => by omega⟩
  ·rw [if_neg h2]
   by_cases h3:(X.length:Int) < t
   ·rw [if_pos h3];exact ⟨fun h => absurd h (by decide),fun h => by omega⟩
   ·rw [if_neg h3];exact ⟨fun h => ⟨by omega,by omega,by omega,by omega,by omega,h⟩,fun h => h.2.2.2.2.2⟩
theorem f0h (w:World) (c:Array Value) (P:List GF) (n:Nat) (h:c.toList = (iL P).map (Value.int .u8)) (hc:c.size = n) (hm:n ≤ maxLen):Pa (w.alloc (.cells c 5)) (some ⟨w.heap.size,0,none⟩) n n P:=by
 refine Pa.own2 (base:=w.heap.size) (e:=5) ?_
 rw [← h]
 exact World.ownsRow_lit (base:=w.heap.size) (e:=5) (size:=1) w c n (Nat.le_refl _) hm (by rw [hc,Nat.mul_one])
def zl (l:List Nat):List Int:=l.map fun (x:Nat) => (x:Int)
theorem b6g (l:List Nat):(zl l).length = l.length:=by simp [zl]
theorem e5z (l:List Nat) (i:Nat):(zl l).getD i 0 = ((l.getD i 0:Nat):Int):=by
 unfold zl
 by_cases h:i < l.length
 ·simp [List.getD_eq_getElem?_getD,h]
 ·simp [List.getD_eq_getElem?_getD,List.getElem?_eq_none (Nat.le_of_not_lt h)]
theorem e3l (l m:List Nat):zl (l ++ m) = zl l ++ zl m:=by simp [zl]
def TyI (w:World) (b:Nat):Prop:=∃ cur fz,w.heap[b]? = some (.cells cur 3 fz)
def rwI (M:List (List Nat)) (i:Nat):List Nat:=M.getD i []
def IVr (w:World) (B:Nat) (vs:List Value) (M:List (List Nat)):Prop:=
 vs.length = M.length ∧ ∀ i,i < M.length → ∃ a c,vs[i]? = some (.slice a (rwI M i).length c) ∧ (rwI M i).length ≤ c ∧ c ≤ maxLen ∧ (a = none → c = 0) ∧
  (0 < (rwI M i).length → ∃ b off,a = some ⟨b,off,none⟩ ∧ b < w.heap.size ∧ B ≤ b ∧ TyI w b ∧ ∀ j,j < (rwI M i).length → w.cell? ⟨b,off + j,none⟩ = some (.int .i64 ((zl (rwI M i)).getD j 0)))
theorem IVr.keep {w w':World} {B:Nat} {vs:List Value} {M:List (List Nat)} (h:IVr w B vs M) (hs:w.heap.size ≤ w'.heap.size) (hk:∀ b,b < w.heap.size → B ≤ b → TyI w b → w'.heap[b]? = w.heap[b]?):IVr w' B vs M:=by
 refine ⟨h.1,fun i hi => ?_⟩
 obtain ⟨a,c,h1,h2,h3,h4,h5⟩:=h.2 i hi
 refine ⟨a,c,h1,h2,h3,h4,fun h0 => ?_⟩
 obtain ⟨b,off,e,hb,hB,ht,hc⟩:=h5 h0
 have k:=hk b hb hB ht
 obtain ⟨cur,fz,e2⟩:=ht
 exact ⟨b,off,e,by omega,hB,⟨cur,fz,k.trans e2⟩,fun j hj => by rw [World.cell?_of_block (w:=w) (a:=⟨b,off + j,none⟩) k];exact hc j hj⟩
theorem IVr.on {w w':World} {B:Nat} {vs:List Value} {M:List (List Nat)} (h:IVr w B vs M) (hb:Below w.heap.size w w'):IVr w' B vs M:=h.keep hb.size fun b hlt _ _ => hb.block b hlt
theorem IVr.nil (w:World) (B:Nat):IVr w B [] []:=⟨rfl,fun i hi => absurd hi (by simp)⟩
theorem IVr.grown {w w':World} {B:Nat} {vs:List Value} {M:List (List Nat)} (h:IVr w B vs M) {base s n:Nat} {e:TypeId} {v:Value} {ys:List Value} (h2:w.ownsRow base e s v n ys) (hne:3 ≠ e) (hg:w.grownBy w' v.ownBlock):IVr w' B vs M:=
 h.keep hg.size fun b hlt _ ⟨cur,fz,hh⟩ => hg.block b hlt (fun e' => by
  rcases h2.2 with ⟨rfl,_⟩ | ⟨g2,c2,cur2,rfl,_,hh2,_⟩
  ·cases e'
  ·have e3:b = g2:=by
    have:some b = some g2:=e'
    injection this
   subst e3
   rw [hh] at hh2
   injection hh2 with h3
   injection h3 with _ h4 _
   exact hne h4)
theorem IVr.more {w:World} {B B':Nat} {vs:List Value} {M:List (List Nat)} (h:IVr w B vs M) {v:Value} {n:Nat} {l:List Nat} (ho:w.ownsRow B' 3 1 v n ((zl l).map (Value.int .i64))) (hB:B ≤ B'):IVr w B (vs ++ [v]) (M ++ [l]):=by
 have hl:l.length = n:=by have:=ho.1;rw [List.length_map,b6g,Nat.mul_one] at this;exact this
 refine ⟨by simp [h.1],fun i hi => ?_⟩
 by_cases e:i < M.length
 ·have e1:rwI (M ++ [l]) i = rwI M i:=by unfold rwI;simp only [List.getD_eq_getElem?_getD];rw [List.getElem?_append_left e]
  rw [e1,List.getElem?_append_left (by rw [h.1];exact e)]
  exact h.2 i e
 ·have e0:i = M.length:=by simp at hi;omega
  have e1:rwI (M ++ [l]) i = l:=by unfold rwI;simp only [List.getD_eq_getElem?_getD];rw [e0,List.getElem?_append_right (Nat.le_refl _),Nat.sub_self];rfl
  rw [e1,e0,← h.1,List.getElem?_append_right (Nat.le_refl _),Nat.sub_self]
  rcases ho.2 with ⟨rfl,h0⟩ | ⟨g,cap,cur,rfl,hg,hh,h4,h5,_⟩
  ·exact ⟨none,0,by rw [hl,h0];rfl,by omega,Nat.zero_le _,fun _ => rfl,fun h1 => absurd h1 (by omega)⟩
  ·refine ⟨_,cap,by rw [hl];rfl,by omega,h5,(fun e => by cases e),fun h1 => ⟨g,0,rfl,(Array.getElem?_eq_some_iff.1 hh).1,Nat.le_trans hB hg,⟨cur,_,hh⟩,fun j hj => ?_⟩⟩
   rw [Nat.zero_add,ho.cellAt j (by omega),List.getElem?_map,List.getElem?_eq_getElem (by rw [b6g];exact hj)]
   simp [List.getD_eq_getElem?_getD,List.getElem?_eq_getElem (show j < (zl l).length by rw [b6g];exact hj)]
def c3r (w:World) (B:Nat) (a:Option Addr) (n c:Nat) (M:List (List Nat)):Prop:=
 M.length = n ∧ n ≤ c ∧ c ≤ maxLen ∧ ∃ vs,IVr w B vs M ∧ (0 < n → ∃ b off,a = some ⟨b,off,none⟩ ∧ b < w.heap.size ∧ B ≤ b ∧ ∀ i,i < n → w.cell? ⟨b,off + i,none⟩ = vs[i]?)
def Kp (lo hi:Nat) (V U:World):Prop:=V.heap.size ≤ U.heap.size ∧ ∀ b,lo ≤ b → b < hi → U.heap[b]? = V.heap[b]?
theorem Kp.refl (lo hi:Nat) (V:World):Kp lo hi V V:=⟨Nat.le_refl _,fun _ _ _ => rfl⟩
theorem Kp.below {lo hi:Nat} {V U W:World} (h:Kp lo hi V U) (hb:Below U.heap.size U W) (hh:hi ≤ V.heap.size):Kp lo hi V W:=⟨Nat.le_trans h.1 hb.size,fun b h1 h2 => (hb.block b (by have:=h.1;omega)).trans (h.2 b h1 h2)⟩
theorem Kp.grown {lo hi:Nat} {V U W:World} {r:Option Nat} (h:Kp lo hi V U) (hg:U.grownBy W r) (hr:∀ k,r = some k → k < lo ∨ hi ≤ k) (hh:hi ≤ V.heap.size):Kp lo hi V W:=
 ⟨Nat.le_trans h.1 hg.size,fun b h1 h2 => (hg.block b (by have:=h.1;omega) (fun e => by have:=hr b e.symm;omega)).trans (h.2 b h1 h2)⟩
theorem c3r.keepR {w w':World} {B:Nat} {a:Option Addr} {n c:Nat} {M:List (List Nat)} (h:c3r w B a n c M) (hk:Kp B w.heap.size w w'):c3r w' B a n c M:=by
 obtain ⟨h1,h2,h3,vs,h5,h6⟩:=h
 refine ⟨h1,h2,h3,vs,h5.keep hk.1 (fun b hlt hB _ => hk.2 b hB hlt),fun h0 => ?_⟩
 obtain ⟨b,off,e,hlt,hB,hc⟩:=h6 h0
 exact ⟨b,off,e,by have:=hk.1;omega,hB,fun i hi => by rw [World.cell?_of_block (w:=w) (a:=⟨b,off + i,none⟩) (hk.2 b hB hlt)];exact hc i hi⟩
theorem c3r.on {w w':World} {B:Nat} {a:Option Addr} {n c:Nat} {M:List (List Nat)} (h:c3r w B a n c M) (hb:Below w.heap.size w w'):c3r w' B a n c M:=h.keepR ((Kp.refl _ _ _).below hb (Nat.le_refl _))
theorem c3r.bd {w:World} {B:Nat} {a:Option Addr} {n c:Nat} {M:List (List Nat)} (h:c3r w B a n c M):n ≤ c ∧ c ≤ 9223372036854775807:=⟨h.2.1,by have:=h.2.2.1;unfold maxLen at this;omega⟩
theorem c3r.own {w:World} {B n c:Nat} {e:TypeId} {a:Option Addr} {vs:List Value} {M:List (List Nat)} (h:w.ownsRow B e 1 (.slice a n c) n vs) (hv:IVr w B vs M):c3r w B a n c M:=by
 have hl:M.length = n:=by rw [← hv.1,h.1,Nat.mul_one]
 rcases h.2 with ⟨e,h0⟩ | ⟨g,cap,cur,e,hg,hh,h4,h5,_⟩
 ·cases e
  exact ⟨hl,Nat.le_refl _,Nat.zero_le _,vs,hv,fun h => absurd h (by omega)⟩
 ·cases e
  exact ⟨hl,h4,h5,vs,hv,fun h0 => ⟨g,0,rfl,(Array.getElem?_eq_some_iff.1 hh).1,hg,fun i hi => by rw [Nat.zero_add];exact h.cellAt i (by omega)⟩⟩
theorem c3r.row {w:World} {B:Nat} {a:Option Addr} {n c:Nat} {M:List (List Nat)} (h:c3r w B a n c M) {i:Nat} (hi:i < n) (hb:∀ x,x ∈ rwI M i → x ≤ 1000):∃ b off ai ci,a = some ⟨b,off,none⟩ ∧ b < w.heap.size ∧ w.cell? ⟨b,off + i,none⟩ = some (.slice ai (rwI M i).length ci) ∧ IA w ai (rwI M i).length ci (zl (rwI M i)):=by
 obtain ⟨h1,h2,h3,vs,h5,h6⟩:=h
 obtain ⟨b,off,e,hlt,_,hc⟩:=h6 (by omega)
 obtain ⟨ai,ci,k1,k2,k3,k4,k5⟩:=h5.2 i (by omega)
 refine ⟨b,off,ai,ci,e,hlt,by rw [hc i hi,k1],b6g _,k2,k3,k4,fun j => ?_,fun h0 => ?_⟩
 ·rw [e5z]
  have:(rwI M i).getD j 0 ≤ 1000:=by
   by_cases hj:j < (rwI M i).length
   ·have e:(rwI M i).getD j 0 = (rwI M i)[j]:=by simp [List.getD_eq_getElem?_getD,hj]
    rw [e];exact hb _ (List.getElem_mem hj)
   ·rw [List.getD_eq_getElem?_getD,List.getElem?_eq_none (Nat.le_of_not_lt hj)];exact Nat.zero_le _
  omega
 ·obtain ⟨b,off,e,hb,_,_,hc⟩:=k5 h0
  exact ⟨b,off,e,hb,hc⟩
theorem c6o:(Tryz.prog.info? 3).map (fun i => (i.zero,i.size,i.bytes)) = some (some (.int .i64 0),1,8):=by kernel_rfl
theorem a5b {P:Program} (w:World) {ops:Array Oper} {rest:List Oper} {o:Oper} {a:Act} {Q:Exit → Act → World → Prop} (hgd:o.guard = none) (s x:Operand) (t:TypeId)
 (ho:o.op = .call { callee:=.builtin .append,args:=#[s,x],argTypes:=#[t,t] })
 (base:Nat) (e:TypeId) (i:TypeInfo) (ht:P.underlying t = some (.slice e)) (hi:P.info? e = some i) (hz:i.zero = some (.int .i64 0)) (hsize:i.size = 1) (hby:i.bytes = 8)
 (v:Value) (n:Nat) (l:List Int) (hs:a.eval s = v) (hown:w.ownsRow base e 1 v n (l.map (Value.int .i64)))
 (ad:Option Addr) (m c:Nat) (k:List Int) (hx:a.eval x = .slice ad m c) (hB:IA w ad m c k) (hn:n + m ≤ 1000) (hbase:base ≤ w.heap.size)
 (h:∀ v' w',w'.ownsRow base e 1 v' (n + m) ((l ++ k).map (Value.int .i64)) → w.grownBy w' v.ownBlock → wpList P ops Q rest (a.put o.dst v') w') :
 wpList P ops Q (o :: rest) a w:=by
 have hk:k.length = m:=hB.1
 rcases ad with _ | ad
 ·obtain rfl:c = 0:=hB.2.2.2.1 rfl
  obtain rfl:m = 0:=by have:=hB.2.1;omega
  have hm:k = []:=List.eq_nil_of_length_eq_zero hk
  subst hm
  refine wpList_append_own_none hgd s x t ho base e i 1 ht hi v n (l.map (Value.int .i64)) hs hown hx ?_
  exact h v w (by simpa using hown) (World.grownBy.refl _ _)
 ·refine wpList_append_own w hgd s x t ho base e i (.int .i64 0) 1 8 ht hi hz hsize hby rfl (by decide) v n (l.map (Value.int .i64)) hs hown ad m c (k.map (Value.int .i64)) hx (by simp [hk]) ?_ (fun u hu => by obtain ⟨z,_,rfl⟩:=List.mem_map.1 hu;rfl) (by unfold maxLen;omega) (by omega) hbase ?_
  ·intro j u hj
   have hjk:j < k.length:=by rcases Nat.lt_or_ge j k.length with h1 | h1;exact h1;rw [List.getElem?_map,List.getElem?_eq_none h1] at hj;cases hj
   obtain ⟨b,off,e2,_,hc⟩:=hB.at_ (i:=j) (by omega)
   cases e2
   rw [Addr.add_lit,hc]
   rw [List.getElem?_map,List.getElem?_eq_getElem hjk] at hj
   simp [List.getD_eq_getElem?_getD,hjk] at hj ⊢
   exact hj
  ·intro v' w' h1 h2 _
   rw [← List.map_append] at h1
   exact h v' w' h1 h2
def a2j (m t n c:Int):Bool:=decide (0 ≤ m) && (decide (m < 2) && (decide (1 ≤ t) && (decide (t ≤ n) && (decide (n ≤ 255) && (decide (0 ≤ c) && decide (c ≤ 127))))))
def Sh (m:Int) (t n c:Nat):Prop:=(m = 0 ∨ m = 1) ∧ 1 ≤ t ∧ t ≤ n ∧ n ≤ 255 ∧ c ≤ 127
theorem Sh.right {m:Int} {t n c:Nat} (h:Sh m t n c):a2j m t n c = true:=by
 unfold Sh at h
 unfold a2j
 simp only [Bool.and_eq_true,decide_eq_true_eq]
 omega
def a4l (m:Int) (t:Nat):Nat:=if m = 0 then 440 else ceil 473 t
def a4v (m:Int) (t:Nat):Nat:=if m = 0 then (t - 1) * 440 else 32
theorem bxS (w:World) (cs:Array Value) (e:TypeId):Below w.heap.size w (w.alloc (.cells cs e)):=(Below.refl _ _).alloc (Nat.le_refl _) _
theorem a4g (m t n c:Int) (w:World):Calls Tryz.prog 22 #[.agg #[.int .i64 m,.int .i64 t,.int .i64 n,.int .i64 c]] w fun e w' => e = .returned (.bool (a2j m t n c)) ∧ Below w.heap.size w w':=by
 have HA:=hJ_ (bxS w #[.int .i64 m,.int .i64 t,.int .i64 n,.int .i64 c] 25)
 by_cases h1:0 ≤ m
 rotate_left
 ·have HR:=hJ_ (show a2j m t n c = false by unfold a2j;simp [h1])
  go_enter Tryz.func22,Tryz.ntmps22
  go_wp2
  go_ret
  exact ⟨by rw [HR.out] <;> rfl,HA.out⟩
 by_cases h2:m < 2
 rotate_left
 ·have HR:=hJ_ (show a2j m t n c = false by unfold a2j;simp [h1,h2])
  go_enter Tryz.func22,Tryz.ntmps22
  go_wp2
  go_ret
  exact ⟨by rw [HR.out] <;> rfl,HA.out⟩
 by_cases h3:1 ≤ t
 rotate_left
 ·have HR:=hJ_ (show a2j m t n c = false by unfold a2j;simp [h1,h2,h3])
  go_enter Tryz.func22,Tryz.ntmps22
  go_wp2
  go_ret
  exact ⟨by rw [HR.out] <;> rfl,HA.out⟩
 by_cases h4:t ≤ n
 rotate_left
 ·have HR:=hJ_ (show a2j m t n c = false by unfold a2j;simp [h1,h2,h3,h4])
  go_enter Tryz.func22,Tryz.ntmps22
  go_wp2
  go_ret
  exact ⟨by rw [HR.out] <;> rfl,HA.out⟩
 by_cases h5:n ≤ 255
 rotate_left
 ·have HR:=hJ_ (show a2j m t n c = false by unfold a2j;simp [h1,h2,h3,h4,h5])
  go_enter Tryz.func22,Tryz.ntmps22
  go_wp2
  go_ret
  exact ⟨by rw [HR.out] <;> rfl,HA.out⟩
 by_cases h6:0 ≤ c
 rotate_left
 ·have HR:=hJ_ (show a2j m t n c = false by unfold a2j;simp [h1,h2,h3,h4,h5,h6])
  go_enter Tryz.func22,Tryz.ntmps22
  go_wp2
  go_ret
  exact ⟨by rw [HR.out] <;> rfl,HA.out⟩
 by_cases h7:c ≤ 127
 rotate_left
 ·have HR:=hJ_ (show a2j m t n c = false by unfold a2j;simp [h1,h2,h3,h4,h5,h6,h7])
  go_enter Tryz.func22,Tryz.ntmps22
  go_wp2
  go_ret
  exact ⟨by rw [HR.out] <;> rfl,HA.out⟩
 have HR:=hJ_ (show a2j m t n c = true by unfold a2j;simp [h1,h2,h3,h4,h5,h6,h7])
 go_enter Tryz.func22,Tryz.ntmps22
 go_wp2
 go_ret
 exact ⟨by rw [HR.out] <;> rfl,HA.out⟩
theorem e1c (t n c:Nat) (w:World) (h:Sh 0 t n c):Calls Tryz.prog 15 #[.agg #[.int .i64 0,.int .i64 t,.int .i64 n,.int .i64 c]] w fun e w' => e = .returned (.int .i64 (a4l 0 t:Nat)) ∧ Below w.heap.size w w':=by
 have HA:=hJ_ (bxS w #[.int .i64 0,.int .i64 t,.int .i64 n,.int .i64 c] 25)
 have HR:=hJ_ (a4g 0 t n c (w.alloc (.cells #[.int .i64 0,.int .i64 t,.int .i64 n,.int .i64 c] 25)))
 rw [h.right] at HR
 have HT:=hJ_ h.2
 clear h
 go_enter Tryz.func15,Tryz.ntmps15
 go_wp2_with (go_at_call 22;go_loud (refine HR.out.mono ?_;rintro e w1 ⟨rfl,hb⟩;have HC1:=hJ_ (hb.block w.heap.size (by simp));have HB1:=hJ_ (bt HA.out hb);have hx0:w1.cell? ⟨w.heap.size,0,none⟩ = some (.int .i64 0):=(by rw [World.cell?_of_block (w:=w.alloc (.cells #[.int .i64 0,.int .i64 t,.int .i64 n,.int .i64 c] 25)) (a:=⟨w.heap.size,0,none⟩) HC1.out];simp);clear hb))
 go_ret
 exact ⟨rfl,HB1.out⟩
theorem d7j (t n c:Nat) (w:World) (h:Sh 1 t n c):Calls Tryz.prog 15 #[.agg #[.int .i64 1,.int .i64 t,.int .i64 n,.int .i64 c]] w fun e w' => e = .returned (.int .i64 (a4l 1 t:Nat)) ∧ Below w.heap.size w w':=by
 have HA:=hJ_ (bxS w #[.int .i64 1,.int .i64 t,.int .i64 n,.int .i64 c] 25)
 have HR:=hJ_ (a4g 1 t n c (w.alloc (.cells #[.int .i64 1,.int .i64 t,.int .i64 n,.int .i64 c] 25)))
 rw [h.right] at HR
 have HT:=hJ_ h.2
 clear h
 go_enter Tryz.func15,Tryz.ntmps15
 go_wp2_with (first
  | (go_at_call 22;go_loud (refine HR.out.mono ?_;rintro e w1 ⟨rfl,hb⟩;have HC1:=hJ_ (hb.block w.heap.size (by simp));have HB1:=hJ_ (bt HA.out hb);have hx0:w1.cell? ⟨w.heap.size,0,none⟩ = some (.int .i64 1):=(by rw [World.cell?_of_block (w:=w.alloc (.cells #[.int .i64 1,.int .i64 t,.int .i64 n,.int .i64 c] 25)) (a:=⟨w.heap.size,0,none⟩) HC1.out];simp);have hx1:w1.cell? ⟨w.heap.size,1,none⟩ = some (.int .i64 t):=(by rw [World.cell?_of_block (w:=w.alloc (.cells #[.int .i64 1,.int .i64 t,.int .i64 n,.int .i64 c] 25)) (a:=⟨w.heap.size,1,none⟩) HC1.out];simp);have HC:=hJ_ (e7n 473 t w1 HT.out.1 (by have:=HT.out;omega) (by omega));clear hb))
  | (go_at_call 35;go_loud (refine HC.out.mono ?_;rintro e w2 ⟨rfl,q,rfl⟩;have HB2:=hJ_ (below_drewN HB1.out q))))
 go_ret
 exact ⟨rfl,HB2.out⟩
theorem c6c (m:Int) (t n c:Nat) (w:World) (h:Sh m t n c):Calls Tryz.prog 15 #[.agg #[.int .i64 m,.int .i64 t,.int .i64 n,.int .i64 c]] w fun e w' => e = .returned (.int .i64 (a4l m t:Nat)) ∧ Below w.heap.size w w':=by
 rcases h.1 with rfl | rfl
 ·exact e1c t n c w h
 ·exact d7j t n c w h
theorem e6y (t n c:Nat) (w:World) (h:Sh 0 t n c):Calls Tryz.prog 23 #[.agg #[.int .i64 0,.int .i64 t,.int .i64 n,.int .i64 c]] w fun e w' => e = .returned (.int .i64 (a4v 0 t:Nat)) ∧ Below w.heap.size w w':=by
 have HA:=hJ_ (bxS w #[.int .i64 0,.int .i64 t,.int .i64 n,.int .i64 c] 25)
 have HR:=hJ_ (a4g 0 t n c (w.alloc (.cells #[.int .i64 0,.int .i64 t,.int .i64 n,.int .i64 c] 25)))
 rw [h.right] at HR
 have HT:=hJ_ h.2
 clear h
 go_enter Tryz.func23,Tryz.ntmps23
 go_wp2_with (first
  | (go_at_call 22;go_loud (refine HR.out.mono ?_;rintro e w1 ⟨rfl,hb⟩;have HC1:=hJ_ (hb.block w.heap.size (by simp));have HB1:=hJ_ (bt HA.out hb);have hx0:w1.cell? ⟨w.heap.size,0,none⟩ = some (.int .i64 0):=(by rw [World.cell?_of_block (w:=w.alloc (.cells #[.int .i64 0,.int .i64 t,.int .i64 n,.int .i64 c] 25)) (a:=⟨w.heap.size,0,none⟩) HC1.out];simp);have hx1:w1.cell? ⟨w.heap.size,1,none⟩ = some (.int .i64 t):=(by rw [World.cell?_of_block (w:=w.alloc (.cells #[.int .i64 0,.int .i64 t,.int .i64 n,.int .i64 c] 25)) (a:=⟨w.heap.size,1,none⟩) HC1.out];simp);have HC:=hJ_ (e9f t 440 w1 HT.out.1 (by have:=HT.out;omega) (by omega));clear hb))
  | (go_at_call 48;go_loud (refine HC.out.mono ?_;rintro e w2 ⟨rfl,hb⟩;have HB2:=hJ_ (bt HB1.out hb);clear hb)))
 go_ret
 exact ⟨rfl,HB2.out⟩
theorem e5y (t n c:Nat) (w:World) (h:Sh 1 t n c):Calls Tryz.prog 23 #[.agg #[.int .i64 1,.int .i64 t,.int .i64 n,.int .i64 c]] w fun e w' => e = .returned (.int .i64 (a4v 1 t:Nat)) ∧ Below w.heap.size w w':=by
 have HA:=hJ_ (bxS w #[.int .i64 1,.int .i64 t,.int .i64 n,.int .i64 c] 25)
 have HR:=hJ_ (a4g 1 t n c (w.alloc (.cells #[.int .i64 1,.int .i64 t,.int .i64 n,.int .i64 c] 25)))
 rw [h.right] at HR
 have HT:=hJ_ h.2
 clear h
 go_enter Tryz.func23,Tryz.ntmps23
 go_wp2_with (go_at_call 22;go_loud (refine HR.out.mono ?_;rintro e w1 ⟨rfl,hb⟩;have HC1:=hJ_ (hb.block w.heap.size (by simp));have HB1:=hJ_ (bt HA.out hb);have hx0:w1.cell? ⟨w.heap.size,0,none⟩ = some (.int .i64 1):=(by rw [World.cell?_of_block (w:=w.alloc (.cells #[.int .i64 1,.int .i64 t,.int .i64 n,.int .i64 c] 25)) (a:=⟨w.heap.size,0,none⟩) HC1.out];simp);clear hb))
 go_ret
 exact ⟨rfl,HB1.out⟩
theorem c0k (m:Int) (t n c:Nat) (w:World) (h:Sh m t n c):Calls Tryz.prog 23 #[.agg #[.int .i64 m,.int .i64 t,.int .i64 n,.int .i64 c]] w fun e w' => e = .returned (.int .i64 (a4v m t:Nat)) ∧ Below w.heap.size w w':=by
 rcases h.1 with rfl | rfl
 ·exact e6y t n c w h
 ·exact e5y t n c w h
end Go.Proofs.YtappfdbmhgifcaaGreatDoor
