/- Texts of mine, one behind the other: Zf Zg Zh Zi Zj. -/
import Derived.Test.YtappfdbmhgifcaaGreatDoorZR19
import Derived.ArgAppend
set_option linter.unusedVariables false
set_option linter.unusedSimpArgs false
set_option maxRecDepth 100000
namespace Go.Proofs.YtappfdbmhgifcaaGreatDoor
open Go.ChangeShapes Go.WideShapes Go.ChangeAt Go.RowKit Go.Shelf GF
theorem e6u {w:World} {base n c:Nat} {e:TypeId} {a:Option Addr} {xs:List Value} (h:w.ownsRow base e 1 (.slice a n c) n xs):∀ b off,a = some ⟨b,off,none⟩ → base ≤ b:=fun b off e2 => by
 rcases h.2 with ⟨e,_⟩ | ⟨g',c',cur,e,hg,_⟩
 ·cases e;cases e2
 ·cases e;cases e2;exact hg
theorem c0e.set {w:World} {g n s k j:Nat} {F F':Nat → Nat → GF} (h:c0e w g n s F) (hk:k < n) (hj:j < s) (c:GF) (hF:∀ k' j',k' < n → j' < s → F' k' j' = if k' = k ∧ j' = j then c else F k' j'):c0e (w.setCell ⟨g + 1 + k,j,none⟩ (.int .u8 (toI c))) g n s F':=by
 refine ⟨h.1.other _ _ (by show g ≠ g + 1 + k;omega),fun k' hk' => ?_⟩
 by_cases e:k' = k
 ·subst e
  refine ((h.2 k' hk).set hj _).congr fun j' hj' => ?_
  rw [hF k' j' hk' hj']
  by_cases e2:j' = j
  ·simp only [if_pos e2,e2,and_self,if_true]
  ·simp only [if_neg e2]
   rw [if_neg (fun h => e2 h.2)]
 ·refine ((h.2 k' hk').other _ _ (by show g + 1 + k' ≠ g + 1 + k;omega)).congr fun j' hj' => ?_
  rw [hF k' j' hk' hj',if_neg (fun h => e h.1)]
theorem c0e.congr {w:World} {g n s:Nat} {F F':Nat → Nat → GF} (h:c0e w g n s F) (hF:∀ k' j',k' < n → j' < s → F k' j' = F' k' j'):c0e w g n s F':=
 ⟨h.1,fun k hk => (h.2 k hk).congr fun j hj => by rw [hF k j hk hj]⟩
theorem b3c {P:List (List GF)} {p:List GF} {j:Nat} (h:j < P.length):rw_ (P ++ [p]) j = rw_ P j:=by
 unfold rw_;simp only [List.getD_eq_getElem?_getD];rw [List.getElem?_append_left h]
theorem b3i {P:List (List GF)} {p:List GF} {j:Nat} (h:P.length = j):rw_ (P ++ [p]) j = p:=by
 unfold rw_;simp only [List.getD_eq_getElem?_getD];rw [List.getElem?_append_right (by omega),h,Nat.sub_self];rfl
def e4t (X:List GF) (R N P:List (List GF)) (L t n:Nat):Prop:=P.length = n ∧ ∀ j,j < n → b6r X (a6w R L j) t (rw_ P j) ∧ ∀ k,k < t → co (rw_ N k) j = co (rw_ P j) k
def soF (P:List (List GF)) (p:List GF) (i k:Nat) (k' j:Nat):GF:=if j < i then co (rw_ P j) k' else if j = i ∧ k' < k then co p k' else 0
theorem a7y (P:List (List GF)) (p:List GF) (i k' j:Nat):soF P p i 0 k' j = if j < i then co (rw_ P j) k' else 0:=by
 unfold soF
 by_cases h:j < i
 ·rw [if_pos h,if_pos h]
 ·rw [if_neg h,if_neg h,if_neg (fun h => absurd h.2 (by omega))]
theorem d3e (P:List (List GF)) (p:List GF) (i k k' j:Nat):soF P p i (k + 1) k' j = if k' = k ∧ j = i then co p k else soF P p i k k' j:=by
 unfold soF
 by_cases e:k' = k ∧ j = i
 ·rw [if_pos e,if_neg (by omega),if_pos (by omega),e.1]
 ·rw [if_neg e]
  by_cases h:j < i
  ·rw [if_pos h,if_pos h]
  ·rw [if_neg h,if_neg h]
   by_cases h2:j = i ∧ k' < k
   ·rw [if_pos h2,if_pos (by omega)]
   ·rw [if_neg h2,if_neg (by omega)]
theorem d8r {P:List (List GF)} {p:List GF} {i:Nat} (hP:P.length = i) (q:List GF) (k' j:Nat):soF P p i p.length k' j = soF (P ++ [p]) q (i + 1) 0 k' j:=by
 rw [a7y]
 unfold soF
 by_cases h:j < i
 ·rw [if_pos h,if_pos (by omega),b3c (by omega)]
 ·rw [if_neg h]
  by_cases e:j = i
  ·rw [if_pos (show j < i + 1 by omega),e,b3i hP]
   by_cases h2:k' < p.length
   ·rw [if_pos ⟨rfl,h2⟩]
   ·rw [if_neg (fun h => h2 h.2),a0w (by omega)]
  ·rw [if_neg (show ¬ (j = i ∧ k' < p.length) from fun h => e h.1),if_neg (show ¬ j < i + 1 by omega)]
set_option maxHeartbeats 4000000 in
theorem c2g (b L t n:Nat) (aX:Option Addr) (cX:Nat) (X:List GF) (aR:Option Addr) (cR:Nat) (R:List (List GF)) (w:World) (hf:Fld w b) (hX:Pa w aX L cX X) (hR:Mat w aR L cR R) (hA:Apart X) (ht:1 ≤ t) (htL:t ≤ L) (hL:L ≤ 200) (hw:∀ k,k < L → (rw_ R k).length = n) (hn:n ≤ 1000) :
 Calls Tryz.prog 96 #[.pointer (some ⟨b,0,none⟩),.int .i64 (t:Nat),.slice aX L cX,.slice aR L cR] w fun e w' => ∃ (a:Option Addr) (m c:Nat) (bb:Bool),e = .returned (.tuple #[.slice a m c,.bool bb]) ∧
  Hid ((bb = true → ∃ g N P,a = some ⟨g,0,none⟩ ∧ m = t ∧ c = t ∧ RB w' w.heap.size g t n N ∧ e4t X R N P L t n) ∧ (bb = false → ∃ j,j < n ∧ ∀ e q,¬ a1p X (a6w R L j) t e q)) ∧ Below w.heap.size w w':=by
 have HVA:=hJ_ (c2b b aX L cX X w hf hX (by omega))
 obtain ⟨bR,oR,a0,c0,hbe,hbR,hc0,hp0⟩:=hR.row (i:=0) (by omega)
 rw [hw 0 (by omega)] at hc0 hp0
 subst hbe
 have HX:=hJ_ hX;have HR:=hJ_ hR;have HF:=hJ_ hf
 have HC:=hJ_ (And.intro hA (And.intro hX.len (And.intro ht (And.intro htL (And.intro hL hn)))))
 have HW:=hJ_ hw
 have hbx:=hX.bd;have hbr:=hR.bd;have hb0:=hp0.bd
 have qL:(0:Int) < (L:Int):=by omega
 have qt:(t:Int) ≤ 200:=by omega
 rw [Nat.add_zero] at hc0
 clear hf hX hR hA ht htL hL hw hn hp0
 go_enter Tryz.func96,Tryz.ntmps96
 go_wp2_with (first
  | (go_at_call 114;go_loud (refine HVA.out.mono ?_;rintro e w1 ⟨gV,rfl,ho,hb⟩;have HPV:=hJ_ (Pa.own2 ho);have HB1:=hJ_ hb;have HTH:=hJ_ (d9b b L n (some ⟨gV,0,none⟩) (L + 1) X aX cX (some ⟨bR,oR,none⟩) cR R w1 (HF.out.below hb) (Pa.own2 ho) (HX.out.on hb) (HR.out.on hb) HC.out.1 (by have:=HC.out;omega) (by have:=HC.out;omega) HW.out (by have:=HC.out;omega));have hc1:=(hb.cell (p:=⟨bR,oR,none⟩) hbR).trans hc0;clear ho hb))
  | (go_at_call 115;go_loud (refine HTH.out.mono ?_;rintro e w2 ⟨gW,M,rfl,hrb,hti,hb⟩;have HMW:=hJ_ (hrb.mat (by have:=HC.out;omega));have HB2:=hJ_ (bt HB1.out hb);have HPV2:=hJ_ (HPV.out.on hb);have hc2:=(hb.cell (p:=⟨bR,oR,none⟩) (by have:=HB1.out.size;show bR < _;omega)).trans hc1;have HBL:=hJ_ (b6t t n w2 (by have:=HC.out;omega) (by have:=HC.out;omega));clear hrb hb))
  | (go_at_call 116;go_loud (refine HBL.out.mono ?_;rintro e w3 ⟨rfl,hm,hb⟩;have HM3:=hJ_ hm;have H32:=hJ_ hb;have hc3:=(hb.cell (p:=⟨bR,oR,none⟩) (by have:=HB2.out.size;show bR < _;omega)).trans hc2;clear hm hb)))
 obtain ⟨g,hg⟩:∃ g,g = w2.heap.size:=⟨_,rfl⟩
 rw [← hg] at HM3
 have HG:=hJ_ hg
 rw [← hg]
 clear hg
 go_loopw [40] (fun j wr => ∃ (i:Nat) (P:List (List GF)),i ≤ n ∧ P.length = i ∧ j = .int .i64 (i:Nat) ∧ Hid (c0e wr g t n (soF P [] i 0)) ∧ Hid (∀ j,j < i → b6r X (a6w R L j) t (rw_ P j)) ∧ Hid (Below g w2 wr))
  (fun j _ => n - (intOf j).toNat)
 case atStart => exact ⟨0,[],Nat.zero_le _,rfl,rfl,hJ_ (HM3.out.congr fun k' j' _ _ => by rw [a7y,if_neg (by omega)]),hJ_ (fun j hj => absurd hj (by omega)),hJ_ (by rw [HG.out];exact H32.out)⟩
 case round =>
  obtain ⟨i,P,hi,hPl,rfl,hM,hFo,hB⟩:=hrel
  rename World => w4
  have h24:Below w2.heap.size w2 w4:=by rw [← HG.out];exact hB.out
  have H24:=hJ_ h24
  have hc4:=(h24.cell (p:=⟨bR,oR,none⟩) (by have:=HB2.out.size;show bR < _;omega)).trans hc2
  clear h24
  by_cases hlt:i < n
  ·have qi:(i:Int) < (n:Int):=by omega
   have qi0:(0:Int) ≤ (i:Int):=by omega
   have HCO:=hJ_ (c2k (some ⟨gW,0,none⟩) L L i n M w4 (HMW.out.on H24.out) hti.out.2.1 hlt (by have:=HC.out;omega))
   have HLT:=hJ_ hlt
   clear hlt
   go_wp2_with (first
    | (go_at_call 118;go_loud (refine HCO.out.mono ?_;rintro e w5 ⟨gc,rfl,ho,hb⟩;have HB45:=hJ_ hb;have HFN:=hJ_ (c7w b L t (some ⟨gV,0,none⟩) (L + 1) X (a6w R L i) (some ⟨gc,0,none⟩) L (a6w M L i) w5 (HF.out.below (bt HB2.out (bt H24.out hb))) (HPV2.out.on (bt H24.out hb)) (Pa.own2 ho) HC.out.1 HC.out.2.1 (fun p hp => (by have h9:=hti.out.2.2 i HLT.out p hp;rw [if_pos hp] at h9;rw [h9,a5u _ hp])) HC.out.2.2.1 HC.out.2.2.2.1 HC.out.2.2.2.2.1);clear ho hb))
    | (go_at_call 117;go_loud (refine HFN.out.mono ?_;rintro e w6 ⟨ap,m,cp,p,bb,rfl,ho,hfp,hb⟩;have HOP:=hJ_ ho;have HB46:=hJ_ (bt HB45.out hb);have HM6:=hJ_ (hM.out.on (bt HB45.out hb));have hdp:=(a2h ho).bd;clear ho hb)))
   ·have hbb:bb = false:=by cases bb <;> simp_all
    have HNO:=hJ_ (hfp.out.2 hbb)
    have HB9:=hJ_ (bt HB2.out (bt H24.out HB46.out))
    go_ret2
    exact ⟨_,_,_,false,rfl,hJ_ ⟨(fun h => by cases h),fun _ => ⟨i,HLT.out,HNO.out⟩⟩,HB9.out⟩
   ·have hbb:bb = true:=by cases bb <;> simp_all
    have HFP:=hJ_ (hfp.out.1 hbb)
    have HPP:=hJ_ (a2h HOP.out)
    have HPL:=hJ_ (show p.length = m from HPP.out.len)
    have HNE:=hJ_ (show ∀ b off,ap = some ⟨b,off,none⟩ → ∀ k,k < t → b ≠ g + 1 + k from fun b off e k hk => by
     have h1:=e6u HOP.out b off e
     have h2:=(hM.out.2 k hk).lt
     have h3:=HB45.out.size
     omega)
    have HB26:=hJ_ (show Below g w2 w6 from hB.out.trans (HB46.out.mono (by have:=hM.out.1.lt;omega)))
    have HM6':=hJ_ (HM6.out.congr (F':=soF P p i 0) fun k' j' _ _ => by rw [a7y,a7y])
    have HPL2:=hJ_ hPl
    clear hbb hPl
    go_loopw [57] (fun j wr => ∃ k:Nat,k ≤ m ∧ j = .int .i64 (k:Nat) ∧ Hid (c0e wr g t n (soF P p i k)) ∧ Hid (Pa wr ap m cp p) ∧ Hid (Below g w2 wr))
     (fun j _ => m - (intOf j).toNat)
    case atStart => exact ⟨0,Nat.zero_le _,rfl,HM6',HPP,HB26⟩
    case round =>
     obtain ⟨k,hk,rfl,hM7,hP7,hB7⟩:=hrel
     rename World => w7
     by_cases hlk:k < m
     ·obtain ⟨bp,op,rfl,hbp,hcp⟩:=hP7.out.at_ hlk
      have hkt:k < t:=by have:=HFP.out.2.1;have:=HPL.out;omega
      have ho1:=hM7.out.1.cell hkt
      have ho2:=(hM7.out.2 k hkt).cell HLT.out
      have hfz:=(hM7.out.2 k hkt).free i
      have HM8:=hJ_ (hM7.out.set (F':=soF P p i (k + 1)) hkt HLT.out (co p k) fun k' j' _ _ => d3e P p i k k' j')
      have HP8:=hJ_ (hP7.out.but (a2u w7 (g + 1 + k) i (.int .u8 (toI (co p k)))) (fun b off e => HNE.out b off e k hkt))
      have HB8:=hJ_ (hB7.out.setCell (p:=⟨g + 1 + k,i,none⟩) (by show g ≤ g + 1 + k;omega) (.int .u8 (toI (co p k))))
      have qk:(k:Int) < (m:Int):=by omega
      have qk0:(0:Int) ≤ (k:Int):=by omega
      have qkt:(k:Int) < (t:Int):=by omega
      have HLK:=hJ_ hlk
      clear hlk hkt
      go_wp2
      go_roundw
      case rel => exact ⟨k + 1,by have:=HLK.out;omega,by go_num,HM8,HP8,HB8⟩
      case measure => simp [intOf];have:=HLK.out;omega
     ·have HM8:=hJ_ (hM7.out.congr (F':=soF (P ++ [p]) [] (i + 1) 0) fun k' j' _ _ => by
       rw [show k = p.length by have:=HPL.out;omega]
       exact d8r HPL2.out [] k' j')
      have HFO:=hJ_ (show ∀ j,j < i + 1 → b6r X (a6w R L j) t (rw_ (P ++ [p]) j) from fun j hj => by
       by_cases e:j < i
       ·rw [b3c (by have:=HPL2.out;omega)];exact hFo.out j e
       ·obtain rfl:j = i:=by omega
        rw [b3i HPL2.out];exact HFP.out)
      have HLN:=hJ_ (show (P ++ [p]).length = i + 1 by rw [List.length_append,HPL2.out];rfl)
      have qk:¬ (k:Int) < (m:Int):=by omega
      clear hlk
      go_wp2
      go_roundw
      case rel => exact ⟨i + 1,P ++ [p],by have:=HLT.out;omega,HLN.out,by go_num,HM8,HFO,hB7⟩
      case measure => simp [intOf];have:=HLT.out;omega
  ·obtain rfl:n = i:=by omega
   have HRB:=hJ_ ((hM.out.rb (by have:=HC.out;omega)).low (B':=w.heap.size) (by rw [HG.out];exact HB2.out.size))
   have HSO:=hJ_ (show e4t X R (b4e t n (soF P [] n 0)) P L t n from ⟨hPl,fun j hj => ⟨hFo.out j hj,fun k hk => by rw [c0x _ hk hj,a7y,if_pos hj]⟩⟩)
   have HB9:=hJ_ (bt HB2.out H24.out)
   clear hPl hlt
   go_wp2
   go_ret2
   exact ⟨_,_,_,true,rfl,hJ_ ⟨fun _ => ⟨g,_,P,rfl,rfl,rfl,HRB.out,HSO.out⟩,fun h => by cases h⟩,HB9.out⟩
section
attribute [local go_sem] Oper.semAt_some
set_option maxHeartbeats 4000000 in
theorem b3d (b T n:Nat) (aR:Option Addr) (cR:Nat) (R:List (List GF)) (x:GF) (w:World) (hf:Fld w b) (hR:Mat w aR T cR R) (hw:∀ k,k < T → (rw_ R k).length = n) (hT:1 ≤ T) (hT2:T ≤ 255) (hn:n ≤ 1000) :
 Calls Tryz.prog 71 #[.pointer (some ⟨b,0,none⟩),.slice aR T cR,.int .u8 (toI x)] w fun e w' => ∃ a' c',e = .returned (.slice a' n c') ∧ Pa w' a' n c' (b0f R T n x) ∧ (∀ bb off,a' = some ⟨bb,off,none⟩ → w.heap.size ≤ bb) ∧ Below w.heap.size w w':=by
 obtain ⟨A,C,hA,hP⟩:=hR.slices
 have hA2:∀ j,j < T → ∃ b off,aR = some ⟨b,off,none⟩ ∧ b < w.heap.size ∧ w.cell? ⟨b,off + j,none⟩ = some (.slice (A j) n (C j)):=fun j hj => by
  obtain ⟨b,off,e,hb,hc⟩:=hA j hj;rw [hw j hj] at hc;exact ⟨b,off,e,hb,hc⟩
 have hP2:∀ j,j < T → Pa w (A j) n (C j) (rw_ R j):=fun j hj => by
  have h:=hP j hj;rw [hw j hj] at h;exact h
 have HA:=hJ_ hA2
 have HP:=hJ_ hP2
 have HW:=hJ_ hw
 have HF:=hJ_ hf
 have HB:=hJ_ hR.bd
 have HT:=hJ_ (And.intro hT hT2)
 have HN:=hJ_ hn
 clear hA hP hA2 hP2 hf hR hw hT hn
 refine (callsIn_wide (n:=3)).1 ?_
 refine callsIn_of_wp_marks Tryz.func71 rfl trivial ?_ rfl
 simp only [Tryz.ntmps71,List.size_toArray,List.length_cons,List.length_nil,Nat.reduceAdd,Nat.reduceSub,Array.replicate_succ,Array.replicate_zero,List.push_toArray,List.append_toArray,List.nil_append,List.cons_append]
 gi_wp2_with (refine ⟨trivial,?_⟩;gi_at_call 80;refine (callsIn_wide.2 (b7f _ _ _ _)).mono ?_;rintro e w' ⟨rfl,rfl⟩)
 obtain ⟨V1,hV1⟩:∃ V,V = w.alloc (.cells #[.pointer (some ⟨b,0,none⟩)] 32):=⟨_,rfl⟩
 obtain ⟨V2,hV2⟩:∃ V,V = V1.alloc (.cells #[.int .u8 (toI x)] 5):=⟨_,rfl⟩
 obtain ⟨V3,hV3⟩:∃ V,V = V2.alloc (.cells #[] 5):=⟨_,rfl⟩
 obtain ⟨V4,hV4⟩:∃ V,V = V3.alloc (.cells #[.slice (some ⟨w.heap.size + 1 + 1,0,none⟩) 0 0] 22):=⟨_,rfl⟩
 obtain ⟨V5,hV5⟩:∃ V,V = V4.alloc (.cells #[.slice aR T cR] 28):=⟨_,rfl⟩
 have s1:V1.heap.size = w.heap.size + 1:=by rw [hV1];simp
 have s2:V2.heap.size = w.heap.size + 1 + 1:=by rw [hV2];simp [s1]
 have s3:V3.heap.size = w.heap.size + 1 + 1 + 1:=by rw [hV3];simp [s2]
 have s4:V4.heap.size = w.heap.size + 1 + 1 + 1 + 1:=by rw [hV4];simp [s3]
 have s5:V5.heap.size = w.heap.size + 1 + 1 + 1 + 1 + 1:=by rw [hV5];simp [s4]
 have B1:Below w.heap.size w V1:=by rw [hV1];exact (Below.refl _ _).alloc (Nat.le_refl _) _
 have B2:Below w.heap.size w V2:=by rw [hV2];exact B1.alloc (by omega) _
 have B3:Below w.heap.size w V3:=by rw [hV3];exact B2.alloc (by omega) _
 have B4:Below w.heap.size w V4:=by rw [hV4];exact B3.alloc (by omega) _
 have B5:Below w.heap.size w V5:=by rw [hV5];exact B4.alloc (by omega) _
 have c0:Boxed V5 w.heap.size 32 (.pointer (some ⟨b,0,none⟩)):=by rw [hV5,hV4,hV3,hV2,hV1];exact ((((Boxed.new w _ _).alloc _).alloc _).alloc _).alloc _
 have c1:Boxed V5 (w.heap.size + 1) 5 (.int .u8 (toI x)):=by rw [← s1,hV5,hV4,hV3,hV2];exact (((Boxed.new V1 _ _).alloc _).alloc _).alloc _
 have c3:Boxed V5 (w.heap.size + 1 + 1 + 1) 22 (.slice (some ⟨w.heap.size + 1 + 1,0,none⟩) 0 0):=by rw [← s3,hV5,hV4];exact (Boxed.new V3 _ _).alloc _
 have c4:Boxed V5 (w.heap.size + 1 + 1 + 1 + 1) 28 (.slice aR T cR):=by rw [← s4,hV5];exact Boxed.new V4 _ _
 rw [← hV1,← hV2,← hV3,← hV4,← hV5]
 have HB5:=hJ_ B5
 have HS5:=hJ_ s5
 have C0:=hJ_ c0;have C1:=hJ_ c1;have C3:=hJ_ c3;have C4:=hJ_ c4
 clear hV1 hV2 hV3 hV4 hV5 s1 s2 s3 s4 s5 B1 B2 B3 B4 B5 c0 c1 c3 c4
 obtain ⟨s,hs⟩:∃ s,s = w.heap.size:=⟨_,rfl⟩
 rw [← hs] at HB5 HS5 C0 C1 C3 C4 ⊢
 have Hs:=hJ_ hs
 clear hs
 have HRD:Hid (RdR (s + 1 + 1 + 1 + 1) T aR cR A (fun _ => n) C V5):=hJ_ ⟨C4.out.cell,fun j hj => by
  obtain ⟨b',off,e,hb,hc⟩:=HA.out j hj
  exact ⟨b',off,e,(HB5.out.cell (p:=⟨b',off + j,none⟩) (by rw [Hs.out];exact hb)).trans hc⟩⟩
 have hle:T ≤ 140737488355328:=by have:=HT.out.2;omega
 refine wpIn_rangeFunc_ownF rfl (by omega) (gf:=102) (lb:=#[.pointer (some ⟨s + 1 + 1 + 1 + 1,0,none⟩)]) rfl trivial (enters_of Tryz.func102 (by kernel_rfl) rfl)
  (b1z Fence.wide (3 - 1) trivial rfl (by omega) (s + 1 + 1 + 1 + 1) T cR aR A (fun _ => n) C hle V5 (by rw [HS5.out];omega) HRD.out (fun h0 bb off e => by
   obtain ⟨b',off',e',hb,hc⟩:=HA.out 0 h0
   rw [e] at e';cases e';rw [HS5.out,Hs.out];omega)) (fun h k r => k (h r)) (fun W l o o' _ hl ho _ r => r.put o' hl ho) (Below.refl _ _) (fun _ => by rfl)
  (fun pre W => ((W.cell? ⟨s,0,none⟩ = some (.pointer (some ⟨b,0,none⟩)) ∧ W.cell? ⟨s + 1,0,none⟩ = some (.int .u8 (toI x)) ∧ (∃ ao co',W.cell? ⟨s + 1 + 1 + 1,0,none⟩ = some (.slice ao (hrR R x pre).length co') ∧ Pa W ao (hrR R x pre).length co' (hrR R x pre) ∧ ∀ bb off,ao = some ⟨bb,off,none⟩ → s ≤ bb) ∧ W.frozen? ⟨s + 1 + 1 + 1,0,none⟩ = false) ∧ V5.heap.size ≤ W.heap.size) ∧ Below s w W)
  (fun _ _ _ => False)
  (OwnFrom.and (Own.from (fun t A B row hs hg hr => ⟨⟨cell_kept hs.1.1 hg hr,cell_kept hs.1.2.1 hg hr,(by obtain ⟨ao,co',h1,h2⟩:=hs.1.2.2.1;exact ⟨ao,co',cell_kept h1 hg hr,h2.1.noncell hg hr,h2.2⟩),(by obtain ⟨ao,co',h1,h2⟩:=hs.1.2.2.1;exact (frozen_kept h1 hg hr).trans hs.1.2.2.2)⟩,Nat.le_trans hs.2 hg.size⟩) _) (ownFrom_below (by rw [Hs.out];exact Nat.le_refl _) (by rw [HS5.out];omega)))
  (fun _ _ _ _ _ hs _ _ => hs)
  ⟨⟨⟨C0.out.cell,C1.out.cell,⟨_,_,C3.out.cell,⟨⟨rfl,a1e _,Bs.nil _ _ _,Nat.le_refl _,Nat.zero_le _⟩,fun e => by cases e⟩,fun bb off e => by cases e;omega⟩,C3.out.frozen⟩,Nat.le_refl _⟩,HB5.out⟩
  (fun y => { tmps:=#[.pointer (some ⟨b,0,none⟩),.slice aR T cR,.int .u8 (toI x),.pointer (some ⟨s,0,none⟩),undef,.pointer (some ⟨s + 1,0,none⟩),.slice none 0 0,.pointer (some ⟨s + 1 + 1 + 1,0,none⟩),undef,.slice (A y.1) n (C y.1),.slice (some ⟨s + 1 + 1,0,none⟩) 0 0,.slice aR T cR,.func (.func 102) #[] #[.pointer (some ⟨s + 1 + 1 + 1 + 1,0,none⟩)],.int .i64 ((y.1:Nat):Int),.slice (A y.1) n (C y.1),undef,undef,undef,undef,undef,undef],defers:=[] }) ?assign ?body ?done ?stop
 case assign =>
  intro l y W K hK
  dsimp only [e4a]
  gi_wp2
  exact hK
 case body =>
  rintro l pre y W ⟨⟨⟨h1,h2,⟨ao,co',h3,h4,hnw⟩,h5⟩,h6⟩,hB⟩ _
  obtain ⟨j,hj⟩:=y
  have hfw:=HF.out.below (show Below w.heap.size w W by rw [← Hs.out];exact hB)
  have hpw:=(HP.out j hj).on (show Below w.heap.size w W by rw [← Hs.out];exact hB)
  obtain ⟨o,ho⟩:∃ o,o = hrR R x pre:=⟨_,rfl⟩
  have HO:=hJ_ (a9y R x pre (⟨j,hj⟩:Fin T))
  rw [← ho] at h3 h4 HO
  have HSU:=hJ_ (b0g b (toI x) _ _ _ (iL (rw_ R j)) _ _ _ (iL o) W hfw (a2d x) hpw.1 h4.1 (by have:=HN.out;omega))
  rw [b9z] at HSU
  have H1:=hJ_ h1;have H2:=hJ_ h2;have H3:=hJ_ h3;have H5:=hJ_ h5;have H6:=hJ_ h6;have HBB:=hJ_ hB
  have HRL:=hJ_ (HW.out j hj)
  clear hfw hpw h4 hB h6 ho
  dsimp only
  gi_wp2_with (refine ⟨trivial,?_⟩;gi_at_call 81;refine (CallsIn.inRound l (callsIn_wide.2 HSU.out)).mono ?_;rintro e W1 ⟨g,rfl,hown,hb1⟩;have HO1:=hJ_ hown;have HB1:=hJ_ hb1;have k3:=cell_of_heap h3 (hb1.block (s + 1 + 1 + 1) (by have:=H6.out;rw [HS5.out] at this;omega));have k5:W1.frozen? ⟨s + 1 + 1 + 1,0,none⟩ = false:=(hb1.frozen (p:=⟨s + 1 + 1 + 1,0,none⟩) (by have:=H6.out;rw [HS5.out] at this;show s + 1 + 1 + 1 < _;omega)).trans h5;clear hown hb1)
  have hle5:s + 1 + 1 + 1 + 1 + 1 ≤ W.heap.size:=by have:=H6.out;rw [HS5.out] at this;exact this
  have hW1:=HB1.out.size
  have hgl:=HO1.out.lt g rfl
  have hbk:∀ k,k < W.heap.size → k ≠ s + 1 + 1 + 1 → (W1.setCell ⟨s + 1 + 1 + 1,0,none⟩ (.slice (some ⟨g,0,none⟩) n n)).heap[k]? = W.heap[k]?:=fun k h1 h2 => by
   rw [Below.heap_setCell _ _ _ _ h2];exact HB1.out.block k h1
  have hp9:Pa (W1.setCell ⟨s + 1 + 1 + 1,0,none⟩ (.slice (some ⟨g,0,none⟩) n n)) (some ⟨g,0,none⟩) n n (c3q (rw_ R j) x o):=
   (Pa.own2 HO1.out).but (a2u _ _ _ _) (fun b off e => by cases e;omega)
  have hl9:(hrR R x (pre ++ [(⟨j,hj⟩:Fin T)])).length = n:=by rw [HO.out,a3t];exact HRL.out
  refine ⟨(KeepsOthers.ofBelow HB1.out).trans (KeepsOthers.setCell _ _ _),fun r => ⟨cell_of_heap r.1 (hbk _ (by show s + 1 + 1 + 1 + 1 < _;omega) (by show s + 1 + 1 + 1 + 1 ≠ _;omega)),fun i hi => ?_⟩,⟨⟨cell_of_heap H1.out (hbk _ (by show s < _;omega) (by show s ≠ _;omega)),cell_of_heap H2.out (hbk _ (by show s + 1 < _;omega) (by show s + 1 ≠ _;omega)),⟨some ⟨g,0,none⟩,n,?_,?_,fun bb off e => by cases e;omega⟩,?_⟩,?_⟩,?_⟩
  ·obtain ⟨b',off,e,hc⟩:=r.2 i hi
   obtain ⟨b2,off2,e2,hb2,_⟩:=HA.out i hi
   rw [e] at e2;cases e2
   have:=Hs.out
   exact ⟨b',off,e,cell_of_heap hc (hbk _ (by show b' < _;omega) (by show b' ≠ _;omega))⟩
  ·rw [hl9];exact World.cell?_setCell_same' _ _ _ (by rw [k3];rfl)
  ·rw [hl9,HO.out];exact hp9
  ·rw [World.frozen?_setCell];exact k5
  ·exact Nat.le_trans H6.out (Nat.le_trans hW1 (by simp))
  ·exact (HBB.out.trans (HB1.out.mono (by omega))).setCell (p:=⟨s + 1 + 1 + 1,0,none⟩) (by show s ≤ s + 1 + 1 + 1;omega) _
 case done =>
  rintro D ys W hD ⟨hys,hbk⟩ ⟨⟨⟨h1,h2,⟨ao,co',h3,h4,hnw⟩,h5⟩,h6⟩,hB⟩ hK
  have he:=c5k (x:=x) HW.out hys hbk HT.out.1
  have hl:(hrR R x ys).length = n:=b9e R x T n HW.out ys (by rw [hys];exact HT.out.1)
  rw [hl] at h3 h4
  rw [he] at h4
  have H4:=hJ_ h4
  have HBB:=hJ_ hB
  clear h4 hB he hl
  gi_wp2
  refine ⟨by simp,.inl ⟨_,_,rfl,run_takeDeferred hK,?_⟩⟩
  have hkb:=belowK_b (w:=V5) (n₀:=s) (by rw [HS5.out];omega) W D _ (.deferred none) hD hK rfl rfl
  refine ⟨_,results_tmp rfl _ _ _,ao,co',rfl,H4.out.noncell (grownBy_putObj' W D (.deferred none)) (fun r e => by cases e;exact ⟨_,hK,rfl⟩),by rw [← Hs.out];exact hnw,by rw [← Hs.out];exact HBB.out.trans hkb⟩
 case stop =>
  rintro D c pre W _ _ h _
  exact h.elim
end
theorem a9w {P:Program} (w:World) {ops:Array Oper} {rest:List Oper} {o:Oper} {a:Act} {Q:Exit → Act → World → Prop} (hgd:o.guard = none) (s x:Operand) (t:TypeId)
 (ho:o.op = .call { callee:=.builtin .append,args:=#[s,x],argTypes:=#[t,t] })
 (e:TypeId) (i:TypeInfo) (ht:P.underlying t = some (.slice e)) (hi:P.info? e = some i) (hz:i.zero = some (.int .i64 0)) (hsize:i.size = 1) (hby:i.bytes = 8)
 (a1:Addr) (hs:a.eval s = .slice (some a1) 0 0) (a2:Addr) (z:Int) (hx:a.eval x = .slice (some a2) 1 1) (hc:w.cell? a2 = some (.int .i64 z))
 (h:∀ v' w',w'.ownsRow w.heap.size e 1 v' 1 [.int .i64 z] → Below w.heap.size w w' → wpList P ops Q rest (a.put o.dst v') w'):wpList P ops Q (o :: rest) a w:=by
 refine wpList_plain hgd fun K hK => ?_
 obtain ⟨v',w',hrun,r1,r2⟩:=run_append_arg_grows (P:=P) w t o.type e i (.int .i64 0) 1 8 ht hi hz hsize hby rfl (by decide) a1 0 0 [] rfl (fun j u h => by cases h) a2 1 1 [.int .i64 z] rfl (fun j u hj => by
  rcases j with _ | j
  ·rw [Addr.add_zero'];injection hj with hj;rw [← hj];exact hc
  ·cases hj) (by decide) (by unfold maxLen;omega) (by omega)
 unfold Oper.wp
 simp [execOp,ho,resolve,invoke,builtin,hs,hx,hrun,Result.andThen]
 exact hK _ _ (h v' w' r1 ((Below.refl _ _).grown r2 (Nat.le_refl _) (fun k hk => by cases hk)))
def a3i (X:List GF) (R P:List (List GF)) (j i:Nat):Nat:=((List.range i).filter fun p => decide (ev (rw_ P j) (co X p) ≠ co (rw_ R p) j)).length
theorem a5p (X:List GF) (R P:List (List GF)) (j i:Nat):a3i X R P j (i + 1) = a3i X R P j i + if ev (rw_ P j) (co X i) ≠ co (rw_ R i) j then 1 else 0:=by
 unfold a3i
 rw [List.range_succ,List.filter_append,List.length_append]
 by_cases h:ev (rw_ P j) (co X i) ≠ co (rw_ R i) j <;> simp [h]
theorem c8d (X:List GF) (R P:List (List GF)) (j i:Nat):a3i X R P j i ≤ i:=by
 unfold a3i;have:=List.length_filter_le (fun p => decide (ev (rw_ P j) (co X p) ≠ co (rw_ R p) j)) (List.range i);simpa using this
theorem b3v {X:List GF} {R P:List (List GF)} {j L:Nat} (hX:X.length = L):a3i X R P j L = (wrL X (a6w R L j) (rw_ P j)).length:=by
 unfold a3i wrL
 rw [hX]
 congr 1
 exact List.filter_congr fun p hp => by rw [a5u R (List.mem_range.1 hp)]
theorem b7y {X:List GF} {R P:List (List GF)} {n i:Nat}:wrF X R P n i = true ↔ ∃ q,q < n ∧ ev (rw_ P q) (co X i) ≠ co (rw_ R i) q:=by
 unfold wrF;rw [List.any_eq_true]
 exact ⟨fun ⟨q,h1,h2⟩ => ⟨q,List.mem_range.1 h1,of_decide_eq_true h2⟩,fun ⟨q,h1,h2⟩ => ⟨q,List.mem_range.2 h1,decide_eq_true h2⟩⟩
def mxW (f:Nat → Nat):Nat → Nat
 | 0 => 0
 | j + 1 => max (mxW f j) (f j)
theorem d5m (f:Nat → Nat):∀ j q,q < j → f q ≤ mxW f j
 | 0,q,h => absurd h (by omega)
 | j + 1,q,h => by
  unfold mxW
  by_cases e:q = j
  ·subst e;omega
  ·have:=d5m f j q (by omega);omega
theorem b8r (f:Nat → Nat):∀ j,mxW f j = 0 ∨ ∃ q,q < j ∧ mxW f j = f q
 | 0 => .inl rfl
 | j + 1 => by
  unfold mxW
  rcases Nat.le_total (mxW f j) (f j) with h | h
  ·exact .inr ⟨j,by omega,Nat.max_eq_right h⟩
  ·rw [Nat.max_eq_left h]
   rcases b8r f j with h2 | ⟨q,h2,h3⟩
   ·exact .inl h2
   ·exact .inr ⟨q,by omega,h3⟩
def e2t (N P:List (List GF)) (t n:Nat):Prop:=(∀ k,k < t → (rw_ N k).length = n) ∧ P.length = n ∧ ∀ j,j < n → (rw_ P j).length ≤ t ∧ ∀ k,k < t → co (rw_ N k) j = co (rw_ P j) k
theorem b6w {N P:List (List GF)} {t n j:Nat} (h:e2t N P t n) (hj:j < n) (x:GF):co (b0f N t n x) j = ev (rw_ P j) x:=by
 obtain ⟨h1,h2,h3⟩:=h
 have e:co (b0f N t n x) j = ev (c9x N t j) x:=by unfold b0f;unfold co;simp [List.getD_eq_getElem?_getD,hj]
 rw [e]
 refine a1z (fun k => ?_) x
 by_cases hk:k < t
 ·rw [b8h N hk];exact (h3 j hj).2 k hk
 ·rw [a0w (by rw [b3w];omega),a0w (by have:=(h3 j hj).1;omega)]
theorem c1n (N:List (List GF)) (t n:Nat) (x:GF):(b0f N t n x).length = n:=by unfold b0f;simp
def b5l (w:World) (s:Nat) (a:Option Addr) (c:Nat) (l:List Nat):Prop:=
 (l = [] ∧ a = some ⟨s,0,none⟩ ∧ c = 0) ∨ (l ≠ [] ∧ w.ownsRow (s + 2) 3 1 (.slice a l.length c) l.length ((zl l).map (Value.int .i64)))
theorem b5l.on {w w':World} {s c:Nat} {a:Option Addr} {l:List Nat} (h:b5l w s a c l) (hb:Below w.heap.size w w'):b5l w' s a c l:=by
 rcases h with h | ⟨h1,h2⟩
 ·exact .inl h
 ·exact .inr ⟨h1,a0o h2 hb⟩
theorem b5l.set {w:World} {s c j:Nat} {a:Option Addr} {l:List Nat} {v:Value} (h:b5l w s a c l):b5l (w.setCell ⟨s + 1,j,none⟩ v) s a c l:=by
 rcases h with h | ⟨h1,h2⟩
 ·exact .inl h
 ·refine .inr ⟨h1,h2.1,?_⟩
  rcases h2.2 with h3 | ⟨g,cap,cur,e,hg,hh,h4⟩
  ·exact .inl h3
  ·exact .inr ⟨g,cap,cur,e,hg,by rw [Below.heap_setCell _ _ _ _ (by show g ≠ s + 1;omega)];exact hh,h4⟩
theorem e6g {X:List GF} {R P:List (List GF)} {n N x:Nat} (h:x ∈ wrI X R P n N):x < N:=by
 unfold wrI at h;exact List.mem_range.1 (List.mem_filter.1 h).1
theorem b5l.ia {w:World} {s c:Nat} {a:Option Addr} {l:List Nat} (h:b5l w s a c l) (hx:∀ x,x ∈ l → x < 256):IA w a l.length c (zl l):=by
 rcases h with ⟨rfl,rfl,rfl⟩ | ⟨h1,h2⟩
 ·exact ⟨rfl,Nat.le_refl _,Nat.zero_le _,(fun e => by cases e),(fun i => by simp [zl]),fun h => absurd h (by simp)⟩
 ·obtain ⟨a',c',e,hia⟩:=IA.own h2 (fun z hz => by
   obtain ⟨x,hx',rfl⟩:=List.mem_map.1 hz
   have:=hx x hx'
   omega)
  cases e
  exact hia
theorem c5h {w:World} {base n c:Nat} {e:TypeId} {a:Option Addr} {xs:List Value} (h:w.ownsRow base e 1 (.slice a n c) n xs) (h0:0 < n):∃ g,(Value.slice a n c).ownBlock = some g ∧ base ≤ g ∧ g < w.heap.size:=by
 rcases h.2 with ⟨e,h1⟩ | ⟨g,cap,cur,e,hg,hh,_⟩
 ·omega
 ·cases e;exact ⟨g,rfl,hg,(Array.getElem?_eq_some_iff.1 hh).1⟩
theorem e6h (w:World) (i:Nat) (hi:i ≤ 200):IA (w.alloc (.cells #[.int .i64 (i:Int)] 3)) (some ⟨w.heap.size,0,none⟩) 1 1 [(i:Int)]:=by
 refine ⟨rfl,Nat.le_refl _,by unfold maxLen;omega,(fun e => by cases e),fun k => ?_,fun _ => ⟨w.heap.size,0,rfl,by simp,fun k hk => ?_⟩⟩
 ·rcases k with _ | k
  ·show -9223372036854775808 ≤ (i:Int) ∧ (i:Int) ≤ 9223372036854775807;omega
  ·show -9223372036854775808 ≤ (0:Int) ∧ (0:Int) ≤ 9223372036854775807;omega
 ·obtain rfl:k = 0:=by omega
  simp
set_option maxHeartbeats 8000000 in
theorem c2v (b L t n:Nat) (aN:Option Addr) (cN:Nat) (N:List (List GF)) (aX:Option Addr) (cX:Nat) (X:List GF) (aR:Option Addr) (cR:Nat) (R P:List (List GF)) (w:World) (hf:Fld w b) (hN:Mat w aN t cN N) (hX:Pa w aX L cX X) (hR:Mat w aR L cR R) (hP:e2t N P t n) (ht:1 ≤ t) (ht2:t ≤ 255) (hL0:1 ≤ L) (hL:L ≤ 200) (hw:∀ k,k < L → (rw_ R k).length = n) (hn:n ≤ 1000) :
 Calls Tryz.prog 97 #[.pointer (some ⟨b,0,none⟩),.slice aN t cN,.slice aX L cX,.slice aR L cR] w fun e w' => ∃ (a:Option Addr) (c:Nat),e = .returned (.tuple #[.slice a (wrI X R P n L).length c,.int .i64 ((mxW (fun j => a3i X R P j L) n:Nat):Int)]) ∧
  IA w' a (wrI X R P n L).length c (zl (wrI X R P n L)) ∧ Below w.heap.size w w':=by
 obtain ⟨bR,oR,a0,c0,hbe,hbR,hc0,hp0⟩:=hR.row (i:=0) (by omega)
 rw [hw 0 (by omega)] at hc0 hp0
 subst hbe
 have hmk:=run_make_row' (P:=Tryz.prog) 39 3 (.int .i64 0) 8 Tryz.underlying39 c6o rfl .i64 .i64 n (by omega) (by omega)
 rw [b6m] at hmk
 obtain ⟨i5,hi,hz0,hz1,hz2⟩:=info_parts c6o
 have HI:=hJ_ (And.intro hi (And.intro hz0 (And.intro hz1 hz2)))
 have HN:=hJ_ hN;have HX:=hJ_ hX;have HR:=hJ_ hR;have HF:=hJ_ hf
 have HC:=hJ_ (And.intro ht (And.intro ht2 (And.intro hL0 (And.intro hL hn))))
 have HW:=hJ_ hw;have HP:=hJ_ hP
 have hbx:=hX.bd;have hbr:=hR.bd;have hbn:=hN.bd;have hb0:=hp0.bd
 have qL:(0:Int) < (L:Int):=by omega
 have qn:(n:Int) ≤ 1000:=by omega
 have qL2:(L:Int) ≤ 200:=by omega
 rw [Nat.add_zero] at hc0
 have hA1:Below w.heap.size w (w.alloc (.cells #[] 3)):=(Below.refl _ _).alloc (Nat.le_refl _) _
 have hB0:Below w.heap.size w ((w.alloc (.cells #[] 3)).alloc (.cells (a0e n fun _ => .int .i64 0) 3)):=hA1.alloc (by simp) _
 have hK0:Blk ((w.alloc (.cells #[] 3)).alloc (.cells (a0e n fun _ => .int .i64 0) 3)) (w.heap.size + 1) 3 n (fun j => .int .i64 ((a3i X R P j 0:Nat):Int)):=by
  have h:=Blk.made (w.alloc (.cells #[] 3)) 3 n (fun _ => .int .i64 0)
  rw [a4t] at h
  exact h
 obtain ⟨s,hs⟩:∃ s,s = w.heap.size:=⟨_,rfl⟩
 rw [← hs] at hK0 hB0
 have HK0:=hJ_ hK0;have HB0:=hJ_ hB0;have HS:=hJ_ hs
 have hc1:=(hA1.cell (p:=⟨bR,oR,none⟩) hbR).trans hc0
 clear hi hz0 hz1 hz2 hN hX hR hf ht ht2 hL0 hL hw hn hP hp0 hA1 hB0 hK0
 go_enter Tryz.func97,Tryz.ntmps97
 go_wp2
 rw [← hs]
 clear hs
 go_loopw [27,10] (fun j o wr => ∃ (i:Nat) (a:Option Addr) (c:Nat),i ≤ L ∧ j = .int .i64 (i:Nat) ∧ o = .slice a (wrI X R P n i).length c ∧ Hid (b5l wr s a c (wrI X R P n i)) ∧ Hid (Blk wr (s + 1) 3 n (fun j => .int .i64 ((a3i X R P j i:Nat):Int))) ∧ Hid (Below s w wr))
  (fun j _ _ => L - (intOf j).toNat)
 case atStart => exact ⟨0,_,0,Nat.zero_le _,rfl,rfl,hJ_ (.inl ⟨rfl,rfl,rfl⟩),HK0,HB0⟩
 case round =>
  obtain ⟨i,a,c,hi,rfl,rfl,hWR,hK,hB⟩:=hrel
  rename World => w1
  have h01:Below w.heap.size w w1:=by rw [← HS.out];exact hB.out
  have H01:=hJ_ h01
  have HSZ:=hJ_ (show s + 1 < w1.heap.size from hK.out.lt)
  have HIS:=hJ_ (show i ≤ 200 by have:=HC.out;omega)
  clear h01
  by_cases hlt:i < L
  ·obtain ⟨bx,ox,rfl,hbx',hcx⟩:=(HX.out.on H01.out).at_ hlt
   obtain ⟨b9,o9,ai,ci,e9,hb9,hc9,hp9⟩:=(HR.out.on H01.out).row (i:=i) hlt
   cases e9
   rw [HW.out i hlt] at hc9 hp9
   have HPR:=hJ_ hp9
   have hd9:=hp9.bd
   have qi:(i:Int) < (L:Int):=by omega
   have qi0:(0:Int) ≤ (i:Int):=by omega
   have HVA:=hJ_ (b3d b t n aN cN N (co X i) w1 (HF.out.below H01.out) (HN.out.on H01.out) HP.out.1 HC.out.1 HC.out.2.1 HC.out.2.2.2.2)
   have HLT:=hJ_ hlt
   clear hp9 hlt
   by_cases hwr:wrF X R P n i = true
   ·have HNEQ:=hJ_ (show ¬ ∀ k,k < n → co (b0f N t n (co X i)) k = co (rw_ R i) k from fun h => by
     obtain ⟨q,h1,h2⟩:=b7y.1 hwr
     exact h2 ((b6w HP.out h1 (co X i)).symm.trans (h q h1)))
    rcases hWR.out with ⟨hl0,ha0,hc0'⟩ | ⟨hl0,how⟩
    ·have HWN:=hJ_ (show wrI X R P n (i + 1) = [i] by rw [b5b,if_pos hwr,hl0];rfl)
     have HWX:=hJ_ (show Below w1.heap.size w1 w1 → True from fun _ => trivial)
     subst ha0;subst hc0'
     rw [hl0]
     clear hwr hl0
     go_wp2_with (first
      | (go_at_call 71;go_loud (refine HVA.out.mono ?_;rintro e w2 ⟨aV,cV,rfl,hpv,hnw,hb⟩;have hc92:=(hb.cell (p:=⟨bR,oR + i,none⟩) hb9).trans hc9;have HPV2:=hJ_ hpv;have HNV:=hJ_ (show ∀ b off,aV = some ⟨b,off,none⟩ → w1.heap.size ≤ b from hnw);have HB12:=hJ_ hb;have hdv:=hpv.bd;have HEQ:=hJ_ (b8c aV n cV (b0f N t n (co X i)) ai n ci (rw_ R i) false w2 hpv (HPR.out.on hb) ⟨(fun e => by cases e),fun h => absurd h.2 (HNEQ.out)⟩);clear hpv hnw hb))
      | (go_at_call 119;go_loud (refine HEQ.out.mono ?_;rintro e w3 ⟨rfl,hb⟩;have HB13:=hJ_ (bt HB12.out hb);have HPV3:=hJ_ (HPV2.out.on hb);have HK3:=hJ_ (hK.out.on HB13.out hK.out.lt);clear hb))
      | ((with_reducible show wpList _ _ _ (⟨some 45,_,_,_,_,_⟩ :: _) _ _);go_loud (refine a9w _ rfl (.tmp 42) (.tmp 44) 39 rfl 3 i5 Tryz.underlying39 HI.out.1 HI.out.2.1 HI.out.2.2.1 HI.out.2.2.2 ⟨s,0,none⟩ rfl ⟨w3.heap.size,0,none⟩ (i:Int) rfl (by simp) ?_;intro v4 w4 ho hb;obtain ⟨a4,c4,hv4⟩:=a3d ho;subst hv4;have hA34:=((Below.refl w3.heap.size w3).alloc (Nat.le_refl _) (.cells #[.int .i64 (i:Int)] 3)).trans (hb.mono (by simp));have HWR4:=hJ_ (show b5l w4 s a4 c4 (wrI X R P n (i + 1)) from (by rw [HWN.out];exact .inr ⟨by simp,a0t ho (by have h1:=HSZ.out;have h2:=HB13.out.size;simp;omega)⟩));have HK4:=hJ_ (HK3.out.on hA34 HK3.out.lt);have HPV4:=hJ_ (HPV3.out.on hA34);have HB14:=hJ_ (bt HB13.out hA34);have HLN:=hJ_ (show (wrI X R P n (i + 1)).length = 1 by rw [HWN.out];rfl);clear ho hb hA34)))
     have HNV2:=hJ_ (show ∀ b off,aV = some ⟨b,off,none⟩ → b ≠ s + 1 from fun b off e => by have:=HNV.out b off e;have:=hK.out.lt;omega)
     have HB4:=hJ_ (show Below s w w4 from hB.out.trans (HB14.out.mono (by have:=HSZ.out;omega)))
     go_loopw [48] (fun q wr => ∃ j:Nat,j ≤ n ∧ q = .int .i64 (j:Nat) ∧ Hid (b5l wr s a4 c4 (wrI X R P n (i + 1))) ∧ Hid (Blk wr (s + 1) 3 n (fun j' => .int .i64 ((if j' < j then a3i X R P j' (i + 1) else a3i X R P j' i:Nat):Int))) ∧ Hid (Pa wr aV n cV (b0f N t n (co X i))) ∧ Hid (Below s w wr))
      (fun q _ => n - (intOf q).toNat)
     case atStart => exact ⟨0,Nat.zero_le _,rfl,HWR4,hJ_ (HK4.out.congr fun j' _ => by rw [if_neg (Nat.not_lt_zero j')]),HPV4,HB4⟩
     case round =>
      obtain ⟨j,hj,rfl,hW5,hK5,hPV5,hB5⟩:=hrel
      rename World => w5
      by_cases hlj:j < n
      ·obtain ⟨bv,ov,rfl,hbv,hcv⟩:=hPV5.out.at_ hlj
       obtain ⟨b9,o9,ai',ci',e9,hb9,hc9,hp9⟩:=(HR.out.on (show Below w.heap.size w w5 from HS.out ▸ hB5.out)).row (i:=i) HLT.out
       cases e9
       rw [HW.out i HLT.out] at hc9 hp9
       obtain ⟨b8,o8,rfl,hb8,hc8⟩:=hp9.at_ hlj
       have hd9:=hp9.bd
       have qj:(j:Int) < (n:Int):=by omega
       have qj0:(0:Int) ≤ (j:Int):=by omega
       have HLJ:=hJ_ hlj
       obtain ⟨u,hu⟩:∃ u,u = toI (co (b0f N t n (co X i)) j):=⟨_,rfl⟩
       obtain ⟨v,hv⟩:∃ v,v = toI (co (rw_ R i) j):=⟨_,rfl⟩
       rw [← hu] at hcv
       rw [← hv] at hc8
       have hev:=b6w HP.out hlj (co X i)
       by_cases hne:ev (rw_ P j) (co X i) = co (rw_ R i) j
       ·have q5:(u != v) = false:=by rw [hu,hv,hev,hne];simp
        have HK6:=hJ_ (hK5.out.congr (h:=fun j' => .int .i64 ((if j' < j + 1 then a3i X R P j' (i + 1) else a3i X R P j' i:Nat):Int)) fun j' _ => by
         by_cases e:j' = j
         ·rw [e,if_neg (Nat.lt_irrefl j),if_pos (Nat.lt_succ_self j),a5p,if_neg (fun h => h hne)];rfl
         ·by_cases e2:j' < j
          ·rw [if_pos e2,if_pos (by omega)]
          ·rw [if_neg e2,if_neg (by omega)])
        clear hu hv hev hne hp9 hlj
        go_wp2
        go_quiet (fail)
        go_wp2
        go_roundw
        case rel => exact ⟨j + 1,by have:=HLJ.out;omega,by go_num,hJ_ (hW5.out.on (below_drewN (Below.refl _ _) _)),hJ_ (Blk.drewN HK6.out _),hJ_ (hPV5.out.on (below_drewN (Below.refl _ _) _)),hJ_ (below_drewN hB5.out _)⟩
        case measure => simp [intOf];have:=HLJ.out;omega
       ·have q5:(u != v) = true:=by rw [bne_iff_ne,hu,hv,hev];exact fun h => hne (a7c h)
        obtain ⟨C,hC⟩:∃ C,C = a3i X R P j i:=⟨_,rfl⟩
        have HCC:=hJ_ hC
        have HNE:=hJ_ hne
        have qC:(C:Int) ≤ 200:=by have:=c8d X R P j i;have:=HIS.out;omega
        clear hu hv hev hne hp9 hC hlj
        go_wp2
        go_quiet (fail)
        obtain ⟨V2,hV2⟩:∃ V2,V2 = w5.drewN nq:=⟨_,rfl⟩
        have hK6:Blk V2 (s + 1) 3 n (fun j' => .int .i64 ((if j' < j then a3i X R P j' (i + 1) else a3i X R P j' i:Nat):Int)):=by rw [hV2];exact Blk.drewN hK5.out _
        have hcc:=hK6.cell HLJ.out
        rw [if_neg (Nat.lt_irrefl j),← HCC.out] at hcc
        have hff:=hK6.free j
        have HK7:=hJ_ ((hK6.set HLJ.out (.int .i64 ((C:Int) + 1))).congr (h:=fun j' => .int .i64 ((if j' < j + 1 then a3i X R P j' (i + 1) else a3i X R P j' i:Nat):Int)) fun j' _ => by
         by_cases e:j' = j
         ·rw [if_pos e,e,if_pos (Nat.lt_succ_self j),a5p,if_pos HNE.out,← HCC.out];rfl
         ·rw [if_neg e]
          by_cases e2:j' < j
          ·rw [if_pos e2,if_pos (by omega)]
          ·rw [if_neg e2,if_neg (by omega)])
        have HW7:=hJ_ (show b5l (V2.setCell ⟨s + 1,j,none⟩ (.int .i64 ((C:Int) + 1))) s a4 c4 (wrI X R P n (i + 1)) from b5l.set (by rw [hV2];exact hW5.out.on (below_drewN (Below.refl _ _) _)))
        have HPV7:=hJ_ ((show Pa V2 (some ⟨bv,ov,none⟩) n cV (b0f N t n (co X i)) by rw [hV2];exact hPV5.out.on (below_drewN (Below.refl _ _) _)).but (a2u V2 (s + 1) j (.int .i64 ((C:Int) + 1))) HNV2.out)
        have HB7:=hJ_ ((show Below s w V2 by rw [hV2];exact below_drewN hB5.out _).setCell (p:=⟨s + 1,j,none⟩) (by show s ≤ s + 1;omega) (.int .i64 ((C:Int) + 1)))
        rw [← hV2]
        clear hV2 hK6
        go_wp2
        go_roundw
        case rel => exact ⟨j + 1,by have:=HLJ.out;omega,by go_num,HW7,HK7,HPV7,HB7⟩
        case measure => simp [intOf];have:=HLJ.out;omega
      ·have HK6:=hJ_ (hK5.out.congr (h:=fun j' => .int .i64 ((a3i X R P j' (i + 1):Nat):Int)) fun j' hj' => by rw [if_pos (by omega)])
       have qj:¬ (j:Int) < (n:Int):=by omega
       clear hlj
       go_wp2
       go_roundw
       case rel => exact ⟨i + 1,a4,c4,by have:=HLT.out;omega,by go_num,by rw [HLN.out],hW5,HK6,hB5⟩
       case measure => simp [intOf];have:=HLT.out;omega
    ·have HWN:=hJ_ (show wrI X R P n (i + 1) = wrI X R P n i ++ [i] by rw [b5b,if_pos hwr])
     have HWR1:=hJ_ how
     have HWL:=hJ_ (show 0 < (wrI X R P n i).length from List.length_pos_iff.2 hl0)
     have HWX:=hJ_ (fun (V:World) (hb:Below w1.heap.size w1 V) => a0o how hb)
     clear hwr hl0 how
     go_wp2_with (first
      | (go_at_call 71;go_loud (refine HVA.out.mono ?_;rintro e w2 ⟨aV,cV,rfl,hpv,hnw,hb⟩;have hc92:=(hb.cell (p:=⟨bR,oR + i,none⟩) hb9).trans hc9;have HPV2:=hJ_ hpv;have HNV:=hJ_ (show ∀ b off,aV = some ⟨b,off,none⟩ → w1.heap.size ≤ b from hnw);have HB12:=hJ_ hb;have hdv:=hpv.bd;have HEQ:=hJ_ (b8c aV n cV (b0f N t n (co X i)) ai n ci (rw_ R i) false w2 hpv (HPR.out.on hb) ⟨(fun e => by cases e),fun h => absurd h.2 (HNEQ.out)⟩);clear hpv hnw hb))
      | (go_at_call 119;go_loud (refine HEQ.out.mono ?_;rintro e w3 ⟨rfl,hb⟩;have HB13:=hJ_ (bt HB12.out hb);have HPV3:=hJ_ (HPV2.out.on hb);have HK3:=hJ_ (hK.out.on HB13.out hK.out.lt);have HW3:=hJ_ (HWX.out w3 HB13.out);clear hb))
      | ((with_reducible show wpList _ _ _ (⟨some 45,_,_,_,_,_⟩ :: _) _ _);go_loud (refine a5b _ rfl (.tmp 42) (.tmp 44) 39 rfl (s + 2) 3 i5 Tryz.underlying39 HI.out.1 HI.out.2.1 HI.out.2.2.1 HI.out.2.2.2 (.slice a (wrI X R P n i).length c) (wrI X R P n i).length (zl (wrI X R P n i)) rfl (a0o HW3.out ((Below.refl _ _).alloc (Nat.le_refl _) _)) (some ⟨w3.heap.size,0,none⟩) 1 1 [(i:Int)] rfl (e6h w3 i HIS.out) (by have:=d6u X R P n i;have:=HIS.out;omega) (by have h1:=HSZ.out;have h2:=HB13.out.size;simp;omega) ?_;intro v4 w4 ho hg;obtain ⟨a4,c4,hv4⟩:=a3d ho;subst hv4;obtain ⟨g9,eg9,hg9,hg9l⟩:=c5h HWR1.out HWL.out;have hgb:((w3.alloc (.cells #[.int .i64 (i:Int)] 3))).grownBy w4 (some g9):=(by rw [eg9] at hg;exact hg);have hA3:=(Below.refl w3.heap.size w3).alloc (Nat.le_refl _) (.cells #[.int .i64 (i:Int)] 3);have HWR4:=hJ_ (show b5l w4 s a4 c4 (wrI X R P n (i + 1)) from (by rw [HWN.out];exact .inr ⟨by simp,by rw [List.length_append,e3l];exact ho⟩));have HK4:=hJ_ (Blk.but (HK3.out.on hA3 HK3.out.lt) hgb (by omega));have HPV4:=hJ_ ((HPV3.out.on hA3).but hgb (fun b off e => (by have:=HNV.out b off e;omega)));have HB14:=hJ_ (show Below s w1 w4 from ((bt HB13.out hA3).mono (show s ≤ w1.heap.size by have h1:=HSZ.out;omega)).grown hgb (by have h1:=HSZ.out;have h2:=HB13.out.size;simp;omega) (fun k hk => (by cases hk;omega)));have HLN:=hJ_ (show (wrI X R P n (i + 1)).length = (wrI X R P n i).length + 1 by rw [HWN.out];simp);clear ho hg hgb hA3)))
     have HNV2:=hJ_ (show ∀ b off,aV = some ⟨b,off,none⟩ → b ≠ s + 1 from fun b off e => by have:=HNV.out b off e;have:=hK.out.lt;omega)
     have HB4:=hJ_ (show Below s w w4 from hB.out.trans HB14.out)
     go_loopw [48] (fun q wr => ∃ j:Nat,j ≤ n ∧ q = .int .i64 (j:Nat) ∧ Hid (b5l wr s a4 c4 (wrI X R P n (i + 1))) ∧ Hid (Blk wr (s + 1) 3 n (fun j' => .int .i64 ((if j' < j then a3i X R P j' (i + 1) else a3i X R P j' i:Nat):Int))) ∧ Hid (Pa wr aV n cV (b0f N t n (co X i))) ∧ Hid (Below s w wr))
      (fun q _ => n - (intOf q).toNat)
     case atStart => exact ⟨0,Nat.zero_le _,rfl,HWR4,hJ_ (HK4.out.congr fun j' _ => by rw [if_neg (Nat.not_lt_zero j')]),HPV4,HB4⟩
     case round =>
      obtain ⟨j,hj,rfl,hW5,hK5,hPV5,hB5⟩:=hrel
      rename World => w5
      by_cases hlj:j < n
      ·obtain ⟨bv,ov,rfl,hbv,hcv⟩:=hPV5.out.at_ hlj
       obtain ⟨b9,o9,ai',ci',e9,hb9,hc9,hp9⟩:=(HR.out.on (show Below w.heap.size w w5 from HS.out ▸ hB5.out)).row (i:=i) HLT.out
       cases e9
       rw [HW.out i HLT.out] at hc9 hp9
       obtain ⟨b8,o8,rfl,hb8,hc8⟩:=hp9.at_ hlj
       have hd9:=hp9.bd
       have qj:(j:Int) < (n:Int):=by omega
       have qj0:(0:Int) ≤ (j:Int):=by omega
       have HLJ:=hJ_ hlj
       obtain ⟨u,hu⟩:∃ u,u = toI (co (b0f N t n (co X i)) j):=⟨_,rfl⟩
       obtain ⟨v,hv⟩:∃ v,v = toI (co (rw_ R i) j):=⟨_,rfl⟩
       rw [← hu] at hcv
       rw [← hv] at hc8
       have hev:=b6w HP.out hlj (co X i)
       by_cases hne:ev (rw_ P j) (co X i) = co (rw_ R i) j
       ·have q5:(u != v) = false:=by rw [hu,hv,hev,hne];simp
        have HK6:=hJ_ (hK5.out.congr (h:=fun j' => .int .i64 ((if j' < j + 1 then a3i X R P j' (i + 1) else a3i X R P j' i:Nat):Int)) fun j' _ => by
         by_cases e:j' = j
         ·rw [e,if_neg (Nat.lt_irrefl j),if_pos (Nat.lt_succ_self j),a5p,if_neg (fun h => h hne)];rfl
         ·by_cases e2:j' < j
          ·rw [if_pos e2,if_pos (by omega)]
          ·rw [if_neg e2,if_neg (by omega)])
        clear hu hv hev hne hp9 hlj
        go_wp2
        go_quiet (fail)
        go_wp2
        go_roundw
        case rel => exact ⟨j + 1,by have:=HLJ.out;omega,by go_num,hJ_ (hW5.out.on (below_drewN (Below.refl _ _) _)),hJ_ (Blk.drewN HK6.out _),hJ_ (hPV5.out.on (below_drewN (Below.refl _ _) _)),hJ_ (below_drewN hB5.out _)⟩
        case measure => simp [intOf];have:=HLJ.out;omega
       ·have q5:(u != v) = true:=by rw [bne_iff_ne,hu,hv,hev];exact fun h => hne (a7c h)
        obtain ⟨C,hC⟩:∃ C,C = a3i X R P j i:=⟨_,rfl⟩
        have HCC:=hJ_ hC
        have HNE:=hJ_ hne
        have qC:(C:Int) ≤ 200:=by have:=c8d X R P j i;have:=HIS.out;omega
        clear hu hv hev hne hp9 hC hlj
        go_wp2
        go_quiet (fail)
        obtain ⟨V2,hV2⟩:∃ V2,V2 = w5.drewN nq:=⟨_,rfl⟩
        have hK6:Blk V2 (s + 1) 3 n (fun j' => .int .i64 ((if j' < j then a3i X R P j' (i + 1) else a3i X R P j' i:Nat):Int)):=by rw [hV2];exact Blk.drewN hK5.out _
        have hcc:=hK6.cell HLJ.out
        rw [if_neg (Nat.lt_irrefl j),← HCC.out] at hcc
        have hff:=hK6.free j
        have HK7:=hJ_ ((hK6.set HLJ.out (.int .i64 ((C:Int) + 1))).congr (h:=fun j' => .int .i64 ((if j' < j + 1 then a3i X R P j' (i + 1) else a3i X R P j' i:Nat):Int)) fun j' _ => by
         by_cases e:j' = j
         ·rw [if_pos e,e,if_pos (Nat.lt_succ_self j),a5p,if_pos HNE.out,← HCC.out];rfl
         ·rw [if_neg e]
          by_cases e2:j' < j
          ·rw [if_pos e2,if_pos (by omega)]
          ·rw [if_neg e2,if_neg (by omega)])
        have HW7:=hJ_ (show b5l (V2.setCell ⟨s + 1,j,none⟩ (.int .i64 ((C:Int) + 1))) s a4 c4 (wrI X R P n (i + 1)) from b5l.set (by rw [hV2];exact hW5.out.on (below_drewN (Below.refl _ _) _)))
        have HPV7:=hJ_ ((show Pa V2 (some ⟨bv,ov,none⟩) n cV (b0f N t n (co X i)) by rw [hV2];exact hPV5.out.on (below_drewN (Below.refl _ _) _)).but (a2u V2 (s + 1) j (.int .i64 ((C:Int) + 1))) HNV2.out)
        have HB7:=hJ_ ((show Below s w V2 by rw [hV2];exact below_drewN hB5.out _).setCell (p:=⟨s + 1,j,none⟩) (by show s ≤ s + 1;omega) (.int .i64 ((C:Int) + 1)))
        rw [← hV2]
        clear hV2 hK6
        go_wp2
        go_roundw
        case rel => exact ⟨j + 1,by have:=HLJ.out;omega,by go_num,HW7,HK7,HPV7,HB7⟩
        case measure => simp [intOf];have:=HLJ.out;omega
      ·have HK6:=hJ_ (hK5.out.congr (h:=fun j' => .int .i64 ((a3i X R P j' (i + 1):Nat):Int)) fun j' hj' => by rw [if_pos (by omega)])
       have qj:¬ (j:Int) < (n:Int):=by omega
       clear hlj
       go_wp2
       go_roundw
       case rel => exact ⟨i + 1,a4,c4,by have:=HLT.out;omega,by go_num,by rw [HLN.out],hW5,HK6,hB5⟩
       case measure => simp [intOf];have:=HLT.out;omega
   ·have hwf:wrF X R P n i = false:=by simpa using hwr
    have HWN:=hJ_ (show wrI X R P n (i + 1) = wrI X R P n i by rw [b5b,hwf];simp)
    have HKN:=hJ_ (hK.out.congr (h:=fun j => .int .i64 ((a3i X R P j (i + 1):Nat):Int)) fun j hj => by
     rw [a5p,if_neg (fun h => hwr (b7y.2 ⟨j,hj,h⟩))];rfl)
    have HEV:=hJ_ (show ∀ k,k < n → co (b0f N t n (co X i)) k = co (rw_ R i) k from fun k hk => by
     rw [b6w HP.out hk]
     exact Classical.byContradiction fun h => hwr (b7y.2 ⟨k,hk,h⟩))
    clear hwr hwf
    go_wp2_with (first
     | (go_at_call 71;go_loud (refine HVA.out.mono ?_;rintro e w2 ⟨aV,cV,rfl,hpv,hnw,hb⟩;have hc92:=(hb.cell (p:=⟨bR,oR + i,none⟩) hb9).trans hc9;have HB12:=hJ_ hb;have hdv:=hpv.bd;have HEQ:=hJ_ (b8c aV n cV (b0f N t n (co X i)) ai n ci (rw_ R i) true w2 hpv (HPR.out.on hb) ⟨fun _ => ⟨rfl,HEV.out⟩,fun _ => rfl⟩);clear hpv hnw hb))
     | (go_at_call 119;go_loud (refine HEQ.out.mono ?_;rintro e w3 ⟨rfl,hb⟩;have HB13:=hJ_ (bt HB12.out hb);clear hb)))
    have HK3:=hJ_ (HKN.out.on HB13.out HKN.out.lt)
    have HW3:=hJ_ (hWR.out.on HB13.out)
    have HB3:=hJ_ (hB.out.trans (HB13.out.mono (by have:=HSZ.out;omega)))
    go_roundw
    case rel => exact ⟨i + 1,a,c,by have:=HLT.out;omega,by go_num,by rw [HWN.out],by rw [HWN.out];exact HW3,HK3,HB3⟩
    case measure => simp [intOf];have:=HLT.out;omega
  ·obtain rfl:i = L:=by omega
   go_wp2
   go_loopw [73,16] (fun q mo wr => ∃ j:Nat,j ≤ n ∧ q = .int .i64 (j:Nat) ∧ mo = .int .i64 ((mxW (fun j => a3i X R P j i) j:Nat):Int) ∧ wr = w1)
    (fun q _ _ => n - (intOf q).toNat)
   case atStart => exact ⟨0,Nat.zero_le _,rfl,rfl,rfl⟩
   case round =>
    obtain ⟨j,hj,rfl,rfl,rfl⟩:=hrel
    by_cases hlj:j < n
    ·have qj:(j:Int) < (n:Int):=by omega
     have qj0:(0:Int) ≤ (j:Int):=by omega
     have hcc:=hK.out.cell hlj
     have hmx:mxW (fun j => a3i X R P j i) (j + 1) = max (mxW (fun j => a3i X R P j i) j) (a3i X R P j i):=rfl
     have HMX:=hJ_ hmx
     obtain ⟨y,hy⟩:∃ y,y = mxW (fun j => a3i X R P j i) j:=⟨_,rfl⟩
     obtain ⟨x,hx⟩:∃ x,x = a3i X R P j i:=⟨_,rfl⟩
     rw [← hy,← hx] at HMX
     rw [← hx] at hcc
     rw [← hy]
     have HLJ:=hJ_ hlj
     clear hy hx hmx hlj
     by_cases hxy:y < x
     ·have q1:(y:Int) < (x:Int):=by omega
      have HM2:=hJ_ (HMX.out.trans (Nat.max_eq_right (by omega)))
      clear hxy
      go_wp2
      go_roundw
      case rel => exact ⟨j + 1,by have:=HLJ.out;omega,by go_num,by rw [HM2.out],by trivial⟩
      case measure => simp [intOf];have:=HLJ.out;omega
     ·have q1:¬ (y:Int) < (x:Int):=by omega
      have HM2:=hJ_ (HMX.out.trans (Nat.max_eq_left (by omega)))
      clear hxy
      go_wp2
      go_roundw
      case rel => exact ⟨j + 1,by have:=HLJ.out;omega,by go_num,by rw [HM2.out],by trivial⟩
      case measure => simp [intOf];have:=HLJ.out;omega
    ·obtain rfl:j = n:=by omega
     have HIA:=hJ_ (b5l.ia hWR.out (fun x hx => by have:=e6g hx;have:=HIS.out;omega))
     go_wp2
     go_ret2
     exact ⟨a,c,rfl,HIA.out,H01.out⟩
theorem d4z {N:Int} (h:(Lit.int .i64 N).wf = true):-9223372036854775808 ≤ N ∧ N ≤ 9223372036854775807:=by
 simpa [Lit.wf,IntKind.min,IntKind.max,IntKind.signed,IntKind.bits] using h
theorem d8o {X:List GF} {R N P:List (List GF)} {L t n:Nat} (h:e4t X R N P L t n) (hN:∀ k,k < t → (rw_ N k).length = n):e2t N P t n:=
 ⟨hN,h.1,fun j hj => ⟨(h.2 j hj).1.2.1,(h.2 j hj).2⟩⟩
theorem d7z {X:List GF} {R N P:List (List GF)} {L t n:Nat} {e:Nat} (hX:X.length = L) (h:e4t X R N P L t n) :
 (mxW (fun j => a3i X R P j L) n ≤ e → ∀ j,j < n → a1p X (a6w R L j) t e (rw_ P j)) ∧ (e < mxW (fun j => a3i X R P j L) n → ∃ j,j < n ∧ ∀ q,¬ a1p X (a6w R L j) t e q):=by
 refine ⟨fun hm j hj => ?_,fun hm => ?_⟩
 ·obtain ⟨h1,h2,h3,_⟩:=(h.2 j hj).1
  have:=d5m (fun j => a3i X R P j L) n j hj
  rw [show a3i X R P j L = _ from b3v hX] at this
  exact ⟨h1,h2,by omega,h3⟩
 ·rcases b8r (fun j => a3i X R P j L) n with h0 | ⟨j,hj,h0⟩
  ·omega
  ·refine ⟨j,hj,fun q hq => ?_⟩
   have e1:=(h.2 j hj).1.2.2.2 _ q hq
   have e2:=hq.2.2.1
   rw [e1,← b3v (L:=L) (R:=R) hX,← h0] at e2
   omega
theorem d7m {X:List GF} {R N P:List (List GF)} {L t n:Nat} (hX:X.length = L) (h:e4t X R N P L t n):mxW (fun j => a3i X R P j L) n ≤ (L - t) / 2:=by
 rcases b8r (fun j => a3i X R P j L) n with h0 | ⟨j,hj,h0⟩
 ·omega
 ·have h3:=(h.2 j hj).1.2.2.1
  rw [← b3v (L:=L) (R:=R) hX,hX] at h3
  have h0:mxW (fun j => a3i X R P j L) n = a3i X R P j L:=h0
  omega
set_option maxHeartbeats 4000000 in
theorem c2q (b L t n:Nat) (e:Int) (aX:Option Addr) (cX:Nat) (X:List GF) (aR:Option Addr) (cR:Nat) (R:List (List GF)) (w:World) (hf:Fld w b) (hX:Pa w aX L cX X) (hR:Mat w aR L cR R) (hA:Apart X) (ht:1 ≤ t) (htL:t ≤ L) (hL:L ≤ 200) (hw:∀ k,k < L → (rw_ R k).length = n) (hn:n ≤ 1000) (he:(Lit.int .i64 e).wf = true) (he0:0 ≤ e) :
 Calls Tryz.prog 70 #[.pointer (some ⟨b,0,none⟩),.int .i64 (t:Nat),.slice aX L cX,.slice aR L cR,.int .i64 e] w fun r w' => ∃ (a1 a2:Option Addr) (m1 c1 m2 c2:Nat) (er:Int),r = .returned (.tuple #[.slice a1 m1 c1,.slice a2 m2 c2,.int .i64 er]) ∧
  Hid ((er = 0 ∧ ∃ N P,m1 = t ∧ Mat w' a1 t c1 N ∧ e2t N P t n ∧ m2 = (wrI X R P n L).length ∧ IA w' a2 m2 c2 (zl (wrI X R P n L)) ∧ ∀ j,j < n → a1p X (a6w R L j) t e.toNat (rw_ P j)) ∨ (er = 11 ∧ ∃ j,j < n ∧ ∀ q,¬ a1p X (a6w R L j) t e.toNat q)) ∧ Below w.heap.size w w':=by
 have HSO:=hJ_ (c2g b L t n aX cX X aR cR R w hf hX hR hA ht htL hL hw hn)
 have HX:=hJ_ hX;have HR:=hJ_ hR;have HF:=hJ_ hf
 have HC:=hJ_ (And.intro hA (And.intro hX.len (And.intro ht (And.intro htL (And.intro hL hn)))))
 have HW:=hJ_ hw
 have hbx:=hX.bd;have hbr:=hR.bd
 have hei:=d4z he
 have HRD:=hJ_ (c3d L t)
 have qt:(t:Int) ≤ 200:=by omega
 clear hf hX hR hA ht htL hL hw hn he
 go_enter Tryz.func70,Tryz.ntmps70
 go_wp2_with (go_at_call 96;go_loud (refine HSO.out.mono ?_;rintro r w1 ⟨a1,m1,c1,bb,rfl,hs,hb⟩;have HB1:=hJ_ hb;clear hb))
 ·have hbb:bb = false:=by cases bb <;> simp_all
  obtain ⟨j,hj,hno⟩:=hs.out.2 hbb
  have HNO:=hJ_ (show ∃ j,j < n ∧ ∀ q,¬ a1p X (a6w R L j) t e.toNat q from ⟨j,hj,fun q => hno _ q⟩)
  clear hno hj
  go_ret3
  exact ⟨none,none,0,0,0,0,11,rfl,hJ_ (.inr ⟨rfl,HNO.out⟩),HB1.out⟩
 ·have hbb:bb = true:=by cases bb <;> simp_all
  obtain ⟨g,N,P,rfl,rfl,rfl,hrb,hso⟩:=hs.out.1 hbb
  have HMT:=hJ_ (hrb.mat (by have:=HC.out;omega))
  have HNP:=hJ_ (d8o hso (fun k hk => by obtain ⟨_,_,_,_,_,h9⟩:=hrb;exact (h9 k hk).1))
  have HSL:=hJ_ hso
  have hdm:=HMT.out.bd
  clear hrb hso hbb
  obtain ⟨m,hm⟩:∃ m,m = mxW (fun j => a3i X R P j L) n:=⟨_,rfl⟩
  have hrf:=d7m HC.out.2.1 HSL.out
  obtain ⟨f1,f2⟩:=d7z (e:=e.toNat) HC.out.2.1 HSL.out
  rw [← hm] at hrf f1 f2
  obtain ⟨r,hr⟩:∃ r,r = (L - c1) / 2:=⟨_,rfl⟩
  rw [← hr] at hrf
  have HF1:=hJ_ f1
  have HF2:=hJ_ f2
  have HR':=hJ_ hr
  have qr:(r:Int) ≤ 200:=by have:=HC.out;omega
  have qm:(m:Int) ≤ (r:Int):=by omega
  have HST:=hJ_ (c2v b L c1 n (some ⟨g,0,none⟩) c1 N aX cX X aR cR R P w1 (HF.out.below HB1.out) HMT.out (HX.out.on HB1.out) (HR.out.on HB1.out) HNP.out HC.out.2.2.1 (by have:=HC.out;omega) (by have:=HC.out;omega) HC.out.2.2.2.2.1 HW.out HC.out.2.2.2.2.2)
  rw [← hm] at HST
  clear f1 f2 hm hr hs hrf
  by_cases hre:(r:Int) < e
  ·have q2:¬ (r:Int) < (m:Int):=by omega
   have HRI:=hJ_ (HF1.out (by omega))
   go_wp2_with (first
    | (go_at_call 97;go_loud (refine HST.out.mono ?_;rintro x w2 ⟨a2,c2,rfl,hia,hb⟩;have HIA:=hJ_ hia;have HB2:=hJ_ (bt HB1.out hb);have HM2:=hJ_ (HMT.out.on hb);have hdi:=hia.bd;have HRA:=hJ_ (HRD.out w2 (by have:=HC.out;omega) (by have:=HC.out;omega));rw [← HR'.out] at HRA;clear hia hb))
    | (go_at_call 98;go_loud (refine HRA.out.mono ?_;rintro x w' ⟨rfl,rfl⟩)))
   go_ret3
   exact ⟨_,a2,_,_,_,c2,0,rfl,hJ_ (.inl ⟨rfl,N,P,rfl,HM2.out,HNP.out,rfl,HIA.out,HRI.out⟩),HB2.out⟩
  ·by_cases hme:e < (m:Int)
   ·have HNO:=hJ_ (HF2.out (by omega))
    go_wp2_with (first
     | (go_at_call 97;go_loud (refine HST.out.mono ?_;rintro x w2 ⟨a2,c2,rfl,hia,hb⟩;have HIA:=hJ_ hia;have HB2:=hJ_ (bt HB1.out hb);have HM2:=hJ_ (HMT.out.on hb);have hdi:=hia.bd;have HRA:=hJ_ (HRD.out w2 (by have:=HC.out;omega) (by have:=HC.out;omega));rw [← HR'.out] at HRA;clear hia hb))
     | (go_at_call 98;go_loud (refine HRA.out.mono ?_;rintro x w' ⟨rfl,rfl⟩)))
    go_ret3
    exact ⟨none,none,0,0,0,0,11,rfl,hJ_ (.inr ⟨rfl,HNO.out⟩),HB2.out⟩
   ·have HRI:=hJ_ (HF1.out (by omega))
    go_wp2_with (first
     | (go_at_call 97;go_loud (refine HST.out.mono ?_;rintro x w2 ⟨a2,c2,rfl,hia,hb⟩;have HIA:=hJ_ hia;have HB2:=hJ_ (bt HB1.out hb);have HM2:=hJ_ (HMT.out.on hb);have hdi:=hia.bd;have HRA:=hJ_ (HRD.out w2 (by have:=HC.out;omega) (by have:=HC.out;omega));rw [← HR'.out] at HRA;clear hia hb))
     | (go_at_call 98;go_loud (refine HRA.out.mono ?_;rintro x w' ⟨rfl,rfl⟩)))
    go_ret3
    exact ⟨_,a2,_,_,_,c2,0,rfl,hJ_ (.inl ⟨rfl,N,P,rfl,HM2.out,HNP.out,rfl,HIA.out,HRI.out⟩),HB2.out⟩
section
attribute [local go_sem] Oper.semAt_some
def ChR (n₀ Bx By b off N c:Nat) (W:World):Prop:=Bx < n₀ ∧ By < n₀ ∧ W.cell? ⟨Bx,0,none⟩ = some (.slice (some ⟨b,off,none⟩) N c) ∧ W.cell? ⟨By,0,none⟩ = some (.int .i64 1)
theorem ChR.below {n₀ Bx By b off N c:Nat} {W W':World} (h:ChR n₀ Bx By b off N c W) (hb:Below n₀ W W'):ChR n₀ Bx By b off N c W':=
 ⟨h.1,h.2.1,(hb.cell (p:=⟨Bx,0,none⟩) h.1).trans h.2.2.1,(hb.cell (p:=⟨By,0,none⟩) h.2.1).trans h.2.2.2⟩
end
end Go.Proofs.YtappfdbmhgifcaaGreatDoor
