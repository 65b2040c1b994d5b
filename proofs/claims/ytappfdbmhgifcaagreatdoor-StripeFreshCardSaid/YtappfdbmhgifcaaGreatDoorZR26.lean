/- Texts of mine, one behind the other: Hl Hv Hw2 Hw3 Hz2. -/
import Derived.Test.YtappfdbmhgifcaaGreatDoorZR25
import Derived.Deep.RegionHeldLaw
set_option linter.unusedVariables false
set_option linter.unusedSimpArgs false
set_option maxRecDepth 100000
namespace Go.Proofs.YtappfdbmhgifcaaGreatDoor
open Go.ChangeShapes Go.WideShapes Go.ChangeAt Go.RowKit Go.Shelf GF
theorem c8y {w:World} {base g n c:Nat} {vs:List Value} (h:w.ownsRow base 5 1 (.slice (some ⟨g,0,none⟩) n c) n vs):TyU w g:=by
 rcases h.2 with ⟨e,_⟩ | ⟨g',c',cur,e,_,hh,_⟩
 ·cases e
 ·cases e
  exact ⟨cur,(0,0),hh⟩
theorem b0o (w:World) (v:Value) (e:TypeId):∀ j u,[v][j]? = some u → (w.alloc (.cells #[v] e)).cell? ((⟨w.heap.size,0,none⟩:Addr).add j) = some u:=fun j u hu => by
 rcases j with _ | j
 ·have:v = u:=by simpa using hu
  subst this
  simp [Addr.add]
 ·simp at hu
theorem b8v {w:World} {base size n:Nat} {e:TypeId} {v:Value} {vs:List Value} (h:w.ownsRow base e size v n vs):∃ a c,v = .slice a n c:=by
 rcases h.2 with ⟨e1,e2⟩ | ⟨g,c,cur,e1,_⟩
 ·exact ⟨none,0,by rw [e1,e2]⟩
 ·exact ⟨_,c,e1⟩
set_option maxHeartbeats 1000000 in
theorem b5t (t n m:Nat) (aS:Option Addr) (cS:Nat) (S:List GF) (aM:Option Addr) (cM:Nat) (M:List GF) (x:GF) (w:World) (hS:Pa w aS n cS S) (hM:Pa w aM m cM M) (ht:1 ≤ t) (ht2:t ≤ 300) (hn:n ≤ 1000) (hm:m = (t - 1) * n) :
 Calls Tryz.prog 33 #[.int .i64 (t:Nat),.slice aS n cS,.slice aM m cM,.int .u8 (toI x)] w fun e w' => ∃ g c',e = .returned (.slice (some ⟨g,0,none⟩) n c') ∧ Pa w' (some ⟨g,0,none⟩) n c' (shR t n S M x) ∧ Below w.heap.size w w' ∧ TyU w' g:=by
 obtain ⟨i5,hi,hz0,hz1,hz2⟩:=info_parts info5
 have HI:=hJ_ (show Tryz.prog.info? 5 = some i5 ∧ i5.zero = some (.int .u8 0) ∧ i5.size = 1 ∧ i5.bytes = 1 from ⟨hi,hz0,hz1,hz2⟩)
 have HS:=hJ_ hS
 have HM:=hJ_ hM
 have HT:=hJ_ (show 1 ≤ t ∧ t ≤ 300 from ⟨ht,ht2⟩)
 have HN:=hJ_ hn
 have HMM:=hJ_ hm
 have HO0:=hJ_ (a6l w 5)
 have HB0:=hJ_ (show Below w.heap.size w (w.alloc (.cells #[] 5)) from (Below.refl _ _).alloc (Nat.le_refl _) _)
 clear hi hz0 hz1 hz2 hS hM ht ht2 hn hm
 go_enter Tryz.func33,Tryz.ntmps33
 go_wp2_with fail
 go_loopw [9,16] (fun o s wr => ∃ (i g c':Nat),i ≤ n ∧ s = .int .i64 (i:Nat) ∧ o = .slice (some ⟨g,0,none⟩) i c' ∧ wr.ownsRow w.heap.size 5 1 (.slice (some ⟨g,0,none⟩) i c') i ((iL (shP t n S M x i)).map (Value.int .u8)) ∧ Below w.heap.size w wr) (fun _ s _ => n - (intOf s).toNat)
 case atStart => exact ⟨0,_,_,by omega,rfl,rfl,HO0.out,HB0.out⟩
 case round =>
  obtain ⟨i,g,c',hi,rfl,rfl,h1,h2⟩:=hrel
  rename World => V
  have HO:=hJ_ h1
  have HB:=hJ_ h2
  have HI2:=hJ_ hi
  clear h1 h2 hi HO0 HB0
  have qn:(n:Int) ≤ 1000:=by have:=HN.out;omega
  by_cases hlt:i < n
  ·have qi:(i:Int) < (n:Int):=by omega
   have qi0:(0:Int) ≤ (i:Int):=by omega
   obtain ⟨bs,os,rfl,hbs,hcs⟩:=(HS.out.on HB.out).at_ hlt
   have HO1:=hJ_ (d3w V 5 (co S i))
   have HB1:=hJ_ (show Below V.heap.size V (V.alloc (.cells #[.int .u8 (toI (co S i))] 5)) from (Below.refl _ _).alloc (Nat.le_refl _) _)
   have HLT:=hJ_ hlt
   have HVB:=hJ_ HB.out.size
   obtain ⟨s0,hs0⟩:∃ s0,s0 = co S i:=⟨_,rfl⟩
   rw [← hs0] at hcs HO1 HB1
   have HD0:=hJ_ (show [s0] = dlP n S M i 0 by rw [hs0];rfl)
   clear hs0 hlt hbs
   go_upto_region 7 with fail
   clear hcs
   go_loopw [11,12] (fun p s wr => ∃ (q g2 c2:Nat),q + 1 ≤ t ∧ s = .int .i64 ((q:Int) + 1) ∧ p = .slice (some ⟨g2,0,none⟩) (q + 1) c2 ∧ wr.ownsRow V.heap.size 5 1 (.slice (some ⟨g2,0,none⟩) (q + 1) c2) (q + 1) ((iL (dlP n S M i q)).map (Value.int .u8)) ∧ Below V.heap.size V wr) (fun _ s _ => t - (intOf s).toNat)
   case atStart => exact ⟨0,_,_,HT.out.1,rfl,rfl,by rw [← HD0.out];exact HO1.out,HB1.out⟩
   case round =>
    obtain ⟨q,g2,c2,hq,rfl,rfl,h1,h2⟩:=hrel
    rename World => U
    have UO:=hJ_ h1
    have UB:=hJ_ h2
    have HQ:=hJ_ hq
    clear h1 h2 HO1 HB1 HD0
    have qt:(t:Int) ≤ 300:=by have:=HT.out;omega
    have qq:(0:Int) ≤ (q:Int):=by omega
    have qq2:(q:Int) + 1 ≤ (t:Int):=by omega
    by_cases hlt:q + 1 < t
    ·have HLQ:=hJ_ hlt
     obtain ⟨A,hA,hA0,hA1,hA2⟩:=e4z q n i (by omega) (by omega) (by have:=HLT.out;omega)
     have hAm:A < m:=by rw [HMM.out,hA];exact e5u HLT.out hlt
     obtain ⟨bm,om,rfl,hbm,hcm⟩:=(HM.out.on (bt HB.out UB.out)).at_ hAm
     have HAE:=hJ_ hA
     have ql:(q:Int) + 1 < (t:Int):=by omega
     have qA:(A:Int) < (m:Int):=by omega
     have qA0:(0:Int) ≤ (A:Int):=by omega
     have qs:(q:Int) + 1 - 1 = (q:Int):=by omega
     have HQS:=hJ_ (show q + 1 ≤ 1000000 by have:=HT.out;omega)
     have HUS:=hJ_ UB.out.size
     obtain ⟨v,hv⟩:∃ v,v = co M A:=⟨_,rfl⟩
     rw [← hv] at hcm
     have HV:=hJ_ (show dlP n S M i (q + 1) = dlP n S M i q ++ [v] by rw [d1t,hv,HAE.out])
     clear hA hv hlt hAm hbm hq
     go_wp2_with ((with_reducible show wpList _ _ _ (⟨some 41,_,_,_,_,_⟩ :: _) _ _);go_loud (refine a1a rfl (.tmp 29) (.tmp 40) 22 rfl V.heap.size 5 i5 Tryz.underlying22 HI.out.1 HI.out.2.1 HI.out.2.2.1 HI.out.2.2.2 (.slice (some ⟨g2,0,none⟩) (q + 1) c2) (q + 1) (dlP n S M i q) rfl UO.out v 5 rfl HQS.out HUS.out ?_;intro g5 c5 w5 ho5 hb5))
     have HO5:=hJ_ ho5
     have HB5:=hJ_ (UB.out.trans hb5)
     clear ho5 hb5
     go_roundw
     case rel => exact ⟨q + 1,g5,c5,HLQ.out,by go_num,rfl,by rw [HV.out];exact HO5.out,HB5.out⟩
     case measure => simp [intOf] <;> (have:=HLQ.out;omega)
    ·obtain rfl:t = q + 1:=by omega
     have HP:=hJ_ (Pa.own2 UO.out)
     have HE:=hJ_ (c4t (some ⟨g2,0,none⟩) (q + 1) c2 (dlP n S M i q) x U HP.out (by have:=HT.out;omega))
     have HOU:=hJ_ (a7a HO.out UB.out (HO.out.lt g rfl).2)
     have HUS:=hJ_ (Nat.le_trans HVB.out UB.out.size)
     have HNI:=hJ_ (show i ≤ 1000000 by have:=HLT.out;have:=HN.out;omega)
     obtain ⟨v,hv⟩:∃ v,v = ev (dlP n S M i q) x:=⟨_,rfl⟩
     rw [← hv] at HE
     have HV:=hJ_ (show shP (q + 1) n S M x (i + 1) = shP (q + 1) n S M x i ++ [v] by rw [d2b,hv];rfl)
     clear hv hlt hq
     go_wp2_with (first
      | (go_at_call 61;go_loud ((with_reducible refine HE.out.mono ?_);rintro e w' ⟨rfl,rfl⟩))
      | ((with_reducible show wpList _ _ _ (⟨some 47,_,_,_,_,_⟩ :: _) _ _);go_loud (refine a1a rfl (.tmp 42) (.tmp 46) 22 rfl w.heap.size 5 i5 Tryz.underlying22 HI.out.1 HI.out.2.1 HI.out.2.2.1 HI.out.2.2.2 (.slice (some ⟨g,0,none⟩) i c') i (shP (q + 1) n S M x i) rfl HOU.out v 5 rfl HNI.out HUS.out ?_;intro g5 c5 w5 ho5 hb5)))
     have HO5:=hJ_ ho5
     have HB5:=hJ_ ((HB.out.trans (UB.out.mono HVB.out)).trans hb5)
     clear ho5 hb5
     go_roundw
     case rel => first
      | exact ⟨i + 1,g5,c5,HLT.out,by go_num,rfl,by rw [HV.out];exact HO5.out,HB5.out⟩
      | ((repeat apply Exists.intro);exact ⟨⟨i + 1,g5,c5,HLT.out,by go_num,rfl,by rw [HV.out];exact HO5.out,HB5.out⟩,rfl⟩)
     case measure => simp [intOf] <;> (have:=HLT.out;omega)
  ·obtain rfl:i = n:=by have:=HI2.out;omega
   go_wp2
   go_ret
   exact ⟨g,c',rfl,Pa.own2 HO.out,HB.out,c8y HO.out⟩
set_option maxHeartbeats 2000000 in
theorem c5u (aX:Option Addr) (L cX:Nat) (X:List GF) (aR:Option Addr) (cR n:Nat) (Rm:List (List GF)) (x:GF) (w:World) (hX:Pa w aX L cX X) (hR:Mat w aR L cR Rm) (hL1:1 ≤ L) (hL:L ≤ 255) (hn:n ≤ 1000) (hl:∀ k,k < L → (rw_ Rm k).length = n) :
 Calls Tryz.prog 62 #[.slice aX L cX,.slice aR L cR,.int .u8 (toI x)] w fun e w' => ∃ g c',e = .returned (.slice (some ⟨g,0,none⟩) n c') ∧ Pa w' (some ⟨g,0,none⟩) n c' (atR X (rw_ Rm) x n) ∧ Below w.heap.size w w' ∧ TyU w' g:=by
 obtain ⟨i5,hi,hz0,hz1,hz2⟩:=info_parts info5
 have HI:=hJ_ (show Tryz.prog.info? 5 = some i5 ∧ i5.zero = some (.int .u8 0) ∧ i5.size = 1 ∧ i5.bytes = 1 from ⟨hi,hz0,hz1,hz2⟩)
 have HX:=hJ_ hX
 have HXL:=hJ_ hX.len
 have HR:=hJ_ hR
 have HLB:=hJ_ (show 1 ≤ L ∧ L ≤ 255 from ⟨hL1,hL⟩)
 have HN:=hJ_ hn
 have HRL:=hJ_ hl
 have HO0:=hJ_ (a6l w 5)
 have HB0:=hJ_ (show Below w.heap.size w (w.alloc (.cells #[] 5)) from (Below.refl _ _).alloc (Nat.le_refl _) _)
 obtain ⟨b0,o0,a0,c0,rfl,hb0,hcell0,hp0⟩:=(hR.on HB0.out).row (i:=0) hL1
 rw [hl 0 hL1] at hcell0 hp0
 rw [Nat.add_zero] at hcell0
 have qL:(0:Int) < (L:Int):=by omega
 clear hi hz0 hz1 hz2 hX hR hL hn hl hb0 hp0 hL1
 go_enter Tryz.func62,Tryz.ntmps62
 go_wp2_with fail
 clear hcell0
 go_loopw [7,16] (fun o s wr => ∃ (i g c':Nat),i ≤ n ∧ s = .int .i64 (i:Nat) ∧ o = .slice (some ⟨g,0,none⟩) i c' ∧ wr.ownsRow w.heap.size 5 1 (.slice (some ⟨g,0,none⟩) i c') i ((iL (atP X (rw_ Rm) x i)).map (Value.int .u8)) ∧ Below w.heap.size w wr) (fun _ s _ => n - (intOf s).toNat)
 case atStart => exact ⟨0,_,_,by omega,rfl,rfl,HO0.out,HB0.out⟩
 case round =>
  obtain ⟨i,g,c',hi,rfl,rfl,h1,h2⟩:=hrel
  rename World => V
  have HO:=hJ_ h1
  have HB:=hJ_ h2
  have HI2:=hJ_ hi
  clear h1 h2 hi HO0 HB0
  have qn:(n:Int) ≤ 1000:=by have:=HN.out;omega
  by_cases hlt:i < n
  ·have HLT:=hJ_ hlt
   have qi:(i:Int) < (n:Int):=by omega
   have qi0:(0:Int) ≤ (i:Int):=by omega
   clear hlt
   go_upto_region 7 with fail
   go_loopw [9,21] (fun y s wr => ∃ (k q:Nat),k ≤ L ∧ s = .int .i64 (k:Nat) ∧ y = .int .u8 (toI (sm k fun k => wt X k x * co (rw_ Rm k) i)) ∧ wr = V.drewN q) (fun _ s _ => L - (intOf s).toNat)
   case atStart => exact ⟨0,0,by omega,rfl,rfl,rfl⟩
   case round =>
    obtain ⟨k,q,hk,rfl,rfl,rfl⟩:=hrel
    have HK:=hJ_ hk
    clear hk
    have qLL:(L:Int) ≤ 255:=by have:=HLB.out;omega
    by_cases hlt:k < L
    ·have HKL:=hJ_ hlt
     have hbq:=below_drewN (Below.refl V.heap.size V) q
     have HXV:=hJ_ ((HX.out.on HB.out).on hbq)
     obtain ⟨br,orr,ai,ci,hae,hbr,hcr,hpr⟩:=((HR.out.on HB.out).on hbq).row hlt
     cases hae
     rw [HRL.out k hlt] at hcr hpr
     obtain ⟨bs,os,rfl,hbs,hcs⟩:=hpr.at_ HLT.out
     have qk:(k:Int) < (L:Int):=by omega
     have qk0:(0:Int) ≤ (k:Int):=by omega
     have hbx:=a3c (sm k fun k => wt X k x * co (rw_ Rm k) i) (wt X k x * co (rw_ Rm k) i)
     have HST:=hJ_ (show sm (k + 1) (fun k => wt X k x * co (rw_ Rm k) i) = sm k (fun k => wt X k x * co (rw_ Rm k) i) + wt X k x * co (rw_ Rm k) i from rfl)
     obtain ⟨y,hy⟩:∃ y,y = sm k fun k => wt X k x * co (rw_ Rm k) i:=⟨_,rfl⟩
     obtain ⟨u,hu⟩:∃ u,u = co (rw_ Rm k) i:=⟨_,rfl⟩
     obtain ⟨v,hv⟩:∃ v,v = wt X k x:=⟨_,rfl⟩
     rw [← hy,← hu,← hv] at hbx HST
     rw [← hu] at hcs
     rw [← hy]
     have HWT:=hJ_ (show ∀ m:Nat,Calls Tryz.prog 92 #[.slice aX L cX,.int .i64 (k:Nat),.int .u8 (toI x)] ((V.drewN q).drewN m) fun e w' => e = .returned (.int .u8 (toI v)) ∧ ∃ j,w' = ((V.drewN q).drewN m).drewN j from fun m => by
      rw [hv];exact b5j aX L cX k X x _ (HXV.out.on (below_drewN (Below.refl _ _) m)) HKL.out HLB.out.2)
     clear hy hu hv hlt hbr hpr hbs hbq
     generalize hU:V.drewN q = U at hcr hcs HWT ⊢
     have HU:=hJ_ hU
     clear hU
     go_upto_region 9 with fail
     go_quiet (first
      | (go_at_call 92;exact Calls.quiet_of (HWT.out _))
      | (go_at_call 88;exact Calls.quiet_of_same ((c9c v u _).mono fun _ _ ⟨he,hw⟩ => ⟨he,hw.symm⟩)))
     go_wp2
     go_roundw
     case rel => exact ⟨k + 1,_,HKL.out,by go_num,by rw [HST.out],by rw [← HU.out,World.drewN_drewN]⟩
     case measure => simp [intOf] <;> (have:=HKL.out;omega)
    ·obtain rfl:k = L:=by have:=HK.out;omega
     have HOU:=hJ_ (show (V.drewN q).ownsRow w.heap.size 5 1 (.slice (some ⟨g,0,none⟩) i c') i ((iL (atP X (rw_ Rm) x i)).map (Value.int .u8)) from HO.out)
     have HBU:=hJ_ (below_drewN HB.out q)
     have HNI:=hJ_ (show i ≤ 1000000 by have:=HLT.out;have:=HN.out;omega)
     obtain ⟨v,hv⟩:∃ v,v = sm k fun k => wt X k x * co (rw_ Rm k) i:=⟨_,rfl⟩
     have HV:=hJ_ (show atP X (rw_ Rm) x (i + 1) = atP X (rw_ Rm) x i ++ [v] by rw [d1b,hv,HXL.out])
     rw [← hv]
     clear hv hlt
     generalize V.drewN q = U at HOU HBU ⊢
     have HUS:=hJ_ HBU.out.size
     go_wp2_with ((with_reducible show wpList _ _ _ (⟨some 42,_,_,_,_,_⟩ :: _) _ _);go_loud (refine a1a rfl (.tmp 39) (.tmp 41) 22 rfl w.heap.size 5 i5 Tryz.underlying22 HI.out.1 HI.out.2.1 HI.out.2.2.1 HI.out.2.2.2 (.slice (some ⟨g,0,none⟩) i c') i (atP X (rw_ Rm) x i) rfl HOU.out v 5 rfl HNI.out HUS.out ?_;intro g5 c5 w5 ho5 hb5))
     have HO5:=hJ_ ho5
     have HB5:=hJ_ (HBU.out.trans hb5)
     clear ho5 hb5
     go_roundw
     case rel => first
      | exact ⟨i + 1,g5,c5,HLT.out,by go_num,rfl,by rw [HV.out];exact HO5.out,HB5.out⟩
      | ((repeat apply Exists.intro);exact ⟨⟨i + 1,g5,c5,HLT.out,by go_num,rfl,by rw [HV.out];exact HO5.out,HB5.out⟩,rfl⟩)
     case measure => simp [intOf] <;> (have:=HLT.out;omega)
  ·obtain rfl:i = n:=by have:=HI2.out;omega
   go_wp2
   go_ret
   exact ⟨g,c',rfl,Pa.own2 HO.out,HB.out,c8y HO.out⟩
theorem b6n (t x n:Nat) (aR:Option Addr) (cR:Nat) (R:List (List GF)) (w:World) (hR:Mat w aR t cR R) (ht:1 ≤ t) (ht2:t ≤ 255) (hx:x ≤ 255) (hl:∀ k,k < t → (rw_ R k).length = n) (hn:n ≤ 1000) :
 Calls Tryz.prog 34 #[.slice aR t cR,.int .i64 (x:Nat)] w fun e w' => ∃ g c',e = .returned (.slice (some ⟨g,0,none⟩) n c') ∧ Pa w' (some ⟨g,0,none⟩) n c' (pcR R n (pl x)) ∧ Below w.heap.size w w' ∧ TyU w' g:=by
 have HR:=hJ_ hR
 have HL:=hJ_ hl
 have HT:=hJ_ (And.intro ht (And.intro ht2 hn))
 have hbd:=hR.bd
 have k1:∀ [Inhabited Unit],IntKind.u8.wrap (x:Int) = toI (pl x):=by
  intro _
  rw [c9s (by omega),IntKind.wrap_u8];omega
 have HPL:=hJ_ (b5f t w ht2)
 clear hR hl hx ht ht2 hn
 go_enter Tryz.func34,Tryz.ntmps34
 go_wp2_with (first
  | (go_at_call 63;go_loud ((with_reducible refine HPL.out.mono ?_);rintro e w1 ⟨g,c1,rfl,hp1,hb1⟩;have HB1:=hJ_ hb1;have HAT:=hJ_ (c5u (some ⟨g,0,none⟩) t c1 (plc t) aR cR n R (pl x) w1 hp1 (HR.out.on hb1) HT.out.1 HT.out.2.1 HT.out.2.2 HL.out);clear hp1 hb1))
  | (go_at_call 62;go_loud ((with_reducible refine HAT.out.mono ?_);rintro e w2 ⟨g2,c2,rfl,hp2,hb2,ht2⟩;have HT2:=hJ_ ht2;have HP2:=hJ_ hp2;have HB2:=hJ_ (bt HB1.out hb2);clear hp2 hb2)))
 go_ret
 exact ⟨g2,c2,rfl,by unfold pcR;rw [HR.out.len];exact HP2.out,HB2.out,HT2.out⟩
theorem b8y {B G:Nat} {V W U:World} {row:Option Nat} (h:a7f B G V W) (hg:W.grownBy U row) (hr:∀ z,row = some z → z = G ∨ B ≤ z) (hB:B ≤ V.heap.size:=by exact Nat.le_refl _):a7f B G V U:=
 ⟨Nat.le_trans h.1 hg.size,fun b hb hn => (hg.block b (by have:=h.1;omega) (fun e => by rcases hr b e.symm with e1 | e1;exact hn e1;omega)).trans (h.2 b hb hn)⟩
theorem c7t {w w':World} {g G n c:Nat} {M:List (List GF)} (h:Mat w (some ⟨g,0,none⟩) n c M) (hG:w.heap[G]? = some (.cells #[] 22 (0,0))) (hk:a7f w.heap.size G w w'):Mat w' (some ⟨g,0,none⟩) n c M:=by
 obtain ⟨h1,h2,h3,h4,vs,h5,h6⟩:=h
 have hno:∀ (b off:Nat) (v:Value),w.cell? ⟨b,off,none⟩ = some v → b ≠ G:=fun b off v hc e => by
  subst e
  simp [World.cell?,hG] at hc
 refine ⟨h1,h2,h3,h4,vs,⟨h5.1,fun i hi => ?_⟩,fun h0 => ?_⟩
 ·obtain ⟨a,ci,k1,k2,k3,k4,k5⟩:=h5.2 i hi
  refine ⟨a,ci,k1,k2,k3,k4,fun hl => ?_⟩
  obtain ⟨b,off,e,hb,ho,hc⟩:=k5 hl
  have hne:=hno b (off + 0) _ (hc 0 hl)
  exact ⟨b,off,e,Nat.lt_of_lt_of_le hb hk.1,ho,fun j hj => by rw [World.cell?_of_block (w:=w) (a:=⟨b,off + j,none⟩) (hk.2 b hb hne)];exact hc j hj⟩
 ·obtain ⟨b,off,e,hb,hc⟩:=h6 h0
  have hne:b ≠ G:=by
   have h0':=hc 0 h0
   obtain ⟨a,ci,k1,_⟩:=h5.2 0 (by omega)
   rw [k1] at h0'
   exact hno b (off + 0) _ h0'
  exact ⟨b,off,e,Nat.lt_of_lt_of_le hb hk.1,fun i hi => by rw [World.cell?_of_block (w:=w) (a:=⟨b,off + i,none⟩) (hk.2 b hb hne)];exact hc i hi⟩
theorem b2z {Q:List (List GF)} {t k:Nat} (h:k < t):(stR Q t).take (k + 1) = (stR Q t).take k ++ [evP Q (pl (k + 1))]:=by
 have e:=a1d (Q:=Q) h
 have hl:k < (stR Q t).length:=by rw [a6c];exact h
 rw [List.take_add_one,List.getElem?_eq_getElem hl]
 unfold rw_ at e
 rw [← e]
 simp [List.getD_eq_getElem?_getD,hl]
set_option maxHeartbeats 2000000 in
theorem c4q (t n:Nat) (aB:Option Addr) (cB:Nat) (B:List GF) (aR:Option Addr) (L cR:Nat) (R:List GF) (w:World) (hB:Pa w aB 440 cB B) (hR:Pa w aR L cR R) (ht:1 ≤ t) (htn:t ≤ n) (hn:n ≤ 200) (hL:L = (t - 1) * 440) :
 Calls Tryz.prog 14 #[.int .i64 0,.int .i64 (t:Nat),.int .i64 (n:Nat),.slice aB 440 cB,.slice aR L cR] w fun e w' => ∃ a c,e = .returned (.slice a n c) ∧ Mat w' a n c (stR (qS t B R) n) ∧ Below w.heap.size w w':=by
 obtain ⟨i22,hy,hy0,hy1,hy2⟩:=info_parts b1v
 have HI:=hJ_ (And.intro hy (And.intro hy0 (And.intro hy1 hy2)))
 clear hy hy0 hy1 hy2
 have HP:=hJ_ hB
 have HR:=hJ_ hR
 have HT:=hJ_ (And.intro ht (And.intro htn hn))
 have HL:=hJ_ hL
 obtain ⟨VL,hVL⟩:∃ VL,VL = 440:=⟨_,rfl⟩
 obtain ⟨Q,hQ⟩:∃ Q,Q = qS t B R:=⟨_,rfl⟩
 have HQL:=hJ_ (show Q.length = VL by rw [hQ,hVL];exact a5w t B R)
 have qn:(n:Int) ≤ 200:=by omega
 have qt:(t:Int) ≤ 200:=by omega
 have HS0:=hJ_ (show ((w.alloc (.cells #[] 22)).alloc (.cells #[] 22)).ownsRow w.heap.size 22 1 (.slice (some ⟨w.heap.size,0,none⟩) 0 0) 0 ([]:List Value) from (World.ownsRow_lit (base:=w.heap.size) (e:=22) (size:=1) w #[] 0 (Nat.le_refl _) (Nat.zero_le _) rfl).alloc _)
 have HA0:=hJ_ (show Below w.heap.size w ((w.alloc (.cells #[] 22)).alloc (.cells #[] 22)) from ((Below.refl _ _).alloc (Nat.le_refl _) _).alloc (by simp) _)
 have HROW:=hJ_ (show ∀ k,k < n → ∀ V:World,Below w.heap.size w V → Calls Tryz.prog 33 #[.int .i64 (t:Nat),.slice aB 440 cB,.slice aR L cR,.int .u8 (toI (pl (k + 1)))] V fun e w' => ∃ g c',e = .returned (.slice (some ⟨g,0,none⟩) VL c') ∧ Pa w' (some ⟨g,0,none⟩) VL c' (evP Q (pl (k + 1))) ∧ Below V.heap.size V w' ∧ TyU w' g from fun k hk V hV => by
  rw [hQ,hVL,c8w]
  exact b5t t 440 L aB cB B aR cR R (pl (k + 1)) V (HP.out.on hV) (HR.out.on hV) HT.out.1 (by have:=HT.out;omega) (by omega) HL.out)
 have HQE:=hJ_ hQ
 have HVL:=hJ_ hVL
 clear hB hR ht htn hn hQ hVL hL
 go_enter Tryz.func14,Tryz.ntmps14
 go_wp2_with fail
 go_loopw [11,13] (fun v s wr => ∃ (k:Nat) (a:Option Addr) (c:Nat) (vs:List Value),k ≤ n ∧ s = .int .i64 ((k:Int) + 1) ∧ v = .slice a k c ∧ Hid (wr.ownsRow w.heap.size 22 1 (.slice a k c) k vs) ∧ Hid (RV wr (TyU wr) vs ((stR Q n).take k)) ∧ Hid (Below w.heap.size w wr))
  (fun _ s _ => n + 1 - (intOf s).toNat)
 case atStart => exact ⟨0,_,_,[],Nat.zero_le _,rfl,rfl,HS0,hJ_ (RV.nil _ _),HA0⟩
 case round =>
  obtain ⟨k,a,c,vs,hk,rfl,rfl,HO,HRV,HBW⟩:=hrel
  rename World => V
  have HB:=hJ_ (HBW.out)
  by_cases hlt:k < n
  ·have HLT:=hJ_ hlt
   have qk:(k:Int) + 1 ≤ (n:Int):=by omega
   have qk0:(0:Int) ≤ (k:Int):=by omega
   have q1:(k:Int) ≤ 200:=by omega
   have k1:∀ [Inhabited Unit],IntKind.u8.wrap ((k:Int) + 1) = toI (pl (k + 1)):=by
    intro _
    rw [c9s (by omega),IntKind.wrap_u8];omega
   have k2:((k:Int) + 1) = ((k + 1:Nat):Int):=by omega
   have HRW:=hJ_ (HROW.out k hlt)
   have K2:=hJ_ k2
   clear hlt hk k2
   go_wp2_with (first
    | (go_at_call 33;go_loud (refine (HRW.out V HB.out).mono ?_;rintro e w5 ⟨g5,c5,rfl,hp5,hb5,ht5⟩;have hrw:=(RV.onU HRV.out hb5).more (P:=evP Q (pl (k + 1))) (by rw [a0v,HQL.out];exact hp5) (fun b off e _ => by cases e;exact ht5);rw [a0v,HQL.out,← b2z HLT.out] at hrw;have HRW5:=hJ_ (hrw.onU ((Below.refl _ _).alloc (Nat.le_refl _) (.cells #[.slice (some ⟨g5,0,none⟩) VL c5] 22)));have HO5:=hJ_ ((a0o HO.out hb5).alloc (.cells #[.slice (some ⟨g5,0,none⟩) VL c5] 22));have HB5:=hJ_ ((bt HB.out hb5).alloc (by have:=(bt HB.out hb5).size;exact this) (.cells #[.slice (some ⟨g5,0,none⟩) VL c5] 22));have hsz5:=(bt HB.out hb5).size;clear hrw hp5 hb5 ht5))
    | ((with_reducible show wpList _ _ _ (⟨some 38,_,_,_,_,_⟩ :: _) _ _);go_loud (refine wpList_append_own _ rfl (.tmp 30) (.tmp 37) 28 rfl w.heap.size 22 i22 (.slice none 0 0) 1 24 Tryz.underlying28 HI.out.1 HI.out.2.1 HI.out.2.2.1 HI.out.2.2.2 rfl (by decide) _ k vs rfl HO5.out _ 1 1 [_] rfl rfl (b0o _ _ _) (by intro u hu;cases List.mem_singleton.1 hu;rfl) (by unfold maxLen;omega) (by omega) (by simp;omega) ?_);go_loud (intro v6 w6 hown6 hg6 _;have HRW6:=hJ_ (HRW5.out.grownU HO5.out (by decide) hg6);have HB6:=hJ_ (HB5.out.grown hg6 (by simp;omega) (fun z hz => (HO5.out.lt z hz).1));obtain ⟨a6,c6,hv6⟩:=b8v hown6;subst hv6;have HO6:=hJ_ hown6;clear hown6 hg6)))
   go_roundw
   case rel => exact ⟨k + 1,a6,c6,_,HLT.out,by go_num,rfl,HO6,HRW6,HB6⟩
   case measure => simp [intOf];have:=HLT.out;omega
  ·obtain rfl:k = n:=by omega
   have ho:=HO.out
   have hv:=HRV.out
   rw [List.take_of_length_le (by rw [a6c];exact Nat.le_refl _)] at hv
   obtain ⟨a',c',e,hm⟩:=Mat.own ho hv
   cases e
   have HM:=hJ_ hm
   clear ho hv hm hlt
   go_wp2
   go_ret
   exact ⟨_,_,rfl,by rw [← HQE.out];exact HM.out,HB.out⟩
set_option maxHeartbeats 2000000 in
theorem c6p (t n:Nat) (aB:Option Addr) (cB:Nat) (B:List GF) (aR:Option Addr) (cR:Nat) (R:List GF) (w:World) (hB:Pa w aB 440 cB B) (hR:Pa w aR 32 cR R) (ht:1 ≤ t) (htn:t ≤ n) (hn:n ≤ 200)  :
 Calls Tryz.prog 14 #[.int .i64 1,.int .i64 (t:Nat),.int .i64 (n:Nat),.slice aB 440 cB,.slice aR 32 cR] w fun e w' => ∃ a c,e = .returned (.slice a n c) ∧ Mat w' a n c (stR (a9s (a6y R B) t) n) ∧ Below w.heap.size w w':=by
 obtain ⟨i22,hy,hy0,hy1,hy2⟩:=info_parts b1v
 have HI:=hJ_ (And.intro hy (And.intro hy0 (And.intro hy1 hy2)))
 clear hy hy0 hy1 hy2
 have HP:=hJ_ hB
 have HR:=hJ_ hR
 have HT:=hJ_ (And.intro ht (And.intro htn hn))
 have hcd:=a5n ht
 obtain ⟨VL,hVL⟩:∃ VL,VL = (ceil 473 t):=⟨_,rfl⟩
 obtain ⟨Q,hQ⟩:∃ Q,Q = a9s (a6y R B) t:=⟨_,rfl⟩
 have HQL:=hJ_ (show Q.length = VL by rw [hQ,hVL];exact (a4y _ t).1)
 have qn:(n:Int) ≤ 200:=by omega
 have qt:(t:Int) ≤ 200:=by omega
 have HS0:=hJ_ (show ((w.alloc (.cells #[] 22)).alloc (.cells #[] 22)).ownsRow w.heap.size 22 1 (.slice (some ⟨w.heap.size,0,none⟩) 0 0) 0 ([]:List Value) from (World.ownsRow_lit (base:=w.heap.size) (e:=22) (size:=1) w #[] 0 (Nat.le_refl _) (Nat.zero_le _) rfl).alloc _)
 have HG0:=hJ_ (show ((w.alloc (.cells #[] 22)).alloc (.cells #[] 22)).heap[w.heap.size]? = some (.cells #[] 22 (0,0)) from ((((Below.refl _ (w.alloc (.cells #[] 22))).alloc (Nat.le_refl _) _).block w.heap.size (by simp)).trans (heap_alloc_new w _)))
 have HA0:=hJ_ (show Below w.heap.size w ((w.alloc (.cells #[] 22)).alloc (.cells #[] 22)) from ((Below.refl _ _).alloc (Nat.le_refl _) _).alloc (by simp) _)
 have HCT:=hJ_ (fun (a:Option Addr) (c:Nat) (W:World) (h:Pa W a 473 c (a6y R B)) => c2n 473 t a c (a6y R B) W h HT.out.1 (by have:=HT.out;omega) (by omega))
 have HROW0:=hJ_ (show ∀ (g:Nat) (V:World),Mat V (some ⟨g,0,none⟩) t t (a6u (a6y R B) t (ceil 473 t)) → ∀ k,k < n → Calls Tryz.prog 34 #[.slice (some ⟨g,0,none⟩) t t,.int .i64 ((k:Int) + 1)] V fun e w' => ∃ g c',e = .returned (.slice (some ⟨g,0,none⟩) VL c') ∧ Pa w' (some ⟨g,0,none⟩) VL c' (evP Q (pl (k + 1))) ∧ Below V.heap.size V w' ∧ TyU w' g from fun g V hV k hk => by
  rw [hQ,hVL,a9s,d9z]
  exact b6n t (k + 1) (ceil 473 t) (some ⟨g,0,none⟩) t (a6u (a6y R B) t (ceil 473 t)) V hV HT.out.1 (by have:=HT.out;omega) (by have:=HT.out;omega) (fun j hj => b4p hj) (by omega))
 have HQE:=hJ_ hQ
 have HVL:=hJ_ hVL
 clear hB hR ht htn hn hQ hVL hcd
 go_enter Tryz.func14,Tryz.ntmps14
 go_upto_region 5 with (first
  | (go_at_call 32;go_loud (refine (c2r aB cB B aR cR R _ (HP.out.on HA0.out) (HR.out.on HA0.out)).mono ?_;rintro e w1 ⟨a1,c1,rfl,hp1,hb1⟩;have HB1:=hJ_ (bt HA0.out hb1);have HS1:=hJ_ (a0o HS0.out hb1);have HG1:=hJ_ (show w1.heap[w.heap.size]? = some (.cells #[] 22 (0,0)) from (hb1.block _ (by simp;omega)).trans HG0.out);have HL1:=hJ_ (show w.heap.size < w1.heap.size from by have:=hb1.size;simp at this;omega);have HC1:=hJ_ (HCT.out a1 c1 w1 hp1);clear hp1 hb1))
  | (go_at_call 31;go_loud (refine HC1.out.mono ?_;rintro e w2 ⟨g2,rfl,hm2,hb2⟩;have HM2:=hJ_ hm2;have HB2:=hJ_ (bt HB1.out hb2);have HS2:=hJ_ (a0o HS1.out hb2);have HG2:=hJ_ (show w2.heap[w.heap.size]? = some (.cells #[] 22 (0,0)) from (hb2.block _ HL1.out).trans HG1.out);have hmd2:=hm2.bd;clear hm2 hb2)))
 go_wp2_with fail
 go_loopw [11,13] (fun v s wr => ∃ (k:Nat) (a:Option Addr) (c:Nat) (vs:List Value),k ≤ n ∧ s = .int .i64 ((k:Int) + 1) ∧ v = .slice a k c ∧ Hid (wr.ownsRow w.heap.size 22 1 (.slice a k c) k vs) ∧ Hid (RV wr (TyU wr) vs ((stR Q n).take k)) ∧ Hid (Below w.heap.size w wr) ∧ Hid (a7f w2.heap.size w.heap.size w2 wr) ∧ Hid (∀ z,(Value.slice a k c).ownBlock = some z → z = w.heap.size ∨ w2.heap.size ≤ z))
  (fun _ s _ => n + 1 - (intOf s).toNat)
 case atStart => exact ⟨0,_,_,[],Nat.zero_le _,rfl,rfl,HS2,hJ_ (RV.nil _ _),HB2,hJ_ (a7f.refl _ _ _),hJ_ (fun z hz => by cases hz;exact Or.inl rfl)⟩
 case round =>
  obtain ⟨k,a,c,vs,hk,rfl,rfl,HO,HRV,HBW,HKB,HZZ⟩:=hrel
  rename World => V
  have HB:=HBW
  by_cases hlt:k < n
  ·have HLT:=hJ_ hlt
   have qk:(k:Int) + 1 ≤ (n:Int):=by omega
   have qk0:(0:Int) ≤ (k:Int):=by omega
   have q1:(k:Int) ≤ 200:=by omega
   have k1:∀ [Inhabited Unit],IntKind.u8.wrap ((k:Int) + 1) = toI (pl (k + 1)):=by
    intro _
    rw [c9s (by omega),IntKind.wrap_u8];omega
   have k2:((k:Int) + 1) = ((k + 1:Nat):Int):=by omega
   have HRW:=hJ_ (HROW0.out g2 V (c7t HM2.out HG2.out HKB.out) k hlt)
   have K2:=hJ_ k2
   clear hlt hk k2
   go_wp2_with (first
    | (go_at_call 34;go_loud (refine HRW.out.mono ?_;rintro e w5 ⟨g5,c5,rfl,hp5,hb5,ht5⟩;have hrw:=(RV.onU HRV.out hb5).more (P:=evP Q (pl (k + 1))) (by rw [a0v,HQL.out];exact hp5) (fun b off e _ => by cases e;exact ht5);rw [a0v,HQL.out,← b2z HLT.out] at hrw;have HRW5:=hJ_ (hrw.onU ((Below.refl _ _).alloc (Nat.le_refl _) (.cells #[.slice (some ⟨g5,0,none⟩) VL c5] 22)));have HO5:=hJ_ ((a0o HO.out hb5).alloc (.cells #[.slice (some ⟨g5,0,none⟩) VL c5] 22));have HB5:=hJ_ ((bt HB.out hb5).alloc (by have:=(bt HB.out hb5).size;exact this) (.cells #[.slice (some ⟨g5,0,none⟩) VL c5] 22));have HKB5:=hJ_ (HKB.out.below ((hb5.mono HKB.out.1).alloc (Nat.le_trans HKB.out.1 hb5.size) (.cells #[.slice (some ⟨g5,0,none⟩) VL c5] 22)));have hsz5:=(bt HB.out hb5).size;clear hrw hp5 hb5 ht5))
    | ((with_reducible show wpList _ _ _ (⟨some 44,_,_,_,_,_⟩ :: _) _ _);go_loud (refine wpList_append_lies _ rfl (.tmp 39) (.tmp 43) 28 rfl w.heap.size 22 i22 (.slice none 0 0) 1 24 Tryz.underlying28 HI.out.1 HI.out.2.1 HI.out.2.2.1 HI.out.2.2.2 rfl (by decide) _ k vs rfl HO5.out _ 1 1 [_] rfl rfl (b0o _ _ _) (by intro u hu;cases List.mem_singleton.1 hu;rfl) (by decide) (by unfold maxLen;omega) (by omega) (by simp;omega) _ rfl ?_);go_loud (intro g6 c6 w6 hown6 hg6 hat6 _;have HRW6:=hJ_ (HRW5.out.grownU HO5.out (by decide) hg6);have HB6:=hJ_ (HB5.out.grown hg6 (by simp;omega) (fun z hz => (HO5.out.lt z hz).1));have HKB6:=hJ_ (b8y HKB5.out hg6 HZZ.out);have HZ6:=hJ_ (show ∀ z,(Value.slice (some ⟨g6,0,none⟩) (k + 1) c6).ownBlock = some z → z = w.heap.size ∨ w2.heap.size ≤ z from fun z hz => by cases hz;rcases hat6 with h | h;exact HZZ.out _ h;exact Or.inr (by rw [h];exact HKB5.out.1));have HO6:=hJ_ hown6;clear hown6 hg6 hat6)))
   go_roundw
   case rel => exact ⟨k + 1,some ⟨g6,0,none⟩,c6,_,HLT.out,by go_num,rfl,HO6,HRW6,HB6,HKB6,HZ6⟩
   case measure => simp [intOf];have:=HLT.out;omega
  ·obtain rfl:k = n:=by omega
   have ho:=HO.out
   have hv:=HRV.out
   rw [List.take_of_length_le (by rw [a6c];exact Nat.le_refl _)] at hv
   obtain ⟨a',c',e,hm⟩:=Mat.own ho hv
   cases e
   have HM:=hJ_ hm
   clear ho hv hm hlt
   go_wp2
   go_ret
   exact ⟨_,_,rfl,by rw [← HQE.out];exact HM.out,HB.out⟩
theorem c2f {m:Int} {T N C:Nat} (h:Sh m T N C) (hN:N ≤ 7):a4v m T ≤ 4000:=by
 unfold Sh at h
 unfold a4v
 split
 ·have:(T - 1) * 440 ≤ 6 * 440:=Nat.mul_le_mul_right _ (by omega)
  omega
 ·omega
theorem d3l {m:Int} {T N C:Nat} (h:Sh m T N C) (B R:List GF):(qM m T B R).length = a4l m T:=by
 rcases h.1 with rfl | rfl
 ·exact a5w T B R
 ·exact (a4y _ T).1
theorem a7d (m:Int) (t n c:Nat) (aB:Option Addr) (cB:Nat) (B:List GF) (aR:Option Addr) (L cR:Nat) (R:List GF) (w:World) (h:Sh m t n c) (hB:Pa w aB 440 cB B) (hR:Pa w aR L cR R) (hn:n ≤ 200) (hL:L = a4v m t) :
 Calls Tryz.prog 14 #[.int .i64 m,.int .i64 (t:Nat),.int .i64 (n:Nat),.slice aB 440 cB,.slice aR L cR] w fun e w' => ∃ a c,e = .returned (.slice a n c) ∧ Mat w' a n c (stR (qM m t B R) n) ∧ Below w.heap.size w w':=by
 rcases h.1 with rfl | rfl
 ·exact c4q t n aB cB B aR L cR R w hB hR h.2.1 h.2.2.1 hn hL
 ·obtain rfl:L = 32:=hL
  exact c6p t n aB cB B aR cR R w hB hR h.2.1 h.2.2.1 hn
def nO (O:List GF):List Nat:=O.map fun x => (toI x).toNat
theorem e5h (O:List GF):(nO O).length = O.length:=by simp [nO]
theorem d4s {O:List GF} (h:O.Nodup):(nO O).Nodup:=by
 unfold nO
 unfold List.Nodup
 rw [List.pairwise_map]
 refine h.imp fun {a b} hab e => hab ?_
 have h1:=a2d a
 have h2:=a2d b
 exact a7c (by omega)
theorem e7t {O:List GF} {n x:Nat} (h:d5p O n) (hx:x ∈ nO O):1 ≤ x ∧ x < 256:=by
 obtain ⟨y,hy,rfl⟩:=List.mem_map.1 hx
 have h1:=a2d y
 have h2:toI y ≠ 0:=fun e => h.2.1 (by rw [a4u.1 e] at hy;exact hy)
 omega
def flO (O:List GF) (N i:Nat):List Nat:=((nO O).take i).filter fun p => decide (p ≤ N)
theorem d4n {O:List GF} {N i:Nat} (h:i < O.length):flO O N (i + 1) = flO O N i ++ if (toI (co O i)).toNat ≤ N then [(toI (co O i)).toNat] else []:=by
 have e:(nO O).take (i + 1) = (nO O).take i ++ [(toI (co O i)).toNat]:=by
  rw [List.take_add_one,List.getElem?_eq_getElem (by rw [e5h];exact h)]
  simp [nO,a5i h]
 unfold flO
 rw [e,List.filter_append]
 by_cases hp:(toI (co O i)).toNat ≤ N <;> simp [hp]
theorem c8p {O:List GF} {n N i:Nat} (h:d5p O n):(flO O N i).Nodup:=
 ((d4s h.1).sublist (List.take_sublist _ _)).sublist List.filter_sublist
theorem e5g {O:List GF} {n N i p:Nat} (h:d5p O n) (hp:p ∈ flO O N i):1 ≤ p ∧ p ≤ N:=by
 have h1:=List.mem_filter.1 hp
 have h2:=e7t h (List.mem_of_mem_take h1.1)
 have h3:=of_decide_eq_true h1.2
 omega
def Pck (O:List GF) (N T i:Nat) (ps:List Nat):Prop:=List.Sublist ps (flO O N i) ∧ (ps.length < T → ps = flO O N i)
theorem Pck.nil (O:List GF) (N T:Nat):Pck O N T 0 []:=⟨List.nil_sublist _,fun _ => by simp [flO]⟩
theorem Pck.out {O:List GF} {N T i:Nat} {ps:List Nat} (h:Pck O N T i ps) (hi:i < O.length) (hp:¬ (toI (co O i)).toNat ≤ N):Pck O N T (i + 1) ps:=by
 unfold Pck
 rw [d4n hi,if_neg hp,List.append_nil]
 exact h
theorem Pck.nodup {O:List GF} {n N T i:Nat} {ps:List Nat} (h:Pck O N T i ps) (hg:d5p O n):ps.Nodup:=(c8p hg).sublist h.1
theorem Pck.bd {O:List GF} {n N T i:Nat} {ps:List Nat} (h:Pck O N T i ps) (hg:d5p O n):∀ p,p ∈ ps → 1 ≤ p ∧ p ≤ N:=fun p hp => e5g hg (h.1.subset hp)
theorem bt3 {w w1:World} (h:Below w.heap.size w w1) (o:Obj):Below w.heap.size w (w1.alloc o):=h.alloc h.size _
theorem c3z {w:World} {b o L c:Nat} {P:List GF} (h:Pa w (some ⟨b,o,none⟩) L c P):∀ j u,((iL P).map (Value.int .u8))[j]? = some u → w.cell? ((⟨b,o,none⟩:Addr).add j) = some u:=fun j u hu => by
 have hj:j < P.length:=by
  have:=(List.getElem?_eq_some_iff.1 hu).1
  rwa [List.length_map,a0a] at this
 have hL:=h.len
 obtain ⟨b',o',e,hb,hc⟩:=h.1.2.2.1 (by rw [a0a];omega)
 cases e
 have h2:=hc j (by rw [a0a];exact hj)
 rw [a0k] at h2
 have e2:((iL P).map (Value.int .u8))[j]? = some (.int .u8 (toI (co P j))):=by
  rw [List.getElem?_map,List.getElem?_eq_getElem (by rw [a0a];exact hj)]
  have:(iL P)[j]'(by rw [a0a];exact hj) = toI (co P j):=by
   rw [← a0k,List.getD_eq_getElem?_getD,List.getElem?_eq_getElem (by rw [a0a];exact hj)]
   rfl
  rw [this]
  rfl
 rw [e2] at hu
 cases hu
 have hadd:(⟨b,o,none⟩:Addr).add j = ⟨b,o + j,none⟩:=by unfold Addr.add;split <;> simp_all
 rw [hadd]
 exact h2
theorem a9f {w':World} {B L:Nat} {P:List GF} (hP:P.length = L) (hL:L ≤ 1000000) (h:w'.heap[B]? = some (.cells (splice (madeCells #[.int .u8 0] L).toList 0 ((iL P).map (Value.int .u8))).toArray 5 (0,0))):w'.ownsRow B 5 1 (.slice (some ⟨B,0,none⟩) L L) L ((iL P).map (Value.int .u8)):=by
 have hl:(iL P).length = L:=by rw [a0a];exact hP
 refine ⟨by rw [List.length_map,hl,Nat.mul_one],.inr ⟨B,L,_,rfl,Nat.le_refl _,h,Nat.le_refl _,by unfold maxLen;omega,?_,?_⟩⟩
 ·simp [a1s,hl,size_madeCells]
 ·simp [a1s,hl]
set_option maxHeartbeats 8000000 in
theorem c3b (mo t n:Int) (a3:Option Addr) (L3 c3:Nat) (b:List GF) (a4:Option Addr) (L4 c4:Nat) (r:List GF) (a5:Option Addr) (L5 c5:Nat) (q:List GF) (bl:Bool) (w:World) (hG:Gl w) (hb:Pa w a3 L3 c3 b) (hr:Pa w a4 L4 c4 r) (hq:Pa w a5 L5 c5 q) (h3:L3 ≤ 500) (h4:L4 ≤ 500) (h5:L5 ≤ 500) :
 Calls Tryz.prog 5 #[.int .i64 mo,.int .i64 t,.int .i64 n,.slice a3 L3 c3,.slice a4 L4 c4,.slice a5 L5 c5,.bool bl] w fun e w' => e = .returned (.bool true) ∧ Below w.heap.size w w':=by
 have HBB:=hJ_ hb
 have HRR:=hJ_ hr
 have HQQ:=hJ_ hq
 have HL:=hJ_ (show L3 ≤ 500 ∧ L4 ≤ 500 ∧ L5 ≤ 500 from ⟨h3,h4,h5⟩)
 have HG:=hJ_ hG
 have q3:¬ (500:Int) < (L3:Int):=by omega
 have q4:¬ (500:Int) < (L4:Int):=by omega
 have q5:¬ (500:Int) < (L5:Int):=by omega
 have hbd:=hb.bd
 have hrd:=hr.bd
 have hqd:=hq.bd
 clear hb hr hq h3 h4 h5 hG
 go_enter Tryz.func5,Tryz.ntmps5
 go_upto_region 3 with (go_at_call 7;go_loud (refine (a7n w).mono ?_;rintro e w1 ⟨rfl,hb⟩;have HB1:=hJ_ hb;clear hb))
 go_upto_region 4 with (go_at_call 8;go_loud (refine (e2v _ _ _ _ w1).mono ?_;rintro e w2 ⟨m,T,N,C,rfl,hs,hn,hc,hb⟩;have HS:=hJ_ hs;have HN:=hJ_ hn;have HC:=hJ_ hc;have HB2:=hJ_ (bt HB1.out hb);clear hs hn hc hb))
 obtain ⟨w3,hw3⟩:∃ w3,w3 = w2.alloc (.cells #[.int .i64 m,.int .i64 (T:Nat),.int .i64 (N:Nat),.int .i64 (C:Nat)] 25):=⟨_,rfl⟩
 have HX:=hJ_ (show Bx w3 w2.heap.size m T N C by rw [hw3];exact Bx.new w2 m T N C)
 have HB3:=hJ_ (show Below w.heap.size w w3 by rw [hw3];exact HB2.out.alloc HB2.out.size _)
 try rw [← hw3]
 obtain ⟨G,hGG⟩:∃ G,G = w2.heap.size:=⟨_,rfl⟩
 rw [← hGG] at HX
 try rw [← hGG]
 clear hw3 hGG
 obtain ⟨L,hL⟩:∃ L,L = a4v m T:=⟨_,rfl⟩
 have HLE:=hJ_ hL
 have HLV:=hJ_ (show L ≤ 4000 by rw [hL];exact c2f HS.out HN.out)
 clear hL
 go_upto_region 5 with (go_at_call 11;go_loud (refine (b3p _).mono ?_;rintro e w4 ⟨bf,rfl,hbf,hfl,hb⟩;have HF4:=hJ_ hfl;have HX4:=hJ_ (HX.out.on hb);have HB4:=hJ_ (bt HB3.out hb);clear hfl hb hbf))
 have y0:∀ W,Below w4.heap.size w4 W → W.cell? ⟨G,0,none⟩ = some (.int .i64 m):=fun W hW => (HX4.out.on hW).c0
 have y1:∀ W,Below w4.heap.size w4 W → W.cell? ⟨G,1,none⟩ = some (.int .i64 (T:Nat)):=fun W hW => (HX4.out.on hW).c1
 have y2:∀ W,Below w4.heap.size w4 W → W.cell? ⟨G,2,none⟩ = some (.int .i64 (N:Nat)):=fun W hW => (HX4.out.on hW).c2
 have y3:∀ W,Below w4.heap.size w4 W → W.cell? ⟨G,3,none⟩ = some (.int .i64 (C:Nat)):=fun W hW => (HX4.out.on hW).c3
 have HBK:=hJ_ (fun (W:World) (hW:Below w.heap.size w W) => d8x a3 L3 c3 b W (HBB.out.on hW) HL.out.1)
 have HRN:=hJ_ (fun (W:World) (hW:Below w.heap.size w W) => e6z m T N C a4 L4 c4 r L W HS.out HLE.out HLV.out (HRR.out.on hW) HL.out.2.1)
 have HQN:=hJ_ (fun (W:World) (hW:Below w.heap.size w W) => e6z m T N C a5 L5 c5 q L W HS.out HLE.out HLV.out (HQQ.out.on hW) HL.out.2.2)
 go_region_held (fun W => Below w4.heap.size w4 W) (first | assumption | exact (Below.refl _ _).drew | (refine Below.drew ?_;assumption))
  (first
   | (go_at_call 12;go_loud (refine (HBK.out _ (by first | exact HB4.out | exact HB4.out.drew)).mono ?_;rintro e w5 ⟨g5,rfl,hp5,hb5⟩;have hbw5:Below w4.heap.size w4 w5:=bt (Below.refl _ _).drew hb5;have HB5:=hJ_ (bt HB4.out hbw5);have HP5:=hJ_ hp5;clear hp5 hb5))
   | (go_at_call 9;go_loud (refine (HQN.out w6 HB6.out).mono ?_;rintro e w7 ⟨g7,rfl,hp7,hb7⟩;have hbw7:=bt hbw6 hb7;have HB7:=hJ_ (bt HB4.out hbw7);have HP57:=hJ_ (HP56.out.on hb7);have HP67:=hJ_ (HP6.out.on hb7);have HP7:=hJ_ hp7;have HX7:=hJ_ (HX4.out.on hbw7);have HF7:=hJ_ (HF4.out.below hbw7);clear hp7 hb7))
   | (go_at_call 9;go_loud (refine (HRN.out w5 HB5.out).mono ?_;rintro e w6 ⟨g6,rfl,hp6,hb6⟩;have hbw6:=bt hbw5 hb6;have HB6:=hJ_ (bt HB4.out hbw6);have HP56:=hJ_ (HP5.out.on hb6);have HP6:=hJ_ hp6;clear hp6 hb6)))
 all_goals
 clear y0 y1 y2 y3 HX4 HF4 HX HRN HQN HP5 HP56 HP6 hbw5 hbw6
 have HRL:=hJ_ HP67.out.len
 have HQL:=hJ_ HP7.out.len
 have HBL:=hJ_ HP57.out.len
 have x0:=HX7.out.c0;have x1:=HX7.out.c1;have x2:=HX7.out.c2;have x3:=HX7.out.c3
 have HSP:=hJ_ (e2a bf m T N C (some ⟨g5,0,none⟩) 440 (b2q b) (some ⟨g6,0,none⟩) L L (a3p r L) w7 HS.out (HG.out.on HB7.out HG.out.1) HF7.out HP57.out HP67.out HLE.out)
 go_upto_if 72 with (go_at_call 10;go_loud (refine HSP.out.mono ?_;rintro e w8 ⟨a8,c8,rfl,hm8,hb8⟩;have HM8:=hJ_ hm8;have HB78:=hJ_ hb8;clear hm8 hb8))
 clear x0 x1 x2 x3 HSP
 obtain ⟨us,hou,hru⟩:=HM8.out
 have hmb:=HM8.out.mat.bd
 have HMM:=hJ_ (HM8.out.mat)
 obtain ⟨gl,rfl⟩:=b3h hou (by have:=HS.out.2;omega)
 obtain ⟨B7,hB7⟩:∃ B7,B7 = w7.heap.size:=⟨_,rfl⟩
 rw [← hB7] at hou
 have HOU:=hJ_ hou
 have HRU:=hJ_ hru
 have HBE:=hJ_ hB7
 have HN1:=hJ_ (show 1 ≤ T ∧ T ≤ N ∧ N ≤ 7 by have:=HS.out.2;have:=HN.out;omega)
 obtain ⟨Rw,hRw⟩:∃ Rw,Rw = a4l m T:=⟨_,rfl⟩
 have HRW:=hJ_ (show Rw = a4l m T ∧ 1 ≤ Rw ∧ Rw ≤ 473 by
  have hc:=a5n HS.out.2.1
  have:=b1p (m:=m) HS.out.2.1
  refine ⟨hRw,?_,by omega⟩
  rw [hRw]
  unfold a4l
  split <;> omega)
 clear hou hru hB7 hRw HM8
 go_cut [17,22] from 73 to 88 (fun v s wx => ∃ (aB:Option Addr) (cB:Nat),v = .slice aB 440 cB ∧ Hid (Pa wx aB 440 cB (frB bl (b2q b))) ∧ Hid (Mat wx (some ⟨gl,0,none⟩) N c8 (stR (frQ m bl T (b2q b) (a3p r L) L) N)) ∧ Hid (Below w7.heap.size w7 wx))
 case first =>
  cases bl with
  | false =>
   go_wp2_with fail
   go_meet
   exact ⟨_,_,rfl,hJ_ (HP57.out.on HB78.out),hJ_ (by rw [e8w];exact HMM.out),HB78⟩
  | true =>
   have hmkB:=run_make_row' (P:=Tryz.prog) 22 5 (.int .u8 0) 1 Tryz.underlying22 info5 rfl .i64 .i64 440 (by omega) (by omega)
   rw [show ((440:Nat):Int) = 2 * 220 from rfl] at hmkB
   simp only [Int.reduceMul] at hmkB
   have hmkR:=run_make_row' (P:=Tryz.prog) 22 5 (.int .u8 0) 1 Tryz.underlying22 info5 rfl .i64 .i64 Rw (by have:=HRW.out;omega) (by have:=HRW.out;omega)
   have qN7:(N:Int) ≤ 7:=by have:=HN1.out;omega
   obtain ⟨S8,hS8⟩:∃ S8,S8 = w8.heap.size:=⟨_,rfl⟩
   have HS8:=hJ_ hS8
   have HG8:=hJ_ (show gl < S8 ∧ B7 ≤ gl by rw [hS8];have:=HOU.out.lt gl rfl;omega)
   have HUL:=hJ_ (show us.length = N by have:=HOU.out.1;simpa using this)
   have HO0:=hJ_ (show (w8.alloc (.cells (madeCells #[.int .u8 0] 440) 5)).ownsRow B7 22 1 (.slice (some ⟨gl,0,none⟩) N c8) N ([] ++ us.drop 0) by rw [List.drop_zero,List.nil_append];exact HOU.out.alloc _)
   have HPZ:=hJ_ (c6t w8 440 (by omega))
   have HBZ:=hJ_ (show Below w7.heap.size w7 (w8.alloc (.cells (madeCells #[.int .u8 0] 440) 5)) from bt3 HB78.out _)
   have HSZ:=hJ_ (show S8 < (w8.alloc (.cells (madeCells #[.int .u8 0] 440) 5)).heap.size by rw [hS8];simp)
   go_upto_region 9 with fail
   rw [← hS8] at HPZ
   rw [← hS8]
   clear hS8
   go_wp2_with fail
   go_loopw [76] (fun s V => ∃ (i:Nat) (vs:List Value),i ≤ N ∧ s = .int .i64 (i:Nat) ∧ vs.length = i ∧ Hid (V.ownsRow B7 22 1 (.slice (some ⟨gl,0,none⟩) N c8) N (vs ++ us.drop i)) ∧ Hid (RV V (fun b => S8 ≤ b) vs (List.replicate i (noR Rw))) ∧ Hid (Pa V (some ⟨S8,0,none⟩) 440 440 (noR 440)) ∧ Hid (Below w7.heap.size w7 V) ∧ Hid (S8 < V.heap.size)) (fun s _ => N - (intOf s).toNat)
   case atStart => exact ⟨0,[],Nat.zero_le _,rfl,rfl,HO0,hJ_ (RV.nil _ _),HPZ,HBZ,HSZ⟩
   case round =>
    obtain ⟨i,vs,hi,rfl,hvl,HO,HV,HP,HBV,HSV⟩:=hrel
    rename World => V
    by_cases hlt:i < N
    ·
     have HLT:=hJ_ hlt
     have HVL:=hJ_ hvl
     have qi:(i:Int) < (N:Int):=by omega
     have qi0:(0:Int) ≤ (i:Int):=by omega
     obtain ⟨ai,ci,hui,hi2,hi3,-,-⟩:=HRU.out.2 i (by rw [a6c];exact hlt)
     rw [a1d hlt,a0v,d3l HS.out,← HRW.out.1] at hui hi2
     have hc0:=HO.out.cellAt i (by omega)
     rw [b5o hvl,hui] at hc0
     have HO2:=hJ_ (HO.out.alloc (.cells (madeCells #[.int .u8 0] Rw) 5))
     have hfz:=HO2.out.frozenAt i
     have hc2:=HO2.out.cellAt i (by omega)
     rw [b5o hvl,hui] at hc2
     have hci:ci ≤ 9223372036854775807:=by unfold maxLen at hi3;omega
     clear hlt hvl hui hi hi3
     go_wp2_with fail
     have hst:=(HO2.out.stored i (.slice (some ⟨V.heap.size,0,none⟩) Rw Rw)).1
     rw [c4w _ HVL.out (by rw [HUL.out];exact HLT.out)] at hst
     have HST:=hJ_ hst
     have hba:Below V.heap.size V (V.alloc (.cells (madeCells #[.int .u8 0] Rw) 5)):=(Below.refl _ _).alloc (Nat.le_refl _) _
     have hp1:=(HP.out.on hba).but (a2u (V.alloc (.cells (madeCells #[.int .u8 0] Rw) 5)) gl i (.slice (some ⟨V.heap.size,0,none⟩) Rw Rw)) (fun bb off e => by cases e;have:=HG8.out;omega)
     have hp2:=(c6t V Rw (by have:=HRW.out;omega)).but (a2u (V.alloc (.cells (madeCells #[.int .u8 0] Rw) 5)) gl i (.slice (some ⟨V.heap.size,0,none⟩) Rw Rw)) (fun bb off e => by cases e;have:=HG8.out;have:=HSV.out;omega)
     have hrv:RV ((V.alloc (.cells (madeCells #[.int .u8 0] Rw) 5)).setCell ⟨gl,i,none⟩ (.slice (some ⟨V.heap.size,0,none⟩) Rw Rw)) (fun b => S8 ≤ b) vs (List.replicate i (noR Rw)):=HV.out.keep (by simp) (fun b h1 h2 => ⟨h2,by rw [Below.heap_setCell _ _ _ _ (by show b ≠ gl;have:=HG8.out;omega)];exact hba.block b h1⟩)
     have hl:(noR Rw).length = Rw:=List.length_replicate
     have hmo:=hrv.more (P:=noR Rw) (a:=some ⟨V.heap.size,0,none⟩) (c:=Rw) (by rw [hl];exact hp2) (fun bb off e _ => by cases e;have:=HSV.out;omega)
     rw [hl,← List.replicate_succ'] at hmo
     have HP1:=hJ_ hp1;have HMO:=hJ_ hmo
     have HBN:=hJ_ ((bt3 HBV.out (.cells (madeCells #[.int .u8 0] Rw) 5)).setCell (p:=⟨gl,i,none⟩) (by show w7.heap.size ≤ gl;rw [← HBE.out];exact HG8.out.2) (.slice (some ⟨V.heap.size,0,none⟩) Rw Rw))
     have HSN:=hJ_ (show S8 < ((V.alloc (.cells (madeCells #[.int .u8 0] Rw) 5)).setCell ⟨gl,i,none⟩ (.slice (some ⟨V.heap.size,0,none⟩) Rw Rw)).heap.size by have:=HSV.out;simp;omega)
     have hl2:(vs ++ [Value.slice (some ⟨V.heap.size,0,none⟩) Rw Rw]).length = i + 1:=by rw [List.length_append,HVL.out];rfl
     clear hst hba hp1 hp2 hrv hl hmo
     go_roundw
     case rel => exact ⟨i + 1,_,by have:=HLT.out;omega,by go_num,hl2,HST,HMO,HP1,HBN,HSN⟩
     case measure => simp [intOf];have:=HLT.out;omega
    ·obtain rfl:N = i:=by omega
     have ho:=HO.out
     rw [List.drop_of_length_le (by rw [HUL.out];exact Nat.le_refl _),List.append_nil] at ho
     have HMZ:=hJ_ (Mat.ownS17 ho HV.out)
     clear hlt hi hvl ho
     go_wp2_with fail
     go_meet
     exact ⟨_,_,rfl,HP,hJ_ (by rw [c2a HS.out,← HRW.out.1];exact HMZ.out),HBV⟩
 case rest =>
 obtain ⟨aB,cB,rfl,HPB,HMQ,HB79⟩:=hcut
 obtain ⟨w9,hw9⟩:∃ w9,w9 = wc:=⟨_,rfl⟩
 rw [← hw9] at HPB HMQ HB79
 rw [← hw9]
 have HB9:=hJ_ (bt HB7.out HB79.out)
 have HX9:=hJ_ (HX7.out.on HB79.out)
 have HF9:=hJ_ (HF7.out.below HB79.out)
 have HPR:=hJ_ (HP67.out.on HB79.out)
 have HPQ:=hJ_ (HP7.out.on HB79.out)
 have hpb:=HPB.out.bd
 clear hw9 HOU HRU HB78 HMM HP57 HP67 HP7 HX7 HF7
 have HFR:=hJ_ (d8n bf m T N C bl (some ⟨gl,0,none⟩) c8 (b2q b) (a3p r L) (some ⟨g7,0,none⟩) L L (a3p q L) w9 HS.out (HG.out.on HB9.out HG.out.1) HF9.out HMQ.out HPQ.out HLE.out (by have:=HN1.out;omega) HBL.out HRL.out)
 obtain ⟨F,hF⟩:∃ F,F = frF m bl T (b2q b) (a3p r L) (a3p q L) L:=⟨_,rfl⟩
 rw [← hF] at HFR
 have HFP:=hJ_ (show a9r F Rw T by rw [hF,HRW.out.1];exact d4p HS.out bl _ _ _ _)
 have HFT:=hJ_ (show Tel m T F (frB bl (b2q b)) by rw [hF];exact e2d HS.out bl HBL.out HQL.out HLE.out)
 have HFE:=hJ_ hF
 clear hF
 have x0:=HX9.out.c0;have x1:=HX9.out.c1;have x2:=HX9.out.c2;have x3:=HX9.out.c3
 go_upto_region 15 with (go_at_call 21;go_loud (refine HFR.out.mono ?_;rintro e w10 ⟨aF,cF,rfl,hm,hb⟩;have HMF:=hJ_ hm.mat;have HB910:=hJ_ hb;have HX10:=hJ_ (HX9.out.on hb);have HB10:=hJ_ (bt HB9.out hb);have HF10:=hJ_ (HF9.out.below hb);have HPB10:=hJ_ (HPB.out.on hb);have HMQ10:=hJ_ (HMQ.out.on hb);have HPR10:=hJ_ (HPR.out.on hb);have HPQ10:=hJ_ (HPQ.out.on hb);clear hm hb))
 clear x0 x1 x2 x3 HFR HPB HMQ HPR HPQ HX9 HF9
 have hmf:=HMF.out.bd
 have qNN:((N:Int) != (N:Int)) = false:=by simp
 have x0:=HX10.out.c0;have x1:=HX10.out.c1;have x2:=HX10.out.c2;have x3:=HX10.out.c3
 go_upto_region 18 with fail
 clear x0 x1 x2 x3 qNN
 obtain ⟨i3,hi3,hi30,hi31,hi32⟩:=info_parts c4h
 have HI3:=hJ_ (And.intro hi3 (And.intro hi30 (And.intro hi31 hi32)))
 clear hi3 hi30 hi31 hi32
 have qN7:(N:Int) ≤ 7:=by have:=HN1.out;omega
 obtain ⟨S1,hS1⟩:∃ S,S = w10.heap.size:=⟨_,rfl⟩
 have HS1:=hJ_ hS1
 clear hS1
 go_wp2_with fail
 go_loopw [25,26] (fun v s V => ∃ (i:Nat) (a:Option Addr) (c:Nat),i ≤ N ∧ s = .int .i64 ((i:Int) + 1) ∧ v = .slice a i c ∧ Hid (V.ownsRow S1 3 1 (.slice a i c) i ((zl (upN i)).map (Value.int .i64))) ∧ Hid (Below w10.heap.size w10 V)) (fun _ s _ => N + 1 - (intOf s).toNat)
 case atStart => exact ⟨0,none,0,Nat.zero_le _,rfl,rfl,hJ_ (World.ownsRow_nil _ _ _ _),hJ_ (Below.refl _ _)⟩
 case round =>
  obtain ⟨i,a,c,hi,rfl,rfl,HO,HBV⟩:=hrel
  rename World => V
  have HXV:=hJ_ (HX10.out.on HBV.out)
  have x2:=HXV.out.c2
  by_cases hlt:i < N
  ·
   have HLT:=hJ_ hlt
   have q1:(i:Int) + 1 ≤ (N:Int):=by omega
   have hca:=b4c HO.out
   have HSV:=hJ_ (show S1 ≤ V.heap.size by rw [HS1.out];exact HBV.out.size)
   have k1:wrap64 ((i:Int) + 1 + 1) = ((i + 1:Nat):Int) + 1:=by unfold wrap64;omega
   have K1:=hJ_ k1
   clear hlt hi k1
   go_wp2_with ((with_reducible show wpList _ _ _ (⟨some 119,_,_,_,_,_⟩ :: _) _ _);go_loud (refine wpList_append_own _ rfl (.tmp 116) (.tmp 118) 39 rfl S1 3 i3 (.int .i64 0) 1 8 Tryz.underlying39 HI3.out.1 HI3.out.2.1 HI3.out.2.2.1 HI3.out.2.2.2 rfl (by decide) (.slice a i c) i ((zl (upN i)).map (Value.int .i64)) rfl (HO.out.alloc _) _ 1 1 [.int .i64 ((i:Int) + 1)] rfl rfl (c3e _ _ _ _ (by simp)) (by intro u hu;cases List.mem_singleton.1 hu;rfl) (by unfold maxLen;omega) (by omega) (by have:=HSV.out;simp;omega) ?_);go_loud (intro v10 w11 hown10 hg10 _;have HBN:=hJ_ ((bt3 HBV.out (.cells #[.int .i64 ((i:Int) + 1)] 3)).grown hg10 (by have:=HBV.out.size;simp;omega) (fun z hz => by rw [← HS1.out];exact (HO.out.lt z hz).1));obtain ⟨a10,c10,hv10⟩:=b5n hown10;subst hv10;have HON:=hJ_ hown10;clear hown10 hg10))
   go_roundw
   case rel => exact ⟨i + 1,a10,c10,by have:=HLT.out;omega,by go_num,rfl,hJ_ (by rw [d3f,List.map_append];exact HON.out),HBN⟩
   case measure => simp [intOf];have:=HLT.out;omega
  ·
   obtain rfl:N = i:=by omega
   have q1:¬ (N:Int) + 1 ≤ (N:Int):=by omega
   have HFV:=hJ_ (HF10.out.below HBV.out)
   have HBw:=hJ_ (bt HB10.out HBV.out)
   have HMV:=hJ_ (HMF.out.on HBV.out)
   have HPBV:=hJ_ (HPB10.out.on HBV.out)
   have HMQV:=hJ_ (HMQ10.out.on HBV.out)
   have HPRV:=hJ_ (HPR10.out.on HBV.out)
   have HPQV:=hJ_ (HPQ10.out.on HBV.out)
   have HIA:=hJ_ (b5d HO.out (fun z hz => by
    obtain ⟨x,hx,rfl⟩:=List.mem_map.1 hz
    have:=d6j hx;have:=HN1.out;omega))
   have hca:=b4c HO.out
   have HFL:=hJ_ (show F.length = a4l m T by rw [HFP.out.1,HRW.out.1])
   have HGO:=hJ_ (c8f bf m T N C a N c (zl (upN N)) aF cF (stR F N) V HFV.out HS.out HIA.out HMV.out (by have:=HN1.out;omega) (fun i h => by rw [a1d h,a0v,HFP.out.1];have:=HRW.out;omega) (fun i h => by rw [a8t h];omega) (fun i h => by rw [a1d h,a0v,HFL.out]) HN1.out.2.1 (Nat.le_refl _) F (by have:=HN1.out;omega) (d0j (by have:=HN1.out;omega)) HFL.out (by
    rw [← HRW.out.1]
    exact b1d HFP.out (by rw [c1m,b6g,d9o]) HN1.out.2.1 (fun i h => by rw [a1d h,e0b,a8t h];rfl)))
   have x0:=HXV.out.c0;have x1:=HXV.out.c1;have x3:=HXV.out.c3
   clear hlt hi HMQ10 HPR10 HPQ10 HPB10
   go_upto_region 23 with (go_at_call 17;go_loud (refine HGO.out.mono ?_;rintro e w11 ⟨p,rfl,hst,hb⟩;have HST:=hJ_ hst;have HBV1:=hJ_ hb;have HB11:=hJ_ (bt HBw.out hb);have HBL11:=hJ_ (e2g p m T F (frB bl (b2q b)) _ w11 hst (HG.out.on HB11.out HG.out.1) HS.out.2.1 (by have:=HS.out.2;omega) HFT.out);clear hst hb))
   go_upto_region 24 with (go_at_call 18;go_loud (refine HBL11.out.mono ?_;rintro e w12 ⟨aK,cK,rfl,hp,hb⟩;have HPK:=hJ_ hp;have HBV2:=hJ_ (bt HBV1.out hb);have HB12:=hJ_ (bt HB11.out hb);clear hp hb))
   clear x0 x1 x2 x3 HGO HBL11
   have HP12:=hJ_ (HPBV.out.on HBV2.out)
   have hcv1:=HPK.out.str_on rfl w12 (Below.refl _ _)
   have hcv2:=HP12.out.str_on rfl w12 (Below.refl _ _)
   have hkb:=HPK.out.bd
   have HX12:=hJ_ (HXV.out.on HBV2.out)
   have x0:=HX12.out.c0;have x1:=HX12.out.c1;have x2:=HX12.out.c2;have x3:=HX12.out.c3
   go_upto_region 26 with fail
   clear hcv1 hcv2
   rcases HS.out.1 with hm0 | hm1
   ·
    have HM0:=hJ_ hm0
    have HFE0:=hJ_ (show F = qS T (frB bl (b2q b)) (a6z (frR bl (a3p r L) L) (a3p q L)) by rw [HFE.out,hm0,d2m])
    have qm:(m == 1) = false:=by rw [hm0];rfl
    have hS0:=HS.out
    rw [hm0] at hS0
    have HS0:=hJ_ hS0
    have HLE0:=hJ_ (show L = a4v 0 T by rw [HLE.out,hm0])
    have hLV:=HLV.out
    have hmkL:=run_make_row' (P:=Tryz.prog) 22 5 (.int .u8 0) 1 Tryz.underlying22 info5 rfl .i64 .i64 L (by omega) (by omega)
    have HMF12:=hJ_ (HMV.out.on HBV2.out)
    have HPQ12:=hJ_ (HPQV.out.on HBV2.out)
    have HPR12:=hJ_ (HPRV.out.on HBV2.out)
    clear hm0 hS0
    obtain ⟨S2,hS2⟩:∃ S2,S2 = w12.heap.size:=⟨_,rfl⟩
    have HS2:=hJ_ hS2
    have k1:=hJ_ (show (w12.alloc (.cells (madeCells #[.int .u8 0] L) 5)).heap[w12.heap.size]? = some (.cells (madeCells #[.int .u8 0] L).toList.toArray 5 (0,0)) by rw [Array.toArray_toList];exact heap_alloc_new w12 _)
    have k2:=hJ_ (show ((iL (a3p q L)).map (Value.int .u8)).length = Nat.min L L by rw [List.length_map,a0a,HQL.out];simp)
    have k3:=hJ_ (c3z (HPQ12.out.on ((Below.refl w12.heap.size w12).alloc (Nat.le_refl _) (.cells (madeCells #[.int .u8 0] L) 5))))
    have k4:=hJ_ (show 0 + ((iL (a3p q L)).map (Value.int .u8)).length ≤ (madeCells #[.int .u8 0] L).toList.length by simp [a0a,HQL.out,size_madeCells])
    have k6:=hJ_ (show L ≤ 1000000 by omega)
    have k5:=hJ_ (show Below w12.heap.size w12 (w12.alloc (.cells (madeCells #[.int .u8 0] L) 5)) from (Below.refl _ _).alloc (Nat.le_refl _) _)
    clear hS2
    cases bl with
    | true =>
     go_upto_region 32 with ((with_reducible show wpList _ _ _ (⟨some 174,_,_,_,_,_⟩ :: _) _ _);go_loud (refine wpList_copy_splice (o:=⟨some 174,_,_,_,_,_⟩) rfl (.tmp 172) (.tmp 173) 22 22 rfl 5 Tryz.underlying22 a2a (some ⟨w12.heap.size,0,none⟩) (some ⟨g7,0,none⟩) L L L L rfl rfl w12.heap.size 0 (madeCells #[.int .u8 0] L).toList 5 k1.out ((iL (a3p q L)).map (Value.int .u8)) k2.out (fun h0 => ⟨rfl,⟨g7,0,none⟩,rfl,k3.out⟩) k4.out (ints_oneCell _ _) w12.heap.size w12 k5.out (Nat.le_refl _) ?_);go_loud (intro w13 hg1 hb1;have HO13:=hJ_ (a9f HQL.out k6.out hg1.out);have HB13:=hJ_ hb1;clear hg1 hb1))
     obtain ⟨a',c',e',hsum⟩:=c8i HO13.out
     cases e'
     have HX13:=HX12.out.on HB13.out
     clear x0 x1 x2 x3
     have x1:=HX13.c1;have x2:=HX13.c2
     have HRF:=hJ_ (a7d 0 T N C aB cB (frB true (b2q b)) (some ⟨w12.heap.size,0,none⟩) L L (a3p q L) w13 HS0.out (HP12.out.on HB13.out) hsum (by have:=HN1.out;omega) HLE0.out)
     have HEQ:=hJ_ (show F = qM 0 T (frB true (b2q b)) (a3p q L) by rw [HFE0.out,show frR true (a3p r L) L = noR L from if_pos rfl,d4b HQL.out];rfl)
     have HMFX:=hJ_ (HMF12.out.on HB13.out)
     have HBX:=hJ_ (bt HB12.out HB13.out)
     clear hsum HX13
     go_wp2_with (first
      | (go_at_call 14;go_loud (refine HRF.out.mono ?_;rintro e w14 ⟨a14,c14,rfl,hm,hb⟩;have HSM:=hJ_ (b9y aF N cF (stR F N) a14 c14 w14 (HMFX.out.on hb) (by rw [HEQ.out];exact hm));have HB14:=hJ_ (bt HBX.out hb);clear hm hb))
      | (go_at_call 13;go_loud (refine HSM.out.mono ?_;rintro e w15 ⟨rfl,hb⟩;have HB15:=hJ_ (bt HB14.out hb);clear hb)))
     go_ret
     exact ⟨rfl,HB15.out⟩
    | false =>
     go_upto_region 32 with ((with_reducible show wpList _ _ _ (⟨some 174,_,_,_,_,_⟩ :: _) _ _);go_loud (refine wpList_copy_splice (o:=⟨some 174,_,_,_,_,_⟩) rfl (.tmp 172) (.tmp 173) 22 22 rfl 5 Tryz.underlying22 a2a (some ⟨w12.heap.size,0,none⟩) (some ⟨g7,0,none⟩) L L L L rfl rfl w12.heap.size 0 (madeCells #[.int .u8 0] L).toList 5 k1.out ((iL (a3p q L)).map (Value.int .u8)) k2.out (fun h0 => ⟨rfl,⟨g7,0,none⟩,rfl,k3.out⟩) k4.out (ints_oneCell _ _) w12.heap.size w12 k5.out (Nat.le_refl _) ?_);go_loud (intro w13 hg1 hb1;have HO13:=hJ_ (a9f HQL.out k6.out hg1.out);have HB13:=hJ_ hb1;clear hg1 hb1))
     clear x0 x1 x2 x3
     go_wp2_with fail
     go_loopw [179] (fun s U => ∃ k:Nat,k ≤ L ∧ s = .int .i64 (k:Nat) ∧ Hid (U.ownsRow w12.heap.size 5 1 (.slice (some ⟨w12.heap.size,0,none⟩) L L) L ((iL (b7p (a3p q L) (a3p r L) k)).map (Value.int .u8))) ∧ Hid (Below w12.heap.size w12 U)) (fun s _ => L - (intOf s).toNat)
     case atStart => exact ⟨0,Nat.zero_le _,rfl,hJ_ (by rw [c6z];exact HO13.out),HB13⟩
     case round =>
      obtain ⟨k,hk,rfl,HOU,HBU⟩:=hrel
      rename World => U
      by_cases hlk:k < L
      ·
       have hby:=a0h HOU.out k hlk
       rw [Nat.zero_add,a0k] at hby
       obtain ⟨b6,o6,e6,hb6,hc6⟩:=(HPR12.out.on HBU.out).at_ hlk
       cases e6
       rw [Nat.zero_add] at hc6
       have hfz:=HOU.out.frozenAt k
       have hst:=(HOU.out.stored k (.int .u8 (toI (co (b7p (a3p q L) (a3p r L) k) k + co (a3p r L) k)))).1
       rw [a1h,show (iL (b7p (a3p q L) (a3p r L) k)).set k (toI (co (b7p (a3p q L) (a3p r L) k) k + co (a3p r L) k)) = iL ((b7p (a3p q L) (a3p r L) k).set k (co (b7p (a3p q L) (a3p r L) k) k + co (a3p r L) k)) by simp [iL,List.map_set],c7d (by rw [HQL.out];exact hlk),← a3c] at hst
       have HST:=hJ_ (a0o hst (Below.refl _ _).drew)
       have HBN:=hJ_ (show Below w12.heap.size w12 ((U.setCell ⟨w12.heap.size,k,none⟩ (.int .u8 (bits .xor .u8 (toI (co (b7p (a3p q L) (a3p r L) k) k)) (toI (co (a3p r L) k))))).drew) from (HBU.out.setCell (p:=⟨w12.heap.size,k,none⟩) (Nat.le_refl _) _).drew)
       have qk:(k:Int) < (L:Int):=by omega
       have qk0:(0:Int) ≤ (k:Int):=by omega
       have qL:(L:Int) ≤ 4000:=by omega
       have HLK:=hJ_ hlk
       clear hst hb6 hlk hk
       go_upto_region 36 with fail
       go_still_tail 9,(by kernel_rfl)
       go_wp2
       go_roundw
       case rel => exact ⟨k + 1,by have:=HLK.out;omega,by go_num,HST,HBN⟩
       case measure => simp [intOf];have:=HLK.out;omega
      ·
       obtain rfl:L = k:=by omega
       clear hlk hk
       have ho:=HOU.out
       rw [d5b HQL.out HRL.out] at ho
       obtain ⟨a',c',e',hsum⟩:=c8i ho
       cases e'
       have HX13:=HX12.out.on HBU.out
       have x1:=HX13.c1;have x2:=HX13.c2
       have HRF:=hJ_ (a7d 0 T N C aB cB (frB false (b2q b)) (some ⟨w12.heap.size,0,none⟩) L L (a6z (a3p r L) (a3p q L)) U HS0.out (HP12.out.on HBU.out) hsum (by have:=HN1.out;omega) HLE0.out)
       have HEQ:=hJ_ (show F = qM 0 T (frB false (b2q b)) (a6z (a3p r L) (a3p q L)) by rw [HFE0.out];rfl)
       have HMFX:=hJ_ (HMF12.out.on HBU.out)
       have HBX:=hJ_ (bt HB12.out HBU.out)
       clear hsum HX13 ho
       go_wp2_with (first
        | (go_at_call 14;go_loud (refine HRF.out.mono ?_;rintro e w14 ⟨a14,c14,rfl,hm,hb⟩;have HSM:=hJ_ (b9y aF N cF (stR F N) a14 c14 w14 (HMFX.out.on hb) (by rw [HEQ.out];exact hm));have HB14:=hJ_ (bt HBX.out hb);clear hm hb))
        | (go_at_call 13;go_loud (refine HSM.out.mono ?_;rintro e w15 ⟨rfl,hb⟩;have HB15:=hJ_ (bt HB14.out hb);clear hb)))
       go_ret
       exact ⟨rfl,HB15.out⟩
   ·
    have HM1:=hJ_ hm1
    have qm:(m == 1) = true:=by rw [hm1];rfl
    have hS1:=HS.out
    rw [hm1] at hS1
    have HSS1:=hJ_ hS1
    have HMF12:=hJ_ (HMV.out.on HBV2.out)
    have HPQ12:=hJ_ (HPQV.out.on HBV2.out)
    cases bl with
    | true =>
     have HSM:=hJ_ (b9y aF N cF (stR F N) (some ⟨gl,0,none⟩) c8 w12 HMF12.out (by
      have h:=HMQV.out.on HBV2.out
      rw [HFE.out,HM1.out,e3h]
      rw [HM1.out,d5e] at h
      exact h))
     clear hm1 hS1
     have hld:=hmb
     go_wp2_with (go_at_call 13;go_loud (refine HSM.out.mono ?_;rintro e w15 ⟨rfl,hb⟩;have HB15:=hJ_ (bt HB12.out hb);clear hb))
     go_ret
     exact ⟨rfl,HB15.out⟩
    | false =>
     have HRF:=hJ_ (a7d 1 T N C aB cB (frB false (b2q b)) (some ⟨g7,0,none⟩) L L (a3p q L) w12 HSS1.out HP12.out HPQ12.out (by have:=HN1.out;omega) (by rw [HLE.out,HM1.out]))
     have HEQ:=hJ_ (show F = qM 1 T (frB false (b2q b)) (a3p q L) by rw [HFE.out,HM1.out];rfl)
     have HMFX:=HMF12
     have HBX:=HB12
     clear hm1 hS1
     go_wp2_with (first
      | (go_at_call 14;go_loud (refine HRF.out.mono ?_;rintro e w14 ⟨a14,c14,rfl,hm,hb⟩;have HSM:=hJ_ (b9y aF N cF (stR F N) a14 c14 w14 (HMFX.out.on hb) (by rw [HEQ.out];exact hm));have HB14:=hJ_ (bt HBX.out hb);clear hm hb))
      | (go_at_call 13;go_loud (refine HSM.out.mono ?_;rintro e w15 ⟨rfl,hb⟩;have HB15:=hJ_ (bt HB14.out hb);clear hb)))
     go_ret
     exact ⟨rfl,HB15.out⟩
end Go.Proofs.YtappfdbmhgifcaaGreatDoor
