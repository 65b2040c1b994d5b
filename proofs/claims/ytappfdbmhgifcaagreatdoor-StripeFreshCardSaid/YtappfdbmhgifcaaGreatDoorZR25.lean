/- Texts of mine, one behind the other: Ke2 Hk. -/
import Derived.Test.YtappfdbmhgifcaaGreatDoorZR24
set_option linter.unusedVariables false
set_option linter.unusedSimpArgs false
set_option maxRecDepth 100000
namespace Go.Proofs.YtappfdbmhgifcaaGreatDoor
open Go.ChangeShapes Go.WideShapes Go.ChangeAt Go.RowKit
set_option maxHeartbeats 8000000 in
theorem c3o (a:Option Addr) (L c n:Nat) (l:List Int) (a2:Option Addr) (c2:Nat) (b:List Int) (w:World) (hx:a1l w a L c l) (hn:n = 4 ∨ n = 8) (hL:L = 4 * n) (hy:a1l w a2 16 c2 b) :
 Calls Tryz.prog 58 #[.slice a L c,.slice a2 16 c2] w fun e w' => ∃ g,e = .returned (.slice (some ⟨g,0,none⟩) 16 16) ∧
  a1l w' (some ⟨g,0,none⟩) 16 16 (a2i (enc (kx n (kw l) (3 * n + 28)) (n + 6) (kw b)) 4) ∧ Below w.heap.size w w' ∧ w.heap.size ≤ g:=by
 have HK:=hJ_ (b7z a L c n l w hx hn hL)
 have HWB:=hJ_ (b2l n (b9j hx.2.1) (3 * n + 28))
 have HXB:=hJ_ (b9j hy.2.1)
 have hyc:=hy.2.2.2
 have HBA:=hJ_ (show ∃ bb ob,a2 = some ⟨bb,ob,none⟩ ∧ bb < w.heap.size ∧ ∀ i,i < 16 → w.cell? ⟨bb,ob + i,none⟩ = some (.int .u8 ((qd (kw b) i:Nat):Int)) by
  obtain ⟨bb,ob,e,h1,h2⟩:=hy.2.2.1 (by rw [hy.1];omega)
  refine ⟨bb,ob,e,h1,fun i hi => ?_⟩
  rw [h2 i (by rw [hy.1];exact hi)]
  unfold qd kw
  rw [show 4 * (i / 4) + i % 4 = i by omega]
  have:=a0g hy.2.1 i
  congr 2
  omega)
 obtain ⟨W,hW⟩:∃ W,W = kx n (kw l) (3 * n + 28):=⟨_,rfl⟩
 obtain ⟨X,hX⟩:∃ X,X = kw b:=⟨_,rfl⟩
 rw [← hW] at HK HWB ⊢
 rw [← hX] at HXB HBA ⊢
 have hn1:4 ≤ n:=by omega
 have hn2:n ≤ 8:=by omega
 have HN:=hJ_ hn
 clear hW hX hx hy hn hL
 obtain ⟨bb,ob,rfl,hbb,hbc⟩:=HBA.out
 have HBC:=hJ_ hbc
 have HBB:=hJ_ hbb
 clear hbc hbb HBA
 obtain ⟨i5,HI⟩:∃ i5:TypeInfo,Hid (Tryz.prog.info? 5 = some i5 ∧ i5.zero = some (.int .u8 0) ∧ i5.size = 1 ∧ i5.bytes = 1):=⟨_,hJ_ ⟨rfl,rfl,rfl,rfl⟩⟩
 obtain ⟨LK,hLK⟩:∃ K,K = 16 * (n + 7):=⟨_,rfl⟩
 rw [← hLK] at HK
 have qk:(LK:Int) / 16 = ((n + 7:Nat):Int):=by omega
 have qk2:((n + 7:Nat):Int) - 1 = ((n + 6:Nat):Int):=by omega
 have HLK:=hJ_ hLK
 have hlk2:(LK:Int) ≤ 240:=by omega
 clear hLK
 obtain ⟨n7,hn7⟩:∃ k,k = n + 7:=⟨_,rfl⟩
 obtain ⟨R,hR⟩:∃ k,k = n + 6:=⟨_,rfl⟩
 rw [← hn7] at qk qk2
 rw [← hR] at qk2 ⊢
 have HR:=hJ_ hR
 have qR1:(10:Int) ≤ (R:Int):=by omega
 have qR2:(R:Int) ≤ 14:=by omega
 clear hn7 hR
 have hz:=e4p
 have hst:=d9a
 obtain ⟨z,hzz⟩:∃ z,z = z16:=⟨_,rfl⟩
 have HZB:=hJ_ e7y
 rw [← hzz] at hz hst HZB
 have HZS:=hJ_ (show (Tryz.prog.info? 114).map (·.size) = some z.size by rw [hzz,show z16.size = 16 from a0b _ _];exact b8a)
 have hsz:z.size = 16:=by rw [hzz];exact a0b _ _
 clear hzz
 go_enter Tryz.func58,Tryz.ntmps58
 go_upto_region 4 with (go_at_call 86;(with_reducible refine HK.out.mono ?_);rintro e w1 ⟨g,cap,rfl,ho,hb⟩;have HO1:=hJ_ ho;have HB1:=hJ_ hb;clear ho hb)
 have HZZ:=hJ_ hz
 have HST:=hJ_ hst
 have HSZ:=hJ_ hsz
 clear hz hst hsz
 obtain ⟨bs,hbs⟩:∃ b,b = w1.heap.size:=⟨_,rfl⟩
 obtain ⟨V3,hV3⟩:∃ V,V = w1.alloc (.cells z 114):=⟨_,rfl⟩
 obtain ⟨S0,hS0⟩:∃ S,S = adds X (rk W 0):=⟨_,rfl⟩
 obtain ⟨Z,hZ0⟩:∃ Z:Nat → Nat → Nat,Z = fun _ _ => 0:=⟨_,rfl⟩
 rw [← hZ0] at HZB
 have HZ0:=hJ_ hZ0
 have HS3:=hJ_ (show Blk V3 bs 114 16 (pm Z S0 0) by rw [hV3,hbs];exact HZB.out w1 S0)
 have HB3:=hJ_ (show Below w1.heap.size w1 V3 by rw [hV3];exact (Below.refl _ _).alloc (Nat.le_refl _) _)
 have HBS:=hJ_ hbs
 have HSE:=hJ_ hS0
 have HGC:=a2w HO1.out
 have HGB:=hJ_ (show g < w1.heap.size from HGC.2.2.2.2)
 have HBW:=hJ_ (show bb < w1.heap.size by have:=HBB.out;have:=HB1.out.size;omega)
 have HKC:=hJ_ (show ∀ j,j < LK → w1.cell? ⟨g,j,none⟩ = some (.int .u8 ((qd W j:Nat):Int)) from fun j hj => by
  have h:=a0h HO1.out j hj
  have hLK:=HLK.out
  rw [Nat.zero_add,show j = 4 * (j / 4) + j % 4 by omega,a2f _ (Nat.mod_lt _ (by omega)) _ (by omega),← show j = 4 * (j / 4) + j % 4 by omega] at h
  exact h)
 have HYC:=hJ_ (show ∀ i,i < 16 → w1.cell? ⟨bb,ob + i,none⟩ = some (.int .u8 ((qd X i:Nat):Int)) from fun i hi => (HB1.out.cell (p:=⟨bb,ob + i,none⟩) HBB.out).trans (HBC.out i hi))
 have hgc1:LK ≤ cap:=HGC.2.1
 have hgc2:cap ≤ 9223372036854775807:=HGC.2.2.1
 rw [← hV3,← hbs]
 clear hV3 hbs hS0 hZ0 HGC HO1
 go_wp2_with fail
 go_loopw [24] (fun q V => ∃ i:Nat,i ≤ 16 ∧ q = .int .i64 (i:Nat) ∧ Blk V bs 114 16 (pm Z S0 i) ∧ Below w1.heap.size w1 V) (fun q _ => 16 - (intOf q).toNat)
 case atStart => exact ⟨0,by omega,rfl,HS3.out,HB3.out⟩
 case round =>
  obtain ⟨i,hi,rfl,hS,hB⟩:=hrel
  rename World => V
  have HS:=hJ_ hS
  have HB:=hJ_ hB
  clear hS hB HS3 HB3
  by_cases hlt:i < 16
  ·have hcy:=(HB.out.cell (p:=⟨bb,ob + i,none⟩) HBW.out).trans (HYC.out i hlt)
   have hck:=(HB.out.cell (p:=⟨g,i,none⟩) HGB.out).trans (HKC.out i (by have:=HLK.out;omega))
   have hcs:=HS.out.cell hlt
   have hfs:=HS.out.free i
   have hxr:=u8_xor_nat (qd X i) (qd W i) (b0w HXB.out i) (b0w HWB.out i)
   have hqa:=b8p X W 0 hlt
   rw [Nat.mul_zero,Nat.zero_add,← HSE.out] at hqa
   rw [← hqa] at hxr
   unfold pm at hcs
   rw [if_neg (by omega)] at hcs
   obtain ⟨u1,hu1⟩:∃ u,u = qd X i:=⟨_,rfl⟩
   obtain ⟨u2,hu2⟩:∃ u,u = qd W i:=⟨_,rfl⟩
   obtain ⟨u3,hu3⟩:∃ u,u = qd Z i:=⟨_,rfl⟩
   obtain ⟨u4,hu4⟩:∃ u,u = qd S0 i:=⟨_,rfl⟩
   rw [← hu1] at hcy hxr
   rw [← hu2] at hck hxr
   rw [← hu3] at hcs
   rw [← hu4] at hxr
   have HU4:=hJ_ hu4
   have qi:(i:Int) < 16:=by omega
   have qi0:(0:Int) ≤ (i:Int):=by omega
   have qiL:(i:Int) < (LK:Int):=by have:=HLK.out;omega
   clear hqa hu1 hu2 hu3 hu4
   go_wp2_with fail
   go_still_tail 11,(by kernel_rfl)
   go_wp2
   go_roundw
   case rel => exact ⟨i + 1,by omega,by go_num,((HS.out.drewN 1).set hlt _).congr fun j hj => by rw [HU4.out];exact a4m,(below_drewN HB.out 1).setCell (p:=⟨bs,i,none⟩) (by rw [HBS.out];exact Nat.le_refl _) _⟩
   case measure => simp [intOf];omega
  ·obtain rfl:i = 16:=by omega
   have HS1:=hJ_ (show Blk V bs 114 16 (pm (encR W X 0) Z 0) from HS.out.congr fun j hj => by rw [← show S0 = encR W X 0 from HSE.out];exact b7j hj)
   clear HS
   go_wp2_with fail
   go_loopw [9] (fun q U => ∃ r:Nat,1 ≤ r ∧ r ≤ R + 1 ∧ q = .int .i64 (r:Nat) ∧ Blk U bs 114 16 (pm (stE W R X (r - 1)) Z 0) ∧ Below w1.heap.size w1 U) (fun q _ => R + 1 - (intOf q).toNat)
   case atStart => exact ⟨1,by omega,by omega,rfl,by rw [show stE W R X (1 - 1) = encR W X 0 from if_neg (by omega)];exact HS1.out,HB.out⟩
   case round =>
    obtain ⟨r,hr1,hr2,rfl,hS,hU⟩:=hrel
    rename World => U
    have HSU:=hJ_ hS
    have HU:=hJ_ hU
    clear hS hU HS1 HB
    by_cases hle:r ≤ R
    ·have qr:(r:Int) ≤ (R:Int):=by omega
     have qr1:(1:Int) ≤ (r:Int):=by omega
     obtain ⟨k,hk⟩:∃ k,k = r - 1:=⟨_,rfl⟩
     have hPe:stE W R X (r - 1) = encR W X k:=by rw [← hk];exact if_neg (by omega)
     rw [hPe] at HSU
     have HKR:=hJ_ (show r = k + 1 by omega)
     clear hPe hk
     obtain ⟨P,hP⟩:∃ P,P = encR W X k:=⟨_,rfl⟩
     rw [← hP] at HSU
     have HPE:=hJ_ hP
     have HPB:=hJ_ (show SqB P by rw [hP];exact b8x HWB.out HXB.out k)
     obtain ⟨T,hT⟩:∃ T,T = thr box 1 P:=⟨_,rfl⟩
     have HTE:=hJ_ hT
     have HTB:=hJ_ (show SqB T by rw [hT];exact SqB.thr a2t _ _)
     clear hP hT
     have hz:=HZZ.out
     have hst:=HST.out
     have hsz:=HSZ.out
     go_upto_region 13 with fail
     clear hz hst hsz
     obtain ⟨bt,hbt⟩:∃ b,b = U.heap.size:=⟨_,rfl⟩
     obtain ⟨V12,hV12⟩:∃ V,V = U.alloc (.cells z 114):=⟨_,rfl⟩
     have HT12:=hJ_ (show Blk V12 bt 114 16 (pm Z T 0) by rw [hV12,hbt];exact HZB.out U T)
     have HS12:=hJ_ (show Blk V12 bs 114 16 (pm P Z 0) by rw [hV12];exact HSU.out.on ((Below.refl _ _).alloc (Nat.le_refl _) _) HSU.out.lt)
     have HB12:=hJ_ (show Below w1.heap.size w1 V12 by rw [hV12];exact HU.out.alloc HU.out.size _)
     have HLT:=hJ_ (show bs < bt ∧ w1.heap.size ≤ bs by rw [hbt];exact ⟨HSU.out.lt,by rw [HBS.out];exact Nat.le_refl _⟩)
     rw [← hV12,← hbt]
     clear hV12 hbt
     go_wp2_with fail
     go_loopw [11] (fun q V => ∃ c:Nat,c ≤ 4 ∧ q = .int .i64 (c:Nat) ∧ Blk V bt 114 16 (pm Z T (4 * c)) ∧ Blk V bs 114 16 (pm P Z 0) ∧ Below w1.heap.size w1 V) (fun q _ => 4 - (intOf q).toNat)
     case atStart => exact ⟨0,by omega,rfl,HT12.out,HS12.out,HB12.out⟩
     case round =>
      obtain ⟨c,hc,rfl,h1,h2,h3⟩:=hrel
      rename World => V
      have H1:=hJ_ h1
      have H2:=hJ_ h2
      have H3:=hJ_ h3
      clear h1 h2 h3 HT12 HS12 HB12
      by_cases hlc:c < 4
      ·have qc:(c:Int) < 4:=by omega
       have qc0:(0:Int) ≤ (c:Int):=by omega
       go_wp2_with fail
       go_loopw [12] (fun q Y => ∃ i:Nat,i ≤ 4 ∧ q = .int .i64 (i:Nat) ∧ Blk Y bt 114 16 (pm Z T (4 * c + i)) ∧ Blk Y bs 114 16 (pm P Z 0) ∧ Below w1.heap.size w1 Y) (fun q _ => 4 - (intOf q).toNat)
       case atStart => exact ⟨0,by omega,rfl,H1.out,H2.out,H3.out⟩
       case round =>
        obtain ⟨i,hi,rfl,h1,h2,h3⟩:=hrel
        rename World => Y
        have G1:=hJ_ h1
        have G2:=hJ_ h2
        have G3:=hJ_ h3
        clear h1 h2 h3 H1 H2 H3
        by_cases hli:i < 4
        ·have hml:(c + i) % 4 < 4:=Nat.mod_lt _ (by omega)
         have hqt:=e2u P (c:=c) hli
         rw [← HTE.out] at hqt
         obtain ⟨d,hd⟩:∃ d,d = 4 * c + i:=⟨_,rfl⟩
         obtain ⟨m,hm⟩:∃ m,m = (c + i) % 4:=⟨_,rfl⟩
         obtain ⟨e,he⟩:∃ e,e = 4 * ((c + i) % 4) + i:=⟨_,rfl⟩
         rw [← hd,← he] at hqt
         rw [← hd] at G1
         have hcs:=G2.out.cell (show e < 16 by omega)
         rw [b3x (by omega)] at hcs
         have hcd:=G1.out.cell (show d < 16 by omega)
         rw [b3x (by omega)] at hcd
         have hfd:=G1.out.free d
         have HBX:=hJ_ (a3b (qd P e) (b0w HPB.out e))
         have HQT:=hJ_ hqt
         obtain ⟨u1,hu1⟩:∃ u,u = qd P e:=⟨_,rfl⟩
         obtain ⟨u2,hu2⟩:∃ u,u = qd Z d:=⟨_,rfl⟩
         rw [← hu1] at hcs HBX HQT
         rw [← hu2] at hcd
         obtain ⟨u3,hu3⟩:∃ u,u = box u1:=⟨_,rfl⟩
         rw [← hu3] at HBX HQT
         have x0:4 * (c:Int) + (i:Int) = (d:Int):=by omega
         have x1:((c:Int) + (i:Int)) % 4 = (m:Int):=by omega
         have x2:4 * (m:Int) + (i:Int) = (e:Int):=by omega
         have y1:(m:Int) < 4:=by omega
         have y2:(d:Int) < 16:=by omega
         have y3:(e:Int) < 16:=by omega
         have y4:(i:Int) < 4:=by omega
         have y5:(0:Int) ≤ (i:Int):=by omega
         have HD:=hJ_ hd
         have HD16:=hJ_ (show d < 16 by omega)
         have HLI:=hJ_ hli
         clear hqt hd hm he hu1 hu2 hu3 hml hli hi
         go_wp2_with (go_at_call 87;(with_reducible refine (HBX.out _).mono ?_);rintro e9 w9 ⟨rfl,nn,rfl⟩)
         go_roundw
         case rel => first | exact ⟨i + 1,by have:=HLI.out;omega,by go_num,by rw [show 4 * c + (i + 1) = d + 1 by have:=HD.out;omega];exact ((G1.out.drewN nn).set HD16.out _).congr fun j hj => by rw [← HQT.out];exact a4m,(G2.out.drewN nn).other ⟨bt,d,none⟩ _ (by have:=HLT.out.1;show bs ≠ bt;omega),(below_drewN G3.out nn).setCell (p:=⟨bt,d,none⟩) (by have:=HLT.out;show w1.heap.size ≤ bt;omega) _⟩ | ((repeat apply Exists.intro);exact ⟨⟨i + 1,by have:=HLI.out;omega,by go_num,by rw [show 4 * c + (i + 1) = d + 1 by have:=HD.out;omega];exact ((G1.out.drewN nn).set HD16.out _).congr fun j hj => by rw [← HQT.out];exact a4m,(G2.out.drewN nn).other ⟨bt,d,none⟩ _ (by have:=HLT.out.1;show bs ≠ bt;omega),(below_drewN G3.out nn).setCell (p:=⟨bt,d,none⟩) (by have:=HLT.out;show w1.heap.size ≤ bt;omega) _⟩,rfl⟩)
         case measure => simp [intOf];have:=HLI.out;omega
        ·obtain rfl:i = 4:=by omega
         go_wp2
         go_roundw
         case rel => exact ⟨c + 1,by omega,by go_num,by rw [show 4 * (c + 1) = 4 * c + 4 by omega];exact G1.out,G2.out,G3.out⟩
         case measure => simp [intOf];omega
      ·obtain rfl:c = 4:=by omega
       have HT4:=hJ_ (show Blk V bt 114 16 (pm T Z 0) from H1.out.congr fun j hj => b7j hj)
       clear H1
       by_cases hlr:r < R
       ·have ql:(r:Int) < (R:Int):=by omega
        have hz:=HZZ.out
        have hst:=HST.out
        have hsz:=HSZ.out
        go_upto_region 22 with fail
        clear hz hst hsz
        obtain ⟨bu,hbu⟩:∃ b,b = V.heap.size:=⟨_,rfl⟩
        obtain ⟨M,hM⟩:∃ M,M = mix m2 T:=⟨_,rfl⟩
        have HME:=hJ_ hM
        have HMB:=hJ_ (show SqB M by rw [hM];exact SqB.mix _ _)
        obtain ⟨V21,hV21⟩:∃ X,X = V.alloc (.cells z 114):=⟨_,rfl⟩
        have hal:Below V.heap.size V V21:=by rw [hV21];exact (Below.refl _ _).alloc (Nat.le_refl _) _
        have HM21:=hJ_ (show Blk V21 bu 114 16 (pm Z M 0) by rw [hV21,hbu];exact HZB.out V M)
        have HT21:=hJ_ (HT4.out.on hal HT4.out.lt)
        have HS21:=hJ_ (H2.out.on hal H2.out.lt)
        have HB21:=hJ_ (show Below w1.heap.size w1 V21 by rw [hV21];exact H3.out.alloc H3.out.size _)
        have HLU:=hJ_ (show bt < bu by rw [hbu];exact HT4.out.lt)
        rw [← hV21,← hbu]
        clear hV21 hbu hM hal H2 H3 HT4
        go_wp2_with fail
        go_loopw [14] (fun q V => ∃ c:Nat,c ≤ 4 ∧ q = .int .i64 (c:Nat) ∧ Blk V bu 114 16 (pm Z M (4 * c)) ∧ Blk V bt 114 16 (pm T Z 0) ∧ Blk V bs 114 16 (pm P Z 0) ∧ Below w1.heap.size w1 V) (fun q _ => 4 - (intOf q).toNat)
        case atStart => exact ⟨0,by omega,rfl,HM21.out,HT21.out,HS21.out,HB21.out⟩
        case round =>
         obtain ⟨c,hc,rfl,h1,h2,h3,h4⟩:=hrel
         rename World => Y
         have H1:=hJ_ h1
         have H2:=hJ_ h2
         have H3:=hJ_ h3
         have H4:=hJ_ h4
         clear h1 h2 h3 h4 HM21 HT21 HS21 HB21
         by_cases hlc:c < 4
         ·have qc:(c:Int) < 4:=by omega
          have qc0:(0:Int) ≤ (c:Int):=by omega
          go_wp2_with fail
          go_loopw [15] (fun q Y => ∃ i:Nat,i ≤ 4 ∧ q = .int .i64 (i:Nat) ∧ Blk Y bu 114 16 (pm Z M (4 * c + i)) ∧ Blk Y bt 114 16 (pm T Z 0) ∧ Blk Y bs 114 16 (pm P Z 0) ∧ Below w1.heap.size w1 Y) (fun q _ => 4 - (intOf q).toNat)
          case atStart => exact ⟨0,by omega,rfl,H1.out,H2.out,H3.out,H4.out⟩
          case round =>
           obtain ⟨i,hi,rfl,h1,h2,h3,h4⟩:=hrel
           rename World => Y2
           have G1:=hJ_ h1
           have G2:=hJ_ h2
           have G3:=hJ_ h3
           have G4:=hJ_ h4
           clear h1 h2 h3 h4 H1 H2 H3 H4
           by_cases hli:i < 4
           ·have hqm:=e6v HTB.out c hli
            rw [← HME.out] at hqm
            obtain ⟨c4,d,i1,i2,i3,j1,j2,j3,e1,e2,e3,⟨hd,he1,he2,he3⟩,⟨hd6,h16,h26,h36⟩,⟨s0,s1,a1,a2,a3⟩,⟨d1,d2,d3⟩,⟨f1,f2,f3⟩,⟨k1,k2,k3⟩,⟨o0,o1,o2,o3⟩,⟨n0,n1,n2,n3,n4,n5,n6,n7'⟩⟩:=f0b hlc hli
            have o4:(i:Int) < 4:=by omega
            have o5:(0:Int) ≤ (i:Int):=by omega
            rw [← hd,← he1,← he2,← he3] at hqm
            rw [← hd] at G1
            have hcu:=G1.out.cell hd6
            have hc0:=G2.out.cell hd6
            have hc1:=G2.out.cell h16
            have hc2:=G2.out.cell h26
            have hc3:=G2.out.cell h36
            rw [b3x (Nat.not_lt_zero _)] at hc0 hc1 hc2 hc3
            rw [b3x (Nat.lt_irrefl _)] at hcu
            have hfd:=G1.out.free d
            have hl0:=b0w HTB.out d
            have hl1:=b0w HTB.out e1
            have hl2:=b0w HTB.out e2
            have hl3:=b0w HTB.out e3
            obtain ⟨t0,ht0⟩:∃ u,u = qd T d:=⟨_,rfl⟩
            obtain ⟨t1,ht1⟩:∃ u,u = qd T e1:=⟨_,rfl⟩
            obtain ⟨t2,ht2⟩:∃ u,u = qd T e2:=⟨_,rfl⟩
            obtain ⟨t3,ht3⟩:∃ u,u = qd T e3:=⟨_,rfl⟩
            obtain ⟨u0,hu0⟩:∃ u,u = qd Z d:=⟨_,rfl⟩
            rw [← ht0] at hqm hc0 hl0
            rw [← ht1] at hqm hc1 hl1
            rw [← ht2] at hqm hc2 hl2
            rw [← ht3] at hqm hc3 hl3
            rw [← hu0] at hcu
            have HM2:=hJ_ (show ∀ W:World,Calls Tryz.prog 88 #[.int .u8 2,.int .u8 ((t0:Nat):Int)] W (fun e w' => e = .returned (.int .u8 ((gm 2 t0:Nat):Int)) ∧ W = w') from fun W => a6j 2 t0 (by decide) hl0 W)
            have HM3:=hJ_ (show ∀ W:World,Calls Tryz.prog 88 #[.int .u8 3,.int .u8 ((t1:Nat):Int)] W (fun e w' => e = .returned (.int .u8 ((gm 3 t1:Nat):Int)) ∧ W = w') from fun W => a6j 3 t1 (by decide) hl1 W)
            have hg2:=a7k 2 t0
            have hg3:=a7k 3 t1
            have r1:=u8_xor_nat (gm 2 t0) (gm 3 t1) hg2 hg3
            have r2:=u8_xor_nat (gm 2 t0 ^^^ gm 3 t1) t2 (a2v hg2 hg3) hl2
            have r3:=u8_xor_nat ((gm 2 t0 ^^^ gm 3 t1) ^^^ t2) t3 (a2v (a2v hg2 hg3) hl2) hl3
            rw [← hqm] at r3
            obtain ⟨v0,hv0⟩:∃ u,u = gm 2 t0:=⟨_,rfl⟩
            obtain ⟨v1,hv1⟩:∃ u,u = gm 3 t1:=⟨_,rfl⟩
            rw [← hv0] at HM2 r1 r2 r3
            rw [← hv1] at HM3 r1 r2 r3
            obtain ⟨v2,hv2⟩:∃ u,u = v0 ^^^ v1:=⟨_,rfl⟩
            rw [← hv2] at r1 r2 r3
            obtain ⟨v3,hv3⟩:∃ u,u = v2 ^^^ t2:=⟨_,rfl⟩
            rw [← hv3] at r2 r3
            obtain ⟨v4,hv4⟩:∃ u,u = qd M d:=⟨_,rfl⟩
            rw [← hv4] at r3
            have HV4:=hJ_ hv4
            have s2:=w64 n0
            have s3:=w64 n1
            have b1:=w64 n2
            have b2:=w64 n3
            have b3:=w64 n4
            have l1:=w64 n5
            have l2:=w64 n6
            have l3:=w64 n7'
            have HD:=hJ_ hd
            have HD16:=hJ_ hd6
            have HLI:=hJ_ hli
            clear hqm hd he1 he2 he3 hd6 h16 h26 h36 ht0 ht1 ht2 ht3 hu0 hv0 hv1 hv2 hv3 hv4 hli hi hl0 hl1 hl2 hl3 hg2 hg3 n0 n1 n2 n3 n4 n5 n6 n7' hlc hc
            go_wp2_with fail
            refine wp_region_still_tail 40 (by kernel_rfl) (by kernel_rfl) ?_
            simp only [List.take_succ_cons,List.take_zero,List.drop_succ_cons,List.drop_zero]
            repeat still_step
            still_call ((HM2.out _).mono fun _ _ ⟨he,hw⟩ => ⟨he,hw.symm⟩)
            repeat still_step
            still_call ((HM3.out _).mono fun _ _ ⟨he,hw⟩ => ⟨he,hw.symm⟩)
            repeat still_step
            refine wpStill_nil ?_
            clear s2 s3 b1 b2 b3 l1 l2 l3 f1 f2 f3 r1 r2
            go_wp2
            clear r3
            go_roundw
            case rel => first | exact ⟨i + 1,by have:=HLI.out;omega,by go_num,by rw [show 4 * c + (i + 1) = d + 1 by have:=HD.out;omega];exact ((G1.out.drewN 1).set HD16.out _).congr fun j hj => by rw [HV4.out];exact a4m,(G2.out.drewN 1).other ⟨bu,d,none⟩ _ (by have:=HLU.out;show bt ≠ bu;omega),(G3.out.drewN 1).other ⟨bu,d,none⟩ _ (by have:=HLU.out;have:=HLT.out.1;show bs ≠ bu;omega),(below_drewN G4.out 1).setCell (p:=⟨bu,d,none⟩) (by have:=HLU.out;have:=HLT.out;show w1.heap.size ≤ bu;omega) _⟩ | ((repeat apply Exists.intro);exact ⟨⟨i + 1,by have:=HLI.out;omega,by go_num,by rw [show 4 * c + (i + 1) = d + 1 by have:=HD.out;omega];exact ((G1.out.drewN 1).set HD16.out _).congr fun j hj => by rw [HV4.out];exact a4m,(G2.out.drewN 1).other ⟨bu,d,none⟩ _ (by have:=HLU.out;show bt ≠ bu;omega),(G3.out.drewN 1).other ⟨bu,d,none⟩ _ (by have:=HLU.out;have:=HLT.out.1;show bs ≠ bu;omega),(below_drewN G4.out 1).setCell (p:=⟨bu,d,none⟩) (by have:=HLU.out;have:=HLT.out;show w1.heap.size ≤ bu;omega) _⟩,rfl⟩)
            case measure => simp [intOf];have:=HLI.out;omega
           ·obtain rfl:i = 4:=by omega
            go_wp2
            go_roundw
            case rel => exact ⟨c + 1,by omega,by go_num,by rw [show 4 * (c + 1) = 4 * c + 4 by omega];exact G1.out,G2.out,G3.out,G4.out⟩
            case measure => simp [intOf];omega
         ·obtain rfl:c = 4:=by omega
          have HM4:=hJ_ (show Blk Y bu 114 16 (pm M Z 0) from H1.out.congr fun j hj => b7j hj)
          clear H1
          obtain ⟨cm,hcm⟩:∃ cs,cs = a0e 16 (pm M Z 0):=⟨_,rfl⟩
          have HMU:=hJ_ (show Y.heap[bu]? = some (.cells cm 114 (0,0)) by rw [hcm];exact HM4.out)
          have HCS1:=hJ_ (show (Tryz.prog.info? 114).map (·.size) = some cm.size by rw [hcm,a0b];exact b8a)
          have HCS2:=hJ_ (show (a0e 16 (pm T Z 0)).size = cm.size by rw [hcm,a0b,a0b])
          have HCS3:=hJ_ (show cm.all (·.oneCell') = true by rw [hcm];exact a0l fun _ => rfl)
          have HTQ0:=hJ_ (show Blk (Y.setRow bt cm) bt 114 16 (pm M Z 0) by rw [hcm];exact H2.out.row _)
          clear hcm
          go_upto_region 30 with (first
           | ((with_reducible show wpList _ _ _ (⟨some 120,_,_,_,_,_⟩ :: _) _ _);refine wpList_load_row rfl 114 (.tmp 13) rfl bu rfl _ cm _ _ HMU.out Tryz.underlying114 rfl HCS1.out ?_)
           | ((with_reducible show wpList _ _ _ (⟨none,_,_,_,_,_⟩ :: _) _ _);refine wpList_store_row rfl 114 (.tmp 10) (.tmp 120) rfl bt cm rfl rfl _ _ H2.out HCS1.out HCS2.out HCS3.out ?_))
          obtain ⟨Q,hQ⟩:∃ Q,Q = Y.setRow bt cm:=⟨_,rfl⟩
          have HTQ:=hJ_ (show Blk Q bt 114 16 (pm M Z 0) by rw [hQ];exact HTQ0.out)
          have HSQ:=hJ_ (show Blk Q bs 114 16 (pm P Z 0) by rw [hQ];exact H3.out.same (setRow_other Y bt bs _ (by have:=HLT.out.1;omega)))
          have HBQ:=hJ_ (show Below w1.heap.size w1 Q by rw [hQ];exact below_setRow H4.out (by have:=HLT.out;omega) _)
          have HFN:=hJ_ (show adds M (rk W r) = stE W R X r by
           unfold stE
           rw [if_neg (by omega),HME.out,HTE.out,HPE.out,HKR.out]
           rfl)
          rw [← hQ]
          clear hQ H2 H3 H4 HM4
          obtain ⟨S2,hS2⟩:∃ S,S = adds M (rk W r):=⟨_,rfl⟩
          have HSE2:=hJ_ hS2
          have HHMB.out:=hJ_ (show SqB M from HMB.out)
          have HS30:=hJ_ (show Blk Q bs 114 16 (pm P S2 0) from HSQ.out.congr fun j hj => c9f P Z S2 j)
          clear hS2
          go_wp2_with fail
          go_loopw [121] (fun q O => ∃ i:Nat,i ≤ 16 ∧ q = .int .i64 (i:Nat) ∧ Blk O bs 114 16 (pm P S2 i) ∧ Blk O bt 114 16 (pm M Z 0) ∧ Below w1.heap.size w1 O) (fun q _ => 16 - (intOf q).toNat)
          case atStart => exact ⟨0,by omega,rfl,HS30.out,HTQ.out,HBQ.out⟩
          case round =>
           obtain ⟨i,hi,rfl,h1,h2,h3⟩:=hrel
           rename World => O
           have G1:=hJ_ h1
           have G2:=hJ_ h2
           have G3:=hJ_ h3
           clear h1 h2 h3 HS30 HTQ HSQ HBQ
           by_cases hli:i < 16
           ·have hyL:16 * r + i < LK:=by have:=HLK.out;have:=HR.out;omega
            have hcs:=G1.out.cell hli
            rw [b3x (Nat.lt_irrefl _)] at hcs
            have hct:=G2.out.cell hli
            rw [b3x (Nat.not_lt_zero _)] at hct
            have hfs:=G1.out.free i
            have hck:=(G3.out.cell (p:=⟨g,16 * r + i,none⟩) HGB.out).trans (HKC.out _ hyL)
            have hxr:=u8_xor_nat (qd M i) (qd W (16 * r + i)) (b0w HHMB.out.out i) (b0w HWB.out _)
            rw [← b8p M W r hli,← HSE2.out] at hxr
            have s0:16 * (r:Int) = ((16 * r:Nat):Int):=by omega
            have s1:((16 * r:Nat):Int) + (i:Int) = ((16 * r + i:Nat):Int):=by omega
            have n0:16 * r < 1000:=by omega
            have n1:16 * r + i < 1000:=by omega
            have o0:((16 * r + i:Nat):Int) < (LK:Int):=by omega
            have o1:(i:Int) < 16:=by omega
            have o2:(0:Int) ≤ (i:Int):=by omega
            have o3:(0:Int) ≤ ((16 * r + i:Nat):Int):=by omega
            obtain ⟨r16,hr16⟩:∃ x,x = 16 * r:=⟨_,rfl⟩
            obtain ⟨y,hy⟩:∃ x,x = 16 * r + i:=⟨_,rfl⟩
            rw [← hy] at hck hxr s1 n1 o0 o3
            rw [← hr16] at s0 s1 n0
            have s2:=w64 n0
            have s3:=w64 n1
            obtain ⟨u1,hu1⟩:∃ u,u = qd M i:=⟨_,rfl⟩
            obtain ⟨u2,hu2⟩:∃ u,u = qd W y:=⟨_,rfl⟩
            obtain ⟨u3,hu3⟩:∃ u,u = qd P i:=⟨_,rfl⟩
            obtain ⟨u4,hu4⟩:∃ u,u = qd S2 i:=⟨_,rfl⟩
            rw [← hu1] at hct hxr
            rw [← hu2] at hck hxr
            rw [← hu3] at hcs
            rw [← hu4] at hxr
            have HU4:=hJ_ hu4
            have HLI:=hJ_ hli
            clear hu1 hu2 hu3 hu4 hy hr16 n0 n1 hyL hli hi
            go_wp2_with fail
            go_still_tail 13,(by kernel_rfl)
            clear s2 s3 hxr
            go_wp2
            go_roundw
            case rel => first | exact ⟨i + 1,by have:=HLI.out;omega,by go_num,((G1.out.drewN 1).set HLI.out _).congr fun j hj => by rw [HU4.out];exact a4m,(G2.out.drewN 1).other ⟨bs,i,none⟩ _ (by have:=HLT.out.1;show bt ≠ bs;omega),(below_drewN G3.out 1).setCell (p:=⟨bs,i,none⟩) (by have:=HLT.out.2;exact this) _⟩ | ((repeat apply Exists.intro);exact ⟨⟨i + 1,by have:=HLI.out;omega,by go_num,((G1.out.drewN 1).set HLI.out _).congr fun j hj => by rw [HU4.out];exact a4m,(G2.out.drewN 1).other ⟨bs,i,none⟩ _ (by have:=HLT.out.1;show bt ≠ bs;omega),(below_drewN G3.out 1).setCell (p:=⟨bs,i,none⟩) (by have:=HLT.out.2;exact this) _⟩,rfl⟩)
            case measure => simp [intOf];have:=HLI.out;omega
           ·obtain rfl:i = 16:=by omega
            have HFB:=hJ_ (show Blk O bs 114 16 (pm (stE W R X (r + 1 - 1)) Z 0) by
             rw [show r + 1 - 1 = r from rfl,← HFN.out,← HSE2.out]
             exact G1.out.congr fun j hj => b7j hj)
            clear G1 G2
            go_wp2
            go_roundw
            case rel => first | exact ⟨r + 1,by omega,by omega,by go_num,HFB.out,G3.out⟩ | ((repeat apply Exists.intro);exact ⟨⟨r + 1,by omega,by omega,by go_num,HFB.out,G3.out⟩,rfl⟩)
            case measure => simp [intOf];omega
       ·have ql:¬ (r:Int) < (R:Int):=by omega
        have HRR:=hJ_ (show r = R by omega)
        have HFN:=hJ_ (show adds T (rk W r) = stE W R X r by
         unfold stE
         rw [if_pos HRR.out,HTE.out,HPE.out]
         unfold enc
         rw [← HRR.out,show r - 1 = k by have:=HKR.out;omega])
        have HTQ:=HT4
        have HSQ:=H2
        have HBQ:=H3
        go_upto_region 30 with fail
        obtain ⟨S2,hS2⟩:∃ S,S = adds T (rk W r):=⟨_,rfl⟩
        have HSE2:=hJ_ hS2
        have HHTB.out:=hJ_ (show SqB T from HTB.out)
        have HS30:=hJ_ (show Blk V bs 114 16 (pm P S2 0) from HSQ.out.congr fun j hj => c9f P Z S2 j)
        clear hS2
        go_wp2_with fail
        go_loopw [121] (fun q O => ∃ i:Nat,i ≤ 16 ∧ q = .int .i64 (i:Nat) ∧ Blk O bs 114 16 (pm P S2 i) ∧ Blk O bt 114 16 (pm T Z 0) ∧ Below w1.heap.size w1 O) (fun q _ => 16 - (intOf q).toNat)
        case atStart => exact ⟨0,by omega,rfl,HS30.out,HTQ.out,HBQ.out⟩
        case round =>
         obtain ⟨i,hi,rfl,h1,h2,h3⟩:=hrel
         rename World => O
         have G1:=hJ_ h1
         have G2:=hJ_ h2
         have G3:=hJ_ h3
         clear h1 h2 h3 HS30 HTQ HSQ HBQ
         by_cases hli:i < 16
         ·have hyL:16 * r + i < LK:=by have:=HLK.out;have:=HR.out;omega
          have hcs:=G1.out.cell hli
          rw [b3x (Nat.lt_irrefl _)] at hcs
          have hct:=G2.out.cell hli
          rw [b3x (Nat.not_lt_zero _)] at hct
          have hfs:=G1.out.free i
          have hck:=(G3.out.cell (p:=⟨g,16 * r + i,none⟩) HGB.out).trans (HKC.out _ hyL)
          have hxr:=u8_xor_nat (qd T i) (qd W (16 * r + i)) (b0w HHTB.out.out i) (b0w HWB.out _)
          rw [← b8p T W r hli,← HSE2.out] at hxr
          have s0:16 * (r:Int) = ((16 * r:Nat):Int):=by omega
          have s1:((16 * r:Nat):Int) + (i:Int) = ((16 * r + i:Nat):Int):=by omega
          have n0:16 * r < 1000:=by omega
          have n1:16 * r + i < 1000:=by omega
          have o0:((16 * r + i:Nat):Int) < (LK:Int):=by omega
          have o1:(i:Int) < 16:=by omega
          have o2:(0:Int) ≤ (i:Int):=by omega
          have o3:(0:Int) ≤ ((16 * r + i:Nat):Int):=by omega
          obtain ⟨r16,hr16⟩:∃ x,x = 16 * r:=⟨_,rfl⟩
          obtain ⟨y,hy⟩:∃ x,x = 16 * r + i:=⟨_,rfl⟩
          rw [← hy] at hck hxr s1 n1 o0 o3
          rw [← hr16] at s0 s1 n0
          have s2:=w64 n0
          have s3:=w64 n1
          obtain ⟨u1,hu1⟩:∃ u,u = qd T i:=⟨_,rfl⟩
          obtain ⟨u2,hu2⟩:∃ u,u = qd W y:=⟨_,rfl⟩
          obtain ⟨u3,hu3⟩:∃ u,u = qd P i:=⟨_,rfl⟩
          obtain ⟨u4,hu4⟩:∃ u,u = qd S2 i:=⟨_,rfl⟩
          rw [← hu1] at hct hxr
          rw [← hu2] at hck hxr
          rw [← hu3] at hcs
          rw [← hu4] at hxr
          have HU4:=hJ_ hu4
          have HLI:=hJ_ hli
          clear hu1 hu2 hu3 hu4 hy hr16 n0 n1 hyL hli hi
          go_wp2_with fail
          go_still_tail 13,(by kernel_rfl)
          clear s2 s3 hxr
          go_wp2
          go_roundw
          case rel => first | exact ⟨i + 1,by have:=HLI.out;omega,by go_num,((G1.out.drewN 1).set HLI.out _).congr fun j hj => by rw [HU4.out];exact a4m,(G2.out.drewN 1).other ⟨bs,i,none⟩ _ (by have:=HLT.out.1;show bt ≠ bs;omega),(below_drewN G3.out 1).setCell (p:=⟨bs,i,none⟩) (by have:=HLT.out.2;exact this) _⟩ | ((repeat apply Exists.intro);exact ⟨⟨i + 1,by have:=HLI.out;omega,by go_num,((G1.out.drewN 1).set HLI.out _).congr fun j hj => by rw [HU4.out];exact a4m,(G2.out.drewN 1).other ⟨bs,i,none⟩ _ (by have:=HLT.out.1;show bt ≠ bs;omega),(below_drewN G3.out 1).setCell (p:=⟨bs,i,none⟩) (by have:=HLT.out.2;exact this) _⟩,rfl⟩)
          case measure => simp [intOf];have:=HLI.out;omega
         ·obtain rfl:i = 16:=by omega
          have HFB:=hJ_ (show Blk O bs 114 16 (pm (stE W R X (r + 1 - 1)) Z 0) by
           rw [show r + 1 - 1 = r from rfl,← HFN.out,← HSE2.out]
           exact G1.out.congr fun j hj => b7j hj)
          clear G1 G2
          go_wp2
          go_roundw
          case rel => first | exact ⟨r + 1,by omega,by omega,by go_num,HFB.out,G3.out⟩ | ((repeat apply Exists.intro);exact ⟨⟨r + 1,by omega,by omega,by go_num,HFB.out,G3.out⟩,rfl⟩)
          case measure => simp [intOf];omega
    ·obtain rfl:r = R + 1:=by omega
     have HFI:=hJ_ (show a1l U (some ⟨bs,0,none⟩) 16 16 (a2i (enc W R X) 4) from ⟨a0p _ 4,b2m (d6d R X HWB.out) 4,fun _ => ⟨bs,0,rfl,HSU.out.lt,fun i hi => by
      have h:=HSU.out.cell (show i < 16 by rw [a0p] at hi;exact hi)
      rw [show stE W R X (R + 1 - 1) = enc W R X from if_pos (by omega),b3x (by omega)] at h
      rw [Nat.zero_add,h]
      have h2:=a2f (enc W R X) (c:=i / 4) (r:=i % 4) (Nat.mod_lt _ (by omega)) 4 (by rw [a0p] at hi;omega)
      rw [show 4 * (i / 4) + i % 4 = i by omega] at h2
      rw [h2]
      rfl⟩,Nat.le_refl _,by unfold maxLen;omega⟩)
     go_wp2
     go_ret
     exact ⟨bs,rfl,HFI.out,HB1.out.trans (HU.out.mono HB1.out.size),by rw [HBS.out];exact HB1.out.size⟩
end Go.Proofs.YtappfdbmhgifcaaGreatDoor
namespace Go.Proofs.YtappfdbmhgifcaaGreatDoor
open Go.ChangeShapes Go.WideShapes Go.ChangeAt Go.RowKit Go.Shelf
theorem a1y {P:Program} {w:World} {ops:Array Oper} {rest:List Oper} {o:Oper} {a:Act} {Q:Exit → Act → World → Prop} (hgd:o.guard = none) (s x:Operand) (t:TypeId)
 (ho:o.op = .call { callee:=.builtin .append,args:=#[s,x],argTypes:=#[t,t] })
 (base:Nat) (e:TypeId) (i:TypeInfo) (ht:P.underlying t = some (.slice e)) (hi:P.info? e = some i) (hz:i.zero = some (.int .u8 0)) (hsize:i.size = 1) (hby:i.bytes = 1)
 (v:Value) (n:Nat) (l:List Int) (hs:a.eval s = v) (hown:w.ownsRow base e 1 v n (l.map (Value.int .u8)))
 (g:Nat) (y:Int) (hx:a.eval x = .slice (some ⟨g,0,none⟩) 1 1) (hB:w.cell? ⟨g,0,none⟩ = some (.int .u8 y)) (hn:n + 1 ≤ 140737488355328) (hbase:base ≤ w.heap.size) (Hs:Nat) (hH:w.heap.size = Hs)
 (h:∀ g' c' w',w'.ownsRow base e 1 (.slice (some ⟨g',0,none⟩) (n + 1) c') (n + 1) ((l ++ [y]).map (Value.int .u8)) → w.grownBy w' v.ownBlock → (v.ownBlock = some g' ∨ g' = Hs) → wpList P ops Q rest (a.put o.dst (.slice (some ⟨g',0,none⟩) (n + 1) c')) w') :
 wpList P ops Q (o :: rest) a w:=by
 refine wpList_append_lies w hgd s x t ho base e i (.int .u8 0) 1 1 ht hi hz hsize hby rfl (by decide) v n (l.map (Value.int .u8)) hs hown ⟨g,0,none⟩ 1 1 [.int .u8 y] hx rfl ?_ ?_ (by decide) (by unfold maxLen;omega) (by omega) hbase Hs hH ?_
 ·intro j u hj
  cases j with
  | zero =>
   have hu:u = .int .u8 y:=(Option.some.inj hj).symm
   rw [hu]
   exact hB
  | succ j => cases hj
 ·intro u hu
  cases List.mem_singleton.1 hu
  rfl
 ·intro g' cap w' h1 h2 h3 _
  exact h g' cap w' (by rw [List.map_append];exact h1) h2 h3
theorem b4a {w w':World} {r:Option Nat} {g n c:Nat} {l:List Int} (h:a1l w (some ⟨g,0,none⟩) n c l) (hg:w.grownBy w' r) (hn:0 < n) (hne:r ≠ some g):a1l w' (some ⟨g,0,none⟩) n c l:=by
 obtain ⟨h1,h2,h3,h4,h5⟩:=h
 refine ⟨h1,h2,fun h0 => ?_,h4,h5⟩
 obtain ⟨b,off,e,hb,hc⟩:=h3 h0
 cases e
 exact ⟨g,0,rfl,Nat.lt_of_lt_of_le hb hg.size,fun i hi => (hg.cell_far ⟨g,0 + i,none⟩ hb (fun e => hne e.symm)).trans (hc i hi)⟩
theorem d3z {w w':World} {r:Option Nat} {g n:Nat} {l:List Int} (h:a5f w g n l) (hg:w.grownBy w' r) (hne:r ≠ some g):a5f w' g n l:=
 ⟨h.1,h.2.1,Nat.lt_of_lt_of_le h.2.2.1 hg.size,fun i hi => (hg.cell_far ⟨g,i,none⟩ h.2.2.1 (fun e => hne e.symm)).trans (h.2.2.2 i hi)⟩
theorem b1y {w:World} {g o n c:Nat} {l:List Int} (h:a1l w (some ⟨g,o,none⟩) n c l) {i:Nat} (hi:i < n):w.cell? ⟨g,o + i,none⟩ = some (.int .u8 (l.getD i 0)):=by
 obtain ⟨hl,_,hb,_⟩:=h
 obtain ⟨b,off,e,_,hc⟩:=hb.at_ (k:=i) (by omega)
 cases e
 exact hc
theorem b8z {w:World} {g o n c:Nat} {l:List Int} (h:a1l w (some ⟨g,o,none⟩) n c l) (hn:0 < n):g < w.heap.size:=by
 obtain ⟨b,off,e,hb,_⟩:=h.2.2.1 (by rw [h.1];exact hn)
 cases e
 exact hb
theorem e0x (X:Int) (h0:0 ≤ X) (h1:X < 18446744073709551616) (w:World) :
 Calls Tryz.prog 59 #[.int .u64 X,.int .i64 8] w fun e w' => ∃ g,e = .returned (.slice (some ⟨g,0,none⟩) 8 8) ∧ a1l w' (some ⟨g,0,none⟩) 8 8 (be 8 X) ∧ Below w.heap.size w w':=by
 refine (show Calls Tryz.prog 59 #[.int .u64 X,.int .i64 8] w _ from e5d 8 (by omega) X h0 h1 w).mono ?_
 rintro e w' ⟨g,rfl,ho,hb⟩
 exact ⟨g,rfl,(a7l ho (c7a _ _)).1,hb⟩
theorem e1y (a:Option Addr) (c:Nat) (K:List Int) (a2:Option Addr) (c2:Nat) (X:Nat) (w:World) (hx:a1l w a 32 c K) (hy:a1l w a2 16 c2 (Z8 ++ be 8 (X:Int))) :
 Calls Tryz.prog 58 #[.slice a (32:Nat) c,.slice a2 (16:Nat) c2] w fun e w' => ∃ g,e = .returned (.slice (some ⟨g,0,none⟩) 16 16) ∧ a1l w' (some ⟨g,0,none⟩) 16 16 (b2u K Z8 X) ∧ Below w.heap.size w w' ∧ w.heap.size ≤ g:=by
 unfold b2u e5k c9z
 rw [hx.1]
 exact c3o a 32 c 8 K a2 c2 _ w hx (Or.inr rfl) rfl hy
theorem e4s {K B:List Int} (hK:a0z K) (hB:a0z B) {i:Nat} (hi:i < B.length):(hidL K B).getD i 0 = bits .xor .u8 (B.getD i 0) ((b2u K Z8 (i / 16)).getD (i % 16) 0):=by
 have wx:=a0g hB i
 have wy:=a0g (c0l hK Z8 (i / 16)) (i % 16)
 rw [u8_xor _ _ wx.1 wx.2 wy.1 wy.2]
 unfold hidL
 rw [a2r (by rw [a1t,Nat.min_self];exact hi),c1d _ _ hi,Nat.zero_add]
 rfl
theorem e3g {x y:List Int} (hx:a0z x) (hy:a0z y) {i:Nat} (h1:i < x.length) (h2:i < y.length):(a7i x y).getD i 0 = bits .xor .u8 (x.getD i 0) (y.getD i 0):=by
 have wx:=a0g hx i
 have wy:=a0g hy i
 rw [u8_xor _ _ wx.1 wx.2 wy.1 wy.2,a2r (by omega)]
def WS (f:Nat → List Int) (base:Nat) (C:List Int) (i:Nat) (v X:Value) (wr:World):Prop:=
 ∃ a c,v = .slice a i c ∧ wr.ownsRow base 5 1 (.slice a i c) i ((C.take i).map (Value.int .u8)) ∧
  (i = 0 ∨ ∃ gx:Nat,X = .slice (some ⟨gx,0,none⟩) 16 16 ∧ a1l wr (some ⟨gx,0,none⟩) 16 16 (f ((i - 1) / 16)) ∧ (Value.slice a i c).ownBlock ≠ some gx)
set_option maxHeartbeats 8000000 in
theorem c2y (a1:Option Addr) (L1 c1:Nat) (B:List Int) (bk ok cK:Nat) (K:List Int) (w:World) (hB:Arg8c w a1 L1 c1 B) (hK:a1l w (some ⟨bk,ok,none⟩) 32 cK K) (hL:L1 ≤ 500) :
 Calls Tryz.prog 32 #[.slice a1 L1 c1,.slice (some ⟨bk,ok,none⟩) 32 cK] w fun e w' => ∃ a c,e = .returned (.slice a (1 + (L1 + 32)) c) ∧ Arg8c w' a (1 + (L1 + 32)) c ([1] ++ a9u K B) ∧ Below w.heap.size w w':=by
 obtain ⟨i5,hi,hz0,hz1,hz2⟩:=info_parts info5
 have HI:=hJ_ hi
 have HZ0:=hJ_ hz0
 have HZ1:=hJ_ hz1
 have HZ2:=hJ_ hz2
 clear hi hz0 hz1 hz2
 have HK:=hJ_ hK
 have HX:=hJ_ hB
 have HL:=hJ_ hL
 have HBB:=hJ_ (show a0z B from hB.1.2.1)
 have HBL:=hJ_ (show B.length = L1 from hB.1.1)
 have HKB:=hJ_ (show a0z K from hK.2.1)
 have HKL:=hJ_ (show K.length = 32 from hK.1)
 have HCL:=hJ_ (show (hidL K B).length = L1 by rw [b0k];exact hB.1.1)
 have HCB:=hJ_ (c5y HKB.out hB.1.2.1)
 have HCV:=hJ_ (show ∀ i,i < L1 → (hidL K B).getD i 0 = bits .xor .u8 (B.getD i 0) ((b2u K Z8 (i / 16)).getD (i % 16) 0) from fun i hi => e4s HKB.out HBB.out (by rw [HBL.out];exact hi))
 have HENC:=hJ_ (fun (a:Option Addr) (c:Nat) (a2:Option Addr) (c2 X:Nat) (W:World) (h1:a1l W a 32 c K) (h2:a1l W a2 16 c2 (Z8 ++ be 8 (X:Int))) => e1y a c K a2 c2 X W h1 h2)
 have HPK:=hJ_ (show a9u K B = hidL K B ++ a7i K (b3b (hidL K B)) from rfl)
 have HPB:=hJ_ (c0t HKB.out HBB.out)
 have HMA:=hJ_ (fun W:World => (a7l (a1c (w:=W) (e:=5) (n:=8) (by unfold maxLen;omega)) e9s).1)
 have hmk:=run_make_row' (P:=Tryz.prog) 22 5 (.int .u8 0) 1 Tryz.underlying22 info5 rfl .i64 .i64 8 (by omega) (by omega)
 rw [show ((8:Nat):Int) = 2 * 4 from rfl] at hmk
 simp only [Int.reduceMul] at hmk
 have HMK:=hJ_ hmk
 clear hmk
 have HBZ:=hJ_ (Below.refl w.heap.size w)
 have hkd:=hK.2.2.2
 clear hB hL hK
 obtain ⟨P,hP⟩:∃ P,P = a9u K B:=⟨_,rfl⟩
 obtain ⟨C,hC⟩:∃ C,C = hidL K B:=⟨_,rfl⟩
 obtain ⟨f,hf⟩:∃ f,f = b2u K Z8:=⟨_,rfl⟩
 have HPP:=hJ_ hP
 rw [← hP] at HPK HPB
 rw [← hC] at HPK HCL HCB HCV
 rw [← hf] at HCV
 have HENC:Hid (∀ (a:Option Addr) (c:Nat) (a2:Option Addr) (c2 X:Nat) (W:World),a1l W a 32 c K → a1l W a2 16 c2 (Z8 ++ be 8 (X:Int)) → Calls Tryz.prog 58 #[.slice a (32:Nat) c,.slice a2 (16:Nat) c2] W fun e w' => ∃ g,e = .returned (.slice (some ⟨g,0,none⟩) 16 16) ∧ a1l w' (some ⟨g,0,none⟩) 16 16 (f X) ∧ Below W.heap.size W w' ∧ W.heap.size ≤ g):=by
  rw [hf];exact HENC
 clear hP hC hf
 obtain ⟨base,hbase⟩:∃ n,n = w.heap.size:=⟨_,rfl⟩
 have HBS:=hJ_ hbase
 have HS0:=hJ_ (show ((w.alloc (.cells #[] 5)).alloc (.cells #[] 5)).ownsRow base 5 1 (.slice (some ⟨w.heap.size,0,none⟩) 0 0) 0 ((([]:List Int)).map (Value.int .u8)) from by
  rw [hbase]
  exact (World.ownsRow_lit (base:=w.heap.size) (e:=5) (size:=1) w #[] 0 (Nat.le_refl _) (Nat.zero_le _) rfl).alloc _)
 have HB0:=hJ_ (show Below w.heap.size w ((w.alloc (.cells #[] 5)).alloc (.cells #[] 5)) from ((Below.refl _ _).alloc (Nat.le_refl _) _).alloc (by simp) _)
 clear hbase
 go_enter Tryz.func32,Tryz.ntmps32
 go_wp2_with fail
 go_loopw [5,6,16] (fun v X q wr => ∃ i:Nat,i ≤ L1 ∧ q = .int .i64 (i:Nat) ∧ WS f base C i v X wr ∧ Below w.heap.size w wr) (fun _ _ q _ => L1 - (intOf q).toNat)
 case atStart => exact ⟨0,by omega,rfl,⟨_,0,rfl,HS0.out,Or.inl rfl⟩,HB0.out⟩
 case round =>
  obtain ⟨i,hi,rfl,⟨av,cv,rfl,hown,hs⟩,hbel⟩:=hrel
  rename World => V
  have HOV:=hJ_ hown
  have HSV:=hJ_ hs
  have HBV:=hJ_ hbel
  have HKV:=hJ_ (HK.out.on hbel)
  clear hown hs hbel
  by_cases hlt:i < L1
  ·have HLT:=hJ_ hlt
   have HXV:=hJ_ (HX.out.1.on (bt HBZ.out HBV.out))
   obtain ⟨bb,ob,rfl⟩:=b0i HXV.out (by omega)
   have hcb:=b1y HXV.out hlt
   obtain ⟨X1,hX1⟩:∃ X,X = B.getD i 0:=⟨_,rfl⟩
   rw [← hX1] at hcb
   have HX1:=hJ_ hX1
   have wx:=a0g HBB.out i
   rw [← hX1] at wx
   obtain ⟨Cq,hCq⟩:∃ c,c = i / 16:=⟨_,rfl⟩
   obtain ⟨R,hR⟩:∃ r,r = i % 16:=⟨_,rfl⟩
   have HCQ:=hJ_ hCq.symm
   have HRQ:=hJ_ hR.symm
   have HR16:=hJ_ (show R < 16 by omega)
   have qR:(i:Int) % 16 = (R:Int):=by omega
   have qi:(i:Int) < (L1:Int):=by omega
   have HCB16:=hJ_ (show (0:Int) ≤ (Cq:Int) ∧ (Cq:Int) < 18446744073709551616 by have:=HL.out;omega)
   have HPUT:=hJ_ (fun W:World => e0x (Cq:Int) HCB16.out.1 HCB16.out.2 W)
   have qD:(i:Int).tdiv 16 = (Cq:Int):=by rw [Int.tdiv_eq_ediv_of_nonneg (by omega)];omega
   have qE:(i:Int) / 16 = (Cq:Int):=by omega
   have qb:(0:Int) ≤ (Cq:Int) ∧ (Cq:Int) ≤ 500:=by have:=HL.out;omega
   obtain ⟨qb1,qb2⟩:=qb
   have kw1:∀ [Inhabited Unit],IntKind.i64.wrap (Cq:Int) = (Cq:Int):=by intro _;rw [IntKind.wrap_i64];omega
   have kw2:∀ [Inhabited Unit],IntKind.u64.wrap (Cq:Int) = (Cq:Int):=by intro _;rw [IntKind.wrap_u64];omega
   clear hX1 hCq hR
   by_cases h0:R = 0
   ·have q1:((R:Int) == 0) = true:=by simp;omega
    clear h0
    go_wp2_with fail
    have hmk:=HMK.out
    try simp only [List.getElem_toArray,List.getElem_cons_succ,List.getElem_cons_zero,List.setIfInBounds_toArray,List.set_cons_zero,List.set_cons_succ,Act.put]
    refine wp_region_held_drew (S:=fun U => Below V.heap.size V U) (by kernel_rfl) (Below.refl _ _).drew (fun hHeld => ?_)
    refine tk 0 ⟨some 24,.move (.tmp 1),22,"ref.go:17",#[],none⟩ hHeld ?_
    try simp only [Act.put,p1',p2',p3']
    refine tk 2 ⟨some 26,.move (.tmp 7),3,"ref.go:17",#[],none⟩ hHeld ?_
    try simp only [Act.put,p1',p2',p3']
    refine tk 3 ⟨some 27,.binOp .quo 3 (.tmp 26) (.const (.int .i64 16)) 3,3,"ref.go:17",#[⟨2,.data⟩],none⟩ hHeld ?_
    try simp only [Act.put,p1',p2',p3']
    refine tk 4 ⟨some 28,.convert 3 90 (.tmp 27),90,"ref.go:17",#[⟨3,.data⟩],none⟩ hHeld ?_
    try simp only [Act.put,p1',p2',p3']
    refine wpAnyH_ready (rs:=[1,5]) (by kernel_rfl) (by simp) ?_
    refine AllReadyH.cons (o:=⟨some 25,.makeSlice 22 (.const (.int .i64 8)) (.const (.int .i64 8)),22,"ref.go:17",#[],none⟩) rfl (fun K' hK => ?_) (AllReadyH.cons (o:=⟨some 29,.call { callee:=.value (.func 59),args:=#[.tmp 28,.const (.int .i64 8)],argTypes:=#[90,3] },22,"ref.go:17",#[⟨4,.data⟩],none⟩) rfl (fun K' hK => ?_) AllReadyH.nil)
    ·rw [if_pos (by rfl)]
     go_simp
     refine hK.out _ _ (hHeld.alloc hHeld.size _) (fun hHeld1 => ?_)
     clear hK K' hHeld
     have hHeld:=hHeld1
     clear hHeld1
     try simp only [Act.put,p1',p2',p3']
     refine wpAnyH_ready (rs:=[5]) (by kernel_rfl) (by simp) ?_
     refine AllReadyH.cons (o:=⟨some 29,.call { callee:=.value (.func 59),args:=#[.tmp 28,.const (.int .i64 8)],argTypes:=#[90,3] },22,"ref.go:17",#[⟨4,.data⟩],none⟩) rfl (fun K' hK => ?_) AllReadyH.nil
     rw [if_pos (by rfl)]
     go_simp
     go_wp2_with (go_at_call 59;go_loud ((with_reducible refine (HPUT.out _).mono ?_);rintro e w7 ⟨g7,rfl,hp,hb⟩))
     have HP7:=hJ_ hp
     have hb7:=bt hHeld hb
     have HM7:=hJ_ ((HMA.out V.drew).on hb)
     have HB7:=hJ_ hb7
     clear hp hb hb7
     refine hK.out _ _ HB7.out (fun hHeld1 => ?_)
     clear hK K' hHeld
     have hHeld:=hHeld1
     clear hHeld1
     try simp only [Act.put,p1',p2',p3']
     refine wpAnyH_ready (rs:=[6]) (by kernel_rfl) (by simp) ?_
     refine AllReadyH.cons (o:=⟨some 30,.call { callee:=.builtin .append,args:=#[.tmp 25,.tmp 29],argTypes:=#[22,22] },22,"ref.go:17",#[⟨1,.data⟩,⟨5,.data⟩,⟨5,.chain⟩],none⟩) rfl (fun K' hK => ?_) AllReadyH.nil
     rw [if_pos (by rfl)]
     refine a3x (.tmp 25) (.tmp 29) 22 rfl 5 i5 Tryz.underlying22 HI.out HZ0.out HZ1.out HZ2.out (some ⟨V.heap.size,0,none⟩) 8 8 Z8 (by rfl) HM7.out (by omega) (some ⟨g7,0,none⟩) 8 8 (be 8 (Cq:Int)) (by rfl) HP7.out (by omega) (by omega) (by omega) ?_
     intro g8 cap8 w8 hx hb
     have HX8:=hJ_ hx
     have HB8:=hJ_ (bt hHeld hb)
     clear hx hb
     refine hK.out _ _ HB8.out (fun hHeld1 => ?_)
     clear hK K' hHeld
     have hHeld:=hHeld1
     clear hHeld1
     try simp only [Act.put,p1',p2',p3']
     refine wpAnyH_ready (rs:=[7]) (by kernel_rfl) (by simp) ?_
     refine AllReadyH.cons (o:=⟨some 31,.call { callee:=.value (.func 58),args:=#[.tmp 24,.tmp 30],argTypes:=#[22,22] },22,"ref.go:17",#[⟨0,.data⟩,⟨6,.data⟩,⟨6,.chain⟩],none⟩) rfl (fun K' hK => ?_) AllReadyH.nil
     rw [if_pos (by rfl)]
     go_simp
     go_wp2_with (go_at_call 58;(with_reducible refine (HENC.out (some ⟨bk,ok,none⟩) cK (some ⟨g8,0,none⟩) cap8 Cq w8 (HKV.out.on HB8.out) HX8.out).mono ?_);rintro e w9 ⟨g9,rfl,ha,hb,hg9⟩)
     have HE9:=hJ_ ha
     have HB9:=hJ_ (bt HB8.out hb)
     have HG9:=hJ_ (show V.heap.size ≤ g9 from Nat.le_trans HB8.out.size hg9)
     clear ha hb hg9
     refine hK.out _ _ HB9.out (fun hHeld1 => ?_)
     clear hK K' hHeld
     have hHeld:=hHeld1
     clear hHeld1
     try simp only [Act.put,p1',p2',p3']
     refine tk 8 ⟨some 6,.assign (.tmp 31),22,"ref.go:17",#[⟨7,.data⟩,⟨7,.chain⟩,⟨0,.phase⟩,⟨1,.phase⟩,⟨2,.phase⟩,⟨3,.phase⟩,⟨4,.phase⟩,⟨5,.phase⟩,⟨6,.phase⟩,⟨7,.phase⟩],none⟩ hHeld ?_
     try simp only [Act.put,p1',p2',p3']
     refine wpAnyH_done (by kernel_rfl) ?_ _
     clear hHeld
     have hcx:=b1y HE9.out HR16.out
     rw [Nat.zero_add] at hcx
     obtain ⟨Y1,hY⟩:∃ Y,Y = (f Cq).getD R 0:=⟨_,rfl⟩
     have HYV:=hJ_ (show C.getD i 0 = bits .xor .u8 X1 Y1 by rw [HCV.out i HLT.out,HCQ.out,HRQ.out,hY,HX1.out])
     rw [← hY] at hcx
     have HOW:=hJ_ (a0y HOV.out HB9.out)
     have HNE:=hJ_ (show (Value.slice av i cv).ownBlock ≠ some g9 from fun e => by have:=(HOV.out.lt g9 e).2;have:=HG9.out;omega)
     have HBW:=hJ_ (bt HBV.out HB9.out)
     have HEW:=hJ_ HE9.out
     have qr:(R:Int) < 16:=by have:=HR16.out;omega
     clear hY
     go_wp2_with ((with_reducible show wpList _ _ _ (⟨some 41,_,_,_,_,_⟩ :: _) _ _);go_loud (refine a1y (o:=⟨some 41,_,_,_,_,_⟩) rfl (.tmp 32) (.tmp 40) 22 rfl base 5 i5 Tryz.underlying22 HI.out HZ0.out HZ1.out HZ2.out (.slice av i cv) i (C.take i) rfl (HOW.out.alloc _) w9.heap.size (bits .xor .u8 X1 Y1) rfl (by simp) (by have:=HLT.out;have:=HL.out;omega) (by have:=HBW.out.size;have:=HBS.out;simp;omega) (w9.heap.size + 1) (by simp) ?_;intro g7 c7 w7' ho7 hg7 hl7;have HO7:=hJ_ ho7;have HG7:=hJ_ hg7;have HL7:=hJ_ hl7;clear ho7 hg7 hl7))
     go_roundw
     case rel =>
      refine ⟨i + 1,by have:=HLT.out;omega,by go_num,⟨some ⟨g7,0,none⟩,c7,rfl,?_,Or.inr ⟨g9,rfl,?_,?_⟩⟩,?_⟩
      ·rw [a1v (by rw [HCL.out];exact HLT.out),HYV.out]
       exact HO7.out
      ·rw [Nat.add_sub_cancel,HCQ.out]
       exact b4a (HEW.out.on ((Below.refl _ _).alloc (Nat.le_refl _) _)) HG7.out (by omega) HNE.out
      ·have h9:=b8z HEW.out (by omega)
       intro e9
       have e9:g7 = g9:=Option.some.inj e9
       rcases HL7.out with h8 | h8
       ·exact HNE.out (by rw [h8,e9])
       ·omega
      ·exact (HBW.out.alloc (by have:=HBW.out.size;exact this) _).grown HG7.out (by have:=HBW.out.size;simp;omega) (fun z hz => by have h9:=(HOW.out.lt z hz).1;have:=HBS.out;omega)
     case measure => simp [intOf];have:=HLT.out;omega
    ·rw [if_pos (by rfl)]
     go_simp
     go_wp2_with (go_at_call 59;go_loud ((with_reducible refine (HPUT.out _).mono ?_);rintro e w7 ⟨g7,rfl,hp,hb⟩))
     have HP7:=hJ_ hp
     have hb7:=bt hHeld hb
     have HB7:=hJ_ hb7
     clear hp hb hb7
     refine hK.out _ _ HB7.out (fun hHeld1 => ?_)
     clear hK K' hHeld
     have hHeld:=hHeld1
     clear hHeld1
     try simp only [Act.put,p1',p2',p3']
     refine wpAnyH_ready (rs:=[1]) (by kernel_rfl) (by simp) ?_
     refine AllReadyH.cons (o:=⟨some 25,.makeSlice 22 (.const (.int .i64 8)) (.const (.int .i64 8)),22,"ref.go:17",#[],none⟩) rfl (fun K' hK => ?_) AllReadyH.nil
     rw [if_pos (by rfl)]
     go_simp
     refine hK.out _ _ (hHeld.alloc hHeld.size _) (fun hHeld1 => ?_)
     clear hK K' hHeld
     have hHeld:=hHeld1
     clear hHeld1
     try simp only [Act.put,p1',p2',p3']
     refine wpAnyH_ready (rs:=[6]) (by kernel_rfl) (by simp) ?_
     refine AllReadyH.cons (o:=⟨some 30,.call { callee:=.builtin .append,args:=#[.tmp 25,.tmp 29],argTypes:=#[22,22] },22,"ref.go:17",#[⟨1,.data⟩,⟨5,.data⟩,⟨5,.chain⟩],none⟩) rfl (fun K' hK => ?_) AllReadyH.nil
     rw [if_pos (by rfl)]
     refine a3x (.tmp 25) (.tmp 29) 22 rfl 5 i5 Tryz.underlying22 HI.out HZ0.out HZ1.out HZ2.out (some ⟨w7.heap.size,0,none⟩) 8 8 Z8 (by rfl) (HMA.out w7) (by omega) (some ⟨g7,0,none⟩) 8 8 (be 8 (Cq:Int)) (by rfl) (HP7.out.on ((Below.refl _ _).alloc (Nat.le_refl _) _)) (by omega) (by omega) (by omega) ?_
     intro g8 cap8 w8 hx hb
     have HX8:=hJ_ hx
     have HB8:=hJ_ (bt hHeld hb)
     clear hx hb
     refine hK.out _ _ HB8.out (fun hHeld1 => ?_)
     clear hK K' hHeld
     have hHeld:=hHeld1
     clear hHeld1
     try simp only [Act.put,p1',p2',p3']
     refine wpAnyH_ready (rs:=[7]) (by kernel_rfl) (by simp) ?_
     refine AllReadyH.cons (o:=⟨some 31,.call { callee:=.value (.func 58),args:=#[.tmp 24,.tmp 30],argTypes:=#[22,22] },22,"ref.go:17",#[⟨0,.data⟩,⟨6,.data⟩,⟨6,.chain⟩],none⟩) rfl (fun K' hK => ?_) AllReadyH.nil
     rw [if_pos (by rfl)]
     go_simp
     go_wp2_with (go_at_call 58;(with_reducible refine (HENC.out (some ⟨bk,ok,none⟩) cK (some ⟨g8,0,none⟩) cap8 Cq w8 (HKV.out.on HB8.out) HX8.out).mono ?_);rintro e w9 ⟨g9,rfl,ha,hb,hg9⟩)
     have HE9:=hJ_ ha
     have HB9:=hJ_ (bt HB8.out hb)
     have HG9:=hJ_ (show V.heap.size ≤ g9 from Nat.le_trans HB8.out.size hg9)
     clear ha hb hg9
     refine hK.out _ _ HB9.out (fun hHeld1 => ?_)
     clear hK K' hHeld
     have hHeld:=hHeld1
     clear hHeld1
     try simp only [Act.put,p1',p2',p3']
     refine tk 8 ⟨some 6,.assign (.tmp 31),22,"ref.go:17",#[⟨7,.data⟩,⟨7,.chain⟩,⟨0,.phase⟩,⟨1,.phase⟩,⟨2,.phase⟩,⟨3,.phase⟩,⟨4,.phase⟩,⟨5,.phase⟩,⟨6,.phase⟩,⟨7,.phase⟩],none⟩ hHeld ?_
     try simp only [Act.put,p1',p2',p3']
     refine wpAnyH_done (by kernel_rfl) ?_ _
     clear hHeld
     have hcx:=b1y HE9.out HR16.out
     rw [Nat.zero_add] at hcx
     obtain ⟨Y1,hY⟩:∃ Y,Y = (f Cq).getD R 0:=⟨_,rfl⟩
     have HYV:=hJ_ (show C.getD i 0 = bits .xor .u8 X1 Y1 by rw [HCV.out i HLT.out,HCQ.out,HRQ.out,hY,HX1.out])
     rw [← hY] at hcx
     have HOW:=hJ_ (a0y HOV.out HB9.out)
     have HNE:=hJ_ (show (Value.slice av i cv).ownBlock ≠ some g9 from fun e => by have:=(HOV.out.lt g9 e).2;have:=HG9.out;omega)
     have HBW:=hJ_ (bt HBV.out HB9.out)
     have HEW:=hJ_ HE9.out
     have qr:(R:Int) < 16:=by have:=HR16.out;omega
     clear hY
     go_wp2_with ((with_reducible show wpList _ _ _ (⟨some 41,_,_,_,_,_⟩ :: _) _ _);go_loud (refine a1y (o:=⟨some 41,_,_,_,_,_⟩) rfl (.tmp 32) (.tmp 40) 22 rfl base 5 i5 Tryz.underlying22 HI.out HZ0.out HZ1.out HZ2.out (.slice av i cv) i (C.take i) rfl (HOW.out.alloc _) w9.heap.size (bits .xor .u8 X1 Y1) rfl (by simp) (by have:=HLT.out;have:=HL.out;omega) (by have:=HBW.out.size;have:=HBS.out;simp;omega) (w9.heap.size + 1) (by simp) ?_;intro g7 c7 w7' ho7 hg7 hl7;have HO7:=hJ_ ho7;have HG7:=hJ_ hg7;have HL7:=hJ_ hl7;clear ho7 hg7 hl7))
     go_roundw
     case rel =>
      refine ⟨i + 1,by have:=HLT.out;omega,by go_num,⟨some ⟨g7,0,none⟩,c7,rfl,?_,Or.inr ⟨g9,rfl,?_,?_⟩⟩,?_⟩
      ·rw [a1v (by rw [HCL.out];exact HLT.out),HYV.out]
       exact HO7.out
      ·rw [Nat.add_sub_cancel,HCQ.out]
       exact b4a (HEW.out.on ((Below.refl _ _).alloc (Nat.le_refl _) _)) HG7.out (by omega) HNE.out
      ·have h9:=b8z HEW.out (by omega)
       intro e9
       have e9:g7 = g9:=Option.some.inj e9
       rcases HL7.out with h8 | h8
       ·exact HNE.out (by rw [h8,e9])
       ·omega
      ·exact (HBW.out.alloc (by have:=HBW.out.size;exact this) _).grown HG7.out (by have:=HBW.out.size;simp;omega) (fun z hz => by have h9:=(HOW.out.lt z hz).1;have:=HBS.out;omega)
     case measure => simp [intOf];have:=HLT.out;omega
   ·have q1:((R:Int) == 0) = false:=by simp;omega
    rcases HSV.out with h2 | ⟨gx,rfl,hx,hne⟩
    ·exact absurd (show R = 0 by have:=HRQ.out;omega) h0
    ·rw [show (i - 1) / 16 = Cq by have:=HCQ.out;have:=HRQ.out;omega] at hx
     have HE9:=hJ_ hx
     have HNX:=hJ_ hne
     clear hx hne h0
     have hcx:=b1y HE9.out HR16.out
     rw [Nat.zero_add] at hcx
     obtain ⟨Y1,hY⟩:∃ Y,Y = (f Cq).getD R 0:=⟨_,rfl⟩
     have HYV:=hJ_ (show C.getD i 0 = bits .xor .u8 X1 Y1 by rw [HCV.out i HLT.out,HCQ.out,HRQ.out,hY,HX1.out])
     rw [← hY] at hcx
     have HOW:=hJ_ HOV.out
     have HNE:=hJ_ HNX.out
     have HBW:=hJ_ HBV.out
     have HEW:=hJ_ HE9.out
     have qr:(R:Int) < 16:=by have:=HR16.out;omega
     clear hY
     go_wp2_with ((with_reducible show wpList _ _ _ (⟨some 41,_,_,_,_,_⟩ :: _) _ _);go_loud (refine a1y (o:=⟨some 41,_,_,_,_,_⟩) rfl (.tmp 32) (.tmp 40) 22 rfl base 5 i5 Tryz.underlying22 HI.out HZ0.out HZ1.out HZ2.out (.slice av i cv) i (C.take i) rfl (HOW.out.alloc _) V.heap.size (bits .xor .u8 X1 Y1) rfl (by simp) (by have:=HLT.out;have:=HL.out;omega) (by have:=HBW.out.size;have:=HBS.out;simp;omega) (V.heap.size + 1) (by simp) ?_;intro g7 c7 w7' ho7 hg7 hl7;have HO7:=hJ_ ho7;have HG7:=hJ_ hg7;have HL7:=hJ_ hl7;clear ho7 hg7 hl7))
     go_roundw
     case rel =>
      refine ⟨i + 1,by have:=HLT.out;omega,by go_num,⟨some ⟨g7,0,none⟩,c7,rfl,?_,Or.inr ⟨gx,rfl,?_,?_⟩⟩,?_⟩
      ·rw [a1v (by rw [HCL.out];exact HLT.out),HYV.out]
       exact HO7.out
      ·rw [Nat.add_sub_cancel,HCQ.out]
       exact b4a (HEW.out.on ((Below.refl _ _).alloc (Nat.le_refl _) _)) HG7.out (by omega) HNE.out
      ·have h9:=b8z HEW.out (by omega)
       intro e9
       have e9:g7 = gx:=Option.some.inj e9
       rcases HL7.out with h8 | h8
       ·exact HNE.out (by rw [h8,e9])
       ·omega
      ·exact (HBW.out.alloc (by have:=HBW.out.size;exact this) _).grown HG7.out (by have:=HBW.out.size;simp;omega) (fun z hz => by have h9:=(HOW.out.lt z hz).1;have:=HBS.out;omega)
     case measure => simp [intOf];have:=HLT.out;omega
  ·obtain rfl:i = L1:=by omega
   have hown:=HOV.out
   rw [List.take_of_length_le (by rw [HCL.out];exact Nat.le_refl _)] at hown
   have HOW:=hJ_ hown
   obtain ⟨a9,c9,e9,hb9,hl9,hn9,hm9,hc9⟩:=a0f hown
   cases e9
   have HSM:=hJ_ (c3h av i cv C V ⟨⟨hl9,HCB.out,hb9,hn9,hm9⟩,hc9⟩ (by have:=HL.out;omega))
   obtain ⟨sS,hsS⟩:∃ s,s = b3b C:=⟨_,rfl⟩
   rw [← hsS] at HSM HPK
   have HSL:=hJ_ (show sS.length = 32 by rw [hsS];exact b4u _)
   have HSB:=hJ_ (show a0z sS by rw [hsS];exact c1u _)
   clear hown hb9 hl9 hn9 hm9 hc9 hsS hlt HSV HMK
   go_upto_region 10 with (go_at_call 60;go_loud ((with_reducible refine HSM.out.mono ?_);rintro e wS ⟨gS,cS,rfl,hr,hb,hg⟩;have HRS:=hJ_ hr;have HGS:=hJ_ hg;have HOS:=hJ_ (a0y HOW.out hb);have HBW:=hJ_ (show Below w.heap.size w wS from bt HBV.out hb);clear hr hb hg))
   obtain ⟨KS,hKS⟩:∃ x,x = a7i K sS:=⟨_,rfl⟩
   have HKS:=hJ_ (show KS.length = 32 by rw [hKS,a0r,HKL.out,HSL.out];rfl)
   have HKV2:=hJ_ (show ∀ j,j < 32 → KS.getD j 0 = bits .xor .u8 (K.getD j 0) (sS.getD j 0) from fun j hj => by rw [hKS];exact e3g HKB.out HSB.out (by rw [HKL.out];exact hj) (by rw [HSL.out];exact hj))
   rw [← hKS] at HPK
   have HNE0:=hJ_ (show (Value.slice av i cv).ownBlock ≠ some gS from fun e => by have:=(HOW.out.lt gS e).2;have:=HGS.out;omega)
   clear hKS HSM
   go_wp2_with fail
   go_loopw [5,47] (fun v q wr => ∃ (j:Nat) (a:Option Addr) (c:Nat),j ≤ 32 ∧ q = .int .i64 (j:Nat) ∧ v = .slice a (i + j) c ∧ wr.ownsRow base 5 1 (.slice a (i + j) c) (i + j) ((C ++ KS.take j).map (Value.int .u8)) ∧ (Value.slice a (i + j) c).ownBlock ≠ some gS ∧ a5f wr gS 32 sS ∧ Below w.heap.size w wr) (fun _ q _ => 32 - (intOf q).toNat)
   case atStart => exact ⟨0,av,cv,by omega,rfl,rfl,by rw [List.take_zero,List.append_nil];exact HOS.out,HNE0.out,HRS.out,HBW.out⟩
   case round =>
    obtain ⟨j,av,cv,hj,rfl,rfl,h1,h2,h3,h4⟩:=hrel
    rename World => U
    have HO:=hJ_ h1
    have HNE:=hJ_ h2
    have HRU:=hJ_ h3
    have HBU:=hJ_ h4
    have HKU:=hJ_ (HK.out.on h4)
    clear h1 h2 h3 h4 HOS HNE0 HRS HBW
    by_cases hlt:j < 32
    ·have HLJ:=hJ_ hlt
     have hck:=b1y HKU.out hlt
     have hcs:=HRU.out.2.2.2 j hlt
     obtain ⟨X1,hX1⟩:∃ X,X = K.getD j 0:=⟨_,rfl⟩
     obtain ⟨Y1,hY1⟩:∃ X,X = sS.getD j 0:=⟨_,rfl⟩
     have HYV:=hJ_ (show KS.getD j 0 = bits .xor .u8 X1 Y1 by rw [HKV2.out j hlt,hX1,hY1])
     rw [← hX1] at hck
     rw [← hY1] at hcs
     have qj:(j:Int) < 32:=by omega
     have qj0:(0:Int) ≤ (j:Int):=by omega
     clear hX1 hY1 hlt
     go_wp2_with ((with_reducible show wpList _ _ _ (⟨some 60,_,_,_,_,_⟩ :: _) _ _);go_loud (refine a1y (o:=⟨some 60,_,_,_,_,_⟩) rfl (.tmp 52) (.tmp 59) 22 rfl base 5 i5 Tryz.underlying22 HI.out HZ0.out HZ1.out HZ2.out (.slice av (i + j) cv) (i + j) (C ++ KS.take j) rfl (HO.out.alloc _) U.heap.size (bits .xor .u8 X1 Y1) rfl (by simp) (by have:=HLJ.out;have:=HL.out;omega) (by have:=HBU.out.size;have:=HBS.out;simp;omega) (U.heap.size + 1) (by simp) ?_;intro g7 c7 w7' ho7 hg7 hl7;have HO7:=hJ_ ho7;have HG7:=hJ_ hg7;have HL7:=hJ_ hl7;clear ho7 hg7 hl7))
     go_roundw
     case rel =>
      refine ⟨j + 1,some ⟨g7,0,none⟩,c7,by have:=HLJ.out;omega,by go_num,rfl,?_,?_,?_,?_⟩
      ·rw [a1v (by rw [HKS.out];exact HLJ.out),HYV.out,← List.append_assoc]
       exact HO7.out
      ·have h9:=HRU.out.2.2.1
       intro e9
       have e9:g7 = gS:=Option.some.inj e9
       rcases HL7.out with h8 | h8
       ·exact HNE.out (by rw [h8,e9])
       ·omega
      ·exact d3z (HRU.out.on ((Below.refl _ _).alloc (Nat.le_refl _) _) HRU.out.2.2.1) HG7.out HNE.out
      ·exact (HBU.out.alloc (by have:=HBU.out.size;exact this) _).grown HG7.out (by have:=HBU.out.size;simp;omega) (fun z hz => by have h9:=(HO.out.lt z hz).1;have:=HBS.out;omega)
     case measure => simp [intOf];have:=HLJ.out;omega
    ·obtain rfl:j = 32:=by omega
     have ho:=HO.out
     rw [List.take_of_length_le (by rw [HKS.out];exact Nat.le_refl _),← HPK.out] at ho
     obtain ⟨a8,c8,e8,hb8,hl8,hn8,hm8,hc8⟩:=a0f ho
     cases e8
     have HWU:=hJ_ (show a1l U av (i + 32) cv P from ⟨hl8,HPB.out,hb8,hn8,hm8⟩)
     obtain ⟨bx,ox,rfl⟩:=b0i HWU.out (by omega)
     have h1:a1l (U.alloc (.cells #[.int .u8 1] 5)) (some ⟨U.heap.size,0,none⟩) 1 1 [1]:=by
      refine ⟨rfl,fun x hx => by rw [List.mem_singleton.1 hx];omega,fun _ => ⟨U.heap.size,0,rfl,by simp,fun i hi => ?_⟩,Nat.le_refl _,by unfold maxLen;omega⟩
      have:i = 0:=by simp at hi;exact hi
      subst this
      simp
     have H1:=hJ_ h1
     have HA1:=hJ_ ((Below.refl U.heap.size U).alloc (Nat.le_refl _) (.cells #[.int .u8 1] 5))
     clear ho hb8 hl8 hn8 hm8 hc8 hlt h1
     have hcap:=HWU.out.2.2.2
     go_wp2_with ((with_reducible show wpList _ _ _ (⟨some 64,_,_,_,_,_⟩ :: _) _ _);go_loud (refine a7u (o:=⟨some 64,_,_,_,_,_⟩) rfl (.tmp 62) (.tmp 63) 22 rfl 5 i5 Tryz.underlying22 HI.out HZ0.out HZ1.out HZ2.out (some ⟨U.heap.size,0,none⟩) 1 1 [1] rfl H1.out (by omega) (some ⟨bx,ox,none⟩) (i + 32) cv P rfl (HWU.out.on HA1.out) (by omega) (by have:=HL.out;omega) (by have:=HL.out;omega) ?_;intro g8 cap8 w8 hx hb;have HX8:=hJ_ hx;have HB8:=hJ_ (bt HBU.out (bt HA1.out hb));clear hx hb))
     go_ret
     refine ⟨_,_,rfl,?_,HB8.out⟩
     rw [← HPP.out]
     exact ⟨HX8.out,fun e => by cases e⟩
theorem c2r (aB:Option Addr) (cB:Nat) (B:List GF) (aK:Option Addr) (cK:Nat) (K:List GF) (w:World) (hB:Pa w aB 440 cB B) (hK:Pa w aK 32 cK K) :
 Calls Tryz.prog 32 #[.slice aB 440 cB,.slice aK 32 cK] w fun e w' => ∃ a c,e = .returned (.slice a 473 c) ∧ Pa w' a 473 c (a6y K B) ∧ Below w.heap.size w w':=by
 obtain ⟨bk,ok,rfl,_⟩:=hK.at_ (k:=0) (by omega)
 refine (c2y aB 440 cB (iL B) bk ok cK (iL K) w hB hK.1 (by omega)).mono ?_
 rintro e w' ⟨a,c,rfl,h,hb⟩
 refine ⟨a,c,rfl,?_,hb⟩
 have h2:=Pa.of h
 rw [show gL ([1] ++ a9u (iL K) (iL B)) = a6y K B from rfl] at h2
 exact h2
end Go.Proofs.YtappfdbmhgifcaaGreatDoor
