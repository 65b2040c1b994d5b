/- Texts of mine, one behind the other: Hg Hw1 Hh Hj Jg Hy1. -/
import Derived.Test.YtappfdbmhgifcaaGreatDoorZR21
import Derived.LaidMore
import Derived.Stop.Joined
set_option linter.unusedVariables false
set_option linter.unusedSimpArgs false
set_option maxRecDepth 100000
namespace Go.Proofs.YtappfdbmhgifcaaGreatDoor
open Go.ChangeShapes Go.WideShapes Go.ChangeAt Go.RowKit Go.Shelf GF
theorem c9m (t:Nat):a4l 0 t = 440:=by unfold a4l;rw [if_pos rfl]
theorem b6k {n:Nat} (hn:n ≤ 255):(plc n).Nodup:=by
 unfold plc
 refine List.pairwise_map.2 (List.nodup_range.imp_of_mem fun {a b} ha hb hne e => ?_)
 have h1:=List.mem_range.1 ha
 have h2:=List.mem_range.1 hb
 have:=d5t (by omega) (by omega) e
 exact hne (by omega)
theorem e2m {t:Nat} (h1:1 ≤ t) (h2:t ≤ 255):a9s (noR 473) t = noQ (ceil 473 t):=by
 refine (a4y (noR 473) t).same (c7g _ t) fun k hk j => ?_
 have e0:rw_ (noQ (ceil 473 t)) k = []:=by unfold rw_ noQ;simp [List.getD_eq_getElem?_getD,hk]
 rw [e0,a2l]
 refine (b5s (n:=t) (p:=rw_ (a9s (noR 473) t) k) (q:=[]) (xs:=plc t) (fun i hi => a0w (by have:=((a4y (noR 473) t).2 k hk).2;omega)) (fun i _ => a2l i) (b6k h2) (by rw [a3y];exact Nat.le_refl _) (fun x hx => ?_) j).trans (a2l j)
 obtain ⟨i,hi,rfl⟩:=List.mem_map.1 hx
 have hi':=List.mem_range.1 hi
 have h:=b6e (P:=noR 473) h2 hi'
 have hc:co (evP (a9s (noR 473) t) (pl (i + 1))) k = co (rw_ (a6u (noR 473) t (ceil 473 t)) i) k:=congrArg (fun l => co l k) h
 rw [b5q _ (by rw [(a4y (noR 473) t).1];exact hk)] at hc
 rw [hc,show ev [] (pl (i + 1)) = 0 from rfl]
 unfold a6u
 rw [b5v (α:=Nat) _ hi']
 show List.getD _ _ _ = _
 simp only [a9g,List.getD_eq_getElem?_getD,List.getElem?_map]
 rcases (List.range (ceil 473 t))[k]? with _ | _ <;> rfl
theorem b1d {Q R:List (List GF)} {X:List GF} {V t N e:Nat} (hQ:a9r Q V t) (hX:X.length = N) (htN:t ≤ N) (hR:∀ i,i < N → rw_ R i = evP Q (co X i)):∀ k,k < V → a1p X (a6w R N k) t e (rw_ Q k):=by
 intro k hk
 have hw:wrL X (a6w R N k) (rw_ Q k) = []:=by
  rw [List.eq_nil_iff_forall_not_mem]
  intro i hi
  obtain ⟨h1,h2⟩:=b5g.1 hi
  rw [hX] at h1
  rw [a5u _ h1,hR i h1,b5q _ (by rw [hQ.1];exact hk)] at h2
  exact h2 rfl
 exact ⟨(hQ.2 k hk).1,(hQ.2 k hk).2,by rw [hw];exact Nat.zero_le _,by rw [hw,hX];simpa using htN⟩
theorem e8q (t n L:Nat) (x:GF):shR t n (noR n) (noR L) x = noR n:=by
 refine a1i (by rw [a2e];simp [noR]) fun k hk => ?_
 rw [a2e] at hk
 rw [b2h _ _ _ hk,a9g]
 refine b4h (fun j => ?_) x
 unfold dl
 rcases j with _ | j
 ·rw [a0c,a9g]
 ·rw [a0d]
  show List.getD _ _ _ = _
  simp only [a9g,List.getD_eq_getElem?_getD,List.getElem?_map]
  rcases (List.range (t - 1))[j]? with _ | _ <;> rfl
theorem d2l (t n L N:Nat):stR (qS t (noR 440) (noR L)) N = List.replicate N (noR 440):=by
 unfold stR
 refine List.eq_replicate_iff.2 ⟨by simp,fun x hx => ?_⟩
 obtain ⟨i,_,rfl⟩:=List.mem_map.1 hx
 rw [c8w,e8q]
theorem d0d (V N:Nat):stR (noQ V) N = List.replicate N (noR V):=by
 unfold stR
 refine List.eq_replicate_iff.2 ⟨by simp,fun x hx => ?_⟩
 obtain ⟨i,_,rfl⟩:=List.mem_map.1 hx
 rw [d5g]
theorem d2t {t n:Nat} {B R M:List GF} (hB:B.length = 440) (hRM:R.length = M.length):c8l (stR (qS t B R) n) (stR (qS t (noR 440) M) n) = stR (qS t B (a6z R M)) n:=by
 rw [← b5y,← b5y,← b5y]
 apply List.ext_getElem (by rw [b0d,a4o,a4o])
 intro k k1 k2
 have hk:k < (plc n).length:=by rw [b0d,a4o] at k1;exact k1
 have e:=d3r (t:=t) hB hRM hk
 rw [← b4q (t:=t) (n:=440) (S:=B) (M:=a6z R M) hk] at e
 unfold rw_ at e
 simpa [List.getD_eq_getElem?_getD,k1,k2] using e
theorem c6f (b t n c:Nat) (aR:Option Addr) (cR:Nat) (B R0:List GF) (aM:Option Addr) (L cM:Nat) (M:List GF) (w:World) (h:Sh 0 t n c) (hf:Fld w b) (hR:Mat w aR n cR (stR (qS t B R0) n)) (hM:Pa w aM L cM M) (hL:L = (t - 1) * 440) (hB:B.length = 440) (hR0:R0.length = L) :
 Calls Tryz.prog 46 #[.agg #[.int .i64 0,.int .i64 t,.int .i64 n,.int .i64 c],.pointer (some ⟨b,0,none⟩),.slice aR n cR,.slice aM L cM] w fun e w' => ∃ a' c',e = .returned (.tuple #[.slice a' n c',.int .i64 0]) ∧ a4j w' w.heap.size a' n c' (stR (qS t B (a6z R0 M)) n) ∧ Below w.heap.size w w':=by
 have HA:=hJ_ (bxS w #[.int .i64 0,.int .i64 t,.int .i64 n,.int .i64 c] 25)
 have HX:=hJ_ (Bx.new w 0 t n c)
 have hrd:=hR.bd
 have hmd:=hM.bd
 have HF:=hJ_ hf
 have HR:=hJ_ hR
 have HM:=hJ_ hM
 have HS:=hJ_ h
 have HL:=hJ_ hL
 have HBR:=hJ_ (And.intro hB (show R0.length = M.length by rw [hR0,hM.len]))
 clear h hf hR hM hL hB hR0
 go_enter Tryz.func46,Tryz.ntmps46
 go_upto_region 1 with fail
 obtain ⟨w1,hw1⟩:∃ w1,w1 = w.alloc (.cells #[.int .i64 0,.int .i64 t,.int .i64 n,.int .i64 c] 25):=⟨_,rfl⟩
 rw [← hw1] at HA HX
 have y0:∀ W,Below w1.heap.size w1 W → W.cell? ⟨w.heap.size,0,none⟩ = some (.int .i64 0):=fun W hW => (HX.out.on hW).c0
 have y1:∀ W,Below w1.heap.size w1 W → W.cell? ⟨w.heap.size,1,none⟩ = some (.int .i64 (t:Nat)):=fun W hW => (HX.out.on hW).c1
 have y2:∀ W,Below w1.heap.size w1 W → W.cell? ⟨w.heap.size,2,none⟩ = some (.int .i64 (n:Nat)):=fun W hW => (HX.out.on hW).c2
 have y3:∀ W,Below w1.heap.size w1 W → W.cell? ⟨w.heap.size,3,none⟩ = some (.int .i64 (c:Nat)):=fun W hW => (HX.out.on hW).c3
 rw [← hw1]
 clear hw1
 have HPL:=hJ_ (show ∀ W:World,Below w1.heap.size w1 W → Calls Tryz.prog 27 #[.agg #[.int .i64 0,.int .i64 t,.int .i64 n,.int .i64 c]] W fun e w' => ∃ g,e = .returned (.slice (some ⟨g,0,none⟩) n n) ∧ IA w' (some ⟨g,0,none⟩) n n (zl (upN n)) ∧ Below w1.heap.size w1 w' from fun W hW => (a6m 0 t c n W (by have:=HS.out.2;omega)).mono fun e w' ⟨g,h1,h2,h3,h4⟩ => ⟨g,h1,h3,bt hW h4⟩)
 go_region_held (fun W => Below w1.heap.size w1 W) (first | assumption | exact (Below.refl _ _).drew | (refine Below.drew ?_;assumption))
  (first
   | (go_at_call 27;go_loud (refine (HPL.out _ (by first | assumption | exact (Below.refl _ _).drew)).mono ?_;rintro e w2 ⟨g2,rfl,hia,hbw2⟩;have HNU:=hJ_ (a5g (some ⟨g2,0,none⟩) n n (zl (upN n)) w2 hia (by have:=HS.out.2;omega) (fun k hk => (by have:=HS.out.2;have hz:=a8t (n:=n) hk;omega)));rw [b5c] at HNU;clear hia))
   | (go_at_call 26;go_loud (refine HNU.out.mono ?_;rintro e w3 ⟨g3,rfl,hp3,hb3⟩;have hbw3:=bt hbw2 hb3;have HB3:=hJ_ (bt HA.out hbw3);have HSP:=hJ_ (e3r b t 440 L n aM cM M (some ⟨g3,0,none⟩) n (plc n) w3 (HF.out.below HB3.out) (HM.out.on HB3.out) hp3 HS.out.2.1 (by have:=HS.out.2;omega) HL.out (fun k hk => d6a (by have:=HS.out.2;omega) hk) (by omega) (by have:=HS.out.2;omega));clear hp3 hb3))
   | (go_at_call 75;go_loud (refine HSP.out.mono ?_;rintro e w4 ⟨a4,c4,rfl,hm,hb4⟩;rw [b5y] at hm;have HM4:=hJ_ hm.mat;have hbw4:=bt hbw3 hb4;have HB4:=hJ_ (bt HA.out hbw4);clear hm hb4)))
 all_goals
  have HAD:=hJ_ (f0c n aR cR (stR (qS t B R0) n) a4 c4 (stR (qS t (noR 440) M) n) w4 (HR.out.on HB4.out) HM4.out (fun k hk => by rw [a1d hk,a1d hk,a0v,a0v,a5w,a5w]) (by have:=HS.out.2;omega) (fun k hk => by rw [a1d hk,a0v,a5w];omega))
  rw [d2t HBR.out.1 HBR.out.2] at HAD
  have hm4:=HM4.out.bd
  clear y0 y1 y2 y3
  go_wp2_with (go_at_call 76;go_loud (refine HAD.out.mono ?_;rintro e w5 ⟨a5,c5,rfl,hm,hb⟩;have HM5:=hJ_ (hm.low (B':=w.heap.size) HB4.out.size);have HB5:=hJ_ (bt HB4.out hb);clear hm hb))
  go_ret2
  exact ⟨a5,c5,rfl,HM5.out,HB5.out⟩
set_option maxHeartbeats 1000000 in
theorem d5c (b t n c:Nat) (aR:Option Addr) (cR:Nat) (K B:List GF) (aM:Option Addr) (cM:Nat) (M:List GF) (w:World) (h:Sh 1 t n c) (hn:n ≤ 200) (hG:Gl w) (hf:Fld w b) (hR:Mat w aR n cR (stR (a9s (a6y K B) t) n)) (hM:Pa w aM 32 cM M) (hK:K.length = 32) (hB:B.length = 440) :
 Calls Tryz.prog 47 #[.agg #[.int .i64 1,.int .i64 t,.int .i64 n,.int .i64 c],.pointer (some ⟨b,0,none⟩),.slice aR n cR,.slice aM 32 cM] w fun e w' => ∃ a' c',e = .returned (.tuple #[.slice a' n c',.int .i64 0]) ∧ a4j w' w.heap.size a' n c' (stR (a9s (a6y M B) t) n) ∧ Below w.heap.size w w':=by
 have HA:=hJ_ (bxS w #[.int .i64 1,.int .i64 t,.int .i64 n,.int .i64 c] 25)
 have HX:=hJ_ (Bx.new w 1 t n c)
 have hrd:=hR.bd
 have hmd:=hM.bd
 have HF:=hJ_ hf
 have HR:=hJ_ hR
 have HM:=hJ_ hM
 have HS:=hJ_ h
 have HG:=hJ_ hG
 have HN:=hJ_ hn
 obtain ⟨Q,hQ⟩:∃ Q,Q = a9s (a6y K B) t:=⟨_,rfl⟩
 have hrl:a4l 1 t = ceil 473 t:=rfl
 have HQ:=hJ_ (show a9r Q (a4l 1 t) t by rw [hQ];exact a4y _ t)
 have HC:=hJ_ (a5n h.2.1)
 have HFL:=hJ_ (show (flat (stR Q t)).take 473 = a6y K B by rw [hQ];exact b5u h.2.1 (by have:=h.2;omega) (b0j hK hB))
 have HKB:=hJ_ (And.intro hK hB)
 clear hK hB
 rw [← hQ] at HR
 clear h hf hR hM hn hG hQ
 go_enter Tryz.func47,Tryz.ntmps47
 go_upto_region 1 with fail
 obtain ⟨w1,hw1⟩:∃ w1,w1 = w.alloc (.cells #[.int .i64 1,.int .i64 t,.int .i64 n,.int .i64 c] 25):=⟨_,rfl⟩
 rw [← hw1] at HA HX
 have y0:∀ W,Below w1.heap.size w1 W → W.cell? ⟨w.heap.size,0,none⟩ = some (.int .i64 1):=fun W hW => (HX.out.on hW).c0
 have y1:∀ W,Below w1.heap.size w1 W → W.cell? ⟨w.heap.size,1,none⟩ = some (.int .i64 (t:Nat)):=fun W hW => (HX.out.on hW).c1
 have y2:∀ W,Below w1.heap.size w1 W → W.cell? ⟨w.heap.size,2,none⟩ = some (.int .i64 (n:Nat)):=fun W hW => (HX.out.on hW).c2
 have y3:∀ W,Below w1.heap.size w1 W → W.cell? ⟨w.heap.size,3,none⟩ = some (.int .i64 (c:Nat)):=fun W hW => (HX.out.on hW).c3
 rw [← hw1]
 clear hw1
 have HPL:=hJ_ (show ∀ W:World,Below w1.heap.size w1 W → Calls Tryz.prog 27 #[.agg #[.int .i64 1,.int .i64 t,.int .i64 n,.int .i64 c]] W fun e w' => ∃ g,e = .returned (.slice (some ⟨g,0,none⟩) n n) ∧ IA w' (some ⟨g,0,none⟩) n n (zl (upN n)) ∧ Below w1.heap.size w1 w' from fun W hW => (a6m 1 t c n W (by have:=HS.out.2;omega)).mono fun e w' ⟨g,h1,h2,h3,h4⟩ => ⟨g,h1,h3,bt hW h4⟩)
 go_region_held (fun W => Below w1.heap.size w1 W) (first | assumption | exact (Below.refl _ _).drew | (refine Below.drew ?_;assumption))
  (first
   | (go_at_call 27;go_loud (refine (HPL.out _ (by first | assumption | exact (Below.refl _ _).drew)).mono ?_;rintro e w2 ⟨g2,rfl,hia,hbw2⟩;have HB2:=hJ_ (bt HA.out hbw2);have HGA:=hJ_ (c8f b 1 t n c (some ⟨g2,0,none⟩) n n (zl (upN n)) aR cR (stR Q n) w2 (HF.out.below HB2.out) HS.out hia (HR.out.on HB2.out) (by have:=HN.out;omega) (fun k hk => by rw [a1d hk,a0v,HQ.out.1,hrl];have:=HC.out;omega) (fun i hi => by rw [a8t hi];omega) (fun i hi => by rw [a1d hi,a0v,HQ.out.1]) HS.out.2.2.1 (Nat.le_refl _) Q HN.out (by rw [b5c];exact a7v (by have:=HN.out;omega)) HQ.out.1 (b1d HQ.out (by rw [b5c,a3y]) HS.out.2.2.1 (fun i hi => by rw [a1d hi,b5c,a9n hi])));clear hia))
   | (go_at_call 17;go_loud (refine HGA.out.mono ?_;rintro e w3 ⟨p3,rfl,hst,hb3⟩;have hbw3:=bt hbw2 hb3;have HB3:=hJ_ (bt HA.out hbw3);have HX3:=hJ_ (HX.out.on hbw3);have HPC:=hJ_ (a8v p3 1 t Q _ w3 hst (by rw [HQ.out.1,hrl];have:=HC.out;omega) HS.out.2.1 (by have:=HS.out.2;omega) (by rw [HQ.out.1,hrl];exact HC.out.1));clear hst hb3)))
 all_goals
  clear y0 y1 y2 y3
  rw [HFL.out] at HPC
  go_wp2_with (first
   | (go_at_call 44;go_loud (refine HPC.out.mono ?_;rintro e w4 ⟨a4,c4,rfl,hp,hb⟩;have hp4d:=hp.bd;have HB4:=hJ_ (bt HB3.out hb);have HX4:=hJ_ (HX3.out.on hb);have HZ:=hJ_ (a8e a4 473 c4 (a6y K B) w4 hp);rw [a7e (k:=0) (by rw [b0j HKB.out.1 HKB.out.2];omega) (by show co (1 :: _) 0 ≠ 0;rw [a0c];exact GF.one_ne)] at HZ;have HOP:=hJ_ (b9v b a4 c4 K B w4 (HG.out.on HB4.out HG.out.1) (HF.out.below HB4.out) HKB.out.1 HKB.out.2 hp);clear hp hb))
   | (go_at_call 72;go_loud (refine HZ.out.mono ?_;rintro e w5 ⟨rfl,rfl⟩))
   | (go_at_call 43;go_loud (refine HOP.out.mono ?_;rintro e w6 ⟨a6,c6,rfl,hp,hb⟩;have hp6d:=hp.bd;have HB6:=hJ_ (bt HB4.out hb);have HX6:=hJ_ (HX4.out.on hb);have z0:=HX6.out.c0;have z1:=HX6.out.c1;have z2:=HX6.out.c2;have z3:=HX6.out.c3;have HSP:=hJ_ (e4c b t n c a6 c6 B aM cM M w6 HS.out (HG.out.on HB6.out HG.out.1) (HF.out.below HB6.out) hp (HM.out.on HB6.out));rw [f0f] at HSP;clear hp hb))
   | (go_at_call 10;go_loud (refine HSP.out.mono ?_;rintro e w7 ⟨a7,c7,rfl,hm,hb⟩;have HM7:=hJ_ (hm.low (B':=w.heap.size) HB6.out.size).matB;have HB7:=hJ_ (bt HB6.out hb);clear hm hb)))
  go_ret2
  exact ⟨a7,c7,rfl,HM7.out,HB7.out⟩
set_option maxHeartbeats 1000000 in
theorem e1m (b t n c:Nat) (aR:Option Addr) (cR:Nat)  (aM:Option Addr) (cM:Nat) (M:List GF) (w:World) (h:Sh 1 t n c) (hn:n ≤ 200) (hG:Gl w) (hf:Fld w b) (hR:Mat w aR n cR (stR (noQ (ceil 473 t)) n)) (hM:Pa w aM 32 cM M)  :
 Calls Tryz.prog 47 #[.agg #[.int .i64 1,.int .i64 t,.int .i64 n,.int .i64 c],.pointer (some ⟨b,0,none⟩),.slice aR n cR,.slice aM 32 cM] w fun e w' => ∃ a' c',e = .returned (.tuple #[.slice a' n c',.int .i64 0]) ∧ a4j w' w.heap.size a' n c' (stR (noQ (ceil 473 t)) n) ∧ Below w.heap.size w w':=by
 have HA:=hJ_ (bxS w #[.int .i64 1,.int .i64 t,.int .i64 n,.int .i64 c] 25)
 have HX:=hJ_ (Bx.new w 1 t n c)
 have hrd:=hR.bd
 have hmd:=hM.bd
 have HF:=hJ_ hf
 have HR:=hJ_ hR
 have HM:=hJ_ hM
 have HS:=hJ_ h
 have HG:=hJ_ hG
 have HN:=hJ_ hn
 obtain ⟨Q,hQ⟩:∃ Q,Q = noQ (ceil 473 t):=⟨_,rfl⟩
 have hrl:a4l 1 t = ceil 473 t:=rfl
 have HQ:=hJ_ (show a9r Q (a4l 1 t) t by rw [hQ];exact c7g _ t)
 have HC:=hJ_ (a5n h.2.1)
 have HFL:=hJ_ (show (flat (stR Q t)).take 473 = noR 473 by rw [hQ];exact b9r HC.out.1)
 rw [← hQ] at HR
 clear h hf hR hM hn hG hQ
 go_enter Tryz.func47,Tryz.ntmps47
 go_upto_region 1 with fail
 obtain ⟨w1,hw1⟩:∃ w1,w1 = w.alloc (.cells #[.int .i64 1,.int .i64 t,.int .i64 n,.int .i64 c] 25):=⟨_,rfl⟩
 rw [← hw1] at HA HX
 have y0:∀ W,Below w1.heap.size w1 W → W.cell? ⟨w.heap.size,0,none⟩ = some (.int .i64 1):=fun W hW => (HX.out.on hW).c0
 have y1:∀ W,Below w1.heap.size w1 W → W.cell? ⟨w.heap.size,1,none⟩ = some (.int .i64 (t:Nat)):=fun W hW => (HX.out.on hW).c1
 have y2:∀ W,Below w1.heap.size w1 W → W.cell? ⟨w.heap.size,2,none⟩ = some (.int .i64 (n:Nat)):=fun W hW => (HX.out.on hW).c2
 have y3:∀ W,Below w1.heap.size w1 W → W.cell? ⟨w.heap.size,3,none⟩ = some (.int .i64 (c:Nat)):=fun W hW => (HX.out.on hW).c3
 rw [← hw1]
 clear hw1
 have HPL:=hJ_ (show ∀ W:World,Below w1.heap.size w1 W → Calls Tryz.prog 27 #[.agg #[.int .i64 1,.int .i64 t,.int .i64 n,.int .i64 c]] W fun e w' => ∃ g,e = .returned (.slice (some ⟨g,0,none⟩) n n) ∧ IA w' (some ⟨g,0,none⟩) n n (zl (upN n)) ∧ Below w1.heap.size w1 w' from fun W hW => (a6m 1 t c n W (by have:=HS.out.2;omega)).mono fun e w' ⟨g,h1,h2,h3,h4⟩ => ⟨g,h1,h3,bt hW h4⟩)
 go_region_held (fun W => Below w1.heap.size w1 W) (first | assumption | exact (Below.refl _ _).drew | (refine Below.drew ?_;assumption))
  (first
   | (go_at_call 27;go_loud (refine (HPL.out _ (by first | assumption | exact (Below.refl _ _).drew)).mono ?_;rintro e w2 ⟨g2,rfl,hia,hbw2⟩;have HB2:=hJ_ (bt HA.out hbw2);have HGA:=hJ_ (c8f b 1 t n c (some ⟨g2,0,none⟩) n n (zl (upN n)) aR cR (stR Q n) w2 (HF.out.below HB2.out) HS.out hia (HR.out.on HB2.out) (by have:=HN.out;omega) (fun k hk => by rw [a1d hk,a0v,HQ.out.1,hrl];have:=HC.out;omega) (fun i hi => by rw [a8t hi];omega) (fun i hi => by rw [a1d hi,a0v,HQ.out.1]) HS.out.2.2.1 (Nat.le_refl _) Q HN.out (by rw [b5c];exact a7v (by have:=HN.out;omega)) HQ.out.1 (b1d HQ.out (by rw [b5c,a3y]) HS.out.2.2.1 (fun i hi => by rw [a1d hi,b5c,a9n hi])));clear hia))
   | (go_at_call 17;go_loud (refine HGA.out.mono ?_;rintro e w3 ⟨p3,rfl,hst,hb3⟩;have hbw3:=bt hbw2 hb3;have HB3:=hJ_ (bt HA.out hbw3);have HX3:=hJ_ (HX.out.on hbw3);have HPC:=hJ_ (a8v p3 1 t Q _ w3 hst (by rw [HQ.out.1,hrl];have:=HC.out;omega) HS.out.2.1 (by have:=HS.out.2;omega) (by rw [HQ.out.1,hrl];exact HC.out.1));clear hst hb3)))
 all_goals
  clear y0 y1 y2 y3
  rw [HFL.out] at HPC
  go_wp2_with (first
   | (go_at_call 44;go_loud (refine HPC.out.mono ?_;rintro e w4 ⟨a4,c4,rfl,hp,hb⟩;have hp4d:=hp.bd;have HB4:=hJ_ (bt HB3.out hb);have HX4:=hJ_ (HX3.out.on hb);have z0:=HX4.out.c0;have z1:=HX4.out.c1;have z2:=HX4.out.c2;have z3:=HX4.out.c3;have HZ:=hJ_ (a8e a4 473 c4 (noR 473) w4 hp);rw [c1j] at HZ;have HPI:=hJ_ (b3n b 1 t n c a4 c4 (noR 473) w4 HS.out (HF.out.below HB4.out) hp);rw [e2m HS.out.2.1 (by have:=HS.out.2;omega)] at HPI;clear hp hb))
   | (go_at_call 72;go_loud (refine HZ.out.mono ?_;rintro e w5 ⟨rfl,rfl⟩))
   | (go_at_call 29;go_loud (refine HPI.out.mono ?_;rintro e w7 ⟨a7,c7,rfl,hm,hb⟩;have HM7:=hJ_ (hm.low (B':=w.heap.size) HB4.out.size).matB;have HB7:=hJ_ (bt HB4.out hb);clear hm hb)))
  go_ret2
  exact ⟨a7,c7,rfl,HM7.out,HB7.out⟩
theorem f0g (b t n c:Nat) (aR:Option Addr) (cR:Nat) (B R0:List GF) (aM:Option Addr) (L cM:Nat) (M:List GF) (w:World) (h:Sh 0 t n c) (hG:Gl w) (hf:Fld w b) (hR:Mat w aR n cR (stR (qS t B R0) n)) (hM:Pa w aM L cM M) (hL:L = (t - 1) * 440) (hB:B.length = 440) (hR0:R0.length = L) :
 Calls Tryz.prog 21 #[.agg #[.int .i64 0,.int .i64 t,.int .i64 n,.int .i64 c],.pointer (some ⟨b,0,none⟩),.slice aR n cR,.slice aM L cM] w fun e w' => ∃ a' c',e = .returned (.tuple #[.slice a' n c',.int .i64 0]) ∧ a4j w' w.heap.size a' n c' (stR (qS t B (a6z R0 M)) n) ∧ Below w.heap.size w w':=by
 have HA:=hJ_ (bxS w #[.int .i64 0,.int .i64 t,.int .i64 n,.int .i64 c] 25)
 have HX:=hJ_ (Bx.new w 0 t n c)
 have hrd:=hR.bd
 have hmd:=hM.bd
 have HC:=hJ_ (a8d b 0 t n c aM L cM (w.alloc (.cells #[.int .i64 0,.int .i64 t,.int .i64 n,.int .i64 c] 25)) h hmd)
 rw [if_pos (show L = a4v 0 t from hL)] at HC
 have q:((n:Int) != (n:Int)) = false:=by simp
 have HRL:=hJ_ (show ∀ k,k < n → (rw_ (stR (qS t B R0) n) k).length = a4l 0 t from fun k hk => by rw [a1d hk,a0v];exact (a5w t B R0).trans (c9m t).symm)
 have HUN:=hJ_ (show ∀ W:World,Below w.heap.size w W → Calls Tryz.prog 39 #[.agg #[.int .i64 0,.int .i64 t,.int .i64 n,.int .i64 c],.slice aR n cR] W fun e w' => e = .returned (.bool false) ∧ Below W.heap.size W w' from fun W hW => a4n 0 t n c aR n cR _ false W h (hR.on hW) (fun k hk => by rw [HRL.out k hk];have:=b1p (m:=0) h.2.1;omega) ⟨(fun e => by cases e),fun ⟨i,hi,e⟩ => absurd (HRL.out i hi) e⟩)
 have HSB:=hJ_ (show ∀ W:World,Below w.heap.size w W → Calls Tryz.prog 46 #[.agg #[.int .i64 0,.int .i64 t,.int .i64 n,.int .i64 c],.pointer (some ⟨b,0,none⟩),.slice aR n cR,.slice aM L cM] W fun e w' => ∃ a' c',e = .returned (.tuple #[.slice a' n c',.int .i64 0]) ∧ a4j w' W.heap.size a' n c' (stR (qS t B (a6z R0 M)) n) ∧ Below W.heap.size W w' from fun W hW => c6f b t n c aR cR B R0 aM L cM M W h (hf.below hW) (hR.on hW) (hM.on hW) hL hB hR0)
 clear h hR hM hf hG hL hB hR0
 go_enter Tryz.func21,Tryz.ntmps21
 go_wp2_with (first
  | (go_at_call 24;go_loud (refine HC.out.mono ?_;rintro e w1 ⟨rfl,hb⟩;have HB1:=hJ_ (bt HA.out hb);have HX1:=hJ_ (HX.out.on hb);have x0:=HX1.out.c0;have x1:=HX1.out.c1;have x2:=HX1.out.c2;have x3:=HX1.out.c3;have HU:=hJ_ (HUN.out w1 HB1.out);clear hb))
  | (go_at_call 39;go_loud (refine HU.out.mono ?_;rintro e w2 ⟨rfl,hb⟩;have HB2:=hJ_ (bt HB1.out hb);have HX2:=hJ_ (HX1.out.on hb);have y0:=HX2.out.c0;have y1:=HX2.out.c1;have y2:=HX2.out.c2;have y3:=HX2.out.c3;have HF2:=hJ_ (HSB.out w2 HB2.out);clear hb))
  | (go_at_call 46;go_loud (refine HF2.out.mono ?_;rintro e w3 ⟨a3,c3,rfl,hm,hb⟩;have HM3:=hJ_ (hm.low (B':=w.heap.size) HB2.out.size);have HB3:=hJ_ (bt HB2.out hb);clear hm hb)))
 go_ret2
 exact ⟨a3,c3,rfl,HM3.out,HB3.out⟩
theorem f0j (b t n c:Nat) (aR:Option Addr) (cR:Nat) (K B:List GF) (aM:Option Addr) (cM:Nat) (M:List GF) (w:World) (h:Sh 1 t n c) (hG:Gl w) (hf:Fld w b) (hR:Mat w aR n cR (stR (a9s (a6y K B) t) n)) (hM:Pa w aM 32 cM M) (hn:n ≤ 200) (hK:K.length = 32) (hB:B.length = 440) :
 Calls Tryz.prog 21 #[.agg #[.int .i64 1,.int .i64 t,.int .i64 n,.int .i64 c],.pointer (some ⟨b,0,none⟩),.slice aR n cR,.slice aM 32 cM] w fun e w' => ∃ a' c',e = .returned (.tuple #[.slice a' n c',.int .i64 0]) ∧ a4j w' w.heap.size a' n c' (stR (a9s (a6y M B) t) n) ∧ Below w.heap.size w w':=by
 have HA:=hJ_ (bxS w #[.int .i64 1,.int .i64 t,.int .i64 n,.int .i64 c] 25)
 have HX:=hJ_ (Bx.new w 1 t n c)
 have hrd:=hR.bd
 have hmd:=hM.bd
 have HC:=hJ_ (a8d b 1 t n c aM 32 cM (w.alloc (.cells #[.int .i64 1,.int .i64 t,.int .i64 n,.int .i64 c] 25)) h hmd)
 rw [if_pos (show 32 = a4v 1 t from rfl)] at HC
 have q:((n:Int) != (n:Int)) = false:=by simp
 have HRL:=hJ_ (show ∀ k,k < n → (rw_ (stR (a9s (a6y K B) t) n) k).length = a4l 1 t from fun k hk => by rw [a1d hk,a0v];exact (a4y _ t).1)
 have HUN:=hJ_ (show ∀ W:World,Below w.heap.size w W → Calls Tryz.prog 39 #[.agg #[.int .i64 1,.int .i64 t,.int .i64 n,.int .i64 c],.slice aR n cR] W fun e w' => e = .returned (.bool false) ∧ Below W.heap.size W w' from fun W hW => a4n 1 t n c aR n cR _ false W h (hR.on hW) (fun k hk => by rw [HRL.out k hk];have:=b1p (m:=1) h.2.1;omega) ⟨(fun e => by cases e),fun ⟨i,hi,e⟩ => absurd (HRL.out i hi) e⟩)
 have HSB:=hJ_ (show ∀ W:World,Below w.heap.size w W → Calls Tryz.prog 47 #[.agg #[.int .i64 1,.int .i64 t,.int .i64 n,.int .i64 c],.pointer (some ⟨b,0,none⟩),.slice aR n cR,.slice aM 32 cM] W fun e w' => ∃ a' c',e = .returned (.tuple #[.slice a' n c',.int .i64 0]) ∧ a4j w' W.heap.size a' n c' (stR (a9s (a6y M B) t) n) ∧ Below W.heap.size W w' from fun W hW => d5c b t n c aR cR K B aM cM M W h hn (hG.on hW hG.1) (hf.below hW) (hR.on hW) (hM.on hW) hK hB)
 clear h hR hM hf hG hn hK hB
 go_enter Tryz.func21,Tryz.ntmps21
 go_wp2_with (first
  | (go_at_call 24;go_loud (refine HC.out.mono ?_;rintro e w1 ⟨rfl,hb⟩;have HB1:=hJ_ (bt HA.out hb);have HX1:=hJ_ (HX.out.on hb);have x0:=HX1.out.c0;have x1:=HX1.out.c1;have x2:=HX1.out.c2;have x3:=HX1.out.c3;have HU:=hJ_ (HUN.out w1 HB1.out);clear hb))
  | (go_at_call 39;go_loud (refine HU.out.mono ?_;rintro e w2 ⟨rfl,hb⟩;have HB2:=hJ_ (bt HB1.out hb);have HX2:=hJ_ (HX1.out.on hb);have y0:=HX2.out.c0;have y1:=HX2.out.c1;have y2:=HX2.out.c2;have y3:=HX2.out.c3;have HF2:=hJ_ (HSB.out w2 HB2.out);clear hb))
  | (go_at_call 47;go_loud (refine HF2.out.mono ?_;rintro e w3 ⟨a3,c3,rfl,hm,hb⟩;have HM3:=hJ_ (hm.low (B':=w.heap.size) HB2.out.size);have HB3:=hJ_ (bt HB2.out hb);clear hm hb)))
 go_ret2
 exact ⟨a3,c3,rfl,HM3.out,HB3.out⟩
theorem f0d (b t n c:Nat) (aR:Option Addr) (cR:Nat)  (aM:Option Addr) (cM:Nat) (M:List GF) (w:World) (h:Sh 1 t n c) (hG:Gl w) (hf:Fld w b) (hR:Mat w aR n cR (stR (noQ (ceil 473 t)) n)) (hM:Pa w aM 32 cM M) (hn:n ≤ 200) :
 Calls Tryz.prog 21 #[.agg #[.int .i64 1,.int .i64 t,.int .i64 n,.int .i64 c],.pointer (some ⟨b,0,none⟩),.slice aR n cR,.slice aM 32 cM] w fun e w' => ∃ a' c',e = .returned (.tuple #[.slice a' n c',.int .i64 0]) ∧ a4j w' w.heap.size a' n c' (stR (noQ (ceil 473 t)) n) ∧ Below w.heap.size w w':=by
 have HA:=hJ_ (bxS w #[.int .i64 1,.int .i64 t,.int .i64 n,.int .i64 c] 25)
 have HX:=hJ_ (Bx.new w 1 t n c)
 have hrd:=hR.bd
 have hmd:=hM.bd
 have HC:=hJ_ (a8d b 1 t n c aM 32 cM (w.alloc (.cells #[.int .i64 1,.int .i64 t,.int .i64 n,.int .i64 c] 25)) h hmd)
 rw [if_pos (show 32 = a4v 1 t from rfl)] at HC
 have q:((n:Int) != (n:Int)) = false:=by simp
 have HRL:=hJ_ (show ∀ k,k < n → (rw_ (stR (noQ (ceil 473 t)) n) k).length = a4l 1 t from fun k hk => by rw [a1d hk,a0v];exact c7l _)
 have HUN:=hJ_ (show ∀ W:World,Below w.heap.size w W → Calls Tryz.prog 39 #[.agg #[.int .i64 1,.int .i64 t,.int .i64 n,.int .i64 c],.slice aR n cR] W fun e w' => e = .returned (.bool false) ∧ Below W.heap.size W w' from fun W hW => a4n 1 t n c aR n cR _ false W h (hR.on hW) (fun k hk => by rw [HRL.out k hk];have:=b1p (m:=1) h.2.1;omega) ⟨(fun e => by cases e),fun ⟨i,hi,e⟩ => absurd (HRL.out i hi) e⟩)
 have HSB:=hJ_ (show ∀ W:World,Below w.heap.size w W → Calls Tryz.prog 47 #[.agg #[.int .i64 1,.int .i64 t,.int .i64 n,.int .i64 c],.pointer (some ⟨b,0,none⟩),.slice aR n cR,.slice aM 32 cM] W fun e w' => ∃ a' c',e = .returned (.tuple #[.slice a' n c',.int .i64 0]) ∧ a4j w' W.heap.size a' n c' (stR (noQ (ceil 473 t)) n) ∧ Below W.heap.size W w' from fun W hW => e1m b t n c aR cR aM cM M W h hn (hG.on hW hG.1) (hf.below hW) (hR.on hW) (hM.on hW))
 clear h hR hM hf hG hn
 go_enter Tryz.func21,Tryz.ntmps21
 go_wp2_with (first
  | (go_at_call 24;go_loud (refine HC.out.mono ?_;rintro e w1 ⟨rfl,hb⟩;have HB1:=hJ_ (bt HA.out hb);have HX1:=hJ_ (HX.out.on hb);have x0:=HX1.out.c0;have x1:=HX1.out.c1;have x2:=HX1.out.c2;have x3:=HX1.out.c3;have HU:=hJ_ (HUN.out w1 HB1.out);clear hb))
  | (go_at_call 39;go_loud (refine HU.out.mono ?_;rintro e w2 ⟨rfl,hb⟩;have HB2:=hJ_ (bt HB1.out hb);have HX2:=hJ_ (HX1.out.on hb);have y0:=HX2.out.c0;have y1:=HX2.out.c1;have y2:=HX2.out.c2;have y3:=HX2.out.c3;have HF2:=hJ_ (HSB.out w2 HB2.out);clear hb))
  | (go_at_call 47;go_loud (refine HF2.out.mono ?_;rintro e w3 ⟨a3,c3,rfl,hm,hb⟩;have HM3:=hJ_ (hm.low (B':=w.heap.size) HB2.out.size);have HB3:=hJ_ (bt HB2.out hb);clear hm hb)))
 go_ret2
 exact ⟨a3,c3,rfl,HM3.out,HB3.out⟩
def b7p (E W:List GF) (n:Nat):List GF:=(List.range E.length).map fun j => if j < n then co E j + co W j else co E j
theorem a3u (E W:List GF) (n:Nat):(b7p E W n).length = E.length:=by simp [b7p]
theorem b1g {E W:List GF} {n j:Nat} (h:j < E.length):co (b7p E W n) j = if j < n then co E j + co W j else co E j:=by
 show List.getD _ _ _ = _
 unfold b7p;simp [List.getD_eq_getElem?_getD,h]
theorem c6z (E W:List GF):b7p E W 0 = E:=a1i (a3u _ _ _) fun j hj => by
 rw [a3u] at hj
 rw [b1g hj,if_neg (by omega)]
theorem c7d {E W:List GF} {n:Nat} (h:n < E.length):(b7p E W n).set n (co (b7p E W n) n + co W n) = b7p E W (n + 1):=by
 refine a1i (by rw [List.length_set,a3u,a3u]) fun j hj => ?_
 rw [List.length_set,a3u] at hj
 rw [b3o (by rw [a3u];exact h),b1g hj,b1g hj,b1g h,if_neg (show ¬ n < n by omega)]
 by_cases e:j = n
 ·subst e
  rw [if_pos rfl,if_pos (by omega)]
 ·rw [if_neg e]
  by_cases hl:j < n
  ·rw [if_pos hl,if_pos (by omega)]
  ·rw [if_neg hl,if_neg (by omega)]
theorem e2v (mode t n c:Int) (w:World):Calls Tryz.prog 8 #[.int .i64 mode,.int .i64 t,.int .i64 n,.int .i64 c] w fun e w' =>
 ∃ (m:Int) (T N C:Nat),e = .returned (.agg #[.int .i64 m,.int .i64 (T:Nat),.int .i64 (N:Nat),.int .i64 (C:Nat)]) ∧ Sh m T N C ∧ N ≤ 7 ∧ C ≤ 3 ∧ Below w.heap.size w w':=by
 obtain ⟨M,hM1,hM2,hM3⟩:=a8c mode 2 (by omega)
 obtain ⟨P,hP1,hP2,hP3⟩:=a8c n 7 (by omega)
 obtain ⟨C,hC1,hC2,hC3⟩:=a8c c 4 (by omega)
 obtain ⟨N,hN⟩:∃ N:Nat,N = 1 + P:=⟨_,rfl⟩
 obtain ⟨U,hU1,hU2,hU3⟩:=a8c t (N:Int) (by omega)
 obtain ⟨T,hT⟩:∃ T:Nat,T = 1 + U:=⟨_,rfl⟩
 have f1:∀ [Inhabited Unit],(IntKind.u64.wrap mode).tmod 2 = (M:Int):=hM1
 have f2:∀ [Inhabited Unit],(IntKind.u64.wrap mode) % 2 = (M:Int):=hM2
 have f3:∀ [Inhabited Unit],(IntKind.u64.wrap n).tmod 7 = (P:Int):=hP1
 have f4:∀ [Inhabited Unit],(IntKind.u64.wrap n) % 7 = (P:Int):=hP2
 have f5:∀ [Inhabited Unit],(IntKind.u64.wrap c).tmod 4 = (C:Int):=hC1
 have f6:∀ [Inhabited Unit],(IntKind.u64.wrap c) % 4 = (C:Int):=hC2
 have f7:∀ [Inhabited Unit],(IntKind.u64.wrap t).tmod (N:Int) = (U:Int):=hU1
 have f8:∀ [Inhabited Unit],(IntKind.u64.wrap t) % (N:Int) = (U:Int):=hU2
 have g1:∀ [Inhabited Unit],IntKind.i64.wrap (M:Int) = (M:Int):=by intro _;rw [IntKind.wrap_i64];omega
 have g2:∀ [Inhabited Unit],IntKind.i64.wrap (P:Int) = (P:Int):=by intro _;rw [IntKind.wrap_i64];omega
 have g3:∀ [Inhabited Unit],IntKind.i64.wrap (C:Int) = (C:Int):=by intro _;rw [IntKind.wrap_i64];omega
 have g4:∀ [Inhabited Unit],IntKind.i64.wrap (U:Int) = (U:Int):=by intro _;rw [IntKind.wrap_i64];omega
 have g5:∀ [Inhabited Unit],IntKind.u64.wrap (N:Int) = (N:Int):=by intro _;rw [IntKind.wrap_u64];omega
 have g6:∀ [Inhabited Unit],wrap64 (1 + (P:Int)) = (N:Int):=by intro _;unfold wrap64;omega
 have g7:∀ [Inhabited Unit],wrap64 (1 + (U:Int)) = (T:Int):=by intro _;unfold wrap64;omega
 have g8:∀ [Inhabited Unit],wrap64 (M:Int) = (M:Int):=by intro _;unfold wrap64;omega
 have g9:∀ [Inhabited Unit],wrap64 (P:Int) = (P:Int):=by intro _;unfold wrap64;omega
 have g10:∀ [Inhabited Unit],wrap64 (C:Int) = (C:Int):=by intro _;unfold wrap64;omega
 have g11:∀ [Inhabited Unit],wrap64 (U:Int) = (U:Int):=by intro _;unfold wrap64;omega
 have z1:¬ N = 0:=by omega
 have z2:¬ (N:Int) = 0:=by omega
 have z3:((N:Int) == 0) = false:=by rw [beq_eq_false_iff_ne];omega
 have HS:=hJ_ (show Sh (M:Int) T N C by unfold Sh;omega)
 have HN:=hJ_ (show N ≤ 7 ∧ C ≤ 3 by omega)
 clear hM1 hM2 hM3 hP1 hP2 hP3 hC1 hC2 hC3 hU1 hU2 hU3 hN hT
 go_enter Tryz.func8,Tryz.ntmps8
 go_wp2
 refine bodyPost_ret (v:=.agg #[.int .i64 (M:Int),.int .i64 (T:Int),.int .i64 (N:Int),.int .i64 (C:Int)]) (results_cell_row rfl _ _ w.heap.size 25 #[.int .i64 (M:Int),.int .i64 (T:Int),.int .i64 (N:Int),.int .i64 (C:Int)] (0,0) _ rfl ((((Below.refl _ (w.alloc (.cells #[.int .i64 (M:Int),.int .i64 (T:Int),.int .i64 (N:Int),.int .i64 (C:Int)] 25))).alloc (Nat.le_refl _) _).block w.heap.size (by simp)).trans (heap_alloc_new w _)) Tryz.underlying25 rfl (by kernel_rfl)) rfl ⟨(M:Int),T,N,C,rfl,HS.out,HN.out.1,HN.out.2,?_⟩
 exact ((Below.refl _ _).alloc (Nat.le_refl _) _).alloc (by simp) _
def b2q (P:List GF):List GF:=(List.range 440).map fun i => if P.length = 0 then 0 else toG (((toI (co P (i % P.length))).toNat + (i / P.length) % 256:Nat) % 256:Nat)
def a3p (P:List GF) (n:Nat):List GF:=(List.range n).map fun i => if P.length = 0 then 0 else co P (i % P.length) + toG (((i * 31 / P.length) % 256:Nat):Int)
theorem b4z (P:List GF):(b2q P).length = 440:=by simp [b2q]
theorem d4t (P:List GF) (n:Nat):(a3p P n).length = n:=by simp [a3p]
theorem d7l {P:List GF} {i:Nat} (h:i < 440):co (b2q P) i = if P.length = 0 then 0 else toG (((toI (co P (i % P.length))).toNat + (i / P.length) % 256:Nat) % 256:Nat):=by
 show List.getD _ _ _ = _
 unfold b2q;simp [List.getD_eq_getElem?_getD,h]
theorem d7v {P:List GF} {n i:Nat} (h:i < n):co (a3p P n) i = if P.length = 0 then 0 else co P (i % P.length) + toG (((i * 31 / P.length) % 256:Nat):Int):=by
 show List.getD _ _ _ = _
 unfold a3p;simp [List.getD_eq_getElem?_getD,h]
theorem c1t {P:List GF} {t k:Nat} (h:P.length = t) (hk:k < t) (hz:co P k = 0):plV P t k = plV P t (k + 1):=by
 have hl:(plV P t k).length = t:=a8q h (by omega)
 have e:=a8r h hk
 rw [hz,a5a] at e
 rw [← e]
 apply List.ext_getElem?
 intro j
 rw [List.getElem?_set]
 by_cases hj:k = j
 ·subst hj
  rw [if_pos rfl,if_pos (by rw [hl];exact hk)]
  unfold plV
  rw [List.getElem?_append_right (by simp [iL];omega),List.getElem?_replicate]
  have hm:((iL (P.take k)).map (Value.int .u8)).length = k:=by simp [iL];omega
  rw [hm,if_pos (by omega)]
 ·rw [if_neg hj]
set_option maxHeartbeats 1000000 in
theorem d8x (a:Option Addr) (L cB:Nat) (P:List GF) (w:World) (hp:Pa w a L cB P) (hL:L ≤ 500) :
 Calls Tryz.prog 12 #[.slice a L cB] w fun e w' => ∃ g,e = .returned (.slice (some ⟨g,0,none⟩) 440 440) ∧ Pa w' (some ⟨g,0,none⟩) 440 440 (b2q P) ∧ Below w.heap.size w w':=by
 have HP:=hJ_ hp
 have HPL:=hJ_ hp.len
 have hbd:=hp.bd
 obtain ⟨Z,hZ⟩:∃ Z,Z = b2q P:=⟨_,rfl⟩
 have HZE:=hJ_ hZ
 have HZL:=hJ_ (show Z.length = 440 by rw [hZ];exact b4z P)
 have HZ:=hJ_ (show ∀ i,i < 440 → co Z i = if P.length = 0 then 0 else toG (((toI (co P (i % P.length))).toNat + (i / P.length) % 256:Nat) % 256:Nat) from fun i hi => by rw [hZ];exact d7l hi)
 have HZ0:=hJ_ (show L = 0 → ∀ i,co Z i = 0 from fun h0 i => by
  by_cases hi:i < 440
  ·rw [HZ.out i hi,if_pos (by rw [HPL.out];exact h0)]
  ·exact a0w (by rw [HZL.out];omega))
 have HN:=hJ_ (show 440 ≤ 440 from Nat.le_refl _)
 have hmk:=run_make_row' (P:=Tryz.prog) 22 5 (.int .u8 0) 1 Tryz.underlying22 info5 rfl .i64 .i64 440 (by omega) (by omega)
 rw [show ((440:Nat):Int) = 2 * 220 from rfl] at hmk
 simp only [Int.reduceMul] at hmk
 have hO0:Hid ((w.alloc (.cells (madeCells #[.int .u8 0] 440) 5)).ownsRow w.heap.size 5 1 (.slice (some ⟨w.heap.size,0,none⟩) 440 440) 440 (plV Z 440 0)):=by
  rw [a7w]
  exact hJ_ (a1c (w:=w) (e:=5) (n:=440) (by unfold maxLen;omega))
 have hB0:Hid (Below w.heap.size w (w.alloc (.cells (madeCells #[.int .u8 0] 440) 5))):=hJ_ ((Below.refl _ _).alloc (Nat.le_refl _) _)
 clear hp hZ
 go_enter Tryz.func12,Tryz.ntmps12
 go_wp2
 go_loopw [8] (fun j wr => ∃ k:Nat,k ≤ 440 ∧ j = .int .i64 (k:Nat) ∧ Hid (wr.ownsRow w.heap.size 5 1 (.slice (some ⟨w.heap.size,0,none⟩) 440 440) 440 (plV Z 440 k)) ∧ Hid (Below w.heap.size w wr))
  (fun j _ => 440 - (intOf j).toNat)
 case atStart => exact ⟨0,Nat.zero_le _,rfl,hO0,hB0⟩
 case round =>
  obtain ⟨k,hk,rfl,hO,hB⟩:=hrel
  rename World => w2
  by_cases hlt:k < 440
  ·have qi:(k:Int) < (440:Int):=by omega
   have qi0:(0:Int) ≤ (k:Int):=by omega
   by_cases h0:L = 0
   ·have ho:=hO.out
    rw [c1t HZL.out hlt (HZ0.out h0 k)] at ho
    have HST:=hJ_ ho
    have HLT:=hJ_ hlt
    have hk1000:k ≤ 4000:=by have:=HN.out;omega
    subst h0
    clear ho hlt hk
    go_wp2
    go_roundw
    case rel => exact ⟨k + 1,by have:=HLT.out;omega,by go_num,HST,hB⟩
    case measure => simp [intOf];have:=HLT.out;omega
   ·obtain ⟨r,hr⟩:∃ r,r = k % L:=⟨_,rfl⟩
    have hrL:r < L:=by rw [hr];exact Nat.mod_lt _ (by omega)
    obtain ⟨b,off,rfl,hbl,hcell⟩:=(HP.out.on hB.out).at_ hrL
    obtain ⟨d,hd⟩:∃ d,d = k / L:=⟨_,rfl⟩
    have hdk:d ≤ k:=by rw [hd];exact Nat.div_le_self _ _
    obtain ⟨x,hx⟩:∃ x:Int,x = toI (co P r):=⟨_,rfl⟩
    have hxb:=a2d (co P r)
    rw [← hx] at hcell hxb
    obtain ⟨y,hy⟩:∃ y:Int,y = toI (co Z k):=⟨_,rfl⟩
    have HZK:=hJ_ hy
    have hyv:y = ((x.toNat + d % 256) % 256:Nat):=by
     rw [hy,HZ.out k hlt,if_neg (by rw [HPL.out];exact h0),HPL.out,← hr,← hd,← hx]
     exact a8x (by omega)
    have e5:∀ [Inhabited Unit],(k:Int).tdiv (L:Int) = (d:Int):=by intro _;rw [Int.tdiv_eq_ediv_of_nonneg (by omega),hd];rfl
    have e6:∀ [Inhabited Unit],(k:Int) / (L:Int) = (d:Int):=by intro _;rw [hd];rfl
    have e7:∀ [Inhabited Unit],IntKind.i64.wrap (d:Int) = (d:Int):=by intro _;rw [IntKind.wrap_i64];omega
    obtain ⟨u,hu⟩:∃ u:Nat,u = d % 256:=⟨_,rfl⟩
    have e8:∀ [Inhabited Unit],IntKind.u8.wrap (d:Int) = (u:Int):=by intro _;rw [IntKind.wrap_u8];omega
    have e9:∀ [Inhabited Unit],IntKind.u8.wrap (x + (u:Int)) = y:=by intro _;rw [IntKind.wrap_u8];omega
    clear hd hdk hx hxb hy hyv hu
    have qL:decide ((0:Int) < (L:Int)) = true:=by rw [decide_eq_true_iff];omega
    have qL2:(0:Int) < (L:Int):=by omega
    have qr:(r:Int) < (L:Int):=by omega
    have qr0:(0:Int) ≤ (r:Int):=by omega
    have z1:¬ L = 0:=h0
    have z2:¬ (L:Int) = 0:=by omega
    have z3:¬ (L:Int) = -1:=by omega
    have z4:((L:Int) == 0) = false:=by rw [beq_eq_false_iff_ne];omega
    have e1:∀ [Inhabited Unit],(k:Int).tmod (L:Int) = (r:Int):=by intro _;rw [Int.tmod_eq_emod_of_nonneg (by omega),hr];rfl
    have e2:∀ [Inhabited Unit],(k:Int) % (L:Int) = (r:Int):=by intro _;rw [hr];rfl
    have e3:∀ [Inhabited Unit],IntKind.i64.wrap (r:Int) = (r:Int):=by intro _;rw [IntKind.wrap_i64];omega
    have hfz:=hO.out.frozenAt k
    have hcl:=hO.out.cellAt k (by omega)
    obtain ⟨vo,hvo⟩:∃ v,(plV Z 440 k)[k]? = some v:=⟨_,List.getElem?_eq_getElem (by rw [a8q HZL.out hk];exact hlt)⟩
    rw [hvo] at hcl
    have hst:=(hO.out.stored k (.int .u8 (toI (co Z k)))).1
    rw [a8r HZL.out hlt] at hst
    have hgs:=hO.out.lt (w.heap.size) rfl
    have HST:=hJ_ hst
    have HBS:=hJ_ (hB.out.setCell (p:=⟨w.heap.size,k,none⟩) (Nat.le_refl _) (.int .u8 (toI (co Z k))))
    have HLT:=hJ_ hlt
    have hk1000:k ≤ 4000:=by have:=HN.out;omega
    rw [← HZK.out] at HST HBS
    clear hst hlt hk hvo hr hrL hbl h0 hgs
    go_wp2_with fail
    go_still_tail 15,(by kernel_rfl)
    go_wp2
    go_roundw
    case rel => exact ⟨k + 1,by have:=HLT.out;omega,by go_num,hJ_ (HST.out),hJ_ HBS.out.drew⟩
    case measure => simp [intOf];have:=HLT.out;omega
  ·obtain rfl:k = 440:=by omega
   have ho:=hO.out
   rw [b0n HZL.out] at ho
   have HPO:=hJ_ (Pa.own2 ho)
   have HZE':=HZE
   clear ho hlt
   go_wp2
   go_ret
   exact ⟨_,rfl,by rw [← HZE.out];exact HPO.out,hB.out⟩
set_option maxHeartbeats 1000000 in
theorem e6z (m:Int) (tt nn c:Nat) (a:Option Addr) (L cB:Nat) (P:List GF) (n:Nat) (w:World) (h:Sh m tt nn c) (hn:n = a4v m tt) (hn2:n ≤ 4000) (hp:Pa w a L cB P) (hL:L ≤ 500) :
 Calls Tryz.prog 9 #[.agg #[.int .i64 m,.int .i64 (tt:Nat),.int .i64 (nn:Nat),.int .i64 (c:Nat)],.slice a L cB] w fun e w' => ∃ g,e = .returned (.slice (some ⟨g,0,none⟩) n n) ∧ Pa w' (some ⟨g,0,none⟩) n n (a3p P n) ∧ Below w.heap.size w w':=by
 have HA:=hJ_ (bxS w #[.int .i64 m,.int .i64 tt,.int .i64 nn,.int .i64 c] 25)
 have HNE:=c0k m tt nn c (w.alloc (.cells #[.int .i64 m,.int .i64 tt,.int .i64 nn,.int .i64 c] 25)) h
 rw [← hn] at HNE
 have HNE:=hJ_ HNE
 have HP:=hJ_ hp
 have HPL:=hJ_ hp.len
 have hbd:=hp.bd
 obtain ⟨Z,hZ⟩:∃ Z,Z = a3p P n:=⟨_,rfl⟩
 have HZE:=hJ_ hZ
 have HZL:=hJ_ (show Z.length = n by rw [hZ];exact d4t P n)
 have HZ:=hJ_ (show ∀ i,i < n → co Z i = if P.length = 0 then 0 else co P (i % P.length) + toG (((i * 31 / P.length) % 256:Nat):Int) from fun i hi => by rw [hZ];exact d7v hi)
 have HZ0:=hJ_ (show L = 0 → ∀ i,co Z i = 0 from fun h0 i => by
  by_cases hi:i < n
  ·rw [HZ.out i hi,if_pos (by rw [HPL.out];exact h0)]
  ·exact a0w (by rw [HZL.out];omega))
 have HN:=hJ_ hn2
 have qn2:(n:Int) ≤ 4000:=by omega
 have hmk:=run_make_row' (P:=Tryz.prog) 22 5 (.int .u8 0) 1 Tryz.underlying22 info5 rfl .i64 .i64 n (by omega) (by omega)
 clear hp hZ h hn hn2
 go_enter Tryz.func9,Tryz.ntmps9
 go_upto_region 1 with fail
 go_wp2_with (go_at_call 23;go_loud (refine HNE.out.mono ?_;rintro e w1 ⟨rfl,hb⟩;have HB1:=hJ_ (bt HA.out hb);clear hb))
 have HGE:=hJ_ HB1.out.size
 have hO0:Hid ((w1.alloc (.cells (madeCells #[.int .u8 0] n) 5)).ownsRow w1.heap.size 5 1 (.slice (some ⟨w1.heap.size,0,none⟩) n n) n (plV Z n 0)):=by
  rw [a7w]
  exact hJ_ (a1c (w:=w1) (e:=5) (n:=n) (by have:=HN.out;unfold maxLen;omega))
 have hB0:Hid (Below w.heap.size w (w1.alloc (.cells (madeCells #[.int .u8 0] n) 5))):=hJ_ (HB1.out.alloc HB1.out.size _)
 go_loopw [12] (fun j wr => ∃ k:Nat,k ≤ n ∧ j = .int .i64 (k:Nat) ∧ Hid (wr.ownsRow w1.heap.size 5 1 (.slice (some ⟨w1.heap.size,0,none⟩) n n) n (plV Z n k)) ∧ Hid (Below w.heap.size w wr))
  (fun j _ => n - (intOf j).toNat)
 case atStart => exact ⟨0,Nat.zero_le _,rfl,hO0,hB0⟩
 case round =>
  obtain ⟨k,hk,rfl,hO,hB⟩:=hrel
  rename World => w2
  by_cases hlt:k < n
  ·have qi:(k:Int) < (n:Int):=by omega
   have qi0:(0:Int) ≤ (k:Int):=by omega
   by_cases h0:L = 0
   ·have ho:=hO.out
    rw [c1t HZL.out hlt (HZ0.out h0 k)] at ho
    have HST:=hJ_ ho
    have HLT:=hJ_ hlt
    have hk1000:k ≤ 4000:=by have:=HN.out;omega
    subst h0
    clear ho hlt hk
    go_wp2
    go_roundw
    case rel => exact ⟨k + 1,by have:=HLT.out;omega,by go_num,HST,hB⟩
    case measure => simp [intOf];have:=HLT.out;omega
   ·obtain ⟨r,hr⟩:∃ r,r = k % L:=⟨_,rfl⟩
    have hrL:r < L:=by rw [hr];exact Nat.mod_lt _ (by omega)
    obtain ⟨b,off,rfl,hbl,hcell⟩:=(HP.out.on hB.out).at_ hrL
    obtain ⟨d,hd⟩:∃ d,d = k * 31 / L:=⟨_,rfl⟩
    have hdk:d ≤ k * 31:=by rw [hd];exact Nat.div_le_self _ _
    obtain ⟨x,hx⟩:∃ x:Int,x = toI (co P r):=⟨_,rfl⟩
    rw [← hx] at hcell
    obtain ⟨y,hy⟩:∃ y:Int,y = toI (co Z k):=⟨_,rfl⟩
    have HZK:=hJ_ hy
    have hk4:k ≤ 4000:=by have:=HN.out;omega
    obtain ⟨k31,hk31⟩:∃ q:Nat,q = k * 31:=⟨_,rfl⟩
    have e4:∀ [Inhabited Unit],wrap64 ((k:Int) * 31) = (k31:Int):=by intro _;unfold wrap64;omega
    have e4':∀ [Inhabited Unit],IntKind.i64.wrap ((k:Int) * 31) = (k31:Int):=by intro _;rw [IntKind.wrap_i64];omega
    have e4'':∀ [Inhabited Unit],(k:Int) * 31 = (k31:Int):=by intro _;omega
    rw [← hk31] at hd hdk
    have e5:∀ [Inhabited Unit],(k31:Int).tdiv (L:Int) = (d:Int):=by intro _;rw [Int.tdiv_eq_ediv_of_nonneg (by omega),hd];rfl
    have e6:∀ [Inhabited Unit],(k31:Int) / (L:Int) = (d:Int):=by intro _;rw [hd];rfl
    have e7:∀ [Inhabited Unit],IntKind.i64.wrap (d:Int) = (d:Int):=by intro _;rw [IntKind.wrap_i64];omega
    obtain ⟨u,hu⟩:∃ u:Nat,u = d % 256:=⟨_,rfl⟩
    have e8:∀ [Inhabited Unit],IntKind.u8.wrap (d:Int) = (u:Int):=by intro _;rw [IntKind.wrap_u8];omega
    have e8':∀ [Inhabited Unit],(d:Int) % 256 = (u:Int):=by intro _;omega
    have e7':∀ [Inhabited Unit],wrap64 (d:Int) = (d:Int):=by intro _;unfold wrap64;omega
    have e7'':∀ [Inhabited Unit],wrap64 (k31:Int) = (k31:Int):=by intro _;unfold wrap64;omega
    have hbx:=a3c (co P r) (toG (u:Int))
    rw [a8x (show (0:Int) ≤ (u:Int) ∧ (u:Int) < 256 by omega),← hx] at hbx
    have hyv:toI (co P r + toG (u:Int)) = y:=by
     rw [hy,HZ.out k hlt,if_neg (by rw [HPL.out];exact h0),HPL.out,← hr,← hk31,← hd,← hu]
    rw [hyv] at hbx
    have e9:∀ [Inhabited Unit],bits .xor .u8 x (u:Int) = y:=by intro _;exact hbx
    clear hd hdk hx hy hyv hu hbx hk4 hk31
    have qL:decide ((0:Int) < (L:Int)) = true:=by rw [decide_eq_true_iff];omega
    have qL2:(0:Int) < (L:Int):=by omega
    have qr:(r:Int) < (L:Int):=by omega
    have qr0:(0:Int) ≤ (r:Int):=by omega
    have z1:¬ L = 0:=h0
    have z2:¬ (L:Int) = 0:=by omega
    have z3:¬ (L:Int) = -1:=by omega
    have z4:((L:Int) == 0) = false:=by rw [beq_eq_false_iff_ne];omega
    have e1:∀ [Inhabited Unit],(k:Int).tmod (L:Int) = (r:Int):=by intro _;rw [Int.tmod_eq_emod_of_nonneg (by omega),hr];rfl
    have e2:∀ [Inhabited Unit],(k:Int) % (L:Int) = (r:Int):=by intro _;rw [hr];rfl
    have e3:∀ [Inhabited Unit],IntKind.i64.wrap (r:Int) = (r:Int):=by intro _;rw [IntKind.wrap_i64];omega
    have hfz:=hO.out.frozenAt k
    have hcl:=hO.out.cellAt k (by omega)
    obtain ⟨vo,hvo⟩:∃ v,(plV Z n k)[k]? = some v:=⟨_,List.getElem?_eq_getElem (by rw [a8q HZL.out hk];exact hlt)⟩
    rw [hvo] at hcl
    have hst:=(hO.out.stored k (.int .u8 (toI (co Z k)))).1
    rw [a8r HZL.out hlt] at hst
    have hgs:=hO.out.lt (w1.heap.size) rfl
    have HST:=hJ_ hst
    have HBS:=hJ_ (hB.out.setCell (p:=⟨w1.heap.size,k,none⟩) (by have:=HGE.out;omega) (.int .u8 (toI (co Z k))))
    have HLT:=hJ_ hlt
    have hk1000:k ≤ 4000:=by have:=HN.out;omega
    rw [← HZK.out] at HST HBS
    clear hst hlt hk hvo hr hrL hbl h0 hgs
    go_wp2_with fail
    go_still_tail 16,(by kernel_rfl)
    go_wp2
    go_roundw
    case rel => exact ⟨k + 1,by have:=HLT.out;omega,by go_num,hJ_ (HST.out),hJ_ HBS.out.drew⟩
    case measure => simp [intOf];have:=HLT.out;omega
  ·obtain rfl:n = k:=by omega
   have ho:=hO.out
   rw [b0n HZL.out] at ho
   have HPO:=hJ_ (Pa.own2 ho)
   have HZE':=HZE
   clear ho hlt
   go_wp2
   go_ret
   exact ⟨_,rfl,by rw [← HZE.out];exact HPO.out,hB.out⟩
set_option maxHeartbeats 1000000 in
theorem b9y (a:Option Addr) (n c:Nat) (M:List (List GF)) (a2:Option Addr) (c2:Nat) (w:World) (hm:Mat w a n c M) (hm2:Mat w a2 n c2 M) :
 Calls Tryz.prog 13 #[.slice a n c,.slice a2 n c2] w fun e w' => e = .returned (.bool true) ∧ Below w.heap.size w w':=by
 have HM:=hJ_ hm
 have HO:=hJ_ hm2
 have hb1:=hm.bd
 have hb2:=hm2.bd
 have qn:((n:Int) != (n:Int)) = false:=by simp
 clear hm hm2
 go_enter Tryz.func13,Tryz.ntmps13
 go_wp2
 go_loopw [13] (fun j wr => ∃ i:Nat,i ≤ n ∧ j = .int .i64 (i:Nat) ∧ Hid (Below w.heap.size w wr))
  (fun j _ => n - (intOf j).toNat)
 case atStart => exact ⟨0,Nat.zero_le _,rfl,hJ_ (Below.refl _ _)⟩
 case round =>
  obtain ⟨i,hi,rfl,hB⟩:=hrel
  by_cases hlt:i < n
  ·obtain ⟨b,off,ai,ci,rfl,hb,hcell,hpa⟩:=HM.out.row hlt
   obtain ⟨b2,off2,a3,c3,rfl,hb2',hcell2,hpa2⟩:=HO.out.row hlt
   have hcr:∀ k,(wr.drewN k).cell? ⟨b,off + i,none⟩ = some (.slice ai (rw_ M i).length ci):=fun k => (hB.out.cell (p:=⟨b,off + i,none⟩) hb).trans hcell
   have hcr2:∀ k,(wr.drewN k).cell? ⟨b2,off2 + i,none⟩ = some (.slice a3 (rw_ M i).length c3):=fun k => (hB.out.cell (p:=⟨b2,off2 + i,none⟩) hb2').trans hcell2
   have hcv:∀ k,(convert 22 9 (.slice ai (rw_ M i).length ci)).run Tryz.prog (wr.drewN k) = .ok (.string (strOfNums (iL (rw_ M i)))) (wr.drewN k):=fun k => hpa.str_on rfl _ (below_drewN hB.out _)
   have hcv2:∀ k,(convert 22 9 (.slice a3 (rw_ M i).length c3)).run Tryz.prog (wr.drewN k) = .ok (.string (strOfNums (iL (rw_ M i)))) (wr.drewN k):=fun k => hpa2.str_on rfl _ (below_drewN hB.out _)
   have qi:(i:Int) < (n:Int):=by omega
   have qi0:(0:Int) ≤ (i:Int):=by omega
   clear hcell hcell2 hpa hpa2
   go_wp2_with fail
   go_quiet (fail)
   go_wp2
   go_roundw
   case rel => exact ⟨i + 1,by omega,by go_num,hJ_ (below_drewN hB.out _)⟩
   case measure => simp [intOf];omega
  ·obtain rfl:n = i:=by omega
   go_wp2
   go_ret
   exact ⟨rfl,hB.out⟩
def e12:List GF:=[toG 1,toG 2]
theorem b6h (w:World):Pa (w.alloc (.cells #[.int .u8 1,.int .u8 2] 5)) (some ⟨w.heap.size,0,none⟩) 2 2 e12:=by
 refine ⟨⟨rfl,a1e _,fun h0 => ⟨w.heap.size,0,rfl,by simp,fun j hj => ?_⟩,Nat.le_refl _,by unfold maxLen;omega⟩,fun e => by cases e⟩
 have:j < 2:=hj
 rcases (show j = 0 ∨ j = 1 by omega) with rfl | rfl <;> simp [iL,e12,a8x]
theorem d1e (w:World):Pa w none 0 0 []:=⟨⟨rfl,a1e _,fun h0 => absurd h0 (by simp [iL]),Nat.le_refl _,Nat.zero_le _⟩,fun _ => rfl⟩
theorem e6k (B:List GF) (x:GF) (hB:B.length = 440):shR 1 440 B [] x = B:=by
 refine a1i (by rw [a2e,hB]) fun k hk => ?_
 rw [a2e] at hk
 rw [b2h _ _ _ hk]
 show ev [co B k] x = co B k
 have h:=a4p [co B k] 0 x
 rw [List.drop_zero,a0c,show ([co B k]).drop (0 + 1) = [] from rfl,show ev [] x = 0 from rfl,GF.mul_zero,GF.add_zero] at h
 exact h
theorem row_one (B:List GF) (hB:B.length = 440) {N i:Nat} (h:i < N):rw_ (stR (qM 0 1 B []) N) i = B:=by
 rw [e9z,a1d h,c8w,e6k B _ hB]
set_option maxHeartbeats 2000000 in
theorem a7n (w:World):Calls Tryz.prog 7 #[] w fun e w' => e = .returned (.bool true) ∧ Below w.heap.size w w':=by
 have HS:=hJ_ (show Sh 0 1 2 0 by unfold Sh;omega)
 go_enter Tryz.func7,Tryz.ntmps7
 go_upto_region 2 with fail
 obtain ⟨w1,hw1⟩:∃ w1,w1 = w.alloc (.cells #[.int .i64 0,.int .i64 1,.int .i64 2,.int .i64 0] 25):=⟨_,rfl⟩
 have HX:=hJ_ (show Bx w1 w.heap.size 0 1 2 0 by rw [hw1];exact Bx.new w 0 1 2 0)
 have HB1:=hJ_ (show Below w.heap.size w w1 by rw [hw1];exact (Below.refl _ _).alloc (Nat.le_refl _) _)
 try rw [← hw1]
 clear hw1
 have y0:∀ W,Below w1.heap.size w1 W → W.cell? ⟨w.heap.size,0,none⟩ = some (.int .i64 0):=fun W hW => (HX.out.on hW).c0
 have y1:∀ W,Below w1.heap.size w1 W → W.cell? ⟨w.heap.size,1,none⟩ = some (.int .i64 1):=fun W hW => (HX.out.on hW).c1
 have y2:∀ W,Below w1.heap.size w1 W → W.cell? ⟨w.heap.size,2,none⟩ = some (.int .i64 2):=fun W hW => (HX.out.on hW).c2
 have y3:∀ W,Below w1.heap.size w1 W → W.cell? ⟨w.heap.size,3,none⟩ = some (.int .i64 0):=fun W hW => (HX.out.on hW).c3
 go_region_held (fun W => Below w1.heap.size w1 W) (first | assumption | exact (Below.refl _ _).drew | (refine Below.drew ?_;assumption) | exact Below.alloc hbw2 hbw2.size _ | exact (Below.refl _ _).drew.alloc (Nat.le_refl _) _ | exact (Below.refl _ _).alloc (Nat.le_refl _) _)
  (first
   | (go_at_call 11;go_loud (refine (b3p _).mono ?_;rintro e w2 ⟨bf,rfl,hbf,hfl,hb2⟩;have HF2:=hJ_ hfl;have HBB2:=hJ_ hb2;have hbw2:Below w1.heap.size w1 w2:=(by first | exact (Below.refl _ _).drew.trans hb2 | exact ((Below.refl _ _).drew.alloc (Nat.le_refl _) _).trans (hb2.mono (by simp)));clear hfl hb2))
   | (go_at_call 12;go_loud (refine (d8x _ 2 2 e12 _ (by first | exact b6h _ | exact (show Pa (w1.drew.alloc _) (some ⟨w1.heap.size,0,none⟩) 2 2 e12 from b6h w1.drew).on HBB2.out | exact (b6h w1).on HBB2.out) (by omega)).mono ?_;rintro e w3 ⟨g3,rfl,hp3,hb3⟩;have hbw3:Below w1.heap.size w1 w3:=(by first | exact hbw2.trans (hb3.mono hbw2.size) | exact (Below.alloc hbw2 hbw2.size _).trans (hb3.mono (by have:=hbw2.size;simp;omega)));have HF3:Hid (Fld w3 bf):=hJ_ (by first | exact HF2.out.below hb3 | exact (HF2.out.below ((Below.refl _ _).alloc (Nat.le_refl _) _)).below hb3);have HP3:=hJ_ hp3;have HSP:=hJ_ (e5l bf 1 2 0 (some ⟨g3,0,none⟩) 440 (b2q e12) none 0 0 [] w3 HS.out HF3.out HP3.out (d1e w3) rfl);clear hp3 hb3))
   | (go_at_call 10;go_loud (refine HSP.out.mono ?_;rintro e w4 ⟨a4,c4,rfl,hm,hb4⟩;have hbw4:Below w1.heap.size w1 w4:=hbw3.trans (hb4.mono hbw3.size);have HM4:=hJ_ hm;have HB4:=hJ_ (bt HB1.out hbw4);clear hm hb4)))
 all_goals
  clear y0 y1 y2 y3
  obtain ⟨b,off,ai,ci,rfl,hbl,hcell,hpa⟩:=HM4.out.mat.row (i:=1) (by omega)
  have hbd:=HM4.out.mat.bd
  rw [row_one (b2q e12) (b4z e12) (by omega)] at hpa hcell
  rw [b4z] at hpa hcell
  have hl:∀ W,Below w4.heap.size w4 W → W.cell? ⟨b,off + 1,none⟩ = some (.slice ai 440 ci):=fun W hW => (hW.cell (p:=⟨b,off + 1,none⟩) hbl).trans hcell
  have hv:=hpa.str_on rfl
  have HBK:=hJ_ (fun (W:World) (a:Option Addr) (hp:Pa W a 2 2 e12) => d8x a 2 2 e12 W hp (by omega))
  clear hpa hcell
  go_wp2_with fail
  go_region_held (fun W => Below w4.heap.size w4 W) (first | assumption | exact (Below.refl _ _).drew | (refine Below.drew ?_;assumption) | exact (Below.refl _ _).drew.alloc (Nat.le_refl _) _ | exact (Below.refl _ _).alloc (Nat.le_refl _) _ | exact ((Below.refl _ _).alloc (Nat.le_refl _) _).drew)
   (first
    | (go_at_call 12;go_loud (refine (HBK.out _ _ (by first | exact b6h _ | exact (b6h w4).on (Below.refl _ _).drew)).mono ?_;rintro e w5 ⟨g5,rfl,hp5,hb5⟩;have hbw5:Below w4.heap.size w4 w5:=(by first | exact ((Below.refl _ _).drew.alloc (Nat.le_refl _) _).trans (hb5.mono (by simp)) | exact ((Below.refl _ _).alloc (Nat.le_refl _) _).drew.trans (hb5.mono (by simp)));have hv5:=hp5.str_on rfl;have hrf5:=Below.refl w5.heap.size w5;have HB5:=hJ_ (bt HB4.out hbw5);clear hp5 hb5)))
  all_goals
   go_wp2
   go_ret
   exact ⟨rfl,HB5.out⟩
end Go.Proofs.YtappfdbmhgifcaaGreatDoor
namespace Go.Proofs.YtappfdbmhgifcaaGreatDoor
open Go.ChangeShapes Go.WideShapes Go.ChangeAt Go.RowKit
theorem e3o:Tryz.prog.globalNamed "largesse/hash.squareRoots" = some 0:=by kernel_rfl
theorem e5m:Tryz.prog.globalNamed "largesse/hash.cubeRoots" = some 1:=by kernel_rfl
theorem e3e:(Tryz.prog.globals[0]?).map (·.type) = some 117:=by kernel_rfl
theorem e3z:(Tryz.prog.globals[1]?).map (·.type) = some 116:=by kernel_rfl
def laid2:List (String × DataW Unit):=[("largesse/hash.squareRoots",Rows.laid_largesse_hash_squareRoots),("largesse/hash.cubeRoots",Rows.laid_largesse_hash_cubeRoots)]
theorem b0u {H:Type} {enc:TypeId × Value → H} {W:World} {base:Nat} {sp:Nat → Bool} {held:Bool} {f n:Nat} {t e:TypeId} {cs:Array Value} {L:List Int} {p:List MemPlace}
 (ht:Tryz.prog.underlying t = some (.array n e)) (he:Tryz.prog.underlying e = some (.int .u32)) (hce:Tryz.prog.cellsOf e = 1)
 (hd:DataW.trod enc Tryz.prog W base sp held f t cs.toList = some (.agg (L.map fun x => .lit (.int .u32 x)),p)) (j:Nat) (hj:j < n):cs[j]? = some (.int .u32 (L.getD j 0)):=by
 obtain ⟨xs,m1,rfl,hx,hlen,hn,hel⟩:=DataW.trod_array ht hd
 have h:=hel j hj
 rw [hce,Nat.mul_one,List.getElem?_eq_getElem (by omega)] at h
 obtain ⟨k,e1,e2,_⟩:=DataW.trod_int he h
 simp only [Prod.mk.injEq,DataW.agg.injEq] at hx
 have h1:=congrArg (fun l => l[j]?) hx.1
 simp only [List.getElem?_map,List.getElem?_eq_getElem (show j < xs.length by omega),Option.map_some,e2] at h1
 have h2:L[j]? = some k:=by
  rcases hL:L[j]? with _ | v
  ·rw [hL] at h1;simp at h1
  ·rw [hL] at h1
   simp at h1
   rw [h1]
 have h3:cs.toList[j]? = some (.int .u32 k):=by
  have:=congrArg (fun l => l[0]?) e1
  simpa using this
 rw [← Array.getElem?_toList,h3,List.getD_eq_getElem?_getD,h2]
 rfl
theorem gl_of_laid {W:World} (h:laidMetH Tryz.prog laid2 W):Gl W:=by
 rw [MakeChecks.laidMetH_plain _ _ _ (by kernel_rfl)] at h
 obtain ⟨ps,⟨g0,t0,cs0,f0,p0,q0,hg0,ht0,hv0,hd0,⟨g1,t1,cs1,f1,p1,q1,hg1,ht1,hv1,hd1,_,_⟩,_⟩,_,_⟩:=h
 obtain rfl:=Option.some.inj (e3o.symm.trans hg0)
 obtain rfl:=Option.some.inj (e5m.symm.trans hg1)
 obtain rfl:=Option.some.inj (e3e.symm.trans ht0)
 obtain rfl:=Option.some.inj (e3z.symm.trans ht1)
 have c0:∀ j,j < 8 → W.cell? ⟨0,j,none⟩ = some (gV HF0 j):=fun j hj => by
  rw [World.var?_cell hg0 hv0 j,b0u (L:=[1779033703,3144134277,1013904242,2773480762,1359893119,2600822924,528734635,1541459225]) Tryz.underlying117 Tryz.underlying115 (by kernel_rfl) hd0 j hj,e9i]
  unfold gV
  simp [List.getD_eq_getElem?_getD,hj]
 have c1:∀ j,j < 64 → W.cell? ⟨1,j,none⟩ = some (gV KF j):=fun j hj => by
  rw [World.var?_cell hg1 hv1 j,b0u (L:=(List.range 64).map (fun j => ((KF j:Nat):Int))) Tryz.underlying116 Tryz.underlying115 (by kernel_rfl) (by rw [← f0k];exact hd1) j hj]
  unfold gV
  simp [List.getD_eq_getElem?_getD,hj]
 refine ⟨?_,c0,c1⟩
 exact (show 1 < W.heap.size from block_lt_of_cell (c1 0 (by omega)))
end Go.Proofs.YtappfdbmhgifcaaGreatDoor
namespace Go.Proofs.YtappfdbmhgifcaaGreatDoor
open Go.ChangeShapes Go.WideShapes Go.ChangeAt Go.RowKit Go.Shelf GF
theorem c6t (w:World) (n:Nat) (hn:n ≤ 1000000):Pa (w.alloc (.cells (madeCells #[.int .u8 0] n) 5)) (some ⟨w.heap.size,0,none⟩) n n (noR n):=by
 have ho:=a1c (w:=w) (e:=5) (n:=n) (by unfold maxLen;omega)
 rw [show List.replicate n (0:Int) = iL (noR n) by unfold noR iL;rw [List.map_replicate];rfl] at ho
 exact a2h ho
theorem c3k (w:World) (v:Value) (e:TypeId):∀ j u,[v][j]? = some u → (w.alloc (.cells #[v] e)).cell? ((⟨w.heap.size,0,none⟩:Addr).add j) = some u:=fun j u hu => by
 rcases j with _ | j
 ·have:v = u:=by simpa using hu
  subst this
  simp [Addr.add]
 ·simp at hu
theorem c3e (w:World) (v:Value) (e:TypeId) (H:Nat) (hH:w.heap.size = H):∀ j u,[v][j]? = some u → (w.alloc (.cells #[v] e)).cell? ((⟨H,0,none⟩:Addr).add j) = some u:=by
 subst hH
 exact c3k w v e
theorem d3f (k:Nat):zl (upN (k + 1)) = zl (upN k) ++ [((k + 1:Nat):Int)]:=by simp [zl,upN,List.range_succ]
theorem b5n {w:World} {base size n:Nat} {e:TypeId} {v:Value} {vs:List Value} (h:w.ownsRow base e size v n vs):∃ a c,v = .slice a n c:=by
 rcases h.2 with ⟨e1,e2⟩ | ⟨g,c,cur,e1,_⟩
 ·exact ⟨none,0,by rw [e1,e2]⟩
 ·exact ⟨_,c,e1⟩
theorem Mat.ownS17 {w:World} {base n c:Nat} {e:TypeId} {a:Option Addr} {vs:List Value} {ok:Nat → Prop} {M:List (List GF)} (h:w.ownsRow base e 1 (.slice a n c) n vs) (hv:RV w ok vs M):Mat w a n c M:=by
 obtain ⟨a',c',e,hi⟩:=Mat.own h hv
 cases e;exact hi
theorem d0j {N:Nat} (hN:N ≤ 255):Apart (gZ (zl (upN N))):=by
 rw [b5c]
 intro i j hi hj e
 have hi':i < (plc N).length:=hi
 have hn:=b6k hN
 unfold List.Nodup at hn
 rw [List.pairwise_iff_getElem] at hn
 refine hn j i (by omega) hi' hj ?_
 rw [← a5i (by omega),← a5i hi']
 exact e.symm
end Go.Proofs.YtappfdbmhgifcaaGreatDoor
