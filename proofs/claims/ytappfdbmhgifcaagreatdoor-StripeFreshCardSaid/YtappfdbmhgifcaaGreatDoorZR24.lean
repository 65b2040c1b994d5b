/- Texts of mine, one behind the other: Kz. -/
import Derived.Test.YtappfdbmhgifcaaGreatDoorZR23
set_option linter.unusedVariables false
set_option linter.unusedSimpArgs false
set_option maxRecDepth 100000
namespace Go.Proofs.YtappfdbmhgifcaaGreatDoor
open Go.ChangeShapes Go.WideShapes Go.ChangeAt Go.RowKit
section
attribute [local go_sem ↓] Go.wp_at_zero Go.wp_at_succ
theorem a3h {S T:Nat → Nat → Nat}:∀ i,(∀ j,j < i → S j = T j) → a2i S i = a2i T i
 | 0,_ => rfl
 | i + 1,h => by rw [a2i,a2i,a3h i (fun j hj => h j (by omega)),h i (by omega)]
theorem d1c {l:List Int} {n:Nat} (hl:l.length = 4 * n) (hA:a0z l):a2i (kw l) n = l:=by
 refine a0x (by rw [a0p,hl]) (fun i hi => ?_)
 rw [a0p] at hi
 have h:=a2f (kw l) (c:=i / 4) (r:=i % 4) (by omega) n (by omega)
 rw [show 4 * (i / 4) + i % 4 = i by omega] at h
 rw [h]
 unfold kw
 rw [show 4 * (i / 4) + i % 4 = i by omega]
 have:=a0g hA i
 omega
def Four (w:World) (b:Nat) (f:Nat → Nat):Prop:=b < w.heap.size ∧ ∀ r,r < 4 → w.cell? ⟨b,r,none⟩ = some (.int .u8 ((f r:Nat):Int))
theorem Four.on {w w':World} {b:Nat} {f:Nat → Nat} (h:Four w b f) (hb:Below w.heap.size w w'):Four w' b f:=⟨Nat.lt_of_lt_of_le h.1 hb.size,fun r hr => (hb.cell (p:=⟨b,r,none⟩) h.1).trans (h.2 r hr)⟩
theorem b1j (w:World) (f:Nat → Nat) (T:TypeId):Four (w.alloc (.cells #[.int .u8 ((f 0:Nat):Int),.int .u8 ((f 1:Nat):Int),.int .u8 ((f 2:Nat):Int),.int .u8 ((f 3:Nat):Int)] T)) w.heap.size f:=by
 refine ⟨by simp,fun r hr => ?_⟩
 rw [cell_of_row _ _ r _ T _ (heap_alloc_new _ _)]
 rcases lt4 hr with rfl | rfl | rfl | rfl <;> rfl
theorem d6g {n i:Nat} (hn:0 < n) (hi:n ≤ i):i / n = if i % n = 0 then (i - 1) / n + 1 else (i - 1) / n:=by
 obtain ⟨q,r,hr,rfl⟩:∃ q r,r < n ∧ i = n * q + r:=⟨i / n,i % n,Nat.mod_lt _ hn,(Nat.div_add_mod i n).symm⟩
 have e1:(n * q + r) / n = q:=by rw [Nat.mul_add_div hn,Nat.div_eq_of_lt hr];omega
 have e2:(n * q + r) % n = r:=by rw [Nat.mul_add_mod];exact Nat.mod_eq_of_lt hr
 rw [e1,e2]
 by_cases h0:r = 0
 ·subst h0
  rw [if_pos rfl]
  have hq:1 ≤ q:=by
   rcases Nat.eq_zero_or_pos q with h | h
   ·subst h;omega
   ·exact h
  obtain ⟨p,rfl⟩:∃ p,q = p + 1:=⟨q - 1,by omega⟩
  have e3:n * (p + 1) + 0 - 1 = n * p + (n - 1):=by rw [Nat.mul_add,Nat.mul_one];omega
  rw [e3,Nat.mul_add_div hn,Nat.div_eq_of_lt (show n - 1 < n by omega)]
 ·rw [if_neg h0,show n * q + r - 1 = n * q + (r - 1) by omega,Nat.mul_add_div hn,Nat.div_eq_of_lt (show r - 1 < n by omega)]
  omega
theorem a3q (C:Nat → Nat) {k:Nat} (hk:k < 4):(a7b C).take (k + 1) = (a7b C).take k ++ [((C k:Nat):Int)]:=by
 rcases lt4 hk with rfl | rfl | rfl | rfl <;> rfl
set_option maxHeartbeats 8000000 in
theorem b7z (a:Option Addr) (L c n:Nat) (l:List Int) (w:World) (hx:a1l w a L c l) (hn:n = 4 ∨ n = 8) (hL:L = 4 * n) :
 Calls Tryz.prog 86 #[.slice a L c] w fun e w' => ∃ g cap,e = .returned (.slice (some ⟨g,0,none⟩) (16 * (n + 7)) cap) ∧
  w'.ownsRow w.heap.size 5 1 (.slice (some ⟨g,0,none⟩) (16 * (n + 7)) cap) (16 * (n + 7)) ((a2i (kx n (kw l) (3 * n + 28)) (4 * (n + 7))).map (Value.int .u8)) ∧ Below w.heap.size w w':=by
 have hl:=hx.1
 have hK:=b9j hx.2.1
 have hlk:=d1c (n:=n) (by rw [hl,hL]) hx.2.1
 have hcap:L ≤ c ∧ c ≤ 9223372036854775807:=⟨hx.2.2.2.1,by have:=hx.2.2.2.2;unfold maxLen at this;omega⟩
 have HX:=hJ_ hx
 have HLK:=hJ_ hlk
 have HLL:=hJ_ hl
 obtain ⟨K,hKK⟩:∃ K,K = kw l:=⟨_,rfl⟩
 rw [← hKK] at hK HLK ⊢
 have HKB:=hJ_ hK
 have HN:=hJ_ hn
 have HLn:=hJ_ hL
 have hn1:4 ≤ n:=by omega
 have hn2:n ≤ 8:=by omega
 have qn1:(4:Int) ≤ (n:Int):=by omega
 have qn2:(n:Int) ≤ 8:=by omega
 have qL:(L:Int) / 4 = (n:Int):=by omega
 have qL0:(0:Int) ≤ (L:Int):=by omega
 have qL1:(L:Int) ≤ 32:=by omega
 have hLc:L ≤ 32:=by omega
 obtain ⟨i5,HI⟩:∃ i5:TypeInfo,Hid (Tryz.prog.info? 5 = some i5 ∧ i5.zero = some (.int .u8 0) ∧ i5.size = 1 ∧ i5.bytes = 1):=⟨_,hJ_ ⟨rfl,rfl,rfl,rfl⟩⟩
 clear hx hl hlk hKK hK hn hL
 go_enter Tryz.func86,Tryz.ntmps86
 go_wp2_with ((with_reducible show wpList _ _ _ (⟨some 14,_,_,_,_,_⟩ :: _) _ _);go_loud (refine a0u _ rfl (.tmp 12) (.tmp 13) 22 rfl w.heap.size 5 i5 Tryz.underlying22 HI.out.1 HI.out.2.1 HI.out.2.2.1 HI.out.2.2.2 _ 0 [] rfl (b1u w _) a L c w.heap.size l rfl (HX.out.2.2.1.below ((Below.refl _ _).alloc (Nat.le_refl _) _)) HLL.out (fun e => by have:=HX.out.2.2.1 (by have:=HLL.out;omega);obtain ⟨_,_,e2,_⟩:=this;rw [e] at e2;cases e2) (by omega) (by simp) ?_);intro v1 w1 ho1 hg1;rw [Nat.zero_add,List.nil_append] at ho1;have hb1:Below w.heap.size w w1:=((Below.refl w.heap.size w).alloc (Nat.le_refl _) _).grown hg1 (by simp) (a6f w.heap.size 0 0);have HO1:=hJ_ ho1;have HB1:=hJ_ hb1;clear ho1 hg1 hb1;obtain ⟨g1,c1,rfl,_⟩:=HO1.out.form (by omega))
 rw [HLn.out] at HO1 ⊢
 go_loopw [4,5,6] (fun v p q wr => ∃ m g cap:Nat,m ≤ 3 * n + 28 ∧ q = .int .i64 ((n + m:Nat):Int) ∧ p = .int .u8 ((pwr 2 ((n + m - 1) / n):Nat):Int) ∧ v = .slice (some ⟨g,0,none⟩) (4 * (n + m)) cap ∧ wr.ownsRow w.heap.size 5 1 (.slice (some ⟨g,0,none⟩) (4 * (n + m)) cap) (4 * (n + m)) ((a2i (kx n K m) (n + m)).map (Value.int .u8)) ∧ Below w.heap.size w wr) (fun _ _ q _ => 4 * (n + 7) - (intOf q).toNat)
 case atStart => exact ⟨0,g1,c1,by omega,rfl,by rw [show (n + 0 - 1) / n = 0 from Nat.div_eq_of_lt (by omega),c0s];rfl,rfl,by rw [show a2i (kx n K 0) (n + 0) = l from HLK.out];exact HO1.out,HB1.out⟩
 case round =>
  obtain ⟨m,g,cap,hm,rfl,rfl,rfl,hO,hB⟩:=hrel
  rename World => wr
  have HO:=hJ_ hO
  have HB:=hJ_ hB
  clear hO hB HB1 HO1
  by_cases hlt:m < 3 * n + 28
  ·have hcg:4 * (n + m) ≤ cap:=(a2w HO.out).2.1
   have HC:=hJ_ (show ∀ j r,j < n + m → r < 4 → wr.cell? ⟨g,4 * j + r,none⟩ = some (.int .u8 ((kx n K m j r:Nat):Int)) from fun j r hj hr => by
    have h:=a0h HO.out (4 * j + r) (by omega)
    rw [Nat.zero_add,a2f _ hr _ hj] at h
    exact h)
   obtain ⟨i,hi⟩:∃ i,i = n + m:=⟨_,rfl⟩
   have hc0:=HC.out (i - 1) 0 (by omega) (by omega)
   have hc1:=HC.out (i - 1) 1 (by omega) (by omega)
   have hc2:=HC.out (i - 1) 2 (by omega) (by omega)
   have hc3:=HC.out (i - 1) 3 (by omega) (by omega)
   obtain ⟨f,hf⟩:∃ f,f = kx n K m (i - 1):=⟨_,rfl⟩
   rw [← hf] at hc0 hc1 hc2 hc3
   have HFB:=hJ_ (show ∀ r,f r < 256 from fun r => by rw [hf];exact b2l n HKB.out m _ r)
   have HF:=hJ_ hf
   obtain ⟨P,hP⟩:∃ P,P = pwr 2 ((n + m - 1) / n):=⟨_,rfl⟩
   have HP:=hJ_ hP
   have hPl:P < 256:=by rw [hP];exact c7h _ _
   rw [← hP]
   clear hf hP
   obtain ⟨p0,hp0⟩:∃ p,p = 4 * (i - 1):=⟨_,rfl⟩
   obtain ⟨p1,hp1⟩:∃ p,p = 4 * (i - 1) + 1:=⟨_,rfl⟩
   obtain ⟨p2,hp2⟩:∃ p,p = 4 * (i - 1) + 2:=⟨_,rfl⟩
   obtain ⟨p3,hp3⟩:∃ p,p = 4 * (i - 1) + 3:=⟨_,rfl⟩
   obtain ⟨N4,hN4⟩:∃ p,p = 4 * i:=⟨_,rfl⟩
   rw [Nat.add_zero,← hp0] at hc0
   rw [← hp1] at hc1
   rw [← hp2] at hc2
   rw [← hp3] at hc3
   rw [← hi] at HO hcg ⊢
   rw [← hN4] at HO hcg ⊢
   have qi:(i:Int) < 4 * ((n:Int) + 7):=by omega
   have qi0:(4:Int) ≤ (i:Int):=by omega
   have qi1:(i:Int) ≤ 60:=by omega
   have s0:4 * (i:Int) = (N4:Int):=by omega
   have s1:IntKind.i64.wrap (N4:Int) = (N4:Int):=IntWalk.i64_in _ (by omega)
   have t0:(N4:Int) - 4 = (p0:Int):=by omega
   have t1:(N4:Int) - 3 = (p1:Int):=by omega
   have t2:(N4:Int) - 2 = (p2:Int):=by omega
   have t3:(N4:Int) - 1 = (p3:Int):=by omega
   have u0:IntKind.i64.wrap (p0:Int) = (p0:Int):=IntWalk.i64_in _ (by omega)
   have u1:IntKind.i64.wrap (p1:Int) = (p1:Int):=IntWalk.i64_in _ (by omega)
   have u2:IntKind.i64.wrap (p2:Int) = (p2:Int):=IntWalk.i64_in _ (by omega)
   have u3:IntKind.i64.wrap (p3:Int) = (p3:Int):=IntWalk.i64_in _ (by omega)
   have v0:(p0:Int) < (N4:Int):=by omega
   have v1:(p1:Int) < (N4:Int):=by omega
   have v2:(p2:Int) < (N4:Int):=by omega
   have v3:(p3:Int) < (N4:Int):=by omega
   have HII:=hJ_ hi
   have HLT:=hJ_ hlt
   have HN4:=hJ_ hN4
   have HM:=hJ_ hm
   clear hi hlt hN4 hm hp0 hp1 hp2 hp3
   go_upto_region 7 with fail
   go_wp2_with fail
   go_still_tail 24,(by kernel_rfl)
   go_upto_region 8 with fail
   clear hc0 hc1 hc2 hc3 s0 s1 t0 t1 t2 t3 u0 u1 u2 u3 v0 v1 v2 v3
   obtain ⟨V7,hV7⟩:∃ V,V = (wr.alloc (.cells #[.int .u8 ((f 0:Nat):Int),.int .u8 ((f 1:Nat):Int),.int .u8 ((f 2:Nat):Int),.int .u8 ((f 3:Nat):Int)] 5)).drew:=⟨_,rfl⟩
   have HT7:=hJ_ (show Four V7 wr.heap.size f by rw [hV7];exact b1j wr f _)
   have HB7:=hJ_ (show Below wr.heap.size wr V7 by rw [hV7];exact ((Below.refl _ _).alloc (Nat.le_refl _) _).drew)
   obtain ⟨gt,hgt⟩:∃ b,b = wr.heap.size:=⟨_,rfl⟩
   have HGT:=hJ_ hgt
   rw [← hV7,← hgt]
   rw [← hgt] at HT7
   clear hV7 hgt
   by_cases hr:i % n = 0
   ·have qr:(i:Int).tmod (n:Int) = 0:=by rw [Int.tmod_eq_emod_of_nonneg (by omega),show ((i:Int) % (n:Int)) = ((i % n:Nat):Int) from rfl,hr];rfl
    have HR:=hJ_ hr
    have HP2:=hJ_ (show P = pwr 2 (i / n - 1) by
     rw [HP.out,← HII.out]
     have h:=d6g (n:=n) (i:=i) (by omega) (by have:=HII.out;omega)
     rw [if_pos HR.out] at h
     congr 1
     rw [h,Nat.add_sub_cancel])
    clear hr
    have hb1:=a2t (f 1)
    have hxr:=u8_xor_nat (box (f 1)) P (a2t _) hPl
    go_upto_region 9 with fail
    go_wp2_with fail
    refine wp_region_held_drew (S:=fun U => Below V7.heap.size V7 U) (by kernel_rfl) (Below.refl _ _).drew (fun hHeld => ?_)
    refine tk 0 ⟨some 52,.move (.tmp 7),22,"ref.go:25",#[],none⟩ hHeld ?_
    try simp only [Act.put,p1',p2',p3']
    refine tk 1 ⟨some 53,.indexAddr 22 (.tmp 52) (.const (.int .i64 1)),0,"ref.go:25",#[⟨0,.data⟩],none⟩ hHeld ?_
    try simp only [Act.put,p1',p2',p3']
    refine tk 2 ⟨some 54,.load 5 (.tmp 53),5,"ref.go:25",#[⟨1,.data⟩],none⟩ hHeld ?rest2x3 (v:=?v2x3) (hy:=?hy2x3)
    case hy2x3 =>
     intro W' hV
     try dsimp only at hV
     have hct:=(hV.cell (p:=⟨gt,1,none⟩) HT7.out.1).trans (HT7.out.2 1 (by omega))
     go_simp
     all_goals with_reducible rfl
    case' rest2x3 => try simp only [Act.put,p1',p2',p3']
    refine tk 4 ⟨some 56,.move (.tmp 5),5,"ref.go:25",#[],none⟩ hHeld ?_
    try simp only [Act.put,p1',p2',p3']
    refine tk 6 ⟨some 58,.move (.tmp 7),22,"ref.go:25",#[],none⟩ hHeld ?_
    try simp only [Act.put,p1',p2',p3']
    refine tk 7 ⟨some 59,.indexAddr 22 (.tmp 58) (.const (.int .i64 2)),0,"ref.go:25",#[⟨6,.data⟩],none⟩ hHeld ?_
    try simp only [Act.put,p1',p2',p3']
    refine tk 8 ⟨some 60,.load 5 (.tmp 59),5,"ref.go:25",#[⟨7,.data⟩],none⟩ hHeld ?rest8x7 (v:=?v8x7) (hy:=?hy8x7)
    case hy8x7 =>
     intro W' hV
     try dsimp only at hV
     have hct:=(hV.cell (p:=⟨gt,2,none⟩) HT7.out.1).trans (HT7.out.2 2 (by omega))
     go_simp
     all_goals with_reducible rfl
    case' rest8x7 => try simp only [Act.put,p1',p2',p3']
    refine tk 10 ⟨some 62,.move (.tmp 7),22,"ref.go:25",#[],none⟩ hHeld ?_
    try simp only [Act.put,p1',p2',p3']
    refine tk 11 ⟨some 63,.indexAddr 22 (.tmp 62) (.const (.int .i64 3)),0,"ref.go:25",#[⟨10,.data⟩],none⟩ hHeld ?_
    try simp only [Act.put,p1',p2',p3']
    refine tk 12 ⟨some 64,.load 5 (.tmp 63),5,"ref.go:25",#[⟨11,.data⟩],none⟩ hHeld ?rest12x10 (v:=?v12x10) (hy:=?hy12x10)
    case hy12x10 =>
     intro W' hV
     try dsimp only at hV
     have hct:=(hV.cell (p:=⟨gt,3,none⟩) HT7.out.1).trans (HT7.out.2 3 (by omega))
     go_simp
     all_goals with_reducible rfl
    case' rest12x10 => try simp only [Act.put,p1',p2',p3']
    refine tk 14 ⟨some 66,.move (.tmp 7),22,"ref.go:25",#[],none⟩ hHeld ?_
    try simp only [Act.put,p1',p2',p3']
    refine tk 15 ⟨some 67,.indexAddr 22 (.tmp 66) (.const (.int .i64 0)),0,"ref.go:25",#[⟨14,.data⟩],none⟩ hHeld ?_
    try simp only [Act.put,p1',p2',p3']
    refine tk 16 ⟨some 68,.load 5 (.tmp 67),5,"ref.go:25",#[⟨15,.data⟩],none⟩ hHeld ?rest16x13 (v:=?v16x13) (hy:=?hy16x13)
    case hy16x13 =>
     intro W' hV
     try dsimp only at hV
     have hct:=(hV.cell (p:=⟨gt,0,none⟩) HT7.out.1).trans (HT7.out.2 0 (by omega))
     go_simp
     all_goals with_reducible rfl
    case' rest16x13 => try simp only [Act.put,p1',p2',p3']
    refine wpAnyH_ready (rs:=[3]) (by kernel_rfl) (by simp) ?_
    refine AllReadyH.cons (o:=⟨some 55,.call { callee:=.value (.func 87),args:=#[.tmp 54],argTypes:=#[5] },5,"ref.go:25",#[⟨2,.data⟩],none⟩) rfl (fun K' hK => ?_) AllReadyH.nil
    rw [if_pos (by rfl)]
    go_simp
    go_wp2_with (go_at_call 87;(with_reducible refine (a3b (f 1) (HFB.out 1) _).mono ?_);rintro e wx0 ⟨rfl,nx0,rfl⟩)
    refine hK.out _ _ (below_drewN (Below.refl _ _) _) (fun hHeld1 => ?_)
    clear hK K' hHeld
    have hHeld:=hHeld1
    clear hHeld1
    try simp only [Act.put,p1',p2',p3']
    refine tk 5 ⟨some 57,.binOp .xor 5 (.tmp 55) (.tmp 56) 5,5,"ref.go:25",#[⟨3,.data⟩,⟨4,.data⟩],none⟩ hHeld ?_
    try simp only [Act.put,p1',p2',p3']
    refine wpAnyH_ready (rs:=[9]) (by kernel_rfl) (by simp) ?_
    refine AllReadyH.cons (o:=⟨some 61,.call { callee:=.value (.func 87),args:=#[.tmp 60],argTypes:=#[5] },5,"ref.go:25",#[⟨8,.data⟩,⟨3,.chain⟩],none⟩) rfl (fun K' hK => ?_) AllReadyH.nil
    rw [if_pos (by rfl)]
    go_simp
    go_wp2_with (go_at_call 87;(with_reducible refine (a3b (f 2) (HFB.out 2) _).mono ?_);rintro e wx1 ⟨rfl,nx1,rfl⟩)
    refine hK.out _ _ (below_drewN (Below.refl _ _) _) (fun hHeld1 => ?_)
    clear hK K' hHeld
    have hHeld:=hHeld1
    clear hHeld1
    try simp only [Act.put,p1',p2',p3']
    refine wpAnyH_ready (rs:=[13]) (by kernel_rfl) (by simp) ?_
    refine AllReadyH.cons (o:=⟨some 65,.call { callee:=.value (.func 87),args:=#[.tmp 64],argTypes:=#[5] },5,"ref.go:25",#[⟨12,.data⟩,⟨9,.chain⟩],none⟩) rfl (fun K' hK => ?_) AllReadyH.nil
    rw [if_pos (by rfl)]
    go_simp
    go_wp2_with (go_at_call 87;(with_reducible refine (a3b (f 3) (HFB.out 3) _).mono ?_);rintro e wx2 ⟨rfl,nx2,rfl⟩)
    refine hK.out _ _ (below_drewN (Below.refl _ _) _) (fun hHeld1 => ?_)
    clear hK K' hHeld
    have hHeld:=hHeld1
    clear hHeld1
    try simp only [Act.put,p1',p2',p3']
    refine wpAnyH_ready (rs:=[17]) (by kernel_rfl) (by simp) ?_
    refine AllReadyH.cons (o:=⟨some 69,.call { callee:=.value (.func 87),args:=#[.tmp 68],argTypes:=#[5] },5,"ref.go:25",#[⟨16,.data⟩,⟨13,.chain⟩],none⟩) rfl (fun K' hK => ?_) AllReadyH.nil
    rw [if_pos (by rfl)]
    go_simp
    go_wp2_with (go_at_call 87;(with_reducible refine (a3b (f 0) (HFB.out 0) _).mono ?_);rintro e wx3 ⟨rfl,nx3,rfl⟩)
    refine hK.out _ _ (below_drewN (Below.refl _ _) _) (fun hHeld1 => ?_)
    clear hK K' hHeld
    have hHeld:=hHeld1
    clear hHeld1
    try simp only [Act.put,p1',p2',p3']
    refine wpAnyH_ready (rs:=[18]) (by kernel_rfl) (by simp) ?_
    refine AllReadyH.cons (o:=⟨some 70,.buildSlice 22 4 #[(0,.tmp 57),(1,.tmp 61),(2,.tmp 65),(3,.tmp 69)],22,"ref.go:25",#[⟨5,.data⟩,⟨9,.data⟩,⟨13,.data⟩,⟨17,.data⟩],none⟩) rfl (fun K' hK => ?_) AllReadyH.nil
    rw [if_pos (by rfl)]
    go_simp
    refine hK.out _ _ (hHeld.alloc hHeld.size _) (fun hHeld1 => ?_)
    clear hK K' hHeld
    have hHeld:=hHeld1
    clear hHeld1
    try simp only [Act.put,p1',p2',p3']
    refine tk 19 ⟨some 7,.assign (.tmp 70),22,"ref.go:25",#[⟨18,.data⟩,⟨17,.chain⟩,⟨0,.phase⟩,⟨1,.phase⟩,⟨2,.phase⟩,⟨3,.phase⟩,⟨4,.phase⟩,⟨5,.phase⟩,⟨6,.phase⟩,⟨7,.phase⟩,⟨8,.phase⟩,⟨9,.phase⟩,⟨10,.phase⟩,⟨11,.phase⟩,⟨12,.phase⟩,⟨13,.phase⟩,⟨14,.phase⟩,⟨15,.phase⟩,⟨16,.phase⟩,⟨17,.phase⟩,⟨18,.phase⟩],none⟩ hHeld ?_
    try simp only [Act.put,p1',p2',p3']
    refine wpAnyH_done (by kernel_rfl) ?_ _
    clear hHeld
    obtain ⟨VV,hVV⟩:∃ V,V = (V7.drewN (1 + nx0 + nx1 + nx2 + nx3)).alloc (.cells #[.int .u8 ((box (f 1) ^^^ P:Nat):Int),.int .u8 ((box (f 2):Nat):Int),.int .u8 ((box (f 3):Nat):Int),.int .u8 ((box (f 0):Nat):Int)] 5):=⟨_,rfl⟩
    have HFV:=hJ_ (show Four VV V7.heap.size (tmp n i f) by
     rw [hVV]
     have h:=b1j ((V7.drewN (1 + nx0 + nx1 + nx2 + nx3))) (tmp n i f) 5
     have e0:tmp n i f 0 = box (f 1) ^^^ P:=by unfold tmp;rw [if_pos HR.out,if_pos rfl,← HP2.out]
     have e1:tmp n i f 1 = box (f 2):=by unfold tmp;rw [if_pos HR.out,if_neg (by omega),Nat.xor_zero]
     have e2:tmp n i f 2 = box (f 3):=by unfold tmp;rw [if_pos HR.out,if_neg (by omega),Nat.xor_zero]
     have e3:tmp n i f 3 = box (f 0):=by unfold tmp;rw [if_pos HR.out,if_neg (by omega),Nat.xor_zero]
     rw [e0,e1,e2,e3] at h
     exact h)
    have HBV:=hJ_ (show Below wr.heap.size wr VV by rw [hVV];exact bt HB7.out ((below_drewN (Below.refl _ _) _).alloc (Nat.le_refl _) _))
    have hgq:wr.heap.size ≤ V7.heap.size:=HB7.out.size
    obtain ⟨gq,hgqe⟩:∃ b,b = V7.heap.size:=⟨_,rfl⟩
    rw [← hVV,← hgqe]
    rw [← hgqe] at HFV hgq
    clear hVV hgqe hxr hb1 qr
    have HPV:=hJ_ (show gm P 2 = pwr 2 (i / n) by
     rw [HP2.out,d0z (by omega)]
     congr 1
     have:1 ≤ i / n:=(Nat.one_le_div_iff (by omega)).2 (by have:=HII.out;omega)
     omega)
    have hPVl:=a7k P 2
    have HMU:=hJ_ (show ∀ W:World,Calls Tryz.prog 88 #[.int .u8 ((P:Nat):Int),.int .u8 2] W (fun e w' => e = .returned (.int .u8 ((gm P 2:Nat):Int)) ∧ W = w') from fun W => a6j P 2 hPl (by omega) W)
    obtain ⟨PV,hPV⟩:∃ p,p = gm P 2:=⟨_,rfl⟩
    rw [← hPV] at HPV hPVl HMU
    clear hPV
    go_upto_region 13 with (go_at_call 88;(with_reducible refine (HMU.out _).mono ?_);rintro e w10 ⟨rfl,rfl⟩)
    have HOV:=hJ_ (a0y HO.out HBV.out)
    have HWV:=hJ_ (HB.out.trans (HBV.out.mono HB.out.size))
    have HGQ:=hJ_ (show g ≠ gq by have:=(a2w HO.out).2.2.2.2;omega)
    have HTB:=hJ_ (fun r => a6d n i HFB.out r)
    obtain ⟨T,hT⟩:∃ T,T = tmp n i f:=⟨_,rfl⟩
    have HTE:=hJ_ hT
    rw [← hT] at HFV HTB
    obtain ⟨C,hC⟩:∃ C:Nat → Nat,C = fun r => kx n K m m r ^^^ T r:=⟨_,rfl⟩
    have HCE:=hJ_ hC
    have HCK:=hJ_ (b2l n HKB.out m m)
    have qm:(i:Int) - (n:Int) = (m:Int):=by have:=HII.out;omega
    have qmb:(m:Int) ≤ 52:=by have:=HII.out;omega
    have qm0:(0:Int) ≤ (m:Int):=by omega
    have HI4:=hJ_ (show 4 * m + 4 ≤ N4 by have:=HII.out;have:=HN4.out;omega)
    have HN5:=hJ_ (show N4 ≤ 240 by have:=HN4.out;omega)
    clear hT hC hgq
    go_wp2_with fail
    go_loopw [4,8] (fun v q U => ∃ k g2 cap2:Nat,k ≤ 4 ∧ q = .int .i64 (k:Nat) ∧ v = .slice (some ⟨g2,0,none⟩) (N4 + k) cap2 ∧ U.ownsRow w.heap.size 5 1 (.slice (some ⟨g2,0,none⟩) (N4 + k) cap2) (N4 + k) ((a2i (kx n K m) i ++ (a7b C).take k).map (Value.int .u8)) ∧ Four U gq T ∧ g2 ≠ gq ∧ Below w.heap.size w U) (fun _ q _ => 4 - (intOf q).toNat)
    case atStart => exact ⟨0,g,cap,by omega,rfl,rfl,by rw [List.take_zero,List.append_nil];exact HOV.out,HFV.out,HGQ.out,HWV.out⟩
    case round =>
     obtain ⟨k,g2,cap2,hk,rfl,rfl,hO2,hF2,hg2,hB2⟩:=hrel
     rename World => U
     have HO2:=hJ_ hO2
     have HF2:=hJ_ hF2
     have HG2:=hJ_ hg2
     have HB2:=hJ_ hB2
     clear hO2 hF2 hg2 hB2
     by_cases hlt4:k < 4
     ·have hcw:U.cell? ⟨g2,4 * m + k,none⟩ = some (.int .u8 ((kx n K m m k:Nat):Int)):=by
       have h:=a0h HO2.out (4 * m + k) (by have:=HI4.out;omega)
       rw [Nat.zero_add,List.getD_eq_getElem?_getD,List.getElem?_append_left (by rw [a0p];have:=HI4.out;have:=HN4.out;omega),← List.getD_eq_getElem?_getD,a2f _ hlt4 _ (by have:=HII.out;omega)] at h
       exact h
      have hct:=HF2.out.2 k hlt4
      have hxr:=u8_xor_nat (kx n K m m k) (T k) (HCK.out k) (HTB.out k)
      have HCV:=hJ_ (show kx n K m m k ^^^ T k = C k by rw [HCE.out])
      obtain ⟨A,hA⟩:∃ A,A = kx n K m m k:=⟨_,rfl⟩
      obtain ⟨B,hB⟩:∃ B,B = T k:=⟨_,rfl⟩
      rw [← hA] at hcw hxr HCV
      rw [← hB] at hct hxr HCV
      rw [HCV.out] at hxr
      obtain ⟨Z,hZ⟩:∃ Z,Z = C k:=⟨_,rfl⟩
      have HZ:=hJ_ hZ
      rw [← hZ] at hxr
      obtain ⟨q0,hq0⟩:∃ q0,q0 = 4 * m + k:=⟨_,rfl⟩
      obtain ⟨m4,hm4⟩:∃ m4,m4 = 4 * m:=⟨_,rfl⟩
      obtain ⟨Lk,hLk⟩:∃ Lk,Lk = N4 + k:=⟨_,rfl⟩
      rw [← hq0] at hcw
      rw [← hLk] at HO2 ⊢
      have x0:4 * (m:Int) = (m4:Int):=by omega
      have x1:(m4:Int) + (k:Int) = (q0:Int):=by omega
      have y0:IntKind.i64.wrap (m:Int) = (m:Int):=IntWalk.i64_in _ (by omega)
      have y1:IntKind.i64.wrap (m4:Int) = (m4:Int):=IntWalk.i64_in _ (by omega)
      have y2:IntKind.i64.wrap (q0:Int) = (q0:Int):=IntWalk.i64_in _ (by omega)
      have z0:(q0:Int) < (Lk:Int):=by have:=HI4.out;omega
      have z1:(0:Int) ≤ (q0:Int):=by omega
      have z2:(k:Int) < 4:=by omega
      have z3:(0:Int) ≤ (k:Int):=by omega
      have HLK2:=hJ_ hLk
      have HK4:=hJ_ hlt4
      clear hA hB hZ hq0 hm4 hLk hlt4 hk
      go_wp2_with fail
      refine wp_region_held_drew (S:=fun _ => True) (by kernel_rfl) trivial (fun hHeld => ?_)
      refine tk 0 ⟨some 101,.move (.tmp 4),22,"ref.go:31",#[],none⟩ hHeld ?_
      try simp only [Act.put,p1',p2',p3']
      refine tk 1 ⟨some 102,.move (.tmp 4),22,"ref.go:31",#[],none⟩ hHeld ?_
      try simp only [Act.put,p1',p2',p3']
      refine tk 2 ⟨some 103,.move (.tmp 6),3,"ref.go:31",#[],none⟩ hHeld ?_
      try simp only [Act.put,p1',p2',p3']
      refine tk 3 ⟨some 104,.move (.tmp 3),3,"ref.go:31",#[],none⟩ hHeld ?_
      try simp only [Act.put,p1',p2',p3']
      refine tk 4 ⟨some 105,.binOp .sub 3 (.tmp 103) (.tmp 104) 3,3,"ref.go:31",#[⟨2,.data⟩,⟨3,.data⟩],none⟩ hHeld ?_
      try simp only [Act.put,p1',p2',p3']
      refine tk 5 ⟨some 106,.binOp .mul 3 (.const (.int .i64 4)) (.tmp 105) 3,3,"ref.go:31",#[⟨4,.data⟩],none⟩ hHeld ?_
      try simp only [Act.put,p1',p2',p3']
      refine tk 6 ⟨some 107,.move (.tmp 8),3,"ref.go:31",#[],none⟩ hHeld ?_
      try simp only [Act.put,p1',p2',p3']
      refine tk 7 ⟨some 108,.binOp .add 3 (.tmp 106) (.tmp 107) 3,3,"ref.go:31",#[⟨5,.data⟩,⟨6,.data⟩],none⟩ hHeld ?_
      try simp only [Act.put,p1',p2',p3']
      refine tk 8 ⟨some 109,.indexAddr 22 (.tmp 102) (.tmp 108),0,"ref.go:31",#[⟨1,.data⟩,⟨7,.data⟩],none⟩ hHeld ?_
      try simp only [Act.put,p1',p2',p3']
      refine tk 10 ⟨some 111,.move (.tmp 7),22,"ref.go:31",#[],none⟩ hHeld ?_
      try simp only [Act.put,p1',p2',p3']
      refine tk 11 ⟨some 112,.move (.tmp 8),3,"ref.go:31",#[],none⟩ hHeld ?_
      try simp only [Act.put,p1',p2',p3']
      refine tk 12 ⟨some 113,.indexAddr 22 (.tmp 111) (.tmp 112),0,"ref.go:31",#[⟨10,.data⟩,⟨11,.data⟩],none⟩ hHeld ?_
      try simp only [Act.put,p1',p2',p3']
      refine wpAnyH_ready (rs:=[9,13]) (by kernel_rfl) (by simp) ?_
      refine AllReadyH.cons (o:=⟨some 110,.load 5 (.tmp 109),5,"ref.go:31",#[⟨8,.data⟩],none⟩) rfl (fun K' hK => ?_) (AllReadyH.cons (o:=⟨some 114,.load 5 (.tmp 113),5,"ref.go:31",#[⟨12,.data⟩],none⟩) rfl (fun K' hK => ?_) AllReadyH.nil)
      ·rw [if_pos (by rfl)]
       have hcc:=hcw
       go_simp
       refine hK.out _ _ trivial (fun hHeld1 => ?_)
       clear hK K' hHeld
       have hHeld:=hHeld1
       clear hHeld1
       try simp only [Act.put,p1',p2',p3']
       refine wpAnyH_ready (rs:=[13]) (by kernel_rfl) (by simp) ?_
       refine AllReadyH.cons (o:=⟨some 114,.load 5 (.tmp 113),5,"ref.go:31",#[⟨12,.data⟩],none⟩) rfl (fun K' hK => ?_) AllReadyH.nil
       rw [if_pos (by rfl)]
       have hcc:=hct
       go_simp
       refine hK.out _ _ trivial (fun hHeld1 => ?_)
       clear hK K' hHeld
       have hHeld:=hHeld1
       clear hHeld1
       try simp only [Act.put,p1',p2',p3']
       refine tk 14 ⟨some 115,.binOp .xor 5 (.tmp 110) (.tmp 114) 5,5,"ref.go:31",#[⟨9,.data⟩,⟨13,.data⟩],none⟩ hHeld ?_
       try simp only [Act.put,p1',p2',p3']
       refine wpAnyH_ready (rs:=[15]) (by kernel_rfl) (by simp) ?_
       refine AllReadyH.cons (o:=⟨some 116,.buildSlice 22 1 #[(0,.tmp 115)],22,"ref.go:31",#[⟨14,.data⟩],none⟩) rfl (fun K' hK => ?_) AllReadyH.nil
       rw [if_pos (by rfl)]
       go_simp
       change K' _ (U.drew.alloc (.cells #[.int .u8 ((Z:Nat):Int)] 5))
       refine hK.out _ _ trivial (fun hHeld1 => ?_)
       clear hK K' hHeld
       have hHeld:=hHeld1
       clear hHeld1
       try simp only [Act.put,p1',p2',p3']
       obtain ⟨VA,hVA⟩:∃ X,X = U.drew.alloc (.cells #[.int .u8 ((Z:Nat):Int)] 5):=⟨_,rfl⟩
       have HVB:=hJ_ (show Below U.heap.size U VA by rw [hVA];exact ((Below.refl U.heap.size U).drew).alloc (Nat.le_refl _) _)
       have HVN:=hJ_ (show VA.heap[U.heap.size]? = some (.cells #[.int .u8 ((Z:Nat):Int)] 5 (0,0)) by rw [hVA];exact heap_alloc_new _ _)
       have HVO:=hJ_ (show VA.ownsRow w.heap.size 5 1 (.slice (some ⟨g2,0,none⟩) Lk cap2) Lk ((a2i (kx n K m) i ++ (a7b C).take k).map (Value.int .u8)) by rw [hVA];exact World.ownsRow.alloc (own_drewN HO2.out 1) _)
       rw [← hVA]
       clear hVA
       refine wpAnyH_ready (rs:=[16]) (by kernel_rfl) (by simp) ?_
       refine AllReadyH.cons (o:=⟨some 117,.call { callee:=.builtin .append,args:=#[.tmp 101,.tmp 116],argTypes:=#[22,22] },22,"ref.go:31",#[⟨0,.data⟩,⟨15,.data⟩],none⟩) rfl (fun K' hK => ?_) AllReadyH.nil
       rw [if_pos (by rfl)]
       refine wp_append_lies _ (.tmp 101) (.tmp 116) 22 rfl w.heap.size 5 i5 (.int .u8 0) 1 1 Tryz.underlying22 HI.out.1 HI.out.2.1 HI.out.2.2.1 HI.out.2.2.2 rfl (by decide) (.slice (some ⟨g2,0,none⟩) Lk cap2) Lk _ (by rfl) HVO.out ⟨U.heap.size,0,none⟩ 1 1 [.int .u8 ((Z:Nat):Int)] (by rfl) rfl (World.news_of_block HVN.out) (by intro u hu;cases List.mem_singleton.1 hu;rfl) (by omega) (by unfold maxLen;have:=HN5.out;have:=HLK2.out;have:=HK4.out;omega) (by have:=HN5.out;have:=HLK2.out;have:=HK4.out;omega) (by have:=HVB.out.size;have:=HB2.out.size;omega) _ rfl ?_
       intro g3 c3 w9 ho9 hg9 hor9 _
       have HO9:=hJ_ ho9
       have HG9:=hJ_ hg9
       have HR9:=hJ_ hor9
       clear ho9 hg9 hor9
       refine hK.out _ _ trivial (fun hHeld1 => ?_)
       clear hK K' hHeld
       have hHeld:=hHeld1
       clear hHeld1
       try simp only [Act.put,p1',p2',p3']
       refine tk 17 ⟨some 4,.assign (.tmp 117),22,"ref.go:31",#[⟨16,.data⟩,⟨16,.chain⟩,⟨0,.phase⟩,⟨1,.phase⟩,⟨2,.phase⟩,⟨3,.phase⟩,⟨4,.phase⟩,⟨5,.phase⟩,⟨6,.phase⟩,⟨7,.phase⟩,⟨8,.phase⟩,⟨9,.phase⟩,⟨10,.phase⟩,⟨11,.phase⟩,⟨12,.phase⟩,⟨13,.phase⟩,⟨14,.phase⟩,⟨15,.phase⟩,⟨16,.phase⟩],none⟩ hHeld ?_
       try simp only [Act.put,p1',p2',p3']
       refine wpAnyH_done (by kernel_rfl) ?_ _
       clear hHeld
       go_wp2
       go_roundw
       case rel =>
        have hgu:=HF2.out.1
        have hne:=HG2.out
        have hvs:=HVB.out.size
        have hlk:=HLK2.out
        refine ⟨k + 1,g3,c3,by have:=HK4.out;omega,by go_num,by rw [hlk];rfl,?_,⟨?_,fun r hr => ?_⟩,?_,?_⟩
        ·have h:=HO9.out
         rw [hlk] at h
         rw [a3q C HK4.out,← List.append_assoc,List.map_append,← HZ.out]
         exact h
        ·have:=HG9.out.size;omega
        ·exact (HG9.out.cell_far ⟨gq,r,none⟩ (by show gq < VA.heap.size;omega) (fun e => hne (Option.some.inj e).symm)).trans ((HVB.out.cell (p:=⟨gq,r,none⟩) hgu).trans (HF2.out.2 r hr))
        ·rcases HR9.out with h | h
         ·have:g2 = g3:=Option.some.inj h
          omega
         ·omega
        ·exact (HB2.out.trans (HVB.out.mono HB2.out.size)).grown HG9.out (by have:=HB2.out.size;omega) (fun z hz => (HO2.out.lt z hz).1)
       case measure => simp [intOf];have:=HK4.out;omega
      ·rw [if_pos (by rfl)]
       have hcc:=hct
       go_simp
       refine hK.out _ _ trivial (fun hHeld1 => ?_)
       clear hK K' hHeld
       have hHeld:=hHeld1
       clear hHeld1
       try simp only [Act.put,p1',p2',p3']
       refine wpAnyH_ready (rs:=[9]) (by kernel_rfl) (by simp) ?_
       refine AllReadyH.cons (o:=⟨some 110,.load 5 (.tmp 109),5,"ref.go:31",#[⟨8,.data⟩],none⟩) rfl (fun K' hK => ?_) AllReadyH.nil
       rw [if_pos (by rfl)]
       have hcc:=hcw
       go_simp
       refine hK.out _ _ trivial (fun hHeld1 => ?_)
       clear hK K' hHeld
       have hHeld:=hHeld1
       clear hHeld1
       try simp only [Act.put,p1',p2',p3']
       refine tk 14 ⟨some 115,.binOp .xor 5 (.tmp 110) (.tmp 114) 5,5,"ref.go:31",#[⟨9,.data⟩,⟨13,.data⟩],none⟩ hHeld ?_
       try simp only [Act.put,p1',p2',p3']
       refine wpAnyH_ready (rs:=[15]) (by kernel_rfl) (by simp) ?_
       refine AllReadyH.cons (o:=⟨some 116,.buildSlice 22 1 #[(0,.tmp 115)],22,"ref.go:31",#[⟨14,.data⟩],none⟩) rfl (fun K' hK => ?_) AllReadyH.nil
       rw [if_pos (by rfl)]
       go_simp
       change K' _ (U.drew.alloc (.cells #[.int .u8 ((Z:Nat):Int)] 5))
       refine hK.out _ _ trivial (fun hHeld1 => ?_)
       clear hK K' hHeld
       have hHeld:=hHeld1
       clear hHeld1
       try simp only [Act.put,p1',p2',p3']
       obtain ⟨VA,hVA⟩:∃ X,X = U.drew.alloc (.cells #[.int .u8 ((Z:Nat):Int)] 5):=⟨_,rfl⟩
       have HVB:=hJ_ (show Below U.heap.size U VA by rw [hVA];exact ((Below.refl U.heap.size U).drew).alloc (Nat.le_refl _) _)
       have HVN:=hJ_ (show VA.heap[U.heap.size]? = some (.cells #[.int .u8 ((Z:Nat):Int)] 5 (0,0)) by rw [hVA];exact heap_alloc_new _ _)
       have HVO:=hJ_ (show VA.ownsRow w.heap.size 5 1 (.slice (some ⟨g2,0,none⟩) Lk cap2) Lk ((a2i (kx n K m) i ++ (a7b C).take k).map (Value.int .u8)) by rw [hVA];exact World.ownsRow.alloc (own_drewN HO2.out 1) _)
       rw [← hVA]
       clear hVA
       refine wpAnyH_ready (rs:=[16]) (by kernel_rfl) (by simp) ?_
       refine AllReadyH.cons (o:=⟨some 117,.call { callee:=.builtin .append,args:=#[.tmp 101,.tmp 116],argTypes:=#[22,22] },22,"ref.go:31",#[⟨0,.data⟩,⟨15,.data⟩],none⟩) rfl (fun K' hK => ?_) AllReadyH.nil
       rw [if_pos (by rfl)]
       refine wp_append_lies _ (.tmp 101) (.tmp 116) 22 rfl w.heap.size 5 i5 (.int .u8 0) 1 1 Tryz.underlying22 HI.out.1 HI.out.2.1 HI.out.2.2.1 HI.out.2.2.2 rfl (by decide) (.slice (some ⟨g2,0,none⟩) Lk cap2) Lk _ (by rfl) HVO.out ⟨U.heap.size,0,none⟩ 1 1 [.int .u8 ((Z:Nat):Int)] (by rfl) rfl (World.news_of_block HVN.out) (by intro u hu;cases List.mem_singleton.1 hu;rfl) (by omega) (by unfold maxLen;have:=HN5.out;have:=HLK2.out;have:=HK4.out;omega) (by have:=HN5.out;have:=HLK2.out;have:=HK4.out;omega) (by have:=HVB.out.size;have:=HB2.out.size;omega) _ rfl ?_
       intro g3 c3 w9 ho9 hg9 hor9 _
       have HO9:=hJ_ ho9
       have HG9:=hJ_ hg9
       have HR9:=hJ_ hor9
       clear ho9 hg9 hor9
       refine hK.out _ _ trivial (fun hHeld1 => ?_)
       clear hK K' hHeld
       have hHeld:=hHeld1
       clear hHeld1
       try simp only [Act.put,p1',p2',p3']
       refine tk 17 ⟨some 4,.assign (.tmp 117),22,"ref.go:31",#[⟨16,.data⟩,⟨16,.chain⟩,⟨0,.phase⟩,⟨1,.phase⟩,⟨2,.phase⟩,⟨3,.phase⟩,⟨4,.phase⟩,⟨5,.phase⟩,⟨6,.phase⟩,⟨7,.phase⟩,⟨8,.phase⟩,⟨9,.phase⟩,⟨10,.phase⟩,⟨11,.phase⟩,⟨12,.phase⟩,⟨13,.phase⟩,⟨14,.phase⟩,⟨15,.phase⟩,⟨16,.phase⟩],none⟩ hHeld ?_
       try simp only [Act.put,p1',p2',p3']
       refine wpAnyH_done (by kernel_rfl) ?_ _
       clear hHeld
       go_wp2
       go_roundw
       case rel =>
        have hgu:=HF2.out.1
        have hne:=HG2.out
        have hvs:=HVB.out.size
        have hlk:=HLK2.out
        refine ⟨k + 1,g3,c3,by have:=HK4.out;omega,by go_num,by rw [hlk];rfl,?_,⟨?_,fun r hr => ?_⟩,?_,?_⟩
        ·have h:=HO9.out
         rw [hlk] at h
         rw [a3q C HK4.out,← List.append_assoc,List.map_append,← HZ.out]
         exact h
        ·have:=HG9.out.size;omega
        ·exact (HG9.out.cell_far ⟨gq,r,none⟩ (by show gq < VA.heap.size;omega) (fun e => hne (Option.some.inj e).symm)).trans ((HVB.out.cell (p:=⟨gq,r,none⟩) hgu).trans (HF2.out.2 r hr))
        ·rcases HR9.out with h | h
         ·have:g2 = g3:=Option.some.inj h
          omega
         ·omega
        ·exact (HB2.out.trans (HVB.out.mono HB2.out.size)).grown HG9.out (by have:=HB2.out.size;omega) (fun z hz => (HO2.out.lt z hz).1)
       case measure => simp [intOf];have:=HK4.out;omega
     ·obtain rfl:k = 4:=by omega
      have HOE:=hJ_ (show U.ownsRow w.heap.size 5 1 (.slice (some ⟨g2,0,none⟩) (4 * (n + (m + 1))) cap2) (4 * (n + (m + 1))) ((a2i (kx n K (m + 1)) (n + (m + 1))).map (Value.int .u8)) by
       have h:=HO2.out
       rw [show (a7b C).take 4 = a7b C from rfl] at h
       have e:N4 + 4 = 4 * (n + (m + 1)):=by have:=HN4.out;have:=HII.out;omega
       have e2:a2i (kx n K m) i ++ a7b C = a2i (kx n K (m + 1)) (n + (m + 1)):=by
        rw [show n + (m + 1) = i + 1 by have:=HII.out;omega,a2i]
        have h1:a2i (kx n K (m + 1)) i = a2i (kx n K m) i:=a3h i (fun j hj => a9m K (by have:=HII.out;omega))
        have h2:kx n K (m + 1) i = C:=by rw [HII.out,a9b,HCE.out,HTE.out,HF.out,HII.out]
        rw [h1,h2]
       rw [e,e2] at h
       exact h)
      go_wp2
      go_roundw
      case rel => first | exact ⟨m + 1,g2,cap2,by have:=HLT.out;omega,by rw [HII.out];go_num,by rw [HPV.out,HII.out];rfl,by rw [show N4 + 4 = 4 * (n + (m + 1)) by have:=HN4.out;have:=HII.out;omega],HOE.out,HB2.out⟩ | ((repeat apply Exists.intro);exact ⟨⟨m + 1,g2,cap2,by have:=HLT.out;omega,by rw [HII.out];go_num,by rw [HPV.out,HII.out];rfl,by rw [show N4 + 4 = 4 * (n + (m + 1)) by have:=HN4.out;have:=HII.out;omega],HOE.out,HB2.out⟩,rfl⟩)
      case measure => simp [intOf];have:=HII.out;have:=HLT.out;omega
   ·obtain ⟨d,hd⟩:∃ d,d = i % n:=⟨_,rfl⟩
    have qt:(i:Int).tmod (n:Int) = (d:Int):=by rw [Int.tmod_eq_emod_of_nonneg (by omega),hd];rfl
    have qr:((d:Int) == 0) = false:=by rw [beq_eq_false_iff_ne];omega
    clear hd
    have HR:=hJ_ hr
    have HPV:=hJ_ (show P = pwr 2 (i / n) by
     rw [HP.out,← HII.out]
     have h:=d6g (n:=n) (i:=i) (by omega) (by have:=HII.out;omega)
     rw [if_neg HR.out] at h
     rw [h])
    clear hr
    by_cases h8:n = 8 ∧ i % 8 = 4
    ·have H8:=hJ_ h8
     have q8:((n:Int) == 8) = true:=by rw [beq_iff_eq];omega
     have qm8:(i:Int) % 8 = 4:=by omega
     have qm9:(i:Int).tmod 8 = 4:=by rw [Int.tmod_eq_emod_of_nonneg (by omega)];omega
     clear h8
     go_upto_region 12 with fail
     go_wp2_with fail
     refine wp_region_held_drew (S:=fun U => Below V7.heap.size V7 U) (by kernel_rfl) (Below.refl _ _).drew (fun hHeld => ?_)
     refine tk 0 ⟨some 80,.move (.tmp 7),22,"ref.go:28",#[],none⟩ hHeld ?_
     try simp only [Act.put,p1',p2',p3']
     refine tk 1 ⟨some 81,.indexAddr 22 (.tmp 80) (.const (.int .i64 0)),0,"ref.go:28",#[⟨0,.data⟩],none⟩ hHeld ?_
     try simp only [Act.put,p1',p2',p3']
     refine tk 2 ⟨some 82,.load 5 (.tmp 81),5,"ref.go:28",#[⟨1,.data⟩],none⟩ hHeld ?rest2y3 (v:=?v2y3) (hy:=?hy2y3)
     case hy2y3 =>
      intro W' hV
      try dsimp only at hV
      have hct:=(hV.cell (p:=⟨gt,0,none⟩) HT7.out.1).trans (HT7.out.2 0 (by omega))
      go_simp
      all_goals with_reducible rfl
     case' rest2y3 => try simp only [Act.put,p1',p2',p3']
     refine tk 4 ⟨some 84,.move (.tmp 7),22,"ref.go:28",#[],none⟩ hHeld ?_
     try simp only [Act.put,p1',p2',p3']
     refine tk 5 ⟨some 85,.indexAddr 22 (.tmp 84) (.const (.int .i64 1)),0,"ref.go:28",#[⟨4,.data⟩],none⟩ hHeld ?_
     try simp only [Act.put,p1',p2',p3']
     refine tk 6 ⟨some 86,.load 5 (.tmp 85),5,"ref.go:28",#[⟨5,.data⟩],none⟩ hHeld ?rest6y6 (v:=?v6y6) (hy:=?hy6y6)
     case hy6y6 =>
      intro W' hV
      try dsimp only at hV
      have hct:=(hV.cell (p:=⟨gt,1,none⟩) HT7.out.1).trans (HT7.out.2 1 (by omega))
      go_simp
      all_goals with_reducible rfl
     case' rest6y6 => try simp only [Act.put,p1',p2',p3']
     refine tk 8 ⟨some 88,.move (.tmp 7),22,"ref.go:28",#[],none⟩ hHeld ?_
     try simp only [Act.put,p1',p2',p3']
     refine tk 9 ⟨some 89,.indexAddr 22 (.tmp 88) (.const (.int .i64 2)),0,"ref.go:28",#[⟨8,.data⟩],none⟩ hHeld ?_
     try simp only [Act.put,p1',p2',p3']
     refine tk 10 ⟨some 90,.load 5 (.tmp 89),5,"ref.go:28",#[⟨9,.data⟩],none⟩ hHeld ?rest10y9 (v:=?v10y9) (hy:=?hy10y9)
     case hy10y9 =>
      intro W' hV
      try dsimp only at hV
      have hct:=(hV.cell (p:=⟨gt,2,none⟩) HT7.out.1).trans (HT7.out.2 2 (by omega))
      go_simp
      all_goals with_reducible rfl
     case' rest10y9 => try simp only [Act.put,p1',p2',p3']
     refine tk 12 ⟨some 92,.move (.tmp 7),22,"ref.go:28",#[],none⟩ hHeld ?_
     try simp only [Act.put,p1',p2',p3']
     refine tk 13 ⟨some 93,.indexAddr 22 (.tmp 92) (.const (.int .i64 3)),0,"ref.go:28",#[⟨12,.data⟩],none⟩ hHeld ?_
     try simp only [Act.put,p1',p2',p3']
     refine tk 14 ⟨some 94,.load 5 (.tmp 93),5,"ref.go:28",#[⟨13,.data⟩],none⟩ hHeld ?rest14y12 (v:=?v14y12) (hy:=?hy14y12)
     case hy14y12 =>
      intro W' hV
      try dsimp only at hV
      have hct:=(hV.cell (p:=⟨gt,3,none⟩) HT7.out.1).trans (HT7.out.2 3 (by omega))
      go_simp
      all_goals with_reducible rfl
     case' rest14y12 => try simp only [Act.put,p1',p2',p3']
     refine wpAnyH_ready (rs:=[3]) (by kernel_rfl) (by simp) ?_
     refine AllReadyH.cons (o:=⟨some 83,.call { callee:=.value (.func 87),args:=#[.tmp 82],argTypes:=#[5] },5,"ref.go:28",#[⟨2,.data⟩],none⟩) rfl (fun K' hK => ?_) AllReadyH.nil
     rw [if_pos (by rfl)]
     go_simp
     go_wp2_with (go_at_call 87;(with_reducible refine (a3b (f 0) (HFB.out 0) _).mono ?_);rintro e wy0 ⟨rfl,ny0,rfl⟩)
     refine hK.out _ _ (below_drewN (Below.refl _ _) _) (fun hHeld1 => ?_)
     clear hK K' hHeld
     have hHeld:=hHeld1
     clear hHeld1
     try simp only [Act.put,p1',p2',p3']
     refine wpAnyH_ready (rs:=[7]) (by kernel_rfl) (by simp) ?_
     refine AllReadyH.cons (o:=⟨some 87,.call { callee:=.value (.func 87),args:=#[.tmp 86],argTypes:=#[5] },5,"ref.go:28",#[⟨6,.data⟩,⟨3,.chain⟩],none⟩) rfl (fun K' hK => ?_) AllReadyH.nil
     rw [if_pos (by rfl)]
     go_simp
     go_wp2_with (go_at_call 87;(with_reducible refine (a3b (f 1) (HFB.out 1) _).mono ?_);rintro e wy1 ⟨rfl,ny1,rfl⟩)
     refine hK.out _ _ (below_drewN (Below.refl _ _) _) (fun hHeld1 => ?_)
     clear hK K' hHeld
     have hHeld:=hHeld1
     clear hHeld1
     try simp only [Act.put,p1',p2',p3']
     refine wpAnyH_ready (rs:=[11]) (by kernel_rfl) (by simp) ?_
     refine AllReadyH.cons (o:=⟨some 91,.call { callee:=.value (.func 87),args:=#[.tmp 90],argTypes:=#[5] },5,"ref.go:28",#[⟨10,.data⟩,⟨7,.chain⟩],none⟩) rfl (fun K' hK => ?_) AllReadyH.nil
     rw [if_pos (by rfl)]
     go_simp
     go_wp2_with (go_at_call 87;(with_reducible refine (a3b (f 2) (HFB.out 2) _).mono ?_);rintro e wy2 ⟨rfl,ny2,rfl⟩)
     refine hK.out _ _ (below_drewN (Below.refl _ _) _) (fun hHeld1 => ?_)
     clear hK K' hHeld
     have hHeld:=hHeld1
     clear hHeld1
     try simp only [Act.put,p1',p2',p3']
     refine wpAnyH_ready (rs:=[15]) (by kernel_rfl) (by simp) ?_
     refine AllReadyH.cons (o:=⟨some 95,.call { callee:=.value (.func 87),args:=#[.tmp 94],argTypes:=#[5] },5,"ref.go:28",#[⟨14,.data⟩,⟨11,.chain⟩],none⟩) rfl (fun K' hK => ?_) AllReadyH.nil
     rw [if_pos (by rfl)]
     go_simp
     go_wp2_with (go_at_call 87;(with_reducible refine (a3b (f 3) (HFB.out 3) _).mono ?_);rintro e wy3 ⟨rfl,ny3,rfl⟩)
     refine hK.out _ _ (below_drewN (Below.refl _ _) _) (fun hHeld1 => ?_)
     clear hK K' hHeld
     have hHeld:=hHeld1
     clear hHeld1
     try simp only [Act.put,p1',p2',p3']
     refine wpAnyH_ready (rs:=[16]) (by kernel_rfl) (by simp) ?_
     refine AllReadyH.cons (o:=⟨some 96,.buildSlice 22 4 #[(0,.tmp 83),(1,.tmp 87),(2,.tmp 91),(3,.tmp 95)],22,"ref.go:28",#[⟨3,.data⟩,⟨7,.data⟩,⟨11,.data⟩,⟨15,.data⟩],none⟩) rfl (fun K' hK => ?_) AllReadyH.nil
     rw [if_pos (by rfl)]
     go_simp
     refine hK.out _ _ (hHeld.alloc hHeld.size _) (fun hHeld1 => ?_)
     clear hK K' hHeld
     have hHeld:=hHeld1
     clear hHeld1
     try simp only [Act.put,p1',p2',p3']
     refine tk 17 ⟨some 7,.assign (.tmp 96),22,"ref.go:28",#[⟨16,.data⟩,⟨15,.chain⟩,⟨0,.phase⟩,⟨1,.phase⟩,⟨2,.phase⟩,⟨3,.phase⟩,⟨4,.phase⟩,⟨5,.phase⟩,⟨6,.phase⟩,⟨7,.phase⟩,⟨8,.phase⟩,⟨9,.phase⟩,⟨10,.phase⟩,⟨11,.phase⟩,⟨12,.phase⟩,⟨13,.phase⟩,⟨14,.phase⟩,⟨15,.phase⟩,⟨16,.phase⟩],none⟩ hHeld ?_
     try simp only [Act.put,p1',p2',p3']
     refine wpAnyH_done (by kernel_rfl) ?_ _
     clear hHeld
     obtain ⟨VV,hVV⟩:∃ V,V = (V7.drewN (1 + ny0 + ny1 + ny2 + ny3)).alloc (.cells #[.int .u8 ((box (f 0):Nat):Int),.int .u8 ((box (f 1):Nat):Int),.int .u8 ((box (f 2):Nat):Int),.int .u8 ((box (f 3):Nat):Int)] 5):=⟨_,rfl⟩
     have HFV:=hJ_ (show Four VV V7.heap.size (tmp n i f) by
      rw [hVV]
      have h:=b1j (V7.drewN (1 + ny0 + ny1 + ny2 + ny3)) (tmp n i f) 5
      have e0:∀ r,tmp n i f r = box (f r):=fun r => by unfold tmp;rw [if_neg HR.out,if_pos H8.out]
      rw [e0,e0,e0,e0] at h
      exact h)
     have HBV:=hJ_ (show Below wr.heap.size wr VV by rw [hVV];exact bt HB7.out ((below_drewN (Below.refl _ _) _).alloc (Nat.le_refl _) _))
     have hgq:wr.heap.size ≤ V7.heap.size:=HB7.out.size
     obtain ⟨gq,hgqe⟩:∃ b,b = V7.heap.size:=⟨_,rfl⟩
     rw [← hVV,← hgqe]
     rw [← hgqe] at HFV hgq
     clear hVV hgqe qr qt q8 qm8 qm9
     go_upto_region 13 with fail
     have HOV:=hJ_ (a0y HO.out HBV.out)
     have HWV:=hJ_ (HB.out.trans (HBV.out.mono HB.out.size))
     have HGQ:=hJ_ (show g ≠ gq by have:=(a2w HO.out).2.2.2.2;omega)
     have HTB:=hJ_ (fun r => a6d n i HFB.out r)
     obtain ⟨T,hT⟩:∃ T,T = tmp n i f:=⟨_,rfl⟩
     have HTE:=hJ_ hT
     rw [← hT] at HFV HTB
     obtain ⟨C,hC⟩:∃ C:Nat → Nat,C = fun r => kx n K m m r ^^^ T r:=⟨_,rfl⟩
     have HCE:=hJ_ hC
     have HCK:=hJ_ (b2l n HKB.out m m)
     have qm:(i:Int) - (n:Int) = (m:Int):=by have:=HII.out;omega
     have qmb:(m:Int) ≤ 52:=by have:=HII.out;omega
     have qm0:(0:Int) ≤ (m:Int):=by omega
     have HI4:=hJ_ (show 4 * m + 4 ≤ N4 by have:=HII.out;have:=HN4.out;omega)
     have HN5:=hJ_ (show N4 ≤ 240 by have:=HN4.out;omega)
     clear hT hC hgq
     go_wp2_with fail
     go_loopw [4,8] (fun v q U => ∃ k g2 cap2:Nat,k ≤ 4 ∧ q = .int .i64 (k:Nat) ∧ v = .slice (some ⟨g2,0,none⟩) (N4 + k) cap2 ∧ U.ownsRow w.heap.size 5 1 (.slice (some ⟨g2,0,none⟩) (N4 + k) cap2) (N4 + k) ((a2i (kx n K m) i ++ (a7b C).take k).map (Value.int .u8)) ∧ Four U gq T ∧ g2 ≠ gq ∧ Below w.heap.size w U) (fun _ q _ => 4 - (intOf q).toNat)
     case atStart => exact ⟨0,g,cap,by omega,rfl,rfl,by rw [List.take_zero,List.append_nil];exact HOV.out,HFV.out,HGQ.out,HWV.out⟩
     case round =>
      obtain ⟨k,g2,cap2,hk,rfl,rfl,hO2,hF2,hg2,hB2⟩:=hrel
      rename World => U
      have HO2:=hJ_ hO2
      have HF2:=hJ_ hF2
      have HG2:=hJ_ hg2
      have HB2:=hJ_ hB2
      clear hO2 hF2 hg2 hB2
      by_cases hlt4:k < 4
      ·have hcw:U.cell? ⟨g2,4 * m + k,none⟩ = some (.int .u8 ((kx n K m m k:Nat):Int)):=by
        have h:=a0h HO2.out (4 * m + k) (by have:=HI4.out;omega)
        rw [Nat.zero_add,List.getD_eq_getElem?_getD,List.getElem?_append_left (by rw [a0p];have:=HI4.out;have:=HN4.out;omega),← List.getD_eq_getElem?_getD,a2f _ hlt4 _ (by have:=HII.out;omega)] at h
        exact h
       have hct:=HF2.out.2 k hlt4
       have hxr:=u8_xor_nat (kx n K m m k) (T k) (HCK.out k) (HTB.out k)
       have HCV:=hJ_ (show kx n K m m k ^^^ T k = C k by rw [HCE.out])
       obtain ⟨A,hA⟩:∃ A,A = kx n K m m k:=⟨_,rfl⟩
       obtain ⟨B,hB⟩:∃ B,B = T k:=⟨_,rfl⟩
       rw [← hA] at hcw hxr HCV
       rw [← hB] at hct hxr HCV
       rw [HCV.out] at hxr
       obtain ⟨Z,hZ⟩:∃ Z,Z = C k:=⟨_,rfl⟩
       have HZ:=hJ_ hZ
       rw [← hZ] at hxr
       obtain ⟨q0,hq0⟩:∃ q0,q0 = 4 * m + k:=⟨_,rfl⟩
       obtain ⟨m4,hm4⟩:∃ m4,m4 = 4 * m:=⟨_,rfl⟩
       obtain ⟨Lk,hLk⟩:∃ Lk,Lk = N4 + k:=⟨_,rfl⟩
       rw [← hq0] at hcw
       rw [← hLk] at HO2 ⊢
       have x0:4 * (m:Int) = (m4:Int):=by omega
       have x1:(m4:Int) + (k:Int) = (q0:Int):=by omega
       have y0:IntKind.i64.wrap (m:Int) = (m:Int):=IntWalk.i64_in _ (by omega)
       have y1:IntKind.i64.wrap (m4:Int) = (m4:Int):=IntWalk.i64_in _ (by omega)
       have y2:IntKind.i64.wrap (q0:Int) = (q0:Int):=IntWalk.i64_in _ (by omega)
       have z0:(q0:Int) < (Lk:Int):=by have:=HI4.out;omega
       have z1:(0:Int) ≤ (q0:Int):=by omega
       have z2:(k:Int) < 4:=by omega
       have z3:(0:Int) ≤ (k:Int):=by omega
       have HLK2:=hJ_ hLk
       have HK4:=hJ_ hlt4
       clear hA hB hZ hq0 hm4 hLk hlt4 hk
       go_wp2_with fail
       refine wp_region_held_drew (S:=fun _ => True) (by kernel_rfl) trivial (fun hHeld => ?_)
       refine tk 0 ⟨some 101,.move (.tmp 4),22,"ref.go:31",#[],none⟩ hHeld ?_
       try simp only [Act.put,p1',p2',p3']
       refine tk 1 ⟨some 102,.move (.tmp 4),22,"ref.go:31",#[],none⟩ hHeld ?_
       try simp only [Act.put,p1',p2',p3']
       refine tk 2 ⟨some 103,.move (.tmp 6),3,"ref.go:31",#[],none⟩ hHeld ?_
       try simp only [Act.put,p1',p2',p3']
       refine tk 3 ⟨some 104,.move (.tmp 3),3,"ref.go:31",#[],none⟩ hHeld ?_
       try simp only [Act.put,p1',p2',p3']
       refine tk 4 ⟨some 105,.binOp .sub 3 (.tmp 103) (.tmp 104) 3,3,"ref.go:31",#[⟨2,.data⟩,⟨3,.data⟩],none⟩ hHeld ?_
       try simp only [Act.put,p1',p2',p3']
       refine tk 5 ⟨some 106,.binOp .mul 3 (.const (.int .i64 4)) (.tmp 105) 3,3,"ref.go:31",#[⟨4,.data⟩],none⟩ hHeld ?_
       try simp only [Act.put,p1',p2',p3']
       refine tk 6 ⟨some 107,.move (.tmp 8),3,"ref.go:31",#[],none⟩ hHeld ?_
       try simp only [Act.put,p1',p2',p3']
       refine tk 7 ⟨some 108,.binOp .add 3 (.tmp 106) (.tmp 107) 3,3,"ref.go:31",#[⟨5,.data⟩,⟨6,.data⟩],none⟩ hHeld ?_
       try simp only [Act.put,p1',p2',p3']
       refine tk 8 ⟨some 109,.indexAddr 22 (.tmp 102) (.tmp 108),0,"ref.go:31",#[⟨1,.data⟩,⟨7,.data⟩],none⟩ hHeld ?_
       try simp only [Act.put,p1',p2',p3']
       refine tk 10 ⟨some 111,.move (.tmp 7),22,"ref.go:31",#[],none⟩ hHeld ?_
       try simp only [Act.put,p1',p2',p3']
       refine tk 11 ⟨some 112,.move (.tmp 8),3,"ref.go:31",#[],none⟩ hHeld ?_
       try simp only [Act.put,p1',p2',p3']
       refine tk 12 ⟨some 113,.indexAddr 22 (.tmp 111) (.tmp 112),0,"ref.go:31",#[⟨10,.data⟩,⟨11,.data⟩],none⟩ hHeld ?_
       try simp only [Act.put,p1',p2',p3']
       refine wpAnyH_ready (rs:=[9,13]) (by kernel_rfl) (by simp) ?_
       refine AllReadyH.cons (o:=⟨some 110,.load 5 (.tmp 109),5,"ref.go:31",#[⟨8,.data⟩],none⟩) rfl (fun K' hK => ?_) (AllReadyH.cons (o:=⟨some 114,.load 5 (.tmp 113),5,"ref.go:31",#[⟨12,.data⟩],none⟩) rfl (fun K' hK => ?_) AllReadyH.nil)
       ·rw [if_pos (by rfl)]
        have hcc:=hcw
        go_simp
        refine hK.out _ _ trivial (fun hHeld1 => ?_)
        clear hK K' hHeld
        have hHeld:=hHeld1
        clear hHeld1
        try simp only [Act.put,p1',p2',p3']
        refine wpAnyH_ready (rs:=[13]) (by kernel_rfl) (by simp) ?_
        refine AllReadyH.cons (o:=⟨some 114,.load 5 (.tmp 113),5,"ref.go:31",#[⟨12,.data⟩],none⟩) rfl (fun K' hK => ?_) AllReadyH.nil
        rw [if_pos (by rfl)]
        have hcc:=hct
        go_simp
        refine hK.out _ _ trivial (fun hHeld1 => ?_)
        clear hK K' hHeld
        have hHeld:=hHeld1
        clear hHeld1
        try simp only [Act.put,p1',p2',p3']
        refine tk 14 ⟨some 115,.binOp .xor 5 (.tmp 110) (.tmp 114) 5,5,"ref.go:31",#[⟨9,.data⟩,⟨13,.data⟩],none⟩ hHeld ?_
        try simp only [Act.put,p1',p2',p3']
        refine wpAnyH_ready (rs:=[15]) (by kernel_rfl) (by simp) ?_
        refine AllReadyH.cons (o:=⟨some 116,.buildSlice 22 1 #[(0,.tmp 115)],22,"ref.go:31",#[⟨14,.data⟩],none⟩) rfl (fun K' hK => ?_) AllReadyH.nil
        rw [if_pos (by rfl)]
        go_simp
        change K' _ (U.drew.alloc (.cells #[.int .u8 ((Z:Nat):Int)] 5))
        refine hK.out _ _ trivial (fun hHeld1 => ?_)
        clear hK K' hHeld
        have hHeld:=hHeld1
        clear hHeld1
        try simp only [Act.put,p1',p2',p3']
        obtain ⟨VA,hVA⟩:∃ X,X = U.drew.alloc (.cells #[.int .u8 ((Z:Nat):Int)] 5):=⟨_,rfl⟩
        have HVB:=hJ_ (show Below U.heap.size U VA by rw [hVA];exact ((Below.refl U.heap.size U).drew).alloc (Nat.le_refl _) _)
        have HVN:=hJ_ (show VA.heap[U.heap.size]? = some (.cells #[.int .u8 ((Z:Nat):Int)] 5 (0,0)) by rw [hVA];exact heap_alloc_new _ _)
        have HVO:=hJ_ (show VA.ownsRow w.heap.size 5 1 (.slice (some ⟨g2,0,none⟩) Lk cap2) Lk ((a2i (kx n K m) i ++ (a7b C).take k).map (Value.int .u8)) by rw [hVA];exact World.ownsRow.alloc (own_drewN HO2.out 1) _)
        rw [← hVA]
        clear hVA
        refine wpAnyH_ready (rs:=[16]) (by kernel_rfl) (by simp) ?_
        refine AllReadyH.cons (o:=⟨some 117,.call { callee:=.builtin .append,args:=#[.tmp 101,.tmp 116],argTypes:=#[22,22] },22,"ref.go:31",#[⟨0,.data⟩,⟨15,.data⟩],none⟩) rfl (fun K' hK => ?_) AllReadyH.nil
        rw [if_pos (by rfl)]
        refine wp_append_lies _ (.tmp 101) (.tmp 116) 22 rfl w.heap.size 5 i5 (.int .u8 0) 1 1 Tryz.underlying22 HI.out.1 HI.out.2.1 HI.out.2.2.1 HI.out.2.2.2 rfl (by decide) (.slice (some ⟨g2,0,none⟩) Lk cap2) Lk _ (by rfl) HVO.out ⟨U.heap.size,0,none⟩ 1 1 [.int .u8 ((Z:Nat):Int)] (by rfl) rfl (World.news_of_block HVN.out) (by intro u hu;cases List.mem_singleton.1 hu;rfl) (by omega) (by unfold maxLen;have:=HN5.out;have:=HLK2.out;have:=HK4.out;omega) (by have:=HN5.out;have:=HLK2.out;have:=HK4.out;omega) (by have:=HVB.out.size;have:=HB2.out.size;omega) _ rfl ?_
        intro g3 c3 w9 ho9 hg9 hor9 _
        have HO9:=hJ_ ho9
        have HG9:=hJ_ hg9
        have HR9:=hJ_ hor9
        clear ho9 hg9 hor9
        refine hK.out _ _ trivial (fun hHeld1 => ?_)
        clear hK K' hHeld
        have hHeld:=hHeld1
        clear hHeld1
        try simp only [Act.put,p1',p2',p3']
        refine tk 17 ⟨some 4,.assign (.tmp 117),22,"ref.go:31",#[⟨16,.data⟩,⟨16,.chain⟩,⟨0,.phase⟩,⟨1,.phase⟩,⟨2,.phase⟩,⟨3,.phase⟩,⟨4,.phase⟩,⟨5,.phase⟩,⟨6,.phase⟩,⟨7,.phase⟩,⟨8,.phase⟩,⟨9,.phase⟩,⟨10,.phase⟩,⟨11,.phase⟩,⟨12,.phase⟩,⟨13,.phase⟩,⟨14,.phase⟩,⟨15,.phase⟩,⟨16,.phase⟩],none⟩ hHeld ?_
        try simp only [Act.put,p1',p2',p3']
        refine wpAnyH_done (by kernel_rfl) ?_ _
        clear hHeld
        go_wp2
        go_roundw
        case rel =>
         have hgu:=HF2.out.1
         have hne:=HG2.out
         have hvs:=HVB.out.size
         have hlk:=HLK2.out
         refine ⟨k + 1,g3,c3,by have:=HK4.out;omega,by go_num,by rw [hlk];rfl,?_,⟨?_,fun r hr => ?_⟩,?_,?_⟩
         ·have h:=HO9.out
          rw [hlk] at h
          rw [a3q C HK4.out,← List.append_assoc,List.map_append,← HZ.out]
          exact h
         ·have:=HG9.out.size;omega
         ·exact (HG9.out.cell_far ⟨gq,r,none⟩ (by show gq < VA.heap.size;omega) (fun e => hne (Option.some.inj e).symm)).trans ((HVB.out.cell (p:=⟨gq,r,none⟩) hgu).trans (HF2.out.2 r hr))
         ·rcases HR9.out with h | h
          ·have:g2 = g3:=Option.some.inj h
           omega
          ·omega
         ·exact (HB2.out.trans (HVB.out.mono HB2.out.size)).grown HG9.out (by have:=HB2.out.size;omega) (fun z hz => (HO2.out.lt z hz).1)
        case measure => simp [intOf];have:=HK4.out;omega
       ·rw [if_pos (by rfl)]
        have hcc:=hct
        go_simp
        refine hK.out _ _ trivial (fun hHeld1 => ?_)
        clear hK K' hHeld
        have hHeld:=hHeld1
        clear hHeld1
        try simp only [Act.put,p1',p2',p3']
        refine wpAnyH_ready (rs:=[9]) (by kernel_rfl) (by simp) ?_
        refine AllReadyH.cons (o:=⟨some 110,.load 5 (.tmp 109),5,"ref.go:31",#[⟨8,.data⟩],none⟩) rfl (fun K' hK => ?_) AllReadyH.nil
        rw [if_pos (by rfl)]
        have hcc:=hcw
        go_simp
        refine hK.out _ _ trivial (fun hHeld1 => ?_)
        clear hK K' hHeld
        have hHeld:=hHeld1
        clear hHeld1
        try simp only [Act.put,p1',p2',p3']
        refine tk 14 ⟨some 115,.binOp .xor 5 (.tmp 110) (.tmp 114) 5,5,"ref.go:31",#[⟨9,.data⟩,⟨13,.data⟩],none⟩ hHeld ?_
        try simp only [Act.put,p1',p2',p3']
        refine wpAnyH_ready (rs:=[15]) (by kernel_rfl) (by simp) ?_
        refine AllReadyH.cons (o:=⟨some 116,.buildSlice 22 1 #[(0,.tmp 115)],22,"ref.go:31",#[⟨14,.data⟩],none⟩) rfl (fun K' hK => ?_) AllReadyH.nil
        rw [if_pos (by rfl)]
        go_simp
        change K' _ (U.drew.alloc (.cells #[.int .u8 ((Z:Nat):Int)] 5))
        refine hK.out _ _ trivial (fun hHeld1 => ?_)
        clear hK K' hHeld
        have hHeld:=hHeld1
        clear hHeld1
        try simp only [Act.put,p1',p2',p3']
        obtain ⟨VA,hVA⟩:∃ X,X = U.drew.alloc (.cells #[.int .u8 ((Z:Nat):Int)] 5):=⟨_,rfl⟩
        have HVB:=hJ_ (show Below U.heap.size U VA by rw [hVA];exact ((Below.refl U.heap.size U).drew).alloc (Nat.le_refl _) _)
        have HVN:=hJ_ (show VA.heap[U.heap.size]? = some (.cells #[.int .u8 ((Z:Nat):Int)] 5 (0,0)) by rw [hVA];exact heap_alloc_new _ _)
        have HVO:=hJ_ (show VA.ownsRow w.heap.size 5 1 (.slice (some ⟨g2,0,none⟩) Lk cap2) Lk ((a2i (kx n K m) i ++ (a7b C).take k).map (Value.int .u8)) by rw [hVA];exact World.ownsRow.alloc (own_drewN HO2.out 1) _)
        rw [← hVA]
        clear hVA
        refine wpAnyH_ready (rs:=[16]) (by kernel_rfl) (by simp) ?_
        refine AllReadyH.cons (o:=⟨some 117,.call { callee:=.builtin .append,args:=#[.tmp 101,.tmp 116],argTypes:=#[22,22] },22,"ref.go:31",#[⟨0,.data⟩,⟨15,.data⟩],none⟩) rfl (fun K' hK => ?_) AllReadyH.nil
        rw [if_pos (by rfl)]
        refine wp_append_lies _ (.tmp 101) (.tmp 116) 22 rfl w.heap.size 5 i5 (.int .u8 0) 1 1 Tryz.underlying22 HI.out.1 HI.out.2.1 HI.out.2.2.1 HI.out.2.2.2 rfl (by decide) (.slice (some ⟨g2,0,none⟩) Lk cap2) Lk _ (by rfl) HVO.out ⟨U.heap.size,0,none⟩ 1 1 [.int .u8 ((Z:Nat):Int)] (by rfl) rfl (World.news_of_block HVN.out) (by intro u hu;cases List.mem_singleton.1 hu;rfl) (by omega) (by unfold maxLen;have:=HN5.out;have:=HLK2.out;have:=HK4.out;omega) (by have:=HN5.out;have:=HLK2.out;have:=HK4.out;omega) (by have:=HVB.out.size;have:=HB2.out.size;omega) _ rfl ?_
        intro g3 c3 w9 ho9 hg9 hor9 _
        have HO9:=hJ_ ho9
        have HG9:=hJ_ hg9
        have HR9:=hJ_ hor9
        clear ho9 hg9 hor9
        refine hK.out _ _ trivial (fun hHeld1 => ?_)
        clear hK K' hHeld
        have hHeld:=hHeld1
        clear hHeld1
        try simp only [Act.put,p1',p2',p3']
        refine tk 17 ⟨some 4,.assign (.tmp 117),22,"ref.go:31",#[⟨16,.data⟩,⟨16,.chain⟩,⟨0,.phase⟩,⟨1,.phase⟩,⟨2,.phase⟩,⟨3,.phase⟩,⟨4,.phase⟩,⟨5,.phase⟩,⟨6,.phase⟩,⟨7,.phase⟩,⟨8,.phase⟩,⟨9,.phase⟩,⟨10,.phase⟩,⟨11,.phase⟩,⟨12,.phase⟩,⟨13,.phase⟩,⟨14,.phase⟩,⟨15,.phase⟩,⟨16,.phase⟩],none⟩ hHeld ?_
        try simp only [Act.put,p1',p2',p3']
        refine wpAnyH_done (by kernel_rfl) ?_ _
        clear hHeld
        go_wp2
        go_roundw
        case rel =>
         have hgu:=HF2.out.1
         have hne:=HG2.out
         have hvs:=HVB.out.size
         have hlk:=HLK2.out
         refine ⟨k + 1,g3,c3,by have:=HK4.out;omega,by go_num,by rw [hlk];rfl,?_,⟨?_,fun r hr => ?_⟩,?_,?_⟩
         ·have h:=HO9.out
          rw [hlk] at h
          rw [a3q C HK4.out,← List.append_assoc,List.map_append,← HZ.out]
          exact h
         ·have:=HG9.out.size;omega
         ·exact (HG9.out.cell_far ⟨gq,r,none⟩ (by show gq < VA.heap.size;omega) (fun e => hne (Option.some.inj e).symm)).trans ((HVB.out.cell (p:=⟨gq,r,none⟩) hgu).trans (HF2.out.2 r hr))
         ·rcases HR9.out with h | h
          ·have:g2 = g3:=Option.some.inj h
           omega
          ·omega
         ·exact (HB2.out.trans (HVB.out.mono HB2.out.size)).grown HG9.out (by have:=HB2.out.size;omega) (fun z hz => (HO2.out.lt z hz).1)
        case measure => simp [intOf];have:=HK4.out;omega
      ·obtain rfl:k = 4:=by omega
       have HOE:=hJ_ (show U.ownsRow w.heap.size 5 1 (.slice (some ⟨g2,0,none⟩) (4 * (n + (m + 1))) cap2) (4 * (n + (m + 1))) ((a2i (kx n K (m + 1)) (n + (m + 1))).map (Value.int .u8)) by
        have h:=HO2.out
        rw [show (a7b C).take 4 = a7b C from rfl] at h
        have e:N4 + 4 = 4 * (n + (m + 1)):=by have:=HN4.out;have:=HII.out;omega
        have e2:a2i (kx n K m) i ++ a7b C = a2i (kx n K (m + 1)) (n + (m + 1)):=by
         rw [show n + (m + 1) = i + 1 by have:=HII.out;omega,a2i]
         have h1:a2i (kx n K (m + 1)) i = a2i (kx n K m) i:=a3h i (fun j hj => a9m K (by have:=HII.out;omega))
         have h2:kx n K (m + 1) i = C:=by rw [HII.out,a9b,HCE.out,HTE.out,HF.out,HII.out]
         rw [h1,h2]
        rw [e,e2] at h
        exact h)
       go_wp2
       go_roundw
       case rel => first | exact ⟨m + 1,g2,cap2,by have:=HLT.out;omega,by rw [HII.out];go_num,by rw [HPV.out,HII.out];rfl,by rw [show N4 + 4 = 4 * (n + (m + 1)) by have:=HN4.out;have:=HII.out;omega],HOE.out,HB2.out⟩ | ((repeat apply Exists.intro);exact ⟨⟨m + 1,g2,cap2,by have:=HLT.out;omega,by rw [HII.out];go_num,by rw [HPV.out,HII.out];rfl,by rw [show N4 + 4 = 4 * (n + (m + 1)) by have:=HN4.out;have:=HII.out;omega],HOE.out,HB2.out⟩,rfl⟩)
       case measure => simp [intOf];have:=HII.out;have:=HLT.out;omega
    ·have H8:=hJ_ h8
     have HFV:=hJ_ (show Four V7 gt (tmp n i f) from ⟨HT7.out.1,fun r hr => by
      have e0:tmp n i f r = f r:=by unfold tmp;rw [if_neg HR.out,if_neg H8.out]
      rw [e0]
      exact HT7.out.2 r hr⟩)
     have HBV:=HB7
     have hgq:wr.heap.size ≤ gt:=by rw [HGT.out];exact Nat.le_refl _
     by_cases hn8:n = 8
     ·have q8:((n:Int) == 8) = true:=by rw [beq_iff_eq];omega
      obtain ⟨d8,hd8⟩:∃ d8,d8 = i % 8:=⟨_,rfl⟩
      have qm8:(i:Int) % 8 = (d8:Int):=by omega
      have qm9:(i:Int).tmod 8 = (d8:Int):=by rw [Int.tmod_eq_emod_of_nonneg (by omega)];exact qm8
      have qm4:((d8:Int) == 4) = false:=by rw [beq_eq_false_iff_ne];omega
      clear hd8
      clear h8 hn8
      go_upto_region 13 with fail
      clear qr qt q8 qm8 qm9 qm4
      have HOV:=hJ_ (a0y HO.out HBV.out)
      have HWV:=hJ_ (HB.out.trans (HBV.out.mono HB.out.size))
      have HGQ:=hJ_ (show g ≠ gt by have:=(a2w HO.out).2.2.2.2;omega)
      have HTB:=hJ_ (fun r => a6d n i HFB.out r)
      obtain ⟨T,hT⟩:∃ T,T = tmp n i f:=⟨_,rfl⟩
      have HTE:=hJ_ hT
      rw [← hT] at HFV HTB
      obtain ⟨C,hC⟩:∃ C:Nat → Nat,C = fun r => kx n K m m r ^^^ T r:=⟨_,rfl⟩
      have HCE:=hJ_ hC
      have HCK:=hJ_ (b2l n HKB.out m m)
      have qm:(i:Int) - (n:Int) = (m:Int):=by have:=HII.out;omega
      have qmb:(m:Int) ≤ 52:=by have:=HII.out;omega
      have qm0:(0:Int) ≤ (m:Int):=by omega
      have HI4:=hJ_ (show 4 * m + 4 ≤ N4 by have:=HII.out;have:=HN4.out;omega)
      have HN5:=hJ_ (show N4 ≤ 240 by have:=HN4.out;omega)
      clear hT hC hgq
      go_wp2_with fail
      go_loopw [4,8] (fun v q U => ∃ k g2 cap2:Nat,k ≤ 4 ∧ q = .int .i64 (k:Nat) ∧ v = .slice (some ⟨g2,0,none⟩) (N4 + k) cap2 ∧ U.ownsRow w.heap.size 5 1 (.slice (some ⟨g2,0,none⟩) (N4 + k) cap2) (N4 + k) ((a2i (kx n K m) i ++ (a7b C).take k).map (Value.int .u8)) ∧ Four U gt T ∧ g2 ≠ gt ∧ Below w.heap.size w U) (fun _ q _ => 4 - (intOf q).toNat)
      case atStart => exact ⟨0,g,cap,by omega,rfl,rfl,by rw [List.take_zero,List.append_nil];exact HOV.out,HFV.out,HGQ.out,HWV.out⟩
      case round =>
       obtain ⟨k,g2,cap2,hk,rfl,rfl,hO2,hF2,hg2,hB2⟩:=hrel
       rename World => U
       have HO2:=hJ_ hO2
       have HF2:=hJ_ hF2
       have HG2:=hJ_ hg2
       have HB2:=hJ_ hB2
       clear hO2 hF2 hg2 hB2
       by_cases hlt4:k < 4
       ·have hcw:U.cell? ⟨g2,4 * m + k,none⟩ = some (.int .u8 ((kx n K m m k:Nat):Int)):=by
         have h:=a0h HO2.out (4 * m + k) (by have:=HI4.out;omega)
         rw [Nat.zero_add,List.getD_eq_getElem?_getD,List.getElem?_append_left (by rw [a0p];have:=HI4.out;have:=HN4.out;omega),← List.getD_eq_getElem?_getD,a2f _ hlt4 _ (by have:=HII.out;omega)] at h
         exact h
        have hct:=HF2.out.2 k hlt4
        have hxr:=u8_xor_nat (kx n K m m k) (T k) (HCK.out k) (HTB.out k)
        have HCV:=hJ_ (show kx n K m m k ^^^ T k = C k by rw [HCE.out])
        obtain ⟨A,hA⟩:∃ A,A = kx n K m m k:=⟨_,rfl⟩
        obtain ⟨B,hB⟩:∃ B,B = T k:=⟨_,rfl⟩
        rw [← hA] at hcw hxr HCV
        rw [← hB] at hct hxr HCV
        rw [HCV.out] at hxr
        obtain ⟨Z,hZ⟩:∃ Z,Z = C k:=⟨_,rfl⟩
        have HZ:=hJ_ hZ
        rw [← hZ] at hxr
        obtain ⟨q0,hq0⟩:∃ q0,q0 = 4 * m + k:=⟨_,rfl⟩
        obtain ⟨m4,hm4⟩:∃ m4,m4 = 4 * m:=⟨_,rfl⟩
        obtain ⟨Lk,hLk⟩:∃ Lk,Lk = N4 + k:=⟨_,rfl⟩
        rw [← hq0] at hcw
        rw [← hLk] at HO2 ⊢
        have x0:4 * (m:Int) = (m4:Int):=by omega
        have x1:(m4:Int) + (k:Int) = (q0:Int):=by omega
        have y0:IntKind.i64.wrap (m:Int) = (m:Int):=IntWalk.i64_in _ (by omega)
        have y1:IntKind.i64.wrap (m4:Int) = (m4:Int):=IntWalk.i64_in _ (by omega)
        have y2:IntKind.i64.wrap (q0:Int) = (q0:Int):=IntWalk.i64_in _ (by omega)
        have z0:(q0:Int) < (Lk:Int):=by have:=HI4.out;omega
        have z1:(0:Int) ≤ (q0:Int):=by omega
        have z2:(k:Int) < 4:=by omega
        have z3:(0:Int) ≤ (k:Int):=by omega
        have HLK2:=hJ_ hLk
        have HK4:=hJ_ hlt4
        clear hA hB hZ hq0 hm4 hLk hlt4 hk
        go_wp2_with fail
        refine wp_region_held_drew (S:=fun _ => True) (by kernel_rfl) trivial (fun hHeld => ?_)
        refine tk 0 ⟨some 101,.move (.tmp 4),22,"ref.go:31",#[],none⟩ hHeld ?_
        try simp only [Act.put,p1',p2',p3']
        refine tk 1 ⟨some 102,.move (.tmp 4),22,"ref.go:31",#[],none⟩ hHeld ?_
        try simp only [Act.put,p1',p2',p3']
        refine tk 2 ⟨some 103,.move (.tmp 6),3,"ref.go:31",#[],none⟩ hHeld ?_
        try simp only [Act.put,p1',p2',p3']
        refine tk 3 ⟨some 104,.move (.tmp 3),3,"ref.go:31",#[],none⟩ hHeld ?_
        try simp only [Act.put,p1',p2',p3']
        refine tk 4 ⟨some 105,.binOp .sub 3 (.tmp 103) (.tmp 104) 3,3,"ref.go:31",#[⟨2,.data⟩,⟨3,.data⟩],none⟩ hHeld ?_
        try simp only [Act.put,p1',p2',p3']
        refine tk 5 ⟨some 106,.binOp .mul 3 (.const (.int .i64 4)) (.tmp 105) 3,3,"ref.go:31",#[⟨4,.data⟩],none⟩ hHeld ?_
        try simp only [Act.put,p1',p2',p3']
        refine tk 6 ⟨some 107,.move (.tmp 8),3,"ref.go:31",#[],none⟩ hHeld ?_
        try simp only [Act.put,p1',p2',p3']
        refine tk 7 ⟨some 108,.binOp .add 3 (.tmp 106) (.tmp 107) 3,3,"ref.go:31",#[⟨5,.data⟩,⟨6,.data⟩],none⟩ hHeld ?_
        try simp only [Act.put,p1',p2',p3']
        refine tk 8 ⟨some 109,.indexAddr 22 (.tmp 102) (.tmp 108),0,"ref.go:31",#[⟨1,.data⟩,⟨7,.data⟩],none⟩ hHeld ?_
        try simp only [Act.put,p1',p2',p3']
        refine tk 10 ⟨some 111,.move (.tmp 7),22,"ref.go:31",#[],none⟩ hHeld ?_
        try simp only [Act.put,p1',p2',p3']
        refine tk 11 ⟨some 112,.move (.tmp 8),3,"ref.go:31",#[],none⟩ hHeld ?_
        try simp only [Act.put,p1',p2',p3']
        refine tk 12 ⟨some 113,.indexAddr 22 (.tmp 111) (.tmp 112),0,"ref.go:31",#[⟨10,.data⟩,⟨11,.data⟩],none⟩ hHeld ?_
        try simp only [Act.put,p1',p2',p3']
        refine wpAnyH_ready (rs:=[9,13]) (by kernel_rfl) (by simp) ?_
        refine AllReadyH.cons (o:=⟨some 110,.load 5 (.tmp 109),5,"ref.go:31",#[⟨8,.data⟩],none⟩) rfl (fun K' hK => ?_) (AllReadyH.cons (o:=⟨some 114,.load 5 (.tmp 113),5,"ref.go:31",#[⟨12,.data⟩],none⟩) rfl (fun K' hK => ?_) AllReadyH.nil)
        ·rw [if_pos (by rfl)]
         have hcc:=hcw
         go_simp
         refine hK.out _ _ trivial (fun hHeld1 => ?_)
         clear hK K' hHeld
         have hHeld:=hHeld1
         clear hHeld1
         try simp only [Act.put,p1',p2',p3']
         refine wpAnyH_ready (rs:=[13]) (by kernel_rfl) (by simp) ?_
         refine AllReadyH.cons (o:=⟨some 114,.load 5 (.tmp 113),5,"ref.go:31",#[⟨12,.data⟩],none⟩) rfl (fun K' hK => ?_) AllReadyH.nil
         rw [if_pos (by rfl)]
         have hcc:=hct
         go_simp
         refine hK.out _ _ trivial (fun hHeld1 => ?_)
         clear hK K' hHeld
         have hHeld:=hHeld1
         clear hHeld1
         try simp only [Act.put,p1',p2',p3']
         refine tk 14 ⟨some 115,.binOp .xor 5 (.tmp 110) (.tmp 114) 5,5,"ref.go:31",#[⟨9,.data⟩,⟨13,.data⟩],none⟩ hHeld ?_
         try simp only [Act.put,p1',p2',p3']
         refine wpAnyH_ready (rs:=[15]) (by kernel_rfl) (by simp) ?_
         refine AllReadyH.cons (o:=⟨some 116,.buildSlice 22 1 #[(0,.tmp 115)],22,"ref.go:31",#[⟨14,.data⟩],none⟩) rfl (fun K' hK => ?_) AllReadyH.nil
         rw [if_pos (by rfl)]
         go_simp
         change K' _ (U.drew.alloc (.cells #[.int .u8 ((Z:Nat):Int)] 5))
         refine hK.out _ _ trivial (fun hHeld1 => ?_)
         clear hK K' hHeld
         have hHeld:=hHeld1
         clear hHeld1
         try simp only [Act.put,p1',p2',p3']
         obtain ⟨VA,hVA⟩:∃ X,X = U.drew.alloc (.cells #[.int .u8 ((Z:Nat):Int)] 5):=⟨_,rfl⟩
         have HVB:=hJ_ (show Below U.heap.size U VA by rw [hVA];exact ((Below.refl U.heap.size U).drew).alloc (Nat.le_refl _) _)
         have HVN:=hJ_ (show VA.heap[U.heap.size]? = some (.cells #[.int .u8 ((Z:Nat):Int)] 5 (0,0)) by rw [hVA];exact heap_alloc_new _ _)
         have HVO:=hJ_ (show VA.ownsRow w.heap.size 5 1 (.slice (some ⟨g2,0,none⟩) Lk cap2) Lk ((a2i (kx n K m) i ++ (a7b C).take k).map (Value.int .u8)) by rw [hVA];exact World.ownsRow.alloc (own_drewN HO2.out 1) _)
         rw [← hVA]
         clear hVA
         refine wpAnyH_ready (rs:=[16]) (by kernel_rfl) (by simp) ?_
         refine AllReadyH.cons (o:=⟨some 117,.call { callee:=.builtin .append,args:=#[.tmp 101,.tmp 116],argTypes:=#[22,22] },22,"ref.go:31",#[⟨0,.data⟩,⟨15,.data⟩],none⟩) rfl (fun K' hK => ?_) AllReadyH.nil
         rw [if_pos (by rfl)]
         refine wp_append_lies _ (.tmp 101) (.tmp 116) 22 rfl w.heap.size 5 i5 (.int .u8 0) 1 1 Tryz.underlying22 HI.out.1 HI.out.2.1 HI.out.2.2.1 HI.out.2.2.2 rfl (by decide) (.slice (some ⟨g2,0,none⟩) Lk cap2) Lk _ (by rfl) HVO.out ⟨U.heap.size,0,none⟩ 1 1 [.int .u8 ((Z:Nat):Int)] (by rfl) rfl (World.news_of_block HVN.out) (by intro u hu;cases List.mem_singleton.1 hu;rfl) (by omega) (by unfold maxLen;have:=HN5.out;have:=HLK2.out;have:=HK4.out;omega) (by have:=HN5.out;have:=HLK2.out;have:=HK4.out;omega) (by have:=HVB.out.size;have:=HB2.out.size;omega) _ rfl ?_
         intro g3 c3 w9 ho9 hg9 hor9 _
         have HO9:=hJ_ ho9
         have HG9:=hJ_ hg9
         have HR9:=hJ_ hor9
         clear ho9 hg9 hor9
         refine hK.out _ _ trivial (fun hHeld1 => ?_)
         clear hK K' hHeld
         have hHeld:=hHeld1
         clear hHeld1
         try simp only [Act.put,p1',p2',p3']
         refine tk 17 ⟨some 4,.assign (.tmp 117),22,"ref.go:31",#[⟨16,.data⟩,⟨16,.chain⟩,⟨0,.phase⟩,⟨1,.phase⟩,⟨2,.phase⟩,⟨3,.phase⟩,⟨4,.phase⟩,⟨5,.phase⟩,⟨6,.phase⟩,⟨7,.phase⟩,⟨8,.phase⟩,⟨9,.phase⟩,⟨10,.phase⟩,⟨11,.phase⟩,⟨12,.phase⟩,⟨13,.phase⟩,⟨14,.phase⟩,⟨15,.phase⟩,⟨16,.phase⟩],none⟩ hHeld ?_
         try simp only [Act.put,p1',p2',p3']
         refine wpAnyH_done (by kernel_rfl) ?_ _
         clear hHeld
         go_wp2
         go_roundw
         case rel =>
          have hgu:=HF2.out.1
          have hne:=HG2.out
          have hvs:=HVB.out.size
          have hlk:=HLK2.out
          refine ⟨k + 1,g3,c3,by have:=HK4.out;omega,by go_num,by rw [hlk];rfl,?_,⟨?_,fun r hr => ?_⟩,?_,?_⟩
          ·have h:=HO9.out
           rw [hlk] at h
           rw [a3q C HK4.out,← List.append_assoc,List.map_append,← HZ.out]
           exact h
          ·have:=HG9.out.size;omega
          ·exact (HG9.out.cell_far ⟨gt,r,none⟩ (by show gt < VA.heap.size;omega) (fun e => hne (Option.some.inj e).symm)).trans ((HVB.out.cell (p:=⟨gt,r,none⟩) hgu).trans (HF2.out.2 r hr))
          ·rcases HR9.out with h | h
           ·have:g2 = g3:=Option.some.inj h
            omega
           ·omega
          ·exact (HB2.out.trans (HVB.out.mono HB2.out.size)).grown HG9.out (by have:=HB2.out.size;omega) (fun z hz => (HO2.out.lt z hz).1)
         case measure => simp [intOf];have:=HK4.out;omega
        ·rw [if_pos (by rfl)]
         have hcc:=hct
         go_simp
         refine hK.out _ _ trivial (fun hHeld1 => ?_)
         clear hK K' hHeld
         have hHeld:=hHeld1
         clear hHeld1
         try simp only [Act.put,p1',p2',p3']
         refine wpAnyH_ready (rs:=[9]) (by kernel_rfl) (by simp) ?_
         refine AllReadyH.cons (o:=⟨some 110,.load 5 (.tmp 109),5,"ref.go:31",#[⟨8,.data⟩],none⟩) rfl (fun K' hK => ?_) AllReadyH.nil
         rw [if_pos (by rfl)]
         have hcc:=hcw
         go_simp
         refine hK.out _ _ trivial (fun hHeld1 => ?_)
         clear hK K' hHeld
         have hHeld:=hHeld1
         clear hHeld1
         try simp only [Act.put,p1',p2',p3']
         refine tk 14 ⟨some 115,.binOp .xor 5 (.tmp 110) (.tmp 114) 5,5,"ref.go:31",#[⟨9,.data⟩,⟨13,.data⟩],none⟩ hHeld ?_
         try simp only [Act.put,p1',p2',p3']
         refine wpAnyH_ready (rs:=[15]) (by kernel_rfl) (by simp) ?_
         refine AllReadyH.cons (o:=⟨some 116,.buildSlice 22 1 #[(0,.tmp 115)],22,"ref.go:31",#[⟨14,.data⟩],none⟩) rfl (fun K' hK => ?_) AllReadyH.nil
         rw [if_pos (by rfl)]
         go_simp
         change K' _ (U.drew.alloc (.cells #[.int .u8 ((Z:Nat):Int)] 5))
         refine hK.out _ _ trivial (fun hHeld1 => ?_)
         clear hK K' hHeld
         have hHeld:=hHeld1
         clear hHeld1
         try simp only [Act.put,p1',p2',p3']
         obtain ⟨VA,hVA⟩:∃ X,X = U.drew.alloc (.cells #[.int .u8 ((Z:Nat):Int)] 5):=⟨_,rfl⟩
         have HVB:=hJ_ (show Below U.heap.size U VA by rw [hVA];exact ((Below.refl U.heap.size U).drew).alloc (Nat.le_refl _) _)
         have HVN:=hJ_ (show VA.heap[U.heap.size]? = some (.cells #[.int .u8 ((Z:Nat):Int)] 5 (0,0)) by rw [hVA];exact heap_alloc_new _ _)
         have HVO:=hJ_ (show VA.ownsRow w.heap.size 5 1 (.slice (some ⟨g2,0,none⟩) Lk cap2) Lk ((a2i (kx n K m) i ++ (a7b C).take k).map (Value.int .u8)) by rw [hVA];exact World.ownsRow.alloc (own_drewN HO2.out 1) _)
         rw [← hVA]
         clear hVA
         refine wpAnyH_ready (rs:=[16]) (by kernel_rfl) (by simp) ?_
         refine AllReadyH.cons (o:=⟨some 117,.call { callee:=.builtin .append,args:=#[.tmp 101,.tmp 116],argTypes:=#[22,22] },22,"ref.go:31",#[⟨0,.data⟩,⟨15,.data⟩],none⟩) rfl (fun K' hK => ?_) AllReadyH.nil
         rw [if_pos (by rfl)]
         refine wp_append_lies _ (.tmp 101) (.tmp 116) 22 rfl w.heap.size 5 i5 (.int .u8 0) 1 1 Tryz.underlying22 HI.out.1 HI.out.2.1 HI.out.2.2.1 HI.out.2.2.2 rfl (by decide) (.slice (some ⟨g2,0,none⟩) Lk cap2) Lk _ (by rfl) HVO.out ⟨U.heap.size,0,none⟩ 1 1 [.int .u8 ((Z:Nat):Int)] (by rfl) rfl (World.news_of_block HVN.out) (by intro u hu;cases List.mem_singleton.1 hu;rfl) (by omega) (by unfold maxLen;have:=HN5.out;have:=HLK2.out;have:=HK4.out;omega) (by have:=HN5.out;have:=HLK2.out;have:=HK4.out;omega) (by have:=HVB.out.size;have:=HB2.out.size;omega) _ rfl ?_
         intro g3 c3 w9 ho9 hg9 hor9 _
         have HO9:=hJ_ ho9
         have HG9:=hJ_ hg9
         have HR9:=hJ_ hor9
         clear ho9 hg9 hor9
         refine hK.out _ _ trivial (fun hHeld1 => ?_)
         clear hK K' hHeld
         have hHeld:=hHeld1
         clear hHeld1
         try simp only [Act.put,p1',p2',p3']
         refine tk 17 ⟨some 4,.assign (.tmp 117),22,"ref.go:31",#[⟨16,.data⟩,⟨16,.chain⟩,⟨0,.phase⟩,⟨1,.phase⟩,⟨2,.phase⟩,⟨3,.phase⟩,⟨4,.phase⟩,⟨5,.phase⟩,⟨6,.phase⟩,⟨7,.phase⟩,⟨8,.phase⟩,⟨9,.phase⟩,⟨10,.phase⟩,⟨11,.phase⟩,⟨12,.phase⟩,⟨13,.phase⟩,⟨14,.phase⟩,⟨15,.phase⟩,⟨16,.phase⟩],none⟩ hHeld ?_
         try simp only [Act.put,p1',p2',p3']
         refine wpAnyH_done (by kernel_rfl) ?_ _
         clear hHeld
         go_wp2
         go_roundw
         case rel =>
          have hgu:=HF2.out.1
          have hne:=HG2.out
          have hvs:=HVB.out.size
          have hlk:=HLK2.out
          refine ⟨k + 1,g3,c3,by have:=HK4.out;omega,by go_num,by rw [hlk];rfl,?_,⟨?_,fun r hr => ?_⟩,?_,?_⟩
          ·have h:=HO9.out
           rw [hlk] at h
           rw [a3q C HK4.out,← List.append_assoc,List.map_append,← HZ.out]
           exact h
          ·have:=HG9.out.size;omega
          ·exact (HG9.out.cell_far ⟨gt,r,none⟩ (by show gt < VA.heap.size;omega) (fun e => hne (Option.some.inj e).symm)).trans ((HVB.out.cell (p:=⟨gt,r,none⟩) hgu).trans (HF2.out.2 r hr))
          ·rcases HR9.out with h | h
           ·have:g2 = g3:=Option.some.inj h
            omega
           ·omega
          ·exact (HB2.out.trans (HVB.out.mono HB2.out.size)).grown HG9.out (by have:=HB2.out.size;omega) (fun z hz => (HO2.out.lt z hz).1)
         case measure => simp [intOf];have:=HK4.out;omega
       ·obtain rfl:k = 4:=by omega
        have HOE:=hJ_ (show U.ownsRow w.heap.size 5 1 (.slice (some ⟨g2,0,none⟩) (4 * (n + (m + 1))) cap2) (4 * (n + (m + 1))) ((a2i (kx n K (m + 1)) (n + (m + 1))).map (Value.int .u8)) by
         have h:=HO2.out
         rw [show (a7b C).take 4 = a7b C from rfl] at h
         have e:N4 + 4 = 4 * (n + (m + 1)):=by have:=HN4.out;have:=HII.out;omega
         have e2:a2i (kx n K m) i ++ a7b C = a2i (kx n K (m + 1)) (n + (m + 1)):=by
          rw [show n + (m + 1) = i + 1 by have:=HII.out;omega,a2i]
          have h1:a2i (kx n K (m + 1)) i = a2i (kx n K m) i:=a3h i (fun j hj => a9m K (by have:=HII.out;omega))
          have h2:kx n K (m + 1) i = C:=by rw [HII.out,a9b,HCE.out,HTE.out,HF.out,HII.out]
          rw [h1,h2]
         rw [e,e2] at h
         exact h)
        go_wp2
        go_roundw
        case rel => first | exact ⟨m + 1,g2,cap2,by have:=HLT.out;omega,by rw [HII.out];go_num,by rw [HPV.out,HII.out];rfl,by rw [show N4 + 4 = 4 * (n + (m + 1)) by have:=HN4.out;have:=HII.out;omega],HOE.out,HB2.out⟩ | ((repeat apply Exists.intro);exact ⟨⟨m + 1,g2,cap2,by have:=HLT.out;omega,by rw [HII.out];go_num,by rw [HPV.out,HII.out];rfl,by rw [show N4 + 4 = 4 * (n + (m + 1)) by have:=HN4.out;have:=HII.out;omega],HOE.out,HB2.out⟩,rfl⟩)
        case measure => simp [intOf];have:=HII.out;have:=HLT.out;omega
     ·have q8:((n:Int) == 8) = false:=by rw [beq_eq_false_iff_ne];omega
      clear h8 hn8
      go_upto_region 13 with fail
      clear qr qt q8
      have HOV:=hJ_ (a0y HO.out HBV.out)
      have HWV:=hJ_ (HB.out.trans (HBV.out.mono HB.out.size))
      have HGQ:=hJ_ (show g ≠ gt by have:=(a2w HO.out).2.2.2.2;omega)
      have HTB:=hJ_ (fun r => a6d n i HFB.out r)
      obtain ⟨T,hT⟩:∃ T,T = tmp n i f:=⟨_,rfl⟩
      have HTE:=hJ_ hT
      rw [← hT] at HFV HTB
      obtain ⟨C,hC⟩:∃ C:Nat → Nat,C = fun r => kx n K m m r ^^^ T r:=⟨_,rfl⟩
      have HCE:=hJ_ hC
      have HCK:=hJ_ (b2l n HKB.out m m)
      have qm:(i:Int) - (n:Int) = (m:Int):=by have:=HII.out;omega
      have qmb:(m:Int) ≤ 52:=by have:=HII.out;omega
      have qm0:(0:Int) ≤ (m:Int):=by omega
      have HI4:=hJ_ (show 4 * m + 4 ≤ N4 by have:=HII.out;have:=HN4.out;omega)
      have HN5:=hJ_ (show N4 ≤ 240 by have:=HN4.out;omega)
      clear hT hC hgq
      go_wp2_with fail
      go_loopw [4,8] (fun v q U => ∃ k g2 cap2:Nat,k ≤ 4 ∧ q = .int .i64 (k:Nat) ∧ v = .slice (some ⟨g2,0,none⟩) (N4 + k) cap2 ∧ U.ownsRow w.heap.size 5 1 (.slice (some ⟨g2,0,none⟩) (N4 + k) cap2) (N4 + k) ((a2i (kx n K m) i ++ (a7b C).take k).map (Value.int .u8)) ∧ Four U gt T ∧ g2 ≠ gt ∧ Below w.heap.size w U) (fun _ q _ => 4 - (intOf q).toNat)
      case atStart => exact ⟨0,g,cap,by omega,rfl,rfl,by rw [List.take_zero,List.append_nil];exact HOV.out,HFV.out,HGQ.out,HWV.out⟩
      case round =>
       obtain ⟨k,g2,cap2,hk,rfl,rfl,hO2,hF2,hg2,hB2⟩:=hrel
       rename World => U
       have HO2:=hJ_ hO2
       have HF2:=hJ_ hF2
       have HG2:=hJ_ hg2
       have HB2:=hJ_ hB2
       clear hO2 hF2 hg2 hB2
       by_cases hlt4:k < 4
       ·have hcw:U.cell? ⟨g2,4 * m + k,none⟩ = some (.int .u8 ((kx n K m m k:Nat):Int)):=by
         have h:=a0h HO2.out (4 * m + k) (by have:=HI4.out;omega)
         rw [Nat.zero_add,List.getD_eq_getElem?_getD,List.getElem?_append_left (by rw [a0p];have:=HI4.out;have:=HN4.out;omega),← List.getD_eq_getElem?_getD,a2f _ hlt4 _ (by have:=HII.out;omega)] at h
         exact h
        have hct:=HF2.out.2 k hlt4
        have hxr:=u8_xor_nat (kx n K m m k) (T k) (HCK.out k) (HTB.out k)
        have HCV:=hJ_ (show kx n K m m k ^^^ T k = C k by rw [HCE.out])
        obtain ⟨A,hA⟩:∃ A,A = kx n K m m k:=⟨_,rfl⟩
        obtain ⟨B,hB⟩:∃ B,B = T k:=⟨_,rfl⟩
        rw [← hA] at hcw hxr HCV
        rw [← hB] at hct hxr HCV
        rw [HCV.out] at hxr
        obtain ⟨Z,hZ⟩:∃ Z,Z = C k:=⟨_,rfl⟩
        have HZ:=hJ_ hZ
        rw [← hZ] at hxr
        obtain ⟨q0,hq0⟩:∃ q0,q0 = 4 * m + k:=⟨_,rfl⟩
        obtain ⟨m4,hm4⟩:∃ m4,m4 = 4 * m:=⟨_,rfl⟩
        obtain ⟨Lk,hLk⟩:∃ Lk,Lk = N4 + k:=⟨_,rfl⟩
        rw [← hq0] at hcw
        rw [← hLk] at HO2 ⊢
        have x0:4 * (m:Int) = (m4:Int):=by omega
        have x1:(m4:Int) + (k:Int) = (q0:Int):=by omega
        have y0:IntKind.i64.wrap (m:Int) = (m:Int):=IntWalk.i64_in _ (by omega)
        have y1:IntKind.i64.wrap (m4:Int) = (m4:Int):=IntWalk.i64_in _ (by omega)
        have y2:IntKind.i64.wrap (q0:Int) = (q0:Int):=IntWalk.i64_in _ (by omega)
        have z0:(q0:Int) < (Lk:Int):=by have:=HI4.out;omega
        have z1:(0:Int) ≤ (q0:Int):=by omega
        have z2:(k:Int) < 4:=by omega
        have z3:(0:Int) ≤ (k:Int):=by omega
        have HLK2:=hJ_ hLk
        have HK4:=hJ_ hlt4
        clear hA hB hZ hq0 hm4 hLk hlt4 hk
        go_wp2_with fail
        refine wp_region_held_drew (S:=fun _ => True) (by kernel_rfl) trivial (fun hHeld => ?_)
        refine tk 0 ⟨some 101,.move (.tmp 4),22,"ref.go:31",#[],none⟩ hHeld ?_
        try simp only [Act.put,p1',p2',p3']
        refine tk 1 ⟨some 102,.move (.tmp 4),22,"ref.go:31",#[],none⟩ hHeld ?_
        try simp only [Act.put,p1',p2',p3']
        refine tk 2 ⟨some 103,.move (.tmp 6),3,"ref.go:31",#[],none⟩ hHeld ?_
        try simp only [Act.put,p1',p2',p3']
        refine tk 3 ⟨some 104,.move (.tmp 3),3,"ref.go:31",#[],none⟩ hHeld ?_
        try simp only [Act.put,p1',p2',p3']
        refine tk 4 ⟨some 105,.binOp .sub 3 (.tmp 103) (.tmp 104) 3,3,"ref.go:31",#[⟨2,.data⟩,⟨3,.data⟩],none⟩ hHeld ?_
        try simp only [Act.put,p1',p2',p3']
        refine tk 5 ⟨some 106,.binOp .mul 3 (.const (.int .i64 4)) (.tmp 105) 3,3,"ref.go:31",#[⟨4,.data⟩],none⟩ hHeld ?_
        try simp only [Act.put,p1',p2',p3']
        refine tk 6 ⟨some 107,.move (.tmp 8),3,"ref.go:31",#[],none⟩ hHeld ?_
        try simp only [Act.put,p1',p2',p3']
        refine tk 7 ⟨some 108,.binOp .add 3 (.tmp 106) (.tmp 107) 3,3,"ref.go:31",#[⟨5,.data⟩,⟨6,.data⟩],none⟩ hHeld ?_
        try simp only [Act.put,p1',p2',p3']
        refine tk 8 ⟨some 109,.indexAddr 22 (.tmp 102) (.tmp 108),0,"ref.go:31",#[⟨1,.data⟩,⟨7,.data⟩],none⟩ hHeld ?_
        try simp only [Act.put,p1',p2',p3']
        refine tk 10 ⟨some 111,.move (.tmp 7),22,"ref.go:31",#[],none⟩ hHeld ?_
        try simp only [Act.put,p1',p2',p3']
        refine tk 11 ⟨some 112,.move (.tmp 8),3,"ref.go:31",#[],none⟩ hHeld ?_
        try simp only [Act.put,p1',p2',p3']
        refine tk 12 ⟨some 113,.indexAddr 22 (.tmp 111) (.tmp 112),0,"ref.go:31",#[⟨10,.data⟩,⟨11,.data⟩],none⟩ hHeld ?_
        try simp only [Act.put,p1',p2',p3']
        refine wpAnyH_ready (rs:=[9,13]) (by kernel_rfl) (by simp) ?_
        refine AllReadyH.cons (o:=⟨some 110,.load 5 (.tmp 109),5,"ref.go:31",#[⟨8,.data⟩],none⟩) rfl (fun K' hK => ?_) (AllReadyH.cons (o:=⟨some 114,.load 5 (.tmp 113),5,"ref.go:31",#[⟨12,.data⟩],none⟩) rfl (fun K' hK => ?_) AllReadyH.nil)
        ·rw [if_pos (by rfl)]
         have hcc:=hcw
         go_simp
         refine hK.out _ _ trivial (fun hHeld1 => ?_)
         clear hK K' hHeld
         have hHeld:=hHeld1
         clear hHeld1
         try simp only [Act.put,p1',p2',p3']
         refine wpAnyH_ready (rs:=[13]) (by kernel_rfl) (by simp) ?_
         refine AllReadyH.cons (o:=⟨some 114,.load 5 (.tmp 113),5,"ref.go:31",#[⟨12,.data⟩],none⟩) rfl (fun K' hK => ?_) AllReadyH.nil
         rw [if_pos (by rfl)]
         have hcc:=hct
         go_simp
         refine hK.out _ _ trivial (fun hHeld1 => ?_)
         clear hK K' hHeld
         have hHeld:=hHeld1
         clear hHeld1
         try simp only [Act.put,p1',p2',p3']
         refine tk 14 ⟨some 115,.binOp .xor 5 (.tmp 110) (.tmp 114) 5,5,"ref.go:31",#[⟨9,.data⟩,⟨13,.data⟩],none⟩ hHeld ?_
         try simp only [Act.put,p1',p2',p3']
         refine wpAnyH_ready (rs:=[15]) (by kernel_rfl) (by simp) ?_
         refine AllReadyH.cons (o:=⟨some 116,.buildSlice 22 1 #[(0,.tmp 115)],22,"ref.go:31",#[⟨14,.data⟩],none⟩) rfl (fun K' hK => ?_) AllReadyH.nil
         rw [if_pos (by rfl)]
         go_simp
         change K' _ (U.drew.alloc (.cells #[.int .u8 ((Z:Nat):Int)] 5))
         refine hK.out _ _ trivial (fun hHeld1 => ?_)
         clear hK K' hHeld
         have hHeld:=hHeld1
         clear hHeld1
         try simp only [Act.put,p1',p2',p3']
         obtain ⟨VA,hVA⟩:∃ X,X = U.drew.alloc (.cells #[.int .u8 ((Z:Nat):Int)] 5):=⟨_,rfl⟩
         have HVB:=hJ_ (show Below U.heap.size U VA by rw [hVA];exact ((Below.refl U.heap.size U).drew).alloc (Nat.le_refl _) _)
         have HVN:=hJ_ (show VA.heap[U.heap.size]? = some (.cells #[.int .u8 ((Z:Nat):Int)] 5 (0,0)) by rw [hVA];exact heap_alloc_new _ _)
         have HVO:=hJ_ (show VA.ownsRow w.heap.size 5 1 (.slice (some ⟨g2,0,none⟩) Lk cap2) Lk ((a2i (kx n K m) i ++ (a7b C).take k).map (Value.int .u8)) by rw [hVA];exact World.ownsRow.alloc (own_drewN HO2.out 1) _)
         rw [← hVA]
         clear hVA
         refine wpAnyH_ready (rs:=[16]) (by kernel_rfl) (by simp) ?_
         refine AllReadyH.cons (o:=⟨some 117,.call { callee:=.builtin .append,args:=#[.tmp 101,.tmp 116],argTypes:=#[22,22] },22,"ref.go:31",#[⟨0,.data⟩,⟨15,.data⟩],none⟩) rfl (fun K' hK => ?_) AllReadyH.nil
         rw [if_pos (by rfl)]
         refine wp_append_lies _ (.tmp 101) (.tmp 116) 22 rfl w.heap.size 5 i5 (.int .u8 0) 1 1 Tryz.underlying22 HI.out.1 HI.out.2.1 HI.out.2.2.1 HI.out.2.2.2 rfl (by decide) (.slice (some ⟨g2,0,none⟩) Lk cap2) Lk _ (by rfl) HVO.out ⟨U.heap.size,0,none⟩ 1 1 [.int .u8 ((Z:Nat):Int)] (by rfl) rfl (World.news_of_block HVN.out) (by intro u hu;cases List.mem_singleton.1 hu;rfl) (by omega) (by unfold maxLen;have:=HN5.out;have:=HLK2.out;have:=HK4.out;omega) (by have:=HN5.out;have:=HLK2.out;have:=HK4.out;omega) (by have:=HVB.out.size;have:=HB2.out.size;omega) _ rfl ?_
         intro g3 c3 w9 ho9 hg9 hor9 _
         have HO9:=hJ_ ho9
         have HG9:=hJ_ hg9
         have HR9:=hJ_ hor9
         clear ho9 hg9 hor9
         refine hK.out _ _ trivial (fun hHeld1 => ?_)
         clear hK K' hHeld
         have hHeld:=hHeld1
         clear hHeld1
         try simp only [Act.put,p1',p2',p3']
         refine tk 17 ⟨some 4,.assign (.tmp 117),22,"ref.go:31",#[⟨16,.data⟩,⟨16,.chain⟩,⟨0,.phase⟩,⟨1,.phase⟩,⟨2,.phase⟩,⟨3,.phase⟩,⟨4,.phase⟩,⟨5,.phase⟩,⟨6,.phase⟩,⟨7,.phase⟩,⟨8,.phase⟩,⟨9,.phase⟩,⟨10,.phase⟩,⟨11,.phase⟩,⟨12,.phase⟩,⟨13,.phase⟩,⟨14,.phase⟩,⟨15,.phase⟩,⟨16,.phase⟩],none⟩ hHeld ?_
         try simp only [Act.put,p1',p2',p3']
         refine wpAnyH_done (by kernel_rfl) ?_ _
         clear hHeld
         go_wp2
         go_roundw
         case rel =>
          have hgu:=HF2.out.1
          have hne:=HG2.out
          have hvs:=HVB.out.size
          have hlk:=HLK2.out
          refine ⟨k + 1,g3,c3,by have:=HK4.out;omega,by go_num,by rw [hlk];rfl,?_,⟨?_,fun r hr => ?_⟩,?_,?_⟩
          ·have h:=HO9.out
           rw [hlk] at h
           rw [a3q C HK4.out,← List.append_assoc,List.map_append,← HZ.out]
           exact h
          ·have:=HG9.out.size;omega
          ·exact (HG9.out.cell_far ⟨gt,r,none⟩ (by show gt < VA.heap.size;omega) (fun e => hne (Option.some.inj e).symm)).trans ((HVB.out.cell (p:=⟨gt,r,none⟩) hgu).trans (HF2.out.2 r hr))
          ·rcases HR9.out with h | h
           ·have:g2 = g3:=Option.some.inj h
            omega
           ·omega
          ·exact (HB2.out.trans (HVB.out.mono HB2.out.size)).grown HG9.out (by have:=HB2.out.size;omega) (fun z hz => (HO2.out.lt z hz).1)
         case measure => simp [intOf];have:=HK4.out;omega
        ·rw [if_pos (by rfl)]
         have hcc:=hct
         go_simp
         refine hK.out _ _ trivial (fun hHeld1 => ?_)
         clear hK K' hHeld
         have hHeld:=hHeld1
         clear hHeld1
         try simp only [Act.put,p1',p2',p3']
         refine wpAnyH_ready (rs:=[9]) (by kernel_rfl) (by simp) ?_
         refine AllReadyH.cons (o:=⟨some 110,.load 5 (.tmp 109),5,"ref.go:31",#[⟨8,.data⟩],none⟩) rfl (fun K' hK => ?_) AllReadyH.nil
         rw [if_pos (by rfl)]
         have hcc:=hcw
         go_simp
         refine hK.out _ _ trivial (fun hHeld1 => ?_)
         clear hK K' hHeld
         have hHeld:=hHeld1
         clear hHeld1
         try simp only [Act.put,p1',p2',p3']
         refine tk 14 ⟨some 115,.binOp .xor 5 (.tmp 110) (.tmp 114) 5,5,"ref.go:31",#[⟨9,.data⟩,⟨13,.data⟩],none⟩ hHeld ?_
         try simp only [Act.put,p1',p2',p3']
         refine wpAnyH_ready (rs:=[15]) (by kernel_rfl) (by simp) ?_
         refine AllReadyH.cons (o:=⟨some 116,.buildSlice 22 1 #[(0,.tmp 115)],22,"ref.go:31",#[⟨14,.data⟩],none⟩) rfl (fun K' hK => ?_) AllReadyH.nil
         rw [if_pos (by rfl)]
         go_simp
         change K' _ (U.drew.alloc (.cells #[.int .u8 ((Z:Nat):Int)] 5))
         refine hK.out _ _ trivial (fun hHeld1 => ?_)
         clear hK K' hHeld
         have hHeld:=hHeld1
         clear hHeld1
         try simp only [Act.put,p1',p2',p3']
         obtain ⟨VA,hVA⟩:∃ X,X = U.drew.alloc (.cells #[.int .u8 ((Z:Nat):Int)] 5):=⟨_,rfl⟩
         have HVB:=hJ_ (show Below U.heap.size U VA by rw [hVA];exact ((Below.refl U.heap.size U).drew).alloc (Nat.le_refl _) _)
         have HVN:=hJ_ (show VA.heap[U.heap.size]? = some (.cells #[.int .u8 ((Z:Nat):Int)] 5 (0,0)) by rw [hVA];exact heap_alloc_new _ _)
         have HVO:=hJ_ (show VA.ownsRow w.heap.size 5 1 (.slice (some ⟨g2,0,none⟩) Lk cap2) Lk ((a2i (kx n K m) i ++ (a7b C).take k).map (Value.int .u8)) by rw [hVA];exact World.ownsRow.alloc (own_drewN HO2.out 1) _)
         rw [← hVA]
         clear hVA
         refine wpAnyH_ready (rs:=[16]) (by kernel_rfl) (by simp) ?_
         refine AllReadyH.cons (o:=⟨some 117,.call { callee:=.builtin .append,args:=#[.tmp 101,.tmp 116],argTypes:=#[22,22] },22,"ref.go:31",#[⟨0,.data⟩,⟨15,.data⟩],none⟩) rfl (fun K' hK => ?_) AllReadyH.nil
         rw [if_pos (by rfl)]
         refine wp_append_lies _ (.tmp 101) (.tmp 116) 22 rfl w.heap.size 5 i5 (.int .u8 0) 1 1 Tryz.underlying22 HI.out.1 HI.out.2.1 HI.out.2.2.1 HI.out.2.2.2 rfl (by decide) (.slice (some ⟨g2,0,none⟩) Lk cap2) Lk _ (by rfl) HVO.out ⟨U.heap.size,0,none⟩ 1 1 [.int .u8 ((Z:Nat):Int)] (by rfl) rfl (World.news_of_block HVN.out) (by intro u hu;cases List.mem_singleton.1 hu;rfl) (by omega) (by unfold maxLen;have:=HN5.out;have:=HLK2.out;have:=HK4.out;omega) (by have:=HN5.out;have:=HLK2.out;have:=HK4.out;omega) (by have:=HVB.out.size;have:=HB2.out.size;omega) _ rfl ?_
         intro g3 c3 w9 ho9 hg9 hor9 _
         have HO9:=hJ_ ho9
         have HG9:=hJ_ hg9
         have HR9:=hJ_ hor9
         clear ho9 hg9 hor9
         refine hK.out _ _ trivial (fun hHeld1 => ?_)
         clear hK K' hHeld
         have hHeld:=hHeld1
         clear hHeld1
         try simp only [Act.put,p1',p2',p3']
         refine tk 17 ⟨some 4,.assign (.tmp 117),22,"ref.go:31",#[⟨16,.data⟩,⟨16,.chain⟩,⟨0,.phase⟩,⟨1,.phase⟩,⟨2,.phase⟩,⟨3,.phase⟩,⟨4,.phase⟩,⟨5,.phase⟩,⟨6,.phase⟩,⟨7,.phase⟩,⟨8,.phase⟩,⟨9,.phase⟩,⟨10,.phase⟩,⟨11,.phase⟩,⟨12,.phase⟩,⟨13,.phase⟩,⟨14,.phase⟩,⟨15,.phase⟩,⟨16,.phase⟩],none⟩ hHeld ?_
         try simp only [Act.put,p1',p2',p3']
         refine wpAnyH_done (by kernel_rfl) ?_ _
         clear hHeld
         go_wp2
         go_roundw
         case rel =>
          have hgu:=HF2.out.1
          have hne:=HG2.out
          have hvs:=HVB.out.size
          have hlk:=HLK2.out
          refine ⟨k + 1,g3,c3,by have:=HK4.out;omega,by go_num,by rw [hlk];rfl,?_,⟨?_,fun r hr => ?_⟩,?_,?_⟩
          ·have h:=HO9.out
           rw [hlk] at h
           rw [a3q C HK4.out,← List.append_assoc,List.map_append,← HZ.out]
           exact h
          ·have:=HG9.out.size;omega
          ·exact (HG9.out.cell_far ⟨gt,r,none⟩ (by show gt < VA.heap.size;omega) (fun e => hne (Option.some.inj e).symm)).trans ((HVB.out.cell (p:=⟨gt,r,none⟩) hgu).trans (HF2.out.2 r hr))
          ·rcases HR9.out with h | h
           ·have:g2 = g3:=Option.some.inj h
            omega
           ·omega
          ·exact (HB2.out.trans (HVB.out.mono HB2.out.size)).grown HG9.out (by have:=HB2.out.size;omega) (fun z hz => (HO2.out.lt z hz).1)
         case measure => simp [intOf];have:=HK4.out;omega
       ·obtain rfl:k = 4:=by omega
        have HOE:=hJ_ (show U.ownsRow w.heap.size 5 1 (.slice (some ⟨g2,0,none⟩) (4 * (n + (m + 1))) cap2) (4 * (n + (m + 1))) ((a2i (kx n K (m + 1)) (n + (m + 1))).map (Value.int .u8)) by
         have h:=HO2.out
         rw [show (a7b C).take 4 = a7b C from rfl] at h
         have e:N4 + 4 = 4 * (n + (m + 1)):=by have:=HN4.out;have:=HII.out;omega
         have e2:a2i (kx n K m) i ++ a7b C = a2i (kx n K (m + 1)) (n + (m + 1)):=by
          rw [show n + (m + 1) = i + 1 by have:=HII.out;omega,a2i]
          have h1:a2i (kx n K (m + 1)) i = a2i (kx n K m) i:=a3h i (fun j hj => a9m K (by have:=HII.out;omega))
          have h2:kx n K (m + 1) i = C:=by rw [HII.out,a9b,HCE.out,HTE.out,HF.out,HII.out]
          rw [h1,h2]
         rw [e,e2] at h
         exact h)
        go_wp2
        go_roundw
        case rel => first | exact ⟨m + 1,g2,cap2,by have:=HLT.out;omega,by rw [HII.out];go_num,by rw [HPV.out,HII.out];rfl,by rw [show N4 + 4 = 4 * (n + (m + 1)) by have:=HN4.out;have:=HII.out;omega],HOE.out,HB2.out⟩ | ((repeat apply Exists.intro);exact ⟨⟨m + 1,g2,cap2,by have:=HLT.out;omega,by rw [HII.out];go_num,by rw [HPV.out,HII.out];rfl,by rw [show N4 + 4 = 4 * (n + (m + 1)) by have:=HN4.out;have:=HII.out;omega],HOE.out,HB2.out⟩,rfl⟩)
        case measure => simp [intOf];have:=HII.out;have:=HLT.out;omega
  ·obtain rfl:m = 3 * n + 28:=by omega
   have HOE:=hJ_ (show wr.ownsRow w.heap.size 5 1 (.slice (some ⟨g,0,none⟩) (16 * (n + 7)) cap) (16 * (n + 7)) ((a2i (kx n K (3 * n + 28)) (4 * (n + 7))).map (Value.int .u8)) by
    have h:=HO.out
    rw [show 4 * (n + (3 * n + 28)) = 16 * (n + 7) by omega,show n + (3 * n + 28) = 4 * (n + 7) by omega] at h
    exact h)
   rw [show 4 * (n + (3 * n + 28)) = 16 * (n + 7) by omega,show n + (3 * n + 28) = 4 * (n + 7) by omega]
   clear HO
   go_wp2
   go_ret
   exact ⟨g,cap,rfl,HOE.out,HB.out⟩
end
end Go.Proofs.YtappfdbmhgifcaaGreatDoor
