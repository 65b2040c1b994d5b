/- Texts of mine, one behind the other: QK3. -/
import Derived.Laws.AppendOwn
import Derived.Deep.AppendLies
import Derived.Test.YtappfdbmhgifcaaGreatDoorZR04
import Derived.BigRegionIn
import Derived.Laws.Tables
import Derived.Great.FillDense
set_option linter.unusedVariables false
set_option linter.unusedSimpArgs false
set_option maxRecDepth 100000
namespace Go.Proofs.YtappfdbmhgifcaaGreatDoor
open Go.ChangeShapes Go.WideShapes Go.ChangeAt Go.RowKit
theorem e9c:∃ i,Tryz.prog.info? 115 = some i ∧ i.zero = some (.int .u32 0) ∧ i.size = 1 ∧ i.bytes = 4:=⟨_,rfl,rfl,rfl,rfl⟩
def wdL (W:Nat → Nat → Nat) (k:Nat):List Value:=(List.range k).map fun j => .int .u32 ((wd (W j):Nat):Int)
theorem b2x (W:Nat → Nat → Nat) (k:Nat):(wdL W k).length = k:=by simp [wdL]
theorem a9x (W:Nat → Nat → Nat) (k:Nat):wdL W (k + 1) = wdL W k ++ [.int .u32 ((wd (W k):Nat):Int)]:=by
 unfold wdL;rw [List.range_succ,List.map_append];rfl
theorem a8b {W V:Nat → Nat → Nat} {k:Nat} (h:∀ j,j < k → W j = V j):wdL W k = wdL V k:=by
 unfold wdL;exact List.map_congr_left fun j hj => by rw [h j (List.mem_range.1 hj)]
theorem e0f {W:Nat → Nat → Nat} {k j:Nat} (h:j < k):(wdL W k)[j]? = some (.int .u32 ((wd (W j):Nat):Int)):=by simp [wdL,h]
theorem d7d {w:World} {b n:Nat} {W:Nat → Nat → Nat} (hn:n ≤ maxLen) (h:Blk w b 115 n (fun j => .int .u32 ((wd (W j):Nat):Int))):w.ownsRow b 115 1 (.slice (some ⟨b,0,none⟩) n n) n (wdL W n):=
 ⟨by rw [b2x];omega,.inr ⟨b,n,_,rfl,Nat.le_refl _,h,Nat.le_refl _,hn,by rw [a0b];omega,by show List.take (n * 1) (wdL W n) = wdL W n;rw [List.take_of_length_le (by rw [b2x];omega)]⟩⟩
theorem c6n {w:World} {base g n c:Nat} {W:Nat → Nat → Nat} (h:w.ownsRow base 115 1 (.slice (some ⟨g,0,none⟩) n c) n (wdL W n)) {j:Nat} (hj:j < n):w.cell? ⟨g,j,none⟩ = some (.int .u32 ((wd (W j):Nat):Int)):=by
 rw [h.cellAt j (by omega)];exact e0f hj
theorem own_drewN {w:World} {B e size n:Nat} {v:Value} {xs:List Value} (h:w.ownsRow B e size v n xs) (q:Nat):(w.drewN q).ownsRow B e size v n xs:=h
theorem a0y {w w':World} {base:Nat} {e:TypeId} {size:Nat} {v:Value} {n:Nat} {xs:List Value} (h:w.ownsRow base e size v n xs) (hb:Below w.heap.size w w'):w'.ownsRow base e size v n xs:=by
 refine ⟨h.1,?_⟩
 rcases h.2 with h2 | ⟨g,cap,cur,h1,h2,h3,h4⟩
 ·exact .inl h2
 ·subst h1
  exact .inr ⟨g,_,cur,rfl,h2,(hb.block g (Array.getElem?_eq_some_iff.1 h3).1).trans h3,h4⟩
theorem e7h {P:Program} {f:FuncId} {args:Array Value} {w:World} {n:Nat} {v:Value} (h:Calls P f args (w.drewN n) fun e w' => e = .returned v ∧ ∃ q,w' = (w.drewN n).drewN q):Calls P f args (w.drewN n) fun e w'' => e = .returned v ∧ ∃ m,w'' = w.drewN m:=
 h.mono fun _ _ ⟨he,q,hm⟩ => ⟨he,n + q,by rw [hm];exact World.drewN_drewN _ _ _⟩
theorem d0k (f:Nat → Nat) (hf:∀ r,f r < 256) (w:World):Calls Tryz.prog 147 #[.int .u32 ((wd f:Nat):Int),.int .i64 8] w fun e w' => e = .returned (.int .u32 ((wd (fun r => f ((r + 1) % 4)):Nat):Int)) ∧ ∃ j,w' = w.drewN j:=by
 have hw:=a3o hf
 refine (c5p ((wd f:Nat):Int) 8 (e8u (by omega) (by omega)) (by decide) w).mono fun e w' ⟨h1,h2⟩ => ⟨?_,h2⟩
 rw [h1]
 refine a0s ?_
 unfold c2d
 have e1:((8:Int) % ((32:Nat):Int)).toNat = 8 * ((4 - 3) % 4):=by decide
 rw [e1,Int.toNat_natCast,d6z hf (by omega)]
 rfl
theorem e1e (b e:Nat) (w:World) (hf:Fld w b) (he:e < 255):Calls Tryz.prog 148 #[.pointer (some ⟨b,0,none⟩),.int .u8 2,.int .i64 (e:Nat)] w fun x w' => x = .returned (.int .u8 ((pwr 2 e:Nat):Int)) ∧ w = w':=by
 have h:=e8n b 2 (e:Int) w hf (by omega) (by omega)
 have e1:d9u 2 (e:Int) = pwr 2 e:=by
  unfold d9u
  by_cases h0:e = 0
  ·subst h0;rw [if_pos (by omega),c0s]
  ·rw [if_neg (by omega),if_neg (by omega)]
   congr 1
   omega
 rw [e1] at h
 exact h
theorem e1x {f:Nat → Nat} (hf:∀ r,f r < 256) {p:Nat} (hp:p < 256):wd f ^^^ (p * 2 ^ 24) = wd (fun r => f r ^^^ (if r = 0 then p else 0)):=by
 have hg:∀ r,(fun r => if r = 0 then p else 0) r < 256:=fun r => by show (if r = 0 then p else 0) < 256;split <;> omega
 rw [show p * 2 ^ 24 = wd (fun r => if r = 0 then p else 0) by unfold wd;simp;omega,b1e hf hg]
theorem d8j {P y k:Nat} (hP:P < 4294967296) (hy:y < 256) (hk:k ≤ 24):bits .xor .u32 (P:Int) ((y:Int) * 2 ^ k % 4294967296) = ((P ^^^ (y * 2 ^ k):Nat):Int):=by
 have h1:=c1q hk
 have h2:y * 2 ^ k < 4294967296:=Nat.lt_of_le_of_lt (Nat.mul_le_mul (show y ≤ 255 by omega) h1) (by decide)
 have e:((y:Int) * 2 ^ k % 4294967296) = ((y * 2 ^ k:Nat):Int):=by
  have:((y:Int) * 2 ^ k) = ((y * 2 ^ k:Nat):Int):=by simp
  rw [this];omega
 rw [e,u32_xor_nat _ _ hP h2]
set_option maxHeartbeats 4000000 in
theorem b2y (fb b o n:Nat) (ba oa c:Nat) (l:List Int) (w:World) (hf:Fld w fb) (ht:Tb w b o box) (hn:n = 4 ∨ n = 8) (hl:l.length = 4 * n) (hA:a0z l) (hb:Bs w w.heap.size (some ⟨ba,oa,none⟩) l) (hc:4 * n ≤ c) (hcm:c ≤ 9223372036854775807) :
 Calls Tryz.prog 126 #[.pointer (some ⟨fb,0,none⟩),.pointer (some ⟨b,o,none⟩),.slice (some ⟨ba,oa,none⟩) ((4 * n:Nat):Nat) c] w fun e w' => ∃ g cap,e = .returned (.slice (some ⟨g,0,none⟩) (4 * (n + 7)) cap) ∧
  w'.ownsRow w.heap.size 115 1 (.slice (some ⟨g,0,none⟩) (4 * (n + 7)) cap) (4 * (n + 7)) (wdL (kx n (kw l) (3 * n + 28)) (4 * (n + 7))) ∧ Below w.heap.size w w':=by
 have HWO:=hJ_ (b6d ba oa n c l w hl hA hb (by omega) (by omega) hc hcm)
 have HF:=hJ_ hf
 have HT:=hJ_ ht
 have HK:=hJ_ (fun m => b2l n (b9j hA) m)
 have HI:=hJ_ e9c
 obtain ⟨K,hK⟩:∃ K,K = kw l:=⟨_,rfl⟩
 rw [← hK] at HWO HK ⊢
 have HN:=hJ_ hn
 have hn1:4 ≤ n:=by omega
 have hn2:n ≤ 8:=by omega
 have qn1:(4:Int) ≤ (n:Int):=by omega
 have qn2:(n:Int) ≤ 8:=by omega
 clear hf ht hl hA hb hK hn
 obtain ⟨i32,hi32⟩:=HI.out
 have HI:=hJ_ hi32
 clear hi32
 go_enter Tryz.func126,Tryz.ntmps126
 go_wp2_with (go_at_call 145;refine HWO.out.mono ?_;rintro e w1 ⟨rfl,hk1,hb1⟩;have HK1:=hJ_ hk1;have HB1:=hJ_ hb1;clear hk1 hb1)
 go_loopw [7,9] (fun v q wr => ∃ m g cap:Nat,m ≤ 3 * n + 28 ∧ q = .int .i64 ((n + m:Nat):Int) ∧ v = .slice (some ⟨g,0,none⟩) (n + m) cap ∧ wr.ownsRow w.heap.size 115 1 (.slice (some ⟨g,0,none⟩) (n + m) cap) (n + m) (wdL (kx n K m) (n + m)) ∧ Below w.heap.size w wr) (fun _ q _ => 4 * (n + 7) - (intOf q).toNat)
 case atStart => exact ⟨0,_,_,by omega,rfl,rfl,d7d (by unfold maxLen;omega) HK1.out,HB1.out⟩
 case round =>
  obtain ⟨m,g,cap,hm,rfl,rfl,hO,hB⟩:=hrel
  have HOi:=hJ_ hO
  have HBi:=hJ_ hB
  clear hO hB HB1 HK1
  by_cases hlt:m < 3 * n + 28
  ·have hp0:=c6n HOi.out (j:=n + m - 1) (by omega)
   have hm0:=c6n HOi.out (j:=m) (by omega)
   obtain ⟨p,hp⟩:∃ p,p = n + m - 1:=⟨_,rfl⟩
   obtain ⟨i,hi⟩:∃ i,i = n + m:=⟨_,rfl⟩
   rw [← hp] at hp0
   rw [← hi] at HOi ⊢
   have qi:(i:Int) < 4 * ((n:Int) + 7):=by omega
   have qp:(i:Int) - 1 = (p:Int):=by omega
   have qm:(i:Int) - (n:Int) = (m:Int):=by omega
   have qib:(i:Int) ≤ 60:=by omega
   have qpi:(p:Int) < (i:Int):=by omega
   have qmi:(m:Int) < (i:Int):=by omega
   obtain ⟨f,hff⟩:∃ f,f = kx n K m p:=⟨_,rfl⟩
   have HFF:=hJ_ (show ∀ r,f r < 256 by rw [hff];exact HK.out m p)
   have HFX:=hJ_ hff
   have HP:=hJ_ (show p = i - 1 by omega)
   have HII:=hJ_ hi
   have HLT:=hJ_ hlt
   rw [← hff] at hp0
   obtain ⟨X,hX⟩:∃ X,X = wd f:=⟨_,rfl⟩
   have hXl:X < 4294967296:=by rw [hX];exact a3o HFF.out
   clear hff hp hi
   by_cases hr:i % n = 0
   ·have qr:(i:Int).tmod (n:Int) = 0:=by rw [Int.tmod_eq_emod_of_nonneg (by omega)];omega
    obtain ⟨e,he⟩:∃ e,e = i / n - 1:=⟨_,rfl⟩
    have hdn:i / n = e + 1 ∧ e < 255:=by have:=HII.out;rcases HN.out with rfl | rfl <;> omega
    have qd:(i:Int).tdiv (n:Int) = (e:Int) + 1:=by rw [Int.tdiv_eq_ediv_of_nonneg (by omega)];omega
    have qe:(e:Int) < 255:=by omega
    have qe0:(0:Int) ≤ (e:Int):=by omega
    have HPW:=hJ_ (fun W (hW:Fld W fb) => e1e fb e W hW hdn.2)
    have HTU:=hJ_ (d0k f HFF.out)
    have HBW:=hJ_ (fun W (hW:Tb W b o box) => c6u b o box a2t (fun r => f ((r + 1) % 4)) (fun r => HFF.out _) W hW)
    obtain ⟨V,hVd⟩:∃ V,V = wd (tmp n i f):=⟨_,rfl⟩
    have hV:V = wd (tmp n i f):=hVd
    have hVl:V < 4294967296:=by rw [hV];exact a3o (a6d _ _ HFF.out)
    obtain ⟨k,hk⟩:∃ k,k = 24:=⟨_,rfl⟩
    have HSH:=hJ_ (show ∀ W,Calls Tryz.prog 143 #[.int .i64 0] W fun e w' => e = .returned (.int .i64 ((k:Nat):Int)) ∧ W = w' from fun W => by rw [hk];exact b1l 0 (by omega) W)
    have hk2:k ≤ 24:=by omega
    obtain ⟨z,hz⟩:∃ z,z = pwr 2 e:=⟨_,rfl⟩
    have hzl:z < 256:=by rw [hz];exact c7h _ _
    obtain ⟨Y,hY⟩:∃ Y,Y = wd (fun r => f ((r + 1) % 4)):=⟨_,rfl⟩
    obtain ⟨Z,hZ⟩:∃ Z,Z = wd (fun r => box (f ((r + 1) % 4))):=⟨_,rfl⟩
    have hZl:Z < 4294967296:=by rw [hZ];exact a3o fun r => a2t _
    have hxs:=d8j hZl hzl hk2
    rw [show Z ^^^ (z * 2 ^ k) = V by
     rw [hZ,hk,e1x (fun r => a2t _) hzl,hV]
     congr 1
     funext r
     unfold tmp
     rw [if_pos hr,← he,hz]] at hxs
    rw [← hz] at HPW
    rw [← hY] at HTU HBW
    rw [← hZ] at HBW
    have HWX:=hJ_ (show wdL (kx n K (m + 1)) (i + 1) = wdL (kx n K m) i ++ [.int .u32 (bits .xor .u32 ((wd (kx n K m m):Nat):Int) (V:Int))] by
     rw [u32_xor_nat _ _ (a3o (HK.out m m)) hVl,a9x,a8b (V:=kx n K m) (fun j hj => a9m K (by have:=HII.out;omega)),hV,b1e (HK.out m m) (a6d _ _ HFF.out),HII.out,a9b,← HII.out,← HP.out,← HFX.out])
    have HV:=hJ_ hV
    clear hV hVd
    rw [← hX] at hp0 HTU
    clear hk hz hY hZ he hdn hr hX
    go_wp2_with fail
    go_quiet (first
     | (go_at_call 147;exact e7h (HTU.out _))
     | (go_at_call 146;exact e7h (HBW.out _ ((HT.out.on HBi.out).drewN _)))
     | (go_at_call 148;exact d2i (HPW.out _ ((HF.out.below HBi.out).drewN _)))
     | (go_at_call 143;exact d2i (HSH.out _)))
    go_wp2_with ((with_reducible show wpList _ _ _ (⟨some 69,_,_,_,_,_⟩ :: _) _ _);go_loud (refine wpList_append_lies _ rfl (.tmp 59) (.tmp 68) 160 rfl w.heap.size 115 i32 (.int .u32 0) 1 4 Tryz.underlying160 HI.out.1 HI.out.2.1 HI.out.2.2.1 HI.out.2.2.2 rfl (by decide) _ i (wdL (kx n K m) i) rfl (a0y (own_drewN HOi.out _) ((Below.refl _ _).alloc (Nat.le_refl _) _)) _ 1 1 [_] rfl rfl (World.news_of_block (heap_alloc_new _ _)) (by intro u hu;cases List.mem_singleton.1 hu;rfl) (by omega) (by unfold maxLen;omega) (by omega) (by have:=HBi.out.size;simp;omega) _ rfl ?_);(intro g1 c1 wc hown1 hg1 hw1 hl1;have HO1:=hJ_ hown1;have HG1:=hJ_ hg1;clear hown1 hg1 hw1 hl1))
    go_roundw
    case rel => exact ⟨m + 1,g1,c1,by have:=HLT.out;omega,by rw [HII.out];go_num,by rw [HII.out];rfl,by have h:=HO1.out;rw [← HWX.out,HII.out] at h;exact h,((below_drewN HBi.out _).alloc (below_drewN HBi.out _).size _).grown HG1.out (by have:=HBi.out.size;simp;omega) (fun z hz => (HOi.out.lt z hz).1)⟩
    case measure => simp [intOf];have:=HII.out;have:=HLT.out;omega
   ·by_cases h8:n = 8 ∧ i % 8 = 4
    ·have q8:((n:Int) == 8) = true:=by rw [beq_iff_eq];omega
     have q4:(i:Int).tmod (n:Int) = 4:=by rw [Int.tmod_eq_emod_of_nonneg (by omega),h8.1];omega
     have HBW:=hJ_ (c6u b o box a2t f HFF.out wr (HT.out.on HBi.out))
     obtain ⟨V,hVd⟩:∃ V,V = wd (tmp n i f):=⟨_,rfl⟩
     have hV:V = wd (tmp n i f):=hVd
     have hVl:V < 4294967296:=by rw [hV];exact a3o (a6d _ _ HFF.out)
     rw [show wd (fun r => box (f r)) = V by
      rw [hV]
      congr 1
      funext r
      unfold tmp
      rw [if_neg hr,if_pos h8],← hX] at HBW
     have HWX:=hJ_ (show wdL (kx n K (m + 1)) (i + 1) = wdL (kx n K m) i ++ [.int .u32 (bits .xor .u32 ((wd (kx n K m m):Nat):Int) (V:Int))] by
      rw [u32_xor_nat _ _ (a3o (HK.out m m)) hVl,a9x,a8b (V:=kx n K m) (fun j hj => a9m K (by have:=HII.out;omega)),hV,b1e (HK.out m m) (a6d _ _ HFF.out),HII.out,a9b,← HII.out,← HP.out,← HFX.out])
     have HV:=hJ_ hV
     clear hV hVd
     rw [← hX] at hp0
     clear hr hX h8
     go_wp2_with (first
      | (go_at_call 146;refine HBW.out.mono ?_;rintro e wq ⟨rfl,nq,hwq⟩;subst hwq)
      | ((with_reducible show wpList _ _ _ (⟨some 69,_,_,_,_,_⟩ :: _) _ _);go_loud (refine wpList_append_lies _ rfl (.tmp 59) (.tmp 68) 160 rfl w.heap.size 115 i32 (.int .u32 0) 1 4 Tryz.underlying160 HI.out.1 HI.out.2.1 HI.out.2.2.1 HI.out.2.2.2 rfl (by decide) _ i (wdL (kx n K m) i) rfl (a0y (own_drewN HOi.out _) ((Below.refl _ _).alloc (Nat.le_refl _) _)) _ 1 1 [_] rfl rfl (World.news_of_block (heap_alloc_new _ _)) (by intro u hu;cases List.mem_singleton.1 hu;rfl) (by omega) (by unfold maxLen;omega) (by omega) (by have:=HBi.out.size;simp;omega) _ rfl ?_);(intro g1 c1 wc hown1 hg1 hw1 hl1;have HO1:=hJ_ hown1;have HG1:=hJ_ hg1;clear hown1 hg1 hw1 hl1)))
     go_roundw
     case rel => exact ⟨m + 1,g1,c1,by have:=HLT.out;omega,by rw [HII.out];go_num,by rw [HII.out];rfl,by have h:=HO1.out;rw [← HWX.out,HII.out] at h;exact h,((below_drewN HBi.out _).alloc (below_drewN HBi.out _).size _).grown HG1.out (by have:=HBi.out.size;simp;omega) (fun z hz => (HOi.out.lt z hz).1)⟩
     case measure => simp [intOf];have:=HII.out;have:=HLT.out;omega
    ·by_cases hn8:n = 8
     ·have q8:((n:Int) == 8) = true:=by rw [beq_iff_eq];omega
      obtain ⟨d,hd⟩:∃ d,d = i % n:=⟨_,rfl⟩
      have qt:(i:Int).tmod (n:Int) = (d:Int):=by rw [Int.tmod_eq_emod_of_nonneg (by omega),hd];omega
      have qd0:((d:Int) == 0) = false:=by rw [beq_eq_false_iff_ne];omega
      have qd4:((d:Int) == 4) = false:=by rw [beq_eq_false_iff_ne];rw [hn8] at hd;omega
      have hV:X = wd (tmp n i f):=by
       rw [hX]
       congr 1
       funext r
       unfold tmp
       rw [if_neg hr,if_neg h8]
      have hVl:=hXl
      have HWX:=hJ_ (show wdL (kx n K (m + 1)) (i + 1) = wdL (kx n K m) i ++ [.int .u32 (bits .xor .u32 ((wd (kx n K m m):Nat):Int) (X:Int))] by
       rw [u32_xor_nat _ _ (a3o (HK.out m m)) hVl,a9x,a8b (V:=kx n K m) (fun j hj => a9m K (by have:=HII.out;omega)),hV,b1e (HK.out m m) (a6d _ _ HFF.out),HII.out,a9b,← HII.out,← HP.out,← HFX.out])
      have HV:=hJ_ hV
      clear hV
      rw [← hX] at hp0
      clear hr hX h8 hn8 hd
      go_wp2_with ((with_reducible show wpList _ _ _ (⟨some 69,_,_,_,_,_⟩ :: _) _ _);go_loud (refine wpList_append_lies _ rfl (.tmp 59) (.tmp 68) 160 rfl w.heap.size 115 i32 (.int .u32 0) 1 4 Tryz.underlying160 HI.out.1 HI.out.2.1 HI.out.2.2.1 HI.out.2.2.2 rfl (by decide) _ i (wdL (kx n K m) i) rfl (a0y (HOi.out) ((Below.refl _ _).alloc (Nat.le_refl _) _)) _ 1 1 [_] rfl rfl (World.news_of_block (heap_alloc_new _ _)) (by intro u hu;cases List.mem_singleton.1 hu;rfl) (by omega) (by unfold maxLen;omega) (by omega) (by have:=HBi.out.size;simp;omega) _ rfl ?_);(intro g1 c1 wc hown1 hg1 hw1 hl1;have HO1:=hJ_ hown1;have HG1:=hJ_ hg1;clear hown1 hg1 hw1 hl1))
      go_roundw
      case rel => exact ⟨m + 1,g1,c1,by have:=HLT.out;omega,by rw [HII.out];go_num,by rw [HII.out];rfl,by have h:=HO1.out;rw [← HWX.out,HII.out] at h;exact h,((HBi.out).alloc (HBi.out).size _).grown HG1.out (by have:=HBi.out.size;simp;omega) (fun z hz => (HOi.out.lt z hz).1)⟩
      case measure => simp [intOf];have:=HII.out;have:=HLT.out;omega
     ·have q8:((n:Int) == 8) = false:=by rw [beq_eq_false_iff_ne];omega
      have qr:((i:Int) % (n:Int) == 0) = false:=by rw [beq_eq_false_iff_ne];omega
      have hV:X = wd (tmp n i f):=by
       rw [hX]
       congr 1
       funext r
       unfold tmp
       rw [if_neg hr,if_neg h8]
      have hVl:=hXl
      have HWX:=hJ_ (show wdL (kx n K (m + 1)) (i + 1) = wdL (kx n K m) i ++ [.int .u32 (bits .xor .u32 ((wd (kx n K m m):Nat):Int) (X:Int))] by
       rw [u32_xor_nat _ _ (a3o (HK.out m m)) hVl,a9x,a8b (V:=kx n K m) (fun j hj => a9m K (by have:=HII.out;omega)),hV,b1e (HK.out m m) (a6d _ _ HFF.out),HII.out,a9b,← HII.out,← HP.out,← HFX.out])
      have HV:=hJ_ hV
      clear hV
      rw [← hX] at hp0
      clear hr hX h8 hn8
      go_wp2_with ((with_reducible show wpList _ _ _ (⟨some 69,_,_,_,_,_⟩ :: _) _ _);go_loud (refine wpList_append_lies _ rfl (.tmp 59) (.tmp 68) 160 rfl w.heap.size 115 i32 (.int .u32 0) 1 4 Tryz.underlying160 HI.out.1 HI.out.2.1 HI.out.2.2.1 HI.out.2.2.2 rfl (by decide) _ i (wdL (kx n K m) i) rfl (a0y (HOi.out) ((Below.refl _ _).alloc (Nat.le_refl _) _)) _ 1 1 [_] rfl rfl (World.news_of_block (heap_alloc_new _ _)) (by intro u hu;cases List.mem_singleton.1 hu;rfl) (by omega) (by unfold maxLen;omega) (by omega) (by have:=HBi.out.size;simp;omega) _ rfl ?_);(intro g1 c1 wc hown1 hg1 hw1 hl1;have HO1:=hJ_ hown1;have HG1:=hJ_ hg1;clear hown1 hg1 hw1 hl1))
      go_roundw
      case rel => exact ⟨m + 1,g1,c1,by have:=HLT.out;omega,by rw [HII.out];go_num,by rw [HII.out];rfl,by have h:=HO1.out;rw [← HWX.out,HII.out] at h;exact h,((HBi.out).alloc (HBi.out).size _).grown HG1.out (by have:=HBi.out.size;simp;omega) (fun z hz => (HOi.out.lt z hz).1)⟩
      case measure => simp [intOf];have:=HII.out;have:=HLT.out;omega
  ·obtain rfl:m = 3 * n + 28:=by omega
   rw [show n + (3 * n + 28) = 4 * (n + 7) by omega] at HOi ⊢
   obtain ⟨i,hi⟩:∃ i,i = 4 * (n + 7):=⟨_,rfl⟩
   have qi:(i:Int) = 4 * ((n:Int) + 7):=by omega
   have qn:((i:Int) < 4 * ((n:Int) + 7)) = False:=by rw [qi];simp
   have qib:(i:Int) ≤ 60:=by omega
   rw [← hi] at HOi ⊢
   have HII:=hJ_ hi
   clear hi qi
   go_wp2
   go_ret
   exact ⟨_,_,by rw [← HII.out];rfl,by rw [← HII.out];exact HOi.out,HBi.out⟩
end Go.Proofs.YtappfdbmhgifcaaGreatDoor
namespace Go.Proofs.YtappfdbmhgifcaaGreatDoor
open Go.ChangeShapes Go.WideShapes Go.ChangeAt Go.RowKit Go.Shelf
section
attribute [local go_sem] Oper.semAt_some
def e4j (g:Nat) {len:Nat} (x:Fin len):Array Value:=#[.slice (some ⟨g,4 * x.1,none⟩) 4 4]
def cRd (Bx By g len cap:Nat) (W:World):Prop:=
 W.cell? ⟨Bx,0,none⟩ = some (.slice (some ⟨g,0,none⟩) (4 * len) cap) ∧ W.cell? ⟨By,0,none⟩ = some (.int .i64 4)
def cBk (len:Nat) (pre:List (Fin len)):Prop:=pre.length ≤ len ∧ ∀ k (h:k < pre.length),(pre[k]).1 = k
theorem cBk.nil (len:Nat):cBk len []:=⟨Nat.zero_le _,fun k h => by simp at h⟩
theorem cBk.snoc {len:Nat} {pre:List (Fin len)} (h:cBk len pre) (x:Fin len) (hx:x.1 = pre.length):cBk len (pre ++ [x]):=by
 refine ⟨by have:=x.2;simp;omega,fun k hk => ?_⟩
 by_cases e:k < pre.length
 ·rw [List.getElem_append_left e];exact h.2 k e
 ·have e2:k = pre.length:=by simp at hk;omega
  subst e2
  rw [List.getElem_append_right (Nat.le_refl _)]
  simp only [Nat.sub_self,List.getElem_cons_zero]
  exact hx
set_option maxHeartbeats 2000000 in
theorem c4j (F:Fence) (n:Nat) (hF:F.fn 144) (hro:F.round = none) (hn:1 ≤ n) (l Bx By g len cap:Nat) (hlen:4 * len ≤ cap) (hcap:cap ≤ 9223372036854775807) (J Jx:List (Fin len) → World → Prop) (hJd:∀ pre W,J pre W → J pre W.drew)
 (hY:∀ pre x W,J pre W → pre.length < len → YieldAt F (n - 1) Tryz.prog l (e4j g x) W fun e W' =>
  (e = .returned (.bool true) ∧ J (pre ++ [x]) W' ∧ (cRd Bx By g len cap W → cRd Bx By g len cap W')) ∨ (e = .returned (.bool false) ∧ Jx (pre ++ [x]) W'))
 (W:World) (hR0:cRd Bx By g len cap W) (h0:J [] W) :
 CallsIn F n Tryz.prog 144 #[.func (.yield l) #[] #[],.pointer (some ⟨Bx,0,none⟩),.pointer (some ⟨By,0,none⟩)] W fun e W' => (∃ v,e = .returned v) ∧
  ((∃ ys,(ys.length = len ∧ cBk len ys) ∧ J ys W') ∨ (∃ pre,cBk len pre ∧ Jx pre W')):=by
 refine callsIn_of_wp Tryz.func144 rfl hF ?_ hro
 simp only [Tryz.ntmps144,List.size_toArray,List.length_cons,List.length_nil,Nat.reduceAdd,Nat.reduceSub,Array.replicate_succ,Array.replicate_zero,List.push_toArray,List.append_toArray,List.nil_append,List.cons_append]
 gi_wp2
 gi_loopw [4] (fun i wr => ∃ (j:Nat) (pre:List (Fin len)),pre.length = j ∧ cBk len pre ∧ i = .int .i64 ((4 * j:Nat):Int) ∧ J pre wr ∧ cRd Bx By g len cap wr)
  (fun i _ => 4 * len - (intOf i).toNat)
 case atStart => exact ⟨0,[],rfl,cBk.nil _,rfl,h0,hR0⟩
 case round =>
  obtain ⟨j,pre,hpl,hbk,rfl,hJs,hRd⟩:=hrel
  have hbx:=hRd.1
  have hby:=hRd.2
  by_cases hlt:j < len
  ·have hjl:j < len:=hlt
   obtain ⟨fn,tmps,assign,body,hy,hR⟩:=hY pre ⟨j,hjl⟩ wr.drew (hJd _ _ hJs) (by omega)
   dsimp only [e4j] at hy
   have hk:=hbk.snoc ⟨j,hjl⟩ (by show j = _;omega)
   obtain ⟨q,hq⟩:∃ q,q = 4 * j:=⟨_,rfl⟩
   obtain ⟨N,hN⟩:∃ N,N = 4 * len:=⟨_,rfl⟩
   rw [← hq] at hy ⊢
   rw [← hN] at hbx
   have q1:(q:Int) < (N:Int):=by omega
   have q2:(0:Int) ≤ (q:Int):=by omega
   have q3:q + 4 ≤ N:=by omega
   have q4:(q:Int) + 4 ≤ (N:Int):=by omega
   have q5:(N:Int) ≤ (cap:Int):=by omega
   have q6:(cap:Int) ≤ 9223372036854775807:=by omega
   have q7:q ≤ N:=by omega
   have q8:¬ (((N - q:Nat):Int) < 4):=by omega
   have q9:(((N - q:Nat):Int) < 4) = False:=by simp;omega
   have q10:(cap = q) = False:=by simp;omega
   have HQ:=hJ_ hq
   have HN:=hJ_ hN
   have HK:=hJ_ hk
   clear hq hN hk
   gi_wp2
   gi_region
   all_goals gi_wp2
   all_goals
    refine hR.mono ?_
    rintro e W3 (⟨rfl,hJ3,hk3⟩ | ⟨rfl,hJx3⟩)
    ·have hby3:=(hk3 hRd).2
     gi_wp2
     go_roundw
     case rel => exact ⟨j + 1,_,by simp;omega,HK.out,congrArg (Value.int .i64) (by have:=HQ.out;omega),hJ3,hk3 hRd⟩
     case measure => simp [intOf];have:=HQ.out;omega
    ·gi_wp2
     refine bodyPost_ret (results_none rfl _ _ _) rfl ?_
     exact ⟨⟨_,rfl⟩,.inr ⟨_,HK.out,hJx3⟩⟩
  ·obtain rfl:j = len:=by have:=hbk.1;omega
   obtain ⟨N,hN⟩:∃ N,N = 4 * j:=⟨_,rfl⟩
   rw [← hN] at hbx ⊢
   have HN:=hJ_ hN
   clear hN
   gi_wp2
   go_end0
   exact ⟨⟨_,rfl⟩,.inl ⟨pre,⟨hpl,hbk⟩,hJs⟩⟩
theorem b7m (a:Option Addr) (len cap:Nat) (w:World) :
 Calls Tryz.prog 125 #[.slice a len cap,.int .i64 4] w fun e w' => e = .returned (.func (.func 144) #[] #[.pointer (some ⟨w.heap.size,0,none⟩),.pointer (some ⟨w.heap.size + 1,0,none⟩)]) ∧
  w' = (w.alloc (.cells #[.slice a len cap] 160)).alloc (.cells #[.int .i64 4] 3):=by
 go_enter Tryz.func125,Tryz.ntmps125
 go_wp2
 go_ret
 exact ⟨by simp,rfl⟩
theorem cRd.on {W W':World} {Bx By g len cap:Nat} (h:cRd Bx By g len cap W) {B:Nat} (hb:Below B W W') (h1:Bx < B) (h2:By < B):cRd Bx By g len cap W':=
 ⟨(hb.cell (p:=⟨Bx,0,none⟩) h1).trans h.1,(hb.cell (p:=⟨By,0,none⟩) h2).trans h.2⟩
theorem b2c (F:Fence) (n:Nat) (hF:F.fn 144) (hro:F.round = none) (hn:1 ≤ n) (Bx By g len cap:Nat) (hlen:4 * len ≤ cap) (hcap:cap ≤ 9223372036854775807) (w:World)
 (hBx:Bx < w.heap.size) (hBy:By < w.heap.size) (hR:cRd Bx By g len cap w) :
 SeqStopsK F n Tryz.prog 144 #[.pointer (some ⟨Bx,0,none⟩),.pointer (some ⟨By,0,none⟩)] (e4j g (len:=len)) (fun W W' => cRd Bx By g len cap W → cRd Bx By g len cap W') (fun ys => ys.length = len ∧ cBk len ys) (cBk len) len w:=fun l J Jx W hW hJ _ hY h0 =>
 c4j F n hF hro hn l Bx By g len cap hlen hcap J Jx (fun pre W h => hJ pre W W.drew none h (a3s W none) (fun _ e => by cases e)) hY W (hR.on hW hBx hBy) h0
end
section
attribute [local go_sem] Oper.semAt_some
attribute [local go_sem ↓] Go.wp_at_zero Go.wp_at_succ
def c9w (B P Q:Nat → Value) (j:Nat):Value:=if j = 0 then .slice none 0 0 else if j < 257 then B (j - 1) else if j < 513 then .int .u8 0 else if j < 769 then P (j - 513) else Q (j - 769)
def e8g (j:Nat):Value:=if j = 0 then .slice none 0 0 else if j < 513 then .int .u8 0 else .int .u32 0
theorem d7f:(Tryz.prog.info? 155).map (fun i => i.zero) = some (some (.agg (a0e 1025 e8g))):=by kernel_rfl
theorem c5o:(Tryz.prog.underlying 155).bind (fun d => match d with | .struct fs => fs.toList.mapM (fun f => (Tryz.prog.info? f.type).map fun i => (f.offset,i.size)) | _ => none) = some [(0,1),(1,256),(257,256),(513,256),(769,256)]:=by kernel_rfl
theorem a7h (n:Nat) (g:Nat → Value) (k:Nat):(a0e n g)[k]? = if k < n then some (g k) else none:=by
 by_cases h:k < n
 ·rw [if_pos h,a1f h]
 ·rw [if_neg h,Array.getElem?_eq_none (by rw [a0b];omega)]
theorem c5f (off:Nat) (B:Nat → Value) (g:Nat → Value) (h:off + 256 ≤ 1025):(a0e 256 B).toList.zipIdx.foldl (fun cs (x:Value × Nat) => cs.setIfInBounds (off + x.2) x.1) (a0e 1025 g) = a0e 1025 (fun j => if off ≤ j ∧ j < off + 256 then B (j - off) else g j):=by
 obtain ⟨_,h2⟩:=Great.foldl_set off (a0e 256 B).toList 0 (a0e 1025 g)
 apply Array.ext_getElem?
 intro k
 rw [h2 k,a7h,a7h,Array.length_toList,a0b,a0b]
 by_cases e:off ≤ k ∧ k < off + 256
 ·rw [if_pos (by omega),if_pos (by omega),if_pos e,Array.getElem?_toList,a7h,if_pos (by omega),Nat.add_zero]
 ·rw [if_neg (by omega),if_neg e]
theorem a8k (off:Nat) (B:Nat → Value) (T:Array Value) (hT:T = a0e 256 B) (g:Nat → Value) (h:off + 256 ≤ 1025):Array.foldl (fun cs (x:Value × Nat) => cs.setIfInBounds (off + x.snd) x.fst) (a0e 1025 g) T.zipIdx = a0e 1025 (fun j => if off ≤ j ∧ j < off + 256 then B (j - off) else g j):=by
 subst hT
 rw [← Array.foldl_toList,Array.toList_zipIdx]
 exact c5f off B g h
theorem b7d (B P Q:Nat → Value):Tryz.prog.built 155 [(1,.agg (a0e 256 B)),(3,.agg (a0e 256 P)),(4,.agg (a0e 256 Q))] = some (a0e 1025 (c9w B P Q)):=by
 have h1:=d7f
 have h2:=c5o
 unfold Program.built
 cases hi:Tryz.prog.info? 155 with
 | none => rw [hi] at h1;cases h1
 | some it =>
  cases hu:Tryz.prog.underlying 155 with
  | none => rw [hu] at h2;cases h2
  | some d =>
   rw [hi] at h1
   rw [hu] at h2
   simp only [Option.map_some,Option.some.injEq,Option.bind_some] at h1 h2
   cases d <;> first | (cases h2;done) | skip
   simp only at h2
   simp only [h1,h2]
   simp only [Instr.fill]
   have e1:(#[(0,1),(1,256),(257,256),(513,256),(769,256)]:Array (Nat × Nat))[1]? = some (1,256):=rfl
   have e3:(#[(0,1),(1,256),(257,256),(513,256),(769,256)]:Array (Nat × Nat))[3]? = some (513,256):=rfl
   have e4:(#[(0,1),(1,256),(257,256),(513,256),(769,256)]:Array (Nat × Nat))[4]? = some (769,256):=rfl
   rw [e1,e3,e4]
   have sB:=a0b 256 B
   have sP:=a0b 256 P
   have sQ:=a0b 256 Q
   obtain ⟨TB,hB⟩:∃ T,T = a0e 256 B:=⟨_,rfl⟩
   obtain ⟨TP,hP⟩:∃ T,T = a0e 256 P:=⟨_,rfl⟩
   obtain ⟨TQ,hQ⟩:∃ T,T = a0e 256 Q:=⟨_,rfl⟩
   rw [← hB] at sB ⊢
   rw [← hP] at sP ⊢
   rw [← hQ] at sQ ⊢
   simp only [Value.cells,a8k 1 B TB hB e8g (by omega),sB,sP,sQ,a0b]
   simp only [Nat.reduceAdd,ne_eq,not_true_eq_false,decide_false,gt_iff_lt,Nat.reduceLT,Nat.lt_irrefl,Bool.or_self,Bool.false_eq_true,if_false]
   rw [a8k 513 P TP hP _ (by omega),a8k 769 Q TQ hQ _ (by omega)]
   simp only [a0b,Nat.reduceAdd,ne_eq,not_true_eq_false,decide_false,gt_iff_lt,Nat.reduceLT,Nat.lt_irrefl,Bool.or_self,Bool.false_eq_true,if_false]
   refine congrArg some (b3l fun j hj => ?_)
   unfold c9w e8g
   by_cases j0:j = 0
   ·rw [if_neg (by omega),if_neg (by omega),if_neg (by omega),if_pos j0,if_pos j0]
   ·rw [if_neg j0,if_neg j0]
    by_cases j1:j < 257
    ·rw [if_neg (by omega),if_neg (by omega),if_pos (by omega),if_pos j1]
    ·rw [if_neg j1]
     by_cases j2:j < 513
     ·rw [if_neg (by omega),if_neg (by omega),if_neg (by omega),if_pos j2,if_pos j2]
     ·rw [if_neg j2,if_neg j2]
      by_cases j3:j < 769
      ·rw [if_neg (by omega),if_pos (by omega),if_pos j3]
      ·rw [if_pos (by omega),if_neg j3]
theorem by2:(a0e 4 fun j => Value.int .u8 ((m2 j:Nat):Int)) = #[.int .u8 2,.int .u8 1,.int .u8 1,.int .u8 3]:=by kernel_rfl
theorem e9o:(a0e 4 fun j => Value.int .u8 ((m14 j:Nat):Int)) = #[.int .u8 14,.int .u8 9,.int .u8 13,.int .u8 11]:=by kernel_rfl
def b7o (v:Value) (j:Nat):Value:=if j = 0 then v else if j < 257 then .int .u8 ((box (j - 1):Nat):Int) else if j < 513 then .int .u8 ((bxb (j - 257):Nat):Int) else if j < 769 then .int .u32 ((prt m2 (j - 513):Nat):Int) else .int .u32 ((prt m14 (j - 769):Nat):Int)
theorem a0j (w:World) (b o:Nat) (v:Value):w.grownBy (w.setCell ⟨b,o,none⟩ v) (some b):=⟨rfl,rfl,rfl,by simp,fun k _ hk => heap_setCell_other w ⟨b,o,none⟩ k v (fun e => hk (by rw [e]))⟩
theorem a6q (b:Nat):∀ (vs:List Value) (o:Nat) (w:World),w.grownBy (w.setCells b o vs) (some b)
 | [],_,w => ⟨rfl,rfl,rfl,Nat.le_refl _,fun _ _ _ => rfl⟩
 | v :: r,o,w => by rw [World.setCells];exact (a0j w b o v).trans (a6q b r (o + 1) _)
theorem Blk.sets {b n:Nat} {T:TypeId}:∀ (vs:List Value) (o:Nat) {w:World} {g:Nat → Value} (h:Nat → Value),Blk w b T n g → o + vs.length ≤ n → (∀ j,j < n → h j = if o ≤ j ∧ j < o + vs.length then vs.getD (j - o) undef else g j) → Blk (w.setCells b o vs) b T n h
 | [],o,w,g,h,hk,hn,hh => hk.congr fun j hj => by rw [hh j hj,if_neg (by simp)]
 | v :: r,o,w,g,h,hk,hn,hh => by
  rw [World.setCells]
  simp only [List.length_cons] at hn hh
  refine Blk.sets r (o + 1) h (hk.set (show o < n by omega) v) (by omega) (fun j hj => ?_)
  rw [hh j hj]
  by_cases e:j = o
  ·subst e;simp;intro h1;omega
  ·by_cases e2:o + 1 ≤ j ∧ j < o + 1 + r.length
   ·rw [if_pos (by omega),if_pos e2,show j - o = (j - (o + 1)) + 1 by omega];rfl
   ·rw [if_neg (by omega),if_neg e2,if_neg e]
theorem Blk.there {w:World} {b n:Nat} {T:TypeId} {g:Nat → Value} (h:Blk w b T n g) {o m:Nat} (hm:o + m ≤ n):w.there b o m:=fun j hj => ⟨by rw [h.cell (show o + j < n by omega)];rfl,h.free _⟩
theorem c6e {w:World} {b:Nat} {T:TypeId} {P Q:Nat → Value} (h:Blk w b T 1025 (c9w (fun j => .int .u8 ((box j:Nat):Int)) P Q)):Tb w b 1 box:=⟨h.lt,fun j hj => by
 rw [h.cell (show 1 + j < 1025 by omega)]
 unfold c9w
 rw [if_neg (by omega),if_pos (by omega),show 1 + j - 1 = j by omega]⟩
theorem b5p {w:World} {b:Nat} {T:TypeId} (h:Blk w b T 1025 (c9w (fun j => .int .u8 ((box j:Nat):Int)) (fun j => .int .u32 ((prt m2 j:Nat):Int)) (fun j => .int .u32 ((prt m14 j:Nat):Int)))) {TU:Array Value} (hU:TU = a0e 256 fun j => .int .u8 ((bxb j:Nat):Int)):Blk (w.setCells b 257 TU.toList) b T 1025 (b7o (.slice none 0 0)):=by
 have hl:TU.toList.length = 256:=by rw [Array.length_toList,hU,a0b]
 refine Blk.sets TU.toList 257 _ h (by omega) (fun j hj => ?_)
 rw [hl]
 unfold b7o c9w
 by_cases j0:j = 0
 ·rw [if_pos j0,if_neg (by omega),if_pos j0]
 ·rw [if_neg j0]
  by_cases j1:j < 257
  ·rw [if_pos j1,if_neg (by omega),if_neg j0,if_pos j1]
  ·rw [if_neg j1]
   by_cases j2:j < 513
   ·rw [if_pos j2,if_pos (by omega),List.getD_eq_getElem?_getD,Array.getElem?_toList,hU,a1f (by omega)];rfl
   ·rw [if_neg j2]
    by_cases j3:j < 769
    ·rw [if_pos j3,if_neg (by omega),if_neg j0,if_neg j1,if_neg j2]
    ·rw [if_neg j3,if_neg (by omega),if_neg j0,if_neg j1,if_neg j2]
theorem b0c {w:World} {b:Nat} {T:TypeId} {v:Value} (h:Blk w b T 1025 (b7o v)) (v':Value):Blk (w.setCell ⟨b,0,none⟩ v') b T 1025 (b7o v'):=(h.set (by omega) v').congr fun j hj => by
 unfold b7o
 by_cases e:j = 0
 ·rw [if_pos e,if_pos e]
 ·rw [if_neg e,if_neg e,if_neg e]
theorem a2g {w:World} {b:Nat} {T:TypeId} {v:Value} (h:Blk w b T 1025 (b7o v)):w.cell? ⟨b,0,none⟩ = some v:=by
 rw [h.cell (by omega)];rfl
theorem b0x {w:World} {b:Nat} {T:TypeId} {v:Value} (h:Blk w b T 1025 (b7o v)):Tb w b 1 box ∧ Tb w b 257 bxb ∧ Tp w b 513 (prt m2) ∧ Tp w b 769 (prt m14):=by
 refine ⟨⟨h.lt,fun j hj => ?_⟩,⟨h.lt,fun j hj => ?_⟩,⟨h.lt,fun j hj => ?_⟩,⟨h.lt,fun j hj => ?_⟩⟩
 ·rw [h.cell (show 1 + j < 1025 by omega)];unfold b7o
  rw [if_neg (by omega),if_pos (by omega),show 1 + j - 1 = j by omega]
 ·rw [h.cell (show 257 + j < 1025 by omega)];unfold b7o
  rw [if_neg (by omega),if_neg (by omega),if_pos (by omega),show 257 + j - 257 = j by omega]
 ·rw [h.cell (show 513 + j < 1025 by omega)];unfold b7o
  rw [if_neg (by omega),if_neg (by omega),if_neg (by omega),if_pos (by omega),show 513 + j - 513 = j by omega]
 ·rw [h.cell (show 769 + j < 1025 by omega)];unfold b7o
  rw [if_neg (by omega),if_neg (by omega),if_neg (by omega),if_neg (by omega),show 769 + j - 769 = j by omega]
def sqs (W:Nat → Nat → Nat) (k:Nat):List Value:=(List.range (4 * k)).map fun q => sqc (rk W (q / 4)) (q % 4)
theorem a3n (S:Nat → Nat → Nat):(a1o S).length = 4:=by simp [a1o]
theorem d0w (W:Nat → Nat → Nat) (k:Nat):sqs W (k + 1) = sqs W k ++ a1o (rk W k):=by
 unfold sqs a1o
 rw [show 4 * (k + 1) = 4 * k + 4 by omega,List.range_add,List.map_append,List.map_map]
 congr 1
 refine List.map_congr_left fun i hi => ?_
 have hi4:i < 4:=List.mem_range.1 hi
 show sqc (rk W ((4 * k + i) / 4)) ((4 * k + i) % 4) = _
 rw [show (4 * k + i) / 4 = k by omega,show (4 * k + i) % 4 = i by omega]
theorem e2f (W:Nat → Nat → Nat) {k j i:Nat} (hj:j < k) (hi:i < 4):(sqs W k)[4 * j + i]? = some (sqc (rk W j) i):=by
 unfold sqs
 rw [List.getElem?_map,List.getElem?_range (by omega)]
 show some (sqc (rk W ((4 * j + i) / 4)) ((4 * j + i) % 4)) = _
 rw [show (4 * j + i) / 4 = j by omega,show (4 * j + i) % 4 = i by omega]
theorem a6k {S:Nat → Nat → Nat} {i:Nat} {u:Value} (h:(a1o S)[i]? = some u):i < 4 ∧ u = sqc S i:=by
 have hi:i < 4:=by have:=(List.getElem?_eq_some_iff.1 h).1;rwa [a3n] at this
 refine ⟨hi,?_⟩
 simp [a1o,hi] at h
 exact h.symm
theorem d6o {w:World} {b n base:Nat} {T:TypeId} {v:Value} {W:Nat → Nat → Nat} (h:Blk w b T 1025 (b7o v)) (ho:w.ownsRow base 164 4 v (n + 1) (sqs W (n + 1))):Cip w b n W:=by
 obtain ⟨t1,t2,t3,t4⟩:=b0x h
 have hc:=a2g h
 obtain ⟨g,cap,rfl,_,hg⟩:=ho.form (by omega)
 have hcap:n + 1 ≤ cap ∧ cap ≤ maxLen:=by
  rcases ho.2 with ⟨h1,_⟩ | ⟨g',cap',cur,h1,_,_,h4,h5,_⟩
  ·cases h1
  ·cases h1;exact ⟨h4,h5⟩
 refine ⟨g,cap,hg,hcap.1,by have:=hcap.2;unfold maxLen at this;omega,hc,fun j hj i u hu => ?_,t1,t2,t3,t4⟩
 obtain ⟨hi,rfl⟩:=a6k hu
 have:=ho.cells (g:=g) rfl (4 * j + i) _ (e2f W (show j < n + 1 by omega) hi)
 rwa [show (⟨g,0,none⟩:Addr).add (4 * j + i) = ⟨g,4 * j + i,none⟩ by unfold Addr.add;split <;> simp_all] at this
theorem a2m {w w':World} {base size:Nat} {e:TypeId} {v:Value} {n:Nat} {xs:List Value} {row:Option Nat} (h:w.ownsRow base e size v n xs) (hg:w.grownBy w' row) (hr:∀ r,row = some r → ∃ o:Obj,w.heap[r]? = some o ∧ o.isCells = false):w'.ownsRow base e size v n xs:=by
 refine h.kept hg ?_
 rcases h.2 with ⟨h2,_⟩ | ⟨g,cap,cur,h1,h2,h3,h4⟩
 ·left;rw [h2];rfl
 ·right
  intro e1
  subst h1
  obtain ⟨o,ho,hc⟩:=hr g e1.symm
  rw [h3] at ho
  cases ho
  cases hc
theorem a7z {w w':World} {B base size:Nat} {e:TypeId} {v:Value} {n:Nat} {xs:List Value} (h:w.ownsRow base e size v n xs) (hg:w.grownBy w' v.ownBlock):KeepsFrom B w w':=
 ⟨hg.size,fun k o _ hk ho => (hg.block k (Array.getElem?_eq_some_iff.1 hk).1 (fun e1 => by
  rcases h.2 with ⟨h2,_⟩ | ⟨g,cap,cur,h1,h2,h3,h4⟩
  ·rw [h2] at e1;cases e1
  ·rw [h1] at e1
   cases e1
   rw [h3] at hk
   cases hk
   cases ho)).trans hk⟩
theorem d9m (a b c d p q r s:Value):Instr.fill (fun i => some (i * 4,4)) #[p,q,r,s] [(0,.agg #[a,b,c,d])] = some #[a,b,c,d]:=by
 simp [Instr.fill,Value.cells]
theorem d5j:∃ i:TypeInfo,Tryz.prog.info? 164 = some i ∧ i.zero = some (.agg b5k) ∧ i.size = 4 ∧ i.bytes = 16:=⟨_,rfl,by kernel_rfl,rfl,rfl⟩
theorem cRd.put {W:World} {Bx By g len cap l:Nat} {x:Obj} (h:cRd Bx By g len cap W) (x':Obj) (hl:W.heap[l]? = some x) (hx:x.isCells = false):cRd Bx By g len cap (W.putObj l x'):=
 ⟨cell_kept h.1 (grownBy_putObj' W l x') (fun r e => by cases e;exact ⟨x,hl,hx⟩),cell_kept h.2 (grownBy_putObj' W l x') (fun r e => by cases e;exact ⟨x,hl,hx⟩)⟩
theorem c0f {w:World} {base g k c:Nat} {W:Nat → Nat → Nat} (h:w.ownsRow base 115 1 (.slice (some ⟨g,0,none⟩) (4 * k) c) (4 * k) (wdL W (4 * k))) {j:Nat} (hj:j < k):w.rangeAt g (4 * j) (a1o (rk W j)):=fun i u hu => by
 obtain ⟨hi,rfl⟩:=a6k hu
 exact c6n h (show 4 * j + i < 4 * k by omega)
def sqF (W:Nat → Nat → Nat) {len:Nat} (pre:List (Fin len)):List Value:=pre.flatMap fun y => a1o (rk W y.1)
theorem b4w (W:Nat → Nat → Nat) {len:Nat} (pre:List (Fin len)) (y:Fin len):sqF W (pre ++ [y]) = sqF W pre ++ a1o (rk W y.1):=by simp [sqF]
theorem c9g (W:Nat → Nat → Nat) {len:Nat} (ys:List (Fin len)) (hl:ys.length = len) (h:cBk len ys):sqF W ys = sqs W len:=by
 have key:∀ k,k ≤ ys.length → sqF W (ys.take k) = sqs W k:=by
  intro k
  induction k with
  | zero => intro _;rfl
  | succ k ih =>
   intro hk
   rw [List.take_succ_eq_append_getElem (by omega),b4w,ih (by omega),h.2 k (by omega),d0w]
 have:=key ys.length (Nat.le_refl _)
 rw [List.take_length,hl] at this
 exact this
theorem c0j (S:Nat → Nat → Nat):Instr.fill (fun i => some (i * 4,4)) ((Array.range (1 * 4)).map ((Value.agg b5k).cells[· % (Value.agg b5k).cells.size]!)) [(0,.agg (a1o S).toArray)] = some (a1o S).toArray:=by
 have e:((Array.range (1 * 4)).map ((Value.agg b5k).cells[· % (Value.agg b5k).cells.size]!)) = #[.int .u32 0,.int .u32 0,.int .u32 0,.int .u32 0]:=by kernel_rfl
 rw [e]
 exact d9m _ _ _ _ _ _ _ _
theorem own_ne {w:World} {base size:Nat} {e:TypeId} {v:Value} {n:Nat} {xs:List Value} (h:w.ownsRow base e size v n xs) {b:Nat} (hb:b < base):some b ≠ v.ownBlock:=fun e1 => by have:=(h.lt b e1.symm).1;omega
theorem b5r {w:World} {base size:Nat} {e:TypeId} {v:Value} {n:Nat} {xs:List Value} (h:w.ownsRow base e size v n xs):∃ a L c,v = .slice a L c:=by
 rcases h.2 with ⟨h2,_⟩ | ⟨g,cap,cur,h1,_⟩
 ·exact ⟨_,_,_,h2⟩
 ·exact ⟨_,_,_,h1⟩
theorem a2w {w:World} {base size g n L c:Nat} {e:TypeId} {xs:List Value} (h:w.ownsRow base e size (.slice (some ⟨g,0,none⟩) L c) n xs):L = n ∧ n ≤ c ∧ c ≤ 9223372036854775807 ∧ base ≤ g ∧ g < w.heap.size:=by
 rcases h.2 with ⟨h1,_⟩ | ⟨g',cap',cur,h1,hb,hg,h4,h5,_⟩
 ·cases h1
 ·cases h1
  exact ⟨rfl,h4,by unfold maxLen at h5;omega,hb,(Array.getElem?_eq_some_iff.1 hg).1⟩
theorem Blk.same {w w':World} {b n:Nat} {T:TypeId} {g:Nat → Value} (h:Blk w b T n g) (e:w'.heap[b]? = w.heap[b]?):Blk w' b T n g:=by unfold Blk at h ⊢;rw [e];exact h
theorem a0n {w w':World} {b o:Nat} {v:Value} (h:w.cell? ⟨b,o,none⟩ = some v) (e:w'.heap[b]? = w.heap[b]?):w'.cell? ⟨b,o,none⟩ = some v:=(World.cell?_of_block (w:=w) (a:=⟨b,o,none⟩) e).trans h
theorem a1b {w w':World} {b o:Nat} {cs:List Value} (h:w.rangeAt b o cs) (e:w'.heap[b]? = w.heap[b]?):w'.rangeAt b o cs:=fun j v hv => a0n (h j v hv) e
theorem a6r {V V8 V9:World} {base size:Nat} {e:TypeId} {v:Value} {n:Nat} {xs:List Value} (h8:Below V.heap.size V V8) (ho:V8.ownsRow base e size v n xs) (h9:V8.grownBy V9 v.ownBlock) (hB:base ≤ V.heap.size) {b:Nat} (hb:b < base):V9.heap[b]? = V.heap[b]?:=
 (h9.block b (Nat.lt_of_lt_of_le (Nat.lt_of_lt_of_le hb hB) h8.size) (own_ne ho hb)).trans (h8.block b (by omega))
end
end Go.Proofs.YtappfdbmhgifcaaGreatDoor
