/- Texts of mine, one behind the other: Hs. -/
import Derived.Test.YtappfdbmhgifcaaGreatDoorZR06
import Derived.Test.YtappfdbmhgifcaaGreatDoorZR02
import Derived.IntWalk
import Derived.Great.BuildSlice
set_option linter.unusedVariables false
set_option linter.unusedSimpArgs false
set_option maxRecDepth 100000
namespace Go.Proofs.YtappfdbmhgifcaaGreatDoor
open Go.ChangeShapes Go.WideShapes Go.ChangeAt Go.RowKit
theorem e5q:(Tryz.prog.info? 116).map (fun i => (i.zero,i.size)) = some (some (.agg (Array.replicate 64 (.int .u32 0))),64):=by kernel_rfl
theorem e8l:(Tryz.prog.info? 117).map (fun i => (i.zero,i.size)) = some (some (.agg (Array.replicate 8 (.int .u32 0))),8):=by kernel_rfl
theorem d6c:(Tryz.prog.info? 116).map (·.size) = some 64:=by kernel_rfl
theorem b6s:(Tryz.prog.info? 117).map (·.size) = some 8:=by kernel_rfl
theorem e9a:(Tryz.prog.info? 5).map (fun i => (i.zero,i.size,i.bytes)) = some (some (.int .u8 0),1,1):=by kernel_rfl
def fV (f:Nat → Nat) (i j:Nat):Value:=.int .u32 ((if j < i then f j else 0:Nat):Int)
theorem d8g (f:Nat → Nat) (j:Nat):fV f 0 j = .int .u32 0:=rfl
theorem b1k (f:Nat → Nat) (i j:Nat):(if j = i then .int .u32 ((f i:Nat):Int) else fV f i j) = fV f (i + 1) j:=by
 unfold fV
 by_cases e:j = i
 ·rw [if_pos e,if_pos (by omega),e]
 ·rw [if_neg e]
  by_cases h:j < i
  ·rw [if_pos h,if_pos (by omega)]
  ·rw [if_neg h,if_neg (by omega)]
def gV (f:Nat → Nat) (j:Nat):Value:=.int .u32 ((f j:Nat):Int)
theorem d5r (f:Nat → Nat) {n j:Nat} (h:j < n):fV f n j = gV f j:=by unfold fV gV;rw [if_pos h]
def a5f (w:World) (g n:Nat) (l:List Int):Prop:=l.length = n ∧ a0z l ∧ g < w.heap.size ∧ ∀ i,i < n → w.cell? ⟨g,i,none⟩ = some (.int .u8 (l.getD i 0))
theorem a5f.on {w w':World} {g n B:Nat} {l:List Int} (h:a5f w g n l) (hb:Below B w w') (hB:g < B):a5f w' g n l:=
 ⟨h.1,h.2.1,Nat.lt_of_lt_of_le h.2.2.1 hb.size,fun i hi => (hb.cell (p:=⟨g,i,none⟩) hB).trans (h.2.2.2 i hi)⟩
theorem a5f.own {w:World} {base g n c:Nat} {e:TypeId} {l:List Int} (h:w.ownsRow base e 1 (.slice (some ⟨g,0,none⟩) n c) n (l.map (Value.int .u8))) (hl:a0z l):a5f w g n l:=by
 have hlen:l.length = n:=(Bs.of_own h).2
 refine ⟨hlen,hl,(h.lt g rfl).2,fun i hi => ?_⟩
 have:=a0h h i hi
 rwa [Nat.zero_add] at this
theorem a2k {P:Program} {w:World} {ops:Array Oper} {rest:List Oper} {o:Oper} {a:Act} {Q:Exit → Act → World → Prop} (hgd:o.guard = none) (s x:Operand) (t:TypeId)
 (ho:o.op = .call { callee:=.builtin .append,args:=#[s,x],argTypes:=#[t,t] })
 (base:Nat) (e:TypeId) (i:TypeInfo) (ht:P.underlying t = some (.slice e)) (hi:P.info? e = some i) (hz:i.zero = some (.int .u8 0)) (hsize:i.size = 1) (hby:i.bytes = 1)
 (ad:Option Addr) (n c:Nat) (l:List Int) (hs:a.eval s = .slice ad n c) (hown:w.ownsRow base e 1 (.slice ad n c) n (l.map (Value.int .u8)))
 (g m:Nat) (k:List Int) (hx:a.eval x = .slice (some ⟨g,0,none⟩) m m) (hm:k.length = m) (hm0:0 < m) (hB:∀ j,j < m → w.cell? ⟨g,j,none⟩ = some (.int .u8 (k.getD j 0))) (hn:n + m ≤ 140737488355328) (hbase:base ≤ w.heap.size)
 (h:∀ g' c' w',w'.ownsRow base e 1 (.slice (some ⟨g',0,none⟩) (n + m) c') (n + m) ((l ++ k).map (Value.int .u8)) → Below base w w' → wpList P ops Q rest (a.put o.dst (.slice (some ⟨g',0,none⟩) (n + m) c')) w') :
 wpList P ops Q (o :: rest) a w:=by
 refine wpList_append_own w hgd s x t ho base e i (.int .u8 0) 1 1 ht hi hz hsize hby rfl (by decide) (.slice ad n c) n (l.map (Value.int .u8)) hs hown ⟨g,0,none⟩ m m (k.map (Value.int .u8)) hx (by simp [hm]) ?_ (ints_oneCell _ _) (by unfold maxLen;omega) (by omega) hbase ?_
 ·intro j u hj
  obtain ⟨hj1,rfl⟩:=a1r hj
  rw [Addr.add_lit,Nat.zero_add]
  exact hB j (by omega)
 ·intro v' w' h1 h2 _
  obtain ⟨g',c',rfl⟩:∃ g' c',v' = .slice (some ⟨g',0,none⟩) (n + m) c':=by
   rcases h1.2 with ⟨_,h0⟩ | ⟨g',c',cur,hv,_⟩
   ·omega
   ·exact ⟨g',c',hv⟩
  rw [← List.map_append] at h1
  exact h g' c' w' h1 ((Below.refl _ _).grown h2 hbase (a3g hown))
theorem b2e (w:World) (T:TypeId) (x:Int):∀ j,j < 1 → (w.alloc (.cells #[.int .u8 x] T)).cell? ⟨w.heap.size,j,none⟩ = some (.int .u8 ([x].getD j 0)):=fun j hj => by
 obtain rfl:j = 0:=by omega
 simp
theorem a9e {l:List Int} (h:a0z l) (k:Nat):0 ≤ l.getD k 0 ∧ l.getD k 0 < 256:=by
 have h1:=a4h h k
 by_cases hk:k < l.length
 ·have e:l.getD k 0 = l[k]:=by simp [List.getD_eq_getElem?_getD,List.getElem?_eq_getElem hk]
  rw [e];exact h _ (List.getElem_mem hk)
 ·have e:l.getD k 0 = 0:=by simp [List.getD_eq_getElem?_getD,List.getElem?_eq_none (Nat.le_of_not_lt hk)]
  rw [e];omega
theorem Blk.keep {w:World} {b:Nat} {T:TypeId} {n:Nat} {g:Nat → Value} (h:Blk w b T n g) {i:Nat} (hi:i < n) (v:Value) {j:Nat} (hj:j < n) (hne:j ≠ i):(w.setCell ⟨b,i,none⟩ v).cell? ⟨b,j,none⟩ = some (g j):=by
 have:=(h.set hi v).cell hj
 rw [if_neg hne] at this
 exact this
theorem a5f.other {w:World} {g n:Nat} {l:List Int} (h:a5f w g n l) (p:Addr) (v:Value) (hne:p.block ≠ g):a5f (w.setCell p v) g n l:=
 ⟨h.1,h.2.1,by simpa using h.2.2.1,fun i hi => (World.cell?_setCell_far w p ⟨g,i,none⟩ v hne).trans (h.2.2.2 i hi)⟩
theorem e5r {x:Nat} (h:x < 4294967296):4294967295 ^^^ x = 4294967295 - x:=by
 apply Nat.eq_of_testBit_eq
 intro i
 have e:=Nat.testBit_two_pow_sub_succ (n:=32) (x:=x) h i
 rw [show (4294967295:Nat) - x = 2 ^ 32 - (x + 1) by omega,e,Nat.testBit_xor,show (4294967295:Nat) = 2 ^ 32 - 1 by rfl,Nat.testBit_two_pow_sub_one]
 by_cases hi:i < 32
 ·simp [hi]
 ·have:x.testBit i = false:=Nat.testBit_lt_two_pow (Nat.lt_of_lt_of_le h (Nat.pow_le_pow_right (n:=2) (by omega) (show 32 ≤ i by omega)))
  simp [hi,this]
theorem d6h (x0 x1 x2 x3 x4 x5 x6 x7:Int):Tryz.prog.built 117 [(0,.int .u32 x0),(1,.int .u32 x1),(2,.int .u32 x2),(3,.int .u32 x3),(4,.int .u32 x4),(5,.int .u32 x5),(6,.int .u32 x6),(7,.int .u32 x7)] =
 some #[.int .u32 x0,.int .u32 x1,.int .u32 x2,.int .u32 x3,.int .u32 x4,.int .u32 x5,.int .u32 x6,.int .u32 x7]:=by kernel_rfl
theorem e9n (f:Nat → Nat):a0e 8 (gV f) = #[gV f 0,gV f 1,gV f 2,gV f 3,gV f 4,gV f 5,gV f 6,gV f 7]:=rfl
theorem e9q {k:Nat} (h:k < 8):k = 0 ∨ k = 1 ∨ k = 2 ∨ k = 3 ∨ k = 4 ∨ k = 5 ∨ k = 6 ∨ k = 7:=by omega
theorem c5n (f:Nat → Nat) {k:Nat} (hk:k < 8) (w:World):(Instr.index 117 (.agg (a0e 8 (gV f))) (.int .i64 (k:Nat))).run Tryz.prog w = .ok (.int .u32 ((f k:Nat):Int)) w:=by
 rcases e9q hk with rfl | rfl | rfl | rfl | rfl | rfl | rfl | rfl <;> kernel_rfl
theorem b7t (w:World) (T:TypeId) (a b c d:Int):∀ j,j < 4 → (w.alloc (.cells #[.int .u8 a,.int .u8 b,.int .u8 c,.int .u8 d] T)).cell? ⟨w.heap.size,j,none⟩ = some (.int .u8 ([a,b,c,d].getD j 0)):=fun j hj => by
 rcases (show j = 0 ∨ j = 1 ∨ j = 2 ∨ j = 3 by omega) with rfl | rfl | rfl | rfl <;> simp
def sV (h c:Nat → Nat) (i j:Nat):Value:=.int .u32 ((if j < i then ad (h j) (c j) else h j:Nat):Int)
theorem c8u (h c:Nat → Nat) (j:Nat):sV h c 0 j = gV h j:=rfl
theorem d5h (h c:Nat → Nat) (i j:Nat):(if j = i then .int .u32 ((ad (h i) (c i):Nat):Int) else sV h c i j) = sV h c (i + 1) j:=by
 unfold sV
 by_cases e:j = i
 ·rw [if_pos e,if_pos (by omega),e]
 ·rw [if_neg e]
  by_cases h:j < i
  ·rw [if_pos h,if_pos (by omega)]
  ·rw [if_neg h,if_neg (by omega)]
set_option maxHeartbeats 3000000 in
theorem c2e (a:Option Addr) (L c:Nat) (l:List Int) (w:World) (hx:Arg8c w a L c l) (hL:L ≤ 1000000) :
 Calls Tryz.prog 60 #[.slice a L c] w fun e w' => ∃ g c',e = .returned (.slice (some ⟨g,0,none⟩) 32 c') ∧ a5f w' g 32 (b3b l) ∧ Below w.heap.size w w' ∧ w.heap.size ≤ g ∧ 32 ≤ c':=by
 obtain ⟨i8,hi,hz0,hz1,hz2⟩:=info_parts e9a
 have HI:=hJ_ hi
 have HZ0:=hJ_ hz0
 have HZ1:=hJ_ hz1
 have HZ2:=hJ_ hz2
 clear hi hz0 hz1 hz2
 obtain ⟨hzK,hiK⟩:=zero_of_info e5q
 obtain ⟨hzH,hiH⟩:=zero_of_info e8l
 rw [a0m] at hzK hzH
 have HX:=hJ_ hx
 have HL:=hJ_ hL
 obtain ⟨cK,hcK⟩:∃ c0:Array Value,c0 = a0e 64 fun _ => .int .u32 0:=⟨_,rfl⟩
 obtain ⟨cH,hcH⟩:∃ c0:Array Value,c0 = a0e 8 fun _ => .int .u32 0:=⟨_,rfl⟩
 rw [← hcK] at hzK
 rw [← hcH] at hzH
 have HSK:=hJ_ (show (Tryz.prog.info? 116).map (·.size) = some cK.size by rw [hcK,a0b];exact d6c)
 have HSH:=hJ_ (show (Tryz.prog.info? 117).map (·.size) = some cH.size by rw [hcH,a0b];exact b6s)
 have HOK:=hJ_ (show cK.all (·.oneCell') = true by rw [hcK];exact a0l fun _ => rfl)
 have HOH:=hJ_ (show cH.all (·.oneCell') = true by rw [hcH];exact a0l fun _ => rfl)
 obtain ⟨V1,hV1⟩:∃ W,W = w.alloc (.cells cK 116):=⟨_,rfl⟩
 obtain ⟨V2,hV2⟩:∃ W,W = V1.alloc (.cells cH 117):=⟨_,rfl⟩
 have e1:V1.heap.size = w.heap.size + 1:=by rw [hV1];simp
 have B1:Below w.heap.size w V1:=by rw [hV1];exact (Below.refl _ _).alloc (Nat.le_refl _) _
 have B2:Below V1.heap.size V1 V2:=by rw [hV2];exact (Below.refl _ _).alloc (Nat.le_refl _) _
 have hK1:Blk V1 w.heap.size 116 64 (fun _ => .int .u32 0):=by rw [hV1,hcK];exact Blk.made _ _ _ _
 have hK2:Blk V2 w.heap.size 116 64 (fun _ => .int .u32 0):=hK1.on B2 (by omega)
 have hH2:Blk V2 (w.heap.size + 1) 117 8 (fun _ => .int .u32 0):=by rw [← e1,hV2,hcH];exact Blk.made _ _ _ _
 have HK2:=hJ_ (show V2.heap[w.heap.size]? = some (.cells cK 116 (0,0)) by rw [hcK];exact hK2)
 have HH3:=hJ_ (show (V2.setRow w.heap.size cK).heap[w.heap.size + 1]? = some (.cells cH 117 (0,0)) by rw [setRow_other _ _ _ _ (by omega),hcH];exact hH2)
 have HBK:=hJ_ (show Blk ((V2.setRow w.heap.size cK).setRow (w.heap.size + 1) cH) w.heap.size 116 64 (fV KF 0) by
  unfold Blk;rw [setRow_other _ _ _ _ (by omega),hcK];exact hK2.row _)
 have HBH:=hJ_ (show Blk ((V2.setRow w.heap.size cK).setRow (w.heap.size + 1) cH) (w.heap.size + 1) 117 8 (fV HF0 0) by
  have h:=HH3.out
  rw [hcH] at h ⊢
  exact Blk.row (g:=fun _ => .int .u32 0) h _)
 have HBB:=hJ_ (show Below w.heap.size w ((V2.setRow w.heap.size cK).setRow (w.heap.size + 1) cH) from below_setRow (below_setRow (bt B1 B2) (Nat.le_refl _) _) (by omega) _)
 have HZ2S:=hJ_ (show ((V2.setRow w.heap.size cK).setRow (w.heap.size + 1) cH).heap.size = w.heap.size + 2 by rw [setRow_size,setRow_size,hV2];simp;omega)
 have hVV:V2 = (w.alloc (.cells cK 116)).alloc (.cells cH 117):=by rw [hV2,hV1]
 rw [hVV] at HK2 HH3 HBK HBH HBB HZ2S
 have HCK:=hJ_ hcK
 have HCH:=hJ_ hcH
 clear hV1 hV2 e1 B1 B2 hK1 hK2 hH2 hVV hiK hiH hcK hcH hx hL
 go_enter Tryz.func60,Tryz.ntmps60
 go_upto_region 2 with (first
  | ((with_reducible show wpList _ _ _ (⟨none,_,_,_,_,_⟩ :: _) _ _);refine wpList_store_row rfl 116 (.tmp 3) (.tmp 19) rfl w.heap.size cK rfl rfl _ _ HK2.out HSK.out rfl HOK.out ?_)
  | ((with_reducible show wpList _ _ _ (⟨none,_,_,_,_,_⟩ :: _) _ _);refine wpList_store_row rfl 117 (.tmp 4) (.tmp 20) rfl (w.heap.size + 1) cH rfl rfl _ _ HH3.out HSH.out rfl HOH.out ?_))
 obtain ⟨W0,hW0⟩:∃ W0,W0 = (((w.alloc (.cells cK 116)).alloc (.cells cH 117)).setRow w.heap.size cK).setRow (w.heap.size + 1) cH:=⟨_,rfl⟩
 rw [← hW0] at HBK HBH HBB HZ2S ⊢
 obtain ⟨bk,hbk⟩:∃ b,b = w.heap.size:=⟨_,rfl⟩
 rw [← hbk] at HBK HBH HBB HZ2S ⊢
 have HBKW:=hJ_ hbk
 have HZK:=hJ_ hzK
 have HZH:=hJ_ hzH
 clear hW0 hbk hzK hzH HK2 HH3
 go_upto_region 3 with (go_at_call 89;go_loud ((with_reducible refine (c6j W0).mono ?_);rintro e W1 ⟨gp,cp,rfl,hp,hg,hb⟩;have HP1:=hJ_ hp;have HGP:=hJ_ (show gp ≠ bk ∧ gp ≠ bk + 1 by have:=HZ2S.out;omega);have HK1:=hJ_ (HBK.out.on hb (by have:=HZ2S.out;omega));have HH1:=hJ_ (HBH.out.on hb (by have:=HZ2S.out;omega));have HB1:=hJ_ (show Below bk w W1 from HBB.out.trans (hb.mono (by have:=HZ2S.out;omega)));have HS1:=hJ_ (show bk + 2 ≤ W1.heap.size by have:=hb.size;have:=HZ2S.out;omega);clear hp hg hb))
 go_wp2_with fail
 go_loopw [23] (fun q V => ∃ i:Nat,i ≤ 64 ∧ q = .int .i64 (i:Nat) ∧ Blk V bk 116 64 (fV KF i) ∧ Blk V (bk + 1) 117 8 (fV HF0 i) ∧ A64 V (some ⟨gp,0,none⟩) 64 cp p64 ∧ Below bk w V) (fun q _ => 64 - (intOf q).toNat)
 case atStart => exact ⟨0,by omega,rfl,HK1.out,HH1.out,HP1.out,HB1.out⟩
 case round =>
  obtain ⟨i,hi,rfl,h1,h2,h3,h4⟩:=hrel
  rename World => V
  have KK:=hJ_ h1
  have KH:=hJ_ h2
  have KP:=hJ_ h3
  have KB:=hJ_ h4
  clear h1 h2 h3 h4 HBK HBH HBB HP1 HK1 HH1 HB1
  by_cases hlt:i < 64
  ·obtain ⟨b,off,e,_,hcell⟩:=KP.out.at_ hlt
   cases e
   rw [Nat.zero_add] at hcell
   have hr3:=e1z i hlt
   have HF3:=hJ_ (show ∀ W:World,Calls Tryz.prog 90 #[.int .u64 ((p64.getD i 0:Nat):Int),.int .i64 3] W fun e w' => e = .returned (.int .u32 ((KF i:Nat):Int)) ∧ Below W.heap.size W w' from fun W => a9j _ 3 (R3.getD i 0) hr3.2.2.2 (by omega) (by omega) hr3.1 hr3.2.1 hr3.2.2.1 W)
   have HF2:=hJ_ (show i < 8 → ∀ W:World,Calls Tryz.prog 90 #[.int .u64 ((p64.getD i 0:Nat):Int),.int .i64 2] W fun e w' => e = .returned (.int .u32 ((HF0 i:Nat):Int)) ∧ Below W.heap.size W w' from fun h8 W => a9j _ 2 (R2.getD i 0) hr3.2.2.2 (by omega) (by omega) (b9a i h8).1 (b9a i h8).2.1 (b9a i h8).2.2 W)
   obtain ⟨q,hq⟩:∃ q,q = p64.getD i 0:=⟨_,rfl⟩
   rw [← hq] at hcell HF3 HF2
   have qi:(i:Int) < 64:=by omega
   have qi0:(0:Int) ≤ (i:Int):=by omega
   have HLT:=hJ_ hlt
   clear hr3 hq
   go_upto_region 6 with (go_at_call 90;go_loud ((with_reducible refine (HF3.out V).mono ?_);rintro e V2 ⟨rfl,hb⟩;have hk2:=KK.out.on hb KK.out.lt;have hc2:=hk2.cell HLT.out;have hf2:=hk2.free i;have HK2:=hJ_ hk2;have HB2:=hJ_ hb;clear hb hk2))
   clear hc2 hf2 hcell
   have HK3:=hJ_ ((HK2.out.set hlt (.int .u32 ((KF i:Nat):Int))).congr fun j _ => b1k KF i j)
   have HH3:=hJ_ ((KH.out.on HB2.out KH.out.lt).other ⟨bk,i,none⟩ (.int .u32 ((KF i:Nat):Int)) (by show bk + 1 ≠ bk;omega))
   have HP3:=hJ_ ((KP.out.on HB2.out).other ⟨bk,i,none⟩ (.int .u32 ((KF i:Nat):Int)) (by show bk ≠ gp;have:=HGP.out;omega))
   have HB3:=hJ_ ((KB.out.trans (HB2.out.mono (Nat.le_of_lt KK.out.lt))).setCell (p:=⟨bk,i,none⟩) (Nat.le_refl _) (.int .u32 ((KF i:Nat):Int)))
   obtain ⟨V3,hV3⟩:∃ V3,V3 = V2.setCell ⟨bk,i,none⟩ (.int .u32 ((KF i:Nat):Int)):=⟨_,rfl⟩
   rw [← hV3] at HK3 HH3 HP3 HB3 ⊢
   clear hV3 HK2 HB2
   by_cases h8:i < 8
   ·have q8:(i:Int) < 8:=by omega
    have HF2':=hJ_ (HF2.out h8)
    have H8:=hJ_ h8
    go_wp2_with (go_at_call 90;go_loud ((with_reducible refine (HF2'.out V3).mono ?_);rintro e V4 ⟨rfl,hb⟩;have hk4:=HH3.out.on hb HH3.out.lt;have hc4:=hk4.cell H8.out;have hf4:=hk4.free i;have HH4:=hJ_ hk4;have HB4:=hJ_ hb;clear hb hk4))
    go_roundw
    case rel => exact ⟨i + 1,by omega,by go_num,(HK3.out.on HB4.out HK3.out.lt).other ⟨bk + 1,i,none⟩ _ (by show bk ≠ bk + 1;omega),(HH4.out.set h8 _).congr fun j _ => b1k HF0 i j,(HP3.out.on HB4.out).other ⟨bk + 1,i,none⟩ _ (by show bk + 1 ≠ gp;have:=HGP.out;omega),(HB3.out.trans (HB4.out.mono (Nat.le_of_lt HK3.out.lt))).setCell (p:=⟨bk + 1,i,none⟩) (by show bk ≤ bk + 1;omega) _⟩
    case measure => simp [intOf] <;> omega
   ·go_wp2
    go_roundw
    case rel => exact ⟨i + 1,by omega,by go_num,HK3.out,HH3.out.congr fun j hj => by unfold fV;rw [if_pos (by omega),if_pos (by omega)],HP3.out,HB3.out⟩
    case measure => simp [intOf] <;> omega
  ·obtain rfl:i = 64:=by omega
   have GK:=hJ_ (KK.out.congr fun j hj => d5r KF hj)
   have GH:=hJ_ (show Blk V (bk + 1) 117 8 (gV (hF (b7r l) 0)) from KH.out.congr fun j hj => by show fV HF0 64 j = gV HF0 j;unfold fV gV;rw [if_pos (by omega)])
   have GLT:=hJ_ (show bk + 2 ≤ V.heap.size by have:=KH.out.lt;omega)
   clear KK KH KP hlt hi HGP
   have HXV:=hJ_ (HX.out.1.on (show Below w.heap.size w V by rw [← HBKW.out];exact KB.out))
   have HN0:=hJ_ (show (V.alloc (.cells #[] 5)).ownsRow V.heap.size 5 1 (.slice (some ⟨V.heap.size,0,none⟩) 0 0) 0 (([]:List Int).map (Value.int .u8)) from World.ownsRow_lit (base:=V.heap.size) (e:=5) (size:=1) V #[] 0 (Nat.le_refl _) (Nat.zero_le _) rfl)
   have HB0:=hJ_ (show Below V.heap.size V (V.alloc (.cells #[] 5)) from (Below.refl _ _).alloc (Nat.le_refl _) _)
   have HX0:=hJ_ (HXV.out.on HB0.out)
   have HX0S:=hJ_ (show Bs (V.alloc (.cells #[] 5)) (V.alloc (.cells #[] 5)).heap.size a l from HX0.out.2.2.1)
   have HXL:=hJ_ (show l.length = L from HX.out.1.1)
   have HXB:=hJ_ (show a0z l from HX.out.1.2.1)
   have HXC:=hJ_ HX.out.2
   have hL6:(L:Int) ≤ 1000000:=by have:=HL.out;omega
   go_upto_region 10 with ((with_reducible show wpList _ _ _ (⟨some 41,_,_,_,_,_⟩ :: _) _ _);go_loud (refine a0u _ (o:=⟨some 41,_,_,_,_,_⟩) rfl (.tmp 39) (.tmp 40) 22 rfl V.heap.size 5 i8 Tryz.underlying22 HI.out HZ0.out HZ1.out HZ2.out _ 0 [] rfl HN0.out a L c _ l rfl HX0S.out HXL.out HXC.out (by omega) (by simp) ?_;intro v3 W3 ho3 hg3))
   have HB3:=hJ_ (show Below V.heap.size V W3 from HB0.out.grown hg3 (by simp) (fun k' hk' => by have:=Option.some.inj (show some V.heap.size = some k' from hk');omega))
   have ho3':W3.ownsRow V.heap.size 5 1 v3 L (l.map (Value.int .u8)):=by simpa using ho3
   obtain ⟨a3,c3,rfl,_⟩:=a0f ho3'
   have HO3:=hJ_ ho3'
   clear ho3 ho3' hg3 HN0 HB0 HX0 HX0S
   have HOA:=hJ_ (HO3.out.alloc (.cells #[.int .u8 128] 5))
   have HCE:=hJ_ (show ∀ j,j < 1 → (W3.alloc (.cells #[.int .u8 128] 5)).cell? ⟨W3.heap.size,j,none⟩ = some (.int .u8 (([128]:List Int).getD j 0)) from b2e _ _ _)
   have HSZ:=hJ_ (show V.heap.size ≤ (W3.alloc (.cells #[.int .u8 128] 5)).heap.size by have:=HB3.out.size;simp;omega)
   have HBA:=hJ_ (show Below V.heap.size V (W3.alloc (.cells #[.int .u8 128] 5)) from HB3.out.alloc HB3.out.size _)
   go_wp2_with ((with_reducible show wpList _ _ _ (⟨some 44,_,_,_,_,_⟩ :: _) _ _);go_loud (refine a2k (o:=⟨some 44,_,_,_,_,_⟩) rfl (.tmp 42) (.tmp 43) 22 rfl V.heap.size 5 i8 Tryz.underlying22 HI.out HZ0.out HZ1.out HZ2.out a3 L c3 l rfl HOA.out W3.heap.size 1 [128] rfl rfl (by omega) HCE.out (by omega) HSZ.out ?_;intro g4 c4 W4 ho4 hb4))
   have HO4:=hJ_ ho4
   have HB4:=hJ_ (HBA.out.trans hb4)
   clear ho4 hb4 HO3 HB3 HOA HCE HSZ HBA
   go_loopw [7] (fun m U => ∃ (z n g c':Nat),z ≤ zc L ∧ Hid (n = L + 1 + z) ∧ m = .slice (some ⟨g,0,none⟩) n c' ∧ U.ownsRow V.heap.size 5 1 (.slice (some ⟨g,0,none⟩) n c') n ((l ++ [128] ++ List.replicate z 0).map (Value.int .u8)) ∧ Below V.heap.size V U) (fun m _ => 2000000 - (match m with | .slice _ n _ => n | _ => 0))
   case atStart => exact ⟨0,L + 1,g4,c4,by omega,hJ_ (by omega),rfl,by simpa using HO4.out,HB4.out⟩
   case round =>
    obtain ⟨z,n,g,c',hz,hn,rfl,h1,h2⟩:=hrel
    have MO:=hJ_ h1
    have MB:=hJ_ h2
    have MN:=hJ_ hn.out
    rename World => U
    clear h1 h2 hn HO4 HB4
    obtain ⟨R,hR⟩:∃ R,R = n % 64:=⟨_,rfl⟩
    have qR:(n:Int) % 64 = (R:Int):=by omega
    have hn6:(n:Int) ≤ 1000200:=by have:=MN.out;have:=e0g L;omega
    by_cases hlt:z < zc L
    ·have hne:=e6m hlt
     rw [← MN.out,← hR] at hne
     have qN:((R:Int) != 56) = true:=by simp <;> omega
     have HLT:=hJ_ hlt
     have HOA:=hJ_ (MO.out.alloc (.cells #[.int .u8 0] 5))
     have HCE:=hJ_ (show ∀ j,j < 1 → (U.alloc (.cells #[.int .u8 0] 5)).cell? ⟨U.heap.size,j,none⟩ = some (.int .u8 (([0]:List Int).getD j 0)) from b2e _ _ _)
     have HSZ:=hJ_ (show V.heap.size ≤ (U.alloc (.cells #[.int .u8 0] 5)).heap.size by have:=MB.out.size;simp;omega)
     have HBA:=hJ_ (show Below V.heap.size V (U.alloc (.cells #[.int .u8 0] 5)) from MB.out.alloc MB.out.size _)
     clear hne hlt hR
     go_wp2_with ((with_reducible show wpList _ _ _ (⟨some 51,_,_,_,_,_⟩ :: _) _ _);go_loud (refine a2k (o:=⟨some 51,_,_,_,_,_⟩) rfl (.tmp 49) (.tmp 50) 22 rfl V.heap.size 5 i8 Tryz.underlying22 HI.out HZ0.out HZ1.out HZ2.out (some ⟨g,0,none⟩) n c' (l ++ [128] ++ List.replicate z 0) rfl HOA.out U.heap.size 1 [0] rfl rfl (by omega) HCE.out (by omega) HSZ.out ?_;intro g5 c5 W5 ho5 hb5))
     have HO5:=hJ_ ho5
     have HB5:=hJ_ (HBA.out.trans hb5)
     clear ho5 hb5
     go_roundw
     case rel => exact ⟨z + 1,n + 1,g5,c5,HLT.out,hJ_ (by have:=MN.out;omega),rfl,by rw [List.replicate_succ',← List.append_assoc];exact HO5.out,HB5.out⟩
     case measure => simp <;> omega
    ·obtain rfl:z = zc L:=by omega
     have hne:=d6f L
     rw [← MN.out,← hR] at hne
     have qN:((R:Int) != 56) = false:=by simp <;> omega
     clear hne hlt hR hz
     obtain ⟨P,hP⟩:∃ P,P = l ++ [128] ++ List.replicate (zc L) 0:=⟨_,rfl⟩
     have HP:=hJ_ hP
     rw [← hP] at MO
     obtain ⟨X,hX⟩:∃ X,X = 8 * L:=⟨_,rfl⟩
     have HXX:=hJ_ hX
     have qX:(L:Int) * 8 = (X:Int):=by omega
     have hX8:(X:Int) ≤ 8000000:=by omega
     clear hP hX
     go_upto_region 14 with fail
     clear qN qR
     go_loopw [7,8] (fun m q W => ∃ (j n' g' c'':Nat),j ≤ 8 ∧ Hid (n' = n + j) ∧ m = .slice (some ⟨g',0,none⟩) n' c'' ∧ q = .int .i64 (56 - 8 * (j:Int)) ∧ W.ownsRow V.heap.size 5 1 (.slice (some ⟨g',0,none⟩) n' c'') n' ((P ++ w8L X j).map (Value.int .u8)) ∧ Below V.heap.size V W) (fun _ q _ => (intOf q + 8).toNat)
     case atStart => exact ⟨0,n,g,c',by omega,hJ_ rfl,rfl,by go_num,by rw [w8L,List.append_nil];exact MO.out,MB.out⟩
     case round =>
      obtain ⟨j,n',g',c'',hj,hn',rfl,rfl,h1,h2⟩:=hrel
      have NO:=hJ_ h1
      have NB:=hJ_ h2
      have NN:=hJ_ hn'.out
      rename World => W
      clear h1 h2 hn'
      have hn7:(n':Int) ≤ 1000300:=by have:=NN.out;omega
      by_cases hlt:j < 8
      ·obtain ⟨e,he⟩:∃ e,e = 8 * (7 - j):=⟨_,rfl⟩
       have ej:(56:Int) - 8 * (j:Int) = (e:Int):=by omega
       rw [ej]
       have he56:e ≤ 56:=by omega
       have HW8:=hJ_ (show (X:Int) / 2 ^ e % 256 = w8 X j by unfold w8;rw [← he,Int.natCast_emod,Int.natCast_ediv,Int.natCast_pow];rfl)
       have HEJ:=hJ_ ej
       have HJ:=hJ_ hlt
       clear ej he
       go_wp2_with ((with_reducible show wpList _ _ _ (⟨some 65,_,_,_,_,_⟩ :: _) _ _);go_loud (refine a2k (o:=⟨some 65,_,_,_,_,_⟩) rfl (.tmp 56) (.tmp 64) 22 rfl V.heap.size 5 i8 Tryz.underlying22 HI.out HZ0.out HZ1.out HZ2.out (some ⟨g',0,none⟩) n' c'' (P ++ w8L X j) rfl (NO.out.alloc _) W.heap.size 1 [(X:Int) / 2 ^ e % 256] rfl rfl (by omega) (b2e _ _ _) (by omega) (by have:=NB.out.size;simp;omega) ?_;intro g5 c5 W5 ho5 hb5))
       have HO5:=hJ_ ho5
       have HB5:=hJ_ ((NB.out.alloc NB.out.size _).trans hb5)
       clear ho5 hb5
       go_roundw
       case rel =>
        rw [show (e:Int) - 8 = 56 - 8 * ((j + 1:Nat):Int) by have:=HEJ.out;omega]
        exact ⟨j + 1,n' + 1,g5,c5,by omega,hJ_ (by have:=NN.out;omega),rfl,by have:=HEJ.out;go_num,by rw [w8L,← List.append_assoc,← HW8.out];exact HO5.out,HB5.out⟩
       case measure => simp [intOf] <;> omega
      ·obtain rfl:j = 8:=by omega
       rw [show ((56:Int) - 8 * ((8:Nat):Int)) = -8 by decide]
       have hML:P ++ w8L X 8 = b7r l:=by rw [HP.out,HXX.out,b7r,HXL.out]
       rw [hML] at NO
       obtain ⟨M,hM⟩:∃ M,M = b7r l:=⟨_,rfl⟩
       have HMM:=hJ_ hM
       have HMB:=hJ_ (show a0z M by rw [hM];exact e3q HXB.out)
       obtain ⟨Q,hQ⟩:∃ Q,Q = M.length / 64:=⟨_,rfl⟩
       have HMN:=hJ_ (show n' = 64 * Q by have h1:=(Bs.of_own NO.out).2;have h2:=d7u l;rw [h1] at h2;rw [hQ,hM,h1];omega)
       have HQ:=hJ_ (show (b7r l).length / 64 = Q by rw [hQ,hM])
       rw [← hM] at NO GH
       have MR:=hJ_ (a5f.own NO.out HMB.out)
       have HGG:=hJ_ (show bk + 2 ≤ g' by have:=a3g NO.out g' rfl;have:=GLT.out;omega)
       have MK:=hJ_ (GK.out.on NB.out (by have:=GLT.out;omega))
       have MH:=hJ_ (GH.out.on NB.out (by have:=GLT.out;omega))
       have MB2:=hJ_ (show Below bk w W from KB.out.trans (NB.out.mono (by have:=GLT.out;omega)))
       clear hML hM hQ NO NB GK GH KB MO MB hlt hj qX hX8
       go_upto_region 18 with fail
       go_loopw [9] (fun q U => ∃ t:Nat,t ≤ Q ∧ q = .int .i64 ((64 * t:Nat):Int) ∧ Blk U bk 116 64 (gV KF) ∧ Blk U (bk + 1) 117 8 (gV (hF M t)) ∧ a5f U g' n' M ∧ Below bk w U) (fun q _ => 64 * Q - (intOf q).toNat)
       case atStart => exact ⟨0,by omega,rfl,MK.out,MH.out,MR.out,MB2.out⟩
       case round =>
        obtain ⟨t,ht,rfl,h1,h2,h3,h4⟩:=hrel
        rename World => U
        have UK:=hJ_ h1
        have UH:=hJ_ h2
        have UR:=hJ_ h3
        have UB:=hJ_ h4
        clear h1 h2 h3 h4 MK MH MR MB2
        by_cases hlt:t < Q
        ·have HLT:=hJ_ hlt
         have hn'Q:(n':Int) = 64 * (Q:Int):=by have:=HMN.out;omega
         have HNQ:=hJ_ hn'Q
         have qA:(64:Int) * (t:Int) < (n':Int):=by omega
         have hA6:(64:Int) * (t:Int) ≤ 1000400:=by omega
         obtain ⟨A,hA⟩:∃ A,A = 64 * t:=⟨_,rfl⟩
         have HAA:=hJ_ hA
         have qA2:(A:Int) < (n':Int):=by omega
         have hA7:(A:Int) ≤ 1000400:=by omega
         rw [← hA]
         have hF0:=d1k M t
         obtain ⟨h,hh⟩:∃ h,h = hF M t:=⟨_,rfl⟩
         have HHH:=hJ_ hh
         rw [← hh] at UH hF0
         have HF0:=hJ_ hF0
         obtain ⟨cs,hcs⟩:∃ cs,cs = a0e 8 (gV h):=⟨_,rfl⟩
         have HSS:=hJ_ (show (Tryz.prog.info? 117).map (·.size) = some cs.size by rw [hcs,a0b];exact b6s)
         have HSC:=hJ_ (show cH.size = cs.size by rw [hcs,HCH.out,a0b,a0b])
         have HSO:=hJ_ (show cs.all (·.oneCell') = true by rw [hcs];exact a0l fun _ => rfl)
         obtain ⟨b1,hb1⟩:∃ b,b = U.heap.size:=⟨_,rfl⟩
         obtain ⟨U1,hU1⟩:∃ W,W = U.alloc (.cells cK 116):=⟨_,rfl⟩
         obtain ⟨U2,hU2⟩:∃ W,W = U1.setRow b1 cK:=⟨_,rfl⟩
         obtain ⟨U3,hU3⟩:∃ W,W = U2.alloc (.cells cH 117):=⟨_,rfl⟩
         have s1:U1.heap.size = b1 + 1:=by rw [hU1,hb1];simp
         have s2:U2.heap.size = b1 + 1:=by rw [hU2,setRow_size,s1]
         have s3:U3.heap.size = b1 + 2:=by rw [hU3];simp;omega
         have k1:Blk U1 b1 116 64 (fun _ => .int .u32 0):=by rw [hU1,HCK.out,hb1];exact Blk.made _ _ _ _
         have k2:Blk U2 b1 116 64 (fV (ws (mF M A)) 0):=by rw [hU2,HCK.out];exact k1.row _
         have d1:Below b1 U U1:=by rw [hU1,hb1];exact (Below.refl _ _).alloc (Nat.le_refl _) _
         have d2:Below b1 U U2:=by rw [hU2];exact below_setRow d1 (Nat.le_refl _) _
         have d3:Below (b1 + 1) U2 U3:=by rw [hU3,← s2];exact (Below.refl _ _).alloc (Nat.le_refl _) _
         have d4:Below b1 U U3:=d2.trans (d3.mono (by omega))
         have k3:Blk U3 b1 116 64 (fV (ws (mF M A)) 0):=k2.on d3 (by omega)
         have k4:Blk U3 (b1 + 1) 117 8 (fun _ => .int .u32 0):=by rw [hU3,HCH.out,← s2];exact Blk.made _ _ _ _
         have hlb:bk + 1 < b1:=by rw [hb1];exact UH.out.lt
         have HLB:=hJ_ hlb
         have PK:=hJ_ (show Blk (U3.setRow (b1 + 1) cs) b1 116 64 (fV (ws (mF M A)) 0) by unfold Blk;rw [setRow_other _ _ _ _ (by omega)];exact k3)
         have PV:=hJ_ (show Blk (U3.setRow (b1 + 1) cs) (b1 + 1) 117 8 (gV (comp h (ws (mF M A)) 0)) by rw [hcs];exact k4.row _)
         have PB:=hJ_ (show Below b1 U (U3.setRow (b1 + 1) cs) from below_setRow d4 (by omega) _)
         have S1:=hJ_ (show U1.heap[b1]? = some (.cells cK 116 (0,0)) by rw [HCK.out];exact k1)
         have S2:=hJ_ (show U2.heap[bk + 1]? = some (.cells cs 117 (0,0)) by rw [hcs];exact UH.out.on d2 hlb)
         have S3:=hJ_ (show U3.heap[b1 + 1]? = some (.cells cH 117 (0,0)) by rw [HCH.out];exact k4)
         have SZ1:=hJ_ (show U2.heap.size = b1 + 1 from s2)
         have e1:U1 = U.alloc (.cells cK 116):=hU1
         have e2:U2 = (U.alloc (.cells cK 116)).setRow U.heap.size cK:=by rw [hU2,hU1,hb1]
         have HB1:=hJ_ hb1
         rw [hb1] at S1 S3
         have hz1:=HZK.out
         have hz2:=HZH.out
         have E1:=hJ_ e1
         have E2:=hJ_ e2
         have E3:=hJ_ hU3
         rw [E1.out] at S1
         rw [E2.out] at S2
         rw [E3.out,E2.out] at S3
         clear hb1 hU1 hU2 hU3 s1 s2 s3 k1 k2 d1 d2 d3 d4 k3 k4 e1 e2 hcs hA hh hF0 hlb hn'Q hlt ht qA hA6
         have HSZ2:=hJ_ (show ((U.alloc (.cells cK 116)).setRow U.heap.size cK).heap.size = U.heap.size + 1 by rw [setRow_size];simp)
         have hsz2:=HSZ2.out
         go_upto_region 21 with ((with_reducible show wpList _ _ _ (⟨none,_,_,_,_,_⟩ :: _) _ _);go_loud (refine wpList_store_row rfl 116 (.tmp 10) (.tmp 72) rfl U.heap.size cK rfl rfl _ _ S1.out HSK.out rfl HOK.out ?_))
         clear hz1
         go_upto_region 22 with (first
          | ((with_reducible show wpList _ _ _ (⟨some 73,_,_,_,_,_⟩ :: _) _ _);go_loud (refine wpList_load_row rfl 117 (.tmp 4) rfl (bk + 1) rfl _ cs _ _ S2.out Tryz.underlying117 rfl HSS.out ?_))
          | ((with_reducible show wpList _ _ _ (⟨none,_,_,_,_,_⟩ :: _) _ _);go_loud (refine wpList_store_row rfl 117 (.tmp 11) (.tmp 73) rfl (U.heap.size + 1) cs rfl rfl _ _ S3.out HSS.out HSC.out HSO.out ?_)))
         clear hz2 hsz2
         obtain ⟨Y,hY⟩:∃ Y,Y = (((U.alloc (.cells cK 116)).setRow U.heap.size cK).alloc (.cells cH 117)).setRow (U.heap.size + 1) cs:=⟨_,rfl⟩
         have hYY:U3.setRow (b1 + 1) cs = Y:=by rw [hY,E3.out,E2.out,HB1.out]
         rw [hYY] at PK PV PB
         rw [← hY,← HB1.out]
         clear hY hYY S1 S2 S3 E1 E2 E3 SZ1 HSZ2 HSS HSC HSO
         have HMF:=hJ_ (show ∀ t,mF M A t < 4294967296 from fun t => e0z HMB.out _)
         obtain ⟨m,hm⟩:∃ m,m = mF M A:=⟨_,rfl⟩
         have HMQ:=hJ_ hm
         rw [← hm] at PK PV HMF
         have HWS:=hJ_ (d4i HMF.out)
         clear hm
         go_wp2_with fail
         go_loopw [12] (fun q Z => ∃ s:Nat,s ≤ 64 ∧ q = .int .i64 (s:Nat) ∧ Blk Z b1 116 64 (fV (ws m) s) ∧ Blk Z (b1 + 1) 117 8 (gV (comp h (ws m) s)) ∧ Below b1 U Z) (fun q _ => 64 - (intOf q).toNat)
         case atStart => exact ⟨0,by omega,rfl,PK.out,PV.out,PB.out⟩
         case round =>
          obtain ⟨s,hs,rfl,h1,h2,h3⟩:=hrel
          rename World => Z
          have ZK:=hJ_ h1
          have ZV:=hJ_ h2
          have ZB:=hJ_ h3
          clear h1 h2 h3 PK PV PB
          by_cases hlt:s < 64
          ·have HLS:=hJ_ hlt
           have qs:(s:Int) < 64:=by omega
           have qs0:(0:Int) ≤ (s:Int):=by omega
           have ZR:=hJ_ (UR.out.on ZB.out (by rw [HB1.out];exact UR.out.2.2.1))
           go_upto_if 79 with fail
           go_cut [80] from 78 to 169 (fun _ wx => Hid (Blk wx b1 116 64 (fV (ws m) (s + 1))) ∧ Hid (Blk wx (b1 + 1) 117 8 (gV (comp h (ws m) s))) ∧ Hid (Below b1 U wx))
           case rest =>
            as_aux_lemma =>
             obtain ⟨h1,h2,h3⟩:=hcut
             rename World => W
             have WK:=hJ_ h1.out
             have WV:=hJ_ h2.out
             have WB:=hJ_ h3.out
             clear h1 h2 h3
             have hv:=b1b HF0.out (ws m) s
             obtain ⟨v,hvv⟩:∃ v,v = comp h (ws m) s:=⟨_,rfl⟩
             have HVN:=hJ_ (show comp h (ws m) (s + 1) = rnd v (KF s) (ws m s) by rw [comp,hvv])
             rw [← hvv] at WV hv
             have hcv0:=WV.out.cell (j:=0) (by omega)
             have hcv1:=WV.out.cell (j:=1) (by omega)
             have hcv2:=WV.out.cell (j:=2) (by omega)
             have hcv3:=WV.out.cell (j:=3) (by omega)
             have hcv4:=WV.out.cell (j:=4) (by omega)
             have hcv5:=WV.out.cell (j:=5) (by omega)
             have hcv6:=WV.out.cell (j:=6) (by omega)
             have hcv7:=WV.out.cell (j:=7) (by omega)
             have hcw:=WK.out.cell (j:=s) HLS.out
             unfold fV at hcw
             rw [if_pos (by omega)] at hcw
             have hck:=(UK.out.on WB.out (by have:=HLB.out;omega)).cell (j:=s) HLS.out
             unfold gV at hcv0 hcv1 hcv2 hcv3 hcv4 hcv5 hcv6 hcv7 hck
             have lw:=HWS.out s
             have lk:=e6l s
             obtain ⟨wz,e1⟩:∃ x,x = ws m s:=⟨_,rfl⟩
             obtain ⟨kz,e2⟩:∃ x,x = KF s:=⟨_,rfl⟩
             rw [← e1] at hcw lw HVN
             rw [← e2] at hck lk HVN
             have l0:=hv 0
             have l1:=hv 1
             have l2:=hv 2
             have l3:=hv 3
             have l4:=hv 4
             have l5:=hv 5
             have l6:=hv 6
             have l7:=hv 7
             obtain ⟨v0,n0⟩:∃ x,x = v 0:=⟨_,rfl⟩
             obtain ⟨v1,n1⟩:∃ x,x = v 1:=⟨_,rfl⟩
             obtain ⟨v2,n2⟩:∃ x,x = v 2:=⟨_,rfl⟩
             obtain ⟨v3,n3⟩:∃ x,x = v 3:=⟨_,rfl⟩
             obtain ⟨v4,n4⟩:∃ x,x = v 4:=⟨_,rfl⟩
             obtain ⟨v5,n5⟩:∃ x,x = v 5:=⟨_,rfl⟩
             obtain ⟨v6,n6⟩:∃ x,x = v 6:=⟨_,rfl⟩
             obtain ⟨v7,n7⟩:∃ x,x = v 7:=⟨_,rfl⟩
             rw [← n0] at hcv0 l0
             rw [← n1] at hcv1 l1
             rw [← n2] at hcv2 l2
             rw [← n3] at hcv3 l3
             rw [← n4] at hcv4 l4
             rw [← n5] at hcv5 l5
             rw [← n6] at hcv6 l6
             rw [← n7] at hcv7 l7
             have HN8:=hJ_ (show v 0 = v0 ∧ v 1 = v1 ∧ v 2 = v2 ∧ v 3 = v3 ∧ v 4 = v4 ∧ v 5 = v5 ∧ v 6 = v6 ∧ v 7 = v7 from ⟨n0.symm,n1.symm,n2.symm,n3.symm,n4.symm,n5.symm,n6.symm,n7.symm⟩)
             clear n0 n1 n2 n3 n4 n5 n6 n7 hv hvv e1 e2
             obtain ⟨p1,f1⟩:∃ x,x = rr 6 v4:=⟨_,rfl⟩
             obtain ⟨p2,f2⟩:∃ x,x = rr 11 v4:=⟨_,rfl⟩
             obtain ⟨p3,f3⟩:∃ x,x = rr 25 v4:=⟨_,rfl⟩
             obtain ⟨p4,f4⟩:∃ x,x = rr 2 v0:=⟨_,rfl⟩
             obtain ⟨p5,f5⟩:∃ x,x = rr 13 v0:=⟨_,rfl⟩
             obtain ⟨p6,f6⟩:∃ x,x = rr 22 v0:=⟨_,rfl⟩
             have HT6:=hJ_ (show ∀ (n:Nat),Calls Tryz.prog 91 #[.int .u32 (v4:Nat),.int .i64 6] (W.drewN n) fun e w' => e = .returned (.int .u32 ((p1:Nat):Int)) ∧ ∃ j,w' = (W.drewN n).drewN j from fun n => by rw [f1];exact a1x v4 6 l4 (by omega) (by omega) _)
             have HT11:=hJ_ (show ∀ (n:Nat),Calls Tryz.prog 91 #[.int .u32 (v4:Nat),.int .i64 11] (W.drewN n) fun e w' => e = .returned (.int .u32 ((p2:Nat):Int)) ∧ ∃ j,w' = (W.drewN n).drewN j from fun n => by rw [f2];exact a1x v4 11 l4 (by omega) (by omega) _)
             have HT25:=hJ_ (show ∀ (n:Nat),Calls Tryz.prog 91 #[.int .u32 (v4:Nat),.int .i64 25] (W.drewN n) fun e w' => e = .returned (.int .u32 ((p3:Nat):Int)) ∧ ∃ j,w' = (W.drewN n).drewN j from fun n => by rw [f3];exact a1x v4 25 l4 (by omega) (by omega) _)
             have HT2:=hJ_ (show ∀ (W:World) (n:Nat),Calls Tryz.prog 91 #[.int .u32 (v0:Nat),.int .i64 2] (W.drewN n) fun e w' => e = .returned (.int .u32 ((p4:Nat):Int)) ∧ ∃ j,w' = (W.drewN n).drewN j from fun W n => by rw [f4];exact a1x v0 2 l0 (by omega) (by omega) _)
             have HT13:=hJ_ (show ∀ (W:World) (n:Nat),Calls Tryz.prog 91 #[.int .u32 (v0:Nat),.int .i64 13] (W.drewN n) fun e w' => e = .returned (.int .u32 ((p5:Nat):Int)) ∧ ∃ j,w' = (W.drewN n).drewN j from fun W n => by rw [f5];exact a1x v0 13 l0 (by omega) (by omega) _)
             have HT22:=hJ_ (show ∀ (W:World) (n:Nat),Calls Tryz.prog 91 #[.int .u32 (v0:Nat),.int .i64 22] (W.drewN n) fun e w' => e = .returned (.int .u32 ((p6:Nat):Int)) ∧ ∃ j,w' = (W.drewN n).drewN j from fun W n => by rw [f6];exact a1x v0 22 l0 (by omega) (by omega) _)
             have lp1:p1 < 4294967296:=by rw [f1];exact a2s l4 _
             have lp2:p2 < 4294967296:=by rw [f2];exact a2s l4 _
             have lp3:p3 < 4294967296:=by rw [f3];exact a2s l4 _
             have lp4:p4 < 4294967296:=by rw [f4];exact a2s l0 _
             have lp5:p5 < 4294967296:=by rw [f5];exact a2s l0 _
             have lp6:p6 < 4294967296:=by rw [f6];exact a2s l0 _
             obtain ⟨a1,g1⟩:∃ x,x = p1 ^^^ p2:=⟨_,rfl⟩
             obtain ⟨a2,g2⟩:∃ x,x = a1 ^^^ p3:=⟨_,rfl⟩
             obtain ⟨a3,g3'⟩:∃ x,x = ad v7 a2:=⟨_,rfl⟩
             obtain ⟨a4,g4'⟩:∃ x,x = v4 &&& v5:=⟨_,rfl⟩
             obtain ⟨a0,g0⟩:∃ x,x = 4294967295 - v4:=⟨_,rfl⟩
             obtain ⟨a5,g5⟩:∃ x,x = a0 &&& v6:=⟨_,rfl⟩
             obtain ⟨a6,g6⟩:∃ x,x = a4 ^^^ a5:=⟨_,rfl⟩
             obtain ⟨a7,g7⟩:∃ x,x = ad a3 a6:=⟨_,rfl⟩
             obtain ⟨a8,g8⟩:∃ x,x = ad a7 kz:=⟨_,rfl⟩
             obtain ⟨a9,g9⟩:∃ x,x = ad a8 wz:=⟨_,rfl⟩
             have la1:a1 < 4294967296:=by rw [g1];exact a6t lp1 lp2
             have la4:a4 < 4294967296:=by rw [g4'];exact b2t l5
             have la0:a0 < 4294967296:=by omega
             have la5:a5 < 4294967296:=by rw [g5];exact b2t l6
             have HA9:=hJ_ (show a9 = rt1 v kz wz by rw [g9,g8,g7,g6,g5,g4',g3',g2,g1,g0,f1,f2,f3];unfold rt1;rw [HN8.out.2.2.2.2.1,HN8.out.2.2.2.2.2.1,HN8.out.2.2.2.2.2.2.1,HN8.out.2.2.2.2.2.2.2];rfl)
             obtain ⟨b1',i1⟩:∃ x,x = p4 ^^^ p5:=⟨_,rfl⟩
             obtain ⟨b2',i2⟩:∃ x,x = b1' ^^^ p6:=⟨_,rfl⟩
             obtain ⟨b3,i3⟩:∃ x,x = v0 &&& v1:=⟨_,rfl⟩
             obtain ⟨b4,i4⟩:∃ x,x = v0 &&& v2:=⟨_,rfl⟩
             obtain ⟨b5,i5⟩:∃ x,x = b3 ^^^ b4:=⟨_,rfl⟩
             obtain ⟨b6,i6⟩:∃ x,x = v1 &&& v2:=⟨_,rfl⟩
             obtain ⟨b7,i7⟩:∃ x,x = b5 ^^^ b6:=⟨_,rfl⟩
             obtain ⟨b8,i8'⟩:∃ x,x = ad b2' b7:=⟨_,rfl⟩
             have lb1:b1' < 4294967296:=by rw [i1];exact a6t lp4 lp5
             have lb3:b3 < 4294967296:=by rw [i3];exact b2t l1
             have lb4:b4 < 4294967296:=by rw [i4];exact b2t l2
             have lb5:b5 < 4294967296:=by rw [i5];exact a6t lb3 lb4
             have lb6:b6 < 4294967296:=by rw [i6];exact b2t l2
             have HB8:=hJ_ (show b8 = rt2 v by rw [i8',i7,i6,i5,i4,i3,i2,i1,f4,f5,f6];unfold rt2;rw [HN8.out.1,HN8.out.2.1,HN8.out.2.2.1];rfl)
             go_upto_region 28 with fail
             have r1:bits .xor .u32 (p1:Int) (p2:Int) = (a1:Int):=by rw [g1];exact u32_xor_nat _ _ lp1 lp2
             have r2:bits .xor .u32 (a1:Int) (p3:Int) = (a2:Int):=by rw [g2];exact u32_xor_nat _ _ la1 lp3
             have r3:IntKind.u32.wrap ((v7:Int) + (a2:Int)) = (a3:Int):=by rw [IntKind.wrap_u32',g3'];unfold ad;omega
             have r4:bits .and .u32 (v4:Int) (v5:Int) = (a4:Int):=by rw [g4'];exact u32_and_nat _ _ l4 l5
             have r5:bits .and .u32 (a0:Int) (v6:Int) = (a5:Int):=by rw [g5];exact u32_and_nat _ _ la0 l6
             have r6:bits .xor .u32 (a4:Int) (a5:Int) = (a6:Int):=by rw [g6];exact u32_xor_nat _ _ la4 la5
             have r7:IntKind.u32.wrap ((a3:Int) + (a6:Int)) = (a7:Int):=by rw [IntKind.wrap_u32',g7];unfold ad;omega
             have r8:IntKind.u32.wrap ((a7:Int) + (kz:Int)) = (a8:Int):=by rw [IntKind.wrap_u32',g8];unfold ad;omega
             have r9:IntKind.u32.wrap ((a8:Int) + (wz:Int)) = (a9:Int):=by rw [IntKind.wrap_u32',g9];unfold ad;omega
             have r0:4294967295 - (v4:Int) = (a0:Int):=by omega
             have r00:bits .xor .u32 (if IntKind.u32.signed = true then -1 else IntKind.u32.max) (v4:Int) = (a0:Int):=by rw [g0,← e5r l4];exact u32_xor_nat _ _ (by decide) l4
             have u1:bits .xor .u32 (p4:Int) (p5:Int) = (b1':Int):=by rw [i1];exact u32_xor_nat _ _ lp4 lp5
             have u2:bits .xor .u32 (b1':Int) (p6:Int) = (b2':Int):=by rw [i2];exact u32_xor_nat _ _ lb1 lp6
             have u3:bits .and .u32 (v0:Int) (v1:Int) = (b3:Int):=by rw [i3];exact u32_and_nat _ _ l0 l1
             have u4:bits .and .u32 (v0:Int) (v2:Int) = (b4:Int):=by rw [i4];exact u32_and_nat _ _ l0 l2
             have u5:bits .xor .u32 (b3:Int) (b4:Int) = (b5:Int):=by rw [i5];exact u32_xor_nat _ _ lb3 lb4
             have u6:bits .and .u32 (v1:Int) (v2:Int) = (b6:Int):=by rw [i6];exact u32_and_nat _ _ l1 l2
             have u7:bits .xor .u32 (b5:Int) (b6:Int) = (b7:Int):=by rw [i7];exact u32_xor_nat _ _ lb5 lb6
             have u8:IntKind.u32.wrap ((b2':Int) + (b7:Int)) = (b8:Int):=by rw [IntKind.wrap_u32',i8'];unfold ad;omega
             clear f1 f2 f3 f4 f5 f6 g0 g1 g2 g3' g4' g5 g6 g7 g8 g9 i1 i2 i3 i4 i5 i6 i7 i8' lp1 lp2 lp3 lp4 lp5 lp6 la0 la1 la4 la5 lb1 lb3 lb4 lb5 lb6
             go_quiet (first
              | (go_at_call 91;(with_reducible exact Calls.quiet_of (HT6.out _)))
              | (go_at_call 91;(with_reducible exact Calls.quiet_of (HT11.out _)))
              | (go_at_call 91;(with_reducible exact Calls.quiet_of (HT25.out _))))
             clear r1 r2 r3 r4 r5 r6 r7 r8 r9 r0 r00
             go_upto_region 29 with fail
             have WK:=hJ_ (show Blk (W.drewN nq) b1 116 64 (fV (ws m) (s + 1)) from WK.out)
             have WV:=hJ_ (show Blk (W.drewN nq) (b1 + 1) 117 8 (gV v) from WV.out)
             have WB:=hJ_ (below_drewN WB.out nq)
             clear hcw hck hcv7
             have hcv0:(W.drewN nq).cell? ⟨b1 + 1,0,none⟩ = some (.int .u32 ((v0:Nat):Int)):=hcv0
             have hcv1:(W.drewN nq).cell? ⟨b1 + 1,1,none⟩ = some (.int .u32 ((v1:Nat):Int)):=hcv1
             have hcv2:(W.drewN nq).cell? ⟨b1 + 1,2,none⟩ = some (.int .u32 ((v2:Nat):Int)):=hcv2
             have hcv3:(W.drewN nq).cell? ⟨b1 + 1,3,none⟩ = some (.int .u32 ((v3:Nat):Int)):=hcv3
             have hcv4:(W.drewN nq).cell? ⟨b1 + 1,4,none⟩ = some (.int .u32 ((v4:Nat):Int)):=hcv4
             have hcv5:(W.drewN nq).cell? ⟨b1 + 1,5,none⟩ = some (.int .u32 ((v5:Nat):Int)):=hcv5
             have hcv6:(W.drewN nq).cell? ⟨b1 + 1,6,none⟩ = some (.int .u32 ((v6:Nat):Int)):=hcv6
             generalize hW2:W.drewN nq = W2 at WK WV WB hcv0 hcv1 hcv2 hcv3 hcv4 hcv5 hcv6 ⊢
             clear hW2
             go_quiet (first
              | (go_at_call 91;(with_reducible exact Calls.quiet_of (HT2.out _ _)))
              | (go_at_call 91;(with_reducible exact Calls.quiet_of (HT13.out _ _)))
              | (go_at_call 91;(with_reducible exact Calls.quiet_of (HT22.out _ _))))
             clear u1 u2 u3 u4 u5 u6 u7 u8
             obtain ⟨N0,j0⟩:∃ x,x = ad a9 b8:=⟨_,rfl⟩
             obtain ⟨N4,j4⟩:∃ x,x = ad v3 a9:=⟨_,rfl⟩
             have HRN:=hJ_ (show a0e 8 (gV (rnd v kz wz)) = #[.int .u32 (N0:Int),.int .u32 (v0:Int),.int .u32 (v1:Int),.int .u32 (v2:Int),.int .u32 (N4:Int),.int .u32 (v4:Int),.int .u32 (v5:Int),.int .u32 (v6:Int)] by
              rw [e9n,j0,j4,HA9.out,HB8.out,← HN8.out.1,← HN8.out.2.1,← HN8.out.2.2.1,← HN8.out.2.2.2.1,← HN8.out.2.2.2.2.1,← HN8.out.2.2.2.2.2.1,← HN8.out.2.2.2.2.2.2.1];rfl)
             obtain ⟨TC,hTC⟩:∃ c,c = a0e 8 (gV (rnd v kz wz)):=⟨_,rfl⟩
             have HBD:=hJ_ (show Tryz.prog.built 117 [(0,.int .u32 (N0:Int)),(1,.int .u32 (v0:Int)),(2,.int .u32 (v1:Int)),(3,.int .u32 (v2:Int)),(4,.int .u32 (N4:Int)),(5,.int .u32 (v4:Int)),(6,.int .u32 (v5:Int)),(7,.int .u32 (v6:Int))] = some TC by rw [hTC,HRN.out];exact d6h _ _ _ _ _ _ _ _)
             have HTS:=hJ_ (show (Tryz.prog.info? 117).map (·.size) = some TC.size by rw [hTC,a0b];exact b6s)
             have HTZ:=hJ_ (show (a0e 8 (gV v)).size = TC.size by rw [hTC,a0b,a0b])
             have HTO:=hJ_ (show TC.all (·.oneCell') = true by rw [hTC];exact a0l fun _ => rfl)
             have HTC:=hJ_ hTC
             go_upto_region 30 with fail
             have y0:IntKind.u32.wrap ((a9:Int) + (b8:Int)) = (N0:Int):=by rw [IntKind.wrap_u32',j0];unfold ad;omega
             have y4:IntKind.u32.wrap ((v3:Int) + (a9:Int)) = (N4:Int):=by rw [IntKind.wrap_u32',j4];unfold ad;omega
             have y0':((a9:Int) + (b8:Int)) % 4294967296 = (N0:Int):=by rw [j0];unfold ad;omega
             have y4':((v3:Int) + (a9:Int)) % 4294967296 = (N4:Int):=by rw [j4];unfold ad;omega
             clear j0 j4 hTC
             go_upto_region 24 with (first
              | ((with_reducible show wpList _ _ _ (⟨some 253,_,_,_,_,_⟩ :: _) _ _);go_loud (refine wpList_buildTo rfl 117 #[(0,.tmp 236),(1,.tmp 238),(2,.tmp 240),(3,.tmp 242),(4,.tmp 246),(5,.tmp 248),(6,.tmp 250),(7,.tmp 252)] rfl (some 253) rfl TC (by rw [Array.toList_map];exact HBD.out) ?_))
              | ((with_reducible show wpList _ _ _ (⟨none,_,_,_,_,_⟩ :: _) _ _);go_loud (refine wpList_store_row rfl 117 (.tmp 11) (.tmp 253) rfl (b1 + 1) TC rfl rfl _ _ WV.out HTS.out HTZ.out HTO.out ?_)))
             clear y0 y4 y0' y4' hcv0 hcv1 hcv2 hcv3 hcv4 hcv5 hcv6
             go_wp2
             go_roundw
             case rel =>
              refine ⟨s + 1,HLS.out,by go_num,?_,?_,?_⟩
              ·unfold Blk;rw [setRow_other _ _ _ _ (by omega)];exact WK.out
              ·rw [HVN.out,HTC.out];exact Blk.row (g:=gV v) WV.out _
              ·exact below_setRow (below_drewN WB.out _) (by omega) _
             case measure => simp [intOf] <;> omega
           case first =>
           have hck:=ZK.out.cell hlt
           unfold fV at hck
           rw [if_neg (by omega)] at hck
           have hfk:=ZK.out.free s
           by_cases h16:s < 16
           ·as_aux_lemma =>
             have H16:=hJ_ h16
             have q16:(s:Int) < 16:=by omega
             obtain ⟨q,hq⟩:∃ q,q = A + 4 * s:=⟨_,rfl⟩
             have qq:(A:Int) + 4 * (s:Int) = (q:Int):=by omega
             have hqn:q + 3 < n':=by rw [HMN.out,hq,HAA.out];have:=HLT.out;omega
             have hqn1:(q:Int) + 3 < (n':Int):=by omega
             have HN6:=hJ_ hn7
             have hm0:=ZR.out.2.2.2 q (by omega)
             have hm1:=ZR.out.2.2.2 (q + 1) (by omega)
             have hm2:=ZR.out.2.2.2 (q + 2) (by omega)
             have hm3:=ZR.out.2.2.2 (q + 3) (by omega)
             have hy0:=a9e HMB.out q
             have hy1:=a9e HMB.out (q + 1)
             have hy2:=a9e HMB.out (q + 2)
             have hy3:=a9e HMB.out (q + 3)
             have HGW:=hJ_ (show ws m s = gw M q by rw [b4t m h16,HMQ.out,hq];rfl)
             obtain ⟨x0,e0⟩:∃ x:Nat,M.getD q 0 = (x:Int):=⟨_,(Int.toNat_of_nonneg hy0.1).symm⟩
             obtain ⟨x1,e1⟩:∃ x:Nat,M.getD (q + 1) 0 = (x:Int):=⟨_,(Int.toNat_of_nonneg hy1.1).symm⟩
             obtain ⟨x2,e2⟩:∃ x:Nat,M.getD (q + 2) 0 = (x:Int):=⟨_,(Int.toNat_of_nonneg hy2.1).symm⟩
             obtain ⟨x3,e3⟩:∃ x:Nat,M.getD (q + 3) 0 = (x:Int):=⟨_,(Int.toNat_of_nonneg hy3.1).symm⟩
             have hgw:gw M q = x0 * 16777216 + x1 * 65536 + x2 * 256 + x3:=by unfold gw;rw [e0,e1,e2,e3];rfl
             rw [e0] at hm0 hy0
             rw [e1] at hm1 hy1
             rw [e2] at hm2 hy2
             rw [e3] at hm3 hy3
             have HGX:=hJ_ hgw
             have HXB4:=hJ_ (show x0 < 256 ∧ x1 < 256 ∧ x2 < 256 ∧ x3 < 256 by omega)
             have qM:(M.length:Int) = (n':Int):=by have:=ZR.out.1;omega
             have E0:=hJ_ (show ∀ W',a5f W' g' n' M → W'.cell? ⟨g',q,none⟩ = some (.int .u8 (x0:Int)) from fun W' hV => by have:=hV.2.2.2 q (by omega);rw [e0] at this;exact this)
             have E1:=hJ_ (show ∀ W',a5f W' g' n' M → W'.cell? ⟨g',q + 1,none⟩ = some (.int .u8 (x1:Int)) from fun W' hV => by have:=hV.2.2.2 (q + 1) (by omega);rw [e1] at this;exact this)
             have E2:=hJ_ (show ∀ W',a5f W' g' n' M → W'.cell? ⟨g',q + 2,none⟩ = some (.int .u8 (x2:Int)) from fun W' hV => by have:=hV.2.2.2 (q + 2) (by omega);rw [e2] at this;exact this)
             have E3:=hJ_ (show ∀ W',a5f W' g' n' M → W'.cell? ⟨g',q + 3,none⟩ = some (.int .u8 (x3:Int)) from fun W' hV => by have:=hV.2.2.2 (q + 3) (by omega);rw [e3] at this;exact this)
             have hq6:(q:Int) ≤ 1000400:=by omega
             go_upto_region 26 with fail
             have hu1:IntKind.i64.wrap (4 * (s:Int)) = 4 * (s:Int):=IntWalk.i64_in _ (by omega)
             have hu2:IntKind.i64.wrap ((A:Int) + 4 * (s:Int)) = (q:Int):=by rw [qq];exact IntWalk.i64_in _ (by omega)
             have hu3:IntKind.i64.wrap ((q:Int) + 1) = (q:Int) + 1:=IntWalk.i64_in _ (by omega)
             have hu4:IntKind.i64.wrap ((q:Int) + 2) = (q:Int) + 2:=IntWalk.i64_in _ (by omega)
             have hu5:IntKind.i64.wrap ((q:Int) + 3) = (q:Int) + 3:=IntWalk.i64_in _ (by omega)
             have hv0:(0:Int) ≤ (q:Int) + 1 ∧ (q:Int) + 1 < (n':Int):=by omega
             have hv1:(0:Int) ≤ (q:Int) + 2 ∧ (q:Int) + 2 < (n':Int):=by omega
             have hv2:(0:Int) ≤ (q:Int) + 3 ∧ (q:Int) + 3 < (n':Int):=by omega
             have hv3:(q:Int) < (n':Int):=by omega
             have hw1:((q:Int) + 1).toNat = q + 1:=by omega
             have hw2:((q:Int) + 2).toNat = q + 2:=by omega
             have hw3:((q:Int) + 3).toNat = q + 3:=by omega
             obtain ⟨X0,c0'⟩:∃ x,x = x0 * 16777216:=⟨_,rfl⟩
             obtain ⟨X1,c1'⟩:∃ x,x = x1 * 65536:=⟨_,rfl⟩
             obtain ⟨X2,c2'⟩:∃ x,x = x2 * 256:=⟨_,rfl⟩
             obtain ⟨O1,o1⟩:∃ x,x = X0 ||| X1:=⟨_,rfl⟩
             obtain ⟨O2,o2⟩:∃ x,x = O1 ||| X2:=⟨_,rfl⟩
             obtain ⟨O3,o3⟩:∃ x,x = O2 ||| x3:=⟨_,rfl⟩
             have HO3:=hJ_ (show O3 = ws m s by rw [HGW.out,HGX.out,o3,o2,o1,c0',c1',c2'];exact or4 HXB4.out.1 HXB4.out.2.1 HXB4.out.2.2.1 HXB4.out.2.2.2)
             have lX0:X0 < 4294967296:=by have:=HXB4.out.1;omega
             have lX1:X1 < 4294967296:=by have:=HXB4.out.2.1;omega
             have lX2:X2 < 4294967296:=by have:=HXB4.out.2.2.1;omega
             have lO1:O1 < 4294967296:=by rw [o1];exact e8x lX0 lX1
             have lO2:O2 < 4294967296:=by rw [o2];exact e8x lO1 lX2
             have lx0:=HXB4.out.1
             have lx1:=HXB4.out.2.1
             have lx2:=HXB4.out.2.2.1
             have lx3:=HXB4.out.2.2.2
             have k0:IntKind.u32.wrap (x0:Int) = (x0:Int):=by rw [IntKind.wrap_u32'];omega
             have k1:IntKind.u32.wrap (x1:Int) = (x1:Int):=by rw [IntKind.wrap_u32'];omega
             have k2:IntKind.u32.wrap (x2:Int) = (x2:Int):=by rw [IntKind.wrap_u32'];omega
             have k3:IntKind.u32.wrap (x3:Int) = (x3:Int):=by rw [IntKind.wrap_u32'];omega
             have m0:IntKind.u32.wrap ((x0:Int) * 16777216) = (X0:Int):=by rw [IntKind.wrap_u32'];omega
             have m1:IntKind.u32.wrap ((x1:Int) * 65536) = (X1:Int):=by rw [IntKind.wrap_u32'];omega
             have m2:IntKind.u32.wrap ((x2:Int) * 256) = (X2:Int):=by rw [IntKind.wrap_u32'];omega
             have n1:bits .or .u32 (X0:Int) (X1:Int) = (O1:Int):=by rw [o1];exact u32_or_nat _ _ lX0 lX1
             have n2:bits .or .u32 (O1:Int) (X2:Int) = (O2:Int):=by rw [o2];exact u32_or_nat _ _ lO1 lX2
             have n3:bits .or .u32 (O2:Int) (x3:Int) = (O3:Int):=by rw [o3];exact u32_or_nat _ _ lO2 (by omega)
             clear c0' c1' c2' o1 o2 o3 lX0 lX1 lX2 lO1 lO2
             clear qq hqn hqn1
             clear hm0 hm1 hm2 hm3 e0 e1 e2 e3 hgw hq hlt hs h16
             have HCKC:=hJ_ hck
             clear hck
             refine wp_region_held_drew (S:=fun W' => a5f W' g' n' M) (by kernel_rfl) ZR.out (fun hHeld => ?_)
             refine tk 0 ⟨some 80,.move (.tmp 12),3,"ref.go:92",#[],none⟩ hHeld ?_
             try simp only [Act.put,p1',p2',p3']
             refine tk 1 ⟨some 81,.move (.tmp 7),22,"ref.go:92",#[],none⟩ hHeld ?_
             try simp only [Act.put,p1',p2',p3']
             refine tk 2 ⟨some 82,.move (.tmp 9),3,"ref.go:92",#[],none⟩ hHeld ?_
             try simp only [Act.put,p1',p2',p3']
             refine tk 3 ⟨some 83,.move (.tmp 12),3,"ref.go:92",#[],none⟩ hHeld ?_
             try simp only [Act.put,p1',p2',p3']
             refine tk 4 ⟨some 84,.binOp .mul 3 (.const (.int .i64 4)) (.tmp 83) 3,3,"ref.go:92",#[⟨3,.data⟩],none⟩ hHeld ?_
             try simp only [Act.put,p1',p2',p3']
             refine tk 5 ⟨some 85,.binOp .add 3 (.tmp 82) (.tmp 84) 3,3,"ref.go:92",#[⟨2,.data⟩,⟨4,.data⟩],none⟩ hHeld ?_
             try simp only [Act.put,p1',p2',p3']
             refine tk 6 ⟨some 86,.indexAddr 22 (.tmp 81) (.tmp 85),0,"ref.go:92",#[⟨1,.data⟩,⟨5,.data⟩],none⟩ hHeld ?_
             try simp only [Act.put,p1',p2',p3']
             refine tk 7 ⟨some 87,.load 5 (.tmp 86),5,"ref.go:92",#[⟨6,.data⟩],none⟩ hHeld ?rest7a8 (v:=?v7a8) (hy:=?hy7a8)
             case hy7a8 =>
              intro W' hV
              try dsimp only at hV
              have hmm:=E0.out W' hV
              go_simp
              all_goals with_reducible rfl
             case' rest7a8 => try simp only [Act.put,p1',p2',p3']
             refine tk 8 ⟨some 88,.convert 5 115 (.tmp 87),115,"ref.go:92",#[⟨7,.data⟩],none⟩ hHeld ?_
             try simp only [Act.put,p1',p2',p3']
             refine tk 9 ⟨some 89,.binOp .shl 115 (.tmp 88) (.const (.int .u64 24)) 42,115,"ref.go:92",#[⟨8,.data⟩],none⟩ hHeld ?_
             try simp only [Act.put,p1',p2',p3']
             refine tk 10 ⟨some 90,.move (.tmp 7),22,"ref.go:92",#[],none⟩ hHeld ?_
             try simp only [Act.put,p1',p2',p3']
             refine tk 11 ⟨some 91,.move (.tmp 9),3,"ref.go:92",#[],none⟩ hHeld ?_
             try simp only [Act.put,p1',p2',p3']
             refine tk 12 ⟨some 92,.move (.tmp 12),3,"ref.go:92",#[],none⟩ hHeld ?_
             try simp only [Act.put,p1',p2',p3']
             refine tk 13 ⟨some 93,.binOp .mul 3 (.const (.int .i64 4)) (.tmp 92) 3,3,"ref.go:92",#[⟨12,.data⟩],none⟩ hHeld ?_
             try simp only [Act.put,p1',p2',p3']
             refine tk 14 ⟨some 94,.binOp .add 3 (.tmp 91) (.tmp 93) 3,3,"ref.go:92",#[⟨11,.data⟩,⟨13,.data⟩],none⟩ hHeld ?_
             try simp only [Act.put,p1',p2',p3']
             refine tk 15 ⟨some 95,.binOp .add 3 (.tmp 94) (.const (.int .i64 1)) 3,3,"ref.go:92",#[⟨14,.data⟩],none⟩ hHeld ?_
             try simp only [Act.put,p1',p2',p3']
             refine tk 16 ⟨some 96,.indexAddr 22 (.tmp 90) (.tmp 95),0,"ref.go:92",#[⟨10,.data⟩,⟨15,.data⟩],none⟩ hHeld ?_
             try simp only [Act.put,p1',p2',p3']
             refine tk 17 ⟨some 97,.load 5 (.tmp 96),5,"ref.go:92",#[⟨16,.data⟩],none⟩ hHeld ?rest17a18 (v:=?v17a18) (hy:=?hy17a18)
             case hy17a18 =>
              intro W' hV
              try dsimp only at hV
              have hmm:=E1.out W' hV
              go_simp
              all_goals with_reducible rfl
             case' rest17a18 => try simp only [Act.put,p1',p2',p3']
             refine tk 18 ⟨some 98,.convert 5 115 (.tmp 97),115,"ref.go:92",#[⟨17,.data⟩],none⟩ hHeld ?_
             try simp only [Act.put,p1',p2',p3']
             refine tk 19 ⟨some 99,.binOp .shl 115 (.tmp 98) (.const (.int .u64 16)) 42,115,"ref.go:92",#[⟨18,.data⟩],none⟩ hHeld ?_
             try simp only [Act.put,p1',p2',p3']
             refine tk 20 ⟨some 100,.binOp .or 115 (.tmp 89) (.tmp 99) 115,115,"ref.go:92",#[⟨9,.data⟩,⟨19,.data⟩],none⟩ hHeld ?_
             try simp only [Act.put,p1',p2',p3']
             refine tk 21 ⟨some 101,.move (.tmp 7),22,"ref.go:92",#[],none⟩ hHeld ?_
             try simp only [Act.put,p1',p2',p3']
             refine tk 22 ⟨some 102,.move (.tmp 9),3,"ref.go:92",#[],none⟩ hHeld ?_
             try simp only [Act.put,p1',p2',p3']
             refine tk 23 ⟨some 103,.move (.tmp 12),3,"ref.go:92",#[],none⟩ hHeld ?_
             try simp only [Act.put,p1',p2',p3']
             refine tk 24 ⟨some 104,.binOp .mul 3 (.const (.int .i64 4)) (.tmp 103) 3,3,"ref.go:92",#[⟨23,.data⟩],none⟩ hHeld ?_
             try simp only [Act.put,p1',p2',p3']
             refine tk 25 ⟨some 105,.binOp .add 3 (.tmp 102) (.tmp 104) 3,3,"ref.go:92",#[⟨22,.data⟩,⟨24,.data⟩],none⟩ hHeld ?_
             try simp only [Act.put,p1',p2',p3']
             refine tk 26 ⟨some 106,.binOp .add 3 (.tmp 105) (.const (.int .i64 2)) 3,3,"ref.go:92",#[⟨25,.data⟩],none⟩ hHeld ?_
             try simp only [Act.put,p1',p2',p3']
             refine tk 27 ⟨some 107,.indexAddr 22 (.tmp 101) (.tmp 106),0,"ref.go:92",#[⟨21,.data⟩,⟨26,.data⟩],none⟩ hHeld ?_
             try simp only [Act.put,p1',p2',p3']
             refine tk 28 ⟨some 108,.load 5 (.tmp 107),5,"ref.go:92",#[⟨27,.data⟩],none⟩ hHeld ?rest28a29 (v:=?v28a29) (hy:=?hy28a29)
             case hy28a29 =>
              intro W' hV
              try dsimp only at hV
              have hmm:=E2.out W' hV
              go_simp
              all_goals with_reducible rfl
             case' rest28a29 => try simp only [Act.put,p1',p2',p3']
             refine tk 29 ⟨some 109,.convert 5 115 (.tmp 108),115,"ref.go:92",#[⟨28,.data⟩],none⟩ hHeld ?_
             try simp only [Act.put,p1',p2',p3']
             refine tk 30 ⟨some 110,.binOp .shl 115 (.tmp 109) (.const (.int .u64 8)) 42,115,"ref.go:92",#[⟨29,.data⟩],none⟩ hHeld ?_
             try simp only [Act.put,p1',p2',p3']
             refine tk 31 ⟨some 111,.binOp .or 115 (.tmp 100) (.tmp 110) 115,115,"ref.go:92",#[⟨20,.data⟩,⟨30,.data⟩],none⟩ hHeld ?_
             try simp only [Act.put,p1',p2',p3']
             refine tk 32 ⟨some 112,.move (.tmp 7),22,"ref.go:92",#[],none⟩ hHeld ?_
             try simp only [Act.put,p1',p2',p3']
             refine tk 33 ⟨some 113,.move (.tmp 9),3,"ref.go:92",#[],none⟩ hHeld ?_
             try simp only [Act.put,p1',p2',p3']
             refine tk 34 ⟨some 114,.move (.tmp 12),3,"ref.go:92",#[],none⟩ hHeld ?_
             try simp only [Act.put,p1',p2',p3']
             refine tk 35 ⟨some 115,.binOp .mul 3 (.const (.int .i64 4)) (.tmp 114) 3,3,"ref.go:92",#[⟨34,.data⟩],none⟩ hHeld ?_
             try simp only [Act.put,p1',p2',p3']
             refine tk 36 ⟨some 116,.binOp .add 3 (.tmp 113) (.tmp 115) 3,3,"ref.go:92",#[⟨33,.data⟩,⟨35,.data⟩],none⟩ hHeld ?_
             try simp only [Act.put,p1',p2',p3']
             refine tk 37 ⟨some 117,.binOp .add 3 (.tmp 116) (.const (.int .i64 3)) 3,3,"ref.go:92",#[⟨36,.data⟩],none⟩ hHeld ?_
             try simp only [Act.put,p1',p2',p3']
             refine tk 38 ⟨some 118,.indexAddr 22 (.tmp 112) (.tmp 117),0,"ref.go:92",#[⟨32,.data⟩,⟨37,.data⟩],none⟩ hHeld ?_
             try simp only [Act.put,p1',p2',p3']
             refine tk 39 ⟨some 119,.load 5 (.tmp 118),5,"ref.go:92",#[⟨38,.data⟩],none⟩ hHeld ?rest39a40 (v:=?v39a40) (hy:=?hy39a40)
             case hy39a40 =>
              intro W' hV
              try dsimp only at hV
              have hmm:=E3.out W' hV
              go_simp
              all_goals with_reducible rfl
             case' rest39a40 => try simp only [Act.put,p1',p2',p3']
             refine tk 40 ⟨some 120,.convert 5 115 (.tmp 119),115,"ref.go:92",#[⟨39,.data⟩],none⟩ hHeld ?_
             try simp only [Act.put,p1',p2',p3']
             refine tk 41 ⟨some 121,.binOp .or 115 (.tmp 111) (.tmp 120) 115,115,"ref.go:92",#[⟨31,.data⟩,⟨40,.data⟩],none⟩ hHeld ?_
             try simp only [Act.put,p1',p2',p3']
             refine tk 42 ⟨some 122,.indexAddr 116 (.tmp 10) (.tmp 80),0,"ref.go:92",#[⟨0,.data⟩,⟨0,.phase⟩,⟨1,.phase⟩,⟨2,.phase⟩,⟨3,.phase⟩,⟨4,.phase⟩,⟨5,.phase⟩,⟨6,.phase⟩,⟨7,.phase⟩,⟨8,.phase⟩,⟨9,.phase⟩,⟨10,.phase⟩,⟨11,.phase⟩,⟨12,.phase⟩,⟨13,.phase⟩,⟨14,.phase⟩,⟨15,.phase⟩,⟨16,.phase⟩,⟨17,.phase⟩,⟨18,.phase⟩,⟨19,.phase⟩,⟨20,.phase⟩,⟨21,.phase⟩,⟨22,.phase⟩,⟨23,.phase⟩,⟨24,.phase⟩,⟨25,.phase⟩,⟨26,.phase⟩,⟨27,.phase⟩,⟨28,.phase⟩,⟨29,.phase⟩,⟨30,.phase⟩,⟨31,.phase⟩,⟨32,.phase⟩,⟨33,.phase⟩,⟨34,.phase⟩,⟨35,.phase⟩,⟨36,.phase⟩,⟨37,.phase⟩,⟨38,.phase⟩,⟨39,.phase⟩,⟨40,.phase⟩,⟨41,.phase⟩],none⟩ hHeld ?_
             try simp only [Act.put,p1',p2',p3']
             have hck:=HCKC.out
             refine wpAnyH_ready (rs:=[43]) (by kernel_rfl) (by simp) ?_
             refine AllReadyH.cons (o:=⟨none,.store 115 (.tmp 122) (.tmp 121),0,"ref.go:92",#[⟨42,.data⟩,⟨41,.data⟩,⟨0,.phase⟩,⟨1,.phase⟩,⟨2,.phase⟩,⟨3,.phase⟩,⟨4,.phase⟩,⟨5,.phase⟩,⟨6,.phase⟩,⟨7,.phase⟩,⟨8,.phase⟩,⟨9,.phase⟩,⟨10,.phase⟩,⟨11,.phase⟩,⟨12,.phase⟩,⟨13,.phase⟩,⟨14,.phase⟩,⟨15,.phase⟩,⟨16,.phase⟩,⟨17,.phase⟩,⟨18,.phase⟩,⟨19,.phase⟩,⟨20,.phase⟩,⟨21,.phase⟩,⟨22,.phase⟩,⟨23,.phase⟩,⟨24,.phase⟩,⟨25,.phase⟩,⟨26,.phase⟩,⟨27,.phase⟩,⟨28,.phase⟩,⟨29,.phase⟩,⟨30,.phase⟩,⟨31,.phase⟩,⟨32,.phase⟩,⟨33,.phase⟩,⟨34,.phase⟩,⟨35,.phase⟩,⟨36,.phase⟩,⟨37,.phase⟩,⟨38,.phase⟩,⟨39,.phase⟩,⟨40,.phase⟩,⟨41,.phase⟩],none⟩) rfl (fun K' hK => ?_) AllReadyH.nil
             rw [if_pos (by rfl)]
             go_simp
             refine hK.out _ _ (hHeld.other ⟨b1,s,none⟩ _ (by show b1 ≠ g';rw [HB1.out];exact Nat.ne_of_gt UR.out.2.2.1)) (fun hHeld1 => ?_)
             clear hK K' hHeld
             have hHeld:=hHeld1
             clear hHeld1
             try simp only [Act.put,p1',p2',p3']
             refine wpAnyH_done (by kernel_rfl) ?_ _
             clear hHeld
             go_wp2_with fail
             go_meet
             exact ⟨hJ_ (((ZK.out:Blk Z.drew b1 _ 64 _).set HLS.out (.int .u32 ((O3:Nat):Int))).congr fun j _ => by rw [HO3.out];exact b1k (ws m) s j),hJ_ ((ZV.out:Blk Z.drew (b1 + 1) _ 8 _).other ⟨b1,s,none⟩ _ (by show b1 + 1 ≠ b1;omega)),hJ_ (ZB.out.drew.setCell (p:=⟨b1,s,none⟩) (Nat.le_refl _) _)⟩
           ·as_aux_lemma =>
             have q16:¬ (s:Int) < 16:=by omega
             go_upto_region 27 with fail
             have hck2:=hck
             have HCKC:=hJ_ hck
             have HFKC:=hJ_ hfk
             clear hck hck2 hfk
             have hs16:16 ≤ s:=by omega
             have HS0:=hJ_ (show ∀ j,j < s → Z.drew.cell? ⟨b1,j,none⟩ = some (.int .u32 ((ws m j:Nat):Int)) from fun j hj => by
              have h:=ZK.out.cell (j:=j) (by have:=HLS.out;omega)
              unfold fV at h
              rw [if_pos hj] at h
              exact h)
             obtain ⟨s2,g2⟩:∃ x,x = s - 2:=⟨_,rfl⟩
             obtain ⟨s7,g7⟩:∃ x,x = s - 7:=⟨_,rfl⟩
             obtain ⟨s15,g15⟩:∃ x,x = s - 15:=⟨_,rfl⟩
             obtain ⟨s16,g16⟩:∃ x,x = s - 16:=⟨_,rfl⟩
             have hp2:s2 < s ∧ s7 < s ∧ s15 < s ∧ s16 < s:=by omega
             have hp3:(s2:Int) < 64 ∧ (s7:Int) < 64 ∧ (s15:Int) < 64 ∧ (s16:Int) < 64:=by omega
             obtain ⟨qs2,qs7,qs15,qs16⟩:=hp3
             have hi2:IntKind.i64.wrap ((s:Int) - 2) = (s2:Int):=by rw [show (s:Int) - 2 = (s2:Int) by omega];exact IntWalk.i64_in _ (by omega)
             have hi7:IntKind.i64.wrap ((s:Int) - 7) = (s7:Int):=by rw [show (s:Int) - 7 = (s7:Int) by omega];exact IntWalk.i64_in _ (by omega)
             have hi15:IntKind.i64.wrap ((s:Int) - 15) = (s15:Int):=by rw [show (s:Int) - 15 = (s15:Int) by omega];exact IntWalk.i64_in _ (by omega)
             have hi16:IntKind.i64.wrap ((s:Int) - 16) = (s16:Int):=by rw [show (s:Int) - 16 = (s16:Int) by omega];exact IntWalk.i64_in _ (by omega)
             have HNX:=hJ_ (show ws m s = ad (ad (ad (sg1 (ws m s2)) (ws m s7)) (sg0 (ws m s15))) (ws m s16) by rw [g2,g7,g15,g16];exact b9d m h16)
             have l2:=HWS.out s2
             have l7:=HWS.out s7
             have l15:=HWS.out s15
             have l16:=HWS.out s16
             obtain ⟨y2,z2⟩:∃ x,x = ws m s2:=⟨_,rfl⟩
             obtain ⟨y7,z7⟩:∃ x,x = ws m s7:=⟨_,rfl⟩
             obtain ⟨y15,z15⟩:∃ x,x = ws m s15:=⟨_,rfl⟩
             obtain ⟨y16,z16⟩:∃ x,x = ws m s16:=⟨_,rfl⟩
             have E2:=hJ_ (show ∀ W':World,(∀ j,j < s → W'.cell? ⟨b1,j,none⟩ = some (.int .u32 ((ws m j:Nat):Int))) → W'.cell? ⟨b1,s2,none⟩ = some (.int .u32 ((y2:Nat):Int)) from fun W' h => by rw [z2];exact h s2 hp2.1)
             have E7:=hJ_ (show ∀ W':World,(∀ j,j < s → W'.cell? ⟨b1,j,none⟩ = some (.int .u32 ((ws m j:Nat):Int))) → W'.cell? ⟨b1,s7,none⟩ = some (.int .u32 ((y7:Nat):Int)) from fun W' h => by rw [z7];exact h s7 hp2.2.1)
             have E15:=hJ_ (show ∀ W':World,(∀ j,j < s → W'.cell? ⟨b1,j,none⟩ = some (.int .u32 ((ws m j:Nat):Int))) → W'.cell? ⟨b1,s15,none⟩ = some (.int .u32 ((y15:Nat):Int)) from fun W' h => by rw [z15];exact h s15 hp2.2.2.1)
             have E16:=hJ_ (show ∀ W':World,(∀ j,j < s → W'.cell? ⟨b1,j,none⟩ = some (.int .u32 ((ws m j:Nat):Int))) → W'.cell? ⟨b1,s16,none⟩ = some (.int .u32 ((y16:Nat):Int)) from fun W' h => by rw [z16];exact h s16 hp2.2.2.2)
             rw [← z2,← z7,← z15,← z16] at HNX
             rw [← z2] at l2
             rw [← z7] at l7
             rw [← z15] at l15
             rw [← z16] at l16
             clear z2 z7 z15 z16 g2 g7 g15 g16 hp2
             obtain ⟨p1,e1⟩:∃ x,x = rr 17 y2:=⟨_,rfl⟩
             obtain ⟨p2,e2⟩:∃ x,x = rr 19 y2:=⟨_,rfl⟩
             obtain ⟨p3,e3⟩:∃ x,x = rr 7 y15:=⟨_,rfl⟩
             obtain ⟨p4,e4⟩:∃ x,x = rr 18 y15:=⟨_,rfl⟩
             have HT17:=hJ_ (show ∀ W:World,Calls Tryz.prog 91 #[.int .u32 (y2:Nat),.int .i64 17] W fun e w' => e = .returned (.int .u32 ((p1:Nat):Int)) ∧ ∃ j,w' = W.drewN j from fun W => by rw [e1];exact a1x y2 17 l2 (by omega) (by omega) W)
             have HT19:=hJ_ (show ∀ W:World,Calls Tryz.prog 91 #[.int .u32 (y2:Nat),.int .i64 19] W fun e w' => e = .returned (.int .u32 ((p2:Nat):Int)) ∧ ∃ j,w' = W.drewN j from fun W => by rw [e2];exact a1x y2 19 l2 (by omega) (by omega) W)
             have HT7:=hJ_ (show ∀ W:World,Calls Tryz.prog 91 #[.int .u32 (y15:Nat),.int .i64 7] W fun e w' => e = .returned (.int .u32 ((p3:Nat):Int)) ∧ ∃ j,w' = W.drewN j from fun W => by rw [e3];exact a1x y15 7 l15 (by omega) (by omega) W)
             have HT18:=hJ_ (show ∀ W:World,Calls Tryz.prog 91 #[.int .u32 (y15:Nat),.int .i64 18] W fun e w' => e = .returned (.int .u32 ((p4:Nat):Int)) ∧ ∃ j,w' = W.drewN j from fun W => by rw [e4];exact a1x y15 18 l15 (by omega) (by omega) W)
             have lp1:p1 < 4294967296:=by rw [e1];exact a2s l2 _
             have lp2:p2 < 4294967296:=by rw [e2];exact a2s l2 _
             have lp3:p3 < 4294967296:=by rw [e3];exact a2s l15 _
             have lp4:p4 < 4294967296:=by rw [e4];exact a2s l15 _
             obtain ⟨d1,f1⟩:∃ x,x = y2 / 2 ^ 10:=⟨_,rfl⟩
             obtain ⟨d2,f2⟩:∃ x,x = y15 / 2 ^ 3:=⟨_,rfl⟩
             have ld1:d1 < 4294967296:=by rw [f1];exact d0e l2 _
             have ld2:d2 < 4294967296:=by rw [f2];exact d0e l15 _
             obtain ⟨a1,c1⟩:∃ x,x = p1 ^^^ p2:=⟨_,rfl⟩
             obtain ⟨a2,c2⟩:∃ x,x = a1 ^^^ d1:=⟨_,rfl⟩
             obtain ⟨a3,c3⟩:∃ x,x = ad a2 y7:=⟨_,rfl⟩
             obtain ⟨a4,c4'⟩:∃ x,x = p3 ^^^ p4:=⟨_,rfl⟩
             obtain ⟨a5,c5'⟩:∃ x,x = a4 ^^^ d2:=⟨_,rfl⟩
             obtain ⟨a6,c6'⟩:∃ x,x = ad a3 a5:=⟨_,rfl⟩
             obtain ⟨a7,c7'⟩:∃ x,x = ad a6 y16:=⟨_,rfl⟩
             have la1:a1 < 4294967296:=by rw [c1];exact a6t lp1 lp2
             have la2:a2 < 4294967296:=by rw [c2];exact a6t la1 ld1
             have la4:a4 < 4294967296:=by rw [c4'];exact a6t lp3 lp4
             have la5:a5 < 4294967296:=by rw [c5'];exact a6t la4 ld2
             have HA7:=hJ_ (show a7 = ws m s by rw [HNX.out,c7',c6',c5',c4',c3,c2,c1,e1,e2,e3,e4,f1,f2];rfl)
             have r1:bits .xor .u32 (p1:Int) (p2:Int) = (a1:Int):=by rw [c1];exact u32_xor_nat _ _ lp1 lp2
             have r2:bits .xor .u32 (a1:Int) (d1:Int) = (a2:Int):=by rw [c2];exact u32_xor_nat _ _ la1 ld1
             have r3:((a2:Int) + (y7:Int)) % 4294967296 = (a3:Int):=by rw [c3];unfold ad;omega
             have r4:bits .xor .u32 (p3:Int) (p4:Int) = (a4:Int):=by rw [c4'];exact u32_xor_nat _ _ lp3 lp4
             have r5:bits .xor .u32 (a4:Int) (d2:Int) = (a5:Int):=by rw [c5'];exact u32_xor_nat _ _ la4 ld2
             have r6:((a3:Int) + (a5:Int)) % 4294967296 = (a6:Int):=by rw [c6'];unfold ad;omega
             have r7:((a6:Int) + (y16:Int)) % 4294967296 = (a7:Int):=by rw [c7'];unfold ad;omega
             have r8:(y2:Int) / 1024 = (d1:Int):=by rw [f1];omega
             have r9:(y15:Int) / 8 = (d2:Int):=by rw [f2];omega
             have t3:IntKind.u32.wrap ((a2:Int) + (y7:Int)) = (a3:Int):=by rw [IntKind.wrap_u32'];exact r3
             have t6:IntKind.u32.wrap ((a3:Int) + (a5:Int)) = (a6:Int):=by rw [IntKind.wrap_u32'];exact r6
             have t7:IntKind.u32.wrap ((a6:Int) + (y16:Int)) = (a7:Int):=by rw [IntKind.wrap_u32'];exact r7
             have ql2:(y2:Int) < 4294967296:=by omega
             have ql15:(y15:Int) < 4294967296:=by omega
             clear e1 e2 e3 e4 f1 f2 c1 c2 c3 c4' c5' c6' c7' lp1 lp2 lp3 lp4 ld1 ld2 la1 la2 la4 la5 l2 l7 l15 l16
             refine wp_region_held_drew (S:=fun W' => ∀ j,j < s → W'.cell? ⟨b1,j,none⟩ = some (.int .u32 ((ws m j:Nat):Int))) (by kernel_rfl) HS0.out (fun hHeld => ?_)
             refine tk 0 ⟨some 123,.move (.tmp 12),3,"ref.go:94",#[],none⟩ hHeld ?_
             try simp only [Act.put,p1',p2',p3']
             refine tk 1 ⟨some 124,.move (.tmp 12),3,"ref.go:94",#[],none⟩ hHeld ?_
             try simp only [Act.put,p1',p2',p3']
             refine tk 2 ⟨some 125,.binOp .sub 3 (.tmp 124) (.const (.int .i64 2)) 3,3,"ref.go:94",#[⟨1,.data⟩],none⟩ hHeld ?_
             try simp only [Act.put,p1',p2',p3']
             refine tk 3 ⟨some 126,.indexAddr 116 (.tmp 10) (.tmp 125),0,"ref.go:94",#[⟨2,.data⟩],none⟩ hHeld ?_
             try simp only [Act.put,p1',p2',p3']
             refine tk 4 ⟨some 127,.load 115 (.tmp 126),115,"ref.go:94",#[⟨3,.data⟩],none⟩ hHeld ?rest4b5 (v:=?v4b5) (hy:=?hy4b5)
             case hy4b5 =>
              intro W' hV
              try dsimp only at hV
              have hmm:=E2.out W' hV
              go_simp
              all_goals with_reducible rfl
             case' rest4b5 => try simp only [Act.put,p1',p2',p3']
             refine tk 6 ⟨some 129,.move (.tmp 12),3,"ref.go:94",#[],none⟩ hHeld ?_
             try simp only [Act.put,p1',p2',p3']
             refine tk 7 ⟨some 130,.binOp .sub 3 (.tmp 129) (.const (.int .i64 2)) 3,3,"ref.go:94",#[⟨6,.data⟩],none⟩ hHeld ?_
             try simp only [Act.put,p1',p2',p3']
             refine tk 8 ⟨some 131,.indexAddr 116 (.tmp 10) (.tmp 130),0,"ref.go:94",#[⟨7,.data⟩],none⟩ hHeld ?_
             try simp only [Act.put,p1',p2',p3']
             refine tk 9 ⟨some 132,.load 115 (.tmp 131),115,"ref.go:94",#[⟨8,.data⟩],none⟩ hHeld ?rest9b9 (v:=?v9b9) (hy:=?hy9b9)
             case hy9b9 =>
              intro W' hV
              try dsimp only at hV
              have hmm:=E2.out W' hV
              go_simp
              all_goals with_reducible rfl
             case' rest9b9 => try simp only [Act.put,p1',p2',p3']
             refine tk 12 ⟨some 135,.move (.tmp 12),3,"ref.go:94",#[],none⟩ hHeld ?_
             try simp only [Act.put,p1',p2',p3']
             refine tk 13 ⟨some 136,.binOp .sub 3 (.tmp 135) (.const (.int .i64 2)) 3,3,"ref.go:94",#[⟨12,.data⟩],none⟩ hHeld ?_
             try simp only [Act.put,p1',p2',p3']
             refine tk 14 ⟨some 137,.indexAddr 116 (.tmp 10) (.tmp 136),0,"ref.go:94",#[⟨13,.data⟩],none⟩ hHeld ?_
             try simp only [Act.put,p1',p2',p3']
             refine tk 15 ⟨some 138,.load 115 (.tmp 137),115,"ref.go:94",#[⟨14,.data⟩],none⟩ hHeld ?rest15b13 (v:=?v15b13) (hy:=?hy15b13)
             case hy15b13 =>
              intro W' hV
              try dsimp only at hV
              have hmm:=E2.out W' hV
              go_simp
              all_goals with_reducible rfl
             case' rest15b13 => try simp only [Act.put,p1',p2',p3']
             refine tk 16 ⟨some 139,.binOp .shr 115 (.tmp 138) (.const (.int .u64 10)) 42,115,"ref.go:94",#[⟨15,.data⟩],none⟩ hHeld ?_
             try simp only [Act.put,p1',p2',p3']
             refine tk 18 ⟨some 141,.move (.tmp 12),3,"ref.go:94",#[],none⟩ hHeld ?_
             try simp only [Act.put,p1',p2',p3']
             refine tk 19 ⟨some 142,.binOp .sub 3 (.tmp 141) (.const (.int .i64 7)) 3,3,"ref.go:94",#[⟨18,.data⟩],none⟩ hHeld ?_
             try simp only [Act.put,p1',p2',p3']
             refine tk 20 ⟨some 143,.indexAddr 116 (.tmp 10) (.tmp 142),0,"ref.go:94",#[⟨19,.data⟩],none⟩ hHeld ?_
             try simp only [Act.put,p1',p2',p3']
             refine tk 21 ⟨some 144,.load 115 (.tmp 143),115,"ref.go:94",#[⟨20,.data⟩],none⟩ hHeld ?rest21b18 (v:=?v21b18) (hy:=?hy21b18)
             case hy21b18 =>
              intro W' hV
              try dsimp only at hV
              have hmm:=E7.out W' hV
              go_simp
              all_goals with_reducible rfl
             case' rest21b18 => try simp only [Act.put,p1',p2',p3']
             refine tk 23 ⟨some 146,.move (.tmp 12),3,"ref.go:94",#[],none⟩ hHeld ?_
             try simp only [Act.put,p1',p2',p3']
             refine tk 24 ⟨some 147,.binOp .sub 3 (.tmp 146) (.const (.int .i64 15)) 3,3,"ref.go:94",#[⟨23,.data⟩],none⟩ hHeld ?_
             try simp only [Act.put,p1',p2',p3']
             refine tk 25 ⟨some 148,.indexAddr 116 (.tmp 10) (.tmp 147),0,"ref.go:94",#[⟨24,.data⟩],none⟩ hHeld ?_
             try simp only [Act.put,p1',p2',p3']
             refine tk 26 ⟨some 149,.load 115 (.tmp 148),115,"ref.go:94",#[⟨25,.data⟩],none⟩ hHeld ?rest26b22 (v:=?v26b22) (hy:=?hy26b22)
             case hy26b22 =>
              intro W' hV
              try dsimp only at hV
              have hmm:=E15.out W' hV
              go_simp
              all_goals with_reducible rfl
             case' rest26b22 => try simp only [Act.put,p1',p2',p3']
             refine tk 28 ⟨some 151,.move (.tmp 12),3,"ref.go:94",#[],none⟩ hHeld ?_
             try simp only [Act.put,p1',p2',p3']
             refine tk 29 ⟨some 152,.binOp .sub 3 (.tmp 151) (.const (.int .i64 15)) 3,3,"ref.go:94",#[⟨28,.data⟩],none⟩ hHeld ?_
             try simp only [Act.put,p1',p2',p3']
             refine tk 30 ⟨some 153,.indexAddr 116 (.tmp 10) (.tmp 152),0,"ref.go:94",#[⟨29,.data⟩],none⟩ hHeld ?_
             try simp only [Act.put,p1',p2',p3']
             refine tk 31 ⟨some 154,.load 115 (.tmp 153),115,"ref.go:94",#[⟨30,.data⟩],none⟩ hHeld ?rest31b26 (v:=?v31b26) (hy:=?hy31b26)
             case hy31b26 =>
              intro W' hV
              try dsimp only at hV
              have hmm:=E15.out W' hV
              go_simp
              all_goals with_reducible rfl
             case' rest31b26 => try simp only [Act.put,p1',p2',p3']
             refine tk 34 ⟨some 157,.move (.tmp 12),3,"ref.go:94",#[],none⟩ hHeld ?_
             try simp only [Act.put,p1',p2',p3']
             refine tk 35 ⟨some 158,.binOp .sub 3 (.tmp 157) (.const (.int .i64 15)) 3,3,"ref.go:94",#[⟨34,.data⟩],none⟩ hHeld ?_
             try simp only [Act.put,p1',p2',p3']
             refine tk 36 ⟨some 159,.indexAddr 116 (.tmp 10) (.tmp 158),0,"ref.go:94",#[⟨35,.data⟩],none⟩ hHeld ?_
             try simp only [Act.put,p1',p2',p3']
             refine tk 37 ⟨some 160,.load 115 (.tmp 159),115,"ref.go:94",#[⟨36,.data⟩],none⟩ hHeld ?rest37b30 (v:=?v37b30) (hy:=?hy37b30)
             case hy37b30 =>
              intro W' hV
              try dsimp only at hV
              have hmm:=E15.out W' hV
              go_simp
              all_goals with_reducible rfl
             case' rest37b30 => try simp only [Act.put,p1',p2',p3']
             refine tk 38 ⟨some 161,.binOp .shr 115 (.tmp 160) (.const (.int .u64 3)) 42,115,"ref.go:94",#[⟨37,.data⟩],none⟩ hHeld ?_
             try simp only [Act.put,p1',p2',p3']
             refine tk 41 ⟨some 164,.move (.tmp 12),3,"ref.go:94",#[],none⟩ hHeld ?_
             try simp only [Act.put,p1',p2',p3']
             refine tk 42 ⟨some 165,.binOp .sub 3 (.tmp 164) (.const (.int .i64 16)) 3,3,"ref.go:94",#[⟨41,.data⟩],none⟩ hHeld ?_
             try simp only [Act.put,p1',p2',p3']
             refine tk 43 ⟨some 166,.indexAddr 116 (.tmp 10) (.tmp 165),0,"ref.go:94",#[⟨42,.data⟩],none⟩ hHeld ?_
             try simp only [Act.put,p1',p2',p3']
             refine tk 44 ⟨some 167,.load 115 (.tmp 166),115,"ref.go:94",#[⟨43,.data⟩],none⟩ hHeld ?rest44b35 (v:=?v44b35) (hy:=?hy44b35)
             case hy44b35 =>
              intro W' hV
              try dsimp only at hV
              have hmm:=E16.out W' hV
              go_simp
              all_goals with_reducible rfl
             case' rest44b35 => try simp only [Act.put,p1',p2',p3']
             refine wpAnyH_ready (rs:=[5]) (by kernel_rfl) (by simp) ?_
             refine AllReadyH.cons (o:=⟨some 128,.call { callee:=.value (.func 91),args:=#[.tmp 127,.const (.int .i64 17)],argTypes:=#[115,3] },115,"ref.go:94",#[⟨4,.data⟩],none⟩) rfl (fun K' hK => ?_) AllReadyH.nil
             rw [if_pos (by rfl)]
             go_simp
             go_wp2_with (go_at_call 91;go_loud ((with_reducible refine (HT17.out _).mono ?_);rintro e w5 ⟨rfl,q5,rfl⟩))
             refine hK.out _ _ (fun j hj => hHeld j hj) (fun hHeld1 => ?_)
             clear hK K' hHeld
             have hHeld:=hHeld1
             clear hHeld1
             try simp only [Act.put,p1',p2',p3']
             refine wpAnyH_ready (rs:=[10]) (by kernel_rfl) (by simp) ?_
             refine AllReadyH.cons (o:=⟨some 133,.call { callee:=.value (.func 91),args:=#[.tmp 132,.const (.int .i64 19)],argTypes:=#[115,3] },115,"ref.go:94",#[⟨9,.data⟩,⟨5,.chain⟩],none⟩) rfl (fun K' hK => ?_) AllReadyH.nil
             rw [if_pos (by rfl)]
             go_simp
             go_wp2_with (go_at_call 91;go_loud ((with_reducible refine (HT19.out _).mono ?_);rintro e w10 ⟨rfl,q10,rfl⟩))
             refine hK.out _ _ (fun j hj => hHeld j hj) (fun hHeld1 => ?_)
             clear hK K' hHeld
             have hHeld:=hHeld1
             clear hHeld1
             try simp only [Act.put,p1',p2',p3']
             refine tk 11 ⟨some 134,.binOp .xor 115 (.tmp 128) (.tmp 133) 115,115,"ref.go:94",#[⟨5,.data⟩,⟨10,.data⟩],none⟩ hHeld ?_
             try simp only [Act.put,p1',p2',p3']
             refine tk 17 ⟨some 140,.binOp .xor 115 (.tmp 134) (.tmp 139) 115,115,"ref.go:94",#[⟨11,.data⟩,⟨16,.data⟩],none⟩ hHeld ?_
             try simp only [Act.put,p1',p2',p3']
             refine tk 22 ⟨some 145,.binOp .add 115 (.tmp 140) (.tmp 144) 115,115,"ref.go:94",#[⟨17,.data⟩,⟨21,.data⟩],none⟩ hHeld ?_
             try simp only [Act.put,p1',p2',p3']
             refine wpAnyH_ready (rs:=[27]) (by kernel_rfl) (by simp) ?_
             refine AllReadyH.cons (o:=⟨some 150,.call { callee:=.value (.func 91),args:=#[.tmp 149,.const (.int .i64 7)],argTypes:=#[115,3] },115,"ref.go:94",#[⟨26,.data⟩,⟨10,.chain⟩],none⟩) rfl (fun K' hK => ?_) AllReadyH.nil
             rw [if_pos (by rfl)]
             go_simp
             go_wp2_with (go_at_call 91;go_loud ((with_reducible refine (HT7.out _).mono ?_);rintro e w27 ⟨rfl,q27,rfl⟩))
             refine hK.out _ _ (fun j hj => hHeld j hj) (fun hHeld1 => ?_)
             clear hK K' hHeld
             have hHeld:=hHeld1
             clear hHeld1
             try simp only [Act.put,p1',p2',p3']
             refine wpAnyH_ready (rs:=[32]) (by kernel_rfl) (by simp) ?_
             refine AllReadyH.cons (o:=⟨some 155,.call { callee:=.value (.func 91),args:=#[.tmp 154,.const (.int .i64 18)],argTypes:=#[115,3] },115,"ref.go:94",#[⟨31,.data⟩,⟨27,.chain⟩],none⟩) rfl (fun K' hK => ?_) AllReadyH.nil
             rw [if_pos (by rfl)]
             go_simp
             go_wp2_with (go_at_call 91;go_loud ((with_reducible refine (HT18.out _).mono ?_);rintro e w32 ⟨rfl,q32,rfl⟩))
             refine hK.out _ _ (fun j hj => hHeld j hj) (fun hHeld1 => ?_)
             clear hK K' hHeld
             have hHeld:=hHeld1
             clear hHeld1
             try simp only [Act.put,p1',p2',p3']
             refine tk 33 ⟨some 156,.binOp .xor 115 (.tmp 150) (.tmp 155) 115,115,"ref.go:94",#[⟨27,.data⟩,⟨32,.data⟩],none⟩ hHeld ?_
             try simp only [Act.put,p1',p2',p3']
             refine tk 39 ⟨some 162,.binOp .xor 115 (.tmp 156) (.tmp 161) 115,115,"ref.go:94",#[⟨33,.data⟩,⟨38,.data⟩],none⟩ hHeld ?_
             try simp only [Act.put,p1',p2',p3']
             refine tk 40 ⟨some 163,.binOp .add 115 (.tmp 145) (.tmp 162) 115,115,"ref.go:94",#[⟨22,.data⟩,⟨39,.data⟩],none⟩ hHeld ?_
             try simp only [Act.put,p1',p2',p3']
             refine tk 45 ⟨some 168,.binOp .add 115 (.tmp 163) (.tmp 167) 115,115,"ref.go:94",#[⟨40,.data⟩,⟨44,.data⟩],none⟩ hHeld ?_
             try simp only [Act.put,p1',p2',p3']
             refine tk 46 ⟨some 169,.indexAddr 116 (.tmp 10) (.tmp 123),0,"ref.go:94",#[⟨0,.data⟩,⟨0,.phase⟩,⟨1,.phase⟩,⟨2,.phase⟩,⟨3,.phase⟩,⟨4,.phase⟩,⟨5,.phase⟩,⟨6,.phase⟩,⟨7,.phase⟩,⟨8,.phase⟩,⟨9,.phase⟩,⟨10,.phase⟩,⟨11,.phase⟩,⟨12,.phase⟩,⟨13,.phase⟩,⟨14,.phase⟩,⟨15,.phase⟩,⟨16,.phase⟩,⟨17,.phase⟩,⟨18,.phase⟩,⟨19,.phase⟩,⟨20,.phase⟩,⟨21,.phase⟩,⟨22,.phase⟩,⟨23,.phase⟩,⟨24,.phase⟩,⟨25,.phase⟩,⟨26,.phase⟩,⟨27,.phase⟩,⟨28,.phase⟩,⟨29,.phase⟩,⟨30,.phase⟩,⟨31,.phase⟩,⟨32,.phase⟩,⟨33,.phase⟩,⟨34,.phase⟩,⟨35,.phase⟩,⟨36,.phase⟩,⟨37,.phase⟩,⟨38,.phase⟩,⟨39,.phase⟩,⟨40,.phase⟩,⟨41,.phase⟩,⟨42,.phase⟩,⟨43,.phase⟩,⟨44,.phase⟩,⟨45,.phase⟩],none⟩ hHeld ?_
             try simp only [Act.put,p1',p2',p3']
             have hck:=HCKC.out
             have hfk:=HFKC.out
             refine wpAnyH_ready (rs:=[47]) (by kernel_rfl) (by simp) ?_
             refine AllReadyH.cons (o:=⟨none,.store 115 (.tmp 169) (.tmp 168),0,"ref.go:94",#[⟨46,.data⟩,⟨45,.data⟩,⟨32,.chain⟩,⟨0,.phase⟩,⟨1,.phase⟩,⟨2,.phase⟩,⟨3,.phase⟩,⟨4,.phase⟩,⟨5,.phase⟩,⟨6,.phase⟩,⟨7,.phase⟩,⟨8,.phase⟩,⟨9,.phase⟩,⟨10,.phase⟩,⟨11,.phase⟩,⟨12,.phase⟩,⟨13,.phase⟩,⟨14,.phase⟩,⟨15,.phase⟩,⟨16,.phase⟩,⟨17,.phase⟩,⟨18,.phase⟩,⟨19,.phase⟩,⟨20,.phase⟩,⟨21,.phase⟩,⟨22,.phase⟩,⟨23,.phase⟩,⟨24,.phase⟩,⟨25,.phase⟩,⟨26,.phase⟩,⟨27,.phase⟩,⟨28,.phase⟩,⟨29,.phase⟩,⟨30,.phase⟩,⟨31,.phase⟩,⟨32,.phase⟩,⟨33,.phase⟩,⟨34,.phase⟩,⟨35,.phase⟩,⟨36,.phase⟩,⟨37,.phase⟩,⟨38,.phase⟩,⟨39,.phase⟩,⟨40,.phase⟩,⟨41,.phase⟩,⟨42,.phase⟩,⟨43,.phase⟩,⟨44,.phase⟩,⟨45,.phase⟩],none⟩) rfl (fun K' hK => ?_) AllReadyH.nil
             rw [if_pos (by rfl)]
             go_simp
             refine hK.out _ _ (fun j hj => (Blk.keep (g:=fV (ws m) s) ZK.out HLS.out _ (by have:=HLS.out;omega) (by omega)).trans (by unfold fV;rw [if_pos hj])) (fun hHeld1 => ?_)
             clear hK K' hHeld
             have hHeld:=hHeld1
             clear hHeld1
             try simp only [Act.put,p1',p2',p3']
             refine wpAnyH_done (by kernel_rfl) ?_ _
             clear hHeld
             go_wp2_with fail
             go_meet
             exact ⟨hJ_ (((ZK.out:Blk (((((Z.drew).drewN q5).drewN q10).drewN q27).drewN q32) b1 _ 64 _).set HLS.out (.int .u32 ((a7:Nat):Int))).congr fun j _ => by rw [HA7.out];exact b1k (ws m) s j),hJ_ ((ZV.out:Blk (((((Z.drew).drewN q5).drewN q10).drewN q27).drewN q32) (b1 + 1) _ 8 _).other ⟨b1,s,none⟩ _ (by show b1 + 1 ≠ b1;omega)),hJ_ ((below_drewN ZB.out _).setCell (p:=⟨b1,s,none⟩) (Nat.le_refl _) _)⟩
          ·obtain rfl:s = 64:=by omega
           as_aux_lemma =>
            obtain ⟨cc,hcc⟩:∃ x,x = comp h (ws m) 64:=⟨_,rfl⟩
            have HCC:=hJ_ hcc
            have HCL:=hJ_ (show ∀ i,cc i < 4294967296 by rw [hcc];exact b1b HF0.out (ws m) 64)
            rw [← hcc] at ZV
            have XH:=hJ_ (show Blk Z (bk + 1) 117 8 (sV h cc 0) from (UH.out.on ZB.out HLB.out).congr fun j _ => (c8u h cc j).symm)
            have XK:=hJ_ (UK.out.on ZB.out (by have:=HLB.out;omega))
            have XR:=hJ_ (UR.out.on ZB.out (by rw [HB1.out];exact UR.out.2.2.1))
            have XB:=hJ_ (show Below bk w Z from UB.out.trans (ZB.out.mono (by have:=HLB.out;omega)))
            clear hcc hlt hs
            go_wp2_with fail
            go_loopw [254] (fun q R => ∃ i:Nat,i ≤ 8 ∧ q = .int .i64 (i:Nat) ∧ Blk R (bk + 1) 117 8 (sV h cc i) ∧ Blk R (b1 + 1) 117 8 (gV cc) ∧ Blk R bk 116 64 (gV KF) ∧ a5f R g' n' M ∧ Below bk w R) (fun q _ => 8 - (intOf q).toNat)
            case atStart => exact ⟨0,by omega,rfl,XH.out,ZV.out,XK.out,XR.out,XB.out⟩
            case round =>
             obtain ⟨i,hi,rfl,h1,h2,h3,h4,h5⟩:=hrel
             rename World => R
             have RH:=hJ_ h1
             have RV:=hJ_ h2
             have RK:=hJ_ h3
             have RR:=hJ_ h4
             have RB:=hJ_ h5
             clear h1 h2 h3 h4 h5 XH XK XR XB
             by_cases hlt:i < 8
             ·have qi:(i:Int) < 8:=by omega
              have qi0:(0:Int) ≤ (i:Int):=by omega
              have hc1:=RH.out.cell hlt
              unfold sV at hc1
              rw [if_neg (by omega)] at hc1
              have hc2:=RV.out.cell hlt
              unfold gV at hc2
              have hf1:=RH.out.free i
              have HLI:=hJ_ hlt
              have l1:=HF0.out i
              have l2:=HCL.out i
              obtain ⟨x,e1⟩:∃ x,x = h i:=⟨_,rfl⟩
              obtain ⟨y,e2⟩:∃ x,x = cc i:=⟨_,rfl⟩
              rw [← e1] at hc1 l1
              rw [← e2] at hc2 l2
              obtain ⟨z,e3⟩:∃ z,z = ad x y:=⟨_,rfl⟩
              have HZ:=hJ_ (show ((z:Nat):Int) = ((ad (h i) (cc i):Nat):Int) by rw [e3,e1,e2])
              go_upto_region 34 with fail
              have y0:IntKind.u32.wrap ((x:Int) + (y:Int)) = (z:Int):=by rw [IntKind.wrap_u32',e3];unfold ad;omega
              have y0':((x:Int) + (y:Int)) % 4294967296 = (z:Int):=by rw [e3];unfold ad;omega
              clear e1 e2 e3
              go_region
              all_goals
               clear y0 y0'
               go_wp2
               go_roundw
               case rel => exact ⟨i + 1,HLI.out,by go_num,(Blk.set (w:=R) RH.out HLI.out _).congr fun j _ => by rw [HZ.out];exact d5h h cc i j,Blk.other (w:=R) RV.out ⟨bk + 1,i,none⟩ _ (by show b1 + 1 ≠ bk + 1;have:=HLB.out;omega),Blk.other (w:=R) RK.out ⟨bk + 1,i,none⟩ _ (by show bk ≠ bk + 1;omega),a5f.other (w:=R) RR.out ⟨bk + 1,i,none⟩ _ (by show bk + 1 ≠ g';have:=HGG.out;omega),by first | exact (RB.out.setCell (p:=⟨bk + 1,i,none⟩) (by show bk ≤ bk + 1;omega) _).drew | exact RB.out.drew.setCell (p:=⟨bk + 1,i,none⟩) (by show bk ≤ bk + 1;omega) _⟩
               case measure => simp [intOf] <;> omega
             ·obtain rfl:i = 8:=by omega
              go_wp2
              go_roundw
              case rel =>
               refine ⟨t + 1,HLT.out,by have:=HAA.out;go_num,RK.out,RH.out.congr fun j hj => ?_,RR.out,RB.out⟩
               unfold sV gV
               rw [if_pos hj,hF,b8d,HCC.out,HMQ.out,HAA.out,HHH.out]
              case measure => simp [intOf];have:=HAA.out;have:=HLT.out;omega
        ·obtain rfl:t = Q:=by omega
         as_aux_lemma =>
          obtain ⟨h,hh⟩:∃ h,h = hF M t:=⟨_,rfl⟩
          have hh0:=d1k M t
          rw [← hh] at UH hh0
          have HHL:=hJ_ hh0
          have HSUM:=hJ_ (show b3b l = b4r h 8 by rw [b3b,HQ.out,← HMM.out,hh])
          obtain ⟨cs,hcs⟩:∃ cs,cs = a0e 8 (gV h):=⟨_,rfl⟩
          have HSS:=hJ_ (show (Tryz.prog.info? 117).map (·.size) = some cs.size by rw [hcs,a0b];exact b6s)
          have HCS:=hJ_ hcs
          have HN0:=hJ_ (show (U.alloc (.cells #[] 5)).ownsRow U.heap.size 5 1 (.slice (some ⟨U.heap.size,0,none⟩) 0 0) 0 (([]:List Int).map (Value.int .u8)) from World.ownsRow_lit (base:=U.heap.size) (e:=5) (size:=1) U #[] 0 (Nat.le_refl _) (Nat.zero_le _) rfl)
          have HB0:=hJ_ (show Below U.heap.size U (U.alloc (.cells #[] 5)) from (Below.refl _ _).alloc (Nat.le_refl _) _)
          have S2:=hJ_ (show (U.alloc (.cells #[] 5)).heap[bk + 1]? = some (.cells cs 117 (0,0)) by rw [hcs];exact UH.out.on HB0.out UH.out.lt)
          have qA:(64:Int) * (t:Int) = (n':Int):=by have:=HMN.out;omega
          clear hh hh0 hcs hlt ht
          go_upto_region 36 with fail
          clear qA
          go_wp2_with ((with_reducible show wpList _ _ _ (⟨some 268,_,_,_,_,_⟩ :: _) _ _);go_loud (refine wpList_load_row rfl 117 (.tmp 4) rfl (bk + 1) rfl _ cs _ _ S2.out Tryz.underlying117 rfl HSS.out ?_))
          go_loopw [16,269] (fun o q R => ∃ (i g c':Nat),i ≤ 8 ∧ q = .int .i64 (i:Nat) ∧ o = .slice (some ⟨g,0,none⟩) (4 * i) c' ∧ R.ownsRow U.heap.size 5 1 (.slice (some ⟨g,0,none⟩) (4 * i) c') (4 * i) ((b4r h i).map (Value.int .u8)) ∧ Below U.heap.size U R) (fun _ q _ => 8 - (intOf q).toNat)
          case atStart => exact ⟨0,_,_,by omega,rfl,rfl,HN0.out,HB0.out⟩
          case round =>
           obtain ⟨i,g,c',hi,rfl,rfl,h1,h2⟩:=hrel
           rename World => R
           have RO:=hJ_ h1
           have RB:=hJ_ h2
           clear h1 h2 HN0 HB0 S2
           by_cases hlt:i < 8
           ·have HLI:=hJ_ hlt
            have qi:(i:Int) < 8:=by omega
            have hix:∀ w:World,(Instr.index 117 (.agg cs) (.int .i64 (i:Nat))).run Tryz.prog w = .ok (.int .u32 ((h i:Nat):Int)) w:=by rw [HCS.out];exact c5n h hlt
            have lx:=HHL.out i
            obtain ⟨x,e1⟩:∃ x,x = h i:=⟨_,rfl⟩
            rw [← e1] at lx
            have HW4:=hJ_ (show b4r h (i + 1) = b4r h i ++ [(x:Int) / 16777216,(x:Int) / 65536 % 256,(x:Int) / 256 % 256,(x:Int) % 256] by
             rw [b4r,w4,← e1,show ((x / 2 ^ 24 % 256:Nat):Int) = (x:Int) / 16777216 by omega,show ((x / 2 ^ 16 % 256:Nat):Int) = (x:Int) / 65536 % 256 by omega,show ((x / 2 ^ 8 % 256:Nat):Int) = (x:Int) / 256 % 256 by omega,show ((x % 256:Nat):Int) = (x:Int) % 256 by omega])
            rw [← e1] at hix
            clear e1 hlt
            go_wp2_with ((with_reducible show wpList _ _ _ (⟨some 285,_,_,_,_,_⟩ :: _) _ _);go_loud (refine a2k (o:=⟨some 285,_,_,_,_,_⟩) rfl (.tmp 272) (.tmp 284) 22 rfl U.heap.size 5 i8 Tryz.underlying22 HI.out HZ0.out HZ1.out HZ2.out (some ⟨g,0,none⟩) (4 * i) c' (b4r h i) rfl (RO.out.alloc _) R.heap.size 4 [(x:Int) / 16777216,(x:Int) / 65536 % 256,(x:Int) / 256 % 256,(x:Int) % 256] rfl rfl (by omega) (b7t _ _ _ _ _ _) (by omega) (by have:=RB.out.size;simp;omega) ?_;intro g5 c5 W5 ho5 hb5))
            have HO5:=hJ_ ho5
            have HB5:=hJ_ ((RB.out.alloc RB.out.size _).trans hb5)
            clear ho5 hb5 hix
            go_roundw
            case rel => exact ⟨i + 1,g5,c5,HLI.out,by go_num,rfl,by rw [HW4.out];exact HO5.out,HB5.out⟩
            case measure => simp [intOf] <;> omega
           ·obtain rfl:i = 8:=by omega
            go_wp2
            go_ret
            exact ⟨g,c',rfl,by rw [HSUM.out];exact a5f.own RO.out (b9s h 8),by rw [← HBKW.out];exact UB.out.trans (RB.out.mono (by have:=UH.out.lt;omega)),by rw [← HBKW.out];have:=a3g RO.out g rfl;have:=UH.out.lt;omega,by obtain ⟨_,_,hv,_,_,hle,_⟩:=a0f RO.out;cases hv;omega⟩
theorem c3h (a:Option Addr) (L c:Nat) (l:List Int) (w:World) (hx:Arg8c w a L c l) (hL:L ≤ 1000000) :
 Calls Tryz.prog 60 #[.slice a L c] w fun e w' => ∃ g c',e = .returned (.slice (some ⟨g,0,none⟩) 32 c') ∧ a5f w' g 32 (b3b l) ∧ Below w.heap.size w w' ∧ w.heap.size ≤ g:=
 (c2e a L c l w hx hL).mono fun e w' ⟨g,c',h1,h2,h3,h4,_⟩ => ⟨g,c',h1,h2,h3,h4⟩
end Go.Proofs.YtappfdbmhgifcaaGreatDoor
