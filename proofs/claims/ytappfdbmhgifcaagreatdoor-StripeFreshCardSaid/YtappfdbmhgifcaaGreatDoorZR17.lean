/- Texts of mine, one behind the other: QJ3 Aa Hc Ac Ad Yf. -/
import Derived.Test.YtappfdbmhgifcaaGreatDoorZR16
import Derived.Lib.SlBytesConst
import Derived.Lib.SmallJoins
import Derived.Lib.AppendZerosOnto
import Derived.Lib.SliceRun
import Derived.LoopN
set_option linter.unusedVariables false
set_option linter.unusedSimpArgs false
set_option maxRecDepth 100000
namespace Go.Proofs.YtappfdbmhgifcaaGreatDoor
open Go.ChangeShapes Go.WideShapes Go.ChangeAt Go.RowKit
theorem d9r:(Tryz.prog.info? 169).map (fun i => (i.zero,i.size)) = some (some (.agg (a0e 73 (a7q (fun _ => 0) (List.replicate 64 0) 0))),73):=by kernel_rfl
theorem e7c:(Tryz.prog.info? 169).map (·.size) = some 73:=by kernel_rfl
theorem e1f:Tryz.prog.built 169 [(0,.agg (a0e 8 (gV HF0)))] = some (a0e 73 (a7q HF0 (List.replicate 64 0) 0)):=by kernel_rfl
def cat (rows:Nat → List Int):Nat → List Int
 | 0 => []
 | i + 1 => cat rows i ++ rows i
theorem e2c (rows:Nat → List Int):hF (cat rows 0) ((cat rows 0).length / 64) = HF0:=by
 have e:(cat rows 0).length / 64 = 0:=by simp [cat]
 rw [e];rfl
theorem d6p (rows:Nat → List Int):∀ {i n:Nat},i ≤ n → (cat rows i).length ≤ (cat rows n).length
 | i,0,h => by obtain rfl:i = 0:=by omega
               exact Nat.le_refl _
 | i,n + 1,h => by
  rw [cat,List.length_append]
  by_cases e:i = n + 1
  ·subst e;rw [cat,List.length_append];omega
  ·have:=d6p rows (i:=i) (n:=n) (by omega)
   omega
def Rws (w:World) (ap:Option Addr) (np:Nat) (rows:Nat → List Int):Prop:=
 ∀ i,i < np → ∃ pb po a c,ap = some ⟨pb,po,none⟩ ∧ pb < w.heap.size ∧ w.cell? ⟨pb,po + i,none⟩ = some (.slice a (rows i).length c) ∧ Bs w w.heap.size a (rows i) ∧ a0z (rows i) ∧ (rows i).length ≤ c
theorem Rws.on {w w':World} {ap:Option Addr} {np:Nat} {rows:Nat → List Int} (h:Rws w ap np rows) (hb:Below w.heap.size w w'):Rws w' ap np rows:=fun i hi => by
 obtain ⟨pb,po,a,c,e1,e2,e3,e4,e5,e6⟩:=h i hi
 exact ⟨pb,po,a,c,e1,Nat.lt_of_lt_of_le e2 hb.size,(World.cell?_of_block (w:=w) (a:=⟨pb,po + i,none⟩) (hb.block pb e2)).trans e3,(e4.below hb).more hb.size,e5,e6⟩
theorem Gl.range {w:World} (h:Gl w):w.rangeAt 0 0 (a0e 8 (gV HF0)).toList:=fun j v hj => by
 rw [Array.getElem?_toList] at hj
 by_cases hjm:j < 8
 ·rw [a1f hjm] at hj
  rw [Nat.zero_add,h.2.1 j hjm]
  exact hj
 ·rw [Array.getElem?_eq_none (by rw [a0b];omega)] at hj;cases hj
set_option maxHeartbeats 3000000 in
theorem e1a (ap:Option Addr) (np cp:Nat) (rows:Nat → List Int) (w:World) (hR:Rws w ap np rows) (hn:np ≤ 1000) (hL:(cat rows np).length ≤ 800000) (hG:Gl w) :
 Calls Tryz.prog 107 #[.slice ap np cp] w fun e w' => ∃ g c',e = .returned (.slice (some ⟨g,0,none⟩) 32 c') ∧ a5f w' g 32 (b3b (cat rows np)) ∧ Below w.heap.size w w' ∧ 32 ≤ c':=by
 have HRW:=hJ_ hR
 have HNP:=hJ_ hn
 have HLL:=hJ_ hL
 have HGL:=hJ_ hG
 clear hR hn hL hG
 obtain ⟨cH,hcH⟩:∃ c,c = a0e 8 (gV HF0):=⟨_,rfl⟩
 have HRG:=hJ_ (show w.rangeAt 0 0 cH.toList by rw [hcH];exact HGL.out.range)
 have HHZ:=hJ_ (show (Tryz.prog.info? 117).map (·.size) = some cH.toList.length by rw [hcH,Array.length_toList,a0b];exact b6s)
 obtain ⟨TR,hTR⟩:∃ c,c = a0e 73 (a7q HF0 (List.replicate 64 0) 0):=⟨_,rfl⟩
 have HBD:=hJ_ (show Tryz.prog.built 169 [(0,.agg cH)] = some TR by rw [hcH,hTR];exact e1f)
 have HTS:=hJ_ (show (Tryz.prog.info? 169).map (·.size) = some TR.size by rw [hTR,a0b];exact e7c)
 have HT1:=hJ_ (show TR.all (·.oneCell') = true by rw [hTR];exact a0l fun j => d0n _ _ _ j)
 obtain ⟨hz,hi⟩:=zero_of_info d9r
 obtain ⟨z0,hz0⟩:∃ c,c = a0e 73 (a7q (fun _ => 0) (List.replicate 64 0) 0):=⟨_,rfl⟩
 rw [← hz0] at hz
 have HZS:=hJ_ (show z0.size = TR.size by rw [hz0,hTR,a0b,a0b])
 obtain ⟨W1,hW1⟩:∃ W1,W1 = w.alloc (.cells z0 169):=⟨_,rfl⟩
 have HZ0:=hJ_ (show (w.alloc (.cells z0 169)).heap[w.heap.size]? = some (.cells z0 169 (0,0)) from heap_alloc_new w _)
 have HB1:=hJ_ (show Below w.heap.size w ((w.alloc (.cells z0 169)).setRow w.heap.size TR) from below_setRow ((Below.refl _ _).alloc (Nat.le_refl _) _) (Nat.le_refl _) _)
 have HR1:=hJ_ (show Rn ((w.alloc (.cells z0 169)).setRow w.heap.size TR) w.heap.size (cat rows 0) (List.replicate 64 0) from ⟨by
  rw [hTR]
  rw [e2c rows]
  exact Blk.row (g:=a7q (fun _ => 0) (List.replicate 64 0) 0) (by unfold Blk;rw [← hz0];exact HZ0.out) _,d4l⟩)
 clear hcH hTR hi hz0 hW1 W1
 go_enter Tryz.func107,Tryz.ntmps107
 go_upto_region 2 with (first
  | ((with_reducible show wpList _ _ _ (⟨some 6,_,_,_,_,_⟩ :: _) _ _);go_loud (refine wpList_load_mid (by rfl) 117 (.global 0) (by rfl) 0 0 (by rfl) cH.toList _ HRG.out Tryz.underlying117 (by rfl) HHZ.out ?_;rw [Array.toArray_toList]))
  | ((with_reducible show wpList _ _ _ (⟨some 7,_,_,_,_,_⟩ :: _) _ _);go_loud (refine wpList_buildTo rfl 169 #[(0,.tmp 6)] rfl (some 7) rfl TR (by rw [Array.toList_map];exact HBD.out) ?_))
  | ((with_reducible show wpList _ _ _ (⟨none,_,_,_,_,_⟩ :: _) _ _);go_loud (refine wpList_store_row rfl 169 (.tmp 3) (.tmp 7) rfl w.heap.size TR rfl rfl _ _ HZ0.out HTS.out HZS.out HT1.out ?_)))
 clear hz
 generalize hW1:(w.alloc (.cells z0 169)).setRow w.heap.size TR = W1 at HB1 HR1 ⊢
 clear hW1 HZ0
 obtain ⟨g,hg⟩:∃ g,g = w.heap.size:=⟨_,rfl⟩
 rw [← hg] at HB1 HR1 ⊢
 have HGW:=hJ_ hg
 have HG2:=hJ_ (show 2 ≤ g by rw [hg];exact HGL.out.1)
 clear hg
 go_upto_region 3 with fail
 go_loopw [10] (fun s wr => ∃ (i:Nat) (W':List Int),i ≤ np ∧ s = .int .i64 (i:Nat) ∧ Rn wr g (cat rows i) W' ∧ Below g w wr) (fun s _ => np - (intOf s).toNat)
 case atStart => exact ⟨0,_,by omega,rfl,HR1.out,HB1.out⟩
 case round =>
  obtain ⟨i,W',hi,rfl,h1,h2⟩:=hrel
  rename World => V
  have HRN:=hJ_ h1
  have HBV:=hJ_ h2
  have HI:=hJ_ hi
  clear h1 h2 hi HR1 HB1
  have HRV:=hJ_ (HRW.out.on (by rw [← HGW.out];exact HBV.out))
  have HGV:=hJ_ (HGL.out.on HBV.out HG2.out)
  have qn:(np:Int) ≤ 1000:=by have:=HNP.out;omega
  by_cases hlt:i < np
  ·as_aux_lemma =>
    obtain ⟨pb,po,a,c,rfl,hpb,hcell,hbs,hB,hc⟩:=HRV.out i hlt
    have qi:(i:Int) < (np:Int):=by omega
    have HLE:=hJ_ (show (cat rows i).length + (rows i).length ≤ 900000 by
     have h:=d6p rows (i:=i + 1) (n:=np) hlt
     rw [cat,List.length_append] at h
     have:=HLL.out
     omega)
    have HLT:=hJ_ hlt
    have HADD:=hJ_ (c4s g (cat rows i) W' a (rows i).length c (rows i) V HRN.out rfl hB hbs hc (fun h0 b off e => by
     obtain ⟨pb',po',a',c',e1,e2,e3,e4,_⟩:=HRW.out i hlt
     cases e1
     have hcc:=(World.cell?_of_block (w:=w) (a:=⟨pb,po + i,none⟩) (HBV.out.block pb (by rw [HGW.out];exact e2))).trans e3
     rw [hcell] at hcc
     cases hcc
     obtain ⟨b',off',e5,hlt',_⟩:=e4 h0
     rw [e] at e5
     cases e5
     rw [HGW.out]
     omega) HGV.out HG2.out HLE.out)
    obtain ⟨rl,hrl⟩:∃ r,r = (rows i).length:=⟨_,rfl⟩
    rw [← hrl] at hcell HADD
    clear hrl hlt hpb hbs hB hc
    go_wp2_with (go_at_call 128;go_loud ((with_reducible refine HADD.out.mono ?_);rintro e V2 ⟨rfl,hgr,W2,hr2⟩;have HGR:=hJ_ hgr;have HR2:=hJ_ hr2;clear hgr hr2))
    go_roundw
    case rel => exact ⟨i + 1,W2,HLT.out,by go_num,HR2.out,HBV.out.trans (a5h HGR.out (Nat.le_refl _) (Nat.le_of_lt HRN.out.1.lt))⟩
    case measure => simp [intOf] <;> (have:=HLT.out;omega)
  ·as_aux_lemma =>
    obtain rfl:i = np:=by have:=HI.out;omega
    obtain ⟨M,hM⟩:∃ M,M = cat rows i:=⟨_,rfl⟩
    rw [← hM] at HRN HLL
    have HM:=hJ_ hM
    have HEND:=hJ_ (e1h g (hF M (M.length / 64)) W' M.length V HRN.out.1 (by have:=HLL.out;omega))
    clear hM hlt
    go_upto_region 8 with (first
     | (go_at_call 129;go_loud ((with_reducible refine HEND.out.mono ?_);rintro e V2 ⟨g2,c2,rfl,hc2,hg2,hr2,hb2⟩;have HB2:=hJ_ hb2;have HR2:=hJ_ hr2;have HADD:=hJ_ (c4s g M W' (some ⟨g2,0,none⟩) (zc M.length + 9) c2 (d2p M.length) V2 ⟨HRN.out.1.on hb2 HRN.out.1.lt,HRN.out.2⟩ (d4q _) (d5d _) hr2.bs hc2 (fun _ b off e => by cases e;have:=HRN.out.1.lt;omega) (HGV.out.on hb2 HGV.out.1) HG2.out (by have:=HLL.out;have:=e0g M.length;omega));clear hb2 hr2 hc2 hg2))
     | (go_at_call 128;go_loud ((with_reducible refine HADD.out.mono ?_);rintro e V3 ⟨rfl,hgr,W3,hr3⟩;have HGR:=hJ_ hgr;have HR3:=hJ_ hr3;clear hgr hr3)))
    rw [← d0c] at HR3
    have HBW:=hJ_ (show Below g w V3 from (HBV.out.trans (HB2.out.mono (Nat.le_of_lt HRN.out.1.lt))).trans (a5h HGR.out (Nat.le_refl _) (Nat.le_of_lt (HRN.out.1.on HB2.out HRN.out.1.lt).lt)))
    obtain ⟨h,hh⟩:∃ h,h = hF (b7r M) ((b7r M).length / 64):=⟨_,rfl⟩
    have hhb:∀ j,h j < 4294967296:=fun j => by rw [hh];exact d1k _ _ j
    have HBK:=hJ_ HR3.out.1
    rw [← hh] at HBK
    have HSM:=hJ_ (show b3b M = b4r h 8 by rw [b3b,hh])
    obtain ⟨cS,hcS⟩:∃ c,c = a0e 8 (gV h):=⟨_,rfl⟩
    have HRS:=hJ_ (show V3.rangeAt g 0 cS.toList by rw [hcS];exact HBK.out.rangeT (by omega) fun j hj => a8n hj)
    have HSZ:=hJ_ (show (Tryz.prog.info? 166).map (·.size) = some cS.toList.length by rw [hcS,Array.length_toList,a0b];exact b5w)
    have HBY:=hJ_ (c2o h V3 hhb)
    rw [← hcS] at HBY
    clear hh hhb hcS HADD
    go_wp2_with (first
     | ((with_reducible show wpList _ _ _ (⟨some 20,_,_,_,_,_⟩ :: _) _ _);go_loud (refine wpList_load_mid (by rfl) 166 (.tmp 19) (by rfl) g 0 (by rfl) cS.toList _ HRS.out Tryz.underlying166 (by rfl) HSZ.out ?_;rw [Array.toArray_toList]))
     | (go_at_call 130;go_loud ((with_reducible refine HBY.out.mono ?_);rintro e V4 ⟨g4,c4,rfl,hr4,hb4,hc4⟩;have HR4:=hJ_ hr4;have HB4:=hJ_ hb4;have HC4:=hJ_ hc4;clear hr4 hb4 hc4)))
    go_ret
    refine ⟨g4,c4,rfl,by rw [← HM.out,HSM.out];exact HR4.out,?_,HC4.out⟩
    rw [← HGW.out]
    exact HBW.out.trans (HB4.out.mono (Nat.le_of_lt HBK.out.lt))
theorem d8p (ap:Option Addr) (np cp:Nat) (rows:Nat → List Int) (w:World) (hR:Rws w ap np rows) (hn:np ≤ 1000) (hL:(cat rows np).length ≤ 800000) (hG:Gl w) :
 Calls Tryz.prog 107 #[.slice ap np cp] w fun e w' => ∃ g c',e = .returned (.slice (some ⟨g,0,none⟩) 32 c') ∧ a5f w' g 32 (b3b (cat rows np)) ∧ Below w.heap.size w w':=
 (e1a ap np cp rows w hR hn hL hG).mono fun _ _ ⟨g,c',h1,h2,h3,_⟩ => ⟨g,c',h1,h2,h3⟩
theorem a5f.str_on {w:World} {g n:Nat} {l:List Int} (h:a5f w g n l) (c:Nat):∀ U,Below w.heap.size w U → (convert 22 9 (.slice (some ⟨g,0,none⟩) n c)).run Tryz.prog U = .ok (.string (strOfNums l)) U:=fun U hU =>
 (h.bs.below hU).str h.1 Tryz.underlying22 Tryz.underlying5 Tryz.underlying9
theorem a1l.str_on {w:World} {a:Option Addr} {n c:Nat} {l:List Int} (h:a1l w a n c l):∀ U,Below w.heap.size w U → (convert 22 9 (.slice a n c)).run Tryz.prog U = .ok (.string (strOfNums l)) U:=fun U hU =>
 (h.2.2.1.below hU).str h.1 Tryz.underlying22 Tryz.underlying5 Tryz.underlying9
theorem d8i (pb:Nat) (a:Option Addr) (L c:Nat) (l:List Int) (w:World) (hp:w.cell? ⟨pb,0,none⟩ = some (.slice a L c)) (hpb:pb < w.heap.size) (hx:a1l w a L c l) (hL:L ≤ 800000) (hG:Gl w) :
 Calls Tryz.prog 107 #[.slice (some ⟨pb,0,none⟩) 1 1] w fun e w' => ∃ g c',e = .returned (.slice (some ⟨g,0,none⟩) 32 c') ∧ a5f w' g 32 (b3b l) ∧ Below w.heap.size w w':=by
 have e:cat (fun _ => l) 1 = l:=by simp [cat]
 have h:=d8p (some ⟨pb,0,none⟩) 1 1 (fun _ => l) w (fun i hi => ⟨pb,0,a,c,rfl,hpb,by rw [Nat.zero_add,show i = 0 by omega,hp,hx.1],hx.2.2.1,hx.2.1,by rw [hx.1];exact hx.2.2.2.1⟩) (by omega) (by rw [e,hx.1];exact hL) hG
 rw [e] at h
 exact h
end Go.Proofs.YtappfdbmhgifcaaGreatDoor
namespace Go.Proofs.YtappfdbmhgifcaaGreatDoor
open Go.ChangeShapes Go.WideShapes Go.ChangeAt Go.RowKit Go.Shelf
def Z8:List Int:=List.replicate 8 0
theorem e9s:a0z Z8:=fun x hx => by obtain ⟨_,rfl⟩:=List.mem_replicate.1 hx;omega
def hidL (K B:List Int):List Int:=a7i B (stL (b2u K Z8) 0 B.length)
def a9u (K B:List Int):List Int:=hidL K B ++ a7i K (b3b (hidL K B))
def e7f (P:List Int):List Int:=a7i (P.drop (P.length - 32)) (b3b (P.take (P.length - 32)))
def e7p (P:List Int):List Int:=hidL (e7f P) (P.take (P.length - 32))
theorem b0k (K B:List Int):(hidL K B).length = B.length:=by unfold hidL;rw [a0r,a1t,Nat.min_self]
theorem c5y {K B:List Int} (hK:a0z K) (hB:a0z B):a0z (hidL K B):=b6o _ _ hB (b3q (c0l hK _) _ _)
theorem c3n {K B:List Int} (hB:a0z B):hidL K (hidL K B) = B:=by
 unfold hidL
 rw [a0r,a1t,Nat.min_self]
 exact b3g (by rw [a1t]) hB
theorem b4b {K:List Int} (B:List Int) (hK:K.length = 32):(a9u K B).length = B.length + 32:=by unfold a9u;rw [List.length_append,b0k,a0r,b4u,hK];rfl
theorem c0t {K B:List Int} (hK:a0z K) (hB:a0z B):a0z (a9u K B):=fun x hx => (List.mem_append.1 hx).elim (c5y hK hB x) (b6o _ _ hK (c1u _) x)
theorem b5x {K:List Int} (B:List Int) (hK:K.length = 32):(a9u K B).take ((a9u K B).length - 32) = hidL K B:=by
 rw [b4b B hK,Nat.add_sub_cancel,← b0k K B]
 exact List.take_left
theorem c4d {K:List Int} (B:List Int) (hK:K.length = 32):(a9u K B).drop ((a9u K B).length - 32) = a7i K (b3b (hidL K B)):=by
 rw [b4b B hK,Nat.add_sub_cancel,← b0k K B]
 exact List.drop_left
theorem d3v {K:List Int} (B:List Int) (hK:K.length = 32) (hA:a0z K):e7f (a9u K B) = K:=by
 unfold e7f
 rw [b5x B hK,c4d B hK]
 exact b3g (by rw [b4u,hK]) hA
theorem d3o {K B:List Int} (hK:K.length = 32) (hA:a0z K) (hB:a0z B):e7p (a9u K B) = B:=by
 unfold e7p
 rw [d3v B hK hA,b5x B hK]
 exact c3n hB
theorem e6r {P:List Int} (h:a0z P):a0z (e7f P):=b6o _ _ (fun x hx => h x (List.mem_of_mem_drop hx)) (c1u _)
def e1t:Prop:=∀ (b:Nat) (aK:Option Addr) (cK:Nat) (K:List Int) (aB:Option Addr) (n cB:Nat) (B:List Int) (w:World),
 Gl w → Fld w b → Arg8c w aK 32 cK K → Arg8c w aB n cB B → n ≤ 900 →
 Calls Tryz.prog 52 #[.pointer (some ⟨b,0,none⟩),.slice aK (32:Nat) cK,.slice aB n cB] w fun e w' => ∃ g c,e = .returned (.tuple #[.slice (some ⟨g,0,none⟩) (n + 32:Nat) c,.int .i64 0]) ∧
  w'.ownsRow w.heap.size 5 1 (.slice (some ⟨g,0,none⟩) (n + 32:Nat) c) (n + 32) ((a9u K B).map (Value.int .u8)) ∧ Below w.heap.size w w'
def e1s:Prop:=∀ (b:Nat) (a:Option Addr) (n c:Nat) (P:List Int) (w:World),Gl w → Fld w b → Arg8c w a n c P → 32 ≤ n → n ≤ 2000 →
 Calls Tryz.prog 73 #[.pointer (some ⟨b,0,none⟩),.slice a n c] w fun e w' => ∃ a' c',e = .returned (.tuple #[.slice a' (n - 32:Nat) c',.int .i64 0]) ∧ a1l w' a' (n - 32) c' (e7p P) ∧ Below w.heap.size w w'
end Go.Proofs.YtappfdbmhgifcaaGreatDoor
namespace Go.Proofs.YtappfdbmhgifcaaGreatDoor
open GF
def qS (t:Nat) (S M:List GF):List (List GF):=(List.range 440).map fun i => tr (dl t 440 S M i)
def qA (P:List (List GF)) (n:Nat):List (List GF):=(List.range n).map fun i => tr (pp P i)
def a9r (Q:List (List GF)) (n t:Nat):Prop:=Q.length = n ∧ ∀ k,k < n → tr (rw_ Q k) = rw_ Q k ∧ (rw_ Q k).length ≤ t
theorem b5v {α:Type} (f:Nat → List GF) {n k:Nat} (h:k < n):rw_ ((List.range n).map f) k = f k:=by
 unfold rw_;simp [List.getD_eq_getElem?_getD,h]
theorem a5w (t:Nat) (S M:List GF):(qS t S M).length = 440:=by simp [qS]
theorem c1i (P:List (List GF)) (n:Nat):(qA P n).length = n:=by simp [qA]
theorem d5l {t k:Nat} {S M:List GF} (h:k < 440):rw_ (qS t S M) k = tr (dl t 440 S M k):=b5v (α:=Nat) _ h
theorem d7a {P:List (List GF)} {n k:Nat} (h:k < n):rw_ (qA P n) k = tr (pp P k):=b5v (α:=Nat) _ h
theorem e9l {t:Nat} (S M:List GF) (ht:1 ≤ t):a9r (qS t S M) 440 t:=⟨a5w t S M,fun k hk => by
 rw [d5l hk]
 exact ⟨e2e _,a5d.2 fun j hj => e7m 440 S M k ht hj⟩⟩
theorem e9d (P:List (List GF)) (n:Nat):a9r (qA P n) n P.length:=⟨c1i P n,fun k hk => by
 rw [d7a hk]
 exact ⟨e2e _,a5d.2 fun j hj => e8p P k hj⟩⟩
theorem c8w (t:Nat) (S M:List GF) (x:GF):evP (qS t S M) x = shR t 440 S M x:=by
 refine a1i (by rw [a0v,a5w,a2e]) fun k hk => ?_
 rw [a0v,a5w] at hk
 rw [b5q x (by rw [a5w];exact hk),d5l hk,d1o,b2h S M x hk]
theorem d9z (P:List (List GF)) (n:Nat) (x:GF):evP (qA P n) x = pcR P n x:=by
 refine a1i (by rw [a0v,c1i,b9n]) fun k hk => ?_
 rw [a0v,c1i] at hk
 rw [b5q x (by rw [c1i];exact hk),d7a hk,d1o,d6v x hk]
def stR (Q:List (List GF)) (N:Nat):List (List GF):=(List.range N).map fun i => evP Q (pl (i + 1))
theorem a6c (Q:List (List GF)) (N:Nat):(stR Q N).length = N:=by simp [stR]
theorem a1d {Q:List (List GF)} {N i:Nat} (h:i < N):rw_ (stR Q N) i = evP Q (pl (i + 1)):=b5v (α:=Nat) _ h
theorem b5y (t N:Nat) (S M:List GF):shM t 440 S M (plc N) = stR (qS t S M) N:=by
 unfold shM stR plc
 rw [List.map_map]
 exact List.map_congr_left fun i _ => (c8w t S M _).symm
theorem d9c (P:List (List GF)) (n N:Nat):e6p P n N = stR (qA P n) N:=by
 unfold e6p stR
 exact List.map_congr_left fun i _ => (d9z P n _).symm
def noQ (n:Nat):List (List GF):=List.replicate n []
theorem c7g (n t:Nat):a9r (noQ n) n t:=⟨by simp [noQ],fun k hk => by
 have:rw_ (noQ n) k = []:=by unfold rw_ noQ;simp [List.getD_eq_getElem?_getD,hk]
 rw [this];exact ⟨rfl,Nat.zero_le _⟩⟩
theorem c7l (n:Nat):(noQ n).length = n:=by simp [noQ]
theorem d5g (n:Nat) (x:GF):evP (noQ n) x = noR n:=by
 unfold evP noQ noR
 rw [List.map_replicate]
 rfl
theorem a9r.same {Q Q':List (List GF)} {n t:Nat} (h:a9r Q n t) (h':a9r Q' n t) (he:∀ k,k < n → ∀ j,co (rw_ Q k) j = co (rw_ Q' k) j):Q = Q':=by
 apply List.ext_getElem (by rw [h.1,h'.1])
 intro k k1 k2
 have hk:k < n:=by rw [← h.1];exact k1
 have e:=a9d (he k hk)
 rw [(h.2 k hk).1,(h'.2 k hk).1] at e
 unfold rw_ at e
 simpa [List.getD_eq_getElem?_getD,k1,k2] using e
def a6y (K B:List GF):List GF:=1 :: gL (a9u (iL K) (iL B))
theorem b0j {K B:List GF} (hK:K.length = 32) (hB:B.length = 440):(a6y K B).length = 473:=by
 unfold a6y
 rw [List.length_cons,c6g,b4b _ (by rw [a0a,hK]),a0a,hB]
def a9s (P:List GF) (t:Nat):List (List GF):=qA (a6u P t (ceil 473 t)) (ceil 473 t)
theorem b0e (P:List GF) (t n:Nat):(a6u P t n).length = t:=by simp [a6u]
theorem a4y (P:List GF) (t:Nat):a9r (a9s P t) (ceil 473 t) t:=by
 have h:=e9d (a6u P t (ceil 473 t)) (ceil 473 t)
 rw [b0e] at h
 exact h
theorem b4p {P:List GF} {t n i:Nat} (h:i < t):(rw_ (a6u P t n) i).length = n:=by
 unfold a6u
 rw [b5v (α:=Nat) _ h];simp
theorem b6e {P:List GF} {t i:Nat} (ht:t ≤ 255) (h:i < t):evP (a9s P t) (pl (i + 1)) = rw_ (a6u P t (ceil 473 t)) i:=by
 unfold a9s
 rw [d9z]
 exact d2h (by rw [b0e];exact ht) (by rw [b0e];exact h) (b4p h)
theorem a5n {t:Nat} (h1:1 ≤ t):473 ≤ t * ceil 473 t ∧ ceil 473 t ≤ 473 ∧ 1 ≤ ceil 473 t:=by
 unfold ceil
 have h2:=Nat.div_add_mod (473 + t - 1) t
 have h3:=Nat.mod_lt (473 + t - 1) (show 0 < t by omega)
 refine ⟨by omega,?_,?_⟩
 ·rw [Nat.div_le_iff_le_mul_add_pred (by omega)]
  have:t * 473 ≥ 1 * 473:=Nat.mul_le_mul_right _ h1
  have h5:473 * (t - 1) + 473 = 473 * t:=by rw [← Nat.mul_succ];congr 1;omega
  have h6:t * 473 = 473 * t:=Nat.mul_comm _ _
  omega
 ·rw [Nat.le_div_iff_mul_le (by omega)];omega
theorem b5u {P:List GF} {t:Nat} (h1:1 ≤ t) (ht:t ≤ 255) (hP:P.length = 473):(flat (stR (a9s P t) t)).take 473 = P:=by
 have e:stR (a9s P t) t = a6u P t (ceil 473 t):=by
  apply List.ext_getElem (by rw [a6c,b0e])
  intro i k1 k2
  have hi:i < t:=by rw [a6c] at k1;exact k1
  have e1:rw_ (stR (a9s P t) t) i = rw_ (a6u P t (ceil 473 t)) i:=by rw [a1d hi,b6e ht hi]
  unfold rw_ at e1
  simpa [List.getD_eq_getElem?_getD,k1,k2] using e1
 rw [e]
 exact c8v hP (a5n h1).1
theorem b9r {t n:Nat} (h:473 ≤ t * n):(flat (stR (noQ n) t)).take 473 = noR 473:=by
 have e:stR (noQ n) t = List.replicate t (noR n):=by
  unfold stR
  refine List.eq_replicate_iff.2 ⟨by simp,fun x hx => ?_⟩
  obtain ⟨i,_,rfl⟩:=List.mem_map.1 hx
  exact d5g _ _
 rw [e]
 unfold flat noR
 rw [List.flatten_replicate_replicate,List.take_replicate,Nat.min_eq_left h]
def qM (m:Int) (t:Nat) (B R:List GF):List (List GF):=if m = 0 then qS t B R else a9s (a6y R B) t
theorem e9z (t:Nat) (B R:List GF):qM 0 t B R = qS t B R:=rfl
theorem f0f (t:Nat) (B R:List GF):qM 1 t B R = a9s (a6y R B) t:=rfl
def Tel (m:Int) (t:Nat) (Q:List (List GF)) (B:List GF):Prop:=
 B.length = 440 ∧ ((m = 0 ∧ Q.length = 440 ∧ evP Q 0 = B) ∨ (m = 1 ∧ ((∃ K:List GF,K.length = 32 ∧ Q = a9s (a6y K B) t) ∨ (Q = noQ (ceil 473 t) ∧ B = noR 440))))
theorem e8r {t:Nat} {B R:List GF} (hB:B.length = 440):Tel 0 t (qS t B R) B:=⟨hB,.inl ⟨rfl,a5w t B R,by rw [c8w];exact c5i R hB⟩⟩
theorem e8f {t:Nat} {B K:List GF} (hB:B.length = 440) (hK:K.length = 32):Tel 1 t (a9s (a6y K B) t) B:=⟨hB,.inr ⟨rfl,.inl ⟨K,hK,rfl⟩⟩⟩
theorem e6d (t:Nat):Tel 1 t (noQ (ceil 473 t)) (noR 440):=⟨List.length_replicate,.inr ⟨rfl,.inr ⟨rfl,rfl⟩⟩⟩
end Go.Proofs.YtappfdbmhgifcaaGreatDoor
namespace Go.Proofs.YtappfdbmhgifcaaGreatDoor
open Go.ChangeShapes Go.WideShapes Go.ChangeAt Go.RowKit Go.Shelf
set_option maxHeartbeats 1000000 in
theorem d4o (n:Nat) (w:World) (h1:1 ≤ n) (h2:n ≤ 1000) :
 Calls Tryz.prog 84 #[.slice none 0 0,.int .i64 (n:Nat)] w fun e w' => ∃ c,e = .returned (.slice (some ⟨w.heap.size,0,none⟩) 0 c) ∧ w'.ownsRow w.heap.size 5 1 (.slice (some ⟨w.heap.size,0,none⟩) 0 c) 0 (([]:List Int).map (Value.int .u8)) ∧ Below w.heap.size w w':=by
 obtain ⟨i5,hi,hz0,hz1,hz2⟩:=info_parts info5
 have hold:(Builtin.firstCells i5.size 0 (.slice none 0 0)).run Tryz.prog w.drew = .ok ([]:List Value).toArray w.drew:=run_firstCells_none w.drew i5.size 0 0 0
 have hrz:=fun ty => Lib.run_append_grow_zeros w 22 3 ty 5 i5 (.int .u8 0) .i64 .i64 Tryz.underlying22 Tryz.underlying3 hi hz0 none 0 0 [] hold n (by omega) (by rw [hz1];decide) (by omega) (by omega) (by rw [hz2];omega)
  (by rw [hz2];have h:Builtin.nextslicecap (0 + n) 0 ≤ 0 + n ∨ Builtin.nextslicecap (0 + n) 0 = 0 + n:=by
       unfold Builtin.nextslicecap;simp;omega
      omega)
 rw [Nat.zero_add] at hrz
 have hGn:n ≤ grownCap w n 0 5:=grownCap_ge w _ _ _
 have hGm:grownCap w n 0 5 ≤ maxLen:=grownCap_le_maxLen w n 0 5 (by unfold maxLen;omega)
 obtain ⟨G,hG⟩:∃ G,G = grownCap w n 0 5:=⟨_,rfl⟩
 rw [← hG] at hrz hGn hGm
 have hGm2:G ≤ 9223372036854775807:=by unfold maxLen at hGm;omega
 obtain ⟨cs,hcs⟩:∃ cs,cs = Builtin.zeroCells #[Value.int .u8 0] n ++ Builtin.zeroCells #[Value.int .u8 0] (G - n):=⟨_,rfl⟩
 have hsz:cs.size = G * 1:=by rw [hcs,Array.size_append,size_zeroCells,size_zeroCells];simp;omega
 have HO:Hid ((w.alloc (.cells cs 5)).drew.ownsRow w.heap.size 5 1 (.slice (some ⟨w.heap.size,0,none⟩) 0 G) 0 []):=hJ_ ⟨rfl,.inr ⟨w.heap.size,G,cs,rfl,Nat.le_refl _,heap_alloc_new w _,Nat.zero_le _,hGm,hsz,rfl⟩⟩
 have HB:Hid (Below w.heap.size w (w.alloc (.cells cs 5)).drew):=hJ_ (((Below.refl w.heap.size w).alloc (Nat.le_refl _) _).drew)
 rw [hcs] at HO HB
 clear hsz hcs cs
 have HR:=hJ_ hrz
 have q1:¬ ((n:Int) < 0):=by omega
 have q2:(0:Int) < (n:Int):=by omega
 clear hG hGm hold hi hz0 hz1 hz2 hrz
 go_enter Tryz.func84,Tryz.ntmps84
 go_wp2_with (at_builtin;go_loud (refine Lib.wpList_append_run _ rfl _ _ _ _ rfl _ _ rfl rfl _ _ (HR.out _) ?_))
 all_goals (go_ret;exact ⟨G,rfl,HO.out,HB.out⟩)
set_option maxHeartbeats 1000000 in
theorem b0s (g:Nat) (a1:Option Addr) (n1 c1:Nat) (P:List Int) (a2:Option Addr) (n2 c2:Nat) (Q:List Int) (w:World) (h1:w.cell? ⟨g,0,none⟩ = some (.slice a1 n1 c1)) (h2:w.cell? ⟨g,0 + 1,none⟩ = some (.slice a2 n2 c2)) (hg:g < w.heap.size) (hp:Arg8c w a1 n1 c1 P) (hq:Arg8c w a2 n2 c2 Q) (hn1:1 ≤ n1 + n2) (hn:n1 + n2 ≤ 1000) :
 Calls Tryz.prog 53 #[.slice (some ⟨g,0,none⟩) 2 2] w fun e w' => ∃ v,e = .returned v ∧ w'.ownsRow w.heap.size 5 1 v (n1 + n2) ((P ++ Q).map (Value.int .u8)) ∧ Below w.heap.size w w':=by
 obtain ⟨i5,hi,hz0,hz1,hz2⟩:=info_parts info5
 have HI:=hJ_ (And.intro hi (And.intro hz0 (And.intro hz1 hz2)))
 have HP:=hJ_ hp
 have HQ:=hJ_ hq
 have hgr:=fun W => d4o (n1 + n2) W (by omega) (by omega)
 simp only [Int.natCast_add] at hgr
 have HGR:=hJ_ hgr
 clear hgr
 have hb1:n1 ≤ c1 ∧ c1 ≤ 9223372036854775807:=⟨hp.1.2.2.2.1,hp.1.2.2.2.2⟩
 have hb2:n2 ≤ c2 ∧ c2 ≤ 9223372036854775807:=⟨hq.1.2.2.2.1,hq.1.2.2.2.2⟩
 have h2':w.cell? ⟨g,1,none⟩ = some (.slice a2 n2 c2):=h2
 have q1:¬ ((n1:Int) < 0):=by omega
 have q2:¬ ((n1:Int) + (n2:Int) < 0):=by omega
 have q3:((n1 + n2:Nat):Int) = (n1:Int) + (n2:Int):=by omega
 clear hi hz0 hz1 hz2 hp hq h2
 go_enter Tryz.func53,Tryz.ntmps53
 go_wp2
 refine wp_loop_rounds 3 ?_
 rw [rounds_succ]
 go_wp2
 rw [rounds_succ]
 go_wp2
 rw [rounds_succ]
 go_wp2_with (go_at_call 84;go_loud (refine (HGR.out _).mono ?_);rintro e w1 ⟨c3,rfl,ho1,hb1'⟩;have HO1:=hJ_ ho1;have HB1:=hJ_ hb1';clear ho1 hb1';have hd1:=(HB1.out.cell (p:=⟨g,0,none⟩) hg).trans h1;have hd2:=(HB1.out.cell (p:=⟨g,1,none⟩) hg).trans h2')
 refine wp_loop_rounds 3 ?_
 rw [rounds_succ]
 go_wp2_with ((with_reducible show wpList _ _ _ (⟨some 33,_,_,_,_,_⟩ :: _) _ _);go_loud (refine a0u _ rfl (.tmp 31) (.tmp 32) 22 rfl w.heap.size 5 i5 Tryz.underlying22 HI.out.1 HI.out.2.1 HI.out.2.2.1 HI.out.2.2.2 _ 0 [] rfl HO1.out _ n1 c1 _ P rfl (HP.out.1.on HB1.out).2.2.1 HP.out.1.1 HP.out.2 (by omega) HB1.out.size ?_);go_loud (intro v1 wc hown1 hg1;rw [Nat.zero_add,List.nil_append] at hown1;have hbel:=HB1.out.grown hg1 HB1.out.size (fun z hz => (HO1.out.lt z hz).1);obtain ⟨a4,c4,hv1,_,_,_,_,_⟩:=a0f hown1;subst hv1;have HO2:=hJ_ hown1;have HB2:=hJ_ hbel;clear hown1 hg1 hbel;have he2:=(HB2.out.cell (p:=⟨g,1,none⟩) hg).trans h2'))
 rw [rounds_succ]
 go_wp2_with ((with_reducible show wpList _ _ _ (⟨some 33,_,_,_,_,_⟩ :: _) _ _);go_loud (refine a0u _ rfl (.tmp 31) (.tmp 32) 22 rfl w.heap.size 5 i5 Tryz.underlying22 HI.out.1 HI.out.2.1 HI.out.2.2.1 HI.out.2.2.2 _ n1 P rfl HO2.out _ n2 c2 _ Q rfl (HQ.out.1.on HB2.out).2.2.1 HQ.out.1.1 HQ.out.2 (by omega) HB2.out.size ?_);go_loud (intro v1 wc hown1 hg1;have hbel:=HB2.out.grown hg1 HB2.out.size (fun z hz => (HO2.out.lt z hz).1);obtain ⟨a5,c5,hv1,_,_,_,_,_⟩:=a0f hown1;subst hv1;have HO3:=hJ_ hown1;have HB3:=hJ_ hbel;clear hown1 hg1 hbel))
 rw [rounds_succ]
 go_wp2
 go_ret
 exact ⟨_,rfl,HO3.out,HB3.out⟩
theorem a7l {w:World} {base g n c:Nat} {e:TypeId} {l:List Int} (h:w.ownsRow base e 1 (.slice (some ⟨g,0,none⟩) n c) n (l.map (Value.int .u8))) (hA:a0z l):Arg8c w (some ⟨g,0,none⟩) n c l:=by
 obtain ⟨a',c',e1,hb,hl,h1,h2,h3⟩:=a0f h
 cases e1
 exact ⟨⟨hl,hA,hb,h1,h2⟩,fun e => by cases e⟩
theorem b6u (b:Nat) (aK:Option Addr) (cK:Nat) (K:List Int) (aB:Option Addr) (n cB:Nat) (B:List Int) (w:World) (hf:Fld w b) (hK:a1l w aK 32 cK K) (hB:a1l w aB n cB B) (hn:n ≤ 1048576) :
 Calls Tryz.prog 82 #[.pointer (some ⟨b,0,none⟩),.slice aK (32:Nat) cK,.slice aB n cB] w fun e w' => ∃ g,e = .returned (.tuple #[.slice (some ⟨g,0,none⟩) n n,.int .i64 0]) ∧
  a1l w' (some ⟨g,0,none⟩) n n (hidL K B) ∧ Below w.heap.size w w':=by
 have hmk:=run_make_row' (P:=Tryz.prog) 22 5 (.int .u8 0) 1 Tryz.underlying22 info5 rfl .i64 .i64 8 (by omega) (by omega)
 rw [show ((8:Nat):Int) = 2 * 4 from rfl] at hmk
 simp only [Int.reduceMul] at hmk
 have HN:=hJ_ (e2j b aK 32 cK K w hf hK (.inr rfl))
 have HKL:=hJ_ (show K.length = 16 ∨ K.length = 32 from .inr hK.1)
 have HKB:=hJ_ hK.2.1
 have HB:=hJ_ hB
 have HL:=hJ_ hn
 clear hf hK hB hn
 go_enter Tryz.func82,Tryz.ntmps82
 go_wp2_with (first
  | (go_at_call 105;go_loud ((with_reducible refine HN.out.mono ?_);rintro e w1 ⟨cb,rfl,hc,hb⟩;have HC1:=hJ_ hc;have HB1:=hJ_ hb;have HA1:=hJ_ (show Below w1.heap.size w1 (w1.alloc (.cells (madeCells #[.int .u8 0] 8) 5)) from (Below.refl _ _).alloc (Nat.le_refl _) _);have HX:=hJ_ (d7k cb K (some ⟨w1.heap.size,0,none⟩) 8 Z8 aB n cB B (w1.alloc (.cells (madeCells #[.int .u8 0] 8) 5)) (HC1.out.on HA1.out) HKL.out HKB.out (a7l (a1c (w:=w1) (e:=5) (n:=8) (by unfold maxLen;omega)) e9s).1 ((HB.out.on HB1.out).on HA1.out) HL.out);clear hc hb))
  | (go_at_call 106;go_loud ((with_reducible refine HX.out.mono ?_);rintro e w2 ⟨g2,rfl,ha,hb⟩;have HA2:=hJ_ ha;have HB2:=hJ_ (bt HB1.out (bt HA1.out hb));clear ha hb)))
 go_ret2
 have HL2:=HB.out.1
 refine ⟨g2,rfl,?_,HB2.out⟩
 have h:=HA2.out
 unfold hidL
 rw [HL2]
 exact h
theorem b0r (aK:Option Addr) (cK:Nat) (K:List Int) (aB:Option Addr) (n cB:Nat) (B:List Int) (w:World) (hG:Gl w) (hK:a1l w aK 32 cK K) (hB:a1l w aB n cB B) (hn:n ≤ 800000) :
 Calls Tryz.prog 83 #[.slice aK (32:Nat) cK,.slice aB n cB] w fun e w' => ∃ g,e = .returned (.slice (some ⟨g,0,none⟩) 32 32) ∧
  w'.ownsRow w.heap.size 5 1 (.slice (some ⟨g,0,none⟩) 32 32) 32 ((a7i K (b3b B)).map (Value.int .u8)) ∧ Below w.heap.size w w':=by
 have hb1:Below w.heap.size w (w.alloc (.cells #[.slice aB n cB] 22)):=(Below.refl _ _).alloc (Nat.le_refl _) _
 have HB1:=hJ_ hb1
 have HS:=hJ_ (d8i w.heap.size aB n cB B (w.alloc (.cells #[.slice aB n cB] 22)) (by simp) (by simp) (hB.on hb1) hn (hG.on hb1 hG.1))
 have HK:=hJ_ hK
 clear hK hB hn hG hb1
 go_enter Tryz.func83,Tryz.ntmps83
 go_wp2_with (first
  | (go_at_call 107;go_loud ((with_reducible refine HS.out.mono ?_);rintro e w2 ⟨g2,c2,rfl,hr,hb⟩;have HR2:=hJ_ hr;have HB2:=hJ_ (bt HB1.out hb);have HX:=hJ_ (c0g aK (some ⟨g2,0,none⟩) 32 cK 32 c2 K (b3b B) w2 ⟨HK.out.1,HK.out.2.1,(HK.out.on HB2.out).2.2.1⟩ ⟨HR2.out.1,HR2.out.2.1,HR2.out.bs⟩ (by omega) (by omega));clear hr hb))
  | (go_at_call 100;go_loud ((with_reducible refine HX.out.mono ?_);rintro e w3 ⟨g3,rfl,ho,hb⟩;rw [Nat.min_self] at ho;have HO3:=hJ_ (a5q ho HB2.out.size);have HB3:=hJ_ (bt HB2.out hb);clear ho hb)))
 go_ret
 exact ⟨g3,rfl,HO3.out,HB3.out⟩
theorem c8r (b off m c:Nat) (w:World) (hc:m + 32 ≤ c) (hm:c ≤ maxLen):Calls Tryz.prog 99 #[.slice (some ⟨b,off,none⟩) (m + 32:Nat) c] w fun e w' =>
 e = .returned (.tuple #[.slice (some ⟨b,off,none⟩) m c,.slice (some ⟨b,off + m,none⟩) 32 (c - m),.int .i64 0]) ∧ ∃ j,w' = w.drewN j:=by
 unfold maxLen at hm
 have q2:¬ ((m:Int) < 0):=by omega
 go_enter Tryz.func99,Tryz.ntmps99
 go_wp2
 go_quiet (fail)
 go_wp2
 go_ret3
 exact ⟨rfl,_,rfl⟩
theorem e4y:e1t:=by
 intro b aK cK K aB n cB B w hG hf hK hB hn
 have HA:=hJ_ (b6u b aK cK K aB n cB B w hf hK.1 hB.1 (by omega))
 have HG:=hJ_ hG
 have HK:=hJ_ hK
 have HKB:=hJ_ (c5y hK.1.2.1 hB.1.2.1)
 have HKL:=hJ_ hK.1.1
 have q1:¬ (1048576:Int) < (n:Int):=by omega
 have HN:=hJ_ hn
 clear hG hf hK hB hn
 go_enter Tryz.func52,Tryz.ntmps52
 go_wp2_with (first
  | (go_at_call 82;go_loud ((with_reducible refine HA.out.mono ?_);rintro e w1 ⟨g1,rfl,ha,hb⟩;have HA1:=hJ_ ha;have HB1:=hJ_ hb;have HC:=hJ_ (b0r aK cK K (some ⟨g1,0,none⟩) n n (hidL K B) w1 (HG.out.on hb HG.out.1) (HK.out.1.on hb) ha (by have:=HN.out;omega));clear ha hb))
  | (go_at_call 83;go_loud ((with_reducible refine HC.out.mono ?_);rintro e w2 ⟨g2,rfl,ho,hb⟩;have HO2:=hJ_ ho;have HB2:=hJ_ hb;have hal:Below w2.heap.size w2 (w2.alloc (.cells #[.slice (some ⟨g1,0,none⟩) n n,.slice (some ⟨g2,0,none⟩) 32 32] 22)):=(Below.refl _ _).alloc (Nat.le_refl _) _;have HAL:=hJ_ hal;have HCC:=hJ_ (b0s w2.heap.size (some ⟨g1,0,none⟩) n n (hidL K B) (some ⟨g2,0,none⟩) 32 32 (a7i K (b3b (hidL K B))) (w2.alloc (.cells #[.slice (some ⟨g1,0,none⟩) n n,.slice (some ⟨g2,0,none⟩) 32 32] 22)) (by simp) (by simp) (by simp) ⟨(HA1.out.on hb).on hal,fun e => by cases e⟩ ⟨(a7l ho (b6o _ _ HK.out.1.2.1 (c1u _))).1.on hal,fun e => by cases e⟩ (by omega) (by have:=HN.out;omega));clear ho hb hal))
  | (go_at_call 53;go_loud ((with_reducible refine HCC.out.mono ?_);rintro e w3 ⟨v3,rfl,ho,hb⟩;obtain ⟨a3,c3,rfl,_⟩:=a0f ho;have HO3:=hJ_ ho;have HB3:=hJ_ (bt (bt HB1.out HB2.out) (bt HAL.out hb));clear ho hb)))
 go_ret2
 have ho:=HO3.out
 rw [show hidL K B ++ a7i K (b3b (hidL K B)) = a9u K B from rfl] at ho
 obtain ⟨g,hg⟩:∃ g,a3 = some ⟨g,0,none⟩:=by
  rcases ho with ⟨_,h | ⟨g,c,cs,h,_⟩⟩
  ·cases h.1
  ·cases h
   exact ⟨g,rfl⟩
 subst hg
 exact ⟨g,c3,rfl,a5q ho (by have:=(bt (bt HB1.out HB2.out) HAL.out).size;omega),HB3.out⟩
theorem b0i {w:World} {a:Option Addr} {n c:Nat} {l:List Int} (h:a1l w a n c l) (hn:0 < n):∃ b off,a = some ⟨b,off,none⟩:=by
 obtain ⟨b,off,e,_⟩:=h.2.2.1 (by rw [h.1];exact hn)
 exact ⟨b,off,e⟩
theorem c0p {w:World} {b off m c:Nat} {P:List Int} (h:a1l w (some ⟨b,off,none⟩) (m + 32) c P):a1l w (some ⟨b,off,none⟩) m c (P.take (P.length - 32)):=by
 obtain ⟨h1,h2,h3,h4,h5⟩:=h
 exact ⟨by rw [List.length_take,h1];omega,fun x hx => h2 x (List.mem_of_mem_take hx),h3.take _,by omega,h5⟩
theorem d1f {w:World} {b off m c:Nat} {P:List Int} (h:a1l w (some ⟨b,off,none⟩) (m + 32) c P):a1l w (some ⟨b,off + m,none⟩) 32 (c - m) (P.drop (P.length - 32)):=by
 obtain ⟨h1,h2,h3,h4,h5⟩:=h
 have e:P.length - 32 = m:=by omega
 exact ⟨by rw [List.length_drop,h1];omega,fun x hx => h2 x (List.mem_of_mem_drop hx),by rw [e];exact h3.dropK,by omega,by omega⟩
theorem e6q:e1s:=by
 intro b a n c P w hG hf hP h1 h2
 obtain ⟨b1,off,rfl⟩:=b0i hP.1 (by omega)
 obtain ⟨m,rfl⟩:∃ m,n = m + 32:=⟨n - 32,by omega⟩
 have HP:=hJ_ (c8r b1 off m c w hP.1.2.2.2.1 hP.1.2.2.2.2)
 have HC:=hJ_ (fun j => b0r (some ⟨b1,off + m,none⟩) (c - m) (P.drop (P.length - 32)) (some ⟨b1,off,none⟩) m c (P.take (P.length - 32)) (w.drewN j) (hG.drewN j) (d1f hP.1) (c0p hP.1) (by omega))
 have HB:=hJ_ (e6r hP.1.2.1)
 have HH:=hJ_ (c0p hP.1)
 have HF:=hJ_ hf
 have q1:¬ (1048576:Int) < (m:Int):=by omega
 have HM:=hJ_ (show m ≤ 1048576 by omega)
 clear hG hf hP h1 h2
 go_enter Tryz.func73,Tryz.ntmps73
 go_wp2_with (first
  | (go_at_call 99;go_loud ((with_reducible refine HP.out.mono ?_);rintro e w1 ⟨rfl,j1,rfl⟩))
  | (go_at_call 83;go_loud ((with_reducible refine (HC.out j1).mono ?_);rintro e w2 ⟨g2,rfl,ho,hb⟩;have HB2:=hJ_ (bt (below_drewN (Below.refl _ _) j1) hb);have HA:=hJ_ (b6u b (some ⟨g2,0,none⟩) 32 (e7f P) (some ⟨b1,off,none⟩) m c (P.take (P.length - 32)) w2 (HF.out.below HB2.out) (a7l ho HB.out).1 (HH.out.on HB2.out) HM.out);clear ho hb))
  | (go_at_call 82;go_loud ((with_reducible refine HA.out.mono ?_);rintro e w3 ⟨g3,rfl,ha,hb⟩;have HA3:=hJ_ ha;have HB3:=hJ_ (bt HB2.out hb);clear ha hb)))
 go_ret2
 rw [Nat.add_sub_cancel]
 exact ⟨_,_,rfl,HA3.out,HB3.out⟩
end Go.Proofs.YtappfdbmhgifcaaGreatDoor
namespace Go.Proofs.YtappfdbmhgifcaaGreatDoor
open Go.ChangeShapes Go.WideShapes Go.ChangeAt Go.RowKit Go.Shelf GF
theorem c8k {w:World} {a:Option Addr} {L c:Nat} {B:List GF} (h:Pa w a L c B) {st n i m:Nat} (hm:st + m ≤ L) (e:m = 0 ∨ st = i * n):0 < ((iL (a5e B n i m)).map (Value.int .u8)).length → ∃ ad,a9q a c st = some ad ∧ ∀ j v,((iL (a5e B n i m)).map (Value.int .u8))[j]? = some v → w.cell? (ad.add j) = some v:=by
 have hs:=h.seg (lo:=st) (n:=m) hm
 have hh:seg B st m = a5e B n i m:=by
  refine a1i (by rw [a8y (by rw [h.len];exact hm),a0i]) fun k hk => ?_
  rw [a8y (by rw [h.len];exact hm)] at hk
  rw [c5a hk]
  rcases e with rfl | rfl
  ·omega
  ·show _ = List.getD _ _ _
   unfold a5e;simp [List.getD_eq_getElem?_getD,hk]
 rw [hh] at hs
 exact fun h0 => hs.1.2.2.1.cells h0
theorem c7i {B:List GF} {L n i m:Nat} (hB:B.length = L) (hm:m ≤ n) (he:m = n ∨ L ≤ i * n + m):b2w (a5e B n i m) n = a5e B n i n:=by
 refine a1i (by rw [a2o (by rw [a0i];exact hm),a0i]) fun k hk => ?_
 rw [a2o (by rw [a0i];exact hm)] at hk
 rw [a8o]
 have key:∀ M,co (a5e B n i M) k = if k < M then co B (i * n + k) else 0:=fun M => by
  by_cases h:k < M
  ·rw [if_pos h];show List.getD _ _ _ = _
   unfold a5e;simp [List.getD_eq_getElem?_getD,h]
  ·rw [if_neg h,a0w (by rw [a0i];omega)]
 rw [key,key,if_pos hk]
 by_cases h:k < m
 ·rw [if_pos h]
 ·rw [if_neg h,a0w (by rw [hB];omega)]
theorem c8g {w:World} {n:Nat}:(w.alloc (.cells (madeCells #[Value.int .u8 0] n) 5)).heap[w.heap.size]? = some (.cells (madeCells #[.int .u8 0] n).toList.toArray 5 (0,0)):=by rw [Array.toArray_toList];exact heap_alloc_new w _
set_option maxHeartbeats 4000000 in
theorem f0i:e9v:=by
 intro L t aB cB B w hB ht ht2 hL
 have HP:=hJ_ (b9o (t:Int) w (by omega) (by omega))
 have HS:=hJ_ (e7n L t w ht ht2 hL)
 have HB:=hJ_ hB
 have HBL:=hJ_ hB.len
 have HT:=hJ_ (And.intro ht ht2)
 have HL:=hJ_ hL
 have hbd:=hB.bd
 obtain ⟨n,hn⟩:∃ n,n = ceil L t:=⟨_,rfl⟩
 rw [← hn] at HS ⊢
 have HN:=hJ_ hn
 have HN2:=hJ_ (show n ≤ 1000 by rw [hn];exact Nat.le_trans (c6b ht) hL)
 have qt:(t:Int) ≤ 255:=by omega
 have qL:(L:Int) ≤ 1000:=by omega
 have qn:(n:Int) ≤ 1000:=by have:=HN2.out;omega
 have hmk:=run_make_row' (P:=Tryz.prog) 28 22 (.slice none 0 0) 24 Tryz.underlying28 b1v rfl .i64 .i64 t (by omega) (by omega)
 have hmk2:=run_make_row' (P:=Tryz.prog) 22 5 (.int .u8 0) 1 Tryz.underlying22 info5 rfl .i64 .i64 n (by omega) (by omega)
 clear hB ht ht2 hL hn
 go_enter Tryz.func54,Tryz.ntmps54
 go_upto_region 6 with (first
  | (go_at_call 64;refine HP.out.mono ?_;rintro e w' ⟨rfl,rfl⟩)
  | (go_at_call 35;refine HS.out.mono ?_;rintro e w1 ⟨rfl,q,rfl⟩))
 obtain ⟨wr,hwr⟩:∃ wr,wr = w.drewN q:=⟨_,rfl⟩
 have HW:=hJ_ hwr
 have HBR:=hJ_ (show Below w.heap.size w wr by rw [hwr];exact below_drewN (Below.refl _ _) _)
 have HSZ:=hJ_ (show wr.heap.size = w.heap.size by rw [hwr];rfl)
 obtain ⟨G,hG⟩:∃ G,G = w.heap.size:=⟨_,rfl⟩
 have HG:=hJ_ hG
 have hO0:Hid ((wr.alloc (.cells (madeCells #[Value.slice none 0 0] t) 22)).ownsRow G 22 1 (.slice (some ⟨G,0,none⟩) t t) t (([]:List Value) ++ List.replicate (t - 0) (.slice none 0 0))):=by
  rw [hG,← HSZ.out];exact hJ_ (b7g (w:=wr) (n:=t) (by unfold maxLen;have:=HT.out;omega))
 have hB0:Hid (Below G wr (wr.alloc (.cells (madeCells #[Value.slice none 0 0] t) 22))):=by rw [hG,← HSZ.out];exact hJ_ ((Below.refl _ _).alloc (Nat.le_refl _) _)
 have hw0:Hid (RV (wr.alloc (.cells (madeCells #[Value.slice none 0 0] t) 22)) (fun b => G < b) [] ((a6u B t n).take 0)):=hJ_ (RV.nil _ _)
 rw [← hwr,← hG]
 clear hG hmk hwr
 go_loopw [20] (fun s V => ∃ (i:Nat) (vs:List Value),i ≤ t ∧ s = .int .i64 (i:Nat) ∧ Hid (vs.length = i) ∧ Hid (V.ownsRow G 22 1 (.slice (some ⟨G,0,none⟩) t t) t (vs ++ List.replicate (t - i) (.slice none 0 0))) ∧ Hid (RV V (fun b => G < b) vs ((a6u B t n).take i)) ∧ Hid (Below G wr V)) (fun s _ => t - (intOf s).toNat)
 case atStart => exact ⟨0,[],by omega,rfl,hJ_ rfl,hO0,hw0,hB0⟩
 case round =>
  obtain ⟨i,vs,hi,rfl,HVL,HO,HV,HBV⟩:=hrel
  rename World => V
  by_cases hlt:i < t
  ·have qi:(i:Int) < (t:Int):=by omega
   have qi0:(0:Int) ≤ (i:Int):=by omega
   obtain ⟨lo,hlo⟩:∃ lo,lo = i * n:=⟨_,rfl⟩
   have qlo:(i:Int) * (n:Int) = (lo:Int):=by rw [hlo];rfl
   have qlo2:(lo:Int) ≤ 255000:=by
    have:lo ≤ 255 * 1000:=by rw [hlo];exact Nat.mul_le_mul (by have:=HT.out.2;omega) HN2.out
    omega
   have HLO:=hJ_ hlo
   have kw:∀ [Inhabited Unit],IntKind.i64.wrap (lo:Int) = (lo:Int):=by intro _;rw [IntKind.wrap_i64];omega
   have HI1:=hJ_ hlt
   have HGV:=hJ_ (HO.out.lt G rfl).2
   have HO1:Hid (V.ownsRow G 22 1 (.slice (some ⟨G,0,none⟩) t t) t (vs ++ .slice none 0 0 :: List.replicate (t - (i + 1)) (.slice none 0 0))):=by
    have h:=HO.out;rw [c7q _ hlt] at h;exact hJ_ h
   obtain ⟨g,hg⟩:∃ g,g = V.heap.size:=⟨_,rfl⟩
   obtain ⟨V1,hV1⟩:∃ V1,V1 = V.setCell ⟨G,i,none⟩ (.slice (some ⟨g,0,none⟩) n n):=⟨_,rfl⟩
   obtain ⟨U,hU⟩:∃ U,U = V1.alloc (.cells (madeCells #[Value.int .u8 0] n) 5):=⟨_,rfl⟩
   have hs1:V1.heap.size = g:=by rw [hV1,hg];simp
   have hst:=(HO1.out.stored i (.slice (some ⟨g,0,none⟩) n n)).1
   rw [set_mid _ _ _ HVL.out,← hV1] at hst
   have HOU:=hJ_ (show U.ownsRow G 22 1 (.slice (some ⟨G,0,none⟩) t t) t (vs ++ .slice (some ⟨g,0,none⟩) n n :: List.replicate (t - (i + 1)) (.slice none 0 0)) by rw [hU];exact hst.alloc _)
   have HBU:=hJ_ (show Below G wr U by rw [hU,hV1];exact (HBV.out.setCell (p:=⟨G,i,none⟩) (Nat.le_refl _) _).alloc (by have:=HGV.out;simp;omega) _)
   have HGC:=hJ_ (show U.heap[g]? = some (.cells (madeCells #[.int .u8 0] n).toList.toArray 5 (0,0)) by rw [hU,← hs1];exact c8g)
   have HRV:Hid (RV U (fun b => G < b ∧ b < g) vs ((a6u B t n).take i)):=hJ_ (HV.out.keep (by rw [hU,hV1];simp) (fun b h1 h2 => ⟨⟨h2,by omega⟩,by rw [hU,hV1];exact (Below.heap_alloc _ _ b (by simpa using h1)).trans (Below.heap_setCell _ _ _ _ (by show b ≠ G;omega))⟩))
   have hcl0:=HO1.out.cellAt i (by omega)
   rw [List.getElem?_append_right (by rw [HVL.out];exact Nat.le_refl _),HVL.out,Nat.sub_self,List.getElem?_cons_zero] at hcl0
   have hfz0:=HO1.out.frozenAt i
   have hGV:G < V.heap.size:=HGV.out
   have HGG:=hJ_ (show G < g by omega)
   clear hlo hlt hi HO hst hO0 hB0 hw0
   go_upto_region 9 with fail
   rw [← hg,← hV1,← hU]
   have hcl:=HOU.out.cellAt i (by have:=HI1.out;omega)
   rw [List.getElem?_append_right (by rw [HVL.out];exact Nat.le_refl _),HVL.out,Nat.sub_self,List.getElem?_cons_zero] at hcl
   have HGD:=hJ_ (show U.drew.heap[g]? = some (.cells (madeCells #[.int .u8 0] n).toList.toArray 5 (0,0)) from HGC.out)
   have HBW:=hJ_ (show Pa U.drew aB L cB B from HB.out.on (bt HBR.out (by have:=HBU.out.drew;rw [HG.out,← HSZ.out] at this;exact this)))
   have HBD:=hJ_ (show Below g U U.drew from (Below.refl _ _).drew)
   clear hg hV1 hU hs1 hcl0 hfz0 hGV
   by_cases hc:lo ≤ L
   ·as_aux_lemma =>
    have qm:¬ (L:Int) < (lo:Int):=by omega
    have qs:(lo:Int) ≤ (L:Int):=by omega
    have qs0:(0:Int) ≤ (lo:Int):=by omega
    have qs2:(lo:Int) ≤ (cB:Int):=by omega
    obtain ⟨m,hm⟩:∃ m,m = Nat.min (L - lo) n:=⟨_,rfl⟩
    have hm2:m ≤ n ∧ lo + m ≤ L:=by rw [hm];refine ⟨Nat.min_le_right _ _,?_⟩;have h1:Nat.min (L - lo) n ≤ L - lo:=Nat.min_le_left _ _;omega
    have HC:=hJ_ (c8k (n:=n) (i:=i) (m:=m) HBW.out hm2.2 (by exact .inr HLO.out))
    have HPD:=hJ_ (c7i (i:=i) HBL.out hm2.1 (by have:=HLO.out;rw [← this,hm];rcases Nat.le_total n (L - lo) with h | h;left;exact Nat.min_eq_right h;right;rw [show Nat.min (L - lo) n = L - lo from Nat.min_eq_left h];omega))
    have HLEN:=hJ_ (show ((iL (a5e B n i m)).map (Value.int .u8)).length = Nat.min (L - lo) n by rw [List.length_map,a0a,a0i,hm])
    have HFIT:=hJ_ (show 0 + ((iL (a5e B n i m)).map (Value.int .u8)).length ≤ (madeCells #[Value.int .u8 0] n).toList.length by simp [a0a,a0i,size_madeCells];exact hm2.1)
    have HMN:=hJ_ hm2.1
    clear hm hm2
    rcases aB with _ | ad
    ·have hz:cB = 0:=HBW.out.2 rfl
     subst hz
     rw [show a9q none 0 lo = none by unfold a9q;simp] at HC
     go_still_tail 12,(by kernel_rfl)
     go_wp2_with ((with_reducible show wpList _ _ _ (⟨some 40,_,_,_,_,_⟩ :: _) _ _);go_loud (refine wpList_copy_splice (o:=⟨some 40,_,_,_,_,_⟩) rfl (.tmp 31) (.tmp 39) 22 22 rfl 5 Tryz.underlying22 a2a (some ⟨g,0,none⟩) _ n n _ _ rfl rfl g 0 (madeCells #[.int .u8 0] n).toList 5 HGD.out ((iL (a5e B n i m)).map (Value.int .u8)) HLEN.out (fun h0 => ⟨rfl,HC.out h0⟩) HFIT.out (ints_oneCell _ _) g U HBD.out (Nat.le_refl _) ?_);go_loud (intro w6 hg6 hb6;have HO6:=hJ_ (a5x hg6.out (by rw [a0i];exact HMN.out) (by have:=HN2.out;omega));have HB6:=hJ_ hb6;clear hg6 hb6))
     rw [HPD.out] at HO6
     have HOO:=hJ_ (a7a HOU.out HB6.out HGG.out)
     rw [show vs ++ Value.slice (some ⟨g,0,none⟩) n n :: List.replicate (t - (i + 1)) (.slice none 0 0) = (vs ++ [.slice (some ⟨g,0,none⟩) n n]) ++ List.replicate (t - (i + 1)) (.slice none 0 0) by simp] at HOO
     have hmo:=(HRV.out.keep (w':=w6) (ok':=fun b => G < b) HB6.out.size (fun b h1 h2 => ⟨h2.1,HB6.out.block b h2.2⟩)).more (P:=a5e B n i n) (a:=some ⟨g,0,none⟩) (c:=n) (by rw [a0i];exact Pa.own2 HO6.out) (fun bb off e _ => by cases e;exact HGG.out)
     rw [a0i,← a3m HI1.out] at hmo
     have HMO:=hJ_ hmo
     have HVV:=hJ_ (show (vs ++ [Value.slice (some ⟨g,0,none⟩) n n]).length = i + 1 by rw [List.length_append,HVL.out];rfl)
     have HBB:=hJ_ (HBU.out.trans (HB6.out.mono (Nat.le_of_lt HGG.out)))
     clear hmo
     go_roundw
     case rel => exact ⟨i + 1,vs ++ [.slice (some ⟨g,0,none⟩) n n],by have:=HI1.out;omega,by go_num,HVV,HOO,HMO,HBB⟩
     case measure => simp [intOf];have:=HI1.out;omega
    ·by_cases qc:cB = lo
     ·obtain rfl:cB = lo:=qc
      rw [show a9q (some ad) cB cB = some ad by unfold a9q;rw [if_pos rfl]] at HC
      rw [show L - cB = 0 by omega] at HLEN
      go_still_tail 12,(by kernel_rfl)
      go_wp2_with ((with_reducible show wpList _ _ _ (⟨some 40,_,_,_,_,_⟩ :: _) _ _);go_loud (refine wpList_copy_splice (o:=⟨some 40,_,_,_,_,_⟩) rfl (.tmp 31) (.tmp 39) 22 22 rfl 5 Tryz.underlying22 a2a (some ⟨g,0,none⟩) _ n n _ _ rfl rfl g 0 (madeCells #[.int .u8 0] n).toList 5 HGD.out ((iL (a5e B n i m)).map (Value.int .u8)) HLEN.out (fun h0 => ⟨rfl,HC.out h0⟩) HFIT.out (ints_oneCell _ _) g U HBD.out (Nat.le_refl _) ?_);go_loud (intro w6 hg6 hb6;have HO6:=hJ_ (a5x hg6.out (by rw [a0i];exact HMN.out) (by have:=HN2.out;omega));have HB6:=hJ_ hb6;clear hg6 hb6))
      rw [HPD.out] at HO6
      have HOO:=hJ_ (a7a HOU.out HB6.out HGG.out)
      rw [show vs ++ Value.slice (some ⟨g,0,none⟩) n n :: List.replicate (t - (i + 1)) (.slice none 0 0) = (vs ++ [.slice (some ⟨g,0,none⟩) n n]) ++ List.replicate (t - (i + 1)) (.slice none 0 0) by simp] at HOO
      have hmo:=(HRV.out.keep (w':=w6) (ok':=fun b => G < b) HB6.out.size (fun b h1 h2 => ⟨h2.1,HB6.out.block b h2.2⟩)).more (P:=a5e B n i n) (a:=some ⟨g,0,none⟩) (c:=n) (by rw [a0i];exact Pa.own2 HO6.out) (fun bb off e _ => by cases e;exact HGG.out)
      rw [a0i,← a3m HI1.out] at hmo
      have HMO:=hJ_ hmo
      have HVV:=hJ_ (show (vs ++ [Value.slice (some ⟨g,0,none⟩) n n]).length = i + 1 by rw [List.length_append,HVL.out];rfl)
      have HBB:=hJ_ (HBU.out.trans (HB6.out.mono (Nat.le_of_lt HGG.out)))
      clear hmo
      go_roundw
      case rel => exact ⟨i + 1,vs ++ [.slice (some ⟨g,0,none⟩) n n],by have:=HI1.out;omega,by go_num,HVV,HOO,HMO,HBB⟩
      case measure => simp [intOf];have:=HI1.out;omega
     ·rw [show a9q (some ad) cB lo = some (ad.add lo) by unfold a9q;rw [if_neg qc];rfl] at HC
      go_still_tail 12,(by kernel_rfl)
      go_wp2_with ((with_reducible show wpList _ _ _ (⟨some 40,_,_,_,_,_⟩ :: _) _ _);go_loud (refine wpList_copy_splice (o:=⟨some 40,_,_,_,_,_⟩) rfl (.tmp 31) (.tmp 39) 22 22 rfl 5 Tryz.underlying22 a2a (some ⟨g,0,none⟩) _ n n _ _ rfl rfl g 0 (madeCells #[.int .u8 0] n).toList 5 HGD.out ((iL (a5e B n i m)).map (Value.int .u8)) HLEN.out (fun h0 => ⟨rfl,HC.out h0⟩) HFIT.out (ints_oneCell _ _) g U HBD.out (Nat.le_refl _) ?_);go_loud (intro w6 hg6 hb6;have HO6:=hJ_ (a5x hg6.out (by rw [a0i];exact HMN.out) (by have:=HN2.out;omega));have HB6:=hJ_ hb6;clear hg6 hb6))
      rw [HPD.out] at HO6
      have HOO:=hJ_ (a7a HOU.out HB6.out HGG.out)
      rw [show vs ++ Value.slice (some ⟨g,0,none⟩) n n :: List.replicate (t - (i + 1)) (.slice none 0 0) = (vs ++ [.slice (some ⟨g,0,none⟩) n n]) ++ List.replicate (t - (i + 1)) (.slice none 0 0) by simp] at HOO
      have hmo:=(HRV.out.keep (w':=w6) (ok':=fun b => G < b) HB6.out.size (fun b h1 h2 => ⟨h2.1,HB6.out.block b h2.2⟩)).more (P:=a5e B n i n) (a:=some ⟨g,0,none⟩) (c:=n) (by rw [a0i];exact Pa.own2 HO6.out) (fun bb off e _ => by cases e;exact HGG.out)
      rw [a0i,← a3m HI1.out] at hmo
      have HMO:=hJ_ hmo
      have HVV:=hJ_ (show (vs ++ [Value.slice (some ⟨g,0,none⟩) n n]).length = i + 1 by rw [List.length_append,HVL.out];rfl)
      have HBB:=hJ_ (HBU.out.trans (HB6.out.mono (Nat.le_of_lt HGG.out)))
      clear hmo
      go_roundw
      case rel => exact ⟨i + 1,vs ++ [.slice (some ⟨g,0,none⟩) n n],by have:=HI1.out;omega,by go_num,HVV,HOO,HMO,HBB⟩
      case measure => simp [intOf];have:=HI1.out;omega
   ·as_aux_lemma =>
    have qm:(L:Int) < (lo:Int):=by omega
    have qs0:(0:Int) ≤ (L:Int):=by omega
    have qs2:(L:Int) ≤ (cB:Int):=by omega
    obtain ⟨m,hm⟩:∃ m,m = Nat.min (L - L) n:=⟨_,rfl⟩
    have hm2:m ≤ n ∧ L + m ≤ L:=by rw [hm];refine ⟨Nat.min_le_right _ _,?_⟩;have h1:Nat.min (L - L) n ≤ L - L:=Nat.min_le_left _ _;omega
    have HC:=hJ_ (c8k (n:=n) (i:=i) (m:=m) HBW.out hm2.2 (by left;rw [hm,Nat.sub_self];exact Nat.zero_min _))
    have HPD:=hJ_ (c7i (i:=i) HBL.out hm2.1 (by right;have:=HLO.out;omega))
    have HLEN:=hJ_ (show ((iL (a5e B n i m)).map (Value.int .u8)).length = Nat.min 0 n by rw [List.length_map,a0a,a0i,hm,Nat.sub_self])
    have HFIT:=hJ_ (show 0 + ((iL (a5e B n i m)).map (Value.int .u8)).length ≤ (madeCells #[Value.int .u8 0] n).toList.length by simp [a0a,a0i,size_madeCells];exact hm2.1)
    have HMN:=hJ_ hm2.1
    clear hm hm2
    rcases aB with _ | ad
    ·have hz:cB = 0:=HBW.out.2 rfl
     subst hz
     rw [show a9q none 0 L = none by unfold a9q;simp] at HC
     go_still_tail 12,(by kernel_rfl)
     go_wp2_with ((with_reducible show wpList _ _ _ (⟨some 40,_,_,_,_,_⟩ :: _) _ _);go_loud (refine wpList_copy_splice (o:=⟨some 40,_,_,_,_,_⟩) rfl (.tmp 31) (.tmp 39) 22 22 rfl 5 Tryz.underlying22 a2a (some ⟨g,0,none⟩) _ n n _ _ rfl rfl g 0 (madeCells #[.int .u8 0] n).toList 5 HGD.out ((iL (a5e B n i m)).map (Value.int .u8)) HLEN.out (fun h0 => ⟨rfl,HC.out h0⟩) HFIT.out (ints_oneCell _ _) g U HBD.out (Nat.le_refl _) ?_);go_loud (intro w6 hg6 hb6;have HO6:=hJ_ (a5x hg6.out (by rw [a0i];exact HMN.out) (by have:=HN2.out;omega));have HB6:=hJ_ hb6;clear hg6 hb6))
     rw [HPD.out] at HO6
     have HOO:=hJ_ (a7a HOU.out HB6.out HGG.out)
     rw [show vs ++ Value.slice (some ⟨g,0,none⟩) n n :: List.replicate (t - (i + 1)) (.slice none 0 0) = (vs ++ [.slice (some ⟨g,0,none⟩) n n]) ++ List.replicate (t - (i + 1)) (.slice none 0 0) by simp] at HOO
     have hmo:=(HRV.out.keep (w':=w6) (ok':=fun b => G < b) HB6.out.size (fun b h1 h2 => ⟨h2.1,HB6.out.block b h2.2⟩)).more (P:=a5e B n i n) (a:=some ⟨g,0,none⟩) (c:=n) (by rw [a0i];exact Pa.own2 HO6.out) (fun bb off e _ => by cases e;exact HGG.out)
     rw [a0i,← a3m HI1.out] at hmo
     have HMO:=hJ_ hmo
     have HVV:=hJ_ (show (vs ++ [Value.slice (some ⟨g,0,none⟩) n n]).length = i + 1 by rw [List.length_append,HVL.out];rfl)
     have HBB:=hJ_ (HBU.out.trans (HB6.out.mono (Nat.le_of_lt HGG.out)))
     clear hmo
     go_roundw
     case rel => exact ⟨i + 1,vs ++ [.slice (some ⟨g,0,none⟩) n n],by have:=HI1.out;omega,by go_num,HVV,HOO,HMO,HBB⟩
     case measure => simp [intOf];have:=HI1.out;omega
    ·by_cases qc:cB = L
     ·obtain rfl:cB = L:=qc
      rw [show a9q (some ad) cB cB = some ad by unfold a9q;rw [if_pos rfl]] at HC
      go_still_tail 12,(by kernel_rfl)
      go_wp2_with ((with_reducible show wpList _ _ _ (⟨some 40,_,_,_,_,_⟩ :: _) _ _);go_loud (refine wpList_copy_splice (o:=⟨some 40,_,_,_,_,_⟩) rfl (.tmp 31) (.tmp 39) 22 22 rfl 5 Tryz.underlying22 a2a (some ⟨g,0,none⟩) _ n n _ _ rfl rfl g 0 (madeCells #[.int .u8 0] n).toList 5 HGD.out ((iL (a5e B n i m)).map (Value.int .u8)) HLEN.out (fun h0 => ⟨rfl,HC.out h0⟩) HFIT.out (ints_oneCell _ _) g U HBD.out (Nat.le_refl _) ?_);go_loud (intro w6 hg6 hb6;have HO6:=hJ_ (a5x hg6.out (by rw [a0i];exact HMN.out) (by have:=HN2.out;omega));have HB6:=hJ_ hb6;clear hg6 hb6))
      rw [HPD.out] at HO6
      have HOO:=hJ_ (a7a HOU.out HB6.out HGG.out)
      rw [show vs ++ Value.slice (some ⟨g,0,none⟩) n n :: List.replicate (t - (i + 1)) (.slice none 0 0) = (vs ++ [.slice (some ⟨g,0,none⟩) n n]) ++ List.replicate (t - (i + 1)) (.slice none 0 0) by simp] at HOO
      have hmo:=(HRV.out.keep (w':=w6) (ok':=fun b => G < b) HB6.out.size (fun b h1 h2 => ⟨h2.1,HB6.out.block b h2.2⟩)).more (P:=a5e B n i n) (a:=some ⟨g,0,none⟩) (c:=n) (by rw [a0i];exact Pa.own2 HO6.out) (fun bb off e _ => by cases e;exact HGG.out)
      rw [a0i,← a3m HI1.out] at hmo
      have HMO:=hJ_ hmo
      have HVV:=hJ_ (show (vs ++ [Value.slice (some ⟨g,0,none⟩) n n]).length = i + 1 by rw [List.length_append,HVL.out];rfl)
      have HBB:=hJ_ (HBU.out.trans (HB6.out.mono (Nat.le_of_lt HGG.out)))
      clear hmo
      go_roundw
      case rel => exact ⟨i + 1,vs ++ [.slice (some ⟨g,0,none⟩) n n],by have:=HI1.out;omega,by go_num,HVV,HOO,HMO,HBB⟩
      case measure => simp [intOf];have:=HI1.out;omega
     ·rw [show a9q (some ad) cB L = some (ad.add L) by unfold a9q;rw [if_neg qc];rfl] at HC
      go_still_tail 12,(by kernel_rfl)
      go_wp2_with ((with_reducible show wpList _ _ _ (⟨some 40,_,_,_,_,_⟩ :: _) _ _);go_loud (refine wpList_copy_splice (o:=⟨some 40,_,_,_,_,_⟩) rfl (.tmp 31) (.tmp 39) 22 22 rfl 5 Tryz.underlying22 a2a (some ⟨g,0,none⟩) _ n n _ _ rfl rfl g 0 (madeCells #[.int .u8 0] n).toList 5 HGD.out ((iL (a5e B n i m)).map (Value.int .u8)) HLEN.out (fun h0 => ⟨rfl,HC.out h0⟩) HFIT.out (ints_oneCell _ _) g U HBD.out (Nat.le_refl _) ?_);go_loud (intro w6 hg6 hb6;have HO6:=hJ_ (a5x hg6.out (by rw [a0i];exact HMN.out) (by have:=HN2.out;omega));have HB6:=hJ_ hb6;clear hg6 hb6))
      rw [HPD.out] at HO6
      have HOO:=hJ_ (a7a HOU.out HB6.out HGG.out)
      rw [show vs ++ Value.slice (some ⟨g,0,none⟩) n n :: List.replicate (t - (i + 1)) (.slice none 0 0) = (vs ++ [.slice (some ⟨g,0,none⟩) n n]) ++ List.replicate (t - (i + 1)) (.slice none 0 0) by simp] at HOO
      have hmo:=(HRV.out.keep (w':=w6) (ok':=fun b => G < b) HB6.out.size (fun b h1 h2 => ⟨h2.1,HB6.out.block b h2.2⟩)).more (P:=a5e B n i n) (a:=some ⟨g,0,none⟩) (c:=n) (by rw [a0i];exact Pa.own2 HO6.out) (fun bb off e _ => by cases e;exact HGG.out)
      rw [a0i,← a3m HI1.out] at hmo
      have HMO:=hJ_ hmo
      have HVV:=hJ_ (show (vs ++ [Value.slice (some ⟨g,0,none⟩) n n]).length = i + 1 by rw [List.length_append,HVL.out];rfl)
      have HBB:=hJ_ (HBU.out.trans (HB6.out.mono (Nat.le_of_lt HGG.out)))
      clear hmo
      go_roundw
      case rel => exact ⟨i + 1,vs ++ [.slice (some ⟨g,0,none⟩) n n],by have:=HI1.out;omega,by go_num,HVV,HOO,HMO,HBB⟩
      case measure => simp [intOf];have:=HI1.out;omega
  ·obtain rfl:i = t:=by omega
   have ho:=HO.out
   have hv:=HV.out
   rw [Nat.sub_self,List.replicate_zero,List.append_nil] at ho
   rw [List.take_of_length_le (by rw [c0z];exact Nat.le_refl _)] at hv
   have HM:=hJ_ (a4j.ofOk ho hv (fun b hb => Nat.le_of_lt hb))
   have HBF:=hJ_ (show Below w.heap.size w V from HBR.out.trans (by have:=HBV.out;rw [HG.out] at this;exact this))
   clear ho hv
   go_wp2
   go_ret2
   exact ⟨_,_,rfl,by rw [← HG.out];exact HM.out,HBF.out⟩
end Go.Proofs.YtappfdbmhgifcaaGreatDoor
