/- Texts of mine, one behind the other: QK2. -/
import Derived.Test.YtappfdbmhgifcaaGreatDoorZR03
import Derived.Maps.AppendAt
import Derived.RangeFuncNested
import Derived.RangeFuncBox
import Derived.RangeFuncCalls
import Derived.RangeFuncLeaves
import Derived.Shelf.Abstract
import Derived.Shelf.RegionOpen
import Derived.OwnWalkIn
import Derived.TacticsInMore
import Derived.LoopNIn
import Derived.LoopIn
import Derived.OrdersIn
set_option linter.unusedVariables false
set_option linter.unusedSimpArgs false
set_option maxRecDepth 100000
namespace Go.Proofs.YtappfdbmhgifcaaGreatDoor
open Go.ChangeShapes Go.WideShapes Go.ChangeAt Go.RowKit
section
attribute [local go_sem ↓] Go.wp_at_zero Go.wp_at_succ
theorem a1k {w w':World} (h:Below w.heap.size w w') (row:Option Nat):w.grownBy w' row:=⟨h.os,h.tape,h.output,h.size,fun k hk _ => h.block k hk⟩
theorem a3e (w:World) (b:Nat) (cs:Array Value):w.grownBy (w.setRow b cs) (some b):=⟨rfl,rfl,rfl,by rw [setRow_size];exact Nat.le_refl _,fun k hk hne => setRow_other w b k cs (fun e => hne (by rw [e]))⟩
theorem a3s (w:World) (row:Option Nat):w.grownBy w.drew row:=⟨rfl,rfl,rfl,Nat.le_refl _,fun _ _ _ => rfl⟩
theorem a5h {w w':World} {b B:Nat} (h:w.grownBy w' (some b)) (hB:B ≤ b) (hBs:B ≤ w.heap.size):Below B w w':=⟨h.os,h.tape,h.output,h.size,fun k hk => h.block k (by omega) (fun e => by injection e with e;omega)⟩
def b4v (w:World) (b g cap n:Nat) (W:Nat → Nat → Nat):Prop:=g < w.heap.size ∧ n + 1 ≤ cap ∧ cap ≤ 9223372036854775807 ∧ w.cell? ⟨b,0,none⟩ = some (.slice (some ⟨g,0,none⟩) (n + 1) cap) ∧ (∀ j,j ≤ n → w.rangeAt g (4 * j) (a1o (rk W j))) ∧
    Tb w b 1 box ∧ Tb w b 257 bxb ∧ Tp w b 513 (prt m2) ∧ Tp w b 769 (prt m14)
theorem b4v.cip {w:World} {b g cap n:Nat} {W:Nat → Nat → Nat} (h:b4v w b g cap n W):Cip w b n W:=⟨g,cap,h⟩
theorem b4v.but {w w':World} {b g cap n x:Nat} {W:Nat → Nat → Nat} (h:b4v w b g cap n W) (hg:w.grownBy w' (some x)) (h1:b ≠ x) (h2:g ≠ x):b4v w' b g cap n W:=by
 have hlt:=h.cip.lt
 obtain ⟨a1,a2,a3,a4,a5,a6,a7,a8,a9⟩:=h
 have k1:∀ o,w'.cell? ⟨b,o,none⟩ = w.cell? ⟨b,o,none⟩:=fun o => World.cell?_of_block (w:=w) (a:=⟨b,o,none⟩) (hg.block b hlt (fun e => h1 (by injection e)))
 have k2:∀ o,w'.cell? ⟨g,o,none⟩ = w.cell? ⟨g,o,none⟩:=fun o => World.cell?_of_block (w:=w) (a:=⟨g,o,none⟩) (hg.block g a1 (fun e => h2 (by injection e)))
 exact ⟨Nat.lt_of_lt_of_le a1 hg.size,a2,a3,(k1 0).trans a4,fun j hj k v hv => (k2 _).trans (a5 j hj k v hv),⟨Nat.lt_of_lt_of_le hlt hg.size,fun j hj => (k1 _).trans (a6.2 j hj)⟩,⟨Nat.lt_of_lt_of_le hlt hg.size,fun j hj => (k1 _).trans (a7.2 j hj)⟩,⟨Nat.lt_of_lt_of_le hlt hg.size,fun j hj => (k1 _).trans (a8.2 j hj)⟩,⟨Nat.lt_of_lt_of_le hlt hg.size,fun j hj => (k1 _).trans (a9.2 j hj)⟩⟩
theorem b4v.on {w w':World} {b g cap n:Nat} {W:Nat → Nat → Nat} (h:b4v w b g cap n W) (hb:Below w.heap.size w w'):b4v w' b g cap n W:=by
 have hlt:=h.cip.lt
 obtain ⟨h1,h2,h3,h4,h5,h6,h7,h8,h9⟩:=h
 exact ⟨Nat.lt_of_lt_of_le h1 hb.size,h2,h3,(hb.cell (p:=⟨b,0,none⟩) hlt).trans h4,fun j hj k v hv => (hb.cell (p:=⟨g,4 * j + k,none⟩) h1).trans (h5 j hj k v hv),h6.on hb,h7.on hb,h8.on hb,h9.on hb⟩
theorem Blk.range {w:World} {b:Nat} {T:TypeId} {K:Nat → Nat → Nat} (h:Blk w b T 4 (sqc K)):w.rangeAt b 0 (a1o K):=fun j v hv => by
 have hj:j < 4:=by have:=(List.getElem?_eq_some_iff.1 hv).1;simpa [a1o] using this
 rw [Nat.zero_add,h.cell hj]
 simpa [a1o,hj] using hv
theorem rangeAt.but {w w':World} {b o x:Nat} {cs:List Value} (h:w.rangeAt b o cs) (hg:w.grownBy w' (some x)) (hlt:b < w.heap.size) (hne:b ≠ x):w'.rangeAt b o cs:=fun j v hv =>
 (World.cell?_of_block (w:=w) (a:=⟨b,o + j,none⟩) (hg.block b hlt (fun e => hne (by injection e)))).trans (h j v hv)
theorem a3l (S:Nat → Nat → Nat):(Tryz.prog.info? 164).map (·.size) = some (a1o S).length:=by rw [show (a1o S).length = 4 from by simp [a1o]];exact a6h
theorem a4e (S:Nat → Nat → Nat):(Tryz.prog.info? 164).map (·.size) = some (sqV S).size:=by rw [a1n];exact a6h
theorem b0b (S:Nat → Nat → Nat):(sqV S).all (·.oneCell') = true:=a0l fun _ => rfl
theorem c1o (S T:Nat → Nat → Nat):(a0e 4 (sqc S)).size = (sqV T).size:=by rw [a0b,a1n]
set_option maxHeartbeats 8000000 in
theorem c2l (b n:Nat) (W:Nat → Nat → Nat) (hW:SqB W) (hn:1 ≤ n) (hn2:n ≤ 100) (ba oa c:Nat) (l:List Int) (w:World) (h:Cip w b n W) (hl:l.length = 16) (hA:a0z l) (hb:Bs w w.heap.size (some ⟨ba,oa,none⟩) l) (hc:16 ≤ c) (hcm:c ≤ 9223372036854775807) :
 Calls Tryz.prog 168 #[.pointer (some ⟨b,0,none⟩),.slice (some ⟨ba,oa,none⟩) 16 c] w fun e w' => ∃ a,e = .returned (.tuple #[.slice a 16 16,.int .i64 0]) ∧ w'.ownsRow w.heap.size 5 1 (.slice a 16 16) 16 ((a2i (enc W n (kw l)) 4).map (Value.int .u8)) ∧ Below w.heap.size w w':=by
 have hz:=c8b
 have HSQ:=hJ_ (b8e b n W ba oa c l w h hl hA hb hc hcm)
 have HXB:=hJ_ (b9j hA)
 have HWB:=hJ_ hW
 obtain ⟨g,cap,hca0⟩:=h
 have hcap:=hca0.2
 have hcap1:n + 1 ≤ cap:=hcap.1
 have hcap2:cap ≤ 9223372036854775807:=hcap.2.1
 have HCA0:=hJ_ (show b4v w b g cap n W from hca0)
 obtain ⟨X,hX⟩:∃ X,X = kw l:=⟨_,rfl⟩
 rw [← hX] at HSQ HXB ⊢
 clear hX hl hA hb hca0 hW hcap
 go_enter Tryz.func168,Tryz.ntmps168
 go_upto_region 4 with (first
  | (go_at_call 176;refine HSQ.out.mono ?_;rintro e w1 ⟨rfl,hb1⟩;have HB1:=hJ_ hb1;have HCA1:=hJ_ (HCA0.out.on hb1);clear hb1)
  | ((with_reducible show wpList _ _ _ (⟨none,_,_,_,_,_⟩ :: _) _ _);refine wpList_store_row rfl 164 (.tmp 6) (.tmp 15) rfl w1.heap.size (sqV X) rfl rfl _ _ (heap_alloc_new _ _) (a4e _) (by rw [a1n];exact a0b _ _) (b0b X) ?_))
 obtain ⟨b6,hb6⟩:∃ b,b = w1.heap.size:=⟨_,rfl⟩
 obtain ⟨CW,hCW⟩:∃ C,C = (w1.alloc (.cells b5k 164)).setRow w1.heap.size (sqV X):=⟨_,rfl⟩
 have hal:Below w1.heap.size w1 (w1.alloc (.cells b5k 164)):=(Below.refl _ _).alloc (Nat.le_refl _) _
 have HBC:=hJ_ (show Below w.heap.size w CW by rw [hCW];exact below_setRow (bt HB1.out hal) HB1.out.size _)
 have HCA:=hJ_ (show b4v CW b g cap n W by rw [hCW];exact (HCA1.out.on (below_setRow hal (Nat.le_refl _) _)))
 have HX6:=hJ_ (show Blk CW b6 164 4 (sqc X) by rw [hCW,hb6];exact Blk.row (Blk.made w1 164 4 (fun _ => .int .u32 0)) (sqc X))
 have HB6L:=hJ_ (show b6 < CW.heap.size from HX6.out.lt)
 have HB6W:=hJ_ (show w.heap.size ≤ b6 by rw [hb6];exact HB1.out.size)
 have HNE:=hJ_ (show b ≠ b6 ∧ g ≠ b6 by have:=HCA1.out.cip.lt;have:=HCA1.out.1;rw [hb6];omega)
 rw [← hCW,← hb6]
 clear hb6 hCW hal hz
 have HRO:=hJ_ (fun W' (hW':Cip W' b n W) => a8s b n W W' hW')
 go_upto_region 5 with (go_at_call 149;refine (HRO.out _ HCA.out.cip).mono ?_;rintro e w' ⟨rfl,rfl⟩)
 go_wp2_with fail
 refine wp_region_held_drew (S:=fun W => CW.grownBy W (some b6)) (by kernel_rfl) (a3s _ _) (fun hHeld => ?_)
 refine tk 1 ⟨some 23,Op.move (Operand.tmp 0),133,"cipher.go:205",#[],none⟩ hHeld ?_
 try simp only [Act.put,p1',p2',p3']
 refine tk 2 ⟨some 24,Op.nilCheck (Operand.tmp 23),0,"cipher.go:205",#[{ on:=1,ground:=Ground.data }],none⟩ hHeld ?_
 try simp only [Act.put,p1',p2',p3']
 refine tk 3 ⟨some 25,Op.fieldAddr 155 (Operand.tmp 24) 0,0,"cipher.go:205",#[{ on:=2,ground:=Ground.data }],none⟩ hHeld ?_
 try simp only [Act.put,p1',p2',p3']
 refine tk 4 ⟨some 26,Op.load 153 (Operand.tmp 25),153,"cipher.go:205",#[{ on:=3,ground:=Ground.data }],none⟩ hHeld ?rest4a4 (v:=?v4a4) (hy:=?hy4a4)
 case hy4a4 =>
  intro W' hV
  try dsimp only at hV
  have hca:=(HCA.out.but hV HNE.out.1 HNE.out.2).2.2.2.1
  go_simp
  all_goals with_reducible rfl
 case' rest4a4 => try simp only [Act.put,p1',p2',p3']
 refine tk 5 ⟨some 27,Op.indexAddr 153 (Operand.tmp 26) (Operand.const (Value.int IntKind.i64 0)),0,"cipher.go:205",#[{ on:=4,ground:=Ground.data }],none⟩ hHeld ?_
 try simp only [Act.put,p1',p2',p3']
 refine wpAnyH_take (i:=6) (oi:=⟨some 28,Op.load 164 (Operand.tmp 27),164,"cipher.go:205",#[{ on:=5,ground:=Ground.data }],none⟩) (v:=.agg (a1o (rk W 0)).toArray) rfl (by kernel_rfl) (by kernel_rfl) (by kernel_rfl) (fun _ _ _ h => h) (yieldsIf_load_mid (by rfl) 164 (.tmp 27) rfl g 0 (by rfl) (a1o (rk W 0)) _ (fun W hS => (HCA.out.but hS HNE.out.1 HNE.out.2).2.2.2.2.1 0 (by omega)) Tryz.underlying164 rfl (a3l _)) hHeld ?rest6a6
 case' rest6a6 => try simp only [Act.put,p1',p2',p3']
 refine wpAnyH_ready (rs:=[0]) (by kernel_rfl) (by simp) ?_
 refine AllReadyH.cons (o:=⟨some 22,Op.load 164 (Operand.tmp 6),164,"cipher.go:205",#[],none⟩) rfl (fun K' hK => ?_) AllReadyH.nil
 rw [if_pos (by rfl)]
 refine wp_load_row 164 (.tmp 6) rfl b6 (by rfl) _ (sqV X) _ _ HX6.out Tryz.underlying164 rfl (a4e X) ?_
 refine hK.out _ _ hHeld (fun hHeld1 => ?_)
 clear hK K' hHeld
 have hHeld:=hHeld1
 clear hHeld1
 try simp only [Act.put,p1',p2',p3']
 refine wpAnyH_ready (rs:=[7]) (by kernel_rfl) (by simp) ?_
 refine AllReadyH.cons (o:=⟨some 29,Op.call { callee:=Callee.value (Operand.func 177),args:=#[Operand.tmp 22,Operand.tmp 28],argTypes:=#[164,164] },164,"cipher.go:205",#[{ on:=0,ground:=Ground.data },{ on:=6,ground:=Ground.data }],none⟩) rfl (fun K' hK => ?_) AllReadyH.nil
 rw [if_pos (by rfl)]
 go_simp
 go_wp2_with (go_at_call 177;refine (a8g X (rk W 0) HXB.out (HWB.out.rk 0) _).mono ?_;rintro e w4 ⟨rfl,hb4⟩)
 have hg4:CW.grownBy w4 (some b6):=hHeld.trans (a1k hb4 _)
 have HG4:=hJ_ hg4
 have HX4:=hJ_ (show Blk w4 b6 164 4 (sqc X) from Blk.on (w:=CW.drew) HX6.out hb4 HB6L.out)
 clear hb4 hg4
 refine hK.out _ _ HG4.out (fun hHeld1 => ?_)
 clear hK K' hHeld
 have hHeld:=hHeld1
 clear hHeld1
 try simp only [Act.put,p1',p2',p3']
 refine wpAnyH_ready (rs:=[8]) (by kernel_rfl) (by simp) ?_
 refine AllReadyH.cons (o:=⟨none,Op.store 164 (Operand.tmp 6) (Operand.tmp 29),0,"cipher.go:205",#[{ on:=7,ground:=Ground.data },{ on:=7,ground:=Ground.chain },{ on:=0,ground:=Ground.phase },{ on:=1,ground:=Ground.phase },{ on:=2,ground:=Ground.phase },{ on:=3,ground:=Ground.phase },{ on:=4,ground:=Ground.phase },{ on:=5,ground:=Ground.phase },{ on:=6,ground:=Ground.phase },{ on:=7,ground:=Ground.phase }],none⟩) rfl (fun K' hK => ?_) AllReadyH.nil
 rw [if_pos (by rfl)]
 refine wp_store_row 164 (.tmp 6) (.tmp 29) rfl b6 (sqV (adds X (rk W 0))) (by rfl) (by rfl) _ _ HX4.out (a4e _) (c1o _ _) (b0b _) ?_
 refine hK.out _ _ (HG4.out.trans (a3e w4 b6 _)) (fun hHeld1 => ?_)
 clear hK K' hHeld
 have hHeld:=hHeld1
 clear hHeld1
 try simp only [Act.put,p1',p2',p3']
 refine wpAnyH_done (by kernel_rfl) ?_ _
 clear hHeld
 obtain ⟨C5,hC5⟩:∃ C,C = w4.setRow b6 (sqV (adds X (rk W 0))):=⟨_,rfl⟩
 have HG5:=hJ_ (show CW.grownBy C5 (some b6) by rw [hC5];exact HG4.out.trans (a3e w4 b6 _))
 have HX5:=hJ_ (show Blk C5 b6 164 4 (sqc (encR W X 0)) by rw [hC5];exact HX4.out.row _)
 rw [← hC5]
 have hca5:=(HCA.out.but HG5.out HNE.out.1 HNE.out.2).2.2.2.1
 have qn1:(1:Int) ≤ (n:Int):=by omega
 have qn2:(n:Int) ≤ (cap:Int):=by omega
 have qn3:(cap:Int) ≤ 9223372036854775807:=by omega
 clear hC5 HX6 HX4 HG4
 go_wp2_with fail
 clear hca5
 go_loopw [37] (fun q wr => ∃ i:Nat,i ≤ n - 1 ∧ q = .int .i64 (i:Nat) ∧ CW.grownBy wr (some b6) ∧ Blk wr b6 164 4 (sqc (encR W X i))) (fun q _ => (n - 1) - (intOf q).toNat)
 case atStart => exact ⟨0,Nat.zero_le _,rfl,HG5.out,HX5.out⟩
 case round =>
  obtain ⟨i,hi,rfl,hg,hx⟩:=hrel
  have HG:=hJ_ hg
  have HX:=hJ_ hx
  clear hg hx HG5 HX5
  rename World => wr
  by_cases hlt:i < n - 1
  ·have qi:(i:Int) < (n:Int) - 1:=by omega
   have qi0:(0:Int) ≤ (i:Int):=by omega
   have hz:=c8b
   have hE:=b8x HWB.out HXB.out i
   have HRNG:=hJ_ (show wr.rangeAt g (4 + i * 4) (a1o (rk W (i + 1))) by
    have h:=(HCA.out.but HG.out HNE.out.1 HNE.out.2).2.2.2.2.1 (i + 1) (by omega)
    rw [show 4 * (i + 1) = 4 + i * 4 by omega] at h
    exact h)
   obtain ⟨E,hEE⟩:∃ E,E = encR W X i:=⟨_,rfl⟩
   rw [← hEE] at HX hE
   have HEB:=hJ_ hE
   have HEE:=hJ_ hEE
   clear hE hEE
   go_wp2_with (first
    | ((with_reducible show wpList _ _ _ (⟨some 40,_,_,_,_,_⟩ :: _) _ _);refine wpList_load_mid rfl 164 (.tmp 39) rfl g (4 + i * 4) rfl (a1o (rk W (i + 1))) _ HRNG.out Tryz.underlying164 rfl (a3l _) ?_)
    | ((with_reducible show wpList _ _ _ (⟨none,_,_,_,_,_⟩ :: _) _ _);refine wpList_store_row rfl 164 (.tmp 10) (.tmp 40) rfl wr.heap.size (sqV (rk W (i + 1))) rfl rfl _ _ (heap_alloc_new _ _) (a4e _) (by rw [a1n];exact a0b _ _) (b0b _) ?_))
   obtain ⟨b10,hb10⟩:∃ b,b = wr.heap.size:=⟨_,rfl⟩
   obtain ⟨V9,hV9⟩:∃ C,C = (wr.alloc (.cells b5k 164)).setRow wr.heap.size (sqV (rk W (i + 1))):=⟨_,rfl⟩
   have hbv:Below wr.heap.size wr V9:=by rw [hV9];exact below_setRow ((Below.refl _ _).alloc (Nat.le_refl _) _) (Nat.le_refl _) _
   have HGV:=hJ_ (HG.out.trans (a1k hbv _))
   have HXV:=hJ_ (HX.out.on hbv HX.out.lt)
   have HCV:=hJ_ (HCA.out.but HGV.out HNE.out.1 HNE.out.2)
   have HNB:=hJ_ (show b10 ≠ b6 by have:=HX.out.lt;rw [hb10];omega)
   have HKV:=hJ_ (show Blk V9 b10 164 4 (sqc (rk W (i + 1))) by rw [hV9,hb10];exact Blk.row (Blk.made wr 164 4 (fun _ => .int .u32 0)) _)
   rw [← hV9,← hb10]
   clear hV9 hb10 hbv hz
   refine wp_region_held_drew (S:=fun W => V9.grownBy W (some b6)) (by kernel_rfl) (a3s _ _) (fun hHeld => ?_)
   refine tk 1 ⟨some 42,Op.move (Operand.tmp 0),133,"cipher.go:207",#[],none⟩ hHeld ?_
   try simp only [Act.put,p1',p2',p3']
   refine tk 2 ⟨some 43,Op.nilCheck (Operand.tmp 42),0,"cipher.go:207",#[{ on:=1,ground:=Ground.data }],none⟩ hHeld ?_
   try simp only [Act.put,p1',p2',p3']
   refine tk 3 ⟨some 44,Op.fieldAddr 155 (Operand.tmp 43) 1,0,"cipher.go:207",#[{ on:=2,ground:=Ground.data }],none⟩ hHeld ?_
   try simp only [Act.put,p1',p2',p3']
   refine tk 5 ⟨some 46,Op.move (Operand.tmp 0),133,"cipher.go:207",#[],none⟩ hHeld ?_
   try simp only [Act.put,p1',p2',p3']
   refine tk 6 ⟨some 47,Op.nilCheck (Operand.tmp 46),0,"cipher.go:207",#[{ on:=5,ground:=Ground.data }],none⟩ hHeld ?_
   try simp only [Act.put,p1',p2',p3']
   refine tk 7 ⟨some 48,Op.fieldAddr 155 (Operand.tmp 47) 3,0,"cipher.go:207",#[{ on:=6,ground:=Ground.data }],none⟩ hHeld ?_
   try simp only [Act.put,p1',p2',p3']
   refine wpAnyH_take (i:=9) (oi:=⟨some 50,Op.load 164 (Operand.tmp 10),164,"cipher.go:207",#[],none⟩) (v:=.agg (a1o (rk W (i + 1))).toArray) rfl (by kernel_rfl) (by kernel_rfl) (by kernel_rfl) (fun _ _ _ h => h) (yieldsIf_load_mid (by rfl) 164 (.tmp 10) rfl b10 0 (by rfl) (a1o (rk W (i + 1))) _ (fun W hS => rangeAt.but HKV.out.range hS HKV.out.lt HNB.out) Tryz.underlying164 rfl (a3l _)) hHeld ?rest9b7
   case' rest9b7 => try simp only [Act.put,p1',p2',p3']
   refine wpAnyH_ready (rs:=[0]) (by kernel_rfl) (by simp) ?_
   refine AllReadyH.cons (o:=⟨some 41,Op.load 164 (Operand.tmp 6),164,"cipher.go:207",#[],none⟩) rfl (fun K' hK => ?_) AllReadyH.nil
   rw [if_pos (by rfl)]
   refine wp_load_row 164 (.tmp 6) rfl b6 (by rfl) _ (sqV E) _ _ HXV.out Tryz.underlying164 rfl (a4e E) ?_
   refine hK.out _ _ hHeld (fun hHeld1 => ?_)
   clear hK K' hHeld
   have hHeld:=hHeld1
   clear hHeld1
   try simp only [Act.put,p1',p2',p3']
   refine wpAnyH_ready (rs:=[4]) (by kernel_rfl) (by simp) ?_
   refine AllReadyH.cons (o:=⟨some 45,Op.call { callee:=Callee.value (Operand.func 178),args:=#[Operand.tmp 41,Operand.tmp 44,Operand.const (Value.int IntKind.i64 1)],argTypes:=#[164,162,3] },164,"cipher.go:207",#[{ on:=0,ground:=Ground.data },{ on:=3,ground:=Ground.data }],none⟩) rfl (fun K' hK => ?_) AllReadyH.nil
   rw [if_pos (by rfl)]
   go_simp
   go_wp2_with (go_at_call 178;refine (a7r E HEB.out b 1 box a2t 1 1 (.inl ⟨rfl,rfl⟩) _ (HCV.out.but hHeld HNE.out.1 HNE.out.2).2.2.2.2.2.1).mono ?_;rintro e w45 ⟨rfl,hb⟩)
   have hg:V9.grownBy w45 (some b6):=hHeld.trans (a1k hb _)
   have HG45:=hJ_ hg
   have HX45:=hJ_ (show Blk w45 b6 164 4 (sqc E) from Blk.on (w:=V9.drew) HXV.out hb HXV.out.lt)
   clear hb hg
   refine hK.out _ _ HG45.out (fun hHeld1 => ?_)
   clear hK K' hHeld
   have hHeld:=hHeld1
   clear hHeld1
   try simp only [Act.put,p1',p2',p3']
   refine wpAnyH_ready (rs:=[8]) (by kernel_rfl) (by simp) ?_
   refine AllReadyH.cons (o:=⟨some 49,Op.call { callee:=Callee.value (Operand.func 179),args:=#[Operand.tmp 45,Operand.tmp 48],argTypes:=#[164,212] },164,"cipher.go:207",#[{ on:=4,ground:=Ground.data },{ on:=7,ground:=Ground.data },{ on:=4,ground:=Ground.chain }],none⟩) rfl (fun K' hK => ?_) AllReadyH.nil
   rw [if_pos (by rfl)]
   go_simp
   go_wp2_with (go_at_call 179;refine (b9g (thr box 1 E) (SqB.thr a2t _ _) b 513 m2 _ (HCV.out.but hHeld HNE.out.1 HNE.out.2).2.2.2.2.2.2.2.1).mono ?_;rintro e w49 ⟨rfl,hb⟩)
   have hg:V9.grownBy w49 (some b6):=hHeld.trans (a1k hb _)
   have HG49:=hJ_ hg
   have HX49:=hJ_ (show Blk w49 b6 164 4 (sqc E) from HX45.out.on hb HX45.out.lt)
   clear hb hg
   refine hK.out _ _ HG49.out (fun hHeld1 => ?_)
   clear hK K' hHeld
   have hHeld:=hHeld1
   clear hHeld1
   try simp only [Act.put,p1',p2',p3']
   refine wpAnyH_ready (rs:=[10]) (by kernel_rfl) (by simp) ?_
   refine AllReadyH.cons (o:=⟨some 51,Op.call { callee:=Callee.value (Operand.func 177),args:=#[Operand.tmp 49,Operand.tmp 50],argTypes:=#[164,164] },164,"cipher.go:207",#[{ on:=8,ground:=Ground.data },{ on:=9,ground:=Ground.data },{ on:=8,ground:=Ground.chain }],none⟩) rfl (fun K' hK => ?_) AllReadyH.nil
   rw [if_pos (by rfl)]
   go_simp
   go_wp2_with (go_at_call 177;refine (a8g (mix m2 (thr box 1 E)) (rk W (i + 1)) (SqB.mix _ _) (HWB.out.rk _) _).mono ?_;rintro e w51 ⟨rfl,hb⟩)
   have hg:V9.grownBy w51 (some b6):=hHeld.trans (a1k hb _)
   have HG51:=hJ_ hg
   have HX51:=hJ_ (show Blk w51 b6 164 4 (sqc E) from HX49.out.on hb HX49.out.lt)
   clear hb hg
   refine hK.out _ _ HG51.out (fun hHeld1 => ?_)
   clear hK K' hHeld
   have hHeld:=hHeld1
   clear hHeld1
   try simp only [Act.put,p1',p2',p3']
   refine wpAnyH_ready (rs:=[11]) (by kernel_rfl) (by simp) ?_
   refine AllReadyH.cons (o:=⟨none,Op.store 164 (Operand.tmp 6) (Operand.tmp 51),0,"cipher.go:207",#[{ on:=10,ground:=Ground.data },{ on:=10,ground:=Ground.chain },{ on:=0,ground:=Ground.phase },{ on:=1,ground:=Ground.phase },{ on:=2,ground:=Ground.phase },{ on:=3,ground:=Ground.phase },{ on:=4,ground:=Ground.phase },{ on:=5,ground:=Ground.phase },{ on:=6,ground:=Ground.phase },{ on:=7,ground:=Ground.phase },{ on:=8,ground:=Ground.phase },{ on:=9,ground:=Ground.phase },{ on:=10,ground:=Ground.phase }],none⟩) rfl (fun K' hK => ?_) AllReadyH.nil
   rw [if_pos (by rfl)]
   refine wp_store_row 164 (.tmp 6) (.tmp 51) rfl b6 (sqV (adds (mix m2 (thr box 1 E)) (rk W (i + 1)))) (by rfl) (by rfl) _ _ HX51.out (a4e _) (c1o _ _) (b0b _) ?_
   refine hK.out _ _ (HG51.out.trans (a3e w51 b6 _)) (fun hHeld1 => ?_)
   clear hK K' hHeld
   have hHeld:=hHeld1
   clear hHeld1
   try simp only [Act.put,p1',p2',p3']
   refine wpAnyH_done (by kernel_rfl) ?_ _
   clear hHeld
   go_wp2
   go_roundw
   case rel => exact ⟨i + 1,by omega,by go_num,HGV.out.trans (HG51.out.trans (a3e w51 b6 _)),by rw [encR,← HEE.out];exact HX51.out.row _⟩
   case measure => simp [intOf];omega
  ·obtain rfl:i = n - 1:=by omega
   have HE0:=hJ_ (b8x HWB.out HXB.out (n - 1))
   have HEN:=hJ_ (show enc W n X = adds (thr box 1 (encR W X (n - 1))) (rk W n) from rfl)
   obtain ⟨E,hEE⟩:∃ E,E = encR W X (n - 1):=⟨_,rfl⟩
   rw [← hEE] at HX HE0 HEN
   have HBW:=hJ_ (show Below w.heap.size w wr from HBC.out.trans (a5h HG.out HB6W.out HBC.out.size))
   have HCR:=hJ_ (HCA.out.but HG.out HNE.out.1 HNE.out.2)
   have HRNG:=hJ_ (show wr.rangeAt g (n * 4) (a1o (rk W n)) by
    have h:=HCR.out.2.2.2.2.1 n (Nat.le_refl _)
    rw [show 4 * n = n * 4 by omega] at h
    exact h)
   have qn4:(n:Int) < (n:Int) + 1:=by omega
   have qn5:(0:Int) ≤ (n:Int):=by omega
   clear hEE
   go_wp2_with fail
   refine wp_region_held_drew (S:=fun W => Below wr.heap.size wr W) (by kernel_rfl) (Below.refl _ _).drew (fun hHeld => ?_)
   refine tk 1 ⟨some 54,Op.move (Operand.tmp 0),133,"cipher.go:209",#[],none⟩ hHeld ?_
   try simp only [Act.put,p1',p2',p3']
   refine tk 2 ⟨some 55,Op.nilCheck (Operand.tmp 54),0,"cipher.go:209",#[{ on:=1,ground:=Ground.data }],none⟩ hHeld ?_
   try simp only [Act.put,p1',p2',p3']
   refine tk 3 ⟨some 56,Op.fieldAddr 155 (Operand.tmp 55) 1,0,"cipher.go:209",#[{ on:=2,ground:=Ground.data }],none⟩ hHeld ?_
   try simp only [Act.put,p1',p2',p3']
   refine tk 5 ⟨some 58,Op.move (Operand.tmp 0),133,"cipher.go:209",#[],none⟩ hHeld ?_
   try simp only [Act.put,p1',p2',p3']
   refine tk 6 ⟨some 59,Op.nilCheck (Operand.tmp 58),0,"cipher.go:209",#[{ on:=5,ground:=Ground.data }],none⟩ hHeld ?_
   try simp only [Act.put,p1',p2',p3']
   refine tk 7 ⟨some 60,Op.fieldAddr 155 (Operand.tmp 59) 0,0,"cipher.go:209",#[{ on:=6,ground:=Ground.data }],none⟩ hHeld ?_
   try simp only [Act.put,p1',p2',p3']
   refine tk 8 ⟨some 61,Op.load 153 (Operand.tmp 60),153,"cipher.go:209",#[{ on:=7,ground:=Ground.data }],none⟩ hHeld ?rest8c7 (v:=?v8c7) (hy:=?hy8c7)
   case hy8c7 =>
    intro W' hV
    try dsimp only at hV
    have hca:=(HCR.out.on hV).2.2.2.1
    go_simp
    all_goals with_reducible rfl
   case' rest8c7 => try simp only [Act.put,p1',p2',p3']
   refine tk 9 ⟨some 62,Op.move (Operand.tmp 8),3,"cipher.go:209",#[],none⟩ hHeld ?_
   try simp only [Act.put,p1',p2',p3']
   refine tk 10 ⟨some 63,Op.indexAddr 153 (Operand.tmp 61) (Operand.tmp 62),0,"cipher.go:209",#[{ on:=8,ground:=Ground.data },{ on:=9,ground:=Ground.data }],none⟩ hHeld ?_
   try simp only [Act.put,p1',p2',p3']
   refine wpAnyH_take (i:=11) (oi:=⟨some 64,Op.load 164 (Operand.tmp 63),164,"cipher.go:209",#[{ on:=10,ground:=Ground.data }],none⟩) (v:=.agg (a1o (rk W n)).toArray) rfl (by kernel_rfl) (by kernel_rfl) (by kernel_rfl) (fun _ _ _ h => h) (yieldsIf_load_mid (by rfl) 164 (.tmp 63) rfl g (n * 4) (by rfl) (a1o (rk W n)) _ (fun W hS j v hv => (hS.cell (p:=⟨g,n * 4 + j,none⟩) HCR.out.1).trans (HRNG.out j v hv)) Tryz.underlying164 rfl (a3l _)) hHeld ?rest11c10
   case' rest11c10 => try simp only [Act.put,p1',p2',p3']
   refine wpAnyH_take (i:=0) (oi:=⟨some 53,Op.load 164 (Operand.tmp 6),164,"cipher.go:209",#[],none⟩) (v:=.agg (a1o E).toArray) rfl (by kernel_rfl) (by kernel_rfl) (by kernel_rfl) (fun _ _ _ h => h) (yieldsIf_load_mid (by rfl) 164 (.tmp 6) rfl b6 0 (by rfl) (a1o E) _ (fun W hS => (HX.out.on hS HX.out.lt).range) Tryz.underlying164 rfl (a3l _)) hHeld ?rest0c11
   case' rest0c11 => try simp only [Act.put,p1',p2',p3']
   refine wpAnyH_ready (rs:=[4]) (by kernel_rfl) (by simp) ?_
   refine AllReadyH.cons (o:=⟨some 57,Op.call { callee:=Callee.value (Operand.func 178),args:=#[Operand.tmp 53,Operand.tmp 56,Operand.const (Value.int IntKind.i64 1)],argTypes:=#[164,162,3] },164,"cipher.go:209",#[{ on:=0,ground:=Ground.data },{ on:=3,ground:=Ground.data }],none⟩) rfl (fun K' hK => ?_) AllReadyH.nil
   rw [if_pos (by rfl)]
   go_simp
   go_wp2_with (go_at_call 178;refine (a7r E HE0.out b 1 box a2t 1 1 (.inl ⟨rfl,rfl⟩) _ (HCR.out.on hHeld).2.2.2.2.2.1).mono ?_;rintro e w57 ⟨rfl,hb⟩)
   have hg:Below wr.heap.size wr w57:=bt hHeld hb
   have HB57:=hJ_ hg
   clear hb hg
   refine hK.out _ _ HB57.out (fun hHeld1 => ?_)
   clear hK K' hHeld
   have hHeld:=hHeld1
   clear hHeld1
   try simp only [Act.put,p1',p2',p3']
   refine wpAnyH_ready (rs:=[12]) (by kernel_rfl) (by simp) ?_
   refine AllReadyH.cons (o:=⟨some 65,Op.call { callee:=Callee.value (Operand.func 177),args:=#[Operand.tmp 57,Operand.tmp 64],argTypes:=#[164,164] },164,"cipher.go:209",#[{ on:=4,ground:=Ground.data },{ on:=11,ground:=Ground.data },{ on:=4,ground:=Ground.chain }],none⟩) rfl (fun K' hK => ?_) AllReadyH.nil
   rw [if_pos (by rfl)]
   go_simp
   go_wp2_with (go_at_call 177;refine (a8g (thr box 1 E) (rk W n) (SqB.thr a2t _ _) (HWB.out.rk _) _).mono ?_;rintro e w65 ⟨rfl,hb⟩)
   have hg:Below wr.heap.size wr w65:=bt hHeld hb
   have HB65:=hJ_ hg
   clear hb hg
   refine hK.out _ _ HB65.out (fun hHeld1 => ?_)
   clear hK K' hHeld
   have hHeld:=hHeld1
   clear hHeld1
   try simp only [Act.put,p1',p2',p3']
   refine wpAnyH_ready (rs:=[13]) (by kernel_rfl) (by simp) ?_
   refine AllReadyH.cons (o:=⟨some 66,Op.call { callee:=Callee.value (Operand.func 180),args:=#[Operand.tmp 65],argTypes:=#[164] },22,"cipher.go:209",#[{ on:=12,ground:=Ground.data },{ on:=12,ground:=Ground.chain }],none⟩) rfl (fun K' hK => ?_) AllReadyH.nil
   rw [if_pos (by rfl)]
   go_simp
   go_wp2_with (go_at_call 180;refine (c5d (adds (thr box 1 E) (rk W n)) ((SqB.thr a2t _ _).adds (HWB.out.rk _)) _).mono ?_;rintro e w66 ⟨a66,rfl,ho,hb⟩)
   have hg:Below wr.heap.size wr w66:=bt hHeld hb
   have HB66:=hJ_ hg
   have HO66:=hJ_ ho
   clear ho
   clear hb hg
   refine hK.out _ _ HB66.out (fun hHeld1 => ?_)
   clear hK K' hHeld
   have hHeld:=hHeld1
   clear hHeld1
   try simp only [Act.put,p1',p2',p3']
   refine tk 14 ⟨some 4,Op.assign (Operand.tmp 66),22,"cipher.go:209",#[{ on:=13,ground:=Ground.data },{ on:=13,ground:=Ground.chain },{ on:=0,ground:=Ground.phase },{ on:=1,ground:=Ground.phase },{ on:=2,ground:=Ground.phase },{ on:=3,ground:=Ground.phase },{ on:=4,ground:=Ground.phase },{ on:=5,ground:=Ground.phase },{ on:=6,ground:=Ground.phase },{ on:=7,ground:=Ground.phase },{ on:=8,ground:=Ground.phase },{ on:=9,ground:=Ground.phase },{ on:=10,ground:=Ground.phase },{ on:=11,ground:=Ground.phase },{ on:=12,ground:=Ground.phase },{ on:=13,ground:=Ground.phase }],none⟩ hHeld ?_
   try simp only [Act.put,p1',p2',p3']
   refine tk 15 ⟨some 5,Op.assign (Operand.const (Value.int IntKind.i64 0)),29,"cipher.go:209",#[{ on:=14,ground:=Ground.chain },{ on:=0,ground:=Ground.phase },{ on:=1,ground:=Ground.phase },{ on:=2,ground:=Ground.phase },{ on:=3,ground:=Ground.phase },{ on:=4,ground:=Ground.phase },{ on:=5,ground:=Ground.phase },{ on:=6,ground:=Ground.phase },{ on:=7,ground:=Ground.phase },{ on:=8,ground:=Ground.phase },{ on:=9,ground:=Ground.phase },{ on:=10,ground:=Ground.phase },{ on:=11,ground:=Ground.phase },{ on:=12,ground:=Ground.phase },{ on:=13,ground:=Ground.phase },{ on:=14,ground:=Ground.phase }],none⟩ hHeld ?_
   try simp only [Act.put,p1',p2',p3']
   refine wpAnyH_done (by kernel_rfl) ?_ _
   clear hHeld
   go_wp2
   go_ret2
   exact ⟨_,rfl,by rw [HEN.out];exact a5q HO66.out (Nat.le_trans HBW.out.size HB65.out.size),bt HBW.out HB66.out⟩
end
end Go.Proofs.YtappfdbmhgifcaaGreatDoor
namespace Go.Proofs.YtappfdbmhgifcaaGreatDoor
open Go.ChangeShapes Go.WideShapes Go.ChangeAt Go.RowKit Go.Shelf
section
attribute [local go_sem] Oper.semAt_some
def qRd (Bx g o len cap:Nat) (K:Nat → Nat → Nat → Nat) (W:World):Prop:=
 W.cell? ⟨Bx,0,none⟩ = some (.slice (some ⟨g,o,none⟩) len cap) ∧ ∀ j,j < len → W.rangeAt g (o + j * 4) (a1o (K j))
def qBk (len:Nat) (pre:List (Fin len)):Prop:=pre.length ≤ len ∧ ∀ k (h:k < pre.length),(pre[k]).1 = len - 1 - k
theorem qBk.nil (len:Nat):qBk len []:=⟨Nat.zero_le _,fun k h => by simp at h⟩
theorem qBk.snoc {len:Nat} {pre:List (Fin len)} (h:qBk len pre) (x:Fin len) (hl:pre.length < len) (hx:x.1 = len - 1 - pre.length):qBk len (pre ++ [x]):=by
 refine ⟨by simp;omega,fun k hk => ?_⟩
 by_cases e:k < pre.length
 ·rw [List.getElem_append_left e];exact h.2 k e
 ·have e2:k = pre.length:=by simp at hk;omega
  subst e2
  rw [List.getElem_append_right (Nat.le_refl _)]
  simp only [Nat.sub_self,List.getElem_cons_zero]
  exact hx
theorem qRd.on {W W':World} {Bx g o len cap:Nat} {K:Nat → Nat → Nat → Nat} (h:qRd Bx g o len cap K W) {B:Nat} (hb:Below B W W') (h1:Bx < B) (h2:g < B):qRd Bx g o len cap K W':=
 ⟨(hb.cell (p:=⟨Bx,0,none⟩) h1).trans h.1,fun j hj k v hv => (hb.cell (p:=⟨g,o + j * 4 + k,none⟩) h2).trans (h.2 j hj k v hv)⟩
end
end Go.Proofs.YtappfdbmhgifcaaGreatDoor
namespace Go.Proofs.YtappfdbmhgifcaaGreatDoor
open Go.RowKit
section
section
variable {P:Program} {ops:Array Oper} {Q:Exit → Act → World → Prop} {md:Region.Mode} {l n:Nat}
theorem c3g {i:Nat} {K K':Act → World → Prop} {a:Act} {w:World} (hnd:∀ (i:Nat) (o:Oper),ops[i]? = some o → ∀ c,o.op ≠ .defer c) (hno:¬ LetsOut Q) (hK:∀ a w,K a w → K' a w)
 (h:wpOp P ops Q i K a w):wpOpIn (Fence.wide.inRound l) n P ops Q i K' a w:=by
 unfold wpOp at h
 unfold wpOpIn
 cases ho:ops[i]? with
 | none => simp only [ho] at h ⊢;exact hK _ _ h
 | some o =>
  simp only [ho] at h ⊢
  split
  ·rename_i hw
   rw [if_pos hw] at h
   rcases h with h | ⟨_,h⟩
   ·refine ⟨fun _ _ => trivial,?_⟩
    rw [show (Fence.wide.inRound l).round = some l from rfl,Oper.semAt_some l _ _ (hnd i o ho)]
    unfold Oper.wp at h
    generalize (execOp a.eval o).run P w = r at *
    cases r with
    | ok x w' =>
     cases x with
     | value v => exact hK _ _ h
     | skip => exact hK _ _ h
     | defer d => exact hK _ _ h
     | enter f args =>
      refine ⟨(fun h0 => by cases h0),CallsIn.inRound l (callsIn_wide.2 (Calls.mono h fun e w'' he => ?_))⟩
      cases e with
      | returned v => exact hK _ _ he
      | panicked c => exact he
      | outgrown => exact he
     | row row args =>
      refine ⟨(fun h0 => by cases h0),fun c cs _ => ?_⟩
      obtain ⟨v,w'',r,s⟩:=h c cs
      exact ⟨v,w'',hK _ _ r,stepsIn_wide.2 s⟩
     | _ => exact h.elim
    | halt x w' =>
     cases x with
     | panic v => exact h
     | _ => exact h.elim
   ·exact absurd h hno
  ·rename_i hw
   rw [if_neg hw] at h
   exact ⟨fun _ _ => trivial,hK _ _ h⟩
theorem a9k (hnd:∀ (i:Nat) (o:Oper),ops[i]? = some o → ∀ c,o.op ≠ .defer c) (hno:¬ LetsOut Q):∀ (fuel:Nat) (listed:Array Bool) (a:Act) (w:World),
 wpAny P md ops Q fuel listed a w → wpAnyIn (Fence.wide.inRound l) n P md ops Q fuel listed a w
 | 0,_,_,_,h => h
 | fuel + 1,_,_,_,h => ⟨h.1,fun i hi => c3g hnd hno (fun a' w' h' => a9k hnd hno fuel _ a' w' h') (h.2 i hi)⟩
def c9l (ops:Array Oper):Bool:=ops.all fun o => match o.op with | .defer _ => false | _ => true
theorem b7i (h:c9l ops = true):∀ (i:Nat) (o:Oper),ops[i]? = some o → ∀ c,o.op ≠ .defer c:=fun i o ho c e => by
 have:=Array.all_eq_true'.1 h o (Array.mem_of_getElem? ho)
 rw [e] at this
 cases this
theorem a6o {id:Nat} {a:Act} {w:World} (S:World → Prop) (hm:P.follows .mixedOrders = true) (hnd:c9l ops = true) (hno:¬ LetsOut Q)
 (h:wpAnyH P .any ops Q S ops.size (Array.replicate ops.size false) a w.drew):(Code.region id ops true).wpIn (Fence.wide.inRound l) n P Q a w:=
 wpIn_region_any hm (a9k (b7i hnd) hno _ _ _ _ (wpAny_of_held _ _ _ _ h))
end
def d1z (K:Act → World → Prop):Exit → Act → World → Prop
 | .normal,a,w => K a w
 | _,_,_ => False
theorem b3u {P:Program} {c:Code} {Q:Exit → Act → World → Prop} {a:Act} {w:World} (h:c.wp P (d1z (Q .normal)) a w):c.wp P Q a w:=
 wp_mono h (fun e a w h => by cases e <;> first | exact h | exact h.elim)
end
end Go.Proofs.YtappfdbmhgifcaaGreatDoor
namespace Go.Proofs.YtappfdbmhgifcaaGreatDoor
open Go.ChangeShapes Go.WideShapes Go.ChangeAt Go.RowKit Go.Shelf
section
attribute [local go_sem] Oper.semAt_some
attribute [local go_sem ↓] Go.wp_at_zero Go.wp_at_succ
theorem Blk.noncell {w w':World} {b:Nat} {T:TypeId} {n:Nat} {g:Nat → Value} {row:Option Nat} (h:Blk w b T n g) (hg:w.grownBy w' row) (hr:∀ r,row = some r → ∃ o:Obj,w.heap[r]? = some o ∧ o.isCells = false):Blk w' b T n g:=by
 unfold Blk
 rw [hg.block b h.lt (fun e => by
  obtain ⟨o,ho,hc⟩:=hr b e.symm
  unfold Blk at h
  rw [h] at ho
  injection ho with ho
  rw [← ho] at hc
  cases hc)]
 exact h
theorem b4v.noncell {w w':World} {b g cap n:Nat} {W:Nat → Nat → Nat} {row:Option Nat} (h:b4v w b g cap n W) (hg:w.grownBy w' row) (hr:∀ r,row = some r → ∃ o:Obj,w.heap[r]? = some o ∧ o.isCells = false):b4v w' b g cap n W:=by
 have hlt:=h.cip.lt
 obtain ⟨a1,a2,a3,a4,a5,a6,a7,a8,a9⟩:=h
 have hl2:=Nat.lt_of_lt_of_le hlt hg.size
 exact ⟨Nat.lt_of_lt_of_le a1 hg.size,a2,a3,cell_kept a4 hg hr,fun j hj k v hv => cell_kept (a5 j hj k v hv) hg hr,⟨hl2,fun j hj => cell_kept (a6.2 j hj) hg hr⟩,⟨hl2,fun j hj => cell_kept (a7.2 j hj) hg hr⟩,⟨hl2,fun j hj => cell_kept (a8.2 j hj) hg hr⟩,⟨hl2,fun j hj => cell_kept (a9.2 j hj) hg hr⟩⟩
theorem qRd.put {W:World} {Bx g o len cap l:Nat} {K:Nat → Nat → Nat → Nat} {x:Obj} (h:qRd Bx g o len cap K W) (x':Obj) (hl:W.heap[l]? = some x) (hx:x.isCells = false):qRd Bx g o len cap K (W.putObj l x'):=
 ⟨cell_kept h.1 (grownBy_putObj' W l x') (fun r e => by cases e;exact ⟨x,hl,hx⟩),fun j hj k v hv => cell_kept (h.2 j hj k v hv) (grownBy_putObj' W l x') (fun r e => by cases e;exact ⟨x,hl,hx⟩)⟩
theorem a0q {w w':World} {b o x:Nat} {v:Value} (h:w.cell? ⟨b,o,none⟩ = some v) (hg:w.grownBy w' (some x)) (hne:b ≠ x):w'.cell? ⟨b,o,none⟩ = some v:=
 (World.cell?_of_block (w:=w) (a:=⟨b,o,none⟩) (hg.block b (block_lt_of_cell h) (fun e => hne (by injection e)))).trans h
end
end Go.Proofs.YtappfdbmhgifcaaGreatDoor
