/- Texts of mine, one behind the other: QK4 QN Bits. -/
import Derived.Test.YtappfdbmhgifcaaGreatDoorZR08
set_option linter.unusedVariables false
set_option linter.unusedSimpArgs false
set_option maxRecDepth 100000
namespace Go.Proofs.YtappfdbmhgifcaaGreatDoor
open Go.ChangeShapes Go.WideShapes Go.ChangeAt Go.RowKit
theorem c9q (f:Nat → Nat) {r:Nat} (hr:r < 4):(a7b f).getD r 0 = ((f r:Nat):Int):=by
 rcases lt4 hr with rfl | rfl | rfl | rfl <;> rfl
theorem a2f (S:Nat → Nat → Nat) {c r:Nat} (hr:r < 4):∀ i,c < i → (a2i S i).getD (4 * c + r) 0 = ((S c r:Nat):Int)
 | 0,h => by omega
 | i + 1,h => by
  rw [a2i,List.getD_eq_getElem?_getD]
  by_cases e:c = i
  ·subst e
   rw [List.getElem?_append_right (by rw [a0p];omega),a0p,show 4 * c + r - 4 * c = r by omega,← List.getD_eq_getElem?_getD,c9q _ hr]
  ·rw [List.getElem?_append_left (by rw [a0p];omega),← List.getD_eq_getElem?_getD]
   exact a2f S hr i (by omega)
theorem b2m {S:Nat → Nat → Nat} (hS:SqB S):∀ i,a0z (a2i S i)
 | 0 => fun x hx => by cases hx
 | i + 1 => fun x hx => by
  rcases List.mem_append.1 hx with h | h
  ·exact b2m hS i x h
  ·have h0:=hS i 0;have h1:=hS i 1;have h2:=hS i 2;have h3:=hS i 3
   simp only [a7b,List.mem_cons,List.not_mem_nil,or_false] at h
   rcases h with rfl | rfl | rfl | rfl <;> omega
def e5k (n:Nat) (W:Nat → Nat → Nat) (l:List Int):List Int:=a2i (enc W n (kw l)) 4
theorem b8s (n:Nat) (W:Nat → Nat → Nat) (l:List Int):(e5k n W l).length = 16:=a0p _ 4
theorem c3u {W:Nat → Nat → Nat} (hW:SqB W) (n:Nat) (l:List Int):a0z (e5k n W l):=b2m (d6d n _ hW) 4
def c9z (l:List Int):Nat → Nat → Nat:=kx (l.length / 4) (kw l) (3 * (l.length / 4) + 28)
theorem c6y {l:List Int} (hA:a0z l):SqB (c9z l):=b2l _ (b9j hA) _
def c9r (w:World) (b:Nat) (l:List Int):Prop:=Cip w b (l.length / 4 + 6) (c9z l)
theorem c9r.on {w w':World} {b:Nat} {l:List Int} (h:c9r w b l) (hb:Below w.heap.size w w'):c9r w' b l:=Cip.on h hb
theorem e2j (fb:Nat) (a:Option Addr) (L c:Nat) (l:List Int) (w:World) (hf:Fld w fb) (hx:a1l w a L c l) (hL:L = 16 ∨ L = 32) :
 Calls Tryz.prog 105 #[.pointer (some ⟨fb,0,none⟩),.slice a L c] w fun e w' => ∃ b,e = .returned (.tuple #[.pointer (some ⟨b,0,none⟩),.int .i64 0]) ∧ c9r w' b l ∧ Below w.heap.size w w':=by
 obtain ⟨hl,hA,hb,hc,hm⟩:=hx
 obtain ⟨ba,oa,rfl,_⟩:=hb (by omega)
 unfold maxLen at hm
 unfold c9r c9z
 rw [hl]
 rcases hL with rfl | rfl
 ·exact e8j fb 4 ba oa c l w hf rfl hl hA hb hc hm
 ·exact e8y fb 8 ba oa c l w hf rfl hl hA hb hc hm
theorem d8e (b:Nat) (k:List Int) (a:Option Addr) (c:Nat) (l:List Int) (w:World) (h:c9r w b k) (hk:k.length = 16 ∨ k.length = 32) (hK:a0z k) (hx:a1l w a 16 c l) :
 Calls Tryz.prog 168 #[.pointer (some ⟨b,0,none⟩),.slice a (16:Nat) c] w fun e w' => ∃ g,e = .returned (.tuple #[.slice (some ⟨g,0,none⟩) 16 16,.int .i64 0]) ∧ w'.ownsRow w.heap.size 5 1 (.slice (some ⟨g,0,none⟩) 16 16) 16 ((e5k (k.length / 4 + 6) (c9z k) l).map (Value.int .u8)) ∧ Below w.heap.size w w':=by
 obtain ⟨hl,hA,hb,hc,hm⟩:=hx
 obtain ⟨ba,oa,rfl,_⟩:=hb (by omega)
 unfold maxLen at hm
 refine (c2l b (k.length / 4 + 6) (c9z k) (c6y hK) (by omega) (by omega) ba oa c l w h hl hA hb hc hm).mono ?_
 rintro e w' ⟨a,rfl,ho,hbe⟩
 obtain ⟨g,cap,hv,_⟩:=ho.form (by omega)
 cases hv
 exact ⟨g,rfl,ho,hbe⟩
theorem wf_u64 {x:Int} (h:(Lit.int .u64 x).wf = true):0 ≤ x ∧ x < 2 ^ 64:=by have:0 ≤ x ∧ x ≤ 18446744073709551615:=by simpa [Lit.wf,IntKind.min,IntKind.max,IntKind.signed,IntKind.bits] using h
                                                                             omega
set_option maxRecDepth 100000 in
theorem d0y (w:World):Calls Tryz.prog 175 #[.int .u64 18446744073709551615] w fun e w' => e = .returned (.int .i64 64) ∧ w = w':=by
 go_enter Tryz.func175,Tryz.ntmps175
 go_wp2
 go_ret
 exact ⟨by kernel_rfl,rfl⟩
theorem e6s (w:World):Calls Tryz.prog 181 #[] w fun e w' => e = .returned (.int .i64 64) ∧ w = w':=by
 go_enter Tryz.func181,Tryz.ntmps181
 go_wp2_with (go_at_call 175;refine (d0y _).mono ?_;rintro e w' ⟨rfl,rfl⟩)
 go_ret
 exact ⟨by kernel_rfl,rfl⟩
theorem e6t (w:World):Calls Tryz.prog 171 #[] w fun e w' => e = .returned (.int .i64 8) ∧ w = w':=by
 go_enter Tryz.func171,Tryz.ntmps171
 go_wp2_with (go_at_call 181;refine (e6s _).mono ?_;rintro e w' ⟨rfl,rfl⟩)
 go_ret
 exact ⟨by kernel_rfl,rfl⟩
theorem e4e (a:Option Addr) (L cap:Nat) (l:List Int) (w:World) (hl:l.length = L) (hb:Bs w w.heap.size a l) (hL:L ≤ 140737488355328) (x:Int) (wx:(Lit.int .u64 x).wf = true) :
 Calls Tryz.prog 152 #[.slice a L cap,.int .u64 x] w fun e w' => ∃ g,e = .returned (.slice (some ⟨g,0,none⟩) (L + 8) (L + 8)) ∧
  w'.ownsRow w.heap.size 5 1 (.slice (some ⟨g,0,none⟩) (L + 8) (L + 8)) (L + 8) ((l ++ be 8 x).map (Value.int .u8)) ∧ Below w.heap.size w w':=by
 obtain ⟨hx0,hx1⟩:=wf_u64 wx
 clear wx
 have hx2:x < 18446744073709551616:=by omega
 have hmk:∀ W:World,(Instr.makeSlice 22 (.int .i64 (L:Int)) (.int .i64 ((L:Int) + 8))).run Tryz.prog W = .ok (.slice (some ⟨W.heap.size,0,none⟩) L (L + 8)) (W.alloc (.cells (madeCells #[.int .u8 0] (L + 8)) 5)):=by
  intro W
  obtain ⟨i,hi,hz0,hz1,hz2⟩:=info_parts info5
  have:=run_make (P:=Tryz.prog) W 22 5 i _ Tryz.underlying22 hi hz0 .i64 .i64 (L:Int) ((L:Int) + 8) (by omega) (by omega) (by rw [hz2];omega) (by omega)
  rw [this,hz1]
  have e1:((L:Int) + 8).toNat = L + 8:=by omega
  rw [e1];simp
  rfl
 go_enter Tryz.func152,Tryz.ntmps152
 have k1:(w.alloc (.cells (madeCells #[.int .u8 0] (L + 8)) 5)).heap[w.heap.size]? = some (.cells (madeCells #[.int .u8 0] (L + 8)).toList.toArray 5 (0,0)):=by rw [Array.toArray_toList];exact heap_alloc_new w _
 have k2:(l.map (Value.int .u8)).length = Nat.min L L:=by simp [hl]
 have k3:0 < (l.map (Value.int .u8)).length → ∃ ad,a = some ad ∧ ∀ j v,(l.map (Value.int .u8))[j]? = some v → (w.alloc (.cells (madeCells #[.int .u8 0] (L + 8)) 5)).cell? (ad.add j) = some v:=
  fun h0 => (hb.below ((Below.refl _ _).alloc (Nat.le_refl _) _)).cells h0
 have k4:0 + (l.map (Value.int .u8)).length ≤ (madeCells #[.int .u8 0] (L + 8)).toList.length:=by simp [hl,size_madeCells]
 have k5:Below w.heap.size w (w.alloc (.cells (madeCells #[.int .u8 0] (L + 8)) 5)):=(Below.refl _ _).alloc (Nat.le_refl _) _
 have K1:=hJ_ k1;have K2:=hJ_ k2;have K3:=hJ_ k3
 clear k1 k2 k3
 go_wp2_with (first
  | (go_at_call 171;refine (e6t _).mono ?_;rintro e w' ⟨rfl,rfl⟩)
  | ((with_reducible show wpList _ _ _ (⟨some 19,_,_,_,_,_⟩ :: _) _ _);refine wpList_copy_splice (o:=⟨some 19,_,_,_,_,_⟩) rfl (.tmp 17) (.tmp 18) 22 22 rfl 5 Tryz.underlying22 a2a (some ⟨w.heap.size,0,none⟩) a L (L + 8) L cap rfl rfl w.heap.size 0 (madeCells #[.int .u8 0] (L + 8)).toList 5 K1.out (l.map (Value.int .u8)) K2.out (fun h0 => ⟨rfl,K3.out h0⟩) k4 (ints_oneCell _ _) w.heap.size w k5 (Nat.le_refl _) ?_;intro w1 hg1 hb1))
 have own1:w1.ownsRow w.heap.size 5 1 (.slice (some ⟨w.heap.size,0,none⟩) L (L + 8)) L (l.map (Value.int .u8)):=by
  refine ⟨by simp [hl],.inr ⟨w.heap.size,L + 8,_,rfl,Nat.le_refl _,hg1.out,by omega,by unfold maxLen;omega,?_,?_⟩⟩
  ·simp [a1s,hl,size_madeCells]
  ·simp [a1s,hl]
 have hsz1:w.heap.size < w1.heap.size:=(own1.lt w.heap.size rfl).2
 clear hg1 K1 K2 K3 k4 k5
 go_loopw [6,22] (fun out i wr => ∃ k:Nat,k ≤ 8 ∧ i = .int .i64 k ∧ out = .slice (some ⟨w.heap.size,0,none⟩) (L + k) (L + 8) ∧
  wr.ownsRow w.heap.size 5 1 (.slice (some ⟨w.heap.size,0,none⟩) (L + k) (L + 8)) (L + k) ((l ++ (be 8 x).take k).map (Value.int .u8)) ∧ Below w.heap.size w wr ∧ w.heap.size < wr.heap.size)
  (fun _ i _ => 8 - (intOf i).toNat)
 case atStart => exact ⟨0,by omega,rfl,rfl,by simpa using own1,hb1,hsz1⟩
 case round =>
  obtain ⟨k,hk,rfl,rfl,hown,hbel,hsz⟩:=hrel
  by_cases hlt:k < 8
  ·have hap:=(hown.alloc (.cells #[.int .u8 (x / 2 ^ (8 * (7 - k)) % 256)] 5))
   have hn1:∀ j u,[Value.int .u8 (x / 2 ^ (8 * (7 - k)) % 256)][j]? = some u → (wr.alloc (.cells #[.int .u8 (x / 2 ^ (8 * (7 - k)) % 256)] 5)).cell? ((⟨wr.heap.size,0,none⟩:Addr).add j) = some u:=by
    intro j u hj
    match j,hj with
    | 0,hj => simp at hj;subst hj;simp [Addr.add]
   have hn2:∀ u ∈ [Value.int .u8 (x / 2 ^ (8 * (7 - k)) % 256)],u.oneCell' = true:=by intro u hu;simp at hu;subst hu;rfl
   have hbt:=a5v 8 x k hlt
   have HAP:=hJ_ hap;have HN1:=hJ_ hn1;have HN2:=hJ_ hn2;have HBT:=hJ_ hbt
   clear hap hn1 hn2 hbt
   obtain ⟨i5,hi,hz0,hz1,hz2⟩:=info_parts info5
   have HI:=hJ_ hi
   have HZ:=hJ_ hz1
   clear hi hz0 hz1 hz2
   go_wp2_with (((with_reducible show wpList _ _ _ (⟨some 35,_,_,_,_,_⟩ :: _) _ _);go_loud (refine wpList_append_fits _ rfl (.tmp 25) (.tmp 34) 22 rfl w.heap.size 5 i5 1 Tryz.underlying22 HI.out HZ.out w.heap.size (L + k) (L + 8) _ rfl HAP.out ⟨wr.heap.size,0,none⟩ 1 1 [.int .u8 (x / 2 ^ (8 * (7 - k)) % 256)] rfl rfl HN1.out HN2.out (by omega) ?_);intro w2 hown2 hg2))
   go_roundw
   case rel =>
    refine ⟨k + 1,by omega,by go_num,rfl,?_,?_,?_⟩
    ·rw [HBT.out,← List.append_assoc,List.map_append]
     exact hown2
    ·exact (hbel.alloc (by omega) _).grown hg2 (by simp <;> omega) (fun g hg => by injection hg with hg;omega)
    ·have:=hg2.size;simp at this;omega
   case measure => simp [intOf] <;> omega
  ·have:k = 8:=by omega
   subst this
   go_wp2
   go_ret
   refine ⟨_,rfl,?_,hbel⟩
   have e:(be 8 x).take 8 = be 8 x:=List.take_of_length_le (by rw [a4c];exact Nat.le_refl _)
   rw [e] at hown
   exact hown
theorem d9y (n:Nat) (x:Int) (i:Nat) (h:i < n):(be n x).getD i 0 = x / 2 ^ (8 * (n - 1 - i)) % 256:=by
 simp [be,List.getD_eq_getElem?_getD,List.getElem?_map,List.getElem?_range h]
theorem c7a (n:Nat) (x:Int):a0z (be n x):=by
 intro v hv
 simp only [be,List.mem_map] at hv
 obtain ⟨i,_,rfl⟩:=hv
 exact ⟨Int.emod_nonneg _ (by omega),Int.emod_lt_of_pos _ (by omega)⟩
def a9c (L:List Int) (j:Nat):List Int:=List.replicate j 0 ++ L.drop j
theorem c2w {L:List Int} {m:Nat} (h:m < L.length):(a9c L (m + 1)).set m (L.getD m 0) = a9c L m:=by
 have e:L.getD m 0 = L[m]:=by simp [List.getD_eq_getElem?_getD,List.getElem?_eq_getElem h]
 unfold a9c
 rw [List.replicate_succ',List.append_assoc,List.set_append_right _ _ (by simp),e,List.drop_eq_getElem_cons h]
 simp
theorem d0f (X:Int) (n m:Nat) (h:m < n):X / 2 ^ (8 * (n - (m + 1))) / 256 = X / 2 ^ (8 * (n - m)):=by
 rw [show (256:Int) = 2 ^ 8 by rfl,Int.ediv_ediv_of_nonneg (Int.pow_nonneg (by omega)),← Int.pow_add,show 8 * (n - (m + 1)) + 8 = 8 * (n - m) by omega]
theorem e5d (n:Nat) (hn:n ≤ 8) (X:Int) (h0:0 ≤ X) (h1:X < 18446744073709551616) (w:World) :
 Calls Tryz.prog 59 #[.int .u64 X,.int .i64 (n:Nat)] w fun e w' => ∃ g,e = .returned (.slice (some ⟨g,0,none⟩) n n) ∧
  w'.ownsRow w.heap.size 5 1 (.slice (some ⟨g,0,none⟩) n n) n ((be n X).map (Value.int .u8)) ∧ Below w.heap.size w w':=by
 have hmk:=run_make_row' (P:=Tryz.prog) 22 5 (.int .u8 0) 1 Tryz.underlying22 info5 rfl .i64 .i64 n (by omega) (by omega)
 have HO:=hJ_ (a1c (w:=w) (e:=5) (n:=n) (by unfold maxLen;omega))
 go_enter Tryz.func59,Tryz.ntmps59
 go_wp2
 go_loopw [0,6] (fun x i wr => ∃ j:Nat,j ≤ n ∧ i = .int .i64 ((j:Int) - 1) ∧ x = .int .u64 (X / 2 ^ (8 * (n - j))) ∧
  wr.ownsRow w.heap.size 5 1 (.slice (some ⟨w.heap.size,0,none⟩) n n) n ((a9c (be n X) j).map (Value.int .u8)) ∧ Below w.heap.size w wr)
  (fun _ i _ => (intOf i + 1).toNat)
 case atStart =>
  refine ⟨n,Nat.le_refl _,rfl,by simp,?_,(Below.refl _ _).alloc (Nat.le_refl _) _⟩
  have e:a9c (be n X) n = List.replicate n 0:=by unfold a9c;rw [List.drop_of_length_le (by rw [a4c];exact Nat.le_refl _),List.append_nil]
  rw [e];exact HO.out
 case round =>
  obtain ⟨j,hj,rfl,rfl,hown,hbel⟩:=hrel
  clear hmk
  rcases Nat.eq_zero_or_pos j with hz | hz
  ·subst hz
   go_wp2
   go_ret
   refine ⟨_,rfl,?_,hbel⟩
   have e:a9c (be n X) 0 = be n X:=by simp [a9c]
   rw [e] at hown
   exact hown
  ·obtain ⟨m,rfl⟩:∃ m,j = m + 1:=⟨j - 1,by omega⟩
   have ej:((m + 1:Nat):Int) - 1 = m:=by omega
   rw [ej]
   have hd:=hJ_ (d0f X n m (by omega))
   have hv:=hJ_ (d9y n X m (by omega))
   obtain ⟨Y,hY⟩:∃ Y,Y = X / 2 ^ (8 * (n - (m + 1))):=⟨_,rfl⟩
   have hY0:0 ≤ Y:=by rw [hY];exact Int.ediv_nonneg h0 (Int.pow_nonneg (by omega))
   have hY1:Y < 18446744073709551616:=by rw [hY];exact Int.lt_of_le_of_lt (Int.ediv_le_self _ h0) h1
   rw [← hY]
   have HY:=hJ_ hY
   have hcg:=a0h hown m (by omega)
   rw [Nat.zero_add] at hcg
   have hfz:=hown.frozenAt m
   have hval:(be n X).getD m 0 = Y % 256:=by rw [hv.out,hY,show n - 1 - m = n - (m + 1) by omega]
   have hst:=(hown.stored m (.int .u8 (Y % 256))).1
   rw [a1h,← hval,c2w (by rw [a4c];omega),hval] at hst
   have HST:=hJ_ hst
   have HB:=hJ_ (hbel.setCell (p:=⟨w.heap.size,m,none⟩) (Nat.le_refl _) (.int .u8 (Y % 256)))
   clear hown hbel hst hval hY
   have q1:(m:Int) < (n:Int):=by omega
   go_wp2
   go_roundw
   case rel => exact ⟨m,by omega,by go_num,by rw [← hd.out,← HY.out],HST.out,HB.out⟩
   case measure => simp [intOf] <;> omega
def a7i (a b:List Int):List Int:=List.zipWith (fun x y => ((x.toNat ^^^ y.toNat:Nat):Int)) a b
theorem a0r (a b:List Int):(a7i a b).length = min a.length b.length:=by simp [a7i]
theorem a2r {a b:List Int} {k:Nat} (h:k < min a.length b.length):(a7i a b).getD k 0 = (((a.getD k 0).toNat ^^^ (b.getD k 0).toNat:Nat):Int):=by
 have h1:k < a.length:=by omega
 have h2:k < b.length:=by omega
 simp [a7i,List.getD_eq_getElem?_getD,List.getElem?_zipWith,List.getElem?_eq_getElem h1,List.getElem?_eq_getElem h2]
theorem c0g (a b:Option Addr) (la ca lb cb:Nat) (x y:List Int) (w:World) (hx:x.length = la ∧ a0z x ∧ Bs w w.heap.size a x) (hy:y.length = lb ∧ a0z y ∧ Bs w w.heap.size b y) (hla:la ≤ 281474976710656) (hlb:lb ≤ 281474976710656) :
 Calls Tryz.prog 100 #[.slice a la ca,.slice b lb cb] w fun e w' => ∃ g,e = .returned (.slice (some ⟨g,0,none⟩) (min la lb) (min la lb)) ∧
  w'.ownsRow w.heap.size 5 1 (.slice (some ⟨g,0,none⟩) (min la lb) (min la lb)) (min la lb) ((a7i x y).map (Value.int .u8)) ∧ Below w.heap.size w w':=by
 obtain ⟨hxl,hxb,hxc⟩:=hx
 obtain ⟨hyl,hyb,hyc⟩:=hy
 have hl:=a0r x y
 have wbx:=a0g hxb
 have wby:=a0g hyb
 have HWX:=hJ_ wbx
 have HWY:=hJ_ wby
 clear wbx wby
 by_cases hc:lb < la
 ·have hmn:min la lb = lb:=Nat.min_eq_right (by omega)
  rw [hmn]
  have HL:=hJ_ (show (a7i x y).length = lb by rw [hl,hxl,hyl,hmn])
  have HM:=hJ_ hmn
  clear hl hmn
  have hmk:=run_make_row' (P:=Tryz.prog) 22 5 (.int .u8 0) 1 Tryz.underlying22 info5 rfl .i64 .i64 lb (by omega) (by omega)
  have hO:=a1c (w:=w) (e:=5) (n:=lb) (by unfold maxLen;omega)
  have HO:=hJ_ hO
  clear hO
  go_enter Tryz.func100,Tryz.ntmps100
  go_wp2
  go_loopw [15] (fun i wr => ∃ k:Nat,k ≤ lb ∧ i = .int .i64 k ∧ wr.ownsRow w.heap.size 5 1 (.slice (some ⟨w.heap.size,0,none⟩) lb lb) lb ((part (a7i x y) k).map (Value.int .u8)) ∧ Below w.heap.size w wr)
   (fun i _ => lb - (intOf i).toNat)
  case atStart => exact ⟨0,Nat.zero_le _,rfl,by rw [b1x,HL.out];exact HO.out,(Below.refl _ _).alloc (Nat.le_refl _) _⟩
  case round =>
   obtain ⟨k,hk,rfl,hown,hbel⟩:=hrel
   clear hmk
   by_cases hlt:k < lb
   ·obtain ⟨ba,oa,rfl,hba,hca⟩:=(hxc.below hbel).at_ (k:=k) (by omega)
    obtain ⟨bb,ob,rfl,hbb,hcb⟩:=(hyc.below hbel).at_ (k:=k) (by omega)
    have wx:=HWX.out k
    have wy:=HWY.out k
    have hcg:=a0h hown k hlt
    rw [Nat.zero_add] at hcg
    have hfz:=hown.frozenAt k
    have hne1:ba ≠ w.heap.size:=by omega
    have hne2:bb ≠ w.heap.size:=by omega
    have hst:=hJ_ (a5s HL.out hlt hown)
    have hb2:=hJ_ (hbel.setCell (p:=⟨w.heap.size,k,none⟩) (Nat.le_refl _) (.int .u8 ((a7i x y).getD k 0)))
    have hxe:=hJ_ (a2r (a:=x) (b:=y) (k:=k) (by omega))
    clear hown hbel hxc hyc
    have q1:(k:Int) < (la:Int):=by omega
    have q2:(k:Int) < (lb:Int):=by omega
    have q3:(0:Int) ≤ (k:Int):=by omega
    obtain ⟨X,hX⟩:∃ X,X = x.getD k 0:=⟨_,rfl⟩
    obtain ⟨Y,hY⟩:∃ Y,Y = y.getD k 0:=⟨_,rfl⟩
    rw [← hX] at hca wx hxe
    rw [← hY] at hcb wy hxe
    clear hX hY
    have hv:(a7i x y).getD k 0 = bits .xor .u8 X Y:=by rw [hxe.out,u8_xor X Y wx.1 wx.2 wy.1 wy.2]
    rw [hv] at hst hb2
    clear hxe hv
    go_wp2_with fail
    go_still_tail 12,(by kernel_rfl)
    go_wp2
    go_roundw
    case rel => exact ⟨k + 1,by omega,by go_num,hst.out,hb2.out.drew⟩
    case measure => simp [intOf];omega
   ·obtain rfl:k = lb:=by omega
    go_wp2
    go_ret
    refine ⟨_,rfl,?_,hbel⟩
    have e:=b5h (a7i x y)
    rw [HL.out] at e
    rw [e] at hown
    exact hown
 ·have hmn:min la lb = la:=Nat.min_eq_left (by omega)
  rw [hmn]
  have HL:=hJ_ (show (a7i x y).length = la by rw [hl,hxl,hyl,hmn])
  have HM:=hJ_ hmn
  clear hl hmn
  have hmk:=run_make_row' (P:=Tryz.prog) 22 5 (.int .u8 0) 1 Tryz.underlying22 info5 rfl .i64 .i64 la (by omega) (by omega)
  have hO:=a1c (w:=w) (e:=5) (n:=la) (by unfold maxLen;omega)
  have HO:=hJ_ hO
  clear hO
  go_enter Tryz.func100,Tryz.ntmps100
  go_wp2
  go_loopw [15] (fun i wr => ∃ k:Nat,k ≤ la ∧ i = .int .i64 k ∧ wr.ownsRow w.heap.size 5 1 (.slice (some ⟨w.heap.size,0,none⟩) la la) la ((part (a7i x y) k).map (Value.int .u8)) ∧ Below w.heap.size w wr)
   (fun i _ => la - (intOf i).toNat)
  case atStart => exact ⟨0,Nat.zero_le _,rfl,by rw [b1x,HL.out];exact HO.out,(Below.refl _ _).alloc (Nat.le_refl _) _⟩
  case round =>
   obtain ⟨k,hk,rfl,hown,hbel⟩:=hrel
   clear hmk
   by_cases hlt:k < la
   ·obtain ⟨ba,oa,rfl,hba,hca⟩:=(hxc.below hbel).at_ (k:=k) (by omega)
    obtain ⟨bb,ob,rfl,hbb,hcb⟩:=(hyc.below hbel).at_ (k:=k) (by omega)
    have wx:=HWX.out k
    have wy:=HWY.out k
    have hcg:=a0h hown k hlt
    rw [Nat.zero_add] at hcg
    have hfz:=hown.frozenAt k
    have hne1:ba ≠ w.heap.size:=by omega
    have hne2:bb ≠ w.heap.size:=by omega
    have hst:=hJ_ (a5s HL.out hlt hown)
    have hb2:=hJ_ (hbel.setCell (p:=⟨w.heap.size,k,none⟩) (Nat.le_refl _) (.int .u8 ((a7i x y).getD k 0)))
    have hxe:=hJ_ (a2r (a:=x) (b:=y) (k:=k) (by omega))
    clear hown hbel hxc hyc
    have q1:(k:Int) < (la:Int):=by omega
    have q2:(k:Int) < (lb:Int):=by omega
    have q3:(0:Int) ≤ (k:Int):=by omega
    obtain ⟨X,hX⟩:∃ X,X = x.getD k 0:=⟨_,rfl⟩
    obtain ⟨Y,hY⟩:∃ Y,Y = y.getD k 0:=⟨_,rfl⟩
    rw [← hX] at hca wx hxe
    rw [← hY] at hcb wy hxe
    clear hX hY
    have hv:(a7i x y).getD k 0 = bits .xor .u8 X Y:=by rw [hxe.out,u8_xor X Y wx.1 wx.2 wy.1 wy.2]
    rw [hv] at hst hb2
    clear hxe hv
    go_wp2_with fail
    go_still_tail 12,(by kernel_rfl)
    go_wp2
    go_roundw
    case rel => exact ⟨k + 1,by omega,by go_num,hst.out,hb2.out.drew⟩
    case measure => simp [intOf];omega
   ·obtain rfl:k = la:=by omega
    go_wp2
    go_ret
    refine ⟨_,rfl,?_,hbel⟩
    have e:=b5h (a7i x y)
    rw [HL.out] at e
    rw [e] at hown
    exact hown
theorem c8m (a b:Option Addr) (la ca lb cb:Nat) (x y:List Int) (w:World) (hx:a1l w a la ca x) (hy:a1l w b lb cb y) (hla:la ≤ 281474976710656) (hlb:lb ≤ 281474976710656) :
 Calls Tryz.prog 100 #[.slice a la ca,.slice b lb cb] w fun e w' => ∃ g,e = .returned (.slice (some ⟨g,0,none⟩) (min la lb) (min la lb)) ∧
  w'.ownsRow w.heap.size 5 1 (.slice (some ⟨g,0,none⟩) (min la lb) (min la lb)) (min la lb) ((a7i x y).map (Value.int .u8)) ∧ Below w.heap.size w w':=
 c0g a b la ca lb cb x y w ⟨hx.1,hx.2.1,hx.2.2.1⟩ ⟨hy.1,hy.2.1,hy.2.2.1⟩ hla hlb
def c9o (f:Nat → List Int) (c:Nat):Nat → List Int
 | 0 => []
 | m + 1 => c9o f c m ++ f (c + m)
theorem a3j {f:Nat → List Int} (hf:∀ c,(f c).length = 16) (c:Nat):∀ m,(c9o f c m).length = 16 * m
 | 0 => rfl
 | m + 1 => by rw [c9o,List.length_append,a3j hf c m,hf];omega
def sb (f:Nat → List Int) (p:Nat):Int:=(f (p / 16)).getD (p % 16) 0
def stL (f:Nat → List Int) (at_ n:Nat):List Int:=(List.range n).map fun i => sb f (at_ + i)
theorem a1t (f:Nat → List Int) (at_ n:Nat):(stL f at_ n).length = n:=by simp [stL]
theorem c1d (f:Nat → List Int) (at_:Nat) {n i:Nat} (h:i < n):(stL f at_ n).getD i 0 = sb f (at_ + i):=by
 simp [stL,List.getD_eq_getElem?_getD,List.getElem?_map,List.getElem?_range h]
theorem e8i {f:Nat → List Int} (hB:∀ c,a0z (f c)) (p:Nat):0 ≤ sb f p ∧ sb f p < 256:=a0g (hB _) _
theorem b3q {f:Nat → List Int} (hB:∀ c,a0z (f c)) (at_ n:Nat):a0z (stL f at_ n):=fun x hx => by
 simp only [stL,List.mem_map] at hx
 obtain ⟨i,_,rfl⟩:=hx
 exact e8i hB _
theorem b6l {f:Nat → List Int} (hf:∀ c,(f c).length = 16) (c:Nat):∀ m i,i < 16 * m → (c9o f c m).getD i 0 = sb f (16 * c + i)
 | 0,i,h => by omega
 | m + 1,i,h => by
  rw [c9o,List.getD_eq_getElem?_getD]
  by_cases e:i < 16 * m
  ·rw [List.getElem?_append_left (by rw [a3j hf];exact e),← List.getD_eq_getElem?_getD]
   exact b6l hf c m i e
  ·rw [List.getElem?_append_right (by rw [a3j hf];omega),a3j hf,← List.getD_eq_getElem?_getD]
   unfold sb
   rw [show (16 * c + i) / 16 = c + m by omega,show (16 * c + i) % 16 = i - 16 * m by omega]
theorem c9d {f:Nat → List Int} (hf:∀ c,(f c).length = 16) (at_ n m:Nat) (h:at_ % 16 + n ≤ 16 * m):((c9o f (at_ / 16) m).drop (at_ % 16)).take n = stL f at_ n:=by
 refine a0x (by rw [List.length_take,List.length_drop,a3j hf,a1t];omega) (fun i hi => ?_)
 have hi':i < n:=by rw [List.length_take] at hi;omega
 rw [c1d f at_ hi',List.getD_eq_getElem?_getD,List.getElem?_take_of_lt hi',List.getElem?_drop,← List.getD_eq_getElem?_getD,b6l hf _ _ _ (by omega),show 16 * (at_ / 16) + (at_ % 16 + i) = at_ + i by omega]
def b2u (K N:List Int) (c:Nat):List Int:=e5k (K.length / 4 + 6) (c9z K) (N ++ be 8 (c:Int))
theorem b5e (K N:List Int):∀ c,(b2u K N c).length = 16:=fun c => b8s _ _ _
theorem c0l {K:List Int} (hK:a0z K) (N:List Int):∀ c,a0z (b2u K N c):=fun c => c3u (c6y hK) _ _
theorem b6o (a b:List Int) (ha:a0z a) (hb:a0z b):a0z (a7i a b):=by
 intro x hx
 obtain ⟨i,hi,rfl⟩:=List.getElem_of_mem hx
 have h1:=a2r (a:=a) (b:=b) (k:=i) (by rw [a0r] at hi;exact hi)
 rw [List.getD_eq_getElem?_getD,List.getElem?_eq_getElem hi] at h1
 simp only [Option.getD_some] at h1
 rw [h1]
 have h2:=a0g ha i
 have h3:=a0g hb i
 have:=Nat.xor_lt_two_pow (n:=8) (show (a.getD i 0).toNat < 2 ^ 8 by omega) (show (b.getD i 0).toNat < 2 ^ 8 by omega)
 omega
theorem b3g {a b:List Int} (h:a.length = b.length) (ha:a0z a):a7i (a7i a b) b = a:=by
 refine a0x (by rw [a0r,a0r];omega) (fun i hi => ?_)
 rw [a0r,a0r] at hi
 rw [a2r (by rw [a0r];omega),a2r (by omega),Int.toNat_natCast,Nat.xor_assoc,Nat.xor_self,Nat.xor_zero]
 have:=a0g ha i
 omega
theorem d4c (w:World) (n:Nat) (h:n ≤ maxLen):(w.alloc (.cells (madeCells #[.int .u8 0] n) 5)).ownsRow w.heap.size 5 1 (.slice (some ⟨w.heap.size,0,none⟩) 0 n) 0 (([]:List Int).map (Value.int .u8)):=by
 refine ⟨by simp,.inr ⟨w.heap.size,n,madeCells #[.int .u8 0] n,rfl,Nat.le_refl _,heap_alloc_new w _,by omega,h,?_,by simp⟩⟩
 ·simp [size_madeCells]
set_option maxHeartbeats 2000000 in
theorem c4z (b:Nat) (K:List Int) (a:Option Addr) (cap:Nat) (N:List Int) (c n M:Nat) (w:World) (h:c9r w b K) (hk:K.length = 16 ∨ K.length = 32) (hK:a0z K) (hN:a1l w a 8 cap N)
 (hc:c ≤ 67108864) (hn:n ≤ 1048592) (hM1:n ≤ 16 * M) (hM2:16 * M < n + 16) :
 Calls Tryz.prog 150 #[.pointer (some ⟨b,0,none⟩),.slice a (8:Nat) cap,.int .i64 (c:Nat),.int .i64 (n:Nat)] w fun e w' =>
  e = .returned (.tuple #[.slice (some ⟨w.heap.size,0,none⟩) (16 * M) (n + 16),.int .i64 0]) ∧
  w'.ownsRow w.heap.size 5 1 (.slice (some ⟨w.heap.size,0,none⟩) (16 * M) (n + 16)) (16 * M) ((c9o (b2u K N) c M).map (Value.int .u8)) ∧ Below w.heap.size w w':=by
 have hmk:∀ W:World,(Instr.makeSlice 22 (.int .i64 0) (.int .i64 ((n:Int) + 16))).run Tryz.prog W = .ok (.slice (some ⟨W.heap.size,0,none⟩) 0 (n + 16)) (W.alloc (.cells (madeCells #[.int .u8 0] (n + 16)) 5)):=by
  intro W
  obtain ⟨i,hi,hz0,hz1,hz2⟩:=info_parts info5
  have:=run_make (P:=Tryz.prog) W 22 5 i _ Tryz.underlying22 hi hz0 .i64 .i64 0 ((n:Int) + 16) (by omega) (by omega) (by rw [hz2];omega) (by omega)
  rw [this,hz1]
  have e1:((n:Int) + 16).toNat = n + 16:=by omega
  rw [e1];simp
  rfl
 have HO:=hJ_ (d4c w (n + 16) (by unfold maxLen;omega))
 have HB0:=hJ_ (show Below w.heap.size w (w.alloc (.cells (madeCells #[.int .u8 0] (n + 16)) 5)) from (Below.refl _ _).alloc (Nat.le_refl _) _)
 have HC:=hJ_ h
 have HN:=hJ_ hN
 have HK:=hJ_ hk
 have HKB:=hJ_ hK
 have HNL:=hJ_ (show N.length = 8 from hN.1)
 have HNB:=hJ_ (show a0z N from hN.2.1)
 clear h hk hK hN
 go_enter Tryz.func150,Tryz.ntmps150
 go_wp2_with fail
 go_loopw [2,10] (fun ct out wr => ∃ m:Nat,m ≤ M ∧ ct = .int .i64 ((c + m:Nat):Int) ∧ out = .slice (some ⟨w.heap.size,0,none⟩) (16 * m) (n + 16) ∧
  wr.ownsRow w.heap.size 5 1 (.slice (some ⟨w.heap.size,0,none⟩) (16 * m) (n + 16)) (16 * m) ((c9o (b2u K N) c m).map (Value.int .u8)) ∧ Below w.heap.size w wr)
  (fun ct _ _ => c + M - (intOf ct).toNat)
 case atStart => exact ⟨0,Nat.zero_le _,rfl,rfl,HO.out,HB0.out⟩
 case round =>
  obtain ⟨m,hm,rfl,rfl,hown,hbel⟩:=hrel
  rename World => wr
  clear hmk
  have HOW:=hJ_ hown
  have HBW:=hJ_ hbel
  clear hown hbel HO HB0
  by_cases hlt:m < M
  ·have HNR:=hJ_ (HN.out.on HBW.out)
   have HNS:=hJ_ (show Bs wr wr.heap.size a N from HNR.out.2.2.1)
   have HCR:=hJ_ (HC.out.on HBW.out)
   have q1:(16 * (m:Int)) < (n:Int):=by omega
   have q2:0 ≤ (c:Int) + (m:Int):=by omega
   have q3:(c:Int) + (m:Int) ≤ 134217728:=by omega
   have HWF:=hJ_ (show (Lit.int .u64 ((c:Int) + (m:Int))).wf = true by simp [Lit.wf,IntKind.min,IntKind.max,IntKind.signed,IntKind.bits];omega)
   have HBE:=hJ_ (show be 8 ((c:Int) + (m:Int)) = be 8 ((c + m:Nat):Int) by rw [Int.natCast_add])
   go_wp2_with (first
    | (go_at_call 152;go_loud ((with_reducible refine (e4e a 8 cap N wr HNL.out HNS.out (by omega) _ HWF.out).mono ?_);rintro e w1 ⟨g1,rfl,ho,hb⟩;rw [HBE.out] at ho;have HA1:=hJ_ (show a1l w1 (some ⟨g1,0,none⟩) 16 16 (N ++ be 8 ((c + m:Nat):Int)) from a1l.own ho (fun x hx => (List.mem_append.1 hx).elim (HNB.out x) (c7a _ _ x)) ⟨Nat.le_refl _,by unfold maxLen;omega⟩);have HO1:=hJ_ (a0y HOW.out hb);have HC1:=hJ_ (HCR.out.on hb);have HB1:=hJ_ (bt HBW.out hb);clear ho hb))
    | (go_at_call 168;(with_reducible refine (d8e b K (some ⟨g1,0,none⟩) 16 _ w1 HC1.out HK.out HKB.out HA1.out).mono ?_);rintro e w2 ⟨g2,rfl,ho,hb⟩;have HE2:=hJ_ (show w2.ownsRow w1.heap.size 5 1 (.slice (some ⟨g2,0,none⟩) 16 16) 16 ((b2u K N (c + m)).map (Value.int .u8)) from ho);have HO2:=hJ_ (a0y HO1.out hb);have HB2:=hJ_ (bt HB1.out hb);clear ho hb;have HN1:=hJ_ (show ∀ j u,((b2u K N (c + m)).map (Value.int .u8))[j]? = some u → w2.cell? ((⟨g2,0,none⟩:Addr).add j) = some u from fun j u hj => by (obtain ⟨hj1,rfl⟩:=a1r hj;rw [Addr.add_lit];exact a0h HE2.out j (by rw [b5e] at hj1;exact hj1)));obtain ⟨i5,hi,hz0,hz1,hz2⟩:=info_parts info5;have HI:=hJ_ hi;have HZ:=hJ_ hz1;clear hi hz0 hz1 hz2)
    | ((with_reducible show wpList _ _ _ (⟨some 34,_,_,_,_,_⟩ :: _) _ _);go_loud (refine wpList_append_fits (o:=⟨some 34,_,_,_,_,_⟩) _ rfl (.tmp 32) (.tmp 33) 22 rfl w.heap.size 5 i5 1 Tryz.underlying22 HI.out HZ.out w.heap.size (16 * m) (n + 16) _ rfl HO2.out ⟨g2,0,none⟩ 16 16 ((b2u K N (c + m)).map (Value.int .u8)) rfl (by rw [List.length_map,b5e]) HN1.out (ints_oneCell _ _) (by omega) ?_);intro w3 ho3 hg3;have HO3:=hJ_ ho3;have HG3:=hJ_ hg3;clear ho3 hg3))
   go_roundw
   case rel =>
    refine ⟨m + 1,by omega,by go_num,by rw [show 16 * (m + 1) = 16 * m + 16 by omega],?_,?_⟩
    ·rw [show 16 * (m + 1) = 16 * m + 16 by omega,c9o,List.map_append]
     exact HO3.out
    ·exact HB2.out.grown HG3.out (by have:=HB2.out.size;omega) (fun g hg => by injection hg with hg;omega)
   case measure => simp [intOf];omega
  ·obtain rfl:m = M:=by omega
   have q1:¬ (16 * (m:Int)) < (n:Int):=by omega
   go_wp2
   go_ret2
   exact ⟨rfl,HOW.out,HBW.out⟩
theorem d1x {w:World} {b:Nat} {K:List Int} (h:c9r w b K) (hk:K.length = 16 ∨ K.length = 32):∃ n:Nat,(n:Int) ≠ 0 ∧ Cip w b n (c9z K):=⟨K.length / 4 + 6,by omega,h⟩
set_option maxHeartbeats 1000000 in
theorem d0t (b:Nat) (K:List Int) (a:Option Addr) (cap:Nat) (N:List Int) (at_ n:Nat) (w:World) (h:c9r w b K) (hk:K.length = 16 ∨ K.length = 32) (hK:a0z K) (hN:a1l w a 8 cap N)
 (ha:at_ ≤ 1073741824) (hn:n ≤ 1048576) :
 Calls Tryz.prog 127 #[.pointer (some ⟨b,0,none⟩),.slice a (8:Nat) cap,.int .i64 (at_:Nat),.int .i64 (n:Nat)] w fun e w' => ∃ g o,e = .returned (.tuple #[.slice (some ⟨g,o,none⟩) n n,.int .i64 0]) ∧
  a1l w' (some ⟨g,o,none⟩) n n (stL (b2u K N) at_ n) ∧ Below w.heap.size w w':=by
 obtain ⟨rn,hrn,hcp⟩:=d1x h hk
 have HC:=hJ_ hcp
 have q1:((rn:Int) == 0) = false:=by simpa using hrn
 obtain ⟨c,hc⟩:∃ c,c = at_ / 16:=⟨_,rfl⟩
 obtain ⟨f,hf⟩:∃ f,f = at_ % 16:=⟨_,rfl⟩
 obtain ⟨M,hM⟩:∃ M,M = (f + n + 15) / 16:=⟨_,rfl⟩
 have q2:(at_:Int) / 16 = (c:Int):=by omega
 have q3:(at_:Int) % 16 = (f:Int):=by omega
 have q4:¬ (at_:Int) < 0:=by omega
 have q5:¬ (1073741824:Int) < (at_:Int):=by omega
 have q6:¬ (1048576:Int) < (n:Int):=by omega
 have hf16:f < 16:=by omega
 have HBK:=hJ_ (show ∀ z:Int,z = ((f + n:Nat):Int) → ∀ V,c9r V b K → a1l V a 8 cap N → Calls Tryz.prog 150 #[.pointer (some ⟨b,0,none⟩),.slice a (8:Nat) cap,.int .i64 (c:Nat),.int .i64 z] V fun e w' =>
  e = .returned (.tuple #[.slice (some ⟨V.heap.size,0,none⟩) (16 * M) (f + n + 16),.int .i64 0]) ∧
  w'.ownsRow V.heap.size 5 1 (.slice (some ⟨V.heap.size,0,none⟩) (16 * M) (f + n + 16)) (16 * M) ((c9o (b2u K N) c M).map (Value.int .u8)) ∧ Below V.heap.size V w' from
  fun z hz V hv hn => by rw [hz];exact c4z b K a cap N c (f + n) M V hv hk hK hn (by omega) (by omega) (by omega) (by omega))
 have HL:=hJ_ (show f + n ≤ 16 * M ∧ 16 * M < f + n + 16 by omega)
 have HPT:=hJ_ (show ((c9o (b2u K N) c M).drop f).take n = stL (b2u K N) at_ n by rw [hc,hf];exact c9d (b5e K N) at_ n M (by omega))
 have HSB:=hJ_ (b3q (c0l hK N) at_ n)
 have HCK:=hJ_ h
 have HN:=hJ_ hN
 clear hc hf hM h hk hK hN hrn hcp
 by_cases hn0:n = 0
 ·subst hn0
  go_enter Tryz.func127,Tryz.ntmps127
  go_wp2_with (first
   | (go_at_call 149;(with_reducible refine (a8s b rn (c9z K) _ HC.out).mono ?_);rintro e w1 ⟨rfl,rfl⟩)
   | (go_at_call 150;go_loud ((with_reducible refine (HBK.out (f:Int) (by omega) w HCK.out HN.out).mono ?_);rintro e w1 ⟨rfl,ho,hb⟩;have HO1:=hJ_ ho;have HB1:=hJ_ hb;clear ho hb)))
  go_ret2
  exact ⟨_,_,rfl,⟨a1t _ _ _,HSB.out,fun h0 => absurd h0 (by rw [a1t];omega),Nat.le_refl _,Nat.zero_le _⟩,HB1.out⟩
 ·have hn1:0 < n:=by omega
  go_enter Tryz.func127,Tryz.ntmps127
  go_wp2_with (first
   | (go_at_call 149;(with_reducible refine (a8s b rn (c9z K) _ HC.out).mono ?_);rintro e w1 ⟨rfl,rfl⟩)
   | (go_at_call 150;go_loud ((with_reducible refine (HBK.out ((f:Int) + (n:Int)) (Int.natCast_add f n).symm w HCK.out HN.out).mono ?_);rintro e w1 ⟨rfl,ho,hb⟩;have HO1:=hJ_ ho;have HB1:=hJ_ hb;clear ho hb)))
  go_ret2
  refine ⟨w.heap.size,f,(show Ending.returned (.tuple #[.slice (some ⟨w.heap.size,f,none⟩) (f + n - f) (f + n - f),.int .i64 0]) = _ by rw [Nat.add_sub_cancel_left]),⟨a1t _ _ _,HSB.out,?_,Nat.le_refl _,by unfold maxLen;omega⟩,HB1.out⟩
  intro h0
  refine ⟨_,_,rfl,(a2w HO1.out).2.2.2.2,fun i hi => ?_⟩
  rw [a1t] at hi
  have hci:=a0h HO1.out (f + i) (by have:=HL.out;omega)
  rw [Nat.zero_add] at hci
  rw [hci,← HPT.out,List.getD_eq_getElem?_getD,List.getD_eq_getElem?_getD,List.getElem?_take_of_lt hi,List.getElem?_drop]
set_option maxHeartbeats 1000000 in
theorem d7k (b:Nat) (K:List Int) (a:Option Addr) (cap:Nat) (N:List Int) (a2:Option Addr) (n c2:Nat) (l:List Int) (w:World) (h:c9r w b K) (hk:K.length = 16 ∨ K.length = 32) (hK:a0z K) (hN:a1l w a 8 cap N)
 (hx:a1l w a2 n c2 l) (hn:n ≤ 1048576) :
 Calls Tryz.prog 106 #[.pointer (some ⟨b,0,none⟩),.slice a (8:Nat) cap,.slice a2 n c2] w fun e w' => ∃ g,e = .returned (.tuple #[.slice (some ⟨g,0,none⟩) n n,.int .i64 0]) ∧
  a1l w' (some ⟨g,0,none⟩) n n (a7i l (stL (b2u K N) 0 n)) ∧ Below w.heap.size w w':=by
 have HBY:=hJ_ (show Calls Tryz.prog 127 #[.pointer (some ⟨b,0,none⟩),.slice a (8:Nat) cap,.int .i64 0,.int .i64 (n:Nat)] w fun e w' => ∃ g o,e = .returned (.tuple #[.slice (some ⟨g,o,none⟩) n n,.int .i64 0]) ∧
  a1l w' (some ⟨g,o,none⟩) n n (stL (b2u K N) 0 n) ∧ Below w.heap.size w w' from d0t b K a cap N 0 n w h hk hK hN (by omega) hn)
 have HX:=hJ_ hx
 have HSB:=hJ_ (b6o l (stL (b2u K N) 0 n) hx.2.1 (b3q (c0l hK N) 0 n))
 clear h hk hK hN hx
 go_enter Tryz.func106,Tryz.ntmps106
 go_wp2_with (first
  | (go_at_call 127;go_loud ((with_reducible refine HBY.out.mono ?_);rintro e w1 ⟨g1,o1,rfl,hs,hb⟩;have HS1:=hJ_ hs;have HB1:=hJ_ hb;have HX1:=hJ_ (HX.out.on hb);clear hs hb))
  | (go_at_call 100;go_loud ((with_reducible refine (c8m a2 (some ⟨g1,o1,none⟩) n c2 n n l (stL (b2u K N) 0 n) w1 HX1.out HS1.out (by omega) (by omega)).mono ?_);rintro e w2 ⟨g2,rfl,ho,hb⟩;have HO2:=hJ_ ho;have HB2:=hJ_ (bt HB1.out hb);clear ho hb)))
 have HO3:=HO2.out
 rw [Nat.min_self] at HO3
 have HA3:=hJ_ (a1l.own HO3 HSB.out ⟨Nat.le_refl _,by unfold maxLen;omega⟩)
 clear HO3
 go_ret2
 exact ⟨g2,rfl,HA3.out,HB2.out⟩
theorem d5f {x:Int} (h0:0 ≤ x) (h1:x < 2 ^ 32):(Lit.int .u32 x).wf = true:=by simp [Lit.wf,IntKind.min,IntKind.max,IntKind.signed,IntKind.bits];omega
theorem e5a {x:Int} (h0:0 ≤ x) (h1:x < 2 ^ 64):(Lit.int .u64 x).wf = true:=by simp [Lit.wf,IntKind.min,IntKind.max,IntKind.signed,IntKind.bits];omega
theorem e4r {x:Int} (h0:-9223372036854775808 ≤ x) (h1:x ≤ 9223372036854775807):(Lit.int .i64 x).wf = true:=by simp [Lit.wf,IntKind.min,IntKind.max,IntKind.signed,IntKind.bits];omega
end Go.Proofs.YtappfdbmhgifcaaGreatDoor
