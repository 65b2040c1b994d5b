/- Texts of mine, one behind the other: Zl He Yg Hf Vc. -/
import Derived.Test.YtappfdbmhgifcaaGreatDoorZR20
set_option linter.unusedVariables false
set_option linter.unusedSimpArgs false
set_option maxRecDepth 100000
namespace Go.Proofs.YtappfdbmhgifcaaGreatDoor
open Go.ChangeShapes Go.WideShapes Go.ChangeAt Go.RowKit Go.Shelf GF
def MdM (w:World) (p:Addr) (P:List (List GF)) (W:List Nat):Prop:=
 ∃ (g fb:Nat) (aN:Option Addr) (T cN:Nat) (N:List (List GF)) (aW:Option Addr) (cW:Nat),p = ⟨g,0,none⟩ ∧ g < w.heap.size ∧ w.cell? ⟨g,0,none⟩ = some (.pointer (some ⟨fb,0,none⟩)) ∧ w.cell? ⟨g,1,none⟩ = some (.slice aN T cN) ∧ w.cell? ⟨g,2,none⟩ = some (.slice aW W.length cW) ∧
  Fld w fb ∧ Mat w aN T cN N ∧ e2t N P T P.length ∧ IA w aW W.length cW (zl W) ∧ 1 ≤ T ∧ T ≤ 255
theorem MdM.on {w w':World} {p:Addr} {P:List (List GF)} {W:List Nat} (h:MdM w p P W) (hb:Below w.heap.size w w'):MdM w' p P W:=by
 obtain ⟨g,fb,aN,T,cN,N,aW,cW,h1,h2,h3,h4,h5,h6,h7,h8,h9,h10⟩:=h
 exact ⟨g,fb,aN,T,cN,N,aW,cW,h1,by have:=hb.size;omega,(hb.cell (p:=⟨g,0,none⟩) h2).trans h3,(hb.cell (p:=⟨g,1,none⟩) h2).trans h4,(hb.cell (p:=⟨g,2,none⟩) h2).trans h5,h6.below hb,h7.on hb,h8,h9.on hb,h10⟩
theorem d7y {N P:List (List GF)} {T:Nat} (h:e2t N P T P.length) (x:GF):b0f N T P.length x = evP P x:=by
 refine a1i (by rw [c1n,a0v]) fun k hk => ?_
 rw [c1n] at hk
 rw [b6w h hk,b5q x hk]
theorem c5l {X:List GF} {R P Q:List (List GF)} {L t n e:Nat} (hA:Apart X) (hP:P.length = n) (hQ:Q.length = n) (h1:∀ j,j < n → a1p X (a6w R L j) t e (rw_ P j)) (h2:∀ j,j < n → a1p X (a6w R L j) t e (rw_ Q j)):P = Q:=by
 apply List.ext_getElem (by omega)
 intro j k1 k2
 have h:=a1p.uniq hA (h1 j (by omega)) (h2 j (by omega))
 unfold rw_ at h
 simpa [List.getD_eq_getElem?_getD,k1,k2] using h
theorem d1p (b L t:Nat) (e:Int) (aX:Option Addr) (cX:Nat) (X:List GF) (w:World) (hf:Fld w b) (hX:Pa w aX L cX X) (he0:0 ≤ e) (ht:1 ≤ t) (htL:t ≤ L) (hL:L ≤ 200) (hE:a3a X = 0) :
 Calls Tryz.prog 68 #[.pointer (some ⟨b,0,none⟩),.int .i64 (t:Nat),.slice aX L cX,.int .i64 (L:Nat),.int .i64 e] w fun r w' => r = .returned (.int .i64 0) ∧ Below w.heap.size w w':=by
 have hl:=hX.len
 have h:=d2j b L L (t:Int) e aX cX X w hf hX
 rw [b9q.2 ⟨hl,by omega,by omega,he0,by omega,hE⟩] at h
 exact h
set_option maxHeartbeats 1000000 in
theorem rows_ok (b L t n:Nat) (e:Int) (aX:Option Addr) (cX:Nat) (X:List GF) (aR:Option Addr) (cR:Nat) (R P:List (List GF)) (w:World) (hf:Fld w b) (hX:Pa w aX L cX X) (hR:Mat w aR L cR R) (he:(Lit.int .i64 e).wf = true) (he0:0 ≤ e) (ht:1 ≤ t) (htL:t ≤ L) (hL:L ≤ 200) (hE:a3a X = 0) (hw:∀ k,k < L → (rw_ R k).length = n) (hn:n ≤ 1000) (hPl:P.length = n) (hP:∀ k,k < n → a1p X (a6w R L k) t e.toNat (rw_ P k)) :
 Calls Tryz.prog 40 #[.pointer (some ⟨b,0,none⟩),.int .i64 (t:Nat),.slice aX L cX,.slice aR L cR,.int .i64 e] w fun r w' => ∃ p,r = .returned (.tuple #[.pointer (some p),.int .i64 0]) ∧ MdM w' p P (wrI X R P n L) ∧ Below w.heap.size w w':=by
 have HCK:=hJ_ (d1p b L t e aX cX X w hf hX he0 ht htL hL hE)
 have hA:Apart X:=(a4a.1 hE).2.2
 have HR:=hJ_ hR;have HX:=hJ_ hX;have HF:=hJ_ hf
 have HW:=hJ_ hw
 have HC:=hJ_ (And.intro hA (And.intro ht (And.intro htL (And.intro hL (And.intro hn (And.intro he he0))))))
 have HP:=hJ_ (And.intro hPl hP)
 have hbx:=hX.bd;have hbr:=hR.bd
 clear hf hX hR he he0 ht htL hL hE hw hn hPl hP hA
 go_enter Tryz.func40,Tryz.ntmps40
 go_wp2_with (first
  | (go_at_call 68;go_loud (refine HCK.out.mono ?_;rintro r w1 ⟨rfl,hb⟩;have HB1:=hJ_ hb;have HUN:=hJ_ (c6d aR L cR R false w1 (HR.out.on hb) (fun k hk => (by rw [HW.out k hk];exact HC.out.2.2.2.2.1)) ⟨(fun e => by cases e),fun ⟨i,hi,h⟩ => absurd (by rw [HW.out i hi,HW.out 0 (by omega)]) h⟩);clear hb))
  | (go_at_call 69;go_loud (refine HUN.out.mono ?_;rintro r w2 ⟨rfl,hb⟩;have HB2:=hJ_ (bt HB1.out hb);have HME:=hJ_ (c2q b L t n e aX cX X aR cR R w2 (HF.out.below HB2.out) (HX.out.on HB2.out) (HR.out.on HB2.out) HC.out.1 HC.out.2.1 HC.out.2.2.1 HC.out.2.2.2.1 HW.out HC.out.2.2.2.2.1 HC.out.2.2.2.2.2.1 HC.out.2.2.2.2.2.2);clear hb))
  | (go_at_call 70;go_loud (refine HME.out.mono ?_;rintro r w4 ⟨a1,a2,m1,c1,m2,c2,er,rfl,hs,hb⟩;obtain ⟨rfl,N,P',rfl,hmN,hnp,rfl,hia,hrp⟩:=(hs.out.resolve_right fun ⟨_,j,hj,h⟩ => h _ (HP.out.2 j hj));obtain rfl:P' = P:=c5l HC.out.1 hnp.2.1 HP.out.1 hrp HP.out.2;have HMN:=hJ_ hmN;have HNP:=hJ_ hnp;have HIA:=hJ_ hia;have HB4:=hJ_ (bt HB2.out hb);clear hs hb hmN hnp hrp hia))
  | (go_at_call 11;go_loud (refine (b3p _).mono ?_;rintro r w5 ⟨fb,rfl,hfb,hfl,hb⟩;have HFL:=hJ_ hfl;have HB5:=hJ_ (bt HB4.out hb);have HB45:=hJ_ hb;clear hb)))
 go_ret2
 have hal:=(Below.refl w5.heap.size w5).alloc (Nat.le_refl _) (.cells #[.pointer (some ⟨fb,0,none⟩),.slice a1 m1 c1,.slice a2 (wrI X R P' n L).length c2] 101)
 have hnp:=HNP.out
 rw [← HP.out.1] at hnp
 refine ⟨_,rfl,⟨w5.heap.size,fb,a1,m1,c1,N,a2,c2,rfl,by simp,by simp,by simp,by simp,HFL.out.below hal,(HMN.out.on HB45.out).on hal,hnp,(HIA.out.on HB45.out).on hal,HC.out.2.1,?_⟩,bt HB5.out hal⟩
 have:=HC.out
 omega
theorem c1y (a:Option Addr) (L cap:Nat) (ps:List Int) (w:World) (hx:IA w a L cap ps) (hL:L ≤ 1000) (hz:∀ z,z ∈ ps → 0 ≤ z ∧ z < 256) :
 Calls Tryz.prog 45 #[.slice a L cap] w fun e w' => ∃ a' c',e = .returned (.slice a' L c') ∧ w'.ownsRow w.heap.size 3 1 (.slice a' L c') L (ps.map (Value.int .i64)) ∧ Below w.heap.size w w':=by
 have HX:=hJ_ hx
 have HZ:=hJ_ hz
 have hcap:=hx.bd
 have HPL:=hJ_ hx.1
 clear hx hz
 rcases a with _ | ad
 ·obtain rfl:cap = 0:=HX.out.2.2.2.1 rfl
  obtain rfl:L = 0:=by omega
  obtain rfl:ps = []:=List.eq_nil_of_length_eq_zero HPL.out
  have he:=d4v
  go_enter Tryz.func45,Tryz.ntmps45
  go_wp2
  go_ret
  exact ⟨_,_,rfl,World.ownsRow_nil _ _ _ _,Below.refl _ _⟩
 ·obtain ⟨i5,hi,hz0,hz1,hz2⟩:=info_parts c6o
  have HI:=hJ_ (And.intro hi (And.intro hz0 (And.intro hz1 hz2)))
  clear hi hz0 hz1 hz2
  have he:=fun w => c7s w ad L cap
  have HE0:Hid ((w.alloc (.cells #[] 3)).ownsRow w.heap.size 3 1 (.slice (some ⟨w.heap.size,0,none⟩) 0 0) 0 (([]:List Int).map (Value.int .i64))):=hJ_ (c2m w 3)
  go_enter Tryz.func45,Tryz.ntmps45
  go_wp2_with ((with_reducible show wpList _ _ _ (⟨some 7,_,_,_,_,_⟩ :: _) _ _);go_loud (refine a5b _ rfl (.tmp 5) (.tmp 6) 39 rfl w.heap.size 3 i5 Tryz.underlying39 HI.out.1 HI.out.2.1 HI.out.2.2.1 HI.out.2.2.2 _ 0 ([]:List Int) rfl HE0.out (some ad) L cap ps rfl (HX.out.on ((Below.refl _ _).alloc (Nat.le_refl _) _)) (by omega) (by simp) ?_;intro v1 wc hown1 hg1;rw [Nat.zero_add,List.nil_append] at hown1;have hBc:=((Below.refl _ w).alloc (Nat.le_refl _) _).grown hg1 (by simp) (a6f _ _ _);obtain ⟨a9,c9,hv,hia⟩:=IA.own hown1 HZ.out;subst hv;have HO:=hJ_ hown1;have HB:=hJ_ hBc;clear hown1 hBc hg1 hia))
  go_ret
  exact ⟨_,_,rfl,HO.out,HB.out⟩
theorem c4g (p:Addr) (P:List (List GF)) (W:List Nat) (w:World) (h:MdM w p P W) (hW:W.length ≤ 255) (hx:∀ x,x ∈ W → x < 256) :
 Calls Tryz.prog 41 #[.pointer (some p)] w fun e w' => ∃ a c,e = .returned (.slice a W.length c) ∧ w'.ownsRow w.heap.size 3 1 (.slice a W.length c) W.length ((zl W).map (Value.int .i64)) ∧ Below w.heap.size w w':=by
 obtain ⟨g,fb,aN,T,cN,N,aW,cW,rfl,hg,h1,h2,h3,hf,hN,hn,hi,hT1,hT2⟩:=h
 have HC:=hJ_ (c1y aW W.length cW (zl W) w hi (by omega) (fun z hz => by
  obtain ⟨x,hx',rfl⟩:=List.mem_map.1 hz
  have:=hx x hx'
  omega))
 have hbd:=hi.bd
 clear hf hN hn hi hT1 hT2 hx hW
 go_enter Tryz.func41,Tryz.ntmps41
 go_wp2_with (go_at_call 45;go_loud (refine HC.out.mono ?_;rintro e w1 ⟨a1,c1,rfl,hia,hb⟩;have HI:=hJ_ hia;have HB:=hJ_ hb;clear hia hb))
 go_ret
 exact ⟨_,_,rfl,HI.out,HB.out⟩
theorem d5n (p:Addr) (P:List (List GF)) (W:List Nat) (x:GF) (w:World) (h:MdM w p P W) (hP:P.length ≤ 1000) :
 Calls Tryz.prog 42 #[.pointer (some p),.int .u8 (toI x)] w fun e w' => ∃ a c,e = .returned (.slice a P.length c) ∧ Pa w' a P.length c (evP P x) ∧ (∀ bb off,a = some ⟨bb,off,none⟩ → w.heap.size ≤ bb) ∧ Below w.heap.size w w':=by
 obtain ⟨g,fb,aN,T,cN,N,aW,cW,rfl,hg,h1,h2,h3,hf,hN,hn,hi,hT1,hT2⟩:=h
 have HV:=hJ_ (b3d fb T P.length aN cN N x w.drew (show Fld w.drew fb from hf) (show Mat w.drew aN T cN N from hN) hn.1 hT1 hT2 (by omega))
 rw [d7y hn x] at HV
 have hbd:=hN.bd
 clear hf hN hn hi hT1 hT2
 go_enter Tryz.func42,Tryz.ntmps42
 go_wp2_with fail
 go_region_with (go_at_call 71;refine HV.out.mono ?_;rintro e w1 ⟨a1,c1,rfl,hp,hnew,hb⟩;have HP:=hJ_ hp;have HNW:=hJ_ hnew;have HB:=hJ_ hb;clear hp hb hnew)
 all_goals
  go_wp2
  go_ret
  exact ⟨_,_,rfl,HP.out,fun bb off e => HNW.out bb off e,(below_drewN (Below.refl _ _) 1).trans HB.out⟩
def StM (w:World) (p:Addr) (m:Int) (t:Nat) (Q:List (List GF)) (ws:List Int):Prop:=
 ∃ (g:Nat) (pm:Addr) (W:List Nat) (aW:Option Addr) (cW:Nat),p = ⟨g,0,none⟩ ∧ g < w.heap.size ∧ w.cell? ⟨g,0,none⟩ = some (.int .i64 m) ∧ w.cell? ⟨g,1,none⟩ = some (.int .i64 (t:Nat)) ∧ w.cell? ⟨g,2,none⟩ = some (.pointer (some pm)) ∧ w.cell? ⟨g,3,none⟩ = some (.slice aW ws.length cW) ∧ MdM w pm Q W ∧ IA w aW ws.length cW ws
theorem StM.on {w w':World} {p:Addr} {m:Int} {t:Nat} {Q:List (List GF)} {ws:List Int} (h:StM w p m t Q ws) (hb:Below w.heap.size w w'):StM w' p m t Q ws:=by
 obtain ⟨g,pm,W,aW,cW,h1,h2,h3,h4,h5,h6,h7,h8⟩:=h
 exact ⟨g,pm,W,aW,cW,h1,by have:=hb.size;omega,(hb.cell (p:=⟨g,0,none⟩) h2).trans h3,(hb.cell (p:=⟨g,1,none⟩) h2).trans h4,(hb.cell (p:=⟨g,2,none⟩) h2).trans h5,(hb.cell (p:=⟨g,3,none⟩) h2).trans h6,h7.on hb,h8.on hb⟩
theorem b1p {m:Int} {t:Nat} (ht:1 ≤ t):a4l m t ≤ 473:=by
 unfold a4l
 split
 ·omega
 ·exact (a5n ht).2.1
def a9t (ps:List Int) (W:List Nat) (k:Nat):List Value:=((W.take k).map fun i => Value.int .i64 (ps.getD i 0)) ++ (W.drop k).map fun (i:Nat) => Value.int .i64 (i:Int)
theorem c1x (ps:List Int) (W:List Nat):a9t ps W 0 = (zl W).map (Value.int .i64):=by
 unfold a9t zl;rw [List.take_zero,List.drop_zero,List.map_map];rfl
theorem c7m (ps:List Int) (W:List Nat):a9t ps W W.length = (W.map fun i => ps.getD i 0).map (Value.int .i64):=by
 unfold a9t;rw [List.take_length,List.drop_length,List.map_nil,List.append_nil,List.map_map];rfl
theorem d1n {ps:List Int} {W:List Nat} {k:Nat} (h:k < W.length):(a9t ps W k)[k]? = some (.int .i64 ((W.getD k 0:Nat):Int)):=by
 unfold a9t
 have hl:((W.take k).map fun i => Value.int .i64 (ps.getD i 0)).length = k:=by rw [List.length_map,List.length_take];omega
 rw [List.getElem?_append_right (by omega),hl,Nat.sub_self]
 simp [List.getD_eq_getElem?_getD,h]
theorem c4v {ps:List Int} {W:List Nat} {k:Nat} (h:k < W.length):(a9t ps W k).set k (.int .i64 (ps.getD (W.getD k 0) 0)) = a9t ps W (k + 1):=by
 unfold a9t
 have hl:((W.take k).map fun i => Value.int .i64 (ps.getD i 0)).length = k:=by rw [List.length_map,List.length_take];omega
 have e:W.getD k 0 = W[k]:=by simp [List.getD_eq_getElem?_getD,h]
 rw [e,List.set_append_right _ _ (by omega),hl,Nat.sub_self,List.drop_eq_getElem_cons h,List.map_cons,List.set_cons_zero,List.take_add_one,List.getElem?_eq_getElem h]
 simp only [Option.toList_some,List.map_append,List.map_cons,List.map_nil,List.append_assoc,List.cons_append,List.nil_append]
theorem b3h {w:World} {B n c:Nat} {e:TypeId} {a:Option Addr} {vs:List Value} (h:w.ownsRow B e 1 (.slice a n c) n vs) (h0:0 < n):∃ g,a = some ⟨g,0,none⟩:=by
 rcases h.2 with ⟨h1,h2⟩ | ⟨g,c',cs,h1,_⟩
 ·cases h1
  have hl:=h.1
  rw [h2] at hl
  simp at hl
  omega
 ·cases h1
  exact ⟨g,rfl⟩
theorem b4c {w:World} {B n c:Nat} {e:TypeId} {a:Option Addr} {vs:List Value} (h:w.ownsRow B e 1 (.slice a n c) n vs):n ≤ c ∧ c ≤ 9223372036854775807:=by
 rcases h.2 with ⟨h1,h2⟩ | ⟨g,c',cs,h1,h2,h3,h4,h5,_⟩
 ·cases h1;exact ⟨Nat.le_refl _,by omega⟩
 ·cases h1;unfold maxLen at h5;exact ⟨h4,by omega⟩
theorem c8h {X:List GF} {R P:List (List GF)} {n N x:Nat} (h:x ∈ wrI X R P n N):x < N:=by
 unfold wrI at h
 exact List.mem_range.1 (List.mem_filter.1 h).1
theorem e4q {k:Nat} (h:k ≤ 1000):(Lit.int .i64 (k:Int)).wf = true:=d8l (by omega) (by omega)
set_option maxHeartbeats 2000000 in
theorem c8f (b:Nat) (m:Int) (t n c:Nat) (aX:Option Addr) (N cX:Nat) (ps:List Int) (aR:Option Addr) (cR:Nat) (R:List (List GF)) (w:World) (hf:Fld w b) (h:Sh m t n c) (hX:IA w aX N cX ps) (hR:Mat w aR N cR R) (hN:N ≤ 255) (hwd:∀ k,k < N → (rw_ R k).length ≤ 1000) (hin:∀ i,i < N → 1 ≤ ps.getD i 0 ∧ ps.getD i 0 ≤ (n:Int)) (hw:∀ i,i < N → (rw_ R i).length = a4l m t) (hNt:t ≤ N) (hNn:N ≤ n) (Q:List (List GF)) (hN2:N ≤ 200) (hA:Apart (gZ ps)) (hQl:Q.length = a4l m t) (hQ:∀ k,k < a4l m t → a1p (gZ ps) (a6w R N k) t c (rw_ Q k)) :
 Calls Tryz.prog 17 #[.agg #[.int .i64 m,.int .i64 t,.int .i64 n,.int .i64 c],.pointer (some ⟨b,0,none⟩),.slice aX N cX,.slice aR N cR] w fun e w' => ∃ p,e = .returned (.tuple #[.pointer (some p),.int .i64 0]) ∧ StM w' p m t Q ((wrI (gZ ps) R Q (a4l m t) N).map fun i => ps.getD i 0) ∧ Below w.heap.size w w':=by
 have HA:=hJ_ (bxS w #[.int .i64 m,.int .i64 t,.int .i64 n,.int .i64 c] 25)
 have HX:=hJ_ (Bx.new w m t n c)
 have HR:=hJ_ (a4g m t n c (w.alloc (.cells #[.int .i64 m,.int .i64 t,.int .i64 n,.int .i64 c] 25)))
 rw [h.right] at HR
 have q:((N:Int) != (N:Int)) = false:=by simp
 have hb1:=hX.bd
 have hb2:=hR.bd
 have HOUT:=hJ_ (show ∀ W:World,Below w.heap.size w W → Calls Tryz.prog 37 #[.slice aX N cX,.func (.func 38) #[.agg #[.int .i64 m,.int .i64 t,.int .i64 n,.int .i64 c]] #[]] W fun e w' => e = .returned (.bool false) ∧ Below W.heap.size W w' from fun W hW => e4l m t n c aX N cX ps false W (hX.on hW) hN ⟨(fun e => by cases e),fun ⟨i,hi,e⟩ => by have:=hin i hi;unfold c1k at e;simp only [Bool.or_eq_true,decide_eq_true_eq] at e;omega⟩)
 have HUN:=hJ_ (show ∀ W:World,Below w.heap.size w W → Calls Tryz.prog 39 #[.agg #[.int .i64 m,.int .i64 t,.int .i64 n,.int .i64 c],.slice aR N cR] W fun e w' => e = .returned (.bool false) ∧ Below W.heap.size W w' from fun W hW => a4n m t n c aR N cR R false W h (hR.on hW) hwd ⟨(fun e => by cases e),fun ⟨i,hi,e⟩ => absurd (hw i hi) e⟩)
 have hpl:a3a (gZ ps) = 0:=a4a.2 ⟨by rw [c1m,hX.1];have:=h.2;omega,by rw [c1m,hX.1];exact hN,hA⟩
 have q2:¬ (N:Int) < (t:Int):=by omega
 have q3:¬ (n:Int) < (N:Int):=by omega
 have HXX:=hJ_ hX
 have HRR:=hJ_ hR
 have HF:=hJ_ hf
 have HS:=hJ_ h
 have HC:=hJ_ (And.intro hN (And.intro hNt (And.intro hNn (And.intro hwd (And.intro hw hin)))))
 have HE:=hJ_ (And.intro hN2 (And.intro hpl (And.intro hQl (show ∀ k,k < a4l m t → a1p (gZ ps) (a6w R N k) t (c:Int).toNat (rw_ Q k) from hQ))))
 clear h hX hR hw hwd hin hNt hNn hf hA hpl hQ hQl hN2
 go_enter Tryz.func17,Tryz.ntmps17
 go_upto_region 11 with (first
  | (go_at_call 22;go_loud (refine HR.out.mono ?_;rintro e w1 ⟨rfl,hb⟩;have HB1:=hJ_ (bt HA.out hb);have HX1:=hJ_ (HX.out.on hb);have x0:=HX1.out.c0;have x1:=HX1.out.c1;have x2:=HX1.out.c2;have x3:=HX1.out.c3;have HCO:=hJ_ (HOUT.out w1 HB1.out);clear hb))
  | (go_at_call 37;go_loud (refine HCO.out.mono ?_;rintro e w2 ⟨rfl,hb⟩;have HB2:=hJ_ (bt HB1.out hb);have HX2:=hJ_ (HX1.out.on hb);have y0:=HX2.out.c0;have y1:=HX2.out.c1;have y2:=HX2.out.c2;have y3:=HX2.out.c3;have HU:=hJ_ (HUN.out w2 HB2.out);clear hb))
  | (go_at_call 39;go_loud (refine HU.out.mono ?_;rintro e w3 ⟨rfl,hb⟩;have HB3:=hJ_ (bt HB2.out hb);have HX3:=hJ_ (HX2.out.on hb);have z0:=HX3.out.c0;have z1:=HX3.out.c1;have z2:=HX3.out.c2;have z3:=HX3.out.c3;clear hb)))
 have u0:∀ W,Below w3.heap.size w3 W → W.cell? ⟨w.heap.size,0,none⟩ = some (.int .i64 m):=fun W hW => (HX3.out.on hW).c0
 have u1:∀ W,Below w3.heap.size w3 W → W.cell? ⟨w.heap.size,1,none⟩ = some (.int .i64 (t:Nat)):=fun W hW => (HX3.out.on hW).c1
 have u2:∀ W,Below w3.heap.size w3 W → W.cell? ⟨w.heap.size,2,none⟩ = some (.int .i64 (n:Nat)):=fun W hW => (HX3.out.on hW).c2
 have u3:∀ W,Below w3.heap.size w3 W → W.cell? ⟨w.heap.size,3,none⟩ = some (.int .i64 (c:Nat)):=fun W hW => (HX3.out.on hW).c3
 have HNU:=hJ_ (show ∀ W:World,Below w3.heap.size w3 W → Calls Tryz.prog 26 #[.slice aX N cX] W fun e w' => ∃ g,e = .returned (.slice (some ⟨g,0,none⟩) N N) ∧ Pa w' (some ⟨g,0,none⟩) N N (gZ ps) ∧ Below w3.heap.size w3 w' from fun W hW => (a5g aX N cX ps W (HXX.out.on (bt HB3.out hW)) HC.out.1 (fun k hk => by have:=HC.out.2.2.2.2.2 k hk;have:=HS.out.2;omega)).mono fun e w' ⟨g,h1,h2,h3⟩ => ⟨g,h1,h2,bt hW h3⟩)
 go_region_held (fun W => Below w3.heap.size w3 W) (first | assumption | exact (Below.refl _ _).drew | (refine Below.drew ?_;assumption))
  (first
   | (go_at_call 26;go_loud (refine (HNU.out _ (by first | assumption | exact (Below.refl _ _).drew)).mono ?_;rintro e w4 ⟨g4,rfl,hp4,hbw4⟩;have HB4:=hJ_ (bt HB3.out hbw4);have HRO:=hJ_ (rows_ok b N t (a4l m t) c (some ⟨g4,0,none⟩) N (gZ ps) aR cR R Q w4 (HF.out.below HB4.out) hp4 (HRR.out.on HB4.out) (e4q (by have:=HS.out.2;omega)) (by omega) HS.out.2.1 HC.out.2.1 (by have:=HE.out.1;omega) HE.out.2.1 HC.out.2.2.2.2.1 (by have:=b1p (m:=m) HS.out.2.1;omega) HE.out.2.2.1 HE.out.2.2.2);clear hp4))
   | (go_at_call 40;go_loud (refine HRO.out.mono ?_;rintro e w5 ⟨p5,rfl,hmd,hb5⟩;have hbw5:=bt hbw4 hb5;have HB5:=hJ_ (bt HB3.out hbw5);have HMD:=hJ_ hmd;have HX5:=hJ_ (HX3.out.on hbw5);clear hb5 hmd)))
 all_goals
  obtain ⟨W,hWW⟩:∃ W,W = wrI (gZ ps) R Q (a4l m t) N:=⟨_,rfl⟩
  rw [← hWW] at HMD
  have HW:=hJ_ (show ∀ x,x ∈ W → x < N from fun x hx => c8h (by rw [← hWW];exact hx))
  have HWL:=hJ_ (show W.length ≤ N by rw [hWW];exact d6u _ _ _ _ _)
  have HWW:=hJ_ hWW
  clear hWW u0 u1 u2 u3
  have hWO:=c4g p5 Q W w5 HMD.out (by have:=HWL.out;have:=HC.out.1;omega) (fun x hx => by have:=HW.out x hx;have:=HC.out.1;omega)
  have HWO:=hJ_ hWO
  clear hWO
  obtain ⟨L,hL⟩:∃ L,L = W.length:=⟨_,rfl⟩
  have HL:=hJ_ hL
  rw [← hL] at HWO
  clear hL
  go_upto_region 15 with (go_at_call 41;go_loud (refine HWO.out.mono ?_;rintro e w6 ⟨a6,c6,rfl,ho,hb⟩;have hb6:=b4c ho;have HO6:=hJ_ ho;have HB6:=hJ_ hb;clear ho hb))
  have hO0:Hid (w6.ownsRow w5.heap.size 3 1 (.slice a6 L c6) L (a9t ps W 0)):=hJ_ (by rw [c1x];exact HO6.out)
  go_wp2_with fail
  go_loopw [65] (fun j wr => ∃ k:Nat,k ≤ L ∧ j = .int .i64 (k:Nat) ∧ Hid (wr.ownsRow w5.heap.size 3 1 (.slice a6 L c6) L (a9t ps W k)) ∧ Hid (Below w5.heap.size w5 wr)) (fun j _ => L - (intOf j).toNat)
  case atStart => exact ⟨0,Nat.zero_le _,rfl,hO0,HB6⟩
  case round =>
   obtain ⟨k,hk,rfl,hO,hB⟩:=hrel
   rename World => w7
   by_cases hlt:k < L
   ·have qi:(k:Int) < (L:Int):=by omega
    have qi0:(0:Int) ≤ (k:Int):=by omega
    have hkW:k < W.length:=by rw [← HL.out];exact hlt
    obtain ⟨g6,rfl⟩:=b3h hO.out (by omega)
    have hcl:=hO.out.cellAt k (by omega)
    rw [d1n hkW] at hcl
    obtain ⟨x,hx⟩:∃ x,x = W.getD k 0:=⟨_,rfl⟩
    have hxN:x < N:=by
     rw [hx,List.getD_eq_getElem?_getD,List.getElem?_eq_getElem hkW]
     exact HW.out _ (List.getElem_mem hkW)
    rw [← hx] at hcl
    obtain ⟨bp,op,rfl,hbp,hpc⟩:=((HXX.out.on HB5.out).on hB.out).at_ hxN
    have qx:(x:Int) < (N:Int):=by omega
    have qx0:(0:Int) ≤ (x:Int):=by omega
    have hst:=(hO.out.stored k (.int .i64 (ps.getD x 0))).1
    have hfz:=hO.out.frozenAt k
    have hge:=(hO.out.lt g6 rfl).1
    have hset:=c4v (ps:=ps) hkW
    rw [← hx] at hset
    rw [hset] at hst
    have HST:=hJ_ hst
    have HBS:=hJ_ (hB.out.setCell (p:=⟨g6,k,none⟩) hge (.int .i64 (ps.getD x 0)))
    obtain ⟨z,hz⟩:∃ z,z = ps.getD x 0:=⟨_,rfl⟩
    rw [← hz] at hpc HST HBS
    have HLT:=hJ_ hlt
    have hk1000:k ≤ 1000:=by have:=HWL.out;have:=HC.out.1;have:=HL.out;omega
    clear hst hlt hk hset hx hz hge hxN hkW hbp
    go_wp2
    go_roundw
    case rel => exact ⟨k + 1,by have:=HLT.out;omega,by go_num,HST,HBS⟩
    case measure => simp [intOf];have:=HLT.out;omega
   ·obtain rfl:k = L:=by omega
    have ho:=hO.out
    rw [show a9t ps W k = (W.map fun i => ps.getD i 0).map (Value.int .i64) by rw [HL.out];exact c7m ps W] at ho
    have hwl:(W.map fun i => ps.getD i 0).length = k:=by rw [List.length_map];exact HL.out.symm
    have hia:=b5d ho (fun z hz => by
     obtain ⟨i,hi,rfl⟩:=List.mem_map.1 hz
     have:=HC.out.2.2.2.2.2 i (HW.out i hi)
     have:=HS.out.2
     omega)
    have HIA:=hJ_ hia
    have HX7:=hJ_ (HX5.out.on hB.out)
    have v0:=HX7.out.c0;have v1:=HX7.out.c1
    have HWLN:=hJ_ hwl
    clear ho hlt hia hwl
    go_wp2
    go_ret2
    rw [← HWW.out]
    have hal:=(Below.refl w7.heap.size w7).alloc (Nat.le_refl _) (.cells #[.int .i64 m,.int .i64 t,.pointer (some p5),.slice a6 k c6] 77)
    refine ⟨_,rfl,⟨w7.heap.size,p5,W,a6,c6,rfl,by simp,by simp,by simp,by simp,by rw [HWLN.out];simp,(HMD.out.on hB.out).on hal,?_⟩,bt HB5.out (bt hB.out hal)⟩
    rw [HWLN.out]
    exact HIA.out.on hal
theorem Pa.takeN {w:World} {a:Option Addr} {L c:Nat} {P:List GF} (h:Pa w a L c P) {k:Nat} (hk:k ≤ L):Pa w a k c (P.take k):=by
 have hl:=h.len
 have hc:=h.1.2.2.2
 refine ⟨⟨by rw [a0a,List.length_take];omega,a1e _,fun h0 => ?_,by omega,hc.2⟩,h.2⟩
 rw [a0a,List.length_take] at h0
 obtain ⟨b,off,e,hb,hcl⟩:=h.1.2.2.1 (by rw [a0a];omega)
 refine ⟨b,off,e,hb,fun i hi => ?_⟩
 rw [a0a,List.length_take] at hi
 have:=hcl i (by rw [a0a];omega)
 rw [a0k] at this
 rw [a0k,co_take (by omega),← this]
theorem c5w {R:List (List GF)} {k:Nat} (h:k < R.length):flat (R.take (k + 1)) = flat (R.take k) ++ rw_ R k:=by
 unfold flat rw_
 rw [List.take_add_one,List.getElem?_eq_getElem h,List.flatten_append]
 simp [List.getD_eq_getElem?_getD,h]
def b2p (R:List (List GF)) (s k:Nat):List GF:=(flat (R.take k)).take s
theorem b7n {R:List (List GF)} {k:Nat} (h:k < R.length) (s:Nat):b2p R s (k + 1) = b2p R s k ++ (rw_ R k).take (s - (b2p R s k).length):=by
 unfold b2p
 rw [c5w h,List.take_append,List.length_take]
 congr 2
 omega
theorem d9i (R:List (List GF)) (s k:Nat):(b2p R s k).length ≤ s:=by unfold b2p;rw [List.length_take];exact Nat.min_le_left _ _
theorem b1f (R:List (List GF)) (s:Nat):b2p R s 0 = []:=by simp [b2p,flat]
theorem c9n {R:List (List GF)} {t:Nat} (hR:R.length = t) (hw:∀ k,k < t → (rw_ R k).length ≤ 1000) (s:Nat):∀ k,k ≤ t → (b2p R s k).length ≤ k * 1000:=by
 intro k
 induction k with
 | zero => intro _;rw [b1f];simp
 | succ k ih =>
  intro hk
  rw [b7n (by omega),List.length_append,List.length_take]
  have h1:=ih (by omega)
  have h2:=hw k (by omega)
  have:=Nat.min_le_right (s - (b2p R s k).length) (rw_ R k).length
  omega
set_option maxHeartbeats 2000000 in
theorem d4m (t s:Nat) (aR:Option Addr) (cR:Nat) (R:List (List GF)) (w:World) (hR:Mat w aR t cR R) (hs:s ≤ 9223372036854775807) (ht:t ≤ 255) (hw:∀ k,k < t → (rw_ R k).length ≤ 1000) :
 Calls Tryz.prog 74 #[.slice aR t cR,.int .i64 (s:Nat)] w fun e w' => ∃ a' n' c' er,e = .returned (.tuple #[.slice a' n' c',.int .i64 er]) ∧ ((s ≤ (flat R).length → er = 0 ∧ n' = s ∧ Pa w' a' s c' ((flat R).take s)) ∧ ((flat R).length < s → er = 2 ∧ n' = 0)) ∧ Below w.heap.size w w':=by
 obtain ⟨i5,hi,hz0,hz1,hz2⟩:=info_parts info5
 have HI:=hJ_ (And.intro hi (And.intro hz0 (And.intro hz1 hz2)))
 have HR:=hJ_ hR
 have HL:=hJ_ hR.len
 have HW:=hJ_ hw
 have HT:=hJ_ ht
 have hbd:=hR.bd
 have qs:(0:Int) ≤ (s:Int):=by omega
 have qs2:(s:Int) ≤ 9223372036854775807:=by omega
 have HG:=hJ_ (c9n hR.len hw s)
 have HO0:=hJ_ (a6l w 5)
 have HB0:=hJ_ (show Below w.heap.size w (w.alloc (.cells #[] 5)) from (Below.refl _ _).alloc (Nat.le_refl _) _)
 clear hi hz0 hz1 hz2 hR hw ht hs
 go_enter Tryz.func74,Tryz.ntmps74
 go_wp2
 go_loopw [6,14] (fun o j wr => ∃ (k m:Nat) (a:Option Addr) (c:Nat),k ≤ t ∧ j = .int .i64 (k:Nat) ∧ o = .slice a m c ∧ Hid (m = (b2p R s k).length) ∧ Hid (wr.ownsRow w.heap.size 5 1 (.slice a m c) m ((iL (b2p R s k)).map (Value.int .u8))) ∧ Hid (Below w.heap.size w wr))
  (fun _ j _ => t - (intOf j).toNat)
 case atStart => exact ⟨0,0,_,0,Nat.zero_le _,rfl,rfl,hJ_ (by rw [b1f];rfl),by rw [b1f];exact HO0,HB0⟩
 case round =>
  obtain ⟨k,m,a,c,hk,rfl,rfl,HM,HO,HB⟩:=hrel
  rename World => V
  have hms:m ≤ s:=by rw [HM.out];exact d9i _ _ _
  have hmb:m ≤ 255000:=by have:=HG.out k hk;rw [← HM.out] at this;have:=HT.out;omega
  have hmc:m ≤ c ∧ c ≤ 9223372036854775807:=by
   rcases HO.out.2 with ⟨e,h0⟩ | ⟨g,c',cur,e,_,_,h4,h5,_⟩
   ·cases e;omega
   ·cases e;exact ⟨h4,by unfold maxLen at h5;omega⟩
  by_cases hlt:k < t
  ·have q2:(k:Int) < (t:Int):=by omega
   have q3:(0:Int) ≤ (k:Int):=by omega
   obtain ⟨b,off,ai,ci,rfl,hb,hcell,hpa⟩:=(HR.out.on HB.out).row hlt
   have hd1:=hpa.bd
   have HN:=hJ_ (b7n (R:=R) (k:=k) (by rw [HL.out];exact hlt) s)
   have hl1:=HW.out k hlt
   obtain ⟨L,hL⟩:∃ L,L = (rw_ R k).length:=⟨_,rfl⟩
   have HLL:=hJ_ hL
   rw [← hL] at hcell hd1 hpa hl1
   rw [← HM.out] at HN
   obtain ⟨d,hd⟩:∃ d,d = s - m:=⟨_,rfl⟩
   have qd:(s:Int) - (m:Int) = (d:Int):=by omega
   rw [← hd] at HN
   have HKL:=hJ_ hlt
   have HMB:=hJ_ hmb
   by_cases hx:d < L
   ·have qx:(d:Int) < (L:Int):=by omega
    have qx0:(0:Int) ≤ (d:Int):=by omega
    have HPX:=hJ_ (hpa.takeN (k:=d) (by omega))
    have HDB:=hJ_ (show d ≤ 1000 by omega)
    have HDC:=hJ_ (show d ≤ ci by omega)
    clear hpa hx hlt hk hd hL hms hmb hl1
    go_wp2_with ((with_reducible show wpList _ _ _ (⟨some 28,_,_,_,_,_⟩ :: _) _ _);go_loud (refine a0u _ rfl (.tmp 18) (.tmp 27) 22 rfl w.heap.size 5 i5 Tryz.underlying22 HI.out.1 HI.out.2.1 HI.out.2.2.1 HI.out.2.2.2 _ m (iL (b2p R s k)) rfl HO.out ai d ci _ (iL ((rw_ R k).take d)) rfl HPX.out.1.2.2.1 HPX.out.1.1 HPX.out.2 (by have:=HMB.out;have:=HDB.out;omega) (by have:=HB.out.size;omega) ?_;intro v2 V2 hown2 hg2;have hb2:=HB.out.grown hg2 HB.out.size (fun z hz => (HO.out.lt z hz).1);obtain ⟨a2,c2,hv2,_,_,_,_,_⟩:=a0f hown2;subst hv2;rw [show iL (b2p R s k) ++ iL ((rw_ R k).take d) = iL (b2p R s k ++ (rw_ R k).take d) by simp [iL],← HN.out] at hown2;have HO2:=hJ_ hown2;have HB2:=hJ_ hb2;clear hown2 hg2 hb2))
    go_roundw
    case rel => exact ⟨k + 1,m + d,a2,c2,HKL.out,by go_num,rfl,hJ_ (by have:=HO2.out.1;rw [List.length_map,a0a] at this;omega),HO2,HB2⟩
    case measure => simp [intOf];have:=HKL.out;omega
   ·have qx:¬ (d:Int) < (L:Int):=by omega
    have qx0:(0:Int) ≤ (L:Int):=by omega
    have HPX:=hJ_ hpa
    have HDB:=hJ_ hl1
    rw [show (rw_ R k).take d = rw_ R k from List.take_of_length_le (by rw [← hL];omega)] at HN
    clear hpa hx hlt hk hd hL hms hmb hl1
    go_wp2_with ((with_reducible show wpList _ _ _ (⟨some 28,_,_,_,_,_⟩ :: _) _ _);go_loud (refine a0u _ rfl (.tmp 18) (.tmp 27) 22 rfl w.heap.size 5 i5 Tryz.underlying22 HI.out.1 HI.out.2.1 HI.out.2.2.1 HI.out.2.2.2 _ m (iL (b2p R s k)) rfl HO.out ai L ci _ (iL (rw_ R k)) rfl HPX.out.1.2.2.1 HPX.out.1.1 HPX.out.2 (by have:=HMB.out;have:=HDB.out;omega) (by have:=HB.out.size;omega) ?_;intro v2 V2 hown2 hg2;have hb2:=HB.out.grown hg2 HB.out.size (fun z hz => (HO.out.lt z hz).1);obtain ⟨a2,c2,hv2,_,_,_,_,_⟩:=a0f hown2;subst hv2;rw [show iL (b2p R s k) ++ iL (rw_ R k) = iL (b2p R s k ++ rw_ R k) by simp [iL],← HN.out] at hown2;have HO2:=hJ_ hown2;have HB2:=hJ_ hb2;clear hown2 hg2 hb2))
    go_roundw
    case rel => exact ⟨k + 1,m + L,a2,c2,HKL.out,by go_num,rfl,hJ_ (by have:=HO2.out.1;rw [List.length_map,a0a] at this;omega),HO2,HB2⟩
    case measure => simp [intOf];have:=HKL.out;omega
  ·obtain rfl:k = t:=by omega
   have HE:=hJ_ (show b2p R s k = (flat R).take s by unfold b2p;rw [List.take_of_length_le (l:=R) (by rw [HL.out];exact Nat.le_refl _)])
   have HEL:=hJ_ (show m = min s (flat R).length by rw [HM.out,HE.out,List.length_take])
   by_cases hf:s ≤ (flat R).length
   ·have hm:m = s:=by rw [HEL.out];exact Nat.min_eq_left hf
    subst hm
    have HF:=hJ_ hf
    have HO2:=HO.out
    rw [HE.out] at HO2
    obtain ⟨a9,c9,e9,hp9,_⟩:=Pa.own HO2
    cases e9
    have HP:=hJ_ hp9
    have q9:¬ (m:Int) < (m:Int):=by omega
    clear hlt hf HO2 hp9
    go_wp2
    go_ret2
    exact ⟨_,_,_,_,rfl,⟨fun _ => ⟨rfl,rfl,HP.out⟩,fun h => absurd HF.out (by omega)⟩,HB.out⟩
   ·have hm:m < s:=by rw [HEL.out];omega
    have q9:(m:Int) < (s:Int):=by omega
    have HF:=hJ_ hf
    clear hlt hf
    go_wp2
    go_ret2
    exact ⟨_,_,_,_,rfl,⟨fun h => absurd h HF.out,fun _ => ⟨rfl,rfl⟩⟩,HB.out⟩
theorem e8a:e7z:=fun t s aR cR R w hR hs ht hw => by
 have hb:(flat R).length ≤ 255000:=by
  have:=c9n hR.len hw (flat R).length t (Nat.le_refl _)
  rw [show b2p R (flat R).length t = flat R by unfold b2p;rw [List.take_of_length_le (l:=R) (by rw [hR.len];exact Nat.le_refl _),List.take_of_length_le (Nat.le_refl _)]] at this
  omega
 refine (d4m t s aR cR R w hR (by omega) ht hw).mono ?_
 rintro e w' ⟨a',n',c',er,rfl,⟨h1,_⟩,hb⟩
 obtain ⟨rfl,rfl,hp⟩:=h1 hs
 exact ⟨a',c',rfl,hp,hb⟩
theorem e0t (p:Addr) (m:Int) (t:Nat) (Q:List (List GF)) (ws:List Int) (x:Nat) (w:World) (h:StM w p m t Q ws) (hQ:Q.length ≤ 1000) (h1:1 ≤ x) (h2:x ≤ 255) :
 Calls Tryz.prog 20 #[.pointer (some p),.int .i64 (x:Nat)] w fun e w' => ∃ a c,e = .returned (.slice a Q.length c) ∧ Pa w' a Q.length c (evP Q (pl x)) ∧ (∀ bb off,a = some ⟨bb,off,none⟩ → w.heap.size ≤ bb) ∧ Below w.heap.size w w':=by
 obtain ⟨g,pm,W,aW,cW,rfl,hg,c0,c1,c2,c3,hmd,hia⟩:=h
 have HM:=hJ_ (d5n pm Q W (pl x) w hmd hQ)
 rw [c9s (by omega)] at HM
 have k1:∀ [Inhabited Unit],IntKind.u8.wrap (x:Int) = (x:Int):=by intro _;rw [IntKind.wrap_u8];omega
 have q1:¬ (x:Int) < 1:=by omega
 have q2:¬ (255:Int) < (x:Int):=by omega
 clear hmd hia c0 c1 c3
 go_enter Tryz.func20,Tryz.ntmps20
 go_wp2_with (go_at_call 42;go_loud (refine HM.out.mono ?_;rintro e w1 ⟨a1,c1,rfl,hp,hn,hb⟩;have HP:=hJ_ hp;have HN:=hJ_ hn;have HB:=hJ_ hb;clear hp hn hb))
 go_ret
 exact ⟨a1,c1,rfl,HP.out,HN.out,HB.out⟩
theorem d4a {Q:List (List GF)} {t k:Nat} (h:k < t):(stR Q t).take (k + 1) = (stR Q t).take k ++ [evP Q (pl (k + 1))]:=by
 refine a4f ?_
 have e:=a1d (Q:=Q) h
 unfold rw_ at e
 rw [← e]
 simp [List.getD_eq_getElem?_getD,a6c,h]
theorem c0q {Q:List (List GF)}:∀ t:Nat,(flat (stR Q t)).length = t * Q.length
 | 0 => by simp [stR,flat]
 | t + 1 => by
  have e:stR Q (t + 1) = stR Q t ++ [evP Q (pl (t + 1))]:=by simp [stR,List.range_succ]
  have ih:=c0q (Q:=Q) t
  rw [e]
  unfold flat at ih ⊢
  rw [List.flatten_append,List.length_append,ih,List.flatten_singleton,a0v,Nat.succ_mul]
set_option maxHeartbeats 2000000 in
theorem a8v (p:Addr) (m:Int) (t:Nat) (Q:List (List GF)) (ws:List Int) (w:World) (h:StM w p m t Q ws) (hQ:Q.length ≤ 1000) (h1:1 ≤ t) (h2:t ≤ 255) (h3:473 ≤ t * Q.length) :
 Calls Tryz.prog 44 #[.pointer (some p)] w fun e w' => ∃ a c,e = .returned (.slice a 473 c) ∧ Pa w' a 473 c ((flat (stR Q t)).take 473) ∧ Below w.heap.size w w':=by
 have HS:=hJ_ h
 have HT:=hJ_ (And.intro h1 (And.intro h2 (And.intro h3 hQ)))
 obtain ⟨g,pm,W,aW,cW,rfl,hg,c0,c1,c2,c3,hmd,hia⟩:=h
 obtain ⟨n,hn⟩:∃ n,n = Q.length:=⟨_,rfl⟩
 have HQN:=hJ_ hn
 have hmk:=run_make_row' (P:=Tryz.prog) 28 22 (.slice none 0 0) 24 Tryz.underlying28 b1v rfl .i64 .i64 t (by omega) (by omega)
 have hO0:Hid ((w.alloc (.cells (madeCells #[Value.slice none 0 0] t) 22)).ownsRow w.heap.size 22 1 (.slice (some ⟨w.heap.size,0,none⟩) t t) t ([] ++ List.replicate (t - ([]:List Value).length) (.slice none 0 0))):=
  hJ_ (b2f (w:=w) (n:=t) (by unfold maxLen;omega))
 have hB0:Hid (Below w.heap.size w (w.alloc (.cells (madeCells #[Value.slice none 0 0] t) 22))):=hJ_ ((Below.refl _ _).alloc (Nat.le_refl _) _)
 clear hmd hia c0 c2 c3 h1 h2 h3 hQ hn
 go_enter Tryz.func44,Tryz.ntmps44
 go_wp2
 go_loopw [14] (fun j wr => ∃ (i:Nat) (vs:List Value),i ≤ t ∧ vs.length = i ∧ j = .int .i64 (i:Nat) ∧ Hid (wr.ownsRow w.heap.size 22 1 (.slice (some ⟨w.heap.size,0,none⟩) t t) t (vs ++ List.replicate (t - vs.length) (.slice none 0 0))) ∧ Hid (RV wr (fun b => w.heap.size < b) vs ((stR Q t).take i)) ∧ Hid (Below w.heap.size w wr))
  (fun j _ => t - (intOf j).toNat)
 case atStart => exact ⟨0,[],Nat.zero_le _,rfl,rfl,hO0,hJ_ (RV.nil _ _),hB0⟩
 case round =>
  obtain ⟨i,vs,hi,hvl,rfl,hO,hV,hB⟩:=hrel
  rename World => w2
  by_cases hlt:i < t
  ·have qi:(i:Int) < (t:Int):=by omega
   have qi0:(0:Int) ≤ (i:Int):=by omega
   have k1:wrap64 ((i:Int) + 1) = ((i + 1:Nat):Int):=by have:=HT.out;unfold wrap64;omega
   have HVA:=hJ_ (e0t ⟨g,0,none⟩ m t Q ws (i + 1) w2 (HS.out.on hB.out) HT.out.2.2.2 (by omega) (by have:=HT.out;omega))
   rw [← k1,← HQN.out] at HVA
   have HVL:=hJ_ hvl
   have HLT:=hJ_ hlt
   have HII:=hJ_ hi
   have K1:=hJ_ k1
   clear hvl k1 hlt hi
   have hgs:=(hO.out.lt w.heap.size rfl).2
   go_wp2_with (go_at_call 20;go_loud (refine HVA.out.mono ?_;rintro e w3 ⟨aV,cV,rfl,hpv,hnew,hb3⟩;have HPV:=hJ_ hpv;have HNEW:=hJ_ hnew;have HB3:=hJ_ hb3;have HO3:=hJ_ (a0o hO.out hb3);have hfz:=HO3.out.frozenAt i;have hcl:=HO3.out.cellAt i (by have:=HVL.out;have:=HLT.out;simp;omega);rw [List.getElem?_eq_getElem (by have:=HVL.out;have:=HLT.out;simp;omega)] at hcl;clear hpv hnew hb3))
   have hlt:=HLT.out
   have hst:=(HO3.out.stored i (.slice aV n cV)).1
   have hsn:=b5i (vs:=vs) (n:=t) (.slice none 0 0) (.slice aV n cV) (by rw [HVL.out];exact hlt)
   rw [HVL.out] at hsn hst
   rw [hsn] at hst
   have hpv:Pa (w3.setCell ⟨w.heap.size,i,none⟩ (.slice aV n cV)) aV n cV (evP Q (pl (i + 1))):=HPV.out.but (a2u _ _ _ _) (fun bb off e => by have:=HNEW.out bb off e;omega)
   have hrv:RV (w3.setCell ⟨w.heap.size,i,none⟩ (.slice aV n cV)) (fun b => w.heap.size < b) vs ((stR Q t).take i):=hV.out.keep (by have:=HB3.out.size;simp;omega) (fun b h1 h2 => ⟨h2,by rw [Below.heap_setCell _ _ _ _ (by show b ≠ w.heap.size;omega)];exact HB3.out.block b h1⟩)
   have hl:(evP Q (pl (i + 1))).length = n:=by rw [a0v,HQN.out]
   have hmo:=hrv.more (P:=evP Q (pl (i + 1))) (a:=aV) (c:=cV) (by rw [hl];exact hpv) (fun bb off e _ => by have:=HNEW.out bb off e;omega)
   rw [hl,← d4a hlt] at hmo
   have HST:=hJ_ hst;have HMO:=hJ_ hmo
   have HBN:=hJ_ ((hB.out.trans (HB3.out.mono (by omega))).setCell (p:=⟨w.heap.size,i,none⟩) (Nat.le_refl _) (.slice aV n cV))
   have hl2:(vs ++ [Value.slice aV n cV]).length = i + 1:=by rw [List.length_append,HVL.out];rfl
   have hT255:=HT.out.2.1
   clear hst hsn hpv hrv hl hmo
   go_roundw
   case rel => exact ⟨i + 1,vs ++ [.slice aV n cV],by omega,hl2,by rw [K1.out],by rw [hl2];exact HST,HMO,HBN⟩
   case measure => rw [K1.out];simp [intOf];omega
  ·obtain rfl:t = i:=by omega
   have ho:=hO.out
   have hv:=hV.out
   rw [hvl,Nat.sub_self,List.replicate_zero,List.append_nil] at ho
   rw [List.take_of_length_le (by rw [a6c];exact Nat.le_refl _)] at hv
   have hmb:=a4j.ofOwn ho hv (fun b hb => Nat.le_of_lt hb)
   have HGL:=hJ_ (e8a t 473 (some ⟨w.heap.size,0,none⟩) t (stR Q t) w2 hmb.mat (by rw [c0q];exact HT.out.2.2.1) HT.out.2.1 (fun k hk => by rw [a1d hk,a0v];exact HT.out.2.2.2))
   clear ho hv hvl hmb hlt
   go_wp2_with (go_at_call 74;go_loud (refine HGL.out.mono ?_;rintro e w3 ⟨a3,c3,rfl,hp,hb⟩;have HP3:=hJ_ hp;have HB3:=hJ_ (bt hB.out hb);clear hp hb))
   go_ret
   exact ⟨a3,c3,rfl,HP3.out,HB3.out⟩
theorem e0s {m:Int} {t:Nat} {Q:List (List GF)} {B:List GF} (h:Tel m t Q B):Q.length = a4l m t:=by
 obtain ⟨_,⟨rfl,h2,_⟩ | ⟨rfl,⟨K,hK,rfl⟩ | ⟨rfl,_⟩⟩⟩:=h
 ·exact h2
 ·exact (a4y _ t).1
 ·exact c7l _
theorem c1j (n:Nat):b8k (noR n) = true:=b3k fun i _ => a9g n i
theorem e2g (p:Addr) (m:Int) (t:Nat) (Q:List (List GF)) (B:List GF) (ws:List Int) (w:World) (h:StM w p m t Q ws) (hG:Gl w) (h1:1 ≤ t) (h2:t ≤ 255) (hT:Tel m t Q B) :
 Calls Tryz.prog 18 #[.pointer (some p)] w fun e w' => ∃ a c,e = .returned (.tuple #[.slice a 440 c,.int .i64 0]) ∧ Pa w' a 440 c B ∧ Below w.heap.size w w':=by
 have HS:=hJ_ h
 have HL:=hJ_ (e0s hT)
 have HT:=hJ_ (And.intro h1 h2)
 have HG:=hJ_ hG
 obtain ⟨g,pm,W,aW,cW,rfl,hg,c0,c1,c2,c3,hmd,hia⟩:=h
 obtain ⟨hBl,⟨rfl,hQ,hB⟩ | ⟨rfl,hQ⟩⟩:=hT
 ·have hM:=d5n pm Q W 0 w hmd (by omega)
  rw [hB,hQ,a5a] at hM
  have HM:=hJ_ hM
  clear hmd hia c1 c3 h1 h2 hG hM hB hQ
  go_enter Tryz.func18,Tryz.ntmps18
  go_wp2_with (go_at_call 42;go_loud (refine HM.out.mono ?_;rintro e w1 ⟨a1,c1,rfl,hp,hn,hb⟩;have HP:=hJ_ hp;have HB:=hJ_ hb;clear hp hn hb))
  go_ret2
  exact ⟨a1,c1,rfl,HP.out,HB.out⟩
 ·have hbd:=a5n h1
  have hrl:a4l 1 t = ceil 473 t:=rfl
  have HPC:=hJ_ (fun (W':World) (hb:Below w.heap.size w W') => a8v ⟨g,0,none⟩ 1 t Q ws W' (HS.out.on hb) (by rw [HL.out,hrl];omega) h1 h2 (by rw [HL.out,hrl];exact hbd.1))
  have HOP:Hid (∀ (bf:Nat) (a:Option Addr) (c:Nat) (W':World),Gl W' → Fld W' bf → Pa W' a 473 c ((flat (stR Q t)).take 473) → Calls Tryz.prog 43 #[.pointer (some ⟨bf,0,none⟩),.slice a 473 c] W' fun e w' => ∃ a' c',e = .returned (.tuple #[.slice a' 440 c',.int .i64 0]) ∧ Pa w' a' 440 c' B ∧ Below W'.heap.size W' w'):=by
   refine hJ_ (fun bf a c W' hG' hf' hP' => ?_)
   rcases hQ with ⟨K,hK,rfl⟩ | ⟨rfl,rfl⟩
   ·rw [b5u h1 h2 (b0j hK hBl)] at hP'
    exact b9v bf a c K B W' hG' hf' hK hBl hP'
   ·rw [b9r hbd.1] at hP'
    exact e0y bf a c _ W' hP' (c1j 473)
  clear hmd hia c1 c3 h1 h2 hG hQ hbd hrl
  go_enter Tryz.func18,Tryz.ntmps18
  go_wp2_with (first
   | (go_at_call 11;go_loud (refine (b3p _).mono ?_;rintro e w1 ⟨bf,rfl,hbf,hfl,hb⟩;have HF1:=hJ_ hfl;have HB1:=hJ_ hb;have HP1:=hJ_ (HPC.out w1 hb);clear hfl hb))
   | (go_at_call 44;go_loud (refine HP1.out.mono ?_;rintro e w2 ⟨a2,c2,rfl,hp,hb⟩;have HB2:=hJ_ (bt HB1.out hb);have HO2:=hJ_ (HOP.out bf a2 c2 w2 (HG.out.on HB2.out HG.out.1) (HF1.out.below hb) hp);clear hp hb))
   | (go_at_call 43;go_loud (refine HO2.out.mono ?_;rintro e w3 ⟨a3,c3,rfl,hp,hb⟩;have HP3:=hJ_ hp;have HB3:=hJ_ (bt HB2.out hb);clear hp hb)))
  go_ret2
  exact ⟨a3,c3,rfl,HP3.out,HB3.out⟩
theorem e4u (A B:List GF) (h:A.length = B.length):a7i (iL A) (iL B) = iL (a6z A B):=by
 refine a0x (by rw [a0r,a0a,a0a,a0a,a4q,h,Nat.min_self]) fun i hi => ?_
 rw [a0r,a0a,a0a] at hi
 rw [a2r (by rw [a0a,a0a];exact hi),a0k,a0k,a0k,a7p h]
 rfl
theorem e8t (a b:Option Addr) (l ca cb:Nat) (A B:List GF) (w:World) (hA:Pa w a l ca A) (hB:Pa w b l cb B) (hl:l ≤ 1000) :
 Calls Tryz.prog 100 #[.slice a l ca,.slice b l cb] w fun e w' => ∃ g,e = .returned (.slice (some ⟨g,0,none⟩) l l) ∧
  w'.ownsRow w.heap.size 5 1 (.slice (some ⟨g,0,none⟩) l l) l ((iL (a6z A B)).map (Value.int .u8)) ∧ Below w.heap.size w w':=by
 have h:=c8m a b l ca l cb (iL A) (iL B) w hA.1 hB.1 (by omega) (by omega)
 rw [Nat.min_self,e4u A B (by rw [hA.len,hB.len])] at h
 exact h
theorem c9j {vs:List Value} {n:Nat} (z v:Value) (h:vs.length < n):(vs ++ List.replicate (n - vs.length) z).set vs.length v = (vs ++ [v]) ++ List.replicate (n - (vs.length + 1)) z:=by
 rw [List.set_append_right _ _ (Nat.le_refl _),Nat.sub_self,show n - vs.length = (n - (vs.length + 1)) + 1 by omega,List.replicate_succ,List.set_cons_zero,List.append_assoc]
 rfl
theorem a4j.ofOwnV {w:World} {B g n:Nat} {vs:List Value} {M:List (List GF)} {ok:Nat → Prop} (h:w.ownsRow B 22 1 (.slice (some ⟨g,0,none⟩) n n) n vs) (hv:RV w ok vs M) (hok:∀ b,ok b → B ≤ b):a4j w B (some ⟨g,0,none⟩) n n M:=by
 have hl:M.length = n:=by rw [← hv.1,h.1,Nat.mul_one]
 have hg:=h.lt g rfl
 refine ⟨hl,Nat.le_refl _,?_,(fun e => by cases e),vs,hv.keep (Nat.le_refl _) (fun b _ hb => ⟨hok b hb,rfl⟩),fun h0 => ⟨g,0,rfl,hg.2,hg.1,fun i hi => ?_⟩⟩
 ·rcases h.2 with ⟨e,_⟩ | ⟨g',c,cur,e,_,_,h4,h5,_⟩
  ·cases e
  ·cases e;exact h5
 ·rw [Nat.zero_add];exact h.cellAt i (by omega)
theorem c1v {w:World} {n:Nat} (hm:n ≤ maxLen) :
 (w.alloc (.cells (madeCells #[Value.slice none 0 0] n) 22)).ownsRow w.heap.size 22 1 (.slice (some ⟨w.heap.size,0,none⟩) n n) n (List.replicate n (.slice none 0 0)):=by
 have:=World.ownsRow_lit (base:=w.heap.size) (e:=22) (size:=1) w (madeCells #[Value.slice none 0 0] n) n (Nat.le_refl _) hm (by simp [size_madeCells])
 rw [toList_madeCells_one] at this
 exact this
theorem c6k {A B:List (List GF)} {k:Nat} (h:k < A.length):(c8l A B).take (k + 1) = (c8l A B).take k ++ [a6z (rw_ A k) (rw_ B k)]:=by
 refine a4f ?_
 have e:=c1p (A:=A) (B:=B) h
 unfold rw_ at e
 show _ = some (a6z (rw_ A k) (rw_ B k))
 unfold rw_
 rw [← e]
 simp [List.getD_eq_getElem?_getD,b0d,h]
set_option maxHeartbeats 4000000 in
theorem f0c:e9x:=by
 intro L aA cA A aB cB B w hA hB hAB hL hw
 have HA:=hJ_ hA
 have HB:=hJ_ hB
 have HAB:=hJ_ hAB
 have HL:=hJ_ hL
 have HW:=hJ_ hw
 have HAL:=hJ_ hA.len
 have hba:=hA.bd
 have hbb:=hB.bd
 have q:((L:Int) != (L:Int)) = false:=by simp
 have hmk:=run_make_row' (P:=Tryz.prog) 28 22 (.slice none 0 0) 24 Tryz.underlying28 b1v rfl .i64 .i64 L (by omega) (by omega)
 clear hA hB hAB hL hw
 go_enter Tryz.func76,Tryz.ntmps76
 go_wp2
 have hO0:Hid ((w.alloc (.cells (madeCells #[Value.slice none 0 0] L) 22)).ownsRow w.heap.size 22 1 (.slice (some ⟨w.heap.size,0,none⟩) L L) L ([] ++ List.replicate (L - ([]:List Value).length) (.slice none 0 0))):=
  hJ_ (c1v (w:=w) (n:=L) (by unfold maxLen;have:=HL.out;omega))
 have hB0:Hid (Below w.heap.size w (w.alloc (.cells (madeCells #[Value.slice none 0 0] L) 22))):=hJ_ ((Below.refl _ _).alloc (Nat.le_refl _) _)
 obtain ⟨G,hG⟩:∃ G,G = w.heap.size:=⟨_,rfl⟩
 rw [← hG] at hO0 hB0 ⊢
 have HG:=hJ_ hG
 clear hG
 go_loopw [18] (fun j wr => ∃ (i:Nat) (vs:List Value),i ≤ L ∧ j = .int .i64 (i:Nat) ∧ Hid (vs.length = i) ∧ Hid (wr.ownsRow G 22 1 (.slice (some ⟨G,0,none⟩) L L) L (vs ++ List.replicate (L - vs.length) (.slice none 0 0))) ∧ Hid (RV wr (fun b => G < b) vs ((c8l A B).take i)) ∧ Hid (Below G w wr))
  (fun j _ => L - (intOf j).toNat)
 case atStart => exact ⟨0,[],Nat.zero_le _,rfl,hJ_ rfl,hO0,hJ_ (RV.nil _ _),hB0⟩
 case round =>
  obtain ⟨i,vs,hi,rfl,HVL,hO,hV,hBl⟩:=hrel
  rename World => w2
  by_cases hlt:i < L
  ·have hBw:Below w.heap.size w w2:=by rw [← HG.out];exact hBl.out
   obtain ⟨bx,ox,a1,c1,rfl,hbx,hc1,hp1⟩:=(HA.out.on hBw).row hlt
   obtain ⟨by',oy,a2,c2,rfl,hby,hc2,hp2⟩:=(HB.out.on hBw).row hlt
   have hwl:=HW.out i hlt
   have hab:=HAB.out i hlt
   obtain ⟨l,hl⟩:∃ l,l = (rw_ A i).length:=⟨_,rfl⟩
   rw [← hab] at hc2 hp2
   rw [← hl] at hc1 hp1 hc2 hp2 hwl
   have Hl:=hJ_ hl
   have qi:(i:Int) < (L:Int):=by omega
   have qi0:(0:Int) ≤ (i:Int):=by omega
   have ql:((l:Int) != (l:Int)) = false:=by simp
   have hd1:∀ k,(w2.drewN k).cell? ⟨bx,ox + i,none⟩ = some (.slice a1 l c1):=fun k => hc1
   have hd2:∀ k,(w2.drewN k).cell? ⟨by',oy + i,none⟩ = some (.slice a2 l c2):=fun k => hc2
   have HP1:=hJ_ hp1;have HP2:=hJ_ hp2
   have hb1:=hp1.bd;have hb2:=hp2.bd
   have HD1:=hJ_ hd1;have HD2:=hJ_ hd2
   clear hBw hl hab hp1 hp2 hc1 hc2 hlt
   go_wp2_with fail
   go_quiet (fail)
   obtain ⟨w3,h3⟩:∃ V,V = (w2.drewN nq).drew:=⟨_,rfl⟩
   have hdr:Below w2.heap.size w2 w3:=by rw [h3];exact (below_drewN (Below.refl _ _) nq).drew
   have hs3:w3.heap.size = w2.heap.size:=by rw [h3];rfl
   have HXO:=hJ_ (e8t a1 a2 l c1 c2 (rw_ A i) (rw_ B i) w3 (HP1.out.on hdr) (HP2.out.on hdr) hwl)
   have HO3:=hJ_ (a0o hO.out hdr)
   have HS3:=hJ_ hs3
   have HDR:=hJ_ hdr
   have hc1:(w2.drewN nq).drew.cell? ⟨bx,ox + i,none⟩ = some (.slice a1 l c1):=HD1.out nq
   have hc2:(w2.drewN nq).drew.cell? ⟨by',oy + i,none⟩ = some (.slice a2 l c2):=HD2.out nq
   rw [h3] at HXO HO3 HS3 HDR
   clear hdr hs3 h3
   go_wp2_with fail
   go_region_with (go_at_call 100;refine HXO.out.mono ?_;rintro e w4 ⟨g,rfl,hown,hb4⟩;have HO4:=hJ_ hown;have HB4:=hJ_ hb4;have HSU:=hJ_ (a0o HO3.out hb4);have hfz:=HSU.out.frozenAt i;have hcl:=HSU.out.cellAt i (by have:=HVL.out;simp;omega);rw [List.getElem?_eq_getElem (by have:=HVL.out;simp;omega)] at hcl;clear hown hb4)
   all_goals
    have hst:=(HSU.out.stored i (.slice (some ⟨g,0,none⟩) l l)).1
    have hsn:=c9j (vs:=vs) (n:=L) (.slice none 0 0) (.slice (some ⟨g,0,none⟩) l l) (by rw [HVL.out];omega)
    rw [HVL.out] at hsn hst
    rw [hsn] at hst
    have hgl:=(HO4.out.lt g rfl).1
    have hGl:=(HSU.out.lt G rfl).2
    have hGl2:=(hO.out.lt G rfl).2
    have hs3:=HS3.out
    have hs4:=HB4.out.size
    have hpv:Pa (w4.setCell ⟨G,i,none⟩ (.slice (some ⟨g,0,none⟩) l l)) (some ⟨g,0,none⟩) l l (a6z (rw_ A i) (rw_ B i)):=(Pa.own2 HO4.out).but (a2u _ _ _ _) (fun bb off e => by cases e;omega)
    have hrv:RV (w4.setCell ⟨G,i,none⟩ (.slice (some ⟨g,0,none⟩) l l)) (fun b => G < b) vs ((c8l A B).take i):=hV.out.keep (by simp;omega) (fun b h1 h2 => ⟨h2,by rw [Below.heap_setCell _ _ _ _ (by show b ≠ G;omega)];exact (HB4.out.block b (by omega)).trans (HDR.out.block b h1)⟩)
    have hl9:(a6z (rw_ A i) (rw_ B i)).length = l:=by rw [a4q];exact Hl.out.symm
    have hmo:=hrv.more (P:=a6z (rw_ A i) (rw_ B i)) (a:=some ⟨g,0,none⟩) (c:=l) (by rw [hl9];exact hpv) (fun bb off e _ => by cases e;omega)
    rw [hl9,← c6k (by rw [HAL.out];omega)] at hmo
    have HST:=hJ_ hst;have HMO:=hJ_ hmo
    have HBN:=hJ_ (((hBl.out.trans (HDR.out.mono (by omega))).trans (HB4.out.mono (by omega))).setCell (p:=⟨G,i,none⟩) (Nat.le_refl _) (.slice (some ⟨g,0,none⟩) l l))
    have hl2:(vs ++ [Value.slice (some ⟨g,0,none⟩) l l]).length = i + 1:=by rw [List.length_append,HVL.out];rfl
    have HL2:=hJ_ hl2
    rw [← hl2] at HST
    clear hst hsn hpv hrv hmo hl9 hl2 hcl hfz hgl hGl hGl2 hs3 hs4
    go_wp2
    go_roundw
    case rel => exact ⟨i + 1,vs ++ [.slice (some ⟨g,0,none⟩) l l],by omega,by go_num,HL2,HST,HMO,HBN⟩
    case measure => simp [intOf];omega
  ·obtain rfl:L = i:=by omega
   have ho:=hO.out
   have hv:=hV.out
   rw [HVL.out,Nat.sub_self,List.replicate_zero,List.append_nil] at ho
   rw [List.take_of_length_le (by rw [b0d,HAL.out];exact Nat.le_refl _)] at hv
   have hmb:=a4j.ofOwnV ho hv (fun b hb => by omega)
   rw [HG.out] at hmb hBl
   have HMB:=hJ_ hmb
   clear ho hv hmb
   go_wp2
   go_ret2
   exact ⟨_,_,rfl,by rw [HG.out];exact HMB.out,hBl.out⟩
end Go.Proofs.YtappfdbmhgifcaaGreatDoor
