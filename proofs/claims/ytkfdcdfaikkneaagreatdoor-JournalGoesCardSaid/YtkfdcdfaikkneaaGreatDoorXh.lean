/- Package journal: Look, Settled. -/
import Derived.Test.YtkfdcdfaikkneaaGreatDoorXg
namespace Go.Proofs.YtkfdcdfaikkneaaGreatDoor
open Go.ChangeShapes Go.WideShapes Go.ChangeAt Go.RowKit Go.Shelf
set_option linter.unusedVariables false
set_option linter.unusedSimpArgs false
set_option maxRecDepth 100000
attribute [local go_sem] Oper.semAt_some

def stG (c : CM) (v : Value) : Value := .agg #[.int .u8 c.st, .int .u8 c.n, .int .u64 c.g, v]
theorem sizeSt : (Tryz.prog.info? 48).map (·.size) = some 4 := by kernel_rfl
theorem cell4 {W : World} {b : Nat} {x0 x1 x2 x3 : Value} {T : TypeId} (h : W.heap[b]? = some (.cells #[x0, x1, x2, x3] T (0, 0))) : W.cell? ⟨b, 0, none⟩ = some x0 ∧ W.cell? ⟨b, 1, none⟩ = some x1 ∧ W.cell? ⟨b, 2, none⟩ = some x2 ∧ W.cell? ⟨b, 3, none⟩ = some x3 :=
  ⟨by rw [cell_of_row W b 0 _ _ _ h]; rfl, by rw [cell_of_row W b 1 _ _ _ h]; rfl, by rw [cell_of_row W b 2 _ _ _ h]; rfl, by rw [cell_of_row W b 3 _ _ _ h]; rfl⟩
theorem free4 {W : World} {b : Nat} {x0 x1 x2 x3 : Value} {T : TypeId} (h : W.heap[b]? = some (.cells #[x0, x1, x2, x3] T (0, 0))) : (W.cell? ⟨b, 0, none⟩ = some x0 ∧ W.cell? ⟨b, 1, none⟩ = some x1 ∧ W.cell? ⟨b, 2, none⟩ = some x2 ∧ W.cell? ⟨b, 3, none⟩ = some x3) ∧ (∀ j, W.frozen? ⟨b, j, none⟩ = false) :=
  ⟨cell4 h, fun j => frozen_of_row W b j _ _ h⟩
def set4 (W : World) (g : Nat) (x0 x1 x2 x3 : Value) : World := (((W.setCell ⟨g, 0, none⟩ x0).setCell ⟨g, 1, none⟩ x1).setCell ⟨g, 2, none⟩ x2).setCell ⟨g, 3, none⟩ x3
theorem set4_row {W : World} {g : Nat} {T : TypeId} {a0 a1 a2 a3 : Value} (x0 x1 x2 x3 : Value) (h : W.heap[g]? = some (.cells #[a0, a1, a2, a3] T (0, 0))) : (set4 W g x0 x1 x2 x3).heap[g]? = some (.cells #[x0, x1, x2, x3] T (0, 0)) :=
  heap_setCell_same _ g 3 _ T x3 (heap_setCell_same _ g 2 _ T x2 (heap_setCell_same _ g 1 _ T x1 (heap_setCell_same _ g 0 _ T x0 h)))
theorem set4_other (W : World) (g : Nat) (x0 x1 x2 x3 : Value) {k : Nat} (h : k ≠ g) : (set4 W g x0 x1 x2 x3).heap[k]? = W.heap[k]? :=
  (heap_setCell_other _ ⟨g, 3, none⟩ k _ h).trans ((heap_setCell_other _ ⟨g, 2, none⟩ k _ h).trans ((heap_setCell_other _ ⟨g, 1, none⟩ k _ h).trans (heap_setCell_other W ⟨g, 0, none⟩ k _ h)))
theorem set4_below {B : Nat} {V W : World} (h : Below B V W) {g : Nat} (hg : B ≤ g) (x0 x1 x2 x3 : Value) : Below B V (set4 W g x0 x1 x2 x3) :=
  (((h.setCell (p := ⟨g, 0, none⟩) hg x0).setCell (p := ⟨g, 1, none⟩) hg x1).setCell (p := ⟨g, 2, none⟩) hg x2).setCell (p := ⟨g, 3, none⟩) hg x3
theorem results_look (tmps : Array Value) (w : World) (g : Nat) (x0 x1 x2 x3 v : Value) (h2 : tmps.getD 2 undef = .pointer (some ⟨g, 0, none⟩)) (h3 : tmps.getD 3 undef = v) (hg : w.heap[g]? = some (.cells #[x0, x1, x2, x3] 48 (0, 0))) :
    (results Tryz.f10 tmps).run Tryz.prog w = .ok (.tuple #[.agg #[x0, x1, x2, x3], v]) w := by
  have h2' : tmps[2]?.getD undef = .pointer (some ⟨g, 0, none⟩) := by simpa using h2
  have h3' : tmps[3]?.getD undef = v := by simpa using h3
  have hr := run_loadVar_row (P := Tryz.prog) w g 48 48 #[x0, x1, x2, x3] (0, 0) _ hg Tryz.underlying48 rfl sizeSt
  simp [results, Tryz.f10, h2', h3', asAddr, hr]
theorem set3_other (W : World) (g : Nat) (x0 x1 x2 : Value) {k : Nat} (h : k ≠ g) : (set3 W g x0 x1 x2).heap[k]? = W.heap[k]? :=
  (heap_setCell_other _ ⟨g, 2, none⟩ k _ h).trans ((heap_setCell_other _ ⟨g, 1, none⟩ k _ h).trans (heap_setCell_other W ⟨g, 0, none⟩ k _ h))
/-- Is it settled? -/
def stdB (c : CM) (g : Int) : Bool := decide ((c.st = 1 ∨ c.st = 2) ∧ c.g = g)
set_option maxHeartbeats 2000000 in
theorem settled_any (c : CM) (v : Value) (g : Int) (w : World) (hv : v.oneCell' = true) :
    Calls Tryz.prog 11 #[stG c v, .int .u64 g] w fun e w' => e = .returned (.bool (stdB c g)) ∧ Below w.heap.size w w' := by
  obtain ⟨r, hr⟩ : ∃ r, r = stdB c g := ⟨_, rfl⟩
  rw [← hr]
  unfold stdB at hr
  unfold stG
  obtain ⟨c0, c1, c2, c3⟩ := cell4 (heap_alloc_new w (.cells #[.int .u8 c.st, .int .u8 c.n, .int .u64 c.g, v] 48))
  have HB := Lib.hid (show Below w.heap.size w (w.alloc (.cells #[.int .u8 c.st, .int .u8 c.n, .int .u64 c.g, v] 48)) from (Below.refl _ _).alloc (Nat.le_refl _) _)
  by_cases h1 : c.st = 1
  · have q1 : (c.st == 1) = true := by rw [h1]; rfl
    by_cases hg : c.g = g
    · have HD := Lib.hid (show r = true by rw [hr]; exact decide_eq_true ⟨.inl h1, hg⟩)
      have q3 : (c.g == g) = true := by rw [hg]; simp
      clear h1 hg hr
      go_enter Tryz.func11, Tryz.ntmps11
      go_wp2
      go_ret
      exact ⟨by rw [HD.out]; rfl, HB.out⟩
    · have HD := Lib.hid (show r = false by rw [hr]; exact decide_eq_false fun h => hg h.2)
      have q3 : (c.g == g) = false := by rw [beq_eq_false_iff_ne]; exact hg
      clear h1 hg hr
      go_enter Tryz.func11, Tryz.ntmps11
      go_wp2
      go_ret
      exact ⟨by rw [HD.out]; rfl, HB.out⟩
  · have q1 : (c.st == 1) = false := by rw [beq_eq_false_iff_ne]; exact h1
    by_cases h2 : c.st = 2
    · have q2 : (c.st == 2) = true := by rw [h2]; rfl
      by_cases hg : c.g = g
      · have HD := Lib.hid (show r = true by rw [hr]; exact decide_eq_true ⟨.inr h2, hg⟩)
        have q3 : (c.g == g) = true := by rw [hg]; simp
        clear h1 h2 hg hr
        go_enter Tryz.func11, Tryz.ntmps11
        go_wp2
        go_ret
        exact ⟨by rw [HD.out]; rfl, HB.out⟩
      · have HD := Lib.hid (show r = false by rw [hr]; exact decide_eq_false fun h => hg h.2)
        have q3 : (c.g == g) = false := by rw [beq_eq_false_iff_ne]; exact hg
        clear h1 h2 hg hr
        go_enter Tryz.func11, Tryz.ntmps11
        go_wp2
        go_ret
        exact ⟨by rw [HD.out]; rfl, HB.out⟩
    · have q2 : (c.st == 2) = false := by rw [beq_eq_false_iff_ne]; exact h2
      have HD := Lib.hid (show r = false by rw [hr]; exact decide_eq_false fun h => h.1.elim h1 h2)
      clear h1 h2 hr
      go_enter Tryz.func11, Tryz.ntmps11
      go_wp2
      go_ret
      exact ⟨by rw [HD.out]; rfl, HB.out⟩
variable {tb : Nat} {F F' Fp : Nat → Prop} {S : MS} {pp : Option Nat} {l : Int} {u j : Nat}
def lookE (S : MS) : Int := match S.shows 1 with
  | none => 10
  | some b => cmE b
def lookC (S : MS) : CM := match S.shows 1 with
  | none => ⟨0, 0, 0⟩
  | some b => if cmE b = 0 then cmZ b else ⟨0, 0, 0⟩
def lookL (S : MS) : List SH := if lookE S = 0 then slotL S else []
/-- What Look tells. -/
def LookPost (S : MS) (w : World) (e : Ending) (w' : World) : Prop := ∃ a c Z, e = .returned (.tuple #[stG (lookC S) (.slice a Z.length c), .int .i64 (lookE S)]) ∧ L_ Z = lookL S ∧ SlR w.heap.size w' a c Z ∧ Z.length ≤ 16 ∧ Below w.heap.size w w'
theorem slR_nil (B : Nat) (w : World) : SlR B w none 0 [] := ⟨World.ownsRow_nil _ _ _ _, fun z hz => (by cases hz), fun z hz => (by cases hz), fun z hz => (by cases hz)⟩
theorem SlR.low {B B' : Nat} {w : World} {a : Option Addr} {c : Nat} {Z : List SZ} (h : SlR B w a c Z) (hb : B' ≤ B) : SlR B' w a c Z := ⟨own_low h.own hb, h.row, h.apart, fun z hz h0 b o e => Nat.le_trans hb (h.new z hz h0 b o e)⟩
set_option maxHeartbeats 8000000 in
theorem look_any {w : World} (h : MJ w tb F S pp Fp l u j) (hj : j ≤ 999) (hd : S.down = false) (hl : l ≠ 0) (h18 : 18 ≤ S.size) :
    Calls Tryz.prog 10 #[tbV tb] w (LookPost S w) := by
  obtain ⟨A, hA⟩ : ∃ A, A = w.alloc (.cells #[.int .u8 0, .int .u8 0, .int .u64 0, .slice none 0 0] 48) := ⟨_, rfl⟩
  have hwA : Below w.heap.size w A := by rw [hA]; exact (Below.refl _ _).alloc (Nat.le_refl _) _
  have hAs : A.heap.size = w.heap.size + 1 := by rw [hA]; simp
  have r1 : A.heap[w.heap.size]? = some (.cells #[.int .u8 0, .int .u8 0, .int .u64 0, .slice none 0 0] 48 (0, 0)) := by rw [hA]; exact heap_alloc_new w _
  have hr := jread (i := (1 : Nat)) (h.on hwA) hj (by unfold i64R; omega)
  rw [opRead_in hd hl (by omega)] at hr
  have HSL := Lib.hid (fun (U : World) (hU : Below A.heap.size A U) => slots_any (h.on (bt hwA hU)) hj hd hl h18)
  have hok := h.ok
  have HA := Lib.hid (And.intro hA (And.intro hwA (And.intro hAs r1)))
  have hLK : ∀ e w', LookPost S w e w' ↔ ∃ a c Z, e = .returned (.tuple #[stG (lookC S) (.slice a Z.length c), .int .i64 (lookE S)]) ∧ L_ Z = lookL S ∧ SlR w.heap.size w' a c Z ∧ Z.length ≤ 16 ∧ Below w.heap.size w w' := fun _ _ => Iff.rfl
  have HLK := Lib.hid hLK
  clear h hd hl h18 hA hwA hAs r1 hLK
  cases hS : S.shows 1 with
  | none =>
    have HV := Lib.hid (show lookE S = 10 ∧ lookC S = ⟨0, 0, 0⟩ ∧ lookL S = [] from by
      have e1 : lookE S = 10 := by unfold lookE; rw [hS]
      exact ⟨e1, by unfold lookC; rw [hS], by unfold lookL; rw [e1]; rfl⟩)
    rw [hS] at hr
    dsimp only at hr
    have HR := Lib.hid hr
    clear hr hS
    go_enter Tryz.func10, Tryz.ntmps10
    go_wp2_with (go_at_call 26; go_loud (rw [← HA.out.1]; refine HR.out.mono ?_; rintro e w1 ⟨a, c, rfl, -, hb⟩; have r3 := (hb.block _ (by rw [HA.out.2.2.1]; omega)).trans HA.out.2.2.2; have R3 := Lib.hid r3; have HB := Lib.hid hb; obtain ⟨⟨z0, z1, z2, z3⟩, zf⟩ := free4 r3; clear hb r3))
    refine bodyPost_ret (v := .tuple #[.agg #[.int .u8 0, .int .u8 0, .int .u64 0, .slice none 0 0], .int .i64 10]) (results_look _ _ w.heap.size _ _ _ _ _ rfl rfl (set4_row _ _ _ _ R3.out)) rfl ((HLK.out _ _).2 ⟨none, 0, [], by rw [HV.out.1, HV.out.2.1]; rfl, by rw [HV.out.2.2]; rfl, slR_nil _ _, by simp, set4_below (bt HA.out.2.1 HB.out) (Nat.le_refl _) _ _ _ _⟩)
  | some b =>
    have hb512 := (hok.shows hS).1
    rw [hS] at hr
    dsimp only at hr
    rw [hb512] at hr
    have HR := Lib.hid hr
    have HPC := Lib.hid (fun (a : Option Addr) (k : Nat) (W : World) (hx : Arg8c W a 512 k b) => parseCommit_any a 512 k b W hx (by omega))
    have HBL := Lib.hid (fun (a : Option Addr) (k : Nat) (W : World) (hx : Arg8c W a 512 k b) => blankJ a 512 k b W hx)
    have hE : lookE S = cmE b := by unfold lookE; rw [hS]
    have hC : lookC S = if cmE b = 0 then cmZ b else ⟨0, 0, 0⟩ := by unfold lookC; rw [hS]
    obtain ⟨q, hq⟩ : ∃ q, q = zeroL b := ⟨_, rfl⟩
    rw [← hq] at HBL
    clear hr hS hok
    cases q
    · have f1 : cmE b = pcmE b := by unfold cmE; rw [← hq]; rfl
      have f2 : cmZ b = pcmZ b := by unfold cmZ; rw [← hq]; rfl
      rw [f1] at hE hC
      rw [f2] at hC
      clear hq f1 f2
      obtain ⟨E, hEE⟩ : ∃ E, E = pcmE b := ⟨_, rfl⟩
      obtain ⟨C, hCC⟩ : ∃ C, C = pcmZ b := ⟨_, rfl⟩
      rw [← hEE, ← hCC] at HPC hC
      rw [← hEE] at hE
      unfold cmA at HPC
      by_cases hE0 : E = 0
      · have HV := Lib.hid (show lookE S = 0 ∧ lookC S = C ∧ lookL S = slotL S from ⟨by rw [hE, hE0], by rw [hC, if_pos hE0], by unfold lookL; rw [if_pos (by rw [hE, hE0])]⟩)
        subst hE0
        clear hE hC hEE hCC
        go_enter Tryz.func10, Tryz.ntmps10
        go_upto_region 7 with (first
          | (go_at_call 26; go_loud (rw [← HA.out.1]; refine HR.out.mono ?_; rintro e w1 ⟨a, c, rfl, hx, hb⟩; have HX := Lib.hid hx; have HB := Lib.hid hb; clear hx hb))
          | (go_at_call 27; go_loud (refine (HBL.out a c _ (HX.out.onV ((Below.refl _ _).alloc (Nat.le_refl _) _))).mono ?_; rintro e w2 ⟨rfl, rfl⟩))
          | (go_at_call 28; go_loud (refine (HPC.out a c _ (HX.out.onV ((Below.refl _ _).alloc (Nat.le_refl _) _))).mono ?_; rintro e w3 ⟨rfl, hb3⟩; have rC := (hb3.block w1.heap.size (by simp)).trans (heap_alloc_new w1 _); have RC := Lib.hid rC; have HB3 := Lib.hid (bt ((Below.refl _ _).alloc (Nat.le_refl _) _) hb3); obtain ⟨⟨d0, d1, d2⟩, df⟩ := free3 rC; clear rC hb3)))
        obtain ⟨X, hX⟩ : ∃ X, X = set3 w3 w1.heap.size (.int .u8 C.st) (.int .u8 C.n) (.int .u64 C.g) := ⟨_, rfl⟩
        have hXX : ((w3.setCell ⟨w1.heap.size, 0, none⟩ (.int .u8 C.st)).setCell ⟨w1.heap.size, 1, none⟩ (.int .u8 C.n)).setCell ⟨w1.heap.size, 2, none⟩ (.int .u64 C.g) = X := hX.symm
        rw [hXX]
        have rC : X.heap[w1.heap.size]? = some (.cells #[.int .u8 C.st, .int .u8 C.n, .int .u64 C.g] 46 (0, 0)) := by rw [hX]; exact set3_row _ _ _ RC.out
        have rS : X.heap[w.heap.size]? = some (.cells #[.int .u8 0, .int .u8 0, .int .u64 0, .slice none 0 0] 48 (0, 0)) := by
          have h1 : w.heap.size < w1.heap.size := by have := HB.out.size; have := HA.out.2.2.1; omega
          rw [hX]
          exact (set3_other w3 w1.heap.size _ _ _ (by omega)).trans ((HB3.out.block _ h1).trans ((HB.out.block _ (by have := HA.out.2.2.1; omega)).trans HA.out.2.2.2))
        have hAX : Below A.heap.size A X := by rw [hX]; exact set3_below (bt HB.out HB3.out) HB.out.size _ _ _
        clear d0 d1 d2 df hXX
        have HAX := Lib.hid hAX
        have HWX := Lib.hid (show Below w.heap.size w X from bt HA.out.2.1 hAX)
        have hrC := rC
        have hrS := rS
        have RCX := Lib.hid rC
        have RSX := Lib.hid rS
        obtain ⟨e0, e1, e2⟩ := cell3 hrC
        obtain ⟨⟨y0, y1, y2, y3⟩, yf⟩ := free4 hrS
        clear hrC hrS rC rS hAX hX
        go_wp2_with fail
        go_region_with (go_at_call 29; go_loud (refine (HSL.out _ (by first | exact HAX.out | exact HAX.out.drew)).mono ?_; rintro e w5 ⟨a5, c5, Z, rfl, hL5, hS5, hn5, hb5⟩; have hb6 : Below X.heap.size X w5 := (by first | exact hb5 | exact bt ((Below.refl _ _).drew) hb5); have r5 := (hb6.block _ (Array.getElem?_eq_some_iff.1 RCX.out).1).trans RCX.out; have s5 := (hb6.block _ (Array.getElem?_eq_some_iff.1 RSX.out).1).trans RSX.out; obtain ⟨k0, k1, k2⟩ := cell3 r5; obtain ⟨⟨z0, z1, z2, z3⟩, zf⟩ := free4 s5; have S5 := Lib.hid s5; have H5 := Lib.hid (And.intro hL5 (And.intro hS5 hn5)); have HB6 := Lib.hid hb6; clear r5 s5 hL5 hS5 hn5 hb5 hb6))
        all_goals
          go_wp2_with fail
          have hsz : w.heap.size + 1 ≤ X.heap.size := by have := HAX.out.size; have := HA.out.2.2.1; omega
          have hbx := bt HWX.out HB6.out
          have hdr : X.drew.heap.size = X.heap.size := rfl
          refine bodyPost_ret (v := .tuple #[.agg #[.int .u8 C.st, .int .u8 C.n, .int .u64 C.g, .slice a5 Z.length c5], .int .i64 0]) (results_look _ _ w.heap.size _ _ _ _ _ rfl rfl (set4_row _ _ _ _ S5.out)) rfl ((HLK.out _ _).2 ⟨a5, c5, Z, by rw [HV.out.1, HV.out.2.1]; rfl, by rw [HV.out.2.2]; exact H5.out.1, ⟨own_blockT (own_low H5.out.2.1.own HWX.out.size) (fun g' e => set4_other _ _ _ _ _ _ ?_), fun z hz => ⟨(H5.out.2.1.row z hz).1, (H5.out.2.1.row z hz).2.1, (H5.out.2.1.row z hz).2.2.blockT (fun h0 b' o e => set4_other _ _ _ _ _ _ ?_)⟩, H5.out.2.1.apart, fun z hz h0 b' o e => Nat.le_trans HWX.out.size (H5.out.2.1.new z hz h0 b' o e)⟩, H5.out.2.2, set4_below hbx (Nat.le_refl _) _ _ _ _⟩)
          · have := (own_lt H5.out.2.1.own e).1; omega
          · have := H5.out.2.1.new z hz h0 b' o e; omega
      · have HV := Lib.hid (show lookE S = E ∧ lookC S = ⟨0, 0, 0⟩ ∧ lookL S = [] from ⟨hE, by rw [hC, if_neg hE0], by unfold lookL; rw [if_neg (by rw [hE]; exact hE0)]⟩)
        have qE : (E == 0) = false := by rw [beq_eq_false_iff_ne]; exact hE0
        clear hE hC hEE hCC hE0
        go_enter Tryz.func10, Tryz.ntmps10
        go_upto_region 7 with (first
          | (go_at_call 26; go_loud (rw [← HA.out.1]; refine HR.out.mono ?_; rintro e w1 ⟨a, c, rfl, hx, hb⟩; have HX := Lib.hid hx; have HB := Lib.hid hb; clear hx hb))
          | (go_at_call 27; go_loud (refine (HBL.out a c _ (HX.out.onV ((Below.refl _ _).alloc (Nat.le_refl _) _))).mono ?_; rintro e w2 ⟨rfl, rfl⟩))
          | (go_at_call 28; go_loud (refine (HPC.out a c _ (HX.out.onV ((Below.refl _ _).alloc (Nat.le_refl _) _))).mono ?_; rintro e w3 ⟨rfl, hb3⟩; have rC := (hb3.block w1.heap.size (by simp)).trans (heap_alloc_new w1 _); have RC := Lib.hid rC; have HB3 := Lib.hid (bt ((Below.refl _ _).alloc (Nat.le_refl _) _) hb3); obtain ⟨⟨d0, d1, d2⟩, df⟩ := free3 rC; clear rC hb3)))
        obtain ⟨X, hX⟩ : ∃ X, X = set3 w3 w1.heap.size (.int .u8 C.st) (.int .u8 C.n) (.int .u64 C.g) := ⟨_, rfl⟩
        have hXX : ((w3.setCell ⟨w1.heap.size, 0, none⟩ (.int .u8 C.st)).setCell ⟨w1.heap.size, 1, none⟩ (.int .u8 C.n)).setCell ⟨w1.heap.size, 2, none⟩ (.int .u64 C.g) = X := hX.symm
        rw [hXX]
        have rS : X.heap[w.heap.size]? = some (.cells #[.int .u8 0, .int .u8 0, .int .u64 0, .slice none 0 0] 48 (0, 0)) := by
          have h1 : w.heap.size < w1.heap.size := by have := HB.out.size; have := HA.out.2.2.1; omega
          rw [hX]
          exact (set3_other w3 w1.heap.size _ _ _ (by omega)).trans ((HB3.out.block _ h1).trans ((HB.out.block _ (by have := HA.out.2.2.1; omega)).trans HA.out.2.2.2))
        have hAX : Below A.heap.size A X := by rw [hX]; exact set3_below (bt HB.out HB3.out) HB.out.size _ _ _
        have HAX := Lib.hid hAX
        have RSX := Lib.hid rS
        have hrS := rS
        obtain ⟨⟨y0, y1, y2, y3⟩, yf⟩ := free4 hrS
        clear d0 d1 d2 df hXX hX hAX rS hrS
        go_wp2_with fail
        refine bodyPost_ret (v := .tuple #[.agg #[.int .u8 0, .int .u8 0, .int .u64 0, .slice none 0 0], .int .i64 E]) (results_look _ _ w.heap.size _ _ _ _ _ rfl rfl (set4_row _ _ _ _ RSX.out)) rfl ((HLK.out _ _).2 ⟨none, 0, [], by rw [HV.out.1, HV.out.2.1]; rfl, by rw [HV.out.2.2]; rfl, slR_nil _ _, by simp, set4_below (bt HA.out.2.1 HAX.out) (Nat.le_refl _) _ _ _ _⟩)
    · have f1 : cmE b = 0 := by unfold cmE; rw [← hq]; rfl
      have f2 : cmZ b = ⟨0, 0, 0⟩ := by unfold cmZ; rw [← hq]; rfl
      rw [f1] at hE hC
      rw [f2, if_pos rfl] at hC
      have HV := Lib.hid (show lookE S = 0 ∧ lookC S = ⟨0, 0, 0⟩ ∧ lookL S = slotL S from ⟨hE, hC, by unfold lookL; rw [if_pos hE]⟩)
      clear hq f1 f2 hE hC
      go_enter Tryz.func10, Tryz.ntmps10
      go_upto_region 9 with (first
        | (go_at_call 26; go_loud (rw [← HA.out.1]; refine HR.out.mono ?_; rintro e w1 ⟨a, c, rfl, hx, hb⟩; have HX := Lib.hid hx; have HB := Lib.hid hb; clear hx hb))
        | (go_at_call 27; go_loud (refine (HBL.out a c _ (HX.out.onV ((Below.refl _ _).alloc (Nat.le_refl _) _))).mono ?_; rintro e w2 ⟨rfl, rfl⟩)))
      obtain ⟨X, hX⟩ : ∃ X, X = w1.alloc (.cells #[.int .u8 0, .int .u8 0, .int .u64 0] 46) := ⟨_, rfl⟩
      rw [← hX]
      have hsw : w.heap.size < w1.heap.size := by have := HB.out.size; have := HA.out.2.2.1; omega
      have rC : X.heap[w1.heap.size]? = some (.cells #[.int .u8 0, .int .u8 0, .int .u64 0] 46 (0, 0)) := by rw [hX]; exact heap_alloc_new w1 _
      have rS : X.heap[w.heap.size]? = some (.cells #[.int .u8 0, .int .u8 0, .int .u64 0, .slice none 0 0] 48 (0, 0)) := by
        rw [hX]
        exact (heap_alloc_old w1 _ hsw).trans ((HB.out.block _ (by have := HA.out.2.2.1; omega)).trans HA.out.2.2.2)
      have hAX : Below A.heap.size A X := by rw [hX]; exact bt HB.out ((Below.refl _ _).alloc (Nat.le_refl _) _)
      clear hsw
      have HAX := Lib.hid hAX
      have HWX := Lib.hid (show Below w.heap.size w X from bt HA.out.2.1 hAX)
      have hrC := rC
      have hrS := rS
      have RCX := Lib.hid rC
      have RSX := Lib.hid rS
      obtain ⟨e0, e1, e2⟩ := cell3 hrC
      obtain ⟨⟨y0, y1, y2, y3⟩, yf⟩ := free4 hrS
      clear hrC hrS rC rS hAX hX
      go_region_with (go_at_call 29; go_loud (refine (HSL.out _ (by first | exact HAX.out | exact HAX.out.drew)).mono ?_; rintro e w5 ⟨a5, c5, Z, rfl, hL5, hS5, hn5, hb5⟩; have hb6 : Below X.heap.size X w5 := (by first | exact hb5 | exact bt ((Below.refl _ _).drew) hb5); have r5 := (hb6.block _ (Array.getElem?_eq_some_iff.1 RCX.out).1).trans RCX.out; have s5 := (hb6.block _ (Array.getElem?_eq_some_iff.1 RSX.out).1).trans RSX.out; obtain ⟨k0, k1, k2⟩ := cell3 r5; obtain ⟨⟨z0, z1, z2, z3⟩, zf⟩ := free4 s5; have S5 := Lib.hid s5; have H5 := Lib.hid (And.intro hL5 (And.intro hS5 hn5)); have HB6 := Lib.hid hb6; clear r5 s5 hL5 hS5 hn5 hb5 hb6))
      all_goals
        go_wp2_with fail
        have hsz : w.heap.size + 1 ≤ X.heap.size := by have := HAX.out.size; have := HA.out.2.2.1; omega
        have hbx := bt HWX.out HB6.out
        have hdr : X.drew.heap.size = X.heap.size := rfl
        refine bodyPost_ret (v := .tuple #[.agg #[.int .u8 0, .int .u8 0, .int .u64 0, .slice a5 Z.length c5], .int .i64 0]) (results_look _ _ w.heap.size _ _ _ _ _ rfl rfl (set4_row _ _ _ _ S5.out)) rfl ((HLK.out _ _).2 ⟨a5, c5, Z, by rw [HV.out.1, HV.out.2.1]; rfl, by rw [HV.out.2.2]; exact H5.out.1, ⟨own_blockT (own_low H5.out.2.1.own HWX.out.size) (fun g' e => set4_other _ _ _ _ _ _ ?_), fun z hz => ⟨(H5.out.2.1.row z hz).1, (H5.out.2.1.row z hz).2.1, (H5.out.2.1.row z hz).2.2.blockT (fun h0 b' o e => set4_other _ _ _ _ _ _ ?_)⟩, H5.out.2.1.apart, fun z hz h0 b' o e => Nat.le_trans HWX.out.size (H5.out.2.1.new z hz h0 b' o e)⟩, H5.out.2.2, set4_below hbx (Nat.le_refl _) _ _ _ _⟩)
        · have := (own_lt H5.out.2.1.own e).1; omega
        · have := H5.out.2.1.new z hz h0 b' o e; omega
end Go.Proofs.YtkfdcdfaikkneaaGreatDoor
