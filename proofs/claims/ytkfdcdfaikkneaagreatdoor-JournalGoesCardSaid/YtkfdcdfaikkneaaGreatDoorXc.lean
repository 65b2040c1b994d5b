/- Package journal: Sectors, homeless, answers, laid, homeOf, the two places of shares. -/
import Derived.Test.YtkfdcdfaikkneaaGreatDoorXb
namespace Go.Proofs.YtkfdcdfaikkneaaGreatDoor
open Go.ChangeShapes Go.WideShapes Go.ChangeAt Go.RowKit Go.Shelf
set_option linter.unusedVariables false
set_option linter.unusedSimpArgs false
set_option maxRecDepth 100000
attribute [local go_sem] Oper.semAt_some

def sectN (x : Int) : Int := if 1 ≤ x ∧ x ≤ 1024 then 18 + x else 0
theorem sectors_any (x : Int) (w : World) (hx : i64R x) :
    Calls Tryz.prog 23 #[.int .i64 x] w fun e w' => e = .returned (.int .i64 (sectN x)) ∧ w = w' := by
  unfold i64R at hx
  obtain ⟨N, hN⟩ : ∃ N, N = sectN x := ⟨_, rfl⟩
  rw [← hN]
  unfold sectN at hN
  by_cases h1 : x < 1
  · have HN := Lib.hid (show N = 0 by rw [hN, if_neg (by omega)])
    clear hN
    go_enter Tryz.func23, Tryz.ntmps23
    go_wp2
    go_ret
    exact ⟨by rw [HN.out]; rfl, rfl⟩
  · by_cases h2 : 1024 < x
    · have HN := Lib.hid (show N = 0 by rw [hN, if_neg (by omega)])
      clear hN
      go_enter Tryz.func23, Tryz.ntmps23
      go_wp2
      go_ret
      exact ⟨by rw [HN.out]; rfl, rfl⟩
    · have HN := Lib.hid (show N = 18 + x by rw [hN, if_pos (by omega)])
      clear hN
      go_enter Tryz.func23, Tryz.ntmps23
      go_wp2
      go_ret
      exact ⟨by rw [HN.out]; rfl, rfl⟩
variable {tb : Nat} {F F' Fp : Nat → Prop} {S : MS} {pp : Option Nat} {l : Int} {u j : Nat}
def noHome (S : MS) (x : Int) : Bool := decide (x < 0 ∨ (S.size : Int) - 18 ≤ x)
set_option maxHeartbeats 1000000 in
theorem homeless_any {w : World} (h : MJ w tb F S pp Fp l u j) (x : Int) (hx : i64R x) :
    Calls Tryz.prog 32 #[tbV tb, .int .i64 x] w fun e w' => e = .returned (.bool (noHome S x)) ∧ Below w.heap.size w w' := by
  unfold i64R at hx
  have HL := Lib.hid (medLen_any tb F S pp w h.r h.ok)
  have hs2 := h.ok.size2
  obtain ⟨N, hN⟩ : ∃ N, N = S.size := ⟨_, rfl⟩
  have HNO : noHome S x = decide (x < 0 ∨ (N : Int) - 18 ≤ x) := by rw [hN]; rfl
  rw [← hN] at HL hs2
  rw [HNO]
  clear HNO hN
  obtain ⟨r, hr⟩ : ∃ r, r = decide (x < 0 ∨ (N : Int) - 18 ≤ x) := ⟨_, rfl⟩
  rw [← hr]
  clear h
  by_cases h1 : x < 0
  · have HD := Lib.hid (show r = true by rw [hr]; exact decide_eq_true (.inl h1))
    clear hr HL
    go_enter Tryz.func32, Tryz.ntmps32
    go_wp2_with fail
    go_ret
    exact ⟨by rw [HD.out]; rfl, Below.refl _ _⟩
  · by_cases h2 : (N : Int) - 18 ≤ x
    · have HD := Lib.hid (show r = true by rw [hr]; exact decide_eq_true (.inr h2))
      clear hr
      go_enter Tryz.func32, Tryz.ntmps32
      go_wp2_with (go_at_call 59; go_loud (refine HL.out.mono ?_; rintro e w1 ⟨rfl, hb⟩; have HB := Lib.hid hb; clear hb))
      go_ret
      exact ⟨by rw [HD.out]; rfl, HB.out⟩
    · have HD := Lib.hid (show r = false by rw [hr]; exact decide_eq_false (fun h => h.elim h1 h2))
      clear hr
      go_enter Tryz.func32, Tryz.ntmps32
      go_wp2_with (go_at_call 59; go_loud (refine HL.out.mono ?_; rintro e w1 ⟨rfl, hb⟩; have HB := Lib.hid hb; clear hb))
      go_ret
      exact ⟨by rw [HD.out]; exact ret_bool (decide_eq_false (by omega)), HB.out⟩
theorem ansE_or (S : MS) (l : Int) : ansE S l = 0 ∨ ansE S l = 9 := by unfold ansE; split <;> simp
set_option maxHeartbeats 1000000 in
theorem answers_any {w : World} (h : MJ w tb F S pp Fp l u j) (hj : j ≤ 999) :
    Calls Tryz.prog 42 #[tbV tb] w fun e w' => e = .returned (.int .i64 (ansE S l)) ∧ Below w.heap.size w w' := by
  have HR := Lib.hid (jread h hj (i := 0) (by unfold i64R; omega))
  have hc := ansE_read h.ok l u
  obtain ⟨E, hE⟩ : ∃ E, E = (opRead S 0 l u).err := ⟨_, rfl⟩
  obtain ⟨O, hO⟩ : ∃ O, O = (opRead S 0 l u).out := ⟨_, rfl⟩
  obtain ⟨X, hX⟩ : ∃ X, X = ansE S l := ⟨_, rfl⟩
  rw [← hE, ← hX] at hc
  rw [← hE, ← hO] at HR
  rw [← hX]
  clear hE hO hX h
  rcases hc with ⟨rfl, hc⟩ | ⟨hc, hc2⟩
  · have HC := Lib.hid hc
    clear hc
    go_enter Tryz.func42, Tryz.ntmps42
    go_wp2_with (go_at_call 26; go_loud (refine HR.out.mono ?_; rintro e w1 ⟨a, c, rfl, -, hb⟩; have HB := Lib.hid hb; clear hb))
    go_ret
    exact ⟨by rw [HC.out]; rfl, HB.out⟩
  · have HC := Lib.hid hc2
    have q : (E == 10) = false := by rw [beq_eq_false_iff_ne]; exact hc
    clear hc hc2
    go_enter Tryz.func42, Tryz.ntmps42
    go_wp2_with (go_at_call 26; go_loud (refine HR.out.mono ?_; rintro e w1 ⟨a, c, rfl, -, hb⟩; have HB := Lib.hid hb; clear hb))
    go_ret
    exact ⟨by rw [HC.out]; rfl, HB.out⟩
def layS (S : MS) (s : SH) : List Int := if layOk S s then s.B else []
def layE (S : MS) (s : SH) : Int := if layOk S s then 0 else 2
set_option maxHeartbeats 1000000 in
theorem laid_any {w : World} (h : MJ w tb F S pp Fp l u j) (s : SH) (a : Option Addr) (n k : Nat) (hw : s.Wf) (hx : Arg8c w a n k s.row) (hn : n ≤ 500) :
    Calls Tryz.prog 73 #[tbV tb, shG s (.slice a n k)] w fun e w' => ∃ a2 k2, e = .returned (.tuple #[.slice a2 (layS S s).length k2, .int .i64 (layE S s)]) ∧ Arg8c w' a2 (layS S s).length k2 (layS S s) ∧ NewS w a2 (layS S s).length ∧ Below w.heap.size w w' := by
  obtain ⟨LS, hLS⟩ : ∃ LS, LS = layS S s := ⟨_, rfl⟩
  obtain ⟨LE, hLE⟩ : ∃ LE, LE = layE S s := ⟨_, rfl⟩
  rw [← hLS, ← hLE]
  unfold layS at hLS
  unfold layE at hLE
  have hst := hw.st
  obtain ⟨A, hA⟩ : ∃ A, A = w.alloc (.cells #[.int .u8 s.m, .int .u8 s.p, .int .u32 s.st, .int .u64 s.g, .slice a n k] 54) := ⟨_, rfl⟩
  have hwA : Below w.heap.size w A := by rw [hA]; exact (Below.refl _ _).alloc (Nat.le_refl _) _
  have r1 : A.heap[w.heap.size]? = some (.cells #[.int .u8 s.m, .int .u8 s.p, .int .u32 s.st, .int .u64 s.g, .slice a n k] 54 (0, 0)) := by rw [hA]; exact heap_alloc_new w _
  have hAs : A.heap.size = w.heap.size + 1 := by rw [hA]; simp
  have HHO := Lib.hid (homeless_any (h.on hwA) s.st (by unfold i64R; omega))
  have HSB := Lib.hid (fun W (hW : Below A.heap.size A W) => shareBytes_any s a n k W hw (hx.onV (bt hwA hW)) hn)
  have hc2 := (cell5 r1).2.2.1
  rw [hA] at hc2
  have HA := Lib.hid (And.intro hA (And.intro hwA (And.intro hAs r1)))
  obtain ⟨b, hb⟩ : ∃ b, b = noHome S s.st := ⟨_, rfl⟩
  rw [← hb] at HHO
  unfold noHome at hb
  clear hA hwA r1 hAs h hx
  unfold shG at HSB ⊢
  cases b
  · have h1 : ¬ (s.st < 0 ∨ (S.size : Int) - 18 ≤ s.st) := of_decide_eq_false hb.symm
    have HQ := Lib.hid (show LS = s.S ∧ LE = s.E by
      by_cases ho : s.Ok
      · rw [hLS, hLE, if_pos ⟨by omega, ho⟩, if_pos ⟨by omega, ho⟩, (SH.S_ok ho).1, (SH.S_ok ho).2]; exact ⟨rfl, rfl⟩
      · rw [hLS, hLE, if_neg (fun h => ho h.2), if_neg (fun h => ho h.2), (SH.S_no ho).1, (SH.S_no ho).2]; exact ⟨rfl, rfl⟩)
    clear hb hLS hLE h1
    go_enter Tryz.func73, Tryz.ntmps73
    go_wp2_with (first
      | (go_at_call 32; go_loud (rw [← HA.out.1]; refine HHO.out.mono ?_; rintro e w1 ⟨rfl, hb1⟩; obtain ⟨c0, c1, c2, c3, c4⟩ := cell5 ((hb1.block _ (by rw [HA.out.2.2.1]; omega)).trans HA.out.2.2.2); have HB1 := Lib.hid hb1; clear hb1))
      | (go_at_call 94; go_loud (refine (HSB.out _ HB1.out).mono ?_; rintro e w2 ⟨a2, k2, rfl, hx2, hn2, hb2⟩; have HX2 := Lib.hid (And.intro hx2 (And.intro hn2 hb2)); clear hx2 hn2 hb2)))
    go_ret2
    have hb1 := bt HA.out.2.1 HB1.out
    exact ⟨a2, k2, by rw [HQ.out.1, HQ.out.2]; rfl, by rw [HQ.out.1]; exact HX2.out.1, by rw [HQ.out.1]; exact fun h0 b o e => Nat.le_trans hb1.size (HX2.out.2.1 h0 b o e), bt hb1 HX2.out.2.2⟩
  · have h1 : s.st < 0 ∨ (S.size : Int) - 18 ≤ s.st := of_decide_eq_true hb.symm
    have HQ := Lib.hid (show LS = [] ∧ LE = 2 by
      rw [hLS, hLE, if_neg (fun h => by have := h.1; omega), if_neg (fun h => by have := h.1; omega)]; exact ⟨rfl, rfl⟩)
    clear hb hLS hLE h1
    go_enter Tryz.func73, Tryz.ntmps73
    go_wp2_with (go_at_call 32; go_loud (rw [← HA.out.1]; refine HHO.out.mono ?_; rintro e w1 ⟨rfl, hb1⟩; have HB1 := Lib.hid hb1; clear hb1))
    go_ret2
    exact ⟨none, 0, by rw [HQ.out.1, HQ.out.2]; rfl, by rw [HQ.out.1]; exact arg8c_nil _, fun h => by rw [HQ.out.1] at h; simp at h, bt HA.out.2.1 HB1.out⟩
set_option maxHeartbeats 1000000 in
theorem homeOf_any (s : SH) (v : Value) (w : World) (hw : s.Wf) (hv : v.oneCell' = true) :
    Calls Tryz.prog 45 #[shG s v] w fun e w' => e = .returned (.int .i64 (18 + s.st)) ∧ Below w.heap.size w w' := by
  have hst := hw.st
  have hc2 := (cell5 (heap_alloc_new w (.cells #[.int .u8 s.m, .int .u8 s.p, .int .u32 s.st, .int .u64 s.g, v] 54))).2.2.1
  have HB := Lib.hid (show Below w.heap.size w (w.alloc (.cells #[.int .u8 s.m, .int .u8 s.p, .int .u32 s.st, .int .u64 s.g, v] 54)) from (Below.refl _ _).alloc (Nat.le_refl _) _)
  unfold shG
  go_enter Tryz.func45, Tryz.ntmps45
  go_wp2_with fail
  go_ret
  exact ⟨rfl, HB.out⟩
set_option maxHeartbeats 1000000 in
theorem whereH_any (i : Nat) (s : SH) (a : Option Addr) (n k : Nat) (w : World) (hw : s.Wf) :
    Calls Tryz.prog 44 #[.int .i64 (i : Nat), shG s (.slice a n k)] w fun e w' => e = .returned (.int .i64 (whH i s : Nat)) ∧ Below w.heap.size w w' := by
  have hst := hw.st
  obtain ⟨c0, c1, c2, c3, c4⟩ := cell5 (heap_alloc_new w (.cells #[.int .u8 s.m, .int .u8 s.p, .int .u32 s.st, .int .u64 s.g, .slice a n k] 54))
  have HB := Lib.hid (show Below w.heap.size w (w.alloc (.cells #[.int .u8 s.m, .int .u8 s.p, .int .u32 s.st, .int .u64 s.g, .slice a n k] 54)) from (Below.refl _ _).alloc (Nat.le_refl _) _)
  have HH := fun W => Lib.hid (homeOf_any s (.slice a n k) W hw rfl)
  have HE := Lib.hid (show ((whH i s : Nat) : Int) = 18 + s.st by unfold whH; omega)
  unfold shG at HH ⊢
  go_enter Tryz.func44, Tryz.ntmps44
  go_wp2_with (go_at_call 45; go_loud (refine (HH _).out.mono ?_; rintro e w1 ⟨rfl, hb⟩; have HB1 := Lib.hid hb; clear hb))
  go_ret
  exact ⟨by rw [HE.out]; rfl, bt HB.out HB1.out⟩
set_option maxHeartbeats 1000000 in
theorem whereS_any (i : Nat) (s : SH) (a : Option Addr) (n k : Nat) (w : World) (hi : i ≤ 100) :
    Calls Tryz.prog 41 #[.int .i64 (i : Nat), shG s (.slice a n k)] w fun e w' => e = .returned (.int .i64 (whS i s : Nat)) ∧ Below w.heap.size w w' := by
  have HB := Lib.hid (show Below w.heap.size w (w.alloc (.cells #[.int .u8 s.m, .int .u8 s.p, .int .u32 s.st, .int .u64 s.g, .slice a n k] 54)) from (Below.refl _ _).alloc (Nat.le_refl _) _)
  have HE := Lib.hid (show ((whS i s : Nat) : Int) = 2 + (i : Int) by unfold whS; omega)
  unfold shG
  go_enter Tryz.func41, Tryz.ntmps41
  go_wp2_with fail
  go_ret
  exact ⟨by rw [HE.out]; rfl, HB.out⟩
end Go.Proofs.YtkfdcdfaikkneaaGreatDoor
