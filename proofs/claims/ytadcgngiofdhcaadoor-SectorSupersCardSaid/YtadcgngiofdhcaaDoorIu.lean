/- Package sector: a super's counts, known, cursors; slices.Contains of bools. -/
import Derived.Test.YtadcgngiofdhcaaDoorIt
import Derived.Test.YtadcgngiofdhcaaDoorIl
import Derived.Test.YtadcgngiofdhcaaDoorUnp
import Derived.Laws.Cover1
namespace Go.Proofs.YtadcgngiofdhcaaDoor
open Go.ChangeShapes Go.WideShapes Go.ChangeAt Go.RowKit Go.Shelf
set_option linter.unusedVariables false
set_option linter.unusedSimpArgs false
set_option maxRecDepth 100000
attribute [local go_sem] Oper.semAt_some

/-- At b lies a super. -/
def SuB (w : World) (b : Nat) (P : SU) : Prop := Blk w b 30 276 (suV P)
theorem su_box (P : SU) (w : World) : Below w.heap.size w (w.alloc (.cells (tabV 276 (suV P)) 30)) ∧ SuB (w.alloc (.cells (tabV 276 (suV P)) 30)) w.heap.size P :=
  ⟨(Below.refl _ _).alloc (Nat.le_refl _) _, Blk.made _ _ _ _⟩
theorem SuB.num {w : World} {b : Nat} {P : SU} (h : SuB w b P) : w.cell? ⟨b, 8, none⟩ = some (.int .u8 P.p) ∧ w.cell? ⟨b, 9, none⟩ = some (.int .u8 P.n) ∧ w.cell? ⟨b, 10, none⟩ = some (.int .u8 P.t) ∧ w.cell? ⟨b, 11, none⟩ = some (.int .u8 P.m) ∧ w.cell? ⟨b, 12, none⟩ = some (.int .u8 P.c) ∧
    w.cell? ⟨b, 13, none⟩ = some (.int .u32 P.bl) ∧ w.cell? ⟨b, 14, none⟩ = some (.int .u32 P.bo) ∧ w.cell? ⟨b, 15, none⟩ = some (.int .u32 P.ep) ∧ w.cell? ⟨b, 272, none⟩ = some (.int .u32 P.rf) ∧ w.cell? ⟨b, 273, none⟩ = some (.int .u32 P.sc) ∧ w.cell? ⟨b, 274, none⟩ = some (.int .u8 P.tg) ∧ w.cell? ⟨b, 275, none⟩ = some (.int .u32 P.rs) :=
  ⟨h.cell (by omega), h.cell (by omega), h.cell (by omega), h.cell (by omega), h.cell (by omega), h.cell (by omega), h.cell (by omega), h.cell (by omega), h.cell (by omega), h.cell (by omega), h.cell (by omega), h.cell (by omega)⟩
theorem SuB.inn {w : World} {b : Nat} {P : SU} (h : SuB w b P) {j : Nat} (hj : j < 256) : w.cell? ⟨b, 16 + j, none⟩ = some (.bool (P.inn.getD j false)) := by
  have := h.cell (j := 16 + j) (by omega)
  rw [suV_in P hj] at this
  exact this
theorem SuB.nm {w : World} {b : Nat} {P : SU} (h : SuB w b P) {j : Nat} (hj : j < 8) : w.cell? ⟨b, j, none⟩ = some (.int .u8 (P.nm.getD j 0)) := by
  have := h.cell (j := j) (by omega)
  rw [suV_nm P hj] at this
  exact this
set_option maxHeartbeats 4000000 in
theorem counts_any (P : SU) (hP : P.Wf) (w : World) :
    Calls Tryd.prog 14 #[suA P] w fun e w' => e = .returned (.bool (decide P.Ok1)) ∧ Below w.heap.size w w' := by
  obtain ⟨r, hr0⟩ : ∃ r, r = decide P.Ok1 := ⟨_, rfl⟩
  have hr : r = true ↔ P.Ok1 := by rw [hr0]; exact decide_eq_true_iff
  rw [← hr0]
  clear hr0
  obtain ⟨HB, HS⟩ := su_box P w
  obtain ⟨c8, c9, c10, c11, c12, c13, c14, c15, c272, c273, c274, c275⟩ := HS.num
  have HB := Lib.hid HB
  obtain ⟨s0, hs0⟩ : ∃ s, s = tabV 276 (suV P) := ⟨_, rfl⟩
  unfold suA
  rw [← hs0] at HB c8 c9 c10 c11 c12 c13 c14 c15 c272 c273 c274 c275 ⊢
  clear hs0 HS
  unfold SU.Ok1 at hr
  obtain ⟨p, hp⟩ : ∃ p, p = P.p := ⟨_, rfl⟩
  obtain ⟨n, hn⟩ : ∃ p, p = P.n := ⟨_, rfl⟩
  obtain ⟨t, ht⟩ : ∃ p, p = P.t := ⟨_, rfl⟩
  obtain ⟨m, hm⟩ : ∃ p, p = P.m := ⟨_, rfl⟩
  obtain ⟨c, hc⟩ : ∃ p, p = P.c := ⟨_, rfl⟩
  rw [← hp, ← hn, ← ht, ← hm, ← hc] at hr
  rw [← hp] at c8
  rw [← hn] at c9
  rw [← ht] at c10
  rw [← hm] at c11
  rw [← hc] at c12
  clear hp hn ht hm hc c13 c14 c15 c272 c273 c274 c275
  by_cases k0 : 1 ≤ p
  case neg =>
    have HD := Lib.hid (show r = false from Bool.eq_false_iff.2 (fun hh => k0 (hr.1 hh).1))
    clear hr
    go_enter Tryd.func14, Tryd.ntmps14
    go_wp2
    go_ret
    exact ⟨by rw [HD.out]; rfl, HB.out⟩
  case pos =>
    by_cases k1 : p ≤ n
    case neg =>
      have HD := Lib.hid (show r = false from Bool.eq_false_iff.2 (fun hh => k1 (hr.1 hh).2.1))
      clear hr
      go_enter Tryd.func14, Tryd.ntmps14
      go_wp2
      go_ret
      exact ⟨by rw [HD.out]; rfl, HB.out⟩
    case pos =>
      by_cases k2 : 1 ≤ t
      case neg =>
        have HD := Lib.hid (show r = false from Bool.eq_false_iff.2 (fun hh => k2 (hr.1 hh).2.2.1))
        clear hr
        go_enter Tryd.func14, Tryd.ntmps14
        go_wp2
        go_ret
        exact ⟨by rw [HD.out]; rfl, HB.out⟩
      case pos =>
        by_cases k3 : t ≤ n
        case neg =>
          have HD := Lib.hid (show r = false from Bool.eq_false_iff.2 (fun hh => k3 (hr.1 hh).2.2.2.1))
          clear hr
          go_enter Tryd.func14, Tryd.ntmps14
          go_wp2
          go_ret
          exact ⟨by rw [HD.out]; rfl, HB.out⟩
        case pos =>
          by_cases k4 : m < 2
          case neg =>
            have HD := Lib.hid (show r = false from Bool.eq_false_iff.2 (fun hh => k4 (hr.1 hh).2.2.2.2.1))
            clear hr
            go_enter Tryd.func14, Tryd.ntmps14
            go_wp2
            go_ret
            exact ⟨by rw [HD.out]; rfl, HB.out⟩
          case pos =>
            by_cases k5 : c ≤ 127
            case neg =>
              have HD := Lib.hid (show r = false from Bool.eq_false_iff.2 (fun hh => k5 (hr.1 hh).2.2.2.2.2))
              clear hr
              go_enter Tryd.func14, Tryd.ntmps14
              go_wp2
              go_ret
              exact ⟨by rw [HD.out]; rfl, HB.out⟩
            case pos =>
              have HD := Lib.hid (show r = true from hr.2 ⟨k0, k1, k2, k3, k4, k5⟩)
              clear hr
              go_enter Tryd.func14, Tryd.ntmps14
              go_wp2
              go_ret
              exact ⟨by rw [HD.out]; rfl, HB.out⟩
set_option maxHeartbeats 4000000 in
theorem cursors_any (P : SU) (hP : P.Wf) (w : World) :
    Calls Tryd.prog 16 #[suA P] w fun e w' => e = .returned (.bool (decide P.Ok3)) ∧ Below w.heap.size w w' := by
  obtain ⟨r, hr0⟩ : ∃ r, r = decide P.Ok3 := ⟨_, rfl⟩
  have hr : r = true ↔ P.Ok3 := by rw [hr0]; exact decide_eq_true_iff
  rw [← hr0]
  clear hr0
  obtain ⟨HB, HS⟩ := su_box P w
  obtain ⟨c8, c9, c10, c11, c12, c13, c14, c15, c272, c273, c274, c275⟩ := HS.num
  have HB := Lib.hid HB
  obtain ⟨s0, hs0⟩ : ∃ s, s = tabV 276 (suV P) := ⟨_, rfl⟩
  unfold suA
  rw [← hs0] at HB c8 c9 c10 c11 c12 c13 c14 c15 c272 c273 c274 c275 ⊢
  clear hs0 HS
  unfold SU.Ok3 at hr
  have b1 := hP.bl
  have b2 := hP.rf
  have b3 := hP.sc
  have b4 := hP.rs
  unfold u32I at b1 b2 b3 b4
  obtain ⟨n, hn⟩ : ∃ p, p = P.n := ⟨_, rfl⟩
  obtain ⟨bl, hbl⟩ : ∃ p, p = P.bl := ⟨_, rfl⟩
  obtain ⟨rf, hrf⟩ : ∃ p, p = P.rf := ⟨_, rfl⟩
  obtain ⟨sc, hsc⟩ : ∃ p, p = P.sc := ⟨_, rfl⟩
  obtain ⟨tg, htg⟩ : ∃ p, p = P.tg := ⟨_, rfl⟩
  obtain ⟨rs, hrs⟩ : ∃ p, p = P.rs := ⟨_, rfl⟩
  rw [← hn, ← hbl, ← hrf, ← hsc, ← htg, ← hrs] at hr
  rw [← hbl] at b1 c13
  rw [← hrf] at b2 c272
  rw [← hsc] at b3 c273
  rw [← hrs] at b4 c275
  rw [← hn] at c9
  rw [← htg] at c274
  obtain ⟨mx, hmx⟩ : ∃ m, m = max rf (max sc rs) := ⟨_, rfl⟩
  have hr : r = true ↔ (1 ≤ bl ∧ bl ≤ 1024 ∧ mx ≤ bl + 1 ∧ tg ≤ n) := by rw [hr]; omega
  have km : ∀ (ts : Array TypeId) (t : TypeId) (W : World), (Builtin.max_ ts t #[.int .u32 rf, .int .u32 sc, .int .u32 rs]).run Tryd.prog W = .ok (.int .u32 mx) W := fun ts t W => by
    rw [run_max_int3]
    congr 2
    by_cases h1 : sc > rf
    · rw [if_pos h1]
      by_cases h2 : rs > sc
      · rw [if_pos h2]; omega
      · rw [if_neg h2]; omega
    · rw [if_neg h1]
      by_cases h2 : rs > rf
      · rw [if_pos h2]; omega
      · rw [if_neg h2]; omega
  have b5 : 0 ≤ mx := by omega
  clear hn hbl hrf hsc htg hrs hmx b2 b3 b4 c8 c10 c11 c12 c14 c15
  by_cases k0 : 1 ≤ bl
  case neg =>
    have HD := Lib.hid (show r = false from Bool.eq_false_iff.2 (fun hh => k0 (hr.1 hh).1))
    clear hr
    go_enter Tryd.func16, Tryd.ntmps16
    go_wp2
    go_ret
    exact ⟨by rw [HD.out]; rfl, HB.out⟩
  case pos =>
    by_cases k1 : bl ≤ 1024
    case neg =>
      have HD := Lib.hid (show r = false from Bool.eq_false_iff.2 (fun hh => k1 (hr.1 hh).2.1))
      clear hr
      go_enter Tryd.func16, Tryd.ntmps16
      go_wp2
      go_ret
      exact ⟨by rw [HD.out]; rfl, HB.out⟩
    case pos =>
      by_cases k2 : mx ≤ bl + 1
      case neg =>
        have HD := Lib.hid (show r = false from Bool.eq_false_iff.2 (fun hh => k2 (hr.1 hh).2.2.1))
        clear hr
        go_enter Tryd.func16, Tryd.ntmps16
        go_wp2
        go_ret
        exact ⟨by rw [HD.out]; rfl, HB.out⟩
      case pos =>
        by_cases k3 : tg ≤ n
        case neg =>
          have HD := Lib.hid (show r = false from Bool.eq_false_iff.2 (fun hh => k3 (hr.1 hh).2.2.2))
          clear hr
          go_enter Tryd.func16, Tryd.ntmps16
          go_wp2
          go_ret
          exact ⟨by rw [HD.out]; rfl, HB.out⟩
        case pos =>
          have HD := Lib.hid (show r = true from hr.2 ⟨k0, k1, k2, k3⟩)
          clear hr
          go_enter Tryd.func16, Tryd.ntmps16
          go_wp2
          go_ret
          exact ⟨by rw [HD.out]; rfl, HB.out⟩
end Go.Proofs.YtadcgngiofdhcaaDoor
