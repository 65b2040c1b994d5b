/- Contracts of package medium as it landed: Cached, Copy; slices.Backward over writes. -/
import Derived.Test.YtkfdcdfaikkneaaGreatDoorOe
import Derived.RangeFuncNested
import Derived.RangeFuncBox
import Derived.RangeFuncCalls
import Derived.RangeFuncLeaves
import Derived.Shelf.RegionOpen
import Derived.OwnWalkIn
import Derived.TacticsInMore
import Derived.LoopNIn
import Derived.LoopIn
import Derived.BigRegionIn
import Derived.Maps.AppendAt
import Derived.Deep.MidRow
namespace Go.Proofs.YtkfdcdfaikkneaaGreatDoor
open Go.ChangeShapes Go.WideShapes Go.ChangeAt Go.RowKit Go.Shelf
set_option linter.unusedVariables false
set_option linter.unusedSimpArgs false
set_option maxRecDepth 100000
attribute [local go_sem] Oper.semAt_some

theorem MedX.wr {w : World} {tb : Nat} {S : MS} {pp : Option Nat} {sb sc : Nat} {ca : Option Addr} {cc : Nat} {Z : List ZW} (h : MedX w tb S pp sb sc ca cc Z) : WrR w ca cc Z := ⟨h.row, h.dat⟩
theorem MedX.small {w : World} {tb : Nat} {S : MS} {pp : Option Nat} {sb sc : Nat} {ca : Option Addr} {cc : Nat} {Z : List ZW} (h : MedX w tb S pp sb sc ca cc Z) (hS : S.Ok) : ∀ z, z ∈ Z → z.1.1 ≤ 2048 := fun z hz => by
  have := (hS.cache z.1 (by rw [h.cache]; exact List.mem_map_of_mem hz)).1
  have := hS.size2
  omega
/-! ## slices.Backward over writes -/
/-- What a round is handed: a place, and the write there. -/
abbrev IW := Nat × ZW
def itW (x : IW) : Array Value := #[.int .i64 (x.1 : Nat), zA x.2]
def RdW (Bx : Nat) (a : Option Addr) (cap : Nat) (Z : List ZW) (W : World) : Prop :=
  W.cell? ⟨Bx, 0, none⟩ = some (.slice a Z.length cap) ∧ ∀ k z, Z[k]? = some z → ∃ g, a = some ⟨g, 0, none⟩ ∧ W.cell? ⟨g, k * 2, none⟩ = some (.int .i64 (z.1.1 : Nat)) ∧ W.cell? ⟨g, k * 2 + 1, none⟩ = some (.slice z.2.1 512 z.2.2)
def BkW (Z : List ZW) (pre : List IW) : Prop := pre.length ≤ Z.length ∧ ∀ k x, pre[k]? = some x → x.1 = Z.length - 1 - k ∧ Z[Z.length - 1 - k]? = some x.2
theorem BkW.nil (Z : List ZW) : BkW Z [] := ⟨Nat.zero_le _, fun k x h => by simp at h⟩
theorem BkW.snoc {Z : List ZW} {pre : List IW} (h : BkW Z pre) (x : IW) (hl : pre.length < Z.length) (hx : x.1 = Z.length - 1 - pre.length) (hz : Z[Z.length - 1 - pre.length]? = some x.2) : BkW Z (pre ++ [x]) := by
  refine ⟨by simp; omega, fun k y hk => ?_⟩
  by_cases e : k < pre.length
  · rw [List.getElem?_append_left e] at hk; exact h.2 k y hk
  · have hlt := (List.getElem?_eq_some_iff.1 hk).1
    have e2 : k = pre.length := by simp at hlt; omega
    subst e2
    rw [List.getElem?_append_right (Nat.le_refl _), Nat.sub_self] at hk
    cases hk
    exact ⟨hx, hz⟩
/-- A place of Z, and the write there. -/
abbrev IWz (Z : List ZW) := {x : IW // Z[x.1]? = some x.2}
abbrev ivs {Z : List ZW} (pre : List (IWz Z)) : List IW := pre.map Subtype.val
theorem ivs_snoc {Z : List ZW} (pre : List (IWz Z)) (x : IWz Z) : ivs (pre ++ [x]) = ivs pre ++ [x.1] := by simp [ivs]
set_option maxHeartbeats 2000000 in
theorem backW_in (F : Fence) (n : Nat) (hF : F.fn 99) (hro : F.round = none) (hn : 1 ≤ n) (l Bx cap : Nat) (a : Option Addr) (Z : List ZW) (hlen : Z.length ≤ 1000) (J Jx : List (IWz Z) → World → Prop)
    (hY : ∀ pre x W, J pre W → pre.length < Z.length → YieldAt F (n - 1) Tryz.prog l (itW x.1) W fun e W' =>
      (e = .returned (.bool true) ∧ J (pre ++ [x]) W' ∧ (RdW Bx a cap Z W → RdW Bx a cap Z W')) ∨ (e = .returned (.bool false) ∧ Jx (pre ++ [x]) W'))
    (W : World) (hR0 : RdW Bx a cap Z W) (h0 : J [] W) :
    CallsIn F n Tryz.prog 99 #[.func (.yield l) #[] #[], .pointer (some ⟨Bx, 0, none⟩)] W fun e W' => (∃ v, e = .returned v) ∧
      ((∃ ys, (ys.length = Z.length ∧ BkW Z (ivs ys)) ∧ J ys W') ∨ (∃ pre, BkW Z (ivs pre) ∧ Jx pre W')) := by
  refine callsIn_of_wp Tryz.func99 rfl hF ?_ hro
  simp only [Tryz.ntmps99, List.size_toArray, List.length_cons, List.length_nil, Nat.reduceAdd, Nat.reduceSub, Array.replicate_succ, Array.replicate_zero, List.push_toArray, List.append_toArray, List.nil_append, List.cons_append]
  have hb := hR0.1
  obtain ⟨N, hN⟩ : ∃ N, N = Z.length := ⟨_, rfl⟩
  have HN := Lib.hid hN
  rw [← hN] at hb hlen
  clear hN
  gi_wp2
  gi_loopw [3] (fun i wr => ∃ (r : Nat) (pre : List (IWz Z)), pre.length + r = N ∧ BkW Z (ivs pre) ∧ ((r = 0 ∧ i = .int .i64 (-1)) ∨ ∃ j : Nat, r = j + 1 ∧ i = .int .i64 (j : Int)) ∧ J pre wr ∧ RdW Bx a cap Z wr)
    (fun i _ => (intOf i + 1).toNat)
  case atStart =>
    refine ⟨N, [], by simp, BkW.nil _, ?_, h0, hR0⟩
    rcases Nat.eq_zero_or_pos N with e | e
    · subst e; exact .inl ⟨rfl, by go_num⟩
    · obtain ⟨j, rfl⟩ : ∃ j, N = j + 1 := ⟨N - 1, by omega⟩
      exact .inr ⟨j, rfl, by go_num⟩
  case round =>
    obtain ⟨r, pre, hpl, hbk, hi, hJs, hRd⟩ := hrel
    rcases hi with ⟨rfl, rfl⟩ | ⟨j, rfl, rfl⟩
    · gi_wp2
      go_end0
      exact ⟨⟨_, rfl⟩, .inl ⟨pre, ⟨by rw [← HN.out]; omega, hbk⟩, hJs⟩⟩
    · obtain ⟨z, hz⟩ : ∃ z, Z[j]? = some z := ⟨_, List.getElem?_eq_getElem (by rw [← HN.out]; omega)⟩
      obtain ⟨g, rfl, hc0, hc1⟩ := hRd.2 j z hz
      have hbx := hRd.1
      rw [← HN.out] at hbx
      obtain ⟨fn, tmps, assign, body, hy, hR⟩ := hY pre ⟨(j, z), hz⟩ wr hJs (by rw [← HN.out]; omega)
      dsimp only [itW, zA] at hy
      have q1 : (j : Int) < (N : Int) := by omega
      have q2 : (0 : Int) ≤ (j : Int) := by omega
      have hk := hbk.snoc (j, z) (by rw [List.length_map, ← HN.out]; omega) (by show j = _; rw [List.length_map, ← HN.out]; omega) (by rw [show Z.length - 1 - (ivs pre).length = j by rw [List.length_map, ← HN.out]; omega]; exact hz)
      have hk := (ivs_snoc pre ⟨(j, z), hz⟩).symm ▸ hk
      gi_wp2
      refine hR.mono ?_
      rintro e W3 (⟨rfl, hJ3, hk3⟩ | ⟨rfl, hJx3⟩)
      · gi_wp2
        go_roundw
        case rel =>
          refine ⟨j, _, by simp; omega, hk, ?_, hJ3, hk3 hRd⟩
          rcases Nat.eq_zero_or_pos j with e | e
          · subst e; exact .inl ⟨rfl, by go_num⟩
          · obtain ⟨m, rfl⟩ : ∃ m, j = m + 1 := ⟨j - 1, by omega⟩
            exact .inr ⟨m, rfl, by go_num⟩
        case measure => simp [intOf]
      · gi_wp2
        refine bodyPost_ret (results_none rfl _ _ _) rfl ?_
        exact ⟨⟨_, rfl⟩, .inr ⟨_, hk, hJx3⟩⟩
set_option maxHeartbeats 1000000 in
theorem backW_any (a : Option Addr) (len cap : Nat) (w : World) :
    Calls Tryz.prog 83 #[.slice a len cap] w fun e w' => e = .returned (.func (.func 99) #[] #[.pointer (some ⟨w.heap.size, 0, none⟩)]) ∧ w' = w.alloc (.cells #[.slice a len cap] 99) := by
  go_enter Tryz.func83, Tryz.ntmps83
  go_wp2
  go_ret
  exact ⟨rfl, rfl⟩
theorem backW_stops (F : Fence) (n : Nat) (hF : F.fn 99) (hro : F.round = none) (hn : 1 ≤ n) (Bx cap : Nat) (a : Option Addr) (Z : List ZW) (hlen : Z.length ≤ 1000) (w : World)
    (hBx : Bx < w.heap.size) (hR : RdW Bx a cap Z w) (hlow : ∀ g, a = some ⟨g, 0, none⟩ → 0 < Z.length → g < w.heap.size) :
    SeqStopsK F n Tryz.prog 99 #[.pointer (some ⟨Bx, 0, none⟩)] (fun x : IWz Z => itW x.1) (fun W W' => RdW Bx a cap Z W → RdW Bx a cap Z W') (fun ys => ys.length = Z.length ∧ BkW Z (ivs ys)) (fun pre => BkW Z (ivs pre)) Z.length w := fun l J Jx W hW _ _ hY h0 => by
  refine backW_in F n hF hro hn l Bx cap a Z hlen J Jx hY W ⟨(hW.cell (p := ⟨Bx, 0, none⟩) hBx).trans hR.1, fun k z hz => ?_⟩ h0
  obtain ⟨g, e, h1, h2⟩ := hR.2 k z hz
  have hg := hlow g e (by have := (List.getElem?_eq_some_iff.1 hz).1; omega)
  exact ⟨g, e, (hW.cell (p := ⟨g, k * 2, none⟩) hg).trans h1, (hW.cell (p := ⟨g, k * 2 + 1, none⟩) hg).trans h2⟩
end Go.Proofs.YtkfdcdfaikkneaaGreatDoor
