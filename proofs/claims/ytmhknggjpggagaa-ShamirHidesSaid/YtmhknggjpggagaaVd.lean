/- Contract of shamir's dealing: the rows of a dealing, still in their memory. -/
import Derived.Test.YtmhknggjpggagaaSh
namespace Go.Proofs.Ytmhknggjpggagaa
open Go.ChangeShapes Go.WideShapes Go.ChangeAt Go.RowKit Go.Shelf GF
set_option linter.unusedVariables false
set_option linter.unusedSimpArgs false
set_option maxRecDepth 100000

theorem infoR : (Try.prog.info? 22).map (fun i => (i.zero, i.size, i.bytes)) = some (some (.slice none 0 0), 1, 24) := by kernel_rfl
theorem lit_cellsV (w : World) (v : Value) (e : TypeId) : ∀ j u, [v][j]? = some u → (w.alloc (.cells #[v] e)).cell? ((⟨w.heap.size, 0, none⟩ : Addr).add j) = some u := fun j u h => by
  have := (World.ownsRow_lit (base := w.heap.size) (e := e) (size := 1) w #[v] 1 (Nat.le_refl _) (by unfold maxLen; omega) rfl).cells (g := w.heap.size) rfl j u
  exact this h
theorem own_sliceV {w : World} {base : Nat} {e : TypeId} {size : Nat} {v : Value} {n : Nat} {xs : List Value} (h : w.ownsRow base e size v n xs) : ∃ a c, v = .slice a n c := by
  rcases h.2 with ⟨rfl, rfl⟩ | ⟨g, cap, cur, rfl, _⟩
  · exact ⟨_, _, rfl⟩
  · exact ⟨_, _, rfl⟩
theorem own_belowV {w w' : World} {base : Nat} {e : TypeId} {size : Nat} {v : Value} {n : Nat} {xs : List Value} (h : w.ownsRow base e size v n xs) (hb : Below w.heap.size w w') : w'.ownsRow base e size v n xs := by
  refine ⟨h.1, ?_⟩
  rcases h.2 with h2 | ⟨g, cap, cur, h1, h2, h3, h4⟩
  · exact .inl h2
  · refine .inr ⟨g, cap, cur, h1, h2, ?_, h4⟩
    rw [hb.block g ?_]
    · exact h3
    · rcases Nat.lt_or_ge g w.heap.size with hlt | hge
      · exact hlt
      · rw [Array.getElem?_eq_none hge] at h3; cases h3
theorem take_stepV {α : Type} [Inhabited α] {M : List α} {k : Nat} {x : α} (h : M[k]? = some x) : M.take (k + 1) = M.take k ++ [x] := by
  rw [List.take_add_one, h]; rfl
/-- A part of a row. -/
def seg (M : List GF) (lo n : Nat) : List GF := (M.drop lo).take n
theorem seg_co {M : List GF} {lo n k : Nat} (h : k < n) : co (seg M lo n) k = co M (lo + k) := by
  unfold seg co; simp [List.getD_eq_getElem?_getD, h]
theorem seg_len {M : List GF} {lo n : Nat} (h : lo + n ≤ M.length) : (seg M lo n).length = n := by simp [seg]; omega
def cutA (a : Option Addr) (c lo : Nat) : Option Addr := if c = lo then a else a.map (·.add lo)
theorem Pa.seg {w : World} {a : Option Addr} {m c : Nat} {M : List GF} (h : Pa w a m c M) {lo n : Nat} (h1 : lo + n ≤ m) : Pa w (cutA a c lo) n (c - lo) (seg M lo n) := by
  have hl := h.len
  have hc := h.1.2.2.2
  refine ⟨⟨by rw [length_iL, seg_len (by omega)], allB_iL _, fun h0 => ?_, by omega, by omega⟩, fun e => ?_⟩
  · rw [length_iL, seg_len (by omega)] at h0
    obtain ⟨b, off, e, hb, hcl⟩ := h.1.2.2.1 (by rw [length_iL]; omega)
    refine ⟨b, off + lo, ?_, hb, fun i hi => ?_⟩
    · unfold cutA; rw [if_neg (by omega), e]; exact congrArg some (Addr.add_lit _ _ _)
    · rw [length_iL, seg_len (by omega)] at hi
      have := hcl (lo + i) (by rw [length_iL]; omega)
      rw [getD_iL] at this
      rw [getD_iL, seg_co hi, ← this]
      congr 2
      omega
  · unfold cutA at e
    by_cases q : c = lo
    · omega
    · rw [if_neg q] at e
      have : a = none := by cases a with
        | none => rfl
        | some x => cases e
      have := h.2 this
      omega
/-- The rows of a dealing, and the slices that they are. -/
def dR (t n : Nat) (S M : List GF) : List (List GF) := S :: (List.range (t - 1)).map fun i => seg M (i * n) n
def dV (t n : Nat) (aS : Option Addr) (cS : Nat) (aM : Option Addr) (cM : Nat) : List Value := .slice aS n cS :: (List.range (t - 1)).map fun i => .slice (cutA aM cM (i * n)) n (cM - i * n)
theorem dR_len {t : Nat} (n : Nat) (S M : List GF) (h : 1 ≤ t) : (dR t n S M).length = t := by unfold dR; simp; omega
theorem dV_len {t : Nat} (n : Nat) (aS : Option Addr) (cS : Nat) (aM : Option Addr) (cM : Nat) (h : 1 ≤ t) : (dV t n aS cS aM cM).length = t := by unfold dV; simp; omega
theorem dR_zero (t n : Nat) (S M : List GF) : rw_ (dR t n S M) 0 = S := rfl
theorem dR_succ {t i : Nat} (n : Nat) (S M : List GF) (h : i + 1 < t) : rw_ (dR t n S M) (i + 1) = seg M (i * n) n := by
  unfold rw_ dR; simp [List.getD_eq_getElem?_getD, show i < t - 1 by omega]
theorem dV_succ {t i : Nat} (n : Nat) (aS : Option Addr) (cS : Nat) (aM : Option Addr) (cM : Nat) (h : i + 1 < t) : (dV t n aS cS aM cM)[i + 1]? = some (.slice (cutA aM cM (i * n)) n (cM - i * n)) := by
  unfold dV; simp [show i < t - 1 by omega]
theorem mul_step {t n i m : Nat} (hm : m = (t - 1) * n) (h : i + 1 < t) : i * n + n ≤ m := by
  have h1 : i + 1 ≤ t - 1 := by omega
  have h2 := Nat.mul_le_mul_right n h1
  rw [Nat.add_mul, Nat.one_mul] at h2
  omega
theorem dR_wide {t n m : Nat} {S M : List GF} (hS : S.length = n) (hM : M.length = m) (ht : 1 ≤ t) (hm : m = (t - 1) * n) {k : Nat} (hk : k < t) : (rw_ (dR t n S M) k).length = n := by
  match k with
  | 0 => exact hS
  | i + 1 => rw [dR_succ n S M hk, seg_len (by rw [hM]; exact mul_step hm hk)]
/-- Byte by byte they are the dealing's polynomial. -/
theorem dR_co {t n : Nat} {S M : List GF} {i k : Nat} (hi : i < n) (hk : k < t) : co (rw_ (dR t n S M) k) i = co (dl t n S M i) k := by
  match k with
  | 0 => rw [dR_zero, dl_zero]
  | k + 1 => rw [dR_succ n S M hk, seg_co hi, dl_succ n S M i hk]
theorem pa_lt {w : World} {a : Option Addr} {L c : Nat} {P : List GF} (h : Pa w a L c P) : ∀ b off, a = some ⟨b, off, none⟩ → 0 < L → b < w.heap.size := fun b off e h0 => by
  obtain ⟨b', o', e', hb, _⟩ := h.at_ h0
  rw [e] at e'; cases e'; exact hb
theorem dRV {w : World} {t n m : Nat} {aS : Option Addr} {cS : Nat} {S : List GF} {aM : Option Addr} {cM : Nat} {M : List GF} (hS : Pa w aS n cS S) (hM : Pa w aM m cM M) (ht : 1 ≤ t) (hm : m = (t - 1) * n) : RV w (fun b => b < w.heap.size) (dV t n aS cS aM cM) (dR t n S M) := by
  refine ⟨by rw [dV_len _ _ _ _ _ ht, dR_len _ _ _ ht], fun i hi => ?_⟩
  rw [dR_len _ _ _ ht] at hi
  have key : ∀ {a : Option Addr} {c : Nat} {P : List GF}, Pa w a n c P → ∀ v, v = Value.slice a n c → ∃ a c, some v = some (.slice a P.length c) ∧ P.length ≤ c ∧ c ≤ maxLen ∧ (a = none → c = 0) ∧
      (0 < P.length → ∃ b off, a = some ⟨b, off, none⟩ ∧ b < w.heap.size ∧ b < w.heap.size ∧ ∀ j, j < P.length → w.cell? ⟨b, off + j, none⟩ = some (.int .u8 (toI (co P j)))) := fun {a c P} h v e => by
    have hl := h.len
    refine ⟨a, c, by rw [e, hl], by rw [hl]; exact h.1.2.2.2.1, h.1.2.2.2.2, h.2, fun h0 => ?_⟩
    obtain ⟨b, off, e, hb, hc⟩ := h.1.2.2.1 (by rw [length_iL]; exact h0)
    exact ⟨b, off, e, hb, hb, fun j hj => by have := hc j (by rw [length_iL]; exact hj); rwa [getD_iL] at this⟩
  match i with
  | 0 => exact key hS _ rfl
  | i + 1 =>
    rw [dR_succ n S M hi, dV_succ n aS cS aM cM hi]
    exact key (hM.seg (mul_step hm hi)) _ rfl

set_option maxHeartbeats 1000000 in
theorem dealing_any (t n m : Nat) (aS : Option Addr) (cS : Nat) (S : List GF) (aM : Option Addr) (cM : Nat) (M : List GF) (w : World) (hS : Pa w aS n cS S) (hM : Pa w aM m cM M) (h1 : 1 ≤ t) (h2 : t ≤ 255) (hm : m = (t - 1) * n) (hn : n ≤ 1000) :
    Calls Try.prog 28 #[.int .i64 (t : Nat), .slice aS n cS, .slice aM m cM] w fun e w' => ∃ a' c', e = .returned (.slice a' t c') ∧ Mat w' a' t c' (dR t n S M) ∧ Below w.heap.size w w' := by
  obtain ⟨T, hT⟩ : ∃ T, t = T + 1 := ⟨t - 1, by omega⟩
  obtain ⟨i22, hi, hz0, hz1, hz2⟩ := info_parts infoR
  have HI := Lib.hid (And.intro hi (And.intro hz0 (And.intro hz1 hz2)))
  have HM := Lib.hid hM
  have HS := Lib.hid hS
  have HR := Lib.hid (dRV hS hM h1 hm)
  have HDL := Lib.hid (dV_len n aS cS aM cM h1)
  have hsb := hS.bd
  have hmb := hM.bd
  have Hm := Lib.hid hm
  have HN := Lib.hid hn
  have HT := Lib.hid (And.intro h2 hT)
  have qT : (t : Int) - 1 = (T : Int) := by omega
  have qT2 : (T : Int) ≤ 254 := by omega
  have ho0 : Hid ((w.alloc (.cells #[.slice aS n cS] 22)).ownsRow w.heap.size 22 1 (.slice (some ⟨w.heap.size, 0, none⟩) (0 + 1 : Nat) 1) (0 + 1) ((dV t n aS cS aM cM).take (0 + 1))) :=
    Lib.hid (World.ownsRow_lit (base := w.heap.size) (e := 22) (size := 1) w #[.slice aS n cS] 1 (Nat.le_refl _) (by unfold maxLen; omega) rfl)
  have hb0 : Hid (Below w.heap.size w (w.alloc (.cells #[.slice aS n cS] 22))) := Lib.hid ((Below.refl _ _).alloc (Nat.le_refl _) _)
  clear hi hz0 hz1 hz2 hS hM h1 h2 hm hn hT
  go_enter Try.func28, Try.ntmps28
  go_wp2
  go_loopw [16, 8] (fun j o wr => ∃ (i : Nat) (ao : Option Addr) (cc : Nat), i ≤ T ∧ j = .int .i64 (i : Nat) ∧ o = .slice ao (i + 1 : Nat) cc ∧ Hid (wr.ownsRow w.heap.size 22 1 (.slice ao (i + 1 : Nat) cc) (i + 1) ((dV t n aS cS aM cM).take (i + 1))) ∧ Hid (Below w.heap.size w wr))
    (fun j _ _ => T - (intOf j).toNat)
  case atStart => exact ⟨0, _, 1, Nat.zero_le _, rfl, rfl, ho0, hb0⟩
  case round =>
    obtain ⟨i, ao, cc, hi, rfl, rfl, hO, hB⟩ := hrel
    by_cases hlt : i < T
    · have qi : (i : Int) < (T : Int) := by omega
      have qi0 : (0 : Int) ≤ (i : Int) := by omega
      have hst := mul_step (i := i) Hm.out (by have := HT.out.2; omega)
      have hm2 : m ≤ 254 * 1000 := by rw [Hm.out]; exact Nat.mul_le_mul (by have := HT.out.1; omega) HN.out
      have hdv := dV_succ n aS cS aM cM (t := t) (i := i) (by have := HT.out.2; omega)
      obtain ⟨lo, hlo⟩ : ∃ lo, lo = i * n := ⟨_, rfl⟩
      obtain ⟨hi', hhi⟩ : ∃ hi', hi' = lo + n := ⟨_, rfl⟩
      rw [← hlo] at hst hdv
      have q1 : (i : Int) * (n : Int) = (lo : Int) := by rw [hlo]; rfl
      have q2 : ((i : Int) + 1) * (n : Int) = (hi' : Int) := by rw [Int.add_mul, q1, hhi]; omega
      have q3 : (lo : Int) ≤ (hi' : Int) := by omega
      have q4 : (hi' : Int) ≤ (m : Int) := by omega
      have q5 : hi' - lo = n := by omega
      have q6 : (m : Int) ≤ 254000 := by omega
      have q7 : (hi' : Int) ≤ (cM : Int) := by omega
      have q8 : (0 : Int) ≤ (lo : Int) := by omega
      have HDV := Lib.hid (take_stepV hdv)
      have Hlo := Lib.hid hlo
      have Hhi := Lib.hid hhi
      have Hst := Lib.hid hst
      clear hdv hlo hhi hst hm2
      rename World => w1
      rcases aM with _ | ad
      · have hcu : cutA none cM lo = none := by unfold cutA; simp
        have qs : lo = 0 ∧ cM = 0 := by have := HM.out.2 rfl; have := Hst.out; omega
        obtain ⟨HC, HQ⟩ : Hid (cutA none cM lo = none) ∧ Hid (lo = 0 ∧ cM = 0) := ⟨Lib.hid hcu, Lib.hid qs⟩
        clear hcu qs
        go_wp2_with ((with_reducible show wpList _ _ _ (⟨some 30, _, _, _, _, _⟩ :: _) _ _); go_loud (refine wpList_append_own _ rfl (.tmp 19) (.tmp 29) 28 rfl w.heap.size 22 i22 (.slice none 0 0) 1 24 Try.underlying28 HI.out.1 HI.out.2.1 HI.out.2.2.1 HI.out.2.2.2 rfl (by decide) _ (i + 1) ((dV t n aS cS none cM).take (i + 1)) rfl (hO.out.alloc _) _ 1 1 [_] rfl rfl (lit_cellsV _ _ _) (by intro u hu; cases List.mem_singleton.1 hu; rfl) (by unfold maxLen; omega) (by omega) (by have := hB.out.size; simp; omega) ?_); go_loud (intro v1 wc hown1 hg1 _; have hbel := (hB.out.alloc hB.out.size (.cells #[.slice (none) n (cM - lo)] 22)).grown hg1 (by have := hB.out.size; simp; omega) (fun z hz => (hO.out.lt z hz).1); obtain ⟨a1, c1, hv1⟩ := own_sliceV hown1; subst hv1; have hdd := HDV.out; rw [HC.out] at hdd; rw [← hdd] at hown1; have HO1 := Lib.hid hown1; have HN1 := Lib.hid hbel; clear hown1 hg1 hbel hdd))
        go_roundw
        case rel => exact ⟨i + 1, a1, c1, by omega, by go_num, rfl, HO1, HN1⟩
        case measure => simp [intOf]; omega
      · by_cases qc : cM = lo
        · obtain rfl : cM = lo := qc
          have HC := Lib.hid (show cutA (some ad) cM cM = some ad by unfold cutA; rw [if_pos rfl])
          have HZ := Lib.hid (Nat.sub_self cM)
          go_wp2_with ((with_reducible show wpList _ _ _ (⟨some 30, _, _, _, _, _⟩ :: _) _ _); go_loud (refine wpList_append_own _ rfl (.tmp 19) (.tmp 29) 28 rfl w.heap.size 22 i22 (.slice none 0 0) 1 24 Try.underlying28 HI.out.1 HI.out.2.1 HI.out.2.2.1 HI.out.2.2.2 rfl (by decide) _ (i + 1) ((dV t n aS cS (some ad) cM).take (i + 1)) rfl (hO.out.alloc _) _ 1 1 [_] rfl rfl (lit_cellsV _ _ _) (by intro u hu; cases List.mem_singleton.1 hu; rfl) (by unfold maxLen; omega) (by omega) (by have := hB.out.size; simp; omega) ?_); go_loud (intro v1 wc hown1 hg1 _; have hbel := (hB.out.alloc hB.out.size (.cells #[.slice (some ad) n 0] 22)).grown hg1 (by have := hB.out.size; simp; omega) (fun z hz => (hO.out.lt z hz).1); obtain ⟨a1, c1, hv1⟩ := own_sliceV hown1; subst hv1; have hdd := HDV.out; rw [HC.out, HZ.out] at hdd; rw [← hdd] at hown1; have HO1 := Lib.hid hown1; have HN1 := Lib.hid hbel; clear hown1 hg1 hbel hdd))
          go_roundw
          case rel => exact ⟨i + 1, a1, c1, by omega, by go_num, rfl, HO1, HN1⟩
          case measure => simp [intOf]; omega
        · have HC := Lib.hid (show cutA (some ad) cM lo = some (ad.add lo) by unfold cutA; rw [if_neg qc]; rfl)
          go_wp2_with ((with_reducible show wpList _ _ _ (⟨some 30, _, _, _, _, _⟩ :: _) _ _); go_loud (refine wpList_append_own _ rfl (.tmp 19) (.tmp 29) 28 rfl w.heap.size 22 i22 (.slice none 0 0) 1 24 Try.underlying28 HI.out.1 HI.out.2.1 HI.out.2.2.1 HI.out.2.2.2 rfl (by decide) _ (i + 1) ((dV t n aS cS (some ad) cM).take (i + 1)) rfl (hO.out.alloc _) _ 1 1 [_] rfl rfl (lit_cellsV _ _ _) (by intro u hu; cases List.mem_singleton.1 hu; rfl) (by unfold maxLen; omega) (by omega) (by have := hB.out.size; simp; omega) ?_); go_loud (intro v1 wc hown1 hg1 _; have hbel := (hB.out.alloc hB.out.size (.cells #[.slice (some (ad.add lo)) n (cM - lo)] 22)).grown hg1 (by have := hB.out.size; simp; omega) (fun z hz => (hO.out.lt z hz).1); obtain ⟨a1, c1, hv1⟩ := own_sliceV hown1; subst hv1; have hdd := HDV.out; rw [HC.out] at hdd; rw [← hdd] at hown1; have HO1 := Lib.hid hown1; have HN1 := Lib.hid hbel; clear hown1 hg1 hbel hdd))
          go_roundw
          case rel => exact ⟨i + 1, a1, c1, by omega, by go_num, rfl, HO1, HN1⟩
          case measure => simp [intOf]; omega
    · obtain rfl : i = T := by omega
      rw [← HT.out.2] at hO
      have h1 := hO.out
      rw [List.take_of_length_le (by rw [HDL.out]; exact Nat.le_refl _)] at h1
      have hR := HR.out.keep (w' := ‹World›) (ok' := fun _ => True) hB.out.size (fun b hb _ => ⟨trivial, hB.out.block b hb⟩)
      obtain ⟨a9, c9, e9, hmat⟩ := Mat.own h1 hR
      cases e9
      have HMAT := Lib.hid hmat
      clear h1 hR hmat
      go_wp2
      go_ret
      exact ⟨_, _, by rw [HT.out.2]; rfl, HMAT.out, hB.out⟩
end Go.Proofs.Ytmhknggjpggagaa
