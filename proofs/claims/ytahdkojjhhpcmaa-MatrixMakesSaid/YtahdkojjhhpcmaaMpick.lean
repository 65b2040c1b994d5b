/- Contracts of Pick, and of the laws' few; integers as an argument. -/
import Derived.Test.YtahdkojjhhpcmaaMmak
namespace Go.Proofs.Ytahdkojjhhpcmaa
open Go.ChangeShapes Go.WideShapes Go.ChangeAt Go.RowKit Go.Shelf GF
set_option linter.unusedVariables false
set_option linter.unusedSimpArgs false

/-- An argument that is whole numbers. -/
def IA (w : World) (a : Option Addr) (L c : Nat) (ps : List Int) : Prop :=
  ps.length = L ∧ L ≤ c ∧ c ≤ maxLen ∧ (a = none → c = 0) ∧ (∀ i, -9223372036854775808 ≤ ps.getD i 0 ∧ ps.getD i 0 ≤ 9223372036854775807) ∧ (0 < L → ∃ b off, a = some ⟨b, off, none⟩ ∧ b < w.heap.size ∧ ∀ i, i < L → w.cell? ⟨b, off + i, none⟩ = some (.int .i64 (ps.getD i 0)))
theorem IA.on {w w' : World} {a : Option Addr} {L c : Nat} {ps : List Int} (h : IA w a L c ps) (hb : Below w.heap.size w w') : IA w' a L c ps := by
  obtain ⟨h1, h2, h3, h4, h5, h6⟩ := h
  refine ⟨h1, h2, h3, h4, h5, fun h0 => ?_⟩
  obtain ⟨b, off, e, hlt, hc⟩ := h6 h0
  exact ⟨b, off, e, by have := hb.size; omega, fun i hi => (hb.cell (p := ⟨b, off + i, none⟩) hlt).trans (hc i hi)⟩
theorem IA.bd {w : World} {a : Option Addr} {L c : Nat} {ps : List Int} (h : IA w a L c ps) : L ≤ c ∧ c ≤ 9223372036854775807 := ⟨h.2.1, by have := h.2.2.1; unfold maxLen at this; omega⟩
theorem IA.at_ {w : World} {a : Option Addr} {L c : Nat} {ps : List Int} (h : IA w a L c ps) {i : Nat} (hi : i < L) : ∃ b off, a = some ⟨b, off, none⟩ ∧ b < w.heap.size ∧ w.cell? ⟨b, off + i, none⟩ = some (.int .i64 (ps.getD i 0)) := by
  obtain ⟨h1, h2, h3, h4, h5, h6⟩ := h
  obtain ⟨b, off, e, hlt, hc⟩ := h6 (by omega)
  exact ⟨b, off, e, hlt, hc i hi⟩

theorem pick1_any (bm bp : Nat) (a : Option Addr) (n m : Nat) (M : List (List GF)) (ap : Option Addr) (L cp : Nat) (ps : List Int) (W : World) (i j p : Nat) (hm : W.cell? ⟨bm, 0, none⟩ = some (.pointer a)) (hx : Mx W a n m M) (hp : W.cell? ⟨bp, 0, none⟩ = some (.slice ap L cp)) (hi' : IA W ap L cp ps) (hi : i < L) (hj : j < m) (hpi : ps.getD i 0 = (p : Int)) (hpn : p < n) :
    Giv Try.prog 44 #[.pointer (some ⟨bm, 0, none⟩), .pointer (some ⟨bp, 0, none⟩)] #[.int .i64 (i : Nat), .int .i64 (j : Nat)] (.int .u8 (toI (ent M p j))) W := by
  have hbd := hx.bd
  obtain ⟨g, s, c, rfl, hg, hc, hmat, hw, hn, hm1⟩ := hx
  obtain ⟨b, off, ai, ci, rfl, hb, hcell, hpa⟩ := hmat.row hpn
  rw [hw p (by rw [hmat.len]; exact hpn)] at hcell hpa
  obtain ⟨b2, off2, rfl, hb2, hc2⟩ := hpa.at_ hj
  rw [show co (rw_ M p) j = ent M p j from rfl] at hc2
  obtain ⟨b3, off3, rfl, hb3, hc3⟩ := hi'.at_ hi
  rw [hpi] at hc3
  have hb4 := hpa.bd
  have hb5 := hi'.bd
  have q : (i : Int) < (L : Int) := by omega
  have q0 : (0 : Int) ≤ (i : Int) := by omega
  have q1 : (j : Int) < (m : Int) := by omega
  have q2 : (0 : Int) ≤ (j : Int) := by omega
  have q3 : (p : Int) < (n : Int) := by omega
  have q4 : (0 : Int) ≤ (p : Int) := by omega
  clear hmat hw hpa hi' hpi
  unfold Giv
  go_enter Try.func44, Try.ntmps44
  go_wp2_with fail
  go_quiet (fail)
  go_wp2
  go_ret
  exact ⟨rfl, _, rfl⟩
theorem has_yes (a : Option Addr) (n m : Nat) (M : List (List GF)) (i : Int) (w : World) (h : Mx w a n m M) (hi : 0 ≤ i ∧ i < n) : Calls Try.prog 43 #[.pointer a, .int .i64 i] w fun e w' => e = .returned (.bool true) ∧ ∃ q, w' = w.drewN q :=
  (has_any a n m M i w h).mono fun e w' ⟨h1, h2⟩ => ⟨by rw [h1]; simp; omega, h2⟩
theorem has_no (a : Option Addr) (n m : Nat) (M : List (List GF)) (i : Int) (w : World) (h : Mx w a n m M) (hi : ¬ (0 ≤ i ∧ i < n)) : Calls Try.prog 43 #[.pointer a, .int .i64 i] w fun e w' => e = .returned (.bool false) ∧ ∃ q, w' = w.drewN q :=
  (has_any a n m M i w h).mono fun e w' ⟨h1, h2⟩ => ⟨by rw [h1]; simp; omega, h2⟩
theorem two_boxes (w : World) (u v : Value) (e f : TypeId) : ((w.alloc (.cells #[u] e)).alloc (.cells #[v] f)).cell? ⟨w.heap.size, 0, none⟩ = some u ∧ ((w.alloc (.cells #[u] e)).alloc (.cells #[v] f)).cell? ⟨w.heap.size + 1, 0, none⟩ = some v ∧ Below w.heap.size w ((w.alloc (.cells #[u] e)).alloc (.cells #[v] f)) := by
  refine ⟨(((Below.refl _ _).alloc (Nat.le_refl _) _).cell (p := ⟨w.heap.size, 0, none⟩) (by simp)).trans (lit_one w _ _), ?_, ((Below.refl w.heap.size w).alloc (Nat.le_refl _) _).alloc (by simp) _⟩
  have h := lit_one (w.alloc (.cells #[u] e)) v f
  rw [show (w.alloc (.cells #[u] e)).heap.size = w.heap.size + 1 by simp] at h
  exact h
theorem pick_len (a : Option Addr) (n m : Nat) (M : List (List GF)) (ap : Option Addr) (L cp : Nat) (w : World) (h : Mx w a n m M) (hL : ¬ (1 ≤ L ∧ L ≤ 64)) (hc : L ≤ 9223372036854775807) :
    Calls Try.prog 18 #[.pointer a, .slice ap L cp] w fun e w' => e = .returned (.tuple #[.pointer none, .int .i64 2]) ∧ Below w.heap.size w w' := by
  obtain ⟨t1, t2, t3⟩ := two_boxes w (.pointer a) (.slice ap L cp) 27 38
  have H := Lib.hid (h.on t3)
  have HB := Lib.hid t3
  have HF := Lib.hid (fun W => fits_no (L : Int) W (by omega) (by omega))
  clear h t3
  go_enter Try.func18, Try.ntmps18
  go_wp2_with (first
    | (go_at_call 38; refine (missing_any _ _ _ _ _ H.out).mono ?_; rintro e w' ⟨rfl, rfl⟩)
    | (go_at_call 35; refine (HF.out _).mono ?_; rintro e w' ⟨rfl, rfl⟩))
  go_ret2
  exact ⟨rfl, HB.out⟩
set_option maxHeartbeats 1000000 in
theorem pick_any (a : Option Addr) (n m : Nat) (M : List (List GF)) (ap : Option Addr) (L cp j : Nat) (ps : List Int) (w : World) (h : Mx w a n m M) (hi : IA w ap L cp ps) (hL : 1 ≤ L ∧ L ≤ 64) (hj : j ≤ L) (hok : ∀ i, i < j → 0 ≤ ps.getD i 0 ∧ ps.getD i 0 < n) (hbad : j < L → ¬ (0 ≤ ps.getD j 0 ∧ ps.getD j 0 < n)) :
    Calls Try.prog 18 #[.pointer a, .slice ap L cp] w fun e w' => ((j < L ∧ e = .returned (.tuple #[.pointer none, .int .i64 2])) ∨ (j = L ∧ ∃ a', e = .returned (.tuple #[.pointer a', .int .i64 0]) ∧ Mx w' a' L m (mat (fun i k => ent M (ps.getD i 0).toNat k) L m))) ∧ Below w.heap.size w w' := by
  obtain ⟨t1, t2, t3⟩ := two_boxes w (.pointer a) (.slice ap L cp) 27 38
  have hbd := h.bd
  have H := Lib.hid (h.on t3)
  have HI := Lib.hid (hi.on t3)
  have hib := hi.bd
  have HB := Lib.hid t3
  have HF := Lib.hid (fun W => fits_yes L W hL)
  have HOK := Lib.hid hok
  have HBAD := Lib.hid hbad
  have T1 := Lib.hid t1
  have T2 := Lib.hid t2
  clear h t3 hi hok hbad
  go_enter Try.func18, Try.ntmps18
  go_wp2_with (first
    | (go_at_call 38; refine (missing_any _ _ _ _ _ H.out).mono ?_; rintro e w' ⟨rfl, rfl⟩)
    | (go_at_call 35; refine (HF.out _).mono ?_; rintro e w' ⟨rfl, rfl⟩))
  obtain ⟨w1, hw1⟩ : ∃ w1, w1 = (w.alloc (.cells #[.pointer a] 27)).alloc (.cells #[.slice ap L cp] 38) := ⟨_, rfl⟩
  obtain ⟨bm, hbm⟩ : ∃ bm, bm = w.heap.size := ⟨_, rfl⟩
  obtain ⟨bp, hbp⟩ : ∃ bp, bp = bm + 1 := ⟨_, rfl⟩
  rw [← hw1] at H HI HB T1 T2 ⊢
  rw [← hbm] at T1 T2 ⊢
  rw [← hbp] at T2 ⊢
  have HBM := Lib.hid hbm
  clear hw1 hbm hbp t1 t2
  go_loopw [18] (fun s wr => ∃ i : Nat, i ≤ j ∧ s = .int .i64 (i : Nat) ∧ Hid (Below w1.heap.size w1 wr)) (fun s _ => L - (intOf s).toNat)
  case atStart => exact ⟨0, Nat.zero_le _, rfl, Lib.hid (Below.refl _ _)⟩
  case round =>
    obtain ⟨i, hi, rfl, hB⟩ := hrel
    have hc1 := (hB.out.cell (p := ⟨bm, 0, none⟩) (World.block_lt_of_cell? _ _ T1.out)).trans T1.out
    have hc2 := (hB.out.cell (p := ⟨bp, 0, none⟩) (World.block_lt_of_cell? _ _ T2.out)).trans T2.out
    by_cases hlt : i < L
    · obtain ⟨b3, off3, rfl, hb3, hc3⟩ := (HI.out.on hB.out).at_ hlt
      have hpb := HI.out.2.2.2.2.1 i
      obtain ⟨p, hp⟩ : ∃ p, p = ps.getD i 0 := ⟨_, rfl⟩
      rw [← hp] at hc3 hpb
      have qi : (i : Int) < (L : Int) := by omega
      have qi0 : (0 : Int) ≤ (i : Int) := by omega
      by_cases hij : i < j
      · have HH := Lib.hid (has_yes a n m M p wr (H.out.on hB.out) (by rw [hp]; exact HOK.out i hij))
        clear hp
        go_wp2_with (go_at_call 43; go_loud (refine HH.out.mono ?_); rintro e w' ⟨rfl, q0, rfl⟩)
        go_roundw
        case rel => exact ⟨i + 1, by omega, by go_num, Lib.hid (below_drewN hB.out _)⟩
        case measure => simp [intOf]; omega
      · obtain rfl : j = i := by omega
        have HH := Lib.hid (has_no a n m M p wr (H.out.on hB.out) (by rw [hp]; exact HBAD.out hlt))
        have HLT := Lib.hid hlt
        clear hp hlt
        go_wp2_with (go_at_call 43; go_loud (refine HH.out.mono ?_); rintro e w' ⟨rfl, q0, rfl⟩)
        go_ret2
        exact ⟨.inl ⟨HLT.out, rfl⟩, bt HB.out (below_drewN hB.out _)⟩
    · obtain rfl : L = i := by omega
      have hjL : j = L := by omega
      have HJ := Lib.hid hjL
      have HFL := Lib.hid (fun k => filled_any L m 44 #[.pointer (some ⟨bm, 0, none⟩), .pointer (some ⟨bp, 0, none⟩)] (fun i k => ent M (ps.getD i 0).toNat k) (wr.drewN k) hL (by omega) (enters_of Try.func44 (by kernel_rfl) rfl) (fun W i k hW hi hk => by
        have hbw : Below w1.heap.size w1 W := bt hB.out (bt (below_drewN (Below.refl _ _) _) hW)
        have hpp := HOK.out i (by rw [HJ.out]; exact hi)
        exact pick1_any bm bp a n m M ap L cp ps W i k (ps.getD i 0).toNat ((hbw.cell (p := ⟨bm, 0, none⟩) (World.block_lt_of_cell? _ _ T1.out)).trans T1.out) (H.out.on hbw) ((hbw.cell (p := ⟨bp, 0, none⟩) (World.block_lt_of_cell? _ _ T2.out)).trans T2.out) (HI.out.on hbw) hi hk (by omega) (by omega)))
      clear hjL
      go_wp2_with (first
        | (go_at_call 17; go_loud (refine (size_any _ _ _ _ _ (H.out.on hB.out)).mono ?_); rintro e w' ⟨rfl, q0, rfl⟩)
        | (go_at_call 36; go_loud (refine (HFL.out _).mono ?_); rintro e w7 ⟨a7, rfl, hm7, hb7⟩; have HM7 := Lib.hid hm7; have HB7 := Lib.hid hb7; clear hm7 hb7))
      go_ret2
      exact ⟨.inr ⟨HJ.out, a7, rfl, HM7.out⟩, bt HB.out (bt (below_drewN hB.out _) HB7.out)⟩

theorem few_many (a : Option Addr) (n c : Nat) (w : World) (hn : 66 < n) (hc : n ≤ 9223372036854775807) : Calls Try.prog 16 #[.slice a n c] w fun e w' => e = .returned (.bool false) ∧ w = w' := by
  have q : (66 : Int) < (n : Int) := by omega
  go_enter Try.func16, Try.ntmps16
  go_wp2
  go_ret
  exact ⟨rfl, rfl⟩
end Go.Proofs.Ytahdkojjhhpcmaa
