/- Contracts of Inverse. -/
import Derived.Test.YtpoaimcioeopdaaMbes
namespace Go.Proofs.Ytpoaimcioeopdaa
open Go.ChangeShapes Go.WideShapes Go.ChangeAt Go.RowKit Go.Shelf GF
set_option linter.unusedVariables false
set_option maxRecDepth 100000
set_option linter.unusedSimpArgs false

/-- What Inverse's function value tells: the right half. -/
theorem inv1_any (bw bn : Nat) (b off n c m : Nat) (N : Nat → Nat → GF) (W : World) (i j : Nat) (hw : W.cell? ⟨bw, 0, none⟩ = some (.slice (some ⟨b, off, none⟩) n c)) (hn : W.cell? ⟨bn, 0, none⟩ = some (.int .i64 (n : Nat))) (hm : Mat W (some ⟨b, off, none⟩) n c (mat N n m)) (hi : i < n) (hj : n + j < m) (hm2 : m ≤ 1000) (hn2 : n ≤ 1000) :
    Giv Try.prog 44 #[.pointer (some ⟨bw, 0, none⟩), .pointer (some ⟨bn, 0, none⟩)] #[.int .i64 (i : Nat), .int .i64 (j : Nat)] (.int .u8 (toI (N i (n + j)))) W := by
  obtain ⟨b', off', ai, ci, e, hb, hcell, hpa⟩ := hm.row hi
  cases e
  rw [rw_mat hi, length_fl] at hcell hpa
  obtain ⟨b2, off2, rfl, hb2, hc2⟩ := hpa.at_ hj
  rw [co_fl, if_pos hj] at hc2
  have hbd := hpa.bd
  have hb3 := hm.bd
  have q : (i : Int) < (n : Int) := by omega
  have q0 : (0 : Int) ≤ (i : Int) := by omega
  have q1 : (n : Int) + (j : Int) < (m : Int) := by omega
  have q2 : (0 : Int) ≤ (j : Int) := by omega
  have q3 : (0 : Int) ≤ (n : Int) + (j : Int) := by omega
  have q4 : ((n : Int) + (j : Int)).toNat = n + j := by omega
  have q5 : IntKind.i64.wrap ((n : Int) + (j : Int)) = (n : Int) + (j : Int) := by rw [IntKind.wrap_i64]; omega
  clear hm hpa
  unfold Giv
  go_enter Try.func44, Try.ntmps44
  go_wp2_with fail
  go_quiet (fail)
  go_wp2
  go_ret
  exact ⟨rfl, _, rfl⟩

theorem box_cell (w : World) (k : Nat) (v : Value) (e : TypeId) : ((w.drewN k).alloc (.cells #[v] e)).cell? ⟨w.heap.size, 0, none⟩ = some v := lit_one (w.drewN k) v e
theorem box_free (w : World) (k : Nat) (v : Value) (e : TypeId) : ((w.drewN k).alloc (.cells #[v] e)).frozen? ⟨w.heap.size, 0, none⟩ = false :=
  (World.ownsRow_lit (base := w.heap.size) (e := e) (size := 1) (w.drewN k) #[v] 1 (Nat.le_refl _) (by unfold maxLen; omega) rfl).frozenAt 0

theorem inverse_uneq (a : Option Addr) (n m : Nat) (M : List (List GF)) (fb : Nat) (w : World) (h : Mx w a n m M) (hne : n ≠ m) :
    Calls Try.prog 19 #[.pointer a, .pointer (some ⟨fb, 0, none⟩)] w fun e w' => e = .returned (.tuple #[.pointer none, .int .i64 1]) ∧ Below w.heap.size w w' := by
  have H := Lib.hid h
  have hbd := h.bd
  have q : ((n : Int) != (m : Int)) = true := by rw [bne_iff_ne]; omega
  have hv0 := fun k => box_cell w k (.int .i64 0) 3
  have hf0 := fun k => box_free w k (.int .i64 0) 3
  clear h
  go_enter Try.func19, Try.ntmps19
  go_upto_region 2 with (go_at_call 34; refine (size_any _ _ _ _ _ H.out).mono ?_; rintro e w' ⟨rfl, q0, rfl⟩)
  obtain ⟨W1, hW1⟩ : ∃ W1, W1 = ((w.drewN q0).alloc (.cells #[.int .i64 0] 3)).setCell ⟨w.heap.size, 0, none⟩ (.int .i64 (n : Nat)) := ⟨_, rfl⟩
  have hx : W1.cell? ⟨w.heap.size, 0, none⟩ = some (.int .i64 (n : Nat)) := by rw [hW1]; exact World.cell?_setCell_same' _ _ _ (by rw [hv0]; rfl)
  have HB := Lib.hid (show Below w.heap.size w W1 by rw [hW1]; exact ((below_drewN (Below.refl w.heap.size w) q0).alloc (Nat.le_refl _) _).setCell (p := ⟨w.heap.size, 0, none⟩) (Nat.le_refl _) _)
  rw [← hW1]
  clear hW1 hv0 hf0
  go_wp2_with (go_at_call 35; refine (missing_any _ _ _ _ _ (H.out.on HB.out)).mono ?_; rintro e w' ⟨rfl, rfl⟩)
  go_ret2
  exact ⟨rfl, HB.out⟩

theorem GC.keptT {w w' : World} {base B n c : Nat} {M : List (List GF)} (h : GC w base B n c M) {r : Option Nat} (hg : w.grownBy w' r) (t : TypeId) (t1 : t ≠ 5) (t2 : t ≠ 22) (ht : ∀ k, r = some k → ∃ cur fz, w.heap[k]? = some (.cells cur t fz)) : GC w' base B n c M := by
  obtain ⟨vs, h1, h2⟩ := h
  refine ⟨vs, h1.kept hg (.inr fun e => ?_), h2.keep hg.size fun b hlt ho => ?_⟩
  · obtain ⟨cur, fz, h3⟩ := ht B e.symm
    obtain ⟨cur', h4⟩ := GC.typ ⟨vs, h1, h2⟩
    rw [h3] at h4
    injection h4 with h4
    injection h4 with _ h4 _
    exact t2 h4
  · have hne : some b ≠ r := fun e => by
      obtain ⟨cur, fz, h3⟩ := ht b e.symm
      obtain ⟨cur', fz', h4⟩ := ho
      rw [h3] at h4
      injection h4 with h4
      injection h4 with _ h4 _
      exact t1 h4
    exact ⟨ho.keep (hg.block b hlt hne), hg.block b hlt hne⟩
/-- What the region with the two calls leaves, whenever its variable was made. -/
def InvS (w WF : World) (bz bx B5 n c5 : Nat) (L : List (List GF)) : Prop :=
  WF.cell? ⟨bz, 0, none⟩ = some (.slice (some ⟨B5, 0, none⟩) n c5) ∧ WF.cell? ⟨bx, 0, none⟩ = some (.int .i64 (n : Nat)) ∧ (∃ base, GC WF base B5 n c5 L) ∧ Below w.heap.size w WF
theorem invS_late {w w5 : World} {bx B5 n c5 base : Nat} {L : List (List GF)} (hg : GC w5 base B5 n c5 L) (hb : Below w.heap.size w w5) (hx : w.cell? ⟨bx, 0, none⟩ = some (.int .i64 (n : Nat))) (hxl : bx < w.heap.size) :
    InvS w (w5.alloc (.cells #[.slice (some ⟨B5, 0, none⟩) n c5] 27)) w5.heap.size bx B5 n c5 L := by
  have h1 : Below w5.heap.size w5 (w5.alloc (.cells #[.slice (some ⟨B5, 0, none⟩) n c5] 27)) := (Below.refl w5.heap.size w5).alloc (Nat.le_refl _) _
  have h2 := bt hb h1
  exact ⟨lit_one _ _ _, (h2.cell (p := ⟨bx, 0, none⟩) hxl).trans hx, ⟨base, hg.on h1⟩, h2⟩
theorem invS_early {w w5 : World} {bz bx B5 n c5 base : Nat} {L : List (List GF)} (u v : Value) (hv : v = .slice (some ⟨B5, 0, none⟩) n c5) (hg : GC w5 base B5 n c5 L) (hb : Below w.heap.size w w5) (hx : w.cell? ⟨bx, 0, none⟩ = some (.int .i64 (n : Nat))) (hxl : bx < w.heap.size) (hz : w5.heap[bz]? = some (.cells #[u] 27 (0, 0))) (hlt : w.heap.size ≤ bz) :
    InvS w (w5.setCell ⟨bz, 0, none⟩ v) bz bx B5 n c5 L := by
  have h2 : Below w.heap.size w (w5.setCell ⟨bz, 0, none⟩ v) := hb.setCell (p := ⟨bz, 0, none⟩) hlt _
  refine ⟨?_, (h2.cell (p := ⟨bx, 0, none⟩) hxl).trans hx, ⟨base, hg.keptT (gB_set w5 bz 0 v) 27 (by decide) (by decide) (fun k e => by cases e; exact ⟨_, _, hz⟩)⟩, h2⟩
  rw [← hv]
  exact World.cell?_setCell_same' _ _ _ (by rw [cell_of_one hz]; rfl)

set_option maxHeartbeats 4000000 in
theorem inverse_any (a : Option Addr) (n : Nat) (M : List (List GF)) (fb : Nat) (w : World) (h : Mx w a n n M) (hf : Fld w fb) :
    Calls Try.prog 19 #[.pointer a, .pointer (some ⟨fb, 0, none⟩)] w fun e w' => Below w.heap.size w w' ∧ ((det n (ent M) = 0 ∧ e = .returned (.tuple #[.pointer none, .int .i64 7])) ∨ (det n (ent M) ≠ 0 ∧ ∃ a' N, e = .returned (.tuple #[.pointer a', .int .i64 0]) ∧ Mx w' a' n n (mat N n n) ∧ (∀ i j, i < n → j < n → mmul n (ent M) N i j = one i j) ∧ (∀ i j, i < n → j < n → mmul n N (ent M) i j = one i j))) := by
  have H := Lib.hid h
  have HF := Lib.hid hf
  have hbd := h.bd
  have q : ((n : Int) != (n : Int)) = false := by simp
  have hv0 := fun k => box_cell w k (.int .i64 0) 3
  have hf0 := fun k => box_free w k (.int .i64 0) 3
  clear h hf
  go_enter Try.func19, Try.ntmps19
  go_upto_region 2 with (go_at_call 34; refine (size_any _ _ _ _ _ H.out).mono ?_; rintro e w' ⟨rfl, q0, rfl⟩)
  obtain ⟨bx, hbx⟩ : ∃ bx, bx = w.heap.size := ⟨_, rfl⟩
  obtain ⟨W1, hW1⟩ : ∃ W1, W1 = ((w.drewN q0).alloc (.cells #[.int .i64 0] 3)).setCell ⟨w.heap.size, 0, none⟩ (.int .i64 (n : Nat)) := ⟨_, rfl⟩
  have hx : W1.cell? ⟨bx, 0, none⟩ = some (.int .i64 (n : Nat)) := by rw [hW1, hbx]; exact World.cell?_setCell_same' _ _ _ (by rw [hv0]; rfl)
  have HB := Lib.hid (show Below w.heap.size w W1 by rw [hW1]; exact ((below_drewN (Below.refl w.heap.size w) q0).alloc (Nat.le_refl _) _).setCell (p := ⟨w.heap.size, 0, none⟩) (Nat.le_refl _) _)
  rw [← hW1, ← hbx]
  have HX1 := Lib.hid (show bx < W1.heap.size from World.block_lt_of_cell? _ _ hx)
  have HX := Lib.hid hx
  have HBX := Lib.hid hbx
  clear hW1 hv0 hf0 hbx
  go_upto_region 5 with (first
    | (go_at_call 35; refine (missing_any _ _ _ _ _ (H.out.on HB.out)).mono ?_; rintro e w' ⟨rfl, rfl⟩)
    | (go_at_call 43; go_loud (refine (identity_ok n _ (by omega)).mono ?_); rintro e w2 ⟨a1, rfl, hm1, hb1⟩; have HM1 := Lib.hid hm1; have HB1 := Lib.hid hb1; clear hm1 hb1))
  have hbw : bx < w2.heap.size := by have := HB1.out.size; have := HX1.out; omega
  have hx2 := (HB1.out.cell (p := ⟨bx, 0, none⟩) HX1.out).trans HX.out
  have HB2 := Lib.hid (bt HB.out HB1.out)
  have hbes := fun (W2 : World) (hW2 : Below w2.heap.size w2 W2) => beside_any a n n M 29 #[.pointer a1] #[] n (fun i => rw_ (mat one n n) i) W2 ((H.out.on HB2.out).on hW2) (enters_of Try.func29 (by kernel_rfl) rfl) (by omega) (fun W i hW hi => by
    show Calls Try.prog _ #[.pointer a1, .int .i64 (i : Nat)] W _
    refine (row_any a1 n n (mat one n n) i W (HM1.out.on (bt hW2 hW)) hi).mono fun e w' ⟨v, h1, h2, h3⟩ => ?_
    obtain ⟨a', c', e', hp, _⟩ := Pa.own h2
    exact ⟨a', c', by rw [h1, e'], hp, h3⟩)
  have hbe : besx M (fun i => rw_ (mat one n n) i) n n = mat (beside n (ent M) one) n (n + n) := by
    rw [besx_all H.out.len H.out.wide (fun i hi => by rw [rw_mat hi, length_fl])]
    refine mat_congr fun i hi j hj => ?_
    unfold beside
    by_cases e : j < n
    · rw [if_pos e, if_pos e]
    · rw [if_neg e, if_neg e]
      show co (rw_ (mat one n n) i) (j - n) = one i (j - n)
      rw [rw_mat hi, co_fl, if_pos (by omega)]
  rw [hbe] at hbes
  have HBES := Lib.hid hbes
  have HRED := Lib.hid (fun (base B : Nat) (w3 : World) (hg3 : GR w3 base B n (mat (beside n (ent M) one) n (n + n))) (hb3 : Below w.heap.size w w3) =>
    reduced_any fb B 0 n n (n + n) n (beside n (ent M) one) w3 hg3.m8 (HF.out.below hb3) (show 1 ≤ n by omega) (show n ≤ 64 by omega) (show n + n ≤ 1000 by omega) (show n ≤ n + n by omega))
  clear hbes hbe
  have hld : ∀ W : World, Below w2.heap.size w2 W → W.cell? ⟨bx, 0, none⟩ = some (.int .i64 (n : Nat)) := fun W hW => (hW.cell (p := ⟨bx, 0, none⟩) hbw).trans hx2
  have hal := fun (W : World) => heap_alloc_new W (.cells #[.slice none 0 0] 27)
  have HAL := Lib.hid hal
  clear hal
  go_region_held (fun W => Below w2.heap.size w2 W) (first
      | assumption
      | exact (Below.refl _ _).drew
      | exact (Below.refl _ _).drew.alloc (Nat.le_refl _) _
      | exact hq3
      | exact hq3.alloc hq3.size _
      | exact hq5
      | exact hq5.alloc hq5.size _
      | exact hq5.setCell (p := ⟨w2.heap.size, 0, none⟩) (Nat.le_refl _) _
      | exact hq5.setCell (p := ⟨w3.heap.size, 0, none⟩) hq3.size _
      | exact (hq5.alloc hq5.size _).setCell (p := ⟨w5.heap.size, 0, none⟩) hq5.size _)
    (first
      | (go_at_call 37; go_loud (refine (HBES.out _ (by assumption)).mono ?_); rintro e w3 ⟨B, rfl, hg3, hb3⟩; have hq3 : Below w2.heap.size w2 w3 := bt (by assumption) hb3; have HG3 := Lib.hid hg3; (first | (have hy3 : w3.heap[w2.heap.size]? = some (.cells #[.slice none 0 0] 27 (0, 0)) := (hb3.block w2.heap.size (by simp)).trans (HAL.out w2.drew)) | skip); clear hg3 hb3)
      | (go_at_call 36; go_loud (refine (HRED.out _ _ _ (by first | exact HG3.out | exact HG3.out.on ((Below.refl _ _).alloc (Nat.le_refl _) _)) (bt HB2.out (by assumption))).mono ?_); rintro e w5 ⟨B5, c5, al, cl, r, N, piv, rfl, hg5, ho5, hr5, hk5, hp5, hb5⟩; have hq5 : Below w2.heap.size w2 w5 := bt (by assumption) hb5; have HG5 := Lib.hid hg5; have HR5 := Lib.hid (And.intro hr5 (And.intro hk5 hp5)); (first | (have hy5 : w5.heap[w2.heap.size]? = some (.cells #[.slice none 0 0] 27 (0, 0)) := (hb5.block w2.heap.size (lt_of_block hy3)).trans hy3; have hc5 := cell_of_one hy5; have hf5 := free_of_one hy5) | (have hy5 : w5.heap[w3.heap.size]? = some (.cells #[.slice none 0 0] 27 (0, 0)) := (hb5.block w3.heap.size (by simp)).trans (HAL.out w3); have hc5 := cell_of_one hy5; have hf5 := free_of_one hy5) | skip); clear hg5 ho5 hr5 hk5 hp5 hb5))
  all_goals
    first
      | (obtain ⟨WF, hWF⟩ : ∃ WF, WF = w5.setCell ⟨w2.heap.size, 0, none⟩ (.slice (some ⟨B5, 0, none⟩) n c5) := ⟨_, rfl⟩
         rw [← hWF]
         have hI : InvS w2 WF w2.heap.size bx B5 n c5 (mat N n (n + n)) := by rw [hWF]; exact invS_early _ _ rfl HG5.out hq5 hx2 hbw hy5 (Nat.le_refl _)
         obtain ⟨bz, hbz⟩ : ∃ bz, bz = w2.heap.size := ⟨_, rfl⟩
         rw [← hbz] at hI ⊢
         clear hWF hbz)
      | (obtain ⟨WF, hWF⟩ : ∃ WF, WF = w5.setCell ⟨w3.heap.size, 0, none⟩ (.slice (some ⟨B5, 0, none⟩) n c5) := ⟨_, rfl⟩
         rw [← hWF]
         have hI : InvS w2 WF w3.heap.size bx B5 n c5 (mat N n (n + n)) := by rw [hWF]; exact invS_early _ _ rfl HG5.out hq5 hx2 hbw hy5 hq3.size
         obtain ⟨bz, hbz⟩ : ∃ bz, bz = w3.heap.size := ⟨_, rfl⟩
         rw [← hbz] at hI ⊢
         clear hWF hbz)
      | (obtain ⟨WF, hWF⟩ : ∃ WF, WF = w5.alloc (.cells #[.slice (some ⟨B5, 0, none⟩) n c5] 27) := ⟨_, rfl⟩
         rw [← hWF]
         have hI : InvS w2 WF w5.heap.size bx B5 n c5 (mat N n (n + n)) := by rw [hWF]; exact invS_late HG5.out hq5 hx2 hbw
         obtain ⟨bz, hbz⟩ : ∃ bz, bz = w5.heap.size := ⟨_, rfl⟩
         rw [← hbz] at hI ⊢
         clear hWF hbz)
    have HI := Lib.hid hI
    have hcz := hI.1
    have hcx := hI.2.1
    have HBW := Lib.hid (bt HB2.out hI.2.2.2)
    have hks : KerEq n n (ent M) N := (KerEq.of_congr (M := beside n (ent M) one) (fun i hi c hc => by unfold beside; rw [if_pos hc])).symm.trans (HR5.out.2.1.short (by omega))
    have hrn := HR5.out.1.rn
    clear hI hld hq3 hq5
    by_cases hr : r < n
    · have qr : (r : Int) < (n : Int) := by omega
      have hdet := HR5.out.1.sing hks hr
      have HD := Lib.hid hdet
      clear hdet hks
      go_wp2
      go_ret2
      exact ⟨HBW.out, .inl ⟨HD.out, rfl⟩⟩
    · obtain rfl : r = n := by omega
      have hreg := HR5.out.1.regular hks
      have hpid := piv_id (fun t ht => HR5.out.1.lt t ht) HR5.out.2.2
      have hker : KerEq r (r + r) (beside r (ent M) one) (beside r one (fun i c => N i (r + c))) := HR5.out.2.1.trans (KerEq.of_congr fun i hi c hc => by
        unfold beside
        by_cases e : c < r
        · rw [if_pos e]; exact HR5.out.1.unit hpid hi e
        · rw [if_neg e]
          show N i c = N i (r + (c - r))
          rw [show r + (c - r) = c by omega])
      have HREG := Lib.hid hreg
      have HKER := Lib.hid hker
      have HGF := Lib.hid HI.out.2.2.1
      have HFL := Lib.hid (filled_any r r 44 #[.pointer (some ⟨bz, 0, none⟩), .pointer (some ⟨bx, 0, none⟩)] (fun i j => N i (r + j)) WF (by omega) (by omega) (enters_of Try.func44 (by kernel_rfl) rfl) (fun W i j hW hi hj => by
        obtain ⟨base, hg⟩ := HGF.out
        exact inv1_any bz bx B5 0 r c5 (r + r) N W i j ((hW.cell (p := ⟨bz, 0, none⟩) (World.block_lt_of_cell? _ _ hcz)).trans hcz) ((hW.cell (p := ⟨bx, 0, none⟩) (World.block_lt_of_cell? _ _ hcx)).trans hcx) (hg.on hW).mat hi (by omega) (by omega) (by omega)))
      clear hks hreg hpid hker
      go_wp2_with (go_at_call 32; go_loud (refine HFL.out.mono ?_); rintro e w7 ⟨a7, rfl, hm7, hb7⟩; have HM7 := Lib.hid hm7; have HB7 := Lib.hid hb7; clear hm7 hb7)
      go_ret2
      exact ⟨bt HBW.out HB7.out, .inr ⟨HREG.out, a7, _, rfl, HM7.out, fun i j hi hj => inverse_right HKER.out hi hj, fun i j hi hj => inverse_left HKER.out hi hj⟩⟩
end Go.Proofs.Ytpoaimcioeopdaa
