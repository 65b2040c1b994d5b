/- Contracts of Times. -/
import Derived.Test.YtahdkojjhhpcmaaMnew
namespace Go.Proofs.Ytahdkojjhhpcmaa
open Go.ChangeShapes Go.WideShapes Go.ChangeAt Go.RowKit Go.Shelf GF
set_option linter.unusedVariables false
set_option linter.unusedSimpArgs false

theorem Mx.drewN {w : World} {a : Option Addr} {n m : Nat} {M : List (List GF)} (h : Mx w a n m M) (k : Nat) : Mx (w.drewN k) a n m M := h.on (below_drewN (Below.refl _ _) k)
theorem getD_iL_timesL {M : List (List GF)} {V : List GF} {i : Nat} (h : i < M.length) : (iL (timesL M V)).getD i 0 = toI (dt (rw_ M i).length (co (rw_ M i)) (co V)) := by
  rw [getD_iL]
  congr 1
  unfold timesL co rw_
  simp [List.getD_eq_getElem?_getD, h]
theorem part_at_zero {L : List Int} {i : Nat} (h : i < L.length) : (part L i).set i 0 = part L i := by
  apply List.ext_getElem (by simp)
  intro k h1 h2
  rw [List.getElem_set]
  split
  · rename_i e
    subst e
    simp only [part]
    rw [List.getElem_append_right (by simp; omega)]
    simp
  · rfl
theorem part_getD {L : List Int} {i : Nat} (x : Int) (h : i < L.length) : ((part L i).set i x).getD i 0 = x := by
  have hl : i < (part L i).length := by rw [length_part (by omega)]; exact h
  simp [List.getD_eq_getElem?_getD, hl]

theorem times_uneq (a : Option Addr) (n m : Nat) (M : List (List GF)) (v : Nat) (a2 : Option Addr) (L2 c2 : Nat) (w : World) (h : Mx w a n m M) (hne : L2 ≠ m) (hc : L2 ≤ 9223372036854775807) :
    Calls Try.prog 14 #[.pointer a, .pointer (some ⟨v, 0, none⟩), .slice a2 L2 c2] w fun e w' => e = .returned (.tuple #[.slice none 0 0, .int .i64 1]) ∧ Below w.heap.size w w' := by
  have H := Lib.hid h
  have hbd := h.bd
  have q : ((L2 : Int) != (m : Int)) = true := by rw [bne_iff_ne]; omega
  clear h
  go_enter Try.func14, Try.ntmps14
  go_wp2_with (first
    | (go_at_call 17; refine (size_any _ _ _ _ _ H.out).mono ?_; rintro e w' ⟨rfl, q0, rfl⟩)
    | (go_at_call 38; refine (missing_any _ _ _ _ _ (H.out.drewN _)).mono ?_; rintro e w' ⟨rfl, rfl⟩))
  go_ret2
  exact ⟨rfl, below_drewN (Below.refl _ _) _⟩

set_option maxHeartbeats 4000000 in
theorem times_ok (a : Option Addr) (n m : Nat) (M : List (List GF)) (fb : Nat) (a2 : Option Addr) (c2 : Nat) (V : List GF) (w : World) (h : Mx w a n m M) (hf : Fld w fb) (hv : Pa w a2 m c2 V) :
    Calls Try.prog 14 #[.pointer a, .pointer (some ⟨fb, 0, none⟩), .slice a2 m c2] w fun e w' => ∃ g, e = .returned (.tuple #[.slice (some ⟨g, 0, none⟩) n n, .int .i64 0]) ∧ w'.ownsRow w.heap.size 5 1 (.slice (some ⟨g, 0, none⟩) n n) n ((iL (timesL M V)).map (Value.int .u8)) ∧ Below w.heap.size w w' := by
  have H := Lib.hid h
  have HV := Lib.hid hv
  have HF := Lib.hid hf
  have HL := Lib.hid h.len
  have hvb := hv.bd
  obtain ⟨g0, s, c, rfl, hg, hc, hmat, hw, hn, hm1⟩ := h
  have HM := Lib.hid hmat
  have HW := Lib.hid hw
  have hmk := run_make_row' (P := Try.prog) 22 5 (.int .u8 0) 1 Try.underlying22 info5 rfl .i64 .i64 n (by omega) (by omega)
  have hA := (Below.refl w.heap.size w).alloc (Nat.le_refl _) (.cells (madeCells #[.int .u8 0] n) 5)
  have hc1 : ∀ k, ((w.drewN k).alloc (.cells (madeCells #[.int .u8 0] n) 5)).cell? ⟨g0, 0, none⟩ = some (.slice s n c) := fun k => (hA.cell (p := ⟨g0, 0, none⟩) hg).trans hc
  have qm : ((m : Int) != (m : Int)) = false := by simp
  clear hmat hw hA hv hf hc
  go_enter Try.func14, Try.ntmps14
  go_wp2_with (first
    | (go_at_call 17; refine (size_any _ _ _ _ _ H.out).mono ?_; rintro e w' ⟨rfl, q0, rfl⟩)
    | (go_at_call 38; refine (missing_any _ _ _ _ _ (H.out.drewN _)).mono ?_; rintro e w' ⟨rfl, rfl⟩))
  clear hc1
  obtain ⟨g, hgg⟩ : ∃ g, g = w.heap.size := ⟨_, rfl⟩
  have hO0 : ((w.drewN q0).alloc (.cells (madeCells #[.int .u8 0] n) 5)).ownsRow w.heap.size 5 1 (.slice (some ⟨w.heap.size, 0, none⟩) n n) n ((part (iL (timesL M V)) 0).map (Value.int .u8)) := by
    have h := own_made (w := w.drewN q0) (e := 5) (n := n) (by unfold maxLen; omega)
    rw [part_zero, length_iL, length_timesL, HL.out]
    exact h
  have hB0 : Below w.heap.size w ((w.drewN q0).alloc (.cells (madeCells #[.int .u8 0] n) 5)) := (below_drewN (Below.refl _ _) q0).alloc (Nat.le_refl _) _
  have HO0 := Lib.hid hO0
  have HB0 := Lib.hid hB0
  clear hO0 hB0
  rw [← hgg] at HO0 HB0 ⊢
  have HG := Lib.hid hgg
  clear hgg
  go_loopw [39] (fun j wr => ∃ i : Nat, i ≤ n ∧ j = .int .i64 (i : Nat) ∧ Hid (wr.ownsRow g 5 1 (.slice (some ⟨g, 0, none⟩) n n) n ((part (iL (timesL M V)) i).map (Value.int .u8))) ∧ Hid (Below g w wr))
    (fun j _ => n - (intOf j).toNat)
  case atStart => exact ⟨0, Nat.zero_le _, rfl, HO0, HB0⟩
  case round =>
    obtain ⟨i, hi, rfl, hO, hB⟩ := hrel
    have hBw : Below w.heap.size w wr := by have h := hB.out; rw [HG.out] at h; exact h
    by_cases hlt : i < n
    · obtain ⟨b, off, ai, ci, rfl, hb, hcell, hpa⟩ := HM.out.row hlt
      rw [HW.out i (by rw [HL.out]; exact hlt)] at hcell hpa
      have hcr := (hBw.cell (p := ⟨b, off + i, none⟩) hb).trans hcell
      obtain ⟨r, hr⟩ : ∃ r, r = rw_ M i := ⟨_, rfl⟩
      rw [← hr] at hpa
      have hll : (iL (timesL M V)).length = n := by rw [length_iL, length_timesL, HL.out]
      have hgd := getD_iL_timesL (V := V) (M := M) (i := i) (by rw [HL.out]; exact hlt)
      rw [HW.out i (by rw [HL.out]; exact hlt), ← hr] at hgd
      have HLL := Lib.hid hll
      have HGD := Lib.hid hgd
      have HP := Lib.hid hpa
      have qi : (i : Int) < (n : Int) := by omega
      have qi0 : (0 : Int) ≤ (i : Int) := by omega
      have hpb := hpa.bd
      obtain ⟨LL, hLL⟩ : ∃ LL, LL = iL (timesL M V) := ⟨_, rfl⟩
      rw [← hLL] at hO HLL HGD
      have HLE := Lib.hid hLL
      clear hcell hpa hll hgd hr hLL
      rename World => w1
      go_wp2
      go_loopw [46] (fun j wr => ∃ q : Nat, q ≤ m ∧ j = .int .i64 (q : Nat) ∧ Hid (wr.ownsRow g 5 1 (.slice (some ⟨g, 0, none⟩) n n) n (((part LL i).set i (toI (dt q (co r) (co V)))).map (Value.int .u8))) ∧ Hid (Below g w wr))
        (fun j _ => m - (intOf j).toNat)
      case atStart => exact ⟨0, Nat.zero_le _, rfl, Lib.hid (by
        have e : (part LL i).set i (toI (dt 0 (co r) (co V))) = part LL i := part_at_zero (by rw [HLL.out]; exact hlt)
        rw [e]; exact hO.out), hB⟩
      case round =>
        obtain ⟨q, hq, rfl, hO2, hB2⟩ := hrel
        by_cases hlt2 : q < m
        · have hBw2 : Below w.heap.size w wr := by have h := hB2.out; rw [HG.out] at h; exact h
          obtain ⟨bx, ox, rfl, hbx, hcx⟩ := (HP.out.on hBw2).at_ hlt2
          obtain ⟨bv, ov, rfl, hbv, hcv⟩ := (HV.out.on hBw2).at_ hlt2
          have hfw := HF.out.below hBw2
          have hfd : Fld wr.drew fb := hfw
          have hcg := own_cells hO2.out i hlt
          rw [Nat.zero_add, part_getD _ (by rw [HLL.out]; exact hlt)] at hcg
          have hfz := hO2.out.frozenAt i
          have hst := (hO2.out.stored i (.int .u8 (toI (dt q (co r) (co V) + co r q * co V q)))).1
          rw [map_set_u8, List.set_set] at hst
          have hd : dt (q + 1) (co r) (co V) = dt q (co r) (co V) + co r q * co V q := rfl
          rw [← hd] at hst
          have HST := Lib.hid hst
          have HBS := Lib.hid (hB2.out.setCell (p := ⟨g, i, none⟩) (Nat.le_refl _) (.int .u8 (toI (dt q (co r) (co V) + co r q * co V q))))
          have HD := Lib.hid hd
          have qq : (q : Int) < (m : Int) := by omega
          have qq0 : (0 : Int) ≤ (q : Int) := by omega
          obtain ⟨x, hx⟩ : ∃ x, x = co r q := ⟨_, rfl⟩
          obtain ⟨y, hy⟩ : ∃ y, y = co V q := ⟨_, rfl⟩
          obtain ⟨z, hz⟩ : ∃ z, z = dt q (co r) (co V) := ⟨_, rfl⟩
          rw [← hx] at hcx HBS HD
          rw [← hy] at hcv HBS HD
          rw [← hz] at hcg HBS HD
          have HX := Lib.hid (And.intro hx (And.intro hy hz))
          clear hst hd hBw2 hx hy hz hfw
          go_wp2_with fail
          go_region_with (first
            | (go_at_call 41; refine (mul_G _ _ _ _ hfd).mono ?_; rintro e w' ⟨rfl, rfl⟩)
            | (go_at_call 40; refine (add_G _ _ _).mono ?_; rintro e w' ⟨rfl, rfl⟩))
          all_goals
            go_wp2
            go_roundw
            case rel => exact ⟨q + 1, by omega, by go_num, Lib.hid (by rw [HD.out]; have h := HST.out; rw [HD.out] at h; exact h), Lib.hid ⟨HBS.out.os, HBS.out.tape, HBS.out.output, HBS.out.size, HBS.out.block⟩⟩
            case measure => simp [intOf]; omega
        · obtain rfl : m = q := by omega
          have hp := part_set (L := LL) (k := i) (by rw [HLL.out]; exact hlt)
          rw [HGD.out] at hp
          have h := hO2.out
          rw [hp] at h
          have HO3 := Lib.hid h
          clear hp h
          go_wp2
          go_roundw
          case rel => exact ⟨i + 1, by omega, by go_num, by rw [← HLE.out]; exact HO3, hB2⟩
          case measure => simp [intOf]; omega
    · obtain rfl : n = i := by omega
      have hll : (iL (timesL M V)).length = n := by rw [length_iL, length_timesL, HL.out]
      have hall := part_all (iL (timesL M V))
      rw [hll] at hall
      have h := hO.out
      rw [hall] at h
      have HO3 := Lib.hid h
      have HG2 := Lib.hid hBw
      clear hll hall h hBw
      go_wp2
      go_ret2
      exact ⟨_, rfl, by have h := HO3.out; rw [HG.out] at h ⊢; exact h, HG2.out⟩
end Go.Proofs.Ytahdkojjhhpcmaa
