/- Contract of beside: each row, and what a function value tells behind it. -/
import Derived.Test.YtpoaimcioeopdaaMcat
namespace Go.Proofs.Ytpoaimcioeopdaa
open Go.ChangeShapes Go.WideShapes Go.ChangeAt Go.RowKit Go.Shelf GF
set_option linter.unusedVariables false
set_option maxRecDepth 100000
set_option linter.unusedSimpArgs false

/-- The first i rows laid. -/
def besx (M : List (List GF)) (G : Nat → List GF) (n i : Nat) : List (List GF) := (List.range n).map fun k => if k < i then rw_ M k ++ G k else []
theorem length_besx (M : List (List GF)) (G : Nat → List GF) (n i : Nat) : (besx M G n i).length = n := by simp [besx]
theorem besx_zero (M : List (List GF)) (G : Nat → List GF) (n : Nat) : besx M G n 0 = List.replicate n [] := by
  apply List.ext_getElem (by simp [besx])
  intro k h1 h2
  simp [besx]
theorem besx_set {M : List (List GF)} {G : Nat → List GF} {n i : Nat} (h : i < n) : (besx M G n i).set i (rw_ M i ++ G i) = besx M G n (i + 1) := by
  apply List.ext_getElem (by simp [besx])
  intro k h1 h2
  rw [List.getElem_set]
  simp only [besx, List.getElem_map, List.getElem_range]
  by_cases e : i = k
  · subst e; rw [if_pos rfl, if_pos (by omega)]
  · rw [if_neg e]
    by_cases e2 : k < i
    · rw [if_pos e2, if_pos (by omega)]
    · rw [if_neg e2, if_neg (by omega)]
theorem besx_all {M : List (List GF)} {G : Nat → List GF} {n m k : Nat} (hl : M.length = n) (hw : Wide M m) (hg : ∀ i, i < n → (G i).length = k) : besx M G n n = mat (beside m (ent M) (fun i c => co (G i) c)) n (m + k) := by
  apply List.ext_getElem (by simp [besx, mat])
  intro i h1 h2
  have hi : i < n := by simpa [besx] using h1
  have e1 : (besx M G n n)[i] = rw_ M i ++ G i := by simp [besx]; intro h; omega
  have e2 : (mat (beside m (ent M) (fun i c => co (G i) c)) n (m + k))[i] = fl (m + k) (beside m (ent M) (fun i c => co (G i) c) i) := by simp [mat]
  rw [e1, e2]
  have hwi := hw i (by omega)
  have hgi := hg i hi
  apply List.ext_getElem (by rw [List.length_append, length_fl, hwi, hgi])
  intro j k1 k2
  have e3 : (fl (m + k) (beside m (ent M) (fun i c => co (G i) c) i))[j] = beside m (ent M) (fun i c => co (G i) c) i j := by simp [fl]
  rw [e3]
  unfold beside
  by_cases e : j < m
  · rw [if_pos e, List.getElem_append_left (by omega)]
    show _ = co (rw_ M i) j
    rw [co_lt (by omega)]
  · rw [if_neg e, List.getElem_append_right (by omega)]
    show _ = co (G i) (j - m)
    rw [co_lt (by rw [List.length_append] at k1; omega)]
    congr 1
    omega

theorem lit_two (w : World) (u v : Value) (e : TypeId) : (w.alloc (.cells #[u, v] e)).cell? ⟨w.heap.size, 0, none⟩ = some u ∧ (w.alloc (.cells #[u, v] e)).cell? ⟨w.heap.size, 0 + 1, none⟩ = some v := by
  have h := World.ownsRow_lit (base := w.heap.size) (e := e) (size := 1) w #[u, v] 2 (Nat.le_refl _) (by unfold maxLen; omega) rfl
  exact ⟨h.cellAt 0 (by omega), h.cellAt 1 (by omega)⟩
set_option maxHeartbeats 4000000 in
theorem beside_any (a : Option Addr) (n m : Nat) (M : List (List GF)) (g : Nat) (fr lb : Array Value) (k : Nat) (G : Nat → List GF) (w : World) (h : Mx w a n m M) (eg : ∀ args w, (callFunc g args).run Try.prog w = .ok (.enter g args) w) (hk : k ≤ 64)
    (hG : ∀ (W : World) (i : Nat), Below w.heap.size w W → i < n → Calls Try.prog g (fr.push (.int .i64 (i : Nat)) ++ lb) W fun e w' => ∃ ai ci, e = .returned (.slice ai k ci) ∧ Pa w' ai k ci (G i) ∧ Below W.heap.size W w') :
    Calls Try.prog 37 #[.pointer a, .func (.func g) fr lb] w fun e w' => ∃ B, e = .returned (.slice (some ⟨B, 0, none⟩) n n) ∧ GR w' w.heap.size B n (besx M G n n) ∧ Below w.heap.size w w' := by
  have H := Lib.hid h
  have HGG := Lib.hid hG
  have hbd := h.bd
  obtain ⟨g0, s, c, rfl, hg0, hc, hmat, hw, hn, hm1⟩ := h
  have HM := Lib.hid (And.intro hmat (And.intro hw hmat.len))
  have hmk := run_make_row' (P := Try.prog) 27 22 (.slice none 0 0) 24 Try.underlying27 info22 rfl .i64 .i64 n (by omega) (by omega)
  have hA := (Below.refl w.heap.size w).alloc (Nat.le_refl _) (.cells (madeCells #[.slice none 0 0] n) 22)
  have hc1 := (hA.cell (p := ⟨g0, 0, none⟩) hg0).trans hc
  have HB0 := Lib.hid hA
  have HG0 := Lib.hid (GR.made w (n := n) (by unfold maxLen; omega))
  clear hG hmat hw hA
  go_enter Try.func37, Try.ntmps37
  go_wp2
  clear hc1
  obtain ⟨B, hB⟩ : ∃ B, B = w.heap.size := ⟨_, rfl⟩
  rw [← hB] at HG0 ⊢
  have HB := Lib.hid hB
  clear hB
  go_loopw [19] (fun j wr => ∃ i : Nat, i ≤ n ∧ j = .int .i64 (i : Nat) ∧ Hid (GR wr B B n (besx M G n i)) ∧ Hid (Below w.heap.size w wr))
    (fun j _ => n - (intOf j).toNat)
  case atStart => exact ⟨0, Nat.zero_le _, rfl, by rw [besx_zero]; exact HG0, HB0⟩
  case round =>
    obtain ⟨i, hi, rfl, hR, hW⟩ := hrel
    by_cases hlt : i < n
    · have qi : (i : Int) < (n : Int) := by omega
      have qi0 : (0 : Int) ≤ (i : Int) := by omega
      obtain ⟨b1, off1, ai1, ci1, rfl, hb1', hcell1, hpa1⟩ := HM.out.1.row hlt
      rw [HM.out.2.1 i (by rw [HM.out.2.2]; exact hlt)] at hcell1 hpa1
      have hcr := (hW.out.cell (p := ⟨b1, off1 + i, none⟩) hb1').trans hcell1
      have HP := Lib.hid hpa1
      have hcall := Lib.hid (HGG.out wr i hW.out hlt)
      clear hcell1 hpa1
      have hcat := Lib.hid (fun (a2 : Option Addr) (c2 : Nat) (w2 : World) (hp2 : Pa w2 a2 k c2 (G i)) (hb2 : Below wr.heap.size wr w2) =>
        concat_any w2.heap.size ai1 m ci1 (rw_ M i) a2 k c2 (G i) (w2.alloc (.cells #[.slice ai1 m ci1, .slice a2 k c2] 22)) (lit_two _ _ _ _).1 (lit_two _ _ _ _).2 (by simp)
          ((HP.out.on (bt hW.out hb2)).on ((Below.refl _ _).alloc (Nat.le_refl _) _)) (hp2.on ((Below.refl _ _).alloc (Nat.le_refl _) _)) (by omega) (by omega))
      obtain ⟨ai0, ci0, hcB, _, _⟩ := hR.out.row hlt
      have hBl := hR.out.lt.2
      go_wp2_with (first
        | (go_at_fn g; go_loud (refine hcall.out.mono ?_); rintro e w2 ⟨a2, c2, rfl, hp2, hb2⟩; have HP2 := Lib.hid hp2; have HB2 := Lib.hid hb2; clear hp2 hb2)
        | (go_at_call 46; go_loud (refine (hcat.out _ _ _ HP2.out HB2.out).mono ?_); rintro e w4 ⟨v4, rfl, ho4, hb4⟩; have HB4 := Lib.hid (bt HB2.out (bt ((Below.refl _ _).alloc (Nat.le_refl _) _) hb4)); obtain ⟨g4, c4, hv4, hg4⟩ := own_one_form ho4 (by omega); subst hv4; have HO4 := Lib.hid ho4; have hc9 := (HB4.out.cell (p := ⟨B, i, none⟩) hBl).trans hcB; have hf9 := (HB4.out.frozen (p := ⟨B, i, none⟩) hBl).trans (hR.out.free i); clear ho4 hb4))
      have hp4 : Pa w4 (some ⟨g4, 0, none⟩) (m + k) c4 (rw_ M i ++ G i) := by
        obtain ⟨a', c', e, hp, _⟩ := Pa.own HO4.out
        cases e
        exact hp
      have hlen : (rw_ M i ++ G i).length = m + k := hp4.len
      have hg9 := (hR.out.on HB4.out).set hlt (a := some ⟨g4, 0, none⟩) (c := c4) (P := rw_ M i ++ G i) (by rw [hlen]; exact hp4) (fun b off e _ => by cases e; exact own_t8 HO4.out)
      rw [hlen, besx_set hlt] at hg9
      have HG9 := Lib.hid hg9
      have HW9 := Lib.hid ((bt hW.out HB4.out).setCell (p := ⟨B, i, none⟩) (show w.heap.size ≤ B by have := HB.out; omega) (.slice (some ⟨g4, 0, none⟩) (m + k) c4))
      clear hp4 hlen hg9 hc9 hf9 hcB hcr
      go_roundw
      case rel => exact ⟨i + 1, by omega, by go_num, HG9, HW9⟩
      case measure => simp [intOf]; omega
    · obtain rfl : n = i := by omega
      go_wp2
      go_ret
      have hW2 := hW.out
      exact ⟨B, rfl, hR.out.base (by have := HB.out; omega), hW2⟩
end Go.Proofs.Ytpoaimcioeopdaa
