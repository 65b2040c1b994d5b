/- Package sector: ParseShare. -/
import Derived.Test.YtkfdcdfaikkneaaIq
namespace Go.Proofs.Ytkfdcdfaikkneaa
open Go.ChangeShapes Go.WideShapes Go.ChangeAt Go.RowKit Go.Shelf
set_option linter.unusedVariables false
set_option linter.unusedSimpArgs false
set_option maxRecDepth 100000
attribute [local go_sem] Oper.semAt_some

theorem set5_other (W : World) (g : Nat) (x0 x1 x2 x3 x4 : Value) {k : Nat} (h : k ≠ g) : (set5 W g x0 x1 x2 x3 x4).heap[k]? = W.heap[k]? :=
  (heap_setCell_other _ ⟨g, 4, none⟩ k x4 h).trans ((heap_setCell_other _ ⟨g, 3, none⟩ k x3 h).trans ((heap_setCell_other _ ⟨g, 2, none⟩ k x2 h).trans ((heap_setCell_other _ ⟨g, 1, none⟩ k x1 h).trans (heap_setCell_other _ ⟨g, 0, none⟩ k x0 h))))
theorem psh_len {b : List Int} (h : ¬ (b.length = 512 ∧ nb b 16 2 ≤ 480)) : pshZ b = ⟨0, 0, 0, 0, []⟩ ∧ pshE b = 3 := by
  have : psh b = none := by unfold psh; exact if_neg (fun k => h ⟨k.1, k.2.1⟩)
  unfold pshZ pshE; rw [this]; exact ⟨rfl, rfl⟩
theorem psh_yes {b : List Int} (hl : b.length = 512) (hn : nb b 16 2 ≤ 480) (h : chSok (pshR b) b) : pshZ b = pshR b ∧ pshE b = 0 := by
  have ho := sh_ok h.1
  have : psh b = some (pshR b) := by unfold psh; exact if_pos ⟨hl, hn, ho, (SH.S_ok ho).1.symm.trans h.2⟩
  exact psh_one this
theorem psh_not {b : List Int} (h : ¬ chSok (pshR b) b) : pshZ b = ⟨0, 0, 0, 0, []⟩ ∧ pshE b = 3 := by
  have : psh b = none := by unfold psh; exact if_neg (fun k => h ⟨(SH.S_ok k.2.2.1).2, (SH.S_ok k.2.2.1).1.trans k.2.2.2⟩)
  exact psh_zero this
theorem nb_u16 {b : List Int} (h : AllB b) (k : Nat) : ∃ n : Nat, nb b k 2 = (n : Int) ∧ n < 65536 := by
  have := nb_bound h k 2
  exact ⟨(nb b k 2).toNat, by omega, by omega⟩
/-- As ParseShareC, and: the row lies in new memory. -/
def ParseShareN : Prop := ∀ (a : Option Addr) (n k : Nat) (b : List Int) (w : World), Arg8c w a n k b → n ≤ 600 →
  Calls Try.prog 27 #[.slice a n k] w fun e w' => ∃ a2 k2, e = .returned (.tuple #[shG (pshZ b) (.slice a2 (pshZ b).row.length k2), .int .i64 (pshE b)]) ∧ Arg8c w' a2 (pshZ b).row.length k2 (pshZ b).row ∧ Below w.heap.size w w' ∧ NewS w a2 (pshZ b).row.length
set_option maxHeartbeats 8000000 in
theorem parseShare_new : ParseShareN := by
  intro a n k b w hx hn
  have hl := hx.1.1
  have hcap := hx.1.2.2.2
  unfold maxLen at hcap
  obtain ⟨A, hA⟩ : ∃ A, A = w.alloc (.cells #[.int .u8 0, .int .u8 0, .int .u32 0, .int .u64 0, .slice none 0 0] 49) := ⟨_, rfl⟩
  have hwA : Below w.heap.size w A := by rw [hA]; exact (Below.refl _ _).alloc (Nat.le_refl _) _
  have hAs : A.heap.size = w.heap.size + 1 := by rw [hA]; simp
  have r1 : A.heap[w.heap.size]? = some (.cells #[.int .u8 0, .int .u8 0, .int .u32 0, .int .u64 0, .slice none 0 0] 49 (0, 0)) := by rw [hA]; exact heap_alloc_new w _
  have HA := Lib.hid (And.intro hA (And.intro hwA (And.intro hAs r1)))
  by_cases h5 : n = 512
  case neg =>
    have HV := Lib.hid (psh_len (b := b) (fun h => by have := h.1; omega))
    have HRD := Lib.hid (read_no a n k A h5 (by omega))
    obtain ⟨⟨z0, z1, z2, z3, z4⟩, zf⟩ := free5 r1
    rw [hA] at z0 z1 z2 z3 z4 zf
    clear hx hl hcap hA hwA hAs r1 h5
    go_enter Try.func27, Try.ntmps27
    go_wp2_with (go_at_call 52; go_loud (rw [← HA.out.1]; refine HRD.out.mono ?_; rintro e w1 ⟨rfl, rfl⟩; rw [HA.out.1]))
    refine bodyPost_ret (v := .tuple #[.agg #[.int .u8 0, .int .u8 0, .int .u32 0, .int .u64 0, .slice none 0 0], .int .i64 3]) (results_paS _ _ w.heap.size _ _ _ _ _ _ rfl rfl (HA.out.1 ▸ HA.out.2.2.2)) rfl ⟨none, 0, ?_, ?_, HA.out.1 ▸ HA.out.2.1, fun _ b o e => by cases e⟩
    · rw [HV.out.1, HV.out.2]; rfl
    · rw [HV.out.1]; exact arg8c_nil _
  case pos =>
    subst h5
    have HRD := Lib.hid (readS w A hwA (by omega) a k b hx)
    rw [hAs] at HRD
    obtain ⟨y2, h2⟩ : ∃ y, y = nb b 2 1 := ⟨_, rfl⟩
    obtain ⟨y3, h3⟩ : ∃ y, y = nb b 3 1 := ⟨_, rfl⟩
    obtain ⟨y4, h4⟩ : ∃ y, y = nb b 4 4 := ⟨_, rfl⟩
    obtain ⟨y8, h8⟩ : ∃ y, y = nb b 8 8 := ⟨_, rfl⟩
    obtain ⟨N, hN, hN2⟩ := nb_u16 hx.1.2.1 16
    have HNB := Lib.hid (And.intro h2.symm (And.intro h3.symm (And.intro h4.symm (And.intro h8.symm hN))))
    have HPR := Lib.hid (show pshR b = ⟨y2, y3, y4, y8, (b.drop 32).take N⟩ by
      unfold pshR
      rw [hN, h2, h3, h4, h8, nb_one (by omega), nb_one (by omega), Int.toNat_natCast])
    have HX := Lib.hid hx
    have HL := Lib.hid (And.intro hl hcap)
    clear h2 h3 h4 h8 hx hl hcap hA hwA hAs r1 hN hn
    by_cases h48 : N ≤ 480
    case neg =>
      have HV := Lib.hid (psh_len (b := b) (fun h => by have := h.2; rw [HNB.out.2.2.2.2] at this; omega))
      have qN : ¬ (N : Int) ≤ 480 := by omega
      go_enter Try.func27, Try.ntmps27
      go_wp2_with (first
        | (go_at_call 52; go_loud (rw [← HA.out.1]; refine HRD.out.mono ?_; rintro e w1 ⟨rfl, hs1, hb1⟩; have HS1 := Lib.hid hs1; have R1 := Lib.hid ((hb1.block _ (by have := HA.out.2.2.1; omega)).trans HA.out.2.2.2); clear hs1 hb1))
        | (go_at_call 55; go_loud (refine (next64S w _ _ 8 b HS4.out (by have := HL.out.1; omega)).mono ?_; rintro e w5 ⟨rfl, hs5, hb5⟩; have HS5 := Lib.hid hs5; have R5 := Lib.hid ((hb5.block (by have := (Array.getElem?_eq_some_iff.1 R4.out).1; omega) (by omega)).trans R4.out); rw [HNB.out.2.2.2.1]; clear hs5 hb5))
        | (go_at_call 54; go_loud (refine (next32S w _ _ 4 b HS3.out (by have := HL.out.1; omega)).mono ?_; rintro e w4 ⟨rfl, hs4, hb4⟩; have HS4 := Lib.hid hs4; have R4 := Lib.hid ((hb4.block (by have := (Array.getElem?_eq_some_iff.1 R3.out).1; omega) (by omega)).trans R3.out); rw [HNB.out.2.2.1]; clear hs4 hb4))
        | (go_at_call 53; go_loud (refine (next8S w _ _ 3 b HS2.out (by have := HL.out.1; omega)).mono ?_; rintro e w3 ⟨rfl, hs3, hb3⟩; have HS3 := Lib.hid hs3; have R3 := Lib.hid ((hb3.block (by have := (Array.getElem?_eq_some_iff.1 R2.out).1; omega) (by omega)).trans R2.out); rw [HNB.out.2.1]; clear hs3 hb3))
        | (go_at_call 53; go_loud (refine (next8S w _ _ 2 b HS1.out (by have := HL.out.1; omega)).mono ?_; rintro e w2 ⟨rfl, hs2, hb2⟩; have HS2 := Lib.hid hs2; have R2 := Lib.hid ((hb2.block (by have := (Array.getElem?_eq_some_iff.1 R1.out).1; omega) (by omega)).trans R1.out); rw [HNB.out.1]; clear hs2 hb2))
        | (go_at_call 56; go_loud (refine (next16S w _ _ 16 b (HS5.out.on ((Below.refl _ _).alloc (Nat.le_refl _) _)) (by have := HL.out.1; omega)).mono ?_; rintro e w7 ⟨rfl, hs7, hb7⟩; have HB7 := Lib.hid hs7.below; have r7 := (hb7.block (by have := (Array.getElem?_eq_some_iff.1 R5.out).1; simp; omega) (by omega)).trans ((heap_alloc_old _ _ (Array.getElem?_eq_some_iff.1 R5.out).1).trans R5.out); have R7 := Lib.hid r7; obtain ⟨⟨z0, z1, z2, z3, z4⟩, zf⟩ := free5 r7; rw [HNB.out.2.2.2.2]; clear hs7 hb7 r7)))
      refine bodyPost_ret (v := .tuple #[.agg #[.int .u8 0, .int .u8 0, .int .u32 0, .int .u64 0, .slice none 0 0], .int .i64 3]) (results_paS _ _ w.heap.size _ _ _ _ _ _ rfl rfl (set5_row _ _ _ _ _ R7.out)) rfl ⟨none, 0, ?_, ?_, set5_below HB7.out (Nat.le_refl _) _ _ _ _ _, fun _ b o e => by cases e⟩
      · rw [HV.out.1, HV.out.2]; rfl
      · rw [HV.out.1]; exact arg8c_nil _
    case pos =>
      have qN : (N : Int) ≤ 480 := by omega
      have q32 : ¬ k = 32 := by have := HL.out.2; omega
      have qk : (32 : Int) + (N : Int) ≤ (k : Int) := by have := HL.out.2; omega
      have HCT := Lib.hid (show (a.map (·.add 32)) = cutT a k 32 by unfold cutT; rw [if_neg q32])
      have HXR := Lib.hid (show Arg8c w (a.map (·.add 32)) N (k - 32) ((b.drop 32).take N) from HCT.out ▸ (HX.out.cut8 (k := 32) (by omega)).takeT (by omega))
      have HWF := Lib.hid (HPR.out ▸ pshR_wf HX.out.1.2.1)
      have HRL := Lib.hid (show ((b.drop 32).take N).length = N by rw [List.length_take, List.length_drop, HL.out.1]; omega)
      by_cases hch : chSok (pshR b) b
      · have HV := Lib.hid (psh_yes HL.out.1 (by rw [HNB.out.2.2.2.2]; exact qN) hch)
        have HCH := Lib.hid (HPR.out ▸ hch)
        clear hch
        go_enter Try.func27, Try.ntmps27
        go_wp2_with (first
          | (go_at_call 52; go_loud (rw [← HA.out.1]; refine HRD.out.mono ?_; rintro e w1 ⟨rfl, hs1, hb1⟩; have HS1 := Lib.hid hs1; have R1 := Lib.hid ((hb1.block _ (by have := HA.out.2.2.1; omega)).trans HA.out.2.2.2); clear hs1 hb1))
          | (go_at_call 55; go_loud (refine (next64S w _ _ 8 b HS4.out (by have := HL.out.1; omega)).mono ?_; rintro e w5 ⟨rfl, hs5, hb5⟩; have HS5 := Lib.hid hs5; have R5 := Lib.hid ((hb5.block (by have := (Array.getElem?_eq_some_iff.1 R4.out).1; omega) (by omega)).trans R4.out); rw [HNB.out.2.2.2.1]; clear hs5 hb5))
          | (go_at_call 54; go_loud (refine (next32S w _ _ 4 b HS3.out (by have := HL.out.1; omega)).mono ?_; rintro e w4 ⟨rfl, hs4, hb4⟩; have HS4 := Lib.hid hs4; have R4 := Lib.hid ((hb4.block (by have := (Array.getElem?_eq_some_iff.1 R3.out).1; omega) (by omega)).trans R3.out); rw [HNB.out.2.2.1]; clear hs4 hb4))
          | (go_at_call 53; go_loud (refine (next8S w _ _ 3 b HS2.out (by have := HL.out.1; omega)).mono ?_; rintro e w3 ⟨rfl, hs3, hb3⟩; have HS3 := Lib.hid hs3; have R3 := Lib.hid ((hb3.block (by have := (Array.getElem?_eq_some_iff.1 R2.out).1; omega) (by omega)).trans R2.out); rw [HNB.out.2.1]; clear hs3 hb3))
          | (go_at_call 53; go_loud (refine (next8S w _ _ 2 b HS1.out (by have := HL.out.1; omega)).mono ?_; rintro e w2 ⟨rfl, hs2, hb2⟩; have HS2 := Lib.hid hs2; have R2 := Lib.hid ((hb2.block (by have := (Array.getElem?_eq_some_iff.1 R1.out).1; omega) (by omega)).trans R1.out); rw [HNB.out.1]; clear hs2 hb2))
          | (go_at_call 56; go_loud (refine (next16S w _ _ 16 b (HS5.out.on ((Below.refl _ _).alloc (Nat.le_refl _) _)) (by have := HL.out.1; omega)).mono ?_; rintro e w7 ⟨rfl, hs7, hb7⟩; have HB7 := Lib.hid hs7.below; have h15 : w.heap.size + 1 < w5.heap.size := (by obtain ⟨_, _, _, _, _, hrd, _⟩ := HS5.out; exact hrd.lt); have r7 := (hb7.block (by simp; omega) (by omega)).trans ((heap_alloc_old _ _ (Array.getElem?_eq_some_iff.1 R5.out).1).trans R5.out); have R7 := Lib.hid r7; have b7 := (hb7.block (by simp) (by omega)).trans (heap_alloc_new w5 (.cells #[.int .u8 y2, .int .u8 y3, .int .u32 y4, .int .u64 y8, .slice none 0 0] 49)); have B7 := Lib.hid b7; have H15 := Lib.hid h15; rw [HNB.out.2.2.2.2]; clear hs7 hb7 r7 b7 h15))
          | (go_at_call 57; go_loud (refine (cloneB_any (a.map (·.add 32)) N (k - 32) ((b.drop 32).take N) w7 (HXR.out.onV HB7.out) (by omega)).mono ?_; rintro e w8 ⟨a9, c9, rfl, ho8, ha8, hb8⟩; have b8 := (hb8.block _ (Array.getElem?_eq_some_iff.1 B7.out).1).trans B7.out; have B8 := Lib.hid b8; obtain ⟨⟨m0, m1, m2, m3, m4⟩, mf⟩ := free5 b8; have HB8 := Lib.hid (bt HB7.out hb8); have HK8 := Lib.hid hb8; have HO8 := Lib.hid ho8; have HA8 := Lib.hid ha8; clear b8 ho8 ha8 hb8))
          | (go_at_call 58; go_loud (have h57 : w5.heap.size < w7.heap.size := (Array.getElem?_eq_some_iff.1 B7.out).1; have h78 := HK8.out.size; have h9o : ∀ q, q ≠ w5.heap.size → (w8.setCell ⟨w5.heap.size, 4, none⟩ (.slice a9 N c9)).heap[q]? = w8.heap[q]? := fun q hq => heap_setCell_other w8 ⟨w5.heap.size, 4, none⟩ q (.slice a9 N c9) hq; have hb9 : Below w.heap.size w (w8.setCell ⟨w5.heap.size, 4, none⟩ (.slice a9 N c9)) := HB8.out.setCell (by have := H15.out; show w.heap.size ≤ w5.heap.size; omega) _; have ha9 : ∀ bb o, a9 = some ⟨bb, o, none⟩ → w7.heap.size ≤ bb := fun bb o e => (own_lt HO8.out (g := bb) (by rw [e]; rfl)).1; have h9s : (w8.setCell ⟨w5.heap.size, 4, none⟩ (.slice a9 N c9)).heap.size = w8.heap.size := (by simp); refine (checkedS_any ⟨y2, y3, y4, y8, (b.drop 32).take N⟩ HWF.out a9 N c9 a 512 k b (w8.setCell ⟨w5.heap.size, 4, none⟩ (.slice a9 N c9)) (HA8.out.blockT (fun _ bb o e => h9o bb (by have := ha9 bb o e; omega))) (by omega) (HX.out.onV hb9)).mono ?_; rintro e wA ⟨hyes, hno, hbA⟩; dsimp only [shG] at hyes hno; obtain rfl := hyes HCH.out; have rA := (hbA.block _ (by rw [h9s]; have := (Array.getElem?_eq_some_iff.1 R7.out).1; omega)).trans ((h9o w.heap.size (by have := H15.out; omega)).trans ((HK8.out.block _ (Array.getElem?_eq_some_iff.1 R7.out).1).trans R7.out)); have RA := Lib.hid rA; obtain ⟨⟨z0, z1, z2, z3, z4⟩, zf⟩ := free5 rA; have HBA := Lib.hid (bt hb9 hbA); have HRA := Lib.hid (fun x0 x1 x2 x3 x4 : Value => (((HA8.out.blockT (fun _ bb o e => h9o bb (by have := ha9 bb o e; omega))).onV hbA).blockT (fun _ bb o e => set5_other wA w.heap.size x0 x1 x2 x3 x4 (by have := ha9 bb o e; have := H15.out; omega)))); clear rA hb9 hbA hyes hno h9o ha9)))
        refine bodyPost_ret (v := .tuple #[.agg #[.int .u8 y2, .int .u8 y3, .int .u32 y4, .int .u64 y8, .slice a9 N c9], .int .i64 0]) (results_paS _ _ w.heap.size _ _ _ _ _ _ rfl rfl (set5_row _ _ _ _ _ RA.out)) rfl ⟨a9, c9, ?_, ?_, set5_below HBA.out (Nat.le_refl _) _ _ _ _ _, fun _ bb o e => Nat.le_trans HB7.out.size (own_lt HO8.out (g := bb) (by rw [e]; rfl)).1⟩
        · rw [HV.out.1, HV.out.2, HPR.out, HRL.out]; rfl
        · rw [HV.out.1, HPR.out, HRL.out]; exact HRA.out _ _ _ _ _
      · have HV := Lib.hid (psh_not hch)
        have HCH := Lib.hid (HPR.out ▸ hch)
        clear hch
        go_enter Try.func27, Try.ntmps27
        go_wp2_with (first
          | (go_at_call 52; go_loud (rw [← HA.out.1]; refine HRD.out.mono ?_; rintro e w1 ⟨rfl, hs1, hb1⟩; have HS1 := Lib.hid hs1; have R1 := Lib.hid ((hb1.block _ (by have := HA.out.2.2.1; omega)).trans HA.out.2.2.2); clear hs1 hb1))
          | (go_at_call 55; go_loud (refine (next64S w _ _ 8 b HS4.out (by have := HL.out.1; omega)).mono ?_; rintro e w5 ⟨rfl, hs5, hb5⟩; have HS5 := Lib.hid hs5; have R5 := Lib.hid ((hb5.block (by have := (Array.getElem?_eq_some_iff.1 R4.out).1; omega) (by omega)).trans R4.out); rw [HNB.out.2.2.2.1]; clear hs5 hb5))
          | (go_at_call 54; go_loud (refine (next32S w _ _ 4 b HS3.out (by have := HL.out.1; omega)).mono ?_; rintro e w4 ⟨rfl, hs4, hb4⟩; have HS4 := Lib.hid hs4; have R4 := Lib.hid ((hb4.block (by have := (Array.getElem?_eq_some_iff.1 R3.out).1; omega) (by omega)).trans R3.out); rw [HNB.out.2.2.1]; clear hs4 hb4))
          | (go_at_call 53; go_loud (refine (next8S w _ _ 3 b HS2.out (by have := HL.out.1; omega)).mono ?_; rintro e w3 ⟨rfl, hs3, hb3⟩; have HS3 := Lib.hid hs3; have R3 := Lib.hid ((hb3.block (by have := (Array.getElem?_eq_some_iff.1 R2.out).1; omega) (by omega)).trans R2.out); rw [HNB.out.2.1]; clear hs3 hb3))
          | (go_at_call 53; go_loud (refine (next8S w _ _ 2 b HS1.out (by have := HL.out.1; omega)).mono ?_; rintro e w2 ⟨rfl, hs2, hb2⟩; have HS2 := Lib.hid hs2; have R2 := Lib.hid ((hb2.block (by have := (Array.getElem?_eq_some_iff.1 R1.out).1; omega) (by omega)).trans R1.out); rw [HNB.out.1]; clear hs2 hb2))
          | (go_at_call 56; go_loud (refine (next16S w _ _ 16 b (HS5.out.on ((Below.refl _ _).alloc (Nat.le_refl _) _)) (by have := HL.out.1; omega)).mono ?_; rintro e w7 ⟨rfl, hs7, hb7⟩; have HB7 := Lib.hid hs7.below; have h15 : w.heap.size + 1 < w5.heap.size := (by obtain ⟨_, _, _, _, _, hrd, _⟩ := HS5.out; exact hrd.lt); have r7 := (hb7.block (by simp; omega) (by omega)).trans ((heap_alloc_old _ _ (Array.getElem?_eq_some_iff.1 R5.out).1).trans R5.out); have R7 := Lib.hid r7; have b7 := (hb7.block (by simp) (by omega)).trans (heap_alloc_new w5 (.cells #[.int .u8 y2, .int .u8 y3, .int .u32 y4, .int .u64 y8, .slice none 0 0] 49)); have B7 := Lib.hid b7; have H15 := Lib.hid h15; rw [HNB.out.2.2.2.2]; clear hs7 hb7 r7 b7 h15))
          | (go_at_call 57; go_loud (refine (cloneB_any (a.map (·.add 32)) N (k - 32) ((b.drop 32).take N) w7 (HXR.out.onV HB7.out) (by omega)).mono ?_; rintro e w8 ⟨a9, c9, rfl, ho8, ha8, hb8⟩; have b8 := (hb8.block _ (Array.getElem?_eq_some_iff.1 B7.out).1).trans B7.out; have B8 := Lib.hid b8; obtain ⟨⟨m0, m1, m2, m3, m4⟩, mf⟩ := free5 b8; have HB8 := Lib.hid (bt HB7.out hb8); have HK8 := Lib.hid hb8; have HO8 := Lib.hid ho8; have HA8 := Lib.hid ha8; clear b8 ho8 ha8 hb8))
          | (go_at_call 58; go_loud (have h57 : w5.heap.size < w7.heap.size := (Array.getElem?_eq_some_iff.1 B7.out).1; have h78 := HK8.out.size; have h9o : ∀ q, q ≠ w5.heap.size → (w8.setCell ⟨w5.heap.size, 4, none⟩ (.slice a9 N c9)).heap[q]? = w8.heap[q]? := fun q hq => heap_setCell_other w8 ⟨w5.heap.size, 4, none⟩ q (.slice a9 N c9) hq; have hb9 : Below w.heap.size w (w8.setCell ⟨w5.heap.size, 4, none⟩ (.slice a9 N c9)) := HB8.out.setCell (by have := H15.out; show w.heap.size ≤ w5.heap.size; omega) _; have ha9 : ∀ bb o, a9 = some ⟨bb, o, none⟩ → w7.heap.size ≤ bb := fun bb o e => (own_lt HO8.out (g := bb) (by rw [e]; rfl)).1; have h9s : (w8.setCell ⟨w5.heap.size, 4, none⟩ (.slice a9 N c9)).heap.size = w8.heap.size := (by simp); refine (checkedS_any ⟨y2, y3, y4, y8, (b.drop 32).take N⟩ HWF.out a9 N c9 a 512 k b (w8.setCell ⟨w5.heap.size, 4, none⟩ (.slice a9 N c9)) (HA8.out.blockT (fun _ bb o e => h9o bb (by have := ha9 bb o e; omega))) (by omega) (HX.out.onV hb9)).mono ?_; rintro e wA ⟨hyes, hno, hbA⟩; dsimp only [shG] at hyes hno; obtain rfl := hno HCH.out; have rA := (hbA.block _ (by rw [h9s]; have := (Array.getElem?_eq_some_iff.1 R7.out).1; omega)).trans ((h9o w.heap.size (by have := H15.out; omega)).trans ((HK8.out.block _ (Array.getElem?_eq_some_iff.1 R7.out).1).trans R7.out)); have RA := Lib.hid rA; obtain ⟨⟨z0, z1, z2, z3, z4⟩, zf⟩ := free5 rA; have HBA := Lib.hid (bt hb9 hbA); have HRA := Lib.hid (fun x0 x1 x2 x3 x4 : Value => (((HA8.out.blockT (fun _ bb o e => h9o bb (by have := ha9 bb o e; omega))).onV hbA).blockT (fun _ bb o e => set5_other wA w.heap.size x0 x1 x2 x3 x4 (by have := ha9 bb o e; have := H15.out; omega)))); clear rA hb9 hbA hyes hno h9o ha9)))
        refine bodyPost_ret (v := .tuple #[.agg #[.int .u8 0, .int .u8 0, .int .u32 0, .int .u64 0, .slice none 0 0], .int .i64 3]) (results_paS _ _ w.heap.size _ _ _ _ _ _ rfl rfl (set5_row _ _ _ _ _ RA.out)) rfl ⟨none, 0, ?_, ?_, set5_below HBA.out (Nat.le_refl _) _ _ _ _ _, fun _ b o e => by cases e⟩
        · rw [HV.out.1, HV.out.2]; rfl
        · rw [HV.out.1]; exact arg8c_nil _
theorem parseShare_any : ParseShareC := fun a n k b w hx hn => (parseShare_new a n k b w hx hn).mono fun e w' ⟨a2, k2, h1, h2, h3, _⟩ => ⟨a2, k2, h1, h2, h3⟩
end Go.Proofs.Ytkfdcdfaikkneaa
