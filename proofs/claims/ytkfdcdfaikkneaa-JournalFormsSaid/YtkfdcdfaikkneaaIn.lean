/- Package sector: the reader, told by what it reads; ParseCommit. -/
import Derived.Test.YtkfdcdfaikkneaaIm
namespace Go.Proofs.Ytkfdcdfaikkneaa
open Go.ChangeShapes Go.WideShapes Go.ChangeAt Go.RowKit Go.Shelf
set_option linter.unusedVariables false
set_option linter.unusedSimpArgs false
set_option maxRecDepth 100000
attribute [local go_sem] Oper.semAt_some

/-- At p lies a reader that reads b from k on; b lies as it lay in w. -/
def RS (w W : World) (p : Nat) (b : List Int) (k : Nat) : Prop := w.heap.size ≤ p ∧ Below w.heap.size w W ∧ ∃ a m c, RdA W p a m c ∧ Arg8c w a m c (b.drop k)
theorem RS.below {w W : World} {p k : Nat} {b : List Int} (h : RS w W p b k) : Below w.heap.size w W := h.2.1
theorem RS.but {w W W' : World} {p k : Nat} {b : List Int} (h : RS w W p b k) (hb : But p W W') : Below w.heap.size w W' := h.2.1.trans (hb.1.below (fun k e => by rw [e]; exact h.1) h.2.1.size)
theorem But.block {p : Nat} {w w' : World} (h : But p w w') {k : Nat} (hk : k < w.heap.size) (hp : k ≠ p) : w'.heap[k]? = w.heap[k]? := h.1.2 k hk hp
/-- Behind a call that keeps all blocks. -/
theorem RS.on {w W W' : World} {p k : Nat} {b : List Int} (h : RS w W p b k) (hb : Below W.heap.size W W') : RS w W' p b k := by
  obtain ⟨h1, h2, a, m, c, h3, h4⟩ := h
  exact ⟨h1, bt h2 hb, a, m, c, (hb.block p h3.lt).trans h3, h4⟩
theorem rs_start (w A : World) (hA : Below w.heap.size w A) (hs : w.heap.size ≤ A.heap.size) (a : Option Addr) (c : Nat) (b : List Int) (hx : Arg8c w a 512 c b) :
    RS w (A.alloc (.cells #[.slice (cutT a c 2) 510 (c - 2)] 120)) A.heap.size b 2 :=
  ⟨hs, hA.alloc hs _, _, _, _, heap_alloc_new A _, hx.cut8 (k := 2) (by omega)⟩
theorem takeS (w W : World) (p k n : Nat) (b : List Int) (h : RS w W p b k) (hn : k + n ≤ b.length) :
    Calls Try.prog 74 #[.pointer (some ⟨p, 0, none⟩), .int .i64 (n : Nat)] W fun e w' => ∃ a c, e = .returned (.slice a n c) ∧ Arg8c w a n c ((b.drop k).take n) ∧ RS w w' p b (k + n) ∧ But p W w' := by
  have h' := h
  obtain ⟨h1, h2, a, m, c, h3, h4⟩ := h
  have hl := h4.1.1
  rw [List.length_drop] at hl
  have hc := h4.1.2.2.2
  unfold maxLen at hc
  refine (take_any p a m c n W h3 (by omega) (by omega) (by omega)).mono ?_
  rintro e w' ⟨rfl, hr, hb⟩
  refine ⟨a, c, rfl, h4.takeT (by omega), ⟨h1, h'.but hb, _, _, _, hr, ?_⟩, hb⟩
  have := h4.cut8 (k := n) (by omega)
  rw [List.drop_drop] at this
  exact this
theorem next8S (w W : World) (p k : Nat) (b : List Int) (h : RS w W p b k) (hn : k + 1 ≤ b.length) :
    Calls Try.prog 53 #[.pointer (some ⟨p, 0, none⟩)] W fun e w' => e = .returned (.int .u8 (nb b k 1)) ∧ RS w w' p b (k + 1) ∧ But p W w' := by
  have h' := h
  obtain ⟨h1, h2, a, m, c, h3, h4⟩ := h
  have hl := h4.1.1
  rw [List.length_drop] at hl
  have hc := h4.1.2.2.2
  unfold maxLen at hc
  refine (next8_any p a m c (b.drop k) W h3 (by rw [List.length_drop]; exact hl) h4.1.2.1 ((h4.1.2.2.1.below h2).more h1) (by omega) (by omega) (by omega)).mono ?_
  rintro e w' ⟨rfl, hr, hb⟩
  refine ⟨rfl, ⟨h1, h'.but hb, _, _, _, hr, ?_⟩, hb⟩
  have := h4.cut8 (k := 1) (by omega)
  rw [List.drop_drop] at this
  exact this
theorem next16S (w W : World) (p k : Nat) (b : List Int) (h : RS w W p b k) (hn : k + 2 ≤ b.length) :
    Calls Try.prog 56 #[.pointer (some ⟨p, 0, none⟩)] W fun e w' => e = .returned (.int .u16 (nb b k 2)) ∧ RS w w' p b (k + 2) ∧ But p W w' := by
  have h' := h
  obtain ⟨h1, h2, a, m, c, h3, h4⟩ := h
  have hl := h4.1.1
  rw [List.length_drop] at hl
  have hc := h4.1.2.2.2
  unfold maxLen at hc
  refine (next16_any p a m c (b.drop k) W h3 (by rw [List.length_drop]; exact hl) h4.1.2.1 ((h4.1.2.2.1.below h2).more h1) (by omega) (by omega) (by omega)).mono ?_
  rintro e w' ⟨rfl, hr, hb⟩
  refine ⟨rfl, ⟨h1, h'.but hb, _, _, _, hr, ?_⟩, hb⟩
  have := h4.cut8 (k := 2) (by omega)
  rw [List.drop_drop] at this
  exact this
theorem next32S (w W : World) (p k : Nat) (b : List Int) (h : RS w W p b k) (hn : k + 4 ≤ b.length) :
    Calls Try.prog 54 #[.pointer (some ⟨p, 0, none⟩)] W fun e w' => e = .returned (.int .u32 (nb b k 4)) ∧ RS w w' p b (k + 4) ∧ But p W w' := by
  have h' := h
  obtain ⟨h1, h2, a, m, c, h3, h4⟩ := h
  have hl := h4.1.1
  rw [List.length_drop] at hl
  have hc := h4.1.2.2.2
  unfold maxLen at hc
  refine (next32_any p a m c (b.drop k) W h3 (by rw [List.length_drop]; exact hl) h4.1.2.1 ((h4.1.2.2.1.below h2).more h1) (by omega) (by omega) (by omega)).mono ?_
  rintro e w' ⟨rfl, hr, hb⟩
  refine ⟨rfl, ⟨h1, h'.but hb, _, _, _, hr, ?_⟩, hb⟩
  have := h4.cut8 (k := 4) (by omega)
  rw [List.drop_drop] at this
  exact this
theorem next64S (w W : World) (p k : Nat) (b : List Int) (h : RS w W p b k) (hn : k + 8 ≤ b.length) :
    Calls Try.prog 55 #[.pointer (some ⟨p, 0, none⟩)] W fun e w' => e = .returned (.int .u64 (nb b k 8)) ∧ RS w w' p b (k + 8) ∧ But p W w' := by
  have h' := h
  obtain ⟨h1, h2, a, m, c, h3, h4⟩ := h
  have hl := h4.1.1
  rw [List.length_drop] at hl
  have hc := h4.1.2.2.2
  unfold maxLen at hc
  refine (next64_any p a m c (b.drop k) W h3 (by rw [List.length_drop]; exact hl) h4.1.2.1 ((h4.1.2.2.1.below h2).more h1) (by omega) (by omega) (by omega)).mono ?_
  rintro e w' ⟨rfl, hr, hb⟩
  refine ⟨rfl, ⟨h1, h'.but hb, _, _, _, hr, ?_⟩, hb⟩
  have := h4.cut8 (k := 8) (by omega)
  rw [List.drop_drop] at this
  exact this
theorem readS (w A : World) (hA : Below w.heap.size w A) (hs : w.heap.size ≤ A.heap.size) (a : Option Addr) (c : Nat) (b : List Int) (hx : Arg8c w a 512 c b) :
    Calls Try.prog 52 #[.slice a 512 c] A fun e w' => e = .returned (.tuple #[.pointer (some ⟨A.heap.size, 0, none⟩), .bool true]) ∧ RS w w' A.heap.size b 2 ∧ Below A.heap.size A w' := by
  have hcap := hx.1.2.2.2
  unfold maxLen at hcap
  refine (read_ok a c A hcap.1 (by omega)).mono ?_
  rintro e w' ⟨rfl, rfl⟩
  exact ⟨rfl, rs_start w A hA hs a c b hx, (Below.refl _ _).alloc (Nat.le_refl _) _⟩
theorem nb_one {b : List Int} {k : Nat} (hk : k < b.length) : nb b k 1 = b.getD k 0 := by
  unfold nb
  rw [getV_num (by rw [List.length_drop]; omega)]
  have := numB_take_succ (l := b.drop k) (k := 0) (by rw [List.length_drop]; omega)
  rw [this, List.take_zero]
  simp [numB, List.getD_eq_getElem?_getD, List.getElem?_drop]
theorem pcm_len {b : List Int} (h : b.length ≠ 512) : pcmZ b = ⟨0, 0, 0⟩ ∧ pcmE b = 3 := by
  have : pcm b = none := by unfold pcm; exact if_neg (fun k => h k.1)
  unfold pcmZ pcmE; rw [this]; exact ⟨rfl, rfl⟩
theorem chC_form (c : CM) (b : List Int) : ∃ x0 x1 x2 e : Int, chC c b = .tuple #[.agg #[.int .u8 x0, .int .u8 x1, .int .u64 x2], .int .i64 e] := by
  unfold chC; split <;> exact ⟨_, _, _, _, rfl⟩
set_option maxHeartbeats 4000000 in
theorem parseCommit_any : ParseCommitC := by
  intro a n k b w hx hn
  have hl := hx.1.1
  have hcap := hx.1.2.2.2
  unfold maxLen at hcap
  obtain ⟨A, hA⟩ : ∃ A, A = w.alloc (.cells #[.int .u8 0, .int .u8 0, .int .u64 0] 41) := ⟨_, rfl⟩
  have hwA : Below w.heap.size w A := by rw [hA]; exact (Below.refl _ _).alloc (Nat.le_refl _) _
  have hAs : A.heap.size = w.heap.size + 1 := by rw [hA]; simp
  have r1 : A.heap[w.heap.size]? = some (.cells #[.int .u8 0, .int .u8 0, .int .u64 0] 41 (0, 0)) := by rw [hA]; exact heap_alloc_new w _
  have HA := Lib.hid (And.intro hA (And.intro hwA (And.intro hAs r1)))
  by_cases h5 : n = 512
  · subst h5
    obtain ⟨x0, x1, x2, ee, hch⟩ := chC_form (pcmR b) b
    have HV := Lib.hid (show (.tuple #[cmA (pcmZ b), .int .i64 (pcmE b)] : Value) = .tuple #[.agg #[.int .u8 x0, .int .u8 x1, .int .u64 x2], .int .i64 ee] by rw [← chC_par hl, hch])
    have HRD := Lib.hid (readS w A hwA (by omega) a k b hx)
    rw [hAs] at HRD
    have HCH := Lib.hid (fun (W : World) (hW : Below w.heap.size w W) => checkedC_any (pcmR b) (pcmR_wf hx.1.2.1) a 512 k b W (hx.onV hW))
    rw [hch] at HCH
    have HX := Lib.hid hx
    have HL := Lib.hid hl
    unfold cmA pcmR at HCH
    dsimp only at HCH
    have e2 := nb_one (b := b) (k := 2) (by omega)
    have e3 := nb_one (b := b) (k := 3) (by omega)
    rw [← e2, ← e3] at HCH
    obtain ⟨y2, h2⟩ : ∃ y, y = nb b 2 1 := ⟨_, rfl⟩
    obtain ⟨y3, h3⟩ : ∃ y, y = nb b 3 1 := ⟨_, rfl⟩
    obtain ⟨y4, h4⟩ : ∃ y, y = nb b 4 8 := ⟨_, rfl⟩
    have HNB := Lib.hid (And.intro h2.symm (And.intro h3.symm h4.symm))
    rw [← h2, ← h3, ← h4] at HCH
    clear h2 h3 h4
    clear hx hl hcap hA hwA hAs r1 hch e2 e3
    go_enter Try.func28, Try.ntmps28
    go_wp2_with (first
      | (go_at_call 52; go_loud (rw [← HA.out.1]; refine HRD.out.mono ?_; rintro e w1 ⟨rfl, hs1, hb1⟩; have HS1 := Lib.hid hs1; have R1 := Lib.hid ((hb1.block _ (by have := HA.out.2.2.1; omega)).trans HA.out.2.2.2); clear hs1 hb1))
      | (go_at_call 55; go_loud (refine (next64S w _ _ 4 b HS3.out (by have := HL.out; omega)).mono ?_; rintro e w4 ⟨rfl, hs4, hb4⟩; have HB4 := Lib.hid hs4.below; have R4 := Lib.hid ((hb4.block (by have := HS3.out.below.size; have := (Array.getElem?_eq_some_iff.1 R3.out).1; omega) (by omega)).trans R3.out); rw [HNB.out.2.2]; clear hs4 hb4))
      | (go_at_call 53; go_loud (refine (next8S w _ _ 3 b HS2.out (by have := HL.out; omega)).mono ?_; rintro e w3 ⟨rfl, hs3, hb3⟩; have HS3 := Lib.hid hs3; have R3 := Lib.hid ((hb3.block (by have := (Array.getElem?_eq_some_iff.1 R2.out).1; omega) (by omega)).trans R2.out); rw [HNB.out.2.1]; clear hs3 hb3))
      | (go_at_call 53; go_loud (refine (next8S w _ _ 2 b HS1.out (by have := HL.out; omega)).mono ?_; rintro e w2 ⟨rfl, hs2, hb2⟩; have HS2 := Lib.hid hs2; have R2 := Lib.hid ((hb2.block (by have := (Array.getElem?_eq_some_iff.1 R1.out).1; omega) (by omega)).trans R1.out); rw [HNB.out.1]; clear hs2 hb2))
      | (go_at_call 59; go_loud (refine (HCH.out _ HB4.out).mono ?_; rintro e w5 ⟨rfl, hb5⟩; have r5 := (hb5.block _ (by have := (Array.getElem?_eq_some_iff.1 R4.out).1; omega)).trans R4.out; have R5 := Lib.hid r5; obtain ⟨⟨z0, z1, z2⟩, zf⟩ := free3 r5; have HB5 := Lib.hid (bt HB4.out hb5); clear r5 hb5)))
    refine bodyPost_ret (v := .tuple #[.agg #[.int .u8 x0, .int .u8 x1, .int .u64 x2], .int .i64 ee]) (results_paC _ _ w.heap.size _ _ _ _ rfl rfl (set3_row _ _ _ R5.out)) rfl ⟨HV.out.symm ▸ rfl, set3_below HB5.out (Nat.le_refl _) _ _ _⟩
  · have HV := Lib.hid (show (.tuple #[cmA (pcmZ b), .int .i64 (pcmE b)] : Value) = .tuple #[.agg #[.int .u8 0, .int .u8 0, .int .u64 0], .int .i64 3] by rw [(pcm_len (b := b) (by omega)).1, (pcm_len (b := b) (by omega)).2]; rfl)
    have HRD := Lib.hid (read_no a n k A h5 (by omega))
    obtain ⟨⟨z0, z1, z2⟩, zf⟩ := free3 r1
    rw [hA] at z0 z1 z2 zf
    have HN := Lib.hid h5
    clear hx hl hcap hA hwA hAs r1 h5
    go_enter Try.func28, Try.ntmps28
    go_wp2_with (go_at_call 52; go_loud (rw [← HA.out.1]; refine HRD.out.mono ?_; rintro e w1 ⟨rfl, rfl⟩; rw [HA.out.1]))
    refine bodyPost_ret (v := .tuple #[.agg #[.int .u8 0, .int .u8 0, .int .u64 0], .int .i64 3]) (results_paC _ _ w.heap.size _ _ _ _ rfl rfl (HA.out.1 ▸ HA.out.2.2.2)) rfl ⟨HV.out.symm ▸ rfl, HA.out.1 ▸ HA.out.2.1⟩
end Go.Proofs.Ytkfdcdfaikkneaa
