/- Sectors, plain: a share's, a commit's bytes, and what they are parsed to. No program is named here but for the words' bytes. -/
import Derived.Test.YtbijakhdngbjmaaRput
import Derived.Test.YtbijakhdngbjmaaLa
namespace Go.Proofs.Ytbijakhdngbjmaa
open Go.ChangeShapes Go.WideShapes Go.ChangeAt Go.RowKit Go.Shelf
set_option linter.unusedVariables false
set_option linter.unusedSimpArgs false

theorem numB_be {n : Nat} {x : Int} (h0 : 0 ≤ x) (h1 : x < 256 ^ n) : numB (be n x) = x := by
  have key : ∀ j, j ≤ n → numB ((be n x).take j) = x / 256 ^ (n - j) := by
    intro j
    induction j with
    | zero => intro _; rw [List.take_zero, Nat.sub_zero, Int.ediv_eq_zero_of_lt h0 h1]; rfl
    | succ j ih =>
      intro hj
      rw [numB_take_succ (by rw [length_be]; omega), ih (by omega), be_getD n x j (by omega)]
      have e1 : (2 : Int) ^ (8 * (n - 1 - j)) = 256 ^ (n - (j + 1)) := by
        rw [Int.pow_mul, show n - 1 - j = n - (j + 1) by omega]; rfl
      have e2 : (256 : Int) ^ (n - j) = 256 ^ (n - (j + 1)) * 256 := by rw [← Int.pow_succ]; congr 1; omega
      rw [e1, e2, ← Int.ediv_ediv_of_nonneg (Int.pow_nonneg (by omega))]
      generalize x / 256 ^ (n - (j + 1)) = z
      omega
  have := key n (Nat.le_refl _)
  rw [List.take_of_length_le (by rw [length_be]; exact Nat.le_refl _), Nat.sub_self] at this
  simpa using this
theorem drop_lit {l m : List Int} {k : Nat} (h : l.length = k) : (l ++ m).drop k = m := by subst h; exact List.drop_left
theorem take_lit {l m : List Int} {k : Nat} (h : l.length = k) : (l ++ m).take k = l := by subst h; exact List.take_left
/-- The number that n bytes from k on write. -/
def nb (b : List Int) (k n : Nat) : Int := getV n (b.drop k)
theorem nb_be {b r : List Int} {k n : Nat} {x : Int} (h : b.drop k = be n x ++ r) (h0 : 0 ≤ x) (h1 : x < 256 ^ n) : nb b k n = x := by
  unfold nb
  rw [h, getV_num (by rw [List.length_append, length_be]; omega), take_lit (length_be n x), numB_be h0 h1]
theorem allB_zeros (n : Nat) : AllB (List.replicate n 0) := fun x hx => by
  obtain ⟨_, rfl⟩ := List.mem_replicate.1 hx; omega
theorem allB_app2 {l m : List Int} (hl : AllB l) (hm : AllB m) : AllB (l ++ m) := fun y hy => by
  rcases List.mem_append.1 hy with h | h
  · exact hl y h
  · exact hm y h
/-- Bytes, and noughts behind them. -/
def szL (l : List Int) : List Int := l ++ List.replicate (512 - l.length) 0
theorem szL_len {l : List Int} (h : l.length ≤ 512) : (szL l).length = 512 := by
  unfold szL; rw [List.length_append, List.length_replicate]; omega
theorem szL_B {l : List Int} (h : AllB l) : AllB (szL l) := allB_app2 h (allB_zeros _)
def byteI (x : Int) : Prop := 0 ≤ x ∧ x < 256

/-! ## shares -/
structure SH where
  m : Int
  p : Int
  st : Int
  g : Int
  row : List Int
structure SH.Wf (s : SH) : Prop where
  m : byteI s.m
  p : byteI s.p
  st : 0 ≤ s.st ∧ s.st < 4294967296
  g : 0 ≤ s.g ∧ s.g < 18446744073709551616
  row : AllB s.row
def SH.Ok (s : SH) : Prop := s.m ≤ 1 ∧ s.p ≠ 0 ∧ s.row.length ≤ 480
instance (s : SH) : Decidable s.Ok := by unfold SH.Ok; infer_instance
def SH.H (s : SH) : List Int := [76, 83, s.m, s.p] ++ (be 4 s.st ++ (be 8 s.g ++ be 2 (s.row.length : Int)))
def SH.B (s : SH) : List Int := szL (s.H ++ List.replicate 14 0 ++ s.row)
theorem SH.H_len (s : SH) : s.H.length = 18 := by simp [SH.H, length_be]
theorem SH.B_len {s : SH} (h : s.Ok) : s.B.length = 512 := szL_len (by rw [List.length_append, List.length_append, SH.H_len, List.length_replicate]; have := h.2.2; omega)
theorem allB_four {a b : Int} (ha : byteI a) (hb : byteI b) {c d : Int} (hc : byteI c) (hd : byteI d) : AllB [a, b, c, d] := fun x hx => by
  rcases List.mem_cons.1 hx with rfl | hx
  · exact ha
  rcases List.mem_cons.1 hx with rfl | hx
  · exact hb
  rcases List.mem_cons.1 hx with rfl | hx
  · exact hc
  · rw [List.mem_singleton.1 hx]; exact hd
theorem SH.H_B {s : SH} (h : s.Wf) : AllB s.H := allB_app2 (allB_four (by unfold byteI; omega) (by unfold byteI; omega) h.m h.p) (allB_app2 (allB_be _ _) (allB_app2 (allB_be _ _) (allB_be _ _)))
theorem SH.B_B {s : SH} (h : s.Wf) : AllB s.B := szL_B (allB_app2 (allB_app2 (SH.H_B h) (allB_zeros _)) h.row)
/-- What bytes would be parsed to. -/
def pshR (b : List Int) : SH := ⟨b.getD 2 0, b.getD 3 0, nb b 4 4, nb b 8 8, (b.drop 32).take (nb b 16 2).toNat⟩
def psh (b : List Int) : Option SH := if b.length = 512 ∧ nb b 16 2 ≤ 480 ∧ (pshR b).Ok ∧ (pshR b).B = b then some (pshR b) else none
theorem SH.tail (s : SH) : ∃ r, s.B = [76, 83, s.m, s.p] ++ (be 4 s.st ++ (be 8 s.g ++ (be 2 (s.row.length : Int) ++ (List.replicate 14 0 ++ (s.row ++ r))))) := by
  refine ⟨List.replicate (512 - (s.H ++ List.replicate 14 0 ++ s.row).length) 0, ?_⟩
  unfold SH.B szL
  unfold SH.H
  simp only [List.append_assoc]
theorem psh_R {s : SH} (h : s.Wf) (ho : s.Ok) : pshR s.B = s ∧ nb s.B 16 2 = (s.row.length : Int) := by
  obtain ⟨r, hr⟩ := s.tail
  have h4 : s.B.drop 4 = be 4 s.st ++ (be 8 s.g ++ (be 2 (s.row.length : Int) ++ (List.replicate 14 0 ++ (s.row ++ r)))) := by rw [hr]; exact drop_lit rfl
  have h8 : s.B.drop 8 = be 8 s.g ++ (be 2 (s.row.length : Int) ++ (List.replicate 14 0 ++ (s.row ++ r))) := by
    rw [show (8 : Nat) = 4 + 4 from rfl, ← List.drop_drop, h4]; exact drop_lit (length_be _ _)
  have h16 : s.B.drop 16 = be 2 (s.row.length : Int) ++ (List.replicate 14 0 ++ (s.row ++ r)) := by
    rw [show (16 : Nat) = 8 + 8 from rfl, ← List.drop_drop, h8]; exact drop_lit (length_be _ _)
  have h32 : s.B.drop 32 = s.row ++ r := by
    rw [show (32 : Nat) = 16 + 2 + 14 from rfl, ← List.drop_drop, ← List.drop_drop, h16, drop_lit (length_be _ _)]; exact drop_lit List.length_replicate
  have hn : nb s.B 16 2 = (s.row.length : Int) := nb_be h16 (by omega) (by have := ho.2.2; show (s.row.length : Int) < 65536; omega)
  have e2 : s.B.getD 2 0 = s.m := by rw [hr]; rfl
  have e3 : s.B.getD 3 0 = s.p := by rw [hr]; rfl
  refine ⟨?_, hn⟩
  unfold pshR
  rw [hn, e2, e3, nb_be h4 h.st.1 h.st.2, nb_be h8 h.g.1 h.g.2, h32, Int.toNat_natCast, take_lit rfl]
theorem psh_B {s : SH} (h : s.Wf) (ho : s.Ok) : psh s.B = some s := by
  obtain ⟨h1, h2⟩ := psh_R h ho
  unfold psh
  rw [if_pos ⟨SH.B_len ho, by rw [h2]; have := ho.2.2; omega, by rw [h1]; exact ho, by rw [h1]⟩, h1]
theorem byte_getD {b : List Int} (h : AllB b) (k : Nat) : byteI (b.getD k 0) := by
  by_cases hk : k < b.length
  · rw [List.getD_eq_getElem?_getD, List.getElem?_eq_getElem hk]; exact h _ (List.getElem_mem hk)
  · rw [List.getD_eq_getElem?_getD, List.getElem?_eq_none (by omega)]; unfold byteI; simp
theorem AllB.dropB {b : List Int} (h : AllB b) (k : Nat) : AllB (b.drop k) := fun x hx => h x (List.mem_of_mem_drop hx)
theorem AllB.takeB {b : List Int} (h : AllB b) (k : Nat) : AllB (b.take k) := fun x hx => h x (List.mem_of_mem_take hx)
theorem nb_bound {b : List Int} (h : AllB b) (k n : Nat) : 0 ≤ nb b k n ∧ nb b k n < 256 ^ n := getV_bound (h.dropB k)
theorem pshR_wf {b : List Int} (h : AllB b) : (pshR b).Wf := ⟨byte_getD h 2, byte_getD h 3, nb_bound h 4 4, nb_bound h 8 8, (h.dropB 32).takeB _⟩
theorem psh_some {b : List Int} {s : SH} (h : psh b = some s) : b.length = 512 ∧ nb b 16 2 ≤ 480 ∧ s.Ok ∧ s.B = b ∧ s = pshR b := by
  unfold psh at h
  split at h
  · rename_i hc; cases h; exact ⟨hc.1, hc.2.1, hc.2.2.1, hc.2.2.2, rfl⟩
  · cases h

/-! ## commits -/
structure CM where
  st : Int
  n : Int
  g : Int
structure CM.Wf (c : CM) : Prop where
  st : byteI c.st
  n : byteI c.n
  g : 0 ≤ c.g ∧ c.g < 18446744073709551616
def CM.Ok (c : CM) : Prop := c.st ≤ 2 ∧ c.n ≤ 16
instance (c : CM) : Decidable c.Ok := by unfold CM.Ok; infer_instance
def CM.B (c : CM) : List Int := szL ([76, 67, c.st, c.n] ++ be 8 c.g)
theorem CM.B_len (c : CM) : c.B.length = 512 := szL_len (by simp [length_be])
theorem CM.B_B {c : CM} (h : c.Wf) : AllB c.B := szL_B (allB_app2 (allB_four (by unfold byteI; omega) (by unfold byteI; omega) h.st h.n) (allB_be _ _))
def pcmR (b : List Int) : CM := ⟨b.getD 2 0, b.getD 3 0, nb b 4 8⟩
def pcm (b : List Int) : Option CM := if b.length = 512 ∧ (pcmR b).Ok ∧ (pcmR b).B = b then some (pcmR b) else none
theorem pcm_R {c : CM} (h : c.Wf) : pcmR c.B = c := by
  have hr : c.B = [76, 67, c.st, c.n] ++ (be 8 c.g ++ List.replicate (512 - ([76, 67, c.st, c.n] ++ be 8 c.g).length) 0) := by unfold CM.B szL; rw [List.append_assoc]
  have h4 : c.B.drop 4 = be 8 c.g ++ List.replicate (512 - ([76, 67, c.st, c.n] ++ be 8 c.g).length) 0 := by rw [hr]; exact drop_lit rfl
  have e2 : c.B.getD 2 0 = c.st := by rw [hr]; rfl
  have e3 : c.B.getD 3 0 = c.n := by rw [hr]; rfl
  unfold pcmR
  rw [e2, e3, nb_be h4 h.g.1 h.g.2]
theorem pcm_B {c : CM} (h : c.Wf) (ho : c.Ok) : pcm c.B = some c := by
  have h1 := pcm_R h
  unfold pcm
  rw [if_pos ⟨CM.B_len c, by rw [h1]; exact ho, by rw [h1]⟩, h1]
theorem pcmR_wf {b : List Int} (h : AllB b) : (pcmR b).Wf := ⟨byte_getD h 2, byte_getD h 3, nb_bound h 4 8⟩
theorem pcm_some {b : List Int} {c : CM} (h : pcm b = some c) : b.length = 512 ∧ c.Ok ∧ c.B = b ∧ c = pcmR b := by
  unfold pcm at h
  split at h
  · rename_i hc; cases h; exact ⟨hc.1, hc.2.1, hc.2.2, rfl⟩
  · cases h
theorem pcm_none {b : List Int} (h : pcm b = none) : b.length ≠ 512 ∨ ¬ (pcmR b).Ok ∨ (pcmR b).B ≠ b := by
  unfold pcm at h
  split at h
  · cases h
  · rename_i hc
    by_cases h1 : b.length = 512
    · by_cases h2 : (pcmR b).Ok
      · exact .inr (.inr (fun h3 => hc ⟨h1, h2, h3⟩))
      · exact .inr (.inl h2)
    · exact .inl h1
end Go.Proofs.Ytbijakhdngbjmaa
