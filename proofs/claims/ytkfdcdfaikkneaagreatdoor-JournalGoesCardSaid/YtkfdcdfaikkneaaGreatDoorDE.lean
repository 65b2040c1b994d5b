/- Texts of mine, one behind the other: Ib Ic Id Ie If. -/
import Derived.Test.YtkfdcdfaikkneaaGreatDoorDB
import Derived.Test.YtkfdcdfaikkneaaGreatDoorDA
import Derived.Lib.ConvBytes
import Derived.Laws.CopyOwn
import Derived.StillTailTactics
import Derived.BigRegion
import Derived.Deep.QuietTactic
import Derived.BigQuiet
import Derived.Deep.RegionHeld
/- Sectors, plain: a share's, a commit's bytes, and what they are parsed to. No program is named here but for the words' bytes. -/
namespace Go.Proofs.YtkfdcdfaikkneaaGreatDoor
open Go.ChangeShapes Go.WideShapes Go.ChangeAt Go.RowKit Go.Shelf
set_option linter.unusedVariables false
set_option linter.unusedSimpArgs false

theorem numB_be {n : Nat} {x : Int} (h0 : 0 ≤ x) (h1 : x < 256 ^ n) : numB (be n x) = x := by
  have key : ∀ j, j ≤ n → numB ((be n x).take j) = x / 256 ^ (n - j) := by
    intro j
    induction j with
    | zero => intro _; rw [List.take_zero, Nat.sub_zero, Int.ediv_eq_zero_of_lt h0 h1]; rfl
    | succ j ih =>
      intro hj
      rw [numB_take_succ (by rw [length_be]; omega), ih (by omega), be_getD n x j (by omega)]
      have e1 : (2 : Int) ^ (8 * (n - 1 - j)) = 256 ^ (n - (j + 1)) := by
        rw [Int.pow_mul, show n - 1 - j = n - (j + 1) by omega]; rfl
      have e2 : (256 : Int) ^ (n - j) = 256 ^ (n - (j + 1)) * 256 := by rw [← Int.pow_succ]; congr 1; omega
      rw [e1, e2, ← Int.ediv_ediv_of_nonneg (Int.pow_nonneg (by omega))]
      generalize x / 256 ^ (n - (j + 1)) = z
      omega
  have := key n (Nat.le_refl _)
  rw [List.take_of_length_le (by rw [length_be]; exact Nat.le_refl _), Nat.sub_self] at this
  simpa using this
theorem drop_lit {l m : List Int} {k : Nat} (h : l.length = k) : (l ++ m).drop k = m := by subst h; exact List.drop_left
theorem take_lit {l m : List Int} {k : Nat} (h : l.length = k) : (l ++ m).take k = l := by subst h; exact List.take_left
/-- The number that n bytes from k on write. -/
def nb (b : List Int) (k n : Nat) : Int := getV n (b.drop k)
theorem nb_be {b r : List Int} {k n : Nat} {x : Int} (h : b.drop k = be n x ++ r) (h0 : 0 ≤ x) (h1 : x < 256 ^ n) : nb b k n = x := by
  unfold nb
  rw [h, getV_num (by rw [List.length_append, length_be]; omega), take_lit (length_be n x), numB_be h0 h1]
theorem allB_zeros (n : Nat) : AllB (List.replicate n 0) := fun x hx => by
  obtain ⟨_, rfl⟩ := List.mem_replicate.1 hx; omega
theorem allB_app2 {l m : List Int} (hl : AllB l) (hm : AllB m) : AllB (l ++ m) := fun y hy => by
  rcases List.mem_append.1 hy with h | h
  · exact hl y h
  · exact hm y h
/-- Bytes, and noughts behind them. -/
def szL (l : List Int) : List Int := l ++ List.replicate (512 - l.length) 0
theorem szL_len {l : List Int} (h : l.length ≤ 512) : (szL l).length = 512 := by
  unfold szL; rw [List.length_append, List.length_replicate]; omega
theorem szL_B {l : List Int} (h : AllB l) : AllB (szL l) := allB_app2 h (allB_zeros _)
def byteI (x : Int) : Prop := 0 ≤ x ∧ x < 256

/-! ## shares -/
structure SH where
  m : Int
  p : Int
  st : Int
  g : Int
  row : List Int
structure SH.Wf (s : SH) : Prop where
  m : byteI s.m
  p : byteI s.p
  st : 0 ≤ s.st ∧ s.st < 4294967296
  g : 0 ≤ s.g ∧ s.g < 18446744073709551616
  row : AllB s.row
def SH.Ok (s : SH) : Prop := s.m ≤ 1 ∧ s.p ≠ 0 ∧ s.row.length ≤ 480
instance (s : SH) : Decidable s.Ok := by unfold SH.Ok; infer_instance
def SH.H (s : SH) : List Int := [76, 83, s.m, s.p] ++ (be 4 s.st ++ (be 8 s.g ++ be 2 (s.row.length : Int)))
def SH.B (s : SH) : List Int := szL (s.H ++ List.replicate 14 0 ++ s.row)
theorem SH.H_len (s : SH) : s.H.length = 18 := by simp [SH.H, length_be]
theorem SH.B_len {s : SH} (h : s.Ok) : s.B.length = 512 := szL_len (by rw [List.length_append, List.length_append, SH.H_len, List.length_replicate]; have := h.2.2; omega)
theorem allB_four {a b : Int} (ha : byteI a) (hb : byteI b) {c d : Int} (hc : byteI c) (hd : byteI d) : AllB [a, b, c, d] := fun x hx => by
  rcases List.mem_cons.1 hx with rfl | hx
  · exact ha
  rcases List.mem_cons.1 hx with rfl | hx
  · exact hb
  rcases List.mem_cons.1 hx with rfl | hx
  · exact hc
  · rw [List.mem_singleton.1 hx]; exact hd
theorem SH.H_B {s : SH} (h : s.Wf) : AllB s.H := allB_app2 (allB_four (by unfold byteI; omega) (by unfold byteI; omega) h.m h.p) (allB_app2 (allB_be _ _) (allB_app2 (allB_be _ _) (allB_be _ _)))
theorem SH.B_B {s : SH} (h : s.Wf) : AllB s.B := szL_B (allB_app2 (allB_app2 (SH.H_B h) (allB_zeros _)) h.row)
/-- What bytes would be parsed to. -/
def pshR (b : List Int) : SH := ⟨b.getD 2 0, b.getD 3 0, nb b 4 4, nb b 8 8, (b.drop 32).take (nb b 16 2).toNat⟩
def psh (b : List Int) : Option SH := if b.length = 512 ∧ nb b 16 2 ≤ 480 ∧ (pshR b).Ok ∧ (pshR b).B = b then some (pshR b) else none
theorem SH.tail (s : SH) : ∃ r, s.B = [76, 83, s.m, s.p] ++ (be 4 s.st ++ (be 8 s.g ++ (be 2 (s.row.length : Int) ++ (List.replicate 14 0 ++ (s.row ++ r))))) := by
  refine ⟨List.replicate (512 - (s.H ++ List.replicate 14 0 ++ s.row).length) 0, ?_⟩
  unfold SH.B szL
  unfold SH.H
  simp only [List.append_assoc]
theorem psh_R {s : SH} (h : s.Wf) (ho : s.Ok) : pshR s.B = s ∧ nb s.B 16 2 = (s.row.length : Int) := by
  obtain ⟨r, hr⟩ := s.tail
  have h4 : s.B.drop 4 = be 4 s.st ++ (be 8 s.g ++ (be 2 (s.row.length : Int) ++ (List.replicate 14 0 ++ (s.row ++ r)))) := by rw [hr]; exact drop_lit rfl
  have h8 : s.B.drop 8 = be 8 s.g ++ (be 2 (s.row.length : Int) ++ (List.replicate 14 0 ++ (s.row ++ r))) := by
    rw [show (8 : Nat) = 4 + 4 from rfl, ← List.drop_drop, h4]; exact drop_lit (length_be _ _)
  have h16 : s.B.drop 16 = be 2 (s.row.length : Int) ++ (List.replicate 14 0 ++ (s.row ++ r)) := by
    rw [show (16 : Nat) = 8 + 8 from rfl, ← List.drop_drop, h8]; exact drop_lit (length_be _ _)
  have h32 : s.B.drop 32 = s.row ++ r := by
    rw [show (32 : Nat) = 16 + 2 + 14 from rfl, ← List.drop_drop, ← List.drop_drop, h16, drop_lit (length_be _ _)]; exact drop_lit List.length_replicate
  have hn : nb s.B 16 2 = (s.row.length : Int) := nb_be h16 (by omega) (by have := ho.2.2; show (s.row.length : Int) < 65536; omega)
  have e2 : s.B.getD 2 0 = s.m := by rw [hr]; rfl
  have e3 : s.B.getD 3 0 = s.p := by rw [hr]; rfl
  refine ⟨?_, hn⟩
  unfold pshR
  rw [hn, e2, e3, nb_be h4 h.st.1 h.st.2, nb_be h8 h.g.1 h.g.2, h32, Int.toNat_natCast, take_lit rfl]
theorem psh_B {s : SH} (h : s.Wf) (ho : s.Ok) : psh s.B = some s := by
  obtain ⟨h1, h2⟩ := psh_R h ho
  unfold psh
  rw [if_pos ⟨SH.B_len ho, by rw [h2]; have := ho.2.2; omega, by rw [h1]; exact ho, by rw [h1]⟩, h1]
theorem byte_getD {b : List Int} (h : AllB b) (k : Nat) : byteI (b.getD k 0) := by
  by_cases hk : k < b.length
  · rw [List.getD_eq_getElem?_getD, List.getElem?_eq_getElem hk]; exact h _ (List.getElem_mem hk)
  · rw [List.getD_eq_getElem?_getD, List.getElem?_eq_none (by omega)]; unfold byteI; simp
theorem AllB.dropB {b : List Int} (h : AllB b) (k : Nat) : AllB (b.drop k) := fun x hx => h x (List.mem_of_mem_drop hx)
theorem AllB.takeB {b : List Int} (h : AllB b) (k : Nat) : AllB (b.take k) := fun x hx => h x (List.mem_of_mem_take hx)
theorem nb_bound {b : List Int} (h : AllB b) (k n : Nat) : 0 ≤ nb b k n ∧ nb b k n < 256 ^ n := getV_bound (h.dropB k)
theorem pshR_wf {b : List Int} (h : AllB b) : (pshR b).Wf := ⟨byte_getD h 2, byte_getD h 3, nb_bound h 4 4, nb_bound h 8 8, (h.dropB 32).takeB _⟩
theorem psh_some {b : List Int} {s : SH} (h : psh b = some s) : b.length = 512 ∧ nb b 16 2 ≤ 480 ∧ s.Ok ∧ s.B = b ∧ s = pshR b := by
  unfold psh at h
  split at h
  · rename_i hc; cases h; exact ⟨hc.1, hc.2.1, hc.2.2.1, hc.2.2.2, rfl⟩
  · cases h

/-! ## commits -/
structure CM where
  st : Int
  n : Int
  g : Int
structure CM.Wf (c : CM) : Prop where
  st : byteI c.st
  n : byteI c.n
  g : 0 ≤ c.g ∧ c.g < 18446744073709551616
def CM.Ok (c : CM) : Prop := c.st ≤ 2 ∧ c.n ≤ 16
instance (c : CM) : Decidable c.Ok := by unfold CM.Ok; infer_instance
def CM.B (c : CM) : List Int := szL ([76, 67, c.st, c.n] ++ be 8 c.g)
theorem CM.B_len (c : CM) : c.B.length = 512 := szL_len (by simp [length_be])
theorem CM.B_B {c : CM} (h : c.Wf) : AllB c.B := szL_B (allB_app2 (allB_four (by unfold byteI; omega) (by unfold byteI; omega) h.st h.n) (allB_be _ _))
def pcmR (b : List Int) : CM := ⟨b.getD 2 0, b.getD 3 0, nb b 4 8⟩
def pcm (b : List Int) : Option CM := if b.length = 512 ∧ (pcmR b).Ok ∧ (pcmR b).B = b then some (pcmR b) else none
theorem pcm_R {c : CM} (h : c.Wf) : pcmR c.B = c := by
  have hr : c.B = [76, 67, c.st, c.n] ++ (be 8 c.g ++ List.replicate (512 - ([76, 67, c.st, c.n] ++ be 8 c.g).length) 0) := by unfold CM.B szL; rw [List.append_assoc]
  have h4 : c.B.drop 4 = be 8 c.g ++ List.replicate (512 - ([76, 67, c.st, c.n] ++ be 8 c.g).length) 0 := by rw [hr]; exact drop_lit rfl
  have e2 : c.B.getD 2 0 = c.st := by rw [hr]; rfl
  have e3 : c.B.getD 3 0 = c.n := by rw [hr]; rfl
  unfold pcmR
  rw [e2, e3, nb_be h4 h.g.1 h.g.2]
theorem pcm_B {c : CM} (h : c.Wf) (ho : c.Ok) : pcm c.B = some c := by
  have h1 := pcm_R h
  unfold pcm
  rw [if_pos ⟨CM.B_len c, by rw [h1]; exact ho, by rw [h1]⟩, h1]
theorem pcmR_wf {b : List Int} (h : AllB b) : (pcmR b).Wf := ⟨byte_getD h 2, byte_getD h 3, nb_bound h 4 8⟩
theorem pcm_some {b : List Int} {c : CM} (h : pcm b = some c) : b.length = 512 ∧ c.Ok ∧ c.B = b ∧ c = pcmR b := by
  unfold pcm at h
  split at h
  · rename_i hc; cases h; exact ⟨hc.1, hc.2.1, hc.2.2, rfl⟩
  · cases h
theorem pcm_none {b : List Int} (h : pcm b = none) : b.length ≠ 512 ∨ ¬ (pcmR b).Ok ∨ (pcmR b).B ≠ b := by
  unfold pcm at h
  split at h
  · cases h
  · rename_i hc
    by_cases h1 : b.length = 512
    · by_cases h2 : (pcmR b).Ok
      · exact .inr (.inr (fun h3 => hc ⟨h1, h2, h3⟩))
      · exact .inr (.inl h2)
    · exact .inl h1
end Go.Proofs.YtkfdcdfaikkneaaGreatDoor
/- The document's functions for sectors: at, sized, a share's and a commit's bytes. -/
namespace Go.Proofs.YtkfdcdfaikkneaaGreatDoor
open Go.ChangeShapes Go.WideShapes Go.ChangeAt Go.RowKit Go.Shelf
set_option linter.unusedVariables false
set_option linter.unusedSimpArgs false
set_option maxRecDepth 100000
attribute [local go_sem] Oper.semAt_some

/-- A row of bytes of one's own, as an argument; kept above. -/
theorem own_blockT2 {w w' : World} {base s n : Nat} {e : TypeId} {v : Value} {xs : List Value} (h : w.ownsRow base e s v n xs) (hb : Below w.heap.size w w') : w'.ownsRow base e s v n xs := by
  refine ⟨h.1, ?_⟩
  rcases h.2 with h2 | ⟨g, cap, cur, hv, h3, h4, h5⟩
  · exact .inl h2
  · exact .inr ⟨g, cap, cur, hv, h3, (hb.block g (Array.getElem?_eq_some_iff.1 h4).1).trans h4, h5⟩
theorem arg_own {w : World} {a : Option Addr} {B n c : Nat} {l : List Int} (h : w.ownsRow B 5 1 (.slice a n c) n (l.map (Value.int .u8))) (hB : AllB l) : Arg8c w a n c l := by
  obtain ⟨hbs, hl⟩ := Bs.of_own h
  rcases h.2 with ⟨h0, h1⟩ | ⟨g', cap', cur, hv, hb, hg, h1, h2, _⟩
  · cases h0; exact ⟨⟨hl, hB, hbs, by omega, Nat.zero_le _⟩, fun _ => rfl⟩
  · cases hv; exact ⟨⟨hl, hB, hbs, h1, h2⟩, fun e => by cases e⟩
theorem conv_str (l : List Int) (hB : AllB l) (W : World) : ∃ c W', (convert 9 23 (.string (strOfNums l))).run Tryz.prog W = .ok (.slice (some ⟨W.heap.size, 0, none⟩) l.length c) W' ∧ Below W.heap.size W W' ∧ Bs W' W'.heap.size (some ⟨W.heap.size, 0, none⟩) l := by
  have hs : (strOfNums l).size = l.length := strOfNums_size l
  refine ⟨grownCap W l.length 0 5, Lib.bytesWorld W 5 (strOfNums l), ?_, ?_, ?_⟩
  · rw [Lib.run_convert_string_bytes W 9 23 5 (strOfNums l) Tryz.underlying9 Tryz.underlying23 Tryz.underlying5, hs]
  · exact ⟨rfl, rfl, rfl, by rw [Lib.bytesWorld_size]; omega, fun k hk => Lib.bytesWorld_at_old W _ _ k hk⟩
  · intro h0
    refine ⟨W.heap.size, 0, rfl, by rw [Lib.bytesWorld_size]; omega, fun i hi => ?_⟩
    rw [Nat.zero_add, Lib.bytesWorld_cell W _ _ i (by rw [hs]; exact hi), strOfNums_data]
    have hx := hB _ (List.getElem_mem hi)
    rw [List.getD_eq_getElem?_getD, List.getElem?_map, List.getElem?_eq_getElem hi, List.getD_eq_getElem?_getD, List.getElem?_eq_getElem hi]
    simp
    omega
theorem str_cut (l : List Int) (i j : Nat) : (strOfNums l).extract i j = strOfNums ((l.take j).drop i) := by
  apply ByteArray.ext
  apply Array.ext'
  rw [ByteArray.data_extract, Array.toList_extract, strOfNums_data, strOfNums_data]
  simp [List.extract_eq_take_drop, List.drop_take]
theorem str_drop (l : List Int) (k : Nat) : (strOfNums l).extract k l.length = strOfNums (l.drop k) := by
  rw [str_cut, List.take_length]
/-- Noughts behind bytes, one by one. -/
theorem zeros_next (l : List Int) (k : Nat) : (l ++ List.replicate k (0 : Int)) ++ [0] = l ++ List.replicate (k + 1) 0 := by
  rw [List.append_assoc, List.replicate_succ']
set_option maxHeartbeats 4000000 in
theorem sized_any (a : Option Addr) (n c B : Nat) (l : List Int) (w : World) (hx : w.ownsRow B 5 1 (.slice a n c) n (l.map (Value.int .u8))) (hn : n ≤ 512) (hBw : B ≤ w.heap.size) :
    Calls Tryz.prog 38 #[.slice a n c] w fun e w' => e = .returned (.string (strOfNums (szL l))) ∧ Below B w w' := by
  have hl : l.length = n := by have := hx.1; simpa using this
  have HX := Lib.hid hx
  have HL := Lib.hid hl
  obtain ⟨i5, hi5, hz5⟩ := Option.map_eq_some_iff.1 info5
  simp only [Prod.mk.injEq] at hz5
  have HI := Lib.hid (And.intro hi5 hz5)
  clear hx hl hi5 hz5
  go_enter Tryz.func38, Tryz.ntmps38
  go_wp2
  go_loopw [0] (fun v wr => ∃ (k : Nat) (a : Option Addr) (c : Nat), n + k ≤ 512 ∧ v = .slice a (n + k) c ∧ wr.ownsRow B 5 1 (.slice a (n + k) c) (n + k) ((l ++ List.replicate k 0).map (Value.int .u8)) ∧ Below B w wr)
    (fun v _ => match v with | .slice _ m _ => 512 - m | _ => 0)
  case atStart => exact ⟨0, a, c, hn, rfl, by rw [List.replicate_zero, List.append_nil]; exact HX.out, Below.refl _ _⟩
  case round =>
    obtain ⟨k, a2, c2, hk, rfl, ho, hB⟩ := hrel
    obtain ⟨m, hm⟩ : ∃ m, m = n + k := ⟨_, rfl⟩
    rw [← hm] at ho hk ⊢
    have HM := Lib.hid hm
    have HO := Lib.hid ho
    have HB := Lib.hid hB
    clear hm ho hB
    by_cases hlt : m < 512
    · have q1 : (m : Int) < 512 := by omega
      have HSRC := Lib.hid (show Bs (wr.alloc (.cells #[.int .u8 0] 5)) (wr.heap.size + 1) (some ⟨wr.heap.size, 0, none⟩) [0] from fun h0 => ⟨wr.heap.size, 0, rfl, by omega, fun j hj => by
        obtain rfl : j = 0 := by simp at hj; omega
        rw [cell_of_row _ _ _ _ _ _ (heap_alloc_new wr _)]; rfl⟩)
      have HBL := Lib.hid (show Below wr.heap.size wr (wr.alloc (.cells #[.int .u8 0] 5)) from (Below.refl _ _).alloc (Nat.le_refl _) _)
      go_wp2_with ((with_reducible show wpList _ _ _ (⟨some 8, _, _, _, _, _⟩ :: _) _ _); go_loud (refine wpList_append_bs _ rfl (.tmp 6) (.tmp 7) 23 rfl B 5 i5 Tryz.underlying23 HI.out.1 HI.out.2.1 HI.out.2.2.1 HI.out.2.2.2 _ m (l ++ List.replicate k 0) rfl (HO.out.alloc _) (some ⟨wr.heap.size, 0, none⟩) 1 1 (wr.heap.size + 1) [0] rfl HSRC.out rfl (by simp) (by omega) (by have := HB.out.size; simp; omega) ?_; intro v2 w2 hown2 hg2; have hb2 : Below B w w2 := (HB.out.trans (HBL.out.mono (by have := HB.out.size; omega))).grown hg2 (by have := HB.out.size; simp; omega) (fun j e => (HO.out.lt j e).1); have HO2 := Lib.hid hown2; have HB2 := Lib.hid hb2; obtain ⟨a3, c3, hv2, -⟩ := own_form hown2; subst hv2; clear hown2 hg2 hb2))
      go_roundw
      case rel =>
        refine ⟨k + 1, a3, c3, by have := HM.out; omega, by have := HM.out; subst this; rfl, ?_, HB2.out⟩
        have h := HO2.out
        rw [zeros_next] at h
        have := HM.out
        subst this
        exact h
      case measure => simp; omega
    · obtain rfl : m = 512 := by omega
      have hcv := (Bs.of_own HO.out).1.str (P := Tryz.prog) (Bs.of_own HO.out).2 (e := 5) (src := 23) (c := c2) Tryz.underlying23 Tryz.underlying5 (dst := 9) Tryz.underlying9
      go_wp2
      go_ret
      refine ⟨?_, HB.out⟩
      unfold szL
      rw [HL.out, show 512 - n = k by have := HM.out; omega]
      rfl
end Go.Proofs.YtkfdcdfaikkneaaGreatDoor
/- The document's commit, the laws' gens and Made. -/
namespace Go.Proofs.YtkfdcdfaikkneaaGreatDoor
open Go.ChangeShapes Go.WideShapes Go.ChangeAt Go.RowKit Go.Shelf
set_option linter.unusedVariables false
set_option linter.unusedSimpArgs false
set_option maxRecDepth 100000
attribute [local go_sem] Oper.semAt_some

theorem ret_str {l m : List Int} (h : l = m) : Ending.returned (.string (strOfNums l)) = .returned (.string (strOfNums m)) := by rw [h]
def CM.S (c : CM) : List Int := if c.Ok then c.B else []
def madeL (b : List Int) : List Int := b.take 512 ++ List.replicate (512 - b.length) 0
theorem madeL_len (b : List Int) : (madeL b).length = 512 := by unfold madeL; rw [List.length_append, List.length_take, List.length_replicate]; omega
theorem madeL_B {b : List Int} (h : AllB b) : AllB (madeL b) := allB_app2 (h.takeB _) (allB_zeros _)
end Go.Proofs.YtkfdcdfaikkneaaGreatDoor
/- The contracts of package sector's commits, as propositions; the laws' lives. -/
namespace Go.Proofs.YtkfdcdfaikkneaaGreatDoor
open Go.ChangeShapes Go.WideShapes Go.ChangeAt Go.RowKit Go.Shelf
set_option linter.unusedVariables false
set_option linter.unusedSimpArgs false
set_option maxRecDepth 100000
attribute [local go_sem] Oper.semAt_some

def cmA (c : CM) : Value := .agg #[.int .u8 c.st, .int .u8 c.n, .int .u64 c.g]
def CM.E (c : CM) : Int := if c.Ok then 0 else 2
def pcmZ (b : List Int) : CM := (pcm b).getD ⟨0, 0, 0⟩
def pcmE (b : List Int) : Int := if (pcm b).isSome then 0 else 3
/-- What is told lies in new memory. -/
def NewS (w : World) (a : Option Addr) (n : Nat) : Prop := 0 < n → ∀ b o, a = some ⟨b, o, none⟩ → w.heap.size ≤ b
def CommitBytesC : Prop := ∀ (c : CM) (w : World), c.Wf →
  Calls Tryz.prog 75 #[cmA c] w fun e w' => ∃ a k, e = .returned (.tuple #[.slice a c.S.length k, .int .i64 c.E]) ∧ Arg8c w' a c.S.length k c.S ∧ NewS w a c.S.length ∧ Below w.heap.size w w'
def ParseCommitC : Prop := ∀ (a : Option Addr) (n k : Nat) (b : List Int) (w : World), Arg8c w a n k b → n ≤ 600 →
  Calls Tryz.prog 28 #[.slice a n k] w fun e w' => e = .returned (.tuple #[cmA (pcmZ b), .int .i64 (pcmE b)]) ∧ Below w.heap.size w w'
theorem CM.S_ok {c : CM} (h : c.Ok) : c.S = c.B ∧ c.E = 0 := ⟨if_pos h, if_pos h⟩
theorem CM.S_no {c : CM} (h : ¬ c.Ok) : c.S = [] ∧ c.E = 2 := ⟨if_neg h, if_neg h⟩
theorem CM.S_B {c : CM} (h : c.Wf) : AllB c.S := by
  unfold CM.S; split
  · exact CM.B_B h
  · exact fun x hx => by cases hx
theorem arg_str {w W : World} {a : Option Addr} {n k : Nat} {l : List Int} (h : Arg8c w a n k l) (hb : Below w.heap.size w W) : (convert 23 9 (.slice a n k)).run Tryz.prog W = .ok (.string (strOfNums l)) W :=
  (h.1.2.2.1.below hb).str h.1.1 Tryz.underlying23 Tryz.underlying5 Tryz.underlying9
def exCM : CM := ⟨1, 2, 3⟩
theorem exCM_wf : exCM.Wf := ⟨⟨by decide, by decide⟩, ⟨by decide, by decide⟩, by decide, by decide⟩
theorem exCM_12 : exCM.B.take 12 = [76, 67, 1, 2, 0, 0, 0, 0, 0, 0, 0, 3] := by decide
end Go.Proofs.YtkfdcdfaikkneaaGreatDoor
/- SectorCommits, under the contracts of package sector's commits. (genIf.py writes this text.) -/
namespace Go.Proofs.YtkfdcdfaikkneaaGreatDoor
open Go.ChangeShapes Go.WideShapes Go.ChangeAt Go.RowKit Go.Shelf
set_option linter.unusedVariables false
set_option linter.unusedSimpArgs false
set_option maxRecDepth 100000
attribute [local go_sem] Oper.semAt_some

theorem str_neq0 {l : List Int} (h : 0 < l.length) : ((strOfNums l).toList == []) = false := by
  rw [Lib.strOfNums_toList, beq_eq_false_iff_ne]
  intro e
  have := congrArg List.length e
  simp [Lib.bytesOf] at this
  subst this; simp at h
theorem pcm_zero {b : List Int} (h : pcm b = none) : pcmZ b = ⟨0, 0, 0⟩ ∧ pcmE b = 3 := by unfold pcmZ pcmE; rw [h]; exact ⟨rfl, rfl⟩
theorem pcm_one {b : List Int} {c : CM} (h : pcm b = some c) : pcmZ b = c ∧ pcmE b = 0 := by unfold pcmZ pcmE; rw [h]; exact ⟨rfl, rfl⟩
theorem pcmR_S {b : List Int} (hB : AllB b) (hl : b.length = 512) (h : pcm b = none) : (pcmR b).S ≠ b := by
  intro e
  rcases pcm_none h with h1 | h1 | h1
  · exact h1 hl
  · rw [(CM.S_no h1).1] at e; subst e; cases hl
  · by_cases ho : (pcmR b).Ok
    · rw [(CM.S_ok ho).1] at e; exact h1 e
    · rw [(CM.S_no ho).1] at e; subst e; cases hl
/-- A block of three cells, behind what made memory, and behind one more block. -/
theorem cells3 {W0 W : World} {b : Nat} {x y z : Value} {T T2 : TypeId} {cs : Array Value} (h : W0.heap[b]? = some (.cells #[x, y, z] T (0, 0))) (hb : Below W0.heap.size W0 W) : (W.alloc (.cells cs T2)).cell? ⟨b, 0, none⟩ = some x ∧ (W.alloc (.cells cs T2)).cell? ⟨b, 1, none⟩ = some y ∧ (W.alloc (.cells cs T2)).cell? ⟨b, 2, none⟩ = some z := by
  have hlt : b < W0.heap.size := (Array.getElem?_eq_some_iff.1 h).1
  have h2 : (W.alloc (.cells cs T2)).heap[b]? = some (.cells #[x, y, z] T (0, 0)) := by
    rw [heap_alloc_old _ _ (by have := hb.size; omega), hb.block b hlt]; exact h
  exact ⟨(cell_of_row _ b 0 _ _ _ h2).trans rfl, (cell_of_row _ b 1 _ _ _ h2).trans rfl, (cell_of_row _ b 2 _ _ _ h2).trans rfl⟩
theorem cells3' {W0 W : World} {b : Nat} {x y z : Value} {T : TypeId} (h : W0.heap[b]? = some (.cells #[x, y, z] T (0, 0))) (hb : Below W0.heap.size W0 W) : W.cell? ⟨b, 0, none⟩ = some x ∧ W.cell? ⟨b, 1, none⟩ = some y ∧ W.cell? ⟨b, 2, none⟩ = some z := by
  have h2 : W.heap[b]? = some (.cells #[x, y, z] T (0, 0)) := (hb.block b (Array.getElem?_eq_some_iff.1 h).1).trans h
  exact ⟨(cell_of_row _ b 0 _ _ _ h2).trans rfl, (cell_of_row _ b 1 _ _ _ h2).trans rfl, (cell_of_row _ b 2 _ _ _ h2).trans rfl⟩
end Go.Proofs.YtkfdcdfaikkneaaGreatDoor
