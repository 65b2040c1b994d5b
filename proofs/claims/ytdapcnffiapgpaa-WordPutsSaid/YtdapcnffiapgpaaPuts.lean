/- The walk of WordPuts. -/
import Derived.Test.YtdapcnffiapgpaaRput
import Derived.Deep.RegionHeld
namespace Go.Proofs.Ytdapcnffiapgpaa
open Go.ChangeShapes Go.WideShapes Go.ChangeAt Go.RowKit
set_option linter.unusedVariables false
set_option maxRecDepth 100000

theorem own_block_le (g n c : Nat) : ∀ k, (Value.slice (some ⟨g, 0, none⟩) n c).ownBlock = some k → g ≤ k := fun k hk => by cases hk; exact Nat.le_refl _
theorem own_empty (w : World) (e : TypeId) : (w.alloc (.cells #[] e)).ownsRow w.heap.size e 1 (.slice (some ⟨w.heap.size, 0, none⟩) 0 0) 0 (([] : List Int).map (Value.int .u8)) :=
  World.ownsRow_lit (base := w.heap.size) (e := e) (size := 1) w #[] 0 (Nat.le_refl _) (Nat.zero_le _) rfl
theorem Bs.drop_own {w : World} {base : Nat} {e : TypeId} {g n c : Nat} {l m : List Int} (h : w.ownsRow base e 1 (.slice (some ⟨g, 0, none⟩) n c) n ((l ++ m).map (Value.int .u8))) {L : Nat} (hl : l.length = L) :
    Bs w w.heap.size (some ⟨g, L, none⟩) m := fun h0 => by
  have hlen : (l ++ m).length = n := by have := h.1; simpa using this
  have hlt := (h.lt g rfl).2
  refine ⟨g, L, rfl, hlt, fun i hi => ?_⟩
  have := own_cells h (L + i) (by simp at hlen; omega)
  rw [Nat.zero_add] at this
  rw [this]
  congr 2
  rw [List.getD_eq_getElem?_getD, List.getD_eq_getElem?_getD, List.getElem?_append_right (by omega)]
  congr 2; omega
theorem strOfNums_append (l m : List Int) : strOfNums l ++ strOfNums m = strOfNums (l ++ m) := by
  apply ByteArray.ext
  simp [strOfNums]
theorem numB_be {n : Nat} {x : Int} (h0 : 0 ≤ x) (h1 : x < 256 ^ n) : numB (be n x) = x := by
  have key : ∀ j, j ≤ n → numB ((be n x).take j) = x / 256 ^ (n - j) := by
    intro j
    induction j with
    | zero => intro _; rw [List.take_zero, Nat.sub_zero, Int.ediv_eq_zero_of_lt h0 h1]; rfl
    | succ j ih =>
      intro hj
      rw [numB_take_succ (by rw [length_be]; omega), ih (by omega), be_getD n x j (by omega)]
      have e1 : (2 : Int) ^ (8 * (n - 1 - j)) = 256 ^ (n - (j + 1)) := by
        rw [Int.pow_mul, show n - 1 - j = n - (j + 1) by omega]; rfl
      have e2 : (256 : Int) ^ (n - j) = 256 ^ (n - (j + 1)) * 256 := by rw [← Int.pow_succ]; congr 1; omega
      rw [e1, e2, ← Int.ediv_ediv_of_nonneg (Int.pow_nonneg (by omega))]
      generalize x / 256 ^ (n - (j + 1)) = z
      omega
  have := key n (Nat.le_refl _)
  rw [List.take_of_length_le (by rw [length_be]; exact Nat.le_refl _), Nat.sub_self] at this
  simpa using this
theorem getV_be {n : Nat} {x : Int} (h0 : 0 ≤ x) (h1 : x < 256 ^ n) : getV n (be n x) = x := by
  rw [getV_num (by rw [length_be]; exact Nat.le_refl _), List.take_of_length_le (by rw [length_be]; exact Nat.le_refl _)]
  exact numB_be h0 h1

set_option maxHeartbeats 2000000 in
theorem puts8 (a : Option Addr) (L cap : Nat) (l : List Int) (x : Int) (w : World) (hA : Arg8c w a L cap l) (hL : L ≤ 100) (wx : (Lit.int .u8 x).wf = true) :
    Calls Try.prog 13 #[.slice a L cap, .int .u8 x, .int .i64 1] w fun e w' => e = .returned (.bool true) ∧ Below w.heap.size w w' := by
  obtain ⟨x0, x1⟩ := wf_u8 wx
  have x2 : x < 256 := x1
  have HA := Lib.hid hA
  have hlen : l.length = L := hA.1.1
  have HLEN := Lib.hid hlen
  clear hA hlen
  obtain ⟨i5, hi, hz0, hz1, hz2⟩ := info_parts info5
  have HI := Lib.hid (And.intro hi (And.intro hz0 (And.intro hz1 hz2)))
  clear hi hz0 hz1 hz2
  go_enter Try.func13, Try.ntmps13
  have wx' := Lib.hid wx
  clear wx
  go_wp2_with (first
    | ((with_reducible show wpList _ _ _ (⟨some 17, _, _, _, _, _⟩ :: _) _ _); go_loud (refine wpList_append_bs _ rfl (.tmp 15) (.tmp 16) 31 rfl w.heap.size 5 i5 Try.underlying31 HI.out.1 HI.out.2.1 HI.out.2.2.1 HI.out.2.2.2 _ 0 [] rfl (own_empty w _) a L cap w.heap.size l rfl (HA.out.1.2.2.1.below ((Below.refl _ _).alloc (Nat.le_refl _) _)) HLEN.out HA.out.2 (by omega) (by simp) ?_); go_loud (intro v1 w1 hown1 hg1; rw [Nat.zero_add, List.nil_append] at hown1; obtain ⟨a1, c1, rfl, hb1, hl1, hc1, hc2, hc3⟩ := own_form hown1; have hB1 : Below w.heap.size w w1 := ((Below.refl _ _).alloc (Nat.le_refl _) _).grown hg1 (by simp) (own_block_le _ _ _); have HB1 := Lib.hid hb1; have HL1 := Lib.hid hl1; clear hb1 hl1 hc3))
    | (go_at_call 31; go_loud (refine (put8 a1 L c1 l _ HL1.out HB1.out (by omega) x wx'.out).mono ?_); rintro e w2 ⟨g2, rfl, hown2, hB2⟩)
    | (go_at_call_of 32 (Value.slice a L cap); go_loud (refine (get8 a L cap l _ HLEN.out HA.out.1.2.1 (HA.out.1.on (bt hB1 hB2)).2.2.1 (by omega)).mono ?_); rintro e w' ⟨rfl, rfl⟩)
    | (go_at_call 32; go_loud (refine (get8 (some ⟨g2, L, none⟩) 1 1 (be 1 x) _ (length_be _ _) (allB_be _ _) (Bs.drop_own hown2 HLEN.out) (by omega)).mono ?_); rintro e w' ⟨rfl, rfl⟩)
    | (go_at_call 33; go_loud (refine (refGet 1 (by omega) a L cap l _ HLEN.out HA.out.1.2.1 (HA.out.1.on (bt hB1 hB2)).2.2.1 (by omega)).mono ?_); rintro e w' ⟨rfl, rfl⟩)
    | fail)
  have hcvO : ∀ W, Below w2.heap.size w2 W → (convert 31 9 (.slice (some ⟨g2, 0, none⟩) (L + 1) (L + 1))).run Try.prog W = .ok (.string (strOfNums (l ++ be 1 x))) W := fun W hW =>
    ((Bs.of_own hown2).1.below hW).str (Bs.of_own hown2).2 Try.underlying31 Try.underlying5 Try.underlying9
  have hcvB : ∀ W, Below w2.heap.size w2 W → (convert 31 9 (.slice a L cap)).run Try.prog W = .ok (.string (strOfNums l)) W := fun W hW =>
    (HA.out.1.on (bt (bt hB1 hB2) hW)).2.2.1.str HLEN.out Try.underlying31 Try.underlying5 Try.underlying9
  have hcvA : ∀ W, Below w2.heap.size w2 W → (convert 31 9 (.slice a1 L c1)).run Try.prog W = .ok (.string (strOfNums l)) W := fun W hW =>
    (HB1.out.below (hB2.trans (hW.mono hB2.size))).str HL1.out Try.underlying31 Try.underlying5 Try.underlying9
  have hadd : ∀ W, (Op.stringOp .add (strOfNums l) (strOfNums (be 1 x))).run Try.prog W = .ok (.string (strOfNums (l ++ be 1 x))) W := fun W => by
    rw [run_string_add_sum W _ _ (by rw [strOfNums_size, strOfNums_size, HLEN.out, length_be]; omega), strOfNums_append]
  have hge : getV 1 (be 1 x) = x := getV_be x0 x1
  obtain ⟨hz0, hz1⟩ := getV_bound (n := 1) HA.out.1.2.1
  have hz2 : getV 1 l < 256 := hz1
  have hwx : IntKind.u64.wrap x = x := by rw [IntKind.wrap_u64]; omega
  have hwz : IntKind.u64.wrap (getV 1 l) = getV 1 l := by rw [IntKind.wrap_u64]; omega
  clear hg1 hown1 hown2
  go_region_held (fun W => Below w2.heap.size w2 W) (first | exact (Below.refl _ _).drew | assumption | exact (Below.refl _ _).drew.trans hB3)
    (first
      | (go_at_call 34; refine (refPut 1 (by omega) x x0 (by omega) _).mono ?_; rintro e w3 ⟨g3, rfl, hown3, hB3⟩; have hcv3 := own_string (P := Try.prog) hown3 Try.underlying31 Try.underlying5 Try.underlying9)
      | (go_at_call 27; refine (bits8 _).mono ?_; rintro e w' ⟨rfl, rfl⟩))
  go_wp2
  go_ret
  exact ⟨ret_bool (by decide), bt (bt hB1 hB2) (by assumption)⟩

set_option maxHeartbeats 2000000 in
theorem puts16 (a : Option Addr) (L cap : Nat) (l : List Int) (x : Int) (w : World) (hA : Arg8c w a L cap l) (hL : L ≤ 100) (wx : (Lit.int .u16 x).wf = true) :
    Calls Try.prog 14 #[.slice a L cap, .int .u16 x, .int .i64 2] w fun e w' => e = .returned (.bool true) ∧ Below w.heap.size w w' := by
  obtain ⟨x0, x1⟩ := wf_u16 wx
  have x2 : x < 65536 := x1
  have HA := Lib.hid hA
  have hlen : l.length = L := hA.1.1
  have HLEN := Lib.hid hlen
  clear hA hlen
  obtain ⟨i5, hi, hz0, hz1, hz2⟩ := info_parts info5
  have HI := Lib.hid (And.intro hi (And.intro hz0 (And.intro hz1 hz2)))
  clear hi hz0 hz1 hz2
  go_enter Try.func14, Try.ntmps14
  have wx' := Lib.hid wx
  clear wx
  go_wp2_with (first
    | ((with_reducible show wpList _ _ _ (⟨some 17, _, _, _, _, _⟩ :: _) _ _); go_loud (refine wpList_append_bs _ rfl (.tmp 15) (.tmp 16) 31 rfl w.heap.size 5 i5 Try.underlying31 HI.out.1 HI.out.2.1 HI.out.2.2.1 HI.out.2.2.2 _ 0 [] rfl (own_empty w _) a L cap w.heap.size l rfl (HA.out.1.2.2.1.below ((Below.refl _ _).alloc (Nat.le_refl _) _)) HLEN.out HA.out.2 (by omega) (by simp) ?_); go_loud (intro v1 w1 hown1 hg1; rw [Nat.zero_add, List.nil_append] at hown1; obtain ⟨a1, c1, rfl, hb1, hl1, hc1, hc2, hc3⟩ := own_form hown1; have hB1 : Below w.heap.size w w1 := ((Below.refl _ _).alloc (Nat.le_refl _) _).grown hg1 (by simp) (own_block_le _ _ _); have HB1 := Lib.hid hb1; have HL1 := Lib.hid hl1; clear hb1 hl1 hc3))
    | (go_at_call 26; go_loud (refine (put16 a1 L c1 l _ HL1.out HB1.out (by omega) x wx'.out).mono ?_); rintro e w2 ⟨g2, rfl, hown2, hB2⟩)
    | (go_at_call_of 35 (Value.slice a L cap); go_loud (refine (get16 a L cap l _ HLEN.out HA.out.1.2.1 (HA.out.1.on (bt hB1 hB2)).2.2.1 (by omega)).mono ?_); rintro e w' ⟨rfl, rfl⟩)
    | (go_at_call 35; go_loud (refine (get16 (some ⟨g2, L, none⟩) 2 2 (be 2 x) _ (length_be _ _) (allB_be _ _) (Bs.drop_own hown2 HLEN.out) (by omega)).mono ?_); rintro e w' ⟨rfl, rfl⟩)
    | (go_at_call 33; go_loud (refine (refGet 2 (by omega) a L cap l _ HLEN.out HA.out.1.2.1 (HA.out.1.on (bt hB1 hB2)).2.2.1 (by omega)).mono ?_); rintro e w' ⟨rfl, rfl⟩)
    | fail)
  have hcvO : ∀ W, Below w2.heap.size w2 W → (convert 31 9 (.slice (some ⟨g2, 0, none⟩) (L + 2) (L + 2))).run Try.prog W = .ok (.string (strOfNums (l ++ be 2 x))) W := fun W hW =>
    ((Bs.of_own hown2).1.below hW).str (Bs.of_own hown2).2 Try.underlying31 Try.underlying5 Try.underlying9
  have hcvB : ∀ W, Below w2.heap.size w2 W → (convert 31 9 (.slice a L cap)).run Try.prog W = .ok (.string (strOfNums l)) W := fun W hW =>
    (HA.out.1.on (bt (bt hB1 hB2) hW)).2.2.1.str HLEN.out Try.underlying31 Try.underlying5 Try.underlying9
  have hcvA : ∀ W, Below w2.heap.size w2 W → (convert 31 9 (.slice a1 L c1)).run Try.prog W = .ok (.string (strOfNums l)) W := fun W hW =>
    (HB1.out.below (hB2.trans (hW.mono hB2.size))).str HL1.out Try.underlying31 Try.underlying5 Try.underlying9
  have hadd : ∀ W, (Op.stringOp .add (strOfNums l) (strOfNums (be 2 x))).run Try.prog W = .ok (.string (strOfNums (l ++ be 2 x))) W := fun W => by
    rw [run_string_add_sum W _ _ (by rw [strOfNums_size, strOfNums_size, HLEN.out, length_be]; omega), strOfNums_append]
  have hge : getV 2 (be 2 x) = x := getV_be x0 x1
  obtain ⟨hz0, hz1⟩ := getV_bound (n := 2) HA.out.1.2.1
  have hz2 : getV 2 l < 65536 := hz1
  have hwx : IntKind.u64.wrap x = x := by rw [IntKind.wrap_u64]; omega
  have hwz : IntKind.u64.wrap (getV 2 l) = getV 2 l := by rw [IntKind.wrap_u64]; omega
  clear hg1 hown1 hown2
  go_region_held (fun W => Below w2.heap.size w2 W) (first | exact (Below.refl _ _).drew | assumption | exact (Below.refl _ _).drew.trans hB3)
    (first
      | (go_at_call 34; refine (refPut 2 (by omega) x x0 (by omega) _).mono ?_; rintro e w3 ⟨g3, rfl, hown3, hB3⟩; have hcv3 := own_string (P := Try.prog) hown3 Try.underlying31 Try.underlying5 Try.underlying9)
      | (go_at_call 28; refine (bits16 _).mono ?_; rintro e w' ⟨rfl, rfl⟩))
  go_wp2
  go_ret
  exact ⟨ret_bool (by decide), bt (bt hB1 hB2) (by assumption)⟩

set_option maxHeartbeats 2000000 in
theorem puts32 (a : Option Addr) (L cap : Nat) (l : List Int) (x : Int) (w : World) (hA : Arg8c w a L cap l) (hL : L ≤ 100) (wx : (Lit.int .u32 x).wf = true) :
    Calls Try.prog 15 #[.slice a L cap, .int .u32 x, .int .i64 4] w fun e w' => e = .returned (.bool true) ∧ Below w.heap.size w w' := by
  obtain ⟨x0, x1⟩ := wf_u32 wx
  have x2 : x < 4294967296 := x1
  have HA := Lib.hid hA
  have hlen : l.length = L := hA.1.1
  have HLEN := Lib.hid hlen
  clear hA hlen
  obtain ⟨i5, hi, hz0, hz1, hz2⟩ := info_parts info5
  have HI := Lib.hid (And.intro hi (And.intro hz0 (And.intro hz1 hz2)))
  clear hi hz0 hz1 hz2
  go_enter Try.func15, Try.ntmps15
  have wx' := Lib.hid wx
  clear wx
  go_wp2_with (first
    | ((with_reducible show wpList _ _ _ (⟨some 17, _, _, _, _, _⟩ :: _) _ _); go_loud (refine wpList_append_bs _ rfl (.tmp 15) (.tmp 16) 31 rfl w.heap.size 5 i5 Try.underlying31 HI.out.1 HI.out.2.1 HI.out.2.2.1 HI.out.2.2.2 _ 0 [] rfl (own_empty w _) a L cap w.heap.size l rfl (HA.out.1.2.2.1.below ((Below.refl _ _).alloc (Nat.le_refl _) _)) HLEN.out HA.out.2 (by omega) (by simp) ?_); go_loud (intro v1 w1 hown1 hg1; rw [Nat.zero_add, List.nil_append] at hown1; obtain ⟨a1, c1, rfl, hb1, hl1, hc1, hc2, hc3⟩ := own_form hown1; have hB1 : Below w.heap.size w w1 := ((Below.refl _ _).alloc (Nat.le_refl _) _).grown hg1 (by simp) (own_block_le _ _ _); have HB1 := Lib.hid hb1; have HL1 := Lib.hid hl1; clear hb1 hl1 hc3))
    | (go_at_call 36; go_loud (refine (put32 a1 L c1 l _ HL1.out HB1.out (by omega) x wx'.out).mono ?_); rintro e w2 ⟨g2, rfl, hown2, hB2⟩)
    | (go_at_call_of 37 (Value.slice a L cap); go_loud (refine (get32 a L cap l _ HLEN.out HA.out.1.2.1 (HA.out.1.on (bt hB1 hB2)).2.2.1 (by omega)).mono ?_); rintro e w' ⟨rfl, rfl⟩)
    | (go_at_call 37; go_loud (refine (get32 (some ⟨g2, L, none⟩) 4 4 (be 4 x) _ (length_be _ _) (allB_be _ _) (Bs.drop_own hown2 HLEN.out) (by omega)).mono ?_); rintro e w' ⟨rfl, rfl⟩)
    | (go_at_call 33; go_loud (refine (refGet 4 (by omega) a L cap l _ HLEN.out HA.out.1.2.1 (HA.out.1.on (bt hB1 hB2)).2.2.1 (by omega)).mono ?_); rintro e w' ⟨rfl, rfl⟩)
    | fail)
  have hcvO : ∀ W, Below w2.heap.size w2 W → (convert 31 9 (.slice (some ⟨g2, 0, none⟩) (L + 4) (L + 4))).run Try.prog W = .ok (.string (strOfNums (l ++ be 4 x))) W := fun W hW =>
    ((Bs.of_own hown2).1.below hW).str (Bs.of_own hown2).2 Try.underlying31 Try.underlying5 Try.underlying9
  have hcvB : ∀ W, Below w2.heap.size w2 W → (convert 31 9 (.slice a L cap)).run Try.prog W = .ok (.string (strOfNums l)) W := fun W hW =>
    (HA.out.1.on (bt (bt hB1 hB2) hW)).2.2.1.str HLEN.out Try.underlying31 Try.underlying5 Try.underlying9
  have hcvA : ∀ W, Below w2.heap.size w2 W → (convert 31 9 (.slice a1 L c1)).run Try.prog W = .ok (.string (strOfNums l)) W := fun W hW =>
    (HB1.out.below (hB2.trans (hW.mono hB2.size))).str HL1.out Try.underlying31 Try.underlying5 Try.underlying9
  have hadd : ∀ W, (Op.stringOp .add (strOfNums l) (strOfNums (be 4 x))).run Try.prog W = .ok (.string (strOfNums (l ++ be 4 x))) W := fun W => by
    rw [run_string_add_sum W _ _ (by rw [strOfNums_size, strOfNums_size, HLEN.out, length_be]; omega), strOfNums_append]
  have hge : getV 4 (be 4 x) = x := getV_be x0 x1
  obtain ⟨hz0, hz1⟩ := getV_bound (n := 4) HA.out.1.2.1
  have hz2 : getV 4 l < 4294967296 := hz1
  have hwx : IntKind.u64.wrap x = x := by rw [IntKind.wrap_u64]; omega
  have hwz : IntKind.u64.wrap (getV 4 l) = getV 4 l := by rw [IntKind.wrap_u64]; omega
  clear hg1 hown1 hown2
  go_region_held (fun W => Below w2.heap.size w2 W) (first | exact (Below.refl _ _).drew | assumption | exact (Below.refl _ _).drew.trans hB3)
    (first
      | (go_at_call 34; refine (refPut 4 (by omega) x x0 (by omega) _).mono ?_; rintro e w3 ⟨g3, rfl, hown3, hB3⟩; have hcv3 := own_string (P := Try.prog) hown3 Try.underlying31 Try.underlying5 Try.underlying9)
      | (go_at_call 29; refine (bits32 _).mono ?_; rintro e w' ⟨rfl, rfl⟩))
  go_wp2
  go_ret
  exact ⟨ret_bool (by decide), bt (bt hB1 hB2) (by assumption)⟩

set_option maxHeartbeats 2000000 in
theorem puts64 (a : Option Addr) (L cap : Nat) (l : List Int) (x : Int) (w : World) (hA : Arg8c w a L cap l) (hL : L ≤ 100) (wx : (Lit.int .u64 x).wf = true) :
    Calls Try.prog 16 #[.slice a L cap, .int .u64 x, .int .i64 8] w fun e w' => e = .returned (.bool true) ∧ Below w.heap.size w w' := by
  obtain ⟨x0, x1⟩ := wf_u64 wx
  have x2 : x < 18446744073709551616 := x1
  have HA := Lib.hid hA
  have hlen : l.length = L := hA.1.1
  have HLEN := Lib.hid hlen
  clear hA hlen
  obtain ⟨i5, hi, hz0, hz1, hz2⟩ := info_parts info5
  have HI := Lib.hid (And.intro hi (And.intro hz0 (And.intro hz1 hz2)))
  clear hi hz0 hz1 hz2
  go_enter Try.func16, Try.ntmps16
  have wx' := Lib.hid wx
  clear wx
  go_wp2_with (first
    | ((with_reducible show wpList _ _ _ (⟨some 17, _, _, _, _, _⟩ :: _) _ _); go_loud (refine wpList_append_bs _ rfl (.tmp 15) (.tmp 16) 31 rfl w.heap.size 5 i5 Try.underlying31 HI.out.1 HI.out.2.1 HI.out.2.2.1 HI.out.2.2.2 _ 0 [] rfl (own_empty w _) a L cap w.heap.size l rfl (HA.out.1.2.2.1.below ((Below.refl _ _).alloc (Nat.le_refl _) _)) HLEN.out HA.out.2 (by omega) (by simp) ?_); go_loud (intro v1 w1 hown1 hg1; rw [Nat.zero_add, List.nil_append] at hown1; obtain ⟨a1, c1, rfl, hb1, hl1, hc1, hc2, hc3⟩ := own_form hown1; have hB1 : Below w.heap.size w w1 := ((Below.refl _ _).alloc (Nat.le_refl _) _).grown hg1 (by simp) (own_block_le _ _ _); have HB1 := Lib.hid hb1; have HL1 := Lib.hid hl1; clear hb1 hl1 hc3))
    | (go_at_call 38; go_loud (refine (put64 a1 L c1 l _ HL1.out HB1.out (by omega) x wx'.out).mono ?_); rintro e w2 ⟨g2, rfl, hown2, hB2⟩)
    | (go_at_call_of 39 (Value.slice a L cap); go_loud (refine (get64 a L cap l _ HLEN.out HA.out.1.2.1 (HA.out.1.on (bt hB1 hB2)).2.2.1 (by omega)).mono ?_); rintro e w' ⟨rfl, rfl⟩)
    | (go_at_call 39; go_loud (refine (get64 (some ⟨g2, L, none⟩) 8 8 (be 8 x) _ (length_be _ _) (allB_be _ _) (Bs.drop_own hown2 HLEN.out) (by omega)).mono ?_); rintro e w' ⟨rfl, rfl⟩)
    | (go_at_call 33; go_loud (refine (refGet 8 (by omega) a L cap l _ HLEN.out HA.out.1.2.1 (HA.out.1.on (bt hB1 hB2)).2.2.1 (by omega)).mono ?_); rintro e w' ⟨rfl, rfl⟩)
    | fail)
  have hcvO : ∀ W, Below w2.heap.size w2 W → (convert 31 9 (.slice (some ⟨g2, 0, none⟩) (L + 8) (L + 8))).run Try.prog W = .ok (.string (strOfNums (l ++ be 8 x))) W := fun W hW =>
    ((Bs.of_own hown2).1.below hW).str (Bs.of_own hown2).2 Try.underlying31 Try.underlying5 Try.underlying9
  have hcvB : ∀ W, Below w2.heap.size w2 W → (convert 31 9 (.slice a L cap)).run Try.prog W = .ok (.string (strOfNums l)) W := fun W hW =>
    (HA.out.1.on (bt (bt hB1 hB2) hW)).2.2.1.str HLEN.out Try.underlying31 Try.underlying5 Try.underlying9
  have hcvA : ∀ W, Below w2.heap.size w2 W → (convert 31 9 (.slice a1 L c1)).run Try.prog W = .ok (.string (strOfNums l)) W := fun W hW =>
    (HB1.out.below (hB2.trans (hW.mono hB2.size))).str HL1.out Try.underlying31 Try.underlying5 Try.underlying9
  have hadd : ∀ W, (Op.stringOp .add (strOfNums l) (strOfNums (be 8 x))).run Try.prog W = .ok (.string (strOfNums (l ++ be 8 x))) W := fun W => by
    rw [run_string_add_sum W _ _ (by rw [strOfNums_size, strOfNums_size, HLEN.out, length_be]; omega), strOfNums_append]
  have hge : getV 8 (be 8 x) = x := getV_be x0 x1
  obtain ⟨hz0, hz1⟩ := getV_bound (n := 8) HA.out.1.2.1
  have hz2 : getV 8 l < 18446744073709551616 := hz1
  have hwx : IntKind.u64.wrap x = x := by rw [IntKind.wrap_u64]; omega
  have hwz : IntKind.u64.wrap (getV 8 l) = getV 8 l := by rw [IntKind.wrap_u64]; omega
  clear hg1 hown1 hown2
  go_region_held (fun W => Below w2.heap.size w2 W) (first | exact (Below.refl _ _).drew | assumption | exact (Below.refl _ _).drew.trans hB3)
    (first
      | (go_at_call 34; refine (refPut 8 (by omega) x x0 (by omega) _).mono ?_; rintro e w3 ⟨g3, rfl, hown3, hB3⟩; have hcv3 := own_string (P := Try.prog) hown3 Try.underlying31 Try.underlying5 Try.underlying9)
      | (go_at_call 30; refine (bits64 _).mono ?_; rintro e w' ⟨rfl, rfl⟩))
  go_wp2
  go_ret
  exact ⟨ret_bool (by decide), bt (bt hB1 hB2) (by assumption)⟩

theorem wordPuts_walk (a0 : Option Addr) (len0 cap0 : Nat) (a1 : Int) (w : World) (w0 : ∃ l, Arg8c w a0 len0 cap0 l) (w1 : (Lit.int .u64 a1).wf = true) :
    Calls Try.prog 4 #[.slice a0 len0 cap0, .int .u64 a1] w fun e w' => e = .returned (.bool true) ∧ Below w.heap.size w w' := by
  obtain ⟨l, hA⟩ := w0
  obtain ⟨x0, x1⟩ := wf_u64 w1
  have x2 : a1 < 18446744073709551616 := x1
  have hl0 : len0 ≤ 9223372036854775807 := by have := hA.1.2.2.2.1; have := hA.1.2.2.2.2; unfold maxLen at this; omega
  have HA := Lib.hid hA
  clear hA
  by_cases h0 : 100 < len0
  · go_enter Try.func4, Try.ntmps4
    go_wp2_with (go_at_call 8; refine (lives_any _).mono ?_; rintro e w' ⟨rfl, hbel⟩)
    go_ret
    exact ⟨rfl, bt (by assumption) (by assumption)⟩
  · have h1 : len0 ≤ 100 := by omega
    have g8 := Lib.hid (mk_u8 (x := a1 % 256) (by omega) (by omega))
    have g16 := Lib.hid (mk_u16 (x := a1 % 65536) (by omega) (by omega))
    have g32 := Lib.hid (mk_u32 (x := a1 % 4294967296) (by omega) (by omega))
    have g64 := Lib.hid w1
    clear w1
    go_enter Try.func4, Try.ntmps4
    go_wp2_with (first
      | (go_at_call 8; refine (lives_any _).mono ?_; rintro e w' ⟨rfl, hbel⟩)
      | (go_at_call 13; refine (puts8 _ _ _ l _ _ ⟨HA.out.1.on hbel, HA.out.2⟩ h1 g8.out).mono ?_; rintro e w2 ⟨rfl, hbel2⟩; have hb2 := bt hbel hbel2)
      | (go_at_call 14; refine (puts16 _ _ _ l _ _ ⟨HA.out.1.on hb2, HA.out.2⟩ h1 g16.out).mono ?_; rintro e w3 ⟨rfl, hbel3⟩; have hb3 := bt hb2 hbel3)
      | (go_at_call 15; refine (puts32 _ _ _ l _ _ ⟨HA.out.1.on hb3, HA.out.2⟩ h1 g32.out).mono ?_; rintro e w4 ⟨rfl, hbel4⟩; have hb4 := bt hb3 hbel4)
      | (go_at_call 16; refine (puts64 _ _ _ l _ _ ⟨HA.out.1.on hb4, HA.out.2⟩ h1 g64.out).mono ?_; rintro e w5 ⟨rfl, hbel5⟩; have hb5 := bt hb4 hbel5))
    go_ret
    exact ⟨rfl, hb5⟩
end Go.Proofs.Ytdapcnffiapgpaa
