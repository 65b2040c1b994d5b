/- The document's medium: Snapshot. -/
import Derived.Test.YtoonaendakjecaaUt
namespace Go.Proofs.Ytoonaendakjecaa
open Go.ChangeShapes Go.WideShapes Go.ChangeAt Go.RowKit Go.Shelf
set_option linter.unusedVariables false
set_option linter.unusedSimpArgs false
set_option maxRecDepth 100000

def snapA (S : MS) (k : Nat) : List Int := (List.range k).flatMap fun i => medL (S.med i)
theorem snapA_next (S : MS) (k : Nat) : snapA S (k + 1) = snapA S k ++ medL (S.med k) := by
  unfold snapA
  rw [List.range_succ, List.flatMap_append]
  simp
def snapB (S : MS) (c : List CW) (k : Nat) : List Int := snapA S S.size ++ (c.take k).flatMap cacL
theorem snapB_next (S : MS) {c : List CW} {k : Nat} {x : CW} (h : c[k]? = some x) : snapB S c (k + 1) = snapB S c k ++ cacL x := by
  unfold snapB
  rw [List.take_add_one, h, List.flatMap_append]
  simp
theorem snapB_zero (S : MS) (c : List CW) : snapB S c 0 = snapA S S.size := by unfold snapB; simp
theorem snapB_all (S : MS) (k : Nat) (h : k = S.cache.length) : snapB S S.cache k = snapM S := by
  unfold snapB snapM
  rw [h, List.take_length]; rfl
theorem str_cons (x : Int) (l : List Int) : strOfNums (x :: l) = strOfNums [x] ++ strOfNums l := by
  rw [strOfNums_app]; rfl
theorem snapA_len {S : MS} (h : S.Ok) (k : Nat) : (snapA S k).length = k * 513 := by
  unfold snapA
  rw [flatMap_len _ 513, List.length_range]
  intro i _
  cases e : S.med i with
  | none => simp [medL, zsec_len]
  | some b => simp [medL, (h.med i b e).1]
theorem snapB_len {S : MS} (h : S.Ok) (k : Nat) : (snapB S S.cache k).length ≤ S.size * 513 + k * 514 := by
  unfold snapB
  rw [List.length_append, snapA_len h, flatMap_len _ 514, List.length_take]
  · have := Nat.mul_le_mul_right 514 (Nat.min_le_left k S.cache.length); omega
  · intro x hx; simp [cacL, (h.cache x (List.mem_of_mem_take hx)).2.1]
theorem own_two (w : World) (p q : Int) : (w.alloc (.cells #[.int .u8 p, .int .u8 q] 5)).ownsRow w.heap.size 5 1 (.slice (some ⟨w.heap.size, 0, none⟩) 2 2) 2 ([p, q].map (Value.int .u8)) :=
  ⟨rfl, .inr ⟨w.heap.size, 2, #[.int .u8 p, .int .u8 q], rfl, Nat.le_refl _, heap_alloc_new w _, Nat.le_refl _, by unfold maxLen; omega, rfl, rfl⟩⟩
set_option maxHeartbeats 8000000 in
theorem refSnap_any (w : World) (mb : Nat) (G : Nat → Prop) (qb : Nat) (S : MS) (L : List EV) (a : Option Addr) (c : Nat) (l : Int) (u j : Nat) (h : RS w mb G qb S L a c l u j) (hj : j ≤ 1000) :
    Calls Try.prog 18 #[pV mb] w fun e w' => e = .returned (.string (strOfNums (snapM S))) ∧ Below w.heap.size w w' := by
  have hn2 : S.size ≤ 2048 := h.ok.size2
  obtain ⟨n, hn⟩ : ∃ n, n = S.size := ⟨_, rfl⟩
  have HN := Lib.hid hn
  have HM := Lib.hid (show RMc w mb n (.slice a L.length c) S.down from by rw [hn]; exact h.m)
  have HL := Lib.hid (show L.length ≤ 1000 from by have := h.few.1; omega)
  rw [← hn] at hn2
  have H := Lib.hid h
  have hmk := run_make_row' (P := Try.prog) 39 5 (.int .u8 0) 1 Try.underlying39 info5 rfl .i64 .i64 512 (by omega) (by omega)
  rw [show ((512 : Nat) : Int) = 2 * 256 from rfl] at hmk
  simp only [Int.reduceMul] at hmk
  have HMK := Lib.hid hmk
  have HCM := Lib.hid (show ∀ w1 : World, (convert 39 9 (.slice (some ⟨w1.heap.size, 0, none⟩) 512 512)).run Try.prog (w1.alloc (.cells (madeCells #[.int .u8 0] 512) 5)) = .ok (.string (strOfNums zsec)) (w1.alloc (.cells (madeCells #[.int .u8 0] 512) 5)) from fun w1 => (own_any (own_made (w := w1) (e := 5) (n := 512) (by unfold maxLen; omega)) zsec_B).strU _ (Below.refl _ _))
  clear h hn hmk
  go_enter Try.func18, Try.ntmps18
  go_wp2_with fail
  go_loopw [4, 3] (fun q vo wr => ∃ k : Nat, k ≤ n ∧ q = .int .i64 (k : Nat) ∧ vo = .string (strOfNums (snapA S k)) ∧ Below w.heap.size w wr) (fun q _ _ => n - (intOf q).toNat)
  case atStart => exact ⟨0, Nat.zero_le _, rfl, rfl, Below.refl _ _⟩
  case round =>
    obtain ⟨k, hk, rfl, rfl, hbel⟩ := hrel
    rename World => V
    have HBV := Lib.hid hbel
    have HMV := Lib.hid ((hbel.block mb (heap_lt HM.out)).trans HM.out)
    have hc0 := RMc.c0 HMV.out
    clear hbel
    obtain ⟨XA, hXA⟩ : ∃ XA, XA = strOfNums (snapA S k) := ⟨_, rfl⟩
    have HXA := Lib.hid hXA
    rw [← hXA]
    have hsA : XA.size ≤ 1100000 := by rw [hXA, size_str, snapA_len H.out.ok]; omega
    clear hXA
    by_cases hlt : k < n
    · as_aux_lemma =>
        have HKT := Lib.hid hlt
        have qk : (k : Int) < (n : Int) := by omega
        have HLA := Lib.hid (refLast_any V mb n S.down L a c k true HMV.out (own_belowU H.out.row HBV.out) HL.out)
        clear hlt hk
        rcases H.out.sim.medTrue k with ⟨he, hs⟩ | ⟨he, hs⟩
        · rw [he] at HLA
          have HNX := Lib.hid (show strOfNums (snapA S (k + 1)) = XA ++ strOfNums [1] ++ strOfNums zsec from by rw [snapA_next, hs, HXA.out, ← strOfNums_app, medL, str_cons, ByteArray.append_assoc])
          obtain ⟨ES, hES⟩ : ∃ ES, ES = strOfNums [] := ⟨_, rfl⟩
          have hem : ES.toList.isEmpty = true := by rw [hES, Lib.strOfNums_toList]; rfl
          have hem2 : (ES.toList == []) = true := by rw [hES, Lib.strOfNums_toList]; rfl
          rw [← hES] at HLA
          have hmk := HMK.out
          have hES0 : ES.size = 0 := by rw [hES]; rfl
          have hZZ : (strOfNums zsec).size = 512 := by rw [size_str, zsec_len]
          clear he hs hES
          go_wp2_with (go_at_call 43; go_loud (refine HLA.out.mono ?_; rintro e w1 ⟨b, rfl, hb⟩; have HB1 := Lib.hid hb; have hcm := HCM.out (w1.alloc (.cells #[.int .i64 (k : Nat), .string ES, .bool b] 61)); simp only [size_alloc1] at hcm; clear hb))
          go_roundw
          case rel => exact ⟨k + 1, HKT.out, by go_num, by rw [HNX.out]; rfl, ((HBV.out.trans (HB1.out.mono HBV.out.size)).alloc (by have h1 := HB1.out.size; have h2 := HBV.out.size; omega) _).alloc (by have h1 := HB1.out.size; have h2 := HBV.out.size; simp; omega) _⟩
          case measure => simp [intOf]; have := HKT.out; omega
        · obtain ⟨DS, hDS⟩ : ∃ DS, DS = strOfNums (lastE L k true) := ⟨_, rfl⟩
          have HNX := Lib.hid (show strOfNums (snapA S (k + 1)) = XA ++ strOfNums [0] ++ DS from by rw [snapA_next, hs, HXA.out, ← strOfNums_app, medL, str_cons, ByteArray.append_assoc, hDS])
          rw [← hDS] at HLA
          have hsD : DS.size ≤ 512 := by
            rw [hDS, size_str]
            have := (H.out.ok.med k _ hs).1
            omega
          have hne : (DS.toList == []) = false := by
            rw [beq_eq_false_iff_ne]
            intro h
            rw [hDS] at h
            exact he (strOf_nil h)
          clear hDS he hs
          go_wp2_with (go_at_call 43; go_loud (refine HLA.out.mono ?_; rintro e w1 ⟨b, rfl, hb⟩; have HB1 := Lib.hid hb; clear hb))
          go_roundw
          case rel => exact ⟨k + 1, HKT.out, by go_num, by rw [HNX.out]; rfl, (HBV.out.trans (HB1.out.mono HBV.out.size)).alloc (by have h1 := HB1.out.size; have h2 := HBV.out.size; omega) _⟩
          case measure => simp [intOf]; have := HKT.out; omega
    · as_aux_lemma =>
        obtain rfl : k = n := by omega
        have HCA := Lib.hid (refCache_any V mb k S.down L a c HMV.out (own_belowU H.out.row HBV.out) HL.out)
        obtain ⟨CE, hCE⟩ : ∃ CE, CE = L.filter fun x => !isSure x := ⟨_, rfl⟩
        have HCS := Lib.hid (show CE.map cwE = S.cache from by rw [hCE]; exact H.out.sim.cache)
        have HCL := Lib.hid (show CE.length ≤ 1000 from by rw [hCE]; exact Nat.le_trans (List.length_filter_le _ _) HL.out)
        rw [← hCE] at HCA
        obtain ⟨N, hN⟩ : ∃ N, N = CE.length := ⟨_, rfl⟩
        have HNN := Lib.hid hN
        rw [← hN] at HCA
        have hNL : N ≤ 1000 := by rw [hN]; exact HCL.out
        clear hCE hN hlt hk
        go_wp2_with (go_at_call 22; go_loud (refine HCA.out.mono ?_; rintro e w1 ⟨a1, c1, rfl, ho, hb⟩; have HO1 := Lib.hid ho; have HB1 := Lib.hid hb; clear ho hb))
        have HO2 := Lib.hid (own_low HO1.out (base' := w.heap.size) HBV.out.size)
        have HB2 := Lib.hid (HBV.out.trans (HB1.out.mono HBV.out.size))
        go_loopw [35, 3] (fun q vo wr => ∃ m : Nat, m ≤ N ∧ q = .int .i64 (m : Nat) ∧ vo = .string (strOfNums (snapB S S.cache m)) ∧ Below w.heap.size w wr ∧ wr.ownsRow w.heap.size 61 3 (.slice a1 N c1) N (evC CE)) (fun q _ _ => N - (intOf q).toNat)
        case atStart => exact ⟨0, Nat.zero_le _, rfl, by rw [HXA.out, snapB_zero, HN.out], HB2.out, HO2.out⟩
        case round =>
          obtain ⟨m, hm, rfl, rfl, hbel, hown⟩ := hrel
          rename World => U
          have HBU := Lib.hid hbel
          have HOU := Lib.hid hown
          clear hbel hown
          obtain ⟨XB, hXB⟩ : ∃ XB, XB = strOfNums (snapB S S.cache m) := ⟨_, rfl⟩
          have HXB := Lib.hid hXB
          rw [← hXB]
          have hsB : XB.size ≤ 2000000 := by rw [hXB, size_str]; have h1 := snapB_len H.out.ok m; have h2 := H.out.ok.size2; omega
          clear hXB
          by_cases hlt : m < N
          · as_aux_lemma =>
              have HKT := Lib.hid hlt
              have qk : (m : Int) < (N : Int) := by omega
              obtain ⟨x, hx⟩ : ∃ x, CE[m]? = some x := ⟨_, List.getElem?_eq_getElem (by rw [← HNN.out]; exact hlt)⟩
              have hxc : S.cache[m]? = some (cwE x) := by rw [← HCS.out, List.getElem?_map, hx]; rfl
              have hx1 : x.1 < 2048 := by have h1 := (H.out.ok.cache (cwE x) (List.mem_of_getElem? hxc)).1; have h2 := H.out.ok.size2; have h3 : (cwE x).1 = x.1 := rfl; omega
              obtain ⟨g, rfl⟩ := own_someT2 HOU.out (by omega)
              obtain ⟨k0, k1, k2⟩ := evC_get CE m x hx
              have hc0 := HOU.out.cellAt (m * 3) (by omega)
              have hc1 := HOU.out.cellAt (m * 3 + 1) (by omega)
              have hc2 := HOU.out.cellAt (m * 3 + 2) (by omega)
              rw [k0] at hc0
              rw [k1] at hc1
              rw [k2] at hc2
              obtain ⟨x1, x2, x3⟩ := x
              dsimp only at hc0 hc1 hc2 hx1
              obtain ⟨XS, hXS⟩ : ∃ XS, XS = strOfNums x2 := ⟨_, rfl⟩
              obtain ⟨p1, hp1⟩ : ∃ p : Nat, p = x1 / 256 := ⟨_, rfl⟩
              obtain ⟨p2, hp2⟩ : ∃ p : Nat, p = x1 % 256 := ⟨_, rfl⟩
              have HNX := Lib.hid (show strOfNums (snapB S S.cache (m + 1)) = XB ++ strOfNums [(p1 : Int), (p2 : Int)] ++ XS from by
                rw [snapB_next S hxc, HXB.out, hXS, ByteArray.append_assoc, strOfNums_app, hp1, hp2]; exact (strOfNums_app _ _).symm)
              rw [← hXS] at hc1
              have hsX : XS.size = 512 := by rw [hXS, size_str]; exact (H.out.ok.cache (cwE (x1, x2, x3)) (List.mem_of_getElem? hxc)).2.1
              have hsP : (strOfNums [(p1 : Int), (p2 : Int)]).size = 2 := rfl
              have q1 : (x1 : Int) / 256 = (p1 : Int) := by omega
              have q2 : (x1 : Int) % 256 = (p2 : Int) := by omega
              have q3 : p1 < 8 := by omega
              have q4 : p2 < 256 := by omega
              clear hlt hm hx hxc hXS hp1 hp2 k0 k1 k2
              have hcm := ((own_any (own_two (U.alloc (.cells #[.int .i64 (x1 : Nat), .string XS, .bool x3] 61)) p1 p2) (by intro y hy; simp at hy; omega)).strU _ (Below.refl _ _))
              simp only [size_alloc1] at hcm
              go_wp2_with fail
              go_roundw
              case rel => exact ⟨m + 1, HKT.out, by go_num, by rw [HNX.out], (HBU.out.alloc HBU.out.size _).alloc (by have h2 := HBU.out.size; simp; omega) _, (HOU.out.alloc _).alloc _⟩
              case measure => simp [intOf]; have := HKT.out; omega
          · as_aux_lemma =>
              obtain rfl : m = N := by omega
              have HXE := Lib.hid (show XB = strOfNums (snapM S) from by rw [HXB.out, snapB_all S m (by rw [← HCS.out, List.length_map, HNN.out])])
              rw [HXE.out]
              clear hlt hm
              go_wp2_with fail
              go_ret
              exact ⟨rfl, HBU.out⟩
end Go.Proofs.Ytoonaendakjecaa
