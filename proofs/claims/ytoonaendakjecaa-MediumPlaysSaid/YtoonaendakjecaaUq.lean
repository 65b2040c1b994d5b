/- The document's medium: contracts of its functions. -/
import Derived.Test.YtoonaendakjecaaUp
import Derived.Test.YtoonaendakjecaaUe
import Derived.Test.YtoonaendakjecaaUh
namespace Go.Proofs.Ytoonaendakjecaa
open Go.ChangeShapes Go.WideShapes Go.ChangeAt Go.RowKit Go.Shelf
set_option linter.unusedVariables false
set_option linter.unusedSimpArgs false
set_option maxRecDepth 100000

theorem strOfNums_app (l m : List Int) : strOfNums l ++ strOfNums m = strOfNums (l ++ m) := by
  apply ByteArray.ext
  simp [strOfNums]
/-- The document's medium, at mb; its power at qb. -/
def RMc (w : World) (mb n : Nat) (v : Value) (dn : Bool) : Prop := w.heap[mb]? = some (.cells #[.int .i64 (n : Nat), v, .bool dn] 54 (0, 0))
def RPc (w : World) (qb : Nat) (l : Int) (u : Nat) : Prop := w.heap[qb]? = some (.cells #[.int .i64 l, .int .i64 (u : Nat)] 50 (0, 0))
theorem heap_lt {w : World} {b : Nat} {o : Obj} (h : w.heap[b]? = some o) : b < w.heap.size := by
  rcases Nat.lt_or_ge b w.heap.size with hlt | hge
  · exact hlt
  · rw [Array.getElem?_eq_none hge] at h; cases h
theorem RMc.c0 {w : World} {mb n : Nat} {v : Value} {dn : Bool} (h : RMc w mb n v dn) : w.cell? ⟨mb, 0, none⟩ = some (.int .i64 (n : Nat)) := by rw [cell_of_row w mb 0 _ _ _ h]; rfl
theorem RMc.c1 {w : World} {mb n : Nat} {v : Value} {dn : Bool} (h : RMc w mb n v dn) : w.cell? ⟨mb, 1, none⟩ = some v := by rw [cell_of_row w mb 1 _ _ _ h]; rfl
theorem RMc.c2 {w : World} {mb n : Nat} {v : Value} {dn : Bool} (h : RMc w mb n v dn) : w.cell? ⟨mb, 2, none⟩ = some (.bool dn) := by rw [cell_of_row w mb 2 _ _ _ h]; rfl
theorem RMc.free {w : World} {mb n : Nat} {v : Value} {dn : Bool} (h : RMc w mb n v dn) (j : Nat) : w.frozen? ⟨mb, j, none⟩ = false := frozen_of_row w mb j _ _ h
theorem RMc.set1 {w : World} {mb n : Nat} {v : Value} {dn : Bool} (h : RMc w mb n v dn) (v' : Value) : RMc (w.setCell ⟨mb, 1, none⟩ v') mb n v' dn := by
  unfold RMc; rw [heap_setCell_same w mb 1 _ _ v' h]; rfl
theorem RMc.set2 {w : World} {mb n : Nat} {v : Value} {dn : Bool} (h : RMc w mb n v dn) (d : Bool) : RMc (w.setCell ⟨mb, 2, none⟩ (.bool d)) mb n v d := by
  unfold RMc; rw [heap_setCell_same w mb 2 _ _ _ h]; rfl
theorem RPc.c0 {w : World} {qb u : Nat} {l : Int} (h : RPc w qb l u) : w.cell? ⟨qb, 0, none⟩ = some (.int .i64 l) := by rw [cell_of_row w qb 0 _ _ _ h]; rfl
theorem RPc.c1 {w : World} {qb u : Nat} {l : Int} (h : RPc w qb l u) : w.cell? ⟨qb, 1, none⟩ = some (.int .i64 (u : Nat)) := by rw [cell_of_row w qb 1 _ _ _ h]; rfl
theorem RPc.free {w : World} {qb u : Nat} {l : Int} (h : RPc w qb l u) (j : Nat) : w.frozen? ⟨qb, j, none⟩ = false := frozen_of_row w qb j _ _ h
theorem RPc.set0 {w : World} {qb u : Nat} {l : Int} (h : RPc w qb l u) (l' : Int) : RPc (w.setCell ⟨qb, 0, none⟩ (.int .i64 l')) qb l' u := by
  unfold RPc; rw [heap_setCell_same w qb 0 _ _ _ h]; rfl
theorem RPc.set1 {w : World} {qb u : Nat} {l : Int} (h : RPc w qb l u) (u' : Nat) : RPc (w.setCell ⟨qb, 1, none⟩ (.int .i64 (u' : Nat))) qb l u' := by
  unfold RPc; rw [heap_setCell_same w qb 1 _ _ _ h]; rfl
/-- The document's medium whole: it tells S, its power lasts for l more, of which u were used; its events lie in the blocks G. -/
structure RS (w : World) (mb : Nat) (G : Nat → Prop) (qb : Nat) (S : MS) (L : List EV) (a : Option Addr) (c : Nat) (l : Int) (u j : Nat) : Prop where
  m : RMc w mb S.size (.slice a L.length c) S.down
  row : w.ownsRow 0 61 3 (.slice a L.length c) L.length (evC L)
  ne : (Value.slice a L.length c).ownBlock ≠ some mb
  p : RPc w qb l u
  nq : qb ≠ mb ∧ (Value.slice a L.length c).ownBlock ≠ some qb
  foot : ∀ k, G k ↔ k = mb ∨ k = qb ∨ (Value.slice a L.length c).ownBlock = some k
  sim : Sim S L
  ok : S.Ok
  left : LeftOk l
  few : L.length ≤ j ∧ u ≤ j
theorem RS.inside {w : World} {mb : Nat} {G : Nat → Prop} {qb : Nat} {S : MS} {L : List EV} {a : Option Addr} {c : Nat} {l : Int} {u j : Nat} (h : RS w mb G qb S L a c l u j) {k : Nat} (hk : G k) : k < w.heap.size := by
  rcases (h.foot k).1 hk with rfl | rfl | e
  · exact heap_lt h.m
  · exact heap_lt h.p
  · exact (own_lt h.row e).2
theorem RS.kept {w w' : World} {mb : Nat} {G : Nat → Prop} {qb : Nat} {S : MS} {L : List EV} {a : Option Addr} {c : Nat} {l : Int} {u j : Nat} (h : RS w mb G qb S L a c l u j) (hk : ∀ k, G k → w'.heap[k]? = w.heap[k]?) : RS w' mb G qb S L a c l u j :=
  ⟨(hk mb ((h.foot mb).2 (.inl rfl))).trans h.m, own_blockT h.row (fun g e => hk g ((h.foot g).2 (.inr (.inr e)))), h.ne, (hk qb ((h.foot qb).2 (.inr (.inl rfl)))).trans h.p, h.nq, h.foot, h.sim, h.ok, h.left, h.few⟩
theorem RS.on {w w' : World} {mb : Nat} {G : Nat → Prop} {qb : Nat} {S : MS} {L : List EV} {a : Option Addr} {c : Nat} {l : Int} {u j : Nat} (h : RS w mb G qb S L a c l u j) (hb : Below w.heap.size w w') : RS w' mb G qb S L a c l u j := h.kept fun k hk => hb.block k (h.inside hk)
theorem infoEv : (Try.prog.info? 61).map (fun i => (i.zero, i.size, i.bytes)) = some (some (.agg #[.int .i64 0, .string ByteArray.empty, .bool false]), 3, 32) := by kernel_rfl
theorem size_Ev : (Try.prog.info? 61).map (·.size) = some 3 := by kernel_rfl
theorem zeroEv (w : World) : (zeroValue 61).run Try.prog w = .ok (.agg #[.int .i64 0, .string ByteArray.empty, .bool false]) w := by kernel_rfl
/-! ## Last -/
theorem take_nextE {L : List EV} {k : Nat} {x : EV} (h : L[k]? = some x) : L.take (k + 1) = L.take k ++ [x] := by
  rw [List.take_add_one, h]; rfl
/-- What the sure ones tell so far; then the others. -/
def lstA (L : List EV) (i k : Nat) : List Int := (lastW (surE (L.take k)) i).getD zsec
def lstB (L : List EV) (i k : Nat) : Bool → List Int
  | true => lstA L i L.length
  | false => match lastW (cacE (L.take k)) i with
    | some b => b
    | none => lstA L i L.length
theorem lstA_zero (L : List EV) (i : Nat) : lstA L i 0 = zsec := rfl
theorem lstA_next {L : List EV} {i k : Nat} {x : EV} (h : L[k]? = some x) : lstA L i (k + 1) = if x.1 = i ∧ x.2.2 = true then x.2.1 else lstA L i k := by
  unfold lstA
  rw [take_nextE h, surE_app]
  obtain ⟨x1, x2, x3⟩ := x
  cases x3
  · rw [show surE [(x1, x2, false)] = [] from rfl, List.append_nil, if_neg (by simp)]
  · rw [show surE [(x1, x2, true)] = [(x1, x2)] from rfl, lastW_append]
    by_cases e : x1 = i
    · rw [if_pos e, if_pos ⟨e, rfl⟩]; rfl
    · rw [if_neg e, if_neg (fun h => e h.1)]
theorem lstB_zero (L : List EV) (i : Nat) (s : Bool) : lstB L i 0 s = lstA L i L.length := by cases s <;> rfl
theorem lstB_next {L : List EV} {i k : Nat} {s : Bool} {x : EV} (h : L[k]? = some x) : lstB L i (k + 1) s = if x.1 = i ∧ x.2.2 = false ∧ s = false then x.2.1 else lstB L i k s := by
  obtain ⟨x1, x2, x3⟩ := x
  cases s
  · show (match lastW (cacE (L.take (k + 1))) i with | some b => b | none => lstA L i L.length) = if x1 = i ∧ x3 = false ∧ false = false then x2 else (match lastW (cacE (L.take k)) i with | some b => b | none => lstA L i L.length)
    rw [take_nextE h, cacE_app]
    cases x3
    · rw [show cacE [(x1, x2, false)] = [(x1, x2)] from rfl, lastW_append]
      by_cases e : x1 = i
      · rw [if_pos e, if_pos ⟨e, rfl, rfl⟩]
      · rw [if_neg e, if_neg (fun h => e h.1)]
    · rw [show cacE [(x1, x2, true)] = [] from rfl, List.append_nil, if_neg (by simp)]
  · rw [if_neg (by simp)]; rfl
theorem lstB_all (L : List EV) (i : Nat) (s : Bool) : lstB L i L.length s = lastE L i s := by
  have h : lstA L i L.length = (lastW (surE L) i).getD zsec := by unfold lstA; rw [List.take_length]
  cases s
  · show (match lastW (cacE (L.take L.length)) i with | some b => b | none => lstA L i L.length) = _
    rw [List.take_length, h]; rfl
  · exact h
def evO (i : Nat) (d : List Int) (b : Bool) : Obj := .cells #[.int .i64 (i : Nat), .string (strOfNums d), .bool b] 61 (0, 0)
theorem set3_heap {V : World} {b : Nat} {c0 c1 c2 v0 v1 v2 : Value} {T : TypeId} (h : V.heap[b]? = some (.cells #[c0, c1, c2] T (0, 0))) :
    (((V.setCell ⟨b, 0, none⟩ v0).setCell ⟨b, 1, none⟩ v1).setCell ⟨b, 2, none⟩ v2).heap[b]? = some (.cells #[v0, v1, v2] T (0, 0)) := by
  have h0 : (V.setCell ⟨b, 0, none⟩ v0).heap[b]? = some (.cells #[v0, c1, c2] T (0, 0)) := by rw [heap_setCell_same V b 0 _ _ _ h]; rfl
  have h1 : ((V.setCell ⟨b, 0, none⟩ v0).setCell ⟨b, 1, none⟩ v1).heap[b]? = some (.cells #[v0, v1, c2] T (0, 0)) := by rw [heap_setCell_same _ b 1 _ _ _ h0]; rfl
  rw [heap_setCell_same _ b 2 _ _ _ h1]; rfl
theorem set3_kb (V : World) (b : Nat) (v0 v1 v2 : Value) : KB (fun k => k = b) V (((V.setCell ⟨b, 0, none⟩ v0).setCell ⟨b, 1, none⟩ v1).setCell ⟨b, 2, none⟩ v2) :=
  ((KB.of_set V b 0 v0).trans (KB.of_set _ b 1 v1)).trans (KB.of_set _ b 2 v2)
theorem set3_below {w V : World} {B b : Nat} (h : Below B w V) (hb : B ≤ b) (v0 v1 v2 : Value) : Below B w (((V.setCell ⟨b, 0, none⟩ v0).setCell ⟨b, 1, none⟩ v1).setCell ⟨b, 2, none⟩ v2) := ((h.setCell hb v0).setCell hb v1).setCell hb v2
set_option maxHeartbeats 8000000 in
theorem refLast_any (w : World) (mb : Nat) (n : Nat) (dn : Bool) (L : List EV) (a : Option Addr) (c : Nat) (i : Nat) (s : Bool) (hm : RMc w mb n (.slice a L.length c) dn) (hrow : w.ownsRow 0 61 3 (.slice a L.length c) L.length (evC L)) (hL : L.length ≤ 1000) :
    Calls Try.prog 43 #[.pointer (some ⟨mb, 0, none⟩), .int .i64 (i : Nat), .bool s] w fun e w' => ∃ b, e = .returned (.agg #[.int .i64 (i : Nat), .string (strOfNums (lastE L i s)), .bool b]) ∧ Below w.heap.size w w' := by
  have HROW := Lib.hid hrow
  have HM0 := Lib.hid hm
  have hc1 := hm.c1
  obtain ⟨N, hN⟩ : ∃ N, N = L.length := ⟨_, rfl⟩
  have HN := Lib.hid hN
  rw [← hN] at hc1 HROW hL HM0
  have hmk := run_make_row' (P := Try.prog) 39 5 (.int .u8 0) 1 Try.underlying39 info5 rfl .i64 .i64 512 (by omega) (by omega)
  rw [show ((512 : Nat) : Int) = 2 * 256 from rfl] at hmk
  simp only [Int.reduceMul] at hmk
  have hze := zeroEv
  obtain ⟨w1, hw1⟩ : ∃ w1, w1 = w.alloc (.cells #[.int .i64 0, .string ByteArray.empty, .bool false] 61) := ⟨_, rfl⟩
  have hcm := ((own_any (own_made (w := w1) (e := 5) (n := 512) (by unfold maxLen; omega)) zsec_B).strU _ (Below.refl _ _))
  rw [show List.replicate 512 (0 : Int) = zsec from rfl] at hcm
  rw [hw1] at hcm
  simp only [size_alloc1] at hcm
  have HZS := Lib.hid (show zsec = zsec from rfl)
  have hb3 : Below w.heap.size w (((w.alloc (.cells #[.int .i64 0, .string ByteArray.empty, .bool false] 61)).alloc (.cells (madeCells #[.int .u8 0] 512) 5)).alloc (.cells #[.int .i64 (i : Nat), .string (strOfNums zsec), .bool true] 61)) := (((Below.refl _ w).alloc (Nat.le_refl _) _).alloc (by simp) _).alloc (by simp; omega) _
  have hc1' := (hb3.cell (p := ⟨mb, 1, none⟩) (heap_lt hm)).trans hm.c1
  rw [← hN] at hc1'
  have HB3 := Lib.hid hb3
  have HE0 := Lib.hid (show (((w.alloc (.cells #[.int .i64 0, .string ByteArray.empty, .bool false] 61)).alloc (.cells (madeCells #[.int .u8 0] 512) 5)).alloc (.cells #[.int .i64 (i : Nat), .string (strOfNums zsec), .bool true] 61)).heap[w.heap.size]? = some (.cells #[.int .i64 0, .string ByteArray.empty, .bool false] 61 (0, 0)) from ((Below.heap_alloc _ _ w.heap.size (by simp; omega)).trans (Below.heap_alloc _ _ w.heap.size (by simp))).trans (heap_alloc_new w _))
  have HE2 := Lib.hid (show (((w.alloc (.cells #[.int .i64 0, .string ByteArray.empty, .bool false] 61)).alloc (.cells (madeCells #[.int .u8 0] 512) 5)).alloc (.cells #[.int .i64 (i : Nat), .string (strOfNums zsec), .bool true] 61)).heap[w.heap.size + 1 + 1]? = some (evO i zsec true) from by
    have h := heap_alloc_new ((w.alloc (.cells #[.int .i64 0, .string ByteArray.empty, .bool false] 61)).alloc (.cells (madeCells #[.int .u8 0] 512) 5)) (.cells #[.int .i64 (i : Nat), .string (strOfNums zsec), .bool true] 61)
    simp only [size_alloc1] at h
    exact h)
  have HLT := Lib.hid (heap_lt hm)
  clear hm hrow hN hw1 hb3
  go_enter Try.func43, Try.ntmps43
  go_wp2_with fail
  clear hmk hcm hze hc1 hc1'
  generalize ((w.alloc (.cells #[.int .i64 0, .string ByteArray.empty, .bool false] 61)).alloc (.cells (madeCells #[.int .u8 0] 512) 5)).alloc (.cells #[.int .i64 (i : Nat), .string (strOfNums zsec), .bool true] 61) = w3 at HB3 HE0 HE2 ⊢
  obtain ⟨BR, hBR⟩ : ∃ BR, BR = w.heap.size := ⟨_, rfl⟩
  obtain ⟨BO, hBO⟩ : ∃ BO, BO = w.heap.size + 1 + 1 := ⟨_, rfl⟩
  have HBR := Lib.hid hBR
  have HBO := Lib.hid hBO
  rw [← hBO] at HE2 ⊢
  rw [← hBR] at HE0 ⊢
  have HBW := Lib.hid (show w.heap.size ≤ BO ∧ BR ≠ BO ∧ w.heap.size ≤ BR from ⟨by rw [HBO.out]; omega, by rw [HBO.out, HBR.out]; omega, by rw [HBR.out]; exact Nat.le_refl _⟩)
  clear hBR hBO
  go_loopw [21] (fun q wr => ∃ (k : Nat) (b : Bool), k ≤ N ∧ q = .int .i64 (k : Nat) ∧ wr.heap[BO]? = some (evO i (lstA L i k) b) ∧ wr.heap[BR]? = some (.cells #[.int .i64 0, .string ByteArray.empty, .bool false] 61 (0, 0)) ∧ Below w.heap.size w wr) (fun q _ => N - (intOf q).toNat)
  case atStart => exact ⟨0, true, Nat.zero_le _, rfl, HE2.out, HE0.out, HB3.out⟩
  case round =>
    obtain ⟨k, b0, hk, rfl, hbo, hbr, hbel⟩ := hrel
    rename World => V
    have HBOV := Lib.hid hbo
    have HBRV := Lib.hid hbr
    have HBV := Lib.hid hbel
    clear hbo hbr hbel HE2 HE0 HB3
    by_cases hlt : k < N
    · as_aux_lemma =>
        have HKT := Lib.hid hlt
        obtain ⟨x, hx⟩ : ∃ x, L[k]? = some x := ⟨_, List.getElem?_eq_getElem (by rw [← HN.out]; exact hlt)⟩
        have HOV := Lib.hid (own_belowU HROW.out HBV.out)
        obtain ⟨g, rfl⟩ := own_someT2 HOV.out (by omega)
        obtain ⟨k0, k1, k2⟩ := evC_get L k x hx
        have hc0 := HOV.out.cellAt (k * 3) (by omega)
        have hc1 := HOV.out.cellAt (k * 3 + 1) (by omega)
        have hc2 := HOV.out.cellAt (k * 3 + 2) (by omega)
        rw [k0] at hc0
        rw [k1] at hc1
        rw [k2] at hc2
        have HNX := Lib.hid (lstA_next (i := i) hx)
        have qk : (k : Int) < (N : Int) := by omega
        obtain ⟨x1, x2, x3⟩ := x
        dsimp only at hc0 hc1 hc2 HNX
        obtain ⟨XS, hXS⟩ : ∃ XS, XS = strOfNums x2 := ⟨_, rfl⟩
        have HXS := Lib.hid hXS
        rw [← hXS] at hc1
        obtain ⟨A, hA⟩ : ∃ A, A = V.alloc (.cells #[.int .i64 (x1 : Nat), .string XS, .bool x3] 61) := ⟨_, rfl⟩
        have hb1 : Below V.heap.size V A := by rw [hA]; exact (Below.refl _ _).alloc (Nat.le_refl _) _
        have HBA := Lib.hid (HBV.out.trans (hb1.mono HBV.out.size))
        have HBOA := Lib.hid ((hb1.block BO (heap_lt HBOV.out)).trans HBOV.out)
        have HBRA := Lib.hid ((hb1.block BR (heap_lt HBRV.out)).trans HBRV.out)
        have HA := Lib.hid hA
        clear hlt hx k0 k1 k2 hXS hA hb1
        by_cases hs : x1 = i
        · have z1 : ((x1 : Int) == (i : Int)) = true := by simp [hs]
          have HSI := Lib.hid hs
          clear hs
          cases x3
          · rw [HA.out] at HBA HBOA HBRA
            clear HA
            go_wp2_with fail
            go_roundw
            case rel => exact ⟨k + 1, b0, HKT.out, by go_num, by rw [HNX.out, if_neg (by simp)]; exact HBOA.out, HBRA.out, HBA.out⟩
            case measure => simp [intOf]; have := HKT.out; omega
          · have hfz := frozen_of_row _ BO 0 _ _ HBOA.out
            have hfz1 := frozen_of_row _ BO 1 _ _ HBOA.out
            have hfz2 := frozen_of_row _ BO 2 _ _ HBOA.out
            have hd0 := cell_of_row _ BO 0 _ _ _ HBOA.out
            have hd1 := cell_of_row _ BO 1 _ _ _ HBOA.out
            have hd2 := cell_of_row _ BO 2 _ _ _ HBOA.out
            rw [HA.out] at HBA HBOA HBRA hfz hfz1 hfz2 hd0 hd1 hd2
            clear HA
            simp only [List.getElem?_toArray, List.getElem?_cons_zero, List.getElem?_cons_succ] at hd0 hd1 hd2
            have HBX := Lib.hid HBW.out
            go_wp2_with fail
            go_roundw
            case rel =>
              refine ⟨k + 1, true, HKT.out, by go_num, ?_, ?_, set3_below HBA.out HBX.out.1 _ _ _⟩
              · rw [set3_heap HBOA.out, HNX.out, if_pos ⟨HSI.out, rfl⟩, ← HSI.out, HXS.out]; rfl
              · rw [(set3_kb _ BO _ _ _).2 BR (heap_lt HBRA.out) HBX.out.2.1]; exact HBRA.out
            case measure => simp [intOf]; have := HKT.out; omega
        · have z1 : ((x1 : Int) == (i : Int)) = false := by rw [beq_eq_false_iff_ne]; omega
          have HSI := Lib.hid hs
          rw [HA.out] at HBA HBOA HBRA
          clear hs HA
          go_wp2_with fail
          go_roundw
          case rel => exact ⟨k + 1, b0, HKT.out, by go_num, by rw [HNX.out, if_neg (fun h => HSI.out h.1)]; exact HBOA.out, HBRA.out, HBA.out⟩
          case measure => simp [intOf]; have := HKT.out; omega
    · as_aux_lemma =>
        obtain rfl : k = N := by omega
        rw [HN.out] at HBOV
        have HM1 := Lib.hid (show RMc V mb n (.slice a k c) dn from (HBV.out.block mb HLT.out).trans HM0.out)
        have hm1 := HM1.out.c1
        clear hlt hk HM0
        go_wp2_with fail
        clear hm1
        go_loopw [40] (fun q wr => ∃ (m : Nat) (b : Bool), m ≤ k ∧ q = .int .i64 (m : Nat) ∧ wr.heap[BO]? = some (evO i (lstB L i m s) b) ∧ wr.heap[BR]? = some (.cells #[.int .i64 0, .string ByteArray.empty, .bool false] 61 (0, 0)) ∧ Below w.heap.size w wr) (fun q _ => k - (intOf q).toNat)
        case atStart => exact ⟨0, b0, Nat.zero_le _, rfl, by rw [lstB_zero]; exact HBOV.out, HBRV.out, HBV.out⟩
        case round =>
          obtain ⟨m, b1, hm, rfl, hbo, hbr, hbel⟩ := hrel
          rename World => U
          have HBOU := Lib.hid hbo
          have HBRU := Lib.hid hbr
          have HBU := Lib.hid hbel
          clear hbo hbr hbel HBOV HBRV HBV
          by_cases hlt : m < k
          · as_aux_lemma =>
              have HKT := Lib.hid hlt
              obtain ⟨x, hx⟩ : ∃ x, L[m]? = some x := ⟨_, List.getElem?_eq_getElem (by rw [← HN.out]; exact hlt)⟩
              have HOV := Lib.hid (own_belowU HROW.out HBU.out)
              obtain ⟨g, rfl⟩ := own_someT2 HOV.out (by omega)
              obtain ⟨k0, k1, k2⟩ := evC_get L m x hx
              have hc0 := HOV.out.cellAt (m * 3) (by omega)
              have hc1 := HOV.out.cellAt (m * 3 + 1) (by omega)
              have hc2 := HOV.out.cellAt (m * 3 + 2) (by omega)
              rw [k0] at hc0
              rw [k1] at hc1
              rw [k2] at hc2
              have HNX := Lib.hid (lstB_next (i := i) (s := s) hx)
              have qk : (m : Int) < (k : Int) := by omega
              obtain ⟨x1, x2, x3⟩ := x
              dsimp only at hc0 hc1 hc2 HNX
              obtain ⟨XS, hXS⟩ : ∃ XS, XS = strOfNums x2 := ⟨_, rfl⟩
              have HXS := Lib.hid hXS
              rw [← hXS] at hc1
              obtain ⟨A, hA⟩ : ∃ A, A = U.alloc (.cells #[.int .i64 (x1 : Nat), .string XS, .bool x3] 61) := ⟨_, rfl⟩
              have hb1 : Below U.heap.size U A := by rw [hA]; exact (Below.refl _ _).alloc (Nat.le_refl _) _
              have HBA := Lib.hid (HBU.out.trans (hb1.mono HBU.out.size))
              have HBOA := Lib.hid ((hb1.block BO (heap_lt HBOU.out)).trans HBOU.out)
              have HBRA := Lib.hid ((hb1.block BR (heap_lt HBRU.out)).trans HBRU.out)
              have HA := Lib.hid hA
              clear hlt hx k0 k1 k2 hXS hA hb1
              by_cases hs : x1 = i
              · have z1 : ((x1 : Int) == (i : Int)) = true := by simp [hs]
                have HSI := Lib.hid hs
                clear hs
                by_cases hgo : x3 = false ∧ s = false
                · obtain ⟨rfl, rfl⟩ := hgo
                  have hfz := frozen_of_row _ BO 0 _ _ HBOA.out
                  have hfz1 := frozen_of_row _ BO 1 _ _ HBOA.out
                  have hfz2 := frozen_of_row _ BO 2 _ _ HBOA.out
                  have hd0 := cell_of_row _ BO 0 _ _ _ HBOA.out
                  have hd1 := cell_of_row _ BO 1 _ _ _ HBOA.out
                  have hd2 := cell_of_row _ BO 2 _ _ _ HBOA.out
                  rw [HA.out] at HBA HBOA HBRA hfz hfz1 hfz2 hd0 hd1 hd2
                  clear HA
                  simp only [List.getElem?_toArray, List.getElem?_cons_zero, List.getElem?_cons_succ] at hd0 hd1 hd2
                  have HBX := Lib.hid HBW.out
                  go_wp2_with fail
                  go_roundw
                  case rel =>
                    refine ⟨m + 1, false, HKT.out, by go_num, ?_, ?_, set3_below HBA.out HBX.out.1 _ _ _⟩
                    · rw [set3_heap HBOA.out, HNX.out, if_pos ⟨HSI.out, rfl, rfl⟩, ← HSI.out, HXS.out]; rfl
                    · rw [(set3_kb _ BO _ _ _).2 BR (heap_lt HBRA.out) HBX.out.2.1]; exact HBRA.out
                  case measure => simp [intOf]; have := HKT.out; omega
                · have HGO := Lib.hid hgo
                  rw [HA.out] at HBA HBOA HBRA
                  clear hgo HA
                  cases x3
                  · cases s
                    · exact absurd ⟨rfl, rfl⟩ HGO.out
                    · go_wp2_with fail
                      go_roundw
                      case rel => exact ⟨m + 1, b1, HKT.out, by go_num, by rw [HNX.out, if_neg (by simp)]; exact HBOA.out, HBRA.out, HBA.out⟩
                      case measure => simp [intOf]; have := HKT.out; omega
                  · go_wp2_with fail
                    go_roundw
                    case rel => exact ⟨m + 1, b1, HKT.out, by go_num, by rw [HNX.out, if_neg (by simp)]; exact HBOA.out, HBRA.out, HBA.out⟩
                    case measure => simp [intOf]; have := HKT.out; omega
              · have z1 : ((x1 : Int) == (i : Int)) = false := by rw [beq_eq_false_iff_ne]; omega
                have HSI := Lib.hid hs
                rw [HA.out] at HBA HBOA HBRA
                clear hs HA
                go_wp2_with fail
                go_roundw
                case rel => exact ⟨m + 1, b1, HKT.out, by go_num, by rw [HNX.out, if_neg (fun h => HSI.out h.1)]; exact HBOA.out, HBRA.out, HBA.out⟩
                case measure => simp [intOf]; have := HKT.out; omega
          · as_aux_lemma =>
              obtain rfl : m = k := by omega
              have hs0 := HN.out
              rw [hs0] at HBOU
              rw [lstB_all] at HBOU
              have hfz := frozen_of_row _ BR 0 _ _ HBRU.out
              have hfz1 := frozen_of_row _ BR 1 _ _ HBRU.out
              have hfz2 := frozen_of_row _ BR 2 _ _ HBRU.out
              have hd0 := cell_of_row _ BR 0 _ _ _ HBRU.out
              have hd1 := cell_of_row _ BR 1 _ _ _ HBRU.out
              have hd2 := cell_of_row _ BR 2 _ _ _ HBRU.out
              have he0 := cell_of_row _ BO 0 _ _ _ HBOU.out
              have he1 := cell_of_row _ BO 1 _ _ _ HBOU.out
              have he2 := cell_of_row _ BO 2 _ _ _ HBOU.out
              simp only [List.getElem?_toArray, List.getElem?_cons_zero, List.getElem?_cons_succ] at hd0 hd1 hd2 he0 he1 he2
              obtain ⟨DS', hDS⟩ : ∃ DS', DS' = strOfNums (lastE L i s) := ⟨_, rfl⟩
              rw [← hDS] at he1
              have HDS := Lib.hid hDS
              clear hDS hs0
              go_wp2_with fail
              have hfin := set3_heap (v0 := .int .i64 (i : Nat)) (v1 := .string DS') (v2 := .bool b1) HBRU.out
              refine bodyPost_ret (v := .agg #[.int .i64 (i : Nat), .string DS', .bool b1]) (results_cell_row rfl _ _ BR _ _ _ _ rfl hfin Try.underlying61 rfl size_Ev) rfl ⟨b1, by rw [HDS.out], set3_below HBU.out HBW.out.2.2 _ _ _⟩
end Go.Proofs.Ytoonaendakjecaa
