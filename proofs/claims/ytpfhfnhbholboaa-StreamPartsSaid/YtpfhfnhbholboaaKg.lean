/- Contracts of the cipher's bytes and words. -/
import Derived.Test.YtpfhfnhbholboaaKf
import Derived.Deep.OwnRows
import Derived.Deep.MidRow
namespace Go.Proofs.Ytpfhfnhbholboaa
open Go.ChangeShapes Go.WideShapes Go.ChangeAt Go.RowKit
set_option linter.unusedVariables false
set_option maxRecDepth 100000

theorem own_base {w : World} {base B : Nat} {e : TypeId} {size : Nat} {v : Value} {n : Nat} {xs : List Value} (h : w.ownsRow base e size v n xs) (hB : B ≤ base) : w.ownsRow B e size v n xs := by
  refine ⟨h.1, ?_⟩
  rcases h.2 with h3 | ⟨g, cap, cur, e, hg, h3⟩
  · exact .inl h3
  · exact .inr ⟨g, cap, cur, e, by omega, h3⟩
/-- A column's bytes, a square's. -/
def colL (f : Nat → Nat) : List Int := [((f 0 : Nat) : Int), ((f 1 : Nat) : Int), ((f 2 : Nat) : Int), ((f 3 : Nat) : Int)]
def outL (S : Nat → Nat → Nat) : Nat → List Int
  | 0 => []
  | i + 1 => outL S i ++ colL (S i)
theorem length_outL (S : Nat → Nat → Nat) : ∀ i, (outL S i).length = 4 * i
  | 0 => rfl
  | i + 1 => by rw [outL, List.length_append, length_outL S i]; rfl
theorem be_wd {f : Nat → Nat} (h : ∀ r, f r < 256) : be 4 ((wd f : Nat) : Int) = colL f := by
  have h0 := wd_row h (i := 0) (by omega)
  have h1 := wd_row h (i := 1) (by omega)
  have h2 := wd_row h (i := 2) (by omega)
  have h3 := wd_row h (i := 3) (by omega)
  unfold be colL
  show [_, _, _, _] = _
  rw [← h0, ← h1, ← h2, ← h3]
  simp
set_option maxHeartbeats 1000000 in
theorem bytes_any (S : Nat → Nat → Nat) (hS : SqB S) (w : World) :
    Calls Try.prog 33 #[.agg (sqV S)] w fun e w' => ∃ a, e = .returned (.slice a 16 16) ∧ w'.ownsRow w.heap.size 5 1 (.slice a 16 16) 16 ((outL S 4).map (Value.int .u8)) ∧ Below w.heap.size w w' := by
  obtain ⟨s0, hs0⟩ : ∃ c : Array Value, c = sqV S := ⟨_, rfl⟩
  rw [← hs0]
  obtain ⟨V1, hV1⟩ : ∃ W, W = w.alloc (.cells s0 68) := ⟨_, rfl⟩
  obtain ⟨W0, hW0⟩ : ∃ W, W = V1.alloc (.cells #[] 5) := ⟨_, rfl⟩
  have e1 : V1.heap.size = w.heap.size + 1 := by rw [hV1]; simp
  have B1 : Below w.heap.size w V1 := by rw [hV1]; exact (Below.refl _ _).alloc (Nat.le_refl _) _
  have HB0 := Lib.hid (show Below w.heap.size w W0 by rw [hW0]; exact B1.alloc B1.size _)
  have HS := Lib.hid (show Blk V1 w.heap.size 68 4 (sqc S) by rw [hV1, hs0]; exact Blk.made _ _ _ _)
  have HO := Lib.hid (show W0.ownsRow w.heap.size 5 1 (.slice (some ⟨w.heap.size + 1, 0, none⟩) 0 0) 0 ((outL S 0).map (Value.int .u8)) by
    rw [← e1, hW0]; exact own_base (own_empty V1 _) (by rw [e1]; omega))
  have HSL := Lib.hid (show W0.heap[w.heap.size]? = some (.cells s0 68 (0, 0)) by
    have h : Blk W0 w.heap.size 68 4 (sqc S) := HS.out.on (show Below V1.heap.size V1 W0 by rw [hW0]; exact (Below.refl _ _).alloc (Nat.le_refl _) _) (by omega)
    unfold Blk at h
    rw [show tabV 4 (sqc S) = s0 from hs0.symm] at h
    exact h)
  have HSS := Lib.hid (show (Try.prog.info? 68).map (·.size) = some s0.size by rw [hs0, size_sqV]; exact size_sq)
  have hW0' : W0 = (w.alloc (.cells s0 68)).alloc (.cells #[] 5) := by rw [hW0, hV1]
  rw [hW0'] at HSL
  have HW0 := Lib.hid hW0'
  have HSB := Lib.hid hS
  have HS0 := Lib.hid hs0
  clear hV1 hW0 hW0' e1 B1 hS hs0
  go_enter Try.func33, Try.ntmps33
  go_wp2_with ((with_reducible show wpList _ _ _ (⟨some 7, _, _, _, _, _⟩ :: _) _ _); refine wpList_load_row rfl 68 (.tmp 1) rfl w.heap.size rfl _ s0 _ _ HSL.out Try.underlying68 rfl HSS.out ?_)
  rw [← HW0.out]
  go_loopw [3, 8] (fun v q wr => ∃ i : Nat, i ≤ 4 ∧ q = .int .i64 (i : Nat) ∧ (∃ a, v = .slice a (4 * i) (4 * i) ∧ wr.ownsRow w.heap.size 5 1 (.slice a (4 * i) (4 * i)) (4 * i) ((outL S i).map (Value.int .u8))) ∧ Below w.heap.size w wr) (fun _ q _ => 4 - (intOf q).toNat)
  case atStart => exact ⟨0, by omega, rfl, ⟨_, rfl, HO.out⟩, HB0.out⟩
  case round =>
    obtain ⟨i, hi, rfl, ⟨a, rfl, hO⟩, hB⟩ := hrel
    have HOi := Lib.hid hO
    have HBi := Lib.hid hB
    clear hO hB HO HB0
    rename World => wr
    by_cases hlt : i < 4
    · have hix : ∀ w : World, (Instr.index 68 (.agg s0) (.int .i64 (i : Nat))).run Try.prog w = .ok (.int .u32 ((wd (S i) : Nat) : Int)) w := by rw [HS0.out]; exact index_sq S hlt
      have hwl := wd_lt (HSB.out i)
      obtain ⟨hbs, hlen⟩ := Bs.of_own HOi.out
      have hput := put32 a (4 * i) (4 * i) (outL S i) wr hlen hbs (by omega) ((wd (S i) : Nat) : Int) (mk32 (by omega) (by omega))
      rw [be_wd (HSB.out i)] at hput
      have HPUT := Lib.hid hput
      have qi : (i : Int) < 4 := by omega
      obtain ⟨X, hX⟩ : ∃ X, X = wd (S i) := ⟨_, rfl⟩
      rw [← hX] at hix hwl HPUT
      clear hbs hlen hput hX
      go_wp2_with (go_at_call 53; refine HPUT.out.mono ?_; rintro e w' ⟨g, rfl, hown, hbel⟩; have HO2 := Lib.hid hown; have HB2 := Lib.hid hbel; clear hown hbel)
      go_roundw
      case rel => exact ⟨i + 1, by omega, by go_num, ⟨some ⟨g, 0, none⟩, rfl, own_base HO2.out HBi.out.size⟩, HBi.out.trans (HB2.out.mono HBi.out.size)⟩
      case measure => simp [intOf]; omega
    · obtain rfl : i = 4 := by omega
      go_wp2
      go_ret
      exact ⟨a, rfl, HOi.out, HBi.out⟩

/-- Bytes as words of four. -/
def kw (l : List Int) (i r : Nat) : Nat := (l.getD (4 * i + r) 0).toNat
theorem kw_lt {l : List Int} (h : AllB l) : SqB (kw l) := fun i r => by
  have := allB_getD h (4 * i + r)
  unfold kw; omega
theorem getV_drop {l : List Int} (h : AllB l) {i : Nat} (hi : 4 * i + 4 ≤ l.length) : getV 4 (l.drop (4 * i)) = ((wd (kw l i) : Nat) : Int) := by
  rw [getV_num (by rw [List.length_drop]; omega)]
  have h0 := allB_getD h (4 * i)
  have h1 := allB_getD h (4 * i + 1)
  have h2 := allB_getD h (4 * i + 2)
  have h3 := allB_getD h (4 * i + 3)
  have hd : ∀ r, (l.drop (4 * i)).getD r 0 = l.getD (4 * i + r) 0 := fun r => by simp [List.getD_eq_getElem?_getD, List.getElem?_drop]
  have hl : 4 ≤ (l.drop (4 * i)).length := by rw [List.length_drop]; omega
  rw [numB_take_succ (by omega), numB_take_succ (by omega), numB_take_succ (by omega), numB_take_succ (by omega), hd, hd, hd, hd]
  show (((((numB ([] : List Int)) * 256 + l.getD (4 * i + 0) 0) * 256 + l.getD (4 * i + 1) 0) * 256 + l.getD (4 * i + 2) 0) * 256 + l.getD (4 * i + 3) 0) = _
  unfold wd kw
  rw [Nat.add_zero]
  have hn : numB ([] : List Int) = 0 := rfl
  rw [hn]
  omega
theorem info32 : (Try.prog.info? 52).map (fun i => (i.zero, i.size, i.bytes)) = some (some (.int .u32 0), 1, 4) := by kernel_rfl
def kwP (l : List Int) (i j : Nat) : Value := .int .u32 (((if j < i then wd (kw l j) else 0 : Nat)) : Int)
theorem madeCells_tabV (v : Value) (n : Nat) : madeCells #[v] n = tabV n (fun _ => v) := by
  apply Array.ext_getElem?
  intro j
  by_cases hj : j < n
  · rw [get_tabV hj]; simp [madeCells, hj, Nat.mod_one]
  · rw [Array.getElem?_eq_none (by simp [size_madeCells]; omega), Array.getElem?_eq_none (by rw [size_tabV]; omega)]
theorem Bs.dropK {w : World} {B b o k : Nat} {l : List Int} (h : Bs w B (some ⟨b, o, none⟩) l) : Bs w B (some ⟨b, o + k, none⟩) (l.drop k) := fun h0 => by
  rw [List.length_drop] at h0
  obtain ⟨b', o', e, hb, hc⟩ := h (by omega)
  injection e with e
  injection e with e1 e2 _
  subst e1 e2
  refine ⟨b, o + k, rfl, hb, fun j hj => ?_⟩
  rw [List.length_drop] at hj
  have := hc (k + j) (by omega)
  rw [Nat.add_assoc, this]
  simp [List.getD_eq_getElem?_getD, List.getElem?_drop]
theorem AllB.drop {l : List Int} (h : AllB l) (k : Nat) : AllB (l.drop k) := fun x hx => h x (List.mem_of_mem_drop hx)
set_option maxHeartbeats 1000000 in
theorem words_any (ba oa : Nat) (n c : Nat) (l : List Int) (w : World) (hl : l.length = 4 * n) (hA : AllB l) (hb : Bs w w.heap.size (some ⟨ba, oa, none⟩) l) (hn : 1 ≤ n) (hn2 : n ≤ 8) (hc : 4 * n ≤ c) (hcm : c ≤ 9223372036854775807) :
    Calls Try.prog 47 #[.slice (some ⟨ba, oa, none⟩) ((4 * n : Nat) : Nat) c] w fun e w' => e = .returned (.slice (some ⟨w.heap.size, 0, none⟩) n n) ∧ Blk w' w.heap.size 52 n (fun j => .int .u32 ((wd (kw l j) : Nat) : Int)) ∧ Below w.heap.size w w' := by
  have hmk := run_make_row' (P := Try.prog) 64 52 (.int .u32 0) 4 Try.underlying64 info32 rfl .i64 .i64 n (by omega) (by omega)
  rw [madeCells_tabV] at hmk
  obtain ⟨c0, hc0⟩ : ∃ c0 : Array Value, c0 = tabV n fun _ => .int .u32 0 := ⟨_, rfl⟩
  rw [← hc0] at hmk
  obtain ⟨W0, hW0⟩ : ∃ W, W = w.alloc (.cells c0 52) := ⟨_, rfl⟩
  have HK0 := Lib.hid (show Blk W0 w.heap.size 52 n (kwP l 0) by rw [hW0, hc0]; exact (Blk.made _ _ _ _).congr fun j hj => by unfold kwP; rw [if_neg (by omega)]; rfl)
  have HB0 := Lib.hid (show Below w.heap.size w W0 by rw [hW0]; exact (Below.refl _ _).alloc (Nat.le_refl _) _)
  have HBS := Lib.hid hb
  have HL := Lib.hid hl
  have HA := Lib.hid hA
  have HW0 := Lib.hid hW0
  clear hc0 hW0 hl hA hb
  have q4 : ((4 * n : Nat) : Int) / 4 = (n : Int) := by omega
  go_enter Try.func47, Try.ntmps47
  go_wp2_with fail
  clear hmk q4
  rw [← HW0.out]
  obtain ⟨b3, hb3⟩ : ∃ b, b = w.heap.size := ⟨_, rfl⟩
  rw [← hb3] at HK0 HB0 HBS ⊢
  have HB3 := Lib.hid hb3
  clear hb3
  go_loopw [11] (fun q wr => ∃ i : Nat, i ≤ n ∧ q = .int .i64 (i : Nat) ∧ Blk wr b3 52 n (kwP l i) ∧ Below b3 w wr) (fun q _ => n - (intOf q).toNat)
  case atStart => exact ⟨0, by omega, rfl, HK0.out, HB0.out⟩
  case round =>
    obtain ⟨i, hi, rfl, hK, hB⟩ := hrel
    have HK := Lib.hid hK
    have HB := Lib.hid hB
    clear hK hB HK0 HB0
    rename World => wr
    by_cases hlt : i < n
    · have qi : (i : Int) < (n : Int) := by omega
      have qi0 : (0 : Int) ≤ (i : Int) := by omega
      have qm0 : (0 : Int) ≤ 4 * (i : Int) := by omega
      have qm1 : 4 * (i : Int) ≤ 4 * (n : Int) := by omega
      have qm2 : 4 * (i : Int) ≤ 32 := by omega
      have qm3 : 4 * i < c := by omega
      have hcell := HK.out.cell hlt
      have hfr := HK.out.free i
      have hget := get32 (some ⟨ba, oa + 4 * i, none⟩) (4 * n - 4 * i) (c - 4 * i) (l.drop (4 * i)) wr (by rw [List.length_drop, HL.out]) (HA.out.drop _) ((HBS.out.below HB.out).dropK.more (by have := HB.out.size; have := HK.out.lt; omega)) (by omega)
      rw [getV_drop HA.out (by rw [HL.out]; omega)] at hget
      have HG := Lib.hid hget
      have hwl := wd_lt (kw_lt HA.out i)
      have hst := Lib.hid ((HK.out.set hlt (.int .u32 ((wd (kw l i) : Nat) : Int))).congr (h := kwP l (i + 1)) fun j hj => by
        unfold kwP
        by_cases e : j = i
        · rw [if_pos e, if_pos (by omega), e]
        · rw [if_neg e]
          by_cases e2 : j < i
          · rw [if_pos e2, if_pos (by omega)]
          · rw [if_neg e2, if_neg (by omega)])
      clear hget
      go_wp2_with (go_at_call 61; refine HG.out.mono ?_; rintro e w' ⟨rfl, rfl⟩)
      go_roundw
      case rel => exact ⟨i + 1, by omega, by go_num, hst.out, HB.out.setCell (p := ⟨b3, i, none⟩) (Nat.le_refl _) _⟩
      case measure => simp [intOf]; omega
    · obtain rfl : n = i := by omega
      go_wp2
      go_ret
      exact ⟨by rw [HB3.out]; rfl, by rw [← HB3.out]; exact HK.out.congr fun j hj => by unfold kwP; rw [if_pos hj], by rw [← HB3.out]; exact HB.out⟩
end Go.Proofs.Ytpfhfnhbholboaa
