/- Bytes cut into parts: plain facts, and the document's Cut. -/
import Derived.Test.YtmhjpdppippgkaaCf
namespace Go.Proofs.Ytmhjpdppippgkaa
open Go.ChangeShapes Go.WideShapes Go.ChangeAt Go.RowKit Go.Shelf GF
set_option linter.unusedVariables false
set_option linter.unusedSimpArgs false
set_option maxRecDepth 100000

theorem ceil_le {L t n : Nat} (ht : 1 ≤ t) : ceil L t ≤ n ↔ L ≤ n * t := by
  unfold ceil
  constructor
  · intro h
    have h1 : (L + t - 1) / t < n + 1 := by omega
    have h2 := (Nat.div_lt_iff_lt_mul (by omega)).1 h1
    rw [Nat.add_mul, Nat.one_mul] at h2
    omega
  · intro h
    have h2 : (L + t - 1) / t < n + 1 := (Nat.div_lt_iff_lt_mul (by omega)).2 (by rw [Nat.add_mul, Nat.one_mul]; omega)
    omega
theorem ceil_bd {L t : Nat} (ht : 1 ≤ t) : ceil L t ≤ L := (ceil_le ht).2 (Nat.le_mul_of_pos_right L (by omega))
theorem ceil_mul {L t : Nat} (ht : 1 ≤ t) : L ≤ t * ceil L t := by rw [Nat.mul_comm]; exact (ceil_le ht).1 (Nat.le_refl _)
/-- The first k bytes of the i-th part. -/
def cutP (B : List GF) (n i k : Nat) : List GF := (List.range k).map fun j => co B (i * n + j)
theorem cutP_len (B : List GF) (n i k : Nat) : (cutP B n i k).length = k := by simp [cutP]
theorem cutP_next (B : List GF) (n i k : Nat) : cutP B n i (k + 1) = cutP B n i k ++ [co B (i * n + k)] := by simp [cutP, List.range_succ]
theorem cutM_len (B : List GF) (t n : Nat) : (cutM B t n).length = t := by simp [cutM]
theorem cutM_row {B : List GF} {t n i : Nat} (h : i < t) : rw_ (cutM B t n) i = cutP B n i n := by
  unfold rw_ cutM cutP; simp [List.getD_eq_getElem?_getD, h]
theorem cutM_take {B : List GF} {t n i : Nat} (h : i < t) : (cutM B t n).take (i + 1) = (cutM B t n).take i ++ [cutP B n i n] := by
  refine take_stepV ?_
  unfold cutM cutP; simp [h]
theorem flat_cut (B : List GF) (n : Nat) : ∀ t, flat (cutM B t n) = (List.range (t * n)).map (co B) := by
  intro t
  induction t with
  | zero => simp [flat, cutM]
  | succ t ih =>
    have e : cutM B (t + 1) n = cutM B t n ++ [(List.range n).map fun k => co B (t * n + k)] := by simp [cutM, List.range_succ]
    unfold flat at ih ⊢
    rw [e, List.flatten_append, ih, Nat.add_mul, Nat.one_mul, List.range_add, List.map_append]
    simp
theorem flat_len (B : List GF) (t n : Nat) : (flat (cutM B t n)).length = t * n := by rw [flat_cut]; simp
theorem flat_take {B : List GF} {L t n : Nat} (hB : B.length = L) (h : L ≤ t * n) : (flat (cutM B t n)).take L = B := by
  rw [flat_cut]
  refine ext_co (by simp [hB]; omega) fun i hi => ?_
  simp at hi
  show List.getD _ _ _ = _
  have h1 : i < L := by omega
  have h2 : i < t * n := by omega
  simp [List.getD_eq_getElem?_getD, List.getElem?_take, h1, h2]
/-- Blocks ahead of B stay, but the G-th. -/
def KeepB (B G : Nat) (V W : World) : Prop := V.heap.size ≤ W.heap.size ∧ ∀ b, b < B → b ≠ G → W.heap[b]? = V.heap[b]?
theorem KeepB.refl (B G : Nat) (V : World) : KeepB B G V V := ⟨Nat.le_refl _, fun _ _ _ => rfl⟩
theorem KeepB.below {B G : Nat} {V W U : World} (h : KeepB B G V W) (k : Below B W U) : KeepB B G V U := ⟨Nat.le_trans h.1 k.size, fun b hb hn => (k.block b hb).trans (h.2 b hb hn)⟩
theorem KeepB.set {B G : Nat} {V W : World} (h : KeepB B G V W) (i : Nat) (v : Value) : KeepB B G V (W.setCell ⟨G, i, none⟩ v) := ⟨by simpa using h.1, fun b hb hn => (Below.heap_setCell _ _ _ _ hn).trans (h.2 b hb hn)⟩
theorem set_mid {vs : List Value} {t i : Nat} (z u v : Value) (hi : vs.length = i) : (vs ++ u :: List.replicate (t - (i + 1)) z).set i v = vs ++ v :: List.replicate (t - (i + 1)) z := by
  subst hi
  rw [List.set_append_right _ _ (Nat.le_refl _), Nat.sub_self, List.set_cons_zero]
theorem rep_mid {t i : Nat} (z : Value) (h : i < t) : List.replicate (t - i) z = z :: List.replicate (t - (i + 1)) z := by
  rw [show t - i = (t - (i + 1)) + 1 by omega, List.replicate_succ]
theorem own_madeC {w : World} {n : Nat} (hm : n ≤ maxLen) :
    (w.alloc (.cells (madeCells #[Value.slice none 0 0] n) 23)).ownsRow w.heap.size 23 1 (.slice (some ⟨w.heap.size, 0, none⟩) n n) n (List.replicate n (.slice none 0 0)) := by
  have := World.ownsRow_lit (base := w.heap.size) (e := 23) (size := 1) w (madeCells #[Value.slice none 0 0] n) n (Nat.le_refl _) hm (by simp [size_madeCells])
  rw [toList_madeCells_one] at this
  exact this

set_option maxHeartbeats 4000000 in
theorem refCut_any (L t : Nat) (aB : Option Addr) (cB : Nat) (B : List GF) (w : World) (hB : Pa w aB L cB B) (ht : 1 ≤ t) (ht2 : t ≤ 255) (hL : L ≤ 1000) :
    Calls Try.prog 18 #[.slice aB L cB, .int .i64 (t : Nat)] w fun e w' => ∃ g, e = .returned (.slice (some ⟨g, 0, none⟩) t t) ∧ Mat w' (some ⟨g, 0, none⟩) t t (cutM B t (ceil L t)) ∧ Below w.heap.size w w' := by
  obtain ⟨i5, hi, hz0, hz1, hz2⟩ := info_parts info5
  have HI := Lib.hid (And.intro hi (And.intro hz0 (And.intro hz1 hz2)))
  have HB := Lib.hid hB
  have HBL := Lib.hid hB.len
  have HT := Lib.hid (And.intro ht ht2)
  have HL := Lib.hid hL
  have hbd := hB.bd
  obtain ⟨n, hn⟩ : ∃ n, n = ceil L t := ⟨_, rfl⟩
  rw [← hn]
  have HN := Lib.hid hn
  have HN2 := Lib.hid (show n ≤ 1000 by rw [hn]; exact Nat.le_trans (ceil_bd ht) hL)
  have qt : (t : Int) ≤ 255 := by omega
  have qL : (L : Int) ≤ 1000 := by omega
  have qn : (n : Int) ≤ 1000 := by have := HN2.out; omega
  have hmk := run_make_row' (P := Try.prog) 22 23 (.slice none 0 0) 24 Try.underlying22 infoR rfl .i64 .i64 t (by omega) (by omega)
  clear hi hz0 hz1 hz2 hB ht ht2 hL hn
  go_enter Try.func18, Try.ntmps18
  go_wp2
  go_loopw [5] (fun s wr => ∃ k : Nat, k ≤ n ∧ s = .int .i64 (k : Nat) ∧ wr = w) (fun s _ => n - (intOf s).toNat)
  case atStart => exact ⟨0, by omega, rfl, rfl⟩
  case round =>
    obtain ⟨k, hk, rfl, hw⟩ := hrel
    subst hw
    have HKL := Lib.hid (ceil_le (L := L) (t := t) (n := k) HT.out.1)
    obtain ⟨p, hp⟩ : ∃ p, p = k * t := ⟨_, rfl⟩
    have qp : (k : Int) * (t : Int) = (p : Int) := by rw [hp]; rfl
    have HP := Lib.hid hp
    have qp2 : (p : Int) ≤ 255000 := by
      have : p ≤ 1000 * 255 := by rw [hp]; exact Nat.mul_le_mul (by have := HN2.out; omega) HT.out.2
      omega
    clear hp
    by_cases hlt : p < L
    · have q1 : (p : Int) < (L : Int) := by omega
      have hkn : k < n := by
        rcases Nat.lt_or_ge k n with h | h
        · exact h
        · have := HKL.out.1 (by rw [← HN.out]; exact h); rw [← HP.out] at this; omega
      clear hlt
      go_wp2
      go_roundw
      case rel => exact ⟨k + 1, by omega, by go_num, by trivial⟩
      case measure => simp [intOf]; omega
    · have q1 : ¬ (p : Int) < (L : Int) := by omega
      obtain rfl : n = k := by
        have h := HKL.out.2 (by rw [← HP.out]; omega)
        rw [← HN.out] at h; omega
      clear hlt hk HKL
      obtain ⟨G, hG⟩ : ∃ G, G = wr.heap.size := ⟨_, rfl⟩
      have HG := Lib.hid hG
      have hO0 : Hid ((wr.alloc (.cells (madeCells #[Value.slice none 0 0] t) 23)).ownsRow G 23 1 (.slice (some ⟨G, 0, none⟩) t t) t (([] : List Value) ++ List.replicate (t - 0) (.slice none 0 0))) := by
        rw [hG]; exact Lib.hid (own_madeC (w := wr) (n := t) (by unfold maxLen; have := HT.out; omega))
      have hB0 : Hid (Below G wr (wr.alloc (.cells (madeCells #[Value.slice none 0 0] t) 23))) := by rw [hG]; exact Lib.hid ((Below.refl _ _).alloc (Nat.le_refl _) _)
      have hw0 : Hid (RV (wr.alloc (.cells (madeCells #[Value.slice none 0 0] t) 23)) (fun b => G < b) [] ((cutM B t n).take 0)) := Lib.hid (RV.nil _ _)
      go_upto_region 6 with fail
      rw [← hG]
      clear hG hmk
      go_loopw [22] (fun s V => ∃ (i : Nat) (vs : List Value), i ≤ t ∧ s = .int .i64 (i : Nat) ∧ Hid (vs.length = i) ∧ Hid (V.ownsRow G 23 1 (.slice (some ⟨G, 0, none⟩) t t) t (vs ++ List.replicate (t - i) (.slice none 0 0))) ∧ Hid (RV V (fun b => G < b) vs ((cutM B t n).take i)) ∧ Hid (Below G wr V)) (fun s _ => t - (intOf s).toNat)
      case atStart => exact ⟨0, [], by omega, rfl, Lib.hid rfl, hO0, hw0, hB0⟩
      case round =>
        obtain ⟨i, vs, hi, rfl, HVL, HO, HV, HBV⟩ := hrel
        rename World => V
        by_cases hlt : i < t
        · have qi : (i : Int) < (t : Int) := by omega
          have qi0 : (0 : Int) ≤ (i : Int) := by omega
          obtain ⟨lo, hlo⟩ : ∃ lo, lo = i * n := ⟨_, rfl⟩
          have qlo : (i : Int) * (n : Int) = (lo : Int) := by rw [hlo]; rfl
          have qlo2 : (lo : Int) ≤ 255000 := by
            have : lo ≤ 255 * 1000 := by rw [hlo]; exact Nat.mul_le_mul (by have := HT.out.2; omega) HN2.out
            omega
          have HLO := Lib.hid hlo
          have HI1 := Lib.hid hlt
          have HGV := Lib.hid (HO.out.lt G rfl).2
          have HO1 : Hid (V.ownsRow G 23 1 (.slice (some ⟨G, 0, none⟩) t t) t (vs ++ .slice none 0 0 :: List.replicate (t - (i + 1)) (.slice none 0 0))) := by
            have h := HO.out; rw [rep_mid _ hlt] at h; exact Lib.hid h
          clear hlo hlt hi HO hO0 hB0 hw0
          go_upto_region 9 with fail
          go_loopw [8] (fun s U => ∃ (k c : Nat) (a : Option Addr), k ≤ n ∧ s = .int .i64 (k : Nat) ∧ Hid (U.ownsRow G 23 1 (.slice (some ⟨G, 0, none⟩) t t) t (vs ++ .slice a k c :: List.replicate (t - (i + 1)) (.slice none 0 0))) ∧ Hid (U.ownsRow V.heap.size 5 1 (.slice a k c) k ((iL (cutP B n i k)).map (Value.int .u8))) ∧ Hid (KeepB V.heap.size G V U) ∧ Hid (Below G V U)) (fun s _ => n - (intOf s).toNat)
          case atStart => exact ⟨0, 0, none, by omega, rfl, HO1, Lib.hid (own_nilG _ _ _), Lib.hid (KeepB.refl _ _ _), Lib.hid (Below.refl _ _)⟩
          case round =>
            obtain ⟨k, c, a, hk, rfl, UO, UR, UK, UB⟩ := hrel
            rename World => U
            by_cases hlt : k < n
            · have qk : (k : Int) < (n : Int) := by omega
              have qk0 : (0 : Int) ≤ (k : Int) := by omega
              obtain ⟨idx, hidx⟩ : ∃ idx, idx = lo + k := ⟨_, rfl⟩
              have qx : (lo : Int) + (k : Int) = (idx : Int) := by rw [hidx]; rfl
              have qx0 : (0 : Int) ≤ (idx : Int) := by omega
              have hcl := UO.out.cellAt i (by have := HI1.out; omega)
              have hfz := UO.out.frozenAt i
              rw [List.getElem?_append_right (by rw [HVL.out]; exact Nat.le_refl _), HVL.out, Nat.sub_self, List.getElem?_cons_zero] at hcl
              have hGU := (UO.out.lt G rfl).2
              have hGV : G < V.heap.size := HGV.out
              obtain ⟨v, hv⟩ : ∃ v, v = co B idx := ⟨_, rfl⟩
              have HCN := Lib.hid (show cutP B n i (k + 1) = cutP B n i k ++ [v] by rw [cutP_next, hv, hidx, HLO.out])
              have HKN := Lib.hid hlt
              have HUS := Lib.hid UK.out.1
              have hbnd : k ≤ c ∧ c ≤ 9223372036854775807 := by
                rcases UR.out.2 with ⟨e, h0⟩ | ⟨g, c', cur, e, _, _, h4, h5, _⟩
                · cases e; omega
                · cases e; exact ⟨h4, by unfold maxLen at h5; omega⟩
              have hBU := HB.out.on (show Below wr.heap.size wr U by rw [← HG.out]; exact HBV.out.trans UB.out)
              clear hk
              by_cases hin : idx < L
              · obtain ⟨bb, ob, rfl, hbb, hcb⟩ := hBU.at_ hin
                rw [← hv] at hcb
                have q9 : (idx : Int) < (L : Int) := by omega
                clear hin hidx hv hlt hbb hBU
                go_wp2_with ((with_reducible show wpList _ _ _ (⟨some 54, _, _, _, _, _⟩ :: _) _ _); go_loud (refine wpList_append_G1 rfl (.tmp 51) (.tmp 53) 23 rfl V.heap.size 5 i5 Try.underlying23 HI.out.1 HI.out.2.1 HI.out.2.2.1 HI.out.2.2.2 (.slice a k c) k (cutP B n i k) rfl UR.out v 5 rfl (by have := HKN.out; have := HN2.out; omega) HUS.out ?_; intro g5 c5 w5 ho5 hb5); have hO5 := own_on UO.out hb5 hGV; have hcl5 := hO5.cellAt i (by have := HI1.out; omega); rw [List.getElem?_append_right (by rw [HVL.out]; exact Nat.le_refl _), HVL.out, Nat.sub_self, List.getElem?_cons_zero] at hcl5; have hfz5 := hO5.frozenAt i; have HO5 := Lib.hid hO5; have HR5 := Lib.hid ho5; have HB5 := Lib.hid hb5; clear hO5 ho5 hb5)
                have hst := (HO5.out.stored i (.slice (some ⟨g5, 0, none⟩) (k + 1) c5)).1
                rw [set_mid _ _ _ HVL.out] at hst
                have HST := Lib.hid hst
                have hg5 := (HR5.out.lt g5 rfl).1
                have hrr := HR5.out.kept (gb_set w5 G i (.slice (some ⟨g5, 0, none⟩) (k + 1) c5)) (.inr (by simp [Value.ownBlock]; omega))
                rw [← HCN.out] at hrr
                have HRR := Lib.hid hrr
                have HKK := Lib.hid ((UK.out.below HB5.out).set i (.slice (some ⟨g5, 0, none⟩) (k + 1) c5))
                have HBB := Lib.hid ((UB.out.trans (HB5.out.mono (Nat.le_of_lt hGV))).setCell (p := ⟨G, i, none⟩) (Nat.le_refl _) (.slice (some ⟨g5, 0, none⟩) (k + 1) c5))
                clear hst hrr hcl5 hfz5 hg5
                go_roundw
                case rel => exact ⟨k + 1, c5, _, HKN.out, by go_num, HST, HRR, HKK, HBB⟩
                case measure => simp [intOf]; have := HKN.out; omega
              · have q9 : ¬ (idx : Int) < (L : Int) := by omega
                have hv0 : v = 0 := by rw [hv, co_ge (by rw [HBL.out]; omega)]
                subst hv0
                clear hin hidx hv hlt hBU
                go_wp2_with ((with_reducible show wpList _ _ _ (⟨some 54, _, _, _, _, _⟩ :: _) _ _); go_loud (refine wpList_append_G1 rfl (.tmp 51) (.tmp 53) 23 rfl V.heap.size 5 i5 Try.underlying23 HI.out.1 HI.out.2.1 HI.out.2.2.1 HI.out.2.2.2 (.slice a k c) k (cutP B n i k) rfl UR.out 0 5 rfl (by have := HKN.out; have := HN2.out; omega) HUS.out ?_; intro g5 c5 w5 ho5 hb5); have hO5 := own_on UO.out hb5 hGV; have hcl5 := hO5.cellAt i (by have := HI1.out; omega); rw [List.getElem?_append_right (by rw [HVL.out]; exact Nat.le_refl _), HVL.out, Nat.sub_self, List.getElem?_cons_zero] at hcl5; have hfz5 := hO5.frozenAt i; have HO5 := Lib.hid hO5; have HR5 := Lib.hid ho5; have HB5 := Lib.hid hb5; clear hO5 ho5 hb5)
                have hst := (HO5.out.stored i (.slice (some ⟨g5, 0, none⟩) (k + 1) c5)).1
                rw [set_mid _ _ _ HVL.out] at hst
                have HST := Lib.hid hst
                have hg5 := (HR5.out.lt g5 rfl).1
                have hrr := HR5.out.kept (gb_set w5 G i (.slice (some ⟨g5, 0, none⟩) (k + 1) c5)) (.inr (by simp [Value.ownBlock]; omega))
                rw [← HCN.out] at hrr
                have HRR := Lib.hid hrr
                have HKK := Lib.hid ((UK.out.below HB5.out).set i (.slice (some ⟨g5, 0, none⟩) (k + 1) c5))
                have HBB := Lib.hid ((UB.out.trans (HB5.out.mono (Nat.le_of_lt hGV))).setCell (p := ⟨G, i, none⟩) (Nat.le_refl _) (.slice (some ⟨g5, 0, none⟩) (k + 1) c5))
                clear hst hrr hcl5 hfz5 hg5
                go_roundw
                case rel => exact ⟨k + 1, c5, _, HKN.out, by go_num, HST, HRR, HKK, HBB⟩
                case measure => simp [intOf]; have := HKN.out; omega
            · obtain rfl : n = k := by omega
              clear hk hlt
              obtain ⟨a9, c9, e9, hp9, hlo9⟩ := Pa.own UR.out
              cases e9
              have hrv : RV U (fun b => G < b) vs ((cutM B t n).take i) := HV.out.keep UK.out.1 (fun b h1 h2 => ⟨h2, UK.out.2 b h1 (by omega)⟩)
              have hmo := hrv.more (P := cutP B n i n) (a := a) (c := c) (by rw [cutP_len]; exact hp9) (fun bb off e _ => by have := (hlo9 bb off e).1; have := HGV.out; omega)
              rw [cutP_len, ← cutM_take HI1.out] at hmo
              have HMO := Lib.hid hmo
              have hoo := UO.out
              rw [show vs ++ Value.slice a n c :: List.replicate (t - (i + 1)) (.slice none 0 0) = (vs ++ [.slice a n c]) ++ List.replicate (t - (i + 1)) (.slice none 0 0) by simp] at hoo
              have HOO := Lib.hid hoo
              have HVV := Lib.hid (show (vs ++ [Value.slice a n c]).length = i + 1 by rw [List.length_append, HVL.out]; rfl)
              have HBB := Lib.hid (HBV.out.trans UB.out)
              clear hrv hmo hoo hp9 hlo9
              go_wp2
              go_roundw
              case rel => exact ⟨i + 1, _, by have := HI1.out; omega, by go_num, HVV, HOO, HMO, HBB⟩
              case measure => simp [intOf]; have := HI1.out; omega
        · obtain rfl : t = i := by omega
          have ho := HO.out
          have hv := HV.out
          rw [Nat.sub_self, List.replicate_zero, List.append_nil] at ho
          rw [List.take_of_length_le (by rw [cutM_len]; exact Nat.le_refl _)] at hv
          obtain ⟨a9, c9, e9, hm9⟩ := Mat.own ho hv
          cases e9
          have HM9 := Lib.hid hm9
          have HBF : Hid (Below wr.heap.size wr V) := by rw [← HG.out]; exact HBV
          clear ho hv hm9
          go_wp2
          go_ret
          exact ⟨G, rfl, HM9.out, HBF.out⟩
end Go.Proofs.Ytmhjpdppippgkaa
