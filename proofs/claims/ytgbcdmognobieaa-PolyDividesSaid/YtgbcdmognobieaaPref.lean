/- Contracts of the document's own Trim, Eval, Mul. -/
import Derived.Test.YtgbcdmognobieaaPsum
namespace Go.Proofs.Ytgbcdmognobieaa
open Go.ChangeShapes Go.WideShapes Go.ChangeAt Go.RowKit Go.Shelf GF
set_option linter.unusedVariables false

theorem own_cut {w : World} {base : Nat} {e : TypeId} {g n c : Nat} {P : List GF} (h : w.ownsRow base e 1 (.slice (some ⟨g, 0, none⟩) n c) n ((iL P).map (Value.int .u8))) {m : Nat} (hm : m ≤ n) :
    w.ownsRow base e 1 (.slice (some ⟨g, 0, none⟩) m c) m ((iL (P.take m)).map (Value.int .u8)) := by
  have hl : P.length = n := by have := h.1; simpa [iL] using this
  rcases h.2 with ⟨h1, _⟩ | ⟨g', cap, cur, h1, h2, h3, h4, h5, h6, h7⟩
  · cases h1
  · cases h1
    refine ⟨by rw [List.length_map, length_iL, List.length_take, hl]; omega, .inr ⟨g, c, cur, rfl, h2, h3, by omega, h5, h6, ?_⟩⟩
    rw [iL_take, List.map_take, ← h7, List.take_take]
    congr 1
    omega

theorem take_tr {P : List GF} {k : Nat} (h : (tr P).length ≤ k) : tr (P.take k) = tr P := tr_ext fun j => by
  by_cases hj : j < k
  · exact co_take hj
  · rw [co_ge (by simp; omega)]
    exact (tr_len.1 h j (by omega)).symm

/-- x to the k-th; the first k terms of the value. -/
def pwA (x : GF) : Nat → GF
  | 0 => 1
  | k + 1 => pwA x k * x
def evA (P : List GF) (x : GF) : Nat → GF
  | 0 => 0
  | k + 1 => evA P x k + co P k * pwA x k
theorem evA_drop (P : List GF) (x : GF) : ∀ k, evA P x k + pwA x k * ev (P.drop k) x = ev P x := by
  intro k
  induction k with
  | zero => simp only [evA, pwA, List.drop_zero]; rw [GF.zero_add, GF.one_mul]
  | succ k ih =>
    rw [← ih, ev_drop P k x]
    simp only [evA, pwA]
    rw [GF.mul_add, GF.add_assoc, GF.mul_comm (co P k), GF.mul_assoc]
theorem evA_all (P : List GF) (x : GF) : evA P x P.length = ev P x := by
  have := evA_drop P x P.length
  rw [List.drop_length] at this
  rw [← this]
  simp only [ev]
  rw [GF.mul_zero, GF.add_zero]
theorem bits_xor_G (x y : GF) : bits .xor .u8 (toI x) (toI y) = toI (x + y) :=
  u8_xor _ _ (toI_bd x).1 (toI_bd x).2 (toI_bd y).1 (toI_bd y).2

set_option maxHeartbeats 1000000 in
theorem rtrim_any (a : Option Addr) (L cap : Nat) (P : List GF) (w : World) (hx : Pa w a L cap P) (hL : L ≤ 140737488355328) :
    Calls Try.prog 17 #[.slice a L cap] w fun e w' => ∃ v, e = .returned v ∧ w'.ownsRow w.heap.size 5 1 v (tr P).length ((iL (tr P)).map (Value.int .u8)) ∧ Below w.heap.size w w' := by
  have HX := Lib.hid hx
  have HL := Lib.hid hx.len
  have hcap := hx.1.2.2.2
  clear hx
  obtain ⟨i5, hi, hz0, hz1, hz2⟩ := info_parts info5
  have HI := Lib.hid (And.intro hi (And.intro hz0 (And.intro hz1 hz2)))
  clear hi hz0 hz1 hz2
  go_enter Try.func17, Try.ntmps17
  go_wp2_with ((with_reducible show wpList _ _ _ (⟨some 6, _, _, _, _, _⟩ :: _) _ _); go_loud (refine wpList_append_bs _ rfl (.tmp 4) (.tmp 5) 22 rfl w.heap.size 5 i5 Try.underlying22 HI.out.1 HI.out.2.1 HI.out.2.2.1 HI.out.2.2.2 _ 0 [] rfl (own_empty w _) a L cap w.heap.size (iL P) rfl (HX.out.1.2.2.1.below ((Below.refl _ _).alloc (Nat.le_refl _) _)) HX.out.1.1 HX.out.2 (by omega) (by simp) ?_); go_loud (intro v1 wc hown1 hg1; rw [Nat.zero_add, List.nil_append] at hown1; have hBc := ((Below.refl _ w).alloc (Nat.le_refl _) _).grown hg1 (by simp) (own_block_le _ _ _); have HO := Lib.hid hown1; have HB := Lib.hid hBc; obtain ⟨ac, cc, hv, _, _, _, _, _⟩ := own_form hown1; subst hv; clear hown1 hBc hg1))
  go_loopw [3] (fun o wr => ∃ (k : Nat) (a2 : Option Addr) (c2 : Nat), k ≤ L ∧ o = .slice a2 (k : Nat) c2 ∧ Hid (wr.ownsRow w.heap.size 5 1 (.slice a2 (k : Nat) c2) k ((iL (P.take k)).map (Value.int .u8))) ∧ Hid ((tr P).length ≤ k) ∧ Hid (Below w.heap.size w wr))
    (fun o _ => match o with | .slice _ n _ => n | _ => 0)
  case atStart =>
    refine ⟨L, _, _, Nat.le_refl _, rfl, ?_, Lib.hid (by rw [← HL.out]; exact tr_len_le P), HB⟩
    have : P.take L = P := by rw [← HL.out]; exact List.take_length
    rw [this]
    exact HO
  case round =>
    obtain ⟨k, a2, c2, hk, rfl, hR, hT, hB⟩ := hrel
    rcases Nat.eq_zero_or_pos k with h0 | h0
    · subst h0
      have ht : tr P = [] := List.eq_nil_of_length_eq_zero (by have := hT.out; omega)
      have HT := Lib.hid ht
      clear ht
      go_wp2
      go_ret
      rw [HT.out]
      exact ⟨_, rfl, by have := hR.out; rwa [List.take_zero] at this, hB.out⟩
    · obtain ⟨m, rfl⟩ : ∃ m, k = m + 1 := ⟨k - 1, by omega⟩
      obtain ⟨g, rfl, hc21, hc22⟩ : ∃ g, a2 = some ⟨g, 0, none⟩ ∧ m + 1 ≤ c2 ∧ c2 ≤ 9223372036854775807 := by
        rcases hR.out.2 with ⟨h1, h2⟩ | ⟨g, cap, cur, h1, h2, h3, h4, h5, h6⟩
        · omega
        · cases h1; exact ⟨g, rfl, h4, h5⟩
      have hcell := own_cells hR.out m (by omega)
      rw [Nat.zero_add, getD_iL, co_take (by omega)] at hcell
      have q1 : (0 : Int) < ((m + 1 : Nat) : Int) := by omega
      have q2 : ((m + 1 : Nat) : Int) - 1 = (m : Int) := by omega
      have q3 : (m : Int) < ((m + 1 : Nat) : Int) := by omega
      obtain ⟨M, hM⟩ : ∃ M, M = m + 1 := ⟨_, rfl⟩
      have HM := Lib.hid hM
      rw [← hM] at q1 q2 q3 hR hc21 hk hT ⊢
      have hmM : m ≤ M := by omega
      have q4 : (m : Int) ≤ (c2 : Int) := by omega
      clear hM h0
      by_cases hz : co P m = 0
      · have q5 : (toI (co P m) == 0) = true := by rw [hz]; rfl
        have hT2 : (tr P).length ≤ m := tr_len.2 fun j hj => by
          rcases Nat.lt_or_ge j M with h | h
          · have : j = m := by have := HM.out; omega
            rw [this, hz]
          · exact tr_len.1 hT.out j h
        have HT2 := Lib.hid hT2
        have hcut := own_cut hR.out hmM
        rw [List.take_take, Nat.min_eq_left hmM] at hcut
        have HC := Lib.hid hcut
        clear hT2 hcut hz
        go_wp2
        go_roundw
        case rel => exact ⟨m, _, _, by omega, rfl, HC, HT2, hB⟩
        case measure => have := HM.out; simp; omega
      · have q5 : (toI (co P m) == 0) = false := by rw [beq_eq_false_iff_ne]; exact fun e => hz (toI_eq_zero.1 e)
        have hlen : (tr P).length = M := by
          rcases Nat.lt_or_ge (tr P).length M with h | h
          · exact absurd (tr_len.1 (show (tr P).length ≤ m by have := HM.out; omega) m (Nat.le_refl _)) hz
          · have := hT.out; omega
        have htk : P.take M = tr P := by rw [← hlen]; exact tr_take P
        have HT := Lib.hid htk
        have HLn := Lib.hid hlen
        clear hz hlen htk
        go_wp2
        go_ret
        rw [HLn.out]
        exact ⟨_, rfl, by rw [← HT.out]; exact hR.out, hB.out⟩

set_option maxHeartbeats 1000000 in
theorem reval_any (a : Option Addr) (L cap : Nat) (P : List GF) (x : GF) (w : World) (hx : Pa w a L cap P) (hL : L ≤ 140737488355328) :
    Calls Try.prog 18 #[.slice a L cap, .int .u8 (toI x)] w fun e w' => e = .returned (.int .u8 (toI (ev P x))) ∧ w = w' := by
  have hl := hx.len
  have HX := Lib.hid hx
  have hcap := hx.1.2.2.2
  have HE := Lib.hid (show evA P x L = ev P x by rw [← hl]; exact evA_all P x)
  clear hx hl
  go_enter Try.func18, Try.ntmps18
  go_wp2
  go_loopw [11, 5, 6] (fun j o p wr => ∃ k : Nat, k ≤ L ∧ j = .int .i64 (k : Nat) ∧ o = .int .u8 (toI (evA P x k)) ∧ p = .int .u8 (toI (pwA x k)) ∧ wr = w)
    (fun j _ _ _ => L - (intOf j).toNat)
  case atStart => exact ⟨0, Nat.zero_le _, rfl, rfl, rfl, rfl⟩
  case round =>
    obtain ⟨k, hk, rfl, rfl, rfl, rfl⟩ := hrel
    by_cases hlt : k < L
    · obtain ⟨bx, ox, rfl, hbx, hcx⟩ := HX.out.at_ hlt
      have q2 : (k : Int) < (L : Int) := by omega
      have q3 : (0 : Int) ≤ (k : Int) := by omega
      have ho : evA P x (k + 1) = evA P x k + co P k * pwA x k := rfl
      have hp : pwA x (k + 1) = pwA x k * x := rfl
      have HO := Lib.hid ho; have HP := Lib.hid hp
      clear ho hp
      have hbt := fun (p q : GF) => bits_xor_G p q
      go_wp2_with (go_at_call 34; refine (rmul_G _ _ _).mono ?_; rintro e w' ⟨rfl, rfl⟩)
      go_roundw
      case rel => exact ⟨k + 1, by omega, by go_num, by rw [HO.out], by rw [HP.out], by trivial⟩
      case measure => simp [intOf]; omega
    · obtain rfl : L = k := by omega
      go_wp2
      go_ret
      exact ⟨by rw [← HE.out]; rfl, rfl⟩

set_option maxHeartbeats 2000000 in
theorem rmul_any (a : Option Addr) (L cap : Nat) (P : List GF) (a2 : Option Addr) (L2 cap2 : Nat) (Q : List GF) (w : World) (hx : Pa w a L cap P) (hy : Pa w a2 L2 cap2 Q) (hL : L ≤ 1000000) (hL2 : L2 ≤ 1000000) :
    Calls Try.prog 16 #[.slice a L cap, .slice a2 L2 cap2] w fun e w' => ∃ v, e = .returned v ∧ w'.ownsRow w.heap.size 5 1 v (tr (mulL P Q)).length ((iL (tr (mulL P Q))).map (Value.int .u8)) ∧ Below w.heap.size w w' := by
  have hl := hx.len
  have hl2 := hy.len
  obtain ⟨N, hN⟩ : ∃ N, N = L + L2 := ⟨_, rfl⟩
  have HX := Lib.hid hx
  have HY := Lib.hid hy
  have HL := Lib.hid hl
  have HL2 := Lib.hid hl2
  have HN := Lib.hid hN
  have hcap := hx.1.2.2.2
  have hcap2 := hy.1.2.2.2
  have q3 : (L : Int) + (L2 : Int) = (N : Int) := by omega
  have hNb : N ≤ 2000000 := by omega
  have hfin : tr (mulA P Q N L) = tr (mulL P Q) := by
    apply tr_ext
    intro j
    rw [co_mulA j _ (by omega), co_mulL]
    have h1 : sm (max L (j + 1)) (fun i => if i ≤ j then co P i * co Q (j - i) else 0) = sm L (fun i => if i ≤ j then co P i * co Q (j - i) else 0) :=
      sm_more (Nat.le_max_left ..) (fun i h _ => by split; rw [co_ge (by omega), GF.zero_mul]; rfl)
    have h2 : sm (max L (j + 1)) (fun i => if i ≤ j then co P i * co Q (j - i) else 0) = sm (j + 1) (fun i => if i ≤ j then co P i * co Q (j - i) else 0) :=
      sm_more (Nat.le_max_right ..) (fun i h _ => by rw [if_neg (by omega)])
    rw [← h1, h2]
    exact sm_congr fun i hi => by rw [if_pos (by omega)]
  have HFin := Lib.hid hfin
  have hmk := run_make_row' (P := Try.prog) 22 5 (.int .u8 0) 1 Try.underlying22 info5 rfl .i64 .i64 N (by omega) (by omega)
  clear hx hy hl hl2 hN hfin
  go_enter Try.func16, Try.ntmps16
  go_wp2
  obtain ⟨g, hg⟩ : ∃ g, g = w.heap.size := ⟨_, rfl⟩
  have hgw : w.heap.size ≤ g := by omega
  have HO0 := Lib.hid (own_made (w := w) (e := 5) (n := N) (by unfold maxLen; omega))
  have HW0 := Lib.hid ((Below.refl w.heap.size w).alloc (Nat.le_refl _) (.cells (madeCells #[.int .u8 0] N) 5))
  rw [← hg] at HO0
  rw [show (⟨w.heap.size, 0, none⟩ : Addr) = ⟨g, 0, none⟩ by rw [hg]]
  have HG := Lib.hid hg
  clear hg
  go_loopw [18] (fun j wr => ∃ k : Nat, k ≤ L ∧ j = .int .i64 (k : Nat) ∧ Hid (wr.ownsRow g 5 1 (.slice (some ⟨g, 0, none⟩) N N) N ((iL (mulA P Q N k)).map (Value.int .u8))) ∧ Hid (Below w.heap.size w wr))
    (fun j _ => L - (intOf j).toNat)
  case atStart =>
    refine ⟨0, Nat.zero_le _, rfl, Lib.hid ?_, HW0⟩
    have : iL (mulA P Q N 0) = List.replicate N 0 := by simp only [mulA, iL, List.map_replicate, toI_zero]
    rw [this]
    exact HO0.out
  case round =>
    obtain ⟨k, hk, rfl, hR, hB⟩ := hrel
    by_cases hlt : k < L
    · obtain ⟨bx, ox, rfl, hbx, hcx⟩ := (HX.out.on hB.out).at_ hlt
      have q5 : (k : Int) < (L : Int) := by omega
      have q6 : (0 : Int) ≤ (k : Int) := by omega
      go_wp2
      go_loopw [25] (fun j wq => ∃ m : Nat, m ≤ L2 ∧ j = .int .i64 (m : Nat) ∧ Hid (wq.ownsRow g 5 1 (.slice (some ⟨g, 0, none⟩) N N) N ((iL (addAt (mulA P Q N k) k (co P k) Q m)).map (Value.int .u8))) ∧ Hid (Below w.heap.size w wq))
        (fun j _ => L2 - (intOf j).toNat)
      case atStart => exact ⟨0, Nat.zero_le _, rfl, Lib.hid (by rw [addAt_zero]; exact hR.out), hB⟩
      case round =>
        obtain ⟨m, hm, rfl, hR2, hB2⟩ := hrel
        by_cases hlt2 : m < L2
        · obtain ⟨by', oy, rfl, hby, hcy⟩ := (HY.out.on hB2.out).at_ hlt2
          have q7 : (m : Int) < (L2 : Int) := by omega
          have q8 : (0 : Int) ≤ (m : Int) := by omega
          have q9 : (k : Int) + (m : Int) < (N : Int) := by omega
          have hwr : IntKind.i64.wrap ((k : Int) + (m : Int)) = ((k + m : Nat) : Int) := by rw [IntKind.wrap_i64]; omega
          have q10 : ((k + m : Nat) : Int) < (N : Int) := by omega
          have hkm : k + m < N := by omega
          have hcg := own_cells hR2.out (k + m) hkm
          rw [Nat.zero_add, getD_iL, co_addAt (by rw [length_mulA]; exact hkm), if_neg (by omega)] at hcg
          have hfz := hR2.out.frozenAt (k + m)
          have hst := (hR2.out.stored (k + m) (.int .u8 (toI (co (mulA P Q N k) (k + m) + co P k * co Q m)))).1
          have hset : (iL (addAt (mulA P Q N k) k (co P k) Q m)).set (k + m) (toI (co (mulA P Q N k) (k + m) + co P k * co Q m)) = iL (addAt (mulA P Q N k) k (co P k) Q (m + 1)) := by
            rw [← addAt_set (by rw [length_mulA]; exact hkm)]; simp [iL, List.map_set]
          rw [map_set_u8, hset] at hst
          have HS := Lib.hid hst
          have HB3 := Lib.hid (hB2.out.setCell (p := ⟨g, k + m, none⟩) hgw (.int .u8 (toI (co (mulA P Q N k) (k + m) + co P k * co Q m))))
          clear hst hset
          have hbt := fun (p q : GF) => bits_xor_G p q
          have qn : ((k : Int) + (m : Int)).toNat = k + m := by omega
          obtain ⟨Z, hZ⟩ : ∃ Z, Z = co (mulA P Q N k) (k + m) := ⟨_, rfl⟩
          rw [← hZ] at hcg HS HB3
          have HZ := Lib.hid hZ
          clear hZ
          go_wp2_with fail
          go_region_with (go_at_call 34; refine (rmul_G _ _ _).mono ?_; rintro e w' ⟨rfl, rfl⟩)
          all_goals
            go_wp2
            go_roundw
            case rel => exact ⟨m + 1, by omega, by go_num, Lib.hid HS.out, Lib.hid HB3.out.drew⟩
            case measure => simp [intOf]; omega
        · obtain rfl : L2 = m := by omega
          have he : addAt (mulA P Q N k) k (co P k) Q L2 = mulA P Q N (k + 1) := by simp only [mulA]; unfold axp; rw [HL2.out]
          rw [he] at hR2
          go_wp2
          go_roundw
          case rel => exact ⟨k + 1, by omega, by go_num, Lib.hid hR2.out, Lib.hid hB2.out⟩
          case measure => simp [intOf]; omega
    · obtain rfl : L = k := by omega
      go_wp2_with (go_at_call 17; refine (rtrim_any _ _ _ (mulA P Q N L) _ (Pa.own2 hR.out) (by omega)).mono ?_; rintro e w9 ⟨v, rfl, hown9, hb9⟩; obtain ⟨ac, cc, hv, _, _, _, _, _⟩ := own_form hown9; subst hv; have HO9 := Lib.hid hown9; clear hown9)
      go_ret
      rw [HFin.out] at HO9
      exact ⟨_, by rw [HFin.out]; rfl, own_base HO9.out hB.out.size, bt hB.out hb9⟩
end Go.Proofs.Ytgbcdmognobieaa
