/- Contract of the document's own Det. -/
import Derived.Test.YtpoaimcioeopdaaMref
namespace Go.Proofs.Ytpoaimcioeopdaa
open Go.ChangeShapes Go.WideShapes Go.ChangeAt Go.RowKit Go.Shelf GF
set_option linter.unusedVariables false
set_option maxRecDepth 100000

theorem info22 : (Try.prog.info? 22).map (fun i => (i.zero, i.size, i.bytes)) = some (some (.slice none 0 0), 1, 24) := by kernel_rfl
theorem lit_cells (w : World) (v : Value) (e : TypeId) : ∀ j u, [v][j]? = some u → (w.alloc (.cells #[v] e)).cell? ((⟨w.heap.size, 0, none⟩ : Addr).add j) = some u := fun j u h => by
  have := (World.ownsRow_lit (base := w.heap.size) (e := e) (size := 1) w #[v] 1 (Nat.le_refl _) (by unfold maxLen; omega) rfl).cells (g := w.heap.size) rfl j u
  exact this h
/-- All rows but the i-th without their first numbers, the first k rows taken in. -/
def rstA (M : List (List GF)) (i k : Nat) : List (List GF) := ((M.take k).eraseIdx i).map List.tail
theorem rstA_zero (M : List (List GF)) (i : Nat) : rstA M i 0 = [] := by simp [rstA]
theorem take_step {M : List (List GF)} {k : Nat} (hk : k < M.length) : M.take (k + 1) = M.take k ++ [rw_ M k] := by
  rw [← List.take_append_getElem hk]
  congr 2
  unfold rw_; simp [List.getD_eq_getElem?_getD, List.getElem?_eq_getElem hk]
theorem rstA_self {M : List (List GF)} {i : Nat} (hi : i < M.length) : rstA M i (i + 1) = rstA M i i := by
  unfold rstA
  rw [take_step hi, List.eraseIdx_append_of_length_le (by simp; omega)]
  have hl : (M.take i).length = i := by simp; omega
  rw [hl, Nat.sub_self, List.eraseIdx_of_length_le (show (M.take i).length ≤ i by omega)]
  simp
theorem rstA_step {M : List (List GF)} {i k : Nat} (hk : k < M.length) (hne : k ≠ i) : rstA M i (k + 1) = rstA M i k ++ [(rw_ M k).tail] := by
  unfold rstA
  rw [take_step hk]
  have hl : (M.take k).length = k := by simp; omega
  by_cases e : i < k
  · rw [List.eraseIdx_append_of_lt_length (by omega), List.map_append]; rfl
  · rw [List.eraseIdx_append_of_length_le (by omega), hl, List.map_append, List.eraseIdx_of_length_le (by simp; omega), List.eraseIdx_of_length_le (by omega)]; rfl
theorem rstA_all (M : List (List GF)) (i : Nat) : rstA M i M.length = rst M i := by unfold rstA rst; rw [List.take_length]
theorem rstA_len {M : List (List GF)} {i : Nat} (k : Nat) : (rstA M i k).length ≤ k := by
  unfold rstA; rw [List.length_map, List.length_eraseIdx]; split <;> simp <;> omega

theorem own_slice {w : World} {base : Nat} {e : TypeId} {size : Nat} {v : Value} {n : Nat} {xs : List Value} (h : w.ownsRow base e size v n xs) : ∃ a c, v = .slice a n c := by
  rcases h.2 with ⟨rfl, rfl⟩ | ⟨g, cap, cur, rfl, _⟩
  · exact ⟨_, _, rfl⟩
  · exact ⟨_, _, rfl⟩
theorem Pa.tail {w : World} {b o L c : Nat} {P : List GF} (h : Pa w (some ⟨b, o, none⟩) L c P) : Pa w (some ⟨b, o + 1, none⟩) (L - 1) (c - 1) P.tail := by
  have hl := h.len
  refine ⟨⟨by rw [length_iL, List.length_tail, hl], allB_iL _, fun h0 => ?_, by have := h.1.2.2.2.1; omega, by have := h.1.2.2.2.2; omega⟩, fun h => by cases h⟩
  rw [length_iL, List.length_tail] at h0
  obtain ⟨b', off, e, hb, hc⟩ := h.1.2.2.1 (by rw [length_iL]; omega)
  cases e
  refine ⟨b, o + 1, rfl, hb, fun i hi => ?_⟩
  rw [length_iL, List.length_tail] at hi
  have := hc (i + 1) (by rw [length_iL]; omega)
  rw [getD_iL] at this
  rw [getD_iL, co_tail, ← this]
  congr 2
  omega
theorem rw_rst (M : List (List GF)) (i a : Nat) : rw_ (rst M i) a = (rw_ M (sk i a)).tail := by
  unfold rw_ rst sk
  simp only [List.getD_eq_getElem?_getD, List.getElem?_map, List.getElem?_eraseIdx]
  by_cases e : a < i
  · rw [if_pos e, if_pos e]
    cases h : M[a]? with
    | none => rfl
    | some l => rfl
  · rw [if_neg e, if_neg e]
    cases h : M[a + 1]? with
    | none => rfl
    | some l => rfl
theorem Wide.rst {M : List (List GF)} {n i : Nat} (h : Wide M (n + 1)) (hi : i < M.length) : Wide (rst M i) n := fun a ha => by
  have hl := length_rst hi
  rw [rw_rst, List.length_tail, h _ (by have := sk_lt (i := i) ha; omega)]
  rfl

set_option maxHeartbeats 1000000 in
theorem rdet_any (n : Nat) : ∀ (a : Option Addr) (c : Nat) (M : List (List GF)) (w : World), Mat w a n c M → Wide M n → n ≤ 1000 →
    Calls Try.prog 39 #[.slice a n c] w fun e w' => e = .returned (.int .u8 (toI (detL M))) ∧ Below w.heap.size w w' := by
  induction n with
  | zero =>
    intro a c M w hm _ _
    have hl : M = [] := List.eq_nil_of_length_eq_zero hm.len
    subst hl
    have hb := hm.bd
    clear hm
    go_enter Try.func39, Try.ntmps39
    go_wp2
    go_ret
    exact ⟨rfl, Below.refl _ _⟩
  | succ n ih =>
    intro a c M w hm hw hn
    have HIH := Lib.hid ih
    have HM := Lib.hid hm
    have hb1 := hm.bd
    have Hl := Lib.hid hm.len
    have HW := Lib.hid hw
    obtain ⟨N, hN⟩ : ∃ N, N = n + 1 := ⟨_, rfl⟩
    rw [← hN] at hb1 HM Hl HW hn ⊢
    have HN := Lib.hid hN
    have hN0 : ((N : Int) == 0) = false := by rw [beq_eq_false_iff_ne]; omega
    obtain ⟨i22, hi, hz0, hz1, hz2⟩ := info_parts info22
    have HI := Lib.hid (And.intro hi (And.intro hz0 (And.intro hz1 hz2)))
    clear hi hz0 hz1 hz2 hm hw ih hN
    go_enter Try.func39, Try.ntmps39
    go_wp2
    go_loopw [14, 3] (fun j x wr => ∃ k : Nat, k ≤ N ∧ j = .int .i64 (k : Nat) ∧ x = .int .u8 (toI (sm k fun t => ent M t 0 * detL (rst M t))) ∧ Hid (Below w.heap.size w wr))
      (fun j _ _ => N - (intOf j).toNat)
    case atStart => exact ⟨0, Nat.zero_le _, rfl, rfl, Lib.hid (Below.refl _ _)⟩
    case round =>
      obtain ⟨k, hk, rfl, rfl, hB⟩ := hrel
      by_cases hlt : k < N
      · obtain ⟨b, off, ai, ci, rfl, hb, hcell, hpa⟩ := HM.out.row hlt
        have hlen : (rw_ M k).length = N := HW.out k (by have := Hl.out; omega)
        rw [hlen] at hcell hpa
        obtain ⟨bx, ox, rfl, hbx, hcx⟩ := hpa.at_ (k := 0) (by have := HN.out; omega)
        have hcr := (hB.out.cell (p := ⟨b, off + k, none⟩) hb).trans hcell
        have hcx2 := (hB.out.cell (p := ⟨bx, ox + 0, none⟩) hbx).trans hcx
        have hbp := hpa.bd
        have q5 : (k : Int) < (N : Int) := by omega
        have q6 : (0 : Int) ≤ (k : Int) := by omega
        have q7 : (0 : Int) < (N : Int) := by have := HN.out; omega
        have Hlen := Lib.hid hlen
        have HP := Lib.hid hpa
        rw [Nat.add_zero] at hcx hcx2
        have HCX := Lib.hid hcx
        clear hcell hcx hpa hlen
        by_cases hz : co (rw_ M k) 0 = 0
        · have hzt : (toI (co (rw_ M k) 0) == 0) = true := by rw [hz]; rfl
          have hs : sm (k + 1) (fun t => ent M t 0 * detL (rst M t)) = sm k (fun t => ent M t 0 * detL (rst M t)) := by
            simp only [sm]
            rw [show ent M k 0 = 0 from hz, GF.zero_mul, GF.add_zero]
          have HS := Lib.hid hs
          clear hz hs
          go_wp2
          go_roundw
          case rel => exact ⟨k + 1, by omega, by go_num, by rw [HS.out], hB⟩
          case measure => simp [intOf]; omega
        · have hzf : (toI (co (rw_ M k) 0) == 0) = false := by rw [beq_eq_false_iff_ne]; exact fun e => hz (toI_eq_zero.1 e)
          clear hz
          go_wp2
          go_loopw [26, 6] (fun j o wq => ∃ (q s : Nat) (ao : Option Addr) (cc : Nat) (vs : List Value), q ≤ N ∧ s ≤ q ∧ j = .int .i64 (q : Nat) ∧ o = .slice ao (s : Nat) cc ∧ Hid (wq.ownsRow w.heap.size 22 1 (.slice ao (s : Nat) cc) s vs) ∧ Hid (RV wq (fun b => b < w.heap.size) vs (rstA M k q)) ∧ Hid (Below w.heap.size w wq) ∧ Hid (s = (rstA M k q).length))
            (fun j _ _ => N - (intOf j).toNat)
          case atStart =>
            refine ⟨0, 0, some ⟨wr.heap.size, 0, none⟩, 0, [], Nat.zero_le _, Nat.le_refl _, rfl, rfl, Lib.hid ?_, Lib.hid ?_, Lib.hid (hB.out.alloc hB.out.size _), Lib.hid (by rw [rstA_zero]; rfl)⟩
            · exact World.ownsRow_lit (base := w.heap.size) (e := 22) (size := 1) wr #[] 0 hB.out.size (Nat.zero_le _) rfl
            · rw [rstA_zero]; exact RV.nil _ _
          case round =>
            obtain ⟨q, s, ao, cc, vs, hq, hsq, rfl, rfl, hO, hV, hB2, hS⟩ := hrel
            by_cases hlt2 : q < N
            · obtain ⟨b3, off3, ai3, ci3, hbe, hb3, hcell3, hpa3⟩ := HM.out.row hlt2
              cases hbe
              have hlen3 : (rw_ M q).length = N := HW.out q (by have := Hl.out; omega)
              rw [hlen3] at hcell3 hpa3
              have hcr3 := (hB2.out.cell (p := ⟨b, off + q, none⟩) hb).trans hcell3
              have hbp3 := hpa3.bd
              have q8 : (q : Int) < (N : Int) := by omega
              have q9 : (0 : Int) ≤ (q : Int) := by omega
              have q10 : (1 : Int) ≤ (N : Int) := by have := HN.out; omega
              have Hlen3 := Lib.hid hlen3
              have HP3 := Lib.hid hpa3
              obtain ⟨bx3, ox3, rfl, hbx3, hcx3⟩ := hpa3.at_ (k := 0) (by have := HN.out; omega)
              clear hcell3 hpa3 hlen3 hcx3
              by_cases hne : q = k
              · have hnb : ((q : Int) != (k : Int)) = false := by rw [hne]; simp
                have HE := Lib.hid hne
                have hr := rstA_self (M := M) (i := k) (by have := Hl.out; omega)
                have HR := Lib.hid hr
                clear hne hr
                go_wp2
                go_roundw
                case rel => exact ⟨q + 1, s, _, _, vs, by omega, by omega, by go_num, rfl, hO, Lib.hid (by rw [HE.out, HR.out]; have h := hV.out; rw [HE.out] at h; exact h), hB2, Lib.hid (by rw [HE.out, HR.out]; have h := hS.out; rw [HE.out] at h; exact h)⟩
                case measure => simp [intOf]; omega
              · have hnb : ((q : Int) != (k : Int)) = true := by rw [bne_iff_ne]; omega
                go_wp2_with ((with_reducible show wpList _ _ _ (⟨some 38, _, _, _, _, _⟩ :: _) _ _); go_loud (refine wpList_append_own _ rfl (.tmp 34) (.tmp 37) 27 rfl w.heap.size 22 i22 (.slice none 0 0) 1 24 Try.underlying27 HI.out.1 HI.out.2.1 HI.out.2.2.1 HI.out.2.2.2 rfl (by decide) _ s vs rfl (hO.out.alloc _) _ 1 1 [_] rfl rfl (lit_cells _ _ _) (by intro u hu; cases List.mem_singleton.1 hu; rfl) (by unfold maxLen; omega) (by omega) (by have := hB2.out.size; simp; omega) ?_); go_loud (intro v1 wc hown1 hg1 _; have hbel := (hB2.out.alloc hB2.out.size (.cells #[.slice (some ⟨bx3, ox3 + 1, none⟩) (N - 1) (ci3 - 1)] 22)).grown hg1 (by have := hB2.out.size; simp; omega) (fun q' hq' => (hO.out.lt q' hq').1); have hsz := hg1.size; obtain ⟨a1, c1, hv1⟩ := own_slice hown1; subst hv1; have HO := Lib.hid hown1; have HN2 := Lib.hid hbel; have HSZ := Lib.hid hsz; clear hown1 hg1 hbel hsz))
                have hstep := rstA_step (M := M) (i := k) (k := q) (by have := Hl.out; omega) hne
                have hrv : RV wc (fun b => b < w.heap.size) vs (rstA M k q) := hV.out.keep (by have := HSZ.out; simp at this; omega) (fun b' _ ho => ⟨ho, (HN2.out.block b' ho).trans (hB2.out.block b' ho).symm⟩)
                have hlt' : (rw_ M q).tail.length = N - 1 := by rw [List.length_tail, Hlen3.out]
                have hp1 := HP3.out.tail.on HN2.out
                rw [← hlt'] at hp1
                have hrv2 := hrv.more hp1 (fun b' off' e _ => by cases e; exact hbx3)
                rw [← hstep, hlt'] at hrv2
                have HRV := Lib.hid hrv2
                have HST := Lib.hid hstep
                clear hstep hrv hlt' hp1 hrv2
                go_roundw
                case rel => exact ⟨q + 1, s + 1, a1, c1, _, by omega, by omega, by go_num, rfl, HO, HRV, HN2, Lib.hid (by rw [HST.out, List.length_append, ← hS.out]; rfl)⟩
                case measure => simp [intOf]; omega
            · obtain rfl : N = q := by omega
              have hall := rstA_all M k
              rw [Hl.out] at hall
              have hv := hV.out
              have hs := hS.out
              rw [hall] at hv hs
              have hkl : k < M.length := by rw [Hl.out]; omega
              have hrl := length_rst hkl
              have hsn : s = n := by have := HN.out; have := Hl.out; omega
              obtain ⟨ao', cc', he, hmat⟩ := Mat.own hO.out hv
              cases he
              rw [hsn] at hmat
              have hwd : Wide (rst M k) n := Wide.rst (by have := HW.out; rwa [HN.out] at this) hkl
              have hcall := HIH.out ao cc (rst M k)
              have hsn' : (Value.slice ao s cc) = Value.slice ao n cc := by rw [hsn]
              have HCall := Lib.hid (fun (W : World) (hW : Below wr.heap.size wr W) => (show Calls Try.prog 39 #[.slice ao s cc] W fun e w' => e = .returned (.int .u8 (toI (detL (rst M k)))) ∧ Below W.heap.size W w' by rw [hsn']; exact hcall W (hmat.on hW) hwd (by have := HN.out; omega)))
              have hcx4 := (hB2.out.cell (p := ⟨bx, ox, none⟩) hbx).trans HCX.out
              have hbxr : bx < wr.heap.size := by have := hB2.out.size; omega
              have hbt := fun (p q : GF) => bits_xor_G' p q
              have hstep : sm (k + 1) (fun t => ent M t 0 * detL (rst M t)) = sm k (fun t => ent M t 0 * detL (rst M t)) + co (rw_ M k) 0 * detL (rst M k) := rfl
              have HST := Lib.hid hstep
              have hcx5 : wr.drew.cell? ⟨bx, ox, none⟩ = some (.int .u8 (toI (co (rw_ M k) 0))) := hcx4
              clear hall hv hs hkl hrl hmat hwd hcall hsn' hstep hsn
              go_wp2_with fail
              go_region_held (fun W => W.cell? ⟨bx, ox, none⟩ = some (.int .u8 (toI (co (rw_ M k) 0))) ∧ Below wr.heap.size wr W) (first | exact ⟨hcx5, (Below.refl _ _).drew⟩ | assumption | exact ⟨(hb9.cell (p := ⟨bx, ox, none⟩) hbxr).trans hcx4, hb9⟩)
                (first
                  | (go_at_call 39; refine (HCall.out _ (Below.refl _ _).drew).mono ?_; rintro e w9 ⟨rfl, hb9'⟩; have hb9 : Below wr.heap.size wr w9 := (Below.refl _ _).drew.trans hb9')
                  | (go_at_call 40; refine (rmul_G _ _ _).mono ?_; rintro e w' ⟨rfl, rfl⟩))
              all_goals
                have HBE := Lib.hid (bt hB2.out hb9)
                go_wp2
                go_roundw
                case rel => exact ⟨k + 1, by omega, by go_num, by rw [HST.out], HBE⟩
                case measure => simp [intOf]; omega
      · obtain rfl : N = k := by omega
        have hd := detL_step (M := M) (by have := HN.out; have := Hl.out; omega)
        rw [Hl.out] at hd
        have HD := Lib.hid hd
        clear hd
        go_wp2
        go_ret
        rw [HD.out]
        exact ⟨rfl, hB.out⟩
end Go.Proofs.Ytpoaimcioeopdaa
