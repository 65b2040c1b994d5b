/- Package sector: who can be known to be in; arrays sliced. -/
import Derived.Test.YtadcgngiofdhcaaDoorIu
namespace Go.Proofs.YtadcgngiofdhcaaDoor
open Go.ChangeShapes Go.WideShapes Go.ChangeAt Go.RowKit Go.Shelf
set_option linter.unusedVariables false
set_option linter.unusedSimpArgs false
set_option maxRecDepth 100000
attribute [local go_sem] Oper.semAt_some

theorem arr256 : (match Tryd.prog.underlying 28 with | some (.pointer _) => false | some (.array _ _) => true | _ => false) = true := by kernel_rfl
theorem und256 : Tryd.prog.underlying 28 = some (.array 256 4) := by kernel_rfl
theorem len256 : Tryd.prog.arrayLen 28 = 256 := by kernel_rfl
theorem size256 (W : World) : (sizeOf (Tryd.prog.elem 28)).run Tryd.prog W = .ok 1 W := by kernel_rfl
/-- s.In[k:] -/
theorem slice256 (W : World) (g o k : Nat) (kk : IntKind) (z : Int) (hz : z = (k : Int)) (hk : k ≤ 256) :
    (Instr.sliceAt 28 (.pointer (some ⟨g, o, none⟩)) (some (.int kk z)) none none).run Tryd.prog W = .ok (.slice (some ⟨g, if k = 256 then o else o + k, none⟩) (256 - k) (256 - k)) W := by
  rw [run_sliceAt_array_l W 28 ⟨g, o, none⟩ und256 kk z (by omega) (by rw [len256]; omega), size256, len256]
  have e : z.toNat = k := by omega
  show Result.ok (slicedAt _ _ _ _ _) W = _
  unfold slicedAt
  rw [e]
  by_cases h : k = 256
  · subst h; rfl
  · rw [if_neg (by omega), if_neg h, Nat.mul_one]
    simp [Addr.add]
set_option maxHeartbeats 2000000 in
theorem index_any (a : Option Addr) (L c : Nat) (l : List Bool) (w : World) (q : Bool) (hq : q = l.all (fun x => !x)) (hl : l.length = L) (hb : Ls w w.heap.size a l) (hL : L ≤ 9223372036854775807) :
    Calls Tryd.prog 50 #[.slice a L c, .bool true] w fun e w' => ∃ z : Int, e = .returned (.int .i64 z) ∧ (0 ≤ z ↔ q = false) ∧ w = w' := by
  have HQ := Lib.hid hq
  clear hq
  go_enter Tryd.func50, Tryd.ntmps50
  go_wp2
  go_loop [8] (fun i => ∃ k : Nat, k ≤ L ∧ i = .int .i64 k ∧ Hid (∀ i, i < k → l.getD i false = false)) (fun i => L - (intOf i).toNat)
  case atStart => exact ⟨0, Nat.zero_le _, rfl, fun i hi => absurd hi (by omega)⟩
  case round =>
    obtain ⟨k, hk, rfl, hz⟩ := hrel
    by_cases hlt : k < L
    · obtain ⟨b, off, rfl, hB, hc⟩ := hb.at_ (k := k) (by omega)
      obtain ⟨X, hX⟩ : ∃ X, X = l.getD k false := ⟨_, rfl⟩
      rw [← hX] at hc
      have HX := Lib.hid hX
      clear hX
      cases X with
      | false =>
        go_wp2
        go_round
        case rel =>
          refine ⟨k + 1, by omega, by go_num, fun i hi => ?_⟩
          by_cases e : i = k
          · subst e; exact HX.out.symm
          · exact hz.out i (by omega)
        case measure => simp [intOf]; omega
      | true =>
        have HF := Lib.hid (show q = false from Bool.eq_false_iff.2 fun h => by
          rw [HQ.out] at h
          have h2 := List.all_eq_true.1 h (l[k]'(by omega)) (List.getElem_mem _)
          have h3 := HX.out
          rw [List.getD_eq_getElem?_getD, List.getElem?_eq_getElem (show k < l.length by omega), Option.getD_some] at h3
          rw [← h3] at h2
          cases h2)
        go_wp2
        go_ret
        exact ⟨_, rfl, ⟨fun _ => HF.out, fun _ => by omega⟩, rfl⟩
    · obtain rfl : k = L := by omega
      have HT := Lib.hid (show q = true from HQ.out.trans <| List.all_eq_true.2 fun x hx => by
        obtain ⟨i, hi, rfl⟩ := List.getElem_of_mem hx
        have h3 := hz.out i (by omega)
        rw [List.getD_eq_getElem?_getD, List.getElem?_eq_getElem hi, Option.getD_some] at h3
        rw [h3]; rfl)
      go_wp2
      go_ret
      exact ⟨_, rfl, ⟨fun h => by omega, fun h => by rw [HT.out] at h; cases h⟩, rfl⟩
theorem contains_any (a : Option Addr) (L c : Nat) (l : List Bool) (w : World) (hl : l.length = L) (hb : Ls w w.heap.size a l) (hL : L ≤ 9223372036854775807) :
    Calls Tryd.prog 33 #[.slice a L c, .bool true] w fun e w' => e = .returned (.bool (!(l.all (fun x => !x)))) ∧ w = w' := by
  obtain ⟨q, hq⟩ : ∃ q, q = l.all (fun x => !x) := ⟨_, rfl⟩
  have HI := Lib.hid (index_any a L c l w q hq hl hb hL)
  rw [← hq]
  clear hq hb
  go_enter Tryd.func33, Tryd.ntmps33
  go_upto_region 2 with (go_at_call 50; go_loud (refine HI.out.mono ?_; rintro e w1 ⟨z, rfl, hz, rfl⟩; have HZ := Lib.hid hz; clear hz))
  go_wp2
  go_ret
  refine ⟨?_, rfl⟩
  show Ending.returned (.bool (decide (0 ≤ z))) = _
  cases q with
  | true => rw [decide_eq_false (fun h => by have := HZ.out.1 h; cases this)]; rfl
  | false => rw [decide_eq_true (HZ.out.2 rfl)]; rfl
set_option maxHeartbeats 4000000 in
theorem known_any (P : SU) (hP : P.Wf) (w : World) :
    Calls Tryd.prog 15 #[suA P] w fun e w' => e = .returned (.bool (decide P.Ok2)) ∧ Below w.heap.size w w' := by
  obtain ⟨r, hr0⟩ : ∃ r, r = decide P.Ok2 := ⟨_, rfl⟩
  have hr : r = true ↔ P.Ok2 := by rw [hr0]; exact decide_eq_true_iff
  rw [← hr0]
  clear hr0
  obtain ⟨HB, HS⟩ := su_box P w
  have c9 := HS.num.2.1
  have c16 := HS.inn (j := 0) (by omega)
  have hcin : ∀ j, j < 256 → _ := fun j hj => HS.inn (j := j) hj
  obtain ⟨s0, hs0⟩ : ∃ s, s = tabV 276 (suV P) := ⟨_, rfl⟩
  unfold suA
  rw [← hs0] at HB c9 c16 hcin ⊢
  clear hs0 HS
  have HB := Lib.hid HB
  have hb1 := hP.n
  unfold byteI at hb1
  obtain ⟨n, hn⟩ := Int.eq_ofNat_of_zero_le hb1.1
  have hli := hP.inn
  unfold SU.Ok2 at hr
  obtain ⟨x0, hx0⟩ : ∃ x, x = P.inn.getD 0 false := ⟨_, rfl⟩
  rw [hn, ← hx0, Int.toNat_natCast] at hr
  rw [hn] at c9 hb1
  rw [← hx0] at c16
  obtain ⟨A, hA⟩ : ∃ A, A = w.alloc (.cells s0 30) := ⟨_, rfl⟩
  have hAs : A.heap.size = w.heap.size + 1 := by rw [hA]; simp
  rw [← hA] at HB
  have hls : Ls A A.heap.size (some ⟨w.heap.size, if n + 1 = 256 then 16 else 16 + (n + 1), none⟩) (P.inn.drop (n + 1)) := fun h0 => by
    rw [List.length_drop, hli] at h0
    refine ⟨w.heap.size, 16 + (n + 1), by rw [if_neg (by omega)], by omega, fun i hi => ?_⟩
    rw [List.length_drop, hli] at hi
    have := hcin (n + 1 + i) (by omega)
    rw [hA, show 16 + (n + 1) + i = 16 + (n + 1 + i) by omega, this]
    simp [List.getD_eq_getElem?_getD, List.getElem?_drop]
  have HCN := Lib.hid (contains_any (some ⟨w.heap.size, if n + 1 = 256 then 16 else 16 + (n + 1), none⟩) (256 - (n + 1)) (256 - (n + 1)) (P.inn.drop (n + 1)) A (by rw [List.length_drop, hli]) hls (by omega))
  have hsl : ∀ W : World, (Instr.sliceAt 28 (.pointer (some ⟨w.heap.size, 16, none⟩)) (some (.int .i64 ((n : Int) + 1))) none none).run Tryd.prog W = .ok (.slice (some ⟨w.heap.size, if n + 1 = 256 then 16 else 16 + (n + 1), none⟩) (256 - (n + 1)) (256 - (n + 1))) W := fun W => slice256 W w.heap.size 16 (n + 1) .i64 _ (by omega) (by omega)
  obtain ⟨q, hq⟩ : ∃ q, q = (P.inn.drop (n + 1)).all (fun x => !x) := ⟨_, rfl⟩
  rw [← hq] at hr HCN
  rw [hA] at HCN
  obtain ⟨oo, hoo⟩ : ∃ o, o = (if n + 1 = 256 then 16 else 16 + (n + 1)) := ⟨_, rfl⟩
  obtain ⟨mm, hmm⟩ : ∃ m, m = 256 - (n + 1) := ⟨_, rfl⟩
  rw [← hoo, ← hmm] at hsl HCN
  have HAE := Lib.hid hA
  clear hls hq hx0 hcin hli hoo hmm hA hAs hn
  cases x0 with
  | true =>
    have HD := Lib.hid (show r = false from Bool.eq_false_iff.2 (fun h => by have := (hr.1 h).1; cases this))
    clear hr
    go_enter Tryd.func15, Tryd.ntmps15
    go_wp2
    go_ret
    exact ⟨by rw [HD.out]; rfl, HAE.out ▸ HB.out⟩
  | false =>
    have HD := Lib.hid (show r = q by
      cases q with
      | true => exact hr.2 ⟨rfl, rfl⟩
      | false => exact Bool.eq_false_iff.2 (fun h => by have := (hr.1 h).2; cases this))
    clear hr
    go_enter Tryd.func15, Tryd.ntmps15
    go_wp2_with (go_at_call 33; go_loud (refine HCN.out.mono ?_; rintro e w1 ⟨rfl, rfl⟩))
    go_ret
    exact ⟨by rw [HD.out]; simp, HAE.out ▸ HB.out⟩
end Go.Proofs.YtadcgngiofdhcaaDoor
