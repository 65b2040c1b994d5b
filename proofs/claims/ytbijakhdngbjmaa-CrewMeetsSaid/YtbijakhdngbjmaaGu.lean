/- CrewMeets. -/
import Derived.Test.YtbijakhdngbjmaaGq
namespace Go.Proofs.Ytbijakhdngbjmaa
open Go.ChangeShapes Go.WideShapes Go.ChangeAt Go.RowKit Go.Shelf Go.Maps
set_option linter.unusedVariables false
set_option linter.unusedSimpArgs false
set_option maxRecDepth 100000
attribute [local go_sem] Oper.semAt_some

/-- The places up to j. -/
def allI (j : Nat) : List Int := (List.range j).map (fun i : Nat => ((i + 1 : Nat) : Int))
theorem allI_next (j : Nat) : allI (j + 1) = allI j ++ [((j + 1 : Nat) : Int)] := by
  unfold allI
  rw [List.range_succ, List.map_append]
  simp
theorem allI_byte {j : Nat} (hj : j ≤ 12) : ∀ x ∈ allI j, 0 ≤ x ∧ x < 256 := fun x hx => by
  obtain ⟨i, hi, rfl⟩ := List.mem_map.1 hx
  have := List.mem_range.1 hi
  omega
/-- A bit of a number. -/
def bitN (x i : Nat) : Bool := decide (x / 2 ^ i % 2 = 1)
/-- A member's super, of n, with j of them in. -/
def meetP (N i j : Nat) (bo : Int) : SU := ⟨List.replicate 8 0, ((i + 1 : Nat) : Int), (N : Int), 1, 0, 0, 4, bo, 0, innL (allI j), 0, 0, 0, 0⟩
theorem meetP_wf {N i j : Nat} {bo : Int} (hN : N ≤ 12) (hi : i < 12) (hb : u32I bo) : (meetP N i j bo).Wf :=
  ⟨⟨rfl, fun x hx => by rw [(List.mem_replicate.1 hx).2]; omega⟩, ⟨by show (0 : Int) ≤ ((i + 1 : Nat) : Int); omega, by show ((i + 1 : Nat) : Int) < 256; omega⟩, ⟨by show (0 : Int) ≤ (N : Int); omega, by show (N : Int) < 256; omega⟩, ⟨by show (0 : Int) ≤ 1; omega, by show (1 : Int) < 256; omega⟩, byte0, byte0, ⟨by show (0 : Int) ≤ 4; omega, by show (4 : Int) < 4294967296; omega⟩, hb, u320, innL_len _, u320, u320, byte0, u320⟩
def metBo (o i : Nat) (bo : Int) : Int := if bitN o i = true then bo + 1 else bo
/-- The supers of the second crew, of the first k members. -/
def meetL (N o t : Nat) (bo : Int) : Nat → List SU
  | 0 => []
  | k + 1 => if bitN t k = true then meetL N o t bo k ++ [meetP N k N (metBo o k bo)] else meetL N o t bo k
def cntB (x : Nat) : Nat → Nat
  | 0 => 0
  | k + 1 => if bitN x k = true then cntB x k + 1 else cntB x k
theorem cntB_le (x : Nat) : ∀ k, cntB x k ≤ k
  | 0 => Nat.le_refl _
  | k + 1 => by
    have := cntB_le x k
    rw [cntB]
    split <;> omega
theorem meetL_len (N o t : Nat) (bo : Int) : ∀ k, (meetL N o t bo k).length = cntB t k
  | 0 => rfl
  | k + 1 => by
    have := meetL_len N o t bo k
    rw [meetL, cntB]
    split
    · rw [List.length_append, this]; rfl
    · exact this
theorem meetL_mem {N o t : Nat} {bo : Int} {P : SU} : ∀ {k : Nat}, P ∈ meetL N o t bo k → ∃ i, i < k ∧ bitN t i = true ∧ P = meetP N i N (metBo o i bo)
  | 0, h => by cases h
  | k + 1, h => by
    rw [meetL] at h
    split at h
    case isTrue hb =>
      rcases List.mem_append.1 h with h | h
      · obtain ⟨i, h1, h2⟩ := meetL_mem h
        exact ⟨i, by omega, h2⟩
      · rw [List.mem_singleton] at h
        exact ⟨k, by omega, hb, h⟩
    case isFalse =>
      obtain ⟨i, h1, h2⟩ := meetL_mem h
      exact ⟨i, by omega, h2⟩
theorem meetL_has {N o t : Nat} {bo : Int} {i : Nat} (hb : bitN t i = true) : ∀ {k : Nat}, i < k → meetP N i N (metBo o i bo) ∈ meetL N o t bo k
  | 0, h => by omega
  | k + 1, h => by
    rw [meetL]
    by_cases e : i = k
    · subst e
      rw [if_pos hb]
      exact List.mem_append_right _ (List.mem_singleton.2 rfl)
    · have := meetL_has (N := N) (o := o) (bo := bo) hb (k := k) (by omega)
      split
      · exact List.mem_append_left _ this
      · exact this
theorem meetL_un {N o t : Nat} {bo : Int} : ∀ k, Unlk (meetL N o t bo k)
  | 0 => List.nodup_nil
  | k + 1 => by
    have h := meetL_un (N := N) (o := o) (t := t) (bo := bo) k
    rw [meetL]
    split
    · unfold Unlk at *
      rw [List.map_append, List.nodup_append]
      refine ⟨h, by simp, fun a ha b hb e => ?_⟩
      obtain ⟨P, hP, rfl⟩ := List.mem_map.1 ha
      obtain ⟨i, hi, _, rfl⟩ := meetL_mem hP
      rw [List.map_singleton, List.mem_singleton] at hb
      subst hb
      have e : ((i + 1 : Nat) : Int) = ((k + 1 : Nat) : Int) := e
      omega
    · exact h
theorem meetL_tog {N o t : Nat} {bo : Int} (hN : N ≤ 12) (hb : 0 ≤ bo ∧ bo ≤ 1000) : Tog (meetL N o t bo N) where
  wf P h := by
    obtain ⟨i, hi, _, rfl⟩ := meetL_mem h
    refine meetP_wf hN (by omega) ?_
    unfold metBo u32I
    split <;> omega
  co P h Q k := by
    obtain ⟨i, _, _, rfl⟩ := meetL_mem h
    obtain ⟨j, _, _, rfl⟩ := meetL_mem k
    rfl
  un := meetL_un N
  le := by
    rw [meetL_len]
    have := cntB_le t N
    omega
/-- Two crews of more than half have somebody in common. -/
theorem both_some (o t : Nat) : ∀ k, k < cntB o k + cntB t k → ∃ i, i < k ∧ bitN o i = true ∧ bitN t i = true
  | 0, h => by simp [cntB] at h
  | k + 1, h => by
    rw [cntB, cntB] at h
    by_cases h1 : bitN o k = true
    · by_cases h2 : bitN t k = true
      · exact ⟨k, by omega, h1, h2⟩
      · rw [if_pos h1, if_neg h2] at h
        obtain ⟨i, hi, hx⟩ := both_some o t k (by omega)
        exact ⟨i, by omega, hx⟩
    · rw [if_neg h1] at h
      have : k < cntB o k + cntB t k := by
        split at h <;> omega
      obtain ⟨i, hi, hx⟩ := both_some o t k this
      exact ⟨i, by omega, hx⟩
theorem meet_here {N o t : Nat} {bo : Int} (hN : N ≤ 12) {T : SU} (hT : T.inn = innL (allI N)) (SL : List SU) (hS : ∀ P ∈ SL, ∃ i, i < N ∧ P.p = ((i + 1 : Nat) : Int)) : (hereK T SL SL.length).length = SL.length := by
  unfold hereK
  rw [List.take_of_length_le (Nat.le_refl _), List.length_map]
  congr 1
  rw [List.filter_eq_self]
  intro P hP
  obtain ⟨i, hi, e⟩ := hS P hP
  rw [hT, e, Int.toNat_natCast, innL_get _ (allI_byte hN) (by omega)]
  exact List.mem_map.2 ⟨i, List.mem_range.2 hi, rfl⟩
/-- What Gather tells of the second crew. -/
theorem meet_ga {N o t : Nat} {bo : Int} (hN0 : 1 ≤ N) (hN : N ≤ 12) (hb : 0 ≤ bo ∧ bo ≤ 1000) (hc : 0 < cntB t N) :
    (2 * cntB t N ≤ N → gaI (meetL N o t bo N) = 13) ∧ (N < 2 * cntB t N → gaI (meetL N o t bo N) = 0 ∧ (curL (tabSU (meetL N o t bo N)) (meetL N o t bo N)).length = cntB t N ∧ (N < 2 * cntB o N → (tabSU (meetL N o t bo N)).bo = bo + 1)) := by
  have hl := meetL_len N o t bo N
  have hT := meetL_tog (o := o) (t := t) hN hb
  have hm := tabSU_mem (SL := meetL N o t bo N) (by omega)
  obtain ⟨i, hi, hbt, he⟩ := meetL_mem hm
  have hn : (tabSU (meetL N o t bo N)).n = (N : Int) := by rw [he]; rfl
  have ht : (tabSU (meetL N o t bo N)).t = 1 := by rw [he]; rfl
  have hin : (tabSU (meetL N o t bo N)).inn = innL (allI N) := by rw [he]; rfl
  have hcl : (curL (tabSU (meetL N o t bo N)) (meetL N o t bo N)).length = cntB t N := by
    rw [cur_len hT.un hT.wf, meet_here (o := o) (t := t) (bo := bo) hN hin _ (fun P hP => by obtain ⟨j, hj, _, rfl⟩ := meetL_mem hP; exact ⟨j, hj, rfl⟩), hl]
  unfold gaI
  rw [hn, hl, hcl]
  constructor
  · intro h
    rw [if_neg (by omega)]
  · intro h
    rw [if_pos (by omega)]
    refine ⟨?_, rfl, fun ho => ?_⟩
    · unfold enI
      rw [ht, hn, if_pos ⟨by omega, by omega⟩]
    · obtain ⟨j, hj, h1, h2⟩ := both_some o t N (by omega)
      have hnew := tabSU_new (meetL_has (N := N) (o := o) (bo := bo) h2 hj)
      have e1 : (meetP N j N (metBo o j bo)).bo = bo + 1 := by show metBo o j bo = _; unfold metBo; rw [if_pos h1]
      have e2 : (tabSU (meetL N o t bo N)).bo = bo ∨ (tabSU (meetL N o t bo N)).bo = bo + 1 := by
        rw [he]
        show metBo o i bo = _ ∨ metBo o i bo = _
        unfold metBo
        split
        · exact .inr rfl
        · exact .inl rfl
      unfold asNew at hnew
      rw [e1] at hnew
      omega
end Go.Proofs.Ytbijakhdngbjmaa
