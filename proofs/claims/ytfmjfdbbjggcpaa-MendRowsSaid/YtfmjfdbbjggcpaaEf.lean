/- What the frame tells of rows of bytes and of whole numbers (stage 9). -/
import Derived.Test.YtfmjfdbbjggcpaaIa
namespace Go.Proofs.Ytfmjfdbbjggcpaa
open Go.ChangeShapes Go.WideShapes Go.ChangeAt Go.RowKit Go.Shelf GF
set_option linter.unusedVariables false
set_option linter.unusedSimpArgs false

theorem addr_lit {w : World} {x : Addr} {v : Value} (h : w.cell? (x.add 0) = some v) : ∃ b off, x = ⟨b, off, none⟩ ∧ b < w.heap.size := by
  obtain ⟨b, off, spot⟩ := x
  have hs : spot = none := by simpa [Addr.add] using World.cell?_spot h
  subst hs
  refine ⟨b, off, rfl, ?_⟩
  rcases Nat.lt_or_ge b w.heap.size with hlt | hge
  · exact hlt
  · have : w.cell? ((⟨b, off, none⟩ : Addr).add 0) = none := by simp [World.cell?, Addr.add, Array.getElem?_eq_none hge]
    rw [this] at h; cases h
theorem argMat0 (w : World) : ∃ M, Mat w none 0 0 M := ⟨[], rfl, Nat.le_refl _, Nat.zero_le _, fun _ => rfl, [], RV.nil _ _, fun h => absurd h (by omega)⟩
theorem argMat {w : World} {base : Nat} {x : Addr} {len cap : Nat} {A : Nat → Option Addr} {L C : Nat → Nat} {Z : Nat → List Int} (hl : len ≤ cap) (hm : cap ≤ maxLen)
    (h : ∀ r, r < cap → w.cell? (x.add r) = some (.slice (A r) (L r) (C r)) ∧ L r ≤ C r ∧ C r ≤ maxLen ∧ (Z r).length = C r ∧ (∀ n ∈ Z r, (Lit.int .u8 n).wf = true) ∧ (A r = none → C r = 0) ∧
        ∀ a', A r = some a' → base ≤ a'.block ∧ ∀ c, c < C r → w.cell? (a'.add c) = some (.int .u8 ((Z r).getD c 0))) : ∃ M, Mat w (some x) len cap M := by
  have hrow : ∀ i, i < len → rw_ ((List.range len).map fun r => gL ((Z r).take (L r))) i = gL ((Z i).take (L i)) := fun i hi => by
    unfold rw_; simp [List.getD_eq_getElem?_getD, hi]
  have hall : ∀ i, i < len → AllB ((Z i).take (L i)) := fun i hi n hn => by
    have := (h i (by omega)).2.2.2.2.1 n (List.mem_of_mem_take hn)
    have : 0 ≤ n ∧ n ≤ 255 := by simpa [Lit.wf, IntKind.min, IntKind.max, IntKind.signed, IntKind.bits] using this
    omega
  have hlen : ∀ i, i < len → (gL ((Z i).take (L i))).length = L i := fun i hi => by
    obtain ⟨_, h2, _, h4, _⟩ := h i (by omega)
    have e := congrArg List.length (iL_gL (hall i hi))
    rw [length_iL] at e
    rw [e, List.length_take, h4]; omega
  refine ⟨(List.range len).map fun r => gL ((Z r).take (L r)), by simp, hl, hm, (fun e => by cases e), (List.range len).map fun r => .slice (A r) (L r) (C r), ⟨by simp, fun i hi => ?_⟩, fun h0 => ?_⟩
  · have hi : i < len := by simpa using hi
    obtain ⟨h1, h2, h3, h4, h5, h6, h7⟩ := h i (by omega)
    rw [hrow i hi, hlen i hi]
    refine ⟨A i, C i, by simp [hi], h2, h3, h6, fun hp => ?_⟩
    cases hA : A i with
    | none => have := h6 hA; omega
    | some a' =>
      obtain ⟨_, hc⟩ := h7 a' hA
      obtain ⟨b, off, rfl, hb⟩ := addr_lit (hc 0 (by omega))
      refine ⟨b, off, rfl, hb, trivial, fun j hj => ?_⟩
      have := hc j (by omega)
      rw [Addr.add_lit] at this
      rw [this]
      congr 2
      rw [← getD_iL, iL_gL (hall i hi)]
      simp [List.getD_eq_getElem?_getD, List.getElem?_take, hj]
  · obtain ⟨b, off, rfl, hb⟩ := addr_lit (h 0 (by omega)).1
    refine ⟨b, off, rfl, hb, fun i hi => ?_⟩
    have := (h i (by omega)).1
    rw [Addr.add_lit] at this
    rw [this]
    simp [hi]
theorem argIA {w : World} {a : Option Addr} {len cap : Nat} {zs : List Int} (h : (a = none ∧ len = 0 ∧ cap = 0 ∧ zs = []) ∨
    ∃ x, a = some x ∧ len ≤ cap ∧ cap ≤ maxLen ∧ zs.length = cap ∧ (∀ i, i < zs.length → w.cell? (x.add i) = some (.int .i64 (zs.getD i 0))) ∧ ∀ n ∈ zs, (Lit.int .i64 n).wf = true) :
    ∃ l, IA w a len cap l := by
  rcases h with ⟨rfl, rfl, rfl, rfl⟩ | ⟨x, rfl, hl, hm, hz, hc, hw⟩
  · exact ⟨[], rfl, Nat.le_refl _, Nat.zero_le _, fun _ => rfl, fun i => by simp, fun h => absurd h (by omega)⟩
  · refine ⟨zs.take len, by simp [hz, hl], hl, hm, (fun e => by cases e), fun i => ?_, fun h0 => ?_⟩
    · by_cases hi : i < (zs.take len).length
      · have e : (zs.take len).getD i 0 = (zs.take len)[i] := by simp [List.getD_eq_getElem?_getD, List.getElem?_eq_getElem hi]
        rw [e]
        have := hw _ (List.mem_of_mem_take (List.getElem_mem hi))
        have : -9223372036854775808 ≤ (zs.take len)[i] ∧ (zs.take len)[i] ≤ 9223372036854775807 := by simpa [Lit.wf, IntKind.min, IntKind.max, IntKind.signed, IntKind.bits] using this
        exact this
      · have e : (zs.take len).getD i 0 = 0 := by rw [List.getD_eq_getElem?_getD, List.getElem?_eq_none (Nat.le_of_not_lt hi)]; rfl
        rw [e]; omega
    · obtain ⟨b, off, rfl, hb⟩ := addr_lit (hc 0 (by omega))
      refine ⟨b, off, rfl, hb, fun i hi => ?_⟩
      have := hc i (by omega)
      rw [Addr.add_lit] at this
      rw [this]
      simp [List.getD_eq_getElem?_getD, List.getElem?_take, hi]
end Go.Proofs.Ytfmjfdbbjggcpaa
