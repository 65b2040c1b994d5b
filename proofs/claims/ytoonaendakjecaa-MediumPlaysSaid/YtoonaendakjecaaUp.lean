/- The document's medium, plain: its list of events held against a medium. No program is named here. -/
import Derived.Test.YtoonaendakjecaaUb
namespace Go.Proofs.Ytoonaendakjecaa
open Go.ChangeShapes Go.WideShapes Go.ChangeAt Go.RowKit Go.Shelf
set_option linter.unusedVariables false
set_option linter.unusedSimpArgs false

/-- An event: its sector, its bytes, whether it is sure. -/
abbrev EV := Nat × List Int × Bool
def evV (x : EV) : List Value := [.int .i64 (x.1 : Nat), .string (strOfNums x.2.1), .bool x.2.2]
def evC : List EV → List Value
  | [] => []
  | x :: r => evV x ++ evC r
theorem evC_append (a b : List EV) : evC (a ++ b) = evC a ++ evC b := by
  induction a with
  | nil => rfl
  | cons x r ih => rw [List.cons_append, evC, ih, evC, List.append_assoc]
theorem evC_len (l : List EV) : (evC l).length = l.length * 3 := by
  induction l with
  | nil => rfl
  | cons x r ih => rw [evC, List.length_append, ih, List.length_cons]; show 3 + r.length * 3 = _; omega
theorem evC_one (x : EV) : evC [x] = evV x := by simp [evC]
theorem evC_get : ∀ (L : List EV) (k : Nat) (x : EV), L[k]? = some x → (evC L)[k * 3]? = some (.int .i64 (x.1 : Nat)) ∧ (evC L)[k * 3 + 1]? = some (.string (strOfNums x.2.1)) ∧ (evC L)[k * 3 + 2]? = some (.bool x.2.2)
  | [], _, _, h => by simp at h
  | y :: L, 0, x, h => by simp at h; subst h; exact ⟨rfl, rfl, rfl⟩
  | y :: L, k + 1, x, h => by
    have := evC_get L k x (by simpa using h)
    rw [show (k + 1) * 3 = k * 3 + 1 + 1 + 1 by omega]
    exact this
theorem ev_one (x : EV) : ∀ u ∈ evV x, u.oneCell' = true := fun u hu => by
  rcases List.mem_cons.1 hu with rfl | hu
  · rfl
  · rcases List.mem_cons.1 hu with rfl | hu
    · rfl
    · rw [List.mem_singleton.1 hu]; rfl
theorem evC_ones : ∀ (L : List EV), ∀ u ∈ evC L, u.oneCell' = true
  | [], u, h => by cases h
  | x :: r, u, h => by
    rw [evC, List.mem_append] at h
    rcases h with h | h
    · exact ev_one x u h
    · exact evC_ones r u h
def isSure (x : EV) : Bool := x.2.2
def cwE (x : EV) : CW := (x.1, x.2.1)
def cacE (L : List EV) : List CW := (L.filter fun x => !isSure x).map cwE
def surE (L : List EV) : List CW := (L.filter isSure).map cwE
theorem cacE_app (a b : List EV) : cacE (a ++ b) = cacE a ++ cacE b := by simp [cacE]
theorem surE_app (a b : List EV) : surE (a ++ b) = surE a ++ surE b := by simp [surE]
theorem lastW_app (a b : List CW) (i : Nat) : lastW (a ++ b) i = match lastW b i with | some x => some x | none => lastW a i := by
  induction a with
  | nil => rw [List.nil_append]; cases lastW b i <;> rfl
  | cons y a ih =>
    rw [List.cons_append, lastW, ih, lastW]
    cases lastW b i with
    | some x => rfl
    | none => rfl
/-- What the document's Last tells of a sector's bytes. -/
def lastE (L : List EV) (i : Nat) (sure : Bool) : List Int :=
  match (if sure then none else lastW (cacE L) i) with
  | some b => b
  | none => (lastW (surE L) i).getD zsec
def medE (L : List EV) (i : Nat) : Option (List Int) := if lastE L i true = [] then none else some (lastE L i true)
/-- The events tell the medium. -/
structure Sim (S : MS) (L : List EV) : Prop where
  cache : cacE L = S.cache
  med : ∀ i, medE L i = S.med i
  data : ∀ x, x ∈ L → AllB x.2.1 ∧ (x.2.2 = false → x.2.1.length = 512)
theorem Sim.new (n : Nat) : Sim (MS.new n) [] := ⟨rfl, fun i => by show (if zsec = [] then none else some zsec) = some zsec; rw [if_neg (by intro h; have := congrArg List.length h; rw [zsec_len] at this; cases this)], fun x h => by cases h⟩
theorem Sim.last {S : MS} {L : List EV} (h : Sim S L) (i : Nat) : (lastE L i false = [] ∧ S.shows i = none) ∨ (lastE L i false ≠ [] ∧ S.shows i = some (lastE L i false)) := by
  unfold MS.shows
  rw [← h.cache, ← h.med]
  unfold medE lastE
  simp only [Bool.false_eq_true, if_false, if_true]
  cases e : lastW (cacE L) i with
  | some b =>
    right
    refine ⟨fun hb => ?_, rfl⟩
    have hm := lastW_mem _ e
    unfold cacE at hm
    obtain ⟨x, hx, hxe⟩ := List.mem_map.1 hm
    obtain ⟨hxL, hxs⟩ := List.mem_filter.1 hx
    have := (h.data x hxL).2 (by unfold isSure at hxs; simpa using hxs)
    have e2 : x.2.1 = b := congrArg Prod.snd hxe
    rw [e2] at this
    rw [show b = [] from hb] at this
    cases this
  | none =>
    by_cases hz : (lastW (surE L) i).getD zsec = []
    · left; exact ⟨hz, by rw [if_pos hz]⟩
    · right; exact ⟨hz, by rw [if_neg hz]⟩
theorem Sim.medTrue {S : MS} {L : List EV} (h : Sim S L) (i : Nat) : (lastE L i true = [] ∧ S.med i = none) ∨ (lastE L i true ≠ [] ∧ S.med i = some (lastE L i true)) := by
  rw [← h.med]
  unfold medE
  by_cases hz : lastE L i true = []
  · left; exact ⟨hz, by rw [if_pos hz]⟩
  · right; exact ⟨hz, by rw [if_neg hz]⟩
theorem lastE_B {S : MS} {L : List EV} (h : Sim S L) (i : Nat) (s : Bool) : AllB (lastE L i s) := by
  have hc : ∀ {c : List CW} {b : List Int}, (∀ x, x ∈ c → AllB x.2) → lastW c i = some b → AllB b := fun hh e => hh _ (lastW_mem _ e)
  have h1 : ∀ x, x ∈ surE L → AllB x.2 := fun x hx => by
    obtain ⟨y, hy, rfl⟩ := List.mem_map.1 hx
    exact (h.data y (List.mem_filter.1 hy).1).1
  have h2 : ∀ x, x ∈ cacE L → AllB x.2 := fun x hx => by
    obtain ⟨y, hy, rfl⟩ := List.mem_map.1 hx
    exact (h.data y (List.mem_filter.1 hy).1).1
  have h3 : AllB ((lastW (surE L) i).getD zsec) := by
    cases e : lastW (surE L) i with
    | some b => exact hc h1 e
    | none => exact zsec_B
  unfold lastE
  cases s
  · simp only [Bool.false_eq_true, if_false]
    cases e : lastW (cacE L) i with
    | some b => exact hc h2 e
    | none => exact h3
  · exact h3
theorem Sim.write {S : MS} {L : List EV} (h : Sim S L) (i : Nat) {b : List Int} (hb : secOk b) : Sim (S.write i b) (L ++ [(i, b, false)]) := by
  refine ⟨?_, fun j => ?_, fun x hx => ?_⟩
  · rw [cacE_app, h.cache]; rfl
  · show medE _ j = S.med j
    rw [← h.med]
    unfold medE lastE
    rw [surE_app, show surE [(i, b, false)] = [] from rfl, List.append_nil]
    rfl
  · rcases List.mem_append.1 hx with hx | hx
    · exact h.data x hx
    · rw [List.mem_singleton.1 hx]; exact ⟨hb.2, fun _ => hb.1⟩
def lateE (c : List CW) : List EV := c.map fun x => (x.1, x.2, true)
theorem cacE_late (c : List CW) : cacE (lateE c) = [] := by
  unfold cacE lateE
  rw [List.filter_map]
  simp [Function.comp_def, isSure]
theorem surE_late (c : List CW) : surE (lateE c) = c := by
  unfold surE lateE
  rw [List.filter_map]
  simp [Function.comp_def, isSure, cwE]
theorem cacE_sure (L : List EV) : cacE (L.filter isSure) = [] := by
  unfold cacE
  rw [List.filter_filter]
  simp
theorem surE_sure (L : List EV) : surE (L.filter isSure) = surE L := by
  unfold surE
  rw [List.filter_filter]
  simp
/-- Behind a crash, or a flush: some of the unsure ones are sure. -/
theorem Sim.late {S : MS} {L : List EV} (h : Sim S L) (hok : S.Ok) {c : List CW} (hc : ∀ x, x ∈ c → x ∈ S.cache) (S' : MS) (h1 : S'.cache = []) (h2 : S'.med = applyW S.med c) : Sim S' (L.filter isSure ++ lateE c) := by
  refine ⟨by rw [cacE_app, cacE_sure, cacE_late, h1]; rfl, fun i => ?_, fun x hx => ?_⟩
  · rw [h2, applyW_some]
    have e1 : lastE (L.filter isSure ++ lateE c) i true = match lastW c i with | some b => b | none => lastE L i true := by
      unfold lastE
      simp only [if_true]
      rw [surE_app, surE_sure, surE_late, lastW_app]
      cases lastW c i <;> rfl
    unfold medE
    rw [e1]
    cases e : lastW c i with
    | some b =>
      have := (hok.cache _ (hc _ (lastW_mem _ e))).2.1
      show (if b = [] then none else some b) = some b
      rw [if_neg (fun hb => by rw [hb] at this; cases this)]
    | none => exact h.med i
  · rcases List.mem_append.1 hx with hx | hx
    · exact h.data x (List.mem_filter.1 hx).1
    · obtain ⟨y, hy, rfl⟩ := List.mem_map.1 hx
      exact ⟨(hok.cache y (hc y hy)).2.2, fun hf => by cases hf⟩
theorem Sim.crash {S : MS} {L : List EV} (h : Sim S L) (hok : S.Ok) (k : List Bool) : Sim (S.crash k) (L.filter isSure ++ lateE (keptW (cacE L) k)) := by
  rw [h.cache]
  exact h.late hok (fun x hx => keptW_sub _ _ hx) _ rfl rfl
theorem Sim.flush {S : MS} {L : List EV} (h : Sim S L) (hok : S.Ok) : Sim S.flush (L.filter isSure ++ lateE (cacE L)) := by
  rw [h.cache]
  exact h.late hok (fun x hx => hx) _ rfl rfl
theorem Sim.fail {S : MS} {L : List EV} (h : Sim S L) (hok : S.Ok) : Sim S.fail (L.filter isSure ++ lateE (keptW (cacE L) [])) := by
  rw [keptW_nil]
  exact h.late hok (fun x hx => by cases hx) _ rfl rfl
theorem Sim.back {S : MS} {L : List EV} (h : Sim S L) : Sim S.back L := ⟨h.cache, h.med, h.data⟩
def keepE (i : Nat) (x : EV) : Bool := isSure x || x.1 != i
theorem Sim.set {S : MS} {L : List EV} (h : Sim S L) (i : Nat) {b : List Int} (hb : b = [] ∨ secOk b) : Sim (S.set i (if b = [] then none else some b)) (L.filter (keepE i) ++ [(i, b, true)]) := by
  have hsur : surE (L.filter (keepE i)) = surE L := by
    unfold surE
    rw [List.filter_filter]
    congr 1
    apply List.filter_congr
    intro x _
    unfold keepE
    cases isSure x <;> simp
  have hcac : cacE (L.filter (keepE i)) = (cacE L).filter (fun x => x.1 != i) := by
    unfold cacE
    rw [List.filter_filter, List.filter_map, List.filter_filter]
    congr 1
    apply List.filter_congr
    intro x _
    unfold keepE
    simp only [Function.comp_def, cwE]
    cases isSure x <;> simp
  refine ⟨?_, fun j => ?_, fun x hx => ?_⟩
  · rw [cacE_app, hcac, h.cache, show cacE [(i, b, true)] = [] from rfl, List.append_nil]; rfl
  · have e1 : lastE (L.filter (keepE i) ++ [(i, b, true)]) j true = if j = i then b else lastE L j true := by
      unfold lastE
      simp only [if_true]
      rw [surE_app, hsur, show surE [(i, b, true)] = [(i, b)] from rfl, lastW_append]
      by_cases e : i = j
      · subst e; simp
      · rw [if_neg e, if_neg (Ne.symm e)]
    unfold medE
    rw [e1]
    show _ = if j = i then (if b = [] then none else some b) else S.med j
    by_cases e : j = i
    · rw [if_pos e, if_pos e]
    · rw [if_neg e, if_neg e]; exact h.med j
  · rcases List.mem_append.1 hx with hx | hx
    · exact h.data x (List.mem_filter.1 hx).1
    · rw [List.mem_singleton.1 hx]
      refine ⟨?_, fun hf => by cases hf⟩
      rcases hb with rfl | hb
      · exact fun y hy => by cases hy
      · exact hb.2
theorem strOf_nil {l : List Int} (h : (strOfNums l).toList = []) : l = [] := by
  rw [Lib.strOfNums_toList] at h
  cases l with
  | nil => rfl
  | cons x l => simp [Lib.bytesOf] at h
end Go.Proofs.Ytoonaendakjecaa
