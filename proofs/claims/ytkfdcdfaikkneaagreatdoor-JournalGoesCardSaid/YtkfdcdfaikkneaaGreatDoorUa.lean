/- Media, plain: a medium as functions; the document's list of events held against it. No program is named here. -/
import Derived.Test.YtkfdcdfaikkneaaGreatDoorDG
namespace Go.Proofs.YtkfdcdfaikkneaaGreatDoor
open Go.ChangeShapes Go.WideShapes Go.ChangeAt Go.RowKit Go.Shelf
set_option linter.unusedVariables false
set_option linter.unusedSimpArgs false

/-! ## a medium -/
def zsec : List Int := List.replicate 512 0
theorem zsec_len : zsec.length = 512 := List.length_replicate
theorem zsec_B : AllB zsec := fun x hx => by obtain ⟨_, rfl⟩ := List.mem_replicate.1 hx; omega
/-- A write in the cache: its sector, its bytes. -/
abbrev CW := Nat × List Int
structure MS where
  size : Nat
  med : Nat → Option (List Int)
  cache : List CW
  down : Bool
def MS.new (n : Nat) : MS := ⟨n, fun _ => some zsec, [], false⟩
def lastW : List CW → Nat → Option (List Int)
  | [], _ => none
  | x :: c, i => match lastW c i with
    | some b => some b
    | none => if x.1 = i then some x.2 else none
def applyW : (Nat → Option (List Int)) → List CW → Nat → Option (List Int)
  | m, [] => m
  | m, x :: c => applyW (fun i => if i = x.1 then some x.2 else m i) c
def keptW : List CW → List Bool → List CW
  | [], _ => []
  | _ :: _, [] => []
  | x :: c, b :: k => if b then x :: keptW c k else keptW c k
def MS.shows (S : MS) (i : Nat) : Option (List Int) := match lastW S.cache i with
  | some b => some b
  | none => S.med i
def MS.flush (S : MS) : MS := ⟨S.size, applyW S.med S.cache, [], S.down⟩
def MS.crash (S : MS) (k : List Bool) : MS := ⟨S.size, applyW S.med (keptW S.cache k), [], S.down⟩
def MS.fail (S : MS) : MS := ⟨S.size, S.med, [], true⟩
def MS.back (S : MS) : MS := ⟨S.size, S.med, S.cache, false⟩
def MS.set (S : MS) (i : Nat) (v : Option (List Int)) : MS := ⟨S.size, fun j => if j = i then v else S.med j, S.cache.filter (fun x => x.1 != i), S.down⟩
def MS.write (S : MS) (i : Nat) (b : List Int) : MS := ⟨S.size, S.med, S.cache ++ [(i, b)], S.down⟩
def secOk (b : List Int) : Prop := b.length = 512 ∧ AllB b
structure MS.Ok (S : MS) : Prop where
  med : ∀ i b, S.med i = some b → secOk b
  cache : ∀ x, x ∈ S.cache → x.1 < S.size ∧ secOk x.2
  size1 : 1 ≤ S.size
  size2 : S.size ≤ 2048
theorem zsec_ok : secOk zsec := ⟨zsec_len, zsec_B⟩
theorem MS.new_ok {n : Nat} (h1 : 1 ≤ n) (h2 : n ≤ 2048) : (MS.new n).Ok := ⟨fun i b h => by cases h; exact zsec_ok, fun x h => (by cases h), h1, h2⟩
theorem applyW_some : ∀ (c : List CW) (m : Nat → Option (List Int)) (i : Nat), applyW m c i = match lastW c i with | some b => some b | none => m i
  | [], m, i => rfl
  | x :: c, m, i => by
    rw [applyW, applyW_some c, lastW]
    cases h : lastW c i with
    | some b => rfl
    | none =>
      by_cases e : x.1 = i
      · simp [e]
      · simp [e, Ne.symm e]
theorem MS.flush_med (S : MS) : S.flush.med = S.shows := by funext i; exact applyW_some _ _ _
theorem lastW_mem : ∀ (c : List CW) {i : Nat} {b : List Int}, lastW c i = some b → (i, b) ∈ c
  | x :: c, i, b, h => by
    rw [lastW] at h
    cases hc : lastW c i with
    | some b' => rw [hc] at h; cases h; exact List.mem_cons_of_mem _ (lastW_mem c hc)
    | none =>
      rw [hc] at h
      simp only at h
      by_cases e : x.1 = i
      · rw [if_pos e] at h; cases h; subst e; exact List.mem_cons_self ..
      · rw [if_neg e] at h; cases h
theorem lastW_none : ∀ (c : List CW) {i : Nat}, lastW c i = none → ∀ x, x ∈ c → x.1 ≠ i
  | x :: c, i, h, y, hy => by
    rw [lastW] at h
    cases hc : lastW c i with
    | some b' => rw [hc] at h; cases h
    | none =>
      rw [hc] at h
      simp only at h
      rcases List.mem_cons.1 hy with rfl | hy
      · intro e; rw [if_pos e] at h; cases h
      · exact lastW_none c hc y hy
theorem lastW_append (c : List CW) (x : CW) (i : Nat) : lastW (c ++ [x]) i = if x.1 = i then some x.2 else lastW c i := by
  induction c with
  | nil => rw [List.nil_append, lastW, lastW, lastW]
  | cons y c ih =>
    rw [List.cons_append, lastW, ih, lastW]
    by_cases e : x.1 = i
    · simp [e]
    · simp [e]
theorem keptW_sub : ∀ (c : List CW) (k : List Bool) {x : CW}, x ∈ keptW c k → x ∈ c
  | [], _, _, h => by cases h
  | _ :: _, [], _, h => by cases h
  | y :: c, b :: k, x, h => by
    rw [keptW] at h
    cases b
    · exact List.mem_cons_of_mem _ (keptW_sub c k (by simpa using h))
    · rcases List.mem_cons.1 (show x ∈ y :: keptW c k from by simpa using h) with rfl | h
      · exact List.mem_cons_self ..
      · exact List.mem_cons_of_mem _ (keptW_sub c k h)
theorem keptW_all : ∀ (c : List CW) (n : Nat), c.length ≤ n → keptW c (List.replicate n true) = c
  | [], _, _ => rfl
  | x :: c, 0, h => by simp at h
  | x :: c, n + 1, h => by rw [List.replicate_succ, keptW, keptW_all c n (by simpa using h)]; rfl
theorem keptW_nil (c : List CW) : keptW c [] = [] := by cases c <;> rfl
/-- Kept one by one: what stands at a place of the cache stays if the place of keep says so. -/
theorem keptW_take : ∀ (c : List CW) (k : List Bool) (n : Nat) (h : n < c.length), keptW (c.take (n + 1)) k = if k.getD n false = true then keptW (c.take n) k ++ [c[n]] else keptW (c.take n) k
  | [], _, _, h => by simp at h
  | x :: c, [], n, h => by simp [keptW_nil]
  | x :: c, b :: k, 0, h => by cases b <;> simp [keptW]
  | x :: c, b :: k, n + 1, h => by
    have ih := keptW_take c k n (by simpa using h)
    rw [List.take_succ_cons, List.take_succ_cons, keptW, keptW, ih, List.getElem_cons_succ]
    have e : (b :: k).getD (n + 1) false = k.getD n false := by simp [List.getD_eq_getElem?_getD]
    rw [e]
    by_cases hk : k.getD n false = true
    · rw [if_pos hk, if_pos hk]; cases b <;> rfl
    · rw [if_neg hk, if_neg hk]
theorem applyW_append : ∀ (c d : List CW) (m : Nat → Option (List Int)), applyW m (c ++ d) = applyW (applyW m c) d
  | [], d, m => rfl
  | x :: c, d, m => by rw [List.cons_append, applyW, applyW, applyW_append c d]
theorem applyW_ok {m : Nat → Option (List Int)} {c : List CW} (hm : ∀ i b, m i = some b → secOk b) (hc : ∀ x, x ∈ c → secOk x.2) : ∀ i b, applyW m c i = some b → secOk b := fun i b h => by
  rw [applyW_some] at h
  cases hl : lastW c i with
  | some b' => rw [hl] at h; cases h; exact hc _ (lastW_mem c hl)
  | none => rw [hl] at h; exact hm i b h
theorem MS.Ok.shows {S : MS} (h : S.Ok) {i : Nat} {b : List Int} (e : S.shows i = some b) : secOk b := by
  rw [← MS.flush_med] at e
  exact applyW_ok h.med (fun x hx => (h.cache x hx).2) i b e
theorem MS.Ok.flush {S : MS} (h : S.Ok) : S.flush.Ok := ⟨applyW_ok h.med (fun x hx => (h.cache x hx).2), fun x hx => (by cases hx), h.size1, h.size2⟩
theorem MS.Ok.crash {S : MS} (h : S.Ok) (k : List Bool) : (S.crash k).Ok := ⟨applyW_ok h.med (fun x hx => (h.cache x (keptW_sub _ _ hx)).2), fun x hx => (by cases hx), h.size1, h.size2⟩
theorem MS.Ok.fail {S : MS} (h : S.Ok) : S.fail.Ok := ⟨h.med, fun x hx => (by cases hx), h.size1, h.size2⟩
theorem MS.Ok.back {S : MS} (h : S.Ok) : S.back.Ok := ⟨h.med, h.cache, h.size1, h.size2⟩
theorem MS.Ok.set {S : MS} (h : S.Ok) (i : Nat) {v : Option (List Int)} (hv : ∀ b, v = some b → secOk b) : (S.set i v).Ok :=
  ⟨fun j b e => by
    change (if j = i then v else S.med j) = some b at e
    by_cases hj : j = i
    · rw [if_pos hj] at e; exact hv b e
    · rw [if_neg hj] at e; exact h.med j b e, fun x hx => h.cache x (List.mem_filter.1 hx).1, h.size1, h.size2⟩
theorem MS.Ok.write {S : MS} (h : S.Ok) {i : Nat} {b : List Int} (hi : i < S.size) (hb : secOk b) : (S.write i b).Ok :=
  ⟨h.med, fun x hx => by
    rcases List.mem_append.1 hx with hx | hx
    · exact h.cache x hx
    · rw [List.mem_singleton.1 hx]; exact ⟨hi, hb⟩, h.size1, h.size2⟩
theorem MS.shows_write (S : MS) (i : Nat) (b : List Int) (j : Nat) : (S.write i b).shows j = if i = j then some b else S.shows j := by
  unfold MS.shows MS.write
  dsimp only
  rw [lastW_append]
  by_cases e : i = j
  · simp [e]
  · simp [e]
theorem MS.shows_crash (S : MS) (k : List Bool) (j : Nat) : (S.crash k).shows j = (match lastW (keptW S.cache k) j with | some b => some b | none => S.med j) := applyW_some _ _ _
/-- What a snapshot tells. -/
def medL : Option (List Int) → List Int
  | none => 1 :: zsec
  | some b => 0 :: b
def cacL (x : CW) : List Int := ((x.1 / 256 : Nat) : Int) :: ((x.1 % 256 : Nat) : Int) :: x.2
def snapM (S : MS) : List Int := (List.range S.size).flatMap (fun i => medL (S.med i)) ++ S.cache.flatMap cacL
theorem allB_cons {x : Int} {l : List Int} (hx : 0 ≤ x ∧ x < 256) (hl : AllB l) : AllB (x :: l) := fun y hy => by
  rcases List.mem_cons.1 hy with rfl | hy
  · exact hx
  · exact hl y hy
theorem allB_app {l m : List Int} (hl : AllB l) (hm : AllB m) : AllB (l ++ m) := fun y hy => by
  rcases List.mem_append.1 hy with h | h
  · exact hl y h
  · exact hm y h
theorem allB_medL {o : Option (List Int)} (h : ∀ b, o = some b → secOk b) : AllB (medL o) := by
  cases o with
  | none => exact allB_cons (by omega) zsec_B
  | some b => exact allB_cons (by omega) (h b rfl).2
theorem allB_cacL {x : CW} (h1 : x.1 < 65536) (h2 : secOk x.2) : AllB (cacL x) := allB_cons (by omega) (allB_cons (by omega) h2.2)
theorem snapM_B {S : MS} (h : S.Ok) : AllB (snapM S) := by
  refine allB_app (fun y hy => ?_) (fun y hy => ?_)
  · obtain ⟨i, _, hi⟩ := List.mem_flatMap.1 hy
    exact allB_medL (h.med i) y hi
  · obtain ⟨x, hx, hi⟩ := List.mem_flatMap.1 hy
    exact allB_cacL (by have := (h.cache x hx).1; have := h.size2; omega) (h.cache x hx).2 y hi
theorem flatMap_len {α : Type} (f : α → List Int) (n : Nat) : ∀ (l : List α), (∀ x, x ∈ l → (f x).length = n) → (l.flatMap f).length = l.length * n
  | [], _ => by simp
  | x :: l, h => by
    rw [List.flatMap_cons, List.length_append, h x (List.mem_cons_self ..), flatMap_len f n l (fun y hy => h y (List.mem_cons_of_mem _ hy)), List.length_cons, Nat.succ_mul, Nat.add_comm]
theorem snapM_len {S : MS} (h : S.Ok) : (snapM S).length = S.size * 513 + S.cache.length * 514 := by
  unfold snapM
  rw [List.length_append, flatMap_len _ 513, flatMap_len _ 514, List.length_range]
  · intro x hx; simp [cacL, (h.cache x hx).2.1]
  · intro i _
    cases e : S.med i with
    | none => simp [medL, zsec_len]
    | some b => simp [medL, (h.med i b e).1]

/-! ## the law's sectors, acts -/
def secL (x : Int) (n : Nat) : List Int := (List.range n).map fun i => (x + (i % 3 : Nat)) % 256
theorem secL_len (x : Int) (n : Nat) : (secL x n).length = n := by simp [secL]
theorem secL_B (x : Int) (n : Nat) : AllB (secL x n) := fun y hy => by
  obtain ⟨i, _, rfl⟩ := List.mem_map.1 hy; omega
theorem secL_getD {x : Int} {n i : Nat} (h : i < n) : (secL x n).getD i 0 = (x + (i % 3 : Nat)) % 256 := by simp [secL, List.getD_eq_getElem?_getD, h]
def secN (x : Int) : Nat := if x < 0 then 511 else 512
def secX (x : Int) : List Int := secL x (secN x)
theorem secX_len (x : Int) : (secX x).length = secN x := secL_len _ _
theorem secX_B (x : Int) : AllB (secX x) := secL_B _ _
theorem secX_ok {x : Int} (h : ¬ x < 0) : secOk (secX x) := ⟨by rw [secX_len, secN, if_neg h], secX_B x⟩
/-- An act. -/
structure AC where
  kind : Int
  at_ : Int
  x : Int
  ka : Option Addr
  kn : Nat
  kc : Nat
  keep : List Bool
def spendL (l : Int) : Int := if 0 < l then l - 1 else l
/-- What an act answers, and how all stands behind it. pp: is there a power? -/
structure DS where
  out : List Int
  err : Int
  S : MS
  l : Int
  u : Nat
def usedN (pp : Bool) (u : Nat) : Nat := if pp then u + 1 else u
def inR (S : MS) (i : Int) : Prop := 0 ≤ i ∧ i < (S.size : Int)
instance (S : MS) (i : Int) : Decidable (inR S i) := by unfold inR; infer_instance
def opWrite (pp : Bool) (S : MS) (i : Int) (b : List Int) (l : Int) (u : Nat) : DS :=
  if S.down = true then ⟨[], 9, S, l, u⟩ else if ¬ inR S i then ⟨[], 2, S, l, u⟩ else if b.length ≠ 512 then ⟨[], 3, S, l, u⟩ else if l = 0 then ⟨[], 9, S, l, u⟩
  else ⟨[], 0, S.write i.toNat b, spendL l, usedN pp u⟩
def opRead (S : MS) (i : Int) (l : Int) (u : Nat) : DS :=
  if S.down = true ∨ l = 0 then ⟨[], 9, S, l, u⟩ else if ¬ inR S i then ⟨[], 2, S, l, u⟩
  else match S.shows i.toNat with
    | none => ⟨[], 10, S, l, u⟩
    | some b => ⟨b, 0, S, l, u⟩
def opFlush (pp : Bool) (S : MS) (l : Int) (u : Nat) : DS :=
  if S.down = true ∨ l = 0 then ⟨[], 9, S, l, u⟩ else ⟨[], 0, S.flush, spendL l, usedN pp u⟩
def opLose (S : MS) (i : Int) (l : Int) (u : Nat) : DS :=
  if ¬ inR S i then ⟨[], 2, S, l, u⟩ else ⟨[], 0, S.set i.toNat none, l, u⟩
def opSpoil (S : MS) (i : Int) (b : List Int) (l : Int) (u : Nat) : DS :=
  if ¬ inR S i then ⟨[], 2, S, l, u⟩ else if b.length ≠ 512 then ⟨[], 3, S, l, u⟩ else ⟨[], 0, S.set i.toNat (some b), l, u⟩
def doS (pp : Bool) (a : AC) (S : MS) (l : Int) (u : Nat) : DS :=
  if a.kind = 0 then opWrite pp S a.at_ (secX a.x) l u
  else if a.kind = 1 then opRead S a.at_ l u
  else if a.kind = 2 then opFlush pp S l u
  else if a.kind = 3 then ⟨[], 0, S.crash a.keep, l, u⟩
  else if a.kind = 4 then ⟨[], 0, S.fail, l, u⟩
  else if a.kind = 5 then ⟨[], 0, S.back, l, u⟩
  else if a.kind = 6 then opLose S a.at_ l u
  else if a.kind = 7 then opSpoil S a.at_ (secX a.x) l u
  else if a.kind = 8 then ⟨[], 0, S, if pp then max a.x (-1) else l, u⟩
  else ⟨[], 0, S, l, u⟩
theorem secX_ok' {x : Int} (h : ¬ (secX x).length ≠ 512) : secOk (secX x) := ⟨Classical.not_not.1 h, secX_B x⟩
/-- Act by act. -/
theorem doS_ind {pp : Bool} {a : AC} {S : MS} {l : Int} {u : Nat} {Q : DS → Prop} (h0 : Q (opWrite pp S a.at_ (secX a.x) l u)) (h1 : Q (opRead S a.at_ l u)) (h2 : Q (opFlush pp S l u)) (h3 : Q ⟨[], 0, S.crash a.keep, l, u⟩) (h4 : Q ⟨[], 0, S.fail, l, u⟩) (h5 : Q ⟨[], 0, S.back, l, u⟩)
    (h6 : Q (opLose S a.at_ l u)) (h7 : Q (opSpoil S a.at_ (secX a.x) l u)) (h8 : Q ⟨[], 0, S, if pp then max a.x (-1) else l, u⟩) (h9 : Q ⟨[], 0, S, l, u⟩) : Q (doS pp a S l u) := by
  unfold doS
  split
  · exact h0
  · split
    · exact h1
    · split
      · exact h2
      · split
        · exact h3
        · split
          · exact h4
          · split
            · exact h5
            · split
              · exact h6
              · split
                · exact h7
                · split
                  · exact h8
                  · exact h9
theorem opWrite_ind {pp : Bool} {S : MS} {i : Int} {b : List Int} {l : Int} {u : Nat} {Q : DS → Prop} (hr : ∀ e, Q ⟨[], e, S, l, u⟩) (hk : inR S i → b.length = 512 → Q ⟨[], 0, S.write i.toNat b, spendL l, usedN pp u⟩) : Q (opWrite pp S i b l u) := by
  unfold opWrite
  split
  · exact hr _
  · split
    · exact hr _
    · split
      · exact hr _
      · split
        · exact hr _
        · rename_i h1 h2 _; exact hk (Classical.not_not.1 h1) (Classical.not_not.1 h2)
theorem opRead_ind {S : MS} {i : Int} {l : Int} {u : Nat} {Q : DS → Prop} (hr : ∀ e, Q ⟨[], e, S, l, u⟩) (hk : ∀ b, S.shows i.toNat = some b → Q ⟨b, 0, S, l, u⟩) : Q (opRead S i l u) := by
  unfold opRead
  split
  · exact hr _
  · split
    · exact hr _
    · split
      · exact hr _
      · exact hk _ (by assumption)
theorem opFlush_ind {pp : Bool} {S : MS} {l : Int} {u : Nat} {Q : DS → Prop} (hr : ∀ e, Q ⟨[], e, S, l, u⟩) (hk : Q ⟨[], 0, S.flush, spendL l, usedN pp u⟩) : Q (opFlush pp S l u) := by
  unfold opFlush
  split
  · exact hr _
  · exact hk
theorem opLose_ind {S : MS} {i : Int} {l : Int} {u : Nat} {Q : DS → Prop} (hr : ∀ e, Q ⟨[], e, S, l, u⟩) (hk : Q ⟨[], 0, S.set i.toNat none, l, u⟩) : Q (opLose S i l u) := by
  unfold opLose
  split
  · exact hr _
  · exact hk
theorem opSpoil_ind {S : MS} {i : Int} {b : List Int} {l : Int} {u : Nat} {Q : DS → Prop} (hr : ∀ e, Q ⟨[], e, S, l, u⟩) (hk : b.length = 512 → Q ⟨[], 0, S.set i.toNat (some b), l, u⟩) : Q (opSpoil S i b l u) := by
  unfold opSpoil
  split
  · exact hr _
  · split
    · exact hr _
    · rename_i h1; exact hk (Classical.not_not.1 h1)
theorem opWrite_ok (pp : Bool) {S : MS} (h : S.Ok) (i : Int) {b : List Int} (hb : AllB b) (l : Int) (u : Nat) : (opWrite pp S i b l u).S.Ok :=
  opWrite_ind (Q := fun D => D.S.Ok) (fun _ => h) (fun h1 h2 => h.write (by unfold inR at h1; omega) ⟨h2, hb⟩)
theorem opRead_same {S : MS} (i : Int) (l : Int) (u : Nat) : (opRead S i l u).S = S ∧ (opRead S i l u).l = l ∧ (opRead S i l u).u = u :=
  opRead_ind (Q := fun D => D.S = S ∧ D.l = l ∧ D.u = u) (fun _ => ⟨rfl, rfl, rfl⟩) (fun _ _ => ⟨rfl, rfl, rfl⟩)
theorem opFlush_ok (pp : Bool) {S : MS} (h : S.Ok) (l : Int) (u : Nat) : (opFlush pp S l u).S.Ok := opFlush_ind (Q := fun D => D.S.Ok) (fun _ => h) h.flush
theorem opLose_ok {S : MS} (h : S.Ok) (i : Int) (l : Int) (u : Nat) : (opLose S i l u).S.Ok := opLose_ind (Q := fun D => D.S.Ok) (fun _ => h) (h.set _ (fun b e => nomatch e))
theorem opSpoil_ok {S : MS} (h : S.Ok) (i : Int) {b : List Int} (hb : AllB b) (l : Int) (u : Nat) : (opSpoil S i b l u).S.Ok :=
  opSpoil_ind (Q := fun D => D.S.Ok) (fun _ => h) (fun hl => h.set _ (fun b' e => (Option.some.inj e) ▸ ⟨hl, hb⟩))
theorem doS_ok (pp : Bool) (a : AC) {S : MS} (l : Int) (u : Nat) (h : S.Ok) : (doS pp a S l u).S.Ok :=
  doS_ind (Q := fun D => D.S.Ok) (opWrite_ok pp h _ (secX_B _) l u) (by rw [(opRead_same _ _ _).1]; exact h) (opFlush_ok pp h l u) (h.crash _) h.fail h.back (opLose_ok h _ l u) (opSpoil_ok h _ (secX_B _) l u) h h
theorem doS_size (pp : Bool) (a : AC) (S : MS) (l : Int) (u : Nat) : (doS pp a S l u).S.size = S.size :=
  doS_ind (Q := fun D => D.S.size = S.size) (opWrite_ind (Q := fun D => D.S.size = S.size) (fun _ => rfl) (fun _ _ => rfl)) (by rw [(opRead_same _ _ _).1]) (opFlush_ind (Q := fun D => D.S.size = S.size) (fun _ => rfl) rfl) rfl rfl rfl (opLose_ind (Q := fun D => D.S.size = S.size) (fun _ => rfl) rfl) (opSpoil_ind (Q := fun D => D.S.size = S.size) (fun _ => rfl) (fun _ => rfl)) rfl rfl
/-- How the cache and what was used grow. -/
theorem usedN_le (pp : Bool) (u : Nat) : usedN pp u ≤ u + 1 := by unfold usedN; split <;> omega
theorem write_cache (S : MS) (i : Nat) (b : List Int) : (S.write i b).cache.length ≤ S.cache.length + 1 := by simp [MS.write]
theorem set_cache (S : MS) (i : Nat) (v : Option (List Int)) : (S.set i v).cache.length ≤ S.cache.length + 1 := Nat.le_succ_of_le (List.length_filter_le _ _)
def Grow (S : MS) (u : Nat) (D : DS) : Prop := D.S.cache.length ≤ S.cache.length + 1 ∧ D.u ≤ u + 1
theorem opWrite_grow (pp : Bool) (S : MS) (i : Int) (b : List Int) (l : Int) (u : Nat) : Grow S u (opWrite pp S i b l u) := opWrite_ind (fun _ => ⟨Nat.le_succ _, Nat.le_succ _⟩) (fun _ _ => ⟨write_cache _ _ _, usedN_le _ _⟩)
theorem doS_grow (pp : Bool) (a : AC) (S : MS) (l : Int) (u : Nat) : Grow S u (doS pp a S l u) :=
  have h : ∀ o e l', Grow S u ⟨o, e, S, l', u⟩ := fun _ _ _ => ⟨Nat.le_succ _, Nat.le_succ _⟩
  doS_ind (opWrite_grow _ _ _ _ _ _) (opRead_ind (fun _ => h _ _ _) (fun _ _ => h _ _ _)) (opFlush_ind (fun _ => h _ _ _) ⟨Nat.zero_le _, usedN_le _ _⟩) ⟨Nat.zero_le _, Nat.le_succ _⟩ ⟨Nat.zero_le _, Nat.le_succ _⟩ ⟨Nat.le_succ _, Nat.le_succ _⟩
    (opLose_ind (fun _ => h _ _ _) ⟨set_cache _ _ _, Nat.le_succ _⟩) (opSpoil_ind (fun _ => h _ _ _) (fun _ => ⟨set_cache _ _ _, Nat.le_succ _⟩)) (h _ _ _) (h _ _ _)
def LeftOk (l : Int) : Prop := -1 ≤ l ∧ l ≤ 9223372036854775807
theorem spendL_ok {l : Int} (h : LeftOk l) : LeftOk (spendL l) := by unfold LeftOk spendL at *; split <;> omega
theorem setL_ok {l x : Int} (pp : Bool) (h : LeftOk l) (hx : x ≤ 9223372036854775807) : LeftOk (if pp then max x (-1) else l) := by
  cases pp
  · exact h
  · unfold LeftOk; simp only [if_true]; omega
theorem doS_left (pp : Bool) (a : AC) (S : MS) {l : Int} (u : Nat) (h : LeftOk l) (hx : a.x ≤ 9223372036854775807) : LeftOk (doS pp a S l u).l :=
  doS_ind (Q := fun D => LeftOk D.l) (opWrite_ind (Q := fun D => LeftOk D.l) (fun _ => h) (fun _ _ => spendL_ok h)) (by rw [(opRead_same a.at_ l u).2.1]; exact h) (opFlush_ind (Q := fun D => LeftOk D.l) (fun _ => h) (spendL_ok h)) h h h (opLose_ind (Q := fun D => LeftOk D.l) (fun _ => h) h) (opSpoil_ind (Q := fun D => LeftOk D.l) (fun _ => h) (fun _ => h)) (setL_ok pp h hx) h
end Go.Proofs.YtkfdcdfaikkneaaGreatDoor
