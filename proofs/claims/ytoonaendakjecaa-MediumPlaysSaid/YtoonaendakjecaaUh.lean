/- MediumShows under the contracts. -/
import Derived.Test.YtoonaendakjecaaUf
namespace Go.Proofs.Ytoonaendakjecaa
open Go.ChangeShapes Go.WideShapes Go.ChangeAt Go.RowKit Go.Shelf
set_option linter.unusedVariables false
set_option linter.unusedSimpArgs false
set_option maxRecDepth 100000

/-! ## plain -/
/-- A medium of four sectors of which none is lost, and that is up. -/
structure Good (S : MS) : Prop where
  size : S.size = 4
  up : S.down = false
  med : ∀ i, ∃ b, S.med i = some b
theorem applyW_all {m : Nat → Option (List Int)} (h : ∀ i, ∃ b, m i = some b) (c : List CW) : ∀ i, ∃ b, applyW m c i = some b := fun i => by
  rw [applyW_some]
  cases e : lastW c i with
  | some b => exact ⟨b, rfl⟩
  | none => exact h i
theorem Good.new : Good (MS.new 4) := ⟨rfl, rfl, fun _ => ⟨_, rfl⟩⟩
theorem Good.crash {S : MS} (h : Good S) (k : List Bool) : Good (S.crash k) := ⟨h.size, h.up, applyW_all h.med _⟩
theorem Good.flush {S : MS} (h : Good S) : Good S.flush := ⟨h.size, h.up, applyW_all h.med _⟩
theorem Good.write {S : MS} (h : Good S) (i : Nat) (b : List Int) : Good (S.write i b) := ⟨h.size, h.up, h.med⟩
theorem Good.shows {S : MS} (h : Good S) (i : Nat) : ∃ b, S.shows i = some b := by
  have := applyW_all h.med S.cache i
  rwa [applyW_some] at this
def sh (S : MS) (i : Nat) : List Int := (S.shows i).getD []
theorem Good.sh {S : MS} (h : Good S) (i : Nat) : S.shows i = some (sh S i) := by
  obtain ⟨b, e⟩ := h.shows i
  rw [e]; unfold Go.Proofs.Ytoonaendakjecaa.sh; rw [e]; rfl
theorem Good.ok {S : MS} (h : Good S) (hk : S.Ok) (i : Nat) : secOk (Go.Proofs.Ytoonaendakjecaa.sh S i) := hk.shows (h.sh i)
theorem Good.read {S : MS} (h : Good S) {i : Nat} (hi : i < 4) : opRead S (i : Int) (-1) 0 = ⟨Go.Proofs.Ytoonaendakjecaa.sh S i, 0, S, -1, 0⟩ := by
  unfold opRead
  rw [if_neg (by rw [h.up]; simp), if_neg (by unfold inR; rw [h.size]; omega), Int.toNat_natCast, h.sh i]
/-- Writes, reads and flushes keep it so, with no power. -/
structure GoodD (D : DS) : Prop where
  good : Good D.S
  l : D.l = -1
  u : D.u = 0
theorem opWrite_goodD {S : MS} (h : Good S) (i : Int) (b : List Int) : GoodD (opWrite false S i b (-1) 0) := opWrite_ind (Q := GoodD) (fun _ => ⟨h, rfl, rfl⟩) (fun _ _ => ⟨h.write _ _, rfl, rfl⟩)
theorem doS_goodD {S : MS} (h : Good S) {a : AC} (ha : a.kind < 3) : GoodD (doS false a S (-1) 0) := by
  unfold doS
  split
  · exact opWrite_goodD h _ _
  · split
    · exact opRead_ind (Q := GoodD) (fun _ => ⟨h, rfl, rfl⟩) (fun _ _ => ⟨h, rfl, rfl⟩)
    · split
      · exact opFlush_ind (Q := GoodD) (fun _ => ⟨h, rfl, rfl⟩) ⟨h.flush, rfl, rfl⟩
      · repeat' split
        all_goals first
          | exact ⟨h, rfl, rfl⟩
          | omega
theorem str_dec {l m : List Int} (hl : AllB l) (hm : AllB m) : ((strOfNums l).toList == (strOfNums m).toList) = decide (l = m) := by
  by_cases e : l = m
  · rw [decide_eq_true e, str_eq e]
  · rw [decide_eq_false e, str_ne hl hm e]
/-- Strings, as far as they are laid. -/
def strV (S : MS) (i : Nat) : List Value := (List.range 4).map fun j => if j < i then .string (strOfNums (sh S j)) else .string ByteArray.empty
theorem strV_len (S : MS) (i : Nat) : (strV S i).length = 4 := by simp [strV]
theorem strV_zero (S : MS) : strV S 0 = List.replicate 4 (.string ByteArray.empty) := rfl
theorem strV_set (S : MS) {i : Nat} (hi : i < 4) : (strV S i).set i (.string (strOfNums (sh S i))) = strV S (i + 1) := by
  apply List.ext_getElem?
  intro j
  rw [List.getElem?_set]
  by_cases e : i = j
  · subst e
    rw [if_pos rfl, if_pos (by rw [strV_len]; exact hi)]
    simp [strV, hi]
  · rw [if_neg e]
    unfold strV
    by_cases hj : j < 4
    · simp only [List.getElem?_map, List.getElem?_range hj, Option.map_some]
      by_cases h1 : j < i
      · rw [if_pos h1, if_pos (by omega)]
      · rw [if_neg h1, if_neg (by omega)]
    · rw [List.getElem?_eq_none (by simp; omega), List.getElem?_eq_none (by simp; omega)]
theorem strV_get (S : MS) {i j : Nat} (h : j < i) (hj : j < 4) : (strV S i)[j]? = some (.string (strOfNums (sh S j))) := by
  simp [strV, hj, h]
/-- Whether what a sector shows is what stood there, or one of the first writes of the cache. -/
def inC (b was : List Int) (c : List CW) (i m : Nat) : Bool := decide (b = was) || (c.take m).any fun x => decide (x.1 = i) && decide (x.2 = b)
theorem inC_zero (b was : List Int) (c : List CW) (i : Nat) : inC b was c i 0 = decide (b = was) := by simp [inC]
theorem inC_next {b was : List Int} {c : List CW} {i m : Nat} {x : CW} (h : c[m]? = some x) : inC b was c i (m + 1) = (inC b was c i m || (decide (x.1 = i) && decide (x.2 = b))) := by
  unfold inC
  rw [List.take_add_one, h]
  simp [Bool.or_assoc]
theorem inC_all {S : MS} (h : Good S) (ks : List Bool) (i : Nat) : inC (sh (S.crash ks) i) (sh (S.crash []) i) S.cache i S.cache.length = true := by
  unfold inC
  rw [List.take_length]
  have h1 : sh (S.crash []) i = (S.med i).getD [] := by
    unfold sh; rw [MS.shows_crash, keptW_nil]; rfl
  have h2 := MS.shows_crash S ks i
  cases e : lastW (keptW S.cache ks) i with
  | none =>
    rw [e] at h2
    have : sh (S.crash ks) i = sh (S.crash []) i := by rw [h1]; unfold sh; rw [h2]
    rw [decide_eq_true this, Bool.true_or]
  | some b =>
    rw [e] at h2
    have h3 : sh (S.crash ks) i = b := by unfold sh; rw [h2]; rfl
    rw [h3]
    have : (S.cache.any fun x => decide (x.1 = i) && decide (x.2 = b)) = true := List.any_eq_true.2 ⟨(i, b), keptW_sub _ _ (lastW_mem _ e), by simp⟩
    rw [this, Bool.or_true]
theorem sh_all {S : MS} {n : Nat} (hn : S.cache.length ≤ n) (i : Nat) : sh (S.crash (List.replicate n true)) i = sh S i := by
  unfold sh
  rw [MS.shows_crash, keptW_all _ _ hn]
  rfl
theorem cwC_len : ∀ (c : List CW) (ds : List (Option Addr × Nat)), ds.length = c.length → (cwC c ds).length = c.length * 2
  | [], [], _ => rfl
  | x :: c, d :: ds, h => by
    rw [cwC, List.length_cons, List.length_cons, cwC_len c ds (by simpa using h), List.length_cons]; omega
theorem cwC_get : ∀ (c : List CW) (ds : List (Option Addr × Nat)) (k : Nat) (x : CW) (d : Option Addr × Nat), c[k]? = some x → ds[k]? = some d → (cwC c ds)[k * 2]? = some (.int .i64 (x.1 : Nat)) ∧ (cwC c ds)[k * 2 + 1]? = some (.slice d.1 512 d.2)
  | [], _, _, _, _, h, _ => by simp at h
  | _ :: _, [], _, _, _, _, h => by simp at h
  | y :: c, e :: ds, 0, x, d, h1, h2 => by
    simp at h1 h2
    subst h1; subst h2
    exact ⟨rfl, rfl⟩
  | y :: c, e :: ds, k + 1, x, d, h1, h2 => by
    have := cwC_get c ds k x d (by simpa using h1) (by simpa using h2)
    rw [show (k + 1) * 2 = k * 2 + 1 + 1 by omega, show k * 2 + 1 + 1 + 1 = (k * 2 + 1) + 1 + 1 from rfl]
    exact this
theorem infoBl : (Try.prog.info? 4).map (fun i => (i.zero, i.size, i.bytes)) = some (some (.bool false), 1, 1) := by kernel_rfl
theorem infoSt : (Try.prog.info? 9).map (fun i => (i.zero, i.size, i.bytes)) = some (some (.string ByteArray.empty), 1, 16) := by kernel_rfl
theorem argB_own {w : World} {base n : Nat} {a : Option Addr} {c : Nat} {e : TypeId} {l : List Bool} (h : w.ownsRow base e 1 (.slice a n c) n (l.map Value.bool)) : ArgB w a n c l := by
  have hl : l.length = n := by have := h.1; simpa using this
  rcases h.2 with ⟨hv, h0⟩ | ⟨g, cap, cur, hv, hb, hg, hn, hm, _, ht⟩
  · injection hv with h1 h2 h3
    subst h1; subst h2; subst h3
    exact ⟨hl, Nat.le_refl _, Nat.zero_le _, fun _ => rfl, fun h => absurd h (by omega)⟩
  · injection hv with h1 h2 h3
    subst h1; subst h3
    refine ⟨hl, hn, hm, (fun e => by cases e), fun _ => ⟨g, 0, rfl, ?_, fun i hi => ?_⟩⟩
    · rcases Nat.lt_or_ge g w.heap.size with hlt | hge
      · exact hlt
      · rw [Array.getElem?_eq_none hge] at hg; cases hg
    · rw [Nat.zero_add, cell_of_row w g i cur _ _ hg]
      have h1 : (cur.toList.take (n * 1))[i]? = cur[i]? := by rw [List.getElem?_take, if_pos (by omega), Array.getElem?_toList]
      rw [← h1, ht]
      simp [List.getD_eq_getElem?_getD, show i < l.length by omega]
theorem own_someT2 {w : World} {base s n : Nat} {e : TypeId} {a : Option Addr} {c : Nat} {xs : List Value} (h : w.ownsRow base e s (.slice a n c) n xs) (h0 : 0 < n) : ∃ g, a = some ⟨g, 0, none⟩ := by
  obtain ⟨g, cap, e, _⟩ := h.form h0
  injection e with e; exact ⟨g, e⟩
abbrev FN : Nat → Prop := fun _ => False
theorem hiN {B : Nat} {F : Nat → Prop} (h : ∀ k, F k → B ≤ k) : Hi B F FN := fun k hk => hk.elim (h k) (fun h => h.elim)
theorem mwN {R : World → Nat → (Nat → Prop) → MS → Option Nat → Prop} {P : World → Nat → (Nat → Prop) → Int → Nat → Prop} {w : World} {tb : Nat} {F : Nat → Prop} {S : MS} (hr : R w tb F S none) (hok : S.Ok) {j : Nat} (hj : S.cache.length ≤ j) : MW R P w tb F S none FN (-1) 0 j :=
  ⟨hr, ⟨fun _ h => h, rfl, rfl⟩, fun _ _ h => h, hok, leftOk1, ⟨hj, Nat.zero_le _⟩⟩
end Go.Proofs.Ytoonaendakjecaa
