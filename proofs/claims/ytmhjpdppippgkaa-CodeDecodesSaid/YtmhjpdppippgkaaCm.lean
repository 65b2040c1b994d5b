/- Plain: pieces of parts, byte by byte the values of the polynomial through them; what pieces tell; how far apart unlike parts are. No program is named here. -/
import Derived.Test.YtmhjpdppippgkaaQ2
import Derived.Test.YtmhjpdppippgkaaQ3
namespace Go.Proofs.Ytmhjpdppippgkaa
open GF
set_option linter.unusedVariables false

/-- The places 1 to n. -/
def pl (x : Nat) : GF := toG (x : Int)
def plc (n : Nat) : List GF := (List.range n).map fun i => pl (i + 1)
theorem pl_I {x : Nat} (h : x < 256) : toI (pl x) = (x : Int) := toI_toG (by omega)
theorem pl_inj {x y : Nat} (hx : x < 256) (hy : y < 256) (h : pl x = pl y) : x = y := by
  have := congrArg toI h
  rw [pl_I hx, pl_I hy] at this
  omega
theorem plc_len (n : Nat) : (plc n).length = n := by simp [plc]
theorem plc_co {n i : Nat} (h : i < n) : co (plc n) i = pl (i + 1) := by
  show List.getD _ _ _ = _
  unfold plc; simp [List.getD_eq_getElem?_getD, h]
theorem plc_next (n : Nat) : plc (n + 1) = plc n ++ [pl (n + 1)] := by simp [plc, List.range_succ]
theorem plc_apart {n : Nat} (hn : n ≤ 255) : Apart (plc n) := fun i j hi hj e => by
  rw [plc_len] at hi
  rw [plc_co hi, plc_co (by omega)] at e
  have := pl_inj (by omega) (by omega) e
  omega
/-- The piece at x. -/
def pcR (P : List (List GF)) (n : Nat) (x : GF) : List GF := atR (plc P.length) (rw_ P) x n
theorem pcR_len (P : List (List GF)) (n : Nat) (x : GF) : (pcR P n x).length = n := atR_len _ _ _ _
/-- All pieces. -/
def encM (P : List (List GF)) (n N : Nat) : List (List GF) := (List.range N).map fun i => pcR P n (pl (i + 1))
theorem encM_len (P : List (List GF)) (n N : Nat) : (encM P n N).length = N := by simp [encM]
theorem encM_row {P : List (List GF)} {n N i : Nat} (h : i < N) : rw_ (encM P n N) i = pcR P n (pl (i + 1)) := by
  unfold rw_ encM; simp [List.getD_eq_getElem?_getD, h]
/-- The numbers at a byte, and their polynomial. -/
def cl (P : List (List GF)) (i : Nat) : List GF := (List.range P.length).map fun k => co (rw_ P k) i
theorem cl_co {P : List (List GF)} {i k : Nat} (h : k < P.length) : co (cl P i) k = co (rw_ P k) i := by
  show List.getD _ _ _ = _
  unfold cl; simp [List.getD_eq_getElem?_getD, h]
def pp (P : List (List GF)) (i : Nat) : List GF := lag (plc P.length) (cl P i)
theorem pp_ge (P : List (List GF)) (i : Nat) {k : Nat} (h : P.length ≤ k) : co (pp P i) k = 0 := co_lag _ _ (by rw [plc_len]; exact h)
theorem pcR_co {P : List (List GF)} {n i : Nat} (x : GF) (h : i < n) : co (pcR P n x) i = ev (pp P i) x := by
  unfold pcR pp
  rw [atR_co h, ev_lag]
  refine sm_congr fun k hk => ?_
  rw [plc_len] at hk
  rw [cl_co hk, mul_comm]
theorem pp_at {P : List (List GF)} (hP : P.length ≤ 255) (i : Nat) {j : Nat} (hj : j < P.length) : ev (pp P i) (pl (j + 1)) = co (rw_ P j) i := by
  unfold pp
  rw [← plc_co hj, ev_lag_at (plc_apart hP) (by rw [plc_len]; exact hj), cl_co hj]
/-- The first pieces are the parts. -/
theorem pcR_part {P : List (List GF)} {n : Nat} (hP : P.length ≤ 255) {j : Nat} (hj : j < P.length) (hn : (rw_ P j).length = n) : pcR P n (pl (j + 1)) = rw_ P j := by
  refine ext_co (by rw [pcR_len, hn]) fun i hi => ?_
  rw [pcR_len] at hi
  rw [pcR_co _ hi, pp_at hP i hj]
/-- OF ANY t PIECES COME THE PARTS. -/
theorem dec_part {P : List (List GF)} {X : List GF} {R : Nat → List GF} {n : Nat} (hP : P.length ≤ 255) (hX : Apart X) (hl : X.length = P.length) (hR : ∀ k, k < X.length → R k = pcR P n (co X k)) {j : Nat} (hj : j < P.length) (hn : (rw_ P j).length = n) : atR X R (pl (j + 1)) n = rw_ P j := by
  refine ext_co (by rw [atR_len, hn]) fun i hi => ?_
  rw [atR_len] at hi
  rw [atR_co hi, ← pp_at hP i hj, ← wt_sum hX (p := pp P i) (fun k hk => pp_ge P i (by omega)) (pl (j + 1))]
  refine sm_congr fun k hk => ?_
  rw [hR k hk, pcR_co _ hi, mul_comm]
/-- How many of the first N places f holds at. -/
def cnS (f : Nat → Bool) (N : Nat) : Nat := ((List.range N).filter f).length
theorem cnS_zero (f : Nat → Bool) : cnS f 0 = 0 := rfl
theorem cnS_next (f : Nat → Bool) (N : Nat) : cnS f (N + 1) = cnS f N + if f N then 1 else 0 := by
  unfold cnS
  rw [List.range_succ, List.filter_append, List.length_append]
  by_cases h : f N <;> simp [h]
theorem cnS_le (f : Nat → Bool) (N : Nat) : cnS f N ≤ N := by
  unfold cnS; exact Nat.le_trans (List.length_filter_le _ _) (by simp)
theorem cnS_all {f : Nat → Bool} {N : Nat} (h : ∀ i, i < N → f i = true) : cnS f N = N := by
  unfold cnS
  rw [List.filter_eq_self.2 (fun i hi => h i (List.mem_range.1 hi))]; simp
/-- UNLIKE PARTS ARE FAR APART: if as many pieces as there are parts are the same at a byte, all parts are the same there. -/
theorem far_apart {P Q : List (List GF)} {n N : Nat} (hP : P.length ≤ 255) (hQ : Q.length = P.length) (hN : N ≤ 255) {i : Nat} (hi : i < n) (hc : P.length ≤ cnS (fun k => decide (co (pcR P n (pl (k + 1))) i = co (pcR Q n (pl (k + 1))) i)) N) : ∀ j, j < P.length → co (rw_ P j) i = co (rw_ Q j) i := by
  intro j hj
  have hp : ∀ k, co (pp P i) k = co (pp Q i) k := by
    refine same_poly (n := P.length) (xs := ((List.range N).filter fun k => decide (co (pcR P n (pl (k + 1))) i = co (pcR Q n (pl (k + 1))) i)).map fun k => pl (k + 1)) (fun k hk => pp_ge P i hk) (fun k hk => pp_ge Q i (by rw [hQ]; exact hk)) ?_ (by rw [List.length_map]; exact hc) (fun x hx => ?_)
    · refine (List.pairwise_map.2 (List.Pairwise.imp_of_mem ?_ (List.Nodup.sublist List.filter_sublist List.nodup_range)))
      intro a b ha hb hne e
      have h1 := List.mem_range.1 ((List.mem_filter.1 ha).1)
      have h2 := List.mem_range.1 ((List.mem_filter.1 hb).1)
      have := pl_inj (by omega) (by omega) e
      exact hne (by omega)
    · obtain ⟨k, hk, rfl⟩ := List.mem_map.1 hx
      have h := of_decide_eq_true (List.mem_filter.1 hk).2
      rw [pcR_co _ hi, pcR_co _ hi] at h
      exact h
  rw [← pp_at hP i hj, ← pp_at (by rw [hQ]; exact hP) i (by rw [hQ]; exact hj)]
  exact ev_congr hp _
theorem same_pieces {P Q : List (List GF)} {n : Nat} (hQ : Q.length = P.length) {i : Nat} (hi : i < n) (h : ∀ j, j < P.length → co (rw_ P j) i = co (rw_ Q j) i) (x : GF) : co (pcR P n x) i = co (pcR Q n x) i := by
  unfold pcR
  rw [atR_co hi, atR_co hi, hQ]
  refine sm_congr fun k hk => ?_
  rw [plc_len] at hk
  rw [h k hk]
end Go.Proofs.Ytmhjpdppippgkaa
