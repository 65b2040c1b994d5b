/- Vandermonde's and Cauchy's: their columns don't hang on each other just if the places are unlike. No program is named here. -/
import Derived.Test.YtpoaimcioeopdaaLdet
import Derived.Test.YtpoaimcioeopdaaGlag
namespace Go.Proofs.Ytpoaimcioeopdaa
open GF

/-- x to the k-th. -/
def gpw (x : GF) : Nat → GF
  | 0 => 1
  | k + 1 => gpw x k * x
theorem ev_sm (x : GF) : ∀ (l : List GF) (n : Nat), l.length ≤ n → ev l x = sm n fun k => co l k * gpw x k := by
  intro l
  induction l with
  | nil => intro n _; exact (sm_zero fun k _ => by rw [co_nil, GF.zero_mul]).symm
  | cons c l ih =>
    intro n hn
    obtain ⟨m, rfl⟩ : ∃ m, n = m + 1 := ⟨n - 1, by simp at hn; omega⟩
    rw [sm_head]
    simp only [ev, gpw, co_cons_zero, co_cons_succ]
    rw [GF.mul_one, ih m (by simpa using hn), ← sm_mul]
    congr 1
    exact sm_congr fun k _ => by rw [GF.mul_left_comm, GF.mul_comm x]
/-- The polynomial of these coefficients. -/
def fl (n : Nat) (f : Nat → GF) : List GF := (List.range n).map f
theorem co_fl (n : Nat) (f : Nat → GF) (k : Nat) : co (fl n f) k = if k < n then f k else 0 := by
  by_cases h : k < n
  · rw [if_pos h, co_lt (by simpa [fl] using h)]; simp [fl]
  · rw [if_neg h, co_ge (by simp [fl]; omega)]
theorem ev_fl (n : Nat) (f : Nat → GF) (x : GF) : ev (fl n f) x = sm n fun k => f k * gpw x k := by
  rw [ev_sm x _ n (by simp [fl])]
  exact sm_congr fun k hk => by rw [co_fl, if_pos hk]
/-- Vandermonde's. -/
def vdm (xs : List GF) : Nat → Nat → GF := fun i c => gpw (co xs i) c
theorem vdm_iff (xs : List GF) : det xs.length (vdm xs) ≠ 0 ↔ Apart xs := by
  constructor
  · intro h i j hi hj e
    exact h (det_same' _ (show i < xs.length from hi) (show j < xs.length by omega) (by omega) (fun c => by simp only [vdm, e]))
  · intro h
    rw [det_iff]
    intro y _ hk c hc
    have := roots xs.length (fl xs.length y) xs (fun k hk => by rw [co_fl, if_neg (by omega)]) h.nodup (Nat.le_refl _) (fun x hx => by
      obtain ⟨i, hi, rfl⟩ := mem_co.1 hx
      rw [ev_fl, ← hk i hi rfl]
      exact sm_congr fun k _ => GF.mul_comm _ _) c
    rwa [co_fl, if_pos hc] at this
/-- Cauchy's. -/
def cau (xs ys : List GF) : Nat → Nat → GF := fun i c => GF.inv (co xs i + co ys c)
theorem cau_det {xs ys : List GF} (hl : xs.length = ys.length) (hx : Apart xs) (hy : Apart ys) (hxy : ∀ i j, i < xs.length → j < ys.length → co xs i ≠ co ys j) : det xs.length (cau xs ys) ≠ 0 := by
  rw [det_iff, hl]
  intro c _ hk
  obtain ⟨n, hn⟩ : ∃ n, n = ys.length := ⟨_, rfl⟩
  rw [← hn] at hk ⊢
  let q : Nat → List GF := fun j => qu (co ys j) (vanA ys n)
  have hv : ∀ j, j < n → ∀ x, ev (vanA ys n) x = (x + co ys j) * ev (q j) x := fun j hj x => by
    have := ev_qu (co ys j) x (vanA ys n)
    rwa [(ev_vanA n (by omega)).2 ⟨j, hj, rfl⟩, GF.zero_add] at this
  have hq : ∀ j k, n ≤ k → co (q j) k = 0 := fun j k hk => by
    rw [co_qu]
    exact ev_zero (fun i => by rw [co_drop]; exact (co_vanA ys n).2 _ (by omega)) _
  have hoff : ∀ j l, j < n → l < n → j ≠ l → ev (q j) (co ys l) = 0 := fun j l hj hl' hne => by
    have h1 := hv j hj (co ys l)
    rw [(ev_vanA n (by omega)).2 ⟨l, hl', rfl⟩] at h1
    exact (GF.mul_eq_zero h1.symm).resolve_left fun e => hy.ne (i := l) (j := j) (by omega) (by omega) (fun h => hne h.symm) (GF.add_eq_zero.1 e)
  have hat : ∀ j, j < n → ev (q j) (co ys j) ≠ 0 := fun j hj e => by
    have h1 := roots n (q j) ys (hq j) hy.nodup (by omega) (fun y hy' => by
      obtain ⟨l, hl', rfl⟩ := mem_co.1 hy'
      by_cases e2 : j = l
      · rw [← e2]; exact e
      · exact hoff j l hj (by omega) e2) (n - 1)
    rw [co_qu, ev_drop, show n - 1 + 1 = n by omega, (co_vanA ys n).1, ev_zero (fun i => by rw [co_drop]; exact (co_vanA ys n).2 _ (by omega)), GF.mul_zero, GF.add_zero] at h1
    exact GF.one_ne h1
  let p : List GF := fl n fun k => sm n fun j => c j * co (q j) k
  have hp : ∀ x, ev p x = sm n fun j => c j * ev (q j) x := fun x => by
    show ev (fl n _) x = _
    rw [ev_fl]
    have : (sm n fun k => (sm n fun j => c j * co (q j) k) * gpw x k) = sm n fun k => sm n fun j => c j * (co (q j) k * gpw x k) := sm_congr fun k _ => by
      rw [← sm_mul_right]; exact sm_congr fun j _ => GF.mul_assoc _ _ _
    rw [this, sm_turn]
    refine sm_congr fun j _ => ?_
    rw [sm_mul, ev_sm x (q j) (max n (q j).length) (Nat.le_max_right ..), sm_more (Nat.le_max_left ..) (fun k h1 _ => by rw [hq j k h1, GF.zero_mul])]
  have h0 : ∀ k, co p k = 0 := roots n p xs (fun k hk' => by show co (fl n _) k = 0; rw [co_fl, if_neg (by omega)]) hx.nodup (by omega) fun x hx' => by
    obtain ⟨i, hi, rfl⟩ := mem_co.1 hx'
    rw [hp]
    have h1 : sm n (fun j => c j * ev (q j) (co xs i)) = sm n (fun j => ev (vanA ys n) (co xs i) * (cau xs ys i j * c j)) := sm_congr fun j hj => by
      have h2 : co xs i + co ys j ≠ 0 := fun e => hxy i j hi (by omega) (GF.add_eq_zero.1 e)
      rw [hv j hj, cau, GF.mul_comm (co xs i + co ys j), GF.mul_assoc, ← GF.mul_assoc (co xs i + co ys j), GF.mul_inv h2, GF.one_mul, GF.mul_comm]
    rw [h1, sm_mul, show sm n (fun j => cau xs ys i j * c j) = 0 from hk i (by omega) rfl, GF.mul_zero]
  intro j hj
  have h1 := hp (co ys j)
  rw [ev_zero h0, sm_one hj (fun l hl' hne => by rw [hoff l j hl' hj hne, GF.mul_zero])] at h1
  exact (GF.mul_eq_zero h1.symm).resolve_right (hat j hj)
end Go.Proofs.Ytpoaimcioeopdaa
