/- Plain facts on the field of 256 numbers: its product by logarithms, bit by bit, and by definition are the same; its laws. No program is named here. -/
namespace Go.Proofs.Ytmhknggjpggagaa

/-- Which number each power of 3 is: 255 bytes in one number, the lowest first. -/
def ptab : Nat := 121466575815500734415996836054882879791832871126464106601702187317037704638720699736399773789881350966450612456712855012027411276600174289287471020404625812305602624065235109912861702064162581238381248958448422203687095403783548669481020115429473714815130546491650907227391014769411226625179674495964331439187933946584331397333639979447433688574122779091165484305754955373075414835846686739481168846087332879005575464100018941681806164995707250399423063311368515928344698269234575261926727907427524598329539937222090466892085999338983806607642276495436692919915470849325341672618663070658392065151738926641076044545
/-- Which power of 3 each number is (0 at 0): 256 bytes in one number. -/
def ltab : Nat := 939374623831894136699086600277250597547650664638770418422125146541797353646788332867483593573384618611044815625336497665827114626705134492515730415652478061620339993830966980270842846318821775850471098591710629241171812800746666233448222972174585295916389942636813666312872914849454985560152530477328703759683306625234997237483834721220409437442253146756845415190424543171129629468776480674528486868811725071010351012234056630775688111116293610821126543142160426617079940511630006820862697466582575257349116925728488930366609138264019883664906661504235885380294353134295748489096855100647154935187045898006656778240
/-- That power of 3. -/
def pw (k : Nat) : Nat := (ptab >>> (8 * (k % 255))) % 256
/-- Which power of 3 a number is. -/
def lg (a : Nat) : Nat := (ltab >>> (8 * a)) % 256
/-- The product. -/
def gm (a b : Nat) : Nat := if a = 0 then 0 else if b = 0 then 0 else pw (lg a + lg b)
/-- A number, times x. -/
def dbl (a : Nat) : Nat := if a < 128 then 2 * a else (2 * a - 256) ^^^ 27
/-- The product, bit by bit, in f rounds. -/
def slowA : Nat → Nat → Nat → Nat → Nat
  | 0, _, _, o => o
  | f + 1, a, b, o => slowA f (dbl a) (b / 2) (if b % 2 = 1 then o ^^^ a else o)
/-- The product by definition: the sum of so many of the one's multiples. -/
def accA (a b : Nat) : Nat → Nat
  | 0 => 0
  | i + 1 => if b / 2 ^ i % 2 = 1 then accA a b i ^^^ (a * 2 ^ i) else accA a b i
/-- .. and the rest, j bits of it taken away. -/
def redA (p : Nat) : Nat → Nat
  | 0 => p
  | j + 1 => if redA p j / 2 ^ (14 - j) % 2 = 1 then redA p j ^^^ (283 * 2 ^ (6 - j)) else redA p j
def refM (a b : Nat) : Nat := redA (accA a b 8) 7 % 256

/-- p holds below n. -/
def allLt : Nat → (Nat → Bool) → Bool
  | 0, _ => true
  | n + 1, p => p n && allLt n p
theorem allLt_at {n : Nat} {p : Nat → Bool} (h : allLt n p = true) : ∀ k, k < n → p k = true := by
  induction n with
  | zero => intro k hk; omega
  | succ n ih =>
    simp only [allLt, Bool.and_eq_true] at h
    intro k hk
    by_cases e : k = n
    · rw [e]; exact h.1
    · exact ih h.2 k (by omega)
/-- A number, reckoned ahead of what it is handed to. -/
def force {α : Type} (x : Nat) (f : Nat → α) : α := match x with
  | 0 => f 0
  | n + 1 => f (n + 1)
theorem force_eq {α : Type} (x : Nat) (f : Nat → α) : force x f = f x := by cases x <;> rfl
def slowF : Nat → Nat → Nat → Nat → Nat
  | 0, _, _, o => o
  | f + 1, a, b, o => force (if b % 2 = 1 then o ^^^ a else o) fun o' => force (dbl a) fun a' => force (b / 2) fun b' => slowF f a' b' o'
theorem slowF_eq (f : Nat) : ∀ a b o, slowF f a b o = slowA f a b o := by
  induction f with
  | zero => intro a b o; rfl
  | succ f ih => intro a b o; simp only [slowF, slowA, force_eq, ih]
def accF (a b : Nat) : Nat → Nat → Nat → Nat
  | 0, _, o => o
  | f + 1, i, o => force (if b / 2 ^ i % 2 = 1 then o ^^^ (a * 2 ^ i) else o) fun o' => accF a b f (i + 1) o'
def redF : Nat → Nat → Nat → Nat
  | 0, _, p => p
  | f + 1, j, p => force (if p / 2 ^ (14 - j) % 2 = 1 then p ^^^ (283 * 2 ^ (6 - j)) else p) fun p' => redF f (j + 1) p'
theorem accF_eq (a b f : Nat) : ∀ i, accF a b f i (accA a b i) = accA a b (i + f) := by
  induction f with
  | zero => intro i; rfl
  | succ f ih =>
    intro i
    have e : (if b / 2 ^ i % 2 = 1 then accA a b i ^^^ (a * 2 ^ i) else accA a b i) = accA a b (i + 1) := rfl
    simp only [accF, force_eq]
    rw [e, ih (i + 1)]
    congr 1; omega
theorem redF_eq (p f : Nat) : ∀ j, redF f j (redA p j) = redA p (j + f) := by
  induction f with
  | zero => intro j; rfl
  | succ f ih =>
    intro j
    have e : (if redA p j / 2 ^ (14 - j) % 2 = 1 then redA p j ^^^ (283 * 2 ^ (6 - j)) else redA p j) = redA p (j + 1) := rfl
    simp only [redF, force_eq]
    rw [e, ih (j + 1)]
    congr 1; omega
theorem refM_eq (a b : Nat) : redF 7 0 (accF a b 8 0 0) % 256 = refM a b := by
  have h1 := accF_eq a b 8 0
  have h2 := redF_eq (accA a b 8) 7 0
  rw [show accA a b 0 = 0 from rfl, Nat.zero_add] at h1
  rw [show redA (accA a b 8) 0 = accA a b 8 from rfl, Nat.zero_add] at h2
  rw [h1, h2]; rfl

/-! What is reckoned number by number. -/
set_option maxRecDepth 100000 in
theorem k_basis : allLt 256 (fun a => allLt 8 fun k => force (slowF 8 a (2 ^ k) 0) fun s => s == redF 7 0 (accF a (2 ^ k) 8 0 0) % 256 && slowF 8 a (dbl (2 ^ k)) 0 == dbl s) = true := by decide +kernel
set_option maxRecDepth 100000 in
theorem k_one : allLt 256 (fun a => slowF 8 2 a 0 == dbl a && (slowF 8 a 1 0 == a && slowF 8 0 a 0 == 0)) = true := by decide +kernel
set_option maxRecDepth 100000 in
theorem k_pw : allLt 255 (fun k => force (pw k) fun p => (lg p == k && !(p == 0)) && (pw (k + 1) == p ^^^ dbl p && slowF 8 p 3 0 == p ^^^ dbl p)) = true := by decide +kernel
set_option maxRecDepth 100000 in
theorem k_lg : allLt 256 (fun a => a == 0 || (pw (lg a) == a && decide (lg a < 255))) = true := by decide +kernel

/-! Sums bit by bit go through. -/
theorem xor_mid (a b c d : Nat) : (a ^^^ b) ^^^ (c ^^^ d) = (a ^^^ c) ^^^ (b ^^^ d) := by
  rw [Nat.xor_assoc, Nat.xor_assoc, ← Nat.xor_assoc b c d, Nat.xor_comm b c, Nat.xor_assoc c b d]
theorem bit_iff (x i : Nat) : (x / 2 ^ i % 2 = 1) ↔ x.testBit i = true := by rw [Nat.testBit_eq_decide_div_mod_eq]; simp
theorem sel_xor (p q : Bool) (o o' x : Nat) : (if (p ^^ q) = true then (o ^^^ o') ^^^ x else o ^^^ o') = (if p = true then o ^^^ x else o) ^^^ (if q = true then o' ^^^ x else o') := by
  cases p <;> cases q
  · rfl
  · simp [Nat.xor_assoc]
  · simp only [Bool.xor_false, ↓reduceIte, Bool.false_eq_true]
    rw [Nat.xor_assoc, Nat.xor_comm o' x, ← Nat.xor_assoc]
  · simp only [Bool.xor_self, ↓reduceIte, Bool.false_eq_true]
    rw [xor_mid, Nat.xor_self, Nat.xor_zero]
theorem sel_bit (x y i o o' c : Nat) : (if (x ^^^ y) / 2 ^ i % 2 = 1 then (o ^^^ o') ^^^ c else o ^^^ o') = (if x / 2 ^ i % 2 = 1 then o ^^^ c else o) ^^^ (if y / 2 ^ i % 2 = 1 then o' ^^^ c else o') := by
  simp only [bit_iff, Nat.testBit_xor]
  exact sel_xor _ _ _ _ _
theorem slowA_add (f : Nat) : ∀ a b c o o', slowA f a (b ^^^ c) (o ^^^ o') = slowA f a b o ^^^ slowA f a c o' := by
  induction f with
  | zero => intro a b c o o'; rfl
  | succ f ih =>
    intro a b c o o'
    have h := sel_bit b c 0 o o' a
    rw [Nat.pow_zero, Nat.div_one, Nat.div_one, Nat.div_one] at h
    have e : (b ^^^ c) / 2 = b / 2 ^^^ c / 2 := by
      have := Nat.shiftRight_xor_distrib (a := b) (b := c) (i := 1)
      simpa [Nat.shiftRight_eq_div_pow] using this
    simp only [slowA]
    rw [h, e, ih]
theorem accA_add (a : Nat) : ∀ i b c, accA a (b ^^^ c) i = accA a b i ^^^ accA a c i := by
  intro i
  induction i with
  | zero => intro b c; simp [accA]
  | succ i ih => intro b c; simp only [accA]; rw [ih, sel_bit]
theorem redA_add : ∀ j p q, redA (p ^^^ q) j = redA p j ^^^ redA q j := by
  intro j
  induction j with
  | zero => intro p q; rfl
  | succ j ih => intro p q; simp only [redA]; rw [ih, sel_bit]
theorem refM_add (a b c : Nat) : refM a (b ^^^ c) = refM a b ^^^ refM a c := by
  unfold refM
  rw [accA_add, redA_add]
  exact Nat.xor_mod_two_pow (n := 8)
def slow (a b : Nat) : Nat := slowA 8 a b 0
theorem slow_add (a b c : Nat) : slow a (b ^^^ c) = slow a b ^^^ slow a c := slowA_add 8 a b c 0 0
theorem add_zero {f : Nat → Nat} (hf : ∀ x y, f (x ^^^ y) = f x ^^^ f y) : f 0 = 0 := by
  have := hf 0 0
  rw [Nat.xor_self, Nat.xor_self] at this
  exact this
theorem top_off {b n : Nat} (h0 : 2 ^ n ≤ b) (h1 : b < 2 ^ (n + 1)) : b ^^^ 2 ^ n < 2 ^ n := by
  apply Nat.lt_pow_two_of_testBit
  intro i hi
  rw [Nat.testBit_xor, Nat.testBit_two_pow]
  by_cases e : i = n
  · subst e
    have : b.testBit i = true := by
      rw [Nat.testBit_eq_decide_div_mod_eq]
      have h2 : b / 2 ^ i = 1 := by
        rw [Nat.pow_succ] at h1
        apply Nat.le_antisymm
        · exact Nat.le_of_lt_succ (Nat.div_lt_of_lt_mul (by omega))
        · exact (Nat.le_div_iff_mul_le (Nat.two_pow_pos i)).2 (by omega)
      rw [h2]; rfl
    simp [this]
  · have : b.testBit i = false := Nat.testBit_lt_two_pow (Nat.lt_of_lt_of_le h1 (Nat.pow_le_pow_right (by omega) (by omega)))
    simp [this]; omega
theorem add_ext {f g : Nat → Nat} (hf : ∀ x y, f (x ^^^ y) = f x ^^^ f y) (hg : ∀ x y, g (x ^^^ y) = g x ^^^ g y) :
    ∀ n, (∀ k, k < n → f (2 ^ k) = g (2 ^ k)) → ∀ b, b < 2 ^ n → f b = g b := by
  intro n
  induction n with
  | zero => intro _ b hb; have : b = 0 := by omega
            rw [this, add_zero hf, add_zero hg]
  | succ n ih =>
    intro h b hb
    by_cases hl : b < 2 ^ n
    · exact ih (fun k hk => h k (by omega)) b hl
    · have h1 := ih (fun k hk => h k (by omega)) _ (top_off (by omega) hb)
      have e : b = (b ^^^ 2 ^ n) ^^^ 2 ^ n := by rw [Nat.xor_assoc, Nat.xor_self, Nat.xor_zero]
      rw [e, hf, hg, h1, h n (by omega)]

theorem basis_at {a k : Nat} (ha : a < 256) (hk : k < 8) : slow a (2 ^ k) = refM a (2 ^ k) ∧ slow a (dbl (2 ^ k)) = dbl (slow a (2 ^ k)) := by
  have h := allLt_at (allLt_at k_basis a ha) k hk
  rw [force_eq] at h
  simp only [slowF_eq, refM_eq, Bool.and_eq_true, beq_iff_eq] at h
  exact h
theorem dbl_slow {a : Nat} (ha : a < 256) : slow 2 a = dbl a ∧ slow a 1 = a ∧ slow 0 a = 0 := by
  have h := allLt_at k_one a ha
  simp only [slowF_eq, Bool.and_eq_true, beq_iff_eq] at h
  exact h
theorem pw_at {k : Nat} (hk : k < 255) : (lg (pw k) = k ∧ pw k ≠ 0) ∧ pw (k + 1) = pw k ^^^ dbl (pw k) ∧ slow (pw k) 3 = pw k ^^^ dbl (pw k) := by
  have h := allLt_at k_pw k hk
  rw [force_eq] at h
  simp only [slowF_eq, Bool.and_eq_true, beq_iff_eq, Bool.not_eq_true', beq_eq_false_iff_ne] at h
  exact h
theorem pw_mod (k : Nat) : pw (k % 255) = pw k := by unfold pw; rw [Nat.mod_mod]
theorem pw_add255 (k : Nat) : pw (k + 255) = pw k := by rw [← pw_mod, Nat.add_mod_right, pw_mod]
theorem pw_congr {i j : Nat} (h : i % 255 = j % 255) : pw i = pw j := by rw [← pw_mod i, h, pw_mod]
theorem pw_lt (k : Nat) : pw k < 256 := Nat.mod_lt _ (by decide)
theorem lg_lt (a : Nat) : lg a < 256 := Nat.mod_lt _ (by decide)
theorem pw_ne (k : Nat) : pw k ≠ 0 := by rw [← pw_mod]; exact (pw_at (Nat.mod_lt _ (by decide))).1.2
theorem lg_pw (k : Nat) : lg (pw k) = k % 255 := by rw [← pw_mod]; exact (pw_at (Nat.mod_lt _ (by decide))).1.1
theorem pw_lg {a : Nat} (ha : a < 256) (h0 : a ≠ 0) : pw (lg a) = a ∧ lg a < 255 := by
  have h := allLt_at k_lg a ha
  simpa [h0] using h
theorem pw_succ (k : Nat) : pw (k + 1) = pw k ^^^ dbl (pw k) := by
  have h := (pw_at (k := k % 255) (Nat.mod_lt _ (by decide))).2.1
  rw [pw_mod] at h
  rw [← h]
  exact pw_congr (by omega)
theorem slow_pw3 (k : Nat) : slow (pw k) 3 = pw (k + 1) := by
  have h := (pw_at (k := k % 255) (Nat.mod_lt _ (by decide))).2.2
  rw [pw_mod] at h
  rw [h, pw_succ]
theorem pw_zero : pw 0 = 1 := by decide +kernel
theorem pw_one : pw 1 = 3 := by decide +kernel
theorem lg_zero : lg 0 = 0 := by decide +kernel
theorem lg_one : lg 1 = 0 := by decide +kernel
theorem xor_lt {a b : Nat} (ha : a < 256) (hb : b < 256) : a ^^^ b < 256 := Nat.xor_lt_two_pow (n := 8) ha hb
theorem dbl_lt {a : Nat} (ha : a < 256) : dbl a < 256 := by
  unfold dbl
  split
  · omega
  · exact xor_lt (by omega) (by omega)
theorem dbl_add {a b : Nat} (ha : a < 256) (hb : b < 256) : dbl (a ^^^ b) = dbl a ^^^ dbl b := by
  rw [← (dbl_slow (xor_lt ha hb)).1, ← (dbl_slow ha).1, ← (dbl_slow hb).1, slow_add]
theorem slowA_lt (f : Nat) : ∀ a b o, a < 256 → o < 256 → slowA f a b o < 256 := by
  induction f with
  | zero => intro a b o _ h; exact h
  | succ f ih =>
    intro a b o ha ho
    simp only [slowA]
    apply ih _ _ _ (dbl_lt ha)
    split
    · exact xor_lt ho ha
    · exact ho
theorem slow_lt {a : Nat} (b : Nat) (ha : a < 256) : slow a b < 256 := slowA_lt 8 a b 0 ha (by decide)
theorem slow_dbl {a b : Nat} (ha : a < 256) (hb : b < 256) : slow a (dbl b) = dbl (slow a b) := by
  have h := add_ext (f := fun b => slow a (slow 2 b)) (g := fun b => slow 2 (slow a b)) (fun x y => by simp only [slow_add]) (fun x y => by simp only [slow_add]) 8
    (fun k hk => by
      have e := (basis_at ha hk).2
      have hp : 2 ^ k < 256 := Nat.pow_lt_pow_right (by omega) (show k < 8 by omega)
      show slow a (slow 2 (2 ^ k)) = slow 2 (slow a (2 ^ k))
      rw [(dbl_slow hp).1, (dbl_slow (slow_lt _ ha)).1, e]) b hb
  rw [(dbl_slow hb).1, (dbl_slow (slow_lt _ ha)).1] at h
  exact h
theorem slow_pw (i j : Nat) : slow (pw i) (pw j) = pw (i + j) := by
  induction j with
  | zero => rw [pw_zero]; exact (dbl_slow (pw_lt i)).2.1
  | succ j ih => rw [pw_succ j, slow_add, slow_dbl (pw_lt i) (pw_lt j), ih, ← pw_succ]; rfl
theorem slow_gm {a b : Nat} (ha : a < 256) (hb : b < 256) : slow a b = gm a b := by
  unfold gm
  by_cases h0 : a = 0
  · rw [if_pos h0, h0]; exact (dbl_slow hb).2.2
  · rw [if_neg h0]
    by_cases h1 : b = 0
    · rw [if_pos h1, h1]; exact add_zero (slow_add a)
    · rw [if_neg h1]
      conv => lhs; rw [← (pw_lg ha h0).1, ← (pw_lg hb h1).1]
      exact slow_pw _ _
theorem ref_gm {a b : Nat} (ha : a < 256) (hb : b < 256) : refM a b = gm a b := by
  rw [← slow_gm ha hb]
  exact (add_ext (slow_add a) (refM_add a) 8 (fun k hk => (basis_at ha hk).1) b hb).symm

/-! The field's laws. -/
theorem gm_lt (a b : Nat) : gm a b < 256 := by
  unfold gm
  split
  · decide
  · split
    · decide
    · exact pw_lt _
theorem gm_comm (a b : Nat) : gm a b = gm b a := by
  unfold gm
  by_cases h0 : a = 0 <;> by_cases h1 : b = 0 <;> simp [h0, h1, Nat.add_comm]
theorem gm_zero (a : Nat) : gm a 0 = 0 := by unfold gm; split <;> simp
theorem zero_gm (a : Nat) : gm 0 a = 0 := by unfold gm; simp
theorem gm_pw {a : Nat} (h0 : a ≠ 0) (k : Nat) : gm a (pw k) = pw (lg a + k) := by
  unfold gm
  rw [if_neg h0, if_neg (pw_ne k), lg_pw]
  exact pw_congr (by omega)
theorem gm_nz {a b : Nat} (h0 : a ≠ 0) (h1 : b ≠ 0) : gm a b = pw (lg a + lg b) := by unfold gm; rw [if_neg h0, if_neg h1]
theorem gm_ne {a b : Nat} (h0 : a ≠ 0) (h1 : b ≠ 0) : gm a b ≠ 0 := by rw [gm_nz h0 h1]; exact pw_ne _
theorem lg_gm {a b : Nat} (h0 : a ≠ 0) (h1 : b ≠ 0) : lg (gm a b) = (lg a + lg b) % 255 := by rw [gm_nz h0 h1, lg_pw]
theorem gm_one {a : Nat} (ha : a < 256) : gm a 1 = a := by rw [← slow_gm ha (by decide)]; exact (dbl_slow ha).2.1
theorem gm_assoc (a b c : Nat) : gm a (gm b c) = gm (gm a b) c := by
  by_cases h0 : a = 0
  · subst h0; simp only [zero_gm]
  · by_cases h1 : b = 0
    · subst h1; simp only [zero_gm, gm_zero]
    · by_cases h2 : c = 0
      · subst h2; simp only [gm_zero]
      · rw [gm_nz h0 (gm_ne h1 h2), gm_nz (gm_ne h0 h1) h2, lg_gm h1 h2, lg_gm h0 h1]
        exact pw_congr (by omega)
theorem gm_add {a b c : Nat} (ha : a < 256) (hb : b < 256) (hc : c < 256) : gm a (b ^^^ c) = gm a b ^^^ gm a c := by
  rw [← slow_gm ha (xor_lt hb hc), ← slow_gm ha hb, ← slow_gm ha hc, slow_add]
theorem gm_square {a b : Nat} (ha : a < 256) (hb : b < 256) : gm (a ^^^ b) (a ^^^ b) = gm a a ^^^ gm b b := by
  have hab := xor_lt ha hb
  rw [gm_add hab ha hb, gm_comm (a ^^^ b) a, gm_comm (a ^^^ b) b, gm_add ha ha hb, gm_add hb ha hb, gm_comm b a, xor_mid, Nat.xor_comm (gm a b) (gm b b), ← Nat.xor_assoc,
    Nat.xor_assoc, Nat.xor_assoc, Nat.xor_comm (gm b b) (gm a b), ← Nat.xor_assoc (gm a b), Nat.xor_self, Nat.zero_xor]
/-- The inverse; 0 has none. -/
def inv (a : Nat) : Nat := if a = 0 then 0 else pw (255 - lg a)
theorem inv_lt (a : Nat) : inv a < 256 := by
  unfold inv; split
  · decide
  · exact pw_lt _
theorem gm_inv {a : Nat} (ha : a < 256) (h0 : a ≠ 0) : gm a (inv a) = 1 := by
  have := (pw_lg ha h0).2
  unfold inv
  rw [if_neg h0, gm_pw h0, show lg a + (255 - lg a) = 0 + 255 by omega, pw_add255, pw_zero]
theorem inv_ne {a : Nat} (h0 : a ≠ 0) : inv a ≠ 0 := by unfold inv; rw [if_neg h0]; exact pw_ne _
theorem lg_inv {a : Nat} (h0 : a ≠ 0) : lg (inv a) = (255 - lg a) % 255 := by unfold inv; rw [if_neg h0, lg_pw]
theorem inv_uniq {a b : Nat} (ha : a < 256) (hb : b < 256) (h : gm a b = 1) : b = inv a := by
  have h0 : a ≠ 0 := fun e => by rw [e, zero_gm] at h; cases h
  have h1 : gm (inv a) (gm a b) = gm (inv a) 1 := by rw [h]
  rw [gm_assoc, gm_comm (inv a) a, gm_inv ha h0, gm_comm, gm_one hb, gm_one (inv_lt a)] at h1
  exact h1
theorem quo_eq {a b : Nat} (hb : b < 256) (h0 : a ≠ 0) (h1 : b ≠ 0) : pw (lg a + 255 - lg b) = gm a (inv b) := by
  have := (pw_lg hb h1).2
  rw [gm_nz h0 (inv_ne h1), lg_inv h1]
  exact pw_congr (by omega)
/-- That power of a number that is not 0. -/
def pwr (a n : Nat) : Nat := pw (lg a * n)
theorem pwr_zero (a : Nat) : pwr a 0 = 1 := by unfold pwr; rw [Nat.mul_zero]; exact pw_zero
theorem pwr_succ {a : Nat} (h0 : a ≠ 0) (n : Nat) : gm (pwr a n) a = pwr a (n + 1) := by
  unfold pwr
  rw [gm_comm, gm_pw h0, Nat.mul_succ, Nat.add_comm]
theorem pwr_mod (a n : Nat) : pw (lg a * n % 255) = pwr a n := by unfold pwr; exact pw_mod _
theorem pwr_mod' (a n : Nat) : pwr a (n % 255) = pwr a n := by
  unfold pwr
  exact pw_congr (by rw [Nat.mul_mod, Nat.mod_mod, ← Nat.mul_mod])
theorem pwr_inv {a : Nat} (ha : a < 256) (h0 : a ≠ 0) {n : Nat} (hn : n ≤ 255) : pwr (inv a) n = pwr a (255 - n) := by
  have := (pw_lg ha h0).2
  unfold pwr
  apply pw_congr
  rw [lg_inv h0, Nat.mod_mul_mod]
  have e : (255 - lg a) * n + 255 * lg a = lg a * (255 - n) + 255 * n := by
    obtain ⟨d, hd⟩ : ∃ d, 255 = lg a + d := ⟨255 - lg a, by omega⟩
    obtain ⟨m, hm⟩ : ∃ m, 255 = n + m := ⟨255 - n, by omega⟩
    rw [show 255 - lg a = d by omega, show 255 - n = m by omega]
    have : (255 : Nat) * lg a = (n + m) * lg a := by rw [← hm]
    have h2 : (255 : Nat) * n = (lg a + d) * n := by rw [← hd]
    rw [this, h2, Nat.add_mul, Nat.add_mul, Nat.mul_comm n (lg a), Nat.mul_comm m (lg a)]
    omega
  omega
theorem pwr_three (n : Nat) : pwr 3 n = pw n := by
  have : lg 3 = 1 := by decide +kernel
  unfold pwr; rw [this, Nat.one_mul]
end Go.Proofs.Ytmhknggjpggagaa
