/- Plain facts on the cipher: bytes, columns, squares, round keys. No program is named here. -/
import Derived.Test.YtpfhfnhbholboaaFmath
import Derived.Test.YtpfhfnhbholboaaMath
namespace Go.Proofs.Ytpfhfnhbholboaa
set_option linter.unusedVariables false

/-- A byte added to itself turned up by 1 to 4, and 99. -/
def aff (v : Nat) : Nat := ((((99 ^^^ v) ^^^ rot 8 v 1) ^^^ rot 8 v 2) ^^^ rot 8 v 3) ^^^ rot 8 v 4
def affB (v : Nat) : Nat := ((rot 8 v 1 ^^^ rot 8 v 3) ^^^ rot 8 v 6) ^^^ 5
theorem k_aff : allLt 256 (fun v => affB (aff v) == v && (aff (affB v) == v && (decide (aff v < 256) && decide (affB v < 256)))) = true := by decide +kernel
theorem aff_at {v : Nat} (h : v < 256) : affB (aff v) = v ∧ aff (affB v) = v ∧ aff v < 256 ∧ affB v < 256 := by
  have := allLt_at k_aff v h
  simpa using this
/-- The box of a byte, and the way back. -/
def box (x : Nat) : Nat := aff (inv x)
def bxb (y : Nat) : Nat := inv (affB y)
theorem inv_inv {a : Nat} (ha : a < 256) : inv (inv a) = a := by
  by_cases h0 : a = 0
  · subst h0; rfl
  · exact (inv_uniq (inv_lt a) ha (by rw [gm_comm]; exact gm_inv ha h0)).symm
theorem box_lt (x : Nat) : box x < 256 := (aff_at (inv_lt x)).2.2.1
theorem bxb_lt (x : Nat) : bxb x < 256 := inv_lt _
theorem bxb_box {x : Nat} (h : x < 256) : bxb (box x) = x := by unfold bxb box; rw [(aff_at (inv_lt x)).1, inv_inv h]
theorem box_bxb {y : Nat} (h : y < 256) : box (bxb y) = y := by unfold bxb box; rw [inv_inv (aff_at h).2.2.2, (aff_at h).2.1]

/-- A column's word: its first row's byte is the highest. -/
def wd (f : Nat → Nat) : Nat := ((f 0 * 256 + f 1) * 256 + f 2) * 256 + f 3
theorem wd_congr {f g : Nat → Nat} (h : ∀ r, r < 4 → f r = g r) : wd f = wd g := by
  unfold wd; rw [h 0 (by omega), h 1 (by omega), h 2 (by omega), h 3 (by omega)]
theorem wd_lt {f : Nat → Nat} (h : ∀ r, f r < 256) : wd f < 4294967296 := by
  have := h 0; have := h 1; have := h 2; have := h 3
  unfold wd; omega
theorem wd_zero : wd (fun _ => 0) = 0 := rfl
theorem lt4 {i : Nat} (h : i < 4) : i = 0 ∨ i = 1 ∨ i = 2 ∨ i = 3 := by omega
theorem wd_row {f : Nat → Nat} (h : ∀ r, f r < 256) {i : Nat} (hi : i < 4) : wd f / 2 ^ (8 * (3 - i)) % 256 = f i := by
  have := h 0; have := h 1; have := h 2; have := h 3
  unfold wd
  rcases lt4 hi with rfl | rfl | rfl | rfl
  · show _ / 16777216 % 256 = _; omega
  · show _ / 65536 % 256 = _; omega
  · show _ / 256 % 256 = _; omega
  · show _ / 1 % 256 = _; omega
theorem xor_join {a b c d : Nat} (hb : b < 256) (hd : d < 256) : (a * 256 + b) ^^^ (c * 256 + d) = (a ^^^ c) * 256 + (b ^^^ d) := by
  have h1 : ((a * 256 + b) ^^^ (c * 256 + d)) / 2 ^ 8 = a ^^^ c := by
    rw [Nat.xor_div_two_pow]; congr 1 <;> (show _ / 256 = _; omega)
  have h2 : ((a * 256 + b) ^^^ (c * 256 + d)) % 2 ^ 8 = b ^^^ d := by
    rw [Nat.xor_mod_two_pow]; congr 1 <;> (show _ % 256 = _; omega)
  have h3 : ((a * 256 + b) ^^^ (c * 256 + d)) / 256 = a ^^^ c := h1
  have h4 : ((a * 256 + b) ^^^ (c * 256 + d)) % 256 = b ^^^ d := h2
  omega
theorem wd_xor {f g : Nat → Nat} (hf : ∀ r, f r < 256) (hg : ∀ r, g r < 256) : wd f ^^^ wd g = wd (fun r => f r ^^^ g r) := by
  unfold wd
  rw [xor_join (hf 3) (hg 3), xor_join (hf 2) (hg 2), xor_join (hf 1) (hg 1)]
theorem or_join {a b : Nat} (n : Nat) (hb : b < 2 ^ n) : a * 2 ^ n ||| b = a * 2 ^ n + b := by
  rw [Nat.mul_comm, ← Nat.two_pow_add_eq_or_of_lt hb]
/-- The first i bytes of a column, the others noughts. -/
def wdp (f : Nat → Nat) (i : Nat) : Nat := wd fun r => if r < i then f r else 0
theorem wdp_zero (f : Nat → Nat) : wdp f 0 = 0 := by unfold wdp wd; simp
theorem wdp_all (f : Nat → Nat) : wdp f 4 = wd f := by unfold wdp wd; simp
theorem wdp_lt {f : Nat → Nat} (h : ∀ r, f r < 256) (i : Nat) : wdp f i < 4294967296 := wd_lt fun r => by
  show (if r < i then f r else 0) < 256
  split
  · exact h r
  · omega
theorem wdp_or {f : Nat → Nat} (h : ∀ r, f r < 256) {i : Nat} (hi : i < 4) : wdp f i ||| (f i * 2 ^ (8 * (3 - i))) = wdp f (i + 1) := by
  have h0 := h 0; have h1 := h 1; have h2 := h 2; have h3 := h 3
  unfold wdp wd
  rcases lt4 hi with rfl | rfl | rfl | rfl
  · simp; omega
  · have e := or_join (a := f 0) (b := f 1 * 65536) 24 (by omega)
    simp only [show (2 : Nat) ^ 24 = 16777216 from rfl] at e
    show ((f 0 * 256 + 0) * 256 + 0) * 256 + 0 ||| f 1 * 65536 = _
    rw [show ((f 0 * 256 + 0) * 256 + 0) * 256 + 0 = f 0 * 16777216 by omega, e]
    show _ = ((f 0 * 256 + f 1) * 256 + 0) * 256 + 0
    omega
  · have e := or_join (a := f 0 * 256 + f 1) (b := f 2 * 256) 16 (by omega)
    simp only [show (2 : Nat) ^ 16 = 65536 from rfl] at e
    show ((f 0 * 256 + f 1) * 256 + 0) * 256 + 0 ||| f 2 * 256 = _
    rw [show ((f 0 * 256 + f 1) * 256 + 0) * 256 + 0 = (f 0 * 256 + f 1) * 65536 by omega, e]
    show _ = ((f 0 * 256 + f 1) * 256 + f 2) * 256 + 0
    omega
  · have e := or_join (a := (f 0 * 256 + f 1) * 256 + f 2) (b := f 3) 8 (by omega)
    simp only [show (2 : Nat) ^ 8 = 256 from rfl] at e
    show ((f 0 * 256 + f 1) * 256 + f 2) * 256 + 0 ||| f 3 * 1 = _
    rw [Nat.add_zero, Nat.mul_one, e]
    rfl
theorem wd_rot {f : Nat → Nat} (h : ∀ r, f r < 256) {i : Nat} (hi : i < 4) : rot 32 (wd f) (8 * ((4 - i) % 4)) = wd (fun r => f ((r + 4 - i) % 4)) := by
  have h0 := h 0; have h1 := h 1; have h2 := h 2; have h3 := h 3
  have hw := wd_lt h
  unfold rot
  rcases lt4 hi with rfl | rfl | rfl | rfl
  · show (wd f * 2 ^ 0 % 2 ^ 32 ||| wd f / 2 ^ 32) = _
    rw [show (2 : Nat) ^ 32 = 4294967296 from rfl, Nat.div_eq_of_lt hw, Nat.pow_zero, Nat.mul_one, Nat.mod_eq_of_lt hw, Nat.or_zero]
    rfl
  · show (wd f * 16777216 % 4294967296 ||| wd f / 256) = wd (fun r => f ((r + 4 - 1) % 4))
    have e := or_join (a := f 3) (b := wd f / 256) 24 (by unfold wd; omega)
    simp only [show (2 : Nat) ^ 24 = 16777216 from rfl] at e
    rw [show wd f * 16777216 % 4294967296 = f 3 * 16777216 by unfold wd; omega, e]
    show _ = ((f 3 * 256 + f 0) * 256 + f 1) * 256 + f 2
    unfold wd; omega
  · show (wd f * 65536 % 4294967296 ||| wd f / 65536) = wd (fun r => f ((r + 4 - 2) % 4))
    have e := or_join (a := f 2 * 256 + f 3) (b := wd f / 65536) 16 (by unfold wd; omega)
    simp only [show (2 : Nat) ^ 16 = 65536 from rfl] at e
    rw [show wd f * 65536 % 4294967296 = (f 2 * 256 + f 3) * 65536 by unfold wd; omega, e]
    show _ = ((f 2 * 256 + f 3) * 256 + f 0) * 256 + f 1
    unfold wd; omega
  · show (wd f * 256 % 4294967296 ||| wd f / 16777216) = wd (fun r => f ((r + 4 - 3) % 4))
    have e := or_join (a := (f 1 * 256 + f 2) * 256 + f 3) (b := wd f / 16777216) 8 (by unfold wd; omega)
    simp only [show (2 : Nat) ^ 8 = 256 from rfl] at e
    rw [show wd f * 256 % 4294967296 = ((f 1 * 256 + f 2) * 256 + f 3) * 256 by unfold wd; omega, e]
    show _ = ((f 1 * 256 + f 2) * 256 + f 3) * 256 + f 0
    unfold wd; omega

/-- Squares: column, row. -/
def SqB (S : Nat → Nat → Nat) : Prop := ∀ c r, S c r < 256
def Same (S T : Nat → Nat → Nat) : Prop := ∀ c r, c < 4 → r < 4 → S c r = T c r
theorem Same.refl (S : Nat → Nat → Nat) : Same S S := fun _ _ _ _ => rfl
theorem Same.trans {S T U : Nat → Nat → Nat} (h : Same S T) (g : Same T U) : Same S U := fun c r hc hr => (h c r hc hr).trans (g c r hc hr)
theorem Same.symm {S T : Nat → Nat → Nat} (h : Same S T) : Same T S := fun c r hc hr => (h c r hc hr).symm
def adds (S K : Nat → Nat → Nat) : Nat → Nat → Nat := fun c r => S c r ^^^ K c r
def thr (b : Nat → Nat) (s : Nat) (S : Nat → Nat → Nat) : Nat → Nat → Nat := fun c r => b (S ((c + s * r) % 4) r)
def mix (p : Nat → Nat) (S : Nat → Nat → Nat) : Nat → Nat → Nat := fun c r => ((gm (S c 0) (p (r % 4)) ^^^ gm (S c 1) (p ((r + 3) % 4))) ^^^ gm (S c 2) (p ((r + 2) % 4))) ^^^ gm (S c 3) (p ((r + 1) % 4))
theorem SqB.adds {S K : Nat → Nat → Nat} (h : SqB S) (k : SqB K) : SqB (adds S K) := fun c r => xor_lt (h c r) (k c r)
theorem SqB.thr {b : Nat → Nat} (hb : ∀ x, b x < 256) (s : Nat) (S : Nat → Nat → Nat) : SqB (thr b s S) := fun _ _ => hb _
theorem SqB.mix (p : Nat → Nat) (S : Nat → Nat → Nat) : SqB (mix p S) := fun _ _ => xor_lt (xor_lt (xor_lt (gm_lt _ _) (gm_lt _ _)) (gm_lt _ _)) (gm_lt _ _)
theorem Same.adds {S T : Nat → Nat → Nat} (h : Same S T) (K : Nat → Nat → Nat) : Same (adds S K) (adds T K) := fun c r hc hr => by unfold Go.Proofs.Ytpfhfnhbholboaa.adds; rw [h c r hc hr]
theorem Same.thr {S T : Nat → Nat → Nat} (h : Same S T) (b : Nat → Nat) (s : Nat) : Same (thr b s S) (thr b s T) := fun c r hc hr => by unfold Go.Proofs.Ytpfhfnhbholboaa.thr; rw [h _ r (Nat.mod_lt _ (by omega)) hr]
theorem Same.mix {S T : Nat → Nat → Nat} (h : Same S T) (p : Nat → Nat) : Same (mix p S) (mix p T) := fun c r hc _ => by unfold Go.Proofs.Ytpfhfnhbholboaa.mix; rw [h c 0 hc (by omega), h c 1 hc (by omega), h c 2 hc (by omega), h c 3 hc (by omega)]
theorem adds_adds (S K : Nat → Nat → Nat) : adds (adds S K) K = S := by
  funext c r
  unfold adds
  rw [Nat.xor_assoc, Nat.xor_self, Nat.xor_zero]
theorem turn_back {c r : Nat} (hc : c < 4) (hr : r < 4) : ((c + 3 * r) % 4 + 1 * r) % 4 = c ∧ ((c + 1 * r) % 4 + 3 * r) % 4 = c := by omega
theorem thr_back {S : Nat → Nat → Nat} (h : SqB S) : Same (thr bxb 3 (thr box 1 S)) S := fun c r hc hr => by
  unfold thr
  rw [bxb_box (h _ _), (turn_back hc hr).1]
theorem thr_there {S : Nat → Nat → Nat} (h : SqB S) : Same (thr box 1 (thr bxb 3 S)) S := fun c r hc hr => by
  unfold thr
  rw [box_bxb (h _ _), (turn_back hc hr).2]
/-- What a column is multiplied by, its constant first; and the way back. -/
def m2 (k : Nat) : Nat := if k = 0 then 2 else if k = 3 then 3 else 1
def m14 (k : Nat) : Nat := if k = 0 then 14 else if k = 1 then 9 else if k = 2 then 13 else 11
theorem m2_lt (k : Nat) : m2 k < 256 := by unfold m2; split <;> (try split) <;> omega
theorem m14_lt (k : Nat) : m14 k < 256 := by unfold m14; split <;> (try split) <;> (try split) <;> omega
theorem gm_sum3 {x y z u p : Nat} (hx : x < 256) (hy : y < 256) (hz : z < 256) (hu : u < 256) (hp : p < 256) :
    gm (((x ^^^ y) ^^^ z) ^^^ u) p = ((gm x p ^^^ gm y p) ^^^ gm z p) ^^^ gm u p := by
  rw [gm_comm, gm_add hp (xor_lt (xor_lt hx hy) hz) hu, gm_add hp (xor_lt hx hy) hz, gm_add hp hx hy, gm_comm p x, gm_comm p y, gm_comm p z, gm_comm p u]
theorem xor16 (a b c d e f g h i j k l m n o p : Nat) :
    (((((a ^^^ b) ^^^ c) ^^^ d) ^^^ (((e ^^^ f) ^^^ g) ^^^ h)) ^^^ (((i ^^^ j) ^^^ k) ^^^ l)) ^^^ (((m ^^^ n) ^^^ o) ^^^ p) =
    (((((a ^^^ e) ^^^ i) ^^^ m) ^^^ (((b ^^^ f) ^^^ j) ^^^ n)) ^^^ (((c ^^^ g) ^^^ k) ^^^ o)) ^^^ (((d ^^^ h) ^^^ l) ^^^ p) := by
  simp only [Nat.xor_assoc]
  ac_rfl
theorem gm_col {x p q r s : Nat} (hx : x < 256) (hp : p < 256) (hq : q < 256) (hr : r < 256) (hs : s < 256) :
    ((gm x p ^^^ gm x q) ^^^ gm x r) ^^^ gm x s = gm x (((p ^^^ q) ^^^ r) ^^^ s) := by
  rw [gm_add hx (xor_lt (xor_lt hp hq) hr) hs, gm_add hx (xor_lt hp hq) hr, gm_add hx hp hq]
/-- What a column's byte is multiplied by in all, when it is multiplied twice. -/
def cf (p q : Nat → Nat) (r j : Nat) : Nat := ((gm (p ((0 + j) % 4)) (q (r % 4)) ^^^ gm (p ((1 + j) % 4)) (q ((r + 3) % 4))) ^^^ gm (p ((2 + j) % 4)) (q ((r + 2) % 4))) ^^^ gm (p ((3 + j) % 4)) (q ((r + 1) % 4))
def isOne (r j : Nat) : Nat := if (r + j) % 4 = 0 then 1 else 0
theorem mix_mix {p q : Nat → Nat} (hq : ∀ k, q k < 256) {S : Nat → Nat → Nat} (h : SqB S) (hc : ∀ r j, r < 4 → j < 4 → cf p q r j = isOne r j) : Same (mix q (mix p S)) S := by
  intro c r _ hr
  have hh := h c
  have g0 := hc r 0 hr (by omega); have g1 := hc r 1 hr (by omega); have g2 := hc r 2 hr (by omega); have g3 := hc r 3 hr (by omega)
  have step : mix q (mix p S) c r = ((gm (S c 0) (cf p q r 0) ^^^ gm (S c 1) (cf p q r 3)) ^^^ gm (S c 2) (cf p q r 2)) ^^^ gm (S c 3) (cf p q r 1) := by
    unfold mix
    simp only [gm_sum3 (gm_lt _ _) (gm_lt _ _) (gm_lt _ _) (gm_lt _ _) (hq _), ← gm_assoc]
    rw [xor16]
    rw [gm_col (hh 0) (gm_lt _ _) (gm_lt _ _) (gm_lt _ _) (gm_lt _ _), gm_col (hh 1) (gm_lt _ _) (gm_lt _ _) (gm_lt _ _) (gm_lt _ _), gm_col (hh 2) (gm_lt _ _) (gm_lt _ _) (gm_lt _ _) (gm_lt _ _), gm_col (hh 3) (gm_lt _ _) (gm_lt _ _) (gm_lt _ _) (gm_lt _ _)]
    rfl
  rw [step, g0, g1, g2, g3]
  rcases lt4 hr with rfl | rfl | rfl | rfl <;> simp [isOne, gm_zero, gm_one (hh _)]
theorem k_cf : (List.range 4).all (fun r => (List.range 4).all fun j => cf m2 m14 r j == isOne r j && cf m14 m2 r j == isOne r j) = true := by decide +kernel
theorem cf_at {r j : Nat} (hr : r < 4) (hj : j < 4) : cf m2 m14 r j = isOne r j ∧ cf m14 m2 r j = isOne r j := by
  have := k_cf
  rw [List.all_eq_true] at this
  have := this r (List.mem_range.2 hr)
  rw [List.all_eq_true] at this
  simpa using this j (List.mem_range.2 hj)
theorem mix_back {S : Nat → Nat → Nat} (h : SqB S) : Same (mix m14 (mix m2 S)) S := mix_mix m14_lt h fun _ _ hr hj => (cf_at hr hj).1
theorem mix_there {S : Nat → Nat → Nat} (h : SqB S) : Same (mix m2 (mix m14 S)) S := mix_mix m2_lt h fun _ _ hr hj => (cf_at hr hj).2

/-- The round key at j, of the words. -/
def rk (W : Nat → Nat → Nat) (j : Nat) : Nat → Nat → Nat := fun c r => W (4 * j + c) r
theorem SqB.rk {W : Nat → Nat → Nat} (h : SqB W) (j : Nat) : SqB (rk W j) := fun _ _ => h _ _
/-- A square behind the first key and k rounds; encrypted; and back. -/
def encR (W S : Nat → Nat → Nat) : Nat → Nat → Nat → Nat
  | 0 => adds S (rk W 0)
  | k + 1 => adds (mix m2 (thr box 1 (encR W S k))) (rk W (k + 1))
def enc (W : Nat → Nat → Nat) (n : Nat) (S : Nat → Nat → Nat) : Nat → Nat → Nat := adds (thr box 1 (encR W S (n - 1))) (rk W n)
def decR (W : Nat → Nat → Nat) (n : Nat) (S : Nat → Nat → Nat) : Nat → Nat → Nat → Nat
  | 0 => thr bxb 3 (adds S (rk W n))
  | k + 1 => thr bxb 3 (mix m14 (adds (decR W n S k) (rk W (n - 1 - k))))
def dec (W : Nat → Nat → Nat) (n : Nat) (S : Nat → Nat → Nat) : Nat → Nat → Nat := adds (decR W n S (n - 1)) (rk W 0)
theorem encR_bd {W S : Nat → Nat → Nat} (hW : SqB W) (hS : SqB S) : ∀ k, SqB (encR W S k)
  | 0 => hS.adds (hW.rk 0)
  | k + 1 => (SqB.mix _ _).adds (hW.rk (k + 1))
theorem enc_bd {W : Nat → Nat → Nat} (n : Nat) (S : Nat → Nat → Nat) (hW : SqB W) : SqB (enc W n S) := (SqB.thr box_lt _ _).adds (hW.rk n)
theorem decR_bd (W S : Nat → Nat → Nat) (n : Nat) : ∀ k, SqB (decR W n S k)
  | 0 => SqB.thr bxb_lt _ _
  | _ + 1 => SqB.thr bxb_lt _ _
theorem dec_bd {W : Nat → Nat → Nat} (n : Nat) (S : Nat → Nat → Nat) (hW : SqB W) : SqB (dec W n S) := (decR_bd W S n _).adds (hW.rk 0)
theorem Same.encR {S T : Nat → Nat → Nat} (h : Same S T) (W : Nat → Nat → Nat) : ∀ k, Same (encR W S k) (encR W T k)
  | 0 => h.adds _
  | k + 1 => (((Same.encR h W k).thr _ _).mix _).adds _
theorem Same.decR {S T : Nat → Nat → Nat} (h : Same S T) (W : Nat → Nat → Nat) (n : Nat) : ∀ k, Same (decR W n S k) (decR W n T k)
  | 0 => (h.adds _).thr _ _
  | k + 1 => (((Same.decR h W n k).adds _).mix _).thr _ _
theorem Same.enc {S T : Nat → Nat → Nat} (h : Same S T) (W : Nat → Nat → Nat) (n : Nat) : Same (enc W n S) (enc W n T) := ((h.encR W (n - 1)).thr _ _).adds _
theorem Same.dec {S T : Nat → Nat → Nat} (h : Same S T) (W : Nat → Nat → Nat) (n : Nat) : Same (dec W n S) (dec W n T) := (h.decR W n (n - 1)).adds _
theorem decR_enc {W S : Nat → Nat → Nat} (hW : SqB W) (hS : SqB S) (n : Nat) : ∀ k, k ≤ n - 1 → Same (decR W n (enc W n S) k) (encR W S (n - 1 - k))
  | 0, _ => by
    unfold decR enc
    rw [adds_adds]
    exact thr_back (encR_bd hW hS _)
  | k + 1, hk => by
    have ih := decR_enc hW hS n k (by omega)
    unfold decR
    obtain ⟨j, hj⟩ : ∃ j, n - 1 - k = j + 1 := ⟨n - 1 - k - 1, by omega⟩
    rw [hj] at ih ⊢
    rw [show n - 1 - (k + 1) = j by omega]
    have h1 := (ih.adds (rk W (j + 1)))
    have e : adds (encR W S (j + 1)) (rk W (j + 1)) = mix m2 (thr box 1 (encR W S j)) := by
      rw [encR, adds_adds]
    rw [e] at h1
    exact ((h1.mix m14).trans (mix_back (SqB.thr box_lt _ _))).thr bxb 3 |>.trans (thr_back (encR_bd hW hS _))
theorem dec_enc {W S : Nat → Nat → Nat} (hW : SqB W) (hS : SqB S) (n : Nat) : Same (dec W n (enc W n S)) S := by
  have h := (decR_enc hW hS n (n - 1) (Nat.le_refl _)).adds (rk W 0)
  rw [Nat.sub_self, encR, adds_adds] at h
  exact h
theorem encR_dec {W S : Nat → Nat → Nat} (hW : SqB W) (hS : SqB S) (n : Nat) : ∀ k, k ≤ n - 1 → Same (thr box 1 (encR W (dec W n S) k)) (if k = n - 1 then adds S (rk W n) else mix m14 (adds (decR W n S (n - 1 - (k + 1))) (rk W (k + 1)))) := by
  intro k
  induction k with
  | zero =>
    intro _
    have e0 : encR W (dec W n S) 0 = decR W n S (n - 1) := by unfold encR dec; rw [adds_adds]
    rw [e0]
    by_cases h : 0 = n - 1
    · rw [if_pos h, ← h, decR]
      exact thr_there (hS.adds (hW.rk n))
    · rw [if_neg h]
      obtain ⟨j, hj⟩ : ∃ j, n - 1 = j + 1 := ⟨n - 1 - 1, by omega⟩
      rw [hj, decR, show n - 1 - j = 0 + 1 by omega, show j + 1 - (0 + 1) = j by omega]
      exact thr_there (SqB.mix _ _)
  | succ k ih =>
    intro hk
    have ih := ih (by omega)
    rw [if_neg (by omega)] at ih
    have h1 := ((ih.mix m2).trans (mix_there ((decR_bd W S n _).adds (hW.rk _)))).adds (rk W (k + 1))
    rw [adds_adds] at h1
    have h2 : Same (encR W (dec W n S) (k + 1)) (decR W n S (n - 1 - (k + 1))) := h1
    refine (h2.thr box 1).trans ?_
    by_cases h : k + 1 = n - 1
    · rw [if_pos h, show n - 1 - (k + 1) = 0 by omega, decR]
      exact thr_there (hS.adds (hW.rk n))
    · rw [if_neg h]
      obtain ⟨j, hj⟩ : ∃ j, n - 1 - (k + 1) = j + 1 := ⟨n - 1 - (k + 1) - 1, by omega⟩
      rw [hj, decR, show n - 1 - j = k + 1 + 1 by omega, show n - 1 - (k + 1 + 1) = j by omega]
      exact thr_there (SqB.mix _ _)
theorem enc_dec {W S : Nat → Nat → Nat} (hW : SqB W) (hS : SqB S) (n : Nat) : Same (enc W n (dec W n S)) S := by
  have h := (encR_dec hW hS n (n - 1) (Nat.le_refl _)).adds (rk W n)
  rw [if_pos rfl, adds_adds] at h
  exact h

/-- What is added to the word n ahead, out of the one ahead. -/
def tmp (n i : Nat) (x : Nat → Nat) : Nat → Nat := fun r =>
  if i % n = 0 then box (x ((r + 1) % 4)) ^^^ (if r = 0 then pwr 2 (i / n - 1) else 0)
  else if n = 8 ∧ i % 8 = 4 then box (x r) else x r
/-- The words of the round keys, the first n + m of them. -/
def kx (n : Nat) (K : Nat → Nat → Nat) : Nat → Nat → Nat → Nat
  | 0 => K
  | m + 1 => fun j r => if j = n + m then kx n K m m r ^^^ tmp n (n + m) (kx n K m (n + m - 1)) r else kx n K m j r
theorem pwr_lt (a n : Nat) : pwr a n < 256 := pw_lt _
theorem tmp_lt (n i : Nat) {x : Nat → Nat} (h : ∀ r, x r < 256) (r : Nat) : tmp n i x r < 256 := by
  unfold tmp
  split
  · refine xor_lt (box_lt _) ?_
    split
    · exact pwr_lt _ _
    · omega
  · split
    · exact box_lt _
    · exact h r
theorem kx_bd (n : Nat) {K : Nat → Nat → Nat} (h : SqB K) : ∀ m, SqB (kx n K m)
  | 0 => h
  | m + 1 => fun j r => by
    show (if j = n + m then kx n K m m r ^^^ tmp n (n + m) (kx n K m (n + m - 1)) r else kx n K m j r) < 256
    split
    · exact xor_lt (kx_bd n h m _ _) (tmp_lt _ _ (kx_bd n h m _) _)
    · exact kx_bd n h m _ _
theorem kx_old {n : Nat} (K : Nat → Nat → Nat) {m j : Nat} (h : j ≠ n + m) : kx n K (m + 1) j = kx n K m j := by
  funext r
  show (if j = n + m then _ else _) = _
  rw [if_neg h]
theorem kx_new (n : Nat) (K : Nat → Nat → Nat) (m : Nat) : kx n K (m + 1) (n + m) = fun r => kx n K m m r ^^^ tmp n (n + m) (kx n K m (n + m - 1)) r := by
  funext r
  show (if n + m = n + m then _ else _) = _
  rw [if_pos rfl]
theorem kx_early {n : Nat} (K : Nat → Nat → Nat) {m m' j : Nat} (h : m ≤ m') (hj : j < n + m) : kx n K m' j = kx n K m j := by
  induction m' with
  | zero =>
    obtain rfl : m = 0 := (by omega)
    rfl
  | succ k ih =>
    by_cases e : m = k + 1
    · rw [e]
    · rw [kx_old K (by omega), ih (by omega)]
end Go.Proofs.Ytpfhfnhbholboaa
