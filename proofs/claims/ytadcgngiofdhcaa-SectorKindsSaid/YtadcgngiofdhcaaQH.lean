/- Texts of mine, one behind the other: Hm Hw Hp Hq Hr Hn Ht Hx. -/
import Derived.WalkKit
import Derived.Test.YtadcgngiofdhcaaQ1
import Derived.Deep.OwnRows
import Derived.Deep.RegionHeld
import Derived.Test.YtadcgngiofdhcaaRows
import Derived.BigQuiet
import Derived.BigRegion
import Derived.Deep.CutRange
import Derived.Deep.RegionWith
import Derived.Deep.DrawnRows
import Derived.StillTailTactics
import Derived.Deep.QuietTactic
import Derived.Lib.Hide
import Derived.OpenShut
import Derived.ProofKit
import Derived.Laws.BitsAllLaws
/- The document's constants of SHA-256: digits, roots, primes. Plain maths; no program is named here. -/
namespace Go.Proofs.Ytadcgngiofdhcaa
set_option linter.unusedVariables false

/-- The number that digits of 16 bits make, the lowest first. -/
def dv : List Nat → Nat
  | [] => 0
  | d :: l => d + 65536 * dv l
theorem dv_append : ∀ (l : List Nat) (d : Nat), dv (l ++ [d]) = dv l + d * 65536 ^ l.length
  | [], d => by simp [dv]
  | a :: l, d => by
    simp only [List.cons_append, dv, dv_append l d, List.length_cons, Nat.pow_succ]
    rw [Nat.mul_add, ← Nat.add_assoc, Nat.mul_left_comm, Nat.mul_comm 65536 (65536 ^ l.length)]
/-- All digits are such. -/
def Dig (l : List Nat) : Prop := ∀ x ∈ l, x < 65536
theorem Dig.snoc {l : List Nat} (h : Dig l) {d : Nat} (hd : d < 65536) : Dig (l ++ [d]) := fun x hx => by
  rcases List.mem_append.1 hx with h1 | h1
  · exact h x h1
  · rw [List.mem_singleton.1 h1]; exact hd
theorem Dig.getD {l : List Nat} (h : Dig l) (i : Nat) : l.getD i 0 < 65536 := by
  by_cases hi : i < l.length
  · have : l.getD i 0 = l[i] := by simp [List.getD_eq_getElem?_getD, List.getElem?_eq_getElem hi]
    rw [this]; exact h _ (List.getElem_mem hi)
  · have : l.getD i 0 = 0 := by simp [List.getD_eq_getElem?_getD, List.getElem?_eq_none (Nat.le_of_not_lt hi)]
    rw [this]; omega
/-- So many of the digits. -/
def dvF (f : Nat → Nat) : Nat → Nat
  | 0 => 0
  | k + 1 => dvF f k + f k * 65536 ^ k
theorem dvF_lt {f : Nat → Nat} (h : ∀ t, f t < 65536) : ∀ k, dvF f k < 65536 ^ k
  | 0 => by simp [dvF]
  | k + 1 => by
    have h1 := dvF_lt h k
    have h2 := Nat.mul_le_mul_right (65536 ^ k) (show f k ≤ 65535 by have := h k; omega)
    rw [dvF, Nat.pow_succ, Nat.mul_comm (65536 ^ k) 65536]
    omega
theorem dvF_congr {f g : Nat → Nat} : ∀ {k}, (∀ t, t < k → f t = g t) → dvF f k = dvF g k
  | 0, _ => rfl
  | k + 1, h => by rw [dvF, dvF, dvF_congr (fun t ht => h t (by omega)), h k (by omega)]
theorem dv_dvF : ∀ l : List Nat, dv l = dvF (fun t => l.getD t 0) l.length := by
  intro l
  obtain ⟨m, hm⟩ : ∃ m, m = l.length := ⟨_, rfl⟩
  induction m generalizing l with
  | zero => obtain rfl : l = [] := List.eq_nil_of_length_eq_zero hm.symm; rfl
  | succ m ih =>
    obtain ⟨l', d, rfl⟩ : ∃ l' d, l = l' ++ [d] := ⟨l.dropLast, l.getLast (by intro h; simp [h] at hm), (List.dropLast_concat_getLast _).symm⟩
    have hl : m = l'.length := by simp at hm; exact hm
    rw [dv_append, ih l' hl, List.length_append, List.length_singleton, dvF]
    congr 1
    · exact dvF_congr fun t ht => by simp [List.getD_eq_getElem?_getD, List.getElem?_append_left ht]
    · simp [List.getD_eq_getElem?_getD]
theorem dvF_more {l : List Nat} : ∀ k, l.length ≤ k → dvF (fun t => l.getD t 0) k = dv l
  | 0, h => by rw [List.eq_nil_of_length_eq_zero (Nat.le_zero.1 h)]; rfl
  | k + 1, h => by
    by_cases e : l.length = k + 1
    · rw [dv_dvF, e]
    · rw [dvF, dvF_more k (by omega)]
      simp [List.getD_eq_getElem?_getD, List.getElem?_eq_none (show l.length ≤ k by omega)]
/-- Digits, compared from the highest on. -/
theorem dvF_cmp {f g : Nat → Nat} (hf : ∀ t, f t < 65536) (hg : ∀ t, g t < 65536) {i : Nat} (hgt : g i < f i) : ∀ k, i < k → (∀ t, i < t → t < k → f t = g t) → dvF g k < dvF f k
  | 0, h, _ => by omega
  | k + 1, h, he => by
    by_cases e : i = k
    · subst e
      have h1 := dvF_lt hg i
      have h2 := Nat.mul_le_mul_right (65536 ^ i) (show g i + 1 ≤ f i from hgt)
      rw [Nat.add_mul, Nat.one_mul] at h2
      rw [dvF, dvF]
      omega
    · have := dvF_cmp hf hg hgt k (by omega) (fun t h1 h2 => he t h1 (by omega))
      rw [dvF, dvF, he k (by omega) (by omega)]
      omega
theorem dv_zeros (n p : Nat) : dv (List.replicate n 0 ++ [p]) = p * 65536 ^ n := by
  rw [dv_append, List.length_replicate]
  have : dv (List.replicate n 0) = 0 := by
    induction n with
    | zero => rfl
    | succ n ih => rw [List.replicate_succ, dv, ih]
  omega
/-- A digit of a product. -/
theorem dv_step {N O : List Nat} {c x i : Nat} (hN : N.length = i) (h : dv N + c * 65536 ^ i = x * dv (O.take i)) {c1 : Nat} (h1 : c1 = c + O.getD i 0 * x) :
    dv (N ++ [c1 % 65536]) + c1 / 65536 * 65536 ^ (i + 1) = x * dv (O.take (i + 1)) := by
  rw [dv_append, hN, Nat.pow_succ, Nat.mul_comm (65536 ^ i) 65536, ← Nat.mul_assoc, Nat.add_assoc, ← Nat.add_mul, show c1 % 65536 + c1 / 65536 * 65536 = c1 by omega, h1, Nat.add_mul, ← Nat.add_assoc, h]
  by_cases hi : i < O.length
  · have e : O.getD i 0 = O[i] := by simp [List.getD_eq_getElem?_getD, List.getElem?_eq_getElem hi]
    rw [List.take_succ_eq_append_getElem hi, dv_append, List.length_take, Nat.min_eq_left (by omega), e, Nat.mul_add, Nat.mul_comm O[i] x, Nat.mul_assoc]
  · have e : O.getD i 0 = 0 := by simp [List.getD_eq_getElem?_getD, List.getElem?_eq_none (Nat.le_of_not_lt hi)]
    rw [e, List.take_of_length_le (by omega), List.take_of_length_le (by omega)]
    omega
theorem carry_le {c x d : Nat} (hc : c ≤ x) (hd : d < 65536) : (c + d * x) / 65536 ≤ x := by
  have h : d * x ≤ 65535 * x := Nat.mul_le_mul_right x (by omega)
  omega
theorem pow_root {n a b : Nat} (hn : 0 < n) (h : a ^ n < b ^ n) : a < b := by
  rcases Nat.lt_or_ge a b with h1 | h1
  · exact h1
  · exact absurd (Nat.pow_le_pow_left h1 n) (by omega)
theorem root_uniq {n P x r : Nat} (hn : 0 < n) (h1 : x ^ n ≤ P) (h2 : P < (x + 1) ^ n) (h3 : r ^ n ≤ P) (h4 : P < (r + 1) ^ n) : x = r := by
  have a := pow_root hn (Nat.lt_of_le_of_lt h1 h4)
  have b := pow_root hn (Nat.lt_of_le_of_lt h3 h2)
  omega
/-- The primes that have come when p is looked at, k behind 2. -/
def pq (out : List Nat) (p : Nat) : List Nat := if out.all (fun q => p % q != 0) then out ++ [p] else out
def ps : Nat → List Nat
  | 0 => []
  | k + 1 => pq (ps k) (k + 2)
theorem ps_le (k : Nat) : (ps k).length ≤ (ps (k + 1)).length := by
  rw [ps]; unfold pq; split <;> simp
theorem ps_mono {j k : Nat} (h : j ≤ k) : (ps j).length ≤ (ps k).length := by
  induction k with
  | zero => rw [Nat.le_zero.1 h]; exact Nat.le_refl _
  | succ k ih =>
    by_cases e : j = k + 1
    · rw [e]; exact Nat.le_refl _
    · exact Nat.le_trans (ih (by omega)) (ps_le k)
theorem ps_mem : ∀ k, ∀ q ∈ ps k, 2 ≤ q ∧ q ≤ k + 1
  | 0, q, h => by cases h
  | k + 1, q, h => by
    rw [ps] at h; unfold pq at h
    split at h
    · rcases List.mem_append.1 h with h1 | h1
      · have := ps_mem k q h1; omega
      · rw [List.mem_singleton.1 h1]; omega
    · have := ps_mem k q h; omega
/-- The first 64 primes. -/
def p64 : List Nat := [2, 3, 5, 7, 11, 13, 17, 19, 23, 29, 31, 37, 41, 43, 47, 53, 59, 61, 67, 71, 73, 79, 83, 89, 97, 101, 103, 107, 109, 113, 127, 131, 137, 139, 149, 151, 157, 163, 167, 173, 179, 181, 191, 193, 197, 199, 211, 223, 227, 229, 233, 239, 241, 251, 257, 263, 269, 271, 277, 281, 283, 293, 307, 311]
theorem ps_309 : (ps 309).length = 63 := by decide +kernel
theorem ps_310 : ps 310 = p64 := by decide +kernel
theorem ps_few {k : Nat} (h : k ≤ 309) : (ps k).length < 64 := by have := ps_mono h; rw [ps_309] at this; omega
end Go.Proofs.Ytadcgngiofdhcaa
/- Rows of words of 64 bits in memory. No program is named here. -/
namespace Go.Proofs.Ytadcgngiofdhcaa
open Go.RowKit
set_option linter.unusedVariables false

def v64 (l : List Nat) : List Value := l.map fun x => .int .u64 ((x : Nat) : Int)
theorem v64_len (l : List Nat) : (v64 l).length = l.length := by simp [v64]
theorem v64_append (l m : List Nat) : v64 (l ++ m) = v64 l ++ v64 m := by simp [v64]
theorem v64_get {l : List Nat} {i : Nat} (h : i < l.length) : (v64 l)[i]? = some (.int .u64 ((l.getD i 0 : Nat) : Int)) := by
  simp [v64, List.getD_eq_getElem?_getD, List.getElem?_eq_getElem h]
/-- A slice that reads as numbers. -/
def A64 (w : World) (a : Option Addr) (n c : Nat) (l : List Nat) : Prop := l.length = n ∧ n ≤ c ∧ c ≤ maxLen ∧
  (0 < n → ∃ b off, a = some ⟨b, off, none⟩ ∧ b < w.heap.size ∧ ∀ i, i < n → w.cell? ⟨b, off + i, none⟩ = some (.int .u64 ((l.getD i 0 : Nat) : Int)))
theorem A64.on {w w' : World} {a : Option Addr} {n c : Nat} {l : List Nat} (h : A64 w a n c l) (hb : Below w.heap.size w w') : A64 w' a n c l := by
  obtain ⟨h1, h2, h3, h4⟩ := h
  refine ⟨h1, h2, h3, fun h0 => ?_⟩
  obtain ⟨b, off, e, hlt, hc⟩ := h4 h0
  exact ⟨b, off, e, Nat.lt_of_lt_of_le hlt hb.size, fun i hi => (hb.cell (p := ⟨b, off + i, none⟩) hlt).trans (hc i hi)⟩
theorem A64.at_ {w : World} {a : Option Addr} {n c : Nat} {l : List Nat} (h : A64 w a n c l) {i : Nat} (hi : i < n) :
    ∃ b off, a = some ⟨b, off, none⟩ ∧ b < w.heap.size ∧ w.cell? ⟨b, off + i, none⟩ = some (.int .u64 ((l.getD i 0 : Nat) : Int)) := by
  obtain ⟨b, off, e, hlt, hc⟩ := h.2.2.2 (by omega)
  exact ⟨b, off, e, hlt, hc i hi⟩
theorem A64.other {w : World} {g off n c : Nat} {l : List Nat} (h : A64 w (some ⟨g, off, none⟩) n c l) (p : Addr) (v : Value) (hne : p.block ≠ g) : A64 (w.setCell p v) (some ⟨g, off, none⟩) n c l := by
  obtain ⟨h1, h2, h3, h4⟩ := h
  refine ⟨h1, h2, h3, fun h0 => ?_⟩
  obtain ⟨b, o, e, hlt, hc⟩ := h4 h0
  cases e
  exact ⟨_, _, rfl, by simpa using hlt, fun i hi => (World.cell?_setCell_far w p ⟨g, off + i, none⟩ v hne).trans (hc i hi)⟩
theorem own64 {w : World} {base : Nat} {e : TypeId} {a : Option Addr} {n c : Nat} {l : List Nat} (h : w.ownsRow base e 1 (.slice a n c) n (v64 l)) : A64 w a n c l := by
  have hl : l.length = n := by have := h.1; rw [v64_len] at this; omega
  rcases h.2 with ⟨hv, h0⟩ | ⟨g, cap, cur, hv, hg, hh, hn, hm, hsz, htk⟩
  · injection hv with e1 e2 e3
    subst e1 e2 e3
    exact ⟨hl, Nat.le_refl _, Nat.zero_le _, fun h => by omega⟩
  · injection hv with e1 e2 e3
    subst e1 e3
    refine ⟨hl, hn, hm, fun h0 => ⟨g, 0, rfl, (Array.getElem?_eq_some_iff.1 hh).1, fun i hi => ?_⟩⟩
    rw [Nat.zero_add, h.cellAt i (by omega), v64_get (by omega)]
theorem own_blockGe {w : World} {base : Nat} {e : TypeId} {v : Value} {n : Nat} {xs : List Value} (h : w.ownsRow base e 1 v n xs) : ∀ k, v.ownBlock = some k → base ≤ k := by
  intro k hk
  rcases h.2 with ⟨rfl, _⟩ | ⟨g, cap, cur, rfl, hg, _⟩
  · cases hk
  · have : some g = some k := hk
    injection this with this
    omega
theorem own_empty64 (w : World) (e : TypeId) : (w.alloc (.cells #[] e)).ownsRow w.heap.size e 1 (.slice (some ⟨w.heap.size, 0, none⟩) 0 0) 0 (v64 []) :=
  World.ownsRow_lit (base := w.heap.size) (e := e) (size := 1) w #[] 0 (Nat.le_refl _) (Nat.zero_le _) rfl
theorem own_one64 (w : World) (e : TypeId) (x : Nat) : (w.alloc (.cells #[.int .u64 ((x : Nat) : Int)] e)).ownsRow w.heap.size e 1 (.slice (some ⟨w.heap.size, 0, none⟩) 1 1) 1 (v64 [x]) :=
  World.ownsRow_lit (base := w.heap.size) (e := e) (size := 1) w #[.int .u64 ((x : Nat) : Int)] 1 (Nat.le_refl _) (by unfold maxLen; omega) rfl
theorem own_zeros64 {w : World} {e : TypeId} {n : Nat} (hm : n ≤ maxLen) :
    (w.alloc (.cells (madeCells #[Value.int .u64 0] n) e)).ownsRow w.heap.size e 1 (.slice (some ⟨w.heap.size, 0, none⟩) n n) n (v64 (List.replicate n 0)) := by
  have := World.ownsRow_lit (base := w.heap.size) (e := e) (size := 1) w (madeCells #[Value.int .u64 0] n) n (Nat.le_refl _) hm (by simp [size_madeCells])
  rw [toList_madeCells_one] at this
  simpa [v64] using this
/-- append of one number. -/
theorem wpList_append_one64 {P : Program} {w : World} {ops : Array Oper} {rest : List Oper} {o : Oper} {a : Act} {Q : Exit → Act → World → Prop} (hgd : o.guard = none) (s x : Operand) (t : TypeId)
    (ho : o.op = .call { callee := .builtin .append, args := #[s, x], argTypes := #[t, t] })
    (base : Nat) (e : TypeId) (i : TypeInfo) (ht : P.underlying t = some (.slice e)) (hi : P.info? e = some i) (hz : i.zero = some (.int .u64 0)) (hsize : i.size = 1) (hby : i.bytes = 8)
    (ad : Option Addr) (n c : Nat) (l : List Nat) (hs : a.eval s = .slice ad n c) (hown : w.ownsRow base e 1 (.slice ad n c) n (v64 l))
    (g : Nat) (d : Int) (y : Nat) (hy : d = ((y : Nat) : Int)) (hx : a.eval x = .slice (some ⟨g, 0, none⟩) 1 1) (hc : w.cell? ⟨g, 0, none⟩ = some (.int .u64 d)) (hn : n ≤ 1000000) (hbase : base ≤ w.heap.size)
    (h : ∀ g' c' w', w'.ownsRow base e 1 (.slice (some ⟨g', 0, none⟩) (n + 1) c') (n + 1) (v64 (l ++ [y])) → Below base w w' → wpList P ops Q rest (a.put o.dst (.slice (some ⟨g', 0, none⟩) (n + 1) c')) w') :
    wpList P ops Q (o :: rest) a w := by
  refine wpList_append_own w hgd s x t ho base e i (.int .u64 0) 1 8 ht hi hz hsize hby rfl (by decide) (.slice ad n c) n (v64 l) hs hown ⟨g, 0, none⟩ 1 1 (v64 [y]) hx rfl ?_ (fun u hu => by simp [v64] at hu; subst hu; rfl) (by unfold maxLen; omega) (by omega) hbase ?_
  · intro j u hj
    match j, hj with
    | 0, hj => simp [v64] at hj; subst hj; simp [Addr.add]; rw [hc, hy]
  · intro v' w' h1 h2 _
    obtain ⟨g', c', rfl⟩ : ∃ g' c', v' = .slice (some ⟨g', 0, none⟩) (n + 1) c' := by
      rcases h1.2 with ⟨_, h0⟩ | ⟨g', c', cur, hv, _⟩
      · omega
      · exact ⟨g', c', hv⟩
    rw [← v64_append] at h1
    exact h g' c' w' h1 ((Below.refl _ _).grown h2 hbase (own_blockGe hown))
end Go.Proofs.Ytadcgngiofdhcaa
/- The document's power and above (layer 7). -/
namespace Go.Proofs.Ytadcgngiofdhcaa
open Go.ChangeShapes Go.WideShapes Go.ChangeAt Go.RowKit
set_option linter.unusedVariables false
set_option maxRecDepth 100000

theorem info64 : (Try.prog.info? 26).map (fun i => (i.zero, i.size, i.bytes)) = some (some (.int .u64 0), 1, 8) := by kernel_rfl
end Go.Proofs.Ytadcgngiofdhcaa
/- The document's above and Fraction (layer 7). -/
namespace Go.Proofs.Ytadcgngiofdhcaa
open Go.ChangeShapes Go.WideShapes Go.ChangeAt Go.RowKit
set_option linter.unusedVariables false
set_option maxRecDepth 100000

theorem ret_b {a b : Bool} (h : a = b) : Ending.returned (.bool a) = .returned (.bool b) := by rw [h]
end Go.Proofs.Ytadcgngiofdhcaa
/- The document's Fraction and Primes (layer 7). -/
namespace Go.Proofs.Ytadcgngiofdhcaa
open Go.ChangeShapes Go.WideShapes Go.ChangeAt Go.RowKit
set_option linter.unusedVariables false
set_option maxRecDepth 100000

theorem ret_iH {k : IntKind} {a b : Int} (h : a = b) : Ending.returned (.int k a) = .returned (.int k b) := by rw [h]
end Go.Proofs.Ytadcgngiofdhcaa
/- SHA-256 as lists and functions: plain maths; no program is named here. -/
namespace Go.Proofs.Ytadcgngiofdhcaa
open Go.RowKit
set_option linter.unusedVariables false

/-- The roots of the first primes, with 32 bits behind the point. -/
def R3 : List Nat := [5411319704, 6194414737, 7344290767, 8215976869, 9551921755, 10098905585, 11043570340, 11460697813, 12214315672, 13195500289, 13492127166, 14311783875, 14809980276, 15046980094, 15499789991, 16133124468, 16720292289, 16907126662, 17444216262, 17784676812, 17950125167, 18429019306, 18734950876, 19175934170, 19734090066, 20001703533, 20132865992, 20390182855, 20516441075, 20764397895, 21588763473, 21813078375, 22141143685, 22248366392, 22769593852, 22871018771, 23170020180, 23461497531, 23651862830, 23931792517, 24205322401, 24295138891, 24734567280, 24820601251, 24990902297, 25075189284, 25569408389, 26045227120, 26200031510, 26276752392, 26428864332, 26653801653, 26727943347, 27092625994, 27306805839, 27517677555, 27725365998, 27793908591, 27997534228, 28131656200, 28198240250, 28526537963, 28973835255, 29099129074]
def R2 : List Nat := [6074000999, 7439101573, 9603838834, 11363415354, 14244795007, 15485724812, 17708603819, 18721328409]
/-- Any two tables of words. -/
structure Tbl where
  K : Nat → Nat
  H : Nat → Nat
  Klt : ∀ i, K i < 4294967296
  Hlt : ∀ i, H i < 4294967296
def KF [Inhabited Tbl] (i : Nat) : Nat := (default : Tbl).K i
def HF0 [Inhabited Tbl] (i : Nat) : Nat := (default : Tbl).H i
theorem R3_root : ∀ i, i < 64 → R3.getD i 0 ^ 3 ≤ p64.getD i 0 * 65536 ^ (2 * 3) ∧ p64.getD i 0 * 65536 ^ (2 * 3) < (R3.getD i 0 + 1) ^ 3 ∧ p64.getD i 0 * 65536 ^ (2 * 3) < 68719476736 ^ 3 ∧ p64.getD i 0 < 65536 := by decide +kernel
theorem R2_root : ∀ i, i < 8 → R2.getD i 0 ^ 2 ≤ p64.getD i 0 * 65536 ^ (2 * 2) ∧ p64.getD i 0 * 65536 ^ (2 * 2) < (R2.getD i 0 + 1) ^ 2 ∧ p64.getD i 0 * 65536 ^ (2 * 2) < 68719476736 ^ 2 := by decide +kernel
theorem KF_lt [Inhabited Tbl] (i : Nat) : KF i < 4294967296 := (default : Tbl).Klt i
theorem HF0_lt [Inhabited Tbl] (i : Nat) : HF0 i < 4294967296 := (default : Tbl).Hlt i
/-- Turned to the right. -/
def rr (n x : Nat) : Nat := x / 2 ^ n ||| x * 2 ^ (32 - n) % 4294967296
def ad (a b : Nat) : Nat := (a + b) % 4294967296
def sg0 (x : Nat) : Nat := rr 7 x ^^^ rr 18 x ^^^ x / 2 ^ 3
def sg1 (x : Nat) : Nat := rr 17 x ^^^ rr 19 x ^^^ x / 2 ^ 10
def Sg0 (x : Nat) : Nat := rr 2 x ^^^ rr 13 x ^^^ rr 22 x
def Sg1 (x : Nat) : Nat := rr 6 x ^^^ rr 11 x ^^^ rr 25 x
def chf (e f g : Nat) : Nat := (e &&& f) ^^^ ((4294967295 - e) &&& g)
def mjf (a b c : Nat) : Nat := (a &&& b) ^^^ (a &&& c) ^^^ (b &&& c)
theorem xor32 {x y : Nat} (h : x < 4294967296) (k : y < 4294967296) : x ^^^ y < 4294967296 := Nat.xor_lt_two_pow (n := 32) h k
theorem or32 {x y : Nat} (h : x < 4294967296) (k : y < 4294967296) : x ||| y < 4294967296 := Nat.or_lt_two_pow (n := 32) h k
theorem and32 {x y : Nat} (k : y < 4294967296) : x &&& y < 4294967296 := Nat.and_lt_two_pow (n := 32) x k
theorem and32' {x y : Nat} (h : x < 4294967296) : x &&& y < 4294967296 := by rw [Nat.and_comm]; exact and32 h
theorem div32 {x : Nat} (h : x < 4294967296) (n : Nat) : x / 2 ^ n < 4294967296 := Nat.lt_of_le_of_lt (Nat.div_le_self _ _) h
theorem rr_lt {x : Nat} (h : x < 4294967296) (n : Nat) : rr n x < 4294967296 := or32 (div32 h n) (Nat.mod_lt _ (by omega))
theorem ad_lt (a b : Nat) : ad a b < 4294967296 := Nat.mod_lt _ (by omega)
theorem sg0_lt {x : Nat} (h : x < 4294967296) : sg0 x < 4294967296 := xor32 (xor32 (rr_lt h _) (rr_lt h _)) (div32 h _)
theorem sg1_lt {x : Nat} (h : x < 4294967296) : sg1 x < 4294967296 := xor32 (xor32 (rr_lt h _) (rr_lt h _)) (div32 h _)
theorem Sg0_lt {x : Nat} (h : x < 4294967296) : Sg0 x < 4294967296 := xor32 (xor32 (rr_lt h _) (rr_lt h _)) (rr_lt h _)
theorem Sg1_lt {x : Nat} (h : x < 4294967296) : Sg1 x < 4294967296 := xor32 (xor32 (rr_lt h _) (rr_lt h _)) (rr_lt h _)
theorem chf_lt {e f g : Nat} (hf : f < 4294967296) (hg : g < 4294967296) : chf e f g < 4294967296 := xor32 (and32 hf) (and32 hg)
theorem mjf_lt {a b c : Nat} (hb : b < 4294967296) (hc : c < 4294967296) : mjf a b c < 4294967296 := xor32 (xor32 (and32 hb) (and32 hc)) (and32 hc)
/-- The words of a block, so many. -/
def wsL (m : Nat → Nat) : Nat → List Nat
  | 0 => []
  | t + 1 => wsL m t ++ [if t < 16 then m t else ad (ad (ad (sg1 ((wsL m t).getD (t - 2) 0)) ((wsL m t).getD (t - 7) 0)) (sg0 ((wsL m t).getD (t - 15) 0))) ((wsL m t).getD (t - 16) 0)]
theorem length_wsL (m : Nat → Nat) : ∀ t, (wsL m t).length = t
  | 0 => rfl
  | t + 1 => by rw [wsL, List.length_append, length_wsL m t]; rfl
def ws (m : Nat → Nat) (j : Nat) : Nat := (wsL m (j + 1)).getD j 0
theorem wsL_getD (m : Nat → Nat) {j : Nat} : ∀ {t}, j < t → (wsL m t).getD j 0 = ws m j
  | 0, h => by omega
  | t + 1, h => by
    by_cases e : j = t
    · subst e; rfl
    · rw [wsL, List.getD_eq_getElem?_getD, List.getElem?_append_left (by rw [length_wsL]; omega), ← List.getD_eq_getElem?_getD]
      exact wsL_getD m (by omega)
theorem ws_first (m : Nat → Nat) {t : Nat} (h : t < 16) : ws m t = m t := by
  unfold ws
  rw [wsL, if_pos h, List.getD_eq_getElem?_getD, List.getElem?_append_right (by rw [length_wsL]; omega), length_wsL]
  simp
theorem ws_next (m : Nat → Nat) {t : Nat} (h : ¬ t < 16) : ws m t = ad (ad (ad (sg1 (ws m (t - 2))) (ws m (t - 7))) (sg0 (ws m (t - 15)))) (ws m (t - 16)) := by
  rw [ws, wsL, if_neg h, List.getD_eq_getElem?_getD, List.getElem?_append_right (by rw [length_wsL]; omega), length_wsL, wsL_getD m (by omega), wsL_getD m (by omega), wsL_getD m (by omega), wsL_getD m (by omega)]
  simp
theorem ws_lt {m : Nat → Nat} (hm : ∀ t, m t < 4294967296) (t : Nat) : ws m t < 4294967296 := by
  by_cases h : t < 16
  · rw [ws_first m h]; exact hm t
  · rw [ws_next m h]; exact ad_lt _ _
/-- One round of eight words. -/
def rt1 (v : Nat → Nat) (k w : Nat) : Nat := ad (ad (ad (ad (v 7) (Sg1 (v 4))) (chf (v 4) (v 5) (v 6))) k) w
def rt2 (v : Nat → Nat) : Nat := ad (Sg0 (v 0)) (mjf (v 0) (v 1) (v 2))
def rnd (v : Nat → Nat) (k w : Nat) (i : Nat) : Nat :=
  if i = 0 then ad (rt1 v k w) (rt2 v) else if i = 4 then ad (v 3) (rt1 v k w) else v (i - 1)
def comp [Inhabited Tbl] (h w : Nat → Nat) : Nat → Nat → Nat
  | 0 => h
  | t + 1 => rnd (comp h w t) (KF t) (w t)
theorem rnd_lt {v : Nat → Nat} (hv : ∀ i, v i < 4294967296) (k w i : Nat) : rnd v k w i < 4294967296 := by
  unfold rnd
  split
  · exact ad_lt _ _
  · split
    · exact ad_lt _ _
    · exact hv _
theorem comp_lt [Inhabited Tbl] {h : Nat → Nat} (hh : ∀ i, h i < 4294967296) (w : Nat → Nat) : ∀ t i, comp h w t i < 4294967296
  | 0, i => hh i
  | t + 1, i => rnd_lt (comp_lt hh w t) _ _ i
def blkF [Inhabited Tbl] (h m : Nat → Nat) (i : Nat) : Nat := ad (h i) (comp h (ws m) 64 i)
/-- The word of four bytes, and the words of a block. -/
def gw (M : List Int) (j : Nat) : Nat := (M.getD j 0).toNat * 16777216 + (M.getD (j + 1) 0).toNat * 65536 + (M.getD (j + 2) 0).toNat * 256 + (M.getD (j + 3) 0).toNat
def mF (M : List Int) (o t : Nat) : Nat := gw M (o + 4 * t)
def hF [Inhabited Tbl] (M : List Int) : Nat → Nat → Nat
  | 0 => HF0
  | j + 1 => blkF (hF M j) (mF M (64 * j))
theorem hF_lt [Inhabited Tbl] (M : List Int) : ∀ j i, hF M j i < 4294967296
  | 0, i => HF0_lt i
  | j + 1, i => ad_lt _ _
theorem toNat_byte {M : List Int} (hM : AllB M) (j : Nat) : (M.getD j 0).toNat < 256 := by
  by_cases hk : j < M.length
  · have e : M.getD j 0 = M[j] := by simp [List.getD_eq_getElem?_getD, List.getElem?_eq_getElem hk]
    have := hM _ (List.getElem_mem hk)
    rw [e]; omega
  · have e : M.getD j 0 = 0 := by simp [List.getD_eq_getElem?_getD, List.getElem?_eq_none (Nat.le_of_not_lt hk)]
    rw [e]; simp
theorem gw_lt {M : List Int} (hM : AllB M) (j : Nat) : gw M j < 4294967296 := by
  have h0 := toNat_byte hM j; have h1 := toNat_byte hM (j + 1); have h2 := toNat_byte hM (j + 2); have h3 := toNat_byte hM (j + 3)
  unfold gw; omega
theorem or4 {a b c d : Nat} (ha : a < 256) (hb : b < 256) (hc : c < 256) (hd : d < 256) : a * 16777216 ||| b * 65536 ||| c * 256 ||| d = a * 16777216 + b * 65536 + c * 256 + d := by
  rw [nat_join 24 (a * 16777216) (b * 65536) (by omega) (by omega), nat_join 16 (a * 16777216 + b * 65536) (c * 256) (by omega) (by omega), nat_join 8 (a * 16777216 + b * 65536 + c * 256) d (by omega) (by omega)]
/-- How many noughts go behind the 128. -/
def zc (n : Nat) : Nat := (119 - n % 64) % 64
theorem zc_end (n : Nat) : (n + 1 + zc n) % 64 = 56 := by unfold zc; omega
theorem zc_few {n z : Nat} (h : z < zc n) : (n + 1 + z) % 64 ≠ 56 := by unfold zc at h; omega
theorem zc_lt (n : Nat) : zc n < 64 := by unfold zc; omega
/-- Bytes of a word, the highest first. -/
def w4 (x : Nat) : List Int := [((x / 2 ^ 24 % 256 : Nat) : Int), ((x / 2 ^ 16 % 256 : Nat) : Int), ((x / 2 ^ 8 % 256 : Nat) : Int), ((x % 256 : Nat) : Int)]
theorem w4_B (x : Nat) : AllB (w4 x) := fun y hy => by
  simp only [w4, List.mem_cons, List.not_mem_nil, or_false] at hy
  rcases hy with rfl | rfl | rfl | rfl <;> omega
def w8 (x j : Nat) : Int := ((x / 2 ^ (8 * (7 - j)) % 256 : Nat) : Int)
def w8L (x : Nat) : Nat → List Int
  | 0 => []
  | j + 1 => w8L x j ++ [w8 x j]
theorem length_w8L (x : Nat) : ∀ j, (w8L x j).length = j
  | 0 => rfl
  | j + 1 => by rw [w8L, List.length_append, length_w8L x j]; rfl
theorem w8L_B (x : Nat) : ∀ j, AllB (w8L x j)
  | 0 => fun y hy => by cases hy
  | j + 1 => fun y hy => by
    rcases List.mem_append.1 hy with h | h
    · exact w8L_B x j y h
    · rw [List.mem_singleton.1 h]; unfold w8; omega
/-- What the blocks are cut of. -/
def shaM (b : List Int) : List Int := b ++ [128] ++ List.replicate (zc b.length) 0 ++ w8L (8 * b.length) 8
theorem shaM_B {b : List Int} (h : AllB b) : AllB (shaM b) := fun y hy => by
  rcases List.mem_append.1 hy with hy | hy
  · rcases List.mem_append.1 hy with hy | hy
    · rcases List.mem_append.1 hy with hy | hy
      · exact h y hy
      · rw [List.mem_singleton.1 hy]; omega
    · rw [(List.mem_replicate.1 hy).2]; omega
  · exact w8L_B _ _ y hy
theorem shaM_len (b : List Int) : (shaM b).length = b.length + 1 + zc b.length + 8 := by
  simp [shaM, length_w8L]; omega
theorem shaM_64 (b : List Int) : (shaM b).length % 64 = 0 := by rw [shaM_len]; have := zc_end b.length; omega
/-- The first words' bytes. -/
def outW (h : Nat → Nat) : Nat → List Int
  | 0 => []
  | j + 1 => outW h j ++ w4 (h j)
theorem length_outW (h : Nat → Nat) : ∀ j, (outW h j).length = 4 * j
  | 0 => rfl
  | j + 1 => by rw [outW, List.length_append, length_outW h j]; simp [w4]; omega
theorem outW_B (h : Nat → Nat) : ∀ j, AllB (outW h j)
  | 0 => fun y hy => by cases hy
  | j + 1 => fun y hy => (List.mem_append.1 hy).elim (outW_B h j y) (w4_B _ y)
/-- The sum. -/
def shaL [Inhabited Tbl] (b : List Int) : List Int := outW (hF (shaM b) ((shaM b).length / 64)) 8
theorem shaL_len [Inhabited Tbl] (b : List Int) : (shaL b).length = 32 := length_outW _ 8
theorem shaL_B [Inhabited Tbl] (b : List Int) : AllB (shaL b) := outW_B _ 8
end Go.Proofs.Ytadcgngiofdhcaa
/- The document's turn (layer 7). -/
namespace Go.Proofs.Ytadcgngiofdhcaa
open Go.ChangeShapes Go.WideShapes Go.ChangeAt Go.RowKit
set_option linter.unusedVariables false
set_option maxRecDepth 100000

end Go.Proofs.Ytadcgngiofdhcaa
/- The chapter's example, "abc", reckoned (written by gen33.py). -/
namespace Go.Proofs.Ytadcgngiofdhcaa
end Go.Proofs.Ytadcgngiofdhcaa
