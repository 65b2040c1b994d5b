/- Texts of mine, one behind the other: Hm Hw Hp Hq Hr Hn Ht Hx. -/
import Derived.WalkKit
import Derived.Test.YtkfdcdfaikkneaaGreatDoorQ1
import Derived.Deep.OwnRows
import Derived.Deep.RegionHeld
import Derived.Test.YtkfdcdfaikkneaaGreatDoorRows
import Derived.BigQuiet
import Derived.BigRegion
import Derived.Deep.CutRange
import Derived.Deep.RegionWith
import Derived.Deep.DrawnRows
import Derived.StillTailTactics
import Derived.Deep.QuietTactic
import Derived.Lib.Hide
import Derived.OpenShut
import Derived.ProofKit
import Derived.Laws.BitsAllLaws
/- The document's constants of SHA-256: digits, roots, primes. Plain maths; no program is named here. -/
namespace Go.Proofs.YtkfdcdfaikkneaaGreatDoor
set_option linter.unusedVariables false

/-- The number that digits of 16 bits make, the lowest first. -/
def dv : List Nat → Nat
  | [] => 0
  | d :: l => d + 65536 * dv l
theorem dv_append : ∀ (l : List Nat) (d : Nat), dv (l ++ [d]) = dv l + d * 65536 ^ l.length
  | [], d => by simp [dv]
  | a :: l, d => by
    simp only [List.cons_append, dv, dv_append l d, List.length_cons, Nat.pow_succ]
    rw [Nat.mul_add, ← Nat.add_assoc, Nat.mul_left_comm, Nat.mul_comm 65536 (65536 ^ l.length)]
/-- All digits are such. -/
def Dig (l : List Nat) : Prop := ∀ x ∈ l, x < 65536
theorem Dig.snoc {l : List Nat} (h : Dig l) {d : Nat} (hd : d < 65536) : Dig (l ++ [d]) := fun x hx => by
  rcases List.mem_append.1 hx with h1 | h1
  · exact h x h1
  · rw [List.mem_singleton.1 h1]; exact hd
theorem Dig.getD {l : List Nat} (h : Dig l) (i : Nat) : l.getD i 0 < 65536 := by
  by_cases hi : i < l.length
  · have : l.getD i 0 = l[i] := by simp [List.getD_eq_getElem?_getD, List.getElem?_eq_getElem hi]
    rw [this]; exact h _ (List.getElem_mem hi)
  · have : l.getD i 0 = 0 := by simp [List.getD_eq_getElem?_getD, List.getElem?_eq_none (Nat.le_of_not_lt hi)]
    rw [this]; omega
/-- So many of the digits. -/
def dvF (f : Nat → Nat) : Nat → Nat
  | 0 => 0
  | k + 1 => dvF f k + f k * 65536 ^ k
theorem dvF_lt {f : Nat → Nat} (h : ∀ t, f t < 65536) : ∀ k, dvF f k < 65536 ^ k
  | 0 => by simp [dvF]
  | k + 1 => by
    have h1 := dvF_lt h k
    have h2 := Nat.mul_le_mul_right (65536 ^ k) (show f k ≤ 65535 by have := h k; omega)
    rw [dvF, Nat.pow_succ, Nat.mul_comm (65536 ^ k) 65536]
    omega
theorem dvF_congr {f g : Nat → Nat} : ∀ {k}, (∀ t, t < k → f t = g t) → dvF f k = dvF g k
  | 0, _ => rfl
  | k + 1, h => by rw [dvF, dvF, dvF_congr (fun t ht => h t (by omega)), h k (by omega)]
theorem dv_dvF : ∀ l : List Nat, dv l = dvF (fun t => l.getD t 0) l.length := by
  intro l
  obtain ⟨m, hm⟩ : ∃ m, m = l.length := ⟨_, rfl⟩
  induction m generalizing l with
  | zero => obtain rfl : l = [] := List.eq_nil_of_length_eq_zero hm.symm; rfl
  | succ m ih =>
    obtain ⟨l', d, rfl⟩ : ∃ l' d, l = l' ++ [d] := ⟨l.dropLast, l.getLast (by intro h; simp [h] at hm), (List.dropLast_concat_getLast _).symm⟩
    have hl : m = l'.length := by simp at hm; exact hm
    rw [dv_append, ih l' hl, List.length_append, List.length_singleton, dvF]
    congr 1
    · exact dvF_congr fun t ht => by simp [List.getD_eq_getElem?_getD, List.getElem?_append_left ht]
    · simp [List.getD_eq_getElem?_getD]
theorem dvF_more {l : List Nat} : ∀ k, l.length ≤ k → dvF (fun t => l.getD t 0) k = dv l
  | 0, h => by rw [List.eq_nil_of_length_eq_zero (Nat.le_zero.1 h)]; rfl
  | k + 1, h => by
    by_cases e : l.length = k + 1
    · rw [dv_dvF, e]
    · rw [dvF, dvF_more k (by omega)]
      simp [List.getD_eq_getElem?_getD, List.getElem?_eq_none (show l.length ≤ k by omega)]
/-- Digits, compared from the highest on. -/
theorem dvF_cmp {f g : Nat → Nat} (hf : ∀ t, f t < 65536) (hg : ∀ t, g t < 65536) {i : Nat} (hgt : g i < f i) : ∀ k, i < k → (∀ t, i < t → t < k → f t = g t) → dvF g k < dvF f k
  | 0, h, _ => by omega
  | k + 1, h, he => by
    by_cases e : i = k
    · subst e
      have h1 := dvF_lt hg i
      have h2 := Nat.mul_le_mul_right (65536 ^ i) (show g i + 1 ≤ f i from hgt)
      rw [Nat.add_mul, Nat.one_mul] at h2
      rw [dvF, dvF]
      omega
    · have := dvF_cmp hf hg hgt k (by omega) (fun t h1 h2 => he t h1 (by omega))
      rw [dvF, dvF, he k (by omega) (by omega)]
      omega
theorem dv_zeros (n p : Nat) : dv (List.replicate n 0 ++ [p]) = p * 65536 ^ n := by
  rw [dv_append, List.length_replicate]
  have : dv (List.replicate n 0) = 0 := by
    induction n with
    | zero => rfl
    | succ n ih => rw [List.replicate_succ, dv, ih]
  omega
/-- A digit of a product. -/
theorem dv_step {N O : List Nat} {c x i : Nat} (hN : N.length = i) (h : dv N + c * 65536 ^ i = x * dv (O.take i)) {c1 : Nat} (h1 : c1 = c + O.getD i 0 * x) :
    dv (N ++ [c1 % 65536]) + c1 / 65536 * 65536 ^ (i + 1) = x * dv (O.take (i + 1)) := by
  rw [dv_append, hN, Nat.pow_succ, Nat.mul_comm (65536 ^ i) 65536, ← Nat.mul_assoc, Nat.add_assoc, ← Nat.add_mul, show c1 % 65536 + c1 / 65536 * 65536 = c1 by omega, h1, Nat.add_mul, ← Nat.add_assoc, h]
  by_cases hi : i < O.length
  · have e : O.getD i 0 = O[i] := by simp [List.getD_eq_getElem?_getD, List.getElem?_eq_getElem hi]
    rw [List.take_succ_eq_append_getElem hi, dv_append, List.length_take, Nat.min_eq_left (by omega), e, Nat.mul_add, Nat.mul_comm O[i] x, Nat.mul_assoc]
  · have e : O.getD i 0 = 0 := by simp [List.getD_eq_getElem?_getD, List.getElem?_eq_none (Nat.le_of_not_lt hi)]
    rw [e, List.take_of_length_le (by omega), List.take_of_length_le (by omega)]
    omega
theorem carry_le {c x d : Nat} (hc : c ≤ x) (hd : d < 65536) : (c + d * x) / 65536 ≤ x := by
  have h : d * x ≤ 65535 * x := Nat.mul_le_mul_right x (by omega)
  omega
theorem pow_root {n a b : Nat} (hn : 0 < n) (h : a ^ n < b ^ n) : a < b := by
  rcases Nat.lt_or_ge a b with h1 | h1
  · exact h1
  · exact absurd (Nat.pow_le_pow_left h1 n) (by omega)
theorem root_uniq {n P x r : Nat} (hn : 0 < n) (h1 : x ^ n ≤ P) (h2 : P < (x + 1) ^ n) (h3 : r ^ n ≤ P) (h4 : P < (r + 1) ^ n) : x = r := by
  have a := pow_root hn (Nat.lt_of_le_of_lt h1 h4)
  have b := pow_root hn (Nat.lt_of_le_of_lt h3 h2)
  omega
/-- The primes that have come when p is looked at, k behind 2. -/
def pq (out : List Nat) (p : Nat) : List Nat := if out.all (fun q => p % q != 0) then out ++ [p] else out
def ps : Nat → List Nat
  | 0 => []
  | k + 1 => pq (ps k) (k + 2)
theorem ps_le (k : Nat) : (ps k).length ≤ (ps (k + 1)).length := by
  rw [ps]; unfold pq; split <;> simp
theorem ps_mono {j k : Nat} (h : j ≤ k) : (ps j).length ≤ (ps k).length := by
  induction k with
  | zero => rw [Nat.le_zero.1 h]; exact Nat.le_refl _
  | succ k ih =>
    by_cases e : j = k + 1
    · rw [e]; exact Nat.le_refl _
    · exact Nat.le_trans (ih (by omega)) (ps_le k)
theorem ps_mem : ∀ k, ∀ q ∈ ps k, 2 ≤ q ∧ q ≤ k + 1
  | 0, q, h => by cases h
  | k + 1, q, h => by
    rw [ps] at h; unfold pq at h
    split at h
    · rcases List.mem_append.1 h with h1 | h1
      · have := ps_mem k q h1; omega
      · rw [List.mem_singleton.1 h1]; omega
    · have := ps_mem k q h; omega
/-- The first 64 primes. -/
def p64 : List Nat := [2, 3, 5, 7, 11, 13, 17, 19, 23, 29, 31, 37, 41, 43, 47, 53, 59, 61, 67, 71, 73, 79, 83, 89, 97, 101, 103, 107, 109, 113, 127, 131, 137, 139, 149, 151, 157, 163, 167, 173, 179, 181, 191, 193, 197, 199, 211, 223, 227, 229, 233, 239, 241, 251, 257, 263, 269, 271, 277, 281, 283, 293, 307, 311]
theorem ps_309 : (ps 309).length = 63 := by decide +kernel
theorem ps_310 : ps 310 = p64 := by decide +kernel
theorem ps_few {k : Nat} (h : k ≤ 309) : (ps k).length < 64 := by have := ps_mono h; rw [ps_309] at this; omega
end Go.Proofs.YtkfdcdfaikkneaaGreatDoor
/- Rows of words of 64 bits in memory. No program is named here. -/
namespace Go.Proofs.YtkfdcdfaikkneaaGreatDoor
open Go.RowKit
set_option linter.unusedVariables false

def v64 (l : List Nat) : List Value := l.map fun x => .int .u64 ((x : Nat) : Int)
theorem v64_len (l : List Nat) : (v64 l).length = l.length := by simp [v64]
theorem v64_append (l m : List Nat) : v64 (l ++ m) = v64 l ++ v64 m := by simp [v64]
theorem v64_get {l : List Nat} {i : Nat} (h : i < l.length) : (v64 l)[i]? = some (.int .u64 ((l.getD i 0 : Nat) : Int)) := by
  simp [v64, List.getD_eq_getElem?_getD, List.getElem?_eq_getElem h]
/-- A slice that reads as numbers. -/
def A64 (w : World) (a : Option Addr) (n c : Nat) (l : List Nat) : Prop := l.length = n ∧ n ≤ c ∧ c ≤ maxLen ∧
  (0 < n → ∃ b off, a = some ⟨b, off, none⟩ ∧ b < w.heap.size ∧ ∀ i, i < n → w.cell? ⟨b, off + i, none⟩ = some (.int .u64 ((l.getD i 0 : Nat) : Int)))
theorem A64.on {w w' : World} {a : Option Addr} {n c : Nat} {l : List Nat} (h : A64 w a n c l) (hb : Below w.heap.size w w') : A64 w' a n c l := by
  obtain ⟨h1, h2, h3, h4⟩ := h
  refine ⟨h1, h2, h3, fun h0 => ?_⟩
  obtain ⟨b, off, e, hlt, hc⟩ := h4 h0
  exact ⟨b, off, e, Nat.lt_of_lt_of_le hlt hb.size, fun i hi => (hb.cell (p := ⟨b, off + i, none⟩) hlt).trans (hc i hi)⟩
theorem A64.at_ {w : World} {a : Option Addr} {n c : Nat} {l : List Nat} (h : A64 w a n c l) {i : Nat} (hi : i < n) :
    ∃ b off, a = some ⟨b, off, none⟩ ∧ b < w.heap.size ∧ w.cell? ⟨b, off + i, none⟩ = some (.int .u64 ((l.getD i 0 : Nat) : Int)) := by
  obtain ⟨b, off, e, hlt, hc⟩ := h.2.2.2 (by omega)
  exact ⟨b, off, e, hlt, hc i hi⟩
theorem A64.other {w : World} {g off n c : Nat} {l : List Nat} (h : A64 w (some ⟨g, off, none⟩) n c l) (p : Addr) (v : Value) (hne : p.block ≠ g) : A64 (w.setCell p v) (some ⟨g, off, none⟩) n c l := by
  obtain ⟨h1, h2, h3, h4⟩ := h
  refine ⟨h1, h2, h3, fun h0 => ?_⟩
  obtain ⟨b, o, e, hlt, hc⟩ := h4 h0
  cases e
  exact ⟨_, _, rfl, by simpa using hlt, fun i hi => (World.cell?_setCell_far w p ⟨g, off + i, none⟩ v hne).trans (hc i hi)⟩
theorem own64 {w : World} {base : Nat} {e : TypeId} {a : Option Addr} {n c : Nat} {l : List Nat} (h : w.ownsRow base e 1 (.slice a n c) n (v64 l)) : A64 w a n c l := by
  have hl : l.length = n := by have := h.1; rw [v64_len] at this; omega
  rcases h.2 with ⟨hv, h0⟩ | ⟨g, cap, cur, hv, hg, hh, hn, hm, hsz, htk⟩
  · injection hv with e1 e2 e3
    subst e1 e2 e3
    exact ⟨hl, Nat.le_refl _, Nat.zero_le _, fun h => by omega⟩
  · injection hv with e1 e2 e3
    subst e1 e3
    refine ⟨hl, hn, hm, fun h0 => ⟨g, 0, rfl, (Array.getElem?_eq_some_iff.1 hh).1, fun i hi => ?_⟩⟩
    rw [Nat.zero_add, h.cellAt i (by omega), v64_get (by omega)]
theorem own_blockGe {w : World} {base : Nat} {e : TypeId} {v : Value} {n : Nat} {xs : List Value} (h : w.ownsRow base e 1 v n xs) : ∀ k, v.ownBlock = some k → base ≤ k := by
  intro k hk
  rcases h.2 with ⟨rfl, _⟩ | ⟨g, cap, cur, rfl, hg, _⟩
  · cases hk
  · have : some g = some k := hk
    injection this with this
    omega
theorem own_empty64 (w : World) (e : TypeId) : (w.alloc (.cells #[] e)).ownsRow w.heap.size e 1 (.slice (some ⟨w.heap.size, 0, none⟩) 0 0) 0 (v64 []) :=
  World.ownsRow_lit (base := w.heap.size) (e := e) (size := 1) w #[] 0 (Nat.le_refl _) (Nat.zero_le _) rfl
theorem own_one64 (w : World) (e : TypeId) (x : Nat) : (w.alloc (.cells #[.int .u64 ((x : Nat) : Int)] e)).ownsRow w.heap.size e 1 (.slice (some ⟨w.heap.size, 0, none⟩) 1 1) 1 (v64 [x]) :=
  World.ownsRow_lit (base := w.heap.size) (e := e) (size := 1) w #[.int .u64 ((x : Nat) : Int)] 1 (Nat.le_refl _) (by unfold maxLen; omega) rfl
theorem own_zeros64 {w : World} {e : TypeId} {n : Nat} (hm : n ≤ maxLen) :
    (w.alloc (.cells (madeCells #[Value.int .u64 0] n) e)).ownsRow w.heap.size e 1 (.slice (some ⟨w.heap.size, 0, none⟩) n n) n (v64 (List.replicate n 0)) := by
  have := World.ownsRow_lit (base := w.heap.size) (e := e) (size := 1) w (madeCells #[Value.int .u64 0] n) n (Nat.le_refl _) hm (by simp [size_madeCells])
  rw [toList_madeCells_one] at this
  simpa [v64] using this
/-- append of one number. -/
theorem wpList_append_one64 {P : Program} {w : World} {ops : Array Oper} {rest : List Oper} {o : Oper} {a : Act} {Q : Exit → Act → World → Prop} (hgd : o.guard = none) (s x : Operand) (t : TypeId)
    (ho : o.op = .call { callee := .builtin .append, args := #[s, x], argTypes := #[t, t] })
    (base : Nat) (e : TypeId) (i : TypeInfo) (ht : P.underlying t = some (.slice e)) (hi : P.info? e = some i) (hz : i.zero = some (.int .u64 0)) (hsize : i.size = 1) (hby : i.bytes = 8)
    (ad : Option Addr) (n c : Nat) (l : List Nat) (hs : a.eval s = .slice ad n c) (hown : w.ownsRow base e 1 (.slice ad n c) n (v64 l))
    (g : Nat) (d : Int) (y : Nat) (hy : d = ((y : Nat) : Int)) (hx : a.eval x = .slice (some ⟨g, 0, none⟩) 1 1) (hc : w.cell? ⟨g, 0, none⟩ = some (.int .u64 d)) (hn : n ≤ 1000000) (hbase : base ≤ w.heap.size)
    (h : ∀ g' c' w', w'.ownsRow base e 1 (.slice (some ⟨g', 0, none⟩) (n + 1) c') (n + 1) (v64 (l ++ [y])) → Below base w w' → wpList P ops Q rest (a.put o.dst (.slice (some ⟨g', 0, none⟩) (n + 1) c')) w') :
    wpList P ops Q (o :: rest) a w := by
  refine wpList_append_own w hgd s x t ho base e i (.int .u64 0) 1 8 ht hi hz hsize hby rfl (by decide) (.slice ad n c) n (v64 l) hs hown ⟨g, 0, none⟩ 1 1 (v64 [y]) hx rfl ?_ (fun u hu => by simp [v64] at hu; subst hu; rfl) (by unfold maxLen; omega) (by omega) hbase ?_
  · intro j u hj
    match j, hj with
    | 0, hj => simp [v64] at hj; subst hj; simp [Addr.add]; rw [hc, hy]
  · intro v' w' h1 h2 _
    obtain ⟨g', c', rfl⟩ : ∃ g' c', v' = .slice (some ⟨g', 0, none⟩) (n + 1) c' := by
      rcases h1.2 with ⟨_, h0⟩ | ⟨g', c', cur, hv, _⟩
      · omega
      · exact ⟨g', c', hv⟩
    rw [← v64_append] at h1
    exact h g' c' w' h1 ((Below.refl _ _).grown h2 hbase (own_blockGe hown))
end Go.Proofs.YtkfdcdfaikkneaaGreatDoor
/- The document's power and above (layer 7). -/
namespace Go.Proofs.YtkfdcdfaikkneaaGreatDoor
open Go.ChangeShapes Go.WideShapes Go.ChangeAt Go.RowKit
set_option linter.unusedVariables false
set_option maxRecDepth 100000

theorem info64 : (Tryz.prog.info? 39).map (fun i => (i.zero, i.size, i.bytes)) = some (some (.int .u64 0), 1, 8) := by kernel_rfl
set_option maxHeartbeats 2000000 in
theorem power_any (x N : Nat) (hx : x < 281474976710656) (hN : N ≤ 3) (w : World) :
    Calls Tryz.prog 105 #[.int .u64 (x : Nat), .int .i64 (N : Nat)] w fun e w' => ∃ a c O, e = .returned (.slice a (List.length O) c) ∧ A64 w' a O.length c O ∧ Dig O ∧ dv O = x ^ N ∧ O.length ≤ 10 ∧ Below w.heap.size w w' := by
  obtain ⟨i6, hi, hz0, hz1, hz2⟩ := info_parts info64
  have HI := Lib.hid hi
  have HZ0 := Lib.hid hz0
  have HZ1 := Lib.hid hz1
  have HZ2 := Lib.hid hz2
  have HXX := Lib.hid hx
  have hxq : (x : Int) < 281474976710656 := by omega
  clear hi hz0 hz1 hz2 hx
  have H1 := Lib.hid (own64 (own_one64 w 39 1))
  have HB1 := Lib.hid (show Below w.heap.size w (w.alloc (.cells #[.int .u64 ((1 : Nat) : Int)] 39)) from (Below.refl _ _).alloc (Nat.le_refl _) _)
  go_enter Tryz.func105, Tryz.ntmps105
  go_wp2_with fail
  go_loopw [1, 5] (fun q out V => ∃ (j : Nat) (a : Option Addr) (c : Nat) (O : List Nat), j ≤ N ∧ q = .int .i64 ((N - j : Nat) : Int) ∧ out = .slice a O.length c ∧ A64 V a O.length c O ∧ Dig O ∧ dv O = x ^ j ∧ O.length ≤ 3 * j + 1 ∧ Below w.heap.size w V) (fun q _ _ => (intOf q).toNat)
  case atStart => exact ⟨0, _, _, [1], by omega, rfl, rfl, H1.out, (fun y hy => by rw [List.mem_singleton.1 hy]; omega), rfl, by decide, HB1.out⟩
  case round =>
    obtain ⟨j, a, c, O, hj, rfl, rfl, h1, h2, h3, h4, h5⟩ := hrel
    rename World => V
    have HA := Lib.hid h1
    have HD := Lib.hid h2
    have HV := Lib.hid h3
    have HL := Lib.hid h4
    have HBV := Lib.hid h5
    clear h1 h2 h3 h4 h5 H1 HB1
    by_cases hlt : j < N
    · obtain ⟨M, hM⟩ : ∃ M, M = O.length := ⟨_, rfl⟩
      obtain ⟨K, hK⟩ : ∃ K, K = N - j := ⟨_, rfl⟩
      have hK0 : 0 < K := by omega
      have hK3 : (K : Int) ≤ 3 := by omega
      have hK1 : 1 ≤ (K : Int) := by omega
      have hM10 : M ≤ 10 := by have := HL.out; omega
      have HM := Lib.hid hM
      have HK := Lib.hid hK
      rw [← hM] at HA ⊢
      rw [← hK]
      clear hM hK
      have HE := Lib.hid (own_empty64 V 39)
      have HBE := Lib.hid (show Below V.heap.size V (V.alloc (.cells #[] 39)) from (Below.refl _ _).alloc (Nat.le_refl _) _)
      go_wp2_with fail
      go_loopw [6, 7, 8] (fun nx cy q U => ∃ (i : Nat) (cc : Nat) (a2 : Option Addr) (c2 : Nat) (X : List Nat), q = .int .i64 (i : Nat) ∧ cy = .int .u64 (cc : Nat) ∧ nx = .slice a2 i c2 ∧ U.ownsRow V.heap.size 39 1 (.slice a2 i c2) i (v64 X) ∧ Dig X ∧ i ≤ M + 3 ∧ cc ≤ x ∧ (M ≤ i → cc * 65536 ^ (i - M) ≤ x) ∧ dv X + cc * 65536 ^ i = x * dv (O.take i) ∧ Below V.heap.size V U) (fun _ _ q _ => 14 - (intOf q).toNat)
      case atStart => exact ⟨0, 0, _, _, [], rfl, rfl, rfl, HE.out, (fun y hy => by cases hy), by omega, by omega, by omega, by simp [dv], HBE.out⟩
      case round =>
        obtain ⟨i, cc, a2, c2, X, rfl, rfl, rfl, h1, h2, h3, h4, h5, h6, h7⟩ := hrel
        have HO := Lib.hid h1
        have HDX := Lib.hid h2
        have HIM := Lib.hid h3
        have HCX := Lib.hid h4
        have HCP := Lib.hid h5
        have HEQ := Lib.hid h6
        have HBU := Lib.hid h7
        clear h1 h2 h3 h4 h5 h6 h7 HE HBE
        rename World => U
        have HAU := Lib.hid (HA.out.on HBU.out)
        by_cases hcont : i < M ∨ 0 < cc
        · have hi13 : i ≤ 12 := by
            rcases hcont with h | h
            · omega
            · by_cases hMi : M ≤ i
              · have h1 := HCP.out hMi
                have h2 : 65536 ^ (i - M) ≤ cc * 65536 ^ (i - M) := Nat.le_mul_of_pos_left _ h
                have h3 : 65536 ^ (i - M) < 65536 ^ 3 := Nat.lt_of_le_of_lt (Nat.le_trans h2 h1) (Nat.lt_of_lt_of_le HXX.out (by decide))
                have h4 := (Nat.pow_lt_pow_iff_right (show 1 < 65536 by omega)).1 h3
                omega
              · omega
          have hIM2 : i + 1 ≤ M + 3 := by
            rcases hcont with h | h
            · omega
            · by_cases hMi : M ≤ i
              · have h1 := HCP.out hMi
                have h2 : 65536 ^ (i - M) ≤ cc * 65536 ^ (i - M) := Nat.le_mul_of_pos_left _ h
                have h3 : 65536 ^ (i - M) < 65536 ^ 3 := Nat.lt_of_le_of_lt (Nat.le_trans h2 h1) (Nat.lt_of_lt_of_le HXX.out (by decide))
                have h4 := (Nat.pow_lt_pow_iff_right (show 1 < 65536 by omega)).1 h3
                omega
              · omega
          have HIM2 := Lib.hid hIM2
          have hd := HD.out.getD i
          by_cases hiM : i < M
          · obtain ⟨b, off, rfl, hbl, hcell⟩ := HAU.out.at_ hiM
            obtain ⟨d, hdd⟩ : ∃ d, d = O.getD i 0 := ⟨_, rfl⟩
            rw [← hdd] at hcell hd
            have hmul : d * x ≤ 65535 * 281474976710655 := Nat.mul_le_mul (by omega) (by have := HXX.out; omega)
            have hcq := HCX.out
            have HST := Lib.hid (dv_step (by have := HO.out.1; rw [v64_len] at this; omega) HEQ.out (c1 := cc + d * x) (by rw [hdd]))
            have HCL := Lib.hid (carry_le (d := d) HCX.out hd)
            obtain ⟨D, hD⟩ : ∃ D, D = d * x := ⟨_, rfl⟩
            have qD : (d : Int) * (x : Int) = (D : Int) := by rw [hD]; simp
            rw [← hD] at HST HCL hmul
            have HCT := Lib.hid (show M ≤ i + 1 → (cc + D) / 65536 * 65536 ^ (i + 1 - M) ≤ x by intro h; rw [show i + 1 - M = 0 by omega, Nat.pow_zero, Nat.mul_one]; exact HCL.out)
            clear hdd hD hcont
            have HOA := Lib.hid (HO.out.alloc (.cells #[.int .u64 (((cc : Int) + (D : Int)) % 65536)] 39))
            have HCE := Lib.hid (show (U.alloc (.cells #[.int .u64 (((cc : Int) + (D : Int)) % 65536)] 39)).cell? ⟨U.heap.size, 0, none⟩ = some (.int .u64 (((cc : Int) + (D : Int)) % 65536)) by simp)
            have HSZ := Lib.hid (show V.heap.size ≤ (U.alloc (.cells #[.int .u64 (((cc : Int) + (D : Int)) % 65536)] 39)).heap.size by have := HBU.out.size; simp; omega)
            have HBA := Lib.hid (show Below V.heap.size V (U.alloc (.cells #[.int .u64 (((cc : Int) + (D : Int)) % 65536)] 39)) from HBU.out.alloc HBU.out.size _)
            go_wp2_with ((with_reducible show wpList _ _ _ (⟨some 41, _, _, _, _, _⟩ :: _) _ _); go_loud (refine wpList_append_one64 (o := ⟨some 41, _, _, _, _, _⟩) rfl (.tmp 37) (.tmp 40) 125 rfl V.heap.size 39 i6 Tryz.underlying125 HI.out HZ0.out HZ1.out HZ2.out a2 i c2 X rfl HOA.out U.heap.size _ ((cc + D) % 65536) (by omega) rfl HCE.out (by omega) HSZ.out ?_; intro g3 c3 W3 ho3 hb3))
            have HO3 := Lib.hid ho3
            have HB3 := Lib.hid (HBA.out.trans hb3)
            clear ho3 hb3
            go_roundw
            case rel => exact ⟨i + 1, (cc + D) / 65536, _, _, X ++ [((cc + D) % 65536)], by go_num, by go_num, rfl, HO3.out, HDX.out.snoc (by omega), HIM2.out, HCL.out, HCT.out, HST.out, HB3.out⟩
            case measure => simp [intOf]; omega
          · have hcc : 0 < cc := by rcases hcont with h | h <;> omega
            have hd0 : O.getD i 0 = 0 := by simp [List.getD_eq_getElem?_getD, List.getElem?_eq_none (show O.length ≤ i by rw [← HM.out]; omega)]
            have HST := Lib.hid (dv_step (by have := HO.out.1; rw [v64_len] at this; omega) HEQ.out (c1 := cc) (by rw [hd0]; omega))
            have HCL := Lib.hid (show cc / 65536 ≤ x by have := HCX.out; omega)
            have hcq := HCX.out
            have HCT := Lib.hid (show M ≤ i + 1 → cc / 65536 * 65536 ^ (i + 1 - M) ≤ x by
              intro _
              rw [show i + 1 - M = (i - M) + 1 by omega, Nat.pow_succ, Nat.mul_comm (65536 ^ (i - M)) 65536, ← Nat.mul_assoc]
              exact Nat.le_trans (Nat.mul_le_mul_right _ (show cc / 65536 * 65536 ≤ cc by omega)) (HCP.out (by omega)))
            clear hd0 hcont
            have HOA := Lib.hid (HO.out.alloc (.cells #[.int .u64 ((cc : Int) % 65536)] 39))
            have HCE := Lib.hid (show (U.alloc (.cells #[.int .u64 ((cc : Int) % 65536)] 39)).cell? ⟨U.heap.size, 0, none⟩ = some (.int .u64 ((cc : Int) % 65536)) by simp)
            have HSZ := Lib.hid (show V.heap.size ≤ (U.alloc (.cells #[.int .u64 ((cc : Int) % 65536)] 39)).heap.size by have := HBU.out.size; simp; omega)
            have HBA := Lib.hid (show Below V.heap.size V (U.alloc (.cells #[.int .u64 ((cc : Int) % 65536)] 39)) from HBU.out.alloc HBU.out.size _)
            go_wp2_with ((with_reducible show wpList _ _ _ (⟨some 41, _, _, _, _, _⟩ :: _) _ _); go_loud (refine wpList_append_one64 (o := ⟨some 41, _, _, _, _, _⟩) rfl (.tmp 37) (.tmp 40) 125 rfl V.heap.size 39 i6 Tryz.underlying125 HI.out HZ0.out HZ1.out HZ2.out a2 i c2 X rfl HOA.out U.heap.size _ (cc % 65536) (by omega) rfl HCE.out (by omega) HSZ.out ?_; intro g3 c3 W3 ho3 hb3))
            have HO3 := Lib.hid ho3
            have HB3 := Lib.hid (HBA.out.trans hb3)
            clear ho3 hb3
            go_roundw
            case rel => exact ⟨i + 1, cc / 65536, _, _, X ++ [(cc % 65536)], by go_num, by go_num, rfl, HO3.out, HDX.out.snoc (by omega), HIM2.out, HCL.out, HCT.out, HST.out, HB3.out⟩
            case measure => simp [intOf]; omega
        · have hiM : ¬ i < M := fun h => hcont (Or.inl h)
          have hc0 : cc = 0 := by omega
          subst hc0
          have HXL := Lib.hid (show X.length = i by have := HO.out.1; rw [v64_len] at this; omega)
          have HXV := Lib.hid (show dv X = x ^ (j + 1) by
            have h := HEQ.out
            rw [List.take_of_length_le (show O.length ≤ i by rw [← HM.out]; omega), HV.out] at h
            rw [Nat.pow_succ, Nat.mul_comm (x ^ j) x]
            omega)
          have hA2 := own64 HO.out
          have hl2 : X.length ≤ 3 * (j + 1) + 1 := by rw [HXL.out]; have := HIM.out; have := HL.out; have := HM.out; omega
          have HA2 := Lib.hid hA2
          have HL2 := Lib.hid hl2
          clear hA2 hl2 hcont
          go_wp2
          go_roundw
          case rel => exact ⟨j + 1, a2, c2, X, by omega, by have := HK.out; go_num, by rw [HXL.out], by rw [HXL.out]; exact HA2.out, HDX.out, HXV.out, HL2.out, bt HBV.out HBU.out⟩
          case measure => simp [intOf]; omega
    · obtain rfl : j = N := by omega
      go_wp2
      go_ret
      exact ⟨a, c, O, rfl, HA.out, HD.out, HV.out, by have := HL.out; omega, HBV.out⟩
end Go.Proofs.YtkfdcdfaikkneaaGreatDoor
/- The document's above and Fraction (layer 7). -/
namespace Go.Proofs.YtkfdcdfaikkneaaGreatDoor
open Go.ChangeShapes Go.WideShapes Go.ChangeAt Go.RowKit
set_option linter.unusedVariables false
set_option maxRecDepth 100000

theorem ret_b {a b : Bool} (h : a = b) : Ending.returned (.bool a) = .returned (.bool b) := by rw [h]
set_option maxHeartbeats 4000000 in
theorem above_any (x p N : Nat) (hx : x < 281474976710656) (hp : p < 65536) (hN : N ≤ 3) (w : World) :
    Calls Tryz.prog 93 #[.int .u64 (x : Nat), .int .u64 (p : Nat), .int .i64 (N : Nat)] w fun e w' => e = .returned (.bool (decide (p * 65536 ^ (2 * N) < x ^ N))) ∧ Below w.heap.size w w' := by
  obtain ⟨i6, hi, hz0, hz1, hz2⟩ := info_parts info64
  have HI := Lib.hid hi
  have HZ0 := Lib.hid hz0
  have HZ1 := Lib.hid hz1
  have HZ2 := Lib.hid hz2
  have HX := Lib.hid hx
  obtain ⟨Z, hZ⟩ : ∃ Z, Z = 2 * N := ⟨_, rfl⟩
  have HZN := Lib.hid hZ
  have qZ : (2 : Int) * (N : Int) = (Z : Int) := by omega
  have hZ6 : Z ≤ 6 := by omega
  have hmk := run_make_row' (P := Tryz.prog) 125 39 (.int .u64 0) 8 Tryz.underlying125 info64 rfl .i64 .i64 Z (by omega) (by omega)
  rw [← hZ]
  have HN3 := Lib.hid hN
  clear hi hz0 hz1 hz2 hx hZ
  go_enter Tryz.func93, Tryz.ntmps93
  go_upto_region 2 with (go_at_call 105; go_loud ((with_reducible refine (power_any x N HX.out HN3.out w).mono ?_); rintro e w1 ⟨a, c, O, rfl, h1, h2, h3, h4, hb⟩; have HA1 := Lib.hid h1; have HD := Lib.hid h2; have HV := Lib.hid h3; have HL := Lib.hid h4; have HB1 := Lib.hid hb; clear h1 h2 h3 h4 hb))
  have HW2 := Lib.hid (own_zeros64 (w := w1) (e := 39) (n := Z) (by unfold maxLen; omega))
  have HB2 := Lib.hid (show Below w1.heap.size w1 (w1.alloc (.cells (madeCells #[Value.int .u64 0] Z) 39)) from (Below.refl _ _).alloc (Nat.le_refl _) _)
  go_upto_region 3 with fail
  clear hmk
  obtain ⟨w2, hw2⟩ : ∃ w2, w2 = w1.alloc (.cells (madeCells #[Value.int .u64 0] Z) 39) := ⟨_, rfl⟩
  rw [← hw2] at HW2 HB2
  rw [← hw2]
  clear hw2
  have HOA := Lib.hid (HW2.out.alloc (.cells #[.int .u64 (p : Int)] 39))
  have HCE := Lib.hid (show (w2.alloc (.cells #[.int .u64 (p : Int)] 39)).cell? ⟨w2.heap.size, 0, none⟩ = some (.int .u64 (p : Int)) by simp)
  have HSZ := Lib.hid (show w1.heap.size ≤ (w2.alloc (.cells #[.int .u64 (p : Int)] 39)).heap.size by have := HB2.out.size; simp; omega)
  have HBA := Lib.hid (show Below w1.heap.size w1 (w2.alloc (.cells #[.int .u64 (p : Int)] 39)) from HB2.out.alloc HB2.out.size _)
  go_wp2_with ((with_reducible show wpList _ _ _ (⟨some 21, _, _, _, _, _⟩ :: _) _ _); go_loud (refine wpList_append_one64 (o := ⟨some 21, _, _, _, _, _⟩) rfl (.tmp 18) (.tmp 20) 125 rfl w1.heap.size 39 i6 Tryz.underlying125 HI.out HZ0.out HZ1.out HZ2.out (some ⟨w1.heap.size, 0, none⟩) Z Z (List.replicate Z 0) rfl HOA.out w2.heap.size _ p rfl rfl HCE.out (by omega) HSZ.out ?_; intro g3 c3 w3 ho3 hb3))
  have HW3 := Lib.hid (own64 ho3)
  have HB3 := Lib.hid (HBA.out.trans hb3)
  have HA3 := Lib.hid (HA1.out.on HB3.out)
  clear ho3 hb3
  obtain ⟨W, hW⟩ : ∃ W, W = List.replicate Z 0 ++ [p] := ⟨_, rfl⟩
  obtain ⟨M, hM⟩ : ∃ M, M = O.length := ⟨_, rfl⟩
  have HDW := Lib.hid (show Dig W by rw [hW]; exact Dig.snoc (fun y hy => by rw [(List.mem_replicate.1 hy).2]; omega) hp)
  have HVW := Lib.hid (show dv W = p * 65536 ^ Z by rw [hW]; exact dv_zeros Z p)
  have HLW := Lib.hid (show W.length = Z + 1 by rw [hW]; simp)
  have HM := Lib.hid hM
  have hM10 : M ≤ 10 := by rw [hM]; exact HL.out
  rw [← hW] at HW3
  rw [← hM] at HA3 ⊢
  clear hW hM
  go_loop [9] (fun q => ∃ i : Nat, i ≤ 16 ∧ q = .int .i64 ((i : Int) - 1) ∧ Hid (∀ t, i ≤ t → t < 16 → O.getD t 0 = W.getD t 0)) (fun q => (intOf q + 1).toNat)
  case atStart => exact ⟨16, by omega, rfl, Lib.hid (fun t h1 h2 => by omega)⟩
  case round =>
    obtain ⟨j, hj, rfl, heq⟩ := hrel
    rcases Nat.eq_zero_or_pos j with h0 | h0
    · subst h0
      have HF := Lib.hid (show decide (p * 65536 ^ Z < x ^ N) = false by
        rw [← HV.out, ← HVW.out, ← dvF_more (l := O) 16 (by rw [← HM.out]; omega), ← dvF_more (l := W) 16 (by rw [HLW.out]; omega), dvF_congr (fun t ht => heq.out t (by omega) ht)]
        simp)
      go_wp2
      go_ret
      exact ⟨ret_b (by rw [HF.out]), bt HB1.out HB3.out⟩
    · obtain ⟨i, rfl⟩ : ∃ i, j = i + 1 := ⟨j - 1, by omega⟩
      have ej : ((i + 1 : Nat) : Int) - 1 = (i : Int) := by omega
      rw [ej]
      clear ej
      have hi15 : i ≤ 15 := by omega
      have HEQ := Lib.hid heq.out
      have hOd := HD.out.getD i
      have hWd := HDW.out.getD i
      clear heq
      obtain ⟨d, hd⟩ : ∃ d, d = O.getD i 0 := ⟨_, rfl⟩
      obtain ⟨v, hv⟩ : ∃ v, v = W.getD i 0 := ⟨_, rfl⟩
      rw [← hd] at hOd
      rw [← hv] at hWd
      have HDD := Lib.hid hd
      have HVV := Lib.hid hv
      have HNX := Lib.hid (show d = v → ∀ t, i ≤ t → t < 16 → O.getD t 0 = W.getD t 0 from fun e t h1 h2 => by
        by_cases e1 : t = i
        · rw [e1, ← HDD.out, ← HVV.out, e]
        · exact HEQ.out t (by omega) h2)
      have HGT := Lib.hid (show v < d → decide (p * 65536 ^ Z < x ^ N) = true from fun h => by
        rw [← HV.out, ← HVW.out, ← dvF_more (l := O) 16 (by rw [← HM.out]; omega), ← dvF_more (l := W) 16 (by rw [HLW.out]; omega)]
        exact decide_eq_true (dvF_cmp (fun t => HD.out.getD t) (fun t => HDW.out.getD t) (i := i) (by rw [← HDD.out, ← HVV.out]; exact h) 16 (by omega) (fun t h1 h2 => HEQ.out t (by omega) h2)))
      have HLT := Lib.hid (show d < v → decide (p * 65536 ^ Z < x ^ N) = false from fun h => by
        rw [← HV.out, ← HVW.out, ← dvF_more (l := O) 16 (by rw [← HM.out]; omega), ← dvF_more (l := W) 16 (by rw [HLW.out]; omega)]
        have := dvF_cmp (fun t => HDW.out.getD t) (fun t => HD.out.getD t) (i := i) (by rw [← HDD.out, ← HVV.out]; exact h) 16 (by omega) (fun t h1 h2 => (HEQ.out t (by omega) h2).symm)
        exact decide_eq_false (by omega))
      have HD0 := Lib.hid (show ¬ i < M → d = 0 from fun h => by rw [HDD.out]; simp [List.getD_eq_getElem?_getD, List.getElem?_eq_none (show O.length ≤ i by rw [← HM.out]; omega)])
      have HV0 := Lib.hid (show ¬ i < Z + 1 → v = 0 from fun h => by rw [HVV.out]; simp [List.getD_eq_getElem?_getD, List.getElem?_eq_none (show W.length ≤ i by rw [HLW.out]; omega)])
      have hOc : i < M → ∃ b off, a = some ⟨b, off, none⟩ ∧ b < w3.heap.size ∧ w3.cell? ⟨b, off + i, none⟩ = some (.int .u64 ((d : Nat) : Int)) := fun h => by rw [HDD.out]; exact HA3.out.at_ h
      have hWc : i < Z + 1 → w3.cell? ⟨g3, 0 + i, none⟩ = some (.int .u64 ((v : Nat) : Int)) := fun h => by
        obtain ⟨b, off, e, _, hc⟩ := HW3.out.at_ h
        cases e
        rw [HVV.out]; exact hc
      have HOC := Lib.hid hOc
      have HWC := Lib.hid hWc
      clear hd hv hOc hWc
      have step : ∀ (dd vv : Nat), True := fun _ _ => trivial
      clear step
      by_cases h1 : i < M
      · obtain ⟨b, off, rfl, hbl, hc1⟩ := HOC.out h1
        by_cases h2 : i < Z + 1
        · have hc2 := HWC.out h2
          rw [Nat.zero_add] at hc2
          rcases Nat.lt_trichotomy d v with hlt | heq | hgt
          · have q1 : ((d : Int) != (v : Int)) = true := by simp <;> omega
            have q2 : ¬ (v : Int) < (d : Int) := by omega
            have q3 : decide ((v : Int) < (d : Int)) = false := decide_eq_false q2
            go_wp2
            go_ret
            exact ⟨ret_b (by rw [HLT.out hlt] <;> first | exact decide_eq_true q2 | simp), bt HB1.out HB3.out⟩
          · have q1 : ((d : Int) != (v : Int)) = false := by simp <;> omega
            have HNY := Lib.hid (HNX.out heq)
            clear heq
            go_wp2
            go_round
            case rel => exact ⟨i, by omega, rfl, HNY⟩
            case measure => simp [intOf] <;> omega
          · have q1 : ((d : Int) != (v : Int)) = true := by simp <;> omega
            have q2 : (v : Int) < (d : Int) := by omega
            go_wp2
            go_ret
            exact ⟨ret_b (by rw [HGT.out hgt] <;> first | exact decide_eq_true q2 | simp), bt HB1.out HB3.out⟩
        · obtain rfl : v = 0 := HV0.out h2
          rcases Nat.lt_trichotomy d (0 : Nat) with hlt | heq | hgt
          · exact absurd hlt (by omega)
          · have q1 : ((d : Int) != (0 : Int)) = false := by simp <;> omega
            have HNY := Lib.hid (HNX.out heq)
            clear heq
            go_wp2
            go_round
            case rel => exact ⟨i, by omega, rfl, HNY⟩
            case measure => simp [intOf] <;> omega
          · have q1 : ((d : Int) != (0 : Int)) = true := by simp <;> omega
            have q2 : (0 : Int) < (d : Int) := by omega
            go_wp2
            go_ret
            exact ⟨ret_b (by rw [HGT.out hgt] <;> first | exact decide_eq_true q2 | simp), bt HB1.out HB3.out⟩
      · obtain rfl : d = 0 := HD0.out h1
        by_cases h2 : i < Z + 1
        · have hc2 := HWC.out h2
          rw [Nat.zero_add] at hc2
          rcases Nat.lt_trichotomy (0 : Nat) v with hlt | heq | hgt
          · have q1 : ((0 : Int) != (v : Int)) = true := by simp <;> omega
            have q2 : ¬ (v : Int) < (0 : Int) := by omega
            have q3 : decide ((v : Int) < (0 : Int)) = false := decide_eq_false q2
            go_wp2
            go_ret
            exact ⟨ret_b (by rw [HLT.out hlt] <;> first | exact decide_eq_true q2 | simp), bt HB1.out HB3.out⟩
          · have q1 : ((0 : Int) != (v : Int)) = false := by simp <;> omega
            have HNY := Lib.hid (HNX.out heq)
            clear heq
            go_wp2
            go_round
            case rel => exact ⟨i, by omega, rfl, HNY⟩
            case measure => simp [intOf] <;> omega
          · exact absurd hgt (by omega)
        · obtain rfl : v = 0 := HV0.out h2
          go_wp2
          go_round
          case rel => exact ⟨i, by omega, rfl, Lib.hid (HNX.out rfl)⟩
          case measure => simp [intOf] <;> omega
end Go.Proofs.YtkfdcdfaikkneaaGreatDoor
/- The document's Fraction and Primes (layer 7). -/
namespace Go.Proofs.YtkfdcdfaikkneaaGreatDoor
open Go.ChangeShapes Go.WideShapes Go.ChangeAt Go.RowKit
set_option linter.unusedVariables false
set_option maxRecDepth 100000

theorem ret_iH {k : IntKind} {a b : Int} (h : a = b) : Ending.returned (.int k a) = .returned (.int k b) := by rw [h]
set_option maxHeartbeats 2000000 in
theorem fraction_any (p N r : Nat) (hp : p < 65536) (hN : N ≤ 3) (hN1 : 0 < N) (h1 : r ^ N ≤ p * 65536 ^ (2 * N)) (h2 : p * 65536 ^ (2 * N) < (r + 1) ^ N) (h3 : p * 65536 ^ (2 * N) < 68719476736 ^ N) (w : World) :
    Calls Tryz.prog 71 #[.int .u64 (p : Nat), .int .i64 (N : Nat)] w fun e w' => e = .returned (.int .u32 ((r % 4294967296 : Nat) : Int)) ∧ Below w.heap.size w w' := by
  have HP := Lib.hid hp
  have HN := Lib.hid hN
  obtain ⟨P, hP⟩ : ∃ P, P = p * 65536 ^ (2 * N) := ⟨_, rfl⟩
  have HAB := Lib.hid (fun (x : Nat) (hx : x < 281474976710656) (W : World) => above_any x p N hx hp hN W)
  rw [← hP] at h1 h2 h3
  simp only [← hP] at HAB
  have H1 := Lib.hid h1
  have H2 := Lib.hid h2
  have H3 := Lib.hid h3
  clear h1 h2 h3 hP hp hN
  go_enter Tryz.func71, Tryz.ntmps71
  go_wp2_with fail
  go_loopw [5, 6] (fun X q V => ∃ (j y : Nat), j ≤ 36 ∧ q = .int .i64 ((j : Int) - 1) ∧ X = .int .u64 (y : Nat) ∧ y ^ N ≤ P ∧ P < (y + 2 ^ j) ^ N ∧ y + 2 ^ j ≤ 68719476736 ∧ Below w.heap.size w V) (fun _ q _ => (intOf q + 1).toNat)
  case atStart => exact ⟨36, 0, by omega, rfl, rfl, by rw [Nat.zero_pow hN1]; omega, by rw [Nat.zero_add]; exact H3.out, by decide, Below.refl _ _⟩
  case round =>
    obtain ⟨j, y, hj, rfl, rfl, h1, h2, h3, hb⟩ := hrel
    rename World => V
    have K1 := Lib.hid h1
    have K2 := Lib.hid h2
    have K3 := Lib.hid h3
    have KB := Lib.hid hb
    clear h1 h2 h3 hb
    rcases Nat.eq_zero_or_pos j with h0 | h0
    · subst h0
      have HU := Lib.hid (root_uniq hN1 K1.out (by simpa using K2.out) H1.out H2.out)
      obtain rfl : y = r := HU.out
      have q : y < 68719476736 := by have := K3.out; simp at this; omega
      go_wp2
      go_ret
      exact ⟨ret_iH (by first | rfl | omega), KB.out⟩
    · obtain ⟨i, rfl⟩ : ∃ i, j = i + 1 := ⟨j - 1, by omega⟩
      have ej : ((i + 1 : Nat) : Int) - 1 = (i : Int) := by omega
      rw [ej]
      clear ej
      have hi35 : i ≤ 35 := by omega
      obtain ⟨B, hB⟩ : ∃ B, B = 2 ^ i := ⟨_, rfl⟩
      have hB1 : B ≤ 34359738368 := by rw [hB]; exact Nat.le_trans (Nat.pow_le_pow_right (by omega) hi35) (by decide)
      have hBw : IntKind.u64.wrap (2 ^ i) = (B : Int) := by rw [show (2 : Int) ^ i = (B : Int) by rw [hB]; simp, IntKind.wrap_u64]; omega
      have hB2 : 2 ^ (i + 1) = B + B := by rw [Nat.pow_succ, ← hB]; omega
      have K4 := Lib.hid (show y + (B + B) ≤ 68719476736 by rw [← hB2]; exact K3.out)
      have K5 := Lib.hid (show P < (y + (B + B)) ^ N by rw [← hB2]; exact K2.out)
      have HBB := Lib.hid hB
      have hyB : y + B ≤ 68719476736 := by have := K4.out; omega
      have HAC := Lib.hid (show ∀ W : World, Calls Tryz.prog 93 #[.int .u64 ((y : Int) + (B : Int)), .int .u64 (p : Nat), .int .i64 (N : Nat)] W fun e w' => e = .returned (.bool (decide (P < (y + B) ^ N))) ∧ Below W.heap.size W w' from
        fun W => by rw [← Int.natCast_add]; exact HAB.out (y + B) (by omega) W)
      clear hB hB2
      by_cases hgt : P < (y + B) ^ N
      · rw [decide_eq_true hgt] at HAC
        have HG := Lib.hid hgt
        clear hgt
        go_wp2_with (go_at_call 93; go_loud ((with_reducible refine (HAC.out V).mono ?_); rintro e V2 ⟨rfl, hb⟩; have HB2 := Lib.hid hb; clear hb))
        clear hBw
        go_roundw
        case rel => exact ⟨i, y, by omega, rfl, rfl, K1.out, by rw [← HBB.out]; exact HG.out, by rw [← HBB.out]; exact hyB, bt KB.out HB2.out⟩
        case measure => simp [intOf] <;> omega
      · rw [decide_eq_false hgt] at HAC
        have HG := Lib.hid (show (y + B) ^ N ≤ P by omega)
        clear hgt
        go_wp2_with (go_at_call 93; go_loud ((with_reducible refine (HAC.out V).mono ?_); rintro e V2 ⟨rfl, hb⟩; have HB2 := Lib.hid hb; clear hb))
        clear hBw
        go_roundw
        case rel => exact ⟨i, y + B, by omega, rfl, by go_num, HG.out, by rw [← HBB.out, Nat.add_assoc]; exact K5.out, by rw [← HBB.out, Nat.add_assoc]; exact K4.out, bt KB.out HB2.out⟩
        case measure => simp [intOf] <;> omega
set_option maxHeartbeats 2000000 in
theorem primes_64 (w : World) : Calls Tryz.prog 70 #[.int .i64 64] w fun e w' => ∃ g c, e = .returned (.slice (some ⟨g, 0, none⟩) 64 c) ∧ A64 w' (some ⟨g, 0, none⟩) 64 c p64 ∧ w.heap.size ≤ g ∧ Below w.heap.size w w' := by
  obtain ⟨i6, hi, hz0, hz1, hz2⟩ := info_parts info64
  have HI := Lib.hid hi
  have HZ0 := Lib.hid hz0
  have HZ1 := Lib.hid hz1
  have HZ2 := Lib.hid hz2
  have HE := Lib.hid (own_empty64 w 39)
  have HBE := Lib.hid (show Below w.heap.size w (w.alloc (.cells #[] 39)) from (Below.refl _ _).alloc (Nat.le_refl _) _)
  clear hi hz0 hz1 hz2
  go_enter Tryz.func70, Tryz.ntmps70
  go_wp2_with fail
  go_loopw [3, 4] (fun out q V => ∃ (k : Nat) (g c : Nat), k ≤ 310 ∧ q = .int .u64 ((k + 2 : Nat) : Int) ∧ out = .slice (some ⟨g, 0, none⟩) (ps k).length c ∧ V.ownsRow w.heap.size 39 1 (.slice (some ⟨g, 0, none⟩) (ps k).length c) (ps k).length (v64 (ps k)) ∧ Below w.heap.size w V) (fun _ q _ => 400 - (intOf q).toNat)
  case atStart => exact ⟨0, _, _, by omega, rfl, rfl, HE.out, HBE.out⟩
  case round =>
    obtain ⟨k, g, c, hk, rfl, rfl, h1, h2⟩ := hrel
    rename World => V
    have HO := Lib.hid h1
    have HB := Lib.hid h2
    clear h1 h2 HE HBE
    by_cases hlt : k ≤ 309
    · have HLN := Lib.hid (ps_few hlt)
      have HNX := Lib.hid (show ps (k + 1) = pq (ps k) (k + 2) from rfl)
      have HMM := Lib.hid (ps_mem k)
      obtain ⟨S, hS⟩ : ∃ S, S = ps k := ⟨_, rfl⟩
      rw [← hS] at HO HLN HNX HMM ⊢
      obtain ⟨L, hL⟩ : ∃ L, L = S.length := ⟨_, rfl⟩
      rw [← hL] at HO HLN ⊢
      have hL64 : L < 64 := HLN.out
      have HL := Lib.hid hL
      have HA := Lib.hid (own64 HO.out)
      clear hS hL
      go_wp2_with fail
      go_loop [5, 17] (fun is q => ∃ (i : Nat), i ≤ L ∧ q = .int .i64 (i : Nat) ∧ is = .bool ((S.take i).all (fun q => (k + 2) % q != 0))) (fun _ q => L - (intOf q).toNat)
      case atStart => exact ⟨0, by omega, rfl, by simp⟩
      case round =>
        obtain ⟨i, hi, rfl, rfl⟩ := hrel
        by_cases hil : i < L
        · obtain ⟨b, off, e, hbl, hcell⟩ := HA.out.at_ hil
          cases e
          rw [Nat.zero_add] at hcell
          have hSi : i < S.length := by rw [← HL.out]; exact hil
          have hqm := HMM.out S[i] (List.getElem_mem hSi)
          have hgd : S.getD i 0 = S[i] := by simp [List.getD_eq_getElem?_getD, List.getElem?_eq_getElem hSi]
          have HTK := Lib.hid (show (S.take (i + 1)).all (fun q => (k + 2) % q != 0) = ((S.take i).all (fun q => (k + 2) % q != 0) && ((k + 2) % S[i] != 0)) by
            rw [List.take_succ_eq_append_getElem hSi, List.all_append]; simp)
          rw [hgd] at hcell
          obtain ⟨q, hq⟩ : ∃ q, q = S[i] := ⟨_, rfl⟩
          rw [← hq] at hcell hqm HTK
          obtain ⟨T, hT⟩ : ∃ T, T = k + 2 := ⟨_, rfl⟩
          obtain ⟨D, hD⟩ : ∃ D, D = T % q := ⟨_, rfl⟩
          have hT1 : (T : Int).tmod (q : Int) = (D : Int) := by rw [hD]; exact (Int.ofNat_tmod T q).symm
          have hT2 : (T : Int) % (q : Int) = (D : Int) := by rw [hD]; simp
          have hq0 : ((q : Int) == 0) = false := by simp; omega
          have hq1 : 2 ≤ (q : Int) := by omega
          have hTb : (T : Int) ≤ 400 := by omega
          have hDb : (D : Int) ≤ 400 := by have := Nat.mod_le T q; omega
          rw [← hT] at HTK ⊢
          rw [← hD] at HTK
          have HT := Lib.hid hT
          obtain ⟨bb, hbb⟩ : ∃ bb, bb = (S.take i).all (fun q => T % q != 0) := ⟨_, rfl⟩
          rw [← hbb] at HTK ⊢
          clear hgd hq hD hbb hqm hT
          cases bb
          · go_wp2
            go_round
            case rel => exact ⟨i + 1, by omega, by go_num, by rw [HTK.out]; rfl⟩
            case measure => simp [intOf] <;> omega
          · by_cases hD0 : D = 0
            · subst hD0
              go_wp2
              go_round
              case rel => exact ⟨i + 1, by omega, by go_num, by rw [HTK.out]; rfl⟩
              case measure => simp [intOf] <;> omega
            · have hDq : ((D : Int) != 0) = true := by simp <;> omega
              have hDr : (D != 0) = true := by simp <;> omega
              rw [hDr] at HTK
              clear hDr
              go_wp2
              go_round
              case rel => exact ⟨i + 1, by omega, by go_num, by rw [HTK.out]; rfl⟩
              case measure => simp [intOf] <;> omega
        · obtain rfl : i = L := by omega
          rw [List.take_of_length_le (by rw [HL.out]; exact Nat.le_refl _)]
          unfold pq at HNX
          obtain ⟨bb, hbb⟩ : ∃ bb, bb = S.all (fun q => (k + 2) % q != 0) := ⟨_, rfl⟩
          rw [← hbb] at HNX ⊢
          clear hbb
          cases bb
          · rw [if_neg (by simp)] at HNX
            have hkk : (k : Int) ≤ 309 := by omega
            go_wp2
            go_roundw
            case rel => exact ⟨k + 1, g, c, by omega, by go_num, by rw [HNX.out, HL.out], by rw [HNX.out, ← HL.out]; exact HO.out, HB.out⟩
            case measure => simp [intOf] <;> omega
          · rw [if_pos rfl] at HNX
            have hkk : (k : Int) ≤ 309 := by omega
            have HOA := Lib.hid (HO.out.alloc (.cells #[.int .u64 ((k + 2 : Nat) : Int)] 39))
            have HCE := Lib.hid (show (V.alloc (.cells #[.int .u64 ((k + 2 : Nat) : Int)] 39)).cell? ⟨V.heap.size, 0, none⟩ = some (.int .u64 ((k + 2 : Nat) : Int)) by simp)
            have HSZ := Lib.hid (show w.heap.size ≤ (V.alloc (.cells #[.int .u64 ((k + 2 : Nat) : Int)] 39)).heap.size by have := HB.out.size; simp; omega)
            have HBA := Lib.hid (show Below w.heap.size w (V.alloc (.cells #[.int .u64 ((k + 2 : Nat) : Int)] 39)) from HB.out.alloc HB.out.size _)
            have HLS := Lib.hid (show (S ++ [k + 2]).length = i + 1 by rw [List.length_append, ← HL.out]; rfl)
            go_wp2_with ((with_reducible show wpList _ _ _ (⟨some 33, _, _, _, _, _⟩ :: _) _ _); go_loud (refine wpList_append_one64 (o := ⟨some 33, _, _, _, _, _⟩) rfl (.tmp 30) (.tmp 32) 125 rfl w.heap.size 39 i6 Tryz.underlying125 HI.out HZ0.out HZ1.out HZ2.out (some ⟨g, 0, none⟩) i c S rfl HOA.out V.heap.size _ (k + 2) rfl rfl HCE.out (by omega) HSZ.out ?_; intro g3 c3 W3 ho3 hb3))
            have HO3 := Lib.hid ho3
            have HB3 := Lib.hid (HBA.out.trans hb3)
            clear ho3 hb3
            go_roundw
            case rel => exact ⟨k + 1, g3, c3, by omega, by go_num, by rw [HNX.out, HLS.out], by rw [HNX.out, HLS.out]; exact HO3.out, HB3.out⟩
            case measure => simp [intOf] <;> omega
    · obtain rfl : k = 310 := by omega
      have HO2 := HO.out
      have h64 : (ps 310).length = 64 := by rw [ps_310]; rfl
      rw [h64] at HO2 ⊢
      rw [ps_310] at HO2
      have HA := Lib.hid (own64 HO2)
      have HG := Lib.hid (own_blockGe HO2 g rfl)
      clear HO HO2 h64
      go_wp2
      go_ret
      exact ⟨g, c, rfl, HA.out, HG.out, HB.out⟩
end Go.Proofs.YtkfdcdfaikkneaaGreatDoor
/- SHA-256 as lists and functions: plain maths; no program is named here. -/
namespace Go.Proofs.YtkfdcdfaikkneaaGreatDoor
open Go.RowKit
set_option linter.unusedVariables false

/-- The roots of the first primes, with 32 bits behind the point. -/
def R3 : List Nat := [5411319704, 6194414737, 7344290767, 8215976869, 9551921755, 10098905585, 11043570340, 11460697813, 12214315672, 13195500289, 13492127166, 14311783875, 14809980276, 15046980094, 15499789991, 16133124468, 16720292289, 16907126662, 17444216262, 17784676812, 17950125167, 18429019306, 18734950876, 19175934170, 19734090066, 20001703533, 20132865992, 20390182855, 20516441075, 20764397895, 21588763473, 21813078375, 22141143685, 22248366392, 22769593852, 22871018771, 23170020180, 23461497531, 23651862830, 23931792517, 24205322401, 24295138891, 24734567280, 24820601251, 24990902297, 25075189284, 25569408389, 26045227120, 26200031510, 26276752392, 26428864332, 26653801653, 26727943347, 27092625994, 27306805839, 27517677555, 27725365998, 27793908591, 27997534228, 28131656200, 28198240250, 28526537963, 28973835255, 29099129074]
def R2 : List Nat := [6074000999, 7439101573, 9603838834, 11363415354, 14244795007, 15485724812, 17708603819, 18721328409]
def KF (i : Nat) : Nat := R3.getD i 0 % 4294967296
def HF0 (i : Nat) : Nat := R2.getD i 0 % 4294967296
theorem R3_root : ∀ i, i < 64 → R3.getD i 0 ^ 3 ≤ p64.getD i 0 * 65536 ^ (2 * 3) ∧ p64.getD i 0 * 65536 ^ (2 * 3) < (R3.getD i 0 + 1) ^ 3 ∧ p64.getD i 0 * 65536 ^ (2 * 3) < 68719476736 ^ 3 ∧ p64.getD i 0 < 65536 := by decide +kernel
theorem R2_root : ∀ i, i < 8 → R2.getD i 0 ^ 2 ≤ p64.getD i 0 * 65536 ^ (2 * 2) ∧ p64.getD i 0 * 65536 ^ (2 * 2) < (R2.getD i 0 + 1) ^ 2 ∧ p64.getD i 0 * 65536 ^ (2 * 2) < 68719476736 ^ 2 := by decide +kernel
theorem KF_lt (i : Nat) : KF i < 4294967296 := Nat.mod_lt _ (by omega)
theorem HF0_lt (i : Nat) : HF0 i < 4294967296 := Nat.mod_lt _ (by omega)
/-- Turned to the right. -/
def rr (n x : Nat) : Nat := x / 2 ^ n ||| x * 2 ^ (32 - n) % 4294967296
def ad (a b : Nat) : Nat := (a + b) % 4294967296
def sg0 (x : Nat) : Nat := rr 7 x ^^^ rr 18 x ^^^ x / 2 ^ 3
def sg1 (x : Nat) : Nat := rr 17 x ^^^ rr 19 x ^^^ x / 2 ^ 10
def Sg0 (x : Nat) : Nat := rr 2 x ^^^ rr 13 x ^^^ rr 22 x
def Sg1 (x : Nat) : Nat := rr 6 x ^^^ rr 11 x ^^^ rr 25 x
def chf (e f g : Nat) : Nat := (e &&& f) ^^^ ((4294967295 - e) &&& g)
def mjf (a b c : Nat) : Nat := (a &&& b) ^^^ (a &&& c) ^^^ (b &&& c)
theorem xor32 {x y : Nat} (h : x < 4294967296) (k : y < 4294967296) : x ^^^ y < 4294967296 := Nat.xor_lt_two_pow (n := 32) h k
theorem or32 {x y : Nat} (h : x < 4294967296) (k : y < 4294967296) : x ||| y < 4294967296 := Nat.or_lt_two_pow (n := 32) h k
theorem and32 {x y : Nat} (k : y < 4294967296) : x &&& y < 4294967296 := Nat.and_lt_two_pow (n := 32) x k
theorem and32' {x y : Nat} (h : x < 4294967296) : x &&& y < 4294967296 := by rw [Nat.and_comm]; exact and32 h
theorem div32 {x : Nat} (h : x < 4294967296) (n : Nat) : x / 2 ^ n < 4294967296 := Nat.lt_of_le_of_lt (Nat.div_le_self _ _) h
theorem rr_lt {x : Nat} (h : x < 4294967296) (n : Nat) : rr n x < 4294967296 := or32 (div32 h n) (Nat.mod_lt _ (by omega))
theorem ad_lt (a b : Nat) : ad a b < 4294967296 := Nat.mod_lt _ (by omega)
theorem sg0_lt {x : Nat} (h : x < 4294967296) : sg0 x < 4294967296 := xor32 (xor32 (rr_lt h _) (rr_lt h _)) (div32 h _)
theorem sg1_lt {x : Nat} (h : x < 4294967296) : sg1 x < 4294967296 := xor32 (xor32 (rr_lt h _) (rr_lt h _)) (div32 h _)
theorem Sg0_lt {x : Nat} (h : x < 4294967296) : Sg0 x < 4294967296 := xor32 (xor32 (rr_lt h _) (rr_lt h _)) (rr_lt h _)
theorem Sg1_lt {x : Nat} (h : x < 4294967296) : Sg1 x < 4294967296 := xor32 (xor32 (rr_lt h _) (rr_lt h _)) (rr_lt h _)
theorem chf_lt {e f g : Nat} (hf : f < 4294967296) (hg : g < 4294967296) : chf e f g < 4294967296 := xor32 (and32 hf) (and32 hg)
theorem mjf_lt {a b c : Nat} (hb : b < 4294967296) (hc : c < 4294967296) : mjf a b c < 4294967296 := xor32 (xor32 (and32 hb) (and32 hc)) (and32 hc)
/-- The words of a block, so many. -/
def wsL (m : Nat → Nat) : Nat → List Nat
  | 0 => []
  | t + 1 => wsL m t ++ [if t < 16 then m t else ad (ad (ad (sg1 ((wsL m t).getD (t - 2) 0)) ((wsL m t).getD (t - 7) 0)) (sg0 ((wsL m t).getD (t - 15) 0))) ((wsL m t).getD (t - 16) 0)]
theorem length_wsL (m : Nat → Nat) : ∀ t, (wsL m t).length = t
  | 0 => rfl
  | t + 1 => by rw [wsL, List.length_append, length_wsL m t]; rfl
def ws (m : Nat → Nat) (j : Nat) : Nat := (wsL m (j + 1)).getD j 0
theorem wsL_getD (m : Nat → Nat) {j : Nat} : ∀ {t}, j < t → (wsL m t).getD j 0 = ws m j
  | 0, h => by omega
  | t + 1, h => by
    by_cases e : j = t
    · subst e; rfl
    · rw [wsL, List.getD_eq_getElem?_getD, List.getElem?_append_left (by rw [length_wsL]; omega), ← List.getD_eq_getElem?_getD]
      exact wsL_getD m (by omega)
theorem ws_first (m : Nat → Nat) {t : Nat} (h : t < 16) : ws m t = m t := by
  unfold ws
  rw [wsL, if_pos h, List.getD_eq_getElem?_getD, List.getElem?_append_right (by rw [length_wsL]; omega), length_wsL]
  simp
theorem ws_next (m : Nat → Nat) {t : Nat} (h : ¬ t < 16) : ws m t = ad (ad (ad (sg1 (ws m (t - 2))) (ws m (t - 7))) (sg0 (ws m (t - 15)))) (ws m (t - 16)) := by
  rw [ws, wsL, if_neg h, List.getD_eq_getElem?_getD, List.getElem?_append_right (by rw [length_wsL]; omega), length_wsL, wsL_getD m (by omega), wsL_getD m (by omega), wsL_getD m (by omega), wsL_getD m (by omega)]
  simp
theorem ws_lt {m : Nat → Nat} (hm : ∀ t, m t < 4294967296) (t : Nat) : ws m t < 4294967296 := by
  by_cases h : t < 16
  · rw [ws_first m h]; exact hm t
  · rw [ws_next m h]; exact ad_lt _ _
/-- One round of eight words. -/
def rt1 (v : Nat → Nat) (k w : Nat) : Nat := ad (ad (ad (ad (v 7) (Sg1 (v 4))) (chf (v 4) (v 5) (v 6))) k) w
def rt2 (v : Nat → Nat) : Nat := ad (Sg0 (v 0)) (mjf (v 0) (v 1) (v 2))
def rnd (v : Nat → Nat) (k w : Nat) (i : Nat) : Nat :=
  if i = 0 then ad (rt1 v k w) (rt2 v) else if i = 4 then ad (v 3) (rt1 v k w) else v (i - 1)
def comp (h w : Nat → Nat) : Nat → Nat → Nat
  | 0 => h
  | t + 1 => rnd (comp h w t) (KF t) (w t)
theorem rnd_lt {v : Nat → Nat} (hv : ∀ i, v i < 4294967296) (k w i : Nat) : rnd v k w i < 4294967296 := by
  unfold rnd
  split
  · exact ad_lt _ _
  · split
    · exact ad_lt _ _
    · exact hv _
theorem comp_lt {h : Nat → Nat} (hh : ∀ i, h i < 4294967296) (w : Nat → Nat) : ∀ t i, comp h w t i < 4294967296
  | 0, i => hh i
  | t + 1, i => rnd_lt (comp_lt hh w t) _ _ i
def blkF (h m : Nat → Nat) (i : Nat) : Nat := ad (h i) (comp h (ws m) 64 i)
/-- The word of four bytes, and the words of a block. -/
def gw (M : List Int) (j : Nat) : Nat := (M.getD j 0).toNat * 16777216 + (M.getD (j + 1) 0).toNat * 65536 + (M.getD (j + 2) 0).toNat * 256 + (M.getD (j + 3) 0).toNat
def mF (M : List Int) (o t : Nat) : Nat := gw M (o + 4 * t)
def hF (M : List Int) : Nat → Nat → Nat
  | 0 => HF0
  | j + 1 => blkF (hF M j) (mF M (64 * j))
theorem hF_lt (M : List Int) : ∀ j i, hF M j i < 4294967296
  | 0, i => HF0_lt i
  | j + 1, i => ad_lt _ _
theorem toNat_byte {M : List Int} (hM : AllB M) (j : Nat) : (M.getD j 0).toNat < 256 := by
  by_cases hk : j < M.length
  · have e : M.getD j 0 = M[j] := by simp [List.getD_eq_getElem?_getD, List.getElem?_eq_getElem hk]
    have := hM _ (List.getElem_mem hk)
    rw [e]; omega
  · have e : M.getD j 0 = 0 := by simp [List.getD_eq_getElem?_getD, List.getElem?_eq_none (Nat.le_of_not_lt hk)]
    rw [e]; simp
theorem gw_lt {M : List Int} (hM : AllB M) (j : Nat) : gw M j < 4294967296 := by
  have h0 := toNat_byte hM j; have h1 := toNat_byte hM (j + 1); have h2 := toNat_byte hM (j + 2); have h3 := toNat_byte hM (j + 3)
  unfold gw; omega
theorem or4 {a b c d : Nat} (ha : a < 256) (hb : b < 256) (hc : c < 256) (hd : d < 256) : a * 16777216 ||| b * 65536 ||| c * 256 ||| d = a * 16777216 + b * 65536 + c * 256 + d := by
  rw [nat_join 24 (a * 16777216) (b * 65536) (by omega) (by omega), nat_join 16 (a * 16777216 + b * 65536) (c * 256) (by omega) (by omega), nat_join 8 (a * 16777216 + b * 65536 + c * 256) d (by omega) (by omega)]
/-- How many noughts go behind the 128. -/
def zc (n : Nat) : Nat := (119 - n % 64) % 64
theorem zc_end (n : Nat) : (n + 1 + zc n) % 64 = 56 := by unfold zc; omega
theorem zc_few {n z : Nat} (h : z < zc n) : (n + 1 + z) % 64 ≠ 56 := by unfold zc at h; omega
theorem zc_lt (n : Nat) : zc n < 64 := by unfold zc; omega
/-- Bytes of a word, the highest first. -/
def w4 (x : Nat) : List Int := [((x / 2 ^ 24 % 256 : Nat) : Int), ((x / 2 ^ 16 % 256 : Nat) : Int), ((x / 2 ^ 8 % 256 : Nat) : Int), ((x % 256 : Nat) : Int)]
theorem w4_B (x : Nat) : AllB (w4 x) := fun y hy => by
  simp only [w4, List.mem_cons, List.not_mem_nil, or_false] at hy
  rcases hy with rfl | rfl | rfl | rfl <;> omega
def w8 (x j : Nat) : Int := ((x / 2 ^ (8 * (7 - j)) % 256 : Nat) : Int)
def w8L (x : Nat) : Nat → List Int
  | 0 => []
  | j + 1 => w8L x j ++ [w8 x j]
theorem length_w8L (x : Nat) : ∀ j, (w8L x j).length = j
  | 0 => rfl
  | j + 1 => by rw [w8L, List.length_append, length_w8L x j]; rfl
theorem w8L_B (x : Nat) : ∀ j, AllB (w8L x j)
  | 0 => fun y hy => by cases hy
  | j + 1 => fun y hy => by
    rcases List.mem_append.1 hy with h | h
    · exact w8L_B x j y h
    · rw [List.mem_singleton.1 h]; unfold w8; omega
/-- What the blocks are cut of. -/
def shaM (b : List Int) : List Int := b ++ [128] ++ List.replicate (zc b.length) 0 ++ w8L (8 * b.length) 8
theorem shaM_B {b : List Int} (h : AllB b) : AllB (shaM b) := fun y hy => by
  rcases List.mem_append.1 hy with hy | hy
  · rcases List.mem_append.1 hy with hy | hy
    · rcases List.mem_append.1 hy with hy | hy
      · exact h y hy
      · rw [List.mem_singleton.1 hy]; omega
    · rw [(List.mem_replicate.1 hy).2]; omega
  · exact w8L_B _ _ y hy
theorem shaM_len (b : List Int) : (shaM b).length = b.length + 1 + zc b.length + 8 := by
  simp [shaM, length_w8L]; omega
theorem shaM_64 (b : List Int) : (shaM b).length % 64 = 0 := by rw [shaM_len]; have := zc_end b.length; omega
/-- The first words' bytes. -/
def outW (h : Nat → Nat) : Nat → List Int
  | 0 => []
  | j + 1 => outW h j ++ w4 (h j)
theorem length_outW (h : Nat → Nat) : ∀ j, (outW h j).length = 4 * j
  | 0 => rfl
  | j + 1 => by rw [outW, List.length_append, length_outW h j]; simp [w4]; omega
theorem outW_B (h : Nat → Nat) : ∀ j, AllB (outW h j)
  | 0 => fun y hy => by cases hy
  | j + 1 => fun y hy => (List.mem_append.1 hy).elim (outW_B h j y) (w4_B _ y)
/-- The sum. -/
def shaL (b : List Int) : List Int := outW (hF (shaM b) ((shaM b).length / 64)) 8
theorem shaL_len (b : List Int) : (shaL b).length = 32 := length_outW _ 8
theorem shaL_B (b : List Int) : AllB (shaL b) := outW_B _ 8
end Go.Proofs.YtkfdcdfaikkneaaGreatDoor
/- The document's turn (layer 7). -/
namespace Go.Proofs.YtkfdcdfaikkneaaGreatDoor
open Go.ChangeShapes Go.WideShapes Go.ChangeAt Go.RowKit
set_option linter.unusedVariables false
set_option maxRecDepth 100000

set_option maxHeartbeats 1000000 in
theorem refTurn_N (x n : Nat) (hx : x < 4294967296) (hn : n ≤ 31) (hn1 : 1 ≤ n) (w : World) :
    Calls Tryz.prog 72 #[.int .u32 (x : Nat), .int .i64 (n : Nat)] w fun e w' => e = .returned (.int .u32 ((rr n x : Nat) : Int)) ∧ ∃ j, w' = w.drewN j := by
  have HX := Lib.hid hx
  have hn2 : (n : Int) ≤ 31 := by omega
  have hn3 : 1 ≤ (n : Int) := by omega
  go_enter Tryz.func72, Tryz.ntmps72
  go_wp2_with fail
  go_quiet (fail)
  go_wp2
  go_ret
  have h := u32_or_nat (x / 2 ^ n) (x * 2 ^ (32 - n) % 4294967296) (div32 HX.out n) (Nat.mod_lt _ (by omega))
  have e1 : ((x / 2 ^ n : Nat) : Int) = (x : Int) / 2 ^ n := by rw [Int.natCast_ediv, Int.natCast_pow]; rfl
  have e2 : ((x * 2 ^ (32 - n) % 4294967296 : Nat) : Int) = (x : Int) * 2 ^ (32 - n) % 4294967296 := by rw [Int.natCast_emod, Int.natCast_mul, Int.natCast_pow]; rfl
  rw [e1, e2] at h
  exact ⟨ret_iH h, _, rfl⟩
end Go.Proofs.YtkfdcdfaikkneaaGreatDoor
/- The chapter's example, "abc", reckoned (written by gen33.py). -/
namespace Go.Proofs.YtkfdcdfaikkneaaGreatDoor
open Go.RowKit
set_option linter.unusedVariables false
set_option maxRecDepth 100000

def shaX : List Int := [97, 98, 99]
theorem shaXB : AllB shaX := by unfold AllB shaX; decide
def shaXM : Nat → Nat := mF (shaM shaX) 0
def St (v : Nat → Nat) (a b c d e f g h : Nat) : Prop := v 0 = a ∧ v 1 = b ∧ v 2 = c ∧ v 3 = d ∧ v 4 = e ∧ v 5 = f ∧ v 6 = g ∧ v 7 = h
theorem St.next {h0 w : Nat → Nat} {t a b c d e f g h : Nat} (hv : St (comp h0 w t) a b c d e f g h) (k x T A E : Nat) (hk : KF t = k) (hx : w t = x)
    (hT : ad (ad (ad (ad h (Sg1 e)) (chf e f g)) k) x = T) (hA : ad T (ad (Sg0 a) (mjf a b c)) = A) (hE : ad d T = E) : St (comp h0 w (t + 1)) A a b c E e f g := by
  obtain ⟨h0', h1, h2, h3, h4, h5, h6, h7⟩ := hv
  refine ⟨?_, h0', h1, h2, ?_, h4, h5, h6⟩
  · show ad (rt1 (comp h0 w t) (KF t) (w t)) (rt2 (comp h0 w t)) = A
    unfold rt1 rt2
    rw [h0', h1, h2, h4, h5, h6, h7, hk, hx, hT, hA]
  · show ad (comp h0 w t 3) (rt1 (comp h0 w t) (KF t) (w t)) = E
    unfold rt1
    rw [h3, h4, h5, h6, h7, hk, hx, hT, hE]
theorem xw0 : ws shaXM 0 = 1633837952 := by rw [ws_first shaXM (by omega)]; decide +kernel
theorem xw1 : ws shaXM 1 = 0 := by rw [ws_first shaXM (by omega)]; decide +kernel
theorem xw2 : ws shaXM 2 = 0 := by rw [ws_first shaXM (by omega)]; decide +kernel
theorem xw3 : ws shaXM 3 = 0 := by rw [ws_first shaXM (by omega)]; decide +kernel
theorem xw4 : ws shaXM 4 = 0 := by rw [ws_first shaXM (by omega)]; decide +kernel
theorem xw5 : ws shaXM 5 = 0 := by rw [ws_first shaXM (by omega)]; decide +kernel
theorem xw6 : ws shaXM 6 = 0 := by rw [ws_first shaXM (by omega)]; decide +kernel
theorem xw7 : ws shaXM 7 = 0 := by rw [ws_first shaXM (by omega)]; decide +kernel
theorem xw8 : ws shaXM 8 = 0 := by rw [ws_first shaXM (by omega)]; decide +kernel
theorem xw9 : ws shaXM 9 = 0 := by rw [ws_first shaXM (by omega)]; decide +kernel
theorem xw10 : ws shaXM 10 = 0 := by rw [ws_first shaXM (by omega)]; decide +kernel
theorem xw11 : ws shaXM 11 = 0 := by rw [ws_first shaXM (by omega)]; decide +kernel
theorem xw12 : ws shaXM 12 = 0 := by rw [ws_first shaXM (by omega)]; decide +kernel
theorem xw13 : ws shaXM 13 = 0 := by rw [ws_first shaXM (by omega)]; decide +kernel
theorem xw14 : ws shaXM 14 = 0 := by rw [ws_first shaXM (by omega)]; decide +kernel
theorem xw15 : ws shaXM 15 = 24 := by rw [ws_first shaXM (by omega)]; decide +kernel
theorem xw16 : ws shaXM 16 = 1633837952 := by
  rw [ws_next shaXM (by omega)]
  show ad (ad (ad (sg1 (ws shaXM 14)) (ws shaXM 9)) (sg0 (ws shaXM 1))) (ws shaXM 0) = 1633837952
  rw [xw14, xw9, xw1, xw0]; decide +kernel
theorem xw17 : ws shaXM 17 = 983040 := by
  rw [ws_next shaXM (by omega)]
  show ad (ad (ad (sg1 (ws shaXM 15)) (ws shaXM 10)) (sg0 (ws shaXM 2))) (ws shaXM 1) = 983040
  rw [xw15, xw10, xw2, xw1]; decide +kernel
theorem xw18 : ws shaXM 18 = 2108187653 := by
  rw [ws_next shaXM (by omega)]
  show ad (ad (ad (sg1 (ws shaXM 16)) (ws shaXM 11)) (sg0 (ws shaXM 3))) (ws shaXM 2) = 2108187653
  rw [xw16, xw11, xw3, xw2]; decide +kernel
theorem xw19 : ws shaXM 19 = 1610613702 := by
  rw [ws_next shaXM (by omega)]
  show ad (ad (ad (sg1 (ws shaXM 17)) (ws shaXM 12)) (sg0 (ws shaXM 4))) (ws shaXM 3) = 1610613702
  rw [xw17, xw12, xw4, xw3]; decide +kernel
theorem xw20 : ws shaXM 20 = 1050508152 := by
  rw [ws_next shaXM (by omega)]
  show ad (ad (ad (sg1 (ws shaXM 18)) (ws shaXM 13)) (sg0 (ws shaXM 5))) (ws shaXM 4) = 1050508152
  rw [xw18, xw13, xw5, xw4]; decide +kernel
theorem xw21 : ws shaXM 21 = 25426944 := by
  rw [ws_next shaXM (by omega)]
  show ad (ad (ad (sg1 (ws shaXM 19)) (ws shaXM 14)) (sg0 (ws shaXM 6))) (ws shaXM 5) = 25426944
  rw [xw19, xw14, xw6, xw5]; decide +kernel
theorem xw22 : ws shaXM 22 = 316456923 := by
  rw [ws_next shaXM (by omega)]
  show ad (ad (ad (sg1 (ws shaXM 20)) (ws shaXM 15)) (sg0 (ws shaXM 7))) (ws shaXM 6) = 316456923
  rw [xw20, xw15, xw7, xw6]; decide +kernel
theorem xw23 : ws shaXM 23 = 3806512014 := by
  rw [ws_next shaXM (by omega)]
  show ad (ad (ad (sg1 (ws shaXM 21)) (ws shaXM 16)) (sg0 (ws shaXM 8))) (ws shaXM 7) = 3806512014
  rw [xw21, xw16, xw8, xw7]; decide +kernel
theorem xw24 : ws shaXM 24 = 3357629466 := by
  rw [ws_next shaXM (by omega)]
  show ad (ad (ad (sg1 (ws shaXM 22)) (ws shaXM 17)) (sg0 (ws shaXM 9))) (ws shaXM 8) = 3357629466
  rw [xw22, xw17, xw9, xw8]; decide +kernel
theorem xw25 : ws shaXM 25 = 3073800610 := by
  rw [ws_next shaXM (by omega)]
  show ad (ad (ad (sg1 (ws shaXM 23)) (ws shaXM 18)) (sg0 (ws shaXM 10))) (ws shaXM 9) = 3073800610
  rw [xw23, xw18, xw10, xw9]; decide +kernel
theorem xw26 : ws shaXM 26 = 3854317833 := by
  rw [ws_next shaXM (by omega)]
  show ad (ad (ad (sg1 (ws shaXM 24)) (ws shaXM 19)) (sg0 (ws shaXM 11))) (ws shaXM 10) = 3854317833
  rw [xw24, xw19, xw11, xw10]; decide +kernel
theorem xw27 : ws shaXM 27 = 845560923 := by
  rw [ws_next shaXM (by omega)]
  show ad (ad (ad (sg1 (ws shaXM 25)) (ws shaXM 20)) (sg0 (ws shaXM 12))) (ws shaXM 11) = 845560923
  rw [xw25, xw20, xw12, xw11]; decide +kernel
theorem xw28 : ws shaXM 28 = 2636160359 := by
  rw [ws_next shaXM (by omega)]
  show ad (ad (ad (sg1 (ws shaXM 26)) (ws shaXM 21)) (sg0 (ws shaXM 13))) (ws shaXM 12) = 2636160359
  rw [xw26, xw21, xw13, xw12]; decide +kernel
theorem xw29 : ws shaXM 29 = 3968280267 := by
  rw [ws_next shaXM (by omega)]
  show ad (ad (ad (sg1 (ws shaXM 27)) (ws shaXM 22)) (sg0 (ws shaXM 14))) (ws shaXM 13) = 3968280267
  rw [xw27, xw22, xw14, xw13]; decide +kernel
theorem xw30 : ws shaXM 30 = 1881225380 := by
  rw [ws_next shaXM (by omega)]
  show ad (ad (ad (sg1 (ws shaXM 28)) (ws shaXM 23)) (sg0 (ws shaXM 15))) (ws shaXM 14) = 1881225380
  rw [xw28, xw23, xw15, xw14]; decide +kernel
theorem xw31 : ws shaXM 31 = 3552024379 := by
  rw [ws_next shaXM (by omega)]
  show ad (ad (ad (sg1 (ws shaXM 29)) (ws shaXM 24)) (sg0 (ws shaXM 16))) (ws shaXM 15) = 3552024379
  rw [xw29, xw24, xw16, xw15]; decide +kernel
theorem xw32 : ws shaXM 32 = 2482346367 := by
  rw [ws_next shaXM (by omega)]
  show ad (ad (ad (sg1 (ws shaXM 30)) (ws shaXM 25)) (sg0 (ws shaXM 17))) (ws shaXM 16) = 2482346367
  rw [xw30, xw25, xw17, xw16]; decide +kernel
theorem xw33 : ws shaXM 33 = 996719219 := by
  rw [ws_next shaXM (by omega)]
  show ad (ad (ad (sg1 (ws shaXM 31)) (ws shaXM 26)) (sg0 (ws shaXM 18))) (ws shaXM 17) = 996719219
  rw [xw31, xw26, xw18, xw17]; decide +kernel
theorem xw34 : ws shaXM 34 = 2952069057 := by
  rw [ws_next shaXM (by omega)]
  show ad (ad (ad (sg1 (ws shaXM 32)) (ws shaXM 27)) (sg0 (ws shaXM 19))) (ws shaXM 18) = 2952069057
  rw [xw32, xw27, xw19, xw18]; decide +kernel
theorem xw35 : ws shaXM 35 = 4043988066 := by
  rw [ws_next shaXM (by omega)]
  show ad (ad (ad (sg1 (ws shaXM 33)) (ws shaXM 28)) (sg0 (ws shaXM 20))) (ws shaXM 19) = 4043988066
  rw [xw33, xw28, xw20, xw19]; decide +kernel
theorem xw36 : ws shaXM 36 = 176896406 := by
  rw [ws_next shaXM (by omega)]
  show ad (ad (ad (sg1 (ws shaXM 34)) (ws shaXM 29)) (sg0 (ws shaXM 21))) (ws shaXM 20) = 176896406
  rw [xw34, xw29, xw21, xw20]; decide +kernel
theorem xw37 : ws shaXM 37 = 1924104970 := by
  rw [ws_next shaXM (by omega)]
  show ad (ad (ad (sg1 (ws shaXM 35)) (ws shaXM 30)) (sg0 (ws shaXM 22))) (ws shaXM 21) = 1924104970
  rw [xw35, xw30, xw22, xw21]; decide +kernel
theorem xw38 : ws shaXM 38 = 2483675966 := by
  rw [ws_next shaXM (by omega)]
  show ad (ad (ad (sg1 (ws shaXM 36)) (ws shaXM 31)) (sg0 (ws shaXM 23))) (ws shaXM 22) = 2483675966
  rw [xw36, xw31, xw23, xw22]; decide +kernel
theorem xw39 : ws shaXM 39 = 610538786 := by
  rw [ws_next shaXM (by omega)]
  show ad (ad (ad (sg1 (ws shaXM 37)) (ws shaXM 32)) (sg0 (ws shaXM 24))) (ws shaXM 23) = 610538786
  rw [xw37, xw32, xw24, xw23]; decide +kernel
theorem xw40 : ws shaXM 40 = 2672279444 := by
  rw [ws_next shaXM (by omega)]
  show ad (ad (ad (sg1 (ws shaXM 38)) (ws shaXM 33)) (sg0 (ws shaXM 25))) (ws shaXM 24) = 2672279444
  rw [xw38, xw33, xw25, xw24]; decide +kernel
theorem xw41 : ws shaXM 41 = 4037431130 := by
  rw [ws_next shaXM (by omega)]
  show ad (ad (ad (sg1 (ws shaXM 39)) (ws shaXM 34)) (sg0 (ws shaXM 26))) (ws shaXM 25) = 4037431130
  rw [xw39, xw34, xw26, xw25]; decide +kernel
theorem xw42 : ws shaXM 42 = 1042573945 := by
  rw [ws_next shaXM (by omega)]
  show ad (ad (ad (sg1 (ws shaXM 40)) (ws shaXM 35)) (sg0 (ws shaXM 27))) (ws shaXM 26) = 1042573945
  rw [xw40, xw35, xw27, xw26]; decide +kernel
theorem xw43 : ws shaXM 43 = 657669027 := by
  rw [ws_next shaXM (by omega)]
  show ad (ad (ad (sg1 (ws shaXM 41)) (ws shaXM 36)) (sg0 (ws shaXM 28))) (ws shaXM 27) = 657669027
  rw [xw41, xw36, xw28, xw27]; decide +kernel
theorem xw44 : ws shaXM 44 = 206005234 := by
  rw [ws_next shaXM (by omega)]
  show ad (ad (ad (sg1 (ws shaXM 42)) (ws shaXM 37)) (sg0 (ws shaXM 29))) (ws shaXM 28) = 206005234
  rw [xw42, xw37, xw29, xw28]; decide +kernel
theorem xw45 : ws shaXM 45 = 2215296807 := by
  rw [ws_next shaXM (by omega)]
  show ad (ad (ad (sg1 (ws shaXM 43)) (ws shaXM 38)) (sg0 (ws shaXM 30))) (ws shaXM 29) = 2215296807
  rw [xw43, xw38, xw30, xw29]; decide +kernel
theorem xw46 : ws shaXM 46 = 2049510749 := by
  rw [ws_next shaXM (by omega)]
  show ad (ad (ad (sg1 (ws shaXM 44)) (ws shaXM 39)) (sg0 (ws shaXM 31))) (ws shaXM 30) = 2049510749
  rw [xw44, xw39, xw31, xw30]; decide +kernel
theorem xw47 : ws shaXM 47 = 106709978 := by
  rw [ws_next shaXM (by omega)]
  show ad (ad (ad (sg1 (ws shaXM 45)) (ws shaXM 40)) (sg0 (ws shaXM 32))) (ws shaXM 31) = 106709978
  rw [xw45, xw40, xw32, xw31]; decide +kernel
theorem xw48 : ws shaXM 48 = 4215179723 := by
  rw [ws_next shaXM (by omega)]
  show ad (ad (ad (sg1 (ws shaXM 46)) (ws shaXM 41)) (sg0 (ws shaXM 33))) (ws shaXM 32) = 4215179723
  rw [xw46, xw41, xw33, xw32]; decide +kernel
theorem xw49 : ws shaXM 49 = 3430291419 := by
  rw [ws_next shaXM (by omega)]
  show ad (ad (ad (sg1 (ws shaXM 47)) (ws shaXM 42)) (sg0 (ws shaXM 34))) (ws shaXM 33) = 3430291419
  rw [xw47, xw42, xw34, xw33]; decide +kernel
theorem xw50 : ws shaXM 50 = 3118885940 := by
  rw [ws_next shaXM (by omega)]
  show ad (ad (ad (sg1 (ws shaXM 48)) (ws shaXM 43)) (sg0 (ws shaXM 35))) (ws shaXM 34) = 3118885940
  rw [xw48, xw43, xw35, xw34]; decide +kernel
theorem xw51 : ws shaXM 51 = 2845390439 := by
  rw [ws_next shaXM (by omega)]
  show ad (ad (ad (sg1 (ws shaXM 49)) (ws shaXM 44)) (sg0 (ws shaXM 36))) (ws shaXM 35) = 2845390439
  rw [xw49, xw44, xw36, xw35]; decide +kernel
theorem xw52 : ws shaXM 52 = 2226839261 := by
  rw [ws_next shaXM (by omega)]
  show ad (ad (ad (sg1 (ws shaXM 50)) (ws shaXM 45)) (sg0 (ws shaXM 37))) (ws shaXM 36) = 2226839261
  rw [xw50, xw45, xw37, xw36]; decide +kernel
theorem xw53 : ws shaXM 53 = 3256115900 := by
  rw [ws_next shaXM (by omega)]
  show ad (ad (ad (sg1 (ws shaXM 51)) (ws shaXM 46)) (sg0 (ws shaXM 38))) (ws shaXM 37) = 3256115900
  rw [xw51, xw46, xw38, xw37]; decide +kernel
theorem xw54 : ws shaXM 54 = 344409900 := by
  rw [ws_next shaXM (by omega)]
  show ad (ad (ad (sg1 (ws shaXM 52)) (ws shaXM 47)) (sg0 (ws shaXM 39))) (ws shaXM 38) = 344409900
  rw [xw52, xw47, xw39, xw38]; decide +kernel
theorem xw55 : ws shaXM 55 = 2987358873 := by
  rw [ws_next shaXM (by omega)]
  show ad (ad (ad (sg1 (ws shaXM 53)) (ws shaXM 48)) (sg0 (ws shaXM 40))) (ws shaXM 39) = 2987358873
  rw [xw53, xw48, xw40, xw39]; decide +kernel
theorem xw56 : ws shaXM 56 = 4015503821 := by
  rw [ws_next shaXM (by omega)]
  show ad (ad (ad (sg1 (ws shaXM 54)) (ws shaXM 49)) (sg0 (ws shaXM 41))) (ws shaXM 40) = 4015503821
  rw [xw54, xw49, xw41, xw40]; decide +kernel
theorem xw57 : ws shaXM 57 = 3957764664 := by
  rw [ws_next shaXM (by omega)]
  show ad (ad (ad (sg1 (ws shaXM 55)) (ws shaXM 50)) (sg0 (ws shaXM 42))) (ws shaXM 41) = 3957764664
  rw [xw55, xw50, xw42, xw41]; decide +kernel
theorem xw58 : ws shaXM 58 = 2682456414 := by
  rw [ws_next shaXM (by omega)]
  show ad (ad (ad (sg1 (ws shaXM 56)) (ws shaXM 51)) (sg0 (ws shaXM 43))) (ws shaXM 42) = 2682456414
  rw [xw56, xw51, xw43, xw42]; decide +kernel
theorem xw59 : ws shaXM 59 = 2025622859 := by
  rw [ws_next shaXM (by omega)]
  show ad (ad (ad (sg1 (ws shaXM 57)) (ws shaXM 52)) (sg0 (ws shaXM 44))) (ws shaXM 43) = 2025622859
  rw [xw57, xw52, xw44, xw43]; decide +kernel
theorem xw60 : ws shaXM 60 = 2755645205 := by
  rw [ws_next shaXM (by omega)]
  show ad (ad (ad (sg1 (ws shaXM 58)) (ws shaXM 53)) (sg0 (ws shaXM 45))) (ws shaXM 44) = 2755645205
  rw [xw58, xw53, xw45, xw44]; decide +kernel
theorem xw61 : ws shaXM 61 = 1720397816 := by
  rw [ws_next shaXM (by omega)]
  show ad (ad (ad (sg1 (ws shaXM 59)) (ws shaXM 54)) (sg0 (ws shaXM 46))) (ws shaXM 45) = 1720397816
  rw [xw59, xw54, xw46, xw45]; decide +kernel
theorem xw62 : ws shaXM 62 = 4004225740 := by
  rw [ws_next shaXM (by omega)]
  show ad (ad (ad (sg1 (ws shaXM 60)) (ws shaXM 55)) (sg0 (ws shaXM 47))) (ws shaXM 46) = 4004225740
  rw [xw60, xw55, xw47, xw46]; decide +kernel
theorem xw63 : ws shaXM 63 = 313650667 := by
  rw [ws_next shaXM (by omega)]
  show ad (ad (ad (sg1 (ws shaXM 61)) (ws shaXM 56)) (sg0 (ws shaXM 48))) (ws shaXM 47) = 313650667
  rw [xw61, xw56, xw48, xw47]; decide +kernel
theorem xc0 : St (comp HF0 (ws shaXM) 0) 1779033703 3144134277 1013904242 2773480762 1359893119 2600822924 528734635 1541459225 := by refine ⟨?_, ?_, ?_, ?_, ?_, ?_, ?_, ?_⟩ <;> (show HF0 _ = _) <;> decide +kernel
theorem xc1 : St (comp HF0 (ws shaXM) 1) 1567288269 1779033703 3144134277 1013904242 4197074466 1359893119 2600822924 528734635 := xc0.next 1116352408 1633837952 1423593704 1567288269 4197074466 (by decide +kernel) xw0 (by decide +kernel) (by decide +kernel) (by decide +kernel)
theorem xc2 : St (comp HF0 (ws shaXM) 2) 1516951981 1567288269 1779033703 3144134277 2026797449 4197074466 1359893119 2600822924 := xc1.next 1899447441 0 1012893207 1516951981 2026797449 (by decide +kernel) xw1 (by decide +kernel) (by decide +kernel) (by decide +kernel)
theorem xc3 : St (comp HF0 (ws shaXM) 3) 3368241063 1516951981 1567288269 1779033703 4180228587 2026797449 4197074466 1359893119 := xc2.next 3049323471 0 1036094310 3368241063 4180228587 (by decide +kernel) xw2 (by decide +kernel) (by decide +kernel) (by decide +kernel)
theorem xc4 : St (comp HF0 (ws shaXM) 4) 3578852966 3368241063 1516951981 1567288269 618661968 4180228587 2026797449 4197074466 := xc3.next 3921009573 0 3134595561 3578852966 618661968 (by decide +kernel) xw3 (by decide +kernel) (by decide +kernel) (by decide +kernel)
theorem xc5 : St (comp HF0 (ws shaXM) 5) 71342698 3578852966 3368241063 1516951981 1135452741 618661968 4180228587 2026797449 := xc4.next 961987163 0 3863131768 71342698 1135452741 (by decide +kernel) xw4 (by decide +kernel) (by decide +kernel) (by decide +kernel)
theorem xc6 : St (comp HF0 (ws shaXM) 6) 725748213 71342698 3578852966 3368241063 1900175533 1135452741 618661968 4180228587 := xc5.next 1508970993 0 383223552 725748213 1900175533 (by decide +kernel) xw5 (by decide +kernel) (by decide +kernel) (by decide +kernel)
theorem xc7 : St (comp HF0 (ws shaXM) 7) 3842179968 725748213 71342698 3578852966 2603066369 1900175533 1135452741 618661968 := xc6.next 2453635748 0 3529792602 3842179968 2603066369 (by decide +kernel) xw6 (by decide +kernel) (by decide +kernel) (by decide +kernel)
theorem xc8 : St (comp HF0 (ws shaXM) 8) 2241887071 3842179968 725748213 71342698 207977081 2603066369 1900175533 1135452741 := xc7.next 2870763221 0 924091411 2241887071 207977081 (by decide +kernel) xw7 (by decide +kernel) (by decide +kernel) (by decide +kernel)
theorem xc9 : St (comp HF0 (ws shaXM) 9) 2382687417 2241887071 3842179968 725748213 852110732 207977081 2603066369 1900175533 := xc8.next 3624381080 0 780768034 2382687417 852110732 (by decide +kernel) xw8 (by decide +kernel) (by decide +kernel) (by decide +kernel)
theorem xc10 : St (comp HF0 (ws shaXM) 10) 2357671019 2382687417 2241887071 3842179968 482944406 852110732 207977081 2603066369 := xc9.next 310598401 0 4052163489 2357671019 482944406 (by decide +kernel) xw9 (by decide +kernel) (by decide +kernel) (by decide +kernel)
theorem xc11 : St (comp HF0 (ws shaXM) 11) 1201185780 2357671019 2382687417 2241887071 1131095016 482944406 852110732 207977081 := xc10.next 607225278 0 1583882344 1201185780 1131095016 (by decide +kernel) xw10 (by decide +kernel) (by decide +kernel) (by decide +kernel)
theorem xc12 : St (comp HF0 (ws shaXM) 12) 4146054569 1201185780 2357671019 2382687417 2171590377 1131095016 482944406 852110732 := xc11.next 1426881987 0 4224670602 4146054569 2171590377 (by decide +kernel) xw11 (by decide +kernel) (by decide +kernel) (by decide +kernel)
theorem xc13 : St (comp HF0 (ws shaXM) 13) 2274437520 4146054569 1201185780 2357671019 509051416 2171590377 1131095016 482944406 := xc12.next 1925078388 0 2421331295 2274437520 509051416 (by decide +kernel) xw12 (by decide +kernel) (by decide +kernel) (by decide +kernel)
theorem xc14 : St (comp HF0 (ws shaXM) 14) 3643992854 2274437520 4146054569 1201185780 1952073950 509051416 2171590377 1131095016 := xc13.next 2162078206 0 3889370227 3643992854 1952073950 (by decide +kernel) xw13 (by decide +kernel) (by decide +kernel) (by decide +kernel)
theorem xc15 : St (comp HF0 (ws shaXM) 15) 3227803614 3643992854 2274437520 4146054569 194179596 1952073950 509051416 2171590377 := xc14.next 2614888103 0 3287961112 3227803614 194179596 (by decide +kernel) xw14 (by decide +kernel) (by decide +kernel) (by decide +kernel)
theorem xc16 : St (comp HF0 (ws shaXM) 16) 2969183118 3227803614 3643992854 2274437520 123276749 194179596 1952073950 509051416 := xc15.next 3248222580 24 272189476 2969183118 123276749 (by decide +kernel) xw15 (by decide +kernel) (by decide +kernel) (by decide +kernel)
theorem xc17 : St (comp HF0 (ws shaXM) 17) 567974555 2969183118 3227803614 3643992854 2150900380 123276749 194179596 1952073950 := xc16.next 3835390401 1633837952 4171430156 567974555 2150900380 (by decide +kernel) xw16 (by decide +kernel) (by decide +kernel) (by decide +kernel)
theorem xc18 : St (comp HF0 (ws shaXM) 18) 3271285201 567974555 2969183118 3227803614 2221859924 2150900380 123276749 194179596 := xc17.next 4022224774 983040 2872834366 3271285201 2221859924 (by decide +kernel) xw17 (by decide +kernel) (by decide +kernel) (by decide +kernel)
theorem xc19 : St (comp HF0 (ws shaXM) 19) 4269243327 3271285201 567974555 2969183118 3431569761 2221859924 2150900380 123276749 := xc18.next 264347078 2108187653 203766147 4269243327 3431569761 (by decide +kernel) xw18 (by decide +kernel) (by decide +kernel) (by decide +kernel)
theorem xc20 : St (comp HF0 (ws shaXM) 20) 3790736435 4269243327 3271285201 567974555 2959311225 3431569761 2221859924 2150900380 := xc19.next 604807628 1610613702 4285095403 3790736435 2959311225 (by decide +kernel) xw19 (by decide +kernel) (by decide +kernel) (by decide +kernel)
theorem xc21 : St (comp HF0 (ws shaXM) 21) 2647034723 3790736435 4269243327 3271285201 2329577776 2959311225 3431569761 2221859924 := xc20.next 770255983 1050508152 1761603221 2647034723 2329577776 (by decide +kernel) xw20 (by decide +kernel) (by decide +kernel) (by decide +kernel)
theorem xc22 : St (comp HF0 (ws shaXM) 22) 3261099373 2647034723 3790736435 4269243327 3777329520 2329577776 2959311225 3431569761 := xc21.next 1249150122 25426944 506044319 3261099373 3777329520 (by decide +kernel) xw21 (by decide +kernel) (by decide +kernel) (by decide +kernel)
theorem xc23 : St (comp HF0 (ws shaXM) 23) 2812502591 3261099373 2647034723 3790736435 1240797514 3777329520 2329577776 2959311225 := xc22.next 1555081692 316456923 1266521483 2812502591 1240797514 (by decide +kernel) xw22 (by decide +kernel) (by decide +kernel) (by decide +kernel)
theorem xc24 : St (comp HF0 (ws shaXM) 24) 3319086477 2812502591 3261099373 2647034723 2856829767 1240797514 3777329520 2329577776 := xc23.next 1996064986 3806512014 3361060628 3319086477 2856829767 (by decide +kernel) xw23 (by decide +kernel) (by decide +kernel) (by decide +kernel)
theorem xc25 : St (comp HF0 (ws shaXM) 25) 472655928 3319086477 2812502591 3261099373 673443729 2856829767 1240797514 3777329520 := xc24.next 2554220882 3357629466 2321376302 472655928 673443729 (by decide +kernel) xw24 (by decide +kernel) (by decide +kernel) (by decide +kernel)
theorem xc26 : St (comp HF0 (ws shaXM) 26) 3454534525 472655928 3319086477 2812502591 339230094 673443729 2856829767 1240797514 := xc25.next 2821834349 3073800610 1373098017 3454534525 339230094 (by decide +kernel) xw25 (by decide +kernel) (by decide +kernel) (by decide +kernel)
theorem xc27 : St (comp HF0 (ws shaXM) 27) 3056518332 3454534525 472655928 3319086477 3343672598 339230094 673443729 2856829767 := xc26.next 2952996808 3854317833 531170007 3056518332 3343672598 (by decide +kernel) xw26 (by decide +kernel) (by decide +kernel) (by decide +kernel)
theorem xc28 : St (comp HF0 (ws shaXM) 28) 2010346792 3056518332 3454534525 472655928 3992961016 3343672598 339230094 673443729 := xc27.next 3210313671 845560923 673874539 2010346792 3992961016 (by decide +kernel) xw27 (by decide +kernel) (by decide +kernel) (by decide +kernel)
theorem xc29 : St (comp HF0 (ws shaXM) 29) 909411017 2010346792 3056518332 3454534525 1628611511 3992961016 3343672598 339230094 := xc28.next 3336571891 2636160359 1155955583 909411017 1628611511 (by decide +kernel) xw28 (by decide +kernel) (by decide +kernel) (by decide +kernel)
theorem xc30 : St (comp HF0 (ws shaXM) 30) 2684750640 909411017 2010346792 3056518332 2917635127 1628611511 3992961016 3343672598 := xc29.next 3584528711 3968280267 3758067898 2684750640 2917635127 (by decide +kernel) xw29 (by decide +kernel) (by decide +kernel) (by decide +kernel)
theorem xc31 : St (comp HF0 (ws shaXM) 31) 3935906338 2684750640 909411017 2010346792 17410874 2917635127 1628611511 3992961016 := xc30.next 113926993 1881225380 1255859838 3935906338 17410874 (by decide +kernel) xw30 (by decide +kernel) (by decide +kernel) (by decide +kernel)
theorem xc32 : St (comp HF0 (ws shaXM) 32) 1941126133 3935906338 2684750640 909411017 3126399250 17410874 2917635127 1628611511 := xc31.next 338241895 3552024379 1116052458 1941126133 3126399250 (by decide +kernel) xw31 (by decide +kernel) (by decide +kernel) (by decide +kernel)
theorem xc33 : St (comp HF0 (ws shaXM) 33) 2564891911 1941126133 3935906338 2684750640 2631529974 3126399250 17410874 2917635127 := xc32.next 666307205 2482346367 1722118957 2564891911 2631529974 (by decide +kernel) xw32 (by decide +kernel) (by decide +kernel) (by decide +kernel)
theorem xc34 : St (comp HF0 (ws shaXM) 34) 4267724277 2564891911 1941126133 3935906338 1495571923 2631529974 3126399250 17410874 := xc33.next 773529912 996719219 3105788579 4267724277 1495571923 (by decide +kernel) xw33 (by decide +kernel) (by decide +kernel) (by decide +kernel)
theorem xc35 : St (comp HF0 (ws shaXM) 35) 2846323596 4267724277 2564891911 1941126133 140458035 1495571923 2631529974 3126399250 := xc34.next 1294757372 2952069057 499518993 2846323596 140458035 (by decide +kernel) xw34 (by decide +kernel) (by decide +kernel) (by decide +kernel)
theorem xc36 : St (comp HF0 (ws shaXM) 36) 1705037796 2846323596 4267724277 2564891911 4105175766 140458035 1495571923 2631529974 := xc35.next 1396182291 4043988066 2164049633 1705037796 4105175766 (by decide +kernel) xw35 (by decide +kernel) (by decide +kernel) (by decide +kernel)
theorem xc37 : St (comp HF0 (ws shaXM) 37) 1101421745 1705037796 2846323596 4267724277 124953195 4105175766 140458035 1495571923 := xc36.next 1695183700 176896406 1855028580 1101421745 124953195 (by decide +kernel) xw36 (by decide +kernel) (by decide +kernel) (by decide +kernel)
theorem xc38 : St (comp HF0 (ws shaXM) 38) 887035396 1101421745 1705037796 2846323596 2768741693 124953195 4105175766 140458035 := xc37.next 1986661051 1924104970 2795984712 887035396 2768741693 (by decide +kernel) xw37 (by decide +kernel) (by decide +kernel) (by decide +kernel)
theorem xc39 : St (comp HF0 (ws shaXM) 39) 1841658506 887035396 1101421745 1705037796 4034403272 2768741693 124953195 4105175766 := xc38.next 2177026350 2483675966 1188079676 1841658506 4034403272 (by decide +kernel) xw38 (by decide +kernel) (by decide +kernel) (by decide +kernel)
theorem xc40 : St (comp HF0 (ws shaXM) 40) 2045405306 1841658506 887035396 1101421745 519815328 4034403272 2768741693 124953195 := xc39.next 2456956037 610538786 3109744828 2045405306 519815328 (by decide +kernel) xw39 (by decide +kernel) (by decide +kernel) (by decide +kernel)
theorem xc41 : St (comp HF0 (ws shaXM) 41) 3597076326 2045405306 1841658506 887035396 641019235 519815328 4034403272 2768741693 := xc40.next 2730485921 2672279444 3834564786 3597076326 641019235 (by decide +kernel) xw40 (by decide +kernel) (by decide +kernel) (by decide +kernel)
theorem xc42 : St (comp HF0 (ws shaXM) 42) 3745932591 3597076326 2045405306 1841658506 2206934801 641019235 519815328 4034403272 := xc41.next 2820302411 4037431130 1319899405 3745932591 2206934801 (by decide +kernel) xw41 (by decide +kernel) (by decide +kernel) (by decide +kernel)
theorem xc43 : St (comp HF0 (ws shaXM) 43) 397020670 3745932591 3597076326 2045405306 3737995029 2206934801 641019235 519815328 := xc42.next 3259730800 1042573945 1896336523 397020670 3737995029 (by decide +kernel) xw42 (by decide +kernel) (by decide +kernel) (by decide +kernel)
theorem xc44 : St (comp HF0 (ws shaXM) 44) 2638983059 397020670 3745932591 3597076326 4255271982 3737995029 2206934801 641019235 := xc43.next 3345764771 657669027 2209866676 2638983059 4255271982 (by decide +kernel) xw43 (by decide +kernel) (by decide +kernel) (by decide +kernel)
theorem xc45 : St (comp HF0 (ws shaXM) 45) 643991573 2638983059 397020670 3745932591 2819559920 4255271982 3737995029 2206934801 := xc44.next 3516065817 206005234 3517450890 643991573 2819559920 (by decide +kernel) xw44 (by decide +kernel) (by decide +kernel) (by decide +kernel)
theorem xc46 : St (comp HF0 (ws shaXM) 46) 1923828625 643991573 2638983059 397020670 3077922209 2819559920 4255271982 3737995029 := xc45.next 3600352804 2215296807 3626956914 1923828625 3077922209 (by decide +kernel) xw45 (by decide +kernel) (by decide +kernel) (by decide +kernel)
theorem xc47 : St (comp HF0 (ws shaXM) 47) 2706117808 1923828625 643991573 2638983059 3581645993 3077922209 2819559920 4255271982 := xc46.next 4094571909 2049510749 3184625323 2706117808 3581645993 (by decide +kernel) xw46 (by decide +kernel) (by decide +kernel) (by decide +kernel)
theorem xc48 : St (comp HF0 (ws shaXM) 48) 1098003085 2706117808 1923828625 643991573 4274981830 3581645993 3077922209 2819559920 := xc47.next 275423344 106709978 1635998771 1098003085 4274981830 (by decide +kernel) xw47 (by decide +kernel) (by decide +kernel) (by decide +kernel)
theorem xc49 : St (comp HF0 (ws shaXM) 49) 91585771 1098003085 2706117808 1923828625 3178315832 4274981830 3581645993 3077922209 := xc48.next 430227734 4215179723 2534324259 91585771 3178315832 (by decide +kernel) xw48 (by decide +kernel) (by decide +kernel) (by decide +kernel)
theorem xc50 : St (comp HF0 (ws shaXM) 50) 4045142696 91585771 1098003085 2706117808 1851537676 3178315832 4274981830 3581645993 := xc49.next 506948616 3430291419 4222676347 4045142696 1851537676 (by decide +kernel) xw49 (by decide +kernel) (by decide +kernel) (by decide +kernel)
theorem xc51 : St (comp HF0 (ws shaXM) 51) 2047150241 4045142696 91585771 1098003085 1391578359 1851537676 3178315832 4274981830 := xc50.next 659060556 3118885940 2980427847 2047150241 1391578359 (by decide +kernel) xw50 (by decide +kernel) (by decide +kernel) (by decide +kernel)
theorem xc52 : St (comp HF0 (ws shaXM) 52) 2288941602 2047150241 4045142696 91585771 1227037726 1391578359 1851537676 3178315832 := xc51.next 883997877 2845390439 129034641 2288941602 1227037726 (by decide +kernel) xw51 (by decide +kernel) (by decide +kernel) (by decide +kernel)
theorem xc53 : St (comp HF0 (ws shaXM) 53) 270520975 2288941602 2047150241 4045142696 1386118400 1227037726 1391578359 1851537676 := xc52.next 958139571 2226839261 1294532629 270520975 1386118400 (by decide +kernel) xw52 (by decide +kernel) (by decide +kernel) (by decide +kernel)
theorem xc54 : St (comp HF0 (ws shaXM) 54) 4117770203 270520975 2288941602 2047150241 2672265155 1386118400 1227037726 1391578359 := xc53.next 1322822218 3256115900 2922089755 4117770203 2672265155 (by decide +kernel) xw53 (by decide +kernel) (by decide +kernel) (by decide +kernel)
theorem xc55 : St (comp HF0 (ws shaXM) 55) 1053056219 4117770203 270520975 2288941602 3842906959 2672265155 1386118400 1227037726 := xc54.next 1537002063 344409900 1795756718 1053056219 3842906959 (by decide +kernel) xw54 (by decide +kernel) (by decide +kernel) (by decide +kernel)
theorem xc56 : St (comp HF0 (ws shaXM) 56) 952932627 1053056219 4117770203 270520975 1422599787 3842906959 2672265155 1386118400 := xc55.next 1747873779 2987358873 3428625481 952932627 1422599787 (by decide +kernel) xw55 (by decide +kernel) (by decide +kernel) (by decide +kernel)
theorem xc57 : St (comp HF0 (ws shaXM) 57) 4241590395 952932627 1053056219 4117770203 2606665836 1422599787 3842906959 2672265155 := xc56.next 1955562222 4015503821 2336144861 4241590395 2606665836 (by decide +kernel) xw56 (by decide +kernel) (by decide +kernel) (by decide +kernel)
theorem xc58 : St (comp HF0 (ws shaXM) 58) 3227702383 4241590395 952932627 1053056219 2118385806 2606665836 1422599787 3842906959 := xc57.next 2024104815 3957764664 2295582899 3227702383 2118385806 (by decide +kernel) xw57 (by decide +kernel) (by decide +kernel) (by decide +kernel)
theorem xc59 : St (comp HF0 (ws shaXM) 59) 4290184306 3227702383 4241590395 952932627 1837350854 2118385806 2606665836 1422599787 := xc58.next 2227730452 2682456414 784294635 4290184306 1837350854 (by decide +kernel) xw58 (by decide +kernel) (by decide +kernel) (by decide +kernel)
theorem xc60 : St (comp HF0 (ws shaXM) 60) 3064893439 4290184306 3227702383 4241590395 2988158269 1837350854 2118385806 2606665836 := xc59.next 2361852424 2025622859 2035225642 3064893439 2988158269 (by decide +kernel) xw59 (by decide +kernel) (by decide +kernel) (by decide +kernel)
theorem xc61 : St (comp HF0 (ws shaXM) 61) 3093179625 3064893439 4290184306 3227702383 2518632596 2988158269 1837350854 2118385806 := xc60.next 2428436474 2755645205 2572009497 3093179625 2518632596 (by decide +kernel) xw60 (by decide +kernel) (by decide +kernel) (by decide +kernel)
theorem xc62 : St (comp HF0 (ws shaXM) 62) 80891244 3093179625 3064893439 4290184306 2492278198 2518632596 2988158269 1837350854 := xc61.next 2756734187 1720397816 3559543111 80891244 2492278198 (by decide +kernel) xw61 (by decide +kernel) (by decide +kernel) (by decide +kernel)
theorem xc63 : St (comp HF0 (ws shaXM) 63) 3550093669 80891244 3093179625 3064893439 4212265488 2492278198 2518632596 2988158269 := xc62.next 3204031479 4004225740 4217048478 3550093669 4212265488 (by decide +kernel) xw62 (by decide +kernel) (by decide +kernel) (by decide +kernel)
theorem xc64 : St (comp HF0 (ws shaXM) 64) 1349398616 3550093669 80891244 3093179625 1593118500 4212265488 2492278198 2518632596 := xc63.next 3329325298 313650667 2823192357 1349398616 1593118500 (by decide +kernel) xw63 (by decide +kernel) (by decide +kernel) (by decide +kernel)
theorem shaEx : hF (shaM shaX) ((shaM shaX).length / 64) 0 = 3128432319 := by
  rw [show (shaM shaX).length / 64 = 0 + 1 by decide +kernel]
  show ad (HF0 0) (comp HF0 (ws shaXM) 64 0) = _
  rw [xc64.1]; decide +kernel
theorem shaEx0 : (shaL shaX).getD 0 0 = 186 := by
  show ((hF (shaM shaX) ((shaM shaX).length / 64) 0 / 2 ^ 24 % 256 : Nat) : Int) = 186
  rw [shaEx]; decide
theorem shaEx1 : (shaL shaX).getD 1 0 = 120 := by
  show ((hF (shaM shaX) ((shaM shaX).length / 64) 0 / 2 ^ 16 % 256 : Nat) : Int) = 120
  rw [shaEx]; decide
end Go.Proofs.YtkfdcdfaikkneaaGreatDoor
