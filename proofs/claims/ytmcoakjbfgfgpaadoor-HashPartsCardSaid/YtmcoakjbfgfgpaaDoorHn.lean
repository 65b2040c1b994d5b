/- SHA-256 as lists and functions: plain maths; no program is named here. -/
import Derived.Test.YtmcoakjbfgfgpaaDoorHm
import Derived.Test.YtmcoakjbfgfgpaaDoorMem
import Derived.Laws.BitsAllLaws
namespace Go.Proofs.YtmcoakjbfgfgpaaDoor
open Go.RowKit
set_option linter.unusedVariables false

/-- The roots of the first primes, with 32 bits behind the point. -/
def R3 : List Nat := [5411319704, 6194414737, 7344290767, 8215976869, 9551921755, 10098905585, 11043570340, 11460697813, 12214315672, 13195500289, 13492127166, 14311783875, 14809980276, 15046980094, 15499789991, 16133124468, 16720292289, 16907126662, 17444216262, 17784676812, 17950125167, 18429019306, 18734950876, 19175934170, 19734090066, 20001703533, 20132865992, 20390182855, 20516441075, 20764397895, 21588763473, 21813078375, 22141143685, 22248366392, 22769593852, 22871018771, 23170020180, 23461497531, 23651862830, 23931792517, 24205322401, 24295138891, 24734567280, 24820601251, 24990902297, 25075189284, 25569408389, 26045227120, 26200031510, 26276752392, 26428864332, 26653801653, 26727943347, 27092625994, 27306805839, 27517677555, 27725365998, 27793908591, 27997534228, 28131656200, 28198240250, 28526537963, 28973835255, 29099129074]
def R2 : List Nat := [6074000999, 7439101573, 9603838834, 11363415354, 14244795007, 15485724812, 17708603819, 18721328409]
def KF (i : Nat) : Nat := R3.getD i 0 % 4294967296
def HF0 (i : Nat) : Nat := R2.getD i 0 % 4294967296
theorem R3_root : ∀ i, i < 64 → R3.getD i 0 ^ 3 ≤ p64.getD i 0 * 65536 ^ (2 * 3) ∧ p64.getD i 0 * 65536 ^ (2 * 3) < (R3.getD i 0 + 1) ^ 3 ∧ p64.getD i 0 * 65536 ^ (2 * 3) < 68719476736 ^ 3 ∧ p64.getD i 0 < 65536 := by decide +kernel
theorem R2_root : ∀ i, i < 8 → R2.getD i 0 ^ 2 ≤ p64.getD i 0 * 65536 ^ (2 * 2) ∧ p64.getD i 0 * 65536 ^ (2 * 2) < (R2.getD i 0 + 1) ^ 2 ∧ p64.getD i 0 * 65536 ^ (2 * 2) < 68719476736 ^ 2 := by decide +kernel
theorem KF_lt (i : Nat) : KF i < 4294967296 := Nat.mod_lt _ (by omega)
theorem HF0_lt (i : Nat) : HF0 i < 4294967296 := Nat.mod_lt _ (by omega)
/-- Turned to the right. -/
def rr (n x : Nat) : Nat := x / 2 ^ n ||| x * 2 ^ (32 - n) % 4294967296
def ad (a b : Nat) : Nat := (a + b) % 4294967296
def sg0 (x : Nat) : Nat := rr 7 x ^^^ rr 18 x ^^^ x / 2 ^ 3
def sg1 (x : Nat) : Nat := rr 17 x ^^^ rr 19 x ^^^ x / 2 ^ 10
def Sg0 (x : Nat) : Nat := rr 2 x ^^^ rr 13 x ^^^ rr 22 x
def Sg1 (x : Nat) : Nat := rr 6 x ^^^ rr 11 x ^^^ rr 25 x
def chf (e f g : Nat) : Nat := (e &&& f) ^^^ ((4294967295 - e) &&& g)
def mjf (a b c : Nat) : Nat := (a &&& b) ^^^ (a &&& c) ^^^ (b &&& c)
theorem xor32 {x y : Nat} (h : x < 4294967296) (k : y < 4294967296) : x ^^^ y < 4294967296 := Nat.xor_lt_two_pow (n := 32) h k
theorem or32 {x y : Nat} (h : x < 4294967296) (k : y < 4294967296) : x ||| y < 4294967296 := Nat.or_lt_two_pow (n := 32) h k
theorem and32 {x y : Nat} (k : y < 4294967296) : x &&& y < 4294967296 := Nat.and_lt_two_pow (n := 32) x k
theorem and32' {x y : Nat} (h : x < 4294967296) : x &&& y < 4294967296 := by rw [Nat.and_comm]; exact and32 h
theorem div32 {x : Nat} (h : x < 4294967296) (n : Nat) : x / 2 ^ n < 4294967296 := Nat.lt_of_le_of_lt (Nat.div_le_self _ _) h
theorem rr_lt {x : Nat} (h : x < 4294967296) (n : Nat) : rr n x < 4294967296 := or32 (div32 h n) (Nat.mod_lt _ (by omega))
theorem ad_lt (a b : Nat) : ad a b < 4294967296 := Nat.mod_lt _ (by omega)
theorem sg0_lt {x : Nat} (h : x < 4294967296) : sg0 x < 4294967296 := xor32 (xor32 (rr_lt h _) (rr_lt h _)) (div32 h _)
theorem sg1_lt {x : Nat} (h : x < 4294967296) : sg1 x < 4294967296 := xor32 (xor32 (rr_lt h _) (rr_lt h _)) (div32 h _)
theorem Sg0_lt {x : Nat} (h : x < 4294967296) : Sg0 x < 4294967296 := xor32 (xor32 (rr_lt h _) (rr_lt h _)) (rr_lt h _)
theorem Sg1_lt {x : Nat} (h : x < 4294967296) : Sg1 x < 4294967296 := xor32 (xor32 (rr_lt h _) (rr_lt h _)) (rr_lt h _)
theorem chf_lt {e f g : Nat} (hf : f < 4294967296) (hg : g < 4294967296) : chf e f g < 4294967296 := xor32 (and32 hf) (and32 hg)
theorem mjf_lt {a b c : Nat} (hb : b < 4294967296) (hc : c < 4294967296) : mjf a b c < 4294967296 := xor32 (xor32 (and32 hb) (and32 hc)) (and32 hc)
/-- The words of a block, so many. -/
def wsL (m : Nat → Nat) : Nat → List Nat
  | 0 => []
  | t + 1 => wsL m t ++ [if t < 16 then m t else ad (ad (ad (sg1 ((wsL m t).getD (t - 2) 0)) ((wsL m t).getD (t - 7) 0)) (sg0 ((wsL m t).getD (t - 15) 0))) ((wsL m t).getD (t - 16) 0)]
theorem length_wsL (m : Nat → Nat) : ∀ t, (wsL m t).length = t
  | 0 => rfl
  | t + 1 => by rw [wsL, List.length_append, length_wsL m t]; rfl
def ws (m : Nat → Nat) (j : Nat) : Nat := (wsL m (j + 1)).getD j 0
theorem wsL_getD (m : Nat → Nat) {j : Nat} : ∀ {t}, j < t → (wsL m t).getD j 0 = ws m j
  | 0, h => by omega
  | t + 1, h => by
    by_cases e : j = t
    · subst e; rfl
    · rw [wsL, List.getD_eq_getElem?_getD, List.getElem?_append_left (by rw [length_wsL]; omega), ← List.getD_eq_getElem?_getD]
      exact wsL_getD m (by omega)
theorem ws_first (m : Nat → Nat) {t : Nat} (h : t < 16) : ws m t = m t := by
  unfold ws
  rw [wsL, if_pos h, List.getD_eq_getElem?_getD, List.getElem?_append_right (by rw [length_wsL]; omega), length_wsL]
  simp
theorem ws_next (m : Nat → Nat) {t : Nat} (h : ¬ t < 16) : ws m t = ad (ad (ad (sg1 (ws m (t - 2))) (ws m (t - 7))) (sg0 (ws m (t - 15)))) (ws m (t - 16)) := by
  rw [ws, wsL, if_neg h, List.getD_eq_getElem?_getD, List.getElem?_append_right (by rw [length_wsL]; omega), length_wsL, wsL_getD m (by omega), wsL_getD m (by omega), wsL_getD m (by omega), wsL_getD m (by omega)]
  simp
theorem ws_lt {m : Nat → Nat} (hm : ∀ t, m t < 4294967296) (t : Nat) : ws m t < 4294967296 := by
  by_cases h : t < 16
  · rw [ws_first m h]; exact hm t
  · rw [ws_next m h]; exact ad_lt _ _
/-- One round of eight words. -/
def rt1 (v : Nat → Nat) (k w : Nat) : Nat := ad (ad (ad (ad (v 7) (Sg1 (v 4))) (chf (v 4) (v 5) (v 6))) k) w
def rt2 (v : Nat → Nat) : Nat := ad (Sg0 (v 0)) (mjf (v 0) (v 1) (v 2))
def rnd (v : Nat → Nat) (k w : Nat) (i : Nat) : Nat :=
  if i = 0 then ad (rt1 v k w) (rt2 v) else if i = 4 then ad (v 3) (rt1 v k w) else v (i - 1)
def comp (h w : Nat → Nat) : Nat → Nat → Nat
  | 0 => h
  | t + 1 => rnd (comp h w t) (KF t) (w t)
theorem rnd_lt {v : Nat → Nat} (hv : ∀ i, v i < 4294967296) (k w i : Nat) : rnd v k w i < 4294967296 := by
  unfold rnd
  split
  · exact ad_lt _ _
  · split
    · exact ad_lt _ _
    · exact hv _
theorem comp_lt {h : Nat → Nat} (hh : ∀ i, h i < 4294967296) (w : Nat → Nat) : ∀ t i, comp h w t i < 4294967296
  | 0, i => hh i
  | t + 1, i => rnd_lt (comp_lt hh w t) _ _ i
def blkF (h m : Nat → Nat) (i : Nat) : Nat := ad (h i) (comp h (ws m) 64 i)
/-- The word of four bytes, and the words of a block. -/
def gw (M : List Int) (j : Nat) : Nat := (M.getD j 0).toNat * 16777216 + (M.getD (j + 1) 0).toNat * 65536 + (M.getD (j + 2) 0).toNat * 256 + (M.getD (j + 3) 0).toNat
def mF (M : List Int) (o t : Nat) : Nat := gw M (o + 4 * t)
def hF (M : List Int) : Nat → Nat → Nat
  | 0 => HF0
  | j + 1 => blkF (hF M j) (mF M (64 * j))
theorem hF_lt (M : List Int) : ∀ j i, hF M j i < 4294967296
  | 0, i => HF0_lt i
  | j + 1, i => ad_lt _ _
theorem toNat_byte {M : List Int} (hM : AllB M) (j : Nat) : (M.getD j 0).toNat < 256 := by
  by_cases hk : j < M.length
  · have e : M.getD j 0 = M[j] := by simp [List.getD_eq_getElem?_getD, List.getElem?_eq_getElem hk]
    have := hM _ (List.getElem_mem hk)
    rw [e]; omega
  · have e : M.getD j 0 = 0 := by simp [List.getD_eq_getElem?_getD, List.getElem?_eq_none (Nat.le_of_not_lt hk)]
    rw [e]; simp
theorem gw_lt {M : List Int} (hM : AllB M) (j : Nat) : gw M j < 4294967296 := by
  have h0 := toNat_byte hM j; have h1 := toNat_byte hM (j + 1); have h2 := toNat_byte hM (j + 2); have h3 := toNat_byte hM (j + 3)
  unfold gw; omega
theorem or4 {a b c d : Nat} (ha : a < 256) (hb : b < 256) (hc : c < 256) (hd : d < 256) : a * 16777216 ||| b * 65536 ||| c * 256 ||| d = a * 16777216 + b * 65536 + c * 256 + d := by
  rw [nat_join 24 (a * 16777216) (b * 65536) (by omega) (by omega), nat_join 16 (a * 16777216 + b * 65536) (c * 256) (by omega) (by omega), nat_join 8 (a * 16777216 + b * 65536 + c * 256) d (by omega) (by omega)]
/-- How many noughts go behind the 128. -/
def zc (n : Nat) : Nat := (119 - n % 64) % 64
theorem zc_end (n : Nat) : (n + 1 + zc n) % 64 = 56 := by unfold zc; omega
theorem zc_few {n z : Nat} (h : z < zc n) : (n + 1 + z) % 64 ≠ 56 := by unfold zc at h; omega
theorem zc_lt (n : Nat) : zc n < 64 := by unfold zc; omega
/-- Bytes of a word, the highest first. -/
def w4 (x : Nat) : List Int := [((x / 2 ^ 24 % 256 : Nat) : Int), ((x / 2 ^ 16 % 256 : Nat) : Int), ((x / 2 ^ 8 % 256 : Nat) : Int), ((x % 256 : Nat) : Int)]
theorem w4_B (x : Nat) : AllB (w4 x) := fun y hy => by
  simp only [w4, List.mem_cons, List.not_mem_nil, or_false] at hy
  rcases hy with rfl | rfl | rfl | rfl <;> omega
def w8 (x j : Nat) : Int := ((x / 2 ^ (8 * (7 - j)) % 256 : Nat) : Int)
def w8L (x : Nat) : Nat → List Int
  | 0 => []
  | j + 1 => w8L x j ++ [w8 x j]
theorem length_w8L (x : Nat) : ∀ j, (w8L x j).length = j
  | 0 => rfl
  | j + 1 => by rw [w8L, List.length_append, length_w8L x j]; rfl
theorem w8L_B (x : Nat) : ∀ j, AllB (w8L x j)
  | 0 => fun y hy => by cases hy
  | j + 1 => fun y hy => by
    rcases List.mem_append.1 hy with h | h
    · exact w8L_B x j y h
    · rw [List.mem_singleton.1 h]; unfold w8; omega
/-- What the blocks are cut of. -/
def shaM (b : List Int) : List Int := b ++ [128] ++ List.replicate (zc b.length) 0 ++ w8L (8 * b.length) 8
theorem shaM_B {b : List Int} (h : AllB b) : AllB (shaM b) := fun y hy => by
  rcases List.mem_append.1 hy with hy | hy
  · rcases List.mem_append.1 hy with hy | hy
    · rcases List.mem_append.1 hy with hy | hy
      · exact h y hy
      · rw [List.mem_singleton.1 hy]; omega
    · rw [(List.mem_replicate.1 hy).2]; omega
  · exact w8L_B _ _ y hy
theorem shaM_len (b : List Int) : (shaM b).length = b.length + 1 + zc b.length + 8 := by
  simp [shaM, length_w8L]; omega
theorem shaM_64 (b : List Int) : (shaM b).length % 64 = 0 := by rw [shaM_len]; have := zc_end b.length; omega
/-- The first words' bytes. -/
def outW (h : Nat → Nat) : Nat → List Int
  | 0 => []
  | j + 1 => outW h j ++ w4 (h j)
theorem length_outW (h : Nat → Nat) : ∀ j, (outW h j).length = 4 * j
  | 0 => rfl
  | j + 1 => by rw [outW, List.length_append, length_outW h j]; simp [w4]; omega
theorem outW_B (h : Nat → Nat) : ∀ j, AllB (outW h j)
  | 0 => fun y hy => by cases hy
  | j + 1 => fun y hy => (List.mem_append.1 hy).elim (outW_B h j y) (w4_B _ y)
/-- The sum. -/
def sumL (b : List Int) : List Int := outW (hF (shaM b) ((shaM b).length / 64)) 8
theorem sumL_len (b : List Int) : (sumL b).length = 32 := length_outW _ 8
theorem sumL_B (b : List Int) : AllB (sumL b) := outW_B _ 8
end Go.Proofs.YtmcoakjbfgfgpaaDoor
