/- Texts of mine, one behind the other: Q1 Math. -/
import Derived.Test.YtappfdbmhgifcaaGreatDoorZM
import Derived.Test.YtappfdbmhgifcaaGreatDoorRows
import Derived.WalkKit
import Derived.ProofKit
import Derived.OpenShut
import Derived.ShutString
import Derived.Below
import Derived.BigQuiet
import Derived.Deep.QuietTactic
import Derived.Laws.BitsAllLaws
import Derived.BigRegion
import Derived.ChangeAlike
import Derived.Laws.OwnMore
import Derived.Laws.CopyOwn
import Derived.Laws.BytesArg
import Derived.Deep.Draws
import Derived.WalkSmall
import Derived.Lib.Bytes
import Derived.OwnWalk
import Derived.Laws.AppendOwnNone
import Derived.StillTailTactics
import Derived.Deep.RegionWith
import Derived.Deep.OwnRows
set_option linter.unusedVariables false
set_option linter.unusedSimpArgs false
set_option maxRecDepth 100000
namespace Go.Proofs.YtappfdbmhgifcaaGreatDoor
def e9u:Nat:=121466575815500734415996836054882879791832871126464106601702187317037704638720699736399773789881350966450612456712855012027411276600174289287471020404625812305602624065235109912861702064162581238381248958448422203687095403783548669481020115429473714815130546491650907227391014769411226625179674495964331439187933946584331397333639979447433688574122779091165484305754955373075414835846686739481168846087332879005575464100018941681806164995707250399423063311368515928344698269234575261926727907427524598329539937222090466892085999338983806607642276495436692919915470849325341672618663070658392065151738926641076044545
def e9y:Nat:=939374623831894136699086600277250597547650664638770418422125146541797353646788332867483593573384618611044815625336497665827114626705134492515730415652478061620339993830966980270842846318821775850471098591710629241171812800746666233448222972174585295916389942636813666312872914849454985560152530477328703759683306625234997237483834721220409437442253146756845415190424543171129629468776480674528486868811725071010351012234056630775688111116293610821126543142160426617079940511630006820862697466582575257349116925728488930366609138264019883664906661504235885380294353134295748489096855100647154935187045898006656778240
def pw (k:Nat):Nat:=(e9u >>> (8 * (k % 255))) % 256
def lg (a:Nat):Nat:=(e9y >>> (8 * a)) % 256
def gm (a b:Nat):Nat:=if a = 0 then 0 else if b = 0 then 0 else pw (lg a + lg b)
def dbl (a:Nat):Nat:=if a < 128 then 2 * a else (2 * a - 256) ^^^ 27
def a7j:Nat → Nat → Nat → Nat → Nat
 | 0,_,_,o => o
 | f + 1,a,b,o => a7j f (dbl a) (b / 2) (if b % 2 = 1 then o ^^^ a else o)
def a9p (a b:Nat):Nat → Nat
 | 0 => 0
 | i + 1 => if b / 2 ^ i % 2 = 1 then a9p a b i ^^^ (a * 2 ^ i) else a9p a b i
def b1h (p:Nat):Nat → Nat
 | 0 => p
 | j + 1 => if b1h p j / 2 ^ (14 - j) % 2 = 1 then b1h p j ^^^ (283 * 2 ^ (6 - j)) else b1h p j
def d5k (a b:Nat):Nat:=b1h (a9p a b 8) 7 % 256
def a9o:Nat → (Nat → Bool) → Bool
 | 0,_ => true
 | n + 1,p => p n && a9o n p
theorem a2z {n:Nat} {p:Nat → Bool} (h:a9o n p = true):∀ k,k < n → p k = true:=by
 induction n with
 | zero => intro k hk;omega
 | succ n ih =>
  simp only [a9o,Bool.and_eq_true] at h
  intro k hk
  by_cases e:k = n
  ·rw [e];exact h.1
  ·exact ih h.2 k (by omega)
def force {α:Type} (x:Nat) (f:Nat → α):α:=match x with
 | 0 => f 0
 | n + 1 => f (n + 1)
theorem force_eq {α:Type} (x:Nat) (f:Nat → α):force x f = f x:=by cases x <;> rfl
def b4j:Nat → Nat → Nat → Nat → Nat
 | 0,_,_,o => o
 | f + 1,a,b,o => force (if b % 2 = 1 then o ^^^ a else o) fun o' => force (dbl a) fun a' => force (b / 2) fun b' => b4j f a' b' o'
theorem b4k (f:Nat):∀ a b o,b4j f a b o = a7j f a b o:=by
 induction f with
 | zero => intro a b o;rfl
 | succ f ih => intro a b o;simp only [b4j,a7j,force_eq,ih]
def e5f (a b:Nat):Nat → Nat → Nat → Nat
 | 0,_,o => o
 | f + 1,i,o => force (if b / 2 ^ i % 2 = 1 then o ^^^ (a * 2 ^ i) else o) fun o' => e5f a b f (i + 1) o'
def e2z:Nat → Nat → Nat → Nat
 | 0,_,p => p
 | f + 1,j,p => force (if p / 2 ^ (14 - j) % 2 = 1 then p ^^^ (283 * 2 ^ (6 - j)) else p) fun p' => e2z f (j + 1) p'
theorem d8z (a b f:Nat):∀ i,e5f a b f i (a9p a b i) = a9p a b (i + f):=by
 induction f with
 | zero => intro i;rfl
 | succ f ih =>
  intro i
  have e:(if b / 2 ^ i % 2 = 1 then a9p a b i ^^^ (a * 2 ^ i) else a9p a b i) = a9p a b (i + 1):=rfl
  simp only [e5f,force_eq]
  rw [e,ih (i + 1)]
  congr 1;omega
theorem d8d (p f:Nat):∀ j,e2z f j (b1h p j) = b1h p (j + f):=by
 induction f with
 | zero => intro j;rfl
 | succ f ih =>
  intro j
  have e:(if b1h p j / 2 ^ (14 - j) % 2 = 1 then b1h p j ^^^ (283 * 2 ^ (6 - j)) else b1h p j) = b1h p (j + 1):=rfl
  simp only [e2z,force_eq]
  rw [e,ih (j + 1)]
  congr 1;omega
theorem d7g (a b:Nat):e2z 7 0 (e5f a b 8 0 0) % 256 = d5k a b:=by
 have h1:=d8z a b 8 0
 have h2:=d8d (a9p a b 8) 7 0
 rw [show a9p a b 0 = 0 from rfl,Nat.zero_add] at h1
 rw [show b1h (a9p a b 8) 0 = a9p a b 8 from rfl,Nat.zero_add] at h2
 rw [h1,h2];rfl
set_option maxRecDepth 100000 in
theorem e1q:a9o 256 (fun a => a9o 8 fun k => force (b4j 8 a (2 ^ k) 0) fun s => s == e2z 7 0 (e5f a (2 ^ k) 8 0 0) % 256 && b4j 8 a (dbl (2 ^ k)) 0 == dbl s) = true:=by decide +kernel
set_option maxRecDepth 100000 in
theorem e8e:a9o 256 (fun a => b4j 8 2 a 0 == dbl a && (b4j 8 a 1 0 == a && b4j 8 0 a 0 == 0)) = true:=by decide +kernel
set_option maxRecDepth 100000 in
theorem e9w:a9o 255 (fun k => force (pw k) fun p => (lg p == k && !(p == 0)) && (pw (k + 1) == p ^^^ dbl p && b4j 8 p 3 0 == p ^^^ dbl p)) = true:=by decide +kernel
set_option maxRecDepth 100000 in
theorem f0l:a9o 256 (fun a => a == 0 || (pw (lg a) == a && decide (lg a < 255))) = true:=by decide +kernel
theorem e0w (a b c d:Nat):(a ^^^ b) ^^^ (c ^^^ d) = (a ^^^ c) ^^^ (b ^^^ d):=by
 rw [Nat.xor_assoc,Nat.xor_assoc,← Nat.xor_assoc b c d,Nat.xor_comm b c,Nat.xor_assoc c b d]
theorem e1l (x i:Nat):(x / 2 ^ i % 2 = 1) ↔ x.testBit i = true:=by rw [Nat.testBit_eq_decide_div_mod_eq];simp
theorem d8t (p q:Bool) (o o' x:Nat):(if (p ^^ q) = true then (o ^^^ o') ^^^ x else o ^^^ o') = (if p = true then o ^^^ x else o) ^^^ (if q = true then o' ^^^ x else o'):=by
 cases p <;> cases q
 ·rfl
 ·simp [Nat.xor_assoc]
 ·simp only [Bool.xor_false,↓reduceIte,Bool.false_eq_true]
  rw [Nat.xor_assoc,Nat.xor_comm o' x,← Nat.xor_assoc]
 ·simp only [Bool.xor_self,↓reduceIte,Bool.false_eq_true]
  rw [e0w,Nat.xor_self,Nat.xor_zero]
theorem b9p (x y i o o' c:Nat):(if (x ^^^ y) / 2 ^ i % 2 = 1 then (o ^^^ o') ^^^ c else o ^^^ o') = (if x / 2 ^ i % 2 = 1 then o ^^^ c else o) ^^^ (if y / 2 ^ i % 2 = 1 then o' ^^^ c else o'):=by
 simp only [e1l,Nat.testBit_xor]
 exact d8t _ _ _ _ _
theorem c8n (f:Nat):∀ a b c o o',a7j f a (b ^^^ c) (o ^^^ o') = a7j f a b o ^^^ a7j f a c o':=by
 induction f with
 | zero => intro a b c o o';rfl
 | succ f ih =>
  intro a b c o o'
  have h:=b9p b c 0 o o' a
  rw [Nat.pow_zero,Nat.div_one,Nat.div_one,Nat.div_one] at h
  have e:(b ^^^ c) / 2 = b / 2 ^^^ c / 2:=by
   have:=Nat.shiftRight_xor_distrib (a:=b) (b:=c) (i:=1)
   simpa [Nat.shiftRight_eq_div_pow] using this
  simp only [a7j]
  rw [h,e,ih]
theorem d0r (a:Nat):∀ i b c,a9p a (b ^^^ c) i = a9p a b i ^^^ a9p a c i:=by
 intro i
 induction i with
 | zero => intro b c;simp [a9p]
 | succ i ih => intro b c;simp only [a9p];rw [ih,b9p]
theorem d2s:∀ j p q,b1h (p ^^^ q) j = b1h p j ^^^ b1h q j:=by
 intro j
 induction j with
 | zero => intro p q;rfl
 | succ j ih => intro p q;simp only [b1h];rw [ih,b9p]
theorem d2c (a b c:Nat):d5k a (b ^^^ c) = d5k a b ^^^ d5k a c:=by
 unfold d5k
 rw [d0r,d2s]
 exact Nat.xor_mod_two_pow (n:=8)
def slow (a b:Nat):Nat:=a7j 8 a b 0
theorem a6i (a b c:Nat):slow a (b ^^^ c) = slow a b ^^^ slow a c:=c8n 8 a b c 0 0
theorem add_zero {f:Nat → Nat} (hf:∀ x y,f (x ^^^ y) = f x ^^^ f y):f 0 = 0:=by
 have:=hf 0 0
 rw [Nat.xor_self,Nat.xor_self] at this
 exact this
theorem e1p {b n:Nat} (h0:2 ^ n ≤ b) (h1:b < 2 ^ (n + 1)):b ^^^ 2 ^ n < 2 ^ n:=by
 apply Nat.lt_pow_two_of_testBit
 intro i hi
 rw [Nat.testBit_xor,Nat.testBit_two_pow]
 by_cases e:i = n
 ·subst e
  have:b.testBit i = true:=by
   rw [Nat.testBit_eq_decide_div_mod_eq]
   have h2:b / 2 ^ i = 1:=by
    rw [Nat.pow_succ] at h1
    apply Nat.le_antisymm
    ·exact Nat.le_of_lt_succ (Nat.div_lt_of_lt_mul (by omega))
    ·exact (Nat.le_div_iff_mul_le (Nat.two_pow_pos i)).2 (by omega)
   rw [h2];rfl
  simp [this]
 ·have:b.testBit i = false:=Nat.testBit_lt_two_pow (Nat.lt_of_lt_of_le h1 (Nat.pow_le_pow_right (by omega) (by omega)))
  simp [this];omega
theorem c4k {f g:Nat → Nat} (hf:∀ x y,f (x ^^^ y) = f x ^^^ f y) (hg:∀ x y,g (x ^^^ y) = g x ^^^ g y) :
 ∀ n,(∀ k,k < n → f (2 ^ k) = g (2 ^ k)) → ∀ b,b < 2 ^ n → f b = g b:=by
 intro n
 induction n with
 | zero => intro _ b hb;have:b = 0:=by omega
           rw [this,add_zero hf,add_zero hg]
 | succ n ih =>
  intro h b hb
  by_cases hl:b < 2 ^ n
  ·exact ih (fun k hk => h k (by omega)) b hl
  ·have h1:=ih (fun k hk => h k (by omega)) _ (e1p (by omega) hb)
   have e:b = (b ^^^ 2 ^ n) ^^^ 2 ^ n:=by rw [Nat.xor_assoc,Nat.xor_self,Nat.xor_zero]
   rw [e,hf,hg,h1,h n (by omega)]
theorem c0i {a k:Nat} (ha:a < 256) (hk:k < 8):slow a (2 ^ k) = d5k a (2 ^ k) ∧ slow a (dbl (2 ^ k)) = dbl (slow a (2 ^ k)):=by
 have h:=a2z (a2z e1q a ha) k hk
 rw [force_eq] at h
 simp only [b4k,d7g,Bool.and_eq_true,beq_iff_eq] at h
 exact h
theorem a4s {a:Nat} (ha:a < 256):slow 2 a = dbl a ∧ slow a 1 = a ∧ slow 0 a = 0:=by
 have h:=a2z e8e a ha
 simp only [b4k,Bool.and_eq_true,beq_iff_eq] at h
 exact h
theorem d0i {k:Nat} (hk:k < 255):(lg (pw k) = k ∧ pw k ≠ 0) ∧ pw (k + 1) = pw k ^^^ dbl (pw k) ∧ slow (pw k) 3 = pw k ^^^ dbl (pw k):=by
 have h:=a2z e9w k hk
 rw [force_eq] at h
 simp only [b4k,Bool.and_eq_true,beq_iff_eq,Bool.not_eq_true',beq_eq_false_iff_ne] at h
 exact h
theorem a7t (k:Nat):pw (k % 255) = pw k:=by unfold pw;rw [Nat.mod_mod]
theorem b6v (k:Nat):pw (k + 255) = pw k:=by rw [← a7t,Nat.add_mod_right,a7t]
theorem a9z {i j:Nat} (h:i % 255 = j % 255):pw i = pw j:=by rw [← a7t i,h,a7t]
theorem b3s (k:Nat):pw k < 256:=Nat.mod_lt _ (by decide)
theorem e8c (a:Nat):lg a < 256:=Nat.mod_lt _ (by decide)
theorem d0x (k:Nat):pw k ≠ 0:=by rw [← a7t];exact (d0i (Nat.mod_lt _ (by decide))).1.2
theorem c5s (k:Nat):lg (pw k) = k % 255:=by rw [← a7t];exact (d0i (Nat.mod_lt _ (by decide))).1.1
theorem a9v {a:Nat} (ha:a < 256) (h0:a ≠ 0):pw (lg a) = a ∧ lg a < 255:=by
 have h:=a2z f0l a ha
 simpa [h0] using h
theorem b7u (k:Nat):pw (k + 1) = pw k ^^^ dbl (pw k):=by
 have h:=(d0i (k:=k % 255) (Nat.mod_lt _ (by decide))).2.1
 rw [a7t] at h
 rw [← h]
 exact a9z (by omega)
theorem d4r (k:Nat):slow (pw k) 3 = pw (k + 1):=by
 have h:=(d0i (k:=k % 255) (Nat.mod_lt _ (by decide))).2.2
 rw [a7t] at h
 rw [h,b7u]
theorem b1n:pw 0 = 1:=by decide +kernel
theorem e0h:lg 0 = 0:=by decide +kernel
theorem a2v {a b:Nat} (ha:a < 256) (hb:b < 256):a ^^^ b < 256:=Nat.xor_lt_two_pow (n:=8) ha hb
theorem d6s {a:Nat} (ha:a < 256):dbl a < 256:=by
 unfold dbl
 split
 ·omega
 ·exact a2v (by omega) (by omega)
theorem d4k (f:Nat):∀ a b o,a < 256 → o < 256 → a7j f a b o < 256:=by
 induction f with
 | zero => intro a b o _ h;exact h
 | succ f ih =>
  intro a b o ha ho
  simp only [a7j]
  apply ih _ _ _ (d6s ha)
  split
  ·exact a2v ho ha
  ·exact ho
theorem c7v {a:Nat} (b:Nat) (ha:a < 256):slow a b < 256:=d4k 8 a b 0 ha (by decide)
theorem d0b {a b:Nat} (ha:a < 256) (hb:b < 256):slow a (dbl b) = dbl (slow a b):=by
 have h:=c4k (f:=fun b => slow a (slow 2 b)) (g:=fun b => slow 2 (slow a b)) (fun x y => by simp only [a6i]) (fun x y => by simp only [a6i]) 8
  (fun k hk => by
   have e:=(c0i ha hk).2
   have hp:2 ^ k < 256:=Nat.pow_lt_pow_right (by omega) (show k < 8 by omega)
   show slow a (slow 2 (2 ^ k)) = slow 2 (slow a (2 ^ k))
   rw [(a4s hp).1,(a4s (c7v _ ha)).1,e]) b hb
 rw [(a4s hb).1,(a4s (c7v _ ha)).1] at h
 exact h
theorem e0d (i j:Nat):slow (pw i) (pw j) = pw (i + j):=by
 induction j with
 | zero => rw [b1n];exact (a4s (b3s i)).2.1
 | succ j ih => rw [b7u j,a6i,d0b (b3s i) (b3s j),ih,← b7u];rfl
theorem a7m {a b:Nat} (ha:a < 256) (hb:b < 256):slow a b = gm a b:=by
 unfold gm
 by_cases h0:a = 0
 ·rw [if_pos h0,h0];exact (a4s hb).2.2
 ·rw [if_neg h0]
  by_cases h1:b = 0
  ·rw [if_pos h1,h1];exact add_zero (a6i a)
  ·rw [if_neg h1]
   conv => lhs;rw [← (a9v ha h0).1,← (a9v hb h1).1]
   exact e0d _ _
theorem e5i {a b:Nat} (ha:a < 256) (hb:b < 256):d5k a b = gm a b:=by
 rw [← a7m ha hb]
 exact (c4k (a6i a) (d2c a) 8 (fun k hk => (c0i ha hk).1) b hb).symm
theorem a7k (a b:Nat):gm a b < 256:=by
 unfold gm
 split
 ·decide
 ·split
  ·decide
  ·exact b3s _
theorem a6a (a b:Nat):gm a b = gm b a:=by
 unfold gm
 by_cases h0:a = 0 <;> by_cases h1:b = 0 <;> simp [h0,h1,Nat.add_comm]
theorem b4s (a:Nat):gm a 0 = 0:=by unfold gm;split <;> simp
theorem a8p (a:Nat):gm 0 a = 0:=by unfold gm;simp
theorem d9n {a:Nat} (h0:a ≠ 0) (k:Nat):gm a (pw k) = pw (lg a + k):=by
 unfold gm
 rw [if_neg h0,if_neg (d0x k),c5s]
 exact a9z (by omega)
theorem c3i {a b:Nat} (h0:a ≠ 0) (h1:b ≠ 0):gm a b = pw (lg a + lg b):=by unfold gm;rw [if_neg h0,if_neg h1]
theorem e6w {a b:Nat} (h0:a ≠ 0) (h1:b ≠ 0):gm a b ≠ 0:=by rw [c3i h0 h1];exact d0x _
theorem e3u {a b:Nat} (h0:a ≠ 0) (h1:b ≠ 0):lg (gm a b) = (lg a + lg b) % 255:=by rw [c3i h0 h1,c5s]
theorem c0m {a:Nat} (ha:a < 256):gm a 1 = a:=by rw [← a7m ha (by decide)];exact (a4s ha).2.1
theorem c1g (a b c:Nat):gm a (gm b c) = gm (gm a b) c:=by
 by_cases h0:a = 0
 ·subst h0;simp only [a8p]
 ·by_cases h1:b = 0
  ·subst h1;simp only [a8p,b4s]
  ·by_cases h2:c = 0
   ·subst h2;simp only [b4s]
   ·rw [c3i h0 (e6w h1 h2),c3i (e6w h0 h1) h2,e3u h1 h2,e3u h0 h1]
    exact a9z (by omega)
theorem e4n {a b c:Nat} (ha:a < 256) (hb:b < 256) (hc:c < 256):gm a (b ^^^ c) = gm a b ^^^ gm a c:=by
 rw [← a7m ha (a2v hb hc),← a7m ha hb,← a7m ha hc,a6i]
def inv (a:Nat):Nat:=if a = 0 then 0 else pw (255 - lg a)
theorem a6x (a:Nat):inv a < 256:=by
 unfold inv;split
 ·decide
 ·exact b3s _
theorem c0y {a:Nat} (ha:a < 256) (h0:a ≠ 0):gm a (inv a) = 1:=by
 have:=(a9v ha h0).2
 unfold inv
 rw [if_neg h0,d9n h0,show lg a + (255 - lg a) = 0 + 255 by omega,b6v,b1n]
theorem inv_ne {a:Nat} (h0:a ≠ 0):inv a ≠ 0:=by unfold inv;rw [if_neg h0];exact d0x _
theorem e6b {a:Nat} (h0:a ≠ 0):lg (inv a) = (255 - lg a) % 255:=by unfold inv;rw [if_neg h0,c5s]
theorem b9t {a b:Nat} (ha:a < 256) (hb:b < 256) (h:gm a b = 1):b = inv a:=by
 have h0:a ≠ 0:=fun e => by rw [e,a8p] at h;cases h
 have h1:gm (inv a) (gm a b) = gm (inv a) 1:=by rw [h]
 rw [c1g,a6a (inv a) a,c0y ha h0,a6a,c0m hb,c0m (a6x a)] at h1
 exact h1
theorem e4f {a b:Nat} (hb:b < 256) (h0:a ≠ 0) (h1:b ≠ 0):pw (lg a + 255 - lg b) = gm a (inv b):=by
 have:=(a9v hb h1).2
 rw [c3i h0 (inv_ne h1),e6b h1]
 exact a9z (by omega)
def pwr (a n:Nat):Nat:=pw (lg a * n)
theorem c0s (a:Nat):pwr a 0 = 1:=by unfold pwr;rw [Nat.mul_zero];exact b1n
theorem d0z {a:Nat} (h0:a ≠ 0) (n:Nat):gm (pwr a n) a = pwr a (n + 1):=by
 unfold pwr
 rw [a6a,d9n h0,Nat.mul_succ,Nat.add_comm]
theorem d7c (a n:Nat):pw (lg a * n % 255) = pwr a n:=by unfold pwr;exact a7t _
end Go.Proofs.YtappfdbmhgifcaaGreatDoor
namespace Go.Proofs.YtappfdbmhgifcaaGreatDoor
open Go.ChangeShapes Go.WideShapes Go.ChangeAt Go.RowKit
theorem a0s {k:IntKind} {a b:Int} (h:a = b):Ending.returned (.int k a) = .returned (.int k b):=by rw [h]
theorem wf_u8 {x:Int} (h:(Lit.int .u8 x).wf = true):0 ≤ x ∧ x < 256:=by
 have:0 ≤ x ∧ x ≤ 255:=by simpa [Lit.wf,IntKind.min,IntKind.max,IntKind.signed,IntKind.bits] using h
 omega
def xoI (x y:Int):Int:=((x.toNat ^^^ y.toNat:Nat):Int)
def gmI (x y:Int):Int:=((gm x.toNat y.toNat:Nat):Int)
def pwI (n:Int):Int:=((pw n.toNat:Nat):Int)
theorem d6y (x y:Int):0 ≤ gmI x y ∧ gmI x y < 256:=by have:=a7k x.toNat y.toNat;unfold gmI;omega
theorem b9b (x y:Int) (hx:0 ≤ x ∧ x < 256) (hy:0 ≤ y ∧ y < 256) (w:World):Calls Tryz.prog 56 #[.int .u8 x,.int .u8 y] w fun e w' => e = .returned (.int .u8 (xoI x y)) ∧ w = w':=by
 have h:=hJ_ (u8_xor x y hx.1 hx.2 hy.1 hy.2)
 go_enter Tryz.func56,Tryz.ntmps56
 go_wp2
 go_ret
 exact ⟨a0s h.out,rfl⟩
theorem e8o:a9o 256 (fun a => (a &&& 128) == (if a < 128 then 0 else 128) && (a &&& 1) == a % 2) = true:=by decide +kernel
theorem d6t {a:Nat} (h:a < 256):bits .and .u8 (a:Int) 128 = ((if a < 128 then 0 else 128:Nat):Int) ∧ bits .and .u8 (a:Int) 1 = ((a % 2:Nat):Int):=by
 have hh:=a2z e8o a h
 simp only [Bool.and_eq_true,beq_iff_eq] at hh
 have h1:=u8_and_nat a 128 h (by decide)
 have h2:=u8_and_nat a 1 h (by decide)
 rw [hh.1] at h1
 rw [hh.2] at h2
 exact ⟨h1,h2⟩
theorem c1f (a:Nat) (ha:a < 256) (w:World):Calls Tryz.prog 57 #[.int .u8 (a:Nat)] w fun e w' => e = .returned (.int .u8 ((dbl a:Nat):Int)) ∧ w = w':=by
 have h1:=(d6t ha).1
 by_cases h:a < 128
 ·rw [if_pos h] at h1
  go_enter Tryz.func57,Tryz.ntmps57
  go_wp2
  go_ret
  refine ⟨a0s ?_,rfl⟩
  unfold dbl;rw [if_pos h];omega
 ·rw [if_neg h] at h1
  go_enter Tryz.func57,Tryz.ntmps57
  go_wp2_with (go_at_call 56;refine (b9b _ _ (by omega) (by omega) _).mono ?_;rintro e w' ⟨rfl,rfl⟩)
  go_ret
  refine ⟨a0s ?_,rfl⟩
  unfold dbl xoI;rw [if_neg h,show ((a:Int) * 2 % 256).toNat = 2 * a - 256 by omega];rfl
theorem c1z (f:Nat):∀ a o,a7j f a 0 o = o:=by
 induction f with
 | zero => intro a o;rfl
 | succ f ih => intro a o;simp only [a7j];rw [if_neg (by decide)];exact ih _ _
theorem e6c (x y:Nat) (hx:x < 256) (hy:y < 256) (w:World):Calls Tryz.prog 30 #[.int .u8 (x:Nat),.int .u8 (y:Nat)] w fun e w' => e = .returned (.int .u8 ((gm x y:Nat):Int)) ∧ w = w':=by
 have H0:=hJ_ (a7m hx hy)
 go_enter Tryz.func30,Tryz.ntmps30
 go_wp2
 go_loop [0,1,5] (fun a b o => ∃ (f A B O:Nat),f ≤ 8 ∧ A < 256 ∧ B < 2 ^ f ∧ O < 256 ∧ a = .int .u8 (A:Nat) ∧ b = .int .u8 (B:Nat) ∧ o = .int .u8 (O:Nat) ∧ a7j f A B O = slow x y) (fun _ b _ => (intOf b).toNat)
 case atStart => exact ⟨8,x,y,0,by omega,hx,by omega,by omega,rfl,rfl,rfl,rfl⟩
 case round =>
  obtain ⟨f,A,B,O,hf,hA,hB,hO,rfl,rfl,rfl,hs⟩:=hrel
  have HS:=hJ_ hs
  clear hs
  by_cases h0:B = 0
  ·subst h0
   go_wp2
   go_ret
   refine ⟨a0s ?_,rfl⟩
   rw [← H0.out,← HS.out,c1z]
  ·obtain ⟨g,rfl⟩:∃ g,f = g + 1:=by
    cases f with
    | zero => omega
    | succ g => exact ⟨g,rfl⟩
   have hB2:B < 256:=Nat.lt_of_lt_of_le hB (Nat.pow_le_pow_right (by omega) (show g + 1 ≤ 8 by omega))
   have hB3:B / 2 < 2 ^ g:=by rw [Nat.pow_succ] at hB;omega
   have HB3:=hJ_ hB3
   clear hB3 hB
   have h1:=(d6t hB2).2
   have hD:=d6s hA
   have h2:((B:Nat):Int) ≠ 0:=by omega
   have h3:B % 2 = 0 ∨ B % 2 = 1:=by omega
   rcases h3 with h3 | h3
   ·rw [h3] at h1
    have H3:=hJ_ h3
    clear h3
    go_wp2_with (first | (go_at_call 56;refine (b9b _ _ (by omega) (by omega) _).mono ?_;rintro e w' ⟨rfl,rfl⟩) | (go_at_call 57;refine (c1f _ hA _).mono ?_;rintro e w' ⟨rfl,rfl⟩))
    go_round
    case rel => exact ⟨g,dbl A,B / 2,O,by omega,hD,HB3.out,hO,rfl,by go_num,rfl,by rw [← HS.out];simp only [a7j];rw [H3.out];rfl⟩
    case measure => simp [intOf];omega
   ·rw [h3] at h1
    have H3:=hJ_ h3
    clear h3
    go_wp2_with (first | (go_at_call 56;refine (b9b _ _ (by omega) (by omega) _).mono ?_;rintro e w' ⟨rfl,rfl⟩) | (go_at_call 57;refine (c1f _ hA _).mono ?_;rintro e w' ⟨rfl,rfl⟩))
    go_round
    case rel => exact ⟨g,dbl A,B / 2,O ^^^ A,by omega,hD,HB3.out,a2v hO hA,rfl,by go_num,rfl,by rw [← HS.out];simp only [a7j];rw [H3.out];rfl⟩
    case measure => simp [intOf];omega
theorem b1o (a b:Nat) (ha:a < 2 ^ 32) (hb:b < 2 ^ 32):bits .xor .i64 (a:Int) (b:Int) = ((a ^^^ b:Nat):Int):=by
 have h:=Nat.xor_lt_two_pow (n:=32) ha hb
 show IntKind.i64.wrap ((BitVec.ofInt 64 (a:Int) ^^^ BitVec.ofInt 64 (b:Int)).toNat:Nat) = _
 rw [BitVec.toNat_xor,ofInt_u64 a (Nat.lt_of_lt_of_le ha (by decide)),ofInt_u64 b (Nat.lt_of_lt_of_le hb (by decide)),IntKind.wrap_i64]
 have:a ^^^ b < 4294967296:=h
 omega
theorem c6v {a:Nat} (b:Nat) (ha:a < 256):∀ i,i ≤ 8 → a9p a b i < 2 ^ 16:=by
 intro i
 induction i with
 | zero => intro _;simp [a9p]
 | succ i ih =>
  intro hi
  have h:=ih (by omega)
  have hp:2 ^ i ≤ 2 ^ 7:=Nat.pow_le_pow_right (by omega) (by omega)
  have hm:a * 2 ^ i ≤ 255 * 2 ^ 7:=Nat.mul_le_mul (by omega) hp
  simp only [a9p]
  split
  ·exact Nat.xor_lt_two_pow (n:=16) h (by omega)
  ·exact h
theorem e0e {p:Nat} (hp:p < 2 ^ 16):∀ j,b1h p j < 2 ^ 16:=by
 intro j
 induction j with
 | zero => simpa [b1h] using hp
 | succ j ih =>
  have h2:2 ^ (6 - j) ≤ 2 ^ 6:=Nat.pow_le_pow_right (by omega) (by omega)
  have hm:283 * 2 ^ (6 - j) ≤ 283 * 2 ^ 6:=Nat.mul_le_mul (Nat.le_refl _) h2
  simp only [b1h]
  split
  ·exact Nat.xor_lt_two_pow (n:=16) ih (by omega)
  ·exact ih
theorem b0a (y k:Nat):((y:Int) / 2 ^ k).tmod 2 = ((y / 2 ^ k % 2:Nat):Int):=by
 rw [show ((y:Int) / 2 ^ k) = ((y / 2 ^ k:Nat):Int) by simp]
 rfl
theorem c1e {x k:Nat} (hx:x < 2 ^ 10) (hk:k ≤ 16):wrap64 ((x:Int) * 2 ^ k) = ((x * 2 ^ k:Nat):Int) ∧ x * 2 ^ k < 2 ^ 32:=by
 have hp:2 ^ k ≤ 2 ^ 16:=Nat.pow_le_pow_right (by omega) hk
 have hm:x * 2 ^ k ≤ 2 ^ 10 * 2 ^ 16:=Nat.mul_le_mul (by omega) hp
 rw [show ((x:Int) * 2 ^ k) = ((x * 2 ^ k:Nat):Int) by simp]
 unfold wrap64
 omega
theorem a6j (x y:Nat) (hx:x < 256) (hy:y < 256) (w:World):Calls Tryz.prog 88 #[.int .u8 (x:Nat),.int .u8 (y:Nat)] w fun e w' => e = .returned (.int .u8 ((gm x y:Nat):Int)) ∧ w = w':=by
 have H0:=hJ_ (e5i hx hy)
 go_enter Tryz.func88,Tryz.ntmps88
 go_wp2
 go_loop [5,6] (fun p i => ∃ k:Nat,k ≤ 8 ∧ i = .int .i64 (k:Nat) ∧ p = .int .i64 ((a9p x y k:Nat):Int)) (fun _ i => 8 - (intOf i).toNat)
 case atStart => exact ⟨0,by omega,rfl,rfl⟩
 case round =>
  obtain ⟨k,hk,rfl,rfl⟩:=hrel
  by_cases hlt:k < 8
  ·have hOl:=c6v y hx k hk
   obtain ⟨O,hO⟩:∃ O,O = a9p x y k:=⟨_,rfl⟩
   rw [← hO] at hOl ⊢
   have HO:=hJ_ hO
   clear hO
   have hs:=c1e (x:=x) (k:=k) (by omega) (by omega)
   have HS:=hJ_ hs
   clear hs
   have HX:=hJ_ (b1o O (x * 2 ^ k) (Nat.lt_of_lt_of_le hOl (by decide)) HS.out.2)
   by_cases hb:y / 2 ^ k % 2 = 1
   ·have hq:=b0a y k
    rw [hb] at hq
    have HB:=hJ_ hb
    clear hb
    go_wp2
    go_round
    case rel => exact ⟨k + 1,by omega,by go_num,by simp only [a9p];rw [if_pos HB.out,← HO.out,HS.out.1,HX.out]⟩
    case measure => simp [intOf];omega
   ·have hq:=b0a y k
    rw [show y / 2 ^ k % 2 = 0 by omega] at hq
    have HB:=hJ_ hb
    clear hb
    go_wp2
    go_round
    case rel => exact ⟨k + 1,by omega,by go_num,by simp only [a9p];rw [if_neg HB.out,← HO.out]⟩
    case measure => simp [intOf];omega
  ·obtain rfl:k = 8:=by omega
   have hPl:=c6v y hx 8 (by omega)
   obtain ⟨P,hP⟩:∃ P,P = a9p x y 8:=⟨_,rfl⟩
   rw [← hP] at hPl ⊢
   have HP:=hJ_ hP
   clear hP
   go_wp2
   go_loop [5,7] (fun p i => ∃ m:Nat,7 ≤ m ∧ m ≤ 14 ∧ i = .int .i64 (m:Nat) ∧ p = .int .i64 ((b1h P (14 - m):Nat):Int)) (fun _ i => (intOf i).toNat)
   case atStart => exact ⟨14,by omega,by omega,rfl,rfl⟩
   case round =>
    obtain ⟨m,hm1,hm2,rfl,rfl⟩:=hrel
    have hQl:=e0e hPl (14 - m)
    obtain ⟨Q,hQ⟩:∃ Q,Q = b1h P (14 - m):=⟨_,rfl⟩
    rw [← hQ] at hQl ⊢
    have HQ:=hJ_ hQ
    clear hQ
    by_cases hlt:8 ≤ m
    ·have HE:=hJ_ (show b1h P (14 - (m - 1)) = if Q / 2 ^ m % 2 = 1 then Q ^^^ (283 * 2 ^ (m - 8)) else Q by
      rw [HQ.out,show 14 - (m - 1) = (14 - m) + 1 by omega]
      simp only [b1h]
      rw [show 14 - (14 - m) = m by omega,show 6 - (14 - m) = m - 8 by omega])
     have hs:=c1e (x:=283) (k:=m - 8) (by omega) (by omega)
     have HS:=hJ_ hs
     clear hs
     have HX:=hJ_ (b1o Q (283 * 2 ^ (m - 8)) (Nat.lt_of_lt_of_le hQl (by decide)) HS.out.2)
     have hm8:((m:Int) - 8).toNat = m - 8:=by omega
     have hm9:(0:Int) ≤ (m:Int) - 8:=by omega
     by_cases hb:Q / 2 ^ m % 2 = 1
     ·have hq:=b0a Q m
      rw [hb] at hq
      have HB:=hJ_ hb
      clear hb
      go_wp2
      go_round
      case rel =>
       have e:=HS.out.1
       rw [show ((283:Nat):Int) = 283 from rfl] at e
       exact ⟨m - 1,by omega,by omega,by go_num,by rw [HE.out,if_pos HB.out,e,HX.out]⟩
      case measure => simp [intOf];omega
     ·have hq:=b0a Q m
      rw [show Q / 2 ^ m % 2 = 0 by omega] at hq
      have HB:=hJ_ hb
      clear hb
      go_wp2
      go_round
      case rel => exact ⟨m - 1,by omega,by omega,by go_num,by rw [HE.out,if_neg HB.out]⟩
      case measure => simp [intOf];omega
    ·obtain rfl:m = 7:=by omega
     go_wp2
     go_ret
     refine ⟨a0s ?_,rfl⟩
     have h7:=HQ.out
     have h8:=H0.out
     unfold d5k at h8
     rw [← HP.out] at h8
     rw [← h8,show b1h P 7 = Q from h7.symm]
     simp
set_option maxRecDepth 10000 in
theorem c0u (x:Nat) (hx:x < 256) (w:World):Calls Tryz.prog 110 #[.int .u8 (x:Nat)] w fun e w' => e = .returned (.int .u8 ((inv x:Nat):Int)) ∧ w = w':=by
 have HI:=hJ_ (show ∀ k:Nat,k < 256 → gm x k = 1 → k = inv x from fun k hk h => b9t hx hk h)
 have HE:=hJ_ (show (∀ j:Nat,1 ≤ j → j < 256 → gm x j ≠ 1) → inv x = 0 from fun h => by
  by_cases h0:x = 0
  ·rw [h0];rfl
  ·exact absurd (c0y hx h0) (h _ (by have:=inv_ne h0;omega) (a6x x)))
 go_enter Tryz.func110,Tryz.ntmps110
 go_wp2
 go_loop [3] (fun i => ∃ k:Nat,1 ≤ k ∧ k ≤ 256 ∧ i = .int .i64 (k:Nat) ∧ Hid (∀ j:Nat,1 ≤ j → j < k → gm x j ≠ 1)) (fun i => 256 - (intOf i).toNat)
 case atStart => exact ⟨1,by omega,by omega,rfl,hJ_ (fun j h1 h2 => absurd h2 (by omega))⟩
 case round =>
  obtain ⟨k,hk1,hk2,rfl,hH⟩:=hrel
  by_cases hlt:k < 256
  ·have hk5:(k:Int) % 256 = (k:Int):=by omega
   by_cases hq:gm x k = 1
   ·have hq':((gm x k:Nat):Int) = 1:=by omega
    have HQ:=hJ_ hq
    clear hq
    go_wp2_with (go_at_call 88;refine (a6j _ _ hx (by omega) _).mono ?_;rintro e w' ⟨rfl,rfl⟩)
    go_ret
    exact ⟨a0s (by rw [← HI.out k hlt HQ.out]),rfl⟩
   ·have hq':(((gm x k:Nat):Int) == 1) = false:=by
     rw [beq_eq_false_iff_ne];omega
    have HQ:=hJ_ hq
    clear hq
    go_wp2_with (go_at_call 88;refine (a6j _ _ hx (by omega) _).mono ?_;rintro e w' ⟨rfl,rfl⟩)
    go_round
    case rel =>
     refine ⟨k + 1,by omega,by omega,by go_num,hJ_ ?_⟩
     intro j h1 h2
     by_cases e:j = k
     ·rw [e];exact HQ.out
     ·exact hH.out j h1 (by omega)
    case measure => simp [intOf];omega
  ·obtain rfl:k = 256:=by omega
   go_wp2
   go_ret
   exact ⟨a0s (by rw [HE.out hH.out];rfl),rfl⟩
def d9u (x:Nat) (n:Int):Nat:=if n = 0 then 1 else if x = 0 then 0 else pwr x (n % 255).toNat
theorem e0m (n:Int):-255 < n.tmod 255 ∧ n.tmod 255 < 255 ∧ (n.tmod 255 + 255) % 255 = n % 255 ∧ (n < 0 → n.tmod 255 ≤ 0) ∧ (0 ≤ n → n.tmod 255 = n % 255):=by
 have h1:=Int.lt_tmod_of_pos n (show (0:Int) < 255 by omega)
 have h2:=Int.tmod_lt_of_pos n (show (0:Int) < 255 by omega)
 have h3:=Int.tmod_add_mul_tdiv n 255
 have h4:0 ≤ n → n.tmod 255 = n % 255:=fun h => Int.tmod_eq_emod_of_nonneg h
 refine ⟨h1,h2,by omega,fun h => ?_,h4⟩
 have h5:=Int.tmod_eq_emod_of_nonneg (a:=-n) (b:=255) (by omega)
 rw [Int.neg_tmod] at h5
 omega
def Fld (w:World) (b:Nat):Prop:=
 b < w.heap.size ∧ (∀ j,j < 510 → w.cell? ⟨b,j,none⟩ = some (.int .u8 ((pw j:Nat):Int))) ∧ (∀ j,j < 256 → w.cell? ⟨b,510 + j,none⟩ = some (.int .u8 ((lg j:Nat):Int)))
theorem Fld.below {w w':World} {b:Nat} (h:Fld w b) (hb:Below w.heap.size w w'):Fld w' b:=
 ⟨Nat.lt_of_lt_of_le h.1 hb.size,fun j hj => (hb.cell (p:=⟨b,j,none⟩) h.1).trans (h.2.1 j hj),fun j hj => (hb.cell (p:=⟨b,510 + j,none⟩) h.1).trans (h.2.2 j hj)⟩
theorem Fld.drewN {w:World} {b:Nat} (h:Fld w b) (n:Nat):Fld (w.drewN n) b:=h
theorem e0j (b n:Nat) (w:World) (hf:Fld w b) (hn:n < 510):Calls Tryz.prog 120 #[.pointer (some ⟨b,0,none⟩),.int .i64 (n:Nat)] w fun e w' => e = .returned (.int .u8 ((pw n:Nat):Int)) ∧ w = w':=by
 have hc:=hf.2.1 n hn
 have q1:(n:Int) < 510:=by omega
 clear hf
 go_enter Tryz.func120,Tryz.ntmps120
 go_wp2
 go_ret
 exact ⟨rfl,rfl⟩
theorem d2d (b a:Nat) (w:World) (hf:Fld w b) (ha:a < 256):Calls Tryz.prog 121 #[.pointer (some ⟨b,0,none⟩),.int .u8 (a:Nat)] w fun e w' => e = .returned (.int .i64 ((lg a:Nat):Int)) ∧ w = w':=by
 have hc:=hf.2.2 a ha
 have q1:(a:Int) < 256:=by omega
 have hl:=e8c a
 clear hf
 go_enter Tryz.func121,Tryz.ntmps121
 go_wp2
 go_ret
 exact ⟨rfl,rfl⟩
theorem e4w:(Tryz.prog.info? 62).map (fun i => (i.zero,i.size)) = some (some (.agg (Array.replicate 766 (.int .u8 0))),766):=by kernel_rfl
theorem e7a (w:World):(zeroValue 62).run Tryz.prog w = .ok (.agg (Array.replicate 766 (.int .u8 0))) w:=by
 have h:=e4w
 cases hq:Tryz.prog.info? 62 with
 | none => simp [hq] at h
 | some i =>
  simp only [hq,Option.map_some,Option.some.injEq,Prod.mk.injEq] at h
  simp [zeroValue,typeInfo,hq,h.1]
def cv (k j:Nat):Nat:=
 if j < 255 then (if j < k then pw j else 0) else if j < 510 then (if j - 255 < k then pw j else 0) else if j - 510 ≠ 0 ∧ lg (j - 510) < k then lg (j - 510) else 0
theorem e1b (j:Nat):cv 0 j = 0:=by
 unfold cv
 by_cases h1:j < 255
 ·simp [h1]
 ·by_cases h2:j < 510 <;> simp [h1,h2]
theorem d7b {j:Nat}:(j < 510 → cv 255 j = pw j) ∧ (j < 256 → cv 255 (510 + j) = lg j):=by
 constructor
 ·intro h
  unfold cv
  by_cases h1:j < 255
  ·simp [h1]
  ·simp [h1,h,show j - 255 < 255 by omega]
 ·intro h
  unfold cv
  rw [if_neg (by omega),if_neg (by omega),show 510 + j - 510 = j by omega]
  by_cases h0:j = 0
  ·subst h0;rw [if_neg (by simp)];exact e0h.symm
  ·rw [if_pos ⟨h0,(a9v h h0).2⟩]
theorem e2i {k j:Nat} (hk:k < 255) (hj:j < 766):cv (k + 1) j = if j = 510 + pw k then k else if j = k + 255 then pw k else if j = k then pw k else cv k j:=by
 have hp:=b3s k
 by_cases h1:j < 255
 ·rw [if_neg (show ¬ j = 510 + pw k by omega),if_neg (by omega)]
  unfold cv
  rw [if_pos h1,if_pos h1]
  by_cases e:j = k
  ·rw [if_pos (by omega),if_pos e,e]
  ·rw [if_neg e]
   by_cases h:j < k
   ·rw [if_pos (by omega),if_pos h]
   ·rw [if_neg (by omega),if_neg h]
 ·by_cases h2:j < 510
  ·rw [if_neg (show ¬ j = 510 + pw k by omega)]
   unfold cv
   rw [if_neg h1,if_pos h2,if_neg h1,if_pos h2]
   by_cases e:j = k + 255
   ·rw [if_pos (by omega),if_pos e,e,b6v]
   ·rw [if_neg e,if_neg (show ¬ j = k by omega)]
    by_cases h:j - 255 < k
    ·rw [if_pos (by omega),if_pos h]
    ·rw [if_neg (by omega),if_neg h]
  ·rw [if_neg (show ¬ j = k + 255 by omega),if_neg (show ¬ j = k by omega)]
   obtain ⟨a,rfl⟩:∃ a,j = 510 + a:=⟨j - 510,by omega⟩
   unfold cv
   rw [if_neg h1,if_neg h2,if_neg h1,if_neg h2,show 510 + a - 510 = a by omega]
   by_cases e:510 + a = 510 + pw k
   ·have e':a = pw k:=by omega
    rw [if_pos e,e',if_pos ⟨d0x k,by rw [c5s];omega⟩,c5s,Nat.mod_eq_of_lt hk]
   ·rw [if_neg e]
    by_cases h0:a = 0
    ·rw [if_neg (fun h => h.1 h0),if_neg (fun h => h.1 h0)]
    ·have hl:lg a ≠ k:=fun h => e (by rw [← h,(a9v (by omega) h0).1])
     by_cases h:lg a < k
     ·rw [if_pos ⟨h0,by omega⟩,if_pos ⟨h0,h⟩]
     ·rw [if_neg (fun h' => h (by omega)),if_neg (fun h' => h h'.2)]
def Fil (w:World) (b k:Nat):Prop:=
 b < w.heap.size ∧ (∀ j,j < 766 → w.cell? ⟨b,j,none⟩ = some (.int .u8 ((cv k j:Nat):Int))) ∧ ∀ j,w.frozen? ⟨b,j,none⟩ = false
theorem Fil.fld {w:World} {b:Nat} (h:Fil w b 255):Fld w b:=
 ⟨h.1,fun j hj => by rw [h.2.1 j (by omega),d7b.1 hj],fun j hj => by rw [h.2.1 (510 + j) (by omega),d7b.2 hj]⟩
theorem Fil.made (w:World) (t:TypeId):Fil (w.alloc (.cells (Array.replicate 766 (.int .u8 0)) t)) w.heap.size 0:=
 ⟨by simp,fun j hj => by rw [World.cell?_alloc_new,e1b];simp [hj],fun j => by unfold World.frozen?;simp only;rw [heap_alloc_new];simp⟩
theorem b0t {w:World} {b:Nat} {f:Nat → Nat} (h:∀ j,j < 766 → w.cell? ⟨b,j,none⟩ = some (.int .u8 ((f j:Nat):Int))) {i:Nat} (v:Nat) (hi:i < 766) :
 ∀ j,j < 766 → (w.setCell ⟨b,i,none⟩ (.int .u8 ((v:Nat):Int))).cell? ⟨b,j,none⟩ = some (.int .u8 ((if j = i then v else f j:Nat):Int)):=by
 intro j hj
 by_cases e:j = i
 ·rw [if_pos e,e];exact World.cell?_setCell_same _ _ _ (h i hi)
 ·rw [if_neg e,World.cell?_setCell_other _ _ _ _ (by intro h;injection h with _ h2;exact e h2.symm)];exact h j hj
def Mid (w:World) (b k:Nat):Prop:=
 b < w.heap.size ∧ (∀ j,j < 766 → w.cell? ⟨b,j,none⟩ = some (.int .u8 ((if j = k + 255 then pw k else if j = k then pw k else cv k j:Nat):Int))) ∧ ∀ j,w.frozen? ⟨b,j,none⟩ = false
theorem Fil.mid {w:World} {b k:Nat} (h:Fil w b k) (hk:k < 255) :
 Mid (((w.setCell ⟨b,k,none⟩ (.int .u8 ((pw k:Nat):Int))).setCell ⟨b,k + 255,none⟩ (.int .u8 ((pw k:Nat):Int))).drew) b k:=by
 refine ⟨by simpa using h.1,fun j hj => ?_,fun j => by simpa using h.2.2 j⟩
 exact b0t (b0t h.2.1 (pw k) (by omega)) (pw k) (by omega) j hj
theorem Mid.fil {w:World} {b k:Nat} (h:Mid w b k) (hk:k < 255):Fil (w.setCell ⟨b,510 + pw k,none⟩ (.int .u8 ((k:Nat):Int))) b (k + 1):=by
 have hp:=b3s k
 refine ⟨by simpa using h.1,fun j hj => ?_,fun j => by simpa using h.2.2 j⟩
 rw [e2i hk hj]
 exact b0t h.2.1 k (by omega) j hj
theorem b3p (w:World):Calls Tryz.prog 11 #[] w fun e w' => ∃ b,e = .returned (.pointer (some ⟨b,0,none⟩)) ∧ w.heap.size ≤ b ∧ Fld w' b ∧ Below w.heap.size w w':=by
 have hz:=e7a w
 have H0:=hJ_ (Fil.made w 62)
 obtain ⟨c0,hc0⟩:∃ c0:Array Value,c0 = Array.replicate 766 (.int .u8 0):=⟨_,rfl⟩
 rw [← hc0] at hz H0
 clear hc0
 go_enter Tryz.func11,Tryz.ntmps11
 go_wp2
 go_loopw [2,6] (fun x i wr => ∃ k:Nat,k ≤ 255 ∧ i = .int .i64 (k:Nat) ∧ x = .int .u8 ((pw k:Nat):Int) ∧ Fil wr w.heap.size k ∧ Below w.heap.size w wr) (fun _ i _ => 255 - (intOf i).toNat)
 case atStart => exact ⟨0,by omega,rfl,by rw [b1n];rfl,H0.out,(Below.refl _ _).alloc (Nat.le_refl _) _⟩
 case round =>
  obtain ⟨k,hk,rfl,rfl,hF,hB⟩:=hrel
  clear hz
  by_cases hlt:k < 255
  ·have hc1:=hF.2.1 k (by omega)
   have hc2:=hF.2.1 (k + 255) (by omega)
   have hf1:=hF.2.2 k
   have hf2:=hF.2.2 (k + 255)
   have HF:=hJ_ hF
   have HB:=hJ_ hB
   clear hF hB
   have hP:=b3s k
   have q1:(k:Int) < 510:=by omega
   have q2:(k:Int) + 255 < 510:=by omega
   have q3:(k:Int) < 255:=by omega
   have q4:((k:Int) + 255).toNat = k + 255:=by omega
   have q5:IntKind.i64.wrap ((k:Int) + 255) = (k:Int) + 255:=by rw [IntKind.wrap_i64];omega
   have q6:0 ≤ (k:Int) + 255:=by omega
   go_wp2_with fail
   go_region
   obtain ⟨W,hW⟩:∃ W,W = (((wr.setCell ⟨w.heap.size,k,none⟩ (.int .u8 ((pw k:Nat):Int))).setCell ⟨w.heap.size,k + 255,none⟩ (.int .u8 ((pw k:Nat):Int))).drew):=⟨_,rfl⟩
   have hM:=HF.out.mid hlt
   have hB:=((HB.out.setCell (p:=⟨w.heap.size,k,none⟩) (Nat.le_refl _) (.int .u8 ((pw k:Nat):Int))).setCell (p:=⟨w.heap.size,k + 255,none⟩) (Nat.le_refl _) (.int .u8 ((pw k:Nat):Int))).drew
   rw [← hW] at hM hB ⊢
   clear hW hc1 hc2 hf1 hf2 HF HB q1 q2 q4 q5 q6
   have hc1:=hM.2.1 (510 + pw k) (by omega)
   have hf1:=hM.2.2 (510 + pw k)
   have HS:=hJ_ (hM.fil hlt)
   have HB:=hJ_ (hB.setCell (p:=⟨w.heap.size,510 + pw k,none⟩) (Nat.le_refl _) (.int .u8 ((k:Nat):Int)))
   clear hM hB
   have q1:((pw k:Nat):Int) < 256:=by omega
   have q2:(k:Int) % 256 = (k:Int):=by omega
   have HP:=hJ_ (show gm (pw k) 3 = pw (k + 1) by rw [← a7m hP (by decide)];exact d4r k)
   go_wp2_with (go_at_call 30;refine (e6c _ 3 hP (by decide) _).mono ?_;rintro e w' ⟨rfl,rfl⟩)
   go_roundw
   case rel => exact ⟨k + 1,by omega,by go_num,by rw [HP.out],HS.out,HB.out⟩
   case measure => simp [intOf];omega
  ·obtain rfl:k = 255:=by omega
   have HF:=hJ_ hF.fld
   have HB:=hJ_ hB
   clear hF hB
   go_wp2
   go_ret
   exact ⟨w.heap.size,rfl,Nat.le_refl _,HF.out,HB.out⟩
theorem b8w (b:Nat) (n:Int) (w:World) (hf:Fld w b) (h0:0 ≤ n) (hn:n < 510):Calls Tryz.prog 120 #[.pointer (some ⟨b,0,none⟩),.int .i64 n] w fun e w' => e = .returned (.int .u8 (pwI n)) ∧ w = w':=by
 obtain ⟨k,rfl⟩:=Int.eq_ofNat_of_zero_le h0
 exact e0j b k w hf (by omega)
theorem e7g (b x y:Nat) (w:World) (hf:Fld w b) (hx:x < 256) (hy:y < 256):Calls Tryz.prog 104 #[.pointer (some ⟨b,0,none⟩),.int .u8 (x:Nat),.int .u8 (y:Nat)] w fun e w' => e = .returned (.int .u8 ((gm x y:Nat):Int)) ∧ w = w':=by
 by_cases h0:x = 0
 ·subst h0
  have H:=hJ_ (a8p y)
  go_enter Tryz.func104,Tryz.ntmps104
  go_wp2
  go_ret
  exact ⟨a0s (by rw [H.out];rfl),rfl⟩
 by_cases h1:y = 0
 ·subst h1
  have H:=hJ_ (b4s x)
  have q1:((x:Int) == 0) = false:=by rw [beq_eq_false_iff_ne];omega
  go_enter Tryz.func104,Tryz.ntmps104
  go_wp2
  go_ret
  exact ⟨a0s (by rw [H.out];rfl),rfl⟩
 have H:=hJ_ (c3i h0 h1)
 have hlx:=(a9v hx h0).2
 have hly:=(a9v hy h1).2
 have q1:((x:Int) == 0) = false:=by rw [beq_eq_false_iff_ne];omega
 have q2:((y:Int) == 0) = false:=by rw [beq_eq_false_iff_ne];omega
 clear h0 h1
 go_enter Tryz.func104,Tryz.ntmps104
 go_wp2_with (first | (go_at_call 121;refine (d2d _ _ _ hf (by assumption)).mono ?_;rintro e w' ⟨rfl,rfl⟩) | (go_at_call 120;refine (b8w _ _ _ hf (by omega) (by omega)).mono ?_;rintro e w' ⟨rfl,rfl⟩))
 go_ret
 refine ⟨a0s ?_,rfl⟩
 rw [H.out];unfold pwI
 rw [show ((lg x:Int) + (lg y:Int)).toNat = lg x + lg y by omega]
theorem d5y (b x:Nat) (w:World) (hf:Fld w b) (hx:x < 256) (h0:x ≠ 0):Calls Tryz.prog 156 #[.pointer (some ⟨b,0,none⟩),.int .u8 (x:Nat)] w fun e w' => e = .returned (.tuple #[.int .i64 ((lg x:Nat):Int),.int .i64 0]) ∧ w = w':=by
 have q1:((x:Int) == 0) = false:=by rw [beq_eq_false_iff_ne];omega
 clear h0
 go_enter Tryz.func156,Tryz.ntmps156
 go_wp2_with (go_at_call 121;refine (d2d _ _ _ hf (by assumption)).mono ?_;rintro e w' ⟨rfl,rfl⟩)
 go_ret2
 exact ⟨rfl,rfl⟩
theorem d0p (b:Nat) (w:World):Calls Tryz.prog 156 #[.pointer (some ⟨b,0,none⟩),.int .u8 0] w fun e w' => e = .returned (.tuple #[.int .i64 0,.int .i64 7]) ∧ w = w':=by
 go_enter Tryz.func156,Tryz.ntmps156
 go_wp2
 go_ret2
 exact ⟨rfl,rfl⟩
theorem d5u (b x y:Nat) (w:World) (hf:Fld w b) (hx:x < 256) (hy:y < 256) (h1:y ≠ 0):Calls Tryz.prog 134 #[.pointer (some ⟨b,0,none⟩),.int .u8 (x:Nat),.int .u8 (y:Nat)] w fun e w' => e = .returned (.tuple #[.int .u8 ((gm x (inv y):Nat):Int),.int .i64 0]) ∧ w = w':=by
 have hly:=(a9v hy h1).2
 by_cases h0:x = 0
 ·subst h0
  have H:=hJ_ (a8p (inv y))
  go_enter Tryz.func134,Tryz.ntmps134
  go_wp2_with (go_at_call 156;refine (d5y _ _ _ hf hy h1).mono ?_;rintro e w' ⟨rfl,rfl⟩)
  go_ret2
  rw [H.out]
  exact ⟨rfl,rfl⟩
 have H:=hJ_ (e4f (a:=x) hy h0 h1)
 have hlx:=(a9v hx h0).2
 have q1:((x:Int) == 0) = false:=by rw [beq_eq_false_iff_ne];omega
 clear h0
 go_enter Tryz.func134,Tryz.ntmps134
 go_wp2_with (first | (go_at_call 156;refine (d5y _ _ _ hf hy h1).mono ?_;rintro e w' ⟨rfl,rfl⟩) | (go_at_call 121;refine (d2d _ _ _ hf (by assumption)).mono ?_;rintro e w' ⟨rfl,rfl⟩) | (go_at_call 120;refine (b8w _ _ _ hf (by omega) (by omega)).mono ?_;rintro e w' ⟨rfl,rfl⟩))
 go_ret2
 refine ⟨?_,rfl⟩
 rw [← H.out];unfold pwI
 rw [show ((lg x:Int) + 255 - (lg y:Int)).toNat = lg x + 255 - lg y by omega]
 rfl
theorem d2g (b:Nat) (x:Int) (w:World):Calls Tryz.prog 134 #[.pointer (some ⟨b,0,none⟩),.int .u8 x,.int .u8 0] w fun e w' => e = .returned (.tuple #[.int .u8 0,.int .i64 7]) ∧ w = w':=by
 go_enter Tryz.func134,Tryz.ntmps134
 go_wp2_with (go_at_call 156;refine (d0p _ _).mono ?_;rintro e w' ⟨rfl,rfl⟩)
 go_ret2
 exact ⟨rfl,rfl⟩
theorem d5q (b x:Nat) (w:World) (hf:Fld w b) (hx:x < 256) (h0:x ≠ 0):Calls Tryz.prog 141 #[.pointer (some ⟨b,0,none⟩),.int .u8 (x:Nat)] w fun e w' => e = .returned (.tuple #[.int .u8 ((inv x:Nat):Int),.int .i64 0]) ∧ w = w':=by
 have H:=hJ_ (show gm 1 (inv x) = inv x by rw [a6a];exact c0m (a6x x))
 go_enter Tryz.func141,Tryz.ntmps141
 go_wp2_with (go_at_call 134;refine (d5u _ 1 _ _ hf (by decide) hx h0).mono ?_;rintro e w' ⟨rfl,rfl⟩)
 go_ret2
 rw [H.out]
 exact ⟨rfl,rfl⟩
theorem d0l (b:Nat) (w:World):Calls Tryz.prog 141 #[.pointer (some ⟨b,0,none⟩),.int .u8 0] w fun e w' => e = .returned (.tuple #[.int .u8 0,.int .i64 7]) ∧ w = w':=by
 go_enter Tryz.func141,Tryz.ntmps141
 go_wp2_with (go_at_call 134;refine (d2g _ _ _).mono ?_;rintro e w' ⟨rfl,rfl⟩)
 go_ret2
 exact ⟨rfl,rfl⟩
set_option maxRecDepth 10000 in
theorem e8n (b x:Nat) (n:Int) (w:World) (hf:Fld w b) (hx:x < 256) (wn:-9223372036854775808 ≤ n ∧ n ≤ 9223372036854775807) :
 Calls Tryz.prog 148 #[.pointer (some ⟨b,0,none⟩),.int .u8 (x:Nat),.int .i64 n] w fun e w' => e = .returned (.int .u8 ((d9u x n:Nat):Int)) ∧ w = w':=by
 obtain ⟨n0,n1⟩:=wn
 by_cases hz:n = 0
 ·subst hz
  go_enter Tryz.func148,Tryz.ntmps148
  go_wp2
  go_ret
  exact ⟨a0s rfl,rfl⟩
 have p1:(n == 0) = false:=by rw [beq_eq_false_iff_ne];exact hz
 by_cases hx0:x = 0
 ·subst hx0
  have H:=hJ_ (show d9u 0 n = 0 by unfold d9u;rw [if_neg hz,if_pos rfl])
  go_enter Tryz.func148,Tryz.ntmps148
  go_wp2
  go_ret
  exact ⟨a0s (by rw [H.out];rfl),rfl⟩
 have H:=hJ_ (show d9u x n = pwr x (n % 255).toNat by unfold d9u;rw [if_neg hz,if_neg hx0])
 have p2:((x:Int) == 0) = false:=by rw [beq_eq_false_iff_ne];omega
 have hlx:=(a9v hx hx0).2
 clear hz hx0
 obtain ⟨t1,t2,t3,t4,t5⟩:=e0m n
 clear t4 t5
 obtain ⟨M,hM⟩:∃ M:Nat,(n.tmod 255 + 255) % 255 = (M:Int):=⟨((n.tmod 255 + 255) % 255).toNat,by omega⟩
 have hM2:M < 255:=by omega
 have hR:=hJ_ (show (n % 255).toNat = M by omega)
 clear t3
 have m1:0 ≤ ((lg x:Nat):Int) * (M:Int):=Int.mul_nonneg (by omega) (by omega)
 have m2:((lg x:Nat):Int) * (M:Int) ≤ 255 * 255:=by
  have:lg x * M ≤ 255 * 255:=Nat.mul_le_mul (by omega) (by omega)
  exact_mod_cast this
 have hE:=hJ_ (show (((lg x:Nat):Int) * (M:Int) % 255).toNat = lg x * M % 255 by
  have:((lg x:Nat):Int) * (M:Int) % 255 = ((lg x * M % 255:Nat):Int):=by simp
  omega)
 go_enter Tryz.func148,Tryz.ntmps148
 go_wp2_with (first | (go_at_call 121;refine (d2d _ _ _ hf (by assumption)).mono ?_;rintro e w' ⟨rfl,rfl⟩) | (go_at_call 120;refine (b8w _ _ _ hf (by omega) (by omega)).mono ?_;rintro e w' ⟨rfl,rfl⟩))
 go_ret
 refine ⟨a0s ?_,rfl⟩
 unfold pwI
 rw [H.out,hR.out,hE.out,d7c]
end Go.Proofs.YtappfdbmhgifcaaGreatDoor
namespace Go.Proofs.YtappfdbmhgifcaaGreatDoor
open Go.RowKit
def a0z (l:List Int):Prop:=∀ x ∈ l,0 ≤ x ∧ x < 256
def Bs (w:World) (B:Nat) (a:Option Addr) (l:List Int):Prop:=
 0 < l.length → ∃ b off,a = some ⟨b,off,none⟩ ∧ b < B ∧ ∀ i,i < l.length → w.cell? ⟨b,off + i,none⟩ = some (.int .u8 (l.getD i 0))
theorem Bs.below {w w':World} {B:Nat} {a:Option Addr} {l:List Int} (h:Bs w B a l) (hb:Below B w w'):Bs w' B a l:=fun h0 => by
 obtain ⟨b,off,e,hB,hc⟩:=h h0
 exact ⟨b,off,e,hB,fun i hi => (hb.cell (p:=⟨b,off + i,none⟩) hB).trans (hc i hi)⟩
theorem Bs.more {w:World} {B B':Nat} {a:Option Addr} {l:List Int} (h:Bs w B a l) (hB:B ≤ B'):Bs w B' a l:=fun h0 => by
 obtain ⟨b,off,e,hb,hc⟩:=h h0
 exact ⟨b,off,e,by omega,hc⟩
theorem Bs.nil (w:World) (B:Nat) (a:Option Addr):Bs w B a []:=fun h => absurd h (by simp)
theorem a1r {l:List Int} {j:Nat} {u:Value} (h:(l.map (Value.int .u8))[j]? = some u):j < l.length ∧ u = .int .u8 (l.getD j 0):=by
 rw [List.getElem?_map] at h
 obtain ⟨x,hx,rfl⟩:=Option.map_eq_some_iff.1 h
 obtain ⟨hj,e⟩:=List.getElem?_eq_some_iff.1 hx
 exact ⟨hj,by rw [List.getD_eq_getElem?_getD,hx];rfl⟩
theorem a6b {l:List Int} {j:Nat} (h:j < l.length):(l.map (Value.int .u8))[j]? = some (.int .u8 (l.getD j 0)):=by
 simp [List.getElem?_map,List.getD_eq_getElem?_getD,List.getElem?_eq_getElem h]
theorem Bs.of_own {w:World} {base:Nat} {e:TypeId} {a:Option Addr} {n c:Nat} {l:List Int} (h:w.ownsRow base e 1 (.slice a n c) n (l.map (Value.int .u8))):Bs w w.heap.size a l ∧ l.length = n:=by
 have hl:l.length = n:=by have:=h.1;simpa using this
 refine ⟨fun h0 => ?_,hl⟩
 rcases h.2 with ⟨_,rfl⟩ | ⟨g,cap,cur,hv,_,hh,hn,_,hsz,htk⟩
 ·omega
 ·injection hv with h1 h2 h3
  subst h1 h3
  have hlt:g < w.heap.size:=by
   rcases Nat.lt_or_ge g w.heap.size with hlt | hge
   ·exact hlt
   ·rw [Array.getElem?_eq_none hge] at hh;cases hh
  refine ⟨g,0,rfl,hlt,fun i hi => ?_⟩
  rw [Nat.zero_add,h.cellAt i (by omega)]
  exact a6b hi
theorem Bs.at_ {w:World} {B:Nat} {a:Option Addr} {l:List Int} {k:Nat} (h:Bs w B a l) (hk:k < l.length) :
 ∃ b off,a = some ⟨b,off,none⟩ ∧ b < B ∧ w.cell? ⟨b,off + k,none⟩ = some (.int .u8 (l.getD k 0)):=by
 obtain ⟨b,off,e,hB,hc⟩:=h (by omega)
 exact ⟨b,off,e,hB,hc k hk⟩
theorem Bs.cells {w:World} {B:Nat} {a:Option Addr} {l:List Int} (h:Bs w B a l) :
 0 < (l.map (Value.int .u8)).length → ∃ ad,a = some ad ∧ ∀ j v,(l.map (Value.int .u8))[j]? = some v → w.cell? (ad.add j) = some v:=fun h0 => by
 obtain ⟨b,off,e,hB,hc⟩:=h (by simpa using h0)
 refine ⟨_,e,fun j v hj => ?_⟩
 obtain ⟨hl,rfl⟩:=a1r hj
 rw [Addr.add_lit]
 exact hc j hl
theorem a0h {w:World} {base:Nat} {e:TypeId} {g n c:Nat} {l:List Int} (h:w.ownsRow base e 1 (.slice (some ⟨g,0,none⟩) n c) n (l.map (Value.int .u8))) :
 ∀ i,i < n → w.cell? ⟨g,0 + i,none⟩ = some (.int .u8 (l.getD i 0)):=by
 intro i hi
 have hl:l.length = n:=by have:=h.1;simpa using this
 rw [Nat.zero_add,h.cellAt i (by omega)]
 exact a6b (by omega)
theorem Bs.string {P:Program} {w:World} {B:Nat} {e src:TypeId} {a:Option Addr} {n c:Nat} {l:List Int} (h:Bs w B a l) (hl:l.length = n)
 (hs:P.underlying src = some (.slice e)) (he:P.underlying e = some (.int .u8)) {dst:TypeId} (hd:P.underlying dst = some .string) (h0:0 < n) :
 (convert src dst (.slice a n c)).run P w = .ok (.string (strOfNums l)) w:=by
 obtain ⟨b,off,rfl,_,hc⟩:=h (by omega)
 exact run_convert_bytes_arg w src e hs he b off n c l hl (fun i hi => hc i (by omega)) dst hd
def a1l (w:World) (a:Option Addr) (len cap:Nat) (l:List Int):Prop:=l.length = len ∧ a0z l ∧ Bs w w.heap.size a l ∧ len ≤ cap ∧ cap ≤ maxLen
theorem e9t {w:World} {a:Option Addr} {len cap:Nat} {zs:List Int} (h:(a = none ∧ len = 0 ∧ cap = 0 ∧ zs = []) ∨
 ∃ x,a = some x ∧ len ≤ cap ∧ cap ≤ maxLen ∧ zs.length = cap ∧ (∀ i,i < zs.length → w.cell? (x.add i) = some (.int .u8 (zs.getD i 0))) ∧ ∀ n ∈ zs,(Lit.int .u8 n).wf = true) :
 ∃ l,a1l w a len cap l:=by
 rcases h with ⟨rfl,rfl,rfl,rfl⟩ | ⟨x,rfl,hl,hm,hz,hc,hw⟩
 ·exact ⟨[],⟨rfl,(by intro x hx;cases hx),Bs.nil _ _ _,Nat.le_refl _,Nat.zero_le _⟩⟩
 ·refine ⟨zs.take len,by simp [hz,hl],?_,?_,hl,hm⟩
  ·intro n hn
   have:=hw n (List.mem_of_mem_take hn)
   have:0 ≤ n ∧ n ≤ 255:=by simpa [Lit.wf,IntKind.min,IntKind.max,IntKind.signed,IntKind.bits] using this
   omega
  ·intro h0
   have h1:0 < zs.length:=by simp at h0;omega
   have hc0:=hc 0 h1
   obtain ⟨b,off,spot⟩:=x
   have hs:spot = none:=by simpa [Addr.add] using World.cell?_spot hc0
   subst hs
   have hb:b < w.heap.size:=by
    rcases Nat.lt_or_ge b w.heap.size with hlt | hge
    ·exact hlt
    ·have:w.cell? ((⟨b,off,none⟩:Addr).add 0) = none:=by
      simp [World.cell?,Addr.add,Array.getElem?_eq_none hge]
     rw [this] at hc0;cases hc0
   refine ⟨b,off,rfl,hb,fun i hi => ?_⟩
   have hi':i < len ∧ i < zs.length:=by simp at hi;omega
   have:=hc i hi'.2
   rw [Addr.add_lit] at this
   rw [this]
   simp [List.getD_eq_getElem?_getD,hi'.1]
theorem getD_set_ne {l:List Int} {i j:Nat} {x:Int} (h:i ≠ j):(l.set i x).getD j 0 = l.getD j 0:=by
 simp [List.getD_eq_getElem?_getD,h]
def part (L:List Int) (k:Nat):List Int:=L.take k ++ List.replicate (L.length - k) 0
theorem b1x (L:List Int):part L 0 = List.replicate L.length 0:=by simp [part]
theorem b5h (L:List Int):part L L.length = L:=by simp [part]
theorem d0s {L:List Int} {k:Nat} (h:k < L.length):(part L k).set k (L.getD k 0) = part L (k + 1):=by
 unfold part
 rw [List.set_append_right _ _ (by simp;omega)]
 have e:k - (L.take k).length = 0:=by simp;omega
 rw [e,show L.length - k = (L.length - (k + 1)) + 1 by omega,List.replicate_succ,List.set_cons_zero,List.take_succ_eq_append_getElem h,List.append_assoc]
 have e2:L.getD k 0 = L[k]:=by rw [List.getD_eq_getElem?_getD,List.getElem?_eq_getElem h];rfl
 rw [e2];rfl
theorem a1h (l:List Int) (k:Nat) (x:Int):(l.map (Value.int .u8)).set k (.int .u8 x) = (l.set k x).map (Value.int .u8):=by
 rw [List.map_set]
theorem a5s {w:World} {base:Nat} {e:TypeId} {g n cap k:Nat} {L:List Int} (hL:L.length = n) (hk:k < n)
 (h:w.ownsRow base e 1 (.slice (some ⟨g,0,none⟩) n cap) n ((part L k).map (Value.int .u8))) :
 (w.setCell ⟨g,k,none⟩ (.int .u8 (L.getD k 0))).ownsRow base e 1 (.slice (some ⟨g,0,none⟩) n cap) n ((part L (k + 1)).map (Value.int .u8)):=by
 have:=(h.stored k (.int .u8 (L.getD k 0))).1
 rw [a1h,d0s (by omega)] at this
 exact this
theorem a6g (n:Nat):(madeCells #[Value.int .u8 0] n).toList = (List.replicate n (0:Int)).map (Value.int .u8):=by
 rw [toList_madeCells_one];simp
theorem a1c {w:World} {e:TypeId} {n:Nat} (hm:n ≤ maxLen) :
 (w.alloc (.cells (madeCells #[Value.int .u8 0] n) e)).ownsRow w.heap.size e 1 (.slice (some ⟨w.heap.size,0,none⟩) n n) n ((List.replicate n (0:Int)).map (Value.int .u8)):=by
 have:=World.ownsRow_lit (base:=w.heap.size) (e:=e) (size:=1) w (madeCells #[Value.int .u8 0] n) n (Nat.le_refl _) hm (by simp [size_madeCells])
 rw [a6g] at this
 exact this
theorem a1s {α:Type} (L cs:List α):splice L 0 cs = cs ++ L.drop cs.length:=by simp [splice]
theorem bt {w w1 w2:World} (h:Below w.heap.size w w1) (k:Below w1.heap.size w1 w2):Below w.heap.size w w2:=h.trans (k.mono h.size)
theorem a1l.on {W w:World} {a:Option Addr} {n c:Nat} {l:List Int} (h:a1l W a n c l) (hb:Below W.heap.size W w):a1l w a n c l:=
 ⟨h.1,h.2.1,(h.2.2.1.below hb).more hb.size,h.2.2.2⟩
theorem a1l.own {w:World} {base:Nat} {e:TypeId} {g n c:Nat} {l:List Int} (h:w.ownsRow base e 1 (.slice (some ⟨g,0,none⟩) n c) n (l.map (Value.int .u8))) (hl:a0z l) (hc:n ≤ c ∧ c ≤ maxLen) :
 a1l w (some ⟨g,0,none⟩) n c l:=⟨(Bs.of_own h).2,hl,(Bs.of_own h).1,hc⟩
theorem Bs.take {w:World} {B:Nat} {a:Option Addr} {l:List Int} (h:Bs w B a l) (n:Nat):Bs w B a (l.take n):=fun h0 => by
 have h1:0 < l.length:=by simp at h0;omega
 obtain ⟨b,off,e,hB,hc⟩:=h h1
 refine ⟨b,off,e,hB,fun i hi => ?_⟩
 have hi':i < n ∧ i < l.length:=by simp at hi;omega
 rw [hc i hi'.2]
 simp [List.getD_eq_getElem?_getD,hi'.1]
theorem Bs.str {P:Program} {w:World} {B:Nat} {e src:TypeId} {a:Option Addr} {n c:Nat} {l:List Int} (h:Bs w B a l) (hl:l.length = n)
 (hs:P.underlying src = some (.slice e)) (he:P.underlying e = some (.int .u8)) {dst:TypeId} (hd:P.underlying dst = some .string) :
 (convert src dst (.slice a n c)).run P w = .ok (.string (strOfNums l)) w:=by
 rcases Nat.eq_zero_or_pos n with h0 | h0
 ·subst h0
  obtain rfl:l = []:=List.eq_nil_of_length_eq_zero hl
  rcases a with _ | ad
  ·exact run_convert_bytes_nil w src e hs he 0 c dst hd
  ·rw [run_convert_bytes_string w src dst e _ 0 c hs he hd]
   exact run_bytesToString w ad 0 c [] rfl
 ·exact h.string hl hs he hd h0
theorem a0z.take {l:List Int} (h:a0z l) (n:Nat):a0z (l.take n):=fun x hx => h x (List.mem_of_mem_take hx)
theorem a0f {w:World} {base:Nat} {e:TypeId} {v:Value} {n:Nat} {l:List Int} (h:w.ownsRow base e 1 v n (l.map (Value.int .u8))) :
 ∃ a c,v = .slice a n c ∧ Bs w w.heap.size a l ∧ l.length = n ∧ n ≤ c ∧ c ≤ maxLen ∧ (a = none → c = 0):=by
 rcases h.2 with ⟨rfl,rfl⟩ | ⟨g,cap,cur,rfl,_,_,hn,hm,_,_⟩
 ·exact ⟨none,0,rfl,(Bs.of_own h).1,(Bs.of_own h).2,Nat.le_refl _,Nat.zero_le _,fun _ => rfl⟩
 ·exact ⟨_,cap,rfl,(Bs.of_own h).1,(Bs.of_own h).2,hn,hm,fun h => by cases h⟩
theorem a0u {P:Program} (w:World) {ops:Array Oper} {rest:List Oper} {o:Oper} {a:Act} {Q:Exit → Act → World → Prop} (hgd:o.guard = none) (s x:Operand) (t:TypeId)
 (ho:o.op = .call { callee:=.builtin .append,args:=#[s,x],argTypes:=#[t,t] })
 (base:Nat) (e:TypeId) (i:TypeInfo) (ht:P.underlying t = some (.slice e)) (hi:P.info? e = some i) (hz:i.zero = some (.int .u8 0)) (hsize:i.size = 1) (hby:i.bytes = 1)
 (v:Value) (n:Nat) (l:List Int) (hs:a.eval s = v) (hown:w.ownsRow base e 1 v n (l.map (Value.int .u8)))
 (ad:Option Addr) (m c B:Nat) (k:List Int) (hx:a.eval x = .slice ad m c) (hB:Bs w B ad k) (hk:k.length = m) (hc:ad = none → c = 0)
 (hbytes:n + m ≤ 140737488355328) (hbase:base ≤ w.heap.size)
 (h:∀ v' w',w'.ownsRow base e 1 v' (n + m) ((l ++ k).map (Value.int .u8)) → w.grownBy w' v.ownBlock → wpList P ops Q rest (a.put o.dst v') w') :
 wpList P ops Q (o :: rest) a w:=by
 rcases ad with _ | ad
 ·obtain rfl:c = 0:=hc rfl
  have hm:k = []:=by
   rcases Nat.eq_zero_or_pos k.length with h0 | h0
   ·exact List.eq_nil_of_length_eq_zero h0
   ·obtain ⟨_,_,e,_⟩:=hB h0;cases e
  subst hm
  obtain rfl:m = 0:=hk.symm
  refine wpList_append_own_none hgd s x t ho base e i 1 ht hi v n (l.map (Value.int .u8)) hs hown hx ?_
  exact h v w (by simpa using hown) (World.grownBy.refl _ _)
 ·refine wpList_append_own w hgd s x t ho base e i (.int .u8 0) 1 1 ht hi hz hsize hby rfl (by decide) v n (l.map (Value.int .u8)) hs hown ad m c (k.map (Value.int .u8)) hx (by simp [hk]) ?_ (ints_oneCell _ _) (by unfold maxLen;omega) (by omega) hbase ?_
  ·intro j u hj
   have hj':=a1r hj
   obtain ⟨ad',e1,hc'⟩:=hB.cells (by simpa using (show 0 < k.length by omega))
   injection e1 with e1
   subst e1
   exact hc' j u hj
  ·intro v' w' h1 h2 _
   rw [← List.map_append] at h1
   exact h v' w' h1 h2
def Arg8c (w:World) (a:Option Addr) (len cap:Nat) (l:List Int):Prop:=a1l w a len cap l ∧ (a = none → cap = 0)
theorem arg8c {w:World} {a:Option Addr} {len cap:Nat} {zs:List Int} (h:(a = none ∧ len = 0 ∧ cap = 0 ∧ zs = []) ∨
 ∃ x,a = some x ∧ len ≤ cap ∧ cap ≤ maxLen ∧ zs.length = cap ∧ (∀ i,i < zs.length → w.cell? (x.add i) = some (.int .u8 (zs.getD i 0))) ∧ ∀ n ∈ zs,(Lit.int .u8 n).wf = true) :
 ∃ l,Arg8c w a len cap l:=by
 obtain ⟨l,hl⟩:=e9t h
 refine ⟨l,hl,fun e => ?_⟩
 rcases h with ⟨_,_,h,_⟩ | ⟨x,h,_⟩
 ·exact h
 ·rw [h] at e;cases e
end Go.Proofs.YtappfdbmhgifcaaGreatDoor
namespace Go.Proofs.YtappfdbmhgifcaaGreatDoor
open Go.ChangeShapes Go.WideShapes Go.ChangeAt Go.RowKit
theorem d2q (b:Nat) (x y:Int) (w:World) (hf:Fld w b) (hx:0 ≤ x ∧ x < 256) (hy:0 ≤ y ∧ y < 256):Calls Tryz.prog 104 #[.pointer (some ⟨b,0,none⟩),.int .u8 x,.int .u8 y] w fun e w' => e = .returned (.int .u8 (gmI x y)) ∧ w = w':=by
 obtain ⟨m,rfl⟩:=Int.eq_ofNat_of_zero_le hx.1
 obtain ⟨n,rfl⟩:=Int.eq_ofNat_of_zero_le hy.1
 exact e7g b m n w hf (by omega) (by omega)
theorem info5:(Tryz.prog.info? 5).map (fun i => (i.zero,i.size,i.bytes)) = some (some (.int .u8 0),1,1):=by kernel_rfl
theorem a2a:(Tryz.prog.info? 5).map (·.size) = some 1:=by kernel_rfl
theorem a0g {l:List Int} (h:a0z l) (k:Nat):0 ≤ l.getD k 0 ∧ l.getD k 0 < 256:=by
 by_cases hk:k < l.length
 ·have:l.getD k 0 = l[k]:=by simp [List.getD_eq_getElem?_getD,List.getElem?_eq_getElem hk]
  rw [this];exact h _ (List.getElem_mem hk)
 ·have:l.getD k 0 = 0:=by simp [List.getD_eq_getElem?_getD,List.getElem?_eq_none (Nat.le_of_not_lt hk)]
  omega
theorem a0x {l m:List Int} (h:l.length = m.length) (hi:∀ i,i < l.length → l.getD i 0 = m.getD i 0):l = m:=by
 apply List.ext_getElem h
 intro i h1 h2
 have:=hi i h1
 simpa [List.getD_eq_getElem?_getD,List.getElem?_eq_getElem h1,List.getElem?_eq_getElem h2] using this
def Mix (L l cur:List Int) (k:Nat):Prop:=cur.length = l.length ∧ ∀ i,i < l.length → cur.getD i 0 = if i < k then L.getD i 0 else l.getD i 0
theorem Mix.zero (L l:List Int):Mix L l l 0:=⟨rfl,fun i hi => by rw [if_neg (by omega)]⟩
theorem Mix.next {L l cur:List Int} {k:Nat} (h:Mix L l cur k) (hk:k < l.length):Mix L l (cur.set k (L.getD k 0)) (k + 1):=by
 refine ⟨by simpa using h.1,fun i hi => ?_⟩
 by_cases e:i = k
 ·subst e
  rw [if_pos (by omega)]
  simp [List.getD_eq_getElem?_getD,h.1,hi]
 ·rw [getD_set_ne (Ne.symm e),h.2 i hi]
  by_cases h1:i < k
  ·rw [if_pos h1,if_pos (by omega)]
  ·rw [if_neg h1,if_neg (by omega)]
theorem Mix.all {L l cur:List Int} {k:Nat} (h:Mix L l cur k) (hL:L.length = l.length) (hr:∀ i,k ≤ i → i < l.length → l.getD i 0 = L.getD i 0):cur = L:=by
 apply a0x (by rw [h.1,hL])
 intro i hi
 rw [h.1] at hi
 rw [h.2 i hi]
 by_cases h1:i < k
 ·rw [if_pos h1]
 ·rw [if_neg h1];exact hr i (by omega) hi
def c9u (c:Int) (l:List Int):List Int:=l.map (gmI c)
theorem a7o (c:Int) (l:List Int):(c9u c l).length = l.length:=by simp [c9u]
theorem b6z (c:Int) {l:List Int} {i:Nat} (h:i < l.length):(c9u c l).getD i 0 = gmI c (l.getD i 0):=by
 simp [c9u,List.getD_eq_getElem?_getD,List.getElem?_map,List.getElem?_eq_getElem h]
theorem a6f (g n c:Nat):∀ k,(Value.slice (some ⟨g,0,none⟩) n c).ownBlock = some k → g ≤ k:=fun k hk => by cases hk;exact Nat.le_refl _
theorem b1u (w:World) (e:TypeId):(w.alloc (.cells #[] e)).ownsRow w.heap.size e 1 (.slice (some ⟨w.heap.size,0,none⟩) 0 0) 0 (([]:List Int).map (Value.int .u8)):=
 World.ownsRow_lit (base:=w.heap.size) (e:=e) (size:=1) w #[] 0 (Nat.le_refl _) (Nat.zero_le _) rfl
theorem below_drewN {B:Nat} {a w:World} (h:Below B a w) (n:Nat):Below B a (w.drewN n):=⟨h.os,h.tape,h.output,h.size,h.block⟩
end Go.Proofs.YtappfdbmhgifcaaGreatDoor
namespace Go.Proofs.YtappfdbmhgifcaaGreatDoor
def rot (k x s:Nat):Nat:=(x * 2 ^ (s % k) % 2 ^ k) ||| (x / 2 ^ (k - s % k))
theorem c4a {k x s:Nat} (hx:x < 2 ^ k):rot k x s < 2 ^ k:=by
 unfold rot
 exact Nat.or_lt_two_pow (Nat.mod_lt _ (Nat.two_pow_pos k)) (Nat.lt_of_le_of_lt (Nat.div_le_self _ _) hx)
def c2d (k:Nat) (x n:Int):Int:=((rot k x.toNat (n % (k:Int)).toNat:Nat):Int)
end Go.Proofs.YtappfdbmhgifcaaGreatDoor
