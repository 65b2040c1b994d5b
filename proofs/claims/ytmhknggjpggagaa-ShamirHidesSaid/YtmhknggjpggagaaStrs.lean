/- Slices of bytes made strings; when two such strings are the same. No program is named here. -/
import Derived.Test.YtmhknggjpggagaaMem
import Derived.Lib.Bytes
namespace Go.Proofs.Ytmhknggjpggagaa
open Go.RowKit

theorem bt {w w1 w2 : World} (h : Below w.heap.size w w1) (k : Below w1.heap.size w1 w2) : Below w.heap.size w w2 := h.trans (k.mono h.size)
theorem Arg8.on {W w : World} {a : Option Addr} {n c : Nat} {l : List Int} (h : Arg8 W a n c l) (hb : Below W.heap.size W w) : Arg8 w a n c l :=
  ⟨h.1, h.2.1, (h.2.2.1.below hb).more hb.size, h.2.2.2⟩
theorem Arg8.own {w : World} {base : Nat} {e : TypeId} {g n c : Nat} {l : List Int} (h : w.ownsRow base e 1 (.slice (some ⟨g, 0, none⟩) n c) n (l.map (Value.int .u8))) (hl : AllB l) (hc : n ≤ c ∧ c ≤ maxLen) :
    Arg8 w (some ⟨g, 0, none⟩) n c l := ⟨(Bs.of_own h).2, hl, (Bs.of_own h).1, hc⟩
theorem Bs.take {w : World} {B : Nat} {a : Option Addr} {l : List Int} (h : Bs w B a l) (n : Nat) : Bs w B a (l.take n) := fun h0 => by
  have h1 : 0 < l.length := by simp at h0; omega
  obtain ⟨b, off, e, hB, hc⟩ := h h1
  refine ⟨b, off, e, hB, fun i hi => ?_⟩
  have hi' : i < n ∧ i < l.length := by simp at hi; omega
  rw [hc i hi'.2]
  simp [List.getD_eq_getElem?_getD, hi'.1]
/-- A slice of bytes, empty or not, made a string. -/
theorem Bs.str {P : Program} {w : World} {B : Nat} {e src : TypeId} {a : Option Addr} {n c : Nat} {l : List Int} (h : Bs w B a l) (hl : l.length = n)
    (hs : P.underlying src = some (.slice e)) (he : P.underlying e = some (.int .u8)) {dst : TypeId} (hd : P.underlying dst = some .string) :
    (convert src dst (.slice a n c)).run P w = .ok (.string (strOfNums l)) w := by
  rcases Nat.eq_zero_or_pos n with h0 | h0
  · subst h0
    obtain rfl : l = [] := List.eq_nil_of_length_eq_zero hl
    rcases a with _ | ad
    · exact run_convert_bytes_nil w src e hs he 0 c dst hd
    · rw [run_convert_bytes_string w src dst e _ 0 c hs he hd]
      exact run_bytesToString w ad 0 c [] rfl
  · exact h.string hl hs he hd h0
theorem bytesOf_inj : ∀ {l m : List Int}, AllB l → AllB m → Lib.bytesOf l = Lib.bytesOf m → l = m
  | [], [], _, _, _ => rfl
  | [], _ :: _, _, _, h => by simp [Lib.bytesOf] at h
  | _ :: _, [], _, _, h => by simp [Lib.bytesOf] at h
  | x :: l, y :: m, hl, hm, h => by
    simp only [Lib.bytesOf, List.map_cons, List.cons.injEq] at h
    have h1 := hl x (List.mem_cons_self ..)
    have h2 := hm y (List.mem_cons_self ..)
    have e := congrArg UInt8.toNat h.1
    simp at e
    have hxy : x = y := by omega
    rw [hxy, bytesOf_inj (fun z hz => hl z (List.mem_cons_of_mem _ hz)) (fun z hz => hm z (List.mem_cons_of_mem _ hz)) h.2]
theorem str_eq {l m : List Int} (h : l = m) : ((strOfNums l).toList == (strOfNums m).toList) = true := by subst h; simp
theorem str_ne {l m : List Int} (hl : AllB l) (hm : AllB m) (h : l ≠ m) : ((strOfNums l).toList == (strOfNums m).toList) = false := by
  rw [Lib.strOfNums_toList, Lib.strOfNums_toList, beq_eq_false_iff_ne]
  exact fun e => h (bytesOf_inj hl hm e)
theorem AllB.take {l : List Int} (h : AllB l) (n : Nat) : AllB (l.take n) := fun x hx => h x (List.mem_of_mem_take hx)
end Go.Proofs.Ytmhknggjpggagaa
