/- The document's functions for sectors: at, sized, a share's and a commit's bytes. -/
import Derived.Test.YtkfdcdfaikkneaaIb
import Derived.Test.YtkfdcdfaikkneaaBlk
import Derived.Lib.ConvBytes
namespace Go.Proofs.Ytkfdcdfaikkneaa
open Go.ChangeShapes Go.WideShapes Go.ChangeAt Go.RowKit Go.Shelf
set_option linter.unusedVariables false
set_option linter.unusedSimpArgs false
set_option maxRecDepth 100000
attribute [local go_sem] Oper.semAt_some

/-- A row of bytes of one's own, as an argument; kept above. -/
theorem own_blockT2 {w w' : World} {base s n : Nat} {e : TypeId} {v : Value} {xs : List Value} (h : w.ownsRow base e s v n xs) (hb : Below w.heap.size w w') : w'.ownsRow base e s v n xs := by
  refine ⟨h.1, ?_⟩
  rcases h.2 with h2 | ⟨g, cap, cur, hv, h3, h4, h5⟩
  · exact .inl h2
  · exact .inr ⟨g, cap, cur, hv, h3, (hb.block g (Array.getElem?_eq_some_iff.1 h4).1).trans h4, h5⟩
theorem arg_own {w : World} {a : Option Addr} {B n c : Nat} {l : List Int} (h : w.ownsRow B 5 1 (.slice a n c) n (l.map (Value.int .u8))) (hB : AllB l) : Arg8c w a n c l := by
  obtain ⟨hbs, hl⟩ := Bs.of_own h
  rcases h.2 with ⟨h0, h1⟩ | ⟨g', cap', cur, hv, hb, hg, h1, h2, _⟩
  · cases h0; exact ⟨⟨hl, hB, hbs, by omega, Nat.zero_le _⟩, fun _ => rfl⟩
  · cases hv; exact ⟨⟨hl, hB, hbs, h1, h2⟩, fun e => by cases e⟩
theorem conv_str (l : List Int) (hB : AllB l) (W : World) : ∃ c W', (convert 9 47 (.string (strOfNums l))).run Try.prog W = .ok (.slice (some ⟨W.heap.size, 0, none⟩) l.length c) W' ∧ Below W.heap.size W W' ∧ Bs W' W'.heap.size (some ⟨W.heap.size, 0, none⟩) l := by
  have hs : (strOfNums l).size = l.length := strOfNums_size l
  refine ⟨grownCap W l.length 0 5, Lib.bytesWorld W 5 (strOfNums l), ?_, ?_, ?_⟩
  · rw [Lib.run_convert_string_bytes W 9 47 5 (strOfNums l) Try.underlying9 Try.underlying47 Try.underlying5, hs]
  · exact ⟨rfl, rfl, rfl, by rw [Lib.bytesWorld_size]; omega, fun k hk => Lib.bytesWorld_at_old W _ _ k hk⟩
  · intro h0
    refine ⟨W.heap.size, 0, rfl, by rw [Lib.bytesWorld_size]; omega, fun i hi => ?_⟩
    rw [Nat.zero_add, Lib.bytesWorld_cell W _ _ i (by rw [hs]; exact hi), strOfNums_data]
    have hx := hB _ (List.getElem_mem hi)
    rw [List.getD_eq_getElem?_getD, List.getElem?_map, List.getElem?_eq_getElem hi, List.getD_eq_getElem?_getD, List.getElem?_eq_getElem hi]
    simp
    omega
theorem str_cut (l : List Int) (i j : Nat) : (strOfNums l).extract i j = strOfNums ((l.take j).drop i) := by
  apply ByteArray.ext
  apply Array.ext'
  rw [ByteArray.data_extract, Array.toList_extract, strOfNums_data, strOfNums_data]
  simp [List.extract_eq_take_drop, List.drop_take]
theorem str_drop (l : List Int) (k : Nat) : (strOfNums l).extract k l.length = strOfNums (l.drop k) := by
  rw [str_cut, List.take_length]
/-- Noughts behind bytes, one by one. -/
theorem zeros_next (l : List Int) (k : Nat) : (l ++ List.replicate k (0 : Int)) ++ [0] = l ++ List.replicate (k + 1) 0 := by
  rw [List.append_assoc, List.replicate_succ']
end Go.Proofs.Ytkfdcdfaikkneaa
