/- The contract of stream.blocks. -/
import Derived.Test.YtpfhfnhbholboaaNc
namespace Go.Proofs.Ytpfhfnhbholboaa
open Go.ChangeShapes Go.WideShapes Go.ChangeAt Go.RowKit
set_option linter.unusedVariables false
set_option maxRecDepth 100000

theorem own_room (w : World) (n : Nat) (h : n ≤ maxLen) : (w.alloc (.cells (madeCells #[.int .u8 0] n) 5)).ownsRow w.heap.size 5 1 (.slice (some ⟨w.heap.size, 0, none⟩) 0 n) 0 (([] : List Int).map (Value.int .u8)) := by
  refine ⟨by simp, .inr ⟨w.heap.size, n, madeCells #[.int .u8 0] n, rfl, Nat.le_refl _, heap_alloc_new w _, by omega, h, ?_, by simp⟩⟩
  · simp [size_madeCells]
set_option maxHeartbeats 2000000 in
theorem blocks_ok (b : Nat) (K : List Int) (a : Option Addr) (cap : Nat) (N : List Int) (c n M : Nat) (w : World) (h : CipK w b K) (hk : K.length = 16 ∨ K.length = 32) (hK : AllB K) (hN : Arg8 w a 8 cap N)
    (hc : c ≤ 67108864) (hn : n ≤ 1048592) (hM1 : n ≤ 16 * M) (hM2 : 16 * M < n + 16) :
    Calls Try.prog 39 #[.pointer (some ⟨b, 0, none⟩), .slice a (8 : Nat) cap, .int .i64 (c : Nat), .int .i64 (n : Nat)] w fun e w' =>
      e = .returned (.tuple #[.slice (some ⟨w.heap.size, 0, none⟩) (16 * M) (n + 16), .int .i64 0]) ∧
      w'.ownsRow w.heap.size 5 1 (.slice (some ⟨w.heap.size, 0, none⟩) (16 * M) (n + 16)) (16 * M) ((blks (strf K N) c M).map (Value.int .u8)) ∧ Below w.heap.size w w' := by
  have hmk : ∀ W : World, (Instr.makeSlice 22 (.int .i64 0) (.int .i64 ((n : Int) + 16))).run Try.prog W = .ok (.slice (some ⟨W.heap.size, 0, none⟩) 0 (n + 16)) (W.alloc (.cells (madeCells #[.int .u8 0] (n + 16)) 5)) := by
    intro W
    obtain ⟨i, hi, hz0, hz1, hz2⟩ := info_parts info5
    have := run_make (P := Try.prog) W 22 5 i _ Try.underlying22 hi hz0 .i64 .i64 0 ((n : Int) + 16) (by omega) (by omega) (by rw [hz2]; omega) (by omega)
    rw [this, hz1]
    have e1 : ((n : Int) + 16).toNat = n + 16 := by omega
    rw [e1]; simp
    rfl
  have HO := Lib.hid (own_room w (n + 16) (by unfold maxLen; omega))
  have HB0 := Lib.hid (show Below w.heap.size w (w.alloc (.cells (madeCells #[.int .u8 0] (n + 16)) 5)) from (Below.refl _ _).alloc (Nat.le_refl _) _)
  have HC := Lib.hid h
  have HN := Lib.hid hN
  have HK := Lib.hid hk
  have HKB := Lib.hid hK
  have HNL := Lib.hid (show N.length = 8 from hN.1)
  have HNB := Lib.hid (show AllB N from hN.2.1)
  clear h hk hK hN
  go_enter Try.func39, Try.ntmps39
  go_wp2_with fail
  go_loopw [2, 10] (fun ct out wr => ∃ m : Nat, m ≤ M ∧ ct = .int .i64 ((c + m : Nat) : Int) ∧ out = .slice (some ⟨w.heap.size, 0, none⟩) (16 * m) (n + 16) ∧
      wr.ownsRow w.heap.size 5 1 (.slice (some ⟨w.heap.size, 0, none⟩) (16 * m) (n + 16)) (16 * m) ((blks (strf K N) c m).map (Value.int .u8)) ∧ Below w.heap.size w wr)
    (fun ct _ _ => c + M - (intOf ct).toNat)
  case atStart => exact ⟨0, Nat.zero_le _, rfl, rfl, HO.out, HB0.out⟩
  case round =>
    obtain ⟨m, hm, rfl, rfl, hown, hbel⟩ := hrel
    rename World => wr
    clear hmk
    have HOW := Lib.hid hown
    have HBW := Lib.hid hbel
    clear hown hbel HO HB0
    by_cases hlt : m < M
    · have HNR := Lib.hid (HN.out.on HBW.out)
      have HNS := Lib.hid (show Bs wr wr.heap.size a N from HNR.out.2.2.1)
      have HCR := Lib.hid (HC.out.on HBW.out)
      have q1 : (16 * (m : Int)) < (n : Int) := by omega
      have q2 : 0 ≤ (c : Int) + (m : Int) := by omega
      have q3 : (c : Int) + (m : Int) ≤ 134217728 := by omega
      have HWF := Lib.hid (show (Lit.int .u64 ((c : Int) + (m : Int))).wf = true by simp [Lit.wf, IntKind.min, IntKind.max, IntKind.signed, IntKind.bits]; omega)
      have HBE := Lib.hid (show be 8 ((c : Int) + (m : Int)) = be 8 ((c + m : Nat) : Int) by rw [Int.natCast_add])
      go_wp2_with (first
        | (go_at_call 56; go_loud ((with_reducible refine (put64 a 8 cap N wr HNL.out HNS.out (by omega) _ HWF.out).mono ?_); rintro e w1 ⟨g1, rfl, ho, hb⟩; rw [HBE.out] at ho; have HA1 := Lib.hid (show Arg8 w1 (some ⟨g1, 0, none⟩) 16 16 (N ++ be 8 ((c + m : Nat) : Int)) from Arg8.own ho (fun x hx => (List.mem_append.1 hx).elim (HNB.out x) (allB_be _ _ x)) ⟨Nat.le_refl _, by unfold maxLen; omega⟩); have HO1 := Lib.hid (own_belowK HOW.out hb); have HC1 := Lib.hid (HCR.out.on hb); have HB1 := Lib.hid (bt HBW.out hb); clear ho hb))
        | (go_at_call 13; (with_reducible refine (enc_arg b K (some ⟨g1, 0, none⟩) 16 _ w1 HC1.out HK.out HKB.out HA1.out).mono ?_); rintro e w2 ⟨g2, rfl, ho, hb⟩; have HE2 := Lib.hid (show w2.ownsRow w1.heap.size 5 1 (.slice (some ⟨g2, 0, none⟩) 16 16) 16 ((strf K N (c + m)).map (Value.int .u8)) from ho); have HO2 := Lib.hid (own_belowK HO1.out hb); have HB2 := Lib.hid (bt HB1.out hb); clear ho hb; have HN1 := Lib.hid (show ∀ j u, ((strf K N (c + m)).map (Value.int .u8))[j]? = some u → w2.cell? ((⟨g2, 0, none⟩ : Addr).add j) = some u from fun j u hj => by (obtain ⟨hj1, rfl⟩ := getElem?_map_u8 hj; rw [Addr.add_lit]; exact own_cells HE2.out j (by rw [strf_len] at hj1; exact hj1))); obtain ⟨i5, hi, hz0, hz1, hz2⟩ := info_parts info5; have HI := Lib.hid hi; have HZ := Lib.hid hz1; clear hi hz0 hz1 hz2)
        | ((with_reducible show wpList _ _ _ (⟨some 34, _, _, _, _, _⟩ :: _) _ _); go_loud (refine wpList_append_fits (o := ⟨some 34, _, _, _, _, _⟩) _ rfl (.tmp 32) (.tmp 33) 22 rfl w.heap.size 5 i5 1 Try.underlying22 HI.out HZ.out w.heap.size (16 * m) (n + 16) _ rfl HO2.out ⟨g2, 0, none⟩ 16 16 ((strf K N (c + m)).map (Value.int .u8)) rfl (by rw [List.length_map, strf_len]) HN1.out (ints_oneCell _ _) (by omega) ?_); intro w3 ho3 hg3; have HO3 := Lib.hid ho3; have HG3 := Lib.hid hg3; clear ho3 hg3))
      go_roundw
      case rel =>
        refine ⟨m + 1, by omega, by go_num, by rw [show 16 * (m + 1) = 16 * m + 16 by omega], ?_, ?_⟩
        · rw [show 16 * (m + 1) = 16 * m + 16 by omega, blks, List.map_append]
          exact HO3.out
        · exact HB2.out.grown HG3.out (by have := HB2.out.size; omega) (fun g hg => by injection hg with hg; omega)
      case measure => simp [intOf]; omega
    · obtain rfl : m = M := by omega
      have q1 : ¬ (16 * (m : Int)) < (n : Int) := by omega
      go_wp2
      go_ret2
      exact ⟨rfl, HOW.out, HBW.out⟩
end Go.Proofs.Ytpfhfnhbholboaa
