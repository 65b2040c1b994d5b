/- Contracts of package medium as it landed: slices.Clone of sectors, copies, Copy, Cached. -/
import Derived.Test.YtoonaendakjecaaOd
namespace Go.Proofs.Ytoonaendakjecaa
open Go.ChangeShapes Go.WideShapes Go.ChangeAt Go.RowKit Go.Shelf
set_option linter.unusedVariables false
set_option linter.unusedSimpArgs false
set_option maxRecDepth 100000
attribute [local go_sem] Oper.semAt_some

theorem eqlS_some (w : World) (ad : Addr) (n c : Nat) : (binOp .eql 71 (.slice (some ad) n c) (.slice none 0 0)).run Try.prog w = .ok (.bool false) w := rfl
theorem own_emptyS (w : World) : (w.alloc (.cells #[] 77)).ownsRow w.heap.size 77 513 (.slice (some ⟨w.heap.size, 0, none⟩) 0 0) 0 [] :=
  ⟨rfl, .inr ⟨w.heap.size, 0, #[], rfl, Nat.le_refl _, heap_alloc_new w _, Nat.le_refl _, Nat.zero_le _, rfl, rfl⟩⟩
set_option maxHeartbeats 1000000 in
theorem cloneS_any (sb sc n : Nat) (m : Nat → Option (List Int)) (w : World) (hs : SecR w sb n sc m) (h1 : 1 ≤ n) (h2 : n ≤ 2048) :
    Calls Try.prog 32 #[.slice (some ⟨sb, 0, none⟩) n sc] w fun e w' => ∃ g c', e = .returned (.slice (some ⟨g, 0, none⟩) n c') ∧ SecR w' g n c' m ∧ w.heap.size ≤ g ∧ Below w.heap.size w w' := by
  obtain ⟨X, hX⟩ : ∃ X, X = secC n m := ⟨_, rfl⟩
  have hnews : ∀ W, Below w.heap.size w W → ∀ j u, X[j]? = some u → W.cell? ((⟨sb, 0, none⟩ : Addr).add j) = some u := fun W hW j u hj => by
    rw [Addr.add_lit, Nat.zero_add, hW.cell (p := ⟨sb, j, none⟩) hs.lt]
    have hlt : j < n * 513 := by
      rcases Nat.lt_or_ge j (n * 513) with h | h
      · exact h
      · rw [hX, List.getElem?_eq_none (by rw [secC_len]; exact h)] at hj; cases hj
    rw [hs.cell hlt, ← hj, hX, secC_get m hlt]
  have HNW := Lib.hid hnews
  have HCL := Lib.hid (show X.length = n * 513 by rw [hX, secC_len])
  have HCO := Lib.hid (show ∀ u ∈ X, u.oneCell' = true by rw [hX]; exact secC_one n m)
  have HXX := Lib.hid hX
  obtain ⟨iT, hi, hzz⟩ := Option.map_eq_some_iff.1 infoSec
  simp only [Prod.mk.injEq] at hzz
  have HI := Lib.hid (And.intro hi hzz)
  clear hi hzz hnews hs hX
  have he := fun w => eqlS_some w ⟨sb, 0, none⟩ n sc
  go_enter Try.func32, Try.ntmps32
  go_wp2_with ((with_reducible show wpList _ _ _ (⟨some 7, _, _, _, _, _⟩ :: _) _ _); refine wpList_append_own _ rfl (.tmp 5) (.tmp 6) 71 rfl w.heap.size 77 iT (.agg secZ) 513 513 Try.underlying71 HI.out.1 HI.out.2.1 HI.out.2.2.1 HI.out.2.2.2 secZ_size (by decide) _ 0 [] rfl (own_emptyS w) ⟨sb, 0, none⟩ n sc X rfl HCL.out (HNW.out _ ((Below.refl _ _).alloc (Nat.le_refl _) _)) HCO.out (by unfold maxLen; omega) (by omega) (by simp) ?_; intro v1 wc hown1 hg1 _; rw [Nat.zero_add, List.nil_append] at hown1; have hBc := ((Below.refl _ w).alloc (Nat.le_refl _) _).grown hg1 (by simp) (own_block_le _ _ _); have HO := Lib.hid hown1; have HB := Lib.hid hBc; obtain ⟨gg, cg, hv, hgb, -⟩ := hown1.form (by omega); subst hv; clear hown1 hg1 hBc)
  go_ret
  have ho := HO.out
  rw [HXX.out] at ho
  exact ⟨_, _, rfl, SecR.of_own ho, hgb, HB.out⟩

/-! ## copies -/
/-- Rows of bytes, all in new memory. -/
def DRn (w : World) (B : Nat) (Z : List ZW) : Prop := ∀ z, z ∈ Z → z.1.2.length = 512 ∧ AllB z.1.2 ∧ w.ownsRow B 5 1 (.slice z.2.1 512 z.2.2) 512 (z.1.2.map (Value.int .u8))
theorem DRn.kb {w w' : World} {B : Nat} {Z : List ZW} {g : Nat} {T : TypeId} {C : Array Value} {f : Nat × Nat} (h : DRn w B Z) (hk : KB (fun k => k = g) w w') (hg : w.heap[g]? = some (.cells C T f)) (hT : 5 ≠ T) : DRn w' B Z := fun z hz => by
  obtain ⟨h1, h2, h3⟩ := h z hz
  exact ⟨h1, h2, own_blockT h3 (fun k e => hk.2 k (own_lt h3 e).2 (own_ne h3 e hg hT))⟩
theorem DRn.on {w w' : World} {B : Nat} {Z : List ZW} (h : DRn w B Z) (hb : Below w.heap.size w w') : DRn w' B Z := fun z hz => by
  obtain ⟨h1, h2, h3⟩ := h z hz
  exact ⟨h1, h2, own_belowU h3 hb⟩
theorem DRn.dr {w : World} {B : Nat} {Z : List ZW} (h : DRn w B Z) : DR w Z := fun z hz => by
  obtain ⟨h1, h2, h3⟩ := h z hz
  exact ⟨h1, h2, own_low h3 (Nat.zero_le _)⟩
/-- A row of writes, as it is gone through. -/
structure WrR (w : World) (a : Option Addr) (c : Nat) (Z : List ZW) : Prop where
  row : w.ownsRow 0 43 2 (.slice a Z.length c) Z.length (zC Z)
  dat : DR w Z
theorem WrR.on {w w' : World} {a : Option Addr} {c : Nat} {Z : List ZW} (h : WrR w a c Z) (hb : Below w.heap.size w w') : WrR w' a c Z :=
  ⟨own_belowU h.row hb, fun z hz => by obtain ⟨h1, h2, h3⟩ := h.dat z hz; exact ⟨h1, h2, own_belowU h3 hb⟩⟩
theorem WrR.at_ {w : World} {ca : Option Addr} {cc : Nat} {Z : List ZW} (h : WrR w ca cc Z) {k : Nat} {z : ZW} (hz : Z[k]? = some z) :
    ∃ g, ca = some ⟨g, 0, none⟩ ∧ g < w.heap.size ∧ w.cell? ⟨g, k * 2, none⟩ = some (.int .i64 (z.1.1 : Nat)) ∧ w.cell? ⟨g, k * 2 + 1, none⟩ = some (.slice z.2.1 512 z.2.2) := by
  have hk := (List.getElem?_eq_some_iff.1 hz).1
  rcases h.row.2 with ⟨_, h0⟩ | ⟨g, cap, cur, hv, _⟩
  · omega
  · injection hv with h1 h2 h3
    obtain rfl : ca = some ⟨g, 0, none⟩ := h1
    have hr := h.row
    obtain ⟨c0, c1⟩ := zC_get hz
    exact ⟨g, rfl, (own_lt hr rfl).2, by rw [hr.cellAt _ (by omega)]; exact c0, by rw [hr.cellAt _ (by omega)]; exact c1⟩
set_option maxHeartbeats 8000000 in
theorem copies_any (a : Option Addr) (c : Nat) (Z : List ZW) (w : World) (h : WrR w a c Z) (hS : ∀ z, z ∈ Z → z.1.1 ≤ 2048) (hcl : Z.length ≤ 1000) :
    Calls Try.prog 33 #[.slice a Z.length c] w fun e w' => ∃ g c' Z', e = .returned (.slice (some ⟨g, 0, none⟩) Z.length c') ∧ Z'.map Prod.fst = Z.map Prod.fst ∧ w'.ownsRow w.heap.size 43 2 (.slice (some ⟨g, 0, none⟩) Z.length c') Z.length (zC Z') ∧ DRn w' w.heap.size Z' ∧ Below w.heap.size w w' := by
  have HW := Lib.hid h
  have HSZ := Lib.hid hS
  have hcap := cap_le h.row
  obtain ⟨N, hNN⟩ : ∃ N, N = Z.length := ⟨_, rfl⟩
  have HNN := Lib.hid hNN
  rw [← hNN] at hcap hcl ⊢
  obtain ⟨iT, hi, hzz⟩ := Option.map_eq_some_iff.1 infoWr
  simp only [Prod.mk.injEq] at hzz
  obtain ⟨M, hM⟩ : ∃ M, M = madeCells #[.int .i64 0, .slice none 0 0] (N * 2) := ⟨_, rfl⟩
  have hmk : ∀ W : World, (Instr.makeSlice 36 (.int .i64 0) (.int .i64 (N : Nat))).run Try.prog W = .ok (.slice (some ⟨W.heap.size, 0, none⟩) 0 N) (W.alloc (.cells M 43)) := fun W => by
    have h := run_make (P := Try.prog) W 36 43 iT (.agg #[.int .i64 0, .slice none 0 0]) Try.underlying36 hi hzz.1 .i64 .i64 0 (N : Nat) (by omega) (by omega) (by rw [hzz.2.2]; omega) (by omega)
    rw [h, hM, hzz.2.1]
    rfl
  have HIT := Lib.hid (And.intro hi hzz)
  have HM := Lib.hid (show M.size = N * 2 by rw [hM, size_madeCells])
  clear h hS hi hzz hM hNN
  go_enter Try.func33, Try.ntmps33
  go_wp2
  go_loopw [3, 11] (fun v i wr => ∃ (k : Nat) (g cap : Nat) (Z' : List ZW), k ≤ N ∧ i = .int .i64 (k : Nat) ∧ v = .slice (some ⟨g, 0, none⟩) k cap ∧ Z'.map Prod.fst = (Z.map Prod.fst).take k ∧ wr.ownsRow w.heap.size 43 2 (.slice (some ⟨g, 0, none⟩) k cap) k (zC Z') ∧ DRn wr w.heap.size Z' ∧ Below w.heap.size w wr)
    (fun _ i _ => N - (intOf i).toNat)
  case atStart =>
    refine ⟨0, w.heap.size, N, [], Nat.zero_le _, rfl, rfl, by simp, ?_, (fun z hz => by cases hz), (Below.refl _ _).alloc (Nat.le_refl _) _⟩
    exact World.ownsRow_made w M N (Nat.le_refl _) (by unfold maxLen; omega) HM.out
  case round =>
    obtain ⟨k, g, cap, Z', hk, rfl, rfl, hZ, ho, hdr, hb⟩ := hrel
    by_cases hlt : k < N
    · obtain ⟨z, hz⟩ : ∃ z, Z[k]? = some z := ⟨_, List.getElem?_eq_getElem (by rw [← HNN.out]; exact hlt)⟩
      have hwr := HW.out.on hb
      obtain ⟨ga, rfl, hg, hc0, hc1⟩ := hwr.at_ hz
      have hzm := List.mem_of_getElem? hz
      have HNX := Lib.hid (take_nextZ hz)
      have HZ := Lib.hid hZ
      have HO := Lib.hid ho
      have HDR := Lib.hid hdr
      have HB := Lib.hid hb
      have HZD := Lib.hid (hwr.dat z hzm)
      obtain ⟨S, hS⟩ : ∃ S, S = z.1.1 := ⟨_, rfl⟩
      obtain ⟨b, hbb⟩ : ∃ b, b = z.1.2 := ⟨_, rfl⟩
      obtain ⟨da, hda⟩ : ∃ da, da = z.2.1 := ⟨_, rfl⟩
      obtain ⟨dc, hdc⟩ : ∃ dc, dc = z.2.2 := ⟨_, rfl⟩
      have hdcap := cap_le HZD.out.2.2
      rw [← hS] at hc0
      rw [← hda, ← hdc] at hc1
      rw [← hbb, ← hda, ← hdc] at HZD
      rw [← hdc] at hdcap
      have HSB := Lib.hid (And.intro hS hbb)
      have hS2 : S ≤ 2048 := by rw [hS]; exact HSZ.out z hzm
      have q1 : (k : Int) < (N : Int) := by omega
      have q2 : (0 : Int) ≤ (k : Int) := by omega
      clear hz hwr hzm hZ ho hdr hb hS hbb hda hdc
      go_upto_region 5 with fail
      obtain ⟨w1, hw1⟩ : ∃ w1, w1 = wr.alloc (.cells #[.int .i64 (S : Nat), .slice da 512 dc] 43) := ⟨_, rfl⟩
      have hB1 : Below wr.heap.size wr w1 := by rw [hw1]; exact (Below.refl _ _).alloc (Nat.le_refl _) _
      have hblk : w1.heap[wr.heap.size]? = some (.cells #[.int .i64 (S : Nat), .slice da 512 dc] 43 (0, 0)) := by rw [hw1]; exact heap_alloc_new wr _
      have hs1 : w1.heap.size = wr.heap.size + 1 := by rw [hw1]; simp
      have HC := Lib.hid (show ∀ W, Below w1.heap.size w1 W → W.cell? ⟨wr.heap.size, 0, none⟩ = some (.int .i64 (S : Nat)) ∧ W.cell? ⟨wr.heap.size, 1, none⟩ = some (.slice da 512 dc) from fun W hW => by
        have h2 : W.heap[wr.heap.size]? = _ := (hW.block wr.heap.size (by omega)).trans hblk
        exact ⟨by rw [cell_of_row W _ 0 _ _ _ h2]; rfl, by rw [cell_of_row W _ 1 _ _ _ h2]; rfl⟩)
      rw [← hw1]
      have hd0 := (HC.out _ (Below.refl _ _)).1
      have hd1 := (HC.out _ (Below.refl _ _)).2
      have HO1 := Lib.hid (own_belowU HO.out hB1)
      have HZD1 := Lib.hid (own_belowU HZD.out.2.2 hB1)
      have HROW := Lib.hid (show ∀ W, Below w1.heap.size w1 W → W.ownsRow w.heap.size 43 2 (.slice (some ⟨g, 0, none⟩) k cap) k (zC Z') from fun W hW => own_belowU HO1.out hW)
      have HCL := Lib.hid (show ∀ W, Below w1.heap.size w1 W → _ from fun W hW => cloneB_any da 512 dc b W (arg_of_own (own_belowU HZD1.out hW) HZD.out.2.1) (by omega))
      have HW1 := Lib.hid (And.intro hB1 hs1)
      have HBW := Lib.hid (show w.heap.size ≤ w1.heap.size by have := HB.out.size; omega)
      clear hB1 hblk hs1 hw1
      go_region_law (first
        | (refine step_append_lies _ (by rfl) (.tmp 15) (.tmp 22) 36 (by rfl) w.heap.size 43 iT (.agg #[.int .i64 0, .slice none 0 0]) 2 32 Try.underlying36 HIT.out.1 HIT.out.2.1 HIT.out.2.2.1 HIT.out.2.2.2 rfl (by decide) (.slice (some ⟨g, 0, none⟩) k cap) k (zC Z') (by simp [Act.eval, Act.put]) (HROW.out _ (HBa.out.alloc HBa.out.size _)) ⟨w2.heap.size, 0, none⟩ 1 1 [.int .i64 (S : Nat), .slice a1 512 c1] (by simp [Act.eval, Act.put]) rfl (World.news_of_block (heap_alloc_new _ _)) (by simp [Value.oneCell']) (by omega) (by unfold maxLen; omega) (by omega) (by have := HBW.out; have := HBa.out.size; simp; omega) (w2.heap.size + 1) (by simp) ?_; intro g3 cap3 w3 hown3 hgrow3 hat3 hlt3; have HO3 := Lib.hid hown3; have HG3 := Lib.hid hgrow3; have HAT := Lib.hid hat3; have HLT := Lib.hid hlt3; clear hown3 hgrow3 hat3 hlt3)
        | (rw [if_pos (by rfl)]; go_simp; go_at_call 45; go_loud (refine (HCL.out _ (by first | exact Below.refl _ _ | exact (Below.refl _ _).drew)).mono ?_; rintro e w2 ⟨a1, c1, rfl, ho1, ha1, hb1⟩; have HBa := Lib.hid (bt (show Below w1.heap.size w1 _ from by first | exact Below.refl _ _ | exact (Below.refl _ _).drew) hb1); have HOa := Lib.hid ho1; have HAa := Lib.hid ha1; clear ho1 ha1 hb1; have hd2 := (HC.out w2 HBa.out).1)))
      all_goals
        go_wp2_with fail
        go_roundw
        case rel =>
          have hgb : ∀ j, (Value.slice (some ⟨g, 0, none⟩) k cap).ownBlock = some j → w.heap.size ≤ j := fun j e => (own_lt HO.out e).1
          have hga : KB (fun j => j = g) w2 w3 := (KB.of_below ((Below.refl _ w2).alloc (Nat.le_refl _) _)).trans ((KB.of_grown HG3.out).monoF (fun j e => by cases e; rfl))
          have hb2 : Below w.heap.size w w2 := bt (bt HB.out HW1.out.1) HBa.out
          have hb3 : Below w.heap.size w w3 := (hb2.alloc (by have := HBW.out; have := HBa.out.size; omega) _).grown HG3.out (by have := HBW.out; have := HBa.out.size; simp; omega) hgb
          obtain ⟨C, hgC⟩ := own_heap (HROW.out w2 HBa.out) rfl
          have hdr2 : DRn w2 w.heap.size Z' := (HDR.out.on HW1.out.1).on HBa.out
          have hlo : ∀ j, (Value.slice a1 512 c1).ownBlock = some j → w1.heap.size ≤ j ∧ j < w2.heap.size := fun j e => own_lt HOa.out e
          refine ⟨k + 1, g3, cap3, Z' ++ [((S, b), (a1, c1))], by omega, by go_num, by go_num, ?_, ?_, ?_, hb3⟩
          · rw [List.map_append, HZ.out, HNX.out, HSB.out.1, HSB.out.2]; rfl
          · rw [zC_append, zC_one]; exact HO3.out
          · intro y hy
            rcases List.mem_append.1 hy with hy | hy
            · exact (hdr2.kb hga hgC (by decide)) y hy
            · rw [List.mem_singleton.1 hy]
              exact ⟨HZD.out.1, HZD.out.2.1, own_low (own_blockT HOa.out (fun j e => hga.2 j (hlo j e).2 (own_ne HOa.out e hgC (by decide)))) (show w.heap.size ≤ w1.heap.size from HBW.out)⟩
        case measure => simp [intOf]; omega
    · obtain rfl : k = N := by omega
      have HZ := Lib.hid hZ
      have HO := Lib.hid ho
      have HDR := Lib.hid hdr
      have HB := Lib.hid hb
      clear hZ ho hdr hb
      go_wp2
      go_ret
      exact ⟨g, cap, Z', rfl, by rw [HZ.out]; exact List.take_of_length_le (by rw [List.length_map, HNN.out]; exact Nat.le_refl _), HO.out, HDR.out, HB.out⟩
end Go.Proofs.Ytoonaendakjecaa
