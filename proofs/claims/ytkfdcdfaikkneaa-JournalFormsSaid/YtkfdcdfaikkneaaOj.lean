/- Contract of package medium as it landed: Snapshot. -/
import Derived.Test.YtkfdcdfaikkneaaOc
import Derived.Test.YtkfdcdfaikkneaaPut
namespace Go.Proofs.Ytkfdcdfaikkneaa
open Go.ChangeShapes Go.WideShapes Go.ChangeAt Go.RowKit Go.Shelf
set_option linter.unusedVariables false
set_option linter.unusedSimpArgs false
set_option maxRecDepth 100000
attribute [local go_sem] Oper.semAt_some

def medS (S : MS) (k : Nat) : List Int := (List.range k).flatMap fun i => medL (S.med i)
def lostI (o : Option (List Int)) : Int := if o.isNone then 1 else 0
theorem medL_cut (o : Option (List Int)) : medL o = lostI o :: o.getD zsec := by cases o <;> rfl
theorem medS_next (S : MS) (k : Nat) : medS S (k + 1) = medS S k ++ [lostI (S.med k)] ++ (S.med k).getD zsec := by
  unfold medS
  rw [List.range_succ, List.flatMap_append, List.append_assoc]
  simp [medL_cut]
theorem getD_ok {S : MS} (h : S.Ok) (i : Nat) : secOk ((S.med i).getD zsec) := by
  cases e : S.med i with
  | none => exact zsec_ok
  | some b => exact h.med i b e
theorem medS_len {S : MS} (h : S.Ok) (k : Nat) : (medS S k).length = k * 513 := by
  induction k with
  | zero => simp [medS]
  | succ k ih => rw [medS_next, List.length_append, List.length_append, ih, (getD_ok h k).1, List.length_singleton]; omega
theorem SecR.bs {w : World} {sb n sc i : Nat} {m : Nat → Option (List Int)} (h : SecR w sb n sc m) (hi : i < n) (hl : ((m i).getD zsec).length = 512) : Bs w w.heap.size (some ⟨sb, i * 513 + 1, none⟩) ((m i).getD zsec) := fun h0 =>
  ⟨sb, i * 513 + 1, rfl, h.lt, fun k hk => by rw [h.cell (by omega), secF_data _ _ _ (by omega)]⟩
theorem be2 {x : Nat} (h : x < 65536) : be 2 (x : Int) = [((x / 256 : Nat) : Int), ((x % 256 : Nat) : Int)] := by
  show [(x : Int) / 2 ^ (8 * (2 - 1 - 0)) % 256, (x : Int) / 2 ^ (8 * (2 - 1 - 1)) % 256] = _
  have h1 : (x : Int) / 2 ^ (8 * (2 - 1 - 0)) % 256 = ((x / 256 : Nat) : Int) := by
    show (x : Int) / 256 % 256 = _
    omega
  have h2 : (x : Int) / 2 ^ (8 * (2 - 1 - 1)) % 256 = ((x % 256 : Nat) : Int) := by
    show (x : Int) / 1 % 256 = _
    omega
  rw [h1, h2]
def cacS (C : List CW) (k : Nat) : List Int := (C.take k).flatMap cacL
theorem cacS_next {Z : List ZW} {k : Nat} {z : ZW} (hz : Z[k]? = some z) (h : z.1.1 < 65536) : cacS (Z.map Prod.fst) (k + 1) = cacS (Z.map Prod.fst) k ++ be 2 (z.1.1 : Int) ++ z.1.2 := by
  unfold cacS
  rw [take_nextZ hz, List.flatMap_append, be2 h, List.append_assoc]
  simp [cacL]
theorem cacS_len {Z : List ZW} (h : ∀ z, z ∈ Z → z.1.2.length = 512) (k : Nat) (hk : k ≤ Z.length) : (cacS (Z.map Prod.fst) k).length = k * 514 := by
  unfold cacS
  rw [flatMap_len _ 514, List.length_take, List.length_map, Nat.min_eq_left hk]
  intro x hx
  obtain ⟨z, hz, rfl⟩ := List.mem_map.1 (List.mem_of_mem_take hx)
  simp [cacL, h z hz]
set_option maxHeartbeats 8000000 in
theorem snap_any (tb : Nat) (F : Nat → Prop) (S : MS) (pp : Option Nat) (w : World) (hR : MedR w tb F S pp) (hS : S.Ok) (hcl : S.cache.length ≤ 1000) :
    Calls Try.prog 20 #[tbV tb] w fun e w' => ∃ a c, e = .returned (.slice a (snapM S).length c) ∧ Arg8c w' a (snapM S).length c (snapM S) ∧ NewA w a (snapM S).length ∧ Below w.heap.size w w' := by
  obtain ⟨sb, sc, ca, cc, Z, h, hF⟩ := hR
  have hzl := h.len
  have hs2 := hS.size2
  obtain ⟨n, hn⟩ : ∃ n, n = S.size := ⟨_, rfl⟩
  obtain ⟨N, hN⟩ : ∃ N, N = Z.length := ⟨_, rfl⟩
  have hN1 : N ≤ 1000 := by omega
  have hcap := cap_le h.row
  have hc0 : ∀ W, Below w.heap.size w W → W.cell? ⟨tb, 0, none⟩ = some (.slice (some ⟨sb, 0, none⟩) n sc) := fun W hW => by rw [hn]; exact (h.on hW).md.c0
  have hc1 : ∀ W, Below w.heap.size w W → W.cell? ⟨tb, 1, none⟩ = some (.slice ca N cc) := fun W hW => by rw [hN]; exact (h.on hW).md.c1
  have HC0 := Lib.hid hc0
  have HC1 := Lib.hid hc1
  have HX := Lib.hid h
  have HS := Lib.hid hS
  have HSM := Lib.hid (show ∀ z, z ∈ Z → z.1.1 < 65536 from fun z hz => by
    have := (hS.cache z.1 (by rw [h.cache]; exact List.mem_map_of_mem hz)).1
    have := hS.size2
    omega)
  have HNS := Lib.hid hn
  have HN := Lib.hid hN
  obtain ⟨i5, hi5, hz5⟩ := Option.map_eq_some_iff.1 info5
  simp only [Prod.mk.injEq] at hz5
  obtain ⟨M, hM⟩ : ∃ M, M = madeCells #[.int .u8 0] (n * 513 + N * 514) := ⟨_, rfl⟩
  have hmk : ∀ W : World, (Instr.makeSlice 47 (.int .i64 0) (.int .i64 ((n : Int) * 513 + (N : Int) * 514))).run Try.prog W = .ok (.slice (some ⟨W.heap.size, 0, none⟩) 0 (n * 513 + N * 514)) (W.alloc (.cells M 5)) := fun W => by
    have h := run_make (P := Try.prog) W 47 5 i5 (.int .u8 0) Try.underlying47 hi5 hz5.1 .i64 .i64 0 ((n * 513 + N * 514 : Nat) : Int) (by omega) (by omega) (by rw [hz5.2.2]; omega) (by omega)
    rw [show (n : Int) * 513 + (N : Int) * 514 = ((n * 513 + N * 514 : Nat) : Int) by omega, h, hM, hz5.2.1, Nat.mul_one]
    rfl
  have HI := Lib.hid (And.intro hi5 hz5)
  have HM := Lib.hid (show M.size = (n * 513 + N * 514) * 1 by rw [hM, size_madeCells]; omega)
  rw [← hN] at hcap
  rw [← hn] at hs2
  clear h hF hS hzl hcl hi5 hz5 hM hN hn
  have kw1 : ∀ [Inhabited Unit], IntKind.i64.wrap ((n : Int) * 513) = (n : Int) * 513 := by intro _; rw [IntKind.wrap_i64]; omega
  have kw2 : ∀ [Inhabited Unit], IntKind.i64.wrap ((N : Int) * 514) = (N : Int) * 514 := by intro _; rw [IntKind.wrap_i64]; omega
  have kw3 : ∀ [Inhabited Unit], IntKind.i64.wrap ((n : Int) * 513 + (N : Int) * 514) = (n : Int) * 513 + (N : Int) * 514 := by intro _; rw [IntKind.wrap_i64]; omega
  go_enter Try.func20, Try.ntmps20
  go_upto_region 3 with fail
  go_region_held (fun W => Below w.heap.size w W) (first | assumption | exact (Below.refl _ _).drew | (refine Below.drew ?_; assumption) | exact ((Below.refl _ _).drew).alloc (Nat.le_refl _) _) (fail)
  have hO0 : (w.alloc (.cells M 5)).drew.ownsRow w.heap.size 5 1 (.slice (some ⟨w.heap.size, 0, none⟩) 0 (n * 513 + N * 514)) 0 (([] : List Int).map (Value.int .u8)) := World.ownsRow_made w M (n * 513 + N * 514) (Nat.le_refl _) (by unfold maxLen; omega) HM.out
  have hB0 : Below w.heap.size w (w.alloc (.cells M 5)).drew := ((Below.refl _ _).alloc (Nat.le_refl _) _).drew
  obtain ⟨w0, hw0⟩ : ∃ w0, w0 = (w.alloc (.cells M 5)).drew := ⟨_, rfl⟩
  rw [← hw0] at hO0 hB0 ⊢
  have HO0 := Lib.hid hO0
  have HB0 := Lib.hid hB0
  have hd0 := HC0.out w0 hB0
  clear kw1 kw2 kw3 hmk hw0 hO0 hB0 hc0 hc1
  go_wp2_with fail
  go_loopw [3, 29] (fun v i wr => ∃ (k m : Nat) (oa : Option Addr) (oc : Nat), k ≤ n ∧ i = .int .i64 (k : Nat) ∧ m = k * 513 ∧ v = .slice oa m oc ∧ wr.ownsRow w.heap.size 5 1 (.slice oa m oc) m ((medS S k).map (Value.int .u8)) ∧ Below w.heap.size w wr)
    (fun _ i _ => n - (intOf i).toNat)
  case atStart => exact ⟨0, 0, _, _, Nat.zero_le _, rfl, rfl, rfl, HO0.out, HB0.out⟩
  case round =>
    obtain ⟨k, m, oa, oc, hk, rfl, hm, rfl, ho, hB⟩ := hrel
    by_cases hlt : k < n
    · have hx := HX.out.on hB
      have hd0 := hx.md.c0
      rw [← HNS.out] at hd0
      have hcl0 : wr.cell? ⟨sb, k * 513, none⟩ = some (.bool (S.med k).isNone) := by rw [hx.sec.cell (by have := HNS.out; omega), secF_head]
      obtain ⟨lo, hlo⟩ : ∃ lo, lo = lostI (S.med k) := ⟨_, rfl⟩
      obtain ⟨D, hD⟩ : ∃ D, D = (S.med k).getD zsec := ⟨_, rfl⟩
      have hD5 : D.length = 512 := by rw [hD]; exact (getD_ok HS.out k).1
      have HNX := Lib.hid (medS_next S k)
      rw [← hlo, ← hD] at HNX
      have HBS := Lib.hid (show ∀ W, Below w.heap.size w W → Bs W W.heap.size (some ⟨sb, k * 513 + 1, none⟩) D ∧ W.cell? ⟨tb, 0, none⟩ = some (.slice (some ⟨sb, 0, none⟩) n sc) from fun W hW => ⟨by rw [hD]; exact (HX.out.on hW).sec.bs (by have := HNS.out; omega) (getD_ok HS.out k).1, HC0.out W hW⟩)
      have HO := Lib.hid ho
      have HB := Lib.hid hB
      have HM5 := Lib.hid hm
      have q1 : (k : Int) < (n : Int) := by omega
      have q2 : (0 : Int) ≤ (k : Int) := by omega
      have hal := arrLen75
      have hmb : m ≤ 1050624 := by omega
      have HBL := Lib.hid (show Below wr.heap.size wr (wr.alloc (.cells #[.int .u8 lo] 5)) from (Below.refl _ _).alloc (Nat.le_refl _) _)
      have HSRC := Lib.hid (show Bs (wr.alloc (.cells #[.int .u8 lo] 5)) (wr.heap.size + 1) (some ⟨wr.heap.size, 0, none⟩) [lo] from fun h0 => ⟨wr.heap.size, 0, rfl, by omega, fun j hj => by
        obtain rfl : j = 0 := by simp at hj; omega
        rw [cell_of_row _ _ _ _ _ _ (heap_alloc_new wr _)]; rfl⟩)
      cases hmn : S.med k with
      | none =>
        obtain rfl : lo = 1 := by rw [hlo, hmn]; rfl
        rw [hmn] at hcl0
        clear hx ho hB hm hlo hD hmn
        go_wp2_with (first
          | ((with_reducible show wpList _ _ _ (⟨some 43, _, _, _, _, _⟩ :: _) _ _); go_loud (refine wpList_append_bs _ rfl (.tmp 40) (.tmp 42) 47 rfl w.heap.size 5 i5 Try.underlying47 HI.out.1 HI.out.2.1 HI.out.2.2.1 HI.out.2.2.2 _ m (medS S k) rfl (own_belowU HO.out HBL.out) (some ⟨wr.heap.size, 0, none⟩) 1 1 (wr.heap.size + 1) [1] rfl HSRC.out rfl (by simp) (by omega) (by have := HB.out.size; simp; omega) ?_; intro v2 w2 hown2 hg2; have hb2 : Below w.heap.size w w2 := (bt HB.out HBL.out).grown hg2 (by have := HB.out.size; simp; omega) (fun j e => (own_lt HO.out e).1); have hd2 := (HBS.out w2 hb2).2; have HO2 := Lib.hid hown2; have HB2 := Lib.hid hb2; obtain ⟨a2, c2, hv2, -⟩ := own_form hown2; subst hv2; clear hown2 hg2 hb2))
          | ((with_reducible show wpList _ _ _ (⟨some 53, _, _, _, _, _⟩ :: _) _ _); go_loud (refine wpList_append_bs _ rfl (.tmp 44) (.tmp 52) 47 rfl w.heap.size 5 i5 Try.underlying47 HI.out.1 HI.out.2.1 HI.out.2.2.1 HI.out.2.2.2 _ (m + 1) (medS S k ++ [1]) rfl HO2.out (some ⟨sb, k * 513 + 1, none⟩) 512 512 w2.heap.size D rfl (HBS.out w2 HB2.out).1 hD5 (by simp) (by omega) HB2.out.size ?_; intro v3 w3 hown3 hg3; have hb3 : Below w.heap.size w w3 := HB2.out.grown hg3 HB2.out.size (fun j e => (own_lt HO2.out e).1); have HO3 := Lib.hid hown3; have HB3 := Lib.hid hb3; obtain ⟨a3, c3, hv3, -⟩ := own_form hown3; subst hv3; clear hown3 hg3 hb3)))
        go_roundw
        case rel => exact ⟨k + 1, m + 1 + 512, a3, c3, by omega, by go_num, by have := HM5.out; omega, by go_num, by rw [HNX.out]; exact HO3.out, HB3.out⟩
        case measure => simp [intOf]; omega
      | some b =>
        obtain rfl : lo = 0 := by rw [hlo, hmn]; rfl
        rw [hmn] at hcl0
        clear hx ho hB hm hlo hD hmn
        go_wp2_with (first
          | ((with_reducible show wpList _ _ _ (⟨some 43, _, _, _, _, _⟩ :: _) _ _); go_loud (refine wpList_append_bs _ rfl (.tmp 40) (.tmp 42) 47 rfl w.heap.size 5 i5 Try.underlying47 HI.out.1 HI.out.2.1 HI.out.2.2.1 HI.out.2.2.2 _ m (medS S k) rfl (own_belowU HO.out HBL.out) (some ⟨wr.heap.size, 0, none⟩) 1 1 (wr.heap.size + 1) [0] rfl HSRC.out rfl (by simp) (by omega) (by have := HB.out.size; simp; omega) ?_; intro v2 w2 hown2 hg2; have hb2 : Below w.heap.size w w2 := (bt HB.out HBL.out).grown hg2 (by have := HB.out.size; simp; omega) (fun j e => (own_lt HO.out e).1); have hd2 := (HBS.out w2 hb2).2; have HO2 := Lib.hid hown2; have HB2 := Lib.hid hb2; obtain ⟨a2, c2, hv2, -⟩ := own_form hown2; subst hv2; clear hown2 hg2 hb2))
          | ((with_reducible show wpList _ _ _ (⟨some 53, _, _, _, _, _⟩ :: _) _ _); go_loud (refine wpList_append_bs _ rfl (.tmp 44) (.tmp 52) 47 rfl w.heap.size 5 i5 Try.underlying47 HI.out.1 HI.out.2.1 HI.out.2.2.1 HI.out.2.2.2 _ (m + 1) (medS S k ++ [0]) rfl HO2.out (some ⟨sb, k * 513 + 1, none⟩) 512 512 w2.heap.size D rfl (HBS.out w2 HB2.out).1 hD5 (by simp) (by omega) HB2.out.size ?_; intro v3 w3 hown3 hg3; have hb3 : Below w.heap.size w w3 := HB2.out.grown hg3 HB2.out.size (fun j e => (own_lt HO2.out e).1); have HO3 := Lib.hid hown3; have HB3 := Lib.hid hb3; obtain ⟨a3, c3, hv3, -⟩ := own_form hown3; subst hv3; clear hown3 hg3 hb3)))
        go_roundw
        case rel => exact ⟨k + 1, m + 1 + 512, a3, c3, by omega, by go_num, by have := HM5.out; omega, by go_num, by rw [HNX.out]; exact HO3.out, HB3.out⟩
        case measure => simp [intOf]; omega
    · obtain rfl : k = n := by omega
      have hd1 := HC1.out wr hB
      have HO := Lib.hid ho
      have HB := Lib.hid hB
      have HM5 := Lib.hid hm
      have hmb : m ≤ 1050624 := by omega
      clear ho hB hm
      go_wp2_with fail
      go_loopw [3, 60] (fun v i wr => ∃ (q p : Nat) (oa : Option Addr) (oc : Nat), q ≤ N ∧ i = .int .i64 (q : Nat) ∧ p = m + q * 514 ∧ v = .slice oa p oc ∧ wr.ownsRow w.heap.size 5 1 (.slice oa p oc) p ((medS S k ++ cacS S.cache q).map (Value.int .u8)) ∧ Below w.heap.size w wr)
        (fun _ i _ => N - (intOf i).toNat)
      case atStart => exact ⟨0, m, _, _, Nat.zero_le _, rfl, by omega, rfl, by rw [show cacS S.cache 0 = [] from rfl, List.append_nil]; exact HO.out, HB.out⟩
      case round =>
        obtain ⟨q, p, oa2, oc2, hq, rfl, hp, rfl, ho, hB⟩ := hrel
        by_cases hltq : q < N
        · obtain ⟨z, hz⟩ : ∃ z, Z[q]? = some z := ⟨_, List.getElem?_eq_getElem (by rw [← HN.out]; exact hltq)⟩
          have hx := HX.out.on hB
          obtain ⟨g, rfl, hg, he0, he1⟩ := hx.at_ hz
          have hzm := List.mem_of_getElem? hz
          have hsm := HSM.out z hzm
          have HNX := Lib.hid (cacS_next hz hsm)
          rw [← HX.out.cache] at HNX
          have hdz := hx.dat z hzm
          have hdcap := cap_le hdz.2.2
          obtain ⟨SS, hSS⟩ : ∃ SS, SS = z.1.1 := ⟨_, rfl⟩
          obtain ⟨b, hb⟩ : ∃ b, b = z.1.2 := ⟨_, rfl⟩
          obtain ⟨da, hda⟩ : ∃ da, da = z.2.1 := ⟨_, rfl⟩
          obtain ⟨dc, hdc⟩ : ∃ dc, dc = z.2.2 := ⟨_, rfl⟩
          rw [← hSS] at he0 hsm HNX
          rw [← hda, ← hdc] at he1
          rw [← hb] at HNX
          rw [← hdc] at hdcap
          rw [← hb, ← hda, ← hdc] at hdz
          have HDZ := Lib.hid hdz
          have hb5 : b.length = 512 := hdz.1
          have HBL := Lib.hid (show Below wr.heap.size wr (wr.alloc (.cells #[.int .i64 (SS : Nat), .slice da 512 dc] 86)) from (Below.refl _ _).alloc (Nat.le_refl _) _)
          have HCE := Lib.hid (show ∀ W : World, W.heap[wr.heap.size]? = some (.cells #[.int .i64 (SS : Nat), .slice da 512 dc] 86 (0, 0)) → W.cell? ⟨wr.heap.size, 0, none⟩ = some (.int .i64 (SS : Nat)) ∧ W.cell? ⟨wr.heap.size, 1, none⟩ = some (.slice da 512 dc) from fun W h2 => ⟨(cell_of_row W _ 0 _ _ _ h2).trans rfl, (cell_of_row W _ 1 _ _ _ h2).trans rfl⟩)
          have HKW := Lib.hid (heap_alloc_new wr (.cells #[.int .i64 (SS : Nat), .slice da 512 dc] 86))
          have HDW := Lib.hid (show ∀ W, Below w.heap.size w W → Arg8c W da 512 dc b from fun W hW => by
            obtain ⟨d1, d2, d3⟩ := (HX.out.on hW).dat z hzm
            rw [hb, hda, hdc]; exact arg_of_own d3 d2)
          have HPUT := Lib.hid (put16 none 0 0 [] (wr.alloc (.cells #[.int .i64 (SS : Nat), .slice da 512 dc] 86)) rfl (Bs.nil _ _ _) (by omega) (SS : Int) (by simp [Lit.wf, IntKind.min, IntKind.max, IntKind.signed, IntKind.bits]; omega))
          have HO := Lib.hid ho
          have HB := Lib.hid hB
          have HP := Lib.hid hp
          have HLB := Lib.hid (length_be 2 (SS : Int))
          have q1 : (q : Int) < (N : Int) := by omega
          have q2 : (0 : Int) ≤ (q : Int) := by omega
          have q3 : (0 : Int) ≤ (SS : Int) := by omega
          have q4 : (SS : Int) < 65536 := by omega
          have hpb : p ≤ 1600000 := by omega
          clear hz hx hzm hdz hSS hb hda hdc ho hB hp hd1 hd0
          go_wp2_with (first
            | (go_at_call 38; go_loud (refine HPUT.out.mono ?_; rintro e w1 ⟨g1, rfl, ho1, hb1⟩; rw [Nat.zero_add, List.nil_append] at ho1; have HO1 := Lib.hid ho1; have HB1 := Lib.hid hb1; clear ho1 hb1))
            | ((with_reducible show wpList _ _ _ (⟨some 69, _, _, _, _, _⟩ :: _) _ _); go_loud (refine wpList_append_bs _ rfl (.tmp 64) (.tmp 68) 47 rfl w.heap.size 5 i5 Try.underlying47 HI.out.1 HI.out.2.1 HI.out.2.2.1 HI.out.2.2.2 _ p (medS S k ++ cacS S.cache q) rfl (own_belowU (own_belowU HO.out HBL.out) HB1.out) (some ⟨g1, 0, none⟩) 2 2 w1.heap.size (be 2 (SS : Int)) rfl (Bs.of_own HO1.out).1 HLB.out (by simp) (by omega) (by have := HB.out.size; have := HBL.out.size; have := HB1.out.size; omega) ?_; intro v2 w2 hown2 hg2; have hb2 : Below w.heap.size w w2 := (bt (bt HB.out HBL.out) HB1.out).grown hg2 (by have := HB.out.size; have := HBL.out.size; have := HB1.out.size; omega) (fun j e => (own_lt HO.out e).1); have hk1 : w1.heap[wr.heap.size]? = some (.cells #[.int .i64 (SS : Nat), .slice da 512 dc] 86 (0, 0)) := (HB1.out.block wr.heap.size (by simp)).trans HKW.out; have hce := HCE.out w2 ((hg2.block wr.heap.size (blk_lt hk1) (fun e => own_ne (own_belowU (own_belowU HO.out HBL.out) HB1.out) e.symm hk1 (by decide) rfl)).trans hk1); have hce0 := hce.1; have hce1 := hce.2; clear hce hk1; have HO2 := Lib.hid hown2; have HB2 := Lib.hid hb2; obtain ⟨a2, c2, hv2, -⟩ := own_form hown2; subst hv2; clear hown2 hg2 hb2))
            | ((with_reducible show wpList _ _ _ (⟨some 73, _, _, _, _, _⟩ :: _) _ _); go_loud (refine wpList_append_bs _ rfl (.tmp 70) (.tmp 72) 47 rfl w.heap.size 5 i5 Try.underlying47 HI.out.1 HI.out.2.1 HI.out.2.2.1 HI.out.2.2.2 _ (p + 2) ((medS S k ++ cacS S.cache q) ++ be 2 (SS : Int)) rfl HO2.out da 512 dc w2.heap.size b rfl (HDW.out w2 HB2.out).1.2.2.1 hb5 (HDW.out w2 HB2.out).2 (by omega) HB2.out.size ?_; intro v3 w3 hown3 hg3; have hb3 : Below w.heap.size w w3 := HB2.out.grown hg3 HB2.out.size (fun j e => (own_lt HO2.out e).1); have HO3 := Lib.hid hown3; have HB3 := Lib.hid hb3; obtain ⟨a3, c3, hv3, -⟩ := own_form hown3; subst hv3; clear hown3 hg3 hb3)))
          go_roundw
          case rel => exact ⟨q + 1, p + 2 + 512, a3, c3, by omega, by go_num, by have := HP.out; omega, by go_num, by rw [HNX.out, ← List.append_assoc, ← List.append_assoc]; exact HO3.out, HB3.out⟩
          case measure => simp [intOf]; omega
        · obtain rfl : q = N := by omega
          have HO := Lib.hid ho
          have HB := Lib.hid hB
          clear ho hB
          go_wp2_with fail
          go_ret
          have hL : medS S k ++ cacS S.cache q = snapM S := by
            unfold snapM cacS
            rw [List.take_of_length_le (by rw [HX.out.len, HN.out]; exact Nat.le_refl _), HNS.out]; rfl
          have ho := HO.out
          rw [hL] at ho
          have hlen : (snapM S).length = p := by have := (Bs.of_own ho).2; exact this
          rw [hlen]
          exact ⟨oa2, oc2, rfl, arg_of_own (own_low ho (Nat.zero_le _)) (snapM_B HS.out), fun _ bb o e => (own_lt ho (by rw [e]; rfl)).1, HB.out⟩
end Go.Proofs.Ytkfdcdfaikkneaa
