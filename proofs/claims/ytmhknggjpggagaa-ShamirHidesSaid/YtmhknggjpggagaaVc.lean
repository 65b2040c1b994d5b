/- Contract of word.Xor, and of shamir's Add. -/
import Derived.Test.YtmhknggjpggagaaVd
namespace Go.Proofs.Ytmhknggjpggagaa
open Go.ChangeShapes Go.WideShapes Go.ChangeAt Go.RowKit Go.Shelf GF
set_option linter.unusedVariables false
set_option linter.unusedSimpArgs false
set_option maxRecDepth 100000
def xorL (a b : List Int) : List Int := List.zipWith (fun x y => ((x.toNat ^^^ y.toNat : Nat) : Int)) a b
theorem length_xorL (a b : List Int) : (xorL a b).length = min a.length b.length := by simp [xorL]
theorem xorL_getD {a b : List Int} {k : Nat} (h : k < min a.length b.length) : (xorL a b).getD k 0 = (((a.getD k 0).toNat ^^^ (b.getD k 0).toNat : Nat) : Int) := by
  have h1 : k < a.length := by omega
  have h2 : k < b.length := by omega
  simp [xorL, List.getD_eq_getElem?_getD, List.getElem?_zipWith, List.getElem?_eq_getElem h1, List.getElem?_eq_getElem h2]
theorem xor_any (a b : Option Addr) (la ca lb cb : Nat) (x y : List Int) (w : World) (hx : Arg8 w a la ca x) (hy : Arg8 w b lb cb y) (hla : la ≤ 281474976710656) (hlb : lb ≤ 281474976710656) :
    Calls Try.prog 30 #[.slice a la ca, .slice b lb cb] w fun e w' => ∃ g, e = .returned (.slice (some ⟨g, 0, none⟩) (min la lb) (min la lb)) ∧
      w'.ownsRow w.heap.size 5 1 (.slice (some ⟨g, 0, none⟩) (min la lb) (min la lb)) (min la lb) ((xorL x y).map (Value.int .u8)) ∧ Below w.heap.size w w' := by
  obtain ⟨hxl, hxb, hxc, hx1, hx2⟩ := hx
  obtain ⟨hyl, hyb, hyc, hy1, hy2⟩ := hy
  unfold maxLen at hx2 hy2
  have hl := length_xorL x y
  have wbx := allB_getD hxb
  have wby := allB_getD hyb
  have HWX := Lib.hid wbx
  have HWY := Lib.hid wby
  clear wbx wby
  by_cases hc : lb < la
  · have hmn : min la lb = lb := Nat.min_eq_right (by omega)
    rw [hmn]
    have HL := Lib.hid (show (xorL x y).length = lb by rw [hl, hxl, hyl, hmn])
    have HM := Lib.hid hmn
    clear hl hmn
    have hmk := run_make_row' (P := Try.prog) 22 5 (.int .u8 0) 1 Try.underlying22 info5 rfl .i64 .i64 lb (by omega) (by omega)
    have hO := own_made (w := w) (e := 5) (n := lb) (by unfold maxLen; omega)
    have HO := Lib.hid hO
    clear hO
    go_enter Try.func30, Try.ntmps30
    go_wp2
    go_loopw [15] (fun i wr => ∃ k : Nat, k ≤ lb ∧ i = .int .i64 k ∧ wr.ownsRow w.heap.size 5 1 (.slice (some ⟨w.heap.size, 0, none⟩) lb lb) lb ((part (xorL x y) k).map (Value.int .u8)) ∧ Below w.heap.size w wr)
      (fun i _ => lb - (intOf i).toNat)
    case atStart => exact ⟨0, Nat.zero_le _, rfl, by rw [part_zero, HL.out]; exact HO.out, (Below.refl _ _).alloc (Nat.le_refl _) _⟩
    case round =>
      obtain ⟨k, hk, rfl, hown, hbel⟩ := hrel
      clear hmk
      by_cases hlt : k < lb
      · obtain ⟨ba, oa, rfl, hba, hca⟩ := (hxc.below hbel).at_ (k := k) (by omega)
        obtain ⟨bb, ob, rfl, hbb, hcb⟩ := (hyc.below hbel).at_ (k := k) (by omega)
        have wx := HWX.out k
        have wy := HWY.out k
        have hcg := own_cells hown k hlt
        rw [Nat.zero_add] at hcg
        have hfz := hown.frozenAt k
        have hne1 : ba ≠ w.heap.size := by omega
        have hne2 : bb ≠ w.heap.size := by omega
        have hst := Lib.hid (part_set_own HL.out hlt hown)
        have hb2 := Lib.hid (hbel.setCell (p := ⟨w.heap.size, k, none⟩) (Nat.le_refl _) (.int .u8 ((xorL x y).getD k 0)))
        have hxe := Lib.hid (xorL_getD (a := x) (b := y) (k := k) (by omega))
        clear hown hbel hxc hyc
        have q1 : (k : Int) < (la : Int) := by omega
        have q2 : (k : Int) < (lb : Int) := by omega
        have q3 : (0 : Int) ≤ (k : Int) := by omega
        obtain ⟨X, hX⟩ : ∃ X, X = x.getD k 0 := ⟨_, rfl⟩
        obtain ⟨Y, hY⟩ : ∃ Y, Y = y.getD k 0 := ⟨_, rfl⟩
        rw [← hX] at hca wx hxe
        rw [← hY] at hcb wy hxe
        clear hX hY
        have hv : (xorL x y).getD k 0 = bits .xor .u8 X Y := by rw [hxe.out, u8_xor X Y wx.1 wx.2 wy.1 wy.2]
        rw [hv] at hst hb2
        clear hxe hv
        go_wp2_with fail
        go_still_tail 12, (by kernel_rfl)
        go_wp2
        go_roundw
        case rel => exact ⟨k + 1, by omega, by go_num, hst.out, hb2.out.drew⟩
        case measure => simp [intOf]; omega
      · obtain rfl : k = lb := by omega
        go_wp2
        go_ret
        refine ⟨_, rfl, ?_, hbel⟩
        have e := part_all (xorL x y)
        rw [HL.out] at e
        rw [e] at hown
        exact hown
  · have hmn : min la lb = la := Nat.min_eq_left (by omega)
    rw [hmn]
    have HL := Lib.hid (show (xorL x y).length = la by rw [hl, hxl, hyl, hmn])
    have HM := Lib.hid hmn
    clear hl hmn
    have hmk := run_make_row' (P := Try.prog) 22 5 (.int .u8 0) 1 Try.underlying22 info5 rfl .i64 .i64 la (by omega) (by omega)
    have hO := own_made (w := w) (e := 5) (n := la) (by unfold maxLen; omega)
    have HO := Lib.hid hO
    clear hO
    go_enter Try.func30, Try.ntmps30
    go_wp2
    go_loopw [15] (fun i wr => ∃ k : Nat, k ≤ la ∧ i = .int .i64 k ∧ wr.ownsRow w.heap.size 5 1 (.slice (some ⟨w.heap.size, 0, none⟩) la la) la ((part (xorL x y) k).map (Value.int .u8)) ∧ Below w.heap.size w wr)
      (fun i _ => la - (intOf i).toNat)
    case atStart => exact ⟨0, Nat.zero_le _, rfl, by rw [part_zero, HL.out]; exact HO.out, (Below.refl _ _).alloc (Nat.le_refl _) _⟩
    case round =>
      obtain ⟨k, hk, rfl, hown, hbel⟩ := hrel
      clear hmk
      by_cases hlt : k < la
      · obtain ⟨ba, oa, rfl, hba, hca⟩ := (hxc.below hbel).at_ (k := k) (by omega)
        obtain ⟨bb, ob, rfl, hbb, hcb⟩ := (hyc.below hbel).at_ (k := k) (by omega)
        have wx := HWX.out k
        have wy := HWY.out k
        have hcg := own_cells hown k hlt
        rw [Nat.zero_add] at hcg
        have hfz := hown.frozenAt k
        have hne1 : ba ≠ w.heap.size := by omega
        have hne2 : bb ≠ w.heap.size := by omega
        have hst := Lib.hid (part_set_own HL.out hlt hown)
        have hb2 := Lib.hid (hbel.setCell (p := ⟨w.heap.size, k, none⟩) (Nat.le_refl _) (.int .u8 ((xorL x y).getD k 0)))
        have hxe := Lib.hid (xorL_getD (a := x) (b := y) (k := k) (by omega))
        clear hown hbel hxc hyc
        have q1 : (k : Int) < (la : Int) := by omega
        have q2 : (k : Int) < (lb : Int) := by omega
        have q3 : (0 : Int) ≤ (k : Int) := by omega
        obtain ⟨X, hX⟩ : ∃ X, X = x.getD k 0 := ⟨_, rfl⟩
        obtain ⟨Y, hY⟩ : ∃ Y, Y = y.getD k 0 := ⟨_, rfl⟩
        rw [← hX] at hca wx hxe
        rw [← hY] at hcb wy hxe
        clear hX hY
        have hv : (xorL x y).getD k 0 = bits .xor .u8 X Y := by rw [hxe.out, u8_xor X Y wx.1 wx.2 wy.1 wy.2]
        rw [hv] at hst hb2
        clear hxe hv
        go_wp2_with fail
        go_still_tail 12, (by kernel_rfl)
        go_wp2
        go_roundw
        case rel => exact ⟨k + 1, by omega, by go_num, hst.out, hb2.out.drew⟩
        case measure => simp [intOf]; omega
      · obtain rfl : k = la := by omega
        go_wp2
        go_ret
        refine ⟨_, rfl, ?_, hbel⟩
        have e := part_all (xorL x y)
        rw [HL.out] at e
        rw [e] at hown
        exact hown

theorem xorL_G (A B : List GF) (h : A.length = B.length) : xorL (iL A) (iL B) = iL (addR A B) := by
  refine list_ext_getD (by rw [length_xorL, length_iL, length_iL, length_iL, addR_len, h, Nat.min_self]) fun i hi => ?_
  rw [length_xorL, length_iL, length_iL] at hi
  rw [xorL_getD (by rw [length_iL, length_iL]; exact hi), getD_iL, getD_iL, getD_iL, addR_co h]
  rfl
theorem xor_G (a b : Option Addr) (l ca cb : Nat) (A B : List GF) (w : World) (hA : Pa w a l ca A) (hB : Pa w b l cb B) (hl : l ≤ 1000) :
    Calls Try.prog 30 #[.slice a l ca, .slice b l cb] w fun e w' => ∃ g, e = .returned (.slice (some ⟨g, 0, none⟩) l l) ∧
      w'.ownsRow w.heap.size 5 1 (.slice (some ⟨g, 0, none⟩) l l) l ((iL (addR A B)).map (Value.int .u8)) ∧ Below w.heap.size w w' := by
  have h := xor_any a b l ca l cb (iL A) (iL B) w hA.1 hB.1 (by omega) (by omega)
  rw [Nat.min_self, xorL_G A B (by rw [hA.len, hB.len])] at h
  exact h

theorem addBadC : AddBadC := by
  intro La Lb aA cA A aB cB B w hA hB hne h1 h2
  have q : ((La : Int) != (Lb : Int)) = true := by rw [bne_iff_ne]; omega
  have hba := hA.bd
  have hbb := hB.bd
  clear hA hB hne
  go_enter Try.func13, Try.ntmps13
  go_wp2
  go_ret2
  exact ⟨_, rfl, Below.refl _ _⟩
theorem set_nextV {vs : List Value} {n : Nat} (z v : Value) (h : vs.length < n) : (vs ++ List.replicate (n - vs.length) z).set vs.length v = (vs ++ [v]) ++ List.replicate (n - (vs.length + 1)) z := by
  rw [List.set_append_right _ _ (Nat.le_refl _), Nat.sub_self, show n - vs.length = (n - (vs.length + 1)) + 1 by omega, List.replicate_succ, List.set_cons_zero, List.append_assoc]
  rfl
/-- Rows of one's own behind a block, as rows of new memory. -/
theorem MatB.ofOwnV {w : World} {B g n : Nat} {vs : List Value} {M : List (List GF)} {ok : Nat → Prop} (h : w.ownsRow B 22 1 (.slice (some ⟨g, 0, none⟩) n n) n vs) (hv : RV w ok vs M) (hok : ∀ b, ok b → B ≤ b) : MatB w B (some ⟨g, 0, none⟩) n n M := by
  have hl : M.length = n := by rw [← hv.1, h.1, Nat.mul_one]
  have hg := h.lt g rfl
  refine ⟨hl, Nat.le_refl _, ?_, (fun e => by cases e), vs, hv.keep (Nat.le_refl _) (fun b _ hb => ⟨hok b hb, rfl⟩), fun h0 => ⟨g, 0, rfl, hg.2, hg.1, fun i hi => ?_⟩⟩
  · rcases h.2 with ⟨e, _⟩ | ⟨g', c, cur, e, _, _, h4, h5, _⟩
    · cases e
    · cases e; exact h5
  · rw [Nat.zero_add]; exact h.cellAt i (by omega)

theorem own_madeR' {w : World} {n : Nat} (hm : n ≤ maxLen) :
    (w.alloc (.cells (madeCells #[Value.slice none 0 0] n) 22)).ownsRow w.heap.size 22 1 (.slice (some ⟨w.heap.size, 0, none⟩) n n) n (List.replicate n (.slice none 0 0)) := by
  have := World.ownsRow_lit (base := w.heap.size) (e := 22) (size := 1) w (madeCells #[Value.slice none 0 0] n) n (Nat.le_refl _) hm (by simp [size_madeCells])
  rw [toList_madeCells_one] at this
  exact this
theorem addM_take {A B : List (List GF)} {k : Nat} (h : k < A.length) : (addM A B).take (k + 1) = (addM A B).take k ++ [addR (rw_ A k) (rw_ B k)] := by
  refine take_stepV ?_
  have e := addM_row (A := A) (B := B) h
  unfold rw_ at e
  show _ = some (addR (rw_ A k) (rw_ B k))
  unfold rw_
  rw [← e]
  simp [List.getD_eq_getElem?_getD, addM_len, h]
set_option maxHeartbeats 4000000 in
theorem addC : AddC := by
  intro L aA cA A aB cB B w hA hB hAB hL hw
  have HA := Lib.hid hA
  have HB := Lib.hid hB
  have HAB := Lib.hid hAB
  have HL := Lib.hid hL
  have HW := Lib.hid hw
  have HAL := Lib.hid hA.len
  have hba := hA.bd
  have hbb := hB.bd
  have q : ((L : Int) != (L : Int)) = false := by simp
  have hmk := run_make_row' (P := Try.prog) 28 22 (.slice none 0 0) 24 Try.underlying28 infoR rfl .i64 .i64 L (by omega) (by omega)
  clear hA hB hAB hL hw
  go_enter Try.func13, Try.ntmps13
  go_wp2
  have hO0 : Hid ((w.alloc (.cells (madeCells #[Value.slice none 0 0] L) 22)).ownsRow w.heap.size 22 1 (.slice (some ⟨w.heap.size, 0, none⟩) L L) L ([] ++ List.replicate (L - ([] : List Value).length) (.slice none 0 0))) :=
    Lib.hid (own_madeR' (w := w) (n := L) (by unfold maxLen; have := HL.out; omega))
  have hB0 : Hid (Below w.heap.size w (w.alloc (.cells (madeCells #[Value.slice none 0 0] L) 22))) := Lib.hid ((Below.refl _ _).alloc (Nat.le_refl _) _)
  obtain ⟨G, hG⟩ : ∃ G, G = w.heap.size := ⟨_, rfl⟩
  rw [← hG] at hO0 hB0 ⊢
  have HG := Lib.hid hG
  clear hG
  go_loopw [18] (fun j wr => ∃ (i : Nat) (vs : List Value), i ≤ L ∧ j = .int .i64 (i : Nat) ∧ Hid (vs.length = i) ∧ Hid (wr.ownsRow G 22 1 (.slice (some ⟨G, 0, none⟩) L L) L (vs ++ List.replicate (L - vs.length) (.slice none 0 0))) ∧ Hid (RV wr (fun b => G < b) vs ((addM A B).take i)) ∧ Hid (Below G w wr))
    (fun j _ => L - (intOf j).toNat)
  case atStart => exact ⟨0, [], Nat.zero_le _, rfl, Lib.hid rfl, hO0, Lib.hid (RV.nil _ _), hB0⟩
  case round =>
    obtain ⟨i, vs, hi, rfl, HVL, hO, hV, hBl⟩ := hrel
    rename World => w2
    by_cases hlt : i < L
    · have hBw : Below w.heap.size w w2 := by rw [← HG.out]; exact hBl.out
      obtain ⟨bx, ox, a1, c1, rfl, hbx, hc1, hp1⟩ := (HA.out.on hBw).row hlt
      obtain ⟨by', oy, a2, c2, rfl, hby, hc2, hp2⟩ := (HB.out.on hBw).row hlt
      have hwl := HW.out i hlt
      have hab := HAB.out i hlt
      obtain ⟨l, hl⟩ : ∃ l, l = (rw_ A i).length := ⟨_, rfl⟩
      rw [← hab] at hc2 hp2
      rw [← hl] at hc1 hp1 hc2 hp2 hwl
      have Hl := Lib.hid hl
      have qi : (i : Int) < (L : Int) := by omega
      have qi0 : (0 : Int) ≤ (i : Int) := by omega
      have ql : ((l : Int) != (l : Int)) = false := by simp
      have hd1 : ∀ k, (w2.drewN k).cell? ⟨bx, ox + i, none⟩ = some (.slice a1 l c1) := fun k => hc1
      have hd2 : ∀ k, (w2.drewN k).cell? ⟨by', oy + i, none⟩ = some (.slice a2 l c2) := fun k => hc2
      have HP1 := Lib.hid hp1; have HP2 := Lib.hid hp2
      have hb1 := hp1.bd; have hb2 := hp2.bd
      have HD1 := Lib.hid hd1; have HD2 := Lib.hid hd2
      clear hBw hl hab hp1 hp2 hc1 hc2 hlt
      go_wp2_with fail
      go_quiet (fail)
      obtain ⟨w3, h3⟩ : ∃ V, V = (w2.drewN nq).drew := ⟨_, rfl⟩
      have hdr : Below w2.heap.size w2 w3 := by rw [h3]; exact (below_drewN (Below.refl _ _) nq).drew
      have hs3 : w3.heap.size = w2.heap.size := by rw [h3]; rfl
      have HXO := Lib.hid (xor_G a1 a2 l c1 c2 (rw_ A i) (rw_ B i) w3 (HP1.out.on hdr) (HP2.out.on hdr) hwl)
      have HO3 := Lib.hid (own_belowV hO.out hdr)
      have HS3 := Lib.hid hs3
      have HDR := Lib.hid hdr
      have hc1 : (w2.drewN nq).drew.cell? ⟨bx, ox + i, none⟩ = some (.slice a1 l c1) := HD1.out nq
      have hc2 : (w2.drewN nq).drew.cell? ⟨by', oy + i, none⟩ = some (.slice a2 l c2) := HD2.out nq
      rw [h3] at HXO HO3 HS3 HDR
      clear hdr hs3 h3
      go_wp2_with fail
      go_region_with (go_at_call 30; refine HXO.out.mono ?_; rintro e w4 ⟨g, rfl, hown, hb4⟩; have HO4 := Lib.hid hown; have HB4 := Lib.hid hb4; have HSU := Lib.hid (own_belowV HO3.out hb4); have hfz := HSU.out.frozenAt i; have hcl := HSU.out.cellAt i (by have := HVL.out; simp; omega); rw [List.getElem?_eq_getElem (by have := HVL.out; simp; omega)] at hcl; clear hown hb4)
      all_goals
        have hst := (HSU.out.stored i (.slice (some ⟨g, 0, none⟩) l l)).1
        have hsn := set_nextV (vs := vs) (n := L) (.slice none 0 0) (.slice (some ⟨g, 0, none⟩) l l) (by rw [HVL.out]; omega)
        rw [HVL.out] at hsn hst
        rw [hsn] at hst
        have hgl := (HO4.out.lt g rfl).1
        have hGl := (HSU.out.lt G rfl).2
        have hGl2 := (hO.out.lt G rfl).2
        have hs3 := HS3.out
        have hs4 := HB4.out.size
        have hpv : Pa (w4.setCell ⟨G, i, none⟩ (.slice (some ⟨g, 0, none⟩) l l)) (some ⟨g, 0, none⟩) l l (addR (rw_ A i) (rw_ B i)) := (Pa.own2 HO4.out).but (gb_set _ _ _ _) (fun bb off e => by cases e; omega)
        have hrv : RV (w4.setCell ⟨G, i, none⟩ (.slice (some ⟨g, 0, none⟩) l l)) (fun b => G < b) vs ((addM A B).take i) := hV.out.keep (by simp; omega) (fun b h1 h2 => ⟨h2, by rw [Below.heap_setCell _ _ _ _ (by show b ≠ G; omega)]; exact (HB4.out.block b (by omega)).trans (HDR.out.block b h1)⟩)
        have hl9 : (addR (rw_ A i) (rw_ B i)).length = l := by rw [addR_len]; exact Hl.out.symm
        have hmo := hrv.more (P := addR (rw_ A i) (rw_ B i)) (a := some ⟨g, 0, none⟩) (c := l) (by rw [hl9]; exact hpv) (fun bb off e _ => by cases e; omega)
        rw [hl9, ← addM_take (by rw [HAL.out]; omega)] at hmo
        have HST := Lib.hid hst; have HMO := Lib.hid hmo
        have HBN := Lib.hid (((hBl.out.trans (HDR.out.mono (by omega))).trans (HB4.out.mono (by omega))).setCell (p := ⟨G, i, none⟩) (Nat.le_refl _) (.slice (some ⟨g, 0, none⟩) l l))
        have hl2 : (vs ++ [Value.slice (some ⟨g, 0, none⟩) l l]).length = i + 1 := by rw [List.length_append, HVL.out]; rfl
        have HL2 := Lib.hid hl2
        rw [← hl2] at HST
        clear hst hsn hpv hrv hmo hl9 hl2 hcl hfz hgl hGl hGl2 hs3 hs4
        go_wp2
        go_roundw
        case rel => exact ⟨i + 1, vs ++ [.slice (some ⟨g, 0, none⟩) l l], by omega, by go_num, HL2, HST, HMO, HBN⟩
        case measure => simp [intOf]; omega
    · obtain rfl : L = i := by omega
      have ho := hO.out
      have hv := hV.out
      rw [HVL.out, Nat.sub_self, List.replicate_zero, List.append_nil] at ho
      rw [List.take_of_length_le (by rw [addM_len, HAL.out]; exact Nat.le_refl _)] at hv
      have hmb := MatB.ofOwnV ho hv (fun b hb => by omega)
      rw [HG.out] at hmb hBl
      have HMB := Lib.hid hmb
      clear ho hv hmb
      go_wp2
      go_ret2
      exact ⟨_, _, rfl, by rw [HG.out]; exact HMB.out, hBl.out⟩
end Go.Proofs.Ytmhknggjpggagaa
