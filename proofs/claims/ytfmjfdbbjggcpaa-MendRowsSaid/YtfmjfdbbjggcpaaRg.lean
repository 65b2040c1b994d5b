/- The document's pick: all ways to pick. -/
import Derived.Test.YtfmjfdbbjggcpaaRf
namespace Go.Proofs.Ytfmjfdbbjggcpaa
open Go.ChangeShapes Go.WideShapes Go.ChangeAt Go.RowKit Go.Shelf GF
set_option linter.unusedVariables false
set_option linter.unusedSimpArgs false
set_option maxRecDepth 100000

theorem own_emptyZ (w : World) (e : TypeId) : (w.alloc (.cells #[] e)).ownsRow w.heap.size e 1 (.slice (some ⟨w.heap.size, 0, none⟩) 0 0) 0 [] :=
  World.ownsRow_lit (base := w.heap.size) (e := e) (size := 1) w #[] 0 (Nat.le_refl _) (Nat.zero_le _) rfl
theorem pick_row {t n : Nat} {l : List Nat} (h : l ∈ pickL t n) (hn : n ≤ 7) : ∀ x, x ∈ l → x ≤ 1000 := fun x hx => by have := (pickL_mem t n l h).2.2 x hx; omega
theorem rwI_mem {M : List (List Nat)} {i : Nat} (h : i < M.length) : rwI M i ∈ M := by
  have e : rwI M i = M[i] := by unfold rwI; simp [List.getD_eq_getElem?_getD, h]
  rw [e]; exact List.getElem_mem h
theorem take_rowI {M : List (List Nat)} {i : Nat} (h : i < M.length) : M.take (i + 1) = M.take i ++ [rwI M i] := by
  rw [List.take_add_one, List.getElem?_eq_getElem h]; simp [rwI, List.getD_eq_getElem?_getD, h]
theorem pick_zero (n : Nat) (w : World) :
    Calls Try.prog 26 #[.int .i64 (n : Nat), .int .i64 0] w fun e w' => ∃ a c, e = .returned (.slice a (pickL 0 n).length c) ∧ IMat w' w.heap.size a (pickL 0 n).length c (pickL 0 n) ∧ Below w.heap.size w w' := by
  obtain ⟨W1, hW1⟩ : ∃ W, W = w.alloc (.cells #[] 3) := ⟨_, rfl⟩
  obtain ⟨W2, hW2⟩ : ∃ W, W = W1.alloc (.cells #[.slice (some ⟨w.heap.size, 0, none⟩) 0 0] 47) := ⟨_, rfl⟩
  have s1 : W1.heap.size = w.heap.size + 1 := by rw [hW1]; simp
  have h1 : W2.ownsRow w.heap.size 3 1 (.slice (some ⟨w.heap.size, 0, none⟩) 0 0) 0 ((zl []).map (Value.int .i64)) := by
    rw [hW2, hW1]; exact (own_emptyZ w _).alloc _
  have h2 : W2.ownsRow W1.heap.size 47 1 (.slice (some ⟨W1.heap.size, 0, none⟩) 1 1) 1 [.slice (some ⟨w.heap.size, 0, none⟩) 0 0] := by
    rw [hW2]; exact World.ownsRow_lit (base := W1.heap.size) (e := 47) (size := 1) W1 #[.slice (some ⟨w.heap.size, 0, none⟩) 0 0] 1 (Nat.le_refl _) (by unfold maxLen; omega) rfl
  have hv : IVr W2 w.heap.size [.slice (some ⟨w.heap.size, 0, none⟩) 0 0] [[]] := (IVr.nil W2 w.heap.size).more (l := []) h1 (Nat.le_refl _)
  have HM := Lib.hid (IMat.own (own_base h2 (show w.heap.size ≤ W1.heap.size by omega)) hv)
  have HB := Lib.hid (show Below w.heap.size w W2 by rw [hW2, hW1]; exact ((Below.refl _ _).alloc (Nat.le_refl _) _).alloc (by simp) _)
  rw [s1, hW2, hW1] at HM
  rw [hW2, hW1] at HB
  clear hW1 hW2 s1 h1 h2 hv
  go_enter Try.func26, Try.ntmps26
  go_wp2
  go_ret
  exact ⟨_, _, rfl, HM.out, HB.out⟩
set_option maxHeartbeats 8000000 in
theorem pick_step (t n : Nat) (w : World) (hn : n ≤ 7) (ht : t ≤ 6) (ih : ∀ (m : Nat) (W : World), m ≤ 7 → Calls Try.prog 26 #[.int .i64 (m : Nat), .int .i64 (t : Nat)] W fun e w' => ∃ a c, e = .returned (.slice a (pickL t m).length c) ∧ IMat w' W.heap.size a (pickL t m).length c (pickL t m) ∧ Below W.heap.size W w') :
    Calls Try.prog 26 #[.int .i64 (n : Nat), .int .i64 ((t + 1 : Nat) : Int)] w fun e w' => ∃ a c, e = .returned (.slice a (pickL (t + 1) n).length c) ∧ IMat w' w.heap.size a (pickL (t + 1) n).length c (pickL (t + 1) n) ∧ Below w.heap.size w w' := by
  obtain ⟨T, hT⟩ : ∃ T, T = t + 1 := ⟨_, rfl⟩
  have HTE := Lib.hid hT
  rw [← hT]
  obtain ⟨i3, hi, hz0, hz1, hz2⟩ := info_parts infoI1
  have HI3 := Lib.hid (And.intro hi (And.intro hz0 (And.intro hz1 hz2)))
  obtain ⟨i47, hj, hy0, hy1, hy2⟩ := info_parts infoI2
  have HI47 := Lib.hid (And.intro hj (And.intro hy0 (And.intro hy1 hy2)))
  have IH := Lib.hid ih
  have HN := Lib.hid (And.intro hn ht)
  have qT : (T : Int) - 1 = (t : Int) := by omega
  have qT0 : ((T : Int) == 0) = false := by rw [beq_eq_false_iff_ne]; omega
  have qt : (0 : Int) ≤ (t : Int) := by omega
  have qt6 : (t : Int) ≤ 6 := by omega
  have qT7 : (T : Int) ≤ 7 := by omega
  have qn : (n : Int) ≤ 7 := by omega
  have hO0 := Lib.hid (own_emptyZ w 47)
  have hB0 := Lib.hid (show Below w.heap.size w (w.alloc (.cells #[] 47)) from (Below.refl _ _).alloc (Nat.le_refl _) _)
  have HD := Lib.hid (pickD_all t n)
  have HLEN := Lib.hid (pickL_len (t + 1) n (by omega))
  rw [← hT] at HD HLEN
  have HLB := Lib.hid (show ∀ i, t + i ≤ 7 → (pickL t (t + i)).length ≤ 8 ^ t from fun i h => pickL_len t (t + i) (by omega))
  have HDB := Lib.hid (show ∀ i, t + i ≤ 8 → (pickD t i).length ≤ 3000000 from fun i h => by
    have h1 : pickD t i = pickL (t + 1) (t + i) := by rw [← pickD_all, Nat.add_sub_cancel_left]
    rw [h1]
    have h2 := pickL_len (t + 1) (t + i) h
    have h3 : 8 ^ (t + 1) ≤ 8 ^ 7 := Nat.pow_le_pow_right (by omega) (by omega)
    have e : 8 ^ 7 = 2097152 := by decide
    omega)
  clear hi hz0 hz1 hz2 hj hy0 hy1 hy2 ih hn ht hT
  go_enter Try.func26, Try.ntmps26
  go_wp2
  go_loopw [5, 6] (fun o l V => ∃ (i la : Nat) (a : Option Addr) (c : Nat) (vs : List Value), i ≤ n - t ∧ l = .int .i64 (la : Nat) ∧ o = .slice a (pickD t i).length c ∧ Hid (la = t + i) ∧ Hid (V.ownsRow w.heap.size 47 1 (.slice a (pickD t i).length c) (pickD t i).length vs) ∧ Hid (IVr V w.heap.size vs (pickD t i)) ∧ Hid (Below w.heap.size w V)) (fun _ l _ => n + t + 8 - (intOf l).toNat)
  case atStart => exact ⟨0, t, _, 0, [], Nat.zero_le _, rfl, rfl, Lib.hid rfl, hO0, Lib.hid (IVr.nil _ _), hB0⟩
  case round =>
    obtain ⟨i, la, a, c, vs, hi, rfl, rfl, HLA, HO, HV, HB⟩ := hrel
    rename World => V
    obtain ⟨N, hN⟩ : ∃ N, N = (pickD t i).length := ⟨_, rfl⟩
    have HNE := Lib.hid hN
    rw [← hN] at HO ⊢
    clear hN
    by_cases hlt : la < n
    · have q1 : (la : Int) < (n : Int) := by omega
      have q2 : (0 : Int) ≤ (la : Int) := by omega
      have HP := Lib.hid (IH.out la V (by have := HN.out; omega))
      obtain ⟨K, hK⟩ : ∃ K, K = (pickL t la).length := ⟨_, rfl⟩
      have HKE := Lib.hid hK
      rw [← hK] at HP
      have HLT := Lib.hid (And.intro hlt hi)
      have HKB := Lib.hid (show K ≤ 3000000 ∧ N ≤ 3000000 from by
        have h1 := HLB.out i (by have := HLA.out; have := HN.out; omega)
        have h2 := HDB.out i (by have := HLA.out; have := HN.out; omega)
        have h3 : 8 ^ t ≤ 8 ^ 6 := Nat.pow_le_pow_right (by omega) HN.out.2
        have e : 8 ^ 6 = 262144 := by decide
        rw [← HLA.out, ← hK] at h1
        rw [← HNE.out] at h2
        exact ⟨by omega, h2⟩)
      have qK : (K : Int) ≤ 3000000 := by have := HKB.out.1; omega
      clear hK hlt hi
      go_upto_region 8 with (go_at_call 26; go_loud (refine HP.out.mono ?_; rintro e V1 ⟨a1, c1, rfl, hm1, hb1⟩; have HM1 := Lib.hid hm1; have HB1 := Lib.hid hb1; have hd1 := hm1.bd; clear hm1 hb1))
      have hO1 := Lib.hid (own_belowV HO.out HB1.out)
      have hV1 := Lib.hid (HV.out.on HB1.out)
      have hB1 := Lib.hid (bt HB.out HB1.out)
      go_loopw [5, 26] (fun o s U => ∃ (j : Nat) (a : Option Addr) (c : Nat) (vs : List Value), j ≤ K ∧ s = .int .i64 (j : Nat) ∧ o = .slice a (N + j : Nat) c ∧ Hid (U.ownsRow w.heap.size 47 1 (.slice a (N + j : Nat) c) (N + j) vs) ∧ Hid (IVr U w.heap.size vs (pickD t i ++ ((pickL t la).take j).map (· ++ [la]))) ∧ Hid (Below w.heap.size w U) ∧ Hid (Kp V.heap.size V1.heap.size V1 U) ∧ Hid (∀ k, (Value.slice a (N + j : Nat) c).ownBlock = some k → k < V.heap.size ∨ V1.heap.size ≤ k)) (fun _ s _ => K - (intOf s).toNat)
      case atStart => exact ⟨0, a, c, vs, Nat.zero_le _, rfl, rfl, hO1, Lib.hid (by simpa using hV1.out), hB1, Lib.hid (Kp.refl _ _ _), Lib.hid (fun k hk => .inl (HO.out.lt k hk).2)⟩
      case round =>
        clear hO1 hV1 hB1
        obtain ⟨j, a, c, vs, hj, rfl, rfl, UO, UV, UB, UK, UX⟩ := hrel
        rename World => U
        by_cases hlt : j < K
        · have q3 : (j : Int) < (K : Int) := by omega
          have q4 : (0 : Int) ≤ (j : Int) := by omega
          have hjm : j < (pickL t la).length := by rw [← HKE.out]; exact hlt
          have hmem := rwI_mem hjm
          obtain ⟨b, off, ai, ci, rfl, hb, hcell, hia⟩ := (HM1.out.keepR UK.out).row hlt (pick_row hmem (by have := HN.out; have := HLT.out; omega))
          have hlen : (rwI (pickL t la) j).length = t := (pickL_mem t la _ hmem).1
          have HTK := Lib.hid (take_rowI hjm)
          obtain ⟨l, hl⟩ : ∃ l, l = rwI (pickL t la) j := ⟨_, rfl⟩
          rw [← hl] at hcell hia hlen HTK
          rw [hlen] at hcell hia
          have hbd := hia.bd
          have HLL := Lib.hid hlen
          have HE1 := Lib.hid (own_emptyZ U 3)
          have hBE : Below U.heap.size U (U.alloc (.cells #[] 3)) := (Below.refl _ _).alloc (Nat.le_refl _) _
          have HBE := Lib.hid hBE
          have HIA := Lib.hid (hia.on hBE)
          have HJK := Lib.hid hlt
          have HUS := Lib.hid UB.out.size
          clear hjm hmem hl hlt hj hb hia hBE hlen
          go_wp2_with (first
            | ((with_reducible show wpList _ _ _ (⟨some 33, _, _, _, _, _⟩ :: _) _ _); go_loud (refine wpList_append_ia _ rfl (.tmp 31) (.tmp 32) 47 rfl U.heap.size 3 i3 Try.underlying47 HI3.out.1 HI3.out.2.1 HI3.out.2.2.1 HI3.out.2.2.2 _ 0 [] rfl HE1.out ai t ci (zl l) rfl HIA.out (by have := HN.out; omega) (by simp) ?_; intro v2 U2 hown2 hg2; have hb2 := HBE.out.grown hg2 (by simp) (fun k hk => by cases hk; exact Nat.le_refl _); rw [Nat.zero_add, List.nil_append] at hown2; obtain ⟨a2, c2, hv2⟩ := own_sliceV hown2; subst hv2; have HO2 := Lib.hid hown2; have HB2 := Lib.hid hb2; clear hown2 hg2 hb2))
            | ((with_reducible show wpList _ _ _ (⟨some 36, _, _, _, _, _⟩ :: _) _ _); go_loud (refine wpList_append_own _ rfl (.tmp 33) (.tmp 35) 47 rfl U.heap.size 3 i3 (.int .i64 0) 1 8 Try.underlying47 HI3.out.1 HI3.out.2.1 HI3.out.2.2.1 HI3.out.2.2.2 rfl (by decide) _ t _ rfl (HO2.out.alloc _) _ 1 1 [_] rfl rfl (lit_cellsV _ _ _) (by intro u hu; cases List.mem_singleton.1 hu; rfl) (by unfold maxLen; have := HN.out; omega) (by have := HN.out; omega) (by have := HB2.out.size; simp; omega) ?_; intro v3 U3 hown3 hg3 _; have hb3 := (HB2.out.alloc HB2.out.size (.cells #[.int .i64 (la : Nat)] 3)).grown hg3 (by have := HB2.out.size; simp; omega) (fun z hz => (HO2.out.lt z hz).1); rw [show (zl l).map (Value.int .i64) ++ [Value.int .i64 (la : Nat)] = (zl (l ++ [la])).map (Value.int .i64) by rw [zl_app]; simp [zl]] at hown3; obtain ⟨a3, c3, hv3⟩ := own_sliceV hown3; subst hv3; have HIV := Lib.hid (((UV.out.on hb3).more hown3 HUS.out).on ((Below.refl _ _).alloc (Nat.le_refl _) (.cells #[.slice a3 (t + 1) c3] 47))); have HOU := Lib.hid ((own_belowV UO.out hb3).alloc (.cells #[.slice a3 (t + 1) c3] 47)); have HB3 := Lib.hid hb3; clear hown3 hg3 hb3))
            | ((with_reducible show wpList _ _ _ (⟨some 38, _, _, _, _, _⟩ :: _) _ _); go_loud (refine wpList_append_lies _ rfl (.tmp 30) (.tmp 37) 64 rfl w.heap.size 47 i47 (.slice none 0 0) 1 24 Try.underlying64 HI47.out.1 HI47.out.2.1 HI47.out.2.2.1 HI47.out.2.2.2 rfl (by decide) _ (N + j) vs rfl HOU.out _ 1 1 [_] rfl rfl (lit_cellsV _ _ _) (by intro u hu; cases List.mem_singleton.1 hu; rfl) (by decide) (by unfold maxLen; have := HKB.out; have := HJK.out; omega) (by have := HKB.out; have := HJK.out; omega) (by have := HB3.out.size; have := HUS.out; simp; omega) _ rfl ?_; intro g4 c4 U4 hown4 hg4 hat4 hlt4; have hb4 := ((Below.refl U3.heap.size U3).alloc (Nat.le_refl _) (.cells #[.slice a3 (t + 1) c3] 47)); have HIG := Lib.hid (HIV.out.grown HOU.out (by decide) hg4); have HB4 := Lib.hid (((UB.out.trans (HB3.out.mono HUS.out)).alloc (Nat.le_trans HUS.out HB3.out.size) (.cells #[.slice a3 (t + 1) c3] 47)).grown hg4 (by have := HB3.out.size; have := HUS.out; simp; omega) (fun z hz => (HOU.out.lt z hz).1)); have HK4 := Lib.hid (((UK.out.below HB3.out (Nat.le_refl _)).below hb4 (Nat.le_refl _)).grown hg4 UX.out (Nat.le_refl _)); have HX4 := Lib.hid (show ∀ k, (Value.slice (some ⟨g4, 0, none⟩) (N + j + 1 : Nat) c4).ownBlock = some k → k < V.heap.size ∨ V1.heap.size ≤ k from fun k hk => (by cases hk; rcases hat4 with h | h; exact UX.out _ h; right; rw [h]; have := UK.out.1; have := HB3.out.size; simp; omega)); have HO4 := Lib.hid hown4; clear hown4 hg4 hat4 hlt4 hb4)))
          go_roundw
          case rel => exact ⟨j + 1, _, c4, _, HJK.out, by go_num, rfl, HO4, by rw [HTK.out, List.map_append, ← List.append_assoc]; exact HIG, HB4, HK4, HX4⟩
          case measure => simp [intOf]; have := HJK.out; omega
        · obtain rfl : j = K := by omega
          have HND := Lib.hid (show pickD t (i + 1) = pickD t i ++ (pickL t la).map (· ++ [la]) by rw [pickD_next, HLA.out])
          have HNL := Lib.hid (show N + j = (pickD t (i + 1)).length by rw [HND.out, List.length_append, List.length_map, ← HNE.out, ← HKE.out])
          have uv := UV.out
          rw [List.take_of_length_le (by rw [← HKE.out]; exact Nat.le_refl _), ← HND.out] at uv
          have HUV := Lib.hid uv
          clear uv hlt hj
          go_wp2
          go_roundw
          case rel => exact ⟨i + 1, la + 1, a, c, vs, by have := HLT.out; have := HLA.out; omega, by go_num, by rw [← HNL.out], Lib.hid (by have := HLA.out; omega), by rw [← HNL.out]; exact UO, HUV, UB⟩
          case measure => simp [intOf]; have := HLT.out; omega
    · have hin : i = n - t := by have := HLA.out; omega
      have q1 : ¬ (la : Int) < (n : Int) := by omega
      have HE := Lib.hid (show pickD t i = pickL T n by rw [hin]; exact HD.out)
      have HM := Lib.hid (IMat.own HO.out HV.out)
      rw [HE.out] at HM
      have HNQ := Lib.hid (show N = (pickL T n).length by rw [HNE.out, HE.out])
      clear hlt hin hi
      go_wp2
      go_ret
      exact ⟨_, _, by rw [← HNQ.out]; rfl, by rw [← HNQ.out]; exact HM.out, HB.out⟩
theorem pick_any : ∀ (t n : Nat) (w : World), n ≤ 7 → t ≤ 7 → Calls Try.prog 26 #[.int .i64 (n : Nat), .int .i64 (t : Nat)] w fun e w' => ∃ a c, e = .returned (.slice a (pickL t n).length c) ∧ IMat w' w.heap.size a (pickL t n).length c (pickL t n) ∧ Below w.heap.size w w'
  | 0, n, w, _, _ => pick_zero n w
  | t + 1, n, w, hn, ht => pick_step t n w hn (by omega) (fun m W hm => pick_any t m W hm (by omega))
end Go.Proofs.Ytfmjfdbbjggcpaa
