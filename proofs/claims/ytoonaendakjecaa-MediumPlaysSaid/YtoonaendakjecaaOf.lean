/- Contracts of package medium as it landed: Cached, Copy; slices.Backward over writes. -/
import Derived.Test.YtoonaendakjecaaOe
import Derived.RangeFuncNested
import Derived.RangeFuncBox
import Derived.RangeFuncCalls
import Derived.RangeFuncLeaves
import Derived.Shelf.RegionOpen
import Derived.OwnWalkIn
import Derived.TacticsInMore
import Derived.LoopNIn
import Derived.LoopIn
import Derived.BigRegionIn
import Derived.Maps.AppendAt
import Derived.Deep.MidRow
namespace Go.Proofs.Ytoonaendakjecaa
open Go.ChangeShapes Go.WideShapes Go.ChangeAt Go.RowKit Go.Shelf
set_option linter.unusedVariables false
set_option linter.unusedSimpArgs false
set_option maxRecDepth 100000
attribute [local go_sem] Oper.semAt_some

theorem MedX.wr {w : World} {tb : Nat} {S : MS} {pp : Option Nat} {sb sc : Nat} {ca : Option Addr} {cc : Nat} {Z : List ZW} (h : MedX w tb S pp sb sc ca cc Z) : WrR w ca cc Z := ⟨h.row, h.dat⟩
theorem MedX.small {w : World} {tb : Nat} {S : MS} {pp : Option Nat} {sb sc : Nat} {ca : Option Addr} {cc : Nat} {Z : List ZW} (h : MedX w tb S pp sb sc ca cc Z) (hS : S.Ok) : ∀ z, z ∈ Z → z.1.1 ≤ 2048 := fun z hz => by
  have := (hS.cache z.1 (by rw [h.cache]; exact List.mem_map_of_mem hz)).1
  have := hS.size2
  omega
set_option maxHeartbeats 2000000 in
theorem cached_any (tb : Nat) (F : Nat → Prop) (S : MS) (pp : Option Nat) (w : World) (hR : MedR w tb F S pp) (hS : S.Ok) (hcl : S.cache.length ≤ 1000) :
    Calls Try.prog 13 #[tbV tb] w fun e w' => ∃ (a : Option Addr) (c : Nat) (ds : List (Option Addr × Nat)), e = .returned (.slice a S.cache.length c) ∧ w'.ownsRow w.heap.size 43 2 (.slice a S.cache.length c) S.cache.length (cwC S.cache ds) ∧ ds.length = S.cache.length ∧
      (∀ (k : Nat) (x : CW) (d : Option Addr × Nat), S.cache[k]? = some x → ds[k]? = some d → Arg8c w' d.1 512 d.2 x.2 ∧ NewA w d.1 512) ∧ Below w.heap.size w w' := by
  obtain ⟨sb, sc, ca, cc, Z, h, hF⟩ := hR
  have hl := h.len
  have HCP := Lib.hid (copies_any ca cc Z w h.wr (h.small hS) (by omega))
  have hc1 := h.md.c1
  have HX := Lib.hid h
  have HL := Lib.hid hl
  obtain ⟨N, hN⟩ : ∃ N, N = Z.length := ⟨_, rfl⟩
  have HN := Lib.hid hN
  rw [caV, ← hN] at hc1
  rw [← hN] at HCP
  clear h hF hS hcl hl hN
  go_enter Try.func13, Try.ntmps13
  go_wp2_with (go_at_call 33; go_loud (refine HCP.out.mono ?_; rintro e w1 ⟨g, c1, Z', rfl, h1, h2, h3, h4⟩; have H1 := Lib.hid h1; have H2 := Lib.hid h2; have H3 := Lib.hid h3; have H4 := Lib.hid h4; clear h1 h2 h3 h4))
  go_ret
  have hZl : Z'.length = Z.length := by have := congrArg List.length H1.out; simpa using this
  refine ⟨some ⟨g, 0, none⟩, c1, Z'.map Prod.snd, ?_, ?_, ?_, ?_, H4.out⟩
  · rw [HL.out, ← HN.out]; rfl
  · rw [HL.out, ← HN.out, HX.out.cache, ← H1.out, zC_cw]; exact H2.out
  · rw [List.length_map, HL.out, hZl]
  · intro k x d hx hd
    rw [HX.out.cache, ← H1.out] at hx
    rw [List.getElem?_map] at hx hd
    obtain ⟨z, hz, rfl⟩ := Option.map_eq_some_iff.1 hx
    rw [hz] at hd
    cases hd
    obtain ⟨d1, d2, d3⟩ := H3.out z (List.mem_of_getElem? hz)
    exact ⟨arg_of_own (own_low d3 (Nat.zero_le _)) d2, fun _ b o e => (own_lt d3 (by rw [e]; rfl)).1⟩
set_option maxHeartbeats 4000000 in
theorem copy_any (tb : Nat) (F : Nat → Prop) (S : MS) (pp pq : Option Nat) (w : World) (hR : MedR w tb F S pp) (hS : S.Ok) (hcl : S.cache.length ≤ 1000) :
    Calls Try.prog 11 #[tbV tb, ppV pq] w fun e w' => ∃ tc F', e = .returned (tbV tc) ∧ MedR w' tc F' S pq ∧ (∀ k, F' k → w.heap.size ≤ k) ∧ Below w.heap.size w w' := by
  obtain ⟨sb, sc, ca, cc, Z, h, hF⟩ := hR
  have hl := h.len
  obtain ⟨N, hN⟩ : ∃ N, N = Z.length := ⟨_, rfl⟩
  obtain ⟨D, hD⟩ : ∃ D, D = S.down := ⟨_, rfl⟩
  have HCS := Lib.hid (show ∀ W, Below w.heap.size w W → Calls Try.prog 32 #[.slice (some ⟨sb, 0, none⟩) S.size sc] W fun e w' => ∃ g c', e = .returned (.slice (some ⟨g, 0, none⟩) S.size c') ∧ SecR w' g S.size c' S.med ∧ w.heap.size ≤ g ∧ Below W.heap.size W w' ∧ Below w.heap.size w w' from fun W hW => (cloneS_any sb sc S.size S.med W (h.on hW).sec hS.size1 hS.size2).mono (by rintro e w' ⟨g, c', h1, h2, h3, h4⟩; exact ⟨g, c', h1, h2, by have := hW.size; omega, h4, bt hW h4⟩))
  have HCP := Lib.hid (show ∀ W, Below w.heap.size w W → Calls Try.prog 33 #[.slice ca N cc] W fun e w' => ∃ g c' Z', e = .returned (.slice (some ⟨g, 0, none⟩) N c') ∧ Z'.map Prod.fst = Z.map Prod.fst ∧ w'.ownsRow w.heap.size 43 2 (.slice (some ⟨g, 0, none⟩) N c') N (zC Z') ∧ DRn w' w.heap.size Z' ∧ Below W.heap.size W w' ∧ Below w.heap.size w w' from fun W hW => by
    rw [hN]
    refine (copies_any ca cc Z W (h.on hW).wr (h.small hS) (by omega)).mono ?_
    rintro e w' ⟨g, c', Z', h1, h2, h3, h4, h5⟩
    exact ⟨g, c', Z', h1, h2, own_low h3 hW.size, fun z hz => by obtain ⟨d1, d2, d3⟩ := h4 z hz; exact ⟨d1, d2, own_low d3 hW.size⟩, h5, bt hW h5⟩)
  have hc0 : ∀ W, Below w.heap.size w W → W.cell? ⟨tb, 0, none⟩ = some (.slice (some ⟨sb, 0, none⟩) S.size sc) := fun W hW => (h.on hW).md.c0
  have hc1 : ∀ W, Below w.heap.size w W → W.cell? ⟨tb, 1, none⟩ = some (.slice ca N cc) := fun W hW => by rw [hN]; exact (h.on hW).md.c1
  have hc2 : ∀ W, Below w.heap.size w W → W.cell? ⟨tb, 2, none⟩ = some (.bool D) := fun W hW => by rw [hD]; exact (h.on hW).md.c2
  have HX := Lib.hid h
  have HL := Lib.hid hl
  have HN := Lib.hid hN
  have HD := Lib.hid hD
  obtain ⟨pv, hpv⟩ : ∃ pv, pv = pq.map fun b => (⟨b, 0, none⟩ : Addr) := ⟨_, rfl⟩
  have HPV := Lib.hid hpv
  unfold ppV
  rw [← hpv]
  obtain ⟨n, hn⟩ : ∃ n, n = S.size := ⟨_, rfl⟩
  rw [← hn] at hc0 HCS
  have HNS := Lib.hid hn
  clear h hF hS hcl hl hN hD hpv hn
  go_enter Try.func11, Try.ntmps11
  go_wp2_with fail
  go_region_held (fun W => Below w.heap.size w W) (first | assumption | exact (Below.refl _ _).drew | (refine Below.drew ?_; assumption) | exact Below.alloc hbw3 hbw3.size _ | exact Below.alloc hbw4 hbw4.size _)
    (first
      | (go_at_call 32; refine (HCS.out _ (by first | assumption | exact (Below.refl _ _).drew | (refine Below.drew ?_; assumption))).mono ?_; rintro e w3 ⟨g3, c3, rfl, hs3, hlo3, hb3, hbw3⟩; have HS3 := Lib.hid hs3; have HLO3 := Lib.hid hlo3; have HB3 := Lib.hid hb3; clear hs3 hlo3 hb3)
      | (go_at_call 33; refine (HCP.out _ (by first | assumption | exact (Below.refl _ _).drew | (refine Below.drew ?_; assumption))).mono ?_; rintro e w4 ⟨g4, c4, Z4, rfl, hz4, ho4, hd4, hb4, hbw4⟩; have HZ4 := Lib.hid hz4; have HO4 := Lib.hid ho4; have HD4 := Lib.hid hd4; have HB4 := Lib.hid hb4; clear hz4 ho4 hd4 hb4))
  clear hc0 hc1 hc2 HCS HCP
  go_wp2_with fail
  go_ret
  have hal : Below w4.heap.size w4 (w4.alloc (.cells #[.slice (some ⟨g3, 0, none⟩) n c3, .slice (some ⟨g4, 0, none⟩) N c4, .bool D, .pointer pv] 73)) := (Below.refl _ _).alloc (Nat.le_refl _) _
  have hZl : Z4.length = N := by have := congrArg List.length HZ4.out; rw [HN.out]; simpa using this
  have hlt3 : g3 < w3.heap.size := HS3.out.lt
  refine ⟨w4.heap.size, MedF w4.heap.size g3 (caV (some ⟨g4, 0, none⟩) Z4 c4) Z4, rfl, ⟨g3, c3, some ⟨g4, 0, none⟩, c4, Z4, ⟨?_, ?_, ?_, ?_, ?_⟩, fun k => Iff.rfl⟩, ?_, bt hbw4 hal⟩
  · rw [HX.out.cache, ← HZ4.out]
  · unfold Md ppV caV
    rw [← HNS.out, hZl, ← HD.out, ← HPV.out]
    exact heap_alloc_new w4 _
  · have h := HS3.out
    rw [HNS.out] at h
    exact (h.same (HB4.out.block g3 hlt3)).same (hal.block g3 (by have := HB4.out.size; omega))
  · have h := own_low (own_belowU HO4.out hal) (Nat.zero_le _)
    unfold caV
    rw [hZl]
    exact h
  · exact (HD4.out.on hal).dr
  · rintro k (rfl | rfl | e | ⟨z, hz, e⟩)
    · exact hbw4.size
    · exact HLO3.out
    · cases e; exact (own_lt HO4.out rfl).1
    · exact (own_lt (HD4.out z hz).2.2 e).1

/-! ## slices.Backward over writes -/
/-- What a round is handed: a place, and the write there. -/
abbrev IW := Nat × ZW
def itW (x : IW) : Array Value := #[.int .i64 (x.1 : Nat), zA x.2]
def RdW (Bx : Nat) (a : Option Addr) (cap : Nat) (Z : List ZW) (W : World) : Prop :=
  W.cell? ⟨Bx, 0, none⟩ = some (.slice a Z.length cap) ∧ ∀ k z, Z[k]? = some z → ∃ g, a = some ⟨g, 0, none⟩ ∧ W.cell? ⟨g, k * 2, none⟩ = some (.int .i64 (z.1.1 : Nat)) ∧ W.cell? ⟨g, k * 2 + 1, none⟩ = some (.slice z.2.1 512 z.2.2)
def BkW (Z : List ZW) (pre : List IW) : Prop := pre.length ≤ Z.length ∧ ∀ k x, pre[k]? = some x → x.1 = Z.length - 1 - k ∧ Z[Z.length - 1 - k]? = some x.2
theorem BkW.nil (Z : List ZW) : BkW Z [] := ⟨Nat.zero_le _, fun k x h => by simp at h⟩
theorem BkW.snoc {Z : List ZW} {pre : List IW} (h : BkW Z pre) (x : IW) (hl : pre.length < Z.length) (hx : x.1 = Z.length - 1 - pre.length) (hz : Z[Z.length - 1 - pre.length]? = some x.2) : BkW Z (pre ++ [x]) := by
  refine ⟨by simp; omega, fun k y hk => ?_⟩
  by_cases e : k < pre.length
  · rw [List.getElem?_append_left e] at hk; exact h.2 k y hk
  · have hlt := (List.getElem?_eq_some_iff.1 hk).1
    have e2 : k = pre.length := by simp at hlt; omega
    subst e2
    rw [List.getElem?_append_right (Nat.le_refl _), Nat.sub_self] at hk
    cases hk
    exact ⟨hx, hz⟩
/-- A place of Z, and the write there. -/
abbrev IWz (Z : List ZW) := {x : IW // Z[x.1]? = some x.2}
abbrev ivs {Z : List ZW} (pre : List (IWz Z)) : List IW := pre.map Subtype.val
theorem ivs_snoc {Z : List ZW} (pre : List (IWz Z)) (x : IWz Z) : ivs (pre ++ [x]) = ivs pre ++ [x.1] := by simp [ivs]
set_option maxHeartbeats 2000000 in
theorem backW_in (F : Fence) (n : Nat) (hF : F.fn 53) (hro : F.round = none) (hn : 1 ≤ n) (l Bx cap : Nat) (a : Option Addr) (Z : List ZW) (hlen : Z.length ≤ 1000) (J Jx : List (IWz Z) → World → Prop)
    (hY : ∀ pre x W, J pre W → pre.length < Z.length → YieldAt F (n - 1) Try.prog l (itW x.1) W fun e W' =>
      (e = .returned (.bool true) ∧ J (pre ++ [x]) W' ∧ (RdW Bx a cap Z W → RdW Bx a cap Z W')) ∨ (e = .returned (.bool false) ∧ Jx (pre ++ [x]) W'))
    (W : World) (hR0 : RdW Bx a cap Z W) (h0 : J [] W) :
    CallsIn F n Try.prog 53 #[.func (.yield l) #[] #[], .pointer (some ⟨Bx, 0, none⟩)] W fun e W' => (∃ v, e = .returned v) ∧
      ((∃ ys, (ys.length = Z.length ∧ BkW Z (ivs ys)) ∧ J ys W') ∨ (∃ pre, BkW Z (ivs pre) ∧ Jx pre W')) := by
  refine callsIn_of_wp Try.func53 rfl hF ?_ hro
  simp only [Try.ntmps53, List.size_toArray, List.length_cons, List.length_nil, Nat.reduceAdd, Nat.reduceSub, Array.replicate_succ, Array.replicate_zero, List.push_toArray, List.append_toArray, List.nil_append, List.cons_append]
  have hb := hR0.1
  obtain ⟨N, hN⟩ : ∃ N, N = Z.length := ⟨_, rfl⟩
  have HN := Lib.hid hN
  rw [← hN] at hb hlen
  clear hN
  gi_wp2
  gi_loopw [3] (fun i wr => ∃ (r : Nat) (pre : List (IWz Z)), pre.length + r = N ∧ BkW Z (ivs pre) ∧ ((r = 0 ∧ i = .int .i64 (-1)) ∨ ∃ j : Nat, r = j + 1 ∧ i = .int .i64 (j : Int)) ∧ J pre wr ∧ RdW Bx a cap Z wr)
    (fun i _ => (intOf i + 1).toNat)
  case atStart =>
    refine ⟨N, [], by simp, BkW.nil _, ?_, h0, hR0⟩
    rcases Nat.eq_zero_or_pos N with e | e
    · subst e; exact .inl ⟨rfl, by go_num⟩
    · obtain ⟨j, rfl⟩ : ∃ j, N = j + 1 := ⟨N - 1, by omega⟩
      exact .inr ⟨j, rfl, by go_num⟩
  case round =>
    obtain ⟨r, pre, hpl, hbk, hi, hJs, hRd⟩ := hrel
    rcases hi with ⟨rfl, rfl⟩ | ⟨j, rfl, rfl⟩
    · gi_wp2
      go_end0
      exact ⟨⟨_, rfl⟩, .inl ⟨pre, ⟨by rw [← HN.out]; omega, hbk⟩, hJs⟩⟩
    · obtain ⟨z, hz⟩ : ∃ z, Z[j]? = some z := ⟨_, List.getElem?_eq_getElem (by rw [← HN.out]; omega)⟩
      obtain ⟨g, rfl, hc0, hc1⟩ := hRd.2 j z hz
      have hbx := hRd.1
      rw [← HN.out] at hbx
      obtain ⟨fn, tmps, assign, body, hy, hR⟩ := hY pre ⟨(j, z), hz⟩ wr hJs (by rw [← HN.out]; omega)
      dsimp only [itW, zA] at hy
      have q1 : (j : Int) < (N : Int) := by omega
      have q2 : (0 : Int) ≤ (j : Int) := by omega
      have hk := hbk.snoc (j, z) (by rw [List.length_map, ← HN.out]; omega) (by show j = _; rw [List.length_map, ← HN.out]; omega) (by rw [show Z.length - 1 - (ivs pre).length = j by rw [List.length_map, ← HN.out]; omega]; exact hz)
      have hk := (ivs_snoc pre ⟨(j, z), hz⟩).symm ▸ hk
      gi_wp2
      refine hR.mono ?_
      rintro e W3 (⟨rfl, hJ3, hk3⟩ | ⟨rfl, hJx3⟩)
      · gi_wp2
        go_roundw
        case rel =>
          refine ⟨j, _, by simp; omega, hk, ?_, hJ3, hk3 hRd⟩
          rcases Nat.eq_zero_or_pos j with e | e
          · subst e; exact .inl ⟨rfl, by go_num⟩
          · obtain ⟨m, rfl⟩ : ∃ m, j = m + 1 := ⟨j - 1, by omega⟩
            exact .inr ⟨m, rfl, by go_num⟩
        case measure => simp [intOf]
      · gi_wp2
        refine bodyPost_ret (results_none rfl _ _ _) rfl ?_
        exact ⟨⟨_, rfl⟩, .inr ⟨_, hk, hJx3⟩⟩
set_option maxHeartbeats 1000000 in
theorem backW_any (a : Option Addr) (len cap : Nat) (w : World) :
    Calls Try.prog 47 #[.slice a len cap] w fun e w' => e = .returned (.func (.func 53) #[] #[.pointer (some ⟨w.heap.size, 0, none⟩)]) ∧ w' = w.alloc (.cells #[.slice a len cap] 36) := by
  go_enter Try.func47, Try.ntmps47
  go_wp2
  go_ret
  exact ⟨rfl, rfl⟩
theorem backW_stops (F : Fence) (n : Nat) (hF : F.fn 53) (hro : F.round = none) (hn : 1 ≤ n) (Bx cap : Nat) (a : Option Addr) (Z : List ZW) (hlen : Z.length ≤ 1000) (w : World)
    (hBx : Bx < w.heap.size) (hR : RdW Bx a cap Z w) (hlow : ∀ g, a = some ⟨g, 0, none⟩ → 0 < Z.length → g < w.heap.size) :
    SeqStopsK F n Try.prog 53 #[.pointer (some ⟨Bx, 0, none⟩)] (fun x : IWz Z => itW x.1) (fun W W' => RdW Bx a cap Z W → RdW Bx a cap Z W') (fun ys => ys.length = Z.length ∧ BkW Z (ivs ys)) (fun pre => BkW Z (ivs pre)) Z.length w := fun l J Jx W hW _ _ hY h0 => by
  refine backW_in F n hF hro hn l Bx cap a Z hlen J Jx hY W ⟨(hW.cell (p := ⟨Bx, 0, none⟩) hBx).trans hR.1, fun k z hz => ?_⟩ h0
  obtain ⟨g, e, h1, h2⟩ := hR.2 k z hz
  have hg := hlow g e (by have := (List.getElem?_eq_some_iff.1 hz).1; omega)
  exact ⟨g, e, (hW.cell (p := ⟨g, k * 2, none⟩) hg).trans h1, (hW.cell (p := ⟨g, k * 2 + 1, none⟩) hg).trans h2⟩
end Go.Proofs.Ytoonaendakjecaa
