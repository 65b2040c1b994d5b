/- Package journal: filled, share, Home, PutHome where it is refused. -/
import Derived.Test.YtkfdcdfaikkneaaGreatDoorXe
namespace Go.Proofs.YtkfdcdfaikkneaaGreatDoor
open Go.ChangeShapes Go.WideShapes Go.ChangeAt Go.RowKit Go.Shelf
set_option linter.unusedVariables false
set_option linter.unusedSimpArgs false
set_option maxRecDepth 100000
attribute [local go_sem] Oper.semAt_some

theorem blankJ (a : Option Addr) (n c : Nat) (b : List Int) (w : World) (hx : Arg8c w a n c b) :
    Calls Tryz.prog 27 #[.slice a n c] w fun e w' => e = .returned (.bool (zeroL b)) ∧ w = w' := by
  have hn := hx.1.2.2.2
  unfold maxLen at hn
  have HZ := Lib.hid (zero_any a n c b w hx.1.1 hx.1.2.2.1 (by omega))
  obtain ⟨q, hq⟩ : ∃ q, q = zeroL b := ⟨_, rfl⟩
  rw [← hq] at HZ ⊢
  clear hx hn hq
  go_enter Tryz.func27, Tryz.ntmps27
  go_wp2_with (go_at_call 55; go_loud (refine HZ.out.mono ?_; rintro e w1 ⟨rfl, rfl⟩))
  go_ret
  exact ⟨rfl, rfl⟩
variable {tb : Nat} {F F' Fp : Nat → Prop} {S : MS} {pp : Option Nat} {l : Int} {u j : Nat}
def flE (S : MS) (i : Nat) : Int := match S.shows i with
  | none => 10
  | some b => if zeroL b = true then 16 else 0
def flB (S : MS) (i : Nat) : List Int := match S.shows i with
  | none => []
  | some b => if zeroL b = true then [] else b
theorem opRead_in {S : MS} {i : Nat} {l : Int} {u : Nat} (hd : S.down = false) (hl : l ≠ 0) (hi : i < S.size) : opRead S (i : Nat) l u = match S.shows i with
  | none => ⟨[], 10, S, l, u⟩
  | some b => ⟨b, 0, S, l, u⟩ := by
  unfold opRead
  rw [if_neg (by rw [hd]; simp [hl]), if_neg (by unfold inR; intro h; apply h; omega), Int.toNat_natCast]
  cases S.shows i <;> rfl
set_option maxHeartbeats 2000000 in
theorem filled_any {w : World} (h : MJ w tb F S pp Fp l u j) (hj : j ≤ 999) (hd : S.down = false) (hl : l ≠ 0) (i : Nat) (hi : i < S.size) :
    Calls Tryz.prog 24 #[tbV tb, .int .i64 (i : Nat)] w fun e w' => ∃ a k, e = .returned (.tuple #[.slice a (flB S i).length k, .int .i64 (flE S i)]) ∧ Arg8c w' a (flB S i).length k (flB S i) ∧ Below w.heap.size w w' := by
  have hs2 := h.ok.size2
  have hr := jread (i := (i : Nat)) h hj (by unfold i64R; omega)
  rw [opRead_in hd hl hi] at hr
  have hsh := fun b (e : S.shows i = some b) => h.ok.shows e
  unfold flB flE
  clear h hd hl
  cases hS : S.shows i with
  | none =>
    rw [hS] at hr
    dsimp only at hr ⊢
    have HR := Lib.hid hr
    clear hr hS hsh
    go_enter Tryz.func24, Tryz.ntmps24
    go_wp2_with (go_at_call 26; go_loud (refine HR.out.mono ?_; rintro e w1 ⟨a, c, rfl, -, hb⟩; have HB := Lib.hid hb; clear hb))
    go_ret2
    exact ⟨none, 0, rfl, arg8c_nil _, HB.out⟩
  | some b =>
    rw [hS] at hr
    dsimp only at hr ⊢
    have HR := Lib.hid hr
    obtain ⟨q, hq⟩ : ∃ q, q = zeroL b := ⟨_, rfl⟩
    have HQ := Lib.hid hq
    rw [← hq]
    clear hr hS hsh hq
    cases q
    · rw [if_neg (by decide), if_neg (by decide)]
      go_enter Tryz.func24, Tryz.ntmps24
      go_wp2_with (first
        | (go_at_call 26; go_loud (refine HR.out.mono ?_; rintro e w1 ⟨a, c, rfl, hx, hb⟩; have HB := Lib.hid hb; have HX := Lib.hid hx; clear hb hx))
        | (go_at_call 27; go_loud (refine (blankJ _ _ _ b _ HX.out).mono ?_; rw [← HQ.out]; rintro e w2 ⟨rfl, rfl⟩)))
      go_ret2
      exact ⟨a, c, rfl, HX.out, HB.out⟩
    · rw [if_pos rfl, if_pos rfl]
      go_enter Tryz.func24, Tryz.ntmps24
      go_wp2_with (first
        | (go_at_call 26; go_loud (refine HR.out.mono ?_; rintro e w1 ⟨a, c, rfl, hx, hb⟩; have HB := Lib.hid hb; have HX := Lib.hid hx; clear hb hx))
        | (go_at_call 27; go_loud (refine (blankJ _ _ _ b _ HX.out).mono ?_; rw [← HQ.out]; rintro e w2 ⟨rfl, rfl⟩)))
      go_ret2
      exact ⟨none, 0, rfl, arg8c_nil _, HB.out⟩
def zSH : SH := ⟨0, 0, 0, 0, []⟩
def shE (S : MS) (i : Nat) : Int := if flE S i = 0 then pshE (flB S i) else flE S i
def shZ (S : MS) (i : Nat) : SH := if flE S i = 0 then pshZ (flB S i) else zSH
theorem byteI0 : byteI 0 := ⟨Int.le_refl _, by omega⟩
theorem zSH_wf : zSH.Wf := ⟨byteI0, byteI0, ⟨Int.le_refl _, by decide⟩, ⟨Int.le_refl _, by decide⟩, fun x hx => by cases hx⟩
theorem pshZ_wf {b : List Int} (h : AllB b) : (pshZ b).Wf ∧ (pshZ b).row.length ≤ 480 := by
  cases hp : psh b with
  | none => rw [(psh_zero hp).1]; exact ⟨zSH_wf, by simp⟩
  | some s =>
    rw [(psh_one hp).1]
    obtain ⟨_, _, ho, _, e⟩ := psh_some hp
    exact ⟨by rw [e]; exact pshR_wf h, ho.2.2⟩
theorem flB_ok {S : MS} (h : S.Ok) (i : Nat) : AllB (flB S i) ∧ (flB S i).length ≤ 512 := by
  unfold flB
  cases e : S.shows i with
  | none => exact ⟨fun x hx => (by cases hx), by simp⟩
  | some b =>
    dsimp only
    split
    · exact ⟨fun x hx => (by cases hx), by simp⟩
    · exact ⟨(h.shows e).2, by rw [(h.shows e).1]; exact Nat.le_refl _⟩
theorem shZ_wf {S : MS} (h : S.Ok) (i : Nat) : (shZ S i).Wf ∧ (shZ S i).row.length ≤ 480 := by
  unfold shZ
  split
  · exact pshZ_wf (flB_ok h i).1
  · exact ⟨zSH_wf, by simp [zSH]⟩
theorem shAt_E (S : MS) (i : Nat) : (shE S i = 0 ∧ shAt S i = some (shZ S i)) ∨ (shE S i ≠ 0 ∧ shAt S i = none) := by
  cases e : S.shows i with
  | none =>
    have f1 : flE S i = 10 := by unfold flE; rw [e]
    exact .inr ⟨by unfold shE; rw [f1, if_neg (by decide)]; decide, by unfold shAt; rw [e]⟩
  | some b =>
    by_cases hz : zeroL b = true
    · have f1 : flE S i = 16 := by unfold flE; rw [e]; exact if_pos hz
      exact .inr ⟨by unfold shE; rw [f1, if_neg (by decide)]; decide, by unfold shAt; rw [e]; exact if_pos hz⟩
    · have f1 : flE S i = 0 := by unfold flE; rw [e]; exact if_neg hz
      have f2 : flB S i = b := by unfold flB; rw [e]; exact if_neg hz
      have f3 : shAt S i = psh b := by unfold shAt; rw [e]; exact if_neg hz
      have f4 : shE S i = pshE b := by unfold shE; rw [if_pos f1, f2]
      have f5 : shZ S i = pshZ b := by unfold shZ; rw [if_pos f1, f2]
      rw [f3, f4, f5]
      cases hp : psh b with
      | none => exact .inr ⟨by rw [(psh_zero hp).2]; decide, rfl⟩
      | some s => exact .inl ⟨(psh_one hp).2, by rw [(psh_one hp).1]⟩
theorem results_share0 (tmps : Array Value) (w : World) (g : Nat) (x0 x1 x2 x3 x4 v : Value) (h2 : tmps.getD 4 undef = .pointer (some ⟨g, 0, none⟩)) (h3 : tmps.getD 5 undef = v) (hg : w.heap[g]? = some (.cells #[x0, x1, x2, x3, x4] 54 (0, 0))) :
    (results Tryz.f33 tmps).run Tryz.prog w = .ok (.tuple #[.agg #[x0, x1, x2, x3, x4], v]) w := by
  have h2' : tmps[4]?.getD undef = .pointer (some ⟨g, 0, none⟩) := by simpa using h2
  have h3' : tmps[5]?.getD undef = v := by simpa using h3
  have hr := run_loadVar_row (P := Tryz.prog) w g 54 54 #[x0, x1, x2, x3, x4] (0, 0) _ hg Tryz.underlying54 rfl sizeSh
  simp [results, Tryz.f33, h2', h3', asAddr, hr]
theorem results_home0 (tmps : Array Value) (w : World) (g : Nat) (x0 x1 x2 x3 x4 v : Value) (h2 : tmps.getD 4 undef = .pointer (some ⟨g, 0, none⟩)) (h3 : tmps.getD 5 undef = v) (hg : w.heap[g]? = some (.cells #[x0, x1, x2, x3, x4] 54 (0, 0))) :
    (results Tryz.f14 tmps).run Tryz.prog w = .ok (.tuple #[.agg #[x0, x1, x2, x3, x4], v]) w := by
  have h2' : tmps[4]?.getD undef = .pointer (some ⟨g, 0, none⟩) := by simpa using h2
  have h3' : tmps[5]?.getD undef = v := by simpa using h3
  have hr := run_loadVar_row (P := Tryz.prog) w g 54 54 #[x0, x1, x2, x3, x4] (0, 0) _ hg Tryz.underlying54 rfl sizeSh
  simp [results, Tryz.f14, h2', h3', asAddr, hr]
set_option maxHeartbeats 2000000 in
theorem share_any {w : World} (h : MJ w tb F S pp Fp l u j) (hj : j ≤ 999) (hd : S.down = false) (hl : l ≠ 0) (i : Nat) (hi : i < S.size) :
    Calls Tryz.prog 33 #[tbV tb, .int .i64 (i : Nat)] w fun e w' => ∃ a k, e = .returned (.tuple #[shG (shZ S i) (.slice a (shZ S i).row.length k), .int .i64 (shE S i)]) ∧ Arg8c w' a (shZ S i).row.length k (shZ S i).row ∧ Below w.heap.size w w' ∧ NewS w a (shZ S i).row.length := by
  obtain ⟨A, hA⟩ : ∃ A, A = w.alloc (.cells #[.int .u8 0, .int .u8 0, .int .u32 0, .int .u64 0, .slice none 0 0] 54) := ⟨_, rfl⟩
  have hwA : Below w.heap.size w A := by rw [hA]; exact (Below.refl _ _).alloc (Nat.le_refl _) _
  have hAs : A.heap.size = w.heap.size + 1 := by rw [hA]; simp
  have r1 : A.heap[w.heap.size]? = some (.cells #[.int .u8 0, .int .u8 0, .int .u32 0, .int .u64 0, .slice none 0 0] 54 (0, 0)) := by rw [hA]; exact heap_alloc_new w _
  have HFI := Lib.hid (filled_any (h.on hwA) hj hd hl i hi)
  have hB := (flB_ok h.ok i).2
  unfold shE shZ
  obtain ⟨E, hE⟩ : ∃ E, E = flE S i := ⟨_, rfl⟩
  obtain ⟨B, hBB⟩ : ∃ B, B = flB S i := ⟨_, rfl⟩
  rw [← hE, ← hBB] at HFI
  rw [← hBB] at hB
  rw [← hE, ← hBB]
  have HA := Lib.hid (And.intro hA (And.intro hwA (And.intro hAs r1)))
  have HBL := Lib.hid hB
  clear hA hwA hAs r1 h hE hBB hB
  by_cases hE0 : E = 0
  · rw [if_pos hE0, if_pos hE0]
    have HPS := Lib.hid (fun (a : Option Addr) (k : Nat) (W : World) (hx : Arg8c W a B.length k B) => parseShare_new a B.length k B W hx (by have := HBL.out; omega))
    obtain ⟨Z, hZ⟩ : ∃ Z, Z = pshZ B := ⟨_, rfl⟩
    obtain ⟨E2, hE2⟩ : ∃ E2, E2 = pshE B := ⟨_, rfl⟩
    rw [← hZ, ← hE2] at HPS
    rw [← hZ, ← hE2]
    unfold shG at HPS ⊢
    subst hE0
    clear hZ hE2
    go_enter Tryz.func33, Tryz.ntmps33
    go_wp2_with (first
      | (go_at_call 24; go_loud (rw [← HA.out.1]; refine HFI.out.mono ?_; rintro e w1 ⟨a, k, rfl, hx, hb⟩; have HX := Lib.hid hx; have HB := Lib.hid hb; clear hx hb))
      | (go_at_call 60; go_loud (refine (HPS.out _ _ _ HX.out).mono ?_; rintro e w2 ⟨a2, k2, rfl, hx2, hb2, hn2⟩; have hb3 := bt HB.out hb2; have r3 := (hb3.block _ (by rw [HA.out.2.2.1]; omega)).trans HA.out.2.2.2; have R3 := Lib.hid r3; obtain ⟨⟨z0, z1, z2, z3, z4⟩, zf⟩ := free5 r3; have HX2 := Lib.hid hx2; have HB3 := Lib.hid hb3; have HN2 := Lib.hid hn2; clear hx2 hb2 hb3 r3 hn2)))
    have hsz := HB.out.size
    have hAs := HA.out.2.2.1
    refine bodyPost_ret (v := .tuple #[.agg #[.int .u8 Z.m, .int .u8 Z.p, .int .u32 Z.st, .int .u64 Z.g, .slice a2 Z.row.length k2], .int .i64 E2]) (results_share0 _ _ w.heap.size _ _ _ _ _ _ rfl rfl (set5_row _ _ _ _ _ R3.out)) rfl ⟨a2, k2, rfl, ?_, set5_below (bt HA.out.2.1 HB3.out) (Nat.le_refl _) _ _ _ _ _, fun h0 b o e => by have := HN2.out h0 b o e; omega⟩
    exact HX2.out.blockT (fun h0 b o e => set5_other _ _ _ _ _ _ _ (by have := HN2.out h0 b o e; omega))
  · rw [if_neg hE0, if_neg hE0]
    have qE : (E == 0) = false := by rw [beq_eq_false_iff_ne]; exact hE0
    clear hE0
    unfold shG zSH
    go_enter Tryz.func33, Tryz.ntmps33
    go_wp2_with (go_at_call 24; go_loud (rw [← HA.out.1]; refine HFI.out.mono ?_; rintro e w1 ⟨a, k, rfl, hx, hb⟩; have r3 := (hb.block _ (by rw [HA.out.2.2.1]; omega)).trans HA.out.2.2.2; have R3 := Lib.hid r3; have HB3 := Lib.hid hb; obtain ⟨⟨z0, z1, z2, z3, z4⟩, zf⟩ := free5 r3; clear hx hb r3))
    exact bodyPost_ret (v := .tuple #[.agg #[.int .u8 0, .int .u8 0, .int .u32 0, .int .u64 0, .slice none 0 0], .int .i64 E]) (results_share0 _ _ w.heap.size _ _ _ _ _ _ rfl rfl (set5_row _ _ _ _ _ R3.out)) rfl ⟨none, 0, rfl, arg8c_nil _, set5_below (bt HA.out.2.1 HB3.out) (Nat.le_refl _) _ _ _ _ _, fun _ b o e => by cases e⟩
def hoE (S : MS) (x : Int) : Int := if noHome S x = true then 2 else shE S (18 + x.toNat)
def hoZ (S : MS) (x : Int) : SH := if noHome S x = true then zSH else shZ S (18 + x.toNat)
set_option maxHeartbeats 2000000 in
theorem home_any {w : World} (h : MJ w tb F S pp Fp l u j) (hj : j ≤ 999) (hd : S.down = false) (hl : l ≠ 0) (x : Int) (hx : i64R x) :
    Calls Tryz.prog 14 #[tbV tb, .int .i64 x] w fun e w' => ∃ a k, e = .returned (.tuple #[shG (hoZ S x) (.slice a (hoZ S x).row.length k), .int .i64 (hoE S x)]) ∧ Arg8c w' a (hoZ S x).row.length k (hoZ S x).row ∧ Below w.heap.size w w' ∧ NewS w a (hoZ S x).row.length := by
  obtain ⟨A, hA⟩ : ∃ A, A = w.alloc (.cells #[.int .u8 0, .int .u8 0, .int .u32 0, .int .u64 0, .slice none 0 0] 54) := ⟨_, rfl⟩
  have hwA : Below w.heap.size w A := by rw [hA]; exact (Below.refl _ _).alloc (Nat.le_refl _) _
  have hAs : A.heap.size = w.heap.size + 1 := by rw [hA]; simp
  have r1 : A.heap[w.heap.size]? = some (.cells #[.int .u8 0, .int .u8 0, .int .u32 0, .int .u64 0, .slice none 0 0] 54 (0, 0)) := by rw [hA]; exact heap_alloc_new w _
  have HHO := Lib.hid (homeless_any (h.on hwA) x hx)
  unfold hoE hoZ
  obtain ⟨q, hq⟩ : ∃ q, q = noHome S x := ⟨_, rfl⟩
  rw [← hq] at HHO ⊢
  have HA := Lib.hid (And.intro hA (And.intro hwA (And.intro hAs r1)))
  unfold i64R at hx
  cases q
  · have h1 : ¬ (x < 0 ∨ (S.size : Int) - 18 ≤ x) := of_decide_eq_false hq.symm
    rw [if_neg (by decide), if_neg (by decide)]
    have hs2 := h.ok.size2
    have hwi : ((18 + x.toNat : Nat) : Int) = 18 + x := by omega
    have HSH := Lib.hid (fun (U : World) (hU : Below A.heap.size A U) => share_any (h.on (bt hwA hU)) hj hd hl (18 + x.toNat) (by omega))
    rw [hwi] at HSH
    obtain ⟨Z, hZ⟩ : ∃ Z, Z = shZ S (18 + x.toNat) := ⟨_, rfl⟩
    obtain ⟨E, hE⟩ : ∃ E, E = shE S (18 + x.toNat) := ⟨_, rfl⟩
    rw [← hZ, ← hE] at HSH
    rw [← hZ, ← hE]
    have q1 : x ≤ 3000 := by omega
    have q0 : 0 ≤ x := by omega
    unfold shG at HSH ⊢
    clear hZ hE h hd hl hq h1 hwi hA hwA hAs r1
    go_enter Tryz.func14, Tryz.ntmps14
    go_wp2_with (first
      | (go_at_call 32; go_loud (rw [← HA.out.1]; refine HHO.out.mono ?_; rintro e w1 ⟨rfl, hb⟩; have HB := Lib.hid hb; clear hb))
      | (go_at_call 33; go_loud (refine (HSH.out _ HB.out).mono ?_; rintro e w2 ⟨a2, k2, rfl, hx2, hb2, hn2⟩; have hb3 := bt HB.out hb2; have r3 := (hb3.block _ (by rw [HA.out.2.2.1]; omega)).trans HA.out.2.2.2; have R3 := Lib.hid r3; obtain ⟨⟨z0, z1, z2, z3, z4⟩, zf⟩ := free5 r3; have HX2 := Lib.hid hx2; have HB3 := Lib.hid hb3; have HN2 := Lib.hid hn2; clear hx2 hb2 hb3 r3 hn2)))
    have hsz := HB.out.size
    have hAs := HA.out.2.2.1
    refine bodyPost_ret (v := .tuple #[.agg #[.int .u8 Z.m, .int .u8 Z.p, .int .u32 Z.st, .int .u64 Z.g, .slice a2 Z.row.length k2], .int .i64 E]) (results_home0 _ _ w.heap.size _ _ _ _ _ _ rfl rfl (set5_row _ _ _ _ _ R3.out)) rfl ⟨a2, k2, rfl, ?_, set5_below (bt HA.out.2.1 HB3.out) (Nat.le_refl _) _ _ _ _ _, fun h0 b o e => by have := HN2.out h0 b o e; omega⟩
    exact HX2.out.blockT (fun h0 b o e => set5_other _ _ _ _ _ _ _ (by have := HN2.out h0 b o e; omega))
  · rw [if_pos rfl, if_pos rfl]
    unfold shG zSH
    clear h hd hl hq hA hwA hAs r1
    go_enter Tryz.func14, Tryz.ntmps14
    go_wp2_with (go_at_call 32; go_loud (rw [← HA.out.1]; refine HHO.out.mono ?_; rintro e w1 ⟨rfl, hb⟩; have r3 := (hb.block _ (by rw [HA.out.2.2.1]; omega)).trans HA.out.2.2.2; have R3 := Lib.hid r3; have HB := Lib.hid hb; obtain ⟨⟨z0, z1, z2, z3, z4⟩, zf⟩ := free5 r3; clear hb r3))
    exact bodyPost_ret (v := .tuple #[.agg #[.int .u8 0, .int .u8 0, .int .u32 0, .int .u64 0, .slice none 0 0], .int .i64 2]) (results_home0 _ _ w.heap.size _ _ _ _ _ _ rfl rfl (set5_row _ _ _ _ _ R3.out)) rfl ⟨none, 0, rfl, arg8c_nil _, set5_below (bt HA.out.2.1 HB.out) (Nat.le_refl _) _ _ _ _ _, fun _ b o e => by cases e⟩
end Go.Proofs.YtkfdcdfaikkneaaGreatDoor
