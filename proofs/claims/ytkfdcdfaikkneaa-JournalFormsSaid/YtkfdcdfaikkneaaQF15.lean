/- Texts of mine, one behind the other: Xn Xo Xq. -/
import Derived.Test.YtkfdcdfaikkneaaXl
import Derived.Test.YtkfdcdfaikkneaaOi
import Derived.Deep.RegionHeld
import Derived.Deep.CutRange
import Derived.Test.YtkfdcdfaikkneaaOj
import Derived.Test.YtkfdcdfaikkneaaUg
/- JournalForms: what is refused (the seven calls). -/
namespace Go.Proofs.Ytkfdcdfaikkneaa
open Go.ChangeShapes Go.WideShapes Go.ChangeAt Go.RowKit Go.Shelf
set_option linter.unusedVariables false
set_option linter.unusedSimpArgs false
set_option maxRecDepth 100000
attribute [local go_sem] Oper.semAt_some

/-- A block of another type is none of the medium's. -/
theorem notF {W : World} {tb : Nat} {F : Nat → Prop} {S : MS} {pp : Option Nat} (h : MedR W tb F S pp) {k : Nat} {cs : Array Value} {T : TypeId} {f : Nat × Nat} (hk : W.heap[k]? = some (.cells cs T f))
    (h1 : 84 ≠ T) (h2 : 99 ≠ T) (h3 : 86 ≠ T) (h4 : 5 ≠ T) : ¬ F k := by
  obtain ⟨sb, sc, ca, cc, Z, hx, hF⟩ := h
  intro hf
  rcases (hF k).1 hf with e | e | e | ⟨z, hz, e⟩
  · exact blk_ne hx.md hk h1 e.symm
  · obtain ⟨_, _, cur, hs, _⟩ := hx.sec
    exact blk_ne hs hk h2 e.symm
  · exact own_ne hx.row e hk h3 rfl
  · exact own_ne (hx.dat z hz).2.2 e hk h4 rfl
def M00 : Nat → Option (List Int) := (MS.new 24).med
def zZ : SZ := (zSH, ((none : Option Addr), 0))
abbrev farO : Obj := .cells #[.int .u8 0, .int .u8 1, .int .u32 6, .int .u64 0, .slice none 0 0] 49 (0, 0)
abbrev badO : Obj := .cells #[.int .u8 5, .int .u8 1, .int .u32 0, .int .u64 0, .slice none 0 0] 49 (0, 0)
def farS : SH := ⟨0, 1, 6, 0, []⟩
def badS : SH := ⟨5, 1, 0, 0, []⟩
structure QF (w : World) (tb bf bb GM : Nat) (W : World) : Prop where
  m : ∃ F, MJ W tb F (memS M00) none FN15 (-1) 0 0 ∧ ∀ k, F k → w.heap.size ≤ k
  far : W.heap[bf]? = some farO
  bad : W.heap[bb]? = some badO
  many : W.ownsRow 0 49 5 (.slice (some ⟨GM, 0, none⟩) 17 17) 17 (szC (List.replicate 17 zZ))
  low : Below w.heap.size w W
/-- Rows of shares stay. -/
def KSh (W W' : World) : Prop := ∀ (b : Nat) (cs : Array Value), W.heap[b]? = some (.cells cs 49 (0, 0)) → W'.heap[b]? = some (.cells cs 49 (0, 0))
theorem keepA {W : World} {b : Nat} {o o' : Obj} (h : W.heap[b]? = some o) : (W.alloc o').heap[b]? = some o := (heap_alloc_old _ _ (Array.getElem?_eq_some_iff.1 h).1).trans h
theorem QF.sh {w W w' : World} {tb bf bb GM j : Nat} {F F' : Nat → Prop} (h : QF w tb bf bb GM W) (hm : MJ W tb F (memS M00) none FN15 (-1) 0 0) (hF : ∀ k, F k → w.heap.size ≤ k) (hm' : MJ w' tb F' (memS M00) none FN15 (-1) 0 j) (hs : Stp F FN15 W F' w') : QF w tb bf bb GM w' ∧ KSh W w' := by
  have hk : ∀ (b : Nat) (cs : Array Value), W.heap[b]? = some (.cells cs 49 (0, 0)) → w'.heap[b]? = some (.cells cs 49 (0, 0)) := fun b cs hb =>
    (hs.same ⟨(Array.getElem?_eq_some_iff.1 hb).1, notF hm.r hb (by decide) (by decide) (by decide) (by decide), fun h => h⟩).trans hb
  refine ⟨⟨⟨F', ⟨hm'.r, hm'.p, hm'.apart, hm'.ok, hm'.left, Nat.zero_le _, Nat.zero_le _⟩, fun k hf => hs.high h.low.size (fun k hk => hk.elim (hF k) (fun h => h.elim)) k (.inl hf)⟩, hk _ _ h.far, hk _ _ h.bad, own_blockT h.many (fun g e => by
    obtain ⟨cur, hc⟩ := own_heap h.many e
    exact (hk _ _ hc).trans hc.symm), h.low.trans (hs.below h.low.size (fun k hk => hk.elim (hF k) (fun h => h.elim)))⟩, hk⟩
theorem QF.bel {w W w' : World} {tb bf bb GM : Nat} (h : QF w tb bf bb GM W) (hb : Below W.heap.size W w') : QF w tb bf bb GM w' ∧ KSh W w' := by
  obtain ⟨F, hm, hF⟩ := h.m
  exact h.sh hm hF (hm.on hb) (Stp.of_below hb)
theorem QF.alloc {w W : World} {tb bf bb GM : Nat} (h : QF w tb bf bb GM W) (o : Obj) : QF w tb bf bb GM (W.alloc o) := (h.bel ((Below.refl _ _).alloc (Nat.le_refl _) _)).1
theorem QF.drew {w W : World} {tb bf bb GM : Nat} (h : QF w tb bf bb GM W) : QF w tb bf bb GM W.drew := (h.bel ((Below.refl _ _).drew)).1
theorem ans00 : ansE (memS M00) (-1) = 0 := by unfold ansE memS; simp
theorem farS_wf : farS.Wf := ⟨byteI0, ⟨by decide, by decide⟩, ⟨by decide, by decide⟩, ⟨by decide, by decide⟩, fun x hx => by cases hx⟩
theorem badS_wf : badS.Wf := ⟨⟨by decide, by decide⟩, ⟨by decide, by decide⟩, ⟨by decide, by decide⟩, ⟨by decide, by decide⟩, fun x hx => by cases hx⟩
theorem far_no : ¬ layOk (memS M00) farS := fun h => by have := h.1; unfold farS memS at this; simp at this
theorem bad_no : ¬ layOk (memS M00) badS := fun h => by have := h.2.1; unfold badS at this; simp at this
theorem one_row {W : World} {b : Nat} {s : SH} (hs : s.row = []) (hw : s.Wf) (h : W.heap[b]? = some (.cells #[.int .u8 s.m, .int .u8 s.p, .int .u32 s.st, .int .u64 s.g, .slice none 0 0] 49 (0, 0))) : ShRow W (some ⟨b, 0, none⟩) 1 1 [(s, (none, 0))] := by
  refine ⟨rfl, ⟨?_, .inr ⟨b, 1, _, rfl, Nat.zero_le _, h, Nat.le_refl _, by unfold maxLen; omega, rfl, ?_⟩⟩, fun z hz => ?_⟩
  · rw [szC_len]; rfl
  · simp [szC, szV, hs]
  · rw [List.mem_singleton.1 hz]
    show s.Wf ∧ s.row.length ≤ 500 ∧ Arg8c W none s.row.length 0 s.row
    rw [hs]
    exact ⟨hw, by simp, arg8c_nil W⟩
theorem sp_no1 {wh : Nat → SH → Nat} {s : SH} (h : ¬ layOk (memS M00) s) : spD false wh (L_ [(s, ((none : Option Addr), 0))]) (memS M00) (-1) 0 = ⟨[], 2, memS M00, -1, 0⟩ := spD_no (k := 0) ans00 (by simp) rfl h
section
variable {w : World} {tb bf bb GM : Nat}
theorem q_many (W : World) (h : QF w tb bf bb GM W) : Calls Try.prog 21 #[tbV tb, .slice (some ⟨GM, 0, none⟩) 17 17] W fun e w' => e = .returned (.int .i64 4) ∧ QF w tb bf bb GM w' ∧ KSh W w' := by
  obtain ⟨F, hm, hF⟩ := h.m
  obtain ⟨cur, hc⟩ := own_heap h.many rfl
  have hfr : Fr F FN15 W GM := ⟨(own_lt h.many rfl).2, notF hm.r hc (by decide) (by decide) (by decide) (by decide), fun h => h⟩
  have hz : ∀ z, z ∈ List.replicate 17 zZ → z = zZ := fun z hz => (List.mem_replicate.1 hz).2
  refine (stage_any hm (by omega) (some ⟨GM, 0, none⟩) 17 17 (List.replicate 17 zZ) ⟨by simp, h.many, fun z hz' => by rw [hz z hz']; exact ⟨zSH_wf, by simp [zZ, zSH], arg8c_nil W⟩⟩ (fun k hk => ?_)).mono ?_
  · rcases hk with e | ⟨z, o, hz', h0, e⟩
    · cases e; exact hfr
    · rw [hz z hz'] at h0; simp [zZ, zSH] at h0
  · rintro e w' ⟨F', rfl, h1, h2⟩
    have hD : spD (none : Option Nat).isSome whS (L_ (List.replicate 17 zZ)) (memS M00) (-1) 0 = ⟨[], 4, memS M00, -1, 0⟩ := by
      unfold spD
      rw [if_neg (by rw [ans00]; simp), if_pos (by simp)]
    rw [hD] at h1 ⊢
    exact ⟨rfl, h.sh hm hF h1 h2⟩
theorem q_far (W : World) (b : Nat) (h : QF w tb bf bb GM W) (hb : W.heap[b]? = some farO) : Calls Try.prog 21 #[tbV tb, .slice (some ⟨b, 0, none⟩) 1 1] W fun e w' => e = .returned (.int .i64 2) ∧ QF w tb bf bb GM w' ∧ KSh W w' := by
  obtain ⟨F, hm, hF⟩ := h.m
  have hfr : Fr F FN15 W b := ⟨(Array.getElem?_eq_some_iff.1 hb).1, notF hm.r hb (by decide) (by decide) (by decide) (by decide), fun h => h⟩
  refine (stage_any hm (by omega) (some ⟨b, 0, none⟩) 1 1 [(farS, (none, 0))] (one_row rfl farS_wf hb) (fun k hk => ?_)).mono ?_
  · rcases hk with e | ⟨z, o, hz', h0, e⟩
    · cases e; exact hfr
    · rw [List.mem_singleton.1 hz'] at h0; simp [farS] at h0
  · rintro e w' ⟨F', rfl, h1, h2⟩
    have hD : spD (none : Option Nat).isSome whS (L_ [(farS, ((none : Option Addr), 0))]) (memS M00) (-1) 0 = ⟨[], 2, memS M00, -1, 0⟩ := sp_no1 far_no
    rw [hD] at h1 ⊢
    exact ⟨rfl, h.sh hm hF h1 h2⟩
theorem q_bad (W : World) (b : Nat) (h : QF w tb bf bb GM W) (hb : W.heap[b]? = some badO) : Calls Try.prog 17 #[tbV tb, .slice (some ⟨b, 0, none⟩) 1 1] W fun e w' => e = .returned (.int .i64 2) ∧ QF w tb bf bb GM w' ∧ KSh W w' := by
  obtain ⟨F, hm, hF⟩ := h.m
  have hfr : Fr F FN15 W b := ⟨(Array.getElem?_eq_some_iff.1 hb).1, notF hm.r hb (by decide) (by decide) (by decide) (by decide), fun h => h⟩
  refine (apply_any hm (by omega) (some ⟨b, 0, none⟩) 1 1 [(badS, (none, 0))] (one_row rfl badS_wf hb) (fun k hk => ?_)).mono ?_
  · rcases hk with e | ⟨z, o, hz', h0, e⟩
    · cases e; exact hfr
    · rw [List.mem_singleton.1 hz'] at h0; simp [badS] at h0
  · rintro e w' ⟨F', rfl, h1, h2⟩
    have hD : spD (none : Option Nat).isSome whH (L_ [(badS, ((none : Option Addr), 0))]) (memS M00) (-1) 0 = ⟨[], 2, memS M00, -1, 0⟩ := sp_no1 bad_no
    rw [hD] at h1 ⊢
    exact ⟨rfl, h.sh hm hF h1 h2⟩
theorem q_home (W : World) (h : QF w tb bf bb GM W) : Calls Try.prog 22 #[tbV tb, .agg #[.int .u8 0, .int .u8 1, .int .u32 6, .int .u64 0, .slice none 0 0]] W fun e w' => e = .returned (.int .i64 2) ∧ QF w tb bf bb GM w' ∧ KSh W w' := by
  obtain ⟨F, hm, hF⟩ := h.m
  exact (putHome_no hm farS none 0 0 farS_wf (arg8c_nil W) (by omega) far_no).mono fun e w' ⟨h1, h2⟩ => ⟨h1, h.bel h2⟩
theorem answers_nil (W : World) : Calls Try.prog 47 #[.pointer none] W fun e w' => e = .returned (.int .i64 1) ∧ Below W.heap.size W w' := by
  have HR := Lib.hid (readNil_any 0 W)
  go_enter Try.func47, Try.ntmps47
  go_wp2_with (go_at_call 32; go_loud (refine HR.out.mono ?_; rintro e w1 ⟨a, n, c, rfl, hb⟩; have HB := Lib.hid hb; clear hb))
  go_ret
  exact ⟨rfl, HB.out⟩
theorem stage_nil (W : World) : Calls Try.prog 21 #[.pointer none, .slice none 0 0] W fun e w' => e = .returned (.int .i64 1) ∧ Below W.heap.size W w' := by
  have HR := Lib.hid (answers_nil W)
  have HS := Lib.hid (show Calls Try.prog 40 #[.pointer none, .slice none 0 0, .func (.func 45) #[] #[]] W fun e w' => e = .returned (.int .i64 1) ∧ Below W.heap.size W w' from by
    go_enter Try.func40, Try.ntmps40
    go_wp2_with (go_at_call 47; go_loud (refine HR.out.mono ?_; rintro e w1 ⟨rfl, hb⟩; have HB := Lib.hid hb; clear hb))
    go_ret
    exact ⟨rfl, HB.out⟩)
  go_enter Try.func21, Try.ntmps21
  go_wp2_with (go_at_call 40; go_loud (refine HS.out.mono ?_; rintro e w1 ⟨rfl, hb⟩; have HB := Lib.hid hb; clear hb))
  go_ret
  exact ⟨rfl, HB.out⟩
theorem mark_nil (W : World) : Calls Try.prog 23 #[.pointer none, .int .u64 1, .int .i64 0] W fun e w' => e = .returned (.int .i64 1) ∧ Below W.heap.size W w' := by
  have HR := Lib.hid (answers_nil W)
  go_enter Try.func23, Try.ntmps23
  go_wp2_with (go_at_call 47; go_loud (refine HR.out.mono ?_; rintro e w1 ⟨rfl, hb⟩; have HB := Lib.hid hb; clear hb))
  go_ret
  exact ⟨rfl, HB.out⟩
theorem write_nil2 (i : Int) (a : Option Addr) (n c : Nat) (W : World) : Calls Try.prog 43 #[.pointer none, .int .i64 i, .slice a n c] W fun e w' => e = .returned (.int .i64 1) ∧ Below W.heap.size W w' := by
  go_enter Try.func43, Try.ntmps43
  go_wp2
  go_ret
  exact ⟨rfl, Below.refl _ _⟩
theorem clear_nil (W : World) : Calls Try.prog 18 #[.pointer none, .int .u64 1] W fun e w' => e = .returned (.int .i64 1) ∧ Below W.heap.size W w' := by
  have hmk : (Instr.makeSlice 47 (.int .i64 512) (.int .i64 512)).run Try.prog W = .ok (.slice (some ⟨W.heap.size, 0, none⟩) 512 512) (W.alloc (.cells (madeCells #[.int .u8 0] 512) 5)) := run_make_row' (P := Try.prog) 47 5 (.int .u8 0) 1 Try.underlying47 info5 rfl .i64 .i64 512 (by omega) (by omega) W
  go_enter Try.func18, Try.ntmps18
  go_wp2_with fail
  clear hmk
  obtain ⟨V0, hV0⟩ : ∃ V0, V0 = W.alloc (.cells (madeCells #[.int .u8 0] 512) 5) := ⟨_, rfl⟩
  have HB0 := Lib.hid (show Below W.heap.size W V0 from by rw [hV0]; exact (Below.refl _ _).alloc (Nat.le_refl _) _)
  rw [← hV0]
  clear hV0
  go_loopw [9] (fun q wr => q = .int .i64 0 ∧ wr = V0) (fun q _ => 1)
  case atStart => exact ⟨rfl, rfl⟩
  case round =>
    obtain ⟨rfl, hw⟩ := hrel
    subst hw
    rename World => V0
    go_wp2_with (go_at_call 43; go_loud (refine (write_nil2 2 _ 512 512 _).mono ?_; rintro e w1 ⟨rfl, hb⟩; have HB := Lib.hid hb; clear hb))
    go_ret
    exact ⟨rfl, bt HB0.out HB.out⟩
end
/-! ## spoilt and lost sectors -/
theorem jspoil {w : World} {tb : Nat} {F Fp : Nat → Prop} {M : Nat → Option (List Int)} {l : Int} {u j : Nat} (h : MJ w tb F (memS M) none Fp l u j) (hj : j ≤ 900) (i : Nat) (hi : i < 24) (a : Option Addr) (c : Nat) (b : List Int) (hx : Arg8c w a 512 c b) (ho : Off F a 512) :
    Calls Try.prog 26 #[tbV tb, .int .i64 (i : Nat), .slice a 512 c] w fun e w' => ∃ F', e = .returned (.int .i64 0) ∧ MJ w' tb F' (memS (fun k => if k = i then some b else M k)) none Fp l u j ∧ Stp F Fp w F' w' := by
  have hl := hx.1.1
  have e : opSpoil (memS M) (i : Nat) b l u = ⟨[], 0, memS (fun k => if k = i then some b else M k), l, u⟩ := by
    unfold opSpoil
    rw [if_neg (by unfold inR memS; intro h; apply h; simp; omega), if_neg (by rw [hl]; simp)]
    rfl
  have hs := spoil_med tb F (memS M) none (i : Nat) l u a 512 c b w h.r h.ok (by have := h.few.1; omega) (by unfold i64R; omega) hx ho
  rw [e] at hs
  refine hs.mono ?_
  rintro e w' ⟨F', rfl, h1, h2, h3⟩
  refine ⟨F', rfl, ⟨h1, poKeep h.p (fun k hk => h2.2 k (poIn h.p k hk) (fun hf => h.apart k hf hk)), h.next h3, ?_, h.left, ⟨Nat.zero_le _, h.few.2⟩⟩, ⟨h2.monoF (fun k hk => .inl hk), h3⟩⟩
  refine ⟨fun k b' hb' => ?_, fun x hx' => (by cases hx'), h.ok.size1, h.ok.size2⟩
  change (if k = i then some b else M k) = some b' at hb'
  by_cases hk : k = i
  · rw [if_pos hk] at hb'; cases hb'; exact ⟨hl, hx.1.2.1⟩
  · rw [if_neg hk] at hb'; exact h.ok.med k b' hb'
theorem jlose {w : World} {tb : Nat} {F Fp : Nat → Prop} {M : Nat → Option (List Int)} {l : Int} {u j : Nat} (h : MJ w tb F (memS M) none Fp l u j) (hj : j ≤ 900) (i : Nat) (hi : i < 24) :
    Calls Try.prog 30 #[tbV tb, .int .i64 (i : Nat)] w fun e w' => ∃ F', e = .returned (.int .i64 0) ∧ MJ w' tb F' (memS (fun k => if k = i then none else M k)) none Fp l u j ∧ Stp F Fp w F' w' := by
  have e : opLose (memS M) (i : Nat) l u = ⟨[], 0, memS (fun k => if k = i then none else M k), l, u⟩ := by
    unfold opLose
    rw [if_neg (by unfold inR memS; intro h; apply h; simp; omega)]
    rfl
  have hs := lose_any tb F (memS M) none (i : Nat) l u w h.r h.ok (by have := h.few.1; omega) (by unfold i64R; omega)
  rw [e] at hs
  refine hs.mono ?_
  rintro e w' ⟨F', rfl, h1, h2, h3⟩
  refine ⟨F', rfl, ⟨h1, poKeep h.p (fun k hk => h2.2 k (poIn h.p k hk) (fun hf => h.apart k hf hk)), h.next h3, ?_, h.left, ⟨Nat.zero_le _, h.few.2⟩⟩, ⟨h2.monoF (fun k hk => .inl hk), h3⟩⟩
  refine ⟨fun k b' hb' => ?_, fun x hx' => (by cases hx'), h.ok.size1, h.ok.size2⟩
  change (if k = i then none else M k) = some b' at hb'
  by_cases hk : k = i
  · rw [if_pos hk] at hb'; cases hb'
  · rw [if_neg hk] at hb'; exact h.ok.med k b' hb'
theorem shE_zero {S : MS} {i : Nat} {b : List Int} (h : S.shows i = some b) (hz : zeroL b = true) : shE S i = 16 := by
  have f1 : flE S i = 16 := by unfold flE; rw [h]; exact if_pos hz
  unfold shE; rw [f1, if_neg (by decide)]
theorem shE_none {S : MS} {i : Nat} (h : S.shows i = none) : shE S i = 10 := by
  have f1 : flE S i = 10 := by unfold flE; rw [h]
  unfold shE; rw [f1, if_neg (by decide)]
theorem shE_b {S : MS} {i : Nat} {b : List Int} (h : S.shows i = some b) (hz : zeroL b = false) : shE S i = pshE b ∧ shZ S i = pshZ b := by
  have hz' : ¬ zeroL b = true := by rw [hz]; decide
  have f1 : flE S i = 0 := by unfold flE; rw [h]; exact if_neg hz'
  have f2 : flB S i = b := by unfold flB; rw [h]; exact if_neg hz'
  exact ⟨by unfold shE; rw [if_pos f1, f2], by unfold shZ; rw [if_pos f1, f2]⟩
theorem noHome_memS (M : Nat → Option (List Int)) (x : Int) : noHome (memS M) x = decide (x < 0 ∨ 6 ≤ x) := by
  unfold noHome
  rw [decide_eq_decide]
  show (x < 0 ∨ ((24 : Nat) : Int) - 18 ≤ x) ↔ _
  omega
theorem hoE_memS {M : Nat → Option (List Int)} {x : Int} (hM : ∀ k, k < 6 → M (18 + k) = some zsec) : (hoE (memS M) x = 2 ∧ (x < 0 ∨ 6 ≤ x)) ∨ (hoE (memS M) x = 16 ∧ 0 ≤ x ∧ x < 6) := by
  unfold hoE
  rw [noHome_memS]
  by_cases h : x < 0 ∨ 6 ≤ x
  · rw [decide_eq_true h, if_pos rfl]; exact .inl ⟨rfl, h⟩
  · rw [decide_eq_false h, if_neg (by decide)]
    exact .inr ⟨shE_zero (b := zsec) (hM x.toNat (by omega)) zeroL_zsec, by omega, by omega⟩
end Go.Proofs.Ytkfdcdfaikkneaa
/- JournalForms' walk. -/
namespace Go.Proofs.Ytkfdcdfaikkneaa
open Go.ChangeShapes Go.WideShapes Go.ChangeAt Go.RowKit Go.Shelf
set_option linter.unusedVariables false
set_option linter.unusedSimpArgs false
set_option maxRecDepth 100000
attribute [local go_sem] Oper.semAt_some

theorem run_make17 (W : World) : (Instr.makeSlice 29 (.int .i64 17) (.int .i64 17)).run Try.prog W = .ok (.slice (some ⟨W.heap.size, 0, none⟩) 17 17) (W.alloc (.cells (madeCells #[.int .u8 0, .int .u8 0, .int .u32 0, .int .u64 0, .slice none 0 0] (17 * 5)) 49)) := by
  obtain ⟨iS, hi, hz⟩ := Option.map_eq_some_iff.1 infoSh
  simp only [Prod.mk.injEq] at hz
  have h := run_make (P := Try.prog) W 29 49 iS (.agg #[.int .u8 0, .int .u8 0, .int .u32 0, .int .u64 0, .slice none 0 0]) Try.underlying29 hi hz.1 .i64 .i64 17 17 (by omega) (Int.le_refl _) (by rw [hz.2.2]; omega) (by omega)
  rw [hz.2.1] at h
  exact h
theorem made17 (W : World) : (W.alloc (.cells (madeCells #[.int .u8 0, .int .u8 0, .int .u32 0, .int .u64 0, .slice none 0 0] (17 * 5)) 49)).ownsRow 0 49 5 (.slice (some ⟨W.heap.size, 0, none⟩) 17 17) 17 (szC (List.replicate 17 zZ)) :=
  ⟨by rw [szC_len]; rfl, .inr ⟨W.heap.size, 17, _, rfl, Nat.zero_le _, heap_alloc_new W _, Nat.le_refl _, by unfold maxLen; omega, by rw [size_madeCells], by kernel_rfl⟩⟩
theorem heap_new1 (W : World) (o1 o : Obj) : ((W.alloc o1).alloc o).heap[W.heap.size + 1]? = some o := by
  have := heap_alloc_new (W.alloc o1) o
  rw [size_alloc1] at this
  exact this
set_option maxHeartbeats 32000000 in
theorem journalForms_core (blocks stripe count : Int) (a : Option Addr) (n c : Nat) (B : List Int) (w : World) (hb : i64R blocks) (hs : i64R stripe) (hct : i64R count) (hx : Arg8c w a n c B) (hn : n ≤ 600) :
    Calls Try.prog 4 #[.int .i64 blocks, .int .i64 stripe, .int .i64 count, .slice a n c] w fun e w' => e = .returned (.bool true) ∧ Below w.heap.size w w' := by
  have HX := Lib.hid hx
  have hcap := hx.1.2.2.2
  unfold maxLen at hcap
  have HNS := Lib.hid (And.intro hb (And.intro hs hct))
  unfold i64R at hb hs hct
  have q0 : ¬ (600 : Int) < (n : Int) := by omega
  clear hx
  go_enter Try.func4, Try.ntmps4
  go_upto_region 3 with (go_at_call 5; go_loud (refine (lives15 w).mono ?_; rintro e w1 ⟨rfl, hb1⟩; have HB1 := Lib.hid hb1; clear hb1))
  go_upto_region 4 with (go_at_call 19; go_loud (refine (sectors_any blocks w1 HNS.out.1).mono ?_; rintro e w2 ⟨rfl, rfl⟩))
  obtain ⟨SN, hSN⟩ : ∃ SN, SN = sectN blocks := ⟨_, rfl⟩
  rw [← hSN]
  unfold sectN at hSN
  obtain ⟨q, hq⟩ : ∃ q, q = decide (blocks < 1 ∨ 1024 < blocks) := ⟨_, rfl⟩
  have HSQ := Lib.hid (And.intro hSN hq)
  clear hSN
  go_cut [48] from 43 to 48 (fun v wx => v = .bool q ∧ w1 = wx)
  case first =>
    by_cases h1 : blocks < 1
    · have z : q = true := by rw [hq]; exact decide_eq_true (.inl h1)
      subst z
      clear hq
      go_wp2_with fail
      go_meet
      exact ⟨rfl, rfl⟩
    · by_cases h2 : 1024 < blocks
      · have z : q = true := by rw [hq]; exact decide_eq_true (.inr h2)
        subst z
        clear hq
        go_wp2_with fail
        go_meet
        exact ⟨rfl, rfl⟩
      · have z : q = false := by rw [hq]; exact decide_eq_false (fun h => h.elim h1 h2)
        subst z
        clear hq
        have h3 : decide (1024 < blocks) = false := decide_eq_false h2
        go_wp2_with fail
        go_meet
        exact ⟨rfl, rfl⟩
  case rest =>
  obtain ⟨rfl, hcut⟩ := hcut
  subst hcut
  clear hq
  go_upto_if 48 with (fail)
  go_cut [50] from 49 to 54 (fun _ wx => w1 = wx)
  case first =>
    cases q
    · have h := of_decide_eq_false HSQ.out.2.symm
      have z : SN = 18 + blocks := by rw [HSQ.out.1, if_pos (by omega)]
      subst z
      have h5 : blocks ≤ 1024 := by omega
      have h6 : 1 ≤ blocks := by omega
      clear h
      go_wp2_with fail
      go_meet
      rfl
    · have h := of_decide_eq_true HSQ.out.2.symm
      have z : SN = 0 := by rw [HSQ.out.1, if_neg (by omega)]
      subst z
      clear h
      go_wp2_with fail
      go_meet
      rfl
  case rest =>
  subst hcut
  clear HSQ
  go_upto_region 10 with (go_at_call 7; go_loud (refine (made15_any none FN15 (-1) 0 0 w1 ⟨fun k h => h, rfl, rfl⟩ (by unfold LeftOk; omega) (Nat.le_refl _)).mono ?_; rintro e w3 ⟨tb, F3, rfl, hm3, hf3, hb3⟩; have HM3 := Lib.hid (show MJ w3 tb F3 (memS M00) none FN15 (-1) 0 0 from hm3); have HF3 := Lib.hid hf3; have HB3 := Lib.hid hb3; clear hm3 hf3 hb3))
  obtain ⟨SL, hSL⟩ : ∃ SL, SL = snapM (memS M00) := ⟨_, rfl⟩
  obtain ⟨BS, hBS⟩ : ∃ BS, BS = strOfNums SL := ⟨_, rfl⟩
  have HSN := Lib.hid (show ∀ (U : World) (F : Nat → Prop) (u j : Nat), MJ U tb F (memS M00) none FN15 (-1) u j → j ≤ 1000 → Calls Try.prog 20 #[tbV tb] U fun e w' => ∃ a k, e = .returned (.slice a SL.length k) ∧ Arg8c w' a SL.length k SL ∧ Below U.heap.size U w' from fun U F u j hm hj => by
    rw [hSL]
    exact (snap_any tb F (memS M00) none U hm.r hm.ok (by have := hm.few.1; omega)).mono fun e w' ⟨a, k, h1, h2, _, h3⟩ => ⟨a, k, h1, h2, h3⟩)
  have HBS := Lib.hid hBS
  clear hSL hBS
  go_upto_region 11 with (go_at_call 20; go_loud (refine (HSN.out w3 F3 0 0 HM3.out (by omega)).mono ?_; rintro e w4 ⟨a4, k4, rfl, hx4, hb4⟩; have hcv := arg_str hx4 (Below.refl _ _); rw [← HBS.out] at hcv; have HB4 := Lib.hid hb4; clear hx4 hb4))
  have h17 := run_make17
  go_upto_region 14 with fail
  clear h17
  obtain ⟨V, hV⟩ : ∃ V, V = ((w4.alloc (.cells #[.int .u8 0, .int .u8 1, .int .u32 6, .int .u64 0, .slice none 0 0] 49)).alloc (.cells #[.int .u8 5, .int .u8 1, .int .u32 0, .int .u64 0, .slice none 0 0] 49)).alloc (.cells (madeCells #[.int .u8 0, .int .u8 0, .int .u32 0, .int .u64 0, .slice none 0 0] 85) 49) := ⟨_, rfl⟩
  have hQ : QF w tb w4.heap.size (w4.heap.size + 1) (w4.heap.size + 1 + 1) V := by
    have h3 := HM3.out.on HB4.out
    have hwV : Below w4.heap.size w4 V := by rw [hV]; exact (((Below.refl _ _).alloc (Nat.le_refl _) _).alloc (by simp) _).alloc (by simp; omega) _
    have hm := made17 ((w4.alloc (.cells #[.int .u8 0, .int .u8 1, .int .u32 6, .int .u64 0, .slice none 0 0] 49)).alloc (.cells #[.int .u8 5, .int .u8 1, .int .u32 0, .int .u64 0, .slice none 0 0] 49))
    have hn1 := heap_alloc_new (w4.alloc (.cells #[.int .u8 0, .int .u8 1, .int .u32 6, .int .u64 0, .slice none 0 0] 49)) (.cells #[.int .u8 5, .int .u8 1, .int .u32 0, .int .u64 0, .slice none 0 0] 49)
    rw [size_alloc1, size_alloc1] at hm
    rw [size_alloc1] at hn1
    refine ⟨⟨F3, h3.on hwV, fun k hk => Nat.le_trans HB1.out.size (HF3.out k hk)⟩, ?_, ?_, ?_, bt HB1.out (bt HB3.out (bt HB4.out hwV))⟩
    · rw [hV]; exact keepA (keepA (heap_alloc_new w4 _))
    · rw [hV]; exact keepA hn1
    · rw [hV]; exact hm
  rw [← hV]
  clear hV
  obtain ⟨GM, hGM⟩ : ∃ GM, GM = w4.heap.size + 1 + 1 := ⟨_, rfl⟩
  rw [← hGM] at hQ ⊢
  clear hGM
  obtain ⟨bb, hbb⟩ : ∃ bb, bb = w4.heap.size + 1 := ⟨_, rfl⟩
  rw [← hbb] at hQ ⊢
  clear hbb
  obtain ⟨bf, hbf⟩ : ∃ bf, bf = w4.heap.size := ⟨_, rfl⟩
  rw [← hbf] at hQ ⊢
  clear hbf
  have HQ := Lib.hid hQ
  clear hQ HM3 HF3 HB4 HB3 hcv
  go_cut [79, 80, 81] from 62 to 81 (fun v x y wx => ∃ E, v = .slice (some ⟨E, 0, none⟩) 7 7 ∧ x = .int .i64 7 ∧ y = .int .i64 0 ∧ wx.heap[E]? = some (.cells #[.int .i64 4, .int .i64 2, .int .i64 2, .int .i64 2, .int .i64 1, .int .i64 1, .int .i64 1] 32 (0, 0)) ∧ QF w tb bf bb GM wx)
  case first =>
    have f0 : ∀ W, QF w tb bf bb GM W → W.cell? ⟨bf, 0, none⟩ = some (.int .u8 0) := fun W h => (cell5 h.far).1
    have f1 : ∀ W, QF w tb bf bb GM W → W.cell? ⟨bf, 1, none⟩ = some (.int .u8 1) := fun W h => (cell5 h.far).2.1
    have f2 : ∀ W, QF w tb bf bb GM W → W.cell? ⟨bf, 2, none⟩ = some (.int .u32 6) := fun W h => (cell5 h.far).2.2.1
    have f3 : ∀ W, QF w tb bf bb GM W → W.cell? ⟨bf, 3, none⟩ = some (.int .u64 0) := fun W h => (cell5 h.far).2.2.2.1
    have f4 : ∀ W, QF w tb bf bb GM W → W.cell? ⟨bf, 4, none⟩ = some (.slice none 0 0) := fun W h => (cell5 h.far).2.2.2.2
    have g0 : ∀ W, QF w tb bf bb GM W → W.cell? ⟨bb, 0, none⟩ = some (.int .u8 5) := fun W h => (cell5 h.bad).1
    have g1 : ∀ W, QF w tb bf bb GM W → W.cell? ⟨bb, 1, none⟩ = some (.int .u8 1) := fun W h => (cell5 h.bad).2.1
    have g2 : ∀ W, QF w tb bf bb GM W → W.cell? ⟨bb, 2, none⟩ = some (.int .u32 0) := fun W h => (cell5 h.bad).2.2.1
    have g3 : ∀ W, QF w tb bf bb GM W → W.cell? ⟨bb, 3, none⟩ = some (.int .u64 0) := fun W h => (cell5 h.bad).2.2.2.1
    have g4 : ∀ W, QF w tb bf bb GM W → W.cell? ⟨bb, 4, none⟩ = some (.slice none 0 0) := fun W h => (cell5 h.bad).2.2.2.2
    go_region_held (fun W => QF w tb bf bb GM W) (repeat (first | assumption | exact HQ.out | refine QF.drew ?_ | refine QF.alloc ?_ _)) (first
      | (go_at_call_of 21 (Value.slice (some ⟨GM, 0, none⟩) 17 17); go_loud (refine (q_many _ (by assumption)).mono ?_; rintro e z1 ⟨rfl, hq1, hk1⟩; have HK1 := Lib.hid hk1; clear hk1))
      | (go_at_call_of 21 (Value.pointer none); go_loud (refine (stage_nil _).mono ?_; rintro e z5 ⟨rfl, hb5⟩; have hq5 := (QF.bel (by assumption) hb5).1; clear hb5))
      | (go_at_call 21; go_loud (refine (q_far _ _ (by assumption) (by first | exact heap_alloc_new _ _ | exact keepA (heap_alloc_new _ _) | exact HK1.out _ _ (heap_alloc_new _ _) | exact keepA (HK1.out _ _ (heap_alloc_new _ _)) | exact HK1.out _ _ (keepA (heap_alloc_new _ _)) | exact heap_new1 _ _ _ | exact HK1.out _ _ (heap_new1 _ _ _))).mono ?_; rintro e z2 ⟨rfl, hq2, hk2⟩; have HK2 := Lib.hid hk2; clear hk2))
      | (go_at_call 17; go_loud (refine (q_bad _ _ (by assumption) (by first | exact heap_alloc_new _ _ | exact HK2.out _ _ (heap_alloc_new _ _) | exact HK2.out _ _ (keepA (heap_alloc_new _ _)) | exact HK2.out _ _ (HK1.out _ _ (heap_alloc_new _ _)) | exact HK2.out _ _ (keepA (HK1.out _ _ (heap_alloc_new _ _))) | exact HK2.out _ _ (HK1.out _ _ (keepA (heap_alloc_new _ _))) | exact heap_new1 _ _ _ | exact HK2.out _ _ (heap_new1 _ _ _) | exact HK2.out _ _ (HK1.out _ _ (heap_new1 _ _ _)))).mono ?_; rintro e z3 ⟨rfl, hq3, hk3⟩; clear hk3))
      | (go_at_call 22; go_loud (refine (q_home _ (by assumption)).mono ?_; rintro e z4 ⟨rfl, hq4, hk4⟩; clear hk4))
      | (go_at_call 23; go_loud (refine (mark_nil _).mono ?_; rintro e z6 ⟨rfl, hb6⟩; have hq6 := (QF.bel (by assumption) hb6).1; clear hb6))
      | (go_at_call 18; go_loud (refine (clear_nil _).mono ?_; rintro e z7 ⟨rfl, hb7⟩; have hq7 := (QF.bel (by assumption) hb7).1; clear hb7)))
    all_goals
      go_wp2_with fail
      go_meet
      exact ⟨_, rfl, rfl, rfl, heap_alloc_new _ _, by (refine QF.alloc ?_ _; assumption)⟩
  case rest =>
  obtain ⟨E, rfl, rfl, rfl, hE, hQ⟩ := hcut
  have HE := Lib.hid hE
  have HQ2 := Lib.hid hQ
  clear hE hQ
  go_wp2_with fail
  go_loopw [81] (fun q wr => ∃ k : Nat, k ≤ 7 ∧ q = .int .i64 (k : Nat) ∧ wr = wc) (fun q _ => 7 - (intOf q).toNat)
  case atStart => exact ⟨0, Nat.zero_le _, rfl, rfl⟩
  case round =>
    obtain ⟨k, hk, rfl, hw⟩ := hrel
    subst hw
    rename World => wc
    by_cases hlt : k < 7
    · have hce : ∀ j v, (#[Value.int .i64 4, .int .i64 2, .int .i64 2, .int .i64 2, .int .i64 1, .int .i64 1, .int .i64 1] : Array Value)[j]? = some v → wc.cell? ⟨E, j, none⟩ = some v := fun j v h => by rw [cell_of_row wc E j _ _ _ HE.out]; exact h
      have hcase : k = 0 ∨ k = 1 ∨ k = 2 ∨ k = 3 ∨ k = 4 ∨ k = 5 ∨ k = 6 := by omega
      rcases hcase with rfl | rfl | rfl | rfl | rfl | rfl | rfl
      all_goals
        have k0 := hce 0 _ rfl
        have k1 := hce 1 _ rfl
        have k2 := hce 2 _ rfl
        have k3 := hce 3 _ rfl
        have k4 := hce 4 _ rfl
        have k5 := hce 5 _ rfl
        have k6 := hce 6 _ rfl
        have i0 : (Instr.index 62 (.agg #[.int .i64 4, .int .i64 2, .int .i64 2, .int .i64 2, .int .i64 1, .int .i64 1, .int .i64 1]) (.int .i64 0)).run Try.prog wc = .ok (.int .i64 4) wc := by kernel_rfl
        have i1 : (Instr.index 62 (.agg #[.int .i64 4, .int .i64 2, .int .i64 2, .int .i64 2, .int .i64 1, .int .i64 1, .int .i64 1]) (.int .i64 1)).run Try.prog wc = .ok (.int .i64 2) wc := by kernel_rfl
        have i2 : (Instr.index 62 (.agg #[.int .i64 4, .int .i64 2, .int .i64 2, .int .i64 2, .int .i64 1, .int .i64 1, .int .i64 1]) (.int .i64 2)).run Try.prog wc = .ok (.int .i64 2) wc := by kernel_rfl
        have i3 : (Instr.index 62 (.agg #[.int .i64 4, .int .i64 2, .int .i64 2, .int .i64 2, .int .i64 1, .int .i64 1, .int .i64 1]) (.int .i64 3)).run Try.prog wc = .ok (.int .i64 2) wc := by kernel_rfl
        have i4 : (Instr.index 62 (.agg #[.int .i64 4, .int .i64 2, .int .i64 2, .int .i64 2, .int .i64 1, .int .i64 1, .int .i64 1]) (.int .i64 4)).run Try.prog wc = .ok (.int .i64 1) wc := by kernel_rfl
        have i5 : (Instr.index 62 (.agg #[.int .i64 4, .int .i64 2, .int .i64 2, .int .i64 2, .int .i64 1, .int .i64 1, .int .i64 1]) (.int .i64 5)).run Try.prog wc = .ok (.int .i64 1) wc := by kernel_rfl
        have i6 : (Instr.index 62 (.agg #[.int .i64 4, .int .i64 2, .int .i64 2, .int .i64 2, .int .i64 1, .int .i64 1, .int .i64 1]) (.int .i64 6)).run Try.prog wc = .ok (.int .i64 1) wc := by kernel_rfl
        clear hce hlt hk
        go_wp2_with fail
        go_roundw
        case rel => first | exact ⟨1, by decide, rfl, by trivial⟩ | exact ⟨2, by decide, rfl, by trivial⟩ | exact ⟨3, by decide, rfl, by trivial⟩ | exact ⟨4, by decide, rfl, by trivial⟩ | exact ⟨5, by decide, rfl, by trivial⟩ | exact ⟨6, by decide, rfl, by trivial⟩ | exact ⟨7, by decide, rfl, by trivial⟩
        case measure => simp [intOf]
    · obtain rfl : k = 7 := by omega
      clear hk hlt HE
      go_upto_region 21 with fail
      obtain ⟨F, hmF, hF⟩ := HQ2.out.m
      have HMF := Lib.hid hmF
      have HF := Lib.hid hF
      have HLW := Lib.hid HQ2.out.low
      have hg1 : genI 1 := ⟨by omega, by omega⟩
      have hmk := mark_any hmF (by omega) 1 count hg1 HNS.out.2.2
      obtain ⟨D, hD⟩ : ∃ D, D = markD (none : Option Nat).isSome 1 count (memS M00) (-1) 0 := ⟨_, rfl⟩
      rw [← hD] at hmk
      obtain ⟨DE, hDE⟩ : ∃ DE, DE = D.err := ⟨_, rfl⟩
      rw [← hDE] at hmk
      have HMK := Lib.hid hmk
      have HDD := Lib.hid (show (0 ≤ count ∧ count ≤ 16 ∧ DE = 0 ∧ D.l = -1 ∧ ∃ M, D.S = memS M ∧ ∀ k, k < 6 → M (18 + k) = some zsec) ∨ (¬ (0 ≤ count ∧ count ≤ 16) ∧ DE ≠ 0 ∧ D.l = -1 ∧ D.S = memS M00) from by
        unfold markD at hD
        rw [if_neg (by rw [ans00]; simp)] at hD
        by_cases h1 : 16 < count
        · rw [if_pos h1] at hD
          exact .inr ⟨by omega, by rw [hDE, hD]; decide, by rw [hD], by rw [hD]⟩
        · rw [if_neg h1] at hD
          by_cases h2 : count < 0
          · rw [if_pos h2] at hD
            exact .inr ⟨by omega, by rw [hDE, hD]; decide, by rw [hD], by rw [hD]⟩
          · rw [if_neg h2] at hD
            have hw : ∀ x, x ∈ cmW ⟨1, count, 1⟩ → x.1 < 24 ∧ x.2.length = 512 := fun x hx => by
              rw [List.mem_singleton.1 hx]; exact ⟨(show 1 < 24 by omega), CM.B_len _⟩
            have s1 := wrF_sure (none : Option Nat).isSome (cmW ⟨1, count, 1⟩) M00 [] 0 hw
            have s2 := wrF_out (none : Option Nat).isSome (cmW ⟨1, count, 1⟩) M00 [] (-1) 0 hw
            change D = wrF (none : Option Nat).isSome (cmW ⟨1, count, 1⟩) ⟨24, M00, [], false⟩ (-1) 0 at hD
            rw [← hD] at s1 s2
            refine .inl ⟨by omega, by omega, by rw [hDE]; exact s1.1, s1.2, ?_⟩
            rcases s2 with ⟨_, e2⟩ | ⟨e2, _⟩
            · exact ⟨_, e2, fun k hk => by
                show applyW M00 (cmW ⟨1, count, 1⟩) (18 + k) = some zsec
                rw [applyW_out (fun x hx => by rw [List.mem_singleton.1 hx]; show 1 ≠ 18 + k; omega)]; rfl⟩
            · rw [s1.1] at e2; cases e2)
      clear hmk hD hDE hmF hF hg1 HQ2
      go_cut [114] from 93 to 114 (fun v wx => v = .bool false ∧ ∃ M F u, MJ wx tb F (memS M) none FN15 (-1) u 17 ∧ (∀ k, k < 6 → M (18 + k) = some zsec) ∧ (∀ k, F k → w.heap.size ≤ k) ∧ Below w.heap.size w wx)
      case first =>
        rcases HDD.out with ⟨z1, z2, z3, z4, M, z5, z6⟩ | ⟨z1, z2, z4, z5⟩
        · subst z3
          have z7 : ¬ count < 0 := by omega
          rw [z4, z5] at HMK
          clear HDD z4 z5
          go_wp2_with (go_at_call 23; go_loud (refine HMK.out.mono ?_; rintro e w5 ⟨F5, rfl, hm5, hs5⟩; have HM5 := Lib.hid hm5; have HS5 := Lib.hid hs5; clear hm5 hs5))
          go_meet
          have hl := HLW.out.size
          have hh : ∀ k, F k ∨ FN15 k → w.heap.size ≤ k := fun k hk => hk.elim (HF.out k) (fun h => h.elim)
          exact ⟨rfl, M, F5, _, HM5.out, z6, fun k hk => HS5.out.high hl hh k (.inl hk), HLW.out.trans (HS5.out.below hl hh)⟩
        · rw [z4, z5] at HMK
          have z8 : (DE == 0) = false := by rw [beq_eq_false_iff_ne]; exact z2
          clear HDD z4 z5 z2
          by_cases h1 : count < 0
          · have z9 : ¬ 0 ≤ count := by omega
            clear z1
            have hss : (BS.toList == BS.toList) = true := by simp
            go_wp2_with (first
              | (go_at_call 23; go_loud (refine HMK.out.mono ?_; rintro e w5 ⟨F5, rfl, hm5, hs5⟩; have HM5 := Lib.hid hm5; have HS5 := Lib.hid hs5; clear hm5 hs5))
              | (go_at_call 20; go_loud (refine (HSN.out _ _ _ _ HM5.out (by omega)).mono ?_; rintro e w6 ⟨a6, k6, rfl, hx6, hb6⟩; have hcv6 := arg_str hx6 (Below.refl _ _); rw [← HBS.out] at hcv6; have HB6 := Lib.hid hb6; clear hx6 hb6)))
            go_meet
            have hl := HLW.out.size
            have hh : ∀ k, F k ∨ FN15 k → w.heap.size ≤ k := fun k hk => hk.elim (HF.out k) (fun h => h.elim)
            have h6 := HS5.out.on HB6.out
            exact ⟨rfl, M00, F5, _, HM5.out.on HB6.out, fun _ _ => rfl, fun k hk => h6.high hl hh k (.inl hk), HLW.out.trans (h6.below hl hh)⟩
          · have z9 : ¬ count ≤ 16 := by omega
            have z10 : 0 ≤ count := by omega
            have z11 : decide (count ≤ 16) = false := decide_eq_false z9
            clear z1
            go_wp2_with (go_at_call 23; go_loud (refine HMK.out.mono ?_; rintro e w5 ⟨F5, rfl, hm5, hs5⟩; have HM5 := Lib.hid hm5; have HS5 := Lib.hid hs5; clear hm5 hs5))
            go_meet
            have hl := HLW.out.size
            have hh : ∀ k, F k ∨ FN15 k → w.heap.size ≤ k := fun k hk => hk.elim (HF.out k) (fun h => h.elim)
            exact ⟨rfl, M00, F5, _, HM5.out, fun _ _ => rfl, fun k hk => HS5.out.high hl hh k (.inl hk), HLW.out.trans (HS5.out.below hl hh)⟩
      case rest =>
      obtain ⟨rfl, M, F, u, hm, hM, hF, hlow⟩ := hcut
      have HMC := Lib.hid hm
      have HMM := Lib.hid hM
      have HFC := Lib.hid hF
      have HLC := Lib.hid hlow
      clear hm hM hF hlow HDD HMK HMF HF HLW HSN HBS
      have hho := home_any HMC.out (by omega) rfl (by omega) stripe HNS.out.2.1
      have hhe := hoE_memS (x := stripe) HMM.out
      obtain ⟨Z5, hZ5⟩ : ∃ Z5, Z5 = hoZ (memS M) stripe := ⟨_, rfl⟩
      obtain ⟨E5, hE5⟩ : ∃ E5, E5 = hoE (memS M) stripe := ⟨_, rfl⟩
      rw [← hZ5, ← hE5] at hho
      rw [← hE5] at hhe
      have HHO := Lib.hid hho
      have HHE := Lib.hid hhe
      unfold shG at HHO
      clear hho hhe hZ5 hE5
      go_upto_region 24 with (go_at_call 24; go_loud (refine HHO.out.mono ?_; rintro e w5 ⟨a5, k5, rfl, -, hb5, -⟩; have HB5 := Lib.hid hb5; clear hb5))
      obtain ⟨X5, hX5⟩ : ∃ X5, X5 = w5.alloc (.cells #[.int .u8 Z5.m, .int .u8 Z5.p, .int .u32 Z5.st, .int .u64 Z5.g, .slice a5 Z5.row.length k5] 49) := ⟨_, rfl⟩
      have HBX5 := Lib.hid (show Below wc.heap.size wc X5 from bt HB5.out (by rw [hX5]; exact (Below.refl _ _).alloc (Nat.le_refl _) _))
      rw [← hX5]
      clear hX5
      go_cut [137] from 121 to 137 (fun v wx => v = .bool false ∧ X5 = wx)
      case first =>
        rcases HHE.out with ⟨rfl, z⟩ | ⟨rfl, z1, z2⟩
        · by_cases z3 : stripe < 0
          · clear z
            go_wp2_with fail
            go_meet
            exact ⟨rfl, rfl⟩
          · have z4 : 6 ≤ stripe := by omega
            have z5 : decide (6 ≤ stripe) = true := decide_eq_true z4
            clear z
            go_wp2_with fail
            go_meet
            exact ⟨rfl, rfl⟩
        · have z3 : ¬ stripe < 0 := by omega
          have z4 : ¬ 6 ≤ stripe := by omega
          have z5 : decide (6 ≤ stripe) = false := decide_eq_false z4
          go_wp2_with fail
          go_meet
          exact ⟨rfl, rfl⟩
      case rest =>
      obtain ⟨rfl, hcut⟩ := hcut
      subst hcut
      clear HHE HHO
      have HLX := Lib.hid (bt HLC.out HBX5.out)
      have HMX := Lib.hid (HMC.out.on HBX5.out)
      have HMD := Lib.hid (made_any a n c B X5 (HX.out.onV HLX.out))
      go_upto_region 27 with (go_at_call 25; go_loud (refine HMD.out.mono ?_; rintro e w6 ⟨g6, rfl, hx6, hg6, hb6⟩; have HX6 := Lib.hid hx6; have HG6 := Lib.hid hg6; have HB6 := Lib.hid hb6; clear hx6 hg6 hb6))
      obtain ⟨b, hb⟩ : ∃ b, b = madeL B := ⟨_, rfl⟩
      rw [← hb] at HX6
      clear hb
      have HM6 := Lib.hid (HMX.out.on HB6.out)
      have HF6 := Lib.hid (show Fr F FN15 w6 g6 from HMX.out.fr_new HG6.out (by obtain ⟨g', o', e', h⟩ := arg_new HX6.out (by omega); cases e'; exact h))
      go_upto_region 28 with (go_at_call 26; go_loud (refine (jspoil HM6.out (by omega) 18 (by omega) (some ⟨g6, 0, none⟩) 512 b HX6.out (fun _ b' o e => by cases e; exact HF6.out.2.1)).mono ?_; rintro e w7 ⟨F7, rfl, hm7, hs7⟩; have HM7 := Lib.hid hm7; have HS7 := Lib.hid hs7; clear hm7 hs7))
      have HX7 := Lib.hid (HX6.out.blockT (fun _ b' o e => by cases e; exact HS7.out.same HF6.out))
      have HF7 := Lib.hid (HS7.out.fr HF6.out)
      go_upto_region 29 with (go_at_call 26; go_loud (refine (jspoil HM7.out (by omega) 1 (by omega) (some ⟨g6, 0, none⟩) 512 b HX7.out (fun _ b' o e => by cases e; exact HF7.out.2.1)).mono ?_; rintro e w8 ⟨F8, rfl, hm8, hs8⟩; have HM8 := Lib.hid hm8; have HS8 := Lib.hid hs8; clear hm8 hs8))
      have HX8 := Lib.hid (HX7.out.blockT (fun _ b' o e => by cases e; exact HS8.out.same HF7.out))
      obtain ⟨M2, hM2⟩ : ∃ M2 : Nat → Option (List Int), M2 = (fun k => if k = 1 then some b else if k = 18 then some b else M k) := ⟨_, rfl⟩
      rw [← hM2] at HM8
      have HMT := Lib.hid (show M2 1 = some b ∧ M2 18 = some b from by rw [hM2]; exact ⟨rfl, rfl⟩)
      have HL8 := Lib.hid (show Below w.heap.size w w8 from HLX.out.trans (((HS7.out.trans HS8.out).below (by have := HLX.out.size; have := HB6.out.size; omega) (fun k hk => hk.elim (HFC.out k) (fun h => h.elim))).mono (Nat.le_refl _) |> fun h => (HB6.out.mono HLX.out.size).trans h))
      have HF8 := Lib.hid (show ∀ k, F8 k ∨ FN15 k → w.heap.size ≤ k from (HS7.out.trans HS8.out).high (by have := HLX.out.size; have := HB6.out.size; omega) (fun k hk => hk.elim (HFC.out k) (fun h => h.elim)))
      clear hM2
      have hps := parseShare_new (some ⟨g6, 0, none⟩) 512 512 b w8 HX8.out (by omega)
      have HPC := Lib.hid (fun W (h : Arg8c W (some ⟨g6, 0, none⟩) 512 512 b) => parseCommit_any (some ⟨g6, 0, none⟩) 512 512 b W h (by omega))
      obtain ⟨PZ, hPZ⟩ : ∃ PZ, PZ = pshZ b := ⟨_, rfl⟩
      obtain ⟨PE, hPE⟩ : ∃ PE, PE = pshE b := ⟨_, rfl⟩
      obtain ⟨CE, hCE⟩ : ∃ CE, CE = pcmE b := ⟨_, rfl⟩
      obtain ⟨CZ, hCZ⟩ : ∃ CZ, CZ = pcmZ b := ⟨_, rfl⟩
      rw [← hPZ, ← hPE] at hps
      rw [← hCE, ← hCZ] at HPC
      have HPS := Lib.hid hps
      unfold shG at HPS
      unfold cmA at HPC
      have HV := Lib.hid (And.intro hPZ (And.intro hPE (And.intro hCE hCZ)))
      clear hps hPZ hPE hCE hCZ
      go_upto_region 30 with (go_at_call 27; go_loud (refine HPS.out.mono ?_; rintro e w9 ⟨a9, k9, rfl, -, hb9, -⟩; have HB9 := Lib.hid hb9; clear hb9))
      obtain ⟨X9, hX9⟩ : ∃ X9, X9 = w9.alloc (.cells #[.int .u8 PZ.m, .int .u8 PZ.p, .int .u32 PZ.st, .int .u64 PZ.g, .slice a9 PZ.row.length k9] 49) := ⟨_, rfl⟩
      have HBX9 := Lib.hid (show Below w8.heap.size w8 X9 from bt HB9.out (by rw [hX9]; exact (Below.refl _ _).alloc (Nat.le_refl _) _))
      rw [← hX9]
      clear hX9
      go_upto_region 31 with (go_at_call 28; go_loud (refine (HPC.out X9 (HX8.out.onV HBX9.out)).mono ?_; rintro e w10 ⟨rfl, hb10⟩; have HB10 := Lib.hid hb10; clear hb10))
      obtain ⟨X10, hX10⟩ : ∃ X10, X10 = w10.alloc (.cells #[.int .u8 CZ.st, .int .u8 CZ.n, .int .u64 CZ.g] 41) := ⟨_, rfl⟩
      have HBX10 := Lib.hid (show Below w8.heap.size w8 X10 from bt HBX9.out (bt HB10.out (by rw [hX10]; exact (Below.refl _ _).alloc (Nat.le_refl _) _)))
      rw [← hX10]
      clear hX10
      have HM10 := Lib.hid (HM8.out.on HBX10.out)
      have hho := home_any HM10.out (by omega) rfl (by omega) 0 (by unfold i64R; omega)
      obtain ⟨Z11, hZ11⟩ : ∃ Z11, Z11 = hoZ (memS M2) 0 := ⟨_, rfl⟩
      obtain ⟨E11, hE11⟩ : ∃ E11, E11 = hoE (memS M2) 0 := ⟨_, rfl⟩
      rw [← hZ11, ← hE11] at hho
      have HHO := Lib.hid hho
      unfold shG at HHO
      have hno : noHome (memS M2) 0 = false := by rw [noHome_memS]; decide
      have HE11 := Lib.hid (show E11 = shE (memS M2) 18 ∧ Z11 = shZ (memS M2) 18 from by
        rw [hE11, hZ11]; unfold hoE hoZ; rw [hno]; exact ⟨rfl, rfl⟩)
      clear hho hZ11 hE11 hno
      go_upto_region 32 with (go_at_call 24; go_loud (refine HHO.out.mono ?_; rintro e w11 ⟨a11, k11, rfl, -, hb11, -⟩; have HB11 := Lib.hid hb11; clear hb11))
      obtain ⟨X11, hX11⟩ : ∃ X11, X11 = w11.alloc (.cells #[.int .u8 Z11.m, .int .u8 Z11.p, .int .u32 Z11.st, .int .u64 Z11.g, .slice a11 Z11.row.length k11] 49) := ⟨_, rfl⟩
      have HBX11 := Lib.hid (show Below w8.heap.size w8 X11 from bt HBX10.out (bt HB11.out (by rw [hX11]; exact (Below.refl _ _).alloc (Nat.le_refl _) _)))
      have HK11 := Lib.hid (show X11.heap[w11.heap.size]? = some (.cells #[.int .u8 Z11.m, .int .u8 Z11.p, .int .u32 Z11.st, .int .u64 Z11.g, .slice a11 Z11.row.length k11] 49 (0, 0)) from by rw [hX11]; exact heap_alloc_new w11 _)
      rw [← hX11]
      clear hX11
      have HM11 := Lib.hid (HM8.out.on HBX11.out)
      have hlk := look_any HM11.out (by omega) rfl (by omega) (show 18 ≤ 24 by omega)
      obtain ⟨C12, hC12⟩ : ∃ C12, C12 = lookC (memS M2) := ⟨_, rfl⟩
      obtain ⟨E12, hE12⟩ : ∃ E12, E12 = lookE (memS M2) := ⟨_, rfl⟩
      have HLK := Lib.hid (show Calls Try.prog 13 #[tbV tb] X11 fun e w' => ∃ a k nn, e = .returned (.tuple #[stG C12 (.slice a nn k), .int .i64 E12]) ∧ Below X11.heap.size X11 w' from by
        refine hlk.mono ?_
        rintro e w' ⟨a', k', Z', rfl, -, -, -, h⟩
        exact ⟨a', k', Z'.length, by rw [hC12, hE12], h⟩)
      unfold stG at HLK
      have HE12 := Lib.hid (show E12 = cmE b ∧ C12 = (if cmE b = 0 then cmZ b else ⟨0, 0, 0⟩) from by
        have h : (memS M2).shows 1 = some b := HMT.out.1
        rw [hE12, hC12]; unfold lookE lookC; rw [h]; exact ⟨rfl, rfl⟩)
      clear hlk hC12 hE12
      go_upto_region 33 with (go_at_call 13; go_loud (refine HLK.out.mono ?_; rintro e w12 ⟨a12, k12, n12, rfl, hb12⟩; have HB12 := Lib.hid hb12; clear hb12))
      obtain ⟨X12, hX12⟩ : ∃ X12, X12 = w12.alloc (.cells #[.int .u8 C12.st, .int .u8 C12.n, .int .u64 C12.g, .slice a12 n12 k12] 43) := ⟨_, rfl⟩
      have HB1112 := Lib.hid (show Below X11.heap.size X11 X12 from bt HB12.out (by rw [hX12]; exact (Below.refl _ _).alloc (Nat.le_refl _) _))
      have HBX12 := Lib.hid (bt HBX11.out HB1112.out)
      have HK12 := Lib.hid (show X12.heap[w12.heap.size]? = some (.cells #[.int .u8 C12.st, .int .u8 C12.n, .int .u64 C12.g, .slice a12 n12 k12] 43 (0, 0)) from by rw [hX12]; exact heap_alloc_new w12 _)
      rw [← hX12]
      clear hX12
      have HBL := Lib.hid (blankJ (some ⟨g6, 0, none⟩) 512 512 b X12 (HX8.out.onV HBX12.out))
      obtain ⟨q2, hq2⟩ : ∃ q2, q2 = zeroL b := ⟨_, rfl⟩
      rw [← hq2] at HBL
      have HQ3 := Lib.hid hq2
      have HW12 := Lib.hid (show Below w.heap.size w X12 from bt HL8.out HBX12.out)
      clear hq2
      cases q2
      · have hz := HQ3.out.symm
        have hsb := shE_b (S := memS M2) (i := 18) HMT.out.2 hz
        have hEE : E11 = PE := by rw [HE11.out.1, hsb.1, HV.out.2.1]
        have hcm : cmE b = pcmE b := by unfold cmE; rw [hz]; rfl
        have hEC : E12 = CE := by rw [HE12.out.1, hcm, HV.out.2.2.1]
        have HPP := Lib.hid (show PE = 0 → 1 ≤ Z11.p from fun h0 => by
          rw [HE11.out.2, hsb.2]
          have h1 : pshE b = 0 := by rw [← HV.out.2.1]; exact h0
          cases hp : psh b with
          | none => rw [(psh_zero hp).2] at h1; cases h1
          | some s =>
            rw [(psh_one hp).1]
            obtain ⟨_, _, ho, _, e⟩ := psh_some hp
            have hw := pshR_wf HX8.out.1.2.1
            have h2 := hw.p.1
            rw [← e] at h2
            have h3 := ho.2.1
            omega)
        subst hEE
        subst hEC
        have HM12 := Lib.hid (HM8.out.on HBX12.out)
        have HF12 := Lib.hid (show Fr F8 FN15 X12 w11.heap.size from HM8.out.fr_new (by have := HBX10.out.size; have := HB11.out.size; omega) (Nat.lt_of_lt_of_le (Array.getElem?_eq_some_iff.1 HK11.out).1 HB1112.out.size))
        have HK112 := Lib.hid ((HB1112.out.block _ (Array.getElem?_eq_some_iff.1 HK11.out).1).trans HK11.out)
        clear hz hsb hcm HE11 HE12
        obtain ⟨M3, hM3⟩ : ∃ M3 : Nat → Option (List Int), M3 = (fun k => if k = 18 then none else M2 k) := ⟨_, rfl⟩
        go_upto_region 36 with (first
          | (go_at_call 29; go_loud (refine HBL.out.mono ?_; rintro e w13 ⟨rfl, rfl⟩))
          | (go_at_call 30; go_loud (refine (jlose HM12.out (by omega) 18 (by omega)).mono ?_; rintro e w14 ⟨F14, rfl, hm14, hs14⟩; rw [← hM3] at hm14; have HM14 := Lib.hid hm14; have HS14 := Lib.hid hs14; clear hm14 hs14)))
        have hho2 := home_any HM14.out (by omega) rfl (by omega) 0 (by unfold i64R; omega)
        have hno2 : noHome (memS M3) 0 = false := by rw [noHome_memS]; decide
        rw [show hoE (memS M3) 0 = 10 by unfold hoE; rw [hno2]; exact shE_none (by rw [hM3]; rfl)] at hho2
        obtain ⟨Z15, hZ15⟩ : ∃ Z15, Z15 = hoZ (memS M3) 0 := ⟨_, rfl⟩
        rw [← hZ15] at hho2
        have HHO2 := Lib.hid hho2
        unfold shG at HHO2
        clear hho2 hno2 hZ15
        go_upto_region 37 with (go_at_call 24; go_loud (refine HHO2.out.mono ?_; rintro e w15 ⟨a15, k15, rfl, -, hb15, -⟩; have HB15 := Lib.hid hb15; clear hb15))
        obtain ⟨X15, hX15⟩ : ∃ X15, X15 = w15.alloc (.cells #[.int .u8 Z15.m, .int .u8 Z15.p, .int .u32 Z15.st, .int .u64 Z15.g, .slice a15 Z15.row.length k15] 49) := ⟨_, rfl⟩
        have HBX15 := Lib.hid (show Below w14.heap.size w14 X15 from bt HB15.out (by rw [hX15]; exact (Below.refl _ _).alloc (Nat.le_refl _) _))
        rw [← hX15]
        clear hX15
        have HM15 := Lib.hid (HM14.out.on HBX15.out)
        obtain ⟨M4, hM4⟩ : ∃ M4 : Nat → Option (List Int), M4 = (fun k => if k = 1 then none else M3 k) := ⟨_, rfl⟩
        go_upto_region 38 with (go_at_call 30; go_loud (refine (jlose HM15.out (by omega) 1 (by omega)).mono ?_; rintro e w16 ⟨F16, rfl, hm16, hs16⟩; rw [← hM4] at hm16; have HM16 := Lib.hid hm16; have HS16 := Lib.hid hs16; clear hm16 hs16))
        have hlk2 := look_any HM16.out (by omega) rfl (by omega) (show 18 ≤ 24 by omega)
        obtain ⟨C17, hC17⟩ : ∃ C17, C17 = lookC (memS M4) := ⟨_, rfl⟩
        have HLK2 := Lib.hid (show Calls Try.prog 13 #[tbV tb] w16 fun e w' => ∃ a k nn, e = .returned (.tuple #[stG C17 (.slice a nn k), .int .i64 10]) ∧ Below w16.heap.size w16 w' from by
          refine hlk2.mono ?_
          rintro e w' ⟨a', k', Z', rfl, -, -, -, h⟩
          exact ⟨a', k', Z'.length, by rw [hC17, show lookE (memS M4) = 10 by unfold lookE; rw [show (memS M4).shows 1 = none by rw [hM4]; rfl]], h⟩)
        unfold stG at HLK2
        clear hlk2 hC17 hM4 hM3
        have HKX := Lib.hid ((HS16.out.same ((HS14.out.fr HF12.out).up HBX15.out.size)).trans ((HBX15.out.block _ (HS14.out.fr HF12.out).1).trans ((HS14.out.same HF12.out).trans HK112.out)))
        have HWX := Lib.hid (show Below w.heap.size w w16 from HW12.out.trans (((HS14.out.on HBX15.out).trans HS16.out).below HW12.out.size HF8.out))
        go_upto_region 39 with (go_at_call 13; go_loud (refine HLK2.out.mono ?_; rintro e w17 ⟨a17, k17, n17, rfl, hb17⟩; have HB17 := Lib.hid hb17; clear hb17))
        obtain ⟨X17, hX17⟩ : ∃ X17, X17 = w17.alloc (.cells #[.int .u8 C17.st, .int .u8 C17.n, .int .u64 C17.g, .slice a17 n17 k17] 43) := ⟨_, rfl⟩
        have HBX17 := Lib.hid (show Below w16.heap.size w16 X17 from bt HB17.out (by rw [hX17]; exact (Below.refl _ _).alloc (Nat.le_refl _) _))
        rw [← hX17]
        clear hX17
        obtain ⟨-, p1, -, -, -⟩ := cell5 ((HBX17.out.block _ (Array.getElem?_eq_some_iff.1 HKX.out).1).trans HKX.out)
        have c1 : (E11 == E11) = true := by simp
        have c2 : (E12 == E12) = true := by simp
        by_cases h0 : E11 = 0
        · have hp0 := HPP.out h0
          have hp1 : decide (0 < Z11.p) = true := decide_eq_true (by omega)
          have hp2 : 0 < Z11.p := by omega
          subst h0
          go_wp2_with fail
          go_ret
          exact ⟨rfl, bt HWX.out HBX17.out⟩
        · have c3 : (E11 == 0) = false := by rw [beq_eq_false_iff_ne]; exact h0
          have c4 : (E11 != 0) = true := by rw [bne_iff_ne]; exact h0
          clear h0
          go_wp2_with fail
          go_ret
          exact ⟨rfl, bt HWX.out HBX17.out⟩
      · have hz := HQ3.out.symm
        have hEE : E11 = 16 := by rw [HE11.out.1]; exact shE_zero (b := b) HMT.out.2 hz
        have hcm : cmE b = 0 := by unfold cmE; rw [hz]; rfl
        have hcz : cmZ b = ⟨0, 0, 0⟩ := by unfold cmZ; rw [hz]; rfl
        have hEC : E12 = 0 := by rw [HE12.out.1, hcm]
        have hCC : C12 = ⟨0, 0, 0⟩ := by rw [HE12.out.2, if_pos hcm, hcz]
        obtain ⟨s0, -, -, -⟩ := cell4 HK12.out
        subst hEE
        subst hEC
        subst hCC
        clear hz hcm hcz HE11 HE12
        go_wp2_with (go_at_call 29; go_loud (refine HBL.out.mono ?_; rintro e w13 ⟨rfl, rfl⟩))
        go_ret
        exact ⟨rfl, HW12.out⟩
end Go.Proofs.Ytkfdcdfaikkneaa
/- JournalForms' walk, in the frame's form. -/
namespace Go.Proofs.Ytkfdcdfaikkneaa
open Go.ChangeShapes Go.WideShapes Go.ChangeAt Go.RowKit Go.Shelf
set_option linter.unusedVariables false
set_option linter.unusedSimpArgs false
set_option maxRecDepth 100000
attribute [local go_sem] Oper.semAt_some

theorem journalForms_walk (blocks stripe count : Int) (a : Option Addr) (n c : Nat) (w : World) (h0 : (Lit.int .i64 blocks).wf = true) (h1 : (Lit.int .i64 stripe).wf = true) (h2 : (Lit.int .i64 count).wf = true) (h3 : ∃ l, Arg8c w a n c l) :
    Calls Try.prog 4 #[.int .i64 blocks, .int .i64 stripe, .int .i64 count, .slice a n c] w fun e w' => e = .returned (.bool true) ∧ Below w.heap.size w w' := by
  obtain ⟨B, hB⟩ := h3
  by_cases hn : n ≤ 600
  · exact journalForms_core blocks stripe count a n c B w (i64_of_wf h0) (i64_of_wf h1) (i64_of_wf h2) hB hn
  · have q0 : (600 : Int) < (n : Int) := by omega
    have hcap := hB.1.2.2.2
    unfold maxLen at hcap
    clear hB h0 h1 h2
    go_enter Try.func4, Try.ntmps4
    go_upto_region 2 with (go_at_call 5; go_loud (refine (lives15 w).mono ?_; rintro e w1 ⟨rfl, hb1⟩; have HB1 := Lib.hid hb1; clear hb1))
    go_wp2_with (go_at_call 5; go_loud (refine (lives15 w1).mono ?_; rintro e w2 ⟨rfl, hb2⟩; have HB2 := Lib.hid hb2; clear hb2))
    go_ret
    exact ⟨rfl, bt HB1.out HB2.out⟩
end Go.Proofs.Ytkfdcdfaikkneaa
