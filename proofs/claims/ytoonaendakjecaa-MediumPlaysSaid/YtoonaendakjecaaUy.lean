/- Media: MediumPlays under the contracts. -/
import Derived.Test.YtoonaendakjecaaUx
import Derived.BigQuiet
namespace Go.Proofs.Ytoonaendakjecaa
open Go.ChangeShapes Go.WideShapes Go.ChangeAt Go.RowKit Go.Shelf
set_option linter.unusedVariables false
set_option linter.unusedSimpArgs false
set_option maxRecDepth 100000

theorem mod_natU (n d : Int) (h1 : 1 ≤ d) (h2 : d ≤ 1000) : ∃ N : Nat, (N : Int) < d ∧ (IntKind.u64.wrap n).tmod d = (N : Int) ∧ (IntKind.u64.wrap n) % d = (N : Int) ∧ wrap64 ((IntKind.u64.wrap n).tmod d) = (N : Int) := by
  have h0 : 0 ≤ IntKind.u64.wrap n ∧ IntKind.u64.wrap n < 18446744073709551616 := by rw [IntKind.wrap_u64]; omega
  have e : (IntKind.u64.wrap n).tmod d = (IntKind.u64.wrap n) % d := Int.tmod_eq_emod_of_nonneg h0.1
  have l1 := Int.emod_nonneg (IntKind.u64.wrap n) (show d ≠ 0 by omega)
  have l2 := Int.emod_lt_of_pos (IntKind.u64.wrap n) (show 0 < d by omega)
  rw [e]
  obtain ⟨x, hx⟩ : ∃ x, x = IntKind.u64.wrap n % d := ⟨_, rfl⟩
  rw [← hx] at l1 l2 ⊢
  refine ⟨x.toNat, by omega, by omega, by omega, ?_⟩
  unfold wrap64
  omega
/-- The program's medium and the document's, side by side. -/
structure PI (R : World → Nat → (Nat → Prop) → MS → Option Nat → Prop) (P : World → Nat → (Nat → Prop) → Int → Nat → Prop) (w wr : World) (tb pb mb qb : Nat) (F Fp G : Nat → Prop) (S : MS) (L : List EV) (a : Option Addr) (c : Nat) (l : Int) (u k M : Nat) : Prop where
  mw : MW R P wr tb F S (some pb) Fp l u k
  rs : RS wr mb G qb S L a c l u k
  hi : Hi w.heap.size F Fp
  hg : ∀ j, G j → w.heap.size ≤ j
  dj : ∀ j, G j → ¬ (F j ∨ Fp j)
  sz : S.size = M
  bel : Below w.heap.size w wr
section
variable {R : World → Nat → (Nat → Prop) → MS → Option Nat → Prop} {P : World → Nat → (Nat → Prop) → Int → Nat → Prop} {w wr : World} {tb pb mb qb : Nat} {F F' Fp G : Nat → Prop} {S : MS} {L : List EV} {a : Option Addr} {c : Nat} {l : Int} {u k M : Nat}
theorem PI.on (hM : MediumM R P) (h : PI R P w wr tb pb mb qb F Fp G S L a c l u k M) {w' : World} (hb : Below wr.heap.size wr w') : PI R P w w' tb pb mb qb F Fp G S L a c l u k M :=
  ⟨h.mw.on hM hb, h.rs.on hb, h.hi, h.hg, h.dj, h.sz, h.bel.trans (hb.mono h.bel.size)⟩
theorem PI.ref (hM : MediumM R P) (h : PI R P w wr tb pb mb qb F Fp G S L a c l u k M) {w1 w2 : World} (hb : Below wr.heap.size wr w1) (hkb : KB (fun j => F j ∨ Fp j) w1 w2) : RS w2 mb G qb S L a c l u k :=
  h.rs.kept (fun j hj => (hkb.2 j (Nat.lt_of_lt_of_le (h.rs.inside hj) hb.size) (h.dj j hj)).trans (hb.block j (h.rs.inside hj)))
theorem PI.act (hM : MediumM R P) (h : PI R P w wr tb pb mb qb F Fp G S L a c l u k M) {D : DS} {w1 w2 w3 : World} (hb : Below wr.heap.size wr w1) (hmw : MW R P w2 tb F' D.S (some pb) Fp D.l D.u (k + 1)) (hkb : KB (fun j => F j ∨ Fp j) w1 w2) (hf : ∀ j, F' j → F j ∨ w1.heap.size ≤ j)
    (hr : RSN w2 mb G qb D k w3) (hs : D.S.size = S.size) : ∃ (G' : Nat → Prop) (L' : List EV) (a' : Option Addr) (c' : Nat), PI R P w w3 tb pb mb qb F' Fp G' D.S L' a' c' D.l D.u (k + 1) M := by
  obtain ⟨G', L', a', c', h1, h2, h3⟩ := hr
  have i1 := h.bel.size
  have i2 := hb.size
  have i3 := hkb.1.size
  have hgd : ∀ j, G j → ¬ (F' j ∨ Fp j) := fun j hj he => by
    have hlt := h.rs.inside hj
    rcases he with he | he
    · rcases hf j he with h4 | h4
      · exact h.dj j hj (.inl h4)
      · omega
    · exact h.dj j hj (.inr he)
  refine ⟨G', L', a', c', hmw.kept hM (fun j hj => h2.2 j (hmw.inside hM hj) (fun hg => hgd j hg hj)), h1, h.hi.next hf (by omega), fun j hj => ?_, fun j hj he => ?_, hs.trans h.sz, ?_⟩
  · rcases h3 j hj with h4 | h4
    · exact h.hg j h4
    · omega
  · rcases h3 j hj with h4 | h4
    · exact hgd j h4 he
    · have := hmw.inside hM he; omega
  · exact ((h.bel.trans (hb.mono i1)).trans (h.hi.below hkb (by omega))).trans (h2.below h.hg (by omega))
end
set_option maxHeartbeats 16000000 in
theorem mediumPlays_core {R : World → Nat → (Nat → Prop) → MS → Option Nat → Prop} {P : World → Nat → (Nat → Prop) → Int → Nat → Prop} (hM : MediumM R P) (n left : Int) (a0 : Option Addr) (L0 c0 : Nat) (l : List AC) (w : World)
    (hn : i64R n) (hleft : i64R left) (hl : ActA w a0 L0 c0 l) (hfew : (∀ x, x ∈ l → x.kn ≤ 60) ∧ L0 ≤ 60) :
    Calls Try.prog 4 #[.int .i64 n, .int .i64 left, .slice a0 L0 c0] w fun e w' => e = .returned (.bool true) ∧ Below w.heap.size w w' := by
  have HM := Lib.hid hM
  have HL := Lib.hid hl
  have HLL := Lib.hid hl.1
  have HLE := Lib.hid hleft
  have hL0 : L0 ≤ 60 := hfew.2
  obtain ⟨fb, hfb⟩ : ∃ fb, fb = decide ((∀ x, x ∈ l → x.kn ≤ 60) ∧ L0 ≤ 60) := ⟨_, rfl⟩
  have HFB := Lib.hid hfb
  have hft : fb = true := by rw [hfb]; exact decide_eq_true hfew
  obtain ⟨N, hN1, k1', k2', k3'⟩ := mod_natU n 6 (by omega) (by omega)
  obtain ⟨M, hM1⟩ : ∃ M, M = N + 1 := ⟨_, rfl⟩
  have k1 : ∀ [Inhabited Unit], (IntKind.u64.wrap n).tmod 6 = (N : Int) := by intro _; exact k1'
  have k2 : ∀ [Inhabited Unit], (IntKind.u64.wrap n) % 6 = (N : Int) := by intro _; exact k2'
  have k3 : ∀ [Inhabited Unit], wrap64 ((IntKind.u64.wrap n).tmod 6) = (N : Int) := by intro _; exact k3'
  have k4 : (1 : Int) + (N : Int) = (M : Int) := by omega
  have hN6 : N < 6 := by omega
  have HMR := Lib.hid (show 1 ≤ M ∧ M ≤ 2048 from by omega)
  clear hM hl hfew hfb hN1 k1' k2' k3' hn hleft hM1
  subst hft
  obtain ⟨l0, hl0⟩ : ∃ l0, l0 = max left (-1) := ⟨_, rfl⟩
  have HL0 := Lib.hid hl0
  have km1 : ∀ (ts : Array TypeId) (t : TypeId) (W : World), (Builtin.max_ ts t #[.int .i64 left, .int .i64 (-1)]).run Try.prog W = .ok (.int .i64 l0) W := fun ts t W => by rw [run_max_int2, hl0]; congr 2; split <;> omega
  clear hl0
  go_enter Try.func4, Try.ntmps4
  go_upto_region 4 with (first
    | (go_at_call 7; go_loud (refine (lives13 HM.out w).mono ?_; rintro e w1 ⟨rfl, hb⟩; have HB1 := Lib.hid hb; clear hb))
    | (go_at_call 8; go_loud (refine (few_any a0 L0 c0 l w1 (HL.out.on HB1.out)).mono ?_; rintro e w2 ⟨rfl, hb⟩; rw [← HFB.out]; have HB2 := Lib.hid (bt HB1.out hb); clear hb)))
  go_upto_region 5 with (go_at_call 15; go_loud (refine (HM.out.newPower left w2 HLE.out).mono ?_; rintro e w3 ⟨pb, Fp, rfl, hp, hf, hb⟩; rw [← HL0.out] at hp; have HP3 := Lib.hid hp; have HFP := Lib.hid (show ∀ k, Fp k → w.heap.size ≤ k from fun k hk => Nat.le_trans HB2.out.size (hf k hk)); have HB3 := Lib.hid (bt HB2.out hb); clear hp hf hb))
  have HLO := Lib.hid (show LeftOk (l0) from by have := HLE.out; have h0 := HL0.out; unfold i64R at this; unfold LeftOk; omega)
  go_upto_region 6 with (go_at_call 9; go_loud (refine (HM.out.new M (some pb) (w3.alloc (.cells #[.int .i64 (l0), .int .i64 0] 50)) HMR.out.1 HMR.out.2).mono ?_; rintro e w5 ⟨tb, F, rfl, hr, hf, hb⟩; have HR5 := Lib.hid hr; have HF5 := Lib.hid hf; have HB5 := Lib.hid hb; clear hr hf hb))
  obtain ⟨qb, hqb⟩ : ∃ qb, qb = w3.heap.size := ⟨_, rfl⟩
  obtain ⟨mb, hmb⟩ : ∃ mb, mb = w5.heap.size := ⟨_, rfl⟩
  have HPI := Lib.hid (show PI R P w (w5.alloc (.cells #[.int .i64 (M : Nat), .slice none 0 0, .bool false] 54)) tb pb mb qb F Fp (fun k => k = mb ∨ k = qb ∨ (Value.slice none 0 0).ownBlock = some k) (MS.new M) [] none 0 (l0) 0 0 M from by
    have b4 : Below w3.heap.size w3 (w3.alloc (.cells #[.int .i64 (l0), .int .i64 0] 50)) := (Below.refl _ _).alloc (Nat.le_refl _) _
    have b6 : Below w5.heap.size w5 (w5.alloc (.cells #[.int .i64 (M : Nat), .slice none 0 0, .bool false] 54)) := (Below.refl _ _).alloc (Nat.le_refl _) _
    have h3 := HB3.out.size
    have h4 : (w3.alloc (.cells #[.int .i64 (l0), .int .i64 0] 50)).heap.size = w3.heap.size + 1 := by simp
    have h5 := HB5.out.size
    have b35 : Below w3.heap.size w3 w5 := b4.trans (HB5.out.mono (by omega))
    have b36 := b35.trans (b6.mono b35.size)
    have fi : ∀ j, F j → j < w5.heap.size := fun j hj => HM.out.inside HR5.out j hj
    have fpi : ∀ j, Fp j → j < w3.heap.size := fun j hj => HM.out.pinside HP3.out j hj
    have flo : ∀ j, F j → w3.heap.size + 1 ≤ j := fun j hj => by have := HF5.out j hj; omega
    have hown : (Value.slice none 0 0).ownBlock = none := rfl
    refine ⟨⟨HM.out.keep HR5.out (fun j hj => b6.block j (fi j hj)), HM.out.pkeep HP3.out (fun j hj => b36.block j (fpi j hj)), fun j h1 h2 => by have := flo j h1; have := fpi j h2; omega, MS.new_ok HMR.out.1 HMR.out.2, HLO.out, ⟨Nat.le_refl _, Nat.le_refl _⟩⟩,
      ⟨by rw [hmb]; exact heap_alloc_new w5 _, World.ownsRow_nil _ _ _ _, (fun e => by cases e), ?_, ⟨by omega, fun e => by cases e⟩, fun j => Iff.rfl, Sim.new M, MS.new_ok HMR.out.1 HMR.out.2, HLO.out, ⟨Nat.le_refl _, Nat.le_refl _⟩⟩, ?_, ?_, ?_, rfl, HB3.out.trans (b36.mono h3)⟩
    · show _ = _
      rw [hqb, b6.block w3.heap.size (by omega), HB5.out.block w3.heap.size (by omega)]
      exact heap_alloc_new w3 _
    · rintro j (h | h)
      · have := flo j h; omega
      · exact HFP.out j h
    · rintro j (h | h | h)
      · omega
      · omega
      · rw [hown] at h; cases h
    · rintro j (h | h | h) he
      · rcases he with he | he
        · have := fi j he; omega
        · have := fpi j he; omega
      · rcases he with he | he
        · have := flo j he; omega
        · have := fpi j he; omega
      · rw [hown] at h; cases h)
  go_wp2_with fail
  rw [← hqb, ← hmb]
  clear hqb hmb HR5 HF5 HB5 HP3 HFP HLO HL0 HLE km1 k1 k2 k3
  generalize w5.alloc (.cells #[.int .i64 (M : Nat), .slice none 0 0, .bool false] 54) = w6 at HPI ⊢
  go_loopw [53] (fun q wr => ∃ (k : Nat) (F Fp G : Nat → Prop) (S : MS) (L : List EV) (a : Option Addr) (c : Nat) (l' : Int) (u : Nat), k ≤ L0 ∧ q = .int .i64 (k : Nat) ∧ PI R P w wr tb pb mb qb F Fp G S L a c l' u k M) (fun q _ => L0 - (intOf q).toNat)
  case atStart => exact ⟨0, F, Fp, _, _, _, _, _, _, _, Nat.zero_le _, rfl, HPI.out⟩
  case round =>
    obtain ⟨k, F, Fp, G, S, L, a, c, l', u, hk, rfl, hpi⟩ := hrel
    rename World => V
    have HPV := Lib.hid hpi
    clear hpi HPI
    by_cases hlt : k < L0
    · as_aux_lemma =>
        have HLT := Lib.hid hlt
        obtain ⟨x, hx⟩ : ∃ x, l[k]? = some x := ⟨_, List.getElem?_eq_getElem (by rw [HLL.out]; exact hlt)⟩
        have HLV := Lib.hid (HL.out.on HPV.out.bel)
        have HXV := Lib.hid (HL.out.2.2.2.1 x (List.mem_of_getElem? hx))
        obtain ⟨b, off, rfl, hb, hc⟩ := HLV.out.2.2.2.2 (by omega)
        have hr := hc k x hx
        have hc0 : V.cell? ⟨b, off + k * 4, none⟩ = some (.int .i64 x.kind) := hr 0 _ rfl
        have hc1 : V.cell? ⟨b, off + k * 4 + 1, none⟩ = some (.int .i64 x.at_) := hr 1 _ rfl
        have hc2 : V.cell? ⟨b, off + k * 4 + 2, none⟩ = some (.int .i64 x.x) := hr 2 _ rfl
        have hc3 : V.cell? ⟨b, off + k * 4 + 3, none⟩ = some (.slice x.ka x.kn x.kc) := hr 3 _ rfl
        have qk : (k : Int) < (L0 : Int) := by omega
        obtain ⟨O, hO⟩ : ∃ O, O = Obj.cells #[.int .i64 x.kind, .int .i64 x.at_, .int .i64 x.x, .slice x.ka x.kn x.kc] 31 := ⟨_, rfl⟩
        have hb1 : Below V.heap.size V (V.alloc O) := (Below.refl _ _).alloc (Nat.le_refl _) _
        have HBO := Lib.hid hb1
        have HBW := Lib.hid (HPV.out.bel.trans (hb1.mono HPV.out.bel.size))
        have HS0 := Lib.hid (show V.heap.size + 1 = (V.alloc O).heap.size by simp)
        have HDO := Lib.hid (do_any HM.out (V.alloc O) tb F S (some pb) Fp l' u k w.heap.size x (HPV.out.mw.on HM.out hb1) (by omega) (HXV.out.on HBW.out) HPV.out.hi (fun h0 b o e => HXV.out.2.2.2.low h0 e))
        rw [show (some pb).isSome = true from rfl] at HDO
        obtain ⟨D, hD⟩ : ∃ D, D = doS true x S l' u := ⟨_, rfl⟩
        have HDZ := Lib.hid (show D.S.size = S.size from by rw [hD]; exact doS_size _ _ _ _ _)
        have HBX := Lib.hid (show ∀ W, KB (fun j => F j ∨ Fp j) (V.alloc O) W → W.cell? ⟨V.heap.size, 0, none⟩ = some (.int .i64 x.kind) ∧ W.cell? ⟨V.heap.size, 1, none⟩ = some (.int .i64 x.at_) ∧ W.cell? ⟨V.heap.size, 2, none⟩ = some (.int .i64 x.x) ∧ W.cell? ⟨V.heap.size, 3, none⟩ = some (.slice x.ka x.kn x.kc) from fun W hW => by
          have hh : W.heap[V.heap.size]? = some O := (hW.2 V.heap.size (by rw [← HS0.out]; omega) (fun h => by have := HPV.out.mw.inside HM.out h; omega)).trans (heap_alloc_new V _)
          rw [hO] at hh
          refine ⟨?_, ?_, ?_, ?_⟩
          all_goals rw [cell_of_row _ _ _ _ _ _ hh]; rfl)
        have HWT := Lib.hid (show ∀ W, KB (fun j => F j ∨ Fp j) (V.alloc O) W → Calls Try.prog 16 #[pV mb, pV qb, acA x] W fun e w' => e = .returned (.tuple #[.string (strOfNums D.out), .int .i64 D.err]) ∧ RSN W mb G qb D k w' from fun W hW => by
          rw [hD]
          exact want_any W mb G qb S L a c l' u k x (HPV.out.ref HM.out HBO.out hW) (by omega) (HXV.out.on (HBW.out.trans (HPV.out.hi.below hW HBW.out.size))))
        rw [← hD] at HDO
        rw [hO] at HDO HWT HBX HBO HBW HS0
        unfold acA at HDO HWT
        clear hlt hx hr hc hb hb1 hO hD hk
        go_upto_region 13 with (go_at_call 10; go_loud (refine HDO.out.mono ?_; rintro e w2 ⟨F', rfl, hm, hkb, hf⟩; have HM2 := Lib.hid hm; have HKB := Lib.hid hkb; have HF2 := Lib.hid hf; clear hm hkb hf))
        clear hc0 hc1 hc2 hc3
        obtain ⟨hx0, hx1, hx2, hx3⟩ := HBX.out w2 HKB.out
        go_upto_region 14 with (go_at_call 16; go_loud (refine (HWT.out w2 HKB.out).mono ?_; rintro e w3 ⟨rfl, hr⟩; obtain ⟨G', L', a', c', hpi⟩ := HPV.out.act HM.out HBO.out HM2.out HKB.out HF2.out hr HDZ.out; have HP3 := Lib.hid hpi; clear hr hpi))
        have HB3 := Lib.hid (show Below w.heap.size w w3 from HP3.out.bel)
        obtain ⟨OS, hOS⟩ : ∃ OS, OS = strOfNums D.out := ⟨_, rfl⟩
        obtain ⟨ER, hER⟩ : ∃ ER, ER = D.err := ⟨_, rfl⟩
        obtain ⟨NS, hNS⟩ : ∃ NS, NS = (snapM D.S).length := ⟨_, rfl⟩
        obtain ⟨SS, hSS⟩ : ∃ SS, SS = strOfNums (snapM D.S) := ⟨_, rfl⟩
        obtain ⟨dn, hdn⟩ : ∃ dn, dn = D.S.down := ⟨_, rfl⟩
        obtain ⟨l2, hl2⟩ : ∃ l2, l2 = D.l := ⟨_, rfl⟩
        obtain ⟨u2, hu2⟩ : ∃ u2, u2 = D.u := ⟨_, rfl⟩
        obtain ⟨ob, hob⟩ : ∃ ob, ob = (l2 != 0) := ⟨_, rfl⟩
        have HSN := Lib.hid (show ∀ W, Below w3.heap.size w3 W → Calls Try.prog 17 #[tbV tb] W fun e w' => ∃ a c, e = .returned (.slice a NS c) ∧ (∀ U, Below w'.heap.size w' U → (convert 39 9 (.slice a NS c)).run Try.prog U = .ok (.string SS) U) ∧ Below w3.heap.size w3 w' ∧ Below W.heap.size W w' from fun W hW => by
          rw [hNS, hSS]
          have hq := HP3.out.on HM.out hW
          refine (HM.out.snap tb F' D.S (some pb) W hq.mw.r hq.mw.ok (by have := hq.mw.few.1; omega)).mono ?_
          rintro e w' ⟨a, c, rfl, h1, -, h2⟩
          exact ⟨a, c, rfl, h1.strU, hW.trans (h2.mono hW.size), h2⟩)
        have HRN := Lib.hid (show ∀ W, Below w3.heap.size w3 W → Calls Try.prog 18 #[pV mb] W fun e w' => e = .returned (.string SS) ∧ Below w3.heap.size w3 w' ∧ Below W.heap.size W w' from fun W hW => by
          rw [hSS]
          have hq := HP3.out.on HM.out hW
          refine (refSnap_any W mb G' qb D.S L' a' c' D.l D.u (k + 1) hq.rs (by omega)).mono ?_
          rintro e w' ⟨rfl, h2⟩
          exact ⟨rfl, hW.trans (h2.mono hW.size), h2⟩)
        have HUP := Lib.hid (show ∀ W, Below w3.heap.size w3 W → Calls Try.prog 19 #[tbV tb] W fun e w' => e = .returned (.bool (!dn)) ∧ Below w3.heap.size w3 w' ∧ Below W.heap.size W w' from fun W hW => by
          rw [hdn]
          have hq := HP3.out.on HM.out hW
          refine (HM.out.up tb F' D.S (some pb) W hq.mw.r).mono ?_
          rintro e w' ⟨rfl, h2⟩
          exact ⟨rfl, hW.trans (h2.mono hW.size), h2⟩)
        have HON := Lib.hid (show ∀ W, Below w3.heap.size w3 W → Calls Try.prog 20 #[tbV pb] W fun e w' => e = .returned (.bool ob) ∧ Below w3.heap.size w3 w' ∧ Below W.heap.size W w' from fun W hW => by
          rw [hob, hl2]
          have hq := HP3.out.on HM.out hW
          refine (HM.out.on (some pb) Fp D.l D.u W hq.mw.p).mono ?_
          rintro e w' ⟨rfl, h2⟩
          exact ⟨rfl, hW.trans (h2.mono hW.size), h2⟩)
        have HUS := Lib.hid (show ∀ W, Below w3.heap.size w3 W → Calls Try.prog 21 #[tbV pb] W fun e w' => e = .returned (.int .i64 (u2 : Nat)) ∧ Below w3.heap.size w3 w' ∧ Below W.heap.size W w' from fun W hW => by
          rw [hu2]
          have hq := HP3.out.on HM.out hW
          refine (HM.out.used (some pb) Fp D.l D.u W hq.mw.p (by have := hq.mw.few.2; omega)).mono ?_
          rintro e w' ⟨rfl, h2⟩
          exact ⟨rfl, hW.trans (h2.mono hW.size), h2⟩)
        have hd2 : ∀ W, Below w3.heap.size w3 W → W.cell? ⟨mb, 2, none⟩ = some (.bool dn) := fun W hW => by rw [hdn]; exact (HP3.out.rs.on hW).m.c2
        have hd0 : ∀ W, Below w3.heap.size w3 W → W.cell? ⟨qb, 0, none⟩ = some (.int .i64 l2) := fun W hW => by rw [hl2]; exact (HP3.out.rs.on hW).p.c0
        have hd1 : ∀ W, Below w3.heap.size w3 W → W.cell? ⟨qb, 1, none⟩ = some (.int .i64 (u2 : Nat)) := fun W hW => by rw [hu2]; exact (HP3.out.rs.on hW).p.c1
        have hud : ((!dn) == dn) = false := by cases dn <;> rfl
        have hlo : (l2 != 0) = ob := hob.symm
        have ho1 : (ob != ob) = false := by cases ob <;> rfl
        have hs1 : (OS.toList == OS.toList) = true := by simp
        have hs2 : (SS.toList == SS.toList) = true := by simp
        have hs3 : (OS.toList != OS.toList) = false := by simp
        have hs4 : (SS.toList != SS.toList) = false := by simp
        rw [← hOS, ← hER]
        have HU2 := Lib.hid (show u2 ≤ 1000 from by rw [hu2]; have := HP3.out.mw.few.2; omega)
        clear hOS hER hNS hSS hdn hl2 hu2 hob hx0 hx1 hx2 hx3
        go_region_held (fun W => Below w3.heap.size w3 W) (first | assumption | exact (Below.refl _ _).drew | (refine Below.drew ?_; assumption))
          (first
            | (go_at_call 17; refine (HSN.out _ (by first | assumption | exact (Below.refl _ _).drew | (refine Below.drew ?_; assumption))).mono ?_; rintro e w5 ⟨a5, c5, rfl, hcv, hb5, hbb⟩; have hcv0 := hcv w5 (Below.refl _ _); have hcv1 := hcv w5.drew ((Below.refl _ _).drew))
            | (go_at_call 18; refine (HRN.out _ (by first | assumption | exact (Below.refl _ _).drew | (refine Below.drew ?_; assumption))).mono ?_; rintro e w6 ⟨rfl, hb6, hbc⟩)
            | (go_at_call 19; refine (HUP.out _ (by first | assumption | exact (Below.refl _ _).drew | (refine Below.drew ?_; assumption))).mono ?_; rintro e w7 ⟨rfl, hb7, hbd⟩)
            | (go_at_call 20; refine (HON.out _ (by first | assumption | exact (Below.refl _ _).drew | (refine Below.drew ?_; assumption))).mono ?_; rintro e w8 ⟨rfl, hb8, hbe⟩)
            | (go_at_call 21; refine (HUS.out _ (by first | assumption | exact (Below.refl _ _).drew | (refine Below.drew ?_; assumption))).mono ?_; rintro e w9 ⟨rfl, hb9, hbf⟩))
        all_goals
          as_aux_lemma =>
            have HPW := Lib.hid (HP3.out.on HM.out hb9)
            clear hd0 hd1 hd2 hud hlo ho1 hs1 hs2 hs3 hs4 hcv hcv0 hcv1 HP3 HSN HRN HUP HON HUS
            obtain ⟨CE, hCE⟩ : ∃ CE, CE = L'.filter fun x => !isSure x := ⟨_, rfl⟩
            have HCA := Lib.hid (refCache_any w9 mb D.S.size D.S.down L' a' c' HPW.out.rs.m HPW.out.rs.row (by have := HPW.out.rs.few.1; omega))
            have HCS := Lib.hid (show CE.map cwE = D.S.cache from by rw [hCE]; exact HPW.out.rs.sim.cache)
            rw [← hCE] at HCA
            obtain ⟨NC, hNC⟩ : ∃ NC, NC = CE.length := ⟨_, rfl⟩
            rw [← hNC] at HCA
            have HNE := Lib.hid hNC
            have HNC := Lib.hid (show NC = D.S.cache.length from by rw [hNC, ← HCS.out, List.length_map])
            have hN61 : NC ≤ 61 := by rw [HNC.out]; have := HPW.out.mw.few.1; omega
            have HCC := Lib.hid (show ∀ W, Below w9.heap.size w9 W → Calls Try.prog 13 #[tbV tb] W fun e w' => ∃ (a : Option Addr) (c : Nat) (ds : List (Option Addr × Nat)), e = .returned (.slice a NC c) ∧ w'.ownsRow W.heap.size 43 2 (.slice a NC c) NC (cwC D.S.cache ds) ∧ ds.length = NC ∧
                (∀ (k : Nat) (x : CW) (d : Option Addr × Nat), D.S.cache[k]? = some x → ds[k]? = some d → Arg8c w' d.1 512 d.2 x.2) ∧ Below W.heap.size W w' ∧ Below w9.heap.size w9 w' from fun W hW => by
              have hq := HPW.out.on HM.out hW
              refine (HM.out.cached tb F' D.S (some pb) W hq.mw.r hq.mw.ok (by have := hq.mw.few.1; omega)).mono ?_
              rintro e w' ⟨a, c, ds, rfl, h1, h2, h3, h4⟩
              rw [HNC.out]
              exact ⟨a, c, ds, rfl, h1, h2, fun k x d e1 e2 => (h3 k x d e1 e2).1, h4, hW.trans (h4.mono hW.size)⟩)
            clear hCE hNC
            go_upto_region 17 with (go_at_call 22; go_loud (refine HCA.out.mono ?_; rintro e w10 ⟨a10, c10, rfl, ho, hb⟩; have HO10 := Lib.hid (own_low ho (Nat.zero_le _)); have HB10 := Lib.hid hb; clear ho hb))
            go_upto_region 19 with (go_at_call 13; go_loud (refine (HCC.out w10 HB10.out).mono ?_; rintro e w11 ⟨a11, c11, ds11, rfl, -, -, -, hb, hb9b⟩; have HO11 := Lib.hid (own_belowU HO10.out hb); have HB11 := Lib.hid hb9b; clear hb hb9b))
            go_wp2_with (go_at_call 13; go_loud (refine (HCC.out w11 HB11.out).mono ?_; rintro e w12 ⟨a12, c12, ds, rfl, ho, hds, hd, hb, hb9b⟩; have HOC := Lib.hid (own_low ho (Nat.zero_le _)); have HDS := Lib.hid hds; have HDC := Lib.hid hd; have HO12 := Lib.hid (own_belowU HO11.out hb); have HB12 := Lib.hid hb9b; clear ho hds hd hb hb9b))
            go_loopw [126] (fun q wr => ∃ m : Nat, m ≤ NC ∧ q = .int .i64 (m : Nat) ∧ Below w12.heap.size w12 wr) (fun q _ => NC - (intOf q).toNat)
            case atStart => exact ⟨0, Nat.zero_le _, rfl, Below.refl _ _⟩
            case round =>
              obtain ⟨m, hm, rfl, hbel⟩ := hrel
              rename World => Z
              have HBZ := Lib.hid hbel
              clear hbel
              by_cases hlt : m < NC
              · as_aux_lemma =>
                  have HLM := Lib.hid hlt
                  obtain ⟨y, hy⟩ : ∃ y, CE[m]? = some y := ⟨_, List.getElem?_eq_getElem (by rw [← HNE.out]; exact hlt)⟩
                  have hyc : D.S.cache[m]? = some (cwE y) := by rw [← HCS.out, List.getElem?_map, hy]; rfl
                  obtain ⟨d, hd⟩ : ∃ d, ds[m]? = some d := ⟨_, List.getElem?_eq_getElem (by rw [HDS.out]; exact hlt)⟩
                  have HOZ := Lib.hid (own_belowU HOC.out HBZ.out)
                  have HEZ := Lib.hid (own_belowU HO12.out HBZ.out)
                  obtain ⟨g6, rfl⟩ := own_someT2 HOZ.out (by omega)
                  obtain ⟨g7, rfl⟩ := own_someT2 HEZ.out (by omega)
                  obtain ⟨k1, k2⟩ := cwC_get D.S.cache ds m (cwE y) d hyc hd
                  obtain ⟨j0, j1, j2⟩ := evC_get CE m y hy
                  have hc0 := HOZ.out.cellAt (m * 2) (by omega)
                  have hc1 := HOZ.out.cellAt (m * 2 + 1) (by omega)
                  have he0 := HEZ.out.cellAt (m * 3) (by omega)
                  have he1 := HEZ.out.cellAt (m * 3 + 1) (by omega)
                  rw [k1] at hc0
                  rw [k2] at hc1
                  rw [j0] at he0
                  rw [j1] at he1
                  have HXD := Lib.hid ((HDC.out m (cwE y) d hyc hd).onU HBZ.out)
                  have qm : (m : Int) < (NC : Int) := by omega
                  obtain ⟨y1, y2, y3⟩ := y
                  obtain ⟨ad, cd⟩ := d
                  dsimp only [cwE] at hc0 hc1 he0 he1 HXD
                  obtain ⟨XS, hXS⟩ : ∃ XS, XS = strOfNums y2 := ⟨_, rfl⟩
                  rw [← hXS] at he1
                  have hcd : ∀ q, (convert 39 9 (.slice ad 512 cd)).run Try.prog ((Z.alloc (.cells #[.int .i64 (y1 : Nat), .slice ad 512 cd] 43)).drewN q) = .ok (.string XS) ((Z.alloc (.cells #[.int .i64 (y1 : Nat), .slice ad 512 cd] 43)).drewN q) := fun q => by
                    rw [hXS]; exact HXD.out.strU _ (below_drewN ((Below.refl _ Z).alloc (Nat.le_refl _) _) q)
                  have hcd0 := hcd 0
                  rw [World.drewN_zero] at hcd0
                  have hx1 : (XS.toList == XS.toList) = true := by simp
                  have hx2 : (XS.toList != XS.toList) = false := by simp
                  have hx3 : ((y1 : Int) != (y1 : Int)) = false := by simp
                  have HEA := own_belowU HEZ.out ((Below.refl _ Z).alloc (Nat.le_refl _) (.cells #[.int .i64 (y1 : Nat), .slice ad 512 cd] 43))
                  have he2 := HEA.cellAt (m * 3) (by omega)
                  have he3 := HEA.cellAt (m * 3 + 1) (by omega)
                  rw [j0] at he2
                  rw [j1, ← hXS] at he3
                  dsimp only at he2
                  clear hlt hy hyc hd k1 k2 j0 j1 j2 hXS hm HEA he0 he1
                  go_upto_region 22 with fail
                  go_quiet (fail)
                  go_wp2_with fail
                  go_roundw
                  case rel => exact ⟨m + 1, HLM.out, by go_num, below_drewN (HBZ.out.alloc HBZ.out.size _) _⟩
                  case measure => simp [intOf]; have := HLM.out; omega
              · as_aux_lemma =>
                  obtain rfl : m = NC := by omega
                  have HPZ := Lib.hid (HPW.out.on HM.out (HB12.out.trans (HBZ.out.mono HB12.out.size)))
                  clear hlt hm
                  go_wp2_with fail
                  go_roundw
                  case rel => exact ⟨k + 1, F', Fp, G', D.S, L', a', c', D.l, D.u, HLT.out, by go_num, HPZ.out⟩
                  case measure => simp [intOf]; have := HLT.out; omega
    · as_aux_lemma =>
        obtain rfl : k = L0 := by omega
        clear hlt hk
        go_wp2_with (go_at_call 23; go_loud (refine (HM.out.len tb F S (some pb) V HPV.out.mw.r HPV.out.mw.ok).mono ?_; rintro e w7 ⟨rfl, hb⟩; rw [HPV.out.sz]; have HB7 := Lib.hid (bt HPV.out.bel hb); clear hb))
        go_ret
        exact ⟨by simp, HB7.out⟩
set_option maxHeartbeats 8000000 in
theorem mediumPlays_any {R : World → Nat → (Nat → Prop) → MS → Option Nat → Prop} {P : World → Nat → (Nat → Prop) → Int → Nat → Prop} (hM : MediumM R P) (n left : Int) (a0 : Option Addr) (L0 c0 : Nat) (l : List AC) (w : World)
    (hn : i64R n) (hleft : i64R left) (hl : ActA w a0 L0 c0 l) :
    Calls Try.prog 4 #[.int .i64 n, .int .i64 left, .slice a0 L0 c0] w fun e w' => e = .returned (.bool true) ∧ Below w.heap.size w w' := by
  by_cases hfew : (∀ x, x ∈ l → x.kn ≤ 60) ∧ L0 ≤ 60
  · exact mediumPlays_core hM n left a0 L0 c0 l w hn hleft hl hfew
  · have HM := Lib.hid hM
    have HL := Lib.hid hl
    obtain ⟨fb, hfb⟩ : ∃ fb, fb = decide ((∀ x, x ∈ l → x.kn ≤ 60) ∧ L0 ≤ 60) := ⟨_, rfl⟩
    have HFB := Lib.hid hfb
    have hft : fb = false := by rw [hfb]; exact decide_eq_false hfew
    clear hM hl hfew hfb
    subst hft
    go_enter Try.func4, Try.ntmps4
    go_upto_region 2 with (first
      | (go_at_call 7; go_loud (refine (lives13 HM.out w).mono ?_; rintro e w1 ⟨rfl, hb⟩; have HB1 := Lib.hid hb; clear hb))
      | (go_at_call 8; go_loud (refine (few_any a0 L0 c0 l w1 (HL.out.on HB1.out)).mono ?_; rintro e w2 ⟨rfl, hb⟩; rw [← HFB.out]; have HB2 := Lib.hid (bt HB1.out hb); clear hb)))
    go_wp2_with (go_at_call 7; go_loud (refine (lives13 HM.out w2).mono ?_; rintro e w3 ⟨rfl, hb⟩; have HB3 := Lib.hid (bt HB2.out hb); clear hb))
    go_ret
    exact ⟨rfl, HB3.out⟩
end Go.Proofs.Ytoonaendakjecaa
