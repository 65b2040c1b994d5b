/- The document's medium: Flush. -/
import Derived.Test.YtoonaendakjecaaUs
namespace Go.Proofs.Ytoonaendakjecaa
open Go.ChangeShapes Go.WideShapes Go.ChangeAt Go.RowKit Go.Shelf
set_option linter.unusedVariables false
set_option linter.unusedSimpArgs false
set_option maxRecDepth 100000

set_option maxHeartbeats 8000000 in
theorem refFlush_any (w : World) (mb : Nat) (G : Nat → Prop) (qb : Nat) (S : MS) (L : List EV) (a : Option Addr) (c : Nat) (l : Int) (u j : Nat) (h : RS w mb G qb S L a c l u j) (hj : j ≤ 900) :
    Calls Try.prog 39 #[pV mb, pV qb] w fun e w' => e = .returned (.int .i64 (opFlush true S l u).err) ∧ RSN w mb G qb (opFlush true S l u) j w' := by
  have H := Lib.hid h
  have HSP := Lib.hid (refSpend_any w qb l u h.p h.left (by have := h.few.2; omega))
  have hc2 := h.m.c2
  have HST := Lib.hid (show ∀ e, RSN w mb G qb ⟨[], e, S, l, u⟩ j w from fun e => ⟨G, L, a, c, h.more, KB.refl _ _, fun k hk => .inl hk⟩)
  have HGM := Lib.hid (show G mb ∧ G qb from ⟨(h.foot mb).2 (.inl rfl), (h.foot qb).2 (.inr (.inl rfl))⟩)
  clear h
  unfold opFlush
  by_cases hd : S.down = true
  · rw [if_pos (.inl hd)]
    rw [hd] at hc2
    clear hd
    go_enter Try.func39, Try.ntmps39
    go_wp2
    go_ret
    exact ⟨rfl, HST.out _⟩
  · have hd' : S.down = false := by simpa using hd
    rw [hd'] at hc2
    by_cases h0 : l = 0
    · rw [if_pos (.inr h0)]
      subst h0
      clear hd hd'
      go_enter Try.func39, Try.ntmps39
      go_wp2_with (go_at_call 49; go_loud (refine HSP.out.mono ?_; rintro e w2 ⟨rfl, hp, hk⟩; have HP2 := Lib.hid hp; have HK2 := Lib.hid hk; clear hp hk))
      go_ret
      exact ⟨rfl, G, L, a, c, H.out.power HP2.out HK2.out H.out.left (Nat.le_succ_of_le H.out.few.2), HK2.out.monoF (fun k e => by rw [e]; exact HGM.out.2), fun k hk => .inl hk⟩
    · rw [if_neg (fun h => h.elim hd h0)]
      have z0 : (l != 0) = true := by rw [bne_iff_ne]; exact h0
      rw [z0, if_neg h0, if_neg h0] at HSP
      clear h0 z0 hd hd'
      have HJ := Lib.hid hj
      clear hj
      obtain ⟨S', hS'⟩ : ∃ S', S' = S.flush := ⟨_, rfl⟩
      rw [← hS']
      have HS := Lib.hid hS'
      clear hS'
      go_enter Try.func39, Try.ntmps39
      go_wp2_with (first
        | (go_at_call 49; go_loud (refine HSP.out.mono ?_; rintro e w2 ⟨rfl, hp, hk⟩; have HP2 := Lib.hid hp; have HK2 := Lib.hid hk; clear hp hk))
        | (go_at_call 40; go_loud (refine (refCrash_any w2 mb G qb S L a c (spendL l) (u + 1) j none 0 0 [] true (H.out.power HP2.out HK2.out (spendL_ok H.out.left) (Nat.succ_le_succ H.out.few.2)) HJ.out (ArgB.nil _)).mono ?_; rintro e w3 ⟨rfl, hr⟩; have HR3 := Lib.hid hr; clear hr)))
      go_ret
      obtain ⟨G', L', a', c', h1, h2, h3⟩ := HR3.out
      refine ⟨rfl, G', L', a', c', by rw [HS.out]; exact h1, (HK2.out.monoF (fun k e => by rw [e]; exact HGM.out.2)).trans h2, fun k hk => ?_⟩
      rcases h3 k hk with h | h
      · exact .inl h
      · exact .inr (Nat.le_trans HK2.out.1.size h)
end Go.Proofs.Ytoonaendakjecaa
