/- The contracts of package tape as it landed: all of TapeM. -/
import Derived.Test.YtmiafhblllbimaaBf
import Derived.Test.YtmiafhblllbimaaBc
namespace Go.Proofs.Ytmiafhblllbimaa
open Go.ChangeShapes Go.WideShapes Go.ChangeAt Go.RowKit Go.Shelf
set_option linter.unusedVariables false
set_option linter.unusedSimpArgs false
set_option maxRecDepth 100000
attribute [local go_sem] Oper.semAt_some

/-! ## slices.Values over things taken -/
theorem take_nextK {L : List TK} {k : Nat} {x : TK} (h : L[k]? = some x) : L.take (k + 1) = L.take k ++ [x] := by
  rw [List.take_add_one, h]; rfl
/-- The box holds the slice, and the things stand there. -/
def RdK (n₀ Bs : Nat) (a : Option Addr) (cX : Nat) (L : List TK) (W : World) : Prop :=
  W.cell? ⟨Bs, 0, none⟩ = some (.slice a L.length cX) ∧ ∀ k x, L[k]? = some x → ∃ g, a = some ⟨g, 0, none⟩ ∧ g < n₀ ∧ W.rangeAt g (k * 3) (tkV x)
theorem RdK.below {n₀ Bs cX : Nat} {a : Option Addr} {L : List TK} {W W' : World} (h : RdK n₀ Bs a cX L W) (hb : Below n₀ W W') (hB : Bs < n₀) : RdK n₀ Bs a cX L W' :=
  ⟨(hb.cell (p := ⟨Bs, 0, none⟩) hB).trans h.1, fun k x hx => by
    obtain ⟨g, e, hg, hr⟩ := h.2 k x hx
    exact ⟨g, e, hg, fun j v hv => (hb.cell (p := ⟨g, k * 3 + j, none⟩) hg).trans (hr j v hv)⟩⟩
set_option maxHeartbeats 2000000 in
theorem valK_in (F : Fence) (n : Nat) (hF : F.fn 15) (hro : F.round = none) (hn : 1 ≤ n) (l n₀ Bs cX : Nat) (a : Option Addr) (L : List TK) (hL : L.length ≤ 1000000) (hBs : Bs < n₀) (J Jx : List TK → World → Prop)
    (hJa : ∀ pre W o, J pre W → J pre (W.alloc o)) (hn₀ : ∀ pre W, J pre W → n₀ ≤ W.heap.size)
    (hY : ∀ pre x W, J pre W → pre.length < L.length → YieldAt F (n - 1) Try.prog l #[tkA x] W fun e W' =>
      (e = .returned (.bool true) ∧ J (pre ++ [x]) W' ∧ Below n₀ W W') ∨ (e = .returned (.bool false) ∧ Jx (pre ++ [x]) W'))
    (W : World) (hR : RdK n₀ Bs a cX L W) (h0 : J [] W) :
    CallsIn F n Try.prog 15 #[.func (.yield l) #[] #[], .pointer (some ⟨Bs, 0, none⟩)] W fun e W' => (∃ v, e = .returned v) ∧
      ((∃ ys, ys = L ∧ J ys W') ∨ (∃ pre, True ∧ Jx pre W')) := by
  refine callsIn_of_wp Try.func15 rfl hF ?_ hro
  simp only [Try.ntmps15, List.size_toArray, List.length_cons, List.length_nil, Nat.reduceAdd, Nat.reduceSub, Array.replicate_succ, Array.replicate_zero, List.push_toArray, List.append_toArray, List.nil_append, List.cons_append]
  have hbx := hR.1
  obtain ⟨N, hN⟩ : ∃ N, N = L.length := ⟨_, rfl⟩
  have HN := Lib.hid hN
  rw [← hN] at hbx hL
  gi_wp2
  gi_loopw [7] (fun i wr => ∃ k : Nat, k ≤ N ∧ i = .int .i64 (k : Nat) ∧ J (L.take k) wr ∧ RdK n₀ Bs a cX L wr)
    (fun i _ => N - (intOf i).toNat)
  case atStart => exact ⟨0, Nat.zero_le _, rfl, h0, hR⟩
  case round =>
    obtain ⟨k, hk, rfl, hJs, hRd⟩ := hrel
    by_cases hlt : k < N
    · obtain ⟨x, hx⟩ : ∃ x, L[k]? = some x := ⟨_, List.getElem?_eq_getElem (by rw [← HN.out]; exact hlt)⟩
      obtain ⟨g, rfl, hg, hr⟩ := hRd.2 k x hx
      have HT := Lib.hid (take_nextK hx)
      have hc0 : wr.cell? ⟨g, k * 3, none⟩ = some (.string x.1) := hr 0 _ rfl
      have hc1 : wr.cell? ⟨g, k * 3 + 1, none⟩ = some (.int .i64 (x.2.1 : Nat)) := hr 1 _ rfl
      have hc2 : wr.cell? ⟨g, k * 3 + 2, none⟩ = some (.int .i64 (x.2.2 : Nat)) := hr 2 _ rfl
      obtain ⟨fn, tmps, assign, body, hy, hR2⟩ := hY (L.take k) x _ (hJa _ _ (.cells #[.string x.1, .int .i64 (x.2.1 : Nat), .int .i64 (x.2.2 : Nat)] 33) hJs) (by rw [List.length_take]; have := HN.out; omega)
      dsimp only [tkA] at hy
      rw [← HT.out] at hR2
      have q1 : (k : Int) < (N : Int) := by omega
      have q2 : (0 : Int) ≤ (k : Int) := by omega
      have HRD := Lib.hid (hRd.below (show Below n₀ wr (wr.alloc (.cells #[.string x.1, .int .i64 (x.2.1 : Nat), .int .i64 (x.2.2 : Nat)] 33)) from (Below.refl _ _).alloc (hn₀ _ _ hJs) _) hBs)
      clear hRd hr hx
      gi_wp2
      refine hR2.mono ?_
      rintro e W3 (⟨rfl, hJ3, hk3⟩ | ⟨rfl, hJx3⟩)
      · gi_wp2
        go_roundw
        case rel => exact ⟨k + 1, by omega, by go_num, hJ3, HRD.out.below hk3 hBs⟩
        case measure => simp [intOf]; omega
      · gi_wp2
        refine bodyPost_ret (results_none rfl _ _ _) rfl ?_
        exact ⟨⟨_, rfl⟩, .inr ⟨_, trivial, hJx3⟩⟩
    · obtain rfl : k = N := by omega
      gi_wp2
      go_end0
      exact ⟨⟨_, rfl⟩, .inl ⟨_, rfl, by rw [List.take_of_length_le (by have := HN.out; omega)] at hJs; exact hJs⟩⟩
theorem valK_any (a : Option Addr) (len cap : Nat) (w : World) :
    Calls Try.prog 13 #[.slice a len cap] w fun e w' => e = .returned (.func (.func 15) #[] #[.pointer (some ⟨w.heap.size, 0, none⟩)]) ∧ w' = w.alloc (.cells #[.slice a len cap] 29) := by
  go_enter Try.func13, Try.ntmps13
  go_wp2
  go_ret
  exact ⟨rfl, rfl⟩
theorem valK_stops (F : Fence) (n : Nat) (hF : F.fn 15) (hro : F.round = none) (hn : 1 ≤ n) (n₀ Bs cX : Nat) (a : Option Addr) (L : List TK) (hL : L.length ≤ 1000000) (hBs : Bs < n₀) (w : World) (hn₀ : n₀ ≤ w.heap.size) (hR : RdK n₀ Bs a cX L w) :
    SeqStopsK F n Try.prog 15 #[.pointer (some ⟨Bs, 0, none⟩)] (fun x : TK => #[tkA x]) (Below n₀) (fun ys => ys = L) (fun _ => True) L.length w := fun l J Jx W hW hJ _ hY h0 => by
  refine (valK_in F n hF hro hn l n₀ Bs cX a L hL hBs (fun pre W => J pre W ∧ n₀ ≤ W.heap.size) Jx (fun pre W o h => ⟨hJ pre W _ none h.1 (World.grownBy_alloc W o none) (fun _ e => by cases e), by have := h.2; simp; omega⟩) (fun _ _ h => h.2) (fun pre x W1 h hl => ?_) W (hR.below (hW.mono hn₀) hBs) ⟨h0, by have := hW.size; omega⟩).mono ?_
  · obtain ⟨fn, tmps, assign, body, hy, hR2⟩ := hY pre x W1 h.1 hl
    refine ⟨fn, tmps, assign, body, hy, hR2.mono ?_⟩
    rintro e W' (⟨e1, h1, h2⟩ | h1)
    · exact .inl ⟨e1, ⟨h1, by have := h2.size; have := h.2; omega⟩, h2⟩
    · exact .inr h1
  · rintro e W' ⟨h1, h2⟩
    refine ⟨h1, ?_⟩
    rcases h2 with ⟨ys, e1, h2⟩ | h2
    · exact .inl ⟨ys, e1, h2.1⟩
    · exact .inr h2
/-- A function that tells things taken. -/
def TapeIt (w : World) (v : Value) (L : List TK) : Prop := ∃ (Bs cX : Nat) (a : Option Addr), v = .func (.func 15) #[] #[.pointer (some ⟨Bs, 0, none⟩)] ∧ Bs < w.heap.size ∧ RdK w.heap.size Bs a cX L w
theorem allK_any (v : Value) (L : List TK) (w : World) (hI : TapeIt w v L) (hL : L.length ≤ 1000000) :
    Calls Try.prog 10 #[v] w fun e w' => ∃ u, e = .returned u ∧ w'.ownsRow w.heap.size 33 3 u L.length (tkC L) ∧ Below w.heap.size w w' := by
  obtain ⟨Bs, cX, a, rfl, hB, hR⟩ := hI
  exact all_stops _ _ L hL w (enters_of Try.func15 (by kernel_rfl) rfl) (valK_stops Fence.wide 2 trivial rfl (by omega) w.heap.size Bs cX a L hL hB _ (by simp) (hR.below ((Below.refl _ w).alloc (Nat.le_refl _) _) hB))
theorem rdK_own {w : World} {base n₀ Bs cX : Nat} {a : Option Addr} {L : List TK} (ho : w.ownsRow base 33 3 (.slice a L.length cX) L.length (tkC L)) (hc : w.cell? ⟨Bs, 0, none⟩ = some (.slice a L.length cX)) (hn : w.heap.size ≤ n₀) : RdK n₀ Bs a cX L w := by
  refine ⟨hc, fun k x hx => ?_⟩
  have hk : k < L.length := by
    rcases Nat.lt_or_ge k L.length with h | h
    · exact h
    · rw [List.getElem?_eq_none h] at hx; cases hx
  obtain ⟨g, rfl⟩ := own_someT ho (by omega)
  exact ⟨g, rfl, Nat.lt_of_lt_of_le (own_lt ho rfl).2 hn, own3_at ho hx⟩
set_option maxHeartbeats 1000000 in
theorem takes_nil (w : World) : Calls Try.prog 11 #[.pointer none] w fun e w' => ∃ v, e = .returned v ∧ TapeIt w' v [] ∧ Below w.heap.size w w' := by
  go_enter Try.func11, Try.ntmps11
  go_wp2_with (go_at_call 13; go_loud (refine (valK_any _ _ _ _).mono ?_; rintro e w1 ⟨rfl, rfl⟩))
  go_ret
  refine ⟨_, rfl, ⟨_, 0, some ⟨w.heap.size, 0, none⟩, rfl, by simp, ?_, fun k x hx => by simp at hx⟩, ((Below.refl _ w).alloc (Nat.le_refl _) _).alloc (by simp) _⟩
  have h := (Boxed.new (w.alloc (.cells #[] 33)) 29 (.slice (some ⟨w.heap.size, 0, none⟩) 0 0)).cell
  rw [size_alloc1] at h
  exact h
set_option maxHeartbeats 1000000 in
theorem takes_any (tb : Nat) (F : Nat → Prop) (B : List Int) (at_ : Nat) (L : List TK) (w : World) (hR : TapeR w tb F B at_ L) (hL : L.length ≤ 1000000) :
    Calls Try.prog 11 #[.pointer (some ⟨tb, 0, none⟩)] w fun e w' => ∃ v, e = .returned v ∧ TapeIt w' v L ∧ Below w.heap.size w w' := by
  obtain ⟨ra, m, rc, ta, tc, ⟨h1, h2, h3, h4, h5, h6⟩, hF⟩ := hR
  have hc2 := h2.c2
  have HC := Lib.hid (cloneK_any ta tc L w h4 hL)
  clear h1 h2 h3 h4 h5 h6 hF hL
  obtain ⟨N, hN⟩ : ∃ N, N = L.length := ⟨_, rfl⟩
  rw [← hN] at hc2 HC
  have HN := Lib.hid hN
  clear hN
  go_enter Try.func11, Try.ntmps11
  go_wp2_with (first
    | (go_at_call 14; go_loud (refine HC.out.mono ?_; rintro e w1 ⟨a1, c1, rfl, ho, hb⟩; have HO := Lib.hid ho; have HB := Lib.hid hb; clear ho hb))
    | (go_at_call 13; go_loud (refine (valK_any _ _ _ _).mono ?_; rintro e w2 ⟨rfl, rfl⟩)))
  go_ret
  have eN := HN.out
  subst eN
  have hb1 : Below w1.heap.size w1 (w1.alloc (.cells #[.slice a1 L.length c1] 29)) := (Below.refl _ _).alloc (Nat.le_refl _) _
  refine ⟨_, rfl, ⟨_, c1, a1, rfl, by simp, ?_⟩, bt HB.out hb1⟩
  have ho := ownK_below HO.out hb1
  exact rdK_own ho (Boxed.new w1 29 (.slice a1 L.length c1)).cell (Nat.le_refl _)

/-! ## New, At, Left -/
set_option maxHeartbeats 1000000 in
theorem new_tape (a : Option Addr) (n c : Nat) (B : List Int) (w : World) (hx : Arg8c w a n c B) (hn : n ≤ 1048576) :
    Calls Try.prog 6 #[.slice a n c] w fun e w' => ∃ tb F, e = .returned (.tuple #[.pointer (some ⟨tb, 0, none⟩), .int .i64 0]) ∧ TapeR w' tb F B 0 [] ∧ (∀ k, F k → w.heap.size ≤ k) ∧ Below w.heap.size w w' := by
  have HC := Lib.hid (cloneB_any a n c B w hx (by omega))
  have HL := Lib.hid hx.1.1
  have q1 : ¬ (1048576 : Int) < (n : Int) := by omega
  clear hx hn
  go_enter Try.func6, Try.ntmps6
  go_wp2_with (go_at_call 12; go_loud (refine HC.out.mono ?_; rintro e w1 ⟨a1, c1, rfl, ho, ha, hb⟩; have HO := Lib.hid ho; have HA := Lib.hid ha; have HB := Lib.hid hb; clear ho ha hb))
  go_ret2
  have hb1 : Below w1.heap.size w1 (w1.alloc (.cells #[.slice a1 n c1, .int .i64 0, .slice none 0 0] 44)) := (Below.refl _ _).alloc (Nat.le_refl _) _
  have hlo : 0 < n → ∀ b o, a1 = some ⟨b, o, none⟩ → w.heap.size ≤ b ∧ b < w1.heap.size := fun h0 b o e => own_lt HO.out (by rw [e]; rfl)
  refine ⟨w1.heap.size, TpF w1.heap.size a1 n (.slice none 0 0), rfl, ⟨a1, n, c1, none, 0, ⟨by rw [HL.out, Nat.zero_add], heap_alloc_new w1 _, ?_, World.ownsRow_nil _ _ _ _, fun h0 b o e => ⟨by have := (hlo h0 b o e).2; omega, by intro h; cases h⟩, by intro h; cases h⟩, fun k => Iff.rfl⟩, ?_, bt HB.out hb1⟩
  · exact ⟨HA.out.1.on hb1, HA.out.2⟩
  · rintro k (rfl | ⟨h0, o, e⟩ | h)
    · exact HB.out.size
    · exact (hlo h0 k o e).1
    · cases h
set_option maxHeartbeats 1000000 in
theorem new_long (a : Option Addr) (n c : Nat) (B : List Int) (w : World) (hx : Arg8c w a n c B) (hn : 1048576 < n) :
    Calls Try.prog 6 #[.slice a n c] w fun e w' => e = .returned (.tuple #[.pointer none, .int .i64 4]) ∧ Below w.heap.size w w' := by
  have q1 : (1048576 : Int) < (n : Int) := by omega
  clear hx hn
  go_enter Try.func6, Try.ntmps6
  go_wp2
  go_ret2
  exact ⟨rfl, Below.refl _ _⟩
theorem at_nil (w : World) : Calls Try.prog 8 #[.pointer none] w fun e w' => e = .returned (.int .i64 0) ∧ Below w.heap.size w w' := by
  go_enter Try.func8, Try.ntmps8
  go_wp2
  go_ret
  exact ⟨rfl, Below.refl _ _⟩
theorem left_nil (w : World) : Calls Try.prog 9 #[.pointer none] w fun e w' => e = .returned (.int .i64 0) ∧ Below w.heap.size w w' := by
  go_enter Try.func9, Try.ntmps9
  go_wp2
  go_ret
  exact ⟨rfl, Below.refl _ _⟩
set_option maxHeartbeats 1000000 in
theorem at_any (tb : Nat) (F : Nat → Prop) (B : List Int) (at_ : Nat) (L : List TK) (w : World) (hR : TapeR w tb F B at_ L) (h1 : at_ ≤ B.length) (h2 : B.length ≤ 1048576) :
    Calls Try.prog 8 #[.pointer (some ⟨tb, 0, none⟩)] w fun e w' => e = .returned (.int .i64 (at_ : Nat)) ∧ Below w.heap.size w w' := by
  obtain ⟨ra, m, rc, ta, tc, ⟨g1, g2, g3, g4, g5, g6⟩, hF⟩ := hR
  have hc := g2.c1
  clear g1 g2 g3 g4 g5 g6 hF h1 h2
  go_enter Try.func8, Try.ntmps8
  go_wp2
  go_ret
  exact ⟨rfl, Below.refl _ _⟩
set_option maxHeartbeats 1000000 in
theorem left_any (tb : Nat) (F : Nat → Prop) (B : List Int) (at_ : Nat) (L : List TK) (w : World) (hR : TapeR w tb F B at_ L) (h1 : at_ ≤ B.length) (h2 : B.length ≤ 1048576) :
    Calls Try.prog 9 #[.pointer (some ⟨tb, 0, none⟩)] w fun e w' => e = .returned (.int .i64 (B.length - at_ : Nat)) ∧ Below w.heap.size w w' := by
  obtain ⟨ra, m, rc, ta, tc, ⟨g1, g2, g3, g4, g5, g6⟩, hF⟩ := hR
  have hc := g2.c0
  have hm : m = B.length - at_ := by omega
  subst hm
  clear g1 g2 g3 g4 g5 g6 hF h1 h2
  go_enter Try.func9, Try.ntmps9
  go_wp2
  go_ret
  exact ⟨rfl, Below.refl _ _⟩

/-! ## Take, where it is refused -/
theorem take_nil (s : ByteArray) (n : Int) (w : World) : Calls Try.prog 7 #[.pointer none, .string s, .int .i64 n] w fun e w' => ∃ a m c, e = .returned (.tuple #[.slice a m c, .int .i64 1]) ∧ Below w.heap.size w w' := by
  go_enter Try.func7, Try.ntmps7
  go_wp2
  go_ret2
  exact ⟨_, _, _, rfl, Below.refl _ _⟩
theorem take_neg (tb : Nat) (F : Nat → Prop) (B : List Int) (at_ : Nat) (L : List TK) (s : ByteArray) (n : Int) (w : World) (hR : TapeR w tb F B at_ L) (hn : n < 0) :
    Calls Try.prog 7 #[.pointer (some ⟨tb, 0, none⟩), .string s, .int .i64 n] w fun e w' => ∃ a c, e = .returned (.tuple #[.slice a 0 c, .int .i64 2]) ∧ Below w.heap.size w w' := by
  clear hR
  go_enter Try.func7, Try.ntmps7
  go_wp2
  go_ret2
  exact ⟨_, _, rfl, Below.refl _ _⟩
set_option maxHeartbeats 1000000 in
theorem take_spent (tb : Nat) (F : Nat → Prop) (B : List Int) (at_ : Nat) (L : List TK) (s : ByteArray) (n : Int) (w : World) (hR : TapeR w tb F B at_ L) (h0 : 0 ≤ n) (h1 : at_ ≤ B.length) (h2 : B.length ≤ 1048576) (h3 : ((B.length - at_ : Nat) : Int) < n) :
    Calls Try.prog 7 #[.pointer (some ⟨tb, 0, none⟩), .string s, .int .i64 n] w fun e w' => ∃ a c, e = .returned (.tuple #[.slice a 0 c, .int .i64 8]) ∧ Below w.heap.size w w' := by
  obtain ⟨ra, m, rc, ta, tc, ⟨g1, g2, g3, g4, g5, g6⟩, hF⟩ := hR
  have hc := g2.c0
  have q0 : ¬ n < 0 := by omega
  have q1 : (m : Int) < n := by omega
  clear g1 g2 g3 g4 g5 g6 hF h1 h2 h0 h3
  go_enter Try.func7, Try.ntmps7
  go_wp2
  go_ret2
  exact ⟨⟨_, _, rfl⟩, Below.refl _ _⟩
end Go.Proofs.Ytmiafhblllbimaa
