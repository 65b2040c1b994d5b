/- Contracts of package medium as it landed: land, Flush, Crash. -/
import Derived.Test.YtkfdcdfaikkneaaGreatDoorOb
namespace Go.Proofs.YtkfdcdfaikkneaaGreatDoor
open Go.ChangeShapes Go.WideShapes Go.ChangeAt Go.RowKit Go.Shelf
set_option linter.unusedVariables false
set_option linter.unusedSimpArgs false
set_option maxRecDepth 100000
attribute [local go_sem] Oper.semAt_some

theorem kb_setRow (w : World) (g : Nat) (cs : Array Value) : KB (fun j => j = g) w (w.setRow g cs) :=
  ⟨below_setRow (Below.refl _ _) (Nat.zero_le _) _, fun k hk hf => setRow_other w g k cs hf⟩
theorem u8_one (b : List Int) : ∀ v ∈ b.map (Value.int .u8), v.oneCell' = true := fun v hv => by
  obtain ⟨x, _, rfl⟩ := List.mem_map.1 hv; rfl
theorem arrLen75 : Tryz.prog.arrayLen 146 = 512 := by kernel_rfl
set_option maxHeartbeats 2000000 in
theorem land_any (tb sb n sc i : Nat) (m : Nat → Option (List Int)) (a : Option Addr) (c : Nat) (b : List Int) (w : World) (hc : w.cell? ⟨tb, 0, none⟩ = some (.slice (some ⟨sb, 0, none⟩) n sc)) (hs : SecR w sb n sc m) (hn : n ≤ 2048) (hi : i < n) (hx : Arg8 w a 512 c b) (hoff : ∀ b o, a = some ⟨b, o, none⟩ → b ≠ sb) (htb : tb ≠ sb) :
    Calls Tryz.prog 95 #[tbV tb, .int .i64 (i : Nat), .slice a 512 c] w fun e w' => e = .returned (.tuple #[]) ∧ SecR w' sb n sc (fun k => if k = i then some b else m k) ∧ KB (fun k => k = sb) w w' := by
  have hcs : w.cell? ⟨sb, i * 513, none⟩ = some (secF m (i * 513)) := hs.cell (by omega)
  have hfs := hs.free (i * 513)
  obtain ⟨h1, h2, cur, h3, h4, h5⟩ := hs
  obtain ⟨C, hC⟩ : ∃ C, C = cur.setIfInBounds (i * 513) (.bool false) := ⟨_, rfl⟩
  have hk := KB.of_set w sb (i * 513) (.bool false)
  have hG : (w.setCell ⟨sb, i * 513, none⟩ (.bool false)).heap[sb]? = some (.cells C 148 (0, 0)) := by rw [hC]; exact heap_setCell_same w sb _ _ _ _ h3
  have hc' : (w.setCell ⟨sb, i * 513, none⟩ (.bool false)).cell? ⟨tb, 0, none⟩ = some (.slice (some ⟨sb, 0, none⟩) n sc) := (World.cell?_of_block (w := w) (heap_setCell_other w ⟨sb, i * 513, none⟩ tb _ htb)).trans hc
  have HGG := Lib.hid hG
  have hl : (b.map (Value.int .u8)).length = 512 := by rw [List.length_map, hx.1]
  have HN := Lib.hid (show (b.map (Value.int .u8)).length = Nat.min 512 512 from hl)
  have hbs : ∃ ad, a = some ad ∧ ∀ j v, (b.map (Value.int .u8))[j]? = some v → (w.setCell ⟨sb, i * 513, none⟩ (.bool false)).cell? (ad.add j) = some v := by
    obtain ⟨bb, off, e, hlt, hcs⟩ := hx.2.2.1 (by have := hx.1; omega)
    refine ⟨_, e, fun j v hj => ?_⟩
    obtain ⟨hj1, rfl⟩ := getElem?_map_u8 hj
    rw [Addr.add_lit]
    exact (hk.cell (p := ⟨bb, off + j, none⟩) hlt (hoff bb off e)).trans (hcs j hj1)
  obtain ⟨ad, rfl, hsrc⟩ := hbs
  have HSRC := Lib.hid hsrc
  have hn5 := Nat.mul_le_mul_right 513 h1
  have hCs : C.size = sc * 513 := by rw [hC, Array.size_setIfInBounds, h4]
  have HFIT := Lib.hid (show i * 513 + 1 + (b.map (Value.int .u8)).length ≤ C.size by rw [hCs, hl]; omega)
  have HLAND := Lib.hid (show ∀ w' : World, w'.heap[sb]? = some (.cells (C.toList.take (i * 513 + 1) ++ (b.map (Value.int .u8) ++ C.toList.drop (i * 513 + 1 + (b.map (Value.int .u8)).length))).toArray 148 (0, 0)) → SecR w' sb n sc (fun k => if k = i then some b else m k) from fun w' hw => SecR.land (w := w) (cur := C) h1 h2 hCs (fun j hj hne => by rw [hC, Array.getElem?_setIfInBounds, if_neg (Ne.symm hne)]; exact h5 j hj) (by rw [hC, Array.getElem?_setIfInBounds, if_pos rfl, if_pos (by rw [h4]; omega)]) hi hx.1 hw)
  have HK := Lib.hid hk
  have q1 : (i : Int) < (n : Int) := by omega
  have q2 : (0 : Int) ≤ (i : Int) := by omega
  have hal := arrLen75
  obtain ⟨X, hX⟩ : ∃ X, X = b.map (Value.int .u8) := ⟨_, rfl⟩
  rw [← hX] at HN HSRC HFIT HLAND
  have H1 := Lib.hid (show ∀ v ∈ X, v.oneCell' = true by rw [hX]; exact u8_one b)
  clear hC hk hG hl hsrc h3 h4 h5 hx hX hn5 hCs
  go_enter Tryz.func95, Tryz.ntmps95
  go_wp2_with ((with_reducible show wpList _ _ _ (⟨some 22, _, _, _, _, _⟩ :: _) _ _); refine wpList_copy_own (o := ⟨some 22, _, _, _, _, _⟩) rfl (.tmp 20) (.tmp 21) 23 23 rfl 5 Tryz.underlying23 size_u8 sb (i * 513 + 1) 512 512 ad 512 c rfl rfl C 148 HGG.out X HN.out HSRC.out HFIT.out H1.out ?_)
  go_end0
  exact ⟨rfl, HLAND.out _ (setRow_heap _ _ _ _ _ _ HGG.out), HK.out.trans (kb_setRow _ _ _)⟩
/-- A medium behind a landing. -/
theorem land_med {tb : Nat} {S : MS} {pp : Option Nat} {sb sc : Nat} {ca : Option Addr} {cc : Nat} {Z : List ZW} (i : Nat) (a : Option Addr) (c : Nat) (b : List Int) (w : World) (h : MedX w tb S pp sb sc ca cc Z) (hn : S.size ≤ 2048) (hi : i < S.size) (hx : Arg8 w a 512 c b) (hoff : ∀ b o, a = some ⟨b, o, none⟩ → b ≠ sb) :
    Calls Tryz.prog 95 #[tbV tb, .int .i64 (i : Nat), .slice a 512 c] w fun e w' => e = .returned (.tuple #[]) ∧ MedX w' tb ⟨S.size, fun k => if k = i then some b else S.med k, S.cache, S.down⟩ pp sb sc ca cc Z ∧ KB (fun k => k = sb) w w' := by
  have hne := h.ne_sb
  refine (land_any tb sb S.size sc i S.med a c b w h.md.c0 h.sec hn hi hx hoff hne.1).mono ?_
  rintro e w' ⟨he, hs, hk⟩
  refine ⟨he, ⟨h.cache, h.md.same (hk.2 tb (blk_lt h.md) hne.1), hs, own_blockT h.row (fun g e => hk.2 g (own_lt h.row e).2 (hne.2.1 g e).2), h.dat.same (fun g ⟨z, hz, e⟩ => hk.2 g (own_lt (h.dat z hz).2.2 e).2 (hne.2.2 z hz g e).2.1)⟩, hk⟩
/-- A write of the cache, as the walk finds it. -/
theorem MedX.at_ {w : World} {tb : Nat} {S : MS} {pp : Option Nat} {sb sc : Nat} {ca : Option Addr} {cc : Nat} {Z : List ZW} (h : MedX w tb S pp sb sc ca cc Z) {k : Nat} {z : ZW} (hz : Z[k]? = some z) :
    ∃ g, ca = some ⟨g, 0, none⟩ ∧ g < w.heap.size ∧ w.cell? ⟨g, k * 2, none⟩ = some (.int .i64 (z.1.1 : Nat)) ∧ w.cell? ⟨g, k * 2 + 1, none⟩ = some (.slice z.2.1 512 z.2.2) := by
  have hk := (List.getElem?_eq_some_iff.1 hz).1
  rcases h.row.2 with ⟨_, h0⟩ | ⟨g, cap, cur, hv, _⟩
  · omega
  · injection hv with h1 h2 h3
    obtain rfl : ca = some ⟨g, 0, none⟩ := h1
    have hr : w.ownsRow 0 122 2 (.slice (some ⟨g, 0, none⟩) Z.length cc) Z.length (zC Z) := h.row
    obtain ⟨c0, c1⟩ := zC_get hz
    exact ⟨g, rfl, (own_lt hr rfl).2, by rw [hr.cellAt _ (by omega)]; exact c0, by rw [hr.cellAt _ (by omega)]; exact c1⟩
theorem take_nextZ {L : List ZW} {k : Nat} {x : ZW} (h : L[k]? = some x) : (L.map Prod.fst).take (k + 1) = (L.map Prod.fst).take k ++ [x.1] := by
  have : (L.map Prod.fst)[k]? = some x.1 := by rw [List.getElem?_map, h]; rfl
  rw [List.take_add_one, this]; rfl
theorem applyW_snoc (m : Nat → Option (List Int)) (c : List CW) (x : CW) : applyW m (c ++ [x]) = fun i => if i = x.1 then some x.2 else applyW m c i := by
  rw [applyW_append]; rfl
theorem cap_le {w : World} {base s n c : Nat} {e : TypeId} {a : Option Addr} {xs : List Value} (h : w.ownsRow base e s (.slice a n c) n xs) : n ≤ c ∧ c ≤ 9223372036854775807 := by
  rcases h.2 with ⟨h0, h1⟩ | ⟨g, cap, cur, hv, _, _, h1, h2, _⟩
  · cases h0; omega
  · cases hv; unfold maxLen at h2; omega
theorem po_inside {w : World} {pp : Option Nat} {Fp : Nat → Prop} {l : Int} {u : Nat} (h : PO MedP w pp Fp l u) : ∀ k, Fp k → k < w.heap.size := by
  cases pp with
  | none => exact fun k hk => absurd hk (h.1 k)
  | some pb => exact medP_inside (show MedP w pb Fp l u from h)
theorem po_keep {w w' : World} {pp : Option Nat} {Fp : Nat → Prop} {l : Int} {u : Nat} (h : PO MedP w pp Fp l u) (hk : ∀ k, Fp k → w'.heap[k]? = w.heap[k]?) : PO MedP w' pp Fp l u := by
  cases pp with
  | none => exact h
  | some pb => exact medP_keep (show MedP w pb Fp l u from h) hk
set_option maxHeartbeats 4000000 in
theorem flush_any (tb : Nat) (F Fp : Nat → Prop) (S : MS) (pp : Option Nat) (l : Int) (u : Nat) (w : World) (hR : MedR w tb F S pp) (hp : PO MedP w pp Fp l u) (hd : ∀ k, F k → ¬ Fp k) (hS : S.Ok) (hl : LeftOk l) (hcl : S.cache.length ≤ 1000) (hu : u ≤ 1000) :
    Calls Tryz.prog 74 #[tbV tb] w fun e w' => ∃ F', e = .returned (.int .i64 (opFlush pp.isSome S l u).err) ∧ MedR w' tb F' (opFlush pp.isSome S l u).S pp ∧ PO MedP w' pp Fp (opFlush pp.isSome S l u).l (opFlush pp.isSome S l u).u ∧ KB (fun k => F k ∨ Fp k) w w' ∧ (∀ k, F' k → F k ∨ w.heap.size ≤ k) := by
  have HR := Lib.hid hR
  have HP := Lib.hid hp
  obtain ⟨sb, sc, ca, cc, Z, h, hF⟩ := hR
  have HF := Lib.hid hF
  have HLET := Lib.hid (powLet_any pp Fp l u w hp hu)
  have hc2 := h.md.c2
  have hc3 := h.md.c3
  by_cases hdn : S.down = true
  · have HE := Lib.hid (show opFlush pp.isSome S l u = ⟨[], 9, S, l, u⟩ by unfold opFlush; rw [if_pos (Or.inl hdn)])
    rw [hdn] at hc2
    rw [HE.out]
    clear h hF hdn hS hl hcl hu hd hp
    go_enter Tryz.func74, Tryz.ntmps74
    go_wp2
    go_ret
    exact ⟨F, rfl, HR.out, HP.out, KB.refl _ _, fun k hk => .inl hk⟩
  have hdf : S.down = false := by cases hh : S.down <;> simp_all
  rw [hdf] at hc2
  by_cases hl0 : l = 0
  · have HE := Lib.hid (show opFlush pp.isSome S l u = ⟨[], 9, S, l, u⟩ by unfold opFlush; rw [if_pos (Or.inr hl0)])
    rw [HE.out]
    have HN := Lib.hid (show (l != 0) = false by rw [hl0]; rfl)
    have HL0 := Lib.hid hl0
    clear h hF hdn hS hl hcl hu hd hp hl0 hdf
    go_enter Tryz.func74, Tryz.ntmps74
    go_wp2_with (go_at_call 68; go_loud (refine HLET.out.mono ?_; rintro e w1 ⟨rfl, h1, -, -⟩; rw [HN.out]; obtain rfl := h1 HL0.out; clear h1))
    go_ret
    exact ⟨F, rfl, HR.out, HP.out, KB.refl _ _, fun k hk => .inl hk⟩
  · have HE := Lib.hid (show opFlush pp.isSome S l u = ⟨[], 0, S.flush, spendL l, usedN pp.isSome u⟩ by unfold opFlush; rw [if_neg (by rw [hdf]; simp [hl0])])
    rw [HE.out]
    have HN := Lib.hid (show (l != 0) = true by rw [bne_iff_ne]; exact hl0)
    have HL0 := Lib.hid hl0
    have HX := Lib.hid h
    have HS := Lib.hid hS
    have HD := Lib.hid hd
    have hcap := cap_le h.row
    have hlen := h.len
    obtain ⟨N, hNN⟩ : ∃ N, N = Z.length := ⟨_, rfl⟩
    have hN1 : N ≤ 1000 := by omega
    have HNN := Lib.hid hNN
    rw [← hNN] at hcap
    clear h hF hdn hS hl hcl hu hd hp hl0 hdf hlen hNN
    go_enter Tryz.func74, Tryz.ntmps74
    go_upto_region 5 with (go_at_call 68; go_loud (refine HLET.out.mono ?_; rintro e w1 ⟨rfl, -, h1, h2⟩; rw [HN.out]; have HP1 := Lib.hid (h1 HL0.out); have HK1 := Lib.hid h2; clear h1 h2))
    have HX1 := Lib.hid (HX.out.same (fun k hk => HK1.out.2 k (HX.out.inside hk) (HD.out k ((HF.out k).2 hk))))
    have hd1 := HX1.out.md.c1
    rw [caV, ← HNN.out] at hd1
    clear hc2 hc3
    go_wp2
    go_loopw [24] (fun i wr => ∃ k : Nat, k ≤ N ∧ i = .int .i64 (k : Nat) ∧ KB (fun j => j = sb) w1 wr ∧ MedX wr tb ⟨S.size, applyW S.med (S.cache.take k), S.cache, S.down⟩ pp sb sc ca cc Z)
      (fun i _ => N - (intOf i).toNat)
    case atStart => exact ⟨0, Nat.zero_le _, rfl, KB.refl _ _, HX1.out⟩
    case round =>
      obtain ⟨k, hk, rfl, hkb, hx⟩ := hrel
      by_cases hlt : k < N
      · obtain ⟨z, hz⟩ : ∃ z, Z[k]? = some z := ⟨_, List.getElem?_eq_getElem (by rw [← HNN.out]; exact hlt)⟩
        obtain ⟨g, rfl, hg, hc0, hc1⟩ := hx.at_ hz
        have hzm := List.mem_of_getElem? hz
        have hzi : z.1.1 < S.size := (HS.out.cache z.1 (by rw [HX.out.cache]; exact List.mem_map_of_mem hzm)).1
        have hz2 := HS.out.size2
        have hba : Below wr.heap.size wr (wr.alloc (.cells #[.int .i64 (z.1.1 : Nat), .slice z.2.1 512 z.2.2] 122)) := (Below.refl _ _).alloc (Nat.le_refl _) _
        have hxa := hx.on hba
        have HLAND := Lib.hid (land_med z.1.1 z.2.1 z.2.2 z.1.2 _ hxa hz2 hzi (arg_of_own (hxa.dat z hzm).2.2 (hxa.dat z hzm).2.1).1 (fun b o e => (hxa.ne_sb.2.2 z hzm b (by rw [e]; rfl)).2.1))
        have HNX := Lib.hid (show (fun i => if i = z.1.1 then some z.1.2 else applyW S.med (S.cache.take k) i) = applyW S.med (S.cache.take (k + 1)) by rw [HX.out.cache, take_nextZ hz, applyW_snoc])
        have HKB := Lib.hid (hkb.trans (KB.of_below hba))
        have q1 : (k : Int) < (N : Int) := by omega
        have q2 : (0 : Int) ≤ (k : Int) := by omega
        clear hx hkb hxa hba hz hzm hzi hz2 hd1
        go_wp2_with (go_at_call 95; go_loud (refine HLAND.out.mono ?_; rintro e w3 ⟨rfl, hx3, hk3⟩; have HX3 := Lib.hid hx3; have HK3 := Lib.hid hk3; clear hx3 hk3))
        go_roundw
        case rel =>
          refine ⟨k + 1, by omega, by go_num, HKB.out.trans HK3.out, ?_⟩
          have h3 := HX3.out
          rw [HNX.out] at h3
          exact h3
        case measure => simp [intOf]; omega
      · obtain rfl : k = N := by omega
        have hf1 := hx.md.free 1
        have hd1' := hx.md.c1
        have HXE := Lib.hid hx
        have HKE := Lib.hid hkb
        clear hx hkb hd1
        go_wp2
        go_ret
        have hx := HXE.out
        have hne := hx.ne_sb
        have hfl : S.cache.take k = S.cache := List.take_of_length_le (by rw [HX.out.len, HNN.out]; exact Nat.le_refl _)
        rw [hfl] at hx
        refine ⟨MedF tb sb (.slice none 0 0) [], rfl, medR_empty (S := S.flush) (sc := sc) rfl (hx.md.set1 _) (hx.sec.same (heap_setCell_other _ _ sb _ (Ne.symm hne.1))), ?_, ?_, fun k hk => .inl ((HF.out k).2 ((medF_empty hk).elim .inl (fun e => .inr (.inl e))))⟩
        · exact po_keep HP1.out (fun j hj => by
            have hlt := po_inside HP1.out j hj
            have h1 : j ≠ sb := fun e => HD.out j ((HF.out j).2 (.inr (.inl e))) hj
            have h2 : j ≠ tb := fun e => HD.out j ((HF.out j).2 (.inl e)) hj
            exact (heap_setCell_other _ _ j _ h2).trans (HKE.out.2 j hlt h1))
        · exact ((HK1.out.monoF (fun j e => .inr e)).trans (HKE.out.monoF (fun j e => .inl ((HF.out j).2 (.inr (.inl e)))))).trans ((KB.of_set _ tb 1 _).monoF (fun j e => .inl ((HF.out j).2 (.inl e))))
theorem keptW_next {Z : List ZW} {k : Nat} {z : ZW} (hz : Z[k]? = some z) (ks : List Bool) : keptW ((Z.map Prod.fst).take (k + 1)) ks = if ks.getD k false = true then keptW ((Z.map Prod.fst).take k) ks ++ [z.1] else keptW ((Z.map Prod.fst).take k) ks := by
  have hk := (List.getElem?_eq_some_iff.1 hz).1
  have h := keptW_take (Z.map Prod.fst) ks k (by simpa using hk)
  rw [h, List.getElem_map, (List.getElem?_eq_some_iff.1 hz).2]
theorem ArgB.at_ {w : World} {a : Option Addr} {n c : Nat} {l : List Bool} (h : ArgB w a n c l) {k : Nat} (hk : k < n) : ∃ b off, a = some ⟨b, off, none⟩ ∧ b < w.heap.size ∧ w.cell? ⟨b, off + k, none⟩ = some (.bool (l.getD k false)) := by
  obtain ⟨b, off, e, hb, hc⟩ := h.2.2.2.2 (by omega)
  exact ⟨b, off, e, hb, hc k hk⟩
end Go.Proofs.YtkfdcdfaikkneaaGreatDoor
