/- Texts of mine, one behind the other: Kq. -/
import Derived.Test.YtappfdbmhgifcaaGreatDoorZS05
import Derived.Great.BuildSlice
/- Contract of the cipher's New, where it goes well (written by gen21.py). -/
namespace Go.Proofs.YtappfdbmhgifcaaGreatDoor
open Go.ChangeShapes Go.WideShapes Go.ChangeAt Go.RowKit Go.Shelf
set_option linter.unusedVariables false
set_option linter.unusedSimpArgs false
set_option maxRecDepth 100000
attribute [local go_sem] Oper.semAt_some
attribute [local go_sem ↓] Go.wp_at_zero Go.wp_at_succ

set_option maxHeartbeats 4000000 in
theorem new_4 (fb n : Nat) (ba oa c : Nat) (l : List Int) (w : World) (hf : Fld w fb) (hn : n = 4) (hl : l.length = 4 * n) (hA : AllB l) (hb : Bs w w.heap.size (some ⟨ba, oa, none⟩) l) (hc : 4 * n ≤ c) (hcm : c ≤ 9223372036854775807) :
    Calls Tryz.prog 105 #[.pointer (some ⟨fb, 0, none⟩), .slice (some ⟨ba, oa, none⟩) ((4 * n : Nat) : Nat) c] w fun e w' => ∃ b, e = .returned (.tuple #[.pointer (some ⟨b, 0, none⟩), .int .i64 0]) ∧ Cip w' b (n + 6) (kx n (kw l) (3 * n + 28)) ∧ Below w.heap.size w w' := by
  obtain ⟨TB, hTB⟩ : ∃ T : Array Value, T = tabV 256 fun j => .int .u8 ((box j : Nat) : Int) := ⟨_, rfl⟩
  obtain ⟨TP, hTP⟩ : ∃ T : Array Value, T = tabV 256 fun j => .int .u32 ((prt m2 j : Nat) : Int) := ⟨_, rfl⟩
  obtain ⟨TQ, hTQ⟩ : ∃ T : Array Value, T = tabV 256 fun j => .int .u32 ((prt m14 j : Nat) : Int) := ⟨_, rfl⟩
  obtain ⟨TC, hTC⟩ : ∃ T : Array Value, T = tabV 1025 (cipC (fun j => .int .u8 ((box j : Nat) : Int)) (fun j => .int .u32 ((prt m2 j : Nat) : Int)) (fun j => .int .u32 ((prt m14 j : Nat) : Int))) := ⟨_, rfl⟩
  have hbd := cip_built (fun j => .int .u8 ((box j : Nat) : Int)) (fun j => .int .u32 ((prt m2 j : Nat) : Int)) (fun j => .int .u32 ((prt m14 j : Nat) : Int))
  rw [← hTB, ← hTP, ← hTQ, ← hTC] at hbd
  have HBX := boxOf_any fb w hf
  have HP2 := fun W (hW : Below w.heap.size w W) => productBy_any fb m2 m2_lt W (hf.below hW)
  have HP4 := fun W (hW : Below w.heap.size w W) => productBy_any fb m14 m14_lt W (hf.below hW)
  rw [by2, ← hTP] at HP2
  rw [by14, ← hTQ] at HP4
  rw [← hTB] at HBX
  have HBD := Lib.hid hbd
  clear hbd
  replace HBX := Lib.hid HBX
  replace HP2 := Lib.hid HP2
  replace HP4 := Lib.hid HP4
  obtain ⟨N, hN⟩ : ∃ N, N = 4 * n := ⟨_, rfl⟩
  have HSP := Lib.hid (fun b W (hW : Below w.heap.size w W) (hT : Tb W b 1 box) => spread_any fb b 1 n ba oa c l W (hf.below hW) hT (by omega) hl hA ((hb.below hW).more hW.size) hc hcm)
  rw [← hN] at HSP ⊢
  have q1 : ((N : Int) != 16) = false := by rw [hN, hn]; rfl
  have HN := Lib.hid hn
  have HNN := Lib.hid hN
  have HTB := Lib.hid hTB
  have HTC := Lib.hid hTC
  clear hf hn hl hA hb hN hTB hTP hTQ hTC
  refine (callsIn_wide (n := 3)).1 ?_
  refine callsIn_of_wp_marks Tryz.func105 rfl trivial ?_ rfl
  simp only [Tryz.ntmps105, List.size_toArray, List.length_cons, List.length_nil, Nat.reduceAdd, Nat.reduceSub, Array.replicate_succ, Array.replicate_zero, List.push_toArray, List.append_toArray, List.nil_append, List.cons_append]
  refine wpIn_wide.2 ?_
  go_upto_region 5 with fail
  go_upto_region 6 with (first
    | (go_at_call 122; (with_reducible refine HBX.out.mono ?_); rintro e w1 ⟨rfl, hb1⟩; have HB1 := Lib.hid hb1; clear hb1)
    | (go_at_call 123; (with_reducible refine (HP2.out _ HB1.out).mono ?_); rintro e w2 ⟨rfl, hb2⟩; have HB2 := Lib.hid (bt HB1.out hb2); clear hb2)
    | (go_at_call 123; (with_reducible refine (HP4.out _ HB2.out).mono ?_); rintro e w3 ⟨rfl, hb3⟩; have HB3 := Lib.hid (bt HB2.out hb3); clear hb3)
    | ((with_reducible show wpList _ _ _ (⟨some 26, _, _, _, _, _⟩ :: _) _ _); refine wpList_buildTo rfl 155 #[(1, .tmp 19), (3, .tmp 22), (4, .tmp 25)] rfl (some 26) rfl TC (by rw [Array.toList_map]; exact HBD.out) ?_))
  obtain ⟨TU, hTU⟩ : ∃ T : Array Value, T = tabV 256 fun j => .int .u8 ((bxb j : Nat) : Int) := ⟨_, rfl⟩
  have HUN := fun W (hW : Tb W w3.heap.size 1 box) => undone_any w3.heap.size 1 W hW
  rw [← hTU] at HUN
  obtain ⟨cb, hcb⟩ : ∃ b, b = w3.heap.size := ⟨_, rfl⟩
  obtain ⟨pc, hpc⟩ : ∃ b, b = cb + 1 := ⟨_, rfl⟩
  obtain ⟨V5, hV5⟩ : ∃ V, V = (w3.alloc (.cells TC 155)).alloc (.cells #[.pointer (some ⟨w3.heap.size, 0, none⟩)] 133) := ⟨_, rfl⟩
  have HBK5 := Lib.hid (show Blk V5 cb 155 1025 (cipC (fun j => .int .u8 ((box j : Nat) : Int)) (fun j => .int .u32 ((prt m2 j : Nat) : Int)) (fun j => .int .u32 ((prt m14 j : Nat) : Int))) by
    rw [hV5, hcb, HTC.out]
    exact (Blk.made w3 _ _ _).on ((Below.refl _ _).alloc (Nat.le_refl _) _) (by simp))
  have HPC5 := Lib.hid (show V5.cell? ⟨pc, 0, none⟩ = some (.pointer (some ⟨cb, 0, none⟩)) by
    rw [hV5, hpc, hcb, show w3.heap.size + 1 = (w3.alloc (.cells TC 155)).heap.size by simp, World.cell?_alloc_new]; rfl)
  have HB5 := Lib.hid (show Below w.heap.size w V5 by rw [hV5]; exact (HB3.out.alloc HB3.out.size _).alloc (by have := HB3.out.size; simp; omega) _)
  have HNE := Lib.hid (show pc ≠ cb ∧ w.heap.size ≤ cb ∧ pc < V5.heap.size ∧ cb < pc by have := HB3.out.size; rw [hpc, hcb, hV5]; simp; omega)
  have HSU := Lib.hid (show TU.size = 256 by rw [hTU, size_tabV])
  have HUS := Lib.hid (show (Tryz.prog.info? 147).map (·.size) = some TU.size by rw [hTU, size_tabV]; kernel_rfl)
  have HU1 := Lib.hid (show TU.all (·.oneCell') = true by rw [hTU]; exact tabV_one fun _ => rfl)
  have HTU := Lib.hid hTU
  have HTD := Lib.hid (show Tb V5.drew cb 1 box from cipC_tb HBK5.out)
  rw [← hcb] at HUN
  replace HUN := Lib.hid HUN
  rw [← hV5, ← hcb, ← hpc]
  clear hTU hcb hpc hV5
  go_wp2_with fail
  refine wp_onlyN ?_
  refine wp_region_held_drew (S := fun W => V5.grownBy W (some cb)) (by kernel_rfl) (drew_but _ _) (fun hHeld => ?_)
  refine wpAnyH_take (i := 0) (oi := { dst := some 28, op := Go.Op.load 133 (Go.Operand.tmp 6), type := 133, pos := "cipher.go:127", after := #[], guard := none }) (v := ?v0a1) rfl (by kernel_rfl) (by kernel_rfl) (by kernel_rfl) (fun _ _ _ h => h) (Or.inl ⟨by rfl, ?hy0a1⟩) hHeld ?rest0a1
  case hy0a1 =>
    intro W' hV
    try dsimp only at hV
    have hcc := cell_but HPC5.out hV HNE.out.1
    go_simp
    all_goals with_reducible rfl
  case' rest0a1 => try simp only [Act.put, List.setIfInBounds_toArray, List.set_cons_zero, List.set_cons_succ]
  refine wpAnyH_take (i := 1) (oi := { dst := some 29, op := Go.Op.load 133 (Go.Operand.tmp 6), type := 133, pos := "cipher.go:127", after := #[], guard := none }) (v := ?v1a2) rfl (by kernel_rfl) (by kernel_rfl) (by kernel_rfl) (fun _ _ _ h => h) (Or.inl ⟨by rfl, ?hy1a2⟩) hHeld ?rest1a2
  case hy1a2 =>
    intro W' hV
    try dsimp only at hV
    have hcc := cell_but HPC5.out hV HNE.out.1
    go_simp
    all_goals with_reducible rfl
  case' rest1a2 => try simp only [Act.put, List.setIfInBounds_toArray, List.set_cons_zero, List.set_cons_succ]
  refine wpAnyH_take (i := 2) (oi := { dst := some 30, op := Go.Op.nilCheck (Go.Operand.tmp 29), type := 0, pos := "cipher.go:127", after := #[{ on := 1, ground := Go.Ground.data }], guard := none }) (v := ?v2a3) rfl (by kernel_rfl) (by kernel_rfl) (by kernel_rfl) (fun _ _ _ h => h) (Or.inl ⟨by rfl, ?hy2a3⟩) hHeld ?rest2a3
  case hy2a3 =>
    intro W' hV
    try dsimp only at hV
    go_simp
    all_goals with_reducible rfl
  case' rest2a3 => try simp only [Act.put, List.setIfInBounds_toArray, List.set_cons_zero, List.set_cons_succ]
  refine wpAnyH_take (i := 3) (oi := { dst := some 31, op := Go.Op.fieldAddr 155 (Go.Operand.tmp 30) 1, type := 0, pos := "cipher.go:127", after := #[{ on := 2, ground := Go.Ground.data }], guard := none }) (v := ?v3a4) rfl (by kernel_rfl) (by kernel_rfl) (by kernel_rfl) (fun _ _ _ h => h) (Or.inl ⟨by rfl, ?hy3a4⟩) hHeld ?rest3a4
  case hy3a4 =>
    intro W' hV
    try dsimp only at hV
    go_simp
    all_goals with_reducible rfl
  case' rest3a4 => try simp only [Act.put, List.setIfInBounds_toArray, List.set_cons_zero, List.set_cons_succ]
  refine wpAnyH_ready (rs := [4]) (by kernel_rfl) (by simp) ?_
  refine AllReadyH.cons (o := { dst := some 32, op := Go.Op.call { callee := Go.Callee.value (Go.Operand.func 124), args := #[Go.Operand.tmp 31], argTypes := #[147] }, type := 147, pos := "cipher.go:127", after := #[{ on := 3, ground := Go.Ground.data }], guard := none }) rfl (fun K' hK => ?_) AllReadyH.nil
  rw [if_pos (by rfl)]
  go_simp
  go_wp2_with (go_at_call 124; (with_reducible refine (HUN.out _ HTD.out).mono ?_); rintro e w32 ⟨rfl, hb⟩)
  have HG32 := Lib.hid (show V5.grownBy w32 (some cb) from hHeld.trans (below_but hb _))
  have HBK32 := Lib.hid (Blk.on (w := V5.drew) HBK5.out hb HBK5.out.lt)
  clear hb
  refine hK.out _ _ HG32.out (fun hHeld1 => ?_)
  clear hK K' hHeld
  have hHeld := hHeld1
  clear hHeld1
  try simp only [Act.put, List.setIfInBounds_toArray, List.set_cons_zero, List.set_cons_succ]
  refine wpAnyH_take (i := 5) (oi := { dst := some 33, op := Go.Op.nilCheck (Go.Operand.tmp 28), type := 0, pos := "cipher.go:127", after := #[{ on := 0, ground := Go.Ground.data }, { on := 0, ground := Go.Ground.phase }, { on := 1, ground := Go.Ground.phase }, { on := 2, ground := Go.Ground.phase }, { on := 3, ground := Go.Ground.phase }, { on := 4, ground := Go.Ground.phase }], guard := none }) (v := ?v5a5) rfl (by kernel_rfl) (by kernel_rfl) (by kernel_rfl) (fun _ _ _ h => h) (Or.inl ⟨by rfl, ?hy5a5⟩) hHeld ?rest5a5
  case hy5a5 =>
    intro W' hV
    try dsimp only at hV
    go_simp
    all_goals with_reducible rfl
  case' rest5a5 => try simp only [Act.put, List.setIfInBounds_toArray, List.set_cons_zero, List.set_cons_succ]
  refine wpAnyH_take (i := 6) (oi := { dst := some 34, op := Go.Op.fieldAddr 155 (Go.Operand.tmp 33) 2, type := 0, pos := "cipher.go:127", after := #[{ on := 5, ground := Go.Ground.data }, { on := 0, ground := Go.Ground.phase }, { on := 1, ground := Go.Ground.phase }, { on := 2, ground := Go.Ground.phase }, { on := 3, ground := Go.Ground.phase }, { on := 4, ground := Go.Ground.phase }], guard := none }) (v := ?v6a6) rfl (by kernel_rfl) (by kernel_rfl) (by kernel_rfl) (fun _ _ _ h => h) (Or.inl ⟨by rfl, ?hy6a6⟩) hHeld ?rest6a6
  case hy6a6 =>
    intro W' hV
    try dsimp only at hV
    go_simp
    all_goals with_reducible rfl
  case' rest6a6 => try simp only [Act.put, List.setIfInBounds_toArray, List.set_cons_zero, List.set_cons_succ]
  refine wpAnyH_ready (rs := [7]) (by kernel_rfl) (by simp) ?_
  refine AllReadyH.cons (o := { dst := none, op := Go.Op.store 147 (Go.Operand.tmp 34) (Go.Operand.tmp 32), type := 0, pos := "cipher.go:127", after := #[{ on := 6, ground := Go.Ground.data }, { on := 4, ground := Go.Ground.data }, { on := 4, ground := Go.Ground.chain }, { on := 0, ground := Go.Ground.phase }, { on := 1, ground := Go.Ground.phase }, { on := 2, ground := Go.Ground.phase }, { on := 3, ground := Go.Ground.phase }, { on := 4, ground := Go.Ground.phase }], guard := none }) rfl (fun K' hK => ?_) AllReadyH.nil
  rw [if_pos (by rfl)]
  refine wp_store_mid 147 (.tmp 34) (.tmp 32) rfl cb 257 TU (by rfl) (by rfl) (HBK32.out.there (by rw [HSU.out]; omega)) HUS.out HU1.out ?_
  refine hK.out _ _ (HG32.out.trans (sets_but cb _ _ _)) (fun hHeld1 => ?_)
  clear hK K' hHeld
  have hHeld := hHeld1
  clear hHeld1
  try simp only [Act.put, List.setIfInBounds_toArray, List.set_cons_zero, List.set_cons_succ]
  refine wpAnyH_done (by kernel_rfl) ?_ _
  clear hHeld
  dsimp only [onlyN]
  obtain ⟨V6, hV6⟩ : ∃ V, V = w32.setCells cb 257 TU.toList := ⟨_, rfl⟩
  have hg6 : V5.grownBy V6 (some cb) := by rw [hV6]; exact HG32.out.trans (sets_but cb _ _ _)
  have HBK6 := Lib.hid (show Blk V6 cb 155 1025 (cipK (.slice none 0 0)) by rw [hV6]; exact cipC_back HBK32.out HTU.out)
  have HPC6 := Lib.hid (cell_but HPC5.out hg6 HNE.out.1)
  have HB6 := Lib.hid (show Below w.heap.size w V6 from HB5.out.trans (but_below hg6 HNE.out.2.1 HB5.out.size))
  have HT6 := Lib.hid (cipK_tabs HBK6.out).1
  have hpc6 := HPC6.out
  rw [← hV6]
  clear hV6 hg6
  go_wp2_with (first
    | (go_at_call 126; (with_reducible refine (HSP.out cb V6 HB6.out HT6.out).mono ?_); rintro e w7 ⟨g, cap, rfl, ho, hb⟩; have HO7 := Lib.hid ho; have HB7 := Lib.hid hb; clear ho hb)
    | (go_at_call 125; (with_reducible refine (chunk_any _ _ _ _).mono ?_); rintro e w8 ⟨rfl, rfl⟩))
  clear hpc6
  have hcap := own_caps HO7.out
  have hcap1 : 4 * (n + 7) ≤ cap := hcap.2.1
  have hcap2 : cap ≤ 9223372036854775807 := hcap.2.2.1
  obtain ⟨W, hW⟩ : ∃ W, W = kx n (kw l) (3 * n + 28) := ⟨_, rfl⟩
  obtain ⟨len, hlen⟩ : ∃ k, k = n + 7 := ⟨_, rfl⟩
  rw [← hW, ← hlen] at HO7
  rw [← hlen] at hcap1
  have hlb : len ≤ 15 ∧ 1 ≤ len := by have := HN.out; omega
  obtain ⟨bx, hbx⟩ : ∃ b, b = w7.heap.size := ⟨_, rfl⟩
  have HL := Lib.hid hlen
  have HWK := Lib.hid hW
  obtain ⟨WR, hWR⟩ : ∃ C, C = (w7.alloc (.cells #[.slice (some ⟨g, 0, none⟩) (4 * len) cap] 160)).alloc (.cells #[.int .i64 4] 3) := ⟨_, rfl⟩
  have hbe : Below w7.heap.size w7 WR := by rw [hWR]; exact ((Below.refl _ _).alloc (Nat.le_refl _) _).alloc (by simp) _
  have HSZ := Lib.hid (show WR.heap.size = bx + 2 by rw [hWR, hbx]; simp)
  have hb67 : Below V6.heap.size V6 WR := bt HB7.out hbe
  have HBKR := Lib.hid (HBK6.out.on hb67 HBK6.out.lt)
  have HPCR := Lib.hid ((hb67.cell (p := ⟨pc, 0, none⟩) (block_lt_of_cell HPC6.out)).trans HPC6.out)
  have HBR := Lib.hid (show Below w.heap.size w WR from bt HB6.out hb67)
  have HWR := Lib.hid (show ∀ x, x < len → WR.rangeAt g (4 * x) (sqL4 (rk W x)) from fun x hx j u hu => (hbe.cell (p := ⟨g, 4 * x + j, none⟩) hcap.2.2.2.2).trans (wd_range HO7.out hx j u hu))
  have HQR := Lib.hid (show cRd bx (bx + 1) g len cap WR from ⟨by
    rw [hWR, hbx]
    exact (((Below.refl (w7.heap.size + 1) _).alloc (by simp) _).cell (p := ⟨w7.heap.size, 0, none⟩) (Nat.lt_succ_self _)).trans (by rw [World.cell?_alloc_new]; rfl), by
    rw [hWR, hbx, show w7.heap.size + 1 = (w7.alloc (.cells #[.slice (some ⟨g, 0, none⟩) (4 * len) cap] 160)).heap.size by simp, World.cell?_alloc_new]; rfl⟩)
  have HNX := Lib.hid (show cb < bx ∧ pc < bx ∧ g < bx by
    have h1 := HBK6.out.lt
    have h2 : pc < V6.heap.size := block_lt_of_cell HPC6.out
    have h3 := hcap.2.2.2.2
    have h4 := HB7.out.size
    rw [hbx]; omega)
  have HGC := Lib.hid (show g ≠ cb by have h1 := HBK6.out.lt; have h2 := hcap.2.2.2.1; omega)
  rw [← hlen, ← hWR, ← hbx]
  clear hbx hWR hbe hb67 hW hlen hcap
  refine (wpIn_wide (n := 3)).1 ?_
  refine wpIn_rangeFunc_ownH rfl (by omega) (gf := 144) (lb := #[.pointer (some ⟨bx, 0, none⟩), .pointer (some ⟨bx + 1, 0, none⟩)]) rfl trivial (enters_of Tryz.func144 (by kernel_rfl) rfl)
    (chunk_stops Fence.wide (3 - 1) trivial rfl (by omega) bx (bx + 1) g len cap hcap1 hcap2 WR (by rw [HSZ.out]; omega) (by rw [HSZ.out]; omega) HQR.out) (fun h k r => k (h r)) (fun W l o o' _ hl ho _ r => r.put o' hl ho) (Below.refl _ _) (fun _ => by rfl)
    (fun pre V => ((∃ v, Blk V cb 155 1025 (cipK v) ∧ V.ownsRow WR.heap.size 164 4 v pre.length (sqF W pre)) ∧ V.cell? ⟨pc, 0, none⟩ = some (.pointer (some ⟨cb, 0, none⟩)) ∧ ∀ x, x < len → V.rangeAt g (4 * x) (sqL4 (rk W x))) ∧ Below w.heap.size w V)
    (fun _ _ _ => False)
    (OwnFrom.and (Own.from (fun s A B row hs hg hr => by
      obtain ⟨⟨v, h1, h2⟩, h3, h4⟩ := hs
      exact ⟨⟨v, h1.noncell hg hr, own_noncell h2 hg hr⟩, cell_kept h3 hg hr, fun x hx j u hu => cell_kept (h4 x hx j u hu) hg hr⟩) _) (ownFrom_below (Nat.le_refl _) HBR.out.size))
    (fun _ _ _ _ _ hs _ _ => hs)
    ⟨⟨⟨_, HBKR.out, World.ownsRow_nil _ _ _ _⟩, HPCR.out, HWR.out⟩, HBR.out⟩
    (fun (x : Fin len) a' V => a' = { tmps := #[.pointer (some ⟨fb, 0, none⟩), .slice (some ⟨ba, oa, none⟩) N c, undef, undef, .pointer none, .int .i64 0, .pointer (some ⟨pc, 0, none⟩), .slice (some ⟨g, 4 * x.1, none⟩) 4 4, .pointer (some ⟨fb, 0, none⟩), .bool false,
      .slice (some ⟨ba, oa, none⟩) N c, .int .i64 (N : Nat), .bool false, .bool false, undef, undef, undef, .bool false, .pointer (some ⟨fb, 0, none⟩), .agg TB, .pointer (some ⟨fb, 0, none⟩), .agg #[.int .u8 2, .int .u8 1, .int .u8 1, .int .u8 3],
      .agg TP, .pointer (some ⟨fb, 0, none⟩), .agg #[.int .u8 14, .int .u8 9, .int .u8 13, .int .u8 11], .agg TQ, .agg TC, .pointer (some ⟨cb, 0, none⟩), .pointer (some ⟨cb, 0, none⟩), .pointer (some ⟨cb, 0, none⟩), .pointer (some ⟨cb, 0, none⟩), .pointer (some ⟨cb, 1, none⟩), .agg TU,
      .pointer (some ⟨cb, 0, none⟩), .pointer (some ⟨cb, 257, none⟩), .pointer (some ⟨fb, 0, none⟩), .pointer (some ⟨cb, 0, none⟩), .pointer (some ⟨cb, 0, none⟩), .pointer (some ⟨cb, 1, none⟩), .slice (some ⟨ba, oa, none⟩) N c, .slice (some ⟨g, 0, none⟩) (4 * len) cap,
      .func (.func 144) #[] #[.pointer (some ⟨bx, 0, none⟩), .pointer (some ⟨bx + 1, 0, none⟩)], .slice (some ⟨g, 4 * x.1, none⟩) 4 4, undef, undef, undef, undef, undef, undef, undef, undef, undef, undef, undef, undef, undef], defers := [] })
    (fun x a' _ A B row hs hg hr => hs)
    ?assign ?body ?done ?stop
  case assign =>
    rintro l pre x V K hI hK
    dsimp only [cItv]
    gi_wp2
    exact hK _ _ (KeepsFrom.refl _ _) (fun hq => hq) hI rfl
  case body =>
    rintro l pre x a' V hl ⟨r, hr⟩ ⟨⟨⟨v, h1, h2⟩, h3, h4⟩, hB⟩ rfl hlt
    obtain ⟨va, vL, vc, rfl⟩ := own_slice h2
    obtain ⟨i4, hi4, hz4, hs4, hb4⟩ := sqInfo
    have h4x := h4 x.1 x.2
    have hfill := sq_fillA (rk W x.1)
    have HS := Lib.hid (sqF_snoc W pre x)
    have HF := Lib.hid hfill
    have HI4 := Lib.hid hi4
    have HZ4 := Lib.hid hz4
    have HS4 := Lib.hid hs4
    have HB4 := Lib.hid hb4
    obtain ⟨q, hq⟩ : ∃ q, q = 4 * x.1 := ⟨_, rfl⟩
    obtain ⟨k, hk⟩ : ∃ k, k = pre.length := ⟨_, rfl⟩
    have hkl : k < len := by omega
    obtain ⟨F, hF⟩ : ∃ F, F = sqF W pre := ⟨_, rfl⟩
    obtain ⟨R, hR⟩ : ∃ R, R = rk W x.1 := ⟨_, rfl⟩
    rw [← hF, ← hR] at HS
    rw [← hR] at HF
    rw [← hq, ← hR] at h4x
    rw [← hk, ← hF] at h2
    have HK := Lib.hid hk
    have H1 := Lib.hid h1
    have H2 := Lib.hid h2
    have H3 := Lib.hid h3
    have H4 := Lib.hid h4
    have H4X := Lib.hid h4x
    have HB := Lib.hid hB
    have HWRS := Lib.hid (show WR.heap.size ≤ V.heap.size by have := (Array.getElem?_eq_some_iff.1 hr).1; omega)
    rw [← hq]
    clear h1 h2 h3 h4 h4x hfill hi4 hz4 hs4 hb4 hq hk hF hR hB hl hlt
    gi_wp2
    refine round_held (fun U => U.cell? ⟨pc, 0, none⟩ = some (.pointer (some ⟨cb, 0, none⟩)) ∧ U.rangeAt g q (sqL4 R)) (by kernel_rfl) (by kernel_rfl) (fun ⟨_, _, h⟩ => h) ?_
    have hHeld : V.drew.cell? ⟨pc, 0, none⟩ = some (.pointer (some ⟨cb, 0, none⟩)) ∧ V.drew.rangeAt g q (sqL4 R) := ⟨H3.out, H4X.out⟩
    refine wpAnyH_take (i := 0) (oi := { dst := some 43, op := Go.Op.load 133 (Go.Operand.tmp 6), type := 133, pos := "cipher.go:129", after := #[], guard := none }) (v := ?v0b1) rfl (by kernel_rfl) (by kernel_rfl) (by kernel_rfl) (fun _ _ _ h => h) (Or.inl ⟨by rfl, ?hy0b1⟩) hHeld ?rest0b1
    case hy0b1 =>
      intro W' hV
      try dsimp only at hV
      have hcc := hV.1
      go_simp
      all_goals with_reducible rfl
    case' rest0b1 => try simp only [Act.put, List.setIfInBounds_toArray, List.set_cons_zero, List.set_cons_succ]
    refine wpAnyH_take (i := 1) (oi := { dst := some 44, op := Go.Op.load 133 (Go.Operand.tmp 6), type := 133, pos := "cipher.go:129", after := #[], guard := none }) (v := ?v1b2) rfl (by kernel_rfl) (by kernel_rfl) (by kernel_rfl) (fun _ _ _ h => h) (Or.inl ⟨by rfl, ?hy1b2⟩) hHeld ?rest1b2
    case hy1b2 =>
      intro W' hV
      try dsimp only at hV
      have hcc := hV.1
      go_simp
      all_goals with_reducible rfl
    case' rest1b2 => try simp only [Act.put, List.setIfInBounds_toArray, List.set_cons_zero, List.set_cons_succ]
    refine wpAnyH_take (i := 2) (oi := { dst := some 45, op := Go.Op.nilCheck (Go.Operand.tmp 44), type := 0, pos := "cipher.go:129", after := #[{ on := 1, ground := Go.Ground.data }], guard := none }) (v := ?v2b3) rfl (by kernel_rfl) (by kernel_rfl) (by kernel_rfl) (fun _ _ _ h => h) (Or.inl ⟨by rfl, ?hy2b3⟩) hHeld ?rest2b3
    case hy2b3 =>
      intro W' hV
      try dsimp only at hV
      go_simp
      all_goals with_reducible rfl
    case' rest2b3 => try simp only [Act.put, List.setIfInBounds_toArray, List.set_cons_zero, List.set_cons_succ]
    refine wpAnyH_take (i := 3) (oi := { dst := some 46, op := Go.Op.fieldAddr 155 (Go.Operand.tmp 45) 0, type := 0, pos := "cipher.go:129", after := #[{ on := 2, ground := Go.Ground.data }], guard := none }) (v := ?v3b4) rfl (by kernel_rfl) (by kernel_rfl) (by kernel_rfl) (fun _ _ _ h => h) (Or.inl ⟨by rfl, ?hy3b4⟩) hHeld ?rest3b4
    case hy3b4 =>
      intro W' hV
      try dsimp only at hV
      go_simp
      all_goals with_reducible rfl
    case' rest3b4 => try simp only [Act.put, List.setIfInBounds_toArray, List.set_cons_zero, List.set_cons_succ]
    refine wpAnyH_take (i := 5) (oi := { dst := some 48, op := Go.Op.move (Go.Operand.tmp 7), type := 160, pos := "cipher.go:129", after := #[], guard := none }) (v := ?v5b5) rfl (by kernel_rfl) (by kernel_rfl) (by kernel_rfl) (fun _ _ _ h => h) (Or.inl ⟨by rfl, ?hy5b5⟩) hHeld ?rest5b5
    case hy5b5 =>
      intro W' hV
      try dsimp only at hV
      go_simp
      all_goals with_reducible rfl
    case' rest5b5 => try simp only [Act.put, List.setIfInBounds_toArray, List.set_cons_zero, List.set_cons_succ]
    refine wpAnyH_take (i := 6) (oi := { dst := some 49, op := Go.Op.sliceToArrayPointer 164 (Go.Operand.tmp 48), type := 0, pos := "cipher.go:129", after := #[{ on := 5, ground := Go.Ground.data }], guard := none }) (v := ?v6b6) rfl (by kernel_rfl) (by kernel_rfl) (by kernel_rfl) (fun _ _ _ h => h) (Or.inl ⟨by rfl, ?hy6b6⟩) hHeld ?rest6b6
    case hy6b6 =>
      intro W' hV
      try dsimp only at hV
      have hat := fun U => array_at g q 4 U
      go_simp
      all_goals with_reducible rfl
    case' rest6b6 => try simp only [Act.put, List.setIfInBounds_toArray, List.set_cons_zero, List.set_cons_succ]
    refine wpAnyH_take (i := 7) (oi := { dst := some 50, op := Go.Op.load 164 (Go.Operand.tmp 49), type := 164, pos := "cipher.go:129", after := #[{ on := 6, ground := Go.Ground.data }], guard := none }) (v := .agg (sqL4 R).toArray) rfl (by kernel_rfl) (by kernel_rfl) (by kernel_rfl) (fun _ _ _ h => h) (yieldsIf_load_mid (by rfl) 164 (.tmp 49) rfl g q (by rfl) (sqL4 R) _ (fun U hS => hS.2) Tryz.underlying164 rfl (size_sqL4 _)) hHeld ?rest7b7
    case' rest7b7 => try simp only [Act.put, List.setIfInBounds_toArray, List.set_cons_zero, List.set_cons_succ]
    have HBL := Lib.hid (Nat.le_of_lt H1.out.lt)
    refine wpAnyH_ready (rs := [4, 8]) (by kernel_rfl) (by simp) ?_
    refine AllReadyH.cons (o := { dst := some 47, op := Go.Op.load 153 (Go.Operand.tmp 46), type := 153, pos := "cipher.go:129", after := #[{ on := 3, ground := Go.Ground.data }], guard := none }) rfl (fun K' hK => ?_) (AllReadyH.cons (o := { dst := some 51, op := Go.Op.buildSlice 153 1 #[(0, Go.Operand.tmp 50)], type := 153, pos := "cipher.go:129", after := #[{ on := 7, ground := Go.Ground.data }], guard := none }) rfl (fun K' hK => ?_) AllReadyH.nil)
    · rw [if_pos (by rfl)]
      have hkc := (show V.drew.cell? ⟨cb, 0, none⟩ = some (.slice va vL vc) from cipK_cell H1.out)
      go_simp
      refine hK.out _ _ hHeld (fun hHeld1 => ?_)
      clear hK K' hHeld
      have hHeld := hHeld1
      clear hHeld1
      try simp only [Act.put, List.setIfInBounds_toArray, List.set_cons_zero, List.set_cons_succ]
      have hHeldA := hHeld
      refine wpAnyH_ready (rs := [8]) (by kernel_rfl) (by simp) ?_
      refine AllReadyH.cons (o := { dst := some 51, op := Go.Op.buildSlice 153 1 #[(0, Go.Operand.tmp 50)], type := 153, pos := "cipher.go:129", after := #[{ on := 7, ground := Go.Ground.data }], guard := none }) rfl (fun K' hK => ?_) AllReadyH.nil
      rw [if_pos (by rfl)]
      refine wp_buildSlice 153 164 1 #[(0, .tmp 50)] rfl (sqL4 R).toArray i4 (.agg noSq) rfl HI4.out HZ4.out (by rw [HS4.out]; decide) (by rw [HS4.out]; decide) (by rw [HS4.out, Array.toList_map]; exact HF.out) ?_
      refine hK.out _ _ ⟨((Below.alloc (Below.refl V.heap.size V.drew) (Nat.le_refl _) (.cells (sqL4 R).toArray 164)).cell (p := ⟨pc, 0, none⟩) (block_lt_of_cell H3.out)).trans H3.out, fun j u hu => ((Below.alloc (Below.refl V.heap.size V.drew) (Nat.le_refl _) (.cells (sqL4 R).toArray 164)).cell (p := ⟨g, q + j, none⟩) (block_lt_of_cell (H4X.out j u hu))).trans (H4X.out j u hu)⟩ (fun hHeld1 => ?_)
      clear hK K' hHeld
      have hHeld := hHeld1
      clear hHeld1
      try simp only [Act.put, List.setIfInBounds_toArray, List.set_cons_zero, List.set_cons_succ]
      obtain ⟨VA, hVA⟩ : ∃ U, U = V.drew.alloc (.cells (sqL4 R).toArray 164) := ⟨_, rfl⟩
      have HVB := Lib.hid (show Below V.heap.size V VA by rw [hVA]; exact ((Below.refl V.heap.size V).drew).alloc (Nat.le_refl _) _)
      have HVN := Lib.hid (show VA.heap[V.heap.size]? = some (.cells (sqL4 R).toArray 164 (0, 0)) by rw [hVA]; exact heap_alloc_new _ _)
      have HVO := Lib.hid (show VA.ownsRow WR.heap.size 164 4 (.slice va vL vc) k F by rw [hVA]; exact World.ownsRow.alloc (own_drewN H2.out 1) _)
      try rw [← hVA] at hHeld
      rw [← hVA]
      clear hVA
      refine wpAnyH_ready (rs := [9]) (by kernel_rfl) (by simp) ?_
      refine AllReadyH.cons (o := { dst := some 52, op := Go.Op.call { callee := Go.Callee.builtin Go.Builtin.append, args := #[Go.Operand.tmp 47, Go.Operand.tmp 51], argTypes := #[153, 153] }, type := 153, pos := "cipher.go:129", after := #[{ on := 4, ground := Go.Ground.data }, { on := 8, ground := Go.Ground.data }], guard := none }) rfl (fun K' hK => ?_) AllReadyH.nil
      rw [if_pos (by rfl)]
      refine wp_append_own _ (.tmp 47) (.tmp 51) 153 rfl WR.heap.size 164 i4 (.agg noSq) 4 16 rfl HI4.out HZ4.out HS4.out HB4.out (by rfl) (by omega) (.slice va vL vc) k F (by rfl) HVO.out ⟨V.heap.size, 0, none⟩ 1 1 (sqL4 R) (by rfl) (length_sqL4 _) (World.news_of_block HVN.out) (fun u hu => by obtain ⟨j, hj⟩ := List.mem_iff_getElem?.1 hu; rw [(get_sqL4 hj).2]; rfl) (by unfold maxLen; omega) (by omega) (by have := HVB.out.size; have := HWRS.out; omega) ?_
      intro v9 w9 ho9 hg9 _
      obtain ⟨g9, c9, rfl, hg9b, _⟩ := ho9.form (by omega)
      have HE9 := Lib.hid (show ∀ b, b < WR.heap.size → w9.heap[b]? = V.heap[b]? from fun b hb => round_same HVB.out HVO.out hg9 HWRS.out hb)
      have HO9 := Lib.hid ho9
      have HG9 := Lib.hid hg9
      have HGB := Lib.hid hg9b
      clear ho9 hg9 hg9b
      refine hK.out _ _ ⟨cell_same H3.out (HE9.out _ (by rw [HSZ.out]; have := HNX.out; omega)), range_same H4X.out (HE9.out _ (by rw [HSZ.out]; have := HNX.out; omega))⟩ (fun hHeld1 => ?_)
      clear hK K' hHeld
      have hHeld := hHeld1
      clear hHeld1
      try simp only [Act.put, List.setIfInBounds_toArray, List.set_cons_zero, List.set_cons_succ]
      refine wpAnyH_take (i := 10) (oi := { dst := some 53, op := Go.Op.nilCheck (Go.Operand.tmp 43), type := 0, pos := "cipher.go:129", after := #[{ on := 0, ground := Go.Ground.data }, { on := 0, ground := Go.Ground.phase }, { on := 1, ground := Go.Ground.phase }, { on := 2, ground := Go.Ground.phase }, { on := 3, ground := Go.Ground.phase }, { on := 4, ground := Go.Ground.phase }, { on := 5, ground := Go.Ground.phase }, { on := 6, ground := Go.Ground.phase }, { on := 7, ground := Go.Ground.phase }, { on := 8, ground := Go.Ground.phase }, { on := 9, ground := Go.Ground.phase }], guard := none }) (v := ?v10c1) rfl (by kernel_rfl) (by kernel_rfl) (by kernel_rfl) (fun _ _ _ h => h) (Or.inl ⟨by rfl, ?hy10c1⟩) hHeld ?rest10c1
      case hy10c1 =>
        intro W' hV
        try dsimp only at hV
        go_simp
        all_goals with_reducible rfl
      case' rest10c1 => try simp only [Act.put, List.setIfInBounds_toArray, List.set_cons_zero, List.set_cons_succ]
      refine wpAnyH_take (i := 11) (oi := { dst := some 54, op := Go.Op.fieldAddr 155 (Go.Operand.tmp 53) 0, type := 0, pos := "cipher.go:129", after := #[{ on := 10, ground := Go.Ground.data }, { on := 0, ground := Go.Ground.phase }, { on := 1, ground := Go.Ground.phase }, { on := 2, ground := Go.Ground.phase }, { on := 3, ground := Go.Ground.phase }, { on := 4, ground := Go.Ground.phase }, { on := 5, ground := Go.Ground.phase }, { on := 6, ground := Go.Ground.phase }, { on := 7, ground := Go.Ground.phase }, { on := 8, ground := Go.Ground.phase }, { on := 9, ground := Go.Ground.phase }], guard := none }) (v := ?v11c2) rfl (by kernel_rfl) (by kernel_rfl) (by kernel_rfl) (fun _ _ _ h => h) (Or.inl ⟨by rfl, ?hy11c2⟩) hHeld ?rest11c2
      case hy11c2 =>
        intro W' hV
        try dsimp only at hV
        go_simp
        all_goals with_reducible rfl
      case' rest11c2 => try simp only [Act.put, List.setIfInBounds_toArray, List.set_cons_zero, List.set_cons_succ]
      have HBK9 := Lib.hid (H1.out.same (HE9.out _ (by rw [HSZ.out]; have := HNX.out; omega)))
      have hkc9 := cipK_cell HBK9.out
      have hkf9 := HBK9.out.free 0
      refine wpAnyH_ready (rs := [12]) (by kernel_rfl) (by simp) ?_
      refine AllReadyH.cons (o := { dst := none, op := Go.Op.store 153 (Go.Operand.tmp 54) (Go.Operand.tmp 52), type := 0, pos := "cipher.go:129", after := #[{ on := 11, ground := Go.Ground.data }, { on := 9, ground := Go.Ground.data }, { on := 9, ground := Go.Ground.chain }, { on := 0, ground := Go.Ground.phase }, { on := 1, ground := Go.Ground.phase }, { on := 2, ground := Go.Ground.phase }, { on := 3, ground := Go.Ground.phase }, { on := 4, ground := Go.Ground.phase }, { on := 5, ground := Go.Ground.phase }, { on := 6, ground := Go.Ground.phase }, { on := 7, ground := Go.Ground.phase }, { on := 8, ground := Go.Ground.phase }, { on := 9, ground := Go.Ground.phase }], guard := none }) rfl (fun K' hK => ?_) AllReadyH.nil
      rw [if_pos (by rfl)]
      go_simp
      clear hkc9 hkf9
      refine hK.out _ _ ⟨cell_but (cell_same H3.out (HE9.out _ (by rw [HSZ.out]; have := HNX.out; omega))) (cell_set_but _ cb 0 _) HNE.out.1, rangeAt.but (range_same H4X.out (HE9.out _ (by rw [HSZ.out]; have := HNX.out; omega))) (cell_set_but _ cb 0 _) (by have := HG9.out.size; have := HVB.out.size; have := HWRS.out; have := HNX.out; have := HSZ.out; omega) (by have := HGC.out; omega)⟩ (fun hHeld1 => ?_)
      clear hK K' hHeld
      have hHeld := hHeld1
      clear hHeld1
      try simp only [Act.put, List.setIfInBounds_toArray, List.set_cons_zero, List.set_cons_succ]
      refine wpAnyH_done (by kernel_rfl) ?_ _
      clear hHeld
      gi_wp2
      have hE := HE9.out
      have hx := HNX.out
      have hsz := HSZ.out
      have hset := cell_set_but w9 cb 0 (.slice (some ⟨g9, 0, none⟩) (k + 1) c9)
      refine ⟨(KeepsFrom.of_grownBy (below_but HVB.out none) (fun j e => by cases e)).trans ((keeps_own HVO.out HG9.out).trans (KeepsFrom.of_grownBy hset (fun j e => by cases e; omega))), fun hq => ?_, ⟨⟨⟨_, cipK_set HBK9.out _, ?_⟩, cell_but (cell_same H3.out (hE _ (by omega))) hset HNE.out.1, fun y hy => rangeAt.but (range_same (H4.out y hy) (hE _ (by omega))) hset (by have := HG9.out.size; have := HVB.out.size; have := HWRS.out; have := HNX.out; have := HSZ.out; omega) (by have := HGC.out; omega)⟩, ?_⟩⟩
      · exact ⟨cell_but (cell_same hq.1 (hE _ (by omega))) hset (by omega), cell_but (cell_same hq.2 (hE _ (by omega))) hset (by omega)⟩
      · rw [List.length_append, List.length_singleton, HS.out, ← HK.out]
        exact HO9.out.kept hset (Or.inr (fun e => by have h9 := HGB.out; have e2 : g9 = cb := Option.some.inj e; omega))
      · exact (HB.out.trans ((HVB.out).mono HB.out.size)).grown HG9.out (by have := HVB.out.size; have := HB.out.size; omega) (fun j e => by have := (HVO.out.lt j e).1; have := HBR.out.size; omega) |>.grown hset (by have := HG9.out.size; have := HVB.out.size; have := HB.out.size; omega) (fun j e => by cases e; have := HNE.out.2.1; omega)
    · rw [if_pos (by rfl)]
      refine wp_buildSlice 153 164 1 #[(0, .tmp 50)] rfl (sqL4 R).toArray i4 (.agg noSq) rfl HI4.out HZ4.out (by rw [HS4.out]; decide) (by rw [HS4.out]; decide) (by rw [HS4.out, Array.toList_map]; exact HF.out) ?_
      refine hK.out _ _ ⟨((Below.alloc (Below.refl V.heap.size V.drew) (Nat.le_refl _) (.cells (sqL4 R).toArray 164)).cell (p := ⟨pc, 0, none⟩) (block_lt_of_cell H3.out)).trans H3.out, fun j u hu => ((Below.alloc (Below.refl V.heap.size V.drew) (Nat.le_refl _) (.cells (sqL4 R).toArray 164)).cell (p := ⟨g, q + j, none⟩) (block_lt_of_cell (H4X.out j u hu))).trans (H4X.out j u hu)⟩ (fun hHeld1 => ?_)
      clear hK K' hHeld
      have hHeld := hHeld1
      clear hHeld1
      try simp only [Act.put, List.setIfInBounds_toArray, List.set_cons_zero, List.set_cons_succ]
      refine wpAnyH_ready (rs := [4]) (by kernel_rfl) (by simp) ?_
      refine AllReadyH.cons (o := { dst := some 47, op := Go.Op.load 153 (Go.Operand.tmp 46), type := 153, pos := "cipher.go:129", after := #[{ on := 3, ground := Go.Ground.data }], guard := none }) rfl (fun K' hK => ?_) AllReadyH.nil
      rw [if_pos (by rfl)]
      have hkc := ((Below.alloc (Below.refl V.heap.size V.drew) (Nat.le_refl _) (.cells (sqL4 R).toArray 164)).cell (p := ⟨cb, 0, none⟩) H1.out.lt).trans (cipK_cell H1.out)
      have hkd : (V.alloc (.cells (sqL4 R).toArray 164)).cell? ⟨cb, 0, none⟩ = some (.slice va vL vc) := hkc
      go_simp
      change K' _ (V.drew.alloc (.cells (sqL4 R).toArray 164))
      refine hK.out _ _ hHeld (fun hHeld1 => ?_)
      clear hK K' hHeld
      have hHeld := hHeld1
      clear hHeld1
      try simp only [Act.put, List.setIfInBounds_toArray, List.set_cons_zero, List.set_cons_succ]
      obtain ⟨VA, hVA⟩ : ∃ U, U = V.drew.alloc (.cells (sqL4 R).toArray 164) := ⟨_, rfl⟩
      have HVB := Lib.hid (show Below V.heap.size V VA by rw [hVA]; exact ((Below.refl V.heap.size V).drew).alloc (Nat.le_refl _) _)
      have HVN := Lib.hid (show VA.heap[V.heap.size]? = some (.cells (sqL4 R).toArray 164 (0, 0)) by rw [hVA]; exact heap_alloc_new _ _)
      have HVO := Lib.hid (show VA.ownsRow WR.heap.size 164 4 (.slice va vL vc) k F by rw [hVA]; exact World.ownsRow.alloc (own_drewN H2.out 1) _)
      try rw [← hVA] at hHeld
      rw [← hVA]
      clear hVA
      refine wpAnyH_ready (rs := [9]) (by kernel_rfl) (by simp) ?_
      refine AllReadyH.cons (o := { dst := some 52, op := Go.Op.call { callee := Go.Callee.builtin Go.Builtin.append, args := #[Go.Operand.tmp 47, Go.Operand.tmp 51], argTypes := #[153, 153] }, type := 153, pos := "cipher.go:129", after := #[{ on := 4, ground := Go.Ground.data }, { on := 8, ground := Go.Ground.data }], guard := none }) rfl (fun K' hK => ?_) AllReadyH.nil
      rw [if_pos (by rfl)]
      refine wp_append_own _ (.tmp 47) (.tmp 51) 153 rfl WR.heap.size 164 i4 (.agg noSq) 4 16 rfl HI4.out HZ4.out HS4.out HB4.out (by rfl) (by omega) (.slice va vL vc) k F (by rfl) HVO.out ⟨V.heap.size, 0, none⟩ 1 1 (sqL4 R) (by rfl) (length_sqL4 _) (World.news_of_block HVN.out) (fun u hu => by obtain ⟨j, hj⟩ := List.mem_iff_getElem?.1 hu; rw [(get_sqL4 hj).2]; rfl) (by unfold maxLen; omega) (by omega) (by have := HVB.out.size; have := HWRS.out; omega) ?_
      intro v9 w9 ho9 hg9 _
      obtain ⟨g9, c9, rfl, hg9b, _⟩ := ho9.form (by omega)
      have HE9 := Lib.hid (show ∀ b, b < WR.heap.size → w9.heap[b]? = V.heap[b]? from fun b hb => round_same HVB.out HVO.out hg9 HWRS.out hb)
      have HO9 := Lib.hid ho9
      have HG9 := Lib.hid hg9
      have HGB := Lib.hid hg9b
      clear ho9 hg9 hg9b
      refine hK.out _ _ ⟨cell_same H3.out (HE9.out _ (by rw [HSZ.out]; have := HNX.out; omega)), range_same H4X.out (HE9.out _ (by rw [HSZ.out]; have := HNX.out; omega))⟩ (fun hHeld1 => ?_)
      clear hK K' hHeld
      have hHeld := hHeld1
      clear hHeld1
      try simp only [Act.put, List.setIfInBounds_toArray, List.set_cons_zero, List.set_cons_succ]
      refine wpAnyH_take (i := 10) (oi := { dst := some 53, op := Go.Op.nilCheck (Go.Operand.tmp 43), type := 0, pos := "cipher.go:129", after := #[{ on := 0, ground := Go.Ground.data }, { on := 0, ground := Go.Ground.phase }, { on := 1, ground := Go.Ground.phase }, { on := 2, ground := Go.Ground.phase }, { on := 3, ground := Go.Ground.phase }, { on := 4, ground := Go.Ground.phase }, { on := 5, ground := Go.Ground.phase }, { on := 6, ground := Go.Ground.phase }, { on := 7, ground := Go.Ground.phase }, { on := 8, ground := Go.Ground.phase }, { on := 9, ground := Go.Ground.phase }], guard := none }) (v := ?v10d1) rfl (by kernel_rfl) (by kernel_rfl) (by kernel_rfl) (fun _ _ _ h => h) (Or.inl ⟨by rfl, ?hy10d1⟩) hHeld ?rest10d1
      case hy10d1 =>
        intro W' hV
        try dsimp only at hV
        go_simp
        all_goals with_reducible rfl
      case' rest10d1 => try simp only [Act.put, List.setIfInBounds_toArray, List.set_cons_zero, List.set_cons_succ]
      refine wpAnyH_take (i := 11) (oi := { dst := some 54, op := Go.Op.fieldAddr 155 (Go.Operand.tmp 53) 0, type := 0, pos := "cipher.go:129", after := #[{ on := 10, ground := Go.Ground.data }, { on := 0, ground := Go.Ground.phase }, { on := 1, ground := Go.Ground.phase }, { on := 2, ground := Go.Ground.phase }, { on := 3, ground := Go.Ground.phase }, { on := 4, ground := Go.Ground.phase }, { on := 5, ground := Go.Ground.phase }, { on := 6, ground := Go.Ground.phase }, { on := 7, ground := Go.Ground.phase }, { on := 8, ground := Go.Ground.phase }, { on := 9, ground := Go.Ground.phase }], guard := none }) (v := ?v11d2) rfl (by kernel_rfl) (by kernel_rfl) (by kernel_rfl) (fun _ _ _ h => h) (Or.inl ⟨by rfl, ?hy11d2⟩) hHeld ?rest11d2
      case hy11d2 =>
        intro W' hV
        try dsimp only at hV
        go_simp
        all_goals with_reducible rfl
      case' rest11d2 => try simp only [Act.put, List.setIfInBounds_toArray, List.set_cons_zero, List.set_cons_succ]
      have HBK9 := Lib.hid (H1.out.same (HE9.out _ (by rw [HSZ.out]; have := HNX.out; omega)))
      have hkc9 := cipK_cell HBK9.out
      have hkf9 := HBK9.out.free 0
      refine wpAnyH_ready (rs := [12]) (by kernel_rfl) (by simp) ?_
      refine AllReadyH.cons (o := { dst := none, op := Go.Op.store 153 (Go.Operand.tmp 54) (Go.Operand.tmp 52), type := 0, pos := "cipher.go:129", after := #[{ on := 11, ground := Go.Ground.data }, { on := 9, ground := Go.Ground.data }, { on := 9, ground := Go.Ground.chain }, { on := 0, ground := Go.Ground.phase }, { on := 1, ground := Go.Ground.phase }, { on := 2, ground := Go.Ground.phase }, { on := 3, ground := Go.Ground.phase }, { on := 4, ground := Go.Ground.phase }, { on := 5, ground := Go.Ground.phase }, { on := 6, ground := Go.Ground.phase }, { on := 7, ground := Go.Ground.phase }, { on := 8, ground := Go.Ground.phase }, { on := 9, ground := Go.Ground.phase }], guard := none }) rfl (fun K' hK => ?_) AllReadyH.nil
      rw [if_pos (by rfl)]
      go_simp
      clear hkc9 hkf9
      refine hK.out _ _ ⟨cell_but (cell_same H3.out (HE9.out _ (by rw [HSZ.out]; have := HNX.out; omega))) (cell_set_but _ cb 0 _) HNE.out.1, rangeAt.but (range_same H4X.out (HE9.out _ (by rw [HSZ.out]; have := HNX.out; omega))) (cell_set_but _ cb 0 _) (by have := HG9.out.size; have := HVB.out.size; have := HWRS.out; have := HNX.out; have := HSZ.out; omega) (by have := HGC.out; omega)⟩ (fun hHeld1 => ?_)
      clear hK K' hHeld
      have hHeld := hHeld1
      clear hHeld1
      try simp only [Act.put, List.setIfInBounds_toArray, List.set_cons_zero, List.set_cons_succ]
      refine wpAnyH_done (by kernel_rfl) ?_ _
      clear hHeld
      gi_wp2
      have hE := HE9.out
      have hx := HNX.out
      have hsz := HSZ.out
      have hset := cell_set_but w9 cb 0 (.slice (some ⟨g9, 0, none⟩) (k + 1) c9)
      refine ⟨(KeepsFrom.of_grownBy (below_but HVB.out none) (fun j e => by cases e)).trans ((keeps_own HVO.out HG9.out).trans (KeepsFrom.of_grownBy hset (fun j e => by cases e; omega))), fun hq => ?_, ⟨⟨⟨_, cipK_set HBK9.out _, ?_⟩, cell_but (cell_same H3.out (hE _ (by omega))) hset HNE.out.1, fun y hy => rangeAt.but (range_same (H4.out y hy) (hE _ (by omega))) hset (by have := HG9.out.size; have := HVB.out.size; have := HWRS.out; have := HNX.out; have := HSZ.out; omega) (by have := HGC.out; omega)⟩, ?_⟩⟩
      · exact ⟨cell_but (cell_same hq.1 (hE _ (by omega))) hset (by omega), cell_but (cell_same hq.2 (hE _ (by omega))) hset (by omega)⟩
      · rw [List.length_append, List.length_singleton, HS.out, ← HK.out]
        exact HO9.out.kept hset (Or.inr (fun e => by have h9 := HGB.out; have e2 : g9 = cb := Option.some.inj e; omega))
      · exact (HB.out.trans ((HVB.out).mono HB.out.size)).grown HG9.out (by have := HVB.out.size; have := HB.out.size; omega) (fun j e => by have := (HVO.out.lt j e).1; have := HBR.out.size; omega) |>.grown hset (by have := HG9.out.size; have := HVB.out.size; have := HB.out.size; omega) (fun j e => by cases e; have := HNE.out.2.1; omega)
  case done =>
    rintro D ys V hD ⟨hys, hbk⟩ ⟨⟨⟨v, h1, h2⟩, h3, h4⟩, hB⟩ hK
    rw [sqF_all W ys hys hbk, hys] at h2
    have HC := Lib.hid (show Cip V cb (n + 6) W from cip_of h1 (by rw [show n + 6 + 1 = len by have := HL.out; omega]; exact h2))
    have H3 := Lib.hid h3
    have hpc := h3
    have HB := Lib.hid hB
    have HKD := Lib.hid hK
    have HDD := Lib.hid hD
    clear h1 h2 h3 h4 hB hK hD
    go_wp2
    refine ⟨by simp, .inl ⟨_, _, rfl, run_takeDeferred HKD.out, ?_⟩⟩
    refine ⟨_, results_tmp2 rfl _ _ _, cb, rfl, ?_, ?_⟩
    · rw [← HWK.out]
      obtain ⟨g9, cap9, hca⟩ := HC.out
      exact CipA.cip (CipA.noncell (show CipA V cb g9 cap9 (n + 6) W from hca) (grownBy_putObj' _ D (.deferred none)) (fun r e => by cases e; exact ⟨_, HKD.out, rfl⟩))
    · exact HB.out.trans (belowK_b (w := w) (Nat.le_refl _) _ D _ _ (by have := HBR.out.size; have := HDD.out; omega) HKD.out rfl rfl)
  case stop =>
    rintro D c pre V _ _ h _
    exact h.elim
set_option maxHeartbeats 4000000 in
theorem new_8 (fb n : Nat) (ba oa c : Nat) (l : List Int) (w : World) (hf : Fld w fb) (hn : n = 8) (hl : l.length = 4 * n) (hA : AllB l) (hb : Bs w w.heap.size (some ⟨ba, oa, none⟩) l) (hc : 4 * n ≤ c) (hcm : c ≤ 9223372036854775807) :
    Calls Tryz.prog 105 #[.pointer (some ⟨fb, 0, none⟩), .slice (some ⟨ba, oa, none⟩) ((4 * n : Nat) : Nat) c] w fun e w' => ∃ b, e = .returned (.tuple #[.pointer (some ⟨b, 0, none⟩), .int .i64 0]) ∧ Cip w' b (n + 6) (kx n (kw l) (3 * n + 28)) ∧ Below w.heap.size w w' := by
  obtain ⟨TB, hTB⟩ : ∃ T : Array Value, T = tabV 256 fun j => .int .u8 ((box j : Nat) : Int) := ⟨_, rfl⟩
  obtain ⟨TP, hTP⟩ : ∃ T : Array Value, T = tabV 256 fun j => .int .u32 ((prt m2 j : Nat) : Int) := ⟨_, rfl⟩
  obtain ⟨TQ, hTQ⟩ : ∃ T : Array Value, T = tabV 256 fun j => .int .u32 ((prt m14 j : Nat) : Int) := ⟨_, rfl⟩
  obtain ⟨TC, hTC⟩ : ∃ T : Array Value, T = tabV 1025 (cipC (fun j => .int .u8 ((box j : Nat) : Int)) (fun j => .int .u32 ((prt m2 j : Nat) : Int)) (fun j => .int .u32 ((prt m14 j : Nat) : Int))) := ⟨_, rfl⟩
  have hbd := cip_built (fun j => .int .u8 ((box j : Nat) : Int)) (fun j => .int .u32 ((prt m2 j : Nat) : Int)) (fun j => .int .u32 ((prt m14 j : Nat) : Int))
  rw [← hTB, ← hTP, ← hTQ, ← hTC] at hbd
  have HBX := boxOf_any fb w hf
  have HP2 := fun W (hW : Below w.heap.size w W) => productBy_any fb m2 m2_lt W (hf.below hW)
  have HP4 := fun W (hW : Below w.heap.size w W) => productBy_any fb m14 m14_lt W (hf.below hW)
  rw [by2, ← hTP] at HP2
  rw [by14, ← hTQ] at HP4
  rw [← hTB] at HBX
  have HBD := Lib.hid hbd
  clear hbd
  replace HBX := Lib.hid HBX
  replace HP2 := Lib.hid HP2
  replace HP4 := Lib.hid HP4
  obtain ⟨N, hN⟩ : ∃ N, N = 4 * n := ⟨_, rfl⟩
  have HSP := Lib.hid (fun b W (hW : Below w.heap.size w W) (hT : Tb W b 1 box) => spread_any fb b 1 n ba oa c l W (hf.below hW) hT (by omega) hl hA ((hb.below hW).more hW.size) hc hcm)
  rw [← hN] at HSP ⊢
  have q1 : ((N : Int) != 16) = true := by rw [hN, hn]; rfl
  have q2 : ((N : Int) != 32) = false := by rw [hN, hn]; rfl
  have HN := Lib.hid hn
  have HNN := Lib.hid hN
  have HTB := Lib.hid hTB
  have HTC := Lib.hid hTC
  clear hf hn hl hA hb hN hTB hTP hTQ hTC
  refine (callsIn_wide (n := 3)).1 ?_
  refine callsIn_of_wp_marks Tryz.func105 rfl trivial ?_ rfl
  simp only [Tryz.ntmps105, List.size_toArray, List.length_cons, List.length_nil, Nat.reduceAdd, Nat.reduceSub, Array.replicate_succ, Array.replicate_zero, List.push_toArray, List.append_toArray, List.nil_append, List.cons_append]
  refine wpIn_wide.2 ?_
  go_upto_region 5 with fail
  go_upto_region 6 with (first
    | (go_at_call 122; (with_reducible refine HBX.out.mono ?_); rintro e w1 ⟨rfl, hb1⟩; have HB1 := Lib.hid hb1; clear hb1)
    | (go_at_call 123; (with_reducible refine (HP2.out _ HB1.out).mono ?_); rintro e w2 ⟨rfl, hb2⟩; have HB2 := Lib.hid (bt HB1.out hb2); clear hb2)
    | (go_at_call 123; (with_reducible refine (HP4.out _ HB2.out).mono ?_); rintro e w3 ⟨rfl, hb3⟩; have HB3 := Lib.hid (bt HB2.out hb3); clear hb3)
    | ((with_reducible show wpList _ _ _ (⟨some 26, _, _, _, _, _⟩ :: _) _ _); refine wpList_buildTo rfl 155 #[(1, .tmp 19), (3, .tmp 22), (4, .tmp 25)] rfl (some 26) rfl TC (by rw [Array.toList_map]; exact HBD.out) ?_))
  obtain ⟨TU, hTU⟩ : ∃ T : Array Value, T = tabV 256 fun j => .int .u8 ((bxb j : Nat) : Int) := ⟨_, rfl⟩
  have HUN := fun W (hW : Tb W w3.heap.size 1 box) => undone_any w3.heap.size 1 W hW
  rw [← hTU] at HUN
  obtain ⟨cb, hcb⟩ : ∃ b, b = w3.heap.size := ⟨_, rfl⟩
  obtain ⟨pc, hpc⟩ : ∃ b, b = cb + 1 := ⟨_, rfl⟩
  obtain ⟨V5, hV5⟩ : ∃ V, V = (w3.alloc (.cells TC 155)).alloc (.cells #[.pointer (some ⟨w3.heap.size, 0, none⟩)] 133) := ⟨_, rfl⟩
  have HBK5 := Lib.hid (show Blk V5 cb 155 1025 (cipC (fun j => .int .u8 ((box j : Nat) : Int)) (fun j => .int .u32 ((prt m2 j : Nat) : Int)) (fun j => .int .u32 ((prt m14 j : Nat) : Int))) by
    rw [hV5, hcb, HTC.out]
    exact (Blk.made w3 _ _ _).on ((Below.refl _ _).alloc (Nat.le_refl _) _) (by simp))
  have HPC5 := Lib.hid (show V5.cell? ⟨pc, 0, none⟩ = some (.pointer (some ⟨cb, 0, none⟩)) by
    rw [hV5, hpc, hcb, show w3.heap.size + 1 = (w3.alloc (.cells TC 155)).heap.size by simp, World.cell?_alloc_new]; rfl)
  have HB5 := Lib.hid (show Below w.heap.size w V5 by rw [hV5]; exact (HB3.out.alloc HB3.out.size _).alloc (by have := HB3.out.size; simp; omega) _)
  have HNE := Lib.hid (show pc ≠ cb ∧ w.heap.size ≤ cb ∧ pc < V5.heap.size ∧ cb < pc by have := HB3.out.size; rw [hpc, hcb, hV5]; simp; omega)
  have HSU := Lib.hid (show TU.size = 256 by rw [hTU, size_tabV])
  have HUS := Lib.hid (show (Tryz.prog.info? 147).map (·.size) = some TU.size by rw [hTU, size_tabV]; kernel_rfl)
  have HU1 := Lib.hid (show TU.all (·.oneCell') = true by rw [hTU]; exact tabV_one fun _ => rfl)
  have HTU := Lib.hid hTU
  have HTD := Lib.hid (show Tb V5.drew cb 1 box from cipC_tb HBK5.out)
  rw [← hcb] at HUN
  replace HUN := Lib.hid HUN
  rw [← hV5, ← hcb, ← hpc]
  clear hTU hcb hpc hV5
  go_wp2_with fail
  refine wp_onlyN ?_
  refine wp_region_held_drew (S := fun W => V5.grownBy W (some cb)) (by kernel_rfl) (drew_but _ _) (fun hHeld => ?_)
  refine wpAnyH_take (i := 0) (oi := { dst := some 28, op := Go.Op.load 133 (Go.Operand.tmp 6), type := 133, pos := "cipher.go:127", after := #[], guard := none }) (v := ?v0a1) rfl (by kernel_rfl) (by kernel_rfl) (by kernel_rfl) (fun _ _ _ h => h) (Or.inl ⟨by rfl, ?hy0a1⟩) hHeld ?rest0a1
  case hy0a1 =>
    intro W' hV
    try dsimp only at hV
    have hcc := cell_but HPC5.out hV HNE.out.1
    go_simp
    all_goals with_reducible rfl
  case' rest0a1 => try simp only [Act.put, List.setIfInBounds_toArray, List.set_cons_zero, List.set_cons_succ]
  refine wpAnyH_take (i := 1) (oi := { dst := some 29, op := Go.Op.load 133 (Go.Operand.tmp 6), type := 133, pos := "cipher.go:127", after := #[], guard := none }) (v := ?v1a2) rfl (by kernel_rfl) (by kernel_rfl) (by kernel_rfl) (fun _ _ _ h => h) (Or.inl ⟨by rfl, ?hy1a2⟩) hHeld ?rest1a2
  case hy1a2 =>
    intro W' hV
    try dsimp only at hV
    have hcc := cell_but HPC5.out hV HNE.out.1
    go_simp
    all_goals with_reducible rfl
  case' rest1a2 => try simp only [Act.put, List.setIfInBounds_toArray, List.set_cons_zero, List.set_cons_succ]
  refine wpAnyH_take (i := 2) (oi := { dst := some 30, op := Go.Op.nilCheck (Go.Operand.tmp 29), type := 0, pos := "cipher.go:127", after := #[{ on := 1, ground := Go.Ground.data }], guard := none }) (v := ?v2a3) rfl (by kernel_rfl) (by kernel_rfl) (by kernel_rfl) (fun _ _ _ h => h) (Or.inl ⟨by rfl, ?hy2a3⟩) hHeld ?rest2a3
  case hy2a3 =>
    intro W' hV
    try dsimp only at hV
    go_simp
    all_goals with_reducible rfl
  case' rest2a3 => try simp only [Act.put, List.setIfInBounds_toArray, List.set_cons_zero, List.set_cons_succ]
  refine wpAnyH_take (i := 3) (oi := { dst := some 31, op := Go.Op.fieldAddr 155 (Go.Operand.tmp 30) 1, type := 0, pos := "cipher.go:127", after := #[{ on := 2, ground := Go.Ground.data }], guard := none }) (v := ?v3a4) rfl (by kernel_rfl) (by kernel_rfl) (by kernel_rfl) (fun _ _ _ h => h) (Or.inl ⟨by rfl, ?hy3a4⟩) hHeld ?rest3a4
  case hy3a4 =>
    intro W' hV
    try dsimp only at hV
    go_simp
    all_goals with_reducible rfl
  case' rest3a4 => try simp only [Act.put, List.setIfInBounds_toArray, List.set_cons_zero, List.set_cons_succ]
  refine wpAnyH_ready (rs := [4]) (by kernel_rfl) (by simp) ?_
  refine AllReadyH.cons (o := { dst := some 32, op := Go.Op.call { callee := Go.Callee.value (Go.Operand.func 124), args := #[Go.Operand.tmp 31], argTypes := #[147] }, type := 147, pos := "cipher.go:127", after := #[{ on := 3, ground := Go.Ground.data }], guard := none }) rfl (fun K' hK => ?_) AllReadyH.nil
  rw [if_pos (by rfl)]
  go_simp
  go_wp2_with (go_at_call 124; (with_reducible refine (HUN.out _ HTD.out).mono ?_); rintro e w32 ⟨rfl, hb⟩)
  have HG32 := Lib.hid (show V5.grownBy w32 (some cb) from hHeld.trans (below_but hb _))
  have HBK32 := Lib.hid (Blk.on (w := V5.drew) HBK5.out hb HBK5.out.lt)
  clear hb
  refine hK.out _ _ HG32.out (fun hHeld1 => ?_)
  clear hK K' hHeld
  have hHeld := hHeld1
  clear hHeld1
  try simp only [Act.put, List.setIfInBounds_toArray, List.set_cons_zero, List.set_cons_succ]
  refine wpAnyH_take (i := 5) (oi := { dst := some 33, op := Go.Op.nilCheck (Go.Operand.tmp 28), type := 0, pos := "cipher.go:127", after := #[{ on := 0, ground := Go.Ground.data }, { on := 0, ground := Go.Ground.phase }, { on := 1, ground := Go.Ground.phase }, { on := 2, ground := Go.Ground.phase }, { on := 3, ground := Go.Ground.phase }, { on := 4, ground := Go.Ground.phase }], guard := none }) (v := ?v5a5) rfl (by kernel_rfl) (by kernel_rfl) (by kernel_rfl) (fun _ _ _ h => h) (Or.inl ⟨by rfl, ?hy5a5⟩) hHeld ?rest5a5
  case hy5a5 =>
    intro W' hV
    try dsimp only at hV
    go_simp
    all_goals with_reducible rfl
  case' rest5a5 => try simp only [Act.put, List.setIfInBounds_toArray, List.set_cons_zero, List.set_cons_succ]
  refine wpAnyH_take (i := 6) (oi := { dst := some 34, op := Go.Op.fieldAddr 155 (Go.Operand.tmp 33) 2, type := 0, pos := "cipher.go:127", after := #[{ on := 5, ground := Go.Ground.data }, { on := 0, ground := Go.Ground.phase }, { on := 1, ground := Go.Ground.phase }, { on := 2, ground := Go.Ground.phase }, { on := 3, ground := Go.Ground.phase }, { on := 4, ground := Go.Ground.phase }], guard := none }) (v := ?v6a6) rfl (by kernel_rfl) (by kernel_rfl) (by kernel_rfl) (fun _ _ _ h => h) (Or.inl ⟨by rfl, ?hy6a6⟩) hHeld ?rest6a6
  case hy6a6 =>
    intro W' hV
    try dsimp only at hV
    go_simp
    all_goals with_reducible rfl
  case' rest6a6 => try simp only [Act.put, List.setIfInBounds_toArray, List.set_cons_zero, List.set_cons_succ]
  refine wpAnyH_ready (rs := [7]) (by kernel_rfl) (by simp) ?_
  refine AllReadyH.cons (o := { dst := none, op := Go.Op.store 147 (Go.Operand.tmp 34) (Go.Operand.tmp 32), type := 0, pos := "cipher.go:127", after := #[{ on := 6, ground := Go.Ground.data }, { on := 4, ground := Go.Ground.data }, { on := 4, ground := Go.Ground.chain }, { on := 0, ground := Go.Ground.phase }, { on := 1, ground := Go.Ground.phase }, { on := 2, ground := Go.Ground.phase }, { on := 3, ground := Go.Ground.phase }, { on := 4, ground := Go.Ground.phase }], guard := none }) rfl (fun K' hK => ?_) AllReadyH.nil
  rw [if_pos (by rfl)]
  refine wp_store_mid 147 (.tmp 34) (.tmp 32) rfl cb 257 TU (by rfl) (by rfl) (HBK32.out.there (by rw [HSU.out]; omega)) HUS.out HU1.out ?_
  refine hK.out _ _ (HG32.out.trans (sets_but cb _ _ _)) (fun hHeld1 => ?_)
  clear hK K' hHeld
  have hHeld := hHeld1
  clear hHeld1
  try simp only [Act.put, List.setIfInBounds_toArray, List.set_cons_zero, List.set_cons_succ]
  refine wpAnyH_done (by kernel_rfl) ?_ _
  clear hHeld
  dsimp only [onlyN]
  obtain ⟨V6, hV6⟩ : ∃ V, V = w32.setCells cb 257 TU.toList := ⟨_, rfl⟩
  have hg6 : V5.grownBy V6 (some cb) := by rw [hV6]; exact HG32.out.trans (sets_but cb _ _ _)
  have HBK6 := Lib.hid (show Blk V6 cb 155 1025 (cipK (.slice none 0 0)) by rw [hV6]; exact cipC_back HBK32.out HTU.out)
  have HPC6 := Lib.hid (cell_but HPC5.out hg6 HNE.out.1)
  have HB6 := Lib.hid (show Below w.heap.size w V6 from HB5.out.trans (but_below hg6 HNE.out.2.1 HB5.out.size))
  have HT6 := Lib.hid (cipK_tabs HBK6.out).1
  have hpc6 := HPC6.out
  rw [← hV6]
  clear hV6 hg6
  go_wp2_with (first
    | (go_at_call 126; (with_reducible refine (HSP.out cb V6 HB6.out HT6.out).mono ?_); rintro e w7 ⟨g, cap, rfl, ho, hb⟩; have HO7 := Lib.hid ho; have HB7 := Lib.hid hb; clear ho hb)
    | (go_at_call 125; (with_reducible refine (chunk_any _ _ _ _).mono ?_); rintro e w8 ⟨rfl, rfl⟩))
  clear hpc6
  have hcap := own_caps HO7.out
  have hcap1 : 4 * (n + 7) ≤ cap := hcap.2.1
  have hcap2 : cap ≤ 9223372036854775807 := hcap.2.2.1
  obtain ⟨W, hW⟩ : ∃ W, W = kx n (kw l) (3 * n + 28) := ⟨_, rfl⟩
  obtain ⟨len, hlen⟩ : ∃ k, k = n + 7 := ⟨_, rfl⟩
  rw [← hW, ← hlen] at HO7
  rw [← hlen] at hcap1
  have hlb : len ≤ 15 ∧ 1 ≤ len := by have := HN.out; omega
  obtain ⟨bx, hbx⟩ : ∃ b, b = w7.heap.size := ⟨_, rfl⟩
  have HL := Lib.hid hlen
  have HWK := Lib.hid hW
  obtain ⟨WR, hWR⟩ : ∃ C, C = (w7.alloc (.cells #[.slice (some ⟨g, 0, none⟩) (4 * len) cap] 160)).alloc (.cells #[.int .i64 4] 3) := ⟨_, rfl⟩
  have hbe : Below w7.heap.size w7 WR := by rw [hWR]; exact ((Below.refl _ _).alloc (Nat.le_refl _) _).alloc (by simp) _
  have HSZ := Lib.hid (show WR.heap.size = bx + 2 by rw [hWR, hbx]; simp)
  have hb67 : Below V6.heap.size V6 WR := bt HB7.out hbe
  have HBKR := Lib.hid (HBK6.out.on hb67 HBK6.out.lt)
  have HPCR := Lib.hid ((hb67.cell (p := ⟨pc, 0, none⟩) (block_lt_of_cell HPC6.out)).trans HPC6.out)
  have HBR := Lib.hid (show Below w.heap.size w WR from bt HB6.out hb67)
  have HWR := Lib.hid (show ∀ x, x < len → WR.rangeAt g (4 * x) (sqL4 (rk W x)) from fun x hx j u hu => (hbe.cell (p := ⟨g, 4 * x + j, none⟩) hcap.2.2.2.2).trans (wd_range HO7.out hx j u hu))
  have HQR := Lib.hid (show cRd bx (bx + 1) g len cap WR from ⟨by
    rw [hWR, hbx]
    exact (((Below.refl (w7.heap.size + 1) _).alloc (by simp) _).cell (p := ⟨w7.heap.size, 0, none⟩) (Nat.lt_succ_self _)).trans (by rw [World.cell?_alloc_new]; rfl), by
    rw [hWR, hbx, show w7.heap.size + 1 = (w7.alloc (.cells #[.slice (some ⟨g, 0, none⟩) (4 * len) cap] 160)).heap.size by simp, World.cell?_alloc_new]; rfl⟩)
  have HNX := Lib.hid (show cb < bx ∧ pc < bx ∧ g < bx by
    have h1 := HBK6.out.lt
    have h2 : pc < V6.heap.size := block_lt_of_cell HPC6.out
    have h3 := hcap.2.2.2.2
    have h4 := HB7.out.size
    rw [hbx]; omega)
  have HGC := Lib.hid (show g ≠ cb by have h1 := HBK6.out.lt; have h2 := hcap.2.2.2.1; omega)
  rw [← hlen, ← hWR, ← hbx]
  clear hbx hWR hbe hb67 hW hlen hcap
  refine (wpIn_wide (n := 3)).1 ?_
  refine wpIn_rangeFunc_ownH rfl (by omega) (gf := 144) (lb := #[.pointer (some ⟨bx, 0, none⟩), .pointer (some ⟨bx + 1, 0, none⟩)]) rfl trivial (enters_of Tryz.func144 (by kernel_rfl) rfl)
    (chunk_stops Fence.wide (3 - 1) trivial rfl (by omega) bx (bx + 1) g len cap hcap1 hcap2 WR (by rw [HSZ.out]; omega) (by rw [HSZ.out]; omega) HQR.out) (fun h k r => k (h r)) (fun W l o o' _ hl ho _ r => r.put o' hl ho) (Below.refl _ _) (fun _ => by rfl)
    (fun pre V => ((∃ v, Blk V cb 155 1025 (cipK v) ∧ V.ownsRow WR.heap.size 164 4 v pre.length (sqF W pre)) ∧ V.cell? ⟨pc, 0, none⟩ = some (.pointer (some ⟨cb, 0, none⟩)) ∧ ∀ x, x < len → V.rangeAt g (4 * x) (sqL4 (rk W x))) ∧ Below w.heap.size w V)
    (fun _ _ _ => False)
    (OwnFrom.and (Own.from (fun s A B row hs hg hr => by
      obtain ⟨⟨v, h1, h2⟩, h3, h4⟩ := hs
      exact ⟨⟨v, h1.noncell hg hr, own_noncell h2 hg hr⟩, cell_kept h3 hg hr, fun x hx j u hu => cell_kept (h4 x hx j u hu) hg hr⟩) _) (ownFrom_below (Nat.le_refl _) HBR.out.size))
    (fun _ _ _ _ _ hs _ _ => hs)
    ⟨⟨⟨_, HBKR.out, World.ownsRow_nil _ _ _ _⟩, HPCR.out, HWR.out⟩, HBR.out⟩
    (fun (x : Fin len) a' V => a' = { tmps := #[.pointer (some ⟨fb, 0, none⟩), .slice (some ⟨ba, oa, none⟩) N c, undef, undef, .pointer none, .int .i64 0, .pointer (some ⟨pc, 0, none⟩), .slice (some ⟨g, 4 * x.1, none⟩) 4 4, .pointer (some ⟨fb, 0, none⟩), .bool false,
      .slice (some ⟨ba, oa, none⟩) N c, .int .i64 (N : Nat), .bool true, .bool true, .slice (some ⟨ba, oa, none⟩) N c, .int .i64 (N : Nat), .bool false, .bool false, .pointer (some ⟨fb, 0, none⟩), .agg TB, .pointer (some ⟨fb, 0, none⟩), .agg #[.int .u8 2, .int .u8 1, .int .u8 1, .int .u8 3],
      .agg TP, .pointer (some ⟨fb, 0, none⟩), .agg #[.int .u8 14, .int .u8 9, .int .u8 13, .int .u8 11], .agg TQ, .agg TC, .pointer (some ⟨cb, 0, none⟩), .pointer (some ⟨cb, 0, none⟩), .pointer (some ⟨cb, 0, none⟩), .pointer (some ⟨cb, 0, none⟩), .pointer (some ⟨cb, 1, none⟩), .agg TU,
      .pointer (some ⟨cb, 0, none⟩), .pointer (some ⟨cb, 257, none⟩), .pointer (some ⟨fb, 0, none⟩), .pointer (some ⟨cb, 0, none⟩), .pointer (some ⟨cb, 0, none⟩), .pointer (some ⟨cb, 1, none⟩), .slice (some ⟨ba, oa, none⟩) N c, .slice (some ⟨g, 0, none⟩) (4 * len) cap,
      .func (.func 144) #[] #[.pointer (some ⟨bx, 0, none⟩), .pointer (some ⟨bx + 1, 0, none⟩)], .slice (some ⟨g, 4 * x.1, none⟩) 4 4, undef, undef, undef, undef, undef, undef, undef, undef, undef, undef, undef, undef, undef], defers := [] })
    (fun x a' _ A B row hs hg hr => hs)
    ?assign ?body ?done ?stop
  case assign =>
    rintro l pre x V K hI hK
    dsimp only [cItv]
    gi_wp2
    exact hK _ _ (KeepsFrom.refl _ _) (fun hq => hq) hI rfl
  case body =>
    rintro l pre x a' V hl ⟨r, hr⟩ ⟨⟨⟨v, h1, h2⟩, h3, h4⟩, hB⟩ rfl hlt
    obtain ⟨va, vL, vc, rfl⟩ := own_slice h2
    obtain ⟨i4, hi4, hz4, hs4, hb4⟩ := sqInfo
    have h4x := h4 x.1 x.2
    have hfill := sq_fillA (rk W x.1)
    have HS := Lib.hid (sqF_snoc W pre x)
    have HF := Lib.hid hfill
    have HI4 := Lib.hid hi4
    have HZ4 := Lib.hid hz4
    have HS4 := Lib.hid hs4
    have HB4 := Lib.hid hb4
    obtain ⟨q, hq⟩ : ∃ q, q = 4 * x.1 := ⟨_, rfl⟩
    obtain ⟨k, hk⟩ : ∃ k, k = pre.length := ⟨_, rfl⟩
    have hkl : k < len := by omega
    obtain ⟨F, hF⟩ : ∃ F, F = sqF W pre := ⟨_, rfl⟩
    obtain ⟨R, hR⟩ : ∃ R, R = rk W x.1 := ⟨_, rfl⟩
    rw [← hF, ← hR] at HS
    rw [← hR] at HF
    rw [← hq, ← hR] at h4x
    rw [← hk, ← hF] at h2
    have HK := Lib.hid hk
    have H1 := Lib.hid h1
    have H2 := Lib.hid h2
    have H3 := Lib.hid h3
    have H4 := Lib.hid h4
    have H4X := Lib.hid h4x
    have HB := Lib.hid hB
    have HWRS := Lib.hid (show WR.heap.size ≤ V.heap.size by have := (Array.getElem?_eq_some_iff.1 hr).1; omega)
    rw [← hq]
    clear h1 h2 h3 h4 h4x hfill hi4 hz4 hs4 hb4 hq hk hF hR hB hl hlt
    gi_wp2
    refine round_held (fun U => U.cell? ⟨pc, 0, none⟩ = some (.pointer (some ⟨cb, 0, none⟩)) ∧ U.rangeAt g q (sqL4 R)) (by kernel_rfl) (by kernel_rfl) (fun ⟨_, _, h⟩ => h) ?_
    have hHeld : V.drew.cell? ⟨pc, 0, none⟩ = some (.pointer (some ⟨cb, 0, none⟩)) ∧ V.drew.rangeAt g q (sqL4 R) := ⟨H3.out, H4X.out⟩
    refine wpAnyH_take (i := 0) (oi := { dst := some 43, op := Go.Op.load 133 (Go.Operand.tmp 6), type := 133, pos := "cipher.go:129", after := #[], guard := none }) (v := ?v0b1) rfl (by kernel_rfl) (by kernel_rfl) (by kernel_rfl) (fun _ _ _ h => h) (Or.inl ⟨by rfl, ?hy0b1⟩) hHeld ?rest0b1
    case hy0b1 =>
      intro W' hV
      try dsimp only at hV
      have hcc := hV.1
      go_simp
      all_goals with_reducible rfl
    case' rest0b1 => try simp only [Act.put, List.setIfInBounds_toArray, List.set_cons_zero, List.set_cons_succ]
    refine wpAnyH_take (i := 1) (oi := { dst := some 44, op := Go.Op.load 133 (Go.Operand.tmp 6), type := 133, pos := "cipher.go:129", after := #[], guard := none }) (v := ?v1b2) rfl (by kernel_rfl) (by kernel_rfl) (by kernel_rfl) (fun _ _ _ h => h) (Or.inl ⟨by rfl, ?hy1b2⟩) hHeld ?rest1b2
    case hy1b2 =>
      intro W' hV
      try dsimp only at hV
      have hcc := hV.1
      go_simp
      all_goals with_reducible rfl
    case' rest1b2 => try simp only [Act.put, List.setIfInBounds_toArray, List.set_cons_zero, List.set_cons_succ]
    refine wpAnyH_take (i := 2) (oi := { dst := some 45, op := Go.Op.nilCheck (Go.Operand.tmp 44), type := 0, pos := "cipher.go:129", after := #[{ on := 1, ground := Go.Ground.data }], guard := none }) (v := ?v2b3) rfl (by kernel_rfl) (by kernel_rfl) (by kernel_rfl) (fun _ _ _ h => h) (Or.inl ⟨by rfl, ?hy2b3⟩) hHeld ?rest2b3
    case hy2b3 =>
      intro W' hV
      try dsimp only at hV
      go_simp
      all_goals with_reducible rfl
    case' rest2b3 => try simp only [Act.put, List.setIfInBounds_toArray, List.set_cons_zero, List.set_cons_succ]
    refine wpAnyH_take (i := 3) (oi := { dst := some 46, op := Go.Op.fieldAddr 155 (Go.Operand.tmp 45) 0, type := 0, pos := "cipher.go:129", after := #[{ on := 2, ground := Go.Ground.data }], guard := none }) (v := ?v3b4) rfl (by kernel_rfl) (by kernel_rfl) (by kernel_rfl) (fun _ _ _ h => h) (Or.inl ⟨by rfl, ?hy3b4⟩) hHeld ?rest3b4
    case hy3b4 =>
      intro W' hV
      try dsimp only at hV
      go_simp
      all_goals with_reducible rfl
    case' rest3b4 => try simp only [Act.put, List.setIfInBounds_toArray, List.set_cons_zero, List.set_cons_succ]
    refine wpAnyH_take (i := 5) (oi := { dst := some 48, op := Go.Op.move (Go.Operand.tmp 7), type := 160, pos := "cipher.go:129", after := #[], guard := none }) (v := ?v5b5) rfl (by kernel_rfl) (by kernel_rfl) (by kernel_rfl) (fun _ _ _ h => h) (Or.inl ⟨by rfl, ?hy5b5⟩) hHeld ?rest5b5
    case hy5b5 =>
      intro W' hV
      try dsimp only at hV
      go_simp
      all_goals with_reducible rfl
    case' rest5b5 => try simp only [Act.put, List.setIfInBounds_toArray, List.set_cons_zero, List.set_cons_succ]
    refine wpAnyH_take (i := 6) (oi := { dst := some 49, op := Go.Op.sliceToArrayPointer 164 (Go.Operand.tmp 48), type := 0, pos := "cipher.go:129", after := #[{ on := 5, ground := Go.Ground.data }], guard := none }) (v := ?v6b6) rfl (by kernel_rfl) (by kernel_rfl) (by kernel_rfl) (fun _ _ _ h => h) (Or.inl ⟨by rfl, ?hy6b6⟩) hHeld ?rest6b6
    case hy6b6 =>
      intro W' hV
      try dsimp only at hV
      have hat := fun U => array_at g q 4 U
      go_simp
      all_goals with_reducible rfl
    case' rest6b6 => try simp only [Act.put, List.setIfInBounds_toArray, List.set_cons_zero, List.set_cons_succ]
    refine wpAnyH_take (i := 7) (oi := { dst := some 50, op := Go.Op.load 164 (Go.Operand.tmp 49), type := 164, pos := "cipher.go:129", after := #[{ on := 6, ground := Go.Ground.data }], guard := none }) (v := .agg (sqL4 R).toArray) rfl (by kernel_rfl) (by kernel_rfl) (by kernel_rfl) (fun _ _ _ h => h) (yieldsIf_load_mid (by rfl) 164 (.tmp 49) rfl g q (by rfl) (sqL4 R) _ (fun U hS => hS.2) Tryz.underlying164 rfl (size_sqL4 _)) hHeld ?rest7b7
    case' rest7b7 => try simp only [Act.put, List.setIfInBounds_toArray, List.set_cons_zero, List.set_cons_succ]
    have HBL := Lib.hid (Nat.le_of_lt H1.out.lt)
    refine wpAnyH_ready (rs := [4, 8]) (by kernel_rfl) (by simp) ?_
    refine AllReadyH.cons (o := { dst := some 47, op := Go.Op.load 153 (Go.Operand.tmp 46), type := 153, pos := "cipher.go:129", after := #[{ on := 3, ground := Go.Ground.data }], guard := none }) rfl (fun K' hK => ?_) (AllReadyH.cons (o := { dst := some 51, op := Go.Op.buildSlice 153 1 #[(0, Go.Operand.tmp 50)], type := 153, pos := "cipher.go:129", after := #[{ on := 7, ground := Go.Ground.data }], guard := none }) rfl (fun K' hK => ?_) AllReadyH.nil)
    · rw [if_pos (by rfl)]
      have hkc := (show V.drew.cell? ⟨cb, 0, none⟩ = some (.slice va vL vc) from cipK_cell H1.out)
      go_simp
      refine hK.out _ _ hHeld (fun hHeld1 => ?_)
      clear hK K' hHeld
      have hHeld := hHeld1
      clear hHeld1
      try simp only [Act.put, List.setIfInBounds_toArray, List.set_cons_zero, List.set_cons_succ]
      have hHeldA := hHeld
      refine wpAnyH_ready (rs := [8]) (by kernel_rfl) (by simp) ?_
      refine AllReadyH.cons (o := { dst := some 51, op := Go.Op.buildSlice 153 1 #[(0, Go.Operand.tmp 50)], type := 153, pos := "cipher.go:129", after := #[{ on := 7, ground := Go.Ground.data }], guard := none }) rfl (fun K' hK => ?_) AllReadyH.nil
      rw [if_pos (by rfl)]
      refine wp_buildSlice 153 164 1 #[(0, .tmp 50)] rfl (sqL4 R).toArray i4 (.agg noSq) rfl HI4.out HZ4.out (by rw [HS4.out]; decide) (by rw [HS4.out]; decide) (by rw [HS4.out, Array.toList_map]; exact HF.out) ?_
      refine hK.out _ _ ⟨((Below.alloc (Below.refl V.heap.size V.drew) (Nat.le_refl _) (.cells (sqL4 R).toArray 164)).cell (p := ⟨pc, 0, none⟩) (block_lt_of_cell H3.out)).trans H3.out, fun j u hu => ((Below.alloc (Below.refl V.heap.size V.drew) (Nat.le_refl _) (.cells (sqL4 R).toArray 164)).cell (p := ⟨g, q + j, none⟩) (block_lt_of_cell (H4X.out j u hu))).trans (H4X.out j u hu)⟩ (fun hHeld1 => ?_)
      clear hK K' hHeld
      have hHeld := hHeld1
      clear hHeld1
      try simp only [Act.put, List.setIfInBounds_toArray, List.set_cons_zero, List.set_cons_succ]
      obtain ⟨VA, hVA⟩ : ∃ U, U = V.drew.alloc (.cells (sqL4 R).toArray 164) := ⟨_, rfl⟩
      have HVB := Lib.hid (show Below V.heap.size V VA by rw [hVA]; exact ((Below.refl V.heap.size V).drew).alloc (Nat.le_refl _) _)
      have HVN := Lib.hid (show VA.heap[V.heap.size]? = some (.cells (sqL4 R).toArray 164 (0, 0)) by rw [hVA]; exact heap_alloc_new _ _)
      have HVO := Lib.hid (show VA.ownsRow WR.heap.size 164 4 (.slice va vL vc) k F by rw [hVA]; exact World.ownsRow.alloc (own_drewN H2.out 1) _)
      try rw [← hVA] at hHeld
      rw [← hVA]
      clear hVA
      refine wpAnyH_ready (rs := [9]) (by kernel_rfl) (by simp) ?_
      refine AllReadyH.cons (o := { dst := some 52, op := Go.Op.call { callee := Go.Callee.builtin Go.Builtin.append, args := #[Go.Operand.tmp 47, Go.Operand.tmp 51], argTypes := #[153, 153] }, type := 153, pos := "cipher.go:129", after := #[{ on := 4, ground := Go.Ground.data }, { on := 8, ground := Go.Ground.data }], guard := none }) rfl (fun K' hK => ?_) AllReadyH.nil
      rw [if_pos (by rfl)]
      refine wp_append_own _ (.tmp 47) (.tmp 51) 153 rfl WR.heap.size 164 i4 (.agg noSq) 4 16 rfl HI4.out HZ4.out HS4.out HB4.out (by rfl) (by omega) (.slice va vL vc) k F (by rfl) HVO.out ⟨V.heap.size, 0, none⟩ 1 1 (sqL4 R) (by rfl) (length_sqL4 _) (World.news_of_block HVN.out) (fun u hu => by obtain ⟨j, hj⟩ := List.mem_iff_getElem?.1 hu; rw [(get_sqL4 hj).2]; rfl) (by unfold maxLen; omega) (by omega) (by have := HVB.out.size; have := HWRS.out; omega) ?_
      intro v9 w9 ho9 hg9 _
      obtain ⟨g9, c9, rfl, hg9b, _⟩ := ho9.form (by omega)
      have HE9 := Lib.hid (show ∀ b, b < WR.heap.size → w9.heap[b]? = V.heap[b]? from fun b hb => round_same HVB.out HVO.out hg9 HWRS.out hb)
      have HO9 := Lib.hid ho9
      have HG9 := Lib.hid hg9
      have HGB := Lib.hid hg9b
      clear ho9 hg9 hg9b
      refine hK.out _ _ ⟨cell_same H3.out (HE9.out _ (by rw [HSZ.out]; have := HNX.out; omega)), range_same H4X.out (HE9.out _ (by rw [HSZ.out]; have := HNX.out; omega))⟩ (fun hHeld1 => ?_)
      clear hK K' hHeld
      have hHeld := hHeld1
      clear hHeld1
      try simp only [Act.put, List.setIfInBounds_toArray, List.set_cons_zero, List.set_cons_succ]
      refine wpAnyH_take (i := 10) (oi := { dst := some 53, op := Go.Op.nilCheck (Go.Operand.tmp 43), type := 0, pos := "cipher.go:129", after := #[{ on := 0, ground := Go.Ground.data }, { on := 0, ground := Go.Ground.phase }, { on := 1, ground := Go.Ground.phase }, { on := 2, ground := Go.Ground.phase }, { on := 3, ground := Go.Ground.phase }, { on := 4, ground := Go.Ground.phase }, { on := 5, ground := Go.Ground.phase }, { on := 6, ground := Go.Ground.phase }, { on := 7, ground := Go.Ground.phase }, { on := 8, ground := Go.Ground.phase }, { on := 9, ground := Go.Ground.phase }], guard := none }) (v := ?v10c1) rfl (by kernel_rfl) (by kernel_rfl) (by kernel_rfl) (fun _ _ _ h => h) (Or.inl ⟨by rfl, ?hy10c1⟩) hHeld ?rest10c1
      case hy10c1 =>
        intro W' hV
        try dsimp only at hV
        go_simp
        all_goals with_reducible rfl
      case' rest10c1 => try simp only [Act.put, List.setIfInBounds_toArray, List.set_cons_zero, List.set_cons_succ]
      refine wpAnyH_take (i := 11) (oi := { dst := some 54, op := Go.Op.fieldAddr 155 (Go.Operand.tmp 53) 0, type := 0, pos := "cipher.go:129", after := #[{ on := 10, ground := Go.Ground.data }, { on := 0, ground := Go.Ground.phase }, { on := 1, ground := Go.Ground.phase }, { on := 2, ground := Go.Ground.phase }, { on := 3, ground := Go.Ground.phase }, { on := 4, ground := Go.Ground.phase }, { on := 5, ground := Go.Ground.phase }, { on := 6, ground := Go.Ground.phase }, { on := 7, ground := Go.Ground.phase }, { on := 8, ground := Go.Ground.phase }, { on := 9, ground := Go.Ground.phase }], guard := none }) (v := ?v11c2) rfl (by kernel_rfl) (by kernel_rfl) (by kernel_rfl) (fun _ _ _ h => h) (Or.inl ⟨by rfl, ?hy11c2⟩) hHeld ?rest11c2
      case hy11c2 =>
        intro W' hV
        try dsimp only at hV
        go_simp
        all_goals with_reducible rfl
      case' rest11c2 => try simp only [Act.put, List.setIfInBounds_toArray, List.set_cons_zero, List.set_cons_succ]
      have HBK9 := Lib.hid (H1.out.same (HE9.out _ (by rw [HSZ.out]; have := HNX.out; omega)))
      have hkc9 := cipK_cell HBK9.out
      have hkf9 := HBK9.out.free 0
      refine wpAnyH_ready (rs := [12]) (by kernel_rfl) (by simp) ?_
      refine AllReadyH.cons (o := { dst := none, op := Go.Op.store 153 (Go.Operand.tmp 54) (Go.Operand.tmp 52), type := 0, pos := "cipher.go:129", after := #[{ on := 11, ground := Go.Ground.data }, { on := 9, ground := Go.Ground.data }, { on := 9, ground := Go.Ground.chain }, { on := 0, ground := Go.Ground.phase }, { on := 1, ground := Go.Ground.phase }, { on := 2, ground := Go.Ground.phase }, { on := 3, ground := Go.Ground.phase }, { on := 4, ground := Go.Ground.phase }, { on := 5, ground := Go.Ground.phase }, { on := 6, ground := Go.Ground.phase }, { on := 7, ground := Go.Ground.phase }, { on := 8, ground := Go.Ground.phase }, { on := 9, ground := Go.Ground.phase }], guard := none }) rfl (fun K' hK => ?_) AllReadyH.nil
      rw [if_pos (by rfl)]
      go_simp
      clear hkc9 hkf9
      refine hK.out _ _ ⟨cell_but (cell_same H3.out (HE9.out _ (by rw [HSZ.out]; have := HNX.out; omega))) (cell_set_but _ cb 0 _) HNE.out.1, rangeAt.but (range_same H4X.out (HE9.out _ (by rw [HSZ.out]; have := HNX.out; omega))) (cell_set_but _ cb 0 _) (by have := HG9.out.size; have := HVB.out.size; have := HWRS.out; have := HNX.out; have := HSZ.out; omega) (by have := HGC.out; omega)⟩ (fun hHeld1 => ?_)
      clear hK K' hHeld
      have hHeld := hHeld1
      clear hHeld1
      try simp only [Act.put, List.setIfInBounds_toArray, List.set_cons_zero, List.set_cons_succ]
      refine wpAnyH_done (by kernel_rfl) ?_ _
      clear hHeld
      gi_wp2
      have hE := HE9.out
      have hx := HNX.out
      have hsz := HSZ.out
      have hset := cell_set_but w9 cb 0 (.slice (some ⟨g9, 0, none⟩) (k + 1) c9)
      refine ⟨(KeepsFrom.of_grownBy (below_but HVB.out none) (fun j e => by cases e)).trans ((keeps_own HVO.out HG9.out).trans (KeepsFrom.of_grownBy hset (fun j e => by cases e; omega))), fun hq => ?_, ⟨⟨⟨_, cipK_set HBK9.out _, ?_⟩, cell_but (cell_same H3.out (hE _ (by omega))) hset HNE.out.1, fun y hy => rangeAt.but (range_same (H4.out y hy) (hE _ (by omega))) hset (by have := HG9.out.size; have := HVB.out.size; have := HWRS.out; have := HNX.out; have := HSZ.out; omega) (by have := HGC.out; omega)⟩, ?_⟩⟩
      · exact ⟨cell_but (cell_same hq.1 (hE _ (by omega))) hset (by omega), cell_but (cell_same hq.2 (hE _ (by omega))) hset (by omega)⟩
      · rw [List.length_append, List.length_singleton, HS.out, ← HK.out]
        exact HO9.out.kept hset (Or.inr (fun e => by have h9 := HGB.out; have e2 : g9 = cb := Option.some.inj e; omega))
      · exact (HB.out.trans ((HVB.out).mono HB.out.size)).grown HG9.out (by have := HVB.out.size; have := HB.out.size; omega) (fun j e => by have := (HVO.out.lt j e).1; have := HBR.out.size; omega) |>.grown hset (by have := HG9.out.size; have := HVB.out.size; have := HB.out.size; omega) (fun j e => by cases e; have := HNE.out.2.1; omega)
    · rw [if_pos (by rfl)]
      refine wp_buildSlice 153 164 1 #[(0, .tmp 50)] rfl (sqL4 R).toArray i4 (.agg noSq) rfl HI4.out HZ4.out (by rw [HS4.out]; decide) (by rw [HS4.out]; decide) (by rw [HS4.out, Array.toList_map]; exact HF.out) ?_
      refine hK.out _ _ ⟨((Below.alloc (Below.refl V.heap.size V.drew) (Nat.le_refl _) (.cells (sqL4 R).toArray 164)).cell (p := ⟨pc, 0, none⟩) (block_lt_of_cell H3.out)).trans H3.out, fun j u hu => ((Below.alloc (Below.refl V.heap.size V.drew) (Nat.le_refl _) (.cells (sqL4 R).toArray 164)).cell (p := ⟨g, q + j, none⟩) (block_lt_of_cell (H4X.out j u hu))).trans (H4X.out j u hu)⟩ (fun hHeld1 => ?_)
      clear hK K' hHeld
      have hHeld := hHeld1
      clear hHeld1
      try simp only [Act.put, List.setIfInBounds_toArray, List.set_cons_zero, List.set_cons_succ]
      refine wpAnyH_ready (rs := [4]) (by kernel_rfl) (by simp) ?_
      refine AllReadyH.cons (o := { dst := some 47, op := Go.Op.load 153 (Go.Operand.tmp 46), type := 153, pos := "cipher.go:129", after := #[{ on := 3, ground := Go.Ground.data }], guard := none }) rfl (fun K' hK => ?_) AllReadyH.nil
      rw [if_pos (by rfl)]
      have hkc := ((Below.alloc (Below.refl V.heap.size V.drew) (Nat.le_refl _) (.cells (sqL4 R).toArray 164)).cell (p := ⟨cb, 0, none⟩) H1.out.lt).trans (cipK_cell H1.out)
      have hkd : (V.alloc (.cells (sqL4 R).toArray 164)).cell? ⟨cb, 0, none⟩ = some (.slice va vL vc) := hkc
      go_simp
      change K' _ (V.drew.alloc (.cells (sqL4 R).toArray 164))
      refine hK.out _ _ hHeld (fun hHeld1 => ?_)
      clear hK K' hHeld
      have hHeld := hHeld1
      clear hHeld1
      try simp only [Act.put, List.setIfInBounds_toArray, List.set_cons_zero, List.set_cons_succ]
      obtain ⟨VA, hVA⟩ : ∃ U, U = V.drew.alloc (.cells (sqL4 R).toArray 164) := ⟨_, rfl⟩
      have HVB := Lib.hid (show Below V.heap.size V VA by rw [hVA]; exact ((Below.refl V.heap.size V).drew).alloc (Nat.le_refl _) _)
      have HVN := Lib.hid (show VA.heap[V.heap.size]? = some (.cells (sqL4 R).toArray 164 (0, 0)) by rw [hVA]; exact heap_alloc_new _ _)
      have HVO := Lib.hid (show VA.ownsRow WR.heap.size 164 4 (.slice va vL vc) k F by rw [hVA]; exact World.ownsRow.alloc (own_drewN H2.out 1) _)
      try rw [← hVA] at hHeld
      rw [← hVA]
      clear hVA
      refine wpAnyH_ready (rs := [9]) (by kernel_rfl) (by simp) ?_
      refine AllReadyH.cons (o := { dst := some 52, op := Go.Op.call { callee := Go.Callee.builtin Go.Builtin.append, args := #[Go.Operand.tmp 47, Go.Operand.tmp 51], argTypes := #[153, 153] }, type := 153, pos := "cipher.go:129", after := #[{ on := 4, ground := Go.Ground.data }, { on := 8, ground := Go.Ground.data }], guard := none }) rfl (fun K' hK => ?_) AllReadyH.nil
      rw [if_pos (by rfl)]
      refine wp_append_own _ (.tmp 47) (.tmp 51) 153 rfl WR.heap.size 164 i4 (.agg noSq) 4 16 rfl HI4.out HZ4.out HS4.out HB4.out (by rfl) (by omega) (.slice va vL vc) k F (by rfl) HVO.out ⟨V.heap.size, 0, none⟩ 1 1 (sqL4 R) (by rfl) (length_sqL4 _) (World.news_of_block HVN.out) (fun u hu => by obtain ⟨j, hj⟩ := List.mem_iff_getElem?.1 hu; rw [(get_sqL4 hj).2]; rfl) (by unfold maxLen; omega) (by omega) (by have := HVB.out.size; have := HWRS.out; omega) ?_
      intro v9 w9 ho9 hg9 _
      obtain ⟨g9, c9, rfl, hg9b, _⟩ := ho9.form (by omega)
      have HE9 := Lib.hid (show ∀ b, b < WR.heap.size → w9.heap[b]? = V.heap[b]? from fun b hb => round_same HVB.out HVO.out hg9 HWRS.out hb)
      have HO9 := Lib.hid ho9
      have HG9 := Lib.hid hg9
      have HGB := Lib.hid hg9b
      clear ho9 hg9 hg9b
      refine hK.out _ _ ⟨cell_same H3.out (HE9.out _ (by rw [HSZ.out]; have := HNX.out; omega)), range_same H4X.out (HE9.out _ (by rw [HSZ.out]; have := HNX.out; omega))⟩ (fun hHeld1 => ?_)
      clear hK K' hHeld
      have hHeld := hHeld1
      clear hHeld1
      try simp only [Act.put, List.setIfInBounds_toArray, List.set_cons_zero, List.set_cons_succ]
      refine wpAnyH_take (i := 10) (oi := { dst := some 53, op := Go.Op.nilCheck (Go.Operand.tmp 43), type := 0, pos := "cipher.go:129", after := #[{ on := 0, ground := Go.Ground.data }, { on := 0, ground := Go.Ground.phase }, { on := 1, ground := Go.Ground.phase }, { on := 2, ground := Go.Ground.phase }, { on := 3, ground := Go.Ground.phase }, { on := 4, ground := Go.Ground.phase }, { on := 5, ground := Go.Ground.phase }, { on := 6, ground := Go.Ground.phase }, { on := 7, ground := Go.Ground.phase }, { on := 8, ground := Go.Ground.phase }, { on := 9, ground := Go.Ground.phase }], guard := none }) (v := ?v10d1) rfl (by kernel_rfl) (by kernel_rfl) (by kernel_rfl) (fun _ _ _ h => h) (Or.inl ⟨by rfl, ?hy10d1⟩) hHeld ?rest10d1
      case hy10d1 =>
        intro W' hV
        try dsimp only at hV
        go_simp
        all_goals with_reducible rfl
      case' rest10d1 => try simp only [Act.put, List.setIfInBounds_toArray, List.set_cons_zero, List.set_cons_succ]
      refine wpAnyH_take (i := 11) (oi := { dst := some 54, op := Go.Op.fieldAddr 155 (Go.Operand.tmp 53) 0, type := 0, pos := "cipher.go:129", after := #[{ on := 10, ground := Go.Ground.data }, { on := 0, ground := Go.Ground.phase }, { on := 1, ground := Go.Ground.phase }, { on := 2, ground := Go.Ground.phase }, { on := 3, ground := Go.Ground.phase }, { on := 4, ground := Go.Ground.phase }, { on := 5, ground := Go.Ground.phase }, { on := 6, ground := Go.Ground.phase }, { on := 7, ground := Go.Ground.phase }, { on := 8, ground := Go.Ground.phase }, { on := 9, ground := Go.Ground.phase }], guard := none }) (v := ?v11d2) rfl (by kernel_rfl) (by kernel_rfl) (by kernel_rfl) (fun _ _ _ h => h) (Or.inl ⟨by rfl, ?hy11d2⟩) hHeld ?rest11d2
      case hy11d2 =>
        intro W' hV
        try dsimp only at hV
        go_simp
        all_goals with_reducible rfl
      case' rest11d2 => try simp only [Act.put, List.setIfInBounds_toArray, List.set_cons_zero, List.set_cons_succ]
      have HBK9 := Lib.hid (H1.out.same (HE9.out _ (by rw [HSZ.out]; have := HNX.out; omega)))
      have hkc9 := cipK_cell HBK9.out
      have hkf9 := HBK9.out.free 0
      refine wpAnyH_ready (rs := [12]) (by kernel_rfl) (by simp) ?_
      refine AllReadyH.cons (o := { dst := none, op := Go.Op.store 153 (Go.Operand.tmp 54) (Go.Operand.tmp 52), type := 0, pos := "cipher.go:129", after := #[{ on := 11, ground := Go.Ground.data }, { on := 9, ground := Go.Ground.data }, { on := 9, ground := Go.Ground.chain }, { on := 0, ground := Go.Ground.phase }, { on := 1, ground := Go.Ground.phase }, { on := 2, ground := Go.Ground.phase }, { on := 3, ground := Go.Ground.phase }, { on := 4, ground := Go.Ground.phase }, { on := 5, ground := Go.Ground.phase }, { on := 6, ground := Go.Ground.phase }, { on := 7, ground := Go.Ground.phase }, { on := 8, ground := Go.Ground.phase }, { on := 9, ground := Go.Ground.phase }], guard := none }) rfl (fun K' hK => ?_) AllReadyH.nil
      rw [if_pos (by rfl)]
      go_simp
      clear hkc9 hkf9
      refine hK.out _ _ ⟨cell_but (cell_same H3.out (HE9.out _ (by rw [HSZ.out]; have := HNX.out; omega))) (cell_set_but _ cb 0 _) HNE.out.1, rangeAt.but (range_same H4X.out (HE9.out _ (by rw [HSZ.out]; have := HNX.out; omega))) (cell_set_but _ cb 0 _) (by have := HG9.out.size; have := HVB.out.size; have := HWRS.out; have := HNX.out; have := HSZ.out; omega) (by have := HGC.out; omega)⟩ (fun hHeld1 => ?_)
      clear hK K' hHeld
      have hHeld := hHeld1
      clear hHeld1
      try simp only [Act.put, List.setIfInBounds_toArray, List.set_cons_zero, List.set_cons_succ]
      refine wpAnyH_done (by kernel_rfl) ?_ _
      clear hHeld
      gi_wp2
      have hE := HE9.out
      have hx := HNX.out
      have hsz := HSZ.out
      have hset := cell_set_but w9 cb 0 (.slice (some ⟨g9, 0, none⟩) (k + 1) c9)
      refine ⟨(KeepsFrom.of_grownBy (below_but HVB.out none) (fun j e => by cases e)).trans ((keeps_own HVO.out HG9.out).trans (KeepsFrom.of_grownBy hset (fun j e => by cases e; omega))), fun hq => ?_, ⟨⟨⟨_, cipK_set HBK9.out _, ?_⟩, cell_but (cell_same H3.out (hE _ (by omega))) hset HNE.out.1, fun y hy => rangeAt.but (range_same (H4.out y hy) (hE _ (by omega))) hset (by have := HG9.out.size; have := HVB.out.size; have := HWRS.out; have := HNX.out; have := HSZ.out; omega) (by have := HGC.out; omega)⟩, ?_⟩⟩
      · exact ⟨cell_but (cell_same hq.1 (hE _ (by omega))) hset (by omega), cell_but (cell_same hq.2 (hE _ (by omega))) hset (by omega)⟩
      · rw [List.length_append, List.length_singleton, HS.out, ← HK.out]
        exact HO9.out.kept hset (Or.inr (fun e => by have h9 := HGB.out; have e2 : g9 = cb := Option.some.inj e; omega))
      · exact (HB.out.trans ((HVB.out).mono HB.out.size)).grown HG9.out (by have := HVB.out.size; have := HB.out.size; omega) (fun j e => by have := (HVO.out.lt j e).1; have := HBR.out.size; omega) |>.grown hset (by have := HG9.out.size; have := HVB.out.size; have := HB.out.size; omega) (fun j e => by cases e; have := HNE.out.2.1; omega)
  case done =>
    rintro D ys V hD ⟨hys, hbk⟩ ⟨⟨⟨v, h1, h2⟩, h3, h4⟩, hB⟩ hK
    rw [sqF_all W ys hys hbk, hys] at h2
    have HC := Lib.hid (show Cip V cb (n + 6) W from cip_of h1 (by rw [show n + 6 + 1 = len by have := HL.out; omega]; exact h2))
    have H3 := Lib.hid h3
    have hpc := h3
    have HB := Lib.hid hB
    have HKD := Lib.hid hK
    have HDD := Lib.hid hD
    clear h1 h2 h3 h4 hB hK hD
    go_wp2
    refine ⟨by simp, .inl ⟨_, _, rfl, run_takeDeferred HKD.out, ?_⟩⟩
    refine ⟨_, results_tmp2 rfl _ _ _, cb, rfl, ?_, ?_⟩
    · rw [← HWK.out]
      obtain ⟨g9, cap9, hca⟩ := HC.out
      exact CipA.cip (CipA.noncell (show CipA V cb g9 cap9 (n + 6) W from hca) (grownBy_putObj' _ D (.deferred none)) (fun r e => by cases e; exact ⟨_, HKD.out, rfl⟩))
    · exact HB.out.trans (belowK_b (w := w) (Nat.le_refl _) _ D _ _ (by have := HBR.out.size; have := HDD.out; omega) HKD.out rfl rfl)
  case stop =>
    rintro D c pre V _ _ h _
    exact h.elim
end Go.Proofs.YtappfdbmhgifcaaGreatDoor
