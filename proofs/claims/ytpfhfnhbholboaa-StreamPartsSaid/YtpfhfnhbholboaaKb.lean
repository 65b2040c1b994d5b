/- Contracts of the cipher's tables: boxOf, undone, productBy. -/
import Derived.Test.YtpfhfnhbholboaaKa
import Derived.Test.YtpfhfnhbholboaaBlk
import Derived.Deep.WholeRow
import Derived.ChangeAlike
import Derived.BigRegion
import Derived.Deep.CutRange
import Derived.Deep.RegionWith
import Derived.Deep.DrawnRows
namespace Go.Proofs.Ytpfhfnhbholboaa
open Go.ChangeShapes Go.WideShapes Go.ChangeAt Go.RowKit
set_option linter.unusedVariables false
set_option maxRecDepth 100000

theorem Blk.tb {w : World} {b : Nat} {T : TypeId} {B : Nat → Nat} (h : Blk w b T 256 (fun j => .int .u8 ((B j : Nat) : Int))) : Tb w b 0 B := ⟨h.lt, fun j hj => by rw [Nat.zero_add]; exact h.cell hj⟩

theorem infoB : (Try.prog.info? 50).map (fun i => (i.zero, i.size)) = some (some (.agg (Array.replicate 256 (.int .u8 0))), 256) := by kernel_rfl
theorem infoPr : (Try.prog.info? 54).map (fun i => (i.zero, i.size)) = some (some (.agg (Array.replicate 256 (.int .u32 0))), 256) := by kernel_rfl
theorem size_box : (Try.prog.info? 50).map (·.size) = some 256 := by kernel_rfl
/-- The box behind n of the sums. -/
def affp (v : Nat) : Nat → Nat
  | 0 => 99
  | n + 1 => affp v n ^^^ rot 8 v n
theorem affp_lt {v : Nat} (hv : v < 256) : ∀ n, affp v n < 256
  | 0 => by show 99 < 256; omega
  | n + 1 => xor_lt (affp_lt hv n) (rot_lt (k := 8) hv)
theorem k_affp : allLt 256 (fun v => affp v 5 == aff v) = true := by decide +kernel
theorem affp_all {v : Nat} (h : v < 256) : affp v 5 = aff v := by have := allLt_at k_affp v h; simpa using this
def boxI (i j : Nat) : Value := .int .u8 (((if j < i then box j else 0 : Nat)) : Int)
def boxJ (i x n j : Nat) : Value := .int .u8 (((if j = i then affp x n else if j < i then box j else 0 : Nat)) : Int)
theorem mk8 {x : Int} (h0 : 0 ≤ x) (h1 : x < 256) : (Lit.int .u8 x).wf = true := by simp [Lit.wf, IntKind.min, IntKind.max, IntKind.signed, IntKind.bits]; omega
theorem mk32 {x : Int} (h0 : 0 ≤ x) (h1 : x < 4294967296) : (Lit.int .u32 x).wf = true := by simp [Lit.wf, IntKind.min, IntKind.max, IntKind.signed, IntKind.bits]; omega
theorem mk64 {x : Int} (h0 : -9223372036854775808 ≤ x) (h1 : x ≤ 9223372036854775807) : (Lit.int .i64 x).wf = true := by simp [Lit.wf, IntKind.min, IntKind.max, IntKind.signed, IntKind.bits]; omega
theorem add_N (x y : Nat) (hx : x < 256) (hy : y < 256) (w : World) : Calls Try.prog 42 #[.int .u8 (x : Nat), .int .u8 (y : Nat)] w fun e w' => e = .returned (.int .u8 ((x ^^^ y : Nat) : Int)) ∧ w = w' :=
  add_I (x : Nat) (y : Nat) (by omega) (by omega) w
theorem turn8_N (x n : Nat) (hx : x < 256) (hn : n < 8) (w : World) : Calls Try.prog 43 #[.int .u8 (x : Nat), .int .i64 (n : Nat)] w fun e w' => e = .returned (.int .u8 ((rot 8 x n : Nat) : Int)) ∧ ∃ j, w' = w.drewN j := by
  refine (turn8 (x : Nat) (n : Nat) (mk8 (by omega) (by omega)) (mk64 (by omega) (by omega)) w).mono fun e w' ⟨h1, h2⟩ => ⟨?_, h2⟩
  rw [h1]
  refine ret_int ?_
  unfold rotI
  have e1 : ((n : Int) % ((8 : Nat) : Int)).toNat = n := by omega
  rw [e1, Int.toNat_natCast]
theorem inv_any (b x : Nat) (w : World) (hf : Fld w b) (hx : x < 256) : Calls Try.prog 41 #[.pointer (some ⟨b, 0, none⟩), .int .u8 (x : Nat)] w fun e w' => ∃ c : Int, e = .returned (.tuple #[.int .u8 ((inv x : Nat) : Int), .int .i64 c]) ∧ w = w' := by
  by_cases h0 : x = 0
  · subst h0
    exact (inv_zero b w).mono fun e w' ⟨h1, h2⟩ => ⟨7, h1, h2⟩
  · exact (inv_ok b x w hf hx h0).mono fun e w' ⟨h1, h2⟩ => ⟨0, h1, h2⟩
set_option maxHeartbeats 1000000 in
theorem boxOf_any (fb : Nat) (w : World) (hf : Fld w fb) :
    Calls Try.prog 23 #[.pointer (some ⟨fb, 0, none⟩)] w fun e w' => e = .returned (.agg (tabV 256 fun j => .int .u8 ((box j : Nat) : Int))) ∧ Below w.heap.size w w' := by
  obtain ⟨hz, hi⟩ := zero_of_info infoB
  rw [replicate_tabV] at hz
  obtain ⟨c0, hc0⟩ : ∃ c0 : Array Value, c0 = tabV 256 fun _ => .int .u8 0 := ⟨_, rfl⟩
  rw [← hc0] at hz
  have hsz : c0.size = 256 := by rw [hc0, size_tabV]
  have h1 : c0.all (·.oneCell') = true := by rw [hc0]; exact tabV_one fun _ => rfl
  obtain ⟨W0, hW0⟩ : ∃ W, W = w.alloc (.cells c0 50) := ⟨_, rfl⟩
  have hs0 : W0.heap.size = w.heap.size + 1 := by rw [hW0]; simp
  have HR0 := Lib.hid (show Blk W0 w.heap.size 50 256 (fun _ => .int .u8 0) by rw [hW0, hc0]; exact Blk.made _ _ _ _)
  have HB0 := Lib.hid (show Below w.heap.size w W0 by rw [hW0]; exact (Below.refl _ _).alloc (Nat.le_refl _) _)
  have hsc : (storeCells ⟨w.heap.size + 1, 0, none⟩ c0.toList 0).run Try.prog (W0.alloc (.cells c0 50)) = .ok () (W0.alloc (.cells c0 50)) := by
    have h := run_storeCells_new (P := Try.prog) W0 50 c0 c0 (by rw [hi, hsz]) rfl h1
    rw [hs0] at h
    exact h
  rw [hW0] at hsc
  have HF := Lib.hid (hf.below HB0.out)
  have HC0 := Lib.hid hc0
  have HW0 := Lib.hid hW0
  have HS0 := Lib.hid hs0
  clear hc0 hf hi h1 hW0 hs0
  go_enter Try.func23, Try.ntmps23
  go_wp2_with fail
  clear hsc hz hsz
  rw [← HW0.out, ← HS0.out]
  obtain ⟨b2, hb2⟩ : ∃ b, b = w.heap.size := ⟨_, rfl⟩
  obtain ⟨b3, hb3⟩ : ∃ b, b = W0.heap.size := ⟨_, rfl⟩
  have HBK := Lib.hid (show Blk (W0.alloc (.cells c0 50)) b3 50 256 (boxI 0) by
    rw [HC0.out, hb3]
    exact (Blk.made _ _ _ _).congr fun j hj => by unfold boxI; rw [if_neg (by omega)]; rfl)
  rw [← hb2] at HR0
  have HBE := Lib.hid (show Below b3 W0 (W0.alloc (.cells c0 50)) by rw [hb3]; exact (Below.refl _ _).alloc (Nat.le_refl _) _)
  have HLT := Lib.hid (show b2 < b3 by rw [hb2, hb3, HS0.out]; omega)
  have HLE := Lib.hid (show W0.heap.size ≤ b3 by rw [hb3]; exact Nat.le_refl _)
  rw [← hb2, ← hb3]
  have HB2 := Lib.hid hb2
  clear hb2 hb3 HC0 HS0 HW0
  go_loopw [9] (fun s wr => ∃ i : Nat, i ≤ 256 ∧ s = .int .i64 (i : Nat) ∧ Blk wr b3 50 256 (boxI i) ∧ Below b3 W0 wr) (fun s _ => 256 - (intOf s).toNat)
  case atStart => exact ⟨0, by omega, rfl, HBK.out, HBE.out⟩
  case round =>
    obtain ⟨i, hi, rfl, hK, hB⟩ := hrel
    have HK := Lib.hid hK
    have HB := Lib.hid hB
    clear hK hB HBK HBE
    by_cases hlt : i < 256
    · have qi : (i : Int) < 256 := by omega
      have qi0 : (0 : Int) ≤ (i : Int) := by omega
      have qw : IntKind.u8.wrap (i : Int) = (i : Int) := by rw [IntKind.wrap_u8]; omega
      have hfr := HK.out.free i
      have hcell0 := HK.out.cell hlt
      have HINV := Lib.hid (inv_any fb i _ ((HF.out.below (HB.out.mono (by have := HLE.out; omega)))) hlt)
      rename World => wr
      go_upto_region 8 with (go_at_call 41; refine HINV.out.mono ?_; rintro e w' ⟨c, rfl, rfl⟩)
      have hxl := inv_lt i
      obtain ⟨x, hx⟩ : ∃ x, x = inv i := ⟨_, rfl⟩
      rw [← hx] at hxl ⊢
      have HX := Lib.hid hx
      have HK8 := Lib.hid ((HK.out.set hlt (.int .u8 99)).congr (h := boxJ i x 0) fun j hj => by
        unfold boxJ boxI
        by_cases e : j = i
        · rw [if_pos e, if_pos e]; rfl
        · rw [if_neg e, if_neg e])
      have HB8 := Lib.hid (HB.out.setCell (p := ⟨b3, i, none⟩) (Nat.le_refl _) (.int .u8 99))
      clear hx hfr hcell0
      go_loopw [21] (fun s W => ∃ n : Nat, n ≤ 5 ∧ s = .int .i64 (n : Nat) ∧ Blk W b3 50 256 (boxJ i x n) ∧ Below b3 W0 W) (fun s _ => 5 - (intOf s).toNat)
      case atStart => exact ⟨0, by omega, rfl, HK8.out, HB8.out⟩
      case round =>
        obtain ⟨n, hn, rfl, hK, hB⟩ := hrel
        have HKn := Lib.hid hK
        have HBn := Lib.hid hB
        clear hK hB
        rename World => W
        by_cases hln : n < 5
        · have hcell := HKn.out.cell hlt
          have hcell2 : W.cell? ⟨b3, i, none⟩ = some (.int .u8 ((affp x n : Nat) : Int)) := by rw [hcell]; unfold boxJ; rw [if_pos rfl]
          have hfr := HKn.out.free i
          have hp := affp_lt hxl n
          have hr := rot_lt (k := 8) (s := n) hxl
          have hstep : affp x (n + 1) = affp x n ^^^ rot 8 x n := rfl
          have HST := Lib.hid hstep
          have HTU := Lib.hid (turn8_N x n hxl (by omega))
          obtain ⟨u, hu⟩ : ∃ u, u = affp x n := ⟨_, rfl⟩
          obtain ⟨v, hv⟩ : ∃ v, v = rot 8 x n := ⟨_, rfl⟩
          rw [← hu] at hcell2 hp HST
          rw [← hv] at hr HST HTU
          have qn : (n : Int) < 5 := by omega
          clear hcell hu hv hstep
          go_wp2_with fail
          go_region_with (first
            | (go_at_call 43; refine (HTU.out _).mono ?_; rintro e w' ⟨rfl, q, rfl⟩)
            | (go_at_call 42; refine (add_N u v hp hr _).mono ?_; rintro e w' ⟨rfl, rfl⟩))
          all_goals
            go_wp2
            go_roundw
            case rel =>
              refine ⟨n + 1, by omega, by go_num, ((HKn.out.drewN _).set hlt _).congr fun j hj => ?_, (below_drewN HBn.out _).setCell (p := ⟨b3, i, none⟩) (Nat.le_refl _) _⟩
              unfold boxJ
              by_cases e : j = i
              · rw [if_pos e, if_pos e, HST.out]
              · rw [if_neg e, if_neg e, if_neg e]
            case measure => simp [intOf]; omega
        · obtain rfl : n = 5 := by omega
          have HKN := Lib.hid (HKn.out.congr (h := boxI (i + 1)) fun j hj => by
            unfold boxJ boxI
            by_cases e : j = i
            · rw [if_pos e, if_pos (by omega), affp_all hxl, HX.out, e]; rfl
            · rw [if_neg e]
              by_cases e2 : j < i
              · rw [if_pos e2, if_pos (by omega)]
              · rw [if_neg e2, if_neg (by omega)])
          go_wp2
          go_roundw
          case rel => exact ⟨i + 1, by omega, by go_num, HKN.out, HBn.out⟩
          case measure => simp [intOf]; omega
    · obtain rfl : i = 256 := by omega
      rename World => wr
      have HK3 := Lib.hid (HK.out.congr (h := fun j => .int .u8 ((box j : Nat) : Int)) fun j hj => by unfold boxI; rw [if_pos hj])
      have HR2 := Lib.hid (HR0.out.on HB.out HLT.out)
      have hone : (tabV 256 fun j => (Value.int .u8 ((box j : Nat) : Int))).all (·.oneCell') = true := tabV_one fun _ => rfl
      have hsi : (Try.prog.info? 50).map (·.size) = some (tabV 256 fun j => (Value.int .u8 ((box j : Nat) : Int))).size := by rw [size_tabV]; exact size_box
      have hso : (tabV 256 fun _ => (Value.int .u8 0)).size = (tabV 256 fun j => (Value.int .u8 ((box j : Nat) : Int))).size := by rw [size_tabV, size_tabV]
      have HR3 := Lib.hid (HR2.out.row (fun j => .int .u8 ((box j : Nat) : Int)))
      have HBF := Lib.hid (show Below w.heap.size w (wr.setRow b2 (tabV 256 fun j => .int .u8 ((box j : Nat) : Int))) from by
        have h1 : Below w.heap.size w wr := HB0.out.trans (HB.out.mono (by have := HLT.out; rw [HB2.out] at this; omega))
        exact below_setRow h1 (by rw [HB2.out]; exact Nat.le_refl _) _)
      obtain ⟨cs, hcs⟩ : ∃ cs, cs = tabV 256 fun j => (Value.int .u8 ((box j : Nat) : Int)) := ⟨_, rfl⟩
      unfold Blk at HK3 HR3
      rw [← hcs] at HK3 HR3 HBF hone hsi hso
      have HCS := Lib.hid hcs
      have HS1 := Lib.hid hsi
      have HS2 := Lib.hid hso
      have HS3 := Lib.hid hone
      clear hcs hsi hso hone
      go_wp2_with (first
        | ((with_reducible show wpList _ _ _ (⟨some 35, _, _, _, _, _⟩ :: _) _ _); refine wpList_load_row rfl 50 (.tmp 3) rfl b3 rfl _ cs _ _ HK3.out Try.underlying50 rfl HS1.out ?_)
        | ((with_reducible show wpList _ _ _ (⟨none, _, _, _, _, _⟩ :: _) _ _); refine wpList_store_row rfl 50 (.tmp 2) (.tmp 35) rfl b2 cs rfl rfl _ _ HR2.out HS1.out HS2.out HS3.out ?_))
      refine bodyPost_ret (v := .agg cs) (results_cell_row rfl _ _ b2 _ cs _ _ rfl HR3.out Try.underlying50 rfl HS1.out) rfl ⟨by rw [HCS.out], HBF.out⟩
end Go.Proofs.Ytpfhfnhbholboaa
