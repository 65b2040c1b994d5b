/- Texts of mine, one behind the other: Is It Iu Iv. -/
import Derived.Test.YtkfdcdfaikkneaaGreatDoorDE
import Derived.Test.YtkfdcdfaikkneaaGreatDoorDD
import Derived.Test.YtkfdcdfaikkneaaGreatDoorDA
import Derived.Test.YtkfdcdfaikkneaaGreatDoorQH
import Derived.Test.YtkfdcdfaikkneaaGreatDoorDG
import Derived.Laws.Cover1
/- Supers, plain: their bytes, what they are parsed to, their cells. -/
namespace Go.Proofs.YtkfdcdfaikkneaaGreatDoor
open Go.ChangeShapes Go.WideShapes Go.ChangeAt Go.RowKit Go.Shelf
set_option linter.unusedVariables false
set_option linter.unusedSimpArgs false

def u32I (x : Int) : Prop := 0 ≤ x ∧ x < 4294967296
structure SU where
  nm : List Int
  p : Int
  n : Int
  t : Int
  m : Int
  c : Int
  bl : Int
  bo : Int
  ep : Int
  inn : List Bool
  rf : Int
  sc : Int
  tg : Int
  rs : Int
structure SU.Wf (P : SU) : Prop where
  nm : P.nm.length = 8 ∧ AllB P.nm
  p : byteI P.p
  n : byteI P.n
  t : byteI P.t
  m : byteI P.m
  c : byteI P.c
  bl : u32I P.bl
  bo : u32I P.bo
  ep : u32I P.ep
  inn : P.inn.length = 256
  rf : u32I P.rf
  sc : u32I P.sc
  tg : byteI P.tg
  rs : u32I P.rs
def SU.Ok1 (P : SU) : Prop := 1 ≤ P.p ∧ P.p ≤ P.n ∧ 1 ≤ P.t ∧ P.t ≤ P.n ∧ P.m < 2 ∧ P.c ≤ 127
def SU.Ok2 (P : SU) : Prop := P.inn.getD 0 false = false ∧ (P.inn.drop (P.n.toNat + 1)).all (fun x => !x) = true
def SU.Ok3 (P : SU) : Prop := 1 ≤ P.bl ∧ P.bl ≤ 1024 ∧ P.rf ≤ P.bl + 1 ∧ P.sc ≤ P.bl + 1 ∧ P.rs ≤ P.bl + 1 ∧ P.tg ≤ P.n
instance (P : SU) : Decidable P.Ok1 := by unfold SU.Ok1; infer_instance
instance (P : SU) : Decidable P.Ok2 := by unfold SU.Ok2; infer_instance
instance (P : SU) : Decidable P.Ok3 := by unfold SU.Ok3; infer_instance
/-- Is all within its bounds? -/
def SU.Ok (P : SU) : Prop := P.Ok1 ∧ P.Ok2 ∧ P.Ok3
instance (P : SU) : Decidable P.Ok := by unfold SU.Ok; infer_instance
/-- All ahead of the sum. -/
def SU.H (P : SU) : List Int := [76, 85] ++ (P.nm ++ ([P.p, P.n, P.t, P.m, P.c] ++ (be 4 P.bl ++ (be 4 P.bo ++ (be 4 P.ep ++ (packL P.inn ++ (be 4 P.rf ++ (be 4 P.sc ++ ([P.tg] ++ be 4 P.rs)))))))))
theorem SU.H_len {P : SU} (h : P.Wf) : P.H.length = 72 := by
  simp only [SU.H, List.length_append, List.length_cons, List.length_nil, length_be, length_packL, h.nm.1, h.inn]
theorem allB_one {x : Int} (h : byteI x) : AllB [x] := fun y hy => by rw [List.mem_singleton.1 hy]; exact h
theorem allB_consB {x : Int} {l : List Int} (h : byteI x) (hl : AllB l) : AllB (x :: l) := fun y hy => by
  rcases List.mem_cons.1 hy with rfl | hy
  · exact h
  · exact hl y hy
theorem packL_B (l : List Bool) : AllB (packL l) := fun y hy => by
  unfold packL rowK at hy
  obtain ⟨j, _, rfl⟩ := List.mem_map.1 hy
  have := byteK_lt l l.length j
  omega
theorem SU.H_B {P : SU} (h : P.Wf) : AllB P.H :=
  allB_app2 (allB_consB (by unfold byteI; omega) (allB_one (by unfold byteI; omega))) (allB_app2 h.nm.2 (allB_app2 (allB_consB h.p (allB_consB h.n (allB_consB h.t (allB_consB h.m (allB_one h.c))))) (allB_app2 (allB_be _ _) (allB_app2 (allB_be _ _) (allB_app2 (allB_be _ _) (allB_app2 (packL_B _) (allB_app2 (allB_be _ _) (allB_app2 (allB_be _ _) (allB_app2 (allB_one h.tg) (allB_be _ _))))))))))
/-- What stands from a place on. -/
structure SU.At (b : List Int) (P : SU) : Prop where
  e2 : ∃ r, b.drop 2 = P.nm ++ r
  e10 : b.getD 10 0 = P.p
  e11 : b.getD 11 0 = P.n
  e12 : b.getD 12 0 = P.t
  e13 : b.getD 13 0 = P.m
  e14 : b.getD 14 0 = P.c
  e15 : ∃ r, b.drop 15 = be 4 P.bl ++ r
  e19 : ∃ r, b.drop 19 = be 4 P.bo ++ r
  e23 : ∃ r, b.drop 23 = be 4 P.ep ++ r
  e27 : ∃ r, b.drop 27 = packL P.inn ++ r
  e59 : ∃ r, b.drop 59 = be 4 P.rf ++ r
  e63 : ∃ r, b.drop 63 = be 4 P.sc ++ r
  e67 : b.getD 67 0 = P.tg
  e68 : ∃ r, b.drop 68 = be 4 P.rs ++ r
theorem getD_drop0 (b : List Int) (k : Nat) : b.getD k 0 = (b.drop k).getD 0 0 := by simp [List.getD_eq_getElem?_getD, List.getElem?_drop]
theorem SU.at_H {P : SU} (h : P.Wf) (r : List Int) : SU.At (P.H ++ r) P := by
  have f2 : (P.H ++ r).drop 2 = P.nm ++ ([P.p, P.n, P.t, P.m, P.c] ++ (be 4 P.bl ++ (be 4 P.bo ++ (be 4 P.ep ++ (packL P.inn ++ (be 4 P.rf ++ (be 4 P.sc ++ ([P.tg] ++ (be 4 P.rs ++ r))))))))) := by
    unfold SU.H; simp only [List.append_assoc]; rfl
  have f10 : (P.H ++ r).drop 10 = [P.p, P.n, P.t, P.m, P.c] ++ (be 4 P.bl ++ (be 4 P.bo ++ (be 4 P.ep ++ (packL P.inn ++ (be 4 P.rf ++ (be 4 P.sc ++ ([P.tg] ++ (be 4 P.rs ++ r)))))))) := by
    rw [show (10 : Nat) = 2 + 8 from rfl, ← List.drop_drop, f2]; exact drop_lit h.nm.1
  have f15 : (P.H ++ r).drop 15 = be 4 P.bl ++ (be 4 P.bo ++ (be 4 P.ep ++ (packL P.inn ++ (be 4 P.rf ++ (be 4 P.sc ++ ([P.tg] ++ (be 4 P.rs ++ r))))))) := by
    rw [show (15 : Nat) = 10 + 5 from rfl, ← List.drop_drop, f10]; exact drop_lit rfl
  have f19 : (P.H ++ r).drop 19 = be 4 P.bo ++ (be 4 P.ep ++ (packL P.inn ++ (be 4 P.rf ++ (be 4 P.sc ++ ([P.tg] ++ (be 4 P.rs ++ r)))))) := by
    rw [show (19 : Nat) = 15 + 4 from rfl, ← List.drop_drop, f15]; exact drop_lit (length_be _ _)
  have f23 : (P.H ++ r).drop 23 = be 4 P.ep ++ (packL P.inn ++ (be 4 P.rf ++ (be 4 P.sc ++ ([P.tg] ++ (be 4 P.rs ++ r))))) := by
    rw [show (23 : Nat) = 19 + 4 from rfl, ← List.drop_drop, f19]; exact drop_lit (length_be _ _)
  have f27 : (P.H ++ r).drop 27 = packL P.inn ++ (be 4 P.rf ++ (be 4 P.sc ++ ([P.tg] ++ (be 4 P.rs ++ r)))) := by
    rw [show (27 : Nat) = 23 + 4 from rfl, ← List.drop_drop, f23]; exact drop_lit (length_be _ _)
  have f59 : (P.H ++ r).drop 59 = be 4 P.rf ++ (be 4 P.sc ++ ([P.tg] ++ (be 4 P.rs ++ r))) := by
    rw [show (59 : Nat) = 27 + 32 from rfl, ← List.drop_drop, f27]; exact drop_lit (by rw [length_packL, h.inn])
  have f63 : (P.H ++ r).drop 63 = be 4 P.sc ++ ([P.tg] ++ (be 4 P.rs ++ r)) := by
    rw [show (63 : Nat) = 59 + 4 from rfl, ← List.drop_drop, f59]; exact drop_lit (length_be _ _)
  have f67 : (P.H ++ r).drop 67 = [P.tg] ++ (be 4 P.rs ++ r) := by
    rw [show (67 : Nat) = 63 + 4 from rfl, ← List.drop_drop, f63]; exact drop_lit (length_be _ _)
  have f68 : (P.H ++ r).drop 68 = be 4 P.rs ++ r := by
    rw [show (68 : Nat) = 67 + 1 from rfl, ← List.drop_drop, f67]; exact drop_lit rfl
  have g (k : Nat) : (P.H ++ r).getD (10 + k) 0 = ((P.H ++ r).drop 10).getD k 0 := by simp [List.getD_eq_getElem?_getD, List.getElem?_drop]
  exact ⟨⟨_, f2⟩, by rw [g 0, f10]; rfl, by rw [g 1, f10]; rfl, by rw [g 2, f10]; rfl, by rw [g 3, f10]; rfl, by rw [g 4, f10]; rfl, ⟨_, f15⟩, ⟨_, f19⟩, ⟨_, f23⟩, ⟨_, f27⟩, ⟨_, f59⟩, ⟨_, f63⟩, by rw [getD_drop0, f67]; rfl, ⟨_, f68⟩⟩
/-- What bytes would be parsed to. -/
def psuR (b : List Int) : SU := ⟨(b.drop 2).take 8, b.getD 10 0, b.getD 11 0, b.getD 12 0, b.getD 13 0, b.getD 14 0, nb b 15 4, nb b 19 4, nb b 23 4, unpackL ((b.drop 27).take 32) 256, nb b 59 4, nb b 63 4, b.getD 67 0, nb b 68 4⟩
theorem SU.At.eq {b : List Int} {P : SU} (k : SU.At b P) (h : P.Wf) : psuR b = P := by
  obtain ⟨⟨r2, e2⟩, e10, e11, e12, e13, e14, ⟨r15, e15⟩, ⟨r19, e19⟩, ⟨r23, e23⟩, ⟨r27, e27⟩, ⟨r59, e59⟩, ⟨r63, e63⟩, e67, ⟨r68, e68⟩⟩ := k
  unfold psuR
  rw [e2, take_lit h.nm.1, e10, e11, e12, e13, e14, nb_be e15 h.bl.1 h.bl.2, nb_be e19 h.bo.1 h.bo.2, nb_be e23 h.ep.1 h.ep.2, e27, take_lit (by rw [length_packL, h.inn]), nb_be e59 h.rf.1 h.rf.2, nb_be e63 h.sc.1 h.sc.2, e67, nb_be e68 h.rs.1 h.rs.2]
  have := unpack_pack P.inn
  rw [h.inn] at this
  rw [this]
theorem nb_u32 {b : List Int} (h : AllB b) (k : Nat) : u32I (nb b k 4) := nb_bound h k 4
theorem psuR_wf {b : List Int} (h : AllB b) (hl : b.length = 512) : (psuR b).Wf :=
  ⟨⟨by simp [psuR, hl], (h.dropB 2).takeB 8⟩, byte_getD h 10, byte_getD h 11, byte_getD h 12, byte_getD h 13, byte_getD h 14, nb_u32 h 15, nb_u32 h 19, nb_u32 h 23, length_unpackL _ _, nb_u32 h 59, nb_u32 h 63, byte_getD h 67, nb_u32 h 68⟩
/-- Its cells. -/
def suV (P : SU) (j : Nat) : Value :=
  if j < 8 then .int .u8 (P.nm.getD j 0) else if j = 8 then .int .u8 P.p else if j = 9 then .int .u8 P.n else if j = 10 then .int .u8 P.t else if j = 11 then .int .u8 P.m else if j = 12 then .int .u8 P.c
  else if j = 13 then .int .u32 P.bl else if j = 14 then .int .u32 P.bo else if j = 15 then .int .u32 P.ep else if j < 272 then .bool (P.inn.getD (j - 16) false)
  else if j = 272 then .int .u32 P.rf else if j = 273 then .int .u32 P.sc else if j = 274 then .int .u8 P.tg else .int .u32 P.rs
theorem ite_one {c : Prop} [Decidable c] {x y : Value} (hx : x.oneCell' = true) (hy : y.oneCell' = true) : (if c then x else y).oneCell' = true := by
  by_cases h : c
  · rw [if_pos h]; exact hx
  · rw [if_neg h]; exact hy
theorem suV_one (P : SU) (j : Nat) : (suV P j).oneCell' = true := by
  unfold suV
  iterate 13 (refine ite_one rfl ?_)
  rfl
theorem suV_nm (P : SU) {j : Nat} (h : j < 8) : suV P j = .int .u8 (P.nm.getD j 0) := if_pos h
theorem suV_in (P : SU) {j : Nat} (h : j < 256) : suV P (16 + j) = .bool (P.inn.getD j false) := by
  unfold suV
  rw [if_neg (by omega), if_neg (by omega), if_neg (by omega), if_neg (by omega), if_neg (by omega), if_neg (by omega), if_neg (by omega), if_neg (by omega), if_neg (by omega), if_pos (by omega), show 16 + j - 16 = j by omega]
/-- A super as a value. -/
def suA (P : SU) : Value := .agg (tabV 276 (suV P))
def suZ : SU := ⟨List.replicate 8 0, 0, 0, 0, 0, 0, 0, 0, 0, List.replicate 256 false, 0, 0, 0, 0⟩
end Go.Proofs.YtkfdcdfaikkneaaGreatDoor
/- Supers, plain: their sector, with the sum. -/
namespace Go.Proofs.YtkfdcdfaikkneaaGreatDoor
open Go.ChangeShapes Go.WideShapes Go.ChangeAt Go.RowKit Go.Shelf
set_option linter.unusedVariables false
set_option linter.unusedSimpArgs false

def SU.B (P : SU) : List Int := szL (P.H ++ (shaL P.H).take 8)
def SU.S (P : SU) : List Int := if P.Ok then P.B else []
def SU.E (P : SU) : Int := if P.Ok then 0 else 2
theorem SU.S_ok {P : SU} (h : P.Ok) : P.S = P.B ∧ P.E = 0 := ⟨if_pos h, if_pos h⟩
theorem SU.S_no {P : SU} (h : ¬ P.Ok) : P.S = [] ∧ P.E = 2 := ⟨if_neg h, if_neg h⟩
theorem SU.B_split (P : SU) : ∃ r, P.B = P.H ++ r := ⟨(shaL P.H).take 8 ++ List.replicate (512 - (P.H ++ (shaL P.H).take 8).length) 0, by unfold SU.B szL; rw [List.append_assoc]⟩
theorem psu_R {P : SU} (h : P.Wf) : psuR P.B = P := by
  obtain ⟨r, hr⟩ := P.B_split
  rw [hr]; exact (SU.at_H h r).eq h
/-- What a super's sector says, if it is one. -/
def chSU (P : SU) (b : List Int) : Prop := P.E = 0 ∧ P.S = b
def psu (b : List Int) : Option SU := if b.length = 512 ∧ (psuR b).Ok ∧ (psuR b).B = b then some (psuR b) else none
def psuE (b : List Int) : Int := if (psu b).isSome then 0 else 3
def psuZ (b : List Int) : SU := (psu b).getD suZ
theorem su_ok {P : SU} (hE : P.E = 0) : P.Ok := by
  unfold SU.E at hE
  by_cases h : P.Ok
  · exact h
  · rw [if_neg h] at hE; omega
theorem psu_len {b : List Int} (h : b.length ≠ 512) : psuZ b = suZ ∧ psuE b = 3 := by
  have : psu b = none := by unfold psu; exact if_neg (fun k => h k.1)
  unfold psuZ psuE; rw [this]; exact ⟨rfl, rfl⟩
theorem psu_yes {b : List Int} (hl : b.length = 512) (h : chSU (psuR b) b) : psuZ b = psuR b ∧ psuE b = 0 := by
  have ho := su_ok h.1
  have : psu b = some (psuR b) := by unfold psu; exact if_pos ⟨hl, ho, (SU.S_ok ho).1.symm.trans h.2⟩
  unfold psuZ psuE; rw [this]; exact ⟨rfl, rfl⟩
theorem psu_not {b : List Int} (h : ¬ chSU (psuR b) b) : psuZ b = suZ ∧ psuE b = 3 := by
  have : psu b = none := by unfold psu; exact if_neg (fun k => h ⟨(SU.S_ok k.2.1).2, (SU.S_ok k.2.1).1.trans k.2.2⟩)
  unfold psuZ psuE; rw [this]; exact ⟨rfl, rfl⟩
end Go.Proofs.YtkfdcdfaikkneaaGreatDoor
/- Package sector: a super's counts, known, cursors; slices.Contains of bools. -/
namespace Go.Proofs.YtkfdcdfaikkneaaGreatDoor
open Go.ChangeShapes Go.WideShapes Go.ChangeAt Go.RowKit Go.Shelf
set_option linter.unusedVariables false
set_option linter.unusedSimpArgs false
set_option maxRecDepth 100000
attribute [local go_sem] Oper.semAt_some

/-- At b lies a super. -/
def SuB (w : World) (b : Nat) (P : SU) : Prop := Blk w b 33 276 (suV P)
theorem su_box (P : SU) (w : World) : Below w.heap.size w (w.alloc (.cells (tabV 276 (suV P)) 33)) ∧ SuB (w.alloc (.cells (tabV 276 (suV P)) 33)) w.heap.size P :=
  ⟨(Below.refl _ _).alloc (Nat.le_refl _) _, Blk.made _ _ _ _⟩
theorem SuB.num {w : World} {b : Nat} {P : SU} (h : SuB w b P) : w.cell? ⟨b, 8, none⟩ = some (.int .u8 P.p) ∧ w.cell? ⟨b, 9, none⟩ = some (.int .u8 P.n) ∧ w.cell? ⟨b, 10, none⟩ = some (.int .u8 P.t) ∧ w.cell? ⟨b, 11, none⟩ = some (.int .u8 P.m) ∧ w.cell? ⟨b, 12, none⟩ = some (.int .u8 P.c) ∧
    w.cell? ⟨b, 13, none⟩ = some (.int .u32 P.bl) ∧ w.cell? ⟨b, 14, none⟩ = some (.int .u32 P.bo) ∧ w.cell? ⟨b, 15, none⟩ = some (.int .u32 P.ep) ∧ w.cell? ⟨b, 272, none⟩ = some (.int .u32 P.rf) ∧ w.cell? ⟨b, 273, none⟩ = some (.int .u32 P.sc) ∧ w.cell? ⟨b, 274, none⟩ = some (.int .u8 P.tg) ∧ w.cell? ⟨b, 275, none⟩ = some (.int .u32 P.rs) :=
  ⟨h.cell (by omega), h.cell (by omega), h.cell (by omega), h.cell (by omega), h.cell (by omega), h.cell (by omega), h.cell (by omega), h.cell (by omega), h.cell (by omega), h.cell (by omega), h.cell (by omega), h.cell (by omega)⟩
theorem SuB.inn {w : World} {b : Nat} {P : SU} (h : SuB w b P) {j : Nat} (hj : j < 256) : w.cell? ⟨b, 16 + j, none⟩ = some (.bool (P.inn.getD j false)) := by
  have := h.cell (j := 16 + j) (by omega)
  rw [suV_in P hj] at this
  exact this
theorem SuB.nm {w : World} {b : Nat} {P : SU} (h : SuB w b P) {j : Nat} (hj : j < 8) : w.cell? ⟨b, j, none⟩ = some (.int .u8 (P.nm.getD j 0)) := by
  have := h.cell (j := j) (by omega)
  rw [suV_nm P hj] at this
  exact this
set_option maxHeartbeats 4000000 in
theorem counts_any (P : SU) (hP : P.Wf) (w : World) :
    Calls Tryz.prog 61 #[suA P] w fun e w' => e = .returned (.bool (decide P.Ok1)) ∧ Below w.heap.size w w' := by
  obtain ⟨r, hr0⟩ : ∃ r, r = decide P.Ok1 := ⟨_, rfl⟩
  have hr : r = true ↔ P.Ok1 := by rw [hr0]; exact decide_eq_true_iff
  rw [← hr0]
  clear hr0
  obtain ⟨HB, HS⟩ := su_box P w
  obtain ⟨c8, c9, c10, c11, c12, c13, c14, c15, c272, c273, c274, c275⟩ := HS.num
  have HB := Lib.hid HB
  obtain ⟨s0, hs0⟩ : ∃ s, s = tabV 276 (suV P) := ⟨_, rfl⟩
  unfold suA
  rw [← hs0] at HB c8 c9 c10 c11 c12 c13 c14 c15 c272 c273 c274 c275 ⊢
  clear hs0 HS
  unfold SU.Ok1 at hr
  obtain ⟨p, hp⟩ : ∃ p, p = P.p := ⟨_, rfl⟩
  obtain ⟨n, hn⟩ : ∃ p, p = P.n := ⟨_, rfl⟩
  obtain ⟨t, ht⟩ : ∃ p, p = P.t := ⟨_, rfl⟩
  obtain ⟨m, hm⟩ : ∃ p, p = P.m := ⟨_, rfl⟩
  obtain ⟨c, hc⟩ : ∃ p, p = P.c := ⟨_, rfl⟩
  rw [← hp, ← hn, ← ht, ← hm, ← hc] at hr
  rw [← hp] at c8
  rw [← hn] at c9
  rw [← ht] at c10
  rw [← hm] at c11
  rw [← hc] at c12
  clear hp hn ht hm hc c13 c14 c15 c272 c273 c274 c275
  by_cases k0 : 1 ≤ p
  case neg =>
    have HD := Lib.hid (show r = false from Bool.eq_false_iff.2 (fun hh => k0 (hr.1 hh).1))
    clear hr
    go_enter Tryz.func61, Tryz.ntmps61
    go_wp2
    go_ret
    exact ⟨by rw [HD.out]; rfl, HB.out⟩
  case pos =>
    by_cases k1 : p ≤ n
    case neg =>
      have HD := Lib.hid (show r = false from Bool.eq_false_iff.2 (fun hh => k1 (hr.1 hh).2.1))
      clear hr
      go_enter Tryz.func61, Tryz.ntmps61
      go_wp2
      go_ret
      exact ⟨by rw [HD.out]; rfl, HB.out⟩
    case pos =>
      by_cases k2 : 1 ≤ t
      case neg =>
        have HD := Lib.hid (show r = false from Bool.eq_false_iff.2 (fun hh => k2 (hr.1 hh).2.2.1))
        clear hr
        go_enter Tryz.func61, Tryz.ntmps61
        go_wp2
        go_ret
        exact ⟨by rw [HD.out]; rfl, HB.out⟩
      case pos =>
        by_cases k3 : t ≤ n
        case neg =>
          have HD := Lib.hid (show r = false from Bool.eq_false_iff.2 (fun hh => k3 (hr.1 hh).2.2.2.1))
          clear hr
          go_enter Tryz.func61, Tryz.ntmps61
          go_wp2
          go_ret
          exact ⟨by rw [HD.out]; rfl, HB.out⟩
        case pos =>
          by_cases k4 : m < 2
          case neg =>
            have HD := Lib.hid (show r = false from Bool.eq_false_iff.2 (fun hh => k4 (hr.1 hh).2.2.2.2.1))
            clear hr
            go_enter Tryz.func61, Tryz.ntmps61
            go_wp2
            go_ret
            exact ⟨by rw [HD.out]; rfl, HB.out⟩
          case pos =>
            by_cases k5 : c ≤ 127
            case neg =>
              have HD := Lib.hid (show r = false from Bool.eq_false_iff.2 (fun hh => k5 (hr.1 hh).2.2.2.2.2))
              clear hr
              go_enter Tryz.func61, Tryz.ntmps61
              go_wp2
              go_ret
              exact ⟨by rw [HD.out]; rfl, HB.out⟩
            case pos =>
              have HD := Lib.hid (show r = true from hr.2 ⟨k0, k1, k2, k3, k4, k5⟩)
              clear hr
              go_enter Tryz.func61, Tryz.ntmps61
              go_wp2
              go_ret
              exact ⟨by rw [HD.out]; rfl, HB.out⟩
set_option maxHeartbeats 4000000 in
theorem cursors_any (P : SU) (hP : P.Wf) (w : World) :
    Calls Tryz.prog 63 #[suA P] w fun e w' => e = .returned (.bool (decide P.Ok3)) ∧ Below w.heap.size w w' := by
  obtain ⟨r, hr0⟩ : ∃ r, r = decide P.Ok3 := ⟨_, rfl⟩
  have hr : r = true ↔ P.Ok3 := by rw [hr0]; exact decide_eq_true_iff
  rw [← hr0]
  clear hr0
  obtain ⟨HB, HS⟩ := su_box P w
  obtain ⟨c8, c9, c10, c11, c12, c13, c14, c15, c272, c273, c274, c275⟩ := HS.num
  have HB := Lib.hid HB
  obtain ⟨s0, hs0⟩ : ∃ s, s = tabV 276 (suV P) := ⟨_, rfl⟩
  unfold suA
  rw [← hs0] at HB c8 c9 c10 c11 c12 c13 c14 c15 c272 c273 c274 c275 ⊢
  clear hs0 HS
  unfold SU.Ok3 at hr
  have b1 := hP.bl
  have b2 := hP.rf
  have b3 := hP.sc
  have b4 := hP.rs
  unfold u32I at b1 b2 b3 b4
  obtain ⟨n, hn⟩ : ∃ p, p = P.n := ⟨_, rfl⟩
  obtain ⟨bl, hbl⟩ : ∃ p, p = P.bl := ⟨_, rfl⟩
  obtain ⟨rf, hrf⟩ : ∃ p, p = P.rf := ⟨_, rfl⟩
  obtain ⟨sc, hsc⟩ : ∃ p, p = P.sc := ⟨_, rfl⟩
  obtain ⟨tg, htg⟩ : ∃ p, p = P.tg := ⟨_, rfl⟩
  obtain ⟨rs, hrs⟩ : ∃ p, p = P.rs := ⟨_, rfl⟩
  rw [← hn, ← hbl, ← hrf, ← hsc, ← htg, ← hrs] at hr
  rw [← hbl] at b1 c13
  rw [← hrf] at b2 c272
  rw [← hsc] at b3 c273
  rw [← hrs] at b4 c275
  rw [← hn] at c9
  rw [← htg] at c274
  obtain ⟨mx, hmx⟩ : ∃ m, m = max rf (max sc rs) := ⟨_, rfl⟩
  have hr : r = true ↔ (1 ≤ bl ∧ bl ≤ 1024 ∧ mx ≤ bl + 1 ∧ tg ≤ n) := by rw [hr]; omega
  have km : ∀ (ts : Array TypeId) (t : TypeId) (W : World), (Builtin.max_ ts t #[.int .u32 rf, .int .u32 sc, .int .u32 rs]).run Tryz.prog W = .ok (.int .u32 mx) W := fun ts t W => by
    rw [run_max_int3]
    congr 2
    by_cases h1 : sc > rf
    · rw [if_pos h1]
      by_cases h2 : rs > sc
      · rw [if_pos h2]; omega
      · rw [if_neg h2]; omega
    · rw [if_neg h1]
      by_cases h2 : rs > rf
      · rw [if_pos h2]; omega
      · rw [if_neg h2]; omega
  have b5 : 0 ≤ mx := by omega
  clear hn hbl hrf hsc htg hrs hmx b2 b3 b4 c8 c10 c11 c12 c14 c15
  by_cases k0 : 1 ≤ bl
  case neg =>
    have HD := Lib.hid (show r = false from Bool.eq_false_iff.2 (fun hh => k0 (hr.1 hh).1))
    clear hr
    go_enter Tryz.func63, Tryz.ntmps63
    go_wp2
    go_ret
    exact ⟨by rw [HD.out]; rfl, HB.out⟩
  case pos =>
    by_cases k1 : bl ≤ 1024
    case neg =>
      have HD := Lib.hid (show r = false from Bool.eq_false_iff.2 (fun hh => k1 (hr.1 hh).2.1))
      clear hr
      go_enter Tryz.func63, Tryz.ntmps63
      go_wp2
      go_ret
      exact ⟨by rw [HD.out]; rfl, HB.out⟩
    case pos =>
      by_cases k2 : mx ≤ bl + 1
      case neg =>
        have HD := Lib.hid (show r = false from Bool.eq_false_iff.2 (fun hh => k2 (hr.1 hh).2.2.1))
        clear hr
        go_enter Tryz.func63, Tryz.ntmps63
        go_wp2
        go_ret
        exact ⟨by rw [HD.out]; rfl, HB.out⟩
      case pos =>
        by_cases k3 : tg ≤ n
        case neg =>
          have HD := Lib.hid (show r = false from Bool.eq_false_iff.2 (fun hh => k3 (hr.1 hh).2.2.2))
          clear hr
          go_enter Tryz.func63, Tryz.ntmps63
          go_wp2
          go_ret
          exact ⟨by rw [HD.out]; rfl, HB.out⟩
        case pos =>
          have HD := Lib.hid (show r = true from hr.2 ⟨k0, k1, k2, k3⟩)
          clear hr
          go_enter Tryz.func63, Tryz.ntmps63
          go_wp2
          go_ret
          exact ⟨by rw [HD.out]; rfl, HB.out⟩
end Go.Proofs.YtkfdcdfaikkneaaGreatDoor
/- Package sector: who can be known to be in; arrays sliced. -/
namespace Go.Proofs.YtkfdcdfaikkneaaGreatDoor
open Go.ChangeShapes Go.WideShapes Go.ChangeAt Go.RowKit Go.Shelf
set_option linter.unusedVariables false
set_option linter.unusedSimpArgs false
set_option maxRecDepth 100000
attribute [local go_sem] Oper.semAt_some

theorem arr256 : (match Tryz.prog.underlying 31 with | some (.pointer _) => false | some (.array _ _) => true | _ => false) = true := by kernel_rfl
theorem und256 : Tryz.prog.underlying 31 = some (.array 256 4) := by kernel_rfl
theorem len256 : Tryz.prog.arrayLen 31 = 256 := by kernel_rfl
theorem size256 (W : World) : (sizeOf (Tryz.prog.elem 31)).run Tryz.prog W = .ok 1 W := by kernel_rfl
/-- s.In[k:] -/
theorem slice256 (W : World) (g o k : Nat) (kk : IntKind) (z : Int) (hz : z = (k : Int)) (hk : k ≤ 256) :
    (Instr.sliceAt 31 (.pointer (some ⟨g, o, none⟩)) (some (.int kk z)) none none).run Tryz.prog W = .ok (.slice (some ⟨g, if k = 256 then o else o + k, none⟩) (256 - k) (256 - k)) W := by
  rw [run_sliceAt_array_l W 31 ⟨g, o, none⟩ und256 kk z (by omega) (by rw [len256]; omega), size256, len256]
  have e : z.toNat = k := by omega
  show Result.ok (slicedAt _ _ _ _ _) W = _
  unfold slicedAt
  rw [e]
  by_cases h : k = 256
  · subst h; rfl
  · rw [if_neg (by omega), if_neg h, Nat.mul_one]
    simp [Addr.add]
set_option maxHeartbeats 2000000 in
theorem index_any (a : Option Addr) (L c : Nat) (l : List Bool) (w : World) (q : Bool) (hq : q = l.all (fun x => !x)) (hl : l.length = L) (hb : Ls w w.heap.size a l) (hL : L ≤ 9223372036854775807) :
    Calls Tryz.prog 103 #[.slice a L c, .bool true] w fun e w' => ∃ z : Int, e = .returned (.int .i64 z) ∧ (0 ≤ z ↔ q = false) ∧ w = w' := by
  have HQ := Lib.hid hq
  clear hq
  go_enter Tryz.func103, Tryz.ntmps103
  go_wp2
  go_loop [8] (fun i => ∃ k : Nat, k ≤ L ∧ i = .int .i64 k ∧ Hid (∀ i, i < k → l.getD i false = false)) (fun i => L - (intOf i).toNat)
  case atStart => exact ⟨0, Nat.zero_le _, rfl, fun i hi => absurd hi (by omega)⟩
  case round =>
    obtain ⟨k, hk, rfl, hz⟩ := hrel
    by_cases hlt : k < L
    · obtain ⟨b, off, rfl, hB, hc⟩ := hb.at_ (k := k) (by omega)
      obtain ⟨X, hX⟩ : ∃ X, X = l.getD k false := ⟨_, rfl⟩
      rw [← hX] at hc
      have HX := Lib.hid hX
      clear hX
      cases X with
      | false =>
        go_wp2
        go_round
        case rel =>
          refine ⟨k + 1, by omega, by go_num, fun i hi => ?_⟩
          by_cases e : i = k
          · subst e; exact HX.out.symm
          · exact hz.out i (by omega)
        case measure => simp [intOf]; omega
      | true =>
        have HF := Lib.hid (show q = false from Bool.eq_false_iff.2 fun h => by
          rw [HQ.out] at h
          have h2 := List.all_eq_true.1 h (l[k]'(by omega)) (List.getElem_mem _)
          have h3 := HX.out
          rw [List.getD_eq_getElem?_getD, List.getElem?_eq_getElem (show k < l.length by omega), Option.getD_some] at h3
          rw [← h3] at h2
          cases h2)
        go_wp2
        go_ret
        exact ⟨_, rfl, ⟨fun _ => HF.out, fun _ => by omega⟩, rfl⟩
    · obtain rfl : k = L := by omega
      have HT := Lib.hid (show q = true from HQ.out.trans <| List.all_eq_true.2 fun x hx => by
        obtain ⟨i, hi, rfl⟩ := List.getElem_of_mem hx
        have h3 := hz.out i (by omega)
        rw [List.getD_eq_getElem?_getD, List.getElem?_eq_getElem hi, Option.getD_some] at h3
        rw [h3]; rfl)
      go_wp2
      go_ret
      exact ⟨_, rfl, ⟨fun h => by omega, fun h => by rw [HT.out] at h; cases h⟩, rfl⟩
theorem contains_any (a : Option Addr) (L c : Nat) (l : List Bool) (w : World) (hl : l.length = L) (hb : Ls w w.heap.size a l) (hL : L ≤ 9223372036854775807) :
    Calls Tryz.prog 88 #[.slice a L c, .bool true] w fun e w' => e = .returned (.bool (!(l.all (fun x => !x)))) ∧ w = w' := by
  obtain ⟨q, hq⟩ : ∃ q, q = l.all (fun x => !x) := ⟨_, rfl⟩
  have HI := Lib.hid (index_any a L c l w q hq hl hb hL)
  rw [← hq]
  clear hq hb
  go_enter Tryz.func88, Tryz.ntmps88
  go_upto_region 2 with (go_at_call 103; go_loud (refine HI.out.mono ?_; rintro e w1 ⟨z, rfl, hz, rfl⟩; have HZ := Lib.hid hz; clear hz))
  go_wp2
  go_ret
  refine ⟨?_, rfl⟩
  show Ending.returned (.bool (decide (0 ≤ z))) = _
  cases q with
  | true => rw [decide_eq_false (fun h => by have := HZ.out.1 h; cases this)]; rfl
  | false => rw [decide_eq_true (HZ.out.2 rfl)]; rfl
set_option maxHeartbeats 4000000 in
theorem known_any (P : SU) (hP : P.Wf) (w : World) :
    Calls Tryz.prog 62 #[suA P] w fun e w' => e = .returned (.bool (decide P.Ok2)) ∧ Below w.heap.size w w' := by
  obtain ⟨r, hr0⟩ : ∃ r, r = decide P.Ok2 := ⟨_, rfl⟩
  have hr : r = true ↔ P.Ok2 := by rw [hr0]; exact decide_eq_true_iff
  rw [← hr0]
  clear hr0
  obtain ⟨HB, HS⟩ := su_box P w
  have c9 := HS.num.2.1
  have c16 := HS.inn (j := 0) (by omega)
  have hcin : ∀ j, j < 256 → _ := fun j hj => HS.inn (j := j) hj
  obtain ⟨s0, hs0⟩ : ∃ s, s = tabV 276 (suV P) := ⟨_, rfl⟩
  unfold suA
  rw [← hs0] at HB c9 c16 hcin ⊢
  clear hs0 HS
  have HB := Lib.hid HB
  have hb1 := hP.n
  unfold byteI at hb1
  obtain ⟨n, hn⟩ := Int.eq_ofNat_of_zero_le hb1.1
  have hli := hP.inn
  unfold SU.Ok2 at hr
  obtain ⟨x0, hx0⟩ : ∃ x, x = P.inn.getD 0 false := ⟨_, rfl⟩
  rw [hn, ← hx0, Int.toNat_natCast] at hr
  rw [hn] at c9 hb1
  rw [← hx0] at c16
  obtain ⟨A, hA⟩ : ∃ A, A = w.alloc (.cells s0 33) := ⟨_, rfl⟩
  have hAs : A.heap.size = w.heap.size + 1 := by rw [hA]; simp
  rw [← hA] at HB
  have hls : Ls A A.heap.size (some ⟨w.heap.size, if n + 1 = 256 then 16 else 16 + (n + 1), none⟩) (P.inn.drop (n + 1)) := fun h0 => by
    rw [List.length_drop, hli] at h0
    refine ⟨w.heap.size, 16 + (n + 1), by rw [if_neg (by omega)], by omega, fun i hi => ?_⟩
    rw [List.length_drop, hli] at hi
    have := hcin (n + 1 + i) (by omega)
    rw [hA, show 16 + (n + 1) + i = 16 + (n + 1 + i) by omega, this]
    simp [List.getD_eq_getElem?_getD, List.getElem?_drop]
  have HCN := Lib.hid (contains_any (some ⟨w.heap.size, if n + 1 = 256 then 16 else 16 + (n + 1), none⟩) (256 - (n + 1)) (256 - (n + 1)) (P.inn.drop (n + 1)) A (by rw [List.length_drop, hli]) hls (by omega))
  have hsl : ∀ W : World, (Instr.sliceAt 31 (.pointer (some ⟨w.heap.size, 16, none⟩)) (some (.int .i64 ((n : Int) + 1))) none none).run Tryz.prog W = .ok (.slice (some ⟨w.heap.size, if n + 1 = 256 then 16 else 16 + (n + 1), none⟩) (256 - (n + 1)) (256 - (n + 1))) W := fun W => slice256 W w.heap.size 16 (n + 1) .i64 _ (by omega) (by omega)
  obtain ⟨q, hq⟩ : ∃ q, q = (P.inn.drop (n + 1)).all (fun x => !x) := ⟨_, rfl⟩
  rw [← hq] at hr HCN
  rw [hA] at HCN
  obtain ⟨oo, hoo⟩ : ∃ o, o = (if n + 1 = 256 then 16 else 16 + (n + 1)) := ⟨_, rfl⟩
  obtain ⟨mm, hmm⟩ : ∃ m, m = 256 - (n + 1) := ⟨_, rfl⟩
  rw [← hoo, ← hmm] at hsl HCN
  have HAE := Lib.hid hA
  clear hls hq hx0 hcin hli hoo hmm hA hAs hn
  cases x0 with
  | true =>
    have HD := Lib.hid (show r = false from Bool.eq_false_iff.2 (fun h => by have := (hr.1 h).1; cases this))
    clear hr
    go_enter Tryz.func62, Tryz.ntmps62
    go_wp2
    go_ret
    exact ⟨by rw [HD.out]; rfl, HAE.out ▸ HB.out⟩
  | false =>
    have HD := Lib.hid (show r = q by
      cases q with
      | true => exact hr.2 ⟨rfl, rfl⟩
      | false => exact Bool.eq_false_iff.2 (fun h => by have := (hr.1 h).2; cases this))
    clear hr
    go_enter Tryz.func62, Tryz.ntmps62
    go_wp2_with (go_at_call 88; go_loud (refine HCN.out.mono ?_; rintro e w1 ⟨rfl, rfl⟩))
    go_ret
    exact ⟨by rw [HD.out]; simp, HAE.out ▸ HB.out⟩
end Go.Proofs.YtkfdcdfaikkneaaGreatDoor
