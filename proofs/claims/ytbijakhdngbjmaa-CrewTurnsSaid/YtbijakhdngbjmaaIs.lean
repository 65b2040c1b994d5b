/- Supers, plain: their bytes, what they are parsed to, their cells. -/
import Derived.Test.YtbijakhdngbjmaaIb
import Derived.Test.YtbijakhdngbjmaaPackC
import Derived.Test.YtbijakhdngbjmaaBlk
namespace Go.Proofs.Ytbijakhdngbjmaa
open Go.ChangeShapes Go.WideShapes Go.ChangeAt Go.RowKit Go.Shelf
set_option linter.unusedVariables false
set_option linter.unusedSimpArgs false

def u32I (x : Int) : Prop := 0 ≤ x ∧ x < 4294967296
structure SU where
  nm : List Int
  p : Int
  n : Int
  t : Int
  m : Int
  c : Int
  bl : Int
  bo : Int
  ep : Int
  inn : List Bool
  rf : Int
  sc : Int
  tg : Int
  rs : Int
structure SU.Wf (P : SU) : Prop where
  nm : P.nm.length = 8 ∧ AllB P.nm
  p : byteI P.p
  n : byteI P.n
  t : byteI P.t
  m : byteI P.m
  c : byteI P.c
  bl : u32I P.bl
  bo : u32I P.bo
  ep : u32I P.ep
  inn : P.inn.length = 256
  rf : u32I P.rf
  sc : u32I P.sc
  tg : byteI P.tg
  rs : u32I P.rs
def SU.Ok1 (P : SU) : Prop := 1 ≤ P.p ∧ P.p ≤ P.n ∧ 1 ≤ P.t ∧ P.t ≤ P.n ∧ P.m < 2 ∧ P.c ≤ 127
def SU.Ok2 (P : SU) : Prop := P.inn.getD 0 false = false ∧ (P.inn.drop (P.n.toNat + 1)).all (fun x => !x) = true
def SU.Ok3 (P : SU) : Prop := 1 ≤ P.bl ∧ P.bl ≤ 1024 ∧ P.rf ≤ P.bl + 1 ∧ P.sc ≤ P.bl + 1 ∧ P.rs ≤ P.bl + 1 ∧ P.tg ≤ P.n
instance (P : SU) : Decidable P.Ok1 := by unfold SU.Ok1; infer_instance
instance (P : SU) : Decidable P.Ok2 := by unfold SU.Ok2; infer_instance
instance (P : SU) : Decidable P.Ok3 := by unfold SU.Ok3; infer_instance
/-- Is all within its bounds? -/
def SU.Ok (P : SU) : Prop := P.Ok1 ∧ P.Ok2 ∧ P.Ok3
instance (P : SU) : Decidable P.Ok := by unfold SU.Ok; infer_instance
/-- All ahead of the sum. -/
def SU.H (P : SU) : List Int := [76, 85] ++ (P.nm ++ ([P.p, P.n, P.t, P.m, P.c] ++ (be 4 P.bl ++ (be 4 P.bo ++ (be 4 P.ep ++ (packL P.inn ++ (be 4 P.rf ++ (be 4 P.sc ++ ([P.tg] ++ be 4 P.rs)))))))))
theorem SU.H_len {P : SU} (h : P.Wf) : P.H.length = 72 := by
  simp only [SU.H, List.length_append, List.length_cons, List.length_nil, length_be, length_packL, h.nm.1, h.inn]
theorem allB_one {x : Int} (h : byteI x) : AllB [x] := fun y hy => by rw [List.mem_singleton.1 hy]; exact h
theorem allB_consB {x : Int} {l : List Int} (h : byteI x) (hl : AllB l) : AllB (x :: l) := fun y hy => by
  rcases List.mem_cons.1 hy with rfl | hy
  · exact h
  · exact hl y hy
theorem packL_B (l : List Bool) : AllB (packL l) := fun y hy => by
  unfold packL rowK at hy
  obtain ⟨j, _, rfl⟩ := List.mem_map.1 hy
  have := byteK_lt l l.length j
  omega
theorem SU.H_B {P : SU} (h : P.Wf) : AllB P.H :=
  allB_app2 (allB_consB (by unfold byteI; omega) (allB_one (by unfold byteI; omega))) (allB_app2 h.nm.2 (allB_app2 (allB_consB h.p (allB_consB h.n (allB_consB h.t (allB_consB h.m (allB_one h.c))))) (allB_app2 (allB_be _ _) (allB_app2 (allB_be _ _) (allB_app2 (allB_be _ _) (allB_app2 (packL_B _) (allB_app2 (allB_be _ _) (allB_app2 (allB_be _ _) (allB_app2 (allB_one h.tg) (allB_be _ _))))))))))
/-- What stands from a place on. -/
structure SU.At (b : List Int) (P : SU) : Prop where
  e2 : ∃ r, b.drop 2 = P.nm ++ r
  e10 : b.getD 10 0 = P.p
  e11 : b.getD 11 0 = P.n
  e12 : b.getD 12 0 = P.t
  e13 : b.getD 13 0 = P.m
  e14 : b.getD 14 0 = P.c
  e15 : ∃ r, b.drop 15 = be 4 P.bl ++ r
  e19 : ∃ r, b.drop 19 = be 4 P.bo ++ r
  e23 : ∃ r, b.drop 23 = be 4 P.ep ++ r
  e27 : ∃ r, b.drop 27 = packL P.inn ++ r
  e59 : ∃ r, b.drop 59 = be 4 P.rf ++ r
  e63 : ∃ r, b.drop 63 = be 4 P.sc ++ r
  e67 : b.getD 67 0 = P.tg
  e68 : ∃ r, b.drop 68 = be 4 P.rs ++ r
theorem getD_drop0 (b : List Int) (k : Nat) : b.getD k 0 = (b.drop k).getD 0 0 := by simp [List.getD_eq_getElem?_getD, List.getElem?_drop]
theorem SU.at_H {P : SU} (h : P.Wf) (r : List Int) : SU.At (P.H ++ r) P := by
  have f2 : (P.H ++ r).drop 2 = P.nm ++ ([P.p, P.n, P.t, P.m, P.c] ++ (be 4 P.bl ++ (be 4 P.bo ++ (be 4 P.ep ++ (packL P.inn ++ (be 4 P.rf ++ (be 4 P.sc ++ ([P.tg] ++ (be 4 P.rs ++ r))))))))) := by
    unfold SU.H; simp only [List.append_assoc]; rfl
  have f10 : (P.H ++ r).drop 10 = [P.p, P.n, P.t, P.m, P.c] ++ (be 4 P.bl ++ (be 4 P.bo ++ (be 4 P.ep ++ (packL P.inn ++ (be 4 P.rf ++ (be 4 P.sc ++ ([P.tg] ++ (be 4 P.rs ++ r)))))))) := by
    rw [show (10 : Nat) = 2 + 8 from rfl, ← List.drop_drop, f2]; exact drop_lit h.nm.1
  have f15 : (P.H ++ r).drop 15 = be 4 P.bl ++ (be 4 P.bo ++ (be 4 P.ep ++ (packL P.inn ++ (be 4 P.rf ++ (be 4 P.sc ++ ([P.tg] ++ (be 4 P.rs ++ r))))))) := by
    rw [show (15 : Nat) = 10 + 5 from rfl, ← List.drop_drop, f10]; exact drop_lit rfl
  have f19 : (P.H ++ r).drop 19 = be 4 P.bo ++ (be 4 P.ep ++ (packL P.inn ++ (be 4 P.rf ++ (be 4 P.sc ++ ([P.tg] ++ (be 4 P.rs ++ r)))))) := by
    rw [show (19 : Nat) = 15 + 4 from rfl, ← List.drop_drop, f15]; exact drop_lit (length_be _ _)
  have f23 : (P.H ++ r).drop 23 = be 4 P.ep ++ (packL P.inn ++ (be 4 P.rf ++ (be 4 P.sc ++ ([P.tg] ++ (be 4 P.rs ++ r))))) := by
    rw [show (23 : Nat) = 19 + 4 from rfl, ← List.drop_drop, f19]; exact drop_lit (length_be _ _)
  have f27 : (P.H ++ r).drop 27 = packL P.inn ++ (be 4 P.rf ++ (be 4 P.sc ++ ([P.tg] ++ (be 4 P.rs ++ r)))) := by
    rw [show (27 : Nat) = 23 + 4 from rfl, ← List.drop_drop, f23]; exact drop_lit (length_be _ _)
  have f59 : (P.H ++ r).drop 59 = be 4 P.rf ++ (be 4 P.sc ++ ([P.tg] ++ (be 4 P.rs ++ r))) := by
    rw [show (59 : Nat) = 27 + 32 from rfl, ← List.drop_drop, f27]; exact drop_lit (by rw [length_packL, h.inn])
  have f63 : (P.H ++ r).drop 63 = be 4 P.sc ++ ([P.tg] ++ (be 4 P.rs ++ r)) := by
    rw [show (63 : Nat) = 59 + 4 from rfl, ← List.drop_drop, f59]; exact drop_lit (length_be _ _)
  have f67 : (P.H ++ r).drop 67 = [P.tg] ++ (be 4 P.rs ++ r) := by
    rw [show (67 : Nat) = 63 + 4 from rfl, ← List.drop_drop, f63]; exact drop_lit (length_be _ _)
  have f68 : (P.H ++ r).drop 68 = be 4 P.rs ++ r := by
    rw [show (68 : Nat) = 67 + 1 from rfl, ← List.drop_drop, f67]; exact drop_lit rfl
  have g (k : Nat) : (P.H ++ r).getD (10 + k) 0 = ((P.H ++ r).drop 10).getD k 0 := by simp [List.getD_eq_getElem?_getD, List.getElem?_drop]
  exact ⟨⟨_, f2⟩, by rw [g 0, f10]; rfl, by rw [g 1, f10]; rfl, by rw [g 2, f10]; rfl, by rw [g 3, f10]; rfl, by rw [g 4, f10]; rfl, ⟨_, f15⟩, ⟨_, f19⟩, ⟨_, f23⟩, ⟨_, f27⟩, ⟨_, f59⟩, ⟨_, f63⟩, by rw [getD_drop0, f67]; rfl, ⟨_, f68⟩⟩
/-- What bytes would be parsed to. -/
def psuR (b : List Int) : SU := ⟨(b.drop 2).take 8, b.getD 10 0, b.getD 11 0, b.getD 12 0, b.getD 13 0, b.getD 14 0, nb b 15 4, nb b 19 4, nb b 23 4, unpackL ((b.drop 27).take 32) 256, nb b 59 4, nb b 63 4, b.getD 67 0, nb b 68 4⟩
theorem SU.At.eq {b : List Int} {P : SU} (k : SU.At b P) (h : P.Wf) : psuR b = P := by
  obtain ⟨⟨r2, e2⟩, e10, e11, e12, e13, e14, ⟨r15, e15⟩, ⟨r19, e19⟩, ⟨r23, e23⟩, ⟨r27, e27⟩, ⟨r59, e59⟩, ⟨r63, e63⟩, e67, ⟨r68, e68⟩⟩ := k
  unfold psuR
  rw [e2, take_lit h.nm.1, e10, e11, e12, e13, e14, nb_be e15 h.bl.1 h.bl.2, nb_be e19 h.bo.1 h.bo.2, nb_be e23 h.ep.1 h.ep.2, e27, take_lit (by rw [length_packL, h.inn]), nb_be e59 h.rf.1 h.rf.2, nb_be e63 h.sc.1 h.sc.2, e67, nb_be e68 h.rs.1 h.rs.2]
  have := unpack_pack P.inn
  rw [h.inn] at this
  rw [this]
theorem nb_u32 {b : List Int} (h : AllB b) (k : Nat) : u32I (nb b k 4) := nb_bound h k 4
theorem psuR_wf {b : List Int} (h : AllB b) (hl : b.length = 512) : (psuR b).Wf :=
  ⟨⟨by simp [psuR, hl], (h.dropB 2).takeB 8⟩, byte_getD h 10, byte_getD h 11, byte_getD h 12, byte_getD h 13, byte_getD h 14, nb_u32 h 15, nb_u32 h 19, nb_u32 h 23, length_unpackL _ _, nb_u32 h 59, nb_u32 h 63, byte_getD h 67, nb_u32 h 68⟩
/-- Its cells. -/
def suV (P : SU) (j : Nat) : Value :=
  if j < 8 then .int .u8 (P.nm.getD j 0) else if j = 8 then .int .u8 P.p else if j = 9 then .int .u8 P.n else if j = 10 then .int .u8 P.t else if j = 11 then .int .u8 P.m else if j = 12 then .int .u8 P.c
  else if j = 13 then .int .u32 P.bl else if j = 14 then .int .u32 P.bo else if j = 15 then .int .u32 P.ep else if j < 272 then .bool (P.inn.getD (j - 16) false)
  else if j = 272 then .int .u32 P.rf else if j = 273 then .int .u32 P.sc else if j = 274 then .int .u8 P.tg else .int .u32 P.rs
theorem ite_one {c : Prop} [Decidable c] {x y : Value} (hx : x.oneCell' = true) (hy : y.oneCell' = true) : (if c then x else y).oneCell' = true := by
  by_cases h : c
  · rw [if_pos h]; exact hx
  · rw [if_neg h]; exact hy
theorem suV_one (P : SU) (j : Nat) : (suV P j).oneCell' = true := by
  unfold suV
  iterate 13 (refine ite_one rfl ?_)
  rfl
theorem suV_nm (P : SU) {j : Nat} (h : j < 8) : suV P j = .int .u8 (P.nm.getD j 0) := if_pos h
theorem suV_in (P : SU) {j : Nat} (h : j < 256) : suV P (16 + j) = .bool (P.inn.getD j false) := by
  unfold suV
  rw [if_neg (by omega), if_neg (by omega), if_neg (by omega), if_neg (by omega), if_neg (by omega), if_neg (by omega), if_neg (by omega), if_neg (by omega), if_neg (by omega), if_pos (by omega), show 16 + j - 16 = j by omega]
/-- A super as a value. -/
def suA (P : SU) : Value := .agg (tabV 276 (suV P))
def suZ : SU := ⟨List.replicate 8 0, 0, 0, 0, 0, 0, 0, 0, 0, List.replicate 256 false, 0, 0, 0, 0⟩
end Go.Proofs.Ytbijakhdngbjmaa
