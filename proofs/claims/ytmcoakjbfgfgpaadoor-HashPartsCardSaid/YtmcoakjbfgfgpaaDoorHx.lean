/- The chapter's example, "abc", reckoned (written by gen33.py). -/
import Derived.Test.YtmcoakjbfgfgpaaDoorHn
namespace Go.Proofs.YtmcoakjbfgfgpaaDoor
open Go.RowKit
set_option linter.unusedVariables false
set_option maxRecDepth 100000

def shaX : List Int := [97, 98, 99]
theorem shaXB : AllB shaX := by unfold AllB shaX; decide
def shaXM : Nat → Nat := mF (shaM shaX) 0
def St (v : Nat → Nat) (a b c d e f g h : Nat) : Prop := v 0 = a ∧ v 1 = b ∧ v 2 = c ∧ v 3 = d ∧ v 4 = e ∧ v 5 = f ∧ v 6 = g ∧ v 7 = h
theorem St.next {h0 w : Nat → Nat} {t a b c d e f g h : Nat} (hv : St (comp h0 w t) a b c d e f g h) (k x T A E : Nat) (hk : KF t = k) (hx : w t = x)
    (hT : ad (ad (ad (ad h (Sg1 e)) (chf e f g)) k) x = T) (hA : ad T (ad (Sg0 a) (mjf a b c)) = A) (hE : ad d T = E) : St (comp h0 w (t + 1)) A a b c E e f g := by
  obtain ⟨h0', h1, h2, h3, h4, h5, h6, h7⟩ := hv
  refine ⟨?_, h0', h1, h2, ?_, h4, h5, h6⟩
  · show ad (rt1 (comp h0 w t) (KF t) (w t)) (rt2 (comp h0 w t)) = A
    unfold rt1 rt2
    rw [h0', h1, h2, h4, h5, h6, h7, hk, hx, hT, hA]
  · show ad (comp h0 w t 3) (rt1 (comp h0 w t) (KF t) (w t)) = E
    unfold rt1
    rw [h3, h4, h5, h6, h7, hk, hx, hT, hE]
theorem xw0 : ws shaXM 0 = 1633837952 := by rw [ws_first shaXM (by omega)]; decide +kernel
theorem xw1 : ws shaXM 1 = 0 := by rw [ws_first shaXM (by omega)]; decide +kernel
theorem xw2 : ws shaXM 2 = 0 := by rw [ws_first shaXM (by omega)]; decide +kernel
theorem xw3 : ws shaXM 3 = 0 := by rw [ws_first shaXM (by omega)]; decide +kernel
theorem xw4 : ws shaXM 4 = 0 := by rw [ws_first shaXM (by omega)]; decide +kernel
theorem xw5 : ws shaXM 5 = 0 := by rw [ws_first shaXM (by omega)]; decide +kernel
theorem xw6 : ws shaXM 6 = 0 := by rw [ws_first shaXM (by omega)]; decide +kernel
theorem xw7 : ws shaXM 7 = 0 := by rw [ws_first shaXM (by omega)]; decide +kernel
theorem xw8 : ws shaXM 8 = 0 := by rw [ws_first shaXM (by omega)]; decide +kernel
theorem xw9 : ws shaXM 9 = 0 := by rw [ws_first shaXM (by omega)]; decide +kernel
theorem xw10 : ws shaXM 10 = 0 := by rw [ws_first shaXM (by omega)]; decide +kernel
theorem xw11 : ws shaXM 11 = 0 := by rw [ws_first shaXM (by omega)]; decide +kernel
theorem xw12 : ws shaXM 12 = 0 := by rw [ws_first shaXM (by omega)]; decide +kernel
theorem xw13 : ws shaXM 13 = 0 := by rw [ws_first shaXM (by omega)]; decide +kernel
theorem xw14 : ws shaXM 14 = 0 := by rw [ws_first shaXM (by omega)]; decide +kernel
theorem xw15 : ws shaXM 15 = 24 := by rw [ws_first shaXM (by omega)]; decide +kernel
theorem xw16 : ws shaXM 16 = 1633837952 := by
  rw [ws_next shaXM (by omega)]
  show ad (ad (ad (sg1 (ws shaXM 14)) (ws shaXM 9)) (sg0 (ws shaXM 1))) (ws shaXM 0) = 1633837952
  rw [xw14, xw9, xw1, xw0]; decide +kernel
theorem xw17 : ws shaXM 17 = 983040 := by
  rw [ws_next shaXM (by omega)]
  show ad (ad (ad (sg1 (ws shaXM 15)) (ws shaXM 10)) (sg0 (ws shaXM 2))) (ws shaXM 1) = 983040
  rw [xw15, xw10, xw2, xw1]; decide +kernel
theorem xw18 : ws shaXM 18 = 2108187653 := by
  rw [ws_next shaXM (by omega)]
  show ad (ad (ad (sg1 (ws shaXM 16)) (ws shaXM 11)) (sg0 (ws shaXM 3))) (ws shaXM 2) = 2108187653
  rw [xw16, xw11, xw3, xw2]; decide +kernel
theorem xw19 : ws shaXM 19 = 1610613702 := by
  rw [ws_next shaXM (by omega)]
  show ad (ad (ad (sg1 (ws shaXM 17)) (ws shaXM 12)) (sg0 (ws shaXM 4))) (ws shaXM 3) = 1610613702
  rw [xw17, xw12, xw4, xw3]; decide +kernel
theorem xw20 : ws shaXM 20 = 1050508152 := by
  rw [ws_next shaXM (by omega)]
  show ad (ad (ad (sg1 (ws shaXM 18)) (ws shaXM 13)) (sg0 (ws shaXM 5))) (ws shaXM 4) = 1050508152
  rw [xw18, xw13, xw5, xw4]; decide +kernel
theorem xw21 : ws shaXM 21 = 25426944 := by
  rw [ws_next shaXM (by omega)]
  show ad (ad (ad (sg1 (ws shaXM 19)) (ws shaXM 14)) (sg0 (ws shaXM 6))) (ws shaXM 5) = 25426944
  rw [xw19, xw14, xw6, xw5]; decide +kernel
theorem xw22 : ws shaXM 22 = 316456923 := by
  rw [ws_next shaXM (by omega)]
  show ad (ad (ad (sg1 (ws shaXM 20)) (ws shaXM 15)) (sg0 (ws shaXM 7))) (ws shaXM 6) = 316456923
  rw [xw20, xw15, xw7, xw6]; decide +kernel
theorem xw23 : ws shaXM 23 = 3806512014 := by
  rw [ws_next shaXM (by omega)]
  show ad (ad (ad (sg1 (ws shaXM 21)) (ws shaXM 16)) (sg0 (ws shaXM 8))) (ws shaXM 7) = 3806512014
  rw [xw21, xw16, xw8, xw7]; decide +kernel
theorem xw24 : ws shaXM 24 = 3357629466 := by
  rw [ws_next shaXM (by omega)]
  show ad (ad (ad (sg1 (ws shaXM 22)) (ws shaXM 17)) (sg0 (ws shaXM 9))) (ws shaXM 8) = 3357629466
  rw [xw22, xw17, xw9, xw8]; decide +kernel
theorem xw25 : ws shaXM 25 = 3073800610 := by
  rw [ws_next shaXM (by omega)]
  show ad (ad (ad (sg1 (ws shaXM 23)) (ws shaXM 18)) (sg0 (ws shaXM 10))) (ws shaXM 9) = 3073800610
  rw [xw23, xw18, xw10, xw9]; decide +kernel
theorem xw26 : ws shaXM 26 = 3854317833 := by
  rw [ws_next shaXM (by omega)]
  show ad (ad (ad (sg1 (ws shaXM 24)) (ws shaXM 19)) (sg0 (ws shaXM 11))) (ws shaXM 10) = 3854317833
  rw [xw24, xw19, xw11, xw10]; decide +kernel
theorem xw27 : ws shaXM 27 = 845560923 := by
  rw [ws_next shaXM (by omega)]
  show ad (ad (ad (sg1 (ws shaXM 25)) (ws shaXM 20)) (sg0 (ws shaXM 12))) (ws shaXM 11) = 845560923
  rw [xw25, xw20, xw12, xw11]; decide +kernel
theorem xw28 : ws shaXM 28 = 2636160359 := by
  rw [ws_next shaXM (by omega)]
  show ad (ad (ad (sg1 (ws shaXM 26)) (ws shaXM 21)) (sg0 (ws shaXM 13))) (ws shaXM 12) = 2636160359
  rw [xw26, xw21, xw13, xw12]; decide +kernel
theorem xw29 : ws shaXM 29 = 3968280267 := by
  rw [ws_next shaXM (by omega)]
  show ad (ad (ad (sg1 (ws shaXM 27)) (ws shaXM 22)) (sg0 (ws shaXM 14))) (ws shaXM 13) = 3968280267
  rw [xw27, xw22, xw14, xw13]; decide +kernel
theorem xw30 : ws shaXM 30 = 1881225380 := by
  rw [ws_next shaXM (by omega)]
  show ad (ad (ad (sg1 (ws shaXM 28)) (ws shaXM 23)) (sg0 (ws shaXM 15))) (ws shaXM 14) = 1881225380
  rw [xw28, xw23, xw15, xw14]; decide +kernel
theorem xw31 : ws shaXM 31 = 3552024379 := by
  rw [ws_next shaXM (by omega)]
  show ad (ad (ad (sg1 (ws shaXM 29)) (ws shaXM 24)) (sg0 (ws shaXM 16))) (ws shaXM 15) = 3552024379
  rw [xw29, xw24, xw16, xw15]; decide +kernel
theorem xw32 : ws shaXM 32 = 2482346367 := by
  rw [ws_next shaXM (by omega)]
  show ad (ad (ad (sg1 (ws shaXM 30)) (ws shaXM 25)) (sg0 (ws shaXM 17))) (ws shaXM 16) = 2482346367
  rw [xw30, xw25, xw17, xw16]; decide +kernel
theorem xw33 : ws shaXM 33 = 996719219 := by
  rw [ws_next shaXM (by omega)]
  show ad (ad (ad (sg1 (ws shaXM 31)) (ws shaXM 26)) (sg0 (ws shaXM 18))) (ws shaXM 17) = 996719219
  rw [xw31, xw26, xw18, xw17]; decide +kernel
theorem xw34 : ws shaXM 34 = 2952069057 := by
  rw [ws_next shaXM (by omega)]
  show ad (ad (ad (sg1 (ws shaXM 32)) (ws shaXM 27)) (sg0 (ws shaXM 19))) (ws shaXM 18) = 2952069057
  rw [xw32, xw27, xw19, xw18]; decide +kernel
theorem xw35 : ws shaXM 35 = 4043988066 := by
  rw [ws_next shaXM (by omega)]
  show ad (ad (ad (sg1 (ws shaXM 33)) (ws shaXM 28)) (sg0 (ws shaXM 20))) (ws shaXM 19) = 4043988066
  rw [xw33, xw28, xw20, xw19]; decide +kernel
theorem xw36 : ws shaXM 36 = 176896406 := by
  rw [ws_next shaXM (by omega)]
  show ad (ad (ad (sg1 (ws shaXM 34)) (ws shaXM 29)) (sg0 (ws shaXM 21))) (ws shaXM 20) = 176896406
  rw [xw34, xw29, xw21, xw20]; decide +kernel
theorem xw37 : ws shaXM 37 = 1924104970 := by
  rw [ws_next shaXM (by omega)]
  show ad (ad (ad (sg1 (ws shaXM 35)) (ws shaXM 30)) (sg0 (ws shaXM 22))) (ws shaXM 21) = 1924104970
  rw [xw35, xw30, xw22, xw21]; decide +kernel
theorem xw38 : ws shaXM 38 = 2483675966 := by
  rw [ws_next shaXM (by omega)]
  show ad (ad (ad (sg1 (ws shaXM 36)) (ws shaXM 31)) (sg0 (ws shaXM 23))) (ws shaXM 22) = 2483675966
  rw [xw36, xw31, xw23, xw22]; decide +kernel
theorem xw39 : ws shaXM 39 = 610538786 := by
  rw [ws_next shaXM (by omega)]
  show ad (ad (ad (sg1 (ws shaXM 37)) (ws shaXM 32)) (sg0 (ws shaXM 24))) (ws shaXM 23) = 610538786
  rw [xw37, xw32, xw24, xw23]; decide +kernel
theorem xw40 : ws shaXM 40 = 2672279444 := by
  rw [ws_next shaXM (by omega)]
  show ad (ad (ad (sg1 (ws shaXM 38)) (ws shaXM 33)) (sg0 (ws shaXM 25))) (ws shaXM 24) = 2672279444
  rw [xw38, xw33, xw25, xw24]; decide +kernel
theorem xw41 : ws shaXM 41 = 4037431130 := by
  rw [ws_next shaXM (by omega)]
  show ad (ad (ad (sg1 (ws shaXM 39)) (ws shaXM 34)) (sg0 (ws shaXM 26))) (ws shaXM 25) = 4037431130
  rw [xw39, xw34, xw26, xw25]; decide +kernel
theorem xw42 : ws shaXM 42 = 1042573945 := by
  rw [ws_next shaXM (by omega)]
  show ad (ad (ad (sg1 (ws shaXM 40)) (ws shaXM 35)) (sg0 (ws shaXM 27))) (ws shaXM 26) = 1042573945
  rw [xw40, xw35, xw27, xw26]; decide +kernel
theorem xw43 : ws shaXM 43 = 657669027 := by
  rw [ws_next shaXM (by omega)]
  show ad (ad (ad (sg1 (ws shaXM 41)) (ws shaXM 36)) (sg0 (ws shaXM 28))) (ws shaXM 27) = 657669027
  rw [xw41, xw36, xw28, xw27]; decide +kernel
theorem xw44 : ws shaXM 44 = 206005234 := by
  rw [ws_next shaXM (by omega)]
  show ad (ad (ad (sg1 (ws shaXM 42)) (ws shaXM 37)) (sg0 (ws shaXM 29))) (ws shaXM 28) = 206005234
  rw [xw42, xw37, xw29, xw28]; decide +kernel
theorem xw45 : ws shaXM 45 = 2215296807 := by
  rw [ws_next shaXM (by omega)]
  show ad (ad (ad (sg1 (ws shaXM 43)) (ws shaXM 38)) (sg0 (ws shaXM 30))) (ws shaXM 29) = 2215296807
  rw [xw43, xw38, xw30, xw29]; decide +kernel
theorem xw46 : ws shaXM 46 = 2049510749 := by
  rw [ws_next shaXM (by omega)]
  show ad (ad (ad (sg1 (ws shaXM 44)) (ws shaXM 39)) (sg0 (ws shaXM 31))) (ws shaXM 30) = 2049510749
  rw [xw44, xw39, xw31, xw30]; decide +kernel
theorem xw47 : ws shaXM 47 = 106709978 := by
  rw [ws_next shaXM (by omega)]
  show ad (ad (ad (sg1 (ws shaXM 45)) (ws shaXM 40)) (sg0 (ws shaXM 32))) (ws shaXM 31) = 106709978
  rw [xw45, xw40, xw32, xw31]; decide +kernel
theorem xw48 : ws shaXM 48 = 4215179723 := by
  rw [ws_next shaXM (by omega)]
  show ad (ad (ad (sg1 (ws shaXM 46)) (ws shaXM 41)) (sg0 (ws shaXM 33))) (ws shaXM 32) = 4215179723
  rw [xw46, xw41, xw33, xw32]; decide +kernel
theorem xw49 : ws shaXM 49 = 3430291419 := by
  rw [ws_next shaXM (by omega)]
  show ad (ad (ad (sg1 (ws shaXM 47)) (ws shaXM 42)) (sg0 (ws shaXM 34))) (ws shaXM 33) = 3430291419
  rw [xw47, xw42, xw34, xw33]; decide +kernel
theorem xw50 : ws shaXM 50 = 3118885940 := by
  rw [ws_next shaXM (by omega)]
  show ad (ad (ad (sg1 (ws shaXM 48)) (ws shaXM 43)) (sg0 (ws shaXM 35))) (ws shaXM 34) = 3118885940
  rw [xw48, xw43, xw35, xw34]; decide +kernel
theorem xw51 : ws shaXM 51 = 2845390439 := by
  rw [ws_next shaXM (by omega)]
  show ad (ad (ad (sg1 (ws shaXM 49)) (ws shaXM 44)) (sg0 (ws shaXM 36))) (ws shaXM 35) = 2845390439
  rw [xw49, xw44, xw36, xw35]; decide +kernel
theorem xw52 : ws shaXM 52 = 2226839261 := by
  rw [ws_next shaXM (by omega)]
  show ad (ad (ad (sg1 (ws shaXM 50)) (ws shaXM 45)) (sg0 (ws shaXM 37))) (ws shaXM 36) = 2226839261
  rw [xw50, xw45, xw37, xw36]; decide +kernel
theorem xw53 : ws shaXM 53 = 3256115900 := by
  rw [ws_next shaXM (by omega)]
  show ad (ad (ad (sg1 (ws shaXM 51)) (ws shaXM 46)) (sg0 (ws shaXM 38))) (ws shaXM 37) = 3256115900
  rw [xw51, xw46, xw38, xw37]; decide +kernel
theorem xw54 : ws shaXM 54 = 344409900 := by
  rw [ws_next shaXM (by omega)]
  show ad (ad (ad (sg1 (ws shaXM 52)) (ws shaXM 47)) (sg0 (ws shaXM 39))) (ws shaXM 38) = 344409900
  rw [xw52, xw47, xw39, xw38]; decide +kernel
theorem xw55 : ws shaXM 55 = 2987358873 := by
  rw [ws_next shaXM (by omega)]
  show ad (ad (ad (sg1 (ws shaXM 53)) (ws shaXM 48)) (sg0 (ws shaXM 40))) (ws shaXM 39) = 2987358873
  rw [xw53, xw48, xw40, xw39]; decide +kernel
theorem xw56 : ws shaXM 56 = 4015503821 := by
  rw [ws_next shaXM (by omega)]
  show ad (ad (ad (sg1 (ws shaXM 54)) (ws shaXM 49)) (sg0 (ws shaXM 41))) (ws shaXM 40) = 4015503821
  rw [xw54, xw49, xw41, xw40]; decide +kernel
theorem xw57 : ws shaXM 57 = 3957764664 := by
  rw [ws_next shaXM (by omega)]
  show ad (ad (ad (sg1 (ws shaXM 55)) (ws shaXM 50)) (sg0 (ws shaXM 42))) (ws shaXM 41) = 3957764664
  rw [xw55, xw50, xw42, xw41]; decide +kernel
theorem xw58 : ws shaXM 58 = 2682456414 := by
  rw [ws_next shaXM (by omega)]
  show ad (ad (ad (sg1 (ws shaXM 56)) (ws shaXM 51)) (sg0 (ws shaXM 43))) (ws shaXM 42) = 2682456414
  rw [xw56, xw51, xw43, xw42]; decide +kernel
theorem xw59 : ws shaXM 59 = 2025622859 := by
  rw [ws_next shaXM (by omega)]
  show ad (ad (ad (sg1 (ws shaXM 57)) (ws shaXM 52)) (sg0 (ws shaXM 44))) (ws shaXM 43) = 2025622859
  rw [xw57, xw52, xw44, xw43]; decide +kernel
theorem xw60 : ws shaXM 60 = 2755645205 := by
  rw [ws_next shaXM (by omega)]
  show ad (ad (ad (sg1 (ws shaXM 58)) (ws shaXM 53)) (sg0 (ws shaXM 45))) (ws shaXM 44) = 2755645205
  rw [xw58, xw53, xw45, xw44]; decide +kernel
theorem xw61 : ws shaXM 61 = 1720397816 := by
  rw [ws_next shaXM (by omega)]
  show ad (ad (ad (sg1 (ws shaXM 59)) (ws shaXM 54)) (sg0 (ws shaXM 46))) (ws shaXM 45) = 1720397816
  rw [xw59, xw54, xw46, xw45]; decide +kernel
theorem xw62 : ws shaXM 62 = 4004225740 := by
  rw [ws_next shaXM (by omega)]
  show ad (ad (ad (sg1 (ws shaXM 60)) (ws shaXM 55)) (sg0 (ws shaXM 47))) (ws shaXM 46) = 4004225740
  rw [xw60, xw55, xw47, xw46]; decide +kernel
theorem xw63 : ws shaXM 63 = 313650667 := by
  rw [ws_next shaXM (by omega)]
  show ad (ad (ad (sg1 (ws shaXM 61)) (ws shaXM 56)) (sg0 (ws shaXM 48))) (ws shaXM 47) = 313650667
  rw [xw61, xw56, xw48, xw47]; decide +kernel
theorem xc0 : St (comp HF0 (ws shaXM) 0) 1779033703 3144134277 1013904242 2773480762 1359893119 2600822924 528734635 1541459225 := by refine ⟨?_, ?_, ?_, ?_, ?_, ?_, ?_, ?_⟩ <;> (show HF0 _ = _) <;> decide +kernel
theorem xc1 : St (comp HF0 (ws shaXM) 1) 1567288269 1779033703 3144134277 1013904242 4197074466 1359893119 2600822924 528734635 := xc0.next 1116352408 1633837952 1423593704 1567288269 4197074466 (by decide +kernel) xw0 (by decide +kernel) (by decide +kernel) (by decide +kernel)
theorem xc2 : St (comp HF0 (ws shaXM) 2) 1516951981 1567288269 1779033703 3144134277 2026797449 4197074466 1359893119 2600822924 := xc1.next 1899447441 0 1012893207 1516951981 2026797449 (by decide +kernel) xw1 (by decide +kernel) (by decide +kernel) (by decide +kernel)
theorem xc3 : St (comp HF0 (ws shaXM) 3) 3368241063 1516951981 1567288269 1779033703 4180228587 2026797449 4197074466 1359893119 := xc2.next 3049323471 0 1036094310 3368241063 4180228587 (by decide +kernel) xw2 (by decide +kernel) (by decide +kernel) (by decide +kernel)
theorem xc4 : St (comp HF0 (ws shaXM) 4) 3578852966 3368241063 1516951981 1567288269 618661968 4180228587 2026797449 4197074466 := xc3.next 3921009573 0 3134595561 3578852966 618661968 (by decide +kernel) xw3 (by decide +kernel) (by decide +kernel) (by decide +kernel)
theorem xc5 : St (comp HF0 (ws shaXM) 5) 71342698 3578852966 3368241063 1516951981 1135452741 618661968 4180228587 2026797449 := xc4.next 961987163 0 3863131768 71342698 1135452741 (by decide +kernel) xw4 (by decide +kernel) (by decide +kernel) (by decide +kernel)
theorem xc6 : St (comp HF0 (ws shaXM) 6) 725748213 71342698 3578852966 3368241063 1900175533 1135452741 618661968 4180228587 := xc5.next 1508970993 0 383223552 725748213 1900175533 (by decide +kernel) xw5 (by decide +kernel) (by decide +kernel) (by decide +kernel)
theorem xc7 : St (comp HF0 (ws shaXM) 7) 3842179968 725748213 71342698 3578852966 2603066369 1900175533 1135452741 618661968 := xc6.next 2453635748 0 3529792602 3842179968 2603066369 (by decide +kernel) xw6 (by decide +kernel) (by decide +kernel) (by decide +kernel)
theorem xc8 : St (comp HF0 (ws shaXM) 8) 2241887071 3842179968 725748213 71342698 207977081 2603066369 1900175533 1135452741 := xc7.next 2870763221 0 924091411 2241887071 207977081 (by decide +kernel) xw7 (by decide +kernel) (by decide +kernel) (by decide +kernel)
theorem xc9 : St (comp HF0 (ws shaXM) 9) 2382687417 2241887071 3842179968 725748213 852110732 207977081 2603066369 1900175533 := xc8.next 3624381080 0 780768034 2382687417 852110732 (by decide +kernel) xw8 (by decide +kernel) (by decide +kernel) (by decide +kernel)
theorem xc10 : St (comp HF0 (ws shaXM) 10) 2357671019 2382687417 2241887071 3842179968 482944406 852110732 207977081 2603066369 := xc9.next 310598401 0 4052163489 2357671019 482944406 (by decide +kernel) xw9 (by decide +kernel) (by decide +kernel) (by decide +kernel)
theorem xc11 : St (comp HF0 (ws shaXM) 11) 1201185780 2357671019 2382687417 2241887071 1131095016 482944406 852110732 207977081 := xc10.next 607225278 0 1583882344 1201185780 1131095016 (by decide +kernel) xw10 (by decide +kernel) (by decide +kernel) (by decide +kernel)
theorem xc12 : St (comp HF0 (ws shaXM) 12) 4146054569 1201185780 2357671019 2382687417 2171590377 1131095016 482944406 852110732 := xc11.next 1426881987 0 4224670602 4146054569 2171590377 (by decide +kernel) xw11 (by decide +kernel) (by decide +kernel) (by decide +kernel)
theorem xc13 : St (comp HF0 (ws shaXM) 13) 2274437520 4146054569 1201185780 2357671019 509051416 2171590377 1131095016 482944406 := xc12.next 1925078388 0 2421331295 2274437520 509051416 (by decide +kernel) xw12 (by decide +kernel) (by decide +kernel) (by decide +kernel)
theorem xc14 : St (comp HF0 (ws shaXM) 14) 3643992854 2274437520 4146054569 1201185780 1952073950 509051416 2171590377 1131095016 := xc13.next 2162078206 0 3889370227 3643992854 1952073950 (by decide +kernel) xw13 (by decide +kernel) (by decide +kernel) (by decide +kernel)
theorem xc15 : St (comp HF0 (ws shaXM) 15) 3227803614 3643992854 2274437520 4146054569 194179596 1952073950 509051416 2171590377 := xc14.next 2614888103 0 3287961112 3227803614 194179596 (by decide +kernel) xw14 (by decide +kernel) (by decide +kernel) (by decide +kernel)
theorem xc16 : St (comp HF0 (ws shaXM) 16) 2969183118 3227803614 3643992854 2274437520 123276749 194179596 1952073950 509051416 := xc15.next 3248222580 24 272189476 2969183118 123276749 (by decide +kernel) xw15 (by decide +kernel) (by decide +kernel) (by decide +kernel)
theorem xc17 : St (comp HF0 (ws shaXM) 17) 567974555 2969183118 3227803614 3643992854 2150900380 123276749 194179596 1952073950 := xc16.next 3835390401 1633837952 4171430156 567974555 2150900380 (by decide +kernel) xw16 (by decide +kernel) (by decide +kernel) (by decide +kernel)
theorem xc18 : St (comp HF0 (ws shaXM) 18) 3271285201 567974555 2969183118 3227803614 2221859924 2150900380 123276749 194179596 := xc17.next 4022224774 983040 2872834366 3271285201 2221859924 (by decide +kernel) xw17 (by decide +kernel) (by decide +kernel) (by decide +kernel)
theorem xc19 : St (comp HF0 (ws shaXM) 19) 4269243327 3271285201 567974555 2969183118 3431569761 2221859924 2150900380 123276749 := xc18.next 264347078 2108187653 203766147 4269243327 3431569761 (by decide +kernel) xw18 (by decide +kernel) (by decide +kernel) (by decide +kernel)
theorem xc20 : St (comp HF0 (ws shaXM) 20) 3790736435 4269243327 3271285201 567974555 2959311225 3431569761 2221859924 2150900380 := xc19.next 604807628 1610613702 4285095403 3790736435 2959311225 (by decide +kernel) xw19 (by decide +kernel) (by decide +kernel) (by decide +kernel)
theorem xc21 : St (comp HF0 (ws shaXM) 21) 2647034723 3790736435 4269243327 3271285201 2329577776 2959311225 3431569761 2221859924 := xc20.next 770255983 1050508152 1761603221 2647034723 2329577776 (by decide +kernel) xw20 (by decide +kernel) (by decide +kernel) (by decide +kernel)
theorem xc22 : St (comp HF0 (ws shaXM) 22) 3261099373 2647034723 3790736435 4269243327 3777329520 2329577776 2959311225 3431569761 := xc21.next 1249150122 25426944 506044319 3261099373 3777329520 (by decide +kernel) xw21 (by decide +kernel) (by decide +kernel) (by decide +kernel)
theorem xc23 : St (comp HF0 (ws shaXM) 23) 2812502591 3261099373 2647034723 3790736435 1240797514 3777329520 2329577776 2959311225 := xc22.next 1555081692 316456923 1266521483 2812502591 1240797514 (by decide +kernel) xw22 (by decide +kernel) (by decide +kernel) (by decide +kernel)
theorem xc24 : St (comp HF0 (ws shaXM) 24) 3319086477 2812502591 3261099373 2647034723 2856829767 1240797514 3777329520 2329577776 := xc23.next 1996064986 3806512014 3361060628 3319086477 2856829767 (by decide +kernel) xw23 (by decide +kernel) (by decide +kernel) (by decide +kernel)
theorem xc25 : St (comp HF0 (ws shaXM) 25) 472655928 3319086477 2812502591 3261099373 673443729 2856829767 1240797514 3777329520 := xc24.next 2554220882 3357629466 2321376302 472655928 673443729 (by decide +kernel) xw24 (by decide +kernel) (by decide +kernel) (by decide +kernel)
theorem xc26 : St (comp HF0 (ws shaXM) 26) 3454534525 472655928 3319086477 2812502591 339230094 673443729 2856829767 1240797514 := xc25.next 2821834349 3073800610 1373098017 3454534525 339230094 (by decide +kernel) xw25 (by decide +kernel) (by decide +kernel) (by decide +kernel)
theorem xc27 : St (comp HF0 (ws shaXM) 27) 3056518332 3454534525 472655928 3319086477 3343672598 339230094 673443729 2856829767 := xc26.next 2952996808 3854317833 531170007 3056518332 3343672598 (by decide +kernel) xw26 (by decide +kernel) (by decide +kernel) (by decide +kernel)
theorem xc28 : St (comp HF0 (ws shaXM) 28) 2010346792 3056518332 3454534525 472655928 3992961016 3343672598 339230094 673443729 := xc27.next 3210313671 845560923 673874539 2010346792 3992961016 (by decide +kernel) xw27 (by decide +kernel) (by decide +kernel) (by decide +kernel)
theorem xc29 : St (comp HF0 (ws shaXM) 29) 909411017 2010346792 3056518332 3454534525 1628611511 3992961016 3343672598 339230094 := xc28.next 3336571891 2636160359 1155955583 909411017 1628611511 (by decide +kernel) xw28 (by decide +kernel) (by decide +kernel) (by decide +kernel)
theorem xc30 : St (comp HF0 (ws shaXM) 30) 2684750640 909411017 2010346792 3056518332 2917635127 1628611511 3992961016 3343672598 := xc29.next 3584528711 3968280267 3758067898 2684750640 2917635127 (by decide +kernel) xw29 (by decide +kernel) (by decide +kernel) (by decide +kernel)
theorem xc31 : St (comp HF0 (ws shaXM) 31) 3935906338 2684750640 909411017 2010346792 17410874 2917635127 1628611511 3992961016 := xc30.next 113926993 1881225380 1255859838 3935906338 17410874 (by decide +kernel) xw30 (by decide +kernel) (by decide +kernel) (by decide +kernel)
theorem xc32 : St (comp HF0 (ws shaXM) 32) 1941126133 3935906338 2684750640 909411017 3126399250 17410874 2917635127 1628611511 := xc31.next 338241895 3552024379 1116052458 1941126133 3126399250 (by decide +kernel) xw31 (by decide +kernel) (by decide +kernel) (by decide +kernel)
theorem xc33 : St (comp HF0 (ws shaXM) 33) 2564891911 1941126133 3935906338 2684750640 2631529974 3126399250 17410874 2917635127 := xc32.next 666307205 2482346367 1722118957 2564891911 2631529974 (by decide +kernel) xw32 (by decide +kernel) (by decide +kernel) (by decide +kernel)
theorem xc34 : St (comp HF0 (ws shaXM) 34) 4267724277 2564891911 1941126133 3935906338 1495571923 2631529974 3126399250 17410874 := xc33.next 773529912 996719219 3105788579 4267724277 1495571923 (by decide +kernel) xw33 (by decide +kernel) (by decide +kernel) (by decide +kernel)
theorem xc35 : St (comp HF0 (ws shaXM) 35) 2846323596 4267724277 2564891911 1941126133 140458035 1495571923 2631529974 3126399250 := xc34.next 1294757372 2952069057 499518993 2846323596 140458035 (by decide +kernel) xw34 (by decide +kernel) (by decide +kernel) (by decide +kernel)
theorem xc36 : St (comp HF0 (ws shaXM) 36) 1705037796 2846323596 4267724277 2564891911 4105175766 140458035 1495571923 2631529974 := xc35.next 1396182291 4043988066 2164049633 1705037796 4105175766 (by decide +kernel) xw35 (by decide +kernel) (by decide +kernel) (by decide +kernel)
theorem xc37 : St (comp HF0 (ws shaXM) 37) 1101421745 1705037796 2846323596 4267724277 124953195 4105175766 140458035 1495571923 := xc36.next 1695183700 176896406 1855028580 1101421745 124953195 (by decide +kernel) xw36 (by decide +kernel) (by decide +kernel) (by decide +kernel)
theorem xc38 : St (comp HF0 (ws shaXM) 38) 887035396 1101421745 1705037796 2846323596 2768741693 124953195 4105175766 140458035 := xc37.next 1986661051 1924104970 2795984712 887035396 2768741693 (by decide +kernel) xw37 (by decide +kernel) (by decide +kernel) (by decide +kernel)
theorem xc39 : St (comp HF0 (ws shaXM) 39) 1841658506 887035396 1101421745 1705037796 4034403272 2768741693 124953195 4105175766 := xc38.next 2177026350 2483675966 1188079676 1841658506 4034403272 (by decide +kernel) xw38 (by decide +kernel) (by decide +kernel) (by decide +kernel)
theorem xc40 : St (comp HF0 (ws shaXM) 40) 2045405306 1841658506 887035396 1101421745 519815328 4034403272 2768741693 124953195 := xc39.next 2456956037 610538786 3109744828 2045405306 519815328 (by decide +kernel) xw39 (by decide +kernel) (by decide +kernel) (by decide +kernel)
theorem xc41 : St (comp HF0 (ws shaXM) 41) 3597076326 2045405306 1841658506 887035396 641019235 519815328 4034403272 2768741693 := xc40.next 2730485921 2672279444 3834564786 3597076326 641019235 (by decide +kernel) xw40 (by decide +kernel) (by decide +kernel) (by decide +kernel)
theorem xc42 : St (comp HF0 (ws shaXM) 42) 3745932591 3597076326 2045405306 1841658506 2206934801 641019235 519815328 4034403272 := xc41.next 2820302411 4037431130 1319899405 3745932591 2206934801 (by decide +kernel) xw41 (by decide +kernel) (by decide +kernel) (by decide +kernel)
theorem xc43 : St (comp HF0 (ws shaXM) 43) 397020670 3745932591 3597076326 2045405306 3737995029 2206934801 641019235 519815328 := xc42.next 3259730800 1042573945 1896336523 397020670 3737995029 (by decide +kernel) xw42 (by decide +kernel) (by decide +kernel) (by decide +kernel)
theorem xc44 : St (comp HF0 (ws shaXM) 44) 2638983059 397020670 3745932591 3597076326 4255271982 3737995029 2206934801 641019235 := xc43.next 3345764771 657669027 2209866676 2638983059 4255271982 (by decide +kernel) xw43 (by decide +kernel) (by decide +kernel) (by decide +kernel)
theorem xc45 : St (comp HF0 (ws shaXM) 45) 643991573 2638983059 397020670 3745932591 2819559920 4255271982 3737995029 2206934801 := xc44.next 3516065817 206005234 3517450890 643991573 2819559920 (by decide +kernel) xw44 (by decide +kernel) (by decide +kernel) (by decide +kernel)
theorem xc46 : St (comp HF0 (ws shaXM) 46) 1923828625 643991573 2638983059 397020670 3077922209 2819559920 4255271982 3737995029 := xc45.next 3600352804 2215296807 3626956914 1923828625 3077922209 (by decide +kernel) xw45 (by decide +kernel) (by decide +kernel) (by decide +kernel)
theorem xc47 : St (comp HF0 (ws shaXM) 47) 2706117808 1923828625 643991573 2638983059 3581645993 3077922209 2819559920 4255271982 := xc46.next 4094571909 2049510749 3184625323 2706117808 3581645993 (by decide +kernel) xw46 (by decide +kernel) (by decide +kernel) (by decide +kernel)
theorem xc48 : St (comp HF0 (ws shaXM) 48) 1098003085 2706117808 1923828625 643991573 4274981830 3581645993 3077922209 2819559920 := xc47.next 275423344 106709978 1635998771 1098003085 4274981830 (by decide +kernel) xw47 (by decide +kernel) (by decide +kernel) (by decide +kernel)
theorem xc49 : St (comp HF0 (ws shaXM) 49) 91585771 1098003085 2706117808 1923828625 3178315832 4274981830 3581645993 3077922209 := xc48.next 430227734 4215179723 2534324259 91585771 3178315832 (by decide +kernel) xw48 (by decide +kernel) (by decide +kernel) (by decide +kernel)
theorem xc50 : St (comp HF0 (ws shaXM) 50) 4045142696 91585771 1098003085 2706117808 1851537676 3178315832 4274981830 3581645993 := xc49.next 506948616 3430291419 4222676347 4045142696 1851537676 (by decide +kernel) xw49 (by decide +kernel) (by decide +kernel) (by decide +kernel)
theorem xc51 : St (comp HF0 (ws shaXM) 51) 2047150241 4045142696 91585771 1098003085 1391578359 1851537676 3178315832 4274981830 := xc50.next 659060556 3118885940 2980427847 2047150241 1391578359 (by decide +kernel) xw50 (by decide +kernel) (by decide +kernel) (by decide +kernel)
theorem xc52 : St (comp HF0 (ws shaXM) 52) 2288941602 2047150241 4045142696 91585771 1227037726 1391578359 1851537676 3178315832 := xc51.next 883997877 2845390439 129034641 2288941602 1227037726 (by decide +kernel) xw51 (by decide +kernel) (by decide +kernel) (by decide +kernel)
theorem xc53 : St (comp HF0 (ws shaXM) 53) 270520975 2288941602 2047150241 4045142696 1386118400 1227037726 1391578359 1851537676 := xc52.next 958139571 2226839261 1294532629 270520975 1386118400 (by decide +kernel) xw52 (by decide +kernel) (by decide +kernel) (by decide +kernel)
theorem xc54 : St (comp HF0 (ws shaXM) 54) 4117770203 270520975 2288941602 2047150241 2672265155 1386118400 1227037726 1391578359 := xc53.next 1322822218 3256115900 2922089755 4117770203 2672265155 (by decide +kernel) xw53 (by decide +kernel) (by decide +kernel) (by decide +kernel)
theorem xc55 : St (comp HF0 (ws shaXM) 55) 1053056219 4117770203 270520975 2288941602 3842906959 2672265155 1386118400 1227037726 := xc54.next 1537002063 344409900 1795756718 1053056219 3842906959 (by decide +kernel) xw54 (by decide +kernel) (by decide +kernel) (by decide +kernel)
theorem xc56 : St (comp HF0 (ws shaXM) 56) 952932627 1053056219 4117770203 270520975 1422599787 3842906959 2672265155 1386118400 := xc55.next 1747873779 2987358873 3428625481 952932627 1422599787 (by decide +kernel) xw55 (by decide +kernel) (by decide +kernel) (by decide +kernel)
theorem xc57 : St (comp HF0 (ws shaXM) 57) 4241590395 952932627 1053056219 4117770203 2606665836 1422599787 3842906959 2672265155 := xc56.next 1955562222 4015503821 2336144861 4241590395 2606665836 (by decide +kernel) xw56 (by decide +kernel) (by decide +kernel) (by decide +kernel)
theorem xc58 : St (comp HF0 (ws shaXM) 58) 3227702383 4241590395 952932627 1053056219 2118385806 2606665836 1422599787 3842906959 := xc57.next 2024104815 3957764664 2295582899 3227702383 2118385806 (by decide +kernel) xw57 (by decide +kernel) (by decide +kernel) (by decide +kernel)
theorem xc59 : St (comp HF0 (ws shaXM) 59) 4290184306 3227702383 4241590395 952932627 1837350854 2118385806 2606665836 1422599787 := xc58.next 2227730452 2682456414 784294635 4290184306 1837350854 (by decide +kernel) xw58 (by decide +kernel) (by decide +kernel) (by decide +kernel)
theorem xc60 : St (comp HF0 (ws shaXM) 60) 3064893439 4290184306 3227702383 4241590395 2988158269 1837350854 2118385806 2606665836 := xc59.next 2361852424 2025622859 2035225642 3064893439 2988158269 (by decide +kernel) xw59 (by decide +kernel) (by decide +kernel) (by decide +kernel)
theorem xc61 : St (comp HF0 (ws shaXM) 61) 3093179625 3064893439 4290184306 3227702383 2518632596 2988158269 1837350854 2118385806 := xc60.next 2428436474 2755645205 2572009497 3093179625 2518632596 (by decide +kernel) xw60 (by decide +kernel) (by decide +kernel) (by decide +kernel)
theorem xc62 : St (comp HF0 (ws shaXM) 62) 80891244 3093179625 3064893439 4290184306 2492278198 2518632596 2988158269 1837350854 := xc61.next 2756734187 1720397816 3559543111 80891244 2492278198 (by decide +kernel) xw61 (by decide +kernel) (by decide +kernel) (by decide +kernel)
theorem xc63 : St (comp HF0 (ws shaXM) 63) 3550093669 80891244 3093179625 3064893439 4212265488 2492278198 2518632596 2988158269 := xc62.next 3204031479 4004225740 4217048478 3550093669 4212265488 (by decide +kernel) xw62 (by decide +kernel) (by decide +kernel) (by decide +kernel)
theorem xc64 : St (comp HF0 (ws shaXM) 64) 1349398616 3550093669 80891244 3093179625 1593118500 4212265488 2492278198 2518632596 := xc63.next 3329325298 313650667 2823192357 1349398616 1593118500 (by decide +kernel) xw63 (by decide +kernel) (by decide +kernel) (by decide +kernel)
theorem shaEx : hF (shaM shaX) ((shaM shaX).length / 64) 0 = 3128432319 := by
  rw [show (shaM shaX).length / 64 = 0 + 1 by decide +kernel]
  show ad (HF0 0) (comp HF0 (ws shaXM) 64 0) = _
  rw [xc64.1]; decide +kernel
theorem shaEx0 : (sumL shaX).getD 0 0 = 186 := by
  show ((hF (shaM shaX) ((shaM shaX).length / 64) 0 / 2 ^ 24 % 256 : Nat) : Int) = 186
  rw [shaEx]; decide
theorem shaEx1 : (sumL shaX).getD 1 0 = 120 := by
  show ((hF (shaM shaX) ((shaM shaX).length / 64) 0 / 2 ^ 16 % 256 : Nat) : Int) = 120
  rw [shaEx]; decide
end Go.Proofs.YtmcoakjbfgfgpaaDoor
