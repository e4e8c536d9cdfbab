/- Straight walks of the document's Walk. -/
import Derived.Test.YthcngafjklihcaaDoorY0a
import Derived.Test.YthcngafjklihcaaDoorY0b
import Derived.Test.YthcngafjklihcaaDoorY0c
import Derived.Test.YthcngafjklihcaaDoorY0d
namespace Go.Proofs.YthcngafjklihcaaDoor
open Go.ChangeShapes Go.WideShapes Go.ChangeAt Go.RowKit
open Go.Vx

theorem refWalk_0 {w : World} {br bb n : Nat} {f : Nat → UInt8} (h : RefAt w br bb n f) (r : Nat) (hr : r < n) (va : Nat) (hva : va < 4294967296) :
    Calls Tryd.prog 51 #[.pointer (some ⟨br, 0, none⟩), .int .i64 (r : Int), .int .i64 (va : Int), .int .i64 0] w fun x w' => x = .returned (.tuple #[.int .i64 ((walkF f n (r : Int) va 0).1 : Nat), .int .i64 (walkF f n (r : Int) va 0).2]) ∧ Only (fun _ => False) w w' := by
  obtain ⟨e1, he1⟩ : ∃ e, wordF f (4096 * r + 4 * (va / 4194304)) = e := ⟨_, rfl⟩
  generalize hW : walkF f n (r : Int) va 0 = WF
  by_cases x1_2 : e1 % 2 = 0
  · skip
    by_cases x2_2 : e1 / 2 % 2 = 0
    · skip
      by_cases x8_2 : e1 / 8 % 2 = 0
      · skip
        rw [show WF = _ from hW.symm.trans ((wv_lead0 (u := 0) (by decide) hr he1 (by simp [leadsB, x1_2])).trans (end_page (by rw [show okB 0 e1 = false by simp [okB, rightN, x1_2, x2_2, x8_2], Bool.false_and])))]
        exact rw0_f1Nb1 h r hr va hva e1 he1 x2_2 x8_2 x1_2
      · replace x8_2 : e1 / 8 % 2 = 1 := by omega
        rw [show WF = _ from hW.symm.trans ((wv_lead0 (u := 0) (by decide) hr he1 (by simp [leadsB, x1_2])).trans (end_page (by rw [show okB 0 e1 = false by simp [okB, rightN, x1_2, x2_2, x8_2], Bool.false_and])))]
        exact rw0_f1Xb1 h r hr va hva e1 he1 x2_2 x8_2 x1_2
    · replace x2_2 : e1 / 2 % 2 = 1 := by omega
      rw [show WF = _ from hW.symm.trans ((wv_lead0 (u := 0) (by decide) hr he1 (by simp [leadsB, x1_2])).trans (end_page (by rw [show okB 0 e1 = false by simp [okB, rightN, x1_2, x2_2], Bool.false_and])))]
      exact rw0_f1Rb1 h r hr va hva e1 he1 x2_2 x1_2
  · replace x1_2 : e1 % 2 = 1 := by omega
    by_cases x2_8 : e1 / 2 % 8 = 0
    · skip
      by_cases x16_2 : e1 / 16 % 2 = 0
      · skip
        by_cases x64_4 : e1 / 64 % 4 = 0
        · skip
          by_cases hn2 : n ≤ e1 / 1024
          · skip
            rw [show WF = _ from hW.symm.trans (wv_acc2 (u := 0) (by decide) hr he1 (by simp [leadsB, x1_2, x2_8, x16_2, x64_4]) hn2)]
            exact rw0_t2 h r hr va hva e1 he1 x1_2 x2_8 x16_2 x64_4 hn2
          · replace hn2 : e1 / 1024 < n := by omega
            obtain ⟨e2, he2⟩ : ∃ e, wordF f (4096 * (e1 / 1024) + 4 * (va % 4194304 / 4096)) = e := ⟨_, rfl⟩
            by_cases y2_2 : e2 / 2 % 2 = 0
            · skip
              by_cases y8_2 : e2 / 8 % 2 = 0
              · skip
                by_cases y1_2 : e2 % 2 = 0
                · skip
                  rw [show WF = _ from hW.symm.trans ((wv_lead1 (u := 0) (by decide) hr he1 (by simp [leadsB, x1_2, x2_8, x16_2, x64_4]) hn2 he2).trans (end_page (by rw [show okB 0 e2 = false by simp [okB, rightN, y1_2, y2_2, y8_2], Bool.false_and])))]
                  exact rw0_tNb1 h r hr va hva e1 he1 x1_2 x2_8 x16_2 x64_4 hn2 e2 he2 y2_2 y8_2 y1_2
                · replace y1_2 : e2 % 2 = 1 := by omega
                  rw [show WF = _ from hW.symm.trans ((wv_lead1 (u := 0) (by decide) hr he1 (by simp [leadsB, x1_2, x2_8, x16_2, x64_4]) hn2 he2).trans (end_page (by rw [show okB 0 e2 = false by simp [okB, rightN, y1_2, y2_2, y8_2], Bool.false_and])))]
                  exact rw0_tN h r hr va hva e1 he1 x1_2 x2_8 x16_2 x64_4 hn2 e2 he2 y2_2 y8_2 y1_2
              · replace y8_2 : e2 / 8 % 2 = 1 := by omega
                by_cases y1_2 : e2 % 2 = 0
                · skip
                  rw [show WF = _ from hW.symm.trans ((wv_lead1 (u := 0) (by decide) hr he1 (by simp [leadsB, x1_2, x2_8, x16_2, x64_4]) hn2 he2).trans (end_page (by rw [show okB 0 e2 = false by simp [okB, rightN, y1_2, y2_2, y8_2], Bool.false_and])))]
                  exact rw0_tXb1 h r hr va hva e1 he1 x1_2 x2_8 x16_2 x64_4 hn2 e2 he2 y2_2 y8_2 y1_2
                · replace y1_2 : e2 % 2 = 1 := by omega
                  by_cases y2_4 : e2 / 2 % 4 = 2
                  · skip
                    rw [show WF = _ from hW.symm.trans ((wv_lead1 (u := 0) (by decide) hr he1 (by simp [leadsB, x1_2, x2_8, x16_2, x64_4]) hn2 he2).trans (end_page (by rw [show okB 0 e2 = false by simp [okB, rightN, y1_2, y2_2, y8_2, y2_4], Bool.false_and])))]
                    exact rw0_tXw h r hr va hva e1 he1 x1_2 x2_8 x16_2 x64_4 hn2 e2 he2 y2_2 y8_2 y1_2 y2_4
                  · skip
                    by_cases y16_2 : e2 / 16 % 2 = 0
                    · skip
                      rw [show WF = _ from hW.symm.trans ((wv_lead1 (u := 0) (by decide) hr he1 (by simp [leadsB, x1_2, x2_8, x16_2, x64_4]) hn2 he2).trans (end_page (by rw [show okB 0 e2 = false by simp [okB, rightN, y1_2, y2_2, y8_2, y2_4, y16_2], Bool.false_and])))]
                      exact rw0_tXu h r hr va hva e1 he1 x1_2 x2_8 x16_2 x64_4 hn2 e2 he2 y2_2 y8_2 y1_2 y2_4 y16_2
                    · replace y16_2 : e2 / 16 % 2 = 1 := by omega
                      by_cases y64_2 : e2 / 64 % 2 = 0
                      · skip
                        rw [show WF = _ from hW.symm.trans ((wv_lead1 (u := 0) (by decide) hr he1 (by simp [leadsB, x1_2, x2_8, x16_2, x64_4]) hn2 he2).trans (end_page (by rw [show okB 0 e2 = false by simp [okB, rightN, y1_2, y2_2, y8_2, y2_4, y16_2, y64_2], Bool.false_and])))]
                        exact rw0_tXa h r hr va hva e1 he1 x1_2 x2_8 x16_2 x64_4 hn2 e2 he2 y2_2 y8_2 y1_2 y2_4 y16_2 y64_2
                      · replace y64_2 : e2 / 64 % 2 = 1 := by omega
                        by_cases hge : 4096 * n ≤ e2 / 1024 * 4096 + va % 4096
                        · skip
                          have hok : (okB 0 e2 && wholeB e2 4096) = true := by rw [show okB 0 e2 = true by simp [okB, rightN, y1_2, y2_2, y8_2, y2_4, y16_2, y64_2], whole_small e2]; rfl
                          rw [show WF = _ from hW.symm.trans ((wv_lead1 (u := 0) (by decide) hr he1 (by simp [leadsB, x1_2, x2_8, x16_2, x64_4]) hn2 he2).trans (end_acc hok hge))]
                          exact rw0_tXo h r hr va hva e1 he1 x1_2 x2_8 x16_2 x64_4 hn2 e2 he2 y2_2 y8_2 y1_2 y2_4 y16_2 y64_2 hge
                        · skip
                          have hok : (okB 0 e2 && wholeB e2 4096) = true := by rw [show okB 0 e2 = true by simp [okB, rightN, y1_2, y2_2, y8_2, y2_4, y16_2, y64_2], whole_small e2]; rfl
                          rw [show WF = _ from hW.symm.trans ((wv_lead1 (u := 0) (by decide) hr he1 (by simp [leadsB, x1_2, x2_8, x16_2, x64_4]) hn2 he2).trans (end_in hok hge))]
                          exact rw0_tXi h r hr va hva e1 he1 x1_2 x2_8 x16_2 x64_4 hn2 e2 he2 y2_2 y8_2 y1_2 y2_4 y16_2 y64_2 hge
            · replace y2_2 : e2 / 2 % 2 = 1 := by omega
              by_cases y8_2 : e2 / 8 % 2 = 0
              · skip
                by_cases y1_2 : e2 % 2 = 0
                · skip
                  rw [show WF = _ from hW.symm.trans ((wv_lead1 (u := 0) (by decide) hr he1 (by simp [leadsB, x1_2, x2_8, x16_2, x64_4]) hn2 he2).trans (end_page (by rw [show okB 0 e2 = false by simp [okB, rightN, y1_2, y2_2], Bool.false_and])))]
                  exact rw0_tRb1 h r hr va hva e1 he1 x1_2 x2_8 x16_2 x64_4 hn2 e2 he2 y2_2 y1_2
                · replace y1_2 : e2 % 2 = 1 := by omega
                  have y2_4 : e2 / 2 % 4 ≠ 2 := by omega
                  rw [show WF = _ from hW.symm.trans ((wv_lead1 (u := 0) (by decide) hr he1 (by simp [leadsB, x1_2, x2_8, x16_2, x64_4]) hn2 he2).trans (end_page (by rw [show okB 0 e2 = false by simp [okB, rightN, y1_2, y2_2, y8_2, y2_4], Bool.false_and])))]
                  exact rw0_tRr h r hr va hva e1 he1 x1_2 x2_8 x16_2 x64_4 hn2 e2 he2 y2_2 y1_2 y2_4 y8_2
              · replace y8_2 : e2 / 8 % 2 = 1 := by omega
                by_cases y1_2 : e2 % 2 = 0
                · skip
                  rw [show WF = _ from hW.symm.trans ((wv_lead1 (u := 0) (by decide) hr he1 (by simp [leadsB, x1_2, x2_8, x16_2, x64_4]) hn2 he2).trans (end_page (by rw [show okB 0 e2 = false by simp [okB, rightN, y1_2, y2_2], Bool.false_and])))]
                  exact rw0_tRb1 h r hr va hva e1 he1 x1_2 x2_8 x16_2 x64_4 hn2 e2 he2 y2_2 y1_2
                · replace y1_2 : e2 % 2 = 1 := by omega
                  by_cases y16_2 : e2 / 16 % 2 = 0
                  · skip
                    have y2_4 : e2 / 2 % 4 ≠ 2 := by omega
                    rw [show WF = _ from hW.symm.trans ((wv_lead1 (u := 0) (by decide) hr he1 (by simp [leadsB, x1_2, x2_8, x16_2, x64_4]) hn2 he2).trans (end_page (by rw [show okB 0 e2 = false by simp [okB, rightN, y1_2, y2_2, y8_2, y2_4, y16_2], Bool.false_and])))]
                    exact rw0_tRu h r hr va hva e1 he1 x1_2 x2_8 x16_2 x64_4 hn2 e2 he2 y2_2 y1_2 y2_4 y8_2 y16_2
                  · replace y16_2 : e2 / 16 % 2 = 1 := by omega
                    by_cases y64_2 : e2 / 64 % 2 = 0
                    · skip
                      have y2_4 : e2 / 2 % 4 ≠ 2 := by omega
                      rw [show WF = _ from hW.symm.trans ((wv_lead1 (u := 0) (by decide) hr he1 (by simp [leadsB, x1_2, x2_8, x16_2, x64_4]) hn2 he2).trans (end_page (by rw [show okB 0 e2 = false by simp [okB, rightN, y1_2, y2_2, y8_2, y2_4, y16_2, y64_2], Bool.false_and])))]
                      exact rw0_tRa h r hr va hva e1 he1 x1_2 x2_8 x16_2 x64_4 hn2 e2 he2 y2_2 y1_2 y2_4 y8_2 y16_2 y64_2
                    · replace y64_2 : e2 / 64 % 2 = 1 := by omega
                      have y2_4 : e2 / 2 % 4 ≠ 2 := by omega
                      by_cases hge : 4096 * n ≤ e2 / 1024 * 4096 + va % 4096
                      · skip
                        have hok : (okB 0 e2 && wholeB e2 4096) = true := by rw [show okB 0 e2 = true by simp [okB, rightN, y1_2, y2_2, y8_2, y2_4, y16_2, y64_2], whole_small e2]; rfl
                        rw [show WF = _ from hW.symm.trans ((wv_lead1 (u := 0) (by decide) hr he1 (by simp [leadsB, x1_2, x2_8, x16_2, x64_4]) hn2 he2).trans (end_acc hok hge))]
                        exact rw0_tRo h r hr va hva e1 he1 x1_2 x2_8 x16_2 x64_4 hn2 e2 he2 y2_2 y1_2 y2_4 y8_2 y16_2 y64_2 hge
                      · skip
                        have hok : (okB 0 e2 && wholeB e2 4096) = true := by rw [show okB 0 e2 = true by simp [okB, rightN, y1_2, y2_2, y8_2, y2_4, y16_2, y64_2], whole_small e2]; rfl
                        rw [show WF = _ from hW.symm.trans ((wv_lead1 (u := 0) (by decide) hr he1 (by simp [leadsB, x1_2, x2_8, x16_2, x64_4]) hn2 he2).trans (end_in hok hge))]
                        exact rw0_tRi h r hr va hva e1 he1 x1_2 x2_8 x16_2 x64_4 hn2 e2 he2 y2_2 y1_2 y2_4 y8_2 y16_2 y64_2 hge
        · skip
          have x2_2 : e1 / 2 % 2 = 0 := by omega
          have x8_2 : e1 / 8 % 2 = 0 := by omega
          rw [show WF = _ from hW.symm.trans ((wv_lead0 (u := 0) (by decide) hr he1 (by simp [leadsB, x1_2, x2_8, x16_2, x64_4])).trans (end_page (by rw [show okB 0 e1 = false by simp [okB, rightN, x1_2, x2_2, x8_2, x16_2], Bool.false_and])))]
          exact rw0_f4N h r hr va hva e1 he1 x2_2 x8_2 x1_2 x2_8 x16_2 x64_4
      · replace x16_2 : e1 / 16 % 2 = 1 := by omega
        have x2_2 : e1 / 2 % 2 = 0 := by omega
        have x8_2 : e1 / 8 % 2 = 0 := by omega
        rw [show WF = _ from hW.symm.trans ((wv_lead0 (u := 0) (by decide) hr he1 (by simp [leadsB, x1_2, x2_8, x16_2])).trans (end_page (by rw [show okB 0 e1 = false by simp [okB, rightN, x1_2, x2_2, x8_2, x16_2], Bool.false_and])))]
        exact rw0_f3N h r hr va hva e1 he1 x2_2 x8_2 x1_2 x2_8 x16_2
    · skip
      by_cases x16_2 : e1 / 16 % 2 = 0
      · skip
        by_cases x2_2 : e1 / 2 % 2 = 0
        · skip
          by_cases x8_2 : e1 / 8 % 2 = 0
          · skip
            rw [show WF = _ from hW.symm.trans ((wv_lead0 (u := 0) (by decide) hr he1 (by simp [leadsB, x1_2, x2_8])).trans (end_page (by rw [show okB 0 e1 = false by simp [okB, rightN, x1_2, x2_2, x8_2], Bool.false_and])))]
            exact rw0_f2N h r hr va hva e1 he1 x2_2 x8_2 x1_2 x2_8
          · replace x8_2 : e1 / 8 % 2 = 1 := by omega
            by_cases x2_4 : e1 / 2 % 4 = 2
            · skip
              rw [show WF = _ from hW.symm.trans ((wv_lead0 (u := 0) (by decide) hr he1 (by simp [leadsB, x1_2, x2_8])).trans (end_page (by rw [show okB 0 e1 = false by simp [okB, rightN, x1_2, x2_2, x8_2, x2_4], Bool.false_and])))]
              exact rw0_f2Xw h r hr va hva e1 he1 x2_2 x8_2 x1_2 x2_4 x2_8
            · skip
              rw [show WF = _ from hW.symm.trans ((wv_lead0 (u := 0) (by decide) hr he1 (by simp [leadsB, x1_2, x2_8, x16_2])).trans (end_page (by rw [show okB 0 e1 = false by simp [okB, rightN, x1_2, x2_2, x8_2, x2_4, x16_2], Bool.false_and])))]
              exact rw0_f2Xu h r hr va hva e1 he1 x2_2 x8_2 x1_2 x2_4 x16_2 x2_8
        · replace x2_2 : e1 / 2 % 2 = 1 := by omega
          by_cases x8_2 : e1 / 8 % 2 = 0
          · skip
            have x2_4 : e1 / 2 % 4 ≠ 2 := by omega
            rw [show WF = _ from hW.symm.trans ((wv_lead0 (u := 0) (by decide) hr he1 (by simp [leadsB, x1_2, x2_8])).trans (end_page (by rw [show okB 0 e1 = false by simp [okB, rightN, x1_2, x2_2, x8_2, x2_4], Bool.false_and])))]
            exact rw0_f2Rr h r hr va hva e1 he1 x2_2 x1_2 x2_4 x8_2 x2_8
          · replace x8_2 : e1 / 8 % 2 = 1 := by omega
            have x2_4 : e1 / 2 % 4 ≠ 2 := by omega
            rw [show WF = _ from hW.symm.trans ((wv_lead0 (u := 0) (by decide) hr he1 (by simp [leadsB, x1_2, x2_8, x16_2])).trans (end_page (by rw [show okB 0 e1 = false by simp [okB, rightN, x1_2, x2_2, x8_2, x2_4, x16_2], Bool.false_and])))]
            exact rw0_f2Ru h r hr va hva e1 he1 x2_2 x1_2 x2_4 x8_2 x16_2 x2_8
      · replace x16_2 : e1 / 16 % 2 = 1 := by omega
        by_cases x2_2 : e1 / 2 % 2 = 0
        · skip
          by_cases x8_2 : e1 / 8 % 2 = 0
          · skip
            rw [show WF = _ from hW.symm.trans ((wv_lead0 (u := 0) (by decide) hr he1 (by simp [leadsB, x1_2, x2_8])).trans (end_page (by rw [show okB 0 e1 = false by simp [okB, rightN, x1_2, x2_2, x8_2], Bool.false_and])))]
            exact rw0_f2N h r hr va hva e1 he1 x2_2 x8_2 x1_2 x2_8
          · replace x8_2 : e1 / 8 % 2 = 1 := by omega
            by_cases x2_4 : e1 / 2 % 4 = 2
            · skip
              rw [show WF = _ from hW.symm.trans ((wv_lead0 (u := 0) (by decide) hr he1 (by simp [leadsB, x1_2, x2_8])).trans (end_page (by rw [show okB 0 e1 = false by simp [okB, rightN, x1_2, x2_2, x8_2, x2_4], Bool.false_and])))]
              exact rw0_f2Xw h r hr va hva e1 he1 x2_2 x8_2 x1_2 x2_4 x2_8
            · skip
              by_cases x64_2 : e1 / 64 % 2 = 0
              · skip
                rw [show WF = _ from hW.symm.trans ((wv_lead0 (u := 0) (by decide) hr he1 (by simp [leadsB, x1_2, x2_8, x16_2])).trans (end_page (by rw [show okB 0 e1 = false by simp [okB, rightN, x1_2, x2_2, x8_2, x2_4, x16_2, x64_2], Bool.false_and])))]
                exact rw0_f2Xa h r hr va hva e1 he1 x2_2 x8_2 x1_2 x2_4 x16_2 x64_2 x2_8
              · replace x64_2 : e1 / 64 % 2 = 1 := by omega
                by_cases x1024_1024 : e1 / 1024 % 1024 = 0
                · skip
                  by_cases hge : 4096 * n ≤ e1 / 1024 * 4096 + va % 4194304
                  · skip
                    have hok : (okB 0 e1 && wholeB e1 4194304) = true := by rw [show okB 0 e1 = true by simp [okB, rightN, x1_2, x2_2, x8_2, x2_4, x16_2, x64_2], whole_great x1024_1024]; rfl
                    rw [show WF = _ from hW.symm.trans ((wv_lead0 (u := 0) (by decide) hr he1 (by simp [leadsB, x1_2, x2_8, x16_2])).trans (end_acc hok hge))]
                    exact rw0_f2Xo h r hr va hva e1 he1 x2_2 x8_2 x1_2 x2_4 x16_2 x64_2 x1024_1024 x2_8 hge
                  · skip
                    have hok : (okB 0 e1 && wholeB e1 4194304) = true := by rw [show okB 0 e1 = true by simp [okB, rightN, x1_2, x2_2, x8_2, x2_4, x16_2, x64_2], whole_great x1024_1024]; rfl
                    rw [show WF = _ from hW.symm.trans ((wv_lead0 (u := 0) (by decide) hr he1 (by simp [leadsB, x1_2, x2_8, x16_2])).trans (end_in hok hge))]
                    exact rw0_f2Xi h r hr va hva e1 he1 x2_2 x8_2 x1_2 x2_4 x16_2 x64_2 x1024_1024 x2_8 hge
                · skip
                  rw [show WF = _ from hW.symm.trans ((wv_lead0 (u := 0) (by decide) hr he1 (by simp [leadsB, x1_2, x2_8, x16_2])).trans (end_page (by rw [whole_not x1024_1024, Bool.and_false])))]
                  exact rw0_f2Xh h r hr va hva e1 he1 x2_2 x8_2 x1_2 x2_4 x16_2 x64_2 x1024_1024 x2_8
        · replace x2_2 : e1 / 2 % 2 = 1 := by omega
          by_cases x8_2 : e1 / 8 % 2 = 0
          · skip
            have x2_4 : e1 / 2 % 4 ≠ 2 := by omega
            rw [show WF = _ from hW.symm.trans ((wv_lead0 (u := 0) (by decide) hr he1 (by simp [leadsB, x1_2, x2_8])).trans (end_page (by rw [show okB 0 e1 = false by simp [okB, rightN, x1_2, x2_2, x8_2, x2_4], Bool.false_and])))]
            exact rw0_f2Rr h r hr va hva e1 he1 x2_2 x1_2 x2_4 x8_2 x2_8
          · replace x8_2 : e1 / 8 % 2 = 1 := by omega
            by_cases x64_2 : e1 / 64 % 2 = 0
            · skip
              have x2_4 : e1 / 2 % 4 ≠ 2 := by omega
              rw [show WF = _ from hW.symm.trans ((wv_lead0 (u := 0) (by decide) hr he1 (by simp [leadsB, x1_2, x2_8, x16_2])).trans (end_page (by rw [show okB 0 e1 = false by simp [okB, rightN, x1_2, x2_2, x8_2, x2_4, x16_2, x64_2], Bool.false_and])))]
              exact rw0_f2Ra h r hr va hva e1 he1 x2_2 x1_2 x2_4 x8_2 x16_2 x64_2 x2_8
            · replace x64_2 : e1 / 64 % 2 = 1 := by omega
              by_cases x1024_1024 : e1 / 1024 % 1024 = 0
              · skip
                have x2_4 : e1 / 2 % 4 ≠ 2 := by omega
                by_cases hge : 4096 * n ≤ e1 / 1024 * 4096 + va % 4194304
                · skip
                  have hok : (okB 0 e1 && wholeB e1 4194304) = true := by rw [show okB 0 e1 = true by simp [okB, rightN, x1_2, x2_2, x8_2, x2_4, x16_2, x64_2], whole_great x1024_1024]; rfl
                  rw [show WF = _ from hW.symm.trans ((wv_lead0 (u := 0) (by decide) hr he1 (by simp [leadsB, x1_2, x2_8, x16_2])).trans (end_acc hok hge))]
                  exact rw0_f2Ro h r hr va hva e1 he1 x2_2 x1_2 x2_4 x8_2 x16_2 x64_2 x1024_1024 x2_8 hge
                · skip
                  have hok : (okB 0 e1 && wholeB e1 4194304) = true := by rw [show okB 0 e1 = true by simp [okB, rightN, x1_2, x2_2, x8_2, x2_4, x16_2, x64_2], whole_great x1024_1024]; rfl
                  rw [show WF = _ from hW.symm.trans ((wv_lead0 (u := 0) (by decide) hr he1 (by simp [leadsB, x1_2, x2_8, x16_2])).trans (end_in hok hge))]
                  exact rw0_f2Ri h r hr va hva e1 he1 x2_2 x1_2 x2_4 x8_2 x16_2 x64_2 x1024_1024 x2_8 hge
              · skip
                have x2_4 : e1 / 2 % 4 ≠ 2 := by omega
                rw [show WF = _ from hW.symm.trans ((wv_lead0 (u := 0) (by decide) hr he1 (by simp [leadsB, x1_2, x2_8, x16_2])).trans (end_page (by rw [whole_not x1024_1024, Bool.and_false])))]
                exact rw0_f2Rh h r hr va hva e1 he1 x2_2 x1_2 x2_4 x8_2 x16_2 x64_2 x1024_1024 x2_8
end Go.Proofs.YthcngafjklihcaaDoor
