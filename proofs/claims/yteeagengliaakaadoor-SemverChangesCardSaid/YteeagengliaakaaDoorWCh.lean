/-
  Next of the program and of the specification return the same, for every version and change: the law SemverChanges. Condition: internal/bytealg.MaxLen holds some number.
-/
import Derived.Test.YteeagengliaakaaDoorN
import Derived.Test.YteeagengliaakaaDoorV
namespace Go.Proofs.YteeagengliaakaaDoor
open Go.RowKit
theorem law_changes (a b c n : Int) (w : World) (hM : Mx w) :
    Calls Tryd.prog 6 #[vv a b c, .int .i64 n] w fun e w' => e = .returned (.bool true) ∧ Below w.heap.size w w' := by
  cases ho : okV a b c
  · exact changes_walk a b c n 0 0 0 11 w hM (fun w => next_bad a b c n w ho) (fun w => rnext_bad a b c n w ho)
  · by_cases l : n < 0
    · exact changes_walk a b c n 0 0 0 5 w hM (fun w => next_unknown a b c n w ho (by unfold chg; rw [if_neg (by omega), if_neg (by omega), if_neg (by omega)])) (fun w => rnext_lo a b c n w ho l)
    · by_cases u : 2 < n
      · exact changes_walk a b c n 0 0 0 5 w hM (fun w => next_unknown a b c n w ho (by unfold chg; rw [if_neg (by omega), if_neg (by omega), if_neg (by omega)])) (fun w => rnext_hi a b c n w ho u)
      · obtain rfl | rfl | rfl : n = 0 ∨ n = 1 ∨ n = 2 := by omega
        · cases f0 : a == 0
          · cases hn : okV a b (c + 1)
            · exact changes_walk a b c 0 0 0 0 1 w hM (fun w => next_2_over a b c 0 w ho (by unfold chg; rw [if_pos rfl]) hn) (fun w => rnext_0n_over a b c w ho f0 hn)
            · exact changes_walk a b c 0 a b (c + 1) 0 w hM (fun w => next_2_ok a b c 0 w ho (by unfold chg; rw [if_pos rfl]) hn) (fun w => rnext_0n_ok a b c w ho f0 hn)
          · cases hn : okV a b (c + 1)
            · exact changes_walk a b c 0 0 0 0 1 w hM (fun w => next_2_over a b c 0 w ho (by unfold chg; rw [if_pos rfl]) hn) (fun w => rnext_0z_over a b c w ho f0 hn)
            · exact changes_walk a b c 0 a b (c + 1) 0 w hM (fun w => next_2_ok a b c 0 w ho (by unfold chg; rw [if_pos rfl]) hn) (fun w => rnext_0z_ok a b c w ho f0 hn)
        · cases f0 : a == 0
          · cases hn : okV a (b + 1) 0
            · exact changes_walk a b c 1 0 0 0 1 w hM (fun w => next_1_over a b c 1 w ho (by unfold chg; rw [if_neg (by decide), if_pos rfl, if_neg (by simpa using f0)]) hn) (fun w => rnext_1n_over a b c w ho f0 hn)
            · exact changes_walk a b c 1 a (b + 1) 0 0 w hM (fun w => next_1_ok a b c 1 w ho (by unfold chg; rw [if_neg (by decide), if_pos rfl, if_neg (by simpa using f0)]) hn) (fun w => rnext_1n_ok a b c w ho f0 hn)
          · cases hn : okV a b (c + 1)
            · exact changes_walk a b c 1 0 0 0 1 w hM (fun w => next_2_over a b c 1 w ho (by unfold chg; rw [if_neg (by decide), if_pos rfl, if_pos (eq_of_beq f0)]) hn) (fun w => rnext_1z_over a b c w ho f0 hn)
            · exact changes_walk a b c 1 a b (c + 1) 0 w hM (fun w => next_2_ok a b c 1 w ho (by unfold chg; rw [if_neg (by decide), if_pos rfl, if_pos (eq_of_beq f0)]) hn) (fun w => rnext_1z_ok a b c w ho f0 hn)
        · cases f0 : a == 0
          · cases hn : okV (a + 1) 0 0
            · exact changes_walk a b c 2 0 0 0 1 w hM (fun w => next_0_over a b c 2 w ho (by unfold chg; rw [if_neg (by decide), if_neg (by decide), if_pos rfl, if_neg (by simpa using f0)]) hn) (fun w => rnext_2n_over a b c w ho f0 hn)
            · exact changes_walk a b c 2 (a + 1) 0 0 0 w hM (fun w => next_0_ok a b c 2 w ho (by unfold chg; rw [if_neg (by decide), if_neg (by decide), if_pos rfl, if_neg (by simpa using f0)]) hn) (fun w => rnext_2n_ok a b c w ho f0 hn)
          · cases hn : okV a (b + 1) 0
            · exact changes_walk a b c 2 0 0 0 1 w hM (fun w => next_1_over a b c 2 w ho (by unfold chg; rw [if_neg (by decide), if_neg (by decide), if_pos rfl, if_pos (eq_of_beq f0)]) hn) (fun w => rnext_2z_over a b c w ho f0 hn)
            · exact changes_walk a b c 2 a (b + 1) 0 0 w hM (fun w => next_1_ok a b c 2 w ho (by unfold chg; rw [if_neg (by decide), if_neg (by decide), if_pos rfl, if_pos (eq_of_beq f0)]) hn) (fun w => rnext_2z_ok a b c w ho f0 hn)
end Go.Proofs.YteeagengliaakaaDoor
