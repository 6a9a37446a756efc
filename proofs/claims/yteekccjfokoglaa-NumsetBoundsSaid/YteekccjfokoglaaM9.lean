/-
  Mathematics of Bound: the numbers from lo to hi units; the specification's sets of the lesser numbers. No condition.
-/
import Derived.Test.YteekccjfokoglaaAd
import Derived.Test.YteekccjfokoglaaM6
namespace Go.Proofs.Yteekccjfokoglaa
set_option linter.unusedSimpArgs false
set_option linter.unusedVariables false
def bS (lo hi : Int) : NS := if lo ≤ hi then btw lo hi else ([], [])
theorem can_btw (lo hi : Int) : CanS (btw lo hi) := can_mk _
theorem can_none : CanS (([], []) : NS) := ⟨can_nil _, can_nil _⟩
theorem can_bS (lo hi : Int) : CanS (bS lo hi) := by unfold bS; split; exact can_btw _ _; exact can_none
theorem has_none (u : Int) : hasB (([], []) : NS) u = false := by unfold hasB; simp [memb]
theorem has_btw (lo hi x : Int) : hasB (btw lo hi) x = (vld x && (decide (lo ≤ x) && decide (x ≤ hi))) := by
  unfold btw; rw [has_mk]; unfold hasB
  cases hv : vld x
  · rfl
  · have := (vld_iff x).1 hv
    by_cases hw : x % 10000 = 0
    · rw [if_pos hw, Bool.true_and, Bool.true_and, Bool.eq_iff_iff]
      simp only [memb, List.any_cons, List.any_nil, Bool.or_false, Bool.and_eq_true, decide_eq_true_eq]
      omega
    · rw [if_neg hw, Bool.true_and, Bool.true_and]
      simp only [memb, List.any_cons, List.any_nil, Bool.or_false]
theorem has_bS (lo hi x : Int) : hasB (bS lo hi) x = (vld x && (decide (lo ≤ x) && decide (x ≤ hi))) := by
  unfold bS
  split
  · exact has_btw lo hi x
  · rw [has_none]
    cases hv : vld x
    · rfl
    · symm; rw [Bool.true_and, Bool.and_eq_false_iff, decide_eq_false_iff_not, decide_eq_false_iff_not]; omega
def lessS (u : Int) : NS := ([(-100000000000, (u - 1) / 10000)], [(-1000000000000000, u - 1)])
def mostS (u : Int) : NS := ([(-100000000000, u / 10000)], [(-1000000000000000, u)])
theorem has_less (u x : Int) : hasB (lessS u) x = (vld x && decide (x ≤ u - 1)) := by
  unfold hasB
  cases hv : vld x
  · rfl
  · have := (vld_iff x).1 hv
    by_cases hw : x % 10000 = 0
    · rw [if_pos hw, Bool.true_and, Bool.true_and, Bool.eq_iff_iff]
      simp only [memb, lessS, List.any_cons, List.any_nil, Bool.or_false, Bool.and_eq_true, decide_eq_true_eq]
      omega
    · rw [if_neg hw, Bool.true_and, Bool.true_and, Bool.eq_iff_iff]
      simp only [memb, lessS, List.any_cons, List.any_nil, Bool.or_false, Bool.and_eq_true, decide_eq_true_eq]
      omega
theorem has_most (u x : Int) : hasB (mostS u) x = (vld x && decide (x ≤ u)) := by
  unfold hasB
  cases hv : vld x
  · rfl
  · have := (vld_iff x).1 hv
    by_cases hw : x % 10000 = 0
    · rw [if_pos hw, Bool.true_and, Bool.true_and, Bool.eq_iff_iff]
      simp only [memb, mostS, List.any_cons, List.any_nil, Bool.or_false, Bool.and_eq_true, decide_eq_true_eq]
      omega
    · rw [if_neg hw, Bool.true_and, Bool.true_and, Bool.eq_iff_iff]
      simp only [memb, mostS, List.any_cons, List.any_nil, Bool.or_false, Bool.and_eq_true, decide_eq_true_eq]
      omega
/-- the six comparisons -/
def setB (k : Nat) (u : Int) : NS := match k with
  | 1 => bS (-1000000000000000) (u - 1)
  | 2 => bS (-1000000000000000) u
  | 3 => bS (u + 1) 1000000000000000
  | 4 => bS u 1000000000000000
  | 5 => bS u u
  | _ => nt (bS u u)
theorem can_setB (k : Nat) (u : Int) : CanS (setB k u) := by
  unfold setB; split <;> first | exact can_bS _ _ | exact can_nt _
theorem set1 (u : Int) : mk (lessS u) = setB 1 u := ns_ext (can_mk _) (can_bS _ _) fun x => by
  rw [has_mk, has_less]; show _ = hasB (bS _ _) x; rw [has_bS]
  cases hv : vld x
  · rfl
  · have := (vld_iff x).1 hv
    rw [Bool.true_and, Bool.true_and, Bool.eq_iff_iff]; simp only [Bool.and_eq_true, decide_eq_true_eq]; omega
theorem set2 (u : Int) : mk (mostS u) = setB 2 u := ns_ext (can_mk _) (can_bS _ _) fun x => by
  rw [has_mk, has_most]; show _ = hasB (bS _ _) x; rw [has_bS]
  cases hv : vld x
  · rfl
  · have := (vld_iff x).1 hv
    rw [Bool.true_and, Bool.true_and, Bool.eq_iff_iff]; simp only [Bool.and_eq_true, decide_eq_true_eq]; omega
theorem set3 (u : Int) : nt (mostS u) = setB 3 u := ns_ext (can_nt _) (can_bS _ _) fun x => by
  rw [has_nt, has_most]; show _ = hasB (bS _ _) x; rw [has_bS]
  cases hv : vld x
  · rfl
  · have := (vld_iff x).1 hv
    rw [Bool.true_and, Bool.true_and, Bool.true_and, Bool.eq_iff_iff]; simp only [Bool.and_eq_true, decide_eq_true_eq, Bool.not_eq_true', decide_eq_false_iff_not]; omega
theorem set4 (u : Int) : nt (lessS u) = setB 4 u := ns_ext (can_nt _) (can_bS _ _) fun x => by
  rw [has_nt, has_less]; show _ = hasB (bS _ _) x; rw [has_bS]
  cases hv : vld x
  · rfl
  · have := (vld_iff x).1 hv
    rw [Bool.true_and, Bool.true_and, Bool.true_and, Bool.eq_iff_iff]; simp only [Bool.and_eq_true, decide_eq_true_eq, Bool.not_eq_true', decide_eq_false_iff_not]; omega
theorem set5 (u : Int) : minus (mostS u) (lessS u) = setB 5 u := ns_ext (can_minus _ _) (can_bS _ _) fun x => by
  rw [has_minus, has_most, has_less]; show _ = hasB (bS _ _) x; rw [has_bS]
  cases hv : vld x
  · rfl
  · have := (vld_iff x).1 hv
    rw [Bool.true_and, Bool.true_and, Bool.true_and, Bool.eq_iff_iff]; simp only [Bool.and_eq_true, decide_eq_true_eq, Bool.not_eq_true', decide_eq_false_iff_not]; omega
theorem set6 (u : Int) : nt (minus (mostS u) (lessS u)) = setB 6 u := by rw [set5]; rfl
/-- whether x op u holds -/
def holB (k : Nat) (x u : Int) : Bool := match k with
  | 1 => decide (x < u)
  | 2 => decide (x ≤ u)
  | 3 => decide (u < x)
  | 4 => decide (u ≤ x)
  | 5 => decide (x = u)
  | _ => !decide (x = u)
theorem has_setB (k : Nat) (hk : 1 ≤ k ∧ k ≤ 6) (u x : Int) : hasB (setB k u) x = (vld x && holB k x u) := by
  rcases (show k = 1 ∨ k = 2 ∨ k = 3 ∨ k = 4 ∨ k = 5 ∨ k = 6 by omega) with rfl | rfl | rfl | rfl | rfl | rfl
  all_goals
    first
      | (show hasB (bS _ _) x = _; rw [has_bS])
      | (show hasB (nt (bS _ _)) x = _; rw [has_nt, has_bS])
    cases hv : vld x
    · rfl
    · have := (vld_iff x).1 hv
      simp only [Bool.true_and]
      rw [Bool.eq_iff_iff]; simp only [holB, Bool.and_eq_true, decide_eq_true_eq, Bool.not_eq_true', decide_eq_false_iff_not, Bool.and_eq_false_iff]; omega
end Go.Proofs.Yteekccjfokoglaa
