/-
  The chapter's examples by reckoning.
-/
import Derived.Test.YteekccjfokoglaaAb
namespace Go.Proofs.Yteekccjfokoglaa
open Go.RowKit Go.Sort Go.Lib Go.Proofs
set_option linter.unusedSimpArgs false
set_option linter.unnecessarySimpa false
set_option linter.unusedVariables false
theorem nrm_by (b : Bool) (l R : List Sp) (hp : R.Perm (kept b l)) (hs : R.Pairwise fun s t => s.1 ≤ t.1) : nrm b l = R.foldl (jstep b) [] := by
  have h1 := fold_spec b l R hp hs
  have h2 := fold_spec b l (sortS (kept b l)) (sortS_perm _) (sortS_sorted _)
  exact can_unique b _ _ h2.1 h1.1 fun n hn => (h2.2 n hn).trans (h1.2 n hn).symm
theorem nrm_one (b : Bool) (s : Sp) : nrm b [s] = if wo b s = true then [] else [trm b s] := by
  cases h : wo b s
  · rw [nrm_by b [s] [trm b s] (by simp [kept, h]) (by simp)]; rfl
  · rw [nrm_by b [s] [] (by simp [kept, h]) (by simp)]; rfl
theorem all_eq : allS = ([(-100000000000, 100000000000)], [(-999999999999999, 999999999999999)]) := by
  refine Prod.ext ?_ ?_
  · show nrm false (gapsL false _ (nrm false [])) = _
    rw [nrm_nil]; show nrm false [_] = _; rw [nrm_one]; decide
  · show nrm true (gapsL true _ (nrm true [])) = _
    rw [nrm_nil]; show nrm true [_] = _; rw [nrm_one]; decide
theorem int_eq : intS = ([(-100000000000, 100000000000)], []) := by unfold intS; rw [all_eq]
def lowS : NS := andd (btw (-1000000000000000) 14999) intS
theorem low_has (u : Int) : hasB lowS u = (hasB ([(-100000000000, 1)], [(-1000000000000000, 14999)]) u && hasB ([(-100000000000, 100000000000)], []) u) := by
  unfold lowS; rw [has_and, int_eq]; unfold btw; rw [has_mk]; rfl
theorem low_1 : hasB lowS 10000 = true := by rw [low_has]; decide
theorem low_0 : hasB lowS 0 = true := by rw [low_has]; decide
theorem low_2 : hasB lowS 20000 = false := by rw [low_has]; decide
theorem low_h : hasB lowS 5000 = false := by rw [low_has]; decide
theorem two_i : mk ([(2, 2), (1, 1)], []) = oneI 1 2 := by
  refine Prod.ext ?_ (nrm_nil true)
  show nrm false _ = _
  rw [nrm_by false [(2, 2), (1, 1)] [(1, 1), (2, 2)] (by decide) (by decide)]; decide
theorem two_f : mk ([], [(0, 10000), (10000, 20000)]) = oneF 1 19999 := by
  refine Prod.ext (nrm_nil false) ?_
  show nrm true _ = _
  rw [nrm_by true [(0, 10000), (10000, 20000)] [(1, 9999), (10001, 19999)] (by decide) (by decide)]; decide
theorem least_i : leastO (oneI (-3) (-1)) = some (-10000) := by
  have h : mk (oneI (-3) (-1)) = oneI (-3) (-1) := by
    refine Prod.ext ?_ (nrm_nil true)
    show nrm false [_] = _
    rw [nrm_one]; decide
  unfold leastO; rw [h]; decide
theorem cmp_all : cmpS ([], []) allS = 1 := by
  refine cmp_gt ⟨0, by rw [all_eq]; decide, by decide, fun v hv => ?_⟩
  by_cases h : v = 0
  · exact .inl h
  · right; rw [nearB_iff]; omega
theorem count_f : countS (oneF 0 10000) = 9999 := by
  have h : mk (oneF 0 10000) = ([], [(1, 9999)]) := by
    refine Prod.ext (nrm_nil false) ?_
    show nrm true [_] = _
    rw [nrm_one]; decide
  unfold countS; rw [h]; decide
end Go.Proofs.Yteekccjfokoglaa
