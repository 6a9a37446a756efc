/-
  Mathematics of the laws: the sets are a Boolean algebra; Make does not depend on the order of the spans. No condition.
-/
import Derived.Test.YteekccjfokoglaaAb
namespace Go.Proofs.Yteekccjfokoglaa
set_option linter.unusedSimpArgs false
set_option linter.unusedVariables false
theorem mk_idem (s : NS) : mk (mk s) = mk s := mk_of_can (can_mk s)
theorem memb_rev (l : List Sp) (n : Int) : memb l.reverse n = memb l n := by
  rw [Bool.eq_iff_iff, memb_iff, memb_iff]; simp [mem]
theorem mk_rev (s : NS) : mk (s.1.reverse, s.2.reverse) = mk s := by
  refine ns_ext (can_mk _) (can_mk _) fun u => ?_
  rw [has_mk, has_mk]; unfold hasB; simp only [memb_rev]
theorem has_all (u : Int) : hasB allS u = vld u := by
  have h : hasB allS u = (vld u && !hasB ([], []) u) := has_nt ([], []) u
  rw [h]
  have h0 : hasB (([], []) : NS) u = false := by unfold hasB; simp [memb]
  rw [h0]; simp
theorem and_comm' (a b : NS) : andd a b = andd b a :=
  ns_ext (can_and _ _) (can_and _ _) fun u => by rw [has_and, has_and, Bool.and_comm]
theorem or_comm' (a b : NS) : orr a b = orr b a :=
  ns_ext (can_or _ _) (can_or _ _) fun u => by rw [has_or, has_or, Bool.or_comm]
theorem and_dist (a b c : NS) : andd a (orr b c) = orr (andd a b) (andd a c) :=
  ns_ext (can_and _ _) (can_or _ _) fun u => by
    rw [has_and, has_or, has_or, has_and, has_and]; cases hasB a u <;> cases hasB b u <;> cases hasB c u <;> rfl
theorem de_morgan (a b : NS) : nt (orr a b) = andd (nt a) (nt b) :=
  ns_ext (can_nt _) (can_and _ _) fun u => by
    rw [has_nt, has_or, has_and, has_nt, has_nt]; cases hasB a u <;> cases hasB b u <;> cases vld u <;> rfl
theorem absorb1 (a b : NS) : andd a (orr a b) = mk a :=
  ns_ext (can_and _ _) (can_mk _) fun u => by
    rw [has_and, has_or, has_mk]; cases hasB a u <;> cases hasB b u <;> rfl
theorem absorb2 (a b : NS) : orr a (andd a b) = mk a :=
  ns_ext (can_or _ _) (can_mk _) fun u => by
    rw [has_or, has_and, has_mk]; cases hasB a u <;> cases hasB b u <;> rfl
theorem nt_nt (a : NS) : nt (nt a) = mk a :=
  ns_ext (can_nt _) (can_mk _) fun u => by
    rw [has_nt, has_nt, has_mk]; have := @has_vld a u; cases h : hasB a u <;> cases hv : vld u <;> simp_all
theorem or_nt (a : NS) : orr a (nt a) = allS :=
  ns_ext (can_or _ _) (can_nt _) fun u => by
    show hasB (orr a (nt a)) u = hasB allS u
    rw [has_all, has_or, has_nt]; have := @has_vld a u; cases h : hasB a u <;> cases hv : vld u <;> simp_all
theorem sub_and (a b : NS) : subB a b = decide (andd a b = mk a) := by
  rw [Bool.eq_iff_iff, sub_iff, decide_eq_true_iff, ns_eq_iff (can_and _ _) (can_mk _)]
  refine forall_congr' fun u => ?_
  rw [has_and, has_mk]; cases hasB a u <;> cases hasB b u <;> simp
theorem sub_and1 (a b : NS) : subB (andd a b) a = true := by
  rw [sub_iff]; intro u h; rw [has_and] at h; simp at h; exact h.1
theorem sub_or1 (a b : NS) : subB a (orr a b) = true := by
  rw [sub_iff]; intro u h; rw [has_or, h]; rfl
theorem minus_and (a b : NS) : minus a b = andd a (nt b) :=
  ns_ext (can_minus _ _) (can_and _ _) fun u => by
    rw [has_minus, has_and, has_nt]; have := @has_vld a u; cases h : hasB a u <;> cases hv : vld u <;> simp_all
theorem mem_sub (a b : NS) (u : Int) : (hasB a u && !hasB b u && subB a b) = false := by
  cases h : hasB a u <;> cases h2 : hasB b u <;> simp
  rw [Bool.eq_false_iff, Ne, sub_iff]
  intro h3; rw [h3 u h] at h2; exact absurd h2 (by simp)
end Go.Proofs.Yteekccjfokoglaa
