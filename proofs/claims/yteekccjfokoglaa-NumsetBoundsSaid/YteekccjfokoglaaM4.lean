/-
  Mathematics of numset: the joining, span by span. No condition.
-/
import Derived.Test.YteekccjfokoglaaM2
namespace Go.Proofs.Yteekccjfokoglaa
set_option linter.unusedSimpArgs false
set_option linter.unnecessarySimpa false
set_option linter.unusedVariables false
def jk (b : Bool) (R : List Sp) (k : Nat) : List Sp := (R.take k).foldl (jstep b) []
theorem jk_zero (b : Bool) (R : List Sp) : jk b R 0 = [] := rfl
theorem jk_succ (b : Bool) (R : List Sp) (k : Nat) (h : k < R.length) : jk b R (k + 1) = jstep b (jk b R k) R[k] := by
  unfold jk
  rw [← List.take_append_getElem h, List.foldl_append]; rfl
theorem jk_len (b : Bool) (R : List Sp) (k : Nat) : (jk b R k).length ≤ k := by
  have h := fold_len b (R.take k) []
  have := List.length_take_le k R
  unfold jk; simp at h; omega
theorem jk_can (b : Bool) (l R : List Sp) (hp : R.Perm (kept b l)) (hs : R.Pairwise fun s t => s.1 ≤ t.1) (k : Nat) : Can b (jk b R k) :=
  (jfold b (R.take k) [] (can_nil b) (hs.sublist (List.take_sublist k R)) (by simp) (fun s hs => kept_ok b l s (hp.mem_iff.1 (List.mem_of_mem_take hs)))).1
theorem jk_end (b : Bool) (l R : List Sp) (hp : R.Perm (kept b l)) (hs : R.Pairwise fun s t => s.1 ≤ t.1) : jk b R R.length = nrm b l := by
  unfold jk; rw [List.take_length]; exact fold_nrm b l R hp hs
theorem jk_case (b : Bool) (R : List Sp) (k : Nat) : jk b R k = [] ∨ ∃ L t, jk b R k = L ++ [t] := by
  rcases List.eq_nil_or_concat (jk b R k) with h | ⟨l, t, h⟩
  · exact .inl h
  · exact .inr ⟨l, t, by rw [h, List.concat_eq_append]⟩
theorem ok_bd {b : Bool} {s : Sp} (h : ok b s) : -1000000000000000 ≤ s.1 ∧ s.1 ≤ 1000000000000000 ∧ -1000000000000000 ≤ s.2 ∧ s.2 ≤ 1000000000000000 := by
  obtain ⟨h1, ⟨h2, h3, _⟩, h4, h5, _⟩ := h
  cases b <;> simp only [lim] at * <;> omega
end Go.Proofs.Yteekccjfokoglaa
