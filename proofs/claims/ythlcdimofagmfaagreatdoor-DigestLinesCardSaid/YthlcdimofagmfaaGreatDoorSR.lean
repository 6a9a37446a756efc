/-
  Sorted of the specification: the mathematics of its insertion. No condition.
-/
import Derived.Test.YthlcdimofagmfaaGreatDoorC2
import Derived.Test.YthlcdimofagmfaaGreatDoorS
namespace Go.Proofs.YthlcdimofagmfaaGreatDoor
open Go.RowKit Go.Sort Go.Lib Go.Shelf Go.Proofs
set_option linter.unusedSimpArgs false
set_option linter.unnecessarySimpa false
set_option linter.unusedVariables false
theorem ins_at {S : List Md} {x : Md} {k : Nat} (hs : S.Pairwise LeM) (hd : ∀ y ∈ S.drop k, cmpM x y < 0) (ht : ∀ y ∈ S.take k, cmpM y x ≤ 0) : S.take k ++ x :: S.drop k = insM x S := by
  have hsplit : (S.take k ++ S.drop k).Pairwise LeM := by rw [List.take_append_drop]; exact hs
  rw [List.pairwise_append] at hsplit
  refine sorted_unique ?_ ?_ (insM_sorted x S hs)
  · have h1 : (S.take k ++ x :: S.drop k).Perm (x :: (S.take k ++ S.drop k)) := List.perm_middle
    rw [List.take_append_drop] at h1
    exact h1.trans (insM_perm x S).symm
  · rw [List.pairwise_append]
    refine ⟨hsplit.1, List.pairwise_cons.2 ⟨fun y hy => Int.le_of_lt (hd y hy), hsplit.2.1⟩, fun a ha b hb => ?_⟩
    rcases List.mem_cons.1 hb with rfl | hb
    · exact ht a ha
    · exact hsplit.2.2 a ha b hb
theorem take_low {S : List Md} {x : Md} {k : Nat} (hs : S.Pairwise LeM) (hk : k < S.length) (h : ¬ cmpM x S[k] < 0) : ∀ y ∈ S.take (k + 1), cmpM y x ≤ 0 := by
  intro y hy
  have hkx : cmpM S[k] x ≤ 0 := by have := cmpM_ok.anti x S[k]; omega
  rw [← List.take_append_getElem hk, List.mem_append] at hy
  rcases hy with hy | hy
  · obtain ⟨i, hi, rfl⟩ := List.getElem_of_mem hy
    rw [List.length_take] at hi
    rw [List.getElem_take]
    have := List.pairwise_iff_getElem.1 hs i k (by omega) hk (by omega)
    exact cmpM_ok.trans _ _ _ this hkx
  · simp only [List.mem_singleton] at hy
    subst hy; exact hkx
theorem drop_high {S : List Md} {x : Md} {k : Nat} (hk : k < S.length) (h : cmpM x S[k] < 0) (hd : ∀ y ∈ S.drop (k + 1), cmpM x y < 0) : ∀ y ∈ S.drop k, cmpM x y < 0 := by
  intro y hy
  rw [List.drop_eq_getElem_cons hk] at hy
  rcases List.mem_cons.1 hy with rfl | hy
  · exact h
  · exact hd y hy
theorem sort_take {l : List Md} {k : Nat} (h : k < l.length) : sortM (l.take (k + 1)) = insM l[k] (sortM (l.take k)) := by
  rw [← List.take_append_getElem h, sortM_snoc]
end Go.Proofs.YthlcdimofagmfaaGreatDoor
