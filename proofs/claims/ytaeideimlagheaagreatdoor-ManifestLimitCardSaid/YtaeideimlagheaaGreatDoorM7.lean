/-
  PLAIN: the manifests of the law of Limit: their paths, their order, their first error.
-/
import Derived.Test.YtaeideimlagheaaGreatDoorLR
namespace Go.Proofs.YtaeideimlagheaaGreatDoor
open Go
set_option linter.unusedSimpArgs false
set_option linter.unnecessarySimpa false
set_option linter.unusedVariables false
def pathN (i : Nat) : ByteArray := ⟨#[120, UInt8.ofNat (97 + i / 10), UInt8.ofNat (97 + i % 10)]⟩
def limL (a b c : Int) (n : Nat) : List Md := (List.range n).map fun i => (pathN i, a, b, c)
abbrev pM : ByteArray := ⟨#[109]⟩
theorem lim_len (a b c : Int) (n : Nat) : (limL a b c n).length = n := by simp [limL]
theorem lim_snoc (a b c : Int) (n : Nat) : limL a b c (n + 1) = limL a b c n ++ [(pathN n, a, b, c)] := by
  unfold limL; rw [List.range_succ, List.map_append]; rfl
theorem paths_ok : ((List.range 70).all fun i => pathB (pathN i).data.toList) = true := by kernel_rfl
theorem paths_less : ((List.range 70).all fun j => (List.range j).all fun i => decide (cmpB (pathN i) (pathN j) = -1)) = true := by kernel_rfl
theorem path_m : pathB pM.data.toList = true := by kernel_rfl
theorem lt_of {i j : Nat} (hij : i < j) (hj : j < 70) : cmpB (pathN i) (pathN j) = -1 := by
  have h1 := List.all_eq_true.1 paths_less j (List.mem_range.2 hj)
  have h2 := List.all_eq_true.1 h1 i (List.mem_range.2 hij)
  simpa using h2
theorem ne_of {i j : Nat} (hij : i < j) (hj : j < 70) : pathN i ≠ pathN j := by
  intro e
  have := lt_of hij hj
  rw [e, cmpB_ok.self] at this
  cases this
theorem lim_sorted (a b c : Int) (n : Nat) (hn : n ≤ 70) : (limL a b c n).Pairwise LeM := by
  unfold limL
  rw [List.pairwise_map]
  refine List.pairwise_iff_getElem.2 (fun i j hi hj hij => ?_)
  simp only [List.getElem_range]
  have hj' : j < n := by simpa using hj
  have h := lt_of hij (show j < 70 by omega)
  unfold LeM
  rw [cmpM_eq, if_pos (by simp only; rw [h]; decide)]
  simp only
  rw [h]; decide
theorem lim_sort (a b c : Int) (n : Nat) (hn : n ≤ 70) : sortM (limL a b c n) = limL a b c n :=
  (sortM_of (List.Perm.refl _) (lim_sorted a b c n hn)).symm
theorem lim_nodup (a b c : Int) (n : Nat) (hn : n ≤ 70) : (((pM, a, b, c) :: limL a b c n).map (·.1)).Nodup := by
  rw [List.map_cons, List.nodup_cons]
  have e : (limL a b c n).map (·.1) = (List.range n).map pathN := by unfold limL; rw [List.map_map]; rfl
  rw [e]
  refine ⟨fun h => ?_, ?_⟩
  · obtain ⟨i, _, hi⟩ := List.mem_map.1 h
    have := congrArg ByteArray.size hi
    exact absurd this (by show ¬ (3 = 1); decide)
  · unfold List.Nodup
    rw [List.pairwise_map]
    refine List.pairwise_iff_getElem.2 (fun i j hi hj hij => ?_)
    simp only [List.getElem_range]
    exact ne_of hij (by have : j < n := by simpa using hj
                        omega)
theorem lim_chk (a b c : Int) (n : Nat) (hn : n ≤ 70) (hv : okV a b c = true) : chkM (pM, a, b, c) (limL a b c n) = if 64 < n then 2 else 0 := by
  unfold chkM
  rw [lim_len]
  have h1 : ((pM, a, b, c) :: limL a b c n).any (fun x => !pathB x.1.data.toList) = false := by
    rw [List.any_eq_false]
    intro x hx
    rcases List.mem_cons.1 hx with rfl | hx
    · simp only; rw [path_m]; decide
    · obtain ⟨i, hi, rfl⟩ := List.mem_map.1 hx
      have hi' : i < n := List.mem_range.1 hi
      have := List.all_eq_true.1 paths_ok i (List.mem_range.2 (by omega))
      simp only; rw [this]; decide
  have h2 : ((pM, a, b, c) :: limL a b c n).any (fun x => !okV x.2.1 x.2.2.1 x.2.2.2) = false := by
    rw [List.any_eq_false]
    intro x hx
    rcases List.mem_cons.1 hx with rfl | hx
    · simp only; rw [hv]; decide
    · obtain ⟨i, hi, rfl⟩ := List.mem_map.1 hx
      simp only; rw [hv]; decide
  have h3 : twiceB ((pM, a, b, c) :: limL a b c n) = false := by
    unfold twiceB
    simpa using lim_nodup a b c n hn
  rw [h1, h2, h3]
  simp
end Go.Proofs.YtaeideimlagheaaGreatDoor
