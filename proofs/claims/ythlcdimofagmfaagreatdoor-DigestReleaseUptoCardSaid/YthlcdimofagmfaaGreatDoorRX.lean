/-
  Release of the specification: the mathematics of its insertion. No condition.
-/
import Derived.Test.YthlcdimofagmfaaGreatDoorRm
namespace Go.Proofs.YthlcdimofagmfaaGreatDoor
open Go Go.RowKit
set_option linter.unusedSimpArgs false
set_option linter.unnecessarySimpa false
set_option linter.unusedVariables false
theorem insN_at {x : Src} : ∀ {S : List Src} {k : Nat}, (∀ y ∈ S.take k, ¬ cmpN x y < 0) → (∀ y ∈ S.drop k, cmpN x y < 0) → S.take k ++ x :: S.drop k = insN x S
  | [], k, _, _ => by simp [insN]
  | y :: t, 0, _, hd => by
    have h := hd y (by simp)
    unfold insN; rw [if_pos h]; rfl
  | y :: t, k + 1, ht, hd => by
    have h := ht y (by simp)
    unfold insN; rw [if_neg h]
    rw [List.take_succ_cons, List.drop_succ_cons, List.cons_append, insN_at (fun z hz => ht z (by simp [hz])) (fun z hz => hd z (by simpa using hz))]
theorem lowN {S : List Src} {x : Src} {k : Nat} (hs : S.Pairwise LeN) (hk : k < S.length) (h : ¬ cmpN x S[k] < 0) : ∀ y ∈ S.take (k + 1), ¬ cmpN x y < 0 := by
  intro y hy hlt
  have hkx : LeN S[k] x := by have := cmpB_ok.anti x.1 S[k].1; unfold cmpN at h; show cmpB S[k].1 x.1 ≤ 0; omega
  rw [← List.take_append_getElem hk, List.mem_append] at hy
  have hyx : LeN y x := by
    rcases hy with hy | hy
    · obtain ⟨i, hi, rfl⟩ := List.getElem_of_mem hy
      rw [List.length_take] at hi
      rw [List.getElem_take]
      have := List.pairwise_iff_getElem.1 hs i k (by omega) hk (by omega)
      exact leN_trans this hkx
    · simp only [List.mem_singleton] at hy
      subst hy; exact hkx
  have := cmpB_ok.anti x.1 y.1
  unfold cmpN at hlt
  have h2 : cmpB y.1 x.1 ≤ 0 := hyx
  omega
theorem highN {S : List Src} {x : Src} {k : Nat} (hk : k < S.length) (h : cmpN x S[k] < 0) (hd : ∀ y ∈ S.drop (k + 1), cmpN x y < 0) : ∀ y ∈ S.drop k, cmpN x y < 0 := by
  intro y hy
  rw [List.drop_eq_getElem_cons hk] at hy
  rcases List.mem_cons.1 hy with rfl | hy
  · exact h
  · exact hd y hy
theorem sortN_take {l : List Src} {k : Nat} (h : k < l.length) : sortN (l.take (k + 1)) = insN l[k] (sortN (l.take k)) := by
  rw [← List.take_append_getElem h]
  unfold sortN
  rw [List.foldl_append]; rfl
/-- a name that the place before does not bear is borne by none -/
theorem freshN {S : List Src} {x : Src} {n : Nat} (hs : S.Pairwise LeN) (hn : n ≤ S.length) (ht : ∀ y ∈ S.take n, ¬ cmpN x y < 0) (hd : ∀ y ∈ S.drop n, cmpN x y < 0)
    (hne : ∀ i (h : i < S.length), i + 1 = n → S[i].1 ≠ x.1) : ∀ y ∈ S, y.1 ≠ x.1 := by
  intro y hy e
  rw [← List.take_append_drop n S, List.mem_append] at hy
  rcases hy with hy | hy
  · obtain ⟨i, hi, rfl⟩ := List.getElem_of_mem hy
    rw [List.length_take] at hi
    rw [List.getElem_take] at e
    have hm : n - 1 < S.length := by omega
    have h1 : ¬ cmpN x S[n - 1] < 0 := ht _ (by
      rw [List.mem_take_iff_getElem]
      exact ⟨n - 1, by omega, rfl⟩)
    have h2 : cmpB S[i].1 S[n - 1].1 ≤ 0 := by
      by_cases h : i = n - 1
      · subst h; rw [cmpB_ok.self]; exact Int.le_refl _
      · exact List.pairwise_iff_getElem.1 hs i (n - 1) (by omega) hm (by omega)
    rw [e] at h2
    unfold cmpN at h1
    have h3 : cmpB x.1 S[n - 1].1 = 0 := by omega
    exact hne (n - 1) hm (by omega) (cmpB_ok.eq _ _ h3).symm
  · have := hd y hy
    unfold cmpN at this
    rw [e, cmpB_ok.self] at this
    omega
theorem nodup_next {l : List Src} {k : Nat} (h : k < l.length) (hn : ((l.take k).map (·.1)).Nodup) (hf : ∀ y ∈ sortN (l.take k), y.1 ≠ l[k].1) : ((l.take (k + 1)).map (·.1)).Nodup := by
  rw [← List.take_append_getElem h, List.map_append, List.nodup_append]
  refine ⟨hn, by simp, fun a ha b hb => ?_⟩
  obtain ⟨y, hy, rfl⟩ := List.mem_map.1 ha
  simp only [List.map_cons, List.map_nil, List.mem_singleton] at hb
  subst hb
  exact hf y ((sortN_perm _).mem_iff.2 hy)
theorem dup_next {l : List Src} {k : Nat} (h : k < l.length) {y : Src} (hy : y ∈ sortN (l.take k)) (e : y.1 = l[k].1) : dupN l = true := by
  have hy := (sortN_perm _).mem_iff.1 hy
  unfold dupN
  rw [Bool.not_eq_true', decide_eq_false_iff_not]
  intro hn
  rw [← List.take_append_drop (k + 1) l, List.map_append, List.nodup_append] at hn
  have h1 := hn.1
  rw [← List.take_append_getElem h, List.map_append, List.nodup_append] at h1
  exact h1.2.2 y.1 (List.mem_map.2 ⟨y, hy, rfl⟩) l[k].1 (by simp) e
end Go.Proofs.YthlcdimofagmfaaGreatDoor
