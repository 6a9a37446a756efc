/-
  Mathematics of a heap in a list of numbers: sifting up and down keep the numbers and make the list a heap, whose first is the least. No world, no walk of a program.
-/
import Derived.Test.YthgfomjmkmkhkaaM6
namespace Go.Proofs.Ythgfomjmkmkhkaa
set_option linter.unusedSimpArgs false
set_option linter.unusedVariables false

def gt (xs : List Int) (i : Nat) : Int := xs.getD i 0
theorem gt_some {xs : List Int} {i : Nat} {v : Int} (h : xs[i]? = some v) : gt xs i = v := by simp [gt, List.getD_eq_getElem?_getD, h]
theorem some_gt {xs : List Int} {i : Nat} (h : i < xs.length) : xs[i]? = some (gt xs i) := by simp [gt, List.getD_eq_getElem?_getD, h]
/-- two numbers change their places -/
def swp (xs : List Int) (i j : Nat) : List Int := (xs.set i (gt xs j)).set j (gt xs i)
theorem swp_len (xs : List Int) (i j : Nat) : (swp xs i j).length = xs.length := by simp [swp]
theorem swp_at {xs : List Int} {i j : Nat} (hi : i < xs.length) (hj : j < xs.length) (k : Nat) : gt (swp xs i j) k = if k = j then gt xs i else if k = i then gt xs j else gt xs k := by
  unfold swp
  by_cases h1 : k = j
  · subst h1
    rw [if_pos rfl]
    exact gt_some (by rw [List.getElem?_set_self (by simpa using hj)])
  · rw [if_neg h1]
    by_cases h2 : k = i
    · subst h2
      rw [if_pos rfl]
      exact gt_some (by rw [List.getElem?_set_ne (Ne.symm h1), List.getElem?_set_self hi])
    · rw [if_neg h2]
      unfold gt
      rw [List.getD_eq_getElem?_getD, List.getElem?_set_ne (Ne.symm h1), List.getElem?_set_ne (Ne.symm h2), ← List.getD_eq_getElem?_getD]
theorem swp_perm {xs : List Int} {i j : Nat} (hi : i < xs.length) (hj : j < xs.length) : (swp xs i j).Perm xs := by
  rw [List.perm_iff_count]
  intro a
  unfold swp
  have e1 := some_gt hi
  have e2 := some_gt hj
  have g1 : xs[i] = gt xs i := by rw [List.getElem?_eq_getElem hi] at e1; exact Option.some.inj e1
  have g2 : xs[j] = gt xs j := by rw [List.getElem?_eq_getElem hj] at e2; exact Option.some.inj e2
  rw [List.count_set (by simpa using hj), List.count_set hi, List.getElem_set]
  have c1 : 0 < xs.count (gt xs i) := List.count_pos_iff.2 (by rw [← g1]; exact List.getElem_mem hi)
  have c2 : 0 < xs.count (gt xs j) := List.count_pos_iff.2 (by rw [← g2]; exact List.getElem_mem hj)
  rw [g1]
  by_cases hij : i = j
  · subst hij
    simp
    by_cases h : gt xs i = a
    · subst h; simp; omega
    · simp [h]
  · rw [if_neg hij, g2]
    by_cases h1 : gt xs i = a
    · subst h1
      by_cases h2 : gt xs j = gt xs i
      · rw [h2] at c2 ⊢; simp; omega
      · simp [h2]; omega
    · by_cases h2 : gt xs j = a
      · subst h2; simp [h1]
      · simp [h1, h2]

/-- the first n numbers are a heap -/
def Heap (xs : List Int) (n : Nat) : Prop := ∀ i, 0 < i → i < n → gt xs ((i - 1) / 2) ≤ gt xs i
/-- a heap but for the number at j and what is above it -/
structure UpI (xs : List Int) (n j : Nat) : Prop where
  oth : ∀ i, 0 < i → i < n → i ≠ j → gt xs ((i - 1) / 2) ≤ gt xs i
  chd : ∀ i, 0 < i → i < n → (i - 1) / 2 = j → 0 < j → gt xs ((j - 1) / 2) ≤ gt xs i
theorem up_start {xs : List Int} {v : Int} (h : Heap xs xs.length) : UpI (xs ++ [v]) (xs.length + 1) xs.length where
  oth := by
    intro i h0 h1 h2
    have hi : i < xs.length := by omega
    have e1 : gt (xs ++ [v]) i = gt xs i := by unfold gt; rw [List.getD_eq_getElem?_getD, List.getElem?_append_left hi, ← List.getD_eq_getElem?_getD]
    have e2 : gt (xs ++ [v]) ((i - 1) / 2) = gt xs ((i - 1) / 2) := by unfold gt; rw [List.getD_eq_getElem?_getD, List.getElem?_append_left (by omega), ← List.getD_eq_getElem?_getD]
    rw [e1, e2]; exact h i h0 hi
  chd := by intro i h0 h1 h2 h3; omega
theorem up_stop {xs : List Int} {n j : Nat} (U : UpI xs n j) (h : j = 0 ∨ gt xs ((j - 1) / 2) ≤ gt xs j) : Heap xs n := by
  intro i h0 h1
  by_cases hij : i = j
  · subst hij
    rcases h with h | h
    · omega
    · exact h
  · exact U.oth i h0 h1 hij
theorem up_step {xs : List Int} {n j : Nat} (U : UpI xs n j) (hn : n ≤ xs.length) (hj : 0 < j) (hjn : j < n) (h : gt xs j < gt xs ((j - 1) / 2)) : UpI (swp xs ((j - 1) / 2) j) n ((j - 1) / 2) := by
  have hp : (j - 1) / 2 < xs.length := by omega
  have hjl : j < xs.length := by omega
  have S := swp_at hp hjl
  refine ⟨?_, ?_⟩
  · intro i h0 h1 h2
    rw [S ((i - 1) / 2), S i]
    by_cases hij : i = j
    · subst hij
      rw [if_pos rfl, if_neg (by omega), if_pos rfl]
      exact Int.le_of_lt h
    · rw [if_neg hij, if_neg h2]
      by_cases h3 : (i - 1) / 2 = j
      · rw [if_pos h3]
        exact U.chd i h0 h1 h3 hj
      · rw [if_neg h3]
        by_cases h4 : (i - 1) / 2 = (j - 1) / 2
        · rw [if_pos h4]
          have := U.oth i h0 h1 hij
          rw [h4] at this
          omega
        · rw [if_neg h4]
          exact U.oth i h0 h1 hij
  · intro i h0 h1 h2 h3
    rw [S, S i]
    have e1 : ((j - 1) / 2 - 1) / 2 ≠ j := by omega
    have e2 : ((j - 1) / 2 - 1) / 2 ≠ (j - 1) / 2 := by omega
    rw [if_neg e1, if_neg e2]
    have hpp := U.oth ((j - 1) / 2) h3 (by omega) (by omega)
    by_cases hij : i = j
    · subst hij
      rw [if_pos rfl]; exact hpp
    · rw [if_neg hij, if_neg (by omega)]
      have := U.oth i h0 h1 hij
      rw [h2] at this
      omega

/-- a heap but for the number at i and what is below it -/
structure DownI (xs : List Int) (n i : Nat) : Prop where
  oth : ∀ k, 0 < k → k < n → (k - 1) / 2 ≠ i → gt xs ((k - 1) / 2) ≤ gt xs k
  chd : ∀ k, 0 < k → k < n → (k - 1) / 2 = i → 0 < i → gt xs ((i - 1) / 2) ≤ gt xs k
theorem down_start {xs : List Int} {n : Nat} (h : Heap xs (n + 1)) (hl : xs.length = n + 1) : DownI (swp xs 0 n) n 0 where
  oth := by
    intro k h0 h1 h2
    have S := swp_at (xs := xs) (i := 0) (j := n) (by omega) (by omega)
    rw [S, S k, if_neg (by omega), if_neg h2, if_neg (by omega), if_neg (by omega)]
    exact h k h0 (by omega)
  chd := by intro k h0 h1 h2 h3; omega
theorem down_stop {xs : List Int} {n i : Nat} (D : DownI xs n i) (h : ∀ k, 0 < k → k < n → (k - 1) / 2 = i → gt xs i ≤ gt xs k) : Heap xs n := by
  intro k h0 h1
  by_cases hk : (k - 1) / 2 = i
  · rw [hk]; exact h k h0 h1 hk
  · exact D.oth k h0 h1 hk
theorem down_step {xs : List Int} {n i j : Nat} (D : DownI xs n i) (hn : n ≤ xs.length) (h0 : 0 < j) (hj : j < n) (hp : (j - 1) / 2 = i) (hmin : ∀ k, 0 < k → k < n → (k - 1) / 2 = i → gt xs j ≤ gt xs k) (h : gt xs j < gt xs i) : DownI (swp xs i j) n j := by
  have hi : i < xs.length := by omega
  have hjl : j < xs.length := by omega
  have S := swp_at hi hjl
  refine ⟨?_, ?_⟩
  · intro k k0 k1 k2
    rw [S ((k - 1) / 2), S k, if_neg k2]
    by_cases hk : (k - 1) / 2 = i
    · rw [if_pos hk]
      by_cases hkj : k = j
      · rw [if_pos hkj]; exact Int.le_of_lt h
      · rw [if_neg hkj, if_neg (by omega)]
        exact hmin k k0 k1 hk
    · rw [if_neg hk]
      by_cases hkj : k = j
      · subst hkj; exact absurd hp hk
      · rw [if_neg hkj]
        by_cases hki : k = i
        · subst hki
          rw [if_pos rfl]
          exact D.chd j h0 hj hp k0
        · rw [if_neg hki]
          exact D.oth k k0 k1 hk
  · intro k k0 k1 k2 k3
    rw [hp, S i, if_neg (by omega), if_pos rfl, S k, if_neg (by omega), if_neg (by omega)]
    have := D.oth k k0 k1 (by omega)
    rw [k2] at this
    exact this
theorem heap_min {xs : List Int} {n : Nat} (h : Heap xs n) : ∀ (k i : Nat), i ≤ k → i < n → gt xs 0 ≤ gt xs i
  | 0, i, h1, h2 => by obtain rfl : i = 0 := by omega
                       exact Int.le_refl _
  | k + 1, i, h1, h2 => by
    rcases Nat.eq_zero_or_pos i with h0 | h0
    · subst h0; exact Int.le_refl _
    · exact Int.le_trans (heap_min h k ((i - 1) / 2) (by omega) (by omega)) (h i h0 h2)
theorem heap_take {xs : List Int} {n : Nat} (h : Heap xs n) (hl : n ≤ xs.length) : Heap (xs.take n) (xs.take n).length := by
  intro i h0 h1
  have hi : i < n := by simp at h1; omega
  have e : ∀ k, k < n → gt (xs.take n) k = gt xs k := fun k hk => by unfold gt; rw [List.getD_eq_getElem?_getD, List.getElem?_take, if_pos hk, ← List.getD_eq_getElem?_getD]
  rw [e _ (by omega), e i hi]
  exact h i h0 hi
/-- what Push gives -/
def PushOk (xs ys : List Int) (v : Int) : Prop := ys.Perm (xs ++ [v]) ∧ Heap ys ys.length
/-- what Pop gives -/
def PopOk (xs ys : List Int) (v : Int) : Prop := xs.Perm (v :: ys) ∧ Heap ys ys.length ∧ ∀ x ∈ xs, v ≤ x
theorem pop_ok {xs zs : List Int} {n : Nat} (h : Heap xs xs.length) (hl : xs.length = n + 1) (hp : zs.Perm xs) (hz : Heap zs n) (hlast : gt zs n = gt xs 0) : PopOk xs (zs.take n) (gt zs n) := by
  have hzl : zs.length = n + 1 := by rw [hp.length_eq, hl]
  refine ⟨?_, heap_take hz (by omega), ?_⟩
  · refine hp.symm.trans ?_
    have e : zs = zs.take n ++ [gt zs n] := by
      refine List.ext_getElem? fun k => ?_
      rcases Nat.lt_trichotomy k n with h' | h' | h'
      · rw [List.getElem?_append_left (by simp; omega), List.getElem?_take, if_pos h']
      · subst h'
        rw [List.getElem?_append_right (by simp; omega), some_gt (by omega)]
        simp [hzl, Nat.min_eq_left]
      · rw [List.getElem?_eq_none (by omega), List.getElem?_eq_none (by simp; omega)]
    exact (List.Perm.of_eq e).trans List.perm_append_comm
  · intro x hx
    obtain ⟨k, hk, ek⟩ := List.mem_iff_getElem.1 hx
    rw [hlast]
    have := heap_min h k k (Nat.le_refl _) hk
    rw [gt_some (show xs[k]? = some x by rw [List.getElem?_eq_getElem hk, ek])] at this
    exact this
end Go.Proofs.Ythgfomjmkmkhkaa
