/-
  Mathematics of the least shortest cycle: the nearest successor, step by step. No world, no walk of a program.
-/
import Derived.Test.YthgfomjmkmkhkaaO
namespace Go.Proofs.Ythgfomjmkmkhkaa
set_option linter.unusedSimpArgs false
set_option linter.unusedVariables false
/-- the choice among the successors that were passed: nobody yet, or the nearest, the least of them -/
def NearOk (ls : List Int) (n : Nat) (xs : List Int) (b : Int) : Prop :=
  (b = -1 ∧ ∀ m : Nat, (m : Int) ∈ xs → m < n → lv ls m < 0) ∨ ∃ m : Nat, b = (m : Int) ∧ (m : Int) ∈ xs ∧ m < n ∧ 0 ≤ lv ls m ∧ ∀ q : Nat, (q : Int) ∈ xs → q < n → 0 ≤ lv ls q → lv ls m < lv ls q ∨ (lv ls m = lv ls q ∧ m ≤ q)
theorem near_step {ls : List Int} {n : Nat} {xs : List Int} {b x : Int} (h : NearOk ls n xs b) : NearOk ls n (xs ++ [x]) (nstep ls n b x) := by
  unfold nstep
  by_cases hx : 0 ≤ x ∧ x < n
  · rw [if_neg (by simpa using hx)]
    obtain ⟨p, rfl⟩ : ∃ p : Nat, x = (p : Int) := ⟨x.toNat, by omega⟩
    have hp : p < n := by omega
    by_cases hv : lv ls p < 0
    · rw [if_pos hv]
      rcases h with ⟨h1, h2⟩ | ⟨m, h1, h2, h3, h4, h5⟩
      · refine Or.inl ⟨h1, fun q hq hqn => ?_⟩
        rcases List.mem_append.1 hq with hq | hq
        · exact h2 q hq hqn
        · simp at hq; rw [hq]; exact hv
      · refine Or.inr ⟨m, h1, List.mem_append_left _ h2, h3, h4, fun q hq hqn hq0 => ?_⟩
        rcases List.mem_append.1 hq with hq | hq
        · exact h5 q hq hqn hq0
        · simp at hq; obtain rfl : q = p := by omega
          omega
    · rw [if_neg hv]
      rcases h with ⟨h1, h2⟩ | ⟨m, h1, h2, h3, h4, h5⟩
      · subst h1
        rw [if_pos (by omega)]
        refine Or.inr ⟨p, rfl, by simp, hp, by omega, fun q hq hqn hq0 => ?_⟩
        rcases List.mem_append.1 hq with hq | hq
        · have := h2 q hq hqn; omega
        · simp at hq; obtain rfl : q = p := by omega
          exact Or.inr ⟨rfl, Nat.le_refl _⟩
      · subst h1
        rw [if_neg (by omega)]
        by_cases h6 : lv ls p < lv ls m
        · rw [if_pos h6]
          refine Or.inr ⟨p, rfl, by simp, hp, by omega, fun q hq hqn hq0 => ?_⟩
          rcases List.mem_append.1 hq with hq | hq
          · rcases h5 q hq hqn hq0 with h | h <;> (left; omega)
          · simp at hq; obtain rfl : q = p := by omega
            exact Or.inr ⟨rfl, Nat.le_refl _⟩
        · rw [if_neg h6]
          by_cases h7 : lv ls p = lv ls m ∧ (p : Int) < (m : Int)
          · rw [if_pos h7]
            refine Or.inr ⟨p, rfl, by simp, hp, by omega, fun q hq hqn hq0 => ?_⟩
            rcases List.mem_append.1 hq with hq | hq
            · rcases h5 q hq hqn hq0 with h | h
              · left; omega
              · right; omega
            · simp at hq; obtain rfl : q = p := by omega
              exact Or.inr ⟨rfl, Nat.le_refl _⟩
          · rw [if_neg h7]
            refine Or.inr ⟨m, rfl, List.mem_append_left _ h2, h3, h4, fun q hq hqn hq0 => ?_⟩
            rcases List.mem_append.1 hq with hq | hq
            · exact h5 q hq hqn hq0
            · simp at hq; obtain rfl : q = p := by omega
              rcases (show lv ls m < lv ls q ∨ lv ls m = lv ls q by omega) with h | h
              · exact Or.inl h
              · right; refine ⟨h, ?_⟩
                rcases Nat.lt_or_ge q m with h' | h'
                · exact absurd ⟨h.symm, by omega⟩ h7
                · exact h'
  · rw [if_pos hx]
    rcases h with ⟨h1, h2⟩ | ⟨m, h1, h2, h3, h4, h5⟩
    · refine Or.inl ⟨h1, fun q hq hqn => ?_⟩
      rcases List.mem_append.1 hq with hq | hq
      · exact h2 q hq hqn
      · simp at hq; exact absurd ⟨by omega, by omega⟩ hx
    · refine Or.inr ⟨m, h1, List.mem_append_left _ h2, h3, h4, fun q hq hqn hq0 => ?_⟩
      rcases List.mem_append.1 hq with hq | hq
      · exact h5 q hq hqn hq0
      · simp at hq; exact absurd ⟨by omega, by omega⟩ hx
theorem near_fold {ls : List Int} {n : Nat} : ∀ (ys xs : List Int) (b : Int), NearOk ls n xs b → NearOk ls n (xs ++ ys) (ys.foldl (nstep ls n) b)
  | [], xs, b, h => by simpa using h
  | y :: r, xs, b, h => by
    have := near_fold r (xs ++ [y]) (nstep ls n b y) (near_step h)
    simpa using this
theorem near_ok (ls : List Int) (n : Nat) (ys : List Int) : NearOk ls n ys (near ls n ys) := by
  have := near_fold (ls := ls) (n := n) ys [] (-1) (Or.inl ⟨rfl, by simp⟩)
  simpa [near] using this
theorem lv_dists {g : Gr} {s m : Nat} (hm : m < g.length) : lv (dists (rev g) s) (m : Int) = dist g m s := by
  unfold lv
  rw [show ((m : Int)).toNat = m by simp, List.getD_eq_getElem?_getD, dists_get (by rw [rev_len]; exact hm), dist_rev]; rfl
/-- the nearest successor of a node, towards s -/
noncomputable def nxS (g : Gr) (s a : Nat) : Nat := (near (dists (rev g) s) g.length (suc g a)).toNat
/-- where a way leads from a to s, the nearest successor is the least of those that are nearest to s -/
theorem nxS_is {g : Gr} {s a : Nat} (h : Con g a s) : near (dists (rev g) s) g.length (suc g a) = (nxS g s a : Int) ∧ Edge g a (nxS g s a) ∧ 0 ≤ dist g (nxS g s a) s ∧ ∀ q, Edge g a q → 0 ≤ dist g q s → dist g (nxS g s a) s < dist g q s ∨ (dist g (nxS g s a) s = dist g q s ∧ nxS g s a ≤ q) := by
  obtain ⟨k, w⟩ := h
  obtain ⟨b, e, w'⟩ := w.first
  obtain ⟨d, _, hd⟩ := far_of_walk w'
  have hb : 0 ≤ dist g b s := by rw [dist_far hd]; omega
  rcases near_ok (dists (rev g) s) g.length (suc g a) with ⟨_, h2⟩ | ⟨m, h1, h2, h3, h4, h5⟩
  · have := h2 b e.2.2 e.2.1
    rw [lv_dists e.2.1] at this
    omega
  · have em : nxS g s a = m := by unfold nxS; rw [h1]; simp
    rw [em]
    refine ⟨h1, ⟨e.1, h3, h2⟩, by rw [← lv_dists h3]; exact h4, fun q eq hq => ?_⟩
    have := h5 q eq.2.2 eq.2.1 (by rw [lv_dists eq.2.1]; exact hq)
    rw [lv_dists h3, lv_dists eq.2.1] at this
    exact this
/-- behind a node at distance d + 1 stands one at distance d -/
theorem nxS_dist {g : Gr} {s a d : Nat} (h : dist g a s = ((d + 1 : Nat) : Int)) : dist g (nxS g s a) s = (d : Int) := by
  have hf := far_dist h
  obtain ⟨b, e, hb⟩ := hf.first
  obtain ⟨_, e1, h0, hm⟩ := nxS_is (g := g) (s := s) (a := a) ⟨d, hf.1⟩
  obtain ⟨d', hd', hf'⟩ := dist_nonneg h0
  have h1 : d' ≤ d := by
    have := hm b e (by rw [dist_far hb]; omega)
    rw [dist_far hb, hd'] at this
    omega
  have h2 : ¬ d' < d := by
    intro hlt
    exact hf.2 (d' + 1) (by omega) (Walk.cons e1 hf'.1)
  rw [hd']; omega
/-- the nodes on the way to s, without s -/
noncomputable def cyP (g : Gr) (s : Nat) : Nat → Nat → List Nat
  | 0, _ => []
  | d + 1, a => a :: cyP g s d (nxS g s a)
/-- the least of the shortest cycles through the first node that lies on one -/
noncomputable def cycS (g : Gr) : List Nat := match cycAt g with
  | none => []
  | some s => s :: cyP g s (dist g (nxS g s s) s).toNat (nxS g s s)
theorem cyP_len (g : Gr) (s : Nat) : ∀ d a, (cyP g s d a).length = d
  | 0, _ => rfl
  | d + 1, a => by simp [cyP, cyP_len g s d]
end Go.Proofs.Ythgfomjmkmkhkaa
