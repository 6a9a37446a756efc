/-
  Compatible is reflexive for valid versions, transitive, and only upwards: the law SemverChains. Condition: internal/bytealg.MaxLen holds some number.
-/
import Derived.Test.YtelchjgpfpccnaaDoorH1
import Derived.Test.YtelchjgpfpccnaaDoorH2
import Derived.Test.YtelchjgpfpccnaaDoorH3
import Derived.Test.YtelchjgpfpccnaaDoorH4
import Derived.Test.YtelchjgpfpccnaaDoorH5
namespace Go.Proofs.YtelchjgpfpccnaaDoor
open Go.RowKit
set_option linter.unusedSimpArgs false
set_option linter.unusedVariables false
theorem comp_self (a0 a1 a2 : Int) : compB a0 a1 a2 a0 a1 a2 = okV a0 a1 a2 := by
  have h : cmp3 a0 a1 a2 a0 a1 a2 = 0 := by
    rcases cmp3_cases a0 a1 a2 a0 a1 a2 with ⟨h, e⟩ | ⟨h, e⟩ | ⟨h, e⟩
    · unfold ltV at h; omega
    · exact e
    · unfold ltV at h; omega
  unfold compB serB
  rw [h]; simp
theorem comp_parts {a0 a1 a2 b0 b1 b2 : Int} (h : compB a0 a1 a2 b0 b1 b2 = true) : okV a0 a1 a2 = true ∧ okV b0 b1 b2 = true ∧ cmp3 a0 a1 a2 b0 b1 b2 ≤ 0 ∧ (ser a0 a1).1 = (ser b0 b1).1 ∧ (ser a0 a1).2 = (ser b0 b1).2 := by
  unfold compB serB at h
  simp only [Bool.and_eq_true, decide_eq_true_eq, beq_iff_eq] at h
  exact ⟨h.1, h.2.1, h.2.2.1, h.2.2.2.1, h.2.2.2.2⟩
theorem comp_trans {a0 a1 a2 b0 b1 b2 c0 c1 c2 : Int} (h : compB a0 a1 a2 b0 b1 b2 = true) (h' : compB b0 b1 b2 c0 c1 c2 = true) : compB a0 a1 a2 c0 c1 c2 = true := by
  obtain ⟨x1, x2, x3, x4, x5⟩ := comp_parts h
  obtain ⟨y1, y2, y3, y4, y5⟩ := comp_parts h'
  have ht := cmp3_trans rfl rfl x3 y3
  unfold compB serB
  simp only [Bool.and_eq_true, decide_eq_true_eq, beq_iff_eq]
  refine ⟨x1, y2, ?_, x4.trans y4, x5.trans y5⟩
  rw [ht]; split <;> omega
theorem comp_anti {a0 a1 a2 b0 b1 b2 : Int} (h : compB a0 a1 a2 b0 b1 b2 = true) (h' : compB b0 b1 b2 a0 a1 a2 = true) : a0 = b0 ∧ a1 = b1 ∧ a2 = b2 := by
  obtain ⟨_, _, x3, _, _⟩ := comp_parts h
  obtain ⟨_, _, y3, _, _⟩ := comp_parts h'
  rw [cmp3_anti] at y3
  rcases cmp3_cases a0 a1 a2 b0 b1 b2 with ⟨h, e⟩ | ⟨h, e⟩ | ⟨h, e⟩
  · omega
  · exact h
  · omega
/-- the law's walk -/
theorem law_chains (a0 a1 a2 b0 b1 b2 c0 c1 c2 : Int) (w : World) (hM : Mx w) :
    Calls Tryd.prog 10 #[vv a0 a1 a2, vv b0 b1 b2, vv c0 c1 c2] w fun e w' => e = .returned (.bool true) ∧ Below w.heap.size w w' := by
  have h1 : compB a0 a1 a2 a0 a1 a2 = okV a0 a1 a2 := comp_self a0 a1 a2
  cases h2 : compB a0 a1 a2 b0 b1 b2 with
  | false => exact chains_f _ _ _ _ _ _ _ _ _ _ w hM rfl h1 h2
  | true =>
    cases h5 : compB b0 b1 b2 a0 a1 a2 with
    | false =>
      cases h3 : compB b0 b1 b2 c0 c1 c2 with
      | false => exact chains_tff _ _ _ _ _ _ _ _ _ _ w hM rfl h1 h2 h3 h5
      | true => exact chains_ttf _ _ _ _ _ _ _ _ _ _ w hM rfl h1 h2 h3 (comp_trans h2 h3) h5
    | true =>
      have he := comp_anti h2 h5
      cases h3 : compB b0 b1 b2 c0 c1 c2 with
      | false => exact chains_tft _ _ _ _ _ _ _ _ _ _ w hM rfl h1 h2 h3 h5 he
      | true => exact chains_ttt _ _ _ _ _ _ _ _ _ _ w hM rfl h1 h2 h3 (comp_trans h2 h3) h5 he
end Go.Proofs.YtelchjgpfpccnaaDoor
