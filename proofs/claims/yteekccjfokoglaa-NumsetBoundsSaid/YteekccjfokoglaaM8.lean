/-
  Mathematics of the specification's Count, Least and Compare. No condition.
-/
import Derived.Test.YteekccjfokoglaaM5
import Derived.Test.YteekccjfokoglaaM7
namespace Go.Proofs.Yteekccjfokoglaa
set_option linter.unusedSimpArgs false
set_option linter.unusedVariables false
def psum : List Sp → Int
  | [] => 0
  | x :: l => x.2 - x.1 + 1 + psum l
theorem psum_snoc (l : List Sp) (x : Sp) : psum (l ++ [x]) = psum l + (x.2 - x.1 + 1) := by
  induction l with
  | nil => simp [psum]
  | cons y l ih => rw [List.cons_append, psum, ih, psum]; omega
theorem psum_false (l : List Sp) : wsum false l = psum l := by
  induction l with
  | nil => rfl
  | cons x l ih => rw [wsum, psum, ih]; simp [wgt]
theorem psum_true (l : List Sp) : wsum true (l.map unS) = psum l := by
  induction l with
  | nil => rfl
  | cons x l ih =>
    rw [List.map_cons, wsum, psum, ih]
    have : wgt true (unS x) = x.2 - x.1 + 1 := by
      simp only [wgt, unS, un, if_true]; omega
    rw [this]
theorem count_rn (s : NS) : countS s = psum (rn (s.1.map clipI)) + psum (rn (fr s.2)) := by
  unfold countS
  show wsum false (nrm false s.1) + wsum true (nrm true s.2) = _
  rw [← ints_nrm, ← frac_nrm, psum_false, psum_true]
theorem psum_bd (l : List Sp) (h : ∀ x ∈ l, -1000000000000000 ≤ x.1 ∧ x.1 ≤ x.2 ∧ x.2 ≤ 1000000000000000) : ∀ k, k ≤ l.length → 0 ≤ psum (l.take k) ∧ psum (l.take k) ≤ k * 2000000000000001 := by
  intro k
  induction k with
  | zero => intro _; simp [psum]
  | succ k ih =>
    intro hk
    have hi := ih (by omega)
    have hx := h l[k] (List.getElem_mem (by omega))
    rw [← List.take_append_getElem (show k < l.length by omega), psum_snoc]
    omega
/-- the numbers that the specification compares -/
def rcI (l : List Sp) : List Int := l.flatMap fun x => [x.1 * 10000, x.2 * 10000]
def rcF1 (x : Sp) : List Int := if x.1 < 0 ∧ 0 < x.2 then [x.1, x.2, 1] else [x.1, x.2]
def rcF (l : List Sp) : List Int := l.flatMap rcF1
def rzI (l : List Sp) : Bool := l.any fun x => decide (x.1 ≤ 0) && decide (0 ≤ x.2)
theorem rcI_snoc (l : List Sp) (x : Sp) : rcI (l ++ [x]) = rcI l ++ [x.1 * 10000, x.2 * 10000] := by simp [rcI]
theorem rcF_snoc (l : List Sp) (x : Sp) : rcF (l ++ [x]) = rcF l ++ rcF1 x := by simp [rcF]
theorem rc_in {s : NS} (hc : CanS s) {u : Int} (h : u ∈ rcI s.1 ++ rcF s.2) : hasB s u = true := by
  rcases List.mem_append.1 h with h | h
  · obtain ⟨p, hp, hu⟩ := List.mem_flatMap.1 h
    obtain ⟨h1, h2, h3⟩ := hc.1.1 p hp
    simp only [List.mem_cons, List.not_mem_nil, or_false] at hu
    rcases hu with rfl | rfl
    · rw [has_f s _ h2, memb_iff]; exact ⟨p, hp, Int.le_refl _, h1⟩
    · rw [has_f s _ h3, memb_iff]; exact ⟨p, hp, h1, Int.le_refl _⟩
  · obtain ⟨p, hp, hu⟩ := List.mem_flatMap.1 h
    obtain ⟨h1, h2, h3⟩ := hc.2.1 p hp
    unfold rcF1 at hu
    have a1 : hasB s p.1 = true := by rw [has_t s _ h2, memb_iff]; exact ⟨p, hp, Int.le_refl _, h1⟩
    have a2 : hasB s p.2 = true := by rw [has_t s _ h3, memb_iff]; exact ⟨p, hp, h1, Int.le_refl _⟩
    split at hu
    · rename_i h0
      simp only [List.mem_cons, List.not_mem_nil, or_false] at hu
      rcases hu with rfl | rfl | rfl
      · exact a1
      · exact a2
      · have hon : on true 1 := ⟨by simp [lim], by simp [lim], fun _ => by omega⟩
        rw [has_t s _ hon, memb_iff]; exact ⟨p, hp, by omega, by omega⟩
    · simp only [List.mem_cons, List.not_mem_nil, or_false] at hu
      rcases hu with rfl | rfl
      · exact a1
      · exact a2
theorem rc_near {s : NS} (hc : CanS s) (hz : rzI s.1 = false) {v : Int} (h : hasB s v = true) : ∃ u ∈ rcI s.1 ++ rcF s.2, v = u ∨ nearB u v = true := by
  have hv := has_vld h
  by_cases hw : v % 10000 = 0
  · have hon := on_w hv hw
    have e : v / 10000 * 10000 = v := by omega
    rw [← e, has_f s _ hon, memb_iff] at h
    obtain ⟨p, hp, h1, h2⟩ := h
    have hz' : ¬(p.1 ≤ 0 ∧ 0 ≤ p.2) := by
      intro h0
      have := List.any_eq_false.1 hz p hp
      simp at this; omega
    by_cases ha : 0 < p.1
    · refine ⟨p.1 * 10000, List.mem_append_left _ (List.mem_flatMap.2 ⟨p, hp, by simp⟩), ?_⟩
      rw [nearB_iff]; omega
    · refine ⟨p.2 * 10000, List.mem_append_left _ (List.mem_flatMap.2 ⟨p, hp, by simp⟩), ?_⟩
      rw [nearB_iff]; omega
  · have hon := on_t hv hw
    rw [has_t s _ hon, memb_iff] at h
    obtain ⟨p, hp, h1, h2⟩ := h
    obtain ⟨h3, h4, h5⟩ := hc.2.1 p hp
    have q1 := h4.2.2 rfl
    have q2 := h5.2.2 rfl
    by_cases h0 : p.1 < 0 ∧ 0 < p.2
    · refine ⟨1, List.mem_append_right _ (List.mem_flatMap.2 ⟨p, hp, by unfold rcF1; rw [if_pos h0]; simp⟩), ?_⟩
      rw [nearB_iff]; omega
    · by_cases ha : 0 ≤ p.1
      · refine ⟨p.1, List.mem_append_right _ (List.mem_flatMap.2 ⟨p, hp, by unfold rcF1; rw [if_neg h0]; simp⟩), ?_⟩
        rw [nearB_iff]; omega
      · refine ⟨p.2, List.mem_append_right _ (List.mem_flatMap.2 ⟨p, hp, by unfold rcF1; rw [if_neg h0]; simp⟩), ?_⟩
        rw [nearB_iff]; omega
def rleastO (m : NS) : Option Int := if rzI m.1 = true then some 0 else (rcI m.1 ++ rcF m.2).foldl lstep none
theorem least_of {s : NS} {l : Int} (h : IsLeast s l) : leastO s = some l := by
  rcases least_spec s with ⟨e, h0⟩ | ⟨m, e, hm⟩
  · have h1 := h.1; rw [h0 l] at h1; exact absurd h1 (by simp)
  · rw [e, isLeast_unique hm h]
theorem least_no {s : NS} (h : ∀ u, hasB s u = false) : leastO s = none := by
  rcases least_spec s with ⟨e, _⟩ | ⟨m, e, hm⟩
  · exact e
  · have h1 := hm.1; rw [h m] at h1; exact absurd h1 (by simp)
theorem rleast_eq (s : NS) : rleastO (mk s) = leastO s := by
  have hc := can_mk s
  unfold rleastO
  by_cases hz : rzI (mk s).1 = true
  · rw [if_pos hz]
    refine (least_of ⟨?_, fun u _ => ?_⟩).symm
    · obtain ⟨p, hp, h⟩ := List.any_eq_true.1 hz
      simp only [Bool.and_eq_true, decide_eq_true_eq] at h
      have hon : on false 0 := ⟨by simp [lim], by simp [lim], fun h => by cases h⟩
      have := has_f (mk s) 0 hon
      rw [has_mk] at this
      rw [show (0 : Int) = 0 * 10000 by omega, this, memb_iff]
      exact ⟨p, hp, h⟩
    · by_cases h0 : u = 0
      · exact .inl h0
      · right; rw [nearB_iff]; omega
  · rw [if_neg hz]
    have hz := Bool.eq_false_iff.2 hz
    rcases lfold_none (rcI (mk s).1 ++ rcF (mk s).2) with ⟨h1, h2⟩ | ⟨m, h1, h2, h3⟩
    · rw [h2]
      refine (least_no fun u => ?_).symm
      cases h : hasB s u
      · rfl
      · rw [← has_mk] at h
        obtain ⟨v, hv, _⟩ := rc_near hc hz h
        rw [h1] at hv; simp at hv
    · rw [h1]
      refine (least_of ⟨by rw [← has_mk]; exact rc_in hc h2, fun u hu => ?_⟩).symm
      rw [← has_mk] at hu
      obtain ⟨v, hv, h4⟩ := rc_near hc hz hu
      rcases h3 v hv with rfl | h5
      · exact h4
      · rcases h4 with rfl | h4
        · exact .inr h5
        · exact .inr (near_trans h5 h4)
theorem cmp_least (a b : NS) : (leastO (orr (minus a b) (minus b a)) = none ∧ cmpS a b = 0) ∨ ∃ u, leastO (orr (minus a b) (minus b a)) = some u ∧ vld u = true ∧ ((hasB a u = true ∧ cmpS a b = -1) ∨ (hasB a u = false ∧ cmpS a b = 1)) := by
  have hd : ∀ u, hasB (orr (minus a b) (minus b a)) u = ((hasB a u && !hasB b u) || (hasB b u && !hasB a u)) := fun u => by rw [has_or, has_minus, has_minus]
  rcases cmp_spec a b with ⟨e, u, h1, h2, h3⟩ | ⟨e, h⟩ | ⟨e, u, h1, h2, h3⟩
  · refine .inr ⟨u, least_of ⟨by rw [hd, h1, h2]; rfl, fun v hv => h3 v fun he => ?_⟩, has_vld h1, .inl ⟨h1, e⟩⟩
    rw [hd, he] at hv; cases hb : hasB b v <;> rw [hb] at hv <;> exact absurd hv (by decide)
  · refine .inl ⟨least_no fun u => ?_, e⟩
    rw [hd, h u]; cases hasB b u <;> rfl
  · refine .inr ⟨u, least_of ⟨by rw [hd, h1, h2]; rfl, fun v hv => h3 v fun he => ?_⟩, has_vld h1, .inr ⟨h2, e⟩⟩
    rw [hd, he] at hv; cases hb : hasB a v <;> rw [hb] at hv <;> exact absurd hv (by decide)
end Go.Proofs.Yteekccjfokoglaa
