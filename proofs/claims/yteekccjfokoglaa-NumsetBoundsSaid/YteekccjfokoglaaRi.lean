/-
  A region that draws its order, by an invariant over what has been done. No condition.
-/
import Derived.RegionTactic
namespace Go.Proofs.Yteekccjfokoglaa
open Go
/-- what has been done, and i -/
def updL (L : Nat → Bool) (i : Nat) : Nat → Bool := fun j => decide (j = i) || L j
theorem updL_self (L : Nat → Bool) (i : Nat) : updL L i i = true := by simp [updL]
theorem updL_ne (L : Nat → Bool) {i j : Nat} (h : j ≠ i) : updL L i j = L j := by simp [updL, h]
theorem updL_mono (L : Nat → Bool) {i j : Nat} (h : L j = true) : updL L i j = true := by simp [updL, h]
/-- the operations that have to be done before -/
def deps (o : Oper) : List Nat := (o.after.toList.filter (Region.binds .any)).map (·.on)
section
variable {P : Program} {ops : Array Oper} {Q : Exit → Act → World → Prop}
theorem ready_mem {listed : Array Bool} {i : Nat} (hi : i ∈ Region.ready .any ops listed) :
    i < ops.size ∧ listed.getD i true = false ∧ ∃ o, ops[i]? = some o ∧ ∀ d ∈ deps o, listed.getD d false = true := by
  simp only [Region.ready, List.mem_filter, List.mem_range, Bool.and_eq_true, Bool.not_eq_true'] at hi
  obtain ⟨h1, h2, h3⟩ := hi
  refine ⟨h1, h2, ops[i], Array.getElem?_eq_getElem h1, fun d hd => ?_⟩
  rw [Array.getElem?_eq_getElem h1] at h3
  simp only [Option.map_some, Option.getD_some, Array.all_eq_true_iff_forall_mem, Bool.or_eq_true, Bool.not_eq_true'] at h3
  simp only [deps, List.mem_map, List.mem_filter, Array.mem_toList_iff] at hd
  obtain ⟨e, ⟨he, hb⟩, rfl⟩ := hd
  rcases h3 e he with h | h
  · rw [hb] at h; exact absurd h (by simp)
  · exact h
theorem ready_nil {listed : Array Bool} (hl : listed.size = ops.size) (hlow : ∀ i o, ops[i]? = some o → ∀ d ∈ deps o, d < i)
    (hr : Region.ready .any ops listed = []) : ∀ i, i < ops.size → listed.getD i false = true := by
  intro i
  induction i using Nat.strongRecOn with
  | _ i ih =>
    intro hi
    refine Bool.not_eq_false _ ▸ fun hf => ?_
    have hm : i ∈ Region.ready .any ops listed := by
      simp only [Region.ready, List.mem_filter, List.mem_range, Bool.and_eq_true, Bool.not_eq_true']
      refine ⟨hi, ?_, ?_⟩
      · rw [Array.getD_eq_getD_getElem?, Array.getElem?_eq_getElem (by omega)] at hf ⊢; exact hf
      · rw [Array.getElem?_eq_getElem hi]
        simp only [Option.map_some, Option.getD_some, Array.all_eq_true_iff_forall_mem, Bool.or_eq_true, Bool.not_eq_true']
        intro e he
        cases hb : Region.binds .any e
        · exact .inl rfl
        · have hd : e.on ∈ deps ops[i] := by
            simp only [deps, List.mem_map, List.mem_filter, Array.mem_toList_iff]
            exact ⟨e, ⟨he, hb⟩, rfl⟩
          have hlt := hlow i _ (Array.getElem?_eq_getElem hi) _ hd
          exact .inr (ih _ hlt (by omega))
    rw [hr] at hm; cases hm
theorem wpAny_inv (Inv : (Nat → Bool) → Act → World → Prop) (hlow : ∀ i o, ops[i]? = some o → ∀ d ∈ deps o, d < i)
    (hs : ∀ i o, ops[i]? = some o → ∀ (L : Nat → Bool) a w, Inv L a w → L i = false → (∀ d ∈ deps o, L d = true) → wpOp P ops Q i (fun a' w' => Inv (updL L i) a' w') a w)
    (he : ∀ (L : Nat → Bool) a w, Inv L a w → (∀ i, i < ops.size → L i = true) → Q .normal a w) :
    ∀ (fuel : Nat) (listed : Array Bool) (a : Act) (w : World), listed.size = ops.size → listed.toList.countP (fun b => !b) ≤ fuel → Inv (fun j => listed.getD j false) a w → wpAny P .any ops Q fuel listed a w := by
  intro fuel
  induction fuel with
  | zero =>
    intro listed a w hsz hc hI
    have hall : ∀ i, i < ops.size → listed.getD i false = true := by
      intro i hi
      rw [Array.getD_eq_getD_getElem?, Array.getElem?_eq_getElem (by omega)]
      have h0 : listed.toList.countP (fun b => !b) = 0 := by omega
      rw [List.countP_eq_zero] at h0
      have := h0 listed[i] (by simp)
      simpa using this
    refine ⟨?_, he _ a w hI hall⟩
    rw [List.eq_nil_iff_forall_not_mem]
    intro i hi
    obtain ⟨h1, h2, _⟩ := ready_mem hi
    have h3 := hall i h1
    rw [Array.getD_eq_getD_getElem?, Array.getElem?_eq_getElem (by omega)] at h2 h3
    rw [Option.getD_some] at h2 h3
    rw [h2] at h3; exact absurd h3 (by simp)
  | succ fuel ih =>
    intro listed a w hsz hc hI
    refine ⟨fun hr => he _ a w hI (ready_nil hsz hlow hr), fun i hi => ?_⟩
    obtain ⟨h1, h2, o, ho, hd⟩ := ready_mem hi
    have h2' : listed[i]'(by omega) = false := by
      rw [Array.getD_eq_getD_getElem?, Array.getElem?_eq_getElem (by omega)] at h2; simpa using h2
    have hLi : listed.getD i false = false := by
      rw [Array.getD_eq_getD_getElem?, Array.getElem?_eq_getElem (by omega)]; simpa using h2'
    refine wpOp_mono (fun a' w' hI' => ih (listed.setIfInBounds i true) a' w' (by simpa using hsz) ?_ ?_) (hs i o ho (fun j => listed.getD j false) a w hI hLi hd)
    · rw [Array.toList_setIfInBounds, List.countP_set (by simpa using (by omega : i < listed.size))]
      have hpos : 0 < listed.toList.countP (fun b => !b) := by
        rw [List.countP_pos_iff]; exact ⟨listed[i]'(by omega), by simp, by simp [h2']⟩
      rw [if_pos (by simpa using h2'), if_neg (by simp)]; omega
    · have e : (fun j => (listed.setIfInBounds i true).getD j false) = updL (fun j => listed.getD j false) i := by
        funext j
        simp only [updL, Array.getD_eq_getD_getElem?]
        by_cases hj : j = i
        · subst hj; simp [show j < listed.size by omega]
        · have hj' : ¬ i = j := fun e => hj e.symm
          simp [hj, hj']
      rw [e]; exact hI'
/-- THE RULE: an invariant that holds at the start, that every operation keeps whose forerunners are done, and that at the end gives what is asked. -/
theorem wp_region_inv {id : Nat} {a : Act} {w : World} (Inv : (Nat → Bool) → Act → World → Prop) (hm : P.follows .mixedOrders = true)
    (hlow : (List.range ops.size).all (fun i => ((ops[i]?).map fun o => (deps o).all fun d => decide (d < i)).getD true) = true)
    (h0 : Inv (fun _ => false) a w.drew)
    (hs : ∀ i o, ops[i]? = some o → ∀ (L : Nat → Bool) a w, Inv L a w → L i = false → (∀ d ∈ deps o, L d = true) →
      ∀ K' : Act → World → Prop, (∀ a w, Inv (updL L i) a w → K' a w) → if Region.wanted o (yielded ops a.tmps) = true then Oper.wp P o a w K' Q else K' (a.put o.dst undef) w)
    (he : ∀ (L : Nat → Bool) a w, Inv L a w → (∀ i, i < ops.size → L i = true) → Q .normal a w) : (Code.region id ops true).wp P Q a w := by
  refine wp_region_any hm (wpAny_inv Inv ?_ (fun i o ho L a w h1 h2 h3 => wpOp_step ho (hs i o ho L a w h1 h2 h3)) he ops.size _ a _ (by simp) ?_ ?_)
  · intro i o ho d hd
    have hi : i < ops.size := (Array.getElem?_eq_some_iff.1 ho).1
    have h := List.all_eq_true.1 hlow i (by simpa using hi)
    rw [ho] at h
    simp only [Option.map_some, Option.getD_some, List.all_eq_true, decide_eq_true_eq] at h
    exact h d hd
  · simp
    have := List.countP_le_length (p := fun b : Bool => !b) (l := List.replicate ops.size false)
    simpa using this
  · have e : (fun j => (Array.replicate ops.size false).getD j false) = fun _ => false := by
      funext j
      rw [Array.getD_eq_getD_getElem?, Array.getElem?_replicate]
      split <;> rfl
    rw [e]; exact h0
end
end Go.Proofs.Yteekccjfokoglaa
