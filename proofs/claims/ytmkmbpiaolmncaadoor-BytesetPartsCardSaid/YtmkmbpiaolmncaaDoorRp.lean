/-
  The specification's Partition: the classes in the order of their first bytes. No condition on the world.
-/
import Derived.Test.YtmkmbpiaolmncaaDoorRf
namespace Go.Proofs.YtmkmbpiaolmncaaDoor
open Go.RowKit
set_option linter.unusedSimpArgs false
set_option linter.unnecessarySimpa false
set_option linter.unusedVariables false
theorem own_set {w : World} {B : Nat} {e : TypeId} {k : Nat} {v : Value} {n : Nat} {xs : List Value} (h : w.ownsRow B e k v n xs) {c i : Nat} {u : Value}
    (hc : ∀ g cap, v = .slice (some ⟨g, 0, none⟩) n cap → c ≠ g) : (w.setCell ⟨c, i, none⟩ u).ownsRow B e k v n xs := by
  refine ⟨h.1, ?_⟩
  rcases h.2 with h' | ⟨g, cap, cur, hv, hbg, hg, r⟩
  · exact .inl h'
  · exact .inr ⟨g, cap, cur, hv, hbg, by rw [heap_setCell_other _ _ _ _ (fun e => hc g cap hv e.symm)]; exact hg, r⟩
theorem own_put4 {w : World} {B : Nat} {e : TypeId} {k : Nat} {v : Value} {n : Nat} {xs : List Value} (h : w.ownsRow B e k v n xs) {c : Nat} (s : BS)
    (hc : ∀ g cap, v = .slice (some ⟨g, 0, none⟩) n cap → c ≠ g) : (put4 w c s).ownsRow B e k v n xs := own_set (own_set (own_set (own_set h hc) hc) hc) hc
/-- what is done ahead of byte k -/
def DoneIs (l : List BS) (k : Nat) (D : BS) : Prop := ∀ y, y < 256 → D.getLsbD y = (List.range k).any (fun z => sameB z y l)
/-- the part as it grows -/
def PartTo (l : List BS) (k m : Nat) (P : BS) : Prop := ∀ y, y < 256 → P.getLsbD y = (decide (k ≤ y) && decide (y < m) && sameB k y l)
def DoneTo (l : List BS) (k m : Nat) (D : BS) : Prop := ∀ y, y < 256 → D.getLsbD y = ((List.range k).any (fun z => sameB z y l) || (decide (k ≤ y) && decide (y < m) && sameB k y l))
theorem any_range (l : List BS) (k y : Nat) : (List.range k).any (fun z => sameB z y l) = true ↔ ∃ z, z < k ∧ sameB z y l = true := by
  rw [List.any_eq_true]
  constructor
  · rintro ⟨z, hz, h⟩; exact ⟨z, by simpa using hz, h⟩
  · rintro ⟨z, hz, h⟩; exact ⟨z, by simpa using hz, h⟩
theorem done_zero (l : List BS) : DoneIs l 0 0#256 := by intro y hy; simp
theorem part_zero (l : List BS) (k : Nat) : PartTo l k k 0#256 := by
  intro y hy
  have : (decide (k ≤ y) && decide (y < k)) = false := by
    by_cases h : k ≤ y
    · have : ¬ y < k := by omega
      simp [this]
    · simp [h]
  rw [this]; simp
theorem doneto_start {l : List BS} {k : Nat} {D : BS} (h : DoneIs l k D) : DoneTo l k k D := by
  intro y hy
  have : (decide (k ≤ y) && decide (y < k)) = false := by
    by_cases h : k ≤ y
    · have : ¬ y < k := by omega
      simp [this]
    · simp [h]
  rw [h y hy, this]; simp
theorem part_skip {l : List BS} {k m : Nat} {P : BS} (h : PartTo l k m P) (hs : sameB k m l = false) : PartTo l k (m + 1) P := by
  intro y hy
  rw [h y hy]
  by_cases e : y = m
  · subst e; rw [hs]; simp
  · have : decide (y < m + 1) = decide (y < m) := by rw [decide_eq_decide]; omega
    rw [this]
theorem done_skip {l : List BS} {k m : Nat} {P : BS} (h : DoneTo l k m P) (hs : sameB k m l = false) : DoneTo l k (m + 1) P := by
  intro y hy
  rw [h y hy]
  by_cases e : y = m
  · subst e; rw [hs]; simp
  · have : decide (y < m + 1) = decide (y < m) := by rw [decide_eq_decide]; omega
    rw [this]
theorem part_take {l : List BS} {k m : Nat} {P : BS} (h : PartTo l k m P) (hkm : k ≤ m) (hs : sameB k m l = true) : PartTo l k (m + 1) (wth P m) := by
  intro y hy
  rw [mem_wth P m y hy, h y hy]
  by_cases e : y = m
  · subst e; rw [hs]; simp [hkm]
  · have : decide (y < m + 1) = decide (y < m) := by rw [decide_eq_decide]; omega
    rw [this]; simp [e]
theorem done_take {l : List BS} {k m : Nat} {P : BS} (h : DoneTo l k m P) (hkm : k ≤ m) (hs : sameB k m l = true) : DoneTo l k (m + 1) (wth P m) := by
  intro y hy
  rw [mem_wth P m y hy, h y hy]
  by_cases e : y = m
  · subst e; rw [hs]; simp [hkm]
  · have : decide (y < m + 1) = decide (y < m) := by rw [decide_eq_decide]; omega
    rw [this]; simp [e]
theorem first_of {l : List BS} {k : Nat} {D : BS} (hk : k < 256) (h : DoneIs l k D) (hd : D.getLsbD k = false) : first l k = true := by
  rw [first_iff]
  intro z hz
  cases e : sameB z k l with
  | false => rfl
  | true =>
    have := (any_range l k k).2 ⟨z, hz, e⟩
    rw [← h k hk, hd] at this; cases this
theorem first_not {l : List BS} {k : Nat} {D : BS} (hk : k < 256) (h : DoneIs l k D) (hd : D.getLsbD k = true) : first l k = false ∧ DoneIs l (k + 1) D := by
  rw [h k hk] at hd
  obtain ⟨z, hz, e⟩ := (any_range l k k).1 hd
  refine ⟨?_, ?_⟩
  · cases hf : first l k with
    | false => rfl
    | true => rw [first_iff] at hf; rw [hf z hz] at e; cases e
  · intro y hy
    rw [h y hy, Bool.eq_iff_iff, any_range, any_range]
    constructor
    · rintro ⟨a, ha, h1⟩; exact ⟨a, by omega, h1⟩
    · rintro ⟨a, ha, h1⟩
      by_cases hak : a = k
      · subst hak; exact ⟨z, hz, sameB_trans e h1⟩
      · exact ⟨a, by omega, h1⟩
theorem part_end {l : List BS} {k : Nat} {P : BS} (hf : first l k = true) (h : PartTo l k 256 P) : P = cl l k := by
  apply ext_bs
  intro y hy
  rw [h y hy, mem_cl l k y hy]
  rw [first_iff] at hf
  by_cases hk : k ≤ y
  · simp [hk, hy]
  · have : sameB k y l = false := by
      cases e : sameB k y l with
      | false => rfl
      | true => have := hf y (by omega); rw [sameB_symm e] at this; cases this
    rw [this]; simp
theorem done_end {l : List BS} {k : Nat} {D : BS} (hf : first l k = true) (h : DoneTo l k 256 D) : DoneIs l (k + 1) D := by
  intro y hy
  rw [h y hy, Bool.eq_iff_iff, Bool.or_eq_true, any_range, any_range]
  rw [first_iff] at hf
  constructor
  · rintro (⟨z, hz, e⟩ | e)
    · exact ⟨z, by omega, e⟩
    · simp only [Bool.and_eq_true] at e; exact ⟨k, by omega, e.2⟩
  · rintro ⟨z, hz, e⟩
    by_cases hzk : z = k
    · subst hzk
      right
      have hk : z ≤ y := by
        rcases Nat.lt_or_ge y z with h1 | h1
        · have := hf y h1; rw [sameB_symm e] at this; cases this
        · exact h1
      simp [hk, hy, e]
    · exact .inl ⟨z, by omega, e⟩
theorem refL_len (l : List BS) (k : Nat) : (refL l k).length ≤ k := by
  unfold refL; rw [List.length_map]
  exact Nat.le_trans (List.length_filter_le _ _) (by simp)
/-- what the outer loop keeps -/
structure Outer (l : List BS) (w : World) (u : Value) (k : Nat) (D : BS) (wr : World) : Prop where
  own : wr.ownsRow (w.heap.size + 1) 24 4 u (refL l k).length (flatB (refL l k))
  row : Row4 wr w.heap.size D
  done : DoneIs l k D
  bel : Below w.heap.size w wr
/-- what the inner loop keeps -/
structure Inner (l : List BS) (w : World) (u : Value) (k b m : Nat) (D P : BS) (wr : World) : Prop where
  own : wr.ownsRow (w.heap.size + 1) 24 4 u (refL l k).length (flatB (refL l k))
  ne : ∀ g cap, u = .slice (some ⟨g, 0, none⟩) (refL l k).length cap → b ≠ g
  lt : w.heap.size < b
  row : Row4 wr w.heap.size D
  part : Row4 wr b P
  done : DoneTo l k m D
  pt : PartTo l k m P
  bel : Below w.heap.size w wr
theorem Inner.below {l : List BS} {w : World} {u : Value} {k b m : Nat} {D P : BS} {wr w' : World} (h : Inner l w u k b m D P wr) (hb : Below wr.heap.size wr w') : Inner l w u k b m D P w' :=
  ⟨own_below h.own hb, h.ne, h.lt, h.row.below hb h.row.size, h.part.below hb h.part.size, h.done, h.pt, h.bel.trans (hb.mono h.bel.size)⟩
theorem Outer.below {l : List BS} {w : World} {u : Value} {k : Nat} {D : BS} {wr w' : World} (h : Outer l w u k D wr) (hb : Below wr.heap.size wr w') : Outer l w u k D w' :=
  ⟨own_below h.own hb, h.row.below hb h.row.size, h.done, h.bel.trans (hb.mono h.bel.size)⟩
theorem Inner.done_ne {l : List BS} {w : World} {u : Value} {k b m : Nat} {D P : BS} {wr : World} (h : Inner l w u k b m D P wr) : ∀ g cap, u = .slice (some ⟨g, 0, none⟩) (refL l k).length cap → w.heap.size ≠ g := by
  intro g cap e
  have := h.own
  rw [e] at this
  have := (this.lt g rfl).1
  omega
theorem Inner.putP {l : List BS} {w : World} {u : Value} {k b m : Nat} {D P : BS} {wr : World} (h : Inner l w u k b m D P wr) (s : BS) :
    (put4 wr b s).ownsRow (w.heap.size + 1) 24 4 u (refL l k).length (flatB (refL l k)) ∧ Row4 (put4 wr b s) w.heap.size D ∧ Row4 (put4 wr b s) b s ∧ Below w.heap.size w (put4 wr b s) :=
  ⟨own_put4 h.own s h.ne, h.row.put_other s (by have := h.lt; omega), h.part.put s, below_put4 h.bel (Nat.le_of_lt h.lt) s⟩
end Go.Proofs.YtmkmbpiaolmncaaDoor
