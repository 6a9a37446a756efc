/-
  Mathematics of the least order: each node stands behind what leads to it; an order of all nodes is there exactly if there is no cycle. No world, no walk of a program.
-/
import Derived.Test.YthgfomjmkmkhkaaM9
import Derived.Test.YthgfomjmkmkhkaaU
namespace Go.Proofs.Ythgfomjmkmkhkaa
set_option linter.unusedSimpArgs false
set_option linter.unusedVariables false
/-- each node of the list is free behind those ahead of it -/
def Ordd (g : Gr) (O : List Nat) : Prop := ∀ i b, O[i]? = some b → b < g.length ∧ freeB g (O.take i) b = true
theorem ordd_add {g : Gr} {O : List Nat} {b : Nat} (h : Ordd g O) (hb : b < g.length) (hf : freeB g O b = true) : Ordd g (O ++ [b]) := by
  intro i c hc
  rcases Nat.lt_or_ge i O.length with hi | hi
  · rw [List.getElem?_append_left hi] at hc
    rw [List.take_append_of_le_length (by omega)]
    exact h i c hc
  · have hl : i < (O ++ [b]).length := by
      rcases Nat.lt_or_ge i (O ++ [b]).length with h' | h'
      · exact h'
      · rw [List.getElem?_eq_none h'] at hc; cases hc
    simp at hl
    obtain rfl : i = O.length := by omega
    rw [List.getElem?_append_right (Nat.le_refl _)] at hc
    simp at hc
    subst hc
    rw [List.take_left]
    exact ⟨hb, hf⟩
theorem topo_ordd {g : Gr} : ∀ (k : Nat) (O : List Nat), Ordd g O → Ordd g (topo g k O) ∧ ((topo g k O).length = O.length + k ∨ nxt g (topo g k O) = none)
  | 0, O, h => ⟨h, Or.inl rfl⟩
  | k + 1, O, h => by
    rcases hn : nxt g O with _ | b
    · rw [topo_none hn]; exact ⟨h, Or.inr hn⟩
    · rw [topo_some hn]
      obtain ⟨h1, h2, _⟩ := nxt_some.1 hn
      obtain ⟨h3, h4⟩ := topo_ordd k (O ++ [b]) (ordd_add h h1 h2)
      refine ⟨h3, h4.imp (fun e => ?_) id⟩
      rw [e, List.length_append]; simp; omega
theorem ordd_nil (g : Gr) : Ordd g [] := by intro i b h; simp at h
theorem freeB_in {g : Gr} {done : List Nat} {b : Nat} (h : freeB g done b = true) : b ∉ done ∧ ∀ a, Edge g a b → a ∈ done := by
  obtain ⟨h1, h2⟩ := freeB_iff.1 h
  refine ⟨h1, fun a e => ?_⟩
  rcases wt_zero.1 h2 a e.1 with h | h
  · exact h
  · exact absurd e.2.2 h
theorem Ordd.nodup {g : Gr} {O : List Nat} (h : Ordd g O) : O.Nodup := by
  rw [List.nodup_iff_pairwise_ne, List.pairwise_iff_getElem]
  intro i j hi hj hij e
  have h1 := (h j O[j] (List.getElem?_eq_getElem hj)).2
  refine (freeB_in h1).1 (mem_take.2 ⟨i, hij, ?_⟩)
  rw [List.getElem?_eq_getElem hi, e]
theorem Ordd.edge {g : Gr} {O : List Nat} (h : Ordd g O) {a b i j : Nat} (hi : O[i]? = some a) (hj : O[j]? = some b) (e : Edge g a b) : i < j := by
  obtain ⟨k, hk, ek⟩ := mem_take.1 ((freeB_in (h j b hj).2).2 a e)
  have := nod_at h.nodup hi ek
  omega
theorem cover : ∀ (n : Nat) (l : List Nat), (∀ x, x < n → x ∈ l) → n ≤ l.length
  | 0, l, _ => Nat.zero_le _
  | n + 1, l, h => by
    have hn := h n (by omega)
    have := cover n (l.erase n) (fun x hx => (List.mem_erase_of_ne (by omega)).2 (h x (by omega)))
    rw [List.length_erase_of_mem hn] at this
    have : 0 < l.length := List.length_pos_of_mem hn
    omega
theorem Ordd.walk {g : Gr} {O : List Nat} (h : Ordd g O) (all : ∀ x, x < g.length → x ∈ O) {a : Nat} : ∀ {n b : Nat}, Walk g a b n → ∀ {i j : Nat}, O[i]? = some a → O[j]? = some b → i + n ≤ j
  | 0, b, w, i, j, hi, hj => by
    have := w.zero; subst this
    have := nod_at h.nodup hi hj
    omega
  | n + 1, b, w, i, j, hi, hj => by
    obtain ⟨c, w', e⟩ := w.last
    obtain ⟨k, hk⟩ := List.mem_iff_getElem?.1 (all c e.1)
    have h1 := Ordd.walk h all w' hi hk
    have h2 := h.edge hk hj e
    omega
/-- an order of all nodes: no node lies on a cycle -/
theorem ordd_acyclic {g : Gr} {O : List Nat} (h : Ordd g O) (all : ∀ x, x < g.length → x ∈ O) (x : Nat) : ¬ Con g x x := by
  rintro ⟨n, w⟩
  obtain ⟨i, hi⟩ := List.mem_iff_getElem?.1 (all x w.left)
  have := h.walk all w hi hi
  omega
theorem ordd_all {g : Gr} {O : List Nat} (h : Ordd g O) (hl : O.length = g.length) : ∀ x, x < g.length → x ∈ O := by
  intro x hx
  apply Classical.byContradiction
  intro hn
  have := pig g.length (x :: O) (List.nodup_cons.2 ⟨hn, h.nodup⟩) (fun y hy => by
    rcases List.mem_cons.1 hy with rfl | hy
    · exact hx
    · obtain ⟨i, hi⟩ := List.mem_iff_getElem?.1 hy
      exact (h i y hi).1)
  simp at this
  omega
/-- where nobody is free and not all nodes stand, there is a cycle -/
theorem stuck_cycle {g : Gr} {O : List Nat} (hn : nxt g O = none) (hl : O.length < g.length) : ∃ x, Con g x x := by
  have hpre : ∀ b : Nat, b < g.length ∧ b ∉ O → ∃ a, (a < g.length ∧ a ∉ O) ∧ Edge g a b := by
    rintro b ⟨hb, hbO⟩
    have h1 := nxt_none.1 hn b hb
    rw [← Bool.not_eq_true, freeB_iff] at h1
    have h2 : ¬ wt g O b = 0 := fun e => h1 ⟨hbO, e⟩
    rw [wt_zero] at h2
    apply Classical.byContradiction
    intro hno
    refine h2 fun a ha => ?_
    by_cases haO : a ∈ O
    · exact Or.inl haO
    · right; intro hm
      exact hno ⟨a, ⟨ha, haO⟩, ha, hb, hm⟩
  obtain ⟨b0, hb0⟩ : ∃ b, b < g.length ∧ b ∉ O := by
    apply Classical.byContradiction
    intro hno
    have := cover g.length O (fun x hx => by
      apply Classical.byContradiction
      intro h; exact hno ⟨x, hx, h⟩)
    omega
  -- a chain of g.length + 1 nodes outside, each led to by the next one
  have chain : ∀ n : Nat, ∃ l : List Nat, l.length = n + 1 ∧ (∀ x ∈ l, x < g.length ∧ x ∉ O) ∧ ∀ i a b, l[i]? = some b → l[i + 1]? = some a → Edge g a b := by
    intro n
    induction n with
    | zero => exact ⟨[b0], rfl, by simpa using hb0, by intro i a b h1 h2; simp at h2⟩
    | succ n ih =>
      obtain ⟨l, h1, h2, h3⟩ := ih
      obtain ⟨b, hb⟩ : ∃ b, l[n]? = some b := ⟨_, List.getElem?_eq_getElem (by omega)⟩
      obtain ⟨a, ha, e⟩ := hpre b (h2 b (List.mem_of_getElem? hb))
      refine ⟨l ++ [a], by simp [h1], fun x hx => ?_, fun i c d hd hc => ?_⟩
      · rcases List.mem_append.1 hx with h | h
        · exact h2 x h
        · simp at h; subst h; exact ha
      · rcases Nat.lt_or_ge (i + 1) l.length with h | h
        · rw [List.getElem?_append_left (by omega)] at hd
          rw [List.getElem?_append_left h] at hc
          exact h3 i c d hd hc
        · have hi : i = n := by
            have : i + 1 < (l ++ [a]).length := by
              rcases Nat.lt_or_ge (i + 1) (l ++ [a]).length with h' | h'
              · exact h'
              · rw [List.getElem?_eq_none h'] at hc; cases hc
            simp at this
            omega
          subst hi
          rw [List.getElem?_append_left (by omega), hb] at hd
          rw [List.getElem?_append_right (by omega)] at hc
          simp [h1] at hc
          subst hc
          obtain rfl := Option.some.inj hd
          exact e
  obtain ⟨l, h1, h2, h3⟩ := chain g.length
  have hnd : ¬ l.Nodup := by
    intro hnd
    have := pig g.length l hnd (fun x hx => (h2 x hx).1)
    omega
  -- two places of one node
  have htwo : ∃ i j, i < j ∧ j < l.length ∧ l[i]? = l[j]? := by
    apply Classical.byContradiction
    intro hno
    refine hnd ?_
    rw [List.nodup_iff_pairwise_ne, List.pairwise_iff_getElem]
    intro i j hi hj hij e
    exact hno ⟨i, j, hij, hj, by rw [List.getElem?_eq_getElem hi, List.getElem?_eq_getElem hj, e]⟩
  obtain ⟨i, j, hij, hj, e⟩ := htwo
  have back : ∀ (d i x y : Nat), l[i]? = some x → l[i + d]? = some y → To g y x := by
    intro d
    induction d with
    | zero =>
      intro i x y hx hy
      rw [Nat.add_zero, hx] at hy
      obtain rfl := Option.some.inj hy
      exact To.refl (h2 _ (List.mem_of_getElem? hx)).1
    | succ d ih =>
      intro i x y hx hy
      have hlt : i + d < l.length := by
        rcases Nat.lt_or_ge (i + (d + 1)) l.length with h' | h'
        · omega
        · rw [List.getElem?_eq_none h'] at hy; cases hy
      obtain ⟨z, hz⟩ : ∃ z, l[i + d]? = some z := ⟨_, List.getElem?_eq_getElem hlt⟩
      exact (To.edge (h3 (i + d) y z hz hy)).trans (ih i x z hx hz)
  obtain ⟨x, hx⟩ : ∃ x, l[i]? = some x := ⟨_, List.getElem?_eq_getElem (by omega)⟩
  obtain ⟨y, hy⟩ : ∃ y, l[i + 1]? = some y := ⟨_, List.getElem?_eq_getElem (by omega)⟩
  have hxj : l[(i + 1) + (j - (i + 1))]? = some x := by rw [show (i + 1) + (j - (i + 1)) = j by omega, ← e]; exact hx
  have ht := back (j - (i + 1)) (i + 1) y x hy hxj
  have he := h3 i y x hx hy
  refine ⟨x, ?_⟩
  rcases ht.cases with h | h
  · subst h; exact Con.edge he
  · exact h.trans (Con.edge he)
theorem cycS_nil {g : Gr} : cycS g = [] ↔ ∀ x, x < g.length → ¬ Con g x x := by
  unfold cycS
  constructor
  · intro h
    rcases hc : cycAt g with _ | s
    · exact cycAt_not hc
    · rw [hc] at h; cases h
  · intro h
    rw [cycAt_none h]
/-- Topo's order is there exactly if there is no cycle -/
theorem topo_cycle (g : Gr) : (topoR g).2 = decide (cycS g = []) := by
  obtain ⟨h1, h2⟩ := topo_ordd g.length [] (ordd_nil g)
  unfold topoR
  by_cases hl : (topo g g.length []).length = g.length
  · rw [if_pos hl]
    exact (decide_eq_true (cycS_nil.2 (fun x _ => ordd_acyclic h1 (ordd_all h1 hl) x))).symm
  · rw [if_neg hl]
    refine (decide_eq_false ?_).symm
    rcases h2 with h2 | h2
    · simp at h2; exact absurd h2 hl
    · have hle : (topo g g.length []).length ≤ g.length := pig g.length _ h1.nodup (fun x hx => by
        obtain ⟨i, hi⟩ := List.mem_iff_getElem?.1 hx
        exact (h1 i x hi).1)
      obtain ⟨x, hx⟩ := stuck_cycle h2 (by omega)
      intro e
      obtain ⟨n, w⟩ := hx
      exact cycS_nil.1 e x w.left ⟨n, w⟩
end Go.Proofs.Ythgfomjmkmkhkaa
