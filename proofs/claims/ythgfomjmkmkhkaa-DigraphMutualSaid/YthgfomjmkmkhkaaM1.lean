/-
  Mathematics of directed graphs for the laws of digraph: edges, walks of a length, shortest walks, a list of different numbers below n is no longer than n. No world, no walk of a program.
-/
namespace Go.Proofs.Ythgfomjmkmkhkaa
set_option linter.unusedVariables false

abbrev Gr := List (List Int)

/-- a node's successors -/
def suc (g : Gr) (a : Nat) : List Int := (g[a]?).getD []

/-- an edge from a node to a node -/
def Edge (g : Gr) (a b : Nat) : Prop := a < g.length ∧ b < g.length ∧ (b : Int) ∈ suc g a

instance (g : Gr) (a b : Nat) : Decidable (Edge g a b) := by unfold Edge; infer_instance

/-- a walk of a length -/
inductive Walk (g : Gr) : Nat → Nat → Nat → Prop
  | nil (a : Nat) : a < g.length → Walk g a a 0
  | snoc (a b c n : Nat) : Walk g a b n → Edge g b c → Walk g a c (n + 1)

theorem Walk.left {g : Gr} {a b n : Nat} (h : Walk g a b n) : a < g.length := by
  induction h with
  | nil h => exact h
  | snoc _ _ _ _ _ ih => exact ih

theorem Walk.right {g : Gr} {a b n : Nat} (h : Walk g a b n) : b < g.length := by
  cases h with
  | nil h => exact h
  | snoc _ _ _ _ e => exact e.2.1

theorem Walk.zero {g : Gr} {a b : Nat} (h : Walk g a b 0) : a = b := by
  cases h; rfl

theorem Walk.last {g : Gr} {a c n : Nat} (h : Walk g a c (n + 1)) : ∃ b, Walk g a b n ∧ Edge g b c := by
  cases h with
  | snoc b _ _ w e => exact ⟨_, w, e⟩

theorem Walk.trans {g : Gr} {a b c n m : Nat} (h : Walk g a b n) (k : Walk g b c m) : Walk g a c (n + m) := by
  induction k with
  | nil _ => exact h
  | snoc d e m' w ed ih => exact Walk.snoc _ _ _ _ ih ed

theorem Walk.cons {g : Gr} {a b c n : Nat} (e : Edge g a b) (k : Walk g b c n) : Walk g a c (n + 1) := by
  have := (Walk.snoc a a b 0 (Walk.nil a e.1) e).trans k
  rwa [Nat.add_comm] at this

theorem Walk.first {g : Gr} {a c n : Nat} (h : Walk g a c (n + 1)) : ∃ b, Edge g a b ∧ Walk g b c n := by
  induction n generalizing c with
  | zero =>
    obtain ⟨b, w, e⟩ := h.last
    have := w.zero; subst this
    exact ⟨c, e, Walk.nil c e.2.1⟩
  | succ n ih =>
    obtain ⟨b, w, e⟩ := h.last
    obtain ⟨d, e1, w1⟩ := ih w
    exact ⟨d, e1, Walk.snoc _ _ _ _ w1 e⟩

/-- the shortest walk has this length -/
def Far (g : Gr) (a b d : Nat) : Prop := Walk g a b d ∧ ∀ k, k < d → ¬ Walk g a b k

theorem Far.unique {g : Gr} {a b d e : Nat} (h : Far g a b d) (k : Far g a b e) : d = e := by
  rcases Nat.lt_trichotomy d e with x | x | x
  · exact absurd h.1 (k.2 d x)
  · exact x
  · exact absurd k.1 (h.2 e x)

theorem far_of_walk {g : Gr} {a b : Nat} : ∀ {n : Nat}, Walk g a b n → ∃ d, d ≤ n ∧ Far g a b d := by
  intro n
  induction n using Nat.strongRecOn with
  | ind n ih =>
    intro h
    by_cases hx : ∃ k, k < n ∧ Walk g a b k
    · obtain ⟨k, hk, w⟩ := hx
      obtain ⟨d, hd, hf⟩ := ih k hk w
      exact ⟨d, by omega, hf⟩
    · exact ⟨n, Nat.le_refl _, h, fun k hk w => hx ⟨k, hk, w⟩⟩

theorem Far.zero {g : Gr} {a : Nat} (h : a < g.length) : Far g a a 0 := ⟨Walk.nil a h, fun k hk => by omega⟩

/-- ahead of a node that is d + 1 away lies one that is d away -/
theorem Far.last {g : Gr} {a c d : Nat} (h : Far g a c (d + 1)) : ∃ b, Far g a b d ∧ Edge g b c := by
  obtain ⟨b, w, e⟩ := h.1.last
  refine ⟨b, ⟨w, fun k hk wk => ?_⟩, e⟩
  exact h.2 (k + 1) (by omega) (Walk.snoc _ _ _ _ wk e)

theorem Far.first {g : Gr} {a c d : Nat} (h : Far g a c (d + 1)) : ∃ b, Edge g a b ∧ Far g b c d := by
  obtain ⟨b, e, w⟩ := h.1.first
  refine ⟨b, e, w, fun k hk wk => ?_⟩
  exact h.2 (k + 1) (by omega) (Walk.cons e wk)

/-- an edge leads at most one further -/
theorem Far.step {g : Gr} {a b c d : Nat} (h : Far g a b d) (e : Edge g b c) : ∃ k, k ≤ d + 1 ∧ Far g a c k :=
  far_of_walk (Walk.snoc _ _ _ _ h.1 e)

theorem Far.down {g : Gr} {a c : Nat} : ∀ {d : Nat}, Far g a c d → ∀ k, k ≤ d → ∃ b, Far g a b k := by
  intro d
  induction d generalizing c with
  | zero => intro h k hk; obtain rfl : k = 0 := by omega
            exact ⟨c, h⟩
  | succ d ih =>
    intro h k hk
    by_cases hx : k = d + 1
    · exact ⟨c, hx ▸ h⟩
    · obtain ⟨b, hb, _⟩ := h.last
      exact ih hb k (by omega)

/-- different numbers below n are at most n -/
theorem pig : ∀ (n : Nat) (l : List Nat), l.Nodup → (∀ x ∈ l, x < n) → l.length ≤ n := by
  intro n
  induction n with
  | zero =>
    intro l _ h
    cases l with
    | nil => exact Nat.le_refl _
    | cons x l => exact absurd (h x (by simp)) (by omega)
  | succ n ih =>
    intro l hn h
    have h1 : (l.erase n).length ≤ n := ih (l.erase n) (hn.erase n) (fun x hx => by
      have hm := List.mem_of_mem_erase hx
      have := h x hm
      have hne : x ≠ n := fun e => by subst e; exact absurd hx (hn.not_mem_erase)
      omega)
    have h2 : l.length ≤ (l.erase n).length + 1 := by
      rw [List.length_erase]; split <;> omega
    omega

theorem pick {α : Type} (P : Nat → α → Prop) : ∀ (n : Nat), (∀ k, k < n → ∃ x, P k x) → ∃ f : List α, f.length = n ∧ ∀ k (h : k < f.length), P k f[k] := by
  intro n
  induction n with
  | zero => intro _; exact ⟨[], rfl, fun k h => by cases h⟩
  | succ n ih =>
    intro h
    obtain ⟨f, hf, hp⟩ := ih (fun k hk => h k (by omega))
    obtain ⟨x, hx⟩ := h n (by omega)
    refine ⟨f ++ [x], by simp [hf], fun k hk => ?_⟩
    by_cases hq : k < f.length
    · rw [List.getElem_append_left hq]; exact hp k hq
    · simp at hk
      obtain rfl : k = f.length := by omega
      simp [hf ▸ hx]

/-- no node is as far away as there are nodes -/
theorem Far.lt {g : Gr} {a b d : Nat} (h : Far g a b d) : d < g.length := by
  obtain ⟨f, hf, hp⟩ := pick (fun k x => Far g a x k) (d + 1) (fun k hk => h.down k (by omega))
  have hn : f.Nodup := by
    refine List.pairwise_iff_getElem.2 fun i j hi hj hij e' => ?_
    have := (hp i hi).unique (e' ▸ hp j hj)
    omega
  have := pig g.length f hn (fun x hx => by
    obtain ⟨k, hk, rfl⟩ := List.mem_iff_getElem.1 hx
    exact (hp k hk).1.right)
  omega

/-- the distance as Go's number: -1 where there is no way -/
noncomputable def dist (g : Gr) (a b : Nat) : Int := open Classical in if h : ∃ d, Far g a b d then ((h.choose : Nat) : Int) else -1

theorem dist_far {g : Gr} {a b d : Nat} (h : Far g a b d) : dist g a b = (d : Int) := by
  unfold dist
  have hx : ∃ d, Far g a b d := ⟨d, h⟩
  rw [dif_pos hx]
  have := hx.choose_spec.unique h
  rw [this]

theorem dist_none {g : Gr} {a b : Nat} (h : ∀ d, ¬ Far g a b d) : dist g a b = -1 := by
  unfold dist
  rw [dif_neg (fun ⟨d, hd⟩ => h d hd)]

theorem far_dist {g : Gr} {a b : Nat} {d : Nat} (h : dist g a b = (d : Int)) : Far g a b d := by
  by_cases hx : ∃ d, Far g a b d
  · obtain ⟨e, he⟩ := hx
    rw [dist_far he] at h
    obtain rfl : e = d := by omega
    exact he
  · rw [dist_none (fun d hd => hx ⟨d, hd⟩)] at h; omega

theorem dist_neg {g : Gr} {a b : Nat} (h : dist g a b < 0) : ∀ d, ¬ Far g a b d := fun d hd => by rw [dist_far hd] at h; omega

theorem dist_lt (g : Gr) (a b : Nat) : dist g a b < g.length := by
  by_cases hx : ∃ d, Far g a b d
  · obtain ⟨e, he⟩ := hx
    rw [dist_far he]; have := he.lt; omega
  · rw [dist_none (fun d hd => hx ⟨d, hd⟩)]; omega
end Go.Proofs.Ythgfomjmkmkhkaa
