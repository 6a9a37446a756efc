/-
  Mathematics for the specification's Paths (which pairs of nodes have a way of at least one edge, by widening the set of nodes between) and for what can be reached. No world, no walk of a program.
-/
import Derived.Test.YthgfomjmkmkhkaaM2
namespace Go.Proofs.Ythgfomjmkmkhkaa
set_option linter.unusedVariables false

/-- a way of at least one edge -/
def Con (g : Gr) (a b : Nat) : Prop := ∃ n, Walk g a b (n + 1)

theorem Con.edge {g : Gr} {a b : Nat} (e : Edge g a b) : Con g a b := ⟨0, Walk.cons e (Walk.nil b e.2.1)⟩
theorem Con.trans {g : Gr} {a b c : Nat} (h : Con g a b) (k : Con g b c) : Con g a c := by
  obtain ⟨n, w⟩ := h; obtain ⟨m, v⟩ := k
  exact ⟨n + 1 + m, w.trans v⟩

/-- a way of at least one edge, with nodes below k between -/
inductive Thru (g : Gr) (k : Nat) : Nat → Nat → Prop
  | edge (a b : Nat) : Edge g a b → Thru g k a b
  | join (a b c : Nat) : Thru g k a b → b < k → Thru g k b c → Thru g k a c

theorem Thru.con {g : Gr} {k a b : Nat} (h : Thru g k a b) : Con g a b := by
  induction h with
  | edge a b e => exact Con.edge e
  | join a b c _ _ _ i1 i2 => exact i1.trans i2

theorem Thru.succ {g : Gr} {k a b : Nat} (h : Thru g (k + 1) a b) : Thru g k a b ∨ (Thru g k a k ∧ Thru g k k b) := by
  induction h with
  | edge a b e => exact Or.inl (Thru.edge _ _ e)
  | join a b c _ hb _ i1 i2 =>
    by_cases hk : b < k
    · rcases i1 with i1 | ⟨i1, j1⟩ <;> rcases i2 with i2 | ⟨i2, j2⟩
      · exact Or.inl (Thru.join _ _ _ i1 hk i2)
      · exact Or.inr ⟨Thru.join _ _ _ i1 hk i2, j2⟩
      · exact Or.inr ⟨i1, Thru.join _ _ _ j1 hk i2⟩
      · exact Or.inr ⟨i1, j2⟩
    · obtain rfl : b = k := by omega
      right
      constructor
      · rcases i1 with i1 | ⟨i1, _⟩ <;> exact i1
      · rcases i2 with i2 | ⟨_, i2⟩ <;> exact i2

theorem con_thru {g : Gr} {a b : Nat} (h : Con g a b) : Thru g g.length a b := by
  obtain ⟨n, w⟩ := h
  induction n generalizing b with
  | zero =>
    obtain ⟨c, w, e⟩ := w.last
    have := w.zero; subst this
    exact Thru.edge _ _ e
  | succ n ih =>
    obtain ⟨c, w, e⟩ := w.last
    exact Thru.join _ _ _ (ih w) e.1 (Thru.edge _ _ e)

theorem Thru.lt {g : Gr} {k a b : Nat} (h : Thru g k a b) : a < g.length ∧ b < g.length := by
  induction h with
  | edge a b e => exact ⟨e.1, e.2.1⟩
  | join a b c _ _ _ i1 i2 => exact ⟨i1.1, i2.2⟩

def upd2 (T : Nat → Nat → Bool) (a b : Nat) (v : Bool) : Nat → Nat → Bool := fun x y => if x = a ∧ y = b then v else T x y

/-- the table while k is let in between; the pairs P are done -/
structure War (g : Gr) (k : Nat) (T : Nat → Nat → Bool) (P : Nat → Nat → Prop) : Prop where
  snd : ∀ a b, T a b = true → a < g.length → b < g.length → Con g a b
  cmp : ∀ a b, Thru g k a b → T a b = true
  new : ∀ a b, P a b → Thru g (k + 1) a b → T a b = true

theorem war_start {g : Gr} {T : Nat → Nat → Bool} (h : ∀ a b, a < g.length → b < g.length → (T a b = true ↔ Edge g a b)) : War g 0 T (fun _ _ => False) where
  snd := fun a b ht ha hb => Con.edge ((h a b ha hb).1 ht)
  cmp := by
    intro a b ht
    have hl := ht.lt
    cases ht with
    | edge _ _ e => exact (h a b hl.1 hl.2).2 e
    | join _ c _ _ hc _ => omega
  new := by intro a b hp; exact hp.elim

theorem war_step {g : Gr} {k a b : Nat} {T : Nat → Nat → Bool} {P : Nat → Nat → Prop} (W : War g k T P) (hk : k < g.length) :
    War g k (upd2 T a b (T a b || (T a k && T k b))) (fun x y => P x y ∨ (x = a ∧ y = b)) where
  snd := by
    intro x y ht hx hy
    unfold upd2 at ht
    by_cases hc : x = a ∧ y = b
    · rw [if_pos hc] at ht
      obtain ⟨rfl, rfl⟩ := hc
      rcases Bool.or_eq_true_iff.1 ht with h | h
      · exact W.snd x y h hx hy
      · obtain ⟨h1, h2⟩ := Bool.and_eq_true_iff.1 h
        exact (W.snd x k h1 hx hk).trans (W.snd k y h2 hk hy)
    · rw [if_neg hc] at ht; exact W.snd x y ht hx hy
  cmp := by
    intro x y ht
    unfold upd2
    have := W.cmp x y ht
    by_cases hc : x = a ∧ y = b
    · rw [if_pos hc]; obtain ⟨rfl, rfl⟩ := hc; simp [this]
    · rw [if_neg hc]; exact this
  new := by
    intro x y hp ht
    unfold upd2
    by_cases hc : x = a ∧ y = b
    · rw [if_pos hc]; obtain ⟨rfl, rfl⟩ := hc
      rcases ht.succ with h | ⟨h1, h2⟩
      · simp [W.cmp _ _ h]
      · simp [W.cmp _ _ h1, W.cmp _ _ h2]
    · rw [if_neg hc]
      rcases hp with hp | hp
      · exact W.new x y hp ht
      · exact absurd hp hc

theorem war_next {g : Gr} {k : Nat} {T : Nat → Nat → Bool} {P : Nat → Nat → Prop} (W : War g k T P) (h : ∀ a b, a < g.length → b < g.length → P a b) : War g (k + 1) T (fun _ _ => False) where
  snd := W.snd
  cmp := fun a b ht => W.new a b (h a b ht.lt.1 ht.lt.2) ht
  new := by intro a b hp; exact hp.elim

theorem war_end {g : Gr} {T : Nat → Nat → Bool} {P : Nat → Nat → Prop} (W : War g g.length T P) {a b : Nat} (ha : a < g.length) (hb : b < g.length) : T a b = true ↔ Con g a b :=
  ⟨fun h => W.snd a b h ha hb, fun h => W.cmp a b (con_thru h)⟩

/-- what can be reached from some numbers -/
def Rch (g : Gr) (S : List Int) (b : Nat) : Prop := ∃ a : Nat, (a : Int) ∈ S ∧ ∃ n, Walk g a b n

theorem rch_iff {g : Gr} {S : List Int} {b : Nat} : Rch g S b ↔ ∃ a : Nat, (a : Int) ∈ S ∧ a < g.length ∧ (a = b ∨ Con g a b) := by
  constructor
  · rintro ⟨a, ha, n, w⟩
    refine ⟨a, ha, w.left, ?_⟩
    cases n with
    | zero => exact Or.inl w.zero
    | succ n => exact Or.inr ⟨n, w⟩
  · rintro ⟨a, ha, hl, rfl | ⟨n, w⟩⟩
    · exact ⟨a, ha, 0, Walk.nil a hl⟩
    · exact ⟨a, ha, n + 1, w⟩

/-- a set that holds the nodes of S, holds with each node its successors, and holds only what can be reached, is what can be reached -/
theorem rch_set {g : Gr} {S : List Int} (V : Nat → Prop) (h0 : ∀ a : Nat, (a : Int) ∈ S → a < g.length → V a) (h1 : ∀ a b, V a → Edge g a b → V b) (h2 : ∀ b, V b → Rch g S b) (b : Nat) : V b ↔ Rch g S b := by
  refine ⟨h2 b, ?_⟩
  rintro ⟨a, ha, n, w⟩
  induction n generalizing b with
  | zero => rw [← w.zero]; exact h0 a ha w.left
  | succ n ih =>
    obtain ⟨c, w, e⟩ := w.last
    exact h1 c b (ih c w) e

theorem Rch.step {g : Gr} {S : List Int} {a b : Nat} (h : Rch g S a) (e : Edge g a b) : Rch g S b := by
  obtain ⟨c, hc, n, w⟩ := h
  exact ⟨c, hc, n + 1, Walk.snoc _ _ _ _ w e⟩

/-- one component: each can be reached from the other -/
def Mut (g : Gr) (a b : Nat) : Prop := a = b ∨ (Con g a b ∧ Con g b a)

theorem Mut.refl (g : Gr) (a : Nat) : Mut g a a := Or.inl rfl
theorem Mut.symm {g : Gr} {a b : Nat} (h : Mut g a b) : Mut g b a := by
  rcases h with h | ⟨h, k⟩
  · exact Or.inl h.symm
  · exact Or.inr ⟨k, h⟩
theorem Mut.trans {g : Gr} {a b c : Nat} (h : Mut g a b) (k : Mut g b c) : Mut g a c := by
  rcases h with rfl | ⟨h, h'⟩
  · exact k
  · rcases k with rfl | ⟨k, k'⟩
    · exact Or.inr ⟨h, h'⟩
    · exact Or.inr ⟨h.trans k, k'.trans h'⟩

/-- the least node of a node's component -/
def LeastOf (g : Gr) (a m : Nat) : Prop := Mut g a m ∧ m ≤ a ∧ ∀ b, b < m → ¬ Mut g a b

theorem LeastOf.unique {g : Gr} {a m n : Nat} (h : LeastOf g a m) (k : LeastOf g a n) : m = n := by
  rcases Nat.lt_trichotomy m n with x | x | x
  · exact absurd h.1 (k.2.2 m x)
  · exact x
  · exact absurd k.1 (h.2.2 n x)

theorem LeastOf.mut {g : Gr} {a b m n : Nat} (h : LeastOf g a m) (k : LeastOf g b n) : m = n ↔ Mut g a b := by
  constructor
  · intro e; subst e; exact h.1.trans k.1.symm
  · intro e
    rcases Nat.lt_trichotomy m n with x | x | x
    · exact absurd (e.symm.trans h.1) (k.2.2 m x)
    · exact x
    · exact absurd (e.trans k.1) (h.2.2 n x)
end Go.Proofs.Ythgfomjmkmkhkaa
