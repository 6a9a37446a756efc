/-
  PLAIN: the number of elements of a set of bytes, its list of elements, and what its ranges make together.
-/
import Derived.Test.YtcdogfaiaddkcaaDoorPop
import Derived.Test.YtcdogfaiaddkcaaDoorRngS
namespace Go.Proofs.YtcdogfaiaddkcaaDoor
open Go
set_option linter.unusedSimpArgs false
set_option linter.unusedVariables false

/-- the elements that are less than k, ascending -/
def els (s : BS) : Nat → List Nat
  | 0 => []
  | k + 1 => if s.getLsbD k then els s k ++ [k] else els s k
theorem els_len_le (s : BS) (k : Nat) : (els s k).length ≤ k := by
  induction k with
  | zero => simp [els]
  | succ k ih => simp only [els]; split <;> (try simp) <;> omega
theorem els_bound (s : BS) (k : Nat) : ∀ x ∈ els s k, x < k := by
  induction k with
  | zero => intro x h; simp [els] at h
  | succ k ih =>
    intro x h
    simp only [els] at h
    split at h
    · simp at h; rcases h with h | h
      · have := ih x h; omega
      · omega
    · have := ih x h; omega
theorem ones_snoc (n x : Nat) : ones (n + 1) x = ones n x + (if x.testBit n then 1 else 0) := by
  rw [ones_split n 1 x]
  simp only [ones, Nat.testBit_eq_decide_div_mod_eq]
  rcases Nat.mod_two_eq_zero_or_one (x / 2 ^ n) with h | h <;> simp [h]
theorem wdt (i j : Nat) (s : BS) (hj : j < 64) : (wd i s).toNat.testBit j = s.getLsbD (64 * i + j) := by
  unfold wd
  rw [Int.toNat_natCast, ← BitVec.getLsbD]
  simp [hj]
theorem els_len (s : BS) (i j : Nat) (hj : j ≤ 64) : (els s (64 * i + j)).length = (els s (64 * i)).length + ones j (wd i s).toNat := by
  induction j with
  | zero => simp [ones]
  | succ j ih =>
    rw [ones_snoc, wdt i j s (by omega), ← Nat.add_assoc]
    simp only [els]
    have := ih (by omega)
    split <;> simp <;> omega
theorem els_256 (s : BS) : (els s 256).length = ones 64 (wd 0 s).toNat + ones 64 (wd 1 s).toNat + ones 64 (wd 2 s).toNat + ones 64 (wd 3 s).toNat := by
  have h0 : (els s 64).length = (els s 0).length + ones 64 (wd 0 s).toNat := els_len s 0 64 (by omega)
  have h1 : (els s 128).length = (els s 64).length + ones 64 (wd 1 s).toNat := els_len s 1 64 (by omega)
  have h2 : (els s 192).length = (els s 128).length + ones 64 (wd 2 s).toNat := els_len s 2 64 (by omega)
  have h3 : (els s 256).length = (els s 192).length + ones 64 (wd 3 s).toNat := els_len s 3 64 (by omega)
  have z : (els s 0).length = 0 := rfl
  omega
theorem els_none (s : BS) (k : Nat) (h : ∀ j, j < k → s.getLsbD j = false) : els s k = [] := by
  induction k with
  | zero => rfl
  | succ k ih => simp only [els, h k (by omega), Bool.false_eq_true, if_false]; exact ih fun j hj => h j (by omega)
theorem els_head (s : BS) (b : Nat) (h1 : s.getLsbD b = true) (h2 : ∀ j, j < b → s.getLsbD j = false) (k : Nat) : ∃ t, els s (b + 1 + k) = b :: t := by
  induction k with
  | zero => refine ⟨[], ?_⟩; simp only [Nat.add_zero, els, h1, if_true]; rw [els_none s b h2]; rfl
  | succ k ih =>
    obtain ⟨t, e⟩ := ih
    rw [show b + 1 + (k + 1) = (b + 1 + k) + 1 by omega]
    simp only [els]
    split
    · exact ⟨t ++ [b + 1 + k], by rw [e]; rfl⟩
    · exact ⟨t, e⟩

/-- what the ranges make together -/
def un (l : List (Nat × Nat)) : BS := l.foldr (fun p x => x ||| rgo p.1 p.2) 0#256
def sm (l : List (Nat × Nat)) : Nat := l.foldr (fun p x => x + (p.2 + 1 - p.1)) 0
theorem mem_un_cons (p : Nat × Nat) (t : List (Nat × Nat)) : un (p :: t) = un t ||| rgo p.1 p.2 := rfl
theorem rr_le (s : BS) (k : Nat) : ∀ p ∈ rr s k, p.1 ≤ p.2 ∧ p.2 < k ∧ (inb s k = false → p.2 + 1 < k) := by
  induction k with
  | zero => intro p h; simp [rr] at h
  | succ k ih =>
    intro p h
    simp only [rr] at h
    cases hk : s.getLsbD k with
    | true =>
      have hi : inb s (k + 1) = true := by simp [inb, hk]
      simp only [hk, if_true] at h
      cases hib : inb s k with
      | true =>
        obtain ⟨q, u, e⟩ := rr_ne hib
        simp only [hib, if_true, e, upd, List.mem_cons] at h
        rw [e] at ih
        rcases h with rfl | h
        · have := ih q (by simp)
          refine ⟨by simp only; omega, by simp only; omega, fun hh => absurd (hi.symm.trans hh) (by simp)⟩
        · have := ih p (by simp [h])
          exact ⟨this.1, by omega, fun hh => absurd (hi.symm.trans hh) (by simp)⟩
      | false =>
        simp only [hib, Bool.false_eq_true, if_false, List.mem_cons] at h
        rcases h with rfl | h
        · exact ⟨Nat.le_refl _, by simp only; omega, fun hh => absurd (hi.symm.trans hh) (by simp)⟩
        · have := ih p h
          exact ⟨this.1, by omega, fun hh => absurd (hi.symm.trans hh) (by simp)⟩
    | false =>
      simp only [hk, Bool.false_eq_true, if_false] at h
      have := ih p h
      exact ⟨this.1, by omega, fun _ => by omega⟩
theorem rr_gap (s : BS) (k : Nat) : (rr s k).Pairwise fun p q => q.2 + 2 ≤ p.1 := by
  induction k with
  | zero => exact List.Pairwise.nil
  | succ k ih =>
    simp only [rr]
    cases hk : s.getLsbD k with
    | false => simpa using ih
    | true =>
      simp only [if_true]
      cases hib : inb s k with
      | true =>
        obtain ⟨q, u, e⟩ := rr_ne hib
        rw [e] at ih ⊢
        simp only [if_true, upd]
        rw [List.pairwise_cons] at ih ⊢
        exact ih
      | false =>
        simp only [Bool.false_eq_true, if_false]
        rw [List.pairwise_cons]
        refine ⟨fun q hq => ?_, ih⟩
        have := (rr_le s k q hq).2.2 hib
        simp only; omega
theorem rr_un (s : BS) (k : Nat) : ∀ j, j < 256 → (un (rr s k)).getLsbD j = (decide (j < k) && s.getLsbD j) := by
  induction k with
  | zero => intro j hj; simp [rr, un]
  | succ k ih =>
    intro j hj
    simp only [rr]
    cases hk : s.getLsbD k with
    | false =>
      simp only [Bool.false_eq_true, if_false]
      rw [ih j hj]
      by_cases e : j = k
      · subst e; simp [hk]
      · have : decide (j < k + 1) = decide (j < k) := by simp only [decide_eq_decide]; omega
        rw [this]
    | true =>
      simp only [if_true]
      cases hib : inb s k with
      | true =>
        obtain ⟨q, u, e⟩ := rr_ne hib
        obtain ⟨_, h2, _⟩ := rr_head s k q u e
        have h2 := h2 hib
        have hq := (rr_le s k q (by rw [e]; simp)).1
        have i := ih j hj
        rw [e, mem_un_cons, BitVec.getLsbD_or, mem_rgo _ _ _ hj] at i
        simp only [if_true, e, upd]
        rw [mem_un_cons, BitVec.getLsbD_or, mem_rgo _ _ _ hj]
        simp only
        by_cases ej : j = k
        · subst ej; simp [hk]; right; omega
        · have a1 : decide (j ≤ k) = decide (j ≤ q.2) := by simp only [decide_eq_decide]; omega
          have a2 : decide (j < k + 1) = decide (j < k) := by simp only [decide_eq_decide]; omega
          rw [a1, a2]; exact i
      | false =>
        simp only [Bool.false_eq_true, if_false]
        rw [mem_un_cons, BitVec.getLsbD_or, mem_rgo _ _ _ hj, ih j hj]
        simp only
        by_cases ej : j = k
        · subst ej; simp [hk]
        · have a1 : (decide (k ≤ j) && decide (j ≤ k)) = false := by rw [Bool.and_eq_false_iff]; simp only [decide_eq_false_iff_not]; omega
          have a2 : decide (j < k + 1) = decide (j < k) := by simp only [decide_eq_decide]; omega
          rw [a1, a2, Bool.or_false]
theorem un_rr (s : BS) : un (rr s 256) = s := by
  apply BitVec.eq_of_getLsbD_eq
  intro j hj
  rw [rr_un s 256 j hj]; simp [hj]
theorem rr_sm (s : BS) (k : Nat) : sm (rr s k) = (els s k).length := by
  induction k with
  | zero => rfl
  | succ k ih =>
    simp only [rr, els]
    cases hk : s.getLsbD k with
    | false => simpa using ih
    | true =>
      simp only [if_true]
      cases hib : inb s k with
      | true =>
        obtain ⟨q, u, e⟩ := rr_ne hib
        obtain ⟨_, h2, _⟩ := rr_head s k q u e
        have h2 := h2 hib
        have hq := (rr_le s k q (by rw [e]; simp)).1
        rw [e] at ih
        simp only [if_true, e, upd, List.length_append, List.length_cons, List.length_nil]
        simp only [sm, List.foldr_cons] at ih ⊢
        omega
      | false =>
        simp only [Bool.false_eq_true, if_false, List.length_append, List.length_cons, List.length_nil]
        simp only [sm, List.foldr_cons] at ih ⊢
        omega
/-- the first k ranges, ascending -/
def unT (s : BS) (k : Nat) : BS := ((rr s 256).reverse.take k).foldl (fun x p => x ||| rgo p.1 p.2) 0#256
def smT (s : BS) (k : Nat) : Nat := ((rr s 256).reverse.take k).foldl (fun x p => x + (p.2 + 1 - p.1)) 0
theorem unT_zero (s : BS) : unT s 0 = 0#256 := rfl
theorem smT_zero (s : BS) : smT s 0 = 0 := rfl
theorem take_snocL {α : Type} (l : List α) (k : Nat) (p : α) (h : l[k]? = some p) : l.take (k + 1) = l.take k ++ [p] := by
  rw [List.take_add_one, h]; rfl
theorem unT_succ {s : BS} {k : Nat} {p : Nat × Nat} (h : (rr s 256).reverse[k]? = some p) : unT s (k + 1) = unT s k ||| rgo p.1 p.2 := by
  unfold unT; rw [take_snocL _ _ _ h, List.foldl_append]; rfl
theorem smT_succ {s : BS} {k : Nat} {p : Nat × Nat} (h : (rr s 256).reverse[k]? = some p) : smT s (k + 1) = smT s k + (p.2 + 1 - p.1) := by
  unfold smT; rw [take_snocL _ _ _ h, List.foldl_append]; rfl
theorem unT_all (s : BS) : unT s (rr s 256).length = s := by
  unfold unT
  rw [List.take_of_length_le (by simp), List.foldl_reverse]
  exact un_rr s
theorem smT_all (s : BS) : smT s (rr s 256).length = (els s 256).length := by
  unfold smT
  rw [List.take_of_length_le (by simp), List.foldl_reverse]
  exact rr_sm s 256
theorem smT_le (s : BS) (k : Nat) : smT s k ≤ 256 := by
  have h1 := smT_all s
  have h2 := els_len_le s 256
  have mono : ∀ j, smT s k ≤ smT s (k + j) := by
    intro j
    induction j with
    | zero => exact Nat.le_refl _
    | succ j ih =>
      cases h : (rr s 256).reverse[k + j]? with
      | none =>
        have : smT s (k + (j + 1)) = smT s (k + j) := by
          unfold smT
          have hl : (rr s 256).reverse.length ≤ k + j := List.getElem?_eq_none_iff.1 h
          rw [List.take_of_length_le (by omega), List.take_of_length_le (by omega)]
        omega
      | some p => rw [show k + (j + 1) = (k + j) + 1 by omega, smT_succ h]; omega
  rcases Nat.le_total k (rr s 256).length with hk | hk
  · have := mono ((rr s 256).length - k)
    rw [show k + ((rr s 256).length - k) = (rr s 256).length by omega] at this
    omega
  · have : smT s k = smT s (rr s 256).length := by
      unfold smT
      rw [List.take_of_length_le (by simp; omega), List.take_of_length_le (by simp)]
    omega
theorem rrL_gap {s : BS} {k : Nat} {p q : Nat × Nat} (h1 : (rr s 256).reverse[k]? = some p) (h2 : (rr s 256).reverse[k + 1]? = some q) : p.2 + 2 ≤ q.1 := by
  have h := (List.pairwise_reverse.2 (rr_gap s 256))
  rw [List.pairwise_iff_getElem] at h
  obtain ⟨l1, e1⟩ := List.getElem?_eq_some_iff.1 h1
  obtain ⟨l2, e2⟩ := List.getElem?_eq_some_iff.1 h2
  have := h k (k + 1) l1 l2 (by omega)
  rw [e1, e2] at this
  exact this
theorem rrL_le {s : BS} {k : Nat} {p : Nat × Nat} (h1 : (rr s 256).reverse[k]? = some p) : p.1 ≤ p.2 ∧ p.2 < 256 := by
  have := rr_le s 256 p (by have := List.mem_of_getElem? h1; simpa using this)
  exact ⟨this.1, this.2.1⟩
end Go.Proofs.YtcdogfaiaddkcaaDoor
