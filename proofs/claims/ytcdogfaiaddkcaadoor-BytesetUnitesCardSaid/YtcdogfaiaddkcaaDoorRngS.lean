/-
  PLAIN: the maximal ranges of a set of bytes, as the specification finds them: each with its end.
-/
import Derived.Test.YtcdogfaiaddkcaaDoorRngM
namespace Go.Proofs.YtcdogfaiaddkcaaDoor
open Go
set_option linter.unusedSimpArgs false
set_option linter.unusedVariables false

/-- the end of the run that holds x, within f steps -/
def enF (s : BS) : Nat → Nat → Nat
  | 0, x => x
  | f + 1, x => if s.getLsbD (x + 1) then enF s f (x + 1) else x
def en (s : BS) (x : Nat) : Nat := enF s (256 - x) x
theorem bit_lt {s : BS} {x : Nat} (h : s.getLsbD x = true) : x < 256 := BitVec.lt_of_getLsbD h
theorem en_step {s : BS} {x : Nat} (h : s.getLsbD (x + 1) = true) : en s x = en s (x + 1) := by
  have := bit_lt h
  unfold en
  rw [show 256 - x = (256 - (x + 1)) + 1 by omega]
  simp only [enF, h, if_true]
theorem en_stop {s : BS} {x : Nat} (h : s.getLsbD (x + 1) = false) : en s x = x := by
  unfold en
  cases 256 - x with
  | zero => rfl
  | succ f => simp only [enF, h, Bool.false_eq_true, if_false]
/-- the ranges that begin before k, the last one first -/
def rs (s : BS) : Nat → List (Nat × Nat)
  | 0 => []
  | k + 1 => if s.getLsbD k then (if inb s k then rs s k else (k, en s k) :: rs s k) else rs s k
/-- the last range, carried to its end -/
def cl (s : BS) : List (Nat × Nat) → List (Nat × Nat)
  | [] => []
  | p :: t => (p.1, en s p.2) :: t
theorem rr_head (s : BS) (k : Nat) : ∀ p t, rr s k = p :: t → p.2 < k ∧ (inb s k = true → p.2 + 1 = k) ∧ (inb s k = false → s.getLsbD (p.2 + 1) = false) := by
  induction k with
  | zero => intro p t h; simp [rr] at h
  | succ k ih =>
    intro p t h
    cases hk : s.getLsbD k with
    | false =>
      simp only [rr, hk, Bool.false_eq_true, if_false] at h
      obtain ⟨h1, h2, h3⟩ := ih p t h
      have hi : inb s (k + 1) = false := by simp [inb, hk]
      refine ⟨by omega, fun h => absurd (hi.symm.trans h) (by simp), fun _ => ?_⟩
      cases hib : inb s k with
      | true => rw [h2 hib]; exact hk
      | false => exact h3 hib
    | true =>
      have hi : inb s (k + 1) = true := by simp [inb, hk]
      have hp : p.2 = k := by
        simp only [rr, hk, if_true] at h
        cases hib : inb s k with
        | true =>
          obtain ⟨q, u, e⟩ := rr_ne hib
          simp only [hib, if_true, e, upd, List.cons.injEq] at h
          rw [← h.1]
        | false =>
          simp only [hib, Bool.false_eq_true, if_false, List.cons.injEq] at h
          rw [← h.1]
      exact ⟨by omega, fun _ => by omega, fun h => absurd (hi.symm.trans h) (by simp)⟩
theorem rs_cl (s : BS) (k : Nat) : rs s k = cl s (rr s k) := by
  induction k with
  | zero => rfl
  | succ k ih =>
    cases hk : s.getLsbD k with
    | false => simp only [rs, rr, hk, Bool.false_eq_true, if_false]; exact ih
    | true =>
      cases hib : inb s k with
      | true =>
        obtain ⟨q, u, e⟩ := rr_ne hib
        obtain ⟨_, h2, _⟩ := rr_head s k q u e
        have h2 := h2 hib
        simp only [rs, rr, hk, hib, if_true, ih, e, upd, cl]
        rw [en_step (s := s) (x := q.2) (by rw [h2]; exact hk), h2]
      | false =>
        simp only [rs, rr, hk, hib, if_true, Bool.false_eq_true, if_false, cl, ih]
        congr 1
        cases e : rr s k with
        | nil => rfl
        | cons q u =>
          obtain ⟨_, _, h3⟩ := rr_head s k q u e
          simp only [cl]
          rw [en_stop (h3 hib)]
theorem rs_rr (s : BS) : rs s 256 = rr s 256 := by
  rw [rs_cl]
  cases e : rr s 256 with
  | nil => rfl
  | cons q u =>
    obtain ⟨h1, h2, h3⟩ := rr_head s 256 q u e
    simp only [cl]
    rw [en_stop ?_]
    cases h : inb s 256 with
    | true => rw [h2 h]; rw [BitVec.getLsbD_of_ge _ _ (by omega)]
    | false => exact h3 h
theorem en_lt {s : BS} {x : Nat} (h : x < 256) : en s x < 256 := by
  unfold en
  have : ∀ f y, y < 256 → enF s f y < 256 := by
    intro f
    induction f with
    | zero => intro y hy; exact hy
    | succ f ih =>
      intro y hy
      simp only [enF]
      split
      · rename_i hb; exact ih _ (bit_lt hb)
      · exact hy
  exact this _ _ h
theorem rs_len (s : BS) (k : Nat) : (rs s k).length ≤ k := by
  rw [rs_cl]
  have := rr_len s k
  cases e : rr s k with
  | nil => simp [cl]
  | cons q u => rw [e] at this; simpa [cl] using this
def pvI (p : Nat × Nat) : List Value := [.int .i64 (p.1 : Int), .int .i64 (p.2 : Int)]
def flatI (l : List (Nat × Nat)) : List Value := l.reverse.flatMap pvI
theorem flatI_cons (p : Nat × Nat) (t : List (Nat × Nat)) : flatI (p :: t) = flatI t ++ pvI p := by
  unfold flatI; simp
theorem flatI_length (l : List (Nat × Nat)) : (flatI l).length = l.length * 2 := by
  unfold flatI
  induction l with
  | nil => rfl
  | cons p t ih => simp [pvI] at ih ⊢; omega
end Go.Proofs.YtcdogfaiaddkcaaDoor
