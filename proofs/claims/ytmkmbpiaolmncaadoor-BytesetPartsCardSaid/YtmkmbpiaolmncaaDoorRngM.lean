/-
  PLAIN: the maximal ranges of a set of bytes.
-/
import Derived.Test.YtmkmbpiaolmncaaDoorMath
namespace Go.Proofs.YtmkmbpiaolmncaaDoor
open Go

/-- is the byte before k in the set? -/
def inb (s : BS) (k : Nat) : Bool := decide (0 < k) && s.getLsbD (k - 1)
/-- the last range now ends at k -/
def upd (k : Nat) : List (Nat × Nat) → List (Nat × Nat)
  | [] => []
  | p :: t => (p.1, k) :: t
/-- the ranges of the bytes that are less than k, the last one first -/
def rr (s : BS) : Nat → List (Nat × Nat)
  | 0 => []
  | k + 1 => if s.getLsbD k then (if inb s k then upd k (rr s k) else (k, k) :: rr s k) else rr s k

def pv (p : Nat × Nat) : List Value := [.int .u8 (p.1 : Int), .int .u8 (p.2 : Int)]
def flat (l : List (Nat × Nat)) : List Value := l.reverse.flatMap pv

theorem rr_ne {s : BS} {k : Nat} (h : inb s k = true) : ∃ p t, rr s k = p :: t := by
  cases k with
  | zero => simp [inb] at h
  | succ k =>
    simp [inb] at h
    have h' : s.getLsbD k = true := by simpa using h
    simp only [rr, h', if_true]
    split
    · rename_i hi
      obtain ⟨p, t, e⟩ := rr_ne hi
      rw [e]; exact ⟨_, _, rfl⟩
    · exact ⟨_, _, rfl⟩

theorem flat_length (l : List (Nat × Nat)) : (flat l).length = l.length * 2 := by
  unfold flat
  induction l with
  | nil => rfl
  | cons p t ih => simp [pv] at ih ⊢; omega

theorem flat_cons (p : Nat × Nat) (t : List (Nat × Nat)) : flat (p :: t) = flat t ++ pv p := by
  unfold flat; simp

theorem flat_upd (p : Nat × Nat) (t : List (Nat × Nat)) (k : Nat) : (flat (p :: t)).set (t.length * 2 + 1) (.int .u8 (k : Int)) = flat (upd k (p :: t)) := by
  rw [flat_cons, upd, flat_cons, List.set_append_right _ _ (by rw [flat_length]; omega), flat_length]
  congr 1
  rw [show t.length * 2 + 1 - t.length * 2 = 1 by omega]
  rfl

theorem rr_len (s : BS) (k : Nat) : (rr s k).length ≤ k := by
  induction k with
  | zero => simp [rr]
  | succ k ih =>
    simp only [rr]
    split
    · split
      · rename_i h; obtain ⟨p, t, e⟩ := rr_ne h; rw [e] at ih ⊢; simp [upd] at ih ⊢; omega
      · simp; omega
    · omega

end Go.Proofs.YtmkmbpiaolmncaaDoor
