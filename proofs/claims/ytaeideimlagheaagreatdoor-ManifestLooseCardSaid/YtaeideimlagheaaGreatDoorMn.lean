/-
  PLAIN: where a line's comment begins. Lists of bytes only.
-/
import Derived.Test.YtaeideimlagheaaGreatDoorM
namespace Go.Proofs.YtaeideimlagheaaGreatDoor
open Go
set_option linter.unusedSimpArgs false
set_option linter.unnecessarySimpa false
set_option linter.unusedVariables false
/-- no two slashes one behind the other -/
def ns : List UInt8 → Bool
  | [] => true
  | a :: t => !(a == 47 && t.head? == some 47) && ns t
theorem ns_cons {a : UInt8} {t : List UInt8} : ns (a :: t) = (!(a == 47 && t.head? == some 47) && ns t) := rfl
theorem ns_front : ∀ {a b : List UInt8}, (47 : UInt8) ∉ a → ns (a ++ b) = ns b
  | [], b, _ => rfl
  | x :: t, b, h => by
    have hx : (x == 47) = false := beq_eq_false_iff_ne.2 (fun e => h (by simp [e]))
    rw [List.cons_append, ns_cons, hx, ns_front (fun m => h (by simp [m]))]; simp
theorem ns_none {a : List UInt8} (h : (47 : UInt8) ∉ a) : ns a = true := by
  have := ns_front (b := []) h
  rw [List.append_nil] at this; rw [this]; rfl
theorem ns_back : ∀ {a c : List UInt8}, c.head? ≠ some 47 → ns c = true → ns a = true → ns (a ++ c) = true
  | [], c, _, hc, _ => hc
  | x :: t, c, h, hc, ha => by
    rw [ns_cons, Bool.and_eq_true] at ha
    rw [List.cons_append, ns_cons, ns_back h hc ha.2, Bool.and_true]
    cases t with
    | nil =>
      simp only [List.nil_append]
      cases hx : (c.head? == some 47) with
      | true => exact absurd (by simpa using hx) h
      | false => simp
    | cons y u => exact ha.1
theorem index_ns : ∀ {l : List UInt8} (r : List UInt8), ns (l ++ [47]) = true → Lib.index (l ++ 47 :: 47 :: r) [47, 47] = (l.length : Int)
  | [], r, _ => by unfold Lib.index; simp [List.isPrefixOf]
  | x :: t, r, h => by
    rw [List.cons_append, ns_cons, Bool.and_eq_true] at h
    have ih := index_ns r h.2
    simp only [List.cons_append]
    unfold Lib.index
    rw [ih]
    have hp : ([47, 47] : List UInt8).isPrefixOf (x :: (t ++ 47 :: 47 :: r)) = false := by
      have h1 := h.1
      cases t with
      | nil =>
        simp only [List.nil_append, List.head?_cons, beq_self_eq_true, Bool.and_true, Bool.not_eq_true', beq_eq_false_iff_ne] at h1
        simp [List.isPrefixOf, Ne.symm h1]
      | cons y u =>
        simp only [List.cons_append, List.head?_cons, Bool.not_eq_true', Bool.and_eq_false_iff, beq_eq_false_iff_ne] at h1
        simp only [List.cons_append, List.isPrefixOf, Bool.and_eq_false_iff, beq_eq_false_iff_ne]
        rcases h1 with h1 | h1
        · exact .inl (Ne.symm h1)
        · exact .inr (.inl fun e => h1 (by rw [← e]))
    rw [hp]
    have hn : ((t.length : Int) == -1) = false := by rw [beq_eq_false_iff_ne]; omega
    simp [hn]
theorem index_ns_none : ∀ {l : List UInt8}, ns l = true → Lib.index l [47, 47] = -1
  | [], _ => by unfold Lib.index; rfl
  | x :: t, h => by
    rw [ns_cons, Bool.and_eq_true] at h
    have ih := index_ns_none h.2
    unfold Lib.index
    rw [ih]
    have hp : ([47, 47] : List UInt8).isPrefixOf (x :: t) = false := by
      have h1 := h.1
      cases t with
      | nil => simp [List.isPrefixOf]
      | cons y u =>
        simp only [List.head?_cons, Bool.not_eq_true', Bool.and_eq_false_iff, beq_eq_false_iff_ne] at h1
        simp only [List.isPrefixOf, Bool.and_eq_false_iff, beq_eq_false_iff_ne]
        rcases h1 with h1 | h1
        · exact .inl (Ne.symm h1)
        · exact .inr (.inl fun e => h1 (by rw [← e]))
    rw [hp]; rfl
theorem bare_note {l r : List UInt8} (h : ns (l ++ [47]) = true) : bareL (l ++ 47 :: 47 :: r) = l := by
  unfold bareL Lib.cut
  rw [index_ns r h, if_pos (by omega)]
  simp
theorem bare_none {l : List UInt8} (h : ns l = true) : bareL l = l := by
  unfold bareL Lib.cut
  rw [index_ns_none h, if_neg (by omega)]
theorem ns_iff : ∀ l : List UInt8, ns l = true ↔ ∀ j : Nat, ¬ (l[j]? = some 47 ∧ l[j + 1]? = some 47)
  | [] => by simp [ns]
  | a :: t => by
    rw [ns_cons, Bool.and_eq_true, ns_iff t]
    constructor
    · rintro ⟨h0, h⟩ j
      cases j with
      | zero =>
        intro ⟨e1, e2⟩
        simp only [List.getElem?_cons_zero, Option.some.injEq] at e1
        have e3 : t.head? = some 47 := by rw [List.head?_eq_getElem?]; simpa using e2
        rw [e1, e3] at h0; simp at h0
      | succ j =>
        simp only [List.getElem?_cons_succ]
        exact h j
    · intro h
      refine ⟨?_, fun j => by have := h (j + 1); simpa only [List.getElem?_cons_succ] using this⟩
      have h0 := h 0
      simp only [List.getElem?_cons_zero, Option.some.injEq, Nat.zero_add, List.getElem?_cons_succ] at h0
      cases hx : (a == 47) with
      | false => rfl
      | true =>
        cases hy : (t.head? == some 47) with
        | false => rfl
        | true =>
          rw [List.head?_eq_getElem?] at hy
          exact absurd ⟨by simpa using hx, by simpa using hy⟩ h0
theorem bare_full {l : List UInt8} (h : ∀ j : Nat, ¬ (l[j]? = some 47 ∧ l[j + 1]? = some 47)) : bareL l = l := bare_none ((ns_iff l).2 h)
theorem bare_cut {l : List UInt8} {k : Nat} (h1 : l[k]? = some 47) (h2 : l[k + 1]? = some 47) (h : ∀ j : Nat, j < k → ¬ (l[j]? = some 47 ∧ l[j + 1]? = some 47)) : bareL l = l.take k := by
  obtain ⟨k1, e1⟩ := List.getElem?_eq_some_iff.1 h1
  obtain ⟨k2, e2⟩ := List.getElem?_eq_some_iff.1 h2
  have hs : l = l.take k ++ 47 :: 47 :: l.drop (k + 2) := by
    conv => lhs; rw [← List.take_append_drop k l]
    rw [List.drop_eq_getElem_cons k1, List.drop_eq_getElem_cons k2, e1, e2]
  have hn : ns (l.take k ++ [47]) = true := by
    rw [ns_iff]
    have ht : l.take k ++ [47] = l.take (k + 1) := by rw [← List.take_append_getElem k1, e1]
    rw [ht]
    rintro j ⟨a1, a2⟩
    rw [List.getElem?_take] at a1 a2
    split at a2
    · rename_i hj
      rw [if_pos (by omega)] at a1
      exact h j (by omega) ⟨a1, a2⟩
    · cases a2
  have := bare_note (r := l.drop (k + 2)) hn
  rw [← hs] at this
  exact this
end Go.Proofs.YtaeideimlagheaaGreatDoor
