/-
  PLAIN: lines, words, what Parse makes of them, and the module of a path. Lists of bytes only.
-/
import Derived.Test.YtmmghdicjpfdoaaGreatDoorM3
namespace Go.Proofs.YtmmghdicjpfdoaaGreatDoor
open Go
set_option linter.unusedSimpArgs false
set_option linter.unnecessarySimpa false
set_option linter.unusedVariables false
/-- the last piece left out, if it is empty -/
def dropE (L : List (List UInt8)) : List (List UInt8) := if L.getLast? = some [] then L.dropLast else L
def linesL (s : List UInt8) : List (List UInt8) := dropE (splitL 10 s)
theorem dropE_cons (a : List UInt8) (L : List (List UInt8)) (h : L ≠ []) : dropE (a :: L) = a :: dropE L := by
  obtain ⟨b, t, rfl⟩ := List.exists_cons_of_ne_nil h
  unfold dropE
  rw [List.getLast?_cons_cons, List.dropLast_cons_cons]
  split <;> rfl
theorem linesL_nil : linesL [] = [] := rfl
theorem linesL_cut (s : List UInt8) (h : s ≠ []) : linesL s = (Lib.cut s [10]).1 :: linesL (Lib.cut s [10]).2.1 ∧ (Lib.cut s [10]).2.1.length < s.length := by
  by_cases hm : (10 : UInt8) ∈ s
  · obtain ⟨a, r, rfl, ha⟩ := List.eq_append_cons_of_mem hm
    rw [cut_hit1 10 a r ha]
    refine ⟨?_, by simp; omega⟩
    unfold linesL
    rw [splitL_hit 10 a r ha, dropE_cons _ _ (splitL_ne 10 r)]
  · rw [cut_miss1 10 s hm]
    refine ⟨?_, ?_⟩
    · unfold linesL
      rw [splitL_self 10 s hm]
      unfold dropE
      simp [h]
      rfl
    · cases s with
      | nil => exact absurd rfl h
      | cons a t => simp
/-- a line without its comment -/
def bareL (l : List UInt8) : List UInt8 := (Lib.cut l [47, 47]).1
def wordsC (l : List UInt8) : List (List UInt8) := wordsL (bareL l)
def bA (l : List UInt8) : ByteArray := ⟨l.toArray⟩
/-- the module of a line that begins with a word; V reads versions -/
def readL (V : List UInt8 → Option (Int × Int × Int)) (kw : List UInt8) : List (List UInt8) → Option Md
  | [k, p, v] => if k = kw ∧ pathB p = true then (V v).map fun x => (bA p, x) else none
  | _ => none
def kwM : List UInt8 := [109, 111, 100, 117, 108, 101]
def kwR : List UInt8 := [114, 101, 113, 117, 105, 114, 101]
/-- the modules of lines from number n on, behind those that were read; or the number of the first line at fault -/
def scanL (V : List UInt8 → Option (Int × Int × Int)) : List (List UInt8) → Nat → List Md → Nat ⊕ List Md
  | [], _, all => .inr all
  | x :: t, n, all =>
    if wordsC x = [] then scanL V t (n + 1) all
    else match readL V (if all = [] then kwM else kwR) (wordsC x) with
      | none => .inl n
      | some m => scanL V t (n + 1) (all ++ [m])
/-- what Parse returns: a manifest or a fault -/
def parseL (V : List UInt8 → Option (Int × Int × Int)) (s : List UInt8) : (Int × Int) ⊕ (Md × List Md) :=
  if 65536 < s.length then .inl (2, 0)
  else match scanL V (linesL s) 1 [] with
    | .inl n => .inl (8, n)
    | .inr [] => .inl (8, (linesL s).length + 1)
    | .inr (m :: r) => if chkM m (sortM r) ≠ 0 then .inl (chkM m (sortM r), 0) else .inr (m, sortM r)
theorem chkM_turn {m : Md} {r r' : List Md} (h : r.Perm r') : chkM m r = chkM m r' := by
  unfold chkM
  have h1 : (m :: r).Perm (m :: r') := h.cons m
  rw [twiceB_perm h1, h.length_eq]
  have ha : ∀ p : Md → Bool, (m :: r).any p = (m :: r').any p := fun p => by
    rw [Bool.eq_iff_iff, List.any_eq_true, List.any_eq_true]
    constructor
    · rintro ⟨x, hx, e⟩; exact ⟨x, h1.mem_iff.1 hx, e⟩
    · rintro ⟨x, hx, e⟩; exact ⟨x, h1.mem_iff.2 hx, e⟩
  rw [ha, ha]
/-- what is behind a module's path in a path -/
def belowL (path p : List UInt8) : Option (List UInt8) :=
  if path = p then some [] else if (p ++ [47]).isPrefixOf path then some (path.drop (p.length + 1)) else none
/-- the index of the module with the longest path that leads to a path, and the rest -/
def ownL (path : List UInt8) : List (List UInt8) → Nat → Option (Nat × Nat × List UInt8) → Option (Nat × Nat × List UInt8)
  | [], _, b => b
  | p :: t, i, b =>
    match belowL path p with
    | none => ownL path t (i + 1) b
    | some r => if (match b with | none => true | some (_, n, _) => decide (n < p.length)) then ownL path t (i + 1) (some (i, p.length, r)) else ownL path t (i + 1) b
end Go.Proofs.YtmmghdicjpfdoaaGreatDoor
