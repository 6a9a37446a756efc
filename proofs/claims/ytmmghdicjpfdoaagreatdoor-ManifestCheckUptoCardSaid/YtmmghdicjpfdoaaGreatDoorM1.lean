/-
  PLAIN: pieces between bytes, the parts of module paths, words and lines. Lists of bytes only.
-/
import Derived.Lib.SplitLaws
import Derived.Lib.IndexMore
namespace Go.Proofs.YtmmghdicjpfdoaaGreatDoor
open Go
set_option linter.unusedSimpArgs false
set_option linter.unnecessarySimpa false
set_option linter.unusedVariables false
/-- a piece ahead of a list of pieces -/
def glue (p : List UInt8) : List (List UInt8) → List (List UInt8)
  | [] => [p]
  | h :: t => (p ++ h) :: t
/-- the pieces of a text between bytes c -/
def splitL (c : UInt8) : List UInt8 → List (List UInt8)
  | [] => [[]]
  | b :: l => if b = c then [] :: splitL c l else glue [b] (splitL c l)
theorem splitL_eq {b c : UInt8} (h : b = c) (l : List UInt8) : splitL c (b :: l) = [] :: splitL c l := by rw [splitL, if_pos h]
theorem splitL_no {b c : UInt8} (h : ¬ b = c) (l : List UInt8) : splitL c (b :: l) = glue [b] (splitL c l) := by rw [splitL, if_neg h]
theorem glue_glue (p q : List UInt8) (L : List (List UInt8)) : glue p (glue q L) = glue (p ++ q) L := by
  cases L <;> simp [glue]
theorem splitL_ne (c : UInt8) (l : List UInt8) : splitL c l ≠ [] := by
  cases l with
  | nil => simp [splitL]
  | cons b l =>
    unfold splitL
    split
    · simp
    · cases splitL c l <;> simp [glue]
theorem glue_nil (c : UInt8) (l : List UInt8) : glue [] (splitL c l) = splitL c l := by
  cases h : splitL c l with
  | nil => exact absurd h (splitL_ne c l)
  | cons a t => rfl
theorem splitL_cat (c : UInt8) (a r : List UInt8) (h : c ∉ a) : splitL c (a ++ r) = glue a (splitL c r) := by
  induction a with
  | nil => exact (glue_nil c r).symm
  | cons x t ih =>
    have hx : ¬ x = c := fun e => h (by simp [e])
    rw [List.cons_append, splitL, if_neg hx, ih (fun m => h (by simp [m])), glue_glue]
    rfl
theorem splitL_self (c : UInt8) (a : List UInt8) (h : c ∉ a) : splitL c a = [a] := by
  have := splitL_cat c a [] h
  rw [List.append_nil] at this
  rw [this]; simp [splitL, glue]
theorem splitL_hit (c : UInt8) (a r : List UInt8) (h : c ∉ a) : splitL c (a ++ c :: r) = a :: splitL c r := by
  rw [splitL_cat c a _ h, splitL, if_pos rfl]; simp [glue]
theorem splitL_join (c : UInt8) (a r : List UInt8) : splitL c (a ++ c :: r) = splitL c a ++ splitL c r := by
  induction a with
  | nil => exact (splitL_eq rfl r).trans rfl
  | cons x t ih =>
    rw [List.cons_append]
    by_cases hx : x = c
    · rw [splitL_eq hx, splitL_eq hx, ih]; rfl
    · rw [splitL_no hx, splitL_no hx, ih]
      cases h : splitL c t with
      | nil => exact absurd h (splitL_ne c t)
      | cons u v => rfl
theorem index_hit1 (c : UInt8) : ∀ (a r : List UInt8), c ∉ a → Lib.index (a ++ c :: r) [c] = (a.length : Int)
  | [], r, _ => by unfold Lib.index; simp
  | x :: t, r, h => by
    have ih := index_hit1 c t r (fun m => h (by simp [m]))
    have hx : c ≠ x := fun e => h (by simp [e])
    simp only [List.cons_append]
    unfold Lib.index
    rw [ih]
    have hp : ([c] : List UInt8).isPrefixOf (x :: (t ++ c :: r)) = false := by simp [List.isPrefixOf, hx]
    rw [hp]
    have hn : ((t.length : Int) == -1) = false := by rw [beq_eq_false_iff_ne]; omega
    simp [hn]
theorem index_miss1 (c : UInt8) : ∀ (a : List UInt8), c ∉ a → Lib.index a [c] = -1
  | [], _ => by unfold Lib.index; rfl
  | x :: t, h => by
    have ih := index_miss1 c t (fun m => h (by simp [m]))
    have hx : c ≠ x := fun e => h (by simp [e])
    unfold Lib.index
    rw [ih]
    have hp : ([c] : List UInt8).isPrefixOf (x :: t) = false := by simp [List.isPrefixOf, hx]
    rw [hp]; rfl
theorem cut_hit1 (c : UInt8) (a r : List UInt8) (h : c ∉ a) : Lib.cut (a ++ c :: r) [c] = (a, r, true) := by
  unfold Lib.cut
  rw [index_hit1 c a r h, if_pos (by omega)]
  simp
theorem cut_miss1 (c : UInt8) (a : List UInt8) (h : c ∉ a) : Lib.cut a [c] = (a, [], false) := by
  unfold Lib.cut
  rw [index_miss1 c a h, if_neg (by omega)]
theorem splitK_eq (c : UInt8) : ∀ (n : Nat) (l : List UInt8), l.length ≤ n → Lib.splitK [c] 0 (l.count c) l = splitL c l
  | n, l, hn => by
    by_cases hm : c ∈ l
    · obtain ⟨a, r, rfl, ha⟩ := List.eq_append_cons_of_mem hm
      cases n with
      | zero => simp at hn
      | succ n =>
        have hc : (a ++ c :: r).count c = r.count c + 1 := by rw [List.count_append, List.count_cons_self, List.count_eq_zero.2 ha]; omega
        rw [hc, splitL_hit c a r ha]
        unfold Lib.splitK
        rw [index_hit1 c a r ha]
        have hne : ((a.length : Int) == -1) = false := by rw [beq_eq_false_iff_ne]; omega
        rw [if_neg (by rw [hne]; decide)]
        have e1 : ((a.length : Int).toNat) = a.length := by omega
        rw [e1]
        have e2 : (a ++ c :: r).drop (a.length + [c].length) = r := by
          have : a ++ c :: r = (a ++ [c]) ++ r := by simp
          rw [this, List.drop_left' (by simp)]
        rw [e2, Nat.add_zero, List.take_left' rfl, splitK_eq c n r (by simp at hn; omega)]
    · rw [List.count_eq_zero.2 hm, splitL_self c l hm]
      unfold Lib.splitK; rfl
theorem splitB_one (c : UInt8) (s : ByteArray) : (Lib.splitB ⟨#[c]⟩ 0 (Lib.countB s ⟨#[c]⟩) s).map (·.data.toList) = splitL c s.data.toList := by
  rw [Lib.splitB_data]
  have : Lib.countB s ⟨#[c]⟩ = s.data.toList.count c := Lib.count_one c s.data.toList
  rw [this]
  exact splitK_eq c _ _ (Nat.le_refl _)
def letB (n : Nat) : Bool := decide (97 ≤ n) && decide (n ≤ 122)
def othB (n : Nat) : Bool := decide (48 ≤ n) && decide (n ≤ 57) || n == 45 || n == 46 || n == 95
def insB (n : Nat) : Bool := letB n || othB n
/-- a part of a module path -/
def partB : List UInt8 → Bool
  | [] => false
  | b :: t => letB b.toNat && (b :: t).all fun c => insB c.toNat
/-- a module path -/
def pathB (s : List UInt8) : Bool := decide (s.length ≤ 60) && (splitL 47 s).all partB
theorem pathB_join (a b : List UInt8) : pathB (a ++ 47 :: b) = (pathB a && pathB b && decide (a.length + b.length < 60)) := by
  unfold pathB
  rw [splitL_join, List.all_append]
  cases h1 : (splitL 47 a).all partB <;> cases h2 : (splitL 47 b).all partB <;> simp
  rw [Bool.eq_iff_iff]; simp; omega
/-- the words of a line -/
def wordsL (l : List UInt8) : List (List UInt8) := (splitL 32 l).filter fun x => !x.isEmpty
end Go.Proofs.YtmmghdicjpfdoaaGreatDoor
