/-
  Lists of edits: how a slice reads as one; growth, check, Check of the program; inside, ordered, Check, Small of the specification. No condition but that the slices read as lists.
-/
import Derived.Test.YtlanjfjmffcgdaaProg
import Derived.WalkKit
import Derived.WalkSpells
import Derived.WalkLawsBesides
import Derived.Lib.Hide
import Derived.Below
import Derived.BigQuiet
import Derived.Deep.QuietTactic
import Derived.LoopTactic
import Derived.IntWalk
namespace Go.Proofs.Ytlanjfjmffcgdaa
open Go.RowKit
set_option linter.unusedSimpArgs false
set_option linter.unusedVariables false
theorem ret_bool {a b : Bool} (h : a = b) : Ending.returned (.bool a) = .returned (.bool b) := by rw [h]
theorem ret_int {k : IntKind} {a b : Int} (h : a = b) : Ending.returned (.int k a) = .returned (.int k b) := by rw [h]
abbrev Ed := Int × Int × ByteArray
/-- an edit by value -/
abbrev ev (x : Ed) : Value := .agg #[.int .i64 x.1, .int .i64 x.2.1, .string x.2.2]
/-- the slice at A reads as the list xs, in blocks below B -/
structure Re (w : World) (B : Nat) (A : Option Addr) (xs : List Ed) : Prop where
  at_ : ∀ k (h : k < xs.length), ∃ ad, A = some ad ∧ ad.block < B ∧ w.cell? (ad.add (k * 3)) = some (.int .i64 xs[k].1) ∧ w.cell? ⟨(ad.add (k * 3)).block, (ad.add (k * 3)).off + 1, none⟩ = some (.int .i64 xs[k].2.1) ∧ w.cell? ⟨(ad.add (k * 3)).block, (ad.add (k * 3)).off + 2, none⟩ = some (.string xs[k].2.2)
theorem block_of_add (a : Addr) (n : Nat) : (a.add n).block = a.block := by unfold Addr.add; split <;> rfl
theorem add_of_add (a : Addr) (i j : Nat) : (a.add i).add j = a.add (i + j) := by
  unfold Addr.add
  by_cases hi : i = 0 <;> by_cases hj : j = 0 <;> simp [hi, hj, Nat.add_assoc]
theorem Re.below {w w' : World} {B : Nat} {A : Option Addr} {xs : List Ed} (h : Re w B A xs) (hb : Below B w w') : Re w' B A xs :=
  ⟨fun k hk => by
    obtain ⟨ad, e, hl, c0, c1, c2⟩ := h.at_ k hk
    exact ⟨ad, e, hl, by rw [hb.cell (by rw [block_of_add]; exact hl)]; exact c0, by rw [hb.cell (by show (ad.add (k * 3)).block < B; rw [block_of_add]; exact hl)]; exact c1, by rw [hb.cell (by show (ad.add (k * 3)).block < B; rw [block_of_add]; exact hl)]; exact c2⟩⟩
theorem re_nil (W : World) (B : Nat) (A : Option Addr) : Re W B A [] := ⟨fun k hk => by simp at hk⟩
theorem re_keep {w w1 : World} {A : Option Addr} {xs : List Ed} (h : Re w w.heap.size A xs) (hb : Below w.heap.size w w1) : Re w1 w1.heap.size A xs :=
  ⟨fun k hk => by
    obtain ⟨ad, e, hl, c⟩ := (h.below hb).at_ k hk
    exact ⟨ad, e, Nat.lt_of_lt_of_le hl hb.size, c⟩⟩
theorem cell_keep {w w' : World} {a : Addr} {v : Value} (h : w.cell? a = some v) (hb : Below w.heap.size w w') : w'.cell? a = some v := by
  rw [hb.cell (World.block_lt_of_cell? w _ h)]; exact h
theorem bdrewN {B : Nat} {w w' : World} (h : Below B w w') (n : Nat) : Below B w (w'.drewN n) := by
  refine h.trans ?_
  constructor <;> first | rfl | exact Nat.le_refl _ | (intros; rfl)

/-- by how much an edit makes a text longer -/
def grw (x : Ed) : Int := (x.2.2.size : Int) - (x.2.1 - x.1)
/-- an edit lies within the first n bytes -/
def insB (n : Int) (x : Ed) : Bool := decide (0 ≤ x.1) && decide (x.1 ≤ x.2.1) && decide (x.2.1 ≤ n)
def insA (n : Int) (xs : List Ed) : Bool := xs.all (insB n)
def ordB : List Ed → Bool
  | x :: y :: t => decide (x.2.1 ≤ y.1) && ordB (y :: t)
  | _ => true
def chkL (n : Int) (xs : List Ed) : Int := if insA n xs = false then 1 else if ordB xs = false then 6 else 0
theorem insA_at {n : Int} {xs : List Ed} {k : Nat} (h : k < xs.length) : insA n (xs.drop k) = (insB n xs[k] && insA n (xs.drop (k + 1))) := by
  rw [List.drop_eq_getElem_cons h]; rfl
theorem insA_end {n : Int} {xs : List Ed} {k : Nat} (h : xs.length ≤ k) : insA n (xs.drop k) = true := by rw [List.drop_eq_nil_of_le h]; rfl
theorem ordB_at {xs : List Ed} {k : Nat} (h : k + 1 < xs.length) : ordB (xs.drop k) = (decide (xs[k].2.1 ≤ xs[k+1].1) && ordB (xs.drop (k + 1))) := by
  rw [List.drop_eq_getElem_cons (by omega : k < xs.length), List.drop_eq_getElem_cons h]; rfl
theorem ordB_end {xs : List Ed} {k : Nat} (h : xs.length ≤ k + 1) : ordB (xs.drop k) = true := by
  by_cases hk : k < xs.length
  · rw [List.drop_eq_getElem_cons hk, List.drop_eq_nil_of_le h]; rfl
  · rw [List.drop_eq_nil_of_le (by omega)]; rfl
theorem insB_0 {n : Int} {x : Ed} (h : x.1 < 0) : insB n x = false := by
  unfold insB; rw [decide_eq_false (p := 0 ≤ x.1) (by omega)]; rfl
theorem insB_1 {n : Int} {x : Ed} (h : x.2.1 < x.1) : insB n x = false := by
  unfold insB; rw [decide_eq_false (p := x.1 ≤ x.2.1) (by omega)]; simp
theorem insB_2 {n : Int} {x : Ed} (h : n < x.2.1) : insB n x = false := by
  unfold insB; rw [decide_eq_false (p := x.2.1 ≤ n) (by omega)]; simp
theorem insB_3 {n : Int} {x : Ed} (h0 : ¬ x.1 < 0) (h1 : ¬ x.2.1 < x.1) (h2 : ¬ n < x.2.1) : insB n x = true := by
  unfold insB; rw [decide_eq_true (p := 0 ≤ x.1) (by omega), decide_eq_true (p := x.1 ≤ x.2.1) (by omega), decide_eq_true (p := x.2.1 ≤ n) (by omega)]; rfl

set_option maxHeartbeats 1000000 in
theorem growth_any (f t : Int) (s : ByteArray) (w : World) (h0 : 0 ≤ f) (h1 : f ≤ t) (h2 : t ≤ 9223372036854775807) (h3 : s.size ≤ 1000000) :
    Calls Try.prog 27 #[.agg #[.int .i64 f, .int .i64 t, .string s]] w fun e w' => e = .returned (.int .i64 ((s.size : Int) - (t - f))) ∧ Below w.heap.size w w' := by
  go_enter Try.func27, Try.ntmps27
  go_wp2_with fail
  go_ret
  exact ⟨rfl, (Below.refl _ _).alloc (Nat.le_refl _) _⟩
