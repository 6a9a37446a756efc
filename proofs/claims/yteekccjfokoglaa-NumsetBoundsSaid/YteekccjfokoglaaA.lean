/-
  The small functions of numset: Valid, Whole, remainder and Floor of fixed; the axes, trim and without. No condition.
-/
import Derived.Test.YteekccjfokoglaaProg
import Derived.Test.YteekccjfokoglaaM3
import Derived.WalkKit
import Derived.WalkSpells
import Derived.WalkLawsBesides
import Derived.Lib.Hide
import Derived.Below
import Derived.BigQuiet
import Derived.Deep.QuietTactic
import Derived.LoopTactic
import Derived.IntWalk
namespace Go.Proofs.Yteekccjfokoglaa
open Go.RowKit
set_option linter.unusedSimpArgs false
set_option linter.unnecessarySimpa false
set_option linter.unusedVariables false
theorem ret_bool {a b : Bool} (h : a = b) : Ending.returned (.bool a) = .returned (.bool b) := by rw [h]
theorem ret_int {k : IntKind} {a b : Int} (h : a = b) : Ending.returned (.int k a) = .returned (.int k b) := by rw [h]
/-- a span by value -/
abbrev sv (s : Sp) : Value := .agg #[.int .i64 s.1, .int .i64 s.2]
/-- an axis by value -/
abbrev axv (b : Bool) : Value := .agg #[.int .i64 (lim b), .bool b]
def i64ok (n : Int) : Prop := -9223372036854775808 ≤ n ∧ n ≤ 9223372036854775807
theorem valid_any (u : Int) (w : World) (h : i64ok u) : Calls Try.prog 58 #[.int .i64 u] w fun e w' => e = .returned (.bool (vld u)) ∧ w = w' := by
  obtain ⟨h1, h2⟩ := h
  by_cases a : -1000000000000000 ≤ u <;> by_cases b : u ≤ 1000000000000000 <;> (
    go_enter Try.func58, Try.ntmps58
    go_wp2
    go_ret
    exact ⟨ret_bool (by simp [vld, a, b]), rfl⟩)
theorem whole_any (u : Int) (w : World) (h : i64ok u) : Calls Try.prog 59 #[.int .i64 u] w fun e w' => e = .returned (.bool (whl u)) ∧ w = w' := by
  have hv := valid_any u w h
  have e0 : whl u = (vld u && decide (u % 10000 = 0)) := by simp [whl, vld, Bool.and_assoc]
  obtain ⟨h1, h2⟩ := h
  cases hb : vld u
  · rw [hb] at hv
    rw [hb] at e0
    go_enter Try.func59, Try.ntmps59
    go_wp2_with (go_at_call 58; refine hv.mono ?_; rintro e w' ⟨rfl, rfl⟩)
    go_ret
    exact ⟨ret_bool (by rw [e0]; rfl), rfl⟩
  · rw [hb] at hv
    rw [hb] at e0
    by_cases hw : u.tmod 10000 = 0
    · have hq : u % 10000 = 0 := Int.emod_eq_zero_of_dvd (Int.dvd_of_tmod_eq_zero hw)
      have ht : ((u.tmod 10000 : Int) == 0) = true := by simp [hw]
      go_enter Try.func59, Try.ntmps59
      go_wp2_with (go_at_call 58; refine hv.mono ?_; rintro e w' ⟨rfl, rfl⟩)
      go_ret
      exact ⟨ret_bool (by rw [e0]; simp [hq]), rfl⟩
    · have hq : ¬u % 10000 = 0 := by intro h; exact hw (Int.tmod_eq_zero_of_dvd (Int.dvd_of_emod_eq_zero h))
      have ht : ((u.tmod 10000 : Int) == 0) = false := by simp [hw]
      go_enter Try.func59, Try.ntmps59
      go_wp2_with (go_at_call 58; refine hv.mono ?_; rintro e w' ⟨rfl, rfl⟩)
      go_ret
      exact ⟨ret_bool (by rw [e0]; simp [hq]), rfl⟩
theorem axI_any (w : World) : Calls Try.prog 51 #[] w fun e w' => e = .returned (axv false) ∧ Below w.heap.size w w' := by
  go_enter Try.func51, Try.ntmps51
  go_wp2
  refine bodyPost_ret (v := axv false) (by simp [results, Try.results51, go_sem, lim]) rfl ⟨rfl, ?_⟩
  exact (Below.refl _ _).alloc (Nat.le_refl _) _
theorem axF_any (w : World) : Calls Try.prog 53 #[] w fun e w' => e = .returned (axv true) ∧ Below w.heap.size w w' := by
  go_enter Try.func53, Try.ntmps53
  go_wp2
  refine bodyPost_ret (v := axv true) (by simp [results, Try.results53, go_sem, lim]) rfl ⟨rfl, ?_⟩
  exact (Below.refl _ _).alloc (Nat.le_refl _) _
end Go.Proofs.Yteekccjfokoglaa
