/-
  The statements' own small functions: letters, digits, faults, escapes. No condition.
-/
import Derived.Test.YtaocgibfabofhaaDoorRA
import Derived.Deep.RegionWith
namespace Go.Proofs.YtaocgibfabofhaaDoor
open Go.RowKit
set_option linter.unusedSimpArgs false
set_option linter.unusedVariables false
set_option maxHeartbeats 1000000 in
theorem rletter_any (n : Nat) (w : World) : Calls Tryd.prog 64 #[.int .u8 (n : Int)] w fun e w' => e = .returned (.bool (letB n)) ∧ w = w' := by
  have hr : letB n = letB n := rfl
  conv at hr => lhs; unfold letB
  have HR := Lib.hid hr
  clear hr
  rw [← HR.out]
  by_cases h1 : 65 ≤ n <;> by_cases h2 : n ≤ 90 <;> by_cases h3 : 97 ≤ n <;> by_cases h4 : n ≤ 122
  all_goals first | (exfalso; omega) | skip
  all_goals
    clear HR
    go_enter Tryd.func64, Tryd.ntmps64
    go_wp2
    go_ret
    exact ⟨ret_bool (by first | (simp [h1, h2, h3, h4]; done) | (simp [h1, h2, h3, h4]; omega)), rfl⟩
theorem rletter_at (n : Nat) (v : Bool) (h : letB n = v) (w : World) : Calls Tryd.prog 64 #[.int .u8 (n : Int)] w fun e w' => e = .returned (.bool v) ∧ w = w' := by
  subst h; exact rletter_any n w
def digB (n : Nat) : Bool := decide (48 ≤ n) && decide (n ≤ 57)
set_option maxHeartbeats 1000000 in
theorem rdigit_any (n : Nat) (w : World) : Calls Tryd.prog 65 #[.int .u8 (n : Int)] w fun e w' => e = .returned (.bool (digB n)) ∧ w = w' := by
  unfold digB
  by_cases h1 : 48 ≤ n
  · go_enter Tryd.func65, Tryd.ntmps65
    go_wp2
    go_ret
    exact ⟨ret_bool (by simp [h1] <;> omega), rfl⟩
  · go_enter Tryd.func65, Tryd.ntmps65
    go_wp2
    go_ret
    exact ⟨ret_bool (by simp [h1] <;> omega), rfl⟩
theorem rdigit_at (n : Nat) (v : Bool) (h : digB n = v) (w : World) : Calls Tryd.prog 65 #[.int .u8 (n : Int)] w fun e w' => e = .returned (.bool v) ∧ w = w' := by
  subst h; exact rdigit_any n w
end Go.Proofs.YtaocgibfabofhaaDoor
