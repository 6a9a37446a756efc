/-
  The small functions of package quote: letters, reserved words, faults, digits, escapes. No condition.
-/
import Derived.Test.YtaocgibfabofhaaDoorA
import Derived.Deep.RegionHeld3
namespace Go.Proofs.YtaocgibfabofhaaDoor
open Go.RowKit
set_option linter.unusedSimpArgs false
set_option linter.unusedVariables false

def letB (n : Nat) : Bool := decide (65 ≤ n) && decide (n ≤ 90) || decide (97 ≤ n) && decide (n ≤ 122)
set_option maxHeartbeats 1000000 in
theorem letter_any (n : Nat) (w : World) : Calls Tryd.prog 59 #[.int .u8 (n : Int)] w fun e w' => e = .returned (.bool (letB n)) ∧ w = w' := by
  have hr : letB n = letB n := rfl
  conv at hr => lhs; unfold letB
  have HR := Lib.hid hr
  clear hr
  rw [← HR.out]
  by_cases h1 : 65 ≤ n <;> by_cases h2 : n ≤ 90 <;> by_cases h3 : 97 ≤ n <;> by_cases h4 : n ≤ 122
  all_goals first | (exfalso; omega) | skip
  all_goals
    clear HR
    go_enter Tryd.func59, Tryd.ntmps59
    go_wp2
    go_ret
    exact ⟨ret_bool (by first | (simp [h1, h2, h3, h4]; done) | (simp [h1, h2, h3, h4]; omega)), rfl⟩
theorem letter_at (n : Nat) (v : Bool) (h : letB n = v) (w : World) : Calls Tryd.prog 59 #[.int .u8 (n : Int)] w fun e w' => e = .returned (.bool v) ∧ w = w' := by
  subst h; exact letter_any n w
set_option maxHeartbeats 1000000 in
theorem fault_any (at_ : Int) (w : World) : Calls Tryd.prog 82 #[.int .i64 at_] w fun e w' => e = .returned (.agg #[.int .i64 8, .int .i64 at_]) ∧ Below w.heap.size w w' := by
  go_enter Tryd.func82, Tryd.ntmps82
  go_wp2
  refine bodyPost_ret (v := .agg #[.int .i64 8, .int .i64 at_]) (by simp [results, Tryd.results82, go_sem]) rfl ⟨rfl, ?_⟩
  exact (Below.refl w.heap.size w).alloc (Nat.le_refl _) _
/-- the number of a hexadecimal digit, or -1 -/
def digI (n : Nat) : Int := if 48 ≤ n ∧ n ≤ 57 then (n : Int) - 48 else if 97 ≤ n ∧ n ≤ 102 then (n : Int) - 87 else if 65 ≤ n ∧ n ≤ 70 then (n : Int) - 55 else -1
theorem digI_lo (n : Nat) : -1 ≤ digI n := by unfold digI; (repeat' split) <;> omega
theorem digI_hi (n : Nat) : digI n ≤ 15 := by unfold digI; (repeat' split) <;> omega
set_option maxHeartbeats 1000000 in
theorem digit_any (n : Nat) (hn : n < 256) (w : World) : Calls Tryd.prog 100 #[.int .u8 (n : Int)] w fun e w' => e = .returned (.int .i64 (digI n)) ∧ w = w' := by
  have hr : digI n = digI n := rfl
  conv at hr => lhs; unfold digI
  have HR := Lib.hid hr
  clear hr
  rw [← HR.out]
  clear HR
  by_cases h1 : 48 ≤ n
  · by_cases h2 : n ≤ 57
    · go_enter Tryd.func100, Tryd.ntmps100
      go_wp2
      go_ret
      exact ⟨ret_int (by first | omega | (simp [IntKind.wrap, IntKind.bits, IntKind.signed]; omega) | (simp [*]; done) | (rw [if_neg (by omega), if_neg (by omega), if_neg (by omega)])), rfl⟩
    · by_cases h3 : 97 ≤ n
      · by_cases h4 : n ≤ 102
        · go_enter Tryd.func100, Tryd.ntmps100
          go_wp2
          go_ret
          exact ⟨ret_int (by first | omega | (simp [IntKind.wrap, IntKind.bits, IntKind.signed]; omega) | (simp [*]; done) | (rw [if_neg (by omega), if_neg (by omega), if_neg (by omega)])), rfl⟩
        · go_enter Tryd.func100, Tryd.ntmps100
          go_wp2
          go_ret
          exact ⟨ret_int (by first | omega | (simp [IntKind.wrap, IntKind.bits, IntKind.signed]; omega) | (simp [*]; done) | (rw [if_neg (by omega), if_neg (by omega), if_neg (by omega)])), rfl⟩
      · by_cases h5 : 65 ≤ n
        · by_cases h6 : n ≤ 70
          · go_enter Tryd.func100, Tryd.ntmps100
            go_wp2
            go_ret
            exact ⟨ret_int (by first | omega | (simp [IntKind.wrap, IntKind.bits, IntKind.signed]; omega) | (simp [*]; done) | (rw [if_neg (by omega), if_neg (by omega), if_neg (by omega)])), rfl⟩
          · go_enter Tryd.func100, Tryd.ntmps100
            go_wp2
            go_ret
            exact ⟨ret_int (by first | omega | (simp [IntKind.wrap, IntKind.bits, IntKind.signed]; omega) | (simp [*]; done) | (rw [if_neg (by omega), if_neg (by omega), if_neg (by omega)])), rfl⟩
        · go_enter Tryd.func100, Tryd.ntmps100
          go_wp2
          go_ret
          exact ⟨ret_int (by first | omega | (simp [IntKind.wrap, IntKind.bits, IntKind.signed]; omega) | (simp [*]; done) | (rw [if_neg (by omega), if_neg (by omega), if_neg (by omega)])), rfl⟩
  · go_enter Tryd.func100, Tryd.ntmps100
    go_wp2
    go_ret
    exact ⟨ret_int (by first | omega | (simp [IntKind.wrap, IntKind.bits, IntKind.signed]; omega) | (simp [*]; done) | (rw [if_neg (by omega), if_neg (by omega), if_neg (by omega)])), rfl⟩
def wordsL : List (List UInt8) := [[110, 117, 108, 108], [116, 114, 117, 101], [102, 97, 108, 115, 101], [98, 111, 111, 108], [105, 110, 116], [110, 117, 109, 98, 101, 114], [115, 116, 114, 105, 110, 103], [108, 101, 116], [105, 102], [102, 111, 114], [105, 110], [112, 97, 99, 107, 97, 103, 101], [105, 109, 112, 111, 114, 116]]
def resB (s : ByteArray) : Bool := wordsL.any fun x => s.toList == x
set_option maxHeartbeats 1000000 in
theorem reserved_any (s : ByteArray) (w : World) : Calls Tryd.prog 58 #[.string s] w fun e w' => e = .returned (.bool (resB s)) ∧ w = w' := by
  go_enter Tryd.func58, Tryd.ntmps58
  go_wp2
  all_goals (go_ret; exact ⟨ret_bool (by simp_all [resB, wordsL]), rfl⟩)
end Go.Proofs.YtaocgibfabofhaaDoor
