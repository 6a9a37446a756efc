/-
  The statements' own small functions: letters, digits, faults, escapes. No condition.
-/
import Derived.Test.YtadeejoekeaeeaaRA
import Derived.Deep.RegionWith
namespace Go.Proofs.Ytadeejoekeaeeaa
open Go.RowKit
set_option linter.unusedSimpArgs false
set_option linter.unusedVariables false
set_option maxHeartbeats 1000000 in
theorem rletter_any (n : Nat) (w : World) : Calls Try.prog 38 #[.int .u8 (n : Int)] w fun e w' => e = .returned (.bool (letB n)) ∧ w = w' := by
  have hr : letB n = letB n := rfl
  conv at hr => lhs; unfold letB
  have HR := Lib.hid hr
  clear hr
  rw [← HR.out]
  by_cases h1 : 65 ≤ n <;> by_cases h2 : n ≤ 90 <;> by_cases h3 : 97 ≤ n <;> by_cases h4 : n ≤ 122
  all_goals first | (exfalso; omega) | skip
  all_goals
    clear HR
    go_enter Try.func38, Try.ntmps38
    go_wp2
    go_ret
    exact ⟨ret_bool (by first | (simp [h1, h2, h3, h4]; done) | (simp [h1, h2, h3, h4]; omega)), rfl⟩
theorem rletter_at (n : Nat) (v : Bool) (h : letB n = v) (w : World) : Calls Try.prog 38 #[.int .u8 (n : Int)] w fun e w' => e = .returned (.bool v) ∧ w = w' := by
  subst h; exact rletter_any n w
def digB (n : Nat) : Bool := decide (48 ≤ n) && decide (n ≤ 57)
set_option maxHeartbeats 1000000 in
theorem rdigit_any (n : Nat) (w : World) : Calls Try.prog 39 #[.int .u8 (n : Int)] w fun e w' => e = .returned (.bool (digB n)) ∧ w = w' := by
  unfold digB
  by_cases h1 : 48 ≤ n
  · go_enter Try.func39, Try.ntmps39
    go_wp2
    go_ret
    exact ⟨ret_bool (by simp [h1] <;> omega), rfl⟩
  · go_enter Try.func39, Try.ntmps39
    go_wp2
    go_ret
    exact ⟨ret_bool (by simp [h1] <;> omega), rfl⟩
theorem rdigit_at (n : Nat) (v : Bool) (h : digB n = v) (w : World) : Calls Try.prog 39 #[.int .u8 (n : Int)] w fun e w' => e = .returned (.bool v) ∧ w = w' := by
  subst h; exact rdigit_any n w
set_option maxHeartbeats 1000000 in
theorem rhex_any (n : Nat) (hn : n < 256) (w : World) : Calls Try.prog 45 #[.int .u8 (n : Int)] w fun e w' => e = .returned (.int .i64 (digI n)) ∧ w = w' := by
  have hr : digI n = digI n := rfl
  conv at hr => lhs; unfold digI
  have HR := Lib.hid hr
  clear hr
  rw [← HR.out]
  clear HR
  cases hd : digB n with
  | true =>
    have hh : 48 ≤ n ∧ n ≤ 57 := by simpa [digB] using hd
    have HD := Lib.hid hd
    clear hd
    go_enter Try.func45, Try.ntmps45
    go_wp2_with fail
    refine (rdigit_at n true HD.out _).mono ?_
    rintro e w1 ⟨rfl, rfl⟩
    go_wp2
    go_ret
    exact ⟨ret_int (by first | rfl | omega | (simp [IntKind.wrap, IntKind.bits, IntKind.signed]; omega) | (simp [*]; done) | ((repeat' split) <;> omega)), rfl⟩
  | false =>
    have hh : ¬ (48 ≤ n ∧ n ≤ 57) := by
      intro h; rw [show digB n = true by simp [digB, h]] at hd; cases hd
    have HD := Lib.hid hd
    have HH := Lib.hid hh
    clear hd hh
    rw [if_neg HH.out]
    by_cases h3 : 97 ≤ n
    · by_cases h4 : n ≤ 102
      · go_enter Try.func45, Try.ntmps45
        go_wp2_with fail
        refine (rdigit_at n false HD.out _).mono ?_
        rintro e w1 ⟨rfl, rfl⟩
        go_wp2
        go_ret
        exact ⟨ret_int (by first | rfl | omega | (simp [IntKind.wrap, IntKind.bits, IntKind.signed]; omega) | (simp [*]; done) | ((repeat' split) <;> omega)), rfl⟩
      · go_enter Try.func45, Try.ntmps45
        go_wp2_with fail
        refine (rdigit_at n false HD.out _).mono ?_
        rintro e w1 ⟨rfl, rfl⟩
        go_wp2
        go_ret
        exact ⟨ret_int (by first | rfl | omega | (simp [IntKind.wrap, IntKind.bits, IntKind.signed]; omega) | (simp [*]; done) | ((repeat' split) <;> omega)), rfl⟩
    · by_cases h5 : 65 ≤ n
      · by_cases h6 : n ≤ 70
        · go_enter Try.func45, Try.ntmps45
          go_wp2_with fail
          refine (rdigit_at n false HD.out _).mono ?_
          rintro e w1 ⟨rfl, rfl⟩
          go_wp2
          go_ret
          exact ⟨ret_int (by first | rfl | omega | (simp [IntKind.wrap, IntKind.bits, IntKind.signed]; omega) | (simp [*]; done) | ((repeat' split) <;> omega)), rfl⟩
        · go_enter Try.func45, Try.ntmps45
          go_wp2_with fail
          refine (rdigit_at n false HD.out _).mono ?_
          rintro e w1 ⟨rfl, rfl⟩
          go_wp2
          go_ret
          exact ⟨ret_int (by first | rfl | omega | (simp [IntKind.wrap, IntKind.bits, IntKind.signed]; omega) | (simp [*]; done) | ((repeat' split) <;> omega)), rfl⟩
      · go_enter Try.func45, Try.ntmps45
        go_wp2_with fail
        refine (rdigit_at n false HD.out _).mono ?_
        rintro e w1 ⟨rfl, rfl⟩
        go_wp2
        go_ret
        exact ⟨ret_int (by first | rfl | omega | (simp [IntKind.wrap, IntKind.bits, IntKind.signed]; omega) | (simp [*]; done) | ((repeat' split) <;> omega)), rfl⟩
set_option maxHeartbeats 1000000 in
theorem rfault_any (at_ : Int) (w : World) : Calls Try.prog 33 #[.int .i64 at_] w fun e w' => e = .returned (.agg #[.int .i64 8, .int .i64 at_]) ∧ Below w.heap.size w w' := by
  go_enter Try.func33, Try.ntmps33
  go_wp2
  refine bodyPost_ret (v := .agg #[.int .i64 8, .int .i64 at_]) (by simp [results, Try.results33, go_sem]) rfl ⟨rfl, ?_⟩
  exact (Below.refl w.heap.size w).alloc (Nat.le_refl _) _
theorem rfault_at (x : Int) (n : Nat) (h : x = (n : Int)) (w : World) : Calls Try.prog 33 #[.int .i64 x] w fun e w' => e = .returned (.agg #[.int .i64 8, .int .i64 (n : Int)]) ∧ Below w.heap.size w w' := by subst h; exact rfault_any _ w
theorem escL_drop (s : ByteArray) (i : Nat) : escL (s.data.toList.drop i) = escC (ch s (i + 1)) (ch s (i + 2)) (ch s (i + 3)) (s.size - i) := by
  unfold escL ch
  simp [List.getD_eq_getElem?_getD, List.getElem?_drop]
theorem escC_small {c h l n : Nat} (hn : n < 2) : escC c h l n = (0, 0) := by unfold escC; rw [if_pos hn]
theorem pair2 {a b c d : Int} (h1 : a = c) (h2 : b = d) : Ending.returned (.tuple #[.int .u8 a, .int .i64 b]) = .returned (.tuple #[.int .u8 c, .int .i64 d]) := by rw [h1, h2]
theorem mul_add_u8 (a b : Nat) (ha : a < 16) (hb : b < 16) : ((16 : Int) * (a : Int) + (b : Int)) % 256 = ((16 * a + b : Nat) : Int) := by omega
end Go.Proofs.Ytadeejoekeaeeaa
