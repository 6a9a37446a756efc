/-
  The letters of module paths. No condition.
-/
import Derived.Test.YthlcdimofagmfaaGreatDoorAB
import Derived.Deep.RegionHeld3
namespace Go.Proofs.YthlcdimofagmfaaGreatDoor
open Go.RowKit
set_option linter.unusedSimpArgs false
set_option linter.unnecessarySimpa false
set_option linter.unusedVariables false
set_option maxHeartbeats 1000000 in
theorem letter_any (n : Nat) (w : World) : Calls Tryz.prog 117 #[.int .u8 (n : Int)] w fun e w' => e = .returned (.bool (letB n)) ∧ w = w' := by
  have hr : letB n = letB n := rfl
  conv at hr => lhs; unfold letB
  have HR := Lib.hid hr
  clear hr
  rw [← HR.out]
  by_cases h1 : 97 ≤ n <;> by_cases h2 : n ≤ 122
  all_goals first | (exfalso; omega) | skip
  all_goals
    clear HR
    go_enter Tryz.func117, Tryz.ntmps117
    go_wp2
    go_ret
    exact ⟨ret_bool (by first | (simp [h1, h2]; done) | (simp [h1, h2]; omega)), rfl⟩
theorem letter_at (n : Nat) (v : Bool) (h : letB n = v) (w : World) : Calls Tryz.prog 117 #[.int .u8 (n : Int)] w fun e w' => e = .returned (.bool v) ∧ w = w' := by
  subst h; exact letter_any n w
set_option maxHeartbeats 4000000 in
theorem inside_any (n : Nat) (w : World) : Calls Tryz.prog 118 #[.int .u8 (n : Int)] w fun e w' => e = .returned (.bool (insB n)) ∧ w = w' := by
  cases hl : letB n with
  | true =>
    have HV : Hid (insB n = true) := by show insB n = true; unfold insB; rw [hl]; rfl
    go_enter Tryz.func118, Tryz.ntmps118
    go_wp2_with fail
    refine (letter_at _ _ hl _).mono ?_
    rintro e w1 ⟨rfl, rfl⟩
    go_wp2_with fail
    go_ret
    exact ⟨ret_bool HV.out.symm, rfl⟩
  | false =>
    have hr : insB n = othB n := by unfold insB; rw [hl]; rfl
    rw [hr]
    clear hr
    by_cases hd : 48 ≤ n ∧ n ≤ 57
    · have HV : Hid (othB n = true) := by show othB n = true; unfold othB; simp [hd.1, hd.2]
      have d1 : decide ((48 : Int) ≤ (n : Int)) = true := decide_eq_true (by omega)
      have d2 : decide ((n : Int) ≤ 57) = true := decide_eq_true (by omega)
      clear hd
      go_enter Tryz.func118, Tryz.ntmps118
      go_wp2_with fail
      refine (letter_at _ _ hl _).mono ?_
      rintro e w1 ⟨rfl, rfl⟩
      go_wp2_with fail
      go_ret
      exact ⟨ret_bool HV.out.symm, rfl⟩
    · have HV : Hid (othB n = ((n == 45) || (n == 46) || (n == 95))) := by
        show othB n = ((n == 45) || (n == 46) || (n == 95))
        unfold othB
        have : (decide (48 ≤ n) && decide (n ≤ 57)) = false := by rw [Bool.and_eq_false_iff]; simp; omega
        rw [this]; rfl
      rw [HV.out]
      by_cases h1 : 48 ≤ n
      · have h2 : ¬ n ≤ 57 := fun h => hd ⟨h1, h⟩
        have d1 : decide ((48 : Int) ≤ (n : Int)) = true := decide_eq_true (by omega)
        have d2 : decide ((n : Int) ≤ 57) = false := decide_eq_false (by omega)
        by_cases h4 : n = 95
        · subst h4
          clear hd HV h1 h2
          go_enter Tryz.func118, Tryz.ntmps118
          go_wp2_with fail
          refine (letter_at _ _ hl _).mono ?_
          rintro e w1 ⟨rfl, rfl⟩
          go_wp2_with fail
          go_ret
          exact ⟨rfl, rfl⟩
        · have q1 : ((n : Int) == 45) = false := by rw [beq_eq_false_iff_ne]; omega
          have q2 : ((n : Int) == 46) = false := by rw [beq_eq_false_iff_ne]; omega
          have q3 : ((n : Int) == 95) = false := by rw [beq_eq_false_iff_ne]; omega
          have HF : Hid (((n == 45) || (n == 46) || (n == 95)) = false) := by
            show _ = false
            have e1 : (n == 45) = false := by rw [beq_eq_false_iff_ne]; omega
            have e2 : (n == 46) = false := by rw [beq_eq_false_iff_ne]; omega
            have e3 : (n == 95) = false := by rw [beq_eq_false_iff_ne]; omega
            rw [e1, e2, e3]; rfl
          clear hd HV h1 h2 h4
          go_enter Tryz.func118, Tryz.ntmps118
          go_wp2_with fail
          refine (letter_at _ _ hl _).mono ?_
          rintro e w1 ⟨rfl, rfl⟩
          go_wp2_with fail
          go_ret
          exact ⟨ret_bool HF.out.symm, rfl⟩
      · have d1 : decide ((48 : Int) ≤ (n : Int)) = false := decide_eq_false (by omega)
        by_cases h4 : n = 45
        · subst h4
          clear hd HV h1
          go_enter Tryz.func118, Tryz.ntmps118
          go_wp2_with fail
          refine (letter_at _ _ hl _).mono ?_
          rintro e w1 ⟨rfl, rfl⟩
          go_wp2_with fail
          go_ret
          exact ⟨rfl, rfl⟩
        · by_cases h5 : n = 46
          · subst h5
            clear hd HV h1 h4
            go_enter Tryz.func118, Tryz.ntmps118
            go_wp2_with fail
            refine (letter_at _ _ hl _).mono ?_
            rintro e w1 ⟨rfl, rfl⟩
            go_wp2_with fail
            go_ret
            exact ⟨rfl, rfl⟩
          · have q1 : ((n : Int) == 45) = false := by rw [beq_eq_false_iff_ne]; omega
            have q2 : ((n : Int) == 46) = false := by rw [beq_eq_false_iff_ne]; omega
            have q3 : ((n : Int) == 95) = false := by rw [beq_eq_false_iff_ne]; omega
            have HF : Hid (((n == 45) || (n == 46) || (n == 95)) = false) := by
              show _ = false
              have e1 : (n == 45) = false := by rw [beq_eq_false_iff_ne]; omega
              have e2 : (n == 46) = false := by rw [beq_eq_false_iff_ne]; omega
              have e3 : (n == 95) = false := by rw [beq_eq_false_iff_ne]; omega
              rw [e1, e2, e3]; rfl
            clear hd HV h1 h4 h5
            go_enter Tryz.func118, Tryz.ntmps118
            go_wp2_with fail
            refine (letter_at _ _ hl _).mono ?_
            rintro e w1 ⟨rfl, rfl⟩
            go_wp2_with fail
            go_ret
            exact ⟨ret_bool HF.out.symm, rfl⟩
theorem inside_at (n : Nat) (v : Bool) (h : insB n = v) (w : World) : Calls Tryz.prog 118 #[.int .u8 (n : Int)] w fun e w' => e = .returned (.bool v) ∧ w = w' := by
  subst h; exact inside_any n w
end Go.Proofs.YthlcdimofagmfaaGreatDoor
