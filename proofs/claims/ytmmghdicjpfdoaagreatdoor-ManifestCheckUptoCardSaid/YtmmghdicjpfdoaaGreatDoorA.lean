/-
  Versions: their numbers, comparison of numbers, Valid. No condition.
-/
import Derived.Test.YtmmghdicjpfdoaaGreatDoorProg
import Derived.WalkKit
import Derived.WalkSpells
import Derived.WalkLawsBesides
import Derived.Deep.RegionWith
import Derived.Lib.Hide
import Derived.Test.YtmmghdicjpfdoaaGreatDoorM2
namespace Go.Proofs.YtmmghdicjpfdoaaGreatDoor
open Go.RowKit
set_option linter.unusedSimpArgs false
set_option linter.unnecessarySimpa false
set_option linter.unusedVariables false
/-- a version, by value -/
abbrev vv (a b c : Int) : Value := .agg #[.int .i64 a, .int .i64 b, .int .i64 c]
theorem ret_bool {a b : Bool} (h : a = b) : Ending.returned (.bool a) = .returned (.bool b) := by rw [h]
theorem ret_int {k : IntKind} {a b : Int} (h : a = b) : Ending.returned (.int k a) = .returned (.int k b) := by rw [h]
set_option maxHeartbeats 1000000 in
theorem numbers_any (a b c : Int) (w : World) :
    Calls Tryz.prog 59 #[vv a b c] w fun e w' => e = .returned (vv a b c) ∧ Below w.heap.size w w' := by
  unfold vv
  go_enter Tryz.func59, Tryz.ntmps59
  go_wp2
  refine bodyPost_ret (v := _) (by simp [results, Tryz.results59, go_sem]) rfl ⟨rfl, ?_⟩
  exact ((Below.refl _ _).alloc (Nat.le_refl _) _).alloc (by simp) _
set_option maxHeartbeats 1000000 in
theorem cmp_any (a b : Int) (w : World) :
    Calls Tryz.prog 74 #[.int .i64 a, .int .i64 b] w fun e w' => e = .returned (.int .i64 (cmpI a b)) ∧ w = w' := by
  by_cases h1 : a < b
  · rw [cmp_lt h1]
    go_enter Tryz.func74, Tryz.ntmps74
    go_wp2
    go_ret
    exact ⟨rfl, rfl⟩
  · by_cases h2 : b < a
    · rw [cmp_gt h2]
      go_enter Tryz.func74, Tryz.ntmps74
      go_wp2
      go_ret
      exact ⟨rfl, rfl⟩
    · rw [cmp_eq (by omega)]
      go_enter Tryz.func74, Tryz.ntmps74
      go_wp2
      go_ret
      exact ⟨rfl, rfl⟩
theorem okN_yes {n : Int} (h0 : ¬ n < 0) (h1 : ¬ 9999 < n) : okN n = true := by unfold okN; simp; omega
theorem okN_lo {n : Int} (h0 : n < 0) : okN n = false := by unfold okN; simp; omega
theorem okN_hi {n : Int} (h0 : 9999 < n) : okN n = false := by unfold okN; simp; omega
set_option maxHeartbeats 2000000 in
theorem valid_any (a b c : Int) (w : World) :
    Calls Tryz.prog 34 #[vv a b c] w fun e w' => e = .returned (.bool (okV a b c)) ∧ Below w.heap.size w w' := by
  have i0 : ∀ w : World, (Instr.index 85 (.agg #[.int .i64 a, .int .i64 b, .int .i64 c]) (.int .i64 0)).run Tryz.prog w = .ok (.int .i64 a) w := fun _ => by kernel_rfl
  have i1 : ∀ w : World, (Instr.index 85 (.agg #[.int .i64 a, .int .i64 b, .int .i64 c]) (.int .i64 1)).run Tryz.prog w = .ok (.int .i64 b) w := fun _ => by kernel_rfl
  have i2 : ∀ w : World, (Instr.index 85 (.agg #[.int .i64 a, .int .i64 b, .int .i64 c]) (.int .i64 2)).run Tryz.prog w = .ok (.int .i64 c) w := fun _ => by kernel_rfl
  unfold vv
  by_cases l0 : a < 0
  · have HV : Hid (okV a b c = false) := by show okV a b c = _; unfold okV; rw [okN_lo l0]; simp
    go_enter Tryz.func34, Tryz.ntmps34
    go_wp2_with fail
    refine (numbers_any _ _ _ _).mono ?_
    rintro e w1 ⟨rfl, hb1⟩
    have HB := Lib.hid ((((Below.refl w.heap.size w).alloc (Nat.le_refl _) (.cells #[.int .i64 a, .int .i64 b, .int .i64 c] 23))).trans (hb1.mono (by simp)))
    clear hb1
    go_wp2_with fail
    refine wp_loop_rounds 1 ?_
    rw [rounds_succ]; go_wp2_with fail
    go_ret
    rw [HV.out]
    exact ⟨rfl, HB.out⟩
  · by_cases u0 : 9999 < a
    · have HV : Hid (okV a b c = false) := by show okV a b c = _; unfold okV; rw [okN_hi u0]; simp
      go_enter Tryz.func34, Tryz.ntmps34
      go_wp2_with fail
      refine (numbers_any _ _ _ _).mono ?_
      rintro e w1 ⟨rfl, hb1⟩
      have HB := Lib.hid ((((Below.refl w.heap.size w).alloc (Nat.le_refl _) (.cells #[.int .i64 a, .int .i64 b, .int .i64 c] 23))).trans (hb1.mono (by simp)))
      clear hb1
      go_wp2_with fail
      refine wp_loop_rounds 1 ?_
      rw [rounds_succ]; go_wp2_with fail
      go_ret
      rw [HV.out]
      exact ⟨rfl, HB.out⟩
    · skip
      by_cases l1 : b < 0
      · have HV : Hid (okV a b c = false) := by show okV a b c = _; unfold okV; rw [okN_lo l1, okN_yes l0 u0]; simp
        go_enter Tryz.func34, Tryz.ntmps34
        go_wp2_with fail
        refine (numbers_any _ _ _ _).mono ?_
        rintro e w1 ⟨rfl, hb1⟩
        have HB := Lib.hid ((((Below.refl w.heap.size w).alloc (Nat.le_refl _) (.cells #[.int .i64 a, .int .i64 b, .int .i64 c] 23))).trans (hb1.mono (by simp)))
        clear hb1
        go_wp2_with fail
        refine wp_loop_rounds 2 ?_
        rw [rounds_succ]; go_wp2_with fail
        rw [rounds_succ]; go_wp2_with fail
        go_ret
        rw [HV.out]
        exact ⟨rfl, HB.out⟩
      · by_cases u1 : 9999 < b
        · have HV : Hid (okV a b c = false) := by show okV a b c = _; unfold okV; rw [okN_hi u1, okN_yes l0 u0]; simp
          go_enter Tryz.func34, Tryz.ntmps34
          go_wp2_with fail
          refine (numbers_any _ _ _ _).mono ?_
          rintro e w1 ⟨rfl, hb1⟩
          have HB := Lib.hid ((((Below.refl w.heap.size w).alloc (Nat.le_refl _) (.cells #[.int .i64 a, .int .i64 b, .int .i64 c] 23))).trans (hb1.mono (by simp)))
          clear hb1
          go_wp2_with fail
          refine wp_loop_rounds 2 ?_
          rw [rounds_succ]; go_wp2_with fail
          rw [rounds_succ]; go_wp2_with fail
          go_ret
          rw [HV.out]
          exact ⟨rfl, HB.out⟩
        · skip
          by_cases l2 : c < 0
          · have HV : Hid (okV a b c = false) := by show okV a b c = _; unfold okV; rw [okN_lo l2, okN_yes l0 u0, okN_yes l1 u1]; simp
            go_enter Tryz.func34, Tryz.ntmps34
            go_wp2_with fail
            refine (numbers_any _ _ _ _).mono ?_
            rintro e w1 ⟨rfl, hb1⟩
            have HB := Lib.hid ((((Below.refl w.heap.size w).alloc (Nat.le_refl _) (.cells #[.int .i64 a, .int .i64 b, .int .i64 c] 23))).trans (hb1.mono (by simp)))
            clear hb1
            go_wp2_with fail
            refine wp_loop_rounds 3 ?_
            rw [rounds_succ]; go_wp2_with fail
            rw [rounds_succ]; go_wp2_with fail
            rw [rounds_succ]; go_wp2_with fail
            go_ret
            rw [HV.out]
            exact ⟨rfl, HB.out⟩
          · by_cases u2 : 9999 < c
            · have HV : Hid (okV a b c = false) := by show okV a b c = _; unfold okV; rw [okN_hi u2, okN_yes l0 u0, okN_yes l1 u1]; simp
              go_enter Tryz.func34, Tryz.ntmps34
              go_wp2_with fail
              refine (numbers_any _ _ _ _).mono ?_
              rintro e w1 ⟨rfl, hb1⟩
              have HB := Lib.hid ((((Below.refl w.heap.size w).alloc (Nat.le_refl _) (.cells #[.int .i64 a, .int .i64 b, .int .i64 c] 23))).trans (hb1.mono (by simp)))
              clear hb1
              go_wp2_with fail
              refine wp_loop_rounds 3 ?_
              rw [rounds_succ]; go_wp2_with fail
              rw [rounds_succ]; go_wp2_with fail
              rw [rounds_succ]; go_wp2_with fail
              go_ret
              rw [HV.out]
              exact ⟨rfl, HB.out⟩
            · have HV : Hid (okV a b c = true) := by show okV a b c = _; unfold okV; rw [okN_yes l0 u0, okN_yes l1 u1, okN_yes l2 u2]; rfl
              go_enter Tryz.func34, Tryz.ntmps34
              go_wp2_with fail
              refine (numbers_any _ _ _ _).mono ?_
              rintro e w1 ⟨rfl, hb1⟩
              have HB := Lib.hid ((((Below.refl w.heap.size w).alloc (Nat.le_refl _) (.cells #[.int .i64 a, .int .i64 b, .int .i64 c] 23))).trans (hb1.mono (by simp)))
              clear hb1
              go_wp2_with fail
              refine wp_loop_rounds 4 ?_
              rw [rounds_succ]; go_wp2_with fail
              rw [rounds_succ]; go_wp2_with fail
              rw [rounds_succ]; go_wp2_with fail
              rw [rounds_succ]; go_wp2_with fail
              go_ret
              rw [HV.out]
              exact ⟨rfl, HB.out⟩
end Go.Proofs.YtmmghdicjpfdoaaGreatDoor
