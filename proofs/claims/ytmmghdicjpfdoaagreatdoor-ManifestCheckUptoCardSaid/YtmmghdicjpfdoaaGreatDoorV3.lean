/-
  The specification of versions: valid, order. No condition.
-/
import Derived.Test.YtmmghdicjpfdoaaGreatDoorV2
namespace Go.Proofs.YtmmghdicjpfdoaaGreatDoor
open Go.RowKit
set_option linter.unusedSimpArgs false
set_option linter.unnecessarySimpa false
set_option linter.unusedVariables false
set_option maxHeartbeats 1000000 in
theorem number_any (n : Int) (w : World) : Calls Tryz.prog 60 #[.int .i64 n] w fun e w' => e = .returned (.bool (okN n)) ∧ w = w' := by
  by_cases l : n < 0
  · have HV := Lib.hid (okN_lo l)
    have l' : ¬ 0 ≤ n := by omega
    go_enter Tryz.func60, Tryz.ntmps60
    go_wp2
    go_ret
    exact ⟨by rw [HV.out]; rfl, rfl⟩
  · have l' : 0 ≤ n := by omega
    by_cases u : 9999 < n
    · have HV := Lib.hid (okN_hi u)
      have u' : ¬ n ≤ 9999 := by omega
      go_enter Tryz.func60, Tryz.ntmps60
      go_wp2
      go_ret
      exact ⟨by rw [HV.out]; rfl, rfl⟩
    · have HV := Lib.hid (okN_yes l u)
      have u' : n ≤ 9999 := by omega
      go_enter Tryz.func60, Tryz.ntmps60
      go_wp2
      go_ret
      exact ⟨by rw [HV.out]; rfl, rfl⟩
theorem number_at (n : Int) (v : Bool) (h : okN n = v) (w : World) : Calls Tryz.prog 60 #[.int .i64 n] w fun e w' => e = .returned (.bool v) ∧ w = w' := by
  have := number_any n w; rw [h] at this; exact this
set_option maxHeartbeats 1000000 in
theorem one_any (a b : Int) (w : World) : Calls Tryz.prog 75 #[.int .i64 a, .int .i64 b] w fun e w' => e = .returned (.int .i64 (cmpI a b)) ∧ w = w' := by
  by_cases h1 : a < b
  · rw [cmp_lt h1]
    go_enter Tryz.func75, Tryz.ntmps75
    go_wp2
    go_ret
    exact ⟨rfl, rfl⟩
  · by_cases h2 : b < a
    · rw [cmp_gt h2]
      go_enter Tryz.func75, Tryz.ntmps75
      go_wp2
      go_ret
      exact ⟨rfl, rfl⟩
    · rw [cmp_eq (by omega)]
      go_enter Tryz.func75, Tryz.ntmps75
      go_wp2
      go_ret
      exact ⟨rfl, rfl⟩
set_option maxRecDepth 100000 in
set_option maxHeartbeats 2000000 in
theorem rvalid_any (a b c : Int) (w : World) : Calls Tryz.prog 36 #[vv a b c] w fun e w' => e = .returned (.bool (okV a b c)) ∧ Below w.heap.size w w' := by
  unfold vv
  cases ha : okN a
  · have Ha := Lib.hid ha
    have HV : Hid (okV a b c = false) := by show okV a b c = _; unfold okV; rw [ha]; rfl
    clear ha
    go_enter Tryz.func36, Tryz.ntmps36
    go_wp2_with fail
    refine (number_at a false Ha.out _).mono ?_
    rintro e w1 ⟨rfl, rfl⟩
    go_wp2_with fail
    go_ret
    exact ⟨by rw [HV.out]; rfl, (Below.refl _ _).alloc (Nat.le_refl _) _⟩
  · have Ha := Lib.hid ha
    cases hb : okN b
    · have Hb := Lib.hid hb
      have HV : Hid (okV a b c = false) := by show okV a b c = _; unfold okV; rw [ha, hb]; rfl
      clear ha hb
      go_enter Tryz.func36, Tryz.ntmps36
      go_wp2_with fail
      refine (number_at a true Ha.out _).mono ?_
      rintro e w1 ⟨rfl, rfl⟩
      go_wp2_with fail
      refine (number_at b false Hb.out _).mono ?_
      rintro e w1 ⟨rfl, rfl⟩
      go_wp2_with fail
      go_ret
      exact ⟨by rw [HV.out]; rfl, (Below.refl _ _).alloc (Nat.le_refl _) _⟩
    · have Hb := Lib.hid hb
      cases hc : okN c
      · have Hc := Lib.hid hc
        have HV : Hid (okV a b c = false) := by show okV a b c = _; unfold okV; rw [ha, hb, hc]; rfl
        clear ha hb hc
        go_enter Tryz.func36, Tryz.ntmps36
        go_wp2_with fail
        refine (number_at a true Ha.out _).mono ?_
        rintro e w1 ⟨rfl, rfl⟩
        go_wp2_with fail
        refine (number_at b true Hb.out _).mono ?_
        rintro e w1 ⟨rfl, rfl⟩
        go_wp2_with fail
        refine (number_at c false Hc.out _).mono ?_
        rintro e w1 ⟨rfl, rfl⟩
        go_wp2_with fail
        go_ret
        exact ⟨by rw [HV.out]; rfl, (Below.refl _ _).alloc (Nat.le_refl _) _⟩
      · have Hc := Lib.hid hc
        have HV : Hid (okV a b c = true) := by show okV a b c = _; unfold okV; rw [ha, hb, hc]; rfl
        clear ha hb hc
        go_enter Tryz.func36, Tryz.ntmps36
        go_wp2_with fail
        refine (number_at a true Ha.out _).mono ?_
        rintro e w1 ⟨rfl, rfl⟩
        go_wp2_with fail
        refine (number_at b true Hb.out _).mono ?_
        rintro e w1 ⟨rfl, rfl⟩
        go_wp2_with fail
        refine (number_at c true Hc.out _).mono ?_
        rintro e w1 ⟨rfl, rfl⟩
        go_wp2_with fail
        go_ret
        exact ⟨by rw [HV.out]; rfl, (Below.refl _ _).alloc (Nat.le_refl _) _⟩
theorem rvalid_at (a b c : Int) (v : Bool) (h : okV a b c = v) (w : World) :
    Calls Tryz.prog 36 #[vv a b c] w fun e w' => e = .returned (.bool v) ∧ Below w.heap.size w w' := by
  have := rvalid_any a b c w; rw [h] at this; exact this
set_option maxRecDepth 100000 in
set_option maxHeartbeats 2000000 in
theorem rcompare_any (a b c a' b' c' : Int) (w : World) :
    Calls Tryz.prog 56 #[vv a b c, vv a' b' c'] w fun e w' => e = .returned (.int .i64 (cmp3 a b c a' b' c')) ∧ Below w.heap.size w w' := by
  have hB : Below w.heap.size w ((w.alloc (vblk a b c)).alloc (vblk a' b' c')) := ((Below.refl _ _).alloc (Nat.le_refl _) _).alloc (by simp) _
  unfold vblk at hB
  have HB := Lib.hid hB
  clear hB
  unfold vv
  by_cases h0 : a = a'
  · have f0 : (a != a') = false := by simp [h0]
    have E0 : cmpI a a' = 0 := cmp_eq h0
    by_cases h1 : b = b'
    · have f1 : (b != b') = false := by simp [h1]
      have E1 : cmpI b b' = 0 := cmp_eq h1
      have HV : Hid (cmp3 a b c a' b' c' = cmpI c c') := by show cmp3 a b c a' b' c' = _; unfold cmp3; rw [if_neg (by simp [E0]), if_neg (by simp [E1])]
      clear h0 h1 E0 E1
      go_enter Tryz.func56, Tryz.ntmps56
      go_wp2_with fail
      refine (one_any _ _ _).mono ?_
      rintro e w1 ⟨rfl, rfl⟩
      go_wp2_with fail
      go_ret
      exact ⟨by rw [HV.out]; rfl, HB.out⟩
    · have f1 : (b != b') = true := by simp [h1]
      have E1 : cmpI b b' ≠ 0 := by rcases cmpI_cases b b' with ⟨_, e⟩ | ⟨h, e⟩ | ⟨_, e⟩ <;> omega
      have HV : Hid (cmp3 a b c a' b' c' = cmpI b b') := by show cmp3 a b c a' b' c' = _; unfold cmp3; rw [if_neg (by simp [E0]), if_pos E1]
      clear h0 h1 E0 E1
      go_enter Tryz.func56, Tryz.ntmps56
      go_wp2_with fail
      refine (one_any _ _ _).mono ?_
      rintro e w1 ⟨rfl, rfl⟩
      go_wp2_with fail
      go_ret
      exact ⟨by rw [HV.out]; rfl, HB.out⟩
  · have f0 : (a != a') = true := by simp [h0]
    have E0 : cmpI a a' ≠ 0 := by rcases cmpI_cases a a' with ⟨_, e⟩ | ⟨h, e⟩ | ⟨_, e⟩ <;> omega
    have HV : Hid (cmp3 a b c a' b' c' = cmpI a a') := by show cmp3 a b c a' b' c' = _; unfold cmp3; rw [if_pos E0]
    clear h0 E0
    go_enter Tryz.func56, Tryz.ntmps56
    go_wp2_with fail
    refine (one_any _ _ _).mono ?_
    rintro e w1 ⟨rfl, rfl⟩
    go_wp2_with fail
    go_ret
    exact ⟨by rw [HV.out]; rfl, HB.out⟩
theorem rcompare_at {a b c a' b' c' : Int} (n : Int) (h : cmp3 a b c a' b' c' = n) (w : World) :
    Calls Tryz.prog 56 #[vv a b c, vv a' b' c'] w fun e w' => e = .returned (.int .i64 n) ∧ Below w.heap.size w w' := by
  have := rcompare_any a b c a' b' c' w; rw [h] at this; exact this
end Go.Proofs.YtmmghdicjpfdoaaGreatDoor
