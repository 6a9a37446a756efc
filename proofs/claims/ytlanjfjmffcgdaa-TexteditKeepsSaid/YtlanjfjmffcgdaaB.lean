/-
  check and Check of the program; inside, ordered, Check and Small of the specification. No condition but that the slices read as lists.
-/
import Derived.Test.YtlanjfjmffcgdaaA
namespace Go.Proofs.Ytlanjfjmffcgdaa
open Go.RowKit
set_option linter.unusedSimpArgs false
set_option linter.unusedVariables false
set_option maxRecDepth 100000 in
set_option maxHeartbeats 4000000 in
theorem check_any (A : Option Addr) (c : Nat) (n : Int) (xs : List Ed) (hx : xs.length ≤ 1000000) (w : World) (h : Re w w.heap.size A xs) :
    Calls Try.prog 28 #[.int .i64 n, .slice A xs.length c] w fun e w' => e = .returned (.int .i64 (chkL n xs)) ∧ Below w.heap.size w w' := by
  have HR : Hid (insA n (xs.drop 0) = insA n xs) := by show insA n (xs.drop 0) = insA n xs; simp
  have HR2 : Hid (ordB (xs.drop 0) = ordB xs) := by show ordB (xs.drop 0) = ordB xs; simp
  have HC1 : Hid (insA n xs = false → (1 : Int) = chkL n xs) := Lib.hid fun e => by unfold chkL; rw [if_pos e]
  have HC2 : Hid (insA n xs = true → ordB xs = false → (6 : Int) = chkL n xs) := Lib.hid fun e e2 => by unfold chkL; rw [if_neg (by simp [e]), if_pos e2]
  have HC3 : Hid (insA n xs = true → ordB xs = true → (0 : Int) = chkL n xs) := Lib.hid fun e e2 => by unfold chkL; rw [if_neg (by simp [e]), if_neg (by simp [e2])]
  generalize insA n xs = R at *
  generalize ordB xs = R2 at *
  generalize chkL n xs = C at *
  have H := Lib.hid h
  clear h
  go_enter Try.func28, Try.ntmps28
  go_wp2_with fail
  go_loopw [10] (fun i wr => ∃ k : Nat, i = .int .i64 (k : Int) ∧ k ≤ xs.length ∧ Hid (insA n (xs.drop k) = R) ∧ Hid (Below w.heap.size w wr)) (fun i _ => xs.length - (intOf i).toNat)
  case atStart => exact ⟨0, rfl, by omega, HR, Lib.hid (Below.refl _ _)⟩
  case round =>
    obtain ⟨k, rfl, hk, HS, HB⟩ := hrel
    by_cases hlt : k < xs.length
    · obtain ⟨ad, rfl, hl, c0, c1, c2⟩ := (H.out.below HB.out).at_ k hlt
      rw [insA_at hlt] at HS
      have H0 := Lib.hid (@insB_0 n xs[k])
      have H1 := Lib.hid (@insB_1 n xs[k])
      have H2 := Lib.hid (@insB_2 n xs[k])
      have H3 := Lib.hid (@insB_3 n xs[k])
      generalize insB n xs[k] = V at *
      generalize xs[k] = x at *
      obtain ⟨f, t, s⟩ := x
      have HB1 := Lib.hid (HB.out.alloc HB.out.size (.cells #[.int .i64 f, .int .i64 t, .string s] 35))
      clear HB
      by_cases h0 : f < 0
      · have q0 : decide (f < 0) = true := decide_eq_true h0
        have HV := Lib.hid (H0.out h0)
        have HX : Hid (1 = C) := Lib.hid (HC1.out (by have := HS.out; rw [HV.out, Bool.false_and] at this; exact this.symm))
        clear h0 H0 H1 H2 H3 HS
        go_wp2_with fail
        go_ret
        exact ⟨ret_int HX.out, HB1.out⟩
      have q0 : decide (f < 0) = false := decide_eq_false h0
      by_cases h1 : t < f
      · have q1 : decide (t < f) = true := decide_eq_true h1
        have HV := Lib.hid (H1.out h1)
        have HX : Hid (1 = C) := Lib.hid (HC1.out (by have := HS.out; rw [HV.out, Bool.false_and] at this; exact this.symm))
        clear h0 h1 H0 H1 H2 H3 HS
        go_wp2_with fail
        go_ret
        exact ⟨ret_int HX.out, HB1.out⟩
      have q1 : decide (t < f) = false := decide_eq_false h1
      by_cases h2 : n < t
      · have q2 : decide (n < t) = true := decide_eq_true h2
        have HV := Lib.hid (H2.out h2)
        have HX : Hid (1 = C) := Lib.hid (HC1.out (by have := HS.out; rw [HV.out, Bool.false_and] at this; exact this.symm))
        clear h0 h1 h2 H0 H1 H2 H3 HS
        go_wp2_with fail
        go_ret
        exact ⟨ret_int HX.out, HB1.out⟩
      have q2 : decide (n < t) = false := decide_eq_false h2
      have HV := Lib.hid (H3.out h0 h1 h2)
      have HS2 : Hid (insA n (xs.drop (k + 1)) = R) := Lib.hid (by have := HS.out; rw [HV.out, Bool.true_and] at this; exact this)
      clear h0 h1 h2 H0 H1 H2 H3 HS HV
      go_wp2_with fail
      go_roundw
      case rel => exact ⟨k + 1, by go_num, by omega, HS2, HB1⟩
      case measure => simp [intOf]; omega
    · obtain rfl : k = xs.length := by omega
      have HI : Hid (R = true) := Lib.hid (by rw [← HS.out]; exact insA_end (Nat.le_refl _))
      clear HS HC1
      go_wp2_with fail
      go_loopw [7] (fun i wr => ∃ q j : Nat, i = .int .i64 (q : Int) ∧ Hid (q = j + 1) ∧ (j + 1 ≤ xs.length ∨ j = 0) ∧ Hid (ordB (xs.drop j) = R2) ∧ Hid (Below w.heap.size w wr)) (fun i _ => xs.length - (intOf i).toNat)
      case atStart => exact ⟨1, 0, rfl, Lib.hid rfl, by omega, HR2, HB⟩
      case round =>
        obtain ⟨q, j, rfl, HQ, hj, HS, HB⟩ := hrel
        by_cases hlt2 : q < xs.length
        · have hlt3 : j + 1 < xs.length := by have := HQ.out; omega
          obtain ⟨ad, rfl, hl, c0, c1, c2⟩ := (H.out.below HB.out).at_ (j + 1) hlt3
          obtain ⟨ad', e, hl', d0, d1, d2⟩ := (H.out.below HB.out).at_ j (by omega)
          injection e with e
          subst e
          rw [ordB_at hlt3] at HS
          generalize xs[j] = x at *
          generalize xs[j + 1] = y at *
          rw [← HQ.out] at c0
          have q5 : (1 : Int) ≤ (q : Int) := by have := HQ.out; omega
          have q6 : ((q : Int) - 1).toNat = j := by have := HQ.out; omega
          have q7 : (q : Int) - 1 < (xs.length : Int) := by omega
          have q8 : (q : Int) < (xs.length : Int) := by omega
          clear hlt3 c1 c2 d0 d2
          by_cases h0 : y.1 < x.2.1
          · have q1 : decide (y.1 < x.2.1) = true := decide_eq_true h0
            have HX : Hid (6 = C) := Lib.hid (HC2.out HI.out (by have := HS.out; rw [decide_eq_false (p := x.2.1 ≤ y.1) (by omega), Bool.false_and] at this; exact this.symm))
            clear h0 HS hj
            go_wp2_with fail
            go_quiet (fail)
            have B1 := Lib.hid (bdrewN HB.out nq)
            generalize wr.drewN nq = w1 at *
            go_wp2_with fail
            go_ret
            exact ⟨ret_int HX.out, B1.out⟩
          · have q1 : decide (y.1 < x.2.1) = false := decide_eq_false h0
            have HS2 : Hid (ordB (xs.drop (j + 1)) = R2) := Lib.hid (by have := HS.out; rw [decide_eq_true (p := x.2.1 ≤ y.1) (by omega), Bool.true_and] at this; exact this)
            clear h0 HS hj
            go_wp2_with fail
            go_quiet (fail)
            have B1 := Lib.hid (bdrewN HB.out nq)
            generalize wr.drewN nq = w1 at *
            go_wp2_with fail
            go_roundw
            case rel => exact ⟨q + 1, j + 1, by go_num, Lib.hid (by rw [HQ.out]), by have := HQ.out; omega, HS2, B1⟩
            case measure => simp [intOf]; omega
        · have HO : Hid (R2 = true) := Lib.hid (by rw [← HS.out]; exact ordB_end (by have := HQ.out; omega))
          have HX : Hid (0 = C) := Lib.hid (HC3.out HI.out HO.out)
          clear HS hj
          go_wp2_with fail
          go_ret
          exact ⟨ret_int HX.out, HB.out⟩
