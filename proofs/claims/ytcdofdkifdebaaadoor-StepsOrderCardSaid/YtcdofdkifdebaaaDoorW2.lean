/-
  Compare is a total order: the law StepsOrder. Conditions: the slices read as lists, and the table of powers of ten holds what it holds.
-/
import Derived.Test.YtcdofdkifdebaaaDoorX1
import Derived.Test.YtcdofdkifdebaaaDoorM1
namespace Go.Proofs.YtcdofdkifdebaaaDoor
open Go.RowKit
set_option linter.unusedSimpArgs false
set_option linter.unusedVariables false
set_option maxRecDepth 100000 in
set_option maxHeartbeats 8000000 in
theorem law_order (A A' A2 : Option Addr) (c c' c2 : Nat) (xs ys zs : List St) (hx : xs.length ≤ 9223372036854775807) (hy : ys.length ≤ 9223372036854775807) (hz : zs.length ≤ 9223372036854775807) (w : World) (h : Rd w w.heap.size A xs) (h' : Rd w w.heap.size A' ys) (h'' : Rd w w.heap.size A2 zs) (hT : P10 w) :
    Calls Tryd.prog 9 #[.slice A xs.length c, .slice A' ys.length c', .slice A2 zs.length c2] w fun e w' => e = .returned (.bool true) ∧ Below w.heap.size w w' := by
  have CE : Hid (∀ W, Below w.heap.size w W → Calls Tryd.prog 12 #[] W fun e w' => e = .returned (.bool true) ∧ Below W.heap.size W w') := Lib.hid fun W h => example_any W (hT.below h)
  by_cases h1 : 20 < xs.length
  · have q1 : decide ((20 : Int) < (xs.length : Int)) = true := decide_eq_true (by omega)
    clear h h' h'' hT
    go_enter Tryd.func9, Tryd.ntmps9
    go_wp2_with fail
    refine (CE.out _ (Below.refl _ _)).mono ?_
    rintro e w1 ⟨rfl, hb1⟩
    go_wp2_with fail
    go_ret
    exact ⟨rfl, hb1⟩
  have qh1 : decide ((20 : Int) < (xs.length : Int)) = false := decide_eq_false (by omega)
  by_cases h2 : 20 < ys.length
  · have q1 : decide ((20 : Int) < (ys.length : Int)) = true := decide_eq_true (by omega)
    clear h h' h'' hT
    go_enter Tryd.func9, Tryd.ntmps9
    go_wp2_with fail
    refine (CE.out _ (Below.refl _ _)).mono ?_
    rintro e w1 ⟨rfl, hb1⟩
    go_wp2_with fail
    go_ret
    exact ⟨rfl, hb1⟩
  have qh2 : decide ((20 : Int) < (ys.length : Int)) = false := decide_eq_false (by omega)
  by_cases h3 : 20 < zs.length
  · have q1 : decide ((20 : Int) < (zs.length : Int)) = true := decide_eq_true (by omega)
    clear h h' h'' hT
    go_enter Tryd.func9, Tryd.ntmps9
    go_wp2_with fail
    refine (CE.out _ (Below.refl _ _)).mono ?_
    rintro e w1 ⟨rfl, hb1⟩
    go_wp2_with fail
    go_ret
    exact ⟨rfl, hb1⟩
  have qh3 : decide ((20 : Int) < (zs.length : Int)) = false := decide_eq_false (by omega)
  have C1 : Hid (∀ W, Below w.heap.size w W → Calls Tryd.prog 20 #[.slice A xs.length c, .slice A' ys.length c'] W fun e w' => e = .returned (.int .i64 (cmpL xs ys)) ∧ Below W.heap.size W w') := Lib.hid fun W k1 => compare_any A A' c c' xs ys (by omega) (by omega) W (rd_keep h k1) (rd_keep h' k1)
  have C2 : Hid (∀ W, Below w.heap.size w W → Calls Tryd.prog 20 #[.slice A' ys.length c', .slice A2 zs.length c2] W fun e w' => e = .returned (.int .i64 (cmpL ys zs)) ∧ Below W.heap.size W w') := Lib.hid fun W k1 => compare_any A' A2 c' c2 ys zs (by omega) (by omega) W (rd_keep h' k1) (rd_keep h'' k1)
  have C3 : Hid (∀ W, Below w.heap.size w W → Calls Tryd.prog 20 #[.slice A xs.length c, .slice A2 zs.length c2] W fun e w' => e = .returned (.int .i64 (cmpL xs zs)) ∧ Below W.heap.size W w') := Lib.hid fun W k1 => compare_any A A2 c c2 xs zs (by omega) (by omega) W (rd_keep h k1) (rd_keep h'' k1)
  have C4 : Hid (∀ W, Below w.heap.size w W → Calls Tryd.prog 20 #[.slice A' ys.length c', .slice A xs.length c] W fun e w' => e = .returned (.int .i64 (cmpL ys xs)) ∧ Below W.heap.size W w') := Lib.hid fun W k1 => compare_any A' A c' c ys xs (by omega) (by omega) W (rd_keep h' k1) (rd_keep h k1)
  rw [tw_l.neg xs ys] at C4
  have HTR := Lib.hid (tw_l.tr xs ys zs)
  have hlo := tw_l.lo xs ys
  have H0 := Lib.hid (cmpL_0 xs ys)
  have HP := Lib.hid (preB_iff xs ys)
  have HX := Lib.hid h
  have HY := Lib.hid h'
  have B0 := Lib.hid (Below.refl w.heap.size w)
  clear h h' h'' hT
  generalize hn : cmpL xs ys = n at *
  generalize cmpL ys zs = m at *
  generalize cmpL xs zs = k at *
  have HN := Lib.hid hn
  clear hn
  by_cases hlen : xs.length = ys.length
  · have ql : ((xs.length : Int) == (ys.length : Int)) = true := by simp; omega
    have HR : Hid (preB (xs.drop 0) (ys.drop 0) = (n == 0)) := Lib.hid (by
      have := HP.out (by omega)
      rw [List.take_of_length_le (by omega), HN.out] at this
      simpa using this)
    have hle1 : xs.length ≤ ys.length := by omega
    have hle2 : ys.length ≤ xs.length := by omega
    clear hlen
    go_enter Tryd.func9, Tryd.ntmps9
    go_wp2_with fail
    refine (C1.out _ B0.out).mono ?_
    rintro e w1 ⟨rfl, hb1⟩
    have B1 := Lib.hid (B0.out.trans (hb1.mono B0.out.size))
    clear hb1 B0
    go_wp2_with fail
    refine (C2.out _ B1.out).mono ?_
    rintro e w2 ⟨rfl, hb2⟩
    have B2 := Lib.hid (B1.out.trans (hb2.mono B1.out.size))
    clear hb2 B1
    go_wp2_with fail
    refine (C3.out _ B2.out).mono ?_
    rintro e w3 ⟨rfl, hb3⟩
    have B3 := Lib.hid (B2.out.trans (hb3.mono B2.out.size))
    clear hb3 B2
    go_wp2_with fail
    go_loopw [10, 11] (fun s i wr => ∃ (j : Nat) (b : Bool), s = .bool b ∧ i = .int .i64 (j : Int) ∧ j ≤ xs.length ∧ Hid ((b && preB (xs.drop j) (ys.drop j)) = (n == 0)) ∧ Hid (Below w.heap.size w wr)) (fun s i _ => (match s with | .bool true => 1 | _ => 0) + (xs.length - (intOf i).toNat))
    case atStart => exact ⟨0, true, rfl, rfl, by omega, Lib.hid (by rw [Bool.true_and]; exact HR.out), B3⟩
    case round =>
      clear HR B3
      obtain ⟨j, b, rfl, rfl, hj, HS, B9⟩ := hrel
      cases b with
      | false =>
        have hn0 : n ≠ 0 := by
          have := HS.out; rw [Bool.false_and] at this; exact beq_eq_false_iff_ne.1 this.symm
        clear HS
        have hcs : (0 < n) ∨ (n < 0 ∧ 0 < m) ∨ (n < 0 ∧ m ≤ 0) := by omega
        rcases hcs with hm1 | hm2 | hm3
        · have u1 : decide (0 < n) = true := decide_eq_true (by omega)
          have z0 : (n == 0) = false := beq_eq_false_iff_ne.2 (by omega)
          have z1 : decide (n < -1) = false := decide_eq_false (by omega)
          have z2 : decide ((1 : Int) < n) = false := decide_eq_false (by omega)
          have z3 : IntKind.i64.wrap (-n) = -n := by simp [IntKind.wrap, IntKind.bits, IntKind.signed]; omega
          clear hm1 hn0
          go_wp2_with fail
          refine (C4.out _ B9.out).mono ?_
          rintro e wa ⟨rfl, hba⟩
          have Ba := Lib.hid (B9.out.trans (hba.mono B9.out.size))
          clear hba
          go_wp2_with fail
          refine (CE.out _ Ba.out).mono ?_
          rintro e wb ⟨rfl, hbb⟩
          have Bb := Lib.hid (Ba.out.trans (hbb.mono Ba.out.size))
          clear hbb
          go_wp2_with fail
          go_ret
          exact ⟨rfl, Bb.out⟩
        · have u1 : decide (0 < n) = false := decide_eq_false (by omega)
          have u2 : decide (0 < m) = true := decide_eq_true (by omega)
          have z0 : (n == 0) = false := beq_eq_false_iff_ne.2 (by omega)
          have z1 : decide (n < -1) = false := decide_eq_false (by omega)
          have z2 : decide ((1 : Int) < n) = false := decide_eq_false (by omega)
          have z3 : IntKind.i64.wrap (-n) = -n := by simp [IntKind.wrap, IntKind.bits, IntKind.signed]; omega
          clear hm2 hn0
          go_wp2_with fail
          refine (C4.out _ B9.out).mono ?_
          rintro e wa ⟨rfl, hba⟩
          have Ba := Lib.hid (B9.out.trans (hba.mono B9.out.size))
          clear hba
          go_wp2_with fail
          refine (CE.out _ Ba.out).mono ?_
          rintro e wb ⟨rfl, hbb⟩
          have Bb := Lib.hid (Ba.out.trans (hbb.mono Ba.out.size))
          clear hbb
          go_wp2_with fail
          go_ret
          exact ⟨rfl, Bb.out⟩
        · have u1 : decide (0 < n) = false := decide_eq_false (by omega)
          have u2 : decide (0 < m) = false := decide_eq_false (by omega)
          have u3 : decide (k ≤ 0) = true := decide_eq_true (HTR.out (by omega) (by omega)).1
          have u4 : (n == 0) = false := beq_eq_false_iff_ne.2 (by omega)
          have u6 : decide (k < 0) = true := decide_eq_true ((HTR.out (by omega) (by omega)).2 (by omega))
          have z0 : (n == 0) = false := beq_eq_false_iff_ne.2 (by omega)
          have z1 : decide (n < -1) = false := decide_eq_false (by omega)
          have z2 : decide ((1 : Int) < n) = false := decide_eq_false (by omega)
          have z3 : IntKind.i64.wrap (-n) = -n := by simp [IntKind.wrap, IntKind.bits, IntKind.signed]; omega
          clear hm3 hn0
          go_wp2_with fail
          refine (C4.out _ B9.out).mono ?_
          rintro e wa ⟨rfl, hba⟩
          have Ba := Lib.hid (B9.out.trans (hba.mono B9.out.size))
          clear hba
          go_wp2_with fail
          refine (CE.out _ Ba.out).mono ?_
          rintro e wb ⟨rfl, hbb⟩
          have Bb := Lib.hid (Ba.out.trans (hbb.mono Ba.out.size))
          clear hbb
          go_wp2_with fail
          go_ret
          exact ⟨rfl, Bb.out⟩
      | true =>
        by_cases hlt : j < xs.length
        · have hlt' : j < ys.length := by omega
          obtain ⟨ad, rfl, hl, c0, c1⟩ := (HX.out.below B9.out).at_ j hlt
          obtain ⟨ad', rfl, hl', d0, d1⟩ := (HY.out.below B9.out).at_ j hlt'
          have q5 : decide (j < xs.length) = true := decide_eq_true hlt
          have q6 : decide (j < ys.length) = true := decide_eq_true hlt'
          have HS2 : Hid ((eqX xs[j] ys[j] && preB (xs.drop (j + 1)) (ys.drop (j + 1))) = (n == 0)) := Lib.hid (by
            have := HS.out; rw [Bool.true_and, preB_at hlt hlt'] at this; exact this)
          have E : ∀ w, (Op.equalIn 10000 37 (.agg #[.string xs[j].1, .int .i64 xs[j].2]) (.agg #[.string ys[j].1, .int .i64 ys[j].2])).run Tryd.prog w = .ok (eqX xs[j] ys[j]) w := fun w => by rw [eqSt]; rfl
          generalize eqX xs[j] ys[j] = q at *
          clear HS
          go_wp2_with fail
          go_quiet (fail)
          go_wp2_with fail
          go_roundw
          case rel => exact ⟨j + 1, q, rfl, by go_num, by omega, HS2, Lib.hid (bdrewN B9.out _)⟩
          case measure => cases q <;> simp [intOf] <;> omega
        · obtain rfl : j = xs.length := by omega
          have hn0 : n = 0 := by
            have := HS.out; rw [Bool.true_and, preB_end (by omega)] at this; exact beq_iff_eq.1 this.symm
          have q5 : decide (xs.length < xs.length) = false := decide_eq_false (by omega)
          clear HS
          have hcs : (0 < m) ∨ (m = 0) ∨ (m < 0) := by omega
          rcases hcs with hm1 | hm2 | hm3
          · have u1 : decide (0 < n) = false := decide_eq_false (by omega)
            have u2 : decide (0 < m) = true := decide_eq_true (by omega)
            have z0 : (n == 0) = true := beq_iff_eq.2 (by omega)
            have z1 : decide (n < -1) = false := decide_eq_false (by omega)
            have z2 : decide ((1 : Int) < n) = false := decide_eq_false (by omega)
            have z3 : IntKind.i64.wrap (-n) = -n := by simp [IntKind.wrap, IntKind.bits, IntKind.signed]; omega
            clear hm1 hn0
            go_wp2_with fail
            refine (C4.out _ B9.out).mono ?_
            rintro e wa ⟨rfl, hba⟩
            have Ba := Lib.hid (B9.out.trans (hba.mono B9.out.size))
            clear hba
            go_wp2_with fail
            refine (CE.out _ Ba.out).mono ?_
            rintro e wb ⟨rfl, hbb⟩
            have Bb := Lib.hid (Ba.out.trans (hbb.mono Ba.out.size))
            clear hbb
            go_wp2_with fail
            go_ret
            exact ⟨rfl, Bb.out⟩
          · have u1 : decide (0 < n) = false := decide_eq_false (by omega)
            have u2 : decide (0 < m) = false := decide_eq_false (by omega)
            have u3 : decide (k ≤ 0) = true := decide_eq_true (HTR.out (by omega) (by omega)).1
            have u4 : (n == 0) = true := beq_iff_eq.2 (by omega)
            have u5 : (m == 0) = true := beq_iff_eq.2 (by omega)
            have z0 : (n == 0) = true := beq_iff_eq.2 (by omega)
            have z1 : decide (n < -1) = false := decide_eq_false (by omega)
            have z2 : decide ((1 : Int) < n) = false := decide_eq_false (by omega)
            have z3 : IntKind.i64.wrap (-n) = -n := by simp [IntKind.wrap, IntKind.bits, IntKind.signed]; omega
            clear hm2 hn0
            go_wp2_with fail
            refine (C4.out _ B9.out).mono ?_
            rintro e wa ⟨rfl, hba⟩
            have Ba := Lib.hid (B9.out.trans (hba.mono B9.out.size))
            clear hba
            go_wp2_with fail
            refine (CE.out _ Ba.out).mono ?_
            rintro e wb ⟨rfl, hbb⟩
            have Bb := Lib.hid (Ba.out.trans (hbb.mono Ba.out.size))
            clear hbb
            go_wp2_with fail
            go_ret
            exact ⟨rfl, Bb.out⟩
          · have u1 : decide (0 < n) = false := decide_eq_false (by omega)
            have u2 : decide (0 < m) = false := decide_eq_false (by omega)
            have u3 : decide (k ≤ 0) = true := decide_eq_true (HTR.out (by omega) (by omega)).1
            have u4 : (n == 0) = true := beq_iff_eq.2 (by omega)
            have u5 : (m == 0) = false := beq_eq_false_iff_ne.2 (by omega)
            have u6 : decide (k < 0) = true := decide_eq_true ((HTR.out (by omega) (by omega)).2 (by omega))
            have z0 : (n == 0) = true := beq_iff_eq.2 (by omega)
            have z1 : decide (n < -1) = false := decide_eq_false (by omega)
            have z2 : decide ((1 : Int) < n) = false := decide_eq_false (by omega)
            have z3 : IntKind.i64.wrap (-n) = -n := by simp [IntKind.wrap, IntKind.bits, IntKind.signed]; omega
            clear hm3 hn0
            go_wp2_with fail
            refine (C4.out _ B9.out).mono ?_
            rintro e wa ⟨rfl, hba⟩
            have Ba := Lib.hid (B9.out.trans (hba.mono B9.out.size))
            clear hba
            go_wp2_with fail
            refine (CE.out _ Ba.out).mono ?_
            rintro e wb ⟨rfl, hbb⟩
            have Bb := Lib.hid (Ba.out.trans (hbb.mono Ba.out.size))
            clear hbb
            go_wp2_with fail
            go_ret
            exact ⟨rfl, Bb.out⟩
  · have ql : ((xs.length : Int) == (ys.length : Int)) = false := by simp; omega
    have hn0 : n ≠ 0 := fun e => hlen (by
      have := H0.out.1 e
      rw [this])
    clear hlen
    go_enter Tryd.func9, Tryd.ntmps9
    go_wp2_with fail
    refine (C1.out _ B0.out).mono ?_
    rintro e w1 ⟨rfl, hb1⟩
    have B1 := Lib.hid (B0.out.trans (hb1.mono B0.out.size))
    clear hb1 B0
    go_wp2_with fail
    refine (C2.out _ B1.out).mono ?_
    rintro e w2 ⟨rfl, hb2⟩
    have B2 := Lib.hid (B1.out.trans (hb2.mono B1.out.size))
    clear hb2 B1
    go_wp2_with fail
    refine (C3.out _ B2.out).mono ?_
    rintro e w3 ⟨rfl, hb3⟩
    have B3 := Lib.hid (B2.out.trans (hb3.mono B2.out.size))
    clear hb3 B2
    go_wp2_with fail
    refine wp_loop_rounds 1 ?_
    have B9 := B3
    rw [rounds_succ]
    have hcs : (0 < n) ∨ (n < 0 ∧ 0 < m) ∨ (n < 0 ∧ m ≤ 0) := by omega
    rcases hcs with hm1 | hm2 | hm3
    · have u1 : decide (0 < n) = true := decide_eq_true (by omega)
      have z0 : (n == 0) = false := beq_eq_false_iff_ne.2 (by omega)
      have z1 : decide (n < -1) = false := decide_eq_false (by omega)
      have z2 : decide ((1 : Int) < n) = false := decide_eq_false (by omega)
      have z3 : IntKind.i64.wrap (-n) = -n := by simp [IntKind.wrap, IntKind.bits, IntKind.signed]; omega
      clear hm1 hn0
      go_wp2_with fail
      refine (C4.out _ B9.out).mono ?_
      rintro e wa ⟨rfl, hba⟩
      have Ba := Lib.hid (B9.out.trans (hba.mono B9.out.size))
      clear hba
      go_wp2_with fail
      refine (CE.out _ Ba.out).mono ?_
      rintro e wb ⟨rfl, hbb⟩
      have Bb := Lib.hid (Ba.out.trans (hbb.mono Ba.out.size))
      clear hbb
      go_wp2_with fail
      go_ret
      exact ⟨rfl, Bb.out⟩
    · have u1 : decide (0 < n) = false := decide_eq_false (by omega)
      have u2 : decide (0 < m) = true := decide_eq_true (by omega)
      have z0 : (n == 0) = false := beq_eq_false_iff_ne.2 (by omega)
      have z1 : decide (n < -1) = false := decide_eq_false (by omega)
      have z2 : decide ((1 : Int) < n) = false := decide_eq_false (by omega)
      have z3 : IntKind.i64.wrap (-n) = -n := by simp [IntKind.wrap, IntKind.bits, IntKind.signed]; omega
      clear hm2 hn0
      go_wp2_with fail
      refine (C4.out _ B9.out).mono ?_
      rintro e wa ⟨rfl, hba⟩
      have Ba := Lib.hid (B9.out.trans (hba.mono B9.out.size))
      clear hba
      go_wp2_with fail
      refine (CE.out _ Ba.out).mono ?_
      rintro e wb ⟨rfl, hbb⟩
      have Bb := Lib.hid (Ba.out.trans (hbb.mono Ba.out.size))
      clear hbb
      go_wp2_with fail
      go_ret
      exact ⟨rfl, Bb.out⟩
    · have u1 : decide (0 < n) = false := decide_eq_false (by omega)
      have u2 : decide (0 < m) = false := decide_eq_false (by omega)
      have u3 : decide (k ≤ 0) = true := decide_eq_true (HTR.out (by omega) (by omega)).1
      have u4 : (n == 0) = false := beq_eq_false_iff_ne.2 (by omega)
      have u6 : decide (k < 0) = true := decide_eq_true ((HTR.out (by omega) (by omega)).2 (by omega))
      have z0 : (n == 0) = false := beq_eq_false_iff_ne.2 (by omega)
      have z1 : decide (n < -1) = false := decide_eq_false (by omega)
      have z2 : decide ((1 : Int) < n) = false := decide_eq_false (by omega)
      have z3 : IntKind.i64.wrap (-n) = -n := by simp [IntKind.wrap, IntKind.bits, IntKind.signed]; omega
      clear hm3 hn0
      go_wp2_with fail
      refine (C4.out _ B9.out).mono ?_
      rintro e wa ⟨rfl, hba⟩
      have Ba := Lib.hid (B9.out.trans (hba.mono B9.out.size))
      clear hba
      go_wp2_with fail
      refine (CE.out _ Ba.out).mono ?_
      rintro e wb ⟨rfl, hbb⟩
      have Bb := Lib.hid (Ba.out.trans (hbb.mono Ba.out.size))
      clear hbb
      go_wp2_with fail
      go_ret
      exact ⟨rfl, Bb.out⟩
end Go.Proofs.YtcdofdkifdebaaaDoor
