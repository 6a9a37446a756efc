/-
  Compare and Prefix are as specified: the law StepsCompares. Conditions: the slices read as lists, and the table of powers of ten holds what it holds.
-/
import Derived.Test.YtcdofdkifdebaaaDoorX1
namespace Go.Proofs.YtcdofdkifdebaaaDoor
open Go.RowKit
set_option linter.unusedSimpArgs false
set_option linter.unusedVariables false
set_option maxRecDepth 100000 in
set_option maxHeartbeats 2000000 in
theorem law_compares (A A' : Option Addr) (c c' : Nat) (xs ys : List St) (hx : xs.length ≤ 9223372036854775807) (hy : ys.length ≤ 9223372036854775807) (hc : ys.length ≤ c') (w : World) (h : Rd w w.heap.size A xs) (h' : Rd w w.heap.size A' ys) (hT : P10 w) :
    Calls Tryd.prog 8 #[.slice A xs.length c, .slice A' ys.length c'] w fun e w' => e = .returned (.bool true) ∧ Below w.heap.size w w' := by
  have CE : Hid (∀ W, Below w.heap.size w W → Calls Tryd.prog 12 #[] W fun e w' => e = .returned (.bool true) ∧ Below W.heap.size W w') := Lib.hid fun W h => example_any W (hT.below h)
  by_cases h1 : 20 < xs.length
  · have q1 : decide ((20 : Int) < (xs.length : Int)) = true := decide_eq_true (by omega)
    clear h h' hT
    go_enter Tryd.func8, Tryd.ntmps8
    go_wp2_with fail
    refine (CE.out _ (Below.refl _ _)).mono ?_
    rintro e w1 ⟨rfl, hb1⟩
    go_wp2_with fail
    go_ret
    exact ⟨rfl, hb1⟩
  have q1 : decide ((20 : Int) < (xs.length : Int)) = false := decide_eq_false (by omega)
  by_cases h2 : 20 < ys.length
  · have q2 : decide ((20 : Int) < (ys.length : Int)) = true := decide_eq_true (by omega)
    clear h h' hT
    go_enter Tryd.func8, Tryd.ntmps8
    go_wp2_with fail
    refine (CE.out _ (Below.refl _ _)).mono ?_
    rintro e w1 ⟨rfl, hb1⟩
    go_wp2_with fail
    go_ret
    exact ⟨rfl, hb1⟩
  have q2 : decide ((20 : Int) < (ys.length : Int)) = false := decide_eq_false (by omega)
  have C1 : Hid (∀ W, Below w.heap.size w W → Calls Tryd.prog 20 #[.slice A xs.length c, .slice A' ys.length c'] W fun e w' => e = .returned (.int .i64 (cmpL xs ys)) ∧ Below W.heap.size W w') := Lib.hid fun W h1' => compare_any A A' c c' xs ys (by omega) (by omega) W (rd_keep h h1') (rd_keep h' h1')
  have C2 : Hid (∀ W, Below w.heap.size w W → Calls Tryd.prog 21 #[.slice A xs.length c, .slice A' ys.length c'] W fun e w' => e = .returned (.int .i64 (cmpL xs ys)) ∧ Below W.heap.size W w') := Lib.hid fun W h1' => rcompare_any A A' c c' xs ys (by omega) (by omega) W (rd_keep h h1') (rd_keep h' h1')
  have C3 : Hid (∀ W, Below w.heap.size w W → Calls Tryd.prog 22 #[.slice A xs.length c, .slice A' ys.length c'] W fun e w' => e = .returned (.bool (preB xs ys)) ∧ Below W.heap.size W w') := Lib.hid fun W h1' => prefix_any A A' c c' xs ys (by omega) (by omega) W (rd_keep h h1') (rd_keep h' h1')
  have C4 : Hid (∀ W, Below w.heap.size w W → Calls Tryd.prog 23 #[.slice A xs.length c, .slice A' ys.length c'] W fun e w' => e = .returned (.bool (preB xs ys)) ∧ Below W.heap.size W w') := Lib.hid fun W h1' => rprefix_any A A' c c' xs ys (by omega) (by omega) hc W (rd_keep h h1') (rd_keep h' h1')
  have B0 := Lib.hid (Below.refl w.heap.size w)
  clear h h' hT h1 h2
  generalize cmpL xs ys = R at *
  generalize preB xs ys = V at *
  go_enter Tryd.func8, Tryd.ntmps8
  go_wp2_with fail
  refine (C1.out _ B0.out).mono ?_
  rintro e w1 ⟨rfl, hb1⟩
  have B1 := Lib.hid (B0.out.trans (hb1.mono B0.out.size))
  clear hb1 B0
  go_wp2_with fail
  refine (C2.out _ B1.out).mono ?_
  rintro e w2 ⟨rfl, hb2⟩
  have B2 := Lib.hid (B1.out.trans (hb2.mono B1.out.size))
  clear hb2 B1
  go_wp2_with fail
  refine (C3.out _ B2.out).mono ?_
  rintro e w3 ⟨rfl, hb3⟩
  have B3 := Lib.hid (B2.out.trans (hb3.mono B2.out.size))
  clear hb3 B2
  go_wp2_with fail
  refine (C4.out _ B3.out).mono ?_
  rintro e w4 ⟨rfl, hb4⟩
  have B4 := Lib.hid (B3.out.trans (hb4.mono B3.out.size))
  clear hb4 B3
  go_wp2_with fail
  refine (CE.out _ B4.out).mono ?_
  rintro e w5 ⟨rfl, hb5⟩
  have B5 := Lib.hid (B4.out.trans (hb5.mono B4.out.size))
  clear hb5 B4
  go_wp2_with fail
  go_ret
  exact ⟨rfl, B5.out⟩
end Go.Proofs.YtcdofdkifdebaaaDoor
