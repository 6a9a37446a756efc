/-
  The laws TexteditShifts, TexteditApplies, TexteditInverts, TexteditLines: their walks. Conditions: the slice reads as a list.
-/
import Derived.Test.YtlanjfjmffcgdaaX
import Derived.Test.YtlanjfjmffcgdaaK
namespace Go.Proofs.Ytlanjfjmffcgdaa
open Go.RowKit
set_option linter.unusedSimpArgs false
set_option linter.unusedVariables false
set_option maxRecDepth 100000 in
set_option maxHeartbeats 4000000 in
theorem law_shifts (a : Int) (A : Option Addr) (c : Nat) (xs : List Ed) (hx : xs.length ≤ 9223372036854775807) (w : World) (h : Re w w.heap.size A xs) :
    Calls Try.prog 4 #[.int .i64 a, .slice A xs.length c] w fun e w' => e = .returned (.bool true) ∧ Below w.heap.size w w' := by
  have CS := Lib.hid (small_any ⟨#[]⟩ A c xs hx w h)
  cases hs : smB (⟨#[]⟩ : ByteArray).size xs with
  | false =>
    rw [hs] at CS
    clear hs h
    go_enter Try.func4, Try.ntmps4
    go_wp2_with fail
    refine CS.out.mono ?_
    rintro e w' ⟨rfl, rfl⟩
    go_wp2_with fail
    refine (example_any _).mono ?_
    rintro e w1 ⟨rfl, hb1⟩
    go_wp2_with fail
    go_ret
    exact ⟨rfl, hb1⟩
  | true =>
    rw [hs] at CS
    obtain ⟨_, h20, h60⟩ := sm_facts hs
    have C1 := Lib.hid (shift_any a A c xs h20 h60 w h)
    have C2 : Hid (∀ W, Below w.heap.size w W → Calls Try.prog 18 #[.int .i64 a, .slice A xs.length c] W fun e w' => e = .returned (.int .i64 (shfV a xs)) ∧ Below W.heap.size W w') := Lib.hid fun W k => rshift_any a A c xs h20 h60 W (re_keep h k)
    generalize shfV a xs = R at *
    clear hs h h60
    go_enter Try.func4, Try.ntmps4
    go_wp2_with fail
    refine CS.out.mono ?_
    rintro e w' ⟨rfl, rfl⟩
    go_wp2_with fail
    refine C1.out.mono ?_
    rintro e w1 ⟨rfl, hb1⟩
    have B1 := Lib.hid hb1
    clear hb1 C1
    go_wp2_with fail
    refine (C2.out _ B1.out).mono ?_
    rintro e w2 ⟨rfl, hb2⟩
    have B2 := Lib.hid (B1.out.trans (hb2.mono B1.out.size))
    clear hb2 C2
    go_wp2_with fail
    refine (example_any _).mono ?_
    rintro e w3 ⟨rfl, hb3⟩
    have B3 := Lib.hid (B2.out.trans (hb3.mono B2.out.size))
    clear hb3
    go_wp2_with fail
    go_ret
    exact ⟨rfl, B3.out⟩
