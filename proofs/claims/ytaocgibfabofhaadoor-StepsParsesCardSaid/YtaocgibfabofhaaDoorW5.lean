/-
  Valid and Text are as specified: the law StepsTexts. Conditions: the slice reads as a list, and the table of powers of ten holds what it holds.
-/
import Derived.Test.YtaocgibfabofhaaDoorT3
import Derived.Test.YtaocgibfabofhaaDoorX1
namespace Go.Proofs.YtaocgibfabofhaaDoor
open Go.RowKit
set_option linter.unusedSimpArgs false
set_option linter.unusedVariables false
theorem sml_facts {xs : List St} (h : smlB xs = true) : xs.length ≤ 20 ∧ ∀ x ∈ xs, x.1.size ≤ 60 := by
  unfold smlB at h
  simp only [Bool.and_eq_true, List.all_eq_true, decide_eq_true_eq] at h
  exact ⟨h.2, h.1⟩
set_option maxRecDepth 100000 in
set_option maxHeartbeats 4000000 in
theorem law_texts (A : Option Addr) (c : Nat) (xs : List St) (hx : xs.length ≤ 9223372036854775807) (w : World) (h : Rd w w.heap.size A xs) (hT : P10 w) :
    Calls Tryd.prog 3 #[.slice A xs.length c] w fun e w' => e = .returned (.bool true) ∧ Below w.heap.size w w' := by
  have CE : Hid (∀ W, Below w.heap.size w W → Calls Tryd.prog 12 #[] W fun e w' => e = .returned (.bool true) ∧ Below W.heap.size W w') := Lib.hid fun W h => example_any W (hT.below h)
  have CM := Lib.hid (small_any A c xs hx w h)
  cases hs : smlB xs with
  | false =>
    rw [hs] at CM
    clear h hT hs
    go_enter Tryd.func3, Tryd.ntmps3
    go_wp2_with fail
    refine CM.out.mono ?_
    rintro e w1 ⟨rfl, rfl⟩
    go_wp2_with fail
    refine (CE.out _ (Below.refl _ _)).mono ?_
    rintro e w1 ⟨rfl, hb1⟩
    go_wp2_with fail
    go_ret
    exact ⟨rfl, hb1⟩
  | true =>
    rw [hs] at CM
    obtain ⟨h20, h60⟩ := sml_facts hs
    have C1 : Hid (∀ W, Below w.heap.size w W → Calls Tryd.prog 13 #[.slice A xs.length c] W fun e w' => e = .returned (.bool (allV xs)) ∧ Below W.heap.size W w') := Lib.hid fun W k => valid_any A c xs (by omega) W (rd_keep h k)
    have C2 : Hid (∀ W, Below w.heap.size w W → Calls Tryd.prog 14 #[.slice A xs.length c] W fun e w' => e = .returned (.bool (allV xs)) ∧ Below W.heap.size W w') := Lib.hid fun W k => rvalid_any A c xs (by omega) W (rd_keep h k)
    have C3 : Hid (∀ W, Below w.heap.size w W → Calls Tryd.prog 15 #[.slice A xs.length c] W fun e w' => e = .returned (.string ⟨(textS xs).toArray⟩) ∧ Below W.heap.size W w') := Lib.hid fun W k => text_any A c xs (by omega) (fun x hx => by have := h60 x hx; omega) W (rd_keep h k) (hT.below k)
    have C4 : Hid (∀ W, Below w.heap.size w W → Calls Tryd.prog 16 #[.slice A xs.length c] W fun e w' => e = .returned (.string ⟨(textS xs).toArray⟩) ∧ Below W.heap.size W w') := Lib.hid fun W k => rtext_any A c xs (by omega) (fun x hx => by have := h60 x hx; omega) W (rd_keep h k)
    have B0 := Lib.hid (Below.refl w.heap.size w)
    clear h hT hs h60
    generalize allV xs = V at *
    generalize (⟨(textS xs).toArray⟩ : ByteArray) = S at *
    go_enter Tryd.func3, Tryd.ntmps3
    go_wp2_with fail
    refine CM.out.mono ?_
    rintro e w1 ⟨rfl, rfl⟩
    go_wp2_with fail
    refine (C1.out _ B0.out).mono ?_
    rintro e w1 ⟨rfl, hb1⟩
    have B1 := Lib.hid (B0.out.trans (hb1.mono B0.out.size))
    clear hb1 B0
    go_wp2_with fail
    refine (C2.out _ B1.out).mono ?_
    rintro e w2 ⟨rfl, hb2⟩
    have B2 := Lib.hid (B1.out.trans (hb2.mono B1.out.size))
    clear hb2 B1
    go_wp2_with fail
    refine (C3.out _ B2.out).mono ?_
    rintro e w3 ⟨rfl, hb3⟩
    have B3 := Lib.hid (B2.out.trans (hb3.mono B2.out.size))
    clear hb3 B2
    go_wp2_with fail
    refine (C4.out _ B3.out).mono ?_
    rintro e w4 ⟨rfl, hb4⟩
    have B4 := Lib.hid (B3.out.trans (hb4.mono B3.out.size))
    clear hb4 B3
    go_wp2_with fail
    refine (CE.out _ B4.out).mono ?_
    rintro e w5 ⟨rfl, hb5⟩
    have B5 := Lib.hid (B4.out.trans (hb5.mono B4.out.size))
    clear hb5 B4
    go_wp2_with fail
    go_ret
    exact ⟨rfl, B5.out⟩
end Go.Proofs.YtaocgibfabofhaaDoor
