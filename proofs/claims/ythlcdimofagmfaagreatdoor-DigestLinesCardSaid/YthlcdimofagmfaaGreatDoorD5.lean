/-
  The law DigestSum, out of a contract for alive that the premise gives.
-/
import Derived.Test.YthlcdimofagmfaaGreatDoorD3
namespace Go.Proofs.YthlcdimofagmfaaGreatDoor.Dg
open Go.RowKit
set_option linter.unusedSimpArgs false
set_option linter.unnecessarySimpa false
set_option linter.unusedVariables false
/-- what alive must give in every world behind w -/
def Alive (w : World) : Prop := ∀ w', Below w.heap.size w w' → Calls Tryz.prog 11 #[] w' fun e w2 => e = .returned (.bool true) ∧ Below w'.heap.size w' w2
set_option maxRecDepth 100000 in
set_option maxHeartbeats 4000000 in
theorem law_sum (s : ByteArray) (w : World) (HA : Alive w) :
    Calls Tryz.prog 3 #[.string s] w fun e w' => e = .returned (.bool true) ∧ Below w.heap.size w w' := by
  have HAL := Lib.hid HA
  clear HA
  by_cases hs : s.size ≤ 2000
  · have h1 : ¬ (2000 : Int) < (s.size : Int) := by omega
    have C1 := Lib.hid (fun w => sum1_any s (by omega) w)
    have C2 := Lib.hid (fun w => rsum_any s (by omega) w)
    have hlt := hsum_lt s.data.toList 14695981039346656037 (by decide)
    generalize hsum 14695981039346656037 s.data.toList = z at *
    have C3 := Lib.hid (fun w => text_any z hlt w)
    have C4 := Lib.hid (fun w => rtext_any z hlt w)
    generalize txtH z = T at *
    clear hs hlt
    go_enter Tryz.func3, Tryz.ntmps3
    go_wp2_with fail
    refine (C1.out _).mono ?_
    rintro e w1 ⟨rfl, hb1⟩
    go_wp2_with fail
    refine (C2.out _).mono ?_
    rintro e w2 ⟨rfl, rfl⟩
    go_wp2_with fail
    refine (C1.out _).mono ?_
    rintro e w3 ⟨rfl, hb3⟩
    have B3 := Lib.hid (hb1.trans (hb3.mono hb1.size))
    clear hb1 hb3
    go_wp2_with fail
    refine (C3.out _).mono ?_
    rintro e w4 ⟨rfl, hb4⟩
    have B4 := Lib.hid (B3.out.trans (hb4.mono B3.out.size))
    clear hb4 B3
    go_wp2_with fail
    refine (C2.out _).mono ?_
    rintro e w5 ⟨rfl, rfl⟩
    go_wp2_with fail
    refine (C4.out _).mono ?_
    rintro e w5 ⟨rfl, rfl⟩
    go_wp2_with fail
    refine (HAL.out _ B4.out).mono ?_
    rintro e w6 ⟨rfl, hb6⟩
    have B6 := Lib.hid (B4.out.trans (hb6.mono B4.out.size))
    clear hb6
    go_wp2_with fail
    go_ret
    exact ⟨rfl, B6.out⟩
  · have h1 : (2000 : Int) < (s.size : Int) := by omega
    clear hs
    go_enter Tryz.func3, Tryz.ntmps3
    go_wp2_with fail
    refine (HAL.out _ (Below.refl _ _)).mono ?_
    rintro e w6 ⟨rfl, hb6⟩
    have B6 := Lib.hid hb6
    clear hb6
    go_wp2_with fail
    go_ret
    exact ⟨rfl, B6.out⟩
end Go.Proofs.YthlcdimofagmfaaGreatDoor.Dg
