/-
  SameTexts: two lists of strings. At most 1000 of them.
-/
import Derived.Test.YthlcdimofagmfaaGreatDoorMNH
namespace Go.Proofs.YthlcdimofagmfaaGreatDoor
open Go.RowKit Go.Sort Go.Lib Go.Shelf Go.Proofs
set_option linter.unusedSimpArgs false
set_option linter.unnecessarySimpa false
set_option linter.unusedVariables false
set_option maxRecDepth 100000 in
set_option maxHeartbeats 4000000 in
theorem same_any (A B : Option Addr) (c d : Nat) (L : List ByteArray) (w : World) (hA : RT1 w w.heap.size A L) (hB : RT1 w w.heap.size B L) (hl : L.length ≤ 1000) :
    Calls Tryz.prog 23 #[.slice A L.length c, .slice B L.length d] w fun e w' => e = .returned (.bool true) ∧ Below w.heap.size w w' := by
  have HA := Lib.hid hA
  have HB := Lib.hid hB
  have HL := Lib.hid hl
  clear hA hB hl
  go_enter Tryz.func23, Tryz.ntmps23
  go_wp2_with fail
  go_loopw [5, 13] (fun _ s13 wr => ∃ k : Nat, s13 = .int .i64 (k : Int) ∧ k ≤ L.length ∧ Hid (Below w.heap.size w wr)) (fun _ s13 _ => (L.length - intOf s13).toNat)
  case atStart => exact ⟨0, rfl, by omega, Lib.hid (Below.refl _ _)⟩
  case round =>
    obtain ⟨k, rfl, hk, HW⟩ := hrel
    by_cases hlt : k < L.length
    · obtain ⟨b, o, hA, hb, x0⟩ := HA.out.at_ k hlt
      obtain ⟨b', o', hB, hb', y0⟩ := HB.out.at_ k hlt
      subst hA hB
      rw [← HW.out.cell (p := ⟨b, o + k, none⟩) hb] at x0
      rw [← HW.out.cell (p := ⟨b', o' + k, none⟩) hb'] at y0
      have hki : (k : Int) < (L.length : Int) := by omega
      have hk0 : (0 : Int) ≤ (k : Int) := by omega
      have hk9 : k ≤ 1000 := by have := HL.out; omega
      have HK := Lib.hid (show k + 1 ≤ L.length by omega)
      have HW2 := Lib.hid HW.out.drew
      generalize L[k] = s at *
      clear hlt
      go_wp2_with fail
      go_region
      go_wp2_with fail
      go_roundw
      case rel => exact ⟨k + 1, by go_num, HK.out, HW2⟩
      case measure => have := HK.out; first | (simp [intOf]; done) | (simp [intOf]; omega)
    · obtain rfl : k = L.length := by omega
      have hki : ¬ (L.length : Int) < (L.length : Int) := by omega
      go_wp2_with fail
      go_ret
      exact ⟨rfl, HW.out⟩
end Go.Proofs.YthlcdimofagmfaaGreatDoor
