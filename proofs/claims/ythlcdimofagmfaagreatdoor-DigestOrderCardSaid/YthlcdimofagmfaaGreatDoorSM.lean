/-
  small of the laws of the digests. No condition.
-/
import Derived.Test.YthlcdimofagmfaaGreatDoorRe
namespace Go.Proofs.YthlcdimofagmfaaGreatDoor
open Go.RowKit Go.Sort Go.Lib Go.Shelf Go.Proofs
set_option linter.unusedSimpArgs false
set_option linter.unusedVariables false
def okS (y : Src) : Bool := decide (y.1.size ≤ 200) && decide (y.2.size ≤ 1000)
def smallB (S : List Src) (n : Nat) : Bool := S.all okS && (decide (S.length ≤ 8) && decide (n ≤ 20))
set_option maxRecDepth 100000 in
set_option maxHeartbeats 4000000 in
theorem small_any (x : Md) (A A2 : Option Addr) (n c c2 : Nat) (S : List Src) (w : World) (hS : RN w w.heap.size A2 S) (hl : S.length ≤ 9223372036854775807) :
    Calls Tryz.prog 18 #[rl x A n c A2 S.length c2] w fun e w' => e = .returned (.bool (smallB S n)) ∧ Below w.heap.size w w' := by
  have hb0 := bal w (rblk x A n c A2 S.length c2 40)
  have HB0 := Lib.hid hb0
  have HX := Lib.hid (B6.new w x A A2 n c S.length c2 40)
  have HSR := Lib.hid (hS.below hb0)
  clear hb0 hS
  obtain ⟨v, hv⟩ : ∃ v, v = smallB S n := ⟨_, rfl⟩
  rw [← hv]
  have HV := Lib.hid hv
  clear hv
  unfold rl
  unfold rblk at *
  go_enter Tryz.func18, Tryz.ntmps18
  obtain ⟨x0, x1, x2, x3, x4, x5⟩ := HX.out
  go_wp2_with fail
  generalize w.alloc _ = w1 at *
  clear x0 x1 x2 x3 x4 x5
  go_loopw [4, 8] (fun _ s8 wr => ∃ k : Nat, s8 = .int .i64 (k : Int) ∧ k ≤ S.length ∧ Hid ((S.take k).all okS = true) ∧ Hid (Below w1.heap.size w1 wr)) (fun _ s8 _ => (S.length - intOf s8).toNat)
  case atStart => exact ⟨0, rfl, by omega, Lib.hid rfl, Lib.hid (Below.refl _ _)⟩
  case round =>
    obtain ⟨k, rfl, hk, HA, HB⟩ := hrel
    by_cases hlt : k < S.length
    · obtain ⟨g, o, hA, hgl, c0, c1⟩ := HSR.out.two k hlt
      subst hA
      have hg1 : g < w1.heap.size := Nat.lt_of_lt_of_le hgl HB0.out.size
      rw [← HB.out.cell (p := ⟨g, o + k * 2, none⟩) hg1] at c0
      rw [← HB.out.cell (p := ⟨g, o + k * 2 + 1, none⟩) hg1] at c1
      have hkl : (k : Int) < (S.length : Int) := by omega
      have HK1 := Lib.hid (show k + 1 ≤ S.length by omega)
      have wk : IntKind.i64.wrap ((k : Int) + 1) = (k : Int) + 1 := by simp [IntKind.wrap, IntKind.bits, IntKind.signed]; omega
      by_cases h1 : (S[k]).1.size ≤ 200
      · have e1 : ¬ (200 : Int) < ((S[k]).1.size : Int) := by omega
        by_cases h2 : (S[k]).2.size ≤ 1000
        · have e2 : ¬ (1000 : Int) < ((S[k]).2.size : Int) := by omega
          have HA2 := Lib.hid (show (S.take (k + 1)).all okS = true by
            rw [← List.take_append_getElem hlt, List.all_append, HA.out]; simp [okS]; exact ⟨h1, h2⟩)
          have HB2 := Lib.hid (HB.out.alloc HB.out.size (.cells #[.string (S[k]).1, .string (S[k]).2] 56))
          generalize S[k] = y at *
          clear h1 h2
          go_wp2_with fail
          go_roundw
          case rel => exact ⟨k + 1, by go_num, HK1.out, HA2, HB2⟩
          case measure => have := HK1.out; first | (simp [intOf]; done) | (simp [intOf]; omega)
        · have e2 : (1000 : Int) < ((S[k]).2.size : Int) := by omega
          have HF := Lib.hid (show v = false by
            rw [HV.out]; unfold smallB
            rw [show S.all okS = false from by rw [List.all_eq_false]; exact ⟨S[k], List.getElem_mem hlt, by simp [okS]; omega⟩]; rfl)
          have HBE := Lib.hid (HB0.out.trans ((HB.out.alloc HB.out.size (.cells #[.string (S[k]).1, .string (S[k]).2] 56)).mono HB0.out.size))
          generalize S[k] = y at *
          clear HV
          go_wp2_with fail
          go_ret
          rw [HF.out]
          exact ⟨rfl, HBE.out⟩
      · have e1 : (200 : Int) < ((S[k]).1.size : Int) := by omega
        have HF := Lib.hid (show v = false by
          rw [HV.out]; unfold smallB
          rw [show S.all okS = false from by rw [List.all_eq_false]; exact ⟨S[k], List.getElem_mem hlt, by simp [okS]; omega⟩]; rfl)
        have HBE := Lib.hid (HB0.out.trans ((HB.out.alloc HB.out.size (.cells #[.string (S[k]).1, .string (S[k]).2] 56)).mono HB0.out.size))
        generalize S[k] = y at *
        clear HV
        go_wp2_with fail
        go_ret
        rw [HF.out]
        exact ⟨rfl, HBE.out⟩
    · obtain rfl : k = S.length := by omega
      rw [List.take_length] at HA
      have HBE := Lib.hid (HB0.out.trans (HB.out.mono HB0.out.size))
      obtain ⟨q0, q1, q2, q3, q4, q5⟩ := HX.out.keep HB.out
      have hnl : ¬ (S.length : Int) < (S.length : Int) := by omega
      by_cases h8 : S.length ≤ 8
      · have e8 : (S.length : Int) ≤ 8 := by omega
        by_cases hn : n ≤ 20
        · have en : (n : Int) ≤ 20 := by omega
          have HF := Lib.hid (show v = true by rw [HV.out]; unfold smallB; rw [HA.out]; simp [h8, hn])
          clear HV h8 hn
          go_wp2_with fail
          go_ret
          rw [HF.out]
          exact ⟨rfl, HBE.out⟩
        · have en : ¬ (n : Int) ≤ 20 := by omega
          have HF := Lib.hid (show v = false by rw [HV.out]; unfold smallB; rw [HA.out]; simp [h8, hn])
          clear HV h8 hn
          go_wp2_with fail
          go_ret
          rw [HF.out]
          exact ⟨rfl, HBE.out⟩
      · have e8 : ¬ (S.length : Int) ≤ 8 := by omega
        have HF := Lib.hid (show v = false by rw [HV.out]; unfold smallB; rw [HA.out]; simp [h8])
        clear HV h8
        go_wp2_with fail
        go_ret
        rw [HF.out]
        exact ⟨rfl, HBE.out⟩
end Go.Proofs.YthlcdimofagmfaaGreatDoor
