/-
  The specification's word: whether a text is a word that is no identifier. No condition.
-/
import Derived.Test.YtaocgibfabofhaaDoorQ6
namespace Go.Proofs.YtaocgibfabofhaaDoor
open Go.RowKit
set_option linter.unusedSimpArgs false
set_option linter.unusedVariables false
set_option maxRecDepth 100000 in
set_option maxHeartbeats 4000000 in
theorem rword_any (s : ByteArray) (w : World) :
    Calls Tryd.prog 71 #[.string s] w fun e w' => e = .returned (.bool (resB s)) ∧ Below w.heap.size w w' := by
  obtain ⟨I, hI⟩ : ∃ I, I = resB s := ⟨_, rfl⟩
  rw [← hI]
  have HI := Lib.hid hI
  clear hI
  go_enter Tryd.func71, Tryd.ntmps71
  go_wp2_with fail
  refine (rwords_any _).mono ?_
  rintro e w1 ⟨rfl, rfl⟩
  have HC := Lib.hid (fun k (h : k < 13) => words_cell w k h)
  have hB := (Below.refl w.heap.size w).alloc (Nat.le_refl _) (.cells wordsV 9)
  have hsz : w.heap.size < (w.alloc (.cells wordsV 9)).heap.size := by simp
  generalize w.alloc (.cells wordsV 9) = W at *
  have HBW := Lib.hid hB
  obtain ⟨G, hG⟩ : ∃ G, G = w.heap.size := ⟨_, rfl⟩
  rw [← hG] at HC hsz ⊢
  clear hB hG
  go_wp2_with fail
  go_loop [4] (fun i => ∃ k : Nat, k ≤ 13 ∧ i = .int .i64 (k : Int) ∧ Hid (∀ j, j < k → (s.toList == (wdB j).toList) = false)) (fun i => 13 - (intOf i).toNat)
  case atStart => exact ⟨0, by omega, rfl, Lib.hid (by intro j hj; omega)⟩
  case round =>
    obtain ⟨k, hk, rfl, HN⟩ := hrel
    by_cases hlt : k < 13
    · have ck := HC.out k hlt
      cases hq : (s.toList == (wdB k).toList) with
      | true =>
        have HR := Lib.hid (res_true hlt hq)
        have hq2 : ((wdB k).toList == s.toList) = true := by rw [beq_iff_eq] at hq ⊢; exact hq.symm
        go_wp2_with fail
        go_ret
        exact ⟨by rw [HI.out, HR.out] <;> rfl, HBW.out⟩
      | false =>
        have hq2 : ((wdB k).toList == s.toList) = false := by rw [beq_eq_false_iff_ne] at hq ⊢; exact fun h => hq h.symm
        go_wp2_with fail
        go_round
        case rel =>
          refine ⟨k + 1, by omega, by go_num, Lib.hid ?_⟩
          intro j hj
          by_cases hjk : j = k
          · subst hjk; exact hq
          · exact HN.out j (by omega)
        case measure => simp [intOf]; omega
    · obtain rfl : k = 13 := by omega
      have HR := Lib.hid (res_false HN.out)
      clear hlt hk HN HC
      go_wp2_with fail
      go_ret
      exact ⟨by rw [HI.out, HR.out] <;> rfl, HBW.out⟩
theorem rword_at (s : ByteArray) (v : Bool) (h : resB s = v) (w : World) :
    Calls Tryd.prog 71 #[.string s] w fun e w' => e = .returned (.bool v) ∧ Below w.heap.size w w' := by subst h; exact rword_any s w
end Go.Proofs.YtaocgibfabofhaaDoor
