/-
  Compare and Compatible of the program and of the specification return the same, for all versions: the law SemverCompares. Condition: internal/bytealg.MaxLen holds some number.
-/
import Derived.Test.YteeagengliaakaaDoorK
import Derived.Test.YteeagengliaakaaDoorL
namespace Go.Proofs.YteeagengliaakaaDoor
open Go.RowKit
set_option linter.unusedSimpArgs false
set_option linter.unusedVariables false
theorem serB_eq {a0 a1 b0 b1 : Int} (ha : 0 ≤ a0) (hb : 0 ≤ b0) : serB a0 a1 b0 b1 = (a0 == b0 && (decide (0 < a0) || a1 == b1)) := by
  unfold serB ser
  by_cases z : a0 = 0
  · subst z
    by_cases y : b0 = 0
    · subst y; simp
    · rw [if_pos rfl, if_neg y]
      have : ((0 : Int) == b0) = false := by simpa using fun h => y h.symm
      simp only [this, Bool.false_and]
  · rw [if_neg z]
    by_cases y : b0 = 0
    · subst y
      have : (a0 == (0 : Int)) = false := by simpa using z
      simp only [if_true, this, Bool.false_and]
    · rw [if_neg y, decide_eq_true (by omega : 0 < a0)]; simp
theorem compB_eq (a0 a1 a2 b0 b1 b2 : Int) : rcompB a0 a1 a2 b0 b1 b2 = compB a0 a1 a2 b0 b1 b2 := by
  unfold compB rcompB
  cases h1 : okV a0 a1 a2
  · rfl
  · cases h2 : okV b0 b1 b2
    · rfl
    · rw [serB_eq (okV_of h1).1 (okV_of h2).1, cmp3_anti a0 a1 a2 b0 b1 b2]
      have e1 : (!decide (-cmp3 a0 a1 a2 b0 b1 b2 < 0)) = decide (cmp3 a0 a1 a2 b0 b1 b2 ≤ 0) := by
        rw [Bool.eq_iff_iff]; first | (simp; done) | (simp; omega)
      rw [e1]
set_option maxRecDepth 100000 in
set_option maxHeartbeats 4000000 in
theorem compares_walk (a0 a1 a2 b0 b1 b2 n : Int) (v : Bool) (w : World) (hM : Mx w) (h1 : cmp3 a0 a1 a2 b0 b1 b2 = n) (h3 : compB a0 a1 a2 b0 b1 b2 = v) (h4 : rcompB a0 a1 a2 b0 b1 b2 = v) :
    Calls Tryd.prog 5 #[vv a0 a1 a2, vv b0 b1 b2] w fun e w' => e = .returned (.bool true) ∧ Below w.heap.size w w' := by
  have H1 := Lib.hid h1
  have H3 := Lib.hid h3
  have H4 := Lib.hid h4
  obtain ⟨w0, hw0⟩ : ∃ w0, w0 = (w.alloc (vblk a0 a1 a2)).alloc (vblk b0 b1 b2) := ⟨_, rfl⟩
  have hS : I2 w0 w.heap.size (w.heap.size + 1) a0 a1 a2 b0 b1 b2 w0 := by
    subst hw0
    exact ⟨Below.refl _ _, ((Row3.new w a0 a1 a2 23 _ rfl).alloc _).c3, (Row3.new (w.alloc (vblk a0 a1 a2)) b0 b1 b2 23 _ (by simp)).c3⟩
  have hB : Below w.heap.size w w0 := by
    subst hw0; exact ((Below.refl w.heap.size w).alloc (Nat.le_refl _) (vblk a0 a1 a2)).alloc (by simp) (vblk b0 b1 b2)
  have HM := Lib.hid (hM.keep hB hM.1)
  have HB := Lib.hid hB
  unfold vblk at hw0
  have Hw := Lib.hid hw0
  clear h1 h3 h4 hB hw0 hM
  unfold vv
  go_enter Tryd.func5, Tryd.ntmps5
  go_wp2_with fail
  rw [← Hw.out]
  clear Hw
  go_region_held3 (fun w' => I2 w0 w.heap.size (w.heap.size + 1) a0 a1 a2 b0 b1 b2 w') (first | exact I2.keep hS ((Below.refl _ _).drew) | exact I2.keep (by assumption) (by assumption))
    (first | (go_at_call 18; ((with_reducible refine (compare_at _ H1.out _).mono ?_)); rintro e w' ⟨rfl, hbN⟩) | (go_at_call 19; ((with_reducible refine (rcompare_at _ H1.out _).mono ?_)); rintro e w' ⟨rfl, hbN⟩) | (go_at_call 20; ((with_reducible refine (compat_at _ H3.out _).mono ?_)); rintro e w' ⟨rfl, hbN⟩) | (go_at_call 21; ((with_reducible refine (rcompat_at _ H4.out _).mono ?_)); rintro e w' ⟨rfl, hbN⟩) | (go_at_call 15; refine (example_any _ (mx2 HM.out (by assumption))).mono ?_; rintro e w' ⟨rfl, hbN⟩))

  go_wp2_with fail
  go_ret
  exact ⟨rfl, of2 HB.out (by assumption)⟩
theorem law_compares (a0 a1 a2 b0 b1 b2 : Int) (w : World) (hM : Mx w) :
    Calls Tryd.prog 5 #[vv a0 a1 a2, vv b0 b1 b2] w fun e w' => e = .returned (.bool true) ∧ Below w.heap.size w w' :=
  compares_walk a0 a1 a2 b0 b1 b2 _ _ w hM rfl rfl (compB_eq a0 a1 a2 b0 b1 b2)
end Go.Proofs.YteeagengliaakaaDoor
