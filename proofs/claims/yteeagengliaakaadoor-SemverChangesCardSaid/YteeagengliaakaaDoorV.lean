/-
  The walk of the law SemverChanges, from what the two functions Next return at its input. Condition: internal/bytealg.MaxLen holds some number.
-/
import Derived.Test.YteeagengliaakaaDoorM
namespace Go.Proofs.YteeagengliaakaaDoor
open Go.RowKit
set_option linter.unusedSimpArgs false
set_option linter.unusedVariables false
set_option maxRecDepth 100000 in
set_option maxHeartbeats 4000000 in
theorem changes_walk (a b c n p q r x : Int) (w : World) (hM : Mx w)
    (h1 : ∀ w, Calls Tryd.prog 22 #[vv a b c, .int .i64 n] w fun e w' => e = .returned (.tuple #[vv p q r, .int .i64 x]) ∧ Below w.heap.size w w')
    (h2 : ∀ w, Calls Tryd.prog 23 #[vv a b c, .int .i64 n] w fun e w' => e = .returned (.tuple #[vv p q r, .int .i64 x]) ∧ Below w.heap.size w w') :
    Calls Tryd.prog 6 #[vv a b c, .int .i64 n] w fun e w' => e = .returned (.bool true) ∧ Below w.heap.size w w' := by
  have k : ∀ w, (Op.equalIn 10000 23 (vv p q r) (vv p q r)).run Tryd.prog w = .ok true w := fun w => by rw [eqV]; simp
  have H1 := Lib.hid h1
  have H2 := Lib.hid h2
  have HM := Lib.hid (hM.keep ((Below.refl w.heap.size w).alloc (Nat.le_refl _) (vblk a b c)) hM.1)
  have R0 := Row3.new w a b c 23 _ rfl
  have B0 := (Below.refl w.heap.size w).alloc (Nat.le_refl _) (vblk a b c)
  clear h1 h2 hM
  unfold vv at k ⊢
  go_enter Tryd.func6, Tryd.ntmps6
  go_wp2_with fail
  refine (H1.out _).mono ?_
  rintro e w1 ⟨rfl, hb1⟩
  replace R0 := R0.keep hb1
  replace B0 := B0.trans (hb1.mono (by simp))
  have HM1 := Lib.hid (HM.out.keep hb1 HM.out.1)
  clear hb1
  obtain ⟨z1, c0, c1, c2, f1, f2, f3⟩ := id R0
  go_wp2_with fail
  refine (H2.out _).mono ?_
  rintro e w2 ⟨rfl, hb2⟩
  have A2 := (Row3.new w1 p q r 23 _ rfl).keep hb2
  have HM2 := Lib.hid ((HM1.out.keep ((Below.refl _ _).alloc (Nat.le_refl _) (vblk p q r)) HM1.out.1).keep hb2 (HM1.out.keep ((Below.refl _ _).alloc (Nat.le_refl _) (vblk p q r)) HM1.out.1).1)
  replace B0 := (B0.alloc B0.size _).trans (hb2.mono (by have := B0.size; simp; omega))
  clear hb2 R0 z1 c0 c1 c2 f1 f2 f3
  obtain ⟨y1, d0, d1, d2, g1, g2, g3⟩ := id A2
  go_wp2_with fail
  refine (example_any _ (HM2.out.keep ((Below.refl _ _).alloc (Nat.le_refl _) (vblk p q r)) HM2.out.1)).mono ?_
  rintro e w3 ⟨rfl, hb3⟩
  have HB := Lib.hid ((B0.alloc B0.size _).trans (hb3.mono (by have := B0.size; simp; omega)))
  clear hb3
  go_wp2_with fail
  go_ret
  exact ⟨rfl, HB.out⟩
end Go.Proofs.YteeagengliaakaaDoor
