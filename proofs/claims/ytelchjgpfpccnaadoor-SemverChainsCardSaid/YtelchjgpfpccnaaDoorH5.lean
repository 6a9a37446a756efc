/-
  Compatible is reflexive for valid versions, transitive, and only upwards: the law SemverChains. Condition: internal/bytealg.MaxLen holds some number.
-/
import Derived.Test.YtelchjgpfpccnaaDoorK
namespace Go.Proofs.YtelchjgpfpccnaaDoor
open Go.RowKit
set_option linter.unusedSimpArgs false
set_option linter.unusedVariables false
set_option maxRecDepth 100000 in
set_option maxHeartbeats 4000000 in
theorem chains_ttt (a0 a1 a2 b0 b1 b2 c0 c1 c2 : Int) (v : Bool) (w : World) (hM : Mx w) (hv : okV a0 a1 a2 = v) (h1 : compB a0 a1 a2 a0 a1 a2 = v) (h2 : compB a0 a1 a2 b0 b1 b2 = true) (h3 : compB b0 b1 b2 c0 c1 c2 = true) (h4 : compB a0 a1 a2 c0 c1 c2 = true) (h5 : compB b0 b1 b2 a0 a1 a2 = true) (he : a0 = b0 ∧ a1 = b1 ∧ a2 = b2) :
    Calls Tryd.prog 10 #[vv a0 a1 a2, vv b0 b1 b2, vv c0 c1 c2] w fun e w' => e = .returned (.bool true) ∧ Below w.heap.size w w' := by
  have q : ∀ w, (Op.equalIn 10000 23 (vv a0 a1 a2) (vv b0 b1 b2)).run Tryd.prog w = .ok true w := fun w => by rw [eqV, he.1, he.2.1, he.2.2]; simp
  have HV := Lib.hid hv
  have H1 := Lib.hid h1
  have H2 := Lib.hid h2
  have H3 := Lib.hid h3
  have H4 := Lib.hid h4
  have H5 := Lib.hid h5
  obtain ⟨w0, hw0⟩ : ∃ w0, w0 = ((w.alloc (vblk a0 a1 a2)).alloc (vblk b0 b1 b2)).alloc (vblk c0 c1 c2) := ⟨_, rfl⟩
  have hS : I3 w0 w.heap.size (w.heap.size + 1) (w.heap.size + 1 + 1) a0 a1 a2 b0 b1 b2 c0 c1 c2 w0 := by
    subst hw0
    exact ⟨Below.refl _ _, (((Row3.new w a0 a1 a2 23 _ rfl).alloc _).alloc _).c3, ((Row3.new (w.alloc (vblk a0 a1 a2)) b0 b1 b2 23 _ (by simp)).alloc _).c3, (Row3.new ((w.alloc (vblk a0 a1 a2)).alloc (vblk b0 b1 b2)) c0 c1 c2 23 _ (by simp)).c3⟩
  have hB : Below w.heap.size w w0 := by
    subst hw0; exact (((Below.refl w.heap.size w).alloc (Nat.le_refl _) (vblk a0 a1 a2)).alloc (by simp) (vblk b0 b1 b2)).alloc (by simp; omega) (vblk c0 c1 c2)
  have HM := Lib.hid (hM.keep hB hM.1)
  have HB := Lib.hid hB
  unfold vblk at hw0
  have Hw := Lib.hid hw0
  clear hv h1 h2 h3 h4 h5 he hM hB hw0
  unfold vv at q ⊢
  go_enter Tryd.func10, Tryd.ntmps10
  go_wp2_with fail
  rw [← Hw.out]
  clear Hw
  first
  | go_region_held3 (fun w' => I3 w0 w.heap.size (w.heap.size + 1) (w.heap.size + 1 + 1) a0 a1 a2 b0 b1 b2 c0 c1 c2 w') (first | exact I3.keep hS ((Below.refl _ _).drew) | exact I3.keep (by assumption) (by assumption) | assumption)
      (first | (go_at_call 20; ((with_reducible refine (compat_at _ H1.out _).mono ?_)); rintro e w' ⟨rfl, hbN⟩) | (go_at_call 11; ((with_reducible refine (valid_at _ _ _ v HV.out _).mono ?_)); rintro e w' ⟨rfl, hbN⟩) | (go_at_call 20; ((with_reducible refine (compat_at _ H2.out _).mono ?_)); rintro e w' ⟨rfl, hbN⟩) | (go_at_call 20; ((with_reducible refine (compat_at _ H3.out _).mono ?_)); rintro e w' ⟨rfl, hbN⟩) | (go_at_call 20; ((with_reducible refine (compat_at _ H4.out _).mono ?_)); rintro e w' ⟨rfl, hbN⟩))
  | fail
  all_goals (go_wp2_with fail)
  all_goals (refine (compat_at _ H2.out _).mono ?_; rintro e wx ⟨rfl, hbx⟩; have hSx := I3.keep (by assumption) hbx; clear hbx; have h0 := hSx.2.1.1; have h1' := hSx.2.1.2.1; have h2' := hSx.2.1.2.2; have h3' := hSx.2.2.1.1; have h4' := hSx.2.2.1.2.1; have h5' := hSx.2.2.1.2.2; go_wp2_with fail; refine (compat_at _ H5.out _).mono ?_; rintro e wz ⟨rfl, hbz⟩; have hSz := I3.keep hSx hbz; clear hbz h0 h1' h2' h3' h4' h5'; have h0 := hSz.2.1.1; have h1' := hSz.2.1.2.1; have h2' := hSz.2.1.2.2; have h3' := hSz.2.2.1.1; have h4' := hSz.2.2.1.2.1; have h5' := hSz.2.2.1.2.2; go_wp2_with fail; refine (example_any _ (mx3 HM.out hSz)).mono ?_; rintro e wy ⟨rfl, hby⟩; have HSy := Lib.hid (of3 HB.out (I3.keep hSz hby)); clear hby; go_wp2_with fail; go_ret; exact ⟨rfl, HSy.out⟩)

end Go.Proofs.YtelchjgpfpccnaaDoor
