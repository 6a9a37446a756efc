/-
  What configlangref43.Compatible returns, for any two versions. No condition on the world.
-/
import Derived.Test.YteeagengliaakaaDoorR
namespace Go.Proofs.YteeagengliaakaaDoor
open Go.RowKit
set_option linter.unusedSimpArgs false
set_option linter.unusedVariables false
def rcompB (a0 a1 a2 b0 b1 b2 : Int) : Bool := okV a0 a1 a2 && (okV b0 b1 b2 && (!decide (cmp3 b0 b1 b2 a0 a1 a2 < 0) && (a0 == b0 && (decide (0 < a0) || a1 == b1))))
set_option maxRecDepth 100000 in
set_option maxHeartbeats 4000000 in
theorem rcompat_f1 (a0 a1 a2 b0 b1 b2 : Int) (w : World) (h1 : okV a0 a1 a2 = false) :
    Calls Tryd.prog 21 #[vv a0 a1 a2, vv b0 b1 b2] w fun e w' => e = .returned (.bool false) ∧ Below w.heap.size w w' := by
  have H1 := Lib.hid h1
  obtain ⟨w0, hw0⟩ : ∃ w0, w0 = (w.alloc (vblk a0 a1 a2)).alloc (vblk b0 b1 b2) := ⟨_, rfl⟩
  have hS : I2 w0 w.heap.size (w.heap.size + 1) a0 a1 a2 b0 b1 b2 w0 := by
    subst hw0
    exact ⟨Below.refl _ _, ((Row3.new w a0 a1 a2 23 _ rfl).alloc _).c3, (Row3.new (w.alloc (vblk a0 a1 a2)) b0 b1 b2 23 _ (by simp)).c3⟩
  have hB : Below w.heap.size w w0 := by
    subst hw0; exact ((Below.refl w.heap.size w).alloc (Nat.le_refl _) (vblk a0 a1 a2)).alloc (by simp) (vblk b0 b1 b2)
  have HB := Lib.hid hB
  unfold vblk at hw0
  have Hw := Lib.hid hw0
  clear h1 hB hw0
  unfold vv
  go_enter Tryd.func21, Tryd.ntmps21
  go_wp2_with fail
  rw [← Hw.out]
  clear Hw
  refine (rvalid_at _ _ _ false H1.out _).mono ?_
  rintro e w1 ⟨rfl, hb1⟩
  have hI1 := I2.keep hS hb1
  clear hb1
  have h0 := hI1.2.1.1; have h1' := hI1.2.1.2.1; have h2' := hI1.2.1.2.2; have h3' := hI1.2.2.1; have h4' := hI1.2.2.2.1; have h5' := hI1.2.2.2.2
  go_wp2_with fail
  go_ret
  exact ⟨rfl, of2 HB.out hI1⟩

set_option maxRecDepth 100000 in
set_option maxHeartbeats 4000000 in
theorem rcompat_f2 (a0 a1 a2 b0 b1 b2 : Int) (w : World) (h1 : okV a0 a1 a2 = true) (h2 : okV b0 b1 b2 = false) :
    Calls Tryd.prog 21 #[vv a0 a1 a2, vv b0 b1 b2] w fun e w' => e = .returned (.bool false) ∧ Below w.heap.size w w' := by
  have H1 := Lib.hid h1
  have H2 := Lib.hid h2
  obtain ⟨w0, hw0⟩ : ∃ w0, w0 = (w.alloc (vblk a0 a1 a2)).alloc (vblk b0 b1 b2) := ⟨_, rfl⟩
  have hS : I2 w0 w.heap.size (w.heap.size + 1) a0 a1 a2 b0 b1 b2 w0 := by
    subst hw0
    exact ⟨Below.refl _ _, ((Row3.new w a0 a1 a2 23 _ rfl).alloc _).c3, (Row3.new (w.alloc (vblk a0 a1 a2)) b0 b1 b2 23 _ (by simp)).c3⟩
  have hB : Below w.heap.size w w0 := by
    subst hw0; exact ((Below.refl w.heap.size w).alloc (Nat.le_refl _) (vblk a0 a1 a2)).alloc (by simp) (vblk b0 b1 b2)
  have HB := Lib.hid hB
  unfold vblk at hw0
  have Hw := Lib.hid hw0
  clear h1 h2 hB hw0
  unfold vv
  go_enter Tryd.func21, Tryd.ntmps21
  go_wp2_with fail
  rw [← Hw.out]
  clear Hw
  refine (rvalid_at _ _ _ true H1.out _).mono ?_
  rintro e w1 ⟨rfl, hb1⟩
  have hI1 := I2.keep hS hb1
  clear hb1
  have h0 := hI1.2.1.1; have h1' := hI1.2.1.2.1; have h2' := hI1.2.1.2.2; have h3' := hI1.2.2.1; have h4' := hI1.2.2.2.1; have h5' := hI1.2.2.2.2
  go_wp2_with fail
  refine (rvalid_at _ _ _ false H2.out _).mono ?_
  rintro e w2 ⟨rfl, hb2⟩
  have hI2 := I2.keep hI1 hb2
  clear hb2
  clear h0 h1' h2' h3' h4' h5'
  have h0 := hI2.2.1.1; have h1' := hI2.2.1.2.1; have h2' := hI2.2.1.2.2; have h3' := hI2.2.2.1; have h4' := hI2.2.2.2.1; have h5' := hI2.2.2.2.2
  go_wp2_with fail
  go_ret
  exact ⟨rfl, of2 HB.out hI2⟩

set_option maxRecDepth 100000 in
set_option maxHeartbeats 4000000 in
theorem rcompat_lt (a0 a1 a2 b0 b1 b2 : Int) (w : World) (h1 : okV a0 a1 a2 = true) (h2 : okV b0 b1 b2 = true) (h3 : cmp3 b0 b1 b2 a0 a1 a2 = (-1)) :
    Calls Tryd.prog 21 #[vv a0 a1 a2, vv b0 b1 b2] w fun e w' => e = .returned (.bool false) ∧ Below w.heap.size w w' := by
  have H1 := Lib.hid h1
  have H2 := Lib.hid h2
  have H3 := Lib.hid h3
  obtain ⟨w0, hw0⟩ : ∃ w0, w0 = (w.alloc (vblk a0 a1 a2)).alloc (vblk b0 b1 b2) := ⟨_, rfl⟩
  have hS : I2 w0 w.heap.size (w.heap.size + 1) a0 a1 a2 b0 b1 b2 w0 := by
    subst hw0
    exact ⟨Below.refl _ _, ((Row3.new w a0 a1 a2 23 _ rfl).alloc _).c3, (Row3.new (w.alloc (vblk a0 a1 a2)) b0 b1 b2 23 _ (by simp)).c3⟩
  have hB : Below w.heap.size w w0 := by
    subst hw0; exact ((Below.refl w.heap.size w).alloc (Nat.le_refl _) (vblk a0 a1 a2)).alloc (by simp) (vblk b0 b1 b2)
  have HB := Lib.hid hB
  unfold vblk at hw0
  have Hw := Lib.hid hw0
  clear h1 h2 h3 hB hw0
  unfold vv
  go_enter Tryd.func21, Tryd.ntmps21
  go_wp2_with fail
  rw [← Hw.out]
  clear Hw
  refine (rvalid_at _ _ _ true H1.out _).mono ?_
  rintro e w1 ⟨rfl, hb1⟩
  have hI1 := I2.keep hS hb1
  clear hb1
  have h0 := hI1.2.1.1; have h1' := hI1.2.1.2.1; have h2' := hI1.2.1.2.2; have h3' := hI1.2.2.1; have h4' := hI1.2.2.2.1; have h5' := hI1.2.2.2.2
  go_wp2_with fail
  refine (rvalid_at _ _ _ true H2.out _).mono ?_
  rintro e w2 ⟨rfl, hb2⟩
  have hI2 := I2.keep hI1 hb2
  clear hb2
  clear h0 h1' h2' h3' h4' h5'
  have h0 := hI2.2.1.1; have h1' := hI2.2.1.2.1; have h2' := hI2.2.1.2.2; have h3' := hI2.2.2.1; have h4' := hI2.2.2.2.1; have h5' := hI2.2.2.2.2
  go_wp2_with fail
  refine (rcompare_at _ H3.out _).mono ?_
  rintro e w3 ⟨rfl, hb3⟩
  have hI3 := I2.keep hI2 hb3
  clear hb3
  clear h0 h1' h2' h3' h4' h5'
  have h0 := hI3.2.1.1; have h1' := hI3.2.1.2.1; have h2' := hI3.2.1.2.2; have h3' := hI3.2.2.1; have h4' := hI3.2.2.2.1; have h5' := hI3.2.2.2.2
  go_wp2_with fail
  go_ret
  exact ⟨rfl, of2 HB.out hI3⟩

set_option maxRecDepth 100000 in
set_option maxHeartbeats 4000000 in
theorem rcompat_0_ne (a0 a1 a2 b0 b1 b2 : Int) (w : World) (h1 : okV a0 a1 a2 = true) (h2 : okV b0 b1 b2 = true) (h3 : cmp3 b0 b1 b2 a0 a1 a2 = 0) (f0 : (a0 == b0) = false) :
    Calls Tryd.prog 21 #[vv a0 a1 a2, vv b0 b1 b2] w fun e w' => e = .returned (.bool false) ∧ Below w.heap.size w w' := by
  have H1 := Lib.hid h1
  have H2 := Lib.hid h2
  have H3 := Lib.hid h3
  obtain ⟨w0, hw0⟩ : ∃ w0, w0 = (w.alloc (vblk a0 a1 a2)).alloc (vblk b0 b1 b2) := ⟨_, rfl⟩
  have hS : I2 w0 w.heap.size (w.heap.size + 1) a0 a1 a2 b0 b1 b2 w0 := by
    subst hw0
    exact ⟨Below.refl _ _, ((Row3.new w a0 a1 a2 23 _ rfl).alloc _).c3, (Row3.new (w.alloc (vblk a0 a1 a2)) b0 b1 b2 23 _ (by simp)).c3⟩
  have hB : Below w.heap.size w w0 := by
    subst hw0; exact ((Below.refl w.heap.size w).alloc (Nat.le_refl _) (vblk a0 a1 a2)).alloc (by simp) (vblk b0 b1 b2)
  have HB := Lib.hid hB
  unfold vblk at hw0
  have Hw := Lib.hid hw0
  clear h1 h2 h3 hB hw0
  unfold vv
  go_enter Tryd.func21, Tryd.ntmps21
  go_wp2_with fail
  rw [← Hw.out]
  clear Hw
  refine (rvalid_at _ _ _ true H1.out _).mono ?_
  rintro e w1 ⟨rfl, hb1⟩
  have hI1 := I2.keep hS hb1
  clear hb1
  have h0 := hI1.2.1.1; have h1' := hI1.2.1.2.1; have h2' := hI1.2.1.2.2; have h3' := hI1.2.2.1; have h4' := hI1.2.2.2.1; have h5' := hI1.2.2.2.2
  go_wp2_with fail
  refine (rvalid_at _ _ _ true H2.out _).mono ?_
  rintro e w2 ⟨rfl, hb2⟩
  have hI2 := I2.keep hI1 hb2
  clear hb2
  clear h0 h1' h2' h3' h4' h5'
  have h0 := hI2.2.1.1; have h1' := hI2.2.1.2.1; have h2' := hI2.2.1.2.2; have h3' := hI2.2.2.1; have h4' := hI2.2.2.2.1; have h5' := hI2.2.2.2.2
  go_wp2_with fail
  refine (rcompare_at _ H3.out _).mono ?_
  rintro e w3 ⟨rfl, hb3⟩
  have hI3 := I2.keep hI2 hb3
  clear hb3
  clear h0 h1' h2' h3' h4' h5'
  have h0 := hI3.2.1.1; have h1' := hI3.2.1.2.1; have h2' := hI3.2.1.2.2; have h3' := hI3.2.2.1; have h4' := hI3.2.2.2.1; have h5' := hI3.2.2.2.2
  go_wp2_with fail
  go_ret
  exact ⟨rfl, of2 HB.out hI3⟩

set_option maxRecDepth 100000 in
set_option maxHeartbeats 4000000 in
theorem rcompat_0_pos (a0 a1 a2 b0 b1 b2 : Int) (w : World) (h1 : okV a0 a1 a2 = true) (h2 : okV b0 b1 b2 = true) (h3 : cmp3 b0 b1 b2 a0 a1 a2 = 0) (f0 : (a0 == b0) = true) (f1 : 0 < a0) :
    Calls Tryd.prog 21 #[vv a0 a1 a2, vv b0 b1 b2] w fun e w' => e = .returned (.bool true) ∧ Below w.heap.size w w' := by
  have H1 := Lib.hid h1
  have H2 := Lib.hid h2
  have H3 := Lib.hid h3
  obtain ⟨w0, hw0⟩ : ∃ w0, w0 = (w.alloc (vblk a0 a1 a2)).alloc (vblk b0 b1 b2) := ⟨_, rfl⟩
  have hS : I2 w0 w.heap.size (w.heap.size + 1) a0 a1 a2 b0 b1 b2 w0 := by
    subst hw0
    exact ⟨Below.refl _ _, ((Row3.new w a0 a1 a2 23 _ rfl).alloc _).c3, (Row3.new (w.alloc (vblk a0 a1 a2)) b0 b1 b2 23 _ (by simp)).c3⟩
  have hB : Below w.heap.size w w0 := by
    subst hw0; exact ((Below.refl w.heap.size w).alloc (Nat.le_refl _) (vblk a0 a1 a2)).alloc (by simp) (vblk b0 b1 b2)
  have HB := Lib.hid hB
  unfold vblk at hw0
  have Hw := Lib.hid hw0
  clear h1 h2 h3 hB hw0
  unfold vv
  go_enter Tryd.func21, Tryd.ntmps21
  go_wp2_with fail
  rw [← Hw.out]
  clear Hw
  refine (rvalid_at _ _ _ true H1.out _).mono ?_
  rintro e w1 ⟨rfl, hb1⟩
  have hI1 := I2.keep hS hb1
  clear hb1
  have h0 := hI1.2.1.1; have h1' := hI1.2.1.2.1; have h2' := hI1.2.1.2.2; have h3' := hI1.2.2.1; have h4' := hI1.2.2.2.1; have h5' := hI1.2.2.2.2
  go_wp2_with fail
  refine (rvalid_at _ _ _ true H2.out _).mono ?_
  rintro e w2 ⟨rfl, hb2⟩
  have hI2 := I2.keep hI1 hb2
  clear hb2
  clear h0 h1' h2' h3' h4' h5'
  have h0 := hI2.2.1.1; have h1' := hI2.2.1.2.1; have h2' := hI2.2.1.2.2; have h3' := hI2.2.2.1; have h4' := hI2.2.2.2.1; have h5' := hI2.2.2.2.2
  go_wp2_with fail
  refine (rcompare_at _ H3.out _).mono ?_
  rintro e w3 ⟨rfl, hb3⟩
  have hI3 := I2.keep hI2 hb3
  clear hb3
  clear h0 h1' h2' h3' h4' h5'
  have h0 := hI3.2.1.1; have h1' := hI3.2.1.2.1; have h2' := hI3.2.1.2.2; have h3' := hI3.2.2.1; have h4' := hI3.2.2.2.1; have h5' := hI3.2.2.2.2
  go_wp2_with fail
  go_ret
  exact ⟨rfl, of2 HB.out hI3⟩

set_option maxRecDepth 100000 in
set_option maxHeartbeats 4000000 in
theorem rcompat_0_true (a0 a1 a2 b0 b1 b2 : Int) (w : World) (h1 : okV a0 a1 a2 = true) (h2 : okV b0 b1 b2 = true) (h3 : cmp3 b0 b1 b2 a0 a1 a2 = 0) (f0 : (a0 == b0) = true) (f1 : ¬ 0 < a0) (f2 : (a1 == b1) = true) :
    Calls Tryd.prog 21 #[vv a0 a1 a2, vv b0 b1 b2] w fun e w' => e = .returned (.bool true) ∧ Below w.heap.size w w' := by
  have H1 := Lib.hid h1
  have H2 := Lib.hid h2
  have H3 := Lib.hid h3
  obtain ⟨w0, hw0⟩ : ∃ w0, w0 = (w.alloc (vblk a0 a1 a2)).alloc (vblk b0 b1 b2) := ⟨_, rfl⟩
  have hS : I2 w0 w.heap.size (w.heap.size + 1) a0 a1 a2 b0 b1 b2 w0 := by
    subst hw0
    exact ⟨Below.refl _ _, ((Row3.new w a0 a1 a2 23 _ rfl).alloc _).c3, (Row3.new (w.alloc (vblk a0 a1 a2)) b0 b1 b2 23 _ (by simp)).c3⟩
  have hB : Below w.heap.size w w0 := by
    subst hw0; exact ((Below.refl w.heap.size w).alloc (Nat.le_refl _) (vblk a0 a1 a2)).alloc (by simp) (vblk b0 b1 b2)
  have HB := Lib.hid hB
  unfold vblk at hw0
  have Hw := Lib.hid hw0
  clear h1 h2 h3 hB hw0
  unfold vv
  go_enter Tryd.func21, Tryd.ntmps21
  go_wp2_with fail
  rw [← Hw.out]
  clear Hw
  refine (rvalid_at _ _ _ true H1.out _).mono ?_
  rintro e w1 ⟨rfl, hb1⟩
  have hI1 := I2.keep hS hb1
  clear hb1
  have h0 := hI1.2.1.1; have h1' := hI1.2.1.2.1; have h2' := hI1.2.1.2.2; have h3' := hI1.2.2.1; have h4' := hI1.2.2.2.1; have h5' := hI1.2.2.2.2
  go_wp2_with fail
  refine (rvalid_at _ _ _ true H2.out _).mono ?_
  rintro e w2 ⟨rfl, hb2⟩
  have hI2 := I2.keep hI1 hb2
  clear hb2
  clear h0 h1' h2' h3' h4' h5'
  have h0 := hI2.2.1.1; have h1' := hI2.2.1.2.1; have h2' := hI2.2.1.2.2; have h3' := hI2.2.2.1; have h4' := hI2.2.2.2.1; have h5' := hI2.2.2.2.2
  go_wp2_with fail
  refine (rcompare_at _ H3.out _).mono ?_
  rintro e w3 ⟨rfl, hb3⟩
  have hI3 := I2.keep hI2 hb3
  clear hb3
  clear h0 h1' h2' h3' h4' h5'
  have h0 := hI3.2.1.1; have h1' := hI3.2.1.2.1; have h2' := hI3.2.1.2.2; have h3' := hI3.2.2.1; have h4' := hI3.2.2.2.1; have h5' := hI3.2.2.2.2
  go_wp2_with fail
  go_ret
  exact ⟨rfl, of2 HB.out hI3⟩

set_option maxRecDepth 100000 in
set_option maxHeartbeats 4000000 in
theorem rcompat_0_false (a0 a1 a2 b0 b1 b2 : Int) (w : World) (h1 : okV a0 a1 a2 = true) (h2 : okV b0 b1 b2 = true) (h3 : cmp3 b0 b1 b2 a0 a1 a2 = 0) (f0 : (a0 == b0) = true) (f1 : ¬ 0 < a0) (f2 : (a1 == b1) = false) :
    Calls Tryd.prog 21 #[vv a0 a1 a2, vv b0 b1 b2] w fun e w' => e = .returned (.bool false) ∧ Below w.heap.size w w' := by
  have H1 := Lib.hid h1
  have H2 := Lib.hid h2
  have H3 := Lib.hid h3
  obtain ⟨w0, hw0⟩ : ∃ w0, w0 = (w.alloc (vblk a0 a1 a2)).alloc (vblk b0 b1 b2) := ⟨_, rfl⟩
  have hS : I2 w0 w.heap.size (w.heap.size + 1) a0 a1 a2 b0 b1 b2 w0 := by
    subst hw0
    exact ⟨Below.refl _ _, ((Row3.new w a0 a1 a2 23 _ rfl).alloc _).c3, (Row3.new (w.alloc (vblk a0 a1 a2)) b0 b1 b2 23 _ (by simp)).c3⟩
  have hB : Below w.heap.size w w0 := by
    subst hw0; exact ((Below.refl w.heap.size w).alloc (Nat.le_refl _) (vblk a0 a1 a2)).alloc (by simp) (vblk b0 b1 b2)
  have HB := Lib.hid hB
  unfold vblk at hw0
  have Hw := Lib.hid hw0
  clear h1 h2 h3 hB hw0
  unfold vv
  go_enter Tryd.func21, Tryd.ntmps21
  go_wp2_with fail
  rw [← Hw.out]
  clear Hw
  refine (rvalid_at _ _ _ true H1.out _).mono ?_
  rintro e w1 ⟨rfl, hb1⟩
  have hI1 := I2.keep hS hb1
  clear hb1
  have h0 := hI1.2.1.1; have h1' := hI1.2.1.2.1; have h2' := hI1.2.1.2.2; have h3' := hI1.2.2.1; have h4' := hI1.2.2.2.1; have h5' := hI1.2.2.2.2
  go_wp2_with fail
  refine (rvalid_at _ _ _ true H2.out _).mono ?_
  rintro e w2 ⟨rfl, hb2⟩
  have hI2 := I2.keep hI1 hb2
  clear hb2
  clear h0 h1' h2' h3' h4' h5'
  have h0 := hI2.2.1.1; have h1' := hI2.2.1.2.1; have h2' := hI2.2.1.2.2; have h3' := hI2.2.2.1; have h4' := hI2.2.2.2.1; have h5' := hI2.2.2.2.2
  go_wp2_with fail
  refine (rcompare_at _ H3.out _).mono ?_
  rintro e w3 ⟨rfl, hb3⟩
  have hI3 := I2.keep hI2 hb3
  clear hb3
  clear h0 h1' h2' h3' h4' h5'
  have h0 := hI3.2.1.1; have h1' := hI3.2.1.2.1; have h2' := hI3.2.1.2.2; have h3' := hI3.2.2.1; have h4' := hI3.2.2.2.1; have h5' := hI3.2.2.2.2
  go_wp2_with fail
  go_ret
  exact ⟨by show Ending.returned (.bool (decide (0 < a0))) = _; rw [decide_eq_false (show ¬ 0 < a0 by omega)], of2 HB.out hI3⟩

set_option maxRecDepth 100000 in
set_option maxHeartbeats 4000000 in
theorem rcompat_1_ne (a0 a1 a2 b0 b1 b2 : Int) (w : World) (h1 : okV a0 a1 a2 = true) (h2 : okV b0 b1 b2 = true) (h3 : cmp3 b0 b1 b2 a0 a1 a2 = 1) (f0 : (a0 == b0) = false) :
    Calls Tryd.prog 21 #[vv a0 a1 a2, vv b0 b1 b2] w fun e w' => e = .returned (.bool false) ∧ Below w.heap.size w w' := by
  have H1 := Lib.hid h1
  have H2 := Lib.hid h2
  have H3 := Lib.hid h3
  obtain ⟨w0, hw0⟩ : ∃ w0, w0 = (w.alloc (vblk a0 a1 a2)).alloc (vblk b0 b1 b2) := ⟨_, rfl⟩
  have hS : I2 w0 w.heap.size (w.heap.size + 1) a0 a1 a2 b0 b1 b2 w0 := by
    subst hw0
    exact ⟨Below.refl _ _, ((Row3.new w a0 a1 a2 23 _ rfl).alloc _).c3, (Row3.new (w.alloc (vblk a0 a1 a2)) b0 b1 b2 23 _ (by simp)).c3⟩
  have hB : Below w.heap.size w w0 := by
    subst hw0; exact ((Below.refl w.heap.size w).alloc (Nat.le_refl _) (vblk a0 a1 a2)).alloc (by simp) (vblk b0 b1 b2)
  have HB := Lib.hid hB
  unfold vblk at hw0
  have Hw := Lib.hid hw0
  clear h1 h2 h3 hB hw0
  unfold vv
  go_enter Tryd.func21, Tryd.ntmps21
  go_wp2_with fail
  rw [← Hw.out]
  clear Hw
  refine (rvalid_at _ _ _ true H1.out _).mono ?_
  rintro e w1 ⟨rfl, hb1⟩
  have hI1 := I2.keep hS hb1
  clear hb1
  have h0 := hI1.2.1.1; have h1' := hI1.2.1.2.1; have h2' := hI1.2.1.2.2; have h3' := hI1.2.2.1; have h4' := hI1.2.2.2.1; have h5' := hI1.2.2.2.2
  go_wp2_with fail
  refine (rvalid_at _ _ _ true H2.out _).mono ?_
  rintro e w2 ⟨rfl, hb2⟩
  have hI2 := I2.keep hI1 hb2
  clear hb2
  clear h0 h1' h2' h3' h4' h5'
  have h0 := hI2.2.1.1; have h1' := hI2.2.1.2.1; have h2' := hI2.2.1.2.2; have h3' := hI2.2.2.1; have h4' := hI2.2.2.2.1; have h5' := hI2.2.2.2.2
  go_wp2_with fail
  refine (rcompare_at _ H3.out _).mono ?_
  rintro e w3 ⟨rfl, hb3⟩
  have hI3 := I2.keep hI2 hb3
  clear hb3
  clear h0 h1' h2' h3' h4' h5'
  have h0 := hI3.2.1.1; have h1' := hI3.2.1.2.1; have h2' := hI3.2.1.2.2; have h3' := hI3.2.2.1; have h4' := hI3.2.2.2.1; have h5' := hI3.2.2.2.2
  go_wp2_with fail
  go_ret
  exact ⟨rfl, of2 HB.out hI3⟩

set_option maxRecDepth 100000 in
set_option maxHeartbeats 4000000 in
theorem rcompat_1_pos (a0 a1 a2 b0 b1 b2 : Int) (w : World) (h1 : okV a0 a1 a2 = true) (h2 : okV b0 b1 b2 = true) (h3 : cmp3 b0 b1 b2 a0 a1 a2 = 1) (f0 : (a0 == b0) = true) (f1 : 0 < a0) :
    Calls Tryd.prog 21 #[vv a0 a1 a2, vv b0 b1 b2] w fun e w' => e = .returned (.bool true) ∧ Below w.heap.size w w' := by
  have H1 := Lib.hid h1
  have H2 := Lib.hid h2
  have H3 := Lib.hid h3
  obtain ⟨w0, hw0⟩ : ∃ w0, w0 = (w.alloc (vblk a0 a1 a2)).alloc (vblk b0 b1 b2) := ⟨_, rfl⟩
  have hS : I2 w0 w.heap.size (w.heap.size + 1) a0 a1 a2 b0 b1 b2 w0 := by
    subst hw0
    exact ⟨Below.refl _ _, ((Row3.new w a0 a1 a2 23 _ rfl).alloc _).c3, (Row3.new (w.alloc (vblk a0 a1 a2)) b0 b1 b2 23 _ (by simp)).c3⟩
  have hB : Below w.heap.size w w0 := by
    subst hw0; exact ((Below.refl w.heap.size w).alloc (Nat.le_refl _) (vblk a0 a1 a2)).alloc (by simp) (vblk b0 b1 b2)
  have HB := Lib.hid hB
  unfold vblk at hw0
  have Hw := Lib.hid hw0
  clear h1 h2 h3 hB hw0
  unfold vv
  go_enter Tryd.func21, Tryd.ntmps21
  go_wp2_with fail
  rw [← Hw.out]
  clear Hw
  refine (rvalid_at _ _ _ true H1.out _).mono ?_
  rintro e w1 ⟨rfl, hb1⟩
  have hI1 := I2.keep hS hb1
  clear hb1
  have h0 := hI1.2.1.1; have h1' := hI1.2.1.2.1; have h2' := hI1.2.1.2.2; have h3' := hI1.2.2.1; have h4' := hI1.2.2.2.1; have h5' := hI1.2.2.2.2
  go_wp2_with fail
  refine (rvalid_at _ _ _ true H2.out _).mono ?_
  rintro e w2 ⟨rfl, hb2⟩
  have hI2 := I2.keep hI1 hb2
  clear hb2
  clear h0 h1' h2' h3' h4' h5'
  have h0 := hI2.2.1.1; have h1' := hI2.2.1.2.1; have h2' := hI2.2.1.2.2; have h3' := hI2.2.2.1; have h4' := hI2.2.2.2.1; have h5' := hI2.2.2.2.2
  go_wp2_with fail
  refine (rcompare_at _ H3.out _).mono ?_
  rintro e w3 ⟨rfl, hb3⟩
  have hI3 := I2.keep hI2 hb3
  clear hb3
  clear h0 h1' h2' h3' h4' h5'
  have h0 := hI3.2.1.1; have h1' := hI3.2.1.2.1; have h2' := hI3.2.1.2.2; have h3' := hI3.2.2.1; have h4' := hI3.2.2.2.1; have h5' := hI3.2.2.2.2
  go_wp2_with fail
  go_ret
  exact ⟨rfl, of2 HB.out hI3⟩

set_option maxRecDepth 100000 in
set_option maxHeartbeats 4000000 in
theorem rcompat_1_true (a0 a1 a2 b0 b1 b2 : Int) (w : World) (h1 : okV a0 a1 a2 = true) (h2 : okV b0 b1 b2 = true) (h3 : cmp3 b0 b1 b2 a0 a1 a2 = 1) (f0 : (a0 == b0) = true) (f1 : ¬ 0 < a0) (f2 : (a1 == b1) = true) :
    Calls Tryd.prog 21 #[vv a0 a1 a2, vv b0 b1 b2] w fun e w' => e = .returned (.bool true) ∧ Below w.heap.size w w' := by
  have H1 := Lib.hid h1
  have H2 := Lib.hid h2
  have H3 := Lib.hid h3
  obtain ⟨w0, hw0⟩ : ∃ w0, w0 = (w.alloc (vblk a0 a1 a2)).alloc (vblk b0 b1 b2) := ⟨_, rfl⟩
  have hS : I2 w0 w.heap.size (w.heap.size + 1) a0 a1 a2 b0 b1 b2 w0 := by
    subst hw0
    exact ⟨Below.refl _ _, ((Row3.new w a0 a1 a2 23 _ rfl).alloc _).c3, (Row3.new (w.alloc (vblk a0 a1 a2)) b0 b1 b2 23 _ (by simp)).c3⟩
  have hB : Below w.heap.size w w0 := by
    subst hw0; exact ((Below.refl w.heap.size w).alloc (Nat.le_refl _) (vblk a0 a1 a2)).alloc (by simp) (vblk b0 b1 b2)
  have HB := Lib.hid hB
  unfold vblk at hw0
  have Hw := Lib.hid hw0
  clear h1 h2 h3 hB hw0
  unfold vv
  go_enter Tryd.func21, Tryd.ntmps21
  go_wp2_with fail
  rw [← Hw.out]
  clear Hw
  refine (rvalid_at _ _ _ true H1.out _).mono ?_
  rintro e w1 ⟨rfl, hb1⟩
  have hI1 := I2.keep hS hb1
  clear hb1
  have h0 := hI1.2.1.1; have h1' := hI1.2.1.2.1; have h2' := hI1.2.1.2.2; have h3' := hI1.2.2.1; have h4' := hI1.2.2.2.1; have h5' := hI1.2.2.2.2
  go_wp2_with fail
  refine (rvalid_at _ _ _ true H2.out _).mono ?_
  rintro e w2 ⟨rfl, hb2⟩
  have hI2 := I2.keep hI1 hb2
  clear hb2
  clear h0 h1' h2' h3' h4' h5'
  have h0 := hI2.2.1.1; have h1' := hI2.2.1.2.1; have h2' := hI2.2.1.2.2; have h3' := hI2.2.2.1; have h4' := hI2.2.2.2.1; have h5' := hI2.2.2.2.2
  go_wp2_with fail
  refine (rcompare_at _ H3.out _).mono ?_
  rintro e w3 ⟨rfl, hb3⟩
  have hI3 := I2.keep hI2 hb3
  clear hb3
  clear h0 h1' h2' h3' h4' h5'
  have h0 := hI3.2.1.1; have h1' := hI3.2.1.2.1; have h2' := hI3.2.1.2.2; have h3' := hI3.2.2.1; have h4' := hI3.2.2.2.1; have h5' := hI3.2.2.2.2
  go_wp2_with fail
  go_ret
  exact ⟨rfl, of2 HB.out hI3⟩

set_option maxRecDepth 100000 in
set_option maxHeartbeats 4000000 in
theorem rcompat_1_false (a0 a1 a2 b0 b1 b2 : Int) (w : World) (h1 : okV a0 a1 a2 = true) (h2 : okV b0 b1 b2 = true) (h3 : cmp3 b0 b1 b2 a0 a1 a2 = 1) (f0 : (a0 == b0) = true) (f1 : ¬ 0 < a0) (f2 : (a1 == b1) = false) :
    Calls Tryd.prog 21 #[vv a0 a1 a2, vv b0 b1 b2] w fun e w' => e = .returned (.bool false) ∧ Below w.heap.size w w' := by
  have H1 := Lib.hid h1
  have H2 := Lib.hid h2
  have H3 := Lib.hid h3
  obtain ⟨w0, hw0⟩ : ∃ w0, w0 = (w.alloc (vblk a0 a1 a2)).alloc (vblk b0 b1 b2) := ⟨_, rfl⟩
  have hS : I2 w0 w.heap.size (w.heap.size + 1) a0 a1 a2 b0 b1 b2 w0 := by
    subst hw0
    exact ⟨Below.refl _ _, ((Row3.new w a0 a1 a2 23 _ rfl).alloc _).c3, (Row3.new (w.alloc (vblk a0 a1 a2)) b0 b1 b2 23 _ (by simp)).c3⟩
  have hB : Below w.heap.size w w0 := by
    subst hw0; exact ((Below.refl w.heap.size w).alloc (Nat.le_refl _) (vblk a0 a1 a2)).alloc (by simp) (vblk b0 b1 b2)
  have HB := Lib.hid hB
  unfold vblk at hw0
  have Hw := Lib.hid hw0
  clear h1 h2 h3 hB hw0
  unfold vv
  go_enter Tryd.func21, Tryd.ntmps21
  go_wp2_with fail
  rw [← Hw.out]
  clear Hw
  refine (rvalid_at _ _ _ true H1.out _).mono ?_
  rintro e w1 ⟨rfl, hb1⟩
  have hI1 := I2.keep hS hb1
  clear hb1
  have h0 := hI1.2.1.1; have h1' := hI1.2.1.2.1; have h2' := hI1.2.1.2.2; have h3' := hI1.2.2.1; have h4' := hI1.2.2.2.1; have h5' := hI1.2.2.2.2
  go_wp2_with fail
  refine (rvalid_at _ _ _ true H2.out _).mono ?_
  rintro e w2 ⟨rfl, hb2⟩
  have hI2 := I2.keep hI1 hb2
  clear hb2
  clear h0 h1' h2' h3' h4' h5'
  have h0 := hI2.2.1.1; have h1' := hI2.2.1.2.1; have h2' := hI2.2.1.2.2; have h3' := hI2.2.2.1; have h4' := hI2.2.2.2.1; have h5' := hI2.2.2.2.2
  go_wp2_with fail
  refine (rcompare_at _ H3.out _).mono ?_
  rintro e w3 ⟨rfl, hb3⟩
  have hI3 := I2.keep hI2 hb3
  clear hb3
  clear h0 h1' h2' h3' h4' h5'
  have h0 := hI3.2.1.1; have h1' := hI3.2.1.2.1; have h2' := hI3.2.1.2.2; have h3' := hI3.2.2.1; have h4' := hI3.2.2.2.1; have h5' := hI3.2.2.2.2
  go_wp2_with fail
  go_ret
  exact ⟨by show Ending.returned (.bool (decide (0 < a0))) = _; rw [decide_eq_false (show ¬ 0 < a0 by omega)], of2 HB.out hI3⟩

theorem rcompat_any (a0 a1 a2 b0 b1 b2 : Int) (w : World) :
    Calls Tryd.prog 21 #[vv a0 a1 a2, vv b0 b1 b2] w fun e w' => e = .returned (.bool (rcompB a0 a1 a2 b0 b1 b2)) ∧ Below w.heap.size w w' := by
  unfold rcompB
  cases h1 : okV a0 a1 a2
  · exact rcompat_f1 _ _ _ _ _ _ w h1
  · cases h2 : okV b0 b1 b2
    · exact rcompat_f2 _ _ _ _ _ _ w h1 h2
    · rcases cmp3_cases b0 b1 b2 a0 a1 a2 with ⟨_, h3⟩ | ⟨_, h3⟩ | ⟨_, h3⟩ <;> rw [h3]
      · exact rcompat_lt _ _ _ _ _ _ w h1 h2 h3
      · cases f0 : a0 == b0
        · exact rcompat_0_ne _ _ _ _ _ _ w h1 h2 h3 f0
        · by_cases f1 : 0 < a0
          · rw [decide_eq_true f1]; exact rcompat_0_pos _ _ _ _ _ _ w h1 h2 h3 f0 f1
          · rw [decide_eq_false (show ¬ 0 < a0 by omega)]
            cases f2 : a1 == b1
            · exact rcompat_0_false _ _ _ _ _ _ w h1 h2 h3 f0 f1 f2
            · exact rcompat_0_true _ _ _ _ _ _ w h1 h2 h3 f0 f1 f2
      · cases f0 : a0 == b0
        · exact rcompat_1_ne _ _ _ _ _ _ w h1 h2 h3 f0
        · by_cases f1 : 0 < a0
          · rw [decide_eq_true f1]; exact rcompat_1_pos _ _ _ _ _ _ w h1 h2 h3 f0 f1
          · rw [decide_eq_false (show ¬ 0 < a0 by omega)]
            cases f2 : a1 == b1
            · exact rcompat_1_false _ _ _ _ _ _ w h1 h2 h3 f0 f1 f2
            · exact rcompat_1_true _ _ _ _ _ _ w h1 h2 h3 f0 f1 f2
theorem rcompat_at {a0 a1 a2 b0 b1 b2 : Int} (v : Bool) (h : rcompB a0 a1 a2 b0 b1 b2 = v) (w : World) :
    Calls Tryd.prog 21 #[vv a0 a1 a2, vv b0 b1 b2] w fun e w' => e = .returned (.bool v) ∧ Below w.heap.size w w' := by
  have := rcompat_any a0 a1 a2 b0 b1 b2 w; rw [h] at this; exact this
end Go.Proofs.YteeagengliaakaaDoor
