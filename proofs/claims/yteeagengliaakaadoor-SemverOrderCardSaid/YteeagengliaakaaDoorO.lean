import Derived.Test.YteeagengliaakaaDoorM
namespace Go.Proofs.YteeagengliaakaaDoor
open Go.RowKit
set_option maxRecDepth 100000 in
set_option maxHeartbeats 4000000 in
theorem order_m1_m1 (a0 a1 a2 b0 b1 b2 c0 c1 c2 : Int) (w : World) (hM : Mx w) (h1 : cmp3 a0 a1 a2 b0 b1 b2 = (-1)) (h2 : cmp3 b0 b1 b2 c0 c1 c2 = (-1)) (h3 : cmp3 a0 a1 a2 c0 c1 c2 = (-1)) (h4 : cmp3 b0 b1 b2 a0 a1 a2 = 1)
    (he : (a0 == b0 && (a1 == b1 && a2 == b2)) = false) :
    Calls Tryd.prog 8 #[vv a0 a1 a2, vv b0 b1 b2, vv c0 c1 c2] w fun e w' => e = .returned (.bool true) ∧ Below w.heap.size w w' := by
  have q : ∀ w, (Op.equalIn 10000 23 (vv a0 a1 a2) (vv b0 b1 b2)).run Tryd.prog w = .ok false w := fun w => by rw [eqV, he]
  have H1 := Lib.hid h1
  have H2 := Lib.hid h2
  have H3 := Lib.hid h3
  have H4 := Lib.hid h4
  obtain ⟨w0, hw0⟩ : ∃ w0, w0 = ((w.alloc (vblk a0 a1 a2)).alloc (vblk b0 b1 b2)).alloc (vblk c0 c1 c2) := ⟨_, rfl⟩
  have hS : I3 w0 w.heap.size (w.heap.size + 1) (w.heap.size + 1 + 1) a0 a1 a2 b0 b1 b2 c0 c1 c2 w0 := by
    subst hw0
    exact ⟨Below.refl _ _, (((Row3.new w a0 a1 a2 23 _ rfl).alloc _).alloc _).c3, ((Row3.new (w.alloc (vblk a0 a1 a2)) b0 b1 b2 23 _ (by simp)).alloc _).c3, (Row3.new ((w.alloc (vblk a0 a1 a2)).alloc (vblk b0 b1 b2)) c0 c1 c2 23 _ (by simp)).c3⟩
  have hB : Below w.heap.size w w0 := by
    subst hw0; exact (((Below.refl w.heap.size w).alloc (Nat.le_refl _) (vblk a0 a1 a2)).alloc (by simp) (vblk b0 b1 b2)).alloc (by simp; omega) (vblk c0 c1 c2)
  have HM := Lib.hid (hM.keep hB hM.1)
  have HB := Lib.hid hB
  unfold vblk at hw0
  have Hw := Lib.hid hw0
  clear h1 h2 h3 h4 he hM hB hw0
  unfold vv at q ⊢
  go_enter Tryd.func8, Tryd.ntmps8
  go_wp2_with fail
  rw [← Hw.out]
  clear Hw
  go_region_held3 (fun w' => I3 w0 w.heap.size (w.heap.size + 1) (w.heap.size + 1 + 1) a0 a1 a2 b0 b1 b2 c0 c1 c2 w') (first | exact I3.keep hS ((Below.refl _ _).drew) | exact I3.keep (by assumption) (by assumption))
    (first | (go_at_call 18; ((with_reducible refine (compare_at _ H1.out _).mono ?_)); rintro e w' ⟨rfl, hbN⟩) | (go_at_call 18; ((with_reducible refine (compare_at _ H2.out _).mono ?_)); rintro e w' ⟨rfl, hbN⟩) | (go_at_call 18; ((with_reducible refine (compare_at _ H3.out _).mono ?_)); rintro e w' ⟨rfl, hbN⟩))
  go_wp2_with fail
  refine (compare_at _ H4.out _).mono ?_
  rintro e wx ⟨rfl, hbx⟩
  have hSx := I3.keep (by assumption) hbx
  clear hbx
  go_wp2_with fail
  refine (example_any _ (mx3 HM.out hSx)).mono ?_
  rintro e wy ⟨rfl, hby⟩
  have HSy := Lib.hid (of3 HB.out (I3.keep hSx hby))
  clear hby
  go_wp2_with fail
  go_ret
  exact ⟨rfl, HSy.out⟩

set_option maxRecDepth 100000 in
set_option maxHeartbeats 4000000 in
theorem order_m1_0 (a0 a1 a2 b0 b1 b2 c0 c1 c2 : Int) (w : World) (hM : Mx w) (h1 : cmp3 a0 a1 a2 b0 b1 b2 = (-1)) (h2 : cmp3 b0 b1 b2 c0 c1 c2 = 0) (h3 : cmp3 a0 a1 a2 c0 c1 c2 = (-1)) (h4 : cmp3 b0 b1 b2 a0 a1 a2 = 1)
    (he : (a0 == b0 && (a1 == b1 && a2 == b2)) = false) :
    Calls Tryd.prog 8 #[vv a0 a1 a2, vv b0 b1 b2, vv c0 c1 c2] w fun e w' => e = .returned (.bool true) ∧ Below w.heap.size w w' := by
  have q : ∀ w, (Op.equalIn 10000 23 (vv a0 a1 a2) (vv b0 b1 b2)).run Tryd.prog w = .ok false w := fun w => by rw [eqV, he]
  have H1 := Lib.hid h1
  have H2 := Lib.hid h2
  have H3 := Lib.hid h3
  have H4 := Lib.hid h4
  obtain ⟨w0, hw0⟩ : ∃ w0, w0 = ((w.alloc (vblk a0 a1 a2)).alloc (vblk b0 b1 b2)).alloc (vblk c0 c1 c2) := ⟨_, rfl⟩
  have hS : I3 w0 w.heap.size (w.heap.size + 1) (w.heap.size + 1 + 1) a0 a1 a2 b0 b1 b2 c0 c1 c2 w0 := by
    subst hw0
    exact ⟨Below.refl _ _, (((Row3.new w a0 a1 a2 23 _ rfl).alloc _).alloc _).c3, ((Row3.new (w.alloc (vblk a0 a1 a2)) b0 b1 b2 23 _ (by simp)).alloc _).c3, (Row3.new ((w.alloc (vblk a0 a1 a2)).alloc (vblk b0 b1 b2)) c0 c1 c2 23 _ (by simp)).c3⟩
  have hB : Below w.heap.size w w0 := by
    subst hw0; exact (((Below.refl w.heap.size w).alloc (Nat.le_refl _) (vblk a0 a1 a2)).alloc (by simp) (vblk b0 b1 b2)).alloc (by simp; omega) (vblk c0 c1 c2)
  have HM := Lib.hid (hM.keep hB hM.1)
  have HB := Lib.hid hB
  unfold vblk at hw0
  have Hw := Lib.hid hw0
  clear h1 h2 h3 h4 he hM hB hw0
  unfold vv at q ⊢
  go_enter Tryd.func8, Tryd.ntmps8
  go_wp2_with fail
  rw [← Hw.out]
  clear Hw
  go_region_held3 (fun w' => I3 w0 w.heap.size (w.heap.size + 1) (w.heap.size + 1 + 1) a0 a1 a2 b0 b1 b2 c0 c1 c2 w') (first | exact I3.keep hS ((Below.refl _ _).drew) | exact I3.keep (by assumption) (by assumption))
    (first | (go_at_call 18; ((with_reducible refine (compare_at _ H1.out _).mono ?_)); rintro e w' ⟨rfl, hbN⟩) | (go_at_call 18; ((with_reducible refine (compare_at _ H2.out _).mono ?_)); rintro e w' ⟨rfl, hbN⟩) | (go_at_call 18; ((with_reducible refine (compare_at _ H3.out _).mono ?_)); rintro e w' ⟨rfl, hbN⟩))
  go_wp2_with fail
  refine (compare_at _ H4.out _).mono ?_
  rintro e wx ⟨rfl, hbx⟩
  have hSx := I3.keep (by assumption) hbx
  clear hbx
  go_wp2_with fail
  refine (example_any _ (mx3 HM.out hSx)).mono ?_
  rintro e wy ⟨rfl, hby⟩
  have HSy := Lib.hid (of3 HB.out (I3.keep hSx hby))
  clear hby
  go_wp2_with fail
  go_ret
  exact ⟨rfl, HSy.out⟩

set_option maxRecDepth 100000 in
set_option maxHeartbeats 4000000 in
theorem order_m1_1 (a0 a1 a2 b0 b1 b2 c0 c1 c2 : Int) (k : Int) (w : World) (hM : Mx w) (h1 : cmp3 a0 a1 a2 b0 b1 b2 = (-1)) (h2 : cmp3 b0 b1 b2 c0 c1 c2 = 1) (h3 : cmp3 a0 a1 a2 c0 c1 c2 = k) (h4 : cmp3 b0 b1 b2 a0 a1 a2 = 1)
    (he : (a0 == b0 && (a1 == b1 && a2 == b2)) = false) :
    Calls Tryd.prog 8 #[vv a0 a1 a2, vv b0 b1 b2, vv c0 c1 c2] w fun e w' => e = .returned (.bool true) ∧ Below w.heap.size w w' := by
  have q : ∀ w, (Op.equalIn 10000 23 (vv a0 a1 a2) (vv b0 b1 b2)).run Tryd.prog w = .ok false w := fun w => by rw [eqV, he]
  have H1 := Lib.hid h1
  have H2 := Lib.hid h2
  have H3 := Lib.hid h3
  have H4 := Lib.hid h4
  obtain ⟨w0, hw0⟩ : ∃ w0, w0 = ((w.alloc (vblk a0 a1 a2)).alloc (vblk b0 b1 b2)).alloc (vblk c0 c1 c2) := ⟨_, rfl⟩
  have hS : I3 w0 w.heap.size (w.heap.size + 1) (w.heap.size + 1 + 1) a0 a1 a2 b0 b1 b2 c0 c1 c2 w0 := by
    subst hw0
    exact ⟨Below.refl _ _, (((Row3.new w a0 a1 a2 23 _ rfl).alloc _).alloc _).c3, ((Row3.new (w.alloc (vblk a0 a1 a2)) b0 b1 b2 23 _ (by simp)).alloc _).c3, (Row3.new ((w.alloc (vblk a0 a1 a2)).alloc (vblk b0 b1 b2)) c0 c1 c2 23 _ (by simp)).c3⟩
  have hB : Below w.heap.size w w0 := by
    subst hw0; exact (((Below.refl w.heap.size w).alloc (Nat.le_refl _) (vblk a0 a1 a2)).alloc (by simp) (vblk b0 b1 b2)).alloc (by simp; omega) (vblk c0 c1 c2)
  have HM := Lib.hid (hM.keep hB hM.1)
  have HB := Lib.hid hB
  unfold vblk at hw0
  have Hw := Lib.hid hw0
  clear h1 h2 h3 h4 he hM hB hw0
  unfold vv at q ⊢
  go_enter Tryd.func8, Tryd.ntmps8
  go_wp2_with fail
  rw [← Hw.out]
  clear Hw
  go_region_held3 (fun w' => I3 w0 w.heap.size (w.heap.size + 1) (w.heap.size + 1 + 1) a0 a1 a2 b0 b1 b2 c0 c1 c2 w') (first | exact I3.keep hS ((Below.refl _ _).drew) | exact I3.keep (by assumption) (by assumption))
    (first | (go_at_call 18; ((with_reducible refine (compare_at _ H1.out _).mono ?_)); rintro e w' ⟨rfl, hbN⟩) | (go_at_call 18; ((with_reducible refine (compare_at _ H2.out _).mono ?_)); rintro e w' ⟨rfl, hbN⟩) | (go_at_call 18; ((with_reducible refine (compare_at _ H3.out _).mono ?_)); rintro e w' ⟨rfl, hbN⟩))
  go_wp2_with fail
  refine (compare_at _ H4.out _).mono ?_
  rintro e wx ⟨rfl, hbx⟩
  have hSx := I3.keep (by assumption) hbx
  clear hbx
  go_wp2_with fail
  refine (example_any _ (mx3 HM.out hSx)).mono ?_
  rintro e wy ⟨rfl, hby⟩
  have HSy := Lib.hid (of3 HB.out (I3.keep hSx hby))
  clear hby
  go_wp2_with fail
  go_ret
  exact ⟨rfl, HSy.out⟩

set_option maxRecDepth 100000 in
set_option maxHeartbeats 4000000 in
theorem order_0_m1 (a0 a1 a2 b0 b1 b2 c0 c1 c2 : Int) (w : World) (hM : Mx w) (h1 : cmp3 a0 a1 a2 b0 b1 b2 = 0) (h2 : cmp3 b0 b1 b2 c0 c1 c2 = (-1)) (h3 : cmp3 a0 a1 a2 c0 c1 c2 = (-1)) (h4 : cmp3 b0 b1 b2 a0 a1 a2 = 0)
    (he : (a0 == b0 && (a1 == b1 && a2 == b2)) = true) :
    Calls Tryd.prog 8 #[vv a0 a1 a2, vv b0 b1 b2, vv c0 c1 c2] w fun e w' => e = .returned (.bool true) ∧ Below w.heap.size w w' := by
  have q : ∀ w, (Op.equalIn 10000 23 (vv a0 a1 a2) (vv b0 b1 b2)).run Tryd.prog w = .ok true w := fun w => by rw [eqV, he]
  have H1 := Lib.hid h1
  have H2 := Lib.hid h2
  have H3 := Lib.hid h3
  have H4 := Lib.hid h4
  obtain ⟨w0, hw0⟩ : ∃ w0, w0 = ((w.alloc (vblk a0 a1 a2)).alloc (vblk b0 b1 b2)).alloc (vblk c0 c1 c2) := ⟨_, rfl⟩
  have hS : I3 w0 w.heap.size (w.heap.size + 1) (w.heap.size + 1 + 1) a0 a1 a2 b0 b1 b2 c0 c1 c2 w0 := by
    subst hw0
    exact ⟨Below.refl _ _, (((Row3.new w a0 a1 a2 23 _ rfl).alloc _).alloc _).c3, ((Row3.new (w.alloc (vblk a0 a1 a2)) b0 b1 b2 23 _ (by simp)).alloc _).c3, (Row3.new ((w.alloc (vblk a0 a1 a2)).alloc (vblk b0 b1 b2)) c0 c1 c2 23 _ (by simp)).c3⟩
  have hB : Below w.heap.size w w0 := by
    subst hw0; exact (((Below.refl w.heap.size w).alloc (Nat.le_refl _) (vblk a0 a1 a2)).alloc (by simp) (vblk b0 b1 b2)).alloc (by simp; omega) (vblk c0 c1 c2)
  have HM := Lib.hid (hM.keep hB hM.1)
  have HB := Lib.hid hB
  unfold vblk at hw0
  have Hw := Lib.hid hw0
  clear h1 h2 h3 h4 he hM hB hw0
  unfold vv at q ⊢
  go_enter Tryd.func8, Tryd.ntmps8
  go_wp2_with fail
  rw [← Hw.out]
  clear Hw
  go_region_held3 (fun w' => I3 w0 w.heap.size (w.heap.size + 1) (w.heap.size + 1 + 1) a0 a1 a2 b0 b1 b2 c0 c1 c2 w') (first | exact I3.keep hS ((Below.refl _ _).drew) | exact I3.keep (by assumption) (by assumption))
    (first | (go_at_call 18; ((with_reducible refine (compare_at _ H1.out _).mono ?_)); rintro e w' ⟨rfl, hbN⟩) | (go_at_call 18; ((with_reducible refine (compare_at _ H2.out _).mono ?_)); rintro e w' ⟨rfl, hbN⟩) | (go_at_call 18; ((with_reducible refine (compare_at _ H3.out _).mono ?_)); rintro e w' ⟨rfl, hbN⟩))
  go_wp2_with fail
  refine (compare_at _ H4.out _).mono ?_
  rintro e wx ⟨rfl, hbx⟩
  have hSx := I3.keep (by assumption) hbx
  clear hbx
  go_wp2_with fail
  refine (example_any _ (mx3 HM.out hSx)).mono ?_
  rintro e wy ⟨rfl, hby⟩
  have HSy := Lib.hid (of3 HB.out (I3.keep hSx hby))
  clear hby
  go_wp2_with fail
  go_ret
  exact ⟨rfl, HSy.out⟩

set_option maxRecDepth 100000 in
set_option maxHeartbeats 4000000 in
theorem order_0_0 (a0 a1 a2 b0 b1 b2 c0 c1 c2 : Int) (w : World) (hM : Mx w) (h1 : cmp3 a0 a1 a2 b0 b1 b2 = 0) (h2 : cmp3 b0 b1 b2 c0 c1 c2 = 0) (h3 : cmp3 a0 a1 a2 c0 c1 c2 = 0) (h4 : cmp3 b0 b1 b2 a0 a1 a2 = 0)
    (he : (a0 == b0 && (a1 == b1 && a2 == b2)) = true) :
    Calls Tryd.prog 8 #[vv a0 a1 a2, vv b0 b1 b2, vv c0 c1 c2] w fun e w' => e = .returned (.bool true) ∧ Below w.heap.size w w' := by
  have q : ∀ w, (Op.equalIn 10000 23 (vv a0 a1 a2) (vv b0 b1 b2)).run Tryd.prog w = .ok true w := fun w => by rw [eqV, he]
  have H1 := Lib.hid h1
  have H2 := Lib.hid h2
  have H3 := Lib.hid h3
  have H4 := Lib.hid h4
  obtain ⟨w0, hw0⟩ : ∃ w0, w0 = ((w.alloc (vblk a0 a1 a2)).alloc (vblk b0 b1 b2)).alloc (vblk c0 c1 c2) := ⟨_, rfl⟩
  have hS : I3 w0 w.heap.size (w.heap.size + 1) (w.heap.size + 1 + 1) a0 a1 a2 b0 b1 b2 c0 c1 c2 w0 := by
    subst hw0
    exact ⟨Below.refl _ _, (((Row3.new w a0 a1 a2 23 _ rfl).alloc _).alloc _).c3, ((Row3.new (w.alloc (vblk a0 a1 a2)) b0 b1 b2 23 _ (by simp)).alloc _).c3, (Row3.new ((w.alloc (vblk a0 a1 a2)).alloc (vblk b0 b1 b2)) c0 c1 c2 23 _ (by simp)).c3⟩
  have hB : Below w.heap.size w w0 := by
    subst hw0; exact (((Below.refl w.heap.size w).alloc (Nat.le_refl _) (vblk a0 a1 a2)).alloc (by simp) (vblk b0 b1 b2)).alloc (by simp; omega) (vblk c0 c1 c2)
  have HM := Lib.hid (hM.keep hB hM.1)
  have HB := Lib.hid hB
  unfold vblk at hw0
  have Hw := Lib.hid hw0
  clear h1 h2 h3 h4 he hM hB hw0
  unfold vv at q ⊢
  go_enter Tryd.func8, Tryd.ntmps8
  go_wp2_with fail
  rw [← Hw.out]
  clear Hw
  go_region_held3 (fun w' => I3 w0 w.heap.size (w.heap.size + 1) (w.heap.size + 1 + 1) a0 a1 a2 b0 b1 b2 c0 c1 c2 w') (first | exact I3.keep hS ((Below.refl _ _).drew) | exact I3.keep (by assumption) (by assumption))
    (first | (go_at_call 18; ((with_reducible refine (compare_at _ H1.out _).mono ?_)); rintro e w' ⟨rfl, hbN⟩) | (go_at_call 18; ((with_reducible refine (compare_at _ H2.out _).mono ?_)); rintro e w' ⟨rfl, hbN⟩) | (go_at_call 18; ((with_reducible refine (compare_at _ H3.out _).mono ?_)); rintro e w' ⟨rfl, hbN⟩))
  go_wp2_with fail
  refine (compare_at _ H4.out _).mono ?_
  rintro e wx ⟨rfl, hbx⟩
  have hSx := I3.keep (by assumption) hbx
  clear hbx
  go_wp2_with fail
  refine (example_any _ (mx3 HM.out hSx)).mono ?_
  rintro e wy ⟨rfl, hby⟩
  have HSy := Lib.hid (of3 HB.out (I3.keep hSx hby))
  clear hby
  go_wp2_with fail
  go_ret
  exact ⟨rfl, HSy.out⟩

set_option maxRecDepth 100000 in
set_option maxHeartbeats 4000000 in
theorem order_0_1 (a0 a1 a2 b0 b1 b2 c0 c1 c2 : Int) (k : Int) (w : World) (hM : Mx w) (h1 : cmp3 a0 a1 a2 b0 b1 b2 = 0) (h2 : cmp3 b0 b1 b2 c0 c1 c2 = 1) (h3 : cmp3 a0 a1 a2 c0 c1 c2 = k) (h4 : cmp3 b0 b1 b2 a0 a1 a2 = 0)
    (he : (a0 == b0 && (a1 == b1 && a2 == b2)) = true) :
    Calls Tryd.prog 8 #[vv a0 a1 a2, vv b0 b1 b2, vv c0 c1 c2] w fun e w' => e = .returned (.bool true) ∧ Below w.heap.size w w' := by
  have q : ∀ w, (Op.equalIn 10000 23 (vv a0 a1 a2) (vv b0 b1 b2)).run Tryd.prog w = .ok true w := fun w => by rw [eqV, he]
  have H1 := Lib.hid h1
  have H2 := Lib.hid h2
  have H3 := Lib.hid h3
  have H4 := Lib.hid h4
  obtain ⟨w0, hw0⟩ : ∃ w0, w0 = ((w.alloc (vblk a0 a1 a2)).alloc (vblk b0 b1 b2)).alloc (vblk c0 c1 c2) := ⟨_, rfl⟩
  have hS : I3 w0 w.heap.size (w.heap.size + 1) (w.heap.size + 1 + 1) a0 a1 a2 b0 b1 b2 c0 c1 c2 w0 := by
    subst hw0
    exact ⟨Below.refl _ _, (((Row3.new w a0 a1 a2 23 _ rfl).alloc _).alloc _).c3, ((Row3.new (w.alloc (vblk a0 a1 a2)) b0 b1 b2 23 _ (by simp)).alloc _).c3, (Row3.new ((w.alloc (vblk a0 a1 a2)).alloc (vblk b0 b1 b2)) c0 c1 c2 23 _ (by simp)).c3⟩
  have hB : Below w.heap.size w w0 := by
    subst hw0; exact (((Below.refl w.heap.size w).alloc (Nat.le_refl _) (vblk a0 a1 a2)).alloc (by simp) (vblk b0 b1 b2)).alloc (by simp; omega) (vblk c0 c1 c2)
  have HM := Lib.hid (hM.keep hB hM.1)
  have HB := Lib.hid hB
  unfold vblk at hw0
  have Hw := Lib.hid hw0
  clear h1 h2 h3 h4 he hM hB hw0
  unfold vv at q ⊢
  go_enter Tryd.func8, Tryd.ntmps8
  go_wp2_with fail
  rw [← Hw.out]
  clear Hw
  go_region_held3 (fun w' => I3 w0 w.heap.size (w.heap.size + 1) (w.heap.size + 1 + 1) a0 a1 a2 b0 b1 b2 c0 c1 c2 w') (first | exact I3.keep hS ((Below.refl _ _).drew) | exact I3.keep (by assumption) (by assumption))
    (first | (go_at_call 18; ((with_reducible refine (compare_at _ H1.out _).mono ?_)); rintro e w' ⟨rfl, hbN⟩) | (go_at_call 18; ((with_reducible refine (compare_at _ H2.out _).mono ?_)); rintro e w' ⟨rfl, hbN⟩) | (go_at_call 18; ((with_reducible refine (compare_at _ H3.out _).mono ?_)); rintro e w' ⟨rfl, hbN⟩))
  go_wp2_with fail
  refine (compare_at _ H4.out _).mono ?_
  rintro e wx ⟨rfl, hbx⟩
  have hSx := I3.keep (by assumption) hbx
  clear hbx
  go_wp2_with fail
  refine (example_any _ (mx3 HM.out hSx)).mono ?_
  rintro e wy ⟨rfl, hby⟩
  have HSy := Lib.hid (of3 HB.out (I3.keep hSx hby))
  clear hby
  go_wp2_with fail
  go_ret
  exact ⟨rfl, HSy.out⟩

set_option maxRecDepth 100000 in
set_option maxHeartbeats 4000000 in
theorem order_1_m1 (a0 a1 a2 b0 b1 b2 c0 c1 c2 : Int) (k : Int) (w : World) (hM : Mx w) (h1 : cmp3 a0 a1 a2 b0 b1 b2 = 1) (h2 : cmp3 b0 b1 b2 c0 c1 c2 = (-1)) (h3 : cmp3 a0 a1 a2 c0 c1 c2 = k) (h4 : cmp3 b0 b1 b2 a0 a1 a2 = (-1))
    (he : (a0 == b0 && (a1 == b1 && a2 == b2)) = false) :
    Calls Tryd.prog 8 #[vv a0 a1 a2, vv b0 b1 b2, vv c0 c1 c2] w fun e w' => e = .returned (.bool true) ∧ Below w.heap.size w w' := by
  have q : ∀ w, (Op.equalIn 10000 23 (vv a0 a1 a2) (vv b0 b1 b2)).run Tryd.prog w = .ok false w := fun w => by rw [eqV, he]
  have H1 := Lib.hid h1
  have H2 := Lib.hid h2
  have H3 := Lib.hid h3
  have H4 := Lib.hid h4
  obtain ⟨w0, hw0⟩ : ∃ w0, w0 = ((w.alloc (vblk a0 a1 a2)).alloc (vblk b0 b1 b2)).alloc (vblk c0 c1 c2) := ⟨_, rfl⟩
  have hS : I3 w0 w.heap.size (w.heap.size + 1) (w.heap.size + 1 + 1) a0 a1 a2 b0 b1 b2 c0 c1 c2 w0 := by
    subst hw0
    exact ⟨Below.refl _ _, (((Row3.new w a0 a1 a2 23 _ rfl).alloc _).alloc _).c3, ((Row3.new (w.alloc (vblk a0 a1 a2)) b0 b1 b2 23 _ (by simp)).alloc _).c3, (Row3.new ((w.alloc (vblk a0 a1 a2)).alloc (vblk b0 b1 b2)) c0 c1 c2 23 _ (by simp)).c3⟩
  have hB : Below w.heap.size w w0 := by
    subst hw0; exact (((Below.refl w.heap.size w).alloc (Nat.le_refl _) (vblk a0 a1 a2)).alloc (by simp) (vblk b0 b1 b2)).alloc (by simp; omega) (vblk c0 c1 c2)
  have HM := Lib.hid (hM.keep hB hM.1)
  have HB := Lib.hid hB
  unfold vblk at hw0
  have Hw := Lib.hid hw0
  clear h1 h2 h3 h4 he hM hB hw0
  unfold vv at q ⊢
  go_enter Tryd.func8, Tryd.ntmps8
  go_wp2_with fail
  rw [← Hw.out]
  clear Hw
  go_region_held3 (fun w' => I3 w0 w.heap.size (w.heap.size + 1) (w.heap.size + 1 + 1) a0 a1 a2 b0 b1 b2 c0 c1 c2 w') (first | exact I3.keep hS ((Below.refl _ _).drew) | exact I3.keep (by assumption) (by assumption))
    (first | (go_at_call 18; ((with_reducible refine (compare_at _ H1.out _).mono ?_)); rintro e w' ⟨rfl, hbN⟩) | (go_at_call 18; ((with_reducible refine (compare_at _ H2.out _).mono ?_)); rintro e w' ⟨rfl, hbN⟩) | (go_at_call 18; ((with_reducible refine (compare_at _ H3.out _).mono ?_)); rintro e w' ⟨rfl, hbN⟩))
  go_wp2_with fail
  refine (compare_at _ H4.out _).mono ?_
  rintro e wx ⟨rfl, hbx⟩
  have hSx := I3.keep (by assumption) hbx
  clear hbx
  go_wp2_with fail
  refine (example_any _ (mx3 HM.out hSx)).mono ?_
  rintro e wy ⟨rfl, hby⟩
  have HSy := Lib.hid (of3 HB.out (I3.keep hSx hby))
  clear hby
  go_wp2_with fail
  go_ret
  exact ⟨rfl, HSy.out⟩

set_option maxRecDepth 100000 in
set_option maxHeartbeats 4000000 in
theorem order_1_0 (a0 a1 a2 b0 b1 b2 c0 c1 c2 : Int) (k : Int) (w : World) (hM : Mx w) (h1 : cmp3 a0 a1 a2 b0 b1 b2 = 1) (h2 : cmp3 b0 b1 b2 c0 c1 c2 = 0) (h3 : cmp3 a0 a1 a2 c0 c1 c2 = k) (h4 : cmp3 b0 b1 b2 a0 a1 a2 = (-1))
    (he : (a0 == b0 && (a1 == b1 && a2 == b2)) = false) :
    Calls Tryd.prog 8 #[vv a0 a1 a2, vv b0 b1 b2, vv c0 c1 c2] w fun e w' => e = .returned (.bool true) ∧ Below w.heap.size w w' := by
  have q : ∀ w, (Op.equalIn 10000 23 (vv a0 a1 a2) (vv b0 b1 b2)).run Tryd.prog w = .ok false w := fun w => by rw [eqV, he]
  have H1 := Lib.hid h1
  have H2 := Lib.hid h2
  have H3 := Lib.hid h3
  have H4 := Lib.hid h4
  obtain ⟨w0, hw0⟩ : ∃ w0, w0 = ((w.alloc (vblk a0 a1 a2)).alloc (vblk b0 b1 b2)).alloc (vblk c0 c1 c2) := ⟨_, rfl⟩
  have hS : I3 w0 w.heap.size (w.heap.size + 1) (w.heap.size + 1 + 1) a0 a1 a2 b0 b1 b2 c0 c1 c2 w0 := by
    subst hw0
    exact ⟨Below.refl _ _, (((Row3.new w a0 a1 a2 23 _ rfl).alloc _).alloc _).c3, ((Row3.new (w.alloc (vblk a0 a1 a2)) b0 b1 b2 23 _ (by simp)).alloc _).c3, (Row3.new ((w.alloc (vblk a0 a1 a2)).alloc (vblk b0 b1 b2)) c0 c1 c2 23 _ (by simp)).c3⟩
  have hB : Below w.heap.size w w0 := by
    subst hw0; exact (((Below.refl w.heap.size w).alloc (Nat.le_refl _) (vblk a0 a1 a2)).alloc (by simp) (vblk b0 b1 b2)).alloc (by simp; omega) (vblk c0 c1 c2)
  have HM := Lib.hid (hM.keep hB hM.1)
  have HB := Lib.hid hB
  unfold vblk at hw0
  have Hw := Lib.hid hw0
  clear h1 h2 h3 h4 he hM hB hw0
  unfold vv at q ⊢
  go_enter Tryd.func8, Tryd.ntmps8
  go_wp2_with fail
  rw [← Hw.out]
  clear Hw
  go_region_held3 (fun w' => I3 w0 w.heap.size (w.heap.size + 1) (w.heap.size + 1 + 1) a0 a1 a2 b0 b1 b2 c0 c1 c2 w') (first | exact I3.keep hS ((Below.refl _ _).drew) | exact I3.keep (by assumption) (by assumption))
    (first | (go_at_call 18; ((with_reducible refine (compare_at _ H1.out _).mono ?_)); rintro e w' ⟨rfl, hbN⟩) | (go_at_call 18; ((with_reducible refine (compare_at _ H2.out _).mono ?_)); rintro e w' ⟨rfl, hbN⟩) | (go_at_call 18; ((with_reducible refine (compare_at _ H3.out _).mono ?_)); rintro e w' ⟨rfl, hbN⟩))
  go_wp2_with fail
  refine (compare_at _ H4.out _).mono ?_
  rintro e wx ⟨rfl, hbx⟩
  have hSx := I3.keep (by assumption) hbx
  clear hbx
  go_wp2_with fail
  refine (example_any _ (mx3 HM.out hSx)).mono ?_
  rintro e wy ⟨rfl, hby⟩
  have HSy := Lib.hid (of3 HB.out (I3.keep hSx hby))
  clear hby
  go_wp2_with fail
  go_ret
  exact ⟨rfl, HSy.out⟩

set_option maxRecDepth 100000 in
set_option maxHeartbeats 4000000 in
theorem order_1_1 (a0 a1 a2 b0 b1 b2 c0 c1 c2 : Int) (k : Int) (w : World) (hM : Mx w) (h1 : cmp3 a0 a1 a2 b0 b1 b2 = 1) (h2 : cmp3 b0 b1 b2 c0 c1 c2 = 1) (h3 : cmp3 a0 a1 a2 c0 c1 c2 = k) (h4 : cmp3 b0 b1 b2 a0 a1 a2 = (-1))
    (he : (a0 == b0 && (a1 == b1 && a2 == b2)) = false) :
    Calls Tryd.prog 8 #[vv a0 a1 a2, vv b0 b1 b2, vv c0 c1 c2] w fun e w' => e = .returned (.bool true) ∧ Below w.heap.size w w' := by
  have q : ∀ w, (Op.equalIn 10000 23 (vv a0 a1 a2) (vv b0 b1 b2)).run Tryd.prog w = .ok false w := fun w => by rw [eqV, he]
  have H1 := Lib.hid h1
  have H2 := Lib.hid h2
  have H3 := Lib.hid h3
  have H4 := Lib.hid h4
  obtain ⟨w0, hw0⟩ : ∃ w0, w0 = ((w.alloc (vblk a0 a1 a2)).alloc (vblk b0 b1 b2)).alloc (vblk c0 c1 c2) := ⟨_, rfl⟩
  have hS : I3 w0 w.heap.size (w.heap.size + 1) (w.heap.size + 1 + 1) a0 a1 a2 b0 b1 b2 c0 c1 c2 w0 := by
    subst hw0
    exact ⟨Below.refl _ _, (((Row3.new w a0 a1 a2 23 _ rfl).alloc _).alloc _).c3, ((Row3.new (w.alloc (vblk a0 a1 a2)) b0 b1 b2 23 _ (by simp)).alloc _).c3, (Row3.new ((w.alloc (vblk a0 a1 a2)).alloc (vblk b0 b1 b2)) c0 c1 c2 23 _ (by simp)).c3⟩
  have hB : Below w.heap.size w w0 := by
    subst hw0; exact (((Below.refl w.heap.size w).alloc (Nat.le_refl _) (vblk a0 a1 a2)).alloc (by simp) (vblk b0 b1 b2)).alloc (by simp; omega) (vblk c0 c1 c2)
  have HM := Lib.hid (hM.keep hB hM.1)
  have HB := Lib.hid hB
  unfold vblk at hw0
  have Hw := Lib.hid hw0
  clear h1 h2 h3 h4 he hM hB hw0
  unfold vv at q ⊢
  go_enter Tryd.func8, Tryd.ntmps8
  go_wp2_with fail
  rw [← Hw.out]
  clear Hw
  go_region_held3 (fun w' => I3 w0 w.heap.size (w.heap.size + 1) (w.heap.size + 1 + 1) a0 a1 a2 b0 b1 b2 c0 c1 c2 w') (first | exact I3.keep hS ((Below.refl _ _).drew) | exact I3.keep (by assumption) (by assumption))
    (first | (go_at_call 18; ((with_reducible refine (compare_at _ H1.out _).mono ?_)); rintro e w' ⟨rfl, hbN⟩) | (go_at_call 18; ((with_reducible refine (compare_at _ H2.out _).mono ?_)); rintro e w' ⟨rfl, hbN⟩) | (go_at_call 18; ((with_reducible refine (compare_at _ H3.out _).mono ?_)); rintro e w' ⟨rfl, hbN⟩))
  go_wp2_with fail
  refine (compare_at _ H4.out _).mono ?_
  rintro e wx ⟨rfl, hbx⟩
  have hSx := I3.keep (by assumption) hbx
  clear hbx
  go_wp2_with fail
  refine (example_any _ (mx3 HM.out hSx)).mono ?_
  rintro e wy ⟨rfl, hby⟩
  have HSy := Lib.hid (of3 HB.out (I3.keep hSx hby))
  clear hby
  go_wp2_with fail
  go_ret
  exact ⟨rfl, HSy.out⟩

theorem eq_dec (a0 a1 a2 b0 b1 b2 : Int) : (a0 == b0 && (a1 == b1 && a2 == b2)) = decide (cmp3 a0 a1 a2 b0 b1 b2 = 0) := by
  rw [Bool.eq_iff_iff]
  simp only [Bool.and_eq_true, beq_iff_eq, decide_eq_true_eq]
  rcases cmp3_cases a0 a1 a2 b0 b1 b2 with ⟨h, e⟩ | ⟨h, e⟩ | ⟨h, e⟩ <;> rw [e]
  · unfold ltV at h; omega
  · simp [h]
  · unfold ltV at h; omega
theorem cmp3_range (a0 a1 a2 b0 b1 b2 : Int) : cmp3 a0 a1 a2 b0 b1 b2 = -1 ∨ cmp3 a0 a1 a2 b0 b1 b2 = 0 ∨ cmp3 a0 a1 a2 b0 b1 b2 = 1 := by
  rcases cmp3_cases a0 a1 a2 b0 b1 b2 with ⟨_, e⟩ | ⟨_, e⟩ | ⟨_, e⟩ <;> simp [e]
/-- Compare is a total order: the law's walk -/
theorem law_order (a0 a1 a2 b0 b1 b2 c0 c1 c2 : Int) (w : World) (hM : Mx w) :
    Calls Tryd.prog 8 #[vv a0 a1 a2, vv b0 b1 b2, vv c0 c1 c2] w fun e w' => e = .returned (.bool true) ∧ Below w.heap.size w w' := by
  have he := eq_dec a0 a1 a2 b0 b1 b2
  have h4 := cmp3_anti a0 a1 a2 b0 b1 b2
  rcases cmp3_range a0 a1 a2 b0 b1 b2 with h1 | h1 | h1 <;> rcases cmp3_range b0 b1 b2 c0 c1 c2 with h2 | h2 | h2 <;> rw [h1] at he h4
  · exact order_m1_m1 _ _ _ _ _ _ _ _ _ w hM h1 h2 (by rw [cmp3_trans h1 h2 (by omega) (by omega)]; decide) h4 he
  · exact order_m1_0 _ _ _ _ _ _ _ _ _ w hM h1 h2 (by rw [cmp3_trans h1 h2 (by omega) (by omega)]; decide) h4 he
  · exact order_m1_1 _ _ _ _ _ _ _ _ _ _ w hM h1 h2 rfl h4 he
  · exact order_0_m1 _ _ _ _ _ _ _ _ _ w hM h1 h2 (by rw [cmp3_trans h1 h2 (by omega) (by omega)]; decide) h4 he
  · exact order_0_0 _ _ _ _ _ _ _ _ _ w hM h1 h2 (by rw [cmp3_trans h1 h2 (by omega) (by omega)]; decide) h4 he
  · exact order_0_1 _ _ _ _ _ _ _ _ _ _ w hM h1 h2 rfl h4 he
  · exact order_1_m1 _ _ _ _ _ _ _ _ _ _ w hM h1 h2 rfl h4 he
  · exact order_1_0 _ _ _ _ _ _ _ _ _ _ w hM h1 h2 rfl h4 he
  · exact order_1_1 _ _ _ _ _ _ _ _ _ _ w hM h1 h2 rfl h4 he
end Go.Proofs.YteeagengliaakaaDoor
