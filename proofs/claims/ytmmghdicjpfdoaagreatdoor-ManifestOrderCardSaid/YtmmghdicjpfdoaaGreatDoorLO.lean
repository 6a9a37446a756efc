/-
  The law of the order. Conditions: the table of powers of ten, internal/bytealg.MaxLen holds some number, the two error variables of strconv hold interface values.
-/
import Derived.Test.YtmmghdicjpfdoaaGreatDoorEA
namespace Go.Proofs.YtmmghdicjpfdoaaGreatDoor
open Go.RowKit Go.Sort Go.Lib Go.Shelf Go.Proofs
set_option linter.unusedSimpArgs false
set_option linter.unnecessarySimpa false
set_option linter.unusedVariables false
/-- three modules in three boxes -/
abbrev I43 (w0 : World) (p q r : Nat) (x y z : Md) (w : World) : Prop := Below w0.heap.size w0 w ∧ C4 w p x ∧ C4 w q y ∧ C4 w r z
theorem I43.keep {w0 w w' : World} {p q r : Nat} {x y z : Md} (h : I43 w0 p q r x y z w) (hb : Below w.heap.size w w') : I43 w0 p q r x y z w' :=
  ⟨h.1.trans (hb.mono h.1.size), C4.keep h.2.1 hb, C4.keep h.2.2.1 hb, C4.keep h.2.2.2 hb⟩
theorem three (w : World) (x y z : Md) : I43 (((w.alloc (.cells #[.string x.1, .int .i64 x.2.1, .int .i64 x.2.2.1, .int .i64 x.2.2.2] 25)).alloc (.cells #[.string y.1, .int .i64 y.2.1, .int .i64 y.2.2.1, .int .i64 y.2.2.2] 25)).alloc (.cells #[.string z.1, .int .i64 z.2.1, .int .i64 z.2.2.1, .int .i64 z.2.2.2] 25)) w.heap.size (w.heap.size + 1) (w.heap.size + 1 + 1) x y z (((w.alloc (.cells #[.string x.1, .int .i64 x.2.1, .int .i64 x.2.2.1, .int .i64 x.2.2.2] 25)).alloc (.cells #[.string y.1, .int .i64 y.2.1, .int .i64 y.2.2.1, .int .i64 y.2.2.2] 25)).alloc (.cells #[.string z.1, .int .i64 z.2.1, .int .i64 z.2.2.1, .int .i64 z.2.2.2] 25)) := by
  refine ⟨Below.refl _ _, ((C4.new w x 25).keep (bal _ _)).keep (bal _ _), ?_, ?_⟩
  · have := (C4.new (w.alloc (.cells #[.string x.1, .int .i64 x.2.1, .int .i64 x.2.2.1, .int .i64 x.2.2.2] 25)) y 25).keep (bal _ (.cells #[.string z.1, .int .i64 z.2.1, .int .i64 z.2.2.1, .int .i64 z.2.2.2] 25))
    rwa [World.size_alloc] at this
  · have := C4.new ((w.alloc (.cells #[.string x.1, .int .i64 x.2.1, .int .i64 x.2.2.1, .int .i64 x.2.2.2] 25)).alloc (.cells #[.string y.1, .int .i64 y.2.1, .int .i64 y.2.2.1, .int .i64 y.2.2.2] 25)) z 25
    rwa [World.size_alloc, World.size_alloc] at this
set_option maxRecDepth 100000 in
set_option maxHeartbeats 4000000 in
theorem order_m1_m1 (x y z : Md) (w : World) (hC : Cond w) (h1 : cmpM x y = (-1)) (h2 : cmpM y z = (-1)) (h3 : cmpM x z = (-1)) (h4 : cmpM y x = 1) (he : decide (x = y) = false) :
    Calls Tryz.prog 8 #[md x, md y, md z] w fun e w' => e = .returned (.bool true) ∧ Below w.heap.size w w' := by
  have q : ∀ w, (Op.equalIn 10000 25 (md x) (md y)).run Tryz.prog w = .ok false w := fun w => by rw [eqMd, he]
  have H1 := Lib.hid h1
  have H2 := Lib.hid h2
  have H3 := Lib.hid h3
  have H4 := Lib.hid h4
  obtain ⟨w0, hw0⟩ : ∃ w0, w0 = ((w.alloc (.cells #[.string x.1, .int .i64 x.2.1, .int .i64 x.2.2.1, .int .i64 x.2.2.2] 25)).alloc (.cells #[.string y.1, .int .i64 y.2.1, .int .i64 y.2.2.1, .int .i64 y.2.2.2] 25)).alloc (.cells #[.string z.1, .int .i64 z.2.1, .int .i64 z.2.2.1, .int .i64 z.2.2.2] 25) := ⟨_, rfl⟩
  have hS : I43 w0 w.heap.size (w.heap.size + 1) (w.heap.size + 1 + 1) x y z w0 := by subst hw0; exact three w x y z
  have hB : Below w.heap.size w w0 := by
    subst hw0; exact (((Below.refl w.heap.size w).alloc (Nat.le_refl _) _).alloc (by simp) _).alloc (by simp; omega) _
  have HC := Lib.hid (hC.keep hB)
  have HB := Lib.hid hB
  have Hw := Lib.hid hw0
  clear h1 h2 h3 h4 he hC hB hw0
  unfold md at q ⊢
  go_enter Tryz.func8, Tryz.ntmps8
  go_wp2_with fail
  rw [← Hw.out]
  clear Hw
  go_region_held3 (fun w' => I43 w0 w.heap.size (w.heap.size + 1) (w.heap.size + 1 + 1) x y z w') (first | exact I43.keep hS ((Below.refl _ _).drew) | exact I43.keep (by assumption) (by assumption))
    (first | (go_at_call 23; ((with_reducible refine (mcompare_any _ _ _ H1.out _).mono ?_)); rintro e w' ⟨rfl, hbN⟩) | (go_at_call 23; ((with_reducible refine (mcompare_any _ _ _ H2.out _).mono ?_)); rintro e w' ⟨rfl, hbN⟩) | (go_at_call 23; ((with_reducible refine (mcompare_any _ _ _ H3.out _).mono ?_)); rintro e w' ⟨rfl, hbN⟩))
  go_wp2_with fail
  refine (rmcompare_any _ _ _ H1.out _).mono ?_
  rintro e wx ⟨rfl, hbx⟩
  have hSx := I43.keep (by assumption) hbx
  clear hbx
  go_wp2_with fail
  refine (mcompare_any _ _ _ H4.out _).mono ?_
  rintro e wy ⟨rfl, hby⟩
  have hSy := I43.keep hSx hby
  clear hby hSx
  go_wp2_with fail
  have HBy := Lib.hid (HB.out.trans (hSy.1.mono HB.out.size))
  have HCy := Lib.hid (HC.out.keep hSy.1)
  refine (alive_any _ HCy.out).mono ?_
  rintro e wz ⟨rfl, hbz⟩
  have HBz := Lib.hid (HBy.out.trans (hbz.mono HBy.out.size))
  clear hbz
  go_wp2_with fail
  go_ret
  exact ⟨rfl, HBz.out⟩
set_option maxRecDepth 100000 in
set_option maxHeartbeats 4000000 in
theorem order_m1_0 (x y z : Md) (w : World) (hC : Cond w) (h1 : cmpM x y = (-1)) (h2 : cmpM y z = 0) (h3 : cmpM x z = (-1)) (h4 : cmpM y x = 1) (he : decide (x = y) = false) :
    Calls Tryz.prog 8 #[md x, md y, md z] w fun e w' => e = .returned (.bool true) ∧ Below w.heap.size w w' := by
  have q : ∀ w, (Op.equalIn 10000 25 (md x) (md y)).run Tryz.prog w = .ok false w := fun w => by rw [eqMd, he]
  have H1 := Lib.hid h1
  have H2 := Lib.hid h2
  have H3 := Lib.hid h3
  have H4 := Lib.hid h4
  obtain ⟨w0, hw0⟩ : ∃ w0, w0 = ((w.alloc (.cells #[.string x.1, .int .i64 x.2.1, .int .i64 x.2.2.1, .int .i64 x.2.2.2] 25)).alloc (.cells #[.string y.1, .int .i64 y.2.1, .int .i64 y.2.2.1, .int .i64 y.2.2.2] 25)).alloc (.cells #[.string z.1, .int .i64 z.2.1, .int .i64 z.2.2.1, .int .i64 z.2.2.2] 25) := ⟨_, rfl⟩
  have hS : I43 w0 w.heap.size (w.heap.size + 1) (w.heap.size + 1 + 1) x y z w0 := by subst hw0; exact three w x y z
  have hB : Below w.heap.size w w0 := by
    subst hw0; exact (((Below.refl w.heap.size w).alloc (Nat.le_refl _) _).alloc (by simp) _).alloc (by simp; omega) _
  have HC := Lib.hid (hC.keep hB)
  have HB := Lib.hid hB
  have Hw := Lib.hid hw0
  clear h1 h2 h3 h4 he hC hB hw0
  unfold md at q ⊢
  go_enter Tryz.func8, Tryz.ntmps8
  go_wp2_with fail
  rw [← Hw.out]
  clear Hw
  go_region_held3 (fun w' => I43 w0 w.heap.size (w.heap.size + 1) (w.heap.size + 1 + 1) x y z w') (first | exact I43.keep hS ((Below.refl _ _).drew) | exact I43.keep (by assumption) (by assumption))
    (first | (go_at_call 23; ((with_reducible refine (mcompare_any _ _ _ H1.out _).mono ?_)); rintro e w' ⟨rfl, hbN⟩) | (go_at_call 23; ((with_reducible refine (mcompare_any _ _ _ H2.out _).mono ?_)); rintro e w' ⟨rfl, hbN⟩) | (go_at_call 23; ((with_reducible refine (mcompare_any _ _ _ H3.out _).mono ?_)); rintro e w' ⟨rfl, hbN⟩))
  go_wp2_with fail
  refine (rmcompare_any _ _ _ H1.out _).mono ?_
  rintro e wx ⟨rfl, hbx⟩
  have hSx := I43.keep (by assumption) hbx
  clear hbx
  go_wp2_with fail
  refine (mcompare_any _ _ _ H4.out _).mono ?_
  rintro e wy ⟨rfl, hby⟩
  have hSy := I43.keep hSx hby
  clear hby hSx
  go_wp2_with fail
  have HBy := Lib.hid (HB.out.trans (hSy.1.mono HB.out.size))
  have HCy := Lib.hid (HC.out.keep hSy.1)
  refine (alive_any _ HCy.out).mono ?_
  rintro e wz ⟨rfl, hbz⟩
  have HBz := Lib.hid (HBy.out.trans (hbz.mono HBy.out.size))
  clear hbz
  go_wp2_with fail
  go_ret
  exact ⟨rfl, HBz.out⟩
set_option maxRecDepth 100000 in
set_option maxHeartbeats 4000000 in
theorem order_m1_1 (x y z : Md) (k : Int) (w : World) (hC : Cond w) (h1 : cmpM x y = (-1)) (h2 : cmpM y z = 1) (h3 : cmpM x z = k) (h4 : cmpM y x = 1) (he : decide (x = y) = false) :
    Calls Tryz.prog 8 #[md x, md y, md z] w fun e w' => e = .returned (.bool true) ∧ Below w.heap.size w w' := by
  have q : ∀ w, (Op.equalIn 10000 25 (md x) (md y)).run Tryz.prog w = .ok false w := fun w => by rw [eqMd, he]
  have H1 := Lib.hid h1
  have H2 := Lib.hid h2
  have H3 := Lib.hid h3
  have H4 := Lib.hid h4
  obtain ⟨w0, hw0⟩ : ∃ w0, w0 = ((w.alloc (.cells #[.string x.1, .int .i64 x.2.1, .int .i64 x.2.2.1, .int .i64 x.2.2.2] 25)).alloc (.cells #[.string y.1, .int .i64 y.2.1, .int .i64 y.2.2.1, .int .i64 y.2.2.2] 25)).alloc (.cells #[.string z.1, .int .i64 z.2.1, .int .i64 z.2.2.1, .int .i64 z.2.2.2] 25) := ⟨_, rfl⟩
  have hS : I43 w0 w.heap.size (w.heap.size + 1) (w.heap.size + 1 + 1) x y z w0 := by subst hw0; exact three w x y z
  have hB : Below w.heap.size w w0 := by
    subst hw0; exact (((Below.refl w.heap.size w).alloc (Nat.le_refl _) _).alloc (by simp) _).alloc (by simp; omega) _
  have HC := Lib.hid (hC.keep hB)
  have HB := Lib.hid hB
  have Hw := Lib.hid hw0
  clear h1 h2 h3 h4 he hC hB hw0
  unfold md at q ⊢
  go_enter Tryz.func8, Tryz.ntmps8
  go_wp2_with fail
  rw [← Hw.out]
  clear Hw
  go_region_held3 (fun w' => I43 w0 w.heap.size (w.heap.size + 1) (w.heap.size + 1 + 1) x y z w') (first | exact I43.keep hS ((Below.refl _ _).drew) | exact I43.keep (by assumption) (by assumption))
    (first | (go_at_call 23; ((with_reducible refine (mcompare_any _ _ _ H1.out _).mono ?_)); rintro e w' ⟨rfl, hbN⟩) | (go_at_call 23; ((with_reducible refine (mcompare_any _ _ _ H2.out _).mono ?_)); rintro e w' ⟨rfl, hbN⟩) | (go_at_call 23; ((with_reducible refine (mcompare_any _ _ _ H3.out _).mono ?_)); rintro e w' ⟨rfl, hbN⟩))
  go_wp2_with fail
  refine (rmcompare_any _ _ _ H1.out _).mono ?_
  rintro e wx ⟨rfl, hbx⟩
  have hSx := I43.keep (by assumption) hbx
  clear hbx
  go_wp2_with fail
  refine (mcompare_any _ _ _ H4.out _).mono ?_
  rintro e wy ⟨rfl, hby⟩
  have hSy := I43.keep hSx hby
  clear hby hSx
  go_wp2_with fail
  have HBy := Lib.hid (HB.out.trans (hSy.1.mono HB.out.size))
  have HCy := Lib.hid (HC.out.keep hSy.1)
  refine (alive_any _ HCy.out).mono ?_
  rintro e wz ⟨rfl, hbz⟩
  have HBz := Lib.hid (HBy.out.trans (hbz.mono HBy.out.size))
  clear hbz
  go_wp2_with fail
  go_ret
  exact ⟨rfl, HBz.out⟩
set_option maxRecDepth 100000 in
set_option maxHeartbeats 4000000 in
theorem order_0_m1 (x y z : Md) (w : World) (hC : Cond w) (h1 : cmpM x y = 0) (h2 : cmpM y z = (-1)) (h3 : cmpM x z = (-1)) (h4 : cmpM y x = 0) (he : decide (x = y) = true) :
    Calls Tryz.prog 8 #[md x, md y, md z] w fun e w' => e = .returned (.bool true) ∧ Below w.heap.size w w' := by
  have q : ∀ w, (Op.equalIn 10000 25 (md x) (md y)).run Tryz.prog w = .ok true w := fun w => by rw [eqMd, he]
  have H1 := Lib.hid h1
  have H2 := Lib.hid h2
  have H3 := Lib.hid h3
  have H4 := Lib.hid h4
  obtain ⟨w0, hw0⟩ : ∃ w0, w0 = ((w.alloc (.cells #[.string x.1, .int .i64 x.2.1, .int .i64 x.2.2.1, .int .i64 x.2.2.2] 25)).alloc (.cells #[.string y.1, .int .i64 y.2.1, .int .i64 y.2.2.1, .int .i64 y.2.2.2] 25)).alloc (.cells #[.string z.1, .int .i64 z.2.1, .int .i64 z.2.2.1, .int .i64 z.2.2.2] 25) := ⟨_, rfl⟩
  have hS : I43 w0 w.heap.size (w.heap.size + 1) (w.heap.size + 1 + 1) x y z w0 := by subst hw0; exact three w x y z
  have hB : Below w.heap.size w w0 := by
    subst hw0; exact (((Below.refl w.heap.size w).alloc (Nat.le_refl _) _).alloc (by simp) _).alloc (by simp; omega) _
  have HC := Lib.hid (hC.keep hB)
  have HB := Lib.hid hB
  have Hw := Lib.hid hw0
  clear h1 h2 h3 h4 he hC hB hw0
  unfold md at q ⊢
  go_enter Tryz.func8, Tryz.ntmps8
  go_wp2_with fail
  rw [← Hw.out]
  clear Hw
  go_region_held3 (fun w' => I43 w0 w.heap.size (w.heap.size + 1) (w.heap.size + 1 + 1) x y z w') (first | exact I43.keep hS ((Below.refl _ _).drew) | exact I43.keep (by assumption) (by assumption))
    (first | (go_at_call 23; ((with_reducible refine (mcompare_any _ _ _ H1.out _).mono ?_)); rintro e w' ⟨rfl, hbN⟩) | (go_at_call 23; ((with_reducible refine (mcompare_any _ _ _ H2.out _).mono ?_)); rintro e w' ⟨rfl, hbN⟩) | (go_at_call 23; ((with_reducible refine (mcompare_any _ _ _ H3.out _).mono ?_)); rintro e w' ⟨rfl, hbN⟩))
  go_wp2_with fail
  refine (rmcompare_any _ _ _ H1.out _).mono ?_
  rintro e wx ⟨rfl, hbx⟩
  have hSx := I43.keep (by assumption) hbx
  clear hbx
  go_wp2_with fail
  refine (mcompare_any _ _ _ H4.out _).mono ?_
  rintro e wy ⟨rfl, hby⟩
  have hSy := I43.keep hSx hby
  clear hby hSx
  go_wp2_with fail
  have HBy := Lib.hid (HB.out.trans (hSy.1.mono HB.out.size))
  have HCy := Lib.hid (HC.out.keep hSy.1)
  refine (alive_any _ HCy.out).mono ?_
  rintro e wz ⟨rfl, hbz⟩
  have HBz := Lib.hid (HBy.out.trans (hbz.mono HBy.out.size))
  clear hbz
  go_wp2_with fail
  go_ret
  exact ⟨rfl, HBz.out⟩
set_option maxRecDepth 100000 in
set_option maxHeartbeats 4000000 in
theorem order_0_0 (x y z : Md) (w : World) (hC : Cond w) (h1 : cmpM x y = 0) (h2 : cmpM y z = 0) (h3 : cmpM x z = 0) (h4 : cmpM y x = 0) (he : decide (x = y) = true) :
    Calls Tryz.prog 8 #[md x, md y, md z] w fun e w' => e = .returned (.bool true) ∧ Below w.heap.size w w' := by
  have q : ∀ w, (Op.equalIn 10000 25 (md x) (md y)).run Tryz.prog w = .ok true w := fun w => by rw [eqMd, he]
  have H1 := Lib.hid h1
  have H2 := Lib.hid h2
  have H3 := Lib.hid h3
  have H4 := Lib.hid h4
  obtain ⟨w0, hw0⟩ : ∃ w0, w0 = ((w.alloc (.cells #[.string x.1, .int .i64 x.2.1, .int .i64 x.2.2.1, .int .i64 x.2.2.2] 25)).alloc (.cells #[.string y.1, .int .i64 y.2.1, .int .i64 y.2.2.1, .int .i64 y.2.2.2] 25)).alloc (.cells #[.string z.1, .int .i64 z.2.1, .int .i64 z.2.2.1, .int .i64 z.2.2.2] 25) := ⟨_, rfl⟩
  have hS : I43 w0 w.heap.size (w.heap.size + 1) (w.heap.size + 1 + 1) x y z w0 := by subst hw0; exact three w x y z
  have hB : Below w.heap.size w w0 := by
    subst hw0; exact (((Below.refl w.heap.size w).alloc (Nat.le_refl _) _).alloc (by simp) _).alloc (by simp; omega) _
  have HC := Lib.hid (hC.keep hB)
  have HB := Lib.hid hB
  have Hw := Lib.hid hw0
  clear h1 h2 h3 h4 he hC hB hw0
  unfold md at q ⊢
  go_enter Tryz.func8, Tryz.ntmps8
  go_wp2_with fail
  rw [← Hw.out]
  clear Hw
  go_region_held3 (fun w' => I43 w0 w.heap.size (w.heap.size + 1) (w.heap.size + 1 + 1) x y z w') (first | exact I43.keep hS ((Below.refl _ _).drew) | exact I43.keep (by assumption) (by assumption))
    (first | (go_at_call 23; ((with_reducible refine (mcompare_any _ _ _ H1.out _).mono ?_)); rintro e w' ⟨rfl, hbN⟩) | (go_at_call 23; ((with_reducible refine (mcompare_any _ _ _ H2.out _).mono ?_)); rintro e w' ⟨rfl, hbN⟩) | (go_at_call 23; ((with_reducible refine (mcompare_any _ _ _ H3.out _).mono ?_)); rintro e w' ⟨rfl, hbN⟩))
  go_wp2_with fail
  refine (rmcompare_any _ _ _ H1.out _).mono ?_
  rintro e wx ⟨rfl, hbx⟩
  have hSx := I43.keep (by assumption) hbx
  clear hbx
  go_wp2_with fail
  refine (mcompare_any _ _ _ H4.out _).mono ?_
  rintro e wy ⟨rfl, hby⟩
  have hSy := I43.keep hSx hby
  clear hby hSx
  go_wp2_with fail
  have HBy := Lib.hid (HB.out.trans (hSy.1.mono HB.out.size))
  have HCy := Lib.hid (HC.out.keep hSy.1)
  refine (alive_any _ HCy.out).mono ?_
  rintro e wz ⟨rfl, hbz⟩
  have HBz := Lib.hid (HBy.out.trans (hbz.mono HBy.out.size))
  clear hbz
  go_wp2_with fail
  go_ret
  exact ⟨rfl, HBz.out⟩
set_option maxRecDepth 100000 in
set_option maxHeartbeats 4000000 in
theorem order_0_1 (x y z : Md) (k : Int) (w : World) (hC : Cond w) (h1 : cmpM x y = 0) (h2 : cmpM y z = 1) (h3 : cmpM x z = k) (h4 : cmpM y x = 0) (he : decide (x = y) = true) :
    Calls Tryz.prog 8 #[md x, md y, md z] w fun e w' => e = .returned (.bool true) ∧ Below w.heap.size w w' := by
  have q : ∀ w, (Op.equalIn 10000 25 (md x) (md y)).run Tryz.prog w = .ok true w := fun w => by rw [eqMd, he]
  have H1 := Lib.hid h1
  have H2 := Lib.hid h2
  have H3 := Lib.hid h3
  have H4 := Lib.hid h4
  obtain ⟨w0, hw0⟩ : ∃ w0, w0 = ((w.alloc (.cells #[.string x.1, .int .i64 x.2.1, .int .i64 x.2.2.1, .int .i64 x.2.2.2] 25)).alloc (.cells #[.string y.1, .int .i64 y.2.1, .int .i64 y.2.2.1, .int .i64 y.2.2.2] 25)).alloc (.cells #[.string z.1, .int .i64 z.2.1, .int .i64 z.2.2.1, .int .i64 z.2.2.2] 25) := ⟨_, rfl⟩
  have hS : I43 w0 w.heap.size (w.heap.size + 1) (w.heap.size + 1 + 1) x y z w0 := by subst hw0; exact three w x y z
  have hB : Below w.heap.size w w0 := by
    subst hw0; exact (((Below.refl w.heap.size w).alloc (Nat.le_refl _) _).alloc (by simp) _).alloc (by simp; omega) _
  have HC := Lib.hid (hC.keep hB)
  have HB := Lib.hid hB
  have Hw := Lib.hid hw0
  clear h1 h2 h3 h4 he hC hB hw0
  unfold md at q ⊢
  go_enter Tryz.func8, Tryz.ntmps8
  go_wp2_with fail
  rw [← Hw.out]
  clear Hw
  go_region_held3 (fun w' => I43 w0 w.heap.size (w.heap.size + 1) (w.heap.size + 1 + 1) x y z w') (first | exact I43.keep hS ((Below.refl _ _).drew) | exact I43.keep (by assumption) (by assumption))
    (first | (go_at_call 23; ((with_reducible refine (mcompare_any _ _ _ H1.out _).mono ?_)); rintro e w' ⟨rfl, hbN⟩) | (go_at_call 23; ((with_reducible refine (mcompare_any _ _ _ H2.out _).mono ?_)); rintro e w' ⟨rfl, hbN⟩) | (go_at_call 23; ((with_reducible refine (mcompare_any _ _ _ H3.out _).mono ?_)); rintro e w' ⟨rfl, hbN⟩))
  go_wp2_with fail
  refine (rmcompare_any _ _ _ H1.out _).mono ?_
  rintro e wx ⟨rfl, hbx⟩
  have hSx := I43.keep (by assumption) hbx
  clear hbx
  go_wp2_with fail
  refine (mcompare_any _ _ _ H4.out _).mono ?_
  rintro e wy ⟨rfl, hby⟩
  have hSy := I43.keep hSx hby
  clear hby hSx
  go_wp2_with fail
  have HBy := Lib.hid (HB.out.trans (hSy.1.mono HB.out.size))
  have HCy := Lib.hid (HC.out.keep hSy.1)
  refine (alive_any _ HCy.out).mono ?_
  rintro e wz ⟨rfl, hbz⟩
  have HBz := Lib.hid (HBy.out.trans (hbz.mono HBy.out.size))
  clear hbz
  go_wp2_with fail
  go_ret
  exact ⟨rfl, HBz.out⟩
set_option maxRecDepth 100000 in
set_option maxHeartbeats 4000000 in
theorem order_1_m1 (x y z : Md) (k : Int) (w : World) (hC : Cond w) (h1 : cmpM x y = 1) (h2 : cmpM y z = (-1)) (h3 : cmpM x z = k) (h4 : cmpM y x = (-1)) (he : decide (x = y) = false) :
    Calls Tryz.prog 8 #[md x, md y, md z] w fun e w' => e = .returned (.bool true) ∧ Below w.heap.size w w' := by
  have q : ∀ w, (Op.equalIn 10000 25 (md x) (md y)).run Tryz.prog w = .ok false w := fun w => by rw [eqMd, he]
  have H1 := Lib.hid h1
  have H2 := Lib.hid h2
  have H3 := Lib.hid h3
  have H4 := Lib.hid h4
  obtain ⟨w0, hw0⟩ : ∃ w0, w0 = ((w.alloc (.cells #[.string x.1, .int .i64 x.2.1, .int .i64 x.2.2.1, .int .i64 x.2.2.2] 25)).alloc (.cells #[.string y.1, .int .i64 y.2.1, .int .i64 y.2.2.1, .int .i64 y.2.2.2] 25)).alloc (.cells #[.string z.1, .int .i64 z.2.1, .int .i64 z.2.2.1, .int .i64 z.2.2.2] 25) := ⟨_, rfl⟩
  have hS : I43 w0 w.heap.size (w.heap.size + 1) (w.heap.size + 1 + 1) x y z w0 := by subst hw0; exact three w x y z
  have hB : Below w.heap.size w w0 := by
    subst hw0; exact (((Below.refl w.heap.size w).alloc (Nat.le_refl _) _).alloc (by simp) _).alloc (by simp; omega) _
  have HC := Lib.hid (hC.keep hB)
  have HB := Lib.hid hB
  have Hw := Lib.hid hw0
  clear h1 h2 h3 h4 he hC hB hw0
  unfold md at q ⊢
  go_enter Tryz.func8, Tryz.ntmps8
  go_wp2_with fail
  rw [← Hw.out]
  clear Hw
  go_region_held3 (fun w' => I43 w0 w.heap.size (w.heap.size + 1) (w.heap.size + 1 + 1) x y z w') (first | exact I43.keep hS ((Below.refl _ _).drew) | exact I43.keep (by assumption) (by assumption))
    (first | (go_at_call 23; ((with_reducible refine (mcompare_any _ _ _ H1.out _).mono ?_)); rintro e w' ⟨rfl, hbN⟩) | (go_at_call 23; ((with_reducible refine (mcompare_any _ _ _ H2.out _).mono ?_)); rintro e w' ⟨rfl, hbN⟩) | (go_at_call 23; ((with_reducible refine (mcompare_any _ _ _ H3.out _).mono ?_)); rintro e w' ⟨rfl, hbN⟩))
  go_wp2_with fail
  refine (rmcompare_any _ _ _ H1.out _).mono ?_
  rintro e wx ⟨rfl, hbx⟩
  have hSx := I43.keep (by assumption) hbx
  clear hbx
  go_wp2_with fail
  refine (mcompare_any _ _ _ H4.out _).mono ?_
  rintro e wy ⟨rfl, hby⟩
  have hSy := I43.keep hSx hby
  clear hby hSx
  go_wp2_with fail
  have HBy := Lib.hid (HB.out.trans (hSy.1.mono HB.out.size))
  have HCy := Lib.hid (HC.out.keep hSy.1)
  refine (alive_any _ HCy.out).mono ?_
  rintro e wz ⟨rfl, hbz⟩
  have HBz := Lib.hid (HBy.out.trans (hbz.mono HBy.out.size))
  clear hbz
  go_wp2_with fail
  go_ret
  exact ⟨rfl, HBz.out⟩
set_option maxRecDepth 100000 in
set_option maxHeartbeats 4000000 in
theorem order_1_0 (x y z : Md) (k : Int) (w : World) (hC : Cond w) (h1 : cmpM x y = 1) (h2 : cmpM y z = 0) (h3 : cmpM x z = k) (h4 : cmpM y x = (-1)) (he : decide (x = y) = false) :
    Calls Tryz.prog 8 #[md x, md y, md z] w fun e w' => e = .returned (.bool true) ∧ Below w.heap.size w w' := by
  have q : ∀ w, (Op.equalIn 10000 25 (md x) (md y)).run Tryz.prog w = .ok false w := fun w => by rw [eqMd, he]
  have H1 := Lib.hid h1
  have H2 := Lib.hid h2
  have H3 := Lib.hid h3
  have H4 := Lib.hid h4
  obtain ⟨w0, hw0⟩ : ∃ w0, w0 = ((w.alloc (.cells #[.string x.1, .int .i64 x.2.1, .int .i64 x.2.2.1, .int .i64 x.2.2.2] 25)).alloc (.cells #[.string y.1, .int .i64 y.2.1, .int .i64 y.2.2.1, .int .i64 y.2.2.2] 25)).alloc (.cells #[.string z.1, .int .i64 z.2.1, .int .i64 z.2.2.1, .int .i64 z.2.2.2] 25) := ⟨_, rfl⟩
  have hS : I43 w0 w.heap.size (w.heap.size + 1) (w.heap.size + 1 + 1) x y z w0 := by subst hw0; exact three w x y z
  have hB : Below w.heap.size w w0 := by
    subst hw0; exact (((Below.refl w.heap.size w).alloc (Nat.le_refl _) _).alloc (by simp) _).alloc (by simp; omega) _
  have HC := Lib.hid (hC.keep hB)
  have HB := Lib.hid hB
  have Hw := Lib.hid hw0
  clear h1 h2 h3 h4 he hC hB hw0
  unfold md at q ⊢
  go_enter Tryz.func8, Tryz.ntmps8
  go_wp2_with fail
  rw [← Hw.out]
  clear Hw
  go_region_held3 (fun w' => I43 w0 w.heap.size (w.heap.size + 1) (w.heap.size + 1 + 1) x y z w') (first | exact I43.keep hS ((Below.refl _ _).drew) | exact I43.keep (by assumption) (by assumption))
    (first | (go_at_call 23; ((with_reducible refine (mcompare_any _ _ _ H1.out _).mono ?_)); rintro e w' ⟨rfl, hbN⟩) | (go_at_call 23; ((with_reducible refine (mcompare_any _ _ _ H2.out _).mono ?_)); rintro e w' ⟨rfl, hbN⟩) | (go_at_call 23; ((with_reducible refine (mcompare_any _ _ _ H3.out _).mono ?_)); rintro e w' ⟨rfl, hbN⟩))
  go_wp2_with fail
  refine (rmcompare_any _ _ _ H1.out _).mono ?_
  rintro e wx ⟨rfl, hbx⟩
  have hSx := I43.keep (by assumption) hbx
  clear hbx
  go_wp2_with fail
  refine (mcompare_any _ _ _ H4.out _).mono ?_
  rintro e wy ⟨rfl, hby⟩
  have hSy := I43.keep hSx hby
  clear hby hSx
  go_wp2_with fail
  have HBy := Lib.hid (HB.out.trans (hSy.1.mono HB.out.size))
  have HCy := Lib.hid (HC.out.keep hSy.1)
  refine (alive_any _ HCy.out).mono ?_
  rintro e wz ⟨rfl, hbz⟩
  have HBz := Lib.hid (HBy.out.trans (hbz.mono HBy.out.size))
  clear hbz
  go_wp2_with fail
  go_ret
  exact ⟨rfl, HBz.out⟩
set_option maxRecDepth 100000 in
set_option maxHeartbeats 4000000 in
theorem order_1_1 (x y z : Md) (k : Int) (w : World) (hC : Cond w) (h1 : cmpM x y = 1) (h2 : cmpM y z = 1) (h3 : cmpM x z = k) (h4 : cmpM y x = (-1)) (he : decide (x = y) = false) :
    Calls Tryz.prog 8 #[md x, md y, md z] w fun e w' => e = .returned (.bool true) ∧ Below w.heap.size w w' := by
  have q : ∀ w, (Op.equalIn 10000 25 (md x) (md y)).run Tryz.prog w = .ok false w := fun w => by rw [eqMd, he]
  have H1 := Lib.hid h1
  have H2 := Lib.hid h2
  have H3 := Lib.hid h3
  have H4 := Lib.hid h4
  obtain ⟨w0, hw0⟩ : ∃ w0, w0 = ((w.alloc (.cells #[.string x.1, .int .i64 x.2.1, .int .i64 x.2.2.1, .int .i64 x.2.2.2] 25)).alloc (.cells #[.string y.1, .int .i64 y.2.1, .int .i64 y.2.2.1, .int .i64 y.2.2.2] 25)).alloc (.cells #[.string z.1, .int .i64 z.2.1, .int .i64 z.2.2.1, .int .i64 z.2.2.2] 25) := ⟨_, rfl⟩
  have hS : I43 w0 w.heap.size (w.heap.size + 1) (w.heap.size + 1 + 1) x y z w0 := by subst hw0; exact three w x y z
  have hB : Below w.heap.size w w0 := by
    subst hw0; exact (((Below.refl w.heap.size w).alloc (Nat.le_refl _) _).alloc (by simp) _).alloc (by simp; omega) _
  have HC := Lib.hid (hC.keep hB)
  have HB := Lib.hid hB
  have Hw := Lib.hid hw0
  clear h1 h2 h3 h4 he hC hB hw0
  unfold md at q ⊢
  go_enter Tryz.func8, Tryz.ntmps8
  go_wp2_with fail
  rw [← Hw.out]
  clear Hw
  go_region_held3 (fun w' => I43 w0 w.heap.size (w.heap.size + 1) (w.heap.size + 1 + 1) x y z w') (first | exact I43.keep hS ((Below.refl _ _).drew) | exact I43.keep (by assumption) (by assumption))
    (first | (go_at_call 23; ((with_reducible refine (mcompare_any _ _ _ H1.out _).mono ?_)); rintro e w' ⟨rfl, hbN⟩) | (go_at_call 23; ((with_reducible refine (mcompare_any _ _ _ H2.out _).mono ?_)); rintro e w' ⟨rfl, hbN⟩) | (go_at_call 23; ((with_reducible refine (mcompare_any _ _ _ H3.out _).mono ?_)); rintro e w' ⟨rfl, hbN⟩))
  go_wp2_with fail
  refine (rmcompare_any _ _ _ H1.out _).mono ?_
  rintro e wx ⟨rfl, hbx⟩
  have hSx := I43.keep (by assumption) hbx
  clear hbx
  go_wp2_with fail
  refine (mcompare_any _ _ _ H4.out _).mono ?_
  rintro e wy ⟨rfl, hby⟩
  have hSy := I43.keep hSx hby
  clear hby hSx
  go_wp2_with fail
  have HBy := Lib.hid (HB.out.trans (hSy.1.mono HB.out.size))
  have HCy := Lib.hid (HC.out.keep hSy.1)
  refine (alive_any _ HCy.out).mono ?_
  rintro e wz ⟨rfl, hbz⟩
  have HBz := Lib.hid (HBy.out.trans (hbz.mono HBy.out.size))
  clear hbz
  go_wp2_with fail
  go_ret
  exact ⟨rfl, HBz.out⟩
theorem low (x y z : Md) (h1 : cmpM x y ≤ 0) (h2 : cmpM y z ≤ 0) (h : cmpM x y < 0 ∨ cmpM y z < 0) : cmpM x z = -1 := by
  have a := cmpM_ok.trans x y z h1 h2
  rcases cmpM_ok.rng x z with e | e | e
  · exact e
  · have := cmpM_ok.strict h1 h2 e
    omega
  · omega
theorem law_order (x y z : Md) (w : World) (hC : Cond w) : Calls Tryz.prog 8 #[md x, md y, md z] w fun e w' => e = .returned (.bool true) ∧ Below w.heap.size w w' := by
  have h4 := cmpM_ok.anti x y
  have hx : ∀ n, cmpM x y = n → n ≠ 0 → decide (x = y) = false := fun n h hn => decide_eq_false (fun e => hn (by rw [← h, e]; exact cmpM_ok.self y))
  have hx0 : cmpM x y = 0 → decide (x = y) = true := fun h => decide_eq_true (cmpM_ok.eq _ _ h)
  rcases cmpM_ok.rng x y with h1 | h1 | h1 <;> rcases cmpM_ok.rng y z with h2 | h2 | h2
  · exact order_m1_m1 x y z w hC h1 h2 (low x y z (by omega) (by omega) (by omega)) (by omega) (hx _ h1 (by decide))
  · exact order_m1_0 x y z w hC h1 h2 (low x y z (by omega) (by omega) (by omega)) (by omega) (hx _ h1 (by decide))
  · exact order_m1_1 x y z _ w hC h1 h2 rfl (by omega) (hx _ h1 (by decide))
  · exact order_0_m1 x y z w hC h1 h2 (low x y z (by omega) (by omega) (by omega)) (by omega) (hx0 h1)
  · exact order_0_0 x y z w hC h1 h2 (by have e1 := cmpM_ok.eq _ _ h1; have e2 := cmpM_ok.eq _ _ h2; rw [e1, e2]; exact cmpM_ok.self z) (by omega) (hx0 h1)
  · exact order_0_1 x y z _ w hC h1 h2 rfl (by omega) (hx0 h1)
  · exact order_1_m1 x y z _ w hC h1 h2 rfl (by omega) (hx _ h1 (by decide))
  · exact order_1_0 x y z _ w hC h1 h2 rfl (by omega) (hx _ h1 (by decide))
  · exact order_1_1 x y z _ w hC h1 h2 rfl (by omega) (hx _ h1 (by decide))
end Go.Proofs.YtmmghdicjpfdoaaGreatDoor
