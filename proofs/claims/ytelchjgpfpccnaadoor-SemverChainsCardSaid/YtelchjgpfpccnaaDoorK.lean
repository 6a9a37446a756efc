import Derived.Test.YtelchjgpfpccnaaDoorR
namespace Go.Proofs.YtelchjgpfpccnaaDoor
open Go.RowKit
theorem eq43 (a0 a1 b0 b1 : Int) (w : World) : (Op.equalIn 10000 43 (.agg #[.int .i64 a0, .int .i64 a1]) (.agg #[.int .i64 b0, .int .i64 b1])).run Tryd.prog w = .ok (a0 == b0 && a1 == b1) w := by
  have h : ∀ a b w, (Op.equalIn 9999 3 (.int .i64 a) (.int .i64 b)).run Tryd.prog w = .ok (a == b) w := fun a b w => run_equalIn_int w 9998 3 .i64 .i64 a b Tryd.underlying3
  have p0 : ∀ (x y : Value) w, (part 3 #[x, y] 0).run Tryd.prog w = .ok x w := fun _ _ _ => by kernel_rfl
  have p1 : ∀ (x y : Value) w, (part 3 #[x, y] 1).run Tryd.prog w = .ok y w := fun _ _ _ => by kernel_rfl
  unfold Op.equalIn
  simp [run_underlying Tryd.underlying43]
  rw [show List.range' 0 2 = [0, 1] from rfl]
  cases h0 : a0 == b0 <;> cases h1 : a1 == b1 <;> simp [h, p0, p1, h0, h1]
def serB (a0 a1 b0 b1 : Int) : Bool := (ser a0 a1).1 == (ser b0 b1).1 && (ser a0 a1).2 == (ser b0 b1).2
def compB (a0 a1 a2 b0 b1 b2 : Int) : Bool := okV a0 a1 a2 && (okV b0 b1 b2 && (decide (cmp3 a0 a1 a2 b0 b1 b2 ≤ 0) && serB a0 a1 b0 b1))
set_option maxRecDepth 100000 in
set_option maxHeartbeats 4000000 in
theorem compat_f1 (a0 a1 a2 b0 b1 b2 : Int) (w : World) (h1 : okV a0 a1 a2 = false) :
    Calls Tryd.prog 20 #[vv a0 a1 a2, vv b0 b1 b2] w fun e w' => e = .returned (.bool false) ∧ Below w.heap.size w w' := by
  have H1 := Lib.hid h1
  obtain ⟨w0, hw0⟩ : ∃ w0, w0 = (w.alloc (vblk a0 a1 a2)).alloc (vblk b0 b1 b2) := ⟨_, rfl⟩
  have hS : I2 w0 w.heap.size (w.heap.size + 1) a0 a1 a2 b0 b1 b2 w0 := by
    subst hw0
    exact ⟨Below.refl _ _, ((Row3.new w a0 a1 a2 23 _ rfl).alloc _).c3, (Row3.new (w.alloc (vblk a0 a1 a2)) b0 b1 b2 23 _ (by simp)).c3⟩
  have hB : Below w.heap.size w w0 := by
    subst hw0; exact ((Below.refl w.heap.size w).alloc (Nat.le_refl _) (vblk a0 a1 a2)).alloc (by simp) (vblk b0 b1 b2)
  have HB := Lib.hid hB
  unfold vblk at hw0
  have Hw := Lib.hid hw0
  clear h1 hB hw0
  unfold vv
  go_enter Tryd.func20, Tryd.ntmps20
  go_wp2_with fail
  rw [← Hw.out]
  clear Hw
  have h0 := hS.2.1.1; have h1' := hS.2.1.2.1; have h2' := hS.2.1.2.2; have h3' := hS.2.2.1; have h4' := hS.2.2.2.1; have h5' := hS.2.2.2.2
  have hD := I2.keep hS ((Below.refl _ _).drew)
  go_region_with (first | (go_at_call 11; ((with_reducible refine (valid_at _ _ _ false H1.out _).mono ?_)); rintro e w' ⟨rfl, hbN⟩; have hI := I2.keep (by assumption) hbN; have := hI.2.1.1; have := hI.2.1.2.1; have := hI.2.1.2.2; have := hI.2.2.1; have := hI.2.2.2.1; have := hI.2.2.2.2))
  all_goals (go_wp2_with fail; go_ret; exact ⟨rfl, of2 HB.out (by assumption)⟩)

set_option maxRecDepth 100000 in
set_option maxHeartbeats 4000000 in
theorem compat_f2 (a0 a1 a2 b0 b1 b2 : Int) (w : World) (h1 : okV a0 a1 a2 = true) (h2 : okV b0 b1 b2 = false) :
    Calls Tryd.prog 20 #[vv a0 a1 a2, vv b0 b1 b2] w fun e w' => e = .returned (.bool false) ∧ Below w.heap.size w w' := by
  have H1 := Lib.hid h1
  have H2 := Lib.hid h2
  obtain ⟨w0, hw0⟩ : ∃ w0, w0 = (w.alloc (vblk a0 a1 a2)).alloc (vblk b0 b1 b2) := ⟨_, rfl⟩
  have hS : I2 w0 w.heap.size (w.heap.size + 1) a0 a1 a2 b0 b1 b2 w0 := by
    subst hw0
    exact ⟨Below.refl _ _, ((Row3.new w a0 a1 a2 23 _ rfl).alloc _).c3, (Row3.new (w.alloc (vblk a0 a1 a2)) b0 b1 b2 23 _ (by simp)).c3⟩
  have hB : Below w.heap.size w w0 := by
    subst hw0; exact ((Below.refl w.heap.size w).alloc (Nat.le_refl _) (vblk a0 a1 a2)).alloc (by simp) (vblk b0 b1 b2)
  have HB := Lib.hid hB
  unfold vblk at hw0
  have Hw := Lib.hid hw0
  clear h1 h2 hB hw0
  unfold vv
  go_enter Tryd.func20, Tryd.ntmps20
  go_wp2_with fail
  rw [← Hw.out]
  clear Hw
  have h0 := hS.2.1.1; have h1' := hS.2.1.2.1; have h2' := hS.2.1.2.2; have h3' := hS.2.2.1; have h4' := hS.2.2.2.1; have h5' := hS.2.2.2.2
  have hD := I2.keep hS ((Below.refl _ _).drew)
  go_region_with (first | (go_at_call 11; ((with_reducible refine (valid_at _ _ _ true H1.out _).mono ?_)); rintro e w' ⟨rfl, hbN⟩; have hI := I2.keep (by assumption) hbN; have := hI.2.1.1; have := hI.2.1.2.1; have := hI.2.1.2.2; have := hI.2.2.1; have := hI.2.2.2.1; have := hI.2.2.2.2) | (go_at_call 11; ((with_reducible refine (valid_at _ _ _ false H2.out _).mono ?_)); rintro e w' ⟨rfl, hbN⟩; have hI := I2.keep (by assumption) hbN; have := hI.2.1.1; have := hI.2.1.2.1; have := hI.2.1.2.2; have := hI.2.2.1; have := hI.2.2.2.1; have := hI.2.2.2.2))
  all_goals (go_wp2_with fail; go_ret; exact ⟨rfl, of2 HB.out (by assumption)⟩)

set_option maxRecDepth 100000 in
set_option maxHeartbeats 4000000 in
theorem compat_gt (a0 a1 a2 b0 b1 b2 : Int) (w : World) (h1 : okV a0 a1 a2 = true) (h2 : okV b0 b1 b2 = true) (h3 : cmp3 a0 a1 a2 b0 b1 b2 = 1) :
    Calls Tryd.prog 20 #[vv a0 a1 a2, vv b0 b1 b2] w fun e w' => e = .returned (.bool false) ∧ Below w.heap.size w w' := by
  have H1 := Lib.hid h1
  have H2 := Lib.hid h2
  have H3 := Lib.hid h3
  obtain ⟨w0, hw0⟩ : ∃ w0, w0 = (w.alloc (vblk a0 a1 a2)).alloc (vblk b0 b1 b2) := ⟨_, rfl⟩
  have hS : I2 w0 w.heap.size (w.heap.size + 1) a0 a1 a2 b0 b1 b2 w0 := by
    subst hw0
    exact ⟨Below.refl _ _, ((Row3.new w a0 a1 a2 23 _ rfl).alloc _).c3, (Row3.new (w.alloc (vblk a0 a1 a2)) b0 b1 b2 23 _ (by simp)).c3⟩
  have hB : Below w.heap.size w w0 := by
    subst hw0; exact ((Below.refl w.heap.size w).alloc (Nat.le_refl _) (vblk a0 a1 a2)).alloc (by simp) (vblk b0 b1 b2)
  have HB := Lib.hid hB
  unfold vblk at hw0
  have Hw := Lib.hid hw0
  clear h1 h2 h3 hB hw0
  unfold vv
  go_enter Tryd.func20, Tryd.ntmps20
  go_wp2_with fail
  rw [← Hw.out]
  clear Hw
  have h0 := hS.2.1.1; have h1' := hS.2.1.2.1; have h2' := hS.2.1.2.2; have h3' := hS.2.2.1; have h4' := hS.2.2.2.1; have h5' := hS.2.2.2.2
  have hD := I2.keep hS ((Below.refl _ _).drew)
  go_region_with (first | (go_at_call 11; ((with_reducible refine (valid_at _ _ _ true H1.out _).mono ?_)); rintro e w' ⟨rfl, hbN⟩; have hI := I2.keep (by assumption) hbN; have := hI.2.1.1; have := hI.2.1.2.1; have := hI.2.1.2.2; have := hI.2.2.1; have := hI.2.2.2.1; have := hI.2.2.2.2) | (go_at_call 11; ((with_reducible refine (valid_at _ _ _ true H2.out _).mono ?_)); rintro e w' ⟨rfl, hbN⟩; have hI := I2.keep (by assumption) hbN; have := hI.2.1.1; have := hI.2.1.2.1; have := hI.2.1.2.2; have := hI.2.2.1; have := hI.2.2.2.1; have := hI.2.2.2.2) | (go_at_call 18; ((with_reducible refine (compare_at _ H3.out _).mono ?_)); rintro e w' ⟨rfl, hbN⟩; have hI := I2.keep (by assumption) hbN; have := hI.2.1.1; have := hI.2.1.2.1; have := hI.2.1.2.2; have := hI.2.2.1; have := hI.2.2.2.1; have := hI.2.2.2.2))
  all_goals (go_wp2_with fail; go_ret; exact ⟨rfl, of2 HB.out (by assumption)⟩)

set_option maxRecDepth 100000 in
set_option maxHeartbeats 4000000 in
theorem compat_lt_true (a0 a1 a2 b0 b1 b2 : Int) (w : World) (h1 : okV a0 a1 a2 = true) (h2 : okV b0 b1 b2 = true) (h3 : cmp3 a0 a1 a2 b0 b1 b2 = (-1)) (h4 : serB a0 a1 b0 b1 = true) :
    Calls Tryd.prog 20 #[vv a0 a1 a2, vv b0 b1 b2] w fun e w' => e = .returned (.bool true) ∧ Below w.heap.size w w' := by
  have q : ∀ w, (Op.equalIn 10000 43 (.agg #[.int .i64 (ser a0 a1).1, .int .i64 (ser a0 a1).2]) (.agg #[.int .i64 (ser b0 b1).1, .int .i64 (ser b0 b1).2])).run Tryd.prog w = .ok true w := fun w => by rw [eq43]; exact congrArg (fun x => Result.ok x w) h4
  have H1 := Lib.hid h1
  have H2 := Lib.hid h2
  have H3 := Lib.hid h3
  obtain ⟨w0, hw0⟩ : ∃ w0, w0 = (w.alloc (vblk a0 a1 a2)).alloc (vblk b0 b1 b2) := ⟨_, rfl⟩
  have hS : I2 w0 w.heap.size (w.heap.size + 1) a0 a1 a2 b0 b1 b2 w0 := by
    subst hw0
    exact ⟨Below.refl _ _, ((Row3.new w a0 a1 a2 23 _ rfl).alloc _).c3, (Row3.new (w.alloc (vblk a0 a1 a2)) b0 b1 b2 23 _ (by simp)).c3⟩
  have hB : Below w.heap.size w w0 := by
    subst hw0; exact ((Below.refl w.heap.size w).alloc (Nat.le_refl _) (vblk a0 a1 a2)).alloc (by simp) (vblk b0 b1 b2)
  have HB := Lib.hid hB
  unfold vblk at hw0
  have Hw := Lib.hid hw0
  clear h1 h2 h3 h4 hB hw0
  unfold vv
  go_enter Tryd.func20, Tryd.ntmps20
  go_wp2_with fail
  rw [← Hw.out]
  clear Hw
  go_region_held3 (fun w' => I2 w0 w.heap.size (w.heap.size + 1) a0 a1 a2 b0 b1 b2 w') (first | exact I2.keep hS ((Below.refl _ _).drew) | exact I2.keep (by assumption) (by assumption))
    (first | (go_at_call 11; ((with_reducible refine (valid_at _ _ _ true H1.out _).mono ?_)); rintro e w' ⟨rfl, hbN⟩) | (go_at_call 11; ((with_reducible refine (valid_at _ _ _ true H2.out _).mono ?_)); rintro e w' ⟨rfl, hbN⟩) | (go_at_call 18; ((with_reducible refine (compare_at _ H3.out _).mono ?_)); rintro e w' ⟨rfl, hbN⟩) | (go_at_call 31; refine (series_any _ _ _ _).mono ?_; rintro e w' ⟨rfl, hbN⟩))
  all_goals (go_wp2_with fail; go_ret; exact ⟨rfl, of2 HB.out (by assumption)⟩)

set_option maxRecDepth 100000 in
set_option maxHeartbeats 4000000 in
theorem compat_lt_false (a0 a1 a2 b0 b1 b2 : Int) (w : World) (h1 : okV a0 a1 a2 = true) (h2 : okV b0 b1 b2 = true) (h3 : cmp3 a0 a1 a2 b0 b1 b2 = (-1)) (h4 : serB a0 a1 b0 b1 = false) :
    Calls Tryd.prog 20 #[vv a0 a1 a2, vv b0 b1 b2] w fun e w' => e = .returned (.bool false) ∧ Below w.heap.size w w' := by
  have q : ∀ w, (Op.equalIn 10000 43 (.agg #[.int .i64 (ser a0 a1).1, .int .i64 (ser a0 a1).2]) (.agg #[.int .i64 (ser b0 b1).1, .int .i64 (ser b0 b1).2])).run Tryd.prog w = .ok false w := fun w => by rw [eq43]; exact congrArg (fun x => Result.ok x w) h4
  have H1 := Lib.hid h1
  have H2 := Lib.hid h2
  have H3 := Lib.hid h3
  obtain ⟨w0, hw0⟩ : ∃ w0, w0 = (w.alloc (vblk a0 a1 a2)).alloc (vblk b0 b1 b2) := ⟨_, rfl⟩
  have hS : I2 w0 w.heap.size (w.heap.size + 1) a0 a1 a2 b0 b1 b2 w0 := by
    subst hw0
    exact ⟨Below.refl _ _, ((Row3.new w a0 a1 a2 23 _ rfl).alloc _).c3, (Row3.new (w.alloc (vblk a0 a1 a2)) b0 b1 b2 23 _ (by simp)).c3⟩
  have hB : Below w.heap.size w w0 := by
    subst hw0; exact ((Below.refl w.heap.size w).alloc (Nat.le_refl _) (vblk a0 a1 a2)).alloc (by simp) (vblk b0 b1 b2)
  have HB := Lib.hid hB
  unfold vblk at hw0
  have Hw := Lib.hid hw0
  clear h1 h2 h3 h4 hB hw0
  unfold vv
  go_enter Tryd.func20, Tryd.ntmps20
  go_wp2_with fail
  rw [← Hw.out]
  clear Hw
  go_region_held3 (fun w' => I2 w0 w.heap.size (w.heap.size + 1) a0 a1 a2 b0 b1 b2 w') (first | exact I2.keep hS ((Below.refl _ _).drew) | exact I2.keep (by assumption) (by assumption))
    (first | (go_at_call 11; ((with_reducible refine (valid_at _ _ _ true H1.out _).mono ?_)); rintro e w' ⟨rfl, hbN⟩) | (go_at_call 11; ((with_reducible refine (valid_at _ _ _ true H2.out _).mono ?_)); rintro e w' ⟨rfl, hbN⟩) | (go_at_call 18; ((with_reducible refine (compare_at _ H3.out _).mono ?_)); rintro e w' ⟨rfl, hbN⟩) | (go_at_call 31; refine (series_any _ _ _ _).mono ?_; rintro e w' ⟨rfl, hbN⟩))
  all_goals (go_wp2_with fail; go_ret; exact ⟨rfl, of2 HB.out (by assumption)⟩)

set_option maxRecDepth 100000 in
set_option maxHeartbeats 4000000 in
theorem compat_eq_true (a0 a1 a2 b0 b1 b2 : Int) (w : World) (h1 : okV a0 a1 a2 = true) (h2 : okV b0 b1 b2 = true) (h3 : cmp3 a0 a1 a2 b0 b1 b2 = 0) (h4 : serB a0 a1 b0 b1 = true) :
    Calls Tryd.prog 20 #[vv a0 a1 a2, vv b0 b1 b2] w fun e w' => e = .returned (.bool true) ∧ Below w.heap.size w w' := by
  have q : ∀ w, (Op.equalIn 10000 43 (.agg #[.int .i64 (ser a0 a1).1, .int .i64 (ser a0 a1).2]) (.agg #[.int .i64 (ser b0 b1).1, .int .i64 (ser b0 b1).2])).run Tryd.prog w = .ok true w := fun w => by rw [eq43]; exact congrArg (fun x => Result.ok x w) h4
  have H1 := Lib.hid h1
  have H2 := Lib.hid h2
  have H3 := Lib.hid h3
  obtain ⟨w0, hw0⟩ : ∃ w0, w0 = (w.alloc (vblk a0 a1 a2)).alloc (vblk b0 b1 b2) := ⟨_, rfl⟩
  have hS : I2 w0 w.heap.size (w.heap.size + 1) a0 a1 a2 b0 b1 b2 w0 := by
    subst hw0
    exact ⟨Below.refl _ _, ((Row3.new w a0 a1 a2 23 _ rfl).alloc _).c3, (Row3.new (w.alloc (vblk a0 a1 a2)) b0 b1 b2 23 _ (by simp)).c3⟩
  have hB : Below w.heap.size w w0 := by
    subst hw0; exact ((Below.refl w.heap.size w).alloc (Nat.le_refl _) (vblk a0 a1 a2)).alloc (by simp) (vblk b0 b1 b2)
  have HB := Lib.hid hB
  unfold vblk at hw0
  have Hw := Lib.hid hw0
  clear h1 h2 h3 h4 hB hw0
  unfold vv
  go_enter Tryd.func20, Tryd.ntmps20
  go_wp2_with fail
  rw [← Hw.out]
  clear Hw
  go_region_held3 (fun w' => I2 w0 w.heap.size (w.heap.size + 1) a0 a1 a2 b0 b1 b2 w') (first | exact I2.keep hS ((Below.refl _ _).drew) | exact I2.keep (by assumption) (by assumption))
    (first | (go_at_call 11; ((with_reducible refine (valid_at _ _ _ true H1.out _).mono ?_)); rintro e w' ⟨rfl, hbN⟩) | (go_at_call 11; ((with_reducible refine (valid_at _ _ _ true H2.out _).mono ?_)); rintro e w' ⟨rfl, hbN⟩) | (go_at_call 18; ((with_reducible refine (compare_at _ H3.out _).mono ?_)); rintro e w' ⟨rfl, hbN⟩) | (go_at_call 31; refine (series_any _ _ _ _).mono ?_; rintro e w' ⟨rfl, hbN⟩))
  all_goals (go_wp2_with fail; go_ret; exact ⟨rfl, of2 HB.out (by assumption)⟩)

set_option maxRecDepth 100000 in
set_option maxHeartbeats 4000000 in
theorem compat_eq_false (a0 a1 a2 b0 b1 b2 : Int) (w : World) (h1 : okV a0 a1 a2 = true) (h2 : okV b0 b1 b2 = true) (h3 : cmp3 a0 a1 a2 b0 b1 b2 = 0) (h4 : serB a0 a1 b0 b1 = false) :
    Calls Tryd.prog 20 #[vv a0 a1 a2, vv b0 b1 b2] w fun e w' => e = .returned (.bool false) ∧ Below w.heap.size w w' := by
  have q : ∀ w, (Op.equalIn 10000 43 (.agg #[.int .i64 (ser a0 a1).1, .int .i64 (ser a0 a1).2]) (.agg #[.int .i64 (ser b0 b1).1, .int .i64 (ser b0 b1).2])).run Tryd.prog w = .ok false w := fun w => by rw [eq43]; exact congrArg (fun x => Result.ok x w) h4
  have H1 := Lib.hid h1
  have H2 := Lib.hid h2
  have H3 := Lib.hid h3
  obtain ⟨w0, hw0⟩ : ∃ w0, w0 = (w.alloc (vblk a0 a1 a2)).alloc (vblk b0 b1 b2) := ⟨_, rfl⟩
  have hS : I2 w0 w.heap.size (w.heap.size + 1) a0 a1 a2 b0 b1 b2 w0 := by
    subst hw0
    exact ⟨Below.refl _ _, ((Row3.new w a0 a1 a2 23 _ rfl).alloc _).c3, (Row3.new (w.alloc (vblk a0 a1 a2)) b0 b1 b2 23 _ (by simp)).c3⟩
  have hB : Below w.heap.size w w0 := by
    subst hw0; exact ((Below.refl w.heap.size w).alloc (Nat.le_refl _) (vblk a0 a1 a2)).alloc (by simp) (vblk b0 b1 b2)
  have HB := Lib.hid hB
  unfold vblk at hw0
  have Hw := Lib.hid hw0
  clear h1 h2 h3 h4 hB hw0
  unfold vv
  go_enter Tryd.func20, Tryd.ntmps20
  go_wp2_with fail
  rw [← Hw.out]
  clear Hw
  go_region_held3 (fun w' => I2 w0 w.heap.size (w.heap.size + 1) a0 a1 a2 b0 b1 b2 w') (first | exact I2.keep hS ((Below.refl _ _).drew) | exact I2.keep (by assumption) (by assumption))
    (first | (go_at_call 11; ((with_reducible refine (valid_at _ _ _ true H1.out _).mono ?_)); rintro e w' ⟨rfl, hbN⟩) | (go_at_call 11; ((with_reducible refine (valid_at _ _ _ true H2.out _).mono ?_)); rintro e w' ⟨rfl, hbN⟩) | (go_at_call 18; ((with_reducible refine (compare_at _ H3.out _).mono ?_)); rintro e w' ⟨rfl, hbN⟩) | (go_at_call 31; refine (series_any _ _ _ _).mono ?_; rintro e w' ⟨rfl, hbN⟩))
  all_goals (go_wp2_with fail; go_ret; exact ⟨rfl, of2 HB.out (by assumption)⟩)

theorem compat_any (a0 a1 a2 b0 b1 b2 : Int) (w : World) :
    Calls Tryd.prog 20 #[vv a0 a1 a2, vv b0 b1 b2] w fun e w' => e = .returned (.bool (compB a0 a1 a2 b0 b1 b2)) ∧ Below w.heap.size w w' := by
  unfold compB
  cases h1 : okV a0 a1 a2
  · exact compat_f1 _ _ _ _ _ _ w h1
  · cases h2 : okV b0 b1 b2
    · exact compat_f2 _ _ _ _ _ _ w h1 h2
    · rcases cmp3_cases a0 a1 a2 b0 b1 b2 with ⟨_, h3⟩ | ⟨_, h3⟩ | ⟨_, h3⟩
      · cases h4 : serB a0 a1 b0 b1
        · rw [h3]; exact compat_lt_false _ _ _ _ _ _ w h1 h2 h3 h4
        · rw [h3]; exact compat_lt_true _ _ _ _ _ _ w h1 h2 h3 h4
      · cases h4 : serB a0 a1 b0 b1
        · rw [h3]; exact compat_eq_false _ _ _ _ _ _ w h1 h2 h3 h4
        · rw [h3]; exact compat_eq_true _ _ _ _ _ _ w h1 h2 h3 h4
      · rw [h3]; exact compat_gt _ _ _ _ _ _ w h1 h2 h3
theorem compat_at {a0 a1 a2 b0 b1 b2 : Int} (v : Bool) (h : compB a0 a1 a2 b0 b1 b2 = v) (w : World) :
    Calls Tryd.prog 20 #[vv a0 a1 a2, vv b0 b1 b2] w fun e w' => e = .returned (.bool v) ∧ Below w.heap.size w w' := by
  have := compat_any a0 a1 a2 b0 b1 b2 w; rw [h] at this; exact this
end Go.Proofs.YtelchjgpfpccnaaDoor
