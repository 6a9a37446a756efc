/-
  What configlangref43.Next returns, case by case. No condition on the world.
-/
import Derived.Test.YteeagengliaakaaDoorR
namespace Go.Proofs.YteeagengliaakaaDoor
open Go.RowKit
set_option linter.unusedSimpArgs false
set_option linter.unusedVariables false
set_option maxRecDepth 100000 in
set_option maxHeartbeats 2000000 in
theorem rnext_bad (a b c n : Int) (w : World) (ho : okV a b c = false) :
    Calls Tryd.prog 23 #[vv a b c, .int .i64 n] w fun e w' => e = .returned (.tuple #[vv 0 0 0, .int .i64 11]) ∧ Below w.heap.size w w' := by
  have Ho := Lib.hid ho
  clear ho
  unfold vv
  go_enter Tryd.func23, Tryd.ntmps23
  go_wp2_with fail
  refine (rvalid_at _ _ _ false Ho.out _).mono ?_
  rintro e w1 ⟨rfl, hb1⟩
  have R1 : Row3 w1 w.heap.size a b c := (Row3.new w a b c 23 _ rfl).below (N := w.heap.size + 1) (((Below.refl _ _).alloc (by simp) _).trans (hb1.mono (by simp))) (by omega)
  have Z1 : Row3 w1 (w.heap.size + 1) 0 0 0 := (Row3.new (w.alloc (.cells #[.int .i64 a, .int .i64 b, .int .i64 c] 23)) 0 0 0 23 _ (by simp)).below hb1 (by simp)
  have B1 : Below w.heap.size w w1 := ((((Below.refl w.heap.size w).alloc (Nat.le_refl _) (.cells #[.int .i64 a, .int .i64 b, .int .i64 c] 23)).alloc (by simp) (.cells #[.int .i64 0, .int .i64 0, .int .i64 0] 23))).trans (hb1.mono (by simp; omega))
  clear hb1
  obtain ⟨y1, d0, d1, d2, g0, g1, g2⟩ := id Z1
  go_wp2_with fail
  refine bodyPost_ret (v := .tuple #[vv 0 0 0, .int .i64 11]) (by simp [results, Tryd.results23, go_sem, d0, d1, d2, y1]) rfl ⟨rfl, ?_⟩
  exact (((B1.setCell (by simp) _).setCell (by simp) _).setCell (by simp) _)

set_option maxRecDepth 100000 in
set_option maxHeartbeats 2000000 in
theorem rnext_lo (a b c n : Int) (w : World) (ho : okV a b c = true) (hl : n < 0) :
    Calls Tryd.prog 23 #[vv a b c, .int .i64 n] w fun e w' => e = .returned (.tuple #[vv 0 0 0, .int .i64 5]) ∧ Below w.heap.size w w' := by
  have Ho := Lib.hid ho
  clear ho
  unfold vv
  go_enter Tryd.func23, Tryd.ntmps23
  go_wp2_with fail
  refine (rvalid_at _ _ _ true Ho.out _).mono ?_
  rintro e w1 ⟨rfl, hb1⟩
  have R1 : Row3 w1 w.heap.size a b c := (Row3.new w a b c 23 _ rfl).below (N := w.heap.size + 1) (((Below.refl _ _).alloc (by simp) _).trans (hb1.mono (by simp))) (by omega)
  have Z1 : Row3 w1 (w.heap.size + 1) 0 0 0 := (Row3.new (w.alloc (.cells #[.int .i64 a, .int .i64 b, .int .i64 c] 23)) 0 0 0 23 _ (by simp)).below hb1 (by simp)
  have B1 : Below w.heap.size w w1 := ((((Below.refl w.heap.size w).alloc (Nat.le_refl _) (.cells #[.int .i64 a, .int .i64 b, .int .i64 c] 23)).alloc (by simp) (.cells #[.int .i64 0, .int .i64 0, .int .i64 0] 23))).trans (hb1.mono (by simp; omega))
  clear hb1
  obtain ⟨y1, d0, d1, d2, g0, g1, g2⟩ := id Z1
  go_wp2_with fail
  refine bodyPost_ret (v := .tuple #[vv 0 0 0, .int .i64 5]) (by simp [results, Tryd.results23, go_sem, d0, d1, d2, y1]) rfl ⟨rfl, ?_⟩
  exact (((B1.setCell (by simp) _).setCell (by simp) _).setCell (by simp) _)

set_option maxRecDepth 100000 in
set_option maxHeartbeats 2000000 in
theorem rnext_hi (a b c n : Int) (w : World) (ho : okV a b c = true) (hh : 2 < n) :
    Calls Tryd.prog 23 #[vv a b c, .int .i64 n] w fun e w' => e = .returned (.tuple #[vv 0 0 0, .int .i64 5]) ∧ Below w.heap.size w w' := by
  have hl : ¬ n < 0 := by omega
  have Ho := Lib.hid ho
  clear ho
  unfold vv
  go_enter Tryd.func23, Tryd.ntmps23
  go_wp2_with fail
  refine (rvalid_at _ _ _ true Ho.out _).mono ?_
  rintro e w1 ⟨rfl, hb1⟩
  have R1 : Row3 w1 w.heap.size a b c := (Row3.new w a b c 23 _ rfl).below (N := w.heap.size + 1) (((Below.refl _ _).alloc (by simp) _).trans (hb1.mono (by simp))) (by omega)
  have Z1 : Row3 w1 (w.heap.size + 1) 0 0 0 := (Row3.new (w.alloc (.cells #[.int .i64 a, .int .i64 b, .int .i64 c] 23)) 0 0 0 23 _ (by simp)).below hb1 (by simp)
  have B1 : Below w.heap.size w w1 := ((((Below.refl w.heap.size w).alloc (Nat.le_refl _) (.cells #[.int .i64 a, .int .i64 b, .int .i64 c] 23)).alloc (by simp) (.cells #[.int .i64 0, .int .i64 0, .int .i64 0] 23))).trans (hb1.mono (by simp; omega))
  clear hb1
  obtain ⟨y1, d0, d1, d2, g0, g1, g2⟩ := id Z1
  go_wp2_with fail
  refine bodyPost_ret (v := .tuple #[vv 0 0 0, .int .i64 5]) (by simp [results, Tryd.results23, go_sem, d0, d1, d2, y1]) rfl ⟨rfl, ?_⟩
  exact (((B1.setCell (by simp) _).setCell (by simp) _).setCell (by simp) _)

set_option maxRecDepth 100000 in
set_option maxHeartbeats 2000000 in
theorem rnext_0z_ok (a b c : Int) (w : World) (ho : okV a b c = true) (f0 : (a == 0) = true) (hn : okV a b (c + 1) = true) :
    Calls Tryd.prog 23 #[vv a b c, .int .i64 0] w fun e w' => e = .returned (.tuple #[vv a b (c + 1), .int .i64 0]) ∧ Below w.heap.size w w' := by
  obtain ⟨la, ua, lb, ub, lc, uc⟩ := okV_of ho
  have Ho := Lib.hid ho
  have Hn := Lib.hid hn
  clear ho hn
  unfold vv
  go_enter Tryd.func23, Tryd.ntmps23
  go_wp2_with fail
  refine (rvalid_at _ _ _ true Ho.out _).mono ?_
  rintro e w1 ⟨rfl, hb1⟩
  have R1 : Row3 w1 w.heap.size a b c := (Row3.new w a b c 23 _ rfl).below (N := w.heap.size + 1) (((Below.refl _ _).alloc (by simp) _).trans (hb1.mono (by simp))) (by omega)
  have Z1 : Row3 w1 (w.heap.size + 1) 0 0 0 := (Row3.new (w.alloc (.cells #[.int .i64 a, .int .i64 b, .int .i64 c] 23)) 0 0 0 23 _ (by simp)).below hb1 (by simp)
  have B1 : Below w.heap.size w w1 := ((((Below.refl w.heap.size w).alloc (Nat.le_refl _) (.cells #[.int .i64 a, .int .i64 b, .int .i64 c] 23)).alloc (by simp) (.cells #[.int .i64 0, .int .i64 0, .int .i64 0] 23))).trans (hb1.mono (by simp; omega))
  clear hb1
  obtain ⟨z1, c0, c1, c2, f1, f2, f3⟩ := id R1
  go_wp2_with fail
  refine (rvalid_at _ _ _ true Hn.out _).mono ?_
  rintro e w5 ⟨rfl, hb5⟩
  have N5 := (Row3.new w1 a b (c + 1) 23 _ rfl).keep hb5
  replace Z1 := (Z1.alloc _).keep hb5
  replace B1 := (B1.alloc B1.size _).trans (hb5.mono (by have := B1.size; simp; omega))
  clear hb5 R1 z1 c0 c1 c2 f1 f2 f3
  obtain ⟨y1, d0, d1, d2, g0, g1, g2⟩ := id Z1
  obtain ⟨x1, e0, e1, e2, k0, k1, k2⟩ := id N5
  go_wp2_with fail
  refine bodyPost_ret (v := .tuple #[vv a b (c + 1), .int .i64 0]) (by simp [results, Tryd.results23, go_sem, d0, d1, d2, y1]) rfl ⟨rfl, ?_⟩
  exact (((B1.setCell (by simp) _).setCell (by simp) _).setCell (by simp) _)

set_option maxRecDepth 100000 in
set_option maxHeartbeats 2000000 in
theorem rnext_0z_over (a b c : Int) (w : World) (ho : okV a b c = true) (f0 : (a == 0) = true) (hn : okV a b (c + 1) = false) :
    Calls Tryd.prog 23 #[vv a b c, .int .i64 0] w fun e w' => e = .returned (.tuple #[vv 0 0 0, .int .i64 1]) ∧ Below w.heap.size w w' := by
  obtain ⟨la, ua, lb, ub, lc, uc⟩ := okV_of ho
  have Ho := Lib.hid ho
  have Hn := Lib.hid hn
  clear ho hn
  unfold vv
  go_enter Tryd.func23, Tryd.ntmps23
  go_wp2_with fail
  refine (rvalid_at _ _ _ true Ho.out _).mono ?_
  rintro e w1 ⟨rfl, hb1⟩
  have R1 : Row3 w1 w.heap.size a b c := (Row3.new w a b c 23 _ rfl).below (N := w.heap.size + 1) (((Below.refl _ _).alloc (by simp) _).trans (hb1.mono (by simp))) (by omega)
  have Z1 : Row3 w1 (w.heap.size + 1) 0 0 0 := (Row3.new (w.alloc (.cells #[.int .i64 a, .int .i64 b, .int .i64 c] 23)) 0 0 0 23 _ (by simp)).below hb1 (by simp)
  have B1 : Below w.heap.size w w1 := ((((Below.refl w.heap.size w).alloc (Nat.le_refl _) (.cells #[.int .i64 a, .int .i64 b, .int .i64 c] 23)).alloc (by simp) (.cells #[.int .i64 0, .int .i64 0, .int .i64 0] 23))).trans (hb1.mono (by simp; omega))
  clear hb1
  obtain ⟨z1, c0, c1, c2, f1, f2, f3⟩ := id R1
  go_wp2_with fail
  refine (rvalid_at _ _ _ false Hn.out _).mono ?_
  rintro e w5 ⟨rfl, hb5⟩
  have N5 := (Row3.new w1 a b (c + 1) 23 _ rfl).keep hb5
  replace Z1 := (Z1.alloc _).keep hb5
  replace B1 := (B1.alloc B1.size _).trans (hb5.mono (by have := B1.size; simp; omega))
  clear hb5 R1 z1 c0 c1 c2 f1 f2 f3
  obtain ⟨y1, d0, d1, d2, g0, g1, g2⟩ := id Z1
  obtain ⟨x1, e0, e1, e2, k0, k1, k2⟩ := id N5
  go_wp2_with fail
  refine bodyPost_ret (v := .tuple #[vv 0 0 0, .int .i64 1]) (by simp [results, Tryd.results23, go_sem, d0, d1, d2, y1]) rfl ⟨rfl, ?_⟩
  exact (((B1.setCell (by simp) _).setCell (by simp) _).setCell (by simp) _)

set_option maxRecDepth 100000 in
set_option maxHeartbeats 2000000 in
theorem rnext_0n_ok (a b c : Int) (w : World) (ho : okV a b c = true) (f0 : (a == 0) = false) (hn : okV a b (c + 1) = true) :
    Calls Tryd.prog 23 #[vv a b c, .int .i64 0] w fun e w' => e = .returned (.tuple #[vv a b (c + 1), .int .i64 0]) ∧ Below w.heap.size w w' := by
  obtain ⟨la, ua, lb, ub, lc, uc⟩ := okV_of ho
  have Ho := Lib.hid ho
  have Hn := Lib.hid hn
  clear ho hn
  unfold vv
  go_enter Tryd.func23, Tryd.ntmps23
  go_wp2_with fail
  refine (rvalid_at _ _ _ true Ho.out _).mono ?_
  rintro e w1 ⟨rfl, hb1⟩
  have R1 : Row3 w1 w.heap.size a b c := (Row3.new w a b c 23 _ rfl).below (N := w.heap.size + 1) (((Below.refl _ _).alloc (by simp) _).trans (hb1.mono (by simp))) (by omega)
  have Z1 : Row3 w1 (w.heap.size + 1) 0 0 0 := (Row3.new (w.alloc (.cells #[.int .i64 a, .int .i64 b, .int .i64 c] 23)) 0 0 0 23 _ (by simp)).below hb1 (by simp)
  have B1 : Below w.heap.size w w1 := ((((Below.refl w.heap.size w).alloc (Nat.le_refl _) (.cells #[.int .i64 a, .int .i64 b, .int .i64 c] 23)).alloc (by simp) (.cells #[.int .i64 0, .int .i64 0, .int .i64 0] 23))).trans (hb1.mono (by simp; omega))
  clear hb1
  obtain ⟨z1, c0, c1, c2, f1, f2, f3⟩ := id R1
  go_wp2_with fail
  refine (rvalid_at _ _ _ true Hn.out _).mono ?_
  rintro e w5 ⟨rfl, hb5⟩
  have N5 := (Row3.new w1 a b (c + 1) 23 _ rfl).keep hb5
  replace Z1 := (Z1.alloc _).keep hb5
  replace B1 := (B1.alloc B1.size _).trans (hb5.mono (by have := B1.size; simp; omega))
  clear hb5 R1 z1 c0 c1 c2 f1 f2 f3
  obtain ⟨y1, d0, d1, d2, g0, g1, g2⟩ := id Z1
  obtain ⟨x1, e0, e1, e2, k0, k1, k2⟩ := id N5
  go_wp2_with fail
  refine bodyPost_ret (v := .tuple #[vv a b (c + 1), .int .i64 0]) (by simp [results, Tryd.results23, go_sem, d0, d1, d2, y1]) rfl ⟨rfl, ?_⟩
  exact (((B1.setCell (by simp) _).setCell (by simp) _).setCell (by simp) _)

set_option maxRecDepth 100000 in
set_option maxHeartbeats 2000000 in
theorem rnext_0n_over (a b c : Int) (w : World) (ho : okV a b c = true) (f0 : (a == 0) = false) (hn : okV a b (c + 1) = false) :
    Calls Tryd.prog 23 #[vv a b c, .int .i64 0] w fun e w' => e = .returned (.tuple #[vv 0 0 0, .int .i64 1]) ∧ Below w.heap.size w w' := by
  obtain ⟨la, ua, lb, ub, lc, uc⟩ := okV_of ho
  have Ho := Lib.hid ho
  have Hn := Lib.hid hn
  clear ho hn
  unfold vv
  go_enter Tryd.func23, Tryd.ntmps23
  go_wp2_with fail
  refine (rvalid_at _ _ _ true Ho.out _).mono ?_
  rintro e w1 ⟨rfl, hb1⟩
  have R1 : Row3 w1 w.heap.size a b c := (Row3.new w a b c 23 _ rfl).below (N := w.heap.size + 1) (((Below.refl _ _).alloc (by simp) _).trans (hb1.mono (by simp))) (by omega)
  have Z1 : Row3 w1 (w.heap.size + 1) 0 0 0 := (Row3.new (w.alloc (.cells #[.int .i64 a, .int .i64 b, .int .i64 c] 23)) 0 0 0 23 _ (by simp)).below hb1 (by simp)
  have B1 : Below w.heap.size w w1 := ((((Below.refl w.heap.size w).alloc (Nat.le_refl _) (.cells #[.int .i64 a, .int .i64 b, .int .i64 c] 23)).alloc (by simp) (.cells #[.int .i64 0, .int .i64 0, .int .i64 0] 23))).trans (hb1.mono (by simp; omega))
  clear hb1
  obtain ⟨z1, c0, c1, c2, f1, f2, f3⟩ := id R1
  go_wp2_with fail
  refine (rvalid_at _ _ _ false Hn.out _).mono ?_
  rintro e w5 ⟨rfl, hb5⟩
  have N5 := (Row3.new w1 a b (c + 1) 23 _ rfl).keep hb5
  replace Z1 := (Z1.alloc _).keep hb5
  replace B1 := (B1.alloc B1.size _).trans (hb5.mono (by have := B1.size; simp; omega))
  clear hb5 R1 z1 c0 c1 c2 f1 f2 f3
  obtain ⟨y1, d0, d1, d2, g0, g1, g2⟩ := id Z1
  obtain ⟨x1, e0, e1, e2, k0, k1, k2⟩ := id N5
  go_wp2_with fail
  refine bodyPost_ret (v := .tuple #[vv 0 0 0, .int .i64 1]) (by simp [results, Tryd.results23, go_sem, d0, d1, d2, y1]) rfl ⟨rfl, ?_⟩
  exact (((B1.setCell (by simp) _).setCell (by simp) _).setCell (by simp) _)

set_option maxRecDepth 100000 in
set_option maxHeartbeats 2000000 in
theorem rnext_1z_ok (a b c : Int) (w : World) (ho : okV a b c = true) (f0 : (a == 0) = true) (hn : okV a b (c + 1) = true) :
    Calls Tryd.prog 23 #[vv a b c, .int .i64 1] w fun e w' => e = .returned (.tuple #[vv a b (c + 1), .int .i64 0]) ∧ Below w.heap.size w w' := by
  obtain ⟨la, ua, lb, ub, lc, uc⟩ := okV_of ho
  have Ho := Lib.hid ho
  have Hn := Lib.hid hn
  clear ho hn
  unfold vv
  go_enter Tryd.func23, Tryd.ntmps23
  go_wp2_with fail
  refine (rvalid_at _ _ _ true Ho.out _).mono ?_
  rintro e w1 ⟨rfl, hb1⟩
  have R1 : Row3 w1 w.heap.size a b c := (Row3.new w a b c 23 _ rfl).below (N := w.heap.size + 1) (((Below.refl _ _).alloc (by simp) _).trans (hb1.mono (by simp))) (by omega)
  have Z1 : Row3 w1 (w.heap.size + 1) 0 0 0 := (Row3.new (w.alloc (.cells #[.int .i64 a, .int .i64 b, .int .i64 c] 23)) 0 0 0 23 _ (by simp)).below hb1 (by simp)
  have B1 : Below w.heap.size w w1 := ((((Below.refl w.heap.size w).alloc (Nat.le_refl _) (.cells #[.int .i64 a, .int .i64 b, .int .i64 c] 23)).alloc (by simp) (.cells #[.int .i64 0, .int .i64 0, .int .i64 0] 23))).trans (hb1.mono (by simp; omega))
  clear hb1
  obtain ⟨z1, c0, c1, c2, f1, f2, f3⟩ := id R1
  go_wp2_with fail
  refine (rvalid_at _ _ _ true Hn.out _).mono ?_
  rintro e w5 ⟨rfl, hb5⟩
  have N5 := (Row3.new w1 a b (c + 1) 23 _ rfl).keep hb5
  replace Z1 := (Z1.alloc _).keep hb5
  replace B1 := (B1.alloc B1.size _).trans (hb5.mono (by have := B1.size; simp; omega))
  clear hb5 R1 z1 c0 c1 c2 f1 f2 f3
  obtain ⟨y1, d0, d1, d2, g0, g1, g2⟩ := id Z1
  obtain ⟨x1, e0, e1, e2, k0, k1, k2⟩ := id N5
  go_wp2_with fail
  refine bodyPost_ret (v := .tuple #[vv a b (c + 1), .int .i64 0]) (by simp [results, Tryd.results23, go_sem, d0, d1, d2, y1]) rfl ⟨rfl, ?_⟩
  exact (((B1.setCell (by simp) _).setCell (by simp) _).setCell (by simp) _)

set_option maxRecDepth 100000 in
set_option maxHeartbeats 2000000 in
theorem rnext_1z_over (a b c : Int) (w : World) (ho : okV a b c = true) (f0 : (a == 0) = true) (hn : okV a b (c + 1) = false) :
    Calls Tryd.prog 23 #[vv a b c, .int .i64 1] w fun e w' => e = .returned (.tuple #[vv 0 0 0, .int .i64 1]) ∧ Below w.heap.size w w' := by
  obtain ⟨la, ua, lb, ub, lc, uc⟩ := okV_of ho
  have Ho := Lib.hid ho
  have Hn := Lib.hid hn
  clear ho hn
  unfold vv
  go_enter Tryd.func23, Tryd.ntmps23
  go_wp2_with fail
  refine (rvalid_at _ _ _ true Ho.out _).mono ?_
  rintro e w1 ⟨rfl, hb1⟩
  have R1 : Row3 w1 w.heap.size a b c := (Row3.new w a b c 23 _ rfl).below (N := w.heap.size + 1) (((Below.refl _ _).alloc (by simp) _).trans (hb1.mono (by simp))) (by omega)
  have Z1 : Row3 w1 (w.heap.size + 1) 0 0 0 := (Row3.new (w.alloc (.cells #[.int .i64 a, .int .i64 b, .int .i64 c] 23)) 0 0 0 23 _ (by simp)).below hb1 (by simp)
  have B1 : Below w.heap.size w w1 := ((((Below.refl w.heap.size w).alloc (Nat.le_refl _) (.cells #[.int .i64 a, .int .i64 b, .int .i64 c] 23)).alloc (by simp) (.cells #[.int .i64 0, .int .i64 0, .int .i64 0] 23))).trans (hb1.mono (by simp; omega))
  clear hb1
  obtain ⟨z1, c0, c1, c2, f1, f2, f3⟩ := id R1
  go_wp2_with fail
  refine (rvalid_at _ _ _ false Hn.out _).mono ?_
  rintro e w5 ⟨rfl, hb5⟩
  have N5 := (Row3.new w1 a b (c + 1) 23 _ rfl).keep hb5
  replace Z1 := (Z1.alloc _).keep hb5
  replace B1 := (B1.alloc B1.size _).trans (hb5.mono (by have := B1.size; simp; omega))
  clear hb5 R1 z1 c0 c1 c2 f1 f2 f3
  obtain ⟨y1, d0, d1, d2, g0, g1, g2⟩ := id Z1
  obtain ⟨x1, e0, e1, e2, k0, k1, k2⟩ := id N5
  go_wp2_with fail
  refine bodyPost_ret (v := .tuple #[vv 0 0 0, .int .i64 1]) (by simp [results, Tryd.results23, go_sem, d0, d1, d2, y1]) rfl ⟨rfl, ?_⟩
  exact (((B1.setCell (by simp) _).setCell (by simp) _).setCell (by simp) _)

set_option maxRecDepth 100000 in
set_option maxHeartbeats 2000000 in
theorem rnext_1n_ok (a b c : Int) (w : World) (ho : okV a b c = true) (f0 : (a == 0) = false) (hn : okV a (b + 1) 0 = true) :
    Calls Tryd.prog 23 #[vv a b c, .int .i64 1] w fun e w' => e = .returned (.tuple #[vv a (b + 1) 0, .int .i64 0]) ∧ Below w.heap.size w w' := by
  obtain ⟨la, ua, lb, ub, lc, uc⟩ := okV_of ho
  have Ho := Lib.hid ho
  have Hn := Lib.hid hn
  clear ho hn
  unfold vv
  go_enter Tryd.func23, Tryd.ntmps23
  go_wp2_with fail
  refine (rvalid_at _ _ _ true Ho.out _).mono ?_
  rintro e w1 ⟨rfl, hb1⟩
  have R1 : Row3 w1 w.heap.size a b c := (Row3.new w a b c 23 _ rfl).below (N := w.heap.size + 1) (((Below.refl _ _).alloc (by simp) _).trans (hb1.mono (by simp))) (by omega)
  have Z1 : Row3 w1 (w.heap.size + 1) 0 0 0 := (Row3.new (w.alloc (.cells #[.int .i64 a, .int .i64 b, .int .i64 c] 23)) 0 0 0 23 _ (by simp)).below hb1 (by simp)
  have B1 : Below w.heap.size w w1 := ((((Below.refl w.heap.size w).alloc (Nat.le_refl _) (.cells #[.int .i64 a, .int .i64 b, .int .i64 c] 23)).alloc (by simp) (.cells #[.int .i64 0, .int .i64 0, .int .i64 0] 23))).trans (hb1.mono (by simp; omega))
  clear hb1
  obtain ⟨z1, c0, c1, c2, f1, f2, f3⟩ := id R1
  go_wp2_with fail
  refine (rvalid_at _ _ _ true Hn.out _).mono ?_
  rintro e w5 ⟨rfl, hb5⟩
  have N5 := (Row3.new w1 a (b + 1) 0 23 _ rfl).keep hb5
  replace Z1 := (Z1.alloc _).keep hb5
  replace B1 := (B1.alloc B1.size _).trans (hb5.mono (by have := B1.size; simp; omega))
  clear hb5 R1 z1 c0 c1 c2 f1 f2 f3
  obtain ⟨y1, d0, d1, d2, g0, g1, g2⟩ := id Z1
  obtain ⟨x1, e0, e1, e2, k0, k1, k2⟩ := id N5
  go_wp2_with fail
  refine bodyPost_ret (v := .tuple #[vv a (b + 1) 0, .int .i64 0]) (by simp [results, Tryd.results23, go_sem, d0, d1, d2, y1]) rfl ⟨rfl, ?_⟩
  exact (((B1.setCell (by simp) _).setCell (by simp) _).setCell (by simp) _)

set_option maxRecDepth 100000 in
set_option maxHeartbeats 2000000 in
theorem rnext_1n_over (a b c : Int) (w : World) (ho : okV a b c = true) (f0 : (a == 0) = false) (hn : okV a (b + 1) 0 = false) :
    Calls Tryd.prog 23 #[vv a b c, .int .i64 1] w fun e w' => e = .returned (.tuple #[vv 0 0 0, .int .i64 1]) ∧ Below w.heap.size w w' := by
  obtain ⟨la, ua, lb, ub, lc, uc⟩ := okV_of ho
  have Ho := Lib.hid ho
  have Hn := Lib.hid hn
  clear ho hn
  unfold vv
  go_enter Tryd.func23, Tryd.ntmps23
  go_wp2_with fail
  refine (rvalid_at _ _ _ true Ho.out _).mono ?_
  rintro e w1 ⟨rfl, hb1⟩
  have R1 : Row3 w1 w.heap.size a b c := (Row3.new w a b c 23 _ rfl).below (N := w.heap.size + 1) (((Below.refl _ _).alloc (by simp) _).trans (hb1.mono (by simp))) (by omega)
  have Z1 : Row3 w1 (w.heap.size + 1) 0 0 0 := (Row3.new (w.alloc (.cells #[.int .i64 a, .int .i64 b, .int .i64 c] 23)) 0 0 0 23 _ (by simp)).below hb1 (by simp)
  have B1 : Below w.heap.size w w1 := ((((Below.refl w.heap.size w).alloc (Nat.le_refl _) (.cells #[.int .i64 a, .int .i64 b, .int .i64 c] 23)).alloc (by simp) (.cells #[.int .i64 0, .int .i64 0, .int .i64 0] 23))).trans (hb1.mono (by simp; omega))
  clear hb1
  obtain ⟨z1, c0, c1, c2, f1, f2, f3⟩ := id R1
  go_wp2_with fail
  refine (rvalid_at _ _ _ false Hn.out _).mono ?_
  rintro e w5 ⟨rfl, hb5⟩
  have N5 := (Row3.new w1 a (b + 1) 0 23 _ rfl).keep hb5
  replace Z1 := (Z1.alloc _).keep hb5
  replace B1 := (B1.alloc B1.size _).trans (hb5.mono (by have := B1.size; simp; omega))
  clear hb5 R1 z1 c0 c1 c2 f1 f2 f3
  obtain ⟨y1, d0, d1, d2, g0, g1, g2⟩ := id Z1
  obtain ⟨x1, e0, e1, e2, k0, k1, k2⟩ := id N5
  go_wp2_with fail
  refine bodyPost_ret (v := .tuple #[vv 0 0 0, .int .i64 1]) (by simp [results, Tryd.results23, go_sem, d0, d1, d2, y1]) rfl ⟨rfl, ?_⟩
  exact (((B1.setCell (by simp) _).setCell (by simp) _).setCell (by simp) _)

set_option maxRecDepth 100000 in
set_option maxHeartbeats 2000000 in
theorem rnext_2z_ok (a b c : Int) (w : World) (ho : okV a b c = true) (f0 : (a == 0) = true) (hn : okV a (b + 1) 0 = true) :
    Calls Tryd.prog 23 #[vv a b c, .int .i64 2] w fun e w' => e = .returned (.tuple #[vv a (b + 1) 0, .int .i64 0]) ∧ Below w.heap.size w w' := by
  obtain ⟨la, ua, lb, ub, lc, uc⟩ := okV_of ho
  have Ho := Lib.hid ho
  have Hn := Lib.hid hn
  clear ho hn
  unfold vv
  go_enter Tryd.func23, Tryd.ntmps23
  go_wp2_with fail
  refine (rvalid_at _ _ _ true Ho.out _).mono ?_
  rintro e w1 ⟨rfl, hb1⟩
  have R1 : Row3 w1 w.heap.size a b c := (Row3.new w a b c 23 _ rfl).below (N := w.heap.size + 1) (((Below.refl _ _).alloc (by simp) _).trans (hb1.mono (by simp))) (by omega)
  have Z1 : Row3 w1 (w.heap.size + 1) 0 0 0 := (Row3.new (w.alloc (.cells #[.int .i64 a, .int .i64 b, .int .i64 c] 23)) 0 0 0 23 _ (by simp)).below hb1 (by simp)
  have B1 : Below w.heap.size w w1 := ((((Below.refl w.heap.size w).alloc (Nat.le_refl _) (.cells #[.int .i64 a, .int .i64 b, .int .i64 c] 23)).alloc (by simp) (.cells #[.int .i64 0, .int .i64 0, .int .i64 0] 23))).trans (hb1.mono (by simp; omega))
  clear hb1
  obtain ⟨z1, c0, c1, c2, f1, f2, f3⟩ := id R1
  go_wp2_with fail
  refine (rvalid_at _ _ _ true Hn.out _).mono ?_
  rintro e w5 ⟨rfl, hb5⟩
  have N5 := (Row3.new w1 a (b + 1) 0 23 _ rfl).keep hb5
  replace Z1 := (Z1.alloc _).keep hb5
  replace B1 := (B1.alloc B1.size _).trans (hb5.mono (by have := B1.size; simp; omega))
  clear hb5 R1 z1 c0 c1 c2 f1 f2 f3
  obtain ⟨y1, d0, d1, d2, g0, g1, g2⟩ := id Z1
  obtain ⟨x1, e0, e1, e2, k0, k1, k2⟩ := id N5
  go_wp2_with fail
  refine bodyPost_ret (v := .tuple #[vv a (b + 1) 0, .int .i64 0]) (by simp [results, Tryd.results23, go_sem, d0, d1, d2, y1]) rfl ⟨rfl, ?_⟩
  exact (((B1.setCell (by simp) _).setCell (by simp) _).setCell (by simp) _)

set_option maxRecDepth 100000 in
set_option maxHeartbeats 2000000 in
theorem rnext_2z_over (a b c : Int) (w : World) (ho : okV a b c = true) (f0 : (a == 0) = true) (hn : okV a (b + 1) 0 = false) :
    Calls Tryd.prog 23 #[vv a b c, .int .i64 2] w fun e w' => e = .returned (.tuple #[vv 0 0 0, .int .i64 1]) ∧ Below w.heap.size w w' := by
  obtain ⟨la, ua, lb, ub, lc, uc⟩ := okV_of ho
  have Ho := Lib.hid ho
  have Hn := Lib.hid hn
  clear ho hn
  unfold vv
  go_enter Tryd.func23, Tryd.ntmps23
  go_wp2_with fail
  refine (rvalid_at _ _ _ true Ho.out _).mono ?_
  rintro e w1 ⟨rfl, hb1⟩
  have R1 : Row3 w1 w.heap.size a b c := (Row3.new w a b c 23 _ rfl).below (N := w.heap.size + 1) (((Below.refl _ _).alloc (by simp) _).trans (hb1.mono (by simp))) (by omega)
  have Z1 : Row3 w1 (w.heap.size + 1) 0 0 0 := (Row3.new (w.alloc (.cells #[.int .i64 a, .int .i64 b, .int .i64 c] 23)) 0 0 0 23 _ (by simp)).below hb1 (by simp)
  have B1 : Below w.heap.size w w1 := ((((Below.refl w.heap.size w).alloc (Nat.le_refl _) (.cells #[.int .i64 a, .int .i64 b, .int .i64 c] 23)).alloc (by simp) (.cells #[.int .i64 0, .int .i64 0, .int .i64 0] 23))).trans (hb1.mono (by simp; omega))
  clear hb1
  obtain ⟨z1, c0, c1, c2, f1, f2, f3⟩ := id R1
  go_wp2_with fail
  refine (rvalid_at _ _ _ false Hn.out _).mono ?_
  rintro e w5 ⟨rfl, hb5⟩
  have N5 := (Row3.new w1 a (b + 1) 0 23 _ rfl).keep hb5
  replace Z1 := (Z1.alloc _).keep hb5
  replace B1 := (B1.alloc B1.size _).trans (hb5.mono (by have := B1.size; simp; omega))
  clear hb5 R1 z1 c0 c1 c2 f1 f2 f3
  obtain ⟨y1, d0, d1, d2, g0, g1, g2⟩ := id Z1
  obtain ⟨x1, e0, e1, e2, k0, k1, k2⟩ := id N5
  go_wp2_with fail
  refine bodyPost_ret (v := .tuple #[vv 0 0 0, .int .i64 1]) (by simp [results, Tryd.results23, go_sem, d0, d1, d2, y1]) rfl ⟨rfl, ?_⟩
  exact (((B1.setCell (by simp) _).setCell (by simp) _).setCell (by simp) _)

set_option maxRecDepth 100000 in
set_option maxHeartbeats 2000000 in
theorem rnext_2n_ok (a b c : Int) (w : World) (ho : okV a b c = true) (f0 : (a == 0) = false) (hn : okV (a + 1) 0 0 = true) :
    Calls Tryd.prog 23 #[vv a b c, .int .i64 2] w fun e w' => e = .returned (.tuple #[vv (a + 1) 0 0, .int .i64 0]) ∧ Below w.heap.size w w' := by
  obtain ⟨la, ua, lb, ub, lc, uc⟩ := okV_of ho
  have Ho := Lib.hid ho
  have Hn := Lib.hid hn
  clear ho hn
  unfold vv
  go_enter Tryd.func23, Tryd.ntmps23
  go_wp2_with fail
  refine (rvalid_at _ _ _ true Ho.out _).mono ?_
  rintro e w1 ⟨rfl, hb1⟩
  have R1 : Row3 w1 w.heap.size a b c := (Row3.new w a b c 23 _ rfl).below (N := w.heap.size + 1) (((Below.refl _ _).alloc (by simp) _).trans (hb1.mono (by simp))) (by omega)
  have Z1 : Row3 w1 (w.heap.size + 1) 0 0 0 := (Row3.new (w.alloc (.cells #[.int .i64 a, .int .i64 b, .int .i64 c] 23)) 0 0 0 23 _ (by simp)).below hb1 (by simp)
  have B1 : Below w.heap.size w w1 := ((((Below.refl w.heap.size w).alloc (Nat.le_refl _) (.cells #[.int .i64 a, .int .i64 b, .int .i64 c] 23)).alloc (by simp) (.cells #[.int .i64 0, .int .i64 0, .int .i64 0] 23))).trans (hb1.mono (by simp; omega))
  clear hb1
  obtain ⟨z1, c0, c1, c2, f1, f2, f3⟩ := id R1
  go_wp2_with fail
  refine (rvalid_at _ _ _ true Hn.out _).mono ?_
  rintro e w5 ⟨rfl, hb5⟩
  have N5 := (Row3.new w1 (a + 1) 0 0 23 _ rfl).keep hb5
  replace Z1 := (Z1.alloc _).keep hb5
  replace B1 := (B1.alloc B1.size _).trans (hb5.mono (by have := B1.size; simp; omega))
  clear hb5 R1 z1 c0 c1 c2 f1 f2 f3
  obtain ⟨y1, d0, d1, d2, g0, g1, g2⟩ := id Z1
  obtain ⟨x1, e0, e1, e2, k0, k1, k2⟩ := id N5
  go_wp2_with fail
  refine bodyPost_ret (v := .tuple #[vv (a + 1) 0 0, .int .i64 0]) (by simp [results, Tryd.results23, go_sem, d0, d1, d2, y1]) rfl ⟨rfl, ?_⟩
  exact (((B1.setCell (by simp) _).setCell (by simp) _).setCell (by simp) _)

set_option maxRecDepth 100000 in
set_option maxHeartbeats 2000000 in
theorem rnext_2n_over (a b c : Int) (w : World) (ho : okV a b c = true) (f0 : (a == 0) = false) (hn : okV (a + 1) 0 0 = false) :
    Calls Tryd.prog 23 #[vv a b c, .int .i64 2] w fun e w' => e = .returned (.tuple #[vv 0 0 0, .int .i64 1]) ∧ Below w.heap.size w w' := by
  obtain ⟨la, ua, lb, ub, lc, uc⟩ := okV_of ho
  have Ho := Lib.hid ho
  have Hn := Lib.hid hn
  clear ho hn
  unfold vv
  go_enter Tryd.func23, Tryd.ntmps23
  go_wp2_with fail
  refine (rvalid_at _ _ _ true Ho.out _).mono ?_
  rintro e w1 ⟨rfl, hb1⟩
  have R1 : Row3 w1 w.heap.size a b c := (Row3.new w a b c 23 _ rfl).below (N := w.heap.size + 1) (((Below.refl _ _).alloc (by simp) _).trans (hb1.mono (by simp))) (by omega)
  have Z1 : Row3 w1 (w.heap.size + 1) 0 0 0 := (Row3.new (w.alloc (.cells #[.int .i64 a, .int .i64 b, .int .i64 c] 23)) 0 0 0 23 _ (by simp)).below hb1 (by simp)
  have B1 : Below w.heap.size w w1 := ((((Below.refl w.heap.size w).alloc (Nat.le_refl _) (.cells #[.int .i64 a, .int .i64 b, .int .i64 c] 23)).alloc (by simp) (.cells #[.int .i64 0, .int .i64 0, .int .i64 0] 23))).trans (hb1.mono (by simp; omega))
  clear hb1
  obtain ⟨z1, c0, c1, c2, f1, f2, f3⟩ := id R1
  go_wp2_with fail
  refine (rvalid_at _ _ _ false Hn.out _).mono ?_
  rintro e w5 ⟨rfl, hb5⟩
  have N5 := (Row3.new w1 (a + 1) 0 0 23 _ rfl).keep hb5
  replace Z1 := (Z1.alloc _).keep hb5
  replace B1 := (B1.alloc B1.size _).trans (hb5.mono (by have := B1.size; simp; omega))
  clear hb5 R1 z1 c0 c1 c2 f1 f2 f3
  obtain ⟨y1, d0, d1, d2, g0, g1, g2⟩ := id Z1
  obtain ⟨x1, e0, e1, e2, k0, k1, k2⟩ := id N5
  go_wp2_with fail
  refine bodyPost_ret (v := .tuple #[vv 0 0 0, .int .i64 1]) (by simp [results, Tryd.results23, go_sem, d0, d1, d2, y1]) rfl ⟨rfl, ?_⟩
  exact (((B1.setCell (by simp) _).setCell (by simp) _).setCell (by simp) _)

end Go.Proofs.YteeagengliaakaaDoor
