import Derived.Test.YtelchjgpfpccnaaDoorC
namespace Go.Proofs.YtelchjgpfpccnaaDoor
open Go.RowKit
set_option linter.unusedSimpArgs false
set_option linter.unusedVariables false
theorem clear0 (n : Nat) (o : Option Addr) (w : World) : (Builtin.clear_ #[47] 0 #[.slice o 0 n]).run Tryd.prog w = .ok (.tuple #[]) w := by
  cases o <;> simp [Builtin.clear_, run_underlying Tryd.underlying47]
theorem clear1 (x y : Value) (z : Int) (w : World) : (Builtin.clear_ #[47] 0 #[.slice (some ⟨w.heap.size, 2, none⟩) 1 1]).run Tryd.prog (w.alloc (.cells #[x, y, .int .i64 z] 36)) = .ok (.tuple #[]) (w.alloc (.cells #[x, y, .int .i64 0] 36)) := by
  simp [Builtin.clear_, run_underlying Tryd.underlying47]
  rw [show (Builtin.zeroCells (Value.int IntKind.i64 0).cells 1).toList = [.int .i64 0] from by kernel_rfl]
  simp only [storeCells, Addr.add]
  go_simp
theorem clear2 (x : Value) (y z : Int) (w : World) : (Builtin.clear_ #[47] 0 #[.slice (some ⟨w.heap.size, 1, none⟩) 2 2]).run Tryd.prog (w.alloc (.cells #[x, .int .i64 y, .int .i64 z] 36)) = .ok (.tuple #[]) (w.alloc (.cells #[x, .int .i64 0, .int .i64 0] 36)) := by
  simp [Builtin.clear_, run_underlying Tryd.underlying47]
  rw [show (Builtin.zeroCells (Value.int IntKind.i64 0).cells 2).toList = [.int .i64 0, .int .i64 0] from by kernel_rfl]
  simp only [storeCells, Addr.add]
  go_simp

theorem valid_at (a b c : Int) (v : Bool) (h : okV a b c = v) (w : World) :
    Calls Tryd.prog 11 #[vv a b c] w fun e w' => e = .returned (.bool v) ∧ Below w.heap.size w w' := by
  have := valid_any a b c w; rw [h] at this; exact this
theorem changed_at (a b c n : Int) (p : Int) (v : Bool) (h : chg a n = (p, v)) (w : World) :
    Calls Tryd.prog 32 #[vv a b c, .int .i64 n] w fun e w' => e = .returned (.tuple #[.int .i64 p, .bool v]) ∧ Below w.heap.size w w' := by
  have := changed_any a b c n w; unfold Chg at this; rw [h] at this; exact this
/-- three cells of a version in a block -/
structure Row3 (w : World) (g : Nat) (a b c : Int) : Prop where
  size : g < w.heap.size
  c0 : w.cell? ⟨g, 0, none⟩ = some (.int .i64 a)
  c1 : w.cell? ⟨g, 1, none⟩ = some (.int .i64 b)
  c2 : w.cell? ⟨g, 2, none⟩ = some (.int .i64 c)
  f0 : w.frozen? ⟨g, 0, none⟩ = false
  f1 : w.frozen? ⟨g, 1, none⟩ = false
  f2 : w.frozen? ⟨g, 2, none⟩ = false
theorem Row3.below {w w' : World} {g N : Nat} {a b c : Int} (h : Row3 w g a b c) (hb : Below N w w') (hn : g < N) : Row3 w' g a b c :=
  ⟨Nat.lt_of_lt_of_le h.size hb.size, by rw [hb.cell hn]; exact h.c0, by rw [hb.cell hn]; exact h.c1, by rw [hb.cell hn]; exact h.c2,
    by rw [hb.frozen hn]; exact h.f0, by rw [hb.frozen hn]; exact h.f1, by rw [hb.frozen hn]; exact h.f2⟩
theorem Row3.keep {w w' : World} {g : Nat} {a b c : Int} (h : Row3 w g a b c) (hb : Below w.heap.size w w') : Row3 w' g a b c := h.below hb h.size
theorem Row3.new (w : World) (a b c : Int) (T : TypeId) (n : Nat) (hn : n = w.heap.size) : Row3 (w.alloc (.cells #[.int .i64 a, .int .i64 b, .int .i64 c] T)) n a b c := by
  subst hn
  refine ⟨by simp, ?_, ?_, ?_, ?_, ?_, ?_⟩ <;> (go_simp; done)
theorem Row3.alloc {w : World} {g : Nat} {a b c : Int} (h : Row3 w g a b c) (o : Obj) : Row3 (w.alloc o) g a b c :=
  h.keep ((Below.refl _ _).alloc (Nat.le_refl _) o)
theorem okV_of {a b c : Int} (h : okV a b c = true) : 0 ≤ a ∧ a ≤ 9999 ∧ 0 ≤ b ∧ b ≤ 9999 ∧ 0 ≤ c ∧ c ≤ 9999 := by
  unfold okV okN at h
  simp at h
  omega

set_option maxRecDepth 100000 in
set_option maxHeartbeats 2000000 in
theorem next_bad (a b c n : Int) (w : World) (ho : okV a b c = false) :
    Calls Tryd.prog 22 #[vv a b c, .int .i64 n] w fun e w' => e = .returned (.tuple #[vv 0 0 0, .int .i64 11]) ∧ Below w.heap.size w w' := by
  have Ho := Lib.hid ho
  clear ho
  unfold vv
  go_enter Tryd.func22, Tryd.ntmps22
  go_wp2_with fail
  refine (valid_at _ _ _ false Ho.out _).mono ?_
  rintro e w1 ⟨rfl, hb1⟩
  have R1 : Row3 w1 w.heap.size a b c := (Row3.new w a b c 23 _ rfl).below (N := w.heap.size + 1) (((Below.refl _ _).alloc (by simp) _).trans (hb1.mono (by simp))) (by omega)
  have Z1 : Row3 w1 (w.heap.size + 1) 0 0 0 := (Row3.new (w.alloc (.cells #[.int .i64 a, .int .i64 b, .int .i64 c] 23)) 0 0 0 23 _ (by simp)).below hb1 (by simp)
  have B1 : Below w.heap.size w w1 := ((((Below.refl w.heap.size w).alloc (Nat.le_refl _) (.cells #[.int .i64 a, .int .i64 b, .int .i64 c] 23)).alloc (by simp) (.cells #[.int .i64 0, .int .i64 0, .int .i64 0] 23))).trans (hb1.mono (by simp; omega))
  clear hb1
  obtain ⟨y1, d0, d1, d2, g0, g1, g2⟩ := id Z1
  go_wp2_with fail
  refine bodyPost_ret (v := .tuple #[vv 0 0 0, .int .i64 11]) (by simp [results, Tryd.results22, go_sem, d0, d1, d2, y1]) rfl ⟨rfl, ?_⟩
  exact (((B1.setCell (by simp) _).setCell (by simp) _).setCell (by simp) _)

set_option maxRecDepth 100000 in
set_option maxHeartbeats 2000000 in
theorem next_unknown (a b c n : Int) (w : World) (ho : okV a b c = true) (hc : chg a n = (0, false)) :
    Calls Tryd.prog 22 #[vv a b c, .int .i64 n] w fun e w' => e = .returned (.tuple #[vv 0 0 0, .int .i64 5]) ∧ Below w.heap.size w w' := by
  have Ho := Lib.hid ho
  have Hc := Lib.hid hc
  clear ho hc
  unfold vv
  go_enter Tryd.func22, Tryd.ntmps22
  go_wp2_with fail
  refine (valid_at _ _ _ true Ho.out _).mono ?_
  rintro e w1 ⟨rfl, hb1⟩
  have R1 : Row3 w1 w.heap.size a b c := (Row3.new w a b c 23 _ rfl).below (N := w.heap.size + 1) (((Below.refl _ _).alloc (by simp) _).trans (hb1.mono (by simp))) (by omega)
  have Z1 : Row3 w1 (w.heap.size + 1) 0 0 0 := (Row3.new (w.alloc (.cells #[.int .i64 a, .int .i64 b, .int .i64 c] 23)) 0 0 0 23 _ (by simp)).below hb1 (by simp)
  have B1 : Below w.heap.size w w1 := ((((Below.refl w.heap.size w).alloc (Nat.le_refl _) (.cells #[.int .i64 a, .int .i64 b, .int .i64 c] 23)).alloc (by simp) (.cells #[.int .i64 0, .int .i64 0, .int .i64 0] 23))).trans (hb1.mono (by simp; omega))
  clear hb1
  obtain ⟨z1, c0, c1, c2, f0, f1, f2⟩ := id R1
  go_wp2_with fail
  refine (changed_at _ _ _ _ 0 false Hc.out _).mono ?_
  rintro e w2 ⟨rfl, hb2⟩
  replace R1 := R1.keep hb2
  replace Z1 := Z1.keep hb2
  replace B1 := B1.trans (hb2.mono B1.size)
  clear hb2 z1 c0 c1 c2 f0 f1 f2
  obtain ⟨y1, d0, d1, d2, g0, g1, g2⟩ := id Z1
  go_wp2_with fail
  refine bodyPost_ret (v := .tuple #[vv 0 0 0, .int .i64 5]) (by simp [results, Tryd.results22, go_sem, d0, d1, d2, y1]) rfl ⟨rfl, ?_⟩
  exact (((B1.setCell (by simp) _).setCell (by simp) _).setCell (by simp) _)

set_option maxRecDepth 100000 in
set_option maxHeartbeats 2000000 in
theorem next_0_ok (a b c n : Int) (w : World) (ho : okV a b c = true) (hc : chg a n = (0, true)) (hn : okV (a + 1) 0 0 = true) :
    Calls Tryd.prog 22 #[vv a b c, .int .i64 n] w fun e w' => e = .returned (.tuple #[vv (a + 1) 0 0, .int .i64 0]) ∧ Below w.heap.size w w' := by
  obtain ⟨la, ua, lb, ub, lc, uc⟩ := okV_of ho
  have Ho := Lib.hid ho
  have Hc := Lib.hid hc
  have Hn := Lib.hid hn
  clear ho hc hn
  unfold vv
  go_enter Tryd.func22, Tryd.ntmps22
  go_wp2_with fail
  refine (valid_at _ _ _ true Ho.out _).mono ?_
  rintro e w1 ⟨rfl, hb1⟩
  have R1 : Row3 w1 w.heap.size a b c := (Row3.new w a b c 23 _ rfl).below (N := w.heap.size + 1) (((Below.refl _ _).alloc (by simp) _).trans (hb1.mono (by simp))) (by omega)
  have Z1 : Row3 w1 (w.heap.size + 1) 0 0 0 := (Row3.new (w.alloc (.cells #[.int .i64 a, .int .i64 b, .int .i64 c] 23)) 0 0 0 23 _ (by simp)).below hb1 (by simp)
  have B1 : Below w.heap.size w w1 := ((((Below.refl w.heap.size w).alloc (Nat.le_refl _) (.cells #[.int .i64 a, .int .i64 b, .int .i64 c] 23)).alloc (by simp) (.cells #[.int .i64 0, .int .i64 0, .int .i64 0] 23))).trans (hb1.mono (by simp; omega))
  clear hb1
  obtain ⟨z1, c0, c1, c2, f0, f1, f2⟩ := id R1
  go_wp2_with fail
  refine (changed_at _ _ _ _ 0 true Hc.out _).mono ?_
  rintro e w2 ⟨rfl, hb2⟩
  replace R1 := R1.keep hb2
  replace Z1 := Z1.keep hb2
  replace B1 := B1.trans (hb2.mono B1.size)
  clear hb2 z1 c0 c1 c2 f0 f1 f2
  obtain ⟨z1, c0, c1, c2, f0, f1, f2⟩ := id R1
  go_wp2_with fail
  refine (numbers_any _ _ _ _).mono ?_
  rintro e w3 ⟨rfl, hb3⟩
  replace R1 := R1.keep hb3
  replace Z1 := Z1.keep hb3
  replace B1 := B1.trans (hb3.mono B1.size)
  clear hb3 z1 c0 c1 c2 f0 f1 f2
  have kc := clear2 (.int .i64 (a + 1)) b c w3
  go_wp2_with fail
  clear kc
  refine (version_any _ _ _ _).mono ?_
  rintro e w4 ⟨rfl, hb4⟩
  replace Z1 := (Z1.alloc _).keep hb4
  replace B1 := (B1.alloc B1.size _).trans (hb4.mono (by have := B1.size; simp; omega))
  clear hb4 R1
  go_wp2_with fail
  refine (valid_at _ _ _ true Hn.out _).mono ?_
  rintro e w5 ⟨rfl, hb5⟩
  have N5 := (Row3.new w4 (a+1) 0 0 23 _ rfl).keep hb5
  replace Z1 := (Z1.alloc _).keep hb5
  replace B1 := (B1.alloc B1.size _).trans (hb5.mono (by have := B1.size; simp; omega))
  clear hb5
  obtain ⟨y1, d0, d1, d2, g0, g1, g2⟩ := id Z1
  obtain ⟨x1, e0, e1, e2, k0, k1, k2⟩ := id N5
  go_wp2_with fail
  refine bodyPost_ret (v := .tuple #[vv (a + 1) 0 0, .int .i64 0]) (by simp [results, Tryd.results22, go_sem, d0, d1, d2, y1]) rfl ⟨rfl, ?_⟩
  exact (((B1.setCell (by simp) _).setCell (by simp) _).setCell (by simp) _)

set_option maxRecDepth 100000 in
set_option maxHeartbeats 2000000 in
theorem next_0_over (a b c n : Int) (w : World) (ho : okV a b c = true) (hc : chg a n = (0, true)) (hn : okV (a + 1) 0 0 = false) :
    Calls Tryd.prog 22 #[vv a b c, .int .i64 n] w fun e w' => e = .returned (.tuple #[vv 0 0 0, .int .i64 1]) ∧ Below w.heap.size w w' := by
  obtain ⟨la, ua, lb, ub, lc, uc⟩ := okV_of ho
  have Ho := Lib.hid ho
  have Hc := Lib.hid hc
  have Hn := Lib.hid hn
  clear ho hc hn
  unfold vv
  go_enter Tryd.func22, Tryd.ntmps22
  go_wp2_with fail
  refine (valid_at _ _ _ true Ho.out _).mono ?_
  rintro e w1 ⟨rfl, hb1⟩
  have R1 : Row3 w1 w.heap.size a b c := (Row3.new w a b c 23 _ rfl).below (N := w.heap.size + 1) (((Below.refl _ _).alloc (by simp) _).trans (hb1.mono (by simp))) (by omega)
  have Z1 : Row3 w1 (w.heap.size + 1) 0 0 0 := (Row3.new (w.alloc (.cells #[.int .i64 a, .int .i64 b, .int .i64 c] 23)) 0 0 0 23 _ (by simp)).below hb1 (by simp)
  have B1 : Below w.heap.size w w1 := ((((Below.refl w.heap.size w).alloc (Nat.le_refl _) (.cells #[.int .i64 a, .int .i64 b, .int .i64 c] 23)).alloc (by simp) (.cells #[.int .i64 0, .int .i64 0, .int .i64 0] 23))).trans (hb1.mono (by simp; omega))
  clear hb1
  obtain ⟨z1, c0, c1, c2, f0, f1, f2⟩ := id R1
  go_wp2_with fail
  refine (changed_at _ _ _ _ 0 true Hc.out _).mono ?_
  rintro e w2 ⟨rfl, hb2⟩
  replace R1 := R1.keep hb2
  replace Z1 := Z1.keep hb2
  replace B1 := B1.trans (hb2.mono B1.size)
  clear hb2 z1 c0 c1 c2 f0 f1 f2
  obtain ⟨z1, c0, c1, c2, f0, f1, f2⟩ := id R1
  go_wp2_with fail
  refine (numbers_any _ _ _ _).mono ?_
  rintro e w3 ⟨rfl, hb3⟩
  replace R1 := R1.keep hb3
  replace Z1 := Z1.keep hb3
  replace B1 := B1.trans (hb3.mono B1.size)
  clear hb3 z1 c0 c1 c2 f0 f1 f2
  have kc := clear2 (.int .i64 (a + 1)) b c w3
  go_wp2_with fail
  clear kc
  refine (version_any _ _ _ _).mono ?_
  rintro e w4 ⟨rfl, hb4⟩
  replace Z1 := (Z1.alloc _).keep hb4
  replace B1 := (B1.alloc B1.size _).trans (hb4.mono (by have := B1.size; simp; omega))
  clear hb4 R1
  go_wp2_with fail
  refine (valid_at _ _ _ false Hn.out _).mono ?_
  rintro e w5 ⟨rfl, hb5⟩
  have N5 := (Row3.new w4 (a+1) 0 0 23 _ rfl).keep hb5
  replace Z1 := (Z1.alloc _).keep hb5
  replace B1 := (B1.alloc B1.size _).trans (hb5.mono (by have := B1.size; simp; omega))
  clear hb5
  obtain ⟨y1, d0, d1, d2, g0, g1, g2⟩ := id Z1
  obtain ⟨x1, e0, e1, e2, k0, k1, k2⟩ := id N5
  go_wp2_with fail
  refine bodyPost_ret (v := .tuple #[vv 0 0 0, .int .i64 1]) (by simp [results, Tryd.results22, go_sem, d0, d1, d2, y1]) rfl ⟨rfl, ?_⟩
  exact (((B1.setCell (by simp) _).setCell (by simp) _).setCell (by simp) _)

set_option maxRecDepth 100000 in
set_option maxHeartbeats 2000000 in
theorem next_1_ok (a b c n : Int) (w : World) (ho : okV a b c = true) (hc : chg a n = (1, true)) (hn : okV a (b + 1) 0 = true) :
    Calls Tryd.prog 22 #[vv a b c, .int .i64 n] w fun e w' => e = .returned (.tuple #[vv a (b + 1) 0, .int .i64 0]) ∧ Below w.heap.size w w' := by
  obtain ⟨la, ua, lb, ub, lc, uc⟩ := okV_of ho
  have Ho := Lib.hid ho
  have Hc := Lib.hid hc
  have Hn := Lib.hid hn
  clear ho hc hn
  unfold vv
  go_enter Tryd.func22, Tryd.ntmps22
  go_wp2_with fail
  refine (valid_at _ _ _ true Ho.out _).mono ?_
  rintro e w1 ⟨rfl, hb1⟩
  have R1 : Row3 w1 w.heap.size a b c := (Row3.new w a b c 23 _ rfl).below (N := w.heap.size + 1) (((Below.refl _ _).alloc (by simp) _).trans (hb1.mono (by simp))) (by omega)
  have Z1 : Row3 w1 (w.heap.size + 1) 0 0 0 := (Row3.new (w.alloc (.cells #[.int .i64 a, .int .i64 b, .int .i64 c] 23)) 0 0 0 23 _ (by simp)).below hb1 (by simp)
  have B1 : Below w.heap.size w w1 := ((((Below.refl w.heap.size w).alloc (Nat.le_refl _) (.cells #[.int .i64 a, .int .i64 b, .int .i64 c] 23)).alloc (by simp) (.cells #[.int .i64 0, .int .i64 0, .int .i64 0] 23))).trans (hb1.mono (by simp; omega))
  clear hb1
  obtain ⟨z1, c0, c1, c2, f0, f1, f2⟩ := id R1
  go_wp2_with fail
  refine (changed_at _ _ _ _ 1 true Hc.out _).mono ?_
  rintro e w2 ⟨rfl, hb2⟩
  replace R1 := R1.keep hb2
  replace Z1 := Z1.keep hb2
  replace B1 := B1.trans (hb2.mono B1.size)
  clear hb2 z1 c0 c1 c2 f0 f1 f2
  obtain ⟨z1, c0, c1, c2, f0, f1, f2⟩ := id R1
  go_wp2_with fail
  refine (numbers_any _ _ _ _).mono ?_
  rintro e w3 ⟨rfl, hb3⟩
  replace R1 := R1.keep hb3
  replace Z1 := Z1.keep hb3
  replace B1 := B1.trans (hb3.mono B1.size)
  clear hb3 z1 c0 c1 c2 f0 f1 f2
  have kc := clear1 (.int .i64 a) (.int .i64 (b + 1)) c w3
  go_wp2_with fail
  clear kc
  refine (version_any _ _ _ _).mono ?_
  rintro e w4 ⟨rfl, hb4⟩
  replace Z1 := (Z1.alloc _).keep hb4
  replace B1 := (B1.alloc B1.size _).trans (hb4.mono (by have := B1.size; simp; omega))
  clear hb4 R1
  go_wp2_with fail
  refine (valid_at _ _ _ true Hn.out _).mono ?_
  rintro e w5 ⟨rfl, hb5⟩
  have N5 := (Row3.new w4 a (b+1) 0 23 _ rfl).keep hb5
  replace Z1 := (Z1.alloc _).keep hb5
  replace B1 := (B1.alloc B1.size _).trans (hb5.mono (by have := B1.size; simp; omega))
  clear hb5
  obtain ⟨y1, d0, d1, d2, g0, g1, g2⟩ := id Z1
  obtain ⟨x1, e0, e1, e2, k0, k1, k2⟩ := id N5
  go_wp2_with fail
  refine bodyPost_ret (v := .tuple #[vv a (b + 1) 0, .int .i64 0]) (by simp [results, Tryd.results22, go_sem, d0, d1, d2, y1]) rfl ⟨rfl, ?_⟩
  exact (((B1.setCell (by simp) _).setCell (by simp) _).setCell (by simp) _)

set_option maxRecDepth 100000 in
set_option maxHeartbeats 2000000 in
theorem next_1_over (a b c n : Int) (w : World) (ho : okV a b c = true) (hc : chg a n = (1, true)) (hn : okV a (b + 1) 0 = false) :
    Calls Tryd.prog 22 #[vv a b c, .int .i64 n] w fun e w' => e = .returned (.tuple #[vv 0 0 0, .int .i64 1]) ∧ Below w.heap.size w w' := by
  obtain ⟨la, ua, lb, ub, lc, uc⟩ := okV_of ho
  have Ho := Lib.hid ho
  have Hc := Lib.hid hc
  have Hn := Lib.hid hn
  clear ho hc hn
  unfold vv
  go_enter Tryd.func22, Tryd.ntmps22
  go_wp2_with fail
  refine (valid_at _ _ _ true Ho.out _).mono ?_
  rintro e w1 ⟨rfl, hb1⟩
  have R1 : Row3 w1 w.heap.size a b c := (Row3.new w a b c 23 _ rfl).below (N := w.heap.size + 1) (((Below.refl _ _).alloc (by simp) _).trans (hb1.mono (by simp))) (by omega)
  have Z1 : Row3 w1 (w.heap.size + 1) 0 0 0 := (Row3.new (w.alloc (.cells #[.int .i64 a, .int .i64 b, .int .i64 c] 23)) 0 0 0 23 _ (by simp)).below hb1 (by simp)
  have B1 : Below w.heap.size w w1 := ((((Below.refl w.heap.size w).alloc (Nat.le_refl _) (.cells #[.int .i64 a, .int .i64 b, .int .i64 c] 23)).alloc (by simp) (.cells #[.int .i64 0, .int .i64 0, .int .i64 0] 23))).trans (hb1.mono (by simp; omega))
  clear hb1
  obtain ⟨z1, c0, c1, c2, f0, f1, f2⟩ := id R1
  go_wp2_with fail
  refine (changed_at _ _ _ _ 1 true Hc.out _).mono ?_
  rintro e w2 ⟨rfl, hb2⟩
  replace R1 := R1.keep hb2
  replace Z1 := Z1.keep hb2
  replace B1 := B1.trans (hb2.mono B1.size)
  clear hb2 z1 c0 c1 c2 f0 f1 f2
  obtain ⟨z1, c0, c1, c2, f0, f1, f2⟩ := id R1
  go_wp2_with fail
  refine (numbers_any _ _ _ _).mono ?_
  rintro e w3 ⟨rfl, hb3⟩
  replace R1 := R1.keep hb3
  replace Z1 := Z1.keep hb3
  replace B1 := B1.trans (hb3.mono B1.size)
  clear hb3 z1 c0 c1 c2 f0 f1 f2
  have kc := clear1 (.int .i64 a) (.int .i64 (b + 1)) c w3
  go_wp2_with fail
  clear kc
  refine (version_any _ _ _ _).mono ?_
  rintro e w4 ⟨rfl, hb4⟩
  replace Z1 := (Z1.alloc _).keep hb4
  replace B1 := (B1.alloc B1.size _).trans (hb4.mono (by have := B1.size; simp; omega))
  clear hb4 R1
  go_wp2_with fail
  refine (valid_at _ _ _ false Hn.out _).mono ?_
  rintro e w5 ⟨rfl, hb5⟩
  have N5 := (Row3.new w4 a (b+1) 0 23 _ rfl).keep hb5
  replace Z1 := (Z1.alloc _).keep hb5
  replace B1 := (B1.alloc B1.size _).trans (hb5.mono (by have := B1.size; simp; omega))
  clear hb5
  obtain ⟨y1, d0, d1, d2, g0, g1, g2⟩ := id Z1
  obtain ⟨x1, e0, e1, e2, k0, k1, k2⟩ := id N5
  go_wp2_with fail
  refine bodyPost_ret (v := .tuple #[vv 0 0 0, .int .i64 1]) (by simp [results, Tryd.results22, go_sem, d0, d1, d2, y1]) rfl ⟨rfl, ?_⟩
  exact (((B1.setCell (by simp) _).setCell (by simp) _).setCell (by simp) _)

set_option maxRecDepth 100000 in
set_option maxHeartbeats 2000000 in
theorem next_2_ok (a b c n : Int) (w : World) (ho : okV a b c = true) (hc : chg a n = (2, true)) (hn : okV a b (c + 1) = true) :
    Calls Tryd.prog 22 #[vv a b c, .int .i64 n] w fun e w' => e = .returned (.tuple #[vv a b (c + 1), .int .i64 0]) ∧ Below w.heap.size w w' := by
  obtain ⟨la, ua, lb, ub, lc, uc⟩ := okV_of ho
  have Ho := Lib.hid ho
  have Hc := Lib.hid hc
  have Hn := Lib.hid hn
  clear ho hc hn
  unfold vv
  go_enter Tryd.func22, Tryd.ntmps22
  go_wp2_with fail
  refine (valid_at _ _ _ true Ho.out _).mono ?_
  rintro e w1 ⟨rfl, hb1⟩
  have R1 : Row3 w1 w.heap.size a b c := (Row3.new w a b c 23 _ rfl).below (N := w.heap.size + 1) (((Below.refl _ _).alloc (by simp) _).trans (hb1.mono (by simp))) (by omega)
  have Z1 : Row3 w1 (w.heap.size + 1) 0 0 0 := (Row3.new (w.alloc (.cells #[.int .i64 a, .int .i64 b, .int .i64 c] 23)) 0 0 0 23 _ (by simp)).below hb1 (by simp)
  have B1 : Below w.heap.size w w1 := ((((Below.refl w.heap.size w).alloc (Nat.le_refl _) (.cells #[.int .i64 a, .int .i64 b, .int .i64 c] 23)).alloc (by simp) (.cells #[.int .i64 0, .int .i64 0, .int .i64 0] 23))).trans (hb1.mono (by simp; omega))
  clear hb1
  obtain ⟨z1, c0, c1, c2, f0, f1, f2⟩ := id R1
  go_wp2_with fail
  refine (changed_at _ _ _ _ 2 true Hc.out _).mono ?_
  rintro e w2 ⟨rfl, hb2⟩
  replace R1 := R1.keep hb2
  replace Z1 := Z1.keep hb2
  replace B1 := B1.trans (hb2.mono B1.size)
  clear hb2 z1 c0 c1 c2 f0 f1 f2
  obtain ⟨z1, c0, c1, c2, f0, f1, f2⟩ := id R1
  go_wp2_with fail
  refine (numbers_any _ _ _ _).mono ?_
  rintro e w3 ⟨rfl, hb3⟩
  replace R1 := R1.keep hb3
  replace Z1 := Z1.keep hb3
  replace B1 := B1.trans (hb3.mono B1.size)
  clear hb3 z1 c0 c1 c2 f0 f1 f2
  have kc := clear0
  go_wp2_with fail
  clear kc
  refine (version_any _ _ _ _).mono ?_
  rintro e w4 ⟨rfl, hb4⟩
  replace Z1 := (Z1.alloc _).keep hb4
  replace B1 := (B1.alloc B1.size _).trans (hb4.mono (by have := B1.size; simp; omega))
  clear hb4 R1
  go_wp2_with fail
  refine (valid_at _ _ _ true Hn.out _).mono ?_
  rintro e w5 ⟨rfl, hb5⟩
  have N5 := (Row3.new w4 a b (c+1) 23 _ rfl).keep hb5
  replace Z1 := (Z1.alloc _).keep hb5
  replace B1 := (B1.alloc B1.size _).trans (hb5.mono (by have := B1.size; simp; omega))
  clear hb5
  obtain ⟨y1, d0, d1, d2, g0, g1, g2⟩ := id Z1
  obtain ⟨x1, e0, e1, e2, k0, k1, k2⟩ := id N5
  go_wp2_with fail
  refine bodyPost_ret (v := .tuple #[vv a b (c + 1), .int .i64 0]) (by simp [results, Tryd.results22, go_sem, d0, d1, d2, y1]) rfl ⟨rfl, ?_⟩
  exact (((B1.setCell (by simp) _).setCell (by simp) _).setCell (by simp) _)

set_option maxRecDepth 100000 in
set_option maxHeartbeats 2000000 in
theorem next_2_over (a b c n : Int) (w : World) (ho : okV a b c = true) (hc : chg a n = (2, true)) (hn : okV a b (c + 1) = false) :
    Calls Tryd.prog 22 #[vv a b c, .int .i64 n] w fun e w' => e = .returned (.tuple #[vv 0 0 0, .int .i64 1]) ∧ Below w.heap.size w w' := by
  obtain ⟨la, ua, lb, ub, lc, uc⟩ := okV_of ho
  have Ho := Lib.hid ho
  have Hc := Lib.hid hc
  have Hn := Lib.hid hn
  clear ho hc hn
  unfold vv
  go_enter Tryd.func22, Tryd.ntmps22
  go_wp2_with fail
  refine (valid_at _ _ _ true Ho.out _).mono ?_
  rintro e w1 ⟨rfl, hb1⟩
  have R1 : Row3 w1 w.heap.size a b c := (Row3.new w a b c 23 _ rfl).below (N := w.heap.size + 1) (((Below.refl _ _).alloc (by simp) _).trans (hb1.mono (by simp))) (by omega)
  have Z1 : Row3 w1 (w.heap.size + 1) 0 0 0 := (Row3.new (w.alloc (.cells #[.int .i64 a, .int .i64 b, .int .i64 c] 23)) 0 0 0 23 _ (by simp)).below hb1 (by simp)
  have B1 : Below w.heap.size w w1 := ((((Below.refl w.heap.size w).alloc (Nat.le_refl _) (.cells #[.int .i64 a, .int .i64 b, .int .i64 c] 23)).alloc (by simp) (.cells #[.int .i64 0, .int .i64 0, .int .i64 0] 23))).trans (hb1.mono (by simp; omega))
  clear hb1
  obtain ⟨z1, c0, c1, c2, f0, f1, f2⟩ := id R1
  go_wp2_with fail
  refine (changed_at _ _ _ _ 2 true Hc.out _).mono ?_
  rintro e w2 ⟨rfl, hb2⟩
  replace R1 := R1.keep hb2
  replace Z1 := Z1.keep hb2
  replace B1 := B1.trans (hb2.mono B1.size)
  clear hb2 z1 c0 c1 c2 f0 f1 f2
  obtain ⟨z1, c0, c1, c2, f0, f1, f2⟩ := id R1
  go_wp2_with fail
  refine (numbers_any _ _ _ _).mono ?_
  rintro e w3 ⟨rfl, hb3⟩
  replace R1 := R1.keep hb3
  replace Z1 := Z1.keep hb3
  replace B1 := B1.trans (hb3.mono B1.size)
  clear hb3 z1 c0 c1 c2 f0 f1 f2
  have kc := clear0
  go_wp2_with fail
  clear kc
  refine (version_any _ _ _ _).mono ?_
  rintro e w4 ⟨rfl, hb4⟩
  replace Z1 := (Z1.alloc _).keep hb4
  replace B1 := (B1.alloc B1.size _).trans (hb4.mono (by have := B1.size; simp; omega))
  clear hb4 R1
  go_wp2_with fail
  refine (valid_at _ _ _ false Hn.out _).mono ?_
  rintro e w5 ⟨rfl, hb5⟩
  have N5 := (Row3.new w4 a b (c+1) 23 _ rfl).keep hb5
  replace Z1 := (Z1.alloc _).keep hb5
  replace B1 := (B1.alloc B1.size _).trans (hb5.mono (by have := B1.size; simp; omega))
  clear hb5
  obtain ⟨y1, d0, d1, d2, g0, g1, g2⟩ := id Z1
  obtain ⟨x1, e0, e1, e2, k0, k1, k2⟩ := id N5
  go_wp2_with fail
  refine bodyPost_ret (v := .tuple #[vv 0 0 0, .int .i64 1]) (by simp [results, Tryd.results22, go_sem, d0, d1, d2, y1]) rfl ⟨rfl, ?_⟩
  exact (((B1.setCell (by simp) _).setCell (by simp) _).setCell (by simp) _)

end Go.Proofs.YtelchjgpfpccnaaDoor
