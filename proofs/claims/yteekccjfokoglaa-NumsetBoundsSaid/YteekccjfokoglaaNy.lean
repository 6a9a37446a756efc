/-
  Bound of the specification at a valid number. Condition: the number is valid.
-/
import Derived.Test.YteekccjfokoglaaNx
namespace Go.Proofs.Yteekccjfokoglaa
open Go.RowKit Go.Sort Go.Lib Go.Proofs
set_option linter.unusedSimpArgs false
set_option linter.unnecessarySimpa false
set_option linter.unusedVariables false
/-- the world with the result's box and the sets of the lesser numbers -/
structure Wb (w : World) (u : Int) (b7 b8 : Nat) (W : World) : Prop where
  bel : Below w.heap.size w W
  y : Yb w.heap.size W
  n7 : w.heap.size < b7
  n8 : w.heap.size < b8
  l7 : b7 < W.heap.size
  l8 : b8 < W.heap.size
  s7 : ∃ P p Q q, W.cell? ⟨b7, 0, none⟩ = some (.slice P 1 p) ∧ W.cell? ⟨b7, 1, none⟩ = some (.slice Q 1 q) ∧ Ns W P p Q q (lessS u)
  s8 : ∃ P p Q q, W.cell? ⟨b8, 0, none⟩ = some (.slice P 1 p) ∧ W.cell? ⟨b8, 1, none⟩ = some (.slice Q 1 q) ∧ Ns W P p Q q (mostS u)
theorem less_ok (u : Int) (h : vld u = true) : okN 1 (lessS u) := by
  have := (vld_iff u).1 h
  exact ⟨by simp [lessS], by simp [lessS], fun x hx => by simp [lessS] at hx; subst hx; unfold i64ok; simp; omega, fun x hx => by simp [lessS] at hx; subst hx; unfold i64ok; simp; omega⟩
theorem most_ok (u : Int) (h : vld u = true) : okN 1 (mostS u) := by
  have := (vld_iff u).1 h
  exact ⟨by simp [mostS], by simp [mostS], fun x hx => by simp [mostS] at hx; subst hx; unfold i64ok; simp; omega, fun x hx => by simp [mostS] at hx; subst hx; unfold i64ok; simp; omega⟩
set_option maxHeartbeats 2000000 in
theorem rbound_1 (op : ByteArray) (u : Int) (w : World) (f1 : (op.toList == [60]) = true) (f2 : (op.toList == [60, 61]) = false) (f3 : (op.toList == [62]) = false) (f4 : (op.toList == [62, 61]) = false) (f5 : (op.toList == [61, 61]) = false) (f6 : (op.toList == [33, 61]) = false) (hu : vld u = true) : Calls Try.prog 36 #[.string op, .int .i64 u] w (BoundIs (setB 1 u) 0 w) := by
  have hr := (vld_iff u).1 hu
  have hi : i64ok u := by unfold i64ok; omega
  have HV := Lib.hid (show ∀ W : World, Calls Try.prog 37 #[.int .i64 u] W (fun e w' => e = .returned (.bool true) ∧ W = w') from fun W => by
    have h := rvalid_any u W hi; rw [hu] at h; exact h)
  have HF1 := Lib.hid (fun W => rfloor_any (u - 1) W (by unfold bdu; omega))
  have HF2 := Lib.hid (fun W => rfloor_any u W (by unfold bdu; omega))
  have uw1 : IntKind.i64.wrap (u - 1) = u - 1 := IntWalk.i64_in _ (by omega)
  have HL := Lib.hid (less_ok u hu)
  have HM := Lib.hid (most_ok u hu)
  obtain ⟨q1, hq1⟩ : ∃ q1, q1 = (u - 1) / 10000 := ⟨_, rfl⟩
  obtain ⟨q2, hq2⟩ : ∃ q2, q2 = u / 10000 := ⟨_, rfl⟩
  rw [← hq1] at HF1
  rw [← hq2] at HF2
  obtain ⟨w1, hw1⟩ : ∃ x, x = w.alloc (.cells #[.slice none 0 0, .slice none 0 0] 24) := ⟨_, rfl⟩
  obtain ⟨w2, hw2⟩ : ∃ x, x = w1.alloc (.cells #[.int .i64 (-100000000000), .int .i64 q1] 46) := ⟨_, rfl⟩
  obtain ⟨w3, hw3⟩ : ∃ x, x = w2.alloc (.cells #[.int .i64 (-1000000000000000), .int .i64 (u - 1)] 46) := ⟨_, rfl⟩
  obtain ⟨w4, hw4⟩ : ∃ x, x = w3.alloc (.cells #[.slice (some ⟨w.heap.size + 1, 0, none⟩) 1 1, .slice (some ⟨w.heap.size + 1 + 1, 0, none⟩) 1 1] 24) := ⟨_, rfl⟩
  obtain ⟨w5, hw5⟩ : ∃ x, x = w4.alloc (.cells #[.int .i64 (-100000000000), .int .i64 q2] 46) := ⟨_, rfl⟩
  obtain ⟨w6, hw6⟩ : ∃ x, x = w5.alloc (.cells #[.int .i64 (-1000000000000000), .int .i64 u] 46) := ⟨_, rfl⟩
  obtain ⟨w7, hw7⟩ : ∃ x, x = w6.alloc (.cells #[.slice (some ⟨w.heap.size + 1 + 1 + 1 + 1, 0, none⟩) 1 1, .slice (some ⟨w.heap.size + 1 + 1 + 1 + 1 + 1, 0, none⟩) 1 1] 24) := ⟨_, rfl⟩
  obtain ⟨b7, hb7⟩ : ∃ b, b = w.heap.size + 1 + 1 + 1 := ⟨_, rfl⟩
  obtain ⟨b8, hb8⟩ : ∃ b, b = w.heap.size + 1 + 1 + 1 + 1 + 1 + 1 := ⟨_, rfl⟩
  have HWb := Lib.hid (show Wb w u b7 b8 w7 by
    have e1 : w1.heap.size = w.heap.size + 1 := by rw [hw1]; simp
    have e2 : w2.heap.size = w.heap.size + 1 + 1 := by rw [hw2]; simp [e1]
    have e3 : w3.heap.size = w.heap.size + 1 + 1 + 1 := by rw [hw3]; simp [e2]
    have e4 : w4.heap.size = w.heap.size + 1 + 1 + 1 + 1 := by rw [hw4]; simp [e3]
    have e5 : w5.heap.size = w.heap.size + 1 + 1 + 1 + 1 + 1 := by rw [hw5]; simp [e4]
    have e6 : w6.heap.size = w.heap.size + 1 + 1 + 1 + 1 + 1 + 1 := by rw [hw6]; simp [e5]
    have e7 : w7.heap.size = w.heap.size + 1 + 1 + 1 + 1 + 1 + 1 + 1 := by rw [hw7]; simp [e6]
    have t1 : Below w.heap.size w w1 := by rw [hw1]; exact bal _ _
    have t2 : Below w1.heap.size w1 w2 := by rw [hw2]; exact bal _ _
    have t3 : Below w2.heap.size w2 w3 := by rw [hw3]; exact bal _ _
    have t4 : Below w3.heap.size w3 w4 := by rw [hw4]; exact bal _ _
    have t5 : Below w4.heap.size w4 w5 := by rw [hw5]; exact bal _ _
    have t6 : Below w5.heap.size w5 w6 := by rw [hw6]; exact bal _ _
    have t7 : Below w6.heap.size w6 w7 := by rw [hw7]; exact bal _ _
    have r1 : Re w2 w2.heap.size (some ⟨w.heap.size + 1, 0, none⟩) [(-100000000000, q1)] := by rw [hw2, ← e1]; exact re_one w1 _ _
    have r2 : Re w3 w3.heap.size (some ⟨w.heap.size + 1 + 1, 0, none⟩) [(-1000000000000000, u - 1)] := by rw [hw3, ← e2]; exact re_one w2 _ _
    have r3 : Re w5 w5.heap.size (some ⟨w.heap.size + 1 + 1 + 1 + 1, 0, none⟩) [(-100000000000, q2)] := by rw [hw5, ← e4]; exact re_one w4 _ _
    have r4 : Re w6 w6.heap.size (some ⟨w.heap.size + 1 + 1 + 1 + 1 + 1, 0, none⟩) [(-1000000000000000, u)] := by rw [hw6, ← e5]; exact re_one w5 _ _
    have t47 : Below w4.heap.size w4 w7 := (t5.trans (t6.mono (by omega))).trans (t7.mono (by omega))
    have t37 : Below w3.heap.size w3 w7 := t4.trans (t47.mono (by omega))
    have t27 : Below w2.heap.size w2 w7 := t3.trans (t37.mono (by omega))
    have t17 : Below w1.heap.size w1 w7 := t2.trans (t27.mono (by omega))
    have t57 : Below w5.heap.size w5 w7 := t6.trans (t7.mono (by omega))
    refine ⟨t1.trans (t17.mono (by omega)), ?_, by omega, by omega, by omega, by omega, ⟨some ⟨w.heap.size + 1, 0, none⟩, 1, some ⟨w.heap.size + 1 + 1, 0, none⟩, 1, ?_, ?_, ?_⟩, ⟨some ⟨w.heap.size + 1 + 1 + 1 + 1, 0, none⟩, 1, some ⟨w.heap.size + 1 + 1 + 1 + 1 + 1, 0, none⟩, 1, ?_, ?_, ?_⟩⟩
    · exact (show Yb w.heap.size w1 by rw [hw1]; exact yb_new w).up t17
    · rw [t47.cell (p := ⟨b7, 0, none⟩) (by show b7 < _; omega), hw4, hb7, ← e3]; simp
    · rw [t47.cell (p := ⟨b7, 1, none⟩) (by show b7 < _; omega), hw4, hb7, ← e3]; simp
    · rw [lessS, ← hq1]; exact ⟨r1.up t27, r2.up t37, plain_at _ _, plain_at _ _⟩
    · rw [hw7, hb8, ← e6]; simp
    · rw [hw7, hb8, ← e6]; simp
    · rw [mostS, ← hq2]; exact ⟨r3.up t57, r4.up t7, plain_at _ _, plain_at _ _⟩)
  have HC := Lib.hid (show ∀ (W : World) F1 f1 F2 f2, Ns W F1 f1 F2 f2 (lessS u) → Calls Try.prog 16 #[nv F1 1 f1 F2 1 f2] W (GivesN (setB 1 u) W) from fun W F1 f1 F2 f2 h => by
    have h := rmake_any F1 F2 f1 f2 (lessS u) W h (HL.out.le (by omega)); rw [set1] at h; exact h)
  generalize setB 1 u = S at *
  clear hu hr hi hq1 hq2
  go_enter Try.func36, Try.ntmps36
  go_wp2_with fail
  refine (HV.out _).mono ?_
  rintro e w' ⟨rfl, rfl⟩
  go_wp2_with fail
  refine (HF1.out _).mono ?_
  rintro e w' ⟨rfl, rfl⟩
  go_wp2_with fail
  refine (HF2.out _).mono ?_
  rintro e w' ⟨rfl, rfl⟩
  go_upto_region 8 with fail
  rw [← hw1, ← hw2, ← hw3, ← hw4, ← hw5, ← hw6, ← hw7, ← hb8, ← hb7]
  clear hw1 hw2 hw3 hw4 hw5 hw6 hw7 hb7 hb8
  obtain ⟨hbel, hy, n7, n8, l7, l8, ⟨P, p, Q, q, a0, a1, hns7⟩, ⟨P', p', Q', q', a2, a3, hns8⟩⟩ := HWb.out
  have HN7 := Lib.hid hns7
  have HN8 := Lib.hid hns8
  have HB := Lib.hid hbel
  have HY := Lib.hid hy
  have lr : w.heap.size < w7.heap.size := hy.lt
  clear hbel hy hns7 hns8 HWb
  go_wp2_with fail
  refine (HC.out _ _ _ _ _ HN7.out).mono ?_
  rintro e v1 ⟨F1, g1, F2, g2, rfl, ⟨hns, h1, h2⟩, hb⟩
  have bb : Below w7.heap.size w7 v1 := hb
  clear hb
  have hY4 := HY.out.up bb
  obtain ⟨y0, y1, y2, y3, yl⟩ := id hY4
  obtain ⟨q0, q1', hup⟩ := st_cell y0 y1 F1 S.1.length g1 F2 S.2.length g2
  have hbE := HB.out.trans (bb.mono HB.out.size)
  have HE := Lib.hid (show BoundIs S 0 w (.returned (.tuple #[nv F1 S.1.length g1 F2 S.2.length g2, .int .i64 0])) (stW v1 w.heap.size F1 S.1.length g1 F2 S.2.length g2) from
    ⟨F1, g1, F2, g2, rfl, ⟨hup hns, h1.le (Nat.le_trans HB.out.size (Nat.le_refl _)), h2.le (Nat.le_trans HB.out.size (Nat.le_refl _))⟩, (hbE.setCell (p := ⟨w.heap.size, 0, none⟩) (Nat.le_refl _) _).setCell (p := ⟨w.heap.size, 1, none⟩) (Nat.le_refl _) _⟩)
  unfold stW at q0 q1' HE
  clear hup hbE hY4 hns h1 h2
  go_wp2_with fail
  refine bodyPost_ret (v := .tuple #[nv F1 S.1.length g1 F2 S.2.length g2, .int .i64 0]) (by simp [results, Try.results36, go_sem, q0, q1']) rfl HE.out
set_option maxHeartbeats 2000000 in
theorem rbound_2 (op : ByteArray) (u : Int) (w : World) (f1 : (op.toList == [60]) = false) (f2 : (op.toList == [60, 61]) = true) (f3 : (op.toList == [62]) = false) (f4 : (op.toList == [62, 61]) = false) (f5 : (op.toList == [61, 61]) = false) (f6 : (op.toList == [33, 61]) = false) (hu : vld u = true) : Calls Try.prog 36 #[.string op, .int .i64 u] w (BoundIs (setB 2 u) 0 w) := by
  have hr := (vld_iff u).1 hu
  have hi : i64ok u := by unfold i64ok; omega
  have HV := Lib.hid (show ∀ W : World, Calls Try.prog 37 #[.int .i64 u] W (fun e w' => e = .returned (.bool true) ∧ W = w') from fun W => by
    have h := rvalid_any u W hi; rw [hu] at h; exact h)
  have HF1 := Lib.hid (fun W => rfloor_any (u - 1) W (by unfold bdu; omega))
  have HF2 := Lib.hid (fun W => rfloor_any u W (by unfold bdu; omega))
  have uw1 : IntKind.i64.wrap (u - 1) = u - 1 := IntWalk.i64_in _ (by omega)
  have HL := Lib.hid (less_ok u hu)
  have HM := Lib.hid (most_ok u hu)
  obtain ⟨q1, hq1⟩ : ∃ q1, q1 = (u - 1) / 10000 := ⟨_, rfl⟩
  obtain ⟨q2, hq2⟩ : ∃ q2, q2 = u / 10000 := ⟨_, rfl⟩
  rw [← hq1] at HF1
  rw [← hq2] at HF2
  obtain ⟨w1, hw1⟩ : ∃ x, x = w.alloc (.cells #[.slice none 0 0, .slice none 0 0] 24) := ⟨_, rfl⟩
  obtain ⟨w2, hw2⟩ : ∃ x, x = w1.alloc (.cells #[.int .i64 (-100000000000), .int .i64 q1] 46) := ⟨_, rfl⟩
  obtain ⟨w3, hw3⟩ : ∃ x, x = w2.alloc (.cells #[.int .i64 (-1000000000000000), .int .i64 (u - 1)] 46) := ⟨_, rfl⟩
  obtain ⟨w4, hw4⟩ : ∃ x, x = w3.alloc (.cells #[.slice (some ⟨w.heap.size + 1, 0, none⟩) 1 1, .slice (some ⟨w.heap.size + 1 + 1, 0, none⟩) 1 1] 24) := ⟨_, rfl⟩
  obtain ⟨w5, hw5⟩ : ∃ x, x = w4.alloc (.cells #[.int .i64 (-100000000000), .int .i64 q2] 46) := ⟨_, rfl⟩
  obtain ⟨w6, hw6⟩ : ∃ x, x = w5.alloc (.cells #[.int .i64 (-1000000000000000), .int .i64 u] 46) := ⟨_, rfl⟩
  obtain ⟨w7, hw7⟩ : ∃ x, x = w6.alloc (.cells #[.slice (some ⟨w.heap.size + 1 + 1 + 1 + 1, 0, none⟩) 1 1, .slice (some ⟨w.heap.size + 1 + 1 + 1 + 1 + 1, 0, none⟩) 1 1] 24) := ⟨_, rfl⟩
  obtain ⟨b7, hb7⟩ : ∃ b, b = w.heap.size + 1 + 1 + 1 := ⟨_, rfl⟩
  obtain ⟨b8, hb8⟩ : ∃ b, b = w.heap.size + 1 + 1 + 1 + 1 + 1 + 1 := ⟨_, rfl⟩
  have HWb := Lib.hid (show Wb w u b7 b8 w7 by
    have e1 : w1.heap.size = w.heap.size + 1 := by rw [hw1]; simp
    have e2 : w2.heap.size = w.heap.size + 1 + 1 := by rw [hw2]; simp [e1]
    have e3 : w3.heap.size = w.heap.size + 1 + 1 + 1 := by rw [hw3]; simp [e2]
    have e4 : w4.heap.size = w.heap.size + 1 + 1 + 1 + 1 := by rw [hw4]; simp [e3]
    have e5 : w5.heap.size = w.heap.size + 1 + 1 + 1 + 1 + 1 := by rw [hw5]; simp [e4]
    have e6 : w6.heap.size = w.heap.size + 1 + 1 + 1 + 1 + 1 + 1 := by rw [hw6]; simp [e5]
    have e7 : w7.heap.size = w.heap.size + 1 + 1 + 1 + 1 + 1 + 1 + 1 := by rw [hw7]; simp [e6]
    have t1 : Below w.heap.size w w1 := by rw [hw1]; exact bal _ _
    have t2 : Below w1.heap.size w1 w2 := by rw [hw2]; exact bal _ _
    have t3 : Below w2.heap.size w2 w3 := by rw [hw3]; exact bal _ _
    have t4 : Below w3.heap.size w3 w4 := by rw [hw4]; exact bal _ _
    have t5 : Below w4.heap.size w4 w5 := by rw [hw5]; exact bal _ _
    have t6 : Below w5.heap.size w5 w6 := by rw [hw6]; exact bal _ _
    have t7 : Below w6.heap.size w6 w7 := by rw [hw7]; exact bal _ _
    have r1 : Re w2 w2.heap.size (some ⟨w.heap.size + 1, 0, none⟩) [(-100000000000, q1)] := by rw [hw2, ← e1]; exact re_one w1 _ _
    have r2 : Re w3 w3.heap.size (some ⟨w.heap.size + 1 + 1, 0, none⟩) [(-1000000000000000, u - 1)] := by rw [hw3, ← e2]; exact re_one w2 _ _
    have r3 : Re w5 w5.heap.size (some ⟨w.heap.size + 1 + 1 + 1 + 1, 0, none⟩) [(-100000000000, q2)] := by rw [hw5, ← e4]; exact re_one w4 _ _
    have r4 : Re w6 w6.heap.size (some ⟨w.heap.size + 1 + 1 + 1 + 1 + 1, 0, none⟩) [(-1000000000000000, u)] := by rw [hw6, ← e5]; exact re_one w5 _ _
    have t47 : Below w4.heap.size w4 w7 := (t5.trans (t6.mono (by omega))).trans (t7.mono (by omega))
    have t37 : Below w3.heap.size w3 w7 := t4.trans (t47.mono (by omega))
    have t27 : Below w2.heap.size w2 w7 := t3.trans (t37.mono (by omega))
    have t17 : Below w1.heap.size w1 w7 := t2.trans (t27.mono (by omega))
    have t57 : Below w5.heap.size w5 w7 := t6.trans (t7.mono (by omega))
    refine ⟨t1.trans (t17.mono (by omega)), ?_, by omega, by omega, by omega, by omega, ⟨some ⟨w.heap.size + 1, 0, none⟩, 1, some ⟨w.heap.size + 1 + 1, 0, none⟩, 1, ?_, ?_, ?_⟩, ⟨some ⟨w.heap.size + 1 + 1 + 1 + 1, 0, none⟩, 1, some ⟨w.heap.size + 1 + 1 + 1 + 1 + 1, 0, none⟩, 1, ?_, ?_, ?_⟩⟩
    · exact (show Yb w.heap.size w1 by rw [hw1]; exact yb_new w).up t17
    · rw [t47.cell (p := ⟨b7, 0, none⟩) (by show b7 < _; omega), hw4, hb7, ← e3]; simp
    · rw [t47.cell (p := ⟨b7, 1, none⟩) (by show b7 < _; omega), hw4, hb7, ← e3]; simp
    · rw [lessS, ← hq1]; exact ⟨r1.up t27, r2.up t37, plain_at _ _, plain_at _ _⟩
    · rw [hw7, hb8, ← e6]; simp
    · rw [hw7, hb8, ← e6]; simp
    · rw [mostS, ← hq2]; exact ⟨r3.up t57, r4.up t7, plain_at _ _, plain_at _ _⟩)
  have HC := Lib.hid (show ∀ (W : World) F1 f1 F2 f2, Ns W F1 f1 F2 f2 (mostS u) → Calls Try.prog 16 #[nv F1 1 f1 F2 1 f2] W (GivesN (setB 2 u) W) from fun W F1 f1 F2 f2 h => by
    have h := rmake_any F1 F2 f1 f2 (mostS u) W h (HM.out.le (by omega)); rw [set2] at h; exact h)
  generalize setB 2 u = S at *
  clear hu hr hi hq1 hq2
  go_enter Try.func36, Try.ntmps36
  go_wp2_with fail
  refine (HV.out _).mono ?_
  rintro e w' ⟨rfl, rfl⟩
  go_wp2_with fail
  refine (HF1.out _).mono ?_
  rintro e w' ⟨rfl, rfl⟩
  go_wp2_with fail
  refine (HF2.out _).mono ?_
  rintro e w' ⟨rfl, rfl⟩
  go_upto_region 8 with fail
  rw [← hw1, ← hw2, ← hw3, ← hw4, ← hw5, ← hw6, ← hw7, ← hb8, ← hb7]
  clear hw1 hw2 hw3 hw4 hw5 hw6 hw7 hb7 hb8
  obtain ⟨hbel, hy, n7, n8, l7, l8, ⟨P, p, Q, q, a0, a1, hns7⟩, ⟨P', p', Q', q', a2, a3, hns8⟩⟩ := HWb.out
  have HN7 := Lib.hid hns7
  have HN8 := Lib.hid hns8
  have HB := Lib.hid hbel
  have HY := Lib.hid hy
  have lr : w.heap.size < w7.heap.size := hy.lt
  clear hbel hy hns7 hns8 HWb
  go_wp2_with fail
  refine (HC.out _ _ _ _ _ HN8.out).mono ?_
  rintro e v1 ⟨F1, g1, F2, g2, rfl, ⟨hns, h1, h2⟩, hb⟩
  have bb : Below w7.heap.size w7 v1 := hb
  clear hb
  have hY4 := HY.out.up bb
  obtain ⟨y0, y1, y2, y3, yl⟩ := id hY4
  obtain ⟨q0, q1', hup⟩ := st_cell y0 y1 F1 S.1.length g1 F2 S.2.length g2
  have hbE := HB.out.trans (bb.mono HB.out.size)
  have HE := Lib.hid (show BoundIs S 0 w (.returned (.tuple #[nv F1 S.1.length g1 F2 S.2.length g2, .int .i64 0])) (stW v1 w.heap.size F1 S.1.length g1 F2 S.2.length g2) from
    ⟨F1, g1, F2, g2, rfl, ⟨hup hns, h1.le (Nat.le_trans HB.out.size (Nat.le_refl _)), h2.le (Nat.le_trans HB.out.size (Nat.le_refl _))⟩, (hbE.setCell (p := ⟨w.heap.size, 0, none⟩) (Nat.le_refl _) _).setCell (p := ⟨w.heap.size, 1, none⟩) (Nat.le_refl _) _⟩)
  unfold stW at q0 q1' HE
  clear hup hbE hY4 hns h1 h2
  go_wp2_with fail
  refine bodyPost_ret (v := .tuple #[nv F1 S.1.length g1 F2 S.2.length g2, .int .i64 0]) (by simp [results, Try.results36, go_sem, q0, q1']) rfl HE.out
set_option maxHeartbeats 2000000 in
theorem rbound_3 (op : ByteArray) (u : Int) (w : World) (f1 : (op.toList == [60]) = false) (f2 : (op.toList == [60, 61]) = false) (f3 : (op.toList == [62]) = true) (f4 : (op.toList == [62, 61]) = false) (f5 : (op.toList == [61, 61]) = false) (f6 : (op.toList == [33, 61]) = false) (hu : vld u = true) : Calls Try.prog 36 #[.string op, .int .i64 u] w (BoundIs (setB 3 u) 0 w) := by
  have hr := (vld_iff u).1 hu
  have hi : i64ok u := by unfold i64ok; omega
  have HV := Lib.hid (show ∀ W : World, Calls Try.prog 37 #[.int .i64 u] W (fun e w' => e = .returned (.bool true) ∧ W = w') from fun W => by
    have h := rvalid_any u W hi; rw [hu] at h; exact h)
  have HF1 := Lib.hid (fun W => rfloor_any (u - 1) W (by unfold bdu; omega))
  have HF2 := Lib.hid (fun W => rfloor_any u W (by unfold bdu; omega))
  have uw1 : IntKind.i64.wrap (u - 1) = u - 1 := IntWalk.i64_in _ (by omega)
  have HL := Lib.hid (less_ok u hu)
  have HM := Lib.hid (most_ok u hu)
  obtain ⟨q1, hq1⟩ : ∃ q1, q1 = (u - 1) / 10000 := ⟨_, rfl⟩
  obtain ⟨q2, hq2⟩ : ∃ q2, q2 = u / 10000 := ⟨_, rfl⟩
  rw [← hq1] at HF1
  rw [← hq2] at HF2
  obtain ⟨w1, hw1⟩ : ∃ x, x = w.alloc (.cells #[.slice none 0 0, .slice none 0 0] 24) := ⟨_, rfl⟩
  obtain ⟨w2, hw2⟩ : ∃ x, x = w1.alloc (.cells #[.int .i64 (-100000000000), .int .i64 q1] 46) := ⟨_, rfl⟩
  obtain ⟨w3, hw3⟩ : ∃ x, x = w2.alloc (.cells #[.int .i64 (-1000000000000000), .int .i64 (u - 1)] 46) := ⟨_, rfl⟩
  obtain ⟨w4, hw4⟩ : ∃ x, x = w3.alloc (.cells #[.slice (some ⟨w.heap.size + 1, 0, none⟩) 1 1, .slice (some ⟨w.heap.size + 1 + 1, 0, none⟩) 1 1] 24) := ⟨_, rfl⟩
  obtain ⟨w5, hw5⟩ : ∃ x, x = w4.alloc (.cells #[.int .i64 (-100000000000), .int .i64 q2] 46) := ⟨_, rfl⟩
  obtain ⟨w6, hw6⟩ : ∃ x, x = w5.alloc (.cells #[.int .i64 (-1000000000000000), .int .i64 u] 46) := ⟨_, rfl⟩
  obtain ⟨w7, hw7⟩ : ∃ x, x = w6.alloc (.cells #[.slice (some ⟨w.heap.size + 1 + 1 + 1 + 1, 0, none⟩) 1 1, .slice (some ⟨w.heap.size + 1 + 1 + 1 + 1 + 1, 0, none⟩) 1 1] 24) := ⟨_, rfl⟩
  obtain ⟨b7, hb7⟩ : ∃ b, b = w.heap.size + 1 + 1 + 1 := ⟨_, rfl⟩
  obtain ⟨b8, hb8⟩ : ∃ b, b = w.heap.size + 1 + 1 + 1 + 1 + 1 + 1 := ⟨_, rfl⟩
  have HWb := Lib.hid (show Wb w u b7 b8 w7 by
    have e1 : w1.heap.size = w.heap.size + 1 := by rw [hw1]; simp
    have e2 : w2.heap.size = w.heap.size + 1 + 1 := by rw [hw2]; simp [e1]
    have e3 : w3.heap.size = w.heap.size + 1 + 1 + 1 := by rw [hw3]; simp [e2]
    have e4 : w4.heap.size = w.heap.size + 1 + 1 + 1 + 1 := by rw [hw4]; simp [e3]
    have e5 : w5.heap.size = w.heap.size + 1 + 1 + 1 + 1 + 1 := by rw [hw5]; simp [e4]
    have e6 : w6.heap.size = w.heap.size + 1 + 1 + 1 + 1 + 1 + 1 := by rw [hw6]; simp [e5]
    have e7 : w7.heap.size = w.heap.size + 1 + 1 + 1 + 1 + 1 + 1 + 1 := by rw [hw7]; simp [e6]
    have t1 : Below w.heap.size w w1 := by rw [hw1]; exact bal _ _
    have t2 : Below w1.heap.size w1 w2 := by rw [hw2]; exact bal _ _
    have t3 : Below w2.heap.size w2 w3 := by rw [hw3]; exact bal _ _
    have t4 : Below w3.heap.size w3 w4 := by rw [hw4]; exact bal _ _
    have t5 : Below w4.heap.size w4 w5 := by rw [hw5]; exact bal _ _
    have t6 : Below w5.heap.size w5 w6 := by rw [hw6]; exact bal _ _
    have t7 : Below w6.heap.size w6 w7 := by rw [hw7]; exact bal _ _
    have r1 : Re w2 w2.heap.size (some ⟨w.heap.size + 1, 0, none⟩) [(-100000000000, q1)] := by rw [hw2, ← e1]; exact re_one w1 _ _
    have r2 : Re w3 w3.heap.size (some ⟨w.heap.size + 1 + 1, 0, none⟩) [(-1000000000000000, u - 1)] := by rw [hw3, ← e2]; exact re_one w2 _ _
    have r3 : Re w5 w5.heap.size (some ⟨w.heap.size + 1 + 1 + 1 + 1, 0, none⟩) [(-100000000000, q2)] := by rw [hw5, ← e4]; exact re_one w4 _ _
    have r4 : Re w6 w6.heap.size (some ⟨w.heap.size + 1 + 1 + 1 + 1 + 1, 0, none⟩) [(-1000000000000000, u)] := by rw [hw6, ← e5]; exact re_one w5 _ _
    have t47 : Below w4.heap.size w4 w7 := (t5.trans (t6.mono (by omega))).trans (t7.mono (by omega))
    have t37 : Below w3.heap.size w3 w7 := t4.trans (t47.mono (by omega))
    have t27 : Below w2.heap.size w2 w7 := t3.trans (t37.mono (by omega))
    have t17 : Below w1.heap.size w1 w7 := t2.trans (t27.mono (by omega))
    have t57 : Below w5.heap.size w5 w7 := t6.trans (t7.mono (by omega))
    refine ⟨t1.trans (t17.mono (by omega)), ?_, by omega, by omega, by omega, by omega, ⟨some ⟨w.heap.size + 1, 0, none⟩, 1, some ⟨w.heap.size + 1 + 1, 0, none⟩, 1, ?_, ?_, ?_⟩, ⟨some ⟨w.heap.size + 1 + 1 + 1 + 1, 0, none⟩, 1, some ⟨w.heap.size + 1 + 1 + 1 + 1 + 1, 0, none⟩, 1, ?_, ?_, ?_⟩⟩
    · exact (show Yb w.heap.size w1 by rw [hw1]; exact yb_new w).up t17
    · rw [t47.cell (p := ⟨b7, 0, none⟩) (by show b7 < _; omega), hw4, hb7, ← e3]; simp
    · rw [t47.cell (p := ⟨b7, 1, none⟩) (by show b7 < _; omega), hw4, hb7, ← e3]; simp
    · rw [lessS, ← hq1]; exact ⟨r1.up t27, r2.up t37, plain_at _ _, plain_at _ _⟩
    · rw [hw7, hb8, ← e6]; simp
    · rw [hw7, hb8, ← e6]; simp
    · rw [mostS, ← hq2]; exact ⟨r3.up t57, r4.up t7, plain_at _ _, plain_at _ _⟩)
  have HC := Lib.hid (show ∀ (W : World) F1 f1 F2 f2, Ns W F1 f1 F2 f2 (mostS u) → Calls Try.prog 30 #[nv F1 1 f1 F2 1 f2] W (GivesN (setB 3 u) W) from fun W F1 f1 F2 f2 h => by
    have h := rnot_any F1 F2 f1 f2 (mostS u) W h (HM.out.le (by omega)); rw [set3] at h; exact h)
  generalize setB 3 u = S at *
  clear hu hr hi hq1 hq2
  go_enter Try.func36, Try.ntmps36
  go_wp2_with fail
  refine (HV.out _).mono ?_
  rintro e w' ⟨rfl, rfl⟩
  go_wp2_with fail
  refine (HF1.out _).mono ?_
  rintro e w' ⟨rfl, rfl⟩
  go_wp2_with fail
  refine (HF2.out _).mono ?_
  rintro e w' ⟨rfl, rfl⟩
  go_upto_region 8 with fail
  rw [← hw1, ← hw2, ← hw3, ← hw4, ← hw5, ← hw6, ← hw7, ← hb8, ← hb7]
  clear hw1 hw2 hw3 hw4 hw5 hw6 hw7 hb7 hb8
  obtain ⟨hbel, hy, n7, n8, l7, l8, ⟨P, p, Q, q, a0, a1, hns7⟩, ⟨P', p', Q', q', a2, a3, hns8⟩⟩ := HWb.out
  have HN7 := Lib.hid hns7
  have HN8 := Lib.hid hns8
  have HB := Lib.hid hbel
  have HY := Lib.hid hy
  have lr : w.heap.size < w7.heap.size := hy.lt
  clear hbel hy hns7 hns8 HWb
  go_wp2_with fail
  refine (HC.out _ _ _ _ _ HN8.out).mono ?_
  rintro e v1 ⟨F1, g1, F2, g2, rfl, ⟨hns, h1, h2⟩, hb⟩
  have bb : Below w7.heap.size w7 v1 := hb
  clear hb
  have hY4 := HY.out.up bb
  obtain ⟨y0, y1, y2, y3, yl⟩ := id hY4
  obtain ⟨q0, q1', hup⟩ := st_cell y0 y1 F1 S.1.length g1 F2 S.2.length g2
  have hbE := HB.out.trans (bb.mono HB.out.size)
  have HE := Lib.hid (show BoundIs S 0 w (.returned (.tuple #[nv F1 S.1.length g1 F2 S.2.length g2, .int .i64 0])) (stW v1 w.heap.size F1 S.1.length g1 F2 S.2.length g2) from
    ⟨F1, g1, F2, g2, rfl, ⟨hup hns, h1.le (Nat.le_trans HB.out.size (Nat.le_refl _)), h2.le (Nat.le_trans HB.out.size (Nat.le_refl _))⟩, (hbE.setCell (p := ⟨w.heap.size, 0, none⟩) (Nat.le_refl _) _).setCell (p := ⟨w.heap.size, 1, none⟩) (Nat.le_refl _) _⟩)
  unfold stW at q0 q1' HE
  clear hup hbE hY4 hns h1 h2
  go_wp2_with fail
  refine bodyPost_ret (v := .tuple #[nv F1 S.1.length g1 F2 S.2.length g2, .int .i64 0]) (by simp [results, Try.results36, go_sem, q0, q1']) rfl HE.out
set_option maxHeartbeats 2000000 in
theorem rbound_4 (op : ByteArray) (u : Int) (w : World) (f1 : (op.toList == [60]) = false) (f2 : (op.toList == [60, 61]) = false) (f3 : (op.toList == [62]) = false) (f4 : (op.toList == [62, 61]) = true) (f5 : (op.toList == [61, 61]) = false) (f6 : (op.toList == [33, 61]) = false) (hu : vld u = true) : Calls Try.prog 36 #[.string op, .int .i64 u] w (BoundIs (setB 4 u) 0 w) := by
  have hr := (vld_iff u).1 hu
  have hi : i64ok u := by unfold i64ok; omega
  have HV := Lib.hid (show ∀ W : World, Calls Try.prog 37 #[.int .i64 u] W (fun e w' => e = .returned (.bool true) ∧ W = w') from fun W => by
    have h := rvalid_any u W hi; rw [hu] at h; exact h)
  have HF1 := Lib.hid (fun W => rfloor_any (u - 1) W (by unfold bdu; omega))
  have HF2 := Lib.hid (fun W => rfloor_any u W (by unfold bdu; omega))
  have uw1 : IntKind.i64.wrap (u - 1) = u - 1 := IntWalk.i64_in _ (by omega)
  have HL := Lib.hid (less_ok u hu)
  have HM := Lib.hid (most_ok u hu)
  obtain ⟨q1, hq1⟩ : ∃ q1, q1 = (u - 1) / 10000 := ⟨_, rfl⟩
  obtain ⟨q2, hq2⟩ : ∃ q2, q2 = u / 10000 := ⟨_, rfl⟩
  rw [← hq1] at HF1
  rw [← hq2] at HF2
  obtain ⟨w1, hw1⟩ : ∃ x, x = w.alloc (.cells #[.slice none 0 0, .slice none 0 0] 24) := ⟨_, rfl⟩
  obtain ⟨w2, hw2⟩ : ∃ x, x = w1.alloc (.cells #[.int .i64 (-100000000000), .int .i64 q1] 46) := ⟨_, rfl⟩
  obtain ⟨w3, hw3⟩ : ∃ x, x = w2.alloc (.cells #[.int .i64 (-1000000000000000), .int .i64 (u - 1)] 46) := ⟨_, rfl⟩
  obtain ⟨w4, hw4⟩ : ∃ x, x = w3.alloc (.cells #[.slice (some ⟨w.heap.size + 1, 0, none⟩) 1 1, .slice (some ⟨w.heap.size + 1 + 1, 0, none⟩) 1 1] 24) := ⟨_, rfl⟩
  obtain ⟨w5, hw5⟩ : ∃ x, x = w4.alloc (.cells #[.int .i64 (-100000000000), .int .i64 q2] 46) := ⟨_, rfl⟩
  obtain ⟨w6, hw6⟩ : ∃ x, x = w5.alloc (.cells #[.int .i64 (-1000000000000000), .int .i64 u] 46) := ⟨_, rfl⟩
  obtain ⟨w7, hw7⟩ : ∃ x, x = w6.alloc (.cells #[.slice (some ⟨w.heap.size + 1 + 1 + 1 + 1, 0, none⟩) 1 1, .slice (some ⟨w.heap.size + 1 + 1 + 1 + 1 + 1, 0, none⟩) 1 1] 24) := ⟨_, rfl⟩
  obtain ⟨b7, hb7⟩ : ∃ b, b = w.heap.size + 1 + 1 + 1 := ⟨_, rfl⟩
  obtain ⟨b8, hb8⟩ : ∃ b, b = w.heap.size + 1 + 1 + 1 + 1 + 1 + 1 := ⟨_, rfl⟩
  have HWb := Lib.hid (show Wb w u b7 b8 w7 by
    have e1 : w1.heap.size = w.heap.size + 1 := by rw [hw1]; simp
    have e2 : w2.heap.size = w.heap.size + 1 + 1 := by rw [hw2]; simp [e1]
    have e3 : w3.heap.size = w.heap.size + 1 + 1 + 1 := by rw [hw3]; simp [e2]
    have e4 : w4.heap.size = w.heap.size + 1 + 1 + 1 + 1 := by rw [hw4]; simp [e3]
    have e5 : w5.heap.size = w.heap.size + 1 + 1 + 1 + 1 + 1 := by rw [hw5]; simp [e4]
    have e6 : w6.heap.size = w.heap.size + 1 + 1 + 1 + 1 + 1 + 1 := by rw [hw6]; simp [e5]
    have e7 : w7.heap.size = w.heap.size + 1 + 1 + 1 + 1 + 1 + 1 + 1 := by rw [hw7]; simp [e6]
    have t1 : Below w.heap.size w w1 := by rw [hw1]; exact bal _ _
    have t2 : Below w1.heap.size w1 w2 := by rw [hw2]; exact bal _ _
    have t3 : Below w2.heap.size w2 w3 := by rw [hw3]; exact bal _ _
    have t4 : Below w3.heap.size w3 w4 := by rw [hw4]; exact bal _ _
    have t5 : Below w4.heap.size w4 w5 := by rw [hw5]; exact bal _ _
    have t6 : Below w5.heap.size w5 w6 := by rw [hw6]; exact bal _ _
    have t7 : Below w6.heap.size w6 w7 := by rw [hw7]; exact bal _ _
    have r1 : Re w2 w2.heap.size (some ⟨w.heap.size + 1, 0, none⟩) [(-100000000000, q1)] := by rw [hw2, ← e1]; exact re_one w1 _ _
    have r2 : Re w3 w3.heap.size (some ⟨w.heap.size + 1 + 1, 0, none⟩) [(-1000000000000000, u - 1)] := by rw [hw3, ← e2]; exact re_one w2 _ _
    have r3 : Re w5 w5.heap.size (some ⟨w.heap.size + 1 + 1 + 1 + 1, 0, none⟩) [(-100000000000, q2)] := by rw [hw5, ← e4]; exact re_one w4 _ _
    have r4 : Re w6 w6.heap.size (some ⟨w.heap.size + 1 + 1 + 1 + 1 + 1, 0, none⟩) [(-1000000000000000, u)] := by rw [hw6, ← e5]; exact re_one w5 _ _
    have t47 : Below w4.heap.size w4 w7 := (t5.trans (t6.mono (by omega))).trans (t7.mono (by omega))
    have t37 : Below w3.heap.size w3 w7 := t4.trans (t47.mono (by omega))
    have t27 : Below w2.heap.size w2 w7 := t3.trans (t37.mono (by omega))
    have t17 : Below w1.heap.size w1 w7 := t2.trans (t27.mono (by omega))
    have t57 : Below w5.heap.size w5 w7 := t6.trans (t7.mono (by omega))
    refine ⟨t1.trans (t17.mono (by omega)), ?_, by omega, by omega, by omega, by omega, ⟨some ⟨w.heap.size + 1, 0, none⟩, 1, some ⟨w.heap.size + 1 + 1, 0, none⟩, 1, ?_, ?_, ?_⟩, ⟨some ⟨w.heap.size + 1 + 1 + 1 + 1, 0, none⟩, 1, some ⟨w.heap.size + 1 + 1 + 1 + 1 + 1, 0, none⟩, 1, ?_, ?_, ?_⟩⟩
    · exact (show Yb w.heap.size w1 by rw [hw1]; exact yb_new w).up t17
    · rw [t47.cell (p := ⟨b7, 0, none⟩) (by show b7 < _; omega), hw4, hb7, ← e3]; simp
    · rw [t47.cell (p := ⟨b7, 1, none⟩) (by show b7 < _; omega), hw4, hb7, ← e3]; simp
    · rw [lessS, ← hq1]; exact ⟨r1.up t27, r2.up t37, plain_at _ _, plain_at _ _⟩
    · rw [hw7, hb8, ← e6]; simp
    · rw [hw7, hb8, ← e6]; simp
    · rw [mostS, ← hq2]; exact ⟨r3.up t57, r4.up t7, plain_at _ _, plain_at _ _⟩)
  have HC := Lib.hid (show ∀ (W : World) F1 f1 F2 f2, Ns W F1 f1 F2 f2 (lessS u) → Calls Try.prog 30 #[nv F1 1 f1 F2 1 f2] W (GivesN (setB 4 u) W) from fun W F1 f1 F2 f2 h => by
    have h := rnot_any F1 F2 f1 f2 (lessS u) W h (HL.out.le (by omega)); rw [set4] at h; exact h)
  generalize setB 4 u = S at *
  clear hu hr hi hq1 hq2
  go_enter Try.func36, Try.ntmps36
  go_wp2_with fail
  refine (HV.out _).mono ?_
  rintro e w' ⟨rfl, rfl⟩
  go_wp2_with fail
  refine (HF1.out _).mono ?_
  rintro e w' ⟨rfl, rfl⟩
  go_wp2_with fail
  refine (HF2.out _).mono ?_
  rintro e w' ⟨rfl, rfl⟩
  go_upto_region 8 with fail
  rw [← hw1, ← hw2, ← hw3, ← hw4, ← hw5, ← hw6, ← hw7, ← hb8, ← hb7]
  clear hw1 hw2 hw3 hw4 hw5 hw6 hw7 hb7 hb8
  obtain ⟨hbel, hy, n7, n8, l7, l8, ⟨P, p, Q, q, a0, a1, hns7⟩, ⟨P', p', Q', q', a2, a3, hns8⟩⟩ := HWb.out
  have HN7 := Lib.hid hns7
  have HN8 := Lib.hid hns8
  have HB := Lib.hid hbel
  have HY := Lib.hid hy
  have lr : w.heap.size < w7.heap.size := hy.lt
  clear hbel hy hns7 hns8 HWb
  go_wp2_with fail
  refine (HC.out _ _ _ _ _ HN7.out).mono ?_
  rintro e v1 ⟨F1, g1, F2, g2, rfl, ⟨hns, h1, h2⟩, hb⟩
  have bb : Below w7.heap.size w7 v1 := hb
  clear hb
  have hY4 := HY.out.up bb
  obtain ⟨y0, y1, y2, y3, yl⟩ := id hY4
  obtain ⟨q0, q1', hup⟩ := st_cell y0 y1 F1 S.1.length g1 F2 S.2.length g2
  have hbE := HB.out.trans (bb.mono HB.out.size)
  have HE := Lib.hid (show BoundIs S 0 w (.returned (.tuple #[nv F1 S.1.length g1 F2 S.2.length g2, .int .i64 0])) (stW v1 w.heap.size F1 S.1.length g1 F2 S.2.length g2) from
    ⟨F1, g1, F2, g2, rfl, ⟨hup hns, h1.le (Nat.le_trans HB.out.size (Nat.le_refl _)), h2.le (Nat.le_trans HB.out.size (Nat.le_refl _))⟩, (hbE.setCell (p := ⟨w.heap.size, 0, none⟩) (Nat.le_refl _) _).setCell (p := ⟨w.heap.size, 1, none⟩) (Nat.le_refl _) _⟩)
  unfold stW at q0 q1' HE
  clear hup hbE hY4 hns h1 h2
  go_wp2_with fail
  refine bodyPost_ret (v := .tuple #[nv F1 S.1.length g1 F2 S.2.length g2, .int .i64 0]) (by simp [results, Try.results36, go_sem, q0, q1']) rfl HE.out
set_option maxHeartbeats 2000000 in
theorem rbound_5 (op : ByteArray) (u : Int) (w : World) (f1 : (op.toList == [60]) = false) (f2 : (op.toList == [60, 61]) = false) (f3 : (op.toList == [62]) = false) (f4 : (op.toList == [62, 61]) = false) (f5 : (op.toList == [61, 61]) = true) (f6 : (op.toList == [33, 61]) = false) (hu : vld u = true) : Calls Try.prog 36 #[.string op, .int .i64 u] w (BoundIs (setB 5 u) 0 w) := by
  have hr := (vld_iff u).1 hu
  have hi : i64ok u := by unfold i64ok; omega
  have HV := Lib.hid (show ∀ W : World, Calls Try.prog 37 #[.int .i64 u] W (fun e w' => e = .returned (.bool true) ∧ W = w') from fun W => by
    have h := rvalid_any u W hi; rw [hu] at h; exact h)
  have HF1 := Lib.hid (fun W => rfloor_any (u - 1) W (by unfold bdu; omega))
  have HF2 := Lib.hid (fun W => rfloor_any u W (by unfold bdu; omega))
  have uw1 : IntKind.i64.wrap (u - 1) = u - 1 := IntWalk.i64_in _ (by omega)
  have HL := Lib.hid (less_ok u hu)
  have HM := Lib.hid (most_ok u hu)
  obtain ⟨q1, hq1⟩ : ∃ q1, q1 = (u - 1) / 10000 := ⟨_, rfl⟩
  obtain ⟨q2, hq2⟩ : ∃ q2, q2 = u / 10000 := ⟨_, rfl⟩
  rw [← hq1] at HF1
  rw [← hq2] at HF2
  obtain ⟨w1, hw1⟩ : ∃ x, x = w.alloc (.cells #[.slice none 0 0, .slice none 0 0] 24) := ⟨_, rfl⟩
  obtain ⟨w2, hw2⟩ : ∃ x, x = w1.alloc (.cells #[.int .i64 (-100000000000), .int .i64 q1] 46) := ⟨_, rfl⟩
  obtain ⟨w3, hw3⟩ : ∃ x, x = w2.alloc (.cells #[.int .i64 (-1000000000000000), .int .i64 (u - 1)] 46) := ⟨_, rfl⟩
  obtain ⟨w4, hw4⟩ : ∃ x, x = w3.alloc (.cells #[.slice (some ⟨w.heap.size + 1, 0, none⟩) 1 1, .slice (some ⟨w.heap.size + 1 + 1, 0, none⟩) 1 1] 24) := ⟨_, rfl⟩
  obtain ⟨w5, hw5⟩ : ∃ x, x = w4.alloc (.cells #[.int .i64 (-100000000000), .int .i64 q2] 46) := ⟨_, rfl⟩
  obtain ⟨w6, hw6⟩ : ∃ x, x = w5.alloc (.cells #[.int .i64 (-1000000000000000), .int .i64 u] 46) := ⟨_, rfl⟩
  obtain ⟨w7, hw7⟩ : ∃ x, x = w6.alloc (.cells #[.slice (some ⟨w.heap.size + 1 + 1 + 1 + 1, 0, none⟩) 1 1, .slice (some ⟨w.heap.size + 1 + 1 + 1 + 1 + 1, 0, none⟩) 1 1] 24) := ⟨_, rfl⟩
  obtain ⟨b7, hb7⟩ : ∃ b, b = w.heap.size + 1 + 1 + 1 := ⟨_, rfl⟩
  obtain ⟨b8, hb8⟩ : ∃ b, b = w.heap.size + 1 + 1 + 1 + 1 + 1 + 1 := ⟨_, rfl⟩
  have HWb := Lib.hid (show Wb w u b7 b8 w7 by
    have e1 : w1.heap.size = w.heap.size + 1 := by rw [hw1]; simp
    have e2 : w2.heap.size = w.heap.size + 1 + 1 := by rw [hw2]; simp [e1]
    have e3 : w3.heap.size = w.heap.size + 1 + 1 + 1 := by rw [hw3]; simp [e2]
    have e4 : w4.heap.size = w.heap.size + 1 + 1 + 1 + 1 := by rw [hw4]; simp [e3]
    have e5 : w5.heap.size = w.heap.size + 1 + 1 + 1 + 1 + 1 := by rw [hw5]; simp [e4]
    have e6 : w6.heap.size = w.heap.size + 1 + 1 + 1 + 1 + 1 + 1 := by rw [hw6]; simp [e5]
    have e7 : w7.heap.size = w.heap.size + 1 + 1 + 1 + 1 + 1 + 1 + 1 := by rw [hw7]; simp [e6]
    have t1 : Below w.heap.size w w1 := by rw [hw1]; exact bal _ _
    have t2 : Below w1.heap.size w1 w2 := by rw [hw2]; exact bal _ _
    have t3 : Below w2.heap.size w2 w3 := by rw [hw3]; exact bal _ _
    have t4 : Below w3.heap.size w3 w4 := by rw [hw4]; exact bal _ _
    have t5 : Below w4.heap.size w4 w5 := by rw [hw5]; exact bal _ _
    have t6 : Below w5.heap.size w5 w6 := by rw [hw6]; exact bal _ _
    have t7 : Below w6.heap.size w6 w7 := by rw [hw7]; exact bal _ _
    have r1 : Re w2 w2.heap.size (some ⟨w.heap.size + 1, 0, none⟩) [(-100000000000, q1)] := by rw [hw2, ← e1]; exact re_one w1 _ _
    have r2 : Re w3 w3.heap.size (some ⟨w.heap.size + 1 + 1, 0, none⟩) [(-1000000000000000, u - 1)] := by rw [hw3, ← e2]; exact re_one w2 _ _
    have r3 : Re w5 w5.heap.size (some ⟨w.heap.size + 1 + 1 + 1 + 1, 0, none⟩) [(-100000000000, q2)] := by rw [hw5, ← e4]; exact re_one w4 _ _
    have r4 : Re w6 w6.heap.size (some ⟨w.heap.size + 1 + 1 + 1 + 1 + 1, 0, none⟩) [(-1000000000000000, u)] := by rw [hw6, ← e5]; exact re_one w5 _ _
    have t47 : Below w4.heap.size w4 w7 := (t5.trans (t6.mono (by omega))).trans (t7.mono (by omega))
    have t37 : Below w3.heap.size w3 w7 := t4.trans (t47.mono (by omega))
    have t27 : Below w2.heap.size w2 w7 := t3.trans (t37.mono (by omega))
    have t17 : Below w1.heap.size w1 w7 := t2.trans (t27.mono (by omega))
    have t57 : Below w5.heap.size w5 w7 := t6.trans (t7.mono (by omega))
    refine ⟨t1.trans (t17.mono (by omega)), ?_, by omega, by omega, by omega, by omega, ⟨some ⟨w.heap.size + 1, 0, none⟩, 1, some ⟨w.heap.size + 1 + 1, 0, none⟩, 1, ?_, ?_, ?_⟩, ⟨some ⟨w.heap.size + 1 + 1 + 1 + 1, 0, none⟩, 1, some ⟨w.heap.size + 1 + 1 + 1 + 1 + 1, 0, none⟩, 1, ?_, ?_, ?_⟩⟩
    · exact (show Yb w.heap.size w1 by rw [hw1]; exact yb_new w).up t17
    · rw [t47.cell (p := ⟨b7, 0, none⟩) (by show b7 < _; omega), hw4, hb7, ← e3]; simp
    · rw [t47.cell (p := ⟨b7, 1, none⟩) (by show b7 < _; omega), hw4, hb7, ← e3]; simp
    · rw [lessS, ← hq1]; exact ⟨r1.up t27, r2.up t37, plain_at _ _, plain_at _ _⟩
    · rw [hw7, hb8, ← e6]; simp
    · rw [hw7, hb8, ← e6]; simp
    · rw [mostS, ← hq2]; exact ⟨r3.up t57, r4.up t7, plain_at _ _, plain_at _ _⟩)
  have HC := Lib.hid (show ∀ (W : World) F1 f1 F2 f2 G1 g1 G2 g2, Ns W F1 f1 F2 f2 (mostS u) → Ns W G1 g1 G2 g2 (lessS u) → Calls Try.prog 32 #[nv F1 1 f1 F2 1 f2, nv G1 1 g1 G2 1 g2] W (GivesN (setB 5 u) W) from fun W F1 f1 F2 f2 G1 g1 G2 g2 h k => by
    have h := rminus_any F1 F2 G1 G2 f1 f2 g1 g2 (mostS u) (lessS u) W h k (HM.out.le (by omega)) (HL.out.le (by omega)); rw [set5] at h; exact h)
  generalize setB 5 u = S at *
  clear hu hr hi hq1 hq2
  go_enter Try.func36, Try.ntmps36
  go_wp2_with fail
  refine (HV.out _).mono ?_
  rintro e w' ⟨rfl, rfl⟩
  go_wp2_with fail
  refine (HF1.out _).mono ?_
  rintro e w' ⟨rfl, rfl⟩
  go_wp2_with fail
  refine (HF2.out _).mono ?_
  rintro e w' ⟨rfl, rfl⟩
  go_upto_region 8 with fail
  rw [← hw1, ← hw2, ← hw3, ← hw4, ← hw5, ← hw6, ← hw7, ← hb8, ← hb7]
  clear hw1 hw2 hw3 hw4 hw5 hw6 hw7 hb7 hb8
  obtain ⟨hbel, hy, n7, n8, l7, l8, ⟨P, p, Q, q, a0, a1, hns7⟩, ⟨P', p', Q', q', a2, a3, hns8⟩⟩ := HWb.out
  have HN7 := Lib.hid hns7
  have HN8 := Lib.hid hns8
  have HB := Lib.hid hbel
  have HY := Lib.hid hy
  have lr : w.heap.size < w7.heap.size := hy.lt
  clear hbel hy hns7 hns8 HWb
  go_wp2_with fail
  refine (HC.out _ _ _ _ _ _ _ _ _ HN8.out HN7.out).mono ?_
  rintro e v1 ⟨F1, g1, F2, g2, rfl, ⟨hns, h1, h2⟩, hb⟩
  have bb : Below w7.heap.size w7 v1 := hb
  clear hb
  have hY4 := HY.out.up bb
  obtain ⟨y0, y1, y2, y3, yl⟩ := id hY4
  obtain ⟨q0, q1', hup⟩ := st_cell y0 y1 F1 S.1.length g1 F2 S.2.length g2
  have hbE := HB.out.trans (bb.mono HB.out.size)
  have HE := Lib.hid (show BoundIs S 0 w (.returned (.tuple #[nv F1 S.1.length g1 F2 S.2.length g2, .int .i64 0])) (stW v1 w.heap.size F1 S.1.length g1 F2 S.2.length g2) from
    ⟨F1, g1, F2, g2, rfl, ⟨hup hns, h1.le (Nat.le_trans HB.out.size (Nat.le_refl _)), h2.le (Nat.le_trans HB.out.size (Nat.le_refl _))⟩, (hbE.setCell (p := ⟨w.heap.size, 0, none⟩) (Nat.le_refl _) _).setCell (p := ⟨w.heap.size, 1, none⟩) (Nat.le_refl _) _⟩)
  unfold stW at q0 q1' HE
  clear hup hbE hY4 hns h1 h2
  go_wp2_with fail
  refine bodyPost_ret (v := .tuple #[nv F1 S.1.length g1 F2 S.2.length g2, .int .i64 0]) (by simp [results, Try.results36, go_sem, q0, q1']) rfl HE.out
set_option maxHeartbeats 2000000 in
theorem rbound_6 (op : ByteArray) (u : Int) (w : World) (f1 : (op.toList == [60]) = false) (f2 : (op.toList == [60, 61]) = false) (f3 : (op.toList == [62]) = false) (f4 : (op.toList == [62, 61]) = false) (f5 : (op.toList == [61, 61]) = false) (f6 : (op.toList == [33, 61]) = true) (hu : vld u = true) : Calls Try.prog 36 #[.string op, .int .i64 u] w (BoundIs (setB 6 u) 0 w) := by
  have hr := (vld_iff u).1 hu
  have hi : i64ok u := by unfold i64ok; omega
  have HV := Lib.hid (show ∀ W : World, Calls Try.prog 37 #[.int .i64 u] W (fun e w' => e = .returned (.bool true) ∧ W = w') from fun W => by
    have h := rvalid_any u W hi; rw [hu] at h; exact h)
  have HF1 := Lib.hid (fun W => rfloor_any (u - 1) W (by unfold bdu; omega))
  have HF2 := Lib.hid (fun W => rfloor_any u W (by unfold bdu; omega))
  have uw1 : IntKind.i64.wrap (u - 1) = u - 1 := IntWalk.i64_in _ (by omega)
  have HL := Lib.hid (less_ok u hu)
  have HM := Lib.hid (most_ok u hu)
  obtain ⟨q1, hq1⟩ : ∃ q1, q1 = (u - 1) / 10000 := ⟨_, rfl⟩
  obtain ⟨q2, hq2⟩ : ∃ q2, q2 = u / 10000 := ⟨_, rfl⟩
  rw [← hq1] at HF1
  rw [← hq2] at HF2
  obtain ⟨w1, hw1⟩ : ∃ x, x = w.alloc (.cells #[.slice none 0 0, .slice none 0 0] 24) := ⟨_, rfl⟩
  obtain ⟨w2, hw2⟩ : ∃ x, x = w1.alloc (.cells #[.int .i64 (-100000000000), .int .i64 q1] 46) := ⟨_, rfl⟩
  obtain ⟨w3, hw3⟩ : ∃ x, x = w2.alloc (.cells #[.int .i64 (-1000000000000000), .int .i64 (u - 1)] 46) := ⟨_, rfl⟩
  obtain ⟨w4, hw4⟩ : ∃ x, x = w3.alloc (.cells #[.slice (some ⟨w.heap.size + 1, 0, none⟩) 1 1, .slice (some ⟨w.heap.size + 1 + 1, 0, none⟩) 1 1] 24) := ⟨_, rfl⟩
  obtain ⟨w5, hw5⟩ : ∃ x, x = w4.alloc (.cells #[.int .i64 (-100000000000), .int .i64 q2] 46) := ⟨_, rfl⟩
  obtain ⟨w6, hw6⟩ : ∃ x, x = w5.alloc (.cells #[.int .i64 (-1000000000000000), .int .i64 u] 46) := ⟨_, rfl⟩
  obtain ⟨w7, hw7⟩ : ∃ x, x = w6.alloc (.cells #[.slice (some ⟨w.heap.size + 1 + 1 + 1 + 1, 0, none⟩) 1 1, .slice (some ⟨w.heap.size + 1 + 1 + 1 + 1 + 1, 0, none⟩) 1 1] 24) := ⟨_, rfl⟩
  obtain ⟨b7, hb7⟩ : ∃ b, b = w.heap.size + 1 + 1 + 1 := ⟨_, rfl⟩
  obtain ⟨b8, hb8⟩ : ∃ b, b = w.heap.size + 1 + 1 + 1 + 1 + 1 + 1 := ⟨_, rfl⟩
  have HWb := Lib.hid (show Wb w u b7 b8 w7 by
    have e1 : w1.heap.size = w.heap.size + 1 := by rw [hw1]; simp
    have e2 : w2.heap.size = w.heap.size + 1 + 1 := by rw [hw2]; simp [e1]
    have e3 : w3.heap.size = w.heap.size + 1 + 1 + 1 := by rw [hw3]; simp [e2]
    have e4 : w4.heap.size = w.heap.size + 1 + 1 + 1 + 1 := by rw [hw4]; simp [e3]
    have e5 : w5.heap.size = w.heap.size + 1 + 1 + 1 + 1 + 1 := by rw [hw5]; simp [e4]
    have e6 : w6.heap.size = w.heap.size + 1 + 1 + 1 + 1 + 1 + 1 := by rw [hw6]; simp [e5]
    have e7 : w7.heap.size = w.heap.size + 1 + 1 + 1 + 1 + 1 + 1 + 1 := by rw [hw7]; simp [e6]
    have t1 : Below w.heap.size w w1 := by rw [hw1]; exact bal _ _
    have t2 : Below w1.heap.size w1 w2 := by rw [hw2]; exact bal _ _
    have t3 : Below w2.heap.size w2 w3 := by rw [hw3]; exact bal _ _
    have t4 : Below w3.heap.size w3 w4 := by rw [hw4]; exact bal _ _
    have t5 : Below w4.heap.size w4 w5 := by rw [hw5]; exact bal _ _
    have t6 : Below w5.heap.size w5 w6 := by rw [hw6]; exact bal _ _
    have t7 : Below w6.heap.size w6 w7 := by rw [hw7]; exact bal _ _
    have r1 : Re w2 w2.heap.size (some ⟨w.heap.size + 1, 0, none⟩) [(-100000000000, q1)] := by rw [hw2, ← e1]; exact re_one w1 _ _
    have r2 : Re w3 w3.heap.size (some ⟨w.heap.size + 1 + 1, 0, none⟩) [(-1000000000000000, u - 1)] := by rw [hw3, ← e2]; exact re_one w2 _ _
    have r3 : Re w5 w5.heap.size (some ⟨w.heap.size + 1 + 1 + 1 + 1, 0, none⟩) [(-100000000000, q2)] := by rw [hw5, ← e4]; exact re_one w4 _ _
    have r4 : Re w6 w6.heap.size (some ⟨w.heap.size + 1 + 1 + 1 + 1 + 1, 0, none⟩) [(-1000000000000000, u)] := by rw [hw6, ← e5]; exact re_one w5 _ _
    have t47 : Below w4.heap.size w4 w7 := (t5.trans (t6.mono (by omega))).trans (t7.mono (by omega))
    have t37 : Below w3.heap.size w3 w7 := t4.trans (t47.mono (by omega))
    have t27 : Below w2.heap.size w2 w7 := t3.trans (t37.mono (by omega))
    have t17 : Below w1.heap.size w1 w7 := t2.trans (t27.mono (by omega))
    have t57 : Below w5.heap.size w5 w7 := t6.trans (t7.mono (by omega))
    refine ⟨t1.trans (t17.mono (by omega)), ?_, by omega, by omega, by omega, by omega, ⟨some ⟨w.heap.size + 1, 0, none⟩, 1, some ⟨w.heap.size + 1 + 1, 0, none⟩, 1, ?_, ?_, ?_⟩, ⟨some ⟨w.heap.size + 1 + 1 + 1 + 1, 0, none⟩, 1, some ⟨w.heap.size + 1 + 1 + 1 + 1 + 1, 0, none⟩, 1, ?_, ?_, ?_⟩⟩
    · exact (show Yb w.heap.size w1 by rw [hw1]; exact yb_new w).up t17
    · rw [t47.cell (p := ⟨b7, 0, none⟩) (by show b7 < _; omega), hw4, hb7, ← e3]; simp
    · rw [t47.cell (p := ⟨b7, 1, none⟩) (by show b7 < _; omega), hw4, hb7, ← e3]; simp
    · rw [lessS, ← hq1]; exact ⟨r1.up t27, r2.up t37, plain_at _ _, plain_at _ _⟩
    · rw [hw7, hb8, ← e6]; simp
    · rw [hw7, hb8, ← e6]; simp
    · rw [mostS, ← hq2]; exact ⟨r3.up t57, r4.up t7, plain_at _ _, plain_at _ _⟩)
  have HC := Lib.hid (show ∀ (W : World) F1 f1 F2 f2 G1 g1 G2 g2, Ns W F1 f1 F2 f2 (mostS u) → Ns W G1 g1 G2 g2 (lessS u) → Calls Try.prog 32 #[nv F1 1 f1 F2 1 f2, nv G1 1 g1 G2 1 g2] W (GivesN (setB 5 u) W) from fun W F1 f1 F2 f2 G1 g1 G2 g2 h k => by
    have h := rminus_any F1 F2 G1 G2 f1 f2 g1 g2 (mostS u) (lessS u) W h k (HM.out.le (by omega)) (HL.out.le (by omega)); rw [set5] at h; exact h)
  have HC2 := Lib.hid (show ∀ (W : World) F1 f1 F2 f2, Ns W F1 f1 F2 f2 (setB 5 u) → Calls Try.prog 30 #[nv F1 (setB 5 u).1.length f1 F2 (setB 5 u).2.length f2] W (GivesN (setB 6 u) W) from fun W F1 f1 F2 f2 h => rnot_any F1 F2 f1 f2 (setB 5 u) W h ((setB_ok 5 u hu).le (by omega)))
  generalize setB 5 u = R at *
  generalize setB 6 u = S at *
  clear hu hr hi hq1 hq2
  go_enter Try.func36, Try.ntmps36
  go_wp2_with fail
  refine (HV.out _).mono ?_
  rintro e w' ⟨rfl, rfl⟩
  go_wp2_with fail
  refine (HF1.out _).mono ?_
  rintro e w' ⟨rfl, rfl⟩
  go_wp2_with fail
  refine (HF2.out _).mono ?_
  rintro e w' ⟨rfl, rfl⟩
  go_upto_region 8 with fail
  rw [← hw1, ← hw2, ← hw3, ← hw4, ← hw5, ← hw6, ← hw7, ← hb8, ← hb7]
  clear hw1 hw2 hw3 hw4 hw5 hw6 hw7 hb7 hb8
  obtain ⟨hbel, hy, n7, n8, l7, l8, ⟨P, p, Q, q, a0, a1, hns7⟩, ⟨P', p', Q', q', a2, a3, hns8⟩⟩ := HWb.out
  have HN7 := Lib.hid hns7
  have HN8 := Lib.hid hns8
  have HB := Lib.hid hbel
  have HY := Lib.hid hy
  have lr : w.heap.size < w7.heap.size := hy.lt
  clear hbel hy hns7 hns8 HWb
  go_wp2_with fail
  refine (HC.out _ _ _ _ _ _ _ _ _ HN8.out HN7.out).mono ?_
  rintro e v1 ⟨E1, e1, E2, e2, rfl, ⟨hns1, _, _⟩, hb1⟩
  have HR := Lib.hid hns1
  have hb1' : Below w7.heap.size w7 v1 := hb1
  clear hns1 hb1
  go_wp2_with fail
  refine (HC2.out _ _ _ _ _ HR.out).mono ?_
  rintro e v2 ⟨F1, g1, F2, g2, rfl, ⟨hns, h1, h2⟩, hb⟩
  have bb : Below w7.heap.size w7 v2 := hb1'.trans (hb.mono hb1'.size)
  clear hb
  have hY4 := HY.out.up bb
  obtain ⟨y0, y1, y2, y3, yl⟩ := id hY4
  obtain ⟨q0, q1', hup⟩ := st_cell y0 y1 F1 S.1.length g1 F2 S.2.length g2
  have hbE := HB.out.trans (bb.mono HB.out.size)
  have HE := Lib.hid (show BoundIs S 0 w (.returned (.tuple #[nv F1 S.1.length g1 F2 S.2.length g2, .int .i64 0])) (stW v2 w.heap.size F1 S.1.length g1 F2 S.2.length g2) from
    ⟨F1, g1, F2, g2, rfl, ⟨hup hns, h1.le (Nat.le_trans HB.out.size hb1'.size), h2.le (Nat.le_trans HB.out.size hb1'.size)⟩, (hbE.setCell (p := ⟨w.heap.size, 0, none⟩) (Nat.le_refl _) _).setCell (p := ⟨w.heap.size, 1, none⟩) (Nat.le_refl _) _⟩)
  unfold stW at q0 q1' HE
  clear hup hbE hY4 hns h1 h2
  go_wp2_with fail
  refine bodyPost_ret (v := .tuple #[nv F1 S.1.length g1 F2 S.2.length g2, .int .i64 0]) (by simp [results, Try.results36, go_sem, q0, q1']) rfl HE.out
end Go.Proofs.Yteekccjfokoglaa
