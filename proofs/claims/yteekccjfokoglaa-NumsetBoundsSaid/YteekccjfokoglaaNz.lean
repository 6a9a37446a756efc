/-
  NumsetBounds out of what the law's alive gives.
-/
import Derived.Test.YteekccjfokoglaaNy
namespace Go.Proofs.Yteekccjfokoglaa
open Go.RowKit Go.Sort Go.Lib Go.Proofs
set_option linter.unusedSimpArgs false
set_option linter.unnecessarySimpa false
set_option linter.unusedVariables false
set_option maxHeartbeats 1000000 in
theorem bounds_e8 (op : ByteArray) (u x : Int) (w : World) (S : NS) (hS : Hid (okN 2 S)) (H1 : Hid (∀ W, Calls Try.prog 35 #[.string op, .int .i64 u] W (BoundIs S 8 W))) (H2 : Hid (∀ W, Calls Try.prog 36 #[.string op, .int .i64 u] W (BoundIs S 8 W)))
    (HAl : Hid (∀ W, Calls Try.prog 13 #[] W (EqIs true W))) : Calls Try.prog 5 #[.string op, .int .i64 u, .int .i64 x] w (EqIs true w) := by
  go_enter Try.func5, Try.ntmps5
  go_wp2_with fail
  refine (H1.out _).mono ?_
  rintro e w1 ⟨A1, c1, A2, c2, rfl, ⟨hns1, _, _⟩, hb1⟩
  obtain ⟨b7, hb7⟩ : ∃ b, b = w1.heap.size := ⟨_, rfl⟩
  obtain ⟨w2, hw2⟩ : ∃ x, x = w1.alloc (.cells #[.slice A1 S.1.length c1, .slice A2 S.2.length c2] 24) := ⟨_, rfl⟩
  have ba : Below w1.heap.size w1 w2 := by rw [hw2]; exact bal _ _
  have a0 : w2.cell? ⟨b7, 0, none⟩ = some (.slice A1 S.1.length c1) := by rw [hw2, hb7]; simp
  have a1 : w2.cell? ⟨b7, 1, none⟩ = some (.slice A2 S.2.length c2) := by rw [hw2, hb7]; simp
  have l7 : b7 < w2.heap.size := by rw [hw2, hb7]; simp
  have HN7 := Lib.hid (hns1.up ba)
  have HB2 := Lib.hid (hb1.trans (ba.mono hb1.size))
  clear hns1 hb1 ba
  go_upto_region 2 with fail
  rw [← hw2, ← hb7]
  clear hw2 hb7
  go_wp2_with fail
  refine (H2.out _).mono ?_
  rintro e w3 ⟨C1, d1, C2, d2, rfl, ⟨hns3, _, _⟩, hb3⟩
  obtain ⟨b9, hb9⟩ : ∃ b, b = w3.heap.size := ⟨_, rfl⟩
  obtain ⟨w4, hw4⟩ : ∃ x, x = w3.alloc (.cells #[.slice C1 S.1.length d1, .slice C2 S.2.length d2] 24) := ⟨_, rfl⟩
  have ba : Below w3.heap.size w3 w4 := by rw [hw4]; exact bal _ _
  have b24 : Below w2.heap.size w2 w4 := hb3.trans (ba.mono hb3.size)
  have k0 : w4.cell? ⟨b7, 0, none⟩ = some (.slice A1 S.1.length c1) := by rw [b24.cell (p := ⟨b7, 0, none⟩) l7]; exact a0
  have k1 : w4.cell? ⟨b7, 1, none⟩ = some (.slice A2 S.2.length c2) := by rw [b24.cell (p := ⟨b7, 1, none⟩) l7]; exact a1
  have k2 : w4.cell? ⟨b9, 0, none⟩ = some (.slice C1 S.1.length d1) := by rw [hw4, hb9]; simp
  have k3 : w4.cell? ⟨b9, 1, none⟩ = some (.slice C2 S.2.length d2) := by rw [hw4, hb9]; simp
  have l7' : b7 < w4.heap.size := Nat.lt_of_lt_of_le l7 b24.size
  have HM7 := Lib.hid (HN7.out.up b24)
  have HM9 := Lib.hid (hns3.up ba)
  have HB4 := Lib.hid (HB2.out.trans (b24.mono HB2.out.size))
  have HK := Lib.hid (And.intro k0 k1)
  clear hns3 hb3 ba b24 a0 a1 l7
  go_upto_region 3 with fail
  rw [← hw4, ← hb9]
  clear hw4 hb9
  have HSm := Lib.hid (show Calls Try.prog 14 #[nv A1 S.1.length c1 A2 S.2.length c2, nv C1 S.1.length d1 C2 S.2.length d2] w4 (EqIs true w4) by
    have h := same_any A1 A2 C1 C2 c1 c2 d1 d2 S S w4 HM7.out HM9.out (hS.out.le (by omega)) (hS.out.le (by omega)); rw [eqN_dec, decide_eq_true rfl] at h; exact h)
  go_wp2_with fail
  refine HSm.out.mono ?_
  rintro e w5 ⟨rfl, hb5⟩
  have HB5 := Lib.hid (HB4.out.trans (hb5.mono HB4.out.size))
  clear hb5 k0 k1 k2 k3
  go_wp2_with fail
  refine (HAl.out _).mono ?_
  rintro e w6 ⟨rfl, hb6⟩
  have HB6 := Lib.hid (HB5.out.trans (hb6.mono HB5.out.size))
  clear hb6
  go_wp2_with fail
  refine bodyPost_ret (v := .bool true) (by simp [results, Try.results5, go_sem]) rfl ?_
  exact ⟨rfl, HB6.out⟩
set_option maxHeartbeats 1000000 in
theorem bounds_e1 (op : ByteArray) (u x : Int) (w : World) (S : NS) (hS : Hid (okN 2 S)) (H1 : Hid (∀ W, Calls Try.prog 35 #[.string op, .int .i64 u] W (BoundIs S 1 W))) (H2 : Hid (∀ W, Calls Try.prog 36 #[.string op, .int .i64 u] W (BoundIs S 1 W)))
    (HAl : Hid (∀ W, Calls Try.prog 13 #[] W (EqIs true W))) : Calls Try.prog 5 #[.string op, .int .i64 u, .int .i64 x] w (EqIs true w) := by
  go_enter Try.func5, Try.ntmps5
  go_wp2_with fail
  refine (H1.out _).mono ?_
  rintro e w1 ⟨A1, c1, A2, c2, rfl, ⟨hns1, _, _⟩, hb1⟩
  obtain ⟨b7, hb7⟩ : ∃ b, b = w1.heap.size := ⟨_, rfl⟩
  obtain ⟨w2, hw2⟩ : ∃ x, x = w1.alloc (.cells #[.slice A1 S.1.length c1, .slice A2 S.2.length c2] 24) := ⟨_, rfl⟩
  have ba : Below w1.heap.size w1 w2 := by rw [hw2]; exact bal _ _
  have a0 : w2.cell? ⟨b7, 0, none⟩ = some (.slice A1 S.1.length c1) := by rw [hw2, hb7]; simp
  have a1 : w2.cell? ⟨b7, 1, none⟩ = some (.slice A2 S.2.length c2) := by rw [hw2, hb7]; simp
  have l7 : b7 < w2.heap.size := by rw [hw2, hb7]; simp
  have HN7 := Lib.hid (hns1.up ba)
  have HB2 := Lib.hid (hb1.trans (ba.mono hb1.size))
  clear hns1 hb1 ba
  go_upto_region 2 with fail
  rw [← hw2, ← hb7]
  clear hw2 hb7
  go_wp2_with fail
  refine (H2.out _).mono ?_
  rintro e w3 ⟨C1, d1, C2, d2, rfl, ⟨hns3, _, _⟩, hb3⟩
  obtain ⟨b9, hb9⟩ : ∃ b, b = w3.heap.size := ⟨_, rfl⟩
  obtain ⟨w4, hw4⟩ : ∃ x, x = w3.alloc (.cells #[.slice C1 S.1.length d1, .slice C2 S.2.length d2] 24) := ⟨_, rfl⟩
  have ba : Below w3.heap.size w3 w4 := by rw [hw4]; exact bal _ _
  have b24 : Below w2.heap.size w2 w4 := hb3.trans (ba.mono hb3.size)
  have k0 : w4.cell? ⟨b7, 0, none⟩ = some (.slice A1 S.1.length c1) := by rw [b24.cell (p := ⟨b7, 0, none⟩) l7]; exact a0
  have k1 : w4.cell? ⟨b7, 1, none⟩ = some (.slice A2 S.2.length c2) := by rw [b24.cell (p := ⟨b7, 1, none⟩) l7]; exact a1
  have k2 : w4.cell? ⟨b9, 0, none⟩ = some (.slice C1 S.1.length d1) := by rw [hw4, hb9]; simp
  have k3 : w4.cell? ⟨b9, 1, none⟩ = some (.slice C2 S.2.length d2) := by rw [hw4, hb9]; simp
  have l7' : b7 < w4.heap.size := Nat.lt_of_lt_of_le l7 b24.size
  have HM7 := Lib.hid (HN7.out.up b24)
  have HM9 := Lib.hid (hns3.up ba)
  have HB4 := Lib.hid (HB2.out.trans (b24.mono HB2.out.size))
  have HK := Lib.hid (And.intro k0 k1)
  clear hns3 hb3 ba b24 a0 a1 l7
  go_upto_region 3 with fail
  rw [← hw4, ← hb9]
  clear hw4 hb9
  have HSm := Lib.hid (show Calls Try.prog 14 #[nv A1 S.1.length c1 A2 S.2.length c2, nv C1 S.1.length d1 C2 S.2.length d2] w4 (EqIs true w4) by
    have h := same_any A1 A2 C1 C2 c1 c2 d1 d2 S S w4 HM7.out HM9.out (hS.out.le (by omega)) (hS.out.le (by omega)); rw [eqN_dec, decide_eq_true rfl] at h; exact h)
  go_wp2_with fail
  refine HSm.out.mono ?_
  rintro e w5 ⟨rfl, hb5⟩
  have HB5 := Lib.hid (HB4.out.trans (hb5.mono HB4.out.size))
  clear hb5 k0 k1 k2 k3
  go_wp2_with fail
  refine (HAl.out _).mono ?_
  rintro e w6 ⟨rfl, hb6⟩
  have HB6 := Lib.hid (HB5.out.trans (hb6.mono HB5.out.size))
  clear hb6
  go_wp2_with fail
  refine bodyPost_ret (v := .bool true) (by simp [results, Try.results5, go_sem]) rfl ?_
  exact ⟨rfl, HB6.out⟩
set_option maxHeartbeats 2000000 in
theorem bounds_ok (op : ByteArray) (u x : Int) (w : World) (S : NS) (v h : Bool) (hS : Hid (okN 2 S)) (H1 : Hid (∀ W, Calls Try.prog 35 #[.string op, .int .i64 u] W (BoundIs S 0 W))) (H2 : Hid (∀ W, Calls Try.prog 36 #[.string op, .int .i64 u] W (BoundIs S 0 W)))
    (H3 : Hid (∀ W, Calls Try.prog 38 #[.string op, .int .i64 x, .int .i64 u] W fun e w' => e = .returned (.bool h) ∧ W = w')) (HH : Hid (hasB S x = (v && h))) (hv : Hid (vld x = v)) (hx : Hid (i64ok x))
    (HAl : Hid (∀ W, Calls Try.prog 13 #[] W (EqIs true W))) : Calls Try.prog 5 #[.string op, .int .i64 u, .int .i64 x] w (EqIs true w) := by
  go_enter Try.func5, Try.ntmps5
  go_wp2_with fail
  refine (H1.out _).mono ?_
  rintro e w1 ⟨A1, c1, A2, c2, rfl, ⟨hns1, _, _⟩, hb1⟩
  obtain ⟨b7, hb7⟩ : ∃ b, b = w1.heap.size := ⟨_, rfl⟩
  obtain ⟨w2, hw2⟩ : ∃ x, x = w1.alloc (.cells #[.slice A1 S.1.length c1, .slice A2 S.2.length c2] 24) := ⟨_, rfl⟩
  have ba : Below w1.heap.size w1 w2 := by rw [hw2]; exact bal _ _
  have a0 : w2.cell? ⟨b7, 0, none⟩ = some (.slice A1 S.1.length c1) := by rw [hw2, hb7]; simp
  have a1 : w2.cell? ⟨b7, 1, none⟩ = some (.slice A2 S.2.length c2) := by rw [hw2, hb7]; simp
  have l7 : b7 < w2.heap.size := by rw [hw2, hb7]; simp
  have HN7 := Lib.hid (hns1.up ba)
  have HB2 := Lib.hid (hb1.trans (ba.mono hb1.size))
  clear hns1 hb1 ba
  go_upto_region 2 with fail
  rw [← hw2, ← hb7]
  clear hw2 hb7
  go_wp2_with fail
  refine (H2.out _).mono ?_
  rintro e w3 ⟨C1, d1, C2, d2, rfl, ⟨hns3, _, _⟩, hb3⟩
  obtain ⟨b9, hb9⟩ : ∃ b, b = w3.heap.size := ⟨_, rfl⟩
  obtain ⟨w4, hw4⟩ : ∃ x, x = w3.alloc (.cells #[.slice C1 S.1.length d1, .slice C2 S.2.length d2] 24) := ⟨_, rfl⟩
  have ba : Below w3.heap.size w3 w4 := by rw [hw4]; exact bal _ _
  have b24 : Below w2.heap.size w2 w4 := hb3.trans (ba.mono hb3.size)
  have k0 : w4.cell? ⟨b7, 0, none⟩ = some (.slice A1 S.1.length c1) := by rw [b24.cell (p := ⟨b7, 0, none⟩) l7]; exact a0
  have k1 : w4.cell? ⟨b7, 1, none⟩ = some (.slice A2 S.2.length c2) := by rw [b24.cell (p := ⟨b7, 1, none⟩) l7]; exact a1
  have k2 : w4.cell? ⟨b9, 0, none⟩ = some (.slice C1 S.1.length d1) := by rw [hw4, hb9]; simp
  have k3 : w4.cell? ⟨b9, 1, none⟩ = some (.slice C2 S.2.length d2) := by rw [hw4, hb9]; simp
  have l7' : b7 < w4.heap.size := Nat.lt_of_lt_of_le l7 b24.size
  have HM7 := Lib.hid (HN7.out.up b24)
  have HM9 := Lib.hid (hns3.up ba)
  have HB4 := Lib.hid (HB2.out.trans (b24.mono HB2.out.size))
  have HK := Lib.hid (And.intro k0 k1)
  clear hns3 hb3 ba b24 a0 a1 l7
  go_upto_region 3 with fail
  rw [← hw4, ← hb9]
  clear hw4 hb9
  have HSm := Lib.hid (show Calls Try.prog 14 #[nv A1 S.1.length c1 A2 S.2.length c2, nv C1 S.1.length d1 C2 S.2.length d2] w4 (EqIs true w4) by
    have h := same_any A1 A2 C1 C2 c1 c2 d1 d2 S S w4 HM7.out HM9.out (hS.out.le (by omega)) (hS.out.le (by omega)); rw [eqN_dec, decide_eq_true rfl] at h; exact h)
  go_wp2_with fail
  refine HSm.out.mono ?_
  rintro e w5 ⟨rfl, hb5⟩
  have HB5 := Lib.hid (HB4.out.trans (hb5.mono HB4.out.size))
  have n0 : w5.cell? ⟨b7, 0, none⟩ = some (.slice A1 S.1.length c1) := by rw [hb5.cell (p := ⟨b7, 0, none⟩) l7']; exact k0
  have n1 : w5.cell? ⟨b7, 1, none⟩ = some (.slice A2 S.2.length c2) := by rw [hb5.cell (p := ⟨b7, 1, none⟩) l7']; exact k1
  have HM5 := Lib.hid (HM7.out.up hb5)
  clear hb5 k0 k1 k2 k3
  have HHs := Lib.hid (show Calls Try.prog 19 #[nv A1 S.1.length c1 A2 S.2.length c2, .int .i64 x] w5 (EqIs (v && h) w5) by
    have h := has_any A1 A2 c1 c2 S x w5 HM5.out (hS.out.le (by omega)) hx.out; rw [HH.out] at h; exact h)
  have HVx := Lib.hid (fun W => (show Calls Try.prog 37 #[.int .i64 x] W (fun e w' => e = .returned (.bool v) ∧ W = w') by have h := rvalid_any x W hx.out; rw [hv.out] at h; exact h))
  go_wp2_with fail
  refine HHs.out.mono ?_
  rintro e w6 ⟨rfl, hb6⟩
  have HB6 := Lib.hid (HB5.out.trans (hb6.mono HB5.out.size))
  clear hb6 n0 n1 HHs
  go_wp2_with fail
  refine (HVx.out _).mono ?_
  rintro e w7 ⟨rfl, rfl⟩
  cases v
  · go_wp2_with fail
    refine (HAl.out _).mono ?_
    rintro e w8 ⟨rfl, hb8⟩
    have HB8 := Lib.hid (HB6.out.trans (hb8.mono HB6.out.size))
    clear hb8
    go_wp2_with fail
    refine bodyPost_ret (v := .bool true) (by simp [results, Try.results5, go_sem]) rfl ?_
    exact ⟨rfl, HB8.out⟩
  · cases h
    · go_wp2_with fail
      refine (H3.out _).mono ?_
      rintro e w8 ⟨rfl, rfl⟩
      go_wp2_with fail
      refine (HAl.out _).mono ?_
      rintro e w8 ⟨rfl, hb8⟩
      have HB8 := Lib.hid (HB6.out.trans (hb8.mono HB6.out.size))
      clear hb8
      go_wp2_with fail
      refine bodyPost_ret (v := .bool true) (by simp [results, Try.results5, go_sem]) rfl ?_
      exact ⟨rfl, HB8.out⟩
    · go_wp2_with fail
      refine (H3.out _).mono ?_
      rintro e w8 ⟨rfl, rfl⟩
      go_wp2_with fail
      refine (HAl.out _).mono ?_
      rintro e w8 ⟨rfl, hb8⟩
      have HB8 := Lib.hid (HB6.out.trans (hb8.mono HB6.out.size))
      clear hb8
      go_wp2_with fail
      refine bodyPost_ret (v := .bool true) (by simp [results, Try.results5, go_sem]) rfl ?_
      exact ⟨rfl, HB8.out⟩
theorem bounds_law (op : ByteArray) (u x : Int) (w : World) (HAl : Hid (∀ W, Calls Try.prog 13 #[] W (EqIs true W))) (hu : i64ok u) (hx : i64ok x) : Calls Try.prog 5 #[.string op, .int .i64 u, .int .i64 x] w (EqIs true w) := by
  by_cases k1 : op.toList = [60]
  · have f1 : (op.toList == [60]) = true := by rw [k1]; decide
    have f2 : (op.toList == [60, 61]) = false := by rw [k1]; decide
    have f3 : (op.toList == [62]) = false := by rw [k1]; decide
    have f4 : (op.toList == [62, 61]) = false := by rw [k1]; decide
    have f5 : (op.toList == [61, 61]) = false := by rw [k1]; decide
    have f6 : (op.toList == [33, 61]) = false := by rw [k1]; decide
    cases hv : vld u
    · exact bounds_e1 op u x w _ (Lib.hid (ok_nil 2)) (Lib.hid fun W => bound_no1 op u W f1 f2 f3 f4 f5 f6 hu hv) (Lib.hid fun W => rbound_no1 op u W f1 f2 f3 f4 f5 f6 hu hv) HAl
    · exact bounds_ok op u x w _ _ _ (Lib.hid (setB_ok 1 u hv)) (Lib.hid fun W => bound_1 op u W f1 f2 f3 f4 f5 f6 hv) (Lib.hid fun W => rbound_1 op u W f1 f2 f3 f4 f5 f6 hv) (Lib.hid fun W => holds_1 op x u W f1 f2 f3 f4 f5 f6) (Lib.hid (has_setB 1 (by omega) u x)) (Lib.hid rfl) (Lib.hid hx) HAl
  by_cases k2 : op.toList = [60, 61]
  · have f1 : (op.toList == [60]) = false := by rw [k2]; decide
    have f2 : (op.toList == [60, 61]) = true := by rw [k2]; decide
    have f3 : (op.toList == [62]) = false := by rw [k2]; decide
    have f4 : (op.toList == [62, 61]) = false := by rw [k2]; decide
    have f5 : (op.toList == [61, 61]) = false := by rw [k2]; decide
    have f6 : (op.toList == [33, 61]) = false := by rw [k2]; decide
    cases hv : vld u
    · exact bounds_e1 op u x w _ (Lib.hid (ok_nil 2)) (Lib.hid fun W => bound_no2 op u W f1 f2 f3 f4 f5 f6 hu hv) (Lib.hid fun W => rbound_no2 op u W f1 f2 f3 f4 f5 f6 hu hv) HAl
    · exact bounds_ok op u x w _ _ _ (Lib.hid (setB_ok 2 u hv)) (Lib.hid fun W => bound_2 op u W f1 f2 f3 f4 f5 f6 hv) (Lib.hid fun W => rbound_2 op u W f1 f2 f3 f4 f5 f6 hv) (Lib.hid fun W => holds_2 op x u W f1 f2 f3 f4 f5 f6) (Lib.hid (has_setB 2 (by omega) u x)) (Lib.hid rfl) (Lib.hid hx) HAl
  by_cases k3 : op.toList = [62]
  · have f1 : (op.toList == [60]) = false := by rw [k3]; decide
    have f2 : (op.toList == [60, 61]) = false := by rw [k3]; decide
    have f3 : (op.toList == [62]) = true := by rw [k3]; decide
    have f4 : (op.toList == [62, 61]) = false := by rw [k3]; decide
    have f5 : (op.toList == [61, 61]) = false := by rw [k3]; decide
    have f6 : (op.toList == [33, 61]) = false := by rw [k3]; decide
    cases hv : vld u
    · exact bounds_e1 op u x w _ (Lib.hid (ok_nil 2)) (Lib.hid fun W => bound_no3 op u W f1 f2 f3 f4 f5 f6 hu hv) (Lib.hid fun W => rbound_no3 op u W f1 f2 f3 f4 f5 f6 hu hv) HAl
    · exact bounds_ok op u x w _ _ _ (Lib.hid (setB_ok 3 u hv)) (Lib.hid fun W => bound_3 op u W f1 f2 f3 f4 f5 f6 hv) (Lib.hid fun W => rbound_3 op u W f1 f2 f3 f4 f5 f6 hv) (Lib.hid fun W => holds_3 op x u W f1 f2 f3 f4 f5 f6) (Lib.hid (has_setB 3 (by omega) u x)) (Lib.hid rfl) (Lib.hid hx) HAl
  by_cases k4 : op.toList = [62, 61]
  · have f1 : (op.toList == [60]) = false := by rw [k4]; decide
    have f2 : (op.toList == [60, 61]) = false := by rw [k4]; decide
    have f3 : (op.toList == [62]) = false := by rw [k4]; decide
    have f4 : (op.toList == [62, 61]) = true := by rw [k4]; decide
    have f5 : (op.toList == [61, 61]) = false := by rw [k4]; decide
    have f6 : (op.toList == [33, 61]) = false := by rw [k4]; decide
    cases hv : vld u
    · exact bounds_e1 op u x w _ (Lib.hid (ok_nil 2)) (Lib.hid fun W => bound_no4 op u W f1 f2 f3 f4 f5 f6 hu hv) (Lib.hid fun W => rbound_no4 op u W f1 f2 f3 f4 f5 f6 hu hv) HAl
    · exact bounds_ok op u x w _ _ _ (Lib.hid (setB_ok 4 u hv)) (Lib.hid fun W => bound_4 op u W f1 f2 f3 f4 f5 f6 hv) (Lib.hid fun W => rbound_4 op u W f1 f2 f3 f4 f5 f6 hv) (Lib.hid fun W => holds_4 op x u W f1 f2 f3 f4 f5 f6) (Lib.hid (has_setB 4 (by omega) u x)) (Lib.hid rfl) (Lib.hid hx) HAl
  by_cases k5 : op.toList = [61, 61]
  · have f1 : (op.toList == [60]) = false := by rw [k5]; decide
    have f2 : (op.toList == [60, 61]) = false := by rw [k5]; decide
    have f3 : (op.toList == [62]) = false := by rw [k5]; decide
    have f4 : (op.toList == [62, 61]) = false := by rw [k5]; decide
    have f5 : (op.toList == [61, 61]) = true := by rw [k5]; decide
    have f6 : (op.toList == [33, 61]) = false := by rw [k5]; decide
    cases hv : vld u
    · exact bounds_e1 op u x w _ (Lib.hid (ok_nil 2)) (Lib.hid fun W => bound_no5 op u W f1 f2 f3 f4 f5 f6 hu hv) (Lib.hid fun W => rbound_no5 op u W f1 f2 f3 f4 f5 f6 hu hv) HAl
    · exact bounds_ok op u x w _ _ _ (Lib.hid (setB_ok 5 u hv)) (Lib.hid fun W => bound_5 op u W f1 f2 f3 f4 f5 f6 hv) (Lib.hid fun W => rbound_5 op u W f1 f2 f3 f4 f5 f6 hv) (Lib.hid fun W => holds_5 op x u W f1 f2 f3 f4 f5 f6) (Lib.hid (has_setB 5 (by omega) u x)) (Lib.hid rfl) (Lib.hid hx) HAl
  by_cases k6 : op.toList = [33, 61]
  · have f1 : (op.toList == [60]) = false := by rw [k6]; decide
    have f2 : (op.toList == [60, 61]) = false := by rw [k6]; decide
    have f3 : (op.toList == [62]) = false := by rw [k6]; decide
    have f4 : (op.toList == [62, 61]) = false := by rw [k6]; decide
    have f5 : (op.toList == [61, 61]) = false := by rw [k6]; decide
    have f6 : (op.toList == [33, 61]) = true := by rw [k6]; decide
    cases hv : vld u
    · exact bounds_e1 op u x w _ (Lib.hid (ok_nil 2)) (Lib.hid fun W => bound_no6 op u W f1 f2 f3 f4 f5 f6 hu hv) (Lib.hid fun W => rbound_no6 op u W f1 f2 f3 f4 f5 f6 hu hv) HAl
    · exact bounds_ok op u x w _ _ _ (Lib.hid (setB_ok 6 u hv)) (Lib.hid fun W => bound_6 op u W f1 f2 f3 f4 f5 f6 hv) (Lib.hid fun W => rbound_6 op u W f1 f2 f3 f4 f5 f6 hv) (Lib.hid fun W => holds_6 op x u W f1 f2 f3 f4 f5 f6) (Lib.hid (has_setB 6 (by omega) u x)) (Lib.hid rfl) (Lib.hid hx) HAl
  have nb : ∀ (l : List UInt8), op.toList ≠ l → (op.toList == l) = false := fun l h => beq_eq_false_iff_ne.2 h
  exact bounds_e8 op u x w _ (Lib.hid (ok_nil 2)) (Lib.hid fun W => bound_0 op u W (nb _ k1) (nb _ k2) (nb _ k3) (nb _ k4) (nb _ k5) (nb _ k6)) (Lib.hid fun W => rbound_0 op u W (nb _ k1) (nb _ k2) (nb _ k3) (nb _ k4) (nb _ k5) (nb _ k6)) HAl
end Go.Proofs.Yteekccjfokoglaa
