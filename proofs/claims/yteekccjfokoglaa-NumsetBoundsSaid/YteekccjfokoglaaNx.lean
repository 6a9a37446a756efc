/-
  Bound of the program and of the specification, holds. Condition: 64-bit integers.
-/
import Derived.Test.YteekccjfokoglaaNv
import Derived.Test.YteekccjfokoglaaM9
namespace Go.Proofs.Yteekccjfokoglaa
open Go.RowKit Go.Sort Go.Lib Go.Proofs
set_option linter.unusedSimpArgs false
set_option linter.unnecessarySimpa false
set_option linter.unusedVariables false
theorem between_none (lo hi : Int) (w : World) (h : hi < lo) : Calls Try.prog 67 #[.int .i64 lo, .int .i64 hi] w (GivesN ([], []) w) := by
  have g1 : decide (hi < lo) = true := decide_eq_true h
  clear h
  go_enter Try.func67, Try.ntmps67
  go_wp2
  refine bodyPost_ret (v := nv none 0 0 none 0 0) (by simp [results, Try.results67, go_sem]) rfl ?_
  exact ⟨none, 0, none, 0, rfl, ⟨ns_nil _, hi_nil _, hi_nil _⟩, bal w _⟩
theorem bs_any (lo hi : Int) (w : World) (h1 : -1000000000000000 ≤ lo) (h3 : hi ≤ 1000000000000000) : Calls Try.prog 67 #[.int .i64 lo, .int .i64 hi] w (GivesN (bS lo hi) w) := by
  unfold bS
  by_cases h : lo ≤ hi
  · rw [if_pos h]; exact between_any lo hi w h1 h h3
  · rw [if_neg h]; exact between_none lo hi w (by omega)
theorem bS_ok (lo hi : Int) (h1 : -1000000000000001 ≤ lo ∧ lo ≤ 1000000000000001) (h3 : -1000000000000001 ≤ hi ∧ hi ≤ 1000000000000001) : okN 1 (bS lo hi) := by
  unfold bS
  split
  · unfold btw
    exact mk_ok ⟨by simp, by simp, fun x hx => by simp at hx; subst hx; unfold i64ok; simp; omega, fun x hx => by simp at hx; subst hx; unfold i64ok; simp; omega⟩
  · exact ⟨by simp, by simp, by simp, by simp⟩
theorem setB_ok (k : Nat) (u : Int) (h : vld u = true) : okN 2 (setB k u) := by
  have := (vld_iff u).1 h
  unfold setB
  split <;> first | exact (bS_ok _ _ (by omega) (by omega)).le (by omega) | exact nt_ok (bS_ok _ _ (by omega) (by omega))
theorem holds_1 (op : ByteArray) (x u : Int) (w : World) (f1 : (op.toList == [60]) = true) (f2 : (op.toList == [60, 61]) = false) (f3 : (op.toList == [62]) = false) (f4 : (op.toList == [62, 61]) = false) (f5 : (op.toList == [61, 61]) = false) (f6 : (op.toList == [33, 61]) = false) : Calls Try.prog 38 #[.string op, .int .i64 x, .int .i64 u] w fun e w' => e = .returned (.bool (holB 1 x u)) ∧ w = w' := by
  by_cases h : x < u
  · have HE := Lib.hid (show holB 1 x u = true by simp [holB, h])
    have g1 : decide (x < u) = true := decide_eq_true h
    clear h
    go_enter Try.func38, Try.ntmps38
    go_wp2
    go_ret
    exact ⟨ret_bool HE.out.symm, rfl⟩
  · have HE := Lib.hid (show holB 1 x u = false by simp [holB, h] <;> omega)
    have g1 : decide (x < u) = false := decide_eq_false h
    clear h
    go_enter Try.func38, Try.ntmps38
    go_wp2
    go_ret
    exact ⟨ret_bool HE.out.symm, rfl⟩
theorem holds_2 (op : ByteArray) (x u : Int) (w : World) (f1 : (op.toList == [60]) = false) (f2 : (op.toList == [60, 61]) = true) (f3 : (op.toList == [62]) = false) (f4 : (op.toList == [62, 61]) = false) (f5 : (op.toList == [61, 61]) = false) (f6 : (op.toList == [33, 61]) = false) : Calls Try.prog 38 #[.string op, .int .i64 x, .int .i64 u] w fun e w' => e = .returned (.bool (holB 2 x u)) ∧ w = w' := by
  by_cases h : x ≤ u
  · have HE := Lib.hid (show holB 2 x u = true by simp [holB, h])
    have g1 : decide (x ≤ u) = true := decide_eq_true h
    clear h
    go_enter Try.func38, Try.ntmps38
    go_wp2
    go_ret
    exact ⟨ret_bool HE.out.symm, rfl⟩
  · have HE := Lib.hid (show holB 2 x u = false by simp [holB, h] <;> omega)
    have g1 : decide (x ≤ u) = false := decide_eq_false h
    clear h
    go_enter Try.func38, Try.ntmps38
    go_wp2
    go_ret
    exact ⟨ret_bool HE.out.symm, rfl⟩
theorem holds_3 (op : ByteArray) (x u : Int) (w : World) (f1 : (op.toList == [60]) = false) (f2 : (op.toList == [60, 61]) = false) (f3 : (op.toList == [62]) = true) (f4 : (op.toList == [62, 61]) = false) (f5 : (op.toList == [61, 61]) = false) (f6 : (op.toList == [33, 61]) = false) : Calls Try.prog 38 #[.string op, .int .i64 x, .int .i64 u] w fun e w' => e = .returned (.bool (holB 3 x u)) ∧ w = w' := by
  by_cases h : u < x
  · have HE := Lib.hid (show holB 3 x u = true by simp [holB, h])
    have g1 : decide (u < x) = true := decide_eq_true h
    clear h
    go_enter Try.func38, Try.ntmps38
    go_wp2
    go_ret
    exact ⟨ret_bool HE.out.symm, rfl⟩
  · have HE := Lib.hid (show holB 3 x u = false by simp [holB, h] <;> omega)
    have g1 : decide (u < x) = false := decide_eq_false h
    clear h
    go_enter Try.func38, Try.ntmps38
    go_wp2
    go_ret
    exact ⟨ret_bool HE.out.symm, rfl⟩
theorem holds_4 (op : ByteArray) (x u : Int) (w : World) (f1 : (op.toList == [60]) = false) (f2 : (op.toList == [60, 61]) = false) (f3 : (op.toList == [62]) = false) (f4 : (op.toList == [62, 61]) = true) (f5 : (op.toList == [61, 61]) = false) (f6 : (op.toList == [33, 61]) = false) : Calls Try.prog 38 #[.string op, .int .i64 x, .int .i64 u] w fun e w' => e = .returned (.bool (holB 4 x u)) ∧ w = w' := by
  by_cases h : u ≤ x
  · have HE := Lib.hid (show holB 4 x u = true by simp [holB, h])
    have g1 : decide (u ≤ x) = true := decide_eq_true h
    clear h
    go_enter Try.func38, Try.ntmps38
    go_wp2
    go_ret
    exact ⟨ret_bool HE.out.symm, rfl⟩
  · have HE := Lib.hid (show holB 4 x u = false by simp [holB, h] <;> omega)
    have g1 : decide (u ≤ x) = false := decide_eq_false h
    clear h
    go_enter Try.func38, Try.ntmps38
    go_wp2
    go_ret
    exact ⟨ret_bool HE.out.symm, rfl⟩
theorem holds_5 (op : ByteArray) (x u : Int) (w : World) (f1 : (op.toList == [60]) = false) (f2 : (op.toList == [60, 61]) = false) (f3 : (op.toList == [62]) = false) (f4 : (op.toList == [62, 61]) = false) (f5 : (op.toList == [61, 61]) = true) (f6 : (op.toList == [33, 61]) = false) : Calls Try.prog 38 #[.string op, .int .i64 x, .int .i64 u] w fun e w' => e = .returned (.bool (holB 5 x u)) ∧ w = w' := by
  by_cases h : x = u
  · have HE := Lib.hid (show holB 5 x u = true by simp [holB, h])
    have g1 : (x == u) = true := beq_iff_eq.2 h
    clear h
    go_enter Try.func38, Try.ntmps38
    go_wp2
    go_ret
    exact ⟨ret_bool HE.out.symm, rfl⟩
  · have HE := Lib.hid (show holB 5 x u = false by simp [holB, h] <;> omega)
    have g1 : (x == u) = false := beq_eq_false_iff_ne.2 h
    clear h
    go_enter Try.func38, Try.ntmps38
    go_wp2
    go_ret
    exact ⟨ret_bool HE.out.symm, rfl⟩
theorem holds_6 (op : ByteArray) (x u : Int) (w : World) (f1 : (op.toList == [60]) = false) (f2 : (op.toList == [60, 61]) = false) (f3 : (op.toList == [62]) = false) (f4 : (op.toList == [62, 61]) = false) (f5 : (op.toList == [61, 61]) = false) (f6 : (op.toList == [33, 61]) = true) : Calls Try.prog 38 #[.string op, .int .i64 x, .int .i64 u] w fun e w' => e = .returned (.bool (holB 6 x u)) ∧ w = w' := by
  by_cases h : x = u
  · have HE := Lib.hid (show holB 6 x u = false by simp [holB, h])
    have g1 : (x != u) = false := by simp [h]
    clear h
    go_enter Try.func38, Try.ntmps38
    go_wp2
    go_ret
    exact ⟨ret_bool HE.out.symm, rfl⟩
  · have HE := Lib.hid (show holB 6 x u = true by simp [holB, h] <;> omega)
    have g1 : (x != u) = true := by simp [h]
    clear h
    go_enter Try.func38, Try.ntmps38
    go_wp2
    go_ret
    exact ⟨ret_bool HE.out.symm, rfl⟩
theorem bound_0 (op : ByteArray) (u : Int) (w : World) (f1 : (op.toList == [60]) = false) (f2 : (op.toList == [60, 61]) = false) (f3 : (op.toList == [62]) = false) (f4 : (op.toList == [62, 61]) = false) (f5 : (op.toList == [61, 61]) = false) (f6 : (op.toList == [33, 61]) = false) : Calls Try.prog 35 #[.string op, .int .i64 u] w (BoundIs ([], []) 8 w) := by
  go_enter Try.func35, Try.ntmps35
  go_wp2
  refine bodyPost_ret (v := .tuple #[nv none 0 0 none 0 0, .int .i64 8]) (by simp [results, Try.results35, go_sem]) rfl ?_
  exact ⟨none, 0, none, 0, rfl, ⟨ns_nil _, hi_nil _, hi_nil _⟩, bal w _⟩
theorem bound_no1 (op : ByteArray) (u : Int) (w : World) (f1 : (op.toList == [60]) = true) (f2 : (op.toList == [60, 61]) = false) (f3 : (op.toList == [62]) = false) (f4 : (op.toList == [62, 61]) = false) (f5 : (op.toList == [61, 61]) = false) (f6 : (op.toList == [33, 61]) = false) (hi : i64ok u) (hu : vld u = false) : Calls Try.prog 35 #[.string op, .int .i64 u] w (BoundIs ([], []) 1 w) := by
  have HV := Lib.hid (fun W => vb (x := u) (r := false) hi hu W)
  clear hi hu
  go_enter Try.func35, Try.ntmps35
  go_wp2_with (go_at_call 58; with_reducible refine (HV.out _).mono ?_; rintro e w' ⟨rfl, rfl⟩)
  refine bodyPost_ret (v := .tuple #[nv none 0 0 none 0 0, .int .i64 1]) (by simp [results, Try.results35, go_sem]) rfl ?_
  exact ⟨none, 0, none, 0, rfl, ⟨ns_nil _, hi_nil _, hi_nil _⟩, bal w _⟩
theorem bound_no2 (op : ByteArray) (u : Int) (w : World) (f1 : (op.toList == [60]) = false) (f2 : (op.toList == [60, 61]) = true) (f3 : (op.toList == [62]) = false) (f4 : (op.toList == [62, 61]) = false) (f5 : (op.toList == [61, 61]) = false) (f6 : (op.toList == [33, 61]) = false) (hi : i64ok u) (hu : vld u = false) : Calls Try.prog 35 #[.string op, .int .i64 u] w (BoundIs ([], []) 1 w) := by
  have HV := Lib.hid (fun W => vb (x := u) (r := false) hi hu W)
  clear hi hu
  go_enter Try.func35, Try.ntmps35
  go_wp2_with (go_at_call 58; with_reducible refine (HV.out _).mono ?_; rintro e w' ⟨rfl, rfl⟩)
  refine bodyPost_ret (v := .tuple #[nv none 0 0 none 0 0, .int .i64 1]) (by simp [results, Try.results35, go_sem]) rfl ?_
  exact ⟨none, 0, none, 0, rfl, ⟨ns_nil _, hi_nil _, hi_nil _⟩, bal w _⟩
theorem bound_no3 (op : ByteArray) (u : Int) (w : World) (f1 : (op.toList == [60]) = false) (f2 : (op.toList == [60, 61]) = false) (f3 : (op.toList == [62]) = true) (f4 : (op.toList == [62, 61]) = false) (f5 : (op.toList == [61, 61]) = false) (f6 : (op.toList == [33, 61]) = false) (hi : i64ok u) (hu : vld u = false) : Calls Try.prog 35 #[.string op, .int .i64 u] w (BoundIs ([], []) 1 w) := by
  have HV := Lib.hid (fun W => vb (x := u) (r := false) hi hu W)
  clear hi hu
  go_enter Try.func35, Try.ntmps35
  go_wp2_with (go_at_call 58; with_reducible refine (HV.out _).mono ?_; rintro e w' ⟨rfl, rfl⟩)
  refine bodyPost_ret (v := .tuple #[nv none 0 0 none 0 0, .int .i64 1]) (by simp [results, Try.results35, go_sem]) rfl ?_
  exact ⟨none, 0, none, 0, rfl, ⟨ns_nil _, hi_nil _, hi_nil _⟩, bal w _⟩
theorem bound_no4 (op : ByteArray) (u : Int) (w : World) (f1 : (op.toList == [60]) = false) (f2 : (op.toList == [60, 61]) = false) (f3 : (op.toList == [62]) = false) (f4 : (op.toList == [62, 61]) = true) (f5 : (op.toList == [61, 61]) = false) (f6 : (op.toList == [33, 61]) = false) (hi : i64ok u) (hu : vld u = false) : Calls Try.prog 35 #[.string op, .int .i64 u] w (BoundIs ([], []) 1 w) := by
  have HV := Lib.hid (fun W => vb (x := u) (r := false) hi hu W)
  clear hi hu
  go_enter Try.func35, Try.ntmps35
  go_wp2_with (go_at_call 58; with_reducible refine (HV.out _).mono ?_; rintro e w' ⟨rfl, rfl⟩)
  refine bodyPost_ret (v := .tuple #[nv none 0 0 none 0 0, .int .i64 1]) (by simp [results, Try.results35, go_sem]) rfl ?_
  exact ⟨none, 0, none, 0, rfl, ⟨ns_nil _, hi_nil _, hi_nil _⟩, bal w _⟩
theorem bound_no5 (op : ByteArray) (u : Int) (w : World) (f1 : (op.toList == [60]) = false) (f2 : (op.toList == [60, 61]) = false) (f3 : (op.toList == [62]) = false) (f4 : (op.toList == [62, 61]) = false) (f5 : (op.toList == [61, 61]) = true) (f6 : (op.toList == [33, 61]) = false) (hi : i64ok u) (hu : vld u = false) : Calls Try.prog 35 #[.string op, .int .i64 u] w (BoundIs ([], []) 1 w) := by
  have HV := Lib.hid (fun W => vb (x := u) (r := false) hi hu W)
  clear hi hu
  go_enter Try.func35, Try.ntmps35
  go_wp2_with (go_at_call 58; with_reducible refine (HV.out _).mono ?_; rintro e w' ⟨rfl, rfl⟩)
  refine bodyPost_ret (v := .tuple #[nv none 0 0 none 0 0, .int .i64 1]) (by simp [results, Try.results35, go_sem]) rfl ?_
  exact ⟨none, 0, none, 0, rfl, ⟨ns_nil _, hi_nil _, hi_nil _⟩, bal w _⟩
theorem bound_no6 (op : ByteArray) (u : Int) (w : World) (f1 : (op.toList == [60]) = false) (f2 : (op.toList == [60, 61]) = false) (f3 : (op.toList == [62]) = false) (f4 : (op.toList == [62, 61]) = false) (f5 : (op.toList == [61, 61]) = false) (f6 : (op.toList == [33, 61]) = true) (hi : i64ok u) (hu : vld u = false) : Calls Try.prog 35 #[.string op, .int .i64 u] w (BoundIs ([], []) 1 w) := by
  have HV := Lib.hid (fun W => vb (x := u) (r := false) hi hu W)
  clear hi hu
  go_enter Try.func35, Try.ntmps35
  go_wp2_with (go_at_call 58; with_reducible refine (HV.out _).mono ?_; rintro e w' ⟨rfl, rfl⟩)
  refine bodyPost_ret (v := .tuple #[nv none 0 0 none 0 0, .int .i64 1]) (by simp [results, Try.results35, go_sem]) rfl ?_
  exact ⟨none, 0, none, 0, rfl, ⟨ns_nil _, hi_nil _, hi_nil _⟩, bal w _⟩
theorem rbound_0 (op : ByteArray) (u : Int) (w : World) (f1 : (op.toList == [60]) = false) (f2 : (op.toList == [60, 61]) = false) (f3 : (op.toList == [62]) = false) (f4 : (op.toList == [62, 61]) = false) (f5 : (op.toList == [61, 61]) = false) (f6 : (op.toList == [33, 61]) = false) : Calls Try.prog 36 #[.string op, .int .i64 u] w (BoundIs ([], []) 8 w) := by
  go_enter Try.func36, Try.ntmps36
  go_wp2
  refine bodyPost_ret (v := .tuple #[nv none 0 0 none 0 0, .int .i64 8]) (by simp [results, Try.results36, go_sem]) rfl ?_
  exact ⟨none, 0, none, 0, rfl, ⟨ns_nil _, hi_nil _, hi_nil _⟩, bal w _⟩
theorem rbound_no1 (op : ByteArray) (u : Int) (w : World) (f1 : (op.toList == [60]) = true) (f2 : (op.toList == [60, 61]) = false) (f3 : (op.toList == [62]) = false) (f4 : (op.toList == [62, 61]) = false) (f5 : (op.toList == [61, 61]) = false) (f6 : (op.toList == [33, 61]) = false) (hi : i64ok u) (hu : vld u = false) : Calls Try.prog 36 #[.string op, .int .i64 u] w (BoundIs ([], []) 1 w) := by
  have HV := Lib.hid (fun W => (by have h := rvalid_any u W hi; rw [hu] at h; exact h : Calls Try.prog 37 #[.int .i64 u] W fun e w' => e = .returned (.bool false) ∧ W = w'))
  clear hi hu
  go_enter Try.func36, Try.ntmps36
  go_wp2_with (go_at_call 37; with_reducible refine (HV.out _).mono ?_; rintro e w' ⟨rfl, rfl⟩)
  refine bodyPost_ret (v := .tuple #[nv none 0 0 none 0 0, .int .i64 1]) (by simp [results, Try.results36, go_sem]) rfl ?_
  exact ⟨none, 0, none, 0, rfl, ⟨ns_nil _, hi_nil _, hi_nil _⟩, bal w _⟩
theorem rbound_no2 (op : ByteArray) (u : Int) (w : World) (f1 : (op.toList == [60]) = false) (f2 : (op.toList == [60, 61]) = true) (f3 : (op.toList == [62]) = false) (f4 : (op.toList == [62, 61]) = false) (f5 : (op.toList == [61, 61]) = false) (f6 : (op.toList == [33, 61]) = false) (hi : i64ok u) (hu : vld u = false) : Calls Try.prog 36 #[.string op, .int .i64 u] w (BoundIs ([], []) 1 w) := by
  have HV := Lib.hid (fun W => (by have h := rvalid_any u W hi; rw [hu] at h; exact h : Calls Try.prog 37 #[.int .i64 u] W fun e w' => e = .returned (.bool false) ∧ W = w'))
  clear hi hu
  go_enter Try.func36, Try.ntmps36
  go_wp2_with (go_at_call 37; with_reducible refine (HV.out _).mono ?_; rintro e w' ⟨rfl, rfl⟩)
  refine bodyPost_ret (v := .tuple #[nv none 0 0 none 0 0, .int .i64 1]) (by simp [results, Try.results36, go_sem]) rfl ?_
  exact ⟨none, 0, none, 0, rfl, ⟨ns_nil _, hi_nil _, hi_nil _⟩, bal w _⟩
theorem rbound_no3 (op : ByteArray) (u : Int) (w : World) (f1 : (op.toList == [60]) = false) (f2 : (op.toList == [60, 61]) = false) (f3 : (op.toList == [62]) = true) (f4 : (op.toList == [62, 61]) = false) (f5 : (op.toList == [61, 61]) = false) (f6 : (op.toList == [33, 61]) = false) (hi : i64ok u) (hu : vld u = false) : Calls Try.prog 36 #[.string op, .int .i64 u] w (BoundIs ([], []) 1 w) := by
  have HV := Lib.hid (fun W => (by have h := rvalid_any u W hi; rw [hu] at h; exact h : Calls Try.prog 37 #[.int .i64 u] W fun e w' => e = .returned (.bool false) ∧ W = w'))
  clear hi hu
  go_enter Try.func36, Try.ntmps36
  go_wp2_with (go_at_call 37; with_reducible refine (HV.out _).mono ?_; rintro e w' ⟨rfl, rfl⟩)
  refine bodyPost_ret (v := .tuple #[nv none 0 0 none 0 0, .int .i64 1]) (by simp [results, Try.results36, go_sem]) rfl ?_
  exact ⟨none, 0, none, 0, rfl, ⟨ns_nil _, hi_nil _, hi_nil _⟩, bal w _⟩
theorem rbound_no4 (op : ByteArray) (u : Int) (w : World) (f1 : (op.toList == [60]) = false) (f2 : (op.toList == [60, 61]) = false) (f3 : (op.toList == [62]) = false) (f4 : (op.toList == [62, 61]) = true) (f5 : (op.toList == [61, 61]) = false) (f6 : (op.toList == [33, 61]) = false) (hi : i64ok u) (hu : vld u = false) : Calls Try.prog 36 #[.string op, .int .i64 u] w (BoundIs ([], []) 1 w) := by
  have HV := Lib.hid (fun W => (by have h := rvalid_any u W hi; rw [hu] at h; exact h : Calls Try.prog 37 #[.int .i64 u] W fun e w' => e = .returned (.bool false) ∧ W = w'))
  clear hi hu
  go_enter Try.func36, Try.ntmps36
  go_wp2_with (go_at_call 37; with_reducible refine (HV.out _).mono ?_; rintro e w' ⟨rfl, rfl⟩)
  refine bodyPost_ret (v := .tuple #[nv none 0 0 none 0 0, .int .i64 1]) (by simp [results, Try.results36, go_sem]) rfl ?_
  exact ⟨none, 0, none, 0, rfl, ⟨ns_nil _, hi_nil _, hi_nil _⟩, bal w _⟩
theorem rbound_no5 (op : ByteArray) (u : Int) (w : World) (f1 : (op.toList == [60]) = false) (f2 : (op.toList == [60, 61]) = false) (f3 : (op.toList == [62]) = false) (f4 : (op.toList == [62, 61]) = false) (f5 : (op.toList == [61, 61]) = true) (f6 : (op.toList == [33, 61]) = false) (hi : i64ok u) (hu : vld u = false) : Calls Try.prog 36 #[.string op, .int .i64 u] w (BoundIs ([], []) 1 w) := by
  have HV := Lib.hid (fun W => (by have h := rvalid_any u W hi; rw [hu] at h; exact h : Calls Try.prog 37 #[.int .i64 u] W fun e w' => e = .returned (.bool false) ∧ W = w'))
  clear hi hu
  go_enter Try.func36, Try.ntmps36
  go_wp2_with (go_at_call 37; with_reducible refine (HV.out _).mono ?_; rintro e w' ⟨rfl, rfl⟩)
  refine bodyPost_ret (v := .tuple #[nv none 0 0 none 0 0, .int .i64 1]) (by simp [results, Try.results36, go_sem]) rfl ?_
  exact ⟨none, 0, none, 0, rfl, ⟨ns_nil _, hi_nil _, hi_nil _⟩, bal w _⟩
theorem rbound_no6 (op : ByteArray) (u : Int) (w : World) (f1 : (op.toList == [60]) = false) (f2 : (op.toList == [60, 61]) = false) (f3 : (op.toList == [62]) = false) (f4 : (op.toList == [62, 61]) = false) (f5 : (op.toList == [61, 61]) = false) (f6 : (op.toList == [33, 61]) = true) (hi : i64ok u) (hu : vld u = false) : Calls Try.prog 36 #[.string op, .int .i64 u] w (BoundIs ([], []) 1 w) := by
  have HV := Lib.hid (fun W => (by have h := rvalid_any u W hi; rw [hu] at h; exact h : Calls Try.prog 37 #[.int .i64 u] W fun e w' => e = .returned (.bool false) ∧ W = w'))
  clear hi hu
  go_enter Try.func36, Try.ntmps36
  go_wp2_with (go_at_call 37; with_reducible refine (HV.out _).mono ?_; rintro e w' ⟨rfl, rfl⟩)
  refine bodyPost_ret (v := .tuple #[nv none 0 0 none 0 0, .int .i64 1]) (by simp [results, Try.results36, go_sem]) rfl ?_
  exact ⟨none, 0, none, 0, rfl, ⟨ns_nil _, hi_nil _, hi_nil _⟩, bal w _⟩
set_option maxHeartbeats 1000000 in
theorem bound_1 (op : ByteArray) (u : Int) (w : World) (f1 : (op.toList == [60]) = true) (f2 : (op.toList == [60, 61]) = false) (f3 : (op.toList == [62]) = false) (f4 : (op.toList == [62, 61]) = false) (f5 : (op.toList == [61, 61]) = false) (f6 : (op.toList == [33, 61]) = false) (hu : vld u = true) : Calls Try.prog 35 #[.string op, .int .i64 u] w (BoundIs (setB 1 u) 0 w) := by
  have hr := (vld_iff u).1 hu
  have HV := Lib.hid (fun W => vb (x := u) (r := true) (by unfold i64ok; omega) hu W)
  have HB := Lib.hid (show ∀ W : World, Calls Try.prog 67 #[.int .i64 (-1000000000000000), .int .i64 (u - 1)] W (GivesN (setB 1 u) W) from fun W => bs_any (-1000000000000000) (u - 1) W (by omega) (by omega))
  have uw1 : IntKind.i64.wrap (u - 1) = u - 1 := IntWalk.i64_in _ (by omega)
  have uw2 : IntKind.i64.wrap (u + 1) = u + 1 := IntWalk.i64_in _ (by omega)
  have HY := Lib.hid (yb_new w)
  generalize setB 1 u = S at *
  clear hu hr
  go_enter Try.func35, Try.ntmps35
  go_wp2_with (go_at_call 58; with_reducible refine (HV.out _).mono ?_; rintro e w' ⟨rfl, rfl⟩)
  refine (HB.out _).mono ?_
  rintro e w2 ⟨E1, e1, E2, e2, rfl, ⟨hns, h1, h2⟩, hb2⟩
  have hbW := bal w2 (.cells #[.slice E1 S.1.length e1, .slice E2 S.2.length e2] 24)
  have hY4 := (HY.out.up hb2).up hbW
  obtain ⟨y0, y1, f0', f1', yl⟩ := id hY4
  have i1 : Hi (w.heap.size + 1) E1 := h1.le (by simp)
  have i2 : Hi (w.heap.size + 1) E2 := h2.le (by simp)
  have hB2 := (bal w (.cells #[.slice none 0 0, .slice none 0 0] 24)).trans (hb2.mono (by simp))
  obtain ⟨⟨q0, q1⟩, hfn, hfb⟩ := fin_set hY4 (hns.up hbW) i1 i2 S.1.length S.2.length
  have HE := Lib.hid (show BoundIs S 0 w (.returned (.tuple #[nv E1 S.1.length e1 E2 S.2.length e2, .int .i64 0])) (((w2.alloc (.cells #[.slice E1 S.1.length e1, .slice E2 S.2.length e2] 24)).setCell ⟨w.heap.size, 0, none⟩ (.slice E1 S.1.length e1)).setCell ⟨w.heap.size, 1, none⟩ (.slice E2 S.2.length e2)) from
    ⟨E1, e1, E2, e2, rfl, ⟨hfn, i1.le (by omega), i2.le (by omega)⟩, (hB2.trans (hbW.mono hB2.size)).trans hfb⟩)
  have y0' : w2.cell? ⟨w.heap.size, 0, none⟩ = some (.slice none 0 0) := (HY.out.up hb2).y0
  have y1' : w2.cell? ⟨w.heap.size, 1, none⟩ = some (.slice none 0 0) := (HY.out.up hb2).y1
  have f0'' : w2.frozen? ⟨w.heap.size, 0, none⟩ = false := (HY.out.up hb2).f0
  have f1'' : w2.frozen? ⟨w.heap.size, 1, none⟩ = false := (HY.out.up hb2).f1
  clear hfn hfb i1 i2 hY4 hns h1 h2 hb2 hB2 hbW
  go_wp2_with fail
  refine bodyPost_ret (v := .tuple #[nv E1 S.1.length e1 E2 S.2.length e2, .int .i64 0]) (by simp [results, Try.results35, go_sem, q0, q1]) rfl HE.out
set_option maxHeartbeats 1000000 in
theorem bound_2 (op : ByteArray) (u : Int) (w : World) (f1 : (op.toList == [60]) = false) (f2 : (op.toList == [60, 61]) = true) (f3 : (op.toList == [62]) = false) (f4 : (op.toList == [62, 61]) = false) (f5 : (op.toList == [61, 61]) = false) (f6 : (op.toList == [33, 61]) = false) (hu : vld u = true) : Calls Try.prog 35 #[.string op, .int .i64 u] w (BoundIs (setB 2 u) 0 w) := by
  have hr := (vld_iff u).1 hu
  have HV := Lib.hid (fun W => vb (x := u) (r := true) (by unfold i64ok; omega) hu W)
  have HB := Lib.hid (show ∀ W : World, Calls Try.prog 67 #[.int .i64 (-1000000000000000), .int .i64 u] W (GivesN (setB 2 u) W) from fun W => bs_any (-1000000000000000) u W (by omega) (by omega))
  have uw1 : IntKind.i64.wrap (u - 1) = u - 1 := IntWalk.i64_in _ (by omega)
  have uw2 : IntKind.i64.wrap (u + 1) = u + 1 := IntWalk.i64_in _ (by omega)
  have HY := Lib.hid (yb_new w)
  generalize setB 2 u = S at *
  clear hu hr
  go_enter Try.func35, Try.ntmps35
  go_wp2_with (go_at_call 58; with_reducible refine (HV.out _).mono ?_; rintro e w' ⟨rfl, rfl⟩)
  refine (HB.out _).mono ?_
  rintro e w2 ⟨E1, e1, E2, e2, rfl, ⟨hns, h1, h2⟩, hb2⟩
  have hbW := bal w2 (.cells #[.slice E1 S.1.length e1, .slice E2 S.2.length e2] 24)
  have hY4 := (HY.out.up hb2).up hbW
  obtain ⟨y0, y1, f0', f1', yl⟩ := id hY4
  have i1 : Hi (w.heap.size + 1) E1 := h1.le (by simp)
  have i2 : Hi (w.heap.size + 1) E2 := h2.le (by simp)
  have hB2 := (bal w (.cells #[.slice none 0 0, .slice none 0 0] 24)).trans (hb2.mono (by simp))
  obtain ⟨⟨q0, q1⟩, hfn, hfb⟩ := fin_set hY4 (hns.up hbW) i1 i2 S.1.length S.2.length
  have HE := Lib.hid (show BoundIs S 0 w (.returned (.tuple #[nv E1 S.1.length e1 E2 S.2.length e2, .int .i64 0])) (((w2.alloc (.cells #[.slice E1 S.1.length e1, .slice E2 S.2.length e2] 24)).setCell ⟨w.heap.size, 0, none⟩ (.slice E1 S.1.length e1)).setCell ⟨w.heap.size, 1, none⟩ (.slice E2 S.2.length e2)) from
    ⟨E1, e1, E2, e2, rfl, ⟨hfn, i1.le (by omega), i2.le (by omega)⟩, (hB2.trans (hbW.mono hB2.size)).trans hfb⟩)
  have y0' : w2.cell? ⟨w.heap.size, 0, none⟩ = some (.slice none 0 0) := (HY.out.up hb2).y0
  have y1' : w2.cell? ⟨w.heap.size, 1, none⟩ = some (.slice none 0 0) := (HY.out.up hb2).y1
  have f0'' : w2.frozen? ⟨w.heap.size, 0, none⟩ = false := (HY.out.up hb2).f0
  have f1'' : w2.frozen? ⟨w.heap.size, 1, none⟩ = false := (HY.out.up hb2).f1
  clear hfn hfb i1 i2 hY4 hns h1 h2 hb2 hB2 hbW
  go_wp2_with fail
  refine bodyPost_ret (v := .tuple #[nv E1 S.1.length e1 E2 S.2.length e2, .int .i64 0]) (by simp [results, Try.results35, go_sem, q0, q1]) rfl HE.out
set_option maxHeartbeats 1000000 in
theorem bound_3 (op : ByteArray) (u : Int) (w : World) (f1 : (op.toList == [60]) = false) (f2 : (op.toList == [60, 61]) = false) (f3 : (op.toList == [62]) = true) (f4 : (op.toList == [62, 61]) = false) (f5 : (op.toList == [61, 61]) = false) (f6 : (op.toList == [33, 61]) = false) (hu : vld u = true) : Calls Try.prog 35 #[.string op, .int .i64 u] w (BoundIs (setB 3 u) 0 w) := by
  have hr := (vld_iff u).1 hu
  have HV := Lib.hid (fun W => vb (x := u) (r := true) (by unfold i64ok; omega) hu W)
  have HB := Lib.hid (show ∀ W : World, Calls Try.prog 67 #[.int .i64 (u + 1), .int .i64 1000000000000000] W (GivesN (setB 3 u) W) from fun W => bs_any (u + 1) 1000000000000000 W (by omega) (by omega))
  have uw1 : IntKind.i64.wrap (u - 1) = u - 1 := IntWalk.i64_in _ (by omega)
  have uw2 : IntKind.i64.wrap (u + 1) = u + 1 := IntWalk.i64_in _ (by omega)
  have HY := Lib.hid (yb_new w)
  generalize setB 3 u = S at *
  clear hu hr
  go_enter Try.func35, Try.ntmps35
  go_wp2_with (go_at_call 58; with_reducible refine (HV.out _).mono ?_; rintro e w' ⟨rfl, rfl⟩)
  refine (HB.out _).mono ?_
  rintro e w2 ⟨E1, e1, E2, e2, rfl, ⟨hns, h1, h2⟩, hb2⟩
  have hbW := bal w2 (.cells #[.slice E1 S.1.length e1, .slice E2 S.2.length e2] 24)
  have hY4 := (HY.out.up hb2).up hbW
  obtain ⟨y0, y1, f0', f1', yl⟩ := id hY4
  have i1 : Hi (w.heap.size + 1) E1 := h1.le (by simp)
  have i2 : Hi (w.heap.size + 1) E2 := h2.le (by simp)
  have hB2 := (bal w (.cells #[.slice none 0 0, .slice none 0 0] 24)).trans (hb2.mono (by simp))
  obtain ⟨⟨q0, q1⟩, hfn, hfb⟩ := fin_set hY4 (hns.up hbW) i1 i2 S.1.length S.2.length
  have HE := Lib.hid (show BoundIs S 0 w (.returned (.tuple #[nv E1 S.1.length e1 E2 S.2.length e2, .int .i64 0])) (((w2.alloc (.cells #[.slice E1 S.1.length e1, .slice E2 S.2.length e2] 24)).setCell ⟨w.heap.size, 0, none⟩ (.slice E1 S.1.length e1)).setCell ⟨w.heap.size, 1, none⟩ (.slice E2 S.2.length e2)) from
    ⟨E1, e1, E2, e2, rfl, ⟨hfn, i1.le (by omega), i2.le (by omega)⟩, (hB2.trans (hbW.mono hB2.size)).trans hfb⟩)
  have y0' : w2.cell? ⟨w.heap.size, 0, none⟩ = some (.slice none 0 0) := (HY.out.up hb2).y0
  have y1' : w2.cell? ⟨w.heap.size, 1, none⟩ = some (.slice none 0 0) := (HY.out.up hb2).y1
  have f0'' : w2.frozen? ⟨w.heap.size, 0, none⟩ = false := (HY.out.up hb2).f0
  have f1'' : w2.frozen? ⟨w.heap.size, 1, none⟩ = false := (HY.out.up hb2).f1
  clear hfn hfb i1 i2 hY4 hns h1 h2 hb2 hB2 hbW
  go_wp2_with fail
  refine bodyPost_ret (v := .tuple #[nv E1 S.1.length e1 E2 S.2.length e2, .int .i64 0]) (by simp [results, Try.results35, go_sem, q0, q1]) rfl HE.out
set_option maxHeartbeats 1000000 in
theorem bound_4 (op : ByteArray) (u : Int) (w : World) (f1 : (op.toList == [60]) = false) (f2 : (op.toList == [60, 61]) = false) (f3 : (op.toList == [62]) = false) (f4 : (op.toList == [62, 61]) = true) (f5 : (op.toList == [61, 61]) = false) (f6 : (op.toList == [33, 61]) = false) (hu : vld u = true) : Calls Try.prog 35 #[.string op, .int .i64 u] w (BoundIs (setB 4 u) 0 w) := by
  have hr := (vld_iff u).1 hu
  have HV := Lib.hid (fun W => vb (x := u) (r := true) (by unfold i64ok; omega) hu W)
  have HB := Lib.hid (show ∀ W : World, Calls Try.prog 67 #[.int .i64 u, .int .i64 1000000000000000] W (GivesN (setB 4 u) W) from fun W => bs_any u 1000000000000000 W (by omega) (by omega))
  have uw1 : IntKind.i64.wrap (u - 1) = u - 1 := IntWalk.i64_in _ (by omega)
  have uw2 : IntKind.i64.wrap (u + 1) = u + 1 := IntWalk.i64_in _ (by omega)
  have HY := Lib.hid (yb_new w)
  generalize setB 4 u = S at *
  clear hu hr
  go_enter Try.func35, Try.ntmps35
  go_wp2_with (go_at_call 58; with_reducible refine (HV.out _).mono ?_; rintro e w' ⟨rfl, rfl⟩)
  refine (HB.out _).mono ?_
  rintro e w2 ⟨E1, e1, E2, e2, rfl, ⟨hns, h1, h2⟩, hb2⟩
  have hbW := bal w2 (.cells #[.slice E1 S.1.length e1, .slice E2 S.2.length e2] 24)
  have hY4 := (HY.out.up hb2).up hbW
  obtain ⟨y0, y1, f0', f1', yl⟩ := id hY4
  have i1 : Hi (w.heap.size + 1) E1 := h1.le (by simp)
  have i2 : Hi (w.heap.size + 1) E2 := h2.le (by simp)
  have hB2 := (bal w (.cells #[.slice none 0 0, .slice none 0 0] 24)).trans (hb2.mono (by simp))
  obtain ⟨⟨q0, q1⟩, hfn, hfb⟩ := fin_set hY4 (hns.up hbW) i1 i2 S.1.length S.2.length
  have HE := Lib.hid (show BoundIs S 0 w (.returned (.tuple #[nv E1 S.1.length e1 E2 S.2.length e2, .int .i64 0])) (((w2.alloc (.cells #[.slice E1 S.1.length e1, .slice E2 S.2.length e2] 24)).setCell ⟨w.heap.size, 0, none⟩ (.slice E1 S.1.length e1)).setCell ⟨w.heap.size, 1, none⟩ (.slice E2 S.2.length e2)) from
    ⟨E1, e1, E2, e2, rfl, ⟨hfn, i1.le (by omega), i2.le (by omega)⟩, (hB2.trans (hbW.mono hB2.size)).trans hfb⟩)
  have y0' : w2.cell? ⟨w.heap.size, 0, none⟩ = some (.slice none 0 0) := (HY.out.up hb2).y0
  have y1' : w2.cell? ⟨w.heap.size, 1, none⟩ = some (.slice none 0 0) := (HY.out.up hb2).y1
  have f0'' : w2.frozen? ⟨w.heap.size, 0, none⟩ = false := (HY.out.up hb2).f0
  have f1'' : w2.frozen? ⟨w.heap.size, 1, none⟩ = false := (HY.out.up hb2).f1
  clear hfn hfb i1 i2 hY4 hns h1 h2 hb2 hB2 hbW
  go_wp2_with fail
  refine bodyPost_ret (v := .tuple #[nv E1 S.1.length e1 E2 S.2.length e2, .int .i64 0]) (by simp [results, Try.results35, go_sem, q0, q1]) rfl HE.out
set_option maxHeartbeats 1000000 in
theorem bound_5 (op : ByteArray) (u : Int) (w : World) (f1 : (op.toList == [60]) = false) (f2 : (op.toList == [60, 61]) = false) (f3 : (op.toList == [62]) = false) (f4 : (op.toList == [62, 61]) = false) (f5 : (op.toList == [61, 61]) = true) (f6 : (op.toList == [33, 61]) = false) (hu : vld u = true) : Calls Try.prog 35 #[.string op, .int .i64 u] w (BoundIs (setB 5 u) 0 w) := by
  have hr := (vld_iff u).1 hu
  have HV := Lib.hid (fun W => vb (x := u) (r := true) (by unfold i64ok; omega) hu W)
  have HB := Lib.hid (show ∀ W : World, Calls Try.prog 67 #[.int .i64 u, .int .i64 u] W (GivesN (setB 5 u) W) from fun W => bs_any u u W (by omega) (by omega))
  have uw1 : IntKind.i64.wrap (u - 1) = u - 1 := IntWalk.i64_in _ (by omega)
  have uw2 : IntKind.i64.wrap (u + 1) = u + 1 := IntWalk.i64_in _ (by omega)
  have HY := Lib.hid (yb_new w)
  generalize setB 5 u = S at *
  clear hu hr
  go_enter Try.func35, Try.ntmps35
  go_wp2_with (go_at_call 58; with_reducible refine (HV.out _).mono ?_; rintro e w' ⟨rfl, rfl⟩)
  refine (HB.out _).mono ?_
  rintro e w2 ⟨E1, e1, E2, e2, rfl, ⟨hns, h1, h2⟩, hb2⟩
  have hbW := bal w2 (.cells #[.slice E1 S.1.length e1, .slice E2 S.2.length e2] 24)
  have hY4 := (HY.out.up hb2).up hbW
  obtain ⟨y0, y1, f0', f1', yl⟩ := id hY4
  have i1 : Hi (w.heap.size + 1) E1 := h1.le (by simp)
  have i2 : Hi (w.heap.size + 1) E2 := h2.le (by simp)
  have hB2 := (bal w (.cells #[.slice none 0 0, .slice none 0 0] 24)).trans (hb2.mono (by simp))
  obtain ⟨⟨q0, q1⟩, hfn, hfb⟩ := fin_set hY4 (hns.up hbW) i1 i2 S.1.length S.2.length
  have HE := Lib.hid (show BoundIs S 0 w (.returned (.tuple #[nv E1 S.1.length e1 E2 S.2.length e2, .int .i64 0])) (((w2.alloc (.cells #[.slice E1 S.1.length e1, .slice E2 S.2.length e2] 24)).setCell ⟨w.heap.size, 0, none⟩ (.slice E1 S.1.length e1)).setCell ⟨w.heap.size, 1, none⟩ (.slice E2 S.2.length e2)) from
    ⟨E1, e1, E2, e2, rfl, ⟨hfn, i1.le (by omega), i2.le (by omega)⟩, (hB2.trans (hbW.mono hB2.size)).trans hfb⟩)
  have y0' : w2.cell? ⟨w.heap.size, 0, none⟩ = some (.slice none 0 0) := (HY.out.up hb2).y0
  have y1' : w2.cell? ⟨w.heap.size, 1, none⟩ = some (.slice none 0 0) := (HY.out.up hb2).y1
  have f0'' : w2.frozen? ⟨w.heap.size, 0, none⟩ = false := (HY.out.up hb2).f0
  have f1'' : w2.frozen? ⟨w.heap.size, 1, none⟩ = false := (HY.out.up hb2).f1
  clear hfn hfb i1 i2 hY4 hns h1 h2 hb2 hB2 hbW
  go_wp2_with fail
  refine bodyPost_ret (v := .tuple #[nv E1 S.1.length e1 E2 S.2.length e2, .int .i64 0]) (by simp [results, Try.results35, go_sem, q0, q1]) rfl HE.out
set_option maxHeartbeats 1000000 in
theorem bound_6 (op : ByteArray) (u : Int) (w : World) (f1 : (op.toList == [60]) = false) (f2 : (op.toList == [60, 61]) = false) (f3 : (op.toList == [62]) = false) (f4 : (op.toList == [62, 61]) = false) (f5 : (op.toList == [61, 61]) = false) (f6 : (op.toList == [33, 61]) = true) (hu : vld u = true) : Calls Try.prog 35 #[.string op, .int .i64 u] w (BoundIs (setB 6 u) 0 w) := by
  have hr := (vld_iff u).1 hu
  have HV := Lib.hid (fun W => vb (x := u) (r := true) (by unfold i64ok; omega) hu W)
  have HB := Lib.hid (show ∀ W : World, Calls Try.prog 67 #[.int .i64 u, .int .i64 u] W (GivesN (bS u u) W) from fun W => bs_any u u W (by omega) (by omega))
  have HN := Lib.hid (show ∀ (W : World) F1 f1 F2 f2, Ns W F1 f1 F2 f2 (bS u u) → Calls Try.prog 29 #[nv F1 (bS u u).1.length f1 F2 (bS u u).2.length f2] W (GivesN (setB 6 u) W) from fun W F1 f1 F2 f2 h => not_any F1 F2 f1 f2 (bS u u) W h ((bS_ok u u (by omega) (by omega)).le (by omega)))
  have HY := Lib.hid (yb_new w)
  generalize setB 6 u = S at *
  generalize bS u u = R at *
  clear hu hr
  go_enter Try.func35, Try.ntmps35
  go_wp2_with (go_at_call 58; with_reducible refine (HV.out _).mono ?_; rintro e w' ⟨rfl, rfl⟩)
  refine (HB.out _).mono ?_
  rintro e w2 ⟨E1, e1, E2, e2, rfl, ⟨hns, h1, h2⟩, hb2⟩
  obtain ⟨w3, hw3⟩ : ∃ w3, w3 = w2.alloc (.cells #[.slice E1 R.1.length e1, .slice E2 R.2.length e2] 24) := ⟨_, rfl⟩
  obtain ⟨b8, hb8⟩ : ∃ b8, b8 = w2.heap.size := ⟨_, rfl⟩
  have hbW : Below w2.heap.size w2 w3 := by rw [hw3]; exact bal w2 _
  have c0 : w3.cell? ⟨b8, 0, none⟩ = some (.slice E1 R.1.length e1) := by rw [hw3, hb8]; simp
  have c1 : w3.cell? ⟨b8, 1, none⟩ = some (.slice E2 R.2.length e2) := by rw [hw3, hb8]; simp
  have z0 : w3.frozen? ⟨b8, 0, none⟩ = false := by rw [hw3, hb8]; simp
  have z1 : w3.frozen? ⟨b8, 1, none⟩ = false := by rw [hw3, hb8]; simp
  have lb : b8 < w3.heap.size := by rw [hw3, hb8]; simp
  have hne : w.heap.size < b8 := by have := hb2.size; simp at this; omega
  have HNs := Lib.hid (hns.up hbW)
  have HY3 := Lib.hid ((HY.out.up hb2).up hbW)
  have HB3 := Lib.hid (((bal w (.cells #[.slice none 0 0, .slice none 0 0] 24)).trans (hb2.mono (by simp))).trans (hbW.mono (by rw [← hb8]; omega)))
  clear hns h1 h2 hb2 hbW
  go_upto_region 18 with fail
  rw [← hw3, ← hb8]
  clear hw3 hb8
  go_wp2_with fail
  refine (HN.out _ _ _ _ _ HNs.out).mono ?_
  rintro e w4 ⟨F1, g1, F2, g2, rfl, ⟨hns, h1, h2⟩, hb4⟩
  have d0 : w4.cell? ⟨b8, 0, none⟩ = some (.slice E1 R.1.length e1) := by rw [hb4.cell (p := ⟨b8, 0, none⟩) lb]; exact c0
  have d1 : w4.cell? ⟨b8, 1, none⟩ = some (.slice E2 R.2.length e2) := by rw [hb4.cell (p := ⟨b8, 1, none⟩) lb]; exact c1
  have y0 : w4.frozen? ⟨b8, 0, none⟩ = false := by rw [hb4.frozen (p := ⟨b8, 0, none⟩) lb]; exact z0
  have y1 : w4.frozen? ⟨b8, 1, none⟩ = false := by rw [hb4.frozen (p := ⟨b8, 1, none⟩) lb]; exact z1
  obtain ⟨r0, r1, hup⟩ := st_cell d0 d1 F1 S.1.length g1 F2 S.2.length g2
  have hY4 := HY3.out.up hb4
  have hbE := HB3.out.trans (hb4.mono HB3.out.size)
  obtain ⟨W5, hW5⟩ : ∃ W5, W5 = stW w4 b8 F1 S.1.length g1 F2 S.2.length g2 := ⟨_, rfl⟩
  rw [← hW5] at r0 r1 hup
  have x0 : W5.cell? ⟨w.heap.size, 0, none⟩ = some (.slice none 0 0) := by rw [hW5, st_far (by omega)]; exact hY4.y0
  have x1 : W5.cell? ⟨w.heap.size, 1, none⟩ = some (.slice none 0 0) := by rw [hW5, st_far (by omega)]; exact hY4.y1
  have v0 : W5.frozen? ⟨w.heap.size, 0, none⟩ = false := by rw [hW5]; show (World.setCell _ _ _).frozen? _ = false; rw [World.frozen?_setCell, World.frozen?_setCell]; exact hY4.f0
  have v1 : W5.frozen? ⟨w.heap.size, 1, none⟩ = false := by rw [hW5]; show (World.setCell _ _ _).frozen? _ = false; rw [World.frozen?_setCell, World.frozen?_setCell]; exact hY4.f1
  obtain ⟨q0, q1, hup2⟩ := st_cell x0 x1 F1 S.1.length g1 F2 S.2.length g2
  have hbE2 : Below w.heap.size w W5 := by rw [hW5]; exact (hbE.setCell (p := ⟨b8, 0, none⟩) (Nat.le_of_lt hne) _).setCell (p := ⟨b8, 1, none⟩) (Nat.le_of_lt hne) _
  have HE := Lib.hid (show BoundIs S 0 w (.returned (.tuple #[nv F1 S.1.length g1 F2 S.2.length g2, .int .i64 0])) (stW W5 w.heap.size F1 S.1.length g1 F2 S.2.length g2) from
    ⟨F1, g1, F2, g2, rfl, ⟨hup2 (hup hns), h1.le HB3.out.size, h2.le HB3.out.size⟩, (hbE2.setCell (p := ⟨w.heap.size, 0, none⟩) (Nat.le_refl _) _).setCell (p := ⟨w.heap.size, 1, none⟩) (Nat.le_refl _) _⟩)
  unfold stW at q0 q1 HE hW5
  clear hup hup2 hbE2 hbE hY4 hns h1 h2 hb4 c0 c1 z0 z1
  go_upto_region 20 with fail
  rw [← hW5]
  clear hW5 d0 d1 y0 y1
  go_wp2_with fail
  refine bodyPost_ret (v := .tuple #[nv F1 S.1.length g1 F2 S.2.length g2, .int .i64 0]) (by simp [results, Try.results35, go_sem, q0, q1]) rfl HE.out
end Go.Proofs.Yteekccjfokoglaa
