/-
  trim and without: a span within its axis. No condition but that the ends are 64-bit integers.
-/
import Derived.Test.YteekccjfokoglaaA
import Derived.Shelf.SlSortCmp.QuietGrown
namespace Go.Proofs.Yteekccjfokoglaa
open Go.RowKit Go.Sort
set_option linter.unusedSimpArgs false
set_option linter.unnecessarySimpa false
set_option linter.unusedVariables false
theorem below_grow (w : World) (os : Array Obj) (B : Nat) (h : B ≤ w.heap.size) : Below B w (grow w os) :=
  ⟨rfl, rfl, rfl, by simp [grow], fun k hk => by simp [grow, Array.getElem?_append, Nat.lt_of_lt_of_le hk h]⟩
theorem grow3 (w : World) (a b c : Obj) : ∃ os, ((w.alloc a).alloc b).alloc c = grow w os := ⟨_, by rw [alloc_eq_grow, alloc_eq_grow, alloc_eq_grow, grow_grow, grow_grow]⟩
theorem grow4 (w : World) (a b c d : Obj) : ∃ os, (((w.alloc a).alloc b).alloc c).alloc d = grow w os := ⟨_, by rw [alloc_eq_grow, alloc_eq_grow, alloc_eq_grow, alloc_eq_grow, grow_grow, grow_grow, grow_grow]⟩
theorem wb {x : Int} {r : Bool} (h : i64ok x) (e : whl x = r) (w : World) : Calls Try.prog 59 #[.int .i64 x] w fun e w' => e = .returned (.bool r) ∧ w = w' := by rw [← e]; exact whole_any x w h
set_option maxHeartbeats 1000000 in
theorem trim_f (x y : Int) (w : World) (h1 : i64ok x) (h2 : i64ok y) :
    Calls Try.prog 75 #[axv false, .agg #[.int .i64 x, .int .i64 y]] w fun e w' => e = .returned (.agg #[.int .i64 (loT false x), .int .i64 (hiT false y)]) ∧ ∃ os, w' = grow w os := by
  obtain ⟨a1, a2⟩ := h1
  obtain ⟨a3, a4⟩ := h2
  by_cases c1 : x < -100000000000 <;> by_cases c2 : y ≤ 100000000000 <;> (
    have e1 : loT false x = if x < -100000000000 then -100000000000 else x := by rw [loT_f]; split <;> omega
    have e2 : hiT false y = if y ≤ 100000000000 then y else 100000000000 := by rw [hiT_f]; split <;> omega
    simp only [c1, c2, if_true, if_false] at e1 e2
    rw [e1, e2]
    clear e1 e2
    have el : lim false = 100000000000 := rfl
    go_enter Try.func75, Try.ntmps75
    go_wp2
    refine bodyPost_ret (v := .agg #[.int .i64 _, .int .i64 _]) (by simp [results, Try.results75, go_sem, lim]) rfl ⟨rfl, ?_⟩
    exact grow3 _ _ _ _)
def loV (x m : Int) (r : Bool) : Prop := i64ok m ∧ whl m = r ∧ loT true x = (if r = true then m + 1 else m) ∧ ((x < -1000000000000000 ∧ m = -1000000000000000) ∨ (-1000000000000000 ≤ x ∧ m = x))
set_option maxHeartbeats 4000000 in
theorem trim_t (x y : Int) (w : World) (h1 : i64ok x) (h2 : i64ok y) :
    Calls Try.prog 75 #[axv true, .agg #[.int .i64 x, .int .i64 y]] w fun e w' => e = .returned (.agg #[.int .i64 (loT true x), .int .i64 (hiT true y)]) ∧ ∃ os, w' = grow w os := by
  have ex := loT_t x
  have ey := hiT_t y
  have k1 : whl (-1000000000000000) = true := by decide
  have k2 : whl 1000000000000000 = true := by decide
  have o1 : i64ok (-1000000000000000) := by unfold i64ok; omega
  have o2 : i64ok 1000000000000000 := by unfold i64ok; omega
  obtain ⟨a1, a2⟩ := h1
  obtain ⟨a3, a4⟩ := h2
  have X : (x < -1000000000000000 ∧ loT true x = -999999999999999) ∨ (-1000000000000000 ≤ x ∧ whl x = true ∧ loT true x = x + 1 ∧ x ≤ 1000000000000000) ∨ (-1000000000000000 ≤ x ∧ whl x = false ∧ loT true x = x) := by
    by_cases c : x < -1000000000000000
    · rw [show max x (-1000000000000000) = -1000000000000000 by omega] at ex
      rcases ex with ⟨_, e⟩ | ⟨e, _⟩
      · exact .inl ⟨c, by omega⟩
      · rw [k1] at e; exact absurd e (by simp)
    · rw [show max x (-1000000000000000) = x by omega] at ex
      rcases ex with ⟨h, e⟩ | ⟨h, e⟩
      · exact .inr (.inl ⟨by omega, h, e, ((whl_iff x).1 h).2.1⟩)
      · exact .inr (.inr ⟨by omega, h, e⟩)
  have Y : (1000000000000000 < y ∧ hiT true y = 999999999999999) ∨ (y ≤ 1000000000000000 ∧ whl y = true ∧ hiT true y = y - 1 ∧ -1000000000000000 ≤ y) ∨ (y ≤ 1000000000000000 ∧ whl y = false ∧ hiT true y = y) := by
    by_cases c : 1000000000000000 < y
    · rw [show min y 1000000000000000 = 1000000000000000 by omega] at ey
      rcases ey with ⟨_, e⟩ | ⟨e, _⟩
      · exact .inl ⟨c, by omega⟩
      · rw [k2] at e; exact absurd e (by simp)
    · rw [show min y 1000000000000000 = y by omega] at ey
      rcases ey with ⟨h, e⟩ | ⟨h, e⟩
      · exact .inr (.inl ⟨by omega, h, e, ((whl_iff y).1 h).1⟩)
      · exact .inr (.inr ⟨by omega, h, e⟩)
  clear ex ey
  rcases X with ⟨b1, e1⟩ | ⟨b1, b2, e1, b5⟩ | ⟨b1, b2, e1⟩ <;> rcases Y with ⟨b3, e2⟩ | ⟨b3, b4, e2, b6⟩ | ⟨b3, b4, e2⟩ <;> (
    rw [e1, e2]
    clear e1 e2
    try have CX := Lib.hid (wb ⟨a1, a2⟩ b2)
    try have CY := Lib.hid (wb ⟨a3, a4⟩ b4)
    have C1 := Lib.hid (wb o1 k1)
    have C2 := Lib.hid (wb o2 k2)
    clear k1 k2 o1 o2
    try clear b2
    try clear b4
    have el : lim true = 1000000000000000 := rfl
    go_enter Try.func75, Try.ntmps75
    go_wp2_with (first | (go_at_call 59; with_reducible refine (CX.out _).mono ?_; rintro e w' ⟨rfl, rfl⟩) | (go_at_call 59; with_reducible refine (CY.out _).mono ?_; rintro e w' ⟨rfl, rfl⟩) | (go_at_call 59; with_reducible refine (C1.out _).mono ?_; rintro e w' ⟨rfl, rfl⟩) | (go_at_call 59; with_reducible refine (C2.out _).mono ?_; rintro e w' ⟨rfl, rfl⟩))
    refine bodyPost_ret (v := .agg #[.int .i64 _, .int .i64 _]) (by simp [results, Try.results75, go_sem, lim]) rfl ⟨rfl, ?_⟩
    exact grow3 _ _ _ _)
theorem trim_any (b : Bool) (x y : Int) (w : World) (h1 : i64ok x) (h2 : i64ok y) :
    Calls Try.prog 75 #[axv b, .agg #[.int .i64 x, .int .i64 y]] w fun e w' => e = .returned (.agg #[.int .i64 (loT b x), .int .i64 (hiT b y)]) ∧ ∃ os, w' = grow w os := by
  cases b
  · exact trim_f x y w h1 h2
  · exact trim_t x y w h1 h2
theorem lt_ok {b : Bool} {x : Int} (h : i64ok x) : i64ok (loT b x) ∧ i64ok (hiT b x) := by
  have h1 := lo_ge b x
  have h2 := hi_le b x
  unfold i64ok at *
  cases b
  · rw [loT_f, hiT_f]; simp only [lim] at *; omega
  · simp only [lim] at *
    rcases loT_t x with ⟨h3, e⟩ | ⟨h3, e⟩ <;> rcases hiT_t x with ⟨h4, e'⟩ | ⟨h4, e'⟩
    all_goals
      try have := (whl_iff _).1 h3
      try have := (whl_iff _).1 h4
      omega
set_option maxHeartbeats 1000000 in
theorem without_any (b : Bool) (x y : Int) (w : World) (h1 : i64ok x) (h2 : i64ok y) :
    Calls Try.prog 74 #[axv b, .agg #[.int .i64 x, .int .i64 y]] w fun e w' => e = .returned (.bool (wo b (x, y))) ∧ ∃ os, w' = grow w os := by
  have H := Lib.hid (fun W => trim_any b x y W h1 h2)
  have e0 : wo b (x, y) = decide (hiT b y < loT b x) := rfl
  rw [e0]
  clear e0 h1 h2
  generalize loT b x = l at *
  generalize hiT b y = h at *
  by_cases hlt : h < l <;> (
    go_enter Try.func74, Try.ntmps74
    go_wp2_with (go_at_call 75; with_reducible refine (H.out _).mono ?_; rintro e w' ⟨rfl, os, rfl⟩)
    go_wp2
    go_ret
    refine ⟨ret_bool (by simp [hlt]), ?_⟩
    rw [alloc_eq_grow, alloc_eq_grow, grow_grow, grow_grow, alloc_eq_grow, grow_grow]
    exact ⟨_, rfl⟩)
end Go.Proofs.Yteekccjfokoglaa
