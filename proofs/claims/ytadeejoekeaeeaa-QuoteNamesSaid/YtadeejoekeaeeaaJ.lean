/-
  The chapter's examples hold: 'alive' of the statements returns true. No condition.
-/
import Derived.Test.YtadeejoekeaeeaaI
namespace Go.Proofs.Ytadeejoekeaeeaa
open Go.RowKit
set_option linter.unusedSimpArgs false
set_option linter.unusedVariables false
theorem blk_keep {w w1 : World} {g : Nat} {o : Obj} (h : w.heap[g]? = some o) (hb : Below w.heap.size w w1) : w1.heap[g]? = some o := by
  rw [hb.block _ (Array.getElem?_eq_some_iff.1 h).1]; exact h
theorem blk_alloc {w : World} {g : Nat} {o : Obj} (h : w.heap[g]? = some o) (p : Obj) : (w.alloc p).heap[g]? = some o :=
  blk_keep h ((Below.refl _ _).alloc (Nat.le_refl _) _)
theorem fcells {w : World} {g : Nat} {a b : Int} (h : w.heap[g]? = some (.cells #[.int .i64 a, .int .i64 b] 27 (0, 0))) : g < w.heap.size ∧ w.cell? ⟨g, 0, none⟩ = some (.int .i64 a) ∧ w.cell? ⟨g, 1, none⟩ = some (.int .i64 b) :=
  ⟨(Array.getElem?_eq_some_iff.1 h).1, by rw [Lib.cell_of_heap h]; rfl, by rw [Lib.cell_of_heap h]; rfl⟩
theorem label_ex1 (w : World) : Calls Try.prog 21 #[.string ⟨#[97, 45, 98]⟩] w fun e w' => e = .returned (.string ⟨#[34, 97, 45, 98, 34]⟩) ∧ Below w.heap.size w w' :=
  label_at _ _ (by decide) (by unfold labelV; rw [ex6.1, if_neg (by simp)]; show (⟨(quoteL [97, 45, 98]).toArray⟩ : ByteArray) = _; rw [ex6.2]) w
theorem label_ex2 (w : World) : Calls Try.prog 21 #[.string ⟨#[95, 120, 49]⟩] w fun e w' => e = .returned (.string ⟨#[95, 120, 49]⟩) ∧ Below w.heap.size w w' :=
  label_at _ _ (by decide) (by unfold labelV; rw [ex7, if_pos rfl]) w
theorem label_ex3 (w : World) : Calls Try.prog 21 #[.string ⟨#[105, 110, 116]⟩] w fun e w' => e = .returned (.string ⟨#[34, 105, 110, 116, 34]⟩) ∧ Below w.heap.size w w' :=
  label_at _ _ (by decide) (by unfold labelV; rw [ex8.1, if_neg (by simp)]; show (⟨(quoteL [105, 110, 116]).toArray⟩ : ByteArray) = _; rw [ex8.2]) w
set_option maxRecDepth 100000 in
set_option maxHeartbeats 4000000 in
theorem alive_any (w : World) : Calls Try.prog 12 #[] w fun e w' => e = .returned (.bool true) ∧ Below w.heap.size w w' := by
  have q0 : ∀ w, (Op.equalIn 10000 27 (.agg #[.int .i64 0, .int .i64 0]) (.agg #[.int .i64 0, .int .i64 0])).run Try.prog w = .ok true w := fun w => by rw [eqF]; simp
  have q8 : ∀ w, (Op.equalIn 10000 27 (.agg #[.int .i64 8, .int .i64 0]) (.agg #[.int .i64 8, .int .i64 0])).run Try.prog w = .ok true w := fun w => by rw [eqF]; simp
  go_enter Try.func12, Try.ntmps12
  go_wp2_with fail
  refine (unquote_at A1 ⟨#[97, 10, 34, 74]⟩ 0 0 ex1 _).mono ?_
  rintro e w1 ⟨rfl, hb1⟩
  have B1 := hb1.alloc hb1.size (.cells #[.int .i64 0, .int .i64 0] 27)
  have F1 := World.alloc_heap_new w1 (.cells #[.int .i64 0, .int .i64 0] 27)
  clear hb1
  go_wp2_with fail
  refine (unlabel_at ⟨#[95, 120, 49]⟩ ⟨#[95, 120, 49]⟩ 0 0 ex2 _).mono ?_
  rintro e w2 ⟨rfl, hb2⟩
  have B2 := (B1.trans (hb2.mono B1.size)).alloc (Nat.le_trans B1.size hb2.size) (.cells #[.int .i64 0, .int .i64 0] 27)
  replace F1 := blk_alloc (blk_keep F1 hb2) (.cells #[.int .i64 0, .int .i64 0] 27)
  have F2 := World.alloc_heap_new w2 (.cells #[.int .i64 0, .int .i64 0] 27)
  clear hb2 B1
  go_wp2_with fail
  refine (unlabel_at ⟨#[49, 97]⟩ ⟨#[]⟩ 8 0 ex3 _).mono ?_
  rintro e w3 ⟨rfl, hb3⟩
  have B3 := (B2.trans (hb3.mono B2.size)).alloc (Nat.le_trans B2.size hb3.size) (.cells #[.int .i64 8, .int .i64 0] 27)
  replace F1 := blk_alloc (blk_keep F1 hb3) (.cells #[.int .i64 8, .int .i64 0] 27)
  replace F2 := blk_alloc (blk_keep F2 hb3) (.cells #[.int .i64 8, .int .i64 0] 27)
  have F3 := World.alloc_heap_new w3 (.cells #[.int .i64 8, .int .i64 0] 27)
  clear hb3 B2
  go_wp2_with fail
  refine (quote_at ⟨#[97, 10, 34]⟩ ⟨#[34, 97, 92, 110, 92, 34, 34]⟩ (by decide) ex4 _).mono ?_
  rintro e w4 ⟨rfl, hb4⟩
  have B4 := B3.trans (hb4.mono B3.size)
  replace F1 := blk_keep F1 hb4
  replace F2 := blk_keep F2 hb4
  replace F3 := blk_keep F3 hb4
  clear hb4 B3
  go_wp2_with fail
  refine (quote_at ⟨#[0, 255]⟩ ⟨#[34, 92, 120, 48, 48, 92, 120, 102, 102, 34]⟩ (by decide) ex5 _).mono ?_
  rintro e w5 ⟨rfl, hb5⟩
  have B5 := B4.trans (hb5.mono B4.size)
  replace F1 := blk_keep F1 hb5
  replace F2 := blk_keep F2 hb5
  replace F3 := blk_keep F3 hb5
  clear hb5 B4
  obtain ⟨z1, c1, d1⟩ := fcells F1
  obtain ⟨z2, c2, d2⟩ := fcells F2
  obtain ⟨z3, c3, d3⟩ := fcells F3
  clear F1 F2 F3
  go_wp2_with fail
  clear z1 c1 d1 z2 c2 d2 z3 c3 d3 q0 q8
  refine (label_ex1 _).mono ?_
  rintro e w6 ⟨rfl, hb6⟩
  have B6 := B5.trans (hb6.mono B5.size)
  clear hb6 B5
  go_wp2_with fail
  refine (label_ex2 _).mono ?_
  rintro e w7 ⟨rfl, hb7⟩
  have B7 := B6.trans (hb7.mono B6.size)
  clear hb7 B6
  go_wp2_with fail
  refine (label_ex3 _).mono ?_
  rintro e w8 ⟨rfl, hb8⟩
  have B8 := B7.trans (hb8.mono B7.size)
  clear hb8 B7
  go_wp2_with fail
  refine (fails_true ⟨#[34, 97, 92, 113, 34]⟩ 2 ex9 _).mono ?_
  rintro e w9 ⟨rfl, hb9⟩
  have B9 := B8.trans (hb9.mono B8.size)
  clear hb9 B8
  go_wp2_with fail
  refine (fails_true ⟨#[34, 97, 34, 98]⟩ 3 ex10 _).mono ?_
  rintro e w10 ⟨rfl, hb10⟩
  have B10 := B9.trans (hb10.mono B9.size)
  clear hb10 B9
  go_wp2_with fail
  refine (fails_true ⟨#[34, 97]⟩ 2 ex11 _).mono ?_
  rintro e w11 ⟨rfl, hb11⟩
  have B11 := B10.trans (hb11.mono B10.size)
  clear hb11 B10
  go_wp2_with fail
  refine (fails_true ⟨#[97]⟩ 0 ex12 _).mono ?_
  rintro e w12 ⟨rfl, hb12⟩
  have B12 := B11.trans (hb12.mono B11.size)
  clear hb12 B11
  go_wp2_with fail
  refine (ident_at ⟨#[35, 97, 95, 49]⟩ true ex13.1 _).mono ?_
  rintro e wx ⟨rfl, rfl⟩
  go_wp2_with fail
  refine (ident_at ⟨#[95]⟩ false ex13.2.1 _).mono ?_
  rintro e wx ⟨rfl, rfl⟩
  go_wp2_with fail
  refine (ident_at ⟨#[95, 95, 97]⟩ false ex13.2.2 _).mono ?_
  rintro e wx ⟨rfl, rfl⟩
  go_wp2_with fail
  go_ret
  exact ⟨rfl, B12⟩
end Go.Proofs.Ytadeejoekeaeeaa
