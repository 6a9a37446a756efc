/-
  The sort of Partition: a permutation, by the least bytes. Condition: the table deBruijn64tab.
-/
import Derived.Test.YtmkmbpiaolmncaaDoorLe2
namespace Go.Proofs.YtmkmbpiaolmncaaDoor
open Go.RowKit Go.Sort Go.Lib Go.Shelf Go.Proofs
set_option linter.unusedSimpArgs false
set_option linter.unnecessarySimpa false
set_option linter.unusedVariables false
theorem ltC (x y : BS) : ltOf (fun a b : BS => cmpN (lst a) (lst b)) x y = decide (lst x < lst y) := by
  unfold ltOf cmpN
  by_cases h1 : lst x < lst y
  · simp [h1]
  · by_cases h2 : lst y < lst x <;> simp [h1, h2]
theorem swoC : SWO (ltOf fun a b : BS => cmpN (lst a) (lst b)) where
  irrefl x := by rw [ltC]; simp
  trans x y z h1 h2 := by rw [ltC] at *; simp at *; omega
  ntrans x y z h1 h2 := by rw [ltC] at *; simp at *; omega
set_option maxRecDepth 100000 in
set_option maxHeartbeats 2000000 in
theorem closure38 (a b : BS) (W : World) (hT : Tab W) : Calls Tryd.prog 38 #[st a, st b] W fun e w' => e = .returned (.int .i64 (cmpN (lst a) (lst b))) ∧ ∃ q os', w' = grow (W.drewN q) os' := by
  have H1 := Lib.hid (fun w hT => least_x a w hT)
  have H2 := Lib.hid (fun w hT => least_x b w hT)
  have H3 := Lib.hid (fun w => cmpb_any (lst a) (lst b) w)
  have HT := Lib.hid hT
  have t1 : Tab ((W.alloc (.cells #[.int .u64 (wd 0 a), .int .u64 (wd 1 a), .int .u64 (wd 2 a), .int .u64 (wd 3 a)] 24)).alloc (.cells #[.int .u64 (wd 0 b), .int .u64 (wd 1 b), .int .u64 (wd 2 b), .int .u64 (wd 3 b)] 24)) :=
    hT.below (((Below.refl W.heap.size _).alloc (Nat.le_refl _) _).alloc (by simp) _) hT.1
  have HT1 := Lib.hid t1
  have t2 : Tab ((((W.alloc (.cells #[.int .u64 (wd 0 a), .int .u64 (wd 1 a), .int .u64 (wd 2 a), .int .u64 (wd 3 a)] 24)).alloc (.cells #[.int .u64 (wd 0 b), .int .u64 (wd 1 b), .int .u64 (wd 2 b), .int .u64 (wd 3 b)] 24))).alloc (.cells #[.int .u64 (wd 0 a), .int .u64 (wd 1 a), .int .u64 (wd 2 a), .int .u64 (wd 3 a)] 24)) :=
    t1.below ((Below.refl _ _).alloc (Nat.le_refl _) _) t1.1
  have HT2 := Lib.hid t2
  clear t1 t2 hT
  unfold st at *
  generalize cmpN (lst a) (lst b) = r at *
  generalize lst a = la at *
  generalize lst b = lb at *
  go_enter Tryd.func38, Tryd.ntmps38
  go_wp2_with fail
  refine (H1.out _ HT1.out).mono ?_
  rintro e w1 ⟨⟨k1, rfl⟩, rfl⟩
  go_wp2_with fail
  refine (H2.out _ HT2.out).mono ?_
  rintro e w1 ⟨⟨k2, rfl⟩, rfl⟩
  go_wp2_with fail
  refine (H3.out _).mono ?_
  rintro e w1 ⟨rfl, rfl⟩
  go_wp2_with fail
  go_ret
  exact ⟨rfl, 0, _, by rw [alloc_eq_grow, alloc_eq_grow, alloc_eq_grow, alloc_eq_grow, grow_grow, grow_grow, grow_grow]; rfl⟩
theorem agg24 : ∀ w, (isAgg 24).run Tryd.prog w = .ok true w := fun w => by first | rfl | kernel_rfl
theorem siz24 : ∀ w, (Go.sizeOf 24).run Tryd.prog w = .ok 4 w := fun w => by first | rfl | kernel_rfl
end Go.Proofs.YtmkmbpiaolmncaaDoor
