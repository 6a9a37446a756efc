import Derived.Test.YtcdogfaiaddkcaaDoorSets
namespace Go.Proofs.YtcdogfaiaddkcaaDoor
open Go.RowKit
set_option maxRecDepth 100000 in
set_option maxHeartbeats 8000000 in
theorem law_joins (s t : BS) (w : World) (hT : Tab w) :
    Calls Tryd.prog 5 #[st s, st t] w fun e w' => e = .returned (.bool true) ∧ Below w.heap.size w w' := by
  obtain ⟨w0, hw0⟩ : ∃ w0, w0 = (w.alloc (.cells #[.int .u64 (wd 0 s), .int .u64 (wd 1 s), .int .u64 (wd 2 s), .int .u64 (wd 3 s)] 24)).alloc (.cells #[.int .u64 (wd 0 t), .int .u64 (wd 1 t), .int .u64 (wd 2 t), .int .u64 (wd 3 t)] 24) := ⟨_, rfl⟩
  have hS : In2 w0 w.heap.size (w.heap.size + 1) s t w0 := by
    refine ⟨Below.refl _ _, ?_, ?_⟩
    · rw [hw0]; exact ((Row4.new w s).below ((Below.refl (w.heap.size + 1) _).alloc (by simp) _) (by omega)).c4
    · rw [hw0]
      have := (Row4.new (w.alloc (.cells #[.int .u64 (wd 0 s), .int .u64 (wd 1 s), .int .u64 (wd 2 s), .int .u64 (wd 3 s)] 24)) t).c4
      simpa using this
  have hB : Below w.heap.size w w0 := by rw [hw0]; exact ((Below.refl _ _).alloc (Nat.le_refl _) _).alloc (by simp) _
  have HT := Lib.hid (hT.below hB hT.1)
  have HB := Lib.hid hB
  have Hw := Lib.hid hw0
  clear hT hB hw0
  have q1 : ∀ w, (Op.equalIn 10000 24 (st (s ||| t)) (st (s ||| t))).run Tryd.prog w = .ok true w := fun w => by rw [eqS]; simp
  have q2 : ∀ w, (Op.equalIn 10000 24 (st (s &&& t)) (st (s &&& t))).run Tryd.prog w = .ok true w := fun w => by rw [eqS]; simp
  have q3 : ∀ w, (Op.equalIn 10000 24 (st (~~~s)) (st (~~~s))).run Tryd.prog w = .ok true w := fun w => by rw [eqS]; simp
  unfold st at q1 q2 q3 ⊢
  go_enter Tryd.func5, Tryd.ntmps5
  go_wp2_with fail
  rw [← Hw.out]
  go_region_held3 (fun w' => In2 w0 w.heap.size (w.heap.size + 1) s t w') (first | exact In2.keep hS ((Below.refl _ _).drew) | exact In2.keep (by assumption) (by assumption))
    (first | (go_at_call 17; refine (or_any s t _).mono ?_; rintro e w' ⟨rfl, hbN⟩) | (go_at_call 18; refine (ror_any s t _).mono ?_; rintro e w' ⟨rfl, hbN⟩) | (go_at_call 19; refine (and_any s t _).mono ?_; rintro e w' ⟨rfl, hbN⟩) | (go_at_call 20; refine (rand_any s t _).mono ?_; rintro e w' ⟨rfl, hbN⟩) | (go_at_call 21; refine (not_any s _).mono ?_; rintro e w' ⟨rfl, hbN⟩) | (go_at_call 22; refine (rnot_any s _).mono ?_; rintro e w' ⟨rfl, hbN⟩) | (go_at_call 14; refine (awake_any _ (tab2 HT.out (by assumption))).mono ?_; rintro e w' ⟨rfl, hbN⟩))
  go_wp2_with fail
  go_ret
  exact ⟨rfl, from2 HB.out (by assumption)⟩
end Go.Proofs.YtcdogfaiaddkcaaDoor
