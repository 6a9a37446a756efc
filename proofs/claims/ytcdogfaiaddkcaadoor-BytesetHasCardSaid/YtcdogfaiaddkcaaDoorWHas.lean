import Derived.Test.YtcdogfaiaddkcaaDoorSets
namespace Go.Proofs.YtcdogfaiaddkcaaDoor
open Go.RowKit
set_option maxRecDepth 100000 in
set_option maxHeartbeats 4000000 in
theorem law_has (s : BS) (b : Int) (l0 : 0 ≤ b) (l1 : b ≤ 255) (w : World) (hT : Tab w) :
    Calls Tryd.prog 4 #[st s, .int .u8 b] w fun e w' => e = .returned (.bool true) ∧ Below w.heap.size w w' := by
  obtain ⟨w0, hw0⟩ : ∃ w0, w0 = w.alloc (.cells #[.int .u64 (wd 0 s), .int .u64 (wd 1 s), .int .u64 (wd 2 s), .int .u64 (wd 3 s)] 24) := ⟨_, rfl⟩
  have hS : In1 w0 w.heap.size s w0 := ⟨Below.refl _ _, by rw [hw0]; exact (Row4.new w s).c4⟩
  have hB : Below w.heap.size w w0 := by rw [hw0]; exact (Below.refl _ _).alloc (Nat.le_refl _) _
  have HT := Lib.hid (hT.below hB hT.1)
  have HB := Lib.hid hB
  have Hw := Lib.hid hw0
  clear hT hB hw0
  unfold st
  go_enter Tryd.func4, Tryd.ntmps4
  go_wp2_with fail
  rw [← Hw.out]
  cases hb : s.getLsbD b.toNat
  all_goals
    have Hb := Lib.hid hb
    clear hb
    go_region_held3 (fun w' => In1 w0 w.heap.size s w') (first | exact In1.keep hS ((Below.refl _ _).drew) | exact In1.keep (by assumption) (by assumption))
      (first | (go_at_call 15; refine (has_any s b l0 l1 _).mono ?_; rw [Hb.out]; rintro e w' ⟨rfl, hbN⟩) | (go_at_call 16; refine (refhas_any s b l0 l1 _).mono ?_; rw [Hb.out]; rintro e w' ⟨rfl, hbN⟩) | (go_at_call 14; refine (awake_any _ (tab1 HT.out (by assumption))).mono ?_; rintro e w' ⟨rfl, hbN⟩))
    go_wp2_with fail
    go_ret
    exact ⟨rfl, from1 HB.out (by assumption)⟩
end Go.Proofs.YtcdogfaiaddkcaaDoor
