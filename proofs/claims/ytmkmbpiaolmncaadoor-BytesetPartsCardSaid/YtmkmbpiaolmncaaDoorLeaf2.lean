import Derived.Test.YtmkmbpiaolmncaaDoorLeaf
namespace Go.Proofs.YtmkmbpiaolmncaaDoor
open Go.RowKit

theorem ret_st {x0 x1 x2 x3 : Int} {s : BS} (h0 : x0 = wd 0 s) (h1 : x1 = wd 1 s) (h2 : x2 = wd 2 s) (h3 : x3 = wd 3 s) :
    Ending.returned (.agg #[.int .u64 x0, .int .u64 x1, .int .u64 x2, .int .u64 x3]) = .returned (st s) := by rw [h0, h1, h2, h3]

set_option maxHeartbeats 4000000 in
theorem below_any (n : Int) (h0 : 0 ≤ n) (h1 : n ≤ 256) (w : World) :
    Calls Tryd.prog 31 #[.int .i64 n] w fun e w' => e = .returned (st (blw n.toNat)) ∧ Below w.heap.size w w' := by
  go_enter Tryd.func31, Tryd.ntmps31
  go_wp2
  refine wp_loop_rounds 5 ?_
  rw [rounds_succ]; go_wp2
  all_goals (rw [rounds_succ]; go_wp2)
  all_goals (rw [rounds_succ]; go_wp2)
  all_goals (rw [rounds_succ]; go_wp2)
  all_goals (rw [rounds_succ]; go_wp2)
  all_goals
    refine bodyPost_ret (v := st (blw n.toNat)) ?_ rfl ⟨rfl, ((Below.refl _ _).alloc (Nat.le_refl _) _).alloc (by simp) _⟩
    simp [results, Tryd.results31, go_sem]
    refine ⟨?_, ?_, ?_, ?_⟩
    · first | exact bl_full 0 (by omega) (by omega) | exact bl_part 0 (by omega) (by omega) (by omega) (by omega) | exact bl_zero 0 (by omega) (by omega) | exact bl_one 0 (by omega) (by omega)
    · first | exact bl_full 1 (by omega) (by omega) | exact bl_part 1 (by omega) (by omega) (by omega) (by omega) | exact bl_zero 1 (by omega) (by omega) | exact bl_one 1 (by omega) (by omega)
    · first | exact bl_full 2 (by omega) (by omega) | exact bl_part 2 (by omega) (by omega) (by omega) (by omega) | exact bl_zero 2 (by omega) (by omega) | exact bl_one 2 (by omega) (by omega)
    · first | exact bl_full 3 (by omega) (by omega) | exact bl_part 3 (by omega) (by omega) (by omega) (by omega) | exact bl_zero 3 (by omega) (by omega) | exact bl_one 3 (by omega) (by omega)

/-- a block of four cells that the call itself laid, behind calls that only lay blocks -/
theorem blk4 {w w4 : World} {T : TypeId} {x0 x1 x2 x3 : Value} (hb : Below (w.heap.size + 1) (w.alloc (.cells #[x0, x1, x2, x3] T)) w4) :
    w.heap.size < w4.heap.size ∧ (w4.cell? ⟨w.heap.size, 0, none⟩ = some x0 ∧ w4.cell? ⟨w.heap.size, 1, none⟩ = some x1 ∧ w4.cell? ⟨w.heap.size, 2, none⟩ = some x2 ∧ w4.cell? ⟨w.heap.size, 3, none⟩ = some x3) ∧
    (w4.frozen? ⟨w.heap.size, 0, none⟩ = false ∧ w4.frozen? ⟨w.heap.size, 1, none⟩ = false ∧ w4.frozen? ⟨w.heap.size, 2, none⟩ = false ∧ w4.frozen? ⟨w.heap.size, 3, none⟩ = false) := by
  refine ⟨?_, ⟨?_, ?_, ?_, ?_⟩, ⟨?_, ?_, ?_, ?_⟩⟩
  · have := hb.size; simp at this; omega
  all_goals first
    | (rw [hb.cell (by simp)]; go_simp; done)
    | (rw [hb.frozen (by simp)]; go_simp; done)

set_option maxHeartbeats 1000000 in
theorem of_any (lo hi : Int) (l0 : 0 ≤ lo) (l1 : lo ≤ 255) (u0 : 0 ≤ hi) (u1 : hi ≤ 255) (w : World) :
    Calls Tryd.prog 12 #[.int .u8 lo, .int .u8 hi] w fun e w' => e = .returned (st (rgo lo.toNat hi.toNat)) ∧ Below w.heap.size w w' := by
  have hr : rgo lo.toNat hi.toNat = blw (hi + 1).toNat &&& ~~~(blw lo.toNat) := by unfold rgo; congr 2; omega
  rw [hr]
  clear hr
  go_enter Tryd.func12, Tryd.ntmps12
  go_wp2_with fail
  refine (below_any _ (by omega) (by omega) _).mono ?_
  rintro e w1 ⟨rfl, hb1⟩
  go_wp2_with fail
  refine (below_any _ (by omega) (by omega) _).mono ?_
  rintro e w2 ⟨rfl, hb2⟩
  go_wp2_with fail
  refine (not_any _ _).mono ?_
  rintro e w3 ⟨rfl, hb3⟩
  go_wp2_with fail
  refine (and_any _ _ _).mono ?_
  rintro e w4 ⟨rfl, hb4⟩
  have hb : Below (w.heap.size + 1) (w.alloc (.cells #[.int .u64 0, .int .u64 0, .int .u64 0, .int .u64 0] 24)) w4 := by
    have z1 := hb1.size
    have z2 := hb2.size
    have z3 := hb3.size
    simp at z1
    have h1 : Below (w.heap.size + 1) (w.alloc (.cells #[.int .u64 0, .int .u64 0, .int .u64 0, .int .u64 0] 24)) w1 := by simpa using hb1
    exact ((h1.trans (hb2.mono (by omega))).trans (hb3.mono (by omega))).trans (hb4.mono (by omega))
  obtain ⟨hz, ⟨c0, c1, c2, c3⟩, ⟨f0, f1, f2, f3⟩⟩ := blk4 hb
  clear hb1 hb2 hb3 hb4
  go_wp2_with fail
  refine bodyPost_ret (v := _) (by simp [results, Tryd.results12, go_sem, c0, c1, c2, c3, hz]) rfl ⟨rfl, ?_⟩
  exact (((((((Below.refl _ _).alloc (Nat.le_refl _) _).trans (hb.mono (by simp))).setCell (by simp) _).setCell (by simp) _).setCell (by simp) _).setCell (by simp) _)
end Go.Proofs.YtmkmbpiaolmncaaDoor
