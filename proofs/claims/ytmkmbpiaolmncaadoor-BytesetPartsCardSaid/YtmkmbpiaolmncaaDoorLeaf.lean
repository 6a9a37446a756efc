/-
  THE WALKS of the small functions of sets of bytes.
-/
import Derived.Test.YtmkmbpiaolmncaaDoorProg
import Derived.Test.YtmkmbpiaolmncaaDoorMath
import Derived.WalkKit
import Derived.WalkSpells
import Derived.WalkLawsBesides
namespace Go.Proofs.YtmkmbpiaolmncaaDoor
open Go.RowKit

abbrev st (s : BS) : Value := .agg #[.int .u64 (wd 0 s), .int .u64 (wd 1 s), .int .u64 (wd 2 s), .int .u64 (wd 3 s)]

set_option maxHeartbeats 1000000 in
theorem or_any (a b : BS) (w : World) :
    Calls Tryd.prog 17 #[st a, st b] w fun e w' => e = .returned (st (a ||| b)) ∧ Below w.heap.size w w' := by
  unfold st
  go_enter Tryd.func17, Tryd.ntmps17
  go_wp2
  refine wp_loop_rounds 5 ?_
  rw [rounds_succ]; go_wp2; go_region; go_wp2
  rw [rounds_succ]; go_wp2; go_region; go_wp2
  rw [rounds_succ]; go_wp2; go_region; go_wp2
  rw [rounds_succ]; go_wp2; go_region; go_wp2
  rw [rounds_succ]; go_wp2
  simp only [wd_or]
  refine bodyPost_ret (v := st (a ||| b)) (by simp [results, Tryd.results17, go_sem]) rfl ⟨rfl, ?_⟩
  exact (((((((Below.refl _ _).alloc (Nat.le_refl _) _).alloc (by simp) _).alloc (by simp; omega) _).drew).drew).drew).drew

set_option maxHeartbeats 1000000 in
theorem and_any (a b : BS) (w : World) :
    Calls Tryd.prog 19 #[st a, st b] w fun e w' => e = .returned (st (a &&& b)) ∧ Below w.heap.size w w' := by
  unfold st
  go_enter Tryd.func19, Tryd.ntmps19
  go_wp2
  refine wp_loop_rounds 5 ?_
  rw [rounds_succ]; go_wp2; go_region; go_wp2
  rw [rounds_succ]; go_wp2; go_region; go_wp2
  rw [rounds_succ]; go_wp2; go_region; go_wp2
  rw [rounds_succ]; go_wp2; go_region; go_wp2
  rw [rounds_succ]; go_wp2
  simp only [wd_and]
  refine bodyPost_ret (v := st (a &&& b)) (by simp [results, Tryd.results19, go_sem]) rfl ⟨rfl, ?_⟩
  exact (((((((Below.refl _ _).alloc (Nat.le_refl _) _).alloc (by simp) _).alloc (by simp; omega) _).drew).drew).drew).drew

set_option maxHeartbeats 1000000 in
theorem not_any (a : BS) (w : World) :
    Calls Tryd.prog 21 #[st a] w fun e w' => e = .returned (st (~~~a)) ∧ Below w.heap.size w w' := by
  unfold st
  go_enter Tryd.func21, Tryd.ntmps21
  go_wp2
  refine wp_loop_rounds 5 ?_
  repeat any_goals (rw [rounds_succ]; go_wp2)
  rw [wd_not 0 (by omega), wd_not 1 (by omega), wd_not 2 (by omega), wd_not 3 (by omega)]
  refine bodyPost_ret (v := st (~~~a)) (by simp [results, Tryd.results21, go_sem]) rfl ⟨rfl, ?_⟩
  exact ((Below.refl _ _).alloc (Nat.le_refl _) _).alloc (by simp) _

theorem lo4 (s : BS) : 0 ≤ wd 0 s ∧ 0 ≤ wd 1 s ∧ 0 ≤ wd 2 s ∧ 0 ≤ wd 3 s := ⟨wd_lo _ _, wd_lo _ _, wd_lo _ _, wd_lo _ _⟩

theorem ret_bool {a b : Bool} (h : a = b) : Ending.returned (.bool a) = .returned (.bool b) := by rw [h]
theorem ret_int {k : IntKind} {a b : Int} (h : a = b) : Ending.returned (.int k a) = .returned (.int k b) := by rw [h]

set_option maxHeartbeats 1000000 in
theorem has_any (s : BS) (b : Int) (h0 : 0 ≤ b) (h1 : b ≤ 255) (w : World) :
    Calls Tryd.prog 15 #[st s, .int .u8 b] w fun e w' => e = .returned (.bool (s.getLsbD b.toNat)) ∧ Below w.heap.size w w' := by
  unfold st
  obtain ⟨l0, l1, l2, l3⟩ := lo4 s
  have hq4 : b / 64 = 0 ∨ b / 64 = 1 ∨ b / 64 = 2 ∨ b / 64 = 3 := by omega
  rcases hq4 with hq | hq | hq | hq
  all_goals
    go_enter Tryd.func15, Tryd.ntmps15
    go_wp2
    go_ret
    exact ⟨ret_bool (bit_at _ _ _ _ (by omega) (by omega)), (Below.refl _ _).alloc (Nat.le_refl _) _⟩

set_option maxHeartbeats 1000000 in
/-- the reference's membership, of any number -/
theorem rhas_in (s : BS) (b : Int) (h0 : 0 ≤ b) (h1 : b < 256) (w : World) :
    Calls Tryd.prog 33 #[st s, .int .i64 b] w fun e w' => e = .returned (.bool (s.getLsbD b.toNat)) ∧ Below w.heap.size w w' := by
  unfold st
  obtain ⟨l0, l1, l2, l3⟩ := lo4 s
  have hq4 : b / 64 = 0 ∨ b / 64 = 1 ∨ b / 64 = 2 ∨ b / 64 = 3 := by omega
  rcases hq4 with hq | hq | hq | hq
  all_goals
    go_enter Tryd.func33, Tryd.ntmps33
    go_wp2
    go_ret
    exact ⟨ret_bool (rbit_at _ _ _ _ (by omega) (by omega)), (Below.refl _ _).alloc (Nat.le_refl _) _⟩

set_option maxHeartbeats 1000000 in
theorem rhas_out (s : BS) (b : Int) (h0 : b < 0 ∨ 256 ≤ b) (w : World) :
    Calls Tryd.prog 33 #[st s, .int .i64 b] w fun e w' => e = .returned (.bool false) ∧ Below w.heap.size w w' := by
  unfold st
  rcases h0 with h | h
  · have h' : ¬ 0 ≤ b := by omega
    go_enter Tryd.func33, Tryd.ntmps33
    go_wp2
    go_ret
    exact ⟨rfl, (Below.refl _ _).alloc (Nat.le_refl _) _⟩
  · have h' : ¬ b < 256 := by omega
    have h2 : 0 ≤ b := by omega
    go_enter Tryd.func33, Tryd.ntmps33
    go_wp2
    go_ret
    exact ⟨rfl, (Below.refl _ _).alloc (Nat.le_refl _) _⟩

set_option maxHeartbeats 1000000 in
theorem with_any (s : BS) (b : Int) (h0 : 0 ≤ b) (h1 : b ≤ 255) (w : World) :
    Calls Tryd.prog 32 #[st s, .int .i64 b] w fun e w' => e = .returned (st (wth s b.toNat)) ∧ Below w.heap.size w w' := by
  have e0 := wd_withI 0 (by omega) s b h0
  have e1 := wd_withI 1 (by omega) s b h0
  have e2 := wd_withI 2 (by omega) s b h0
  have e3 := wd_withI 3 (by omega) s b h0
  have E : st (wth s b.toNat) = .agg #[.int .u64 (wd 0 (wth s b.toNat)), .int .u64 (wd 1 (wth s b.toNat)), .int .u64 (wd 2 (wth s b.toNat)), .int .u64 (wd 3 (wth s b.toNat))] := rfl
  have hq4 : b / 64 = 0 ∨ b / 64 = 1 ∨ b / 64 = 2 ∨ b / 64 = 3 := by omega
  rcases hq4 with hq | hq | hq | hq
  all_goals
    rw [hq] at e0 e1 e2 e3
    simp at e0 e1 e2 e3
    rw [e0, e1, e2, e3] at E
    rw [E]
    clear e0 e1 e2 e3 E
    unfold st
    go_enter Tryd.func32, Tryd.ntmps32
    go_wp2
    refine bodyPost_ret (v := _) (by simp [results, Tryd.results32, go_sem]) rfl ⟨rfl, ?_⟩
    exact (((Below.refl _ _).alloc (Nat.le_refl _) _).alloc (by simp) _).alloc (by simp; omega) _

end Go.Proofs.YtmkmbpiaolmncaaDoor
